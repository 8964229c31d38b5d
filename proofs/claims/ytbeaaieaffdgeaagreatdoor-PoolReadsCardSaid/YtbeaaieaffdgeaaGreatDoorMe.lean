/- Texts that belong together: CardH, CardJ, PoolA, CardI, CardK. -/
import Derived.Test.YtbeaaieaffdgeaaGreatDoorMd
import Derived.Test.YtbeaaieaffdgeaaGreatDoorMb
/- Cards, as their cells and what they read; isLong. -/
section
namespace Go.Proofs.YtbeaaieaffdgeaaGreatDoor
open Go.RowKit
set_option linter.unusedVariables false
set_option linter.unusedSimpArgs false

/-- A card's cells. -/
structure Cd where
  nm : ByteArray
  k : Int
  c0 : Int
  c1 : Int
  c2 : Int
  c3 : Int
  col : Int
  pow : Int
  tou : Int
  keys : Int
  aa : Option Addr
  an : Nat
  ac : Nat
def cdCells (y : Cd) : List Value := [.string y.nm, .int .i64 y.k, .int .i64 y.c0, .int .i64 y.c1, .int .i64 y.c2, .int .i64 y.c3, .int .i64 y.col, .int .i64 y.pow, .int .i64 y.tou, .int .i64 y.keys, .slice y.aa y.an y.ac]
/-- An ability, and what its Targets and Code read as. -/
abbrev AbT := Ab × List Int × List Ins
/-- The slice of address a and capacity c reads as these abilities. -/
def IsA (w : World) (a : Option Addr) (c : Nat) (A : List AbT) : Prop :=
  A.length ≤ c ∧ c ≤ 9223372036854775807 ∧ (∀ t ∈ A, AbR w t.1 t.2.1 t.2.2) ∧
  (A.length = 0 ∨ ∃ b off, a = some ⟨b, off, none⟩ ∧ b < w.heap.size ∧ ∀ j (h : j < A.length) i, i < 13 → w.cell? ⟨b, off + j * 13 + i, none⟩ = (abCells A[j].1)[i]?)
theorem IsA.next {w w' : World} {a : Option Addr} {c : Nat} {A : List AbT} (h : IsA w a c A) (k : Below w.heap.size w w') : IsA w' a c A := by
  obtain ⟨h1, h2, h0, h3⟩ := h
  refine ⟨h1, h2, fun t ht => (h0 t ht).next k, ?_⟩
  rcases h3 with h3 | ⟨b, off, h3, h4, h5⟩
  · exact .inl h3
  · exact .inr ⟨b, off, h3, Nat.lt_of_lt_of_le h4 k.size, fun j hj i hi => (k.cell (p := ⟨b, off + j * 13 + i, none⟩) h4).trans (h5 j hj i hi)⟩
theorem IsA.nil (w : World) : IsA w none 0 [] := ⟨by simp, by omega, (fun t ht => by cases ht), .inl rfl⟩
theorem IsA.at {w : World} {a : Option Addr} {c : Nat} {A : List AbT} (h : IsA w a c A) (k : Nat) (hk : k < A.length) : ∃ b off x T L, (x, T, L) = A[k] ∧ AbR w x T L ∧ a = some ⟨b, off, none⟩ ∧ b < w.heap.size ∧
    (w.cell? ⟨b, off + k * 13, none⟩ = some (.int .i64 x.k) ∧ w.cell? ⟨b, off + k * 13 + 1, none⟩ = some (.int .i64 x.ev) ∧ w.cell? ⟨b, off + k * 13 + 2, none⟩ = some (.int .i64 x.wh) ∧
    w.cell? ⟨b, off + k * 13 + 3, none⟩ = some (.int .i64 x.c0) ∧ w.cell? ⟨b, off + k * 13 + 4, none⟩ = some (.int .i64 x.c1) ∧ w.cell? ⟨b, off + k * 13 + 5, none⟩ = some (.int .i64 x.c2) ∧ w.cell? ⟨b, off + k * 13 + 6, none⟩ = some (.int .i64 x.c3) ∧
    w.cell? ⟨b, off + k * 13 + 7, none⟩ = some (.bool x.tap) ∧ w.cell? ⟨b, off + k * 13 + 8, none⟩ = some (.slice x.ta x.tn x.tc) ∧ w.cell? ⟨b, off + k * 13 + 9, none⟩ = some (.slice x.ca x.cn x.cc) ∧
    w.cell? ⟨b, off + k * 13 + 10, none⟩ = some (.int .i64 x.op) ∧ w.cell? ⟨b, off + k * 13 + 11, none⟩ = some (.int .i64 x.a) ∧ w.cell? ⟨b, off + k * 13 + 12, none⟩ = some (.int .i64 x.b)) := by
  obtain ⟨h1, h2, h0, h3 | ⟨b, off, h3, h4, h5⟩⟩ := h
  · omega
  · have h6 := h5 k hk
    exact ⟨b, off, A[k].1, A[k].2.1, A[k].2.2, rfl, h0 _ (List.getElem_mem hk), h3, h4, h6 0 (by omega), h6 1 (by omega), h6 2 (by omega), h6 3 (by omega), h6 4 (by omega), h6 5 (by omega), h6 6 (by omega), h6 7 (by omega), h6 8 (by omega), h6 9 (by omega), h6 10 (by omega), h6 11 (by omega), h6 12 (by omega)⟩
/-- What a card reads as. -/
def CdR (w : World) (y : Cd) (A : List AbT) : Prop := A.length = y.an ∧ IsA w y.aa y.ac A
theorem CdR.next {w w' : World} {y : Cd} {A : List AbT} (h : CdR w y A) (k : Below w.heap.size w w') : CdR w' y A := ⟨h.1, h.2.next k⟩
/-- Block b is this card. -/
def BoxC (w : World) (b : Nat) (y : Cd) : Prop := b < w.heap.size ∧ ∀ i, i < 11 → w.cell? ⟨b, i, none⟩ = (cdCells y)[i]?
theorem BoxC.next {w w' : World} {b : Nat} {y : Cd} (h : BoxC w b y) (k : Below w.heap.size w w') : BoxC w' b y :=
  ⟨Nat.lt_of_lt_of_le h.1 k.size, fun i hi => (k.cell (p := ⟨b, i, none⟩) h.1).trans (h.2 i hi)⟩
theorem boxC_new (w : World) (y : Cd) (T : TypeId) : BoxC (w.alloc (.cells #[.string y.nm, .int .i64 y.k, .int .i64 y.c0, .int .i64 y.c1, .int .i64 y.c2, .int .i64 y.c3, .int .i64 y.col, .int .i64 y.pow, .int .i64 y.tou, .int .i64 y.keys, .slice y.aa y.an y.ac] T)) w.heap.size y :=
  ⟨by simp, fun i hi => by rw [World.cell?_alloc_new]; simp [cdCells]⟩
theorem BoxC.cells {w : World} {b : Nat} {y : Cd} (h : BoxC w b y) : w.cell? ⟨b, 0, none⟩ = some (.string y.nm) ∧ w.cell? ⟨b, 1, none⟩ = some (.int .i64 y.k) ∧
    w.cell? ⟨b, 2, none⟩ = some (.int .i64 y.c0) ∧ w.cell? ⟨b, 3, none⟩ = some (.int .i64 y.c1) ∧ w.cell? ⟨b, 4, none⟩ = some (.int .i64 y.c2) ∧ w.cell? ⟨b, 5, none⟩ = some (.int .i64 y.c3) ∧
    w.cell? ⟨b, 6, none⟩ = some (.int .i64 y.col) ∧ w.cell? ⟨b, 7, none⟩ = some (.int .i64 y.pow) ∧ w.cell? ⟨b, 8, none⟩ = some (.int .i64 y.tou) ∧ w.cell? ⟨b, 9, none⟩ = some (.int .i64 y.keys) ∧ w.cell? ⟨b, 10, none⟩ = some (.slice y.aa y.an y.ac) :=
  ⟨h.2 0 (by omega), h.2 1 (by omega), h.2 2 (by omega), h.2 3 (by omega), h.2 4 (by omega), h.2 5 (by omega), h.2 6 (by omega), h.2 7 (by omega), h.2 8 (by omega), h.2 9 (by omega), h.2 10 (by omega)⟩
/-- Is something of an ability above a limit? -/
def longA (t : AbT) : Bool := decide (2 < t.1.tn) || decide (32 < t.1.cn)
/-- Is something of the card? -/
def longB (y : Cd) (A : List AbT) : Bool := A.any longA || (decide (16 < y.nm.size) || decide (4 < y.an))
set_option maxRecDepth 100000 in
set_option maxHeartbeats 4000000 in
theorem isLong_any (y : Cd) (A : List AbT) (r : Bool) (hr : longB y A = r) (w : World) (h : CdR w y A) (hs : y.nm.size ≤ maxLen) :
    Calls Tryz.prog 66 #[.agg #[.string y.nm, .int .i64 y.k, .int .i64 y.c0, .int .i64 y.c1, .int .i64 y.c2, .int .i64 y.c3, .int .i64 y.col, .int .i64 y.pow, .int .i64 y.tou, .int .i64 y.keys, .slice y.aa y.an y.ac]] w fun e w' => e = .returned (.bool r) ∧ Below w.heap.size w w' := by
  unfold maxLen at hs
  have HR := Lib.hid hr
  have hb := below_alloc1 w (.cells #[.string y.nm, .int .i64 y.k, .int .i64 y.c0, .int .i64 y.c1, .int .i64 y.c2, .int .i64 y.c3, .int .i64 y.col, .int .i64 y.pow, .int .i64 y.tou, .int .i64 y.keys, .slice y.aa y.an y.ac] 38)
  have HL := Lib.hid (h.next hb)
  have HX := Lib.hid (boxC_new w y 38)
  have hcap := h.2.1
  have hcm := h.2.2.1
  rw [h.1] at hcap
  have HB := Lib.hid hb
  have HN := Lib.hid h.1
  clear hr h hb
  go_enter Tryz.func66, Tryz.ntmps66
  go_wp2_with fail
  generalize w.alloc (.cells #[.string y.nm, .int .i64 y.k, .int .i64 y.c0, .int .i64 y.c1, .int .i64 y.c2, .int .i64 y.c3, .int .i64 y.col, .int .i64 y.pow, .int .i64 y.tou, .int .i64 y.keys, .slice y.aa y.an y.ac] 38) = W at *
  go_loopw [8] (fun q wr => ∃ k : Nat, q = .int .i64 (k : Int) ∧ k ≤ y.an ∧ (∀ j (h : j < A.length), j < k → longA A[j] = false) ∧ Below W.heap.size W wr) (fun q _ => y.an - (intOf q).toNat)
  case atStart => exact ⟨0, rfl, Nat.zero_le _, fun j _ hj => by omega, Below.refl _ _⟩
  case round =>
    obtain ⟨k, rfl, hk, hn, hbw⟩ := hrel
    have HT := Lib.hid hn
    have HW := Lib.hid hbw
    clear hn hbw
    by_cases hlt : k < y.an
    · obtain ⟨b, off, x, T, L, hx, _, hta, hbl, m0, m1, m2, m3, m4, m5, m6, m7, m8, m9, m10, m11, m12⟩ := (HL.out.2.next HW.out).at k (by rw [HN.out]; exact hlt)
      have HY := Lib.hid hx
      clear hx
      have HW2 := Lib.hid (HW.out.alloc HW.out.size (.cells #[.int .i64 x.k, .int .i64 x.ev, .int .i64 x.wh, .int .i64 x.c0, .int .i64 x.c1, .int .i64 x.c2, .int .i64 x.c3, .bool x.tap, .slice x.ta x.tn x.tc, .slice x.ca x.cn x.cc, .int .i64 x.op, .int .i64 x.a, .int .i64 x.b] 42))
      rw [hta] at *
      by_cases c1 : 2 < x.tn
      · have HV := Lib.hid (show r = true by
          rw [← HR.out, longB, Bool.or_eq_true]
          left
          refine List.any_eq_true.2 ⟨A[k]'(by rw [HN.out]; exact hlt), List.getElem_mem _, ?_⟩
          rw [← HY.out]; simp [longA, c1])
        go_wp2_with fail
        go_ret
        exact ⟨bool_ret HV.out.symm, HB.out.trans (HW2.out.mono HB.out.size)⟩
      · by_cases c2 : 32 < x.cn
        · have HV := Lib.hid (show r = true by
            rw [← HR.out, longB, Bool.or_eq_true]
            left
            refine List.any_eq_true.2 ⟨A[k]'(by rw [HN.out]; exact hlt), List.getElem_mem _, ?_⟩
            rw [← HY.out]; simp [longA, c2])
          go_wp2_with fail
          go_ret
          exact ⟨bool_ret HV.out.symm, HB.out.trans (HW2.out.mono HB.out.size)⟩
        · go_wp2_with fail
          go_roundw
          case rel => exact ⟨k + 1, by go_num, by omega, fun j h1 h2 => by
            by_cases hjk : j = k
            · subst hjk; rw [← HY.out]; simp [longA]; omega
            · exact HT.out j h1 (by omega), HW2.out⟩
          case measure => simp [intOf]; omega
    · have HE := Lib.hid (show A.any longA = false by
        refine Bool.eq_false_iff.2 fun hall => ?_
        obtain ⟨t, ht, h2⟩ := List.any_eq_true.1 hall
        obtain ⟨j, hj, rfl⟩ := List.getElem_of_mem ht
        rw [HT.out j hj (by have := HN.out; omega)] at h2
        cases h2)
      obtain ⟨q0, q1, q2, q3, q4, q5, q6, q7, q8, q9, q10⟩ := (HX.out.next HW.out).cells
      by_cases c1 : 16 < y.nm.size
      · have HV := Lib.hid (show r = true by rw [← HR.out]; simp [longB, c1])
        go_wp2_with fail
        go_ret
        exact ⟨bool_ret HV.out.symm, HB.out.trans (HW.out.mono HB.out.size)⟩
      · by_cases c2 : 4 < y.an
        · have HV := Lib.hid (show r = true by rw [← HR.out]; simp [longB, c2])
          go_wp2_with fail
          go_ret
          exact ⟨bool_ret (by rw [HV.out]; simp; omega), HB.out.trans (HW.out.mono HB.out.size)⟩
        · have HV := Lib.hid (show r = false by rw [← HR.out, longB, HE.out]; simp; omega)
          go_wp2_with fail
          go_ret
          exact ⟨bool_ret (by rw [HV.out]; simp; omega), HB.out.trans (HW.out.mono HB.out.size)⟩
end Go.Proofs.YtbeaaieaffdgeaaGreatDoor
end
/- Keys without those that may be. -/
section
namespace Go.Proofs.YtbeaaieaffdgeaaGreatDoor
open Go.RowKit
set_option linter.unusedVariables false
set_option linter.unusedSimpArgs false

theorem bv_andNot (x m : BitVec 64) : x &&& ~~~m = 0#64 ↔ x &&& m = x := by
  constructor
  · intro h
    apply BitVec.eq_of_getLsbD_eq
    intro i hi
    have := congrArg (fun z : BitVec 64 => z.getLsbD i) h
    simp [hi] at this ⊢
    exact this
  · intro h
    apply BitVec.eq_of_getLsbD_eq
    intro i hi
    have := congrArg (fun z : BitVec 64 => z.getLsbD i) h
    simp [hi] at this ⊢
    exact this
theorem wrap_zero (b : BitVec 64) : IntKind.i64.wrap (b.toNat : Int) = 0 ↔ b = 0#64 := by
  have hb := b.isLt
  constructor
  · intro h
    apply BitVec.eq_of_toNat_eq
    have key : ∀ (p : Bool) (z : Int), 0 ≤ z → z < 18446744073709551616 → (if p = true then z - 18446744073709551616 else z) = 0 → z = 0 := by
      intro p z h1 h2 h
      cases p <;> simp at h <;> omega
    have h' := key _ ((b.toNat : Int) % 18446744073709551616) (by omega) (by omega) h
    show b.toNat = 0
    omega
  · rintro rfl; rfl
theorem keys_not (n m : Int) : bits .andNot .i64 n m = 0 ↔ (BitVec.ofInt 64 n).toNat &&& (BitVec.ofInt 64 m).toNat = (BitVec.ofInt 64 n).toNat := by
  show IntKind.i64.wrap ((BitVec.ofInt 64 n &&& ~~~(BitVec.ofInt 64 m)).toNat : Int) = 0 ↔ _
  rw [wrap_zero, bv_andNot, ← BitVec.toNat_inj, BitVec.toNat_and]
/-- It is a number of 64 bits. -/
def In64 (n : Int) : Prop := -9223372036854775808 ≤ n ∧ n ≤ 9223372036854775807
theorem keys_none (n : Int) (h : In64 n) : (bits .andNot .i64 n 0 == 0) = (n == 0) := by
  obtain ⟨h1, h2⟩ := h
  rw [Bool.eq_iff_iff, beq_iff_eq, beq_iff_eq, keys_not, BitVec.toNat_ofInt, BitVec.toNat_ofInt]
  simp
  omega
theorem keys_all (n : Int) (h : In64 n) : (bits .andNot .i64 n 127 == 0) = btw 0 127 n := by
  obtain ⟨h1, h2⟩ := h
  rw [Bool.eq_iff_iff, beq_iff_eq, keys_not, btw_iff, BitVec.toNat_ofInt, BitVec.toNat_ofInt]
  rw [show ((127 : Int) % ((2 ^ 64 : Nat) : Int)).toNat = 2 ^ 7 - 1 from rfl, Nat.and_two_pow_sub_one_eq_mod]
  omega
theorem swift_small : ∀ z, z < 65 → z &&& 64 = z → z = 0 ∨ z = 64 := by decide
theorem keys_swift (n : Int) (h : In64 n) : (bits .andNot .i64 n 64 == 0) = (n == 0 || n == 64) := by
  obtain ⟨h1, h2⟩ := h
  rw [Bool.eq_iff_iff, beq_iff_eq, keys_not, Bool.or_eq_true, beq_iff_eq, beq_iff_eq, BitVec.toNat_ofInt, BitVec.toNat_ofInt]
  rw [show ((64 : Int) % ((2 ^ 64 : Nat) : Int)).toNat = 64 from rfl]
  generalize hz : (n % ((2 ^ 64 : Nat) : Int)).toNat = z
  constructor
  · intro e
    have hle : z ≤ 64 := by rw [← e]; exact Nat.and_le_right
    have := swift_small z (by omega) e
    omega
  · intro e
    have : z = 0 ∨ z = 64 := by omega
    rcases this with rfl | rfl <;> rfl
end Go.Proofs.YtbeaaieaffdgeaaGreatDoor
end
/- A pool's bytes, and how the document reads them: no walk. -/
section
namespace Go.Proofs.YtbeaaieaffdgeaaGreatDoor
open Go.RowKit
set_option linter.unusedVariables false
set_option linter.unusedSimpArgs false

/-- One behind the other, in front of a rest. -/
def many {α : Type} (e : α → ByteArray → ByteArray) (l : List α) (t : ByteArray) : ByteArray := l.foldr e t
theorem many_nil {α : Type} (e : α → ByteArray → ByteArray) (t : ByteArray) : many e [] t = t := rfl
theorem many_cons {α : Type} (e : α → ByteArray → ByteArray) (x : α) (l : List α) (t : ByteArray) : many e (x :: l) t = e x (many e l t) := rfl
/-- Bytes in front of a rest, whatever the rest is. -/
def Fore {α : Type} (e : α → ByteArray → ByteArray) : Prop := ∀ x t, e x t = e x ByteArray.empty ++ t
theorem many_fore {α : Type} {e : α → ByteArray → ByteArray} (h : Fore e) : Fore (many e) := by
  intro l t
  induction l with
  | nil => simp [many]
  | cons x l ih => rw [many_cons, many_cons, h x, ih, h x (many e l ByteArray.empty), ByteArray.append_assoc]
theorem many_snoc {α : Type} {e : α → ByteArray → ByteArray} (h : Fore e) (l : List α) (x : α) : many e (l ++ [x]) ByteArray.empty = many e l ByteArray.empty ++ e x ByteArray.empty := by
  rw [many, List.foldr_append, ← many_fore h]
  rfl
/-- A number's bytes, a signed one's, a text's. -/
def nB (i : Int) (t : ByteArray) : ByteArray := numS i.toNat ++ t
def sB (i : Int) (t : ByteArray) : ByteArray := numS (zig i) ++ t
def xB (s t : ByteArray) : ByteArray := textS s ++ t
theorem nB_fore : Fore nB := fun x t => by simp [nB]
theorem sB_fore : Fore sB := fun x t => by simp [sB]
theorem xB_fore : Fore xB := fun x t => by simp [xB]
def flagI (b : Bool) : Int := if b then 1 else 0
/-- An instruction's bytes. -/
def insB (x : Ins) (t : ByteArray) : ByteArray := nB x.op (sB x.a (sB x.b t))
theorem insB_fore : Fore insB := fun x t => by
  simp only [insB]
  rw [sB_fore x.b t, sB_fore x.a, nB_fore x.op, sB_fore x.a (sB x.b ByteArray.empty), nB_fore x.op (sB x.a ByteArray.empty ++ _)]
  simp only [ByteArray.append_assoc]
/-- The numbers of an ability in front of its targets. -/
def abHead (x : AbT) : List Int := [x.1.k, x.1.ev, x.1.wh, x.1.c0, x.1.c1, x.1.c2, x.1.c3, flagI x.1.tap, x.2.1.length]
/-- An ability's bytes. -/
def abB (x : AbT) (t : ByteArray) : ByteArray :=
  many nB (abHead x) (many nB x.2.1 (nB x.2.2.length (many insB x.2.2 (nB x.1.op (sB x.1.a (sB x.1.b t))))))
theorem fore_comp {α β : Type} {e : α → ByteArray → ByteArray} {f : β → ByteArray → ByteArray} (h : Fore e) (k : Fore f) : Fore (fun (p : α × β) t => e p.1 (f p.2 t)) := fun p t => by
  show e p.1 (f p.2 t) = e p.1 (f p.2 ByteArray.empty) ++ t
  rw [k p.2 t, h p.1, h p.1 (f p.2 ByteArray.empty), ByteArray.append_assoc]
theorem abB_fore : Fore abB := fun x t => by
  have h : Fore (fun (p : List Int × List Int × Int × List Ins × Int × Int × Int) t => many nB p.1 (many nB p.2.1 (nB p.2.2.1 (many insB p.2.2.2.1 (nB p.2.2.2.2.1 (sB p.2.2.2.2.2.1 (sB p.2.2.2.2.2.2 t))))))) :=
    fore_comp (many_fore nB_fore) (fore_comp (many_fore nB_fore) (fore_comp nB_fore (fore_comp (many_fore insB_fore) (fore_comp nB_fore (fore_comp sB_fore sB_fore)))))
  exact h (abHead x, x.2.1, (x.2.2.length : Int), x.2.2, x.1.op, x.1.a, x.1.b) t
/-- A card, and its abilities. -/
abbrev CdT := Cd × List AbT
def cdHead (c : CdT) : List Int := [c.1.k, c.1.c0, c.1.c1, c.1.c2, c.1.c3, c.1.col, c.1.pow, c.1.tou, c.1.keys, c.2.length]
/-- A card's bytes. -/
def cdB (c : CdT) (t : ByteArray) : ByteArray := xB c.1.nm (many nB (cdHead c) (many abB c.2 t))
theorem cdB_fore : Fore cdB := fun c t => by
  have h : Fore (fun (p : ByteArray × List Int × List AbT) t => xB p.1 (many nB p.2.1 (many abB p.2.2 t))) := fore_comp xB_fore (fore_comp (many_fore nB_fore) (many_fore abB_fore))
  exact h (c.1.nm, cdHead c, c.2) t
/-- A pool's bytes, in front of a rest. -/
def poolB (L : List CdT) (t : ByteArray) : ByteArray := nB L.length (many cdB L t)
theorem poolB_fore : Fore poolB := fun L t => fore_comp nB_fore (many_fore cdB_fore) ((L.length : Int), L) t

/-- How the document reads: a number, 100000 if it is above that. -/
def rdNm (r : RdS) : Int × RdS := (((min (rdNum r).1 100000 : Nat) : Int), (rdNum r).2)
/-- So many, as long as the reader has not stopped. -/
def rdRep {α : Type} (f : RdS → α × RdS) : Nat → RdS → List α × RdS
  | 0, r => ([], r)
  | k + 1, r => if r.2 then ([], r) else ((f r).1 :: (rdRep f k (f r).2).1, (rdRep f k (f r).2).2)
def rdIns (r : RdS) : Ins × RdS :=
  let o := rdNm r; let a := rdInt o.2; let b := rdInt a.2
  (⟨o.1, a.1, b.1⟩, b.2)
def rdAb (r : RdS) : AbT × RdS :=
  let k := rdNm r; let ev := rdNm k.2; let wh := rdNm ev.2
  let c0 := rdNm wh.2; let c1 := rdNm c0.2; let c2 := rdNm c1.2; let c3 := rdNm c2.2
  let tp := rdNm c3.2; let n := rdNm tp.2
  let T := rdRep rdNm (min n.1.toNat 10) n.2
  let m := rdNm T.2
  let L := rdRep rdIns (min m.1.toNat 40) m.2
  let op := rdNm L.2; let a := rdInt op.2; let b := rdInt a.2
  ((⟨k.1, ev.1, wh.1, c0.1, c1.1, c2.1, c3.1, tp.1 == 1, none, T.1.length, 0, none, L.1.length, 0, op.1, a.1, b.1⟩, T.1, L.1), b.2)
def rdCd (r : RdS) : CdT × RdS :=
  let x := rdText r; let k := rdNm x.2
  let c0 := rdNm k.2; let c1 := rdNm c0.2; let c2 := rdNm c1.2; let c3 := rdNm c2.2
  let co := rdNm c3.2; let p := rdNm co.2; let t := rdNm p.2; let ke := rdNm t.2; let m := rdNm ke.2
  let A := rdRep rdAb (min m.1.toNat 10) m.2
  ((⟨x.1, k.1, c0.1, c1.1, c2.1, c3.1, co.1, p.1, t.1, ke.1, none, A.1.length, 0⟩, A.1), A.2)
def rdPool (s : ByteArray) : List CdT × RdS :=
  let n := rdNm (s, false)
  rdRep rdCd (min n.1.toNat 50) n.2

/-- Numbers that come back. -/
def NmOk (i : Int) : Prop := 0 ≤ i ∧ i ≤ 100000
def InsOk (x : Ins) : Prop := NmOk x.op ∧ In64 x.a ∧ In64 x.b
def AbOk (x : AbT) : Prop :=
  (∀ i ∈ abHead x, NmOk i) ∧ x.2.1.length ≤ 2 ∧ x.2.2.length ≤ 32 ∧ (∀ i ∈ x.2.1, NmOk i) ∧ (∀ i ∈ x.2.2, InsOk i) ∧ NmOk x.1.op ∧ In64 x.1.a ∧ In64 x.1.b
def CdTOk (c : CdT) : Prop := c.1.nm.size ≤ 1000 ∧ (∀ i ∈ cdHead c, NmOk i) ∧ c.2.length ≤ 4 ∧ ∀ x ∈ c.2, AbOk x
def PlOk (L : List CdT) : Prop := L.length ≤ 40 ∧ ∀ c ∈ L, CdTOk c
/-- Without addresses. -/
def bareA (x : AbT) : AbT := ({ x.1 with ta := none, tn := x.2.1.length, tc := 0, ca := none, cn := x.2.2.length, cc := 0 }, x.2)
def bareC (c : CdT) : CdT := ({ c.1 with aa := none, an := c.2.length, ac := 0 }, c.2.map bareA)

theorem rdNm_put (i : Int) (h : NmOk i) (t : ByteArray) : rdNm (nB i t, false) = (i, (t, false)) := by
  obtain ⟨h0, h1⟩ := h
  unfold rdNm nB
  rw [rdNum_put _ (by omega)]
  simp only [Prod.mk.injEq, and_true]
  omega
theorem rdInt_put' (i : Int) (h : In64 i) (t : ByteArray) : rdInt (sB i t, false) = (i, (t, false)) := by
  unfold In64 at h
  exact rdInt_put i (by omega) (by omega) t
theorem rdText_put' (x t : ByteArray) (h : x.size ≤ 1000) : rdText (xB x t, false) = (x, (t, false)) := rdText_put x t (by omega)
theorem rdRep_put {α : Type} {f : RdS → α × RdS} {e : α → ByteArray → ByteArray} {g : α → α} (l : List α) (h : ∀ x ∈ l, ∀ t, f (e x t, false) = (g x, (t, false))) (t : ByteArray) :
    rdRep f l.length (many e l t, false) = (l.map g, (t, false)) := by
  induction l with
  | nil => rfl
  | cons x l ih =>
    have h1 := h x (by simp) (many e l t)
    have h2 := ih (fun y hy => h y (by simp [hy]))
    simp only [List.length_cons, rdRep, many_cons, h1, h2, List.map_cons]
    simp
theorem rdIns_put (x : Ins) (h : InsOk x) (t : ByteArray) : rdIns (insB x t, false) = (x, (t, false)) := by
  obtain ⟨h1, h2, h3⟩ := h
  simp only [rdIns, insB, rdNm_put _ h1, rdInt_put' _ h2, rdInt_put' _ h3]
theorem flag_ok (b : Bool) : (flagI b == 1) = b := by cases b <;> rfl
theorem rdAb_put (x : AbT) (h : AbOk x) (t : ByteArray) : rdAb (abB x t, false) = (bareA x, (t, false)) := by
  obtain ⟨hh, h1, h2, h3, h4, h5, h6, h7⟩ := h
  simp only [abHead, List.forall_mem_cons] at hh
  obtain ⟨a1, a2, a3, a4, a5, a6, a7, a8, a9, _⟩ := hh
  have b1 : ∀ t, rdRep rdNm (min x.2.1.length 10) (many nB x.2.1 t, false) = (x.2.1, (t, false)) := fun t => by
    rw [Nat.min_eq_left (by omega)]
    have := rdRep_put (g := id) x.2.1 (fun i hi t => rdNm_put i (h3 i hi) t) t
    simpa using this
  have b2 : ∀ t, rdRep rdIns (min x.2.2.length 40) (many insB x.2.2 t, false) = (x.2.2, (t, false)) := fun t => by
    rw [Nat.min_eq_left (by omega)]
    have := rdRep_put (g := id) x.2.2 (fun i hi t => rdIns_put i (h4 i hi) t) t
    simpa using this
  have b3 : NmOk (x.2.2.length : Int) := by unfold NmOk; omega
  simp only [rdAb, abB, abHead, many_cons, many_nil, rdNm_put _ a1, rdNm_put _ a2, rdNm_put _ a3, rdNm_put _ a4, rdNm_put _ a5, rdNm_put _ a6, rdNm_put _ a7, rdNm_put _ a8, rdNm_put _ a9, Int.toNat_natCast, b1, rdNm_put _ b3, b2, rdNm_put _ h5, rdInt_put' _ h6, rdInt_put' _ h7, flag_ok, bareA]
theorem rdCd_put (c : CdT) (h : CdTOk c) (t : ByteArray) : rdCd (cdB c t, false) = (bareC c, (t, false)) := by
  obtain ⟨h0, hh, h1, h2⟩ := h
  simp only [cdHead, List.forall_mem_cons] at hh
  obtain ⟨a1, a2, a3, a4, a5, a6, a7, a8, a9, a10, _⟩ := hh
  have b1 : ∀ t, rdRep rdAb (min c.2.length 10) (many abB c.2 t, false) = (c.2.map bareA, (t, false)) := fun t => by
    rw [Nat.min_eq_left (by omega)]
    exact rdRep_put c.2 (fun i hi t => rdAb_put i (h2 i hi) t) t
  simp only [rdCd, cdB, cdHead, many_cons, many_nil, rdText_put' _ _ h0, rdNm_put _ a1, rdNm_put _ a2, rdNm_put _ a3, rdNm_put _ a4, rdNm_put _ a5, rdNm_put _ a6, rdNm_put _ a7, rdNm_put _ a8, rdNm_put _ a9, rdNm_put _ a10, Int.toNat_natCast, b1, bareC, List.length_map]
theorem rdPool_put (L : List CdT) (h : PlOk L) (t : ByteArray) : rdPool (poolB L t) = (L.map bareC, (t, false)) := by
  obtain ⟨h1, h2⟩ := h
  have b1 : NmOk (L.length : Int) := by unfold NmOk; omega
  have b2 := rdRep_put L (fun c hc t => rdCd_put c (h2 c hc) t) t
  simp only [rdPool, poolB, rdNm_put _ b1, Int.toNat_natCast, Nat.min_eq_left (show L.length ≤ 50 by omega), b2]
/-- No beginning of a pool's bytes is another's; and two with the same bytes are one. -/
theorem poolB_front (L M : List CdT) (hL : PlOk L) (hM : PlOk M) (t : ByteArray) (h : poolB L ByteArray.empty = poolB M t) : L.map bareC = M.map bareC ∧ t = ByteArray.empty := by
  have h1 := rdPool_put L hL ByteArray.empty
  rw [h, rdPool_put M hM t] at h1
  simp only [Prod.mk.injEq, and_true] at h1
  exact ⟨h1.1.symm, h1.2⟩
/-- How many bytes there are at most. -/
theorem nB_size (i : Int) (t : ByteArray) : (nB i t).size ≤ 9 + t.size := by
  have := numS_size i.toNat
  simp only [nB, ByteArray.size_append]; omega
theorem sB_size (i : Int) (t : ByteArray) : (sB i t).size ≤ 9 + t.size := by
  have := numS_size (zig i)
  simp only [sB, ByteArray.size_append]; omega
theorem xB_size (x t : ByteArray) : (xB x t).size ≤ 9 + x.size + t.size := by
  have := numS_size x.size
  simp only [xB, textS, ByteArray.size_append]; omega
theorem many_size {α : Type} {e : α → ByteArray → ByteArray} (k : Nat) (l : List α) (h : ∀ x ∈ l, ∀ t, (e x t).size ≤ k + t.size) (t : ByteArray) : (many e l t).size ≤ k * l.length + t.size := by
  induction l with
  | nil => simp [many]
  | cons x l ih =>
    have h1 := h x (by simp) (many e l t)
    have h2 := ih (fun y hy => h y (by simp [hy]))
    rw [many_cons, List.length_cons, Nat.mul_add]
    omega
theorem insB_size (x : Ins) (t : ByteArray) : (insB x t).size ≤ 27 + t.size := by
  have h1 := nB_size x.op (sB x.a (sB x.b t))
  have h2 := sB_size x.a (sB x.b t)
  have h3 := sB_size x.b t
  simp only [insB]; omega
theorem abB_size (x : AbT) (h : AbOk x) (t : ByteArray) : (abB x t).size ≤ 2000 + t.size := by
  obtain ⟨_, h1, h2, _⟩ := h
  have e1 := many_size 9 (abHead x) (fun i _ t => nB_size i t) (many nB x.2.1 (nB x.2.2.length (many insB x.2.2 (nB x.1.op (sB x.1.a (sB x.1.b t))))))
  have e2 := many_size 9 x.2.1 (fun i _ t => nB_size i t) (nB x.2.2.length (many insB x.2.2 (nB x.1.op (sB x.1.a (sB x.1.b t)))))
  have e3 := nB_size x.2.2.length (many insB x.2.2 (nB x.1.op (sB x.1.a (sB x.1.b t))))
  have e4 := many_size 27 x.2.2 (fun i _ t => insB_size i t) (nB x.1.op (sB x.1.a (sB x.1.b t)))
  have e5 := nB_size x.1.op (sB x.1.a (sB x.1.b t))
  have e6 := sB_size x.1.a (sB x.1.b t)
  have e7 := sB_size x.1.b t
  have e8 : (abHead x).length = 9 := rfl
  simp only [abB]; omega
theorem cdB_size (c : CdT) (h : CdTOk c) (t : ByteArray) : (cdB c t).size ≤ 22000 + t.size := by
  obtain ⟨h0, _, h1, h2⟩ := h
  have e1 := xB_size c.1.nm (many nB (cdHead c) (many abB c.2 t))
  have e2 := many_size 9 (cdHead c) (fun i _ t => nB_size i t) (many abB c.2 t)
  have e3 := many_size 2000 c.2 (fun x hx t => abB_size x (h2 x hx) t) t
  have e4 : (cdHead c).length = 10 := rfl
  simp only [cdB]; omega
theorem poolB_size (L : List CdT) (h : PlOk L) (t : ByteArray) : (poolB L t).size ≤ 2000000 + t.size := by
  obtain ⟨h1, h2⟩ := h
  have e1 := nB_size L.length (many cdB L t)
  have e2 := many_size 22000 L (fun c hc t => cdB_size c (h2 c hc) t) t
  simp only [poolB]; omega
end Go.Proofs.YtbeaaieaffdgeaaGreatDoor
end
/- mayBe. (Written by gen5i.py.) -/
section
namespace Go.Proofs.YtbeaaieaffdgeaaGreatDoor
open Go.RowKit
set_option linter.unusedVariables false
set_option linter.unusedSimpArgs false

/-- Block b is these cells. -/
def LitAt (w : World) (b : Nat) (cs : List Value) : Prop := b < w.heap.size ∧ ∀ i, i < cs.length → w.cell? ⟨b, i, none⟩ = cs[i]?
theorem LitAt.next {w w' : World} {b : Nat} {cs : List Value} (h : LitAt w b cs) (k : Below w.heap.size w w') : LitAt w' b cs :=
  ⟨Nat.lt_of_lt_of_le h.1 k.size, fun i hi => (k.cell (p := ⟨b, i, none⟩) h.1).trans (h.2 i hi)⟩
theorem litAt_new (w : World) (cs : List Value) (T : TypeId) : LitAt (w.alloc (.cells cs.toArray T)) w.heap.size cs :=
  ⟨by simp, fun i hi => by rw [World.cell?_alloc_new]; simp⟩
theorem litAt_one (w : World) (cs : List Value) (T : TypeId) (o : Obj) : LitAt ((w.alloc (.cells cs.toArray T)).alloc o) w.heap.size cs :=
  (litAt_new w cs T).next (below_alloc1 _ _)
theorem litAt_two (w : World) (cs : List Value) (T : TypeId) (o : Obj) : LitAt ((w.alloc o).alloc (.cells cs.toArray T)) (w.heap.size + 1) cs := by
  have := litAt_new (w.alloc o) cs T
  simpa using this
def keysB (k keys : Int) : Bool := if k = 1 then keys == 0 else if k = 2 then btw 0 127 keys else (keys == 0 || keys == 64)
/-- May a card be, but for its abilities? -/
def mayB (y : Cd) : Bool :=
  !y.nm.toList.isEmpty && (btw 1 4 y.k && (wi (costL (if y.k = 1 then 0 else 20) y.c0 y.c1 y.c2 y.c3) && (keysB y.k y.keys &&
    wi [⟨y.col, 0, if y.k = 1 then 3 else 0⟩, ⟨y.pow, 0, if y.k = 2 then 15 else 0⟩, ⟨y.tou, 0, if y.k = 2 then 15 else 0⟩])))
set_option maxRecDepth 100000 in
set_option maxHeartbeats 4000000 in
theorem mayBe_land (y : Cd) (hk : y.k = 1) (hn : y.nm.toList.isEmpty = false) (hy : In64 y.keys) (r : Bool) (hr : mayB y = r) (w : World) (hT : Tabs w) :
    Calls Tryz.prog 67 #[.agg #[.string y.nm, .int .i64 y.k, .int .i64 y.c0, .int .i64 y.c1, .int .i64 y.c2, .int .i64 y.c3, .int .i64 y.col, .int .i64 y.pow, .int .i64 y.tou, .int .i64 y.keys, .slice y.aa y.an y.ac]] w fun e w' => e = .returned (.bool r) ∧ Below w.heap.size w w' := by
  have HW := Lib.hid (below_alloc1 w (.cells #[.string y.nm, .int .i64 y.k, .int .i64 y.c0, .int .i64 y.c1, .int .i64 y.c2, .int .i64 y.c3, .int .i64 y.col, .int .i64 y.pow, .int .i64 y.tou, .int .i64 y.keys, .slice y.aa y.an y.ac] 38))
  have HX := Lib.hid (boxC_new w y 38)
  have HZ := Lib.hid (show w.heap.size + 1 = (w.alloc (.cells #[.string y.nm, .int .i64 y.k, .int .i64 y.c0, .int .i64 y.c1, .int .i64 y.c2, .int .i64 y.c3, .int .i64 y.col, .int .i64 y.pow, .int .i64 y.tou, .int .i64 y.keys, .slice y.aa y.an y.ac] 38)).heap.size by simp)
  have HT := Lib.hid (hT.next HW.out)
  have HK := Lib.hid hk
  have HR := Lib.hid hr
  clear hk hT hr
  cases t1 : wi (costL 0 y.c0 y.c1 y.c2 y.c3)
  · have HV := Lib.hid (show r = false by rw [← HR.out]; simp [mayB, HK.out, t1])
    have H1 := Lib.hid t1
    clear t1
    go_enter Tryz.func67, Tryz.ntmps67
    go_wp2_with fail
    generalize w.alloc (.cells #[.string y.nm, .int .i64 y.k, .int .i64 y.c0, .int .i64 y.c1, .int .i64 y.c2, .int .i64 y.c3, .int .i64 y.col, .int .i64 y.pow, .int .i64 y.tou, .int .i64 y.keys, .slice y.aa y.an y.ac] 38) = W at *
    refine (within_at [⟨y.k, 1, 4⟩] _ _ rfl 1 rfl (by omega) true (by rw [wi_one, HK.out]; decide) _ _ HZ.out).mono ?_
    rintro e w1 ⟨rfl, hb⟩
    have HB1 := Lib.hid hb
    clear hb
    obtain ⟨q0, q1, q2, q3, q4, q5, q6, q7, q8, q9, q10⟩ := (HX.out.next HB1.out).cells
    rw [HK.out] at q1
    obtain ⟨m0, m1, m2, m3⟩ : w1.cell? ⟨0, 4, none⟩ = some (.int .i64 0) ∧ w1.cell? ⟨0, 5, none⟩ = some (.int .i64 3) ∧ w1.cell? ⟨0, 6, none⟩ = some (.int .i64 0) ∧ w1.cell? ⟨0, 7, none⟩ = some (.int .i64 0) := by
      have h := (HT.out.next HB1.out).kinds
      exact ⟨h 4 (by omega), h 5 (by omega), h 6 (by omega), h 7 (by omega)⟩
    have hz1 : w.heap.size < w1.heap.size := by have := HB1.out.size; have := HZ.out; omega
    go_wp2_with fail
    clear q0 q1 q2 q3 q4 q5 q6 q7 q8 q9 q10 m0 m1 m2 m3
    have HB2 := Lib.hid (show Below W.heap.size W ((w1.alloc (.cells #[.int .i64 0, .int .i64 3, .int .i64 0, .int .i64 0] 123)).alloc (.cells #[.int .i64 0, .int .i64 0] 105)) from below_then' HB1.out (below_alloc2 _ _ _) HB1.out.size)
    have HN := Lib.hid (litAt_one w1 [.int .i64 0, .int .i64 3, .int .i64 0, .int .i64 0] 123 (.cells #[.int .i64 0, .int .i64 0] 105))
    have HS := Lib.hid (litAt_two w1 [.int .i64 0, .int .i64 0] 105 (.cells #[.int .i64 0, .int .i64 3, .int .i64 0, .int .i64 0] 123))
    replace HN := Lib.hid (show LitAt ((w1.alloc (.cells #[.int .i64 0, .int .i64 3, .int .i64 0, .int .i64 0] 123)).alloc (.cells #[.int .i64 0, .int .i64 0] 105)) w1.heap.size [.int .i64 0, .int .i64 3, .int .i64 0, .int .i64 0] from HN.out)
    replace HS := Lib.hid (show LitAt ((w1.alloc (.cells #[.int .i64 0, .int .i64 3, .int .i64 0, .int .i64 0] 123)).alloc (.cells #[.int .i64 0, .int .i64 0] 105)) (w1.heap.size + 1) [.int .i64 0, .int .i64 0] from HS.out)
    generalize (w1.alloc (.cells #[.int .i64 0, .int .i64 3, .int .i64 0, .int .i64 0] 123)).alloc (.cells #[.int .i64 0, .int .i64 0] 105) = W2 at *
    refine (isCost_any y.c0 y.c1 y.c2 y.c3 0 false H1.out _).mono ?_
    rintro e w2 ⟨rfl, hb⟩
    have HB3 := Lib.hid (below_then' HB2.out hb HB2.out.size)
    have HN3 := Lib.hid (HN.out.next hb)
    have HS3 := Lib.hid (HS.out.next hb)
    clear hb
    obtain ⟨q0, q1, q2, q3, q4, q5, q6, q7, q8, q9, q10⟩ := (HX.out.next HB3.out).cells
    have n0 := HN3.out.2 0 (by decide)
    have n1 := HN3.out.2 1 (by decide)
    have n2 := HN3.out.2 2 (by decide)
    have n3 := HN3.out.2 3 (by decide)
    have s0 := HS3.out.2 0 (by decide)
    have s1 := HS3.out.2 1 (by decide)
    simp only [List.getElem?_cons_zero, List.getElem?_cons_succ] at n0 n1 n2 n3 s0 s1
    go_wp2_with fail
    go_ret
    exact ⟨bool_ret HV.out.symm, HW.out.trans (HB3.out.mono HW.out.size)⟩
  · have HE := Lib.hid (show ((y.keys == 0) && wi [⟨y.col, 0, 3⟩, ⟨y.pow, 0, 0⟩, ⟨y.tou, 0, 0⟩]) = r by rw [← HR.out]; simp [mayB, HK.out, t1, keysB, hn, btw])
    have H1 := Lib.hid t1
    clear t1
    cases t2 : (y.keys == 0)
    · have HV := Lib.hid (show r = false by rw [← HE.out, t2, Bool.false_and])
      have t3 := (keys_none y.keys hy).trans t2
      clear t2
      go_enter Tryz.func67, Tryz.ntmps67
      go_wp2_with fail
      generalize w.alloc (.cells #[.string y.nm, .int .i64 y.k, .int .i64 y.c0, .int .i64 y.c1, .int .i64 y.c2, .int .i64 y.c3, .int .i64 y.col, .int .i64 y.pow, .int .i64 y.tou, .int .i64 y.keys, .slice y.aa y.an y.ac] 38) = W at *
      refine (within_at [⟨y.k, 1, 4⟩] _ _ rfl 1 rfl (by omega) true (by rw [wi_one, HK.out]; decide) _ _ HZ.out).mono ?_
      rintro e w1 ⟨rfl, hb⟩
      have HB1 := Lib.hid hb
      clear hb
      obtain ⟨q0, q1, q2, q3, q4, q5, q6, q7, q8, q9, q10⟩ := (HX.out.next HB1.out).cells
      rw [HK.out] at q1
      obtain ⟨m0, m1, m2, m3⟩ : w1.cell? ⟨0, 4, none⟩ = some (.int .i64 0) ∧ w1.cell? ⟨0, 5, none⟩ = some (.int .i64 3) ∧ w1.cell? ⟨0, 6, none⟩ = some (.int .i64 0) ∧ w1.cell? ⟨0, 7, none⟩ = some (.int .i64 0) := by
        have h := (HT.out.next HB1.out).kinds
        exact ⟨h 4 (by omega), h 5 (by omega), h 6 (by omega), h 7 (by omega)⟩
      have hz1 : w.heap.size < w1.heap.size := by have := HB1.out.size; have := HZ.out; omega
      go_wp2_with fail
      clear q0 q1 q2 q3 q4 q5 q6 q7 q8 q9 q10 m0 m1 m2 m3
      have HB2 := Lib.hid (show Below W.heap.size W ((w1.alloc (.cells #[.int .i64 0, .int .i64 3, .int .i64 0, .int .i64 0] 123)).alloc (.cells #[.int .i64 0, .int .i64 0] 105)) from below_then' HB1.out (below_alloc2 _ _ _) HB1.out.size)
      have HN := Lib.hid (litAt_one w1 [.int .i64 0, .int .i64 3, .int .i64 0, .int .i64 0] 123 (.cells #[.int .i64 0, .int .i64 0] 105))
      have HS := Lib.hid (litAt_two w1 [.int .i64 0, .int .i64 0] 105 (.cells #[.int .i64 0, .int .i64 3, .int .i64 0, .int .i64 0] 123))
      replace HN := Lib.hid (show LitAt ((w1.alloc (.cells #[.int .i64 0, .int .i64 3, .int .i64 0, .int .i64 0] 123)).alloc (.cells #[.int .i64 0, .int .i64 0] 105)) w1.heap.size [.int .i64 0, .int .i64 3, .int .i64 0, .int .i64 0] from HN.out)
      replace HS := Lib.hid (show LitAt ((w1.alloc (.cells #[.int .i64 0, .int .i64 3, .int .i64 0, .int .i64 0] 123)).alloc (.cells #[.int .i64 0, .int .i64 0] 105)) (w1.heap.size + 1) [.int .i64 0, .int .i64 0] from HS.out)
      generalize (w1.alloc (.cells #[.int .i64 0, .int .i64 3, .int .i64 0, .int .i64 0] 123)).alloc (.cells #[.int .i64 0, .int .i64 0] 105) = W2 at *
      refine (isCost_any y.c0 y.c1 y.c2 y.c3 0 true H1.out _).mono ?_
      rintro e w2 ⟨rfl, hb⟩
      have HB3 := Lib.hid (below_then' HB2.out hb HB2.out.size)
      have HN3 := Lib.hid (HN.out.next hb)
      have HS3 := Lib.hid (HS.out.next hb)
      clear hb
      obtain ⟨q0, q1, q2, q3, q4, q5, q6, q7, q8, q9, q10⟩ := (HX.out.next HB3.out).cells
      have n0 := HN3.out.2 0 (by decide)
      have n1 := HN3.out.2 1 (by decide)
      have n2 := HN3.out.2 2 (by decide)
      have n3 := HN3.out.2 3 (by decide)
      have s0 := HS3.out.2 0 (by decide)
      have s1 := HS3.out.2 1 (by decide)
      simp only [List.getElem?_cons_zero, List.getElem?_cons_succ] at n0 n1 n2 n3 s0 s1
      go_wp2_with fail
      go_ret
      exact ⟨bool_ret HV.out.symm, HW.out.trans (HB3.out.mono HW.out.size)⟩
    · have HV := Lib.hid (show wi [⟨y.col, 0, 3⟩, ⟨y.pow, 0, 0⟩, ⟨y.tou, 0, 0⟩] = r by rw [← HE.out, t2, Bool.true_and])
      have t3 := (keys_none y.keys hy).trans t2
      clear t2
      go_enter Tryz.func67, Tryz.ntmps67
      go_wp2_with fail
      generalize w.alloc (.cells #[.string y.nm, .int .i64 y.k, .int .i64 y.c0, .int .i64 y.c1, .int .i64 y.c2, .int .i64 y.c3, .int .i64 y.col, .int .i64 y.pow, .int .i64 y.tou, .int .i64 y.keys, .slice y.aa y.an y.ac] 38) = W at *
      refine (within_at [⟨y.k, 1, 4⟩] _ _ rfl 1 rfl (by omega) true (by rw [wi_one, HK.out]; decide) _ _ HZ.out).mono ?_
      rintro e w1 ⟨rfl, hb⟩
      have HB1 := Lib.hid hb
      clear hb
      obtain ⟨q0, q1, q2, q3, q4, q5, q6, q7, q8, q9, q10⟩ := (HX.out.next HB1.out).cells
      rw [HK.out] at q1
      obtain ⟨m0, m1, m2, m3⟩ : w1.cell? ⟨0, 4, none⟩ = some (.int .i64 0) ∧ w1.cell? ⟨0, 5, none⟩ = some (.int .i64 3) ∧ w1.cell? ⟨0, 6, none⟩ = some (.int .i64 0) ∧ w1.cell? ⟨0, 7, none⟩ = some (.int .i64 0) := by
        have h := (HT.out.next HB1.out).kinds
        exact ⟨h 4 (by omega), h 5 (by omega), h 6 (by omega), h 7 (by omega)⟩
      have hz1 : w.heap.size < w1.heap.size := by have := HB1.out.size; have := HZ.out; omega
      go_wp2_with fail
      clear q0 q1 q2 q3 q4 q5 q6 q7 q8 q9 q10 m0 m1 m2 m3
      have HB2 := Lib.hid (show Below W.heap.size W ((w1.alloc (.cells #[.int .i64 0, .int .i64 3, .int .i64 0, .int .i64 0] 123)).alloc (.cells #[.int .i64 0, .int .i64 0] 105)) from below_then' HB1.out (below_alloc2 _ _ _) HB1.out.size)
      have HN := Lib.hid (litAt_one w1 [.int .i64 0, .int .i64 3, .int .i64 0, .int .i64 0] 123 (.cells #[.int .i64 0, .int .i64 0] 105))
      have HS := Lib.hid (litAt_two w1 [.int .i64 0, .int .i64 0] 105 (.cells #[.int .i64 0, .int .i64 3, .int .i64 0, .int .i64 0] 123))
      replace HN := Lib.hid (show LitAt ((w1.alloc (.cells #[.int .i64 0, .int .i64 3, .int .i64 0, .int .i64 0] 123)).alloc (.cells #[.int .i64 0, .int .i64 0] 105)) w1.heap.size [.int .i64 0, .int .i64 3, .int .i64 0, .int .i64 0] from HN.out)
      replace HS := Lib.hid (show LitAt ((w1.alloc (.cells #[.int .i64 0, .int .i64 3, .int .i64 0, .int .i64 0] 123)).alloc (.cells #[.int .i64 0, .int .i64 0] 105)) (w1.heap.size + 1) [.int .i64 0, .int .i64 0] from HS.out)
      generalize (w1.alloc (.cells #[.int .i64 0, .int .i64 3, .int .i64 0, .int .i64 0] 123)).alloc (.cells #[.int .i64 0, .int .i64 0] 105) = W2 at *
      refine (isCost_any y.c0 y.c1 y.c2 y.c3 0 true H1.out _).mono ?_
      rintro e w2 ⟨rfl, hb⟩
      have HB3 := Lib.hid (below_then' HB2.out hb HB2.out.size)
      have HN3 := Lib.hid (HN.out.next hb)
      have HS3 := Lib.hid (HS.out.next hb)
      clear hb
      obtain ⟨q0, q1, q2, q3, q4, q5, q6, q7, q8, q9, q10⟩ := (HX.out.next HB3.out).cells
      have n0 := HN3.out.2 0 (by decide)
      have n1 := HN3.out.2 1 (by decide)
      have n2 := HN3.out.2 2 (by decide)
      have n3 := HN3.out.2 3 (by decide)
      have s0 := HS3.out.2 0 (by decide)
      have s1 := HS3.out.2 1 (by decide)
      simp only [List.getElem?_cons_zero, List.getElem?_cons_succ] at n0 n1 n2 n3 s0 s1
      go_wp2_with fail
      refine (within_new [⟨y.col, 0, 3⟩, ⟨y.pow, 0, 0⟩, ⟨y.tou, 0, 0⟩] _ _ rfl 3 rfl (by omega) r HV.out _).mono ?_
      rintro e w3 ⟨rfl, hb⟩
      have HB4 := Lib.hid (below_then' HB3.out hb HB3.out.size)
      clear hb
      go_wp2_with fail
      go_ret
      exact ⟨rfl, HW.out.trans (HB4.out.mono HW.out.size)⟩
set_option maxRecDepth 100000 in
set_option maxHeartbeats 4000000 in
theorem mayBe_beast (y : Cd) (hk : y.k = 2) (hn : y.nm.toList.isEmpty = false) (hy : In64 y.keys) (r : Bool) (hr : mayB y = r) (w : World) (hT : Tabs w) :
    Calls Tryz.prog 67 #[.agg #[.string y.nm, .int .i64 y.k, .int .i64 y.c0, .int .i64 y.c1, .int .i64 y.c2, .int .i64 y.c3, .int .i64 y.col, .int .i64 y.pow, .int .i64 y.tou, .int .i64 y.keys, .slice y.aa y.an y.ac]] w fun e w' => e = .returned (.bool r) ∧ Below w.heap.size w w' := by
  have HW := Lib.hid (below_alloc1 w (.cells #[.string y.nm, .int .i64 y.k, .int .i64 y.c0, .int .i64 y.c1, .int .i64 y.c2, .int .i64 y.c3, .int .i64 y.col, .int .i64 y.pow, .int .i64 y.tou, .int .i64 y.keys, .slice y.aa y.an y.ac] 38))
  have HX := Lib.hid (boxC_new w y 38)
  have HZ := Lib.hid (show w.heap.size + 1 = (w.alloc (.cells #[.string y.nm, .int .i64 y.k, .int .i64 y.c0, .int .i64 y.c1, .int .i64 y.c2, .int .i64 y.c3, .int .i64 y.col, .int .i64 y.pow, .int .i64 y.tou, .int .i64 y.keys, .slice y.aa y.an y.ac] 38)).heap.size by simp)
  have HT := Lib.hid (hT.next HW.out)
  have HK := Lib.hid hk
  have HR := Lib.hid hr
  clear hk hT hr
  cases t1 : wi (costL 20 y.c0 y.c1 y.c2 y.c3)
  · have HV := Lib.hid (show r = false by rw [← HR.out]; simp [mayB, HK.out, t1])
    have H1 := Lib.hid t1
    clear t1
    go_enter Tryz.func67, Tryz.ntmps67
    go_wp2_with fail
    generalize w.alloc (.cells #[.string y.nm, .int .i64 y.k, .int .i64 y.c0, .int .i64 y.c1, .int .i64 y.c2, .int .i64 y.c3, .int .i64 y.col, .int .i64 y.pow, .int .i64 y.tou, .int .i64 y.keys, .slice y.aa y.an y.ac] 38) = W at *
    refine (within_at [⟨y.k, 1, 4⟩] _ _ rfl 1 rfl (by omega) true (by rw [wi_one, HK.out]; decide) _ _ HZ.out).mono ?_
    rintro e w1 ⟨rfl, hb⟩
    have HB1 := Lib.hid hb
    clear hb
    obtain ⟨q0, q1, q2, q3, q4, q5, q6, q7, q8, q9, q10⟩ := (HX.out.next HB1.out).cells
    rw [HK.out] at q1
    obtain ⟨m0, m1, m2, m3⟩ : w1.cell? ⟨0, 8, none⟩ = some (.int .i64 20) ∧ w1.cell? ⟨0, 9, none⟩ = some (.int .i64 0) ∧ w1.cell? ⟨0, 10, none⟩ = some (.int .i64 15) ∧ w1.cell? ⟨0, 11, none⟩ = some (.int .i64 127) := by
      have h := (HT.out.next HB1.out).kinds
      exact ⟨h 8 (by omega), h 9 (by omega), h 10 (by omega), h 11 (by omega)⟩
    have hz1 : w.heap.size < w1.heap.size := by have := HB1.out.size; have := HZ.out; omega
    go_wp2_with fail
    clear q0 q1 q2 q3 q4 q5 q6 q7 q8 q9 q10 m0 m1 m2 m3
    have HB2 := Lib.hid (show Below W.heap.size W ((w1.alloc (.cells #[.int .i64 20, .int .i64 0, .int .i64 15, .int .i64 127] 123)).alloc (.cells #[.int .i64 0, .int .i64 15] 105)) from below_then' HB1.out (below_alloc2 _ _ _) HB1.out.size)
    have HN := Lib.hid (litAt_one w1 [.int .i64 20, .int .i64 0, .int .i64 15, .int .i64 127] 123 (.cells #[.int .i64 0, .int .i64 15] 105))
    have HS := Lib.hid (litAt_two w1 [.int .i64 0, .int .i64 15] 105 (.cells #[.int .i64 20, .int .i64 0, .int .i64 15, .int .i64 127] 123))
    replace HN := Lib.hid (show LitAt ((w1.alloc (.cells #[.int .i64 20, .int .i64 0, .int .i64 15, .int .i64 127] 123)).alloc (.cells #[.int .i64 0, .int .i64 15] 105)) w1.heap.size [.int .i64 20, .int .i64 0, .int .i64 15, .int .i64 127] from HN.out)
    replace HS := Lib.hid (show LitAt ((w1.alloc (.cells #[.int .i64 20, .int .i64 0, .int .i64 15, .int .i64 127] 123)).alloc (.cells #[.int .i64 0, .int .i64 15] 105)) (w1.heap.size + 1) [.int .i64 0, .int .i64 15] from HS.out)
    generalize (w1.alloc (.cells #[.int .i64 20, .int .i64 0, .int .i64 15, .int .i64 127] 123)).alloc (.cells #[.int .i64 0, .int .i64 15] 105) = W2 at *
    refine (isCost_any y.c0 y.c1 y.c2 y.c3 20 false H1.out _).mono ?_
    rintro e w2 ⟨rfl, hb⟩
    have HB3 := Lib.hid (below_then' HB2.out hb HB2.out.size)
    have HN3 := Lib.hid (HN.out.next hb)
    have HS3 := Lib.hid (HS.out.next hb)
    clear hb
    obtain ⟨q0, q1, q2, q3, q4, q5, q6, q7, q8, q9, q10⟩ := (HX.out.next HB3.out).cells
    have n0 := HN3.out.2 0 (by decide)
    have n1 := HN3.out.2 1 (by decide)
    have n2 := HN3.out.2 2 (by decide)
    have n3 := HN3.out.2 3 (by decide)
    have s0 := HS3.out.2 0 (by decide)
    have s1 := HS3.out.2 1 (by decide)
    simp only [List.getElem?_cons_zero, List.getElem?_cons_succ] at n0 n1 n2 n3 s0 s1
    go_wp2_with fail
    go_ret
    exact ⟨bool_ret HV.out.symm, HW.out.trans (HB3.out.mono HW.out.size)⟩
  · have HE := Lib.hid (show (btw 0 127 y.keys && wi [⟨y.col, 0, 0⟩, ⟨y.pow, 0, 15⟩, ⟨y.tou, 0, 15⟩]) = r by rw [← HR.out]; simp [mayB, HK.out, t1, keysB, hn, btw])
    have H1 := Lib.hid t1
    clear t1
    cases t2 : btw 0 127 y.keys
    · have HV := Lib.hid (show r = false by rw [← HE.out, t2, Bool.false_and])
      have t3 := (keys_all y.keys hy).trans t2
      clear t2
      go_enter Tryz.func67, Tryz.ntmps67
      go_wp2_with fail
      generalize w.alloc (.cells #[.string y.nm, .int .i64 y.k, .int .i64 y.c0, .int .i64 y.c1, .int .i64 y.c2, .int .i64 y.c3, .int .i64 y.col, .int .i64 y.pow, .int .i64 y.tou, .int .i64 y.keys, .slice y.aa y.an y.ac] 38) = W at *
      refine (within_at [⟨y.k, 1, 4⟩] _ _ rfl 1 rfl (by omega) true (by rw [wi_one, HK.out]; decide) _ _ HZ.out).mono ?_
      rintro e w1 ⟨rfl, hb⟩
      have HB1 := Lib.hid hb
      clear hb
      obtain ⟨q0, q1, q2, q3, q4, q5, q6, q7, q8, q9, q10⟩ := (HX.out.next HB1.out).cells
      rw [HK.out] at q1
      obtain ⟨m0, m1, m2, m3⟩ : w1.cell? ⟨0, 8, none⟩ = some (.int .i64 20) ∧ w1.cell? ⟨0, 9, none⟩ = some (.int .i64 0) ∧ w1.cell? ⟨0, 10, none⟩ = some (.int .i64 15) ∧ w1.cell? ⟨0, 11, none⟩ = some (.int .i64 127) := by
        have h := (HT.out.next HB1.out).kinds
        exact ⟨h 8 (by omega), h 9 (by omega), h 10 (by omega), h 11 (by omega)⟩
      have hz1 : w.heap.size < w1.heap.size := by have := HB1.out.size; have := HZ.out; omega
      go_wp2_with fail
      clear q0 q1 q2 q3 q4 q5 q6 q7 q8 q9 q10 m0 m1 m2 m3
      have HB2 := Lib.hid (show Below W.heap.size W ((w1.alloc (.cells #[.int .i64 20, .int .i64 0, .int .i64 15, .int .i64 127] 123)).alloc (.cells #[.int .i64 0, .int .i64 15] 105)) from below_then' HB1.out (below_alloc2 _ _ _) HB1.out.size)
      have HN := Lib.hid (litAt_one w1 [.int .i64 20, .int .i64 0, .int .i64 15, .int .i64 127] 123 (.cells #[.int .i64 0, .int .i64 15] 105))
      have HS := Lib.hid (litAt_two w1 [.int .i64 0, .int .i64 15] 105 (.cells #[.int .i64 20, .int .i64 0, .int .i64 15, .int .i64 127] 123))
      replace HN := Lib.hid (show LitAt ((w1.alloc (.cells #[.int .i64 20, .int .i64 0, .int .i64 15, .int .i64 127] 123)).alloc (.cells #[.int .i64 0, .int .i64 15] 105)) w1.heap.size [.int .i64 20, .int .i64 0, .int .i64 15, .int .i64 127] from HN.out)
      replace HS := Lib.hid (show LitAt ((w1.alloc (.cells #[.int .i64 20, .int .i64 0, .int .i64 15, .int .i64 127] 123)).alloc (.cells #[.int .i64 0, .int .i64 15] 105)) (w1.heap.size + 1) [.int .i64 0, .int .i64 15] from HS.out)
      generalize (w1.alloc (.cells #[.int .i64 20, .int .i64 0, .int .i64 15, .int .i64 127] 123)).alloc (.cells #[.int .i64 0, .int .i64 15] 105) = W2 at *
      refine (isCost_any y.c0 y.c1 y.c2 y.c3 20 true H1.out _).mono ?_
      rintro e w2 ⟨rfl, hb⟩
      have HB3 := Lib.hid (below_then' HB2.out hb HB2.out.size)
      have HN3 := Lib.hid (HN.out.next hb)
      have HS3 := Lib.hid (HS.out.next hb)
      clear hb
      obtain ⟨q0, q1, q2, q3, q4, q5, q6, q7, q8, q9, q10⟩ := (HX.out.next HB3.out).cells
      have n0 := HN3.out.2 0 (by decide)
      have n1 := HN3.out.2 1 (by decide)
      have n2 := HN3.out.2 2 (by decide)
      have n3 := HN3.out.2 3 (by decide)
      have s0 := HS3.out.2 0 (by decide)
      have s1 := HS3.out.2 1 (by decide)
      simp only [List.getElem?_cons_zero, List.getElem?_cons_succ] at n0 n1 n2 n3 s0 s1
      go_wp2_with fail
      go_ret
      exact ⟨bool_ret HV.out.symm, HW.out.trans (HB3.out.mono HW.out.size)⟩
    · have HV := Lib.hid (show wi [⟨y.col, 0, 0⟩, ⟨y.pow, 0, 15⟩, ⟨y.tou, 0, 15⟩] = r by rw [← HE.out, t2, Bool.true_and])
      have t3 := (keys_all y.keys hy).trans t2
      clear t2
      go_enter Tryz.func67, Tryz.ntmps67
      go_wp2_with fail
      generalize w.alloc (.cells #[.string y.nm, .int .i64 y.k, .int .i64 y.c0, .int .i64 y.c1, .int .i64 y.c2, .int .i64 y.c3, .int .i64 y.col, .int .i64 y.pow, .int .i64 y.tou, .int .i64 y.keys, .slice y.aa y.an y.ac] 38) = W at *
      refine (within_at [⟨y.k, 1, 4⟩] _ _ rfl 1 rfl (by omega) true (by rw [wi_one, HK.out]; decide) _ _ HZ.out).mono ?_
      rintro e w1 ⟨rfl, hb⟩
      have HB1 := Lib.hid hb
      clear hb
      obtain ⟨q0, q1, q2, q3, q4, q5, q6, q7, q8, q9, q10⟩ := (HX.out.next HB1.out).cells
      rw [HK.out] at q1
      obtain ⟨m0, m1, m2, m3⟩ : w1.cell? ⟨0, 8, none⟩ = some (.int .i64 20) ∧ w1.cell? ⟨0, 9, none⟩ = some (.int .i64 0) ∧ w1.cell? ⟨0, 10, none⟩ = some (.int .i64 15) ∧ w1.cell? ⟨0, 11, none⟩ = some (.int .i64 127) := by
        have h := (HT.out.next HB1.out).kinds
        exact ⟨h 8 (by omega), h 9 (by omega), h 10 (by omega), h 11 (by omega)⟩
      have hz1 : w.heap.size < w1.heap.size := by have := HB1.out.size; have := HZ.out; omega
      go_wp2_with fail
      clear q0 q1 q2 q3 q4 q5 q6 q7 q8 q9 q10 m0 m1 m2 m3
      have HB2 := Lib.hid (show Below W.heap.size W ((w1.alloc (.cells #[.int .i64 20, .int .i64 0, .int .i64 15, .int .i64 127] 123)).alloc (.cells #[.int .i64 0, .int .i64 15] 105)) from below_then' HB1.out (below_alloc2 _ _ _) HB1.out.size)
      have HN := Lib.hid (litAt_one w1 [.int .i64 20, .int .i64 0, .int .i64 15, .int .i64 127] 123 (.cells #[.int .i64 0, .int .i64 15] 105))
      have HS := Lib.hid (litAt_two w1 [.int .i64 0, .int .i64 15] 105 (.cells #[.int .i64 20, .int .i64 0, .int .i64 15, .int .i64 127] 123))
      replace HN := Lib.hid (show LitAt ((w1.alloc (.cells #[.int .i64 20, .int .i64 0, .int .i64 15, .int .i64 127] 123)).alloc (.cells #[.int .i64 0, .int .i64 15] 105)) w1.heap.size [.int .i64 20, .int .i64 0, .int .i64 15, .int .i64 127] from HN.out)
      replace HS := Lib.hid (show LitAt ((w1.alloc (.cells #[.int .i64 20, .int .i64 0, .int .i64 15, .int .i64 127] 123)).alloc (.cells #[.int .i64 0, .int .i64 15] 105)) (w1.heap.size + 1) [.int .i64 0, .int .i64 15] from HS.out)
      generalize (w1.alloc (.cells #[.int .i64 20, .int .i64 0, .int .i64 15, .int .i64 127] 123)).alloc (.cells #[.int .i64 0, .int .i64 15] 105) = W2 at *
      refine (isCost_any y.c0 y.c1 y.c2 y.c3 20 true H1.out _).mono ?_
      rintro e w2 ⟨rfl, hb⟩
      have HB3 := Lib.hid (below_then' HB2.out hb HB2.out.size)
      have HN3 := Lib.hid (HN.out.next hb)
      have HS3 := Lib.hid (HS.out.next hb)
      clear hb
      obtain ⟨q0, q1, q2, q3, q4, q5, q6, q7, q8, q9, q10⟩ := (HX.out.next HB3.out).cells
      have n0 := HN3.out.2 0 (by decide)
      have n1 := HN3.out.2 1 (by decide)
      have n2 := HN3.out.2 2 (by decide)
      have n3 := HN3.out.2 3 (by decide)
      have s0 := HS3.out.2 0 (by decide)
      have s1 := HS3.out.2 1 (by decide)
      simp only [List.getElem?_cons_zero, List.getElem?_cons_succ] at n0 n1 n2 n3 s0 s1
      go_wp2_with fail
      refine (within_new [⟨y.col, 0, 0⟩, ⟨y.pow, 0, 15⟩, ⟨y.tou, 0, 15⟩] _ _ rfl 3 rfl (by omega) r HV.out _).mono ?_
      rintro e w3 ⟨rfl, hb⟩
      have HB4 := Lib.hid (below_then' HB3.out hb HB3.out.size)
      clear hb
      go_wp2_with fail
      go_ret
      exact ⟨rfl, HW.out.trans (HB4.out.mono HW.out.size)⟩
set_option maxRecDepth 100000 in
set_option maxHeartbeats 4000000 in
theorem mayBe_spell (y : Cd) (hk : y.k = 3) (hn : y.nm.toList.isEmpty = false) (hy : In64 y.keys) (r : Bool) (hr : mayB y = r) (w : World) (hT : Tabs w) :
    Calls Tryz.prog 67 #[.agg #[.string y.nm, .int .i64 y.k, .int .i64 y.c0, .int .i64 y.c1, .int .i64 y.c2, .int .i64 y.c3, .int .i64 y.col, .int .i64 y.pow, .int .i64 y.tou, .int .i64 y.keys, .slice y.aa y.an y.ac]] w fun e w' => e = .returned (.bool r) ∧ Below w.heap.size w w' := by
  have HW := Lib.hid (below_alloc1 w (.cells #[.string y.nm, .int .i64 y.k, .int .i64 y.c0, .int .i64 y.c1, .int .i64 y.c2, .int .i64 y.c3, .int .i64 y.col, .int .i64 y.pow, .int .i64 y.tou, .int .i64 y.keys, .slice y.aa y.an y.ac] 38))
  have HX := Lib.hid (boxC_new w y 38)
  have HZ := Lib.hid (show w.heap.size + 1 = (w.alloc (.cells #[.string y.nm, .int .i64 y.k, .int .i64 y.c0, .int .i64 y.c1, .int .i64 y.c2, .int .i64 y.c3, .int .i64 y.col, .int .i64 y.pow, .int .i64 y.tou, .int .i64 y.keys, .slice y.aa y.an y.ac] 38)).heap.size by simp)
  have HT := Lib.hid (hT.next HW.out)
  have HK := Lib.hid hk
  have HR := Lib.hid hr
  clear hk hT hr
  cases t1 : wi (costL 20 y.c0 y.c1 y.c2 y.c3)
  · have HV := Lib.hid (show r = false by rw [← HR.out]; simp [mayB, HK.out, t1])
    have H1 := Lib.hid t1
    clear t1
    go_enter Tryz.func67, Tryz.ntmps67
    go_wp2_with fail
    generalize w.alloc (.cells #[.string y.nm, .int .i64 y.k, .int .i64 y.c0, .int .i64 y.c1, .int .i64 y.c2, .int .i64 y.c3, .int .i64 y.col, .int .i64 y.pow, .int .i64 y.tou, .int .i64 y.keys, .slice y.aa y.an y.ac] 38) = W at *
    refine (within_at [⟨y.k, 1, 4⟩] _ _ rfl 1 rfl (by omega) true (by rw [wi_one, HK.out]; decide) _ _ HZ.out).mono ?_
    rintro e w1 ⟨rfl, hb⟩
    have HB1 := Lib.hid hb
    clear hb
    obtain ⟨q0, q1, q2, q3, q4, q5, q6, q7, q8, q9, q10⟩ := (HX.out.next HB1.out).cells
    rw [HK.out] at q1
    obtain ⟨m0, m1, m2, m3⟩ : w1.cell? ⟨0, 12, none⟩ = some (.int .i64 20) ∧ w1.cell? ⟨0, 13, none⟩ = some (.int .i64 0) ∧ w1.cell? ⟨0, 14, none⟩ = some (.int .i64 0) ∧ w1.cell? ⟨0, 15, none⟩ = some (.int .i64 64) := by
      have h := (HT.out.next HB1.out).kinds
      exact ⟨h 12 (by omega), h 13 (by omega), h 14 (by omega), h 15 (by omega)⟩
    have hz1 : w.heap.size < w1.heap.size := by have := HB1.out.size; have := HZ.out; omega
    go_wp2_with fail
    clear q0 q1 q2 q3 q4 q5 q6 q7 q8 q9 q10 m0 m1 m2 m3
    have HB2 := Lib.hid (show Below W.heap.size W ((w1.alloc (.cells #[.int .i64 20, .int .i64 0, .int .i64 0, .int .i64 64] 123)).alloc (.cells #[.int .i64 0, .int .i64 0] 105)) from below_then' HB1.out (below_alloc2 _ _ _) HB1.out.size)
    have HN := Lib.hid (litAt_one w1 [.int .i64 20, .int .i64 0, .int .i64 0, .int .i64 64] 123 (.cells #[.int .i64 0, .int .i64 0] 105))
    have HS := Lib.hid (litAt_two w1 [.int .i64 0, .int .i64 0] 105 (.cells #[.int .i64 20, .int .i64 0, .int .i64 0, .int .i64 64] 123))
    replace HN := Lib.hid (show LitAt ((w1.alloc (.cells #[.int .i64 20, .int .i64 0, .int .i64 0, .int .i64 64] 123)).alloc (.cells #[.int .i64 0, .int .i64 0] 105)) w1.heap.size [.int .i64 20, .int .i64 0, .int .i64 0, .int .i64 64] from HN.out)
    replace HS := Lib.hid (show LitAt ((w1.alloc (.cells #[.int .i64 20, .int .i64 0, .int .i64 0, .int .i64 64] 123)).alloc (.cells #[.int .i64 0, .int .i64 0] 105)) (w1.heap.size + 1) [.int .i64 0, .int .i64 0] from HS.out)
    generalize (w1.alloc (.cells #[.int .i64 20, .int .i64 0, .int .i64 0, .int .i64 64] 123)).alloc (.cells #[.int .i64 0, .int .i64 0] 105) = W2 at *
    refine (isCost_any y.c0 y.c1 y.c2 y.c3 20 false H1.out _).mono ?_
    rintro e w2 ⟨rfl, hb⟩
    have HB3 := Lib.hid (below_then' HB2.out hb HB2.out.size)
    have HN3 := Lib.hid (HN.out.next hb)
    have HS3 := Lib.hid (HS.out.next hb)
    clear hb
    obtain ⟨q0, q1, q2, q3, q4, q5, q6, q7, q8, q9, q10⟩ := (HX.out.next HB3.out).cells
    have n0 := HN3.out.2 0 (by decide)
    have n1 := HN3.out.2 1 (by decide)
    have n2 := HN3.out.2 2 (by decide)
    have n3 := HN3.out.2 3 (by decide)
    have s0 := HS3.out.2 0 (by decide)
    have s1 := HS3.out.2 1 (by decide)
    simp only [List.getElem?_cons_zero, List.getElem?_cons_succ] at n0 n1 n2 n3 s0 s1
    go_wp2_with fail
    go_ret
    exact ⟨bool_ret HV.out.symm, HW.out.trans (HB3.out.mono HW.out.size)⟩
  · have HE := Lib.hid (show ((y.keys == 0 || y.keys == 64) && wi [⟨y.col, 0, 0⟩, ⟨y.pow, 0, 0⟩, ⟨y.tou, 0, 0⟩]) = r by rw [← HR.out]; simp [mayB, HK.out, t1, keysB, hn, btw])
    have H1 := Lib.hid t1
    clear t1
    cases t2 : (y.keys == 0 || y.keys == 64)
    · have HV := Lib.hid (show r = false by rw [← HE.out, t2, Bool.false_and])
      have t3 := (keys_swift y.keys hy).trans t2
      clear t2
      go_enter Tryz.func67, Tryz.ntmps67
      go_wp2_with fail
      generalize w.alloc (.cells #[.string y.nm, .int .i64 y.k, .int .i64 y.c0, .int .i64 y.c1, .int .i64 y.c2, .int .i64 y.c3, .int .i64 y.col, .int .i64 y.pow, .int .i64 y.tou, .int .i64 y.keys, .slice y.aa y.an y.ac] 38) = W at *
      refine (within_at [⟨y.k, 1, 4⟩] _ _ rfl 1 rfl (by omega) true (by rw [wi_one, HK.out]; decide) _ _ HZ.out).mono ?_
      rintro e w1 ⟨rfl, hb⟩
      have HB1 := Lib.hid hb
      clear hb
      obtain ⟨q0, q1, q2, q3, q4, q5, q6, q7, q8, q9, q10⟩ := (HX.out.next HB1.out).cells
      rw [HK.out] at q1
      obtain ⟨m0, m1, m2, m3⟩ : w1.cell? ⟨0, 12, none⟩ = some (.int .i64 20) ∧ w1.cell? ⟨0, 13, none⟩ = some (.int .i64 0) ∧ w1.cell? ⟨0, 14, none⟩ = some (.int .i64 0) ∧ w1.cell? ⟨0, 15, none⟩ = some (.int .i64 64) := by
        have h := (HT.out.next HB1.out).kinds
        exact ⟨h 12 (by omega), h 13 (by omega), h 14 (by omega), h 15 (by omega)⟩
      have hz1 : w.heap.size < w1.heap.size := by have := HB1.out.size; have := HZ.out; omega
      go_wp2_with fail
      clear q0 q1 q2 q3 q4 q5 q6 q7 q8 q9 q10 m0 m1 m2 m3
      have HB2 := Lib.hid (show Below W.heap.size W ((w1.alloc (.cells #[.int .i64 20, .int .i64 0, .int .i64 0, .int .i64 64] 123)).alloc (.cells #[.int .i64 0, .int .i64 0] 105)) from below_then' HB1.out (below_alloc2 _ _ _) HB1.out.size)
      have HN := Lib.hid (litAt_one w1 [.int .i64 20, .int .i64 0, .int .i64 0, .int .i64 64] 123 (.cells #[.int .i64 0, .int .i64 0] 105))
      have HS := Lib.hid (litAt_two w1 [.int .i64 0, .int .i64 0] 105 (.cells #[.int .i64 20, .int .i64 0, .int .i64 0, .int .i64 64] 123))
      replace HN := Lib.hid (show LitAt ((w1.alloc (.cells #[.int .i64 20, .int .i64 0, .int .i64 0, .int .i64 64] 123)).alloc (.cells #[.int .i64 0, .int .i64 0] 105)) w1.heap.size [.int .i64 20, .int .i64 0, .int .i64 0, .int .i64 64] from HN.out)
      replace HS := Lib.hid (show LitAt ((w1.alloc (.cells #[.int .i64 20, .int .i64 0, .int .i64 0, .int .i64 64] 123)).alloc (.cells #[.int .i64 0, .int .i64 0] 105)) (w1.heap.size + 1) [.int .i64 0, .int .i64 0] from HS.out)
      generalize (w1.alloc (.cells #[.int .i64 20, .int .i64 0, .int .i64 0, .int .i64 64] 123)).alloc (.cells #[.int .i64 0, .int .i64 0] 105) = W2 at *
      refine (isCost_any y.c0 y.c1 y.c2 y.c3 20 true H1.out _).mono ?_
      rintro e w2 ⟨rfl, hb⟩
      have HB3 := Lib.hid (below_then' HB2.out hb HB2.out.size)
      have HN3 := Lib.hid (HN.out.next hb)
      have HS3 := Lib.hid (HS.out.next hb)
      clear hb
      obtain ⟨q0, q1, q2, q3, q4, q5, q6, q7, q8, q9, q10⟩ := (HX.out.next HB3.out).cells
      have n0 := HN3.out.2 0 (by decide)
      have n1 := HN3.out.2 1 (by decide)
      have n2 := HN3.out.2 2 (by decide)
      have n3 := HN3.out.2 3 (by decide)
      have s0 := HS3.out.2 0 (by decide)
      have s1 := HS3.out.2 1 (by decide)
      simp only [List.getElem?_cons_zero, List.getElem?_cons_succ] at n0 n1 n2 n3 s0 s1
      go_wp2_with fail
      go_ret
      exact ⟨bool_ret HV.out.symm, HW.out.trans (HB3.out.mono HW.out.size)⟩
    · have HV := Lib.hid (show wi [⟨y.col, 0, 0⟩, ⟨y.pow, 0, 0⟩, ⟨y.tou, 0, 0⟩] = r by rw [← HE.out, t2, Bool.true_and])
      have t3 := (keys_swift y.keys hy).trans t2
      clear t2
      go_enter Tryz.func67, Tryz.ntmps67
      go_wp2_with fail
      generalize w.alloc (.cells #[.string y.nm, .int .i64 y.k, .int .i64 y.c0, .int .i64 y.c1, .int .i64 y.c2, .int .i64 y.c3, .int .i64 y.col, .int .i64 y.pow, .int .i64 y.tou, .int .i64 y.keys, .slice y.aa y.an y.ac] 38) = W at *
      refine (within_at [⟨y.k, 1, 4⟩] _ _ rfl 1 rfl (by omega) true (by rw [wi_one, HK.out]; decide) _ _ HZ.out).mono ?_
      rintro e w1 ⟨rfl, hb⟩
      have HB1 := Lib.hid hb
      clear hb
      obtain ⟨q0, q1, q2, q3, q4, q5, q6, q7, q8, q9, q10⟩ := (HX.out.next HB1.out).cells
      rw [HK.out] at q1
      obtain ⟨m0, m1, m2, m3⟩ : w1.cell? ⟨0, 12, none⟩ = some (.int .i64 20) ∧ w1.cell? ⟨0, 13, none⟩ = some (.int .i64 0) ∧ w1.cell? ⟨0, 14, none⟩ = some (.int .i64 0) ∧ w1.cell? ⟨0, 15, none⟩ = some (.int .i64 64) := by
        have h := (HT.out.next HB1.out).kinds
        exact ⟨h 12 (by omega), h 13 (by omega), h 14 (by omega), h 15 (by omega)⟩
      have hz1 : w.heap.size < w1.heap.size := by have := HB1.out.size; have := HZ.out; omega
      go_wp2_with fail
      clear q0 q1 q2 q3 q4 q5 q6 q7 q8 q9 q10 m0 m1 m2 m3
      have HB2 := Lib.hid (show Below W.heap.size W ((w1.alloc (.cells #[.int .i64 20, .int .i64 0, .int .i64 0, .int .i64 64] 123)).alloc (.cells #[.int .i64 0, .int .i64 0] 105)) from below_then' HB1.out (below_alloc2 _ _ _) HB1.out.size)
      have HN := Lib.hid (litAt_one w1 [.int .i64 20, .int .i64 0, .int .i64 0, .int .i64 64] 123 (.cells #[.int .i64 0, .int .i64 0] 105))
      have HS := Lib.hid (litAt_two w1 [.int .i64 0, .int .i64 0] 105 (.cells #[.int .i64 20, .int .i64 0, .int .i64 0, .int .i64 64] 123))
      replace HN := Lib.hid (show LitAt ((w1.alloc (.cells #[.int .i64 20, .int .i64 0, .int .i64 0, .int .i64 64] 123)).alloc (.cells #[.int .i64 0, .int .i64 0] 105)) w1.heap.size [.int .i64 20, .int .i64 0, .int .i64 0, .int .i64 64] from HN.out)
      replace HS := Lib.hid (show LitAt ((w1.alloc (.cells #[.int .i64 20, .int .i64 0, .int .i64 0, .int .i64 64] 123)).alloc (.cells #[.int .i64 0, .int .i64 0] 105)) (w1.heap.size + 1) [.int .i64 0, .int .i64 0] from HS.out)
      generalize (w1.alloc (.cells #[.int .i64 20, .int .i64 0, .int .i64 0, .int .i64 64] 123)).alloc (.cells #[.int .i64 0, .int .i64 0] 105) = W2 at *
      refine (isCost_any y.c0 y.c1 y.c2 y.c3 20 true H1.out _).mono ?_
      rintro e w2 ⟨rfl, hb⟩
      have HB3 := Lib.hid (below_then' HB2.out hb HB2.out.size)
      have HN3 := Lib.hid (HN.out.next hb)
      have HS3 := Lib.hid (HS.out.next hb)
      clear hb
      obtain ⟨q0, q1, q2, q3, q4, q5, q6, q7, q8, q9, q10⟩ := (HX.out.next HB3.out).cells
      have n0 := HN3.out.2 0 (by decide)
      have n1 := HN3.out.2 1 (by decide)
      have n2 := HN3.out.2 2 (by decide)
      have n3 := HN3.out.2 3 (by decide)
      have s0 := HS3.out.2 0 (by decide)
      have s1 := HS3.out.2 1 (by decide)
      simp only [List.getElem?_cons_zero, List.getElem?_cons_succ] at n0 n1 n2 n3 s0 s1
      go_wp2_with fail
      refine (within_new [⟨y.col, 0, 0⟩, ⟨y.pow, 0, 0⟩, ⟨y.tou, 0, 0⟩] _ _ rfl 3 rfl (by omega) r HV.out _).mono ?_
      rintro e w3 ⟨rfl, hb⟩
      have HB4 := Lib.hid (below_then' HB3.out hb HB3.out.size)
      clear hb
      go_wp2_with fail
      go_ret
      exact ⟨rfl, HW.out.trans (HB4.out.mono HW.out.size)⟩
set_option maxRecDepth 100000 in
set_option maxHeartbeats 4000000 in
theorem mayBe_relic (y : Cd) (hk : y.k = 4) (hn : y.nm.toList.isEmpty = false) (hy : In64 y.keys) (r : Bool) (hr : mayB y = r) (w : World) (hT : Tabs w) :
    Calls Tryz.prog 67 #[.agg #[.string y.nm, .int .i64 y.k, .int .i64 y.c0, .int .i64 y.c1, .int .i64 y.c2, .int .i64 y.c3, .int .i64 y.col, .int .i64 y.pow, .int .i64 y.tou, .int .i64 y.keys, .slice y.aa y.an y.ac]] w fun e w' => e = .returned (.bool r) ∧ Below w.heap.size w w' := by
  have HW := Lib.hid (below_alloc1 w (.cells #[.string y.nm, .int .i64 y.k, .int .i64 y.c0, .int .i64 y.c1, .int .i64 y.c2, .int .i64 y.c3, .int .i64 y.col, .int .i64 y.pow, .int .i64 y.tou, .int .i64 y.keys, .slice y.aa y.an y.ac] 38))
  have HX := Lib.hid (boxC_new w y 38)
  have HZ := Lib.hid (show w.heap.size + 1 = (w.alloc (.cells #[.string y.nm, .int .i64 y.k, .int .i64 y.c0, .int .i64 y.c1, .int .i64 y.c2, .int .i64 y.c3, .int .i64 y.col, .int .i64 y.pow, .int .i64 y.tou, .int .i64 y.keys, .slice y.aa y.an y.ac] 38)).heap.size by simp)
  have HT := Lib.hid (hT.next HW.out)
  have HK := Lib.hid hk
  have HR := Lib.hid hr
  clear hk hT hr
  cases t1 : wi (costL 20 y.c0 y.c1 y.c2 y.c3)
  · have HV := Lib.hid (show r = false by rw [← HR.out]; simp [mayB, HK.out, t1])
    have H1 := Lib.hid t1
    clear t1
    go_enter Tryz.func67, Tryz.ntmps67
    go_wp2_with fail
    generalize w.alloc (.cells #[.string y.nm, .int .i64 y.k, .int .i64 y.c0, .int .i64 y.c1, .int .i64 y.c2, .int .i64 y.c3, .int .i64 y.col, .int .i64 y.pow, .int .i64 y.tou, .int .i64 y.keys, .slice y.aa y.an y.ac] 38) = W at *
    refine (within_at [⟨y.k, 1, 4⟩] _ _ rfl 1 rfl (by omega) true (by rw [wi_one, HK.out]; decide) _ _ HZ.out).mono ?_
    rintro e w1 ⟨rfl, hb⟩
    have HB1 := Lib.hid hb
    clear hb
    obtain ⟨q0, q1, q2, q3, q4, q5, q6, q7, q8, q9, q10⟩ := (HX.out.next HB1.out).cells
    rw [HK.out] at q1
    obtain ⟨m0, m1, m2, m3⟩ : w1.cell? ⟨0, 16, none⟩ = some (.int .i64 20) ∧ w1.cell? ⟨0, 17, none⟩ = some (.int .i64 0) ∧ w1.cell? ⟨0, 18, none⟩ = some (.int .i64 0) ∧ w1.cell? ⟨0, 19, none⟩ = some (.int .i64 64) := by
      have h := (HT.out.next HB1.out).kinds
      exact ⟨h 16 (by omega), h 17 (by omega), h 18 (by omega), h 19 (by omega)⟩
    have hz1 : w.heap.size < w1.heap.size := by have := HB1.out.size; have := HZ.out; omega
    go_wp2_with fail
    clear q0 q1 q2 q3 q4 q5 q6 q7 q8 q9 q10 m0 m1 m2 m3
    have HB2 := Lib.hid (show Below W.heap.size W ((w1.alloc (.cells #[.int .i64 20, .int .i64 0, .int .i64 0, .int .i64 64] 123)).alloc (.cells #[.int .i64 0, .int .i64 0] 105)) from below_then' HB1.out (below_alloc2 _ _ _) HB1.out.size)
    have HN := Lib.hid (litAt_one w1 [.int .i64 20, .int .i64 0, .int .i64 0, .int .i64 64] 123 (.cells #[.int .i64 0, .int .i64 0] 105))
    have HS := Lib.hid (litAt_two w1 [.int .i64 0, .int .i64 0] 105 (.cells #[.int .i64 20, .int .i64 0, .int .i64 0, .int .i64 64] 123))
    replace HN := Lib.hid (show LitAt ((w1.alloc (.cells #[.int .i64 20, .int .i64 0, .int .i64 0, .int .i64 64] 123)).alloc (.cells #[.int .i64 0, .int .i64 0] 105)) w1.heap.size [.int .i64 20, .int .i64 0, .int .i64 0, .int .i64 64] from HN.out)
    replace HS := Lib.hid (show LitAt ((w1.alloc (.cells #[.int .i64 20, .int .i64 0, .int .i64 0, .int .i64 64] 123)).alloc (.cells #[.int .i64 0, .int .i64 0] 105)) (w1.heap.size + 1) [.int .i64 0, .int .i64 0] from HS.out)
    generalize (w1.alloc (.cells #[.int .i64 20, .int .i64 0, .int .i64 0, .int .i64 64] 123)).alloc (.cells #[.int .i64 0, .int .i64 0] 105) = W2 at *
    refine (isCost_any y.c0 y.c1 y.c2 y.c3 20 false H1.out _).mono ?_
    rintro e w2 ⟨rfl, hb⟩
    have HB3 := Lib.hid (below_then' HB2.out hb HB2.out.size)
    have HN3 := Lib.hid (HN.out.next hb)
    have HS3 := Lib.hid (HS.out.next hb)
    clear hb
    obtain ⟨q0, q1, q2, q3, q4, q5, q6, q7, q8, q9, q10⟩ := (HX.out.next HB3.out).cells
    have n0 := HN3.out.2 0 (by decide)
    have n1 := HN3.out.2 1 (by decide)
    have n2 := HN3.out.2 2 (by decide)
    have n3 := HN3.out.2 3 (by decide)
    have s0 := HS3.out.2 0 (by decide)
    have s1 := HS3.out.2 1 (by decide)
    simp only [List.getElem?_cons_zero, List.getElem?_cons_succ] at n0 n1 n2 n3 s0 s1
    go_wp2_with fail
    go_ret
    exact ⟨bool_ret HV.out.symm, HW.out.trans (HB3.out.mono HW.out.size)⟩
  · have HE := Lib.hid (show ((y.keys == 0 || y.keys == 64) && wi [⟨y.col, 0, 0⟩, ⟨y.pow, 0, 0⟩, ⟨y.tou, 0, 0⟩]) = r by rw [← HR.out]; simp [mayB, HK.out, t1, keysB, hn, btw])
    have H1 := Lib.hid t1
    clear t1
    cases t2 : (y.keys == 0 || y.keys == 64)
    · have HV := Lib.hid (show r = false by rw [← HE.out, t2, Bool.false_and])
      have t3 := (keys_swift y.keys hy).trans t2
      clear t2
      go_enter Tryz.func67, Tryz.ntmps67
      go_wp2_with fail
      generalize w.alloc (.cells #[.string y.nm, .int .i64 y.k, .int .i64 y.c0, .int .i64 y.c1, .int .i64 y.c2, .int .i64 y.c3, .int .i64 y.col, .int .i64 y.pow, .int .i64 y.tou, .int .i64 y.keys, .slice y.aa y.an y.ac] 38) = W at *
      refine (within_at [⟨y.k, 1, 4⟩] _ _ rfl 1 rfl (by omega) true (by rw [wi_one, HK.out]; decide) _ _ HZ.out).mono ?_
      rintro e w1 ⟨rfl, hb⟩
      have HB1 := Lib.hid hb
      clear hb
      obtain ⟨q0, q1, q2, q3, q4, q5, q6, q7, q8, q9, q10⟩ := (HX.out.next HB1.out).cells
      rw [HK.out] at q1
      obtain ⟨m0, m1, m2, m3⟩ : w1.cell? ⟨0, 16, none⟩ = some (.int .i64 20) ∧ w1.cell? ⟨0, 17, none⟩ = some (.int .i64 0) ∧ w1.cell? ⟨0, 18, none⟩ = some (.int .i64 0) ∧ w1.cell? ⟨0, 19, none⟩ = some (.int .i64 64) := by
        have h := (HT.out.next HB1.out).kinds
        exact ⟨h 16 (by omega), h 17 (by omega), h 18 (by omega), h 19 (by omega)⟩
      have hz1 : w.heap.size < w1.heap.size := by have := HB1.out.size; have := HZ.out; omega
      go_wp2_with fail
      clear q0 q1 q2 q3 q4 q5 q6 q7 q8 q9 q10 m0 m1 m2 m3
      have HB2 := Lib.hid (show Below W.heap.size W ((w1.alloc (.cells #[.int .i64 20, .int .i64 0, .int .i64 0, .int .i64 64] 123)).alloc (.cells #[.int .i64 0, .int .i64 0] 105)) from below_then' HB1.out (below_alloc2 _ _ _) HB1.out.size)
      have HN := Lib.hid (litAt_one w1 [.int .i64 20, .int .i64 0, .int .i64 0, .int .i64 64] 123 (.cells #[.int .i64 0, .int .i64 0] 105))
      have HS := Lib.hid (litAt_two w1 [.int .i64 0, .int .i64 0] 105 (.cells #[.int .i64 20, .int .i64 0, .int .i64 0, .int .i64 64] 123))
      replace HN := Lib.hid (show LitAt ((w1.alloc (.cells #[.int .i64 20, .int .i64 0, .int .i64 0, .int .i64 64] 123)).alloc (.cells #[.int .i64 0, .int .i64 0] 105)) w1.heap.size [.int .i64 20, .int .i64 0, .int .i64 0, .int .i64 64] from HN.out)
      replace HS := Lib.hid (show LitAt ((w1.alloc (.cells #[.int .i64 20, .int .i64 0, .int .i64 0, .int .i64 64] 123)).alloc (.cells #[.int .i64 0, .int .i64 0] 105)) (w1.heap.size + 1) [.int .i64 0, .int .i64 0] from HS.out)
      generalize (w1.alloc (.cells #[.int .i64 20, .int .i64 0, .int .i64 0, .int .i64 64] 123)).alloc (.cells #[.int .i64 0, .int .i64 0] 105) = W2 at *
      refine (isCost_any y.c0 y.c1 y.c2 y.c3 20 true H1.out _).mono ?_
      rintro e w2 ⟨rfl, hb⟩
      have HB3 := Lib.hid (below_then' HB2.out hb HB2.out.size)
      have HN3 := Lib.hid (HN.out.next hb)
      have HS3 := Lib.hid (HS.out.next hb)
      clear hb
      obtain ⟨q0, q1, q2, q3, q4, q5, q6, q7, q8, q9, q10⟩ := (HX.out.next HB3.out).cells
      have n0 := HN3.out.2 0 (by decide)
      have n1 := HN3.out.2 1 (by decide)
      have n2 := HN3.out.2 2 (by decide)
      have n3 := HN3.out.2 3 (by decide)
      have s0 := HS3.out.2 0 (by decide)
      have s1 := HS3.out.2 1 (by decide)
      simp only [List.getElem?_cons_zero, List.getElem?_cons_succ] at n0 n1 n2 n3 s0 s1
      go_wp2_with fail
      go_ret
      exact ⟨bool_ret HV.out.symm, HW.out.trans (HB3.out.mono HW.out.size)⟩
    · have HV := Lib.hid (show wi [⟨y.col, 0, 0⟩, ⟨y.pow, 0, 0⟩, ⟨y.tou, 0, 0⟩] = r by rw [← HE.out, t2, Bool.true_and])
      have t3 := (keys_swift y.keys hy).trans t2
      clear t2
      go_enter Tryz.func67, Tryz.ntmps67
      go_wp2_with fail
      generalize w.alloc (.cells #[.string y.nm, .int .i64 y.k, .int .i64 y.c0, .int .i64 y.c1, .int .i64 y.c2, .int .i64 y.c3, .int .i64 y.col, .int .i64 y.pow, .int .i64 y.tou, .int .i64 y.keys, .slice y.aa y.an y.ac] 38) = W at *
      refine (within_at [⟨y.k, 1, 4⟩] _ _ rfl 1 rfl (by omega) true (by rw [wi_one, HK.out]; decide) _ _ HZ.out).mono ?_
      rintro e w1 ⟨rfl, hb⟩
      have HB1 := Lib.hid hb
      clear hb
      obtain ⟨q0, q1, q2, q3, q4, q5, q6, q7, q8, q9, q10⟩ := (HX.out.next HB1.out).cells
      rw [HK.out] at q1
      obtain ⟨m0, m1, m2, m3⟩ : w1.cell? ⟨0, 16, none⟩ = some (.int .i64 20) ∧ w1.cell? ⟨0, 17, none⟩ = some (.int .i64 0) ∧ w1.cell? ⟨0, 18, none⟩ = some (.int .i64 0) ∧ w1.cell? ⟨0, 19, none⟩ = some (.int .i64 64) := by
        have h := (HT.out.next HB1.out).kinds
        exact ⟨h 16 (by omega), h 17 (by omega), h 18 (by omega), h 19 (by omega)⟩
      have hz1 : w.heap.size < w1.heap.size := by have := HB1.out.size; have := HZ.out; omega
      go_wp2_with fail
      clear q0 q1 q2 q3 q4 q5 q6 q7 q8 q9 q10 m0 m1 m2 m3
      have HB2 := Lib.hid (show Below W.heap.size W ((w1.alloc (.cells #[.int .i64 20, .int .i64 0, .int .i64 0, .int .i64 64] 123)).alloc (.cells #[.int .i64 0, .int .i64 0] 105)) from below_then' HB1.out (below_alloc2 _ _ _) HB1.out.size)
      have HN := Lib.hid (litAt_one w1 [.int .i64 20, .int .i64 0, .int .i64 0, .int .i64 64] 123 (.cells #[.int .i64 0, .int .i64 0] 105))
      have HS := Lib.hid (litAt_two w1 [.int .i64 0, .int .i64 0] 105 (.cells #[.int .i64 20, .int .i64 0, .int .i64 0, .int .i64 64] 123))
      replace HN := Lib.hid (show LitAt ((w1.alloc (.cells #[.int .i64 20, .int .i64 0, .int .i64 0, .int .i64 64] 123)).alloc (.cells #[.int .i64 0, .int .i64 0] 105)) w1.heap.size [.int .i64 20, .int .i64 0, .int .i64 0, .int .i64 64] from HN.out)
      replace HS := Lib.hid (show LitAt ((w1.alloc (.cells #[.int .i64 20, .int .i64 0, .int .i64 0, .int .i64 64] 123)).alloc (.cells #[.int .i64 0, .int .i64 0] 105)) (w1.heap.size + 1) [.int .i64 0, .int .i64 0] from HS.out)
      generalize (w1.alloc (.cells #[.int .i64 20, .int .i64 0, .int .i64 0, .int .i64 64] 123)).alloc (.cells #[.int .i64 0, .int .i64 0] 105) = W2 at *
      refine (isCost_any y.c0 y.c1 y.c2 y.c3 20 true H1.out _).mono ?_
      rintro e w2 ⟨rfl, hb⟩
      have HB3 := Lib.hid (below_then' HB2.out hb HB2.out.size)
      have HN3 := Lib.hid (HN.out.next hb)
      have HS3 := Lib.hid (HS.out.next hb)
      clear hb
      obtain ⟨q0, q1, q2, q3, q4, q5, q6, q7, q8, q9, q10⟩ := (HX.out.next HB3.out).cells
      have n0 := HN3.out.2 0 (by decide)
      have n1 := HN3.out.2 1 (by decide)
      have n2 := HN3.out.2 2 (by decide)
      have n3 := HN3.out.2 3 (by decide)
      have s0 := HS3.out.2 0 (by decide)
      have s1 := HS3.out.2 1 (by decide)
      simp only [List.getElem?_cons_zero, List.getElem?_cons_succ] at n0 n1 n2 n3 s0 s1
      go_wp2_with fail
      refine (within_new [⟨y.col, 0, 0⟩, ⟨y.pow, 0, 0⟩, ⟨y.tou, 0, 0⟩] _ _ rfl 3 rfl (by omega) r HV.out _).mono ?_
      rintro e w3 ⟨rfl, hb⟩
      have HB4 := Lib.hid (below_then' HB3.out hb HB3.out.size)
      clear hb
      go_wp2_with fail
      go_ret
      exact ⟨rfl, HW.out.trans (HB4.out.mono HW.out.size)⟩
set_option maxRecDepth 100000 in
set_option maxHeartbeats 4000000 in
theorem mayBe_nameless (y : Cd) (hn : y.nm.toList.isEmpty = true) (w : World) :
    Calls Tryz.prog 67 #[.agg #[.string y.nm, .int .i64 y.k, .int .i64 y.c0, .int .i64 y.c1, .int .i64 y.c2, .int .i64 y.c3, .int .i64 y.col, .int .i64 y.pow, .int .i64 y.tou, .int .i64 y.keys, .slice y.aa y.an y.ac]] w fun e w' => e = .returned (.bool false) ∧ Below w.heap.size w w' := by
  have HW := Lib.hid (below_alloc1 w (.cells #[.string y.nm, .int .i64 y.k, .int .i64 y.c0, .int .i64 y.c1, .int .i64 y.c2, .int .i64 y.c3, .int .i64 y.col, .int .i64 y.pow, .int .i64 y.tou, .int .i64 y.keys, .slice y.aa y.an y.ac] 38))
  have HX := Lib.hid (boxC_new w y 38)
  have HZ := Lib.hid (show w.heap.size + 1 = (w.alloc (.cells #[.string y.nm, .int .i64 y.k, .int .i64 y.c0, .int .i64 y.c1, .int .i64 y.c2, .int .i64 y.c3, .int .i64 y.col, .int .i64 y.pow, .int .i64 y.tou, .int .i64 y.keys, .slice y.aa y.an y.ac] 38)).heap.size by simp)
  go_enter Tryz.func67, Tryz.ntmps67
  go_wp2_with fail
  go_ret
  exact ⟨rfl, HW.out⟩
set_option maxRecDepth 100000 in
set_option maxHeartbeats 4000000 in
theorem mayBe_none (y : Cd) (hn : y.nm.toList.isEmpty = false) (hk : btw 1 4 y.k = false) (w : World) :
    Calls Tryz.prog 67 #[.agg #[.string y.nm, .int .i64 y.k, .int .i64 y.c0, .int .i64 y.c1, .int .i64 y.c2, .int .i64 y.c3, .int .i64 y.col, .int .i64 y.pow, .int .i64 y.tou, .int .i64 y.keys, .slice y.aa y.an y.ac]] w fun e w' => e = .returned (.bool false) ∧ Below w.heap.size w w' := by
  have HK := Lib.hid hk
  clear hk
  have HW := Lib.hid (below_alloc1 w (.cells #[.string y.nm, .int .i64 y.k, .int .i64 y.c0, .int .i64 y.c1, .int .i64 y.c2, .int .i64 y.c3, .int .i64 y.col, .int .i64 y.pow, .int .i64 y.tou, .int .i64 y.keys, .slice y.aa y.an y.ac] 38))
  have HX := Lib.hid (boxC_new w y 38)
  have HZ := Lib.hid (show w.heap.size + 1 = (w.alloc (.cells #[.string y.nm, .int .i64 y.k, .int .i64 y.c0, .int .i64 y.c1, .int .i64 y.c2, .int .i64 y.c3, .int .i64 y.col, .int .i64 y.pow, .int .i64 y.tou, .int .i64 y.keys, .slice y.aa y.an y.ac] 38)).heap.size by simp)
  go_enter Tryz.func67, Tryz.ntmps67
  go_wp2_with fail
  generalize w.alloc (.cells #[.string y.nm, .int .i64 y.k, .int .i64 y.c0, .int .i64 y.c1, .int .i64 y.c2, .int .i64 y.c3, .int .i64 y.col, .int .i64 y.pow, .int .i64 y.tou, .int .i64 y.keys, .slice y.aa y.an y.ac] 38) = W at *
  refine (within_at [⟨y.k, 1, 4⟩] _ _ rfl 1 rfl (by omega) false ((wi_one _ _ _).trans HK.out) _ _ HZ.out).mono ?_
  rintro e w1 ⟨rfl, hb⟩
  have HB1 := Lib.hid hb
  clear hb
  go_wp2_with fail
  go_ret
  exact ⟨rfl, HW.out.trans (HB1.out.mono HW.out.size)⟩
theorem mayBe_any (y : Cd) (hy : In64 y.keys) (r : Bool) (hr : mayB y = r) (w : World) (hT : Tabs w) :
    Calls Tryz.prog 67 #[.agg #[.string y.nm, .int .i64 y.k, .int .i64 y.c0, .int .i64 y.c1, .int .i64 y.c2, .int .i64 y.c3, .int .i64 y.col, .int .i64 y.pow, .int .i64 y.tou, .int .i64 y.keys, .slice y.aa y.an y.ac]] w fun e w' => e = .returned (.bool r) ∧ Below w.heap.size w w' := by
  cases hn : y.nm.toList.isEmpty
  · by_cases h1 : y.k = 1
    · exact mayBe_land y h1 hn hy r hr w hT
    · by_cases h2 : y.k = 2
      · exact mayBe_beast y h2 hn hy r hr w hT
      · by_cases h3 : y.k = 3
        · exact mayBe_spell y h3 hn hy r hr w hT
        · by_cases h4 : y.k = 4
          · exact mayBe_relic y h4 hn hy r hr w hT
          · have e : btw 1 4 y.k = false := by simp [btw]; omega
            obtain rfl : r = false := by rw [← hr]; simp [mayB, e]
            exact mayBe_none y hn e w
  · obtain rfl : r = false := by rw [← hr]; simp [mayB, hn]
    exact mayBe_nameless y hn w
end Go.Proofs.YtbeaaieaffdgeaaGreatDoor
end
/- canDo. -/
section
namespace Go.Proofs.YtbeaaieaffdgeaaGreatDoor
open Go.RowKit
set_option linter.unusedVariables false
set_option linter.unusedSimpArgs false

/-- May an ability be, of a spell or not? -/
def fitB (s : Bool) (cards : Int) (t : AbT) : Bool := ((t.1.k == 1) == s) && abilB t.1 t.2.1 t.2.2 cards
/-- May a card have these abilities? -/
def canB (s : Bool) (A : List AbT) (cards : Int) : Bool := !(s && A.length != 1) && A.all (fitB s cards)
set_option maxRecDepth 100000 in
set_option maxHeartbeats 4000000 in
theorem canDo_any (y : Cd) (A : List AbT) (s : Bool) (hs : (y.k == 3) = s) (cards : Int) (r : Bool) (hr : canB s A cards = r) (w : World) (h : CdR w y A) (hT : Tabs w) :
    Calls Tryz.prog 68 #[.agg #[.string y.nm, .int .i64 y.k, .int .i64 y.c0, .int .i64 y.c1, .int .i64 y.c2, .int .i64 y.c3, .int .i64 y.col, .int .i64 y.pow, .int .i64 y.tou, .int .i64 y.keys, .slice y.aa y.an y.ac], .int .i64 cards] w fun e w' => e = .returned (.bool r) ∧ Below w.heap.size w w' := by
  have HR := Lib.hid hr
  have hb := below_alloc1 w (.cells #[.string y.nm, .int .i64 y.k, .int .i64 y.c0, .int .i64 y.c1, .int .i64 y.c2, .int .i64 y.c3, .int .i64 y.col, .int .i64 y.pow, .int .i64 y.tou, .int .i64 y.keys, .slice y.aa y.an y.ac] 38)
  have HL := Lib.hid (h.next hb)
  have HT := Lib.hid (hT.next hb)
  have HX := Lib.hid (boxC_new w y 38)
  have hcap := h.2.1
  have hcm := h.2.2.1
  rw [h.1] at hcap
  have HB := Lib.hid hb
  have HN := Lib.hid h.1
  clear hr h hb hT
  cases hc : (s && A.length != 1)
  · have hc1 : s = true → ((y.an : Int) != 1) = false := fun e => by
      rw [e, HN.out] at hc
      simp at hc ⊢
      omega
    obtain ⟨fp, hfp⟩ : ∃ fp, fp = fitB s cards := ⟨_, rfl⟩
    have HE := Lib.hid (show A.all fp = r by rw [← HR.out, canB, hc, hfp]; rfl)
    have HP := Lib.hid hfp
    clear hc hfp
    cases s
    all_goals
      first | (replace hc1 := hc1 rfl) | (clear hc1)
      go_enter Tryz.func68, Tryz.ntmps68
      go_wp2_with fail
      generalize w.alloc (.cells #[.string y.nm, .int .i64 y.k, .int .i64 y.c0, .int .i64 y.c1, .int .i64 y.c2, .int .i64 y.c3, .int .i64 y.col, .int .i64 y.pow, .int .i64 y.tou, .int .i64 y.keys, .slice y.aa y.an y.ac] 38) = W at *
      go_loopw [21] (fun q wr => ∃ k : Nat, q = .int .i64 (k : Int) ∧ k ≤ y.an ∧ (∀ j (h : j < A.length), j < k → fp A[j] = true) ∧ Below W.heap.size W wr) (fun q _ => y.an - (intOf q).toNat)
      case atStart => exact ⟨0, rfl, Nat.zero_le _, fun j _ hj => by omega, Below.refl _ _⟩
      case round =>
        obtain ⟨k, rfl, hk, hn, hbw⟩ := hrel
        have HF := Lib.hid hn
        have HW := Lib.hid hbw
        clear hn hbw
        by_cases hlt : k < y.an
        · obtain ⟨b, off, x, T, L, hx, hab, hta, hbl, m0, m1, m2, m3, m4, m5, m6, m7, m8, m9, m10, m11, m12⟩ := (HL.out.2.next HW.out).at k (by rw [HN.out]; exact hlt)
          have HY := Lib.hid hx
          have HAb := Lib.hid (hab.next (below_alloc1 wr (.cells #[.int .i64 x.k, .int .i64 x.ev, .int .i64 x.wh, .int .i64 x.c0, .int .i64 x.c1, .int .i64 x.c2, .int .i64 x.c3, .bool x.tap, .slice x.ta x.tn x.tc, .slice x.ca x.cn x.cc, .int .i64 x.op, .int .i64 x.a, .int .i64 x.b] 42)))
          clear hx hab
          have HW2 := Lib.hid (HW.out.alloc HW.out.size (.cells #[.int .i64 x.k, .int .i64 x.ev, .int .i64 x.wh, .int .i64 x.c0, .int .i64 x.c1, .int .i64 x.c2, .int .i64 x.c3, .bool x.tap, .slice x.ta x.tn x.tc, .slice x.ca x.cn x.cc, .int .i64 x.op, .int .i64 x.a, .int .i64 x.b] 42))
          have HT2 := Lib.hid (HT.out.next HW2.out)
          rw [hta] at *
          obtain ⟨s2, hs2⟩ : ∃ s2, abilB x T L cards = s2 := ⟨_, rfl⟩
          have HS2 := Lib.hid hs2
          clear hs2
          cases e1 : (x.k == 1)
          all_goals
            have HV := Lib.hid (show fp (x, T, L) = false → r = false from fun h2 => by
              rw [← HE.out]
              refine Bool.eq_false_iff.2 fun hall => ?_
              have := List.all_eq_true.1 hall _ (List.getElem_mem (by rw [HN.out]; exact hlt))
              rw [← HY.out, h2] at this
              cases this)
            go_wp2_with fail
            first
              | (go_ret
                 exact ⟨bool_ret (HV.out (by rw [HP.out]; simp [fitB, e1])).symm, HB.out.trans (HW2.out.mono HB.out.size)⟩)
              | (refine (isAbility_any x T L cards s2 HS2.out _ HAb.out HT2.out).mono ?_
                 rintro e w4 ⟨rfl, hb⟩
                 have HW3 := Lib.hid (below_then' HW2.out hb HW2.out.size)
                 clear hb
                 cases s2
                 · go_wp2_with fail
                   go_ret
                   exact ⟨bool_ret (HV.out (by rw [HP.out]; simp [fitB, HS2.out])).symm, HB.out.trans (HW3.out.mono HB.out.size)⟩
                 · go_wp2_with fail
                   go_roundw
                   case rel => exact ⟨k + 1, by go_num, by omega, fun j h1 h2 => by
                     by_cases hjk : j = k
                     · subst hjk; rw [← HY.out, HP.out]; simp [fitB, e1, HS2.out]
                     · exact HF.out j h1 (by omega), HW3.out⟩
                   case measure => simp [intOf]; omega)
        · have HV := Lib.hid (show r = true by
            rw [← HE.out]
            refine List.all_eq_true.2 fun t ht => ?_
            obtain ⟨j, hj, rfl⟩ := List.getElem_of_mem ht
            exact HF.out j hj (by have := HN.out; omega))
          go_wp2_with fail
          go_ret
          exact ⟨bool_ret HV.out.symm, HB.out.trans (HW.out.mono HB.out.size)⟩
  · have HV := Lib.hid (show r = false by rw [← HR.out, canB, hc]; rfl)
    obtain ⟨rfl, hc1⟩ : s = true ∧ ((y.an : Int) != 1) = true := by
      rw [HN.out] at hc
      cases s
      · simp at hc
      · simp at hc ⊢
        omega
    clear hc
    go_enter Tryz.func68, Tryz.ntmps68
    go_wp2_with fail
    go_ret
    exact ⟨bool_ret HV.out.symm, HB.out⟩
end Go.Proofs.YtbeaaieaffdgeaaGreatDoor
end
