/- Cards, as their cells and what they read; isLong. -/
import Derived.Test.YtfhmadlobdklbaaDoorCardG
namespace Go.Proofs.YtfhmadlobdklbaaDoor
open Go.RowKit
set_option linter.unusedVariables false
set_option linter.unusedSimpArgs false

/-- A card's cells. -/
structure Cd where
  nm : ByteArray
  k : Int
  c0 : Int
  c1 : Int
  c2 : Int
  c3 : Int
  col : Int
  pow : Int
  tou : Int
  keys : Int
  aa : Option Addr
  an : Nat
  ac : Nat
def cdCells (y : Cd) : List Value := [.string y.nm, .int .i64 y.k, .int .i64 y.c0, .int .i64 y.c1, .int .i64 y.c2, .int .i64 y.c3, .int .i64 y.col, .int .i64 y.pow, .int .i64 y.tou, .int .i64 y.keys, .slice y.aa y.an y.ac]
/-- An ability, and what its Targets and Code read as. -/
abbrev AbT := Ab × List Int × List Ins
/-- The slice of address a and capacity c reads as these abilities. -/
def IsA (w : World) (a : Option Addr) (c : Nat) (A : List AbT) : Prop :=
  A.length ≤ c ∧ c ≤ 9223372036854775807 ∧ (∀ t ∈ A, AbR w t.1 t.2.1 t.2.2) ∧
  (A.length = 0 ∨ ∃ b off, a = some ⟨b, off, none⟩ ∧ b < w.heap.size ∧ ∀ j (h : j < A.length) i, i < 13 → w.cell? ⟨b, off + j * 13 + i, none⟩ = (abCells A[j].1)[i]?)
theorem IsA.next {w w' : World} {a : Option Addr} {c : Nat} {A : List AbT} (h : IsA w a c A) (k : Below w.heap.size w w') : IsA w' a c A := by
  obtain ⟨h1, h2, h0, h3⟩ := h
  refine ⟨h1, h2, fun t ht => (h0 t ht).next k, ?_⟩
  rcases h3 with h3 | ⟨b, off, h3, h4, h5⟩
  · exact .inl h3
  · exact .inr ⟨b, off, h3, Nat.lt_of_lt_of_le h4 k.size, fun j hj i hi => (k.cell (p := ⟨b, off + j * 13 + i, none⟩) h4).trans (h5 j hj i hi)⟩
theorem IsA.nil (w : World) : IsA w none 0 [] := ⟨by simp, by omega, (fun t ht => by cases ht), .inl rfl⟩
theorem IsA.at {w : World} {a : Option Addr} {c : Nat} {A : List AbT} (h : IsA w a c A) (k : Nat) (hk : k < A.length) : ∃ b off x T L, (x, T, L) = A[k] ∧ AbR w x T L ∧ a = some ⟨b, off, none⟩ ∧ b < w.heap.size ∧
    (w.cell? ⟨b, off + k * 13, none⟩ = some (.int .i64 x.k) ∧ w.cell? ⟨b, off + k * 13 + 1, none⟩ = some (.int .i64 x.ev) ∧ w.cell? ⟨b, off + k * 13 + 2, none⟩ = some (.int .i64 x.wh) ∧
    w.cell? ⟨b, off + k * 13 + 3, none⟩ = some (.int .i64 x.c0) ∧ w.cell? ⟨b, off + k * 13 + 4, none⟩ = some (.int .i64 x.c1) ∧ w.cell? ⟨b, off + k * 13 + 5, none⟩ = some (.int .i64 x.c2) ∧ w.cell? ⟨b, off + k * 13 + 6, none⟩ = some (.int .i64 x.c3) ∧
    w.cell? ⟨b, off + k * 13 + 7, none⟩ = some (.bool x.tap) ∧ w.cell? ⟨b, off + k * 13 + 8, none⟩ = some (.slice x.ta x.tn x.tc) ∧ w.cell? ⟨b, off + k * 13 + 9, none⟩ = some (.slice x.ca x.cn x.cc) ∧
    w.cell? ⟨b, off + k * 13 + 10, none⟩ = some (.int .i64 x.op) ∧ w.cell? ⟨b, off + k * 13 + 11, none⟩ = some (.int .i64 x.a) ∧ w.cell? ⟨b, off + k * 13 + 12, none⟩ = some (.int .i64 x.b)) := by
  obtain ⟨h1, h2, h0, h3 | ⟨b, off, h3, h4, h5⟩⟩ := h
  · omega
  · have h6 := h5 k hk
    exact ⟨b, off, A[k].1, A[k].2.1, A[k].2.2, rfl, h0 _ (List.getElem_mem hk), h3, h4, h6 0 (by omega), h6 1 (by omega), h6 2 (by omega), h6 3 (by omega), h6 4 (by omega), h6 5 (by omega), h6 6 (by omega), h6 7 (by omega), h6 8 (by omega), h6 9 (by omega), h6 10 (by omega), h6 11 (by omega), h6 12 (by omega)⟩
/-- What a card reads as. -/
def CdR (w : World) (y : Cd) (A : List AbT) : Prop := A.length = y.an ∧ IsA w y.aa y.ac A
theorem CdR.next {w w' : World} {y : Cd} {A : List AbT} (h : CdR w y A) (k : Below w.heap.size w w') : CdR w' y A := ⟨h.1, h.2.next k⟩
/-- Block b is this card. -/
def BoxC (w : World) (b : Nat) (y : Cd) : Prop := b < w.heap.size ∧ ∀ i, i < 11 → w.cell? ⟨b, i, none⟩ = (cdCells y)[i]?
theorem BoxC.next {w w' : World} {b : Nat} {y : Cd} (h : BoxC w b y) (k : Below w.heap.size w w') : BoxC w' b y :=
  ⟨Nat.lt_of_lt_of_le h.1 k.size, fun i hi => (k.cell (p := ⟨b, i, none⟩) h.1).trans (h.2 i hi)⟩
theorem boxC_new (w : World) (y : Cd) (T : TypeId) : BoxC (w.alloc (.cells #[.string y.nm, .int .i64 y.k, .int .i64 y.c0, .int .i64 y.c1, .int .i64 y.c2, .int .i64 y.c3, .int .i64 y.col, .int .i64 y.pow, .int .i64 y.tou, .int .i64 y.keys, .slice y.aa y.an y.ac] T)) w.heap.size y :=
  ⟨by simp, fun i hi => by rw [World.cell?_alloc_new]; simp [cdCells]⟩
theorem BoxC.cells {w : World} {b : Nat} {y : Cd} (h : BoxC w b y) : w.cell? ⟨b, 0, none⟩ = some (.string y.nm) ∧ w.cell? ⟨b, 1, none⟩ = some (.int .i64 y.k) ∧
    w.cell? ⟨b, 2, none⟩ = some (.int .i64 y.c0) ∧ w.cell? ⟨b, 3, none⟩ = some (.int .i64 y.c1) ∧ w.cell? ⟨b, 4, none⟩ = some (.int .i64 y.c2) ∧ w.cell? ⟨b, 5, none⟩ = some (.int .i64 y.c3) ∧
    w.cell? ⟨b, 6, none⟩ = some (.int .i64 y.col) ∧ w.cell? ⟨b, 7, none⟩ = some (.int .i64 y.pow) ∧ w.cell? ⟨b, 8, none⟩ = some (.int .i64 y.tou) ∧ w.cell? ⟨b, 9, none⟩ = some (.int .i64 y.keys) ∧ w.cell? ⟨b, 10, none⟩ = some (.slice y.aa y.an y.ac) :=
  ⟨h.2 0 (by omega), h.2 1 (by omega), h.2 2 (by omega), h.2 3 (by omega), h.2 4 (by omega), h.2 5 (by omega), h.2 6 (by omega), h.2 7 (by omega), h.2 8 (by omega), h.2 9 (by omega), h.2 10 (by omega)⟩
/-- Is something of an ability above a limit? -/
def longA (t : AbT) : Bool := decide (2 < t.1.tn) || decide (32 < t.1.cn)
/-- Is something of the card? -/
def longB (y : Cd) (A : List AbT) : Bool := A.any longA || (decide (16 < y.nm.size) || decide (4 < y.an))
set_option maxRecDepth 100000 in
set_option maxHeartbeats 4000000 in
theorem isLong_any (y : Cd) (A : List AbT) (r : Bool) (hr : longB y A = r) (w : World) (h : CdR w y A) (hs : y.nm.size ≤ maxLen) :
    Calls Tryd.prog 14 #[.agg #[.string y.nm, .int .i64 y.k, .int .i64 y.c0, .int .i64 y.c1, .int .i64 y.c2, .int .i64 y.c3, .int .i64 y.col, .int .i64 y.pow, .int .i64 y.tou, .int .i64 y.keys, .slice y.aa y.an y.ac]] w fun e w' => e = .returned (.bool r) ∧ Below w.heap.size w w' := by
  unfold maxLen at hs
  have HR := Lib.hid hr
  have hb := below_alloc1 w (.cells #[.string y.nm, .int .i64 y.k, .int .i64 y.c0, .int .i64 y.c1, .int .i64 y.c2, .int .i64 y.c3, .int .i64 y.col, .int .i64 y.pow, .int .i64 y.tou, .int .i64 y.keys, .slice y.aa y.an y.ac] 26)
  have HL := Lib.hid (h.next hb)
  have HX := Lib.hid (boxC_new w y 26)
  have hcap := h.2.1
  have hcm := h.2.2.1
  rw [h.1] at hcap
  have HB := Lib.hid hb
  have HN := Lib.hid h.1
  clear hr h hb
  go_enter Tryd.func14, Tryd.ntmps14
  go_wp2_with fail
  generalize w.alloc (.cells #[.string y.nm, .int .i64 y.k, .int .i64 y.c0, .int .i64 y.c1, .int .i64 y.c2, .int .i64 y.c3, .int .i64 y.col, .int .i64 y.pow, .int .i64 y.tou, .int .i64 y.keys, .slice y.aa y.an y.ac] 26) = W at *
  go_loopw [8] (fun q wr => ∃ k : Nat, q = .int .i64 (k : Int) ∧ k ≤ y.an ∧ (∀ j (h : j < A.length), j < k → longA A[j] = false) ∧ Below W.heap.size W wr) (fun q _ => y.an - (intOf q).toNat)
  case atStart => exact ⟨0, rfl, Nat.zero_le _, fun j _ hj => by omega, Below.refl _ _⟩
  case round =>
    obtain ⟨k, rfl, hk, hn, hbw⟩ := hrel
    have HT := Lib.hid hn
    have HW := Lib.hid hbw
    clear hn hbw
    by_cases hlt : k < y.an
    · obtain ⟨b, off, x, T, L, hx, _, hta, hbl, m0, m1, m2, m3, m4, m5, m6, m7, m8, m9, m10, m11, m12⟩ := (HL.out.2.next HW.out).at k (by rw [HN.out]; exact hlt)
      have HY := Lib.hid hx
      clear hx
      have HW2 := Lib.hid (HW.out.alloc HW.out.size (.cells #[.int .i64 x.k, .int .i64 x.ev, .int .i64 x.wh, .int .i64 x.c0, .int .i64 x.c1, .int .i64 x.c2, .int .i64 x.c3, .bool x.tap, .slice x.ta x.tn x.tc, .slice x.ca x.cn x.cc, .int .i64 x.op, .int .i64 x.a, .int .i64 x.b] 41))
      rw [hta] at *
      by_cases c1 : 2 < x.tn
      · have HV := Lib.hid (show r = true by
          rw [← HR.out, longB, Bool.or_eq_true]
          left
          refine List.any_eq_true.2 ⟨A[k]'(by rw [HN.out]; exact hlt), List.getElem_mem _, ?_⟩
          rw [← HY.out]; simp [longA, c1])
        go_wp2_with fail
        go_ret
        exact ⟨bool_ret HV.out.symm, HB.out.trans (HW2.out.mono HB.out.size)⟩
      · by_cases c2 : 32 < x.cn
        · have HV := Lib.hid (show r = true by
            rw [← HR.out, longB, Bool.or_eq_true]
            left
            refine List.any_eq_true.2 ⟨A[k]'(by rw [HN.out]; exact hlt), List.getElem_mem _, ?_⟩
            rw [← HY.out]; simp [longA, c2])
          go_wp2_with fail
          go_ret
          exact ⟨bool_ret HV.out.symm, HB.out.trans (HW2.out.mono HB.out.size)⟩
        · go_wp2_with fail
          go_roundw
          case rel => exact ⟨k + 1, by go_num, by omega, fun j h1 h2 => by
            by_cases hjk : j = k
            · subst hjk; rw [← HY.out]; simp [longA]; omega
            · exact HT.out j h1 (by omega), HW2.out⟩
          case measure => simp [intOf]; omega
    · have HE := Lib.hid (show A.any longA = false by
        refine Bool.eq_false_iff.2 fun hall => ?_
        obtain ⟨t, ht, h2⟩ := List.any_eq_true.1 hall
        obtain ⟨j, hj, rfl⟩ := List.getElem_of_mem ht
        rw [HT.out j hj (by have := HN.out; omega)] at h2
        cases h2)
      obtain ⟨q0, q1, q2, q3, q4, q5, q6, q7, q8, q9, q10⟩ := (HX.out.next HW.out).cells
      by_cases c1 : 16 < y.nm.size
      · have HV := Lib.hid (show r = true by rw [← HR.out]; simp [longB, c1])
        go_wp2_with fail
        go_ret
        exact ⟨bool_ret HV.out.symm, HB.out.trans (HW.out.mono HB.out.size)⟩
      · by_cases c2 : 4 < y.an
        · have HV := Lib.hid (show r = true by rw [← HR.out]; simp [longB, c2])
          go_wp2_with fail
          go_ret
          exact ⟨bool_ret (by rw [HV.out]; simp; omega), HB.out.trans (HW.out.mono HB.out.size)⟩
        · have HV := Lib.hid (show r = false by rw [← HR.out, longB, HE.out]; simp; omega)
          go_wp2_with fail
          go_ret
          exact ⟨bool_ret (by rw [HV.out]; simp; omega), HB.out.trans (HW.out.mono HB.out.size)⟩
end Go.Proofs.YtfhmadlobdklbaaDoor
