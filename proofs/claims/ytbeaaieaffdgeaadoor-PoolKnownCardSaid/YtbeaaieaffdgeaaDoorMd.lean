/- Texts that belong together: CodeD, CodeE, CodeF, CodeG, CardA, CardB, PoolN, CardC, CardD. -/
import Derived.Test.YtbeaaieaffdgeaaDoorMc
import Derived.Maps.AppendAt
import Derived.WalkLawsBesides
import Derived.ChangeKeysEq
import Derived.Laws.StructEq
/- Check. -/
section
namespace Go.Proofs.YtbeaaieaffdgeaaDoor
open Go.RowKit
set_option linter.unusedVariables false
set_option linter.unusedSimpArgs false

/-- The slice of address a and capacity c reads as the code L. -/
def IsC (w : World) (a : Option Addr) (c : Nat) (L : List Ins) : Prop :=
  L.length ≤ c ∧ c ≤ 9223372036854775807 ∧ (L.length = 0 ∨ ∃ b off, a = some ⟨b, off, none⟩ ∧ b < w.heap.size ∧ ∀ j (h : j < L.length),
    w.cell? ⟨b, off + j * 3, none⟩ = some (.int .i64 L[j].op) ∧ w.cell? ⟨b, off + j * 3 + 1, none⟩ = some (.int .i64 L[j].a) ∧ w.cell? ⟨b, off + j * 3 + 2, none⟩ = some (.int .i64 L[j].b))
theorem IsC.next {w w' : World} {a : Option Addr} {c : Nat} {L : List Ins} (h : IsC w a c L) (k : Below w.heap.size w w') : IsC w' a c L := by
  obtain ⟨h1, h2, h3 | ⟨b, off, h3, h4, h5⟩⟩ := h
  · exact ⟨h1, h2, .inl h3⟩
  · exact ⟨h1, h2, .inr ⟨b, off, h3, Nat.lt_of_lt_of_le h4 k.size, fun j hj => ⟨(k.cell (p := ⟨b, off + j * 3, none⟩) h4).trans (h5 j hj).1, (k.cell (p := ⟨b, off + j * 3 + 1, none⟩) h4).trans (h5 j hj).2.1, (k.cell (p := ⟨b, off + j * 3 + 2, none⟩) h4).trans (h5 j hj).2.2⟩⟩⟩
theorem IsC.at {w : World} {a : Option Addr} {c : Nat} {L : List Ins} (h : IsC w a c L) (k : Nat) (hk : k < L.length) : ∃ b off x, x = L[k] ∧ a = some ⟨b, off, none⟩ ∧
    w.cell? ⟨b, off + k * 3, none⟩ = some (.int .i64 x.op) ∧ w.cell? ⟨b, off + k * 3 + 1, none⟩ = some (.int .i64 x.a) ∧ w.cell? ⟨b, off + k * 3 + 2, none⟩ = some (.int .i64 x.b) := by
  obtain ⟨h1, h2, h3 | ⟨b, off, h3, h4, h5⟩⟩ := h
  · omega
  · exact ⟨b, off, _, rfl, h3, h5 k hk⟩
theorem IsC.nil (w : World) : IsC w none 0 [] := ⟨by simp, by omega, .inl rfl⟩
/-- What Check tells. -/
def chk (L : List Ins) (t c : Int) : Int :=
  if btw 0 2 t && btw 0 40 c then (if 32 < L.length then 3 else if L.all (one L.length t c) then 0 else 9) else 2
theorem Asks.now {w : World} {k : Nat} {cs : Array Value} {p : Int → Bool} (h : Asks w k cs p) (n : Int) (r : Bool) (hr : p n = r) :
    Calls Tryd.prog k (#[.int .i64 n] ++ cs) w fun e w' => e = .returned (.bool r) ∧ w = w' := by
  subst hr
  exact h.2 _ (Below.refl _ _) n
theorem int_eq {k : IntKind} {a b : Int} (h : a = b) : Value.int k a = .int k b := by rw [h]
theorem int_ret {k : IntKind} {a b : Int} (h : a = b) : Ending.returned (.int k a) = .returned (.int k b) := by rw [h]
theorem between_is (lo hi : Int) (w : World) :
    Calls Tryd.prog 78 #[.int .i64 lo, .int .i64 hi] w fun e w' => ∃ cs, e = .returned (.func (.func 80) #[] cs) ∧ Asks w' 80 cs (btw lo hi) ∧ Below w.heap.size w w' := by
  have hb := below_alloc2 w (.cells #[.int .i64 lo] 3) (.cells #[.int .i64 hi] 3)
  have h1 := heap_one w (.cells #[.int .i64 lo] 3) (.cells #[.int .i64 hi] 3)
  have h2 := heap_two w (.cells #[.int .i64 lo] 3) (.cells #[.int .i64 hi] 3)
  have HB := Lib.hid hb
  have HA := Lib.hid (show Asks ((w.alloc (.cells #[.int .i64 lo] 3)).alloc (.cells #[.int .i64 hi] 3)) 80 #[.pointer (some ⟨w.heap.size, 0, none⟩), .pointer (some ⟨w.heap.size + 1, 0, none⟩)] (btw lo hi) from
    ⟨.inl rfl, fun W hW n => btw_any lo hi n _ _ W ((hW.cell (p := ⟨w.heap.size, 0, none⟩) (by simp; omega)).trans (cell_of_one h1)) ((hW.cell (p := ⟨w.heap.size + 1, 0, none⟩) (by simp)).trans (cell_of_one h2))⟩)
  clear hb h1 h2
  go_enter Tryd.func78, Tryd.ntmps78
  go_wp2
  go_ret
  exact ⟨_, rfl, HA.out, HB.out⟩
set_option maxRecDepth 100000 in
set_option maxHeartbeats 4000000 in
theorem check_any (a : Option Addr) (cap : Nat) (L : List Ins) (t c : Int) (w : World) (h : IsC w a cap L) :
    Calls Tryd.prog 77 #[.slice a L.length cap, .int .i64 t, .int .i64 c] w fun e w' => e = .returned (.int .i64 (chk L t c)) ∧ Below w.heap.size w w' := by
  have HL := Lib.hid h
  have hcap := h.1
  have hcm := h.2.1
  clear h
  obtain ⟨r, hr⟩ : ∃ r, r = chk L t c := ⟨_, rfl⟩
  rw [← hr]
  have HR := Lib.hid hr
  clear hr
  cases ht : btw 0 2 t
  · have HV := Lib.hid (show r = 2 by rw [HR.out]; simp [chk, ht])
    go_enter Tryd.func77, Tryd.ntmps77
    go_wp2_with fail
    refine (between_is _ _ _).mono ?_
    rintro e w1 ⟨cs, rfl, ha, hb⟩
    have HA := Lib.hid (ha.now t false ht)
    clear ha
    go_wp2_with fail
    refine HA.out.mono ?_
    rintro e w2 ⟨rfl, rfl⟩
    go_wp2_with fail
    go_ret
    exact ⟨int_ret HV.out.symm, hb⟩
  · cases hc : btw 0 40 c
    · have HV := Lib.hid (show r = 2 by rw [HR.out]; simp [chk, hc])
      go_enter Tryd.func77, Tryd.ntmps77
      go_wp2_with fail
      refine (between_is _ _ _).mono ?_
      rintro e w1 ⟨cs, rfl, ha, hb⟩
      have HA := Lib.hid (ha.now t true ht)
      have HB := Lib.hid hb
      clear ha hb
      go_wp2_with fail
      refine HA.out.mono ?_
      rintro e w2 ⟨rfl, rfl⟩
      go_wp2_with fail
      refine (between_is _ _ _).mono ?_
      rintro e w2 ⟨cs2, rfl, ha, hb⟩
      have HA2 := Lib.hid (ha.now c false hc)
      have HB2 := Lib.hid (below_then' HB.out hb HB.out.size)
      clear ha hb
      go_wp2_with fail
      refine HA2.out.mono ?_
      rintro e w2 ⟨rfl, rfl⟩
      go_wp2_with fail
      go_ret
      exact ⟨int_ret HV.out.symm, HB2.out⟩
    · have ht' : 0 ≤ t ∧ t ≤ 2 := by simpa [btw] using ht
      have hc' : 0 ≤ c ∧ c ≤ 40 := by simpa [btw] using hc
      have HE := Lib.hid (show r = if 32 < L.length then 3 else if L.all (one L.length t c) then 0 else 9 by rw [HR.out]; simp [chk, ht, hc])
      by_cases hl : 32 < L.length
      · have HV := Lib.hid (show r = 3 by rw [HE.out, if_pos hl])
        go_enter Tryd.func77, Tryd.ntmps77
        go_wp2_with fail
        refine (between_is _ _ _).mono ?_
        rintro e w1 ⟨cs, rfl, ha, hb⟩
        have HA := Lib.hid (ha.now t true ht)
        have HB := Lib.hid hb
        clear ha hb
        go_wp2_with fail
        refine HA.out.mono ?_
        rintro e w2 ⟨rfl, rfl⟩
        go_wp2_with fail
        refine (between_is _ _ _).mono ?_
        rintro e w2 ⟨cs2, rfl, ha, hb⟩
        have HA2 := Lib.hid (ha.now c true hc)
        have HB2 := Lib.hid (below_then' HB.out hb HB.out.size)
        clear ha hb
        go_wp2_with fail
        refine HA2.out.mono ?_
        rintro e w2 ⟨rfl, rfl⟩
        go_wp2_with fail
        go_ret
        exact ⟨int_ret HV.out.symm, HB2.out⟩
      · go_enter Tryd.func77, Tryd.ntmps77
        go_wp2_with fail
        refine (between_is _ _ _).mono ?_
        rintro e w1 ⟨cs, rfl, ha, hb⟩
        have HA := Lib.hid (ha.now t true ht)
        have HB := Lib.hid hb
        clear ha hb
        go_wp2_with fail
        refine HA.out.mono ?_
        rintro e w2 ⟨rfl, rfl⟩
        go_wp2_with fail
        refine (between_is _ _ _).mono ?_
        rintro e w2 ⟨cs2, rfl, ha, hb⟩
        have HA2 := Lib.hid (ha.now c true hc)
        have HB2 := Lib.hid (below_then' HB.out hb HB.out.size)
        clear ha hb
        go_wp2_with fail
        refine HA2.out.mono ?_
        rintro e w2 ⟨rfl, rfl⟩
        go_wp2_with fail
        refine (asker_any L.length (by omega) t c ht' hc' _).mono ?_
        rintro e w3 ⟨g, rfl, hg, hb⟩
        have HG := Lib.hid hg
        have HB3 := Lib.hid (below_then' HB2.out hb HB2.out.size)
        clear hg hb HA HA2 HB HB2
        go_wp2_with fail
        go_loopw [30] (fun q wr => ∃ k : Nat, q = .int .i64 (k : Int) ∧ k ≤ L.length ∧ (∀ j (h : j < L.length), j < k → one L.length t c L[j] = true) ∧ Below w3.heap.size w3 wr) (fun q _ => L.length - (intOf q).toNat)
        case atStart => exact ⟨0, rfl, Nat.zero_le _, fun j _ hj => by omega, Below.refl _ _⟩
        case round =>
          obtain ⟨k, rfl, hk, hn, hbw⟩ := hrel
          have HN := Lib.hid hn
          have HW := Lib.hid hbw
          clear hn hbw
          by_cases hlt : k < L.length
          · obtain ⟨b, off, x, hx, rfl, x0, x1, x2⟩ := (HL.out.next ((HB3.out.trans (HW.out.mono HB3.out.size)))).at k hlt
            have HX := Lib.hid hx
            clear hx
            have HG2 := Lib.hid ((HG.out.next HW.out).next (below_alloc1 wr (.cells #[.int .i64 x.op, .int .i64 x.a, .int .i64 x.b] 42)))
            have HW2 := Lib.hid (HW.out.alloc HW.out.size (.cells #[.int .i64 x.op, .int .i64 x.a, .int .i64 x.b] 42))
            cases hone : one L.length t c x
            · have HV := Lib.hid (show r = 9 by
                rw [HE.out, if_neg hl, if_neg]
                intro hall
                have := List.all_eq_true.1 hall _ (List.getElem_mem hlt)
                rw [← HX.out, hone] at this
                cases this)
              go_wp2_with fail
              refine (ask_any x g _ _ _ _ HG2.out).mono ?_
              rintro e w4 ⟨rfl, hb⟩
              rw [hone]
              have HW3 := Lib.hid (below_then' HW2.out hb HW2.out.size)
              clear hb
              go_wp2_with fail
              go_ret
              exact ⟨int_ret HV.out.symm, HB3.out.trans (HW3.out.mono HB3.out.size)⟩
            · go_wp2_with fail
              refine (ask_any x g _ _ _ _ HG2.out).mono ?_
              rintro e w4 ⟨rfl, hb⟩
              rw [hone]
              have HW3 := Lib.hid (below_then' HW2.out hb HW2.out.size)
              clear hb
              go_wp2_with fail
              go_roundw
              case rel => exact ⟨k + 1, by go_num, by omega, fun j h1 h2 => by
                by_cases hjk : j = k
                · subst hjk; rw [← HX.out]; exact hone
                · exact HN.out j h1 (by omega), HW3.out⟩
              case measure => simp [intOf]; omega
          · have HV := Lib.hid (show r = 0 by
              rw [HE.out, if_neg hl, if_pos]
              refine List.all_eq_true.2 fun x hx => ?_
              obtain ⟨j, hj, rfl⟩ := List.getElem_of_mem hx
              exact HN.out j hj (by omega))
            go_wp2_with fail
            go_ret
            exact ⟨int_ret HV.out.symm, HB3.out.trans (HW.out.mono HB3.out.size)⟩
end Go.Proofs.YtbeaaieaffdgeaaDoor
end
/- The document's answer: target, players, beasts, One. -/
section
namespace Go.Proofs.YtbeaaieaffdgeaaDoor
open Go.RowKit
set_option linter.unusedVariables false
set_option linter.unusedSimpArgs false

def plr (t a : Int) : Bool := tgt t a || (btw 3 3 a || btw 4 4 a)
def bst (t a : Int) : Bool := tgt t a || (btw 2 2 a || btw 5 7 a)
end Go.Proofs.YtbeaaieaffdgeaaDoor
end
/- The document's answer: One. -/
section
namespace Go.Proofs.YtbeaaieaffdgeaaDoor
open Go.RowKit
set_option linter.unusedVariables false
set_option linter.unusedSimpArgs false

end Go.Proofs.YtbeaaieaffdgeaaDoor
end
/- The document's answer: Check. -/
section
namespace Go.Proofs.YtbeaaieaffdgeaaDoor
open Go.RowKit
set_option linter.unusedVariables false
set_option linter.unusedSimpArgs false

end Go.Proofs.YtbeaaieaffdgeaaDoor
end
/- within. -/
section
namespace Go.Proofs.YtbeaaieaffdgeaaDoor
open Go.RowKit
set_option linter.unusedVariables false
set_option linter.unusedSimpArgs false

/-- Is each number where it must be? (op: the number; a, b: from where to where.) -/
def wi (L : List Ins) : Bool := L.all fun x => btw x.a x.b x.op
set_option maxRecDepth 100000 in
set_option maxHeartbeats 2000000 in
theorem within_any (a : Option Addr) (cap : Nat) (L : List Ins) (n : Nat) (hn : L.length = n) (r : Bool) (hr : wi L = r) (w : World) (h : IsC w a cap L) :
    Calls Tryd.prog 49 #[.slice a n cap] w fun e w' => e = .returned (.bool r) ∧ Below w.heap.size w w' := by
  subst hn
  have HL := Lib.hid h
  have hcap := h.1
  have hcm := h.2.1
  clear h
  have HR := Lib.hid hr
  clear hr
  go_enter Tryd.func49, Tryd.ntmps49
  go_wp2_with fail
  go_loopw [7] (fun q wr => ∃ k : Nat, q = .int .i64 (k : Int) ∧ k ≤ L.length ∧ (∀ j (h : j < L.length), j < k → btw L[j].a L[j].b L[j].op = true) ∧ Below w.heap.size w wr) (fun q _ => L.length - (intOf q).toNat)
  case atStart => exact ⟨0, rfl, Nat.zero_le _, fun j _ hj => by omega, Below.refl _ _⟩
  case round =>
    obtain ⟨k, rfl, hk, hn, hbw⟩ := hrel
    have HN := Lib.hid hn
    have HW := Lib.hid hbw
    clear hn hbw
    by_cases hlt : k < L.length
    · obtain ⟨b, off, x, hx, rfl, x0, x1, x2⟩ := (HL.out.next HW.out).at k hlt
      have HX := Lib.hid hx
      clear hx
      have HW2 := Lib.hid (HW.out.alloc HW.out.size (.cells #[.int .i64 x.op, .int .i64 x.a, .int .i64 x.b] 98))
      by_cases c1 : x.op < x.a
      · have HV := Lib.hid (show r = false by
          rw [← HR.out]
          refine Bool.eq_false_iff.2 fun hall => ?_
          have := List.all_eq_true.1 hall _ (List.getElem_mem hlt)
          rw [← HX.out] at this
          simp [btw] at this
          omega)
        go_wp2_with fail
        go_ret
        exact ⟨bool_ret HV.out.symm, HW2.out⟩
      · by_cases c2 : x.b < x.op
        · have HV := Lib.hid (show r = false by
            rw [← HR.out]
            refine Bool.eq_false_iff.2 fun hall => ?_
            have := List.all_eq_true.1 hall _ (List.getElem_mem hlt)
            rw [← HX.out] at this
            simp [btw] at this
            omega)
          go_wp2_with fail
          go_ret
          exact ⟨bool_ret HV.out.symm, HW2.out⟩
        · go_wp2_with fail
          go_roundw
          case rel => exact ⟨k + 1, by go_num, by omega, fun j h1 h2 => by
            by_cases hjk : j = k
            · subst hjk; rw [← HX.out]; simp [btw]; omega
            · exact HN.out j h1 (by omega), HW2.out⟩
          case measure => simp [intOf]; omega
    · have HV := Lib.hid (show r = true by
        rw [← HR.out]
        refine List.all_eq_true.2 fun x hx => ?_
        obtain ⟨j, hj, rfl⟩ := List.getElem_of_mem hx
        exact HN.out j hj (by omega))
      go_wp2_with fail
      go_ret
      exact ⟨bool_ret HV.out.symm, HW.out⟩
end Go.Proofs.YtbeaaieaffdgeaaDoor
end
/- isCost. -/
section
namespace Go.Proofs.YtbeaaieaffdgeaaDoor
open Go.RowKit
set_option linter.unusedVariables false
set_option linter.unusedSimpArgs false

theorem add_plain (b off n : Nat) : (⟨b, off, none⟩ : Addr).add n = ⟨b, off + n, none⟩ := by
  unfold Addr.add
  split
  · simp_all
  · rfl
/-- A literal row's cells. -/
def insCells : List Ins → List Value
  | [] => []
  | x :: L => .int .i64 x.op :: .int .i64 x.a :: .int .i64 x.b :: insCells L
theorem insCells_len : ∀ L : List Ins, (insCells L).length = L.length * 3
  | [] => rfl
  | x :: L => by simp [insCells, insCells_len L]; omega
theorem insCells_at : ∀ (L : List Ins) (j : Nat) (h : j < L.length), (insCells L)[j * 3]? = some (.int .i64 L[j].op) ∧ (insCells L)[j * 3 + 1]? = some (.int .i64 L[j].a) ∧ (insCells L)[j * 3 + 2]? = some (.int .i64 L[j].b)
  | [], j, h => by simp at h
  | x :: L, 0, h => ⟨rfl, rfl, rfl⟩
  | x :: L, j + 1, h => by
    have := insCells_at L j (by simpa using h)
    rw [show (j + 1) * 3 = j * 3 + 3 by omega]
    simpa [insCells] using this
theorem insCells_append : ∀ L M : List Ins, insCells (L ++ M) = insCells L ++ insCells M
  | [], M => rfl
  | x :: L, M => by simp [insCells, insCells_append L M]
theorem insCells_one : ∀ (L : List Ins) (u : Value), u ∈ insCells L → u.oneCell' = true
  | [], u, h => by cases h
  | x :: L, u, h => by
    simp only [insCells, List.mem_cons] at h
    rcases h with rfl | rfl | rfl | h
    · rfl
    · rfl
    · rfl
    · exact insCells_one L u h
/-- What a slice reads: n elements of so many cells. -/
def Row (w : World) (a : Option Addr) (c size n : Nat) (xs : List Value) : Prop :=
  n ≤ c ∧ c ≤ 9223372036854775807 ∧ (n = 0 ∨ ∃ b off, a = some ⟨b, off, none⟩ ∧ b < w.heap.size ∧ ∀ i, i < n * size → w.cell? ⟨b, off + i, none⟩ = xs[i]?)
theorem row_new (w : World) (cs : Array Value) (T : TypeId) (size n : Nat) (hn : n ≤ 9223372036854775807) : Row (w.alloc (.cells cs T)) (some ⟨w.heap.size, 0, none⟩) n size n cs.toList :=
  ⟨Nat.le_refl _, hn, .inr ⟨w.heap.size, 0, rfl, by simp, fun i hi => by rw [World.cell?_alloc_new, Nat.zero_add]; simp⟩⟩
theorem own_row {w : World} {B e size : Nat} {v : Value} {n : Nat} {xs : List Value} (h : w.ownsRow B e size v n xs) : ∃ a c, v = .slice a n c ∧ Row w a c size n xs := by
  have h' := h
  obtain ⟨h1, h2⟩ := h
  rcases h2 with ⟨rfl, h2⟩ | ⟨g, c, cur, rfl, hg, hh, hc, hm, _⟩
  · rw [h2]
    exact ⟨none, 0, rfl, by omega, by omega, .inl rfl⟩
  · unfold maxLen at hm
    refine ⟨_, c, rfl, hc, hm, .inr ⟨g, 0, rfl, (Array.getElem?_eq_some_iff.1 hh).1, fun i hi => ?_⟩⟩
    rw [Nat.zero_add, h'.cellAt i (by omega)]
theorem isC_row {w : World} {a : Option Addr} {c n : Nat} {L : List Ins} (hn : L.length = n) (h : Row w a c 3 n (insCells L)) : IsC w a c L := by
  subst hn
  obtain ⟨h1, h2, h3 | ⟨b, off, h3, h4, h5⟩⟩ := h
  · exact ⟨h1, h2, .inl h3⟩
  · refine ⟨h1, h2, .inr ⟨b, off, h3, h4, fun j hj => ?_⟩⟩
    obtain ⟨a0, a1, a2⟩ := insCells_at L j hj
    exact ⟨(h5 _ (by omega)).trans a0, (h5 _ (by omega)).trans a1, (h5 _ (by omega)).trans a2⟩
theorem isC_new (w : World) (L : List Ins) (cs : Array Value) (T : TypeId) (hcs : cs = (insCells L).toArray) (n : Nat) (hn : L.length = n) (hl : n ≤ 1000) : IsC (w.alloc (.cells cs T)) (some ⟨w.heap.size, 0, none⟩) n L := by
  subst hcs
  exact isC_row hn (by simpa using row_new w (insCells L).toArray T 3 n (by omega))
theorem new_cells (w : World) (cs : Array Value) (T : TypeId) (j : Nat) (u : Value) (h : cs.toList[j]? = some u) : (w.alloc (.cells cs T)).cell? ((⟨w.heap.size, 0, none⟩ : Addr).add j) = some u := by
  rw [add_plain, Nat.zero_add, World.cell?_alloc_new]
  simpa using h
theorem askedInfo : (Tryd.prog.info? 98).map (fun i => (i.zero, i.size, i.bytes)) = some (some (.agg #[.int .i64 0, .int .i64 0, .int .i64 0]), 3, 24) := by kernel_rfl
/-- May the cost be, each number up to most? -/
def costL (most c0 c1 c2 c3 : Int) : List Ins := [⟨c0, 0, most⟩, ⟨c1, 0, most⟩, ⟨c2, 0, most⟩, ⟨c3, 0, most⟩]
theorem costL_get (most c0 c1 c2 c3 : Int) : (costL most c0 c1 c2 c3).take 0 = [] := rfl
theorem cost_snoc {w : World} {B : Nat} {v : Value} {L : List Ins} {x : Ins} {k : Nat} (h : w.ownsRow B 98 3 v (k + 1) (insCells L ++ [.int .i64 x.op, .int .i64 x.a, .int .i64 x.b])) :
    w.ownsRow B 98 3 v (k + 1) (insCells (L ++ [x])) := by
  rw [insCells_append]; exact h
theorem grown_asked {w wr w1 : World} {o : Obj} {v : Value} {n : Nat} {xs : List Value} (h : Below w.heap.size w wr) (ho : wr.ownsRow w.heap.size 98 3 v n xs) (hg : (wr.alloc o).grownBy w1 v.ownBlock) : Below w.heap.size w w1 :=
  (h.alloc h.size o).grown hg (Nat.le_trans h.size (by simp)) (fun k e => (ho.lt k e).1)
set_option maxRecDepth 100000 in
set_option maxHeartbeats 2000000 in
theorem isCost_any (c0 c1 c2 c3 most : Int) (r : Bool) (hr : wi (costL most c0 c1 c2 c3) = r) (w : World) :
    Calls Tryd.prog 61 #[.agg #[.int .i64 c0, .int .i64 c1, .int .i64 c2, .int .i64 c3], .int .i64 most] w fun e w' => e = .returned (.bool r) ∧ Below w.heap.size w w' := by
  obtain ⟨i0, hi, hz0, hz1, hz2⟩ := info_parts askedInfo
  have HR := Lib.hid hr
  clear hr
  have hb0 := below_alloc1 w (.cells #[.int .i64 c0, .int .i64 c1, .int .i64 c2, .int .i64 c3] 36)
  have HB0 := Lib.hid hb0
  clear hb0
  have ix0 : ∀ W : World, (Instr.index 36 (.agg #[.int .i64 c0, .int .i64 c1, .int .i64 c2, .int .i64 c3]) (.int .i64 0)).run Tryd.prog W = .ok (.int .i64 c0) W := fun _ => by kernel_rfl
  have ix1 : ∀ W : World, (Instr.index 36 (.agg #[.int .i64 c0, .int .i64 c1, .int .i64 c2, .int .i64 c3]) (.int .i64 1)).run Tryd.prog W = .ok (.int .i64 c1) W := fun _ => by kernel_rfl
  have ix2 : ∀ W : World, (Instr.index 36 (.agg #[.int .i64 c0, .int .i64 c1, .int .i64 c2, .int .i64 c3]) (.int .i64 2)).run Tryd.prog W = .ok (.int .i64 c2) W := fun _ => by kernel_rfl
  have ix3 : ∀ W : World, (Instr.index 36 (.agg #[.int .i64 c0, .int .i64 c1, .int .i64 c2, .int .i64 c3]) (.int .i64 3)).run Tryd.prog W = .ok (.int .i64 c3) W := fun _ => by kernel_rfl
  go_enter Tryd.func61, Tryd.ntmps61
  go_wp2_with fail
  go_loopw [5, 9] (fun v q wr => ∃ k : Nat, q = .int .i64 (k : Int) ∧ k ≤ 4 ∧ wr.ownsRow w.heap.size 98 3 v k (insCells ((costL most c0 c1 c2 c3).take k)) ∧ Below w.heap.size w wr) (fun _ q _ => 4 - (intOf q).toNat)
  case atStart => exact ⟨0, rfl, Nat.zero_le _, World.ownsRow_nil _ _ _ _, HB0.out⟩
  case round =>
    obtain ⟨k, rfl, hk, hown, hbw⟩ := hrel
    have HO := Lib.hid hown
    have HW := Lib.hid hbw
    clear hown hbw
    have h4 : k = 0 ∨ k = 1 ∨ k = 2 ∨ k = 3 ∨ k = 4 := by omega
    rcases h4 with rfl | rfl | rfl | rfl | rfl
    · go_wp2_with (at_builtin; refine wpList_append_own _ rfl _ _ 109 rfl w.heap.size 98 i0 (.agg #[.int .i64 0, .int .i64 0, .int .i64 0]) 3 24 Tryd.underlying109 hi hz0 hz1 hz2 rfl (by decide) _ _ _ rfl (HO.out.alloc _) ⟨wr.heap.size, 0, none⟩ 1 1 [.int .i64 c0, .int .i64 0, .int .i64 most] rfl rfl (new_cells _ #[.int .i64 c0, .int .i64 0, .int .i64 most] _) (insCells_one [⟨c0, 0, most⟩]) (by unfold maxLen; omega) (by omega) (by have := HW.out.size; simp; omega) ?_; intro v' w1 hown' hgrow _; have HO2 := Lib.hid hown'; have HG := Lib.hid hgrow; clear hown' hgrow)
      have HB2 := Lib.hid (grown_asked HW.out HO.out HG.out)
      go_roundw
      case rel => exact ⟨1, by go_num, by omega, HO2.out, HB2.out⟩
      case measure => simp [intOf]
    · go_wp2_with (at_builtin; refine wpList_append_own _ rfl _ _ 109 rfl w.heap.size 98 i0 (.agg #[.int .i64 0, .int .i64 0, .int .i64 0]) 3 24 Tryd.underlying109 hi hz0 hz1 hz2 rfl (by decide) _ _ _ rfl (HO.out.alloc _) ⟨wr.heap.size, 0, none⟩ 1 1 [.int .i64 c1, .int .i64 0, .int .i64 most] rfl rfl (new_cells _ #[.int .i64 c1, .int .i64 0, .int .i64 most] _) (insCells_one [⟨c1, 0, most⟩]) (by unfold maxLen; omega) (by omega) (by have := HW.out.size; simp; omega) ?_; intro v' w1 hown' hgrow _; have HO2 := Lib.hid hown'; have HG := Lib.hid hgrow; clear hown' hgrow)
      have HB2 := Lib.hid (grown_asked HW.out HO.out HG.out)
      go_roundw
      case rel => exact ⟨2, by go_num, by omega, HO2.out, HB2.out⟩
      case measure => simp [intOf]
    · go_wp2_with (at_builtin; refine wpList_append_own _ rfl _ _ 109 rfl w.heap.size 98 i0 (.agg #[.int .i64 0, .int .i64 0, .int .i64 0]) 3 24 Tryd.underlying109 hi hz0 hz1 hz2 rfl (by decide) _ _ _ rfl (HO.out.alloc _) ⟨wr.heap.size, 0, none⟩ 1 1 [.int .i64 c2, .int .i64 0, .int .i64 most] rfl rfl (new_cells _ #[.int .i64 c2, .int .i64 0, .int .i64 most] _) (insCells_one [⟨c2, 0, most⟩]) (by unfold maxLen; omega) (by omega) (by have := HW.out.size; simp; omega) ?_; intro v' w1 hown' hgrow _; have HO2 := Lib.hid hown'; have HG := Lib.hid hgrow; clear hown' hgrow)
      have HB2 := Lib.hid (grown_asked HW.out HO.out HG.out)
      go_roundw
      case rel => exact ⟨3, by go_num, by omega, HO2.out, HB2.out⟩
      case measure => simp [intOf]
    · go_wp2_with (at_builtin; refine wpList_append_own _ rfl _ _ 109 rfl w.heap.size 98 i0 (.agg #[.int .i64 0, .int .i64 0, .int .i64 0]) 3 24 Tryd.underlying109 hi hz0 hz1 hz2 rfl (by decide) _ _ _ rfl (HO.out.alloc _) ⟨wr.heap.size, 0, none⟩ 1 1 [.int .i64 c3, .int .i64 0, .int .i64 most] rfl rfl (new_cells _ #[.int .i64 c3, .int .i64 0, .int .i64 most] _) (insCells_one [⟨c3, 0, most⟩]) (by unfold maxLen; omega) (by omega) (by have := HW.out.size; simp; omega) ?_; intro v' w1 hown' hgrow _; have HO2 := Lib.hid hown'; have HG := Lib.hid hgrow; clear hown' hgrow)
      have HB2 := Lib.hid (grown_asked HW.out HO.out HG.out)
      go_roundw
      case rel => exact ⟨4, by go_num, by omega, HO2.out, HB2.out⟩
      case measure => simp [intOf]
    · obtain ⟨a, c, rfl, hrow⟩ := own_row HO.out
      have HI := Lib.hid (isC_row (L := costL most c0 c1 c2 c3) rfl hrow)
      clear hrow
      go_wp2_with fail
      refine (within_any _ _ _ 4 rfl r HR.out _ HI.out).mono ?_
      rintro e w2 ⟨rfl, hb⟩
      have HB2 := Lib.hid (below_then' HW.out hb HW.out.size)
      clear hb
      go_wp2_with fail
      go_ret
      exact ⟨rfl, HB2.out⟩
end Go.Proofs.YtbeaaieaffdgeaaDoor
end
/- The program's reader of a pool: must, a number up to the most, a number, a signed one, a text. -/
section
namespace Go.Proofs.YtbeaaieaffdgeaaDoor
open Go.RowKit
set_option linter.unusedVariables false
set_option linter.unusedSimpArgs false

/-- Reading is given up. -/
abbrev Gone : Ending := .panicked [{ v := .iface 25 (.int .i64 4), recovered := false }]
theorem must_true (w : World) : Calls Tryd.prog 21 #[.bool true] w fun e w' => e = .returned (.tuple #[]) ∧ w = w' := by
  go_enter Tryd.func21, Tryd.ntmps21
  go_wp2
  go_end0
  exact ⟨rfl, rfl⟩
theorem must_false (w : World) : Calls Tryd.prog 21 #[.bool false] w fun e w' => e = .panicked [{ v := .iface 25 (.int .i64 4), recovered := false }] ∧ w = w' := by
  go_enter Tryd.func21, Tryd.ntmps21
  go_wp2
  exact ⟨rfl, rfl, rfl⟩
/-- The reader stands in block b, and goes on. -/
abbrev Rd1 (b : Nat) (s : ByteArray) (w : World) : Prop := RdT 77 b s false w
/-- WHAT A READING TELLS: what it takes, as V says of the value and the world behind; or it is given up. -/
def Reads {α : Type} (f : Tk α) (k : FuncId) (args : Nat → Array Value) (V : Nat → α → Value → World → Prop) : Prop :=
  ∀ (rb : Nat) (s : ByteArray) (w : World), s.size ≤ 70368744177664 → Rd1 rb s w → Calls Tryd.prog k (args rb) w fun e w' =>
    w.grownBy w' (some rb) ∧ ((f s = none ∧ e = Gone) ∨ ∃ x t v, f s = some (x, t) ∧ t.size ≤ s.size ∧ e = .returned v ∧ Rd1 rb t w' ∧ V rb x v w')
/-- The struct that holds the reader. -/
abbrev rdV (rb : Nat) : Value := .agg #[.pointer (some ⟨rb, 0, none⟩)]
def asInt (rb : Nat) (i : Int) (v : Value) (w : World) : Prop := v = .int .i64 i
theorem rdNum_less (s : ByteArray) : (rdNum (s, false)).2.1.size ≤ s.size := by
  unfold rdNum
  simp only [Bool.false_eq_true, if_false]
  split
  · simp
  · simp only [ByteArray.size_extract]; omega
theorem rdText_less (s : ByteArray) : (rdText (s, false)).2.1.size ≤ s.size := by
  have := rdNum_less s
  unfold rdText
  split
  · exact this
  · split
    · simp
    · simp only [ByteArray.size_extract]; omega
theorem pUp_bad {m : Nat} {s : ByteArray} (h : (rdNum (s, false)).2.2 = true) : pUp m s = none := by unfold pUp; rw [if_pos h]
theorem pUp_much {m : Nat} {s : ByteArray} (h : ¬ (rdNum (s, false)).1 ≤ m) : pUp m s = none := by
  unfold pUp
  split
  · rfl
  · first | rfl | rw [if_neg h]
theorem pUp_good {m : Nat} {s : ByteArray} (h : (rdNum (s, false)).2.2 = false) (k : (rdNum (s, false)).1 ≤ m) : pUp m s = some (((rdNum (s, false)).1 : Int), (rdNum (s, false)).2.1) := by
  unfold pUp; rw [if_neg (by simp [h]), if_pos k]
set_option maxHeartbeats 1000000 in
theorem upTo_any (m : Nat) (hm : m ≤ 9223372036854775807) : Reads (pUp m) 30 (fun rb => #[rdV rb, .int .i64 (m : Int)]) asInt := by
  intro rb s w hs hr
  have hb := num_any rb (s, false)
  have hlt := rdNum_lt (s, false)
  have hbad := @pUp_bad m s
  have hmuch := @pUp_much m s
  have hgood := @pUp_good m s
  have hless := rdNum_less s
  generalize hq : rdNum (s, false) = q at hb hlt hbad hmuch hgood hless
  obtain ⟨n, u, st⟩ := q
  simp only at hb hlt hbad hmuch hgood hless
  have hrb := hr.lt
  have HR := Lib.hid (hr.below (below_alloc1 w (.cells #[.pointer (some ⟨rb, 0, none⟩)] 60)))
  have HB := Lib.hid hb
  have HG0 := Lib.hid (grown_new (World.grownBy.refl w (some rb)) (.cells #[.pointer (some ⟨rb, 0, none⟩)] 60))
  have c0 : (w.alloc (.cells #[.pointer (some ⟨rb, 0, none⟩)] 60)).cell? ⟨w.heap.size, 0, none⟩ = some (.pointer (some ⟨rb, 0, none⟩)) := by rw [World.cell?_alloc_new]; rfl
  have hz : w.heap.size < (w.alloc (.cells #[.pointer (some ⟨rb, 0, none⟩)] 60)).heap.size := by simp
  have HL := Lib.hid hless
  clear hb hq hr hless
  go_enter Tryd.func30, Tryd.ntmps30
  go_wp2_with fail
  generalize w.alloc (.cells #[.pointer (some ⟨rb, 0, none⟩)] 60) = w1 at *
  have hne : w.heap.size ≠ rb := by omega
  refine (HB.out w1 ⟨hs, fun h => by cases h⟩ HR.out).mono ?_
  rintro e w2 ⟨rfl, h2, g2⟩
  have c2 : w2.cell? ⟨w.heap.size, 0, none⟩ = some (.pointer (some ⟨rb, 0, none⟩)) := (World.cell?_of_block (g2.block _ hz (by simpa using hne))).trans c0
  have HR2 := Lib.hid h2
  have HG := Lib.hid (grown_then HG0.out g2)
  clear h2 g2 c0
  cases st
  · by_cases hle : n ≤ m
    · have HQ := Lib.hid (hgood rfl hle)
      have hcmp : decide ((n : Int) ≤ (m : Int)) = true := by simpa using hle
      clear hbad hmuch hgood
      go_wp2_with (first | (go_at_call 36; refine (ok_any _ _ _ _ HR2.out).mono ?_; rintro e w3 ⟨rfl, rfl⟩) | (go_at_call 21; refine (must_true _).mono ?_; rintro e w3 ⟨rfl, rfl⟩))
      go_ret
      exact ⟨HG.out, .inr ⟨_, _, _, HQ.out, HL.out, rfl, HR2.out, rfl⟩⟩
    · have HQ := Lib.hid (hmuch hle)
      have hcmp : decide ((n : Int) ≤ (m : Int)) = false := by simpa using hle
      clear hbad hmuch hgood
      go_wp2_with (first | (go_at_call 36; refine (ok_any _ _ _ _ HR2.out).mono ?_; rintro e w3 ⟨rfl, rfl⟩) | (go_at_call 21; refine (must_false _).mono ?_; rintro e w3 ⟨rfl, rfl⟩))
      exact ⟨rfl, HG.out, .inl ⟨HQ.out, rfl⟩⟩
  · have HQ := Lib.hid (hbad rfl)
    clear hbad hmuch hgood
    go_wp2_with (first | (go_at_call 36; refine (ok_any _ _ _ _ HR2.out).mono ?_; rintro e w3 ⟨rfl, rfl⟩) | (go_at_call 21; refine (must_false _).mono ?_; rintro e w3 ⟨rfl, rfl⟩))
    exact ⟨rfl, HG.out, .inl ⟨HQ.out, rfl⟩⟩
set_option maxHeartbeats 1000000 in
theorem num1_any : Reads pNum 32 (fun rb => #[rdV rb]) asInt := by
  intro rb s w hs hr
  have HR := Lib.hid (hr.below (below_alloc1 w (.cells #[.pointer (some ⟨rb, 0, none⟩)] 60)))
  have HG0 := Lib.hid (grown_new (World.grownBy.refl w (some rb)) (.cells #[.pointer (some ⟨rb, 0, none⟩)] 60))
  have HU := Lib.hid (upTo_any 9223372036854775807 (by omega))
  have HS := Lib.hid hs
  clear hr hs
  go_enter Tryd.func32, Tryd.ntmps32
  go_wp2_with fail
  generalize w.alloc (.cells #[.pointer (some ⟨rb, 0, none⟩)] 60) = w1 at *
  refine (HU.out rb s w1 HS.out HR.out).mono ?_
  rintro e w2 ⟨g2, ⟨hn, rfl⟩ | ⟨x, t, v, hx, ht, rfl, h2, rfl⟩⟩
  · exact ⟨rfl, grown_then HG0.out g2, .inl ⟨hn, rfl⟩⟩
  · have HF := Lib.hid (⟨grown_then HG0.out g2, .inr ⟨_, _, _, hx, ht, rfl, h2, rfl⟩⟩ : w.grownBy w2 (some rb) ∧ ((pNum s = none ∧ (Ending.returned (.int .i64 x)) = Gone) ∨ ∃ x' t v, pNum s = some (x', t) ∧ t.size ≤ s.size ∧ Ending.returned (.int .i64 x) = .returned v ∧ Rd1 rb t w2 ∧ asInt rb x' v w2))
    clear g2 hx ht h2
    go_wp2_with fail
    go_ret
    exact HF.out
theorem pInt_bad {s : ByteArray} (h : (rdNum (s, false)).2.2 = true) : pInt s = none := by unfold pInt; rw [if_pos (by exact h)]
theorem pInt_good {s : ByteArray} (h : (rdNum (s, false)).2.2 = false) : pInt s = some (unzig (rdNum (s, false)).1, (rdNum (s, false)).2.1) := by
  unfold pInt
  rw [if_neg (by show ¬ (rdNum (s, false)).2.2 = true; simp [h])]
  rfl
set_option maxHeartbeats 1000000 in
theorem int1_any : Reads pInt 48 (fun rb => #[rdV rb]) asInt := by
  intro rb s w hs hr
  have hb := int_any rb (s, false)
  have hbad := @pInt_bad s
  have hgood := @pInt_good s
  have hless := rdNum_less s
  have hrb := hr.lt
  unfold rdInt at hb
  generalize hq : rdNum (s, false) = q at hb hbad hgood hless
  obtain ⟨n, u, st⟩ := q
  simp only at hb hbad hgood hless
  have HR := Lib.hid (hr.below (below_alloc1 w (.cells #[.pointer (some ⟨rb, 0, none⟩)] 60)))
  have HB := Lib.hid hb
  have HG0 := Lib.hid (grown_new (World.grownBy.refl w (some rb)) (.cells #[.pointer (some ⟨rb, 0, none⟩)] 60))
  have c0 : (w.alloc (.cells #[.pointer (some ⟨rb, 0, none⟩)] 60)).cell? ⟨w.heap.size, 0, none⟩ = some (.pointer (some ⟨rb, 0, none⟩)) := by rw [World.cell?_alloc_new]; rfl
  have hz : w.heap.size < (w.alloc (.cells #[.pointer (some ⟨rb, 0, none⟩)] 60)).heap.size := by simp
  have HL := Lib.hid hless
  clear hb hq hr hless
  go_enter Tryd.func48, Tryd.ntmps48
  go_wp2_with fail
  generalize w.alloc (.cells #[.pointer (some ⟨rb, 0, none⟩)] 60) = w1 at *
  have hne : w.heap.size ≠ rb := by omega
  refine (HB.out w1 ⟨hs, fun h => by cases h⟩ HR.out).mono ?_
  rintro e w2 ⟨rfl, h2, g2⟩
  have c2 : w2.cell? ⟨w.heap.size, 0, none⟩ = some (.pointer (some ⟨rb, 0, none⟩)) := (World.cell?_of_block (g2.block _ hz (by simpa using hne))).trans c0
  have HR2 := Lib.hid h2
  have HG := Lib.hid (grown_then HG0.out g2)
  clear h2 g2 c0
  cases st
  · have HQ := Lib.hid (hgood rfl)
    clear hbad hgood
    generalize unzig n = z at *
    go_wp2_with (first | (go_at_call 36; refine (ok_any _ _ _ _ HR2.out).mono ?_; rintro e w3 ⟨rfl, rfl⟩) | (go_at_call 21; refine (must_true _).mono ?_; rintro e w3 ⟨rfl, rfl⟩))
    go_ret
    exact ⟨HG.out, .inr ⟨_, _, _, HQ.out, HL.out, rfl, HR2.out, rfl⟩⟩
  · have HQ := Lib.hid (hbad rfl)
    clear hbad hgood
    go_wp2_with (first | (go_at_call 36; refine (ok_any _ _ _ _ HR2.out).mono ?_; rintro e w3 ⟨rfl, rfl⟩) | (go_at_call 21; refine (must_false _).mono ?_; rintro e w3 ⟨rfl, rfl⟩))
    exact ⟨rfl, HG.out, .inl ⟨HQ.out, rfl⟩⟩
def asText (rb : Nat) (x : ByteArray) (v : Value) (w : World) : Prop := v = .string x ∧ x.size ≤ 70368744177664
theorem pTxt_bad {s : ByteArray} (h : (rdText (s, false)).2.2 = true) : pTxt s = none := by unfold pTxt; rw [if_pos h]
theorem pTxt_good {s : ByteArray} (h : (rdText (s, false)).2.2 = false) : pTxt s = some ((rdText (s, false)).1, (rdText (s, false)).2.1) := by
  unfold pTxt
  rw [if_neg (by simp [h])]
theorem rdText_size (s : ByteArray) : (rdText (s, false)).1.size ≤ s.size := by
  have := rdNum_less s
  unfold rdText
  split
  · simp
  · split
    · simp
    · simp only [ByteArray.size_extract]; omega
set_option maxHeartbeats 1000000 in
theorem text1_any : Reads pTxt 31 (fun rb => #[rdV rb]) asText := by
  intro rb s w hs hr
  have hb := text_any rb (s, false)
  have hbad := @pTxt_bad s
  have hgood := @pTxt_good s
  have hless := rdText_less s
  have hsize := rdText_size s
  have hrb := hr.lt
  generalize hq : rdText (s, false) = q at hb hbad hgood hless hsize
  obtain ⟨x, u, st⟩ := q
  simp only at hb hbad hgood hless hsize
  have HR := Lib.hid (hr.below (below_alloc1 w (.cells #[.pointer (some ⟨rb, 0, none⟩)] 60)))
  have HB := Lib.hid hb
  have HG0 := Lib.hid (grown_new (World.grownBy.refl w (some rb)) (.cells #[.pointer (some ⟨rb, 0, none⟩)] 60))
  have c0 : (w.alloc (.cells #[.pointer (some ⟨rb, 0, none⟩)] 60)).cell? ⟨w.heap.size, 0, none⟩ = some (.pointer (some ⟨rb, 0, none⟩)) := by rw [World.cell?_alloc_new]; rfl
  have hz : w.heap.size < (w.alloc (.cells #[.pointer (some ⟨rb, 0, none⟩)] 60)).heap.size := by simp
  have HL := Lib.hid hless
  have HX := Lib.hid (show x.size ≤ 70368744177664 by omega)
  clear hb hq hr hless hsize
  go_enter Tryd.func31, Tryd.ntmps31
  go_wp2_with fail
  generalize w.alloc (.cells #[.pointer (some ⟨rb, 0, none⟩)] 60) = w1 at *
  have hne : w.heap.size ≠ rb := by omega
  refine (HB.out w1 ⟨hs, fun h => by cases h⟩ HR.out).mono ?_
  rintro e w2 ⟨rfl, h2, g2⟩
  have c2 : w2.cell? ⟨w.heap.size, 0, none⟩ = some (.pointer (some ⟨rb, 0, none⟩)) := (World.cell?_of_block (g2.block _ hz (by simpa using hne))).trans c0
  have HR2 := Lib.hid h2
  have HG := Lib.hid (grown_then HG0.out g2)
  clear h2 g2 c0
  cases st
  · have HQ := Lib.hid (hgood rfl)
    clear hbad hgood
    go_wp2_with (first | (go_at_call 36; refine (ok_any _ _ _ _ HR2.out).mono ?_; rintro e w3 ⟨rfl, rfl⟩) | (go_at_call 21; refine (must_true _).mono ?_; rintro e w3 ⟨rfl, rfl⟩))
    go_ret
    exact ⟨HG.out, .inr ⟨_, _, _, HQ.out, HL.out, rfl, HR2.out, rfl, HX.out⟩⟩
  · have HQ := Lib.hid (hbad rfl)
    clear hbad hgood
    go_wp2_with (first | (go_at_call 36; refine (ok_any _ _ _ _ HR2.out).mono ?_; rintro e w3 ⟨rfl, rfl⟩) | (go_at_call 21; refine (must_false _).mono ?_; rintro e w3 ⟨rfl, rfl⟩))
    exact ⟨rfl, HG.out, .inl ⟨HQ.out, rfl⟩⟩
end Go.Proofs.YtbeaaieaffdgeaaDoor
end
/- Abilities, as their cells; isOnly. -/
section
namespace Go.Proofs.YtbeaaieaffdgeaaDoor
open Go.RowKit
set_option linter.unusedVariables false
set_option linter.unusedSimpArgs false

/-- An ability's cells: numbers, and where its Targets and its Code lie. -/
structure Ab where
  k : Int
  ev : Int
  wh : Int
  c0 : Int
  c1 : Int
  c2 : Int
  c3 : Int
  tap : Bool
  ta : Option Addr
  tn : Nat
  tc : Nat
  ca : Option Addr
  cn : Nat
  cc : Nat
  op : Int
  a : Int
  b : Int
def abCells (x : Ab) : List Value := [.int .i64 x.k, .int .i64 x.ev, .int .i64 x.wh, .int .i64 x.c0, .int .i64 x.c1, .int .i64 x.c2, .int .i64 x.c3, .bool x.tap, .slice x.ta x.tn x.tc, .slice x.ca x.cn x.cc, .int .i64 x.op, .int .i64 x.a, .int .i64 x.b]
/-- Are the costs one? -/
def costB (x y : Ab) : Bool := x.c0 == y.c0 && (x.c1 == y.c1 && (x.c2 == y.c2 && x.c3 == y.c3))
/-- What isOnly tells. -/
def onlyB (x y : Ab) : Bool := x.ev == y.ev && (x.wh == y.wh && (costB x y && (x.tap == y.tap && ((x.tn : Int) == (y.tn : Int) && ((x.cn : Int) == (y.cn : Int) && (x.op == y.op && (x.a == y.a && x.b == y.b)))))))
theorem part_eq (d : Nat) (xs ys : Array Value) (i : Nat) (x y : Int) (w : World) (hx : xs[i]? = some (.int .i64 x)) (hy : ys[i]? = some (.int .i64 y)) (is : List Nat) :
    (Op.eqItems (d + 1) 3 1 xs ys (i :: is)).run Tryd.prog w = if x == y then (Op.eqItems (d + 1) 3 1 xs ys is).run Tryd.prog w else .ok false w := by
  have p1 := run_part_plain (P := Tryd.prog) (w := w) (e := 3) (by kernel_rfl) (by rw [Nat.mul_one]; exact hx : xs[i * 1]? = some (.int .i64 x))
  have p2 := run_part_plain (P := Tryd.prog) (w := w) (e := 3) (by kernel_rfl) (by rw [Nat.mul_one]; exact hy : ys[i * 1]? = some (.int .i64 y))
  have p3 := run_equalIn_int (P := Tryd.prog) w d 3 .i64 .i64 x y Tryd.underlying3
  simp only [Op.eqItems, Sem.run_bind, p1, p2, p3, Result.andThen_ok]
  cases h : (x == y) <;> simp
theorem equal_mana (a0 a1 a2 a3 b0 b1 b2 b3 : Int) (w : World) :
    (Op.equalIn 10000 36 (.agg #[.int .i64 a0, .int .i64 a1, .int .i64 a2, .int .i64 a3]) (.agg #[.int .i64 b0, .int .i64 b1, .int .i64 b2, .int .i64 b3])).run Tryd.prog w = .ok (a0 == b0 && (a1 == b1 && (a2 == b2 && a3 == b3))) w := by
  obtain ⟨i, hi, _, _, _⟩ := info_parts (show (Tryd.prog.info? 3).map (fun i => (i.zero, i.size, i.bytes)) = some (some (.int .i64 0), 1, 8) by kernel_rfl)
  rw [show (10000 : Nat) = 9999 + 1 from rfl, run_equalIn_array w 9999 _ _ Tryd.underlying36 hi, show Tryd.prog.cellsOf 3 = 1 by kernel_rfl, show List.range 4 = [0, 1, 2, 3] from rfl,
    part_eq 9998 _ _ 0 a0 b0 w rfl rfl, part_eq 9998 _ _ 1 a1 b1 w rfl rfl, part_eq 9998 _ _ 2 a2 b2 w rfl rfl, part_eq 9998 _ _ 3 a3 b3 w rfl rfl]
  cases h0 : (a0 == b0) <;> cases h1 : (a1 == b1) <;> cases h2 : (a2 == b2) <;> cases h3 : (a3 == b3) <;> simp [Op.eqItems]
set_option maxRecDepth 100000 in
set_option maxHeartbeats 4000000 in
theorem isOnly_any (x y : Ab) (r : Bool) (hr : onlyB x y = r) (w : World) :
    Calls Tryd.prog 76 #[.agg #[.int .i64 x.k, .int .i64 x.ev, .int .i64 x.wh, .int .i64 x.c0, .int .i64 x.c1, .int .i64 x.c2, .int .i64 x.c3, .bool x.tap, .slice x.ta x.tn x.tc, .slice x.ca x.cn x.cc, .int .i64 x.op, .int .i64 x.a, .int .i64 x.b], .agg #[.int .i64 y.k, .int .i64 y.ev, .int .i64 y.wh, .int .i64 y.c0, .int .i64 y.c1, .int .i64 y.c2, .int .i64 y.c3, .bool y.tap, .slice y.ta y.tn y.tc, .slice y.ca y.cn y.cc, .int .i64 y.op, .int .i64 y.a, .int .i64 y.b]] w fun e w' => e = .returned (.bool r) ∧ Below w.heap.size w w' := by
  have HR := Lib.hid hr
  clear hr
  have HB := Lib.hid (below_alloc2 w (.cells #[.int .i64 x.k, .int .i64 x.ev, .int .i64 x.wh, .int .i64 x.c0, .int .i64 x.c1, .int .i64 x.c2, .int .i64 x.c3, .bool x.tap, .slice x.ta x.tn x.tc, .slice x.ca x.cn x.cc, .int .i64 x.op, .int .i64 x.a, .int .i64 x.b] 114) (.cells #[.int .i64 y.k, .int .i64 y.ev, .int .i64 y.wh, .int .i64 y.c0, .int .i64 y.c1, .int .i64 y.c2, .int .i64 y.c3, .bool y.tap, .slice y.ta y.tn y.tc, .slice y.ca y.cn y.cc, .int .i64 y.op, .int .i64 y.a, .int .i64 y.b] 114))
  have hq := fun W => equal_mana x.c0 x.c1 x.c2 x.c3 y.c0 y.c1 y.c2 y.c3 W
  obtain ⟨s, hs⟩ : ∃ s, s = costB x y := ⟨_, rfl⟩
  change ∀ W, _ = Result.ok (costB x y) W at hq
  rw [← hs] at hq
  have HS := Lib.hid hs
  clear hs
  cases h1 : (x.ev == y.ev)
  · go_enter Tryd.func76, Tryd.ntmps76
    go_wp2_with fail
    go_ret
    exact ⟨bool_ret (by rw [← HR.out]; simp only [onlyB, HS.out.symm, h1, Bool.and_true, Bool.true_and, Bool.false_and, Bool.and_false]), HB.out⟩
  · skip
    cases h2 : (x.wh == y.wh)
    · go_enter Tryd.func76, Tryd.ntmps76
      go_wp2_with fail
      go_ret
      exact ⟨bool_ret (by rw [← HR.out]; simp only [onlyB, HS.out.symm, h1, h2, Bool.and_true, Bool.true_and, Bool.false_and, Bool.and_false]), HB.out⟩
    · skip
      cases s
      · go_enter Tryd.func76, Tryd.ntmps76
        go_wp2_with fail
        go_ret
        exact ⟨bool_ret (by rw [← HR.out]; simp only [onlyB, HS.out.symm, h1, h2, Bool.and_true, Bool.true_and, Bool.false_and, Bool.and_false]), HB.out⟩
      · skip
        cases h4 : (x.tap == y.tap)
        · go_enter Tryd.func76, Tryd.ntmps76
          go_wp2_with fail
          go_ret
          exact ⟨bool_ret (by rw [← HR.out]; simp only [onlyB, HS.out.symm, h1, h2, h4, Bool.and_true, Bool.true_and, Bool.false_and, Bool.and_false]), HB.out⟩
        · skip
          cases h5 : ((x.tn : Int) == (y.tn : Int))
          · go_enter Tryd.func76, Tryd.ntmps76
            go_wp2_with fail
            go_ret
            exact ⟨bool_ret (by rw [← HR.out]; simp only [onlyB, HS.out.symm, h1, h2, h4, h5, Bool.and_true, Bool.true_and, Bool.false_and, Bool.and_false]), HB.out⟩
          · skip
            cases h6 : ((x.cn : Int) == (y.cn : Int))
            · go_enter Tryd.func76, Tryd.ntmps76
              go_wp2_with fail
              go_ret
              exact ⟨bool_ret (by rw [← HR.out]; simp only [onlyB, HS.out.symm, h1, h2, h4, h5, h6, Bool.and_true, Bool.true_and, Bool.false_and, Bool.and_false]), HB.out⟩
            · skip
              cases h7 : (x.op == y.op)
              · go_enter Tryd.func76, Tryd.ntmps76
                go_wp2_with fail
                go_ret
                exact ⟨bool_ret (by rw [← HR.out]; simp only [onlyB, HS.out.symm, h1, h2, h4, h5, h6, h7, Bool.and_true, Bool.true_and, Bool.false_and, Bool.and_false]), HB.out⟩
              · skip
                cases h8 : (x.a == y.a)
                · go_enter Tryd.func76, Tryd.ntmps76
                  go_wp2_with fail
                  go_ret
                  exact ⟨bool_ret (by rw [← HR.out]; simp only [onlyB, HS.out.symm, h1, h2, h4, h5, h6, h7, h8, Bool.and_true, Bool.true_and, Bool.false_and, Bool.and_false]), HB.out⟩
                · skip
                  cases h9 : (x.b == y.b)
                  · go_enter Tryd.func76, Tryd.ntmps76
                    go_wp2_with fail
                    go_ret
                    exact ⟨bool_ret (by rw [← HR.out]; simp only [onlyB, HS.out.symm, h1, h2, h4, h5, h6, h7, h8, h9, Bool.and_true, Bool.true_and, Bool.false_and, Bool.and_false]), HB.out⟩
                  · go_enter Tryd.func76, Tryd.ntmps76
                    go_wp2_with fail
                    go_ret
                    exact ⟨bool_ret (by rw [← HR.out]; simp only [onlyB, HS.out.symm, h1, h2, h4, h5, h6, h7, h8, h9, Bool.and_true, Bool.true_and, Bool.false_and, Bool.and_false]), HB.out⟩
end Go.Proofs.YtbeaaieaffdgeaaDoor
end
/- Abilities boxed; aims, runs. -/
section
namespace Go.Proofs.YtbeaaieaffdgeaaDoor
open Go.RowKit
set_option linter.unusedVariables false
set_option linter.unusedSimpArgs false

/-- The slice of address a and capacity c reads as these numbers. -/
def IsL (w : World) (a : Option Addr) (c : Nat) (L : List Int) : Prop :=
  L.length ≤ c ∧ c ≤ 9223372036854775807 ∧ (L.length = 0 ∨ ∃ b off, a = some ⟨b, off, none⟩ ∧ b < w.heap.size ∧ ∀ j (h : j < L.length), w.cell? ⟨b, off + j, none⟩ = some (.int .i64 L[j]))
theorem IsL.next {w w' : World} {a : Option Addr} {c : Nat} {L : List Int} (h : IsL w a c L) (k : Below w.heap.size w w') : IsL w' a c L := by
  obtain ⟨h1, h2, h3 | ⟨b, off, h3, h4, h5⟩⟩ := h
  · exact ⟨h1, h2, .inl h3⟩
  · exact ⟨h1, h2, .inr ⟨b, off, h3, Nat.lt_of_lt_of_le h4 k.size, fun j hj => (k.cell (p := ⟨b, off + j, none⟩) h4).trans (h5 j hj)⟩⟩
theorem IsL.at {w : World} {a : Option Addr} {c : Nat} {L : List Int} (h : IsL w a c L) (k : Nat) (hk : k < L.length) : ∃ b off x, x = L[k] ∧ a = some ⟨b, off, none⟩ ∧ w.cell? ⟨b, off + k, none⟩ = some (.int .i64 x) := by
  obtain ⟨h1, h2, h3 | ⟨b, off, h3, h4, h5⟩⟩ := h
  · omega
  · exact ⟨b, off, _, rfl, h3, h5 k hk⟩
theorem IsL.nil (w : World) : IsL w none 0 [] := ⟨by simp, by omega, .inl rfl⟩
theorem isL_row {w : World} {a : Option Addr} {c n : Nat} {L : List Int} (hn : L.length = n) (h : Row w a c 1 n (L.map (Value.int .i64))) : IsL w a c L := by
  subst hn
  obtain ⟨h1, h2, h3 | ⟨b, off, h3, h4, h5⟩⟩ := h
  · exact ⟨h1, h2, .inl h3⟩
  · exact ⟨h1, h2, .inr ⟨b, off, h3, h4, fun j hj => (h5 _ (by omega)).trans (by simp [hj])⟩⟩
/-- What an ability's Targets and Code read as. -/
def AbR (w : World) (x : Ab) (T : List Int) (L : List Ins) : Prop := (T.length = x.tn ∧ IsL w x.ta x.tc T) ∧ L.length = x.cn ∧ IsC w x.ca x.cc L
theorem AbR.next {w w' : World} {x : Ab} {T : List Int} {L : List Ins} (h : AbR w x T L) (k : Below w.heap.size w w') : AbR w' x T L := ⟨⟨h.1.1, h.1.2.next k⟩, h.2.1, h.2.2.next k⟩
/-- Block b is this ability. -/
def BoxA (w : World) (b : Nat) (x : Ab) : Prop := b < w.heap.size ∧ ∀ i, i < 13 → w.cell? ⟨b, i, none⟩ = (abCells x)[i]?
theorem BoxA.next {w w' : World} {b : Nat} {x : Ab} (h : BoxA w b x) (k : Below w.heap.size w w') : BoxA w' b x :=
  ⟨Nat.lt_of_lt_of_le h.1 k.size, fun i hi => (k.cell (p := ⟨b, i, none⟩) h.1).trans (h.2 i hi)⟩
theorem boxA_new (w : World) (x : Ab) (T : TypeId) : BoxA (w.alloc (.cells #[.int .i64 x.k, .int .i64 x.ev, .int .i64 x.wh, .int .i64 x.c0, .int .i64 x.c1, .int .i64 x.c2, .int .i64 x.c3, .bool x.tap, .slice x.ta x.tn x.tc, .slice x.ca x.cn x.cc, .int .i64 x.op, .int .i64 x.a, .int .i64 x.b] T)) w.heap.size x :=
  ⟨by simp, fun i hi => by rw [World.cell?_alloc_new]; simp [abCells]⟩
theorem BoxA.cells {w : World} {b : Nat} {x : Ab} (h : BoxA w b x) : w.cell? ⟨b, 0, none⟩ = some (.int .i64 x.k) ∧ w.cell? ⟨b, 1, none⟩ = some (.int .i64 x.ev) ∧ w.cell? ⟨b, 2, none⟩ = some (.int .i64 x.wh) ∧
    w.cell? ⟨b, 3, none⟩ = some (.int .i64 x.c0) ∧ w.cell? ⟨b, 4, none⟩ = some (.int .i64 x.c1) ∧ w.cell? ⟨b, 5, none⟩ = some (.int .i64 x.c2) ∧ w.cell? ⟨b, 6, none⟩ = some (.int .i64 x.c3) ∧
    w.cell? ⟨b, 7, none⟩ = some (.bool x.tap) ∧ w.cell? ⟨b, 8, none⟩ = some (.slice x.ta x.tn x.tc) ∧ w.cell? ⟨b, 9, none⟩ = some (.slice x.ca x.cn x.cc) ∧
    w.cell? ⟨b, 10, none⟩ = some (.int .i64 x.op) ∧ w.cell? ⟨b, 11, none⟩ = some (.int .i64 x.a) ∧ w.cell? ⟨b, 12, none⟩ = some (.int .i64 x.b) :=
  ⟨h.2 0 (by omega), h.2 1 (by omega), h.2 2 (by omega), h.2 3 (by omega), h.2 4 (by omega), h.2 5 (by omega), h.2 6 (by omega), h.2 7 (by omega), h.2 8 (by omega), h.2 9 (by omega), h.2 10 (by omega), h.2 11 (by omega), h.2 12 (by omega)⟩
theorem within_new (L : List Ins) (cs : Array Value) (T : TypeId) (hcs : cs = (insCells L).toArray) (n : Nat) (hn : L.length = n) (hl : n ≤ 1000) (r : Bool) (hr : wi L = r) (w : World) :
    Calls Tryd.prog 49 #[.slice (some ⟨w.heap.size, 0, none⟩) n n] (w.alloc (.cells cs T)) fun e w' => e = .returned (.bool r) ∧ Below w.heap.size w w' :=
  (within_any _ _ L n hn r hr _ (isC_new w L cs T hcs n hn hl)).mono fun e w' ⟨he, hb⟩ => ⟨he, (below_alloc1 _ _).trans (hb.mono (by simp))⟩
theorem within_at (L : List Ins) (cs : Array Value) (T : TypeId) (hcs : cs = (insCells L).toArray) (n : Nat) (hn : L.length = n) (hl : n ≤ 1000) (r : Bool) (hr : wi L = r) (w : World) (b : Nat) (hb : b = w.heap.size) :
    Calls Tryd.prog 49 #[.slice (some ⟨b, 0, none⟩) n n] (w.alloc (.cells cs T)) fun e w' => e = .returned (.bool r) ∧ Below w.heap.size w w' := by
  subst hb
  exact within_new L cs T hcs n hn hl r hr w
theorem wi_one (y lo hi : Int) : wi [⟨y, lo, hi⟩] = btw lo hi y := by simp [wi]
/-- May the targets be? -/
def aimsB (T : List Int) : Bool := T.all (btw 1 6)
set_option maxRecDepth 100000 in
set_option maxHeartbeats 2000000 in
theorem aims_any (x : Ab) (T : List Int) (r : Bool) (hr : aimsB T = r) (w : World) (hn : T.length = x.tn) (h : IsL w x.ta x.tc T) :
    Calls Tryd.prog 74 #[.agg #[.int .i64 x.k, .int .i64 x.ev, .int .i64 x.wh, .int .i64 x.c0, .int .i64 x.c1, .int .i64 x.c2, .int .i64 x.c3, .bool x.tap, .slice x.ta x.tn x.tc, .slice x.ca x.cn x.cc, .int .i64 x.op, .int .i64 x.a, .int .i64 x.b]] w fun e w' => e = .returned (.bool r) ∧ Below w.heap.size w w' := by
  have HR := Lib.hid hr
  have hb := below_alloc1 w (.cells #[.int .i64 x.k, .int .i64 x.ev, .int .i64 x.wh, .int .i64 x.c0, .int .i64 x.c1, .int .i64 x.c2, .int .i64 x.c3, .bool x.tap, .slice x.ta x.tn x.tc, .slice x.ca x.cn x.cc, .int .i64 x.op, .int .i64 x.a, .int .i64 x.b] 114)
  have HL := Lib.hid (h.next hb)
  have HX := Lib.hid (boxA_new w x 114)
  have hcap := h.1
  have hcm := h.2.1
  rw [hn] at hcap
  have HB := Lib.hid hb
  have HN := Lib.hid hn
  clear hr h hb hn
  go_enter Tryd.func74, Tryd.ntmps74
  go_wp2_with fail
  generalize w.alloc (.cells #[.int .i64 x.k, .int .i64 x.ev, .int .i64 x.wh, .int .i64 x.c0, .int .i64 x.c1, .int .i64 x.c2, .int .i64 x.c3, .bool x.tap, .slice x.ta x.tn x.tc, .slice x.ca x.cn x.cc, .int .i64 x.op, .int .i64 x.a, .int .i64 x.b] 114) = W at *
  go_loopw [8] (fun q wr => ∃ k : Nat, q = .int .i64 (k : Int) ∧ k ≤ x.tn ∧ (∀ j (h : j < T.length), j < k → btw 1 6 T[j] = true) ∧ Below W.heap.size W wr) (fun q _ => x.tn - (intOf q).toNat)
  case atStart => exact ⟨0, rfl, Nat.zero_le _, fun j _ hj => by omega, Below.refl _ _⟩
  case round =>
    obtain ⟨k, rfl, hk, hn, hbw⟩ := hrel
    have HT := Lib.hid hn
    have HW := Lib.hid hbw
    clear hn hbw
    by_cases hlt : k < x.tn
    · obtain ⟨b, off, y, hy, hta, x0⟩ := (HL.out.next HW.out).at k (by rw [HN.out]; exact hlt)
      have HY := Lib.hid hy
      clear hy
      cases hone : btw 1 6 y
      · have HV := Lib.hid (show r = false by
          rw [← HR.out]
          refine Bool.eq_false_iff.2 fun hall => ?_
          have := List.all_eq_true.1 hall _ (List.getElem_mem (by rw [HN.out]; exact hlt))
          rw [← HY.out, hone] at this
          cases this)
        rw [hta] at *
        go_wp2_with fail
        refine (within_new [⟨y, 1, 6⟩] _ _ rfl 1 rfl (by omega) false ((wi_one _ _ _).trans hone) _).mono ?_
        rintro e w4 ⟨rfl, hb⟩
        have HW3 := Lib.hid (below_then' HW.out hb HW.out.size)
        clear hb
        go_wp2_with fail
        go_ret
        exact ⟨bool_ret HV.out.symm, HB.out.trans (HW3.out.mono HB.out.size)⟩
      · rw [hta] at *
        go_wp2_with fail
        refine (within_new [⟨y, 1, 6⟩] _ _ rfl 1 rfl (by omega) true ((wi_one _ _ _).trans hone) _).mono ?_
        rintro e w4 ⟨rfl, hb⟩
        have HW3 := Lib.hid (below_then' HW.out hb HW.out.size)
        clear hb
        go_wp2_with fail
        go_roundw
        case rel => exact ⟨k + 1, by go_num, by omega, fun j h1 h2 => by
          by_cases hjk : j = k
          · subst hjk; rw [← HY.out]; exact hone
          · exact HT.out j h1 (by omega), HW3.out⟩
        case measure => simp [intOf]; omega
    · have HV := Lib.hid (show r = true by
        rw [← HR.out]
        refine List.all_eq_true.2 fun y hy => ?_
        obtain ⟨j, hj, rfl⟩ := List.getElem_of_mem hy
        exact HT.out j hj (by have := HN.out; omega))
      go_wp2_with fail
      go_ret
      exact ⟨bool_ret HV.out.symm, HB.out.trans (HW.out.mono HB.out.size)⟩
set_option maxRecDepth 100000 in
set_option maxHeartbeats 2000000 in
theorem runs_any (x : Ab) (T : List Int) (L : List Ins) (cards : Int) (r : Bool) (hr : (chk L x.tn cards == 0) = r) (w : World) (h : AbR w x T L) :
    Calls Tryd.prog 75 #[.agg #[.int .i64 x.k, .int .i64 x.ev, .int .i64 x.wh, .int .i64 x.c0, .int .i64 x.c1, .int .i64 x.c2, .int .i64 x.c3, .bool x.tap, .slice x.ta x.tn x.tc, .slice x.ca x.cn x.cc, .int .i64 x.op, .int .i64 x.a, .int .i64 x.b], .int .i64 cards] w fun e w' => e = .returned (.bool r) ∧ Below w.heap.size w w' := by
  have hb := below_alloc1 w (.cells #[.int .i64 x.k, .int .i64 x.ev, .int .i64 x.wh, .int .i64 x.c0, .int .i64 x.c1, .int .i64 x.c2, .int .i64 x.c3, .bool x.tap, .slice x.ta x.tn x.tc, .slice x.ca x.cn x.cc, .int .i64 x.op, .int .i64 x.a, .int .i64 x.b] 114)
  obtain ⟨q, hq⟩ : ∃ q, chk L x.tn cards = q := ⟨_, rfl⟩
  rw [hq] at hr
  have HQ := Lib.hid hq
  have HC := Lib.hid (h.2.2.next hb)
  have HN := Lib.hid h.2.1
  have HX := Lib.hid (boxA_new w x 114)
  have HB := Lib.hid hb
  clear hq h hb
  have HE := Lib.hid (check_any x.ca x.cc L x.tn cards)
  rw [HN.out, HQ.out] at HE
  go_enter Tryd.func75, Tryd.ntmps75
  go_wp2_with fail
  generalize w.alloc (.cells #[.int .i64 x.k, .int .i64 x.ev, .int .i64 x.wh, .int .i64 x.c0, .int .i64 x.c1, .int .i64 x.c2, .int .i64 x.c3, .bool x.tap, .slice x.ta x.tn x.tc, .slice x.ca x.cn x.cc, .int .i64 x.op, .int .i64 x.a, .int .i64 x.b] 114) = W at *
  refine (HE.out _ HC.out).mono ?_
  rintro e w2 ⟨rfl, hb⟩
  have HB2 := Lib.hid (below_then' HB.out hb HB.out.size)
  clear hb
  go_wp2_with fail
  go_ret
  exact ⟨rfl, HB2.out⟩
end Go.Proofs.YtbeaaieaffdgeaaDoor
end
