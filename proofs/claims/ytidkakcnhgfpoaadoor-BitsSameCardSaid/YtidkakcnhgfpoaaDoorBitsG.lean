/- A slice of ints as the list that it reads as; the document's answers that only read one: Has, Next, Same; the law's own ints. -/
import Derived.Test.YtidkakcnhgfpoaaDoorBitsA
import Derived.BigQuiet
import Derived.Deep.QuietTactic
namespace Go.Proofs.YtidkakcnhgfpoaaDoor
open Go.RowKit
set_option linter.unusedVariables false

/-- The slice of address a, of L's length and capacity c reads as L. -/
def IsL (w : World) (a : Option Addr) (c : Nat) (L : List Int) : Prop :=
  L.length ≤ c ∧ c ≤ 9223372036854775807 ∧ (L.length = 0 ∨ ∃ b off, a = some ⟨b, off, none⟩ ∧ b < w.heap.size ∧ ∀ j, j < L.length → w.cell? ⟨b, off + j, none⟩ = some (.int .i64 (L.getD j 0)))
theorem IsL.next {w w' : World} {a : Option Addr} {c : Nat} {L : List Int} (h : IsL w a c L) (k : Below w.heap.size w w') : IsL w' a c L := by
  obtain ⟨h1, h2, h3 | ⟨b, off, h3, h4, h5⟩⟩ := h
  · exact ⟨h1, h2, .inl h3⟩
  · exact ⟨h1, h2, .inr ⟨b, off, h3, Nat.lt_of_lt_of_le h4 k.size, fun j hj => (k.cell (p := ⟨b, off + j, none⟩) h4).trans (h5 j hj)⟩⟩
theorem IsL.at {w : World} {a : Option Addr} {c : Nat} {L : List Int} (h : IsL w a c L) (k : Nat) (hk : k < L.length) : ∃ b off, a = some ⟨b, off, none⟩ ∧ w.cell? ⟨b, off + k, none⟩ = some (.int .i64 (L.getD k 0)) := by
  obtain ⟨h1, h2, h3 | ⟨b, off, h3, h4, h5⟩⟩ := h
  · omega
  · exact ⟨b, off, h3, h5 k hk⟩
theorem IsL.nil (w : World) : IsL w none 0 [] := ⟨by simp, by omega, .inl rfl⟩
theorem mem_step (L : List Int) (i : Int) (k : Nat) (hk : k < L.length) (hn : L.getD k 0 ≠ i) (h : ∀ j, j < k → L.getD j 0 ≠ i) : ∀ j, j < k + 1 → L.getD j 0 ≠ i := by
  intro j hj
  by_cases hjk : j = k
  · rw [hjk]; exact hn
  · exact h j (by omega)
theorem mem_getD (L : List Int) (k : Nat) (hk : k < L.length) : L.getD k 0 ∈ L := by
  rw [List.getD_eq_getElem?_getD, List.getElem?_eq_getElem hk]
  exact List.getElem_mem hk
theorem not_mem_of (L : List Int) (i : Int) (h : ∀ j, j < L.length → L.getD j 0 ≠ i) : i ∉ L := by
  intro hm
  obtain ⟨j, hj, e⟩ := List.getElem_of_mem hm
  exact h j hj (by rw [List.getD_eq_getElem?_getD, List.getElem?_eq_getElem hj]; exact e)

set_option maxRecDepth 100000 in
set_option maxHeartbeats 1000000 in
theorem refHas_any (a : Option Addr) (c : Nat) (L : List Int) (i : Int) (w : World) (h : IsL w a c L) :
    Calls Tryd.prog 10 #[.slice a L.length c, .int .i64 i] w fun e w' => e = .returned (.bool (decide (i ∈ L))) ∧ w = w' := by
  have H := Lib.hid h
  have hc := h.1
  have hcm := h.2.1
  clear h
  obtain ⟨r, hr⟩ : ∃ r : Bool, r = decide (i ∈ L) := ⟨_, rfl⟩
  rw [← hr]
  have HR := Lib.hid hr
  clear hr
  go_enter Tryd.func10, Tryd.ntmps10
  go_wp2_with fail
  go_loop [5] (fun q => ∃ k : Nat, q = .int .i64 (k : Int) ∧ k ≤ L.length ∧ ∀ j, j < k → L.getD j 0 ≠ i) (fun q => L.length - (intOf q).toNat)
  case atStart => exact ⟨0, rfl, Nat.zero_le _, fun j hj => by omega⟩
  case round =>
    obtain ⟨k, rfl, hk, hn⟩ := hrel
    have HN := Lib.hid hn
    clear hn
    by_cases hlt : k < L.length
    · obtain ⟨b, off, rfl, hcell⟩ := H.out.at k hlt
      obtain ⟨x, hx⟩ : ∃ x, x = L.getD k 0 := ⟨_, rfl⟩
      rw [← hx] at hcell
      have HX := Lib.hid hx
      clear hx
      by_cases hxi : x = i
      · have hr : r = true := by rw [HR.out]; exact decide_eq_true (by rw [← hxi, HX.out]; exact mem_getD L k hlt)
        go_wp2_with fail
        go_ret
        exact ⟨rfl, rfl⟩
      · go_wp2_with fail
        exact ⟨⟨k + 1, int_eq (by omega), by omega, mem_step L i k hlt (by rw [← HX.out]; exact hxi) HN.out⟩, by simp [intOf]; omega⟩
    · have hr : r = false := by rw [HR.out]; exact decide_eq_false (not_mem_of L i (fun j hj => HN.out j (by omega)))
      go_wp2_with fail
      go_ret
      exact ⟨rfl, rfl⟩

/-- The first of a list that is not below i, or -1. -/
def firstI (L : List Int) (i : Int) : Int := match L.find? (fun x => decide (i ≤ x)) with | some x => x | none => -1
theorem first_at (L : List Int) (i : Int) (k : Nat) (hk : k < L.length) (hi : i ≤ L.getD k 0) (h : ∀ j, j < k → ¬ i ≤ L.getD j 0) : firstI L i = L.getD k 0 := by
  have e : L.getD k 0 = L[k] := by rw [List.getD_eq_getElem?_getD, List.getElem?_eq_getElem hk]; rfl
  unfold firstI
  have hf : L.find? (fun x => decide (i ≤ x)) = some (L.getD k 0) := List.find?_eq_some_iff_getElem.2 ⟨decide_eq_true hi, k, hk, e.symm, fun j hj => by
    have := h j hj
    rw [List.getD_eq_getElem?_getD, List.getElem?_eq_getElem (by omega)] at this
    simpa using this⟩
  rw [hf]
theorem first_not (L : List Int) (i : Int) (h : ∀ j, j < L.length → ¬ i ≤ L.getD j 0) : firstI L i = -1 := by
  unfold firstI
  rw [List.find?_eq_none.2 fun x hx => by
    obtain ⟨j, hj, rfl⟩ := List.getElem_of_mem hx
    have := h j hj
    rw [List.getD_eq_getElem?_getD, List.getElem?_eq_getElem hj] at this
    simpa using this]
theorem not_step (L : List Int) (i : Int) (k : Nat) (hn : ¬ i ≤ L.getD k 0) (h : ∀ j, j < k → ¬ i ≤ L.getD j 0) : ∀ j, j < k + 1 → ¬ i ≤ L.getD j 0 := by
  intro j hj
  by_cases hjk : j = k
  · rw [hjk]; exact hn
  · exact h j (by omega)
set_option maxRecDepth 100000 in
set_option maxHeartbeats 1000000 in
theorem refNext_any (a : Option Addr) (c : Nat) (L : List Int) (i : Int) (w : World) (h : IsL w a c L) :
    Calls Tryd.prog 18 #[.slice a L.length c, .int .i64 i] w fun e w' => e = .returned (.int .i64 (firstI L i)) ∧ w = w' := by
  have H := Lib.hid h
  have hc := h.1
  have hcm := h.2.1
  clear h
  obtain ⟨r, hr⟩ : ∃ r : Int, r = firstI L i := ⟨_, rfl⟩
  rw [← hr]
  have HR := Lib.hid hr
  clear hr
  go_enter Tryd.func18, Tryd.ntmps18
  go_wp2_with fail
  go_loop [5] (fun q => ∃ k : Nat, q = .int .i64 (k : Int) ∧ k ≤ L.length ∧ ∀ j, j < k → ¬ i ≤ L.getD j 0) (fun q => L.length - (intOf q).toNat)
  case atStart => exact ⟨0, rfl, Nat.zero_le _, fun j hj => by omega⟩
  case round =>
    obtain ⟨k, rfl, hk, hn⟩ := hrel
    have HN := Lib.hid hn
    clear hn
    by_cases hlt : k < L.length
    · obtain ⟨b, off, rfl, hcell⟩ := H.out.at k hlt
      obtain ⟨x, hx⟩ : ∃ x, x = L.getD k 0 := ⟨_, rfl⟩
      rw [← hx] at hcell
      have HX := Lib.hid hx
      clear hx
      by_cases hxi : i ≤ x
      · have HV := Lib.hid (show r = x by rw [HR.out, first_at L i k hlt (by rw [← HX.out]; exact hxi) HN.out, HX.out])
        go_wp2_with fail
        go_ret
        exact ⟨by rw [HV.out]; rfl, rfl⟩
      · go_wp2_with fail
        exact ⟨⟨k + 1, int_eq (by omega), by omega, not_step L i k (by rw [← HX.out]; exact hxi) HN.out⟩, by simp [intOf]; omega⟩
    · have HV := Lib.hid (show r = -1 by rw [HR.out, first_not L i (fun j hj => HN.out j (by omega))])
      go_wp2_with fail
      go_ret
      exact ⟨by rw [HV.out]; rfl, rfl⟩
theorem below_draws {B : Nat} {a w : World} (h : Below B a w) (n : Nat) : Below B a (w.drewN n) := h.trans ⟨rfl, rfl, rfl, Nat.le_refl _, fun _ _ => rfl⟩
theorem list_eq (A B : List Int) (hl : A.length = B.length) (h : ∀ j, j < A.length → A.getD j 0 = B.getD j 0) : A = B := by
  apply List.ext_getElem hl
  intro j h1 h2
  have := h j h1
  rw [List.getD_eq_getElem?_getD, List.getD_eq_getElem?_getD, List.getElem?_eq_getElem h1, List.getElem?_eq_getElem h2] at this
  exact this
set_option maxRecDepth 100000 in
set_option maxHeartbeats 1000000 in
theorem refSame_any (a b : Option Addr) (c d : Nat) (A B : List Int) (w : World) (hA : IsL w a c A) (hB : IsL w b d B) :
    Calls Tryd.prog 19 #[.slice a A.length c, .slice b B.length d] w fun e w' => e = .returned (.bool (decide (A = B))) ∧ Below w.heap.size w w' := by
  have HA := Lib.hid hA
  have HB := Lib.hid hB
  have hc := hA.1
  have hcm := hA.2.1
  have hd := hB.1
  have hdm := hB.2.1
  clear hA hB
  obtain ⟨r, hr⟩ : ∃ r : Bool, r = decide (A = B) := ⟨_, rfl⟩
  rw [← hr]
  have HR := Lib.hid hr
  clear hr
  by_cases hl : A.length = B.length
  · go_enter Tryd.func19, Tryd.ntmps19
    go_wp2_with fail
    go_loopw [5] (fun q wr => ∃ k : Nat, q = .int .i64 (k : Int) ∧ k ≤ B.length ∧ (∀ j, j < k → A.getD j 0 = B.getD j 0) ∧ Below w.heap.size w wr) (fun q _ => B.length - (intOf q).toNat)
    case atStart => exact ⟨0, rfl, Nat.zero_le _, fun j hj => by omega, Below.refl _ _⟩
    case round =>
      obtain ⟨k, rfl, hk, hn, hbw⟩ := hrel
      have HN := Lib.hid hn
      have HW := Lib.hid hbw
      clear hn hbw
      by_cases hlt : k < B.length
      · obtain ⟨b1, off1, rfl, hcell1⟩ := (HA.out.next HW.out).at k (by omega)
        obtain ⟨b2, off2, rfl, hcell2⟩ := (HB.out.next HW.out).at k hlt
        obtain ⟨x, hx⟩ : ∃ x, x = A.getD k 0 := ⟨_, rfl⟩
        obtain ⟨y, hy⟩ : ∃ y, y = B.getD k 0 := ⟨_, rfl⟩
        rw [← hx] at hcell1
        rw [← hy] at hcell2
        have HX := Lib.hid hx
        have HY := Lib.hid hy
        clear hx hy
        by_cases hxy : x = y
        · subst hxy
          go_wp2_with fail
          go_quiet (fail)
          go_wp2_with fail
          go_roundw
          case rel => exact ⟨k + 1, by go_num, by omega, fun j hj => by
            by_cases hjk : j = k
            · rw [hjk, ← HX.out, ← HY.out]
            · exact HN.out j (by omega), below_draws HW.out _⟩
          case measure => simp [intOf]; omega
        · have hxb : (x == y) = false := by simp [hxy]
          have hr : r = false := by rw [HR.out]; exact decide_eq_false (fun e => hxy (by rw [HX.out, HY.out, e]))
          go_wp2_with fail
          go_quiet (fail)
          go_wp2_with fail
          go_ret
          exact ⟨by rw [hr]; rfl, below_draws HW.out _⟩
      · have hr : r = true := by rw [HR.out]; exact decide_eq_true (list_eq A B hl (fun j hj => HN.out j (by omega)))
        go_wp2_with fail
        go_ret
        exact ⟨by rw [hr]; rfl, HW.out⟩
  · have hr : r = false := by rw [HR.out]; exact decide_eq_false (fun e => hl (by rw [e]))
    have hlb : ((A.length : Int) == (B.length : Int)) = false := by simp; omega
    go_enter Tryd.func19, Tryd.ntmps19
    go_wp2_with fail
    go_ret
    exact ⟨by rw [hr]; rfl, Below.refl _ _⟩
set_option maxRecDepth 100000 in
set_option maxHeartbeats 1000000 in
theorem ints_any (a b : Option Addr) (c d : Nat) (A B : List Int) (w : World) (hA : IsL w a c A) (hB : IsL w b d B) :
    Calls Tryd.prog 35 #[.slice a A.length c, .slice b B.length d] w fun e w' => e = .returned (.bool (decide (A = B))) ∧ Below w.heap.size w w' := by
  have HA := Lib.hid hA
  have HB := Lib.hid hB
  have hc := hA.1
  have hcm := hA.2.1
  have hd := hB.1
  have hdm := hB.2.1
  clear hA hB
  obtain ⟨r, hr⟩ : ∃ r : Bool, r = decide (A = B) := ⟨_, rfl⟩
  rw [← hr]
  have HR := Lib.hid hr
  clear hr
  by_cases hl : A.length = B.length
  · go_enter Tryd.func35, Tryd.ntmps35
    go_wp2_with fail
    go_loopw [5] (fun q wr => ∃ k : Nat, q = .int .i64 (k : Int) ∧ k ≤ B.length ∧ (∀ j, j < k → A.getD j 0 = B.getD j 0) ∧ Below w.heap.size w wr) (fun q _ => B.length - (intOf q).toNat)
    case atStart => exact ⟨0, rfl, Nat.zero_le _, fun j hj => by omega, Below.refl _ _⟩
    case round =>
      obtain ⟨k, rfl, hk, hn, hbw⟩ := hrel
      have HN := Lib.hid hn
      have HW := Lib.hid hbw
      clear hn hbw
      by_cases hlt : k < B.length
      · obtain ⟨b1, off1, rfl, hcell1⟩ := (HA.out.next HW.out).at k (by omega)
        obtain ⟨b2, off2, rfl, hcell2⟩ := (HB.out.next HW.out).at k hlt
        obtain ⟨x, hx⟩ : ∃ x, x = A.getD k 0 := ⟨_, rfl⟩
        obtain ⟨y, hy⟩ : ∃ y, y = B.getD k 0 := ⟨_, rfl⟩
        rw [← hx] at hcell1
        rw [← hy] at hcell2
        have HX := Lib.hid hx
        have HY := Lib.hid hy
        clear hx hy
        by_cases hxy : x = y
        · subst hxy
          go_wp2_with fail
          go_quiet (fail)
          go_wp2_with fail
          go_roundw
          case rel => exact ⟨k + 1, by go_num, by omega, fun j hj => by
            by_cases hjk : j = k
            · rw [hjk, ← HX.out, ← HY.out]
            · exact HN.out j (by omega), below_draws HW.out _⟩
          case measure => simp [intOf]; omega
        · have hxb : (x == y) = false := by simp [hxy]
          have hr : r = false := by rw [HR.out]; exact decide_eq_false (fun e => hxy (by rw [HX.out, HY.out, e]))
          go_wp2_with fail
          go_quiet (fail)
          go_wp2_with fail
          go_ret
          exact ⟨by rw [hr]; rfl, below_draws HW.out _⟩
      · have hr : r = true := by rw [HR.out]; exact decide_eq_true (list_eq A B hl (fun j hj => HN.out j (by omega)))
        go_wp2_with fail
        go_ret
        exact ⟨by rw [hr]; rfl, HW.out⟩
  · have hr : r = false := by rw [HR.out]; exact decide_eq_false (fun e => hl (by rw [e]))
    have hlb : ((A.length : Int) == (B.length : Int)) = false := by simp; omega
    go_enter Tryd.func35, Tryd.ntmps35
    go_wp2_with fail
    go_ret
    exact ⟨by rw [hr]; rfl, Below.refl _ _⟩
end Go.Proofs.YtidkakcnhgfpoaaDoor
