/- The program's functions by what they are asked: lengths and answers as variables; a literal list; works. -/
import Derived.Test.YtibacoffnkbbbaaDealJ
namespace Go.Proofs.Ytibacoffnkbbbaa
open Go.RowKit
set_option linter.unusedVariables false

theorem perm_at (n : Int) (a : Option Addr) (l c : Nat) (L : List Int) (w : World) (hL : IsL w a c L) (hl : L.length = l) (M : List Int) (m u : Nat) (hp : permI n L = (M, u)) (hm : M.length = m) :
    Calls Try.prog 8 #[.int .i64 n, .slice a l c] w fun e w' => ∃ a' c', e = .returned (.tuple #[.slice a' m c', .int .i64 (u : Int)]) ∧ IsL w' a' c' M ∧ Below w.heap.size w w' := by
  subst hl hm
  by_cases h : 1 ≤ n ∧ n ≤ 4096
  · obtain ⟨k, rfl⟩ : ∃ k : Nat, n = (k : Int) := ⟨n.toNat, by omega⟩
    have hp' : permN k L = (M, u) := by rw [← hp]; unfold permI; rw [if_pos h]; rfl
    have hk := permN_len k L
    rw [hp'] at hk
    refine (perm_some k (by omega) (by omega) a c L w hL).mono ?_
    rintro e w' ⟨g, c', rfl, hR, hB⟩
    rw [hp'] at hR ⊢
    exact ⟨_, c', by rw [hk], hR.isL, hB⟩
  · have hp' : (M, u) = ([], 0) := by rw [← hp]; unfold permI; rw [if_neg h]
    obtain ⟨rfl, rfl⟩ := Prod.mk.inj hp'
    refine (perm_none n h a L.length c w).mono ?_
    rintro e w' ⟨rfl, hB⟩
    exact ⟨none, 0, rfl, IsL.nil _, hB⟩
theorem refPerm_at (n : Int) (a : Option Addr) (l c : Nat) (L : List Int) (w : World) (hL : IsL w a c L) (hl : L.length = l) (M : List Int) (m u : Nat) (hp : permI n L = (M, u)) (hm : M.length = m) :
    Calls Try.prog 9 #[.int .i64 n, .slice a l c] w fun e w' => ∃ a' c', e = .returned (.tuple #[.slice a' m c', .int .i64 (u : Int)]) ∧ IsL w' a' c' M ∧ Below w.heap.size w w' := by
  subst hl hm
  by_cases h : 1 ≤ n ∧ n ≤ 4096
  · obtain ⟨k, rfl⟩ : ∃ k : Nat, n = (k : Int) := ⟨n.toNat, by omega⟩
    have hp' : permN k L = (M, u) := by rw [← hp]; unfold permI; rw [if_pos h]; rfl
    have hk := permN_len k L
    rw [hp'] at hk
    refine (refPerm_some k (by omega) (by omega) a c L w hL).mono ?_
    rintro e w' ⟨g, c', rfl, hR, hB⟩
    rw [hp'] at hR ⊢
    exact ⟨_, c', by rw [hk], hR.isL, hB⟩
  · have hp' : (M, u) = ([], 0) := by rw [← hp]; unfold permI; rw [if_neg h]
    obtain ⟨rfl, rfl⟩ := Prod.mk.inj hp'
    refine (refPerm_none n h a L.length c w).mono ?_
    rintro e w' ⟨rfl, hB⟩
    exact ⟨none, 0, rfl, IsL.nil _, hB⟩
theorem turned_at (a b : Option Addr) (l c m d : Nat) (L P : List Int) (w : World) (hL : IsL w a c L) (hP : IsL w b d P) (hl : L.length = l) (hm : P.length = m) (hs : l ≤ 4096) (M : List Int) (k : Nat) (hM : turnI L P = M) (hk : M.length = k) :
    Calls Try.prog 12 #[.slice a l c, .slice b m d] w fun e w' => ∃ a' c', e = .returned (.slice a' k c') ∧ IsL w' a' c' M ∧ Below w.heap.size w w' := by
  subst hl hm hM hk
  refine (turned_any a b c d L P w hL hP hs).mono ?_
  rintro e w' ⟨⟨a', c', rfl, h⟩, hB⟩
  exact ⟨a', c', rfl, h, hB⟩
theorem refTurned_at (a b : Option Addr) (l c m d : Nat) (L P : List Int) (w : World) (hL : IsL w a c L) (hP : IsL w b d P) (hl : L.length = l) (hm : P.length = m) (hs : l ≤ 4096) (M : List Int) (k : Nat) (hM : turnI L P = M) (hk : M.length = k) :
    Calls Try.prog 13 #[.slice a l c, .slice b m d] w fun e w' => ∃ a' c', e = .returned (.slice a' k c') ∧ IsL w' a' c' M ∧ Below w.heap.size w w' := by
  subst hl hm hM hk
  refine (refTurned_any a b c d L P w hL hP hs).mono ?_
  rintro e w' ⟨⟨a', c', rfl, h⟩, hB⟩
  exact ⟨a', c', rfl, h, hB⟩
theorem alike_at (a b : Option Addr) (l c m d : Nat) (A B : List Int) (w : World) (hA : IsL w a c A) (hB : IsL w b d B) (hl : A.length = l) (hm : B.length = m) (r : Bool) (hr : decide (A = B) = r) :
    Calls Try.prog 10 #[.slice a l c, .slice b m d] w fun e w' => e = .returned (.bool r) ∧ Below w.heap.size w w' := by
  subst hl hm hr
  exact alike_any a b c d A B w hA hB
/-- A list of the text, in a block that is new. -/
theorem lit_isL (w : World) (M : List Int) (h : M.length ≤ 9223372036854775807) : IsL (w.alloc (.cells (M.map (Value.int .i64)).toArray 3)) (some ⟨w.heap.size, 0, none⟩) M.length M := by
  refine ⟨Nat.le_refl _, h, .inr ⟨w.heap.size, 0, rfl, by simp, fun j hj => ?_⟩⟩
  rw [Nat.zero_add, cell_of_row _ _ _ _ _ _ (heap_alloc_new w _)]
  simp [List.getD, List.getElem?_map, List.getElem?_eq_getElem hj]
theorem lit_isL2 (w : World) (o : Obj) (M : List Int) (h : M.length ≤ 9223372036854775807) : IsL ((w.alloc o).alloc (.cells (M.map (Value.int .i64)).toArray 3)) (some ⟨w.heap.size + 1, 0, none⟩) M.length M := by
  have := lit_isL (w.alloc o) M h
  simpa using this
theorem IsL.alloc {w : World} {a : Option Addr} {c : Nat} {L : List Int} (h : IsL w a c L) (o : Obj) : IsL (w.alloc o) a c L := h.next (below_alloc1 w o)
set_option maxRecDepth 100000 in
set_option maxHeartbeats 1000000 in
theorem works_any (w : World) : Calls Try.prog 11 #[] w fun e w' => e = .returned (.bool true) ∧ Below w.heap.size w w' := by
  go_enter Try.func11, Try.ntmps11
  go_wp2_with (go_at_call 8; refine (perm_at 3 _ 2 2 [0, 0] _ (lit_isL w [0, 0] (by decide)) rfl [1, 2, 0] 3 2 (by decide +kernel) rfl).mono ?_; rintro e w1 ⟨a1, c1, rfl, hi1, hb1⟩)
  have B1 := Lib.hid ((below_alloc1 w _).trans (hb1.mono (below_alloc1 w _).size))
  have I1 := Lib.hid hi1
  clear hi1 hb1
  go_wp2_with (go_at_call 10; refine (alike_at _ _ 3 _ 3 _ [1, 2, 0] [1, 2, 0] _ (I1.out.alloc _) (lit_isL w1 [1, 2, 0] (by decide)) rfl rfl true (by decide +kernel)).mono ?_; rintro e w2 ⟨rfl, hb2⟩)
  have B2 := Lib.hid (B1.out.trans (((below_alloc1 w1 _).trans (hb2.mono (below_alloc1 w1 _).size)).mono B1.out.size))
  clear hb2
  go_wp2_with (go_at_call 12; refine (turned_at _ _ 3 3 3 3 [7, 8, 9] [2, 0, 1] _ ((lit_isL w2 [7, 8, 9] (by decide)).alloc _) (lit_isL2 w2 _ [2, 0, 1] (by decide)) rfl rfl (by decide) [9, 7, 8] 3 (by decide +kernel) rfl).mono ?_; rintro e w3 ⟨a3, c3, rfl, hi3, hb3⟩)
  have B3 := Lib.hid (B2.out.trans (((below_alloc2 w2 _ _).trans (hb3.mono (below_alloc2 w2 _ _).size)).mono B2.out.size))
  have I3 := Lib.hid hi3
  clear hi3 hb3
  go_wp2_with (go_at_call 10; refine (alike_at _ _ 3 _ 3 _ [9, 7, 8] [9, 7, 8] _ (I3.out.alloc _) (lit_isL w3 [9, 7, 8] (by decide)) rfl rfl true (by decide +kernel)).mono ?_; rintro e w4 ⟨rfl, hb4⟩)
  have B4 := Lib.hid (B3.out.trans (((below_alloc1 w3 _).trans (hb4.mono (below_alloc1 w3 _).size)).mono B3.out.size))
  clear hb4
  go_wp2_with fail
  go_ret
  exact ⟨rfl, B4.out⟩
end Go.Proofs.Ytibacoffnkbbbaa
