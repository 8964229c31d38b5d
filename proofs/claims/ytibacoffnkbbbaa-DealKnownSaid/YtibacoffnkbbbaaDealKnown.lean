/- DealKnown: the walk. Written by wip/tools/genKnown3.py. -/
import Derived.Test.YtibacoffnkbbbaaDealN
namespace Go.Proofs.Ytibacoffnkbbbaa
open Go.RowKit
set_option linter.unusedVariables false

/-- Blocks that are laid one behind the other. -/
def allocs (w : World) : List Obj → World
  | [] => w
  | o :: r => allocs (w.alloc o) r
theorem allocs_below (os : List Obj) : ∀ w : World, Below w.heap.size w (allocs w os) := by
  induction os with
  | nil => intro w; exact Below.refl _ _
  | cons o r ih => intro w; exact (below_alloc1 w o).trans ((ih (w.alloc o)).mono (by simp))
theorem allocs_at (os : List Obj) : ∀ (w : World) (k : Nat) (o : Obj), os[k]? = some o → (allocs w os).heap[w.heap.size + k]? = some o := by
  induction os with
  | nil => intro w k o h; simp at h
  | cons p r ih =>
    intro w k o h
    cases k with
    | zero =>
      simp at h
      subst h
      exact ((allocs_below r (w.alloc p)).block w.heap.size (by simp)).trans (heap_alloc_new w p)
    | succ k =>
      have := ih (w.alloc p) k o (by simpa using h)
      have e : (w.alloc p).heap.size = w.heap.size + 1 := by simp
      rw [e] at this
      rw [show w.heap.size + (k + 1) = w.heap.size + 1 + k by omega]
      exact this
theorem isL_heap {W : World} {b : Nat} (M : List Int) (h : W.heap[b]? = some (.cells (M.map (Value.int .i64)).toArray 3)) (hM : M.length ≤ 9223372036854775807) : IsL W (some ⟨b, 0, none⟩) M.length M := by
  refine ⟨Nat.le_refl _, hM, .inr ⟨b, 0, rfl, (Array.getElem?_eq_some_iff.1 h).1, fun j hj => ?_⟩⟩
  rw [Nat.zero_add, cell_of_row _ _ _ _ _ _ h]
  simp [List.getD, List.getElem?_map, List.getElem?_eq_getElem hj]
def knMain (w : World) : Array Value := #[.int .i64 3, .slice (some ⟨w.heap.size, 0, none⟩) 2 2, .slice (some ⟨w.heap.size + 1, 0, none⟩) 3 3, .int .i64 2, .int .i64 3, .slice (some ⟨w.heap.size + 1 + 1, 0, none⟩) 2 2, .slice (some ⟨w.heap.size + 1 + 1 + 1, 0, none⟩) 3 3, .int .i64 2, .int .i64 3, .slice (some ⟨w.heap.size + 1 + 1 + 1 + 1, 0, none⟩) 2 2, .slice (some ⟨w.heap.size + 1 + 1 + 1 + 1 + 1, 0, none⟩) 3 3, .int .i64 2, .int .i64 4, .slice (some ⟨w.heap.size + 1 + 1 + 1 + 1 + 1 + 1, 0, none⟩) 1 1, .slice (some ⟨w.heap.size + 1 + 1 + 1 + 1 + 1 + 1 + 1, 0, none⟩) 4 4, .int .i64 1, .int .i64 1, .slice (some ⟨w.heap.size + 1 + 1 + 1 + 1 + 1 + 1 + 1 + 1, 0, none⟩) 1 1, .slice (some ⟨w.heap.size + 1 + 1 + 1 + 1 + 1 + 1 + 1 + 1 + 1, 0, none⟩) 1 1, .int .i64 0, .int .i64 0, .slice (some ⟨w.heap.size + 1 + 1 + 1 + 1 + 1 + 1 + 1 + 1 + 1 + 1, 0, none⟩) 1 1, .slice none 0 0, .int .i64 0, .int .i64 (-1), .slice none 0 0, .slice none 0 0, .int .i64 0, .int .i64 4097, .slice none 0 0, .slice none 0 0, .int .i64 0, .int .i64 2, .slice none 0 0, .slice (some ⟨w.heap.size + 1 + 1 + 1 + 1 + 1 + 1 + 1 + 1 + 1 + 1 + 1, 0, none⟩) 2 2, .int .i64 0]
def knObjs (w : World) : List Obj := [.cells #[.int .i64 0, .int .i64 0] 3, .cells #[.int .i64 1, .int .i64 2, .int .i64 0] 3, .cells #[.int .i64 2, .int .i64 1] 3, .cells #[.int .i64 0, .int .i64 1, .int .i64 2] 3, .cells #[.int .i64 (-1), .int .i64 7] 3, .cells #[.int .i64 0, .int .i64 1, .int .i64 2] 3, .cells #[.int .i64 1] 3, .cells #[.int .i64 3, .int .i64 2, .int .i64 0, .int .i64 1] 3, .cells #[.int .i64 5] 3, .cells #[.int .i64 0] 3, .cells #[.int .i64 5] 3, .cells #[.int .i64 1, .int .i64 0] 3, .cells (knMain w) 31]
def knW (w : World) : World := allocs w (knObjs w)
/-- What a row of the table holds. -/
def Kn (W : World) (b k : Nat) : Prop := ∃ (n : Int) (a : Option Addr) (l c : Nat) (D : List Int) (a' : Option Addr) (m c' : Nat) (M : List Int) (u : Nat),
  (W.cell? ⟨b, k * 4, none⟩ = some (.int .i64 n) ∧ W.cell? ⟨b, k * 4 + 1, none⟩ = some (.slice a l c) ∧ W.cell? ⟨b, k * 4 + 2, none⟩ = some (.slice a' m c') ∧ W.cell? ⟨b, k * 4 + 3, none⟩ = some (.int .i64 (u : Int))) ∧
  IsL W a c D ∧ D.length = l ∧ IsL W a' c' M ∧ M.length = m ∧ permI n D = (M, u)
theorem kn_cell (w : World) (j : Nat) (v : Value) (h : (knMain w)[j]? = some v) : (knW w).cell? ⟨w.heap.size + 12, j, none⟩ = some v := by
  have := allocs_at (knObjs w) w 12 _ rfl
  unfold knW
  rw [cell_of_row _ _ _ _ _ _ this]
  exact h
theorem kn_isL (w : World) (k : Nat) (M : List Int) (h : (knObjs w)[k]? = some (.cells (M.map (Value.int .i64)).toArray 3)) (hM : M.length ≤ 9223372036854775807) : IsL (knW w) (some ⟨w.heap.size + k, 0, none⟩) M.length M :=
  isL_heap M (allocs_at (knObjs w) w k _ h) hM
theorem kn0 (w : World) : Kn (knW w) (w.heap.size + 12) 0 :=
  ⟨_, _, _, _, [0, 0], _, _, _, [1, 2, 0], 2, ⟨kn_cell w 0 _ rfl, kn_cell w 1 _ rfl, kn_cell w 2 _ rfl, kn_cell w 3 _ rfl⟩, kn_isL w 0 [0, 0] rfl (by decide), rfl, kn_isL w 1 [1, 2, 0] rfl (by decide), rfl, by decide +kernel⟩
theorem kn1 (w : World) : Kn (knW w) (w.heap.size + 12) 1 :=
  ⟨_, _, _, _, [2, 1], _, _, _, [0, 1, 2], 2, ⟨kn_cell w 4 _ rfl, kn_cell w 5 _ rfl, kn_cell w 6 _ rfl, kn_cell w 7 _ rfl⟩, kn_isL w 2 [2, 1] rfl (by decide), rfl, kn_isL w 3 [0, 1, 2] rfl (by decide), rfl, by decide +kernel⟩
theorem kn2 (w : World) : Kn (knW w) (w.heap.size + 12) 2 :=
  ⟨_, _, _, _, [-1, 7], _, _, _, [0, 1, 2], 2, ⟨kn_cell w 8 _ rfl, kn_cell w 9 _ rfl, kn_cell w 10 _ rfl, kn_cell w 11 _ rfl⟩, kn_isL w 4 [-1, 7] rfl (by decide), rfl, kn_isL w 5 [0, 1, 2] rfl (by decide), rfl, by decide +kernel⟩
theorem kn3 (w : World) : Kn (knW w) (w.heap.size + 12) 3 :=
  ⟨_, _, _, _, [1], _, _, _, [3, 2, 0, 1], 1, ⟨kn_cell w 12 _ rfl, kn_cell w 13 _ rfl, kn_cell w 14 _ rfl, kn_cell w 15 _ rfl⟩, kn_isL w 6 [1] rfl (by decide), rfl, kn_isL w 7 [3, 2, 0, 1] rfl (by decide), rfl, by decide +kernel⟩
theorem kn4 (w : World) : Kn (knW w) (w.heap.size + 12) 4 :=
  ⟨_, _, _, _, [5], _, _, _, [0], 0, ⟨kn_cell w 16 _ rfl, kn_cell w 17 _ rfl, kn_cell w 18 _ rfl, kn_cell w 19 _ rfl⟩, kn_isL w 8 [5] rfl (by decide), rfl, kn_isL w 9 [0] rfl (by decide), rfl, by decide +kernel⟩
theorem kn5 (w : World) : Kn (knW w) (w.heap.size + 12) 5 :=
  ⟨_, _, _, _, [5], _, _, _, [], 0, ⟨kn_cell w 20 _ rfl, kn_cell w 21 _ rfl, kn_cell w 22 _ rfl, kn_cell w 23 _ rfl⟩, kn_isL w 10 [5] rfl (by decide), rfl, IsL.nil _, rfl, by decide +kernel⟩
theorem kn6 (w : World) : Kn (knW w) (w.heap.size + 12) 6 :=
  ⟨_, _, _, _, [], _, _, _, [], 0, ⟨kn_cell w 24 _ rfl, kn_cell w 25 _ rfl, kn_cell w 26 _ rfl, kn_cell w 27 _ rfl⟩, IsL.nil _, rfl, IsL.nil _, rfl, by decide +kernel⟩
theorem kn7 (w : World) : Kn (knW w) (w.heap.size + 12) 7 :=
  ⟨_, _, _, _, [], _, _, _, [], 0, ⟨kn_cell w 28 _ rfl, kn_cell w 29 _ rfl, kn_cell w 30 _ rfl, kn_cell w 31 _ rfl⟩, IsL.nil _, rfl, IsL.nil _, rfl, by decide +kernel⟩
theorem kn8 (w : World) : Kn (knW w) (w.heap.size + 12) 8 :=
  ⟨_, _, _, _, [], _, _, _, [1, 0], 0, ⟨kn_cell w 32 _ rfl, kn_cell w 33 _ rfl, kn_cell w 34 _ rfl, kn_cell w 35 _ rfl⟩, IsL.nil _, rfl, kn_isL w 11 [1, 0] rfl (by decide), rfl, by decide +kernel⟩
theorem kn_all (w : World) (k : Nat) (h : k < 9) : Kn (knW w) (w.heap.size + 12) k := by
  have hk : k = 0 ∨ k = 1 ∨ k = 2 ∨ k = 3 ∨ k = 4 ∨ k = 5 ∨ k = 6 ∨ k = 7 ∨ k = 8 := by omega
  rcases hk with rfl | rfl | rfl | rfl | rfl | rfl | rfl | rfl | rfl
  · exact kn0 w
  · exact kn1 w
  · exact kn2 w
  · exact kn3 w
  · exact kn4 w
  · exact kn5 w
  · exact kn6 w
  · exact kn7 w
  · exact kn8 w
theorem none2 (P : List Int) (h : turnI [7, 8] P = []) (hl : P.length ≤ 9223372036854775807) (w : World) :
    Calls Try.prog 12 #[.slice (some ⟨w.heap.size, 0, none⟩) 2 2, .slice (some ⟨w.heap.size + 1, 0, none⟩) P.length P.length] ((w.alloc (.cells #[.int .i64 7, .int .i64 8] 3)).alloc (.cells (P.map (Value.int .i64)).toArray 3)) fun e w' => ∃ a c, e = .returned (.slice a 0 c) ∧ Below w.heap.size w w' := by
  refine (turned_at _ _ 2 2 P.length P.length [7, 8] P _ ((lit_isL w [7, 8] (by decide)).alloc _) (lit_isL2 w _ P hl) rfl rfl (by decide) [] 0 h rfl).mono ?_
  rintro e w' ⟨a, c, rfl, _, hB⟩
  exact ⟨a, c, rfl, (below_alloc2 w _ _).trans (hB.mono (below_alloc2 w _ _).size)⟩
set_option maxRecDepth 100000 in
set_option maxHeartbeats 8000000 in
theorem walk_DealKnown (w : World) :
    Calls Try.prog 7 #[] w fun e w' => e = .returned (.bool true) ∧ Below w.heap.size w w' := by
  have HK := Lib.hid (kn_all w)
  have HB0 := Lib.hid (show Below w.heap.size w (knW w) from allocs_below _ w)
  go_enter Try.func7, Try.ntmps7
  go_wp2_with fail
  change Code.wp _ _ _ _ (knW w)
  have hbl : w.heap.size + 12 < (knW w).heap.size := by
    have := allocs_at (knObjs w) w 12 _ rfl
    exact (Array.getElem?_eq_some_iff.1 this).1
  generalize knW w = W at *
  rw [show w.heap.size + 12 = w.heap.size + 1 + 1 + 1 + 1 + 1 + 1 + 1 + 1 + 1 + 1 + 1 + 1 from rfl] at HK hbl
  generalize w.heap.size + 1 + 1 + 1 + 1 + 1 + 1 + 1 + 1 + 1 + 1 + 1 + 1 = bl at *
  go_loopw [30] (fun q wr => ∃ k : Nat, k ≤ 9 ∧ q = .int .i64 (k : Int) ∧ Below W.heap.size W wr) (fun q _ => 10 - (intOf q).toNat)
  case atStart => exact ⟨0, by omega, rfl, Below.refl _ _⟩
  case round =>
    obtain ⟨k, hk, rfl, hbw⟩ := hrel
    have HW := Lib.hid hbw
    clear hbw
    by_cases hlt : k < 9
    · obtain ⟨n, a, l, c, D, a', m, c', M, u, ⟨c0, c1, c2, c3⟩, hD, hDl, hM, hMl, hp⟩ := HK.out k hlt
      rw [← HW.out.cell (p := ⟨bl, k * 4, none⟩) hbl] at c0
      rw [← HW.out.cell (p := ⟨bl, k * 4 + 1, none⟩) hbl] at c1
      rw [← HW.out.cell (p := ⟨bl, k * 4 + 2, none⟩) hbl] at c2
      rw [← HW.out.cell (p := ⟨bl, k * 4 + 3, none⟩) hbl] at c3
      have ID := Lib.hid (hD.next HW.out)
      have IM := Lib.hid (hM.next HW.out)
      have HDl := Lib.hid hDl
      have HMl := Lib.hid hMl
      have HP := Lib.hid hp
      clear hD hDl hM hMl hp
      have hP1 := perm_at n a l c D (wr.alloc (.cells #[.int .i64 n, .slice a l c, .slice a' m c', .int .i64 (u : Int)] 31)) (ID.out.alloc _) HDl.out M m u HP.out HMl.out
      go_wp2_with (go_at_call 8; with_reducible refine hP1.mono ?_; rintro e w3 ⟨a3, c3', rfl, hi3, hb3⟩; have d2 : w3.cell? ⟨wr.heap.size, 2, none⟩ = some (.slice a' m c') := (hb3.cell (p := ⟨wr.heap.size, 2, none⟩) (by simp)).trans (cell_of_row _ _ _ _ _ _ (heap_alloc_new wr _)))
      clear hP1
      have I3 := Lib.hid hi3
      have d3 : w3.cell? ⟨wr.heap.size, 3, none⟩ = some (.int .i64 (u : Int)) := (hb3.cell (p := ⟨wr.heap.size, 3, none⟩) (by simp)).trans (cell_of_row _ _ _ _ _ _ (heap_alloc_new wr _))
      have hA := alike_at a3 a' m c3' m c' M M w3 I3.out ((IM.out.alloc _).next hb3) HMl.out HMl.out true (by simp)
      have HB3 := Lib.hid (HW.out.trans (((below_alloc1 wr _).trans (hb3.mono (below_alloc1 wr _).size)).mono HW.out.size))
      have hs3 : wr.heap.size < w3.heap.size := Nat.lt_of_lt_of_le (by simp) hb3.size
      clear hi3 hb3 c0 c1 c2 c3
      go_wp2_with (go_at_call 10; with_reducible refine hA.mono ?_; rintro e w4 ⟨rfl, hb4⟩; have e3 : w4.cell? ⟨wr.heap.size, 3, none⟩ = some (.int .i64 (u : Int)) := (hb4.cell (p := ⟨wr.heap.size, 3, none⟩) hs3).trans d3)
      have HB4 := Lib.hid (HB3.out.trans (hb4.mono HB3.out.size))
      clear hA hb4 d3
      go_wp2_with fail
      go_roundw
      case rel => exact ⟨k + 1, by omega, by go_num, HB4.out⟩
      case measure => simp [intOf]; omega
    · have HBw := Lib.hid (HB0.out.trans (HW.out.mono HB0.out.size))
      obtain ⟨M, u, hp⟩ : ∃ M u, permN 4096 [] = (M, u) := ⟨_, _, rfl⟩
      have hu : u = 0 := by have := permN_used 4096 []; rw [hp] at this; simpa using this
      subst hu
      have hP1 := permRow_at 4096 (by decide) (by decide) none 0 0 [] wr (IsL.nil _) rfl M 0 hp
      clear hp
      go_wp2_with (go_at_call 8; refine hP1.mono ?_; rintro e w1 ⟨g, c1, rfl, hR1, hb1⟩)
      have B1 := Lib.hid (HBw.out.trans (hb1.mono HBw.out.size))
      clear hP1 hR1 hb1
      have hT1 : Calls Try.prog 12 #[.slice (some ⟨w1.heap.size, 0, none⟩) 2 2, .slice (some ⟨w1.heap.size + 1, 0, none⟩) 2 2] ((w1.alloc (.cells #[.int .i64 7, .int .i64 8] 3)).alloc (.cells #[.int .i64 0, .int .i64 0] 3)) fun e w' => ∃ a c, e = .returned (.slice a 0 c) ∧ Below w1.heap.size w1 w' := none2 [0, 0] (by decide +kernel) (by decide) w1
      go_wp2_with (go_at_call 12; with_reducible refine hT1.mono ?_; rintro e w2 ⟨a2, c2, rfl, hb2⟩)
      have B2 := Lib.hid (B1.out.trans (hb2.mono B1.out.size))
      clear hT1 hb2
      have hT2 : Calls Try.prog 12 #[.slice (some ⟨w2.heap.size, 0, none⟩) 2 2, .slice (some ⟨w2.heap.size + 1, 0, none⟩) 1 1] ((w2.alloc (.cells #[.int .i64 7, .int .i64 8] 3)).alloc (.cells #[.int .i64 0] 3)) fun e w' => ∃ a c, e = .returned (.slice a 0 c) ∧ Below w2.heap.size w2 w' := none2 [0] (by decide +kernel) (by decide) w2
      go_wp2_with (go_at_call 12; with_reducible refine hT2.mono ?_; rintro e w3 ⟨a3, c3, rfl, hb3⟩)
      have B3 := Lib.hid (B2.out.trans (hb3.mono B2.out.size))
      clear hT2 hb3
      have hT3 : Calls Try.prog 12 #[.slice (some ⟨w3.heap.size, 0, none⟩) 2 2, .slice (some ⟨w3.heap.size + 1, 0, none⟩) 2 2] ((w3.alloc (.cells #[.int .i64 7, .int .i64 8] 3)).alloc (.cells #[.int .i64 0, .int .i64 2] 3)) fun e w' => ∃ a c, e = .returned (.slice a 0 c) ∧ Below w3.heap.size w3 w' := none2 [0, 2] (by decide +kernel) (by decide) w3
      go_wp2_with (go_at_call 12; with_reducible refine hT3.mono ?_; rintro e w4 ⟨a4, c4, rfl, hb4⟩)
      have B4 := Lib.hid (B3.out.trans (hb4.mono B3.out.size))
      clear hT3 hb4
      have hT4 : Calls Try.prog 12 #[.slice (some ⟨w4.heap.size, 0, none⟩) 2 2, .slice (some ⟨w4.heap.size + 1, 0, none⟩) 2 2] ((w4.alloc (.cells #[.int .i64 7, .int .i64 8] 3)).alloc (.cells #[.int .i64 (-1), .int .i64 0] 3)) fun e w' => ∃ a c, e = .returned (.slice a 0 c) ∧ Below w4.heap.size w4 w' := none2 [-1, 0] (by decide +kernel) (by decide) w4
      go_wp2_with (first
        | (go_at_call 12; with_reducible refine hT4.mono ?_; rintro e w5 ⟨a5, c5, rfl, hb5⟩)
        | (go_at_call 11; refine (works_any _).mono ?_; rintro e w6 ⟨rfl, hb6⟩))
      have B5 := Lib.hid (B4.out.trans (hb5.mono B4.out.size))
      have B6 := Lib.hid (B5.out.trans (hb6.mono B5.out.size))
      clear hT4 hb5 hb6
      go_wp2_with fail
      go_ret
      exact ⟨rfl, B6.out⟩
end Go.Proofs.Ytibacoffnkbbbaa
