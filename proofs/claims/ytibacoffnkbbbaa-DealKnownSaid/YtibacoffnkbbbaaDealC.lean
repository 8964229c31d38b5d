/- A row of ints that the call made, as the list that it reads as; inOrder. -/
import Derived.Test.YtibacoffnkbbbaaDealB
namespace Go.Proofs.Ytibacoffnkbbbaa
open Go.RowKit
set_option linter.unusedVariables false

/-- Block g, from B on, is a row of the call's own that begins with M. -/
def RowI (w : World) (B g c : Nat) (M : List Int) : Prop := w.ownsRow B 3 1 (.slice (some ⟨g, 0, none⟩) M.length c) M.length (M.map (Value.int .i64))
theorem RowI.cell {w : World} {B g c : Nat} {M : List Int} (h : RowI w B g c M) (k : Nat) (hk : k < M.length) : w.cell? ⟨g, k, none⟩ = some (.int .i64 (M.getD k 0)) := by
  rw [h.cellAt k (by omega)]
  simp [List.getD, List.getElem?_map, List.getElem?_eq_getElem hk]
theorem RowI.free {w : World} {B g c : Nat} {M : List Int} (h : RowI w B g c M) (k : Nat) : w.frozen? ⟨g, k, none⟩ = false := h.frozenAt k
theorem RowI.lt {w : World} {B g c : Nat} {M : List Int} (h : RowI w B g c M) : B ≤ g ∧ g < w.heap.size := World.ownsRow.lt h g rfl
theorem RowI.set {w : World} {B g c : Nat} {M : List Int} (h : RowI w B g c M) (k : Nat) (x : Int) : RowI (w.setCell ⟨g, k, none⟩ (.int .i64 x)) B g c (M.set k x) := by
  have := (h.stored k (.int .i64 x)).1
  unfold RowI
  rw [List.length_set, List.map_set]
  exact this
theorem RowI.kept {w w' : World} {B g c : Nat} {M : List Int} (h : RowI w B g c M) {row : Option Nat} (k : w.grownBy w' row) (hr : row ≠ some g) : RowI w' B g c M :=
  World.ownsRow.kept h k (.inr (fun e => hr e.symm))
theorem RowI.next {w w' : World} {B g c : Nat} {M : List Int} (h : RowI w B g c M) (k : Below w.heap.size w w') : RowI w' B g c M := by
  obtain ⟨h1, h2 | ⟨g', c', cur, e, a1, a2, a3⟩⟩ := h
  · exact ⟨h1, .inl h2⟩
  · exact ⟨h1, .inr ⟨g', c', cur, e, a1, (k.block g' (Array.getElem?_eq_some_iff.1 a2).1).trans a2, a3⟩⟩
theorem RowI.mono {w : World} {B B' g c : Nat} {M : List Int} (h : RowI w B g c M) (hb : B' ≤ B) : RowI w B' g c M := by
  obtain ⟨h1, h2 | ⟨g', c', cur, e, a1, a2⟩⟩ := h
  · exact ⟨h1, .inl h2⟩
  · exact ⟨h1, .inr ⟨g', c', cur, e, Nat.le_trans hb a1, a2⟩⟩
theorem RowI.drew {w : World} {B g c : Nat} {M : List Int} (h : RowI w B g c M) (n : Nat) : RowI (w.drewN n) B g c M := h.next (below_draws (Below.refl _ _) n)
theorem RowI.isL {w : World} {B g c : Nat} {M : List Int} (h : RowI w B g c M) : IsL w (some ⟨g, 0, none⟩) c M := by
  obtain ⟨a, c', e, h'⟩ := own_isL h
  simp at e
  obtain ⟨e1, e2⟩ := e
  subst e1 e2
  exact h'
theorem RowI.own {w : World} {B : Nat} {v : Value} {M : List Int} (h : w.ownsRow B 3 1 v M.length (M.map (Value.int .i64))) (hM : 0 < M.length) : ∃ g c, v = .slice (some ⟨g, 0, none⟩) M.length c ∧ RowI w B g c M := by
  obtain ⟨h1, ⟨rfl, h2⟩ | ⟨g, c, cur, rfl, rest⟩⟩ := id h
  · omega
  · exact ⟨g, c, rfl, h⟩
theorem own_shape {w : World} {B k : Nat} {v : Value} {xs : List Value} (h : w.ownsRow B 3 1 v (k + 1) xs) : ∃ g c, v = .slice (some ⟨g, 0, none⟩) (k + 1) c := by
  obtain ⟨_, ⟨_, h2⟩ | ⟨g, c, _, rfl, _⟩⟩ := h
  · omega
  · exact ⟨g, c, rfl⟩
/-- A store in a row of one's own leaves all below. -/
theorem RowI.below {w W : World} {B g c : Nat} {M : List Int} (h : RowI W B g c M) (k : Below B w W) (j : Nat) (v : Value) : Below B w (W.setCell ⟨g, j, none⟩ v) :=
  k.setCell (p := ⟨g, j, none⟩) (h.lt).1 v
/-- The first k places laid, the others 0. -/
def fillN (n k : Nat) : List Int := places k ++ List.replicate (n - k) 0
theorem fillN_zero (n : Nat) : fillN n 0 = List.replicate n 0 := by unfold fillN; simp [places]
theorem fillN_full (n : Nat) : fillN n n = places n := by unfold fillN; rw [Nat.sub_self]; simp
theorem fillN_len (n k : Nat) (h : k ≤ n) : (fillN n k).length = n := by unfold fillN; rw [List.length_append, places_len, List.length_replicate]; omega
theorem fillN_step (n k : Nat) (h : k < n) : (fillN n k).set k (k : Int) = fillN n (k + 1) := by
  unfold fillN
  rw [List.set_append_right _ _ (by rw [places_len]; omega), places_len, Nat.sub_self, places_succ, show n - k = (n - (k + 1)) + 1 by omega, List.replicate_succ, List.set_cons_zero, List.append_assoc]
  rfl
theorem made_ints (n : Nat) : (madeCells #[Value.int .i64 0] n).toList = (fillN n 0).map (Value.int .i64) := by
  rw [fillN_zero]
  exact (toList_madeCells_one _ _).trans (by simp)
set_option maxRecDepth 100000 in
theorem inOrder_any (n : Nat) (hn : 0 < n) (hm : n ≤ 4096) (w : World) :
    Calls Try.prog 15 #[.int .i64 (n : Int)] w fun e w' => ∃ g c, e = .returned (.slice (some ⟨g, 0, none⟩) n c) ∧ RowI w' w.heap.size g c (places n) ∧ Below w.heap.size w w' := by
  obtain ⟨i0, hi, hz0, hz1, hz2⟩ := info_parts intInfo
  go_enter Try.func15, Try.ntmps15
  go_wp2_with (at_make; refine wpList_make_full _ rfl _ _ 22 rfl w.heap.size 3 i0 (.int .i64 0) 1 Try.underlying22 hi hz0 hz1 .i64 .i64 _ _ n rfl rfl rfl rfl (by rw [hz2]; omega) (by unfold maxLen; omega) (Nat.le_refl _) ?_)
  intro w1 hown hgrow
  rw [made_ints] at hown
  have hR : RowI w1 w.heap.size w.heap.size n (fillN n 0) := by unfold RowI; rw [fillN_len n 0 (by omega)]; exact hown
  have hB : Below w.heap.size w w1 := (Below.refl _ _).grown hgrow (Nat.le_refl _) (fun k e => by cases e)
  clear hown hgrow
  have HR := Lib.hid hR
  have HB := Lib.hid hB
  clear hR hB
  go_wp2
  go_loopw [9] (fun q wr => ∃ k : Nat, q = .int .i64 (k : Int) ∧ k ≤ n ∧ RowI wr w.heap.size w.heap.size n (fillN n k) ∧ Below w.heap.size w wr) (fun q _ => n - (intOf q).toNat)
  case atStart => exact ⟨0, rfl, Nat.zero_le _, HR.out, HB.out⟩
  case round =>
    obtain ⟨k, rfl, hk, hR, hB⟩ := hrel
    have hfz := hR.free k
    by_cases hlt : k < n
    · have hc := hR.cell k (by rw [fillN_len n k hk]; exact hlt)
      have HR1 := Lib.hid (fillN_step n k hlt ▸ hR.set k (k : Int))
      have HB1 := Lib.hid (hR.below hB k (.int .i64 (k : Int)))
      clear hR hB
      go_wp2
      go_roundw
      case rel => exact ⟨k + 1, by go_num, by omega, HR1.out, HB1.out⟩
      case measure => simp [intOf]; omega
    · have HR1 := Lib.hid (show RowI _ w.heap.size w.heap.size n (places n) by rw [← fillN_full, show n = k by omega]; rw [show k = n by omega] at hR ⊢; exact hR)
      have HB1 := Lib.hid hB
      clear hR hB hfz
      go_wp2
      go_ret
      exact ⟨w.heap.size, n, rfl, HR1.out, HB1.out⟩
end Go.Proofs.Ytibacoffnkbbbaa
