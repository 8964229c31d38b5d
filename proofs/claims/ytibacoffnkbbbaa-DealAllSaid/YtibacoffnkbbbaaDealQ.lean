/- A row of bools that the call made; what was seen. -/
import Derived.Test.YtibacoffnkbbbaaDealO
namespace Go.Proofs.Ytibacoffnkbbbaa
open Go.RowKit
set_option linter.unusedVariables false

def RowB (w : World) (B g c : Nat) (S : List Bool) : Prop := w.ownsRow B 4 1 (.slice (some ⟨g, 0, none⟩) S.length c) S.length (S.map Value.bool)
theorem RowB.cell {w : World} {B g c : Nat} {S : List Bool} (h : RowB w B g c S) (k : Nat) (hk : k < S.length) : w.cell? ⟨g, k, none⟩ = some (.bool (S.getD k false)) := by
  rw [h.cellAt k (by omega)]
  simp [List.getD, List.getElem?_map, List.getElem?_eq_getElem hk]
theorem RowB.free {w : World} {B g c : Nat} {S : List Bool} (h : RowB w B g c S) (k : Nat) : w.frozen? ⟨g, k, none⟩ = false := h.frozenAt k
theorem RowB.set {w : World} {B g c : Nat} {S : List Bool} (h : RowB w B g c S) (k : Nat) (x : Bool) : RowB (w.setCell ⟨g, k, none⟩ (.bool x)) B g c (S.set k x) := by
  have := (h.stored k (.bool x)).1
  unfold RowB
  rw [List.length_set, List.map_set]
  exact this
theorem made_bools (n : Nat) : (madeCells (Value.bool false).cells (n * 1)).toList = (List.replicate n false).map Value.bool := by
  rw [Nat.mul_one]
  exact (toList_madeCells_one _ _).trans (by simp)
theorem boolInfo : (Try.prog.info? 4).map (fun i => (i.zero, i.size, i.bytes)) = some (some (.bool false), 1, 1) := by kernel_rfl
/-- Of those from the k-th on none was seen. -/
def Fresh (M : List Int) (S : List Bool) (k : Nat) : Prop := ∀ j, k ≤ j → j < M.length → S.getD (M.getD j 0).toNat false = false
theorem Fresh.start (M : List Int) (n : Nat) : Fresh M (List.replicate n false) 0 := fun j _ _ => by
  rw [List.getD_eq_getElem?_getD, List.getElem?_replicate]
  split <;> rfl
theorem getD_setB (L : List Bool) (i k : Nat) (x : Bool) (h : i ≠ k) : (L.set i x).getD k false = L.getD k false := by
  rw [List.getD_eq_getElem?_getD, List.getElem?_set_ne h, List.getD_eq_getElem?_getD]
theorem Fresh.step {M : List Int} {S : List Bool} {n k : Nat} (hP : isP M n = true) (hk : k < n) (h : Fresh M S k) : Fresh M (S.set (M.getD k 0).toNat true) (k + 1) := by
  intro j hj hjm
  have hl := isP_len hP
  have rk := isP_at hP k hk
  have rj := isP_at hP j (by omega)
  rw [getD_setB _ _ _ _ (fun e => by
    have := nodup_inj (isP_nodup hP) k j (by omega) (by omega) (by omega)
    omega)]
  exact h j (by omega) hjm
theorem own_next {w w' : World} {B T : Nat} {v : Value} {n : Nat} {xs : List Value} (h : w.ownsRow B T 1 v n xs) (k : Below w.heap.size w w') : w'.ownsRow B T 1 v n xs := by
  obtain ⟨h1, h2 | ⟨g', c', cur, e, a1, a2, a3⟩⟩ := h
  · exact ⟨h1, .inl h2⟩
  · exact ⟨h1, .inr ⟨g', c', cur, e, a1, (k.block g' (Array.getElem?_eq_some_iff.1 a2).1).trans a2, a3⟩⟩
end Go.Proofs.Ytibacoffnkbbbaa
