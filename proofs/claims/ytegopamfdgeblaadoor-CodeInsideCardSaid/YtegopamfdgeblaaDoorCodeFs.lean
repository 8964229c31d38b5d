/- A slice of bools as an argument. -/
import Derived.Test.YtegopamfdgeblaaDoorCodeFr
import Derived.Test.YtegopamfdgeblaaDoorCodeV
namespace Go.Proofs.YtegopamfdgeblaaDoor
open Go.ChangeShapes Go.WideShapes Go.ChangeAt Go.RowKit
set_option linter.unusedVariables false
set_option linter.unusedSimpArgs false
theorem open_flags {H : Type} {enc : TypeId × Value → H} {W : World} {base : Nat} {a : Option Addr} {len cap : Nat} {d : DataW H} {p : List MemPlace} {sp : Nat → Bool} {held : Bool} (h : DataW.Trod enc Tryd.prog W base sp held 32 (.slice a len cap) d p) :
    ∃ L : List Bool, L.length = len ∧ IsB W a cap L := by
  obtain ⟨fuel, hf⟩ := h
  rcases Deep.open_slice1 Tryd.underlying32 cBool hf with ⟨hcs, _⟩ | ⟨x, l, c, m, n, V, D, Pl, hcs, _, hl, hm, hmm, _, hx⟩
  · simp [Value.cells] at hcs
    obtain ⟨rfl, rfl, rfl⟩ := hcs
    exact ⟨[], rfl, by simp [IsB]⟩
  · simp [Value.cells] at hcs
    obtain ⟨rfl, rfl, rfl⟩ := hcs
    have hlm : len ≤ m := by rw [hmm]; split <;> omega
    obtain ⟨Y, hY⟩ := Deep.choose_lt (α := Bool) (n := len) (p := fun i y => W.cell? (x.add i) = some (.bool y)) (fun i hi => by
      obtain ⟨h1, h2⟩ := hx i (by omega)
      obtain ⟨y, hy, _⟩ := DataW.trod_bool Tryd.underlying4 h2
      simp at hy
      exact ⟨y, by rw [h1, hy]⟩)
    refine ⟨(List.range len).map Y, by simp, ⟨by simpa using hl, by unfold maxLen at hm; omega, ?_⟩⟩
    by_cases hz : len = 0
    · left; simpa using hz
    · right
      have h00 := hY 0 (by omega)
      obtain ⟨b, off, spot⟩ := x
      have hspot : spot = none := by simpa [Addr.add] using World.cell?_spot h00
      subst hspot
      refine ⟨b, off, rfl, by rw [add_plain'] at h00; exact World.block_lt_of_cell? W _ h00, fun j hj => ?_⟩
      simp only [List.length_map, List.length_range] at hj
      have q := hY j hj
      simp only [List.getElem_map, List.getElem_range]
      rw [add_plain'] at q
      exact q
end Go.Proofs.YtegopamfdgeblaaDoor
