/- The listed tables, as the walks want them. -/
import Derived.Test.YtfhmadlobdklbaaDoorCardD
namespace Go.Proofs.YtfhmadlobdklbaaDoor
open Go.RowKit
set_option linter.unusedVariables false
set_option linter.unusedSimpArgs false

def kindsT : List Int := [0, 0, 0, 0, 0, 3, 0, 0, 20, 0, 15, 127, 20, 0, 0, 64, 20, 0, 0, 64]
def layT : List Int := [0, 0, 0, 0, 1, 127, 0, 0, 1, 127, 0, 0, 0, 15, 0, 15, -15, 15, -15, 15]
def insT : List Int := [0, 0, 0, 0, 0, 0, 1, 999, 0, 1, 0, 0, 0, 0, 0, 999, 0, 1, 0, 0]
/-- The package's tables stand as the program's text lays them. -/
structure Tabs (w : World) : Prop where
  size : 3 ≤ w.heap.size
  kinds : ∀ j, j < 20 → w.cell? ⟨0, j, none⟩ = some (.int .i64 (kindsT.getD j 0))
  lay : ∀ j, j < 20 → w.cell? ⟨1, j, none⟩ = some (.int .i64 (layT.getD j 0))
  ins : ∀ j, j < 20 → w.cell? ⟨2, j, none⟩ = some (.int .i64 (insT.getD j 0))
theorem Tabs.next {w w' : World} (h : Tabs w) (k : Below w.heap.size w w') : Tabs w' :=
  ⟨Nat.le_trans h.size k.size, fun j hj => (k.cell (p := ⟨0, j, none⟩) (by have := h.size; show 0 < w.heap.size; omega)).trans (h.kinds j hj), fun j hj => (k.cell (p := ⟨1, j, none⟩) (by have := h.size; show 1 < w.heap.size; omega)).trans (h.lay j hj),
    fun j hj => (k.cell (p := ⟨2, j, none⟩) (by have := h.size; show 2 < w.heap.size; omega)).trans (h.ins j hj)⟩
theorem below_alloc_then {B : Nat} {a b c : World} {o : Obj} (h : Below B a b) (k : Below (b.alloc o).heap.size (b.alloc o) c) (hb : B ≤ b.heap.size) : Below B a c :=
  below_then' (h.alloc hb o) k (by simp; omega)
theorem size_one (w : World) (o : Obj) : w.heap.size + 1 = (w.alloc o).heap.size := by simp
theorem btw_iff (lo hi n : Int) : btw lo hi n = true ↔ lo ≤ n ∧ n ≤ hi := by simp [btw]
theorem wi_two (y lo hi z mo mi : Int) : wi [⟨y, lo, hi⟩, ⟨z, mo, mi⟩] = (btw lo hi y && btw mo mi z) := by simp [wi]
end Go.Proofs.YtfhmadlobdklbaaDoor
