/- Two blocks that hold two sets (the beginning of a law on two sets). -/
import Derived.Test.YtidkakcnhgfpoaaDoorBitsY
import Derived.Test.YtidkakcnhgfpoaaDoorBitsVs
namespace Go.Proofs.YtidkakcnhgfpoaaDoor
open Go.RowKit Go.Shelf
set_option linter.unusedVariables false

/-- Blocks b and c hold the sets N and M; the library's table is there; below w0 all is as it was. -/
def Inv2 (w0 : World) (b c N M : Nat) (W : World) : Prop := SetIn 24 b N W ∧ SetIn 24 c M W ∧ TabAt 0 Lib.deBruijn64tab W ∧ 0 < W.heap.size ∧ w0.heap.size ≤ W.heap.size ∧ Below w0.heap.size w0 W
theorem Inv2.next {w0 W W' : World} {b c N M : Nat} (h : Inv2 w0 b c N M W) (k : Below W.heap.size W W') : Inv2 w0 b c N M W' :=
  ⟨ArrIn.next h.1 k, ArrIn.next h.2.1 k, tab_next h.2.2.1 k, Nat.lt_of_lt_of_le h.2.2.2.1 k.size, Nat.le_trans h.2.2.2.2.1 k.size, below_then' h.2.2.2.2.2 k h.2.2.2.2.1⟩
theorem Inv2.drew {w0 W : World} {b c N M : Nat} (h : Inv2 w0 b c N M W) : Inv2 w0 b c N M W.drew := ⟨h.1, h.2.1, h.2.2.1, h.2.2.2.1, h.2.2.2.2.1, h.2.2.2.2.2.drew⟩
/-- The four words of a set as an object. -/
abbrev so (T N : Nat) : Obj := .cells #[.int .u64 (wd N 0 : Int), .int .u64 (wd N 1 : Int), .int .u64 (wd N 2 : Int), .int .u64 (wd N 3 : Int)] T
/-- The first set's block is made first. -/
theorem Inv2.first {w0 W : World} {N M : Nat} (h : Below w0.heap.size w0 W) (hT : TabAt 0 Lib.deBruijn64tab w0) (h0 : 0 < w0.heap.size) :
    Inv2 w0 W.heap.size (W.heap.size + 1) N M ((W.alloc (so 24 N)).alloc (so 24 M)) := by
  have h2 := (h.alloc h.size (so 24 N)).alloc (h.alloc h.size (so 24 N)).size (so 24 M)
  refine ⟨(ArrIn.new _ _ _ _ _ W).alloc _, ?_, tab_next hT h2, Nat.lt_of_lt_of_le h0 h2.size, h2.size, h2⟩
  have e : (W.alloc (so 24 N)).heap.size = W.heap.size + 1 := by simp
  rw [← e]
  exact ArrIn.new _ _ _ _ _ _
/-- The second set's block is made first. -/
theorem Inv2.second {w0 W : World} {N M : Nat} (h : Below w0.heap.size w0 W) (hT : TabAt 0 Lib.deBruijn64tab w0) (h0 : 0 < w0.heap.size) :
    Inv2 w0 (W.heap.size + 1) W.heap.size N M ((W.alloc (so 24 M)).alloc (so 24 N)) := by
  have := Inv2.first (N := M) (M := N) h hT h0
  exact ⟨this.2.1, this.1, this.2.2⟩
/-- The boxes of the arguments, two blocks on. -/
theorem box_first (N M : Nat) (w : World) (o o' : Obj) : ArrIn 23 w.heap.size (.int .u64 (wd N 0 : Int)) (.int .u64 (wd N 1 : Int)) (.int .u64 (wd N 2 : Int)) (.int .u64 (wd N 3 : Int)) ((((w.alloc (so 23 N)).alloc (so 23 M)).alloc o).alloc o') :=
  (((ArrIn.new _ _ _ _ _ w).alloc _).alloc _).alloc _
theorem box_second (N M : Nat) (w : World) (o o' : Obj) : ArrIn 23 (w.heap.size + 1) (.int .u64 (wd M 0 : Int)) (.int .u64 (wd M 1 : Int)) (.int .u64 (wd M 2 : Int)) (.int .u64 (wd M 3 : Int)) ((((w.alloc (so 23 N)).alloc (so 23 M)).alloc o).alloc o') := by
  have e : (w.alloc (so 23 N)).heap.size = w.heap.size + 1 := by simp
  rw [← e]
  exact ((ArrIn.new _ _ _ _ _ _).alloc _).alloc _
end Go.Proofs.YtidkakcnhgfpoaaDoor
