/- WireLeast: the walk, sort by sort. -/
import Derived.Test.YthndmaeplnhmlaaWireR
import Derived.Test.YthndmaeplnhmlaaWireM
namespace Go.Proofs.Ythndmaeplnhmlaa
open Go.RowKit
set_option linter.unusedVariables false

/-- PutNum behind nothing. -/
def PutsN (i : Nat) (x : ByteArray) : Prop := ∀ W : World, Calls Try.prog 10 #[.string ⟨#[]⟩, .int .u64 (i : Int)] W fun e w' => e = .returned (.string x) ∧ Below W.heap.size W w'
theorem putsN (i : Nat) (h : i ≤ 18446744073709551615) : PutsN i (numS i) := by
  intro W
  have h := putNum_any ⟨#[]⟩ (by decide) i h W
  have e : (⟨#[]⟩ ++ numS i : ByteArray) = numS i := ByteArray.empty_append
  rw [e] at h; exact h
theorem new_rd (s : ByteArray) (w : World) :
    Calls Try.prog 17 #[.string s] w fun e w' => e = .returned (.pointer (some ⟨w.heap.size, 0, none⟩)) ∧ RdT 57 w.heap.size s false w' ∧ Below w.heap.size w w' :=
  (new_any s w).mono fun e w' h => ⟨h.1, h.2 ▸ RdT.new _ _ _ _, h.2 ▸ (Below.refl _ _).alloc (Nat.le_refl _) _⟩
/-- What the first half of the law asks of what was read. -/
def LeastOk (T : ByteArray) (m : Nat) (R : ByteArray) : Prop := ((T.extract 0 R.size).toList == R.toList) = true ∧ R.size ≤ T.size
end Go.Proofs.Ythndmaeplnhmlaa
