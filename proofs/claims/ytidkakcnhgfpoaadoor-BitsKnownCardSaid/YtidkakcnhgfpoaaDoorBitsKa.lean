/- BitsKnown: the closed facts. -/
import Derived.Test.YtidkakcnhgfpoaaDoorBitsKnownR
namespace Go.Proofs.YtidkakcnhgfpoaaDoor
open Go.RowKit Go.Shelf
set_option linter.unusedVariables false
set_option maxRecDepth 100000

/-- All places. -/
def full : Nat := 2 ^ 256 - 1
theorem full_fits : fits full := by unfold fits full; decide +kernel
theorem full_bit (j : Nat) : full.testBit j = decide (j < 256) := by unfold full; exact Nat.testBit_two_pow_sub_one 256 j
theorem full_plc : plc full = List.range 256 := by
  unfold plc
  rw [List.filter_eq_self]
  intro j hj
  rw [full_bit]
  simpa using hj
theorem f_one : ∀ k : Nat, k < 256 → (plc (addN 0 (k : Int))).length = 1 := by decide +kernel
theorem f_del : ∀ k : Nat, k < 256 → (plc (delN full (k : Int))).length = 255 := by decide +kernel
theorem f_next : ∀ k : Nat, k < 256 → nextN full (k : Int) = (k : Int) := by decide +kernel
theorem f_gone : ∀ k : Nat, k < 256 → delN (addN 0 (k : Int)) (k : Int) = 0 := by decide +kernel
theorem f_len : (plc full).length = 256 := by rw [full_plc]; simp
/-- The places below i. -/
def fill (i : Int) : Nat := 2 ^ (min (max i 0) 256).toNat - 1
theorem fill_bit (i : Int) (j : Nat) : (fill i).testBit j = (decide ((j : Int) < i) && decide (j < 256)) := by
  unfold fill
  rw [Nat.testBit_two_pow_sub_one, ← Bool.decide_and]
  congr 1
  apply propext
  omega
theorem fill_step (i : Int) : addN (fill i) i = fill (i + 1) := by
  apply Nat.eq_of_testBit_eq; intro j
  unfold addN
  rw [Nat.testBit_or, only_bit, fill_bit, fill_bit, ← Bool.decide_and, ← Bool.decide_and, ← Bool.decide_and, ← Bool.decide_or]
  congr 1
  apply propext
  omega
theorem fill_begin : fill (-3) = 0 := by unfold fill; decide
theorem fill_end : fill 300 = full := by unfold fill full; decide +kernel
theorem round_rows (b1 b2 : Nat) (i : Int) (h0 : 0 ≤ i) (h1 : i < 256) (w0 : World) (t : Nat → Value) (t1 : t 1 = .pointer (some ⟨b1, 0, none⟩)) (t2 : t 2 = .pointer (some ⟨b2, 0, none⟩)) (t4 : t 4 = .int .i64 i) : krRows full b1 b2 i w0 t := by
  obtain ⟨k, rfl⟩ : ∃ k : Nat, i = (k : Int) := ⟨i.toNat, by omega⟩
  have hk : k < 256 := by omega
  refine ⟨t1, t2, t4, by unfold fits; decide, by omega, ?_, f_next k hk, ?_, by have := f_one k hk; omega, f_gone k hk, by have := f_del k hk; omega⟩
  · unfold hasN; rw [full_bit, decide_eq_true (by omega), decide_eq_true (by omega)]; rfl
  · unfold hasN; rw [Nat.zero_testBit, Bool.and_false]
theorem end_rows (b1 b2 : Nat) (w0 : World) : keRows full b1 b2 w0 :=
  ⟨full_fits, by kernel_rfl, by have := f_len; omega, by kernel_rfl, by kernel_rfl, by kernel_rfl, by kernel_rfl, by kernel_rfl, by kernel_rfl, by kernel_rfl, by kernel_rfl, by kernel_rfl⟩
end Go.Proofs.YtidkakcnhgfpoaaDoor
