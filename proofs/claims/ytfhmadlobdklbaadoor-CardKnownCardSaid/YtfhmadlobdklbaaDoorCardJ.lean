/- Keys without those that may be. -/
import Derived.Test.YtfhmadlobdklbaaDoorCardH
namespace Go.Proofs.YtfhmadlobdklbaaDoor
open Go.RowKit
set_option linter.unusedVariables false
set_option linter.unusedSimpArgs false

theorem bv_andNot (x m : BitVec 64) : x &&& ~~~m = 0#64 ↔ x &&& m = x := by
  constructor
  · intro h
    apply BitVec.eq_of_getLsbD_eq
    intro i hi
    have := congrArg (fun z : BitVec 64 => z.getLsbD i) h
    simp [hi] at this ⊢
    exact this
  · intro h
    apply BitVec.eq_of_getLsbD_eq
    intro i hi
    have := congrArg (fun z : BitVec 64 => z.getLsbD i) h
    simp [hi] at this ⊢
    exact this
theorem wrap_zero (b : BitVec 64) : IntKind.i64.wrap (b.toNat : Int) = 0 ↔ b = 0#64 := by
  have hb := b.isLt
  constructor
  · intro h
    apply BitVec.eq_of_toNat_eq
    have key : ∀ (p : Bool) (z : Int), 0 ≤ z → z < 18446744073709551616 → (if p = true then z - 18446744073709551616 else z) = 0 → z = 0 := by
      intro p z h1 h2 h
      cases p <;> simp at h <;> omega
    have h' := key _ ((b.toNat : Int) % 18446744073709551616) (by omega) (by omega) h
    show b.toNat = 0
    omega
  · rintro rfl; rfl
theorem keys_not (n m : Int) : bits .andNot .i64 n m = 0 ↔ (BitVec.ofInt 64 n).toNat &&& (BitVec.ofInt 64 m).toNat = (BitVec.ofInt 64 n).toNat := by
  show IntKind.i64.wrap ((BitVec.ofInt 64 n &&& ~~~(BitVec.ofInt 64 m)).toNat : Int) = 0 ↔ _
  rw [wrap_zero, bv_andNot, ← BitVec.toNat_inj, BitVec.toNat_and]
/-- It is a number of 64 bits. -/
def In64 (n : Int) : Prop := -9223372036854775808 ≤ n ∧ n ≤ 9223372036854775807
theorem keys_none (n : Int) (h : In64 n) : (bits .andNot .i64 n 0 == 0) = (n == 0) := by
  obtain ⟨h1, h2⟩ := h
  rw [Bool.eq_iff_iff, beq_iff_eq, beq_iff_eq, keys_not, BitVec.toNat_ofInt, BitVec.toNat_ofInt]
  simp
  omega
theorem keys_all (n : Int) (h : In64 n) : (bits .andNot .i64 n 127 == 0) = btw 0 127 n := by
  obtain ⟨h1, h2⟩ := h
  rw [Bool.eq_iff_iff, beq_iff_eq, keys_not, btw_iff, BitVec.toNat_ofInt, BitVec.toNat_ofInt]
  rw [show ((127 : Int) % ((2 ^ 64 : Nat) : Int)).toNat = 2 ^ 7 - 1 from rfl, Nat.and_two_pow_sub_one_eq_mod]
  omega
theorem swift_small : ∀ z, z < 65 → z &&& 64 = z → z = 0 ∨ z = 64 := by decide
theorem keys_swift (n : Int) (h : In64 n) : (bits .andNot .i64 n 64 == 0) = (n == 0 || n == 64) := by
  obtain ⟨h1, h2⟩ := h
  rw [Bool.eq_iff_iff, beq_iff_eq, keys_not, Bool.or_eq_true, beq_iff_eq, beq_iff_eq, BitVec.toNat_ofInt, BitVec.toNat_ofInt]
  rw [show ((64 : Int) % ((2 ^ 64 : Nat) : Int)).toNat = 64 from rfl]
  generalize hz : (n % ((2 ^ 64 : Nat) : Int)).toNat = z
  constructor
  · intro e
    have hle : z ≤ 64 := by rw [← e]; exact Nat.and_le_right
    have := swift_small z (by omega) e
    omega
  · intro e
    have : z = 0 ∨ z = 64 := by omega
    rcases this with rfl | rfl <;> rfl
end Go.Proofs.YtfhmadlobdklbaaDoor
