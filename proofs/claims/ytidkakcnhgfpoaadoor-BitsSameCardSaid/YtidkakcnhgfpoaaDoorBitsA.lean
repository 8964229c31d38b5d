/- Sets of places as one number below 2^256: its four words; the places in it, rising; what is joined and taken away. No program. -/
import Derived.Test.YtidkakcnhgfpoaaDoorProg
import Derived.WalkKit
import Derived.WalkSpells
import Derived.WalkLawsBesides
import Derived.Lib.Hide
import Derived.Laws.BitsAllLaws
import Derived.Lib.TrailingZeros
namespace Go.Proofs.YtidkakcnhgfpoaaDoor
open Go.RowKit
set_option linter.unusedVariables false

/-- Word k of a set. -/
def wd (N k : Nat) : Nat := N / 2 ^ (64 * k) % 2 ^ 64
theorem wd_lt (N k : Nat) : wd N k < 18446744073709551616 := Nat.mod_lt _ (by decide)
theorem wd_bit (N k j : Nat) : (wd N k).testBit j = (decide (j < 64) && N.testBit (64 * k + j)) := by
  unfold wd
  rw [Nat.testBit_mod_two_pow, Nat.testBit_div_two_pow, Nat.add_comm]
theorem wd_and (N M k : Nat) : wd (N &&& M) k = wd N k &&& wd M k := by
  apply Nat.eq_of_testBit_eq; intro j
  simp only [Nat.testBit_and, wd_bit]
  cases decide (j < 64) <;> simp
theorem wd_or (N M k : Nat) : wd (N ||| M) k = wd N k ||| wd M k := by
  apply Nat.eq_of_testBit_eq; intro j
  simp only [Nat.testBit_or, wd_bit]
  cases decide (j < 64) <;> simp
/-- What is in N and not in M. -/
def less (N M : Nat) : Nat := N ^^^ (N &&& M)
theorem less_bit (N M j : Nat) : (less N M).testBit j = (N.testBit j && !M.testBit j) := by
  unfold less
  rw [Nat.testBit_xor, Nat.testBit_and]
  cases N.testBit j <;> cases M.testBit j <;> rfl
theorem wd_less (N M k : Nat) : wd (less N M) k = less (wd N k) (wd M k) := by
  apply Nat.eq_of_testBit_eq; intro j
  simp only [less_bit, wd_bit]
  cases decide (j < 64) <;> cases N.testBit (64 * k + j) <;> cases M.testBit (64 * k + j) <;> rfl
theorem not_bit (b j : Nat) (hb : b < 2 ^ 64) : (2 ^ 64 - 1 - b).testBit j = (decide (j < 64) && !b.testBit j) := by
  have h : 2 ^ 64 - 1 - b = 2 ^ 64 - (b + 1) := by omega
  rw [h, Nat.testBit_two_pow_sub_succ hb]
theorem andNot_less (a b : Nat) (ha : a < 18446744073709551616) (hb : b < 18446744073709551616) : a &&& (18446744073709551615 - b) = less a b := by
  apply Nat.eq_of_testBit_eq; intro j
  have h := not_bit b j (by simpa using hb)
  simp only [Nat.reducePow, Nat.reduceSub] at h
  rw [Nat.testBit_and, less_bit, h]
  by_cases hj : j < 64
  · simp [hj]
  · have : a.testBit j = false := Nat.testBit_lt_two_pow (Nat.lt_of_lt_of_le ha (by have : 2 ^ 64 ≤ 2 ^ j := Nat.pow_le_pow_right (by decide) (by omega); simpa using this))
    simp [this]
/-- All of a set below 2^256. -/
def fits (N : Nat) : Prop := N < 2 ^ 256
theorem fits_bit {N j : Nat} (h : fits N) (hj : 256 ≤ j) : N.testBit j = false :=
  Nat.testBit_lt_two_pow (Nat.lt_of_lt_of_le h (Nat.pow_le_pow_right (by decide) hj))
theorem fits_of_bits {N : Nat} (h : ∀ j, 256 ≤ j → N.testBit j = false) : fits N := by
  unfold fits
  apply Nat.lt_of_not_le
  intro hle
  obtain ⟨i, hi, hb⟩ := Nat.exists_ge_and_testBit_of_ge_two_pow hle
  rw [h i hi] at hb
  cases hb
theorem fits_and {N M : Nat} (h : fits N) : fits (N &&& M) := fits_of_bits fun j hj => by rw [Nat.testBit_and, fits_bit h hj]; rfl
theorem fits_or {N M : Nat} (h : fits N) (h' : fits M) : fits (N ||| M) := fits_of_bits fun j hj => by rw [Nat.testBit_or, fits_bit h hj, fits_bit h' hj]; rfl
theorem fits_less {N M : Nat} (h : fits N) : fits (less N M) := fits_of_bits fun j hj => by rw [less_bit, fits_bit h hj]; rfl
theorem words_eq {N M : Nat} (h : fits N) (h' : fits M) (h0 : wd N 0 = wd M 0) (h1 : wd N 1 = wd M 1) (h2 : wd N 2 = wd M 2) (h3 : wd N 3 = wd M 3) : N = M := by
  unfold wd fits at *
  simp only [Nat.reducePow, Nat.reduceMul] at *
  omega
/-- The set of four words. -/
def setOf (a b c d : Nat) : Nat := a + 18446744073709551616 * (b + 18446744073709551616 * (c + 18446744073709551616 * d))
theorem setOf_wd (a b c d : Nat) (ha : a < 18446744073709551616) (hb : b < 18446744073709551616) (hc : c < 18446744073709551616) (hd : d < 18446744073709551616) :
    wd (setOf a b c d) 0 = a ∧ wd (setOf a b c d) 1 = b ∧ wd (setOf a b c d) 2 = c ∧ wd (setOf a b c d) 3 = d ∧ fits (setOf a b c d) := by
  unfold wd setOf fits
  simp only [Nat.reducePow, Nat.reduceMul]
  omega
/-- The value of a set: an array of four words. -/
abbrev sv (N : Nat) : Value := .agg #[.int .u64 (wd N 0 : Int), .int .u64 (wd N 1 : Int), .int .u64 (wd N 2 : Int), .int .u64 (wd N 3 : Int)]
/-- The set of i alone; of none, if i is no place. -/
def onlyN (i : Int) : Nat := if 0 ≤ i ∧ i < 256 then 2 ^ i.toNat else 0
theorem fits_only (i : Int) : fits (onlyN i) := by
  unfold onlyN fits
  split
  · exact Nat.pow_lt_pow_right (by decide) (by omega)
  · decide
theorem only_bit (i : Int) (j : Nat) : (onlyN i).testBit j = (decide (0 ≤ i ∧ i < 256) && decide (i.toNat = j)) := by
  unfold onlyN
  by_cases h : 0 ≤ i ∧ i < 256
  · rw [if_pos h, Nat.testBit_two_pow]; simp [h]
  · rw [if_neg h]; simp [h]
theorem only_wd (i k : Nat) (hi : i < 256) : wd (onlyN (i : Int)) k = if i / 64 = k then 2 ^ (i % 64) else 0 := by
  apply Nat.eq_of_testBit_eq; intro j
  rw [wd_bit, only_bit]
  by_cases h : i / 64 = k
  · rw [if_pos h, Nat.testBit_two_pow]
    have h1 : decide (0 ≤ (i : Int) ∧ (i : Int) < 256) = true := decide_eq_true (by omega)
    rw [h1, Bool.true_and]
    by_cases hj : i % 64 = j
    · have e1 : decide (j < 64) = true := decide_eq_true (by omega)
      have e2 : decide ((i : Int).toNat = 64 * k + j) = true := decide_eq_true (by omega)
      rw [e1, e2, decide_eq_true hj]; rfl
    · rw [decide_eq_false hj]
      by_cases hj2 : j < 64
      · rw [decide_eq_false (show ¬ (i : Int).toNat = 64 * k + j by omega), Bool.and_false]
      · rw [decide_eq_false hj2, Bool.false_and]
  · rw [if_neg h, Nat.zero_testBit]
    by_cases hj2 : j < 64
    · rw [decide_eq_false (show ¬ (i : Int).toNat = 64 * k + j by omega)]; simp
    · rw [decide_eq_false hj2, Bool.false_and]
def addN (N : Nat) (i : Int) : Nat := N ||| onlyN i
def delN (N : Nat) (i : Int) : Nat := less N (onlyN i)
theorem fits_add {N : Nat} (h : fits N) (i : Int) : fits (addN N i) := fits_or h (fits_only i)
theorem fits_del {N : Nat} (h : fits N) (i : Int) : fits (delN N i) := fits_less h
/-- Is i a place in N? -/
def hasN (N : Nat) (i : Int) : Bool := decide (0 ≤ i ∧ i < 256) && N.testBit i.toNat
/-- The places in N, rising. -/
def plc (N : Nat) : List Nat := (List.range 256).filter N.testBit
/-- The least place in N that is not below i, or -1. -/
def nextN (N : Nat) (i : Int) : Int := match (plc N).find? (fun j : Nat => decide (i ≤ (j : Int))) with | some j => (j : Int) | none => -1
theorem word_bit (N i : Nat) (h : i < 256) : (wd N (i / 64)).testBit (i % 64) = N.testBit i := by
  rw [wd_bit, decide_eq_true (show i % 64 < 64 by omega), Bool.true_and]
  congr 1; omega
theorem ret_eq {a b : Value} {w : World} (h : a = b) : Ending.returned a = Ending.returned b ∧ w = w := ⟨by rw [h], rfl⟩
theorem int_eq {k : IntKind} {a b : Int} (h : a = b) : Value.int k a = .int k b := by rw [h]
end Go.Proofs.YtidkakcnhgfpoaaDoor
