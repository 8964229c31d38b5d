/- The program's reader takes a number. -/
import Derived.Test.YthndmaeplnhmlaaWireF
import Derived.Deep.QuietTactic
import Derived.BigQuiet
namespace Go.Proofs.Ythndmaeplnhmlaa
open Go.RowKit
set_option linter.unusedVariables false

/-- What the lowest bits of a first byte say. -/
def lowB (c : Nat) : Nat := c - (256 - 2 ^ (8 - lead c))
def onesB (k : Nat) : Nat := 256 - 2 ^ (8 - k)
/-- Bytes behind a beginning, as a number. -/
def valL : Nat → List UInt8 → Nat
  | a, [] => a
  | a, b :: r => valL (a * 256 + b.toNat) r
theorem valL_snoc (l : List UInt8) (x : UInt8) : ∀ a, valL a (l ++ [x]) = valL a l * 256 + x.toNat := by
  induction l with
  | nil => intro a; rfl
  | cons b r ih => intro a; exact ih _
theorem valL_lt (l : List UInt8) : ∀ a, valL a l < (a + 1) * 256 ^ l.length := by
  induction l with
  | nil => intro a; simp [valL]
  | cons b r ih =>
    intro a
    have h := ih (a * 256 + b.toNat)
    have hb : b.toNat < 256 := b.toNat_lt
    refine Nat.lt_of_lt_of_le h ?_
    rw [List.length_cons, Nat.pow_succ, Nat.mul_comm (256 ^ r.length) 256, ← Nat.mul_assoc]
    exact Nat.mul_le_mul_right _ (by omega)
/-- The number that bytes begin with, and how many bytes it has. -/
def readN (l : List UInt8) : Option (Nat × Nat) :=
  match l with
  | [] => none
  | c :: r => if r.length < lead c.toNat then none
    else if sortN (valL (lowB c.toNat) (r.take (lead c.toNat))) = lead c.toNat then some (valL (lowB c.toNat) (r.take (lead c.toNat)), lead c.toNat + 1) else none
theorem readN_cons (c : UInt8) (r : List UInt8) : readN (c :: r) = if r.length < lead c.toNat then none
    else if sortN (valL (lowB c.toNat) (r.take (lead c.toNat))) = lead c.toNat then some (valL (lowB c.toNat) (r.take (lead c.toNat)), lead c.toNat + 1) else none := rfl
theorem low_a : ∀ c : Fin 256, (lowB c.val + 1) * 256 ^ (lead c.val - 1) ≤ 72057594037927936 := by decide +kernel
theorem low_b : ∀ c : Fin 256, (lowB c.val + 1) * 256 ^ (lead c.val) ≤ 18446744073709551616 := by decide +kernel
theorem low_and : ∀ c : Fin 256, c.val &&& (255 - onesB (lead c.val)) = lowB c.val := by decide +kernel
theorem ones_lt (k : Nat) (h : k ≤ 8) : onesB k < 256 := by
  unfold onesB
  have h1 : 0 < 2 ^ (8 - k) := Nat.two_pow_pos _
  omega
theorem bits_low (c : Nat) (hc : c < 256) : bits .andNot .u8 (c : Int) (onesB (lead c) : Int) = (lowB c : Int) := by
  rw [u8_andNot_nat c _ hc (ones_lt _ (lead_le c))]
  exact congrArg _ (low_and ⟨c, hc⟩)
/-- What was read of a number when the reader stands at byte k. -/
def valAt (s : ByteArray) (c k : Nat) : Nat := valL (lowB c) ((s.data.toList.drop 1).take (k - 1))
theorem valAt_one (s : ByteArray) (c : Nat) : valAt s c 1 = lowB c := rfl
theorem valAt_lt (s : ByteArray) (c k : Nat) (hc : c < 256) (hk : k ≤ lead c) : valAt s c k < 72057594037927936 := by
  have h := valL_lt ((s.data.toList.drop 1).take (k - 1)) (lowB c)
  have hl : ((s.data.toList.drop 1).take (k - 1)).length ≤ lead c - 1 := Nat.le_trans (List.length_take_le _ _) (by omega)
  have hp : 256 ^ ((s.data.toList.drop 1).take (k - 1)).length ≤ 256 ^ (lead c - 1) := Nat.pow_le_pow_right (by omega) hl
  have := low_a ⟨c, hc⟩
  exact Nat.lt_of_lt_of_le h (Nat.le_trans (Nat.mul_le_mul_left _ hp) this)
theorem valAt_lt' (s : ByteArray) (c k : Nat) (hc : c < 256) (hk : k ≤ lead c + 1) : valAt s c k < 18446744073709551616 := by
  have h := valL_lt ((s.data.toList.drop 1).take (k - 1)) (lowB c)
  have hl : ((s.data.toList.drop 1).take (k - 1)).length ≤ lead c := Nat.le_trans (List.length_take_le _ _) (by omega)
  have hp : 256 ^ ((s.data.toList.drop 1).take (k - 1)).length ≤ 256 ^ (lead c) := Nat.pow_le_pow_right (by omega) hl
  have := low_b ⟨c, hc⟩
  exact Nat.lt_of_lt_of_le h (Nat.le_trans (Nat.mul_le_mul_left _ hp) this)
theorem valAt_succ (s : ByteArray) (c k : Nat) (h1 : 1 ≤ k) (h : k < s.size) : valAt s c (k + 1) = valAt s c k * 256 + s[k].toNat := by
  unfold valAt
  have hl : k - 1 < (s.data.toList.drop 1).length := by
    have : s.data.toList.length = s.size := by simp
    simp; omega
  have e : (s.data.toList.drop 1).take (k + 1 - 1) = (s.data.toList.drop 1).take (k - 1) ++ [s[k]] := by
    rw [show k + 1 - 1 = (k - 1) + 1 by omega, List.take_succ_eq_append_getElem hl]
    congr 2
    rw [List.getElem_drop]
    have : 1 + (k - 1) = k := by omega
    simp only [this]
    rfl
  rw [e, valL_snoc]
theorem bits_join (v x : Nat) (hv : v < 72057594037927936) (hx : x < 256) : bits .or .u64 ((v : Int) * 256) (x : Int) = ((v * 256 + x : Nat) : Int) := by
  have h := u64_or_nat (v * 256) x (by omega) (by omega)
  rw [nat_join 8 (v * 256) x (by omega) (by omega)] at h
  rw [← h]
  congr 1
theorem ones_at (k : Nat) (hk : k ≤ 8) (w : World) :
    Calls Try.prog 33 #[.int .i64 (k : Int)] w fun e w' => e = .returned (.int .u8 (onesB k : Int)) ∧ w' = w :=
  (ones_any k hk w).mono fun _ _ h => ⟨h.1, h.2.symm⟩
end Go.Proofs.Ythndmaeplnhmlaa
