/- What PutNum, PutInt and PutText hand back, the program's and the document's. -/
import Derived.Test.YthndmaeplnhmlaaWireC
namespace Go.Proofs.Ythndmaeplnhmlaa
open Go.RowKit
set_option linter.unusedVariables false

/-- The number whose bytes a signed one has. -/
def zig (i : Int) : Nat := if 0 ≤ i then (2 * i).toNat else (-2 * i - 1).toNat
theorem zig_le (i : Int) (h1 : -9223372036854775808 ≤ i) (h2 : i ≤ 9223372036854775807) : zig i ≤ 18446744073709551615 := by
  unfold zig; split <;> omega
theorem beL_length (s n : Nat) : (beL s n).length = s := by
  induction s with
  | zero => rfl
  | succ s ih => simp [beL, ih]
theorem numS_size (n : Nat) : (numS n).size ≤ 9 := by
  have h := sortN_le n
  have : (numS n).size = sortN n + 1 := by
    show (numL n).toArray.size = _
    simp [numL, beL_length]
  omega
theorem strA {a b : ByteArray} (h : a = b) : Ending.returned (.string a) = .returned (.string b) := by rw [h]

set_option maxHeartbeats 400000 in
theorem putNum_any (a : ByteArray) (ha : a.size ≤ 70368744177664) (n : Nat) (hn : n ≤ 18446744073709551615) (w : World) :
    Calls Try.prog 10 #[.string a, .int .u64 (n : Int)] w fun e w' => e = .returned (.string (a ++ numS n)) ∧ Below w.heap.size w w' := by
  have hz := numS_size n
  go_enter Try.func10, Try.ntmps10
  go_wp2_with (go_at_call 29; refine (numBytes_any n hn _).mono ?_; rintro e w' ⟨rfl, hb⟩)
  go_ret
  exact ⟨rfl, hb⟩

theorem xor_ones (a : Nat) (ha : a < 18446744073709551616) : a ^^^ 18446744073709551615 = 18446744073709551615 - a := by
  have h := congrArg BitVec.toNat (BitVec.xor_allOnes (x := BitVec.ofNat 64 a))
  rw [BitVec.toNat_xor, BitVec.toNat_not, BitVec.toNat_ofNat, BitVec.toNat_allOnes, Nat.mod_eq_of_lt ha] at h
  exact h
theorem bits_zig (i : Int) (h1 : -9223372036854775808 ≤ i) (h2 : i ≤ 9223372036854775807) :
    bits .xor .u64 (IntKind.u64.wrap (IntKind.u64.wrap i * 2)) (IntKind.u64.wrap (i / 9223372036854775808)) = ((zig i : Nat) : Int) := by
  by_cases h : 0 ≤ i
  · have e1 : IntKind.u64.wrap (IntKind.u64.wrap i * 2) = ((zig i : Nat) : Int) := by
      simp only [IntKind.wrap_u64]; unfold zig; rw [if_pos h]; omega
    have e2 : IntKind.u64.wrap (i / 9223372036854775808) = ((0 : Nat) : Int) := by
      simp only [IntKind.wrap_u64]; omega
    have := zig_le i h1 h2
    rw [e1, e2, u64_xor_nat _ _ (by omega) (by omega), Nat.xor_zero]
  · have e1 : IntKind.u64.wrap (IntKind.u64.wrap i * 2) = ((18446744073709551615 - zig i : Nat) : Int) := by
      simp only [IntKind.wrap_u64]; unfold zig; rw [if_neg h]; omega
    have e2 : IntKind.u64.wrap (i / 9223372036854775808) = ((18446744073709551615 : Nat) : Int) := by
      simp only [IntKind.wrap_u64]; omega
    have := zig_le i h1 h2
    rw [e1, e2, u64_xor_nat _ _ (by omega) (by omega), xor_ones _ (by omega)]
    omega
set_option maxHeartbeats 400000 in
theorem unsigned_any (i : Int) (h1 : -9223372036854775808 ≤ i) (h2 : i ≤ 9223372036854775807) (w : World) :
    Calls Try.prog 31 #[.int .i64 i] w fun e w' => e = .returned (.int .u64 (zig i : Nat)) ∧ w = w' := by
  have hz := Lib.hid (bits_zig i h1 h2)
  by_cases h : 0 ≤ i
  · go_enter Try.func31, Try.ntmps31
    go_wp2
    go_ret
    refine ⟨ret_int ?_, rfl⟩
    rw [← hz.out]
    simp only [IntKind.wrap_u64]
    congr 1 <;> omega
  · go_enter Try.func31, Try.ntmps31
    go_wp2
    go_ret
    exact ⟨ret_int hz.out, rfl⟩

/-- The signed number that has a number's bytes. -/
def unzig (n : Nat) : Int := if n % 2 = 0 then ((n / 2 : Nat) : Int) else -((n / 2 : Nat) : Int) - 1
theorem bits_unzig (n : Nat) (hn : n ≤ 18446744073709551615) :
    bits .xor .i64 ((n : Int) / 2) (wrap64 (-wrap64 (bits .and .u64 (n : Int) 1))) = unzig n := by
  have h1 : bits .and .u64 (n : Int) 1 = ((n % 2 : Nat) : Int) := by
    rw [show (1 : Int) = ((1 : Nat) : Int) from rfl, u64_and_nat n 1 (by omega) (by omega), Nat.and_one_is_mod]
  rw [h1]
  have hx : (BitVec.ofInt 64 (((n / 2 : Nat) : Int))).toNat = n / 2 := by
    rw [BitVec.ofInt_natCast, BitVec.toNat_ofNat]; exact Nat.mod_eq_of_lt (by omega)
  have e0 : (n : Int) / 2 = ((n / 2 : Nat) : Int) := by omega
  rw [e0]
  by_cases h : n % 2 = 0
  · have e2 : wrap64 (-wrap64 ((n % 2 : Nat) : Int)) = 0 := by unfold wrap64; omega
    rw [e2]
    show IntKind.i64.wrap ((BitVec.ofInt 64 ((n / 2 : Nat) : Int) ^^^ BitVec.ofInt 64 0).toNat : Int) = _
    rw [BitVec.toNat_xor, hx, IntKind.wrap_i64]
    unfold unzig
    simp [h]
    omega
  · have e2 : wrap64 (-wrap64 ((n % 2 : Nat) : Int)) = -1 := by unfold wrap64; omega
    rw [e2]
    show IntKind.i64.wrap ((BitVec.ofInt 64 ((n / 2 : Nat) : Int) ^^^ BitVec.ofInt 64 (-1)).toNat : Int) = _
    have e3 : (BitVec.ofInt 64 (-1)).toNat = 18446744073709551615 := by decide
    rw [BitVec.toNat_xor, hx, e3, xor_ones _ (by omega), IntKind.wrap_i64]
    unfold unzig
    simp [h]
    omega
theorem unzig_zig (i : Int) : unzig (zig i) = i := by
  unfold zig unzig
  repeat' split
  all_goals omega
set_option maxHeartbeats 400000 in
theorem signed_any (n : Nat) (hn : n ≤ 18446744073709551615) (w : World) :
    Calls Try.prog 37 #[.int .u64 (n : Int)] w fun e w' => e = .returned (.int .i64 (unzig n)) ∧ w = w' := by
  have hz := Lib.hid (bits_unzig n hn)
  go_enter Try.func37, Try.ntmps37
  go_wp2
  go_ret
  exact ⟨ret_int hz.out, rfl⟩

set_option maxHeartbeats 400000 in
theorem putInt_any (a : ByteArray) (ha : a.size ≤ 70368744177664) (i : Int) (h1 : -9223372036854775808 ≤ i) (h2 : i ≤ 9223372036854775807) (w : World) :
    Calls Try.prog 12 #[.string a, .int .i64 i] w fun e w' => e = .returned (.string (a ++ numS (zig i))) ∧ Below w.heap.size w w' := by
  have hz := numS_size (zig i)
  have hy := zig_le i h1 h2
  go_enter Try.func12, Try.ntmps12
  go_wp2_with (first | (go_at_call 29; refine (numBytes_any _ hy _).mono ?_; rintro e w' ⟨rfl, hb⟩) | (go_at_call 31; refine (unsigned_any i h1 h2 _).mono ?_; rintro e w' ⟨rfl, rfl⟩))
  go_ret
  exact ⟨rfl, hb⟩

def textS (t : ByteArray) : ByteArray := numS t.size ++ t
set_option maxHeartbeats 400000 in
theorem putText_any (a : ByteArray) (ha : a.size ≤ 70368744177664) (t : ByteArray) (ht : t.size ≤ 70368744177664) (w : World) :
    Calls Try.prog 14 #[.string a, .string t] w fun e w' => e = .returned (.string (a ++ textS t)) ∧ Below w.heap.size w w' := by
  have hz := numS_size t.size
  go_enter Try.func14, Try.ntmps14
  go_wp2_with (go_at_call 29; refine (numBytes_any _ (by omega) _).mono ?_; rintro e w' ⟨rfl, hb⟩)
  go_ret
  exact ⟨strA (ByteArray.append_assoc), hb⟩
end Go.Proofs.Ythndmaeplnhmlaa
