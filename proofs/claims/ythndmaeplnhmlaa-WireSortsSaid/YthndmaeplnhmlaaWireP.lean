/- WireSorts: the document's PutInt and PutText, and the walk. -/
import Derived.Test.YthndmaeplnhmlaaWireM
import Derived.Test.YthndmaeplnhmlaaWireD
namespace Go.Proofs.Ythndmaeplnhmlaa
open Go.RowKit
set_option linter.unusedVariables false

theorem refNum_int (a : ByteArray) (ha : a.size ≤ 70368744177664) (x : Int) (h0 : 0 ≤ x) (h1 : x ≤ 18446744073709551615) (w : World) :
    Calls Try.prog 11 #[.string a, .int .u64 x] w fun e w' => e = .returned (.string (a ++ numS x.toNat)) ∧ Below w.heap.size w w' := by
  obtain ⟨n, rfl⟩ := Int.eq_ofNat_of_zero_le h0
  exact refNum_any a ha n (by omega) w
set_option maxHeartbeats 400000 in
theorem refInt_any (a : ByteArray) (ha : a.size ≤ 70368744177664) (i : Int) (h1 : -9223372036854775808 ≤ i) (h2 : i ≤ 9223372036854775807) (w : World) :
    Calls Try.prog 13 #[.string a, .int .i64 i] w fun e w' => e = .returned (.string (a ++ numS (zig i))) ∧ Below w.heap.size w w' := by
  by_cases h : i < 0
  · go_enter Try.func13, Try.ntmps13
    go_wp2_with fail
    refine (refNum_int a ha _ (by omega) (by omega) _).mono ?_
    rintro e w1 ⟨rfl, hb⟩
    go_wp2_with fail
    go_ret
    refine ⟨strA ?_, hb⟩
    unfold zig
    rw [if_neg (by omega)]
    congr 2
    omega
  · have h' : 0 ≤ i := by omega
    go_enter Try.func13, Try.ntmps13
    go_wp2_with fail
    refine (refNum_int a ha _ (by omega) (by omega) _).mono ?_
    rintro e w1 ⟨rfl, hb⟩
    go_wp2_with fail
    go_ret
    refine ⟨strA ?_, hb⟩
    unfold zig
    rw [if_pos h']
    congr 2
    omega
set_option maxHeartbeats 400000 in
theorem refText_any (a : ByteArray) (ha : a.size ≤ 70368744177) (t : ByteArray) (ht : t.size ≤ 70368744177) (w : World) :
    Calls Try.prog 15 #[.string a, .string t] w fun e w' => e = .returned (.string (a ++ textS t)) ∧ Below w.heap.size w w' := by
  have hz := numS_size t.size
  go_enter Try.func15, Try.ntmps15
  go_wp2_with fail
  refine (refNum_any a (by omega) t.size (by omega) _).mono ?_
  rintro e w1 ⟨rfl, hb⟩
  go_wp2_with fail
  go_ret
  exact ⟨strA (ByteArray.append_assoc), hb⟩

set_option maxHeartbeats 1000000 in
theorem walk_WireSorts (n : Nat) (hn : n ≤ 18446744073709551615) (i : Int) (h1 : -9223372036854775808 ≤ i) (h2 : i ≤ 9223372036854775807) (t : ByteArray) (ht : t.size ≤ 9223372036854775807) (w : World) :
    Calls Try.prog 3 #[.int .u64 (n : Int), .int .i64 i, .string t] w fun e w' => e = .returned (.bool true) ∧ Below w.heap.size w w' := by
  go_enter Try.func3, Try.ntmps3
  go_wp2_with fail
  have hT : (t.extract 0 (min (t.size : Int) 700).toNat).size ≤ 700 := by simp only [ByteArray.size_extract]; omega
  generalize t.extract 0 (min (t.size : Int) 700).toNat = T at *
  have hS : (T.extract 0 (min (((min (min (t.size : Int) 700).toNat t.size : Nat) : Int)) 20).toNat).size ≤ 20 := by simp only [ByteArray.size_extract]; omega
  generalize T.extract 0 (min (((min (min (t.size : Int) 700).toNat t.size : Nat) : Int)) 20).toNat = s at *
  refine (putNum_any s (by omega) n hn _).mono ?_
  rintro e w1 ⟨rfl, b1⟩
  have c1 := b1
  have s1 := below_size c1 (Nat.le_refl _)
  go_wp2_with fail
  refine (refNum_any s (by omega) n hn _).mono ?_
  rintro e w2 ⟨rfl, b2⟩
  have c2 := below_then c1 b2 s1
  have s2 := below_size c2 (Nat.le_refl _)
  clear b2 c1 s1
  go_wp2_with fail
  refine (putInt_any s (by omega) i h1 h2 _).mono ?_
  rintro e w3 ⟨rfl, b3⟩
  have c3 := below_then c2 b3 s2
  have s3 := below_size c3 (Nat.le_refl _)
  clear b3 c2 s2
  go_wp2_with fail
  refine (refInt_any s (by omega) i h1 h2 _).mono ?_
  rintro e w4 ⟨rfl, b4⟩
  have c4 := below_then c3 b4 s3
  have s4 := below_size c4 (Nat.le_refl _)
  clear b4 c3 s3
  go_wp2_with fail
  refine (putText_any s (by omega) T (by omega) _).mono ?_
  rintro e w5 ⟨rfl, b5⟩
  have c5 := below_then c4 b5 s4
  have s5 := below_size c5 (Nat.le_refl _)
  clear b5 c4 s4
  go_wp2_with fail
  refine (refText_any s (by omega) T (by omega) _).mono ?_
  rintro e w6 ⟨rfl, b6⟩
  have c6 := below_then c5 b6 s5
  have s6 := below_size c6 (Nat.le_refl _)
  clear b6 c5 s5
  go_wp2_with fail
  refine (works_any _).mono ?_
  rintro e w7 ⟨rfl, b7⟩
  have c7 := below_then c6 b7 s6
  have s7 := below_size c7 (Nat.le_refl _)
  clear b7 c6 s6
  go_wp2_with fail
  go_ret
  exact ⟨rfl, c7⟩
theorem walk_WireSortsI (x : Int) (hx : 0 ≤ x ∧ x ≤ 18446744073709551615) (i : Int) (h1 : -9223372036854775808 ≤ i) (h2 : i ≤ 9223372036854775807) (t : ByteArray) (ht : t.size ≤ maxLen) (w : World) :
    Calls Try.prog 3 #[.int .u64 x, .int .i64 i, .string t] w fun e w' => e = .returned (.bool true) ∧ Below w.heap.size w w' := by
  obtain ⟨n, rfl⟩ := Int.eq_ofNat_of_zero_le hx.1
  exact walk_WireSorts n (by omega) i h1 h2 t ht w
end Go.Proofs.Ythndmaeplnhmlaa
