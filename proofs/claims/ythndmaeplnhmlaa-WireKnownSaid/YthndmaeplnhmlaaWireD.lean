/- The document's own answer for a number's bytes, walked sort by sort: the same bytes as the program's. -/
import Derived.Test.YthndmaeplnhmlaaWireH
namespace Go.Proofs.Ythndmaeplnhmlaa
open Go.RowKit
set_option linter.unusedVariables false

set_option maxHeartbeats 400000 in
theorem room_ref (k : Nat) (hk : k ≤ 8) (w : World) :
    Calls Try.prog 39 #[.int .i64 (k : Int)] w fun e w' => e = .returned (.int .i64 ((if k = 8 then 64 else 7 + 7 * k : Nat) : Int)) ∧ w = w' := by
  have h : k = 0 ∨ k = 1 ∨ k = 2 ∨ k = 3 ∨ k = 4 ∨ k = 5 ∨ k = 6 ∨ k = 7 ∨ k = 8 := by omega
  rcases h with rfl | rfl | rfl | rfl | rfl | rfl | rfl | rfl | rfl
  all_goals
    go_enter Try.func39, Try.ntmps39
    go_wp2
    go_ret
    exact ⟨rfl, rfl⟩
set_option maxHeartbeats 400000 in
theorem fits_at (n : Nat) (hn : n ≤ 18446744073709551615) (k : Nat) (hk : k ≤ 8) (w : World) :
    Calls Try.prog 30 #[.int .u64 (n : Int), .int .i64 (k : Int)] w fun e w' => e = .returned (.bool (roomB n k)) ∧ w = w' := by
  have h : k = 0 ∨ k = 1 ∨ k = 2 ∨ k = 3 ∨ k = 4 ∨ k = 5 ∨ k = 6 ∨ k = 7 ∨ k = 8 := by omega
  rcases h with rfl | rfl | rfl | rfl | rfl | rfl | rfl | rfl | rfl
  all_goals
    go_enter Try.func30, Try.ntmps30
    go_wp2
    go_ret
    exact ⟨ret_bool (by rw [Bool.eq_iff_iff]; simp [roomB]; try omega), rfl⟩
theorem ret_str {a b : ByteArray} (h : a = b) : Ending.returned (.string a) = .returned (.string b) := by rw [h]
theorem conv_one {P : Program} (W : World) (src dst e : TypeId) (n : Nat) (x : Int) (hs : P.underlying src = some (.slice e)) (he : P.underlying e = some (.int .u8)) (hd : P.underlying dst = some .string) (hn : n = W.heap.size) :
    (convert src dst (.slice (some ⟨n, 0, none⟩) 1 1)).run P (W.alloc (.cells #[.int .u8 x] e (0, 0))) = .ok (.string ⟨#[UInt8.ofNat x.toNat]⟩) (W.alloc (.cells #[.int .u8 x] e (0, 0))) := by
  subst hn
  refine conv_bytes _ src dst e ⟨W.heap.size, 0, none⟩ 1 1 [x] _ hs he hd rfl ?_ rfl
  intro j v h
  have hj : j < 1 := by
    have := (List.getElem?_eq_some_iff.1 h).1
    simpa using this
  obtain rfl : j = 0 := by omega
  simp only [List.map_cons, List.getElem?_cons_zero, Option.some.injEq] at h
  subst h
  simp only [Addr.add]
  go_simp

set_option maxHeartbeats 1000000 in
theorem refNum_0 (a : ByteArray) (ha : a.size ≤ 70368744177664) (n : Nat) (hl : 0 ≤ n) (hh : n ≤ 127) (w : World) :
    Calls Try.prog 11 #[.string a, .int .u64 (n : Int)] w fun e w' => e = .returned (.string (a ++ numS n)) ∧ Below w.heap.size w w' := by
  have hs : sortN n = 0 := by
    unfold sortN; repeat' split
    all_goals omega
  have f0 : ∀ W : World, Calls Try.prog 30 #[.int .u64 (n : Int), .int .i64 0] W fun e w' => e = .returned (.bool true) ∧ W = w' := by
    intro W
    have h := fits_at n (by omega) 0 (by omega) W
    have hb : roomB n 0 = true := by simp [roomB]; try omega
    rw [hb] at h
    exact h
  have F0 := Lib.hid f0
  clear f0
  have hcv := fun W m x h => conv_one (P := Try.prog) W 45 9 5 m x Try.underlying45 Try.underlying5 Try.underlying9 h
  have hfin : numL n = [UInt8.ofNat (0 + n / 1)] := by
    unfold numL; rw [hs]; simp [beL]
  have HF := Lib.hid hfin
  clear hs hfin
  go_enter Try.func11, Try.ntmps11
  go_wp2
  refine wp_loop_rounds 1 ?_
  rw [rounds_succ]
  go_wp2_with (go_at_call 30; refine (F0.out _).mono ?_; rintro e w' ⟨rfl, rfl⟩)
  refine wp_loop_rounds 1 ?_
  repeat any_goals (rw [rounds_succ]; go_wp2)
  refine wp_loop_rounds 1 ?_
  repeat any_goals (rw [rounds_succ]; go_wp2)
  go_ret
  refine ⟨ret_str ?_, by go_grown⟩
  unfold numS
  rw [HF.out]
  apply ByteArray.ext
  simp

set_option maxHeartbeats 1000000 in
theorem refNum_1 (a : ByteArray) (ha : a.size ≤ 70368744177664) (n : Nat) (hl : 128 ≤ n) (hh : n ≤ 16383) (w : World) :
    Calls Try.prog 11 #[.string a, .int .u64 (n : Int)] w fun e w' => e = .returned (.string (a ++ numS n)) ∧ Below w.heap.size w w' := by
  have hs : sortN n = 1 := by
    unfold sortN; repeat' split
    all_goals omega
  have f0 : ∀ W : World, Calls Try.prog 30 #[.int .u64 (n : Int), .int .i64 0] W fun e w' => e = .returned (.bool false) ∧ W = w' := by
    intro W
    have h := fits_at n (by omega) 0 (by omega) W
    have hb : roomB n 0 = false := by simp [roomB]; try omega
    rw [hb] at h
    exact h
  have F0 := Lib.hid f0
  clear f0
  have f1 : ∀ W : World, Calls Try.prog 30 #[.int .u64 (n : Int), .int .i64 1] W fun e w' => e = .returned (.bool true) ∧ W = w' := by
    intro W
    have h := fits_at n (by omega) 1 (by omega) W
    have hb : roomB n 1 = true := by simp [roomB]; try omega
    rw [hb] at h
    exact h
  have F1 := Lib.hid f1
  clear f1
  have hcv := fun W m x h => conv_one (P := Try.prog) W 45 9 5 m x Try.underlying45 Try.underlying5 Try.underlying9 h
  have hfin : numL n = [UInt8.ofNat (128 + n / 256), UInt8.ofNat (n / 1 % 256)] := by
    unfold numL; rw [hs]; simp [beL]
  have HF := Lib.hid hfin
  clear hs hfin
  go_enter Try.func11, Try.ntmps11
  go_wp2
  refine wp_loop_rounds 2 ?_
  rw [rounds_succ]
  go_wp2_with (go_at_call 30; refine (F0.out _).mono ?_; rintro e w' ⟨rfl, rfl⟩)
  rw [rounds_succ]
  go_wp2_with (go_at_call 30; refine (F1.out _).mono ?_; rintro e w' ⟨rfl, rfl⟩)
  refine wp_loop_rounds 2 ?_
  repeat any_goals (rw [rounds_succ]; go_wp2)
  refine wp_loop_rounds 2 ?_
  repeat any_goals (rw [rounds_succ]; go_wp2)
  go_ret
  refine ⟨ret_str ?_, by go_grown⟩
  unfold numS
  rw [HF.out]
  apply ByteArray.ext
  apply Array.ext'
  simp

set_option maxHeartbeats 1000000 in
theorem refNum_2 (a : ByteArray) (ha : a.size ≤ 70368744177664) (n : Nat) (hl : 16384 ≤ n) (hh : n ≤ 2097151) (w : World) :
    Calls Try.prog 11 #[.string a, .int .u64 (n : Int)] w fun e w' => e = .returned (.string (a ++ numS n)) ∧ Below w.heap.size w w' := by
  have hs : sortN n = 2 := by
    unfold sortN; repeat' split
    all_goals omega
  have f0 : ∀ W : World, Calls Try.prog 30 #[.int .u64 (n : Int), .int .i64 0] W fun e w' => e = .returned (.bool false) ∧ W = w' := by
    intro W
    have h := fits_at n (by omega) 0 (by omega) W
    have hb : roomB n 0 = false := by simp [roomB]; try omega
    rw [hb] at h
    exact h
  have F0 := Lib.hid f0
  clear f0
  have f1 : ∀ W : World, Calls Try.prog 30 #[.int .u64 (n : Int), .int .i64 1] W fun e w' => e = .returned (.bool false) ∧ W = w' := by
    intro W
    have h := fits_at n (by omega) 1 (by omega) W
    have hb : roomB n 1 = false := by simp [roomB]; try omega
    rw [hb] at h
    exact h
  have F1 := Lib.hid f1
  clear f1
  have f2 : ∀ W : World, Calls Try.prog 30 #[.int .u64 (n : Int), .int .i64 2] W fun e w' => e = .returned (.bool true) ∧ W = w' := by
    intro W
    have h := fits_at n (by omega) 2 (by omega) W
    have hb : roomB n 2 = true := by simp [roomB]; try omega
    rw [hb] at h
    exact h
  have F2 := Lib.hid f2
  clear f2
  have hcv := fun W m x h => conv_one (P := Try.prog) W 45 9 5 m x Try.underlying45 Try.underlying5 Try.underlying9 h
  have hfin : numL n = [UInt8.ofNat (192 + n / 65536), UInt8.ofNat (n / 256 % 256), UInt8.ofNat (n / 1 % 256)] := by
    unfold numL; rw [hs]; simp [beL]
  have HF := Lib.hid hfin
  clear hs hfin
  go_enter Try.func11, Try.ntmps11
  go_wp2
  refine wp_loop_rounds 3 ?_
  rw [rounds_succ]
  go_wp2_with (go_at_call 30; refine (F0.out _).mono ?_; rintro e w' ⟨rfl, rfl⟩)
  rw [rounds_succ]
  go_wp2_with (go_at_call 30; refine (F1.out _).mono ?_; rintro e w' ⟨rfl, rfl⟩)
  rw [rounds_succ]
  go_wp2_with (go_at_call 30; refine (F2.out _).mono ?_; rintro e w' ⟨rfl, rfl⟩)
  refine wp_loop_rounds 3 ?_
  repeat any_goals (rw [rounds_succ]; go_wp2)
  refine wp_loop_rounds 3 ?_
  repeat any_goals (rw [rounds_succ]; go_wp2)
  go_ret
  refine ⟨ret_str ?_, by go_grown⟩
  unfold numS
  rw [HF.out]
  apply ByteArray.ext
  simp [Nat.div_div_eq_div_mul]

set_option maxHeartbeats 1000000 in
theorem refNum_3 (a : ByteArray) (ha : a.size ≤ 70368744177664) (n : Nat) (hl : 2097152 ≤ n) (hh : n ≤ 268435455) (w : World) :
    Calls Try.prog 11 #[.string a, .int .u64 (n : Int)] w fun e w' => e = .returned (.string (a ++ numS n)) ∧ Below w.heap.size w w' := by
  have hs : sortN n = 3 := by
    unfold sortN; repeat' split
    all_goals omega
  have f0 : ∀ W : World, Calls Try.prog 30 #[.int .u64 (n : Int), .int .i64 0] W fun e w' => e = .returned (.bool false) ∧ W = w' := by
    intro W
    have h := fits_at n (by omega) 0 (by omega) W
    have hb : roomB n 0 = false := by simp [roomB]; try omega
    rw [hb] at h
    exact h
  have F0 := Lib.hid f0
  clear f0
  have f1 : ∀ W : World, Calls Try.prog 30 #[.int .u64 (n : Int), .int .i64 1] W fun e w' => e = .returned (.bool false) ∧ W = w' := by
    intro W
    have h := fits_at n (by omega) 1 (by omega) W
    have hb : roomB n 1 = false := by simp [roomB]; try omega
    rw [hb] at h
    exact h
  have F1 := Lib.hid f1
  clear f1
  have f2 : ∀ W : World, Calls Try.prog 30 #[.int .u64 (n : Int), .int .i64 2] W fun e w' => e = .returned (.bool false) ∧ W = w' := by
    intro W
    have h := fits_at n (by omega) 2 (by omega) W
    have hb : roomB n 2 = false := by simp [roomB]; try omega
    rw [hb] at h
    exact h
  have F2 := Lib.hid f2
  clear f2
  have f3 : ∀ W : World, Calls Try.prog 30 #[.int .u64 (n : Int), .int .i64 3] W fun e w' => e = .returned (.bool true) ∧ W = w' := by
    intro W
    have h := fits_at n (by omega) 3 (by omega) W
    have hb : roomB n 3 = true := by simp [roomB]; try omega
    rw [hb] at h
    exact h
  have F3 := Lib.hid f3
  clear f3
  have hcv := fun W m x h => conv_one (P := Try.prog) W 45 9 5 m x Try.underlying45 Try.underlying5 Try.underlying9 h
  have hfin : numL n = [UInt8.ofNat (224 + n / 16777216), UInt8.ofNat (n / 65536 % 256), UInt8.ofNat (n / 256 % 256), UInt8.ofNat (n / 1 % 256)] := by
    unfold numL; rw [hs]; simp [beL]
  have HF := Lib.hid hfin
  clear hs hfin
  go_enter Try.func11, Try.ntmps11
  go_wp2
  refine wp_loop_rounds 4 ?_
  rw [rounds_succ]
  go_wp2_with (go_at_call 30; refine (F0.out _).mono ?_; rintro e w' ⟨rfl, rfl⟩)
  rw [rounds_succ]
  go_wp2_with (go_at_call 30; refine (F1.out _).mono ?_; rintro e w' ⟨rfl, rfl⟩)
  rw [rounds_succ]
  go_wp2_with (go_at_call 30; refine (F2.out _).mono ?_; rintro e w' ⟨rfl, rfl⟩)
  rw [rounds_succ]
  go_wp2_with (go_at_call 30; refine (F3.out _).mono ?_; rintro e w' ⟨rfl, rfl⟩)
  refine wp_loop_rounds 4 ?_
  repeat any_goals (rw [rounds_succ]; go_wp2)
  refine wp_loop_rounds 4 ?_
  repeat any_goals (rw [rounds_succ]; go_wp2)
  go_ret
  refine ⟨ret_str ?_, by go_grown⟩
  unfold numS
  rw [HF.out]
  apply ByteArray.ext
  simp [Nat.div_div_eq_div_mul]

set_option maxHeartbeats 1000000 in
theorem refNum_4 (a : ByteArray) (ha : a.size ≤ 70368744177664) (n : Nat) (hl : 268435456 ≤ n) (hh : n ≤ 34359738367) (w : World) :
    Calls Try.prog 11 #[.string a, .int .u64 (n : Int)] w fun e w' => e = .returned (.string (a ++ numS n)) ∧ Below w.heap.size w w' := by
  have hs : sortN n = 4 := by
    unfold sortN; repeat' split
    all_goals omega
  have f0 : ∀ W : World, Calls Try.prog 30 #[.int .u64 (n : Int), .int .i64 0] W fun e w' => e = .returned (.bool false) ∧ W = w' := by
    intro W
    have h := fits_at n (by omega) 0 (by omega) W
    have hb : roomB n 0 = false := by simp [roomB]; try omega
    rw [hb] at h
    exact h
  have F0 := Lib.hid f0
  clear f0
  have f1 : ∀ W : World, Calls Try.prog 30 #[.int .u64 (n : Int), .int .i64 1] W fun e w' => e = .returned (.bool false) ∧ W = w' := by
    intro W
    have h := fits_at n (by omega) 1 (by omega) W
    have hb : roomB n 1 = false := by simp [roomB]; try omega
    rw [hb] at h
    exact h
  have F1 := Lib.hid f1
  clear f1
  have f2 : ∀ W : World, Calls Try.prog 30 #[.int .u64 (n : Int), .int .i64 2] W fun e w' => e = .returned (.bool false) ∧ W = w' := by
    intro W
    have h := fits_at n (by omega) 2 (by omega) W
    have hb : roomB n 2 = false := by simp [roomB]; try omega
    rw [hb] at h
    exact h
  have F2 := Lib.hid f2
  clear f2
  have f3 : ∀ W : World, Calls Try.prog 30 #[.int .u64 (n : Int), .int .i64 3] W fun e w' => e = .returned (.bool false) ∧ W = w' := by
    intro W
    have h := fits_at n (by omega) 3 (by omega) W
    have hb : roomB n 3 = false := by simp [roomB]; try omega
    rw [hb] at h
    exact h
  have F3 := Lib.hid f3
  clear f3
  have f4 : ∀ W : World, Calls Try.prog 30 #[.int .u64 (n : Int), .int .i64 4] W fun e w' => e = .returned (.bool true) ∧ W = w' := by
    intro W
    have h := fits_at n (by omega) 4 (by omega) W
    have hb : roomB n 4 = true := by simp [roomB]; try omega
    rw [hb] at h
    exact h
  have F4 := Lib.hid f4
  clear f4
  have hcv := fun W m x h => conv_one (P := Try.prog) W 45 9 5 m x Try.underlying45 Try.underlying5 Try.underlying9 h
  have hfin : numL n = [UInt8.ofNat (240 + n / 4294967296), UInt8.ofNat (n / 16777216 % 256), UInt8.ofNat (n / 65536 % 256), UInt8.ofNat (n / 256 % 256), UInt8.ofNat (n / 1 % 256)] := by
    unfold numL; rw [hs]; simp [beL]
  have HF := Lib.hid hfin
  clear hs hfin
  go_enter Try.func11, Try.ntmps11
  go_wp2
  refine wp_loop_rounds 5 ?_
  rw [rounds_succ]
  go_wp2_with (go_at_call 30; refine (F0.out _).mono ?_; rintro e w' ⟨rfl, rfl⟩)
  rw [rounds_succ]
  go_wp2_with (go_at_call 30; refine (F1.out _).mono ?_; rintro e w' ⟨rfl, rfl⟩)
  rw [rounds_succ]
  go_wp2_with (go_at_call 30; refine (F2.out _).mono ?_; rintro e w' ⟨rfl, rfl⟩)
  rw [rounds_succ]
  go_wp2_with (go_at_call 30; refine (F3.out _).mono ?_; rintro e w' ⟨rfl, rfl⟩)
  rw [rounds_succ]
  go_wp2_with (go_at_call 30; refine (F4.out _).mono ?_; rintro e w' ⟨rfl, rfl⟩)
  refine wp_loop_rounds 5 ?_
  repeat any_goals (rw [rounds_succ]; go_wp2)
  refine wp_loop_rounds 5 ?_
  repeat any_goals (rw [rounds_succ]; go_wp2)
  go_ret
  refine ⟨ret_str ?_, by go_grown⟩
  unfold numS
  rw [HF.out]
  apply ByteArray.ext
  simp [Nat.div_div_eq_div_mul]

set_option maxHeartbeats 1000000 in
theorem refNum_5 (a : ByteArray) (ha : a.size ≤ 70368744177664) (n : Nat) (hl : 34359738368 ≤ n) (hh : n ≤ 4398046511103) (w : World) :
    Calls Try.prog 11 #[.string a, .int .u64 (n : Int)] w fun e w' => e = .returned (.string (a ++ numS n)) ∧ Below w.heap.size w w' := by
  have hs : sortN n = 5 := by
    unfold sortN; repeat' split
    all_goals omega
  have f0 : ∀ W : World, Calls Try.prog 30 #[.int .u64 (n : Int), .int .i64 0] W fun e w' => e = .returned (.bool false) ∧ W = w' := by
    intro W
    have h := fits_at n (by omega) 0 (by omega) W
    have hb : roomB n 0 = false := by simp [roomB]; try omega
    rw [hb] at h
    exact h
  have F0 := Lib.hid f0
  clear f0
  have f1 : ∀ W : World, Calls Try.prog 30 #[.int .u64 (n : Int), .int .i64 1] W fun e w' => e = .returned (.bool false) ∧ W = w' := by
    intro W
    have h := fits_at n (by omega) 1 (by omega) W
    have hb : roomB n 1 = false := by simp [roomB]; try omega
    rw [hb] at h
    exact h
  have F1 := Lib.hid f1
  clear f1
  have f2 : ∀ W : World, Calls Try.prog 30 #[.int .u64 (n : Int), .int .i64 2] W fun e w' => e = .returned (.bool false) ∧ W = w' := by
    intro W
    have h := fits_at n (by omega) 2 (by omega) W
    have hb : roomB n 2 = false := by simp [roomB]; try omega
    rw [hb] at h
    exact h
  have F2 := Lib.hid f2
  clear f2
  have f3 : ∀ W : World, Calls Try.prog 30 #[.int .u64 (n : Int), .int .i64 3] W fun e w' => e = .returned (.bool false) ∧ W = w' := by
    intro W
    have h := fits_at n (by omega) 3 (by omega) W
    have hb : roomB n 3 = false := by simp [roomB]; try omega
    rw [hb] at h
    exact h
  have F3 := Lib.hid f3
  clear f3
  have f4 : ∀ W : World, Calls Try.prog 30 #[.int .u64 (n : Int), .int .i64 4] W fun e w' => e = .returned (.bool false) ∧ W = w' := by
    intro W
    have h := fits_at n (by omega) 4 (by omega) W
    have hb : roomB n 4 = false := by simp [roomB]; try omega
    rw [hb] at h
    exact h
  have F4 := Lib.hid f4
  clear f4
  have f5 : ∀ W : World, Calls Try.prog 30 #[.int .u64 (n : Int), .int .i64 5] W fun e w' => e = .returned (.bool true) ∧ W = w' := by
    intro W
    have h := fits_at n (by omega) 5 (by omega) W
    have hb : roomB n 5 = true := by simp [roomB]; try omega
    rw [hb] at h
    exact h
  have F5 := Lib.hid f5
  clear f5
  have hcv := fun W m x h => conv_one (P := Try.prog) W 45 9 5 m x Try.underlying45 Try.underlying5 Try.underlying9 h
  have hfin : numL n = [UInt8.ofNat (248 + n / 1099511627776), UInt8.ofNat (n / 4294967296 % 256), UInt8.ofNat (n / 16777216 % 256), UInt8.ofNat (n / 65536 % 256), UInt8.ofNat (n / 256 % 256), UInt8.ofNat (n / 1 % 256)] := by
    unfold numL; rw [hs]; simp [beL]
  have HF := Lib.hid hfin
  clear hs hfin
  go_enter Try.func11, Try.ntmps11
  go_wp2
  refine wp_loop_rounds 6 ?_
  rw [rounds_succ]
  go_wp2_with (go_at_call 30; refine (F0.out _).mono ?_; rintro e w' ⟨rfl, rfl⟩)
  rw [rounds_succ]
  go_wp2_with (go_at_call 30; refine (F1.out _).mono ?_; rintro e w' ⟨rfl, rfl⟩)
  rw [rounds_succ]
  go_wp2_with (go_at_call 30; refine (F2.out _).mono ?_; rintro e w' ⟨rfl, rfl⟩)
  rw [rounds_succ]
  go_wp2_with (go_at_call 30; refine (F3.out _).mono ?_; rintro e w' ⟨rfl, rfl⟩)
  rw [rounds_succ]
  go_wp2_with (go_at_call 30; refine (F4.out _).mono ?_; rintro e w' ⟨rfl, rfl⟩)
  rw [rounds_succ]
  go_wp2_with (go_at_call 30; refine (F5.out _).mono ?_; rintro e w' ⟨rfl, rfl⟩)
  refine wp_loop_rounds 6 ?_
  repeat any_goals (rw [rounds_succ]; go_wp2)
  refine wp_loop_rounds 6 ?_
  repeat any_goals (rw [rounds_succ]; go_wp2)
  go_ret
  refine ⟨ret_str ?_, by go_grown⟩
  unfold numS
  rw [HF.out]
  apply ByteArray.ext
  simp [Nat.div_div_eq_div_mul]

set_option maxHeartbeats 1000000 in
theorem refNum_6 (a : ByteArray) (ha : a.size ≤ 70368744177664) (n : Nat) (hl : 4398046511104 ≤ n) (hh : n ≤ 562949953421311) (w : World) :
    Calls Try.prog 11 #[.string a, .int .u64 (n : Int)] w fun e w' => e = .returned (.string (a ++ numS n)) ∧ Below w.heap.size w w' := by
  have hs : sortN n = 6 := by
    unfold sortN; repeat' split
    all_goals omega
  have f0 : ∀ W : World, Calls Try.prog 30 #[.int .u64 (n : Int), .int .i64 0] W fun e w' => e = .returned (.bool false) ∧ W = w' := by
    intro W
    have h := fits_at n (by omega) 0 (by omega) W
    have hb : roomB n 0 = false := by simp [roomB]; try omega
    rw [hb] at h
    exact h
  have F0 := Lib.hid f0
  clear f0
  have f1 : ∀ W : World, Calls Try.prog 30 #[.int .u64 (n : Int), .int .i64 1] W fun e w' => e = .returned (.bool false) ∧ W = w' := by
    intro W
    have h := fits_at n (by omega) 1 (by omega) W
    have hb : roomB n 1 = false := by simp [roomB]; try omega
    rw [hb] at h
    exact h
  have F1 := Lib.hid f1
  clear f1
  have f2 : ∀ W : World, Calls Try.prog 30 #[.int .u64 (n : Int), .int .i64 2] W fun e w' => e = .returned (.bool false) ∧ W = w' := by
    intro W
    have h := fits_at n (by omega) 2 (by omega) W
    have hb : roomB n 2 = false := by simp [roomB]; try omega
    rw [hb] at h
    exact h
  have F2 := Lib.hid f2
  clear f2
  have f3 : ∀ W : World, Calls Try.prog 30 #[.int .u64 (n : Int), .int .i64 3] W fun e w' => e = .returned (.bool false) ∧ W = w' := by
    intro W
    have h := fits_at n (by omega) 3 (by omega) W
    have hb : roomB n 3 = false := by simp [roomB]; try omega
    rw [hb] at h
    exact h
  have F3 := Lib.hid f3
  clear f3
  have f4 : ∀ W : World, Calls Try.prog 30 #[.int .u64 (n : Int), .int .i64 4] W fun e w' => e = .returned (.bool false) ∧ W = w' := by
    intro W
    have h := fits_at n (by omega) 4 (by omega) W
    have hb : roomB n 4 = false := by simp [roomB]; try omega
    rw [hb] at h
    exact h
  have F4 := Lib.hid f4
  clear f4
  have f5 : ∀ W : World, Calls Try.prog 30 #[.int .u64 (n : Int), .int .i64 5] W fun e w' => e = .returned (.bool false) ∧ W = w' := by
    intro W
    have h := fits_at n (by omega) 5 (by omega) W
    have hb : roomB n 5 = false := by simp [roomB]; try omega
    rw [hb] at h
    exact h
  have F5 := Lib.hid f5
  clear f5
  have f6 : ∀ W : World, Calls Try.prog 30 #[.int .u64 (n : Int), .int .i64 6] W fun e w' => e = .returned (.bool true) ∧ W = w' := by
    intro W
    have h := fits_at n (by omega) 6 (by omega) W
    have hb : roomB n 6 = true := by simp [roomB]; try omega
    rw [hb] at h
    exact h
  have F6 := Lib.hid f6
  clear f6
  have hcv := fun W m x h => conv_one (P := Try.prog) W 45 9 5 m x Try.underlying45 Try.underlying5 Try.underlying9 h
  have hfin : numL n = [UInt8.ofNat (252 + n / 281474976710656), UInt8.ofNat (n / 1099511627776 % 256), UInt8.ofNat (n / 4294967296 % 256), UInt8.ofNat (n / 16777216 % 256), UInt8.ofNat (n / 65536 % 256), UInt8.ofNat (n / 256 % 256), UInt8.ofNat (n / 1 % 256)] := by
    unfold numL; rw [hs]; simp [beL]
  have HF := Lib.hid hfin
  clear hs hfin
  go_enter Try.func11, Try.ntmps11
  go_wp2
  refine wp_loop_rounds 7 ?_
  rw [rounds_succ]
  go_wp2_with (go_at_call 30; refine (F0.out _).mono ?_; rintro e w' ⟨rfl, rfl⟩)
  rw [rounds_succ]
  go_wp2_with (go_at_call 30; refine (F1.out _).mono ?_; rintro e w' ⟨rfl, rfl⟩)
  rw [rounds_succ]
  go_wp2_with (go_at_call 30; refine (F2.out _).mono ?_; rintro e w' ⟨rfl, rfl⟩)
  rw [rounds_succ]
  go_wp2_with (go_at_call 30; refine (F3.out _).mono ?_; rintro e w' ⟨rfl, rfl⟩)
  rw [rounds_succ]
  go_wp2_with (go_at_call 30; refine (F4.out _).mono ?_; rintro e w' ⟨rfl, rfl⟩)
  rw [rounds_succ]
  go_wp2_with (go_at_call 30; refine (F5.out _).mono ?_; rintro e w' ⟨rfl, rfl⟩)
  rw [rounds_succ]
  go_wp2_with (go_at_call 30; refine (F6.out _).mono ?_; rintro e w' ⟨rfl, rfl⟩)
  refine wp_loop_rounds 7 ?_
  repeat any_goals (rw [rounds_succ]; go_wp2)
  refine wp_loop_rounds 7 ?_
  repeat any_goals (rw [rounds_succ]; go_wp2)
  go_ret
  refine ⟨ret_str ?_, by go_grown⟩
  unfold numS
  rw [HF.out]
  apply ByteArray.ext
  simp [Nat.div_div_eq_div_mul]

set_option maxHeartbeats 1000000 in
theorem refNum_7 (a : ByteArray) (ha : a.size ≤ 70368744177664) (n : Nat) (hl : 562949953421312 ≤ n) (hh : n ≤ 72057594037927935) (w : World) :
    Calls Try.prog 11 #[.string a, .int .u64 (n : Int)] w fun e w' => e = .returned (.string (a ++ numS n)) ∧ Below w.heap.size w w' := by
  have hs : sortN n = 7 := by
    unfold sortN; repeat' split
    all_goals omega
  have f0 : ∀ W : World, Calls Try.prog 30 #[.int .u64 (n : Int), .int .i64 0] W fun e w' => e = .returned (.bool false) ∧ W = w' := by
    intro W
    have h := fits_at n (by omega) 0 (by omega) W
    have hb : roomB n 0 = false := by simp [roomB]; try omega
    rw [hb] at h
    exact h
  have F0 := Lib.hid f0
  clear f0
  have f1 : ∀ W : World, Calls Try.prog 30 #[.int .u64 (n : Int), .int .i64 1] W fun e w' => e = .returned (.bool false) ∧ W = w' := by
    intro W
    have h := fits_at n (by omega) 1 (by omega) W
    have hb : roomB n 1 = false := by simp [roomB]; try omega
    rw [hb] at h
    exact h
  have F1 := Lib.hid f1
  clear f1
  have f2 : ∀ W : World, Calls Try.prog 30 #[.int .u64 (n : Int), .int .i64 2] W fun e w' => e = .returned (.bool false) ∧ W = w' := by
    intro W
    have h := fits_at n (by omega) 2 (by omega) W
    have hb : roomB n 2 = false := by simp [roomB]; try omega
    rw [hb] at h
    exact h
  have F2 := Lib.hid f2
  clear f2
  have f3 : ∀ W : World, Calls Try.prog 30 #[.int .u64 (n : Int), .int .i64 3] W fun e w' => e = .returned (.bool false) ∧ W = w' := by
    intro W
    have h := fits_at n (by omega) 3 (by omega) W
    have hb : roomB n 3 = false := by simp [roomB]; try omega
    rw [hb] at h
    exact h
  have F3 := Lib.hid f3
  clear f3
  have f4 : ∀ W : World, Calls Try.prog 30 #[.int .u64 (n : Int), .int .i64 4] W fun e w' => e = .returned (.bool false) ∧ W = w' := by
    intro W
    have h := fits_at n (by omega) 4 (by omega) W
    have hb : roomB n 4 = false := by simp [roomB]; try omega
    rw [hb] at h
    exact h
  have F4 := Lib.hid f4
  clear f4
  have f5 : ∀ W : World, Calls Try.prog 30 #[.int .u64 (n : Int), .int .i64 5] W fun e w' => e = .returned (.bool false) ∧ W = w' := by
    intro W
    have h := fits_at n (by omega) 5 (by omega) W
    have hb : roomB n 5 = false := by simp [roomB]; try omega
    rw [hb] at h
    exact h
  have F5 := Lib.hid f5
  clear f5
  have f6 : ∀ W : World, Calls Try.prog 30 #[.int .u64 (n : Int), .int .i64 6] W fun e w' => e = .returned (.bool false) ∧ W = w' := by
    intro W
    have h := fits_at n (by omega) 6 (by omega) W
    have hb : roomB n 6 = false := by simp [roomB]; try omega
    rw [hb] at h
    exact h
  have F6 := Lib.hid f6
  clear f6
  have f7 : ∀ W : World, Calls Try.prog 30 #[.int .u64 (n : Int), .int .i64 7] W fun e w' => e = .returned (.bool true) ∧ W = w' := by
    intro W
    have h := fits_at n (by omega) 7 (by omega) W
    have hb : roomB n 7 = true := by simp [roomB]; try omega
    rw [hb] at h
    exact h
  have F7 := Lib.hid f7
  clear f7
  have hcv := fun W m x h => conv_one (P := Try.prog) W 45 9 5 m x Try.underlying45 Try.underlying5 Try.underlying9 h
  have hfin : numL n = [UInt8.ofNat (254 + n / 72057594037927936), UInt8.ofNat (n / 281474976710656 % 256), UInt8.ofNat (n / 1099511627776 % 256), UInt8.ofNat (n / 4294967296 % 256), UInt8.ofNat (n / 16777216 % 256), UInt8.ofNat (n / 65536 % 256), UInt8.ofNat (n / 256 % 256), UInt8.ofNat (n / 1 % 256)] := by
    unfold numL; rw [hs]; simp [beL]
  have HF := Lib.hid hfin
  clear hs hfin
  go_enter Try.func11, Try.ntmps11
  go_wp2
  refine wp_loop_rounds 8 ?_
  rw [rounds_succ]
  go_wp2_with (go_at_call 30; refine (F0.out _).mono ?_; rintro e w' ⟨rfl, rfl⟩)
  rw [rounds_succ]
  go_wp2_with (go_at_call 30; refine (F1.out _).mono ?_; rintro e w' ⟨rfl, rfl⟩)
  rw [rounds_succ]
  go_wp2_with (go_at_call 30; refine (F2.out _).mono ?_; rintro e w' ⟨rfl, rfl⟩)
  rw [rounds_succ]
  go_wp2_with (go_at_call 30; refine (F3.out _).mono ?_; rintro e w' ⟨rfl, rfl⟩)
  rw [rounds_succ]
  go_wp2_with (go_at_call 30; refine (F4.out _).mono ?_; rintro e w' ⟨rfl, rfl⟩)
  rw [rounds_succ]
  go_wp2_with (go_at_call 30; refine (F5.out _).mono ?_; rintro e w' ⟨rfl, rfl⟩)
  rw [rounds_succ]
  go_wp2_with (go_at_call 30; refine (F6.out _).mono ?_; rintro e w' ⟨rfl, rfl⟩)
  rw [rounds_succ]
  go_wp2_with (go_at_call 30; refine (F7.out _).mono ?_; rintro e w' ⟨rfl, rfl⟩)
  refine wp_loop_rounds 8 ?_
  repeat any_goals (rw [rounds_succ]; go_wp2)
  refine wp_loop_rounds 8 ?_
  repeat any_goals (rw [rounds_succ]; go_wp2)
  go_ret
  refine ⟨ret_str ?_, by go_grown⟩
  unfold numS
  rw [HF.out]
  apply ByteArray.ext
  simp [Nat.div_div_eq_div_mul]

set_option maxHeartbeats 1000000 in
theorem refNum_8 (a : ByteArray) (ha : a.size ≤ 70368744177664) (n : Nat) (hl : 72057594037927936 ≤ n) (hh : n ≤ 18446744073709551615) (w : World) :
    Calls Try.prog 11 #[.string a, .int .u64 (n : Int)] w fun e w' => e = .returned (.string (a ++ numS n)) ∧ Below w.heap.size w w' := by
  have hs : sortN n = 8 := by
    unfold sortN; repeat' split
    all_goals omega
  have f0 : ∀ W : World, Calls Try.prog 30 #[.int .u64 (n : Int), .int .i64 0] W fun e w' => e = .returned (.bool false) ∧ W = w' := by
    intro W
    have h := fits_at n (by omega) 0 (by omega) W
    have hb : roomB n 0 = false := by simp [roomB]; try omega
    rw [hb] at h
    exact h
  have F0 := Lib.hid f0
  clear f0
  have f1 : ∀ W : World, Calls Try.prog 30 #[.int .u64 (n : Int), .int .i64 1] W fun e w' => e = .returned (.bool false) ∧ W = w' := by
    intro W
    have h := fits_at n (by omega) 1 (by omega) W
    have hb : roomB n 1 = false := by simp [roomB]; try omega
    rw [hb] at h
    exact h
  have F1 := Lib.hid f1
  clear f1
  have f2 : ∀ W : World, Calls Try.prog 30 #[.int .u64 (n : Int), .int .i64 2] W fun e w' => e = .returned (.bool false) ∧ W = w' := by
    intro W
    have h := fits_at n (by omega) 2 (by omega) W
    have hb : roomB n 2 = false := by simp [roomB]; try omega
    rw [hb] at h
    exact h
  have F2 := Lib.hid f2
  clear f2
  have f3 : ∀ W : World, Calls Try.prog 30 #[.int .u64 (n : Int), .int .i64 3] W fun e w' => e = .returned (.bool false) ∧ W = w' := by
    intro W
    have h := fits_at n (by omega) 3 (by omega) W
    have hb : roomB n 3 = false := by simp [roomB]; try omega
    rw [hb] at h
    exact h
  have F3 := Lib.hid f3
  clear f3
  have f4 : ∀ W : World, Calls Try.prog 30 #[.int .u64 (n : Int), .int .i64 4] W fun e w' => e = .returned (.bool false) ∧ W = w' := by
    intro W
    have h := fits_at n (by omega) 4 (by omega) W
    have hb : roomB n 4 = false := by simp [roomB]; try omega
    rw [hb] at h
    exact h
  have F4 := Lib.hid f4
  clear f4
  have f5 : ∀ W : World, Calls Try.prog 30 #[.int .u64 (n : Int), .int .i64 5] W fun e w' => e = .returned (.bool false) ∧ W = w' := by
    intro W
    have h := fits_at n (by omega) 5 (by omega) W
    have hb : roomB n 5 = false := by simp [roomB]; try omega
    rw [hb] at h
    exact h
  have F5 := Lib.hid f5
  clear f5
  have f6 : ∀ W : World, Calls Try.prog 30 #[.int .u64 (n : Int), .int .i64 6] W fun e w' => e = .returned (.bool false) ∧ W = w' := by
    intro W
    have h := fits_at n (by omega) 6 (by omega) W
    have hb : roomB n 6 = false := by simp [roomB]; try omega
    rw [hb] at h
    exact h
  have F6 := Lib.hid f6
  clear f6
  have f7 : ∀ W : World, Calls Try.prog 30 #[.int .u64 (n : Int), .int .i64 7] W fun e w' => e = .returned (.bool false) ∧ W = w' := by
    intro W
    have h := fits_at n (by omega) 7 (by omega) W
    have hb : roomB n 7 = false := by simp [roomB]; try omega
    rw [hb] at h
    exact h
  have F7 := Lib.hid f7
  clear f7
  have f8 : ∀ W : World, Calls Try.prog 30 #[.int .u64 (n : Int), .int .i64 8] W fun e w' => e = .returned (.bool true) ∧ W = w' := by
    intro W
    have h := fits_at n (by omega) 8 (by omega) W
    have hb : roomB n 8 = true := by simp [roomB]; try omega
    rw [hb] at h
    exact h
  have F8 := Lib.hid f8
  clear f8
  have hcv := fun W m x h => conv_one (P := Try.prog) W 45 9 5 m x Try.underlying45 Try.underlying5 Try.underlying9 h
  have hfin : numL n = [UInt8.ofNat (255 + n / 18446744073709551616), UInt8.ofNat (n / 72057594037927936 % 256), UInt8.ofNat (n / 281474976710656 % 256), UInt8.ofNat (n / 1099511627776 % 256), UInt8.ofNat (n / 4294967296 % 256), UInt8.ofNat (n / 16777216 % 256), UInt8.ofNat (n / 65536 % 256), UInt8.ofNat (n / 256 % 256), UInt8.ofNat (n / 1 % 256)] := by
    unfold numL; rw [hs]; simp [beL]
  have HF := Lib.hid hfin
  clear hs hfin
  go_enter Try.func11, Try.ntmps11
  go_wp2
  refine wp_loop_rounds 9 ?_
  rw [rounds_succ]
  go_wp2_with (go_at_call 30; refine (F0.out _).mono ?_; rintro e w' ⟨rfl, rfl⟩)
  rw [rounds_succ]
  go_wp2_with (go_at_call 30; refine (F1.out _).mono ?_; rintro e w' ⟨rfl, rfl⟩)
  rw [rounds_succ]
  go_wp2_with (go_at_call 30; refine (F2.out _).mono ?_; rintro e w' ⟨rfl, rfl⟩)
  rw [rounds_succ]
  go_wp2_with (go_at_call 30; refine (F3.out _).mono ?_; rintro e w' ⟨rfl, rfl⟩)
  rw [rounds_succ]
  go_wp2_with (go_at_call 30; refine (F4.out _).mono ?_; rintro e w' ⟨rfl, rfl⟩)
  rw [rounds_succ]
  go_wp2_with (go_at_call 30; refine (F5.out _).mono ?_; rintro e w' ⟨rfl, rfl⟩)
  rw [rounds_succ]
  go_wp2_with (go_at_call 30; refine (F6.out _).mono ?_; rintro e w' ⟨rfl, rfl⟩)
  rw [rounds_succ]
  go_wp2_with (go_at_call 30; refine (F7.out _).mono ?_; rintro e w' ⟨rfl, rfl⟩)
  rw [rounds_succ]
  go_wp2_with (go_at_call 30; refine (F8.out _).mono ?_; rintro e w' ⟨rfl, rfl⟩)
  refine wp_loop_rounds 9 ?_
  repeat any_goals (rw [rounds_succ]; go_wp2)
  refine wp_loop_rounds 9 ?_
  repeat any_goals (rw [rounds_succ]; go_wp2)
  go_ret
  refine ⟨ret_str ?_, by go_grown⟩
  unfold numS
  rw [HF.out]
  apply ByteArray.ext
  simp [Nat.div_div_eq_div_mul]

theorem refNum_any (a : ByteArray) (ha : a.size ≤ 70368744177664) (n : Nat) (hn : n ≤ 18446744073709551615) (w : World) :
    Calls Try.prog 11 #[.string a, .int .u64 (n : Int)] w fun e w' => e = .returned (.string (a ++ numS n)) ∧ Below w.heap.size w w' := by
  by_cases h0 : n ≤ 127
  · exact refNum_0 a ha n (by omega) h0 w
  by_cases h1 : n ≤ 16383
  · exact refNum_1 a ha n (by omega) h1 w
  by_cases h2 : n ≤ 2097151
  · exact refNum_2 a ha n (by omega) h2 w
  by_cases h3 : n ≤ 268435455
  · exact refNum_3 a ha n (by omega) h3 w
  by_cases h4 : n ≤ 34359738367
  · exact refNum_4 a ha n (by omega) h4 w
  by_cases h5 : n ≤ 4398046511103
  · exact refNum_5 a ha n (by omega) h5 w
  by_cases h6 : n ≤ 562949953421311
  · exact refNum_6 a ha n (by omega) h6 w
  by_cases h7 : n ≤ 72057594037927935
  · exact refNum_7 a ha n (by omega) h7 w
  · exact refNum_8 a ha n (by omega) hn w
end Go.Proofs.Ythndmaeplnhmlaa
