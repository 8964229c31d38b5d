/- Contracts of the program's: only, Has. -/
import Derived.Test.YtidkakcnhgfpoaaDoorBitsB
namespace Go.Proofs.YtidkakcnhgfpoaaDoor
open Go.RowKit
set_option linter.unusedVariables false

theorem heap2 (w : World) (a b : Obj) : ((w.alloc a).alloc b).heap[w.heap.size]? = some a := heap_alloc2_old w a b
theorem wrap_two (r : Nat) (hr : r < 64) : IntKind.u64.wrap ((2 : Int) ^ r) = (2 : Int) ^ r := by
  have h : (2 : Nat) ^ r < 2 ^ 64 := Nat.pow_lt_pow_right (by decide) hr
  have e : ((2 : Int) ^ r) = ((2 ^ r : Nat) : Int) := by simp
  rw [e, IntKind.wrap_u64]
  generalize 2 ^ r = m at h
  simp only [Nat.reducePow] at h
  omega
theorem tdiv_at (i : Int) (k r : Nat) (hr : r < 64) (hi : i = ((64 * k + r : Nat) : Int)) : i.tdiv 64 = (k : Int) := by
  rw [Int.tdiv_eq_ediv_of_nonneg (by omega)]; omega
theorem tmod_at (i : Int) (k r : Nat) (hr : r < 64) (hi : i = ((64 * k + r : Nat) : Int)) : i.tmod 64 = (r : Int) := by
  rw [Int.tmod_eq_emod_of_nonneg (by omega)]; omega
theorem only_none (i : Int) (h : ¬ (0 ≤ i ∧ i < 256)) (w : World) :
    Calls Tryd.prog 30 #[.int .i64 i] w fun e w' => e = .returned (.agg #[.int .u64 0, .int .u64 0, .int .u64 0, .int .u64 0]) ∧ Below w.heap.size w w' := by
  have HP := Lib.hid (place_any i)
  rw [decide_eq_false h] at HP
  clear h
  go_enter Tryd.func30, Tryd.ntmps30
  go_wp2_with fail
  refine (HP.out _).mono ?_
  rintro e w1 ⟨rfl, rfl⟩
  go_wp2_with fail
  refine bodyPost_ret (res_in rfl _ _ _ w.heap.size _ _ _ _ rfl (heap2 _ _ _)) rfl ?_
  exact ⟨rfl, below_alloc2 _ _ _⟩
theorem only_some (i : Int) (k r : Nat) (hk : k < 4) (hr : r < 64) (hi : i = ((64 * k + r : Nat) : Int)) (w : World) :
    Calls Tryd.prog 30 #[.int .i64 i] w fun e w' => e = .returned (.agg #[.int .u64 (((if k = 0 then 2 ^ r else 0) : Nat) : Int), .int .u64 (((if k = 1 then 2 ^ r else 0) : Nat) : Int), .int .u64 (((if k = 2 then 2 ^ r else 0) : Nat) : Int), .int .u64 (((if k = 3 then 2 ^ r else 0) : Nat) : Int)]) ∧ Below w.heap.size w w' := by
  have HP := Lib.hid (place_any i)
  rw [decide_eq_true (show 0 ≤ i ∧ i < 256 by omega)] at HP
  have hq := tdiv_at i k r hr hi
  have hm := tmod_at i k r hr hi
  have hw := wrap_two r hr
  clear hi
  have h : k = 0 ∨ k = 1 ∨ k = 2 ∨ k = 3 := by omega
  rcases h with rfl | rfl | rfl | rfl
  all_goals
    go_enter Tryd.func30, Tryd.ntmps30
    go_wp2_with fail
    refine (HP.out _).mono ?_
    rintro e w1 ⟨rfl, rfl⟩
    go_wp2_with fail
    refine bodyPost_ret (res_in rfl _ _ _ w.heap.size _ _ _ _ rfl (heap2 _ _ _)) rfl ?_
    exact ⟨by simp, below_alloc2 _ _ _⟩
theorem only_any (i : Int) (w : World) : Calls Tryd.prog 30 #[.int .i64 i] w fun e w' => e = .returned (sv (onlyN i)) ∧ Below w.heap.size w w' := by
  by_cases h : 0 ≤ i ∧ i < 256
  · obtain ⟨n, rfl⟩ : ∃ n : Nat, i = (n : Int) := ⟨i.toNat, by omega⟩
    have hn : n < 256 := by omega
    have ho := only_some (n : Int) (n / 64) (n % 64) (by omega) (by omega) (by omega) w
    rw [← only_wd n 0 hn, ← only_wd n 1 hn, ← only_wd n 2 hn, ← only_wd n 3 hn] at ho
    exact ho
  · have e : onlyN i = 0 := if_neg h
    rw [e]
    exact only_none i h w
theorem bit_int (a r : Nat) (ha : a < 18446744073709551616) : (bits BinOp.and IntKind.u64 ((a : Int) / 2 ^ r) 1 == 1) = a.testBit r := by
  have e : ((a : Int) / 2 ^ r) = ((a / 2 ^ r : Nat) : Int) := by simp
  have h := u64_and_nat (a / 2 ^ r) 1 (Nat.lt_of_le_of_lt (Nat.div_le_self _ _) ha) (by decide)
  rw [e, show (1 : Int) = ((1 : Nat) : Int) from rfl, h, nat_mask1, Nat.testBit_eq_decide_div_mod_eq]
  cases hd : decide (a / 2 ^ r % 2 = 1)
  · have := of_decide_eq_false hd
    rw [show a / 2 ^ r % 2 = 0 by omega]; rfl
  · rw [of_decide_eq_true hd]; rfl
theorem has_none (i : Int) (h : ¬ (0 ≤ i ∧ i < 256)) (x0 x1 x2 x3 : Value) (w : World) :
    Calls Tryd.prog 9 #[.agg #[x0, x1, x2, x3], .int .i64 i] w fun e w' => e = .returned (.bool false) ∧ Below w.heap.size w w' := by
  have HP := Lib.hid (place_any i)
  rw [decide_eq_false h] at HP
  clear h
  go_enter Tryd.func9, Tryd.ntmps9
  go_wp2_with fail
  refine (HP.out _).mono ?_
  rintro e w1 ⟨rfl, rfl⟩
  go_wp2_with fail
  go_ret
  exact ⟨rfl, below_alloc1 _ _⟩
theorem has_some (i : Int) (k r : Nat) (hk : k < 4) (hr : r < 64) (hi : i = ((64 * k + r : Nat) : Int)) (N : Nat) (w : World) :
    Calls Tryd.prog 9 #[sv N, .int .i64 i] w fun e w' => e = .returned (.bool ((wd N k).testBit r)) ∧ Below w.heap.size w w' := by
  have HP := Lib.hid (place_any i)
  rw [decide_eq_true (show 0 ≤ i ∧ i < 256 by omega)] at HP
  have hq := tdiv_at i k r hr hi
  have hm := tmod_at i k r hr hi
  clear hi
  have HB := Lib.hid (fun k => bit_int (wd N k) r (wd_lt N k))
  obtain ⟨x, hx⟩ : ∃ x : Nat → Nat, x = wd N := ⟨_, rfl⟩
  unfold sv
  rw [← hx] at HB ⊢
  clear hx
  have h : k = 0 ∨ k = 1 ∨ k = 2 ∨ k = 3 := by omega
  rcases h with rfl | rfl | rfl | rfl
  all_goals
    go_enter Tryd.func9, Tryd.ntmps9
    go_wp2_with fail
    refine (HP.out _).mono ?_
    rintro e w1 ⟨rfl, rfl⟩
    go_wp2_with fail
    go_ret
    exact ⟨by rw [← HB.out]; rfl, below_alloc1 _ _⟩
theorem has_any (N : Nat) (i : Int) (w : World) : Calls Tryd.prog 9 #[sv N, .int .i64 i] w fun e w' => e = .returned (.bool (hasN N i)) ∧ Below w.heap.size w w' := by
  unfold hasN
  by_cases h : 0 ≤ i ∧ i < 256
  · have hb := word_bit N i.toNat (by omega)
    have ho := has_some i (i.toNat / 64) (i.toNat % 64) (by omega) (by omega) (by omega) N w
    rw [hb] at ho
    rw [decide_eq_true h, Bool.true_and]
    exact ho
  · rw [decide_eq_false h, Bool.false_and]
    exact has_none i h _ _ _ _ w
end Go.Proofs.YtidkakcnhgfpoaaDoor
