/- math/bits.OnesCount64, TrailingZeros64 at this program. -/
import Derived.Test.YtidkakcnhgfpoaaDoorBitsE
import Derived.Test.YtidkakcnhgfpoaaDoorBitsB
import Derived.Shelf.Spec.TrailingZeros
namespace Go.Proofs.YtidkakcnhgfpoaaDoor
open Go.RowKit
set_option linter.unusedVariables false

theorem tz_core (x k idx : Nat) (w : World) (hx0 : ((x : Int) == 0) = false)
    (key : IntKind.u64.wrap (bits BinOp.and IntKind.u64 (x : Int) (IntKind.u64.wrap (-(x : Int))) * 285870213051353865) / 288230376151711744 = (idx : Int))
    (hi : idx < 64) (hk : k < 64) (hcell : w.cell? ⟨0, idx, none⟩ = some (.int .u8 k)) :
    Calls Tryd.prog 33 #[.int .u64 (x : Int)] w fun e w' => e = .returned (.int .i64 (k : Int)) ∧ w = w' := by
  have KEY := Lib.hid key
  clear key
  go_enter Tryd.func33, Tryd.ntmps33
  go_wp2_with (simp only [KEY.out])
  go_ret
  exact ⟨rfl, rfl⟩
theorem tz_any (x : Nat) (hx : x < 18446744073709551616) (h0 : x ≠ 0) (w : World) (hT : TabAt 0 Lib.deBruijn64tab w) :
    Calls Tryd.prog 33 #[.int .u64 (x : Int)] w fun e w' => e = .returned (.int .i64 (Lib.ctz 64 x : Nat)) ∧ w = w' := by
  obtain ⟨hlow, hk⟩ := Lib.lowest_bit 64 x h0 hx
  obtain ⟨hi, htab⟩ := Lib.deBruijn64_at _ hk
  have hcell := hT _ hi
  rw [htab] at hcell
  exact tz_core x _ _ w (by simp; omega) (tz64_key x _ hx h0 hlow) hi hk hcell
set_option maxHeartbeats 1000000 in
theorem ones_core (x y1 y2 y3 y4 y5 y6 : Nat) (r : Int)
    (k1 : IntKind.u64.wrap (bits .and .u64 ((x : Int) / 2) 6148914691236517205 + bits .and .u64 (x : Int) 6148914691236517205) = (y1 : Int))
    (k2 : IntKind.u64.wrap (bits .and .u64 ((y1 : Int) / 4) 3689348814741910323 + bits .and .u64 (y1 : Int) 3689348814741910323) = (y2 : Int))
    (k3 : bits .and .u64 (IntKind.u64.wrap ((y2 : Int) / 16 + (y2 : Int))) 1085102592571150095 = (y3 : Int))
    (k4 : IntKind.u64.wrap ((y3 : Int) + (y3 : Int) / 256) = (y4 : Int))
    (k5 : IntKind.u64.wrap ((y4 : Int) + (y4 : Int) / 65536) = (y5 : Int))
    (k6 : IntKind.u64.wrap ((y5 : Int) + (y5 : Int) / 4294967296) = (y6 : Int)) (h6 : y6 < 9223372036854775808)
    (k7 : bits .and .i64 (y6 : Int) 127 = r) (w : World) :
    Calls Tryd.prog 32 #[.int .u64 (x : Int)] w fun e w' => e = .returned (.int .i64 r) ∧ w = w' := by
  go_enter Tryd.func32, Tryd.ntmps32
  go_wp2_with fail
  go_ret
  exact ⟨rfl, rfl⟩
theorem and_i64 (y : Nat) (h : y < 9223372036854775808) : bits .and .i64 (y : Int) 127 = ((y % 128 : Nat) : Int) := by
  show IntKind.i64.wrap ((BitVec.ofInt 64 (y : Int) &&& BitVec.ofInt 64 127).toNat : Int) = _
  rw [BitVec.toNat_and, ofInt_u64 y (by omega), show (BitVec.ofInt 64 127).toNat = 127 from rfl, nat_mask7]
  simp [IntKind.wrap, IntKind.signed, IntKind.bits]
  omega
theorem and_int (a m : Nat) (ha : a < 18446744073709551616) (hm : m < 18446744073709551616) : bits .and .u64 (a : Int) (m : Int) = ((a &&& m : Nat) : Int) := u64_and_nat a m ha hm
theorem ones_any (x : Nat) (hx : x < 18446744073709551616) (w : World) :
    Calls Tryd.prog 32 #[.int .u64 (x : Int)] w fun e w' => e = .returned (.int .i64 (ones 64 x : Nat)) ∧ w = w' := by
  have hr := ones_reckoned x _ _ _ _ rfl rfl rfl rfl
  have b1 : f1 8 x = (x / 2 &&& 6148914691236517205) + (x &&& 6148914691236517205) := by unfold f1; rw [msk85]
  have c1 := Nat.and_le_right (n := x / 2) (m := 6148914691236517205)
  have c2 := Nat.and_le_right (n := x) (m := 6148914691236517205)
  have b2 : f2 8 (f1 8 x) = (f1 8 x / 4 &&& 3689348814741910323) + (f1 8 x &&& 3689348814741910323) := by unfold f2; rw [msk51]
  have c3 := Nat.and_le_right (n := f1 8 x / 4) (m := 3689348814741910323)
  have c4 := Nat.and_le_right (n := f1 8 x) (m := 3689348814741910323)
  have b3 : f3 8 (f2 8 (f1 8 x)) = (f2 8 (f1 8 x) / 16 + f2 8 (f1 8 x)) &&& 1085102592571150095 := by unfold f3; rw [msk15]
  have d1 := and_int (x / 2) 6148914691236517205 (by omega) (by decide)
  have d2 := and_int x 6148914691236517205 hx (by decide)
  have l1 : f1 8 x < 18446744073709551616 := by omega
  have d3 := and_int (f1 8 x / 4) 3689348814741910323 (by omega) (by decide)
  have d4 := and_int (f1 8 x) 3689348814741910323 l1 (by decide)
  generalize f1 8 x = y1 at *
  have l2 : f2 8 y1 / 16 + f2 8 y1 < 18446744073709551616 := by omega
  have d5 := and_int (f2 8 y1 / 16 + f2 8 y1) 1085102592571150095 l2 (by decide)
  generalize f2 8 y1 = y2 at *
  rw [← b3] at d5
  generalize f3 8 y2 = y3 at *
  obtain ⟨hr1, hr2⟩ := hr
  obtain ⟨y4, h4⟩ : ∃ y, y = y3 + y3 / 256 := ⟨_, rfl⟩
  rw [← h4] at hr1 hr2
  obtain ⟨y5, h5⟩ : ∃ y, y = y4 + y4 / 65536 := ⟨_, rfl⟩
  rw [← h5] at hr1 hr2
  obtain ⟨y6, h6⟩ : ∃ y, y = y5 + y5 / 4294967296 := ⟨_, rfl⟩
  rw [← h6] at hr1 hr2
  refine ones_core x y1 y2 y3 y4 y5 y6 _ ?_ ?_ ?_ ?_ ?_ ?_ hr2 ?_ w
  · rw [show ((x : Int) / 2) = ((x / 2 : Nat) : Int) by omega, show (6148914691236517205 : Int) = ((6148914691236517205 : Nat) : Int) from rfl, d1, d2, IntKind.wrap_u64]; omega
  · rw [show ((y1 : Int) / 4) = ((y1 / 4 : Nat) : Int) by omega, show (3689348814741910323 : Int) = ((3689348814741910323 : Nat) : Int) from rfl, d3, d4, IntKind.wrap_u64]; omega
  · rw [show IntKind.u64.wrap ((y2 : Int) / 16 + (y2 : Int)) = ((y2 / 16 + y2 : Nat) : Int) by rw [IntKind.wrap_u64]; omega]
    exact d5
  · rw [IntKind.wrap_u64]; omega
  · rw [IntKind.wrap_u64]; omega
  · rw [IntKind.wrap_u64]; omega
  · rw [← hr1]
    exact and_i64 y6 hr2
set_option maxHeartbeats 1000000 in
theorem len_core (a0 a1 a2 a3 : Nat) (h0 : a0 < 18446744073709551616) (h1 : a1 < 18446744073709551616) (h2 : a2 < 18446744073709551616) (h3 : a3 < 18446744073709551616) (w : World) :
    Calls Tryd.prog 16 #[.agg #[.int .u64 (a0 : Int), .int .u64 (a1 : Int), .int .u64 (a2 : Int), .int .u64 (a3 : Int)]] w fun e w' => e = .returned (.int .i64 ((ones 64 a0 + ones 64 a1 + ones 64 a2 + ones 64 a3 : Nat) : Int)) ∧ Below w.heap.size w w' := by
  have i0 := index0; have i1 := index1; have i2 := index2; have i3 := index3
  have hl : ∀ x, ones 64 x ≤ 64 := fun x => by rw [← ones_filter]; exact Nat.le_trans (List.length_filter_le _ _) (by simp)
  have o0 := hl a0
  have o1 := hl a1
  have o2 := hl a2
  have o3 := hl a3
  have K0 := Lib.hid (ones_any a0 h0)
  have K1 := Lib.hid (ones_any a1 h1)
  have K2 := Lib.hid (ones_any a2 h2)
  have K3 := Lib.hid (ones_any a3 h3)
  clear hl h0 h1 h2 h3
  generalize ones 64 a0 = n0 at *
  generalize ones 64 a1 = n1 at *
  generalize ones 64 a2 = n2 at *
  generalize ones 64 a3 = n3 at *
  go_enter Tryd.func16, Tryd.ntmps16
  go_wp2_with fail
  refine wp_loop_rounds 5 ?_
  rw [rounds_succ]
  go_wp2_with fail
  refine (K0.out _).mono ?_
  rintro e w1 ⟨rfl, rfl⟩
  go_wp2_with fail
  rw [rounds_succ]
  go_wp2_with fail
  refine (K1.out _).mono ?_
  rintro e w1 ⟨rfl, rfl⟩
  go_wp2_with fail
  rw [rounds_succ]
  go_wp2_with fail
  refine (K2.out _).mono ?_
  rintro e w1 ⟨rfl, rfl⟩
  go_wp2_with fail
  rw [rounds_succ]
  go_wp2_with fail
  refine (K3.out _).mono ?_
  rintro e w1 ⟨rfl, rfl⟩
  go_wp2_with fail
  rw [rounds_succ]
  go_wp2_with fail
  go_ret
  exact ⟨by simp, below_alloc1 _ _⟩
theorem len_any (N : Nat) (w : World) : Calls Tryd.prog 16 #[sv N] w fun e w' => e = .returned (.int .i64 ((plc N).length : Int)) ∧ Below w.heap.size w w' := by
  rw [ones_words N]
  exact len_core _ _ _ _ (wd_lt _ _) (wd_lt _ _) (wd_lt _ _) (wd_lt _ _) w
end Go.Proofs.YtidkakcnhgfpoaaDoor
