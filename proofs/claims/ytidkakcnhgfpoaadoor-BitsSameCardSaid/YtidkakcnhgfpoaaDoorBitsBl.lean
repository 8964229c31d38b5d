/- By program (genB.py): what BitsB says of And, of Minus. -/
import Derived.Test.YtidkakcnhgfpoaaDoorBitsB
namespace Go.Proofs.YtidkakcnhgfpoaaDoor
open Go.RowKit
set_option linter.unusedVariables false

set_option maxHeartbeats 1000000 in
theorem merge_less (a0 a1 a2 a3 b0 b1 b2 b3 : Nat) (ha0 : a0 < 18446744073709551616) (ha1 : a1 < 18446744073709551616) (ha2 : a2 < 18446744073709551616) (ha3 : a3 < 18446744073709551616)
    (hb0 : b0 < 18446744073709551616) (hb1 : b1 < 18446744073709551616) (hb2 : b2 < 18446744073709551616) (hb3 : b3 < 18446744073709551616) (w : World) :
    Calls Tryd.prog 36 #[.agg #[.int .u64 (a0 : Int), .int .u64 (a1 : Int), .int .u64 (a2 : Int), .int .u64 (a3 : Int)], .agg #[.int .u64 (b0 : Int), .int .u64 (b1 : Int), .int .u64 (b2 : Int), .int .u64 (b3 : Int)], .func (.func 39) #[] #[]] w
      fun e w' => e = .returned (.agg #[.int .u64 ((less a0 b0 : Nat) : Int), .int .u64 ((less a1 b1 : Nat) : Int), .int .u64 ((less a2 b2 : Nat) : Int), .int .u64 ((less a3 b3 : Nat) : Int)]) ∧ Below w.heap.size w w' := by
  have i0 := index0; have i1 := index1; have i2 := index2; have i3 := index3
  go_enter Tryd.func36, Tryd.ntmps36
  go_wp2_with fail
  refine wp_loop_rounds 5 ?_
  rw [rounds_succ]
  go_wp2_with fail
  refine (less_word a0 b0 ha0 hb0 _).mono ?_
  rintro e w1 ⟨rfl, rfl⟩
  go_wp2_with fail
  rw [rounds_succ]
  go_wp2_with fail
  refine (less_word a1 b1 ha1 hb1 _).mono ?_
  rintro e w1 ⟨rfl, rfl⟩
  go_wp2_with fail
  rw [rounds_succ]
  go_wp2_with fail
  refine (less_word a2 b2 ha2 hb2 _).mono ?_
  rintro e w1 ⟨rfl, rfl⟩
  go_wp2_with fail
  rw [rounds_succ]
  go_wp2_with fail
  refine (less_word a3 b3 ha3 hb3 _).mono ?_
  rintro e w1 ⟨rfl, rfl⟩
  go_wp2_with fail
  rw [rounds_succ]
  go_wp2_with fail
  refine bodyPost_ret (res_set rfl _ _ (w.heap.size + 1 + 1) _ _ _ _ rfl (heap3 _ _ _ _)) rfl ?_
  exact ⟨rfl, below_alloc3 _ _ _ _⟩
set_option maxHeartbeats 1000000 in
theorem less_words (a0 a1 a2 a3 b0 b1 b2 b3 : Nat) (ha0 : a0 < 18446744073709551616) (ha1 : a1 < 18446744073709551616) (ha2 : a2 < 18446744073709551616) (ha3 : a3 < 18446744073709551616)
    (hb0 : b0 < 18446744073709551616) (hb1 : b1 < 18446744073709551616) (hb2 : b2 < 18446744073709551616) (hb3 : b3 < 18446744073709551616) (w : World) :
    Calls Tryd.prog 26 #[.agg #[.int .u64 (a0 : Int), .int .u64 (a1 : Int), .int .u64 (a2 : Int), .int .u64 (a3 : Int)], .agg #[.int .u64 (b0 : Int), .int .u64 (b1 : Int), .int .u64 (b2 : Int), .int .u64 (b3 : Int)]] w
      fun e w' => e = .returned (.agg #[.int .u64 ((less a0 b0 : Nat) : Int), .int .u64 ((less a1 b1 : Nat) : Int), .int .u64 ((less a2 b2 : Nat) : Int), .int .u64 ((less a3 b3 : Nat) : Int)]) ∧ Below w.heap.size w w' := by
  go_enter Tryd.func26, Tryd.ntmps26
  go_wp2_with fail
  refine (merge_less a0 a1 a2 a3 b0 b1 b2 b3 ha0 ha1 ha2 ha3 hb0 hb1 hb2 hb3 _).mono ?_
  rintro e w1 ⟨rfl, bw⟩
  have hr := ((ArrIn.new 24 (.int .u64 0) (.int .u64 0) (.int .u64 0) (.int .u64 0) ((w.alloc (.cells #[.int .u64 (a0 : Int), .int .u64 (a1 : Int), .int .u64 (a2 : Int), .int .u64 (a3 : Int)] 24)).alloc (.cells #[.int .u64 (b0 : Int), .int .u64 (b1 : Int), .int .u64 (b2 : Int), .int .u64 (b3 : Int)] 24))).next bw)
  have hi : (Tryd.prog.info? 24).map (·.size) = some 4 := by kernel_rfl
  have HR := Lib.hid hr
  have HB := Lib.hid (below_then' (below_alloc3 w _ _ _) bw (by simp; omega))
  clear hr bw
  simp only [World.size_alloc] at HR
  go_wp2_with (refine wpList_store_set rfl _ _ _ rfl 24 (w.heap.size + 1 + 1) rfl _ _ _ _ rfl _ _ _ _ HR.out hi ?_)
  refine bodyPost_ret (res_in rfl _ _ _ (w.heap.size + 1 + 1) _ _ _ _ rfl (HR.out.set _ _ _ _)) rfl ?_
  exact ⟨rfl, below_setRow HB.out (by omega) _⟩
theorem less_any (N M : Nat) (w : World) :
    Calls Tryd.prog 26 #[sv N, sv M] w fun e w' => e = .returned (sv (less N M)) ∧ Below w.heap.size w w' := by
  have hm := less_words (wd N 0) (wd N 1) (wd N 2) (wd N 3) (wd M 0) (wd M 1) (wd M 2) (wd M 3) (wd_lt _ _) (wd_lt _ _) (wd_lt _ _) (wd_lt _ _) (wd_lt _ _) (wd_lt _ _) (wd_lt _ _) (wd_lt _ _) w
  simp only [← wd_less] at hm
  exact hm
end Go.Proofs.YtidkakcnhgfpoaaDoor
