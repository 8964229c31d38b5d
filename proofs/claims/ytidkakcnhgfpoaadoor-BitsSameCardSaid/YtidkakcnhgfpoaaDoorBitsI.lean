/- Of: the places of four words. -/
import Derived.Test.YtidkakcnhgfpoaaDoorBitsH
namespace Go.Proofs.YtidkakcnhgfpoaaDoor
open Go.RowKit
set_option linter.unusedVariables false

/-- The places of a set, as ints. -/
def plcI (N : Nat) : List Int := (plc N).map Int.ofNat
def plcTo (N k : Nat) : List Int := ((List.range k).filter N.testBit).map Int.ofNat
theorem plcTo_in (N k : Nat) (h : N.testBit k = true) : plcTo N (k + 1) = plcTo N k ++ [(k : Int)] := by
  unfold plcTo
  rw [List.range_succ, List.filter_append, List.map_append, List.filter_cons, h]; rfl
theorem plcTo_out (N k : Nat) (h : N.testBit k = false) : plcTo N (k + 1) = plcTo N k := by
  unfold plcTo
  rw [List.range_succ, List.filter_append, List.map_append, List.filter_cons, h]; simp
theorem plcTo_len (N k : Nat) : (plcTo N k).length ≤ k := by
  unfold plcTo
  rw [List.length_map]
  exact Nat.le_trans (List.length_filter_le _ _) (by simp)
set_option maxRecDepth 100000 in
set_option maxHeartbeats 2000000 in
theorem refOf_any (N : Nat) (w : World) :
    Calls Tryd.prog 8 #[sv N] w fun e w' => OutL w' e (plcI N) ∧ Below w.heap.size w w' := by
  have HB := Lib.hid (fun k r => bit_int (wd N k) r (wd_lt N k))
  have HT := Lib.hid (word_bit N)
  obtain ⟨x, hx⟩ : ∃ x : Nat → Nat, x = wd N := ⟨_, rfl⟩
  unfold sv
  rw [← hx] at HB HT ⊢
  clear hx
  obtain ⟨i0, hi, hz0, hz1, hz2⟩ := info_parts intInfo
  go_enter Tryd.func8, Tryd.ntmps8
  go_wp2_with fail
  have b0 := below_alloc1 w (.cells #[.int .u64 (x 0 : Int), .int .u64 (x 1 : Int), .int .u64 (x 2 : Int), .int .u64 (x 3 : Int)] 23)
  have ha := ArrIn.new 23 (.int .u64 (x 0 : Int)) (.int .u64 (x 1 : Int)) (.int .u64 (x 2 : Int)) (.int .u64 (x 3 : Int)) w
  generalize w.alloc (.cells #[.int .u64 (x 0 : Int), .int .u64 (x 1 : Int), .int .u64 (x 2 : Int), .int .u64 (x 3 : Int)] 23) = W at *
  have B0 := Lib.hid b0
  have HA := Lib.hid ha
  clear b0 ha
  go_loopw [3, 4] (fun v q wr => ∃ (k : Nat) (M : List Int), q = .int .i64 (k : Int) ∧ k ≤ 256 ∧ M = plcTo N k ∧ wr.ownsRow W.heap.size 3 1 v M.length (M.map (Value.int .i64)) ∧ Below W.heap.size W wr) (fun _ q _ => 256 - (intOf q).toNat)
  case atStart => exact ⟨0, [], rfl, Nat.zero_le _, rfl, World.ownsRow_nil _ _ _ _, Below.refl _ _⟩
  case round =>
    obtain ⟨k, M, rfl, hk, hM, hown, hbw⟩ := hrel
    have HM := Lib.hid hM
    have HO := Lib.hid hown
    have HW := Lib.hid hbw
    have hMl : M.length ≤ k := by rw [hM]; exact plcTo_len _ _
    clear hM hown hbw
    by_cases hlt : k < 256
    · have hq := tdiv_at (k : Int) (k / 64) (k % 64) (by omega) (by omega)
      have hm := tmod_at (k : Int) (k / 64) (k % 64) (by omega) (by omega)
      have hb := HB.out (k / 64) (k % 64)
      rw [HT.out k hlt] at hb
      have hk4 : k / 64 < 4 := by omega
      have hc := ((HA.out.next HW.out)).cells
      have hr : k % 64 < 64 := by omega
      generalize k / 64 = d at *
      generalize k % 64 = r at *
      cases hbit : N.testBit k
      · rw [hbit] at hb
        have HN := Lib.hid (show M = plcTo N (k + 1) by rw [plcTo_out N k hbit, ← HM.out])
        clear hbit
        have h4 : d = 0 ∨ d = 1 ∨ d = 2 ∨ d = 3 := by omega
        rcases h4 with rfl | rfl | rfl | rfl
        all_goals
          go_wp2_with fail
          go_roundw
          case rel => exact ⟨k + 1, M, by go_num, by omega, HN.out, HO.out, HW.out⟩
          case measure => simp [intOf]; omega
      · rw [hbit] at hb
        have HN := Lib.hid (show M ++ [(k : Int)] = plcTo N (k + 1) by rw [plcTo_in N k hbit, ← HM.out])
        clear hbit
        have h4 : d = 0 ∨ d = 1 ∨ d = 2 ∨ d = 3 := by omega
        rcases h4 with rfl | rfl | rfl | rfl
        all_goals
          go_wp2_with (at_builtin; refine wpList_append_own _ rfl _ _ 25 rfl W.heap.size 3 i0 (.int .i64 0) 1 8 Tryd.underlying25 hi hz0 hz1 hz2 rfl (by decide) _ M.length (M.map (Value.int .i64)) rfl (HO.out.alloc _) ⟨wr.heap.size, 0, none⟩ 1 1 [.int .i64 (k : Int)] rfl rfl (cell_one_new _ _ _) (by simp [Value.oneCell']) (by unfold maxLen; omega) (by omega) (by have := HW.out.size; simp; omega) ?_)
          intro v1 w1 hown1 hgrow hne
          have HW1 := Lib.hid (grown_out HW.out HO.out hgrow)
          have HO1 := Lib.hid (own_snoc hown1)
          obtain ⟨g1, cap1, rfl⟩ := ownsRow_succ hown1
          clear hown1 hgrow hne
          go_wp2_with fail
          go_roundw
          case rel => exact ⟨k + 1, M ++ [(k : Int)], by go_num, by omega, HN.out, HO1.out, HW1.out⟩
          case measure => simp [intOf]; omega
    · have HN := Lib.hid (show M = plcI N by rw [HM.out, show k = 256 by omega]; rfl)
      go_wp2_with fail
      refine bodyPost_ret (results_tmp rfl _ _ _) rfl ?_
      obtain ⟨a1, c1, hv, hi1⟩ := own_isL HO.out
      rw [← HN.out]
      exact ⟨⟨a1, c1, by rw [← hv]; rfl, hi1⟩, B0.out.trans (HW.out.mono B0.out.size)⟩
end Go.Proofs.YtidkakcnhgfpoaaDoor
