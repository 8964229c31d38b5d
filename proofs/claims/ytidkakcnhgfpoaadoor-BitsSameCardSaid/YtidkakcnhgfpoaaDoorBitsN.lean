/- The law's own 'of': the set of a list of numbers. -/
import Derived.Test.YtidkakcnhgfpoaaDoorBitsM
import Derived.Test.YtidkakcnhgfpoaaDoorBitsF
import Derived.Deep.RegionWith
namespace Go.Proofs.YtidkakcnhgfpoaaDoor
open Go.RowKit
set_option linter.unusedVariables false

theorem ArrIn.set4_other {T b c : Nat} {x0 x1 x2 x3 : Value} {w : World} (h : ArrIn T b x0 x1 x2 x3 w) (hne : b ≠ c) (y0 y1 y2 y3 : Value) :
    ArrIn T b x0 x1 x2 x3 ((((w.setCell ⟨c, 0, none⟩ y0).setCell ⟨c, 1, none⟩ y1).setCell ⟨c, 2, none⟩ y2).setCell ⟨c, 3, none⟩ y3) :=
  (((h.other (a := ⟨c, 0, none⟩) hne).other (a := ⟨c, 1, none⟩) hne).other (a := ⟨c, 2, none⟩) hne).other (a := ⟨c, 3, none⟩) hne
set_option maxRecDepth 100000 in
set_option maxHeartbeats 2000000 in
theorem of_any (a : Option Addr) (c : Nat) (L : List Int) (w : World) (h : IsL w a c L) (hL : L.length ≤ 1000) :
    Calls Tryd.prog 28 #[.slice a L.length c] w fun e w' => e = .returned (sv (addAll 0 L)) ∧ Below w.heap.size w w' := by
  have H := Lib.hid h
  have hc := h.1
  have hcm := h.2.1
  clear h
  go_enter Tryd.func28, Tryd.ntmps28
  go_wp2_with fail
  have b0 := below_alloc2 w (.cells #[.int .u64 0, .int .u64 0, .int .u64 0, .int .u64 0] 24) (.cells #[.int .u64 0, .int .u64 0, .int .u64 0, .int .u64 0] 24)
  have ha : ArrIn 24 w.heap.size (.int .u64 0) (.int .u64 0) (.int .u64 0) (.int .u64 0) ((w.alloc (.cells #[.int .u64 0, .int .u64 0, .int .u64 0, .int .u64 0] 24)).alloc (.cells #[.int .u64 0, .int .u64 0, .int .u64 0, .int .u64 0] 24)) := (ArrIn.new _ _ _ _ _ _).alloc _
  have hb : SetIn 24 (w.heap.size + 1) 0 ((w.alloc (.cells #[.int .u64 0, .int .u64 0, .int .u64 0, .int .u64 0] 24)).alloc (.cells #[.int .u64 0, .int .u64 0, .int .u64 0, .int .u64 0] 24)) := heap_alloc2_new w _ _
  generalize (w.alloc (.cells #[.int .u64 0, .int .u64 0, .int .u64 0, .int .u64 0] 24)).alloc (.cells #[.int .u64 0, .int .u64 0, .int .u64 0, .int .u64 0] 24) = W at *
  have B0 := Lib.hid b0
  have HA := Lib.hid ha
  have HB := Lib.hid hb
  clear b0 ha hb
  go_loopw [4] (fun q wr => ∃ (k N : Nat), q = .int .i64 (k : Int) ∧ k ≤ L.length ∧ N = addAll 0 (L.take k) ∧ ArrIn 24 w.heap.size (.int .u64 0) (.int .u64 0) (.int .u64 0) (.int .u64 0) wr ∧ SetIn 24 (w.heap.size + 1) N wr ∧ Below w.heap.size w wr) (fun q _ => L.length - (intOf q).toNat)
  case atStart => exact ⟨0, 0, rfl, Nat.zero_le _, rfl, HA.out, HB.out, B0.out⟩
  case round =>
    clear HA HB B0
    obtain ⟨k, N, rfl, hk, hN, hA, hS, hbw⟩ := hrel
    have HN := Lib.hid hN
    have HA := Lib.hid hA
    have HS := Lib.hid hS
    have HW := Lib.hid hbw
    clear hN hA hS hbw
    by_cases hlt : k < L.length
    · obtain ⟨b1, off, rfl, hcell⟩ := (H.out.next HW.out).at k hlt
      obtain ⟨x, hx⟩ : ∃ x, x = L.getD k 0 := ⟨_, rfl⟩
      rw [← hx] at hcell
      have HN1 := Lib.hid (show addN N x = addAll 0 (L.take (k + 1)) by rw [addAll_step L k hlt, ← HN.out, hx])
      have HADD := Lib.hid (add_any N x)
      clear hx
      generalize addN N x = N1 at *
      have hc4 := HS.out.cells
      have hf4 := HS.out.frozens
      go_wp2_with fail
      go_region_with (first | (go_at_call 11; refine (HADD.out _).mono ?_; rintro e w1 ⟨rfl, b1w⟩; have hd1 := keep4 b1w hc4; have hf1 := keepf4 b1w hc4 hf4))
      all_goals
        have HA1 := Lib.hid ((ArrIn.next (w := wr.drew) HA.out b1w).set4_other (show w.heap.size ≠ w.heap.size + 1 by omega) (.int .u64 (wd N1 0 : Int)) (.int .u64 (wd N1 1 : Int)) (.int .u64 (wd N1 2 : Int)) (.int .u64 (wd N1 3 : Int)))
        have HS1 := Lib.hid ((ArrIn.next (w := wr.drew) HS.out b1w).set4 (.int .u64 (wd N1 0 : Int)) (.int .u64 (wd N1 1 : Int)) (.int .u64 (wd N1 2 : Int)) (.int .u64 (wd N1 3 : Int)))
        have HW1 := Lib.hid (below_set4 (below_then' HW.out.drew b1w HW.out.size) (show w.heap.size ≤ w.heap.size + 1 by omega) (.int .u64 (wd N1 0 : Int)) (.int .u64 (wd N1 1 : Int)) (.int .u64 (wd N1 2 : Int)) (.int .u64 (wd N1 3 : Int)))
        clear hd1 hf1 b1w
        try go_wp2_with fail
        exact ⟨⟨k + 1, N1, int_eq (by omega), by omega, HN1.out, HA1.out, HS1.out, HW1.out⟩, by simp [intOf]; omega⟩
    · have HV := Lib.hid (show N = addAll 0 L by rw [HN.out, List.take_of_length_le (by omega)])
      have hcs := HS.out.cells
      have hi : (Tryd.prog.info? 24).map (·.size) = some 4 := by kernel_rfl
      go_wp2_with (refine wpList_store_set rfl _ _ _ rfl 24 w.heap.size rfl _ _ _ _ rfl _ _ _ _ HA.out hi ?_)
      refine bodyPost_ret (res_in rfl _ _ _ w.heap.size _ _ _ _ rfl (HA.out.set _ _ _ _)) rfl ?_
      exact ⟨by rw [← HV.out], below_setRow HW.out (Nat.le_refl _) _⟩
end Go.Proofs.YtidkakcnhgfpoaaDoor
