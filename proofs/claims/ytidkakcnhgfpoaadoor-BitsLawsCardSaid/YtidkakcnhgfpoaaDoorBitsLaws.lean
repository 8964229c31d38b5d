/- BitsLaws: the walk. -/
import Derived.Test.YtidkakcnhgfpoaaDoorBitsLawsR
import Derived.Deep.RegionWith
namespace Go.Proofs.YtidkakcnhgfpoaaDoor
open Go.RowKit Go.Shelf
set_option linter.unusedVariables false
set_option maxRecDepth 100000

set_option maxHeartbeats 4000000 in
theorem laws_any (N : Nat) (hN : fits N) (M : Nat) (hM : fits M) (w : World) (hT : TabAt 0 Lib.deBruijn64tab w) (hw : 0 < w.heap.size) :
    Calls Tryd.prog 6 #[sv N, sv M] w fun e w' => e = .returned (.bool true) ∧ Below w.heap.size w w' := by
  have HT := Lib.hid hT
  have HRR := Lib.hid (fun b5 b6 b7 => laws_rows N M b5 b6 b7 hN hM w)
  clear hT
  go_enter Tryd.func6, Tryd.ntmps6
  have hb0 := below_alloc2 w (so 23 N) (so 23 M)
  have hx := box_first N M w (so 23 0) (so 23 0)
  have HB0 := Lib.hid hb0
  have HWK := Lib.hid (works_any ((w.alloc (so 23 N)).alloc (so 23 M)) (tab_next HT.out hb0) (Nat.lt_of_lt_of_le hw hb0.size))
  clear hb0 hx
  go_wp2_with fail
  refine HWK.out.mono ?_
  rintro e w1 ⟨rfl, b1⟩
  have HB1 := Lib.hid (below_then' HB0.out b1 HB0.out.size)
  have hn := (ArrIn.new 23 (.int .u64 (wd N 0 : Int)) (.int .u64 (wd N 1 : Int)) (.int .u64 (wd N 2 : Int)) (.int .u64 (wd N 3 : Int)) w).alloc (so 23 M)
  have hm := ArrIn.new 23 (.int .u64 (wd M 0 : Int)) (.int .u64 (wd M 1 : Int)) (.int .u64 (wd M 2 : Int)) (.int .u64 (wd M 3 : Int)) (w.alloc (so 23 N))
  rw [show (w.alloc (so 23 N)).heap.size = w.heap.size + 1 by simp] at hm
  have hn1 := hn.next b1
  have hm1 := hm.next b1
  clear hn hm b1 HWK
  have cn1 := hn1.cells
  have cn2 := (hn1.alloc (.cells #[.int .u64 0, .int .u64 0, .int .u64 0, .int .u64 0] 24)).cells
  have cn3 := ((hn1.alloc (.cells #[.int .u64 0, .int .u64 0, .int .u64 0, .int .u64 0] 24)).alloc (.cells #[.int .u64 0, .int .u64 0, .int .u64 0, .int .u64 0] 24)).cells
  have cn4 := ((hn1.alloc (so 24 M)).alloc (.cells #[.int .u64 0, .int .u64 0, .int .u64 0, .int .u64 0] 24)).cells
  have cn5 := ((hn1.alloc (.cells #[.int .u64 0, .int .u64 0, .int .u64 0, .int .u64 0] 24)).alloc (so 24 M)).cells
  have cm1 := hm1.cells
  have cm2 := (hm1.alloc (.cells #[.int .u64 0, .int .u64 0, .int .u64 0, .int .u64 0] 24)).cells
  have cm3 := ((hm1.alloc (.cells #[.int .u64 0, .int .u64 0, .int .u64 0, .int .u64 0] 24)).alloc (.cells #[.int .u64 0, .int .u64 0, .int .u64 0, .int .u64 0] 24)).cells
  have cm4 := ((hm1.alloc (so 24 N)).alloc (.cells #[.int .u64 0, .int .u64 0, .int .u64 0, .int .u64 0] 24)).cells
  have cm5 := ((hm1.alloc (.cells #[.int .u64 0, .int .u64 0, .int .u64 0, .int .u64 0] 24)).alloc (so 24 N)).cells
  go_wp2_with fail
  rename_i K1 hK1
  have TAIL : ∀ (x2 x3 : Value) (b5 b6 : Nat) (W2 : World), Inv2 w b5 b6 N M W2 → K1 { tmps := #[sv N, sv M, x2, x3, .bool false, .pointer (some ⟨b5, 0, none⟩), .pointer (some ⟨b6, 0, none⟩), undef, .bool true, .bool false, sv N, sv M, undef, undef, undef, undef, undef, undef, undef, undef, undef, undef, undef, undef, undef, undef, undef, undef, undef, undef, undef, undef, undef, undef, undef, undef, undef, undef, undef, undef, undef, undef, undef, undef, undef, undef, undef, undef, undef, undef, undef, undef, undef, undef, undef, undef, undef, undef, undef, undef, undef, undef, undef, undef, undef, undef, undef, undef, undef, undef, undef, undef, undef, undef, undef, undef, undef, undef, undef, undef, undef, undef, undef, undef, undef, undef, undef], defers := [] } W2 := by
    clear cn1 cn2 cn3 cn4 cn5 cm1 cm2 cm3 cm4 cm5 hn1 hm1
    intro x2 x3 b5 b6 W2 h7
    have H := Lib.hid h7
    have HJ := Lib.hid (or_any N M)
    have c5 := h7.1.cells
    have c6 := h7.2.1.cells
    clear h7
    refine hK1 _ _ ?_
    go_wp2_with (go_at_call 24; refine (HJ.out _).mono ?_; rintro e w3 ⟨rfl, b3⟩)
    have H3 := Lib.hid (show Inv2 w b5 b6 N M (w3.alloc (so 24 (N ||| M))).drew ∧ SetIn 24 w3.heap.size (N ||| M) (w3.alloc (so 24 (N ||| M))).drew from ⟨((H.out.next b3).next (below_alloc1 _ _)).drew, ArrIn.new _ _ _ _ _ w3⟩)
    clear b3
    rename_i K2 hK2
    refine region_inv (ops := laOps) (n := 87) (tab := laTab N M b5 b6 w3.heap.size w) (base := laBase N M b5 b6 w3.heap.size w) (H := fun W => Inv2 w b5 b6 N M W ∧ SetIn 24 w3.heap.size (N ||| M) W) (by kernel_rfl) (earlier_of (by kernel_rfl)) ?start (fun l a w' k h hk hd => laStep (HRR.out _ _ _) l a w' k h hk hd) ?fin
    case start =>
      refine At.begins rfl rfl H3.out fun s v hs => ?_
      unfold laBase at hs
      split at hs
      · rename_i e; subst e; cases hs; rfl
      · split at hs
        · rename_i e; subst e; cases hs; rfl
        · split at hs
          · rename_i e; subst e; cases hs; rfl
          · cases hs
    case fin =>
      intro l a w' h hall
      have h0 : a.tmps.getD 4 undef = .bool true := h.done 72 4 (hall 72 (by rw [laSize]; omega)) (by kernel_rfl)
      have hdf := h.defers
      have HI := Lib.hid h.hold
      clear h hall
      refine hK2 a w' ?_
      go_wp2_with fail
      refine bodyPost_ret (results_tmp rfl _ _ _) hdf ?_
      exact ⟨by rw [h0], HI.out.1.2.2.2.2.2⟩
  clear hK1
  go_region
  · exact TAIL _ _ w1.heap.size (w1.heap.size + 1) _ (Inv2.first (N := N) (M := M) HB1.out HT.out hw).drew
  · exact TAIL _ _ (w1.heap.size + 1) w1.heap.size _ (Inv2.second (N := N) (M := M) HB1.out HT.out hw).drew
end Go.Proofs.YtidkakcnhgfpoaaDoor
