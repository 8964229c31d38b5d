/- BitsJoin: the walk. -/
import Derived.Test.YtidkakcnhgfpoaaDoorBitsJoinR
import Derived.Deep.RegionWith
namespace Go.Proofs.YtidkakcnhgfpoaaDoor
open Go.RowKit Go.Shelf
set_option linter.unusedVariables false
set_option maxRecDepth 100000

set_option maxHeartbeats 4000000 in
theorem join_any (N : Nat) (hN : fits N) (M : Nat) (hM : fits M) (w : World) (hT : TabAt 0 Lib.deBruijn64tab w) (hw : 0 < w.heap.size) :
    Calls Tryd.prog 4 #[sv N, sv M] w fun e w' => e = .returned (.bool true) ∧ Below w.heap.size w w' := by
  have HT := Lib.hid hT
  have HR := Lib.hid (show jnRows N M 0 0 none none 0 0 w from ⟨hM, fits_and hN, fits_or hN hM, fits_less hN⟩)
  clear hT
  go_enter Tryd.func4, Tryd.ntmps4
  go_wp2_with fail
  have hb0 := below_alloc2 w (so 23 N) (so 23 M)
  have HB0 := Lib.hid hb0
  clear hb0
  rename_i Q1 K1 hK1
  have TAIL : ∀ (b2 b3 b5 b6 : Nat) (act : Act) (W2 : World), act.tmps.size = 46 → act.defers = [] → act.tmps.getD 2 undef = .pointer (some ⟨b2, 0, none⟩) → act.tmps.getD 3 undef = .pointer (some ⟨b3, 0, none⟩) → act.tmps.getD 5 undef = .pointer (some ⟨b5, 0, none⟩) → act.tmps.getD 6 undef = .pointer (some ⟨b6, 0, none⟩) →
      Inv2 w b5 b6 N M W2 → ArrIn 23 b2 (.int .u64 (wd N 0 : Int)) (.int .u64 (wd N 1 : Int)) (.int .u64 (wd N 2 : Int)) (.int .u64 (wd N 3 : Int)) W2 → ArrIn 23 b3 (.int .u64 (wd M 0 : Int)) (.int .u64 (wd M 1 : Int)) (.int .u64 (wd M 2 : Int)) (.int .u64 (wd M 3 : Int)) W2 → K1 act W2 := by
    intro b2 b3 b5 b6 act W2 h1 h2 h3 h4 h5 h6 h7 h8 h9
    have H := Lib.hid (And.intro h7.drew (And.intro (show ArrIn 23 b2 (.int .u64 (wd N 0 : Int)) (.int .u64 (wd N 1 : Int)) (.int .u64 (wd N 2 : Int)) (.int .u64 (wd N 3 : Int)) W2.drew from h8) (show ArrIn 23 b3 (.int .u64 (wd M 0 : Int)) (.int .u64 (wd M 1 : Int)) (.int .u64 (wd M 2 : Int)) (.int .u64 (wd M 3 : Int)) W2.drew from h9)))
    clear h7 h8 h9
    refine hK1 _ _ ?_
    refine wp_seq ?_
    refine region_inv (ops := joOps) (n := 46) (tab := joTab N M b2 b3 b5 b6 w) (base := joBase N M b2 b3 b5 b6 w) (H := fun W => Inv2 w b5 b6 N M W ∧ ArrIn 23 b2 (.int .u64 (wd N 0 : Int)) (.int .u64 (wd N 1 : Int)) (.int .u64 (wd N 2 : Int)) (.int .u64 (wd N 3 : Int)) W ∧ ArrIn 23 b3 (.int .u64 (wd M 0 : Int)) (.int .u64 (wd M 1 : Int)) (.int .u64 (wd M 2 : Int)) (.int .u64 (wd M 3 : Int)) W) (by kernel_rfl) (earlier_of (by kernel_rfl)) ?start (fun l a w' k h hk hd => joStep ⟨trivial⟩ l a w' k h hk hd) ?fin
    case start =>
      refine At.begins h1 h2 H.out fun s v hs => ?_
      unfold joBase at hs
      split at hs
      · rename_i e; subst e; cases hs; exact h3
      · split at hs
        · rename_i e; subst e; cases hs; exact h4
        · split at hs
          · rename_i e; subst e; cases hs; exact h5
          · split at hs
            · rename_i e; subst e; cases hs; exact h6
            · cases hs
    case fin =>
      intro l a w' h hall
      obtain ⟨a7, c7, e7, i7⟩ := h.done 4 7 (hall 4 (by rw [joSize]; omega)) (by kernel_rfl)
      obtain ⟨a8, c8, e8, i8⟩ := h.done 5 8 (hall 5 (by rw [joSize]; omega)) (by kernel_rfl)
      have e5 := h.fixed 5 _ rfl
      have e6 := h.fixed 6 _ rfl
      have hdf := h.defers
      have hsz := h.tmps
      have H3 := Lib.hid (And.intro h.hold.1 (And.intro i7 i8))
      clear h hall i7 i8
      show Code.wp _ _ _ a w'
      refine wp_seq ?_
      refine region_seq (ops := jnOps) (n := 46) (tab := jnTab N M b5 b6 a7 a8 c7 c8 w) (base := jnBase N M b5 b6 a7 a8 c7 c8 w) (H := fun W => Inv2 w b5 b6 N M W ∧ IsL W a7 c7 (plcI N) ∧ IsL W a8 c8 (plcI M)) (earlier_of (by kernel_rfl)) ?start (fun l a w' k h hk hd => jnStep ⟨HR.out.hM, HR.out.fa, HR.out.fo, HR.out.fl⟩ l a w' k h hk hd) ?fin
      case start =>
        refine At.begins hsz hdf H3.out fun s v hs => ?_
        unfold jnBase at hs
        split at hs
        · rename_i e; subst e; cases hs; exact e5
        · split at hs
          · rename_i e; subst e; cases hs; exact e6
          · split at hs
            · rename_i e; subst e; cases hs; exact e7
            · split at hs
              · rename_i e; subst e; cases hs; exact e8
              · cases hs
      case fin =>
        intro l a w' h hall
        have h0 : a.tmps.getD 4 undef = .bool true := h.done 31 4 (hall 31 (by rw [jnSize]; omega)) (by kernel_rfl)
        have hdf := h.defers
        have HI := Lib.hid h.hold
        clear h hall
        show Code.wp _ _ _ a w'
        go_wp2_with fail
        refine bodyPost_ret (results_tmp rfl _ _ _) hdf ?_
        exact ⟨by rw [h0], HI.out.1.2.2.2.2.2⟩
  clear hK1
  go_region
  · exact TAIL w.heap.size (w.heap.size + 1) (w.heap.size + 1 + 1) (w.heap.size + 1 + 1 + 1) _ _ rfl rfl rfl rfl rfl rfl ((by simpa using Inv2.first (N := N) (M := M) HB0.out HT.out hw : Inv2 w (w.heap.size + 1 + 1) (w.heap.size + 1 + 1 + 1) N M _).drew) (box_first N M w _ _) (box_second N M w _ _)
  · exact TAIL w.heap.size (w.heap.size + 1) (w.heap.size + 1 + 1 + 1) (w.heap.size + 1 + 1) _ _ rfl rfl rfl rfl rfl rfl ((by simpa using Inv2.second (N := N) (M := M) HB0.out HT.out hw : Inv2 w (w.heap.size + 1 + 1 + 1) (w.heap.size + 1 + 1) N M _).drew) (box_first N M w _ _) (box_second N M w _ _)
end Go.Proofs.YtidkakcnhgfpoaaDoor
