/- BitsKnown: the walk. -/
import Derived.Test.YtidkakcnhgfpoaaDoorBitsKa
import Derived.Deep.RegionWith
namespace Go.Proofs.YtidkakcnhgfpoaaDoor
open Go.RowKit Go.Shelf
set_option linter.unusedVariables false
set_option maxRecDepth 100000

theorem so_none : so 24 0 = .cells #[.int .u64 0, .int .u64 0, .int .u64 0, .int .u64 0] 24 := by kernel_rfl
/-- The second block is written anew. -/
theorem Inv2.put {w0 W : World} {b c N M : Nat} (h : Inv2 w0 b c N M W) (hb : w0.heap.size ≤ c) (h0 : 0 < w0.heap.size) (hne : b ≠ c) (R : Nat) :
    Inv2 w0 b c N R ((((W.setCell ⟨c, 0, none⟩ (.int .u64 (wd R 0 : Int))).setCell ⟨c, 1, none⟩ (.int .u64 (wd R 1 : Int))).setCell ⟨c, 2, none⟩ (.int .u64 (wd R 2 : Int))).setCell ⟨c, 3, none⟩ (.int .u64 (wd R 3 : Int))) := by
  have h2 := below_set4 h.2.2.2.2.2 hb (.int .u64 (wd R 0 : Int)) (.int .u64 (wd R 1 : Int)) (.int .u64 (wd R 2 : Int)) (.int .u64 (wd R 3 : Int))
  have keep : ∀ (V : World) (i : Nat) (u : Value) (j : Nat), (V.setCell ⟨c, i, none⟩ u).cell? ⟨0, j, none⟩ = V.cell? ⟨0, j, none⟩ := fun V i u j => World.cell?_of_block (Below.heap_setCell V ⟨c, i, none⟩ u 0 (by show 0 ≠ c; omega))
  refine ⟨ArrIn.set4_other h.1 hne _ _ _ _, ArrIn.set4 h.2.1 _ _ _ _, fun j hj => ?_, Nat.lt_of_lt_of_le h0 h2.size, h2.size, h2⟩
  rw [keep, keep, keep, keep]
  exact h.2.2.1 j hj
set_option maxHeartbeats 4000000 in
theorem known_any (w : World) (hT : TabAt 0 Lib.deBruijn64tab w) (hw : 0 < w.heap.size) :
    Calls Tryd.prog 7 #[] w fun e w' => e = .returned (.bool true) ∧ Below w.heap.size w w' := by
  have hs := Inv2.first (N := 0) (M := 0) (Below.refl w.heap.size w) hT hw
  rw [so_none] at hs
  have HS := Lib.hid hs
  have HRR := Lib.hid (fun b1 b2 => @round_rows b1 b2)
  have HEE := Lib.hid (fun b1 b2 => end_rows b1 b2 w)
  have HA := Lib.hid add_any
  clear hs hT
  have HF0 := Lib.hid fill_begin
  have HF1 := Lib.hid fill_end
  have HF2 := Lib.hid fill_step
  generalize fill = fl at *
  generalize full = A at *
  go_enter Tryd.func7, Tryd.ntmps7
  go_wp2_with fail
  generalize (w.alloc (.cells #[.int .u64 0, .int .u64 0, .int .u64 0, .int .u64 0] 24)).alloc (.cells #[.int .u64 0, .int .u64 0, .int .u64 0, .int .u64 0] 24) = W at *
  go_loopw [3] (fun q wr => ∃ i : Int, q = .int .i64 i ∧ -3 ≤ i ∧ i ≤ 300 ∧ Inv2 w w.heap.size (w.heap.size + 1) 0 (fl i) wr) (fun q _ => (300 - intOf q).toNat)
  case atStart => exact ⟨-3, rfl, by omega, by omega, by rw [HF0.out]; exact HS.out⟩
  case round =>
    clear HS
    obtain ⟨i, rfl, hi1, hi2, hI⟩ := hrel
    have HI := Lib.hid hI
    have c1 := hI.1.cells
    have c2 := hI.2.1.cells
    clear hI
    by_cases hlt : i < 300
    · go_wp2_with (go_at_call 11; refine (HA.out _ _ _).mono ?_; rintro e w3 ⟨rfl, b3⟩; have h3 := HI.out.next b3; have c3 := h3.2.1.cells; have f3 := h3.2.1.frozens)
      refine ⟨⟨i + 1, int_eq (by omega), by omega, by omega, ?_⟩, by simp [intOf]; omega⟩
      rw [← HF2.out]
      exact h3.put (by omega) hw (by omega) _
    · obtain rfl : i = 300 := by omega
      have HE := Lib.hid (show Inv2 w w.heap.size (w.heap.size + 1) 0 A wr by rw [← HF1.out]; exact HI.out)
      clear HI c1 c2 HF0 HF1 HF2 HA
      go_wp2_with fail
      clear hlt hi1 hi2
      go_loopw [4] (fun q wq => ∃ i : Int, q = .int .i64 i ∧ 0 ≤ i ∧ i ≤ 256 ∧ Inv2 w w.heap.size (w.heap.size + 1) 0 A wq) (fun q _ => (256 - intOf q).toNat)
      case atStart => exact ⟨0, rfl, by omega, by omega, HE.out⟩
      case round =>
        clear HE
        obtain ⟨i, rfl, hi1, hi2, hI⟩ := hrel
        have HI := Lib.hid hI
        clear hI
        by_cases hlt : i < 256
        · go_wp2_with fail
          rename_i K2 hK2
          have HD := Lib.hid (HI.out.drew)
          obtain ⟨t, ht⟩ : ∃ t : Nat → Value, t = fun s => (#[u0, .pointer (some ⟨w.heap.size, 0, none⟩), .pointer (some ⟨w.heap.size + 1, 0, none⟩), .int .i64 300, .int .i64 i, .int .i64 300, .bool false, u7, u8, u9, u10, u11, .int .i64 i, .bool true, u14, u15, u16, u17, u18, u19, u20, u21, u22, u23, u24, u25, u26, u27, u28, u29, u30, u31, u32, u33, u34, u35, u36, u37, u38, u39, u40, u41, u42, u43, u44, u45, u46, u47, u48, u49, u50, u51, u52, u53, u54, undef, undef, undef, undef, undef, undef, undef, undef, undef, undef, undef, undef, undef, undef, undef, undef, undef, undef, undef, undef, undef, undef, undef, undef, undef, undef, undef, undef, undef, undef, undef, undef, undef, undef, undef, undef, undef, undef, undef, undef, undef, undef, undef, undef, undef, undef, undef, undef, undef, undef, undef, undef, undef, undef, undef, undef, undef, undef, undef] : Array Value).getD s undef := ⟨_, rfl⟩
          have HR := Lib.hid (HRR.out w.heap.size (w.heap.size + 1) i hi1 hlt w t (by rw [ht]; rfl) (by rw [ht]; rfl) (by rw [ht]; rfl))
          refine region_inv (ops := krOps) (n := 114) (tab := krTab A w.heap.size (w.heap.size + 1) i w t) (base := krBase A w.heap.size (w.heap.size + 1) i w t) (H := fun W => Inv2 w w.heap.size (w.heap.size + 1) 0 A W) (by kernel_rfl) (earlier_of (by kernel_rfl)) ?start (fun l a w' k h hk hd => krStep HR.out l a w' k h hk hd) ?fin
          case start =>
            refine At.begins rfl rfl HD.out fun s v hs => ?_
            unfold krBase at hs
            split at hs
            · cases hs; rw [ht]
            · cases hs
          case fin =>
            intro l a w' h hall
            obtain ⟨tm, df⟩ := a
            have h54 : tm.getD 54 undef = .bool false := h.done 38 54 (hall 38 (by rw [krSize]; omega)) (by kernel_rfl)
            have hdf : df = [] := h.defers
            have hsz : tm.size = 114 := h.tmps
            have hfx : ∀ s, krFree.contains s = true → tm.getD s undef = t s := fun s hs => h.fixed s (t s) (by unfold krBase; rw [if_pos hs])
            have HJ := Lib.hid h.hold
            clear h hall
            obtain ⟨v, hv⟩ : ∃ v : Nat → Value, ∀ s, tm.getD s undef = v s := ⟨_, fun _ => rfl⟩
            have e := slots_free tm 114 hsz krFree t v hfx hv
            rw [hv] at h54
            clear hfx hv hsz
            subst ht
            have e2 : tm = #[u0, .pointer (some ⟨w.heap.size, 0, none⟩), .pointer (some ⟨w.heap.size + 1, 0, none⟩), .int .i64 300, .int .i64 i, .int .i64 300, .bool false, u7, u8, u9, u10, u11, .int .i64 i, .bool true, u14, u15, v 16, v 17, v 18, v 19, v 20, v 21, v 22, v 23, v 24, v 25, v 26, v 27, v 28, v 29, v 30, v 31, v 32, v 33, v 34, v 35, v 36, v 37, v 38, v 39, v 40, v 41, v 42, v 43, v 44, v 45, v 46, v 47, v 48, v 49, v 50, v 51, v 52, v 53, v 54, undef, undef, undef, undef, undef, undef, undef, undef, undef, undef, undef, undef, undef, undef, undef, undef, undef, undef, undef, undef, undef, undef, undef, undef, undef, undef, undef, undef, undef, undef, undef, undef, undef, undef, undef, undef, undef, undef, undef, undef, undef, undef, undef, undef, undef, undef, undef, undef, undef, undef, undef, undef, undef, undef, undef, undef, undef, undef, undef] := e.trans (by kernel_rfl)
            rw [h54] at e2
            subst e2 hdf
            clear e HR
            refine hK2 _ _ ?_
            go_wp2_with fail
            exact ⟨⟨i + 1, rfl, by omega, by omega, HJ.out⟩, by simp [intOf]; omega⟩
        · go_wp2_with fail
          rename_i K2 hK2
          have HD := Lib.hid (HI.out.drew)
          refine region_inv (ops := keOps) (n := 114) (tab := keTab A w.heap.size (w.heap.size + 1) w) (base := keBase A w.heap.size (w.heap.size + 1) w) (H := fun W => Inv2 w w.heap.size (w.heap.size + 1) 0 A W) (by kernel_rfl) (earlier_of (by kernel_rfl)) ?start (fun l a w' k h hk hd => keStep (HEE.out _ _) l a w' k h hk hd) ?fin
          case start =>
            refine At.begins rfl rfl HD.out fun s v hs => ?_
            unfold keBase at hs
            split at hs
            · rename_i e; subst e; cases hs; rfl
            · split at hs
              · rename_i e; subst e; cases hs; rfl
              · cases hs
          case fin =>
            intro l a w' h hall
            have h0 : a.tmps.getD 0 undef = .bool true := h.done 59 0 (hall 59 (by rw [keSize]; omega)) (by kernel_rfl)
            have hdf := h.defers
            have HJ := Lib.hid h.hold
            clear h hall
            refine hK2 a w' ?_
            go_wp2_with fail
            refine bodyPost_ret (results_tmp rfl _ _ _) hdf ?_
            exact ⟨by rw [h0], HJ.out.2.2.2.2.2⟩
end Go.Proofs.YtidkakcnhgfpoaaDoor
