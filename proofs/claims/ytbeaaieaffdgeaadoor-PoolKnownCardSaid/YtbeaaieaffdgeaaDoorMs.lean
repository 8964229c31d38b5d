/- PoolKnown: the walk. -/
import Derived.Test.YtbeaaieaffdgeaaDoorMr
import Derived.Deep.CutRange
import Derived.Deep.RegionWith
namespace Go.Proofs.YtbeaaieaffdgeaaDoor
open Go.RowKit
set_option linter.unusedVariables false
set_option linter.unusedSimpArgs false

theorem five_blks (w : World) (o1 o2 o3 o4 o5 : Obj) : ((((((w.alloc o1).alloc o2).alloc o3).alloc o4).alloc o5).heap[w.heap.size]? = some o1 ∧ (((((w.alloc o1).alloc o2).alloc o3).alloc o4).alloc o5).heap[w.heap.size + 1]? = some o2 ∧ (((((w.alloc o1).alloc o2).alloc o3).alloc o4).alloc o5).heap[w.heap.size + 1 + 1]? = some o3 ∧ (((((w.alloc o1).alloc o2).alloc o3).alloc o4).alloc o5).heap[w.heap.size + 1 + 1 + 1]? = some o4 ∧ (((((w.alloc o1).alloc o2).alloc o3).alloc o4).alloc o5).heap[w.heap.size + 1 + 1 + 1 + 1]? = some o5) ∧ Below w.heap.size w (((((w.alloc o1).alloc o2).alloc o3).alloc o4).alloc o5) := by
  have s1 : (w.alloc o1).heap.size = w.heap.size + 1 := World.size_alloc _ _
  have s2 : ((w.alloc o1).alloc o2).heap.size = w.heap.size + 1 + 1 := by rw [World.size_alloc, s1]
  have s3 : (((w.alloc o1).alloc o2).alloc o3).heap.size = w.heap.size + 1 + 1 + 1 := by rw [World.size_alloc, s2]
  have s4 : ((((w.alloc o1).alloc o2).alloc o3).alloc o4).heap.size = w.heap.size + 1 + 1 + 1 + 1 := by rw [World.size_alloc, s3]
  have e1 := heap_alloc_new w o1
  have e2 := heap_alloc_new (w.alloc o1) o2
  have e3 := heap_alloc_new ((w.alloc o1).alloc o2) o3
  have e4 := heap_alloc_new (((w.alloc o1).alloc o2).alloc o3) o4
  have e5 := heap_alloc_new ((((w.alloc o1).alloc o2).alloc o3).alloc o4) o5
  rw [s1] at e2
  rw [s2] at e3
  rw [s3] at e4
  rw [s4] at e5
  refine ⟨⟨?_, ?_, ?_, ?_, e5⟩, ?_⟩
  · exact (heap_alloc_old _ _ (by rw [s4]; omega)).trans ((heap_alloc_old _ _ (by rw [s3]; omega)).trans ((heap_alloc_old _ _ (by rw [s2]; omega)).trans ((heap_alloc_old _ _ (by rw [s1]; omega)).trans e1)))
  · exact (heap_alloc_old _ _ (by rw [s4]; omega)).trans ((heap_alloc_old _ _ (by rw [s3]; omega)).trans ((heap_alloc_old _ _ (by rw [s2]; omega)).trans e2))
  · exact (heap_alloc_old _ _ (by rw [s4]; omega)).trans ((heap_alloc_old _ _ (by rw [s3]; omega)).trans e3)
  · exact (heap_alloc_old _ _ (by rw [s4]; omega)).trans e4
  · have h1 := below_alloc1 w o1
    have h2 := below_then' h1 (below_alloc1 (w.alloc o1) o2) h1.size
    have h3 := below_then' h2 (below_alloc1 ((w.alloc o1).alloc o2) o3) h2.size
    have h4 := below_then' h3 (below_alloc1 (((w.alloc o1).alloc o2).alloc o3) o4) h3.size
    exact below_then' h4 (below_alloc1 ((((w.alloc o1).alloc o2).alloc o3).alloc o4) o5) h4.size
set_option maxRecDepth 100000 in
set_option maxHeartbeats 8000000 in
theorem walk_PoolKnown (w : World) (hT : Tabs w) : Calls Tryd.prog 5 #[] w fun e w' => e = .returned (.bool true) ∧ Below w.heap.size w w' := by
  have HTb := Lib.hid hT
  clear hT
  obtain ⟨⟨k1, k2, k3, k4, k5⟩, kb⟩ := five_blks w (.cells #[.string ⟨#[99, 117, 98]⟩, .int .i64 2, .int .i64 1, .int .i64 0, .int .i64 0, .int .i64 2, .int .i64 0, .int .i64 3, .int .i64 4, .int .i64 65, .slice none 0 0] 39)
    (.cells #[.int .i64 2] 3)
    (.cells #[.int .i64 1, .int .i64 (-2), .int .i64 0, .int .i64 21, .int .i64 0, .int .i64 1] 42)
    (.cells #[.int .i64 1, .int .i64 0, .int .i64 0, .int .i64 0, .int .i64 0, .int .i64 0, .int .i64 0, .bool false, .slice (some ⟨w.heap.size + 1, 0, none⟩) 1 1, .slice (some ⟨w.heap.size + 1 + 1, 0, none⟩) 2 2, .int .i64 0, .int .i64 0, .int .i64 0] 45)
    (.cells #[.string ⟨#[109, 97, 107, 101, 114]⟩, .int .i64 3, .int .i64 0, .int .i64 0, .int .i64 0, .int .i64 0, .int .i64 0, .int .i64 0, .int .i64 0, .int .i64 0, .slice (some ⟨w.heap.size + 1 + 1 + 1, 0, none⟩) 1 1] 39)
  have H1 := Lib.hid k1
  have H2 := Lib.hid k2
  have H3 := Lib.hid k3
  have H4 := Lib.hid k4
  have H5 := Lib.hid k5
  have HB0 := Lib.hid kb
  clear k1 k2 k3 k4 k5 kb
  go_enter Tryd.func5, Tryd.ntmps5
  go_upto_region 3 with fail
  generalize ((((w.alloc _).alloc _).alloc _).alloc _).alloc _ = W at *
  change Hid (BlkAt W _ _ _) at H1
  change Hid (BlkAt W _ _ _) at H2
  change Hid (BlkAt W _ _ _) at H3
  change Hid (BlkAt W _ _ _) at H4
  change Hid (BlkAt W _ _ _) at H5
  obtain ⟨⟨x0, x1, x2, x3, x4, x5, x6, x7, x8, x9, x10⟩, _⟩ := H1.out.cells11
  obtain ⟨⟨z0, z1, z2, z3, z4, z5, z6, z7, z8, z9, z10⟩, _⟩ := H5.out.cells11
  go_cut [3] from 22 to 25 (fun q W3 => ∃ g, q = .slice (some ⟨g, 0, none⟩) 3 3 ∧ BlkAt W3 g (cdRow (goodL (w.heap.size + 1) (w.heap.size + 1 + 1) (w.heap.size + 1 + 1 + 1))).toArray 39 ∧ Below W.heap.size W W3)
  case first =>
    go_region_with (go_at_call 12; refine (land_any _ _).mono ?_; rintro e w1 ⟨rfl, hb0⟩; have hb : Below W.heap.size W w1 := below_then' (show Below W.heap.size W W.drew from ⟨rfl, rfl, rfl, Nat.le_refl _, fun _ _ => rfl⟩) hb0 (Nat.le_refl _); clear hb0; obtain ⟨⟨x0', x1', x2', x3', x4', x5', x6', x7', x8', x9', x10'⟩, _⟩ := (H1.out.next hb).cells11; obtain ⟨⟨z0', z1', z2', z3', z4', z5', z6', z7', z8', z9', z10'⟩, _⟩ := (H5.out.next hb).cells11)
    all_goals
      rename World => w1
      have hb2 : Below W.heap.size W w1 := by assumption
      go_wp2_with fail
      go_meet
      exact ⟨w1.heap.size, rfl, heap_alloc_new w1 _, below_then' hb2 (below_alloc1 w1 _) hb2.size⟩
  case rest =>
    obtain ⟨g, rfl, hg, hb⟩ := hcut
    rename World => W3
    have HB3 := Lib.hid (below_then' HB0.out hb HB0.out.size)
    have HG := Lib.hid (show IsP W3 (some ⟨g, 0, none⟩) 3 (goodL (w.heap.size + 1) (w.heap.size + 1 + 1) (w.heap.size + 1 + 1 + 1)) from isP_row rfl (fun p hp => by
      simp only [List.mem_cons, List.not_mem_nil, or_false] at hp
      rcases hp with rfl | rfl | rfl
      · exact land_cdr _ _
      · exact ⟨rfl, IsA.nil _⟩
      · exact maker_r (H2.out.next hb) (H3.out.next hb) (H4.out.next hb)) (blk_row hg (by omega)))
    have H1 := Lib.hid (H1.out.next hb)
    have H5 := Lib.hid (H5.out.next hb)
    clear hb hg x0 x1 x2 x3 x4 x5 x6 x7 x8 x9 x10 z0 z1 z2 z3 z4 z5 z6 z7 z8 z9 z10 H2 H3 H4 HB0
    go_wp2_with fail
    refine (encode_any _ 3 (goodL (w.heap.size + 1) (w.heap.size + 1 + 1) (w.heap.size + 1 + 1 + 1)) 3 rfl 0 (chk_good _ _ _) wantS (enc_good _ _ _) (good_pcd _ _ _) (good_64 _ _ _) _ HG.out (HTb.out.next HB3.out)).mono ?_
    rintro e w4 ⟨rfl, hb⟩
    have HB4 := Lib.hid (below_then' HB3.out hb HB3.out.size)
    have HG4 := Lib.hid (HG.out.next hb)
    have H1 := Lib.hid (H1.out.next hb)
    have H5 := Lib.hid (H5.out.next hb)
    clear hb HB3 HG
    go_wp2_with fail
    refine (decode_any wantS (by decide) _ (HTb.out.next HB4.out)).mono ?_
    intro e w5 hd
    have hwS : wantS = poolB (goodL (w.heap.size + 1) (w.heap.size + 1 + 1) (w.heap.size + 1 + 1 + 1)) ByteArray.empty := by rw [← enc_good, encS_good (chk_good _ _ _)]
    rw [hwS] at hd
    obtain ⟨hb, M2, a5, c5, hm2, rfl, hI5, hP5⟩ := dec_good hd (chk_good _ _ _) (good_64 _ _ _) HG4.out.2.2.1
    have hl2 : M2.length = 3 := by simpa using congrArg List.length hm2
    have HB5 := Lib.hid (below_then' HB4.out hb HB4.out.size)
    have HG5 := Lib.hid (HG4.out.next hb)
    have HI5 := Lib.hid hI5
    have HM2 := Lib.hid hm2
    have HL2 := Lib.hid hl2
    have H1 := Lib.hid (H1.out.next hb)
    have H5 := Lib.hid (H5.out.next hb)
    rw [hl2]
    clear hwS hd hb hI5 hm2 hl2 hP5 HB4 HG4
    have hc5 := ((H5.out.next (below_alloc1 w5 (.cells #[.int .i64 21, .int .i64 3, .int .i64 0] 42))).next (below_alloc1 _ (.cells #[.int .i64 1, .int .i64 0, .int .i64 0, .int .i64 0, .int .i64 0, .int .i64 0, .int .i64 0, .bool false, .slice none 0 0, .slice (some ⟨w5.heap.size, 0, none⟩) 1 1, .int .i64 0, .int .i64 0, .int .i64 0] 45)))
    have hc10 := hc5.cell 10
    have hf10 := hc5.free 10
    simp at hc10
    go_upto_region 8 with fail
    have hba := (below_alloc2 w5 (.cells #[.int .i64 21, .int .i64 3, .int .i64 0] 42) (.cells #[.int .i64 1, .int .i64 0, .int .i64 0, .int .i64 0, .int .i64 0, .int .i64 0, .int .i64 0, .bool false, .slice none 0 0, .slice (some ⟨w5.heap.size, 0, none⟩) 1 1, .int .i64 0, .int .i64 0, .int .i64 0] 45))
    have hsz5 : w.heap.size + 1 + 1 + 1 + 1 < w5.heap.size := H5.out.lt
    have hbut := but_set ((w5.alloc (.cells #[.int .i64 21, .int .i64 3, .int .i64 0] 42)).alloc (.cells #[.int .i64 1, .int .i64 0, .int .i64 0, .int .i64 0, .int .i64 0, .int .i64 0, .int .i64 0, .bool false, .slice none 0 0, .slice (some ⟨w5.heap.size, 0, none⟩) 1 1, .int .i64 0, .int .i64 0, .int .i64 0] 45)) (w.heap.size + 1 + 1 + 1 + 1) 10 (.slice (some ⟨w5.heap.size + 1, 0, none⟩) 1 1)
    have HG6 := Lib.hid (kept_good (HG5.out.next hba) rfl (fun x h => by cases h) hc5 hbut)
    have HI6 := Lib.hid (kept_good (HI5.out.next hba) HM2.out (fun x h => by cases h) hc5 hbut)
    have HB6 := Lib.hid ((below_then' HB5.out hba HB5.out.size).setCell (p := ⟨w.heap.size + 1 + 1 + 1 + 1, 10, none⟩) (by show w.heap.size ≤ w.heap.size + 1 + 1 + 1 + 1; omega) (.slice (some ⟨w5.heap.size + 1, 0, none⟩) 1 1))
    have k5 := hc5.set' 10 (.slice (some ⟨w5.heap.size + 1, 0, none⟩) 1 1)
    have k1 : BlkAt _ _ _ _ := (Below.heap_setCell _ ⟨w.heap.size + 1 + 1 + 1 + 1, 10, none⟩ (.slice (some ⟨w5.heap.size + 1, 0, none⟩) 1 1) w.heap.size (by show w.heap.size ≠ w.heap.size + 1 + 1 + 1 + 1; omega)).trans (H1.out.next hba)
    have k6 : BlkAt _ _ _ _ := (Below.heap_setCell _ ⟨w.heap.size + 1 + 1 + 1 + 1, 10, none⟩ (.slice (some ⟨w5.heap.size + 1, 0, none⟩) 1 1) w5.heap.size (by show w5.heap.size ≠ w.heap.size + 1 + 1 + 1 + 1; omega)).trans (blkAt_one w5 #[.int .i64 21, .int .i64 3, .int .i64 0] 42 (.cells #[.int .i64 1, .int .i64 0, .int .i64 0, .int .i64 0, .int .i64 0, .int .i64 0, .int .i64 0, .bool false, .slice none 0 0, .slice (some ⟨w5.heap.size, 0, none⟩) 1 1, .int .i64 0, .int .i64 0, .int .i64 0] 45))
    have k7 : BlkAt _ _ _ _ := (Below.heap_setCell _ ⟨w.heap.size + 1 + 1 + 1 + 1, 10, none⟩ (.slice (some ⟨w5.heap.size + 1, 0, none⟩) 1 1) (w5.heap.size + 1) (by show w5.heap.size + 1 ≠ w.heap.size + 1 + 1 + 1 + 1; omega)).trans (blkAt_two w5 #[.int .i64 1, .int .i64 0, .int .i64 0, .int .i64 0, .int .i64 0, .int .i64 0, .int .i64 0, .bool false, .slice none 0 0, .slice (some ⟨w5.heap.size, 0, none⟩) 1 1, .int .i64 0, .int .i64 0, .int .i64 0] 45 (.cells #[.int .i64 21, .int .i64 3, .int .i64 0] 42))
    simp only [Array.setIfInBounds] at k5
    clear hba hsz5 hbut hc5 hc10 hf10 H1 H5 HG5 HI5 HB5
    generalize ((w5.alloc _).alloc _).setCell _ _ = W6 at *
    have H1 := Lib.hid k1
    have H5 := Lib.hid (show BlkAt W6 (w.heap.size + 1 + 1 + 1 + 1) #[.string ⟨#[109, 97, 107, 101, 114]⟩, .int .i64 3, .int .i64 0, .int .i64 0, .int .i64 0, .int .i64 0, .int .i64 0, .int .i64 0, .int .i64 0, .int .i64 0, .slice (some ⟨w5.heap.size + 1, 0, none⟩) 1 1] 39 from k5)
    have H6 := Lib.hid k6
    have H7 := Lib.hid k7
    clear k1 k5 k6 k7
    obtain ⟨⟨x0, x1, x2, x3, x4, x5, x6, x7, x8, x9, x10⟩, _⟩ := H1.out.cells11
    obtain ⟨⟨z0, z1, z2, z3, z4, z5, z6, z7, z8, z9, z10⟩, _⟩ := H5.out.cells11
    go_cut [9] from 41 to 44 (fun q W7 => ∃ g2, q = .slice (some ⟨g2, 0, none⟩) 3 3 ∧ BlkAt W7 g2 (cdRow (oddL w5.heap.size (w5.heap.size + 1))).toArray 39 ∧ Below W6.heap.size W6 W7)
    case first =>
      go_region_with (go_at_call 12; refine (land_any _ _).mono ?_; rintro e w1 ⟨rfl, hb0⟩; have hb : Below W6.heap.size W6 w1 := below_then' (show Below W6.heap.size W6 W6.drew from ⟨rfl, rfl, rfl, Nat.le_refl _, fun _ _ => rfl⟩) hb0 (Nat.le_refl _); clear hb0; obtain ⟨⟨x0', x1', x2', x3', x4', x5', x6', x7', x8', x9', x10'⟩, _⟩ := (H1.out.next hb).cells11; obtain ⟨⟨z0', z1', z2', z3', z4', z5', z6', z7', z8', z9', z10'⟩, _⟩ := (H5.out.next hb).cells11)
      all_goals
        rename World => w1
        have hb2 : Below W6.heap.size W6 w1 := by assumption
        go_wp2_with fail
        go_meet
        exact ⟨w1.heap.size, rfl, heap_alloc_new w1 _, below_then' hb2 (below_alloc1 w1 _) hb2.size⟩
    case rest =>
      obtain ⟨g2, rfl, hg, hb⟩ := hcut
      rename World => W7
      have HB7 := Lib.hid (below_then' HB6.out hb HB6.out.size)
      have HG7 := Lib.hid (HG6.out.next hb)
      have HI7 := Lib.hid (HI6.out.next hb)
      have HO := Lib.hid (show IsP W7 (some ⟨g2, 0, none⟩) 3 (oddL w5.heap.size (w5.heap.size + 1)) from isP_row rfl (fun p hp => by
        simp only [List.mem_cons, List.not_mem_nil, or_false] at hp
        rcases hp with rfl | rfl | rfl
        · exact land_cdr _ _
        · exact ⟨rfl, IsA.nil _⟩
        · exact odd_r (H6.out.next hb) (H7.out.next hb)) (blk_row hg (by omega)))
      clear hb hg x0 x1 x2 x3 x4 x5 x6 x7 x8 x9 x10 z0 z1 z2 z3 z4 z5 z6 z7 z8 z9 z10 H1 H5 H6 H7 HB6 HG6 HI6
      go_wp2_with fail
      refine (encode_any _ 3 (oddL w5.heap.size (w5.heap.size + 1)) 3 rfl 10 (chk_odd _ _) _ (enc_odd _ _) (odd_pcd _ _) (odd_64 _ _) _ HO.out (HTb.out.next HB7.out)).mono ?_
      rintro e w8 ⟨rfl, hb⟩
      have HB8 := Lib.hid (below_then' HB7.out hb HB7.out.size)
      have HG8 := Lib.hid (HG7.out.next hb)
      have HI8 := Lib.hid (HI7.out.next hb)
      have HO8 := Lib.hid (HO.out.next hb)
      clear hb HB7 HG7 HI7 HO
      go_wp2_with fail
      refine (land_any _ _).mono ?_
      rintro e w9 ⟨rfl, hb⟩
      have HB9 := Lib.hid (below_then' HB8.out hb HB8.out.size)
      have HG9 := Lib.hid (HG8.out.next hb)
      have HI9 := Lib.hid (HI8.out.next hb)
      have HO9 := Lib.hid (HO8.out.next hb)
      clear hb HB8 HG8 HI8 HO8
      go_wp2_with fail
      refine (land_any _ _).mono ?_
      rintro e w10 ⟨rfl, hb⟩
      have HB10 := Lib.hid (below_then' HB9.out hb HB9.out.size)
      have HG10 := Lib.hid (HG9.out.next hb)
      have HI10 := Lib.hid (HI9.out.next hb)
      have HO10 := Lib.hid (HO9.out.next hb)
      clear hb HB9 HG9 HI9 HO9
      go_wp2_with fail
      have HBt := Lib.hid (show IsP (w10.alloc (.cells (cdRow bothL).toArray 39)) (some ⟨w10.heap.size, 0, none⟩) 3 bothL from isP_row rfl (fun p hp => by
        simp only [List.mem_cons, List.not_mem_nil, or_false] at hp
        rcases hp with rfl | rfl | rfl
        · exact land_cdr _ _
        · exact land_cdr _ _
        · exact ⟨rfl, IsA.nil _⟩) (blk_row (heap_alloc_new w10 _) (by omega)))
      have HB11 := Lib.hid (below_then' HB10.out (below_alloc1 w10 (.cells (cdRow bothL).toArray 39)) HB10.out.size)
      have HG11 := Lib.hid (HG10.out.next (below_alloc1 w10 (.cells (cdRow bothL).toArray 39)))
      have HI11 := Lib.hid (HI10.out.next (below_alloc1 w10 (.cells (cdRow bothL).toArray 39)))
      have HO11 := Lib.hid (HO10.out.next (below_alloc1 w10 (.cells (cdRow bothL).toArray 39)))
      clear HB10 HG10 HI10 HO10
      refine (works_any _ (HTb.out.next HB11.out)).mono ?_
      rintro e w12 ⟨rfl, hb⟩
      have HB12 := Lib.hid (below_then' HB11.out hb HB11.out.size)
      have HG12 := Lib.hid (HG11.out.next hb)
      have HI12 := Lib.hid (HI11.out.next hb)
      have HO12 := Lib.hid (HO11.out.next hb)
      have HBt12 := Lib.hid (HBt.out.next hb)
      clear hb HB11 HG11 HI11 HO11 HBt
      have hwe : wantS.toList = [3, 1, 97, 1, 0, 0, 0, 0, 1, 0, 0, 0, 0, 3, 99, 117, 98, 2, 1, 0, 0, 2, 0, 3, 4, 65, 0, 5, 109, 97, 107, 101, 114, 3, 0, 0, 0, 0, 0, 0, 0, 0, 1, 1, 0, 0, 0, 0, 0, 0, 0, 1, 2, 2, 1, 3, 0, 21, 0, 2, 0, 0, 0] := by rw [ByteArray.toList_eq]; rfl
      go_wp2_with fail
      refine (same_any _ 3 (goodL (w.heap.size + 1) (w.heap.size + 1 + 1) (w.heap.size + 1 + 1 + 1)) a5 c5 M2 3 rfl HM2.out _ HG12.out HI12.out).mono ?_
      rintro e w13 ⟨rfl, hb⟩
      have HB13 := Lib.hid (below_then' HB12.out hb HB12.out.size)
      have HO13 := Lib.hid (HO12.out.next hb)
      have HBt13 := Lib.hid (HBt12.out.next hb)
      clear hb HB12 HG12 HI12 HO12 HBt12 hwe
      go_wp2_with fail
      refine (pCheck_any _ 3 (oddL w5.heap.size (w5.heap.size + 1)) 3 rfl 10 (chk_odd _ _) (odd_pcd _ _) _ HO13.out (HTb.out.next HB13.out)).mono ?_
      rintro e w14 ⟨rfl, hb⟩
      have HB14 := Lib.hid (below_then' HB13.out hb HB13.out.size)
      have HBt14 := Lib.hid (HBt13.out.next hb)
      clear hb HB13 HO13 HBt13
      go_wp2_with fail
      refine (lands_any 40 (by omega) _).mono ?_
      rintro e w15 ⟨a15, c15, rfl, hI15, hb⟩
      have HB15 := Lib.hid (below_then' HB14.out hb HB14.out.size)
      have HBt15 := Lib.hid (HBt14.out.next hb)
      have HI15 := Lib.hid hI15
      clear hb hI15 HB14 HBt14
      go_wp2_with fail
      refine (pCheck_any a15 c15 (landsL 40) 40 (landsL_len 40) 0 chk_40 (fun p hp => by simp only [landsL, List.mem_map] at hp; obtain ⟨i, _, rfl⟩ := hp; exact land_pcd _ (by show 2 ≤ 1000; omega)) _ HI15.out (HTb.out.next HB15.out)).mono ?_
      rintro e w16 ⟨rfl, hb⟩
      have HB16 := Lib.hid (below_then' HB15.out hb HB15.out.size)
      have HBt16 := Lib.hid (HBt15.out.next hb)
      clear hb HB15 HI15 HBt15
      go_wp2_with fail
      refine (pCheck_any _ 3 bothL 3 rfl 10 chk_both both_pcd _ HBt16.out (HTb.out.next HB16.out)).mono ?_
      rintro e w17 ⟨rfl, hb⟩
      have HB17 := Lib.hid (below_then' HB16.out hb HB16.out.size)
      clear hb HB16 HBt16
      go_wp2_with fail
      refine bodyPost_ret (v := .bool true) (by simp [results, Tryd.results5, go_sem]) rfl ?_
      exact ⟨rfl, HB17.out⟩
end Go.Proofs.YtbeaaieaffdgeaaDoor
