/- The walk of CardKnown. -/
import Derived.Test.YtfhmadlobdklbaaDoorCardZv
import Derived.Deep.RegionHeld3
import Derived.Great.Walk
namespace Go.Proofs.YtfhmadlobdklbaaDoor
open Go.RowKit
set_option linter.unusedVariables false
set_option linter.unusedSimpArgs false

set_option maxRecDepth 100000 in
set_option maxHeartbeats 2000000 in
theorem walk_CardKnown (w : World) (hT : Tabs w) :
    Calls Tryd.prog 6 #[] w fun e w' => e = .returned (.bool true) ∧ Below w.heap.size w w' := by
  have HT0 := Lib.hid hT
  have HS := Lib.hid (show St w (KnW w) from ⟨hT.next (kn_below w), kn_new w, kn_below w⟩)
  clear hT
  go_enter Tryd.func6, Tryd.ntmps6
  go_wp2_with fail
  unfold KnW at HS
  generalize (((((((w.alloc (.cells #[.string ⟨#[97]⟩, .int .i64 1, .int .i64 0, .int .i64 0, .int .i64 0, .int .i64 0, .int .i64 1, .int .i64 0, .int .i64 0, .int .i64 0, .slice none 0 0] 26)).alloc (.cells #[.string ⟨#[97]⟩, .int .i64 1, .int .i64 0, .int .i64 0, .int .i64 0, .int .i64 1, .int .i64 1, .int .i64 0, .int .i64 0, .int .i64 0, .slice none 0 0] 26)).alloc (.cells #[.string ⟨#[]⟩, .int .i64 1, .int .i64 0, .int .i64 0, .int .i64 0, .int .i64 0, .int .i64 1, .int .i64 0, .int .i64 0, .int .i64 0, .slice none 0 0] 26)).alloc (.cells #[.string ⟨#[49, 50, 51, 52, 53, 54, 55, 56, 57, 48, 49, 50, 51, 52, 53, 54, 55]⟩, .int .i64 1, .int .i64 0, .int .i64 0, .int .i64 0, .int .i64 0, .int .i64 1, .int .i64 0, .int .i64 0, .int .i64 0, .slice none 0 0] 26)).alloc (.cells #[.int .i64 4, .int .i64 0, .int .i64 3, .int .i64 0, .int .i64 0, .int .i64 0, .int .i64 0, .bool false, .slice none 0 0, .slice none 0 0, .int .i64 4, .int .i64 1, .int .i64 1] 41)).alloc (.cells #[.string ⟨#[98]⟩, .int .i64 2, .int .i64 0, .int .i64 0, .int .i64 0, .int .i64 0, .int .i64 0, .int .i64 2, .int .i64 2, .int .i64 0, .slice (some ⟨w.heap.size + 1 + 1 + 1 + 1, 0, none⟩) 1 1] 26)).alloc (.cells #[.string ⟨#[99]⟩, .int .i64 3, .int .i64 0, .int .i64 0, .int .i64 0, .int .i64 0, .int .i64 0, .int .i64 0, .int .i64 0, .int .i64 0, .slice none 0 0] 26)) = W0 at *
  refine (chk_lit w _ ⟨⟨#[97]⟩, 1, 0, 0, 0, 0, 1, 0, 0, 0, none, 0, 0⟩ 0 0 (by decide +kernel) (by decide) rfl rfl rfl rfl HS.out).mono ?_
  rintro e w1 ⟨rfl, hs⟩
  have HS1 := Lib.hid hs
  clear hs
  obtain ⟨⟨q0, q1, q2, q3, q4, q5, q6, q7, q8, q9, q10⟩, qf⟩ := HS1.out.2.1.2.1.cells11
  clear qf
  go_wp2_with fail
  clear q0 q1 q2 q3 q4 q5 q6 q7 q8 q9 q10
  refine (chk_lit w _ ⟨⟨#[97]⟩, 1, 0, 0, 0, 1, 1, 0, 0, 0, none, 0, 0⟩ 0 10 (by decide +kernel) (by decide) rfl rfl rfl rfl HS1.out).mono ?_
  rintro e w2 ⟨rfl, hs⟩
  have HS2 := Lib.hid hs
  clear hs
  obtain ⟨⟨q0, q1, q2, q3, q4, q5, q6, q7, q8, q9, q10⟩, qf⟩ := HS2.out.2.1.2.2.1.cells11
  clear qf
  go_wp2_with fail
  clear q0 q1 q2 q3 q4 q5 q6 q7 q8 q9 q10
  refine (chk_lit w _ ⟨⟨#[]⟩, 1, 0, 0, 0, 0, 1, 0, 0, 0, none, 0, 0⟩ 0 10 (by decide +kernel) (by decide) rfl rfl rfl rfl HS2.out).mono ?_
  rintro e w3 ⟨rfl, hs⟩
  have HS3 := Lib.hid hs
  clear hs
  obtain ⟨⟨q0, q1, q2, q3, q4, q5, q6, q7, q8, q9, q10⟩, qf⟩ := HS3.out.2.1.2.2.2.1.cells11
  clear qf
  go_wp2_with fail
  clear q0 q1 q2 q3 q4 q5 q6 q7 q8 q9 q10
  refine (chk_lit w _ ⟨⟨#[49, 50, 51, 52, 53, 54, 55, 56, 57, 48, 49, 50, 51, 52, 53, 54, 55]⟩, 1, 0, 0, 0, 0, 1, 0, 0, 0, none, 0, 0⟩ 0 3 (by decide +kernel) (by decide) rfl rfl rfl rfl HS3.out).mono ?_
  rintro e w4 ⟨rfl, hs⟩
  have HS4 := Lib.hid hs
  clear hs
  obtain ⟨⟨q0, q1, q2, q3, q4, q5, q6, q7, q8, q9, q10⟩, qf⟩ := HS4.out.2.1.1.cells11
  clear qf
  go_wp2_with fail
  clear q0 q1 q2 q3 q4 q5 q6 q7 q8 q9 q10
  refine (chk_lit w _ ⟨⟨#[97]⟩, 1, 0, 0, 0, 0, 1, 0, 0, 0, none, 0, 0⟩ (-1) 2 (by decide +kernel) (by decide) rfl rfl rfl rfl HS4.out).mono ?_
  rintro e w5 ⟨rfl, hs⟩
  have HS5 := Lib.hid hs
  clear hs
  obtain ⟨⟨q0, q1, q2, q3, q4, q5, q6, q7, q8, q9, q10⟩, qf⟩ := HS5.out.2.1.1.cells11
  clear qf
  go_wp2_with fail
  clear q0 q1 q2 q3 q4 q5 q6 q7 q8 q9 q10
  refine (chk_lit w _ ⟨⟨#[97]⟩, 1, 0, 0, 0, 0, 1, 0, 0, 0, none, 0, 0⟩ 41 2 (by decide +kernel) (by decide) rfl rfl rfl rfl HS5.out).mono ?_
  rintro e w6 ⟨rfl, hs⟩
  have HS6 := Lib.hid hs
  clear hs
  obtain ⟨⟨q0, q1, q2, q3, q4, q5, q6, q7, q8, q9, q10⟩, qf⟩ := HS6.out.2.1.2.2.2.2.2.1.cells11
  clear qf
  go_wp2_with fail
  clear q0 q1 q2 q3 q4 q5 q6 q7 q8 q9 q10
  refine (chk_lord w _ HS6.out).mono ?_
  rintro e w7 ⟨rfl, hs⟩
  have HS7 := Lib.hid hs
  clear hs
  obtain ⟨⟨q0, q1, q2, q3, q4, q5, q6, q7, q8, q9, q10⟩, qf⟩ := HS7.out.2.1.2.2.2.2.2.2.cells11
  clear qf
  go_wp2_with fail
  clear q0 q1 q2 q3 q4 q5 q6 q7 q8 q9 q10
  refine (chk_lit w _ ⟨⟨#[99]⟩, 3, 0, 0, 0, 0, 0, 0, 0, 0, none, 0, 0⟩ 0 10 (by decide +kernel) (by decide) rfl rfl rfl rfl HS7.out).mono ?_
  rintro e w8 ⟨rfl, hs⟩
  have HS8 := Lib.hid hs
  clear hs
  go_wp2_with fail
  refine (plain3 w _ HS8.out).mono ?_
  rintro e w9 ⟨y, A, rfl, hr, ho, hk, hs⟩
  have HS9 := Lib.hid hs
  have HC := Lib.hid (cardCheck_any y A 0 0 hk _ hr ho hs.1)
  clear hr ho hk hs
  go_wp2_with fail
  refine HC.out.mono ?_
  rintro e w10 ⟨rfl, hb⟩
  have HS10 := Lib.hid (HS9.out.next hb)
  clear hb
  go_wp2_with (refine Go.Great.wpList_buildSliceTo rfl 43 42 42 _ rfl _ rfl _ rfl Tryd.underlying43 rowCells.toArray ?hb ?_)
  case hb => kernel_rfl
  have HSr := Lib.hid (HS10.out.next (below_alloc1 w10 (.cells rowCells.toArray 42)))
  have HRow := Lib.hid (blkAt_new w10 rowCells.toArray 42)
  clear HC HS HS1 HS2 HS3 HS4 HS5 HS6 HS7 HS8 HS9 HS10
  generalize w10.alloc (.cells rowCells.toArray 42) = W1 at *
  generalize w10.heap.size = rb at *
  go_loopw [114] (fun q wr => ∃ j : Nat, q = .int .i64 (j : Int) ∧ j ≤ 42 ∧ Below W1.heap.size W1 wr) (fun q _ => 42 - (intOf q).toNat)
  case atStart => exact ⟨0, rfl, by omega, Below.refl _ _⟩
  case round =>
    obtain ⟨j, rfl, hj, hbw⟩ := hrel
    have HB := Lib.hid hbw
    clear hbw
    by_cases hlt : j < 42
    · obtain ⟨k, f, n, e, hrow, r0, r1, r2, r3⟩ := row_at j hlt
      have HRw := Lib.hid hrow
      have c0 := ((HRow.out.next HB.out).cell (j * 4)).trans r0
      have c1 := ((HRow.out.next HB.out).cell (j * 4 + 1)).trans r1
      have c2 := ((HRow.out.next HB.out).cell (j * 4 + 2)).trans r2
      have c3 := ((HRow.out.next HB.out).cell (j * 4 + 3)).trans r3
      have HBb := Lib.hid (HB.out.alloc HB.out.size (.cells #[.int .i64 (k : Int), .int .i64 (f : Int), .int .i64 n, .int .i64 e] 42))
      have HX := Lib.hid (blkAt_new wr #[.int .i64 (k : Int), .int .i64 (f : Int), .int .i64 n, .int .i64 e] 42)
      have hz : wr.heap.size < (wr.alloc (.cells #[.int .i64 (k : Int), .int .i64 (f : Int), .int .i64 n, .int .i64 e] 42)).heap.size := by simp
      clear hrow r0 r1 r2 r3
      go_wp2_with fail
      clear c0 c1 c2 c3
      generalize wr.alloc (.cells #[.int .i64 (k : Int), .int .i64 (f : Int), .int .i64 n, .int .i64 e] 42) = wb at *
      generalize wr.heap.size = bb at *
      have HTb := Lib.hid (HSr.out.next HBb.out).1
      have HTd := Lib.hid (HTb.out.next (Below.refl wb.heap.size wb).drew)
      have d0 := HX.out.cell 0
      have d1 := HX.out.cell 1
      have d2 := HX.out.cell 2
      have d3 := HX.out.cell 3
      simp at d0 d1 d2 d3
      go_region_held3 (fun w' => w'.cell? ⟨bb, 0, none⟩ = some (.int .i64 (k : Int)) ∧ w'.cell? ⟨bb, 1, none⟩ = some (.int .i64 (f : Int)) ∧ w'.cell? ⟨bb, 2, none⟩ = some (.int .i64 n) ∧ w'.cell? ⟨bb, 3, none⟩ = some (.int .i64 e))
        (first | go_keep | (go_split_ands; exact ⟨World.grownBy.cell (by assumption) (by assumption) (by simp), World.grownBy.cell (by assumption) (by assumption) (by simp), World.grownBy.cell (by assumption) (by assumption) (by simp), World.grownBy.cell (by assumption) (by assumption) (by simp)⟩))
        (first
          | (go_at_call 11; refine (plain_any k HRw.out.1 HRw.out.2.1 (fun _ => False) _ (fun _ h => h.elim)).mono ?_; rintro u w3 ⟨y, A, rfl, hr, ho, he1, he2, b3⟩; have g3 := grown_of b3 none; have HP := Lib.hid hr; have HO := Lib.hid ho; have HE1 := Lib.hid he1; have HE2 := Lib.hid he2; have HB3 := Lib.hid b3; clear hr ho he1 he2 b3)
          | (go_at_call 12; refine (turnedK k f n e HRw.out y A _ HP.out HO.out HE1.out HE2.out).mono ?_; rintro u w4 ⟨z, B, rfl, hr, ho, hc, b4⟩; have g4 := grown_of b4 none; have HP4 := Lib.hid hr; have HO4 := Lib.hid ho; have HC4 := Lib.hid hc; have HB4 := Lib.hid b4; clear hr ho hc b4)
          | (go_at_call 8; refine (cardCheck_any z B 2 e HC4.out _ HP4.out HO4.out ((HTd.out.next HB3.out).next HB4.out)).mono ?_; rintro u w5 ⟨rfl, b5⟩; have g5 := grown_of b5 none; have HB5 := Lib.hid b5; clear b5))
      have HE := Lib.hid (below_then' (below_then' (below_then' HBb.out.drew HB3.out HBb.out.size) HB4.out (Nat.le_trans HBb.out.size HB3.out.size)) HB5.out (Nat.le_trans (Nat.le_trans HBb.out.size HB3.out.size) HB4.out.size))
      clear g3 g4 g5
      go_wp2_with fail
      go_roundw
      case rel => exact ⟨j + 1, by go_num, by omega, HE.out⟩
      case measure => simp [intOf]; omega
    · have HSx := Lib.hid (HSr.out.next HB.out)
      obtain ⟨⟨q0, q1, q2, q3, q4, q5, q6, q7, q8, q9, q10⟩, qf⟩ := HSx.out.2.1.2.2.2.2.2.1.cells11
      clear qf
      go_wp2_with fail
      clear q0 q1 q2 q3 q4 q5 q6 q7 q8 q9 q10
      have HM := Lib.hid (show Mn w wr.heap.size 0 (wr.alloc (.cells #[.string ⟨#[98]⟩, .int .i64 2, .int .i64 0, .int .i64 0, .int .i64 0, .int .i64 0, .int .i64 0, .int .i64 2, .int .i64 2, .int .i64 0, .slice (some ⟨w.heap.size + 1 + 1 + 1 + 1, 0, none⟩) 1 1] 26)) from ⟨HSx.out.next (below_alloc1 _ _), HSx.out.2.1.2.2.2.2.2.2.lt, by simp, .inl ⟨rfl, blkAt_new wr _ _⟩⟩)
      clear HSx HB HSr HRow hj hlt
      generalize wr.alloc (.cells #[.string ⟨#[98]⟩, .int .i64 2, .int .i64 0, .int .i64 0, .int .i64 0, .int .i64 0, .int .i64 0, .int .i64 2, .int .i64 2, .int .i64 0, .slice (some ⟨w.heap.size + 1 + 1 + 1 + 1, 0, none⟩) 1 1] 26) = wm at *
      generalize wr.heap.size = mb at *
      go_loopw [10] (fun q wq => ∃ k : Nat, q = .int .i64 (k : Int) ∧ k ≤ 4 ∧ Mn w mb k wq) (fun q _ => 4 - (intOf q).toNat)
      case atStart => exact ⟨0, rfl, by omega, HM.out⟩
      case round =>
        obtain ⟨k, rfl, hk, hm⟩ := hrel
        clear HM
        rename World => V
        by_cases hlt : k < 4
        · obtain ⟨hs, hz6, hzm, hcase⟩ := hm
          rcases hcase with ⟨rfl, hX⟩ | ⟨hk1, g, gc, hg, hX, hO⟩
          · have HOld := Lib.hid (fun (b : Addr) (e : some ⟨w.heap.size + 1 + 1 + 1 + 1, 0, none⟩ = some b) (j : Nat) (u : Value) (hj : ([.int .i64 4, .int .i64 0, .int .i64 3, .int .i64 0, .int .i64 0, .int .i64 0, .int .i64 0, .bool false, .slice none 0 0, .slice none 0 0, .int .i64 4, .int .i64 1, .int .i64 1] : List Value)[j]? = some u) => (show (((V.alloc (.cells #[.int .i64 4, .int .i64 0, .int .i64 3, .int .i64 0, .int .i64 0, .int .i64 0, .int .i64 0, .bool false, .slice none 0 0, .slice none 0 0, .int .i64 4, .int .i64 1, .int .i64 1] 41)).drew).cell? (b.add j)) = some u by cases e; exact (hs.next (below_alloc1 V (.cells #[.int .i64 4, .int .i64 0, .int .i64 3, .int .i64 0, .int .i64 0, .int .i64 0, .int .i64 0, .bool false, .slice none 0 0, .slice none 0 0, .int .i64 4, .int .i64 1, .int .i64 1] 41)).drew).2.1.2.2.2.2.1.add rfl j u hj))
            have hs' : St w ((V.alloc (.cells #[.int .i64 4, .int .i64 0, .int .i64 3, .int .i64 0, .int .i64 0, .int .i64 0, .int .i64 0, .bool false, .slice none 0 0, .slice none 0 0, .int .i64 4, .int .i64 1, .int .i64 1] 41)).drew) := hs.next (below_alloc1 V _).drew
            have HS' := Lib.hid hs'
            have l10 := hs.2.1.2.2.2.2.2.1.cell 10
            have p0 := hs.2.1.2.2.2.2.1.cell 0
            have p1 := hs.2.1.2.2.2.2.1.cell 1
            have p2 := hs.2.1.2.2.2.2.1.cell 2
            have p3 := hs.2.1.2.2.2.2.1.cell 3
            have p4 := hs.2.1.2.2.2.2.1.cell 4
            have p5 := hs.2.1.2.2.2.2.1.cell 5
            have p6 := hs.2.1.2.2.2.2.1.cell 6
            have p7 := hs.2.1.2.2.2.2.1.cell 7
            have p8 := hs.2.1.2.2.2.2.1.cell 8
            have p9 := hs.2.1.2.2.2.2.1.cell 9
            have p10 := hs.2.1.2.2.2.2.1.cell 10
            have p11 := hs.2.1.2.2.2.2.1.cell 11
            have p12 := hs.2.1.2.2.2.2.1.cell 12
            have m10 := hX.cell 10
            simp at l10 p0 p1 p2 p3 p4 p5 p6 p7 p8 p9 p10 p11 p12 m10
            have HX' := Lib.hid (hX.next (below_alloc1 V (.cells #[.int .i64 4, .int .i64 0, .int .i64 3, .int .i64 0, .int .i64 0, .int .i64 0, .int .i64 0, .bool false, .slice none 0 0, .slice none 0 0, .int .i64 4, .int .i64 1, .int .i64 1] 41)).drew)
            have HNw := Lib.hid ((blkAt_top V #[.int .i64 4, .int .i64 0, .int .i64 3, .int .i64 0, .int .i64 0, .int .i64 0, .int .i64 0, .bool false, .slice none 0 0, .slice none 0 0, .int .i64 4, .int .i64 1, .int .i64 1] 41).add (l := [.int .i64 4, .int .i64 0, .int .i64 3, .int .i64 0, .int .i64 0, .int .i64 0, .int .i64 0, .bool false, .slice none 0 0, .slice none 0 0, .int .i64 4, .int .i64 1, .int .i64 1]) rfl)
            have HV := Lib.hid hzm
            have HV6 := Lib.hid hz6
            clear hs hs' hX
            obtain ⟨i0, hi, hz0, hz1, hz2⟩ := info_parts abInfo
            go_wp2_with fail
            first
              | (go_region_law (first | (refine step_append_grows (by rfl) _ _ _ (by rfl) 41 i0 (.agg #[.int .i64 0, .int .i64 0, .int .i64 0, .int .i64 0, .int .i64 0, .int .i64 0, .int .i64 0, .bool false, .slice none 0 0, .slice none 0 0, .int .i64 0, .int .i64 0, .int .i64 0]) 13 136 Tryd.underlying24 hi hz0 hz1 hz2 rfl (by omega) (some ⟨w.heap.size + 1 + 1 + 1 + 1, 0, none⟩) 1 1 [.int .i64 4, .int .i64 0, .int .i64 3, .int .i64 0, .int .i64 0, .int .i64 0, .int .i64 0, .bool false, .slice none 0 0, .slice none 0 0, .int .i64 4, .int .i64 1, .int .i64 1] (by rfl) (by intro e; cases e) (by rfl) HOld.out ⟨V.heap.size, 0, none⟩ 1 1 [.int .i64 4, .int .i64 0, .int .i64 3, .int .i64 0, .int .i64 0, .int .i64 0, .int .i64 0, .bool false, .slice none 0 0, .slice none 0 0, .int .i64 4, .int .i64 1, .int .i64 1] (by rfl) (by rfl) HNw.out lab_one (by omega) (by unfold maxLen; omega) (by omega) ?_; intro v2 w2 hown2 hgrow2; obtain ⟨g2, gc2, rfl, hb2, hl2, hc2, hm2⟩ := own_some hown2 (by decide); have HO2 := Lib.hid hown2; have HX2 := Lib.hid (HX'.out.grown hgrow2 (by simp)); have HS2 := Lib.hid (st_app HT0.out HS'.out hgrow2 (fun g e => by cases e)); have HNe := Lib.hid (show g2 ≠ mb by have := HV.out; simp at hb2; omega); have HRo := Lib.hid (show (w2.setCell ⟨mb, 10, none⟩ (.slice (some ⟨g2, 0, none⟩) (0 + 1 + 1) gc2)).ownsRow (mb + 1) 41 13 (.slice (some ⟨g2, 0, none⟩) (0 + 1 + 1) gc2) (0 + 1 + 1) (abRow (List.replicate (0 + 1 + 1) labT)) from ownsRow_setCell_below (own_base hown2 (by have := HV.out; simp; omega)) (a := ⟨mb, 10, none⟩) (by show mb < mb + 1; omega) _); have x10 := HX2.out.cell 10; have y10 := HX2.out.free 10; simp at x10; clear hb2 hl2 hc2 hm2 hown2 hgrow2 p0 p1 p2 p3 p4 p5 p6 p7 p8 p9 p10 p11 p12 l10 m10)))
              | fail
            all_goals
              have HMn := Lib.hid (show Mn w mb (0 + 1) (w2.setCell ⟨mb, 10, none⟩ (.slice (some ⟨g2, 0, none⟩) (0 + 1 + 1) gc2)) from ⟨st_set HT0.out HS2.out mb 10 _ HV6.out, HV6.out, by have := HX2.out.lt; simpa using this, .inr ⟨by omega, g2, gc2, HNe.out, by simpa using HX2.out.set 10 (.slice (some ⟨g2, 0, none⟩) (0 + 1 + 1) gc2), HRo.out⟩⟩)
              go_wp2_with fail
              go_roundw
              case rel => exact ⟨0 + 1, by go_num, by omega, HMn.out⟩
              case measure => simp [intOf] <;> omega
          · obtain ⟨_, _, e9, hgb, _⟩ := own_some hO (by omega)
            obtain ⟨rfl, rfl⟩ : _ ∧ _ := by simpa using e9
            have HGb := Lib.hid hgb
            have HGn := Lib.hid hg
            have HO4 := Lib.hid (show ((V.alloc (.cells #[.int .i64 4, .int .i64 0, .int .i64 3, .int .i64 0, .int .i64 0, .int .i64 0, .int .i64 0, .bool false, .slice none 0 0, .slice none 0 0, .int .i64 4, .int .i64 1, .int .i64 1] 41)).drew).ownsRow (mb + 1) 41 13 (.slice (some ⟨g, 0, none⟩) (k + 1) gc) (k + 1) (abRow (List.replicate (k + 1) labT)) from (hO.alloc _).drew)
            have HSz := Lib.hid (show mb + 1 ≤ ((V.alloc (.cells #[.int .i64 4, .int .i64 0, .int .i64 3, .int .i64 0, .int .i64 0, .int .i64 0, .int .i64 0, .bool false, .slice none 0 0, .slice none 0 0, .int .i64 4, .int .i64 1, .int .i64 1] 41)).drew).heap.size by show mb + 1 ≤ (V.alloc (.cells #[.int .i64 4, .int .i64 0, .int .i64 3, .int .i64 0, .int .i64 0, .int .i64 0, .int .i64 0, .bool false, .slice none 0 0, .slice none 0 0, .int .i64 4, .int .i64 1, .int .i64 1] 41)).heap.size; simp; omega)
            clear e9 hgb hg hO
            have hs' : St w ((V.alloc (.cells #[.int .i64 4, .int .i64 0, .int .i64 3, .int .i64 0, .int .i64 0, .int .i64 0, .int .i64 0, .bool false, .slice none 0 0, .slice none 0 0, .int .i64 4, .int .i64 1, .int .i64 1] 41)).drew) := hs.next (below_alloc1 V _).drew
            have HS' := Lib.hid hs'
            have l10 := hs.2.1.2.2.2.2.2.1.cell 10
            have p0 := hs.2.1.2.2.2.2.1.cell 0
            have p1 := hs.2.1.2.2.2.2.1.cell 1
            have p2 := hs.2.1.2.2.2.2.1.cell 2
            have p3 := hs.2.1.2.2.2.2.1.cell 3
            have p4 := hs.2.1.2.2.2.2.1.cell 4
            have p5 := hs.2.1.2.2.2.2.1.cell 5
            have p6 := hs.2.1.2.2.2.2.1.cell 6
            have p7 := hs.2.1.2.2.2.2.1.cell 7
            have p8 := hs.2.1.2.2.2.2.1.cell 8
            have p9 := hs.2.1.2.2.2.2.1.cell 9
            have p10 := hs.2.1.2.2.2.2.1.cell 10
            have p11 := hs.2.1.2.2.2.2.1.cell 11
            have p12 := hs.2.1.2.2.2.2.1.cell 12
            have m10 := hX.cell 10
            simp at l10 p0 p1 p2 p3 p4 p5 p6 p7 p8 p9 p10 p11 p12 m10
            have HX' := Lib.hid (hX.next (below_alloc1 V (.cells #[.int .i64 4, .int .i64 0, .int .i64 3, .int .i64 0, .int .i64 0, .int .i64 0, .int .i64 0, .bool false, .slice none 0 0, .slice none 0 0, .int .i64 4, .int .i64 1, .int .i64 1] 41)).drew)
            have HNw := Lib.hid ((blkAt_top V #[.int .i64 4, .int .i64 0, .int .i64 3, .int .i64 0, .int .i64 0, .int .i64 0, .int .i64 0, .bool false, .slice none 0 0, .slice none 0 0, .int .i64 4, .int .i64 1, .int .i64 1] 41).add (l := [.int .i64 4, .int .i64 0, .int .i64 3, .int .i64 0, .int .i64 0, .int .i64 0, .int .i64 0, .bool false, .slice none 0 0, .slice none 0 0, .int .i64 4, .int .i64 1, .int .i64 1]) rfl)
            have HV := Lib.hid hzm
            have HV6 := Lib.hid hz6
            clear hs hs' hX
            obtain ⟨i0, hi, hz0, hz1, hz2⟩ := info_parts abInfo
            go_wp2_with fail
            first
              | (go_region_law (first | (refine step_append_lies _ (by rfl) _ _ _ (by rfl) (mb + 1) 41 i0 (.agg #[.int .i64 0, .int .i64 0, .int .i64 0, .int .i64 0, .int .i64 0, .int .i64 0, .int .i64 0, .bool false, .slice none 0 0, .slice none 0 0, .int .i64 0, .int .i64 0, .int .i64 0]) 13 136 Tryd.underlying24 hi hz0 hz1 hz2 rfl (by omega) (.slice (some ⟨g, 0, none⟩) (k + 1) gc) (k + 1) (abRow (List.replicate (k + 1) labT)) (by rfl) HO4.out ⟨V.heap.size, 0, none⟩ 1 1 [.int .i64 4, .int .i64 0, .int .i64 3, .int .i64 0, .int .i64 0, .int .i64 0, .int .i64 0, .bool false, .slice none 0 0, .slice none 0 0, .int .i64 4, .int .i64 1, .int .i64 1] (by rfl) (by rfl) HNw.out lab_one (by omega) (by unfold maxLen; omega) (by omega) HSz.out _ (by rfl) ?_; intro g2 gc2 w2 hown2 hgrow2 hat hlt2; obtain ⟨_, _, e9, hgb2, _⟩ := own_some hown2 (by omega); obtain ⟨rfl, rfl⟩ : _ ∧ _ := (by simpa using e9); have HX2 := Lib.hid (HX'.out.grown hgrow2 (by simpa [Value.ownBlock] using HGn.out)); have HS2 := Lib.hid (st_app HT0.out HS'.out hgrow2 (fun g' e => by have e2 : g = g' := Option.some.inj e; have := HGb.out; have := HV6.out; omega)); have HNe := Lib.hid (show g2 ≠ mb by omega); have HRo := Lib.hid (show (w2.setCell ⟨mb, 10, none⟩ (.slice (some ⟨g2, 0, none⟩) (k + 1 + 1) gc2)).ownsRow (mb + 1) 41 13 (.slice (some ⟨g2, 0, none⟩) (k + 1 + 1) gc2) (k + 1 + 1) (abRow (List.replicate (k + 1 + 1) labT)) by rw [List.replicate_succ', abRow_append]; exact ownsRow_setCell_below hown2 (a := ⟨mb, 10, none⟩) (by show mb < mb + 1; omega) _); have x10 := HX2.out.cell 10; have y10 := HX2.out.free 10; simp at x10; clear e9 hgb2 hat hlt2 hown2 hgrow2 p0 p1 p2 p3 p4 p5 p6 p7 p8 p9 p10 p11 p12 l10 m10)))
              | fail
            all_goals
              have HMn := Lib.hid (show Mn w mb (k + 1) (w2.setCell ⟨mb, 10, none⟩ (.slice (some ⟨g2, 0, none⟩) (k + 1 + 1) gc2)) from ⟨st_set HT0.out HS2.out mb 10 _ HV6.out, HV6.out, by have := HX2.out.lt; simpa using this, .inr ⟨by omega, g2, gc2, HNe.out, by simpa using HX2.out.set 10 (.slice (some ⟨g2, 0, none⟩) (k + 1 + 1) gc2), HRo.out⟩⟩)
              go_wp2_with fail
              go_roundw
              case rel => exact ⟨k + 1, by go_num, by omega, HMn.out⟩
              case measure => simp [intOf] <;> omega
        · obtain ⟨g, gc, hs, hmz, hX, hR⟩ := many_reads (show Mn w mb 4 V by rw [show 4 = k by omega]; exact hm)
          have HSm := Lib.hid hs
          have HXm := Lib.hid hX
          have HRm := Lib.hid hR
          clear hm hs hX hR
          go_wp2_with fail
          refine (plain_1x V).mono ?_
          rintro e v1 ⟨b1, t1, c1, rfl, hp⟩
          have k1 := wide_lays hp
          have HS1 := Lib.hid (HSm.out.next k1.1)
          have HM1 := Lib.hid (Box.next (y := manyCd g gc) ⟨HXm.out, HRm.out⟩ k1.1)
          have HY1 := Lib.hid k1.2
          have z1 := hp.2.2.2.2.2.1.lt
          have y8 := hp.2.2.2.2.2.1.free 8
          have x8 := hp.2.2.2.2.2.1.cell 8
          simp at x8
          clear hp k1 hmz HSm HXm HRm
          go_wp2_with fail
          clear x8 y8
          unfold WideW at HS1 HM1 HY1
          generalize ((v1.setCell ⟨b1, 8, none⟩ (.slice (some ⟨v1.heap.size + 1, 0, none⟩) 3 3)).alloc (.cells #[.string ⟨#[97]⟩, .int .i64 1, .int .i64 0, .int .i64 0, .int .i64 0, .int .i64 0, .int .i64 2, .int .i64 0, .int .i64 0, .int .i64 0, .slice (some ⟨b1, 0, none⟩) 1 1] 26)).alloc (.cells #[.int .i64 1, .int .i64 1, .int .i64 1] 3) = W1 at *
          generalize v1.heap.size = x1 at *
          clear z1
          refine (plain_1x W1).mono ?_
          rintro e v2 ⟨b2, t2, c2, rfl, hp⟩
          have hu := deep_box hp
          clear hp
          go_wp2_with fail
          have HU := Lib.hid hu
          have a10 := hu.2.2.2.2.2.2.1.cell 10
          have f10 := hu.2.2.2.2.2.2.1.free 10
          have a9 := hu.2.2.2.2.2.2.2.1.cell 9
          have f9 := hu.2.2.2.2.2.2.2.1.free 9
          have z2 := hu.2.2.2.2.1
          have z3 := hu.2.2.2.1
          have z4 := Nat.lt_trans z3 z2
          clear hu
          unfold DeepU at HU a10 f10 a9 f9 z2 z4
          generalize v2.alloc (.cells #[.string ⟨#[97]⟩, .int .i64 1, .int .i64 0, .int .i64 0, .int .i64 0, .int .i64 0, .int .i64 2, .int .i64 0, .int .i64 0, .int .i64 0, .slice (some ⟨b2, 0, none⟩) 1 1] 26) = u2 at *
          generalize v2.heap.size = x2 at *
          simp at a10 a9
          have hmk := make_33
          go_region
          have k2 := deep_lays HU.out
          have HS2 := Lib.hid (HS1.out.next k2.1)
          have HM2 := Lib.hid (HM1.out.next k2.1)
          have HY2 := Lib.hid (HY1.out.next k2.1)
          have HX2 := Lib.hid k2.2
          unfold DeepW at HS2 HM2 HY2 HX2
          clear k2 HS1 HM1 HY1 HU hmk a10 a9 f10 f9 z2 z3 z4
          generalize ((u2.setCell ⟨b2, 9, none⟩ (.slice (some ⟨u2.heap.size, 0, none⟩) 33 33)).alloc (.cells zeros33.toArray 53)).drew = W2 at *
          generalize u2.heap.size = d2 at *
          obtain ⟨⟨q0, q1, q2, q3, q4, q5, q6, q7, q8, q9, q10⟩, qf⟩ := HS2.out.2.1.2.2.2.2.2.1.cells11
          obtain ⟨⟨m0, m1, m2, m3, m4, m5, m6, m7, m8, m9, m10⟩, mf⟩ := (show BlkAt W2 mb #[.string ⟨#[98]⟩, .int .i64 2, .int .i64 0, .int .i64 0, .int .i64 0, .int .i64 0, .int .i64 0, .int .i64 2, .int .i64 2, .int .i64 0, .slice (some ⟨g, 0, none⟩) 5 gc] 26 from HM2.out.1).cells11
          have zl := HS2.out.2.1.2.2.2.2.2.1.lt
          have zm := HM2.out.1.lt
          have zl1 : w.heap.size + 1 + 1 + 1 + 1 + 1 < W2.heap.size + 1 := by omega
          have zm1 : mb < W2.heap.size + 1 := by omega
          have zl2 : w.heap.size + 1 + 1 + 1 + 1 + 1 < W2.heap.size + 1 + 1 := by omega
          have zm2 : mb < W2.heap.size + 1 + 1 := by omega
          have zl3 : w.heap.size + 1 + 1 + 1 + 1 + 1 < W2.heap.size + 1 + 1 + 1 := by omega
          have zm3 : mb < W2.heap.size + 1 + 1 + 1 := by omega
          have zl4 : w.heap.size + 1 + 1 + 1 + 1 + 1 < W2.heap.size + 1 + 1 + 1 + 1 := by omega
          have zm4 : mb < W2.heap.size + 1 + 1 + 1 + 1 := by omega
          clear qf mf
          go_wp2_with fail
          clear q0 q1 q2 q3 q4 q5 q6 q7 q8 q9 q10 m0 m1 m2 m3 m4 m5 m6 m7 m8 m9 m10 zl zm zl1 zl2 zl3 zl4 zm1 zm2 zm3 zm4
          have HF := Lib.hid (fin_new HS2.out HM2.out HY2.out HX2.out)
          clear HS2 HM2 HY2 HX2
          unfold LastW at HF
          generalize ((((W2.alloc (.cells #[.string ⟨#[98]⟩, .int .i64 2, .int .i64 0, .int .i64 0, .int .i64 0, .int .i64 0, .int .i64 0, .int .i64 2, .int .i64 2, .int .i64 0, .slice (some ⟨W2.heap.size + 1, 0, none⟩) 1 1] 26)).alloc (.cells #[.int .i64 4, .int .i64 0, .int .i64 0, .int .i64 0, .int .i64 0, .int .i64 0, .int .i64 0, .bool false, .slice none 0 0, .slice none 0 0, .int .i64 3, .int .i64 0, .int .i64 16] 41)).alloc (.cells #[.string ⟨#[98]⟩, .int .i64 2, .int .i64 0, .int .i64 0, .int .i64 0, .int .i64 0, .int .i64 0, .int .i64 2, .int .i64 2, .int .i64 0, .slice (some ⟨W2.heap.size + 1 + 1 + 1, 0, none⟩) 3 3] 26)).alloc (.cells #[.int .i64 4, .int .i64 0, .int .i64 0, .int .i64 0, .int .i64 0, .int .i64 0, .int .i64 0, .bool false, .slice none 0 0, .slice none 0 0, .int .i64 2, .int .i64 127, .int .i64 0, .int .i64 5, .int .i64 3, .int .i64 0, .int .i64 0, .int .i64 0, .int .i64 0, .int .i64 0, .bool false, .slice none 0 0, .slice none 0 0, .int .i64 0, .int .i64 0, .int .i64 0, .int .i64 3, .int .i64 6, .int .i64 2, .int .i64 0, .int .i64 0, .int .i64 0, .int .i64 0, .bool false, .slice none 0 0, .slice none 0 0, .int .i64 0, .int .i64 0, .int .i64 0] 41)) = W3 at *
          generalize W2.heap.size = x3 at *
          refine (chk_many HF.out.1 HF.out.2.1.2).mono ?_
          rintro e w4 ⟨rfl, hb⟩
          have HF4 := Lib.hid (HF.out.next hb)
          clear hb HF
          obtain ⟨⟨q0, q1, q2, q3, q4, q5, q6, q7, q8, q9, q10⟩, qf⟩ := (show BlkAt w4 x1 #[.string ⟨#[97]⟩, .int .i64 1, .int .i64 0, .int .i64 0, .int .i64 0, .int .i64 0, .int .i64 2, .int .i64 0, .int .i64 0, .int .i64 0, .slice (some ⟨b1, 0, none⟩) 1 1] 26 from HF4.out.2.2.1.1).cells11
          clear qf
          go_wp2_with fail
          clear q0 q1 q2 q3 q4 q5 q6 q7 q8 q9 q10
          refine (chk_wide HF4.out.1.1 HF4.out.2.2.1.2).mono ?_
          rintro e w5 ⟨rfl, hb⟩
          have HF5 := Lib.hid (HF4.out.next hb)
          clear hb HF4
          obtain ⟨⟨q0, q1, q2, q3, q4, q5, q6, q7, q8, q9, q10⟩, qf⟩ := (show BlkAt w5 x2 #[.string ⟨#[97]⟩, .int .i64 1, .int .i64 0, .int .i64 0, .int .i64 0, .int .i64 0, .int .i64 2, .int .i64 0, .int .i64 0, .int .i64 0, .slice (some ⟨b2, 0, none⟩) 1 1] 26 from HF5.out.2.2.2.1.1).cells11
          clear qf
          go_wp2_with fail
          clear q0 q1 q2 q3 q4 q5 q6 q7 q8 q9 q10
          refine (chk_deep HF5.out.1.1 HF5.out.2.2.2.1.2).mono ?_
          rintro e w6 ⟨rfl, hb⟩
          have HF6 := Lib.hid (HF5.out.next hb)
          clear hb HF5
          obtain ⟨⟨q0, q1, q2, q3, q4, q5, q6, q7, q8, q9, q10⟩, qf⟩ := (show BlkAt w6 x3 #[.string ⟨#[98]⟩, .int .i64 2, .int .i64 0, .int .i64 0, .int .i64 0, .int .i64 0, .int .i64 0, .int .i64 2, .int .i64 2, .int .i64 0, .slice (some ⟨x3 + 1, 0, none⟩) 1 1] 26 from HF6.out.2.2.2.2.1.1).cells11
          clear qf
          go_wp2_with fail
          clear q0 q1 q2 q3 q4 q5 q6 q7 q8 q9 q10
          refine (chk_set HF6.out.1.1 HF6.out.2.2.2.2.1.2).mono ?_
          rintro e w7 ⟨rfl, hb⟩
          have HF7 := Lib.hid (HF6.out.next hb)
          clear hb HF6
          obtain ⟨⟨q0, q1, q2, q3, q4, q5, q6, q7, q8, q9, q10⟩, qf⟩ := (show BlkAt w7 (x3 + 1 + 1) #[.string ⟨#[98]⟩, .int .i64 2, .int .i64 0, .int .i64 0, .int .i64 0, .int .i64 0, .int .i64 0, .int .i64 2, .int .i64 2, .int .i64 0, .slice (some ⟨x3 + 1 + 1 + 1, 0, none⟩) 3 3] 26 from HF7.out.2.2.2.2.2.1).cells11
          clear qf
          go_wp2_with fail
          clear q0 q1 q2 q3 q4 q5 q6 q7 q8 q9 q10
          refine (chk_keys HF7.out.1.1 HF7.out.2.2.2.2.2.2).mono ?_
          rintro e w8 ⟨rfl, hb⟩
          have HF8 := Lib.hid (HF7.out.next hb)
          clear hb HF7
          go_wp2_with fail
          refine (works_any _ HF8.out.1.1).mono ?_
          rintro e w9 ⟨rfl, hb⟩
          have HF9 := Lib.hid (HF8.out.next hb)
          clear hb HF8
          go_wp2_with fail
          go_ret
          exact ⟨rfl, HF9.out.1.2.2⟩
end Go.Proofs.YtfhmadlobdklbaaDoor
