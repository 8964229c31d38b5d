/- The walk of CodeKnown. -/
import Derived.Test.YtegopamfdgeblaaDoorCodeX1
namespace Go.Proofs.YtegopamfdgeblaaDoor
open Go.RowKit
set_option linter.unusedVariables false
set_option linter.unusedSimpArgs false

def zeros96 : Array Value := #[.int .i64 0, .int .i64 0, .int .i64 0, .int .i64 0, .int .i64 0, .int .i64 0, .int .i64 0, .int .i64 0, .int .i64 0, .int .i64 0, .int .i64 0, .int .i64 0, .int .i64 0, .int .i64 0, .int .i64 0, .int .i64 0, .int .i64 0, .int .i64 0, .int .i64 0, .int .i64 0, .int .i64 0, .int .i64 0, .int .i64 0, .int .i64 0, .int .i64 0, .int .i64 0, .int .i64 0, .int .i64 0, .int .i64 0, .int .i64 0, .int .i64 0, .int .i64 0, .int .i64 0, .int .i64 0, .int .i64 0, .int .i64 0, .int .i64 0, .int .i64 0, .int .i64 0, .int .i64 0, .int .i64 0, .int .i64 0, .int .i64 0, .int .i64 0, .int .i64 0, .int .i64 0, .int .i64 0, .int .i64 0, .int .i64 0, .int .i64 0, .int .i64 0, .int .i64 0, .int .i64 0, .int .i64 0, .int .i64 0, .int .i64 0, .int .i64 0, .int .i64 0, .int .i64 0, .int .i64 0, .int .i64 0, .int .i64 0, .int .i64 0, .int .i64 0, .int .i64 0, .int .i64 0, .int .i64 0, .int .i64 0, .int .i64 0, .int .i64 0, .int .i64 0, .int .i64 0, .int .i64 0, .int .i64 0, .int .i64 0, .int .i64 0, .int .i64 0, .int .i64 0, .int .i64 0, .int .i64 0, .int .i64 0, .int .i64 0, .int .i64 0, .int .i64 0, .int .i64 0, .int .i64 0, .int .i64 0, .int .i64 0, .int .i64 0, .int .i64 0, .int .i64 0, .int .i64 0, .int .i64 0, .int .i64 0, .int .i64 0, .int .i64 0]
theorem long_new (W : World) : Long (W.alloc (.cells zeros96 34)) W.heap.size 0 := ⟨zeros96, heap_alloc_new _ _, by decide, fun j hj => by omega⟩
theorem make_long (W : World) : (Instr.makeSlice 22 (.int .i64 32) (.int .i64 32)).run Tryd.prog W = .ok (.slice (some ⟨W.heap.size, 0, none⟩) 32 32) (W.alloc (.cells zeros96 34)) := by kernel_rfl
set_option maxRecDepth 100000 in
set_option maxHeartbeats 8000000 in
theorem walk_CodeKnown (w : World) (hT : Tabs w) :
    Calls Tryd.prog 8 #[] w fun e w' => e = .returned (.bool true) ∧ Below w.heap.size w w' := by
  have HT := Lib.hid hT
  have HK := Lib.hid (Kept.start w)
  clear hT
  go_enter Tryd.func8, Tryd.ntmps8
  go_wp2_with (go_at_call 17; refine (in_step HK.out _ _ _).mono ?_; rintro e w' ⟨rfl, hk⟩; replace HK := Lib.hid hk; clear hk)
  go_loopw [2] (fun q wr => ∃ k : Nat, q = .int .i64 (k : Int) ∧ k ≤ 35 ∧ Kept w wr [(some ⟨w'.heap.size, 0, none⟩, 35, cGood)]) (fun q _ => 35 - (intOf q).toNat)
  case atStart => exact ⟨0, rfl, Nat.zero_le _, HK.out.new cGood _ rfl (by rw [good_len]; omega)⟩
  case round =>
    clear HK
    obtain ⟨k, rfl, hk, hkp⟩ := hrel
    have HK := Lib.hid hkp
    clear hkp
    by_cases hlt : k < 35
    · obtain ⟨b, off, x, hx, he, x0, x1, x2⟩ := (HK.out.2 _ (List.mem_singleton.2 rfl)).at k (by show k < cGood.length; rw [good_len]; exact hlt)
      cases he
      simp only [Nat.zero_add] at x0 x1 x2
      have HOK := Lib.hid (good_ok x (by rw [hx]; exact List.getElem_mem _))
      clear hx
      go_wp2_with fail
      refine (check_new HK.out [x] _ rfl 1 rfl (by omega) _ _ _ HOK.out).mono ?_
      rintro e w5 ⟨rfl, hk5⟩
      have HK5 := Lib.hid hk5
      clear hk5
      go_wp2_with fail
      go_roundw
      case rel => exact ⟨k + 1, by go_num, by omega, HK5.out⟩
      case measure => simp [intOf]; omega
    · have HK0 := HK
      replace HK := Lib.hid HK.out.less
      clear HK0
      generalize wr = ws at *
      go_wp2_with (go_at_call 17; refine (in_step HK.out _ _ _).mono ?_; rintro e w' ⟨rfl, hk⟩; replace HK := Lib.hid hk; clear hk)
      go_loopw [4] (fun q wr => ∃ k : Nat, q = .int .i64 (k : Int) ∧ k ≤ 40 ∧ Kept w wr [(some ⟨w'.heap.size, 0, none⟩, 40, cBad)]) (fun q _ => 40 - (intOf q).toNat)
      case atStart => exact ⟨0, rfl, Nat.zero_le _, HK.out.new cBad _ rfl (by rw [bad_len]; omega)⟩
      case round =>
        clear HK
        obtain ⟨k, rfl, hk, hkp⟩ := hrel
        have HK := Lib.hid hkp
        clear hkp
        by_cases hlt : k < 40
        · obtain ⟨b, off, x, hx, he, x0, x1, x2⟩ := (HK.out.2 _ (List.mem_singleton.2 rfl)).at k (by show k < cBad.length; rw [bad_len]; exact hlt)
          cases he
          simp only [Nat.zero_add] at x0 x1 x2
          have HOK := Lib.hid (bad_ok x (by rw [hx]; exact List.getElem_mem _))
          clear hx
          go_wp2_with fail
          refine (check_new HK.out [x] _ rfl 1 rfl (by omega) _ _ _ HOK.out).mono ?_
          rintro e w5 ⟨rfl, hk5⟩
          have HK5 := Lib.hid hk5
          clear hk5
          go_wp2_with fail
          go_roundw
          case rel => exact ⟨k + 1, by go_num, by omega, HK5.out⟩
          case measure => simp [intOf]; omega
        · have HK0 := HK
          replace HK := Lib.hid HK.out.less
          clear HK0
          generalize wr = ws2 at *
          have hmk := make_long
          have HLN := Lib.hid (long_new ws2)
          have HKN := Lib.hid (HK.out.next (below_alloc1 ws2 (.cells zeros96 34)))
          go_wp2_with fail
          have hgl : w.heap.size ≤ ws2.heap.size := HK.out.1.size
          generalize (ws2.alloc (.cells zeros96 34)) = W2 at *
          generalize ws2.heap.size = gl at *
          clear hmk HK
          go_loopw [6] (fun q wr => ∃ k : Nat, q = .int .i64 (k : Int) ∧ k ≤ 32 ∧ Long wr gl k ∧ Below w.heap.size w wr) (fun q _ => 32 - (intOf q).toNat)
          case atStart => exact ⟨0, rfl, Nat.zero_le _, HLN.out, HKN.out.1⟩
          case round =>
            clear HLN HKN
            obtain ⟨k, rfl, hk, hln, hbw⟩ := hrel
            have HL := Lib.hid hln
            have HB := Lib.hid hbw
            clear hln hbw
            by_cases hlt : k < 32
            · go_wp2_with fail
              refine (in_any _ _ _ _).mono ?_
              rintro e w6 ⟨rfl, b6⟩
              have HL6 := Lib.hid (HL.out.next b6)
              have HB6 := Lib.hid (below_then' HB.out b6 HB.out.size)
              obtain ⟨v0, c0⟩ := HL6.out.cell (k * 3) (by omega)
              obtain ⟨v1, c1⟩ := HL6.out.cell (k * 3 + 1) (by omega)
              obtain ⟨v2, c2⟩ := HL6.out.cell (k * 3 + 2) (by omega)
              have f0 := HL6.out.free (k * 3)
              have f1 := HL6.out.free (k * 3 + 1)
              have f2 := HL6.out.free (k * 3 + 2)
              clear b6
              go_wp2_with fail
              go_roundw
              case rel => exact ⟨k + 1, by go_num, by omega, HL6.out.step hlt, ((HB6.out.setCell (p := ⟨gl, k * 3, none⟩) hgl _).setCell (p := ⟨gl, k * 3 + 1, none⟩) hgl _).setCell (p := ⟨gl, k * 3 + 2, none⟩) hgl _⟩
              case measure => simp [intOf]; omega
            · obtain rfl : k = 32 := by omega
              obtain ⟨i0, hi, hz0, hz1, hz2⟩ := info_parts insInfo
              go_wp2_with fail
              refine (check_at _ _ cLong 32 rfl _ _ _ chk_long _ HL.out.isC).mono ?_
              rintro e w7 ⟨rfl, b7⟩
              have HL7 := Lib.hid (HL.out.next b7)
              have HB7 := Lib.hid (below_then' HB.out b7 HB.out.size)
              clear b7
              go_wp2_with fail
              refine (in_any _ _ _ _).mono ?_
              rintro e w8 ⟨rfl, b8⟩
              have HL8 := Lib.hid ((HL7.out.next b8).next (below_alloc1 w8 (.cells #[.int .i64 24, .int .i64 0, .int .i64 0] 34)))
              have HB8 := Lib.hid ((below_then' HB7.out b8 HB7.out.size).alloc (below_then' HB7.out b8 HB7.out.size).size (.cells #[.int .i64 24, .int .i64 0, .int .i64 0] 34))
              clear b8
              go_wp2_with (at_builtin; refine wpList_append_own _ rfl _ _ 22 rfl w.heap.size 34 i0 (.agg #[.int .i64 0, .int .i64 0, .int .i64 0]) 3 24 Tryd.underlying22 hi hz0 hz1 hz2 rfl (by decide) _ 32 (insCells cLong) rfl (HL8.out.own hgl) ⟨w8.heap.size, 0, none⟩ 1 1 [.int .i64 24, .int .i64 0, .int .i64 0] rfl rfl (new3 _ _ _ _ _) (by simp [Value.oneCell']) ?c1 ?c2 ?c3 ?_)
              case c1 => unfold maxLen; omega
              case c2 => omega
              case c3 => exact HB8.out.size
              intro v9 w9 hown9 hgrow9 hne9
              obtain ⟨g9, c9, rfl, hC9⟩ := own_isC hown9 (cLong ++ [⟨24, 0, 0⟩]) long_more rfl (by omega)
              have HC9 := Lib.hid hC9
              have HB9 := Lib.hid (HB8.out.grown hgrow9 HB8.out.size (fun k e => by cases e; exact hgl))
              clear hown9 hgrow9 hne9 hC9
              go_wp2_with fail
              refine (check_at _ _ (cLong ++ [⟨24, 0, 0⟩]) 33 rfl _ _ _ chk_longer _ HC9.out).mono ?_
              rintro e w10 ⟨rfl, b10⟩
              have HK := Lib.hid (show Kept w w10 [] from ⟨below_then' HB9.out b10 HB9.out.size, fun c hc => by cases hc⟩)
              clear b10
              go_wp2_with (go_at_call 17; refine (in_step HK.out _ _ _).mono ?_; rintro e w' ⟨rfl, hk⟩; replace HK := Lib.hid hk; clear hk)
              refine (text_new HK.out HT.out cAll _ rfl 22 rfl (by omega) all_in _ all_text).mono ?_
              rintro e w21 ⟨rfl, hk⟩
              replace HK := Lib.hid hk; clear hk
              go_wp2_with fail
              refine (works_any _ (HT.out.next HK.out.1)).mono ?_
              rintro e w22 ⟨rfl, bw⟩
              replace HK := Lib.hid (HK.out.next bw); clear bw
              go_wp2_with fail
              refine (check_nil HK.out 0 0 0 (by decide)).mono ?_
              rintro e w23 ⟨rfl, hk⟩
              replace HK := Lib.hid hk; clear hk
              go_wp2_with fail
              refine (check_nil HK.out 3 0 2 (by decide)).mono ?_
              rintro e w24 ⟨rfl, hk⟩
              replace HK := Lib.hid hk; clear hk
              go_wp2_with fail
              refine (check_nil HK.out (-1) 0 2 (by decide)).mono ?_
              rintro e w25 ⟨rfl, hk⟩
              replace HK := Lib.hid hk; clear hk
              go_wp2_with fail
              refine (check_nil HK.out 0 41 2 (by decide)).mono ?_
              rintro e w26 ⟨rfl, hk⟩
              replace HK := Lib.hid hk; clear hk
              go_wp2_with fail
              refine (check_nil HK.out 0 (-1) 2 (by decide)).mono ?_
              rintro e w27 ⟨rfl, hk⟩
              replace HK := Lib.hid hk; clear hk
              go_wp2_with fail
              refine (text_nil HK.out HT.out).mono ?_
              rintro e w28 ⟨rfl, hk⟩
              replace HK := Lib.hid hk; clear hk
              go_wp2_with fail
              refine (in_step HK.out _ _ _).mono ?_
              rintro e w29 ⟨rfl, hk⟩
              replace HK := Lib.hid hk; clear hk
              go_wp2_with fail
              refine (ways_new HK.out [⟨9, 1, 0⟩] _ rfl 1 rfl (by omega) _ [1] (by decide) 1 rfl).mono ?_
              rintro e w30 ⟨p, c, rfl, hi', hk⟩
              replace HK := Lib.hid hk; clear hk
              have HI := Lib.hid hi'; clear hi'
              go_wp2_with fail
              refine (ints_step HK.out HI.out _ rfl 1 rfl (by omega)).mono ?_
              rintro e w31 ⟨rfl, hk⟩
              replace HK := Lib.hid hk; clear hk
              clear HI
              go_wp2_with fail
              refine (in_step HK.out _ _ _).mono ?_
              rintro e w32 ⟨rfl, hk⟩
              replace HK := Lib.hid hk; clear hk
              go_wp2_with fail
              refine (ways_new HK.out [⟨9, 0, 0⟩] _ rfl 1 rfl (by omega) _ [0, 1] (by decide) 2 rfl).mono ?_
              rintro e w33 ⟨p, c, rfl, hi', hk⟩
              replace HK := Lib.hid hk; clear hk
              have HI := Lib.hid hi'; clear hi'
              go_wp2_with fail
              refine (ints_step HK.out HI.out _ rfl 2 rfl (by omega)).mono ?_
              rintro e w34 ⟨rfl, hk⟩
              replace HK := Lib.hid hk; clear hk
              clear HI
              go_wp2_with fail
              refine (in_step HK.out _ _ _).mono ?_
              rintro e w35 ⟨rfl, hk⟩
              replace HK := Lib.hid hk; clear hk
              go_wp2_with fail
              refine (ways_new HK.out [⟨8, 9, 0⟩] _ rfl 1 rfl (by omega) _ [9] (by decide) 1 rfl).mono ?_
              rintro e w36 ⟨p, c, rfl, hi', hk⟩
              replace HK := Lib.hid hk; clear hk
              have HI := Lib.hid hi'; clear hi'
              go_wp2_with fail
              refine (ints_step HK.out HI.out _ rfl 1 rfl (by omega)).mono ?_
              rintro e w37 ⟨rfl, hk⟩
              replace HK := Lib.hid hk; clear hk
              clear HI
              go_wp2_with fail
              refine (ways_nil HK.out 0).mono ?_
              rintro e w38 ⟨p, c, rfl, hi', hk⟩
              replace HK := Lib.hid hk; clear hk
              have HI := Lib.hid hi'; clear hi'
              go_wp2_with fail
              refine (ints_nil HK.out HI.out).mono ?_
              rintro e w39 ⟨rfl, hk⟩
              replace HK := Lib.hid hk; clear hk
              clear HI
              go_wp2_with fail
              refine (ways_low HK.out _ _ _).mono ?_
              rintro e w40 ⟨p, c, rfl, hi', hk⟩
              replace HK := Lib.hid hk; clear hk
              have HI := Lib.hid hi'; clear hi'
              go_wp2_with fail
              refine (ints_nil HK.out HI.out).mono ?_
              rintro e w41 ⟨rfl, hk⟩
              replace HK := Lib.hid hk; clear hk
              clear HI
              go_wp2_with fail
              go_ret
              exact ⟨rfl, HK.out.1⟩
end Go.Proofs.YtegopamfdgeblaaDoor
