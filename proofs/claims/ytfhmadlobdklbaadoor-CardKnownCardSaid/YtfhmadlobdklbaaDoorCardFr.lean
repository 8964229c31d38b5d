/- repl. (Written by gen5f.py.) -/
import Derived.Test.YtfhmadlobdklbaaDoorCardFa
namespace Go.Proofs.YtfhmadlobdklbaaDoor
open Go.RowKit
set_option linter.unusedVariables false
set_option linter.unusedSimpArgs false

/-- May it be, as one that is done instead? -/
def replB (x : Ab) : Bool := wi [⟨x.ev, 1, 4⟩] && (wi [⟨x.wh, (insT.getD (x.ev.toNat * 4 + 0) 0), (insT.getD (x.ev.toNat * 4 + 1) 0)⟩, ⟨x.a, (insT.getD (x.ev.toNat * 4 + 2) 0), (insT.getD (x.ev.toNat * 4 + 3) 0)⟩] && onlyB x ⟨0, x.ev, x.wh, 0, 0, 0, 0, false, none, 0, 0, none, 0, 0, 0, x.a, 0⟩)
set_option maxRecDepth 100000 in
set_option maxHeartbeats 4000000 in
theorem repl_any (x : Ab) (cards : Int) (r : Bool) (hr : replB x = r) (w : World) (hT : Tabs w) :
    Calls Tryd.prog 31 #[.agg #[.int .i64 x.k, .int .i64 x.ev, .int .i64 x.wh, .int .i64 x.c0, .int .i64 x.c1, .int .i64 x.c2, .int .i64 x.c3, .bool x.tap, .slice x.ta x.tn x.tc, .slice x.ca x.cn x.cc, .int .i64 x.op, .int .i64 x.a, .int .i64 x.b], .int .i64 cards] w fun e w' => e = .returned (.bool r) ∧ Below w.heap.size w w' := by
  have HW := Lib.hid (below_alloc1 w (.cells #[.int .i64 x.k, .int .i64 x.ev, .int .i64 x.wh, .int .i64 x.c0, .int .i64 x.c1, .int .i64 x.c2, .int .i64 x.c3, .bool x.tap, .slice x.ta x.tn x.tc, .slice x.ca x.cn x.cc, .int .i64 x.op, .int .i64 x.a, .int .i64 x.b] 62))
  have HZ := Lib.hid (show w.heap.size + 1 = (w.alloc (.cells #[.int .i64 x.k, .int .i64 x.ev, .int .i64 x.wh, .int .i64 x.c0, .int .i64 x.c1, .int .i64 x.c2, .int .i64 x.c3, .bool x.tap, .slice x.ta x.tn x.tc, .slice x.ca x.cn x.cc, .int .i64 x.op, .int .i64 x.a, .int .i64 x.b] 62)).heap.size by simp)
  have HX := Lib.hid (boxA_new w x 62)
  have HT := Lib.hid (hT.next HW.out)
  have HR := Lib.hid hr
  clear hr hT
  cases t1 : wi [⟨x.ev, 1, 4⟩]
  · have HV := Lib.hid (show r = false by rw [← HR.out]; simp [replB, t1])
    have Ht1 := Lib.hid t1
    clear t1
    go_enter Tryd.func31, Tryd.ntmps31
    go_wp2_with fail
    generalize w.alloc (.cells #[.int .i64 x.k, .int .i64 x.ev, .int .i64 x.wh, .int .i64 x.c0, .int .i64 x.c1, .int .i64 x.c2, .int .i64 x.c3, .bool x.tap, .slice x.ta x.tn x.tc, .slice x.ca x.cn x.cc, .int .i64 x.op, .int .i64 x.a, .int .i64 x.b] 62) = W at *
    refine (within_at [⟨x.ev, 1, 4⟩] _ _ rfl 1 rfl (by omega) _ Ht1.out _ _ HZ.out).mono ?_
    rintro e w1 ⟨rfl, hb⟩
    have HB1 := Lib.hid hb
    clear hb
    obtain ⟨q0, q1, q2, q3, q4, q5, q6, q7, q8, q9, q10, q11, q12⟩ := (HX.out.next HB1.out).cells
    go_wp2_with fail
    go_ret
    exact ⟨bool_ret HV.out.symm, HW.out.trans (HB1.out.mono HW.out.size)⟩
  · obtain ⟨j, hj, hj1, hj4⟩ : ∃ j : Nat, x.ev = (j : Int) ∧ 1 ≤ j ∧ j ≤ 4 := by
      have := (btw_iff _ _ _).1 (wi_one x.ev 1 4 ▸ t1)
      exact ⟨x.ev.toNat, by omega, by omega, by omega⟩
    obtain ⟨l0, hl0⟩ : ∃ l, insT.getD (j * 4) 0 = l := ⟨_, rfl⟩
    obtain ⟨l1, hl1⟩ : ∃ l, insT.getD (j * 4 + 1) 0 = l := ⟨_, rfl⟩
    obtain ⟨l2, hl2⟩ : ∃ l, insT.getD (j * 4 + 2) 0 = l := ⟨_, rfl⟩
    obtain ⟨l3, hl3⟩ : ∃ l, insT.getD (j * 4 + 3) 0 = l := ⟨_, rfl⟩
    have HE := Lib.hid (show (wi [⟨x.wh, l0, l1⟩, ⟨x.a, l2, l3⟩] && onlyB x ⟨0, x.ev, x.wh, 0, 0, 0, 0, false, none, 0, 0, none, 0, 0, 0, x.a, 0⟩) = r by
      rw [← HR.out, replB, t1, Bool.true_and]
      simp only [hj, Int.toNat_natCast, Nat.add_zero, hl0, hl1, hl2, hl3])
    have Ht1 := Lib.hid t1
    have HJ := Lib.hid hj
    clear t1 hj
    have HL := Lib.hid (show insT.getD (j * 4) 0 = l0 ∧ insT.getD (j * 4 + 1) 0 = l1 ∧ insT.getD (j * 4 + 2) 0 = l2 ∧ insT.getD (j * 4 + 3) 0 = l3 from ⟨hl0, hl1, hl2, hl3⟩)
    clear hl0 hl1 hl2 hl3
    cases t2 : wi [⟨x.wh, l0, l1⟩, ⟨x.a, l2, l3⟩]
    · have HV := Lib.hid (show r = false by rw [← HE.out]; simp only [t2, Bool.false_and])
      have Ht2 := Lib.hid t2
      clear t2
      go_enter Tryd.func31, Tryd.ntmps31
      go_wp2_with fail
      generalize w.alloc (.cells #[.int .i64 x.k, .int .i64 x.ev, .int .i64 x.wh, .int .i64 x.c0, .int .i64 x.c1, .int .i64 x.c2, .int .i64 x.c3, .bool x.tap, .slice x.ta x.tn x.tc, .slice x.ca x.cn x.cc, .int .i64 x.op, .int .i64 x.a, .int .i64 x.b] 62) = W at *
      refine (within_at [⟨x.ev, 1, 4⟩] _ _ rfl 1 rfl (by omega) _ Ht1.out _ _ HZ.out).mono ?_
      rintro e w1 ⟨rfl, hb⟩
      have HB1 := Lib.hid hb
      clear hb
      obtain ⟨q0, q1, q2, q3, q4, q5, q6, q7, q8, q9, q10, q11, q12⟩ := (HX.out.next HB1.out).cells
      obtain ⟨m0, m1, m2, m3⟩ : w1.cell? ⟨2, j * 4, none⟩ = some (.int .i64 l0) ∧ w1.cell? ⟨2, j * 4 + 1, none⟩ = some (.int .i64 l1) ∧ w1.cell? ⟨2, j * 4 + 2, none⟩ = some (.int .i64 l2) ∧ w1.cell? ⟨2, j * 4 + 3, none⟩ = some (.int .i64 l3) := by
        have h := (HT.out.next HB1.out).ins
        exact ⟨by rw [h _ (by omega), HL.out.1], by rw [h _ (by omega), HL.out.2.1], by rw [h _ (by omega), HL.out.2.2.1], by rw [h _ (by omega), HL.out.2.2.2]⟩
      rw [HJ.out] at q1
      have hz1 : w.heap.size < w1.heap.size := by have := HB1.out.size; have := HZ.out; omega
      go_wp2_with fail
      refine (within_at [⟨x.wh, l0, l1⟩, ⟨x.a, l2, l3⟩] _ _ rfl 2 rfl (by omega) _ Ht2.out _ _ (size_one _ _)).mono ?_
      rintro e w2 ⟨rfl, hb⟩
      have HB2 := Lib.hid (below_alloc_then HB1.out hb HB1.out.size)
      clear hb q0 q1 q2 q3 q4 q5 q6 q7 q8 q9 q10 q11 q12 m0 m1 m2 m3
      obtain ⟨q0, q1, q2, q3, q4, q5, q6, q7, q8, q9, q10, q11, q12⟩ := (HX.out.next HB2.out).cells
      go_wp2_with fail
      go_ret
      exact ⟨bool_ret HV.out.symm, HW.out.trans (HB2.out.mono HW.out.size)⟩
    · have HV := Lib.hid (show onlyB x ⟨0, x.ev, x.wh, 0, 0, 0, 0, false, none, 0, 0, none, 0, 0, 0, x.a, 0⟩ = r by rw [← HE.out]; simp only [t2, Bool.true_and])
      have Ht2 := Lib.hid t2
      clear t2
      go_enter Tryd.func31, Tryd.ntmps31
      go_wp2_with fail
      generalize w.alloc (.cells #[.int .i64 x.k, .int .i64 x.ev, .int .i64 x.wh, .int .i64 x.c0, .int .i64 x.c1, .int .i64 x.c2, .int .i64 x.c3, .bool x.tap, .slice x.ta x.tn x.tc, .slice x.ca x.cn x.cc, .int .i64 x.op, .int .i64 x.a, .int .i64 x.b] 62) = W at *
      refine (within_at [⟨x.ev, 1, 4⟩] _ _ rfl 1 rfl (by omega) _ Ht1.out _ _ HZ.out).mono ?_
      rintro e w1 ⟨rfl, hb⟩
      have HB1 := Lib.hid hb
      clear hb
      obtain ⟨q0, q1, q2, q3, q4, q5, q6, q7, q8, q9, q10, q11, q12⟩ := (HX.out.next HB1.out).cells
      obtain ⟨m0, m1, m2, m3⟩ : w1.cell? ⟨2, j * 4, none⟩ = some (.int .i64 l0) ∧ w1.cell? ⟨2, j * 4 + 1, none⟩ = some (.int .i64 l1) ∧ w1.cell? ⟨2, j * 4 + 2, none⟩ = some (.int .i64 l2) ∧ w1.cell? ⟨2, j * 4 + 3, none⟩ = some (.int .i64 l3) := by
        have h := (HT.out.next HB1.out).ins
        exact ⟨by rw [h _ (by omega), HL.out.1], by rw [h _ (by omega), HL.out.2.1], by rw [h _ (by omega), HL.out.2.2.1], by rw [h _ (by omega), HL.out.2.2.2]⟩
      rw [HJ.out] at q1
      have hz1 : w.heap.size < w1.heap.size := by have := HB1.out.size; have := HZ.out; omega
      go_wp2_with fail
      refine (within_at [⟨x.wh, l0, l1⟩, ⟨x.a, l2, l3⟩] _ _ rfl 2 rfl (by omega) _ Ht2.out _ _ (size_one _ _)).mono ?_
      rintro e w2 ⟨rfl, hb⟩
      have HB2 := Lib.hid (below_alloc_then HB1.out hb HB1.out.size)
      clear hb q0 q1 q2 q3 q4 q5 q6 q7 q8 q9 q10 q11 q12 m0 m1 m2 m3
      obtain ⟨q0, q1, q2, q3, q4, q5, q6, q7, q8, q9, q10, q11, q12⟩ := (HX.out.next HB2.out).cells
      go_wp2_with fail
      refine (isOnly_any x ⟨0, x.ev, x.wh, 0, 0, 0, 0, false, none, 0, 0, none, 0, 0, 0, x.a, 0⟩ r HV.out _).mono ?_
      rintro e w3 ⟨rfl, hb⟩
      have HB3 := Lib.hid (below_then' HB2.out hb HB2.out.size)
      clear hb
      go_wp2_with fail
      go_ret
      exact ⟨rfl, HW.out.trans (HB3.out.mono HW.out.size)⟩
end Go.Proofs.YtfhmadlobdklbaaDoor
