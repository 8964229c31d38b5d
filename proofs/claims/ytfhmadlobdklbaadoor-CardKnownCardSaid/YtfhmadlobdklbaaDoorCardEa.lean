/- isSpell, isAct, isTrig. (Written by gen5e.py.) -/
import Derived.Test.YtfhmadlobdklbaaDoorCardD
namespace Go.Proofs.YtfhmadlobdklbaaDoor
open Go.RowKit
set_option linter.unusedVariables false
set_option linter.unusedSimpArgs false

/-- May it be, as one that is played? -/
def actB (x : Ab) (T : List Int) (L : List Ins) (cards : Int) : Bool := wi (costL 20 x.c0 x.c1 x.c2 x.c3) && (aimsB T && ((chk L x.tn cards == 0) && onlyB x ⟨0, 0, 0, x.c0, x.c1, x.c2, x.c3, x.tap, x.ta, x.tn, x.tc, x.ca, x.cn, x.cc, 0, 0, 0⟩))
set_option maxRecDepth 100000 in
set_option maxHeartbeats 4000000 in
theorem act_any (x : Ab) (T : List Int) (L : List Ins) (cards : Int) (r : Bool) (hr : actB x T L cards = r) (w : World) (h : AbR w x T L) :
    Calls Tryd.prog 28 #[.agg #[.int .i64 x.k, .int .i64 x.ev, .int .i64 x.wh, .int .i64 x.c0, .int .i64 x.c1, .int .i64 x.c2, .int .i64 x.c3, .bool x.tap, .slice x.ta x.tn x.tc, .slice x.ca x.cn x.cc, .int .i64 x.op, .int .i64 x.a, .int .i64 x.b], .int .i64 cards] w fun e w' => e = .returned (.bool r) ∧ Below w.heap.size w w' := by
  have HW := Lib.hid (below_alloc1 w (.cells #[.int .i64 x.k, .int .i64 x.ev, .int .i64 x.wh, .int .i64 x.c0, .int .i64 x.c1, .int .i64 x.c2, .int .i64 x.c3, .bool x.tap, .slice x.ta x.tn x.tc, .slice x.ca x.cn x.cc, .int .i64 x.op, .int .i64 x.a, .int .i64 x.b] 62))
  have HZ := Lib.hid (show w.heap.size + 1 = (w.alloc (.cells #[.int .i64 x.k, .int .i64 x.ev, .int .i64 x.wh, .int .i64 x.c0, .int .i64 x.c1, .int .i64 x.c2, .int .i64 x.c3, .bool x.tap, .slice x.ta x.tn x.tc, .slice x.ca x.cn x.cc, .int .i64 x.op, .int .i64 x.a, .int .i64 x.b] 62)).heap.size by simp)
  have HX := Lib.hid (boxA_new w x 62)
  have HA := Lib.hid (h.next HW.out)
  have HR := Lib.hid hr
  clear hr h
  cases t1 : wi (costL 20 x.c0 x.c1 x.c2 x.c3)
  · have HV := Lib.hid (show r = false by rw [← HR.out]; simp [actB, t1])
    have Ht1 := Lib.hid t1
    clear t1
    go_enter Tryd.func28, Tryd.ntmps28
    go_wp2_with fail
    generalize w.alloc (.cells #[.int .i64 x.k, .int .i64 x.ev, .int .i64 x.wh, .int .i64 x.c0, .int .i64 x.c1, .int .i64 x.c2, .int .i64 x.c3, .bool x.tap, .slice x.ta x.tn x.tc, .slice x.ca x.cn x.cc, .int .i64 x.op, .int .i64 x.a, .int .i64 x.b] 62) = W at *
    refine (isCost_any x.c0 x.c1 x.c2 x.c3 20 _ Ht1.out _).mono ?_
    rintro e w1 ⟨rfl, hb⟩
    have HB1 := Lib.hid (hb)
    clear hb
    obtain ⟨q0, q1, q2, q3, q4, q5, q6, q7, q8, q9, q10, q11, q12⟩ := (HX.out.next HB1.out).cells
    go_wp2_with fail
    go_ret
    exact ⟨bool_ret (HV.out.symm), HW.out.trans (HB1.out.mono HW.out.size)⟩
  · skip
    cases t2 : aimsB T
    · have HV := Lib.hid (show r = false by rw [← HR.out]; simp [actB, t1, t2])
      have Ht1 := Lib.hid t1
      have Ht2 := Lib.hid t2
      clear t1 t2
      go_enter Tryd.func28, Tryd.ntmps28
      go_wp2_with fail
      generalize w.alloc (.cells #[.int .i64 x.k, .int .i64 x.ev, .int .i64 x.wh, .int .i64 x.c0, .int .i64 x.c1, .int .i64 x.c2, .int .i64 x.c3, .bool x.tap, .slice x.ta x.tn x.tc, .slice x.ca x.cn x.cc, .int .i64 x.op, .int .i64 x.a, .int .i64 x.b] 62) = W at *
      refine (isCost_any x.c0 x.c1 x.c2 x.c3 20 _ Ht1.out _).mono ?_
      rintro e w1 ⟨rfl, hb⟩
      have HB1 := Lib.hid (hb)
      clear hb
      obtain ⟨q0, q1, q2, q3, q4, q5, q6, q7, q8, q9, q10, q11, q12⟩ := (HX.out.next HB1.out).cells
      go_wp2_with fail
      refine (aims_any x T _ Ht2.out _ (HA.out.next HB1.out).1.1 (HA.out.next HB1.out).1.2).mono ?_
      rintro e w2 ⟨rfl, hb⟩
      have HB2 := Lib.hid (below_then' HB1.out hb HB1.out.size)
      clear hb
      clear q0 q1 q2 q3 q4 q5 q6 q7 q8 q9 q10 q11 q12
      obtain ⟨q0, q1, q2, q3, q4, q5, q6, q7, q8, q9, q10, q11, q12⟩ := (HX.out.next HB2.out).cells
      go_wp2_with fail
      go_ret
      exact ⟨bool_ret (HV.out.symm), HW.out.trans (HB2.out.mono HW.out.size)⟩
    · skip
      cases t3 : (chk L x.tn cards == 0)
      · have HV := Lib.hid (show r = false by rw [← HR.out]; simp [actB, t1, t2, t3])
        have Ht1 := Lib.hid t1
        have Ht2 := Lib.hid t2
        have Ht3 := Lib.hid t3
        clear t1 t2 t3
        go_enter Tryd.func28, Tryd.ntmps28
        go_wp2_with fail
        generalize w.alloc (.cells #[.int .i64 x.k, .int .i64 x.ev, .int .i64 x.wh, .int .i64 x.c0, .int .i64 x.c1, .int .i64 x.c2, .int .i64 x.c3, .bool x.tap, .slice x.ta x.tn x.tc, .slice x.ca x.cn x.cc, .int .i64 x.op, .int .i64 x.a, .int .i64 x.b] 62) = W at *
        refine (isCost_any x.c0 x.c1 x.c2 x.c3 20 _ Ht1.out _).mono ?_
        rintro e w1 ⟨rfl, hb⟩
        have HB1 := Lib.hid (hb)
        clear hb
        obtain ⟨q0, q1, q2, q3, q4, q5, q6, q7, q8, q9, q10, q11, q12⟩ := (HX.out.next HB1.out).cells
        go_wp2_with fail
        refine (aims_any x T _ Ht2.out _ (HA.out.next HB1.out).1.1 (HA.out.next HB1.out).1.2).mono ?_
        rintro e w2 ⟨rfl, hb⟩
        have HB2 := Lib.hid (below_then' HB1.out hb HB1.out.size)
        clear hb
        clear q0 q1 q2 q3 q4 q5 q6 q7 q8 q9 q10 q11 q12
        obtain ⟨q0, q1, q2, q3, q4, q5, q6, q7, q8, q9, q10, q11, q12⟩ := (HX.out.next HB2.out).cells
        go_wp2_with fail
        refine (runs_any x T L cards _ Ht3.out _ (HA.out.next HB2.out)).mono ?_
        rintro e w3 ⟨rfl, hb⟩
        have HB3 := Lib.hid (below_then' HB2.out hb HB2.out.size)
        clear hb
        clear q0 q1 q2 q3 q4 q5 q6 q7 q8 q9 q10 q11 q12
        obtain ⟨q0, q1, q2, q3, q4, q5, q6, q7, q8, q9, q10, q11, q12⟩ := (HX.out.next HB3.out).cells
        go_wp2_with fail
        go_ret
        exact ⟨bool_ret (HV.out.symm), HW.out.trans (HB3.out.mono HW.out.size)⟩
      · have HV := Lib.hid (show onlyB x ⟨0, 0, 0, x.c0, x.c1, x.c2, x.c3, x.tap, x.ta, x.tn, x.tc, x.ca, x.cn, x.cc, 0, 0, 0⟩ = r by rw [← HR.out]; simp [actB, t1, t2, t3])
        have Ht1 := Lib.hid t1
        have Ht2 := Lib.hid t2
        have Ht3 := Lib.hid t3
        clear t1 t2 t3
        go_enter Tryd.func28, Tryd.ntmps28
        go_wp2_with fail
        generalize w.alloc (.cells #[.int .i64 x.k, .int .i64 x.ev, .int .i64 x.wh, .int .i64 x.c0, .int .i64 x.c1, .int .i64 x.c2, .int .i64 x.c3, .bool x.tap, .slice x.ta x.tn x.tc, .slice x.ca x.cn x.cc, .int .i64 x.op, .int .i64 x.a, .int .i64 x.b] 62) = W at *
        refine (isCost_any x.c0 x.c1 x.c2 x.c3 20 _ Ht1.out _).mono ?_
        rintro e w1 ⟨rfl, hb⟩
        have HB1 := Lib.hid (hb)
        clear hb
        obtain ⟨q0, q1, q2, q3, q4, q5, q6, q7, q8, q9, q10, q11, q12⟩ := (HX.out.next HB1.out).cells
        go_wp2_with fail
        refine (aims_any x T _ Ht2.out _ (HA.out.next HB1.out).1.1 (HA.out.next HB1.out).1.2).mono ?_
        rintro e w2 ⟨rfl, hb⟩
        have HB2 := Lib.hid (below_then' HB1.out hb HB1.out.size)
        clear hb
        clear q0 q1 q2 q3 q4 q5 q6 q7 q8 q9 q10 q11 q12
        obtain ⟨q0, q1, q2, q3, q4, q5, q6, q7, q8, q9, q10, q11, q12⟩ := (HX.out.next HB2.out).cells
        go_wp2_with fail
        refine (runs_any x T L cards _ Ht3.out _ (HA.out.next HB2.out)).mono ?_
        rintro e w3 ⟨rfl, hb⟩
        have HB3 := Lib.hid (below_then' HB2.out hb HB2.out.size)
        clear hb
        clear q0 q1 q2 q3 q4 q5 q6 q7 q8 q9 q10 q11 q12
        obtain ⟨q0, q1, q2, q3, q4, q5, q6, q7, q8, q9, q10, q11, q12⟩ := (HX.out.next HB3.out).cells
        go_wp2_with fail
        refine (isOnly_any x ⟨0, 0, 0, x.c0, x.c1, x.c2, x.c3, x.tap, x.ta, x.tn, x.tc, x.ca, x.cn, x.cc, 0, 0, 0⟩ r HV.out _).mono ?_
        rintro e w4 ⟨rfl, hb⟩
        have HB4 := Lib.hid (below_then' HB3.out hb HB3.out.size)
        clear hb
        clear q0 q1 q2 q3 q4 q5 q6 q7 q8 q9 q10 q11 q12
        obtain ⟨q0, q1, q2, q3, q4, q5, q6, q7, q8, q9, q10, q11, q12⟩ := (HX.out.next HB4.out).cells
        go_wp2_with fail
        go_ret
        exact ⟨bool_ret (rfl), HW.out.trans (HB4.out.mono HW.out.size)⟩
end Go.Proofs.YtfhmadlobdklbaaDoor
