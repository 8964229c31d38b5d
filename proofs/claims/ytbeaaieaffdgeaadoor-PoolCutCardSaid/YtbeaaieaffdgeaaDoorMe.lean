/- Texts that belong together: CardE, CardEa, CardEt, CardFa, CardFs, CardFr. -/
import Derived.Test.YtbeaaieaffdgeaaDoorMd
/- isSpell, isAct, isTrig. (Written by gen5e.py.) -/
section
namespace Go.Proofs.YtbeaaieaffdgeaaDoor
open Go.RowKit
set_option linter.unusedVariables false
set_option linter.unusedSimpArgs false

/-- May it be, as one of a spell? -/
def spellB (x : Ab) (T : List Int) (L : List Ins) (cards : Int) : Bool := aimsB T && ((chk L x.tn cards == 0) && onlyB x ⟨0, 0, 0, 0, 0, 0, 0, false, x.ta, x.tn, x.tc, x.ca, x.cn, x.cc, 0, 0, 0⟩)
set_option maxRecDepth 100000 in
set_option maxHeartbeats 4000000 in
theorem spell_any (x : Ab) (T : List Int) (L : List Ins) (cards : Int) (r : Bool) (hr : spellB x T L cards = r) (w : World) (h : AbR w x T L) :
    Calls Tryd.prog 68 #[.agg #[.int .i64 x.k, .int .i64 x.ev, .int .i64 x.wh, .int .i64 x.c0, .int .i64 x.c1, .int .i64 x.c2, .int .i64 x.c3, .bool x.tap, .slice x.ta x.tn x.tc, .slice x.ca x.cn x.cc, .int .i64 x.op, .int .i64 x.a, .int .i64 x.b], .int .i64 cards] w fun e w' => e = .returned (.bool r) ∧ Below w.heap.size w w' := by
  have HW := Lib.hid (below_alloc1 w (.cells #[.int .i64 x.k, .int .i64 x.ev, .int .i64 x.wh, .int .i64 x.c0, .int .i64 x.c1, .int .i64 x.c2, .int .i64 x.c3, .bool x.tap, .slice x.ta x.tn x.tc, .slice x.ca x.cn x.cc, .int .i64 x.op, .int .i64 x.a, .int .i64 x.b] 114))
  have HZ := Lib.hid (show w.heap.size + 1 = (w.alloc (.cells #[.int .i64 x.k, .int .i64 x.ev, .int .i64 x.wh, .int .i64 x.c0, .int .i64 x.c1, .int .i64 x.c2, .int .i64 x.c3, .bool x.tap, .slice x.ta x.tn x.tc, .slice x.ca x.cn x.cc, .int .i64 x.op, .int .i64 x.a, .int .i64 x.b] 114)).heap.size by simp)
  have HX := Lib.hid (boxA_new w x 114)
  have HA := Lib.hid (h.next HW.out)
  have HR := Lib.hid hr
  clear hr h
  cases t1 : aimsB T
  · have HV := Lib.hid (show r = false by rw [← HR.out]; simp [spellB, t1])
    have Ht1 := Lib.hid t1
    clear t1
    go_enter Tryd.func68, Tryd.ntmps68
    go_wp2_with fail
    generalize w.alloc (.cells #[.int .i64 x.k, .int .i64 x.ev, .int .i64 x.wh, .int .i64 x.c0, .int .i64 x.c1, .int .i64 x.c2, .int .i64 x.c3, .bool x.tap, .slice x.ta x.tn x.tc, .slice x.ca x.cn x.cc, .int .i64 x.op, .int .i64 x.a, .int .i64 x.b] 114) = W at *
    refine (aims_any x T _ Ht1.out _ (HA.out).1.1 (HA.out).1.2).mono ?_
    rintro e w1 ⟨rfl, hb⟩
    have HB1 := Lib.hid (hb)
    clear hb
    obtain ⟨q0, q1, q2, q3, q4, q5, q6, q7, q8, q9, q10, q11, q12⟩ := (HX.out.next HB1.out).cells
    go_wp2_with fail
    go_ret
    exact ⟨bool_ret (HV.out.symm), HW.out.trans (HB1.out.mono HW.out.size)⟩
  · skip
    cases t2 : (chk L x.tn cards == 0)
    · have HV := Lib.hid (show r = false by rw [← HR.out]; simp [spellB, t1, t2])
      have Ht1 := Lib.hid t1
      have Ht2 := Lib.hid t2
      clear t1 t2
      go_enter Tryd.func68, Tryd.ntmps68
      go_wp2_with fail
      generalize w.alloc (.cells #[.int .i64 x.k, .int .i64 x.ev, .int .i64 x.wh, .int .i64 x.c0, .int .i64 x.c1, .int .i64 x.c2, .int .i64 x.c3, .bool x.tap, .slice x.ta x.tn x.tc, .slice x.ca x.cn x.cc, .int .i64 x.op, .int .i64 x.a, .int .i64 x.b] 114) = W at *
      refine (aims_any x T _ Ht1.out _ (HA.out).1.1 (HA.out).1.2).mono ?_
      rintro e w1 ⟨rfl, hb⟩
      have HB1 := Lib.hid (hb)
      clear hb
      obtain ⟨q0, q1, q2, q3, q4, q5, q6, q7, q8, q9, q10, q11, q12⟩ := (HX.out.next HB1.out).cells
      go_wp2_with fail
      refine (runs_any x T L cards _ Ht2.out _ (HA.out.next HB1.out)).mono ?_
      rintro e w2 ⟨rfl, hb⟩
      have HB2 := Lib.hid (below_then' HB1.out hb HB1.out.size)
      clear hb
      clear q0 q1 q2 q3 q4 q5 q6 q7 q8 q9 q10 q11 q12
      obtain ⟨q0, q1, q2, q3, q4, q5, q6, q7, q8, q9, q10, q11, q12⟩ := (HX.out.next HB2.out).cells
      go_wp2_with fail
      go_ret
      exact ⟨bool_ret (HV.out.symm), HW.out.trans (HB2.out.mono HW.out.size)⟩
    · have HV := Lib.hid (show onlyB x ⟨0, 0, 0, 0, 0, 0, 0, false, x.ta, x.tn, x.tc, x.ca, x.cn, x.cc, 0, 0, 0⟩ = r by rw [← HR.out]; simp [spellB, t1, t2])
      have Ht1 := Lib.hid t1
      have Ht2 := Lib.hid t2
      clear t1 t2
      go_enter Tryd.func68, Tryd.ntmps68
      go_wp2_with fail
      generalize w.alloc (.cells #[.int .i64 x.k, .int .i64 x.ev, .int .i64 x.wh, .int .i64 x.c0, .int .i64 x.c1, .int .i64 x.c2, .int .i64 x.c3, .bool x.tap, .slice x.ta x.tn x.tc, .slice x.ca x.cn x.cc, .int .i64 x.op, .int .i64 x.a, .int .i64 x.b] 114) = W at *
      refine (aims_any x T _ Ht1.out _ (HA.out).1.1 (HA.out).1.2).mono ?_
      rintro e w1 ⟨rfl, hb⟩
      have HB1 := Lib.hid (hb)
      clear hb
      obtain ⟨q0, q1, q2, q3, q4, q5, q6, q7, q8, q9, q10, q11, q12⟩ := (HX.out.next HB1.out).cells
      go_wp2_with fail
      refine (runs_any x T L cards _ Ht2.out _ (HA.out.next HB1.out)).mono ?_
      rintro e w2 ⟨rfl, hb⟩
      have HB2 := Lib.hid (below_then' HB1.out hb HB1.out.size)
      clear hb
      clear q0 q1 q2 q3 q4 q5 q6 q7 q8 q9 q10 q11 q12
      obtain ⟨q0, q1, q2, q3, q4, q5, q6, q7, q8, q9, q10, q11, q12⟩ := (HX.out.next HB2.out).cells
      go_wp2_with fail
      refine (isOnly_any x ⟨0, 0, 0, 0, 0, 0, 0, false, x.ta, x.tn, x.tc, x.ca, x.cn, x.cc, 0, 0, 0⟩ r HV.out _).mono ?_
      rintro e w3 ⟨rfl, hb⟩
      have HB3 := Lib.hid (below_then' HB2.out hb HB2.out.size)
      clear hb
      clear q0 q1 q2 q3 q4 q5 q6 q7 q8 q9 q10 q11 q12
      obtain ⟨q0, q1, q2, q3, q4, q5, q6, q7, q8, q9, q10, q11, q12⟩ := (HX.out.next HB3.out).cells
      go_wp2_with fail
      go_ret
      exact ⟨bool_ret (rfl), HW.out.trans (HB3.out.mono HW.out.size)⟩
end Go.Proofs.YtbeaaieaffdgeaaDoor
end
/- isSpell, isAct, isTrig. (Written by gen5e.py.) -/
section
namespace Go.Proofs.YtbeaaieaffdgeaaDoor
open Go.RowKit
set_option linter.unusedVariables false
set_option linter.unusedSimpArgs false

/-- May it be, as one that is played? -/
def actB (x : Ab) (T : List Int) (L : List Ins) (cards : Int) : Bool := wi (costL 20 x.c0 x.c1 x.c2 x.c3) && (aimsB T && ((chk L x.tn cards == 0) && onlyB x ⟨0, 0, 0, x.c0, x.c1, x.c2, x.c3, x.tap, x.ta, x.tn, x.tc, x.ca, x.cn, x.cc, 0, 0, 0⟩))
set_option maxRecDepth 100000 in
set_option maxHeartbeats 4000000 in
theorem act_any (x : Ab) (T : List Int) (L : List Ins) (cards : Int) (r : Bool) (hr : actB x T L cards = r) (w : World) (h : AbR w x T L) :
    Calls Tryd.prog 69 #[.agg #[.int .i64 x.k, .int .i64 x.ev, .int .i64 x.wh, .int .i64 x.c0, .int .i64 x.c1, .int .i64 x.c2, .int .i64 x.c3, .bool x.tap, .slice x.ta x.tn x.tc, .slice x.ca x.cn x.cc, .int .i64 x.op, .int .i64 x.a, .int .i64 x.b], .int .i64 cards] w fun e w' => e = .returned (.bool r) ∧ Below w.heap.size w w' := by
  have HW := Lib.hid (below_alloc1 w (.cells #[.int .i64 x.k, .int .i64 x.ev, .int .i64 x.wh, .int .i64 x.c0, .int .i64 x.c1, .int .i64 x.c2, .int .i64 x.c3, .bool x.tap, .slice x.ta x.tn x.tc, .slice x.ca x.cn x.cc, .int .i64 x.op, .int .i64 x.a, .int .i64 x.b] 114))
  have HZ := Lib.hid (show w.heap.size + 1 = (w.alloc (.cells #[.int .i64 x.k, .int .i64 x.ev, .int .i64 x.wh, .int .i64 x.c0, .int .i64 x.c1, .int .i64 x.c2, .int .i64 x.c3, .bool x.tap, .slice x.ta x.tn x.tc, .slice x.ca x.cn x.cc, .int .i64 x.op, .int .i64 x.a, .int .i64 x.b] 114)).heap.size by simp)
  have HX := Lib.hid (boxA_new w x 114)
  have HA := Lib.hid (h.next HW.out)
  have HR := Lib.hid hr
  clear hr h
  cases t1 : wi (costL 20 x.c0 x.c1 x.c2 x.c3)
  · have HV := Lib.hid (show r = false by rw [← HR.out]; simp [actB, t1])
    have Ht1 := Lib.hid t1
    clear t1
    go_enter Tryd.func69, Tryd.ntmps69
    go_wp2_with fail
    generalize w.alloc (.cells #[.int .i64 x.k, .int .i64 x.ev, .int .i64 x.wh, .int .i64 x.c0, .int .i64 x.c1, .int .i64 x.c2, .int .i64 x.c3, .bool x.tap, .slice x.ta x.tn x.tc, .slice x.ca x.cn x.cc, .int .i64 x.op, .int .i64 x.a, .int .i64 x.b] 114) = W at *
    refine (isCost_any x.c0 x.c1 x.c2 x.c3 20 _ Ht1.out _).mono ?_
    rintro e w1 ⟨rfl, hb⟩
    have HB1 := Lib.hid (hb)
    clear hb
    obtain ⟨q0, q1, q2, q3, q4, q5, q6, q7, q8, q9, q10, q11, q12⟩ := (HX.out.next HB1.out).cells
    go_wp2_with fail
    go_ret
    exact ⟨bool_ret (HV.out.symm), HW.out.trans (HB1.out.mono HW.out.size)⟩
  · skip
    cases t2 : aimsB T
    · have HV := Lib.hid (show r = false by rw [← HR.out]; simp [actB, t1, t2])
      have Ht1 := Lib.hid t1
      have Ht2 := Lib.hid t2
      clear t1 t2
      go_enter Tryd.func69, Tryd.ntmps69
      go_wp2_with fail
      generalize w.alloc (.cells #[.int .i64 x.k, .int .i64 x.ev, .int .i64 x.wh, .int .i64 x.c0, .int .i64 x.c1, .int .i64 x.c2, .int .i64 x.c3, .bool x.tap, .slice x.ta x.tn x.tc, .slice x.ca x.cn x.cc, .int .i64 x.op, .int .i64 x.a, .int .i64 x.b] 114) = W at *
      refine (isCost_any x.c0 x.c1 x.c2 x.c3 20 _ Ht1.out _).mono ?_
      rintro e w1 ⟨rfl, hb⟩
      have HB1 := Lib.hid (hb)
      clear hb
      obtain ⟨q0, q1, q2, q3, q4, q5, q6, q7, q8, q9, q10, q11, q12⟩ := (HX.out.next HB1.out).cells
      go_wp2_with fail
      refine (aims_any x T _ Ht2.out _ (HA.out.next HB1.out).1.1 (HA.out.next HB1.out).1.2).mono ?_
      rintro e w2 ⟨rfl, hb⟩
      have HB2 := Lib.hid (below_then' HB1.out hb HB1.out.size)
      clear hb
      clear q0 q1 q2 q3 q4 q5 q6 q7 q8 q9 q10 q11 q12
      obtain ⟨q0, q1, q2, q3, q4, q5, q6, q7, q8, q9, q10, q11, q12⟩ := (HX.out.next HB2.out).cells
      go_wp2_with fail
      go_ret
      exact ⟨bool_ret (HV.out.symm), HW.out.trans (HB2.out.mono HW.out.size)⟩
    · skip
      cases t3 : (chk L x.tn cards == 0)
      · have HV := Lib.hid (show r = false by rw [← HR.out]; simp [actB, t1, t2, t3])
        have Ht1 := Lib.hid t1
        have Ht2 := Lib.hid t2
        have Ht3 := Lib.hid t3
        clear t1 t2 t3
        go_enter Tryd.func69, Tryd.ntmps69
        go_wp2_with fail
        generalize w.alloc (.cells #[.int .i64 x.k, .int .i64 x.ev, .int .i64 x.wh, .int .i64 x.c0, .int .i64 x.c1, .int .i64 x.c2, .int .i64 x.c3, .bool x.tap, .slice x.ta x.tn x.tc, .slice x.ca x.cn x.cc, .int .i64 x.op, .int .i64 x.a, .int .i64 x.b] 114) = W at *
        refine (isCost_any x.c0 x.c1 x.c2 x.c3 20 _ Ht1.out _).mono ?_
        rintro e w1 ⟨rfl, hb⟩
        have HB1 := Lib.hid (hb)
        clear hb
        obtain ⟨q0, q1, q2, q3, q4, q5, q6, q7, q8, q9, q10, q11, q12⟩ := (HX.out.next HB1.out).cells
        go_wp2_with fail
        refine (aims_any x T _ Ht2.out _ (HA.out.next HB1.out).1.1 (HA.out.next HB1.out).1.2).mono ?_
        rintro e w2 ⟨rfl, hb⟩
        have HB2 := Lib.hid (below_then' HB1.out hb HB1.out.size)
        clear hb
        clear q0 q1 q2 q3 q4 q5 q6 q7 q8 q9 q10 q11 q12
        obtain ⟨q0, q1, q2, q3, q4, q5, q6, q7, q8, q9, q10, q11, q12⟩ := (HX.out.next HB2.out).cells
        go_wp2_with fail
        refine (runs_any x T L cards _ Ht3.out _ (HA.out.next HB2.out)).mono ?_
        rintro e w3 ⟨rfl, hb⟩
        have HB3 := Lib.hid (below_then' HB2.out hb HB2.out.size)
        clear hb
        clear q0 q1 q2 q3 q4 q5 q6 q7 q8 q9 q10 q11 q12
        obtain ⟨q0, q1, q2, q3, q4, q5, q6, q7, q8, q9, q10, q11, q12⟩ := (HX.out.next HB3.out).cells
        go_wp2_with fail
        go_ret
        exact ⟨bool_ret (HV.out.symm), HW.out.trans (HB3.out.mono HW.out.size)⟩
      · have HV := Lib.hid (show onlyB x ⟨0, 0, 0, x.c0, x.c1, x.c2, x.c3, x.tap, x.ta, x.tn, x.tc, x.ca, x.cn, x.cc, 0, 0, 0⟩ = r by rw [← HR.out]; simp [actB, t1, t2, t3])
        have Ht1 := Lib.hid t1
        have Ht2 := Lib.hid t2
        have Ht3 := Lib.hid t3
        clear t1 t2 t3
        go_enter Tryd.func69, Tryd.ntmps69
        go_wp2_with fail
        generalize w.alloc (.cells #[.int .i64 x.k, .int .i64 x.ev, .int .i64 x.wh, .int .i64 x.c0, .int .i64 x.c1, .int .i64 x.c2, .int .i64 x.c3, .bool x.tap, .slice x.ta x.tn x.tc, .slice x.ca x.cn x.cc, .int .i64 x.op, .int .i64 x.a, .int .i64 x.b] 114) = W at *
        refine (isCost_any x.c0 x.c1 x.c2 x.c3 20 _ Ht1.out _).mono ?_
        rintro e w1 ⟨rfl, hb⟩
        have HB1 := Lib.hid (hb)
        clear hb
        obtain ⟨q0, q1, q2, q3, q4, q5, q6, q7, q8, q9, q10, q11, q12⟩ := (HX.out.next HB1.out).cells
        go_wp2_with fail
        refine (aims_any x T _ Ht2.out _ (HA.out.next HB1.out).1.1 (HA.out.next HB1.out).1.2).mono ?_
        rintro e w2 ⟨rfl, hb⟩
        have HB2 := Lib.hid (below_then' HB1.out hb HB1.out.size)
        clear hb
        clear q0 q1 q2 q3 q4 q5 q6 q7 q8 q9 q10 q11 q12
        obtain ⟨q0, q1, q2, q3, q4, q5, q6, q7, q8, q9, q10, q11, q12⟩ := (HX.out.next HB2.out).cells
        go_wp2_with fail
        refine (runs_any x T L cards _ Ht3.out _ (HA.out.next HB2.out)).mono ?_
        rintro e w3 ⟨rfl, hb⟩
        have HB3 := Lib.hid (below_then' HB2.out hb HB2.out.size)
        clear hb
        clear q0 q1 q2 q3 q4 q5 q6 q7 q8 q9 q10 q11 q12
        obtain ⟨q0, q1, q2, q3, q4, q5, q6, q7, q8, q9, q10, q11, q12⟩ := (HX.out.next HB3.out).cells
        go_wp2_with fail
        refine (isOnly_any x ⟨0, 0, 0, x.c0, x.c1, x.c2, x.c3, x.tap, x.ta, x.tn, x.tc, x.ca, x.cn, x.cc, 0, 0, 0⟩ r HV.out _).mono ?_
        rintro e w4 ⟨rfl, hb⟩
        have HB4 := Lib.hid (below_then' HB3.out hb HB3.out.size)
        clear hb
        clear q0 q1 q2 q3 q4 q5 q6 q7 q8 q9 q10 q11 q12
        obtain ⟨q0, q1, q2, q3, q4, q5, q6, q7, q8, q9, q10, q11, q12⟩ := (HX.out.next HB4.out).cells
        go_wp2_with fail
        go_ret
        exact ⟨bool_ret (rfl), HW.out.trans (HB4.out.mono HW.out.size)⟩
end Go.Proofs.YtbeaaieaffdgeaaDoor
end
/- isSpell, isAct, isTrig. (Written by gen5e.py.) -/
section
namespace Go.Proofs.YtbeaaieaffdgeaaDoor
open Go.RowKit
set_option linter.unusedVariables false
set_option linter.unusedSimpArgs false

/-- May it be, as one that waits? -/
def trigB (x : Ab) (T : List Int) (L : List Ins) (cards : Int) : Bool := wi [⟨x.ev, 1, 6⟩, ⟨x.wh, 0, 2⟩] && ((chk L x.tn cards == 0) && onlyB x ⟨0, x.ev, x.wh, 0, 0, 0, 0, false, none, 0, 0, x.ca, x.cn, x.cc, 0, 0, 0⟩)
set_option maxRecDepth 100000 in
set_option maxHeartbeats 4000000 in
theorem trig_any (x : Ab) (T : List Int) (L : List Ins) (cards : Int) (r : Bool) (hr : trigB x T L cards = r) (w : World) (h : AbR w x T L) :
    Calls Tryd.prog 70 #[.agg #[.int .i64 x.k, .int .i64 x.ev, .int .i64 x.wh, .int .i64 x.c0, .int .i64 x.c1, .int .i64 x.c2, .int .i64 x.c3, .bool x.tap, .slice x.ta x.tn x.tc, .slice x.ca x.cn x.cc, .int .i64 x.op, .int .i64 x.a, .int .i64 x.b], .int .i64 cards] w fun e w' => e = .returned (.bool r) ∧ Below w.heap.size w w' := by
  have HW := Lib.hid (below_alloc1 w (.cells #[.int .i64 x.k, .int .i64 x.ev, .int .i64 x.wh, .int .i64 x.c0, .int .i64 x.c1, .int .i64 x.c2, .int .i64 x.c3, .bool x.tap, .slice x.ta x.tn x.tc, .slice x.ca x.cn x.cc, .int .i64 x.op, .int .i64 x.a, .int .i64 x.b] 114))
  have HZ := Lib.hid (show w.heap.size + 1 = (w.alloc (.cells #[.int .i64 x.k, .int .i64 x.ev, .int .i64 x.wh, .int .i64 x.c0, .int .i64 x.c1, .int .i64 x.c2, .int .i64 x.c3, .bool x.tap, .slice x.ta x.tn x.tc, .slice x.ca x.cn x.cc, .int .i64 x.op, .int .i64 x.a, .int .i64 x.b] 114)).heap.size by simp)
  have HX := Lib.hid (boxA_new w x 114)
  have HA := Lib.hid (h.next HW.out)
  have HR := Lib.hid hr
  clear hr h
  cases t1 : wi [⟨x.ev, 1, 6⟩, ⟨x.wh, 0, 2⟩]
  · have HV := Lib.hid (show r = false by rw [← HR.out]; simp [trigB, t1])
    have Ht1 := Lib.hid t1
    clear t1
    go_enter Tryd.func70, Tryd.ntmps70
    go_wp2_with fail
    generalize w.alloc (.cells #[.int .i64 x.k, .int .i64 x.ev, .int .i64 x.wh, .int .i64 x.c0, .int .i64 x.c1, .int .i64 x.c2, .int .i64 x.c3, .bool x.tap, .slice x.ta x.tn x.tc, .slice x.ca x.cn x.cc, .int .i64 x.op, .int .i64 x.a, .int .i64 x.b] 114) = W at *
    refine (within_at [⟨x.ev, 1, 6⟩, ⟨x.wh, 0, 2⟩] _ _ rfl 2 rfl (by omega) _ Ht1.out _ _ HZ.out).mono ?_
    rintro e w1 ⟨rfl, hb⟩
    have HB1 := Lib.hid (hb)
    clear hb
    obtain ⟨q0, q1, q2, q3, q4, q5, q6, q7, q8, q9, q10, q11, q12⟩ := (HX.out.next HB1.out).cells
    go_wp2_with fail
    go_ret
    exact ⟨bool_ret (HV.out.symm), HW.out.trans (HB1.out.mono HW.out.size)⟩
  · skip
    cases t2 : (chk L x.tn cards == 0)
    · have HV := Lib.hid (show r = false by rw [← HR.out]; simp [trigB, t1, t2])
      have Ht1 := Lib.hid t1
      have Ht2 := Lib.hid t2
      clear t1 t2
      go_enter Tryd.func70, Tryd.ntmps70
      go_wp2_with fail
      generalize w.alloc (.cells #[.int .i64 x.k, .int .i64 x.ev, .int .i64 x.wh, .int .i64 x.c0, .int .i64 x.c1, .int .i64 x.c2, .int .i64 x.c3, .bool x.tap, .slice x.ta x.tn x.tc, .slice x.ca x.cn x.cc, .int .i64 x.op, .int .i64 x.a, .int .i64 x.b] 114) = W at *
      refine (within_at [⟨x.ev, 1, 6⟩, ⟨x.wh, 0, 2⟩] _ _ rfl 2 rfl (by omega) _ Ht1.out _ _ HZ.out).mono ?_
      rintro e w1 ⟨rfl, hb⟩
      have HB1 := Lib.hid (hb)
      clear hb
      obtain ⟨q0, q1, q2, q3, q4, q5, q6, q7, q8, q9, q10, q11, q12⟩ := (HX.out.next HB1.out).cells
      go_wp2_with fail
      refine (runs_any x T L cards _ Ht2.out _ (HA.out.next HB1.out)).mono ?_
      rintro e w2 ⟨rfl, hb⟩
      have HB2 := Lib.hid (below_then' HB1.out hb HB1.out.size)
      clear hb
      clear q0 q1 q2 q3 q4 q5 q6 q7 q8 q9 q10 q11 q12
      obtain ⟨q0, q1, q2, q3, q4, q5, q6, q7, q8, q9, q10, q11, q12⟩ := (HX.out.next HB2.out).cells
      go_wp2_with fail
      go_ret
      exact ⟨bool_ret (HV.out.symm), HW.out.trans (HB2.out.mono HW.out.size)⟩
    · have HV := Lib.hid (show onlyB x ⟨0, x.ev, x.wh, 0, 0, 0, 0, false, none, 0, 0, x.ca, x.cn, x.cc, 0, 0, 0⟩ = r by rw [← HR.out]; simp [trigB, t1, t2])
      have Ht1 := Lib.hid t1
      have Ht2 := Lib.hid t2
      clear t1 t2
      go_enter Tryd.func70, Tryd.ntmps70
      go_wp2_with fail
      generalize w.alloc (.cells #[.int .i64 x.k, .int .i64 x.ev, .int .i64 x.wh, .int .i64 x.c0, .int .i64 x.c1, .int .i64 x.c2, .int .i64 x.c3, .bool x.tap, .slice x.ta x.tn x.tc, .slice x.ca x.cn x.cc, .int .i64 x.op, .int .i64 x.a, .int .i64 x.b] 114) = W at *
      refine (within_at [⟨x.ev, 1, 6⟩, ⟨x.wh, 0, 2⟩] _ _ rfl 2 rfl (by omega) _ Ht1.out _ _ HZ.out).mono ?_
      rintro e w1 ⟨rfl, hb⟩
      have HB1 := Lib.hid (hb)
      clear hb
      obtain ⟨q0, q1, q2, q3, q4, q5, q6, q7, q8, q9, q10, q11, q12⟩ := (HX.out.next HB1.out).cells
      go_wp2_with fail
      refine (runs_any x T L cards _ Ht2.out _ (HA.out.next HB1.out)).mono ?_
      rintro e w2 ⟨rfl, hb⟩
      have HB2 := Lib.hid (below_then' HB1.out hb HB1.out.size)
      clear hb
      clear q0 q1 q2 q3 q4 q5 q6 q7 q8 q9 q10 q11 q12
      obtain ⟨q0, q1, q2, q3, q4, q5, q6, q7, q8, q9, q10, q11, q12⟩ := (HX.out.next HB2.out).cells
      go_wp2_with fail
      refine (isOnly_any x ⟨0, x.ev, x.wh, 0, 0, 0, 0, false, none, 0, 0, x.ca, x.cn, x.cc, 0, 0, 0⟩ r HV.out _).mono ?_
      rintro e w3 ⟨rfl, hb⟩
      have HB3 := Lib.hid (below_then' HB2.out hb HB2.out.size)
      clear hb
      clear q0 q1 q2 q3 q4 q5 q6 q7 q8 q9 q10 q11 q12
      obtain ⟨q0, q1, q2, q3, q4, q5, q6, q7, q8, q9, q10, q11, q12⟩ := (HX.out.next HB3.out).cells
      go_wp2_with fail
      go_ret
      exact ⟨bool_ret (rfl), HW.out.trans (HB3.out.mono HW.out.size)⟩
end Go.Proofs.YtbeaaieaffdgeaaDoor
end
/- The listed tables, as the walks want them. -/
section
namespace Go.Proofs.YtbeaaieaffdgeaaDoor
open Go.RowKit
set_option linter.unusedVariables false
set_option linter.unusedSimpArgs false

def kindsT : List Int := [0, 0, 0, 0, 0, 3, 0, 0, 20, 0, 15, 127, 20, 0, 0, 64, 20, 0, 0, 64]
def layT : List Int := [0, 0, 0, 0, 1, 127, 0, 0, 1, 127, 0, 0, 0, 15, 0, 15, -15, 15, -15, 15]
def insT : List Int := [0, 0, 0, 0, 0, 0, 1, 999, 0, 1, 0, 0, 0, 0, 0, 999, 0, 1, 0, 0]
/-- The package's tables stand as the program's text lays them. -/
structure Tabs (w : World) : Prop where
  size : 3 ≤ w.heap.size
  kinds : ∀ j, j < 20 → w.cell? ⟨0, j, none⟩ = some (.int .i64 (kindsT.getD j 0))
  lay : ∀ j, j < 20 → w.cell? ⟨1, j, none⟩ = some (.int .i64 (layT.getD j 0))
  ins : ∀ j, j < 20 → w.cell? ⟨2, j, none⟩ = some (.int .i64 (insT.getD j 0))
theorem Tabs.next {w w' : World} (h : Tabs w) (k : Below w.heap.size w w') : Tabs w' :=
  ⟨Nat.le_trans h.size k.size, fun j hj => (k.cell (p := ⟨0, j, none⟩) (by have := h.size; show 0 < w.heap.size; omega)).trans (h.kinds j hj), fun j hj => (k.cell (p := ⟨1, j, none⟩) (by have := h.size; show 1 < w.heap.size; omega)).trans (h.lay j hj),
    fun j hj => (k.cell (p := ⟨2, j, none⟩) (by have := h.size; show 2 < w.heap.size; omega)).trans (h.ins j hj)⟩
theorem below_alloc_then {B : Nat} {a b c : World} {o : Obj} (h : Below B a b) (k : Below (b.alloc o).heap.size (b.alloc o) c) (hb : B ≤ b.heap.size) : Below B a c :=
  below_then' (h.alloc hb o) k (by simp; omega)
theorem size_one (w : World) (o : Obj) : w.heap.size + 1 = (w.alloc o).heap.size := by simp
theorem btw_iff (lo hi n : Int) : btw lo hi n = true ↔ lo ≤ n ∧ n ≤ hi := by simp [btw]
theorem wi_two (y lo hi z mo mi : Int) : wi [⟨y, lo, hi⟩, ⟨z, mo, mi⟩] = (btw lo hi y && btw mo mi z) := by simp [wi]
end Go.Proofs.YtbeaaieaffdgeaaDoor
end
/- static. (Written by gen5f.py.) -/
section
namespace Go.Proofs.YtbeaaieaffdgeaaDoor
open Go.RowKit
set_option linter.unusedVariables false
set_option linter.unusedSimpArgs false

/-- May it be, as one that always acts? -/
def staticB (x : Ab) : Bool := wi [⟨x.op, 1, 4⟩, ⟨x.wh, 0, 3⟩] && (wi [⟨x.a, (layT.getD (x.op.toNat * 4 + 0) 0), (layT.getD (x.op.toNat * 4 + 1) 0)⟩, ⟨x.b, (layT.getD (x.op.toNat * 4 + 2) 0), (layT.getD (x.op.toNat * 4 + 3) 0)⟩] && onlyB x ⟨0, 0, x.wh, 0, 0, 0, 0, false, none, 0, 0, none, 0, 0, x.op, x.a, x.b⟩)
set_option maxRecDepth 100000 in
set_option maxHeartbeats 4000000 in
theorem static_any (x : Ab) (cards : Int) (r : Bool) (hr : staticB x = r) (w : World) (hT : Tabs w) :
    Calls Tryd.prog 71 #[.agg #[.int .i64 x.k, .int .i64 x.ev, .int .i64 x.wh, .int .i64 x.c0, .int .i64 x.c1, .int .i64 x.c2, .int .i64 x.c3, .bool x.tap, .slice x.ta x.tn x.tc, .slice x.ca x.cn x.cc, .int .i64 x.op, .int .i64 x.a, .int .i64 x.b], .int .i64 cards] w fun e w' => e = .returned (.bool r) ∧ Below w.heap.size w w' := by
  have HW := Lib.hid (below_alloc1 w (.cells #[.int .i64 x.k, .int .i64 x.ev, .int .i64 x.wh, .int .i64 x.c0, .int .i64 x.c1, .int .i64 x.c2, .int .i64 x.c3, .bool x.tap, .slice x.ta x.tn x.tc, .slice x.ca x.cn x.cc, .int .i64 x.op, .int .i64 x.a, .int .i64 x.b] 114))
  have HZ := Lib.hid (show w.heap.size + 1 = (w.alloc (.cells #[.int .i64 x.k, .int .i64 x.ev, .int .i64 x.wh, .int .i64 x.c0, .int .i64 x.c1, .int .i64 x.c2, .int .i64 x.c3, .bool x.tap, .slice x.ta x.tn x.tc, .slice x.ca x.cn x.cc, .int .i64 x.op, .int .i64 x.a, .int .i64 x.b] 114)).heap.size by simp)
  have HX := Lib.hid (boxA_new w x 114)
  have HT := Lib.hid (hT.next HW.out)
  have HR := Lib.hid hr
  clear hr hT
  cases t1 : wi [⟨x.op, 1, 4⟩, ⟨x.wh, 0, 3⟩]
  · have HV := Lib.hid (show r = false by rw [← HR.out]; simp [staticB, t1])
    have Ht1 := Lib.hid t1
    clear t1
    go_enter Tryd.func71, Tryd.ntmps71
    go_wp2_with fail
    generalize w.alloc (.cells #[.int .i64 x.k, .int .i64 x.ev, .int .i64 x.wh, .int .i64 x.c0, .int .i64 x.c1, .int .i64 x.c2, .int .i64 x.c3, .bool x.tap, .slice x.ta x.tn x.tc, .slice x.ca x.cn x.cc, .int .i64 x.op, .int .i64 x.a, .int .i64 x.b] 114) = W at *
    refine (within_at [⟨x.op, 1, 4⟩, ⟨x.wh, 0, 3⟩] _ _ rfl 2 rfl (by omega) _ Ht1.out _ _ HZ.out).mono ?_
    rintro e w1 ⟨rfl, hb⟩
    have HB1 := Lib.hid hb
    clear hb
    obtain ⟨q0, q1, q2, q3, q4, q5, q6, q7, q8, q9, q10, q11, q12⟩ := (HX.out.next HB1.out).cells
    go_wp2_with fail
    go_ret
    exact ⟨bool_ret HV.out.symm, HW.out.trans (HB1.out.mono HW.out.size)⟩
  · obtain ⟨j, hj, hj1, hj4⟩ : ∃ j : Nat, x.op = (j : Int) ∧ 1 ≤ j ∧ j ≤ 4 := by
      have := (btw_iff _ _ _).1 (Bool.and_eq_true _ _ ▸ wi_two x.op 1 4 x.wh 0 3 ▸ t1).1
      exact ⟨x.op.toNat, by omega, by omega, by omega⟩
    obtain ⟨l0, hl0⟩ : ∃ l, layT.getD (j * 4) 0 = l := ⟨_, rfl⟩
    obtain ⟨l1, hl1⟩ : ∃ l, layT.getD (j * 4 + 1) 0 = l := ⟨_, rfl⟩
    obtain ⟨l2, hl2⟩ : ∃ l, layT.getD (j * 4 + 2) 0 = l := ⟨_, rfl⟩
    obtain ⟨l3, hl3⟩ : ∃ l, layT.getD (j * 4 + 3) 0 = l := ⟨_, rfl⟩
    have HE := Lib.hid (show (wi [⟨x.a, l0, l1⟩, ⟨x.b, l2, l3⟩] && onlyB x ⟨0, 0, x.wh, 0, 0, 0, 0, false, none, 0, 0, none, 0, 0, x.op, x.a, x.b⟩) = r by
      rw [← HR.out, staticB, t1, Bool.true_and]
      simp only [hj, Int.toNat_natCast, Nat.add_zero, hl0, hl1, hl2, hl3])
    have Ht1 := Lib.hid t1
    have HJ := Lib.hid hj
    clear t1 hj
    have HL := Lib.hid (show layT.getD (j * 4) 0 = l0 ∧ layT.getD (j * 4 + 1) 0 = l1 ∧ layT.getD (j * 4 + 2) 0 = l2 ∧ layT.getD (j * 4 + 3) 0 = l3 from ⟨hl0, hl1, hl2, hl3⟩)
    clear hl0 hl1 hl2 hl3
    cases t2 : wi [⟨x.a, l0, l1⟩, ⟨x.b, l2, l3⟩]
    · have HV := Lib.hid (show r = false by rw [← HE.out]; simp only [t2, Bool.false_and])
      have Ht2 := Lib.hid t2
      clear t2
      go_enter Tryd.func71, Tryd.ntmps71
      go_wp2_with fail
      generalize w.alloc (.cells #[.int .i64 x.k, .int .i64 x.ev, .int .i64 x.wh, .int .i64 x.c0, .int .i64 x.c1, .int .i64 x.c2, .int .i64 x.c3, .bool x.tap, .slice x.ta x.tn x.tc, .slice x.ca x.cn x.cc, .int .i64 x.op, .int .i64 x.a, .int .i64 x.b] 114) = W at *
      refine (within_at [⟨x.op, 1, 4⟩, ⟨x.wh, 0, 3⟩] _ _ rfl 2 rfl (by omega) _ Ht1.out _ _ HZ.out).mono ?_
      rintro e w1 ⟨rfl, hb⟩
      have HB1 := Lib.hid hb
      clear hb
      obtain ⟨q0, q1, q2, q3, q4, q5, q6, q7, q8, q9, q10, q11, q12⟩ := (HX.out.next HB1.out).cells
      obtain ⟨m0, m1, m2, m3⟩ : w1.cell? ⟨1, j * 4, none⟩ = some (.int .i64 l0) ∧ w1.cell? ⟨1, j * 4 + 1, none⟩ = some (.int .i64 l1) ∧ w1.cell? ⟨1, j * 4 + 2, none⟩ = some (.int .i64 l2) ∧ w1.cell? ⟨1, j * 4 + 3, none⟩ = some (.int .i64 l3) := by
        have h := (HT.out.next HB1.out).lay
        exact ⟨by rw [h _ (by omega), HL.out.1], by rw [h _ (by omega), HL.out.2.1], by rw [h _ (by omega), HL.out.2.2.1], by rw [h _ (by omega), HL.out.2.2.2]⟩
      rw [HJ.out] at q10
      have hz1 : w.heap.size < w1.heap.size := by have := HB1.out.size; have := HZ.out; omega
      go_wp2_with fail
      refine (within_at [⟨x.a, l0, l1⟩, ⟨x.b, l2, l3⟩] _ _ rfl 2 rfl (by omega) _ Ht2.out _ _ (size_one _ _)).mono ?_
      rintro e w2 ⟨rfl, hb⟩
      have HB2 := Lib.hid (below_alloc_then HB1.out hb HB1.out.size)
      clear hb q0 q1 q2 q3 q4 q5 q6 q7 q8 q9 q10 q11 q12 m0 m1 m2 m3
      obtain ⟨q0, q1, q2, q3, q4, q5, q6, q7, q8, q9, q10, q11, q12⟩ := (HX.out.next HB2.out).cells
      go_wp2_with fail
      go_ret
      exact ⟨bool_ret HV.out.symm, HW.out.trans (HB2.out.mono HW.out.size)⟩
    · have HV := Lib.hid (show onlyB x ⟨0, 0, x.wh, 0, 0, 0, 0, false, none, 0, 0, none, 0, 0, x.op, x.a, x.b⟩ = r by rw [← HE.out]; simp only [t2, Bool.true_and])
      have Ht2 := Lib.hid t2
      clear t2
      go_enter Tryd.func71, Tryd.ntmps71
      go_wp2_with fail
      generalize w.alloc (.cells #[.int .i64 x.k, .int .i64 x.ev, .int .i64 x.wh, .int .i64 x.c0, .int .i64 x.c1, .int .i64 x.c2, .int .i64 x.c3, .bool x.tap, .slice x.ta x.tn x.tc, .slice x.ca x.cn x.cc, .int .i64 x.op, .int .i64 x.a, .int .i64 x.b] 114) = W at *
      refine (within_at [⟨x.op, 1, 4⟩, ⟨x.wh, 0, 3⟩] _ _ rfl 2 rfl (by omega) _ Ht1.out _ _ HZ.out).mono ?_
      rintro e w1 ⟨rfl, hb⟩
      have HB1 := Lib.hid hb
      clear hb
      obtain ⟨q0, q1, q2, q3, q4, q5, q6, q7, q8, q9, q10, q11, q12⟩ := (HX.out.next HB1.out).cells
      obtain ⟨m0, m1, m2, m3⟩ : w1.cell? ⟨1, j * 4, none⟩ = some (.int .i64 l0) ∧ w1.cell? ⟨1, j * 4 + 1, none⟩ = some (.int .i64 l1) ∧ w1.cell? ⟨1, j * 4 + 2, none⟩ = some (.int .i64 l2) ∧ w1.cell? ⟨1, j * 4 + 3, none⟩ = some (.int .i64 l3) := by
        have h := (HT.out.next HB1.out).lay
        exact ⟨by rw [h _ (by omega), HL.out.1], by rw [h _ (by omega), HL.out.2.1], by rw [h _ (by omega), HL.out.2.2.1], by rw [h _ (by omega), HL.out.2.2.2]⟩
      rw [HJ.out] at q10
      have hz1 : w.heap.size < w1.heap.size := by have := HB1.out.size; have := HZ.out; omega
      go_wp2_with fail
      refine (within_at [⟨x.a, l0, l1⟩, ⟨x.b, l2, l3⟩] _ _ rfl 2 rfl (by omega) _ Ht2.out _ _ (size_one _ _)).mono ?_
      rintro e w2 ⟨rfl, hb⟩
      have HB2 := Lib.hid (below_alloc_then HB1.out hb HB1.out.size)
      clear hb q0 q1 q2 q3 q4 q5 q6 q7 q8 q9 q10 q11 q12 m0 m1 m2 m3
      obtain ⟨q0, q1, q2, q3, q4, q5, q6, q7, q8, q9, q10, q11, q12⟩ := (HX.out.next HB2.out).cells
      go_wp2_with fail
      refine (isOnly_any x ⟨0, 0, x.wh, 0, 0, 0, 0, false, none, 0, 0, none, 0, 0, x.op, x.a, x.b⟩ r HV.out _).mono ?_
      rintro e w3 ⟨rfl, hb⟩
      have HB3 := Lib.hid (below_then' HB2.out hb HB2.out.size)
      clear hb
      go_wp2_with fail
      go_ret
      exact ⟨rfl, HW.out.trans (HB3.out.mono HW.out.size)⟩
end Go.Proofs.YtbeaaieaffdgeaaDoor
end
/- repl. (Written by gen5f.py.) -/
section
namespace Go.Proofs.YtbeaaieaffdgeaaDoor
open Go.RowKit
set_option linter.unusedVariables false
set_option linter.unusedSimpArgs false

/-- May it be, as one that is done instead? -/
def replB (x : Ab) : Bool := wi [⟨x.ev, 1, 4⟩] && (wi [⟨x.wh, (insT.getD (x.ev.toNat * 4 + 0) 0), (insT.getD (x.ev.toNat * 4 + 1) 0)⟩, ⟨x.a, (insT.getD (x.ev.toNat * 4 + 2) 0), (insT.getD (x.ev.toNat * 4 + 3) 0)⟩] && onlyB x ⟨0, x.ev, x.wh, 0, 0, 0, 0, false, none, 0, 0, none, 0, 0, 0, x.a, 0⟩)
set_option maxRecDepth 100000 in
set_option maxHeartbeats 4000000 in
theorem repl_any (x : Ab) (cards : Int) (r : Bool) (hr : replB x = r) (w : World) (hT : Tabs w) :
    Calls Tryd.prog 72 #[.agg #[.int .i64 x.k, .int .i64 x.ev, .int .i64 x.wh, .int .i64 x.c0, .int .i64 x.c1, .int .i64 x.c2, .int .i64 x.c3, .bool x.tap, .slice x.ta x.tn x.tc, .slice x.ca x.cn x.cc, .int .i64 x.op, .int .i64 x.a, .int .i64 x.b], .int .i64 cards] w fun e w' => e = .returned (.bool r) ∧ Below w.heap.size w w' := by
  have HW := Lib.hid (below_alloc1 w (.cells #[.int .i64 x.k, .int .i64 x.ev, .int .i64 x.wh, .int .i64 x.c0, .int .i64 x.c1, .int .i64 x.c2, .int .i64 x.c3, .bool x.tap, .slice x.ta x.tn x.tc, .slice x.ca x.cn x.cc, .int .i64 x.op, .int .i64 x.a, .int .i64 x.b] 114))
  have HZ := Lib.hid (show w.heap.size + 1 = (w.alloc (.cells #[.int .i64 x.k, .int .i64 x.ev, .int .i64 x.wh, .int .i64 x.c0, .int .i64 x.c1, .int .i64 x.c2, .int .i64 x.c3, .bool x.tap, .slice x.ta x.tn x.tc, .slice x.ca x.cn x.cc, .int .i64 x.op, .int .i64 x.a, .int .i64 x.b] 114)).heap.size by simp)
  have HX := Lib.hid (boxA_new w x 114)
  have HT := Lib.hid (hT.next HW.out)
  have HR := Lib.hid hr
  clear hr hT
  cases t1 : wi [⟨x.ev, 1, 4⟩]
  · have HV := Lib.hid (show r = false by rw [← HR.out]; simp [replB, t1])
    have Ht1 := Lib.hid t1
    clear t1
    go_enter Tryd.func72, Tryd.ntmps72
    go_wp2_with fail
    generalize w.alloc (.cells #[.int .i64 x.k, .int .i64 x.ev, .int .i64 x.wh, .int .i64 x.c0, .int .i64 x.c1, .int .i64 x.c2, .int .i64 x.c3, .bool x.tap, .slice x.ta x.tn x.tc, .slice x.ca x.cn x.cc, .int .i64 x.op, .int .i64 x.a, .int .i64 x.b] 114) = W at *
    refine (within_at [⟨x.ev, 1, 4⟩] _ _ rfl 1 rfl (by omega) _ Ht1.out _ _ HZ.out).mono ?_
    rintro e w1 ⟨rfl, hb⟩
    have HB1 := Lib.hid hb
    clear hb
    obtain ⟨q0, q1, q2, q3, q4, q5, q6, q7, q8, q9, q10, q11, q12⟩ := (HX.out.next HB1.out).cells
    go_wp2_with fail
    go_ret
    exact ⟨bool_ret HV.out.symm, HW.out.trans (HB1.out.mono HW.out.size)⟩
  · obtain ⟨j, hj, hj1, hj4⟩ : ∃ j : Nat, x.ev = (j : Int) ∧ 1 ≤ j ∧ j ≤ 4 := by
      have := (btw_iff _ _ _).1 (wi_one x.ev 1 4 ▸ t1)
      exact ⟨x.ev.toNat, by omega, by omega, by omega⟩
    obtain ⟨l0, hl0⟩ : ∃ l, insT.getD (j * 4) 0 = l := ⟨_, rfl⟩
    obtain ⟨l1, hl1⟩ : ∃ l, insT.getD (j * 4 + 1) 0 = l := ⟨_, rfl⟩
    obtain ⟨l2, hl2⟩ : ∃ l, insT.getD (j * 4 + 2) 0 = l := ⟨_, rfl⟩
    obtain ⟨l3, hl3⟩ : ∃ l, insT.getD (j * 4 + 3) 0 = l := ⟨_, rfl⟩
    have HE := Lib.hid (show (wi [⟨x.wh, l0, l1⟩, ⟨x.a, l2, l3⟩] && onlyB x ⟨0, x.ev, x.wh, 0, 0, 0, 0, false, none, 0, 0, none, 0, 0, 0, x.a, 0⟩) = r by
      rw [← HR.out, replB, t1, Bool.true_and]
      simp only [hj, Int.toNat_natCast, Nat.add_zero, hl0, hl1, hl2, hl3])
    have Ht1 := Lib.hid t1
    have HJ := Lib.hid hj
    clear t1 hj
    have HL := Lib.hid (show insT.getD (j * 4) 0 = l0 ∧ insT.getD (j * 4 + 1) 0 = l1 ∧ insT.getD (j * 4 + 2) 0 = l2 ∧ insT.getD (j * 4 + 3) 0 = l3 from ⟨hl0, hl1, hl2, hl3⟩)
    clear hl0 hl1 hl2 hl3
    cases t2 : wi [⟨x.wh, l0, l1⟩, ⟨x.a, l2, l3⟩]
    · have HV := Lib.hid (show r = false by rw [← HE.out]; simp only [t2, Bool.false_and])
      have Ht2 := Lib.hid t2
      clear t2
      go_enter Tryd.func72, Tryd.ntmps72
      go_wp2_with fail
      generalize w.alloc (.cells #[.int .i64 x.k, .int .i64 x.ev, .int .i64 x.wh, .int .i64 x.c0, .int .i64 x.c1, .int .i64 x.c2, .int .i64 x.c3, .bool x.tap, .slice x.ta x.tn x.tc, .slice x.ca x.cn x.cc, .int .i64 x.op, .int .i64 x.a, .int .i64 x.b] 114) = W at *
      refine (within_at [⟨x.ev, 1, 4⟩] _ _ rfl 1 rfl (by omega) _ Ht1.out _ _ HZ.out).mono ?_
      rintro e w1 ⟨rfl, hb⟩
      have HB1 := Lib.hid hb
      clear hb
      obtain ⟨q0, q1, q2, q3, q4, q5, q6, q7, q8, q9, q10, q11, q12⟩ := (HX.out.next HB1.out).cells
      obtain ⟨m0, m1, m2, m3⟩ : w1.cell? ⟨2, j * 4, none⟩ = some (.int .i64 l0) ∧ w1.cell? ⟨2, j * 4 + 1, none⟩ = some (.int .i64 l1) ∧ w1.cell? ⟨2, j * 4 + 2, none⟩ = some (.int .i64 l2) ∧ w1.cell? ⟨2, j * 4 + 3, none⟩ = some (.int .i64 l3) := by
        have h := (HT.out.next HB1.out).ins
        exact ⟨by rw [h _ (by omega), HL.out.1], by rw [h _ (by omega), HL.out.2.1], by rw [h _ (by omega), HL.out.2.2.1], by rw [h _ (by omega), HL.out.2.2.2]⟩
      rw [HJ.out] at q1
      have hz1 : w.heap.size < w1.heap.size := by have := HB1.out.size; have := HZ.out; omega
      go_wp2_with fail
      refine (within_at [⟨x.wh, l0, l1⟩, ⟨x.a, l2, l3⟩] _ _ rfl 2 rfl (by omega) _ Ht2.out _ _ (size_one _ _)).mono ?_
      rintro e w2 ⟨rfl, hb⟩
      have HB2 := Lib.hid (below_alloc_then HB1.out hb HB1.out.size)
      clear hb q0 q1 q2 q3 q4 q5 q6 q7 q8 q9 q10 q11 q12 m0 m1 m2 m3
      obtain ⟨q0, q1, q2, q3, q4, q5, q6, q7, q8, q9, q10, q11, q12⟩ := (HX.out.next HB2.out).cells
      go_wp2_with fail
      go_ret
      exact ⟨bool_ret HV.out.symm, HW.out.trans (HB2.out.mono HW.out.size)⟩
    · have HV := Lib.hid (show onlyB x ⟨0, x.ev, x.wh, 0, 0, 0, 0, false, none, 0, 0, none, 0, 0, 0, x.a, 0⟩ = r by rw [← HE.out]; simp only [t2, Bool.true_and])
      have Ht2 := Lib.hid t2
      clear t2
      go_enter Tryd.func72, Tryd.ntmps72
      go_wp2_with fail
      generalize w.alloc (.cells #[.int .i64 x.k, .int .i64 x.ev, .int .i64 x.wh, .int .i64 x.c0, .int .i64 x.c1, .int .i64 x.c2, .int .i64 x.c3, .bool x.tap, .slice x.ta x.tn x.tc, .slice x.ca x.cn x.cc, .int .i64 x.op, .int .i64 x.a, .int .i64 x.b] 114) = W at *
      refine (within_at [⟨x.ev, 1, 4⟩] _ _ rfl 1 rfl (by omega) _ Ht1.out _ _ HZ.out).mono ?_
      rintro e w1 ⟨rfl, hb⟩
      have HB1 := Lib.hid hb
      clear hb
      obtain ⟨q0, q1, q2, q3, q4, q5, q6, q7, q8, q9, q10, q11, q12⟩ := (HX.out.next HB1.out).cells
      obtain ⟨m0, m1, m2, m3⟩ : w1.cell? ⟨2, j * 4, none⟩ = some (.int .i64 l0) ∧ w1.cell? ⟨2, j * 4 + 1, none⟩ = some (.int .i64 l1) ∧ w1.cell? ⟨2, j * 4 + 2, none⟩ = some (.int .i64 l2) ∧ w1.cell? ⟨2, j * 4 + 3, none⟩ = some (.int .i64 l3) := by
        have h := (HT.out.next HB1.out).ins
        exact ⟨by rw [h _ (by omega), HL.out.1], by rw [h _ (by omega), HL.out.2.1], by rw [h _ (by omega), HL.out.2.2.1], by rw [h _ (by omega), HL.out.2.2.2]⟩
      rw [HJ.out] at q1
      have hz1 : w.heap.size < w1.heap.size := by have := HB1.out.size; have := HZ.out; omega
      go_wp2_with fail
      refine (within_at [⟨x.wh, l0, l1⟩, ⟨x.a, l2, l3⟩] _ _ rfl 2 rfl (by omega) _ Ht2.out _ _ (size_one _ _)).mono ?_
      rintro e w2 ⟨rfl, hb⟩
      have HB2 := Lib.hid (below_alloc_then HB1.out hb HB1.out.size)
      clear hb q0 q1 q2 q3 q4 q5 q6 q7 q8 q9 q10 q11 q12 m0 m1 m2 m3
      obtain ⟨q0, q1, q2, q3, q4, q5, q6, q7, q8, q9, q10, q11, q12⟩ := (HX.out.next HB2.out).cells
      go_wp2_with fail
      refine (isOnly_any x ⟨0, x.ev, x.wh, 0, 0, 0, 0, false, none, 0, 0, none, 0, 0, 0, x.a, 0⟩ r HV.out _).mono ?_
      rintro e w3 ⟨rfl, hb⟩
      have HB3 := Lib.hid (below_then' HB2.out hb HB2.out.size)
      clear hb
      go_wp2_with fail
      go_ret
      exact ⟨rfl, HW.out.trans (HB3.out.mono HW.out.size)⟩
end Go.Proofs.YtbeaaieaffdgeaaDoor
end
