/- card.Check. (Written by gen5l.py.) -/
import Derived.Test.YtfhmadlobdklbaaDoorCardK
namespace Go.Proofs.YtfhmadlobdklbaaDoor
open Go.RowKit
set_option linter.unusedVariables false
set_option linter.unusedSimpArgs false

/-- What Check tells. -/
def chkC (y : Cd) (A : List AbT) (cards : Int) : Int := if btw 0 40 cards then (if longB y A then 3 else if mayB y && canB (y.k == 3) A cards then 0 else 10) else 2
/-- Its name is no longer than a text may be; its keys are a number of 64 bits. -/
def CdOk (y : Cd) : Prop := y.nm.size ≤ maxLen ∧ In64 y.keys
set_option maxRecDepth 100000 in
set_option maxHeartbeats 4000000 in
theorem cardCheck_any (y : Cd) (A : List AbT) (cards r : Int) (hr : chkC y A cards = r) (w : World) (h : CdR w y A) (hy : CdOk y) (hT : Tabs w) :
    Calls Tryd.prog 8 #[.agg #[.string y.nm, .int .i64 y.k, .int .i64 y.c0, .int .i64 y.c1, .int .i64 y.c2, .int .i64 y.c3, .int .i64 y.col, .int .i64 y.pow, .int .i64 y.tou, .int .i64 y.keys, .slice y.aa y.an y.ac], .int .i64 cards] w fun e w' => e = .returned (.int .i64 r) ∧ Below w.heap.size w w' := by
  have HR := Lib.hid hr
  have hb := below_alloc1 w (.cells #[.string y.nm, .int .i64 y.k, .int .i64 y.c0, .int .i64 y.c1, .int .i64 y.c2, .int .i64 y.c3, .int .i64 y.col, .int .i64 y.pow, .int .i64 y.tou, .int .i64 y.keys, .slice y.aa y.an y.ac] 26)
  have HA := Lib.hid (h.next hb)
  have HT := Lib.hid (hT.next hb)
  have HX := Lib.hid (boxC_new w y 26)
  have HZ := Lib.hid (show w.heap.size + 1 = (w.alloc (.cells #[.string y.nm, .int .i64 y.k, .int .i64 y.c0, .int .i64 y.c1, .int .i64 y.c2, .int .i64 y.c3, .int .i64 y.col, .int .i64 y.pow, .int .i64 y.tou, .int .i64 y.keys, .slice y.aa y.an y.ac] 26)).heap.size by simp)
  have HW := Lib.hid hb
  have HY := Lib.hid hy
  clear hr h hb hT hy
  cases t1 : btw 0 40 cards
  · have HV := Lib.hid (show r = 2 by rw [← HR.out]; simp [chkC, t1])
    have Ht1 := Lib.hid t1
    clear t1
    go_enter Tryd.func8, Tryd.ntmps8
    go_wp2_with fail
    generalize w.alloc (.cells #[.string y.nm, .int .i64 y.k, .int .i64 y.c0, .int .i64 y.c1, .int .i64 y.c2, .int .i64 y.c3, .int .i64 y.col, .int .i64 y.pow, .int .i64 y.tou, .int .i64 y.keys, .slice y.aa y.an y.ac] 26) = W at *
    refine (within_at [⟨cards, 0, 40⟩] _ _ rfl 1 rfl (by omega) false ((wi_one _ _ _).trans Ht1.out) _ _ HZ.out).mono ?_
    rintro e w1 ⟨rfl, hb⟩
    have HB1 := Lib.hid (hb)
    clear hb
    obtain ⟨q0, q1, q2, q3, q4, q5, q6, q7, q8, q9, q10⟩ := (HX.out.next HB1.out).cells
    go_wp2_with fail
    go_ret
    exact ⟨int_ret HV.out.symm, HW.out.trans (HB1.out.mono HW.out.size)⟩
  · cases t2 : longB y A
    · cases t3 : mayB y
      · have HV := Lib.hid (show r = 10 by rw [← HR.out]; simp [chkC, t1, t2, t3])
        have Ht1 := Lib.hid t1
        have Ht2 := Lib.hid t2
        have Ht3 := Lib.hid t3
        clear t1 t2 t3
        go_enter Tryd.func8, Tryd.ntmps8
        go_wp2_with fail
        generalize w.alloc (.cells #[.string y.nm, .int .i64 y.k, .int .i64 y.c0, .int .i64 y.c1, .int .i64 y.c2, .int .i64 y.c3, .int .i64 y.col, .int .i64 y.pow, .int .i64 y.tou, .int .i64 y.keys, .slice y.aa y.an y.ac] 26) = W at *
        refine (within_at [⟨cards, 0, 40⟩] _ _ rfl 1 rfl (by omega) true ((wi_one _ _ _).trans Ht1.out) _ _ HZ.out).mono ?_
        rintro e w1 ⟨rfl, hb⟩
        have HB1 := Lib.hid (hb)
        clear hb
        obtain ⟨q0, q1, q2, q3, q4, q5, q6, q7, q8, q9, q10⟩ := (HX.out.next HB1.out).cells
        go_wp2_with fail
        refine (isLong_any y A false Ht2.out _ (HA.out.next HB1.out) HY.out.1).mono ?_
        rintro e w2 ⟨rfl, hb⟩
        have HB2 := Lib.hid (below_then' HB1.out hb HB1.out.size)
        clear hb
        clear q0 q1 q2 q3 q4 q5 q6 q7 q8 q9 q10
        obtain ⟨q0, q1, q2, q3, q4, q5, q6, q7, q8, q9, q10⟩ := (HX.out.next HB2.out).cells
        go_wp2_with fail
        refine (mayBe_any y HY.out.2 false Ht3.out _ (HT.out.next HB2.out)).mono ?_
        rintro e w3 ⟨rfl, hb⟩
        have HB3 := Lib.hid (below_then' HB2.out hb HB2.out.size)
        clear hb
        clear q0 q1 q2 q3 q4 q5 q6 q7 q8 q9 q10
        obtain ⟨q0, q1, q2, q3, q4, q5, q6, q7, q8, q9, q10⟩ := (HX.out.next HB3.out).cells
        go_wp2_with fail
        go_ret
        exact ⟨int_ret HV.out.symm, HW.out.trans (HB3.out.mono HW.out.size)⟩
      · cases t4 : canB (y.k == 3) A cards
        · have HV := Lib.hid (show r = 10 by rw [← HR.out]; simp [chkC, t1, t2, t3, t4])
          have Ht1 := Lib.hid t1
          have Ht2 := Lib.hid t2
          have Ht3 := Lib.hid t3
          have Ht4 := Lib.hid t4
          clear t1 t2 t3 t4
          go_enter Tryd.func8, Tryd.ntmps8
          go_wp2_with fail
          generalize w.alloc (.cells #[.string y.nm, .int .i64 y.k, .int .i64 y.c0, .int .i64 y.c1, .int .i64 y.c2, .int .i64 y.c3, .int .i64 y.col, .int .i64 y.pow, .int .i64 y.tou, .int .i64 y.keys, .slice y.aa y.an y.ac] 26) = W at *
          refine (within_at [⟨cards, 0, 40⟩] _ _ rfl 1 rfl (by omega) true ((wi_one _ _ _).trans Ht1.out) _ _ HZ.out).mono ?_
          rintro e w1 ⟨rfl, hb⟩
          have HB1 := Lib.hid (hb)
          clear hb
          obtain ⟨q0, q1, q2, q3, q4, q5, q6, q7, q8, q9, q10⟩ := (HX.out.next HB1.out).cells
          go_wp2_with fail
          refine (isLong_any y A false Ht2.out _ (HA.out.next HB1.out) HY.out.1).mono ?_
          rintro e w2 ⟨rfl, hb⟩
          have HB2 := Lib.hid (below_then' HB1.out hb HB1.out.size)
          clear hb
          clear q0 q1 q2 q3 q4 q5 q6 q7 q8 q9 q10
          obtain ⟨q0, q1, q2, q3, q4, q5, q6, q7, q8, q9, q10⟩ := (HX.out.next HB2.out).cells
          go_wp2_with fail
          refine (mayBe_any y HY.out.2 true Ht3.out _ (HT.out.next HB2.out)).mono ?_
          rintro e w3 ⟨rfl, hb⟩
          have HB3 := Lib.hid (below_then' HB2.out hb HB2.out.size)
          clear hb
          clear q0 q1 q2 q3 q4 q5 q6 q7 q8 q9 q10
          obtain ⟨q0, q1, q2, q3, q4, q5, q6, q7, q8, q9, q10⟩ := (HX.out.next HB3.out).cells
          go_wp2_with fail
          refine (canDo_any y A _ rfl cards false Ht4.out _ (HA.out.next HB3.out) (HT.out.next HB3.out)).mono ?_
          rintro e w4 ⟨rfl, hb⟩
          have HB4 := Lib.hid (below_then' HB3.out hb HB3.out.size)
          clear hb
          clear q0 q1 q2 q3 q4 q5 q6 q7 q8 q9 q10
          obtain ⟨q0, q1, q2, q3, q4, q5, q6, q7, q8, q9, q10⟩ := (HX.out.next HB4.out).cells
          go_wp2_with fail
          go_ret
          exact ⟨int_ret HV.out.symm, HW.out.trans (HB4.out.mono HW.out.size)⟩
        · have HV := Lib.hid (show r = 0 by rw [← HR.out]; simp [chkC, t1, t2, t3, t4])
          have Ht1 := Lib.hid t1
          have Ht2 := Lib.hid t2
          have Ht3 := Lib.hid t3
          have Ht4 := Lib.hid t4
          clear t1 t2 t3 t4
          go_enter Tryd.func8, Tryd.ntmps8
          go_wp2_with fail
          generalize w.alloc (.cells #[.string y.nm, .int .i64 y.k, .int .i64 y.c0, .int .i64 y.c1, .int .i64 y.c2, .int .i64 y.c3, .int .i64 y.col, .int .i64 y.pow, .int .i64 y.tou, .int .i64 y.keys, .slice y.aa y.an y.ac] 26) = W at *
          refine (within_at [⟨cards, 0, 40⟩] _ _ rfl 1 rfl (by omega) true ((wi_one _ _ _).trans Ht1.out) _ _ HZ.out).mono ?_
          rintro e w1 ⟨rfl, hb⟩
          have HB1 := Lib.hid (hb)
          clear hb
          obtain ⟨q0, q1, q2, q3, q4, q5, q6, q7, q8, q9, q10⟩ := (HX.out.next HB1.out).cells
          go_wp2_with fail
          refine (isLong_any y A false Ht2.out _ (HA.out.next HB1.out) HY.out.1).mono ?_
          rintro e w2 ⟨rfl, hb⟩
          have HB2 := Lib.hid (below_then' HB1.out hb HB1.out.size)
          clear hb
          clear q0 q1 q2 q3 q4 q5 q6 q7 q8 q9 q10
          obtain ⟨q0, q1, q2, q3, q4, q5, q6, q7, q8, q9, q10⟩ := (HX.out.next HB2.out).cells
          go_wp2_with fail
          refine (mayBe_any y HY.out.2 true Ht3.out _ (HT.out.next HB2.out)).mono ?_
          rintro e w3 ⟨rfl, hb⟩
          have HB3 := Lib.hid (below_then' HB2.out hb HB2.out.size)
          clear hb
          clear q0 q1 q2 q3 q4 q5 q6 q7 q8 q9 q10
          obtain ⟨q0, q1, q2, q3, q4, q5, q6, q7, q8, q9, q10⟩ := (HX.out.next HB3.out).cells
          go_wp2_with fail
          refine (canDo_any y A _ rfl cards true Ht4.out _ (HA.out.next HB3.out) (HT.out.next HB3.out)).mono ?_
          rintro e w4 ⟨rfl, hb⟩
          have HB4 := Lib.hid (below_then' HB3.out hb HB3.out.size)
          clear hb
          clear q0 q1 q2 q3 q4 q5 q6 q7 q8 q9 q10
          obtain ⟨q0, q1, q2, q3, q4, q5, q6, q7, q8, q9, q10⟩ := (HX.out.next HB4.out).cells
          go_wp2_with fail
          go_ret
          exact ⟨int_ret HV.out.symm, HW.out.trans (HB4.out.mono HW.out.size)⟩
    · have HV := Lib.hid (show r = 3 by rw [← HR.out]; simp [chkC, t1, t2])
      have Ht1 := Lib.hid t1
      have Ht2 := Lib.hid t2
      clear t1 t2
      go_enter Tryd.func8, Tryd.ntmps8
      go_wp2_with fail
      generalize w.alloc (.cells #[.string y.nm, .int .i64 y.k, .int .i64 y.c0, .int .i64 y.c1, .int .i64 y.c2, .int .i64 y.c3, .int .i64 y.col, .int .i64 y.pow, .int .i64 y.tou, .int .i64 y.keys, .slice y.aa y.an y.ac] 26) = W at *
      refine (within_at [⟨cards, 0, 40⟩] _ _ rfl 1 rfl (by omega) true ((wi_one _ _ _).trans Ht1.out) _ _ HZ.out).mono ?_
      rintro e w1 ⟨rfl, hb⟩
      have HB1 := Lib.hid (hb)
      clear hb
      obtain ⟨q0, q1, q2, q3, q4, q5, q6, q7, q8, q9, q10⟩ := (HX.out.next HB1.out).cells
      go_wp2_with fail
      refine (isLong_any y A true Ht2.out _ (HA.out.next HB1.out) HY.out.1).mono ?_
      rintro e w2 ⟨rfl, hb⟩
      have HB2 := Lib.hid (below_then' HB1.out hb HB1.out.size)
      clear hb
      clear q0 q1 q2 q3 q4 q5 q6 q7 q8 q9 q10
      obtain ⟨q0, q1, q2, q3, q4, q5, q6, q7, q8, q9, q10⟩ := (HX.out.next HB2.out).cells
      go_wp2_with fail
      go_ret
      exact ⟨int_ret HV.out.symm, HW.out.trans (HB2.out.mono HW.out.size)⟩
end Go.Proofs.YtfhmadlobdklbaaDoor
