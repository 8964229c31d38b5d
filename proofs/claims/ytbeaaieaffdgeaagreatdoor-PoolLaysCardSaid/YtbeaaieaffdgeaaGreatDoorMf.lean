/- Texts that belong together: CardL, CardM, CardN, CardO, CardP, CardR, CardS. -/
import Derived.Test.YtbeaaieaffdgeaaGreatDoorMe
/- card.Check. (Written by gen5l.py.) -/
section
namespace Go.Proofs.YtbeaaieaffdgeaaGreatDoor
open Go.RowKit
set_option linter.unusedVariables false
set_option linter.unusedSimpArgs false

/-- What Check tells. -/
def chkC (y : Cd) (A : List AbT) (cards : Int) : Int := if btw 0 40 cards then (if longB y A then 3 else if mayB y && canB (y.k == 3) A cards then 0 else 10) else 2
/-- Its name is no longer than a text may be; its keys are a number of 64 bits. -/
def CdOk (y : Cd) : Prop := y.nm.size ≤ maxLen ∧ In64 y.keys
set_option maxRecDepth 100000 in
set_option maxHeartbeats 4000000 in
theorem cardCheck_any (y : Cd) (A : List AbT) (cards r : Int) (hr : chkC y A cards = r) (w : World) (h : CdR w y A) (hy : CdOk y) (hT : Tabs w) :
    Calls Tryz.prog 44 #[.agg #[.string y.nm, .int .i64 y.k, .int .i64 y.c0, .int .i64 y.c1, .int .i64 y.c2, .int .i64 y.c3, .int .i64 y.col, .int .i64 y.pow, .int .i64 y.tou, .int .i64 y.keys, .slice y.aa y.an y.ac], .int .i64 cards] w fun e w' => e = .returned (.int .i64 r) ∧ Below w.heap.size w w' := by
  have HR := Lib.hid hr
  have hb := below_alloc1 w (.cells #[.string y.nm, .int .i64 y.k, .int .i64 y.c0, .int .i64 y.c1, .int .i64 y.c2, .int .i64 y.c3, .int .i64 y.col, .int .i64 y.pow, .int .i64 y.tou, .int .i64 y.keys, .slice y.aa y.an y.ac] 38)
  have HA := Lib.hid (h.next hb)
  have HT := Lib.hid (hT.next hb)
  have HX := Lib.hid (boxC_new w y 38)
  have HZ := Lib.hid (show w.heap.size + 1 = (w.alloc (.cells #[.string y.nm, .int .i64 y.k, .int .i64 y.c0, .int .i64 y.c1, .int .i64 y.c2, .int .i64 y.c3, .int .i64 y.col, .int .i64 y.pow, .int .i64 y.tou, .int .i64 y.keys, .slice y.aa y.an y.ac] 38)).heap.size by simp)
  have HW := Lib.hid hb
  have HY := Lib.hid hy
  clear hr h hb hT hy
  cases t1 : btw 0 40 cards
  · have HV := Lib.hid (show r = 2 by rw [← HR.out]; simp [chkC, t1])
    have Ht1 := Lib.hid t1
    clear t1
    go_enter Tryz.func44, Tryz.ntmps44
    go_wp2_with fail
    generalize w.alloc (.cells #[.string y.nm, .int .i64 y.k, .int .i64 y.c0, .int .i64 y.c1, .int .i64 y.c2, .int .i64 y.c3, .int .i64 y.col, .int .i64 y.pow, .int .i64 y.tou, .int .i64 y.keys, .slice y.aa y.an y.ac] 38) = W at *
    refine (within_at [⟨cards, 0, 40⟩] _ _ rfl 1 rfl (by omega) false ((wi_one _ _ _).trans Ht1.out) _ _ HZ.out).mono ?_
    rintro e w1 ⟨rfl, hb⟩
    have HB1 := Lib.hid (hb)
    clear hb
    obtain ⟨q0, q1, q2, q3, q4, q5, q6, q7, q8, q9, q10⟩ := (HX.out.next HB1.out).cells
    go_wp2_with fail
    go_ret
    exact ⟨int_ret HV.out.symm, HW.out.trans (HB1.out.mono HW.out.size)⟩
  · cases t2 : longB y A
    · cases t3 : mayB y
      · have HV := Lib.hid (show r = 10 by rw [← HR.out]; simp [chkC, t1, t2, t3])
        have Ht1 := Lib.hid t1
        have Ht2 := Lib.hid t2
        have Ht3 := Lib.hid t3
        clear t1 t2 t3
        go_enter Tryz.func44, Tryz.ntmps44
        go_wp2_with fail
        generalize w.alloc (.cells #[.string y.nm, .int .i64 y.k, .int .i64 y.c0, .int .i64 y.c1, .int .i64 y.c2, .int .i64 y.c3, .int .i64 y.col, .int .i64 y.pow, .int .i64 y.tou, .int .i64 y.keys, .slice y.aa y.an y.ac] 38) = W at *
        refine (within_at [⟨cards, 0, 40⟩] _ _ rfl 1 rfl (by omega) true ((wi_one _ _ _).trans Ht1.out) _ _ HZ.out).mono ?_
        rintro e w1 ⟨rfl, hb⟩
        have HB1 := Lib.hid (hb)
        clear hb
        obtain ⟨q0, q1, q2, q3, q4, q5, q6, q7, q8, q9, q10⟩ := (HX.out.next HB1.out).cells
        go_wp2_with fail
        refine (isLong_any y A false Ht2.out _ (HA.out.next HB1.out) HY.out.1).mono ?_
        rintro e w2 ⟨rfl, hb⟩
        have HB2 := Lib.hid (below_then' HB1.out hb HB1.out.size)
        clear hb
        clear q0 q1 q2 q3 q4 q5 q6 q7 q8 q9 q10
        obtain ⟨q0, q1, q2, q3, q4, q5, q6, q7, q8, q9, q10⟩ := (HX.out.next HB2.out).cells
        go_wp2_with fail
        refine (mayBe_any y HY.out.2 false Ht3.out _ (HT.out.next HB2.out)).mono ?_
        rintro e w3 ⟨rfl, hb⟩
        have HB3 := Lib.hid (below_then' HB2.out hb HB2.out.size)
        clear hb
        clear q0 q1 q2 q3 q4 q5 q6 q7 q8 q9 q10
        obtain ⟨q0, q1, q2, q3, q4, q5, q6, q7, q8, q9, q10⟩ := (HX.out.next HB3.out).cells
        go_wp2_with fail
        go_ret
        exact ⟨int_ret HV.out.symm, HW.out.trans (HB3.out.mono HW.out.size)⟩
      · cases t4 : canB (y.k == 3) A cards
        · have HV := Lib.hid (show r = 10 by rw [← HR.out]; simp [chkC, t1, t2, t3, t4])
          have Ht1 := Lib.hid t1
          have Ht2 := Lib.hid t2
          have Ht3 := Lib.hid t3
          have Ht4 := Lib.hid t4
          clear t1 t2 t3 t4
          go_enter Tryz.func44, Tryz.ntmps44
          go_wp2_with fail
          generalize w.alloc (.cells #[.string y.nm, .int .i64 y.k, .int .i64 y.c0, .int .i64 y.c1, .int .i64 y.c2, .int .i64 y.c3, .int .i64 y.col, .int .i64 y.pow, .int .i64 y.tou, .int .i64 y.keys, .slice y.aa y.an y.ac] 38) = W at *
          refine (within_at [⟨cards, 0, 40⟩] _ _ rfl 1 rfl (by omega) true ((wi_one _ _ _).trans Ht1.out) _ _ HZ.out).mono ?_
          rintro e w1 ⟨rfl, hb⟩
          have HB1 := Lib.hid (hb)
          clear hb
          obtain ⟨q0, q1, q2, q3, q4, q5, q6, q7, q8, q9, q10⟩ := (HX.out.next HB1.out).cells
          go_wp2_with fail
          refine (isLong_any y A false Ht2.out _ (HA.out.next HB1.out) HY.out.1).mono ?_
          rintro e w2 ⟨rfl, hb⟩
          have HB2 := Lib.hid (below_then' HB1.out hb HB1.out.size)
          clear hb
          clear q0 q1 q2 q3 q4 q5 q6 q7 q8 q9 q10
          obtain ⟨q0, q1, q2, q3, q4, q5, q6, q7, q8, q9, q10⟩ := (HX.out.next HB2.out).cells
          go_wp2_with fail
          refine (mayBe_any y HY.out.2 true Ht3.out _ (HT.out.next HB2.out)).mono ?_
          rintro e w3 ⟨rfl, hb⟩
          have HB3 := Lib.hid (below_then' HB2.out hb HB2.out.size)
          clear hb
          clear q0 q1 q2 q3 q4 q5 q6 q7 q8 q9 q10
          obtain ⟨q0, q1, q2, q3, q4, q5, q6, q7, q8, q9, q10⟩ := (HX.out.next HB3.out).cells
          go_wp2_with fail
          refine (canDo_any y A _ rfl cards false Ht4.out _ (HA.out.next HB3.out) (HT.out.next HB3.out)).mono ?_
          rintro e w4 ⟨rfl, hb⟩
          have HB4 := Lib.hid (below_then' HB3.out hb HB3.out.size)
          clear hb
          clear q0 q1 q2 q3 q4 q5 q6 q7 q8 q9 q10
          obtain ⟨q0, q1, q2, q3, q4, q5, q6, q7, q8, q9, q10⟩ := (HX.out.next HB4.out).cells
          go_wp2_with fail
          go_ret
          exact ⟨int_ret HV.out.symm, HW.out.trans (HB4.out.mono HW.out.size)⟩
        · have HV := Lib.hid (show r = 0 by rw [← HR.out]; simp [chkC, t1, t2, t3, t4])
          have Ht1 := Lib.hid t1
          have Ht2 := Lib.hid t2
          have Ht3 := Lib.hid t3
          have Ht4 := Lib.hid t4
          clear t1 t2 t3 t4
          go_enter Tryz.func44, Tryz.ntmps44
          go_wp2_with fail
          generalize w.alloc (.cells #[.string y.nm, .int .i64 y.k, .int .i64 y.c0, .int .i64 y.c1, .int .i64 y.c2, .int .i64 y.c3, .int .i64 y.col, .int .i64 y.pow, .int .i64 y.tou, .int .i64 y.keys, .slice y.aa y.an y.ac] 38) = W at *
          refine (within_at [⟨cards, 0, 40⟩] _ _ rfl 1 rfl (by omega) true ((wi_one _ _ _).trans Ht1.out) _ _ HZ.out).mono ?_
          rintro e w1 ⟨rfl, hb⟩
          have HB1 := Lib.hid (hb)
          clear hb
          obtain ⟨q0, q1, q2, q3, q4, q5, q6, q7, q8, q9, q10⟩ := (HX.out.next HB1.out).cells
          go_wp2_with fail
          refine (isLong_any y A false Ht2.out _ (HA.out.next HB1.out) HY.out.1).mono ?_
          rintro e w2 ⟨rfl, hb⟩
          have HB2 := Lib.hid (below_then' HB1.out hb HB1.out.size)
          clear hb
          clear q0 q1 q2 q3 q4 q5 q6 q7 q8 q9 q10
          obtain ⟨q0, q1, q2, q3, q4, q5, q6, q7, q8, q9, q10⟩ := (HX.out.next HB2.out).cells
          go_wp2_with fail
          refine (mayBe_any y HY.out.2 true Ht3.out _ (HT.out.next HB2.out)).mono ?_
          rintro e w3 ⟨rfl, hb⟩
          have HB3 := Lib.hid (below_then' HB2.out hb HB2.out.size)
          clear hb
          clear q0 q1 q2 q3 q4 q5 q6 q7 q8 q9 q10
          obtain ⟨q0, q1, q2, q3, q4, q5, q6, q7, q8, q9, q10⟩ := (HX.out.next HB3.out).cells
          go_wp2_with fail
          refine (canDo_any y A _ rfl cards true Ht4.out _ (HA.out.next HB3.out) (HT.out.next HB3.out)).mono ?_
          rintro e w4 ⟨rfl, hb⟩
          have HB4 := Lib.hid (below_then' HB3.out hb HB3.out.size)
          clear hb
          clear q0 q1 q2 q3 q4 q5 q6 q7 q8 q9 q10
          obtain ⟨q0, q1, q2, q3, q4, q5, q6, q7, q8, q9, q10⟩ := (HX.out.next HB4.out).cells
          go_wp2_with fail
          go_ret
          exact ⟨int_ret HV.out.symm, HW.out.trans (HB4.out.mono HW.out.size)⟩
    · have HV := Lib.hid (show r = 3 by rw [← HR.out]; simp [chkC, t1, t2])
      have Ht1 := Lib.hid t1
      have Ht2 := Lib.hid t2
      clear t1 t2
      go_enter Tryz.func44, Tryz.ntmps44
      go_wp2_with fail
      generalize w.alloc (.cells #[.string y.nm, .int .i64 y.k, .int .i64 y.c0, .int .i64 y.c1, .int .i64 y.c2, .int .i64 y.c3, .int .i64 y.col, .int .i64 y.pow, .int .i64 y.tou, .int .i64 y.keys, .slice y.aa y.an y.ac] 38) = W at *
      refine (within_at [⟨cards, 0, 40⟩] _ _ rfl 1 rfl (by omega) true ((wi_one _ _ _).trans Ht1.out) _ _ HZ.out).mono ?_
      rintro e w1 ⟨rfl, hb⟩
      have HB1 := Lib.hid (hb)
      clear hb
      obtain ⟨q0, q1, q2, q3, q4, q5, q6, q7, q8, q9, q10⟩ := (HX.out.next HB1.out).cells
      go_wp2_with fail
      refine (isLong_any y A true Ht2.out _ (HA.out.next HB1.out) HY.out.1).mono ?_
      rintro e w2 ⟨rfl, hb⟩
      have HB2 := Lib.hid (below_then' HB1.out hb HB1.out.size)
      clear hb
      clear q0 q1 q2 q3 q4 q5 q6 q7 q8 q9 q10
      obtain ⟨q0, q1, q2, q3, q4, q5, q6, q7, q8, q9, q10⟩ := (HX.out.next HB2.out).cells
      go_wp2_with fail
      go_ret
      exact ⟨int_ret HV.out.symm, HW.out.trans (HB2.out.mono HW.out.size)⟩
end Go.Proofs.YtbeaaieaffdgeaaGreatDoor
end
/- The document's answer: in, cost, targets, bare. -/
section
namespace Go.Proofs.YtbeaaieaffdgeaaGreatDoor
open Go.RowKit
set_option linter.unusedVariables false
set_option linter.unusedSimpArgs false

theorem refIn_any (n lo hi : Int) (w : World) :
    Calls Tryz.prog 46 #[.int .i64 n, .int .i64 lo, .int .i64 hi] w fun e w' => e = .returned (.bool (btw lo hi n)) ∧ w = w' := by
  by_cases a : lo ≤ n
  · by_cases b : n ≤ hi
    · go_enter Tryz.func46, Tryz.ntmps46
      go_wp2
      go_ret
      exact ⟨bool_ret (by simp [btw, a, b]), rfl⟩
    · go_enter Tryz.func46, Tryz.ntmps46
      go_wp2
      go_ret
      exact ⟨bool_ret (by simp [btw, a, b]), rfl⟩
  · go_enter Tryz.func46, Tryz.ntmps46
    go_wp2
    go_ret
    exact ⟨bool_ret (by simp [btw]; omega), rfl⟩
set_option maxHeartbeats 2000000 in
theorem refCost_any (c0 c1 c2 c3 : Int) (r : Bool) (hr : wi (costL 20 c0 c1 c2 c3) = r) (w : World) :
    Calls Tryz.prog 69 #[.agg #[.int .i64 c0, .int .i64 c1, .int .i64 c2, .int .i64 c3]] w fun e w' => e = .returned (.bool r) ∧ Below w.heap.size w w' := by
  have HR := Lib.hid hr
  have HB := Lib.hid (below_alloc1 w (.cells #[.int .i64 c0, .int .i64 c1, .int .i64 c2, .int .i64 c3] 35))
  clear hr
  go_enter Tryz.func69, Tryz.ntmps69
  go_wp2_with (go_at_call 46; refine (refIn_any _ _ _ _).mono ?_; rintro e w' ⟨rfl, rfl⟩)
  all_goals
    go_ret
    refine ⟨bool_ret ?_, HB.out⟩
    rw [← HR.out]
    simp [wi, costL, *]
set_option maxRecDepth 100000 in
set_option maxHeartbeats 2000000 in
theorem refTargets_any (a : Option Addr) (c : Nat) (T : List Int) (n : Nat) (hn : T.length = n) (r : Bool) (hr : (aimsB T && decide (n ≤ 2)) = r) (w : World) (h : IsL w a c T) :
    Calls Tryz.prog 71 #[.slice a n c] w fun e w' => e = .returned (.bool r) ∧ w = w' := by
  have HR := Lib.hid hr
  have HL := Lib.hid h
  have hcap := h.1
  have hcm := h.2.1
  rw [hn] at hcap
  have HN := Lib.hid hn
  clear hr h hn
  go_enter Tryz.func71, Tryz.ntmps71
  go_wp2_with fail
  go_loop [3] (fun q => ∃ k : Nat, q = .int .i64 (k : Int) ∧ k ≤ n ∧ ∀ j (h : j < T.length), j < k → btw 1 6 T[j] = true) (fun q => n - (intOf q).toNat)
  case atStart => exact ⟨0, rfl, Nat.zero_le _, fun j _ hj => by omega⟩
  case round =>
    obtain ⟨k, rfl, hk, hn⟩ := hrel
    have HT := Lib.hid hn
    clear hn
    by_cases hlt : k < n
    · obtain ⟨b, off, y, hy, hta, x0⟩ := HL.out.at k (by rw [HN.out]; exact hlt)
      have HY := Lib.hid hy
      clear hy
      rw [hta] at *
      cases hone : btw 1 6 y
      · have HV := Lib.hid (show r = false by
          rw [← HR.out, Bool.and_eq_false_iff]
          left
          refine Bool.eq_false_iff.2 fun hall => ?_
          have := List.all_eq_true.1 hall _ (List.getElem_mem (by rw [HN.out]; exact hlt))
          rw [← HY.out, hone] at this
          cases this)
        go_wp2_with fail
        refine (refIn_any _ _ _ _).mono ?_
        rintro e w' ⟨rfl, rfl⟩
        rw [hone]
        go_wp2_with fail
        go_ret
        exact ⟨bool_ret HV.out.symm, rfl⟩
      · go_wp2_with fail
        refine (refIn_any _ _ _ _).mono ?_
        rintro e w' ⟨rfl, rfl⟩
        rw [hone]
        go_wp2_with fail
        go_round
        case rel => exact ⟨k + 1, by go_num, by omega, fun j h1 h2 => by
          by_cases hjk : j = k
          · subst hjk; rw [← HY.out]; exact hone
          · exact HT.out j h1 (by omega)⟩
        case measure => simp [intOf]; omega
    · have HV := Lib.hid (show aimsB T = true by
        refine List.all_eq_true.2 fun y hy => ?_
        obtain ⟨j, hj, rfl⟩ := List.getElem_of_mem hy
        exact HT.out j hj (by have := HN.out; omega))
      go_wp2_with fail
      go_ret
      exact ⟨bool_ret (by rw [← HR.out, HV.out]; simp; omega), rfl⟩
/-- Has it nothing but numbers? -/
def bareB (x : Ab) : Bool := decide ((x.tn : Int) = 0) && (decide ((x.cn : Int) = 0) && ((x.c0 == 0 && (x.c1 == 0 && (x.c2 == 0 && x.c3 == 0))) && !x.tap))
set_option maxRecDepth 100000 in
set_option maxHeartbeats 2000000 in
theorem refBare_any (x : Ab) (r : Bool) (hr : bareB x = r) (w : World) :
    Calls Tryz.prog 88 #[.agg #[.int .i64 x.k, .int .i64 x.ev, .int .i64 x.wh, .int .i64 x.c0, .int .i64 x.c1, .int .i64 x.c2, .int .i64 x.c3, .bool x.tap, .slice x.ta x.tn x.tc, .slice x.ca x.cn x.cc, .int .i64 x.op, .int .i64 x.a, .int .i64 x.b]] w fun e w' => e = .returned (.bool r) ∧ Below w.heap.size w w' := by
  have HR := Lib.hid hr
  have HB := Lib.hid (below_alloc1 w (.cells #[.int .i64 x.k, .int .i64 x.ev, .int .i64 x.wh, .int .i64 x.c0, .int .i64 x.c1, .int .i64 x.c2, .int .i64 x.c3, .bool x.tap, .slice x.ta x.tn x.tc, .slice x.ca x.cn x.cc, .int .i64 x.op, .int .i64 x.a, .int .i64 x.b] 42))
  clear hr
  have hq := fun W => equal_mana x.c0 x.c1 x.c2 x.c3 0 0 0 0 W
  obtain ⟨s, hs⟩ : ∃ s, s = (x.c0 == 0 && (x.c1 == 0 && (x.c2 == 0 && x.c3 == 0))) := ⟨_, rfl⟩
  rw [← hs] at hq
  have HS := Lib.hid hs
  clear hs
  go_enter Tryz.func88, Tryz.ntmps88
  go_wp2_with fail
  all_goals
    go_ret
    refine ⟨bool_ret ?_, below_alloc1 _ _⟩
    rw [← HR.out, bareB, ← HS.out]
    simp [*]
end Go.Proofs.YtbeaaieaffdgeaaGreatDoor
end
/- The document's answer: static, repl. (Written by gen5n.py.) -/
section
namespace Go.Proofs.YtbeaaieaffdgeaaGreatDoor
open Go.RowKit
set_option linter.unusedVariables false
set_option linter.unusedSimpArgs false

def refStaticB (x : Ab) : Bool :=
  bareB x && (x.ev == 0 && (btw 0 3 x.wh && (if x.op = 1 ∨ x.op = 2 then btw 1 127 x.a && x.b == 0 else if x.op = 3 then btw 0 15 x.a && btw 0 15 x.b else if x.op = 4 then btw (-15) 15 x.a && btw (-15) 15 x.b else false)))
def refReplB (x : Ab) : Bool :=
  bareB x && (x.op == 0 && (x.b == 0 && (if x.ev = 1 then x.wh == 0 && btw 1 999 x.a else if x.ev = 3 then x.wh == 0 && btw 0 999 x.a else if x.ev = 2 ∨ x.ev = 4 then btw 0 1 x.wh && x.a == 0 else false)))
set_option maxRecDepth 100000 in
set_option maxHeartbeats 4000000 in
theorem refStatic_any (x : Ab) (r : Bool) (hr : refStaticB x = r) (w : World) :
    Calls Tryz.prog 72 #[.agg #[.int .i64 x.k, .int .i64 x.ev, .int .i64 x.wh, .int .i64 x.c0, .int .i64 x.c1, .int .i64 x.c2, .int .i64 x.c3, .bool x.tap, .slice x.ta x.tn x.tc, .slice x.ca x.cn x.cc, .int .i64 x.op, .int .i64 x.a, .int .i64 x.b]] w fun e w' => e = .returned (.bool r) ∧ Below w.heap.size w w' := by
  have HR := Lib.hid hr
  have HW := Lib.hid (below_alloc1 w (.cells #[.int .i64 x.k, .int .i64 x.ev, .int .i64 x.wh, .int .i64 x.c0, .int .i64 x.c1, .int .i64 x.c2, .int .i64 x.c3, .bool x.tap, .slice x.ta x.tn x.tc, .slice x.ca x.cn x.cc, .int .i64 x.op, .int .i64 x.a, .int .i64 x.b] 42))
  have HX := Lib.hid (boxA_new w x 42)
  clear hr
  cases hs : bareB x
  all_goals
    have HS := Lib.hid hs
    clear hs
    go_enter Tryz.func72, Tryz.ntmps72
    go_wp2_with fail
    generalize w.alloc (.cells #[.int .i64 x.k, .int .i64 x.ev, .int .i64 x.wh, .int .i64 x.c0, .int .i64 x.c1, .int .i64 x.c2, .int .i64 x.c3, .bool x.tap, .slice x.ta x.tn x.tc, .slice x.ca x.cn x.cc, .int .i64 x.op, .int .i64 x.a, .int .i64 x.b] 42) = W at *
    refine (refBare_any x _ HS.out _).mono ?_
    rintro e w1 ⟨rfl, hb⟩
    have HB1 := Lib.hid hb
    clear hb
    obtain ⟨q0, q1, q2, q3, q4, q5, q6, q7, q8, q9, q10, q11, q12⟩ := (HX.out.next HB1.out).cells
    go_wp2_with (go_at_call 46; refine (refIn_any _ _ _ _).mono ?_; rintro e w' ⟨rfl, rfl⟩)
    all_goals
      clear q0 q1 q2 q3 q4 q5 q6 q7 q8 q9 q10 q11 q12
      go_ret
      refine ⟨bool_ret ?_, HW.out.trans (HB1.out.mono HW.out.size)⟩
      rw [← HR.out, refStaticB, HS.out]
      try simp only [Bool.not_eq_true', Bool.not_eq_false', Bool.not_eq_true, beq_iff_eq, beq_eq_false_iff_ne, bne_iff_ne, bne_eq_false_iff_eq, ne_eq] at *
      simp [*]
set_option maxRecDepth 100000 in
set_option maxHeartbeats 4000000 in
theorem refRepl_any (x : Ab) (r : Bool) (hr : refReplB x = r) (w : World) :
    Calls Tryz.prog 73 #[.agg #[.int .i64 x.k, .int .i64 x.ev, .int .i64 x.wh, .int .i64 x.c0, .int .i64 x.c1, .int .i64 x.c2, .int .i64 x.c3, .bool x.tap, .slice x.ta x.tn x.tc, .slice x.ca x.cn x.cc, .int .i64 x.op, .int .i64 x.a, .int .i64 x.b]] w fun e w' => e = .returned (.bool r) ∧ Below w.heap.size w w' := by
  have HR := Lib.hid hr
  have HW := Lib.hid (below_alloc1 w (.cells #[.int .i64 x.k, .int .i64 x.ev, .int .i64 x.wh, .int .i64 x.c0, .int .i64 x.c1, .int .i64 x.c2, .int .i64 x.c3, .bool x.tap, .slice x.ta x.tn x.tc, .slice x.ca x.cn x.cc, .int .i64 x.op, .int .i64 x.a, .int .i64 x.b] 42))
  have HX := Lib.hid (boxA_new w x 42)
  clear hr
  cases hs : bareB x
  all_goals
    have HS := Lib.hid hs
    clear hs
    go_enter Tryz.func73, Tryz.ntmps73
    go_wp2_with fail
    generalize w.alloc (.cells #[.int .i64 x.k, .int .i64 x.ev, .int .i64 x.wh, .int .i64 x.c0, .int .i64 x.c1, .int .i64 x.c2, .int .i64 x.c3, .bool x.tap, .slice x.ta x.tn x.tc, .slice x.ca x.cn x.cc, .int .i64 x.op, .int .i64 x.a, .int .i64 x.b] 42) = W at *
    refine (refBare_any x _ HS.out _).mono ?_
    rintro e w1 ⟨rfl, hb⟩
    have HB1 := Lib.hid hb
    clear hb
    obtain ⟨q0, q1, q2, q3, q4, q5, q6, q7, q8, q9, q10, q11, q12⟩ := (HX.out.next HB1.out).cells
    go_wp2_with (go_at_call 46; refine (refIn_any _ _ _ _).mono ?_; rintro e w' ⟨rfl, rfl⟩)
    all_goals
      clear q0 q1 q2 q3 q4 q5 q6 q7 q8 q9 q10 q11 q12
      go_ret
      refine ⟨bool_ret ?_, HW.out.trans (HB1.out.mono HW.out.size)⟩
      rw [← HR.out, refReplB, HS.out]
      try simp only [Bool.not_eq_true', Bool.not_eq_false', Bool.not_eq_true, beq_iff_eq, beq_eq_false_iff_ne, bne_iff_ne, bne_eq_false_iff_eq, ne_eq] at *
      simp [*]
end Go.Proofs.YtbeaaieaffdgeaaGreatDoor
end
/- The document's answer: ability. (Written by gen5o.py.) -/
section
namespace Go.Proofs.YtbeaaieaffdgeaaGreatDoor
open Go.RowKit
set_option linter.unusedVariables false
set_option linter.unusedSimpArgs false

theorem LitAt.cells13 {w : World} {b : Nat} {v0 v1 v2 v3 v4 v5 v6 v7 v8 v9 v10 v11 v12 : Value} (h : LitAt w b [v0, v1, v2, v3, v4, v5, v6, v7, v8, v9, v10, v11, v12]) :
    w.cell? ⟨b, 0, none⟩ = some v0 ∧ w.cell? ⟨b, 1, none⟩ = some v1 ∧ w.cell? ⟨b, 2, none⟩ = some v2 ∧ w.cell? ⟨b, 3, none⟩ = some v3 ∧ w.cell? ⟨b, 4, none⟩ = some v4 ∧ w.cell? ⟨b, 5, none⟩ = some v5 ∧ w.cell? ⟨b, 6, none⟩ = some v6 ∧
    w.cell? ⟨b, 7, none⟩ = some v7 ∧ w.cell? ⟨b, 8, none⟩ = some v8 ∧ w.cell? ⟨b, 9, none⟩ = some v9 ∧ w.cell? ⟨b, 10, none⟩ = some v10 ∧ w.cell? ⟨b, 11, none⟩ = some v11 ∧ w.cell? ⟨b, 12, none⟩ = some v12 :=
  ⟨h.2 0 (by simp), h.2 1 (by simp), h.2 2 (by simp), h.2 3 (by simp), h.2 4 (by simp), h.2 5 (by simp), h.2 6 (by simp), h.2 7 (by simp), h.2 8 (by simp), h.2 9 (by simp), h.2 10 (by simp), h.2 11 (by simp), h.2 12 (by simp)⟩
def noneB (x : Ab) : Bool := x.op == 0 && (x.a == 0 && x.b == 0)
def zeroB (x : Ab) : Bool := x.c0 == 0 && (x.c1 == 0 && (x.c2 == 0 && x.c3 == 0))
/-- What the document's ability tells; cb: may its code be? tb: may its targets? -/
def refAbilB (sp cb tb : Bool) (x : Ab) : Bool :=
  (sp == (x.k == 1)) && (
    if x.k = 1 then cb && (noneB x && (tb && (x.ev == 0 && (x.wh == 0 && (zeroB x && !x.tap)))))
    else if x.k = 2 then cb && (noneB x && (tb && (x.ev == 0 && (x.wh == 0 && wi (costL 20 x.c0 x.c1 x.c2 x.c3)))))
    else if x.k = 3 then cb && (noneB x && (decide (x.tn = 0) && (btw 1 6 x.ev && (btw 0 2 x.wh && (zeroB x && !x.tap)))))
    else if x.k = 4 then refStaticB x else if x.k = 5 then refReplB x else false)
set_option maxRecDepth 100000 in
set_option maxHeartbeats 4000000 in
theorem refAbil_1 (x : Ab) (hk : x.k = 1) (T : List Int) (L : List Ins) (cards : Int) (cb tb : Bool) (hc : (chk L x.tn cards == 0) = cb) (ht : (aimsB T && decide (x.tn ≤ 2)) = tb) (r : Bool) (hr : refAbilB true cb tb x = r) (w : World) (h : AbR w x T L) :
    Calls Tryz.prog 48 #[.agg #[.int .i64 1, .int .i64 x.ev, .int .i64 x.wh, .int .i64 x.c0, .int .i64 x.c1, .int .i64 x.c2, .int .i64 x.c3, .bool x.tap, .slice x.ta x.tn x.tc, .slice x.ca x.cn x.cc, .int .i64 x.op, .int .i64 x.a, .int .i64 x.b], .bool true, .int .i64 cards] w fun e w' => e = .returned (.bool r) ∧ Below w.heap.size w w' := by
  have hb := below_alloc1 w (.cells #[.int .i64 1, .int .i64 x.ev, .int .i64 x.wh, .int .i64 x.c0, .int .i64 x.c1, .int .i64 x.c2, .int .i64 x.c3, .bool x.tap, .slice x.ta x.tn x.tc, .slice x.ca x.cn x.cc, .int .i64 x.op, .int .i64 x.a, .int .i64 x.b] 42)
  obtain ⟨cq, hq⟩ : ∃ cq, chk L x.tn cards = cq := ⟨_, rfl⟩
  rw [hq] at hc
  have HQ := Lib.hid hq
  have HTb := Lib.hid ht
  have HR := Lib.hid hr
  have HA := Lib.hid (h.next hb)
  have HX := Lib.hid (litAt_new w (#[.int .i64 1, .int .i64 x.ev, .int .i64 x.wh, .int .i64 x.c0, .int .i64 x.c1, .int .i64 x.c2, .int .i64 x.c3, .bool x.tap, .slice x.ta x.tn x.tc, .slice x.ca x.cn x.cc, .int .i64 x.op, .int .i64 x.a, .int .i64 x.b] : Array Value).toList 42)
  have HW := Lib.hid hb
  have HE := Lib.hid (refCheck_any x.ca x.cc L x.tn cards)
  rw [HA.out.2.1, HQ.out] at HE
  have hqz := fun W => equal_mana x.c0 x.c1 x.c2 x.c3 0 0 0 0 W
  obtain ⟨s, hs⟩ : ∃ s, s = zeroB x := ⟨_, rfl⟩
  change ∀ W, _ = Result.ok (zeroB x) W at hqz
  rw [← hs] at hqz
  have HS := Lib.hid hs
  clear hq ht hr h hb hs
  have HK := Lib.hid hk
  clear hk
  go_enter Tryz.func48, Tryz.ntmps48
  go_wp2_with fail
  generalize w.alloc (.cells #[.int .i64 1, .int .i64 x.ev, .int .i64 x.wh, .int .i64 x.c0, .int .i64 x.c1, .int .i64 x.c2, .int .i64 x.c3, .bool x.tap, .slice x.ta x.tn x.tc, .slice x.ca x.cn x.cc, .int .i64 x.op, .int .i64 x.a, .int .i64 x.b] 42) = W at *
  refine (HE.out _ HA.out.2.2).mono ?_
  rintro e w1 ⟨rfl, hb⟩
  have HB1 := Lib.hid hb
  clear hb
  obtain ⟨q0, q1, q2, q3, q4, q5, q6, q7, q8, q9, q10, q11, q12⟩ := (HX.out.next HB1.out).cells13
  go_wp2_with (first | (go_at_call 46; refine (refIn_any _ _ _ _).mono ?_; rintro e w' ⟨rfl, rfl⟩) | (go_at_call 71; refine (refTargets_any _ _ T _ HA.out.1.1 tb HTb.out _ (HA.out.1.2.next HB1.out)).mono ?_; rintro e w' ⟨rfl, rfl⟩))
  all_goals
    clear q0 q1 q2 q3 q4 q5 q6 q7 q8 q9 q10 q11 q12 hqz
    go_ret
    refine ⟨bool_ret ?_, ?_⟩
    · rw [← HR.out, refAbilB]
      simp [noneB, ← HS.out, HK.out, *]
    · first | exact HW.out.trans (HB2.out.mono HW.out.size) | exact HW.out.trans (HB1.out.mono HW.out.size)
set_option maxRecDepth 100000 in
set_option maxHeartbeats 4000000 in
theorem refAbil_2 (x : Ab) (hk : x.k = 2) (T : List Int) (L : List Ins) (cards : Int) (cb tb : Bool) (hc : (chk L x.tn cards == 0) = cb) (ht : (aimsB T && decide (x.tn ≤ 2)) = tb) (r : Bool) (hr : refAbilB false cb tb x = r) (w : World) (h : AbR w x T L) :
    Calls Tryz.prog 48 #[.agg #[.int .i64 2, .int .i64 x.ev, .int .i64 x.wh, .int .i64 x.c0, .int .i64 x.c1, .int .i64 x.c2, .int .i64 x.c3, .bool x.tap, .slice x.ta x.tn x.tc, .slice x.ca x.cn x.cc, .int .i64 x.op, .int .i64 x.a, .int .i64 x.b], .bool false, .int .i64 cards] w fun e w' => e = .returned (.bool r) ∧ Below w.heap.size w w' := by
  have hb := below_alloc1 w (.cells #[.int .i64 2, .int .i64 x.ev, .int .i64 x.wh, .int .i64 x.c0, .int .i64 x.c1, .int .i64 x.c2, .int .i64 x.c3, .bool x.tap, .slice x.ta x.tn x.tc, .slice x.ca x.cn x.cc, .int .i64 x.op, .int .i64 x.a, .int .i64 x.b] 42)
  obtain ⟨cq, hq⟩ : ∃ cq, chk L x.tn cards = cq := ⟨_, rfl⟩
  rw [hq] at hc
  have HQ := Lib.hid hq
  have HTb := Lib.hid ht
  have HR := Lib.hid hr
  have HA := Lib.hid (h.next hb)
  have HX := Lib.hid (litAt_new w (#[.int .i64 2, .int .i64 x.ev, .int .i64 x.wh, .int .i64 x.c0, .int .i64 x.c1, .int .i64 x.c2, .int .i64 x.c3, .bool x.tap, .slice x.ta x.tn x.tc, .slice x.ca x.cn x.cc, .int .i64 x.op, .int .i64 x.a, .int .i64 x.b] : Array Value).toList 42)
  have HW := Lib.hid hb
  have HE := Lib.hid (refCheck_any x.ca x.cc L x.tn cards)
  rw [HA.out.2.1, HQ.out] at HE
  have hqz := fun W => equal_mana x.c0 x.c1 x.c2 x.c3 0 0 0 0 W
  obtain ⟨s, hs⟩ : ∃ s, s = zeroB x := ⟨_, rfl⟩
  change ∀ W, _ = Result.ok (zeroB x) W at hqz
  rw [← hs] at hqz
  have HS := Lib.hid hs
  clear hq ht hr h hb hs
  have HK := Lib.hid hk
  obtain ⟨cob, hco⟩ : ∃ cob, wi (costL 20 x.c0 x.c1 x.c2 x.c3) = cob := ⟨_, rfl⟩
  have HCo := Lib.hid hco
  clear hk hco
  go_enter Tryz.func48, Tryz.ntmps48
  go_wp2_with fail
  generalize w.alloc (.cells #[.int .i64 2, .int .i64 x.ev, .int .i64 x.wh, .int .i64 x.c0, .int .i64 x.c1, .int .i64 x.c2, .int .i64 x.c3, .bool x.tap, .slice x.ta x.tn x.tc, .slice x.ca x.cn x.cc, .int .i64 x.op, .int .i64 x.a, .int .i64 x.b] 42) = W at *
  refine (HE.out _ HA.out.2.2).mono ?_
  rintro e w1 ⟨rfl, hb⟩
  have HB1 := Lib.hid hb
  clear hb
  obtain ⟨q0, q1, q2, q3, q4, q5, q6, q7, q8, q9, q10, q11, q12⟩ := (HX.out.next HB1.out).cells13
  go_wp2_with (first | (go_at_call 46; refine (refIn_any _ _ _ _).mono ?_; rintro e w' ⟨rfl, rfl⟩) | (go_at_call 71; refine (refTargets_any _ _ T _ HA.out.1.1 tb HTb.out _ (HA.out.1.2.next HB1.out)).mono ?_; rintro e w' ⟨rfl, rfl⟩) | (go_at_call 69; refine (refCost_any _ _ _ _ cob HCo.out _).mono ?_; rintro e w2 ⟨rfl, hb⟩; have HB2 := Lib.hid (below_then' HB1.out hb HB1.out.size); clear hb))
  all_goals
    clear q0 q1 q2 q3 q4 q5 q6 q7 q8 q9 q10 q11 q12 hqz
    go_ret
    refine ⟨bool_ret ?_, ?_⟩
    · rw [← HR.out, refAbilB]
      simp [noneB, HCo.out, ← HS.out, HK.out, *]
    · first | exact HW.out.trans (HB2.out.mono HW.out.size) | exact HW.out.trans (HB1.out.mono HW.out.size)
set_option maxRecDepth 100000 in
set_option maxHeartbeats 4000000 in
theorem refAbil_3 (x : Ab) (hk : x.k = 3) (T : List Int) (L : List Ins) (cards : Int) (cb tb : Bool) (hc : (chk L x.tn cards == 0) = cb) (ht : (aimsB T && decide (x.tn ≤ 2)) = tb) (r : Bool) (hr : refAbilB false cb tb x = r) (w : World) (h : AbR w x T L) :
    Calls Tryz.prog 48 #[.agg #[.int .i64 3, .int .i64 x.ev, .int .i64 x.wh, .int .i64 x.c0, .int .i64 x.c1, .int .i64 x.c2, .int .i64 x.c3, .bool x.tap, .slice x.ta x.tn x.tc, .slice x.ca x.cn x.cc, .int .i64 x.op, .int .i64 x.a, .int .i64 x.b], .bool false, .int .i64 cards] w fun e w' => e = .returned (.bool r) ∧ Below w.heap.size w w' := by
  have hb := below_alloc1 w (.cells #[.int .i64 3, .int .i64 x.ev, .int .i64 x.wh, .int .i64 x.c0, .int .i64 x.c1, .int .i64 x.c2, .int .i64 x.c3, .bool x.tap, .slice x.ta x.tn x.tc, .slice x.ca x.cn x.cc, .int .i64 x.op, .int .i64 x.a, .int .i64 x.b] 42)
  obtain ⟨cq, hq⟩ : ∃ cq, chk L x.tn cards = cq := ⟨_, rfl⟩
  rw [hq] at hc
  have HQ := Lib.hid hq
  have HTb := Lib.hid ht
  have HR := Lib.hid hr
  have HA := Lib.hid (h.next hb)
  have HX := Lib.hid (litAt_new w (#[.int .i64 3, .int .i64 x.ev, .int .i64 x.wh, .int .i64 x.c0, .int .i64 x.c1, .int .i64 x.c2, .int .i64 x.c3, .bool x.tap, .slice x.ta x.tn x.tc, .slice x.ca x.cn x.cc, .int .i64 x.op, .int .i64 x.a, .int .i64 x.b] : Array Value).toList 42)
  have HW := Lib.hid hb
  have HE := Lib.hid (refCheck_any x.ca x.cc L x.tn cards)
  rw [HA.out.2.1, HQ.out] at HE
  have hqz := fun W => equal_mana x.c0 x.c1 x.c2 x.c3 0 0 0 0 W
  obtain ⟨s, hs⟩ : ∃ s, s = zeroB x := ⟨_, rfl⟩
  change ∀ W, _ = Result.ok (zeroB x) W at hqz
  rw [← hs] at hqz
  have HS := Lib.hid hs
  clear hq ht hr h hb hs
  have HK := Lib.hid hk
  clear hk
  go_enter Tryz.func48, Tryz.ntmps48
  go_wp2_with fail
  generalize w.alloc (.cells #[.int .i64 3, .int .i64 x.ev, .int .i64 x.wh, .int .i64 x.c0, .int .i64 x.c1, .int .i64 x.c2, .int .i64 x.c3, .bool x.tap, .slice x.ta x.tn x.tc, .slice x.ca x.cn x.cc, .int .i64 x.op, .int .i64 x.a, .int .i64 x.b] 42) = W at *
  refine (HE.out _ HA.out.2.2).mono ?_
  rintro e w1 ⟨rfl, hb⟩
  have HB1 := Lib.hid hb
  clear hb
  obtain ⟨q0, q1, q2, q3, q4, q5, q6, q7, q8, q9, q10, q11, q12⟩ := (HX.out.next HB1.out).cells13
  go_wp2_with (first | (go_at_call 46; refine (refIn_any _ _ _ _).mono ?_; rintro e w' ⟨rfl, rfl⟩))
  all_goals
    clear q0 q1 q2 q3 q4 q5 q6 q7 q8 q9 q10 q11 q12 hqz
    go_ret
    refine ⟨bool_ret ?_, ?_⟩
    · rw [← HR.out, refAbilB]
      simp [noneB, ← HS.out, HK.out, *]
    · first | exact HW.out.trans (HB2.out.mono HW.out.size) | exact HW.out.trans (HB1.out.mono HW.out.size)
set_option maxRecDepth 100000 in
set_option maxHeartbeats 4000000 in
theorem refAbil_4 (x : Ab) (hk : x.k = 4) (T : List Int) (L : List Ins) (cards : Int) (cb tb : Bool) (hc : (chk L x.tn cards == 0) = cb) (ht : (aimsB T && decide (x.tn ≤ 2)) = tb) (r : Bool) (hr : refAbilB false cb tb x = r) (w : World) (h : AbR w x T L) :
    Calls Tryz.prog 48 #[.agg #[.int .i64 4, .int .i64 x.ev, .int .i64 x.wh, .int .i64 x.c0, .int .i64 x.c1, .int .i64 x.c2, .int .i64 x.c3, .bool x.tap, .slice x.ta x.tn x.tc, .slice x.ca x.cn x.cc, .int .i64 x.op, .int .i64 x.a, .int .i64 x.b], .bool false, .int .i64 cards] w fun e w' => e = .returned (.bool r) ∧ Below w.heap.size w w' := by
  have hb := below_alloc1 w (.cells #[.int .i64 4, .int .i64 x.ev, .int .i64 x.wh, .int .i64 x.c0, .int .i64 x.c1, .int .i64 x.c2, .int .i64 x.c3, .bool x.tap, .slice x.ta x.tn x.tc, .slice x.ca x.cn x.cc, .int .i64 x.op, .int .i64 x.a, .int .i64 x.b] 42)
  obtain ⟨cq, hq⟩ : ∃ cq, chk L x.tn cards = cq := ⟨_, rfl⟩
  rw [hq] at hc
  have HQ := Lib.hid hq
  have HTb := Lib.hid ht
  have HR := Lib.hid hr
  have HA := Lib.hid (h.next hb)
  have HX := Lib.hid (litAt_new w (#[.int .i64 4, .int .i64 x.ev, .int .i64 x.wh, .int .i64 x.c0, .int .i64 x.c1, .int .i64 x.c2, .int .i64 x.c3, .bool x.tap, .slice x.ta x.tn x.tc, .slice x.ca x.cn x.cc, .int .i64 x.op, .int .i64 x.a, .int .i64 x.b] : Array Value).toList 42)
  have HW := Lib.hid hb
  have HE := Lib.hid (refCheck_any x.ca x.cc L x.tn cards)
  rw [HA.out.2.1, HQ.out] at HE
  have hqz := fun W => equal_mana x.c0 x.c1 x.c2 x.c3 0 0 0 0 W
  obtain ⟨s, hs⟩ : ∃ s, s = zeroB x := ⟨_, rfl⟩
  change ∀ W, _ = Result.ok (zeroB x) W at hqz
  rw [← hs] at hqz
  have HS := Lib.hid hs
  clear hq ht hr h hb hs
  have HK := Lib.hid hk
  obtain ⟨fb, hfb⟩ : ∃ fb, refStaticB x = fb := ⟨_, rfl⟩
  have HFb := Lib.hid hfb
  have hf := refStatic_any x fb hfb
  rw [hk] at hf
  have HF := Lib.hid (show ∀ o a b : Int, o = x.op → a = x.a → b = x.b → ∀ W : World, Calls Tryz.prog 72 #[.agg #[.int .i64 4, .int .i64 x.ev, .int .i64 x.wh, .int .i64 x.c0, .int .i64 x.c1, .int .i64 x.c2, .int .i64 x.c3, .bool x.tap, .slice x.ta x.tn x.tc, .slice x.ca x.cn x.cc, .int .i64 o, .int .i64 a, .int .i64 b]] W fun e w' => e = .returned (.bool fb) ∧ Below W.heap.size W w' from fun o a b h1 h2 h3 W => by subst h1 h2 h3; exact hf W)
  clear hk hf hfb
  go_enter Tryz.func48, Tryz.ntmps48
  go_wp2_with fail
  generalize w.alloc (.cells #[.int .i64 4, .int .i64 x.ev, .int .i64 x.wh, .int .i64 x.c0, .int .i64 x.c1, .int .i64 x.c2, .int .i64 x.c3, .bool x.tap, .slice x.ta x.tn x.tc, .slice x.ca x.cn x.cc, .int .i64 x.op, .int .i64 x.a, .int .i64 x.b] 42) = W at *
  refine (HE.out _ HA.out.2.2).mono ?_
  rintro e w1 ⟨rfl, hb⟩
  have HB1 := Lib.hid hb
  clear hb
  obtain ⟨q0, q1, q2, q3, q4, q5, q6, q7, q8, q9, q10, q11, q12⟩ := (HX.out.next HB1.out).cells13
  go_wp2_with (first | (go_at_call 46; refine (refIn_any _ _ _ _).mono ?_; rintro e w' ⟨rfl, rfl⟩) | (go_at_call 72; refine Calls.mono (HF.out _ _ _ ?_ ?_ ?_ _) ?_; (first | rfl | omega); (first | rfl | omega); (first | rfl | omega); rintro e w2 ⟨rfl, hb⟩; have HB2 := Lib.hid (below_then' HB1.out hb HB1.out.size); clear hb))
  all_goals
    clear q0 q1 q2 q3 q4 q5 q6 q7 q8 q9 q10 q11 q12 hqz
    go_ret
    refine ⟨bool_ret ?_, ?_⟩
    · rw [← HR.out, refAbilB]
      simp [noneB, HFb.out, ← HS.out, HK.out, *]
    · first | exact HW.out.trans (HB2.out.mono HW.out.size) | exact HW.out.trans (HB1.out.mono HW.out.size)
set_option maxRecDepth 100000 in
set_option maxHeartbeats 4000000 in
theorem refAbil_5 (x : Ab) (hk : x.k = 5) (T : List Int) (L : List Ins) (cards : Int) (cb tb : Bool) (hc : (chk L x.tn cards == 0) = cb) (ht : (aimsB T && decide (x.tn ≤ 2)) = tb) (r : Bool) (hr : refAbilB false cb tb x = r) (w : World) (h : AbR w x T L) :
    Calls Tryz.prog 48 #[.agg #[.int .i64 5, .int .i64 x.ev, .int .i64 x.wh, .int .i64 x.c0, .int .i64 x.c1, .int .i64 x.c2, .int .i64 x.c3, .bool x.tap, .slice x.ta x.tn x.tc, .slice x.ca x.cn x.cc, .int .i64 x.op, .int .i64 x.a, .int .i64 x.b], .bool false, .int .i64 cards] w fun e w' => e = .returned (.bool r) ∧ Below w.heap.size w w' := by
  have hb := below_alloc1 w (.cells #[.int .i64 5, .int .i64 x.ev, .int .i64 x.wh, .int .i64 x.c0, .int .i64 x.c1, .int .i64 x.c2, .int .i64 x.c3, .bool x.tap, .slice x.ta x.tn x.tc, .slice x.ca x.cn x.cc, .int .i64 x.op, .int .i64 x.a, .int .i64 x.b] 42)
  obtain ⟨cq, hq⟩ : ∃ cq, chk L x.tn cards = cq := ⟨_, rfl⟩
  rw [hq] at hc
  have HQ := Lib.hid hq
  have HTb := Lib.hid ht
  have HR := Lib.hid hr
  have HA := Lib.hid (h.next hb)
  have HX := Lib.hid (litAt_new w (#[.int .i64 5, .int .i64 x.ev, .int .i64 x.wh, .int .i64 x.c0, .int .i64 x.c1, .int .i64 x.c2, .int .i64 x.c3, .bool x.tap, .slice x.ta x.tn x.tc, .slice x.ca x.cn x.cc, .int .i64 x.op, .int .i64 x.a, .int .i64 x.b] : Array Value).toList 42)
  have HW := Lib.hid hb
  have HE := Lib.hid (refCheck_any x.ca x.cc L x.tn cards)
  rw [HA.out.2.1, HQ.out] at HE
  have hqz := fun W => equal_mana x.c0 x.c1 x.c2 x.c3 0 0 0 0 W
  obtain ⟨s, hs⟩ : ∃ s, s = zeroB x := ⟨_, rfl⟩
  change ∀ W, _ = Result.ok (zeroB x) W at hqz
  rw [← hs] at hqz
  have HS := Lib.hid hs
  clear hq ht hr h hb hs
  have HK := Lib.hid hk
  obtain ⟨fb, hfb⟩ : ∃ fb, refReplB x = fb := ⟨_, rfl⟩
  have HFb := Lib.hid hfb
  have hf := refRepl_any x fb hfb
  rw [hk] at hf
  have HF := Lib.hid (show ∀ o a b : Int, o = x.op → a = x.a → b = x.b → ∀ W : World, Calls Tryz.prog 73 #[.agg #[.int .i64 5, .int .i64 x.ev, .int .i64 x.wh, .int .i64 x.c0, .int .i64 x.c1, .int .i64 x.c2, .int .i64 x.c3, .bool x.tap, .slice x.ta x.tn x.tc, .slice x.ca x.cn x.cc, .int .i64 o, .int .i64 a, .int .i64 b]] W fun e w' => e = .returned (.bool fb) ∧ Below W.heap.size W w' from fun o a b h1 h2 h3 W => by subst h1 h2 h3; exact hf W)
  clear hk hf hfb
  go_enter Tryz.func48, Tryz.ntmps48
  go_wp2_with fail
  generalize w.alloc (.cells #[.int .i64 5, .int .i64 x.ev, .int .i64 x.wh, .int .i64 x.c0, .int .i64 x.c1, .int .i64 x.c2, .int .i64 x.c3, .bool x.tap, .slice x.ta x.tn x.tc, .slice x.ca x.cn x.cc, .int .i64 x.op, .int .i64 x.a, .int .i64 x.b] 42) = W at *
  refine (HE.out _ HA.out.2.2).mono ?_
  rintro e w1 ⟨rfl, hb⟩
  have HB1 := Lib.hid hb
  clear hb
  obtain ⟨q0, q1, q2, q3, q4, q5, q6, q7, q8, q9, q10, q11, q12⟩ := (HX.out.next HB1.out).cells13
  go_wp2_with (first | (go_at_call 46; refine (refIn_any _ _ _ _).mono ?_; rintro e w' ⟨rfl, rfl⟩) | (go_at_call 73; refine Calls.mono (HF.out _ _ _ ?_ ?_ ?_ _) ?_; (first | rfl | omega); (first | rfl | omega); (first | rfl | omega); rintro e w2 ⟨rfl, hb⟩; have HB2 := Lib.hid (below_then' HB1.out hb HB1.out.size); clear hb))
  all_goals
    clear q0 q1 q2 q3 q4 q5 q6 q7 q8 q9 q10 q11 q12 hqz
    go_ret
    refine ⟨bool_ret ?_, ?_⟩
    · rw [← HR.out, refAbilB]
      simp [noneB, HFb.out, ← HS.out, HK.out, *]
    · first | exact HW.out.trans (HB2.out.mono HW.out.size) | exact HW.out.trans (HB1.out.mono HW.out.size)
set_option maxRecDepth 100000 in
set_option maxHeartbeats 4000000 in
theorem refAbil_0 (x : Ab) (h1 : ¬ x.k = 1) (h2 : ¬ x.k = 2) (h3 : ¬ x.k = 3) (h4 : ¬ x.k = 4) (h5 : ¬ x.k = 5) (T : List Int) (L : List Ins) (cards : Int) (cb tb : Bool) (hc : (chk L x.tn cards == 0) = cb) (ht : (aimsB T && decide (x.tn ≤ 2)) = tb) (r : Bool) (hr : refAbilB false cb tb x = r) (w : World) (h : AbR w x T L) :
    Calls Tryz.prog 48 #[.agg #[.int .i64 x.k, .int .i64 x.ev, .int .i64 x.wh, .int .i64 x.c0, .int .i64 x.c1, .int .i64 x.c2, .int .i64 x.c3, .bool x.tap, .slice x.ta x.tn x.tc, .slice x.ca x.cn x.cc, .int .i64 x.op, .int .i64 x.a, .int .i64 x.b], .bool false, .int .i64 cards] w fun e w' => e = .returned (.bool r) ∧ Below w.heap.size w w' := by
  have hb := below_alloc1 w (.cells #[.int .i64 x.k, .int .i64 x.ev, .int .i64 x.wh, .int .i64 x.c0, .int .i64 x.c1, .int .i64 x.c2, .int .i64 x.c3, .bool x.tap, .slice x.ta x.tn x.tc, .slice x.ca x.cn x.cc, .int .i64 x.op, .int .i64 x.a, .int .i64 x.b] 42)
  obtain ⟨cq, hq⟩ : ∃ cq, chk L x.tn cards = cq := ⟨_, rfl⟩
  rw [hq] at hc
  have HQ := Lib.hid hq
  have HTb := Lib.hid ht
  have HR := Lib.hid hr
  have HA := Lib.hid (h.next hb)
  have HX := Lib.hid (litAt_new w (#[.int .i64 x.k, .int .i64 x.ev, .int .i64 x.wh, .int .i64 x.c0, .int .i64 x.c1, .int .i64 x.c2, .int .i64 x.c3, .bool x.tap, .slice x.ta x.tn x.tc, .slice x.ca x.cn x.cc, .int .i64 x.op, .int .i64 x.a, .int .i64 x.b] : Array Value).toList 42)
  have HW := Lib.hid hb
  have HE := Lib.hid (refCheck_any x.ca x.cc L x.tn cards)
  rw [HA.out.2.1, HQ.out] at HE
  have hqz := fun W => equal_mana x.c0 x.c1 x.c2 x.c3 0 0 0 0 W
  obtain ⟨s, hs⟩ : ∃ s, s = zeroB x := ⟨_, rfl⟩
  change ∀ W, _ = Result.ok (zeroB x) W at hqz
  rw [← hs] at hqz
  have HS := Lib.hid hs
  clear hq ht hr h hb hs
  go_enter Tryz.func48, Tryz.ntmps48
  go_wp2_with fail
  generalize w.alloc (.cells #[.int .i64 x.k, .int .i64 x.ev, .int .i64 x.wh, .int .i64 x.c0, .int .i64 x.c1, .int .i64 x.c2, .int .i64 x.c3, .bool x.tap, .slice x.ta x.tn x.tc, .slice x.ca x.cn x.cc, .int .i64 x.op, .int .i64 x.a, .int .i64 x.b] 42) = W at *
  refine (HE.out _ HA.out.2.2).mono ?_
  rintro e w1 ⟨rfl, hb⟩
  have HB1 := Lib.hid hb
  clear hb
  obtain ⟨q0, q1, q2, q3, q4, q5, q6, q7, q8, q9, q10, q11, q12⟩ := (HX.out.next HB1.out).cells13
  go_wp2_with (first | (go_at_call 46; refine (refIn_any _ _ _ _).mono ?_; rintro e w' ⟨rfl, rfl⟩))
  all_goals
    clear q0 q1 q2 q3 q4 q5 q6 q7 q8 q9 q10 q11 q12 hqz
    go_ret
    refine ⟨bool_ret ?_, ?_⟩
    · rw [← HR.out, refAbilB]
      simp [noneB, ← HS.out, *]
    · first | exact HW.out.trans (HB2.out.mono HW.out.size) | exact HW.out.trans (HB1.out.mono HW.out.size)
set_option maxRecDepth 100000 in
set_option maxHeartbeats 4000000 in
theorem refAbil_not (x : Ab) (sp : Bool) (hm : (sp != (x.k == 1)) = true) (cards : Int) (w : World) :
    Calls Tryz.prog 48 #[.agg #[.int .i64 x.k, .int .i64 x.ev, .int .i64 x.wh, .int .i64 x.c0, .int .i64 x.c1, .int .i64 x.c2, .int .i64 x.c3, .bool x.tap, .slice x.ta x.tn x.tc, .slice x.ca x.cn x.cc, .int .i64 x.op, .int .i64 x.a, .int .i64 x.b], .bool sp, .int .i64 cards] w fun e w' => e = .returned (.bool false) ∧ Below w.heap.size w w' := by
  cases sp
  all_goals
    cases h1 : (x.k == 1)
    all_goals
      first
        | (exfalso; rw [h1] at hm; cases hm; done)
        | (clear hm
           go_enter Tryz.func48, Tryz.ntmps48
           go_wp2_with fail
           go_ret
           exact ⟨rfl, below_alloc1 _ _⟩)
theorem refAbil_any (x : Ab) (T : List Int) (L : List Ins) (sp : Bool) (cards : Int) (r : Bool) (hr : refAbilB sp (chk L x.tn cards == 0) (aimsB T && decide (x.tn ≤ 2)) x = r) (w : World) (h : AbR w x T L) :
    Calls Tryz.prog 48 #[.agg #[.int .i64 x.k, .int .i64 x.ev, .int .i64 x.wh, .int .i64 x.c0, .int .i64 x.c1, .int .i64 x.c2, .int .i64 x.c3, .bool x.tap, .slice x.ta x.tn x.tc, .slice x.ca x.cn x.cc, .int .i64 x.op, .int .i64 x.a, .int .i64 x.b], .bool sp, .int .i64 cards] w fun e w' => e = .returned (.bool r) ∧ Below w.heap.size w w' := by
  cases hm : (sp != (x.k == 1))
  · by_cases h1 : x.k = 1
    · obtain rfl : sp = true := by rw [h1] at hm; revert hm; cases sp <;> decide
      rw [h1]
      exact refAbil_1 x h1 T L cards _ _ rfl rfl r hr w h
    · obtain rfl : sp = false := by
        rw [show (x.k == 1) = false from beq_eq_false_iff_ne.2 h1] at hm; revert hm; cases sp <;> decide
      by_cases h2 : x.k = 2
      · rw [h2]
        exact refAbil_2 x h2 T L cards _ _ rfl rfl r hr w h
      · by_cases h3 : x.k = 3
        · rw [h3]
          exact refAbil_3 x h3 T L cards _ _ rfl rfl r hr w h
        · by_cases h4 : x.k = 4
          · rw [h4]
            exact refAbil_4 x h4 T L cards _ _ rfl rfl r hr w h
          · by_cases h5 : x.k = 5
            · rw [h5]
              exact refAbil_5 x h5 T L cards _ _ rfl rfl r hr w h
            · exact refAbil_0 x h1 h2 h3 h4 h5 T L cards _ _ rfl rfl r hr w h
  · obtain rfl : r = false := by
      rw [← hr, refAbilB, show (sp == (x.k == 1)) = false by revert hm; cases sp <;> cases (x.k == 1) <;> decide]; rfl
    exact refAbil_not x sp hm cards w
end Go.Proofs.YtbeaaieaffdgeaaGreatDoor
end
/- The document's answer: body. (Written by gen5p.py.) -/
section
namespace Go.Proofs.YtbeaaieaffdgeaaGreatDoor
open Go.RowKit
set_option linter.unusedVariables false
set_option linter.unusedSimpArgs false

theorem refIn_at (n lo hi : Int) (r : Bool) (hr : btw lo hi n = r) (w : World) :
    Calls Tryz.prog 46 #[.int .i64 n, .int .i64 lo, .int .i64 hi] w fun e w' => e = .returned (.bool r) ∧ w = w' := by
  subst hr
  exact refIn_any n lo hi w
theorem LitAt.cells11 {w : World} {b : Nat} {v0 v1 v2 v3 v4 v5 v6 v7 v8 v9 v10 : Value} (h : LitAt w b [v0, v1, v2, v3, v4, v5, v6, v7, v8, v9, v10]) :
    w.cell? ⟨b, 0, none⟩ = some v0 ∧ w.cell? ⟨b, 1, none⟩ = some v1 ∧ w.cell? ⟨b, 2, none⟩ = some v2 ∧ w.cell? ⟨b, 3, none⟩ = some v3 ∧ w.cell? ⟨b, 4, none⟩ = some v4 ∧ w.cell? ⟨b, 5, none⟩ = some v5 ∧ w.cell? ⟨b, 6, none⟩ = some v6 ∧
    w.cell? ⟨b, 7, none⟩ = some v7 ∧ w.cell? ⟨b, 8, none⟩ = some v8 ∧ w.cell? ⟨b, 9, none⟩ = some v9 ∧ w.cell? ⟨b, 10, none⟩ = some v10 :=
  ⟨h.2 0 (by simp), h.2 1 (by simp), h.2 2 (by simp), h.2 3 (by simp), h.2 4 (by simp), h.2 5 (by simp), h.2 6 (by simp), h.2 7 (by simp), h.2 8 (by simp), h.2 9 (by simp), h.2 10 (by simp)⟩
def zeroC (y : Cd) : Bool := y.c0 == 0 && (y.c1 == 0 && (y.c2 == 0 && y.c3 == 0))
theorem b03 : btw 0 3 0 = true := rfl
theorem b015 : btw 0 15 0 = true := rfl
/-- What the document's body tells. -/
def refBodyB (y : Cd) : Bool :=
  if y.k = 1 then wi (costL 20 y.c0 y.c1 y.c2 y.c3) && (zeroC y && (btw 0 3 y.col && (btw 0 15 y.pow && (btw 0 15 y.tou && ((y.pow == 0 && y.tou == 0) && y.keys == 0)))))
  else if y.k = 2 then wi (costL 20 y.c0 y.c1 y.c2 y.c3) && (btw 0 3 y.col && (y.col == 0 && (btw 0 15 y.pow && (btw 0 15 y.tou && btw 0 127 y.keys))))
  else if y.k = 3 ∨ y.k = 4 then wi (costL 20 y.c0 y.c1 y.c2 y.c3) && (btw 0 3 y.col && (y.col == 0 && (btw 0 15 y.pow && (btw 0 15 y.tou && ((y.pow == 0 && y.tou == 0) && (y.keys == 0 || y.keys == 64))))))
  else false
set_option maxRecDepth 100000 in
set_option maxHeartbeats 4000000 in
theorem refBody_1 (y : Cd) (hk : y.k = 1) (r : Bool) (hr : refBodyB y = r) (w : World) :
    Calls Tryz.prog 47 #[.agg #[.string y.nm, .int .i64 1, .int .i64 y.c0, .int .i64 y.c1, .int .i64 y.c2, .int .i64 y.c3, .int .i64 y.col, .int .i64 y.pow, .int .i64 y.tou, .int .i64 y.keys, .slice y.aa y.an y.ac]] w fun e w' => e = .returned (.bool r) ∧ Below w.heap.size w w' := by
  have HR := Lib.hid hr
  have HK := Lib.hid hk
  have HW := Lib.hid (below_alloc1 w (.cells #[.string y.nm, .int .i64 1, .int .i64 y.c0, .int .i64 y.c1, .int .i64 y.c2, .int .i64 y.c3, .int .i64 y.col, .int .i64 y.pow, .int .i64 y.tou, .int .i64 y.keys, .slice y.aa y.an y.ac] 38))
  have HX := Lib.hid (litAt_new w (#[.string y.nm, .int .i64 1, .int .i64 y.c0, .int .i64 y.c1, .int .i64 y.c2, .int .i64 y.c3, .int .i64 y.col, .int .i64 y.pow, .int .i64 y.tou, .int .i64 y.keys, .slice y.aa y.an y.ac] : Array Value).toList 38)
  have hqz := fun W => equal_mana y.c0 y.c1 y.c2 y.c3 0 0 0 0 W
  obtain ⟨s, hs⟩ : ∃ s, s = zeroC y := ⟨_, rfl⟩
  change ∀ W, _ = Result.ok (zeroC y) W at hqz
  rw [← hs] at hqz
  have HS := Lib.hid hs
  clear hr hk hs
  cases hco : wi (costL 20 y.c0 y.c1 y.c2 y.c3)
  all_goals
    have HCo := Lib.hid hco
    clear hco
    go_enter Tryz.func47, Tryz.ntmps47
    go_wp2_with fail
    generalize w.alloc (.cells #[.string y.nm, .int .i64 1, .int .i64 y.c0, .int .i64 y.c1, .int .i64 y.c2, .int .i64 y.c3, .int .i64 y.col, .int .i64 y.pow, .int .i64 y.tou, .int .i64 y.keys, .slice y.aa y.an y.ac] 38) = W at *
    obtain ⟨q0, q1, q2, q3, q4, q5, q6, q7, q8, q9, q10⟩ := HX.out.cells11
    go_quiet (fail)
    go_wp2_with fail
    refine (refIn_at _ _ _ true (by decide) _).mono ?_
    rintro e w1 ⟨rfl, rfl⟩
    go_wp2_with fail
    refine (refCost_any _ _ _ _ _ HCo.out _).mono ?_
    rintro e w1 ⟨rfl, hb⟩
    have HB1 := Lib.hid (below_then' (below_drew W _) hb (Nat.le_refl _))
    clear hb q0 q1 q2 q3 q4 q5 q6 q7 q8 q9 q10
    obtain ⟨q0, q1, q2, q3, q4, q5, q6, q7, q8, q9, q10⟩ := (HX.out.next HB1.out).cells11
    go_wp2_with (go_at_call 46; refine (refIn_any _ _ _ _).mono ?_; rintro e w' ⟨rfl, rfl⟩)
    all_goals
      clear q0 q1 q2 q3 q4 q5 q6 q7 q8 q9 q10 hqz
      go_ret
      refine ⟨bool_ret ?_, HW.out.trans (HB1.out.mono HW.out.size)⟩
      rw [← HR.out, refBodyB, HK.out, HCo.out]
      try simp only [Bool.not_eq_true', Bool.not_eq_false', Bool.not_eq_true, beq_iff_eq, beq_eq_false_iff_ne, bne_iff_ne, bne_eq_false_iff_eq, ne_eq] at *
      simp [← HS.out, b03, b015, *]
set_option maxRecDepth 100000 in
set_option maxHeartbeats 4000000 in
theorem refBody_2 (y : Cd) (hk : y.k = 2) (r : Bool) (hr : refBodyB y = r) (w : World) :
    Calls Tryz.prog 47 #[.agg #[.string y.nm, .int .i64 2, .int .i64 y.c0, .int .i64 y.c1, .int .i64 y.c2, .int .i64 y.c3, .int .i64 y.col, .int .i64 y.pow, .int .i64 y.tou, .int .i64 y.keys, .slice y.aa y.an y.ac]] w fun e w' => e = .returned (.bool r) ∧ Below w.heap.size w w' := by
  have HR := Lib.hid hr
  have HK := Lib.hid hk
  have HW := Lib.hid (below_alloc1 w (.cells #[.string y.nm, .int .i64 2, .int .i64 y.c0, .int .i64 y.c1, .int .i64 y.c2, .int .i64 y.c3, .int .i64 y.col, .int .i64 y.pow, .int .i64 y.tou, .int .i64 y.keys, .slice y.aa y.an y.ac] 38))
  have HX := Lib.hid (litAt_new w (#[.string y.nm, .int .i64 2, .int .i64 y.c0, .int .i64 y.c1, .int .i64 y.c2, .int .i64 y.c3, .int .i64 y.col, .int .i64 y.pow, .int .i64 y.tou, .int .i64 y.keys, .slice y.aa y.an y.ac] : Array Value).toList 38)
  have hqz := fun W => equal_mana y.c0 y.c1 y.c2 y.c3 0 0 0 0 W
  obtain ⟨s, hs⟩ : ∃ s, s = zeroC y := ⟨_, rfl⟩
  change ∀ W, _ = Result.ok (zeroC y) W at hqz
  rw [← hs] at hqz
  have HS := Lib.hid hs
  clear hr hk hs
  cases hco : wi (costL 20 y.c0 y.c1 y.c2 y.c3)
  all_goals
    have HCo := Lib.hid hco
    clear hco
    go_enter Tryz.func47, Tryz.ntmps47
    go_wp2_with fail
    generalize w.alloc (.cells #[.string y.nm, .int .i64 2, .int .i64 y.c0, .int .i64 y.c1, .int .i64 y.c2, .int .i64 y.c3, .int .i64 y.col, .int .i64 y.pow, .int .i64 y.tou, .int .i64 y.keys, .slice y.aa y.an y.ac] 38) = W at *
    obtain ⟨q0, q1, q2, q3, q4, q5, q6, q7, q8, q9, q10⟩ := HX.out.cells11
    go_quiet (fail)
    go_wp2_with fail
    refine (refIn_at _ _ _ true (by decide) _).mono ?_
    rintro e w1 ⟨rfl, rfl⟩
    go_wp2_with fail
    refine (refCost_any _ _ _ _ _ HCo.out _).mono ?_
    rintro e w1 ⟨rfl, hb⟩
    have HB1 := Lib.hid (below_then' (below_drew W _) hb (Nat.le_refl _))
    clear hb q0 q1 q2 q3 q4 q5 q6 q7 q8 q9 q10
    obtain ⟨q0, q1, q2, q3, q4, q5, q6, q7, q8, q9, q10⟩ := (HX.out.next HB1.out).cells11
    go_wp2_with (go_at_call 46; refine (refIn_any _ _ _ _).mono ?_; rintro e w' ⟨rfl, rfl⟩)
    all_goals
      clear q0 q1 q2 q3 q4 q5 q6 q7 q8 q9 q10 hqz
      go_ret
      refine ⟨bool_ret ?_, HW.out.trans (HB1.out.mono HW.out.size)⟩
      rw [← HR.out, refBodyB, HK.out, HCo.out]
      try simp only [Bool.not_eq_true', Bool.not_eq_false', Bool.not_eq_true, beq_iff_eq, beq_eq_false_iff_ne, bne_iff_ne, bne_eq_false_iff_eq, ne_eq] at *
      simp [← HS.out, b03, b015, *]
set_option maxRecDepth 100000 in
set_option maxHeartbeats 4000000 in
theorem refBody_3 (y : Cd) (hk : y.k = 3) (r : Bool) (hr : refBodyB y = r) (w : World) :
    Calls Tryz.prog 47 #[.agg #[.string y.nm, .int .i64 3, .int .i64 y.c0, .int .i64 y.c1, .int .i64 y.c2, .int .i64 y.c3, .int .i64 y.col, .int .i64 y.pow, .int .i64 y.tou, .int .i64 y.keys, .slice y.aa y.an y.ac]] w fun e w' => e = .returned (.bool r) ∧ Below w.heap.size w w' := by
  have HR := Lib.hid hr
  have HK := Lib.hid hk
  have HW := Lib.hid (below_alloc1 w (.cells #[.string y.nm, .int .i64 3, .int .i64 y.c0, .int .i64 y.c1, .int .i64 y.c2, .int .i64 y.c3, .int .i64 y.col, .int .i64 y.pow, .int .i64 y.tou, .int .i64 y.keys, .slice y.aa y.an y.ac] 38))
  have HX := Lib.hid (litAt_new w (#[.string y.nm, .int .i64 3, .int .i64 y.c0, .int .i64 y.c1, .int .i64 y.c2, .int .i64 y.c3, .int .i64 y.col, .int .i64 y.pow, .int .i64 y.tou, .int .i64 y.keys, .slice y.aa y.an y.ac] : Array Value).toList 38)
  have hqz := fun W => equal_mana y.c0 y.c1 y.c2 y.c3 0 0 0 0 W
  obtain ⟨s, hs⟩ : ∃ s, s = zeroC y := ⟨_, rfl⟩
  change ∀ W, _ = Result.ok (zeroC y) W at hqz
  rw [← hs] at hqz
  have HS := Lib.hid hs
  clear hr hk hs
  cases hco : wi (costL 20 y.c0 y.c1 y.c2 y.c3)
  all_goals
    have HCo := Lib.hid hco
    clear hco
    go_enter Tryz.func47, Tryz.ntmps47
    go_wp2_with fail
    generalize w.alloc (.cells #[.string y.nm, .int .i64 3, .int .i64 y.c0, .int .i64 y.c1, .int .i64 y.c2, .int .i64 y.c3, .int .i64 y.col, .int .i64 y.pow, .int .i64 y.tou, .int .i64 y.keys, .slice y.aa y.an y.ac] 38) = W at *
    obtain ⟨q0, q1, q2, q3, q4, q5, q6, q7, q8, q9, q10⟩ := HX.out.cells11
    go_quiet (fail)
    go_wp2_with fail
    refine (refIn_at _ _ _ true (by decide) _).mono ?_
    rintro e w1 ⟨rfl, rfl⟩
    go_wp2_with fail
    refine (refCost_any _ _ _ _ _ HCo.out _).mono ?_
    rintro e w1 ⟨rfl, hb⟩
    have HB1 := Lib.hid (below_then' (below_drew W _) hb (Nat.le_refl _))
    clear hb q0 q1 q2 q3 q4 q5 q6 q7 q8 q9 q10
    obtain ⟨q0, q1, q2, q3, q4, q5, q6, q7, q8, q9, q10⟩ := (HX.out.next HB1.out).cells11
    go_wp2_with (go_at_call 46; refine (refIn_any _ _ _ _).mono ?_; rintro e w' ⟨rfl, rfl⟩)
    all_goals
      clear q0 q1 q2 q3 q4 q5 q6 q7 q8 q9 q10 hqz
      go_ret
      refine ⟨bool_ret ?_, HW.out.trans (HB1.out.mono HW.out.size)⟩
      rw [← HR.out, refBodyB, HK.out, HCo.out]
      try simp only [Bool.not_eq_true', Bool.not_eq_false', Bool.not_eq_true, beq_iff_eq, beq_eq_false_iff_ne, bne_iff_ne, bne_eq_false_iff_eq, ne_eq] at *
      simp [← HS.out, b03, b015, *]
set_option maxRecDepth 100000 in
set_option maxHeartbeats 4000000 in
theorem refBody_4 (y : Cd) (hk : y.k = 4) (r : Bool) (hr : refBodyB y = r) (w : World) :
    Calls Tryz.prog 47 #[.agg #[.string y.nm, .int .i64 4, .int .i64 y.c0, .int .i64 y.c1, .int .i64 y.c2, .int .i64 y.c3, .int .i64 y.col, .int .i64 y.pow, .int .i64 y.tou, .int .i64 y.keys, .slice y.aa y.an y.ac]] w fun e w' => e = .returned (.bool r) ∧ Below w.heap.size w w' := by
  have HR := Lib.hid hr
  have HK := Lib.hid hk
  have HW := Lib.hid (below_alloc1 w (.cells #[.string y.nm, .int .i64 4, .int .i64 y.c0, .int .i64 y.c1, .int .i64 y.c2, .int .i64 y.c3, .int .i64 y.col, .int .i64 y.pow, .int .i64 y.tou, .int .i64 y.keys, .slice y.aa y.an y.ac] 38))
  have HX := Lib.hid (litAt_new w (#[.string y.nm, .int .i64 4, .int .i64 y.c0, .int .i64 y.c1, .int .i64 y.c2, .int .i64 y.c3, .int .i64 y.col, .int .i64 y.pow, .int .i64 y.tou, .int .i64 y.keys, .slice y.aa y.an y.ac] : Array Value).toList 38)
  have hqz := fun W => equal_mana y.c0 y.c1 y.c2 y.c3 0 0 0 0 W
  obtain ⟨s, hs⟩ : ∃ s, s = zeroC y := ⟨_, rfl⟩
  change ∀ W, _ = Result.ok (zeroC y) W at hqz
  rw [← hs] at hqz
  have HS := Lib.hid hs
  clear hr hk hs
  cases hco : wi (costL 20 y.c0 y.c1 y.c2 y.c3)
  all_goals
    have HCo := Lib.hid hco
    clear hco
    go_enter Tryz.func47, Tryz.ntmps47
    go_wp2_with fail
    generalize w.alloc (.cells #[.string y.nm, .int .i64 4, .int .i64 y.c0, .int .i64 y.c1, .int .i64 y.c2, .int .i64 y.c3, .int .i64 y.col, .int .i64 y.pow, .int .i64 y.tou, .int .i64 y.keys, .slice y.aa y.an y.ac] 38) = W at *
    obtain ⟨q0, q1, q2, q3, q4, q5, q6, q7, q8, q9, q10⟩ := HX.out.cells11
    go_quiet (fail)
    go_wp2_with fail
    refine (refIn_at _ _ _ true (by decide) _).mono ?_
    rintro e w1 ⟨rfl, rfl⟩
    go_wp2_with fail
    refine (refCost_any _ _ _ _ _ HCo.out _).mono ?_
    rintro e w1 ⟨rfl, hb⟩
    have HB1 := Lib.hid (below_then' (below_drew W _) hb (Nat.le_refl _))
    clear hb q0 q1 q2 q3 q4 q5 q6 q7 q8 q9 q10
    obtain ⟨q0, q1, q2, q3, q4, q5, q6, q7, q8, q9, q10⟩ := (HX.out.next HB1.out).cells11
    go_wp2_with (go_at_call 46; refine (refIn_any _ _ _ _).mono ?_; rintro e w' ⟨rfl, rfl⟩)
    all_goals
      clear q0 q1 q2 q3 q4 q5 q6 q7 q8 q9 q10 hqz
      go_ret
      refine ⟨bool_ret ?_, HW.out.trans (HB1.out.mono HW.out.size)⟩
      rw [← HR.out, refBodyB, HK.out, HCo.out]
      try simp only [Bool.not_eq_true', Bool.not_eq_false', Bool.not_eq_true, beq_iff_eq, beq_eq_false_iff_ne, bne_iff_ne, bne_eq_false_iff_eq, ne_eq] at *
      simp [← HS.out, b03, b015, *]
set_option maxRecDepth 100000 in
set_option maxHeartbeats 4000000 in
theorem refBody_0 (y : Cd) (hk : btw 1 4 y.k = false) (w : World) :
    Calls Tryz.prog 47 #[.agg #[.string y.nm, .int .i64 y.k, .int .i64 y.c0, .int .i64 y.c1, .int .i64 y.c2, .int .i64 y.c3, .int .i64 y.col, .int .i64 y.pow, .int .i64 y.tou, .int .i64 y.keys, .slice y.aa y.an y.ac]] w fun e w' => e = .returned (.bool false) ∧ Below w.heap.size w w' := by
  have HK := Lib.hid hk
  have HW := Lib.hid (below_alloc1 w (.cells #[.string y.nm, .int .i64 y.k, .int .i64 y.c0, .int .i64 y.c1, .int .i64 y.c2, .int .i64 y.c3, .int .i64 y.col, .int .i64 y.pow, .int .i64 y.tou, .int .i64 y.keys, .slice y.aa y.an y.ac] 38))
  have HX := Lib.hid (boxC_new w y 38)
  clear hk
  go_enter Tryz.func47, Tryz.ntmps47
  go_wp2_with fail
  generalize w.alloc (.cells #[.string y.nm, .int .i64 y.k, .int .i64 y.c0, .int .i64 y.c1, .int .i64 y.c2, .int .i64 y.c3, .int .i64 y.col, .int .i64 y.pow, .int .i64 y.tou, .int .i64 y.keys, .slice y.aa y.an y.ac] 38) = W at *
  obtain ⟨q0, q1, q2, q3, q4, q5, q6, q7, q8, q9, q10⟩ := HX.out.cells
  go_quiet (fail)
  go_wp2_with fail
  refine (refIn_at _ _ _ false HK.out _).mono ?_
  rintro e w1 ⟨rfl, rfl⟩
  go_wp2_with fail
  go_ret
  exact ⟨rfl, below_draws HW.out _⟩
theorem refBody_any (y : Cd) (r : Bool) (hr : refBodyB y = r) (w : World) :
    Calls Tryz.prog 47 #[.agg #[.string y.nm, .int .i64 y.k, .int .i64 y.c0, .int .i64 y.c1, .int .i64 y.c2, .int .i64 y.c3, .int .i64 y.col, .int .i64 y.pow, .int .i64 y.tou, .int .i64 y.keys, .slice y.aa y.an y.ac]] w fun e w' => e = .returned (.bool r) ∧ Below w.heap.size w w' := by
  by_cases h1 : y.k = 1
  · rw [h1]
    exact refBody_1 y h1 r hr w
  · by_cases h2 : y.k = 2
    · rw [h2]
      exact refBody_2 y h2 r hr w
    · by_cases h3 : y.k = 3
      · rw [h3]
        exact refBody_3 y h3 r hr w
      · by_cases h4 : y.k = 4
        · rw [h4]
          exact refBody_4 y h4 r hr w
        · obtain rfl : r = false := by rw [← hr]; simp [refBodyB, h1, h2, h3, h4]
          exact refBody_0 y (by simp [btw]; omega) w
end Go.Proofs.YtbeaaieaffdgeaaGreatDoor
end
/- The document's answer: Check. -/
section
namespace Go.Proofs.YtbeaaieaffdgeaaGreatDoor
open Go.RowKit
set_option linter.unusedVariables false
set_option linter.unusedSimpArgs false

def refFitB (s : Bool) (cards : Int) (t : AbT) : Bool := refAbilB s (chk t.2.2 t.1.tn cards == 0) (aimsB t.2.1 && decide (t.1.tn ≤ 2)) t.1
def refBaseB (y : Cd) : Bool := !y.nm.toList.isEmpty && (refBodyB y && (!(y.k == 3) || ((y.an : Int) == 1)))
/-- What the document's Check tells. -/
def refChkC (y : Cd) (A : List AbT) (cards : Int) : Int := if btw 0 40 cards then (if longB y A then 3 else if refBaseB y && A.all (refFitB (y.k == 3) cards) then 0 else 10) else 2
/-- How far the document's Check has looked: k abilities; is something too long? -/
def LongAt (y : Cd) (A : List AbT) (v q : Value) : Prop := ∃ (k : Nat) (l : Bool), v = .bool l ∧ q = .int .i64 (k : Int) ∧ k ≤ y.an ∧ l = ((decide (16 < y.nm.size) || decide (4 < y.an)) || (A.take k).any longA)
/-- Likewise: may all that was looked at be? -/
def FitAt (w W : World) (y : Cd) (A : List AbT) (cards : Int) (v q : Value) : Prop :=
  ∃ (k : Nat) (l : Bool), v = .bool l ∧ q = .int .i64 (k : Int) ∧ k ≤ y.an ∧ l = (refBaseB y && (A.take k).all (refFitB (y.k == 3) cards)) ∧ Below w.heap.size w W
theorem bool_int {a : Bool} {P : Prop} [Decidable P] (h : a = decide P) : Value.bool (decide P) = Value.bool a := by rw [h]
theorem longA_int (x : Ab) (T : List Int) (L : List Ins) : longA (x, T, L) = (decide ((2 : Int) < (x.tn : Int)) || decide ((32 : Int) < (x.cn : Int))) := by
  simp only [longA]
  rw [show decide (2 < x.tn) = decide ((2 : Int) < (x.tn : Int)) by simp only [decide_eq_decide]; omega, show decide (32 < x.cn) = decide ((32 : Int) < (x.cn : Int)) by simp only [decide_eq_decide]; omega]
theorem any_snoc {α : Type} (f : α → Bool) (A : List α) (k : Nat) (h : k < A.length) : (A.take (k + 1)).any f = ((A.take k).any f || f A[k]) := by
  rw [List.take_succ_eq_append_getElem h, List.any_append]; simp
theorem all_snoc {α : Type} (f : α → Bool) (A : List α) (k : Nat) (h : k < A.length) : (A.take (k + 1)).all f = ((A.take k).all f && f A[k]) := by
  rw [List.take_succ_eq_append_getElem h, List.all_append]; simp
set_option maxRecDepth 100000 in
set_option maxHeartbeats 8000000 in
theorem refCardCheck_any (y : Cd) (A : List AbT) (cards r : Int) (hr : refChkC y A cards = r) (w : World) (h : CdR w y A) (hy : y.nm.size ≤ maxLen) :
    Calls Tryz.prog 22 #[.agg #[.string y.nm, .int .i64 y.k, .int .i64 y.c0, .int .i64 y.c1, .int .i64 y.c2, .int .i64 y.c3, .int .i64 y.col, .int .i64 y.pow, .int .i64 y.tou, .int .i64 y.keys, .slice y.aa y.an y.ac], .int .i64 cards] w fun e w' => e = .returned (.int .i64 r) ∧ Below w.heap.size w w' := by
  unfold maxLen at hy
  have HR := Lib.hid hr
  have hb := below_alloc1 w (.cells #[.string y.nm, .int .i64 y.k, .int .i64 y.c0, .int .i64 y.c1, .int .i64 y.c2, .int .i64 y.c3, .int .i64 y.col, .int .i64 y.pow, .int .i64 y.tou, .int .i64 y.keys, .slice y.aa y.an y.ac] 38)
  have HA := Lib.hid (h.next hb)
  have HX := Lib.hid (boxC_new w y 38)
  have hcap := h.2.1
  have hcm := h.2.2.1
  rw [h.1] at hcap
  have HN := Lib.hid h.1
  have HW := Lib.hid hb
  clear hr h hb
  cases t1 : btw 0 40 cards
  · have HV := Lib.hid (show r = 2 by rw [← HR.out]; simp [refChkC, t1])
    have Ht1 := Lib.hid t1
    clear t1
    go_enter Tryz.func22, Tryz.ntmps22
    go_wp2_with fail
    refine (refIn_at _ _ _ false Ht1.out _).mono ?_
    rintro e w1 ⟨rfl, rfl⟩
    go_wp2_with fail
    go_ret
    exact ⟨int_ret HV.out.symm, HW.out⟩
  · have HE := Lib.hid (show r = if longB y A then 3 else if refBaseB y && A.all (refFitB (y.k == 3) cards) then 0 else 10 by rw [← HR.out]; simp [refChkC, t1])
    have Ht1 := Lib.hid t1
    clear t1
    have hs16 : ∃ b, decide (16 < y.nm.size) = b := ⟨_, rfl⟩
    obtain ⟨b16, hs16⟩ := hs16
    have H16 := Lib.hid hs16
    have h16 : decide ((16 : Int) < (y.nm.size : Int)) = b16 := by rw [← hs16]; simp only [decide_eq_decide]; omega
    clear hs16
    obtain ⟨b4, hs4⟩ : ∃ b, decide (4 < y.an) = b := ⟨_, rfl⟩
    have H4 := Lib.hid hs4
    have h4 : decide ((4 : Int) < (y.an : Int)) = b4 := by rw [← hs4]; simp only [decide_eq_decide]; omega
    clear hs4
    cases b16 <;> cases b4
    all_goals
      go_enter Tryz.func22, Tryz.ntmps22
      go_wp2_with fail
      refine (refIn_at _ _ _ true Ht1.out _).mono ?_
      rintro e w1 ⟨rfl, rfl⟩
      go_wp2_with fail
      generalize w.alloc (.cells #[.string y.nm, .int .i64 y.k, .int .i64 y.c0, .int .i64 y.c1, .int .i64 y.c2, .int .i64 y.c3, .int .i64 y.col, .int .i64 y.pow, .int .i64 y.tou, .int .i64 y.keys, .slice y.aa y.an y.ac] 38) = W at *
      obtain ⟨q0, q1, q2, q3, q4, q5, q6, q7, q8, q9, q10⟩ := HX.out.cells
      clear h16 h4
      go_loop [5, 6] (fun v q => LongAt y A v q) (fun _ q => y.an - (intOf q).toNat)
      case atStart => exact ⟨0, _, rfl, rfl, Nat.zero_le _, by rw [H16.out, H4.out]; simp⟩
      case round =>
        obtain ⟨k, l, rfl, rfl, hk, hl⟩ := hrel
        have HL := Lib.hid hl
        clear hl
        by_cases hlt : k < y.an
        · obtain ⟨b, off, x, T, L, hx, hab, hta, hbl, m0, m1, m2, m3, m4, m5, m6, m7, m8, m9, m10, m11, m12⟩ := HA.out.2.at k (by rw [HN.out]; exact hlt)
          have HY := Lib.hid hx
          have HS := Lib.hid (any_snoc longA A k (by rw [HN.out]; exact hlt))
          clear hab hx m0 m1 m2 m3 m4 m5 m6 m7 m10 m11 m12
          rw [hta] at q10
          go_wp2_with fail
          all_goals
            go_round
            case rel => exact ⟨k + 1, _, rfl, by go_num, by omega, by rw [HS.out, ← Bool.or_assoc, ← HL.out, ← HY.out, longA_int]; simp [*]⟩
            case measure => simp [intOf]; omega
        · have HLo := Lib.hid (show longB y A = l by
            have : A.take k = A := List.take_of_length_le (by have := HN.out; omega)
            rw [HL.out, this, longB, Bool.or_comm])
          have HE2 := Lib.hid (show r = if l then 3 else if refBaseB y && A.all (refFitB (y.k == 3) cards) then 0 else 10 by rw [HE.out, HLo.out])
          cases l
          · first
              | (exfalso
                 have := HL.out
                 rw [H16.out, H4.out] at this
                 simp at this
                 done)
              | skip
            all_goals
              cases h2 : y.nm.toList.isEmpty
              · have H2 := Lib.hid h2
                obtain ⟨b3, h3⟩ : ∃ b3, refBodyB y = b3 := ⟨_, rfl⟩
                have H3 := Lib.hid h3
                clear h3
                go_wp2_with fail
                clear h2
                refine (refBody_any y b3 H3.out _).mono ?_
                rintro e w1 ⟨rfl, hb⟩
                have HB1 := Lib.hid hb
                clear hb q0 q1 q2 q3 q4 q5 q6 q7 q8 q9 q10
                obtain ⟨q0, q1, q2, q3, q4, q5, q6, q7, q8, q9, q10⟩ := (HX.out.next HB1.out).cells
                cases b3
                · go_wp2_with fail
                  have HBs := Lib.hid (show refBaseB y = false by simp [refBaseB, H3.out])
                  clear q0 q1 q2 q3 q4 q5 q6 q7 q8 q9 q10
                  go_loopw [8, 9] (fun v q wr => FitAt W wr y A cards v q) (fun _ q _ => y.an - (intOf q).toNat)
                  case atStart => exact ⟨0, _, rfl, rfl, Nat.zero_le _, by rw [HBs.out]; simp, HB1.out⟩
                  case round =>
                    obtain ⟨k2, l2, rfl, rfl, hk2, hl2, hbw⟩ := hrel
                    have HL2 := Lib.hid hl2
                    have HW2 := Lib.hid hbw
                    clear hl2 hbw
                    obtain ⟨q0, q1, q2, q3, q4, q5, q6, q7, q8, q9, q10⟩ := (HX.out.next HW2.out).cells
                    by_cases hlt2 : k2 < y.an
                    · obtain rfl : l2 = false := by rw [HL2.out, HBs.out]; rfl
                      go_wp2_with fail
                      go_roundw
                      case rel => exact ⟨k2 + 1, _, rfl, by go_num, by omega, by rw [HBs.out]; rfl, HW2.out⟩
                      case measure => simp [intOf]; omega
                    · obtain rfl : l2 = false := by rw [HL2.out, HBs.out]; rfl
                      have HV := Lib.hid (show r = 10 by rw [HE2.out, HBs.out]; rfl)
                      go_wp2_with fail
                      go_ret
                      exact ⟨int_ret HV.out.symm, HW.out.trans (HW2.out.mono HW.out.size)⟩
                · cases hsp : (y.k == 3)
                  · have HSp := Lib.hid hsp
                    go_wp2_with fail
                    clear hsp
                    have HBs := Lib.hid (show refBaseB y = true by simp [refBaseB, H2.out, H3.out, HSp.out])
                    clear q0 q1 q2 q3 q4 q5 q6 q7 q8 q9 q10
                    go_loopw [8, 9] (fun v q wr => FitAt W wr y A cards v q) (fun _ q _ => y.an - (intOf q).toNat)
                    case atStart => exact ⟨0, _, rfl, rfl, Nat.zero_le _, by rw [HBs.out]; simp, HB1.out⟩
                    case round =>
                      obtain ⟨k2, l2, rfl, rfl, hk2, hl2, hbw⟩ := hrel
                      have HL2 := Lib.hid hl2
                      have HW2 := Lib.hid hbw
                      clear hl2 hbw
                      obtain ⟨q0, q1, q2, q3, q4, q5, q6, q7, q8, q9, q10⟩ := (HX.out.next HW2.out).cells
                      by_cases hlt2 : k2 < y.an
                      · have HS2 := Lib.hid (all_snoc (refFitB (y.k == 3) cards) A k2 (by rw [HN.out]; exact hlt2))
                        cases l2
                        · go_wp2_with fail
                          go_roundw
                          case rel => exact ⟨k2 + 1, _, rfl, by go_num, by omega, by rw [HS2.out, ← Bool.and_assoc, ← HL2.out]; rfl, HW2.out⟩
                          case measure => simp [intOf]; omega
                        · obtain ⟨b, off, x, T, L, hx, hab, hta, hbl, m0, m1, m2, m3, m4, m5, m6, m7, m8, m9, m10, m11, m12⟩ := (HA.out.2.next HW2.out).at k2 (by rw [HN.out]; exact hlt2)
                          have HY := Lib.hid hx
                          have HAb := Lib.hid hab
                          clear hx hab
                          obtain ⟨fb, hfb⟩ : ∃ fb, refAbilB false (chk L x.tn cards == 0) (aimsB T && decide (x.tn ≤ 2)) x = fb := ⟨_, rfl⟩
                          have HF := Lib.hid hfb
                          clear hfb
                          rw [hta] at q10
                          clear hta hbl
                          go_wp2_with fail
                          clear m0 m1 m2 m3 m4 m5 m6 m7 m8 m9 m10 m11 m12
                          refine (refAbil_any x T L false cards fb HF.out _ HAb.out).mono ?_
                          rintro e w4 ⟨rfl, hb⟩
                          have HW3 := Lib.hid (below_then' HW2.out hb HW2.out.size)
                          clear hb
                          go_wp2_with fail
                          go_roundw
                          case rel => exact ⟨k2 + 1, _, rfl, by go_num, by omega, by rw [HS2.out, ← Bool.and_assoc, ← HL2.out, ← HY.out, HSp.out]; exact HF.out.symm, HW3.out⟩
                          case measure => simp [intOf]; omega
                      · have HAll := Lib.hid (show (refBaseB y && A.all (refFitB (y.k == 3) cards)) = l2 by
                          have : A.take k2 = A := List.take_of_length_le (by have := HN.out; omega)
                          rw [HL2.out, this])
                        cases l2
                        · have HV := Lib.hid (show r = 10 by rw [HE2.out, HAll.out]; rfl)
                          go_wp2_with fail
                          go_ret
                          exact ⟨int_ret HV.out.symm, HW.out.trans (HW2.out.mono HW.out.size)⟩
                        · have HV := Lib.hid (show r = 0 by rw [HE2.out, HAll.out]; rfl)
                          go_wp2_with fail
                          go_ret
                          exact ⟨int_ret HV.out.symm, HW.out.trans (HW2.out.mono HW.out.size)⟩
                  · have HSp := Lib.hid hsp
                    cases han : ((y.an : Int) == 1)
                    · have Han := Lib.hid han
                      go_wp2_with fail
                      clear hsp han
                      have HBs := Lib.hid (show refBaseB y = false by rw [refBaseB, H2.out, H3.out, HSp.out, Han.out]; rfl)
                      clear q0 q1 q2 q3 q4 q5 q6 q7 q8 q9 q10
                      go_loopw [8, 9] (fun v q wr => FitAt W wr y A cards v q) (fun _ q _ => y.an - (intOf q).toNat)
                      case atStart => exact ⟨0, _, rfl, rfl, Nat.zero_le _, by rw [HBs.out]; simp, HB1.out⟩
                      case round =>
                        obtain ⟨k2, l2, rfl, rfl, hk2, hl2, hbw⟩ := hrel
                        have HL2 := Lib.hid hl2
                        have HW2 := Lib.hid hbw
                        clear hl2 hbw
                        obtain ⟨q0, q1, q2, q3, q4, q5, q6, q7, q8, q9, q10⟩ := (HX.out.next HW2.out).cells
                        by_cases hlt2 : k2 < y.an
                        · obtain rfl : l2 = false := by rw [HL2.out, HBs.out]; rfl
                          go_wp2_with fail
                          go_roundw
                          case rel => exact ⟨k2 + 1, _, rfl, by go_num, by omega, by rw [HBs.out]; rfl, HW2.out⟩
                          case measure => simp [intOf]; omega
                        · obtain rfl : l2 = false := by rw [HL2.out, HBs.out]; rfl
                          have HV := Lib.hid (show r = 10 by rw [HE2.out, HBs.out]; rfl)
                          go_wp2_with fail
                          go_ret
                          exact ⟨int_ret HV.out.symm, HW.out.trans (HW2.out.mono HW.out.size)⟩
                    · have Han := Lib.hid han
                      go_wp2_with fail
                      clear hsp han
                      have HBs := Lib.hid (show refBaseB y = true by rw [refBaseB, H2.out, H3.out, HSp.out, Han.out]; rfl)
                      clear q0 q1 q2 q3 q4 q5 q6 q7 q8 q9 q10
                      go_loopw [8, 9] (fun v q wr => FitAt W wr y A cards v q) (fun _ q _ => y.an - (intOf q).toNat)
                      case atStart => exact ⟨0, _, rfl, rfl, Nat.zero_le _, by rw [HBs.out]; simp, HB1.out⟩
                      case round =>
                        obtain ⟨k2, l2, rfl, rfl, hk2, hl2, hbw⟩ := hrel
                        have HL2 := Lib.hid hl2
                        have HW2 := Lib.hid hbw
                        clear hl2 hbw
                        obtain ⟨q0, q1, q2, q3, q4, q5, q6, q7, q8, q9, q10⟩ := (HX.out.next HW2.out).cells
                        by_cases hlt2 : k2 < y.an
                        · have HS2 := Lib.hid (all_snoc (refFitB (y.k == 3) cards) A k2 (by rw [HN.out]; exact hlt2))
                          cases l2
                          · go_wp2_with fail
                            go_roundw
                            case rel => exact ⟨k2 + 1, _, rfl, by go_num, by omega, by rw [HS2.out, ← Bool.and_assoc, ← HL2.out]; rfl, HW2.out⟩
                            case measure => simp [intOf]; omega
                          · obtain ⟨b, off, x, T, L, hx, hab, hta, hbl, m0, m1, m2, m3, m4, m5, m6, m7, m8, m9, m10, m11, m12⟩ := (HA.out.2.next HW2.out).at k2 (by rw [HN.out]; exact hlt2)
                            have HY := Lib.hid hx
                            have HAb := Lib.hid hab
                            clear hx hab
                            obtain ⟨fb, hfb⟩ : ∃ fb, refAbilB true (chk L x.tn cards == 0) (aimsB T && decide (x.tn ≤ 2)) x = fb := ⟨_, rfl⟩
                            have HF := Lib.hid hfb
                            clear hfb
                            rw [hta] at q10
                            clear hta hbl
                            go_wp2_with fail
                            clear m0 m1 m2 m3 m4 m5 m6 m7 m8 m9 m10 m11 m12
                            refine (refAbil_any x T L true cards fb HF.out _ HAb.out).mono ?_
                            rintro e w4 ⟨rfl, hb⟩
                            have HW3 := Lib.hid (below_then' HW2.out hb HW2.out.size)
                            clear hb
                            go_wp2_with fail
                            go_roundw
                            case rel => exact ⟨k2 + 1, _, rfl, by go_num, by omega, by rw [HS2.out, ← Bool.and_assoc, ← HL2.out, ← HY.out, HSp.out]; exact HF.out.symm, HW3.out⟩
                            case measure => simp [intOf]; omega
                        · have HAll := Lib.hid (show (refBaseB y && A.all (refFitB (y.k == 3) cards)) = l2 by
                            have : A.take k2 = A := List.take_of_length_le (by have := HN.out; omega)
                            rw [HL2.out, this])
                          cases l2
                          · have HV := Lib.hid (show r = 10 by rw [HE2.out, HAll.out]; rfl)
                            go_wp2_with fail
                            go_ret
                            exact ⟨int_ret HV.out.symm, HW.out.trans (HW2.out.mono HW.out.size)⟩
                          · have HV := Lib.hid (show r = 0 by rw [HE2.out, HAll.out]; rfl)
                            go_wp2_with fail
                            go_ret
                            exact ⟨int_ret HV.out.symm, HW.out.trans (HW2.out.mono HW.out.size)⟩
              · have H2 := Lib.hid h2
                go_wp2_with fail
                clear h2
                have HBs := Lib.hid (show refBaseB y = false by simp [refBaseB, H2.out])
                clear q0 q1 q2 q3 q4 q5 q6 q7 q8 q9 q10
                go_loopw [8, 9] (fun v q wr => FitAt W wr y A cards v q) (fun _ q _ => y.an - (intOf q).toNat)
                case atStart => exact ⟨0, _, rfl, rfl, Nat.zero_le _, by rw [HBs.out]; simp, Below.refl _ _⟩
                case round =>
                  obtain ⟨k2, l2, rfl, rfl, hk2, hl2, hbw⟩ := hrel
                  have HL2 := Lib.hid hl2
                  have HW2 := Lib.hid hbw
                  clear hl2 hbw
                  obtain ⟨q0, q1, q2, q3, q4, q5, q6, q7, q8, q9, q10⟩ := (HX.out.next HW2.out).cells
                  by_cases hlt2 : k2 < y.an
                  · obtain rfl : l2 = false := by rw [HL2.out, HBs.out]; rfl
                    go_wp2_with fail
                    go_roundw
                    case rel => exact ⟨k2 + 1, _, rfl, by go_num, by omega, by rw [HBs.out]; rfl, HW2.out⟩
                    case measure => simp [intOf]; omega
                  · obtain rfl : l2 = false := by rw [HL2.out, HBs.out]; rfl
                    have HV := Lib.hid (show r = 10 by rw [HE2.out, HBs.out]; rfl)
                    go_wp2_with fail
                    go_ret
                    exact ⟨int_ret HV.out.symm, HW.out.trans (HW2.out.mono HW.out.size)⟩
          · have HV := Lib.hid (show r = 3 by rw [HE2.out]; rfl)
            go_wp2_with fail
            go_ret
            exact ⟨int_ret HV.out.symm, HW.out⟩
end Go.Proofs.YtbeaaieaffdgeaaGreatDoor
end
/- Both Checks tell the same. -/
section
namespace Go.Proofs.YtbeaaieaffdgeaaGreatDoor
open Go.RowKit
set_option linter.unusedVariables false
set_option linter.unusedSimpArgs false

theorem chk_two (L : List Ins) (t : Nat) (c : Int) (h : (chk L t c == 0) = true) : t ≤ 2 := by
  rw [beq_iff_eq, chk] at h
  by_cases hb : (btw 0 2 (t : Int) && btw 0 40 c) = true
  · simp [btw] at hb
    omega
  · rw [if_neg hb] at h
    omega
theorem spell_eq (x : Ab) (T : List Int) (L : List Ins) (cards : Int) :
    spellB x T L cards = ((chk L x.tn cards == 0) && (noneB x && ((aimsB T && decide (x.tn ≤ 2)) && (x.ev == 0 && (x.wh == 0 && (zeroB x && !x.tap)))))) := by
  cases hc : (chk L x.tn cards == 0)
  · simp [spellB, hc]
  · have := chk_two _ _ _ hc
    cases ha : aimsB T
    · simp [spellB, hc, ha]
    · rw [spellB, hc, ha, onlyB, costB, noneB, zeroB, Bool.eq_iff_iff]
      cases x.tap <;> simp [this] <;> omega
theorem act_eq (x : Ab) (T : List Int) (L : List Ins) (cards : Int) :
    actB x T L cards = ((chk L x.tn cards == 0) && (noneB x && ((aimsB T && decide (x.tn ≤ 2)) && (x.ev == 0 && (x.wh == 0 && wi (costL 20 x.c0 x.c1 x.c2 x.c3)))))) := by
  cases hc : (chk L x.tn cards == 0)
  · simp [actB, hc]
  · have := chk_two _ _ _ hc
    cases ha : aimsB T
    · simp [actB, hc, ha]
    · cases hw : wi (costL 20 x.c0 x.c1 x.c2 x.c3)
      · simp [actB, hc, ha, hw]
      · rw [actB, hc, ha, hw, onlyB, costB, noneB, Bool.eq_iff_iff]
        cases x.tap <;> simp [this] <;> omega
theorem trig_eq (x : Ab) (T : List Int) (L : List Ins) (cards : Int) :
    trigB x T L cards = ((chk L x.tn cards == 0) && (noneB x && (decide (x.tn = 0) && (btw 1 6 x.ev && (btw 0 2 x.wh && (zeroB x && !x.tap)))))) := by
  cases hc : (chk L x.tn cards == 0)
  · simp [trigB, hc]
  · rw [trigB, hc, wi_two, onlyB, costB, noneB, zeroB, Bool.eq_iff_iff]
    cases btw 1 6 x.ev <;> cases btw 0 2 x.wh <;> cases x.tap <;> simp <;> omega
theorem static_eq (x : Ab) : staticB x = refStaticB x := by
  rw [staticB, refStaticB, wi_two, wi_two, onlyB, costB, bareB, Bool.eq_iff_iff]
  by_cases h1 : x.op = 1
  · rw [h1]; cases x.tap <;> simp [layT, btw] <;> omega
  · by_cases h2 : x.op = 2
    · rw [h2]; cases x.tap <;> simp [layT, btw] <;> omega
    · by_cases h3 : x.op = 3
      · rw [h3]; cases x.tap <;> simp [layT, btw] <;> omega
      · by_cases h4 : x.op = 4
        · rw [h4]; cases x.tap <;> simp [layT, btw] <;> omega
        · simp [h1, h2, h3, h4, btw]
          omega
theorem repl_eq (x : Ab) : replB x = refReplB x := by
  rw [replB, refReplB, wi_one, wi_two, onlyB, costB, bareB, Bool.eq_iff_iff]
  by_cases h1 : x.ev = 1
  · rw [h1]; cases x.tap <;> simp [insT, btw] <;> omega
  · by_cases h2 : x.ev = 2
    · rw [h2]; cases x.tap <;> simp [insT, btw] <;> omega
    · by_cases h3 : x.ev = 3
      · rw [h3]; cases x.tap <;> simp [insT, btw] <;> omega
      · by_cases h4 : x.ev = 4
        · rw [h4]; cases x.tap <;> simp [insT, btw] <;> omega
        · simp [h1, h2, h3, h4, btw]
          omega
theorem fit_eq (s : Bool) (cards : Int) (t : AbT) : fitB s cards t = refFitB s cards t := by
  obtain ⟨x, T, L⟩ := t
  simp only [fitB, refFitB, refAbilB, abilB, spell_eq, act_eq, trig_eq, static_eq, repl_eq]
  rw [show ((x.k == 1) == s) = (s == (x.k == 1)) by cases (x.k == 1) <;> cases s <;> rfl]
theorem body_eq (y : Cd) : refBodyB y = (btw 1 4 y.k && (wi (costL (if y.k = 1 then 0 else 20) y.c0 y.c1 y.c2 y.c3) && (keysB y.k y.keys &&
    wi [⟨y.col, 0, if y.k = 1 then 3 else 0⟩, ⟨y.pow, 0, if y.k = 2 then 15 else 0⟩, ⟨y.tou, 0, if y.k = 2 then 15 else 0⟩]))) := by
  rw [refBodyB, keysB, Bool.eq_iff_iff]
  by_cases h1 : y.k = 1
  · simp [h1, wi, costL, btw, zeroC]; omega
  · by_cases h2 : y.k = 2
    · simp [h2, wi, costL, btw, zeroC]; omega
    · by_cases h3 : y.k = 3
      · simp [h3, wi, costL, btw, zeroC]; omega
      · by_cases h4 : y.k = 4
        · simp [h4, wi, costL, btw, zeroC]; omega
        · simp [h1, h2, h3, h4, btw]; omega
theorem chk_eq (y : Cd) (A : List AbT) (cards : Int) (h : A.length = y.an) : refChkC y A cards = chkC y A cards := by
  have e1 : A.all (refFitB (y.k == 3) cards) = A.all (fitB (y.k == 3) cards) := by
    congr 1
    funext t
    exact (fit_eq _ _ t).symm
  have e2 : (refBaseB y && A.all (refFitB (y.k == 3) cards)) = (mayB y && canB (y.k == 3) A cards) := by
    rw [e1, refBaseB, body_eq, mayB, canB, h]
    have e3 : (!((y.k == 3) && y.an != 1)) = (!(y.k == 3) || ((y.an : Int) == 1)) := by
      rw [Bool.eq_iff_iff]; simp; omega
    rw [e3]
    cases (!(y.k == 3) || ((y.an : Int) == 1)) <;> simp [Bool.and_assoc]
  rw [refChkC, chkC, e2]
end Go.Proofs.YtbeaaieaffdgeaaGreatDoor
end
