/- The document's answer: ability. (Written by gen5o.py.) -/
import Derived.Test.YtfhmadlobdklbaaDoorCardN
namespace Go.Proofs.YtfhmadlobdklbaaDoor
open Go.RowKit
set_option linter.unusedVariables false
set_option linter.unusedSimpArgs false

theorem LitAt.cells13 {w : World} {b : Nat} {v0 v1 v2 v3 v4 v5 v6 v7 v8 v9 v10 v11 v12 : Value} (h : LitAt w b [v0, v1, v2, v3, v4, v5, v6, v7, v8, v9, v10, v11, v12]) :
    w.cell? ⟨b, 0, none⟩ = some v0 ∧ w.cell? ⟨b, 1, none⟩ = some v1 ∧ w.cell? ⟨b, 2, none⟩ = some v2 ∧ w.cell? ⟨b, 3, none⟩ = some v3 ∧ w.cell? ⟨b, 4, none⟩ = some v4 ∧ w.cell? ⟨b, 5, none⟩ = some v5 ∧ w.cell? ⟨b, 6, none⟩ = some v6 ∧
    w.cell? ⟨b, 7, none⟩ = some v7 ∧ w.cell? ⟨b, 8, none⟩ = some v8 ∧ w.cell? ⟨b, 9, none⟩ = some v9 ∧ w.cell? ⟨b, 10, none⟩ = some v10 ∧ w.cell? ⟨b, 11, none⟩ = some v11 ∧ w.cell? ⟨b, 12, none⟩ = some v12 :=
  ⟨h.2 0 (by simp), h.2 1 (by simp), h.2 2 (by simp), h.2 3 (by simp), h.2 4 (by simp), h.2 5 (by simp), h.2 6 (by simp), h.2 7 (by simp), h.2 8 (by simp), h.2 9 (by simp), h.2 10 (by simp), h.2 11 (by simp), h.2 12 (by simp)⟩
def noneB (x : Ab) : Bool := x.op == 0 && (x.a == 0 && x.b == 0)
def zeroB (x : Ab) : Bool := x.c0 == 0 && (x.c1 == 0 && (x.c2 == 0 && x.c3 == 0))
/-- What the document's ability tells; cb: may its code be? tb: may its targets? -/
def refAbilB (sp cb tb : Bool) (x : Ab) : Bool :=
  (sp == (x.k == 1)) && (
    if x.k = 1 then cb && (noneB x && (tb && (x.ev == 0 && (x.wh == 0 && (zeroB x && !x.tap)))))
    else if x.k = 2 then cb && (noneB x && (tb && (x.ev == 0 && (x.wh == 0 && wi (costL 20 x.c0 x.c1 x.c2 x.c3)))))
    else if x.k = 3 then cb && (noneB x && (decide (x.tn = 0) && (btw 1 6 x.ev && (btw 0 2 x.wh && (zeroB x && !x.tap)))))
    else if x.k = 4 then refStaticB x else if x.k = 5 then refReplB x else false)
set_option maxRecDepth 100000 in
set_option maxHeartbeats 4000000 in
theorem refAbil_1 (x : Ab) (hk : x.k = 1) (T : List Int) (L : List Ins) (cards : Int) (cb tb : Bool) (hc : (chk L x.tn cards == 0) = cb) (ht : (aimsB T && decide (x.tn ≤ 2)) = tb) (r : Bool) (hr : refAbilB true cb tb x = r) (w : World) (h : AbR w x T L) :
    Calls Tryd.prog 19 #[.agg #[.int .i64 1, .int .i64 x.ev, .int .i64 x.wh, .int .i64 x.c0, .int .i64 x.c1, .int .i64 x.c2, .int .i64 x.c3, .bool x.tap, .slice x.ta x.tn x.tc, .slice x.ca x.cn x.cc, .int .i64 x.op, .int .i64 x.a, .int .i64 x.b], .bool true, .int .i64 cards] w fun e w' => e = .returned (.bool r) ∧ Below w.heap.size w w' := by
  have hb := below_alloc1 w (.cells #[.int .i64 1, .int .i64 x.ev, .int .i64 x.wh, .int .i64 x.c0, .int .i64 x.c1, .int .i64 x.c2, .int .i64 x.c3, .bool x.tap, .slice x.ta x.tn x.tc, .slice x.ca x.cn x.cc, .int .i64 x.op, .int .i64 x.a, .int .i64 x.b] 41)
  obtain ⟨cq, hq⟩ : ∃ cq, chk L x.tn cards = cq := ⟨_, rfl⟩
  rw [hq] at hc
  have HQ := Lib.hid hq
  have HTb := Lib.hid ht
  have HR := Lib.hid hr
  have HA := Lib.hid (h.next hb)
  have HX := Lib.hid (litAt_new w (#[.int .i64 1, .int .i64 x.ev, .int .i64 x.wh, .int .i64 x.c0, .int .i64 x.c1, .int .i64 x.c2, .int .i64 x.c3, .bool x.tap, .slice x.ta x.tn x.tc, .slice x.ca x.cn x.cc, .int .i64 x.op, .int .i64 x.a, .int .i64 x.b] : Array Value).toList 41)
  have HW := Lib.hid hb
  have HE := Lib.hid (refCheck_any x.ca x.cc L x.tn cards)
  rw [HA.out.2.1, HQ.out] at HE
  have hqz := fun W => equal_mana x.c0 x.c1 x.c2 x.c3 0 0 0 0 W
  obtain ⟨s, hs⟩ : ∃ s, s = zeroB x := ⟨_, rfl⟩
  change ∀ W, _ = Result.ok (zeroB x) W at hqz
  rw [← hs] at hqz
  have HS := Lib.hid hs
  clear hq ht hr h hb hs
  have HK := Lib.hid hk
  clear hk
  go_enter Tryd.func19, Tryd.ntmps19
  go_wp2_with fail
  generalize w.alloc (.cells #[.int .i64 1, .int .i64 x.ev, .int .i64 x.wh, .int .i64 x.c0, .int .i64 x.c1, .int .i64 x.c2, .int .i64 x.c3, .bool x.tap, .slice x.ta x.tn x.tc, .slice x.ca x.cn x.cc, .int .i64 x.op, .int .i64 x.a, .int .i64 x.b] 41) = W at *
  refine (HE.out _ HA.out.2.2).mono ?_
  rintro e w1 ⟨rfl, hb⟩
  have HB1 := Lib.hid hb
  clear hb
  obtain ⟨q0, q1, q2, q3, q4, q5, q6, q7, q8, q9, q10, q11, q12⟩ := (HX.out.next HB1.out).cells13
  go_wp2_with (first | (go_at_call 17; refine (refIn_any _ _ _ _).mono ?_; rintro e w' ⟨rfl, rfl⟩) | (go_at_call 24; refine (refTargets_any _ _ T _ HA.out.1.1 tb HTb.out _ (HA.out.1.2.next HB1.out)).mono ?_; rintro e w' ⟨rfl, rfl⟩))
  all_goals
    clear q0 q1 q2 q3 q4 q5 q6 q7 q8 q9 q10 q11 q12 hqz
    go_ret
    refine ⟨bool_ret ?_, ?_⟩
    · rw [← HR.out, refAbilB]
      simp [noneB, ← HS.out, HK.out, *]
    · first | exact HW.out.trans (HB2.out.mono HW.out.size) | exact HW.out.trans (HB1.out.mono HW.out.size)
set_option maxRecDepth 100000 in
set_option maxHeartbeats 4000000 in
theorem refAbil_2 (x : Ab) (hk : x.k = 2) (T : List Int) (L : List Ins) (cards : Int) (cb tb : Bool) (hc : (chk L x.tn cards == 0) = cb) (ht : (aimsB T && decide (x.tn ≤ 2)) = tb) (r : Bool) (hr : refAbilB false cb tb x = r) (w : World) (h : AbR w x T L) :
    Calls Tryd.prog 19 #[.agg #[.int .i64 2, .int .i64 x.ev, .int .i64 x.wh, .int .i64 x.c0, .int .i64 x.c1, .int .i64 x.c2, .int .i64 x.c3, .bool x.tap, .slice x.ta x.tn x.tc, .slice x.ca x.cn x.cc, .int .i64 x.op, .int .i64 x.a, .int .i64 x.b], .bool false, .int .i64 cards] w fun e w' => e = .returned (.bool r) ∧ Below w.heap.size w w' := by
  have hb := below_alloc1 w (.cells #[.int .i64 2, .int .i64 x.ev, .int .i64 x.wh, .int .i64 x.c0, .int .i64 x.c1, .int .i64 x.c2, .int .i64 x.c3, .bool x.tap, .slice x.ta x.tn x.tc, .slice x.ca x.cn x.cc, .int .i64 x.op, .int .i64 x.a, .int .i64 x.b] 41)
  obtain ⟨cq, hq⟩ : ∃ cq, chk L x.tn cards = cq := ⟨_, rfl⟩
  rw [hq] at hc
  have HQ := Lib.hid hq
  have HTb := Lib.hid ht
  have HR := Lib.hid hr
  have HA := Lib.hid (h.next hb)
  have HX := Lib.hid (litAt_new w (#[.int .i64 2, .int .i64 x.ev, .int .i64 x.wh, .int .i64 x.c0, .int .i64 x.c1, .int .i64 x.c2, .int .i64 x.c3, .bool x.tap, .slice x.ta x.tn x.tc, .slice x.ca x.cn x.cc, .int .i64 x.op, .int .i64 x.a, .int .i64 x.b] : Array Value).toList 41)
  have HW := Lib.hid hb
  have HE := Lib.hid (refCheck_any x.ca x.cc L x.tn cards)
  rw [HA.out.2.1, HQ.out] at HE
  have hqz := fun W => equal_mana x.c0 x.c1 x.c2 x.c3 0 0 0 0 W
  obtain ⟨s, hs⟩ : ∃ s, s = zeroB x := ⟨_, rfl⟩
  change ∀ W, _ = Result.ok (zeroB x) W at hqz
  rw [← hs] at hqz
  have HS := Lib.hid hs
  clear hq ht hr h hb hs
  have HK := Lib.hid hk
  obtain ⟨cob, hco⟩ : ∃ cob, wi (costL 20 x.c0 x.c1 x.c2 x.c3) = cob := ⟨_, rfl⟩
  have HCo := Lib.hid hco
  clear hk hco
  go_enter Tryd.func19, Tryd.ntmps19
  go_wp2_with fail
  generalize w.alloc (.cells #[.int .i64 2, .int .i64 x.ev, .int .i64 x.wh, .int .i64 x.c0, .int .i64 x.c1, .int .i64 x.c2, .int .i64 x.c3, .bool x.tap, .slice x.ta x.tn x.tc, .slice x.ca x.cn x.cc, .int .i64 x.op, .int .i64 x.a, .int .i64 x.b] 41) = W at *
  refine (HE.out _ HA.out.2.2).mono ?_
  rintro e w1 ⟨rfl, hb⟩
  have HB1 := Lib.hid hb
  clear hb
  obtain ⟨q0, q1, q2, q3, q4, q5, q6, q7, q8, q9, q10, q11, q12⟩ := (HX.out.next HB1.out).cells13
  go_wp2_with (first | (go_at_call 17; refine (refIn_any _ _ _ _).mono ?_; rintro e w' ⟨rfl, rfl⟩) | (go_at_call 24; refine (refTargets_any _ _ T _ HA.out.1.1 tb HTb.out _ (HA.out.1.2.next HB1.out)).mono ?_; rintro e w' ⟨rfl, rfl⟩) | (go_at_call 22; refine (refCost_any _ _ _ _ cob HCo.out _).mono ?_; rintro e w2 ⟨rfl, hb⟩; have HB2 := Lib.hid (below_then' HB1.out hb HB1.out.size); clear hb))
  all_goals
    clear q0 q1 q2 q3 q4 q5 q6 q7 q8 q9 q10 q11 q12 hqz
    go_ret
    refine ⟨bool_ret ?_, ?_⟩
    · rw [← HR.out, refAbilB]
      simp [noneB, HCo.out, ← HS.out, HK.out, *]
    · first | exact HW.out.trans (HB2.out.mono HW.out.size) | exact HW.out.trans (HB1.out.mono HW.out.size)
set_option maxRecDepth 100000 in
set_option maxHeartbeats 4000000 in
theorem refAbil_3 (x : Ab) (hk : x.k = 3) (T : List Int) (L : List Ins) (cards : Int) (cb tb : Bool) (hc : (chk L x.tn cards == 0) = cb) (ht : (aimsB T && decide (x.tn ≤ 2)) = tb) (r : Bool) (hr : refAbilB false cb tb x = r) (w : World) (h : AbR w x T L) :
    Calls Tryd.prog 19 #[.agg #[.int .i64 3, .int .i64 x.ev, .int .i64 x.wh, .int .i64 x.c0, .int .i64 x.c1, .int .i64 x.c2, .int .i64 x.c3, .bool x.tap, .slice x.ta x.tn x.tc, .slice x.ca x.cn x.cc, .int .i64 x.op, .int .i64 x.a, .int .i64 x.b], .bool false, .int .i64 cards] w fun e w' => e = .returned (.bool r) ∧ Below w.heap.size w w' := by
  have hb := below_alloc1 w (.cells #[.int .i64 3, .int .i64 x.ev, .int .i64 x.wh, .int .i64 x.c0, .int .i64 x.c1, .int .i64 x.c2, .int .i64 x.c3, .bool x.tap, .slice x.ta x.tn x.tc, .slice x.ca x.cn x.cc, .int .i64 x.op, .int .i64 x.a, .int .i64 x.b] 41)
  obtain ⟨cq, hq⟩ : ∃ cq, chk L x.tn cards = cq := ⟨_, rfl⟩
  rw [hq] at hc
  have HQ := Lib.hid hq
  have HTb := Lib.hid ht
  have HR := Lib.hid hr
  have HA := Lib.hid (h.next hb)
  have HX := Lib.hid (litAt_new w (#[.int .i64 3, .int .i64 x.ev, .int .i64 x.wh, .int .i64 x.c0, .int .i64 x.c1, .int .i64 x.c2, .int .i64 x.c3, .bool x.tap, .slice x.ta x.tn x.tc, .slice x.ca x.cn x.cc, .int .i64 x.op, .int .i64 x.a, .int .i64 x.b] : Array Value).toList 41)
  have HW := Lib.hid hb
  have HE := Lib.hid (refCheck_any x.ca x.cc L x.tn cards)
  rw [HA.out.2.1, HQ.out] at HE
  have hqz := fun W => equal_mana x.c0 x.c1 x.c2 x.c3 0 0 0 0 W
  obtain ⟨s, hs⟩ : ∃ s, s = zeroB x := ⟨_, rfl⟩
  change ∀ W, _ = Result.ok (zeroB x) W at hqz
  rw [← hs] at hqz
  have HS := Lib.hid hs
  clear hq ht hr h hb hs
  have HK := Lib.hid hk
  clear hk
  go_enter Tryd.func19, Tryd.ntmps19
  go_wp2_with fail
  generalize w.alloc (.cells #[.int .i64 3, .int .i64 x.ev, .int .i64 x.wh, .int .i64 x.c0, .int .i64 x.c1, .int .i64 x.c2, .int .i64 x.c3, .bool x.tap, .slice x.ta x.tn x.tc, .slice x.ca x.cn x.cc, .int .i64 x.op, .int .i64 x.a, .int .i64 x.b] 41) = W at *
  refine (HE.out _ HA.out.2.2).mono ?_
  rintro e w1 ⟨rfl, hb⟩
  have HB1 := Lib.hid hb
  clear hb
  obtain ⟨q0, q1, q2, q3, q4, q5, q6, q7, q8, q9, q10, q11, q12⟩ := (HX.out.next HB1.out).cells13
  go_wp2_with (first | (go_at_call 17; refine (refIn_any _ _ _ _).mono ?_; rintro e w' ⟨rfl, rfl⟩))
  all_goals
    clear q0 q1 q2 q3 q4 q5 q6 q7 q8 q9 q10 q11 q12 hqz
    go_ret
    refine ⟨bool_ret ?_, ?_⟩
    · rw [← HR.out, refAbilB]
      simp [noneB, ← HS.out, HK.out, *]
    · first | exact HW.out.trans (HB2.out.mono HW.out.size) | exact HW.out.trans (HB1.out.mono HW.out.size)
set_option maxRecDepth 100000 in
set_option maxHeartbeats 4000000 in
theorem refAbil_4 (x : Ab) (hk : x.k = 4) (T : List Int) (L : List Ins) (cards : Int) (cb tb : Bool) (hc : (chk L x.tn cards == 0) = cb) (ht : (aimsB T && decide (x.tn ≤ 2)) = tb) (r : Bool) (hr : refAbilB false cb tb x = r) (w : World) (h : AbR w x T L) :
    Calls Tryd.prog 19 #[.agg #[.int .i64 4, .int .i64 x.ev, .int .i64 x.wh, .int .i64 x.c0, .int .i64 x.c1, .int .i64 x.c2, .int .i64 x.c3, .bool x.tap, .slice x.ta x.tn x.tc, .slice x.ca x.cn x.cc, .int .i64 x.op, .int .i64 x.a, .int .i64 x.b], .bool false, .int .i64 cards] w fun e w' => e = .returned (.bool r) ∧ Below w.heap.size w w' := by
  have hb := below_alloc1 w (.cells #[.int .i64 4, .int .i64 x.ev, .int .i64 x.wh, .int .i64 x.c0, .int .i64 x.c1, .int .i64 x.c2, .int .i64 x.c3, .bool x.tap, .slice x.ta x.tn x.tc, .slice x.ca x.cn x.cc, .int .i64 x.op, .int .i64 x.a, .int .i64 x.b] 41)
  obtain ⟨cq, hq⟩ : ∃ cq, chk L x.tn cards = cq := ⟨_, rfl⟩
  rw [hq] at hc
  have HQ := Lib.hid hq
  have HTb := Lib.hid ht
  have HR := Lib.hid hr
  have HA := Lib.hid (h.next hb)
  have HX := Lib.hid (litAt_new w (#[.int .i64 4, .int .i64 x.ev, .int .i64 x.wh, .int .i64 x.c0, .int .i64 x.c1, .int .i64 x.c2, .int .i64 x.c3, .bool x.tap, .slice x.ta x.tn x.tc, .slice x.ca x.cn x.cc, .int .i64 x.op, .int .i64 x.a, .int .i64 x.b] : Array Value).toList 41)
  have HW := Lib.hid hb
  have HE := Lib.hid (refCheck_any x.ca x.cc L x.tn cards)
  rw [HA.out.2.1, HQ.out] at HE
  have hqz := fun W => equal_mana x.c0 x.c1 x.c2 x.c3 0 0 0 0 W
  obtain ⟨s, hs⟩ : ∃ s, s = zeroB x := ⟨_, rfl⟩
  change ∀ W, _ = Result.ok (zeroB x) W at hqz
  rw [← hs] at hqz
  have HS := Lib.hid hs
  clear hq ht hr h hb hs
  have HK := Lib.hid hk
  obtain ⟨fb, hfb⟩ : ∃ fb, refStaticB x = fb := ⟨_, rfl⟩
  have HFb := Lib.hid hfb
  have hf := refStatic_any x fb hfb
  rw [hk] at hf
  have HF := Lib.hid (show ∀ o a b : Int, o = x.op → a = x.a → b = x.b → ∀ W : World, Calls Tryd.prog 25 #[.agg #[.int .i64 4, .int .i64 x.ev, .int .i64 x.wh, .int .i64 x.c0, .int .i64 x.c1, .int .i64 x.c2, .int .i64 x.c3, .bool x.tap, .slice x.ta x.tn x.tc, .slice x.ca x.cn x.cc, .int .i64 o, .int .i64 a, .int .i64 b]] W fun e w' => e = .returned (.bool fb) ∧ Below W.heap.size W w' from fun o a b h1 h2 h3 W => by subst h1 h2 h3; exact hf W)
  clear hk hf hfb
  go_enter Tryd.func19, Tryd.ntmps19
  go_wp2_with fail
  generalize w.alloc (.cells #[.int .i64 4, .int .i64 x.ev, .int .i64 x.wh, .int .i64 x.c0, .int .i64 x.c1, .int .i64 x.c2, .int .i64 x.c3, .bool x.tap, .slice x.ta x.tn x.tc, .slice x.ca x.cn x.cc, .int .i64 x.op, .int .i64 x.a, .int .i64 x.b] 41) = W at *
  refine (HE.out _ HA.out.2.2).mono ?_
  rintro e w1 ⟨rfl, hb⟩
  have HB1 := Lib.hid hb
  clear hb
  obtain ⟨q0, q1, q2, q3, q4, q5, q6, q7, q8, q9, q10, q11, q12⟩ := (HX.out.next HB1.out).cells13
  go_wp2_with (first | (go_at_call 17; refine (refIn_any _ _ _ _).mono ?_; rintro e w' ⟨rfl, rfl⟩) | (go_at_call 25; refine Calls.mono (HF.out _ _ _ ?_ ?_ ?_ _) ?_; (first | rfl | omega); (first | rfl | omega); (first | rfl | omega); rintro e w2 ⟨rfl, hb⟩; have HB2 := Lib.hid (below_then' HB1.out hb HB1.out.size); clear hb))
  all_goals
    clear q0 q1 q2 q3 q4 q5 q6 q7 q8 q9 q10 q11 q12 hqz
    go_ret
    refine ⟨bool_ret ?_, ?_⟩
    · rw [← HR.out, refAbilB]
      simp [noneB, HFb.out, ← HS.out, HK.out, *]
    · first | exact HW.out.trans (HB2.out.mono HW.out.size) | exact HW.out.trans (HB1.out.mono HW.out.size)
set_option maxRecDepth 100000 in
set_option maxHeartbeats 4000000 in
theorem refAbil_5 (x : Ab) (hk : x.k = 5) (T : List Int) (L : List Ins) (cards : Int) (cb tb : Bool) (hc : (chk L x.tn cards == 0) = cb) (ht : (aimsB T && decide (x.tn ≤ 2)) = tb) (r : Bool) (hr : refAbilB false cb tb x = r) (w : World) (h : AbR w x T L) :
    Calls Tryd.prog 19 #[.agg #[.int .i64 5, .int .i64 x.ev, .int .i64 x.wh, .int .i64 x.c0, .int .i64 x.c1, .int .i64 x.c2, .int .i64 x.c3, .bool x.tap, .slice x.ta x.tn x.tc, .slice x.ca x.cn x.cc, .int .i64 x.op, .int .i64 x.a, .int .i64 x.b], .bool false, .int .i64 cards] w fun e w' => e = .returned (.bool r) ∧ Below w.heap.size w w' := by
  have hb := below_alloc1 w (.cells #[.int .i64 5, .int .i64 x.ev, .int .i64 x.wh, .int .i64 x.c0, .int .i64 x.c1, .int .i64 x.c2, .int .i64 x.c3, .bool x.tap, .slice x.ta x.tn x.tc, .slice x.ca x.cn x.cc, .int .i64 x.op, .int .i64 x.a, .int .i64 x.b] 41)
  obtain ⟨cq, hq⟩ : ∃ cq, chk L x.tn cards = cq := ⟨_, rfl⟩
  rw [hq] at hc
  have HQ := Lib.hid hq
  have HTb := Lib.hid ht
  have HR := Lib.hid hr
  have HA := Lib.hid (h.next hb)
  have HX := Lib.hid (litAt_new w (#[.int .i64 5, .int .i64 x.ev, .int .i64 x.wh, .int .i64 x.c0, .int .i64 x.c1, .int .i64 x.c2, .int .i64 x.c3, .bool x.tap, .slice x.ta x.tn x.tc, .slice x.ca x.cn x.cc, .int .i64 x.op, .int .i64 x.a, .int .i64 x.b] : Array Value).toList 41)
  have HW := Lib.hid hb
  have HE := Lib.hid (refCheck_any x.ca x.cc L x.tn cards)
  rw [HA.out.2.1, HQ.out] at HE
  have hqz := fun W => equal_mana x.c0 x.c1 x.c2 x.c3 0 0 0 0 W
  obtain ⟨s, hs⟩ : ∃ s, s = zeroB x := ⟨_, rfl⟩
  change ∀ W, _ = Result.ok (zeroB x) W at hqz
  rw [← hs] at hqz
  have HS := Lib.hid hs
  clear hq ht hr h hb hs
  have HK := Lib.hid hk
  obtain ⟨fb, hfb⟩ : ∃ fb, refReplB x = fb := ⟨_, rfl⟩
  have HFb := Lib.hid hfb
  have hf := refRepl_any x fb hfb
  rw [hk] at hf
  have HF := Lib.hid (show ∀ o a b : Int, o = x.op → a = x.a → b = x.b → ∀ W : World, Calls Tryd.prog 26 #[.agg #[.int .i64 5, .int .i64 x.ev, .int .i64 x.wh, .int .i64 x.c0, .int .i64 x.c1, .int .i64 x.c2, .int .i64 x.c3, .bool x.tap, .slice x.ta x.tn x.tc, .slice x.ca x.cn x.cc, .int .i64 o, .int .i64 a, .int .i64 b]] W fun e w' => e = .returned (.bool fb) ∧ Below W.heap.size W w' from fun o a b h1 h2 h3 W => by subst h1 h2 h3; exact hf W)
  clear hk hf hfb
  go_enter Tryd.func19, Tryd.ntmps19
  go_wp2_with fail
  generalize w.alloc (.cells #[.int .i64 5, .int .i64 x.ev, .int .i64 x.wh, .int .i64 x.c0, .int .i64 x.c1, .int .i64 x.c2, .int .i64 x.c3, .bool x.tap, .slice x.ta x.tn x.tc, .slice x.ca x.cn x.cc, .int .i64 x.op, .int .i64 x.a, .int .i64 x.b] 41) = W at *
  refine (HE.out _ HA.out.2.2).mono ?_
  rintro e w1 ⟨rfl, hb⟩
  have HB1 := Lib.hid hb
  clear hb
  obtain ⟨q0, q1, q2, q3, q4, q5, q6, q7, q8, q9, q10, q11, q12⟩ := (HX.out.next HB1.out).cells13
  go_wp2_with (first | (go_at_call 17; refine (refIn_any _ _ _ _).mono ?_; rintro e w' ⟨rfl, rfl⟩) | (go_at_call 26; refine Calls.mono (HF.out _ _ _ ?_ ?_ ?_ _) ?_; (first | rfl | omega); (first | rfl | omega); (first | rfl | omega); rintro e w2 ⟨rfl, hb⟩; have HB2 := Lib.hid (below_then' HB1.out hb HB1.out.size); clear hb))
  all_goals
    clear q0 q1 q2 q3 q4 q5 q6 q7 q8 q9 q10 q11 q12 hqz
    go_ret
    refine ⟨bool_ret ?_, ?_⟩
    · rw [← HR.out, refAbilB]
      simp [noneB, HFb.out, ← HS.out, HK.out, *]
    · first | exact HW.out.trans (HB2.out.mono HW.out.size) | exact HW.out.trans (HB1.out.mono HW.out.size)
set_option maxRecDepth 100000 in
set_option maxHeartbeats 4000000 in
theorem refAbil_0 (x : Ab) (h1 : ¬ x.k = 1) (h2 : ¬ x.k = 2) (h3 : ¬ x.k = 3) (h4 : ¬ x.k = 4) (h5 : ¬ x.k = 5) (T : List Int) (L : List Ins) (cards : Int) (cb tb : Bool) (hc : (chk L x.tn cards == 0) = cb) (ht : (aimsB T && decide (x.tn ≤ 2)) = tb) (r : Bool) (hr : refAbilB false cb tb x = r) (w : World) (h : AbR w x T L) :
    Calls Tryd.prog 19 #[.agg #[.int .i64 x.k, .int .i64 x.ev, .int .i64 x.wh, .int .i64 x.c0, .int .i64 x.c1, .int .i64 x.c2, .int .i64 x.c3, .bool x.tap, .slice x.ta x.tn x.tc, .slice x.ca x.cn x.cc, .int .i64 x.op, .int .i64 x.a, .int .i64 x.b], .bool false, .int .i64 cards] w fun e w' => e = .returned (.bool r) ∧ Below w.heap.size w w' := by
  have hb := below_alloc1 w (.cells #[.int .i64 x.k, .int .i64 x.ev, .int .i64 x.wh, .int .i64 x.c0, .int .i64 x.c1, .int .i64 x.c2, .int .i64 x.c3, .bool x.tap, .slice x.ta x.tn x.tc, .slice x.ca x.cn x.cc, .int .i64 x.op, .int .i64 x.a, .int .i64 x.b] 41)
  obtain ⟨cq, hq⟩ : ∃ cq, chk L x.tn cards = cq := ⟨_, rfl⟩
  rw [hq] at hc
  have HQ := Lib.hid hq
  have HTb := Lib.hid ht
  have HR := Lib.hid hr
  have HA := Lib.hid (h.next hb)
  have HX := Lib.hid (litAt_new w (#[.int .i64 x.k, .int .i64 x.ev, .int .i64 x.wh, .int .i64 x.c0, .int .i64 x.c1, .int .i64 x.c2, .int .i64 x.c3, .bool x.tap, .slice x.ta x.tn x.tc, .slice x.ca x.cn x.cc, .int .i64 x.op, .int .i64 x.a, .int .i64 x.b] : Array Value).toList 41)
  have HW := Lib.hid hb
  have HE := Lib.hid (refCheck_any x.ca x.cc L x.tn cards)
  rw [HA.out.2.1, HQ.out] at HE
  have hqz := fun W => equal_mana x.c0 x.c1 x.c2 x.c3 0 0 0 0 W
  obtain ⟨s, hs⟩ : ∃ s, s = zeroB x := ⟨_, rfl⟩
  change ∀ W, _ = Result.ok (zeroB x) W at hqz
  rw [← hs] at hqz
  have HS := Lib.hid hs
  clear hq ht hr h hb hs
  go_enter Tryd.func19, Tryd.ntmps19
  go_wp2_with fail
  generalize w.alloc (.cells #[.int .i64 x.k, .int .i64 x.ev, .int .i64 x.wh, .int .i64 x.c0, .int .i64 x.c1, .int .i64 x.c2, .int .i64 x.c3, .bool x.tap, .slice x.ta x.tn x.tc, .slice x.ca x.cn x.cc, .int .i64 x.op, .int .i64 x.a, .int .i64 x.b] 41) = W at *
  refine (HE.out _ HA.out.2.2).mono ?_
  rintro e w1 ⟨rfl, hb⟩
  have HB1 := Lib.hid hb
  clear hb
  obtain ⟨q0, q1, q2, q3, q4, q5, q6, q7, q8, q9, q10, q11, q12⟩ := (HX.out.next HB1.out).cells13
  go_wp2_with (first | (go_at_call 17; refine (refIn_any _ _ _ _).mono ?_; rintro e w' ⟨rfl, rfl⟩))
  all_goals
    clear q0 q1 q2 q3 q4 q5 q6 q7 q8 q9 q10 q11 q12 hqz
    go_ret
    refine ⟨bool_ret ?_, ?_⟩
    · rw [← HR.out, refAbilB]
      simp [noneB, ← HS.out, *]
    · first | exact HW.out.trans (HB2.out.mono HW.out.size) | exact HW.out.trans (HB1.out.mono HW.out.size)
set_option maxRecDepth 100000 in
set_option maxHeartbeats 4000000 in
theorem refAbil_not (x : Ab) (sp : Bool) (hm : (sp != (x.k == 1)) = true) (cards : Int) (w : World) :
    Calls Tryd.prog 19 #[.agg #[.int .i64 x.k, .int .i64 x.ev, .int .i64 x.wh, .int .i64 x.c0, .int .i64 x.c1, .int .i64 x.c2, .int .i64 x.c3, .bool x.tap, .slice x.ta x.tn x.tc, .slice x.ca x.cn x.cc, .int .i64 x.op, .int .i64 x.a, .int .i64 x.b], .bool sp, .int .i64 cards] w fun e w' => e = .returned (.bool false) ∧ Below w.heap.size w w' := by
  cases sp
  all_goals
    cases h1 : (x.k == 1)
    all_goals
      first
        | (exfalso; rw [h1] at hm; cases hm; done)
        | (clear hm
           go_enter Tryd.func19, Tryd.ntmps19
           go_wp2_with fail
           go_ret
           exact ⟨rfl, below_alloc1 _ _⟩)
theorem refAbil_any (x : Ab) (T : List Int) (L : List Ins) (sp : Bool) (cards : Int) (r : Bool) (hr : refAbilB sp (chk L x.tn cards == 0) (aimsB T && decide (x.tn ≤ 2)) x = r) (w : World) (h : AbR w x T L) :
    Calls Tryd.prog 19 #[.agg #[.int .i64 x.k, .int .i64 x.ev, .int .i64 x.wh, .int .i64 x.c0, .int .i64 x.c1, .int .i64 x.c2, .int .i64 x.c3, .bool x.tap, .slice x.ta x.tn x.tc, .slice x.ca x.cn x.cc, .int .i64 x.op, .int .i64 x.a, .int .i64 x.b], .bool sp, .int .i64 cards] w fun e w' => e = .returned (.bool r) ∧ Below w.heap.size w w' := by
  cases hm : (sp != (x.k == 1))
  · by_cases h1 : x.k = 1
    · obtain rfl : sp = true := by rw [h1] at hm; revert hm; cases sp <;> decide
      rw [h1]
      exact refAbil_1 x h1 T L cards _ _ rfl rfl r hr w h
    · obtain rfl : sp = false := by
        rw [show (x.k == 1) = false from beq_eq_false_iff_ne.2 h1] at hm; revert hm; cases sp <;> decide
      by_cases h2 : x.k = 2
      · rw [h2]
        exact refAbil_2 x h2 T L cards _ _ rfl rfl r hr w h
      · by_cases h3 : x.k = 3
        · rw [h3]
          exact refAbil_3 x h3 T L cards _ _ rfl rfl r hr w h
        · by_cases h4 : x.k = 4
          · rw [h4]
            exact refAbil_4 x h4 T L cards _ _ rfl rfl r hr w h
          · by_cases h5 : x.k = 5
            · rw [h5]
              exact refAbil_5 x h5 T L cards _ _ rfl rfl r hr w h
            · exact refAbil_0 x h1 h2 h3 h4 h5 T L cards _ _ rfl rfl r hr w h
  · obtain rfl : r = false := by
      rw [← hr, refAbilB, show (sp == (x.k == 1)) = false by revert hm; cases sp <;> cases (x.k == 1) <;> decide]; rfl
    exact refAbil_not x sp hm cards w
end Go.Proofs.YtfhmadlobdklbaaDoor
