/- isAbility. (Written by gen5g.py.) -/
import Derived.Test.YtfhmadlobdklbaaDoorCardE
import Derived.Test.YtfhmadlobdklbaaDoorCardEa
import Derived.Test.YtfhmadlobdklbaaDoorCardEt
import Derived.Test.YtfhmadlobdklbaaDoorCardFs
import Derived.Test.YtfhmadlobdklbaaDoorCardFr
import Derived.Laws.EntriesVeiled
import Derived.Deep.RegionWith
import Derived.Deep.RegionHeld3
namespace Go.Proofs.YtfhmadlobdklbaaDoor
open Go.RowKit
set_option linter.unusedVariables false
set_option linter.unusedSimpArgs false

theorem within_drew (L : List Ins) (cs : Array Value) (T : TypeId) (hcs : cs = (insCells L).toArray) (n : Nat) (hn : L.length = n) (hl : n ≤ 1000) (r : Bool) (hr : wi L = r) (w : World) :
    Calls Tryd.prog 13 #[.slice (some ⟨w.heap.size, 0, none⟩) n n] (w.alloc (.cells cs T)).drew fun e w' => e = .returned (.bool r) ∧ Below w.heap.size w w' :=
  (within_any _ _ L n hn r hr _ ((isC_new w L cs T hcs n hn hl).next (Below.refl _ _).drew)).mono fun e w' ⟨he, hb⟩ => ⟨he, (below_alloc1 _ _).drew.trans (hb.mono (by simp [World.drew]))⟩
/-- May it be? -/
def abilB (x : Ab) (T : List Int) (L : List Ins) (cards : Int) : Bool :=
  if x.k = 1 then spellB x T L cards else if x.k = 2 then actB x T L cards else if x.k = 3 then trigB x T L cards else if x.k = 4 then staticB x else if x.k = 5 then replB x else false
set_option maxRecDepth 100000 in
set_option maxHeartbeats 4000000 in
theorem isAbility_spell (x : Ab) (hk : x.k = 1) (T : List Int) (L : List Ins) (cards : Int) (r : Bool) (hr : spellB x T L cards = r) (w : World) (h : AbR w x T L) :
    Calls Tryd.prog 21 #[.agg #[.int .i64 x.k, .int .i64 x.ev, .int .i64 x.wh, .int .i64 x.c0, .int .i64 x.c1, .int .i64 x.c2, .int .i64 x.c3, .bool x.tap, .slice x.ta x.tn x.tc, .slice x.ca x.cn x.cc, .int .i64 x.op, .int .i64 x.a, .int .i64 x.b], .int .i64 cards] w fun e w' => e = .returned (.bool r) ∧ Below w.heap.size w w' := by
  have HK := Lib.hid hk
  have hf := spell_any x T L cards r hr
  rw [hk] at hf
  have HF := Lib.hid hf
  have HW := Lib.hid (show Below w.heap.size w ((w.alloc (.cells #[.int .i64 x.k, .int .i64 x.ev, .int .i64 x.wh, .int .i64 x.c0, .int .i64 x.c1, .int .i64 x.c2, .int .i64 x.c3, .bool x.tap, .slice x.ta x.tn x.tc, .slice x.ca x.cn x.cc, .int .i64 x.op, .int .i64 x.a, .int .i64 x.b] 62)).alloc (.cells #[.nilFunc, .func (.func 27) #[] #[], .func (.func 28) #[] #[], .func (.func 29) #[] #[], .func (.func 30) #[] #[], .func (.func 31) #[] #[]] 69)) from below_alloc2 w _ _)
  have HX := Lib.hid (show BoxA ((w.alloc (.cells #[.int .i64 x.k, .int .i64 x.ev, .int .i64 x.wh, .int .i64 x.c0, .int .i64 x.c1, .int .i64 x.c2, .int .i64 x.c3, .bool x.tap, .slice x.ta x.tn x.tc, .slice x.ca x.cn x.cc, .int .i64 x.op, .int .i64 x.a, .int .i64 x.b] 62)).alloc (.cells #[.nilFunc, .func (.func 27) #[] #[], .func (.func 28) #[] #[], .func (.func 29) #[] #[], .func (.func 30) #[] #[], .func (.func 31) #[] #[]] 69)) w.heap.size x from (boxA_new w x 62).next (below_alloc1 _ _))
  have HZ := Lib.hid (show w.heap.size + 1 + 1 = ((w.alloc (.cells #[.int .i64 x.k, .int .i64 x.ev, .int .i64 x.wh, .int .i64 x.c0, .int .i64 x.c1, .int .i64 x.c2, .int .i64 x.c3, .bool x.tap, .slice x.ta x.tn x.tc, .slice x.ca x.cn x.cc, .int .i64 x.op, .int .i64 x.a, .int .i64 x.b] 62)).alloc (.cells #[.nilFunc, .func (.func 27) #[] #[], .func (.func 28) #[] #[], .func (.func 29) #[] #[], .func (.func 30) #[] #[], .func (.func 31) #[] #[]] 69)).heap.size by simp)
  have HM := Lib.hid (show ((w.alloc (.cells #[.int .i64 x.k, .int .i64 x.ev, .int .i64 x.wh, .int .i64 x.c0, .int .i64 x.c1, .int .i64 x.c2, .int .i64 x.c3, .bool x.tap, .slice x.ta x.tn x.tc, .slice x.ca x.cn x.cc, .int .i64 x.op, .int .i64 x.a, .int .i64 x.b] 62)).alloc (.cells #[.nilFunc, .func (.func 27) #[] #[], .func (.func 28) #[] #[], .func (.func 29) #[] #[], .func (.func 30) #[] #[], .func (.func 31) #[] #[]] 69)).cell? ⟨w.heap.size + 1, 1, none⟩ = some (.func (.func 27) #[] #[]) by simp)
  have HA := Lib.hid (h.next HW.out)
  clear hr hk hf h
  go_enter Tryd.func21, Tryd.ntmps21
  go_wp2_with fail
  generalize (w.alloc (.cells #[.int .i64 x.k, .int .i64 x.ev, .int .i64 x.wh, .int .i64 x.c0, .int .i64 x.c1, .int .i64 x.c2, .int .i64 x.c3, .bool x.tap, .slice x.ta x.tn x.tc, .slice x.ca x.cn x.cc, .int .i64 x.op, .int .i64 x.a, .int .i64 x.b] 62)).alloc (.cells #[.nilFunc, .func (.func 27) #[] #[], .func (.func 28) #[] #[], .func (.func 29) #[] #[], .func (.func 30) #[] #[], .func (.func 31) #[] #[]] 69) = W at *
  obtain ⟨q0, q1, q2, q3, q4, q5, q6, q7, q8, q9, q10, q11, q12⟩ := HX.out.cells
  rw [HK.out] at q0
  have m1 := HM.out
  go_region_with (first | (go_at_call 13; refine (within_drew [⟨1, 1, 5⟩] _ _ rfl 1 rfl (by omega) true (by decide) _).mono ?_; rintro e w1 ⟨rfl, hb⟩; have HB1 := Lib.hid hb; clear hb q0 q1 q2 q3 q4 q5 q6 q7 q8 q9 q10 q11 q12 m1; obtain ⟨q0, q1, q2, q3, q4, q5, q6, q7, q8, q9, q10, q11, q12⟩ := (HX.out.next HB1.out).cells; rw [HK.out] at q0; have m1 := (HB1.out.cell (p := ⟨w.heap.size + 1, 1, none⟩) (by have := HZ.out; show w.heap.size + 1 < W.heap.size; omega)).trans HM.out; have HA1 := Lib.hid (HA.out.next HB1.out)) | (go_at_call 27; refine (HF.out _ HA1.out).mono ?_; rintro e w2 ⟨rfl, hb⟩; have HB2 := Lib.hid (below_then' HB1.out hb HB1.out.size); clear hb))
  all_goals
    go_wp2_with fail
    go_ret
    exact ⟨rfl, HW.out.trans (HB2.out.mono HW.out.size)⟩
set_option maxRecDepth 100000 in
set_option maxHeartbeats 4000000 in
theorem isAbility_act (x : Ab) (hk : x.k = 2) (T : List Int) (L : List Ins) (cards : Int) (r : Bool) (hr : actB x T L cards = r) (w : World) (h : AbR w x T L) :
    Calls Tryd.prog 21 #[.agg #[.int .i64 x.k, .int .i64 x.ev, .int .i64 x.wh, .int .i64 x.c0, .int .i64 x.c1, .int .i64 x.c2, .int .i64 x.c3, .bool x.tap, .slice x.ta x.tn x.tc, .slice x.ca x.cn x.cc, .int .i64 x.op, .int .i64 x.a, .int .i64 x.b], .int .i64 cards] w fun e w' => e = .returned (.bool r) ∧ Below w.heap.size w w' := by
  have HK := Lib.hid hk
  have hf := act_any x T L cards r hr
  rw [hk] at hf
  have HF := Lib.hid hf
  have HW := Lib.hid (show Below w.heap.size w ((w.alloc (.cells #[.int .i64 x.k, .int .i64 x.ev, .int .i64 x.wh, .int .i64 x.c0, .int .i64 x.c1, .int .i64 x.c2, .int .i64 x.c3, .bool x.tap, .slice x.ta x.tn x.tc, .slice x.ca x.cn x.cc, .int .i64 x.op, .int .i64 x.a, .int .i64 x.b] 62)).alloc (.cells #[.nilFunc, .func (.func 27) #[] #[], .func (.func 28) #[] #[], .func (.func 29) #[] #[], .func (.func 30) #[] #[], .func (.func 31) #[] #[]] 69)) from below_alloc2 w _ _)
  have HX := Lib.hid (show BoxA ((w.alloc (.cells #[.int .i64 x.k, .int .i64 x.ev, .int .i64 x.wh, .int .i64 x.c0, .int .i64 x.c1, .int .i64 x.c2, .int .i64 x.c3, .bool x.tap, .slice x.ta x.tn x.tc, .slice x.ca x.cn x.cc, .int .i64 x.op, .int .i64 x.a, .int .i64 x.b] 62)).alloc (.cells #[.nilFunc, .func (.func 27) #[] #[], .func (.func 28) #[] #[], .func (.func 29) #[] #[], .func (.func 30) #[] #[], .func (.func 31) #[] #[]] 69)) w.heap.size x from (boxA_new w x 62).next (below_alloc1 _ _))
  have HZ := Lib.hid (show w.heap.size + 1 + 1 = ((w.alloc (.cells #[.int .i64 x.k, .int .i64 x.ev, .int .i64 x.wh, .int .i64 x.c0, .int .i64 x.c1, .int .i64 x.c2, .int .i64 x.c3, .bool x.tap, .slice x.ta x.tn x.tc, .slice x.ca x.cn x.cc, .int .i64 x.op, .int .i64 x.a, .int .i64 x.b] 62)).alloc (.cells #[.nilFunc, .func (.func 27) #[] #[], .func (.func 28) #[] #[], .func (.func 29) #[] #[], .func (.func 30) #[] #[], .func (.func 31) #[] #[]] 69)).heap.size by simp)
  have HM := Lib.hid (show ((w.alloc (.cells #[.int .i64 x.k, .int .i64 x.ev, .int .i64 x.wh, .int .i64 x.c0, .int .i64 x.c1, .int .i64 x.c2, .int .i64 x.c3, .bool x.tap, .slice x.ta x.tn x.tc, .slice x.ca x.cn x.cc, .int .i64 x.op, .int .i64 x.a, .int .i64 x.b] 62)).alloc (.cells #[.nilFunc, .func (.func 27) #[] #[], .func (.func 28) #[] #[], .func (.func 29) #[] #[], .func (.func 30) #[] #[], .func (.func 31) #[] #[]] 69)).cell? ⟨w.heap.size + 1, 2, none⟩ = some (.func (.func 28) #[] #[]) by simp)
  have HA := Lib.hid (h.next HW.out)
  clear hr hk hf h
  go_enter Tryd.func21, Tryd.ntmps21
  go_wp2_with fail
  generalize (w.alloc (.cells #[.int .i64 x.k, .int .i64 x.ev, .int .i64 x.wh, .int .i64 x.c0, .int .i64 x.c1, .int .i64 x.c2, .int .i64 x.c3, .bool x.tap, .slice x.ta x.tn x.tc, .slice x.ca x.cn x.cc, .int .i64 x.op, .int .i64 x.a, .int .i64 x.b] 62)).alloc (.cells #[.nilFunc, .func (.func 27) #[] #[], .func (.func 28) #[] #[], .func (.func 29) #[] #[], .func (.func 30) #[] #[], .func (.func 31) #[] #[]] 69) = W at *
  obtain ⟨q0, q1, q2, q3, q4, q5, q6, q7, q8, q9, q10, q11, q12⟩ := HX.out.cells
  rw [HK.out] at q0
  have m1 := HM.out
  go_region_with (first | (go_at_call 13; refine (within_drew [⟨2, 1, 5⟩] _ _ rfl 1 rfl (by omega) true (by decide) _).mono ?_; rintro e w1 ⟨rfl, hb⟩; have HB1 := Lib.hid hb; clear hb q0 q1 q2 q3 q4 q5 q6 q7 q8 q9 q10 q11 q12 m1; obtain ⟨q0, q1, q2, q3, q4, q5, q6, q7, q8, q9, q10, q11, q12⟩ := (HX.out.next HB1.out).cells; rw [HK.out] at q0; have m1 := (HB1.out.cell (p := ⟨w.heap.size + 1, 2, none⟩) (by have := HZ.out; show w.heap.size + 1 < W.heap.size; omega)).trans HM.out; have HA1 := Lib.hid (HA.out.next HB1.out)) | (go_at_call 28; refine (HF.out _ HA1.out).mono ?_; rintro e w2 ⟨rfl, hb⟩; have HB2 := Lib.hid (below_then' HB1.out hb HB1.out.size); clear hb))
  all_goals
    go_wp2_with fail
    go_ret
    exact ⟨rfl, HW.out.trans (HB2.out.mono HW.out.size)⟩
set_option maxRecDepth 100000 in
set_option maxHeartbeats 4000000 in
theorem isAbility_trig (x : Ab) (hk : x.k = 3) (T : List Int) (L : List Ins) (cards : Int) (r : Bool) (hr : trigB x T L cards = r) (w : World) (h : AbR w x T L) :
    Calls Tryd.prog 21 #[.agg #[.int .i64 x.k, .int .i64 x.ev, .int .i64 x.wh, .int .i64 x.c0, .int .i64 x.c1, .int .i64 x.c2, .int .i64 x.c3, .bool x.tap, .slice x.ta x.tn x.tc, .slice x.ca x.cn x.cc, .int .i64 x.op, .int .i64 x.a, .int .i64 x.b], .int .i64 cards] w fun e w' => e = .returned (.bool r) ∧ Below w.heap.size w w' := by
  have HK := Lib.hid hk
  have hf := trig_any x T L cards r hr
  rw [hk] at hf
  have HF := Lib.hid hf
  have HW := Lib.hid (show Below w.heap.size w ((w.alloc (.cells #[.int .i64 x.k, .int .i64 x.ev, .int .i64 x.wh, .int .i64 x.c0, .int .i64 x.c1, .int .i64 x.c2, .int .i64 x.c3, .bool x.tap, .slice x.ta x.tn x.tc, .slice x.ca x.cn x.cc, .int .i64 x.op, .int .i64 x.a, .int .i64 x.b] 62)).alloc (.cells #[.nilFunc, .func (.func 27) #[] #[], .func (.func 28) #[] #[], .func (.func 29) #[] #[], .func (.func 30) #[] #[], .func (.func 31) #[] #[]] 69)) from below_alloc2 w _ _)
  have HX := Lib.hid (show BoxA ((w.alloc (.cells #[.int .i64 x.k, .int .i64 x.ev, .int .i64 x.wh, .int .i64 x.c0, .int .i64 x.c1, .int .i64 x.c2, .int .i64 x.c3, .bool x.tap, .slice x.ta x.tn x.tc, .slice x.ca x.cn x.cc, .int .i64 x.op, .int .i64 x.a, .int .i64 x.b] 62)).alloc (.cells #[.nilFunc, .func (.func 27) #[] #[], .func (.func 28) #[] #[], .func (.func 29) #[] #[], .func (.func 30) #[] #[], .func (.func 31) #[] #[]] 69)) w.heap.size x from (boxA_new w x 62).next (below_alloc1 _ _))
  have HZ := Lib.hid (show w.heap.size + 1 + 1 = ((w.alloc (.cells #[.int .i64 x.k, .int .i64 x.ev, .int .i64 x.wh, .int .i64 x.c0, .int .i64 x.c1, .int .i64 x.c2, .int .i64 x.c3, .bool x.tap, .slice x.ta x.tn x.tc, .slice x.ca x.cn x.cc, .int .i64 x.op, .int .i64 x.a, .int .i64 x.b] 62)).alloc (.cells #[.nilFunc, .func (.func 27) #[] #[], .func (.func 28) #[] #[], .func (.func 29) #[] #[], .func (.func 30) #[] #[], .func (.func 31) #[] #[]] 69)).heap.size by simp)
  have HM := Lib.hid (show ((w.alloc (.cells #[.int .i64 x.k, .int .i64 x.ev, .int .i64 x.wh, .int .i64 x.c0, .int .i64 x.c1, .int .i64 x.c2, .int .i64 x.c3, .bool x.tap, .slice x.ta x.tn x.tc, .slice x.ca x.cn x.cc, .int .i64 x.op, .int .i64 x.a, .int .i64 x.b] 62)).alloc (.cells #[.nilFunc, .func (.func 27) #[] #[], .func (.func 28) #[] #[], .func (.func 29) #[] #[], .func (.func 30) #[] #[], .func (.func 31) #[] #[]] 69)).cell? ⟨w.heap.size + 1, 3, none⟩ = some (.func (.func 29) #[] #[]) by simp)
  have HA := Lib.hid (h.next HW.out)
  clear hr hk hf h
  go_enter Tryd.func21, Tryd.ntmps21
  go_wp2_with fail
  generalize (w.alloc (.cells #[.int .i64 x.k, .int .i64 x.ev, .int .i64 x.wh, .int .i64 x.c0, .int .i64 x.c1, .int .i64 x.c2, .int .i64 x.c3, .bool x.tap, .slice x.ta x.tn x.tc, .slice x.ca x.cn x.cc, .int .i64 x.op, .int .i64 x.a, .int .i64 x.b] 62)).alloc (.cells #[.nilFunc, .func (.func 27) #[] #[], .func (.func 28) #[] #[], .func (.func 29) #[] #[], .func (.func 30) #[] #[], .func (.func 31) #[] #[]] 69) = W at *
  obtain ⟨q0, q1, q2, q3, q4, q5, q6, q7, q8, q9, q10, q11, q12⟩ := HX.out.cells
  rw [HK.out] at q0
  have m1 := HM.out
  go_region_with (first | (go_at_call 13; refine (within_drew [⟨3, 1, 5⟩] _ _ rfl 1 rfl (by omega) true (by decide) _).mono ?_; rintro e w1 ⟨rfl, hb⟩; have HB1 := Lib.hid hb; clear hb q0 q1 q2 q3 q4 q5 q6 q7 q8 q9 q10 q11 q12 m1; obtain ⟨q0, q1, q2, q3, q4, q5, q6, q7, q8, q9, q10, q11, q12⟩ := (HX.out.next HB1.out).cells; rw [HK.out] at q0; have m1 := (HB1.out.cell (p := ⟨w.heap.size + 1, 3, none⟩) (by have := HZ.out; show w.heap.size + 1 < W.heap.size; omega)).trans HM.out; have HA1 := Lib.hid (HA.out.next HB1.out)) | (go_at_call 29; refine (HF.out _ HA1.out).mono ?_; rintro e w2 ⟨rfl, hb⟩; have HB2 := Lib.hid (below_then' HB1.out hb HB1.out.size); clear hb))
  all_goals
    go_wp2_with fail
    go_ret
    exact ⟨rfl, HW.out.trans (HB2.out.mono HW.out.size)⟩
set_option maxRecDepth 100000 in
set_option maxHeartbeats 4000000 in
theorem isAbility_static (x : Ab) (hk : x.k = 4) (cards : Int) (r : Bool) (hr : staticB x = r) (w : World) (h : Tabs w) :
    Calls Tryd.prog 21 #[.agg #[.int .i64 x.k, .int .i64 x.ev, .int .i64 x.wh, .int .i64 x.c0, .int .i64 x.c1, .int .i64 x.c2, .int .i64 x.c3, .bool x.tap, .slice x.ta x.tn x.tc, .slice x.ca x.cn x.cc, .int .i64 x.op, .int .i64 x.a, .int .i64 x.b], .int .i64 cards] w fun e w' => e = .returned (.bool r) ∧ Below w.heap.size w w' := by
  have HK := Lib.hid hk
  have hf := static_any x cards r hr
  rw [hk] at hf
  have HF := Lib.hid hf
  have HW := Lib.hid (show Below w.heap.size w ((w.alloc (.cells #[.int .i64 x.k, .int .i64 x.ev, .int .i64 x.wh, .int .i64 x.c0, .int .i64 x.c1, .int .i64 x.c2, .int .i64 x.c3, .bool x.tap, .slice x.ta x.tn x.tc, .slice x.ca x.cn x.cc, .int .i64 x.op, .int .i64 x.a, .int .i64 x.b] 62)).alloc (.cells #[.nilFunc, .func (.func 27) #[] #[], .func (.func 28) #[] #[], .func (.func 29) #[] #[], .func (.func 30) #[] #[], .func (.func 31) #[] #[]] 69)) from below_alloc2 w _ _)
  have HX := Lib.hid (show BoxA ((w.alloc (.cells #[.int .i64 x.k, .int .i64 x.ev, .int .i64 x.wh, .int .i64 x.c0, .int .i64 x.c1, .int .i64 x.c2, .int .i64 x.c3, .bool x.tap, .slice x.ta x.tn x.tc, .slice x.ca x.cn x.cc, .int .i64 x.op, .int .i64 x.a, .int .i64 x.b] 62)).alloc (.cells #[.nilFunc, .func (.func 27) #[] #[], .func (.func 28) #[] #[], .func (.func 29) #[] #[], .func (.func 30) #[] #[], .func (.func 31) #[] #[]] 69)) w.heap.size x from (boxA_new w x 62).next (below_alloc1 _ _))
  have HZ := Lib.hid (show w.heap.size + 1 + 1 = ((w.alloc (.cells #[.int .i64 x.k, .int .i64 x.ev, .int .i64 x.wh, .int .i64 x.c0, .int .i64 x.c1, .int .i64 x.c2, .int .i64 x.c3, .bool x.tap, .slice x.ta x.tn x.tc, .slice x.ca x.cn x.cc, .int .i64 x.op, .int .i64 x.a, .int .i64 x.b] 62)).alloc (.cells #[.nilFunc, .func (.func 27) #[] #[], .func (.func 28) #[] #[], .func (.func 29) #[] #[], .func (.func 30) #[] #[], .func (.func 31) #[] #[]] 69)).heap.size by simp)
  have HM := Lib.hid (show ((w.alloc (.cells #[.int .i64 x.k, .int .i64 x.ev, .int .i64 x.wh, .int .i64 x.c0, .int .i64 x.c1, .int .i64 x.c2, .int .i64 x.c3, .bool x.tap, .slice x.ta x.tn x.tc, .slice x.ca x.cn x.cc, .int .i64 x.op, .int .i64 x.a, .int .i64 x.b] 62)).alloc (.cells #[.nilFunc, .func (.func 27) #[] #[], .func (.func 28) #[] #[], .func (.func 29) #[] #[], .func (.func 30) #[] #[], .func (.func 31) #[] #[]] 69)).cell? ⟨w.heap.size + 1, 4, none⟩ = some (.func (.func 30) #[] #[]) by simp)
  have HA := Lib.hid (h.next HW.out)
  clear hr hk hf h
  go_enter Tryd.func21, Tryd.ntmps21
  go_wp2_with fail
  generalize (w.alloc (.cells #[.int .i64 x.k, .int .i64 x.ev, .int .i64 x.wh, .int .i64 x.c0, .int .i64 x.c1, .int .i64 x.c2, .int .i64 x.c3, .bool x.tap, .slice x.ta x.tn x.tc, .slice x.ca x.cn x.cc, .int .i64 x.op, .int .i64 x.a, .int .i64 x.b] 62)).alloc (.cells #[.nilFunc, .func (.func 27) #[] #[], .func (.func 28) #[] #[], .func (.func 29) #[] #[], .func (.func 30) #[] #[], .func (.func 31) #[] #[]] 69) = W at *
  obtain ⟨q0, q1, q2, q3, q4, q5, q6, q7, q8, q9, q10, q11, q12⟩ := HX.out.cells
  rw [HK.out] at q0
  have m1 := HM.out
  go_region_with (first | (go_at_call 13; refine (within_drew [⟨4, 1, 5⟩] _ _ rfl 1 rfl (by omega) true (by decide) _).mono ?_; rintro e w1 ⟨rfl, hb⟩; have HB1 := Lib.hid hb; clear hb q0 q1 q2 q3 q4 q5 q6 q7 q8 q9 q10 q11 q12 m1; obtain ⟨q0, q1, q2, q3, q4, q5, q6, q7, q8, q9, q10, q11, q12⟩ := (HX.out.next HB1.out).cells; rw [HK.out] at q0; have m1 := (HB1.out.cell (p := ⟨w.heap.size + 1, 4, none⟩) (by have := HZ.out; show w.heap.size + 1 < W.heap.size; omega)).trans HM.out; have HA1 := Lib.hid (HA.out.next HB1.out)) | (go_at_call 30; refine (HF.out _ HA1.out).mono ?_; rintro e w2 ⟨rfl, hb⟩; have HB2 := Lib.hid (below_then' HB1.out hb HB1.out.size); clear hb))
  all_goals
    go_wp2_with fail
    go_ret
    exact ⟨rfl, HW.out.trans (HB2.out.mono HW.out.size)⟩
set_option maxRecDepth 100000 in
set_option maxHeartbeats 4000000 in
theorem isAbility_repl (x : Ab) (hk : x.k = 5) (cards : Int) (r : Bool) (hr : replB x = r) (w : World) (h : Tabs w) :
    Calls Tryd.prog 21 #[.agg #[.int .i64 x.k, .int .i64 x.ev, .int .i64 x.wh, .int .i64 x.c0, .int .i64 x.c1, .int .i64 x.c2, .int .i64 x.c3, .bool x.tap, .slice x.ta x.tn x.tc, .slice x.ca x.cn x.cc, .int .i64 x.op, .int .i64 x.a, .int .i64 x.b], .int .i64 cards] w fun e w' => e = .returned (.bool r) ∧ Below w.heap.size w w' := by
  have HK := Lib.hid hk
  have hf := repl_any x cards r hr
  rw [hk] at hf
  have HF := Lib.hid hf
  have HW := Lib.hid (show Below w.heap.size w ((w.alloc (.cells #[.int .i64 x.k, .int .i64 x.ev, .int .i64 x.wh, .int .i64 x.c0, .int .i64 x.c1, .int .i64 x.c2, .int .i64 x.c3, .bool x.tap, .slice x.ta x.tn x.tc, .slice x.ca x.cn x.cc, .int .i64 x.op, .int .i64 x.a, .int .i64 x.b] 62)).alloc (.cells #[.nilFunc, .func (.func 27) #[] #[], .func (.func 28) #[] #[], .func (.func 29) #[] #[], .func (.func 30) #[] #[], .func (.func 31) #[] #[]] 69)) from below_alloc2 w _ _)
  have HX := Lib.hid (show BoxA ((w.alloc (.cells #[.int .i64 x.k, .int .i64 x.ev, .int .i64 x.wh, .int .i64 x.c0, .int .i64 x.c1, .int .i64 x.c2, .int .i64 x.c3, .bool x.tap, .slice x.ta x.tn x.tc, .slice x.ca x.cn x.cc, .int .i64 x.op, .int .i64 x.a, .int .i64 x.b] 62)).alloc (.cells #[.nilFunc, .func (.func 27) #[] #[], .func (.func 28) #[] #[], .func (.func 29) #[] #[], .func (.func 30) #[] #[], .func (.func 31) #[] #[]] 69)) w.heap.size x from (boxA_new w x 62).next (below_alloc1 _ _))
  have HZ := Lib.hid (show w.heap.size + 1 + 1 = ((w.alloc (.cells #[.int .i64 x.k, .int .i64 x.ev, .int .i64 x.wh, .int .i64 x.c0, .int .i64 x.c1, .int .i64 x.c2, .int .i64 x.c3, .bool x.tap, .slice x.ta x.tn x.tc, .slice x.ca x.cn x.cc, .int .i64 x.op, .int .i64 x.a, .int .i64 x.b] 62)).alloc (.cells #[.nilFunc, .func (.func 27) #[] #[], .func (.func 28) #[] #[], .func (.func 29) #[] #[], .func (.func 30) #[] #[], .func (.func 31) #[] #[]] 69)).heap.size by simp)
  have HM := Lib.hid (show ((w.alloc (.cells #[.int .i64 x.k, .int .i64 x.ev, .int .i64 x.wh, .int .i64 x.c0, .int .i64 x.c1, .int .i64 x.c2, .int .i64 x.c3, .bool x.tap, .slice x.ta x.tn x.tc, .slice x.ca x.cn x.cc, .int .i64 x.op, .int .i64 x.a, .int .i64 x.b] 62)).alloc (.cells #[.nilFunc, .func (.func 27) #[] #[], .func (.func 28) #[] #[], .func (.func 29) #[] #[], .func (.func 30) #[] #[], .func (.func 31) #[] #[]] 69)).cell? ⟨w.heap.size + 1, 5, none⟩ = some (.func (.func 31) #[] #[]) by simp)
  have HA := Lib.hid (h.next HW.out)
  clear hr hk hf h
  go_enter Tryd.func21, Tryd.ntmps21
  go_wp2_with fail
  generalize (w.alloc (.cells #[.int .i64 x.k, .int .i64 x.ev, .int .i64 x.wh, .int .i64 x.c0, .int .i64 x.c1, .int .i64 x.c2, .int .i64 x.c3, .bool x.tap, .slice x.ta x.tn x.tc, .slice x.ca x.cn x.cc, .int .i64 x.op, .int .i64 x.a, .int .i64 x.b] 62)).alloc (.cells #[.nilFunc, .func (.func 27) #[] #[], .func (.func 28) #[] #[], .func (.func 29) #[] #[], .func (.func 30) #[] #[], .func (.func 31) #[] #[]] 69) = W at *
  obtain ⟨q0, q1, q2, q3, q4, q5, q6, q7, q8, q9, q10, q11, q12⟩ := HX.out.cells
  rw [HK.out] at q0
  have m1 := HM.out
  go_region_with (first | (go_at_call 13; refine (within_drew [⟨5, 1, 5⟩] _ _ rfl 1 rfl (by omega) true (by decide) _).mono ?_; rintro e w1 ⟨rfl, hb⟩; have HB1 := Lib.hid hb; clear hb q0 q1 q2 q3 q4 q5 q6 q7 q8 q9 q10 q11 q12 m1; obtain ⟨q0, q1, q2, q3, q4, q5, q6, q7, q8, q9, q10, q11, q12⟩ := (HX.out.next HB1.out).cells; rw [HK.out] at q0; have m1 := (HB1.out.cell (p := ⟨w.heap.size + 1, 5, none⟩) (by have := HZ.out; show w.heap.size + 1 < W.heap.size; omega)).trans HM.out; have HA1 := Lib.hid (HA.out.next HB1.out)) | (go_at_call 31; refine (HF.out _ HA1.out).mono ?_; rintro e w2 ⟨rfl, hb⟩; have HB2 := Lib.hid (below_then' HB1.out hb HB1.out.size); clear hb))
  all_goals
    go_wp2_with fail
    go_ret
    exact ⟨rfl, HW.out.trans (HB2.out.mono HW.out.size)⟩
set_option maxRecDepth 100000 in
set_option maxHeartbeats 4000000 in
theorem isAbility_none (x : Ab) (hk : btw 1 5 x.k = false) (cards : Int) (w : World) :
    Calls Tryd.prog 21 #[.agg #[.int .i64 x.k, .int .i64 x.ev, .int .i64 x.wh, .int .i64 x.c0, .int .i64 x.c1, .int .i64 x.c2, .int .i64 x.c3, .bool x.tap, .slice x.ta x.tn x.tc, .slice x.ca x.cn x.cc, .int .i64 x.op, .int .i64 x.a, .int .i64 x.b], .int .i64 cards] w fun e w' => e = .returned (.bool false) ∧ Below w.heap.size w w' := by
  have HK := Lib.hid hk
  have HW := Lib.hid (show Below w.heap.size w ((w.alloc (.cells #[.int .i64 x.k, .int .i64 x.ev, .int .i64 x.wh, .int .i64 x.c0, .int .i64 x.c1, .int .i64 x.c2, .int .i64 x.c3, .bool x.tap, .slice x.ta x.tn x.tc, .slice x.ca x.cn x.cc, .int .i64 x.op, .int .i64 x.a, .int .i64 x.b] 62)).alloc (.cells #[.nilFunc, .func (.func 27) #[] #[], .func (.func 28) #[] #[], .func (.func 29) #[] #[], .func (.func 30) #[] #[], .func (.func 31) #[] #[]] 69)) from below_alloc2 w _ _)
  have HX := Lib.hid (show BoxA ((w.alloc (.cells #[.int .i64 x.k, .int .i64 x.ev, .int .i64 x.wh, .int .i64 x.c0, .int .i64 x.c1, .int .i64 x.c2, .int .i64 x.c3, .bool x.tap, .slice x.ta x.tn x.tc, .slice x.ca x.cn x.cc, .int .i64 x.op, .int .i64 x.a, .int .i64 x.b] 62)).alloc (.cells #[.nilFunc, .func (.func 27) #[] #[], .func (.func 28) #[] #[], .func (.func 29) #[] #[], .func (.func 30) #[] #[], .func (.func 31) #[] #[]] 69)) w.heap.size x from (boxA_new w x 62).next (below_alloc1 _ _))
  have HZ := Lib.hid (show w.heap.size + 1 + 1 = ((w.alloc (.cells #[.int .i64 x.k, .int .i64 x.ev, .int .i64 x.wh, .int .i64 x.c0, .int .i64 x.c1, .int .i64 x.c2, .int .i64 x.c3, .bool x.tap, .slice x.ta x.tn x.tc, .slice x.ca x.cn x.cc, .int .i64 x.op, .int .i64 x.a, .int .i64 x.b] 62)).alloc (.cells #[.nilFunc, .func (.func 27) #[] #[], .func (.func 28) #[] #[], .func (.func 29) #[] #[], .func (.func 30) #[] #[], .func (.func 31) #[] #[]] 69)).heap.size by simp)
  clear hk
  go_enter Tryd.func21, Tryd.ntmps21
  go_wp2_with fail
  generalize (w.alloc (.cells #[.int .i64 x.k, .int .i64 x.ev, .int .i64 x.wh, .int .i64 x.c0, .int .i64 x.c1, .int .i64 x.c2, .int .i64 x.c3, .bool x.tap, .slice x.ta x.tn x.tc, .slice x.ca x.cn x.cc, .int .i64 x.op, .int .i64 x.a, .int .i64 x.b] 62)).alloc (.cells #[.nilFunc, .func (.func 27) #[] #[], .func (.func 28) #[] #[], .func (.func 29) #[] #[], .func (.func 30) #[] #[], .func (.func 31) #[] #[]] 69) = W at *
  obtain ⟨q0, q1, q2, q3, q4, q5, q6, q7, q8, q9, q10, q11, q12⟩ := HX.out.cells
  clear q1 q2 q3 q4 q5 q6 q7 q8 q9 q10 q11 q12
  first
    | (go_region_with (first | (go_at_call 13; refine (within_drew [⟨x.k, 1, 5⟩] _ _ rfl 1 rfl (by omega) false ((wi_one _ _ _).trans HK.out) _).mono ?_; rintro e w1 ⟨rfl, hb⟩; have HB1 := Lib.hid hb; clear hb q0)))
    | fail
  all_goals
    go_wp2_with fail
    go_ret
    exact ⟨rfl, HW.out.trans (HB1.out.mono HW.out.size)⟩
theorem isAbility_any (x : Ab) (T : List Int) (L : List Ins) (cards : Int) (r : Bool) (hr : abilB x T L cards = r) (w : World) (h : AbR w x T L) (hT : Tabs w) :
    Calls Tryd.prog 21 #[.agg #[.int .i64 x.k, .int .i64 x.ev, .int .i64 x.wh, .int .i64 x.c0, .int .i64 x.c1, .int .i64 x.c2, .int .i64 x.c3, .bool x.tap, .slice x.ta x.tn x.tc, .slice x.ca x.cn x.cc, .int .i64 x.op, .int .i64 x.a, .int .i64 x.b], .int .i64 cards] w fun e w' => e = .returned (.bool r) ∧ Below w.heap.size w w' := by
  subst hr
  by_cases h1 : x.k = 1
  · exact isAbility_spell x h1 T L cards _ (by simp [abilB, h1]) w h
  · by_cases h2 : x.k = 2
    · exact isAbility_act x h2 T L cards _ (by simp [abilB, h2]) w h
    · by_cases h3 : x.k = 3
      · exact isAbility_trig x h3 T L cards _ (by simp [abilB, h3]) w h
      · by_cases h4 : x.k = 4
        · exact isAbility_static x h4 cards _ (by simp [abilB, h4]) w hT
        · by_cases h5 : x.k = 5
          · exact isAbility_repl x h5 cards _ (by simp [abilB, h5]) w hT
          · have e : abilB x T L cards = false := by simp [abilB, h1, h2, h3, h4, h5]
            rw [e]
            exact isAbility_none x (by simp [btw]; omega) cards w
end Go.Proofs.YtfhmadlobdklbaaDoor
