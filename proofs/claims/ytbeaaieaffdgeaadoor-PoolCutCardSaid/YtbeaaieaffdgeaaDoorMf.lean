/- Texts that belong together: CardG, CardH, CardJ, PoolA. -/
import Derived.Test.YtbeaaieaffdgeaaDoorMe
import Derived.Laws.EntriesVeiled
import Derived.Deep.RegionWith
import Derived.Deep.RegionHeld3
import Derived.Test.YtbeaaieaffdgeaaDoorMc
/- isAbility. (Written by gen5g.py.) -/
section
namespace Go.Proofs.YtbeaaieaffdgeaaDoor
open Go.RowKit
set_option linter.unusedVariables false
set_option linter.unusedSimpArgs false

theorem within_drew (L : List Ins) (cs : Array Value) (T : TypeId) (hcs : cs = (insCells L).toArray) (n : Nat) (hn : L.length = n) (hl : n ≤ 1000) (r : Bool) (hr : wi L = r) (w : World) :
    Calls Tryd.prog 49 #[.slice (some ⟨w.heap.size, 0, none⟩) n n] (w.alloc (.cells cs T)).drew fun e w' => e = .returned (.bool r) ∧ Below w.heap.size w w' :=
  (within_any _ _ L n hn r hr _ ((isC_new w L cs T hcs n hn hl).next (Below.refl _ _).drew)).mono fun e w' ⟨he, hb⟩ => ⟨he, (below_alloc1 _ _).drew.trans (hb.mono (by simp [World.drew]))⟩
/-- May it be? -/
def abilB (x : Ab) (T : List Int) (L : List Ins) (cards : Int) : Bool :=
  if x.k = 1 then spellB x T L cards else if x.k = 2 then actB x T L cards else if x.k = 3 then trigB x T L cards else if x.k = 4 then staticB x else if x.k = 5 then replB x else false
set_option maxRecDepth 100000 in
set_option maxHeartbeats 4000000 in
theorem isAbility_spell (x : Ab) (hk : x.k = 1) (T : List Int) (L : List Ins) (cards : Int) (r : Bool) (hr : spellB x T L cards = r) (w : World) (h : AbR w x T L) :
    Calls Tryd.prog 62 #[.agg #[.int .i64 x.k, .int .i64 x.ev, .int .i64 x.wh, .int .i64 x.c0, .int .i64 x.c1, .int .i64 x.c2, .int .i64 x.c3, .bool x.tap, .slice x.ta x.tn x.tc, .slice x.ca x.cn x.cc, .int .i64 x.op, .int .i64 x.a, .int .i64 x.b], .int .i64 cards] w fun e w' => e = .returned (.bool r) ∧ Below w.heap.size w w' := by
  have HK := Lib.hid hk
  have hf := spell_any x T L cards r hr
  rw [hk] at hf
  have HF := Lib.hid hf
  have HW := Lib.hid (show Below w.heap.size w ((w.alloc (.cells #[.int .i64 x.k, .int .i64 x.ev, .int .i64 x.wh, .int .i64 x.c0, .int .i64 x.c1, .int .i64 x.c2, .int .i64 x.c3, .bool x.tap, .slice x.ta x.tn x.tc, .slice x.ca x.cn x.cc, .int .i64 x.op, .int .i64 x.a, .int .i64 x.b] 114)).alloc (.cells #[.nilFunc, .func (.func 68) #[] #[], .func (.func 69) #[] #[], .func (.func 70) #[] #[], .func (.func 71) #[] #[], .func (.func 72) #[] #[]] 118)) from below_alloc2 w _ _)
  have HX := Lib.hid (show BoxA ((w.alloc (.cells #[.int .i64 x.k, .int .i64 x.ev, .int .i64 x.wh, .int .i64 x.c0, .int .i64 x.c1, .int .i64 x.c2, .int .i64 x.c3, .bool x.tap, .slice x.ta x.tn x.tc, .slice x.ca x.cn x.cc, .int .i64 x.op, .int .i64 x.a, .int .i64 x.b] 114)).alloc (.cells #[.nilFunc, .func (.func 68) #[] #[], .func (.func 69) #[] #[], .func (.func 70) #[] #[], .func (.func 71) #[] #[], .func (.func 72) #[] #[]] 118)) w.heap.size x from (boxA_new w x 114).next (below_alloc1 _ _))
  have HZ := Lib.hid (show w.heap.size + 1 + 1 = ((w.alloc (.cells #[.int .i64 x.k, .int .i64 x.ev, .int .i64 x.wh, .int .i64 x.c0, .int .i64 x.c1, .int .i64 x.c2, .int .i64 x.c3, .bool x.tap, .slice x.ta x.tn x.tc, .slice x.ca x.cn x.cc, .int .i64 x.op, .int .i64 x.a, .int .i64 x.b] 114)).alloc (.cells #[.nilFunc, .func (.func 68) #[] #[], .func (.func 69) #[] #[], .func (.func 70) #[] #[], .func (.func 71) #[] #[], .func (.func 72) #[] #[]] 118)).heap.size by simp)
  have HM := Lib.hid (show ((w.alloc (.cells #[.int .i64 x.k, .int .i64 x.ev, .int .i64 x.wh, .int .i64 x.c0, .int .i64 x.c1, .int .i64 x.c2, .int .i64 x.c3, .bool x.tap, .slice x.ta x.tn x.tc, .slice x.ca x.cn x.cc, .int .i64 x.op, .int .i64 x.a, .int .i64 x.b] 114)).alloc (.cells #[.nilFunc, .func (.func 68) #[] #[], .func (.func 69) #[] #[], .func (.func 70) #[] #[], .func (.func 71) #[] #[], .func (.func 72) #[] #[]] 118)).cell? ⟨w.heap.size + 1, 1, none⟩ = some (.func (.func 68) #[] #[]) by simp)
  have HA := Lib.hid (h.next HW.out)
  clear hr hk hf h
  go_enter Tryd.func62, Tryd.ntmps62
  go_wp2_with fail
  generalize (w.alloc (.cells #[.int .i64 x.k, .int .i64 x.ev, .int .i64 x.wh, .int .i64 x.c0, .int .i64 x.c1, .int .i64 x.c2, .int .i64 x.c3, .bool x.tap, .slice x.ta x.tn x.tc, .slice x.ca x.cn x.cc, .int .i64 x.op, .int .i64 x.a, .int .i64 x.b] 114)).alloc (.cells #[.nilFunc, .func (.func 68) #[] #[], .func (.func 69) #[] #[], .func (.func 70) #[] #[], .func (.func 71) #[] #[], .func (.func 72) #[] #[]] 118) = W at *
  obtain ⟨q0, q1, q2, q3, q4, q5, q6, q7, q8, q9, q10, q11, q12⟩ := HX.out.cells
  rw [HK.out] at q0
  have m1 := HM.out
  go_region_with (first | (go_at_call 49; refine (within_drew [⟨1, 1, 5⟩] _ _ rfl 1 rfl (by omega) true (by decide) _).mono ?_; rintro e w1 ⟨rfl, hb⟩; have HB1 := Lib.hid hb; clear hb q0 q1 q2 q3 q4 q5 q6 q7 q8 q9 q10 q11 q12 m1; obtain ⟨q0, q1, q2, q3, q4, q5, q6, q7, q8, q9, q10, q11, q12⟩ := (HX.out.next HB1.out).cells; rw [HK.out] at q0; have m1 := (HB1.out.cell (p := ⟨w.heap.size + 1, 1, none⟩) (by have := HZ.out; show w.heap.size + 1 < W.heap.size; omega)).trans HM.out; have HA1 := Lib.hid (HA.out.next HB1.out)) | (go_at_call 68; refine (HF.out _ HA1.out).mono ?_; rintro e w2 ⟨rfl, hb⟩; have HB2 := Lib.hid (below_then' HB1.out hb HB1.out.size); clear hb))
  all_goals
    go_wp2_with fail
    go_ret
    exact ⟨rfl, HW.out.trans (HB2.out.mono HW.out.size)⟩
set_option maxRecDepth 100000 in
set_option maxHeartbeats 4000000 in
theorem isAbility_act (x : Ab) (hk : x.k = 2) (T : List Int) (L : List Ins) (cards : Int) (r : Bool) (hr : actB x T L cards = r) (w : World) (h : AbR w x T L) :
    Calls Tryd.prog 62 #[.agg #[.int .i64 x.k, .int .i64 x.ev, .int .i64 x.wh, .int .i64 x.c0, .int .i64 x.c1, .int .i64 x.c2, .int .i64 x.c3, .bool x.tap, .slice x.ta x.tn x.tc, .slice x.ca x.cn x.cc, .int .i64 x.op, .int .i64 x.a, .int .i64 x.b], .int .i64 cards] w fun e w' => e = .returned (.bool r) ∧ Below w.heap.size w w' := by
  have HK := Lib.hid hk
  have hf := act_any x T L cards r hr
  rw [hk] at hf
  have HF := Lib.hid hf
  have HW := Lib.hid (show Below w.heap.size w ((w.alloc (.cells #[.int .i64 x.k, .int .i64 x.ev, .int .i64 x.wh, .int .i64 x.c0, .int .i64 x.c1, .int .i64 x.c2, .int .i64 x.c3, .bool x.tap, .slice x.ta x.tn x.tc, .slice x.ca x.cn x.cc, .int .i64 x.op, .int .i64 x.a, .int .i64 x.b] 114)).alloc (.cells #[.nilFunc, .func (.func 68) #[] #[], .func (.func 69) #[] #[], .func (.func 70) #[] #[], .func (.func 71) #[] #[], .func (.func 72) #[] #[]] 118)) from below_alloc2 w _ _)
  have HX := Lib.hid (show BoxA ((w.alloc (.cells #[.int .i64 x.k, .int .i64 x.ev, .int .i64 x.wh, .int .i64 x.c0, .int .i64 x.c1, .int .i64 x.c2, .int .i64 x.c3, .bool x.tap, .slice x.ta x.tn x.tc, .slice x.ca x.cn x.cc, .int .i64 x.op, .int .i64 x.a, .int .i64 x.b] 114)).alloc (.cells #[.nilFunc, .func (.func 68) #[] #[], .func (.func 69) #[] #[], .func (.func 70) #[] #[], .func (.func 71) #[] #[], .func (.func 72) #[] #[]] 118)) w.heap.size x from (boxA_new w x 114).next (below_alloc1 _ _))
  have HZ := Lib.hid (show w.heap.size + 1 + 1 = ((w.alloc (.cells #[.int .i64 x.k, .int .i64 x.ev, .int .i64 x.wh, .int .i64 x.c0, .int .i64 x.c1, .int .i64 x.c2, .int .i64 x.c3, .bool x.tap, .slice x.ta x.tn x.tc, .slice x.ca x.cn x.cc, .int .i64 x.op, .int .i64 x.a, .int .i64 x.b] 114)).alloc (.cells #[.nilFunc, .func (.func 68) #[] #[], .func (.func 69) #[] #[], .func (.func 70) #[] #[], .func (.func 71) #[] #[], .func (.func 72) #[] #[]] 118)).heap.size by simp)
  have HM := Lib.hid (show ((w.alloc (.cells #[.int .i64 x.k, .int .i64 x.ev, .int .i64 x.wh, .int .i64 x.c0, .int .i64 x.c1, .int .i64 x.c2, .int .i64 x.c3, .bool x.tap, .slice x.ta x.tn x.tc, .slice x.ca x.cn x.cc, .int .i64 x.op, .int .i64 x.a, .int .i64 x.b] 114)).alloc (.cells #[.nilFunc, .func (.func 68) #[] #[], .func (.func 69) #[] #[], .func (.func 70) #[] #[], .func (.func 71) #[] #[], .func (.func 72) #[] #[]] 118)).cell? ⟨w.heap.size + 1, 2, none⟩ = some (.func (.func 69) #[] #[]) by simp)
  have HA := Lib.hid (h.next HW.out)
  clear hr hk hf h
  go_enter Tryd.func62, Tryd.ntmps62
  go_wp2_with fail
  generalize (w.alloc (.cells #[.int .i64 x.k, .int .i64 x.ev, .int .i64 x.wh, .int .i64 x.c0, .int .i64 x.c1, .int .i64 x.c2, .int .i64 x.c3, .bool x.tap, .slice x.ta x.tn x.tc, .slice x.ca x.cn x.cc, .int .i64 x.op, .int .i64 x.a, .int .i64 x.b] 114)).alloc (.cells #[.nilFunc, .func (.func 68) #[] #[], .func (.func 69) #[] #[], .func (.func 70) #[] #[], .func (.func 71) #[] #[], .func (.func 72) #[] #[]] 118) = W at *
  obtain ⟨q0, q1, q2, q3, q4, q5, q6, q7, q8, q9, q10, q11, q12⟩ := HX.out.cells
  rw [HK.out] at q0
  have m1 := HM.out
  go_region_with (first | (go_at_call 49; refine (within_drew [⟨2, 1, 5⟩] _ _ rfl 1 rfl (by omega) true (by decide) _).mono ?_; rintro e w1 ⟨rfl, hb⟩; have HB1 := Lib.hid hb; clear hb q0 q1 q2 q3 q4 q5 q6 q7 q8 q9 q10 q11 q12 m1; obtain ⟨q0, q1, q2, q3, q4, q5, q6, q7, q8, q9, q10, q11, q12⟩ := (HX.out.next HB1.out).cells; rw [HK.out] at q0; have m1 := (HB1.out.cell (p := ⟨w.heap.size + 1, 2, none⟩) (by have := HZ.out; show w.heap.size + 1 < W.heap.size; omega)).trans HM.out; have HA1 := Lib.hid (HA.out.next HB1.out)) | (go_at_call 69; refine (HF.out _ HA1.out).mono ?_; rintro e w2 ⟨rfl, hb⟩; have HB2 := Lib.hid (below_then' HB1.out hb HB1.out.size); clear hb))
  all_goals
    go_wp2_with fail
    go_ret
    exact ⟨rfl, HW.out.trans (HB2.out.mono HW.out.size)⟩
set_option maxRecDepth 100000 in
set_option maxHeartbeats 4000000 in
theorem isAbility_trig (x : Ab) (hk : x.k = 3) (T : List Int) (L : List Ins) (cards : Int) (r : Bool) (hr : trigB x T L cards = r) (w : World) (h : AbR w x T L) :
    Calls Tryd.prog 62 #[.agg #[.int .i64 x.k, .int .i64 x.ev, .int .i64 x.wh, .int .i64 x.c0, .int .i64 x.c1, .int .i64 x.c2, .int .i64 x.c3, .bool x.tap, .slice x.ta x.tn x.tc, .slice x.ca x.cn x.cc, .int .i64 x.op, .int .i64 x.a, .int .i64 x.b], .int .i64 cards] w fun e w' => e = .returned (.bool r) ∧ Below w.heap.size w w' := by
  have HK := Lib.hid hk
  have hf := trig_any x T L cards r hr
  rw [hk] at hf
  have HF := Lib.hid hf
  have HW := Lib.hid (show Below w.heap.size w ((w.alloc (.cells #[.int .i64 x.k, .int .i64 x.ev, .int .i64 x.wh, .int .i64 x.c0, .int .i64 x.c1, .int .i64 x.c2, .int .i64 x.c3, .bool x.tap, .slice x.ta x.tn x.tc, .slice x.ca x.cn x.cc, .int .i64 x.op, .int .i64 x.a, .int .i64 x.b] 114)).alloc (.cells #[.nilFunc, .func (.func 68) #[] #[], .func (.func 69) #[] #[], .func (.func 70) #[] #[], .func (.func 71) #[] #[], .func (.func 72) #[] #[]] 118)) from below_alloc2 w _ _)
  have HX := Lib.hid (show BoxA ((w.alloc (.cells #[.int .i64 x.k, .int .i64 x.ev, .int .i64 x.wh, .int .i64 x.c0, .int .i64 x.c1, .int .i64 x.c2, .int .i64 x.c3, .bool x.tap, .slice x.ta x.tn x.tc, .slice x.ca x.cn x.cc, .int .i64 x.op, .int .i64 x.a, .int .i64 x.b] 114)).alloc (.cells #[.nilFunc, .func (.func 68) #[] #[], .func (.func 69) #[] #[], .func (.func 70) #[] #[], .func (.func 71) #[] #[], .func (.func 72) #[] #[]] 118)) w.heap.size x from (boxA_new w x 114).next (below_alloc1 _ _))
  have HZ := Lib.hid (show w.heap.size + 1 + 1 = ((w.alloc (.cells #[.int .i64 x.k, .int .i64 x.ev, .int .i64 x.wh, .int .i64 x.c0, .int .i64 x.c1, .int .i64 x.c2, .int .i64 x.c3, .bool x.tap, .slice x.ta x.tn x.tc, .slice x.ca x.cn x.cc, .int .i64 x.op, .int .i64 x.a, .int .i64 x.b] 114)).alloc (.cells #[.nilFunc, .func (.func 68) #[] #[], .func (.func 69) #[] #[], .func (.func 70) #[] #[], .func (.func 71) #[] #[], .func (.func 72) #[] #[]] 118)).heap.size by simp)
  have HM := Lib.hid (show ((w.alloc (.cells #[.int .i64 x.k, .int .i64 x.ev, .int .i64 x.wh, .int .i64 x.c0, .int .i64 x.c1, .int .i64 x.c2, .int .i64 x.c3, .bool x.tap, .slice x.ta x.tn x.tc, .slice x.ca x.cn x.cc, .int .i64 x.op, .int .i64 x.a, .int .i64 x.b] 114)).alloc (.cells #[.nilFunc, .func (.func 68) #[] #[], .func (.func 69) #[] #[], .func (.func 70) #[] #[], .func (.func 71) #[] #[], .func (.func 72) #[] #[]] 118)).cell? ⟨w.heap.size + 1, 3, none⟩ = some (.func (.func 70) #[] #[]) by simp)
  have HA := Lib.hid (h.next HW.out)
  clear hr hk hf h
  go_enter Tryd.func62, Tryd.ntmps62
  go_wp2_with fail
  generalize (w.alloc (.cells #[.int .i64 x.k, .int .i64 x.ev, .int .i64 x.wh, .int .i64 x.c0, .int .i64 x.c1, .int .i64 x.c2, .int .i64 x.c3, .bool x.tap, .slice x.ta x.tn x.tc, .slice x.ca x.cn x.cc, .int .i64 x.op, .int .i64 x.a, .int .i64 x.b] 114)).alloc (.cells #[.nilFunc, .func (.func 68) #[] #[], .func (.func 69) #[] #[], .func (.func 70) #[] #[], .func (.func 71) #[] #[], .func (.func 72) #[] #[]] 118) = W at *
  obtain ⟨q0, q1, q2, q3, q4, q5, q6, q7, q8, q9, q10, q11, q12⟩ := HX.out.cells
  rw [HK.out] at q0
  have m1 := HM.out
  go_region_with (first | (go_at_call 49; refine (within_drew [⟨3, 1, 5⟩] _ _ rfl 1 rfl (by omega) true (by decide) _).mono ?_; rintro e w1 ⟨rfl, hb⟩; have HB1 := Lib.hid hb; clear hb q0 q1 q2 q3 q4 q5 q6 q7 q8 q9 q10 q11 q12 m1; obtain ⟨q0, q1, q2, q3, q4, q5, q6, q7, q8, q9, q10, q11, q12⟩ := (HX.out.next HB1.out).cells; rw [HK.out] at q0; have m1 := (HB1.out.cell (p := ⟨w.heap.size + 1, 3, none⟩) (by have := HZ.out; show w.heap.size + 1 < W.heap.size; omega)).trans HM.out; have HA1 := Lib.hid (HA.out.next HB1.out)) | (go_at_call 70; refine (HF.out _ HA1.out).mono ?_; rintro e w2 ⟨rfl, hb⟩; have HB2 := Lib.hid (below_then' HB1.out hb HB1.out.size); clear hb))
  all_goals
    go_wp2_with fail
    go_ret
    exact ⟨rfl, HW.out.trans (HB2.out.mono HW.out.size)⟩
set_option maxRecDepth 100000 in
set_option maxHeartbeats 4000000 in
theorem isAbility_static (x : Ab) (hk : x.k = 4) (cards : Int) (r : Bool) (hr : staticB x = r) (w : World) (h : Tabs w) :
    Calls Tryd.prog 62 #[.agg #[.int .i64 x.k, .int .i64 x.ev, .int .i64 x.wh, .int .i64 x.c0, .int .i64 x.c1, .int .i64 x.c2, .int .i64 x.c3, .bool x.tap, .slice x.ta x.tn x.tc, .slice x.ca x.cn x.cc, .int .i64 x.op, .int .i64 x.a, .int .i64 x.b], .int .i64 cards] w fun e w' => e = .returned (.bool r) ∧ Below w.heap.size w w' := by
  have HK := Lib.hid hk
  have hf := static_any x cards r hr
  rw [hk] at hf
  have HF := Lib.hid hf
  have HW := Lib.hid (show Below w.heap.size w ((w.alloc (.cells #[.int .i64 x.k, .int .i64 x.ev, .int .i64 x.wh, .int .i64 x.c0, .int .i64 x.c1, .int .i64 x.c2, .int .i64 x.c3, .bool x.tap, .slice x.ta x.tn x.tc, .slice x.ca x.cn x.cc, .int .i64 x.op, .int .i64 x.a, .int .i64 x.b] 114)).alloc (.cells #[.nilFunc, .func (.func 68) #[] #[], .func (.func 69) #[] #[], .func (.func 70) #[] #[], .func (.func 71) #[] #[], .func (.func 72) #[] #[]] 118)) from below_alloc2 w _ _)
  have HX := Lib.hid (show BoxA ((w.alloc (.cells #[.int .i64 x.k, .int .i64 x.ev, .int .i64 x.wh, .int .i64 x.c0, .int .i64 x.c1, .int .i64 x.c2, .int .i64 x.c3, .bool x.tap, .slice x.ta x.tn x.tc, .slice x.ca x.cn x.cc, .int .i64 x.op, .int .i64 x.a, .int .i64 x.b] 114)).alloc (.cells #[.nilFunc, .func (.func 68) #[] #[], .func (.func 69) #[] #[], .func (.func 70) #[] #[], .func (.func 71) #[] #[], .func (.func 72) #[] #[]] 118)) w.heap.size x from (boxA_new w x 114).next (below_alloc1 _ _))
  have HZ := Lib.hid (show w.heap.size + 1 + 1 = ((w.alloc (.cells #[.int .i64 x.k, .int .i64 x.ev, .int .i64 x.wh, .int .i64 x.c0, .int .i64 x.c1, .int .i64 x.c2, .int .i64 x.c3, .bool x.tap, .slice x.ta x.tn x.tc, .slice x.ca x.cn x.cc, .int .i64 x.op, .int .i64 x.a, .int .i64 x.b] 114)).alloc (.cells #[.nilFunc, .func (.func 68) #[] #[], .func (.func 69) #[] #[], .func (.func 70) #[] #[], .func (.func 71) #[] #[], .func (.func 72) #[] #[]] 118)).heap.size by simp)
  have HM := Lib.hid (show ((w.alloc (.cells #[.int .i64 x.k, .int .i64 x.ev, .int .i64 x.wh, .int .i64 x.c0, .int .i64 x.c1, .int .i64 x.c2, .int .i64 x.c3, .bool x.tap, .slice x.ta x.tn x.tc, .slice x.ca x.cn x.cc, .int .i64 x.op, .int .i64 x.a, .int .i64 x.b] 114)).alloc (.cells #[.nilFunc, .func (.func 68) #[] #[], .func (.func 69) #[] #[], .func (.func 70) #[] #[], .func (.func 71) #[] #[], .func (.func 72) #[] #[]] 118)).cell? ⟨w.heap.size + 1, 4, none⟩ = some (.func (.func 71) #[] #[]) by simp)
  have HA := Lib.hid (h.next HW.out)
  clear hr hk hf h
  go_enter Tryd.func62, Tryd.ntmps62
  go_wp2_with fail
  generalize (w.alloc (.cells #[.int .i64 x.k, .int .i64 x.ev, .int .i64 x.wh, .int .i64 x.c0, .int .i64 x.c1, .int .i64 x.c2, .int .i64 x.c3, .bool x.tap, .slice x.ta x.tn x.tc, .slice x.ca x.cn x.cc, .int .i64 x.op, .int .i64 x.a, .int .i64 x.b] 114)).alloc (.cells #[.nilFunc, .func (.func 68) #[] #[], .func (.func 69) #[] #[], .func (.func 70) #[] #[], .func (.func 71) #[] #[], .func (.func 72) #[] #[]] 118) = W at *
  obtain ⟨q0, q1, q2, q3, q4, q5, q6, q7, q8, q9, q10, q11, q12⟩ := HX.out.cells
  rw [HK.out] at q0
  have m1 := HM.out
  go_region_with (first | (go_at_call 49; refine (within_drew [⟨4, 1, 5⟩] _ _ rfl 1 rfl (by omega) true (by decide) _).mono ?_; rintro e w1 ⟨rfl, hb⟩; have HB1 := Lib.hid hb; clear hb q0 q1 q2 q3 q4 q5 q6 q7 q8 q9 q10 q11 q12 m1; obtain ⟨q0, q1, q2, q3, q4, q5, q6, q7, q8, q9, q10, q11, q12⟩ := (HX.out.next HB1.out).cells; rw [HK.out] at q0; have m1 := (HB1.out.cell (p := ⟨w.heap.size + 1, 4, none⟩) (by have := HZ.out; show w.heap.size + 1 < W.heap.size; omega)).trans HM.out; have HA1 := Lib.hid (HA.out.next HB1.out)) | (go_at_call 71; refine (HF.out _ HA1.out).mono ?_; rintro e w2 ⟨rfl, hb⟩; have HB2 := Lib.hid (below_then' HB1.out hb HB1.out.size); clear hb))
  all_goals
    go_wp2_with fail
    go_ret
    exact ⟨rfl, HW.out.trans (HB2.out.mono HW.out.size)⟩
set_option maxRecDepth 100000 in
set_option maxHeartbeats 4000000 in
theorem isAbility_repl (x : Ab) (hk : x.k = 5) (cards : Int) (r : Bool) (hr : replB x = r) (w : World) (h : Tabs w) :
    Calls Tryd.prog 62 #[.agg #[.int .i64 x.k, .int .i64 x.ev, .int .i64 x.wh, .int .i64 x.c0, .int .i64 x.c1, .int .i64 x.c2, .int .i64 x.c3, .bool x.tap, .slice x.ta x.tn x.tc, .slice x.ca x.cn x.cc, .int .i64 x.op, .int .i64 x.a, .int .i64 x.b], .int .i64 cards] w fun e w' => e = .returned (.bool r) ∧ Below w.heap.size w w' := by
  have HK := Lib.hid hk
  have hf := repl_any x cards r hr
  rw [hk] at hf
  have HF := Lib.hid hf
  have HW := Lib.hid (show Below w.heap.size w ((w.alloc (.cells #[.int .i64 x.k, .int .i64 x.ev, .int .i64 x.wh, .int .i64 x.c0, .int .i64 x.c1, .int .i64 x.c2, .int .i64 x.c3, .bool x.tap, .slice x.ta x.tn x.tc, .slice x.ca x.cn x.cc, .int .i64 x.op, .int .i64 x.a, .int .i64 x.b] 114)).alloc (.cells #[.nilFunc, .func (.func 68) #[] #[], .func (.func 69) #[] #[], .func (.func 70) #[] #[], .func (.func 71) #[] #[], .func (.func 72) #[] #[]] 118)) from below_alloc2 w _ _)
  have HX := Lib.hid (show BoxA ((w.alloc (.cells #[.int .i64 x.k, .int .i64 x.ev, .int .i64 x.wh, .int .i64 x.c0, .int .i64 x.c1, .int .i64 x.c2, .int .i64 x.c3, .bool x.tap, .slice x.ta x.tn x.tc, .slice x.ca x.cn x.cc, .int .i64 x.op, .int .i64 x.a, .int .i64 x.b] 114)).alloc (.cells #[.nilFunc, .func (.func 68) #[] #[], .func (.func 69) #[] #[], .func (.func 70) #[] #[], .func (.func 71) #[] #[], .func (.func 72) #[] #[]] 118)) w.heap.size x from (boxA_new w x 114).next (below_alloc1 _ _))
  have HZ := Lib.hid (show w.heap.size + 1 + 1 = ((w.alloc (.cells #[.int .i64 x.k, .int .i64 x.ev, .int .i64 x.wh, .int .i64 x.c0, .int .i64 x.c1, .int .i64 x.c2, .int .i64 x.c3, .bool x.tap, .slice x.ta x.tn x.tc, .slice x.ca x.cn x.cc, .int .i64 x.op, .int .i64 x.a, .int .i64 x.b] 114)).alloc (.cells #[.nilFunc, .func (.func 68) #[] #[], .func (.func 69) #[] #[], .func (.func 70) #[] #[], .func (.func 71) #[] #[], .func (.func 72) #[] #[]] 118)).heap.size by simp)
  have HM := Lib.hid (show ((w.alloc (.cells #[.int .i64 x.k, .int .i64 x.ev, .int .i64 x.wh, .int .i64 x.c0, .int .i64 x.c1, .int .i64 x.c2, .int .i64 x.c3, .bool x.tap, .slice x.ta x.tn x.tc, .slice x.ca x.cn x.cc, .int .i64 x.op, .int .i64 x.a, .int .i64 x.b] 114)).alloc (.cells #[.nilFunc, .func (.func 68) #[] #[], .func (.func 69) #[] #[], .func (.func 70) #[] #[], .func (.func 71) #[] #[], .func (.func 72) #[] #[]] 118)).cell? ⟨w.heap.size + 1, 5, none⟩ = some (.func (.func 72) #[] #[]) by simp)
  have HA := Lib.hid (h.next HW.out)
  clear hr hk hf h
  go_enter Tryd.func62, Tryd.ntmps62
  go_wp2_with fail
  generalize (w.alloc (.cells #[.int .i64 x.k, .int .i64 x.ev, .int .i64 x.wh, .int .i64 x.c0, .int .i64 x.c1, .int .i64 x.c2, .int .i64 x.c3, .bool x.tap, .slice x.ta x.tn x.tc, .slice x.ca x.cn x.cc, .int .i64 x.op, .int .i64 x.a, .int .i64 x.b] 114)).alloc (.cells #[.nilFunc, .func (.func 68) #[] #[], .func (.func 69) #[] #[], .func (.func 70) #[] #[], .func (.func 71) #[] #[], .func (.func 72) #[] #[]] 118) = W at *
  obtain ⟨q0, q1, q2, q3, q4, q5, q6, q7, q8, q9, q10, q11, q12⟩ := HX.out.cells
  rw [HK.out] at q0
  have m1 := HM.out
  go_region_with (first | (go_at_call 49; refine (within_drew [⟨5, 1, 5⟩] _ _ rfl 1 rfl (by omega) true (by decide) _).mono ?_; rintro e w1 ⟨rfl, hb⟩; have HB1 := Lib.hid hb; clear hb q0 q1 q2 q3 q4 q5 q6 q7 q8 q9 q10 q11 q12 m1; obtain ⟨q0, q1, q2, q3, q4, q5, q6, q7, q8, q9, q10, q11, q12⟩ := (HX.out.next HB1.out).cells; rw [HK.out] at q0; have m1 := (HB1.out.cell (p := ⟨w.heap.size + 1, 5, none⟩) (by have := HZ.out; show w.heap.size + 1 < W.heap.size; omega)).trans HM.out; have HA1 := Lib.hid (HA.out.next HB1.out)) | (go_at_call 72; refine (HF.out _ HA1.out).mono ?_; rintro e w2 ⟨rfl, hb⟩; have HB2 := Lib.hid (below_then' HB1.out hb HB1.out.size); clear hb))
  all_goals
    go_wp2_with fail
    go_ret
    exact ⟨rfl, HW.out.trans (HB2.out.mono HW.out.size)⟩
set_option maxRecDepth 100000 in
set_option maxHeartbeats 4000000 in
theorem isAbility_none (x : Ab) (hk : btw 1 5 x.k = false) (cards : Int) (w : World) :
    Calls Tryd.prog 62 #[.agg #[.int .i64 x.k, .int .i64 x.ev, .int .i64 x.wh, .int .i64 x.c0, .int .i64 x.c1, .int .i64 x.c2, .int .i64 x.c3, .bool x.tap, .slice x.ta x.tn x.tc, .slice x.ca x.cn x.cc, .int .i64 x.op, .int .i64 x.a, .int .i64 x.b], .int .i64 cards] w fun e w' => e = .returned (.bool false) ∧ Below w.heap.size w w' := by
  have HK := Lib.hid hk
  have HW := Lib.hid (show Below w.heap.size w ((w.alloc (.cells #[.int .i64 x.k, .int .i64 x.ev, .int .i64 x.wh, .int .i64 x.c0, .int .i64 x.c1, .int .i64 x.c2, .int .i64 x.c3, .bool x.tap, .slice x.ta x.tn x.tc, .slice x.ca x.cn x.cc, .int .i64 x.op, .int .i64 x.a, .int .i64 x.b] 114)).alloc (.cells #[.nilFunc, .func (.func 68) #[] #[], .func (.func 69) #[] #[], .func (.func 70) #[] #[], .func (.func 71) #[] #[], .func (.func 72) #[] #[]] 118)) from below_alloc2 w _ _)
  have HX := Lib.hid (show BoxA ((w.alloc (.cells #[.int .i64 x.k, .int .i64 x.ev, .int .i64 x.wh, .int .i64 x.c0, .int .i64 x.c1, .int .i64 x.c2, .int .i64 x.c3, .bool x.tap, .slice x.ta x.tn x.tc, .slice x.ca x.cn x.cc, .int .i64 x.op, .int .i64 x.a, .int .i64 x.b] 114)).alloc (.cells #[.nilFunc, .func (.func 68) #[] #[], .func (.func 69) #[] #[], .func (.func 70) #[] #[], .func (.func 71) #[] #[], .func (.func 72) #[] #[]] 118)) w.heap.size x from (boxA_new w x 114).next (below_alloc1 _ _))
  have HZ := Lib.hid (show w.heap.size + 1 + 1 = ((w.alloc (.cells #[.int .i64 x.k, .int .i64 x.ev, .int .i64 x.wh, .int .i64 x.c0, .int .i64 x.c1, .int .i64 x.c2, .int .i64 x.c3, .bool x.tap, .slice x.ta x.tn x.tc, .slice x.ca x.cn x.cc, .int .i64 x.op, .int .i64 x.a, .int .i64 x.b] 114)).alloc (.cells #[.nilFunc, .func (.func 68) #[] #[], .func (.func 69) #[] #[], .func (.func 70) #[] #[], .func (.func 71) #[] #[], .func (.func 72) #[] #[]] 118)).heap.size by simp)
  clear hk
  go_enter Tryd.func62, Tryd.ntmps62
  go_wp2_with fail
  generalize (w.alloc (.cells #[.int .i64 x.k, .int .i64 x.ev, .int .i64 x.wh, .int .i64 x.c0, .int .i64 x.c1, .int .i64 x.c2, .int .i64 x.c3, .bool x.tap, .slice x.ta x.tn x.tc, .slice x.ca x.cn x.cc, .int .i64 x.op, .int .i64 x.a, .int .i64 x.b] 114)).alloc (.cells #[.nilFunc, .func (.func 68) #[] #[], .func (.func 69) #[] #[], .func (.func 70) #[] #[], .func (.func 71) #[] #[], .func (.func 72) #[] #[]] 118) = W at *
  obtain ⟨q0, q1, q2, q3, q4, q5, q6, q7, q8, q9, q10, q11, q12⟩ := HX.out.cells
  clear q1 q2 q3 q4 q5 q6 q7 q8 q9 q10 q11 q12
  first
    | (go_region_with (first | (go_at_call 49; refine (within_drew [⟨x.k, 1, 5⟩] _ _ rfl 1 rfl (by omega) false ((wi_one _ _ _).trans HK.out) _).mono ?_; rintro e w1 ⟨rfl, hb⟩; have HB1 := Lib.hid hb; clear hb q0)))
    | fail
  all_goals
    go_wp2_with fail
    go_ret
    exact ⟨rfl, HW.out.trans (HB1.out.mono HW.out.size)⟩
theorem isAbility_any (x : Ab) (T : List Int) (L : List Ins) (cards : Int) (r : Bool) (hr : abilB x T L cards = r) (w : World) (h : AbR w x T L) (hT : Tabs w) :
    Calls Tryd.prog 62 #[.agg #[.int .i64 x.k, .int .i64 x.ev, .int .i64 x.wh, .int .i64 x.c0, .int .i64 x.c1, .int .i64 x.c2, .int .i64 x.c3, .bool x.tap, .slice x.ta x.tn x.tc, .slice x.ca x.cn x.cc, .int .i64 x.op, .int .i64 x.a, .int .i64 x.b], .int .i64 cards] w fun e w' => e = .returned (.bool r) ∧ Below w.heap.size w w' := by
  subst hr
  by_cases h1 : x.k = 1
  · exact isAbility_spell x h1 T L cards _ (by simp [abilB, h1]) w h
  · by_cases h2 : x.k = 2
    · exact isAbility_act x h2 T L cards _ (by simp [abilB, h2]) w h
    · by_cases h3 : x.k = 3
      · exact isAbility_trig x h3 T L cards _ (by simp [abilB, h3]) w h
      · by_cases h4 : x.k = 4
        · exact isAbility_static x h4 cards _ (by simp [abilB, h4]) w hT
        · by_cases h5 : x.k = 5
          · exact isAbility_repl x h5 cards _ (by simp [abilB, h5]) w hT
          · have e : abilB x T L cards = false := by simp [abilB, h1, h2, h3, h4, h5]
            rw [e]
            exact isAbility_none x (by simp [btw]; omega) cards w
end Go.Proofs.YtbeaaieaffdgeaaDoor
end
/- Cards, as their cells and what they read; isLong. -/
section
namespace Go.Proofs.YtbeaaieaffdgeaaDoor
open Go.RowKit
set_option linter.unusedVariables false
set_option linter.unusedSimpArgs false

/-- A card's cells. -/
structure Cd where
  nm : ByteArray
  k : Int
  c0 : Int
  c1 : Int
  c2 : Int
  c3 : Int
  col : Int
  pow : Int
  tou : Int
  keys : Int
  aa : Option Addr
  an : Nat
  ac : Nat
def cdCells (y : Cd) : List Value := [.string y.nm, .int .i64 y.k, .int .i64 y.c0, .int .i64 y.c1, .int .i64 y.c2, .int .i64 y.c3, .int .i64 y.col, .int .i64 y.pow, .int .i64 y.tou, .int .i64 y.keys, .slice y.aa y.an y.ac]
/-- An ability, and what its Targets and Code read as. -/
abbrev AbT := Ab × List Int × List Ins
/-- The slice of address a and capacity c reads as these abilities. -/
def IsA (w : World) (a : Option Addr) (c : Nat) (A : List AbT) : Prop :=
  A.length ≤ c ∧ c ≤ 9223372036854775807 ∧ (∀ t ∈ A, AbR w t.1 t.2.1 t.2.2) ∧
  (A.length = 0 ∨ ∃ b off, a = some ⟨b, off, none⟩ ∧ b < w.heap.size ∧ ∀ j (h : j < A.length) i, i < 13 → w.cell? ⟨b, off + j * 13 + i, none⟩ = (abCells A[j].1)[i]?)
theorem IsA.next {w w' : World} {a : Option Addr} {c : Nat} {A : List AbT} (h : IsA w a c A) (k : Below w.heap.size w w') : IsA w' a c A := by
  obtain ⟨h1, h2, h0, h3⟩ := h
  refine ⟨h1, h2, fun t ht => (h0 t ht).next k, ?_⟩
  rcases h3 with h3 | ⟨b, off, h3, h4, h5⟩
  · exact .inl h3
  · exact .inr ⟨b, off, h3, Nat.lt_of_lt_of_le h4 k.size, fun j hj i hi => (k.cell (p := ⟨b, off + j * 13 + i, none⟩) h4).trans (h5 j hj i hi)⟩
theorem IsA.nil (w : World) : IsA w none 0 [] := ⟨by simp, by omega, (fun t ht => by cases ht), .inl rfl⟩
theorem IsA.at {w : World} {a : Option Addr} {c : Nat} {A : List AbT} (h : IsA w a c A) (k : Nat) (hk : k < A.length) : ∃ b off x T L, (x, T, L) = A[k] ∧ AbR w x T L ∧ a = some ⟨b, off, none⟩ ∧ b < w.heap.size ∧
    (w.cell? ⟨b, off + k * 13, none⟩ = some (.int .i64 x.k) ∧ w.cell? ⟨b, off + k * 13 + 1, none⟩ = some (.int .i64 x.ev) ∧ w.cell? ⟨b, off + k * 13 + 2, none⟩ = some (.int .i64 x.wh) ∧
    w.cell? ⟨b, off + k * 13 + 3, none⟩ = some (.int .i64 x.c0) ∧ w.cell? ⟨b, off + k * 13 + 4, none⟩ = some (.int .i64 x.c1) ∧ w.cell? ⟨b, off + k * 13 + 5, none⟩ = some (.int .i64 x.c2) ∧ w.cell? ⟨b, off + k * 13 + 6, none⟩ = some (.int .i64 x.c3) ∧
    w.cell? ⟨b, off + k * 13 + 7, none⟩ = some (.bool x.tap) ∧ w.cell? ⟨b, off + k * 13 + 8, none⟩ = some (.slice x.ta x.tn x.tc) ∧ w.cell? ⟨b, off + k * 13 + 9, none⟩ = some (.slice x.ca x.cn x.cc) ∧
    w.cell? ⟨b, off + k * 13 + 10, none⟩ = some (.int .i64 x.op) ∧ w.cell? ⟨b, off + k * 13 + 11, none⟩ = some (.int .i64 x.a) ∧ w.cell? ⟨b, off + k * 13 + 12, none⟩ = some (.int .i64 x.b)) := by
  obtain ⟨h1, h2, h0, h3 | ⟨b, off, h3, h4, h5⟩⟩ := h
  · omega
  · have h6 := h5 k hk
    exact ⟨b, off, A[k].1, A[k].2.1, A[k].2.2, rfl, h0 _ (List.getElem_mem hk), h3, h4, h6 0 (by omega), h6 1 (by omega), h6 2 (by omega), h6 3 (by omega), h6 4 (by omega), h6 5 (by omega), h6 6 (by omega), h6 7 (by omega), h6 8 (by omega), h6 9 (by omega), h6 10 (by omega), h6 11 (by omega), h6 12 (by omega)⟩
/-- What a card reads as. -/
def CdR (w : World) (y : Cd) (A : List AbT) : Prop := A.length = y.an ∧ IsA w y.aa y.ac A
theorem CdR.next {w w' : World} {y : Cd} {A : List AbT} (h : CdR w y A) (k : Below w.heap.size w w') : CdR w' y A := ⟨h.1, h.2.next k⟩
/-- Block b is this card. -/
def BoxC (w : World) (b : Nat) (y : Cd) : Prop := b < w.heap.size ∧ ∀ i, i < 11 → w.cell? ⟨b, i, none⟩ = (cdCells y)[i]?
theorem BoxC.next {w w' : World} {b : Nat} {y : Cd} (h : BoxC w b y) (k : Below w.heap.size w w') : BoxC w' b y :=
  ⟨Nat.lt_of_lt_of_le h.1 k.size, fun i hi => (k.cell (p := ⟨b, i, none⟩) h.1).trans (h.2 i hi)⟩
theorem boxC_new (w : World) (y : Cd) (T : TypeId) : BoxC (w.alloc (.cells #[.string y.nm, .int .i64 y.k, .int .i64 y.c0, .int .i64 y.c1, .int .i64 y.c2, .int .i64 y.c3, .int .i64 y.col, .int .i64 y.pow, .int .i64 y.tou, .int .i64 y.keys, .slice y.aa y.an y.ac] T)) w.heap.size y :=
  ⟨by simp, fun i hi => by rw [World.cell?_alloc_new]; simp [cdCells]⟩
theorem BoxC.cells {w : World} {b : Nat} {y : Cd} (h : BoxC w b y) : w.cell? ⟨b, 0, none⟩ = some (.string y.nm) ∧ w.cell? ⟨b, 1, none⟩ = some (.int .i64 y.k) ∧
    w.cell? ⟨b, 2, none⟩ = some (.int .i64 y.c0) ∧ w.cell? ⟨b, 3, none⟩ = some (.int .i64 y.c1) ∧ w.cell? ⟨b, 4, none⟩ = some (.int .i64 y.c2) ∧ w.cell? ⟨b, 5, none⟩ = some (.int .i64 y.c3) ∧
    w.cell? ⟨b, 6, none⟩ = some (.int .i64 y.col) ∧ w.cell? ⟨b, 7, none⟩ = some (.int .i64 y.pow) ∧ w.cell? ⟨b, 8, none⟩ = some (.int .i64 y.tou) ∧ w.cell? ⟨b, 9, none⟩ = some (.int .i64 y.keys) ∧ w.cell? ⟨b, 10, none⟩ = some (.slice y.aa y.an y.ac) :=
  ⟨h.2 0 (by omega), h.2 1 (by omega), h.2 2 (by omega), h.2 3 (by omega), h.2 4 (by omega), h.2 5 (by omega), h.2 6 (by omega), h.2 7 (by omega), h.2 8 (by omega), h.2 9 (by omega), h.2 10 (by omega)⟩
/-- Is something of an ability above a limit? -/
def longA (t : AbT) : Bool := decide (2 < t.1.tn) || decide (32 < t.1.cn)
/-- Is something of the card? -/
def longB (y : Cd) (A : List AbT) : Bool := A.any longA || (decide (16 < y.nm.size) || decide (4 < y.an))
set_option maxRecDepth 100000 in
set_option maxHeartbeats 4000000 in
theorem isLong_any (y : Cd) (A : List AbT) (r : Bool) (hr : longB y A = r) (w : World) (h : CdR w y A) (hs : y.nm.size ≤ maxLen) :
    Calls Tryd.prog 50 #[.agg #[.string y.nm, .int .i64 y.k, .int .i64 y.c0, .int .i64 y.c1, .int .i64 y.c2, .int .i64 y.c3, .int .i64 y.col, .int .i64 y.pow, .int .i64 y.tou, .int .i64 y.keys, .slice y.aa y.an y.ac]] w fun e w' => e = .returned (.bool r) ∧ Below w.heap.size w w' := by
  unfold maxLen at hs
  have HR := Lib.hid hr
  have hb := below_alloc1 w (.cells #[.string y.nm, .int .i64 y.k, .int .i64 y.c0, .int .i64 y.c1, .int .i64 y.c2, .int .i64 y.c3, .int .i64 y.col, .int .i64 y.pow, .int .i64 y.tou, .int .i64 y.keys, .slice y.aa y.an y.ac] 39)
  have HL := Lib.hid (h.next hb)
  have HX := Lib.hid (boxC_new w y 39)
  have hcap := h.2.1
  have hcm := h.2.2.1
  rw [h.1] at hcap
  have HB := Lib.hid hb
  have HN := Lib.hid h.1
  clear hr h hb
  go_enter Tryd.func50, Tryd.ntmps50
  go_wp2_with fail
  generalize w.alloc (.cells #[.string y.nm, .int .i64 y.k, .int .i64 y.c0, .int .i64 y.c1, .int .i64 y.c2, .int .i64 y.c3, .int .i64 y.col, .int .i64 y.pow, .int .i64 y.tou, .int .i64 y.keys, .slice y.aa y.an y.ac] 39) = W at *
  go_loopw [8] (fun q wr => ∃ k : Nat, q = .int .i64 (k : Int) ∧ k ≤ y.an ∧ (∀ j (h : j < A.length), j < k → longA A[j] = false) ∧ Below W.heap.size W wr) (fun q _ => y.an - (intOf q).toNat)
  case atStart => exact ⟨0, rfl, Nat.zero_le _, fun j _ hj => by omega, Below.refl _ _⟩
  case round =>
    obtain ⟨k, rfl, hk, hn, hbw⟩ := hrel
    have HT := Lib.hid hn
    have HW := Lib.hid hbw
    clear hn hbw
    by_cases hlt : k < y.an
    · obtain ⟨b, off, x, T, L, hx, _, hta, hbl, m0, m1, m2, m3, m4, m5, m6, m7, m8, m9, m10, m11, m12⟩ := (HL.out.2.next HW.out).at k (by rw [HN.out]; exact hlt)
      have HY := Lib.hid hx
      clear hx
      have HW2 := Lib.hid (HW.out.alloc HW.out.size (.cells #[.int .i64 x.k, .int .i64 x.ev, .int .i64 x.wh, .int .i64 x.c0, .int .i64 x.c1, .int .i64 x.c2, .int .i64 x.c3, .bool x.tap, .slice x.ta x.tn x.tc, .slice x.ca x.cn x.cc, .int .i64 x.op, .int .i64 x.a, .int .i64 x.b] 45))
      rw [hta] at *
      by_cases c1 : 2 < x.tn
      · have HV := Lib.hid (show r = true by
          rw [← HR.out, longB, Bool.or_eq_true]
          left
          refine List.any_eq_true.2 ⟨A[k]'(by rw [HN.out]; exact hlt), List.getElem_mem _, ?_⟩
          rw [← HY.out]; simp [longA, c1])
        go_wp2_with fail
        go_ret
        exact ⟨bool_ret HV.out.symm, HB.out.trans (HW2.out.mono HB.out.size)⟩
      · by_cases c2 : 32 < x.cn
        · have HV := Lib.hid (show r = true by
            rw [← HR.out, longB, Bool.or_eq_true]
            left
            refine List.any_eq_true.2 ⟨A[k]'(by rw [HN.out]; exact hlt), List.getElem_mem _, ?_⟩
            rw [← HY.out]; simp [longA, c2])
          go_wp2_with fail
          go_ret
          exact ⟨bool_ret HV.out.symm, HB.out.trans (HW2.out.mono HB.out.size)⟩
        · go_wp2_with fail
          go_roundw
          case rel => exact ⟨k + 1, by go_num, by omega, fun j h1 h2 => by
            by_cases hjk : j = k
            · subst hjk; rw [← HY.out]; simp [longA]; omega
            · exact HT.out j h1 (by omega), HW2.out⟩
          case measure => simp [intOf]; omega
    · have HE := Lib.hid (show A.any longA = false by
        refine Bool.eq_false_iff.2 fun hall => ?_
        obtain ⟨t, ht, h2⟩ := List.any_eq_true.1 hall
        obtain ⟨j, hj, rfl⟩ := List.getElem_of_mem ht
        rw [HT.out j hj (by have := HN.out; omega)] at h2
        cases h2)
      obtain ⟨q0, q1, q2, q3, q4, q5, q6, q7, q8, q9, q10⟩ := (HX.out.next HW.out).cells
      by_cases c1 : 16 < y.nm.size
      · have HV := Lib.hid (show r = true by rw [← HR.out]; simp [longB, c1])
        go_wp2_with fail
        go_ret
        exact ⟨bool_ret HV.out.symm, HB.out.trans (HW.out.mono HB.out.size)⟩
      · by_cases c2 : 4 < y.an
        · have HV := Lib.hid (show r = true by rw [← HR.out]; simp [longB, c2])
          go_wp2_with fail
          go_ret
          exact ⟨bool_ret (by rw [HV.out]; simp; omega), HB.out.trans (HW.out.mono HB.out.size)⟩
        · have HV := Lib.hid (show r = false by rw [← HR.out, longB, HE.out]; simp; omega)
          go_wp2_with fail
          go_ret
          exact ⟨bool_ret (by rw [HV.out]; simp; omega), HB.out.trans (HW.out.mono HB.out.size)⟩
end Go.Proofs.YtbeaaieaffdgeaaDoor
end
/- Keys without those that may be. -/
section
namespace Go.Proofs.YtbeaaieaffdgeaaDoor
open Go.RowKit
set_option linter.unusedVariables false
set_option linter.unusedSimpArgs false

theorem bv_andNot (x m : BitVec 64) : x &&& ~~~m = 0#64 ↔ x &&& m = x := by
  constructor
  · intro h
    apply BitVec.eq_of_getLsbD_eq
    intro i hi
    have := congrArg (fun z : BitVec 64 => z.getLsbD i) h
    simp [hi] at this ⊢
    exact this
  · intro h
    apply BitVec.eq_of_getLsbD_eq
    intro i hi
    have := congrArg (fun z : BitVec 64 => z.getLsbD i) h
    simp [hi] at this ⊢
    exact this
theorem wrap_zero (b : BitVec 64) : IntKind.i64.wrap (b.toNat : Int) = 0 ↔ b = 0#64 := by
  have hb := b.isLt
  constructor
  · intro h
    apply BitVec.eq_of_toNat_eq
    have key : ∀ (p : Bool) (z : Int), 0 ≤ z → z < 18446744073709551616 → (if p = true then z - 18446744073709551616 else z) = 0 → z = 0 := by
      intro p z h1 h2 h
      cases p <;> simp at h <;> omega
    have h' := key _ ((b.toNat : Int) % 18446744073709551616) (by omega) (by omega) h
    show b.toNat = 0
    omega
  · rintro rfl; rfl
theorem keys_not (n m : Int) : bits .andNot .i64 n m = 0 ↔ (BitVec.ofInt 64 n).toNat &&& (BitVec.ofInt 64 m).toNat = (BitVec.ofInt 64 n).toNat := by
  show IntKind.i64.wrap ((BitVec.ofInt 64 n &&& ~~~(BitVec.ofInt 64 m)).toNat : Int) = 0 ↔ _
  rw [wrap_zero, bv_andNot, ← BitVec.toNat_inj, BitVec.toNat_and]
/-- It is a number of 64 bits. -/
def In64 (n : Int) : Prop := -9223372036854775808 ≤ n ∧ n ≤ 9223372036854775807
theorem keys_none (n : Int) (h : In64 n) : (bits .andNot .i64 n 0 == 0) = (n == 0) := by
  obtain ⟨h1, h2⟩ := h
  rw [Bool.eq_iff_iff, beq_iff_eq, beq_iff_eq, keys_not, BitVec.toNat_ofInt, BitVec.toNat_ofInt]
  simp
  omega
theorem keys_all (n : Int) (h : In64 n) : (bits .andNot .i64 n 127 == 0) = btw 0 127 n := by
  obtain ⟨h1, h2⟩ := h
  rw [Bool.eq_iff_iff, beq_iff_eq, keys_not, btw_iff, BitVec.toNat_ofInt, BitVec.toNat_ofInt]
  rw [show ((127 : Int) % ((2 ^ 64 : Nat) : Int)).toNat = 2 ^ 7 - 1 from rfl, Nat.and_two_pow_sub_one_eq_mod]
  omega
theorem swift_small : ∀ z, z < 65 → z &&& 64 = z → z = 0 ∨ z = 64 := by decide
theorem keys_swift (n : Int) (h : In64 n) : (bits .andNot .i64 n 64 == 0) = (n == 0 || n == 64) := by
  obtain ⟨h1, h2⟩ := h
  rw [Bool.eq_iff_iff, beq_iff_eq, keys_not, Bool.or_eq_true, beq_iff_eq, beq_iff_eq, BitVec.toNat_ofInt, BitVec.toNat_ofInt]
  rw [show ((64 : Int) % ((2 ^ 64 : Nat) : Int)).toNat = 64 from rfl]
  generalize hz : (n % ((2 ^ 64 : Nat) : Int)).toNat = z
  constructor
  · intro e
    have hle : z ≤ 64 := by rw [← e]; exact Nat.and_le_right
    have := swift_small z (by omega) e
    omega
  · intro e
    have : z = 0 ∨ z = 64 := by omega
    rcases this with rfl | rfl <;> rfl
end Go.Proofs.YtbeaaieaffdgeaaDoor
end
/- A pool's bytes, and how the document reads them: no walk. -/
section
namespace Go.Proofs.YtbeaaieaffdgeaaDoor
open Go.RowKit
set_option linter.unusedVariables false
set_option linter.unusedSimpArgs false

/-- One behind the other, in front of a rest. -/
def many {α : Type} (e : α → ByteArray → ByteArray) (l : List α) (t : ByteArray) : ByteArray := l.foldr e t
theorem many_nil {α : Type} (e : α → ByteArray → ByteArray) (t : ByteArray) : many e [] t = t := rfl
theorem many_cons {α : Type} (e : α → ByteArray → ByteArray) (x : α) (l : List α) (t : ByteArray) : many e (x :: l) t = e x (many e l t) := rfl
/-- Bytes in front of a rest, whatever the rest is. -/
def Fore {α : Type} (e : α → ByteArray → ByteArray) : Prop := ∀ x t, e x t = e x ByteArray.empty ++ t
theorem many_fore {α : Type} {e : α → ByteArray → ByteArray} (h : Fore e) : Fore (many e) := by
  intro l t
  induction l with
  | nil => simp [many]
  | cons x l ih => rw [many_cons, many_cons, h x, ih, h x (many e l ByteArray.empty), ByteArray.append_assoc]
theorem many_snoc {α : Type} {e : α → ByteArray → ByteArray} (h : Fore e) (l : List α) (x : α) : many e (l ++ [x]) ByteArray.empty = many e l ByteArray.empty ++ e x ByteArray.empty := by
  rw [many, List.foldr_append, ← many_fore h]
  rfl
/-- A number's bytes, a signed one's, a text's. -/
def nB (i : Int) (t : ByteArray) : ByteArray := numS i.toNat ++ t
def sB (i : Int) (t : ByteArray) : ByteArray := numS (zig i) ++ t
def xB (s t : ByteArray) : ByteArray := textS s ++ t
theorem nB_fore : Fore nB := fun x t => by simp [nB]
theorem sB_fore : Fore sB := fun x t => by simp [sB]
theorem xB_fore : Fore xB := fun x t => by simp [xB]
def flagI (b : Bool) : Int := if b then 1 else 0
/-- An instruction's bytes. -/
def insB (x : Ins) (t : ByteArray) : ByteArray := nB x.op (sB x.a (sB x.b t))
theorem insB_fore : Fore insB := fun x t => by
  simp only [insB]
  rw [sB_fore x.b t, sB_fore x.a, nB_fore x.op, sB_fore x.a (sB x.b ByteArray.empty), nB_fore x.op (sB x.a ByteArray.empty ++ _)]
  simp only [ByteArray.append_assoc]
/-- The numbers of an ability in front of its targets. -/
def abHead (x : AbT) : List Int := [x.1.k, x.1.ev, x.1.wh, x.1.c0, x.1.c1, x.1.c2, x.1.c3, flagI x.1.tap, x.2.1.length]
/-- An ability's bytes. -/
def abB (x : AbT) (t : ByteArray) : ByteArray :=
  many nB (abHead x) (many nB x.2.1 (nB x.2.2.length (many insB x.2.2 (nB x.1.op (sB x.1.a (sB x.1.b t))))))
theorem fore_comp {α β : Type} {e : α → ByteArray → ByteArray} {f : β → ByteArray → ByteArray} (h : Fore e) (k : Fore f) : Fore (fun (p : α × β) t => e p.1 (f p.2 t)) := fun p t => by
  show e p.1 (f p.2 t) = e p.1 (f p.2 ByteArray.empty) ++ t
  rw [k p.2 t, h p.1, h p.1 (f p.2 ByteArray.empty), ByteArray.append_assoc]
theorem abB_fore : Fore abB := fun x t => by
  have h : Fore (fun (p : List Int × List Int × Int × List Ins × Int × Int × Int) t => many nB p.1 (many nB p.2.1 (nB p.2.2.1 (many insB p.2.2.2.1 (nB p.2.2.2.2.1 (sB p.2.2.2.2.2.1 (sB p.2.2.2.2.2.2 t))))))) :=
    fore_comp (many_fore nB_fore) (fore_comp (many_fore nB_fore) (fore_comp nB_fore (fore_comp (many_fore insB_fore) (fore_comp nB_fore (fore_comp sB_fore sB_fore)))))
  exact h (abHead x, x.2.1, (x.2.2.length : Int), x.2.2, x.1.op, x.1.a, x.1.b) t
/-- A card, and its abilities. -/
abbrev CdT := Cd × List AbT
def cdHead (c : CdT) : List Int := [c.1.k, c.1.c0, c.1.c1, c.1.c2, c.1.c3, c.1.col, c.1.pow, c.1.tou, c.1.keys, c.2.length]
/-- A card's bytes. -/
def cdB (c : CdT) (t : ByteArray) : ByteArray := xB c.1.nm (many nB (cdHead c) (many abB c.2 t))
theorem cdB_fore : Fore cdB := fun c t => by
  have h : Fore (fun (p : ByteArray × List Int × List AbT) t => xB p.1 (many nB p.2.1 (many abB p.2.2 t))) := fore_comp xB_fore (fore_comp (many_fore nB_fore) (many_fore abB_fore))
  exact h (c.1.nm, cdHead c, c.2) t
/-- A pool's bytes, in front of a rest. -/
def poolB (L : List CdT) (t : ByteArray) : ByteArray := nB L.length (many cdB L t)
theorem poolB_fore : Fore poolB := fun L t => fore_comp nB_fore (many_fore cdB_fore) ((L.length : Int), L) t

/-- How the document reads: a number, 100000 if it is above that. -/
def rdNm (r : RdS) : Int × RdS := (((min (rdNum r).1 100000 : Nat) : Int), (rdNum r).2)
/-- So many, as long as the reader has not stopped. -/
def rdRep {α : Type} (f : RdS → α × RdS) : Nat → RdS → List α × RdS
  | 0, r => ([], r)
  | k + 1, r => if r.2 then ([], r) else ((f r).1 :: (rdRep f k (f r).2).1, (rdRep f k (f r).2).2)
def rdIns (r : RdS) : Ins × RdS :=
  let o := rdNm r; let a := rdInt o.2; let b := rdInt a.2
  (⟨o.1, a.1, b.1⟩, b.2)
def rdAb (r : RdS) : AbT × RdS :=
  let k := rdNm r; let ev := rdNm k.2; let wh := rdNm ev.2
  let c0 := rdNm wh.2; let c1 := rdNm c0.2; let c2 := rdNm c1.2; let c3 := rdNm c2.2
  let tp := rdNm c3.2; let n := rdNm tp.2
  let T := rdRep rdNm (min n.1.toNat 10) n.2
  let m := rdNm T.2
  let L := rdRep rdIns (min m.1.toNat 40) m.2
  let op := rdNm L.2; let a := rdInt op.2; let b := rdInt a.2
  ((⟨k.1, ev.1, wh.1, c0.1, c1.1, c2.1, c3.1, tp.1 == 1, none, T.1.length, 0, none, L.1.length, 0, op.1, a.1, b.1⟩, T.1, L.1), b.2)
def rdCd (r : RdS) : CdT × RdS :=
  let x := rdText r; let k := rdNm x.2
  let c0 := rdNm k.2; let c1 := rdNm c0.2; let c2 := rdNm c1.2; let c3 := rdNm c2.2
  let co := rdNm c3.2; let p := rdNm co.2; let t := rdNm p.2; let ke := rdNm t.2; let m := rdNm ke.2
  let A := rdRep rdAb (min m.1.toNat 10) m.2
  ((⟨x.1, k.1, c0.1, c1.1, c2.1, c3.1, co.1, p.1, t.1, ke.1, none, A.1.length, 0⟩, A.1), A.2)
def rdPool (s : ByteArray) : List CdT × RdS :=
  let n := rdNm (s, false)
  rdRep rdCd (min n.1.toNat 50) n.2

/-- Numbers that come back. -/
def NmOk (i : Int) : Prop := 0 ≤ i ∧ i ≤ 100000
def InsOk (x : Ins) : Prop := NmOk x.op ∧ In64 x.a ∧ In64 x.b
def AbOk (x : AbT) : Prop :=
  (∀ i ∈ abHead x, NmOk i) ∧ x.2.1.length ≤ 2 ∧ x.2.2.length ≤ 32 ∧ (∀ i ∈ x.2.1, NmOk i) ∧ (∀ i ∈ x.2.2, InsOk i) ∧ NmOk x.1.op ∧ In64 x.1.a ∧ In64 x.1.b
def CdTOk (c : CdT) : Prop := c.1.nm.size ≤ 1000 ∧ (∀ i ∈ cdHead c, NmOk i) ∧ c.2.length ≤ 4 ∧ ∀ x ∈ c.2, AbOk x
def PlOk (L : List CdT) : Prop := L.length ≤ 40 ∧ ∀ c ∈ L, CdTOk c
/-- Without addresses. -/
def bareA (x : AbT) : AbT := ({ x.1 with ta := none, tn := x.2.1.length, tc := 0, ca := none, cn := x.2.2.length, cc := 0 }, x.2)
def bareC (c : CdT) : CdT := ({ c.1 with aa := none, an := c.2.length, ac := 0 }, c.2.map bareA)

theorem rdNm_put (i : Int) (h : NmOk i) (t : ByteArray) : rdNm (nB i t, false) = (i, (t, false)) := by
  obtain ⟨h0, h1⟩ := h
  unfold rdNm nB
  rw [rdNum_put _ (by omega)]
  simp only [Prod.mk.injEq, and_true]
  omega
theorem rdInt_put' (i : Int) (h : In64 i) (t : ByteArray) : rdInt (sB i t, false) = (i, (t, false)) := by
  unfold In64 at h
  exact rdInt_put i (by omega) (by omega) t
theorem rdText_put' (x t : ByteArray) (h : x.size ≤ 1000) : rdText (xB x t, false) = (x, (t, false)) := rdText_put x t (by omega)
theorem rdRep_put {α : Type} {f : RdS → α × RdS} {e : α → ByteArray → ByteArray} {g : α → α} (l : List α) (h : ∀ x ∈ l, ∀ t, f (e x t, false) = (g x, (t, false))) (t : ByteArray) :
    rdRep f l.length (many e l t, false) = (l.map g, (t, false)) := by
  induction l with
  | nil => rfl
  | cons x l ih =>
    have h1 := h x (by simp) (many e l t)
    have h2 := ih (fun y hy => h y (by simp [hy]))
    simp only [List.length_cons, rdRep, many_cons, h1, h2, List.map_cons]
    simp
theorem rdIns_put (x : Ins) (h : InsOk x) (t : ByteArray) : rdIns (insB x t, false) = (x, (t, false)) := by
  obtain ⟨h1, h2, h3⟩ := h
  simp only [rdIns, insB, rdNm_put _ h1, rdInt_put' _ h2, rdInt_put' _ h3]
theorem flag_ok (b : Bool) : (flagI b == 1) = b := by cases b <;> rfl
theorem rdAb_put (x : AbT) (h : AbOk x) (t : ByteArray) : rdAb (abB x t, false) = (bareA x, (t, false)) := by
  obtain ⟨hh, h1, h2, h3, h4, h5, h6, h7⟩ := h
  simp only [abHead, List.forall_mem_cons] at hh
  obtain ⟨a1, a2, a3, a4, a5, a6, a7, a8, a9, _⟩ := hh
  have b1 : ∀ t, rdRep rdNm (min x.2.1.length 10) (many nB x.2.1 t, false) = (x.2.1, (t, false)) := fun t => by
    rw [Nat.min_eq_left (by omega)]
    have := rdRep_put (g := id) x.2.1 (fun i hi t => rdNm_put i (h3 i hi) t) t
    simpa using this
  have b2 : ∀ t, rdRep rdIns (min x.2.2.length 40) (many insB x.2.2 t, false) = (x.2.2, (t, false)) := fun t => by
    rw [Nat.min_eq_left (by omega)]
    have := rdRep_put (g := id) x.2.2 (fun i hi t => rdIns_put i (h4 i hi) t) t
    simpa using this
  have b3 : NmOk (x.2.2.length : Int) := by unfold NmOk; omega
  simp only [rdAb, abB, abHead, many_cons, many_nil, rdNm_put _ a1, rdNm_put _ a2, rdNm_put _ a3, rdNm_put _ a4, rdNm_put _ a5, rdNm_put _ a6, rdNm_put _ a7, rdNm_put _ a8, rdNm_put _ a9, Int.toNat_natCast, b1, rdNm_put _ b3, b2, rdNm_put _ h5, rdInt_put' _ h6, rdInt_put' _ h7, flag_ok, bareA]
theorem rdCd_put (c : CdT) (h : CdTOk c) (t : ByteArray) : rdCd (cdB c t, false) = (bareC c, (t, false)) := by
  obtain ⟨h0, hh, h1, h2⟩ := h
  simp only [cdHead, List.forall_mem_cons] at hh
  obtain ⟨a1, a2, a3, a4, a5, a6, a7, a8, a9, a10, _⟩ := hh
  have b1 : ∀ t, rdRep rdAb (min c.2.length 10) (many abB c.2 t, false) = (c.2.map bareA, (t, false)) := fun t => by
    rw [Nat.min_eq_left (by omega)]
    exact rdRep_put c.2 (fun i hi t => rdAb_put i (h2 i hi) t) t
  simp only [rdCd, cdB, cdHead, many_cons, many_nil, rdText_put' _ _ h0, rdNm_put _ a1, rdNm_put _ a2, rdNm_put _ a3, rdNm_put _ a4, rdNm_put _ a5, rdNm_put _ a6, rdNm_put _ a7, rdNm_put _ a8, rdNm_put _ a9, rdNm_put _ a10, Int.toNat_natCast, b1, bareC, List.length_map]
theorem rdPool_put (L : List CdT) (h : PlOk L) (t : ByteArray) : rdPool (poolB L t) = (L.map bareC, (t, false)) := by
  obtain ⟨h1, h2⟩ := h
  have b1 : NmOk (L.length : Int) := by unfold NmOk; omega
  have b2 := rdRep_put L (fun c hc t => rdCd_put c (h2 c hc) t) t
  simp only [rdPool, poolB, rdNm_put _ b1, Int.toNat_natCast, Nat.min_eq_left (show L.length ≤ 50 by omega), b2]
/-- No beginning of a pool's bytes is another's; and two with the same bytes are one. -/
theorem poolB_front (L M : List CdT) (hL : PlOk L) (hM : PlOk M) (t : ByteArray) (h : poolB L ByteArray.empty = poolB M t) : L.map bareC = M.map bareC ∧ t = ByteArray.empty := by
  have h1 := rdPool_put L hL ByteArray.empty
  rw [h, rdPool_put M hM t] at h1
  simp only [Prod.mk.injEq, and_true] at h1
  exact ⟨h1.1.symm, h1.2⟩
/-- How many bytes there are at most. -/
theorem nB_size (i : Int) (t : ByteArray) : (nB i t).size ≤ 9 + t.size := by
  have := numS_size i.toNat
  simp only [nB, ByteArray.size_append]; omega
theorem sB_size (i : Int) (t : ByteArray) : (sB i t).size ≤ 9 + t.size := by
  have := numS_size (zig i)
  simp only [sB, ByteArray.size_append]; omega
theorem xB_size (x t : ByteArray) : (xB x t).size ≤ 9 + x.size + t.size := by
  have := numS_size x.size
  simp only [xB, textS, ByteArray.size_append]; omega
theorem many_size {α : Type} {e : α → ByteArray → ByteArray} (k : Nat) (l : List α) (h : ∀ x ∈ l, ∀ t, (e x t).size ≤ k + t.size) (t : ByteArray) : (many e l t).size ≤ k * l.length + t.size := by
  induction l with
  | nil => simp [many]
  | cons x l ih =>
    have h1 := h x (by simp) (many e l t)
    have h2 := ih (fun y hy => h y (by simp [hy]))
    rw [many_cons, List.length_cons, Nat.mul_add]
    omega
theorem insB_size (x : Ins) (t : ByteArray) : (insB x t).size ≤ 27 + t.size := by
  have h1 := nB_size x.op (sB x.a (sB x.b t))
  have h2 := sB_size x.a (sB x.b t)
  have h3 := sB_size x.b t
  simp only [insB]; omega
theorem abB_size (x : AbT) (h : AbOk x) (t : ByteArray) : (abB x t).size ≤ 2000 + t.size := by
  obtain ⟨_, h1, h2, _⟩ := h
  have e1 := many_size 9 (abHead x) (fun i _ t => nB_size i t) (many nB x.2.1 (nB x.2.2.length (many insB x.2.2 (nB x.1.op (sB x.1.a (sB x.1.b t))))))
  have e2 := many_size 9 x.2.1 (fun i _ t => nB_size i t) (nB x.2.2.length (many insB x.2.2 (nB x.1.op (sB x.1.a (sB x.1.b t)))))
  have e3 := nB_size x.2.2.length (many insB x.2.2 (nB x.1.op (sB x.1.a (sB x.1.b t))))
  have e4 := many_size 27 x.2.2 (fun i _ t => insB_size i t) (nB x.1.op (sB x.1.a (sB x.1.b t)))
  have e5 := nB_size x.1.op (sB x.1.a (sB x.1.b t))
  have e6 := sB_size x.1.a (sB x.1.b t)
  have e7 := sB_size x.1.b t
  have e8 : (abHead x).length = 9 := rfl
  simp only [abB]; omega
theorem cdB_size (c : CdT) (h : CdTOk c) (t : ByteArray) : (cdB c t).size ≤ 22000 + t.size := by
  obtain ⟨h0, _, h1, h2⟩ := h
  have e1 := xB_size c.1.nm (many nB (cdHead c) (many abB c.2 t))
  have e2 := many_size 9 (cdHead c) (fun i _ t => nB_size i t) (many abB c.2 t)
  have e3 := many_size 2000 c.2 (fun x hx t => abB_size x (h2 x hx) t) t
  have e4 : (cdHead c).length = 10 := rfl
  simp only [cdB]; omega
theorem poolB_size (L : List CdT) (h : PlOk L) (t : ByteArray) : (poolB L t).size ≤ 2000000 + t.size := by
  obtain ⟨h1, h2⟩ := h
  have e1 := nB_size L.length (many cdB L t)
  have e2 := many_size 22000 L (fun c hc t => cdB_size c (h2 c hc) t) t
  simp only [poolB]; omega
end Go.Proofs.YtbeaaieaffdgeaaDoor
end
