/- The document's answer: static, repl. (Written by gen5n.py.) -/
import Derived.Test.YtfhmadlobdklbaaDoorCardM
namespace Go.Proofs.YtfhmadlobdklbaaDoor
open Go.RowKit
set_option linter.unusedVariables false
set_option linter.unusedSimpArgs false

def refStaticB (x : Ab) : Bool :=
  bareB x && (x.ev == 0 && (btw 0 3 x.wh && (if x.op = 1 ∨ x.op = 2 then btw 1 127 x.a && x.b == 0 else if x.op = 3 then btw 0 15 x.a && btw 0 15 x.b else if x.op = 4 then btw (-15) 15 x.a && btw (-15) 15 x.b else false)))
def refReplB (x : Ab) : Bool :=
  bareB x && (x.op == 0 && (x.b == 0 && (if x.ev = 1 then x.wh == 0 && btw 1 999 x.a else if x.ev = 3 then x.wh == 0 && btw 0 999 x.a else if x.ev = 2 ∨ x.ev = 4 then btw 0 1 x.wh && x.a == 0 else false)))
set_option maxRecDepth 100000 in
set_option maxHeartbeats 4000000 in
theorem refStatic_any (x : Ab) (r : Bool) (hr : refStaticB x = r) (w : World) :
    Calls Tryd.prog 25 #[.agg #[.int .i64 x.k, .int .i64 x.ev, .int .i64 x.wh, .int .i64 x.c0, .int .i64 x.c1, .int .i64 x.c2, .int .i64 x.c3, .bool x.tap, .slice x.ta x.tn x.tc, .slice x.ca x.cn x.cc, .int .i64 x.op, .int .i64 x.a, .int .i64 x.b]] w fun e w' => e = .returned (.bool r) ∧ Below w.heap.size w w' := by
  have HR := Lib.hid hr
  have HW := Lib.hid (below_alloc1 w (.cells #[.int .i64 x.k, .int .i64 x.ev, .int .i64 x.wh, .int .i64 x.c0, .int .i64 x.c1, .int .i64 x.c2, .int .i64 x.c3, .bool x.tap, .slice x.ta x.tn x.tc, .slice x.ca x.cn x.cc, .int .i64 x.op, .int .i64 x.a, .int .i64 x.b] 41))
  have HX := Lib.hid (boxA_new w x 41)
  clear hr
  cases hs : bareB x
  all_goals
    have HS := Lib.hid hs
    clear hs
    go_enter Tryd.func25, Tryd.ntmps25
    go_wp2_with fail
    generalize w.alloc (.cells #[.int .i64 x.k, .int .i64 x.ev, .int .i64 x.wh, .int .i64 x.c0, .int .i64 x.c1, .int .i64 x.c2, .int .i64 x.c3, .bool x.tap, .slice x.ta x.tn x.tc, .slice x.ca x.cn x.cc, .int .i64 x.op, .int .i64 x.a, .int .i64 x.b] 41) = W at *
    refine (refBare_any x _ HS.out _).mono ?_
    rintro e w1 ⟨rfl, hb⟩
    have HB1 := Lib.hid hb
    clear hb
    obtain ⟨q0, q1, q2, q3, q4, q5, q6, q7, q8, q9, q10, q11, q12⟩ := (HX.out.next HB1.out).cells
    go_wp2_with (go_at_call 17; refine (refIn_any _ _ _ _).mono ?_; rintro e w' ⟨rfl, rfl⟩)
    all_goals
      clear q0 q1 q2 q3 q4 q5 q6 q7 q8 q9 q10 q11 q12
      go_ret
      refine ⟨bool_ret ?_, HW.out.trans (HB1.out.mono HW.out.size)⟩
      rw [← HR.out, refStaticB, HS.out]
      try simp only [Bool.not_eq_true', Bool.not_eq_false', Bool.not_eq_true, beq_iff_eq, beq_eq_false_iff_ne, bne_iff_ne, bne_eq_false_iff_eq, ne_eq] at *
      simp [*]
set_option maxRecDepth 100000 in
set_option maxHeartbeats 4000000 in
theorem refRepl_any (x : Ab) (r : Bool) (hr : refReplB x = r) (w : World) :
    Calls Tryd.prog 26 #[.agg #[.int .i64 x.k, .int .i64 x.ev, .int .i64 x.wh, .int .i64 x.c0, .int .i64 x.c1, .int .i64 x.c2, .int .i64 x.c3, .bool x.tap, .slice x.ta x.tn x.tc, .slice x.ca x.cn x.cc, .int .i64 x.op, .int .i64 x.a, .int .i64 x.b]] w fun e w' => e = .returned (.bool r) ∧ Below w.heap.size w w' := by
  have HR := Lib.hid hr
  have HW := Lib.hid (below_alloc1 w (.cells #[.int .i64 x.k, .int .i64 x.ev, .int .i64 x.wh, .int .i64 x.c0, .int .i64 x.c1, .int .i64 x.c2, .int .i64 x.c3, .bool x.tap, .slice x.ta x.tn x.tc, .slice x.ca x.cn x.cc, .int .i64 x.op, .int .i64 x.a, .int .i64 x.b] 41))
  have HX := Lib.hid (boxA_new w x 41)
  clear hr
  cases hs : bareB x
  all_goals
    have HS := Lib.hid hs
    clear hs
    go_enter Tryd.func26, Tryd.ntmps26
    go_wp2_with fail
    generalize w.alloc (.cells #[.int .i64 x.k, .int .i64 x.ev, .int .i64 x.wh, .int .i64 x.c0, .int .i64 x.c1, .int .i64 x.c2, .int .i64 x.c3, .bool x.tap, .slice x.ta x.tn x.tc, .slice x.ca x.cn x.cc, .int .i64 x.op, .int .i64 x.a, .int .i64 x.b] 41) = W at *
    refine (refBare_any x _ HS.out _).mono ?_
    rintro e w1 ⟨rfl, hb⟩
    have HB1 := Lib.hid hb
    clear hb
    obtain ⟨q0, q1, q2, q3, q4, q5, q6, q7, q8, q9, q10, q11, q12⟩ := (HX.out.next HB1.out).cells
    go_wp2_with (go_at_call 17; refine (refIn_any _ _ _ _).mono ?_; rintro e w' ⟨rfl, rfl⟩)
    all_goals
      clear q0 q1 q2 q3 q4 q5 q6 q7 q8 q9 q10 q11 q12
      go_ret
      refine ⟨bool_ret ?_, HW.out.trans (HB1.out.mono HW.out.size)⟩
      rw [← HR.out, refReplB, HS.out]
      try simp only [Bool.not_eq_true', Bool.not_eq_false', Bool.not_eq_true, beq_iff_eq, beq_eq_false_iff_ne, bne_iff_ne, bne_eq_false_iff_eq, ne_eq] at *
      simp [*]
end Go.Proofs.YtfhmadlobdklbaaDoor
