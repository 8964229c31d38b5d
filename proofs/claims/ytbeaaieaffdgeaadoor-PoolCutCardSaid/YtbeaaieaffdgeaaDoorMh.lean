/- Texts that belong together: CardL, CardM, CardN, CardO, CardP, CardR, CardS, PoolB, PoolM, CardT, PoolC. -/
import Derived.Test.YtbeaaieaffdgeaaDoorMg
import Derived.Test.YtbeaaieaffdgeaaDoorMf
import Derived.Test.YtbeaaieaffdgeaaDoorMc
import Derived.Deep.RegionHeld
/- card.Check. (Written by gen5l.py.) -/
section
namespace Go.Proofs.YtbeaaieaffdgeaaDoor
open Go.RowKit
set_option linter.unusedVariables false
set_option linter.unusedSimpArgs false

/-- What Check tells. -/
def chkC (y : Cd) (A : List AbT) (cards : Int) : Int := if btw 0 40 cards then (if longB y A then 3 else if mayB y && canB (y.k == 3) A cards then 0 else 10) else 2
/-- Its name is no longer than a text may be; its keys are a number of 64 bits. -/
def CdOk (y : Cd) : Prop := y.nm.size ≤ maxLen ∧ In64 y.keys
set_option maxRecDepth 100000 in
set_option maxHeartbeats 4000000 in
theorem cardCheck_any (y : Cd) (A : List AbT) (cards r : Int) (hr : chkC y A cards = r) (w : World) (h : CdR w y A) (hy : CdOk y) (hT : Tabs w) :
    Calls Tryd.prog 37 #[.agg #[.string y.nm, .int .i64 y.k, .int .i64 y.c0, .int .i64 y.c1, .int .i64 y.c2, .int .i64 y.c3, .int .i64 y.col, .int .i64 y.pow, .int .i64 y.tou, .int .i64 y.keys, .slice y.aa y.an y.ac], .int .i64 cards] w fun e w' => e = .returned (.int .i64 r) ∧ Below w.heap.size w w' := by
  have HR := Lib.hid hr
  have hb := below_alloc1 w (.cells #[.string y.nm, .int .i64 y.k, .int .i64 y.c0, .int .i64 y.c1, .int .i64 y.c2, .int .i64 y.c3, .int .i64 y.col, .int .i64 y.pow, .int .i64 y.tou, .int .i64 y.keys, .slice y.aa y.an y.ac] 39)
  have HA := Lib.hid (h.next hb)
  have HT := Lib.hid (hT.next hb)
  have HX := Lib.hid (boxC_new w y 39)
  have HZ := Lib.hid (show w.heap.size + 1 = (w.alloc (.cells #[.string y.nm, .int .i64 y.k, .int .i64 y.c0, .int .i64 y.c1, .int .i64 y.c2, .int .i64 y.c3, .int .i64 y.col, .int .i64 y.pow, .int .i64 y.tou, .int .i64 y.keys, .slice y.aa y.an y.ac] 39)).heap.size by simp)
  have HW := Lib.hid hb
  have HY := Lib.hid hy
  clear hr h hb hT hy
  cases t1 : btw 0 40 cards
  · have HV := Lib.hid (show r = 2 by rw [← HR.out]; simp [chkC, t1])
    have Ht1 := Lib.hid t1
    clear t1
    go_enter Tryd.func37, Tryd.ntmps37
    go_wp2_with fail
    generalize w.alloc (.cells #[.string y.nm, .int .i64 y.k, .int .i64 y.c0, .int .i64 y.c1, .int .i64 y.c2, .int .i64 y.c3, .int .i64 y.col, .int .i64 y.pow, .int .i64 y.tou, .int .i64 y.keys, .slice y.aa y.an y.ac] 39) = W at *
    refine (within_at [⟨cards, 0, 40⟩] _ _ rfl 1 rfl (by omega) false ((wi_one _ _ _).trans Ht1.out) _ _ HZ.out).mono ?_
    rintro e w1 ⟨rfl, hb⟩
    have HB1 := Lib.hid (hb)
    clear hb
    obtain ⟨q0, q1, q2, q3, q4, q5, q6, q7, q8, q9, q10⟩ := (HX.out.next HB1.out).cells
    go_wp2_with fail
    go_ret
    exact ⟨int_ret HV.out.symm, HW.out.trans (HB1.out.mono HW.out.size)⟩
  · cases t2 : longB y A
    · cases t3 : mayB y
      · have HV := Lib.hid (show r = 10 by rw [← HR.out]; simp [chkC, t1, t2, t3])
        have Ht1 := Lib.hid t1
        have Ht2 := Lib.hid t2
        have Ht3 := Lib.hid t3
        clear t1 t2 t3
        go_enter Tryd.func37, Tryd.ntmps37
        go_wp2_with fail
        generalize w.alloc (.cells #[.string y.nm, .int .i64 y.k, .int .i64 y.c0, .int .i64 y.c1, .int .i64 y.c2, .int .i64 y.c3, .int .i64 y.col, .int .i64 y.pow, .int .i64 y.tou, .int .i64 y.keys, .slice y.aa y.an y.ac] 39) = W at *
        refine (within_at [⟨cards, 0, 40⟩] _ _ rfl 1 rfl (by omega) true ((wi_one _ _ _).trans Ht1.out) _ _ HZ.out).mono ?_
        rintro e w1 ⟨rfl, hb⟩
        have HB1 := Lib.hid (hb)
        clear hb
        obtain ⟨q0, q1, q2, q3, q4, q5, q6, q7, q8, q9, q10⟩ := (HX.out.next HB1.out).cells
        go_wp2_with fail
        refine (isLong_any y A false Ht2.out _ (HA.out.next HB1.out) HY.out.1).mono ?_
        rintro e w2 ⟨rfl, hb⟩
        have HB2 := Lib.hid (below_then' HB1.out hb HB1.out.size)
        clear hb
        clear q0 q1 q2 q3 q4 q5 q6 q7 q8 q9 q10
        obtain ⟨q0, q1, q2, q3, q4, q5, q6, q7, q8, q9, q10⟩ := (HX.out.next HB2.out).cells
        go_wp2_with fail
        refine (mayBe_any y HY.out.2 false Ht3.out _ (HT.out.next HB2.out)).mono ?_
        rintro e w3 ⟨rfl, hb⟩
        have HB3 := Lib.hid (below_then' HB2.out hb HB2.out.size)
        clear hb
        clear q0 q1 q2 q3 q4 q5 q6 q7 q8 q9 q10
        obtain ⟨q0, q1, q2, q3, q4, q5, q6, q7, q8, q9, q10⟩ := (HX.out.next HB3.out).cells
        go_wp2_with fail
        go_ret
        exact ⟨int_ret HV.out.symm, HW.out.trans (HB3.out.mono HW.out.size)⟩
      · cases t4 : canB (y.k == 3) A cards
        · have HV := Lib.hid (show r = 10 by rw [← HR.out]; simp [chkC, t1, t2, t3, t4])
          have Ht1 := Lib.hid t1
          have Ht2 := Lib.hid t2
          have Ht3 := Lib.hid t3
          have Ht4 := Lib.hid t4
          clear t1 t2 t3 t4
          go_enter Tryd.func37, Tryd.ntmps37
          go_wp2_with fail
          generalize w.alloc (.cells #[.string y.nm, .int .i64 y.k, .int .i64 y.c0, .int .i64 y.c1, .int .i64 y.c2, .int .i64 y.c3, .int .i64 y.col, .int .i64 y.pow, .int .i64 y.tou, .int .i64 y.keys, .slice y.aa y.an y.ac] 39) = W at *
          refine (within_at [⟨cards, 0, 40⟩] _ _ rfl 1 rfl (by omega) true ((wi_one _ _ _).trans Ht1.out) _ _ HZ.out).mono ?_
          rintro e w1 ⟨rfl, hb⟩
          have HB1 := Lib.hid (hb)
          clear hb
          obtain ⟨q0, q1, q2, q3, q4, q5, q6, q7, q8, q9, q10⟩ := (HX.out.next HB1.out).cells
          go_wp2_with fail
          refine (isLong_any y A false Ht2.out _ (HA.out.next HB1.out) HY.out.1).mono ?_
          rintro e w2 ⟨rfl, hb⟩
          have HB2 := Lib.hid (below_then' HB1.out hb HB1.out.size)
          clear hb
          clear q0 q1 q2 q3 q4 q5 q6 q7 q8 q9 q10
          obtain ⟨q0, q1, q2, q3, q4, q5, q6, q7, q8, q9, q10⟩ := (HX.out.next HB2.out).cells
          go_wp2_with fail
          refine (mayBe_any y HY.out.2 true Ht3.out _ (HT.out.next HB2.out)).mono ?_
          rintro e w3 ⟨rfl, hb⟩
          have HB3 := Lib.hid (below_then' HB2.out hb HB2.out.size)
          clear hb
          clear q0 q1 q2 q3 q4 q5 q6 q7 q8 q9 q10
          obtain ⟨q0, q1, q2, q3, q4, q5, q6, q7, q8, q9, q10⟩ := (HX.out.next HB3.out).cells
          go_wp2_with fail
          refine (canDo_any y A _ rfl cards false Ht4.out _ (HA.out.next HB3.out) (HT.out.next HB3.out)).mono ?_
          rintro e w4 ⟨rfl, hb⟩
          have HB4 := Lib.hid (below_then' HB3.out hb HB3.out.size)
          clear hb
          clear q0 q1 q2 q3 q4 q5 q6 q7 q8 q9 q10
          obtain ⟨q0, q1, q2, q3, q4, q5, q6, q7, q8, q9, q10⟩ := (HX.out.next HB4.out).cells
          go_wp2_with fail
          go_ret
          exact ⟨int_ret HV.out.symm, HW.out.trans (HB4.out.mono HW.out.size)⟩
        · have HV := Lib.hid (show r = 0 by rw [← HR.out]; simp [chkC, t1, t2, t3, t4])
          have Ht1 := Lib.hid t1
          have Ht2 := Lib.hid t2
          have Ht3 := Lib.hid t3
          have Ht4 := Lib.hid t4
          clear t1 t2 t3 t4
          go_enter Tryd.func37, Tryd.ntmps37
          go_wp2_with fail
          generalize w.alloc (.cells #[.string y.nm, .int .i64 y.k, .int .i64 y.c0, .int .i64 y.c1, .int .i64 y.c2, .int .i64 y.c3, .int .i64 y.col, .int .i64 y.pow, .int .i64 y.tou, .int .i64 y.keys, .slice y.aa y.an y.ac] 39) = W at *
          refine (within_at [⟨cards, 0, 40⟩] _ _ rfl 1 rfl (by omega) true ((wi_one _ _ _).trans Ht1.out) _ _ HZ.out).mono ?_
          rintro e w1 ⟨rfl, hb⟩
          have HB1 := Lib.hid (hb)
          clear hb
          obtain ⟨q0, q1, q2, q3, q4, q5, q6, q7, q8, q9, q10⟩ := (HX.out.next HB1.out).cells
          go_wp2_with fail
          refine (isLong_any y A false Ht2.out _ (HA.out.next HB1.out) HY.out.1).mono ?_
          rintro e w2 ⟨rfl, hb⟩
          have HB2 := Lib.hid (below_then' HB1.out hb HB1.out.size)
          clear hb
          clear q0 q1 q2 q3 q4 q5 q6 q7 q8 q9 q10
          obtain ⟨q0, q1, q2, q3, q4, q5, q6, q7, q8, q9, q10⟩ := (HX.out.next HB2.out).cells
          go_wp2_with fail
          refine (mayBe_any y HY.out.2 true Ht3.out _ (HT.out.next HB2.out)).mono ?_
          rintro e w3 ⟨rfl, hb⟩
          have HB3 := Lib.hid (below_then' HB2.out hb HB2.out.size)
          clear hb
          clear q0 q1 q2 q3 q4 q5 q6 q7 q8 q9 q10
          obtain ⟨q0, q1, q2, q3, q4, q5, q6, q7, q8, q9, q10⟩ := (HX.out.next HB3.out).cells
          go_wp2_with fail
          refine (canDo_any y A _ rfl cards true Ht4.out _ (HA.out.next HB3.out) (HT.out.next HB3.out)).mono ?_
          rintro e w4 ⟨rfl, hb⟩
          have HB4 := Lib.hid (below_then' HB3.out hb HB3.out.size)
          clear hb
          clear q0 q1 q2 q3 q4 q5 q6 q7 q8 q9 q10
          obtain ⟨q0, q1, q2, q3, q4, q5, q6, q7, q8, q9, q10⟩ := (HX.out.next HB4.out).cells
          go_wp2_with fail
          go_ret
          exact ⟨int_ret HV.out.symm, HW.out.trans (HB4.out.mono HW.out.size)⟩
    · have HV := Lib.hid (show r = 3 by rw [← HR.out]; simp [chkC, t1, t2])
      have Ht1 := Lib.hid t1
      have Ht2 := Lib.hid t2
      clear t1 t2
      go_enter Tryd.func37, Tryd.ntmps37
      go_wp2_with fail
      generalize w.alloc (.cells #[.string y.nm, .int .i64 y.k, .int .i64 y.c0, .int .i64 y.c1, .int .i64 y.c2, .int .i64 y.c3, .int .i64 y.col, .int .i64 y.pow, .int .i64 y.tou, .int .i64 y.keys, .slice y.aa y.an y.ac] 39) = W at *
      refine (within_at [⟨cards, 0, 40⟩] _ _ rfl 1 rfl (by omega) true ((wi_one _ _ _).trans Ht1.out) _ _ HZ.out).mono ?_
      rintro e w1 ⟨rfl, hb⟩
      have HB1 := Lib.hid (hb)
      clear hb
      obtain ⟨q0, q1, q2, q3, q4, q5, q6, q7, q8, q9, q10⟩ := (HX.out.next HB1.out).cells
      go_wp2_with fail
      refine (isLong_any y A true Ht2.out _ (HA.out.next HB1.out) HY.out.1).mono ?_
      rintro e w2 ⟨rfl, hb⟩
      have HB2 := Lib.hid (below_then' HB1.out hb HB1.out.size)
      clear hb
      clear q0 q1 q2 q3 q4 q5 q6 q7 q8 q9 q10
      obtain ⟨q0, q1, q2, q3, q4, q5, q6, q7, q8, q9, q10⟩ := (HX.out.next HB2.out).cells
      go_wp2_with fail
      go_ret
      exact ⟨int_ret HV.out.symm, HW.out.trans (HB2.out.mono HW.out.size)⟩
end Go.Proofs.YtbeaaieaffdgeaaDoor
end
/- The document's answer: in, cost, targets, bare. -/
section
namespace Go.Proofs.YtbeaaieaffdgeaaDoor
open Go.RowKit
set_option linter.unusedVariables false
set_option linter.unusedSimpArgs false

/-- Has it nothing but numbers? -/
def bareB (x : Ab) : Bool := decide ((x.tn : Int) = 0) && (decide ((x.cn : Int) = 0) && ((x.c0 == 0 && (x.c1 == 0 && (x.c2 == 0 && x.c3 == 0))) && !x.tap))
end Go.Proofs.YtbeaaieaffdgeaaDoor
end
/- The document's answer: static, repl. (Written by gen5n.py.) -/
section
namespace Go.Proofs.YtbeaaieaffdgeaaDoor
open Go.RowKit
set_option linter.unusedVariables false
set_option linter.unusedSimpArgs false

def refStaticB (x : Ab) : Bool :=
  bareB x && (x.ev == 0 && (btw 0 3 x.wh && (if x.op = 1 ∨ x.op = 2 then btw 1 127 x.a && x.b == 0 else if x.op = 3 then btw 0 15 x.a && btw 0 15 x.b else if x.op = 4 then btw (-15) 15 x.a && btw (-15) 15 x.b else false)))
def refReplB (x : Ab) : Bool :=
  bareB x && (x.op == 0 && (x.b == 0 && (if x.ev = 1 then x.wh == 0 && btw 1 999 x.a else if x.ev = 3 then x.wh == 0 && btw 0 999 x.a else if x.ev = 2 ∨ x.ev = 4 then btw 0 1 x.wh && x.a == 0 else false)))
end Go.Proofs.YtbeaaieaffdgeaaDoor
end
/- The document's answer: ability. (Written by gen5o.py.) -/
section
namespace Go.Proofs.YtbeaaieaffdgeaaDoor
open Go.RowKit
set_option linter.unusedVariables false
set_option linter.unusedSimpArgs false

theorem LitAt.cells13 {w : World} {b : Nat} {v0 v1 v2 v3 v4 v5 v6 v7 v8 v9 v10 v11 v12 : Value} (h : LitAt w b [v0, v1, v2, v3, v4, v5, v6, v7, v8, v9, v10, v11, v12]) :
    w.cell? ⟨b, 0, none⟩ = some v0 ∧ w.cell? ⟨b, 1, none⟩ = some v1 ∧ w.cell? ⟨b, 2, none⟩ = some v2 ∧ w.cell? ⟨b, 3, none⟩ = some v3 ∧ w.cell? ⟨b, 4, none⟩ = some v4 ∧ w.cell? ⟨b, 5, none⟩ = some v5 ∧ w.cell? ⟨b, 6, none⟩ = some v6 ∧
    w.cell? ⟨b, 7, none⟩ = some v7 ∧ w.cell? ⟨b, 8, none⟩ = some v8 ∧ w.cell? ⟨b, 9, none⟩ = some v9 ∧ w.cell? ⟨b, 10, none⟩ = some v10 ∧ w.cell? ⟨b, 11, none⟩ = some v11 ∧ w.cell? ⟨b, 12, none⟩ = some v12 :=
  ⟨h.2 0 (by simp), h.2 1 (by simp), h.2 2 (by simp), h.2 3 (by simp), h.2 4 (by simp), h.2 5 (by simp), h.2 6 (by simp), h.2 7 (by simp), h.2 8 (by simp), h.2 9 (by simp), h.2 10 (by simp), h.2 11 (by simp), h.2 12 (by simp)⟩
def noneB (x : Ab) : Bool := x.op == 0 && (x.a == 0 && x.b == 0)
def zeroB (x : Ab) : Bool := x.c0 == 0 && (x.c1 == 0 && (x.c2 == 0 && x.c3 == 0))
/-- What the document's ability tells; cb: may its code be? tb: may its targets? -/
def refAbilB (sp cb tb : Bool) (x : Ab) : Bool :=
  (sp == (x.k == 1)) && (
    if x.k = 1 then cb && (noneB x && (tb && (x.ev == 0 && (x.wh == 0 && (zeroB x && !x.tap)))))
    else if x.k = 2 then cb && (noneB x && (tb && (x.ev == 0 && (x.wh == 0 && wi (costL 20 x.c0 x.c1 x.c2 x.c3)))))
    else if x.k = 3 then cb && (noneB x && (decide (x.tn = 0) && (btw 1 6 x.ev && (btw 0 2 x.wh && (zeroB x && !x.tap)))))
    else if x.k = 4 then refStaticB x else if x.k = 5 then refReplB x else false)
end Go.Proofs.YtbeaaieaffdgeaaDoor
end
/- The document's answer: body. (Written by gen5p.py.) -/
section
namespace Go.Proofs.YtbeaaieaffdgeaaDoor
open Go.RowKit
set_option linter.unusedVariables false
set_option linter.unusedSimpArgs false

theorem LitAt.cells11 {w : World} {b : Nat} {v0 v1 v2 v3 v4 v5 v6 v7 v8 v9 v10 : Value} (h : LitAt w b [v0, v1, v2, v3, v4, v5, v6, v7, v8, v9, v10]) :
    w.cell? ⟨b, 0, none⟩ = some v0 ∧ w.cell? ⟨b, 1, none⟩ = some v1 ∧ w.cell? ⟨b, 2, none⟩ = some v2 ∧ w.cell? ⟨b, 3, none⟩ = some v3 ∧ w.cell? ⟨b, 4, none⟩ = some v4 ∧ w.cell? ⟨b, 5, none⟩ = some v5 ∧ w.cell? ⟨b, 6, none⟩ = some v6 ∧
    w.cell? ⟨b, 7, none⟩ = some v7 ∧ w.cell? ⟨b, 8, none⟩ = some v8 ∧ w.cell? ⟨b, 9, none⟩ = some v9 ∧ w.cell? ⟨b, 10, none⟩ = some v10 :=
  ⟨h.2 0 (by simp), h.2 1 (by simp), h.2 2 (by simp), h.2 3 (by simp), h.2 4 (by simp), h.2 5 (by simp), h.2 6 (by simp), h.2 7 (by simp), h.2 8 (by simp), h.2 9 (by simp), h.2 10 (by simp)⟩
def zeroC (y : Cd) : Bool := y.c0 == 0 && (y.c1 == 0 && (y.c2 == 0 && y.c3 == 0))
theorem b03 : btw 0 3 0 = true := rfl
theorem b015 : btw 0 15 0 = true := rfl
/-- What the document's body tells. -/
def refBodyB (y : Cd) : Bool :=
  if y.k = 1 then wi (costL 20 y.c0 y.c1 y.c2 y.c3) && (zeroC y && (btw 0 3 y.col && (btw 0 15 y.pow && (btw 0 15 y.tou && ((y.pow == 0 && y.tou == 0) && y.keys == 0)))))
  else if y.k = 2 then wi (costL 20 y.c0 y.c1 y.c2 y.c3) && (btw 0 3 y.col && (y.col == 0 && (btw 0 15 y.pow && (btw 0 15 y.tou && btw 0 127 y.keys))))
  else if y.k = 3 ∨ y.k = 4 then wi (costL 20 y.c0 y.c1 y.c2 y.c3) && (btw 0 3 y.col && (y.col == 0 && (btw 0 15 y.pow && (btw 0 15 y.tou && ((y.pow == 0 && y.tou == 0) && (y.keys == 0 || y.keys == 64))))))
  else false
end Go.Proofs.YtbeaaieaffdgeaaDoor
end
/- The document's answer: Check. -/
section
namespace Go.Proofs.YtbeaaieaffdgeaaDoor
open Go.RowKit
set_option linter.unusedVariables false
set_option linter.unusedSimpArgs false

def refFitB (s : Bool) (cards : Int) (t : AbT) : Bool := refAbilB s (chk t.2.2 t.1.tn cards == 0) (aimsB t.2.1 && decide (t.1.tn ≤ 2)) t.1
def refBaseB (y : Cd) : Bool := !y.nm.toList.isEmpty && (refBodyB y && (!(y.k == 3) || ((y.an : Int) == 1)))
/-- What the document's Check tells. -/
def refChkC (y : Cd) (A : List AbT) (cards : Int) : Int := if btw 0 40 cards then (if longB y A then 3 else if refBaseB y && A.all (refFitB (y.k == 3) cards) then 0 else 10) else 2
/-- How far the document's Check has looked: k abilities; is something too long? -/
def LongAt (y : Cd) (A : List AbT) (v q : Value) : Prop := ∃ (k : Nat) (l : Bool), v = .bool l ∧ q = .int .i64 (k : Int) ∧ k ≤ y.an ∧ l = ((decide (16 < y.nm.size) || decide (4 < y.an)) || (A.take k).any longA)
/-- Likewise: may all that was looked at be? -/
def FitAt (w W : World) (y : Cd) (A : List AbT) (cards : Int) (v q : Value) : Prop :=
  ∃ (k : Nat) (l : Bool), v = .bool l ∧ q = .int .i64 (k : Int) ∧ k ≤ y.an ∧ l = (refBaseB y && (A.take k).all (refFitB (y.k == 3) cards)) ∧ Below w.heap.size w W
theorem bool_int {a : Bool} {P : Prop} [Decidable P] (h : a = decide P) : Value.bool (decide P) = Value.bool a := by rw [h]
theorem longA_int (x : Ab) (T : List Int) (L : List Ins) : longA (x, T, L) = (decide ((2 : Int) < (x.tn : Int)) || decide ((32 : Int) < (x.cn : Int))) := by
  simp only [longA]
  rw [show decide (2 < x.tn) = decide ((2 : Int) < (x.tn : Int)) by simp only [decide_eq_decide]; omega, show decide (32 < x.cn) = decide ((32 : Int) < (x.cn : Int)) by simp only [decide_eq_decide]; omega]
theorem any_snoc {α : Type} (f : α → Bool) (A : List α) (k : Nat) (h : k < A.length) : (A.take (k + 1)).any f = ((A.take k).any f || f A[k]) := by
  rw [List.take_succ_eq_append_getElem h, List.any_append]; simp
theorem all_snoc {α : Type} (f : α → Bool) (A : List α) (k : Nat) (h : k < A.length) : (A.take (k + 1)).all f = ((A.take k).all f && f A[k]) := by
  rw [List.take_succ_eq_append_getElem h, List.all_append]; simp
end Go.Proofs.YtbeaaieaffdgeaaDoor
end
/- Both Checks tell the same. -/
section
namespace Go.Proofs.YtbeaaieaffdgeaaDoor
open Go.RowKit
set_option linter.unusedVariables false
set_option linter.unusedSimpArgs false

theorem chk_two (L : List Ins) (t : Nat) (c : Int) (h : (chk L t c == 0) = true) : t ≤ 2 := by
  rw [beq_iff_eq, chk] at h
  by_cases hb : (btw 0 2 (t : Int) && btw 0 40 c) = true
  · simp [btw] at hb
    omega
  · rw [if_neg hb] at h
    omega
theorem spell_eq (x : Ab) (T : List Int) (L : List Ins) (cards : Int) :
    spellB x T L cards = ((chk L x.tn cards == 0) && (noneB x && ((aimsB T && decide (x.tn ≤ 2)) && (x.ev == 0 && (x.wh == 0 && (zeroB x && !x.tap)))))) := by
  cases hc : (chk L x.tn cards == 0)
  · simp [spellB, hc]
  · have := chk_two _ _ _ hc
    cases ha : aimsB T
    · simp [spellB, hc, ha]
    · rw [spellB, hc, ha, onlyB, costB, noneB, zeroB, Bool.eq_iff_iff]
      cases x.tap <;> simp [this] <;> omega
theorem act_eq (x : Ab) (T : List Int) (L : List Ins) (cards : Int) :
    actB x T L cards = ((chk L x.tn cards == 0) && (noneB x && ((aimsB T && decide (x.tn ≤ 2)) && (x.ev == 0 && (x.wh == 0 && wi (costL 20 x.c0 x.c1 x.c2 x.c3)))))) := by
  cases hc : (chk L x.tn cards == 0)
  · simp [actB, hc]
  · have := chk_two _ _ _ hc
    cases ha : aimsB T
    · simp [actB, hc, ha]
    · cases hw : wi (costL 20 x.c0 x.c1 x.c2 x.c3)
      · simp [actB, hc, ha, hw]
      · rw [actB, hc, ha, hw, onlyB, costB, noneB, Bool.eq_iff_iff]
        cases x.tap <;> simp [this] <;> omega
theorem trig_eq (x : Ab) (T : List Int) (L : List Ins) (cards : Int) :
    trigB x T L cards = ((chk L x.tn cards == 0) && (noneB x && (decide (x.tn = 0) && (btw 1 6 x.ev && (btw 0 2 x.wh && (zeroB x && !x.tap)))))) := by
  cases hc : (chk L x.tn cards == 0)
  · simp [trigB, hc]
  · rw [trigB, hc, wi_two, onlyB, costB, noneB, zeroB, Bool.eq_iff_iff]
    cases btw 1 6 x.ev <;> cases btw 0 2 x.wh <;> cases x.tap <;> simp <;> omega
theorem static_eq (x : Ab) : staticB x = refStaticB x := by
  rw [staticB, refStaticB, wi_two, wi_two, onlyB, costB, bareB, Bool.eq_iff_iff]
  by_cases h1 : x.op = 1
  · rw [h1]; cases x.tap <;> simp [layT, btw] <;> omega
  · by_cases h2 : x.op = 2
    · rw [h2]; cases x.tap <;> simp [layT, btw] <;> omega
    · by_cases h3 : x.op = 3
      · rw [h3]; cases x.tap <;> simp [layT, btw] <;> omega
      · by_cases h4 : x.op = 4
        · rw [h4]; cases x.tap <;> simp [layT, btw] <;> omega
        · simp [h1, h2, h3, h4, btw]
          omega
theorem repl_eq (x : Ab) : replB x = refReplB x := by
  rw [replB, refReplB, wi_one, wi_two, onlyB, costB, bareB, Bool.eq_iff_iff]
  by_cases h1 : x.ev = 1
  · rw [h1]; cases x.tap <;> simp [insT, btw] <;> omega
  · by_cases h2 : x.ev = 2
    · rw [h2]; cases x.tap <;> simp [insT, btw] <;> omega
    · by_cases h3 : x.ev = 3
      · rw [h3]; cases x.tap <;> simp [insT, btw] <;> omega
      · by_cases h4 : x.ev = 4
        · rw [h4]; cases x.tap <;> simp [insT, btw] <;> omega
        · simp [h1, h2, h3, h4, btw]
          omega
theorem fit_eq (s : Bool) (cards : Int) (t : AbT) : fitB s cards t = refFitB s cards t := by
  obtain ⟨x, T, L⟩ := t
  simp only [fitB, refFitB, refAbilB, abilB, spell_eq, act_eq, trig_eq, static_eq, repl_eq]
  rw [show ((x.k == 1) == s) = (s == (x.k == 1)) by cases (x.k == 1) <;> cases s <;> rfl]
theorem body_eq (y : Cd) : refBodyB y = (btw 1 4 y.k && (wi (costL (if y.k = 1 then 0 else 20) y.c0 y.c1 y.c2 y.c3) && (keysB y.k y.keys &&
    wi [⟨y.col, 0, if y.k = 1 then 3 else 0⟩, ⟨y.pow, 0, if y.k = 2 then 15 else 0⟩, ⟨y.tou, 0, if y.k = 2 then 15 else 0⟩]))) := by
  rw [refBodyB, keysB, Bool.eq_iff_iff]
  by_cases h1 : y.k = 1
  · simp [h1, wi, costL, btw, zeroC]; omega
  · by_cases h2 : y.k = 2
    · simp [h2, wi, costL, btw, zeroC]; omega
    · by_cases h3 : y.k = 3
      · simp [h3, wi, costL, btw, zeroC]; omega
      · by_cases h4 : y.k = 4
        · simp [h4, wi, costL, btw, zeroC]; omega
        · simp [h1, h2, h3, h4, btw]; omega
theorem chk_eq (y : Cd) (A : List AbT) (cards : Int) (h : A.length = y.an) : refChkC y A cards = chkC y A cards := by
  have e1 : A.all (refFitB (y.k == 3) cards) = A.all (fitB (y.k == 3) cards) := by
    congr 1
    funext t
    exact (fit_eq _ _ t).symm
  have e2 : (refBaseB y && A.all (refFitB (y.k == 3) cards)) = (mayB y && canB (y.k == 3) A cards) := by
    rw [e1, refBaseB, body_eq, mayB, canB, h]
    have e3 : (!((y.k == 3) && y.an != 1)) = (!(y.k == 3) || ((y.an : Int) == 1)) := by
      rw [Bool.eq_iff_iff]; simp; omega
    rw [e3]
    cases (!(y.k == 3) || ((y.an : Int) == 1)) <;> simp [Bool.and_assoc]
  rw [refChkC, chkC, e2]
end Go.Proofs.YtbeaaieaffdgeaaDoor
end
/- Which pools may be: Check's answer, and what follows of their numbers: no walk. -/
section
namespace Go.Proofs.YtbeaaieaffdgeaaDoor
open Go.RowKit
set_option linter.unusedVariables false
set_option linter.unusedSimpArgs false

theorem chk_ins {L : List Ins} {t c : Int} (h : chk L t c = 0) : t ≤ 2 ∧ L.length ≤ 32 ∧ ∀ x ∈ L, one L.length t c x = true := by
  unfold chk at h
  split at h
  · rename_i h1
    split at h
    · omega
    · split at h
      · rename_i h2 h3
        simp only [Bool.and_eq_true, btw_iff] at h1
        exact ⟨h1.1.2, by omega, List.all_eq_true.1 h3⟩
      · omega
  · omega
theorem only_iff (x y : Ab) : onlyB x y = true ↔ x.ev = y.ev ∧ x.wh = y.wh ∧ (x.c0 = y.c0 ∧ x.c1 = y.c1 ∧ x.c2 = y.c2 ∧ x.c3 = y.c3) ∧ x.tap = y.tap ∧ x.tn = y.tn ∧ x.cn = y.cn ∧ x.op = y.op ∧ x.a = y.a ∧ x.b = y.b := by
  simp only [onlyB, costB, Bool.and_eq_true, beq_iff_eq]
  constructor
  · rintro ⟨h1, h2, h3, h4, h5, h6, h7, h8, h9⟩
    exact ⟨h1, h2, h3, h4, by omega, by omega, h7, h8, h9⟩
  · rintro ⟨h1, h2, h3, h4, h5, h6, h7, h8, h9⟩
    exact ⟨h1, h2, h3, h4, by omega, by omega, h7, h8, h9⟩
theorem flag_nm (b : Bool) : NmOk (flagI b) := by cases b <;> (unfold NmOk flagI; omega)
theorem abOk_of {x : Ab} {T : List Int} {L : List Ins} (hk : NmOk x.k) (h1 : NmOk x.ev) (h2 : NmOk x.wh) (h3 : NmOk x.c0) (h4 : NmOk x.c1) (h5 : NmOk x.c2) (h6 : NmOk x.c3)
    (hT : T.length ≤ 2) (hL : L.length ≤ 32) (hTs : ∀ i ∈ T, NmOk i) (hLs : ∀ i ∈ L, InsOk i) (hop : NmOk x.op) (ha : In64 x.a) (hb : In64 x.b) : AbOk (x, T, L) := by
  refine ⟨?_, by show T.length ≤ 2; omega, by show L.length ≤ 32; omega, hTs, hLs, hop, ha, hb⟩
  have hf := flag_nm x.tap
  have hl : NmOk (T.length : Int) := by unfold NmOk; omega
  simp only [abHead, List.forall_mem_cons]
  exact ⟨hk, h1, h2, h3, h4, h5, h6, hf, hl, fun _ h => by cases h⟩
theorem nm_of {i lo hi : Int} (h : btw lo hi i = true) (h0 : 0 ≤ lo) (h1 : hi ≤ 100000) : NmOk i := by
  rw [btw_iff] at h
  unfold NmOk; omega
theorem nm_zero : NmOk 0 := by unfold NmOk; omega
theorem ins_ok {L : List Ins} {t c : Int} (h : chk L t c = 0) (hi : ∀ i ∈ L, In64 i.a ∧ In64 i.b) : ∀ i ∈ L, InsOk i := by
  intro i m
  have h1 := (chk_ins h).2.2 i m
  simp only [one, Bool.and_eq_true] at h1
  exact ⟨nm_of h1.1 (by omega) (by omega), hi i m⟩
theorem aims_ok {T : List Int} (h : aimsB T = true) : ∀ i ∈ T, NmOk i := fun i m => nm_of (List.all_eq_true.1 h i m) (by omega) (by omega)
theorem abil_ok (x : Ab) (T : List Int) (L : List Ins) (cards : Int) (h : abilB x T L cards = true) (ht : T.length = x.tn) (hc : L.length = x.cn) (ha : In64 x.a) (hb : In64 x.b) (hi : ∀ i ∈ L, In64 i.a ∧ In64 i.b) :
    AbOk (x, T, L) := by
  have z := nm_zero
  unfold abilB at h
  split at h
  · rename_i k1
    simp only [spellB, Bool.and_eq_true, beq_iff_eq, only_iff] at h
    obtain ⟨h1, h2, h3, h4, ⟨h5, h6, h7, h8⟩, _, _, _, h9, _, _⟩ := h
    have q := chk_ins h2
    exact abOk_of (by rw [k1]; unfold NmOk; omega) (by rw [h3]; exact z) (by rw [h4]; exact z) (by rw [h5]; exact z) (by rw [h6]; exact z) (by rw [h7]; exact z) (by rw [h8]; exact z) (by omega) q.2.1 (aims_ok h1) (ins_ok h2 hi) (by rw [h9]; exact z) ha hb
  · split at h
    · rename_i k1
      simp only [actB, wi, costL, List.all_cons, List.all_nil, Bool.and_true, Bool.and_eq_true, beq_iff_eq, only_iff] at h
      obtain ⟨⟨c1, c2, c3, c4⟩, h1, h2, h3, h4, _, _, _, _, h9, _, _⟩ := h
      have q := chk_ins h2
      exact abOk_of (by rw [k1]; unfold NmOk; omega) (by rw [h3]; exact z) (by rw [h4]; exact z) (nm_of c1 (by omega) (by omega)) (nm_of c2 (by omega) (by omega)) (nm_of c3 (by omega) (by omega)) (nm_of c4 (by omega) (by omega)) (by omega) q.2.1 (aims_ok h1) (ins_ok h2 hi) (by rw [h9]; exact z) ha hb
    · split at h
      · rename_i k1
        simp only [trigB, wi_two, Bool.and_eq_true, beq_iff_eq, only_iff] at h
        obtain ⟨⟨e1, e2⟩, h2, _, _, ⟨h5, h6, h7, h8⟩, _, h9, _, h10, _, _⟩ := h
        have q := chk_ins h2
        obtain rfl : T = [] := List.eq_nil_of_length_eq_zero (by omega)
        exact abOk_of (by rw [k1]; unfold NmOk; omega) (nm_of e1 (by omega) (by omega)) (nm_of e2 (by omega) (by omega)) (by rw [h5]; exact z) (by rw [h6]; exact z) (by rw [h7]; exact z) (by rw [h8]; exact z) (by omega) q.2.1 (fun i m => by cases m) (ins_ok h2 hi) (by rw [h10]; exact z) ha hb
      · split at h
        · rename_i k1
          simp only [staticB, wi_two, Bool.and_eq_true, beq_iff_eq, only_iff] at h
          obtain ⟨⟨e1, e2⟩, _, h3, _, ⟨h5, h6, h7, h8⟩, _, h9, h11, _⟩ := h
          obtain rfl : T = [] := List.eq_nil_of_length_eq_zero (by omega)
          obtain rfl : L = [] := List.eq_nil_of_length_eq_zero (by omega)
          exact abOk_of (by rw [k1]; unfold NmOk; omega) (by rw [h3]; exact z) (nm_of e2 (by omega) (by omega)) (by rw [h5]; exact z) (by rw [h6]; exact z) (by rw [h7]; exact z) (by rw [h8]; exact z) (by simp) (by simp) (fun i m => by cases m) (fun i m => by cases m) (nm_of e1 (by omega) (by omega)) ha hb
        · split at h
          · rename_i k1
            simp only [replB, wi_one, wi_two, Bool.and_eq_true, beq_iff_eq, only_iff] at h
            obtain ⟨e1, ⟨e2, _⟩, _, _, ⟨h5, h6, h7, h8⟩, _, h9, h11, h10, _⟩ := h
            obtain rfl : T = [] := List.eq_nil_of_length_eq_zero (by omega)
            obtain rfl : L = [] := List.eq_nil_of_length_eq_zero (by omega)
            have e3 : NmOk x.wh := by
              rw [btw_iff] at e1
              have e4 : x.ev.toNat = 1 ∨ x.ev.toNat = 2 ∨ x.ev.toNat = 3 ∨ x.ev.toNat = 4 := by omega
              rcases e4 with e4 | e4 | e4 | e4 <;> rw [e4] at e2 <;> exact nm_of e2 (by decide) (by decide)
            exact abOk_of (by rw [k1]; unfold NmOk; omega) (nm_of e1 (by omega) (by omega)) e3 (by rw [h5]; exact z) (by rw [h6]; exact z) (by rw [h7]; exact z) (by rw [h8]; exact z) (by simp) (by simp) (fun i m => by cases m) (fun i m => by cases m) (by rw [h10]; exact z) ha hb
          · cases h
/-- A card's numbers are of 64 bits, and its lists as long as they say. -/
def CdT64 (c : CdT) : Prop := c.2.length = c.1.an ∧ ∀ t ∈ c.2, t.2.1.length = t.1.tn ∧ t.2.2.length = t.1.cn ∧ In64 t.1.a ∧ In64 t.1.b ∧ ∀ i ∈ t.2.2, In64 i.a ∧ In64 i.b
theorem card_ok (c : CdT) (cards : Int) (h : chkC c.1 c.2 cards = 0) (h64 : CdT64 c) : CdTOk c := by
  obtain ⟨y, A⟩ := c
  obtain ⟨hn, hA⟩ := h64
  simp only [chkC] at h hn hA
  split at h
  · split at h
    · omega
    · rename_i h1 h2
      split at h
      · rename_i h3
        simp only [longB, Bool.or_eq_true, not_or, decide_eq_true_eq] at h2
        simp only [mayB, canB, wi, costL, List.all_cons, List.all_nil, Bool.and_true, Bool.and_eq_true, btw_iff] at h3
        obtain ⟨⟨_, k1, ⟨c1, c2, c3, c4⟩, ke, g1, g2, g3⟩, _, hf⟩ := h3
        refine ⟨by show y.nm.size ≤ 1000; omega, ?_, by show A.length ≤ 4; omega, fun t m => ?_⟩
        · simp only [cdHead, List.forall_mem_cons]
          have u : ∀ b : Bool, (if b = true then (0 : Int) else 20) ≤ 20 := fun b => by cases b <;> simp
          have k : NmOk y.keys := by
            unfold keysB at ke
            split at ke
            · rw [beq_iff_eq] at ke; rw [ke]; exact nm_zero
            · split at ke
              · exact nm_of ke (by omega) (by omega)
              · simp only [Bool.or_eq_true, beq_iff_eq] at ke
                rcases ke with ke | ke <;> (rw [ke]; unfold NmOk; omega)
          have a1 : (if y.k = 1 then (0 : Int) else 20) ≤ 20 := by split <;> omega
          have a2 : (if y.k = 1 then (3 : Int) else 0) ≤ 3 := by split <;> omega
          have a3 : (if y.k = 2 then (15 : Int) else 0) ≤ 15 := by split <;> omega
          have l : NmOk (A.length : Int) := by unfold NmOk; omega
          unfold NmOk at *
          exact ⟨by omega, by omega, by omega, by omega, by omega, by omega, by omega, by omega, by omega, by omega, fun _ h => by cases h⟩
        · have := List.all_eq_true.1 hf t m
          simp only [fitB, Bool.and_eq_true] at this
          obtain ⟨q1, q2, q3, q4, q5⟩ := hA t m
          exact abil_ok t.1 t.2.1 t.2.2 cards this.2 q1 q2 q3 q4 q5
      · omega
  · omega
/-- Are the tokens that a code names beasts? -/
def tokB (L : List CdT) (C : List Ins) : Bool := C.all fun x => !(x.op == 21) || ((L[x.b.toNat]?.map fun c => c.1.k == 2).getD true)
/-- May this one be, in a pool of these? -/
def inB (L : List CdT) (c : CdT) : Bool := (chkC c.1 c.2 L.length == 0) && c.2.all fun t => tokB L t.2.2
/-- Have two the same name? -/
def twiceB : List CdT → Bool
  | [] => false
  | c :: L => L.any (fun d => decide (d.1.nm = c.1.nm)) || twiceB L
/-- What Check tells of a pool. -/
def chkP (L : List CdT) : Int := if L.length = 0 then 2 else if 40 < L.length then 3 else if L.all (inB L) then (if twiceB L then 11 else 0) else 10
theorem pool_ok (L : List CdT) (h : chkP L = 0) (h64 : ∀ c ∈ L, CdT64 c) : 1 ≤ L.length ∧ L.length ≤ 40 ∧ PlOk L := by
  unfold chkP at h
  split at h
  · omega
  · split at h
    · omega
    · split at h
      · rename_i h1 h2 h3
        refine ⟨by omega, by omega, by omega, fun c m => ?_⟩
        have := List.all_eq_true.1 h3 c m
        simp only [inB, Bool.and_eq_true, beq_iff_eq] at this
        exact card_ok c _ this.1 (h64 c m)
      · omega
end Go.Proofs.YtbeaaieaffdgeaaDoor
end
/- How the program reads a pool: a number is taken just if it is no more than the most, a list just if it is no longer. What is taken is the row that it is laid in; and what is laid is taken. No walk. -/
section
namespace Go.Proofs.YtbeaaieaffdgeaaDoor
open Go.RowKit
set_option linter.unusedVariables false
set_option linter.unusedSimpArgs false

def pIns : Tk Ins := pNum.then fun o => pInt.then fun a => pInt.then fun b => Tk.give ⟨o, a, b⟩
/-- The four of a cost. -/
abbrev Mn := Int × Int × Int × Int
def pMan : Tk Mn := pNum.then fun a => pNum.then fun b => pNum.then fun c => pNum.then fun d => Tk.give (a, b, c, d)
def mkAb (k ev wh : Int) (c : Mn) (tp : Int) (T : List Int) (C : List Ins) (op a b : Int) : AbT :=
  (⟨k, ev, wh, c.1, c.2.1, c.2.2.1, c.2.2.2, tp == 1, none, T.length, 0, none, C.length, 0, op, a, b⟩, T, C)
def pAb : Tk AbT := pNum.then fun k => pNum.then fun ev => pNum.then fun wh => pMan.then fun c => (pUp 1).then fun tp => (pList 2 pNum).then fun T => (pList 32 pIns).then fun C => pNum.then fun op => pInt.then fun a => pInt.then fun b => Tk.give (mkAb k ev wh c tp T C op a b)
def mkCd (x : ByteArray) (k : Int) (c : Mn) (co p t ke : Int) (A : List AbT) : CdT :=
  (⟨x, k, c.1, c.2.1, c.2.2.1, c.2.2.2, co, p, t, ke, none, A.length, 0⟩, A)
def pCd : Tk CdT := pTxt.then fun x => pNum.then fun k => pMan.then fun c => pNum.then fun co => pNum.then fun p => pNum.then fun t => pNum.then fun ke => (pList 4 pAb).then fun A => Tk.give (mkCd x k c co p t ke A)
def pPool : Tk (List CdT) := pList 40 pCd

/-- What is taken is the row that it is laid in, and is as Q says. -/
def Row1 {α : Type} (f : Tk α) (e : α → ByteArray → ByteArray) (Q : α → Prop) : Prop := ∀ s x t, f s = some (x, t) → s = e x t ∧ Q x
theorem rdNum_row (s : ByteArray) (h : (rdNum (s, false)).2.2 = false) : s = numS (rdNum (s, false)).1 ++ (rdNum (s, false)).2.1 := by
  have e0 : rdNum (s, false) = match readN s.data.toList with
    | none => (0, (ByteArray.empty, true))
    | some (n, k) => (n, (s.extract k s.size, false)) := rfl
  rw [e0] at h ⊢
  cases hq : readN s.data.toList with
  | none => rw [hq] at h; cases h
  | some p =>
    obtain ⟨m, k⟩ := p
    obtain ⟨r1, r2, r3⟩ := readN_row _ m k hq
    apply ByteArray.ext
    simp only [ByteArray.data_append, ByteArray.data_extract]
    have a1 : (numS m).data = (s.data.toList.take k).toArray := by rw [r1]; rfl
    rw [a1]
    apply Array.ext'
    have e3 : s.size = s.data.size := rfl
    simp only [Array.toList_append, Array.toList_extract, List.extract_eq_take_drop, e3]
    rw [List.take_of_length_le (l := s.data.toList.drop k) (by simp)]
    exact (List.take_append_drop k s.data.toList).symm
theorem row_up (m : Nat) : Row1 (pUp m) nB (fun i => 0 ≤ i ∧ i ≤ m) := by
  intro s x t h
  unfold pUp at h
  split at h
  · cases h
  · split at h
    · rename_i h1 h2
      simp only [Option.some.injEq, Prod.mk.injEq] at h
      obtain ⟨rfl, rfl⟩ := h
      refine ⟨?_, by omega, by omega⟩
      have := rdNum_row s (by simpa using h1)
      unfold nB
      rw [Int.toNat_natCast]
      exact this
    · cases h
theorem zig_unzig (n : Nat) : zig (unzig n) = n := by
  unfold zig unzig
  repeat' split
  all_goals omega
theorem row_int : Row1 pInt sB In64 := by
  intro s x t h
  unfold pInt at h
  split at h
  · cases h
  · rename_i h1
    simp only [Option.some.injEq, Prod.mk.injEq] at h
    obtain ⟨rfl, rfl⟩ := h
    have := rdNum_row s (by simpa [rdInt] using h1)
    have hl := rdNum_lt (s, false)
    refine ⟨?_, ?_⟩
    · unfold sB rdInt
      simp only [zig_unzig]
      exact this
    · unfold In64 rdInt unzig
      simp only
      split <;> omega
theorem row_txt : Row1 pTxt xB (fun _ => True) := by
  intro s x t h
  unfold pTxt at h
  split at h
  · cases h
  · rename_i h1
    simp only [Option.some.injEq, Prod.mk.injEq] at h
    obtain ⟨rfl, rfl⟩ := h
    refine ⟨?_, trivial⟩
    unfold rdText at h1 ⊢
    split at h1
    · rename_i h2; exact absurd h2 h1
    · split at h1
      · simp at h1
      · rename_i h2 h3
        have h4 := rdNum_row s (by simpa using h2)
        rw [if_neg h2, if_neg h3]
        unfold xB textS
        simp only
        generalize hr : rdNum (s, false) = r at *
        obtain ⟨n, u, st⟩ := r
        simp only at *
        have h5 : (u.extract 0 n).size = n := by simp only [ByteArray.size_extract]; omega
        have h6 : u.extract 0 n ++ u.extract n u.size = u := by
          apply ByteArray.ext
          simp only [ByteArray.data_append, ByteArray.data_extract]
          apply Array.ext'
          have e3 : u.size = u.data.size := rfl
          simp only [Array.toList_append, Array.toList_extract, List.extract_eq_take_drop, e3, List.drop_zero, Nat.sub_zero]
          rw [List.take_of_length_le (l := u.data.toList.drop n) (by simp)]
          exact List.take_append_drop n u.data.toList
        rw [h5, ByteArray.append_assoc, h6]
        exact h4
theorem row_then {α β : Type} {f : Tk α} {e : α → ByteArray → ByteArray} {Q : α → Prop} {g : α → Tk β} (hf : Row1 f e Q) {s t : ByteArray} {y : β} (h : f.then g s = some (y, t)) : ∃ x u, s = e x u ∧ Q x ∧ g x u = some (y, t) := by
  obtain ⟨x, u, h1, h2⟩ := then_some h
  obtain ⟨h3, h4⟩ := hf _ _ _ h1
  exact ⟨x, u, h3, h4, h2⟩
theorem row_rep {α : Type} {f : Tk α} {e : α → ByteArray → ByteArray} {Q : α → Prop} (hf : Row1 f e Q) (k : Nat) : Row1 (pRep f k) (many e) (fun l => l.length = k ∧ ∀ x ∈ l, Q x) := by
  induction k with
  | zero =>
    intro s x t h
    obtain ⟨rfl, rfl⟩ := give_some h
    exact ⟨rfl, rfl, fun x h => by cases h⟩
  | succ k ih =>
    intro s y t h
    obtain ⟨x, u, rfl, hq, h⟩ := row_then hf h
    obtain ⟨l, v, rfl, hl, h⟩ := row_then ih h
    obtain ⟨rfl, rfl⟩ := give_some h
    refine ⟨rfl, by simp [hl.1], fun z hz => ?_⟩
    rcases List.mem_cons.1 hz with rfl | hz
    · exact hq
    · exact hl.2 z hz
theorem row_list {α : Type} {f : Tk α} {e : α → ByteArray → ByteArray} {Q : α → Prop} (m : Nat) (hf : Row1 f e Q) : Row1 (pList m f) (fun l t => nB l.length (many e l t)) (fun l => l.length ≤ m ∧ ∀ x ∈ l, Q x) := by
  intro s l t h
  obtain ⟨n, u, rfl, hn, h⟩ := row_then (row_up m) h
  obtain ⟨h1, h2, h3⟩ := row_rep hf n.toNat _ _ _ h
  subst h1
  refine ⟨?_, by omega, h3⟩
  show nB n (many e l t) = nB (l.length : Int) (many e l t)
  rw [h2, Int.toNat_of_nonneg hn.1]
theorem row_num : Row1 pNum nB (fun i => 0 ≤ i ∧ i ≤ 9223372036854775807) := row_up _
theorem row_ins : Row1 pIns insB (fun x => In64 x.a ∧ In64 x.b) := by
  intro s y t h
  obtain ⟨o, u, rfl, h1, h⟩ := row_then row_num h
  obtain ⟨a, v, rfl, h2, h⟩ := row_then row_int h
  obtain ⟨b, x, rfl, h3, h⟩ := row_then row_int h
  obtain ⟨rfl, rfl⟩ := give_some h
  exact ⟨rfl, h2, h3⟩
def mnB (c : Mn) (t : ByteArray) : ByteArray := nB c.1 (nB c.2.1 (nB c.2.2.1 (nB c.2.2.2 t)))
theorem row_man : Row1 pMan mnB (fun _ => True) := by
  intro s y t h
  obtain ⟨a, u, rfl, _, h⟩ := row_then row_num h
  obtain ⟨b, v, rfl, _, h⟩ := row_then row_num h
  obtain ⟨c, x, rfl, _, h⟩ := row_then row_num h
  obtain ⟨d, z, rfl, _, h⟩ := row_then row_num h
  obtain ⟨rfl, rfl⟩ := give_some h
  exact ⟨rfl, trivial⟩
/-- What an ability is that was read. -/
def AbQ (x : AbT) : Prop := x.2.1.length = x.1.tn ∧ x.2.2.length = x.1.cn ∧ In64 x.1.a ∧ In64 x.1.b ∧ (∀ i ∈ x.2.2, In64 i.a ∧ In64 i.b) ∧ bareA x = x
theorem row_ab : Row1 pAb abB AbQ := by
  intro s y t h
  obtain ⟨k, u1, rfl, _, h⟩ := row_then row_num h
  obtain ⟨ev, u2, rfl, _, h⟩ := row_then row_num h
  obtain ⟨wh, u3, rfl, _, h⟩ := row_then row_num h
  obtain ⟨c, u4, rfl, _, h⟩ := row_then row_man h
  obtain ⟨tp, u5, rfl, htp, h⟩ := row_then (row_up 1) h
  obtain ⟨T, u6, rfl, hT, h⟩ := row_then (row_list 2 row_num) h
  obtain ⟨C, u7, rfl, hC, h⟩ := row_then (row_list 32 row_ins) h
  obtain ⟨op, u8, rfl, _, h⟩ := row_then row_num h
  obtain ⟨a, u9, rfl, ha, h⟩ := row_then row_int h
  obtain ⟨b, v, rfl, hb, h⟩ := row_then row_int h
  obtain ⟨rfl, rfl⟩ := give_some h
  have e1 : flagI (tp == 1) = tp := by
    rcases (by omega : tp = 0 ∨ tp = 1) with rfl | rfl <;> rfl
  refine ⟨?_, rfl, rfl, ha, hb, hC.2, rfl⟩
  simp only [abB, abHead, mkAb, many_cons, many_nil, e1, mnB]
theorem row_cd : Row1 pCd cdB (fun c => CdT64 c ∧ bareC c = c) := by
  intro s y t h
  obtain ⟨x, u0, rfl, _, h⟩ := row_then row_txt h
  obtain ⟨k, u1, rfl, _, h⟩ := row_then row_num h
  obtain ⟨c, u2, rfl, _, h⟩ := row_then row_man h
  obtain ⟨co, u3, rfl, _, h⟩ := row_then row_num h
  obtain ⟨p, u4, rfl, _, h⟩ := row_then row_num h
  obtain ⟨to, u5, rfl, _, h⟩ := row_then row_num h
  obtain ⟨ke, u6, rfl, _, h⟩ := row_then row_num h
  obtain ⟨A, u7, rfl, hA, h⟩ := row_then (row_list 4 row_ab) h
  obtain ⟨rfl, rfl⟩ := give_some h
  refine ⟨?_, ⟨rfl, fun t ht => ?_⟩, ?_⟩
  · simp only [cdB, cdHead, mkCd, many_cons, many_nil, mnB]
  · obtain ⟨q1, q2, q3, q4, q5, _⟩ := hA.2 t ht
    exact ⟨q1, q2, q3, q4, q5⟩
  · have : A.map bareA = A := by
      rw [List.map_congr_left (g := id) (fun t ht => (hA.2 t ht).2.2.2.2.2), List.map_id]
    simp only [bareC, mkCd, this]
/-- WHAT IS TAKEN IS THE ROW THAT IT IS LAID IN. -/
theorem pPool_row (s : ByteArray) (L : List CdT) (t : ByteArray) (h : pPool s = some (L, t)) : s = poolB L t ∧ L.length ≤ 40 ∧ ∀ c ∈ L, CdT64 c ∧ bareC c = c :=
  row_list 40 row_cd s L t h

/-! ### What is laid is taken -/
theorem pUp_put (m : Nat) (i : Int) (h0 : 0 ≤ i) (h1 : i ≤ m) (h2 : i ≤ 9223372036854775807) (t : ByteArray) : pUp m (nB i t) = some (i, t) := by
  unfold pUp nB
  rw [rdNum_put _ (by omega)]
  rw [if_neg (by simp), if_pos (by simp only; omega)]
  simp only [Option.some.injEq, Prod.mk.injEq, and_true]
  omega
theorem pNum_put (i : Int) (h : NmOk i) (t : ByteArray) : pNum (nB i t) = some (i, t) := by
  obtain ⟨h0, h1⟩ := h
  exact pUp_put _ i h0 (by omega) (by omega) t
theorem pInt_put (i : Int) (h : In64 i) (t : ByteArray) : pInt (sB i t) = some (i, t) := by
  unfold pInt
  rw [rdInt_put' i h t]
  rw [if_neg (by simp)]
theorem pTxt_put (x t : ByteArray) (h : x.size ≤ 1000) : pTxt (xB x t) = some (x, t) := by
  unfold pTxt
  rw [rdText_put' x t h]
  rw [if_neg (by simp)]
theorem pRep_put {α : Type} {f : Tk α} {e : α → ByteArray → ByteArray} {g : α → α} (l : List α) (h : ∀ x ∈ l, ∀ t, f (e x t) = some (g x, t)) (t : ByteArray) :
    pRep f l.length (many e l t) = some (l.map g, t) := by
  induction l with
  | nil => rfl
  | cons x l ih =>
    have h1 := h x (by simp) (many e l t)
    have h2 := ih (fun y hy => h y (by simp [hy]))
    simp only [List.length_cons, pRep, many_cons, List.map_cons]
    rw [then_of h1, then_of h2]
    rfl
theorem pList_put {α : Type} {f : Tk α} {e : α → ByteArray → ByteArray} {g : α → α} (m : Nat) (l : List α) (hm : l.length ≤ m) (hm2 : m ≤ 1000) (h : ∀ x ∈ l, ∀ t, f (e x t) = some (g x, t)) (t : ByteArray) :
    pList m f (nB l.length (many e l t)) = some (l.map g, t) := by
  unfold pList
  rw [then_of (pUp_put m l.length (by omega) (by omega) (by omega) _), Int.toNat_natCast, pRep_put l h t]
theorem pIns_put (x : Ins) (h : InsOk x) (t : ByteArray) : pIns (insB x t) = some (x, t) := by
  obtain ⟨h1, h2, h3⟩ := h
  unfold pIns insB
  rw [then_of (pNum_put _ h1 _), then_of (pInt_put _ h2 _), then_of (pInt_put _ h3 _)]
  rfl
theorem pMan_put (c : Mn) (h : NmOk c.1 ∧ NmOk c.2.1 ∧ NmOk c.2.2.1 ∧ NmOk c.2.2.2) (t : ByteArray) : pMan (mnB c t) = some (c, t) := by
  obtain ⟨h1, h2, h3, h4⟩ := h
  unfold pMan mnB
  rw [then_of (pNum_put _ h1 _), then_of (pNum_put _ h2 _), then_of (pNum_put _ h3 _), then_of (pNum_put _ h4 _)]
  rfl
theorem pAb_put (x : AbT) (h : AbOk x) (t : ByteArray) : pAb (abB x t) = some (bareA x, t) := by
  obtain ⟨hh, h1, h2, h3, h4, h5, h6, h7⟩ := h
  simp only [abHead, List.forall_mem_cons] at hh
  obtain ⟨a1, a2, a3, a4, a5, a6, a7, a8, a9, _⟩ := hh
  have b1 : ∀ t, pList 2 pNum (nB x.2.1.length (many nB x.2.1 t)) = some (x.2.1, t) := fun t => by
    have := pList_put (g := id) 2 x.2.1 h1 (by omega) (fun i hi t => pNum_put i (h3 i hi) t) t
    simpa using this
  have b2 : ∀ t, pList 32 pIns (nB x.2.2.length (many insB x.2.2 t)) = some (x.2.2, t) := fun t => by
    have := pList_put (g := id) 32 x.2.2 h2 (by omega) (fun i hi t => pIns_put i (h4 i hi) t) t
    simpa using this
  have b3 : ∀ t, pMan (nB x.1.c0 (nB x.1.c1 (nB x.1.c2 (nB x.1.c3 t)))) = some ((x.1.c0, x.1.c1, x.1.c2, x.1.c3), t) := fun t => pMan_put (x.1.c0, x.1.c1, x.1.c2, x.1.c3) ⟨a4, a5, a6, a7⟩ t
  have b4 : ∀ t, pUp 1 (nB (flagI x.1.tap) t) = some (flagI x.1.tap, t) := fun t => pUp_put 1 _ a8.1 (by cases x.1.tap <;> decide) (by have := a8.2; omega) t
  unfold pAb abB abHead
  simp only [many_cons, many_nil]
  rw [then_of (pNum_put _ a1 _), then_of (pNum_put _ a2 _), then_of (pNum_put _ a3 _), then_of (b3 _), then_of (b4 _), then_of (b1 _), then_of (b2 _), then_of (pNum_put _ h5 _), then_of (pInt_put _ h6 _), then_of (pInt_put _ h7 _)]
  simp only [Tk.give, mkAb, flag_ok, bareA]
theorem pCd_put (c : CdT) (h : CdTOk c) (t : ByteArray) : pCd (cdB c t) = some (bareC c, t) := by
  obtain ⟨h0, hh, h1, h2⟩ := h
  simp only [cdHead, List.forall_mem_cons] at hh
  obtain ⟨a1, a2, a3, a4, a5, a6, a7, a8, a9, a10, _⟩ := hh
  have b1 : ∀ t, pList 4 pAb (nB c.2.length (many abB c.2 t)) = some (c.2.map bareA, t) := fun t => pList_put 4 c.2 h1 (by omega) (fun i hi t => pAb_put i (h2 i hi) t) t
  have b3 : ∀ t, pMan (nB c.1.c0 (nB c.1.c1 (nB c.1.c2 (nB c.1.c3 t)))) = some ((c.1.c0, c.1.c1, c.1.c2, c.1.c3), t) := fun t => pMan_put (c.1.c0, c.1.c1, c.1.c2, c.1.c3) ⟨a2, a3, a4, a5⟩ t
  unfold pCd cdB cdHead
  simp only [many_cons, many_nil]
  rw [then_of (pTxt_put _ _ h0), then_of (pNum_put _ a1 _), then_of (b3 _), then_of (pNum_put _ a6 _), then_of (pNum_put _ a7 _), then_of (pNum_put _ a8 _), then_of (pNum_put _ a9 _), then_of (b1 _)]
  simp only [Tk.give, mkCd, bareC, List.length_map]
/-- WHAT IS LAID IS TAKEN. -/
theorem pPool_put (L : List CdT) (h : PlOk L) (t : ByteArray) : pPool (poolB L t) = some (L.map bareC, t) := by
  obtain ⟨h1, h2⟩ := h
  exact pList_put 40 L h1 (by omega) (fun c hc t => pCd_put c (h2 c hc) t) t
end Go.Proofs.YtbeaaieaffdgeaaDoor
end
/- plain. (Written by gen5t.py.) -/
section
namespace Go.Proofs.YtbeaaieaffdgeaaDoor
open Go.RowKit
set_option linter.unusedVariables false
set_option linter.unusedSimpArgs false

/-- An ability's row, one behind the other. -/
def abRow (A : List AbT) : List Value := A.flatMap fun t => abCells t.1
theorem abCells_len (x : Ab) : (abCells x).length = 13 := rfl
theorem abRow_len : ∀ A : List AbT, (abRow A).length = A.length * 13
  | [] => rfl
  | t :: A => by
    have := abRow_len A
    simp only [abRow, List.flatMap_cons, List.length_append, abCells_len, List.length_cons] at *
    omega
theorem abRow_at : ∀ (A : List AbT) (j : Nat) (h : j < A.length) (i : Nat), i < 13 → (abRow A)[j * 13 + i]? = (abCells A[j].1)[i]?
  | [], j, h, i, hi => by simp at h
  | t :: A, 0, h, i, hi => by
    simp only [abRow, List.flatMap_cons]
    rw [List.getElem?_append_left (by rw [abCells_len]; omega)]
    simp
  | t :: A, j + 1, h, i, hi => by
    have := abRow_at A j (by simpa using h) i hi
    simp only [abRow, List.flatMap_cons] at *
    rw [List.getElem?_append_right (by rw [abCells_len]; omega), abCells_len, show (j + 1) * 13 + i - 13 = j * 13 + i by omega, this]
    simp
theorem isA_row {w : World} {a : Option Addr} {c n : Nat} {A : List AbT} (hn : A.length = n) (hr : ∀ t ∈ A, AbR w t.1 t.2.1 t.2.2) (h : Row w a c 13 n (abRow A)) : IsA w a c A := by
  subst hn
  obtain ⟨h1, h2, h3 | ⟨b, off, h3, h4, h5⟩⟩ := h
  · exact ⟨h1, h2, hr, .inl h3⟩
  · exact ⟨h1, h2, hr, .inr ⟨b, off, h3, h4, fun j hj i hi => by
      have := h5 (j * 13 + i) (by omega)
      rw [← Nat.add_assoc] at this
      rw [this, abRow_at A j hj i hi]⟩⟩
theorem LitAt.row {w : World} {b : Nat} {cs : List Value} (h : LitAt w b cs) (size n : Nat) (hn : n ≤ 9223372036854775807) (hs : n * size ≤ cs.length) : Row w (some ⟨b, 0, none⟩) n size n cs :=
  ⟨Nat.le_refl _, hn, .inr ⟨b, 0, rfl, h.1, fun i hi => by rw [Nat.zero_add]; exact h.2 i (by omega)⟩⟩
theorem LitAt.isL {w : World} {b : Nat} {T : List Int} (h : LitAt w b (T.map (Value.int .i64))) (n : Nat) (hn : T.length = n) (hm : n ≤ 1000) : IsL w (some ⟨b, 0, none⟩) n T :=
  isL_row hn (h.row 1 n (by omega) (by simp [hn]))
theorem LitAt.isC {w : World} {b : Nat} {L : List Ins} (h : LitAt w b (insCells L)) (n : Nat) (hn : L.length = n) (hm : n ≤ 1000) : IsC w (some ⟨b, 0, none⟩) n L :=
  isC_row hn (h.row 3 n (by omega) (by rw [insCells_len, hn]; exact Nat.le_refl _))
theorem LitAt.isA {w : World} {b : Nat} {A : List AbT} (h : LitAt w b (abRow A)) (hr : ∀ t ∈ A, AbR w t.1 t.2.1 t.2.2) (n : Nat) (hn : A.length = n) (hm : n ≤ 1000) : IsA w (some ⟨b, 0, none⟩) n A :=
  isA_row hn hr (h.row 13 n (by omega) (by rw [abRow_len, hn]; exact Nat.le_refl _))
theorem LitAt.up {w : World} {b : Nat} {cs : List Value} (h : LitAt w b cs) (o : Obj) : LitAt (w.alloc o) b cs := h.next (below_alloc1 _ _)
theorem litAt_top (w : World) (cs : List Value) (T : TypeId) (b : Nat) (hb : b = w.heap.size) : LitAt (w.alloc (.cells cs.toArray T)) b cs := by
  subst hb
  exact litAt_new w cs T
/-- Without its addresses. -/
def erA (x : Ab) : Ab := { x with ta := none, tc := 0, ca := none, cc := 0 }
def erT (t : AbT) : AbT := (erA t.1, t.2)
def erC (y : Cd) : Cd := { y with aa := none, ac := 0 }
/-- What plain tells, without addresses. -/
def pC : Nat → Cd
  | 1 => ⟨⟨#[97]⟩, 1, 0, 0, 0, 0, 2, 0, 0, 0, none, 1, 0⟩
  | 2 => ⟨⟨#[97]⟩, 2, 1, 0, 0, 2, 0, 2, 3, 3, none, 2, 0⟩
  | 3 => ⟨⟨#[97]⟩, 3, 1, 0, 0, 2, 0, 0, 0, 0, none, 1, 0⟩
  | _ => ⟨⟨#[97]⟩, 4, 1, 0, 0, 2, 0, 0, 0, 64, none, 2, 0⟩
def pA : Nat → List AbT
  | 1 => [(⟨2, 0, 0, 0, 0, 0, 0, true, none, 1, 0, none, 2, 0, 0, 0, 0⟩, [3], [⟨1, 1, 0⟩, ⟨10, 0, 0⟩])]
  | 2 => [(⟨3, 1, 1, 0, 0, 0, 0, false, none, 0, 0, none, 2, 0, 0, 0, 0⟩, [], [⟨1, 1, 0⟩, ⟨12, 3, 0⟩]), (⟨5, 2, 0, 0, 0, 0, 0, false, none, 0, 0, none, 0, 0, 0, 0, 0⟩, [], [])]
  | 3 => [(⟨1, 0, 0, 0, 0, 0, 0, false, none, 1, 0, none, 2, 0, 0, 0, 0⟩, [1], [⟨1, 2, 0⟩, ⟨10, 0, 0⟩])]
  | _ => [(⟨4, 0, 1, 0, 0, 0, 0, false, none, 0, 0, none, 0, 0, 4, 1, -1⟩, [], []), (⟨5, 1, 0, 0, 0, 0, 0, false, none, 0, 0, none, 0, 0, 0, 1, 0⟩, [], [])]
/-- It reads so, whatever becomes of the blocks X. -/
def CdX (X : Nat → Prop) (w : World) (y : Cd) (A : List AbT) : Prop :=
  ∀ W : World, w.heap.size ≤ W.heap.size → (∀ g o, g < w.heap.size → ¬ X g → W.cell? ⟨g, o, none⟩ = w.cell? ⟨g, o, none⟩) → CdR W y A
theorem CdX.now {X : Nat → Prop} {w : World} {y : Cd} {A : List AbT} (h : CdX X w y A) : CdR w y A := h w (Nat.le_refl _) fun _ _ _ _ => rfl
theorem CdX.next {X : Nat → Prop} {w w' : World} {y : Cd} {A : List AbT} (h : CdX X w y A) (k : Below w.heap.size w w') : CdX X w' y A :=
  fun W hs hc => h W (Nat.le_trans k.size hs) fun g o hg hx => (hc g o (Nat.lt_of_lt_of_le hg k.size) hx).trans (k.cell (p := ⟨g, o, none⟩) hg)
theorem CdX.set {X : Nat → Prop} {w : World} {y : Cd} {A : List AbT} (h : CdX X w y A) (b i : Nat) (hb : X b) (v : Value) : CdX X (w.setCell ⟨b, i, none⟩ v) y A :=
  fun W hs hc => h W (by simpa [World.setCell] using hs) fun g o hg hx => (hc g o (by simpa [World.setCell] using hg) hx).trans (World.cell?_setCell_far w ⟨b, i, none⟩ ⟨g, o, none⟩ v (fun e => hx (by rw [← (show b = g from e)]; exact hb)))
theorem CdX.less {X Y : Nat → Prop} {w : World} {y : Cd} {A : List AbT} (h : CdX X w y A) (hy : ∀ g, Y g → X g) : CdX Y w y A :=
  fun W hs hc => h W hs fun g o hg hx => hc g o hg (fun e => hx (hy g e))
theorem IsL.agree {w W : World} {a : Option Addr} {c : Nat} {L : List Int} (h : IsL w a c L) (hs : w.heap.size ≤ W.heap.size) (hc : ∀ g o, g < w.heap.size → W.cell? ⟨g, o, none⟩ = w.cell? ⟨g, o, none⟩) : IsL W a c L := by
  obtain ⟨h1, h2, h3 | ⟨b, off, h3, h4, h5⟩⟩ := h
  · exact ⟨h1, h2, .inl h3⟩
  · exact ⟨h1, h2, .inr ⟨b, off, h3, Nat.lt_of_lt_of_le h4 hs, fun j hj => (hc _ _ h4).trans (h5 j hj)⟩⟩
theorem IsC.agree {w W : World} {a : Option Addr} {c : Nat} {L : List Ins} (h : IsC w a c L) (hs : w.heap.size ≤ W.heap.size) (hc : ∀ g o, g < w.heap.size → W.cell? ⟨g, o, none⟩ = w.cell? ⟨g, o, none⟩) : IsC W a c L := by
  obtain ⟨h1, h2, h3 | ⟨b, off, h3, h4, h5⟩⟩ := h
  · exact ⟨h1, h2, .inl h3⟩
  · exact ⟨h1, h2, .inr ⟨b, off, h3, Nat.lt_of_lt_of_le h4 hs, fun j hj => ⟨(hc _ _ h4).trans (h5 j hj).1, (hc _ _ h4).trans (h5 j hj).2.1, (hc _ _ h4).trans (h5 j hj).2.2⟩⟩⟩
theorem AbR.agree {w W : World} {x : Ab} {T : List Int} {L : List Ins} (h : AbR w x T L) (hs : w.heap.size ≤ W.heap.size) (hc : ∀ g o, g < w.heap.size → W.cell? ⟨g, o, none⟩ = w.cell? ⟨g, o, none⟩) : AbR W x T L :=
  ⟨⟨h.1.1, h.1.2.agree hs hc⟩, h.2.1, h.2.2.agree hs hc⟩
theorem IsA.agree {w W : World} {a : Option Addr} {c : Nat} {A : List AbT} (h : IsA w a c A) (hs : w.heap.size ≤ W.heap.size) (hc : ∀ g o, g < w.heap.size → W.cell? ⟨g, o, none⟩ = w.cell? ⟨g, o, none⟩) : IsA W a c A := by
  obtain ⟨h1, h2, h0, h3⟩ := h
  refine ⟨h1, h2, fun t ht => (h0 t ht).agree hs hc, ?_⟩
  rcases h3 with h3 | ⟨b, off, h3, h4, h5⟩
  · exact .inl h3
  · exact .inr ⟨b, off, h3, Nat.lt_of_lt_of_le h4 hs, fun j hj i hi => (hc _ _ h4).trans (h5 j hj i hi)⟩
/-- What reads so in w reads so whatever becomes of blocks that w has not. -/
theorem CdR.old {X : Nat → Prop} {w w' : World} {y : Cd} {A : List AbT} (h : CdR w y A) (k : Below w.heap.size w w') (hX : ∀ g, X g → w.heap.size ≤ g) : CdX X w' y A :=
  fun W hs hc => ⟨h.1, h.2.agree (Nat.le_trans k.size hs) fun g o hg => (hc g o (Nat.lt_of_lt_of_le hg k.size) (fun e => by have := hX g e; omega)).trans (k.cell (p := ⟨g, o, none⟩) hg)⟩
theorem LitAt.agree {X : Nat → Prop} {w W : World} {b : Nat} {cs : List Value} (h : LitAt w b cs) (hs : w.heap.size ≤ W.heap.size) (hc : ∀ g o, g < w.heap.size → ¬ X g → W.cell? ⟨g, o, none⟩ = w.cell? ⟨g, o, none⟩) (hb : ¬ X b) : LitAt W b cs :=
  ⟨Nat.lt_of_lt_of_le h.1 hs, fun i hi => (hc b i h.1 hb).trans (h.2 i hi)⟩
/-- A card comes back that reads so, whatever becomes of the blocks X. -/
def OutC (X : Nat → Prop) (w w' : World) (e : Ending) (p : Cd × List AbT) : Prop :=
  ∃ y A, e = .returned (.agg #[.string y.nm, .int .i64 y.k, .int .i64 y.c0, .int .i64 y.c1, .int .i64 y.c2, .int .i64 y.c3, .int .i64 y.col, .int .i64 y.pow, .int .i64 y.tou, .int .i64 y.keys, .slice y.aa y.an y.ac]) ∧ CdX X w' y A ∧ CdOk y ∧ erC y = p.1 ∧ A.map erT = p.2 ∧ Below w.heap.size w w'
end Go.Proofs.YtbeaaieaffdgeaaDoor
end
/- A pool in memory. -/
section
namespace Go.Proofs.YtbeaaieaffdgeaaDoor
open Go.RowKit
set_option linter.unusedVariables false
set_option linter.unusedSimpArgs false

theorem cdCells_len (y : Cd) : (cdCells y).length = 11 := rfl
def cdRow (L : List CdT) : List Value := L.flatMap fun c => cdCells c.1
theorem cdRow_len : ∀ L : List CdT, (cdRow L).length = L.length * 11
  | [] => rfl
  | t :: A => by
    have := cdRow_len A
    simp only [cdRow, List.flatMap_cons, List.length_append, cdCells_len, List.length_cons] at *
    omega
theorem cdRow_at : ∀ (A : List CdT) (j : Nat) (h : j < A.length) (i : Nat), i < 11 → (cdRow A)[j * 11 + i]? = (cdCells A[j].1)[i]?
  | [], j, h, i, hi => by simp at h
  | t :: A, 0, h, i, hi => by
    simp only [cdRow, List.flatMap_cons]
    rw [List.getElem?_append_left (by rw [cdCells_len]; omega)]
    simp
  | t :: A, j + 1, h, i, hi => by
    have := cdRow_at A j (by simpa using h) i hi
    simp only [cdRow, List.flatMap_cons] at *
    rw [List.getElem?_append_right (by rw [cdCells_len]; omega), cdCells_len, show (j + 1) * 11 + i - 11 = j * 11 + i by omega, this]
    simp
/-- The slice of address a and capacity c reads as these cards. -/
def IsP (w : World) (a : Option Addr) (c : Nat) (L : List CdT) : Prop :=
  L.length ≤ c ∧ c ≤ 9223372036854775807 ∧ (∀ t ∈ L, CdR w t.1 t.2) ∧
  (L.length = 0 ∨ ∃ b off, a = some ⟨b, off, none⟩ ∧ b < w.heap.size ∧ ∀ j (h : j < L.length) i, i < 11 → w.cell? ⟨b, off + j * 11 + i, none⟩ = (cdCells L[j].1)[i]?)
theorem IsP.next {w w' : World} {a : Option Addr} {c : Nat} {L : List CdT} (h : IsP w a c L) (k : Below w.heap.size w w') : IsP w' a c L := by
  obtain ⟨h1, h2, h0, h3⟩ := h
  refine ⟨h1, h2, fun t ht => (h0 t ht).next k, ?_⟩
  rcases h3 with h3 | ⟨b, off, h3, h4, h5⟩
  · exact .inl h3
  · exact .inr ⟨b, off, h3, Nat.lt_of_lt_of_le h4 k.size, fun j hj i hi => (k.cell (p := ⟨b, off + j * 11 + i, none⟩) h4).trans (h5 j hj i hi)⟩
theorem IsP.nil (w : World) : IsP w none 0 [] := ⟨by simp, by omega, (fun t ht => by cases ht), .inl rfl⟩
theorem IsP.at {w : World} {a : Option Addr} {c : Nat} {L : List CdT} (h : IsP w a c L) (k : Nat) (hk : k < L.length) : ∃ b off y A, (y, A) = L[k] ∧ CdR w y A ∧ a = some ⟨b, off, none⟩ ∧ b < w.heap.size ∧
    (w.cell? ⟨b, off + k * 11, none⟩ = some (.string y.nm) ∧
    w.cell? ⟨b, off + k * 11 + 1, none⟩ = some (.int .i64 y.k) ∧
    w.cell? ⟨b, off + k * 11 + 2, none⟩ = some (.int .i64 y.c0) ∧
    w.cell? ⟨b, off + k * 11 + 3, none⟩ = some (.int .i64 y.c1) ∧
    w.cell? ⟨b, off + k * 11 + 4, none⟩ = some (.int .i64 y.c2) ∧
    w.cell? ⟨b, off + k * 11 + 5, none⟩ = some (.int .i64 y.c3) ∧
    w.cell? ⟨b, off + k * 11 + 6, none⟩ = some (.int .i64 y.col) ∧
    w.cell? ⟨b, off + k * 11 + 7, none⟩ = some (.int .i64 y.pow) ∧
    w.cell? ⟨b, off + k * 11 + 8, none⟩ = some (.int .i64 y.tou) ∧
    w.cell? ⟨b, off + k * 11 + 9, none⟩ = some (.int .i64 y.keys) ∧
    w.cell? ⟨b, off + k * 11 + 10, none⟩ = some (.slice y.aa y.an y.ac)) := by
  obtain ⟨h1, h2, h0, h3 | ⟨b, off, h3, h4, h5⟩⟩ := h
  · omega
  · have h6 := h5 k hk
    exact ⟨b, off, L[k].1, L[k].2, rfl, h0 _ (List.getElem_mem hk), h3, h4, h6 0 (by omega), h6 1 (by omega), h6 2 (by omega), h6 3 (by omega), h6 4 (by omega), h6 5 (by omega), h6 6 (by omega), h6 7 (by omega), h6 8 (by omega), h6 9 (by omega), h6 10 (by omega)⟩
theorem isP_row {w : World} {a : Option Addr} {c n : Nat} {L : List CdT} (hn : L.length = n) (hr : ∀ t ∈ L, CdR w t.1 t.2) (h : Row w a c 11 n (cdRow L)) : IsP w a c L := by
  subst hn
  obtain ⟨h1, h2, h3 | ⟨b, off, h3, h4, h5⟩⟩ := h
  · exact ⟨h1, h2, hr, .inl h3⟩
  · exact ⟨h1, h2, hr, .inr ⟨b, off, h3, h4, fun j hj i hi => by
      have := h5 (j * 11 + i) (by omega)
      rw [← Nat.add_assoc] at this
      rw [this, cdRow_at L j hj i hi]⟩⟩
end Go.Proofs.YtbeaaieaffdgeaaDoor
end
