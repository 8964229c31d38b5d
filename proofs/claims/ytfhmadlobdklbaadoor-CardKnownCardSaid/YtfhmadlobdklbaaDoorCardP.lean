/- The document's answer: body. (Written by gen5p.py.) -/
import Derived.Test.YtfhmadlobdklbaaDoorCardO
namespace Go.Proofs.YtfhmadlobdklbaaDoor
open Go.RowKit
set_option linter.unusedVariables false
set_option linter.unusedSimpArgs false

theorem refIn_at (n lo hi : Int) (r : Bool) (hr : btw lo hi n = r) (w : World) :
    Calls Tryd.prog 17 #[.int .i64 n, .int .i64 lo, .int .i64 hi] w fun e w' => e = .returned (.bool r) ∧ w = w' := by
  subst hr
  exact refIn_any n lo hi w
theorem LitAt.cells11 {w : World} {b : Nat} {v0 v1 v2 v3 v4 v5 v6 v7 v8 v9 v10 : Value} (h : LitAt w b [v0, v1, v2, v3, v4, v5, v6, v7, v8, v9, v10]) :
    w.cell? ⟨b, 0, none⟩ = some v0 ∧ w.cell? ⟨b, 1, none⟩ = some v1 ∧ w.cell? ⟨b, 2, none⟩ = some v2 ∧ w.cell? ⟨b, 3, none⟩ = some v3 ∧ w.cell? ⟨b, 4, none⟩ = some v4 ∧ w.cell? ⟨b, 5, none⟩ = some v5 ∧ w.cell? ⟨b, 6, none⟩ = some v6 ∧
    w.cell? ⟨b, 7, none⟩ = some v7 ∧ w.cell? ⟨b, 8, none⟩ = some v8 ∧ w.cell? ⟨b, 9, none⟩ = some v9 ∧ w.cell? ⟨b, 10, none⟩ = some v10 :=
  ⟨h.2 0 (by simp), h.2 1 (by simp), h.2 2 (by simp), h.2 3 (by simp), h.2 4 (by simp), h.2 5 (by simp), h.2 6 (by simp), h.2 7 (by simp), h.2 8 (by simp), h.2 9 (by simp), h.2 10 (by simp)⟩
def zeroC (y : Cd) : Bool := y.c0 == 0 && (y.c1 == 0 && (y.c2 == 0 && y.c3 == 0))
theorem b03 : btw 0 3 0 = true := rfl
theorem b015 : btw 0 15 0 = true := rfl
/-- What the document's body tells. -/
def refBodyB (y : Cd) : Bool :=
  if y.k = 1 then wi (costL 20 y.c0 y.c1 y.c2 y.c3) && (zeroC y && (btw 0 3 y.col && (btw 0 15 y.pow && (btw 0 15 y.tou && ((y.pow == 0 && y.tou == 0) && y.keys == 0)))))
  else if y.k = 2 then wi (costL 20 y.c0 y.c1 y.c2 y.c3) && (btw 0 3 y.col && (y.col == 0 && (btw 0 15 y.pow && (btw 0 15 y.tou && btw 0 127 y.keys))))
  else if y.k = 3 ∨ y.k = 4 then wi (costL 20 y.c0 y.c1 y.c2 y.c3) && (btw 0 3 y.col && (y.col == 0 && (btw 0 15 y.pow && (btw 0 15 y.tou && ((y.pow == 0 && y.tou == 0) && (y.keys == 0 || y.keys == 64))))))
  else false
set_option maxRecDepth 100000 in
set_option maxHeartbeats 4000000 in
theorem refBody_1 (y : Cd) (hk : y.k = 1) (r : Bool) (hr : refBodyB y = r) (w : World) :
    Calls Tryd.prog 18 #[.agg #[.string y.nm, .int .i64 1, .int .i64 y.c0, .int .i64 y.c1, .int .i64 y.c2, .int .i64 y.c3, .int .i64 y.col, .int .i64 y.pow, .int .i64 y.tou, .int .i64 y.keys, .slice y.aa y.an y.ac]] w fun e w' => e = .returned (.bool r) ∧ Below w.heap.size w w' := by
  have HR := Lib.hid hr
  have HK := Lib.hid hk
  have HW := Lib.hid (below_alloc1 w (.cells #[.string y.nm, .int .i64 1, .int .i64 y.c0, .int .i64 y.c1, .int .i64 y.c2, .int .i64 y.c3, .int .i64 y.col, .int .i64 y.pow, .int .i64 y.tou, .int .i64 y.keys, .slice y.aa y.an y.ac] 26))
  have HX := Lib.hid (litAt_new w (#[.string y.nm, .int .i64 1, .int .i64 y.c0, .int .i64 y.c1, .int .i64 y.c2, .int .i64 y.c3, .int .i64 y.col, .int .i64 y.pow, .int .i64 y.tou, .int .i64 y.keys, .slice y.aa y.an y.ac] : Array Value).toList 26)
  have hqz := fun W => equal_mana y.c0 y.c1 y.c2 y.c3 0 0 0 0 W
  obtain ⟨s, hs⟩ : ∃ s, s = zeroC y := ⟨_, rfl⟩
  change ∀ W, _ = Result.ok (zeroC y) W at hqz
  rw [← hs] at hqz
  have HS := Lib.hid hs
  clear hr hk hs
  cases hco : wi (costL 20 y.c0 y.c1 y.c2 y.c3)
  all_goals
    have HCo := Lib.hid hco
    clear hco
    go_enter Tryd.func18, Tryd.ntmps18
    go_wp2_with fail
    generalize w.alloc (.cells #[.string y.nm, .int .i64 1, .int .i64 y.c0, .int .i64 y.c1, .int .i64 y.c2, .int .i64 y.c3, .int .i64 y.col, .int .i64 y.pow, .int .i64 y.tou, .int .i64 y.keys, .slice y.aa y.an y.ac] 26) = W at *
    obtain ⟨q0, q1, q2, q3, q4, q5, q6, q7, q8, q9, q10⟩ := HX.out.cells11
    go_quiet (fail)
    go_wp2_with fail
    refine (refIn_at _ _ _ true (by decide) _).mono ?_
    rintro e w1 ⟨rfl, rfl⟩
    go_wp2_with fail
    refine (refCost_any _ _ _ _ _ HCo.out _).mono ?_
    rintro e w1 ⟨rfl, hb⟩
    have HB1 := Lib.hid (below_then' (below_drew W _) hb (Nat.le_refl _))
    clear hb q0 q1 q2 q3 q4 q5 q6 q7 q8 q9 q10
    obtain ⟨q0, q1, q2, q3, q4, q5, q6, q7, q8, q9, q10⟩ := (HX.out.next HB1.out).cells11
    go_wp2_with (go_at_call 17; refine (refIn_any _ _ _ _).mono ?_; rintro e w' ⟨rfl, rfl⟩)
    all_goals
      clear q0 q1 q2 q3 q4 q5 q6 q7 q8 q9 q10 hqz
      go_ret
      refine ⟨bool_ret ?_, HW.out.trans (HB1.out.mono HW.out.size)⟩
      rw [← HR.out, refBodyB, HK.out, HCo.out]
      try simp only [Bool.not_eq_true', Bool.not_eq_false', Bool.not_eq_true, beq_iff_eq, beq_eq_false_iff_ne, bne_iff_ne, bne_eq_false_iff_eq, ne_eq] at *
      simp [← HS.out, b03, b015, *]
set_option maxRecDepth 100000 in
set_option maxHeartbeats 4000000 in
theorem refBody_2 (y : Cd) (hk : y.k = 2) (r : Bool) (hr : refBodyB y = r) (w : World) :
    Calls Tryd.prog 18 #[.agg #[.string y.nm, .int .i64 2, .int .i64 y.c0, .int .i64 y.c1, .int .i64 y.c2, .int .i64 y.c3, .int .i64 y.col, .int .i64 y.pow, .int .i64 y.tou, .int .i64 y.keys, .slice y.aa y.an y.ac]] w fun e w' => e = .returned (.bool r) ∧ Below w.heap.size w w' := by
  have HR := Lib.hid hr
  have HK := Lib.hid hk
  have HW := Lib.hid (below_alloc1 w (.cells #[.string y.nm, .int .i64 2, .int .i64 y.c0, .int .i64 y.c1, .int .i64 y.c2, .int .i64 y.c3, .int .i64 y.col, .int .i64 y.pow, .int .i64 y.tou, .int .i64 y.keys, .slice y.aa y.an y.ac] 26))
  have HX := Lib.hid (litAt_new w (#[.string y.nm, .int .i64 2, .int .i64 y.c0, .int .i64 y.c1, .int .i64 y.c2, .int .i64 y.c3, .int .i64 y.col, .int .i64 y.pow, .int .i64 y.tou, .int .i64 y.keys, .slice y.aa y.an y.ac] : Array Value).toList 26)
  have hqz := fun W => equal_mana y.c0 y.c1 y.c2 y.c3 0 0 0 0 W
  obtain ⟨s, hs⟩ : ∃ s, s = zeroC y := ⟨_, rfl⟩
  change ∀ W, _ = Result.ok (zeroC y) W at hqz
  rw [← hs] at hqz
  have HS := Lib.hid hs
  clear hr hk hs
  cases hco : wi (costL 20 y.c0 y.c1 y.c2 y.c3)
  all_goals
    have HCo := Lib.hid hco
    clear hco
    go_enter Tryd.func18, Tryd.ntmps18
    go_wp2_with fail
    generalize w.alloc (.cells #[.string y.nm, .int .i64 2, .int .i64 y.c0, .int .i64 y.c1, .int .i64 y.c2, .int .i64 y.c3, .int .i64 y.col, .int .i64 y.pow, .int .i64 y.tou, .int .i64 y.keys, .slice y.aa y.an y.ac] 26) = W at *
    obtain ⟨q0, q1, q2, q3, q4, q5, q6, q7, q8, q9, q10⟩ := HX.out.cells11
    go_quiet (fail)
    go_wp2_with fail
    refine (refIn_at _ _ _ true (by decide) _).mono ?_
    rintro e w1 ⟨rfl, rfl⟩
    go_wp2_with fail
    refine (refCost_any _ _ _ _ _ HCo.out _).mono ?_
    rintro e w1 ⟨rfl, hb⟩
    have HB1 := Lib.hid (below_then' (below_drew W _) hb (Nat.le_refl _))
    clear hb q0 q1 q2 q3 q4 q5 q6 q7 q8 q9 q10
    obtain ⟨q0, q1, q2, q3, q4, q5, q6, q7, q8, q9, q10⟩ := (HX.out.next HB1.out).cells11
    go_wp2_with (go_at_call 17; refine (refIn_any _ _ _ _).mono ?_; rintro e w' ⟨rfl, rfl⟩)
    all_goals
      clear q0 q1 q2 q3 q4 q5 q6 q7 q8 q9 q10 hqz
      go_ret
      refine ⟨bool_ret ?_, HW.out.trans (HB1.out.mono HW.out.size)⟩
      rw [← HR.out, refBodyB, HK.out, HCo.out]
      try simp only [Bool.not_eq_true', Bool.not_eq_false', Bool.not_eq_true, beq_iff_eq, beq_eq_false_iff_ne, bne_iff_ne, bne_eq_false_iff_eq, ne_eq] at *
      simp [← HS.out, b03, b015, *]
set_option maxRecDepth 100000 in
set_option maxHeartbeats 4000000 in
theorem refBody_3 (y : Cd) (hk : y.k = 3) (r : Bool) (hr : refBodyB y = r) (w : World) :
    Calls Tryd.prog 18 #[.agg #[.string y.nm, .int .i64 3, .int .i64 y.c0, .int .i64 y.c1, .int .i64 y.c2, .int .i64 y.c3, .int .i64 y.col, .int .i64 y.pow, .int .i64 y.tou, .int .i64 y.keys, .slice y.aa y.an y.ac]] w fun e w' => e = .returned (.bool r) ∧ Below w.heap.size w w' := by
  have HR := Lib.hid hr
  have HK := Lib.hid hk
  have HW := Lib.hid (below_alloc1 w (.cells #[.string y.nm, .int .i64 3, .int .i64 y.c0, .int .i64 y.c1, .int .i64 y.c2, .int .i64 y.c3, .int .i64 y.col, .int .i64 y.pow, .int .i64 y.tou, .int .i64 y.keys, .slice y.aa y.an y.ac] 26))
  have HX := Lib.hid (litAt_new w (#[.string y.nm, .int .i64 3, .int .i64 y.c0, .int .i64 y.c1, .int .i64 y.c2, .int .i64 y.c3, .int .i64 y.col, .int .i64 y.pow, .int .i64 y.tou, .int .i64 y.keys, .slice y.aa y.an y.ac] : Array Value).toList 26)
  have hqz := fun W => equal_mana y.c0 y.c1 y.c2 y.c3 0 0 0 0 W
  obtain ⟨s, hs⟩ : ∃ s, s = zeroC y := ⟨_, rfl⟩
  change ∀ W, _ = Result.ok (zeroC y) W at hqz
  rw [← hs] at hqz
  have HS := Lib.hid hs
  clear hr hk hs
  cases hco : wi (costL 20 y.c0 y.c1 y.c2 y.c3)
  all_goals
    have HCo := Lib.hid hco
    clear hco
    go_enter Tryd.func18, Tryd.ntmps18
    go_wp2_with fail
    generalize w.alloc (.cells #[.string y.nm, .int .i64 3, .int .i64 y.c0, .int .i64 y.c1, .int .i64 y.c2, .int .i64 y.c3, .int .i64 y.col, .int .i64 y.pow, .int .i64 y.tou, .int .i64 y.keys, .slice y.aa y.an y.ac] 26) = W at *
    obtain ⟨q0, q1, q2, q3, q4, q5, q6, q7, q8, q9, q10⟩ := HX.out.cells11
    go_quiet (fail)
    go_wp2_with fail
    refine (refIn_at _ _ _ true (by decide) _).mono ?_
    rintro e w1 ⟨rfl, rfl⟩
    go_wp2_with fail
    refine (refCost_any _ _ _ _ _ HCo.out _).mono ?_
    rintro e w1 ⟨rfl, hb⟩
    have HB1 := Lib.hid (below_then' (below_drew W _) hb (Nat.le_refl _))
    clear hb q0 q1 q2 q3 q4 q5 q6 q7 q8 q9 q10
    obtain ⟨q0, q1, q2, q3, q4, q5, q6, q7, q8, q9, q10⟩ := (HX.out.next HB1.out).cells11
    go_wp2_with (go_at_call 17; refine (refIn_any _ _ _ _).mono ?_; rintro e w' ⟨rfl, rfl⟩)
    all_goals
      clear q0 q1 q2 q3 q4 q5 q6 q7 q8 q9 q10 hqz
      go_ret
      refine ⟨bool_ret ?_, HW.out.trans (HB1.out.mono HW.out.size)⟩
      rw [← HR.out, refBodyB, HK.out, HCo.out]
      try simp only [Bool.not_eq_true', Bool.not_eq_false', Bool.not_eq_true, beq_iff_eq, beq_eq_false_iff_ne, bne_iff_ne, bne_eq_false_iff_eq, ne_eq] at *
      simp [← HS.out, b03, b015, *]
set_option maxRecDepth 100000 in
set_option maxHeartbeats 4000000 in
theorem refBody_4 (y : Cd) (hk : y.k = 4) (r : Bool) (hr : refBodyB y = r) (w : World) :
    Calls Tryd.prog 18 #[.agg #[.string y.nm, .int .i64 4, .int .i64 y.c0, .int .i64 y.c1, .int .i64 y.c2, .int .i64 y.c3, .int .i64 y.col, .int .i64 y.pow, .int .i64 y.tou, .int .i64 y.keys, .slice y.aa y.an y.ac]] w fun e w' => e = .returned (.bool r) ∧ Below w.heap.size w w' := by
  have HR := Lib.hid hr
  have HK := Lib.hid hk
  have HW := Lib.hid (below_alloc1 w (.cells #[.string y.nm, .int .i64 4, .int .i64 y.c0, .int .i64 y.c1, .int .i64 y.c2, .int .i64 y.c3, .int .i64 y.col, .int .i64 y.pow, .int .i64 y.tou, .int .i64 y.keys, .slice y.aa y.an y.ac] 26))
  have HX := Lib.hid (litAt_new w (#[.string y.nm, .int .i64 4, .int .i64 y.c0, .int .i64 y.c1, .int .i64 y.c2, .int .i64 y.c3, .int .i64 y.col, .int .i64 y.pow, .int .i64 y.tou, .int .i64 y.keys, .slice y.aa y.an y.ac] : Array Value).toList 26)
  have hqz := fun W => equal_mana y.c0 y.c1 y.c2 y.c3 0 0 0 0 W
  obtain ⟨s, hs⟩ : ∃ s, s = zeroC y := ⟨_, rfl⟩
  change ∀ W, _ = Result.ok (zeroC y) W at hqz
  rw [← hs] at hqz
  have HS := Lib.hid hs
  clear hr hk hs
  cases hco : wi (costL 20 y.c0 y.c1 y.c2 y.c3)
  all_goals
    have HCo := Lib.hid hco
    clear hco
    go_enter Tryd.func18, Tryd.ntmps18
    go_wp2_with fail
    generalize w.alloc (.cells #[.string y.nm, .int .i64 4, .int .i64 y.c0, .int .i64 y.c1, .int .i64 y.c2, .int .i64 y.c3, .int .i64 y.col, .int .i64 y.pow, .int .i64 y.tou, .int .i64 y.keys, .slice y.aa y.an y.ac] 26) = W at *
    obtain ⟨q0, q1, q2, q3, q4, q5, q6, q7, q8, q9, q10⟩ := HX.out.cells11
    go_quiet (fail)
    go_wp2_with fail
    refine (refIn_at _ _ _ true (by decide) _).mono ?_
    rintro e w1 ⟨rfl, rfl⟩
    go_wp2_with fail
    refine (refCost_any _ _ _ _ _ HCo.out _).mono ?_
    rintro e w1 ⟨rfl, hb⟩
    have HB1 := Lib.hid (below_then' (below_drew W _) hb (Nat.le_refl _))
    clear hb q0 q1 q2 q3 q4 q5 q6 q7 q8 q9 q10
    obtain ⟨q0, q1, q2, q3, q4, q5, q6, q7, q8, q9, q10⟩ := (HX.out.next HB1.out).cells11
    go_wp2_with (go_at_call 17; refine (refIn_any _ _ _ _).mono ?_; rintro e w' ⟨rfl, rfl⟩)
    all_goals
      clear q0 q1 q2 q3 q4 q5 q6 q7 q8 q9 q10 hqz
      go_ret
      refine ⟨bool_ret ?_, HW.out.trans (HB1.out.mono HW.out.size)⟩
      rw [← HR.out, refBodyB, HK.out, HCo.out]
      try simp only [Bool.not_eq_true', Bool.not_eq_false', Bool.not_eq_true, beq_iff_eq, beq_eq_false_iff_ne, bne_iff_ne, bne_eq_false_iff_eq, ne_eq] at *
      simp [← HS.out, b03, b015, *]
set_option maxRecDepth 100000 in
set_option maxHeartbeats 4000000 in
theorem refBody_0 (y : Cd) (hk : btw 1 4 y.k = false) (w : World) :
    Calls Tryd.prog 18 #[.agg #[.string y.nm, .int .i64 y.k, .int .i64 y.c0, .int .i64 y.c1, .int .i64 y.c2, .int .i64 y.c3, .int .i64 y.col, .int .i64 y.pow, .int .i64 y.tou, .int .i64 y.keys, .slice y.aa y.an y.ac]] w fun e w' => e = .returned (.bool false) ∧ Below w.heap.size w w' := by
  have HK := Lib.hid hk
  have HW := Lib.hid (below_alloc1 w (.cells #[.string y.nm, .int .i64 y.k, .int .i64 y.c0, .int .i64 y.c1, .int .i64 y.c2, .int .i64 y.c3, .int .i64 y.col, .int .i64 y.pow, .int .i64 y.tou, .int .i64 y.keys, .slice y.aa y.an y.ac] 26))
  have HX := Lib.hid (boxC_new w y 26)
  clear hk
  go_enter Tryd.func18, Tryd.ntmps18
  go_wp2_with fail
  generalize w.alloc (.cells #[.string y.nm, .int .i64 y.k, .int .i64 y.c0, .int .i64 y.c1, .int .i64 y.c2, .int .i64 y.c3, .int .i64 y.col, .int .i64 y.pow, .int .i64 y.tou, .int .i64 y.keys, .slice y.aa y.an y.ac] 26) = W at *
  obtain ⟨q0, q1, q2, q3, q4, q5, q6, q7, q8, q9, q10⟩ := HX.out.cells
  go_quiet (fail)
  go_wp2_with fail
  refine (refIn_at _ _ _ false HK.out _).mono ?_
  rintro e w1 ⟨rfl, rfl⟩
  go_wp2_with fail
  go_ret
  exact ⟨rfl, below_draws HW.out _⟩
theorem refBody_any (y : Cd) (r : Bool) (hr : refBodyB y = r) (w : World) :
    Calls Tryd.prog 18 #[.agg #[.string y.nm, .int .i64 y.k, .int .i64 y.c0, .int .i64 y.c1, .int .i64 y.c2, .int .i64 y.c3, .int .i64 y.col, .int .i64 y.pow, .int .i64 y.tou, .int .i64 y.keys, .slice y.aa y.an y.ac]] w fun e w' => e = .returned (.bool r) ∧ Below w.heap.size w w' := by
  by_cases h1 : y.k = 1
  · rw [h1]
    exact refBody_1 y h1 r hr w
  · by_cases h2 : y.k = 2
    · rw [h2]
      exact refBody_2 y h2 r hr w
    · by_cases h3 : y.k = 3
      · rw [h3]
        exact refBody_3 y h3 r hr w
      · by_cases h4 : y.k = 4
        · rw [h4]
          exact refBody_4 y h4 r hr w
        · obtain rfl : r = false := by rw [← hr]; simp [refBodyB, h1, h2, h3, h4]
          exact refBody_0 y (by simp [btw]; omega) w
end Go.Proofs.YtfhmadlobdklbaaDoor
