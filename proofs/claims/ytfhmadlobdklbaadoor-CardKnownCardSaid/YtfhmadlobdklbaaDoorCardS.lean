/- Both Checks tell the same. -/
import Derived.Test.YtfhmadlobdklbaaDoorCardR
namespace Go.Proofs.YtfhmadlobdklbaaDoor
open Go.RowKit
set_option linter.unusedVariables false
set_option linter.unusedSimpArgs false

theorem chk_two (L : List Ins) (t : Nat) (c : Int) (h : (chk L t c == 0) = true) : t ≤ 2 := by
  rw [beq_iff_eq, chk] at h
  by_cases hb : (btw 0 2 (t : Int) && btw 0 40 c) = true
  · simp [btw] at hb
    omega
  · rw [if_neg hb] at h
    omega
theorem spell_eq (x : Ab) (T : List Int) (L : List Ins) (cards : Int) :
    spellB x T L cards = ((chk L x.tn cards == 0) && (noneB x && ((aimsB T && decide (x.tn ≤ 2)) && (x.ev == 0 && (x.wh == 0 && (zeroB x && !x.tap)))))) := by
  cases hc : (chk L x.tn cards == 0)
  · simp [spellB, hc]
  · have := chk_two _ _ _ hc
    cases ha : aimsB T
    · simp [spellB, hc, ha]
    · rw [spellB, hc, ha, onlyB, costB, noneB, zeroB, Bool.eq_iff_iff]
      cases x.tap <;> simp [this] <;> omega
theorem act_eq (x : Ab) (T : List Int) (L : List Ins) (cards : Int) :
    actB x T L cards = ((chk L x.tn cards == 0) && (noneB x && ((aimsB T && decide (x.tn ≤ 2)) && (x.ev == 0 && (x.wh == 0 && wi (costL 20 x.c0 x.c1 x.c2 x.c3)))))) := by
  cases hc : (chk L x.tn cards == 0)
  · simp [actB, hc]
  · have := chk_two _ _ _ hc
    cases ha : aimsB T
    · simp [actB, hc, ha]
    · cases hw : wi (costL 20 x.c0 x.c1 x.c2 x.c3)
      · simp [actB, hc, ha, hw]
      · rw [actB, hc, ha, hw, onlyB, costB, noneB, Bool.eq_iff_iff]
        cases x.tap <;> simp [this] <;> omega
theorem trig_eq (x : Ab) (T : List Int) (L : List Ins) (cards : Int) :
    trigB x T L cards = ((chk L x.tn cards == 0) && (noneB x && (decide (x.tn = 0) && (btw 1 6 x.ev && (btw 0 2 x.wh && (zeroB x && !x.tap)))))) := by
  cases hc : (chk L x.tn cards == 0)
  · simp [trigB, hc]
  · rw [trigB, hc, wi_two, onlyB, costB, noneB, zeroB, Bool.eq_iff_iff]
    cases btw 1 6 x.ev <;> cases btw 0 2 x.wh <;> cases x.tap <;> simp <;> omega
theorem static_eq (x : Ab) : staticB x = refStaticB x := by
  rw [staticB, refStaticB, wi_two, wi_two, onlyB, costB, bareB, Bool.eq_iff_iff]
  by_cases h1 : x.op = 1
  · rw [h1]; cases x.tap <;> simp [layT, btw] <;> omega
  · by_cases h2 : x.op = 2
    · rw [h2]; cases x.tap <;> simp [layT, btw] <;> omega
    · by_cases h3 : x.op = 3
      · rw [h3]; cases x.tap <;> simp [layT, btw] <;> omega
      · by_cases h4 : x.op = 4
        · rw [h4]; cases x.tap <;> simp [layT, btw] <;> omega
        · simp [h1, h2, h3, h4, btw]
          omega
theorem repl_eq (x : Ab) : replB x = refReplB x := by
  rw [replB, refReplB, wi_one, wi_two, onlyB, costB, bareB, Bool.eq_iff_iff]
  by_cases h1 : x.ev = 1
  · rw [h1]; cases x.tap <;> simp [insT, btw] <;> omega
  · by_cases h2 : x.ev = 2
    · rw [h2]; cases x.tap <;> simp [insT, btw] <;> omega
    · by_cases h3 : x.ev = 3
      · rw [h3]; cases x.tap <;> simp [insT, btw] <;> omega
      · by_cases h4 : x.ev = 4
        · rw [h4]; cases x.tap <;> simp [insT, btw] <;> omega
        · simp [h1, h2, h3, h4, btw]
          omega
theorem fit_eq (s : Bool) (cards : Int) (t : AbT) : fitB s cards t = refFitB s cards t := by
  obtain ⟨x, T, L⟩ := t
  simp only [fitB, refFitB, refAbilB, abilB, spell_eq, act_eq, trig_eq, static_eq, repl_eq]
  rw [show ((x.k == 1) == s) = (s == (x.k == 1)) by cases (x.k == 1) <;> cases s <;> rfl]
theorem body_eq (y : Cd) : refBodyB y = (btw 1 4 y.k && (wi (costL (if y.k = 1 then 0 else 20) y.c0 y.c1 y.c2 y.c3) && (keysB y.k y.keys &&
    wi [⟨y.col, 0, if y.k = 1 then 3 else 0⟩, ⟨y.pow, 0, if y.k = 2 then 15 else 0⟩, ⟨y.tou, 0, if y.k = 2 then 15 else 0⟩]))) := by
  rw [refBodyB, keysB, Bool.eq_iff_iff]
  by_cases h1 : y.k = 1
  · simp [h1, wi, costL, btw, zeroC]; omega
  · by_cases h2 : y.k = 2
    · simp [h2, wi, costL, btw, zeroC]; omega
    · by_cases h3 : y.k = 3
      · simp [h3, wi, costL, btw, zeroC]; omega
      · by_cases h4 : y.k = 4
        · simp [h4, wi, costL, btw, zeroC]; omega
        · simp [h1, h2, h3, h4, btw]; omega
theorem chk_eq (y : Cd) (A : List AbT) (cards : Int) (h : A.length = y.an) : refChkC y A cards = chkC y A cards := by
  have e1 : A.all (refFitB (y.k == 3) cards) = A.all (fitB (y.k == 3) cards) := by
    congr 1
    funext t
    exact (fit_eq _ _ t).symm
  have e2 : (refBaseB y && A.all (refFitB (y.k == 3) cards)) = (mayB y && canB (y.k == 3) A cards) := by
    rw [e1, refBaseB, body_eq, mayB, canB, h]
    have e3 : (!((y.k == 3) && y.an != 1)) = (!(y.k == 3) || ((y.an : Int) == 1)) := by
      rw [Bool.eq_iff_iff]; simp; omega
    rw [e3]
    cases (!(y.k == 3) || ((y.an : Int) == 1)) <;> simp [Bool.and_assoc]
  rw [refChkC, chkC, e2]
end Go.Proofs.YtfhmadlobdklbaaDoor
