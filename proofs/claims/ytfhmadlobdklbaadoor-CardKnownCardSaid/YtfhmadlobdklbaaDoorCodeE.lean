/- The document's answer: target, players, beasts, One. -/
import Derived.Test.YtfhmadlobdklbaaDoorCodeD
namespace Go.Proofs.YtfhmadlobdklbaaDoor
open Go.RowKit
set_option linter.unusedVariables false
set_option linter.unusedSimpArgs false

theorem refTarget_any (a t : Int) (w : World) :
    Calls Tryd.prog 37 #[.int .i64 a, .int .i64 t] w fun e w' => e = .returned (.bool (tgt t a)) ∧ w = w' := by
  by_cases h1 : 0 ≤ a
  · by_cases h2 : a < t
    · go_enter Tryd.func37, Tryd.ntmps37
      go_wp2
      go_ret
      exact ⟨bool_ret (by simp [tgt, btw]; omega), rfl⟩
    · go_enter Tryd.func37, Tryd.ntmps37
      go_wp2
      go_ret
      exact ⟨bool_ret (by simp [tgt, btw]; omega), rfl⟩
  · go_enter Tryd.func37, Tryd.ntmps37
    go_wp2
    go_ret
    exact ⟨bool_ret (by simp [tgt, btw]; omega), rfl⟩
def plr (t a : Int) : Bool := tgt t a || (btw 3 3 a || btw 4 4 a)
def bst (t a : Int) : Bool := tgt t a || (btw 2 2 a || btw 5 7 a)
set_option maxHeartbeats 1000000 in
theorem refPlayers_any (a t : Int) (w : World) :
    Calls Tryd.prog 38 #[.int .i64 a, .int .i64 t] w fun e w' => e = .returned (.bool (plr t a)) ∧ w = w' := by
  have HT := Lib.hid (refTarget_any a t)
  obtain ⟨r, hr⟩ : ∃ r, r = plr t a := ⟨_, rfl⟩
  rw [← hr]
  unfold plr at hr
  generalize tgt t a = s at *
  have HR := Lib.hid hr
  clear hr
  cases s
  · by_cases h0 : a = 3 ∨ a = 4
    · rcases h0 with rfl | rfl
      all_goals
        go_enter Tryd.func38, Tryd.ntmps38
        go_wp2_with fail
        refine (HT.out _).mono ?_
        rintro e w' ⟨rfl, rfl⟩
        go_wp2_with fail
        go_ret
        exact ⟨bool_ret (by rw [HR.out]; simp [btw]), rfl⟩
    · have n3 : ¬ a = 3 := by omega
      have n4 : ¬ a = 4 := by omega
      go_enter Tryd.func38, Tryd.ntmps38
      go_wp2_with fail
      refine (HT.out _).mono ?_
      rintro e w' ⟨rfl, rfl⟩
      go_wp2_with fail
      go_ret
      exact ⟨bool_ret (by rw [HR.out, show btw 3 3 a = false by simp [btw]; omega, show btw 4 4 a = false by simp [btw]; omega]; simp [n3, n4]), rfl⟩
  · go_enter Tryd.func38, Tryd.ntmps38
    go_wp2_with fail
    refine (HT.out _).mono ?_
    rintro e w' ⟨rfl, rfl⟩
    go_wp2_with fail
    go_ret
    exact ⟨bool_ret (by rw [HR.out]; simp), rfl⟩
set_option maxHeartbeats 1000000 in
theorem refBeasts_any (a t : Int) (w : World) :
    Calls Tryd.prog 39 #[.int .i64 a, .int .i64 t] w fun e w' => e = .returned (.bool (bst t a)) ∧ w = w' := by
  have HT := Lib.hid (refTarget_any a t)
  obtain ⟨r, hr⟩ : ∃ r, r = bst t a := ⟨_, rfl⟩
  rw [← hr]
  unfold bst at hr
  generalize tgt t a = s at *
  have HR := Lib.hid hr
  clear hr
  cases s
  · by_cases h0 : a = 2 ∨ a = 5 ∨ a = 6 ∨ a = 7
    · rcases h0 with rfl | rfl | rfl | rfl
      all_goals
        go_enter Tryd.func39, Tryd.ntmps39
        go_wp2_with fail
        refine (HT.out _).mono ?_
        rintro e w' ⟨rfl, rfl⟩
        go_wp2_with fail
        go_ret
        exact ⟨bool_ret (by rw [HR.out]; simp [btw]), rfl⟩
    · have n2 : ¬ a = 2 := by omega
      have n5 : ¬ a = 5 := by omega
      have n6 : ¬ a = 6 := by omega
      have n7 : ¬ a = 7 := by omega
      go_enter Tryd.func39, Tryd.ntmps39
      go_wp2_with fail
      refine (HT.out _).mono ?_
      rintro e w' ⟨rfl, rfl⟩
      go_wp2_with fail
      go_ret
      exact ⟨bool_ret (by rw [HR.out, show btw 2 2 a = false by simp [btw]; omega, show btw 5 7 a = false by simp [btw]; omega]; simp [n2, n5, n6, n7]), rfl⟩
  · go_enter Tryd.func39, Tryd.ntmps39
    go_wp2_with fail
    refine (HT.out _).mono ?_
    rintro e w' ⟨rfl, rfl⟩
    go_wp2_with fail
    go_ret
    exact ⟨bool_ret (by rw [HR.out]; simp), rfl⟩
end Go.Proofs.YtfhmadlobdklbaaDoor
