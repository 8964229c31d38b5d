/- The document's answer: One. -/
import Derived.Test.YtfhmadlobdklbaaDoorCodeE
namespace Go.Proofs.YtfhmadlobdklbaaDoor
open Go.RowKit
set_option linter.unusedVariables false
set_option linter.unusedSimpArgs false

set_option maxRecDepth 100000 in
set_option maxHeartbeats 2000000 in
theorem refOne_1 (a b len t c : Int) (w : World) :
    Calls Tryd.prog 32 #[.agg #[.int .i64 1, .int .i64 a, .int .i64 b], .int .i64 len, .int .i64 t, .int .i64 c] w fun e w' => e = .returned (.bool (one len t c ⟨1, a, b⟩)) ∧ Below w.heap.size w w' := by
  have b0 := below_alloc1 w (.cells #[.int .i64 1, .int .i64 a, .int .i64 b] 53)
  have hc0 : (w.alloc (.cells #[.int .i64 1, .int .i64 a, .int .i64 b] 53)).cell? ⟨w.heap.size, 0, none⟩ = some (.int .i64 1) := World.cell?_alloc_new _ _ _ _
  have hc1 : (w.alloc (.cells #[.int .i64 1, .int .i64 a, .int .i64 b] 53)).cell? ⟨w.heap.size, 1, none⟩ = some (.int .i64 a) := World.cell?_alloc_new _ _ _ _
  have hc2 : (w.alloc (.cells #[.int .i64 1, .int .i64 a, .int .i64 b] 53)).cell? ⟨w.heap.size, 2, none⟩ = some (.int .i64 b) := World.cell?_alloc_new _ _ _ _
  have B0 := Lib.hid b0
  clear b0
  go_enter Tryd.func32, Tryd.ntmps32
  go_wp2_with (first | (go_at_call 37; refine (refTarget_any a t _).mono ?_; rintro e w1 ⟨rfl, rfl⟩) | (go_at_call 38; refine (refPlayers_any a t _).mono ?_; rintro e w1 ⟨rfl, rfl⟩) | (go_at_call 39; refine (refBeasts_any a t _).mono ?_; rintro e w1 ⟨rfl, rfl⟩))
  all_goals go_ret
  all_goals
    refine ⟨bool_ret ?_, B0.out⟩
    clear hc0 hc1 hc2 B0
    rw [Bool.eq_iff_iff]
    simp [one, aOk, bOk, btw, tgt, plr, bst] at *
    try omega

set_option maxRecDepth 100000 in
set_option maxHeartbeats 2000000 in
theorem refOne_2 (a b len t c : Int) (w : World) :
    Calls Tryd.prog 32 #[.agg #[.int .i64 2, .int .i64 a, .int .i64 b], .int .i64 len, .int .i64 t, .int .i64 c] w fun e w' => e = .returned (.bool (one len t c ⟨2, a, b⟩)) ∧ Below w.heap.size w w' := by
  have b0 := below_alloc1 w (.cells #[.int .i64 2, .int .i64 a, .int .i64 b] 53)
  have hc0 : (w.alloc (.cells #[.int .i64 2, .int .i64 a, .int .i64 b] 53)).cell? ⟨w.heap.size, 0, none⟩ = some (.int .i64 2) := World.cell?_alloc_new _ _ _ _
  have hc1 : (w.alloc (.cells #[.int .i64 2, .int .i64 a, .int .i64 b] 53)).cell? ⟨w.heap.size, 1, none⟩ = some (.int .i64 a) := World.cell?_alloc_new _ _ _ _
  have hc2 : (w.alloc (.cells #[.int .i64 2, .int .i64 a, .int .i64 b] 53)).cell? ⟨w.heap.size, 2, none⟩ = some (.int .i64 b) := World.cell?_alloc_new _ _ _ _
  have B0 := Lib.hid b0
  clear b0
  go_enter Tryd.func32, Tryd.ntmps32
  go_wp2_with (first | (go_at_call 37; refine (refTarget_any a t _).mono ?_; rintro e w1 ⟨rfl, rfl⟩) | (go_at_call 38; refine (refPlayers_any a t _).mono ?_; rintro e w1 ⟨rfl, rfl⟩) | (go_at_call 39; refine (refBeasts_any a t _).mono ?_; rintro e w1 ⟨rfl, rfl⟩))
  all_goals go_ret
  all_goals
    refine ⟨bool_ret ?_, B0.out⟩
    clear hc0 hc1 hc2 B0
    rw [Bool.eq_iff_iff]
    simp [one, aOk, bOk, btw, tgt, plr, bst] at *
    try omega

set_option maxRecDepth 100000 in
set_option maxHeartbeats 2000000 in
theorem refOne_3 (a b len t c : Int) (w : World) :
    Calls Tryd.prog 32 #[.agg #[.int .i64 3, .int .i64 a, .int .i64 b], .int .i64 len, .int .i64 t, .int .i64 c] w fun e w' => e = .returned (.bool (one len t c ⟨3, a, b⟩)) ∧ Below w.heap.size w w' := by
  have b0 := below_alloc1 w (.cells #[.int .i64 3, .int .i64 a, .int .i64 b] 53)
  have hc0 : (w.alloc (.cells #[.int .i64 3, .int .i64 a, .int .i64 b] 53)).cell? ⟨w.heap.size, 0, none⟩ = some (.int .i64 3) := World.cell?_alloc_new _ _ _ _
  have hc1 : (w.alloc (.cells #[.int .i64 3, .int .i64 a, .int .i64 b] 53)).cell? ⟨w.heap.size, 1, none⟩ = some (.int .i64 a) := World.cell?_alloc_new _ _ _ _
  have hc2 : (w.alloc (.cells #[.int .i64 3, .int .i64 a, .int .i64 b] 53)).cell? ⟨w.heap.size, 2, none⟩ = some (.int .i64 b) := World.cell?_alloc_new _ _ _ _
  have B0 := Lib.hid b0
  clear b0
  go_enter Tryd.func32, Tryd.ntmps32
  go_wp2_with (first | (go_at_call 37; refine (refTarget_any a t _).mono ?_; rintro e w1 ⟨rfl, rfl⟩) | (go_at_call 38; refine (refPlayers_any a t _).mono ?_; rintro e w1 ⟨rfl, rfl⟩) | (go_at_call 39; refine (refBeasts_any a t _).mono ?_; rintro e w1 ⟨rfl, rfl⟩))
  all_goals go_ret
  all_goals
    refine ⟨bool_ret ?_, B0.out⟩
    clear hc0 hc1 hc2 B0
    rw [Bool.eq_iff_iff]
    simp [one, aOk, bOk, btw, tgt, plr, bst] at *
    try omega

set_option maxRecDepth 100000 in
set_option maxHeartbeats 2000000 in
theorem refOne_4 (a b len t c : Int) (w : World) :
    Calls Tryd.prog 32 #[.agg #[.int .i64 4, .int .i64 a, .int .i64 b], .int .i64 len, .int .i64 t, .int .i64 c] w fun e w' => e = .returned (.bool (one len t c ⟨4, a, b⟩)) ∧ Below w.heap.size w w' := by
  have b0 := below_alloc1 w (.cells #[.int .i64 4, .int .i64 a, .int .i64 b] 53)
  have hc0 : (w.alloc (.cells #[.int .i64 4, .int .i64 a, .int .i64 b] 53)).cell? ⟨w.heap.size, 0, none⟩ = some (.int .i64 4) := World.cell?_alloc_new _ _ _ _
  have hc1 : (w.alloc (.cells #[.int .i64 4, .int .i64 a, .int .i64 b] 53)).cell? ⟨w.heap.size, 1, none⟩ = some (.int .i64 a) := World.cell?_alloc_new _ _ _ _
  have hc2 : (w.alloc (.cells #[.int .i64 4, .int .i64 a, .int .i64 b] 53)).cell? ⟨w.heap.size, 2, none⟩ = some (.int .i64 b) := World.cell?_alloc_new _ _ _ _
  have B0 := Lib.hid b0
  clear b0
  go_enter Tryd.func32, Tryd.ntmps32
  go_wp2_with (first | (go_at_call 37; refine (refTarget_any a t _).mono ?_; rintro e w1 ⟨rfl, rfl⟩) | (go_at_call 38; refine (refPlayers_any a t _).mono ?_; rintro e w1 ⟨rfl, rfl⟩) | (go_at_call 39; refine (refBeasts_any a t _).mono ?_; rintro e w1 ⟨rfl, rfl⟩))
  all_goals go_ret
  all_goals
    refine ⟨bool_ret ?_, B0.out⟩
    clear hc0 hc1 hc2 B0
    rw [Bool.eq_iff_iff]
    simp [one, aOk, bOk, btw, tgt, plr, bst] at *
    try omega

set_option maxRecDepth 100000 in
set_option maxHeartbeats 2000000 in
theorem refOne_5 (a b len t c : Int) (w : World) :
    Calls Tryd.prog 32 #[.agg #[.int .i64 5, .int .i64 a, .int .i64 b], .int .i64 len, .int .i64 t, .int .i64 c] w fun e w' => e = .returned (.bool (one len t c ⟨5, a, b⟩)) ∧ Below w.heap.size w w' := by
  have b0 := below_alloc1 w (.cells #[.int .i64 5, .int .i64 a, .int .i64 b] 53)
  have hc0 : (w.alloc (.cells #[.int .i64 5, .int .i64 a, .int .i64 b] 53)).cell? ⟨w.heap.size, 0, none⟩ = some (.int .i64 5) := World.cell?_alloc_new _ _ _ _
  have hc1 : (w.alloc (.cells #[.int .i64 5, .int .i64 a, .int .i64 b] 53)).cell? ⟨w.heap.size, 1, none⟩ = some (.int .i64 a) := World.cell?_alloc_new _ _ _ _
  have hc2 : (w.alloc (.cells #[.int .i64 5, .int .i64 a, .int .i64 b] 53)).cell? ⟨w.heap.size, 2, none⟩ = some (.int .i64 b) := World.cell?_alloc_new _ _ _ _
  have B0 := Lib.hid b0
  clear b0
  go_enter Tryd.func32, Tryd.ntmps32
  go_wp2_with (first | (go_at_call 37; refine (refTarget_any a t _).mono ?_; rintro e w1 ⟨rfl, rfl⟩) | (go_at_call 38; refine (refPlayers_any a t _).mono ?_; rintro e w1 ⟨rfl, rfl⟩) | (go_at_call 39; refine (refBeasts_any a t _).mono ?_; rintro e w1 ⟨rfl, rfl⟩))
  all_goals go_ret
  all_goals
    refine ⟨bool_ret ?_, B0.out⟩
    clear hc0 hc1 hc2 B0
    rw [Bool.eq_iff_iff]
    simp [one, aOk, bOk, btw, tgt, plr, bst] at *
    try omega

set_option maxRecDepth 100000 in
set_option maxHeartbeats 2000000 in
theorem refOne_6 (a b len t c : Int) (w : World) :
    Calls Tryd.prog 32 #[.agg #[.int .i64 6, .int .i64 a, .int .i64 b], .int .i64 len, .int .i64 t, .int .i64 c] w fun e w' => e = .returned (.bool (one len t c ⟨6, a, b⟩)) ∧ Below w.heap.size w w' := by
  have b0 := below_alloc1 w (.cells #[.int .i64 6, .int .i64 a, .int .i64 b] 53)
  have hc0 : (w.alloc (.cells #[.int .i64 6, .int .i64 a, .int .i64 b] 53)).cell? ⟨w.heap.size, 0, none⟩ = some (.int .i64 6) := World.cell?_alloc_new _ _ _ _
  have hc1 : (w.alloc (.cells #[.int .i64 6, .int .i64 a, .int .i64 b] 53)).cell? ⟨w.heap.size, 1, none⟩ = some (.int .i64 a) := World.cell?_alloc_new _ _ _ _
  have hc2 : (w.alloc (.cells #[.int .i64 6, .int .i64 a, .int .i64 b] 53)).cell? ⟨w.heap.size, 2, none⟩ = some (.int .i64 b) := World.cell?_alloc_new _ _ _ _
  have B0 := Lib.hid b0
  clear b0
  go_enter Tryd.func32, Tryd.ntmps32
  go_wp2_with (first | (go_at_call 37; refine (refTarget_any a t _).mono ?_; rintro e w1 ⟨rfl, rfl⟩) | (go_at_call 38; refine (refPlayers_any a t _).mono ?_; rintro e w1 ⟨rfl, rfl⟩) | (go_at_call 39; refine (refBeasts_any a t _).mono ?_; rintro e w1 ⟨rfl, rfl⟩))
  all_goals go_ret
  all_goals
    refine ⟨bool_ret ?_, B0.out⟩
    clear hc0 hc1 hc2 B0
    rw [Bool.eq_iff_iff]
    simp [one, aOk, bOk, btw, tgt, plr, bst] at *
    try omega

set_option maxRecDepth 100000 in
set_option maxHeartbeats 2000000 in
theorem refOne_7 (a b len t c : Int) (w : World) :
    Calls Tryd.prog 32 #[.agg #[.int .i64 7, .int .i64 a, .int .i64 b], .int .i64 len, .int .i64 t, .int .i64 c] w fun e w' => e = .returned (.bool (one len t c ⟨7, a, b⟩)) ∧ Below w.heap.size w w' := by
  have b0 := below_alloc1 w (.cells #[.int .i64 7, .int .i64 a, .int .i64 b] 53)
  have hc0 : (w.alloc (.cells #[.int .i64 7, .int .i64 a, .int .i64 b] 53)).cell? ⟨w.heap.size, 0, none⟩ = some (.int .i64 7) := World.cell?_alloc_new _ _ _ _
  have hc1 : (w.alloc (.cells #[.int .i64 7, .int .i64 a, .int .i64 b] 53)).cell? ⟨w.heap.size, 1, none⟩ = some (.int .i64 a) := World.cell?_alloc_new _ _ _ _
  have hc2 : (w.alloc (.cells #[.int .i64 7, .int .i64 a, .int .i64 b] 53)).cell? ⟨w.heap.size, 2, none⟩ = some (.int .i64 b) := World.cell?_alloc_new _ _ _ _
  have B0 := Lib.hid b0
  clear b0
  go_enter Tryd.func32, Tryd.ntmps32
  go_wp2_with (first | (go_at_call 37; refine (refTarget_any a t _).mono ?_; rintro e w1 ⟨rfl, rfl⟩) | (go_at_call 38; refine (refPlayers_any a t _).mono ?_; rintro e w1 ⟨rfl, rfl⟩) | (go_at_call 39; refine (refBeasts_any a t _).mono ?_; rintro e w1 ⟨rfl, rfl⟩))
  all_goals go_ret
  all_goals
    refine ⟨bool_ret ?_, B0.out⟩
    clear hc0 hc1 hc2 B0
    rw [Bool.eq_iff_iff]
    simp [one, aOk, bOk, btw, tgt, plr, bst] at *
    try omega

set_option maxRecDepth 100000 in
set_option maxHeartbeats 2000000 in
theorem refOne_8 (a b len t c : Int) (w : World) :
    Calls Tryd.prog 32 #[.agg #[.int .i64 8, .int .i64 a, .int .i64 b], .int .i64 len, .int .i64 t, .int .i64 c] w fun e w' => e = .returned (.bool (one len t c ⟨8, a, b⟩)) ∧ Below w.heap.size w w' := by
  have b0 := below_alloc1 w (.cells #[.int .i64 8, .int .i64 a, .int .i64 b] 53)
  have hc0 : (w.alloc (.cells #[.int .i64 8, .int .i64 a, .int .i64 b] 53)).cell? ⟨w.heap.size, 0, none⟩ = some (.int .i64 8) := World.cell?_alloc_new _ _ _ _
  have hc1 : (w.alloc (.cells #[.int .i64 8, .int .i64 a, .int .i64 b] 53)).cell? ⟨w.heap.size, 1, none⟩ = some (.int .i64 a) := World.cell?_alloc_new _ _ _ _
  have hc2 : (w.alloc (.cells #[.int .i64 8, .int .i64 a, .int .i64 b] 53)).cell? ⟨w.heap.size, 2, none⟩ = some (.int .i64 b) := World.cell?_alloc_new _ _ _ _
  have B0 := Lib.hid b0
  clear b0
  go_enter Tryd.func32, Tryd.ntmps32
  go_wp2_with (first | (go_at_call 37; refine (refTarget_any a t _).mono ?_; rintro e w1 ⟨rfl, rfl⟩) | (go_at_call 38; refine (refPlayers_any a t _).mono ?_; rintro e w1 ⟨rfl, rfl⟩) | (go_at_call 39; refine (refBeasts_any a t _).mono ?_; rintro e w1 ⟨rfl, rfl⟩))
  all_goals go_ret
  all_goals
    refine ⟨bool_ret ?_, B0.out⟩
    clear hc0 hc1 hc2 B0
    rw [Bool.eq_iff_iff]
    simp [one, aOk, bOk, btw, tgt, plr, bst] at *
    try omega

set_option maxRecDepth 100000 in
set_option maxHeartbeats 2000000 in
theorem refOne_9 (a b len t c : Int) (w : World) :
    Calls Tryd.prog 32 #[.agg #[.int .i64 9, .int .i64 a, .int .i64 b], .int .i64 len, .int .i64 t, .int .i64 c] w fun e w' => e = .returned (.bool (one len t c ⟨9, a, b⟩)) ∧ Below w.heap.size w w' := by
  have b0 := below_alloc1 w (.cells #[.int .i64 9, .int .i64 a, .int .i64 b] 53)
  have hc0 : (w.alloc (.cells #[.int .i64 9, .int .i64 a, .int .i64 b] 53)).cell? ⟨w.heap.size, 0, none⟩ = some (.int .i64 9) := World.cell?_alloc_new _ _ _ _
  have hc1 : (w.alloc (.cells #[.int .i64 9, .int .i64 a, .int .i64 b] 53)).cell? ⟨w.heap.size, 1, none⟩ = some (.int .i64 a) := World.cell?_alloc_new _ _ _ _
  have hc2 : (w.alloc (.cells #[.int .i64 9, .int .i64 a, .int .i64 b] 53)).cell? ⟨w.heap.size, 2, none⟩ = some (.int .i64 b) := World.cell?_alloc_new _ _ _ _
  have B0 := Lib.hid b0
  clear b0
  go_enter Tryd.func32, Tryd.ntmps32
  go_wp2_with (first | (go_at_call 37; refine (refTarget_any a t _).mono ?_; rintro e w1 ⟨rfl, rfl⟩) | (go_at_call 38; refine (refPlayers_any a t _).mono ?_; rintro e w1 ⟨rfl, rfl⟩) | (go_at_call 39; refine (refBeasts_any a t _).mono ?_; rintro e w1 ⟨rfl, rfl⟩))
  all_goals go_ret
  all_goals
    refine ⟨bool_ret ?_, B0.out⟩
    clear hc0 hc1 hc2 B0
    rw [Bool.eq_iff_iff]
    simp [one, aOk, bOk, btw, tgt, plr, bst] at *
    try omega

set_option maxRecDepth 100000 in
set_option maxHeartbeats 2000000 in
theorem refOne_10 (a b len t c : Int) (w : World) :
    Calls Tryd.prog 32 #[.agg #[.int .i64 10, .int .i64 a, .int .i64 b], .int .i64 len, .int .i64 t, .int .i64 c] w fun e w' => e = .returned (.bool (one len t c ⟨10, a, b⟩)) ∧ Below w.heap.size w w' := by
  have b0 := below_alloc1 w (.cells #[.int .i64 10, .int .i64 a, .int .i64 b] 53)
  have hc0 : (w.alloc (.cells #[.int .i64 10, .int .i64 a, .int .i64 b] 53)).cell? ⟨w.heap.size, 0, none⟩ = some (.int .i64 10) := World.cell?_alloc_new _ _ _ _
  have hc1 : (w.alloc (.cells #[.int .i64 10, .int .i64 a, .int .i64 b] 53)).cell? ⟨w.heap.size, 1, none⟩ = some (.int .i64 a) := World.cell?_alloc_new _ _ _ _
  have hc2 : (w.alloc (.cells #[.int .i64 10, .int .i64 a, .int .i64 b] 53)).cell? ⟨w.heap.size, 2, none⟩ = some (.int .i64 b) := World.cell?_alloc_new _ _ _ _
  have B0 := Lib.hid b0
  clear b0
  go_enter Tryd.func32, Tryd.ntmps32
  go_wp2_with (first | (go_at_call 37; refine (refTarget_any a t _).mono ?_; rintro e w1 ⟨rfl, rfl⟩) | (go_at_call 38; refine (refPlayers_any a t _).mono ?_; rintro e w1 ⟨rfl, rfl⟩) | (go_at_call 39; refine (refBeasts_any a t _).mono ?_; rintro e w1 ⟨rfl, rfl⟩))
  all_goals go_ret
  all_goals
    refine ⟨bool_ret ?_, B0.out⟩
    clear hc0 hc1 hc2 B0
    rw [Bool.eq_iff_iff]
    simp [one, aOk, bOk, btw, tgt, plr, bst] at *
    try omega

set_option maxRecDepth 100000 in
set_option maxHeartbeats 2000000 in
theorem refOne_11 (a b len t c : Int) (w : World) :
    Calls Tryd.prog 32 #[.agg #[.int .i64 11, .int .i64 a, .int .i64 b], .int .i64 len, .int .i64 t, .int .i64 c] w fun e w' => e = .returned (.bool (one len t c ⟨11, a, b⟩)) ∧ Below w.heap.size w w' := by
  have b0 := below_alloc1 w (.cells #[.int .i64 11, .int .i64 a, .int .i64 b] 53)
  have hc0 : (w.alloc (.cells #[.int .i64 11, .int .i64 a, .int .i64 b] 53)).cell? ⟨w.heap.size, 0, none⟩ = some (.int .i64 11) := World.cell?_alloc_new _ _ _ _
  have hc1 : (w.alloc (.cells #[.int .i64 11, .int .i64 a, .int .i64 b] 53)).cell? ⟨w.heap.size, 1, none⟩ = some (.int .i64 a) := World.cell?_alloc_new _ _ _ _
  have hc2 : (w.alloc (.cells #[.int .i64 11, .int .i64 a, .int .i64 b] 53)).cell? ⟨w.heap.size, 2, none⟩ = some (.int .i64 b) := World.cell?_alloc_new _ _ _ _
  have B0 := Lib.hid b0
  clear b0
  go_enter Tryd.func32, Tryd.ntmps32
  go_wp2_with (first | (go_at_call 37; refine (refTarget_any a t _).mono ?_; rintro e w1 ⟨rfl, rfl⟩) | (go_at_call 38; refine (refPlayers_any a t _).mono ?_; rintro e w1 ⟨rfl, rfl⟩) | (go_at_call 39; refine (refBeasts_any a t _).mono ?_; rintro e w1 ⟨rfl, rfl⟩))
  all_goals go_ret
  all_goals
    refine ⟨bool_ret ?_, B0.out⟩
    clear hc0 hc1 hc2 B0
    rw [Bool.eq_iff_iff]
    simp [one, aOk, bOk, btw, tgt, plr, bst] at *
    try omega

set_option maxRecDepth 100000 in
set_option maxHeartbeats 2000000 in
theorem refOne_12 (a b len t c : Int) (w : World) :
    Calls Tryd.prog 32 #[.agg #[.int .i64 12, .int .i64 a, .int .i64 b], .int .i64 len, .int .i64 t, .int .i64 c] w fun e w' => e = .returned (.bool (one len t c ⟨12, a, b⟩)) ∧ Below w.heap.size w w' := by
  have b0 := below_alloc1 w (.cells #[.int .i64 12, .int .i64 a, .int .i64 b] 53)
  have hc0 : (w.alloc (.cells #[.int .i64 12, .int .i64 a, .int .i64 b] 53)).cell? ⟨w.heap.size, 0, none⟩ = some (.int .i64 12) := World.cell?_alloc_new _ _ _ _
  have hc1 : (w.alloc (.cells #[.int .i64 12, .int .i64 a, .int .i64 b] 53)).cell? ⟨w.heap.size, 1, none⟩ = some (.int .i64 a) := World.cell?_alloc_new _ _ _ _
  have hc2 : (w.alloc (.cells #[.int .i64 12, .int .i64 a, .int .i64 b] 53)).cell? ⟨w.heap.size, 2, none⟩ = some (.int .i64 b) := World.cell?_alloc_new _ _ _ _
  have B0 := Lib.hid b0
  clear b0
  go_enter Tryd.func32, Tryd.ntmps32
  go_wp2_with (first | (go_at_call 37; refine (refTarget_any a t _).mono ?_; rintro e w1 ⟨rfl, rfl⟩) | (go_at_call 38; refine (refPlayers_any a t _).mono ?_; rintro e w1 ⟨rfl, rfl⟩) | (go_at_call 39; refine (refBeasts_any a t _).mono ?_; rintro e w1 ⟨rfl, rfl⟩))
  all_goals go_ret
  all_goals
    refine ⟨bool_ret ?_, B0.out⟩
    clear hc0 hc1 hc2 B0
    rw [Bool.eq_iff_iff]
    simp [one, aOk, bOk, btw, tgt, plr, bst] at *
    try omega

set_option maxRecDepth 100000 in
set_option maxHeartbeats 2000000 in
theorem refOne_13 (a b len t c : Int) (w : World) :
    Calls Tryd.prog 32 #[.agg #[.int .i64 13, .int .i64 a, .int .i64 b], .int .i64 len, .int .i64 t, .int .i64 c] w fun e w' => e = .returned (.bool (one len t c ⟨13, a, b⟩)) ∧ Below w.heap.size w w' := by
  have b0 := below_alloc1 w (.cells #[.int .i64 13, .int .i64 a, .int .i64 b] 53)
  have hc0 : (w.alloc (.cells #[.int .i64 13, .int .i64 a, .int .i64 b] 53)).cell? ⟨w.heap.size, 0, none⟩ = some (.int .i64 13) := World.cell?_alloc_new _ _ _ _
  have hc1 : (w.alloc (.cells #[.int .i64 13, .int .i64 a, .int .i64 b] 53)).cell? ⟨w.heap.size, 1, none⟩ = some (.int .i64 a) := World.cell?_alloc_new _ _ _ _
  have hc2 : (w.alloc (.cells #[.int .i64 13, .int .i64 a, .int .i64 b] 53)).cell? ⟨w.heap.size, 2, none⟩ = some (.int .i64 b) := World.cell?_alloc_new _ _ _ _
  have B0 := Lib.hid b0
  clear b0
  go_enter Tryd.func32, Tryd.ntmps32
  go_wp2_with (first | (go_at_call 37; refine (refTarget_any a t _).mono ?_; rintro e w1 ⟨rfl, rfl⟩) | (go_at_call 38; refine (refPlayers_any a t _).mono ?_; rintro e w1 ⟨rfl, rfl⟩) | (go_at_call 39; refine (refBeasts_any a t _).mono ?_; rintro e w1 ⟨rfl, rfl⟩))
  all_goals go_ret
  all_goals
    refine ⟨bool_ret ?_, B0.out⟩
    clear hc0 hc1 hc2 B0
    rw [Bool.eq_iff_iff]
    simp [one, aOk, bOk, btw, tgt, plr, bst] at *
    try omega

set_option maxRecDepth 100000 in
set_option maxHeartbeats 2000000 in
theorem refOne_14 (a b len t c : Int) (w : World) :
    Calls Tryd.prog 32 #[.agg #[.int .i64 14, .int .i64 a, .int .i64 b], .int .i64 len, .int .i64 t, .int .i64 c] w fun e w' => e = .returned (.bool (one len t c ⟨14, a, b⟩)) ∧ Below w.heap.size w w' := by
  have b0 := below_alloc1 w (.cells #[.int .i64 14, .int .i64 a, .int .i64 b] 53)
  have hc0 : (w.alloc (.cells #[.int .i64 14, .int .i64 a, .int .i64 b] 53)).cell? ⟨w.heap.size, 0, none⟩ = some (.int .i64 14) := World.cell?_alloc_new _ _ _ _
  have hc1 : (w.alloc (.cells #[.int .i64 14, .int .i64 a, .int .i64 b] 53)).cell? ⟨w.heap.size, 1, none⟩ = some (.int .i64 a) := World.cell?_alloc_new _ _ _ _
  have hc2 : (w.alloc (.cells #[.int .i64 14, .int .i64 a, .int .i64 b] 53)).cell? ⟨w.heap.size, 2, none⟩ = some (.int .i64 b) := World.cell?_alloc_new _ _ _ _
  have B0 := Lib.hid b0
  clear b0
  go_enter Tryd.func32, Tryd.ntmps32
  go_wp2_with (first | (go_at_call 37; refine (refTarget_any a t _).mono ?_; rintro e w1 ⟨rfl, rfl⟩) | (go_at_call 38; refine (refPlayers_any a t _).mono ?_; rintro e w1 ⟨rfl, rfl⟩) | (go_at_call 39; refine (refBeasts_any a t _).mono ?_; rintro e w1 ⟨rfl, rfl⟩))
  all_goals go_ret
  all_goals
    refine ⟨bool_ret ?_, B0.out⟩
    clear hc0 hc1 hc2 B0
    rw [Bool.eq_iff_iff]
    simp [one, aOk, bOk, btw, tgt, plr, bst] at *
    try omega

set_option maxRecDepth 100000 in
set_option maxHeartbeats 2000000 in
theorem refOne_15 (a b len t c : Int) (w : World) :
    Calls Tryd.prog 32 #[.agg #[.int .i64 15, .int .i64 a, .int .i64 b], .int .i64 len, .int .i64 t, .int .i64 c] w fun e w' => e = .returned (.bool (one len t c ⟨15, a, b⟩)) ∧ Below w.heap.size w w' := by
  have b0 := below_alloc1 w (.cells #[.int .i64 15, .int .i64 a, .int .i64 b] 53)
  have hc0 : (w.alloc (.cells #[.int .i64 15, .int .i64 a, .int .i64 b] 53)).cell? ⟨w.heap.size, 0, none⟩ = some (.int .i64 15) := World.cell?_alloc_new _ _ _ _
  have hc1 : (w.alloc (.cells #[.int .i64 15, .int .i64 a, .int .i64 b] 53)).cell? ⟨w.heap.size, 1, none⟩ = some (.int .i64 a) := World.cell?_alloc_new _ _ _ _
  have hc2 : (w.alloc (.cells #[.int .i64 15, .int .i64 a, .int .i64 b] 53)).cell? ⟨w.heap.size, 2, none⟩ = some (.int .i64 b) := World.cell?_alloc_new _ _ _ _
  have B0 := Lib.hid b0
  clear b0
  go_enter Tryd.func32, Tryd.ntmps32
  go_wp2_with (first | (go_at_call 37; refine (refTarget_any a t _).mono ?_; rintro e w1 ⟨rfl, rfl⟩) | (go_at_call 38; refine (refPlayers_any a t _).mono ?_; rintro e w1 ⟨rfl, rfl⟩) | (go_at_call 39; refine (refBeasts_any a t _).mono ?_; rintro e w1 ⟨rfl, rfl⟩))
  all_goals go_ret
  all_goals
    refine ⟨bool_ret ?_, B0.out⟩
    clear hc0 hc1 hc2 B0
    rw [Bool.eq_iff_iff]
    simp [one, aOk, bOk, btw, tgt, plr, bst] at *
    try omega

set_option maxRecDepth 100000 in
set_option maxHeartbeats 2000000 in
theorem refOne_16 (a b len t c : Int) (w : World) :
    Calls Tryd.prog 32 #[.agg #[.int .i64 16, .int .i64 a, .int .i64 b], .int .i64 len, .int .i64 t, .int .i64 c] w fun e w' => e = .returned (.bool (one len t c ⟨16, a, b⟩)) ∧ Below w.heap.size w w' := by
  have b0 := below_alloc1 w (.cells #[.int .i64 16, .int .i64 a, .int .i64 b] 53)
  have hc0 : (w.alloc (.cells #[.int .i64 16, .int .i64 a, .int .i64 b] 53)).cell? ⟨w.heap.size, 0, none⟩ = some (.int .i64 16) := World.cell?_alloc_new _ _ _ _
  have hc1 : (w.alloc (.cells #[.int .i64 16, .int .i64 a, .int .i64 b] 53)).cell? ⟨w.heap.size, 1, none⟩ = some (.int .i64 a) := World.cell?_alloc_new _ _ _ _
  have hc2 : (w.alloc (.cells #[.int .i64 16, .int .i64 a, .int .i64 b] 53)).cell? ⟨w.heap.size, 2, none⟩ = some (.int .i64 b) := World.cell?_alloc_new _ _ _ _
  have B0 := Lib.hid b0
  clear b0
  go_enter Tryd.func32, Tryd.ntmps32
  go_wp2_with (first | (go_at_call 37; refine (refTarget_any a t _).mono ?_; rintro e w1 ⟨rfl, rfl⟩) | (go_at_call 38; refine (refPlayers_any a t _).mono ?_; rintro e w1 ⟨rfl, rfl⟩) | (go_at_call 39; refine (refBeasts_any a t _).mono ?_; rintro e w1 ⟨rfl, rfl⟩))
  all_goals go_ret
  all_goals
    refine ⟨bool_ret ?_, B0.out⟩
    clear hc0 hc1 hc2 B0
    rw [Bool.eq_iff_iff]
    simp [one, aOk, bOk, btw, tgt, plr, bst] at *
    try omega

set_option maxRecDepth 100000 in
set_option maxHeartbeats 2000000 in
theorem refOne_17 (a b len t c : Int) (w : World) :
    Calls Tryd.prog 32 #[.agg #[.int .i64 17, .int .i64 a, .int .i64 b], .int .i64 len, .int .i64 t, .int .i64 c] w fun e w' => e = .returned (.bool (one len t c ⟨17, a, b⟩)) ∧ Below w.heap.size w w' := by
  have b0 := below_alloc1 w (.cells #[.int .i64 17, .int .i64 a, .int .i64 b] 53)
  have hc0 : (w.alloc (.cells #[.int .i64 17, .int .i64 a, .int .i64 b] 53)).cell? ⟨w.heap.size, 0, none⟩ = some (.int .i64 17) := World.cell?_alloc_new _ _ _ _
  have hc1 : (w.alloc (.cells #[.int .i64 17, .int .i64 a, .int .i64 b] 53)).cell? ⟨w.heap.size, 1, none⟩ = some (.int .i64 a) := World.cell?_alloc_new _ _ _ _
  have hc2 : (w.alloc (.cells #[.int .i64 17, .int .i64 a, .int .i64 b] 53)).cell? ⟨w.heap.size, 2, none⟩ = some (.int .i64 b) := World.cell?_alloc_new _ _ _ _
  have B0 := Lib.hid b0
  clear b0
  go_enter Tryd.func32, Tryd.ntmps32
  go_wp2_with (first | (go_at_call 37; refine (refTarget_any a t _).mono ?_; rintro e w1 ⟨rfl, rfl⟩) | (go_at_call 38; refine (refPlayers_any a t _).mono ?_; rintro e w1 ⟨rfl, rfl⟩) | (go_at_call 39; refine (refBeasts_any a t _).mono ?_; rintro e w1 ⟨rfl, rfl⟩))
  all_goals go_ret
  all_goals
    refine ⟨bool_ret ?_, B0.out⟩
    clear hc0 hc1 hc2 B0
    rw [Bool.eq_iff_iff]
    simp [one, aOk, bOk, btw, tgt, plr, bst] at *
    try omega

set_option maxRecDepth 100000 in
set_option maxHeartbeats 2000000 in
theorem refOne_18 (a b len t c : Int) (w : World) :
    Calls Tryd.prog 32 #[.agg #[.int .i64 18, .int .i64 a, .int .i64 b], .int .i64 len, .int .i64 t, .int .i64 c] w fun e w' => e = .returned (.bool (one len t c ⟨18, a, b⟩)) ∧ Below w.heap.size w w' := by
  have b0 := below_alloc1 w (.cells #[.int .i64 18, .int .i64 a, .int .i64 b] 53)
  have hc0 : (w.alloc (.cells #[.int .i64 18, .int .i64 a, .int .i64 b] 53)).cell? ⟨w.heap.size, 0, none⟩ = some (.int .i64 18) := World.cell?_alloc_new _ _ _ _
  have hc1 : (w.alloc (.cells #[.int .i64 18, .int .i64 a, .int .i64 b] 53)).cell? ⟨w.heap.size, 1, none⟩ = some (.int .i64 a) := World.cell?_alloc_new _ _ _ _
  have hc2 : (w.alloc (.cells #[.int .i64 18, .int .i64 a, .int .i64 b] 53)).cell? ⟨w.heap.size, 2, none⟩ = some (.int .i64 b) := World.cell?_alloc_new _ _ _ _
  have B0 := Lib.hid b0
  clear b0
  go_enter Tryd.func32, Tryd.ntmps32
  go_wp2_with (first | (go_at_call 37; refine (refTarget_any a t _).mono ?_; rintro e w1 ⟨rfl, rfl⟩) | (go_at_call 38; refine (refPlayers_any a t _).mono ?_; rintro e w1 ⟨rfl, rfl⟩) | (go_at_call 39; refine (refBeasts_any a t _).mono ?_; rintro e w1 ⟨rfl, rfl⟩))
  all_goals go_ret
  all_goals
    refine ⟨bool_ret ?_, B0.out⟩
    clear hc0 hc1 hc2 B0
    rw [Bool.eq_iff_iff]
    simp [one, aOk, bOk, btw, tgt, plr, bst] at *
    try omega

set_option maxRecDepth 100000 in
set_option maxHeartbeats 2000000 in
theorem refOne_19 (a b len t c : Int) (w : World) :
    Calls Tryd.prog 32 #[.agg #[.int .i64 19, .int .i64 a, .int .i64 b], .int .i64 len, .int .i64 t, .int .i64 c] w fun e w' => e = .returned (.bool (one len t c ⟨19, a, b⟩)) ∧ Below w.heap.size w w' := by
  have b0 := below_alloc1 w (.cells #[.int .i64 19, .int .i64 a, .int .i64 b] 53)
  have hc0 : (w.alloc (.cells #[.int .i64 19, .int .i64 a, .int .i64 b] 53)).cell? ⟨w.heap.size, 0, none⟩ = some (.int .i64 19) := World.cell?_alloc_new _ _ _ _
  have hc1 : (w.alloc (.cells #[.int .i64 19, .int .i64 a, .int .i64 b] 53)).cell? ⟨w.heap.size, 1, none⟩ = some (.int .i64 a) := World.cell?_alloc_new _ _ _ _
  have hc2 : (w.alloc (.cells #[.int .i64 19, .int .i64 a, .int .i64 b] 53)).cell? ⟨w.heap.size, 2, none⟩ = some (.int .i64 b) := World.cell?_alloc_new _ _ _ _
  have B0 := Lib.hid b0
  clear b0
  go_enter Tryd.func32, Tryd.ntmps32
  go_wp2_with (first | (go_at_call 37; refine (refTarget_any a t _).mono ?_; rintro e w1 ⟨rfl, rfl⟩) | (go_at_call 38; refine (refPlayers_any a t _).mono ?_; rintro e w1 ⟨rfl, rfl⟩) | (go_at_call 39; refine (refBeasts_any a t _).mono ?_; rintro e w1 ⟨rfl, rfl⟩))
  all_goals go_ret
  all_goals
    refine ⟨bool_ret ?_, B0.out⟩
    clear hc0 hc1 hc2 B0
    rw [Bool.eq_iff_iff]
    simp [one, aOk, bOk, btw, tgt, plr, bst] at *
    try omega

set_option maxRecDepth 100000 in
set_option maxHeartbeats 2000000 in
theorem refOne_20 (a b len t c : Int) (w : World) :
    Calls Tryd.prog 32 #[.agg #[.int .i64 20, .int .i64 a, .int .i64 b], .int .i64 len, .int .i64 t, .int .i64 c] w fun e w' => e = .returned (.bool (one len t c ⟨20, a, b⟩)) ∧ Below w.heap.size w w' := by
  have b0 := below_alloc1 w (.cells #[.int .i64 20, .int .i64 a, .int .i64 b] 53)
  have hc0 : (w.alloc (.cells #[.int .i64 20, .int .i64 a, .int .i64 b] 53)).cell? ⟨w.heap.size, 0, none⟩ = some (.int .i64 20) := World.cell?_alloc_new _ _ _ _
  have hc1 : (w.alloc (.cells #[.int .i64 20, .int .i64 a, .int .i64 b] 53)).cell? ⟨w.heap.size, 1, none⟩ = some (.int .i64 a) := World.cell?_alloc_new _ _ _ _
  have hc2 : (w.alloc (.cells #[.int .i64 20, .int .i64 a, .int .i64 b] 53)).cell? ⟨w.heap.size, 2, none⟩ = some (.int .i64 b) := World.cell?_alloc_new _ _ _ _
  have B0 := Lib.hid b0
  clear b0
  go_enter Tryd.func32, Tryd.ntmps32
  go_wp2_with (first | (go_at_call 37; refine (refTarget_any a t _).mono ?_; rintro e w1 ⟨rfl, rfl⟩) | (go_at_call 38; refine (refPlayers_any a t _).mono ?_; rintro e w1 ⟨rfl, rfl⟩) | (go_at_call 39; refine (refBeasts_any a t _).mono ?_; rintro e w1 ⟨rfl, rfl⟩))
  all_goals go_ret
  all_goals
    refine ⟨bool_ret ?_, B0.out⟩
    clear hc0 hc1 hc2 B0
    rw [Bool.eq_iff_iff]
    simp [one, aOk, bOk, btw, tgt, plr, bst] at *
    try omega

set_option maxRecDepth 100000 in
set_option maxHeartbeats 2000000 in
theorem refOne_21 (a b len t c : Int) (w : World) :
    Calls Tryd.prog 32 #[.agg #[.int .i64 21, .int .i64 a, .int .i64 b], .int .i64 len, .int .i64 t, .int .i64 c] w fun e w' => e = .returned (.bool (one len t c ⟨21, a, b⟩)) ∧ Below w.heap.size w w' := by
  have b0 := below_alloc1 w (.cells #[.int .i64 21, .int .i64 a, .int .i64 b] 53)
  have hc0 : (w.alloc (.cells #[.int .i64 21, .int .i64 a, .int .i64 b] 53)).cell? ⟨w.heap.size, 0, none⟩ = some (.int .i64 21) := World.cell?_alloc_new _ _ _ _
  have hc1 : (w.alloc (.cells #[.int .i64 21, .int .i64 a, .int .i64 b] 53)).cell? ⟨w.heap.size, 1, none⟩ = some (.int .i64 a) := World.cell?_alloc_new _ _ _ _
  have hc2 : (w.alloc (.cells #[.int .i64 21, .int .i64 a, .int .i64 b] 53)).cell? ⟨w.heap.size, 2, none⟩ = some (.int .i64 b) := World.cell?_alloc_new _ _ _ _
  have B0 := Lib.hid b0
  clear b0
  go_enter Tryd.func32, Tryd.ntmps32
  go_wp2_with (first | (go_at_call 37; refine (refTarget_any a t _).mono ?_; rintro e w1 ⟨rfl, rfl⟩) | (go_at_call 38; refine (refPlayers_any a t _).mono ?_; rintro e w1 ⟨rfl, rfl⟩) | (go_at_call 39; refine (refBeasts_any a t _).mono ?_; rintro e w1 ⟨rfl, rfl⟩))
  all_goals go_ret
  all_goals
    refine ⟨bool_ret ?_, B0.out⟩
    clear hc0 hc1 hc2 B0
    rw [Bool.eq_iff_iff]
    simp [one, aOk, bOk, btw, tgt, plr, bst] at *
    try omega

set_option maxRecDepth 100000 in
set_option maxHeartbeats 2000000 in
theorem refOne_22 (a b len t c : Int) (w : World) :
    Calls Tryd.prog 32 #[.agg #[.int .i64 22, .int .i64 a, .int .i64 b], .int .i64 len, .int .i64 t, .int .i64 c] w fun e w' => e = .returned (.bool (one len t c ⟨22, a, b⟩)) ∧ Below w.heap.size w w' := by
  have b0 := below_alloc1 w (.cells #[.int .i64 22, .int .i64 a, .int .i64 b] 53)
  have hc0 : (w.alloc (.cells #[.int .i64 22, .int .i64 a, .int .i64 b] 53)).cell? ⟨w.heap.size, 0, none⟩ = some (.int .i64 22) := World.cell?_alloc_new _ _ _ _
  have hc1 : (w.alloc (.cells #[.int .i64 22, .int .i64 a, .int .i64 b] 53)).cell? ⟨w.heap.size, 1, none⟩ = some (.int .i64 a) := World.cell?_alloc_new _ _ _ _
  have hc2 : (w.alloc (.cells #[.int .i64 22, .int .i64 a, .int .i64 b] 53)).cell? ⟨w.heap.size, 2, none⟩ = some (.int .i64 b) := World.cell?_alloc_new _ _ _ _
  have B0 := Lib.hid b0
  clear b0
  go_enter Tryd.func32, Tryd.ntmps32
  go_wp2_with (first | (go_at_call 37; refine (refTarget_any a t _).mono ?_; rintro e w1 ⟨rfl, rfl⟩) | (go_at_call 38; refine (refPlayers_any a t _).mono ?_; rintro e w1 ⟨rfl, rfl⟩) | (go_at_call 39; refine (refBeasts_any a t _).mono ?_; rintro e w1 ⟨rfl, rfl⟩))
  all_goals go_ret
  all_goals
    refine ⟨bool_ret ?_, B0.out⟩
    clear hc0 hc1 hc2 B0
    rw [Bool.eq_iff_iff]
    simp [one, aOk, bOk, btw, tgt, plr, bst] at *
    try omega

set_option maxRecDepth 100000 in
set_option maxHeartbeats 2000000 in
theorem refOne_23 (a b len t c : Int) (w : World) :
    Calls Tryd.prog 32 #[.agg #[.int .i64 23, .int .i64 a, .int .i64 b], .int .i64 len, .int .i64 t, .int .i64 c] w fun e w' => e = .returned (.bool (one len t c ⟨23, a, b⟩)) ∧ Below w.heap.size w w' := by
  have b0 := below_alloc1 w (.cells #[.int .i64 23, .int .i64 a, .int .i64 b] 53)
  have hc0 : (w.alloc (.cells #[.int .i64 23, .int .i64 a, .int .i64 b] 53)).cell? ⟨w.heap.size, 0, none⟩ = some (.int .i64 23) := World.cell?_alloc_new _ _ _ _
  have hc1 : (w.alloc (.cells #[.int .i64 23, .int .i64 a, .int .i64 b] 53)).cell? ⟨w.heap.size, 1, none⟩ = some (.int .i64 a) := World.cell?_alloc_new _ _ _ _
  have hc2 : (w.alloc (.cells #[.int .i64 23, .int .i64 a, .int .i64 b] 53)).cell? ⟨w.heap.size, 2, none⟩ = some (.int .i64 b) := World.cell?_alloc_new _ _ _ _
  have B0 := Lib.hid b0
  clear b0
  go_enter Tryd.func32, Tryd.ntmps32
  go_wp2_with (first | (go_at_call 37; refine (refTarget_any a t _).mono ?_; rintro e w1 ⟨rfl, rfl⟩) | (go_at_call 38; refine (refPlayers_any a t _).mono ?_; rintro e w1 ⟨rfl, rfl⟩) | (go_at_call 39; refine (refBeasts_any a t _).mono ?_; rintro e w1 ⟨rfl, rfl⟩))
  all_goals go_ret
  all_goals
    refine ⟨bool_ret ?_, B0.out⟩
    clear hc0 hc1 hc2 B0
    rw [Bool.eq_iff_iff]
    simp [one, aOk, bOk, btw, tgt, plr, bst] at *
    try omega

set_option maxRecDepth 100000 in
set_option maxHeartbeats 2000000 in
theorem refOne_24 (a b len t c : Int) (w : World) :
    Calls Tryd.prog 32 #[.agg #[.int .i64 24, .int .i64 a, .int .i64 b], .int .i64 len, .int .i64 t, .int .i64 c] w fun e w' => e = .returned (.bool (one len t c ⟨24, a, b⟩)) ∧ Below w.heap.size w w' := by
  have b0 := below_alloc1 w (.cells #[.int .i64 24, .int .i64 a, .int .i64 b] 53)
  have hc0 : (w.alloc (.cells #[.int .i64 24, .int .i64 a, .int .i64 b] 53)).cell? ⟨w.heap.size, 0, none⟩ = some (.int .i64 24) := World.cell?_alloc_new _ _ _ _
  have hc1 : (w.alloc (.cells #[.int .i64 24, .int .i64 a, .int .i64 b] 53)).cell? ⟨w.heap.size, 1, none⟩ = some (.int .i64 a) := World.cell?_alloc_new _ _ _ _
  have hc2 : (w.alloc (.cells #[.int .i64 24, .int .i64 a, .int .i64 b] 53)).cell? ⟨w.heap.size, 2, none⟩ = some (.int .i64 b) := World.cell?_alloc_new _ _ _ _
  have B0 := Lib.hid b0
  clear b0
  go_enter Tryd.func32, Tryd.ntmps32
  go_wp2_with (first | (go_at_call 37; refine (refTarget_any a t _).mono ?_; rintro e w1 ⟨rfl, rfl⟩) | (go_at_call 38; refine (refPlayers_any a t _).mono ?_; rintro e w1 ⟨rfl, rfl⟩) | (go_at_call 39; refine (refBeasts_any a t _).mono ?_; rintro e w1 ⟨rfl, rfl⟩))
  all_goals go_ret
  all_goals
    refine ⟨bool_ret ?_, B0.out⟩
    clear hc0 hc1 hc2 B0
    rw [Bool.eq_iff_iff]
    simp [one, aOk, bOk, btw, tgt, plr, bst] at *
    try omega

set_option maxRecDepth 100000 in
set_option maxHeartbeats 2000000 in
theorem refOne_other (op : Int) (a b len t c : Int) (w : World) (ho : ¬ (1 ≤ op ∧ op ≤ 24)) (n1 : ¬ op = 1) (n2 : ¬ op = 2) (n3 : ¬ op = 3) (n4 : ¬ op = 4) (n5 : ¬ op = 5) (n6 : ¬ op = 6) (n7 : ¬ op = 7) (n8 : ¬ op = 8) (n9 : ¬ op = 9) (n10 : ¬ op = 10) (n11 : ¬ op = 11) (n12 : ¬ op = 12) (n13 : ¬ op = 13) (n14 : ¬ op = 14) (n15 : ¬ op = 15) (n16 : ¬ op = 16) (n17 : ¬ op = 17) (n18 : ¬ op = 18) (n19 : ¬ op = 19) (n20 : ¬ op = 20) (n21 : ¬ op = 21) (n22 : ¬ op = 22) (n23 : ¬ op = 23) (n24 : ¬ op = 24) :
    Calls Tryd.prog 32 #[.agg #[.int .i64 op, .int .i64 a, .int .i64 b], .int .i64 len, .int .i64 t, .int .i64 c] w fun e w' => e = .returned (.bool (one len t c ⟨op, a, b⟩)) ∧ Below w.heap.size w w' := by
  have b0 := below_alloc1 w (.cells #[.int .i64 op, .int .i64 a, .int .i64 b] 53)
  have hc0 : (w.alloc (.cells #[.int .i64 op, .int .i64 a, .int .i64 b] 53)).cell? ⟨w.heap.size, 0, none⟩ = some (.int .i64 op) := World.cell?_alloc_new _ _ _ _
  have hc1 : (w.alloc (.cells #[.int .i64 op, .int .i64 a, .int .i64 b] 53)).cell? ⟨w.heap.size, 1, none⟩ = some (.int .i64 a) := World.cell?_alloc_new _ _ _ _
  have hc2 : (w.alloc (.cells #[.int .i64 op, .int .i64 a, .int .i64 b] 53)).cell? ⟨w.heap.size, 2, none⟩ = some (.int .i64 b) := World.cell?_alloc_new _ _ _ _
  have B0 := Lib.hid b0
  clear b0
  go_enter Tryd.func32, Tryd.ntmps32
  go_wp2_with (first | (go_at_call 37; refine (refTarget_any a t _).mono ?_; rintro e w1 ⟨rfl, rfl⟩) | (go_at_call 38; refine (refPlayers_any a t _).mono ?_; rintro e w1 ⟨rfl, rfl⟩) | (go_at_call 39; refine (refBeasts_any a t _).mono ?_; rintro e w1 ⟨rfl, rfl⟩))
  all_goals go_ret
  all_goals exact ⟨bool_ret (by simp [one, show btw 1 24 op = false by simp [btw]; omega]), B0.out⟩

theorem refOne_any (x : Ins) (len t c : Int) (w : World) :
    Calls Tryd.prog 32 #[.agg #[.int .i64 x.op, .int .i64 x.a, .int .i64 x.b], .int .i64 len, .int .i64 t, .int .i64 c] w fun e w' => e = .returned (.bool (one len t c x)) ∧ Below w.heap.size w w' := by
  obtain ⟨op, a, b⟩ := x
  by_cases ho : 1 ≤ op ∧ op ≤ 24
  · obtain rfl | rfl | rfl | rfl | rfl | rfl | rfl | rfl | rfl | rfl | rfl | rfl | rfl | rfl | rfl | rfl | rfl | rfl | rfl | rfl | rfl | rfl | rfl | rfl : op = 1 ∨ op = 2 ∨ op = 3 ∨ op = 4 ∨ op = 5 ∨ op = 6 ∨ op = 7 ∨ op = 8 ∨ op = 9 ∨ op = 10 ∨ op = 11 ∨ op = 12 ∨ op = 13 ∨ op = 14 ∨ op = 15 ∨ op = 16 ∨ op = 17 ∨ op = 18 ∨ op = 19 ∨ op = 20 ∨ op = 21 ∨ op = 22 ∨ op = 23 ∨ op = 24 := by omega
    · exact refOne_1 a b len t c w
    · exact refOne_2 a b len t c w
    · exact refOne_3 a b len t c w
    · exact refOne_4 a b len t c w
    · exact refOne_5 a b len t c w
    · exact refOne_6 a b len t c w
    · exact refOne_7 a b len t c w
    · exact refOne_8 a b len t c w
    · exact refOne_9 a b len t c w
    · exact refOne_10 a b len t c w
    · exact refOne_11 a b len t c w
    · exact refOne_12 a b len t c w
    · exact refOne_13 a b len t c w
    · exact refOne_14 a b len t c w
    · exact refOne_15 a b len t c w
    · exact refOne_16 a b len t c w
    · exact refOne_17 a b len t c w
    · exact refOne_18 a b len t c w
    · exact refOne_19 a b len t c w
    · exact refOne_20 a b len t c w
    · exact refOne_21 a b len t c w
    · exact refOne_22 a b len t c w
    · exact refOne_23 a b len t c w
    · exact refOne_24 a b len t c w
  · exact refOne_other op a b len t c w ho (by omega) (by omega) (by omega) (by omega) (by omega) (by omega) (by omega) (by omega) (by omega) (by omega) (by omega) (by omega) (by omega) (by omega) (by omega) (by omega) (by omega) (by omega) (by omega) (by omega) (by omega) (by omega) (by omega) (by omega)
end Go.Proofs.YtfhmadlobdklbaaDoor
