/- The document's answer: in, cost, targets, bare. -/
import Derived.Test.YtfhmadlobdklbaaDoorCardL
namespace Go.Proofs.YtfhmadlobdklbaaDoor
open Go.RowKit
set_option linter.unusedVariables false
set_option linter.unusedSimpArgs false

theorem refIn_any (n lo hi : Int) (w : World) :
    Calls Tryd.prog 17 #[.int .i64 n, .int .i64 lo, .int .i64 hi] w fun e w' => e = .returned (.bool (btw lo hi n)) ∧ w = w' := by
  by_cases a : lo ≤ n
  · by_cases b : n ≤ hi
    · go_enter Tryd.func17, Tryd.ntmps17
      go_wp2
      go_ret
      exact ⟨bool_ret (by simp [btw, a, b]), rfl⟩
    · go_enter Tryd.func17, Tryd.ntmps17
      go_wp2
      go_ret
      exact ⟨bool_ret (by simp [btw, a, b]), rfl⟩
  · go_enter Tryd.func17, Tryd.ntmps17
    go_wp2
    go_ret
    exact ⟨bool_ret (by simp [btw]; omega), rfl⟩
set_option maxHeartbeats 2000000 in
theorem refCost_any (c0 c1 c2 c3 : Int) (r : Bool) (hr : wi (costL 20 c0 c1 c2 c3) = r) (w : World) :
    Calls Tryd.prog 22 #[.agg #[.int .i64 c0, .int .i64 c1, .int .i64 c2, .int .i64 c3]] w fun e w' => e = .returned (.bool r) ∧ Below w.heap.size w w' := by
  have HR := Lib.hid hr
  have HB := Lib.hid (below_alloc1 w (.cells #[.int .i64 c0, .int .i64 c1, .int .i64 c2, .int .i64 c3] 23))
  clear hr
  go_enter Tryd.func22, Tryd.ntmps22
  go_wp2_with (go_at_call 17; refine (refIn_any _ _ _ _).mono ?_; rintro e w' ⟨rfl, rfl⟩)
  all_goals
    go_ret
    refine ⟨bool_ret ?_, HB.out⟩
    rw [← HR.out]
    simp [wi, costL, *]
set_option maxRecDepth 100000 in
set_option maxHeartbeats 2000000 in
theorem refTargets_any (a : Option Addr) (c : Nat) (T : List Int) (n : Nat) (hn : T.length = n) (r : Bool) (hr : (aimsB T && decide (n ≤ 2)) = r) (w : World) (h : IsL w a c T) :
    Calls Tryd.prog 24 #[.slice a n c] w fun e w' => e = .returned (.bool r) ∧ w = w' := by
  have HR := Lib.hid hr
  have HL := Lib.hid h
  have hcap := h.1
  have hcm := h.2.1
  rw [hn] at hcap
  have HN := Lib.hid hn
  clear hr h hn
  go_enter Tryd.func24, Tryd.ntmps24
  go_wp2_with fail
  go_loop [3] (fun q => ∃ k : Nat, q = .int .i64 (k : Int) ∧ k ≤ n ∧ ∀ j (h : j < T.length), j < k → btw 1 6 T[j] = true) (fun q => n - (intOf q).toNat)
  case atStart => exact ⟨0, rfl, Nat.zero_le _, fun j _ hj => by omega⟩
  case round =>
    obtain ⟨k, rfl, hk, hn⟩ := hrel
    have HT := Lib.hid hn
    clear hn
    by_cases hlt : k < n
    · obtain ⟨b, off, y, hy, hta, x0⟩ := HL.out.at k (by rw [HN.out]; exact hlt)
      have HY := Lib.hid hy
      clear hy
      rw [hta] at *
      cases hone : btw 1 6 y
      · have HV := Lib.hid (show r = false by
          rw [← HR.out, Bool.and_eq_false_iff]
          left
          refine Bool.eq_false_iff.2 fun hall => ?_
          have := List.all_eq_true.1 hall _ (List.getElem_mem (by rw [HN.out]; exact hlt))
          rw [← HY.out, hone] at this
          cases this)
        go_wp2_with fail
        refine (refIn_any _ _ _ _).mono ?_
        rintro e w' ⟨rfl, rfl⟩
        rw [hone]
        go_wp2_with fail
        go_ret
        exact ⟨bool_ret HV.out.symm, rfl⟩
      · go_wp2_with fail
        refine (refIn_any _ _ _ _).mono ?_
        rintro e w' ⟨rfl, rfl⟩
        rw [hone]
        go_wp2_with fail
        go_round
        case rel => exact ⟨k + 1, by go_num, by omega, fun j h1 h2 => by
          by_cases hjk : j = k
          · subst hjk; rw [← HY.out]; exact hone
          · exact HT.out j h1 (by omega)⟩
        case measure => simp [intOf]; omega
    · have HV := Lib.hid (show aimsB T = true by
        refine List.all_eq_true.2 fun y hy => ?_
        obtain ⟨j, hj, rfl⟩ := List.getElem_of_mem hy
        exact HT.out j hj (by have := HN.out; omega))
      go_wp2_with fail
      go_ret
      exact ⟨bool_ret (by rw [← HR.out, HV.out]; simp; omega), rfl⟩
/-- Has it nothing but numbers? -/
def bareB (x : Ab) : Bool := decide ((x.tn : Int) = 0) && (decide ((x.cn : Int) = 0) && ((x.c0 == 0 && (x.c1 == 0 && (x.c2 == 0 && x.c3 == 0))) && !x.tap))
set_option maxRecDepth 100000 in
set_option maxHeartbeats 2000000 in
theorem refBare_any (x : Ab) (r : Bool) (hr : bareB x = r) (w : World) :
    Calls Tryd.prog 33 #[.agg #[.int .i64 x.k, .int .i64 x.ev, .int .i64 x.wh, .int .i64 x.c0, .int .i64 x.c1, .int .i64 x.c2, .int .i64 x.c3, .bool x.tap, .slice x.ta x.tn x.tc, .slice x.ca x.cn x.cc, .int .i64 x.op, .int .i64 x.a, .int .i64 x.b]] w fun e w' => e = .returned (.bool r) ∧ Below w.heap.size w w' := by
  have HR := Lib.hid hr
  have HB := Lib.hid (below_alloc1 w (.cells #[.int .i64 x.k, .int .i64 x.ev, .int .i64 x.wh, .int .i64 x.c0, .int .i64 x.c1, .int .i64 x.c2, .int .i64 x.c3, .bool x.tap, .slice x.ta x.tn x.tc, .slice x.ca x.cn x.cc, .int .i64 x.op, .int .i64 x.a, .int .i64 x.b] 41))
  clear hr
  have hq := fun W => equal_mana x.c0 x.c1 x.c2 x.c3 0 0 0 0 W
  obtain ⟨s, hs⟩ : ∃ s, s = (x.c0 == 0 && (x.c1 == 0 && (x.c2 == 0 && x.c3 == 0))) := ⟨_, rfl⟩
  rw [← hs] at hq
  have HS := Lib.hid hs
  clear hs
  go_enter Tryd.func33, Tryd.ntmps33
  go_wp2_with fail
  all_goals
    go_ret
    refine ⟨bool_ret ?_, below_alloc1 _ _⟩
    rw [← HR.out, bareB, ← HS.out]
    simp [*]
end Go.Proofs.YtfhmadlobdklbaaDoor
