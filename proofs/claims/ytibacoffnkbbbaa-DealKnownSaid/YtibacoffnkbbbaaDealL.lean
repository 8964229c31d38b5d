/- DealPerms, DealTurns: the walks. -/
import Derived.Test.YtibacoffnkbbbaaDealK
namespace Go.Proofs.Ytibacoffnkbbbaa
open Go.RowKit
set_option linter.unusedVariables false

theorem IsL.take {w : World} {a : Option Addr} {c : Nat} {L : List Int} (h : IsL w a c L) (n : Nat) : IsL w a c (L.take n) := by
  obtain ⟨h1, h2, h3⟩ := h
  refine ⟨by rw [List.length_take]; omega, h2, ?_⟩
  rcases h3 with h3 | ⟨b, off, h3, h4, h5⟩
  · left; rw [List.length_take]; omega
  · refine .inr ⟨b, off, h3, h4, fun j hj => ?_⟩
    rw [List.length_take] at hj
    rw [h5 j (by omega), getD_in L j (by omega), getD_in (L.take n) j (by rw [List.length_take]; omega), List.getElem_take]
theorem min_nat (l k : Nat) : min (l : Int) (k : Int) = ((min l k : Nat) : Int) := by omega
set_option maxRecDepth 100000 in
set_option maxHeartbeats 2000000 in
theorem walk_DealPerms (n : Int) (a : Option Addr) (l c : Nat) (L : List Int) (w : World) (hL : IsL w a c L) (hl : L.length = l) :
    Calls Try.prog 3 #[.int .i64 n, .slice a l c] w fun e w' => e = .returned (.bool true) ∧ Below w.heap.size w w' := by
  have hlc : l ≤ c := by rw [← hl]; exact hL.1
  obtain ⟨x, hx⟩ : ∃ x, x = (if 300 < n ∧ n ≤ 4096 then n.tmod 300 else n) := ⟨_, rfl⟩
  have hcm := hL.2.1
  obtain ⟨k, hk⟩ : ∃ k, min l 300 = k := ⟨_, rfl⟩
  have hD := hL.take 300
  have hDl : (L.take 300).length = k := by rw [List.length_take, hl]; omega
  generalize L.take 300 = D at *
  have hmin : min (l : Int) 300 = (k : Int) := by omega
  have hkl : k ≤ l := by omega
  have hkc : k ≤ c := by omega
  obtain ⟨M, u, hp⟩ : ∃ M u, permI x D = (M, u) := ⟨_, _, rfl⟩
  obtain ⟨m, hm⟩ : ∃ m, M.length = m := ⟨_, rfl⟩
  have HD := Lib.hid hD
  have HDl := Lib.hid hDl
  have HP := Lib.hid hp
  have HM := Lib.hid hm
  clear hL hl hD hDl hp hm hk
  have hcase : (300 < n ∧ 4096 < n ∧ x = n) ∨ (n ≤ 300 ∧ x = n) ∨ (300 < n ∧ n ≤ 4096 ∧ n.tmod 300 = x) := by
    by_cases h : 300 < n ∧ n ≤ 4096
    · rw [if_pos h] at hx
      exact .inr (.inr ⟨h.1, h.2, hx.symm⟩)
    · rw [if_neg h] at hx
      by_cases h1 : n ≤ 300
      · exact .inr (.inl ⟨h1, hx⟩)
      · exact .inl ⟨by omega, by omega, hx⟩
  have hlow : -300 < n.tmod 300 ∧ n.tmod 300 < 300 := tmod_low n (n := 300) (by decide)
  have hcase2 : (300 < l ∧ k = 300) ∨ (l ≤ 300 ∧ k = l) := by omega
  clear hmin hkl hx
  rcases hcase with ⟨h1, h2, rfl⟩ | ⟨h1, rfl⟩ | ⟨h1, h2, hx⟩
  rotate_left 2
  rw [hx] at hlow
  rotate_left
  all_goals
    rcases hcase2 with ⟨h3, rfl⟩ | ⟨h3, rfl⟩
    all_goals
      go_enter Try.func3, Try.ntmps3
      go_wp2_with (go_at_call 8; refine (perm_at x _ _ _ D _ HD.out HDl.out M m u HP.out HM.out).mono ?_; rintro e w1 ⟨a1, c1, rfl, hi1, hb1⟩)
      have B1 := Lib.hid hb1
      have I1 := Lib.hid hi1
      have D1 := Lib.hid (HD.out.next hb1)
      clear hi1 hb1
      go_wp2_with (go_at_call 9; refine (refPerm_at x _ _ _ D _ D1.out HDl.out M m u HP.out HM.out).mono ?_; rintro e w2 ⟨a2, c2, rfl, hi2, hb2⟩)
      have B2 := Lib.hid (B1.out.trans (hb2.mono B1.out.size))
      have I1 := Lib.hid (I1.out.next hb2)
      have I2 := Lib.hid hi2
      clear hi2 hb2
      go_wp2_with (go_at_call 10; refine (alike_at _ _ m _ m _ M M _ I1.out I2.out HM.out HM.out true (by simp)).mono ?_; rintro e w3 ⟨rfl, hb3⟩)
      have B3 := Lib.hid (B2.out.trans (hb3.mono B2.out.size))
      clear hb3
      go_wp2_with (go_at_call 11; refine (works_any _).mono ?_; rintro e w4 ⟨rfl, hb4⟩)
      have B4 := Lib.hid (B3.out.trans (hb4.mono B3.out.size))
      clear hb4
      go_wp2_with fail
      go_ret
      exact ⟨rfl, B4.out⟩
set_option maxRecDepth 100000 in
set_option maxHeartbeats 2000000 in
theorem walk_DealTurns (a b : Option Addr) (l c m d : Nat) (L P : List Int) (w : World) (hL : IsL w a c L) (hl : L.length = l) (hP : IsL w b d P) (hm : P.length = m) :
    Calls Try.prog 4 #[.slice a l c, .slice b m d] w fun e w' => e = .returned (.bool true) ∧ Below w.heap.size w w' := by
  have hlc : l ≤ c := by rw [← hl]; exact hL.1
  have hcm := hL.2.1
  have hmd : m ≤ d := by rw [← hm]; exact hP.1
  have hdm := hP.2.1
  obtain ⟨k, hk⟩ : ∃ k, min l 40 = k := ⟨_, rfl⟩
  obtain ⟨q, hq⟩ : ∃ q, min m 40 = q := ⟨_, rfl⟩
  have hD := hL.take 40
  have hDl : (L.take 40).length = k := by rw [List.length_take, hl]; omega
  have hE := hP.take 40
  have hEl : (P.take 40).length = q := by rw [List.length_take, hm]; omega
  generalize L.take 40 = D at *
  generalize P.take 40 = E at *
  have hk40 : k ≤ 40 := by omega
  obtain ⟨M, hM⟩ : ∃ M, turnI D E = M := ⟨_, rfl⟩
  obtain ⟨s, hs⟩ : ∃ s, M.length = s := ⟨_, rfl⟩
  have HD := Lib.hid hD
  have HDl := Lib.hid hDl
  have HE := Lib.hid hE
  have HEl := Lib.hid hEl
  have HM := Lib.hid hM
  have HS := Lib.hid hs
  clear hL hl hD hDl hP hm hE hEl hM hs
  have hcase : (40 < l ∧ k = 40) ∨ (l ≤ 40 ∧ k = l) := by omega
  have hcase2 : (40 < m ∧ q = 40) ∨ (m ≤ 40 ∧ q = m) := by omega
  clear hk hq
  rcases hcase with ⟨h1, rfl⟩ | ⟨h1, rfl⟩
  all_goals
    rcases hcase2 with ⟨h3, rfl⟩ | ⟨h3, rfl⟩
    all_goals
      go_enter Try.func4, Try.ntmps4
      go_wp2_with (go_at_call 12; refine (turned_at _ _ _ _ _ _ D E _ HD.out HE.out HDl.out HEl.out (by omega) M s HM.out HS.out).mono ?_; rintro e w1 ⟨a1, c1, rfl, hi1, hb1⟩)
      have B1 := Lib.hid hb1
      have I1 := Lib.hid hi1
      have D1 := Lib.hid (HD.out.next hb1)
      have E1 := Lib.hid (HE.out.next hb1)
      clear hi1 hb1
      go_wp2_with (go_at_call 13; refine (refTurned_at _ _ _ _ _ _ D E _ D1.out E1.out HDl.out HEl.out (by omega) M s HM.out HS.out).mono ?_; rintro e w2 ⟨a2, c2, rfl, hi2, hb2⟩)
      have B2 := Lib.hid (B1.out.trans (hb2.mono B1.out.size))
      have I1 := Lib.hid (I1.out.next hb2)
      have I2 := Lib.hid hi2
      clear hi2 hb2
      go_wp2_with (go_at_call 10; refine (alike_at _ _ s _ s _ M M _ I1.out I2.out HS.out HS.out true (by simp)).mono ?_; rintro e w3 ⟨rfl, hb3⟩)
      have B3 := Lib.hid (B2.out.trans (hb3.mono B2.out.size))
      clear hb3
      go_wp2_with (go_at_call 11; refine (works_any _).mono ?_; rintro e w4 ⟨rfl, hb4⟩)
      have B4 := Lib.hid (B3.out.trans (hb4.mono B3.out.size))
      clear hb4
      go_wp2_with fail
      go_ret
      exact ⟨rfl, B4.out⟩
theorem law_DealPerms (n : Int) (a : Option Addr) (l c : Nat) (w : World) (h : ∃ L : List Int, L.length = l ∧ IsL w a c L) :
    Calls Try.prog 3 #[.int .i64 n, .slice a l c] w fun e w' => e = .returned (.bool true) ∧ Below w.heap.size w w' := by
  obtain ⟨L, hl, hL⟩ := h
  exact walk_DealPerms n a l c L w hL hl
theorem law_DealTurns (a b : Option Addr) (l c m d : Nat) (w : World) (h : ∃ L : List Int, L.length = l ∧ IsL w a c L) (k : ∃ P : List Int, P.length = m ∧ IsL w b d P) :
    Calls Try.prog 4 #[.slice a l c, .slice b m d] w fun e w' => e = .returned (.bool true) ∧ Below w.heap.size w w' := by
  obtain ⟨L, hl, hL⟩ := h
  obtain ⟨P, hm, hP⟩ := k
  exact walk_DealTurns a b l c m d L P w hL hl hP hm
end Go.Proofs.Ytibacoffnkbbbaa
