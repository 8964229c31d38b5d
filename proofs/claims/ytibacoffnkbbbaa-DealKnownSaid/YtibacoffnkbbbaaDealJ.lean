/- The document's Turned. -/
import Derived.Test.YtibacoffnkbbbaaDealI
namespace Go.Proofs.Ytibacoffnkbbbaa
open Go.RowKit
set_option linter.unusedVariables false

theorem count_in (P : List Int) (k : Nat) (i : Int) (hk : k < P.length) (h : P.getD k 0 = i) : (P.take (k + 1)).count i = (P.take k).count i + 1 := by
  rw [take_step P k hk, List.count_append, h]; simp
theorem count_out (P : List Int) (k : Nat) (i : Int) (hk : k < P.length) (h : P.getD k 0 ≠ i) : (P.take (k + 1)).count i = (P.take k).count i := by
  rw [take_step P k hk, List.count_append, List.count_singleton, if_neg (by simpa using h)]; rfl
theorem count_le (P : List Int) (k : Nat) (i : Int) : (P.take k).count i ≤ k := Nat.le_trans List.count_le_length (by rw [List.length_take]; omega)
theorem isP_not {P : List Int} {n : Nat} (i : Nat) (hi : i < n) (h : P.count (i : Int) ≠ 1) : isP P n = false := by
  unfold isP
  rw [decide_eq_false (p := ∀ i : Nat, i < n → P.count (i : Int) = 1) (fun h1 => h (h1 i hi)), Bool.and_false]
theorem isP_yes {P : List Int} {n : Nat} (hl : P.length = n) (h : ∀ i : Nat, i < n → P.count (i : Int) = 1) : isP P n = true := by
  unfold isP
  rw [decide_eq_true hl, decide_eq_true h]; rfl
theorem turnL_take (L P : List Int) (k : Nat) (hk : k < P.length) : turnL L (P.take (k + 1)) = turnL L (P.take k) ++ [L.getD (P.getD k 0).toNat 0] := by
  rw [take_step P k hk]
  unfold turnL
  rw [List.map_append]; rfl
set_option maxRecDepth 100000 in
set_option maxHeartbeats 1000000 in
theorem refTurned_any (a b : Option Addr) (c d : Nat) (L P : List Int) (w : World) (hL : IsL w a c L) (hP : IsL w b d P) (hs : L.length ≤ 4096) :
    Calls Try.prog 13 #[.slice a L.length c, .slice b P.length d] w fun e w' => OutL w' e (turnI L P) ∧ Below w.heap.size w w' := by
  have hlc := hL.1
  have hcm := hL.2.1
  have hpd := hP.1
  have hdm := hP.2.1
  obtain ⟨i0, hi, hz0, hz1, hz2⟩ := info_parts intInfo
  have HL := Lib.hid hL
  have HP := Lib.hid hP
  clear hL hP
  obtain ⟨n, hn⟩ : ∃ n, L.length = n := ⟨_, rfl⟩
  obtain ⟨m, hm⟩ : ∃ m, P.length = m := ⟨_, rfl⟩
  by_cases hmn : n = m
  · subst hmn
    rw [hn] at hs hlc
    rw [hm] at hpd
    rw [hn, hm]
    obtain ⟨r, hr⟩ : ∃ r, r = turnI L P := ⟨_, rfl⟩
    rw [← hr]
    have HR := Lib.hid (show r = if isP P n = true then turnL L P else [] by rw [hr, ← hn]; rfl)
    have HM := Lib.hid hm
    have HN := Lib.hid hn
    clear hm hn hr
    go_enter Try.func13, Try.ntmps13
    go_wp2_with fail
    go_loop [5] (fun q => ∃ i : Nat, q = .int .i64 (i : Int) ∧ i ≤ n ∧ ∀ j : Nat, j < i → P.count (j : Int) = 1) (fun q => n - (intOf q).toNat)
    case atStart => exact ⟨0, rfl, Nat.zero_le _, fun j hj => by omega⟩
    case round =>
      obtain ⟨i, rfl, hin, hall⟩ := hrel
      have HALL := Lib.hid hall
      clear hall
      by_cases hlt : i < n
      · go_wp2_with fail
        go_loop [6, 7] (fun v q => ∃ k s : Nat, v = .int .i64 (s : Int) ∧ q = .int .i64 (k : Int) ∧ k ≤ n ∧ s ≤ k ∧ s = (P.take k).count (i : Int)) (fun _ q => n - (intOf q).toNat)
        case atStart => exact ⟨0, 0, rfl, rfl, Nat.zero_le _, Nat.le_refl _, rfl⟩
        case round =>
          obtain ⟨k, s, rfl, rfl, hk, hsk, hs'⟩ := hrel
          have HS := Lib.hid hs'
          clear hs'
          by_cases hkl : k < n
          · obtain ⟨bp, op, rfl, hcp⟩ := HP.out.at k (by rw [HM.out]; exact hkl)
            obtain ⟨x, hx⟩ : ∃ x, P.getD k 0 = x := ⟨_, rfl⟩
            rw [hx] at hcp
            have HX := Lib.hid hx
            clear hx
            by_cases hxi : x = (i : Int)
            · have HC := Lib.hid (count_in P k i (by rw [HM.out]; exact hkl) (HX.out.trans hxi))
              subst hxi
              go_wp2_with fail
              go_round
              case rel => exact ⟨k + 1, s + 1, by go_num, by go_num, by omega, by omega, by rw [HC.out, HS.out]⟩
              case measure => simp [intOf]; omega
            · have HC := Lib.hid (count_out P k i (by rw [HM.out]; exact hkl) (by rw [HX.out]; exact hxi))
              go_wp2_with fail
              go_round
              case rel => exact ⟨k + 1, s, rfl, by go_num, by omega, by omega, by rw [HC.out, HS.out]⟩
              case measure => simp [intOf]; omega
          · have HC := Lib.hid (show s = P.count (i : Int) by rw [HS.out, List.take_of_length_le (by rw [HM.out]; omega)])
            by_cases hs1 : s = 1
            · subst hs1
              go_wp2_with fail
              go_round
              case rel => exact ⟨i + 1, by go_num, by omega, fun j hj => by
                by_cases hji : j = i
                · rw [hji]; exact HC.out.symm
                · exact HALL.out j (by omega)⟩
              case measure => simp [intOf]; omega
            · have HE := Lib.hid (show r = [] by rw [HR.out, isP_not i hlt (by rw [← HC.out]; exact hs1)]; rfl)
              go_wp2_with fail
              go_ret
              exact ⟨⟨none, 0, by rw [HE.out]; rfl, by rw [HE.out]; exact IsL.nil _⟩, Below.refl _ _⟩
      · have hyes := isP_yes HM.out (fun j hj => HALL.out j (by omega))
        have HRG := Lib.hid (isP_at hyes)
        have HE := Lib.hid (show r = turnL L P by rw [HR.out, hyes]; rfl)
        clear hyes
        go_wp2_with fail
        go_loopw [8, 9] (fun v q wr => ∃ (k : Nat) (M : List Int), q = .int .i64 (k : Int) ∧ k ≤ n ∧ M = turnL L (P.take k) ∧ M.length = k ∧ wr.ownsRow w.heap.size 3 1 v M.length (M.map (Value.int .i64)) ∧ Below w.heap.size w wr) (fun _ q _ => n - (intOf q).toNat)
        case atStart => exact ⟨0, [], rfl, Nat.zero_le _, rfl, rfl, World.ownsRow_nil _ _ _ _, Below.refl _ _⟩
        case round =>
          obtain ⟨k, M, rfl, hk, hM, hMl, hown, hbw⟩ := hrel
          have HTM := Lib.hid hM
          have HO := Lib.hid hown
          have HW := Lib.hid hbw
          clear hM hown hbw
          by_cases hkl : k < n
          · obtain ⟨x, hx⟩ : ∃ x, P.getD k 0 = x := ⟨_, rfl⟩
            have hxr := HRG.out k hkl
            obtain ⟨bp, op, rfl, hcp⟩ := (HP.out.next HW.out).at k (by rw [HM.out]; exact hkl)
            rw [hx] at hxr hcp
            obtain ⟨bl, ol, rfl, hcl⟩ := (HL.out.next HW.out).at x.toNat (by rw [HN.out]; omega)
            obtain ⟨y, hy⟩ : ∃ y, L.getD x.toNat 0 = y := ⟨_, rfl⟩
            rw [hy] at hcl
            have HTN := Lib.hid (show M ++ [y] = turnL L (P.take (k + 1)) by rw [turnL_take L P k (by rw [HM.out]; exact hkl), HTM.out, hx, hy])
            clear hx hy
            go_wp2_with (at_builtin; refine wpList_append_own _ rfl _ _ 22 rfl w.heap.size 3 i0 (.int .i64 0) 1 8 Try.underlying22 hi hz0 hz1 hz2 rfl (by decide) _ M.length (M.map (Value.int .i64)) rfl (HO.out.alloc _) ⟨wr.heap.size, 0, none⟩ 1 1 [.int .i64 y] rfl rfl (cell_one_new _ _ _) (by simp [Value.oneCell']) (by unfold maxLen; omega) (by omega) (by have := HW.out.size; simp; omega) ?_)
            intro v1 w1 hown1 hgrow hne
            have HW1 := Lib.hid (grown_out HW.out HO.out hgrow)
            have HO1 := Lib.hid (own_snoc (M := M) (x := y) (by rw [hMl]; exact hown1))
            obtain ⟨g1, cap1, rfl⟩ := own_shape hown1
            clear hown1 hgrow hne
            go_wp2_with fail
            go_roundw
            case rel => exact ⟨k + 1, M ++ [y], by go_num, by omega, HTN.out, by rw [List.length_append, hMl]; rfl, HO1.out, HW1.out⟩
            case measure => simp [intOf]; omega
          · have HTN := Lib.hid (show M = r by rw [HE.out, HTM.out, List.take_of_length_le (by rw [HM.out]; omega)])
            obtain ⟨a1, c1, hv, hi1⟩ := own_isL HO.out
            have HI1 := Lib.hid hi1
            have HV := Lib.hid hv
            clear hi1 hv
            go_wp2_with fail
            go_ret
            exact ⟨⟨a1, c1, by rw [← HTN.out, ← HV.out]; rfl, by rw [← HTN.out]; exact HI1.out⟩, HW.out⟩
  · have hr : turnI L P = [] := by
      unfold turnI isP
      rw [decide_eq_false (by omega)]; rfl
    rw [hr, hn, hm]
    have hlb : ((n : Int) == (m : Int)) = false := by simp; omega
    clear hr hn hm
    go_enter Try.func13, Try.ntmps13
    go_wp2_with fail
    go_ret
    exact ⟨⟨none, 0, rfl, IsL.nil _⟩, Below.refl _ _⟩
end Go.Proofs.Ytibacoffnkbbbaa
