/- The walk of CodeMore. -/
import Derived.Test.YtegopamfdgeblaaDoorCodeS
namespace Go.Proofs.YtegopamfdgeblaaDoor
open Go.RowKit
set_option linter.unusedVariables false
set_option linter.unusedSimpArgs false

theorem aOk_more (len t u : Int) (j : Nat) (a : Int) (h : t ≤ u) (k : aOk len t j a = true) : aOk len u j a = true := by
  unfold aOk at *
  split at k <;> simp [btw, tgt] at * <;> omega
theorem bOk_more (c d : Int) (j : Nat) (b : Int) (h : c ≤ d) (k : bOk c j b = true) : bOk d j b = true := by
  unfold bOk at *
  split at k <;> simp [btw] at * <;> omega
theorem aOk_cut (len k t : Int) (j : Nat) (a : Int) (hk : (j = 8 ∨ j = 9) → a ≤ k) (h : aOk len t j a = true) : aOk k t j a = true := by
  unfold aOk at *
  split at h <;> simp [btw, tgt] at * <;> omega
theorem chk_of {L : List Ins} {t c : Int} (h1 : 0 ≤ t ∧ t ≤ 2) (h2 : 0 ≤ c ∧ c ≤ 40) (h3 : L.length ≤ 32) (h4 : ∀ x ∈ L, one L.length t c x = true) : chk L t c = 0 := by
  unfold chk
  rw [if_pos (by simp [btw, h1, h2]), if_neg (by omega), if_pos (List.all_eq_true.2 h4)]
theorem chk_more {L : List Ins} {t c u d : Int} (h : chk L t c = 0) (h1 : t ≤ u) (h2 : u ≤ 2) (h3 : c ≤ d) (h4 : d ≤ 40) : chk L u d = 0 := by
  obtain ⟨k1, k2, k3, k4⟩ := chk_ok h
  refine chk_of (by omega) (by omega) k3 fun x hx => ?_
  have := k4 x hx
  unfold one at *
  simp only [Bool.and_eq_true] at *
  exact ⟨this.1, aOk_more _ _ _ _ _ h1 this.2.1, bOk_more _ _ _ _ h3 this.2.2⟩
theorem chk_cut {L : List Ins} {t c : Int} (k : Nat) (h : chk L t c = 0) (hk : k ≤ L.length) (hj : ∀ j (h : j < L.length), j < k → (L[j].op = 8 ∨ L[j].op = 9) → L[j].a ≤ (k : Int)) : chk (L.take k) t c = 0 := by
  obtain ⟨k1, k2, k3, k4⟩ := chk_ok h
  have hl : (L.take k).length = k := by rw [List.length_take]; omega
  refine chk_of k1 k2 (by omega) fun x hx => ?_
  rw [hl]
  obtain ⟨j, hjl, rfl⟩ := List.getElem_of_mem hx
  rw [hl] at hjl
  rw [List.getElem_take]
  have h5 := k4 L[j] (List.getElem_mem (by omega))
  have h6 := hj j (by omega) hjl
  have h7 := one_op h5
  unfold one at *
  simp only [Bool.and_eq_true] at *
  refine ⟨h5.1, aOk_cut _ _ _ _ _ (fun h8 => h6 (by omega)) h5.2.1, h5.2.2⟩
set_option maxRecDepth 100000 in
set_option maxHeartbeats 4000000 in
theorem walk_CodeMore (a : Option Addr) (l cap : Nat) (L : List Ins) (x y : Nat) (hx : x ≤ 255) (hy : y ≤ 255) (w : World) (h : IsC w a cap L) (hl : L.length = l) (hT : Tabs w) :
    Calls Tryd.prog 6 #[.slice a l cap, .int .u8 (x : Int), .int .u8 (y : Int)] w fun e w' => e = .returned (.bool true) ∧ Below w.heap.size w w' := by
  have hcap := h.1
  have hcm := h.2.1
  have HT := Lib.hid hT
  have HC := Lib.hid (h.take 40)
  obtain ⟨m, hm⟩ : ∃ k, k = min l 40 := ⟨_, rfl⟩
  have HCl := Lib.hid (show (L.take 40).length = m by rw [List.length_take, hm, hl]; omega)
  have hm40 : m ≤ 40 := by omega
  have hmin1 : min (l : Int) 40 = (m : Int) := by omega
  have hml : m ≤ l := by omega
  rw [hl] at hcap
  have hmc : m ≤ cap := by omega
  obtain ⟨D, hD⟩ : ∃ D, D = L.take 40 := ⟨_, rfl⟩
  rw [← hD] at HC HCl
  have q1 : (x : Int).tmod 3 = ((x % 3 : Nat) : Int) := by rw [Int.tmod_eq_emod_of_nonneg (by omega)]; omega
  have q2 : (x : Int).tdiv 3 = ((x / 3 : Nat) : Int) := by rw [Int.tdiv_eq_ediv_of_nonneg (by omega)]; omega
  have q3 : ((x / 3 : Nat) : Int).tmod 41 = ((x / 3 % 41 : Nat) : Int) := by rw [Int.tmod_eq_emod_of_nonneg (by omega)]; omega
  have q4 : (y : Int).tmod ((m : Int) + 1) = ((y % (m + 1) : Nat) : Int) := by rw [Int.tmod_eq_emod_of_nonneg (by omega)]; rfl
  have ht : x % 3 ≤ 2 := by omega
  have hz : x / 3 ≤ 85 := by omega
  have hc : x / 3 % 41 ≤ 40 := by omega
  have hk : y % (m + 1) ≤ m := by have := Nat.mod_lt y (show 0 < m + 1 by omega); omega
  generalize x % 3 = t at *
  generalize x / 3 % 41 = c at *
  generalize x / 3 = z at *
  generalize y % (m + 1) = k at *
  obtain ⟨r, hr⟩ : ∃ r, chk D t c = r := ⟨_, rfl⟩
  have HR := Lib.hid hr
  clear hm h hT hl hD hr
  by_cases hr0 : r = 0
  · subst hr0
    go_enter Tryd.func6, Tryd.ntmps6
    go_wp2_with fail
    refine (works_any _ HT.out).mono ?_
    rintro e w1 ⟨rfl, b1⟩
    have HB1 := Lib.hid b1
    clear b1
    go_wp2_with fail
    refine (check_at _ _ _ _ HCl.out _ _ _ HR.out _ (HC.out.next HB1.out)).mono ?_
    rintro e w2 ⟨rfl, b2⟩
    have HB2 := Lib.hid (below_then' HB1.out b2 HB1.out.size)
    clear b2
    go_wp2_with fail
    go_loopw [9] (fun q wr => ∃ u : Int, q = .int .i64 u ∧ (t : Int) ≤ u ∧ u ≤ 3 ∧ Below w.heap.size w wr) (fun q _ => (4 - intOf q).toNat)
    case atStart => exact ⟨t, rfl, by omega, by omega, HB2.out⟩
    case round =>
      obtain ⟨u, rfl, hu1, hu2, hbw⟩ := hrel
      have HB3 := Lib.hid hbw
      clear hbw
      by_cases hu : u ≤ 2
      · have HM := Lib.hid (fun d h3 h4 => chk_more HR.out (u := u) (d := d) hu1 hu h3 h4)
        generalize wr = ws at *
        go_wp2_with fail
        go_loopw [10] (fun q wr => ∃ d : Int, q = .int .i64 d ∧ (c : Int) ≤ d ∧ d ≤ 47 ∧ Below w.heap.size w wr) (fun q _ => (48 - intOf q).toNat)
        case atStart => exact ⟨c, rfl, by omega, by omega, HB3.out⟩
        case round =>
          obtain ⟨d, rfl, hd1, hd2, hbw⟩ := hrel
          have HB4 := Lib.hid hbw
          clear hbw
          by_cases hd : d ≤ 40
          · go_wp2_with fail
            refine (check_at _ _ _ _ HCl.out _ _ _ (HM.out d hd1 hd) _ (HC.out.next HB4.out)).mono ?_
            rintro e w5 ⟨rfl, b5⟩
            have HB5 := Lib.hid (below_then' HB4.out b5 HB4.out.size)
            clear b5
            go_wp2_with fail
            go_roundw
            case rel => exact ⟨d + 7, rfl, by omega, by omega, HB5.out⟩
            case measure => simp [intOf]; omega
          · go_wp2_with fail
            go_roundw
            case rel => exact ⟨u + 1, rfl, by omega, by omega, HB4.out⟩
            case measure => simp [intOf]; omega
      · have HCK := Lib.hid (HC.out.take k)
        have HKl := Lib.hid (show (D.take k).length = k by rw [List.length_take, HCl.out]; omega)
        have HCUT := Lib.hid (fun hj => chk_cut k HR.out (by rw [HCl.out]; exact hk) hj)
        have hkc : k ≤ cap := by omega
        clear hu1 hu2 q1 q2 q3
        generalize wr = ws at *
        by_cases hm0 : m = 0
        · obtain rfl : k = 0 := by omega
          subst hm0
          go_wp2_with fail
          go_loopw [12] (fun q wr => ∃ i : Nat, q = .int .i64 (i : Int) ∧ i ≤ 0 ∧ (∀ j (h : j < D.length), j < i → (D[j].op = 8 ∨ D[j].op = 9) → D[j].a ≤ ((0 : Nat) : Int)) ∧ Below w.heap.size w wr) (fun q _ => 0 - (intOf q).toNat)
          case atStart => exact ⟨0, rfl, Nat.zero_le _, fun j _ hj => by omega, HB3.out⟩
          case round =>
            obtain ⟨i, rfl, hi, hn, hbw⟩ := hrel
            have HB4 := Lib.hid hbw
            have HN := Lib.hid hn
            clear hbw hn
            obtain rfl : i = 0 := by omega
            have HV := Lib.hid (HCUT.out fun j h1 h2 h3 => HN.out j h1 (by omega) h3)
            go_wp2_with fail
            refine (check_at _ _ _ _ HKl.out _ _ _ HV.out _ (HCK.out.next HB4.out)).mono ?_
            rintro e w5 ⟨rfl, b5⟩
            have HB5 := Lib.hid (below_then' HB4.out b5 HB4.out.size)
            clear b5
            go_wp2_with fail
            go_ret
            exact ⟨rfl, HB5.out⟩
        · have hmp : 0 < m := by omega
          go_wp2_with fail
          go_loopw [12] (fun q wr => ∃ i : Nat, q = .int .i64 (i : Int) ∧ i ≤ k ∧ (∀ j (h : j < D.length), j < i → (D[j].op = 8 ∨ D[j].op = 9) → D[j].a ≤ (k : Int)) ∧ Below w.heap.size w wr) (fun q _ => k - (intOf q).toNat)
          case atStart => exact ⟨0, rfl, Nat.zero_le _, fun j _ hj => by omega, HB3.out⟩
          case round =>
            obtain ⟨i, rfl, hi, hn, hbw⟩ := hrel
            have HB4 := Lib.hid hbw
            have HN := Lib.hid hn
            clear hbw hn
            by_cases hlt : i < k
            · obtain ⟨b, off, x, hx, rfl, x0, x1, x2⟩ := (HC.out.next HB4.out).at i (by rw [HCl.out]; omega)
              have HX := Lib.hid hx
              clear hx
              obtain ⟨xo, xa, xb⟩ := x
              by_cases h8 : xo = 8
              · subst h8
                by_cases hgt : (k : Int) < xa
                · go_wp2_with fail
                  go_ret
                  exact ⟨rfl, HB4.out⟩
                · go_wp2_with fail
                  go_roundw
                  case rel => exact ⟨i + 1, by go_num, by omega, fun j h1 h2 h3 => by
                    by_cases hji : j = i
                    · subst hji; rw [← HX.out] at h3 ⊢; exact Int.not_lt.1 hgt
                    · exact HN.out j h1 (by omega) h3, HB4.out⟩
                  case measure => simp [intOf]; omega
              · by_cases h9 : xo = 9
                · subst h9
                  by_cases hgt : (k : Int) < xa
                  · go_wp2_with fail
                    go_ret
                    exact ⟨rfl, HB4.out⟩
                  · go_wp2_with fail
                    go_roundw
                    case rel => exact ⟨i + 1, by go_num, by omega, fun j h1 h2 h3 => by
                      by_cases hji : j = i
                      · subst hji; rw [← HX.out] at h3 ⊢; exact Int.not_lt.1 hgt
                      · exact HN.out j h1 (by omega) h3, HB4.out⟩
                    case measure => simp [intOf]; omega
                · go_wp2_with fail
                  go_roundw
                  case rel => exact ⟨i + 1, by go_num, by omega, fun j h1 h2 h3 => by
                    by_cases hji : j = i
                    · subst hji; rw [← HX.out] at h3 ⊢; rcases h3 with h3 | h3 <;> contradiction
                    · exact HN.out j h1 (by omega) h3, HB4.out⟩
                  case measure => simp [intOf]; omega
            · have hik : i = k := by omega
              subst hik
              have HV := Lib.hid (HCUT.out fun j h1 h2 h3 => HN.out j h1 (by omega) h3)
              go_wp2_with fail
              refine (check_at _ _ _ _ HKl.out _ _ _ HV.out _ (HCK.out.next HB4.out)).mono ?_
              rintro e w5 ⟨rfl, b5⟩
              have HB5 := Lib.hid (below_then' HB4.out b5 HB4.out.size)
              clear b5
              go_wp2_with fail
              go_ret
              exact ⟨rfl, HB5.out⟩
  · go_enter Tryd.func6, Tryd.ntmps6
    go_wp2_with fail
    refine (works_any _ HT.out).mono ?_
    rintro e w1 ⟨rfl, b1⟩
    have HB1 := Lib.hid b1
    clear b1
    go_wp2_with fail
    refine (check_at _ _ _ _ HCl.out _ _ _ HR.out _ (HC.out.next HB1.out)).mono ?_
    rintro e w2 ⟨rfl, b2⟩
    have HB2 := Lib.hid (below_then' HB1.out b2 HB1.out.size)
    clear b2
    go_wp2_with fail
    go_ret
    exact ⟨rfl, HB2.out⟩
end Go.Proofs.YtegopamfdgeblaaDoor
