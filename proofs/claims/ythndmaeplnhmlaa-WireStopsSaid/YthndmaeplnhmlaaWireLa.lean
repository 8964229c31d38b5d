/- The document's reader takes a number: a first byte with less than eight ones. -/
import Derived.Test.YthndmaeplnhmlaaWireL
namespace Go.Proofs.Ythndmaeplnhmlaa
open Go.RowKit
set_option linter.unusedVariables false

set_option maxHeartbeats 4000000 in
theorem rnum_lt8 (b : Nat) (s : ByteArray) (w : World) (h : RdT 33 b s false w) (hz : 0 < s.size) (hs : s.size ≤ 70368744177664) (h8 : lead s[0].toNat < 8) :
    Calls Try.prog 19 #[.pointer (some ⟨b, 0, none⟩)] w (RNumPost b s w) := by
  obtain ⟨h0, h1, f0, f1⟩ := h.facts
  have H := Lib.hid h
  clear h
  have hc : s[0].toNat < 256 := s[0].toNat_lt
  have hl8 := lead_le s[0].toNat
  have he := isEmpty_no s hz
  have BS := Lib.hid (readN_short s hz)
  have BD := Lib.hid (readN_sort s hz)
  have GD := Lib.hid (readN_good s hz)
  have SL := Lib.hid (sort_le s _ hc)
  go_enter Try.func19, Try.ntmps19
  go_wp2_with fail
  go_loop [3, 4] (fun f k => ∃ n : Nat, n ≤ lead s[0].toNat ∧ f = .int .i64 (offB s[0].toNat n : Nat) ∧ k = .int .i64 (n : Int)) (fun _ k => 8 - (intOf k).toNat)
  case atStart => exact ⟨0, Nat.zero_le _, by simp [offB], rfl⟩
  case round =>
    obtain ⟨n, hn, rfl, rfl⟩ := hrel
    have hob : offB s[0].toNat n < 256 := by unfold offB; omega
    by_cases hlt : n < lead s[0].toNat
    · have ht := off_yes s[0].toNat n hc hlt
      have HX := Lib.hid (off_next s[0].toNat n hc hlt)
      go_wp2_with fail
      go_round
      case rel => exact ⟨n + 1, by omega, by rw [HX.out], by go_num⟩
      case measure => simp [intOf]; omega
    · obtain rfl : n = lead s[0].toNat := by omega
      clear hlt
      have hone : 1 ≤ lead s[0].toNat + 1 := by omega
      by_cases hsz : s.size ≤ lead s[0].toNat
      · have HFIN := Lib.hid (BS.out hsz)
        have ht := off_no _ hc h8
        go_wp2_with (go_at_call 36; refine (rstop_any _ _ _ _ H.out).mono ?_; rintro e w' ⟨rfl, hr, hg⟩)
        go_ret
        exact RNumPost.bad HFIN.out hg rfl hr
      · have hge : lead s[0].toNat + 1 ≤ s.size := by omega
        clear hsz
        have ht := off_no _ hc h8
        go_wp2_with fail
        clear ht
        go_loop [5, 6] (fun n i => ∃ k v : Nat, 1 ≤ k ∧ k ≤ lead s[0].toNat + 1 ∧ i = .int .i64 (k : Int) ∧ n = .int .u64 (v : Int) ∧ v = valAt s s[0].toNat k) (fun _ i => 10 - (intOf i).toNat)
        case atStart => exact ⟨1, _, by omega, hone, rfl, rfl, rfl⟩
        case round =>
          obtain ⟨k, v, hk1, hkl, rfl, rfl, hv⟩ := hrel
          by_cases hlt : k ≤ lead s[0].toNat
          · have hks : k < s.size := by omega
            have hvb : v < 72057594037927936 := by rw [hv]; exact valAt_lt s _ k hc hlt
            have hx : s[k].toNat < 256 := s[k].toNat_lt
            have HS := Lib.hid (show v * 256 + s[k].toNat = valAt s s[0].toNat (k + 1) by rw [valAt_succ s _ k hk1 hks, hv])
            clear hv
            go_wp2_with fail
            go_round
            case rel => exact ⟨k + 1, v * 256 + s[k].toNat, by omega, by omega, by go_num, by go_num, HS.out⟩
            case measure => simp [intOf]; omega
          · have HV := Lib.hid (show v = valAt s s[0].toNat (lead s[0].toNat + 1) by rw [hv, show k = lead s[0].toNat + 1 by omega])
            have hvb : v < 18446744073709551616 := by rw [HV.out]; exact valAt_lt' s _ _ hc (by omega)
            have hgt : lead s[0].toNat + 1 ≤ k := by omega
            clear hv
            by_cases hl0 : lead s[0].toNat ≤ 0
            · have HF := Lib.hid (GD.out (by omega) (by have := SL.out; omega))
              go_wp2_with fail
              all_goals
                go_ret
                exact RNumPost.good (Nat.add_comm 1 _) HF.out (grown_set (World.grownBy.refl _ _) _ _) (congrArg (fun q : Nat => Ending.returned (.int .u64 (q : Int))) HV.out) (H.out.set0 _)
            · have hl1 : 0 < lead s[0].toNat := by omega
              by_cases hr : roomB v (lead s[0].toNat - 1) = true
              · have hr' : roomB v ((lead s[0].toNat : Int) - 1).toNat = true := by rw [show ((lead s[0].toNat : Int) - 1).toNat = lead s[0].toNat - 1 by omega]; exact hr
                have HF := Lib.hid (BD.out (by omega) (by
                  rw [← HV.out]
                  intro hq
                  have := roomB_lt v (lead s[0].toNat - 1) (by omega)
                  rw [hr] at this
                  cases this))
                clear hr hl0
                go_wp2_with (first | (go_at_call 30; refine (fits_int v (by omega) _ (by omega) (by omega) _).mono ?_; rw [hr']; rintro e w' ⟨rfl, rfl⟩) | (go_at_call 36; refine (rstop_any _ _ _ _ H.out).mono ?_; rintro e w' ⟨rfl, hr, hg⟩))
                go_ret
                exact RNumPost.bad HF.out hg rfl hr
              · have hr1 : roomB v (lead s[0].toNat - 1) = false := by simpa using hr
                have hr' : roomB v ((lead s[0].toNat : Int) - 1).toNat = false := by rw [show ((lead s[0].toNat : Int) - 1).toNat = lead s[0].toNat - 1 by omega]; exact hr1
                have HF := Lib.hid (GD.out (by omega) (by
                  rw [← HV.out]
                  have h1 := SL.out
                  rw [← HV.out] at h1
                  rcases Nat.lt_or_ge (lead s[0].toNat - 1) (sortN v) with h2 | h2
                  · omega
                  · have := roomB_ge v (lead s[0].toNat - 1) h2 (by omega)
                    rw [hr1] at this
                    cases this))
                clear hr hr1 hl0
                go_wp2_with (go_at_call 30; refine (fits_int v (by omega) _ (by omega) (by omega) _).mono ?_; rw [hr']; rintro e w' ⟨rfl, rfl⟩)
                go_ret
                exact RNumPost.good (Nat.add_comm 1 _) HF.out (grown_set (World.grownBy.refl _ _) _ _) (congrArg (fun q : Nat => Ending.returned (.int .u64 (q : Int))) HV.out) (H.out.set0 _)
end Go.Proofs.Ythndmaeplnhmlaa
