/- How many bytes a first byte says that follow, as the law asks it; and: what is read as a number is the row that it is put in. -/
import Derived.Test.YthndmaeplnhmlaaWireN
namespace Go.Proofs.Ythndmaeplnhmlaa
open Go.RowKit
set_option linter.unusedVariables false

theorem top_step : ∀ c : Fin 256, ∀ n : Fin 9, n.val < lead c.val → (c.val / 2 ^ (7 - n.val)) % 2 = 1 := by decide +kernel
theorem top_stop : ∀ c : Fin 256, lead c.val < 8 → (c.val / 2 ^ (7 - lead c.val)) % 2 = 0 := by decide +kernel
theorem top_bit (a m : Nat) : (((a : Nat) : Int) / 2 ^ m).tmod 2 = ((a / 2 ^ m % 2 : Nat) : Int) := by
  have e : ((a : Nat) : Int) / 2 ^ m = ((a / 2 ^ m : Nat) : Int) := by simp
  rw [e]
  generalize a / 2 ^ m = q
  rw [Int.tmod_eq_emod_of_nonneg (by omega)]
  omega
theorem top_yes (c n : Nat) (hc : c < 256) (h : n < lead c) : ((((c : Nat) : Int) / 2 ^ (7 - n)).tmod 2 == 1) = true := by
  have h8 := lead_le c
  have := top_step ⟨c, hc⟩ ⟨n, by omega⟩ h
  simp only at this
  rw [top_bit, this]; rfl
theorem top_no (c : Nat) (hc : c < 256) (h : lead c < 8) : ((((c : Nat) : Int) / 2 ^ (7 - lead c)).tmod 2 == 1) = false := by
  have := top_stop ⟨c, hc⟩ h
  simp only at this
  rw [top_bit, this]; rfl
set_option maxHeartbeats 1000000 in
theorem behind_any (c : Nat) (hc : c < 256) (w : World) :
    Calls Try.prog 28 #[.int .u8 (c : Int)] w fun e w' => e = .returned (.int .i64 (lead c : Nat)) ∧ w = w' := by
  have hl8 := lead_le c
  go_enter Try.func28, Try.ntmps28
  go_wp2_with fail
  go_loop [3] (fun k => ∃ n : Nat, n ≤ lead c ∧ k = .int .i64 (n : Int)) (fun k => 8 - (intOf k).toNat)
  case atStart => exact ⟨0, Nat.zero_le _, rfl⟩
  case round =>
    obtain ⟨n, hn, rfl⟩ := hrel
    by_cases hlt : n < lead c
    · have ht := top_yes c n hc hlt
      go_wp2_with fail
      go_round
      case rel => exact ⟨n + 1, by omega, by go_num⟩
      case measure => simp [intOf]; omega
    · obtain rfl : n = lead c := by omega
      clear hlt
      by_cases h8 : lead c < 8
      · have ht := top_no c hc h8
        go_wp2_with fail
        go_ret
        exact ⟨rfl, rfl⟩
      · go_wp2_with fail
        go_ret
        exact ⟨rfl, rfl⟩

theorem beL_valL (l : List UInt8) : ∀ a, beL l.length (valL a l) = l ∧ valL a l / 256 ^ l.length = a := by
  induction l with
  | nil => intro a; simp [beL, valL]
  | cons b r ih =>
    intro a
    obtain ⟨h1, h2⟩ := ih (a * 256 + b.toNat)
    have hb : b.toNat < 256 := b.toNat_lt
    refine ⟨?_, ?_⟩
    · show UInt8.ofNat (valL (a * 256 + b.toNat) r / 256 ^ r.length % 256) :: beL r.length (valL (a * 256 + b.toNat) r) = b :: r
      rw [h1, h2, show (a * 256 + b.toNat) % 256 = b.toNat by omega]
      simp
    · show valL (a * 256 + b.toNat) r / 256 ^ (r.length + 1) = a
      rw [Nat.pow_succ, ← Nat.div_div_eq_div_mul, h2]
      omega
theorem lead_low : ∀ c : Fin 256, 256 - 2 ^ (8 - lead c.val) + lowB c.val = c.val := by decide +kernel
/-- What is read as a number is the row that it is put in. -/
theorem readN_row (l : List UInt8) (m k : Nat) (h : readN l = some (m, k)) : l.take k = numL m ∧ k ≤ l.length ∧ k = sortN m + 1 := by
  cases l with
  | nil => simp [readN] at h
  | cons c r =>
    rw [readN_cons] at h
    split at h
    · simp at h
    · rename_i hlen
      split at h
      · rename_i hs
        simp only [Option.some.injEq, Prod.mk.injEq] at h
        obtain ⟨rfl, rfl⟩ := h
        have hl : (r.take (lead c.toNat)).length = lead c.toNat := by rw [List.length_take]; omega
        obtain ⟨h1, h2⟩ := beL_valL (r.take (lead c.toNat)) (lowB c.toNat)
        rw [hl] at h1 h2
        refine ⟨?_, ?_, by rw [hs]⟩
        · unfold numL
          rw [hs, h1, h2, lead_low ⟨c.toNat, c.toNat_lt⟩]
          simp
        · simp; omega
      · simp at h
/-- The same number in the sort behind its own. -/
theorem readN_wide (n : Nat) (h : sortN n < 8) : readN (UInt8.ofNat (256 - 2 ^ (7 - sortN n)) :: beL (sortN n + 1) n) = none := by
  have hk : sortN n = 0 ∨ sortN n = 1 ∨ sortN n = 2 ∨ sortN n = 3 ∨ sortN n = 4 ∨ sortN n = 5 ∨ sortN n = 6 ∨ sortN n = 7 := by omega
  have key : lead (UInt8.ofNat (256 - 2 ^ (7 - sortN n))).toNat = sortN n + 1 ∧ lowB (UInt8.ofNat (256 - 2 ^ (7 - sortN n))).toNat = 0 := by
    rcases hk with hk | hk | hk | hk | hk | hk | hk | hk
    all_goals
      rw [hk]
      decide +kernel
  have hv : n / 256 ^ (sortN n + 1) = 0 := by
    have hr := roomB_sortN n
    simp [roomB] at hr
    rcases hk with hk | hk | hk | hk | hk | hk | hk | hk
    all_goals
      rw [hk] at hr ⊢
      simp at hr ⊢
      omega
  rw [readN_cons, key.1, key.2, if_neg (by simp [beL_length]), List.take_of_length_le (by simp [beL_length])]
  have := valL_beL n (sortN n + 1)
  rw [hv] at this
  rw [this, if_neg (by omega)]
end Go.Proofs.Ythndmaeplnhmlaa
