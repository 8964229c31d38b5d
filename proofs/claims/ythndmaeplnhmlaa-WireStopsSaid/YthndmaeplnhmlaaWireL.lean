/- The document's reader takes a number. -/
import Derived.Test.YthndmaeplnhmlaaWireK
namespace Go.Proofs.Ythndmaeplnhmlaa
open Go.RowKit
set_option linter.unusedVariables false

/-- What is left of the first byte when k ones are taken off. -/
def offB (c k : Nat) : Nat := c - (256 - 2 ^ (8 - k))
theorem off_step : ∀ c : Fin 256, ∀ n : Fin 9, n.val < lead c.val → (offB c.val n.val / 2 ^ (7 - n.val)) % 2 = 1 ∧ 128 / 2 ^ n.val ≤ offB c.val n.val ∧ offB c.val n.val - 128 / 2 ^ n.val = offB c.val (n.val + 1) := by decide +kernel
theorem off_stop : ∀ c : Fin 256, lead c.val < 8 → (offB c.val (lead c.val) / 2 ^ (7 - lead c.val)) % 2 = 0 := by decide +kernel
theorem off_bit (a m : Nat) : (((a : Nat) : Int) / 2 ^ m).tmod 2 = ((a / 2 ^ m % 2 : Nat) : Int) := by
  have e : ((a : Nat) : Int) / 2 ^ m = ((a / 2 ^ m : Nat) : Int) := by simp
  rw [e]
  generalize a / 2 ^ m = q
  rw [Int.tmod_eq_emod_of_nonneg (by omega)]
  omega
theorem off_yes (c n : Nat) (hc : c < 256) (h : n < lead c) : ((((offB c n : Nat) : Int) / 2 ^ (7 - n)).tmod 2 == 1) = true := by
  have h8 := lead_le c
  have := (off_step ⟨c, hc⟩ ⟨n, by omega⟩ h).1
  simp only at this
  rw [off_bit, this]; rfl
theorem off_no (c : Nat) (hc : c < 256) (h : lead c < 8) : ((((offB c (lead c) : Nat) : Int) / 2 ^ (7 - lead c)).tmod 2 == 1) = false := by
  have := off_stop ⟨c, hc⟩ h
  simp only at this
  rw [off_bit, this]; rfl
theorem off_next (c n : Nat) (hc : c < 256) (h : n < lead c) : wrap64 (((offB c n : Nat) : Int) - 128 / 2 ^ n) = ((offB c (n + 1) : Nat) : Int) := by
  have h8 := lead_le c
  obtain ⟨_, h2, h3⟩ := off_step ⟨c, hc⟩ ⟨n, by omega⟩ h
  simp only at h2 h3
  have e : (128 : Int) / 2 ^ n = ((128 / 2 ^ n : Nat) : Int) := by simp
  have hlt : offB c n < 256 := by unfold offB; omega
  rw [e, ← h3]
  generalize 128 / 2 ^ n = g at *
  unfold wrap64
  omega
theorem roomB_ge (n k : Nat) (h : sortN n ≤ k) (hk : k ≤ 8) : roomB n k = true := by
  have hk : k = 0 ∨ k = 1 ∨ k = 2 ∨ k = 3 ∨ k = 4 ∨ k = 5 ∨ k = 6 ∨ k = 7 ∨ k = 8 := by omega
  unfold sortN at h
  repeat' split at h
  all_goals
    rcases hk with rfl | rfl | rfl | rfl | rfl | rfl | rfl | rfl | rfl
    all_goals (first | omega | (simp [roomB]; done) | (simp [roomB]; omega))
theorem low_c : ∀ c : Fin 256, lead c.val < 8 → (lowB c.val + 1) * 256 ^ (lead c.val) ≤ 2 ^ (7 + 7 * lead c.val) := by decide +kernel
/-- What a first byte with q ones says has room in sort q. -/
theorem sort_le (s : ByteArray) (c : Nat) (hc : c < 256) : sortN (valAt s c (lead c + 1)) ≤ lead c := by
  have h8 := lead_le c
  by_cases h : lead c < 8
  · have h1 := valL_lt ((s.data.toList.drop 1).take (lead c + 1 - 1)) (lowB c)
    have hl : ((s.data.toList.drop 1).take (lead c + 1 - 1)).length ≤ lead c := Nat.le_trans (List.length_take_le _ _) (by omega)
    have hp : 256 ^ ((s.data.toList.drop 1).take (lead c + 1 - 1)).length ≤ 256 ^ (lead c) := Nat.pow_le_pow_right (by omega) hl
    have h2 := low_c ⟨c, hc⟩ h
    have h3 : valAt s c (lead c + 1) < 2 ^ (7 + 7 * lead c) := Nat.lt_of_lt_of_le h1 (Nat.le_trans (Nat.mul_le_mul_left _ hp) h2)
    rcases Nat.lt_or_ge (lead c) (sortN (valAt s c (lead c + 1))) with h4 | h4
    · have := roomB_lt _ _ h4
      simp [roomB] at this
      omega
    · exact h4
  · have := sortN_le (valAt s c (lead c + 1))
    omega
theorem fits_int (n : Nat) (hn : n ≤ 18446744073709551615) (x : Int) (h0 : 0 ≤ x) (h8 : x ≤ 8) (w : World) :
    Calls Try.prog 30 #[.int .u64 (n : Int), .int .i64 x] w fun e w' => e = .returned (.bool (roomB n x.toNat)) ∧ w = w' := by
  obtain ⟨k, rfl⟩ := Int.eq_ofNat_of_zero_le h0
  exact fits_at n hn k (by omega) w
theorem isEmpty_no (s : ByteArray) (h : 0 < s.size) : s.toList.isEmpty = false := by
  rw [ByteArray.toList_eq]
  have h1 : s.data.toList.length = s.size := by simp
  cases hq : s.data.toList with
  | nil =>
    rw [hq, List.length_nil] at h1
    omega
  | cons a l => rfl

/-- What Num hands back, and what becomes of the document's reader. -/
def RNumPost (b : Nat) (s : ByteArray) (w : World) (e : Ending) (w' : World) : Prop :=
  w.grownBy w' (some b) ∧ match readN s.data.toList with
    | none => e = .returned (.int .u64 0) ∧ RdT 33 b ByteArray.empty true w'
    | some (n, k) => e = .returned (.int .u64 (n : Int)) ∧ RdT 33 b (s.extract k s.size) false w'
theorem RNumPost.bad {b : Nat} {s : ByteArray} {w w' : World} {e : Ending} (h : readN s.data.toList = none) (g : w.grownBy w' (some b)) (he : e = .returned (.int .u64 0)) (r : RdT 33 b ByteArray.empty true w') : RNumPost b s w e w' := by
  unfold RNumPost; rw [h]; exact ⟨g, he, r⟩
theorem RNumPost.good {b : Nat} {s : ByteArray} {w w' : World} {e : Ending} {n k k' : Nat} (hk : k' = k) (h : readN s.data.toList = some (n, k)) (g : w.grownBy w' (some b)) (he : e = .returned (.int .u64 (n : Int))) (r : RdT 33 b (s.extract k' s.size) false w') : RNumPost b s w e w' := by
  subst hk
  unfold RNumPost; rw [h]; exact ⟨g, he, r⟩
set_option maxHeartbeats 400000 in
theorem rnum_empty (b : Nat) (st : Bool) (w : World) (h : RdT 33 b ByteArray.empty st w) :
    Calls Try.prog 19 #[.pointer (some ⟨b, 0, none⟩)] w fun e w' => e = .returned (.int .u64 0) ∧ RdT 33 b ByteArray.empty true w' ∧ w.grownBy w' (some b) := by
  obtain ⟨h0, h1, f0, f1⟩ := h.facts
  have H := Lib.hid h
  clear h
  go_enter Try.func19, Try.ntmps19
  go_wp2_with (go_at_call 36; refine (rstop_any _ _ _ _ H.out).mono ?_; rintro e w' ⟨rfl, hr, hg⟩)
  go_ret
  exact ⟨rfl, hr, hg⟩

end Go.Proofs.Ythndmaeplnhmlaa
