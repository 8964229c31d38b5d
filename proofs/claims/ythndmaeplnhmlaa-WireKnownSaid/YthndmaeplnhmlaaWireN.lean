/- Plain: what was put comes again. -/
import Derived.Test.YthndmaeplnhmlaaWireJ
namespace Go.Proofs.Ythndmaeplnhmlaa
open Go.RowKit
set_option linter.unusedVariables false

theorem valL_beL (n : Nat) : ∀ s, valL (n / 256 ^ s) (beL s n) = n := by
  intro s
  induction s with
  | zero => simp [beL, valL]
  | succ s ih =>
    have hb : (UInt8.ofNat (n / 256 ^ s % 256)).toNat = n / 256 ^ s % 256 := by
      rw [UInt8.toNat_ofNat']
      omega
    show valL (n / 256 ^ (s + 1) * 256 + (UInt8.ofNat (n / 256 ^ s % 256)).toNat) (beL s n) = n
    rw [hb, Nat.pow_succ, ← Nat.div_div_eq_div_mul]
    rw [show n / 256 ^ s / 256 * 256 + n / 256 ^ s % 256 = n / 256 ^ s by omega]
    exact ih
theorem quo_lt (n : Nat) (hn : n < 18446744073709551616) (h8 : sortN n < 8) : n / 256 ^ sortN n < 2 ^ (7 - sortN n) := by
  have hr := roomB_sortN n
  have h : n < 2 ^ (7 + 7 * sortN n) := by
    simp [roomB] at hr
    omega
  have hk : sortN n = 0 ∨ sortN n = 1 ∨ sortN n = 2 ∨ sortN n = 3 ∨ sortN n = 4 ∨ sortN n = 5 ∨ sortN n = 6 ∨ sortN n = 7 := by omega
  rcases hk with hk | hk | hk | hk | hk | hk | hk | hk
  all_goals
    rw [hk] at h ⊢
    simp at h ⊢
    omega
theorem quo_0 (n : Nat) (hn : n < 18446744073709551616) (h8 : sortN n = 8) : n / 256 ^ sortN n = 0 := by
  rw [h8]; simp; omega
/-- The first byte of a number. -/
def firstB (n : Nat) : Nat := 256 - 2 ^ (8 - sortN n) + n / 256 ^ sortN n
theorem firstB_facts (n : Nat) (hn : n < 18446744073709551616) : firstB n < 256 ∧ lead (firstB n) = sortN n ∧ lowB (firstB n) = n / 256 ^ sortN n := by
  have h8 := sortN_le n
  have hq : sortN n = 8 ∧ n / 256 ^ sortN n = 0 ∨ sortN n < 8 ∧ n / 256 ^ sortN n < 2 ^ (7 - sortN n) := by
    rcases Nat.lt_or_ge (sortN n) 8 with h | h
    · exact .inr ⟨h, quo_lt n hn h⟩
    · exact .inl ⟨by omega, quo_0 n hn (by omega)⟩
  unfold lowB firstB
  generalize n / 256 ^ sortN n = q at *
  generalize sortN n = s at *
  have hk : s = 0 ∨ s = 1 ∨ s = 2 ∨ s = 3 ∨ s = 4 ∨ s = 5 ∨ s = 6 ∨ s = 7 ∨ s = 8 := by omega
  have key : 256 - 2 ^ (8 - s) + q < 256 ∧ lead (256 - 2 ^ (8 - s) + q) = s := by
    rcases hk with rfl | rfl | rfl | rfl | rfl | rfl | rfl | rfl | rfl
    all_goals
      simp at hq
      refine ⟨by omega, ?_⟩
      unfold lead
      repeat' split
      all_goals omega
  refine ⟨key.1, key.2, ?_⟩
  rw [key.2]
  omega
theorem numL_eq (n : Nat) : numL n = UInt8.ofNat (firstB n) :: beL (sortN n) n := rfl
theorem readN_numL (n : Nat) (hn : n < 18446744073709551616) (r : List UInt8) : readN (numL n ++ r) = some (n, sortN n + 1) := by
  obtain ⟨h1, h2, h3⟩ := firstB_facts n hn
  have hb : (UInt8.ofNat (firstB n)).toNat = firstB n := by
    rw [UInt8.toNat_ofNat']
    omega
  rw [numL_eq, List.cons_append, readN_cons, hb, h2, h3]
  have ht : (beL (sortN n) n ++ r).take (sortN n) = beL (sortN n) n := by
    rw [List.take_append_of_le_length (by rw [beL_length]; exact Nat.le_refl _), List.take_of_length_le (by rw [beL_length]; exact Nat.le_refl _)]
  rw [ht, valL_beL, if_neg (by simp [beL_length]), if_pos rfl]
theorem numS_size' (n : Nat) : (numS n).size = sortN n + 1 := by
  show (numL n).toArray.size = _
  simp [numL, beL_length]
theorem numS_inj (a b : Nat) (ha : a < 18446744073709551616) (hb : b < 18446744073709551616) (h : numS a = numS b) : a = b := by
  have e : numL a = numL b := by
    have := congrArg (fun s : ByteArray => s.data.toList) h
    simpa [numS] using this
  have h1 := readN_numL a ha []
  have h2 := readN_numL b hb []
  rw [e, h2] at h1
  simp at h1
  exact h1.1.symm
theorem extract_back (s t : ByteArray) (k : Nat) (h : s.size = k) : (s ++ t).extract k (s ++ t).size = t := by
  subst h
  apply ByteArray.ext
  have a1 : s.data.extract s.size (s.size + t.size) = #[] := by
    apply Array.eq_empty_of_size_eq_zero
    rw [Array.size_extract]
    have : s.data.size = s.size := rfl
    omega
  have a2 : t.data.extract 0 t.size = t.data := Array.extract_size
  simp only [ByteArray.size_append, ByteArray.data_extract, ByteArray.data_append, Array.extract_append]
  have e3 : s.data.size = s.size := rfl
  rw [e3, a1, Nat.sub_self, Nat.add_sub_cancel_left, a2, Array.empty_append]
theorem extract_front (s t : ByteArray) (k : Nat) (h : s.size = k) : (s ++ t).extract 0 k = s := by
  subst h
  apply ByteArray.ext
  simp
theorem rdNum_put (n : Nat) (hn : n < 18446744073709551616) (t : ByteArray) : rdNum (numS n ++ t, false) = (n, (t, false)) := by
  have h : readN (numS n ++ t).data.toList = some (n, sortN n + 1) := by
    have e : (numS n ++ t).data.toList = numL n ++ t.data.toList := by simp [numS]
    rw [e]; exact readN_numL n hn _
  unfold rdNum
  rw [if_neg (by simp)]
  simp only [h]
  rw [extract_back _ _ _ (numS_size' n)]
theorem rdInt_put (i : Int) (h1 : -9223372036854775808 ≤ i) (h2 : i ≤ 9223372036854775807) (t : ByteArray) : rdInt (numS (zig i) ++ t, false) = (i, (t, false)) := by
  have h := rdNum_put (zig i) (by have := zig_le i h1 h2; omega) t
  unfold rdInt
  rw [h, unzig_zig]
theorem rdText_put (x t : ByteArray) (hx : x.size < 18446744073709551616) : rdText (textS x ++ t, false) = (x, (t, false)) := by
  have h := rdNum_put x.size hx (x ++ t)
  have e : textS x ++ t = numS x.size ++ (x ++ t) := ByteArray.append_assoc
  unfold rdText
  rw [e, h]
  rw [if_neg (by simp), if_neg (by simp [ByteArray.size_append])]
  simp only
  rw [extract_front x t _ rfl, extract_back x t _ rfl]
theorem sortN_mono (a b : Nat) (h : a ≤ b) : sortN a ≤ sortN b := by
  rcases Nat.lt_or_ge (sortN b) (sortN a) with h1 | h1
  · have h2 := roomB_lt a (sortN b) h1
    have h3 := roomB_sortN b
    simp [roomB] at h2 h3
    omega
  · exact h1
theorem sort_even (m : Nat) : sortN (2 * m + 1) = sortN (2 * m) := by
  have h1 := sortN_mono (2 * m) (2 * m + 1) (by omega)
  rcases Nat.lt_or_ge (sortN (2 * m)) (sortN (2 * m + 1)) with h2 | h2
  · have h3 := roomB_lt _ _ h2
    have h4 := roomB_sortN (2 * m)
    have h5 := sortN_le (2 * m)
    generalize sortN (2 * m) = k at *
    have hk : k = 0 ∨ k = 1 ∨ k = 2 ∨ k = 3 ∨ k = 4 ∨ k = 5 ∨ k = 6 ∨ k = 7 ∨ k = 8 := by omega
    rcases hk with rfl | rfl | rfl | rfl | rfl | rfl | rfl | rfl | rfl
    all_goals
      simp [roomB] at h3 h4
      try omega
  · omega
theorem sort_zig (a : Int) : sortN (zig (-a - 1)) = sortN (zig a) := by
  by_cases h : 0 ≤ a
  · have e1 : zig a = 2 * a.toNat := by unfold zig; rw [if_pos h]; omega
    have e2 : zig (-a - 1) = 2 * a.toNat + 1 := by unfold zig; rw [if_neg (by omega)]; omega
    rw [e1, e2, sort_even]
  · have e1 : zig a = 2 * (-a - 1).toNat + 1 := by unfold zig; rw [if_neg h]; omega
    have e2 : zig (-a - 1) = 2 * (-a - 1).toNat := by unfold zig; rw [if_pos (by omega)]; omega
    rw [e1, e2, sort_even]
theorem zig_half (a : Int) : ((zig a / 2 : Nat) : Int) = if a < -a - 1 then -a - 1 else a := by
  unfold zig
  repeat' split
  all_goals omega
theorem zig_ne (a : Int) : zig a ≠ zig (-a - 1) := by
  unfold zig
  repeat' split
  all_goals omega
end Go.Proofs.Ythndmaeplnhmlaa
