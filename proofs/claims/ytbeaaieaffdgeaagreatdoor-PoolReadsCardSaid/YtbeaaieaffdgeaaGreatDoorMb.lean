/- Texts that belong together: WireJ, WireN, WireR, PoolMa, WireD, WireK, CodeA, CodeB. -/
import Derived.Test.YtbeaaieaffdgeaaGreatDoorMa
import Derived.Test.YtbeaaieaffdgeaaGreatDoorProg
import Derived.WalkKit
import Derived.WalkSpells
import Derived.WalkLawsBesides
import Derived.Lib.Hide
import Derived.BigQuiet
import Derived.Deep.QuietTactic
import Derived.RegionTactic
import Derived.ChangeAlike
import Derived.Maps.OwnSet
import Derived.Deep.WholeRow
/- What a reader hands back, whatever it holds: the program's Num, Int, Text. -/
section
namespace Go.Proofs.YtbeaaieaffdgeaaGreatDoor
open Go.RowKit
set_option linter.unusedVariables false

/-- What a reader is: what is left, and whether it has stopped. -/
abbrev RdS := ByteArray × Bool
def rdNum (r : RdS) : Nat × RdS :=
  if r.2 then (0, r) else match readN r.1.data.toList with
    | none => (0, (ByteArray.empty, true))
    | some (n, k) => (n, (r.1.extract k r.1.size, false))
def rdInt (r : RdS) : Int × RdS := (unzig (rdNum r).1, (rdNum r).2)
def rdText (r : RdS) : ByteArray × RdS :=
  if (rdNum r).2.2 then (ByteArray.empty, (rdNum r).2)
  else if (rdNum r).2.1.size < (rdNum r).1 then (ByteArray.empty, (ByteArray.empty, true))
  else ((rdNum r).2.1.extract 0 (rdNum r).1, ((rdNum r).2.1.extract (rdNum r).1 (rdNum r).2.1.size, false))
/-- A reader that has stopped has nothing left. -/
def RdOk (r : RdS) : Prop := r.1.size ≤ 70368744177664 ∧ (r.2 = true → r.1 = ByteArray.empty)
theorem readN_lt (l : List UInt8) (n k : Nat) (h : readN l = some (n, k)) : n < 18446744073709551616 := by
  cases l with
  | nil => simp [readN] at h
  | cons c r =>
    rw [readN_cons] at h
    split at h
    · simp at h
    · split at h
      · simp only [Option.some.injEq, Prod.mk.injEq] at h
        obtain ⟨rfl, -⟩ := h
        have h1 := valL_lt (r.take (lead c.toNat)) (lowB c.toNat)
        have h2 : (r.take (lead c.toNat)).length ≤ lead c.toNat := List.length_take_le _ _
        have hp : 256 ^ (r.take (lead c.toNat)).length ≤ 256 ^ (lead c.toNat) := Nat.pow_le_pow_right (by omega) h2
        have := low_b ⟨c.toNat, c.toNat_lt⟩
        exact Nat.lt_of_lt_of_le h1 (Nat.le_trans (Nat.mul_le_mul_left _ hp) this)
      · simp at h
theorem rdNum_lt (r : RdS) : (rdNum r).1 < 18446744073709551616 := by
  unfold rdNum
  split
  · omega
  · split
    · omega
    · exact readN_lt _ _ _ ‹_›
theorem RdOk.num {r : RdS} (h : RdOk r) : RdOk (rdNum r).2 := by
  unfold rdNum
  split
  · exact h
  · split
    · exact ⟨by simp, fun _ => rfl⟩
    · refine ⟨?_, fun h => by cases h⟩
      have := h.1
      simp only [ByteArray.size_extract]
      omega
theorem RdOk.text {r : RdS} (h : RdOk r) : RdOk (rdText r).2 := by
  have h' := h.num
  unfold rdText
  split
  · exact h'
  · split
    · exact ⟨by simp, fun _ => rfl⟩
    · refine ⟨?_, fun h => by cases h⟩
      have := h'.1
      simp only [ByteArray.size_extract]
      omega

set_option maxHeartbeats 400000 in
theorem num_stopped (b : Nat) (s : ByteArray) (w : World) (h : RdT 91 b s true w) :
    Calls Tryz.prog 74 #[.pointer (some ⟨b, 0, none⟩)] w fun e w' => e = .returned (.int .u64 0) ∧ w = w' := by
  have H := Lib.hid h
  clear h
  go_enter Tryz.func74, Tryz.ntmps74
  go_wp2
  go_step3
  go_wp2_with (go_at_call 55; refine (ok_any _ _ _ _ H.out).mono ?_; rintro e w' ⟨rfl, rfl⟩)
  rw [Exit.noGoto_ret]
  go_ret
  exact ⟨rfl, rfl⟩
set_option maxHeartbeats 400000 in
theorem num_nil (w : World) :
    Calls Tryz.prog 74 #[.pointer none] w fun e w' => e = .returned (.int .u64 0) ∧ w = w' := by
  go_enter Tryz.func74, Tryz.ntmps74
  go_wp2
  go_step3
  go_wp2_with (go_at_call 55; refine (ok_nil _).mono ?_; rintro e w' ⟨rfl, rfl⟩)
  rw [Exit.noGoto_ret]
  go_ret
  exact ⟨rfl, rfl⟩
theorem num_any (b : Nat) (r : RdS) (w : World) (hr : RdOk r) (h : RdT 91 b r.1 r.2 w) :
    Calls Tryz.prog 74 #[.pointer (some ⟨b, 0, none⟩)] w fun e w' => e = .returned (.int .u64 ((rdNum r).1 : Int)) ∧ RdT 91 b (rdNum r).2.1 (rdNum r).2.2 w' ∧ w.grownBy w' (some b) := by
  obtain ⟨s, st⟩ := r
  have key : st = false → ∀ e w', NumPost b s w e w' → e = .returned (.int .u64 ((rdNum (s, st)).1 : Int)) ∧ RdT 91 b (rdNum (s, st)).2.1 (rdNum (s, st)).2.2 w' ∧ w.grownBy w' (some b) := by
    rintro rfl e w' ⟨hg, hp⟩
    have e0 : rdNum (s, false) = match readN s.data.toList with
      | none => (0, (ByteArray.empty, true))
      | some (n, k) => (n, (s.extract k s.size, false)) := rfl
    rw [e0]
    split at hp
    · rename_i hq; rw [hq]; exact ⟨hp.1, hp.2, hg⟩
    · rename_i hq; rw [hq]; exact ⟨hp.1, hp.2, hg⟩
  cases st with
  | true => exact (num_stopped b s w h).mono fun e w' ⟨he, hw⟩ => by subst hw; exact ⟨he, h, World.grownBy.refl _ _⟩
  | false =>
    by_cases hz : s.size = 0
    · exact (num_empty b s w h hz).mono (key rfl)
    · exact (num_more b s w h (by omega) hr.1).mono (key rfl)

set_option maxHeartbeats 400000 in
theorem int_any (b : Nat) (r : RdS) (w : World) (hr : RdOk r) (h : RdT 91 b r.1 r.2 w) :
    Calls Tryz.prog 92 #[.pointer (some ⟨b, 0, none⟩)] w fun e w' => e = .returned (.int .i64 (rdInt r).1) ∧ RdT 91 b (rdInt r).2.1 (rdInt r).2.2 w' ∧ w.grownBy w' (some b) := by
  have hb := rdNum_lt r
  have H := Lib.hid h
  clear h
  go_enter Tryz.func92, Tryz.ntmps92
  go_wp2_with (first | (go_at_call 74; refine (num_any b r _ hr H.out).mono ?_; rintro e w' ⟨rfl, h1, hg⟩) | (go_at_call 105; refine (signed_any _ (by omega) _).mono ?_; rintro e w' ⟨rfl, rfl⟩))
  go_ret
  exact ⟨rfl, h1, hg⟩
set_option maxHeartbeats 400000 in
theorem int_nil (w : World) :
    Calls Tryz.prog 92 #[.pointer none] w fun e w' => e = .returned (.int .i64 0) ∧ w = w' := by
  have h0 : ∀ W : World, Calls Tryz.prog 105 #[.int .u64 0] W fun e w' => e = .returned (.int .i64 0) ∧ W = w' := fun W => signed_any 0 (by omega) W
  have H0 := Lib.hid h0
  clear h0
  go_enter Tryz.func92, Tryz.ntmps92
  go_wp2_with (first | (go_at_call 74; refine (num_nil _).mono ?_; rintro e w' ⟨rfl, rfl⟩) | (go_at_call 105; refine (H0.out _).mono ?_; rintro e w' ⟨rfl, rfl⟩))
  go_ret
  exact ⟨rfl, rfl⟩
set_option maxHeartbeats 400000 in
theorem clone_any (s : ByteArray) (w : World) (hs : s.size ≤ 70368744177664) :
    Calls Tryz.prog 91 #[.string s] w fun e w' => e = .returned (.string s) ∧ Below w.heap.size w w' := by
  go_enter Tryz.func91, Tryz.ntmps91
  go_wp2_with (go_at_call 104; refine (Tryz.stringslite_Clone s _ (by omega)).mono ?_; rintro e w' ⟨rfl, hb⟩)
  go_ret
  exact ⟨rfl, hb⟩
set_option maxHeartbeats 400000 in
theorem text_nil (w : World) :
    Calls Tryz.prog 75 #[.pointer none] w fun e w' => e = .returned (.string ByteArray.empty) ∧ w = w' := by
  go_enter Tryz.func75, Tryz.ntmps75
  go_wp2_with (first | (go_at_call 74; refine (num_nil _).mono ?_; rintro e w' ⟨rfl, rfl⟩) | (go_at_call 55; refine (ok_nil _).mono ?_; rintro e w' ⟨rfl, rfl⟩))
  go_ret
  exact ⟨rfl, rfl⟩
end Go.Proofs.YtbeaaieaffdgeaaGreatDoor
end
/- Plain: what was put comes again. -/
section
namespace Go.Proofs.YtbeaaieaffdgeaaGreatDoor
open Go.RowKit
set_option linter.unusedVariables false

theorem valL_beL (n : Nat) : ∀ s, valL (n / 256 ^ s) (beL s n) = n := by
  intro s
  induction s with
  | zero => simp [beL, valL]
  | succ s ih =>
    have hb : (UInt8.ofNat (n / 256 ^ s % 256)).toNat = n / 256 ^ s % 256 := by
      rw [UInt8.toNat_ofNat']
      omega
    show valL (n / 256 ^ (s + 1) * 256 + (UInt8.ofNat (n / 256 ^ s % 256)).toNat) (beL s n) = n
    rw [hb, Nat.pow_succ, ← Nat.div_div_eq_div_mul]
    rw [show n / 256 ^ s / 256 * 256 + n / 256 ^ s % 256 = n / 256 ^ s by omega]
    exact ih
theorem quo_lt (n : Nat) (hn : n < 18446744073709551616) (h8 : sortN n < 8) : n / 256 ^ sortN n < 2 ^ (7 - sortN n) := by
  have hr := roomB_sortN n
  have h : n < 2 ^ (7 + 7 * sortN n) := by
    simp [roomB] at hr
    omega
  have hk : sortN n = 0 ∨ sortN n = 1 ∨ sortN n = 2 ∨ sortN n = 3 ∨ sortN n = 4 ∨ sortN n = 5 ∨ sortN n = 6 ∨ sortN n = 7 := by omega
  rcases hk with hk | hk | hk | hk | hk | hk | hk | hk
  all_goals
    rw [hk] at h ⊢
    simp at h ⊢
    omega
theorem quo_0 (n : Nat) (hn : n < 18446744073709551616) (h8 : sortN n = 8) : n / 256 ^ sortN n = 0 := by
  rw [h8]; simp; omega
/-- The first byte of a number. -/
def firstB (n : Nat) : Nat := 256 - 2 ^ (8 - sortN n) + n / 256 ^ sortN n
theorem firstB_facts (n : Nat) (hn : n < 18446744073709551616) : firstB n < 256 ∧ lead (firstB n) = sortN n ∧ lowB (firstB n) = n / 256 ^ sortN n := by
  have h8 := sortN_le n
  have hq : sortN n = 8 ∧ n / 256 ^ sortN n = 0 ∨ sortN n < 8 ∧ n / 256 ^ sortN n < 2 ^ (7 - sortN n) := by
    rcases Nat.lt_or_ge (sortN n) 8 with h | h
    · exact .inr ⟨h, quo_lt n hn h⟩
    · exact .inl ⟨by omega, quo_0 n hn (by omega)⟩
  unfold lowB firstB
  generalize n / 256 ^ sortN n = q at *
  generalize sortN n = s at *
  have hk : s = 0 ∨ s = 1 ∨ s = 2 ∨ s = 3 ∨ s = 4 ∨ s = 5 ∨ s = 6 ∨ s = 7 ∨ s = 8 := by omega
  have key : 256 - 2 ^ (8 - s) + q < 256 ∧ lead (256 - 2 ^ (8 - s) + q) = s := by
    rcases hk with rfl | rfl | rfl | rfl | rfl | rfl | rfl | rfl | rfl
    all_goals
      simp at hq
      refine ⟨by omega, ?_⟩
      unfold lead
      repeat' split
      all_goals omega
  refine ⟨key.1, key.2, ?_⟩
  rw [key.2]
  omega
theorem numL_eq (n : Nat) : numL n = UInt8.ofNat (firstB n) :: beL (sortN n) n := rfl
theorem readN_numL (n : Nat) (hn : n < 18446744073709551616) (r : List UInt8) : readN (numL n ++ r) = some (n, sortN n + 1) := by
  obtain ⟨h1, h2, h3⟩ := firstB_facts n hn
  have hb : (UInt8.ofNat (firstB n)).toNat = firstB n := by
    rw [UInt8.toNat_ofNat']
    omega
  rw [numL_eq, List.cons_append, readN_cons, hb, h2, h3]
  have ht : (beL (sortN n) n ++ r).take (sortN n) = beL (sortN n) n := by
    rw [List.take_append_of_le_length (by rw [beL_length]; exact Nat.le_refl _), List.take_of_length_le (by rw [beL_length]; exact Nat.le_refl _)]
  rw [ht, valL_beL, if_neg (by simp [beL_length]), if_pos rfl]
theorem numS_size' (n : Nat) : (numS n).size = sortN n + 1 := by
  show (numL n).toArray.size = _
  simp [numL, beL_length]
theorem numS_inj (a b : Nat) (ha : a < 18446744073709551616) (hb : b < 18446744073709551616) (h : numS a = numS b) : a = b := by
  have e : numL a = numL b := by
    have := congrArg (fun s : ByteArray => s.data.toList) h
    simpa [numS] using this
  have h1 := readN_numL a ha []
  have h2 := readN_numL b hb []
  rw [e, h2] at h1
  simp at h1
  exact h1.1.symm
theorem extract_back (s t : ByteArray) (k : Nat) (h : s.size = k) : (s ++ t).extract k (s ++ t).size = t := by
  subst h
  apply ByteArray.ext
  have a1 : s.data.extract s.size (s.size + t.size) = #[] := by
    apply Array.eq_empty_of_size_eq_zero
    rw [Array.size_extract]
    have : s.data.size = s.size := rfl
    omega
  have a2 : t.data.extract 0 t.size = t.data := Array.extract_size
  simp only [ByteArray.size_append, ByteArray.data_extract, ByteArray.data_append, Array.extract_append]
  have e3 : s.data.size = s.size := rfl
  rw [e3, a1, Nat.sub_self, Nat.add_sub_cancel_left, a2, Array.empty_append]
theorem extract_front (s t : ByteArray) (k : Nat) (h : s.size = k) : (s ++ t).extract 0 k = s := by
  subst h
  apply ByteArray.ext
  simp
theorem rdNum_put (n : Nat) (hn : n < 18446744073709551616) (t : ByteArray) : rdNum (numS n ++ t, false) = (n, (t, false)) := by
  have h : readN (numS n ++ t).data.toList = some (n, sortN n + 1) := by
    have e : (numS n ++ t).data.toList = numL n ++ t.data.toList := by simp [numS]
    rw [e]; exact readN_numL n hn _
  unfold rdNum
  rw [if_neg (by simp)]
  simp only [h]
  rw [extract_back _ _ _ (numS_size' n)]
theorem rdInt_put (i : Int) (h1 : -9223372036854775808 ≤ i) (h2 : i ≤ 9223372036854775807) (t : ByteArray) : rdInt (numS (zig i) ++ t, false) = (i, (t, false)) := by
  have h := rdNum_put (zig i) (by have := zig_le i h1 h2; omega) t
  unfold rdInt
  rw [h, unzig_zig]
theorem rdText_put (x t : ByteArray) (hx : x.size < 18446744073709551616) : rdText (textS x ++ t, false) = (x, (t, false)) := by
  have h := rdNum_put x.size hx (x ++ t)
  have e : textS x ++ t = numS x.size ++ (x ++ t) := ByteArray.append_assoc
  unfold rdText
  rw [e, h]
  rw [if_neg (by simp), if_neg (by simp [ByteArray.size_append])]
  simp only
  rw [extract_front x t _ rfl, extract_back x t _ rfl]
theorem sortN_mono (a b : Nat) (h : a ≤ b) : sortN a ≤ sortN b := by
  rcases Nat.lt_or_ge (sortN b) (sortN a) with h1 | h1
  · have h2 := roomB_lt a (sortN b) h1
    have h3 := roomB_sortN b
    simp [roomB] at h2 h3
    omega
  · exact h1
theorem sort_even (m : Nat) : sortN (2 * m + 1) = sortN (2 * m) := by
  have h1 := sortN_mono (2 * m) (2 * m + 1) (by omega)
  rcases Nat.lt_or_ge (sortN (2 * m)) (sortN (2 * m + 1)) with h2 | h2
  · have h3 := roomB_lt _ _ h2
    have h4 := roomB_sortN (2 * m)
    have h5 := sortN_le (2 * m)
    generalize sortN (2 * m) = k at *
    have hk : k = 0 ∨ k = 1 ∨ k = 2 ∨ k = 3 ∨ k = 4 ∨ k = 5 ∨ k = 6 ∨ k = 7 ∨ k = 8 := by omega
    rcases hk with rfl | rfl | rfl | rfl | rfl | rfl | rfl | rfl | rfl
    all_goals
      simp [roomB] at h3 h4
      try omega
  · omega
theorem sort_zig (a : Int) : sortN (zig (-a - 1)) = sortN (zig a) := by
  by_cases h : 0 ≤ a
  · have e1 : zig a = 2 * a.toNat := by unfold zig; rw [if_pos h]; omega
    have e2 : zig (-a - 1) = 2 * a.toNat + 1 := by unfold zig; rw [if_neg (by omega)]; omega
    rw [e1, e2, sort_even]
  · have e1 : zig a = 2 * (-a - 1).toNat + 1 := by unfold zig; rw [if_neg h]; omega
    have e2 : zig (-a - 1) = 2 * (-a - 1).toNat := by unfold zig; rw [if_pos (by omega)]; omega
    rw [e1, e2, sort_even]
theorem zig_half (a : Int) : ((zig a / 2 : Nat) : Int) = if a < -a - 1 then -a - 1 else a := by
  unfold zig
  repeat' split
  all_goals omega
theorem zig_ne (a : Int) : zig a ≠ zig (-a - 1) := by
  unfold zig
  repeat' split
  all_goals omega
end Go.Proofs.YtbeaaieaffdgeaaGreatDoor
end
/- How many bytes a first byte says that follow, as the law asks it; and: what is read as a number is the row that it is put in. -/
section
namespace Go.Proofs.YtbeaaieaffdgeaaGreatDoor
open Go.RowKit
set_option linter.unusedVariables false

theorem top_step : ∀ c : Fin 256, ∀ n : Fin 9, n.val < lead c.val → (c.val / 2 ^ (7 - n.val)) % 2 = 1 := by decide +kernel
theorem top_stop : ∀ c : Fin 256, lead c.val < 8 → (c.val / 2 ^ (7 - lead c.val)) % 2 = 0 := by decide +kernel
theorem top_bit (a m : Nat) : (((a : Nat) : Int) / 2 ^ m).tmod 2 = ((a / 2 ^ m % 2 : Nat) : Int) := by
  have e : ((a : Nat) : Int) / 2 ^ m = ((a / 2 ^ m : Nat) : Int) := by simp
  rw [e]
  generalize a / 2 ^ m = q
  rw [Int.tmod_eq_emod_of_nonneg (by omega)]
  omega
theorem top_yes (c n : Nat) (hc : c < 256) (h : n < lead c) : ((((c : Nat) : Int) / 2 ^ (7 - n)).tmod 2 == 1) = true := by
  have h8 := lead_le c
  have := top_step ⟨c, hc⟩ ⟨n, by omega⟩ h
  simp only at this
  rw [top_bit, this]; rfl
theorem top_no (c : Nat) (hc : c < 256) (h : lead c < 8) : ((((c : Nat) : Int) / 2 ^ (7 - lead c)).tmod 2 == 1) = false := by
  have := top_stop ⟨c, hc⟩ h
  simp only at this
  rw [top_bit, this]; rfl
theorem beL_valL (l : List UInt8) : ∀ a, beL l.length (valL a l) = l ∧ valL a l / 256 ^ l.length = a := by
  induction l with
  | nil => intro a; simp [beL, valL]
  | cons b r ih =>
    intro a
    obtain ⟨h1, h2⟩ := ih (a * 256 + b.toNat)
    have hb : b.toNat < 256 := b.toNat_lt
    refine ⟨?_, ?_⟩
    · show UInt8.ofNat (valL (a * 256 + b.toNat) r / 256 ^ r.length % 256) :: beL r.length (valL (a * 256 + b.toNat) r) = b :: r
      rw [h1, h2, show (a * 256 + b.toNat) % 256 = b.toNat by omega]
      simp
    · show valL (a * 256 + b.toNat) r / 256 ^ (r.length + 1) = a
      rw [Nat.pow_succ, ← Nat.div_div_eq_div_mul, h2]
      omega
theorem lead_low : ∀ c : Fin 256, 256 - 2 ^ (8 - lead c.val) + lowB c.val = c.val := by decide +kernel
/-- What is read as a number is the row that it is put in. -/
theorem readN_row (l : List UInt8) (m k : Nat) (h : readN l = some (m, k)) : l.take k = numL m ∧ k ≤ l.length ∧ k = sortN m + 1 := by
  cases l with
  | nil => simp [readN] at h
  | cons c r =>
    rw [readN_cons] at h
    split at h
    · simp at h
    · rename_i hlen
      split at h
      · rename_i hs
        simp only [Option.some.injEq, Prod.mk.injEq] at h
        obtain ⟨rfl, rfl⟩ := h
        have hl : (r.take (lead c.toNat)).length = lead c.toNat := by rw [List.length_take]; omega
        obtain ⟨h1, h2⟩ := beL_valL (r.take (lead c.toNat)) (lowB c.toNat)
        rw [hl] at h1 h2
        refine ⟨?_, ?_, by rw [hs]⟩
        · unfold numL
          rw [hs, h1, h2, lead_low ⟨c.toNat, c.toNat_lt⟩]
          simp
        · simp; omega
      · simp at h
/-- The same number in the sort behind its own. -/
theorem readN_wide (n : Nat) (h : sortN n < 8) : readN (UInt8.ofNat (256 - 2 ^ (7 - sortN n)) :: beL (sortN n + 1) n) = none := by
  have hk : sortN n = 0 ∨ sortN n = 1 ∨ sortN n = 2 ∨ sortN n = 3 ∨ sortN n = 4 ∨ sortN n = 5 ∨ sortN n = 6 ∨ sortN n = 7 := by omega
  have key : lead (UInt8.ofNat (256 - 2 ^ (7 - sortN n))).toNat = sortN n + 1 ∧ lowB (UInt8.ofNat (256 - 2 ^ (7 - sortN n))).toNat = 0 := by
    rcases hk with hk | hk | hk | hk | hk | hk | hk | hk
    all_goals
      rw [hk]
      decide +kernel
  have hv : n / 256 ^ (sortN n + 1) = 0 := by
    have hr := roomB_sortN n
    simp [roomB] at hr
    rcases hk with hk | hk | hk | hk | hk | hk | hk | hk
    all_goals
      rw [hk] at hr ⊢
      simp at hr ⊢
      omega
  rw [readN_cons, key.1, key.2, if_neg (by simp [beL_length]), List.take_of_length_le (by simp [beL_length])]
  have := valL_beL n (sortN n + 1)
  rw [hv] at this
  rw [this, if_neg (by omega)]
end Go.Proofs.YtbeaaieaffdgeaaGreatDoor
end
/- A reading: what it takes, and what it leaves; or nothing. No walk. -/
section
namespace Go.Proofs.YtbeaaieaffdgeaaGreatDoor
open Go.RowKit
set_option linter.unusedVariables false
set_option linter.unusedSimpArgs false

/-- A reading: what it takes, and what it leaves; or nothing. -/
abbrev Tk (α : Type) := ByteArray → Option (α × ByteArray)
def Tk.then {α β : Type} (f : Tk α) (g : α → Tk β) : Tk β := fun s => match f s with
  | none => none
  | some (x, t) => g x t
def Tk.give {α : Type} (x : α) : Tk α := fun s => some (x, s)
/-- A number up to the most. -/
def pUp (m : Nat) : Tk Int := fun s => if (rdNum (s, false)).2.2 = true then none else if (rdNum (s, false)).1 ≤ m then some (((rdNum (s, false)).1 : Int), (rdNum (s, false)).2.1) else none
def pNum : Tk Int := pUp 9223372036854775807
def pInt : Tk Int := fun s => if (rdInt (s, false)).2.2 = true then none else some ((rdInt (s, false)).1, (rdInt (s, false)).2.1)
def pTxt : Tk ByteArray := fun s => if (rdText (s, false)).2.2 = true then none else some ((rdText (s, false)).1, (rdText (s, false)).2.1)
def pRep {α : Type} (f : Tk α) : Nat → Tk (List α)
  | 0 => Tk.give []
  | k + 1 => f.then fun x => (pRep f k).then fun l => Tk.give (x :: l)
def pList {α : Type} (m : Nat) (f : Tk α) : Tk (List α) := (pUp m).then fun n => pRep f n.toNat
theorem then_some {α β : Type} {f : Tk α} {g : α → Tk β} {s t : ByteArray} {y : β} (h : f.then g s = some (y, t)) : ∃ x u, f s = some (x, u) ∧ g x u = some (y, t) := by
  unfold Tk.then at h
  split at h
  · cases h
  · rename_i x u hx
    exact ⟨x, u, hx, h⟩
theorem then_of {α β : Type} {f : Tk α} {g : α → Tk β} {s u : ByteArray} {x : α} (h : f s = some (x, u)) : f.then g s = g x u := by
  unfold Tk.then; rw [h]
theorem then_none {α β : Type} {f : Tk α} {g : α → Tk β} {s : ByteArray} (h : f s = none) : f.then g s = none := by
  unfold Tk.then; rw [h]
theorem give_some {α : Type} {x y : α} {s t : ByteArray} (h : Tk.give x s = some (y, t)) : x = y ∧ s = t := by
  simp only [Tk.give, Option.some.injEq, Prod.mk.injEq] at h
  exact h
end Go.Proofs.YtbeaaieaffdgeaaGreatDoor
end
/- The document's own answer for a number's bytes, walked sort by sort: the same bytes as the program's. -/
section
namespace Go.Proofs.YtbeaaieaffdgeaaGreatDoor
open Go.RowKit
set_option linter.unusedVariables false

set_option maxHeartbeats 400000 in
theorem room_ref (k : Nat) (hk : k ≤ 8) (w : World) :
    Calls Tryz.prog 84 #[.int .i64 (k : Int)] w fun e w' => e = .returned (.int .i64 ((if k = 8 then 64 else 7 + 7 * k : Nat) : Int)) ∧ w = w' := by
  have h : k = 0 ∨ k = 1 ∨ k = 2 ∨ k = 3 ∨ k = 4 ∨ k = 5 ∨ k = 6 ∨ k = 7 ∨ k = 8 := by omega
  rcases h with rfl | rfl | rfl | rfl | rfl | rfl | rfl | rfl | rfl
  all_goals
    go_enter Tryz.func84, Tryz.ntmps84
    go_wp2
    go_ret
    exact ⟨rfl, rfl⟩
set_option maxHeartbeats 400000 in
theorem fits_at (n : Nat) (hn : n ≤ 18446744073709551615) (k : Nat) (hk : k ≤ 8) (w : World) :
    Calls Tryz.prog 64 #[.int .u64 (n : Int), .int .i64 (k : Int)] w fun e w' => e = .returned (.bool (roomB n k)) ∧ w = w' := by
  have h : k = 0 ∨ k = 1 ∨ k = 2 ∨ k = 3 ∨ k = 4 ∨ k = 5 ∨ k = 6 ∨ k = 7 ∨ k = 8 := by omega
  rcases h with rfl | rfl | rfl | rfl | rfl | rfl | rfl | rfl | rfl
  all_goals
    go_enter Tryz.func64, Tryz.ntmps64
    go_wp2
    go_ret
    exact ⟨ret_bool (by rw [Bool.eq_iff_iff]; simp [roomB]; try omega), rfl⟩
theorem ret_str {a b : ByteArray} (h : a = b) : Ending.returned (.string a) = .returned (.string b) := by rw [h]
theorem conv_one {P : Program} (W : World) (src dst e : TypeId) (n : Nat) (x : Int) (hs : P.underlying src = some (.slice e)) (he : P.underlying e = some (.int .u8)) (hd : P.underlying dst = some .string) (hn : n = W.heap.size) :
    (convert src dst (.slice (some ⟨n, 0, none⟩) 1 1)).run P (W.alloc (.cells #[.int .u8 x] e (0, 0))) = .ok (.string ⟨#[UInt8.ofNat x.toNat]⟩) (W.alloc (.cells #[.int .u8 x] e (0, 0))) := by
  subst hn
  refine conv_bytes _ src dst e ⟨W.heap.size, 0, none⟩ 1 1 [x] _ hs he hd rfl ?_ rfl
  intro j v h
  have hj : j < 1 := by
    have := (List.getElem?_eq_some_iff.1 h).1
    simpa using this
  obtain rfl : j = 0 := by omega
  simp only [List.map_cons, List.getElem?_cons_zero, Option.some.injEq] at h
  subst h
  simp only [Addr.add]
  go_simp

set_option maxHeartbeats 1000000 in
theorem refNum_0 (a : ByteArray) (ha : a.size ≤ 70368744177664) (n : Nat) (hl : 0 ≤ n) (hh : n ≤ 127) (w : World) :
    Calls Tryz.prog 42 #[.string a, .int .u64 (n : Int)] w fun e w' => e = .returned (.string (a ++ numS n)) ∧ Below w.heap.size w w' := by
  have hs : sortN n = 0 := by
    unfold sortN; repeat' split
    all_goals omega
  have f0 : ∀ W : World, Calls Tryz.prog 64 #[.int .u64 (n : Int), .int .i64 0] W fun e w' => e = .returned (.bool true) ∧ W = w' := by
    intro W
    have h := fits_at n (by omega) 0 (by omega) W
    have hb : roomB n 0 = true := by simp [roomB]; try omega
    rw [hb] at h
    exact h
  have F0 := Lib.hid f0
  clear f0
  have hcv := fun W m x h => conv_one (P := Tryz.prog) W 44 9 5 m x Tryz.underlying44 Tryz.underlying5 Tryz.underlying9 h
  have hfin : numL n = [UInt8.ofNat (0 + n / 1)] := by
    unfold numL; rw [hs]; simp [beL]
  have HF := Lib.hid hfin
  clear hs hfin
  go_enter Tryz.func42, Tryz.ntmps42
  go_wp2
  refine wp_loop_rounds 1 ?_
  rw [rounds_succ]
  go_wp2_with (go_at_call 64; refine (F0.out _).mono ?_; rintro e w' ⟨rfl, rfl⟩)
  refine wp_loop_rounds 1 ?_
  repeat any_goals (rw [rounds_succ]; go_wp2)
  refine wp_loop_rounds 1 ?_
  repeat any_goals (rw [rounds_succ]; go_wp2)
  go_ret
  refine ⟨ret_str ?_, by go_grown⟩
  unfold numS
  rw [HF.out]
  apply ByteArray.ext
  simp

set_option maxHeartbeats 1000000 in
theorem refNum_1 (a : ByteArray) (ha : a.size ≤ 70368744177664) (n : Nat) (hl : 128 ≤ n) (hh : n ≤ 16383) (w : World) :
    Calls Tryz.prog 42 #[.string a, .int .u64 (n : Int)] w fun e w' => e = .returned (.string (a ++ numS n)) ∧ Below w.heap.size w w' := by
  have hs : sortN n = 1 := by
    unfold sortN; repeat' split
    all_goals omega
  have f0 : ∀ W : World, Calls Tryz.prog 64 #[.int .u64 (n : Int), .int .i64 0] W fun e w' => e = .returned (.bool false) ∧ W = w' := by
    intro W
    have h := fits_at n (by omega) 0 (by omega) W
    have hb : roomB n 0 = false := by simp [roomB]; try omega
    rw [hb] at h
    exact h
  have F0 := Lib.hid f0
  clear f0
  have f1 : ∀ W : World, Calls Tryz.prog 64 #[.int .u64 (n : Int), .int .i64 1] W fun e w' => e = .returned (.bool true) ∧ W = w' := by
    intro W
    have h := fits_at n (by omega) 1 (by omega) W
    have hb : roomB n 1 = true := by simp [roomB]; try omega
    rw [hb] at h
    exact h
  have F1 := Lib.hid f1
  clear f1
  have hcv := fun W m x h => conv_one (P := Tryz.prog) W 44 9 5 m x Tryz.underlying44 Tryz.underlying5 Tryz.underlying9 h
  have hfin : numL n = [UInt8.ofNat (128 + n / 256), UInt8.ofNat (n / 1 % 256)] := by
    unfold numL; rw [hs]; simp [beL]
  have HF := Lib.hid hfin
  clear hs hfin
  go_enter Tryz.func42, Tryz.ntmps42
  go_wp2
  refine wp_loop_rounds 2 ?_
  rw [rounds_succ]
  go_wp2_with (go_at_call 64; refine (F0.out _).mono ?_; rintro e w' ⟨rfl, rfl⟩)
  rw [rounds_succ]
  go_wp2_with (go_at_call 64; refine (F1.out _).mono ?_; rintro e w' ⟨rfl, rfl⟩)
  refine wp_loop_rounds 2 ?_
  repeat any_goals (rw [rounds_succ]; go_wp2)
  refine wp_loop_rounds 2 ?_
  repeat any_goals (rw [rounds_succ]; go_wp2)
  go_ret
  refine ⟨ret_str ?_, by go_grown⟩
  unfold numS
  rw [HF.out]
  apply ByteArray.ext
  apply Array.ext'
  simp

set_option maxHeartbeats 1000000 in
theorem refNum_2 (a : ByteArray) (ha : a.size ≤ 70368744177664) (n : Nat) (hl : 16384 ≤ n) (hh : n ≤ 2097151) (w : World) :
    Calls Tryz.prog 42 #[.string a, .int .u64 (n : Int)] w fun e w' => e = .returned (.string (a ++ numS n)) ∧ Below w.heap.size w w' := by
  have hs : sortN n = 2 := by
    unfold sortN; repeat' split
    all_goals omega
  have f0 : ∀ W : World, Calls Tryz.prog 64 #[.int .u64 (n : Int), .int .i64 0] W fun e w' => e = .returned (.bool false) ∧ W = w' := by
    intro W
    have h := fits_at n (by omega) 0 (by omega) W
    have hb : roomB n 0 = false := by simp [roomB]; try omega
    rw [hb] at h
    exact h
  have F0 := Lib.hid f0
  clear f0
  have f1 : ∀ W : World, Calls Tryz.prog 64 #[.int .u64 (n : Int), .int .i64 1] W fun e w' => e = .returned (.bool false) ∧ W = w' := by
    intro W
    have h := fits_at n (by omega) 1 (by omega) W
    have hb : roomB n 1 = false := by simp [roomB]; try omega
    rw [hb] at h
    exact h
  have F1 := Lib.hid f1
  clear f1
  have f2 : ∀ W : World, Calls Tryz.prog 64 #[.int .u64 (n : Int), .int .i64 2] W fun e w' => e = .returned (.bool true) ∧ W = w' := by
    intro W
    have h := fits_at n (by omega) 2 (by omega) W
    have hb : roomB n 2 = true := by simp [roomB]; try omega
    rw [hb] at h
    exact h
  have F2 := Lib.hid f2
  clear f2
  have hcv := fun W m x h => conv_one (P := Tryz.prog) W 44 9 5 m x Tryz.underlying44 Tryz.underlying5 Tryz.underlying9 h
  have hfin : numL n = [UInt8.ofNat (192 + n / 65536), UInt8.ofNat (n / 256 % 256), UInt8.ofNat (n / 1 % 256)] := by
    unfold numL; rw [hs]; simp [beL]
  have HF := Lib.hid hfin
  clear hs hfin
  go_enter Tryz.func42, Tryz.ntmps42
  go_wp2
  refine wp_loop_rounds 3 ?_
  rw [rounds_succ]
  go_wp2_with (go_at_call 64; refine (F0.out _).mono ?_; rintro e w' ⟨rfl, rfl⟩)
  rw [rounds_succ]
  go_wp2_with (go_at_call 64; refine (F1.out _).mono ?_; rintro e w' ⟨rfl, rfl⟩)
  rw [rounds_succ]
  go_wp2_with (go_at_call 64; refine (F2.out _).mono ?_; rintro e w' ⟨rfl, rfl⟩)
  refine wp_loop_rounds 3 ?_
  repeat any_goals (rw [rounds_succ]; go_wp2)
  refine wp_loop_rounds 3 ?_
  repeat any_goals (rw [rounds_succ]; go_wp2)
  go_ret
  refine ⟨ret_str ?_, by go_grown⟩
  unfold numS
  rw [HF.out]
  apply ByteArray.ext
  simp [Nat.div_div_eq_div_mul]

set_option maxHeartbeats 1000000 in
theorem refNum_3 (a : ByteArray) (ha : a.size ≤ 70368744177664) (n : Nat) (hl : 2097152 ≤ n) (hh : n ≤ 268435455) (w : World) :
    Calls Tryz.prog 42 #[.string a, .int .u64 (n : Int)] w fun e w' => e = .returned (.string (a ++ numS n)) ∧ Below w.heap.size w w' := by
  have hs : sortN n = 3 := by
    unfold sortN; repeat' split
    all_goals omega
  have f0 : ∀ W : World, Calls Tryz.prog 64 #[.int .u64 (n : Int), .int .i64 0] W fun e w' => e = .returned (.bool false) ∧ W = w' := by
    intro W
    have h := fits_at n (by omega) 0 (by omega) W
    have hb : roomB n 0 = false := by simp [roomB]; try omega
    rw [hb] at h
    exact h
  have F0 := Lib.hid f0
  clear f0
  have f1 : ∀ W : World, Calls Tryz.prog 64 #[.int .u64 (n : Int), .int .i64 1] W fun e w' => e = .returned (.bool false) ∧ W = w' := by
    intro W
    have h := fits_at n (by omega) 1 (by omega) W
    have hb : roomB n 1 = false := by simp [roomB]; try omega
    rw [hb] at h
    exact h
  have F1 := Lib.hid f1
  clear f1
  have f2 : ∀ W : World, Calls Tryz.prog 64 #[.int .u64 (n : Int), .int .i64 2] W fun e w' => e = .returned (.bool false) ∧ W = w' := by
    intro W
    have h := fits_at n (by omega) 2 (by omega) W
    have hb : roomB n 2 = false := by simp [roomB]; try omega
    rw [hb] at h
    exact h
  have F2 := Lib.hid f2
  clear f2
  have f3 : ∀ W : World, Calls Tryz.prog 64 #[.int .u64 (n : Int), .int .i64 3] W fun e w' => e = .returned (.bool true) ∧ W = w' := by
    intro W
    have h := fits_at n (by omega) 3 (by omega) W
    have hb : roomB n 3 = true := by simp [roomB]; try omega
    rw [hb] at h
    exact h
  have F3 := Lib.hid f3
  clear f3
  have hcv := fun W m x h => conv_one (P := Tryz.prog) W 44 9 5 m x Tryz.underlying44 Tryz.underlying5 Tryz.underlying9 h
  have hfin : numL n = [UInt8.ofNat (224 + n / 16777216), UInt8.ofNat (n / 65536 % 256), UInt8.ofNat (n / 256 % 256), UInt8.ofNat (n / 1 % 256)] := by
    unfold numL; rw [hs]; simp [beL]
  have HF := Lib.hid hfin
  clear hs hfin
  go_enter Tryz.func42, Tryz.ntmps42
  go_wp2
  refine wp_loop_rounds 4 ?_
  rw [rounds_succ]
  go_wp2_with (go_at_call 64; refine (F0.out _).mono ?_; rintro e w' ⟨rfl, rfl⟩)
  rw [rounds_succ]
  go_wp2_with (go_at_call 64; refine (F1.out _).mono ?_; rintro e w' ⟨rfl, rfl⟩)
  rw [rounds_succ]
  go_wp2_with (go_at_call 64; refine (F2.out _).mono ?_; rintro e w' ⟨rfl, rfl⟩)
  rw [rounds_succ]
  go_wp2_with (go_at_call 64; refine (F3.out _).mono ?_; rintro e w' ⟨rfl, rfl⟩)
  refine wp_loop_rounds 4 ?_
  repeat any_goals (rw [rounds_succ]; go_wp2)
  refine wp_loop_rounds 4 ?_
  repeat any_goals (rw [rounds_succ]; go_wp2)
  go_ret
  refine ⟨ret_str ?_, by go_grown⟩
  unfold numS
  rw [HF.out]
  apply ByteArray.ext
  simp [Nat.div_div_eq_div_mul]

set_option maxHeartbeats 1000000 in
theorem refNum_4 (a : ByteArray) (ha : a.size ≤ 70368744177664) (n : Nat) (hl : 268435456 ≤ n) (hh : n ≤ 34359738367) (w : World) :
    Calls Tryz.prog 42 #[.string a, .int .u64 (n : Int)] w fun e w' => e = .returned (.string (a ++ numS n)) ∧ Below w.heap.size w w' := by
  have hs : sortN n = 4 := by
    unfold sortN; repeat' split
    all_goals omega
  have f0 : ∀ W : World, Calls Tryz.prog 64 #[.int .u64 (n : Int), .int .i64 0] W fun e w' => e = .returned (.bool false) ∧ W = w' := by
    intro W
    have h := fits_at n (by omega) 0 (by omega) W
    have hb : roomB n 0 = false := by simp [roomB]; try omega
    rw [hb] at h
    exact h
  have F0 := Lib.hid f0
  clear f0
  have f1 : ∀ W : World, Calls Tryz.prog 64 #[.int .u64 (n : Int), .int .i64 1] W fun e w' => e = .returned (.bool false) ∧ W = w' := by
    intro W
    have h := fits_at n (by omega) 1 (by omega) W
    have hb : roomB n 1 = false := by simp [roomB]; try omega
    rw [hb] at h
    exact h
  have F1 := Lib.hid f1
  clear f1
  have f2 : ∀ W : World, Calls Tryz.prog 64 #[.int .u64 (n : Int), .int .i64 2] W fun e w' => e = .returned (.bool false) ∧ W = w' := by
    intro W
    have h := fits_at n (by omega) 2 (by omega) W
    have hb : roomB n 2 = false := by simp [roomB]; try omega
    rw [hb] at h
    exact h
  have F2 := Lib.hid f2
  clear f2
  have f3 : ∀ W : World, Calls Tryz.prog 64 #[.int .u64 (n : Int), .int .i64 3] W fun e w' => e = .returned (.bool false) ∧ W = w' := by
    intro W
    have h := fits_at n (by omega) 3 (by omega) W
    have hb : roomB n 3 = false := by simp [roomB]; try omega
    rw [hb] at h
    exact h
  have F3 := Lib.hid f3
  clear f3
  have f4 : ∀ W : World, Calls Tryz.prog 64 #[.int .u64 (n : Int), .int .i64 4] W fun e w' => e = .returned (.bool true) ∧ W = w' := by
    intro W
    have h := fits_at n (by omega) 4 (by omega) W
    have hb : roomB n 4 = true := by simp [roomB]; try omega
    rw [hb] at h
    exact h
  have F4 := Lib.hid f4
  clear f4
  have hcv := fun W m x h => conv_one (P := Tryz.prog) W 44 9 5 m x Tryz.underlying44 Tryz.underlying5 Tryz.underlying9 h
  have hfin : numL n = [UInt8.ofNat (240 + n / 4294967296), UInt8.ofNat (n / 16777216 % 256), UInt8.ofNat (n / 65536 % 256), UInt8.ofNat (n / 256 % 256), UInt8.ofNat (n / 1 % 256)] := by
    unfold numL; rw [hs]; simp [beL]
  have HF := Lib.hid hfin
  clear hs hfin
  go_enter Tryz.func42, Tryz.ntmps42
  go_wp2
  refine wp_loop_rounds 5 ?_
  rw [rounds_succ]
  go_wp2_with (go_at_call 64; refine (F0.out _).mono ?_; rintro e w' ⟨rfl, rfl⟩)
  rw [rounds_succ]
  go_wp2_with (go_at_call 64; refine (F1.out _).mono ?_; rintro e w' ⟨rfl, rfl⟩)
  rw [rounds_succ]
  go_wp2_with (go_at_call 64; refine (F2.out _).mono ?_; rintro e w' ⟨rfl, rfl⟩)
  rw [rounds_succ]
  go_wp2_with (go_at_call 64; refine (F3.out _).mono ?_; rintro e w' ⟨rfl, rfl⟩)
  rw [rounds_succ]
  go_wp2_with (go_at_call 64; refine (F4.out _).mono ?_; rintro e w' ⟨rfl, rfl⟩)
  refine wp_loop_rounds 5 ?_
  repeat any_goals (rw [rounds_succ]; go_wp2)
  refine wp_loop_rounds 5 ?_
  repeat any_goals (rw [rounds_succ]; go_wp2)
  go_ret
  refine ⟨ret_str ?_, by go_grown⟩
  unfold numS
  rw [HF.out]
  apply ByteArray.ext
  simp [Nat.div_div_eq_div_mul]

set_option maxHeartbeats 1000000 in
theorem refNum_5 (a : ByteArray) (ha : a.size ≤ 70368744177664) (n : Nat) (hl : 34359738368 ≤ n) (hh : n ≤ 4398046511103) (w : World) :
    Calls Tryz.prog 42 #[.string a, .int .u64 (n : Int)] w fun e w' => e = .returned (.string (a ++ numS n)) ∧ Below w.heap.size w w' := by
  have hs : sortN n = 5 := by
    unfold sortN; repeat' split
    all_goals omega
  have f0 : ∀ W : World, Calls Tryz.prog 64 #[.int .u64 (n : Int), .int .i64 0] W fun e w' => e = .returned (.bool false) ∧ W = w' := by
    intro W
    have h := fits_at n (by omega) 0 (by omega) W
    have hb : roomB n 0 = false := by simp [roomB]; try omega
    rw [hb] at h
    exact h
  have F0 := Lib.hid f0
  clear f0
  have f1 : ∀ W : World, Calls Tryz.prog 64 #[.int .u64 (n : Int), .int .i64 1] W fun e w' => e = .returned (.bool false) ∧ W = w' := by
    intro W
    have h := fits_at n (by omega) 1 (by omega) W
    have hb : roomB n 1 = false := by simp [roomB]; try omega
    rw [hb] at h
    exact h
  have F1 := Lib.hid f1
  clear f1
  have f2 : ∀ W : World, Calls Tryz.prog 64 #[.int .u64 (n : Int), .int .i64 2] W fun e w' => e = .returned (.bool false) ∧ W = w' := by
    intro W
    have h := fits_at n (by omega) 2 (by omega) W
    have hb : roomB n 2 = false := by simp [roomB]; try omega
    rw [hb] at h
    exact h
  have F2 := Lib.hid f2
  clear f2
  have f3 : ∀ W : World, Calls Tryz.prog 64 #[.int .u64 (n : Int), .int .i64 3] W fun e w' => e = .returned (.bool false) ∧ W = w' := by
    intro W
    have h := fits_at n (by omega) 3 (by omega) W
    have hb : roomB n 3 = false := by simp [roomB]; try omega
    rw [hb] at h
    exact h
  have F3 := Lib.hid f3
  clear f3
  have f4 : ∀ W : World, Calls Tryz.prog 64 #[.int .u64 (n : Int), .int .i64 4] W fun e w' => e = .returned (.bool false) ∧ W = w' := by
    intro W
    have h := fits_at n (by omega) 4 (by omega) W
    have hb : roomB n 4 = false := by simp [roomB]; try omega
    rw [hb] at h
    exact h
  have F4 := Lib.hid f4
  clear f4
  have f5 : ∀ W : World, Calls Tryz.prog 64 #[.int .u64 (n : Int), .int .i64 5] W fun e w' => e = .returned (.bool true) ∧ W = w' := by
    intro W
    have h := fits_at n (by omega) 5 (by omega) W
    have hb : roomB n 5 = true := by simp [roomB]; try omega
    rw [hb] at h
    exact h
  have F5 := Lib.hid f5
  clear f5
  have hcv := fun W m x h => conv_one (P := Tryz.prog) W 44 9 5 m x Tryz.underlying44 Tryz.underlying5 Tryz.underlying9 h
  have hfin : numL n = [UInt8.ofNat (248 + n / 1099511627776), UInt8.ofNat (n / 4294967296 % 256), UInt8.ofNat (n / 16777216 % 256), UInt8.ofNat (n / 65536 % 256), UInt8.ofNat (n / 256 % 256), UInt8.ofNat (n / 1 % 256)] := by
    unfold numL; rw [hs]; simp [beL]
  have HF := Lib.hid hfin
  clear hs hfin
  go_enter Tryz.func42, Tryz.ntmps42
  go_wp2
  refine wp_loop_rounds 6 ?_
  rw [rounds_succ]
  go_wp2_with (go_at_call 64; refine (F0.out _).mono ?_; rintro e w' ⟨rfl, rfl⟩)
  rw [rounds_succ]
  go_wp2_with (go_at_call 64; refine (F1.out _).mono ?_; rintro e w' ⟨rfl, rfl⟩)
  rw [rounds_succ]
  go_wp2_with (go_at_call 64; refine (F2.out _).mono ?_; rintro e w' ⟨rfl, rfl⟩)
  rw [rounds_succ]
  go_wp2_with (go_at_call 64; refine (F3.out _).mono ?_; rintro e w' ⟨rfl, rfl⟩)
  rw [rounds_succ]
  go_wp2_with (go_at_call 64; refine (F4.out _).mono ?_; rintro e w' ⟨rfl, rfl⟩)
  rw [rounds_succ]
  go_wp2_with (go_at_call 64; refine (F5.out _).mono ?_; rintro e w' ⟨rfl, rfl⟩)
  refine wp_loop_rounds 6 ?_
  repeat any_goals (rw [rounds_succ]; go_wp2)
  refine wp_loop_rounds 6 ?_
  repeat any_goals (rw [rounds_succ]; go_wp2)
  go_ret
  refine ⟨ret_str ?_, by go_grown⟩
  unfold numS
  rw [HF.out]
  apply ByteArray.ext
  simp [Nat.div_div_eq_div_mul]

set_option maxHeartbeats 1000000 in
theorem refNum_6 (a : ByteArray) (ha : a.size ≤ 70368744177664) (n : Nat) (hl : 4398046511104 ≤ n) (hh : n ≤ 562949953421311) (w : World) :
    Calls Tryz.prog 42 #[.string a, .int .u64 (n : Int)] w fun e w' => e = .returned (.string (a ++ numS n)) ∧ Below w.heap.size w w' := by
  have hs : sortN n = 6 := by
    unfold sortN; repeat' split
    all_goals omega
  have f0 : ∀ W : World, Calls Tryz.prog 64 #[.int .u64 (n : Int), .int .i64 0] W fun e w' => e = .returned (.bool false) ∧ W = w' := by
    intro W
    have h := fits_at n (by omega) 0 (by omega) W
    have hb : roomB n 0 = false := by simp [roomB]; try omega
    rw [hb] at h
    exact h
  have F0 := Lib.hid f0
  clear f0
  have f1 : ∀ W : World, Calls Tryz.prog 64 #[.int .u64 (n : Int), .int .i64 1] W fun e w' => e = .returned (.bool false) ∧ W = w' := by
    intro W
    have h := fits_at n (by omega) 1 (by omega) W
    have hb : roomB n 1 = false := by simp [roomB]; try omega
    rw [hb] at h
    exact h
  have F1 := Lib.hid f1
  clear f1
  have f2 : ∀ W : World, Calls Tryz.prog 64 #[.int .u64 (n : Int), .int .i64 2] W fun e w' => e = .returned (.bool false) ∧ W = w' := by
    intro W
    have h := fits_at n (by omega) 2 (by omega) W
    have hb : roomB n 2 = false := by simp [roomB]; try omega
    rw [hb] at h
    exact h
  have F2 := Lib.hid f2
  clear f2
  have f3 : ∀ W : World, Calls Tryz.prog 64 #[.int .u64 (n : Int), .int .i64 3] W fun e w' => e = .returned (.bool false) ∧ W = w' := by
    intro W
    have h := fits_at n (by omega) 3 (by omega) W
    have hb : roomB n 3 = false := by simp [roomB]; try omega
    rw [hb] at h
    exact h
  have F3 := Lib.hid f3
  clear f3
  have f4 : ∀ W : World, Calls Tryz.prog 64 #[.int .u64 (n : Int), .int .i64 4] W fun e w' => e = .returned (.bool false) ∧ W = w' := by
    intro W
    have h := fits_at n (by omega) 4 (by omega) W
    have hb : roomB n 4 = false := by simp [roomB]; try omega
    rw [hb] at h
    exact h
  have F4 := Lib.hid f4
  clear f4
  have f5 : ∀ W : World, Calls Tryz.prog 64 #[.int .u64 (n : Int), .int .i64 5] W fun e w' => e = .returned (.bool false) ∧ W = w' := by
    intro W
    have h := fits_at n (by omega) 5 (by omega) W
    have hb : roomB n 5 = false := by simp [roomB]; try omega
    rw [hb] at h
    exact h
  have F5 := Lib.hid f5
  clear f5
  have f6 : ∀ W : World, Calls Tryz.prog 64 #[.int .u64 (n : Int), .int .i64 6] W fun e w' => e = .returned (.bool true) ∧ W = w' := by
    intro W
    have h := fits_at n (by omega) 6 (by omega) W
    have hb : roomB n 6 = true := by simp [roomB]; try omega
    rw [hb] at h
    exact h
  have F6 := Lib.hid f6
  clear f6
  have hcv := fun W m x h => conv_one (P := Tryz.prog) W 44 9 5 m x Tryz.underlying44 Tryz.underlying5 Tryz.underlying9 h
  have hfin : numL n = [UInt8.ofNat (252 + n / 281474976710656), UInt8.ofNat (n / 1099511627776 % 256), UInt8.ofNat (n / 4294967296 % 256), UInt8.ofNat (n / 16777216 % 256), UInt8.ofNat (n / 65536 % 256), UInt8.ofNat (n / 256 % 256), UInt8.ofNat (n / 1 % 256)] := by
    unfold numL; rw [hs]; simp [beL]
  have HF := Lib.hid hfin
  clear hs hfin
  go_enter Tryz.func42, Tryz.ntmps42
  go_wp2
  refine wp_loop_rounds 7 ?_
  rw [rounds_succ]
  go_wp2_with (go_at_call 64; refine (F0.out _).mono ?_; rintro e w' ⟨rfl, rfl⟩)
  rw [rounds_succ]
  go_wp2_with (go_at_call 64; refine (F1.out _).mono ?_; rintro e w' ⟨rfl, rfl⟩)
  rw [rounds_succ]
  go_wp2_with (go_at_call 64; refine (F2.out _).mono ?_; rintro e w' ⟨rfl, rfl⟩)
  rw [rounds_succ]
  go_wp2_with (go_at_call 64; refine (F3.out _).mono ?_; rintro e w' ⟨rfl, rfl⟩)
  rw [rounds_succ]
  go_wp2_with (go_at_call 64; refine (F4.out _).mono ?_; rintro e w' ⟨rfl, rfl⟩)
  rw [rounds_succ]
  go_wp2_with (go_at_call 64; refine (F5.out _).mono ?_; rintro e w' ⟨rfl, rfl⟩)
  rw [rounds_succ]
  go_wp2_with (go_at_call 64; refine (F6.out _).mono ?_; rintro e w' ⟨rfl, rfl⟩)
  refine wp_loop_rounds 7 ?_
  repeat any_goals (rw [rounds_succ]; go_wp2)
  refine wp_loop_rounds 7 ?_
  repeat any_goals (rw [rounds_succ]; go_wp2)
  go_ret
  refine ⟨ret_str ?_, by go_grown⟩
  unfold numS
  rw [HF.out]
  apply ByteArray.ext
  simp [Nat.div_div_eq_div_mul]

set_option maxHeartbeats 1000000 in
theorem refNum_7 (a : ByteArray) (ha : a.size ≤ 70368744177664) (n : Nat) (hl : 562949953421312 ≤ n) (hh : n ≤ 72057594037927935) (w : World) :
    Calls Tryz.prog 42 #[.string a, .int .u64 (n : Int)] w fun e w' => e = .returned (.string (a ++ numS n)) ∧ Below w.heap.size w w' := by
  have hs : sortN n = 7 := by
    unfold sortN; repeat' split
    all_goals omega
  have f0 : ∀ W : World, Calls Tryz.prog 64 #[.int .u64 (n : Int), .int .i64 0] W fun e w' => e = .returned (.bool false) ∧ W = w' := by
    intro W
    have h := fits_at n (by omega) 0 (by omega) W
    have hb : roomB n 0 = false := by simp [roomB]; try omega
    rw [hb] at h
    exact h
  have F0 := Lib.hid f0
  clear f0
  have f1 : ∀ W : World, Calls Tryz.prog 64 #[.int .u64 (n : Int), .int .i64 1] W fun e w' => e = .returned (.bool false) ∧ W = w' := by
    intro W
    have h := fits_at n (by omega) 1 (by omega) W
    have hb : roomB n 1 = false := by simp [roomB]; try omega
    rw [hb] at h
    exact h
  have F1 := Lib.hid f1
  clear f1
  have f2 : ∀ W : World, Calls Tryz.prog 64 #[.int .u64 (n : Int), .int .i64 2] W fun e w' => e = .returned (.bool false) ∧ W = w' := by
    intro W
    have h := fits_at n (by omega) 2 (by omega) W
    have hb : roomB n 2 = false := by simp [roomB]; try omega
    rw [hb] at h
    exact h
  have F2 := Lib.hid f2
  clear f2
  have f3 : ∀ W : World, Calls Tryz.prog 64 #[.int .u64 (n : Int), .int .i64 3] W fun e w' => e = .returned (.bool false) ∧ W = w' := by
    intro W
    have h := fits_at n (by omega) 3 (by omega) W
    have hb : roomB n 3 = false := by simp [roomB]; try omega
    rw [hb] at h
    exact h
  have F3 := Lib.hid f3
  clear f3
  have f4 : ∀ W : World, Calls Tryz.prog 64 #[.int .u64 (n : Int), .int .i64 4] W fun e w' => e = .returned (.bool false) ∧ W = w' := by
    intro W
    have h := fits_at n (by omega) 4 (by omega) W
    have hb : roomB n 4 = false := by simp [roomB]; try omega
    rw [hb] at h
    exact h
  have F4 := Lib.hid f4
  clear f4
  have f5 : ∀ W : World, Calls Tryz.prog 64 #[.int .u64 (n : Int), .int .i64 5] W fun e w' => e = .returned (.bool false) ∧ W = w' := by
    intro W
    have h := fits_at n (by omega) 5 (by omega) W
    have hb : roomB n 5 = false := by simp [roomB]; try omega
    rw [hb] at h
    exact h
  have F5 := Lib.hid f5
  clear f5
  have f6 : ∀ W : World, Calls Tryz.prog 64 #[.int .u64 (n : Int), .int .i64 6] W fun e w' => e = .returned (.bool false) ∧ W = w' := by
    intro W
    have h := fits_at n (by omega) 6 (by omega) W
    have hb : roomB n 6 = false := by simp [roomB]; try omega
    rw [hb] at h
    exact h
  have F6 := Lib.hid f6
  clear f6
  have f7 : ∀ W : World, Calls Tryz.prog 64 #[.int .u64 (n : Int), .int .i64 7] W fun e w' => e = .returned (.bool true) ∧ W = w' := by
    intro W
    have h := fits_at n (by omega) 7 (by omega) W
    have hb : roomB n 7 = true := by simp [roomB]; try omega
    rw [hb] at h
    exact h
  have F7 := Lib.hid f7
  clear f7
  have hcv := fun W m x h => conv_one (P := Tryz.prog) W 44 9 5 m x Tryz.underlying44 Tryz.underlying5 Tryz.underlying9 h
  have hfin : numL n = [UInt8.ofNat (254 + n / 72057594037927936), UInt8.ofNat (n / 281474976710656 % 256), UInt8.ofNat (n / 1099511627776 % 256), UInt8.ofNat (n / 4294967296 % 256), UInt8.ofNat (n / 16777216 % 256), UInt8.ofNat (n / 65536 % 256), UInt8.ofNat (n / 256 % 256), UInt8.ofNat (n / 1 % 256)] := by
    unfold numL; rw [hs]; simp [beL]
  have HF := Lib.hid hfin
  clear hs hfin
  go_enter Tryz.func42, Tryz.ntmps42
  go_wp2
  refine wp_loop_rounds 8 ?_
  rw [rounds_succ]
  go_wp2_with (go_at_call 64; refine (F0.out _).mono ?_; rintro e w' ⟨rfl, rfl⟩)
  rw [rounds_succ]
  go_wp2_with (go_at_call 64; refine (F1.out _).mono ?_; rintro e w' ⟨rfl, rfl⟩)
  rw [rounds_succ]
  go_wp2_with (go_at_call 64; refine (F2.out _).mono ?_; rintro e w' ⟨rfl, rfl⟩)
  rw [rounds_succ]
  go_wp2_with (go_at_call 64; refine (F3.out _).mono ?_; rintro e w' ⟨rfl, rfl⟩)
  rw [rounds_succ]
  go_wp2_with (go_at_call 64; refine (F4.out _).mono ?_; rintro e w' ⟨rfl, rfl⟩)
  rw [rounds_succ]
  go_wp2_with (go_at_call 64; refine (F5.out _).mono ?_; rintro e w' ⟨rfl, rfl⟩)
  rw [rounds_succ]
  go_wp2_with (go_at_call 64; refine (F6.out _).mono ?_; rintro e w' ⟨rfl, rfl⟩)
  rw [rounds_succ]
  go_wp2_with (go_at_call 64; refine (F7.out _).mono ?_; rintro e w' ⟨rfl, rfl⟩)
  refine wp_loop_rounds 8 ?_
  repeat any_goals (rw [rounds_succ]; go_wp2)
  refine wp_loop_rounds 8 ?_
  repeat any_goals (rw [rounds_succ]; go_wp2)
  go_ret
  refine ⟨ret_str ?_, by go_grown⟩
  unfold numS
  rw [HF.out]
  apply ByteArray.ext
  simp [Nat.div_div_eq_div_mul]

set_option maxHeartbeats 1000000 in
theorem refNum_8 (a : ByteArray) (ha : a.size ≤ 70368744177664) (n : Nat) (hl : 72057594037927936 ≤ n) (hh : n ≤ 18446744073709551615) (w : World) :
    Calls Tryz.prog 42 #[.string a, .int .u64 (n : Int)] w fun e w' => e = .returned (.string (a ++ numS n)) ∧ Below w.heap.size w w' := by
  have hs : sortN n = 8 := by
    unfold sortN; repeat' split
    all_goals omega
  have f0 : ∀ W : World, Calls Tryz.prog 64 #[.int .u64 (n : Int), .int .i64 0] W fun e w' => e = .returned (.bool false) ∧ W = w' := by
    intro W
    have h := fits_at n (by omega) 0 (by omega) W
    have hb : roomB n 0 = false := by simp [roomB]; try omega
    rw [hb] at h
    exact h
  have F0 := Lib.hid f0
  clear f0
  have f1 : ∀ W : World, Calls Tryz.prog 64 #[.int .u64 (n : Int), .int .i64 1] W fun e w' => e = .returned (.bool false) ∧ W = w' := by
    intro W
    have h := fits_at n (by omega) 1 (by omega) W
    have hb : roomB n 1 = false := by simp [roomB]; try omega
    rw [hb] at h
    exact h
  have F1 := Lib.hid f1
  clear f1
  have f2 : ∀ W : World, Calls Tryz.prog 64 #[.int .u64 (n : Int), .int .i64 2] W fun e w' => e = .returned (.bool false) ∧ W = w' := by
    intro W
    have h := fits_at n (by omega) 2 (by omega) W
    have hb : roomB n 2 = false := by simp [roomB]; try omega
    rw [hb] at h
    exact h
  have F2 := Lib.hid f2
  clear f2
  have f3 : ∀ W : World, Calls Tryz.prog 64 #[.int .u64 (n : Int), .int .i64 3] W fun e w' => e = .returned (.bool false) ∧ W = w' := by
    intro W
    have h := fits_at n (by omega) 3 (by omega) W
    have hb : roomB n 3 = false := by simp [roomB]; try omega
    rw [hb] at h
    exact h
  have F3 := Lib.hid f3
  clear f3
  have f4 : ∀ W : World, Calls Tryz.prog 64 #[.int .u64 (n : Int), .int .i64 4] W fun e w' => e = .returned (.bool false) ∧ W = w' := by
    intro W
    have h := fits_at n (by omega) 4 (by omega) W
    have hb : roomB n 4 = false := by simp [roomB]; try omega
    rw [hb] at h
    exact h
  have F4 := Lib.hid f4
  clear f4
  have f5 : ∀ W : World, Calls Tryz.prog 64 #[.int .u64 (n : Int), .int .i64 5] W fun e w' => e = .returned (.bool false) ∧ W = w' := by
    intro W
    have h := fits_at n (by omega) 5 (by omega) W
    have hb : roomB n 5 = false := by simp [roomB]; try omega
    rw [hb] at h
    exact h
  have F5 := Lib.hid f5
  clear f5
  have f6 : ∀ W : World, Calls Tryz.prog 64 #[.int .u64 (n : Int), .int .i64 6] W fun e w' => e = .returned (.bool false) ∧ W = w' := by
    intro W
    have h := fits_at n (by omega) 6 (by omega) W
    have hb : roomB n 6 = false := by simp [roomB]; try omega
    rw [hb] at h
    exact h
  have F6 := Lib.hid f6
  clear f6
  have f7 : ∀ W : World, Calls Tryz.prog 64 #[.int .u64 (n : Int), .int .i64 7] W fun e w' => e = .returned (.bool false) ∧ W = w' := by
    intro W
    have h := fits_at n (by omega) 7 (by omega) W
    have hb : roomB n 7 = false := by simp [roomB]; try omega
    rw [hb] at h
    exact h
  have F7 := Lib.hid f7
  clear f7
  have f8 : ∀ W : World, Calls Tryz.prog 64 #[.int .u64 (n : Int), .int .i64 8] W fun e w' => e = .returned (.bool true) ∧ W = w' := by
    intro W
    have h := fits_at n (by omega) 8 (by omega) W
    have hb : roomB n 8 = true := by simp [roomB]; try omega
    rw [hb] at h
    exact h
  have F8 := Lib.hid f8
  clear f8
  have hcv := fun W m x h => conv_one (P := Tryz.prog) W 44 9 5 m x Tryz.underlying44 Tryz.underlying5 Tryz.underlying9 h
  have hfin : numL n = [UInt8.ofNat (255 + n / 18446744073709551616), UInt8.ofNat (n / 72057594037927936 % 256), UInt8.ofNat (n / 281474976710656 % 256), UInt8.ofNat (n / 1099511627776 % 256), UInt8.ofNat (n / 4294967296 % 256), UInt8.ofNat (n / 16777216 % 256), UInt8.ofNat (n / 65536 % 256), UInt8.ofNat (n / 256 % 256), UInt8.ofNat (n / 1 % 256)] := by
    unfold numL; rw [hs]; simp [beL]
  have HF := Lib.hid hfin
  clear hs hfin
  go_enter Tryz.func42, Tryz.ntmps42
  go_wp2
  refine wp_loop_rounds 9 ?_
  rw [rounds_succ]
  go_wp2_with (go_at_call 64; refine (F0.out _).mono ?_; rintro e w' ⟨rfl, rfl⟩)
  rw [rounds_succ]
  go_wp2_with (go_at_call 64; refine (F1.out _).mono ?_; rintro e w' ⟨rfl, rfl⟩)
  rw [rounds_succ]
  go_wp2_with (go_at_call 64; refine (F2.out _).mono ?_; rintro e w' ⟨rfl, rfl⟩)
  rw [rounds_succ]
  go_wp2_with (go_at_call 64; refine (F3.out _).mono ?_; rintro e w' ⟨rfl, rfl⟩)
  rw [rounds_succ]
  go_wp2_with (go_at_call 64; refine (F4.out _).mono ?_; rintro e w' ⟨rfl, rfl⟩)
  rw [rounds_succ]
  go_wp2_with (go_at_call 64; refine (F5.out _).mono ?_; rintro e w' ⟨rfl, rfl⟩)
  rw [rounds_succ]
  go_wp2_with (go_at_call 64; refine (F6.out _).mono ?_; rintro e w' ⟨rfl, rfl⟩)
  rw [rounds_succ]
  go_wp2_with (go_at_call 64; refine (F7.out _).mono ?_; rintro e w' ⟨rfl, rfl⟩)
  rw [rounds_succ]
  go_wp2_with (go_at_call 64; refine (F8.out _).mono ?_; rintro e w' ⟨rfl, rfl⟩)
  refine wp_loop_rounds 9 ?_
  repeat any_goals (rw [rounds_succ]; go_wp2)
  refine wp_loop_rounds 9 ?_
  repeat any_goals (rw [rounds_succ]; go_wp2)
  go_ret
  refine ⟨ret_str ?_, by go_grown⟩
  unfold numS
  rw [HF.out]
  apply ByteArray.ext
  simp [Nat.div_div_eq_div_mul]

theorem refNum_any (a : ByteArray) (ha : a.size ≤ 70368744177664) (n : Nat) (hn : n ≤ 18446744073709551615) (w : World) :
    Calls Tryz.prog 42 #[.string a, .int .u64 (n : Int)] w fun e w' => e = .returned (.string (a ++ numS n)) ∧ Below w.heap.size w w' := by
  by_cases h0 : n ≤ 127
  · exact refNum_0 a ha n (by omega) h0 w
  by_cases h1 : n ≤ 16383
  · exact refNum_1 a ha n (by omega) h1 w
  by_cases h2 : n ≤ 2097151
  · exact refNum_2 a ha n (by omega) h2 w
  by_cases h3 : n ≤ 268435455
  · exact refNum_3 a ha n (by omega) h3 w
  by_cases h4 : n ≤ 34359738367
  · exact refNum_4 a ha n (by omega) h4 w
  by_cases h5 : n ≤ 4398046511103
  · exact refNum_5 a ha n (by omega) h5 w
  by_cases h6 : n ≤ 562949953421311
  · exact refNum_6 a ha n (by omega) h6 w
  by_cases h7 : n ≤ 72057594037927935
  · exact refNum_7 a ha n (by omega) h7 w
  · exact refNum_8 a ha n (by omega) hn w
end Go.Proofs.YtbeaaieaffdgeaaGreatDoor
end
/- The program's Text; then the document's reader. -/
section
namespace Go.Proofs.YtbeaaieaffdgeaaGreatDoor
open Go.RowKit
set_option linter.unusedVariables false

set_option maxHeartbeats 1000000 in
theorem text_any (b : Nat) (r : RdS) (w : World) (hr : RdOk r) (h : RdT 91 b r.1 r.2 w) :
    Calls Tryz.prog 75 #[.pointer (some ⟨b, 0, none⟩)] w fun e w' => e = .returned (.string (rdText r).1) ∧ RdT 91 b (rdText r).2.1 (rdText r).2.2 w' ∧ w.grownBy w' (some b) := by
  have hN := num_any b r w hr h
  have hb := rdNum_lt r
  have hs := hr.num.1
  have e0 : rdText r = if (rdNum r).2.2 then (ByteArray.empty, (rdNum r).2)
  else if (rdNum r).2.1.size < (rdNum r).1 then (ByteArray.empty, (ByteArray.empty, true))
  else ((rdNum r).2.1.extract 0 (rdNum r).1, ((rdNum r).2.1.extract (rdNum r).1 (rdNum r).2.1.size, false)) := rfl
  have E0 := Lib.hid e0
  clear e0
  generalize rdNum r = q at *
  obtain ⟨n, s1, st1⟩ := q
  have HN := Lib.hid hN
  clear hN h
  cases st1 with
  | true =>
    go_enter Tryz.func75, Tryz.ntmps75
    go_wp2_with (first | (go_at_call 74; refine HN.out.mono ?_; rintro e w1 ⟨rfl, h1, hg⟩) | (go_at_call 55; refine (ok_any _ _ _ _ h1).mono ?_; rintro e w2 ⟨rfl, rfl⟩))
    go_ret
    rw [E0.out]
    exact ⟨rfl, h1, hg⟩
  | false =>
    have hs' : s1.size ≤ 70368744177664 := hs
    have hb' : n < 18446744073709551616 := hb
    clear hs hb
    by_cases hlt : s1.size < n
    · go_enter Tryz.func75, Tryz.ntmps75
      go_wp2_with (first | (go_at_call 74; refine HN.out.mono ?_; rintro e w1 ⟨rfl, h1, hg⟩; have H1 := Lib.hid h1; obtain ⟨c0, c1, d0, d1⟩ := h1.facts; clear h1) | (go_at_call 55; refine (ok_any _ _ _ _ H1.out).mono ?_; rintro e w2 ⟨rfl, rfl⟩) | (go_at_call 90; refine (stop_any _ _ _ _ H1.out).mono ?_; rintro e w2 ⟨rfl, h2, hg2⟩))
      go_ret
      rw [E0.out, if_neg (by simp), if_pos hlt]
      exact ⟨rfl, h2, grown_then hg hg2⟩
    · have hle : n ≤ s1.size := by omega
      go_enter Tryz.func75, Tryz.ntmps75
      go_wp2_with (first | (go_at_call 74; refine HN.out.mono ?_; rintro e w1 ⟨rfl, h1, hg⟩; have H1 := Lib.hid h1; obtain ⟨c0, c1, d0, d1⟩ := h1.facts; clear h1) | (go_at_call 55; refine (ok_any _ _ _ _ H1.out).mono ?_; rintro e w2 ⟨rfl, rfl⟩) | (go_at_call 91; refine (clone_any _ _ (by simp only [ByteArray.size_extract]; omega)).mono ?_; rintro e w2 ⟨rfl, hb2⟩; have H2 := Lib.hid (H1.out.below hb2); obtain ⟨c2, c3, d2, d3⟩ := H2.out.facts))
      go_ret
      rw [E0.out, if_neg (by simp), if_neg hlt]
      exact ⟨rfl, H2.out.set0 _, grown_then hg (grown_set (grown_below hb2 _) _ _)⟩

set_option maxHeartbeats 400000 in
theorem rok_any (b : Nat) (s : ByteArray) (st : Bool) (w : World) (h : RdT 68 b s st w) :
    Calls Tryz.prog 33 #[.pointer (some ⟨b, 0, none⟩)] w fun e w' => e = .returned (.bool (!st)) ∧ w = w' := by
  obtain ⟨h0, h1, _, _⟩ := h.facts
  clear h
  go_enter Tryz.func33, Tryz.ntmps33
  go_wp2
  go_ret
  exact ⟨rfl, rfl⟩
set_option maxHeartbeats 400000 in
theorem rend_any (b : Nat) (s : ByteArray) (st : Bool) (w : World) (h : RdT 68 b s st w) :
    Calls Tryz.prog 36 #[.pointer (some ⟨b, 0, none⟩)] w fun e w' => e = .returned (.bool (!st && s.toList.isEmpty)) ∧ w = w' := by
  obtain ⟨h0, h1, _, _⟩ := h.facts
  clear h
  cases st
  all_goals
    go_enter Tryz.func36, Tryz.ntmps36
    go_wp2
    go_ret
    exact ⟨rfl, rfl⟩
set_option maxHeartbeats 400000 in
theorem rstop_any (b : Nat) (s : ByteArray) (st : Bool) (w : World) (h : RdT 68 b s st w) :
    Calls Tryz.prog 57 #[.pointer (some ⟨b, 0, none⟩)] w fun e w' => e = .returned (.int .u64 0) ∧ RdT 68 b ByteArray.empty true w' ∧ w.grownBy w' (some b) := by
  obtain ⟨h0, h1, f0, f1⟩ := h.facts
  have H := Lib.hid h
  clear h
  go_enter Tryz.func57, Tryz.ntmps57
  go_wp2
  go_ret
  exact ⟨rfl, (H.out.set0 _).set1 _, grown_set (grown_set (World.grownBy.refl _ _) _ _) _ _⟩
end Go.Proofs.YtbeaaieaffdgeaaGreatDoor
end
/- Functions that ask a number: between, exactly, oneOf and what they hand back. -/
section
namespace Go.Proofs.YtbeaaieaffdgeaaGreatDoor
open Go.RowKit
set_option linter.unusedVariables false
set_option linter.unusedSimpArgs false

theorem below_then' {B : Nat} {a b c : World} (h : Below B a b) (k : Below b.heap.size b c) (hb : B ≤ b.heap.size) : Below B a c := h.trans (k.mono hb)
theorem below_draws {B : Nat} {a w : World} (h : Below B a w) (n : Nat) : Below B a (w.drewN n) := h.trans ⟨rfl, rfl, rfl, Nat.le_refl _, fun _ _ => rfl⟩
theorem below_alloc1 (w : World) (a : Obj) : Below w.heap.size w (w.alloc a) := (Below.refl _ w).alloc (Nat.le_refl _) a
theorem below_alloc2 (w : World) (a b : Obj) : Below w.heap.size w ((w.alloc a).alloc b) := ((Below.refl _ w).alloc (Nat.le_refl _) a).alloc (by simp) b
theorem heap_two (w : World) (a b : Obj) : ((w.alloc a).alloc b).heap[w.heap.size + 1]? = some b := by
  have h := heap_alloc_new (w.alloc a) b
  simpa using h
theorem heap_one (w : World) (a b : Obj) : ((w.alloc a).alloc b).heap[w.heap.size]? = some a := (heap_alloc_old (w.alloc a) b (by simp)).trans (heap_alloc_new w a)
theorem bool_ret {a b : Bool} (h : a = b) : Ending.returned (.bool a) = .returned (.bool b) := by rw [h]

/-- From lo to hi. -/
def btw (lo hi n : Int) : Bool := decide (lo ≤ n) && decide (n ≤ hi)
/-- In w, and in whatever grows of it, the function k over cs tells p. -/
def Asks (w : World) (k : Nat) (cs : Array Value) (p : Int → Bool) : Prop :=
  (k = 113 ∨ k = 118) ∧ ∀ W, Below w.heap.size w W → ∀ n : Int, Calls Tryz.prog k (#[.int .i64 n] ++ cs) W fun e W' => e = .returned (.bool (p n)) ∧ W = W'
theorem Asks.next {w w' : World} {k : Nat} {cs : Array Value} {p : Int → Bool} (h : Asks w k cs p) (b : Below w.heap.size w w') : Asks w' k cs p :=
  ⟨h.1, fun W hW n => h.2 W (below_then' b hW b.size) n⟩
theorem btw_any (lo hi n : Int) (b1 b2 : Nat) (w : World) (h1 : w.cell? ⟨b1, 0, none⟩ = some (.int .i64 lo)) (h2 : w.cell? ⟨b2, 0, none⟩ = some (.int .i64 hi)) :
    Calls Tryz.prog 113 #[.int .i64 n, .pointer (some ⟨b1, 0, none⟩), .pointer (some ⟨b2, 0, none⟩)] w fun e w' => e = .returned (.bool (btw lo hi n)) ∧ w = w' := by
  by_cases a : lo ≤ n
  · by_cases b : n ≤ hi
    · go_enter Tryz.func113, Tryz.ntmps113
      go_wp2
      go_ret
      exact ⟨bool_ret (by simp [btw, a, b]), rfl⟩
    · go_enter Tryz.func113, Tryz.ntmps113
      go_wp2
      go_ret
      exact ⟨bool_ret (by simp [btw, a, b]), rfl⟩
  · go_enter Tryz.func113, Tryz.ntmps113
    go_wp2
    go_ret
    exact ⟨bool_ret (by simp [btw]; omega), rfl⟩
theorem between_any (lo hi : Int) (w : World) :
    Calls Tryz.prog 111 #[.int .i64 lo, .int .i64 hi] w fun e w' => ∃ k cs, e = .returned (.func (.func k) #[] cs) ∧ Asks w' k cs (btw lo hi) ∧ Below w.heap.size w w' := by
  have hb := below_alloc2 w (.cells #[.int .i64 lo] 3) (.cells #[.int .i64 hi] 3)
  have h1 := heap_one w (.cells #[.int .i64 lo] 3) (.cells #[.int .i64 hi] 3)
  have h2 := heap_two w (.cells #[.int .i64 lo] 3) (.cells #[.int .i64 hi] 3)
  have HB := Lib.hid hb
  have HA := Lib.hid (show Asks ((w.alloc (.cells #[.int .i64 lo] 3)).alloc (.cells #[.int .i64 hi] 3)) 113 #[.pointer (some ⟨w.heap.size, 0, none⟩), .pointer (some ⟨w.heap.size + 1, 0, none⟩)] (btw lo hi) from
    ⟨.inl rfl, fun W hW n => btw_any lo hi n _ _ W ((hW.cell (p := ⟨w.heap.size, 0, none⟩) (by simp; omega)).trans (cell_of_one h1)) ((hW.cell (p := ⟨w.heap.size + 1, 0, none⟩) (by simp)).trans (cell_of_one h2))⟩)
  clear hb h1 h2
  go_enter Tryz.func111, Tryz.ntmps111
  go_wp2
  go_ret
  exact ⟨_, _, rfl, HA.out, HB.out⟩
theorem exactly_any (n : Int) (w : World) :
    Calls Tryz.prog 114 #[.int .i64 n] w fun e w' => ∃ k cs, e = .returned (.func (.func k) #[] cs) ∧ Asks w' k cs (btw n n) ∧ Below w.heap.size w w' := by
  go_enter Tryz.func114, Tryz.ntmps114
  go_wp2_with (go_at_call 111; refine (between_any _ _ _).mono ?_; rintro e w' ⟨k, cs, rfl, ha, hb⟩)
  go_ret
  exact ⟨_, _, rfl, ha, hb⟩
/-- An ask: its function, over what, and what it tells. -/
abbrev Ask := Nat × Array Value × (Int → Bool)
def askV (q : Ask) : Value := .func (.func q.1) #[] q.2.1
/-- The row of block g, from its first cell on, is these asks. -/
def AskRow (w : World) (g : Nat) (Q : List Ask) : Prop := g < w.heap.size ∧ ∀ j (h : j < Q.length), w.cell? ⟨g, j, none⟩ = some (askV Q[j]) ∧ Asks w Q[j].1 Q[j].2.1 Q[j].2.2
theorem AskRow.next {w w' : World} {g : Nat} {Q : List Ask} (h : AskRow w g Q) (b : Below w.heap.size w w') : AskRow w' g Q :=
  ⟨Nat.lt_of_lt_of_le h.1 b.size, fun j hj => ⟨(b.cell (p := ⟨g, j, none⟩) h.1).trans (h.2 j hj).1, (h.2 j hj).2.next b⟩⟩
def anyOf (Q : List Ask) (n : Int) : Bool := Q.any fun q => q.2.2 n
set_option maxHeartbeats 1000000 in
theorem anyOf_any (n : Int) (Q : List Ask) (g c bx : Nat) (w : World) (hx : w.cell? ⟨bx, 0, none⟩ = some (.slice (some ⟨g, 0, none⟩) Q.length c)) (hQ : AskRow w g Q) (hl : Q.length ≤ 100) :
    Calls Tryz.prog 118 #[.int .i64 n, .pointer (some ⟨bx, 0, none⟩)] w fun e w' => e = .returned (.bool (anyOf Q n)) ∧ w = w' := by
  have HQ := Lib.hid hQ
  clear hQ
  obtain ⟨r, hr⟩ : ∃ r, r = anyOf Q n := ⟨_, rfl⟩
  rw [← hr]
  have HR := Lib.hid hr
  clear hr
  go_enter Tryz.func118, Tryz.ntmps118
  go_wp2_with fail
  go_loop [8] (fun q => ∃ k : Nat, q = .int .i64 (k : Int) ∧ k ≤ Q.length ∧ ∀ j (h : j < Q.length), j < k → Q[j].2.2 n = false) (fun q => Q.length - (intOf q).toNat)
  case atStart => exact ⟨0, rfl, Nat.zero_le _, fun j _ hj => by omega⟩
  case round =>
    obtain ⟨k, rfl, hk, hn⟩ := hrel
    have HN := Lib.hid hn
    clear hn
    by_cases hlt : k < Q.length
    · obtain ⟨hc, ha⟩ := HQ.out.2 k hlt
      obtain ⟨x, hx'⟩ : ∃ x, x = Q[k] := ⟨_, rfl⟩
      rw [← hx'] at hc ha
      have HX := Lib.hid hx'
      clear hx'
      obtain ⟨f, cs, p⟩ := x
      have HC := Lib.hid (fun W hW => ha.2 W hW n)
      unfold askV at hc
      have hf : f = 113 ∨ f = 118 := ha.1
      clear ha
      cases hp : p n
      · rcases hf with rfl | rfl
        all_goals
          go_wp2_with fail
          refine (HC.out _ (Below.refl _ _)).mono ?_
          rintro e w' ⟨rfl, rfl⟩
          go_wp2_with fail
          exact ⟨⟨k + 1, by go_num, by omega, fun j h1 h2 => by
            by_cases hjk : j = k
            · subst hjk; rw [← HX.out]; exact hp
            · exact HN.out j h1 (by omega)⟩, by simp [intOf]; omega⟩
      · rcases hf with rfl | rfl
        all_goals
          go_wp2_with fail
          refine (HC.out _ (Below.refl _ _)).mono ?_
          rintro e w' ⟨rfl, rfl⟩
          go_wp2_with fail
          go_ret
          exact ⟨bool_ret (by rw [HR.out]; unfold anyOf; exact (List.any_eq_true.2 ⟨_, List.getElem_mem hlt, by rw [← HX.out]; exact hp⟩).symm), rfl⟩
    · go_wp2_with fail
      go_ret
      refine ⟨bool_ret ?_, rfl⟩
      rw [HR.out]
      unfold anyOf
      refine (Bool.eq_false_iff.2 fun h => ?_).symm
      obtain ⟨q, hq, ht⟩ := List.any_eq_true.1 h
      obtain ⟨j, hj, rfl⟩ := List.getElem_of_mem hq
      rw [HN.out j hj (by omega)] at ht
      cases ht
theorem oneOf_any (Q : List Ask) (g c : Nat) (w : World) (hQ : AskRow w g Q) (hl : Q.length ≤ 100) :
    Calls Tryz.prog 115 #[.slice (some ⟨g, 0, none⟩) Q.length c] w fun e w' => ∃ k cs, e = .returned (.func (.func k) #[] cs) ∧ Asks w' k cs (anyOf Q) ∧ Below w.heap.size w w' := by
  have hb := below_alloc1 w (.cells #[.slice (some ⟨g, 0, none⟩) Q.length c] 148)
  have h1 := heap_alloc_new w (.cells #[.slice (some ⟨g, 0, none⟩) Q.length c] 148)
  have HB := Lib.hid hb
  have HA := Lib.hid (show Asks (w.alloc (.cells #[.slice (some ⟨g, 0, none⟩) Q.length c] 148)) 118 #[.pointer (some ⟨w.heap.size, 0, none⟩)] (anyOf Q) from
    ⟨.inr rfl, fun W hW n => anyOf_any n Q g c _ W ((hW.cell (p := ⟨w.heap.size, 0, none⟩) (by simp)).trans (cell_of_one h1)) ((hQ.next hb).next hW) hl⟩)
  clear hb h1 hQ
  go_enter Tryz.func115, Tryz.ntmps115
  go_wp2
  go_ret
  exact ⟨_, _, rfl, HA.out, HB.out⟩
theorem Asks.of {w : World} {k : Nat} {cs : Array Value} {p q : Int → Bool} (h : Asks w k cs p) (e : ∀ n, p n = q n) : Asks w k cs q := by rw [← funext e]; exact h
/-- What was made on the way from w0 on, and still tells what it told. -/
def Held (w0 w : World) (L : List Ask) : Prop := Below w0.heap.size w0 w ∧ ∀ q ∈ L, Asks w q.1 q.2.1 q.2.2
theorem Held.nil (w : World) : Held w w [] := ⟨Below.refl _ _, fun q hq => by cases hq⟩
theorem Held.next {w0 w w' : World} {L : List Ask} (h : Held w0 w L) (b : Below w.heap.size w w') : Held w0 w' L := ⟨below_then' h.1 b h.1.size, fun q hq => (h.2 q hq).next b⟩
theorem Held.more {w0 w w' : World} {L : List Ask} (h : Held w0 w L) {k : Nat} {cs : Array Value} {p : Int → Bool} (a : Asks w' k cs p) (b : Below w.heap.size w w') : Held w0 w' ((k, cs, p) :: L) :=
  ⟨(h.next b).1, fun q hq => by
    rcases List.mem_cons.1 hq with rfl | hq
    · exact a
    · exact (h.next b).2 q hq⟩
theorem between_step {w0 w : World} {L : List Ask} (h : Held w0 w L) (lo hi : Int) :
    Calls Tryz.prog 111 #[.int .i64 lo, .int .i64 hi] w fun e w' => ∃ k cs, e = .returned (.func (.func k) #[] cs) ∧ Held w0 w' ((k, cs, btw lo hi) :: L) :=
  (between_any lo hi w).mono fun e w' ⟨k, cs, he, ha, hb⟩ => ⟨k, cs, he, h.more ha hb⟩
theorem exactly_step {w0 w : World} {L : List Ask} (h : Held w0 w L) (n : Int) :
    Calls Tryz.prog 114 #[.int .i64 n] w fun e w' => ∃ k cs, e = .returned (.func (.func k) #[] cs) ∧ Held w0 w' ((k, cs, btw n n) :: L) :=
  (exactly_any n w).mono fun e w' ⟨k, cs, he, ha, hb⟩ => ⟨k, cs, he, h.more ha hb⟩
theorem askRow_new {w0 w : World} {L : List Ask} (h : Held w0 w L) (Q : List Ask) (hQ : ∀ q ∈ Q, q ∈ L) (xs : Array Value) (hx : xs = (Q.map askV).toArray) : AskRow (w.alloc (.cells xs 131)) w.heap.size Q := by
  refine ⟨by simp, fun j hj => ⟨?_, (h.2 _ (hQ _ (List.getElem_mem hj))).next (below_alloc1 _ _)⟩⟩
  rw [World.cell?_alloc_new, hx]
  simp [hj]
theorem oneOf2_step {w0 w : World} {L : List Ask} (h : Held w0 w L) {k1 k2 : Nat} {c1 c2 : Array Value} {p1 p2 : Int → Bool} (h1 : (k1, c1, p1) ∈ L) (h2 : (k2, c2, p2) ∈ L) :
    Calls Tryz.prog 115 #[.slice (some ⟨w.heap.size, 0, none⟩) 2 2] (w.alloc (.cells #[.func (.func k1) #[] c1, .func (.func k2) #[] c2] 131)) fun e w' => ∃ k cs, e = .returned (.func (.func k) #[] cs) ∧ Held w0 w' ((k, cs, fun n => p1 n || p2 n) :: L) :=
  (oneOf_any [(k1, c1, p1), (k2, c2, p2)] w.heap.size 2 _ (askRow_new h _ (by simp [h1, h2]) _ rfl) (by simp)).mono fun e w' ⟨k, cs, he, ha, hb⟩ => ⟨k, cs, he, (h.next (below_alloc1 _ _)).more (ha.of fun n => by simp [anyOf]) hb⟩
theorem oneOf3_step {w0 w : World} {L : List Ask} (h : Held w0 w L) {k1 k2 k3 : Nat} {c1 c2 c3 : Array Value} {p1 p2 p3 : Int → Bool} (h1 : (k1, c1, p1) ∈ L) (h2 : (k2, c2, p2) ∈ L) (h3 : (k3, c3, p3) ∈ L) :
    Calls Tryz.prog 115 #[.slice (some ⟨w.heap.size, 0, none⟩) 3 3] (w.alloc (.cells #[.func (.func k1) #[] c1, .func (.func k2) #[] c2, .func (.func k3) #[] c3] 131)) fun e w' => ∃ k cs, e = .returned (.func (.func k) #[] cs) ∧ Held w0 w' ((k, cs, fun n => p1 n || (p2 n || p3 n)) :: L) :=
  (oneOf_any [(k1, c1, p1), (k2, c2, p2), (k3, c3, p3)] w.heap.size 3 _ (askRow_new h _ (by simp [h1, h2, h3]) _ rfl) (by simp)).mono fun e w' ⟨k, cs, he, ha, hb⟩ => ⟨k, cs, he, (h.next (below_alloc1 _ _)).more (ha.of fun n => by simp [anyOf]) hb⟩
end Go.Proofs.YtbeaaieaffdgeaaGreatDoor
end
/- asker: the rows of what A and B may be; and the closure over them. -/
section
namespace Go.Proofs.YtbeaaieaffdgeaaGreatDoor
open Go.RowKit
set_option linter.unusedVariables false
set_option linter.unusedSimpArgs false

/-- A target's slot. -/
def tgt (t a : Int) : Bool := btw 0 (t - 1) a
/-- What A of an instruction j may be, in a code of len with t targets. -/
def aOk (len t : Int) : Nat → Int → Bool
  | 1 => btw (-999) 999
  | 6 => btw 5 7
  | 7 => fun n => tgt t n || btw 3 3 n
  | 8 => btw 0 len
  | 9 => btw 0 len
  | 10 => fun n => tgt t n || btw 2 7 n
  | 11 => fun n => tgt t n || (btw 3 3 n || btw 4 4 n)
  | 12 => fun n => tgt t n || (btw 3 3 n || btw 4 4 n)
  | 21 => fun n => tgt t n || (btw 3 3 n || btw 4 4 n)
  | 13 => fun n => tgt t n || (btw 2 2 n || btw 5 7 n)
  | 14 => fun n => tgt t n || (btw 2 2 n || btw 5 7 n)
  | 15 => fun n => tgt t n || (btw 2 2 n || btw 5 7 n)
  | 16 => fun n => tgt t n || (btw 2 2 n || btw 5 7 n)
  | 17 => fun n => tgt t n || (btw 2 2 n || btw 5 7 n)
  | 18 => fun n => tgt t n || (btw 2 2 n || btw 5 7 n)
  | 19 => fun n => tgt t n || (btw 2 2 n || btw 5 7 n)
  | 20 => tgt t
  | 22 => btw 0 3
  | 23 => btw 1 999
  | _ => btw 0 0
/-- What B may be, where there are c cards. -/
def bOk (c : Int) : Nat → Int → Bool
  | 17 => btw 1 127
  | 21 => btw 0 (c - 1)
  | _ => btw 0 0
/-- Block g holds the rows. -/
def RowsAt (w : World) (g : Nat) (len t c : Int) : Prop := g < w.heap.size ∧ ∀ j, 1 ≤ j → j ≤ 24 → ∃ q1 q2 : Ask, w.cell? ⟨g, j * 2, none⟩ = some (askV q1) ∧ w.cell? ⟨g, j * 2 + 1, none⟩ = some (askV q2) ∧ Asks w q1.1 q1.2.1 (aOk len t j) ∧ Asks w q2.1 q2.2.1 (bOk c j)
theorem RowsAt.next {w w' : World} {g : Nat} {len t c : Int} (h : RowsAt w g len t c) (b : Below w.heap.size w w') : RowsAt w' g len t c :=
  ⟨Nat.lt_of_lt_of_le h.1 b.size, fun j h1 h2 => by
    obtain ⟨q1, q2, x1, x2, a1, a2⟩ := h.2 j h1 h2
    exact ⟨q1, q2, (b.cell (p := ⟨g, j * 2, none⟩) h.1).trans x1, (b.cell (p := ⟨g, j * 2 + 1, none⟩) h.1).trans x2, a1.next b, a2.next b⟩⟩
set_option maxHeartbeats 1000000 in
theorem rows_new (w0 w : World) (len t c : Int) (k1 k2 k3 k4 k5 k6 k7 k8 k9 k10 k11 k12 k13 k14 k15 k16 k17 : Nat) (c1 c2 c3 c4 c5 c6 c7 c8 c9 c10 c11 c12 c13 c14 c15 c16 c17 : Array Value) (h : Held w0 w [(k17, c17, btw 1 999), (k16, c16, btw 0 3), (k15, c15, btw 0 (c - 1)), (k14, c14, btw 1 127), (k13, c13, fun n => btw 0 (t - 1) n || btw 2 7 n), (k12, c12, btw 2 7), (k11, c11, fun n => btw 0 (t - 1) n || btw 3 3 n), (k10, c10, btw (-999) 999), (k9, c9, btw 0 len), (k8, c8, fun n => btw 0 (t - 1) n || (btw 2 2 n || btw 5 7 n)), (k7, c7, btw 2 2), (k6, c6, fun n => btw 0 (t - 1) n || (btw 3 3 n || btw 4 4 n)), (k5, c5, btw 4 4), (k4, c4, btw 5 7), (k3, c3, btw 0 0), (k2, c2, btw 3 3), (k1, c1, btw 0 (t - 1))]) :
    RowsAt (w.alloc (.cells #[.nilFunc, .nilFunc, .func (.func k10) #[] c10, .func (.func k3) #[] c3, .func (.func k3) #[] c3, .func (.func k3) #[] c3, .func (.func k3) #[] c3, .func (.func k3) #[] c3, .func (.func k3) #[] c3, .func (.func k3) #[] c3, .func (.func k3) #[] c3, .func (.func k3) #[] c3, .func (.func k4) #[] c4, .func (.func k3) #[] c3, .func (.func k11) #[] c11, .func (.func k3) #[] c3, .func (.func k9) #[] c9, .func (.func k3) #[] c3, .func (.func k9) #[] c9, .func (.func k3) #[] c3, .func (.func k13) #[] c13, .func (.func k3) #[] c3, .func (.func k6) #[] c6, .func (.func k3) #[] c3, .func (.func k6) #[] c6, .func (.func k3) #[] c3, .func (.func k8) #[] c8, .func (.func k3) #[] c3, .func (.func k8) #[] c8, .func (.func k3) #[] c3, .func (.func k8) #[] c8, .func (.func k3) #[] c3, .func (.func k8) #[] c8, .func (.func k3) #[] c3, .func (.func k8) #[] c8, .func (.func k14) #[] c14, .func (.func k8) #[] c8, .func (.func k3) #[] c3, .func (.func k8) #[] c8, .func (.func k3) #[] c3, .func (.func k1) #[] c1, .func (.func k3) #[] c3, .func (.func k6) #[] c6, .func (.func k15) #[] c15, .func (.func k16) #[] c16, .func (.func k3) #[] c3, .func (.func k17) #[] c17, .func (.func k3) #[] c3, .func (.func k3) #[] c3, .func (.func k3) #[] c3] 147)) w.heap.size len t c := by
  refine ⟨by simp, fun j h1 h2 => ?_⟩
  have b := below_alloc1 w (.cells #[.nilFunc, .nilFunc, .func (.func k10) #[] c10, .func (.func k3) #[] c3, .func (.func k3) #[] c3, .func (.func k3) #[] c3, .func (.func k3) #[] c3, .func (.func k3) #[] c3, .func (.func k3) #[] c3, .func (.func k3) #[] c3, .func (.func k3) #[] c3, .func (.func k3) #[] c3, .func (.func k4) #[] c4, .func (.func k3) #[] c3, .func (.func k11) #[] c11, .func (.func k3) #[] c3, .func (.func k9) #[] c9, .func (.func k3) #[] c3, .func (.func k9) #[] c9, .func (.func k3) #[] c3, .func (.func k13) #[] c13, .func (.func k3) #[] c3, .func (.func k6) #[] c6, .func (.func k3) #[] c3, .func (.func k6) #[] c6, .func (.func k3) #[] c3, .func (.func k8) #[] c8, .func (.func k3) #[] c3, .func (.func k8) #[] c8, .func (.func k3) #[] c3, .func (.func k8) #[] c8, .func (.func k3) #[] c3, .func (.func k8) #[] c8, .func (.func k3) #[] c3, .func (.func k8) #[] c8, .func (.func k14) #[] c14, .func (.func k8) #[] c8, .func (.func k3) #[] c3, .func (.func k8) #[] c8, .func (.func k3) #[] c3, .func (.func k1) #[] c1, .func (.func k3) #[] c3, .func (.func k6) #[] c6, .func (.func k15) #[] c15, .func (.func k16) #[] c16, .func (.func k3) #[] c3, .func (.func k17) #[] c17, .func (.func k3) #[] c3, .func (.func k3) #[] c3, .func (.func k3) #[] c3] 147)
  generalize hW : w.alloc (.cells #[.nilFunc, .nilFunc, .func (.func k10) #[] c10, .func (.func k3) #[] c3, .func (.func k3) #[] c3, .func (.func k3) #[] c3, .func (.func k3) #[] c3, .func (.func k3) #[] c3, .func (.func k3) #[] c3, .func (.func k3) #[] c3, .func (.func k3) #[] c3, .func (.func k3) #[] c3, .func (.func k4) #[] c4, .func (.func k3) #[] c3, .func (.func k11) #[] c11, .func (.func k3) #[] c3, .func (.func k9) #[] c9, .func (.func k3) #[] c3, .func (.func k9) #[] c9, .func (.func k3) #[] c3, .func (.func k13) #[] c13, .func (.func k3) #[] c3, .func (.func k6) #[] c6, .func (.func k3) #[] c3, .func (.func k6) #[] c6, .func (.func k3) #[] c3, .func (.func k8) #[] c8, .func (.func k3) #[] c3, .func (.func k8) #[] c8, .func (.func k3) #[] c3, .func (.func k8) #[] c8, .func (.func k3) #[] c3, .func (.func k8) #[] c8, .func (.func k3) #[] c3, .func (.func k8) #[] c8, .func (.func k14) #[] c14, .func (.func k8) #[] c8, .func (.func k3) #[] c3, .func (.func k8) #[] c8, .func (.func k3) #[] c3, .func (.func k1) #[] c1, .func (.func k3) #[] c3, .func (.func k6) #[] c6, .func (.func k15) #[] c15, .func (.func k16) #[] c16, .func (.func k3) #[] c3, .func (.func k17) #[] c17, .func (.func k3) #[] c3, .func (.func k3) #[] c3, .func (.func k3) #[] c3] 147) = W at *
  have hc : ∀ i, W.cell? ⟨w.heap.size, i, none⟩ = #[.nilFunc, .nilFunc, .func (.func k10) #[] c10, .func (.func k3) #[] c3, .func (.func k3) #[] c3, .func (.func k3) #[] c3, .func (.func k3) #[] c3, .func (.func k3) #[] c3, .func (.func k3) #[] c3, .func (.func k3) #[] c3, .func (.func k3) #[] c3, .func (.func k3) #[] c3, .func (.func k4) #[] c4, .func (.func k3) #[] c3, .func (.func k11) #[] c11, .func (.func k3) #[] c3, .func (.func k9) #[] c9, .func (.func k3) #[] c3, .func (.func k9) #[] c9, .func (.func k3) #[] c3, .func (.func k13) #[] c13, .func (.func k3) #[] c3, .func (.func k6) #[] c6, .func (.func k3) #[] c3, .func (.func k6) #[] c6, .func (.func k3) #[] c3, .func (.func k8) #[] c8, .func (.func k3) #[] c3, .func (.func k8) #[] c8, .func (.func k3) #[] c3, .func (.func k8) #[] c8, .func (.func k3) #[] c3, .func (.func k8) #[] c8, .func (.func k3) #[] c3, .func (.func k8) #[] c8, .func (.func k14) #[] c14, .func (.func k8) #[] c8, .func (.func k3) #[] c3, .func (.func k8) #[] c8, .func (.func k3) #[] c3, .func (.func k1) #[] c1, .func (.func k3) #[] c3, .func (.func k6) #[] c6, .func (.func k15) #[] c15, .func (.func k16) #[] c16, .func (.func k3) #[] c3, .func (.func k17) #[] c17, .func (.func k3) #[] c3, .func (.func k3) #[] c3, .func (.func k3) #[] c3][i]? := fun i => by rw [← hW]; exact World.cell?_alloc_new _ _ _ _
  clear hW
  obtain rfl | rfl | rfl | rfl | rfl | rfl | rfl | rfl | rfl | rfl | rfl | rfl | rfl | rfl | rfl | rfl | rfl | rfl | rfl | rfl | rfl | rfl | rfl | rfl : j = 1 ∨ j = 2 ∨ j = 3 ∨ j = 4 ∨ j = 5 ∨ j = 6 ∨ j = 7 ∨ j = 8 ∨ j = 9 ∨ j = 10 ∨ j = 11 ∨ j = 12 ∨ j = 13 ∨ j = 14 ∨ j = 15 ∨ j = 16 ∨ j = 17 ∨ j = 18 ∨ j = 19 ∨ j = 20 ∨ j = 21 ∨ j = 22 ∨ j = 23 ∨ j = 24 := by omega
  · exact ⟨(k10, c10, btw (-999) 999), (k3, c3, btw 0 0), hc _, hc _, (h.2 (k10, c10, btw (-999) 999) (by simp)).next b, (h.2 (k3, c3, btw 0 0) (by simp)).next b⟩
  · exact ⟨(k3, c3, btw 0 0), (k3, c3, btw 0 0), hc _, hc _, (h.2 (k3, c3, btw 0 0) (by simp)).next b, (h.2 (k3, c3, btw 0 0) (by simp)).next b⟩
  · exact ⟨(k3, c3, btw 0 0), (k3, c3, btw 0 0), hc _, hc _, (h.2 (k3, c3, btw 0 0) (by simp)).next b, (h.2 (k3, c3, btw 0 0) (by simp)).next b⟩
  · exact ⟨(k3, c3, btw 0 0), (k3, c3, btw 0 0), hc _, hc _, (h.2 (k3, c3, btw 0 0) (by simp)).next b, (h.2 (k3, c3, btw 0 0) (by simp)).next b⟩
  · exact ⟨(k3, c3, btw 0 0), (k3, c3, btw 0 0), hc _, hc _, (h.2 (k3, c3, btw 0 0) (by simp)).next b, (h.2 (k3, c3, btw 0 0) (by simp)).next b⟩
  · exact ⟨(k4, c4, btw 5 7), (k3, c3, btw 0 0), hc _, hc _, (h.2 (k4, c4, btw 5 7) (by simp)).next b, (h.2 (k3, c3, btw 0 0) (by simp)).next b⟩
  · exact ⟨(k11, c11, fun n => btw 0 (t - 1) n || btw 3 3 n), (k3, c3, btw 0 0), hc _, hc _, (h.2 (k11, c11, fun n => btw 0 (t - 1) n || btw 3 3 n) (by simp)).next b, (h.2 (k3, c3, btw 0 0) (by simp)).next b⟩
  · exact ⟨(k9, c9, btw 0 len), (k3, c3, btw 0 0), hc _, hc _, (h.2 (k9, c9, btw 0 len) (by simp)).next b, (h.2 (k3, c3, btw 0 0) (by simp)).next b⟩
  · exact ⟨(k9, c9, btw 0 len), (k3, c3, btw 0 0), hc _, hc _, (h.2 (k9, c9, btw 0 len) (by simp)).next b, (h.2 (k3, c3, btw 0 0) (by simp)).next b⟩
  · exact ⟨(k13, c13, fun n => btw 0 (t - 1) n || btw 2 7 n), (k3, c3, btw 0 0), hc _, hc _, (h.2 (k13, c13, fun n => btw 0 (t - 1) n || btw 2 7 n) (by simp)).next b, (h.2 (k3, c3, btw 0 0) (by simp)).next b⟩
  · exact ⟨(k6, c6, fun n => btw 0 (t - 1) n || (btw 3 3 n || btw 4 4 n)), (k3, c3, btw 0 0), hc _, hc _, (h.2 (k6, c6, fun n => btw 0 (t - 1) n || (btw 3 3 n || btw 4 4 n)) (by simp)).next b, (h.2 (k3, c3, btw 0 0) (by simp)).next b⟩
  · exact ⟨(k6, c6, fun n => btw 0 (t - 1) n || (btw 3 3 n || btw 4 4 n)), (k3, c3, btw 0 0), hc _, hc _, (h.2 (k6, c6, fun n => btw 0 (t - 1) n || (btw 3 3 n || btw 4 4 n)) (by simp)).next b, (h.2 (k3, c3, btw 0 0) (by simp)).next b⟩
  · exact ⟨(k8, c8, fun n => btw 0 (t - 1) n || (btw 2 2 n || btw 5 7 n)), (k3, c3, btw 0 0), hc _, hc _, (h.2 (k8, c8, fun n => btw 0 (t - 1) n || (btw 2 2 n || btw 5 7 n)) (by simp)).next b, (h.2 (k3, c3, btw 0 0) (by simp)).next b⟩
  · exact ⟨(k8, c8, fun n => btw 0 (t - 1) n || (btw 2 2 n || btw 5 7 n)), (k3, c3, btw 0 0), hc _, hc _, (h.2 (k8, c8, fun n => btw 0 (t - 1) n || (btw 2 2 n || btw 5 7 n)) (by simp)).next b, (h.2 (k3, c3, btw 0 0) (by simp)).next b⟩
  · exact ⟨(k8, c8, fun n => btw 0 (t - 1) n || (btw 2 2 n || btw 5 7 n)), (k3, c3, btw 0 0), hc _, hc _, (h.2 (k8, c8, fun n => btw 0 (t - 1) n || (btw 2 2 n || btw 5 7 n)) (by simp)).next b, (h.2 (k3, c3, btw 0 0) (by simp)).next b⟩
  · exact ⟨(k8, c8, fun n => btw 0 (t - 1) n || (btw 2 2 n || btw 5 7 n)), (k3, c3, btw 0 0), hc _, hc _, (h.2 (k8, c8, fun n => btw 0 (t - 1) n || (btw 2 2 n || btw 5 7 n)) (by simp)).next b, (h.2 (k3, c3, btw 0 0) (by simp)).next b⟩
  · exact ⟨(k8, c8, fun n => btw 0 (t - 1) n || (btw 2 2 n || btw 5 7 n)), (k14, c14, btw 1 127), hc _, hc _, (h.2 (k8, c8, fun n => btw 0 (t - 1) n || (btw 2 2 n || btw 5 7 n)) (by simp)).next b, (h.2 (k14, c14, btw 1 127) (by simp)).next b⟩
  · exact ⟨(k8, c8, fun n => btw 0 (t - 1) n || (btw 2 2 n || btw 5 7 n)), (k3, c3, btw 0 0), hc _, hc _, (h.2 (k8, c8, fun n => btw 0 (t - 1) n || (btw 2 2 n || btw 5 7 n)) (by simp)).next b, (h.2 (k3, c3, btw 0 0) (by simp)).next b⟩
  · exact ⟨(k8, c8, fun n => btw 0 (t - 1) n || (btw 2 2 n || btw 5 7 n)), (k3, c3, btw 0 0), hc _, hc _, (h.2 (k8, c8, fun n => btw 0 (t - 1) n || (btw 2 2 n || btw 5 7 n)) (by simp)).next b, (h.2 (k3, c3, btw 0 0) (by simp)).next b⟩
  · exact ⟨(k1, c1, btw 0 (t - 1)), (k3, c3, btw 0 0), hc _, hc _, (h.2 (k1, c1, btw 0 (t - 1)) (by simp)).next b, (h.2 (k3, c3, btw 0 0) (by simp)).next b⟩
  · exact ⟨(k6, c6, fun n => btw 0 (t - 1) n || (btw 3 3 n || btw 4 4 n)), (k15, c15, btw 0 (c - 1)), hc _, hc _, (h.2 (k6, c6, fun n => btw 0 (t - 1) n || (btw 3 3 n || btw 4 4 n)) (by simp)).next b, (h.2 (k15, c15, btw 0 (c - 1)) (by simp)).next b⟩
  · exact ⟨(k16, c16, btw 0 3), (k3, c3, btw 0 0), hc _, hc _, (h.2 (k16, c16, btw 0 3) (by simp)).next b, (h.2 (k3, c3, btw 0 0) (by simp)).next b⟩
  · exact ⟨(k17, c17, btw 1 999), (k3, c3, btw 0 0), hc _, hc _, (h.2 (k17, c17, btw 1 999) (by simp)).next b, (h.2 (k3, c3, btw 0 0) (by simp)).next b⟩
  · exact ⟨(k3, c3, btw 0 0), (k3, c3, btw 0 0), hc _, hc _, (h.2 (k3, c3, btw 0 0) (by simp)).next b, (h.2 (k3, c3, btw 0 0) (by simp)).next b⟩
set_option maxRecDepth 100000 in
set_option maxHeartbeats 4000000 in
theorem asker_any (len : Nat) (hlen : len ≤ 32) (t c : Int) (ht : 0 ≤ t ∧ t ≤ 2) (hc : 0 ≤ c ∧ c ≤ 40) (w : World) :
    Calls Tryz.prog 112 #[.int .i64 (len : Int), .int .i64 t, .int .i64 c] w fun e w' => ∃ g, e = .returned (.func (.func 116) #[] #[.pointer (some ⟨g, 0, none⟩)]) ∧ RowsAt w' g len t c ∧ Below w.heap.size w w' := by
  have h1 := Lib.hid (Held.nil w)
  go_enter Tryz.func112, Tryz.ntmps112
  go_wp2_with fail
  refine (between_step h1.out _ _).mono ?_
  rintro e w1 ⟨k1, c1, rfl, h2⟩
  replace h1 := Lib.hid h2; clear h2
  go_wp2_with fail
  refine (exactly_step h1.out _).mono ?_
  rintro e w2 ⟨k2, c2, rfl, h2⟩
  replace h1 := Lib.hid h2; clear h2
  go_wp2_with fail
  refine (exactly_step h1.out _).mono ?_
  rintro e w3 ⟨k3, c3, rfl, h2⟩
  replace h1 := Lib.hid h2; clear h2
  go_wp2_with fail
  refine (between_step h1.out _ _).mono ?_
  rintro e w4 ⟨k4, c4, rfl, h2⟩
  replace h1 := Lib.hid h2; clear h2
  go_wp2_with fail
  refine (exactly_step h1.out _).mono ?_
  rintro e w5 ⟨k5, c5, rfl, h2⟩
  replace h1 := Lib.hid h2; clear h2
  go_wp2_with fail
  refine (oneOf3_step h1.out (p1 := btw 0 (t - 1)) (p2 := btw 3 3) (p3 := btw 4 4) (by simp) (by simp) (by simp)).mono ?_
  rintro e w6 ⟨k6, c6, rfl, h2⟩
  replace h1 := Lib.hid h2; clear h2
  go_wp2_with fail
  refine (exactly_step h1.out _).mono ?_
  rintro e w7 ⟨k7, c7, rfl, h2⟩
  replace h1 := Lib.hid h2; clear h2
  go_wp2_with fail
  refine (oneOf3_step h1.out (p1 := btw 0 (t - 1)) (p2 := btw 2 2) (p3 := btw 5 7) (by simp) (by simp) (by simp)).mono ?_
  rintro e w8 ⟨k8, c8, rfl, h2⟩
  replace h1 := Lib.hid h2; clear h2
  go_wp2_with fail
  refine (between_step h1.out _ _).mono ?_
  rintro e w9 ⟨k9, c9, rfl, h2⟩
  replace h1 := Lib.hid h2; clear h2
  go_wp2_with fail
  refine (between_step h1.out _ _).mono ?_
  rintro e w10 ⟨k10, c10, rfl, h2⟩
  replace h1 := Lib.hid h2; clear h2
  go_wp2_with fail
  refine (oneOf2_step h1.out (p1 := btw 0 (t - 1)) (p2 := btw 3 3) (by simp) (by simp)).mono ?_
  rintro e w11 ⟨k11, c11, rfl, h2⟩
  replace h1 := Lib.hid h2; clear h2
  go_wp2_with fail
  refine (between_step h1.out _ _).mono ?_
  rintro e w12 ⟨k12, c12, rfl, h2⟩
  replace h1 := Lib.hid h2; clear h2
  go_wp2_with fail
  refine (oneOf2_step h1.out (p1 := btw 0 (t - 1)) (p2 := btw 2 7) (by simp) (by simp)).mono ?_
  rintro e w13 ⟨k13, c13, rfl, h2⟩
  replace h1 := Lib.hid h2; clear h2
  go_wp2_with fail
  refine (between_step h1.out _ _).mono ?_
  rintro e w14 ⟨k14, c14, rfl, h2⟩
  replace h1 := Lib.hid h2; clear h2
  go_wp2_with fail
  refine (between_step h1.out _ _).mono ?_
  rintro e w15 ⟨k15, c15, rfl, h2⟩
  replace h1 := Lib.hid h2; clear h2
  go_wp2_with fail
  refine (between_step h1.out _ _).mono ?_
  rintro e w16 ⟨k16, c16, rfl, h2⟩
  replace h1 := Lib.hid h2; clear h2
  go_wp2_with fail
  refine (between_step h1.out _ _).mono ?_
  rintro e w17 ⟨k17, c17, rfl, h2⟩
  replace h1 := Lib.hid h2; clear h2
  go_wp2_with (refine wpList_store_row rfl 147 _ _ rfl w17.heap.size _ rfl rfl 147 _ (heap_alloc_new _ _) ?hi ?hold ?h1 ?_)
  case hi => kernel_rfl
  case hold => rfl
  case h1 => kernel_rfl
  have HR := Lib.hid (rows_new _ _ _ _ _ _ _ _ _ _ _ _ _ _ _ _ _ _ _ _ _ _ _ _ _ _ _ _ _ _ _ _ _ _ _ _ _ _ _ h1.out)
  have HB := Lib.hid (h1.out.next (below_alloc1 w17 (.cells #[.nilFunc, .nilFunc, .func (.func k10) #[] c10, .func (.func k3) #[] c3, .func (.func k3) #[] c3, .func (.func k3) #[] c3, .func (.func k3) #[] c3, .func (.func k3) #[] c3, .func (.func k3) #[] c3, .func (.func k3) #[] c3, .func (.func k3) #[] c3, .func (.func k3) #[] c3, .func (.func k4) #[] c4, .func (.func k3) #[] c3, .func (.func k11) #[] c11, .func (.func k3) #[] c3, .func (.func k9) #[] c9, .func (.func k3) #[] c3, .func (.func k9) #[] c9, .func (.func k3) #[] c3, .func (.func k13) #[] c13, .func (.func k3) #[] c3, .func (.func k6) #[] c6, .func (.func k3) #[] c3, .func (.func k6) #[] c6, .func (.func k3) #[] c3, .func (.func k8) #[] c8, .func (.func k3) #[] c3, .func (.func k8) #[] c8, .func (.func k3) #[] c3, .func (.func k8) #[] c8, .func (.func k3) #[] c3, .func (.func k8) #[] c8, .func (.func k3) #[] c3, .func (.func k8) #[] c8, .func (.func k14) #[] c14, .func (.func k8) #[] c8, .func (.func k3) #[] c3, .func (.func k8) #[] c8, .func (.func k3) #[] c3, .func (.func k1) #[] c1, .func (.func k3) #[] c3, .func (.func k6) #[] c6, .func (.func k15) #[] c15, .func (.func k16) #[] c16, .func (.func k3) #[] c3, .func (.func k17) #[] c17, .func (.func k3) #[] c3, .func (.func k3) #[] c3, .func (.func k3) #[] c3] 147))).1
  go_ret
  exact ⟨_, rfl, by rw [World.setRow_alloc_new]; exact HR.out, by rw [World.setRow_alloc_new]; exact HB.out⟩
end Go.Proofs.YtbeaaieaffdgeaaGreatDoor
end
