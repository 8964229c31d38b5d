/- What a reader hands back, whatever it holds: the program's Num, Int, Text. -/
import Derived.Test.YthndmaeplnhmlaaWireE
import Derived.Test.YthndmaeplnhmlaaWireI
namespace Go.Proofs.Ythndmaeplnhmlaa
open Go.RowKit
set_option linter.unusedVariables false

/-- What a reader is: what is left, and whether it has stopped. -/
abbrev RdS := ByteArray × Bool
def rdNum (r : RdS) : Nat × RdS :=
  if r.2 then (0, r) else match readN r.1.data.toList with
    | none => (0, (ByteArray.empty, true))
    | some (n, k) => (n, (r.1.extract k r.1.size, false))
def rdInt (r : RdS) : Int × RdS := (unzig (rdNum r).1, (rdNum r).2)
def rdText (r : RdS) : ByteArray × RdS :=
  if (rdNum r).2.2 then (ByteArray.empty, (rdNum r).2)
  else if (rdNum r).2.1.size < (rdNum r).1 then (ByteArray.empty, (ByteArray.empty, true))
  else ((rdNum r).2.1.extract 0 (rdNum r).1, ((rdNum r).2.1.extract (rdNum r).1 (rdNum r).2.1.size, false))
/-- A reader that has stopped has nothing left. -/
def RdOk (r : RdS) : Prop := r.1.size ≤ 70368744177664 ∧ (r.2 = true → r.1 = ByteArray.empty)
theorem readN_lt (l : List UInt8) (n k : Nat) (h : readN l = some (n, k)) : n < 18446744073709551616 := by
  cases l with
  | nil => simp [readN] at h
  | cons c r =>
    rw [readN_cons] at h
    split at h
    · simp at h
    · split at h
      · simp only [Option.some.injEq, Prod.mk.injEq] at h
        obtain ⟨rfl, -⟩ := h
        have h1 := valL_lt (r.take (lead c.toNat)) (lowB c.toNat)
        have h2 : (r.take (lead c.toNat)).length ≤ lead c.toNat := List.length_take_le _ _
        have hp : 256 ^ (r.take (lead c.toNat)).length ≤ 256 ^ (lead c.toNat) := Nat.pow_le_pow_right (by omega) h2
        have := low_b ⟨c.toNat, c.toNat_lt⟩
        exact Nat.lt_of_lt_of_le h1 (Nat.le_trans (Nat.mul_le_mul_left _ hp) this)
      · simp at h
theorem rdNum_lt (r : RdS) : (rdNum r).1 < 18446744073709551616 := by
  unfold rdNum
  split
  · omega
  · split
    · omega
    · exact readN_lt _ _ _ ‹_›
theorem RdOk.num {r : RdS} (h : RdOk r) : RdOk (rdNum r).2 := by
  unfold rdNum
  split
  · exact h
  · split
    · exact ⟨by simp, fun _ => rfl⟩
    · refine ⟨?_, fun h => by cases h⟩
      have := h.1
      simp only [ByteArray.size_extract]
      omega
theorem RdOk.text {r : RdS} (h : RdOk r) : RdOk (rdText r).2 := by
  have h' := h.num
  unfold rdText
  split
  · exact h'
  · split
    · exact ⟨by simp, fun _ => rfl⟩
    · refine ⟨?_, fun h => by cases h⟩
      have := h'.1
      simp only [ByteArray.size_extract]
      omega

set_option maxHeartbeats 400000 in
theorem num_stopped (b : Nat) (s : ByteArray) (w : World) (h : RdT 57 b s true w) :
    Calls Try.prog 18 #[.pointer (some ⟨b, 0, none⟩)] w fun e w' => e = .returned (.int .u64 0) ∧ w = w' := by
  have H := Lib.hid h
  clear h
  go_enter Try.func18, Try.ntmps18
  go_wp2
  go_step3
  go_wp2_with (go_at_call 24; refine (ok_any _ _ _ _ H.out).mono ?_; rintro e w' ⟨rfl, rfl⟩)
  rw [Exit.noGoto_ret]
  go_ret
  exact ⟨rfl, rfl⟩
set_option maxHeartbeats 400000 in
theorem num_nil (w : World) :
    Calls Try.prog 18 #[.pointer none] w fun e w' => e = .returned (.int .u64 0) ∧ w = w' := by
  go_enter Try.func18, Try.ntmps18
  go_wp2
  go_step3
  go_wp2_with (go_at_call 24; refine (ok_nil _).mono ?_; rintro e w' ⟨rfl, rfl⟩)
  rw [Exit.noGoto_ret]
  go_ret
  exact ⟨rfl, rfl⟩
theorem num_any (b : Nat) (r : RdS) (w : World) (hr : RdOk r) (h : RdT 57 b r.1 r.2 w) :
    Calls Try.prog 18 #[.pointer (some ⟨b, 0, none⟩)] w fun e w' => e = .returned (.int .u64 ((rdNum r).1 : Int)) ∧ RdT 57 b (rdNum r).2.1 (rdNum r).2.2 w' ∧ w.grownBy w' (some b) := by
  obtain ⟨s, st⟩ := r
  have key : st = false → ∀ e w', NumPost b s w e w' → e = .returned (.int .u64 ((rdNum (s, st)).1 : Int)) ∧ RdT 57 b (rdNum (s, st)).2.1 (rdNum (s, st)).2.2 w' ∧ w.grownBy w' (some b) := by
    rintro rfl e w' ⟨hg, hp⟩
    have e0 : rdNum (s, false) = match readN s.data.toList with
      | none => (0, (ByteArray.empty, true))
      | some (n, k) => (n, (s.extract k s.size, false)) := rfl
    rw [e0]
    split at hp
    · rename_i hq; rw [hq]; exact ⟨hp.1, hp.2, hg⟩
    · rename_i hq; rw [hq]; exact ⟨hp.1, hp.2, hg⟩
  cases st with
  | true => exact (num_stopped b s w h).mono fun e w' ⟨he, hw⟩ => by subst hw; exact ⟨he, h, World.grownBy.refl _ _⟩
  | false =>
    by_cases hz : s.size = 0
    · exact (num_empty b s w h hz).mono (key rfl)
    · exact (num_more b s w h (by omega) hr.1).mono (key rfl)

set_option maxHeartbeats 400000 in
theorem int_any (b : Nat) (r : RdS) (w : World) (hr : RdOk r) (h : RdT 57 b r.1 r.2 w) :
    Calls Try.prog 20 #[.pointer (some ⟨b, 0, none⟩)] w fun e w' => e = .returned (.int .i64 (rdInt r).1) ∧ RdT 57 b (rdInt r).2.1 (rdInt r).2.2 w' ∧ w.grownBy w' (some b) := by
  have hb := rdNum_lt r
  have H := Lib.hid h
  clear h
  go_enter Try.func20, Try.ntmps20
  go_wp2_with (first | (go_at_call 18; refine (num_any b r _ hr H.out).mono ?_; rintro e w' ⟨rfl, h1, hg⟩) | (go_at_call 37; refine (signed_any _ (by omega) _).mono ?_; rintro e w' ⟨rfl, rfl⟩))
  go_ret
  exact ⟨rfl, h1, hg⟩
set_option maxHeartbeats 400000 in
theorem int_nil (w : World) :
    Calls Try.prog 20 #[.pointer none] w fun e w' => e = .returned (.int .i64 0) ∧ w = w' := by
  have h0 : ∀ W : World, Calls Try.prog 37 #[.int .u64 0] W fun e w' => e = .returned (.int .i64 0) ∧ W = w' := fun W => signed_any 0 (by omega) W
  have H0 := Lib.hid h0
  clear h0
  go_enter Try.func20, Try.ntmps20
  go_wp2_with (first | (go_at_call 18; refine (num_nil _).mono ?_; rintro e w' ⟨rfl, rfl⟩) | (go_at_call 37; refine (H0.out _).mono ?_; rintro e w' ⟨rfl, rfl⟩))
  go_ret
  exact ⟨rfl, rfl⟩
set_option maxHeartbeats 400000 in
theorem clone_any (s : ByteArray) (w : World) (hs : s.size ≤ 70368744177664) :
    Calls Try.prog 38 #[.string s] w fun e w' => e = .returned (.string s) ∧ Below w.heap.size w w' := by
  go_enter Try.func38, Try.ntmps38
  go_wp2_with (go_at_call 42; refine (Try.stringslite_Clone s _ (by omega)).mono ?_; rintro e w' ⟨rfl, hb⟩)
  go_ret
  exact ⟨rfl, hb⟩
set_option maxHeartbeats 400000 in
theorem text_nil (w : World) :
    Calls Try.prog 22 #[.pointer none] w fun e w' => e = .returned (.string ByteArray.empty) ∧ w = w' := by
  go_enter Try.func22, Try.ntmps22
  go_wp2_with (first | (go_at_call 18; refine (num_nil _).mono ?_; rintro e w' ⟨rfl, rfl⟩) | (go_at_call 24; refine (ok_nil _).mono ?_; rintro e w' ⟨rfl, rfl⟩))
  go_ret
  exact ⟨rfl, rfl⟩
end Go.Proofs.Ythndmaeplnhmlaa
