/- 'works': the closed run that each statement asks besides: it answers true, and nothing that was there has changed. -/
import Derived.Test.YthndmaeplnhmlaaWireK
namespace Go.Proofs.Ythndmaeplnhmlaa
open Go.RowKit
set_option linter.unusedVariables false

theorem below_grown {B b : Nat} {u v w : World} (h : Below B u v) (g : v.grownBy w (some b)) (hB : B ≤ v.heap.size) (hb : B ≤ b) : Below B u w :=
  h.grown g hB (fun k e => by injection e with e; omega)
theorem below_then {B : Nat} {u v w : World} (h : Below B u v) (k : Below v.heap.size v w) (hB : B ≤ v.heap.size) : Below B u w := h.trans (k.mono hB)
theorem below_size {B : Nat} {u v : World} (h : Below B u v) (hB : B ≤ u.heap.size) : B ≤ v.heap.size := Nat.le_trans hB h.size

set_option maxHeartbeats 1000000 in
theorem works_any (w : World) : Calls Try.prog 16 #[] w fun e w' => e = .returned (.bool true) ∧ Below w.heap.size w w' := by
  have p1 : ∀ W : World, Calls Try.prog 10 #[.string ⟨#[]⟩, .int .u64 300] W fun e w' => e = .returned (.string ⟨#[129, 44]⟩) ∧ Below W.heap.size W w' := by
    intro W
    have h := putNum_any ⟨#[]⟩ (by decide) 300 (by omega) W
    have e : (⟨#[]⟩ ++ numS 300 : ByteArray) = ⟨#[129, 44]⟩ := by decide +kernel
    rw [e] at h; exact h
  have p2 : ∀ W : World, Calls Try.prog 12 #[.string ⟨#[129, 44]⟩, .int .i64 (-1)] W fun e w' => e = .returned (.string ⟨#[129, 44, 1]⟩) ∧ Below W.heap.size W w' := by
    intro W
    have h := putInt_any ⟨#[129, 44]⟩ (by decide) (-1) (by omega) (by omega) W
    have e : (⟨#[129, 44]⟩ ++ numS (zig (-1)) : ByteArray) = ⟨#[129, 44, 1]⟩ := by decide +kernel
    rw [e] at h; exact h
  have p3 : ∀ W : World, Calls Try.prog 14 #[.string ⟨#[129, 44, 1]⟩, .string ⟨#[97, 98]⟩] W fun e w' => e = .returned (.string ⟨#[129, 44, 1, 2, 97, 98]⟩) ∧ Below W.heap.size W w' := by
    intro W
    have h := putText_any ⟨#[129, 44, 1]⟩ (by decide) ⟨#[97, 98]⟩ (by decide) W
    have e : (⟨#[129, 44, 1]⟩ ++ textS ⟨#[97, 98]⟩ : ByteArray) = ⟨#[129, 44, 1, 2, 97, 98]⟩ := by decide +kernel
    rw [e] at h; exact h
  have r1 : ∀ (W : World) (b : Nat), RdT 57 b ⟨#[129, 44, 1, 2, 97, 98]⟩ false W → Calls Try.prog 18 #[.pointer (some ⟨b, 0, none⟩)] W fun e w' => e = .returned (.int .u64 300) ∧ RdT 57 b ⟨#[1, 2, 97, 98]⟩ false w' ∧ W.grownBy w' (some b) := by
    intro W b hb
    have h := num_any b (⟨#[129, 44, 1, 2, 97, 98]⟩, false) W ⟨by decide, fun h => by cases h⟩ hb
    have e : rdNum (⟨#[129, 44, 1, 2, 97, 98]⟩, false) = (300, (⟨#[1, 2, 97, 98]⟩, false)) := by decide +kernel
    rw [e] at h; exact h
  have r2 : ∀ (W : World) (b : Nat), RdT 57 b ⟨#[1, 2, 97, 98]⟩ false W → Calls Try.prog 20 #[.pointer (some ⟨b, 0, none⟩)] W fun e w' => e = .returned (.int .i64 (-1)) ∧ RdT 57 b ⟨#[2, 97, 98]⟩ false w' ∧ W.grownBy w' (some b) := by
    intro W b hb
    have h := int_any b (⟨#[1, 2, 97, 98]⟩, false) W ⟨by decide, fun h => by cases h⟩ hb
    have e : rdInt (⟨#[1, 2, 97, 98]⟩, false) = (-1, (⟨#[2, 97, 98]⟩, false)) := by decide +kernel
    rw [e] at h; exact h
  have r3 : ∀ (W : World) (b : Nat), RdT 57 b ⟨#[2, 97, 98]⟩ false W → Calls Try.prog 22 #[.pointer (some ⟨b, 0, none⟩)] W fun e w' => e = .returned (.string ⟨#[97, 98]⟩) ∧ RdT 57 b ⟨#[]⟩ false w' ∧ W.grownBy w' (some b) := by
    intro W b hb
    have h := text_any b (⟨#[2, 97, 98]⟩, false) W ⟨by decide, fun h => by cases h⟩ hb
    have e : rdText (⟨#[2, 97, 98]⟩, false) = (⟨#[97, 98]⟩, (⟨#[]⟩, false)) := by decide +kernel
    rw [e] at h; exact h
  have r4 : ∀ (W : World) (b : Nat), RdT 57 b ⟨#[]⟩ false W → Calls Try.prog 26 #[.pointer (some ⟨b, 0, none⟩)] W fun e w' => e = .returned (.bool true) ∧ W = w' := by
    intro W b hb
    have h := end_any b ⟨#[]⟩ false W hb
    have e : (!false && (⟨#[]⟩ : ByteArray).toList.isEmpty) = true := by rw [ByteArray.toList_eq]; rfl
    rw [e] at h; exact h
  have P1 := Lib.hid p1
  have P2 := Lib.hid p2
  have P3 := Lib.hid p3
  have R1 := Lib.hid r1
  have R2 := Lib.hid r2
  have R3 := Lib.hid r3
  have R4 := Lib.hid r4
  clear p1 p2 p3 r1 r2 r3 r4
  go_enter Try.func16, Try.ntmps16
  go_wp2_with (first
    | (go_at_call 10; refine (P1.out _).mono ?_; rintro e w1 ⟨rfl, b1⟩)
    | (go_at_call 12; refine (P2.out _).mono ?_; rintro e w2 ⟨rfl, b2⟩)
    | (go_at_call 14; refine (P3.out _).mono ?_; rintro e w3 ⟨rfl, b3⟩)
    | (go_at_call 17; refine (new_any _ _).mono ?_; rintro e w4 ⟨rfl, h4⟩; have H4 := Lib.hid h4; clear h4; have N4 : RdT 57 w3.heap.size ⟨#[129, 44, 1, 2, 97, 98]⟩ false w4 := (by rw [← H4.out]; exact RdT.new _ _ _ _))
    | (go_at_call 18; refine (R1.out _ _ N4).mono ?_; rintro e w5 ⟨rfl, N5, g5⟩)
    | (go_at_call 20; refine (R2.out _ _ N5).mono ?_; rintro e w6 ⟨rfl, N6, g6⟩)
    | (go_at_call 22; refine (R3.out _ _ N6).mono ?_; rintro e w7 ⟨rfl, N7, g7⟩)
    | (go_at_call 26; refine (R4.out _ _ N7).mono ?_; rintro e w8 ⟨rfl, rfl⟩))
  go_ret
  refine ⟨rfl, ?_⟩
  have s1 := below_size b1 (Nat.le_refl _)
  have c2 := below_then b1 b2 s1
  have s2 := below_size c2 (Nat.le_refl _)
  have c3 := below_then c2 b3 s2
  have s3 := below_size c3 (Nat.le_refl _)
  have c4 : Below w.heap.size w w4 := by rw [← H4.out]; exact c3.alloc s3 _
  have s4 := below_size c4 (Nat.le_refl _)
  have c5 := below_grown c4 g5 s4 s3
  have s5 := below_size c5 (Nat.le_refl _)
  have c6 := below_grown c5 g6 s5 s3
  have s6 := below_size c6 (Nat.le_refl _)
  exact below_grown c6 g7 s6 s3
end Go.Proofs.Ythndmaeplnhmlaa
