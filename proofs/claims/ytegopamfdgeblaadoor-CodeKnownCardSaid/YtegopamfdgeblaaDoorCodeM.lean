/- The document's digits. -/
import Derived.Test.YtegopamfdgeblaaDoorCodeL
namespace Go.Proofs.YtegopamfdgeblaaDoor
open Go.RowKit
set_option linter.unusedVariables false
set_option linter.unusedSimpArgs false

theorem dig_small (u : Nat) (h : u < 10) : Lib.decDigits u = [UInt8.ofNat (48 + u)] := by rw [Lib.decDigits, dif_pos h]
theorem dig_big (u : Nat) (h : ¬ u < 10) : Lib.decDigits u = Lib.decDigits (u / 10) ++ Lib.decDigits (u % 10) := by
  rw [Lib.decDigits, dif_neg h, dig_small (u % 10) (by omega)]
theorem dec_len (u : Nat) (h : u ≤ 9223372036854775808) : (Lib.decDigits u).length ≤ 21 := by
  rw [Lib.decDigits_length]
  have := Lib.nDigits_le20 u (by omega)
  omega
theorem digits_one (u : Nat) (h : u < 10) (w : World) :
    Calls Tryd.prog 26 #[.int .i64 (u : Int)] w fun e w' => e = .returned (.string (bytesS (Lib.decDigits u))) ∧ Below w.heap.size w w' := by
  rw [dig_small u h]
  have hb := below_alloc1 w (.cells #[.int .u8 (48 + (u : Int))] 5)
  have hcv : (convert 48 9 (.slice (some ⟨w.heap.size, 0, none⟩) 1 1)).run Tryd.prog (w.alloc (.cells #[.int .u8 (48 + (u : Int))] 5)) = .ok (.string ⟨#[UInt8.ofNat (48 + u)]⟩) (w.alloc (.cells #[.int .u8 (48 + (u : Int))] 5)) := run_convert_bytes_back (P := Tryd.prog) (w.alloc (.cells #[.int .u8 (48 + (u : Int))] 5)) 48 9 5 ⟨w.heap.size, 0, none⟩ 1 [UInt8.ofNat (48 + u)] Tryd.underlying48 Tryd.underlying5 Tryd.underlying9 (fun j hj => by
    obtain rfl : j = 0 := by simpa using hj
    have e : (((UInt8.ofNat (48 + u)).toNat : Nat) : Int) = 48 + (u : Int) := by
      rw [UInt8.toNat_ofNat']; omega
    simp [Addr.add]; omega)
  have HB := Lib.hid hb
  obtain ⟨s, hs⟩ : ∃ s : ByteArray, bytesS [UInt8.ofNat (48 + u)] = s := ⟨_, rfl⟩
  rw [show (⟨#[UInt8.ofNat (48 + u)]⟩ : ByteArray) = s from hs] at hcv
  have HS := Lib.hid hs
  clear hb hs
  go_enter Tryd.func26, Tryd.ntmps26
  go_wp2_with fail
  go_ret
  exact ⟨str_ret HS.out.symm, HB.out⟩
theorem bytesS_append (a b : List UInt8) : bytesS (a ++ b) = bytesS a ++ bytesS b := by
  unfold bytesS
  apply ByteArray.ext
  simp [ByteArray.data_append]
set_option maxHeartbeats 1000000 in
theorem digits_nat (m : Nat) : ∀ u : Nat, u ≤ m → u ≤ 9223372036854775808 → (u : Int) ≤ 9223372036854775807 → ∀ w : World,
    Calls Tryd.prog 26 #[.int .i64 (u : Int)] w fun e w' => e = .returned (.string (bytesS (Lib.decDigits u))) ∧ Below w.heap.size w w' := by
  induction m with
  | zero => intro u hu _ _ w; exact digits_one u (by omega) w
  | succ m ih =>
    intro u hu h1 h2 w
    by_cases hs : u < 10
    · exact digits_one u hs w
    · have HA := Lib.hid (fun W => ih (u / 10) (by omega) (by omega) (by omega) W)
      have HB := Lib.hid (fun W => digits_one (u % 10) (by omega) W)
      have hq : (u : Int).tdiv 10 = ((u / 10 : Nat) : Int) := by rw [Int.tdiv_eq_ediv_of_nonneg (by omega)]; omega
      have hm : (u : Int).tmod 10 = ((u % 10 : Nat) : Int) := by rw [Int.tmod_eq_emod_of_nonneg (by omega)]; omega
      have HE := Lib.hid (show bytesS (Lib.decDigits u) = bytesS (Lib.decDigits (u / 10)) ++ bytesS (Lib.decDigits (u % 10)) by rw [dig_big u hs, bytesS_append])
      have hl1 : (bytesS (Lib.decDigits (u / 10))).size ≤ 21 := by rw [bytesS_size]; exact dec_len _ (by omega)
      have hl2 : (bytesS (Lib.decDigits (u % 10))).size ≤ 21 := by rw [bytesS_size]; exact dec_len _ (by omega)
      obtain ⟨s1, hs1⟩ : ∃ s, s = bytesS (Lib.decDigits (u / 10)) := ⟨_, rfl⟩
      obtain ⟨s2, hs2⟩ : ∃ s, s = bytesS (Lib.decDigits (u % 10)) := ⟨_, rfl⟩
      rw [← hs1] at HA HE hl1
      rw [← hs2] at HB HE hl2
      have hqb : u / 10 ≤ 922337203685477580 := by omega
      have hrb : u % 10 < 10 := by omega
      have hs' : ¬ (u : Int) < 10 := by omega
      clear hs1 hs2 ih
      generalize u / 10 = q at *
      generalize u % 10 = r at *
      go_enter Tryd.func26, Tryd.ntmps26
      go_wp2_with fail
      refine (HA.out _).mono ?_
      rintro e w1 ⟨rfl, b1⟩
      have B1 := Lib.hid b1
      clear b1 HA
      go_wp2_with fail
      refine (HB.out _).mono ?_
      rintro e w2 ⟨rfl, b2⟩
      have B2 := Lib.hid (below_then' B1.out b2 B1.out.size)
      clear b2 HB B1
      go_wp2_with fail
      go_ret
      exact ⟨str_ret HE.out.symm, B2.out⟩
set_option maxHeartbeats 1000000 in
theorem digits_neg (m : Nat) : ∀ u : Nat, 0 < u → u ≤ m → u ≤ 9223372036854775808 → ∀ w : World,
    Calls Tryd.prog 26 #[.int .i64 (-(u : Int))] w fun e w' => e = .returned (.string (bytesS (45 :: Lib.decDigits u))) ∧ Below w.heap.size w w' := by
  induction m with
  | zero => intro u h0 hu; omega
  | succ m ih =>
    intro u h0 hu h1 w
    by_cases hs : u < 10
    · have HB := Lib.hid (fun W => digits_one u hs W)
      have HE := Lib.hid (show bytesS (45 :: Lib.decDigits u) = (⟨#[45]⟩ : ByteArray) ++ bytesS (Lib.decDigits u) from bytesS_append [45] (Lib.decDigits u))
      have hl2 : (bytesS (Lib.decDigits u)).size ≤ 21 := by rw [bytesS_size]; exact dec_len _ (by omega)
      obtain ⟨s2, hs2⟩ : ∃ s, s = bytesS (Lib.decDigits u) := ⟨_, rfl⟩
      rw [← hs2] at HB HE hl2
      clear hs2 ih
      have hcat : ∀ W : World, (Op.stringOp .add ⟨#[45]⟩ s2).run Tryd.prog W = .ok (.string (⟨#[45]⟩ ++ s2)) W := fun W => run_string_add_sum W _ _ (by show 1 + s2.size ≤ _; omega)
      have hs' : (-10 : Int) < -(u : Int) := by omega
      have hn' : -(u : Int) < 0 := by omega
      go_enter Tryd.func26, Tryd.ntmps26
      go_wp2_with fail
      refine (HB.out _).mono ?_
      rintro e w1 ⟨rfl, b1⟩
      have B1 := Lib.hid b1
      clear b1 HB
      go_wp2_with fail
      go_ret
      exact ⟨str_ret HE.out.symm, B1.out⟩
    · have HA := Lib.hid (fun W => ih (u / 10) (by omega) (by omega) (by omega) W)
      have HB := Lib.hid (fun W => digits_one (u % 10) (by omega) W)
      have hq : (-(u : Int)).tdiv 10 = -((u / 10 : Nat) : Int) := by rw [Int.neg_tdiv, Int.tdiv_eq_ediv_of_nonneg (by omega)]; omega
      have hm : (-(u : Int)).tmod 10 = -((u % 10 : Nat) : Int) := by rw [Int.neg_tmod, Int.tmod_eq_emod_of_nonneg (by omega)]; omega
      have HE := Lib.hid (show bytesS (45 :: Lib.decDigits u) = bytesS (45 :: Lib.decDigits (u / 10)) ++ bytesS (Lib.decDigits (u % 10)) by rw [dig_big u hs, ← List.cons_append, bytesS_append])
      have hl1 : (bytesS (45 :: Lib.decDigits (u / 10))).size ≤ 22 := by rw [bytesS_size, List.length_cons]; have := dec_len (u / 10) (by omega); omega
      have hl2 : (bytesS (Lib.decDigits (u % 10))).size ≤ 21 := by rw [bytesS_size]; exact dec_len _ (by omega)
      obtain ⟨s1, hs1⟩ : ∃ s, s = bytesS (45 :: Lib.decDigits (u / 10)) := ⟨_, rfl⟩
      obtain ⟨s2, hs2⟩ : ∃ s, s = bytesS (Lib.decDigits (u % 10)) := ⟨_, rfl⟩
      rw [← hs1] at HA HE hl1
      rw [← hs2] at HB HE hl2
      have hqb : u / 10 ≤ 922337203685477580 := by omega
      have hrb : u % 10 < 10 := by omega
      have hs' : ¬ (-10 : Int) < -(u : Int) := by omega
      have hn' : -(u : Int) < 0 := by omega
      clear hs1 hs2 ih
      generalize u / 10 = q at *
      generalize u % 10 = r at *
      go_enter Tryd.func26, Tryd.ntmps26
      go_wp2_with fail
      refine (HA.out _).mono ?_
      rintro e w1 ⟨rfl, b1⟩
      have B1 := Lib.hid b1
      clear b1 HA
      go_wp2_with fail
      refine (HB.out _).mono ?_
      rintro e w2 ⟨rfl, b2⟩
      have B2 := Lib.hid (below_then' B1.out b2 B1.out.size)
      clear b2 HB B1
      go_wp2_with fail
      go_ret
      exact ⟨str_ret HE.out.symm, B2.out⟩
theorem digits_any (n : Int) (h : In64 n) (w : World) :
    Calls Tryd.prog 26 #[.int .i64 n] w fun e w' => e = .returned (.string (bytesS (Lib.itoa n))) ∧ Below w.heap.size w w' := by
  obtain ⟨h1, h2⟩ := h
  unfold Lib.itoa
  by_cases hn : n < 0
  · rw [if_pos hn]
    have := digits_neg n.natAbs n.natAbs (by omega) (Nat.le_refl _) (by omega) w
    rwa [show -(n.natAbs : Int) = n by omega] at this
  · rw [if_neg hn]
    have := digits_nat n.toNat n.toNat (Nat.le_refl _) (by omega) (by omega) w
    rwa [show (n.toNat : Int) = n by omega] at this
end Go.Proofs.YtegopamfdgeblaaDoor
