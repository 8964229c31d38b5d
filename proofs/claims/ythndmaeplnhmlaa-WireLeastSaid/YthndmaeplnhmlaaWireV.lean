/- WireLeast: the greatest sort, and all sorts together. -/
import Derived.Test.YthndmaeplnhmlaaWireTa
import Derived.Test.YthndmaeplnhmlaaWireTb
import Derived.Test.YthndmaeplnhmlaaWireTc
import Derived.Test.YthndmaeplnhmlaaWireTd
namespace Go.Proofs.Ythndmaeplnhmlaa
open Go.RowKit
set_option linter.unusedVariables false

set_option maxHeartbeats 2000000 in
theorem least_8 (s : ByteArray) (hs : s.size ≤ 9223372036854775807) (n : Nat) (hl : 72057594037927936 ≤ n) (hh : n ≤ 18446744073709551615) (w : World)
    (T : ByteArray) (hT : s.extract 0 (min (s.size : Int) 20).toNat = T) (hTs : T.size ≤ 20) (m : Nat) (st : RdS) (hrd : rdNum (T, false) = (m, st)) (hst : RdOk st) (hm : m ≤ 18446744073709551615)
    (hfirst : st.2 = false → ((T.extract 0 (numS m).size).toList == (numS m).toList) = true ∧ (numS m).size ≤ T.size) :
    Calls Try.prog 7 #[.string s, .int .u64 (n : Int)] w fun e w' => e = .returned (.bool true) ∧ Below w.heap.size w w' := by
  have hq : sortN n = 8 := by
    unfold sortN; repeat' split
    all_goals omega
  have hR : (numS n).size = 9 := by rw [numS_size', hq]
  have hb : ∀ (W : World) (x : Int), x = ((numS n).data.toList.head!.toNat : Int) → Calls Try.prog 28 #[.int .u8 x] W fun e w' => e = .returned (.int .i64 8) ∧ W = w' := by
    rintro W x rfl
    have hf := firstB_facts n (by omega)
    have e : (numS n).data.toList.head!.toNat = firstB n := by
      show (UInt8.ofNat (firstB n)).toNat = firstB n
      rw [UInt8.toNat_ofNat']; omega
    have h := behind_any (firstB n) hf.1 W
    rw [hf.2.1, hq] at h
    rw [e]; exact h
  have hhd : ∀ h0 : 0 < (numS n).size, (numS n)[0].toNat = (numS n).data.toList.head!.toNat := fun _ => rfl
  have HB := Lib.hid hb
  have HH := Lib.hid hhd
  have HP := Lib.hid (putsN n (by omega))
  have HM := Lib.hid (putsN m hm)
  have hN : ∀ (W : World) (b : Nat), RdT 57 b T false W → Calls Try.prog 18 #[.pointer (some ⟨b, 0, none⟩)] W fun e w' => e = .returned (.int .u64 (m : Int)) ∧ RdT 57 b st.1 st.2 w' ∧ W.grownBy w' (some b) := by
    intro W b hb
    have h := num_any b (T, false) W ⟨by simp only; omega, fun h => by cases h⟩ hb
    rw [hrd] at h
    exact h
  have HN := Lib.hid hN
  clear hb hhd hq hN hrd
  generalize numS n = R at *
  go_enter Try.func7, Try.ntmps7
  obtain ⟨s1, st1⟩ := st
  cases st1
  all_goals
    go_wp2_with fail
    clear hT
    refine (new_rd _ _).mono ?_
    rintro e w1 ⟨rfl, N1, b1⟩
    go_wp2_with fail
    refine (HN.out _ _ N1).mono ?_
    rintro e w2 ⟨rfl, n2, g2⟩
    have N2 := Lib.hid n2
    have B2 := Lib.hid (below_grown b1 g2 b1.size (Nat.le_refl _))
    clear n2 g2 b1 N1
    go_wp2_with fail
    refine (ok_any _ _ _ _ N2.out).mono ?_
    rintro e w3 ⟨rfl, rfl⟩
  · obtain ⟨t1, t2⟩ := hfirst (by first | rfl | trivial)
    have hn9 := numS_size m
    generalize numS m = M at *
    go_wp2_with fail
    refine (HM.out _).mono ?_
    rintro e w4 ⟨rfl, b4⟩
    have B4 := Lib.hid (below_then B2.out b4 B2.out.size)
    clear b4
    go_wp2_with fail
    refine (HP.out _).mono ?_
    rintro e w5 ⟨rfl, b5⟩
    have B5 := Lib.hid (below_then B4.out b5 B4.out.size)
    clear b5
    go_wp2_with fail
    refine (HB.out _ _ (congrArg _ (HH.out (by omega)))).mono ?_
    rintro e w6 ⟨rfl, rfl⟩
    go_wp2_with fail
    refine (works_any _).mono ?_
    rintro e w9 ⟨rfl, b9⟩
    go_wp2_with fail
    go_ret
    exact ⟨rfl, below_then B5.out b9 B5.out.size⟩
  · go_wp2_with fail
    refine (HP.out _).mono ?_
    rintro e w5 ⟨rfl, b5⟩
    have B5 := Lib.hid (below_then B2.out b5 B2.out.size)
    clear b5
    go_wp2_with fail
    refine (HB.out _ _ (congrArg _ (HH.out (by omega)))).mono ?_
    rintro e w6 ⟨rfl, rfl⟩
    go_wp2_with fail
    refine (works_any _).mono ?_
    rintro e w9 ⟨rfl, b9⟩
    go_wp2_with fail
    go_ret
    exact ⟨rfl, below_then B5.out b9 B5.out.size⟩
theorem walk_WireLeast (s : ByteArray) (hs : s.size ≤ maxLen) (n : Nat) (hn : n ≤ 18446744073709551615) (w : World) :
    Calls Try.prog 7 #[.string s, .int .u64 (n : Int)] w fun e w' => e = .returned (.bool true) ∧ Below w.heap.size w w' := by
  have hs : s.size ≤ 9223372036854775807 := hs
  have hTs : (s.extract 0 (min (s.size : Int) 20).toNat).size ≤ 20 := by simp only [ByteArray.size_extract]; omega
  generalize hT : s.extract 0 (min (s.size : Int) 20).toNat = T at *
  have hok : RdOk (T, false) := ⟨by simp only; omega, fun h => by cases h⟩
  have hst := hok.num
  have hm := rdNum_lt (T, false)
  have hfirst : (rdNum (T, false)).2.2 = false → ((T.extract 0 (numS (rdNum (T, false)).1).size).toList == (numS (rdNum (T, false)).1).toList) = true ∧ (numS (rdNum (T, false)).1).size ≤ T.size := by
    have e0 : rdNum (T, false) = match readN T.data.toList with
      | none => (0, (ByteArray.empty, true))
      | some (n, k) => (n, (T.extract k T.size, false)) := rfl
    rw [e0]
    cases hq : readN T.data.toList with
    | none => intro h; cases h
    | some p =>
      obtain ⟨m, k⟩ := p
      intro _
      obtain ⟨r1, r2, r3⟩ := readN_row _ m k hq
      have hl : T.data.toList.length = T.size := by simp
      have hz := numS_size' m
      refine ⟨?_, by simp only; omega⟩
      simp only
      rw [hz, ← r3, beq_iff_eq, ByteArray.toList_eq, ByteArray.toList_eq]
      have e1 : (T.extract 0 k).data.toList = T.data.toList.take k := by simp
      rw [e1, r1]
      rfl
  obtain ⟨m, st, hrd⟩ : ∃ m st, rdNum (T, false) = (m, st) := ⟨_, _, rfl⟩
  rw [hrd] at hst hm hfirst
  have hm' : m ≤ 18446744073709551615 := by simp only at hm; omega
  by_cases h0 : n ≤ 127
  · exact least_0 s hs n (by omega) h0 w T hT hTs m st hrd hst hm' hfirst
  by_cases h1 : n ≤ 16383
  · exact least_1 s hs n (by omega) h1 w T hT hTs m st hrd hst hm' hfirst
  by_cases h2 : n ≤ 2097151
  · exact least_2 s hs n (by omega) h2 w T hT hTs m st hrd hst hm' hfirst
  by_cases h3 : n ≤ 268435455
  · exact least_3 s hs n (by omega) h3 w T hT hTs m st hrd hst hm' hfirst
  by_cases h4 : n ≤ 34359738367
  · exact least_4 s hs n (by omega) h4 w T hT hTs m st hrd hst hm' hfirst
  by_cases h5 : n ≤ 4398046511103
  · exact least_5 s hs n (by omega) h5 w T hT hTs m st hrd hst hm' hfirst
  by_cases h6 : n ≤ 562949953421311
  · exact least_6 s hs n (by omega) h6 w T hT hTs m st hrd hst hm' hfirst
  by_cases h7 : n ≤ 72057594037927935
  · exact least_7 s hs n (by omega) h7 w T hT hTs m st hrd hst hm' hfirst
  · exact least_8 s hs n (by omega) hn w T hT hTs m st hrd hst hm' hfirst
theorem walk_WireLeastI (s : ByteArray) (hs : s.size ≤ maxLen) (x : Int) (h : 0 ≤ x ∧ x ≤ 18446744073709551615) (w : World) :
    Calls Try.prog 7 #[.string s, .int .u64 x] w fun e w' => e = .returned (.bool true) ∧ Below w.heap.size w w' := by
  obtain ⟨n, rfl⟩ := Int.eq_ofNat_of_zero_le h.1
  exact walk_WireLeast s hs n (by omega) w
end Go.Proofs.Ythndmaeplnhmlaa
