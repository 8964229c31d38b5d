/- WireLeast: the walk, some sorts. -/
import Derived.Test.YthndmaeplnhmlaaWireTh
namespace Go.Proofs.Ythndmaeplnhmlaa
open Go.RowKit
set_option linter.unusedVariables false

set_option maxHeartbeats 2000000 in
theorem least_0 (s : ByteArray) (hs : s.size ≤ 9223372036854775807) (n : Nat) (hl : 0 ≤ n) (hh : n ≤ 127) (w : World)
    (T : ByteArray) (hT : s.extract 0 (min (s.size : Int) 20).toNat = T) (hTs : T.size ≤ 20) (m : Nat) (st : RdS) (hrd : rdNum (T, false) = (m, st)) (hst : RdOk st) (hm : m ≤ 18446744073709551615)
    (hfirst : st.2 = false → ((T.extract 0 (numS m).size).toList == (numS m).toList) = true ∧ (numS m).size ≤ T.size) :
    Calls Try.prog 7 #[.string s, .int .u64 (n : Int)] w fun e w' => e = .returned (.bool true) ∧ Below w.heap.size w w' := by
  have hq : sortN n = 0 := by
    unfold sortN; repeat' split
    all_goals omega
  have hR : (numS n).size = 1 := by rw [numS_size', hq]
  have hwide := readN_wide n (by omega)
  rw [hq] at hwide
  have hW : (UInt8.ofNat (256 - 2 ^ (7 - 0)) :: beL (0 + 1) n) = [UInt8.ofNat 128, UInt8.ofNat (n / 1 % 256)] := by simp [beL]
  rw [hW] at hwide
  have hnum : rdNum (⟨#[UInt8.ofNat 128, UInt8.ofNat (n / 1 % 256)]⟩, false) = (0, (ByteArray.empty, true)) := by
    unfold rdNum
    rw [if_neg (by simp)]
    simp only
    rw [hwide]
  have hb : ∀ (W : World) (x : Int), x = ((numS n).data.toList.head!.toNat : Int) → Calls Try.prog 28 #[.int .u8 x] W fun e w' => e = .returned (.int .i64 0) ∧ W = w' := by
    rintro W x rfl
    have hf := firstB_facts n (by omega)
    have e : (numS n).data.toList.head!.toNat = firstB n := by
      show (UInt8.ofNat (firstB n)).toNat = firstB n
      rw [UInt8.toNat_ofNat']; omega
    have h := behind_any (firstB n) hf.1 W
    rw [hf.2.1, hq] at h
    rw [e]; exact h
  have hhd : ∀ h0 : 0 < (numS n).size, (numS n)[0].toNat = (numS n).data.toList.head!.toNat := fun _ => rfl
  have HB := Lib.hid hb
  have HH := Lib.hid hhd
  have HP := Lib.hid (putsN n (by omega))
  have HM := Lib.hid (putsN m hm)
  have hN : ∀ (W : World) (b : Nat), RdT 57 b T false W → Calls Try.prog 18 #[.pointer (some ⟨b, 0, none⟩)] W fun e w' => e = .returned (.int .u64 (m : Int)) ∧ RdT 57 b st.1 st.2 w' ∧ W.grownBy w' (some b) := by
    intro W b hb
    have h := num_any b (T, false) W ⟨by simp only; omega, fun h => by cases h⟩ hb
    rw [hrd] at h
    exact h
  obtain ⟨X, hX⟩ : ∃ X : ByteArray, X = ⟨#[UInt8.ofNat 128, UInt8.ofNat (n / 1 % 256)]⟩ := ⟨_, rfl⟩
  have HX := Lib.hid (show X.data.toList = [UInt8.ofNat 128, UInt8.ofNat (n / 1 % 256)] by rw [hX])
  rw [← hX] at hnum
  have hXs : X.size ≤ 70368744177664 := by rw [hX]; show 2 ≤ 70368744177664; omega
  have hQ : ∀ (W : World) (b : Nat), RdT 57 b X false W → Calls Try.prog 18 #[.pointer (some ⟨b, 0, none⟩)] W fun e w' => e = .returned (.int .u64 0) ∧ RdT 57 b ByteArray.empty true w' ∧ W.grownBy w' (some b) := by
    intro W b hb
    have h := num_any b (X, false) W ⟨hXs, fun h => by cases h⟩ hb
    rw [hnum] at h
    exact h
  have HN := Lib.hid hN
  have HQ := Lib.hid hQ
  clear hb hhd hnum hwide hW hq hN hQ hrd hX hXs
  generalize numS n = R at *
  have o0 : bits .or .u8 0 128 = 128 := by decide +kernel
  have ot : bits .or .u8 128 ((n : Int) / 256) = 128 := by
    rw [show (n : Int) / 256 = ((0 : Nat) : Int) by omega]
    decide +kernel
  have hmk : ∀ W : World, (Instr.makeSlice 45 (.int .i64 2) (.int .i64 2)).run Try.prog W = .ok (.slice (some ⟨W.heap.size, 0, none⟩) 2 2) (W.alloc (.cells #[.int .u8 0, .int .u8 0] 5 (0, 0))) := fun W => by kernel_rfl
  go_enter Try.func7, Try.ntmps7
  obtain ⟨s1, st1⟩ := st
  cases st1
  all_goals
    go_wp2_with fail
    clear hT
    refine (new_any _ _).mono ?_
    rintro e w1 ⟨rfl, h1⟩
    have N1 : RdT 57 w.heap.size T false w1 := by rw [← h1]; exact RdT.new _ _ _ _
    have b1 : Below w.heap.size w w1 := by rw [← h1]; exact (Below.refl _ _).alloc (Nat.le_refl _) _
    clear h1
    go_wp2_with fail
    refine (HN.out _ _ N1).mono ?_
    rintro e w2 ⟨rfl, n2, g2⟩
    have N2 := Lib.hid n2
    have B2 := Lib.hid (below_grown b1 g2 b1.size (Nat.le_refl _))
    clear n2 g2 b1 N1
    go_wp2_with fail
    refine (ok_any _ _ _ _ N2.out).mono ?_
    rintro e w3 ⟨rfl, rfl⟩
  · obtain ⟨t1, t2⟩ := hfirst (by first | rfl | trivial)
    have hn9 := numS_size m
    generalize numS m = M at *
    go_wp2_with fail
    refine (HM.out _).mono ?_
    rintro e w4 ⟨rfl, b4⟩
    have B4 := Lib.hid (below_then B2.out b4 B2.out.size)
    clear b4
    go_wp2_with fail
    refine (HP.out _).mono ?_
    rintro e w5 ⟨rfl, b5⟩
    have B5 := Lib.hid (below_then B4.out b5 B4.out.size)
    clear b5
    go_wp2_with fail
    refine (HB.out _ _ (congrArg _ (HH.out (by omega)))).mono ?_
    rintro e w6 ⟨rfl, rfl⟩
    go_wp2_with fail
    refine wp_loop_rounds 2 ?_
    rw [rounds_succ]
    go_wp2_with fail
    go_region
    go_wp2_with fail
    rw [rounds_succ]
    go_wp2_with fail
    refine wp_loop_rounds 2 ?_
    rw [rounds_succ]
    go_wp2_with fail
    rw [rounds_succ]
    go_wp2_with fail
    rw [conv_bytes _ 45 9 5 ⟨w5.heap.size, 0, none⟩ 2 2 [128, (n : Int)] X
      Try.underlying45 Try.underlying5 Try.underlying9 rfl ?d1 ?d2]
    case d1 =>
      intro j v h
      have hj : j < 2 := by
        have := (List.getElem?_eq_some_iff.1 h).1
        simpa using this
      have hj : j = 0 ∨ j = 1 := by omega
      rcases hj with rfl | rfl
      all_goals
        simp only [List.map_cons, List.getElem?_cons_zero, List.getElem?_cons_succ, Option.some.injEq] at h
        subst h
        simp only [Addr.add]
        go_simp
    case d2 =>
      rw [HX.out]
      simp only [List.map_cons, List.map_nil]
      refine congr (congrArg List.cons (congrArg UInt8.ofNat (by omega))) ?_ ;refine congr (congrArg List.cons (congrArg UInt8.ofNat (by omega))) ?_ ; rfl
    go_wp2_with fail
    refine (new_rd _ _).mono ?_
    rintro e w7 ⟨rfl, n7, b7⟩
    have S5 := B5.out.size
    have N7 := Lib.hid (show RdT 57 (w5.heap.size + 1) X false w7 by simpa using n7)
    have B7 := Lib.hid (below_then (show Below w.heap.size w _ from by go_grown; exact B5.out) b7 (by simp; omega))
    clear b7 n7
    go_wp2_with fail
    refine (HQ.out _ _ N7.out).mono ?_
    rintro e w8 ⟨rfl, n8, g8⟩
    have B8 := Lib.hid (below_grown B7.out g8 B7.out.size (by omega))
    have N8 := Lib.hid n8
    clear g8 n8
    go_wp2_with fail
    refine (ok_any _ _ _ _ N8.out).mono ?_
    rintro e w9 ⟨rfl, rfl⟩
    go_wp2_with fail
    refine (works_any _).mono ?_
    rintro e w9 ⟨rfl, b9⟩
    go_wp2_with fail
    go_ret
    exact ⟨rfl, below_then B8.out b9 B8.out.size⟩
  · go_wp2_with fail
    refine (HP.out _).mono ?_
    rintro e w5 ⟨rfl, b5⟩
    have B5 := Lib.hid (below_then B2.out b5 B2.out.size)
    clear b5
    go_wp2_with fail
    refine (HB.out _ _ (congrArg _ (HH.out (by omega)))).mono ?_
    rintro e w6 ⟨rfl, rfl⟩
    go_wp2_with fail
    refine wp_loop_rounds 2 ?_
    rw [rounds_succ]
    go_wp2_with fail
    go_region
    go_wp2_with fail
    rw [rounds_succ]
    go_wp2_with fail
    refine wp_loop_rounds 2 ?_
    rw [rounds_succ]
    go_wp2_with fail
    rw [rounds_succ]
    go_wp2_with fail
    rw [conv_bytes _ 45 9 5 ⟨w5.heap.size, 0, none⟩ 2 2 [128, (n : Int)] X
      Try.underlying45 Try.underlying5 Try.underlying9 rfl ?d1 ?d2]
    case d1 =>
      intro j v h
      have hj : j < 2 := by
        have := (List.getElem?_eq_some_iff.1 h).1
        simpa using this
      have hj : j = 0 ∨ j = 1 := by omega
      rcases hj with rfl | rfl
      all_goals
        simp only [List.map_cons, List.getElem?_cons_zero, List.getElem?_cons_succ, Option.some.injEq] at h
        subst h
        simp only [Addr.add]
        go_simp
    case d2 =>
      rw [HX.out]
      simp only [List.map_cons, List.map_nil]
      refine congr (congrArg List.cons (congrArg UInt8.ofNat (by omega))) ?_ ;refine congr (congrArg List.cons (congrArg UInt8.ofNat (by omega))) ?_ ; rfl
    go_wp2_with fail
    refine (new_rd _ _).mono ?_
    rintro e w7 ⟨rfl, n7, b7⟩
    have S5 := B5.out.size
    have N7 := Lib.hid (show RdT 57 (w5.heap.size + 1) X false w7 by simpa using n7)
    have B7 := Lib.hid (below_then (show Below w.heap.size w _ from by go_grown; exact B5.out) b7 (by simp; omega))
    clear b7 n7
    go_wp2_with fail
    refine (HQ.out _ _ N7.out).mono ?_
    rintro e w8 ⟨rfl, n8, g8⟩
    have B8 := Lib.hid (below_grown B7.out g8 B7.out.size (by omega))
    have N8 := Lib.hid n8
    clear g8 n8
    go_wp2_with fail
    refine (ok_any _ _ _ _ N8.out).mono ?_
    rintro e w9 ⟨rfl, rfl⟩
    go_wp2_with fail
    refine (works_any _).mono ?_
    rintro e w9 ⟨rfl, b9⟩
    go_wp2_with fail
    go_ret
    exact ⟨rfl, below_then B8.out b9 B8.out.size⟩

set_option maxHeartbeats 2000000 in
theorem least_1 (s : ByteArray) (hs : s.size ≤ 9223372036854775807) (n : Nat) (hl : 128 ≤ n) (hh : n ≤ 16383) (w : World)
    (T : ByteArray) (hT : s.extract 0 (min (s.size : Int) 20).toNat = T) (hTs : T.size ≤ 20) (m : Nat) (st : RdS) (hrd : rdNum (T, false) = (m, st)) (hst : RdOk st) (hm : m ≤ 18446744073709551615)
    (hfirst : st.2 = false → ((T.extract 0 (numS m).size).toList == (numS m).toList) = true ∧ (numS m).size ≤ T.size) :
    Calls Try.prog 7 #[.string s, .int .u64 (n : Int)] w fun e w' => e = .returned (.bool true) ∧ Below w.heap.size w w' := by
  have hq : sortN n = 1 := by
    unfold sortN; repeat' split
    all_goals omega
  have hR : (numS n).size = 2 := by rw [numS_size', hq]
  have hwide := readN_wide n (by omega)
  rw [hq] at hwide
  have hW : (UInt8.ofNat (256 - 2 ^ (7 - 1)) :: beL (1 + 1) n) = [UInt8.ofNat 192, UInt8.ofNat (n / 256 % 256), UInt8.ofNat (n / 1 % 256)] := by simp [beL]
  rw [hW] at hwide
  have hnum : rdNum (⟨#[UInt8.ofNat 192, UInt8.ofNat (n / 256 % 256), UInt8.ofNat (n / 1 % 256)]⟩, false) = (0, (ByteArray.empty, true)) := by
    unfold rdNum
    rw [if_neg (by simp)]
    simp only
    rw [hwide]
  have hb : ∀ (W : World) (x : Int), x = ((numS n).data.toList.head!.toNat : Int) → Calls Try.prog 28 #[.int .u8 x] W fun e w' => e = .returned (.int .i64 1) ∧ W = w' := by
    rintro W x rfl
    have hf := firstB_facts n (by omega)
    have e : (numS n).data.toList.head!.toNat = firstB n := by
      show (UInt8.ofNat (firstB n)).toNat = firstB n
      rw [UInt8.toNat_ofNat']; omega
    have h := behind_any (firstB n) hf.1 W
    rw [hf.2.1, hq] at h
    rw [e]; exact h
  have hhd : ∀ h0 : 0 < (numS n).size, (numS n)[0].toNat = (numS n).data.toList.head!.toNat := fun _ => rfl
  have HB := Lib.hid hb
  have HH := Lib.hid hhd
  have HP := Lib.hid (putsN n (by omega))
  have HM := Lib.hid (putsN m hm)
  have hN : ∀ (W : World) (b : Nat), RdT 57 b T false W → Calls Try.prog 18 #[.pointer (some ⟨b, 0, none⟩)] W fun e w' => e = .returned (.int .u64 (m : Int)) ∧ RdT 57 b st.1 st.2 w' ∧ W.grownBy w' (some b) := by
    intro W b hb
    have h := num_any b (T, false) W ⟨by simp only; omega, fun h => by cases h⟩ hb
    rw [hrd] at h
    exact h
  obtain ⟨X, hX⟩ : ∃ X : ByteArray, X = ⟨#[UInt8.ofNat 192, UInt8.ofNat (n / 256 % 256), UInt8.ofNat (n / 1 % 256)]⟩ := ⟨_, rfl⟩
  have HX := Lib.hid (show X.data.toList = [UInt8.ofNat 192, UInt8.ofNat (n / 256 % 256), UInt8.ofNat (n / 1 % 256)] by rw [hX])
  rw [← hX] at hnum
  have hXs : X.size ≤ 70368744177664 := by rw [hX]; show 3 ≤ 70368744177664; omega
  have hQ : ∀ (W : World) (b : Nat), RdT 57 b X false W → Calls Try.prog 18 #[.pointer (some ⟨b, 0, none⟩)] W fun e w' => e = .returned (.int .u64 0) ∧ RdT 57 b ByteArray.empty true w' ∧ W.grownBy w' (some b) := by
    intro W b hb
    have h := num_any b (X, false) W ⟨hXs, fun h => by cases h⟩ hb
    rw [hnum] at h
    exact h
  have HN := Lib.hid hN
  have HQ := Lib.hid hQ
  clear hb hhd hnum hwide hW hq hN hQ hrd hX hXs
  generalize numS n = R at *
  have o0 : bits .or .u8 0 128 = 128 := by decide +kernel
  have o1 : bits .or .u8 128 64 = 192 := by decide +kernel
  have ot : bits .or .u8 192 ((n : Int) / 256 / 256) = 192 := by
    rw [show (n : Int) / 256 / 256 = ((0 : Nat) : Int) by omega]
    decide +kernel
  have hmk : ∀ W : World, (Instr.makeSlice 45 (.int .i64 3) (.int .i64 3)).run Try.prog W = .ok (.slice (some ⟨W.heap.size, 0, none⟩) 3 3) (W.alloc (.cells #[.int .u8 0, .int .u8 0, .int .u8 0] 5 (0, 0))) := fun W => by kernel_rfl
  go_enter Try.func7, Try.ntmps7
  obtain ⟨s1, st1⟩ := st
  cases st1
  all_goals
    go_wp2_with fail
    clear hT
    refine (new_any _ _).mono ?_
    rintro e w1 ⟨rfl, h1⟩
    have N1 : RdT 57 w.heap.size T false w1 := by rw [← h1]; exact RdT.new _ _ _ _
    have b1 : Below w.heap.size w w1 := by rw [← h1]; exact (Below.refl _ _).alloc (Nat.le_refl _) _
    clear h1
    go_wp2_with fail
    refine (HN.out _ _ N1).mono ?_
    rintro e w2 ⟨rfl, n2, g2⟩
    have N2 := Lib.hid n2
    have B2 := Lib.hid (below_grown b1 g2 b1.size (Nat.le_refl _))
    clear n2 g2 b1 N1
    go_wp2_with fail
    refine (ok_any _ _ _ _ N2.out).mono ?_
    rintro e w3 ⟨rfl, rfl⟩
  · obtain ⟨t1, t2⟩ := hfirst (by first | rfl | trivial)
    have hn9 := numS_size m
    generalize numS m = M at *
    go_wp2_with fail
    refine (HM.out _).mono ?_
    rintro e w4 ⟨rfl, b4⟩
    have B4 := Lib.hid (below_then B2.out b4 B2.out.size)
    clear b4
    go_wp2_with fail
    refine (HP.out _).mono ?_
    rintro e w5 ⟨rfl, b5⟩
    have B5 := Lib.hid (below_then B4.out b5 B4.out.size)
    clear b5
    go_wp2_with fail
    refine (HB.out _ _ (congrArg _ (HH.out (by omega)))).mono ?_
    rintro e w6 ⟨rfl, rfl⟩
    go_wp2_with fail
    refine wp_loop_rounds 3 ?_
    rw [rounds_succ]
    go_wp2_with fail
    go_region
    go_wp2_with fail
    rw [rounds_succ]
    go_wp2_with fail
    go_region
    go_wp2_with fail
    rw [rounds_succ]
    go_wp2_with fail
    refine wp_loop_rounds 3 ?_
    rw [rounds_succ]
    go_wp2_with fail
    rw [rounds_succ]
    go_wp2_with fail
    rw [rounds_succ]
    go_wp2_with fail
    rw [conv_bytes _ 45 9 5 ⟨w5.heap.size, 0, none⟩ 3 3 [192, (n : Int) / 256, (n : Int) % 256] X
      Try.underlying45 Try.underlying5 Try.underlying9 rfl ?d1 ?d2]
    case d1 =>
      intro j v h
      have hj : j < 3 := by
        have := (List.getElem?_eq_some_iff.1 h).1
        simpa using this
      have hj : j = 0 ∨ j = 1 ∨ j = 2 := by omega
      rcases hj with rfl | rfl | rfl
      all_goals
        simp only [List.map_cons, List.getElem?_cons_zero, List.getElem?_cons_succ, Option.some.injEq] at h
        subst h
        simp only [Addr.add]
        go_simp
    case d2 =>
      rw [HX.out]
      simp only [List.map_cons, List.map_nil]
      refine congr (congrArg List.cons (congrArg UInt8.ofNat (by omega))) ?_ ;refine congr (congrArg List.cons (congrArg UInt8.ofNat (by omega))) ?_ ;refine congr (congrArg List.cons (congrArg UInt8.ofNat (by omega))) ?_ ; rfl
    go_wp2_with fail
    refine (new_rd _ _).mono ?_
    rintro e w7 ⟨rfl, n7, b7⟩
    have S5 := B5.out.size
    have N7 := Lib.hid (show RdT 57 (w5.heap.size + 1) X false w7 by simpa using n7)
    have B7 := Lib.hid (below_then (show Below w.heap.size w _ from by go_grown; exact B5.out) b7 (by simp; omega))
    clear b7 n7
    go_wp2_with fail
    refine (HQ.out _ _ N7.out).mono ?_
    rintro e w8 ⟨rfl, n8, g8⟩
    have B8 := Lib.hid (below_grown B7.out g8 B7.out.size (by omega))
    have N8 := Lib.hid n8
    clear g8 n8
    go_wp2_with fail
    refine (ok_any _ _ _ _ N8.out).mono ?_
    rintro e w9 ⟨rfl, rfl⟩
    go_wp2_with fail
    refine (works_any _).mono ?_
    rintro e w9 ⟨rfl, b9⟩
    go_wp2_with fail
    go_ret
    exact ⟨rfl, below_then B8.out b9 B8.out.size⟩
  · go_wp2_with fail
    refine (HP.out _).mono ?_
    rintro e w5 ⟨rfl, b5⟩
    have B5 := Lib.hid (below_then B2.out b5 B2.out.size)
    clear b5
    go_wp2_with fail
    refine (HB.out _ _ (congrArg _ (HH.out (by omega)))).mono ?_
    rintro e w6 ⟨rfl, rfl⟩
    go_wp2_with fail
    refine wp_loop_rounds 3 ?_
    rw [rounds_succ]
    go_wp2_with fail
    go_region
    go_wp2_with fail
    rw [rounds_succ]
    go_wp2_with fail
    go_region
    go_wp2_with fail
    rw [rounds_succ]
    go_wp2_with fail
    refine wp_loop_rounds 3 ?_
    rw [rounds_succ]
    go_wp2_with fail
    rw [rounds_succ]
    go_wp2_with fail
    rw [rounds_succ]
    go_wp2_with fail
    rw [conv_bytes _ 45 9 5 ⟨w5.heap.size, 0, none⟩ 3 3 [192, (n : Int) / 256, (n : Int) % 256] X
      Try.underlying45 Try.underlying5 Try.underlying9 rfl ?d1 ?d2]
    case d1 =>
      intro j v h
      have hj : j < 3 := by
        have := (List.getElem?_eq_some_iff.1 h).1
        simpa using this
      have hj : j = 0 ∨ j = 1 ∨ j = 2 := by omega
      rcases hj with rfl | rfl | rfl
      all_goals
        simp only [List.map_cons, List.getElem?_cons_zero, List.getElem?_cons_succ, Option.some.injEq] at h
        subst h
        simp only [Addr.add]
        go_simp
    case d2 =>
      rw [HX.out]
      simp only [List.map_cons, List.map_nil]
      refine congr (congrArg List.cons (congrArg UInt8.ofNat (by omega))) ?_ ;refine congr (congrArg List.cons (congrArg UInt8.ofNat (by omega))) ?_ ;refine congr (congrArg List.cons (congrArg UInt8.ofNat (by omega))) ?_ ; rfl
    go_wp2_with fail
    refine (new_rd _ _).mono ?_
    rintro e w7 ⟨rfl, n7, b7⟩
    have S5 := B5.out.size
    have N7 := Lib.hid (show RdT 57 (w5.heap.size + 1) X false w7 by simpa using n7)
    have B7 := Lib.hid (below_then (show Below w.heap.size w _ from by go_grown; exact B5.out) b7 (by simp; omega))
    clear b7 n7
    go_wp2_with fail
    refine (HQ.out _ _ N7.out).mono ?_
    rintro e w8 ⟨rfl, n8, g8⟩
    have B8 := Lib.hid (below_grown B7.out g8 B7.out.size (by omega))
    have N8 := Lib.hid n8
    clear g8 n8
    go_wp2_with fail
    refine (ok_any _ _ _ _ N8.out).mono ?_
    rintro e w9 ⟨rfl, rfl⟩
    go_wp2_with fail
    refine (works_any _).mono ?_
    rintro e w9 ⟨rfl, b9⟩
    go_wp2_with fail
    go_ret
    exact ⟨rfl, below_then B8.out b9 B8.out.size⟩

set_option maxHeartbeats 2000000 in
theorem least_2 (s : ByteArray) (hs : s.size ≤ 9223372036854775807) (n : Nat) (hl : 16384 ≤ n) (hh : n ≤ 2097151) (w : World)
    (T : ByteArray) (hT : s.extract 0 (min (s.size : Int) 20).toNat = T) (hTs : T.size ≤ 20) (m : Nat) (st : RdS) (hrd : rdNum (T, false) = (m, st)) (hst : RdOk st) (hm : m ≤ 18446744073709551615)
    (hfirst : st.2 = false → ((T.extract 0 (numS m).size).toList == (numS m).toList) = true ∧ (numS m).size ≤ T.size) :
    Calls Try.prog 7 #[.string s, .int .u64 (n : Int)] w fun e w' => e = .returned (.bool true) ∧ Below w.heap.size w w' := by
  have hq : sortN n = 2 := by
    unfold sortN; repeat' split
    all_goals omega
  have hR : (numS n).size = 3 := by rw [numS_size', hq]
  have hwide := readN_wide n (by omega)
  rw [hq] at hwide
  have hW : (UInt8.ofNat (256 - 2 ^ (7 - 2)) :: beL (2 + 1) n) = [UInt8.ofNat 224, UInt8.ofNat (n / 65536 % 256), UInt8.ofNat (n / 256 % 256), UInt8.ofNat (n / 1 % 256)] := by simp [beL]
  rw [hW] at hwide
  have hnum : rdNum (⟨#[UInt8.ofNat 224, UInt8.ofNat (n / 65536 % 256), UInt8.ofNat (n / 256 % 256), UInt8.ofNat (n / 1 % 256)]⟩, false) = (0, (ByteArray.empty, true)) := by
    unfold rdNum
    rw [if_neg (by simp)]
    simp only
    rw [hwide]
  have hb : ∀ (W : World) (x : Int), x = ((numS n).data.toList.head!.toNat : Int) → Calls Try.prog 28 #[.int .u8 x] W fun e w' => e = .returned (.int .i64 2) ∧ W = w' := by
    rintro W x rfl
    have hf := firstB_facts n (by omega)
    have e : (numS n).data.toList.head!.toNat = firstB n := by
      show (UInt8.ofNat (firstB n)).toNat = firstB n
      rw [UInt8.toNat_ofNat']; omega
    have h := behind_any (firstB n) hf.1 W
    rw [hf.2.1, hq] at h
    rw [e]; exact h
  have hhd : ∀ h0 : 0 < (numS n).size, (numS n)[0].toNat = (numS n).data.toList.head!.toNat := fun _ => rfl
  have HB := Lib.hid hb
  have HH := Lib.hid hhd
  have HP := Lib.hid (putsN n (by omega))
  have HM := Lib.hid (putsN m hm)
  have hN : ∀ (W : World) (b : Nat), RdT 57 b T false W → Calls Try.prog 18 #[.pointer (some ⟨b, 0, none⟩)] W fun e w' => e = .returned (.int .u64 (m : Int)) ∧ RdT 57 b st.1 st.2 w' ∧ W.grownBy w' (some b) := by
    intro W b hb
    have h := num_any b (T, false) W ⟨by simp only; omega, fun h => by cases h⟩ hb
    rw [hrd] at h
    exact h
  obtain ⟨X, hX⟩ : ∃ X : ByteArray, X = ⟨#[UInt8.ofNat 224, UInt8.ofNat (n / 65536 % 256), UInt8.ofNat (n / 256 % 256), UInt8.ofNat (n / 1 % 256)]⟩ := ⟨_, rfl⟩
  have HX := Lib.hid (show X.data.toList = [UInt8.ofNat 224, UInt8.ofNat (n / 65536 % 256), UInt8.ofNat (n / 256 % 256), UInt8.ofNat (n / 1 % 256)] by rw [hX])
  rw [← hX] at hnum
  have hXs : X.size ≤ 70368744177664 := by rw [hX]; show 4 ≤ 70368744177664; omega
  have hQ : ∀ (W : World) (b : Nat), RdT 57 b X false W → Calls Try.prog 18 #[.pointer (some ⟨b, 0, none⟩)] W fun e w' => e = .returned (.int .u64 0) ∧ RdT 57 b ByteArray.empty true w' ∧ W.grownBy w' (some b) := by
    intro W b hb
    have h := num_any b (X, false) W ⟨hXs, fun h => by cases h⟩ hb
    rw [hnum] at h
    exact h
  have HN := Lib.hid hN
  have HQ := Lib.hid hQ
  clear hb hhd hnum hwide hW hq hN hQ hrd hX hXs
  generalize numS n = R at *
  have o0 : bits .or .u8 0 128 = 128 := by decide +kernel
  have o1 : bits .or .u8 128 64 = 192 := by decide +kernel
  have o2 : bits .or .u8 192 32 = 224 := by decide +kernel
  have ot : bits .or .u8 224 ((n : Int) / 256 / 256 / 256) = 224 := by
    rw [show (n : Int) / 256 / 256 / 256 = ((0 : Nat) : Int) by omega]
    decide +kernel
  have hmk : ∀ W : World, (Instr.makeSlice 45 (.int .i64 4) (.int .i64 4)).run Try.prog W = .ok (.slice (some ⟨W.heap.size, 0, none⟩) 4 4) (W.alloc (.cells #[.int .u8 0, .int .u8 0, .int .u8 0, .int .u8 0] 5 (0, 0))) := fun W => by kernel_rfl
  go_enter Try.func7, Try.ntmps7
  obtain ⟨s1, st1⟩ := st
  cases st1
  all_goals
    go_wp2_with fail
    clear hT
    refine (new_any _ _).mono ?_
    rintro e w1 ⟨rfl, h1⟩
    have N1 : RdT 57 w.heap.size T false w1 := by rw [← h1]; exact RdT.new _ _ _ _
    have b1 : Below w.heap.size w w1 := by rw [← h1]; exact (Below.refl _ _).alloc (Nat.le_refl _) _
    clear h1
    go_wp2_with fail
    refine (HN.out _ _ N1).mono ?_
    rintro e w2 ⟨rfl, n2, g2⟩
    have N2 := Lib.hid n2
    have B2 := Lib.hid (below_grown b1 g2 b1.size (Nat.le_refl _))
    clear n2 g2 b1 N1
    go_wp2_with fail
    refine (ok_any _ _ _ _ N2.out).mono ?_
    rintro e w3 ⟨rfl, rfl⟩
  · obtain ⟨t1, t2⟩ := hfirst (by first | rfl | trivial)
    have hn9 := numS_size m
    generalize numS m = M at *
    go_wp2_with fail
    refine (HM.out _).mono ?_
    rintro e w4 ⟨rfl, b4⟩
    have B4 := Lib.hid (below_then B2.out b4 B2.out.size)
    clear b4
    go_wp2_with fail
    refine (HP.out _).mono ?_
    rintro e w5 ⟨rfl, b5⟩
    have B5 := Lib.hid (below_then B4.out b5 B4.out.size)
    clear b5
    go_wp2_with fail
    refine (HB.out _ _ (congrArg _ (HH.out (by omega)))).mono ?_
    rintro e w6 ⟨rfl, rfl⟩
    go_wp2_with fail
    refine wp_loop_rounds 4 ?_
    rw [rounds_succ]
    go_wp2_with fail
    go_region
    go_wp2_with fail
    rw [rounds_succ]
    go_wp2_with fail
    go_region
    go_wp2_with fail
    rw [rounds_succ]
    go_wp2_with fail
    go_region
    go_wp2_with fail
    rw [rounds_succ]
    go_wp2_with fail
    refine wp_loop_rounds 4 ?_
    rw [rounds_succ]
    go_wp2_with fail
    rw [rounds_succ]
    go_wp2_with fail
    rw [rounds_succ]
    go_wp2_with fail
    rw [rounds_succ]
    go_wp2_with fail
    rw [conv_bytes _ 45 9 5 ⟨w5.heap.size, 0, none⟩ 4 4 [224, (n : Int) / 256 / 256, (n : Int) / 256 % 256, (n : Int) % 256] X
      Try.underlying45 Try.underlying5 Try.underlying9 rfl ?d1 ?d2]
    case d1 =>
      intro j v h
      have hj : j < 4 := by
        have := (List.getElem?_eq_some_iff.1 h).1
        simpa using this
      have hj : j = 0 ∨ j = 1 ∨ j = 2 ∨ j = 3 := by omega
      rcases hj with rfl | rfl | rfl | rfl
      all_goals
        simp only [List.map_cons, List.getElem?_cons_zero, List.getElem?_cons_succ, Option.some.injEq] at h
        subst h
        simp only [Addr.add]
        go_simp
    case d2 =>
      rw [HX.out]
      simp only [List.map_cons, List.map_nil]
      refine congr (congrArg List.cons (congrArg UInt8.ofNat (by omega))) ?_ ;refine congr (congrArg List.cons (congrArg UInt8.ofNat (by omega))) ?_ ;refine congr (congrArg List.cons (congrArg UInt8.ofNat (by omega))) ?_ ;refine congr (congrArg List.cons (congrArg UInt8.ofNat (by omega))) ?_ ; rfl
    go_wp2_with fail
    refine (new_rd _ _).mono ?_
    rintro e w7 ⟨rfl, n7, b7⟩
    have S5 := B5.out.size
    have N7 := Lib.hid (show RdT 57 (w5.heap.size + 1) X false w7 by simpa using n7)
    have B7 := Lib.hid (below_then (show Below w.heap.size w _ from by go_grown; exact B5.out) b7 (by simp; omega))
    clear b7 n7
    go_wp2_with fail
    refine (HQ.out _ _ N7.out).mono ?_
    rintro e w8 ⟨rfl, n8, g8⟩
    have B8 := Lib.hid (below_grown B7.out g8 B7.out.size (by omega))
    have N8 := Lib.hid n8
    clear g8 n8
    go_wp2_with fail
    refine (ok_any _ _ _ _ N8.out).mono ?_
    rintro e w9 ⟨rfl, rfl⟩
    go_wp2_with fail
    refine (works_any _).mono ?_
    rintro e w9 ⟨rfl, b9⟩
    go_wp2_with fail
    go_ret
    exact ⟨rfl, below_then B8.out b9 B8.out.size⟩
  · go_wp2_with fail
    refine (HP.out _).mono ?_
    rintro e w5 ⟨rfl, b5⟩
    have B5 := Lib.hid (below_then B2.out b5 B2.out.size)
    clear b5
    go_wp2_with fail
    refine (HB.out _ _ (congrArg _ (HH.out (by omega)))).mono ?_
    rintro e w6 ⟨rfl, rfl⟩
    go_wp2_with fail
    refine wp_loop_rounds 4 ?_
    rw [rounds_succ]
    go_wp2_with fail
    go_region
    go_wp2_with fail
    rw [rounds_succ]
    go_wp2_with fail
    go_region
    go_wp2_with fail
    rw [rounds_succ]
    go_wp2_with fail
    go_region
    go_wp2_with fail
    rw [rounds_succ]
    go_wp2_with fail
    refine wp_loop_rounds 4 ?_
    rw [rounds_succ]
    go_wp2_with fail
    rw [rounds_succ]
    go_wp2_with fail
    rw [rounds_succ]
    go_wp2_with fail
    rw [rounds_succ]
    go_wp2_with fail
    rw [conv_bytes _ 45 9 5 ⟨w5.heap.size, 0, none⟩ 4 4 [224, (n : Int) / 256 / 256, (n : Int) / 256 % 256, (n : Int) % 256] X
      Try.underlying45 Try.underlying5 Try.underlying9 rfl ?d1 ?d2]
    case d1 =>
      intro j v h
      have hj : j < 4 := by
        have := (List.getElem?_eq_some_iff.1 h).1
        simpa using this
      have hj : j = 0 ∨ j = 1 ∨ j = 2 ∨ j = 3 := by omega
      rcases hj with rfl | rfl | rfl | rfl
      all_goals
        simp only [List.map_cons, List.getElem?_cons_zero, List.getElem?_cons_succ, Option.some.injEq] at h
        subst h
        simp only [Addr.add]
        go_simp
    case d2 =>
      rw [HX.out]
      simp only [List.map_cons, List.map_nil]
      refine congr (congrArg List.cons (congrArg UInt8.ofNat (by omega))) ?_ ;refine congr (congrArg List.cons (congrArg UInt8.ofNat (by omega))) ?_ ;refine congr (congrArg List.cons (congrArg UInt8.ofNat (by omega))) ?_ ;refine congr (congrArg List.cons (congrArg UInt8.ofNat (by omega))) ?_ ; rfl
    go_wp2_with fail
    refine (new_rd _ _).mono ?_
    rintro e w7 ⟨rfl, n7, b7⟩
    have S5 := B5.out.size
    have N7 := Lib.hid (show RdT 57 (w5.heap.size + 1) X false w7 by simpa using n7)
    have B7 := Lib.hid (below_then (show Below w.heap.size w _ from by go_grown; exact B5.out) b7 (by simp; omega))
    clear b7 n7
    go_wp2_with fail
    refine (HQ.out _ _ N7.out).mono ?_
    rintro e w8 ⟨rfl, n8, g8⟩
    have B8 := Lib.hid (below_grown B7.out g8 B7.out.size (by omega))
    have N8 := Lib.hid n8
    clear g8 n8
    go_wp2_with fail
    refine (ok_any _ _ _ _ N8.out).mono ?_
    rintro e w9 ⟨rfl, rfl⟩
    go_wp2_with fail
    refine (works_any _).mono ?_
    rintro e w9 ⟨rfl, b9⟩
    go_wp2_with fail
    go_ret
    exact ⟨rfl, below_then B8.out b9 B8.out.size⟩
end Go.Proofs.Ythndmaeplnhmlaa
