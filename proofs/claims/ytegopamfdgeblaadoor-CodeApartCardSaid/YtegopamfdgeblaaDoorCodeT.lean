/- The walk of CodeApart. -/
import Derived.Test.YtegopamfdgeblaaDoorCodeTa
namespace Go.Proofs.YtegopamfdgeblaaDoor
open Go.RowKit
set_option linter.unusedVariables false
set_option linter.unusedSimpArgs false

/-- Have both the same length, and the same first k. -/
def eqTo (A B : List Ins) (k : Nat) : Bool := decide (A.length = B.length) && decide (A.take k = B.take k)
theorem eqTo_zero (A B : List Ins) : eqTo A B 0 = decide (A.length = B.length) := by simp [eqTo]
theorem eqTo_step (A B : List Ins) (k : Nat) (ha : k < A.length) (hb : k < B.length) : eqTo A B (k + 1) = (eqTo A B k && decide (A[k] = B[k])) := by
  unfold eqTo
  rw [Bool.and_assoc]
  congr 1
  rw [List.take_add_one, List.take_add_one, List.getElem?_eq_getElem ha, List.getElem?_eq_getElem hb, ← Bool.decide_and, decide_eq_decide]
  constructor
  · intro h
    have := List.append_inj' h (by simp)
    exact ⟨this.1, by simpa using this.2⟩
  · rintro ⟨h1, h2⟩
    rw [h1, h2]
theorem eqTo_end (A B : List Ins) (k : Nat) (h : A.length ≤ k ∨ B.length ≤ k) : eqTo A B k = decide (A = B) := by
  unfold eqTo
  rw [← Bool.decide_and, decide_eq_decide]
  constructor
  · rintro ⟨h1, h2⟩
    rwa [List.take_of_length_le (by omega), List.take_of_length_le (by omega)] at h2
  · rintro rfl
    exact ⟨rfl, rfl⟩
theorem beq_nat (m n : Nat) : ((m : Int) == (n : Int)) = decide (m = n) := by
  by_cases h : m = n
  · subst h; simp
  · have h2 : (m : Int) ≠ (n : Int) := by omega
    rw [decide_eq_false h]
    exact beq_eq_false_iff_ne.2 h2
set_option maxRecDepth 100000 in
set_option maxHeartbeats 4000000 in
theorem walk_CodeApart (a b : Option Addr) (l1 l2 cap1 cap2 : Nat) (L1 L2 : List Ins) (w : World) (h1 : IsC w a cap1 L1) (hl1 : L1.length = l1) (hr1 : InR L1) (h2 : IsC w b cap2 L2) (hl2 : L2.length = l2) (hr2 : InR L2) (hT : Tabs w) :
    Calls Tryd.prog 7 #[.slice a l1 cap1, .slice b l2 cap2] w fun e w' => e = .returned (.bool true) ∧ Below w.heap.size w w' := by
  have hcap1 := h1.1
  have hcm1 := h1.2.1
  have hcap2 := h2.1
  have hcm2 := h2.2.1
  have HT := Lib.hid hT
  have HC1 := Lib.hid (h1.take 40)
  have HC2 := Lib.hid (h2.take 40)
  have HR1 := Lib.hid (hr1.take 40)
  have HR2 := Lib.hid (hr2.take 40)
  obtain ⟨m, hm⟩ : ∃ k, k = min l1 40 := ⟨_, rfl⟩
  obtain ⟨n, hn⟩ : ∃ k, k = min l2 40 := ⟨_, rfl⟩
  have HA := Lib.hid (show (L1.take 40).length = m by rw [List.length_take, hm, hl1]; omega)
  have HB' := Lib.hid (show (L2.take 40).length = n by rw [List.length_take, hn, hl2]; omega)
  have hm40 : m ≤ 40 := by omega
  have hn40 : n ≤ 40 := by omega
  have hmin1 : min (l1 : Int) 40 = (m : Int) := by omega
  have hmin2 : min (l2 : Int) 40 = (n : Int) := by omega
  have hml : m ≤ l1 := by omega
  have hnl : n ≤ l2 := by omega
  rw [hl1] at hcap1
  rw [hl2] at hcap2
  have hmc : m ≤ cap1 := by omega
  have hnc : n ≤ cap2 := by omega
  obtain ⟨A, hA⟩ : ∃ D, D = L1.take 40 := ⟨_, rfl⟩
  obtain ⟨B, hB⟩ : ∃ D, D = L2.take 40 := ⟨_, rfl⟩
  rw [← hA] at HC1 HR1 HA
  rw [← hB] at HC2 HR2 HB'
  have HAL := Lib.hid (show A.length ≤ 1000 by rw [HA.out]; omega)
  have HBL := Lib.hid (show B.length ≤ 1000 by rw [HB'.out]; omega)
  obtain ⟨x, hx⟩ : ∃ r, chk A 2 40 = r := ⟨_, rfl⟩
  obtain ⟨y, hy⟩ : ∃ r, chk B 2 40 = r := ⟨_, rfl⟩
  have HX := Lib.hid hx
  have HY := Lib.hid hy
  clear hm hn h1 h2 hr1 hr2 hT hl1 hl2 hA hB hx hy
  by_cases hx0 : x = 0
  · by_cases hy0 : y = 0
    · subst hx0 hy0
      obtain ⟨S1, hS1⟩ : ∃ S, bytesS (textL A) = S := ⟨_, rfl⟩
      obtain ⟨S2, hS2⟩ : ∃ S, bytesS (textL B) = S := ⟨_, rfl⟩
      have HS1 := Lib.hid hS1
      have HS2 := Lib.hid hS2
      have HEQ := Lib.hid (show decide (A = B) = (S1.toList == S2.toList) by
        have e1 : S1.toList = textL A := by rw [← hS1, ByteArray.toList_eq]; simp [bytesS]
        have e2 : S2.toList = textL B := by rw [← hS2, ByteArray.toList_eq]; simp [bytesS]
        rw [e1, e2, Bool.eq_iff_iff, decide_eq_true_eq, beq_iff_eq]
        constructor
        · rintro rfl; rfl
        · exact textL_inj A B (fun x hx => one_op ((chk_ok HX.out).2.2.2 x hx)) (fun x hx => one_op ((chk_ok HY.out).2.2.2 x hx)))
      have HE0 := Lib.hid (eqTo_zero A B)
      rw [HA.out, HB'.out] at HE0
      clear hS1 hS2
      go_enter Tryd.func7, Tryd.ntmps7
      go_wp2_with fail
      refine (works_any _ HT.out).mono ?_
      rintro e w1 ⟨rfl, b1⟩
      have HB1 := Lib.hid b1
      clear b1
      go_wp2_with fail
      refine (check_at _ _ _ _ HA.out _ _ _ HX.out _ (HC1.out.next HB1.out)).mono ?_
      rintro e w2 ⟨rfl, b2⟩
      have HB2 := Lib.hid (below_then' HB1.out b2 HB1.out.size)
      clear b2
      go_wp2_with fail
      refine (check_at _ _ _ _ HB'.out _ _ _ HY.out _ (HC2.out.next HB2.out)).mono ?_
      rintro e w3 ⟨rfl, b3⟩
      have HB3 := Lib.hid (below_then' HB2.out b3 HB2.out.size)
      clear b3
      go_wp2_with fail
      go_loopw [5, 6] (fun s q wr => ∃ k : Nat, s = .bool (eqTo A B k) ∧ q = .int .i64 (k : Int) ∧ k ≤ m ∧ k ≤ n ∧ Below w.heap.size w wr) (fun _ q _ => m - (intOf q).toNat)
      case atStart => exact ⟨0, by rw [HE0.out, ← beq_nat], rfl, Nat.zero_le _, Nat.zero_le _, HB3.out⟩
      case round =>
        obtain ⟨k, rfl, rfl, hk1, hk2, hbw⟩ := hrel
        have HB := Lib.hid hbw
        clear hbw
        by_cases hlt : k < m
        · by_cases hlt2 : k < n
          · obtain ⟨b1, off1, x, hx, rfl, x0, x1, x2⟩ := (HC1.out.next HB.out).at k (by rw [HA.out]; exact hlt)
            obtain ⟨b2, off2, y, hy, rfl, y0, y1, y2⟩ := (HC2.out.next HB.out).at k (by rw [HB'.out]; exact hlt2)
            have HS := Lib.hid (eqTo_step A B k (by rw [HA.out]; exact hlt) (by rw [HB'.out]; exact hlt2))
            rw [← hx, ← hy] at HS
            clear hx hy
            obtain ⟨s, hs⟩ : ∃ s, eqTo A B k = s := ⟨_, rfl⟩
            rw [hs] at HS ⊢
            clear hs
            cases s
            · go_wp2_with fail
              go_quiet (fail)
              go_wp2_with fail
              go_roundw
              case rel => exact ⟨k + 1, by rw [HS.out]; rfl, by go_num, by omega, by omega, below_draws HB.out _⟩
              case measure => simp [intOf]; omega
            · have hq := fun W => equal_ins x y W
              obtain ⟨r, hr⟩ : ∃ r, decide (x = y) = r := ⟨_, rfl⟩
              rw [hr] at hq HS
              clear hr
              obtain ⟨xo, xa, xb⟩ := x
              obtain ⟨yo, ya, yb⟩ := y
              dsimp only at hq
              go_wp2_with fail
              go_quiet (fail)
              go_wp2_with fail
              go_roundw
              case rel => exact ⟨k + 1, by rw [HS.out]; rfl, by go_num, by omega, by omega, below_draws HB.out _⟩
              case measure => simp [intOf]; omega
          · have HV := Lib.hid (show eqTo A B k = (S1.toList == S2.toList) by rw [← HEQ.out]; exact eqTo_end A B k (by rw [HA.out, HB'.out]; omega))
            obtain ⟨s, hs⟩ : ∃ s, eqTo A B k = s := ⟨_, rfl⟩
            rw [hs] at HV ⊢
            clear hs HEQ
            go_wp2_with fail
            refine (text_at _ _ _ _ HA.out _ HS1.out _ (HC1.out.next HB.out) HR1.out HAL.out (HT.out.next HB.out)).mono ?_
            rintro e w4 ⟨rfl, b4⟩
            have HB4 := Lib.hid (below_then' HB.out b4 HB.out.size)
            clear b4
            go_wp2_with fail
            refine (text_at _ _ _ _ HB'.out _ HS2.out _ (HC2.out.next HB4.out) HR2.out HBL.out (HT.out.next HB4.out)).mono ?_
            rintro e w5 ⟨rfl, b5⟩
            have HB5 := Lib.hid (below_then' HB4.out b5 HB4.out.size)
            clear b5
            go_wp2_with fail
            go_ret
            exact ⟨bool_ret (by rw [HV.out]; simp), HB5.out⟩
        · have HV := Lib.hid (show eqTo A B k = (S1.toList == S2.toList) by rw [← HEQ.out]; exact eqTo_end A B k (by rw [HA.out, HB'.out]; omega))
          obtain ⟨s, hs⟩ : ∃ s, eqTo A B k = s := ⟨_, rfl⟩
          rw [hs] at HV ⊢
          clear hs HEQ
          go_wp2_with fail
          refine (text_at _ _ _ _ HA.out _ HS1.out _ (HC1.out.next HB.out) HR1.out HAL.out (HT.out.next HB.out)).mono ?_
          rintro e w4 ⟨rfl, b4⟩
          have HB4 := Lib.hid (below_then' HB.out b4 HB.out.size)
          clear b4
          go_wp2_with fail
          refine (text_at _ _ _ _ HB'.out _ HS2.out _ (HC2.out.next HB4.out) HR2.out HBL.out (HT.out.next HB4.out)).mono ?_
          rintro e w5 ⟨rfl, b5⟩
          have HB5 := Lib.hid (below_then' HB4.out b5 HB4.out.size)
          clear b5
          go_wp2_with fail
          go_ret
          exact ⟨bool_ret (by rw [HV.out]; simp), HB5.out⟩
    · subst hx0
      go_enter Tryd.func7, Tryd.ntmps7
      go_wp2_with fail
      refine (works_any _ HT.out).mono ?_
      rintro e w1 ⟨rfl, b1⟩
      have HB1 := Lib.hid b1
      clear b1
      go_wp2_with fail
      refine (check_at _ _ _ _ HA.out _ _ _ HX.out _ (HC1.out.next HB1.out)).mono ?_
      rintro e w2 ⟨rfl, b2⟩
      have HB2 := Lib.hid (below_then' HB1.out b2 HB1.out.size)
      clear b2
      go_wp2_with fail
      refine (check_at _ _ _ _ HB'.out _ _ _ HY.out _ (HC2.out.next HB2.out)).mono ?_
      rintro e w3 ⟨rfl, b3⟩
      have HB3 := Lib.hid (below_then' HB2.out b3 HB2.out.size)
      clear b3
      go_wp2_with fail
      go_ret
      exact ⟨rfl, HB3.out⟩
  · go_enter Tryd.func7, Tryd.ntmps7
    go_wp2_with fail
    refine (works_any _ HT.out).mono ?_
    rintro e w1 ⟨rfl, b1⟩
    have HB1 := Lib.hid b1
    clear b1
    go_wp2_with fail
    refine (check_at _ _ _ _ HA.out _ _ _ HX.out _ (HC1.out.next HB1.out)).mono ?_
    rintro e w2 ⟨rfl, b2⟩
    have HB2 := Lib.hid (below_then' HB1.out b2 HB1.out.size)
    clear b2
    go_wp2_with fail
    go_ret
    exact ⟨rfl, HB2.out⟩
end Go.Proofs.YtegopamfdgeblaaDoor
