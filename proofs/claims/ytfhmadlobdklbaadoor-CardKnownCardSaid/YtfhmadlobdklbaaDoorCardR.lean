/- The document's answer: Check. -/
import Derived.Test.YtfhmadlobdklbaaDoorCardP
namespace Go.Proofs.YtfhmadlobdklbaaDoor
open Go.RowKit
set_option linter.unusedVariables false
set_option linter.unusedSimpArgs false

def refFitB (s : Bool) (cards : Int) (t : AbT) : Bool := refAbilB s (chk t.2.2 t.1.tn cards == 0) (aimsB t.2.1 && decide (t.1.tn ≤ 2)) t.1
def refBaseB (y : Cd) : Bool := !y.nm.toList.isEmpty && (refBodyB y && (!(y.k == 3) || ((y.an : Int) == 1)))
/-- What the document's Check tells. -/
def refChkC (y : Cd) (A : List AbT) (cards : Int) : Int := if btw 0 40 cards then (if longB y A then 3 else if refBaseB y && A.all (refFitB (y.k == 3) cards) then 0 else 10) else 2
/-- How far the document's Check has looked: k abilities; is something too long? -/
def LongAt (y : Cd) (A : List AbT) (v q : Value) : Prop := ∃ (k : Nat) (l : Bool), v = .bool l ∧ q = .int .i64 (k : Int) ∧ k ≤ y.an ∧ l = ((decide (16 < y.nm.size) || decide (4 < y.an)) || (A.take k).any longA)
/-- Likewise: may all that was looked at be? -/
def FitAt (w W : World) (y : Cd) (A : List AbT) (cards : Int) (v q : Value) : Prop :=
  ∃ (k : Nat) (l : Bool), v = .bool l ∧ q = .int .i64 (k : Int) ∧ k ≤ y.an ∧ l = (refBaseB y && (A.take k).all (refFitB (y.k == 3) cards)) ∧ Below w.heap.size w W
theorem bool_int {a : Bool} {P : Prop} [Decidable P] (h : a = decide P) : Value.bool (decide P) = Value.bool a := by rw [h]
theorem longA_int (x : Ab) (T : List Int) (L : List Ins) : longA (x, T, L) = (decide ((2 : Int) < (x.tn : Int)) || decide ((32 : Int) < (x.cn : Int))) := by
  simp only [longA]
  rw [show decide (2 < x.tn) = decide ((2 : Int) < (x.tn : Int)) by simp only [decide_eq_decide]; omega, show decide (32 < x.cn) = decide ((32 : Int) < (x.cn : Int)) by simp only [decide_eq_decide]; omega]
theorem any_snoc {α : Type} (f : α → Bool) (A : List α) (k : Nat) (h : k < A.length) : (A.take (k + 1)).any f = ((A.take k).any f || f A[k]) := by
  rw [List.take_succ_eq_append_getElem h, List.any_append]; simp
theorem all_snoc {α : Type} (f : α → Bool) (A : List α) (k : Nat) (h : k < A.length) : (A.take (k + 1)).all f = ((A.take k).all f && f A[k]) := by
  rw [List.take_succ_eq_append_getElem h, List.all_append]; simp
set_option maxRecDepth 100000 in
set_option maxHeartbeats 8000000 in
theorem refCardCheck_any (y : Cd) (A : List AbT) (cards r : Int) (hr : refChkC y A cards = r) (w : World) (h : CdR w y A) (hy : y.nm.size ≤ maxLen) :
    Calls Tryd.prog 9 #[.agg #[.string y.nm, .int .i64 y.k, .int .i64 y.c0, .int .i64 y.c1, .int .i64 y.c2, .int .i64 y.c3, .int .i64 y.col, .int .i64 y.pow, .int .i64 y.tou, .int .i64 y.keys, .slice y.aa y.an y.ac], .int .i64 cards] w fun e w' => e = .returned (.int .i64 r) ∧ Below w.heap.size w w' := by
  unfold maxLen at hy
  have HR := Lib.hid hr
  have hb := below_alloc1 w (.cells #[.string y.nm, .int .i64 y.k, .int .i64 y.c0, .int .i64 y.c1, .int .i64 y.c2, .int .i64 y.c3, .int .i64 y.col, .int .i64 y.pow, .int .i64 y.tou, .int .i64 y.keys, .slice y.aa y.an y.ac] 26)
  have HA := Lib.hid (h.next hb)
  have HX := Lib.hid (boxC_new w y 26)
  have hcap := h.2.1
  have hcm := h.2.2.1
  rw [h.1] at hcap
  have HN := Lib.hid h.1
  have HW := Lib.hid hb
  clear hr h hb
  cases t1 : btw 0 40 cards
  · have HV := Lib.hid (show r = 2 by rw [← HR.out]; simp [refChkC, t1])
    have Ht1 := Lib.hid t1
    clear t1
    go_enter Tryd.func9, Tryd.ntmps9
    go_wp2_with fail
    refine (refIn_at _ _ _ false Ht1.out _).mono ?_
    rintro e w1 ⟨rfl, rfl⟩
    go_wp2_with fail
    go_ret
    exact ⟨int_ret HV.out.symm, HW.out⟩
  · have HE := Lib.hid (show r = if longB y A then 3 else if refBaseB y && A.all (refFitB (y.k == 3) cards) then 0 else 10 by rw [← HR.out]; simp [refChkC, t1])
    have Ht1 := Lib.hid t1
    clear t1
    have hs16 : ∃ b, decide (16 < y.nm.size) = b := ⟨_, rfl⟩
    obtain ⟨b16, hs16⟩ := hs16
    have H16 := Lib.hid hs16
    have h16 : decide ((16 : Int) < (y.nm.size : Int)) = b16 := by rw [← hs16]; simp only [decide_eq_decide]; omega
    clear hs16
    obtain ⟨b4, hs4⟩ : ∃ b, decide (4 < y.an) = b := ⟨_, rfl⟩
    have H4 := Lib.hid hs4
    have h4 : decide ((4 : Int) < (y.an : Int)) = b4 := by rw [← hs4]; simp only [decide_eq_decide]; omega
    clear hs4
    cases b16 <;> cases b4
    all_goals
      go_enter Tryd.func9, Tryd.ntmps9
      go_wp2_with fail
      refine (refIn_at _ _ _ true Ht1.out _).mono ?_
      rintro e w1 ⟨rfl, rfl⟩
      go_wp2_with fail
      generalize w.alloc (.cells #[.string y.nm, .int .i64 y.k, .int .i64 y.c0, .int .i64 y.c1, .int .i64 y.c2, .int .i64 y.c3, .int .i64 y.col, .int .i64 y.pow, .int .i64 y.tou, .int .i64 y.keys, .slice y.aa y.an y.ac] 26) = W at *
      obtain ⟨q0, q1, q2, q3, q4, q5, q6, q7, q8, q9, q10⟩ := HX.out.cells
      clear h16 h4
      go_loop [5, 6] (fun v q => LongAt y A v q) (fun _ q => y.an - (intOf q).toNat)
      case atStart => exact ⟨0, _, rfl, rfl, Nat.zero_le _, by rw [H16.out, H4.out]; simp⟩
      case round =>
        obtain ⟨k, l, rfl, rfl, hk, hl⟩ := hrel
        have HL := Lib.hid hl
        clear hl
        by_cases hlt : k < y.an
        · obtain ⟨b, off, x, T, L, hx, hab, hta, hbl, m0, m1, m2, m3, m4, m5, m6, m7, m8, m9, m10, m11, m12⟩ := HA.out.2.at k (by rw [HN.out]; exact hlt)
          have HY := Lib.hid hx
          have HS := Lib.hid (any_snoc longA A k (by rw [HN.out]; exact hlt))
          clear hab hx m0 m1 m2 m3 m4 m5 m6 m7 m10 m11 m12
          rw [hta] at q10
          go_wp2_with fail
          all_goals
            go_round
            case rel => exact ⟨k + 1, _, rfl, by go_num, by omega, by rw [HS.out, ← Bool.or_assoc, ← HL.out, ← HY.out, longA_int]; simp [*]⟩
            case measure => simp [intOf]; omega
        · have HLo := Lib.hid (show longB y A = l by
            have : A.take k = A := List.take_of_length_le (by have := HN.out; omega)
            rw [HL.out, this, longB, Bool.or_comm])
          have HE2 := Lib.hid (show r = if l then 3 else if refBaseB y && A.all (refFitB (y.k == 3) cards) then 0 else 10 by rw [HE.out, HLo.out])
          cases l
          · first
              | (exfalso
                 have := HL.out
                 rw [H16.out, H4.out] at this
                 simp at this
                 done)
              | skip
            all_goals
              cases h2 : y.nm.toList.isEmpty
              · have H2 := Lib.hid h2
                obtain ⟨b3, h3⟩ : ∃ b3, refBodyB y = b3 := ⟨_, rfl⟩
                have H3 := Lib.hid h3
                clear h3
                go_wp2_with fail
                clear h2
                refine (refBody_any y b3 H3.out _).mono ?_
                rintro e w1 ⟨rfl, hb⟩
                have HB1 := Lib.hid hb
                clear hb q0 q1 q2 q3 q4 q5 q6 q7 q8 q9 q10
                obtain ⟨q0, q1, q2, q3, q4, q5, q6, q7, q8, q9, q10⟩ := (HX.out.next HB1.out).cells
                cases b3
                · go_wp2_with fail
                  have HBs := Lib.hid (show refBaseB y = false by simp [refBaseB, H3.out])
                  clear q0 q1 q2 q3 q4 q5 q6 q7 q8 q9 q10
                  go_loopw [8, 9] (fun v q wr => FitAt W wr y A cards v q) (fun _ q _ => y.an - (intOf q).toNat)
                  case atStart => exact ⟨0, _, rfl, rfl, Nat.zero_le _, by rw [HBs.out]; simp, HB1.out⟩
                  case round =>
                    obtain ⟨k2, l2, rfl, rfl, hk2, hl2, hbw⟩ := hrel
                    have HL2 := Lib.hid hl2
                    have HW2 := Lib.hid hbw
                    clear hl2 hbw
                    obtain ⟨q0, q1, q2, q3, q4, q5, q6, q7, q8, q9, q10⟩ := (HX.out.next HW2.out).cells
                    by_cases hlt2 : k2 < y.an
                    · obtain rfl : l2 = false := by rw [HL2.out, HBs.out]; rfl
                      go_wp2_with fail
                      go_roundw
                      case rel => exact ⟨k2 + 1, _, rfl, by go_num, by omega, by rw [HBs.out]; rfl, HW2.out⟩
                      case measure => simp [intOf]; omega
                    · obtain rfl : l2 = false := by rw [HL2.out, HBs.out]; rfl
                      have HV := Lib.hid (show r = 10 by rw [HE2.out, HBs.out]; rfl)
                      go_wp2_with fail
                      go_ret
                      exact ⟨int_ret HV.out.symm, HW.out.trans (HW2.out.mono HW.out.size)⟩
                · cases hsp : (y.k == 3)
                  · have HSp := Lib.hid hsp
                    go_wp2_with fail
                    clear hsp
                    have HBs := Lib.hid (show refBaseB y = true by simp [refBaseB, H2.out, H3.out, HSp.out])
                    clear q0 q1 q2 q3 q4 q5 q6 q7 q8 q9 q10
                    go_loopw [8, 9] (fun v q wr => FitAt W wr y A cards v q) (fun _ q _ => y.an - (intOf q).toNat)
                    case atStart => exact ⟨0, _, rfl, rfl, Nat.zero_le _, by rw [HBs.out]; simp, HB1.out⟩
                    case round =>
                      obtain ⟨k2, l2, rfl, rfl, hk2, hl2, hbw⟩ := hrel
                      have HL2 := Lib.hid hl2
                      have HW2 := Lib.hid hbw
                      clear hl2 hbw
                      obtain ⟨q0, q1, q2, q3, q4, q5, q6, q7, q8, q9, q10⟩ := (HX.out.next HW2.out).cells
                      by_cases hlt2 : k2 < y.an
                      · have HS2 := Lib.hid (all_snoc (refFitB (y.k == 3) cards) A k2 (by rw [HN.out]; exact hlt2))
                        cases l2
                        · go_wp2_with fail
                          go_roundw
                          case rel => exact ⟨k2 + 1, _, rfl, by go_num, by omega, by rw [HS2.out, ← Bool.and_assoc, ← HL2.out]; rfl, HW2.out⟩
                          case measure => simp [intOf]; omega
                        · obtain ⟨b, off, x, T, L, hx, hab, hta, hbl, m0, m1, m2, m3, m4, m5, m6, m7, m8, m9, m10, m11, m12⟩ := (HA.out.2.next HW2.out).at k2 (by rw [HN.out]; exact hlt2)
                          have HY := Lib.hid hx
                          have HAb := Lib.hid hab
                          clear hx hab
                          obtain ⟨fb, hfb⟩ : ∃ fb, refAbilB false (chk L x.tn cards == 0) (aimsB T && decide (x.tn ≤ 2)) x = fb := ⟨_, rfl⟩
                          have HF := Lib.hid hfb
                          clear hfb
                          rw [hta] at q10
                          clear hta hbl
                          go_wp2_with fail
                          clear m0 m1 m2 m3 m4 m5 m6 m7 m8 m9 m10 m11 m12
                          refine (refAbil_any x T L false cards fb HF.out _ HAb.out).mono ?_
                          rintro e w4 ⟨rfl, hb⟩
                          have HW3 := Lib.hid (below_then' HW2.out hb HW2.out.size)
                          clear hb
                          go_wp2_with fail
                          go_roundw
                          case rel => exact ⟨k2 + 1, _, rfl, by go_num, by omega, by rw [HS2.out, ← Bool.and_assoc, ← HL2.out, ← HY.out, HSp.out]; exact HF.out.symm, HW3.out⟩
                          case measure => simp [intOf]; omega
                      · have HAll := Lib.hid (show (refBaseB y && A.all (refFitB (y.k == 3) cards)) = l2 by
                          have : A.take k2 = A := List.take_of_length_le (by have := HN.out; omega)
                          rw [HL2.out, this])
                        cases l2
                        · have HV := Lib.hid (show r = 10 by rw [HE2.out, HAll.out]; rfl)
                          go_wp2_with fail
                          go_ret
                          exact ⟨int_ret HV.out.symm, HW.out.trans (HW2.out.mono HW.out.size)⟩
                        · have HV := Lib.hid (show r = 0 by rw [HE2.out, HAll.out]; rfl)
                          go_wp2_with fail
                          go_ret
                          exact ⟨int_ret HV.out.symm, HW.out.trans (HW2.out.mono HW.out.size)⟩
                  · have HSp := Lib.hid hsp
                    cases han : ((y.an : Int) == 1)
                    · have Han := Lib.hid han
                      go_wp2_with fail
                      clear hsp han
                      have HBs := Lib.hid (show refBaseB y = false by rw [refBaseB, H2.out, H3.out, HSp.out, Han.out]; rfl)
                      clear q0 q1 q2 q3 q4 q5 q6 q7 q8 q9 q10
                      go_loopw [8, 9] (fun v q wr => FitAt W wr y A cards v q) (fun _ q _ => y.an - (intOf q).toNat)
                      case atStart => exact ⟨0, _, rfl, rfl, Nat.zero_le _, by rw [HBs.out]; simp, HB1.out⟩
                      case round =>
                        obtain ⟨k2, l2, rfl, rfl, hk2, hl2, hbw⟩ := hrel
                        have HL2 := Lib.hid hl2
                        have HW2 := Lib.hid hbw
                        clear hl2 hbw
                        obtain ⟨q0, q1, q2, q3, q4, q5, q6, q7, q8, q9, q10⟩ := (HX.out.next HW2.out).cells
                        by_cases hlt2 : k2 < y.an
                        · obtain rfl : l2 = false := by rw [HL2.out, HBs.out]; rfl
                          go_wp2_with fail
                          go_roundw
                          case rel => exact ⟨k2 + 1, _, rfl, by go_num, by omega, by rw [HBs.out]; rfl, HW2.out⟩
                          case measure => simp [intOf]; omega
                        · obtain rfl : l2 = false := by rw [HL2.out, HBs.out]; rfl
                          have HV := Lib.hid (show r = 10 by rw [HE2.out, HBs.out]; rfl)
                          go_wp2_with fail
                          go_ret
                          exact ⟨int_ret HV.out.symm, HW.out.trans (HW2.out.mono HW.out.size)⟩
                    · have Han := Lib.hid han
                      go_wp2_with fail
                      clear hsp han
                      have HBs := Lib.hid (show refBaseB y = true by rw [refBaseB, H2.out, H3.out, HSp.out, Han.out]; rfl)
                      clear q0 q1 q2 q3 q4 q5 q6 q7 q8 q9 q10
                      go_loopw [8, 9] (fun v q wr => FitAt W wr y A cards v q) (fun _ q _ => y.an - (intOf q).toNat)
                      case atStart => exact ⟨0, _, rfl, rfl, Nat.zero_le _, by rw [HBs.out]; simp, HB1.out⟩
                      case round =>
                        obtain ⟨k2, l2, rfl, rfl, hk2, hl2, hbw⟩ := hrel
                        have HL2 := Lib.hid hl2
                        have HW2 := Lib.hid hbw
                        clear hl2 hbw
                        obtain ⟨q0, q1, q2, q3, q4, q5, q6, q7, q8, q9, q10⟩ := (HX.out.next HW2.out).cells
                        by_cases hlt2 : k2 < y.an
                        · have HS2 := Lib.hid (all_snoc (refFitB (y.k == 3) cards) A k2 (by rw [HN.out]; exact hlt2))
                          cases l2
                          · go_wp2_with fail
                            go_roundw
                            case rel => exact ⟨k2 + 1, _, rfl, by go_num, by omega, by rw [HS2.out, ← Bool.and_assoc, ← HL2.out]; rfl, HW2.out⟩
                            case measure => simp [intOf]; omega
                          · obtain ⟨b, off, x, T, L, hx, hab, hta, hbl, m0, m1, m2, m3, m4, m5, m6, m7, m8, m9, m10, m11, m12⟩ := (HA.out.2.next HW2.out).at k2 (by rw [HN.out]; exact hlt2)
                            have HY := Lib.hid hx
                            have HAb := Lib.hid hab
                            clear hx hab
                            obtain ⟨fb, hfb⟩ : ∃ fb, refAbilB true (chk L x.tn cards == 0) (aimsB T && decide (x.tn ≤ 2)) x = fb := ⟨_, rfl⟩
                            have HF := Lib.hid hfb
                            clear hfb
                            rw [hta] at q10
                            clear hta hbl
                            go_wp2_with fail
                            clear m0 m1 m2 m3 m4 m5 m6 m7 m8 m9 m10 m11 m12
                            refine (refAbil_any x T L true cards fb HF.out _ HAb.out).mono ?_
                            rintro e w4 ⟨rfl, hb⟩
                            have HW3 := Lib.hid (below_then' HW2.out hb HW2.out.size)
                            clear hb
                            go_wp2_with fail
                            go_roundw
                            case rel => exact ⟨k2 + 1, _, rfl, by go_num, by omega, by rw [HS2.out, ← Bool.and_assoc, ← HL2.out, ← HY.out, HSp.out]; exact HF.out.symm, HW3.out⟩
                            case measure => simp [intOf]; omega
                        · have HAll := Lib.hid (show (refBaseB y && A.all (refFitB (y.k == 3) cards)) = l2 by
                            have : A.take k2 = A := List.take_of_length_le (by have := HN.out; omega)
                            rw [HL2.out, this])
                          cases l2
                          · have HV := Lib.hid (show r = 10 by rw [HE2.out, HAll.out]; rfl)
                            go_wp2_with fail
                            go_ret
                            exact ⟨int_ret HV.out.symm, HW.out.trans (HW2.out.mono HW.out.size)⟩
                          · have HV := Lib.hid (show r = 0 by rw [HE2.out, HAll.out]; rfl)
                            go_wp2_with fail
                            go_ret
                            exact ⟨int_ret HV.out.symm, HW.out.trans (HW2.out.mono HW.out.size)⟩
              · have H2 := Lib.hid h2
                go_wp2_with fail
                clear h2
                have HBs := Lib.hid (show refBaseB y = false by simp [refBaseB, H2.out])
                clear q0 q1 q2 q3 q4 q5 q6 q7 q8 q9 q10
                go_loopw [8, 9] (fun v q wr => FitAt W wr y A cards v q) (fun _ q _ => y.an - (intOf q).toNat)
                case atStart => exact ⟨0, _, rfl, rfl, Nat.zero_le _, by rw [HBs.out]; simp, Below.refl _ _⟩
                case round =>
                  obtain ⟨k2, l2, rfl, rfl, hk2, hl2, hbw⟩ := hrel
                  have HL2 := Lib.hid hl2
                  have HW2 := Lib.hid hbw
                  clear hl2 hbw
                  obtain ⟨q0, q1, q2, q3, q4, q5, q6, q7, q8, q9, q10⟩ := (HX.out.next HW2.out).cells
                  by_cases hlt2 : k2 < y.an
                  · obtain rfl : l2 = false := by rw [HL2.out, HBs.out]; rfl
                    go_wp2_with fail
                    go_roundw
                    case rel => exact ⟨k2 + 1, _, rfl, by go_num, by omega, by rw [HBs.out]; rfl, HW2.out⟩
                    case measure => simp [intOf]; omega
                  · obtain rfl : l2 = false := by rw [HL2.out, HBs.out]; rfl
                    have HV := Lib.hid (show r = 10 by rw [HE2.out, HBs.out]; rfl)
                    go_wp2_with fail
                    go_ret
                    exact ⟨int_ret HV.out.symm, HW.out.trans (HW2.out.mono HW.out.size)⟩
          · have HV := Lib.hid (show r = 3 by rw [HE2.out]; rfl)
            go_wp2_with fail
            go_ret
            exact ⟨int_ret HV.out.symm, HW.out⟩
end Go.Proofs.YtfhmadlobdklbaaDoor
