/- DealTurned: the walk. -/
import Derived.Test.YtibacoffnkbbbaaDealM
namespace Go.Proofs.Ytibacoffnkbbbaa
open Go.RowKit
set_option linter.unusedVariables false

theorem permRow_at (n : Nat) (h1 : 1 ≤ n) (h2 : n ≤ 4096) (a : Option Addr) (l c : Nat) (L : List Int) (w : World) (hL : IsL w a c L) (hl : L.length = l) (M : List Int) (u : Nat) (hp : permN n L = (M, u)) :
    Calls Try.prog 8 #[.int .i64 (n : Int), .slice a l c] w fun e w' => ∃ g c', e = .returned (.tuple #[.slice (some ⟨g, 0, none⟩) n c', .int .i64 (u : Int)]) ∧ RowI w' w.heap.size g c' M ∧ Below w.heap.size w w' := by
  subst hl
  refine (perm_some n h1 h2 a c L w hL).mono ?_
  rintro e w' ⟨g, c', rfl, hR, hB⟩
  rw [hp] at hR ⊢
  exact ⟨g, c', rfl, hR, hB⟩
theorem fillL_same (n : Nat) : fillL (fillN n 0) 0 = fillN n 0 := by
  rw [fillL_zero, fillN_len n 0 (Nat.zero_le _), fillN_zero]
set_option maxRecDepth 100000 in
set_option maxHeartbeats 2000000 in
theorem turned_none (a b : Option Addr) (c m d : Nat) (P : List Int) (w : World) (hcm : c ≤ 9223372036854775807) (hP : IsL w b d P) (hm : P.length = m) :
    Calls Try.prog 6 #[.slice a 0 c, .slice b m d] w fun e w' => e = .returned (.bool true) ∧ Below w.heap.size w w' := by
  have hmd : m ≤ d := by rw [← hm]; exact hP.1
  have hdm := hP.2.1
  clear hP hm
  have hmin : min (0 : Int) 40 = 0 := by decide
  by_cases h3 : 60 < m
  all_goals
    go_enter Try.func6, Try.ntmps6
    go_wp2_with (go_at_call 12; refine (turned_at none none 0 0 0 0 [] [] _ (IsL.nil _) (IsL.nil _) rfl rfl (by decide) [] 0 (by decide +kernel) rfl).mono ?_; rintro e w1 ⟨a1, c1, rfl, hi1, hb1⟩)
    have B1 := Lib.hid hb1
    clear hi1 hb1
    go_wp2_with (go_at_call 11; refine (works_any _).mono ?_; rintro e w4 ⟨rfl, hb4⟩)
    have B4 := Lib.hid (B1.out.trans (hb4.mono B1.out.size))
    clear hb4
    go_wp2_with fail
    go_ret
    exact ⟨rfl, B4.out⟩
set_option maxRecDepth 100000 in
set_option maxHeartbeats 4000000 in
theorem turned_some (a b : Option Addr) (l c m d : Nat) (L P : List Int) (w : World) (hL : IsL w a c L) (hl : L.length = l) (hP : IsL w b d P) (hm : P.length = m) (h0 : 0 < l) :
    Calls Try.prog 6 #[.slice a l c, .slice b m d] w fun e w' => e = .returned (.bool true) ∧ Below w.heap.size w w' := by
  have hlc : l ≤ c := by rw [← hl]; exact hL.1
  have hcm := hL.2.1
  have hmd : m ≤ d := by rw [← hm]; exact hP.1
  have hdm := hP.2.1
  obtain ⟨i0, hi, hz0, hz1, hz2⟩ := info_parts intInfo
  obtain ⟨k, hk⟩ : ∃ k, min l 40 = k := ⟨_, rfl⟩
  obtain ⟨q, hq⟩ : ∃ q, min m 60 = q := ⟨_, rfl⟩
  have hD := hL.take 40
  have hDl : (L.take 40).length = k := by rw [List.length_take, hl]; omega
  have hE := hP.take 60
  have hEl : (P.take 60).length = q := by rw [List.length_take, hm]; omega
  generalize L.take 40 = D at *
  generalize P.take 60 = E at *
  have hk40 : k ≤ 40 := by omega
  have hk1 : 1 ≤ k := by omega
  obtain ⟨M, u, hp⟩ : ∃ M u, permN k E = (M, u) := ⟨_, _, rfl⟩
  have hMP : isP M k = true := by have := permN_isP k E; rw [hp] at this; exact this
  have hMl : M.length = k := isP_len hMP
  have HD := Lib.hid hD
  have HDl := Lib.hid hDl
  have HE := Lib.hid hE
  have HEl := Lib.hid hEl
  have HP := Lib.hid hp
  have HMP := Lib.hid hMP
  have HMl := Lib.hid hMl
  have HT := Lib.hid (turnI_isP hDl hMP)
  obtain ⟨T, hT⟩ : ∃ T, turnL D M = T := ⟨_, rfl⟩
  have hTl : T.length = k := by rw [← hT, turnL_len, hMl]
  have hTa : ∀ j, j < k → T.getD j 0 = D.getD (M.getD j 0).toNat 0 := fun j hj => by rw [← hT]; exact turnL_at D M j (by omega)
  have HTM := Lib.hid hT
  have HTl := Lib.hid hTl
  have HTa := Lib.hid hTa
  clear hL hl hD hDl hP hm hE hEl hp hMP hMl hT hTl hTa
  have hmin1 : (if (40 : Int) < (l : Int) then (40 : Int) else (l : Int)) = (k : Int) := by split <;> omega
  have hmin2 : (if (60 : Int) < (m : Int) then (60 : Int) else (m : Int)) = (q : Int) := by split <;> omega
  have hkl : k ≤ l := by omega
  have hkc : k ≤ c := by omega
  have hqm : q ≤ m := by omega
  have hqd : q ≤ d := by omega
  clear hk hq
  go_enter Try.func6, Try.ntmps6
  go_wp2_with (go_at_call 8; refine (permRow_at _ hk1 (by omega) _ _ _ E _ HE.out HEl.out M u HP.out).mono ?_; rintro e w1 ⟨g, c1, rfl, hR1, hb1⟩)
  have B1 := Lib.hid hb1
  have R1 := Lib.hid hR1
  have D1 := Lib.hid (HD.out.next hb1)
  have hgl := hR1.lt.1
  clear hR1 hb1
  go_wp2_with (first
    | (go_at_call 12; refine (turned_at _ _ _ _ _ _ D M _ D1.out R1.out.isL HDl.out HMl.out (by omega) T _ (HT.out.trans HTM.out) HTl.out).mono ?_; rintro e w2 ⟨a2, c2, rfl, hi2, hb2⟩)
    | (at_make; refine wpList_make_full _ rfl _ _ 22 rfl w2.heap.size 3 i0 (.int .i64 0) 1 Try.underlying22 hi hz0 hz1 .i64 .i64 _ _ k rfl rfl rfl rfl (by rw [hz2]; omega) (by unfold maxLen; omega) (Nat.le_refl _) ?_; intro w3 hown hgrow))
  rw [made_zero1 k (fillN k 0) (fillN_len k 0 (by omega)), fillL_same] at hown
  have B2 := Lib.hid (B1.out.trans (hb2.mono B1.out.size))
  have R2 := Lib.hid (R1.out.next hb2)
  have I2 := Lib.hid hi2
  have hgs := (R1.out.next hb2).lt.2
  have hc2 := hi2.1
  have hcm2 := hi2.2.1
  rw [HTl.out] at hc2
  have hw2 := B2.out.size
  clear hi2 hb2
  have hR3 : RowI w3 w2.heap.size w2.heap.size k (fillN k 0) := by unfold RowI; rw [fillN_len k 0 (by omega)]; exact hown
  have R3 := Lib.hid hR3
  have C3 := Lib.hid ((Below.refl w2.heap.size w2).grown hgrow (Nat.le_refl _) (fun k e => by cases e))
  clear hR3 hown hgrow
  go_wp2_with fail
  go_loopw [9] (fun q wr => ∃ (i : Nat) (B : List Int), i ≤ k ∧ q = .int .i64 (i : Int) ∧ B.length = k ∧ Back M B i ∧ RowI wr w2.heap.size w2.heap.size k B ∧ Below w2.heap.size w2 wr) (fun q _ => k - (intOf q).toNat)
  case atStart => exact ⟨0, fillN k 0, Nat.zero_le _, rfl, fillN_len k 0 (by omega), fun j hj => by omega, R3.out, C3.out⟩
  case round =>
    obtain ⟨i, B, hik, rfl, hBl, hBk, hRB, hC⟩ := hrel
    have KB := Lib.hid hBk
    have RB := Lib.hid hRB
    have CB := Lib.hid hC
    have LB := Lib.hid hBl
    clear hBk hRB hC hBl
    by_cases hlt : i < k
    · have hxr := isP_at HMP.out i hlt
      have hcx := (R2.out.next CB.out).cell i (by rw [HMl.out]; exact hlt)
      obtain ⟨x, hx⟩ : ∃ x, M.getD i 0 = x := ⟨_, rfl⟩
      have hst := KB.out.step HMP.out LB.out hlt
      rw [hx] at hxr hcx hst
      have hty := HTa.out i hlt
      rw [hx] at hty
      obtain ⟨b2, o2, rfl, hct⟩ := (I2.out.next CB.out).at i (by rw [HTl.out]; exact hlt)
      obtain ⟨bd, od, rfl, hcd⟩ := (HD.out.next (B2.out.trans (CB.out.mono hw2))).at x.toNat (by rw [HDl.out]; omega)
      rw [hty] at hct
      obtain ⟨y, hy⟩ : ∃ y, D.getD x.toNat 0 = y := ⟨_, rfl⟩
      rw [hy] at hct hcd
      have hcb := RB.out.cell x.toNat (by rw [LB.out]; omega)
      have hfb := RB.out.free x.toNat
      have ST := Lib.hid hst
      clear hx hst hty hy
      have hx0 := hxr.1
      have hx1 := hxr.2
      clear hxr
      go_wp2_with fail
      go_quiet (fail)
      go_wp2_with fail
      go_roundw
      case rel => exact ⟨i + 1, B.set x.toNat (i : Int), by omega, by go_num, by rw [List.length_set]; exact LB.out, ST.out, (RB.out.drew _).set _ _, (below_draws CB.out _).setCell (p := ⟨w2.heap.size, x.toNat, none⟩) (Nat.le_refl _) _⟩
      case measure => simp [intOf]; omega
    · have hik' : i = k := by omega
      have BKP := Lib.hid (show Back M B k by rw [← hik']; exact KB.out)
      have CW := Lib.hid (B2.out.trans (CB.out.mono hw2))
      have DW := Lib.hid (HD.out.next (B2.out.trans (CB.out.mono hw2)))
      have IW := Lib.hid (I2.out.next CB.out)
      have RW := Lib.hid (R2.out.next CB.out)
      have hTB := Back.turned HDl.out HMP.out LB.out BKP.out
      rw [HTM.out] at hTB
      have HTB := Lib.hid hTB
      have hfz := (R2.out.next CB.out).free 0
      have hc0 := (R2.out.next CB.out).cell 0 (by rw [HMl.out]; omega)
      clear hTB
      subst hik'
      have h4096 : i ≤ 4096 := by clear hmin1 hmin2; omega
      have hT5 := turned_at _ _ _ _ _ _ T B wr IW.out RB.out.isL HTl.out LB.out h4096 D _ HTB.out HDl.out
      go_wp2_with (go_at_call 12; refine hT5.mono ?_; rintro e w5 ⟨a5, c5, rfl, hi5, hb5⟩)
      clear hT5 hfz hc0
      have C5 := Lib.hid (CW.out.trans (hb5.mono CW.out.size))
      have D5 := Lib.hid (DW.out.next hb5)
      have R5 := Lib.hid (RW.out.next hb5)
      have hA6 := alike_at _ _ _ _ _ _ D D w5 hi5 D5.out HDl.out HDl.out true (by simp)
      clear hi5 hb5
      go_wp2_with (go_at_call 10; refine hA6.mono ?_; rintro e w6 ⟨rfl, hb6⟩; have hf6 := (R5.out.next hb6).free 0; have hc6 := (R5.out.next hb6).cell 0 (by rw [HMl.out]; omega))
      clear hA6
      have C6 := Lib.hid (C5.out.trans (hb6.mono C5.out.size))
      have hR6 := R5.out.next hb6
      have R7 := Lib.hid (hR6.set 0 (i : Int))
      have C7 := Lib.hid (C6.out.setCell (p := ⟨g, 0, none⟩) hgl (.int .i64 (i : Int)))
      have hN := turnI_not (L := D) (P := M.set 0 (i : Int)) (i : Int) (List.mem_iff_getElem.2 ⟨0, by rw [List.length_set, HMl.out]; omega, by simp⟩) (by rw [HDl.out]; omega)
      have hT7 := turned_at _ _ _ _ _ _ D (M.set 0 (i : Int)) (w6.setCell ⟨g, 0, none⟩ (.int .i64 (i : Int))) (HD.out.next C7.out) R7.out.isL HDl.out (show _ = i by rw [List.length_set]; exact HMl.out) h4096 [] 0 hN rfl
      clear hb6 hR6 hN
      go_wp2_with (first
        | (go_at_call 12; refine hT7.mono ?_; rintro e w8 ⟨a8, c8, rfl, hi8, hb8⟩)
        | (go_at_call 11; refine (works_any _).mono ?_; rintro e w9 ⟨rfl, hb9⟩))
      have C8 := Lib.hid (C7.out.trans (hb8.mono C7.out.size))
      have C9 := Lib.hid (C8.out.trans (hb9.mono C8.out.size))
      clear hb8 hb9 hi8
      go_wp2_with fail
      go_ret
      exact ⟨rfl, C9.out⟩
theorem law_DealTurned (a b : Option Addr) (l c m d : Nat) (w : World) (h : ∃ L : List Int, L.length = l ∧ IsL w a c L) (k : ∃ P : List Int, P.length = m ∧ IsL w b d P) :
    Calls Try.prog 6 #[.slice a l c, .slice b m d] w fun e w' => e = .returned (.bool true) ∧ Below w.heap.size w w' := by
  obtain ⟨L, hl, hL⟩ := h
  obtain ⟨P, hm, hP⟩ := k
  by_cases h0 : l = 0
  · subst h0
    exact turned_none a b c m d P w hL.2.1 hP hm
  · exact turned_some a b l c m d L P w hL hl hP hm (by omega)
end Go.Proofs.Ytibacoffnkbbbaa
