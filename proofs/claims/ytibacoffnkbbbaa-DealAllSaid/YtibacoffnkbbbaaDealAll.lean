/- DealAll: the walk. -/
import Derived.Test.YtibacoffnkbbbaaDealQ
namespace Go.Proofs.Ytibacoffnkbbbaa
open Go.RowKit
set_option linter.unusedVariables false

/-- Where it was found among the first k, or -1. -/
def fnd (j k : Nat) : Int := if j < k then (j : Int) else -1
theorem fnd_hit (j : Nat) : fnd j (j + 1) = (j : Int) := by unfold fnd; rw [if_pos (by omega)]
theorem fnd_miss (j k : Nat) (h : k ≠ j) : fnd j (k + 1) = fnd j k := by
  unfold fnd
  by_cases hj : j < k
  · rw [if_pos hj, if_pos (by omega)]
  · rw [if_neg hj, if_neg (by omega)]
theorem fnd_end (j k : Nat) (h : j < k) : fnd j k = (j : Int) := by unfold fnd; rw [if_pos h]
theorem fnd_start (j : Nat) : fnd j 0 = -1 := by unfold fnd; rw [if_neg (by omega)]
set_option maxRecDepth 100000 in
set_option maxHeartbeats 8000000 in
theorem walk_DealAll (n : Int) (hn : 0 ≤ n ∧ n ≤ 255) (b : Option Addr) (m' d : Nat) (P : List Int) (w : World) (hP : IsL w b d P) (hm' : P.length = m') :
    Calls Try.prog 5 #[.int .u8 n, .slice b m' d] w fun e w' => e = .returned (.bool true) ∧ Below w.heap.size w w' := by
  have hmd : m' ≤ d := by rw [← hm']; exact hP.1
  have hdm := hP.2.1
  obtain ⟨i0, hi, hz0, hz1, hz2⟩ := info_parts intInfo
  obtain ⟨j0, hj, hy0, hy1, hy2⟩ := info_parts boolInfo
  obtain ⟨q, hq⟩ : ∃ q, min m' 60 = q := ⟨_, rfl⟩
  have hE := hP.take 60
  have hEl : (P.take 60).length = q := by rw [List.length_take, hm']; omega
  generalize P.take 60 = E at *
  obtain ⟨y, hy⟩ : ∃ y : Nat, n.tmod 40 = (y : Int) := ⟨(n.tmod 40).toNat, by rw [Int.tmod_eq_emod_of_nonneg hn.1]; omega⟩
  have hy40 : y < 40 := by rw [Int.tmod_eq_emod_of_nonneg hn.1] at hy; omega
  obtain ⟨m, hm⟩ : ∃ m : Nat, 1 + (y : Int) = (m : Int) := ⟨1 + y, by omega⟩
  have hm1 : 1 ≤ m := by omega
  have hm40 : m ≤ 40 := by omega
  obtain ⟨M, u, hp⟩ : ∃ M u, permN m E = (M, u) := ⟨_, _, rfl⟩
  have hMP : isP M m = true := by have := permN_isP m E; rw [hp] at this; exact this
  have hMl : M.length = m := isP_len hMP
  have hu : u = min (m - 1) q := by have := permN_used m E; rw [hp, hEl] at this; exact this
  have hmin2 : (if (60 : Int) < (m' : Int) then (60 : Int) else (m' : Int)) = (q : Int) := by split <;> omega
  have hmin3 : (if (q : Int) < (m : Int) - 1 then (q : Int) else (m : Int) - 1) = (u : Int) := by split <;> omega
  have hqm : q ≤ m' := by omega
  have hqd : q ≤ d := by omega
  have HE := Lib.hid hE
  have HEl := Lib.hid hEl
  have HP := Lib.hid hp
  have HMP := Lib.hid hMP
  have HMl := Lib.hid hMl
  have HU := Lib.hid hu
  clear hP hm' hE hEl hp hMP hMl hq hu
  have HM := Lib.hid hm
  clear hm
  go_enter Try.func5, Try.ntmps5
  go_wp2_with fail
  rw [HM.out]
  have hP1 := permRow_at m hm1 (by omega) b q d E w HE.out HEl.out M u HP.out
  refine hP1.mono ?_
  rintro e w1 ⟨g, c1, rfl, hR1, hb1⟩
  clear hP1
  have B1 := Lib.hid hb1
  have R1 := Lib.hid hR1
  clear hR1 hb1
  go_wp2_with (at_make; refine wpList_make_full _ rfl _ _ 29 rfl w1.heap.size 4 j0 (.bool false) 1 Try.underlying29 hj hy0 hy1 .i64 .i64 _ _ m rfl rfl rfl rfl (by rw [hy2]; omega) (by unfold maxLen; omega) (Nat.le_refl _) ?_; intro w2 hown hgrow)
  rw [made_bools] at hown
  have hRS : RowB w2 w1.heap.size w1.heap.size m (List.replicate m false) := by unfold RowB; rw [List.length_replicate]; exact hown
  have RS := Lib.hid hRS
  have C2 := Lib.hid ((Below.refl w1.heap.size w1).grown hgrow (Nat.le_refl _) (fun k e => by cases e))
  clear hRS hown hgrow hmin2 hmin3
  go_loopw [9] (fun q wr => ∃ (i : Nat) (S : List Bool), i ≤ m ∧ q = .int .i64 (i : Int) ∧ S.length = m ∧ Fresh M S i ∧ RowB wr w1.heap.size w1.heap.size m S ∧ Below w1.heap.size w1 wr) (fun q _ => m - (intOf q).toNat)
  case atStart => exact ⟨0, List.replicate m false, Nat.zero_le _, rfl, List.length_replicate, Fresh.start M m, RS.out, C2.out⟩
  case round =>
    obtain ⟨i, S, him, rfl, hSl, hF, hRS, hC⟩ := hrel
    have LS := Lib.hid hSl
    have FS := Lib.hid hF
    have RS1 := Lib.hid hRS
    have C1 := Lib.hid hC
    clear hSl hF hRS hC
    by_cases hlt : i < m
    · have hxr := isP_at HMP.out i hlt
      have hcx := (R1.out.next C1.out).cell i (by rw [HMl.out]; exact hlt)
      have hfs := FS.out i (Nat.le_refl _) (by rw [HMl.out]; exact hlt)
      have hst := FS.out.step HMP.out hlt
      obtain ⟨x, hx⟩ : ∃ x, M.getD i 0 = x := ⟨_, rfl⟩
      rw [hx] at hxr hcx hfs hst
      have hcs := RS1.out.cell x.toNat (by rw [LS.out]; omega)
      rw [hfs] at hcs
      have hfr := RS1.out.free x.toNat
      have ST := Lib.hid hst
      have RS2 := Lib.hid (RS1.out.set x.toNat true)
      have C3 := Lib.hid (C1.out.setCell (p := ⟨w1.heap.size, x.toNat, none⟩) (Nat.le_refl _) (.bool true))
      have hx0 := hxr.1
      have hx1 := hxr.2
      clear hx hfs hst hxr
      go_wp2_with fail
      go_roundw
      case rel => exact ⟨i + 1, S.set x.toNat true, by omega, by go_num, by rw [List.length_set]; exact LS.out, ST.out, RS2.out, C3.out⟩
      case measure => simp [intOf]; omega
    · clear LS FS RS1
      go_wp2_with (at_make; refine wpList_make_full _ rfl _ _ 22 rfl wr.heap.size 3 i0 (.int .i64 0) 1 Try.underlying22 hi hz0 hz1 .i64 .i64 _ _ m rfl rfl rfl rfl (by rw [hz2]; omega) (by unfold maxLen; omega) (Nat.le_refl _) ?_; intro w3 hown hgrow)
      rw [made_zero1 m (fillN m 0) (fillN_len m 0 (by omega)), fillL_same] at hown
      have hRN : RowI w3 wr.heap.size wr.heap.size m (fillN m 0) := by unfold RowI; rw [fillN_len m 0 (by omega)]; exact hown
      have RN := Lib.hid hRN
      have hsz := C1.out.size
      have C3 := Lib.hid (C1.out.grown hgrow hsz (fun k e => by cases e))
      clear hRN hown hgrow him hlt RS C2
      obtain ⟨gn, hgn⟩ : ∃ gn, wr.heap.size = gn := ⟨_, rfl⟩
      rw [hgn] at RN hsz ⊢
      clear hgn C1
      go_loopw [11] (fun q wr => ∃ k : Nat, q = .int .i64 (k : Int) ∧ k ≤ m ∧ RowI wr gn gn m (fillN m k) ∧ Below w1.heap.size w1 wr) (fun q _ => m - (intOf q).toNat)
      case atStart => exact ⟨0, rfl, Nat.zero_le _, RN.out, C3.out⟩
      case round =>
        obtain ⟨k, rfl, hk, hR, hB⟩ := hrel
        have hfz := hR.free k
        by_cases hlt : k < m
        · have hc := hR.cell k (by rw [fillN_len m k hk]; exact hlt)
          have HR1 := Lib.hid (fillN_step m k hlt ▸ hR.set k (k : Int))
          have HB1 := Lib.hid (hB.setCell (p := ⟨gn, k, none⟩) hsz (.int .i64 (k : Int)))
          clear hR hB
          go_wp2_with fail
          go_roundw
          case rel => exact ⟨k + 1, by go_num, by omega, HR1.out, HB1.out⟩
          case measure => simp [intOf]; omega
        · have HR1 := Lib.hid (show RowI _ gn gn m (places m) by rw [show k = m by omega, fillN_full] at hR; exact hR)
          have HB1 := Lib.hid hB
          have hkm : m = k := by omega
          clear hR hB hfz hk hlt RN C3
          subst hkm
          go_wp2_with fail
          have hgl := HR1.out.lt.2
          have hws := HB1.out.size
          obtain ⟨bt, hbt⟩ : ∃ bt, wr.heap.size = bt := ⟨_, rfl⟩
          rw [hbt] at hgl hws
          go_loopw [12, 13] (fun v q ws => ∃ (i U : Nat) (T N : List Int), q = .int .i64 (i : Int) ∧ i < m ∧ Told m i T N ∧ permAt E i U N = (M, u) ∧ ws.ownsRow bt 3 1 v T.length (T.map (Value.int .i64)) ∧ RowI ws gn gn m N ∧ Below w1.heap.size w1 ws ∧ bt ≤ ws.heap.size) (fun _ q _ => (intOf q).toNat)
          case atStart => exact ⟨m - 1, 0, [], places m, int_eq (by omega), by omega, Told.start m hm1, HP.out, World.ownsRow_nil _ _ _ _, HR1.out, HB1.out, Nat.le_of_eq hbt.symm⟩
          case round =>
            obtain ⟨i, U, T, N, rfl, him, hTold, hperm, hown, hRN, hB, hbs⟩ := hrel
            generalize wr = ws at *
            have HT := Lib.hid hTold
            have HPM := Lib.hid hperm
            have HO := Lib.hid hown
            have RN := Lib.hid hRN
            have HB := Lib.hid hB
            have hTl := hTold.len
            have hNl := isP_len hTold.isP
            have HNl := Lib.hid hNl
            clear hTold hperm hown hRN hB HR1 HB1 hbt
            by_cases h0 : i = 0
            · subst h0
              have hNM : N = M := congrArg Prod.fst (show (N, U) = (M, u) from HPM.out)
              obtain ⟨u2, hp2⟩ : ∃ u2, permN m T = (M, u2) := ⟨(permN m T).2, Prod.ext (HT.out.done.trans hNM) rfl⟩
              obtain ⟨u3, hp3⟩ : ∃ u3, permN m (rounds m T T.length) = (M, u3) := ⟨(permN m (rounds m T T.length)).2, Prod.ext ((HT.out.round hm1).trans hNM) rfl⟩
              obtain ⟨a7, c7, rfl, hI7⟩ := own_isL HO.out
              obtain ⟨tl, htl⟩ : ∃ tl, T.length = tl := ⟨_, rfl⟩
              have htl40 : tl ≤ 39 := by omega
              rw [htl] at hp3
              have HTL := Lib.hid htl
              have IT := Lib.hid hI7
              have hIc := hI7.1
              have hIm := hI7.2.1
              rw [htl] at hIc
              have HP2 := Lib.hid hp2
              have HP3 := Lib.hid hp3
              have hlw := HT.out.low
              rw [htl] at hlw
              have HLW := Lib.hid hlw
              rw [htl]
              clear HO hTl hNl hNM hp2 hp3 htl hI7 hlw HT HPM HNl RN
              have hP7 := permRow_at m hm1 (by omega) a7 tl c7 T ws IT.out HTL.out M u2 HP2.out
              go_wp2_with (go_at_call 8; with_reducible refine hP7.mono ?_; rintro e w7 ⟨g7, c8, rfl, hR7, hb7⟩)
              have HB7 := Lib.hid (HB.out.trans (hb7.mono HB.out.size))
              have R7 := Lib.hid hR7
              have IT7 := Lib.hid (IT.out.next hb7)
              clear hP7 hR7 hb7
              go_loopw [19, 20] (fun v q wr => ∃ (k : Nat) (X : List Int), q = .int .i64 (k : Int) ∧ k ≤ tl ∧ X = rounds m T k ∧ X.length = k ∧ wr.ownsRow w7.heap.size 3 1 v X.length (X.map (Value.int .i64)) ∧ Below w7.heap.size w7 wr) (fun _ q _ => tl - (intOf q).toNat)
              case atStart => exact ⟨0, [], rfl, Nat.zero_le _, rfl, rfl, World.ownsRow_nil _ _ _ _, Below.refl _ _⟩
              case round =>
                obtain ⟨k, X, rfl, hk, hX, hXl, hown, hW⟩ := hrel
                have HX := Lib.hid hX
                have HXL := Lib.hid hXl
                have HO := Lib.hid hown
                have HW := Lib.hid hW
                clear hX hXl hown hW
                by_cases hlt : k < tl
                · have hlo := HLW.out k hlt
                  obtain ⟨bT, oT, rfl, hct⟩ := (IT7.out.next HW.out).at k (by rw [HTL.out]; exact hlt)
                  obtain ⟨t, ht⟩ : ∃ t, T.getD k 0 = t := ⟨_, rfl⟩
                  rw [ht] at hlo hct
                  have ht0 := hlo.1
                  have ht1 : t < 40 := by have := hlo.2; omega
                  obtain ⟨r, hr⟩ : ∃ r : Nat, (k : Int).tmod 3 = (r : Int) := ⟨k % 3, by rw [Int.tmod_eq_emod_of_nonneg (by omega)]; omega⟩
                  have hr3 : r < 3 := by rw [Int.tmod_eq_emod_of_nonneg (by omega)] at hr; omega
                  obtain ⟨p, hp⟩ : ∃ p, ((m : Int) - (k : Int)) * (1 + (r : Int)) = p := ⟨_, rfl⟩
                  have hp0 : 0 ≤ p ∧ p ≤ 120 := by
                    have : r = 0 ∨ r = 1 ∨ r = 2 := by omega
                    rcases this with rfl | rfl | rfl <;> omega
                  have HN := Lib.hid (show X ++ [t - p] = rounds m T (k + 1) by rw [rounds_succ', HX.out]; unfold roundOf; rw [ht, hr, hp])
                  clear ht hlo
                  rw [HXL.out] at HO
                  go_wp2_with (at_builtin; refine wpList_append_own _ rfl _ _ 22 rfl w7.heap.size 3 i0 (.int .i64 0) 1 8 Try.underlying22 hi hz0 hz1 hz2 rfl (by decide) _ k (X.map (Value.int .i64)) rfl (HO.out.alloc _) ⟨wr.heap.size, 0, none⟩ 1 1 [.int .i64 (t - p)] rfl rfl (cell_one_new _ _ _) (by simp [Value.oneCell']) (by unfold maxLen; omega) (by omega) (by have := HW.out.size; simp; omega) ?_)
                  intro v1 w8 hown1 hgrow hne
                  have HW1 := Lib.hid (grown_out HW.out HO.out hgrow)
                  have HO2 := Lib.hid hown1
                  obtain ⟨g1, cap1, rfl⟩ := own_shape hown1
                  clear hown1 hgrow hne
                  go_wp2_with fail
                  go_roundw
                  case rel => exact ⟨k + 1, X ++ [t - p], by go_num, by omega, HN.out, by rw [List.length_append, HXL.out]; rfl, by rw [List.length_append, HXL.out, List.map_append]; exact HO2.out, HW1.out⟩
                  case measure => simp [intOf]; omega
                · have hkt : tl = k := by omega
                  obtain ⟨a9, c9, rfl, hI9⟩ := own_isL HO.out
                  rw [HX.out, ← hkt] at hI9
                  rw [HXL.out]
                  have hc9 := hI9.1
                  have hm9 := hI9.2.1
                  rw [rounds_len] at hc9
                  have hP9 := permRow_at m hm1 (by omega) a9 k c9 (rounds m T tl) wr hI9 (by rw [rounds_len]; exact hkt) M u3 HP3.out
                  have R7' := Lib.hid (R7.out.next HW.out)
                  have HB9 := Lib.hid (HB7.out.trans (HW.out.mono HB7.out.size))
                  subst hkt
                  clear HO hI9 HLW
                  go_wp2_with (go_at_call 8; with_reducible refine hP9.mono ?_; rintro e wa ⟨ga, ca, rfl, hRa, hba⟩)
                  clear hP9
                  have RA := Lib.hid hRa
                  have R7a := Lib.hid (R7'.out.next hba)
                  have HBa := Lib.hid (HB9.out.trans (hba.mono HB9.out.size))
                  clear hRa hba
                  have hA := alike_at _ _ m _ m _ M M wa R7a.out.isL (R1.out.next HBa.out).isL HMl.out HMl.out true (by simp)
                  go_wp2_with (go_at_call 10; with_reducible refine hA.mono ?_; rintro e wb ⟨rfl, hbb⟩)
                  clear hA
                  have HBb := Lib.hid (HBa.out.trans (hbb.mono HBa.out.size))
                  have RA' := Lib.hid (RA.out.next hbb)
                  clear hbb
                  have hA := alike_at _ _ m _ m _ M M wb RA'.out.isL (R1.out.next HBb.out).isL HMl.out HMl.out true (by simp)
                  go_wp2_with (first
                    | (go_at_call 10; with_reducible refine hA.mono ?_; rintro e wc ⟨rfl, hbc⟩)
                    | (go_at_call 11; refine (works_any _).mono ?_; rintro e wd ⟨rfl, hbd⟩))
                  have HBd := Lib.hid ((HBb.out.trans (hbc.mono HBb.out.size)).trans (hbd.mono (HBb.out.trans (hbc.mono HBb.out.size)).size))
                  clear hA hbc hbd
                  go_wp2_with fail
                  go_ret
                  exact ⟨rfl, B1.out.trans (HBd.out.mono B1.out.size)⟩
            · obtain ⟨j, hj⟩ : ∃ j, leftN (E.getD U 0) (i + 1) = j := ⟨_, rfl⟩
              have hjl : j < i + 1 := by rw [← hj]; exact leftN_lt _ (by omega)
              have hh := permAt_here E i U N (by omega) (by omega)
              have hdn := permAt_down E i U N (by omega)
              rw [HPM.out, hj] at hh hdn
              have HH := Lib.hid hh
              have HDN := Lib.hid hdn.symm
              clear hh hdn hj
              obtain ⟨tl, htl⟩ : ∃ tl, T.length = tl := ⟨_, rfl⟩
              have htl40 : tl ≤ 39 := by omega
              have HTL := Lib.hid htl
              have HTl := Lib.hid hTl
              clear hTl hNl htl
              go_wp2_with fail
              go_loopw [14, 15] (fun kv qv wi => ∃ jj : Nat, qv = .int .i64 (jj : Int) ∧ jj ≤ i + 1 ∧ kv = .int .i64 (fnd j jj) ∧ Below ws.heap.size ws wi) (fun _ qv _ => i + 1 - (intOf qv).toNat)
              case atStart => exact ⟨0, rfl, Nat.zero_le _, int_eq (fnd_start j).symm, Below.refl _ _⟩
              case round =>
                obtain ⟨jj, rfl, hjj, rfl, hW⟩ := hrel
                have HW := Lib.hid hW
                clear hW
                by_cases hlt : jj ≤ i
                · have hcn := (RN.out.next HW.out).cell jj (by rw [HNl.out]; omega)
                  have hcm := (R1.out.next (HB.out.trans (HW.out.mono HB.out.size))).cell i (by rw [HMl.out]; omega)
                  obtain ⟨x, hx⟩ : ∃ x, M.getD i 0 = x := ⟨_, rfl⟩
                  rw [hx] at hcm
                  have HX := Lib.hid (HH.out.symm.trans hx)
                  clear hx
                  by_cases hjeq : jj = j
                  · subst hjeq
                    rw [HX.out] at hcn
                    go_wp2_with fail
                    go_quiet (fail)
                    go_wp2_with fail
                    go_roundw
                    case rel => exact ⟨jj + 1, by go_num, by omega, int_eq (fnd_hit jj).symm, below_draws HW.out _⟩
                    case measure => simp [intOf]; omega
                  · obtain ⟨z, hz⟩ : ∃ z, N.getD jj 0 = z := ⟨_, rfl⟩
                    rw [hz] at hcn
                    have hzx : (z == x) = false := by
                      rw [beq_eq_false_iff_ne]
                      intro e
                      exact hjeq (nodup_inj (isP_nodup HT.out.isP) jj j (by rw [HNl.out]; omega) (by rw [HNl.out]; omega) (by rw [hz, HX.out]; exact e))
                    have HF := Lib.hid (fnd_miss j jj hjeq)
                    clear hz
                    go_wp2_with fail
                    go_quiet (fail)
                    go_wp2_with fail
                    go_roundw
                    case rel => exact ⟨jj + 1, by go_num, by omega, int_eq HF.out.symm, below_draws HW.out _⟩
                    case measure => simp [intOf]; omega
                · have hje : fnd j jj = (j : Int) := fnd_end j jj (by omega)
                  have HO1 := Lib.hid (own_next HO.out HW.out)
                  rw [HTL.out] at HO1
                  have hbw := Nat.le_trans hbs HW.out.size
                  go_wp2_with (at_builtin; refine wpList_append_own _ rfl _ _ 22 rfl bt 3 i0 (.int .i64 0) 1 8 Try.underlying22 hi hz0 hz1 hz2 rfl (by decide) _ tl (T.map (Value.int .i64)) rfl (HO1.out.alloc _) ⟨wr.heap.size, 0, none⟩ 1 1 [.int .i64 (j : Int)] rfl rfl (cell_one_new _ _ _) (by simp [Value.oneCell']) (by unfold maxLen; omega) (by omega) (by simp; omega) ?_)
                  intro v1 w5 hown1 hgrow hne
                  have hRN5 : RowI w5 gn gn m N := ((RN.out.next HW.out).next (below_alloc1 wr _)).kept hgrow (fun e => by have := (HO1.out.lt gn e).1; omega)
                  have hB5 : Below w1.heap.size w1 w5 := ((HB.out.trans (HW.out.mono HB.out.size)).alloc (Nat.le_trans HB.out.size HW.out.size) _).grown hgrow (by have := HB.out.size; have := HW.out.size; simp; omega) (fun k e => by have := (HO1.out.lt k e).1; omega)
                  have hs5 : bt ≤ w5.heap.size := Nat.le_trans hbw (Nat.le_trans (by simp) hgrow.size)
                  obtain ⟨g1, cap1, rfl⟩ := own_shape hown1
                  have hg1 := (hown1.lt g1 rfl).1
                  have hne1 : g1 ≠ gn := by omega
                  have hx := hRN5.cell i (by rw [HNl.out]; omega)
                  have hy5 := hRN5.cell j (by rw [HNl.out]; omega)
                  have fx := hRN5.free i
                  have fy := hRN5.free j
                  obtain ⟨x, hxx⟩ : ∃ x, N.getD i 0 = x := ⟨_, rfl⟩
                  obtain ⟨z, hzz⟩ : ∃ z, N.getD j 0 = z := ⟨_, rfl⟩
                  rw [hxx] at hx
                  rw [hzz] at hy5
                  have HS := Lib.hid (show swp N i j = (N.set i z).set j x by unfold swp; rw [hxx, hzz])
                  have RN6 := Lib.hid ((hRN5.set i z).set j x)
                  have HB6 := Lib.hid ((hB5.setCell (p := ⟨gn, i, none⟩) hsz (.int .i64 z)).setCell (p := ⟨gn, j, none⟩) hsz (.int .i64 x))
                  have HO6 := Lib.hid (ownsRow_setCell_other (ownsRow_setCell_other hown1 (a := ⟨gn, i, none⟩) (fun e => hne1 (Option.some.inj e)) (.int .i64 z)) (a := ⟨gn, j, none⟩) (fun e => hne1 (Option.some.inj e)) (.int .i64 x))
                  obtain ⟨v', hy'⟩ := cell?_setCell_some (w := w5) (p := ⟨gn, i, none⟩) (x := .int .i64 z) (q := ⟨gn, j, none⟩) hy5
                  clear hown1 hgrow hne hRN5 hB5 hxx hzz
                  go_wp2_with fail
                  go_roundw
                  case rel =>
                    refine ⟨i - 1, nxt E U, T ++ [(j : Int)], swp N i j, int_eq (by omega), by omega, HT.out.step (by omega) him j (by omega), HDN.out, ?_, ?_, HB6.out, ?_⟩
                    · rw [List.length_append, HTL.out, List.map_append]; exact HO6.out
                    · rw [HS.out]; exact RN6.out
                    · simpa using hs5
                  case measure => simp [intOf]; omega
theorem law_DealAll (n : Int) (hn : 0 ≤ n ∧ n ≤ 255) (b : Option Addr) (m d : Nat) (w : World) (k : ∃ P : List Int, P.length = m ∧ IsL w b d P) :
    Calls Try.prog 5 #[.int .u8 n, .slice b m d] w fun e w' => e = .returned (.bool true) ∧ Below w.heap.size w w' := by
  obtain ⟨P, hm, hP⟩ := k
  exact walk_DealAll n hn b m d P w hP hm
end Go.Proofs.Ytibacoffnkbbbaa
