/- The walk of CodeInside. -/
import Derived.Test.YtegopamfdgeblaaDoorCodeV
namespace Go.Proofs.YtegopamfdgeblaaDoor
open Go.RowKit
set_option linter.unusedVariables false
set_option linter.unusedSimpArgs false

set_option maxRecDepth 100000 in
set_option maxHeartbeats 4000000 in
theorem walk_CodeInside (a : Option Addr) (l cap : Nat) (L : List Ins) (from_ : Int) (tp : Option Addr) (tl tcap : Nat) (T : List Bool) (w : World) (h : IsC w a cap L) (hl : L.length = l) (ht : IsB w tp tcap T) (htl : T.length = tl) (hT : Tabs w) :
    Calls Tryd.prog 5 #[.slice a l cap, .int .i64 from_, .slice tp tl tcap] w fun e w' => e = .returned (.bool true) ∧ Below w.heap.size w w' := by
  have hcap := h.1
  have hcm := h.2.1
  have htc := ht.1
  have htm := ht.2.1
  have HT := Lib.hid hT
  have HTB := Lib.hid ht
  have HC := Lib.hid (h.take 40)
  obtain ⟨m, hm⟩ : ∃ k, k = min l 40 := ⟨_, rfl⟩
  have HCl := Lib.hid (show (L.take 40).length = m by rw [List.length_take, hm, hl]; omega)
  have hm40 : m ≤ 40 := by omega
  have hmin1 : min (l : Int) 40 = (m : Int) := by omega
  have hml : m ≤ l := by omega
  rw [hl] at hcap
  rw [htl] at htc
  have HTL := Lib.hid htl
  have hmc : m ≤ cap := by omega
  obtain ⟨D, hD⟩ : ∃ D, D = L.take 40 := ⟨_, rfl⟩
  rw [← hD] at HC HCl
  obtain ⟨r, hr⟩ : ∃ r, chk D 2 40 = r := ⟨_, rfl⟩
  have HR := Lib.hid hr
  clear hm h hT hl hD hr ht htl
  by_cases hr0 : r = 0
  · subst hr0
    have HSH := Lib.hid (fun z h1 h2 => waysL_shape D m HCl.out 2 40 HR.out z h1 h2)
    obtain ⟨V, hV⟩ : ∃ V : Int → List Int, ∀ z, waysL D z = V z := ⟨_, fun _ => rfl⟩
    have HV := Lib.hid hV
    simp only [hV] at HSH
    clear hV
    go_enter Tryd.func5, Tryd.ntmps5
    go_wp2_with fail
    refine (works_any _ HT.out).mono ?_
    rintro e w1 ⟨rfl, b1⟩
    have HB1 := Lib.hid b1
    clear b1
    go_wp2_with fail
    refine (check_at _ _ _ _ HCl.out _ _ _ HR.out _ (HC.out.next HB1.out)).mono ?_
    rintro e w2 ⟨rfl, b2⟩
    have HB2 := Lib.hid (below_then' HB1.out b2 HB1.out.size)
    clear b2
    go_wp2_with fail
    go_loopw [7] (fun q wr => ∃ i : Nat, q = .int .i64 (i : Int) ∧ i ≤ m ∧ Below w.heap.size w wr) (fun q _ => m - (intOf q).toNat)
    case atStart => exact ⟨0, rfl, Nat.zero_le _, HB2.out⟩
    case round =>
      obtain ⟨i, rfl, hi, hbw⟩ := hrel
      have HB3 := Lib.hid hbw
      clear hbw
      generalize wr = ws at *
      by_cases hlt : i < m
      · rcases HSH.out (i : Int) (by omega) (by omega) with ⟨hv, hv2⟩ | ⟨v, hv, hv0, hv1⟩ | ⟨v, u, hv, hv0, hv1, hv2⟩
        · obtain ⟨b, off, x, hx, rfl, x0, x1, x2⟩ := (HC.out.next HB3.out).at i (by rw [HCl.out]; exact hlt)
          have hop : x.op = 24 := by
            rcases hv2 with hv2 | hv2
            · omega
            · exact hv2 x (by rw [hx]; exact List.getElem?_eq_getElem _)
          clear hx hv2
          obtain ⟨xo, xa, xb⟩ := x
          obtain rfl : xo = 24 := hop
          have HVI := Lib.hid hv
          clear hv
          go_wp2_with fail
          refine (ways_at _ _ _ _ HCl.out _ _ ((HV.out _).trans HVI.out) 0 rfl _ (HC.out.next HB3.out)).mono ?_
          rintro e w4 ⟨p, c, rfl, hi4, b4⟩
          have HB4 := Lib.hid (below_then' HB3.out b4 HB3.out.size)
          have y0 := keep_cell b4 x0
          clear b4 hi4 x0 x1 x2
          go_wp2_with fail
          go_loopw [9] (fun q wr => q = .int .i64 0 ∧ Below w.heap.size w wr) (fun q _ => 0)
          case atStart => exact ⟨rfl, HB4.out⟩
          case round =>
            obtain ⟨rfl, hbw⟩ := hrel
            have HB5 := Lib.hid hbw
            clear hbw
            go_wp2_with fail
            go_roundw
            case rel => exact ⟨i + 1, by go_num, by omega, HB5.out⟩
            case measure => simp [intOf]; omega
        · have HVI := Lib.hid hv
          clear hv
          go_wp2_with fail
          refine (ways_at _ _ _ _ HCl.out _ _ ((HV.out _).trans HVI.out) 1 rfl _ (HC.out.next HB3.out)).mono ?_
          rintro e w4 ⟨p, c, rfl, hi4, b4⟩
          have HB4 := Lib.hid (below_then' HB3.out b4 HB3.out.size)
          have HI4 := Lib.hid hi4
          obtain ⟨pb, po, rfl, _, hc1, hc2⟩ := hi4.one
          clear b4 hi4
          go_wp2_with fail
          go_loopw [9] (fun q wr => ∃ k : Nat, q = .int .i64 (k : Int) ∧ k ≤ 1 ∧ Below w4.heap.size w4 wr) (fun q _ => 1 - (intOf q).toNat)
          case atStart => exact ⟨0, rfl, by omega, Below.refl _ _⟩
          case round =>
            obtain ⟨k, rfl, hk, hbw⟩ := hrel
            have HB5 := Lib.hid hbw
            clear hbw
            rcases (show k = 0 ∨ k = 1 by omega) with rfl | rfl
            · obtain ⟨pb', po', he, hcell, _⟩ := (HI4.out.next HB5.out).one
              cases he
              have n1 : decide (v < 0) = false := decide_eq_false (by omega)
              have n2 : decide ((m : Int) < v) = false := decide_eq_false (by omega)
              go_wp2_with fail
              go_quiet (fail)
              go_wp2_with fail
              go_roundw
              case rel => exact ⟨1, by go_num, by omega, below_draws HB5.out _⟩
              case measure => simp [intOf]
            · go_wp2_with fail
              go_roundw
              case rel => exact ⟨i + 1, by go_num, by omega, below_then' HB4.out HB5.out HB4.out.size⟩
              case measure => simp [intOf]; omega
        · have HVI := Lib.hid hv
          clear hv
          go_wp2_with fail
          refine (ways_at _ _ _ _ HCl.out _ _ ((HV.out _).trans HVI.out) 2 rfl _ (HC.out.next HB3.out)).mono ?_
          rintro e w4 ⟨p, c, rfl, hi4, b4⟩
          have HB4 := Lib.hid (below_then' HB3.out b4 HB3.out.size)
          have HI4 := Lib.hid hi4
          obtain ⟨pb, po, rfl, _, _, hc1, hc2⟩ := hi4.two
          clear b4 hi4
          go_wp2_with fail
          go_loopw [9] (fun q wr => ∃ k : Nat, q = .int .i64 (k : Int) ∧ k ≤ 2 ∧ Below w4.heap.size w4 wr) (fun q _ => 2 - (intOf q).toNat)
          case atStart => exact ⟨0, rfl, by omega, Below.refl _ _⟩
          case round =>
            obtain ⟨k, rfl, hk, hbw⟩ := hrel
            have HB5 := Lib.hid hbw
            clear hbw
            rcases (show k = 0 ∨ k = 1 ∨ k = 2 by omega) with rfl | rfl | rfl
            · obtain ⟨pb', po', he, hcell, hcell2, _⟩ := (HI4.out.next HB5.out).two
              cases he
              have n1 : decide (v < 0) = false := decide_eq_false (by omega)
              have n2 : decide ((m : Int) < v) = false := decide_eq_false (by omega)
              go_wp2_with fail
              go_quiet (fail)
              go_wp2_with fail
              go_roundw
              case rel => exact ⟨1, by go_num, by omega, below_draws HB5.out _⟩
              case measure => simp [intOf]
            · obtain ⟨pb', po', he, hcell, hcell2, _⟩ := (HI4.out.next HB5.out).two
              cases he
              have n1 : decide (u < 0) = false := decide_eq_false (by omega)
              have n2 : decide ((m : Int) < u) = false := decide_eq_false (by omega)
              have n3 : decide (u ≤ v) = false := decide_eq_false (by omega)
              go_wp2_with fail
              go_quiet (fail)
              go_wp2_with fail
              go_roundw
              case rel => exact ⟨2, by go_num, by omega, below_draws HB5.out _⟩
              case measure => simp [intOf]
            · go_wp2_with fail
              go_roundw
              case rel => exact ⟨i + 1, by go_num, by omega, below_then' HB4.out HB5.out HB4.out.size⟩
              case measure => simp [intOf]; omega
      · obtain ⟨g, hg⟩ : ∃ g : Nat, max from_ 0 = (g : Int) := ⟨(max from_ 0).toNat, by omega⟩
        by_cases hm0 : m = 0
        · have HB3' := Lib.hid HB3.out
          subst hm0
          go_wp2_with fail
          go_loopw [10, 11] (fun p q wr => ∃ j : Nat, p = .int .i64 0 ∧ q = .int .i64 (j : Int) ∧ j ≤ tl ∧ j ≤ 200 ∧ Below w.heap.size w wr) (fun _ q _ => 200 - (intOf q).toNat)
          case atStart => exact ⟨0, rfl, rfl, by omega, by omega, HB3.out⟩
          case round =>
            obtain ⟨j, rfl, rfl, hj1, hj2, hbw⟩ := hrel
            have HB4 := Lib.hid hbw
            clear hbw
            by_cases hlt1 : j < tl
            · by_cases hlt2 : j < 200
              · have HVI := Lib.hid (show waysL D 0 = [] by rw [waysL, dif_neg (by rw [HCl.out]; omega)])
                go_wp2_with fail
                refine (ways_at _ _ _ _ HCl.out _ _ HVI.out 0 rfl _ (HC.out.next HB4.out)).mono ?_
                rintro e w5 ⟨p, c, rfl, hi5, b5⟩
                have HB5 := Lib.hid (below_then' HB4.out b5 HB4.out.size)
                clear b5 hi5
                go_wp2_with fail
                go_ret
                exact ⟨rfl, HB5.out⟩
              · go_wp2_with fail
                go_ret
                exact ⟨rfl, HB4.out⟩
            · go_wp2_with fail
              go_ret
              exact ⟨rfl, HB4.out⟩
        · have hmp : 0 < m := by omega
          have hgm : (g : Int).tmod (m : Int) = ((g % m : Nat) : Int) := by rw [Int.tmod_eq_emod_of_nonneg (by omega)]; rfl
          have hgl : g % m ≤ m := Nat.le_of_lt (Nat.mod_lt _ hmp)
          generalize g % m = z0 at *
          go_wp2_with fail
          go_loopw [10, 11] (fun p q wr => ∃ z j : Nat, p = .int .i64 (z : Int) ∧ q = .int .i64 (j : Int) ∧ z ≤ m ∧ j ≤ tl ∧ j ≤ 200 ∧ Below w.heap.size w wr) (fun _ q _ => 200 - (intOf q).toNat)
          case atStart => exact ⟨z0, 0, by go_num, rfl, by omega, by omega, by omega, HB3.out⟩
          case round =>
            obtain ⟨z, j, rfl, rfl, hz, hj1, hj2, hbw⟩ := hrel
            have HB4 := Lib.hid hbw
            clear hbw
            by_cases hlt1 : j < tl
            · by_cases hlt2 : j < 200
              · obtain ⟨tb, toff, tv, htp, htc'⟩ := (HTB.out.next HB4.out).at j (by rw [HTL.out]; exact hlt1)
                rcases HSH.out (z : Int) (by omega) (by omega) with ⟨hv, hv2⟩ | ⟨v, hv, hv0, hv1⟩ | ⟨v, u, hv, hv0, hv1, hv2⟩
                · have HVI := Lib.hid hv
                  clear hv htp htc'
                  by_cases hzm : z = m
                  · clear hv2
                    subst hzm
                    go_wp2_with fail
                    refine (ways_at _ _ _ _ HCl.out _ _ ((HV.out _).trans HVI.out) 0 rfl _ (HC.out.next HB4.out)).mono ?_
                    rintro e w5 ⟨p, c, rfl, hi5, b5⟩
                    have HB5 := Lib.hid (below_then' HB4.out b5 HB4.out.size)
                    clear b5 hi5
                    go_wp2_with fail
                    go_ret
                    exact ⟨rfl, HB5.out⟩
                  · have hzlt : z < m := by omega
                    obtain ⟨b, off, x, hx, rfl, x0, x1, x2⟩ := (HC.out.next HB4.out).at z (by rw [HCl.out]; exact hzlt)
                    have hop : x.op = 24 := by
                      rcases hv2 with hv2 | hv2
                      · omega
                      · exact hv2 x (by rw [hx]; exact List.getElem?_eq_getElem _)
                    clear hx hv2
                    obtain ⟨xo, xa, xb⟩ := x
                    obtain rfl : xo = 24 := hop
                    have hzm2 : ¬ (z : Int) = (m : Int) := by omega
                    go_wp2_with fail
                    refine (ways_at _ _ _ _ HCl.out _ _ ((HV.out _).trans HVI.out) 0 rfl _ (HC.out.next HB4.out)).mono ?_
                    rintro e w5 ⟨p, c, rfl, hi5, b5⟩
                    have HB5 := Lib.hid (below_then' HB4.out b5 HB4.out.size)
                    have y0 := keep_cell b5 x0
                    clear b5 hi5 x0 x1 x2
                    go_wp2_with fail
                    go_ret
                    exact ⟨bool_ret (by simp), HB5.out⟩
                · obtain ⟨v', rfl⟩ : ∃ v' : Nat, v = (v' : Int) := ⟨v.toNat, by omega⟩
                  have HVI := Lib.hid hv
                  clear hv
                  go_wp2_with fail
                  refine (ways_at _ _ _ _ HCl.out _ _ ((HV.out _).trans HVI.out) 1 rfl _ (HC.out.next HB4.out)).mono ?_
                  rintro e w5 ⟨p, c, rfl, hi5, b5⟩
                  have HB5 := Lib.hid (below_then' HB4.out b5 HB4.out.size)
                  obtain ⟨pb, po, rfl, hc0, hc1, hc2⟩ := hi5.one
                  have hct := keep_cell b5 htc'
                  clear b5 hi5 htc'
                  subst htp
                  cases tv
                  all_goals
                    go_wp2_with fail
                    go_roundw
                    case rel => exact ⟨v', j + 1, by go_num, by go_num, by omega, by omega, by omega, HB5.out⟩
                    case measure => simp [intOf]; omega
                · obtain ⟨v', rfl⟩ : ∃ v' : Nat, v = (v' : Int) := ⟨v.toNat, by omega⟩
                  obtain ⟨u', rfl⟩ : ∃ u' : Nat, u = (u' : Int) := ⟨u.toNat, by omega⟩
                  have HVI := Lib.hid hv
                  clear hv
                  go_wp2_with fail
                  refine (ways_at _ _ _ _ HCl.out _ _ ((HV.out _).trans HVI.out) 2 rfl _ (HC.out.next HB4.out)).mono ?_
                  rintro e w5 ⟨p, c, rfl, hi5, b5⟩
                  have HB5 := Lib.hid (below_then' HB4.out b5 HB4.out.size)
                  obtain ⟨pb, po, rfl, hc0, hc0', hc1, hc2⟩ := hi5.two
                  have hct := keep_cell b5 htc'
                  clear b5 hi5 htc'
                  subst htp
                  cases tv
                  · go_wp2_with fail
                    go_roundw
                    case rel => exact ⟨v', j + 1, by go_num, by go_num, by omega, by omega, by omega, HB5.out⟩
                    case measure => simp [intOf]; omega
                  · go_wp2_with fail
                    go_roundw
                    case rel => exact ⟨u', j + 1, by go_num, by go_num, by omega, by omega, by omega, HB5.out⟩
                    case measure => simp [intOf]; omega
              · go_wp2_with fail
                go_ret
                exact ⟨bool_ret (by first | (simp; done) | (simp; omega)), HB4.out⟩
            · go_wp2_with fail
              go_ret
              exact ⟨bool_ret (by first | (simp; done) | (simp; omega)), HB4.out⟩
  · go_enter Tryd.func5, Tryd.ntmps5
    go_wp2_with fail
    refine (works_any _ HT.out).mono ?_
    rintro e w1 ⟨rfl, b1⟩
    have HB1 := Lib.hid b1
    clear b1
    go_wp2_with fail
    refine (check_at _ _ _ _ HCl.out _ _ _ HR.out _ (HC.out.next HB1.out)).mono ?_
    rintro e w2 ⟨rfl, b2⟩
    have HB2 := Lib.hid (below_then' HB1.out b2 HB1.out.size)
    clear b2
    go_wp2_with fail
    go_ret
    exact ⟨rfl, HB2.out⟩
end Go.Proofs.YtegopamfdgeblaaDoor
