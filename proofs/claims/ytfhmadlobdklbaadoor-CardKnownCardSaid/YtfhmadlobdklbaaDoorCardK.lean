/- canDo. -/
import Derived.Test.YtfhmadlobdklbaaDoorCardI
namespace Go.Proofs.YtfhmadlobdklbaaDoor
open Go.RowKit
set_option linter.unusedVariables false
set_option linter.unusedSimpArgs false

/-- May an ability be, of a spell or not? -/
def fitB (s : Bool) (cards : Int) (t : AbT) : Bool := ((t.1.k == 1) == s) && abilB t.1 t.2.1 t.2.2 cards
/-- May a card have these abilities? -/
def canB (s : Bool) (A : List AbT) (cards : Int) : Bool := !(s && A.length != 1) && A.all (fitB s cards)
set_option maxRecDepth 100000 in
set_option maxHeartbeats 4000000 in
theorem canDo_any (y : Cd) (A : List AbT) (s : Bool) (hs : (y.k == 3) = s) (cards : Int) (r : Bool) (hr : canB s A cards = r) (w : World) (h : CdR w y A) (hT : Tabs w) :
    Calls Tryd.prog 16 #[.agg #[.string y.nm, .int .i64 y.k, .int .i64 y.c0, .int .i64 y.c1, .int .i64 y.c2, .int .i64 y.c3, .int .i64 y.col, .int .i64 y.pow, .int .i64 y.tou, .int .i64 y.keys, .slice y.aa y.an y.ac], .int .i64 cards] w fun e w' => e = .returned (.bool r) ∧ Below w.heap.size w w' := by
  have HR := Lib.hid hr
  have hb := below_alloc1 w (.cells #[.string y.nm, .int .i64 y.k, .int .i64 y.c0, .int .i64 y.c1, .int .i64 y.c2, .int .i64 y.c3, .int .i64 y.col, .int .i64 y.pow, .int .i64 y.tou, .int .i64 y.keys, .slice y.aa y.an y.ac] 26)
  have HL := Lib.hid (h.next hb)
  have HT := Lib.hid (hT.next hb)
  have HX := Lib.hid (boxC_new w y 26)
  have hcap := h.2.1
  have hcm := h.2.2.1
  rw [h.1] at hcap
  have HB := Lib.hid hb
  have HN := Lib.hid h.1
  clear hr h hb hT
  cases hc : (s && A.length != 1)
  · have hc1 : s = true → ((y.an : Int) != 1) = false := fun e => by
      rw [e, HN.out] at hc
      simp at hc ⊢
      omega
    obtain ⟨fp, hfp⟩ : ∃ fp, fp = fitB s cards := ⟨_, rfl⟩
    have HE := Lib.hid (show A.all fp = r by rw [← HR.out, canB, hc, hfp]; rfl)
    have HP := Lib.hid hfp
    clear hc hfp
    cases s
    all_goals
      first | (replace hc1 := hc1 rfl) | (clear hc1)
      go_enter Tryd.func16, Tryd.ntmps16
      go_wp2_with fail
      generalize w.alloc (.cells #[.string y.nm, .int .i64 y.k, .int .i64 y.c0, .int .i64 y.c1, .int .i64 y.c2, .int .i64 y.c3, .int .i64 y.col, .int .i64 y.pow, .int .i64 y.tou, .int .i64 y.keys, .slice y.aa y.an y.ac] 26) = W at *
      go_loopw [21] (fun q wr => ∃ k : Nat, q = .int .i64 (k : Int) ∧ k ≤ y.an ∧ (∀ j (h : j < A.length), j < k → fp A[j] = true) ∧ Below W.heap.size W wr) (fun q _ => y.an - (intOf q).toNat)
      case atStart => exact ⟨0, rfl, Nat.zero_le _, fun j _ hj => by omega, Below.refl _ _⟩
      case round =>
        obtain ⟨k, rfl, hk, hn, hbw⟩ := hrel
        have HF := Lib.hid hn
        have HW := Lib.hid hbw
        clear hn hbw
        by_cases hlt : k < y.an
        · obtain ⟨b, off, x, T, L, hx, hab, hta, hbl, m0, m1, m2, m3, m4, m5, m6, m7, m8, m9, m10, m11, m12⟩ := (HL.out.2.next HW.out).at k (by rw [HN.out]; exact hlt)
          have HY := Lib.hid hx
          have HAb := Lib.hid (hab.next (below_alloc1 wr (.cells #[.int .i64 x.k, .int .i64 x.ev, .int .i64 x.wh, .int .i64 x.c0, .int .i64 x.c1, .int .i64 x.c2, .int .i64 x.c3, .bool x.tap, .slice x.ta x.tn x.tc, .slice x.ca x.cn x.cc, .int .i64 x.op, .int .i64 x.a, .int .i64 x.b] 41)))
          clear hx hab
          have HW2 := Lib.hid (HW.out.alloc HW.out.size (.cells #[.int .i64 x.k, .int .i64 x.ev, .int .i64 x.wh, .int .i64 x.c0, .int .i64 x.c1, .int .i64 x.c2, .int .i64 x.c3, .bool x.tap, .slice x.ta x.tn x.tc, .slice x.ca x.cn x.cc, .int .i64 x.op, .int .i64 x.a, .int .i64 x.b] 41))
          have HT2 := Lib.hid (HT.out.next HW2.out)
          rw [hta] at *
          obtain ⟨s2, hs2⟩ : ∃ s2, abilB x T L cards = s2 := ⟨_, rfl⟩
          have HS2 := Lib.hid hs2
          clear hs2
          cases e1 : (x.k == 1)
          all_goals
            have HV := Lib.hid (show fp (x, T, L) = false → r = false from fun h2 => by
              rw [← HE.out]
              refine Bool.eq_false_iff.2 fun hall => ?_
              have := List.all_eq_true.1 hall _ (List.getElem_mem (by rw [HN.out]; exact hlt))
              rw [← HY.out, h2] at this
              cases this)
            go_wp2_with fail
            first
              | (go_ret
                 exact ⟨bool_ret (HV.out (by rw [HP.out]; simp [fitB, e1])).symm, HB.out.trans (HW2.out.mono HB.out.size)⟩)
              | (refine (isAbility_any x T L cards s2 HS2.out _ HAb.out HT2.out).mono ?_
                 rintro e w4 ⟨rfl, hb⟩
                 have HW3 := Lib.hid (below_then' HW2.out hb HW2.out.size)
                 clear hb
                 cases s2
                 · go_wp2_with fail
                   go_ret
                   exact ⟨bool_ret (HV.out (by rw [HP.out]; simp [fitB, HS2.out])).symm, HB.out.trans (HW3.out.mono HB.out.size)⟩
                 · go_wp2_with fail
                   go_roundw
                   case rel => exact ⟨k + 1, by go_num, by omega, fun j h1 h2 => by
                     by_cases hjk : j = k
                     · subst hjk; rw [← HY.out, HP.out]; simp [fitB, e1, HS2.out]
                     · exact HF.out j h1 (by omega), HW3.out⟩
                   case measure => simp [intOf]; omega)
        · have HV := Lib.hid (show r = true by
            rw [← HE.out]
            refine List.all_eq_true.2 fun t ht => ?_
            obtain ⟨j, hj, rfl⟩ := List.getElem_of_mem ht
            exact HF.out j hj (by have := HN.out; omega))
          go_wp2_with fail
          go_ret
          exact ⟨bool_ret HV.out.symm, HB.out.trans (HW.out.mono HB.out.size)⟩
  · have HV := Lib.hid (show r = false by rw [← HR.out, canB, hc]; rfl)
    obtain ⟨rfl, hc1⟩ : s = true ∧ ((y.an : Int) != 1) = true := by
      rw [HN.out] at hc
      cases s
      · simp at hc
      · simp at hc ⊢
        omega
    clear hc
    go_enter Tryd.func16, Tryd.ntmps16
    go_wp2_with fail
    go_ret
    exact ⟨bool_ret HV.out.symm, HB.out⟩
end Go.Proofs.YtfhmadlobdklbaaDoor
