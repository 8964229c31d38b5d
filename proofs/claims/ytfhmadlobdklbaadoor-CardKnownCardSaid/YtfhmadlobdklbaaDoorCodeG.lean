/- The document's answer: Check. -/
import Derived.Test.YtfhmadlobdklbaaDoorCodeF
namespace Go.Proofs.YtfhmadlobdklbaaDoor
open Go.RowKit
set_option linter.unusedVariables false
set_option linter.unusedSimpArgs false

set_option maxRecDepth 100000 in
set_option maxHeartbeats 4000000 in
theorem refCheck_any (a : Option Addr) (cap : Nat) (L : List Ins) (t c : Int) (w : World) (h : IsC w a cap L) :
    Calls Tryd.prog 23 #[.slice a L.length cap, .int .i64 t, .int .i64 c] w fun e w' => e = .returned (.int .i64 (chk L t c)) ∧ Below w.heap.size w w' := by
  have HL := Lib.hid h
  have hcap := h.1
  have hcm := h.2.1
  clear h
  obtain ⟨r, hr⟩ : ∃ r, r = chk L t c := ⟨_, rfl⟩
  rw [← hr]
  have HR := Lib.hid hr
  clear hr
  by_cases hok : (0 ≤ t ∧ t ≤ 2) ∧ (0 ≤ c ∧ c ≤ 40)
  · obtain ⟨⟨t1, t2⟩, c1, c2⟩ := hok
    have HE := Lib.hid (show r = if 32 < L.length then 3 else if L.all (one L.length t c) then 0 else 9 by rw [HR.out]; simp [chk, btw, t1, t2, c1, c2])
    by_cases hl : 32 < L.length
    · have HV := Lib.hid (show r = 3 by rw [HE.out, if_pos hl])
      go_enter Tryd.func23, Tryd.ntmps23
      go_wp2_with fail
      go_ret
      exact ⟨int_ret HV.out.symm, Below.refl _ _⟩
    · go_enter Tryd.func23, Tryd.ntmps23
      go_wp2_with fail
      go_loopw [7] (fun q wr => ∃ k : Nat, q = .int .i64 (k : Int) ∧ k ≤ L.length ∧ (∀ j (h : j < L.length), j < k → one L.length t c L[j] = true) ∧ Below w.heap.size w wr) (fun q _ => L.length - (intOf q).toNat)
      case atStart => exact ⟨0, rfl, Nat.zero_le _, fun j _ hj => by omega, Below.refl _ _⟩
      case round =>
        obtain ⟨k, rfl, hk, hn, hbw⟩ := hrel
        have HN := Lib.hid hn
        have HW := Lib.hid hbw
        clear hn hbw
        by_cases hlt : k < L.length
        · obtain ⟨b, off, x, hx, rfl, x0, x1, x2⟩ := (HL.out.next HW.out).at k hlt
          have HX := Lib.hid hx
          clear hx
          cases hone : one L.length t c x
          · have HV := Lib.hid (show r = 9 by
              rw [HE.out, if_neg hl, if_neg]
              intro hall
              have := List.all_eq_true.1 hall _ (List.getElem_mem hlt)
              rw [← HX.out, hone] at this
              cases this)
            go_wp2_with fail
            refine (refOne_any x _ _ _ _).mono ?_
            rintro e w4 ⟨rfl, hb⟩
            rw [hone]
            have HW3 := Lib.hid (below_then' HW.out hb HW.out.size)
            clear hb
            go_wp2_with fail
            go_ret
            exact ⟨int_ret HV.out.symm, HW3.out⟩
          · go_wp2_with fail
            refine (refOne_any x _ _ _ _).mono ?_
            rintro e w4 ⟨rfl, hb⟩
            rw [hone]
            have HW3 := Lib.hid (below_then' HW.out hb HW.out.size)
            clear hb
            go_wp2_with fail
            go_roundw
            case rel => exact ⟨k + 1, by go_num, by omega, fun j h1 h2 => by
              by_cases hjk : j = k
              · subst hjk; rw [← HX.out]; exact hone
              · exact HN.out j h1 (by omega), HW3.out⟩
            case measure => simp [intOf]; omega
        · have HV := Lib.hid (show r = 0 by
            rw [HE.out, if_neg hl, if_pos]
            refine List.all_eq_true.2 fun x hx => ?_
            obtain ⟨j, hj, rfl⟩ := List.getElem_of_mem hx
            exact HN.out j hj (by omega))
          go_wp2_with fail
          go_ret
          exact ⟨int_ret HV.out.symm, HW.out⟩
  · have HV := Lib.hid (show r = 2 by rw [HR.out]; simp [chk, btw]; omega)
    by_cases t1 : t < 0
    · go_enter Tryd.func23, Tryd.ntmps23
      go_wp2_with fail
      go_ret
      exact ⟨int_ret HV.out.symm, Below.refl _ _⟩
    · by_cases t2 : 2 < t
      · go_enter Tryd.func23, Tryd.ntmps23
        go_wp2_with fail
        go_ret
        exact ⟨int_ret HV.out.symm, Below.refl _ _⟩
      · by_cases c1 : c < 0
        · go_enter Tryd.func23, Tryd.ntmps23
          go_wp2_with fail
          go_ret
          exact ⟨int_ret HV.out.symm, Below.refl _ _⟩
        · have c2 : 40 < c := by omega
          go_enter Tryd.func23, Tryd.ntmps23
          go_wp2_with fail
          go_ret
          exact ⟨int_ret HV.out.symm, Below.refl _ _⟩
end Go.Proofs.YtfhmadlobdklbaaDoor
