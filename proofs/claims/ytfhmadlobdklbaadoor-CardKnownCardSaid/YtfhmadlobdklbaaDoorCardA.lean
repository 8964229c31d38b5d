/- within. -/
import Derived.Test.YtfhmadlobdklbaaDoorCodeG
namespace Go.Proofs.YtfhmadlobdklbaaDoor
open Go.RowKit
set_option linter.unusedVariables false
set_option linter.unusedSimpArgs false

/-- Is each number where it must be? (op: the number; a, b: from where to where.) -/
def wi (L : List Ins) : Bool := L.all fun x => btw x.a x.b x.op
set_option maxRecDepth 100000 in
set_option maxHeartbeats 2000000 in
theorem within_any (a : Option Addr) (cap : Nat) (L : List Ins) (n : Nat) (hn : L.length = n) (r : Bool) (hr : wi L = r) (w : World) (h : IsC w a cap L) :
    Calls Tryd.prog 13 #[.slice a n cap] w fun e w' => e = .returned (.bool r) ∧ Below w.heap.size w w' := by
  subst hn
  have HL := Lib.hid h
  have hcap := h.1
  have hcm := h.2.1
  clear h
  have HR := Lib.hid hr
  clear hr
  go_enter Tryd.func13, Tryd.ntmps13
  go_wp2_with fail
  go_loopw [7] (fun q wr => ∃ k : Nat, q = .int .i64 (k : Int) ∧ k ≤ L.length ∧ (∀ j (h : j < L.length), j < k → btw L[j].a L[j].b L[j].op = true) ∧ Below w.heap.size w wr) (fun q _ => L.length - (intOf q).toNat)
  case atStart => exact ⟨0, rfl, Nat.zero_le _, fun j _ hj => by omega, Below.refl _ _⟩
  case round =>
    obtain ⟨k, rfl, hk, hn, hbw⟩ := hrel
    have HN := Lib.hid hn
    have HW := Lib.hid hbw
    clear hn hbw
    by_cases hlt : k < L.length
    · obtain ⟨b, off, x, hx, rfl, x0, x1, x2⟩ := (HL.out.next HW.out).at k hlt
      have HX := Lib.hid hx
      clear hx
      have HW2 := Lib.hid (HW.out.alloc HW.out.size (.cells #[.int .i64 x.op, .int .i64 x.a, .int .i64 x.b] 48))
      by_cases c1 : x.op < x.a
      · have HV := Lib.hid (show r = false by
          rw [← HR.out]
          refine Bool.eq_false_iff.2 fun hall => ?_
          have := List.all_eq_true.1 hall _ (List.getElem_mem hlt)
          rw [← HX.out] at this
          simp [btw] at this
          omega)
        go_wp2_with fail
        go_ret
        exact ⟨bool_ret HV.out.symm, HW2.out⟩
      · by_cases c2 : x.b < x.op
        · have HV := Lib.hid (show r = false by
            rw [← HR.out]
            refine Bool.eq_false_iff.2 fun hall => ?_
            have := List.all_eq_true.1 hall _ (List.getElem_mem hlt)
            rw [← HX.out] at this
            simp [btw] at this
            omega)
          go_wp2_with fail
          go_ret
          exact ⟨bool_ret HV.out.symm, HW2.out⟩
        · go_wp2_with fail
          go_roundw
          case rel => exact ⟨k + 1, by go_num, by omega, fun j h1 h2 => by
            by_cases hjk : j = k
            · subst hjk; rw [← HX.out]; simp [btw]; omega
            · exact HN.out j h1 (by omega), HW2.out⟩
          case measure => simp [intOf]; omega
    · have HV := Lib.hid (show r = true by
        rw [← HR.out]
        refine List.all_eq_true.2 fun x hx => ?_
        obtain ⟨j, hj, rfl⟩ := List.getElem_of_mem hx
        exact HN.out j hj (by omega))
      go_wp2_with fail
      go_ret
      exact ⟨bool_ret HV.out.symm, HW.out⟩
end Go.Proofs.YtfhmadlobdklbaaDoor
