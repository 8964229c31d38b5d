/- A code, cut; the walk of CodeChecks. -/
import Derived.Test.YtegopamfdgeblaaDoorCodeP
import Derived.Test.YtegopamfdgeblaaDoorCodeG
namespace Go.Proofs.YtegopamfdgeblaaDoor
open Go.RowKit
set_option linter.unusedVariables false
set_option linter.unusedSimpArgs false

theorem IsC.take {w : World} {a : Option Addr} {c : Nat} {L : List Ins} (h : IsC w a c L) (n : Nat) : IsC w a c (L.take n) := by
  obtain ⟨h1, h2, h3⟩ := h
  refine ⟨by rw [List.length_take]; omega, h2, ?_⟩
  rcases h3 with h3 | ⟨b, off, h3, h4, h5⟩
  · left; rw [List.length_take]; omega
  · refine .inr ⟨b, off, h3, h4, fun j hj => ?_⟩
    rw [List.length_take] at hj
    rw [List.getElem_take]
    exact h5 j (by omega)
theorem check_at (a : Option Addr) (cap : Nat) (L : List Ins) (n : Nat) (hn : L.length = n) (t c r : Int) (hr : chk L t c = r) (w : World) (h : IsC w a cap L) :
    Calls Tryd.prog 9 #[.slice a n cap, .int .i64 t, .int .i64 c] w fun e w' => e = .returned (.int .i64 r) ∧ Below w.heap.size w w' := by
  subst hn hr
  exact check_any a cap L t c w h
theorem refCheck_at (a : Option Addr) (cap : Nat) (L : List Ins) (n : Nat) (hn : L.length = n) (t c r : Int) (hr : chk L t c = r) (w : World) (h : IsC w a cap L) :
    Calls Tryd.prog 10 #[.slice a n cap, .int .i64 t, .int .i64 c] w fun e w' => e = .returned (.int .i64 r) ∧ Below w.heap.size w w' := by
  subst hn hr
  exact refCheck_any a cap L t c w h
set_option maxRecDepth 100000 in
set_option maxHeartbeats 2000000 in
theorem walk_CodeChecks (a : Option Addr) (l cap : Nat) (L : List Ins) (t c : Int) (w : World) (h : IsC w a cap L) (hl : L.length = l) (hT : Tabs w) :
    Calls Tryd.prog 3 #[.slice a l cap, .int .i64 t, .int .i64 c] w fun e w' => e = .returned (.bool true) ∧ Below w.heap.size w w' := by
  have hcap := h.1
  have hcm := h.2.1
  have HT := Lib.hid hT
  have HC := Lib.hid (h.take 40)
  obtain ⟨k, hk⟩ : ∃ k, k = min l 40 := ⟨_, rfl⟩
  have HCl := Lib.hid (show (L.take 40).length = k by rw [List.length_take, hk, hl]; omega)
  obtain ⟨r, hr⟩ : ∃ r, chk (L.take 40) t c = r := ⟨_, rfl⟩
  have HR := Lib.hid hr
  have hmin1 : min (l : Int) 40 = (k : Int) := by omega
  have hkl : k ≤ l := by omega
  have hkc : k ≤ cap := by omega
  rw [hl] at hcap
  clear hk hr h hT hl
  go_enter Tryd.func3, Tryd.ntmps3
  go_wp2_with fail
  refine (check_at _ _ _ _ HCl.out _ _ _ HR.out _ HC.out).mono ?_
  rintro e w1 ⟨rfl, b1⟩
  have HB1 := Lib.hid b1
  clear b1
  go_wp2_with fail
  refine (refCheck_at _ _ _ _ HCl.out _ _ _ HR.out _ (HC.out.next HB1.out)).mono ?_
  rintro e w2 ⟨rfl, b2⟩
  have HB2 := Lib.hid (below_then' HB1.out b2 HB1.out.size)
  clear b2
  go_wp2_with fail
  refine (works_any _ (HT.out.next HB2.out)).mono ?_
  rintro e w3 ⟨rfl, b3⟩
  have HB3 := Lib.hid (below_then' HB2.out b3 HB2.out.size)
  clear b3
  go_wp2_with fail
  go_ret
  exact ⟨rfl, HB3.out⟩
end Go.Proofs.YtegopamfdgeblaaDoor
