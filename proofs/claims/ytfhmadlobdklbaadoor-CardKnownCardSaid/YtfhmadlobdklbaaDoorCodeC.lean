/- The closure over the rows: may an instruction be; Check. -/
import Derived.Test.YtfhmadlobdklbaaDoorCodeB
namespace Go.Proofs.YtfhmadlobdklbaaDoor
open Go.RowKit
set_option linter.unusedVariables false
set_option linter.unusedSimpArgs false

/-- An instruction. -/
structure Ins where
  op : Int
  a : Int
  b : Int
  deriving DecidableEq
def insV (x : Ins) : Value := .agg #[.int .i64 x.op, .int .i64 x.a, .int .i64 x.b]
/-- May it be? -/
def one (len t c : Int) (x : Ins) : Bool := btw 1 24 x.op && (aOk len t x.op.toNat x.a && bOk c x.op.toNat x.b)
theorem quiet_same {P : Program} {f : FuncId} {args : Array Value} {w : World} {n : Nat} {v : Value}
    (h : Calls P f args (w.drewN n) fun e w' => e = .returned v ∧ w.drewN n = w') : Calls P f args (w.drewN n) fun e w'' => e = .returned v ∧ ∃ m, w'' = w.drewN m :=
  h.mono fun _ _ ⟨he, hm⟩ => ⟨he, n, hm.symm⟩
theorem below_drew (w : World) (n : Nat) : Below w.heap.size w (w.drewN n) := below_draws (Below.refl _ _) n
theorem isOp_at (n : Int) (r : Bool) (hr : btw 1 24 n = r) (w : World) :
    Calls Tryd.prog 47 #[.int .i64 n] w fun e w' => e = .returned (.bool r) ∧ w = w' := by
  subst hr
  by_cases a : 1 ≤ n
  · by_cases b : n ≤ 24
    · go_enter Tryd.func47, Tryd.ntmps47
      go_wp2
      go_ret
      exact ⟨bool_ret (by simp [btw]; omega), rfl⟩
    · go_enter Tryd.func47, Tryd.ntmps47
      go_wp2
      go_ret
      exact ⟨bool_ret (by simp [btw]; omega), rfl⟩
  · go_enter Tryd.func47, Tryd.ntmps47
    go_wp2
    go_ret
    exact ⟨bool_ret (by simp [btw]; omega), rfl⟩
theorem Asks.at {w : World} {k : Nat} {cs : Array Value} {p : Int → Bool} (h : Asks w k cs p) (n : Int) (r : Bool) (hr : p n = r) (m : Nat) :
    Calls Tryd.prog k (#[.int .i64 n] ++ cs) (w.drewN m) fun e w' => e = .returned (.bool r) ∧ ∃ m', w' = w.drewN m' := by
  subst hr
  exact quiet_same (h.2 _ (below_drew w m) n)
set_option maxRecDepth 100000 in
set_option maxHeartbeats 2000000 in
theorem ask_any (x : Ins) (g : Nat) (len t c : Int) (w : World) (h : RowsAt w g len t c) :
    Calls Tryd.prog 46 #[.agg #[.int .i64 x.op, .int .i64 x.a, .int .i64 x.b], .pointer (some ⟨g, 0, none⟩)] w fun e w' => e = .returned (.bool (one len t c x)) ∧ Below w.heap.size w w' := by
  obtain ⟨op, a, b⟩ := x
  have b0 := below_alloc1 w (.cells #[.int .i64 op, .int .i64 a, .int .i64 b] 53)
  have hR := h.next b0
  have hc0 : (w.alloc (.cells #[.int .i64 op, .int .i64 a, .int .i64 b] 53)).cell? ⟨w.heap.size, 0, none⟩ = some (.int .i64 op) := World.cell?_alloc_new _ _ _ _
  have hc1 : (w.alloc (.cells #[.int .i64 op, .int .i64 a, .int .i64 b] 53)).cell? ⟨w.heap.size, 1, none⟩ = some (.int .i64 a) := World.cell?_alloc_new _ _ _ _
  have hc2 : (w.alloc (.cells #[.int .i64 op, .int .i64 a, .int .i64 b] 53)).cell? ⟨w.heap.size, 2, none⟩ = some (.int .i64 b) := World.cell?_alloc_new _ _ _ _
  have B0 := Lib.hid b0
  clear b0 h
  obtain ⟨r, hr⟩ : ∃ r, r = one len t c ⟨op, a, b⟩ := ⟨_, rfl⟩
  rw [← hr]
  have HR := Lib.hid hr
  clear hr
  by_cases h24 : 1 ≤ op ∧ op ≤ 24
  · obtain ⟨j, rfl⟩ : ∃ j : Nat, op = (j : Int) := ⟨op.toNat, by omega⟩
    obtain ⟨⟨f1, cs1, p1⟩, ⟨f2, cs2, p2⟩, x1, x2, a1, a2⟩ := hR.2 j (by omega) (by omega)
    have HO := Lib.hid (isOp_at (j : Int) true (by simp [btw]; omega))
    unfold askV at x1 x2
    have hf1 : f1 = 43 ∨ f1 = 48 := a1.1
    have hf2 : f2 = 43 ∨ f2 = 48 := a2.1
    have h24' : 1 ≤ j ∧ j ≤ 24 := by omega
    clear hR
    cases ha : aOk len t j a
    · have HA := Lib.hid (a1.at a false ha)
      have HV := Lib.hid (show r = false by rw [HR.out]; simp [one, ha])
      clear a1 a2 hf2
      go_enter Tryd.func46, Tryd.ntmps46
      go_wp2_with fail
      generalize w.alloc (.cells #[.int .i64 (j : Int), .int .i64 a, .int .i64 b] 53) = W at *
      rcases hf1 with rfl | rfl
      · go_quiet (first | (go_at_call 47; refine quiet_same (HO.out _)) | (go_at_call 43; refine HA.out _))
        go_wp2_with fail
        go_ret
        exact ⟨bool_ret HV.out.symm, below_draws B0.out _⟩
      · go_quiet (first | (go_at_call 47; refine quiet_same (HO.out _)) | (go_at_call 48; refine HA.out _))
        go_wp2_with fail
        go_ret
        exact ⟨bool_ret HV.out.symm, below_draws B0.out _⟩
    · obtain ⟨s, hb⟩ : ∃ s, bOk c j b = s := ⟨_, rfl⟩
      have HA := Lib.hid (a1.at a true ha)
      have HC := Lib.hid (a2.at b s hb)
      have HV := Lib.hid (show r = s by rw [HR.out]; simp [one, ha, hb, btw]; omega)
      clear a1 a2
      go_enter Tryd.func46, Tryd.ntmps46
      go_wp2_with fail
      generalize w.alloc (.cells #[.int .i64 (j : Int), .int .i64 a, .int .i64 b] 53) = W at *
      rcases hf1 with rfl | rfl
      all_goals rcases hf2 with rfl | rfl
      · go_quiet (first | (go_at_call 47; refine quiet_same (HO.out _)) | (go_at_call 43; first | refine HA.out _ | refine HC.out _))
        go_wp2_with fail
        go_ret
        exact ⟨bool_ret HV.out.symm, below_draws B0.out _⟩
      · go_quiet (first | (go_at_call 47; refine quiet_same (HO.out _)) | (go_at_call 43; refine HA.out _) | (go_at_call 48; refine HC.out _))
        go_wp2_with fail
        go_ret
        exact ⟨bool_ret HV.out.symm, below_draws B0.out _⟩
      · go_quiet (first | (go_at_call 47; refine quiet_same (HO.out _)) | (go_at_call 43; refine HC.out _) | (go_at_call 48; refine HA.out _))
        go_wp2_with fail
        go_ret
        exact ⟨bool_ret HV.out.symm, below_draws B0.out _⟩
      · go_quiet (first | (go_at_call 47; refine quiet_same (HO.out _)) | (go_at_call 48; first | refine HA.out _ | refine HC.out _))
        go_wp2_with fail
        go_ret
        exact ⟨bool_ret HV.out.symm, below_draws B0.out _⟩
  · have HO := Lib.hid (isOp_at op false (by simp [btw]; omega))
    have HV := Lib.hid (show r = false by rw [HR.out]; simp [one, btw]; omega)
    clear hR
    go_enter Tryd.func46, Tryd.ntmps46
    go_wp2_with fail
    generalize w.alloc (.cells #[.int .i64 op, .int .i64 a, .int .i64 b] 53) = W at *
    go_quiet (first | (go_at_call 47; refine quiet_same (HO.out _)))
    go_wp2_with fail
    go_ret
    exact ⟨bool_ret HV.out.symm, below_draws B0.out _⟩
end Go.Proofs.YtfhmadlobdklbaaDoor
