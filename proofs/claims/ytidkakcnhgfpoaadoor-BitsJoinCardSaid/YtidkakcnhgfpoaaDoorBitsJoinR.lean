/- BitsJoin: its regions that call, by program (genJoin.py). -/
import Derived.Test.YtidkakcnhgfpoaaDoorBitsZ
namespace Go.Proofs.YtidkakcnhgfpoaaDoor
open Go.RowKit Go.Shelf
set_option linter.unusedVariables false
set_option maxRecDepth 100000

/-- The operations of the region. -/
noncomputable def joOps : Array Oper := ((Tryd.f4.body).bind (regionOps 2)).getD #[]
/-- What each of them yields. -/
def joTab (N M b2 b3 b5 b6 : Nat) (w0 : World) : Array Cl := #[.val (sv N),
  .lst (plcI N),
  .val (sv M),
  .lst (plcI M),
  .lst (plcI N),
  .lst (plcI M)]
def joBase (N M b2 b3 b5 b6 : Nat) (w0 : World) : Nat → Option Value := fun s => if s = 2 then some (.pointer (some ⟨b2, 0, none⟩)) else if s = 3 then some (.pointer (some ⟨b3, 0, none⟩)) else if s = 5 then some (.pointer (some ⟨b5, 0, none⟩)) else if s = 6 then some (.pointer (some ⟨b6, 0, none⟩)) else none
theorem joOwn (N M b2 b3 b5 b6 : Nat) (w0 : World) : ownSlots joOps 46 (joBase N M b2 b3 b5 b6 w0) := own_of (bs := [2, 3, 5, 6]) (by kernel_rfl) (fun d hd => by
  unfold joBase
  simp at hd
  simp [hd])
theorem joHold (N M b2 b3 b5 b6 : Nat) (w0 : World) : ∀ w w' : World, (fun w => Inv2 w0 b5 b6 N M w ∧ ArrIn 23 b2 (.int .u64 (wd N 0 : Int)) (.int .u64 (wd N 1 : Int)) (.int .u64 (wd N 2 : Int)) (.int .u64 (wd N 3 : Int)) w ∧ ArrIn 23 b3 (.int .u64 (wd M 0 : Int)) (.int .u64 (wd M 1 : Int)) (.int .u64 (wd M 2 : Int)) (.int .u64 (wd M 3 : Int)) w) w → Below w.heap.size w w' → (fun w => Inv2 w0 b5 b6 N M w ∧ ArrIn 23 b2 (.int .u64 (wd N 0 : Int)) (.int .u64 (wd N 1 : Int)) (.int .u64 (wd N 2 : Int)) (.int .u64 (wd N 3 : Int)) w ∧ ArrIn 23 b3 (.int .u64 (wd M 0 : Int)) (.int .u64 (wd M 1 : Int)) (.int .u64 (wd M 2 : Int)) (.int .u64 (wd M 3 : Int)) w) w' := fun w w' h k => ⟨h.1.next k, ArrIn.next h.2.1 k, ArrIn.next h.2.2 k⟩
/-- The closed facts that the region leans on. -/
structure joRows (N M b2 b3 b5 b6 : Nat) (w0 : World) : Prop where
  hM : True
section
variable {l : Array Bool} {a : Act} {w : World} {Q : Exit → Act → World → Prop} {N M b2 b3 b5 b6 : Nat} {w0 : World}
theorem joSt0 (hR : joRows N M b2 b3 b5 b6 w0) (h : At joOps 46 (joTab N M b2 b3 b5 b6 w0) (joBase N M b2 b3 b5 b6 w0) (fun w => Inv2 w0 b5 b6 N M w ∧ ArrIn 23 b2 (.int .u64 (wd N 0 : Int)) (.int .u64 (wd N 1 : Int)) (.int .u64 (wd N 2 : Int)) (.int .u64 (wd N 3 : Int)) w ∧ ArrIn 23 b3 (.int .u64 (wd M 0 : Int)) (.int .u64 (wd M 1 : Int)) (.int .u64 (wd M 2 : Int)) (.int .u64 (wd M 3 : Int)) w) l a w) (hd : ∀ o : Oper, joOps[0]? = some o → ∀ e ∈ o.after.toList, Region.binds .any e = true → l.getD e.on false = true) : wpOp Tryd.prog joOps Q 0 (At joOps 46 (joTab N M b2 b3 b5 b6 w0) (joBase N M b2 b3 b5 b6 w0) (fun w => Inv2 w0 b5 b6 N M w ∧ ArrIn 23 b2 (.int .u64 (wd N 0 : Int)) (.int .u64 (wd N 1 : Int)) (.int .u64 (wd N 2 : Int)) (.int .u64 (wd N 3 : Int)) w ∧ ArrIn 23 b3 (.int .u64 (wd M 0 : Int)) (.int .u64 (wd M 1 : Int)) (.int .u64 (wd M 2 : Int)) (.int .u64 (wd M 3 : Int)) w) (l.setIfInBounds 0 true)) a w := by
  have hown := joOwn N M b2 b3 b5 b6 w0
  have hH := joHold N M b2 b3 b5 b6 w0
  obtain ⟨o, ho⟩ : ∃ o, joOps[0]? = some o := Option.isSome_iff_exists.1 (by kernel_rfl)
  have hop : o.op = Op.load 23 (Operand.tmp 2) := op_of ho (by kernel_rfl)
  have hg : guardOk joOps a o := guard_none (guard_of ho (by kernel_rfl))
  have v2 : a.eval (.tmp 2) = .pointer (some ⟨b2, 0, none⟩) := h.fixed 2 _ rfl
  exact h.yields hown hH ho hg (v := sv N) (w' := w) (by simp only [execOp, hop, v2]; simp only [Sem.run_bind, load_arr (h.hold.2.1), Result.andThen_ok, Sem.run_pure]) (Below.refl _ _) rfl
theorem joSt1 (hR : joRows N M b2 b3 b5 b6 w0) (h : At joOps 46 (joTab N M b2 b3 b5 b6 w0) (joBase N M b2 b3 b5 b6 w0) (fun w => Inv2 w0 b5 b6 N M w ∧ ArrIn 23 b2 (.int .u64 (wd N 0 : Int)) (.int .u64 (wd N 1 : Int)) (.int .u64 (wd N 2 : Int)) (.int .u64 (wd N 3 : Int)) w ∧ ArrIn 23 b3 (.int .u64 (wd M 0 : Int)) (.int .u64 (wd M 1 : Int)) (.int .u64 (wd M 2 : Int)) (.int .u64 (wd M 3 : Int)) w) l a w) (hd : ∀ o : Oper, joOps[1]? = some o → ∀ e ∈ o.after.toList, Region.binds .any e = true → l.getD e.on false = true) : wpOp Tryd.prog joOps Q 1 (At joOps 46 (joTab N M b2 b3 b5 b6 w0) (joBase N M b2 b3 b5 b6 w0) (fun w => Inv2 w0 b5 b6 N M w ∧ ArrIn 23 b2 (.int .u64 (wd N 0 : Int)) (.int .u64 (wd N 1 : Int)) (.int .u64 (wd N 2 : Int)) (.int .u64 (wd N 3 : Int)) w ∧ ArrIn 23 b3 (.int .u64 (wd M 0 : Int)) (.int .u64 (wd M 1 : Int)) (.int .u64 (wd M 2 : Int)) (.int .u64 (wd M 3 : Int)) w) (l.setIfInBounds 1 true)) a w := by
  have hown := joOwn N M b2 b3 b5 b6 w0
  have hH := joHold N M b2 b3 b5 b6 w0
  obtain ⟨o, ho⟩ : ∃ o, joOps[1]? = some o := Option.isSome_iff_exists.1 (by kernel_rfl)
  have hop : o.op = Op.call { callee := Callee.value (Operand.func 8), args := #[Operand.tmp 11], argTypes := #[23] } := op_of ho (by kernel_rfl)
  have hg : guardOk joOps a o := guard_none (guard_of ho (by kernel_rfl))
  have v11 : a.eval (.tmp 11) = sv N := h.done 0 11 (dep hd 0 (by kernel_rfl)) (by kernel_rfl)
  refine h.calls hown hH ho hg (f := 8) (args := #[sv N]) ?_ ((refOf_any N w).mono ?_)
  · rw [exec_call (enters_of Tryd.func8 (by kernel_rfl) rfl) hop]
    simp only [List.map_toArray, List.map_cons, List.map_nil, v11]
    try rfl
  rintro e w' ⟨⟨a1, c1, rfl, hi⟩, hb⟩
  exact ⟨_, rfl, hb, a1, c1, rfl, hi⟩
theorem joSt2 (hR : joRows N M b2 b3 b5 b6 w0) (h : At joOps 46 (joTab N M b2 b3 b5 b6 w0) (joBase N M b2 b3 b5 b6 w0) (fun w => Inv2 w0 b5 b6 N M w ∧ ArrIn 23 b2 (.int .u64 (wd N 0 : Int)) (.int .u64 (wd N 1 : Int)) (.int .u64 (wd N 2 : Int)) (.int .u64 (wd N 3 : Int)) w ∧ ArrIn 23 b3 (.int .u64 (wd M 0 : Int)) (.int .u64 (wd M 1 : Int)) (.int .u64 (wd M 2 : Int)) (.int .u64 (wd M 3 : Int)) w) l a w) (hd : ∀ o : Oper, joOps[2]? = some o → ∀ e ∈ o.after.toList, Region.binds .any e = true → l.getD e.on false = true) : wpOp Tryd.prog joOps Q 2 (At joOps 46 (joTab N M b2 b3 b5 b6 w0) (joBase N M b2 b3 b5 b6 w0) (fun w => Inv2 w0 b5 b6 N M w ∧ ArrIn 23 b2 (.int .u64 (wd N 0 : Int)) (.int .u64 (wd N 1 : Int)) (.int .u64 (wd N 2 : Int)) (.int .u64 (wd N 3 : Int)) w ∧ ArrIn 23 b3 (.int .u64 (wd M 0 : Int)) (.int .u64 (wd M 1 : Int)) (.int .u64 (wd M 2 : Int)) (.int .u64 (wd M 3 : Int)) w) (l.setIfInBounds 2 true)) a w := by
  have hown := joOwn N M b2 b3 b5 b6 w0
  have hH := joHold N M b2 b3 b5 b6 w0
  obtain ⟨o, ho⟩ : ∃ o, joOps[2]? = some o := Option.isSome_iff_exists.1 (by kernel_rfl)
  have hop : o.op = Op.load 23 (Operand.tmp 3) := op_of ho (by kernel_rfl)
  have hg : guardOk joOps a o := guard_none (guard_of ho (by kernel_rfl))
  have v3 : a.eval (.tmp 3) = .pointer (some ⟨b3, 0, none⟩) := h.fixed 3 _ rfl
  exact h.yields hown hH ho hg (v := sv M) (w' := w) (by simp only [execOp, hop, v3]; simp only [Sem.run_bind, load_arr (h.hold.2.2), Result.andThen_ok, Sem.run_pure]) (Below.refl _ _) rfl
theorem joSt3 (hR : joRows N M b2 b3 b5 b6 w0) (h : At joOps 46 (joTab N M b2 b3 b5 b6 w0) (joBase N M b2 b3 b5 b6 w0) (fun w => Inv2 w0 b5 b6 N M w ∧ ArrIn 23 b2 (.int .u64 (wd N 0 : Int)) (.int .u64 (wd N 1 : Int)) (.int .u64 (wd N 2 : Int)) (.int .u64 (wd N 3 : Int)) w ∧ ArrIn 23 b3 (.int .u64 (wd M 0 : Int)) (.int .u64 (wd M 1 : Int)) (.int .u64 (wd M 2 : Int)) (.int .u64 (wd M 3 : Int)) w) l a w) (hd : ∀ o : Oper, joOps[3]? = some o → ∀ e ∈ o.after.toList, Region.binds .any e = true → l.getD e.on false = true) : wpOp Tryd.prog joOps Q 3 (At joOps 46 (joTab N M b2 b3 b5 b6 w0) (joBase N M b2 b3 b5 b6 w0) (fun w => Inv2 w0 b5 b6 N M w ∧ ArrIn 23 b2 (.int .u64 (wd N 0 : Int)) (.int .u64 (wd N 1 : Int)) (.int .u64 (wd N 2 : Int)) (.int .u64 (wd N 3 : Int)) w ∧ ArrIn 23 b3 (.int .u64 (wd M 0 : Int)) (.int .u64 (wd M 1 : Int)) (.int .u64 (wd M 2 : Int)) (.int .u64 (wd M 3 : Int)) w) (l.setIfInBounds 3 true)) a w := by
  have hown := joOwn N M b2 b3 b5 b6 w0
  have hH := joHold N M b2 b3 b5 b6 w0
  obtain ⟨o, ho⟩ : ∃ o, joOps[3]? = some o := Option.isSome_iff_exists.1 (by kernel_rfl)
  have hop : o.op = Op.call { callee := Callee.value (Operand.func 8), args := #[Operand.tmp 13], argTypes := #[23] } := op_of ho (by kernel_rfl)
  have hg : guardOk joOps a o := guard_none (guard_of ho (by kernel_rfl))
  have v13 : a.eval (.tmp 13) = sv M := h.done 2 13 (dep hd 2 (by kernel_rfl)) (by kernel_rfl)
  refine h.calls hown hH ho hg (f := 8) (args := #[sv M]) ?_ ((refOf_any M w).mono ?_)
  · rw [exec_call (enters_of Tryd.func8 (by kernel_rfl) rfl) hop]
    simp only [List.map_toArray, List.map_cons, List.map_nil, v13]
    try rfl
  rintro e w' ⟨⟨a1, c1, rfl, hi⟩, hb⟩
  exact ⟨_, rfl, hb, a1, c1, rfl, hi⟩
theorem joSt4 (hR : joRows N M b2 b3 b5 b6 w0) (h : At joOps 46 (joTab N M b2 b3 b5 b6 w0) (joBase N M b2 b3 b5 b6 w0) (fun w => Inv2 w0 b5 b6 N M w ∧ ArrIn 23 b2 (.int .u64 (wd N 0 : Int)) (.int .u64 (wd N 1 : Int)) (.int .u64 (wd N 2 : Int)) (.int .u64 (wd N 3 : Int)) w ∧ ArrIn 23 b3 (.int .u64 (wd M 0 : Int)) (.int .u64 (wd M 1 : Int)) (.int .u64 (wd M 2 : Int)) (.int .u64 (wd M 3 : Int)) w) l a w) (hd : ∀ o : Oper, joOps[4]? = some o → ∀ e ∈ o.after.toList, Region.binds .any e = true → l.getD e.on false = true) : wpOp Tryd.prog joOps Q 4 (At joOps 46 (joTab N M b2 b3 b5 b6 w0) (joBase N M b2 b3 b5 b6 w0) (fun w => Inv2 w0 b5 b6 N M w ∧ ArrIn 23 b2 (.int .u64 (wd N 0 : Int)) (.int .u64 (wd N 1 : Int)) (.int .u64 (wd N 2 : Int)) (.int .u64 (wd N 3 : Int)) w ∧ ArrIn 23 b3 (.int .u64 (wd M 0 : Int)) (.int .u64 (wd M 1 : Int)) (.int .u64 (wd M 2 : Int)) (.int .u64 (wd M 3 : Int)) w) (l.setIfInBounds 4 true)) a w := by
  have hown := joOwn N M b2 b3 b5 b6 w0
  have hH := joHold N M b2 b3 b5 b6 w0
  obtain ⟨o, ho⟩ : ∃ o, joOps[4]? = some o := Option.isSome_iff_exists.1 (by kernel_rfl)
  have hop : o.op = Op.assign (Operand.tmp 12) := op_of ho (by kernel_rfl)
  have hg : guardOk joOps a o := guard_none (guard_of ho (by kernel_rfl))
  obtain ⟨p12, q12, v12, hi12⟩ := h.done 1 12 (dep hd 1 (by kernel_rfl)) (by kernel_rfl)
  change a.eval (.tmp 12) = .slice p12 (plcI N).length q12 at v12
  exact h.yields hown hH ho hg (v := .slice p12 (plcI N).length q12) (w' := w) (by simp only [execOp, hop, v12]; kernel_rfl) (Below.refl _ _) ⟨p12, q12, rfl, hi12⟩
theorem joSt5 (hR : joRows N M b2 b3 b5 b6 w0) (h : At joOps 46 (joTab N M b2 b3 b5 b6 w0) (joBase N M b2 b3 b5 b6 w0) (fun w => Inv2 w0 b5 b6 N M w ∧ ArrIn 23 b2 (.int .u64 (wd N 0 : Int)) (.int .u64 (wd N 1 : Int)) (.int .u64 (wd N 2 : Int)) (.int .u64 (wd N 3 : Int)) w ∧ ArrIn 23 b3 (.int .u64 (wd M 0 : Int)) (.int .u64 (wd M 1 : Int)) (.int .u64 (wd M 2 : Int)) (.int .u64 (wd M 3 : Int)) w) l a w) (hd : ∀ o : Oper, joOps[5]? = some o → ∀ e ∈ o.after.toList, Region.binds .any e = true → l.getD e.on false = true) : wpOp Tryd.prog joOps Q 5 (At joOps 46 (joTab N M b2 b3 b5 b6 w0) (joBase N M b2 b3 b5 b6 w0) (fun w => Inv2 w0 b5 b6 N M w ∧ ArrIn 23 b2 (.int .u64 (wd N 0 : Int)) (.int .u64 (wd N 1 : Int)) (.int .u64 (wd N 2 : Int)) (.int .u64 (wd N 3 : Int)) w ∧ ArrIn 23 b3 (.int .u64 (wd M 0 : Int)) (.int .u64 (wd M 1 : Int)) (.int .u64 (wd M 2 : Int)) (.int .u64 (wd M 3 : Int)) w) (l.setIfInBounds 5 true)) a w := by
  have hown := joOwn N M b2 b3 b5 b6 w0
  have hH := joHold N M b2 b3 b5 b6 w0
  obtain ⟨o, ho⟩ : ∃ o, joOps[5]? = some o := Option.isSome_iff_exists.1 (by kernel_rfl)
  have hop : o.op = Op.assign (Operand.tmp 14) := op_of ho (by kernel_rfl)
  have hg : guardOk joOps a o := guard_none (guard_of ho (by kernel_rfl))
  obtain ⟨p14, q14, v14, hi14⟩ := h.done 3 14 (dep hd 3 (by kernel_rfl)) (by kernel_rfl)
  change a.eval (.tmp 14) = .slice p14 (plcI M).length q14 at v14
  exact h.yields hown hH ho hg (v := .slice p14 (plcI M).length q14) (w' := w) (by simp only [execOp, hop, v14]; kernel_rfl) (Below.refl _ _) ⟨p14, q14, rfl, hi14⟩
theorem joSize : joOps.size = 6 := by kernel_rfl
theorem joStep (hR : joRows N M b2 b3 b5 b6 w0) (l : Array Bool) (a : Act) (w : World) (kk : Nat) (h : At joOps 46 (joTab N M b2 b3 b5 b6 w0) (joBase N M b2 b3 b5 b6 w0) (fun w => Inv2 w0 b5 b6 N M w ∧ ArrIn 23 b2 (.int .u64 (wd N 0 : Int)) (.int .u64 (wd N 1 : Int)) (.int .u64 (wd N 2 : Int)) (.int .u64 (wd N 3 : Int)) w ∧ ArrIn 23 b3 (.int .u64 (wd M 0 : Int)) (.int .u64 (wd M 1 : Int)) (.int .u64 (wd M 2 : Int)) (.int .u64 (wd M 3 : Int)) w) l a w) (hi : kk < joOps.size) (hd : ∀ o : Oper, joOps[kk]? = some o → ∀ e ∈ o.after.toList, Region.binds .any e = true → l.getD e.on false = true) : wpOp Tryd.prog joOps Q kk (At joOps 46 (joTab N M b2 b3 b5 b6 w0) (joBase N M b2 b3 b5 b6 w0) (fun w => Inv2 w0 b5 b6 N M w ∧ ArrIn 23 b2 (.int .u64 (wd N 0 : Int)) (.int .u64 (wd N 1 : Int)) (.int .u64 (wd N 2 : Int)) (.int .u64 (wd N 3 : Int)) w ∧ ArrIn 23 b3 (.int .u64 (wd M 0 : Int)) (.int .u64 (wd M 1 : Int)) (.int .u64 (wd M 2 : Int)) (.int .u64 (wd M 3 : Int)) w) (l.setIfInBounds kk true)) a w := by
  rw [joSize] at hi
  match kk, hi, hd with
  | 0, _, hd => exact joSt0 hR h hd
  | 1, _, hd => exact joSt1 hR h hd
  | 2, _, hd => exact joSt2 hR h hd
  | 3, _, hd => exact joSt3 hR h hd
  | 4, _, hd => exact joSt4 hR h hd
  | 5, _, hd => exact joSt5 hR h hd
  | k + 6, hi, _ => omega
end
/-- The operations of the region. -/
noncomputable def jnOps : Array Oper := ((Tryd.f4.body).bind (regionOps 3)).getD #[]
/-- What each of them yields. -/
def jnTab (N M b5 b6 : Nat) (a7 a8 : Option Addr) (c7 c8 : Nat) (w0 : World) : Array Cl := #[.val (sv N),
  .val (sv M),
  .val (sv (N &&& M)),
  .lst (plcI N),
  .lst (plcI M),
  .lst (plcI (N &&& M)),
  .val (sv (N &&& M)),
  .val (.bool true),
  .val (.bool true),
  .val (sv N),
  .val (sv M),
  .val (sv (N ||| M)),
  .lst (plcI N),
  .lst (plcI M),
  .lst (plcI (N ||| M)),
  .val (sv (N ||| M)),
  .val (.bool true),
  .val (.bool true),
  .val (.bool true),
  .val (sv N),
  .val (sv M),
  .val (sv (less N M)),
  .lst (plcI N),
  .lst (plcI M),
  .lst (plcI (less N M)),
  .val (sv (less N M)),
  .val (.bool true),
  .val (.bool true),
  .val (.bool true),
  .val (.bool true),
  .val (.bool true),
  .val (.bool true)]
def jnBase (N M b5 b6 : Nat) (a7 a8 : Option Addr) (c7 c8 : Nat) (w0 : World) : Nat → Option Value := fun s => if s = 5 then some (.pointer (some ⟨b5, 0, none⟩)) else if s = 6 then some (.pointer (some ⟨b6, 0, none⟩)) else if s = 7 then some (.slice a7 (plcI N).length c7) else if s = 8 then some (.slice a8 (plcI M).length c8) else none
theorem jnOwn (N M b5 b6 : Nat) (a7 a8 : Option Addr) (c7 c8 : Nat) (w0 : World) : ownSlots jnOps 46 (jnBase N M b5 b6 a7 a8 c7 c8 w0) := own_of (bs := [5, 6, 7, 8]) (by kernel_rfl) (fun d hd => by
  unfold jnBase
  simp at hd
  simp [hd])
theorem jnHold (N M b5 b6 : Nat) (a7 a8 : Option Addr) (c7 c8 : Nat) (w0 : World) : ∀ w w' : World, (fun w => Inv2 w0 b5 b6 N M w ∧ IsL w a7 c7 (plcI N) ∧ IsL w a8 c8 (plcI M)) w → Below w.heap.size w w' → (fun w => Inv2 w0 b5 b6 N M w ∧ IsL w a7 c7 (plcI N) ∧ IsL w a8 c8 (plcI M)) w' := fun w w' h k => ⟨h.1.next k, h.2.1.next k, h.2.2.next k⟩
/-- The closed facts that the region leans on. -/
structure jnRows (N M b5 b6 : Nat) (a7 a8 : Option Addr) (c7 c8 : Nat) (w0 : World) : Prop where
  hM : fits M
  fa : fits (N &&& M)
  fo : fits (N ||| M)
  fl : fits (less N M)
section
variable {l : Array Bool} {a : Act} {w : World} {Q : Exit → Act → World → Prop} {N M b5 b6 : Nat} {a7 a8 : Option Addr} {c7 c8 : Nat} {w0 : World}
theorem jnSt0 (hR : jnRows N M b5 b6 a7 a8 c7 c8 w0) (h : At jnOps 46 (jnTab N M b5 b6 a7 a8 c7 c8 w0) (jnBase N M b5 b6 a7 a8 c7 c8 w0) (fun w => Inv2 w0 b5 b6 N M w ∧ IsL w a7 c7 (plcI N) ∧ IsL w a8 c8 (plcI M)) l a w) (hd : ∀ o : Oper, jnOps[0]? = some o → ∀ e ∈ o.after.toList, Region.binds .any e = true → l.getD e.on false = true) : wpOp Tryd.prog jnOps Q 0 (At jnOps 46 (jnTab N M b5 b6 a7 a8 c7 c8 w0) (jnBase N M b5 b6 a7 a8 c7 c8 w0) (fun w => Inv2 w0 b5 b6 N M w ∧ IsL w a7 c7 (plcI N) ∧ IsL w a8 c8 (plcI M)) (l.setIfInBounds 0 true)) a w := by
  have hown := jnOwn N M b5 b6 a7 a8 c7 c8 w0
  have hH := jnHold N M b5 b6 a7 a8 c7 c8 w0
  obtain ⟨o, ho⟩ : ∃ o, jnOps[0]? = some o := Option.isSome_iff_exists.1 (by kernel_rfl)
  have hop : o.op = Op.load 24 (Operand.tmp 5) := op_of ho (by kernel_rfl)
  have hg : guardOk jnOps a o := guard_none (guard_of ho (by kernel_rfl))
  have v5 : a.eval (.tmp 5) = .pointer (some ⟨b5, 0, none⟩) := h.fixed 5 _ rfl
  exact h.yields hown hH ho hg (v := sv N) (w' := w) (by simp only [execOp, hop, v5]; simp only [Sem.run_bind, load_set (h.hold.1.1), Result.andThen_ok, Sem.run_pure]) (Below.refl _ _) rfl
theorem jnSt1 (hR : jnRows N M b5 b6 a7 a8 c7 c8 w0) (h : At jnOps 46 (jnTab N M b5 b6 a7 a8 c7 c8 w0) (jnBase N M b5 b6 a7 a8 c7 c8 w0) (fun w => Inv2 w0 b5 b6 N M w ∧ IsL w a7 c7 (plcI N) ∧ IsL w a8 c8 (plcI M)) l a w) (hd : ∀ o : Oper, jnOps[1]? = some o → ∀ e ∈ o.after.toList, Region.binds .any e = true → l.getD e.on false = true) : wpOp Tryd.prog jnOps Q 1 (At jnOps 46 (jnTab N M b5 b6 a7 a8 c7 c8 w0) (jnBase N M b5 b6 a7 a8 c7 c8 w0) (fun w => Inv2 w0 b5 b6 N M w ∧ IsL w a7 c7 (plcI N) ∧ IsL w a8 c8 (plcI M)) (l.setIfInBounds 1 true)) a w := by
  have hown := jnOwn N M b5 b6 a7 a8 c7 c8 w0
  have hH := jnHold N M b5 b6 a7 a8 c7 c8 w0
  obtain ⟨o, ho⟩ : ∃ o, jnOps[1]? = some o := Option.isSome_iff_exists.1 (by kernel_rfl)
  have hop : o.op = Op.load 24 (Operand.tmp 6) := op_of ho (by kernel_rfl)
  have hg : guardOk jnOps a o := guard_none (guard_of ho (by kernel_rfl))
  have v6 : a.eval (.tmp 6) = .pointer (some ⟨b6, 0, none⟩) := h.fixed 6 _ rfl
  exact h.yields hown hH ho hg (v := sv M) (w' := w) (by simp only [execOp, hop, v6]; simp only [Sem.run_bind, load_set (h.hold.1.2.1), Result.andThen_ok, Sem.run_pure]) (Below.refl _ _) rfl
theorem jnSt2 (hR : jnRows N M b5 b6 a7 a8 c7 c8 w0) (h : At jnOps 46 (jnTab N M b5 b6 a7 a8 c7 c8 w0) (jnBase N M b5 b6 a7 a8 c7 c8 w0) (fun w => Inv2 w0 b5 b6 N M w ∧ IsL w a7 c7 (plcI N) ∧ IsL w a8 c8 (plcI M)) l a w) (hd : ∀ o : Oper, jnOps[2]? = some o → ∀ e ∈ o.after.toList, Region.binds .any e = true → l.getD e.on false = true) : wpOp Tryd.prog jnOps Q 2 (At jnOps 46 (jnTab N M b5 b6 a7 a8 c7 c8 w0) (jnBase N M b5 b6 a7 a8 c7 c8 w0) (fun w => Inv2 w0 b5 b6 N M w ∧ IsL w a7 c7 (plcI N) ∧ IsL w a8 c8 (plcI M)) (l.setIfInBounds 2 true)) a w := by
  have hown := jnOwn N M b5 b6 a7 a8 c7 c8 w0
  have hH := jnHold N M b5 b6 a7 a8 c7 c8 w0
  obtain ⟨o, ho⟩ : ∃ o, jnOps[2]? = some o := Option.isSome_iff_exists.1 (by kernel_rfl)
  have hop : o.op = Op.call { callee := Callee.value (Operand.func 22), args := #[Operand.tmp 15, Operand.tmp 16], argTypes := #[24, 24] } := op_of ho (by kernel_rfl)
  have hg : guardOk jnOps a o := guard_none (guard_of ho (by kernel_rfl))
  have v15 : a.eval (.tmp 15) = sv N := h.done 0 15 (dep hd 0 (by kernel_rfl)) (by kernel_rfl)
  have v16 : a.eval (.tmp 16) = sv M := h.done 1 16 (dep hd 1 (by kernel_rfl)) (by kernel_rfl)
  refine h.calls hown hH ho hg (f := 22) (args := #[sv N, sv M]) ?_ ((and_any N M w).mono ?_)
  · rw [exec_call (enters_of Tryd.func22 (by kernel_rfl) rfl) hop]
    simp only [List.map_toArray, List.map_cons, List.map_nil, v15, v16]
    try rfl
  rintro e w' ⟨rfl, hb⟩
  exact ⟨_, rfl, hb, rfl⟩
theorem jnSt3 (hR : jnRows N M b5 b6 a7 a8 c7 c8 w0) (h : At jnOps 46 (jnTab N M b5 b6 a7 a8 c7 c8 w0) (jnBase N M b5 b6 a7 a8 c7 c8 w0) (fun w => Inv2 w0 b5 b6 N M w ∧ IsL w a7 c7 (plcI N) ∧ IsL w a8 c8 (plcI M)) l a w) (hd : ∀ o : Oper, jnOps[3]? = some o → ∀ e ∈ o.after.toList, Region.binds .any e = true → l.getD e.on false = true) : wpOp Tryd.prog jnOps Q 3 (At jnOps 46 (jnTab N M b5 b6 a7 a8 c7 c8 w0) (jnBase N M b5 b6 a7 a8 c7 c8 w0) (fun w => Inv2 w0 b5 b6 N M w ∧ IsL w a7 c7 (plcI N) ∧ IsL w a8 c8 (plcI M)) (l.setIfInBounds 3 true)) a w := by
  have hown := jnOwn N M b5 b6 a7 a8 c7 c8 w0
  have hH := jnHold N M b5 b6 a7 a8 c7 c8 w0
  obtain ⟨o, ho⟩ : ∃ o, jnOps[3]? = some o := Option.isSome_iff_exists.1 (by kernel_rfl)
  have hop : o.op = Op.move (Operand.tmp 7) := op_of ho (by kernel_rfl)
  have hg : guardOk jnOps a o := guard_none (guard_of ho (by kernel_rfl))
  have v7 : a.eval (.tmp 7) = .slice a7 (plcI N).length c7 := h.fixed 7 _ rfl
  exact h.yields hown hH ho hg (v := .slice a7 (plcI N).length c7) (w' := w) (by simp only [execOp, hop, v7]; kernel_rfl) (Below.refl _ _) ⟨a7, c7, rfl, h.hold.2.1⟩
theorem jnSt4 (hR : jnRows N M b5 b6 a7 a8 c7 c8 w0) (h : At jnOps 46 (jnTab N M b5 b6 a7 a8 c7 c8 w0) (jnBase N M b5 b6 a7 a8 c7 c8 w0) (fun w => Inv2 w0 b5 b6 N M w ∧ IsL w a7 c7 (plcI N) ∧ IsL w a8 c8 (plcI M)) l a w) (hd : ∀ o : Oper, jnOps[4]? = some o → ∀ e ∈ o.after.toList, Region.binds .any e = true → l.getD e.on false = true) : wpOp Tryd.prog jnOps Q 4 (At jnOps 46 (jnTab N M b5 b6 a7 a8 c7 c8 w0) (jnBase N M b5 b6 a7 a8 c7 c8 w0) (fun w => Inv2 w0 b5 b6 N M w ∧ IsL w a7 c7 (plcI N) ∧ IsL w a8 c8 (plcI M)) (l.setIfInBounds 4 true)) a w := by
  have hown := jnOwn N M b5 b6 a7 a8 c7 c8 w0
  have hH := jnHold N M b5 b6 a7 a8 c7 c8 w0
  obtain ⟨o, ho⟩ : ∃ o, jnOps[4]? = some o := Option.isSome_iff_exists.1 (by kernel_rfl)
  have hop : o.op = Op.move (Operand.tmp 8) := op_of ho (by kernel_rfl)
  have hg : guardOk jnOps a o := guard_none (guard_of ho (by kernel_rfl))
  have v8 : a.eval (.tmp 8) = .slice a8 (plcI M).length c8 := h.fixed 8 _ rfl
  exact h.yields hown hH ho hg (v := .slice a8 (plcI M).length c8) (w' := w) (by simp only [execOp, hop, v8]; kernel_rfl) (Below.refl _ _) ⟨a8, c8, rfl, h.hold.2.2⟩
theorem jnSt5 (hR : jnRows N M b5 b6 a7 a8 c7 c8 w0) (h : At jnOps 46 (jnTab N M b5 b6 a7 a8 c7 c8 w0) (jnBase N M b5 b6 a7 a8 c7 c8 w0) (fun w => Inv2 w0 b5 b6 N M w ∧ IsL w a7 c7 (plcI N) ∧ IsL w a8 c8 (plcI M)) l a w) (hd : ∀ o : Oper, jnOps[5]? = some o → ∀ e ∈ o.after.toList, Region.binds .any e = true → l.getD e.on false = true) : wpOp Tryd.prog jnOps Q 5 (At jnOps 46 (jnTab N M b5 b6 a7 a8 c7 c8 w0) (jnBase N M b5 b6 a7 a8 c7 c8 w0) (fun w => Inv2 w0 b5 b6 N M w ∧ IsL w a7 c7 (plcI N) ∧ IsL w a8 c8 (plcI M)) (l.setIfInBounds 5 true)) a w := by
  have hown := jnOwn N M b5 b6 a7 a8 c7 c8 w0
  have hH := jnHold N M b5 b6 a7 a8 c7 c8 w0
  obtain ⟨o, ho⟩ : ∃ o, jnOps[5]? = some o := Option.isSome_iff_exists.1 (by kernel_rfl)
  have hop : o.op = Op.call { callee := Callee.value (Operand.func 23), args := #[Operand.tmp 18, Operand.tmp 19], argTypes := #[25, 25] } := op_of ho (by kernel_rfl)
  have hg : guardOk jnOps a o := guard_none (guard_of ho (by kernel_rfl))
  obtain ⟨p18, q18, v18, hi18⟩ := h.done 3 18 (dep hd 3 (by kernel_rfl)) (by kernel_rfl)
  change a.eval (.tmp 18) = .slice p18 (plcI N).length q18 at v18
  obtain ⟨p19, q19, v19, hi19⟩ := h.done 4 19 (dep hd 4 (by kernel_rfl)) (by kernel_rfl)
  change a.eval (.tmp 19) = .slice p19 (plcI M).length q19 at v19
  refine h.calls hown hH ho hg (f := 23) (args := #[.slice p18 (plcI N).length q18, .slice p19 (plcI M).length q19]) ?_ ((refAndN N M p18 p19 q18 q19 w hi18 hi19).mono ?_)
  · rw [exec_call (enters_of Tryd.func23 (by kernel_rfl) rfl) hop]
    simp only [List.map_toArray, List.map_cons, List.map_nil, v18, v19]
    try rfl
  rintro e w' ⟨⟨a1, c1, rfl, hi⟩, hb⟩
  exact ⟨_, rfl, hb, a1, c1, rfl, hi⟩
theorem jnSt6 (hR : jnRows N M b5 b6 a7 a8 c7 c8 w0) (h : At jnOps 46 (jnTab N M b5 b6 a7 a8 c7 c8 w0) (jnBase N M b5 b6 a7 a8 c7 c8 w0) (fun w => Inv2 w0 b5 b6 N M w ∧ IsL w a7 c7 (plcI N) ∧ IsL w a8 c8 (plcI M)) l a w) (hd : ∀ o : Oper, jnOps[6]? = some o → ∀ e ∈ o.after.toList, Region.binds .any e = true → l.getD e.on false = true) : wpOp Tryd.prog jnOps Q 6 (At jnOps 46 (jnTab N M b5 b6 a7 a8 c7 c8 w0) (jnBase N M b5 b6 a7 a8 c7 c8 w0) (fun w => Inv2 w0 b5 b6 N M w ∧ IsL w a7 c7 (plcI N) ∧ IsL w a8 c8 (plcI M)) (l.setIfInBounds 6 true)) a w := by
  have hown := jnOwn N M b5 b6 a7 a8 c7 c8 w0
  have hH := jnHold N M b5 b6 a7 a8 c7 c8 w0
  obtain ⟨o, ho⟩ : ∃ o, jnOps[6]? = some o := Option.isSome_iff_exists.1 (by kernel_rfl)
  have hop : o.op = Op.call { callee := Callee.value (Operand.func 12), args := #[Operand.tmp 20], argTypes := #[25] } := op_of ho (by kernel_rfl)
  have hg : guardOk jnOps a o := guard_none (guard_of ho (by kernel_rfl))
  obtain ⟨p20, q20, v20, hi20⟩ := h.done 5 20 (dep hd 5 (by kernel_rfl)) (by kernel_rfl)
  change a.eval (.tmp 20) = .slice p20 (plcI (N &&& M)).length q20 at v20
  refine h.calls hown hH ho hg (f := 12) (args := #[.slice p20 (plcI (N &&& M)).length q20]) ?_ ((refWordsN (N &&& M) hR.fa p20 q20 w hi20).mono ?_)
  · rw [exec_call (enters_of Tryd.func12 (by kernel_rfl) rfl) hop]
    simp only [List.map_toArray, List.map_cons, List.map_nil, v20]
    try rfl
  rintro e w' ⟨rfl, hb⟩
  exact ⟨_, rfl, hb, rfl⟩
theorem jnSt7 (hR : jnRows N M b5 b6 a7 a8 c7 c8 w0) (h : At jnOps 46 (jnTab N M b5 b6 a7 a8 c7 c8 w0) (jnBase N M b5 b6 a7 a8 c7 c8 w0) (fun w => Inv2 w0 b5 b6 N M w ∧ IsL w a7 c7 (plcI N) ∧ IsL w a8 c8 (plcI M)) l a w) (hd : ∀ o : Oper, jnOps[7]? = some o → ∀ e ∈ o.after.toList, Region.binds .any e = true → l.getD e.on false = true) : wpOp Tryd.prog jnOps Q 7 (At jnOps 46 (jnTab N M b5 b6 a7 a8 c7 c8 w0) (jnBase N M b5 b6 a7 a8 c7 c8 w0) (fun w => Inv2 w0 b5 b6 N M w ∧ IsL w a7 c7 (plcI N) ∧ IsL w a8 c8 (plcI M)) (l.setIfInBounds 7 true)) a w := by
  have hown := jnOwn N M b5 b6 a7 a8 c7 c8 w0
  have hH := jnHold N M b5 b6 a7 a8 c7 c8 w0
  obtain ⟨o, ho⟩ : ∃ o, jnOps[7]? = some o := Option.isSome_iff_exists.1 (by kernel_rfl)
  have hop : o.op = Op.binOp BinOp.eql 24 (Operand.tmp 17) (Operand.tmp 21) 24 := op_of ho (by kernel_rfl)
  have hg : guardOk jnOps a o := guard_none (guard_of ho (by kernel_rfl))
  have v17 : a.eval (.tmp 17) = sv (N &&& M) := h.done 2 17 (dep hd 2 (by kernel_rfl)) (by kernel_rfl)
  have v21 : a.eval (.tmp 21) = sv (N &&& M) := h.done 6 21 (dep hd 6 (by kernel_rfl)) (by kernel_rfl)
  exact h.yields hown hH ho hg (v := .bool true) (w' := w) (by simp only [execOp, hop, v17, v21]; simp only [Sem.run_bind, run_eqGuard_agg (P := Tryd.prog) (w := w) _ _ _ _ _ _ eqg, run_eql_struct, equal_same (N &&& M) hR.fa, Result.andThen_ok, Sem.run_pure]) (Below.refl _ _) rfl
theorem jnSt8 (hR : jnRows N M b5 b6 a7 a8 c7 c8 w0) (h : At jnOps 46 (jnTab N M b5 b6 a7 a8 c7 c8 w0) (jnBase N M b5 b6 a7 a8 c7 c8 w0) (fun w => Inv2 w0 b5 b6 N M w ∧ IsL w a7 c7 (plcI N) ∧ IsL w a8 c8 (plcI M)) l a w) (hd : ∀ o : Oper, jnOps[8]? = some o → ∀ e ∈ o.after.toList, Region.binds .any e = true → l.getD e.on false = true) : wpOp Tryd.prog jnOps Q 8 (At jnOps 46 (jnTab N M b5 b6 a7 a8 c7 c8 w0) (jnBase N M b5 b6 a7 a8 c7 c8 w0) (fun w => Inv2 w0 b5 b6 N M w ∧ IsL w a7 c7 (plcI N) ∧ IsL w a8 c8 (plcI M)) (l.setIfInBounds 8 true)) a w := by
  have hown := jnOwn N M b5 b6 a7 a8 c7 c8 w0
  have hH := jnHold N M b5 b6 a7 a8 c7 c8 w0
  obtain ⟨o, ho⟩ : ∃ o, jnOps[8]? = some o := Option.isSome_iff_exists.1 (by kernel_rfl)
  have hop : o.op = Op.move (Operand.tmp 22) := op_of ho (by kernel_rfl)
  have hg : guardOk jnOps a o := guard_none (guard_of ho (by kernel_rfl))
  have v22 : a.eval (.tmp 22) = .bool true := h.done 7 22 (dep hd 7 (by kernel_rfl)) (by kernel_rfl)
  exact h.yields hown hH ho hg (v := .bool true) (w' := w) (by simp only [execOp, hop, v22]; kernel_rfl) (Below.refl _ _) rfl
theorem jnSt9 (hR : jnRows N M b5 b6 a7 a8 c7 c8 w0) (h : At jnOps 46 (jnTab N M b5 b6 a7 a8 c7 c8 w0) (jnBase N M b5 b6 a7 a8 c7 c8 w0) (fun w => Inv2 w0 b5 b6 N M w ∧ IsL w a7 c7 (plcI N) ∧ IsL w a8 c8 (plcI M)) l a w) (hd : ∀ o : Oper, jnOps[9]? = some o → ∀ e ∈ o.after.toList, Region.binds .any e = true → l.getD e.on false = true) : wpOp Tryd.prog jnOps Q 9 (At jnOps 46 (jnTab N M b5 b6 a7 a8 c7 c8 w0) (jnBase N M b5 b6 a7 a8 c7 c8 w0) (fun w => Inv2 w0 b5 b6 N M w ∧ IsL w a7 c7 (plcI N) ∧ IsL w a8 c8 (plcI M)) (l.setIfInBounds 9 true)) a w := by
  have hown := jnOwn N M b5 b6 a7 a8 c7 c8 w0
  have hH := jnHold N M b5 b6 a7 a8 c7 c8 w0
  obtain ⟨o, ho⟩ : ∃ o, jnOps[9]? = some o := Option.isSome_iff_exists.1 (by kernel_rfl)
  have hop : o.op = Op.load 24 (Operand.tmp 5) := op_of ho (by kernel_rfl)
  have hg : guardOk jnOps a o := h.guard hown (guard_of ho (g := some (8, true)) (by kernel_rfl)) (dep hd 8 (by kernel_rfl)) rfl (by decide +kernel)
  have v5 : a.eval (.tmp 5) = .pointer (some ⟨b5, 0, none⟩) := h.fixed 5 _ rfl
  exact h.yields hown hH ho hg (v := sv N) (w' := w) (by simp only [execOp, hop, v5]; simp only [Sem.run_bind, load_set (h.hold.1.1), Result.andThen_ok, Sem.run_pure]) (Below.refl _ _) rfl
theorem jnSt10 (hR : jnRows N M b5 b6 a7 a8 c7 c8 w0) (h : At jnOps 46 (jnTab N M b5 b6 a7 a8 c7 c8 w0) (jnBase N M b5 b6 a7 a8 c7 c8 w0) (fun w => Inv2 w0 b5 b6 N M w ∧ IsL w a7 c7 (plcI N) ∧ IsL w a8 c8 (plcI M)) l a w) (hd : ∀ o : Oper, jnOps[10]? = some o → ∀ e ∈ o.after.toList, Region.binds .any e = true → l.getD e.on false = true) : wpOp Tryd.prog jnOps Q 10 (At jnOps 46 (jnTab N M b5 b6 a7 a8 c7 c8 w0) (jnBase N M b5 b6 a7 a8 c7 c8 w0) (fun w => Inv2 w0 b5 b6 N M w ∧ IsL w a7 c7 (plcI N) ∧ IsL w a8 c8 (plcI M)) (l.setIfInBounds 10 true)) a w := by
  have hown := jnOwn N M b5 b6 a7 a8 c7 c8 w0
  have hH := jnHold N M b5 b6 a7 a8 c7 c8 w0
  obtain ⟨o, ho⟩ : ∃ o, jnOps[10]? = some o := Option.isSome_iff_exists.1 (by kernel_rfl)
  have hop : o.op = Op.load 24 (Operand.tmp 6) := op_of ho (by kernel_rfl)
  have hg : guardOk jnOps a o := h.guard hown (guard_of ho (g := some (8, true)) (by kernel_rfl)) (dep hd 8 (by kernel_rfl)) rfl (by decide +kernel)
  have v6 : a.eval (.tmp 6) = .pointer (some ⟨b6, 0, none⟩) := h.fixed 6 _ rfl
  exact h.yields hown hH ho hg (v := sv M) (w' := w) (by simp only [execOp, hop, v6]; simp only [Sem.run_bind, load_set (h.hold.1.2.1), Result.andThen_ok, Sem.run_pure]) (Below.refl _ _) rfl
theorem jnSt11 (hR : jnRows N M b5 b6 a7 a8 c7 c8 w0) (h : At jnOps 46 (jnTab N M b5 b6 a7 a8 c7 c8 w0) (jnBase N M b5 b6 a7 a8 c7 c8 w0) (fun w => Inv2 w0 b5 b6 N M w ∧ IsL w a7 c7 (plcI N) ∧ IsL w a8 c8 (plcI M)) l a w) (hd : ∀ o : Oper, jnOps[11]? = some o → ∀ e ∈ o.after.toList, Region.binds .any e = true → l.getD e.on false = true) : wpOp Tryd.prog jnOps Q 11 (At jnOps 46 (jnTab N M b5 b6 a7 a8 c7 c8 w0) (jnBase N M b5 b6 a7 a8 c7 c8 w0) (fun w => Inv2 w0 b5 b6 N M w ∧ IsL w a7 c7 (plcI N) ∧ IsL w a8 c8 (plcI M)) (l.setIfInBounds 11 true)) a w := by
  have hown := jnOwn N M b5 b6 a7 a8 c7 c8 w0
  have hH := jnHold N M b5 b6 a7 a8 c7 c8 w0
  obtain ⟨o, ho⟩ : ∃ o, jnOps[11]? = some o := Option.isSome_iff_exists.1 (by kernel_rfl)
  have hop : o.op = Op.call { callee := Callee.value (Operand.func 24), args := #[Operand.tmp 24, Operand.tmp 25], argTypes := #[24, 24] } := op_of ho (by kernel_rfl)
  have hg : guardOk jnOps a o := h.guard hown (guard_of ho (g := some (8, true)) (by kernel_rfl)) (dep hd 8 (by kernel_rfl)) rfl (by decide +kernel)
  have v24 : a.eval (.tmp 24) = sv N := h.done 9 24 (dep hd 9 (by kernel_rfl)) (by kernel_rfl)
  have v25 : a.eval (.tmp 25) = sv M := h.done 10 25 (dep hd 10 (by kernel_rfl)) (by kernel_rfl)
  refine h.calls hown hH ho hg (f := 24) (args := #[sv N, sv M]) ?_ ((or_any N M w).mono ?_)
  · rw [exec_call (enters_of Tryd.func24 (by kernel_rfl) rfl) hop]
    simp only [List.map_toArray, List.map_cons, List.map_nil, v24, v25]
    try rfl
  rintro e w' ⟨rfl, hb⟩
  exact ⟨_, rfl, hb, rfl⟩
theorem jnSt12 (hR : jnRows N M b5 b6 a7 a8 c7 c8 w0) (h : At jnOps 46 (jnTab N M b5 b6 a7 a8 c7 c8 w0) (jnBase N M b5 b6 a7 a8 c7 c8 w0) (fun w => Inv2 w0 b5 b6 N M w ∧ IsL w a7 c7 (plcI N) ∧ IsL w a8 c8 (plcI M)) l a w) (hd : ∀ o : Oper, jnOps[12]? = some o → ∀ e ∈ o.after.toList, Region.binds .any e = true → l.getD e.on false = true) : wpOp Tryd.prog jnOps Q 12 (At jnOps 46 (jnTab N M b5 b6 a7 a8 c7 c8 w0) (jnBase N M b5 b6 a7 a8 c7 c8 w0) (fun w => Inv2 w0 b5 b6 N M w ∧ IsL w a7 c7 (plcI N) ∧ IsL w a8 c8 (plcI M)) (l.setIfInBounds 12 true)) a w := by
  have hown := jnOwn N M b5 b6 a7 a8 c7 c8 w0
  have hH := jnHold N M b5 b6 a7 a8 c7 c8 w0
  obtain ⟨o, ho⟩ : ∃ o, jnOps[12]? = some o := Option.isSome_iff_exists.1 (by kernel_rfl)
  have hop : o.op = Op.move (Operand.tmp 7) := op_of ho (by kernel_rfl)
  have hg : guardOk jnOps a o := h.guard hown (guard_of ho (g := some (8, true)) (by kernel_rfl)) (dep hd 8 (by kernel_rfl)) rfl (by decide +kernel)
  have v7 : a.eval (.tmp 7) = .slice a7 (plcI N).length c7 := h.fixed 7 _ rfl
  exact h.yields hown hH ho hg (v := .slice a7 (plcI N).length c7) (w' := w) (by simp only [execOp, hop, v7]; kernel_rfl) (Below.refl _ _) ⟨a7, c7, rfl, h.hold.2.1⟩
theorem jnSt13 (hR : jnRows N M b5 b6 a7 a8 c7 c8 w0) (h : At jnOps 46 (jnTab N M b5 b6 a7 a8 c7 c8 w0) (jnBase N M b5 b6 a7 a8 c7 c8 w0) (fun w => Inv2 w0 b5 b6 N M w ∧ IsL w a7 c7 (plcI N) ∧ IsL w a8 c8 (plcI M)) l a w) (hd : ∀ o : Oper, jnOps[13]? = some o → ∀ e ∈ o.after.toList, Region.binds .any e = true → l.getD e.on false = true) : wpOp Tryd.prog jnOps Q 13 (At jnOps 46 (jnTab N M b5 b6 a7 a8 c7 c8 w0) (jnBase N M b5 b6 a7 a8 c7 c8 w0) (fun w => Inv2 w0 b5 b6 N M w ∧ IsL w a7 c7 (plcI N) ∧ IsL w a8 c8 (plcI M)) (l.setIfInBounds 13 true)) a w := by
  have hown := jnOwn N M b5 b6 a7 a8 c7 c8 w0
  have hH := jnHold N M b5 b6 a7 a8 c7 c8 w0
  obtain ⟨o, ho⟩ : ∃ o, jnOps[13]? = some o := Option.isSome_iff_exists.1 (by kernel_rfl)
  have hop : o.op = Op.move (Operand.tmp 8) := op_of ho (by kernel_rfl)
  have hg : guardOk jnOps a o := h.guard hown (guard_of ho (g := some (8, true)) (by kernel_rfl)) (dep hd 8 (by kernel_rfl)) rfl (by decide +kernel)
  have v8 : a.eval (.tmp 8) = .slice a8 (plcI M).length c8 := h.fixed 8 _ rfl
  exact h.yields hown hH ho hg (v := .slice a8 (plcI M).length c8) (w' := w) (by simp only [execOp, hop, v8]; kernel_rfl) (Below.refl _ _) ⟨a8, c8, rfl, h.hold.2.2⟩
theorem jnSt14 (hR : jnRows N M b5 b6 a7 a8 c7 c8 w0) (h : At jnOps 46 (jnTab N M b5 b6 a7 a8 c7 c8 w0) (jnBase N M b5 b6 a7 a8 c7 c8 w0) (fun w => Inv2 w0 b5 b6 N M w ∧ IsL w a7 c7 (plcI N) ∧ IsL w a8 c8 (plcI M)) l a w) (hd : ∀ o : Oper, jnOps[14]? = some o → ∀ e ∈ o.after.toList, Region.binds .any e = true → l.getD e.on false = true) : wpOp Tryd.prog jnOps Q 14 (At jnOps 46 (jnTab N M b5 b6 a7 a8 c7 c8 w0) (jnBase N M b5 b6 a7 a8 c7 c8 w0) (fun w => Inv2 w0 b5 b6 N M w ∧ IsL w a7 c7 (plcI N) ∧ IsL w a8 c8 (plcI M)) (l.setIfInBounds 14 true)) a w := by
  have hown := jnOwn N M b5 b6 a7 a8 c7 c8 w0
  have hH := jnHold N M b5 b6 a7 a8 c7 c8 w0
  obtain ⟨o, ho⟩ : ∃ o, jnOps[14]? = some o := Option.isSome_iff_exists.1 (by kernel_rfl)
  have hop : o.op = Op.call { callee := Callee.value (Operand.func 25), args := #[Operand.tmp 27, Operand.tmp 28], argTypes := #[25, 25] } := op_of ho (by kernel_rfl)
  have hg : guardOk jnOps a o := h.guard hown (guard_of ho (g := some (8, true)) (by kernel_rfl)) (dep hd 8 (by kernel_rfl)) rfl (by decide +kernel)
  obtain ⟨p27, q27, v27, hi27⟩ := h.done 12 27 (dep hd 12 (by kernel_rfl)) (by kernel_rfl)
  change a.eval (.tmp 27) = .slice p27 (plcI N).length q27 at v27
  obtain ⟨p28, q28, v28, hi28⟩ := h.done 13 28 (dep hd 13 (by kernel_rfl)) (by kernel_rfl)
  change a.eval (.tmp 28) = .slice p28 (plcI M).length q28 at v28
  refine h.calls hown hH ho hg (f := 25) (args := #[.slice p27 (plcI N).length q27, .slice p28 (plcI M).length q28]) ?_ ((refOrN N M hR.hM p27 p28 q27 q28 w hi27 hi28).mono ?_)
  · rw [exec_call (enters_of Tryd.func25 (by kernel_rfl) rfl) hop]
    simp only [List.map_toArray, List.map_cons, List.map_nil, v27, v28]
    try rfl
  rintro e w' ⟨⟨a1, c1, rfl, hi⟩, hb⟩
  exact ⟨_, rfl, hb, a1, c1, rfl, hi⟩
theorem jnSt15 (hR : jnRows N M b5 b6 a7 a8 c7 c8 w0) (h : At jnOps 46 (jnTab N M b5 b6 a7 a8 c7 c8 w0) (jnBase N M b5 b6 a7 a8 c7 c8 w0) (fun w => Inv2 w0 b5 b6 N M w ∧ IsL w a7 c7 (plcI N) ∧ IsL w a8 c8 (plcI M)) l a w) (hd : ∀ o : Oper, jnOps[15]? = some o → ∀ e ∈ o.after.toList, Region.binds .any e = true → l.getD e.on false = true) : wpOp Tryd.prog jnOps Q 15 (At jnOps 46 (jnTab N M b5 b6 a7 a8 c7 c8 w0) (jnBase N M b5 b6 a7 a8 c7 c8 w0) (fun w => Inv2 w0 b5 b6 N M w ∧ IsL w a7 c7 (plcI N) ∧ IsL w a8 c8 (plcI M)) (l.setIfInBounds 15 true)) a w := by
  have hown := jnOwn N M b5 b6 a7 a8 c7 c8 w0
  have hH := jnHold N M b5 b6 a7 a8 c7 c8 w0
  obtain ⟨o, ho⟩ : ∃ o, jnOps[15]? = some o := Option.isSome_iff_exists.1 (by kernel_rfl)
  have hop : o.op = Op.call { callee := Callee.value (Operand.func 12), args := #[Operand.tmp 29], argTypes := #[25] } := op_of ho (by kernel_rfl)
  have hg : guardOk jnOps a o := h.guard hown (guard_of ho (g := some (8, true)) (by kernel_rfl)) (dep hd 8 (by kernel_rfl)) rfl (by decide +kernel)
  obtain ⟨p29, q29, v29, hi29⟩ := h.done 14 29 (dep hd 14 (by kernel_rfl)) (by kernel_rfl)
  change a.eval (.tmp 29) = .slice p29 (plcI (N ||| M)).length q29 at v29
  refine h.calls hown hH ho hg (f := 12) (args := #[.slice p29 (plcI (N ||| M)).length q29]) ?_ ((refWordsN (N ||| M) hR.fo p29 q29 w hi29).mono ?_)
  · rw [exec_call (enters_of Tryd.func12 (by kernel_rfl) rfl) hop]
    simp only [List.map_toArray, List.map_cons, List.map_nil, v29]
    try rfl
  rintro e w' ⟨rfl, hb⟩
  exact ⟨_, rfl, hb, rfl⟩
theorem jnSt16 (hR : jnRows N M b5 b6 a7 a8 c7 c8 w0) (h : At jnOps 46 (jnTab N M b5 b6 a7 a8 c7 c8 w0) (jnBase N M b5 b6 a7 a8 c7 c8 w0) (fun w => Inv2 w0 b5 b6 N M w ∧ IsL w a7 c7 (plcI N) ∧ IsL w a8 c8 (plcI M)) l a w) (hd : ∀ o : Oper, jnOps[16]? = some o → ∀ e ∈ o.after.toList, Region.binds .any e = true → l.getD e.on false = true) : wpOp Tryd.prog jnOps Q 16 (At jnOps 46 (jnTab N M b5 b6 a7 a8 c7 c8 w0) (jnBase N M b5 b6 a7 a8 c7 c8 w0) (fun w => Inv2 w0 b5 b6 N M w ∧ IsL w a7 c7 (plcI N) ∧ IsL w a8 c8 (plcI M)) (l.setIfInBounds 16 true)) a w := by
  have hown := jnOwn N M b5 b6 a7 a8 c7 c8 w0
  have hH := jnHold N M b5 b6 a7 a8 c7 c8 w0
  obtain ⟨o, ho⟩ : ∃ o, jnOps[16]? = some o := Option.isSome_iff_exists.1 (by kernel_rfl)
  have hop : o.op = Op.binOp BinOp.eql 24 (Operand.tmp 26) (Operand.tmp 30) 24 := op_of ho (by kernel_rfl)
  have hg : guardOk jnOps a o := h.guard hown (guard_of ho (g := some (8, true)) (by kernel_rfl)) (dep hd 8 (by kernel_rfl)) rfl (by decide +kernel)
  have v26 : a.eval (.tmp 26) = sv (N ||| M) := h.done 11 26 (dep hd 11 (by kernel_rfl)) (by kernel_rfl)
  have v30 : a.eval (.tmp 30) = sv (N ||| M) := h.done 15 30 (dep hd 15 (by kernel_rfl)) (by kernel_rfl)
  exact h.yields hown hH ho hg (v := .bool true) (w' := w) (by simp only [execOp, hop, v26, v30]; simp only [Sem.run_bind, run_eqGuard_agg (P := Tryd.prog) (w := w) _ _ _ _ _ _ eqg, run_eql_struct, equal_same (N ||| M) hR.fo, Result.andThen_ok, Sem.run_pure]) (Below.refl _ _) rfl
theorem jnSt17 (hR : jnRows N M b5 b6 a7 a8 c7 c8 w0) (h : At jnOps 46 (jnTab N M b5 b6 a7 a8 c7 c8 w0) (jnBase N M b5 b6 a7 a8 c7 c8 w0) (fun w => Inv2 w0 b5 b6 N M w ∧ IsL w a7 c7 (plcI N) ∧ IsL w a8 c8 (plcI M)) l a w) (hd : ∀ o : Oper, jnOps[17]? = some o → ∀ e ∈ o.after.toList, Region.binds .any e = true → l.getD e.on false = true) : wpOp Tryd.prog jnOps Q 17 (At jnOps 46 (jnTab N M b5 b6 a7 a8 c7 c8 w0) (jnBase N M b5 b6 a7 a8 c7 c8 w0) (fun w => Inv2 w0 b5 b6 N M w ∧ IsL w a7 c7 (plcI N) ∧ IsL w a8 c8 (plcI M)) (l.setIfInBounds 17 true)) a w := by
  have hown := jnOwn N M b5 b6 a7 a8 c7 c8 w0
  have hH := jnHold N M b5 b6 a7 a8 c7 c8 w0
  obtain ⟨o, ho⟩ : ∃ o, jnOps[17]? = some o := Option.isSome_iff_exists.1 (by kernel_rfl)
  have hop : o.op = Op.pick (Operand.tmp 23) (Operand.tmp 31) (Operand.const (Value.bool false)) := op_of ho (by kernel_rfl)
  have hg : guardOk jnOps a o := guard_none (guard_of ho (by kernel_rfl))
  have v23 : a.eval (.tmp 23) = .bool true := h.done 8 23 (dep hd 8 (by kernel_rfl)) (by kernel_rfl)
  have v31 : a.eval (.tmp 31) = .bool true := h.done 16 31 (dep hd 16 (by kernel_rfl)) (by kernel_rfl)
  exact h.yields hown hH ho hg (v := .bool true) (w' := w) (by simp only [execOp, hop, v23, v31]; kernel_rfl) (Below.refl _ _) rfl
theorem jnSt18 (hR : jnRows N M b5 b6 a7 a8 c7 c8 w0) (h : At jnOps 46 (jnTab N M b5 b6 a7 a8 c7 c8 w0) (jnBase N M b5 b6 a7 a8 c7 c8 w0) (fun w => Inv2 w0 b5 b6 N M w ∧ IsL w a7 c7 (plcI N) ∧ IsL w a8 c8 (plcI M)) l a w) (hd : ∀ o : Oper, jnOps[18]? = some o → ∀ e ∈ o.after.toList, Region.binds .any e = true → l.getD e.on false = true) : wpOp Tryd.prog jnOps Q 18 (At jnOps 46 (jnTab N M b5 b6 a7 a8 c7 c8 w0) (jnBase N M b5 b6 a7 a8 c7 c8 w0) (fun w => Inv2 w0 b5 b6 N M w ∧ IsL w a7 c7 (plcI N) ∧ IsL w a8 c8 (plcI M)) (l.setIfInBounds 18 true)) a w := by
  have hown := jnOwn N M b5 b6 a7 a8 c7 c8 w0
  have hH := jnHold N M b5 b6 a7 a8 c7 c8 w0
  obtain ⟨o, ho⟩ : ∃ o, jnOps[18]? = some o := Option.isSome_iff_exists.1 (by kernel_rfl)
  have hop : o.op = Op.move (Operand.tmp 32) := op_of ho (by kernel_rfl)
  have hg : guardOk jnOps a o := guard_none (guard_of ho (by kernel_rfl))
  have v32 : a.eval (.tmp 32) = .bool true := h.done 17 32 (dep hd 17 (by kernel_rfl)) (by kernel_rfl)
  exact h.yields hown hH ho hg (v := .bool true) (w' := w) (by simp only [execOp, hop, v32]; kernel_rfl) (Below.refl _ _) rfl
theorem jnSt19 (hR : jnRows N M b5 b6 a7 a8 c7 c8 w0) (h : At jnOps 46 (jnTab N M b5 b6 a7 a8 c7 c8 w0) (jnBase N M b5 b6 a7 a8 c7 c8 w0) (fun w => Inv2 w0 b5 b6 N M w ∧ IsL w a7 c7 (plcI N) ∧ IsL w a8 c8 (plcI M)) l a w) (hd : ∀ o : Oper, jnOps[19]? = some o → ∀ e ∈ o.after.toList, Region.binds .any e = true → l.getD e.on false = true) : wpOp Tryd.prog jnOps Q 19 (At jnOps 46 (jnTab N M b5 b6 a7 a8 c7 c8 w0) (jnBase N M b5 b6 a7 a8 c7 c8 w0) (fun w => Inv2 w0 b5 b6 N M w ∧ IsL w a7 c7 (plcI N) ∧ IsL w a8 c8 (plcI M)) (l.setIfInBounds 19 true)) a w := by
  have hown := jnOwn N M b5 b6 a7 a8 c7 c8 w0
  have hH := jnHold N M b5 b6 a7 a8 c7 c8 w0
  obtain ⟨o, ho⟩ : ∃ o, jnOps[19]? = some o := Option.isSome_iff_exists.1 (by kernel_rfl)
  have hop : o.op = Op.load 24 (Operand.tmp 5) := op_of ho (by kernel_rfl)
  have hg : guardOk jnOps a o := h.guard hown (guard_of ho (g := some (18, true)) (by kernel_rfl)) (dep hd 18 (by kernel_rfl)) rfl (by decide +kernel)
  have v5 : a.eval (.tmp 5) = .pointer (some ⟨b5, 0, none⟩) := h.fixed 5 _ rfl
  exact h.yields hown hH ho hg (v := sv N) (w' := w) (by simp only [execOp, hop, v5]; simp only [Sem.run_bind, load_set (h.hold.1.1), Result.andThen_ok, Sem.run_pure]) (Below.refl _ _) rfl
theorem jnSt20 (hR : jnRows N M b5 b6 a7 a8 c7 c8 w0) (h : At jnOps 46 (jnTab N M b5 b6 a7 a8 c7 c8 w0) (jnBase N M b5 b6 a7 a8 c7 c8 w0) (fun w => Inv2 w0 b5 b6 N M w ∧ IsL w a7 c7 (plcI N) ∧ IsL w a8 c8 (plcI M)) l a w) (hd : ∀ o : Oper, jnOps[20]? = some o → ∀ e ∈ o.after.toList, Region.binds .any e = true → l.getD e.on false = true) : wpOp Tryd.prog jnOps Q 20 (At jnOps 46 (jnTab N M b5 b6 a7 a8 c7 c8 w0) (jnBase N M b5 b6 a7 a8 c7 c8 w0) (fun w => Inv2 w0 b5 b6 N M w ∧ IsL w a7 c7 (plcI N) ∧ IsL w a8 c8 (plcI M)) (l.setIfInBounds 20 true)) a w := by
  have hown := jnOwn N M b5 b6 a7 a8 c7 c8 w0
  have hH := jnHold N M b5 b6 a7 a8 c7 c8 w0
  obtain ⟨o, ho⟩ : ∃ o, jnOps[20]? = some o := Option.isSome_iff_exists.1 (by kernel_rfl)
  have hop : o.op = Op.load 24 (Operand.tmp 6) := op_of ho (by kernel_rfl)
  have hg : guardOk jnOps a o := h.guard hown (guard_of ho (g := some (18, true)) (by kernel_rfl)) (dep hd 18 (by kernel_rfl)) rfl (by decide +kernel)
  have v6 : a.eval (.tmp 6) = .pointer (some ⟨b6, 0, none⟩) := h.fixed 6 _ rfl
  exact h.yields hown hH ho hg (v := sv M) (w' := w) (by simp only [execOp, hop, v6]; simp only [Sem.run_bind, load_set (h.hold.1.2.1), Result.andThen_ok, Sem.run_pure]) (Below.refl _ _) rfl
theorem jnSt21 (hR : jnRows N M b5 b6 a7 a8 c7 c8 w0) (h : At jnOps 46 (jnTab N M b5 b6 a7 a8 c7 c8 w0) (jnBase N M b5 b6 a7 a8 c7 c8 w0) (fun w => Inv2 w0 b5 b6 N M w ∧ IsL w a7 c7 (plcI N) ∧ IsL w a8 c8 (plcI M)) l a w) (hd : ∀ o : Oper, jnOps[21]? = some o → ∀ e ∈ o.after.toList, Region.binds .any e = true → l.getD e.on false = true) : wpOp Tryd.prog jnOps Q 21 (At jnOps 46 (jnTab N M b5 b6 a7 a8 c7 c8 w0) (jnBase N M b5 b6 a7 a8 c7 c8 w0) (fun w => Inv2 w0 b5 b6 N M w ∧ IsL w a7 c7 (plcI N) ∧ IsL w a8 c8 (plcI M)) (l.setIfInBounds 21 true)) a w := by
  have hown := jnOwn N M b5 b6 a7 a8 c7 c8 w0
  have hH := jnHold N M b5 b6 a7 a8 c7 c8 w0
  obtain ⟨o, ho⟩ : ∃ o, jnOps[21]? = some o := Option.isSome_iff_exists.1 (by kernel_rfl)
  have hop : o.op = Op.call { callee := Callee.value (Operand.func 26), args := #[Operand.tmp 34, Operand.tmp 35], argTypes := #[24, 24] } := op_of ho (by kernel_rfl)
  have hg : guardOk jnOps a o := h.guard hown (guard_of ho (g := some (18, true)) (by kernel_rfl)) (dep hd 18 (by kernel_rfl)) rfl (by decide +kernel)
  have v34 : a.eval (.tmp 34) = sv N := h.done 19 34 (dep hd 19 (by kernel_rfl)) (by kernel_rfl)
  have v35 : a.eval (.tmp 35) = sv M := h.done 20 35 (dep hd 20 (by kernel_rfl)) (by kernel_rfl)
  refine h.calls hown hH ho hg (f := 26) (args := #[sv N, sv M]) ?_ ((less_any N M w).mono ?_)
  · rw [exec_call (enters_of Tryd.func26 (by kernel_rfl) rfl) hop]
    simp only [List.map_toArray, List.map_cons, List.map_nil, v34, v35]
    try rfl
  rintro e w' ⟨rfl, hb⟩
  exact ⟨_, rfl, hb, rfl⟩
theorem jnSt22 (hR : jnRows N M b5 b6 a7 a8 c7 c8 w0) (h : At jnOps 46 (jnTab N M b5 b6 a7 a8 c7 c8 w0) (jnBase N M b5 b6 a7 a8 c7 c8 w0) (fun w => Inv2 w0 b5 b6 N M w ∧ IsL w a7 c7 (plcI N) ∧ IsL w a8 c8 (plcI M)) l a w) (hd : ∀ o : Oper, jnOps[22]? = some o → ∀ e ∈ o.after.toList, Region.binds .any e = true → l.getD e.on false = true) : wpOp Tryd.prog jnOps Q 22 (At jnOps 46 (jnTab N M b5 b6 a7 a8 c7 c8 w0) (jnBase N M b5 b6 a7 a8 c7 c8 w0) (fun w => Inv2 w0 b5 b6 N M w ∧ IsL w a7 c7 (plcI N) ∧ IsL w a8 c8 (plcI M)) (l.setIfInBounds 22 true)) a w := by
  have hown := jnOwn N M b5 b6 a7 a8 c7 c8 w0
  have hH := jnHold N M b5 b6 a7 a8 c7 c8 w0
  obtain ⟨o, ho⟩ : ∃ o, jnOps[22]? = some o := Option.isSome_iff_exists.1 (by kernel_rfl)
  have hop : o.op = Op.move (Operand.tmp 7) := op_of ho (by kernel_rfl)
  have hg : guardOk jnOps a o := h.guard hown (guard_of ho (g := some (18, true)) (by kernel_rfl)) (dep hd 18 (by kernel_rfl)) rfl (by decide +kernel)
  have v7 : a.eval (.tmp 7) = .slice a7 (plcI N).length c7 := h.fixed 7 _ rfl
  exact h.yields hown hH ho hg (v := .slice a7 (plcI N).length c7) (w' := w) (by simp only [execOp, hop, v7]; kernel_rfl) (Below.refl _ _) ⟨a7, c7, rfl, h.hold.2.1⟩
theorem jnSt23 (hR : jnRows N M b5 b6 a7 a8 c7 c8 w0) (h : At jnOps 46 (jnTab N M b5 b6 a7 a8 c7 c8 w0) (jnBase N M b5 b6 a7 a8 c7 c8 w0) (fun w => Inv2 w0 b5 b6 N M w ∧ IsL w a7 c7 (plcI N) ∧ IsL w a8 c8 (plcI M)) l a w) (hd : ∀ o : Oper, jnOps[23]? = some o → ∀ e ∈ o.after.toList, Region.binds .any e = true → l.getD e.on false = true) : wpOp Tryd.prog jnOps Q 23 (At jnOps 46 (jnTab N M b5 b6 a7 a8 c7 c8 w0) (jnBase N M b5 b6 a7 a8 c7 c8 w0) (fun w => Inv2 w0 b5 b6 N M w ∧ IsL w a7 c7 (plcI N) ∧ IsL w a8 c8 (plcI M)) (l.setIfInBounds 23 true)) a w := by
  have hown := jnOwn N M b5 b6 a7 a8 c7 c8 w0
  have hH := jnHold N M b5 b6 a7 a8 c7 c8 w0
  obtain ⟨o, ho⟩ : ∃ o, jnOps[23]? = some o := Option.isSome_iff_exists.1 (by kernel_rfl)
  have hop : o.op = Op.move (Operand.tmp 8) := op_of ho (by kernel_rfl)
  have hg : guardOk jnOps a o := h.guard hown (guard_of ho (g := some (18, true)) (by kernel_rfl)) (dep hd 18 (by kernel_rfl)) rfl (by decide +kernel)
  have v8 : a.eval (.tmp 8) = .slice a8 (plcI M).length c8 := h.fixed 8 _ rfl
  exact h.yields hown hH ho hg (v := .slice a8 (plcI M).length c8) (w' := w) (by simp only [execOp, hop, v8]; kernel_rfl) (Below.refl _ _) ⟨a8, c8, rfl, h.hold.2.2⟩
theorem jnSt24 (hR : jnRows N M b5 b6 a7 a8 c7 c8 w0) (h : At jnOps 46 (jnTab N M b5 b6 a7 a8 c7 c8 w0) (jnBase N M b5 b6 a7 a8 c7 c8 w0) (fun w => Inv2 w0 b5 b6 N M w ∧ IsL w a7 c7 (plcI N) ∧ IsL w a8 c8 (plcI M)) l a w) (hd : ∀ o : Oper, jnOps[24]? = some o → ∀ e ∈ o.after.toList, Region.binds .any e = true → l.getD e.on false = true) : wpOp Tryd.prog jnOps Q 24 (At jnOps 46 (jnTab N M b5 b6 a7 a8 c7 c8 w0) (jnBase N M b5 b6 a7 a8 c7 c8 w0) (fun w => Inv2 w0 b5 b6 N M w ∧ IsL w a7 c7 (plcI N) ∧ IsL w a8 c8 (plcI M)) (l.setIfInBounds 24 true)) a w := by
  have hown := jnOwn N M b5 b6 a7 a8 c7 c8 w0
  have hH := jnHold N M b5 b6 a7 a8 c7 c8 w0
  obtain ⟨o, ho⟩ : ∃ o, jnOps[24]? = some o := Option.isSome_iff_exists.1 (by kernel_rfl)
  have hop : o.op = Op.call { callee := Callee.value (Operand.func 27), args := #[Operand.tmp 37, Operand.tmp 38], argTypes := #[25, 25] } := op_of ho (by kernel_rfl)
  have hg : guardOk jnOps a o := h.guard hown (guard_of ho (g := some (18, true)) (by kernel_rfl)) (dep hd 18 (by kernel_rfl)) rfl (by decide +kernel)
  obtain ⟨p37, q37, v37, hi37⟩ := h.done 22 37 (dep hd 22 (by kernel_rfl)) (by kernel_rfl)
  change a.eval (.tmp 37) = .slice p37 (plcI N).length q37 at v37
  obtain ⟨p38, q38, v38, hi38⟩ := h.done 23 38 (dep hd 23 (by kernel_rfl)) (by kernel_rfl)
  change a.eval (.tmp 38) = .slice p38 (plcI M).length q38 at v38
  refine h.calls hown hH ho hg (f := 27) (args := #[.slice p37 (plcI N).length q37, .slice p38 (plcI M).length q38]) ?_ ((refMinusN N M p37 p38 q37 q38 w hi37 hi38).mono ?_)
  · rw [exec_call (enters_of Tryd.func27 (by kernel_rfl) rfl) hop]
    simp only [List.map_toArray, List.map_cons, List.map_nil, v37, v38]
    try rfl
  rintro e w' ⟨⟨a1, c1, rfl, hi⟩, hb⟩
  exact ⟨_, rfl, hb, a1, c1, rfl, hi⟩
theorem jnSt25 (hR : jnRows N M b5 b6 a7 a8 c7 c8 w0) (h : At jnOps 46 (jnTab N M b5 b6 a7 a8 c7 c8 w0) (jnBase N M b5 b6 a7 a8 c7 c8 w0) (fun w => Inv2 w0 b5 b6 N M w ∧ IsL w a7 c7 (plcI N) ∧ IsL w a8 c8 (plcI M)) l a w) (hd : ∀ o : Oper, jnOps[25]? = some o → ∀ e ∈ o.after.toList, Region.binds .any e = true → l.getD e.on false = true) : wpOp Tryd.prog jnOps Q 25 (At jnOps 46 (jnTab N M b5 b6 a7 a8 c7 c8 w0) (jnBase N M b5 b6 a7 a8 c7 c8 w0) (fun w => Inv2 w0 b5 b6 N M w ∧ IsL w a7 c7 (plcI N) ∧ IsL w a8 c8 (plcI M)) (l.setIfInBounds 25 true)) a w := by
  have hown := jnOwn N M b5 b6 a7 a8 c7 c8 w0
  have hH := jnHold N M b5 b6 a7 a8 c7 c8 w0
  obtain ⟨o, ho⟩ : ∃ o, jnOps[25]? = some o := Option.isSome_iff_exists.1 (by kernel_rfl)
  have hop : o.op = Op.call { callee := Callee.value (Operand.func 12), args := #[Operand.tmp 39], argTypes := #[25] } := op_of ho (by kernel_rfl)
  have hg : guardOk jnOps a o := h.guard hown (guard_of ho (g := some (18, true)) (by kernel_rfl)) (dep hd 18 (by kernel_rfl)) rfl (by decide +kernel)
  obtain ⟨p39, q39, v39, hi39⟩ := h.done 24 39 (dep hd 24 (by kernel_rfl)) (by kernel_rfl)
  change a.eval (.tmp 39) = .slice p39 (plcI (less N M)).length q39 at v39
  refine h.calls hown hH ho hg (f := 12) (args := #[.slice p39 (plcI (less N M)).length q39]) ?_ ((refWordsN (less N M) hR.fl p39 q39 w hi39).mono ?_)
  · rw [exec_call (enters_of Tryd.func12 (by kernel_rfl) rfl) hop]
    simp only [List.map_toArray, List.map_cons, List.map_nil, v39]
    try rfl
  rintro e w' ⟨rfl, hb⟩
  exact ⟨_, rfl, hb, rfl⟩
theorem jnSt26 (hR : jnRows N M b5 b6 a7 a8 c7 c8 w0) (h : At jnOps 46 (jnTab N M b5 b6 a7 a8 c7 c8 w0) (jnBase N M b5 b6 a7 a8 c7 c8 w0) (fun w => Inv2 w0 b5 b6 N M w ∧ IsL w a7 c7 (plcI N) ∧ IsL w a8 c8 (plcI M)) l a w) (hd : ∀ o : Oper, jnOps[26]? = some o → ∀ e ∈ o.after.toList, Region.binds .any e = true → l.getD e.on false = true) : wpOp Tryd.prog jnOps Q 26 (At jnOps 46 (jnTab N M b5 b6 a7 a8 c7 c8 w0) (jnBase N M b5 b6 a7 a8 c7 c8 w0) (fun w => Inv2 w0 b5 b6 N M w ∧ IsL w a7 c7 (plcI N) ∧ IsL w a8 c8 (plcI M)) (l.setIfInBounds 26 true)) a w := by
  have hown := jnOwn N M b5 b6 a7 a8 c7 c8 w0
  have hH := jnHold N M b5 b6 a7 a8 c7 c8 w0
  obtain ⟨o, ho⟩ : ∃ o, jnOps[26]? = some o := Option.isSome_iff_exists.1 (by kernel_rfl)
  have hop : o.op = Op.binOp BinOp.eql 24 (Operand.tmp 36) (Operand.tmp 40) 24 := op_of ho (by kernel_rfl)
  have hg : guardOk jnOps a o := h.guard hown (guard_of ho (g := some (18, true)) (by kernel_rfl)) (dep hd 18 (by kernel_rfl)) rfl (by decide +kernel)
  have v36 : a.eval (.tmp 36) = sv (less N M) := h.done 21 36 (dep hd 21 (by kernel_rfl)) (by kernel_rfl)
  have v40 : a.eval (.tmp 40) = sv (less N M) := h.done 25 40 (dep hd 25 (by kernel_rfl)) (by kernel_rfl)
  exact h.yields hown hH ho hg (v := .bool true) (w' := w) (by simp only [execOp, hop, v36, v40]; simp only [Sem.run_bind, run_eqGuard_agg (P := Tryd.prog) (w := w) _ _ _ _ _ _ eqg, run_eql_struct, equal_same (less N M) hR.fl, Result.andThen_ok, Sem.run_pure]) (Below.refl _ _) rfl
theorem jnSt27 (hR : jnRows N M b5 b6 a7 a8 c7 c8 w0) (h : At jnOps 46 (jnTab N M b5 b6 a7 a8 c7 c8 w0) (jnBase N M b5 b6 a7 a8 c7 c8 w0) (fun w => Inv2 w0 b5 b6 N M w ∧ IsL w a7 c7 (plcI N) ∧ IsL w a8 c8 (plcI M)) l a w) (hd : ∀ o : Oper, jnOps[27]? = some o → ∀ e ∈ o.after.toList, Region.binds .any e = true → l.getD e.on false = true) : wpOp Tryd.prog jnOps Q 27 (At jnOps 46 (jnTab N M b5 b6 a7 a8 c7 c8 w0) (jnBase N M b5 b6 a7 a8 c7 c8 w0) (fun w => Inv2 w0 b5 b6 N M w ∧ IsL w a7 c7 (plcI N) ∧ IsL w a8 c8 (plcI M)) (l.setIfInBounds 27 true)) a w := by
  have hown := jnOwn N M b5 b6 a7 a8 c7 c8 w0
  have hH := jnHold N M b5 b6 a7 a8 c7 c8 w0
  obtain ⟨o, ho⟩ : ∃ o, jnOps[27]? = some o := Option.isSome_iff_exists.1 (by kernel_rfl)
  have hop : o.op = Op.pick (Operand.tmp 33) (Operand.tmp 41) (Operand.const (Value.bool false)) := op_of ho (by kernel_rfl)
  have hg : guardOk jnOps a o := guard_none (guard_of ho (by kernel_rfl))
  have v33 : a.eval (.tmp 33) = .bool true := h.done 18 33 (dep hd 18 (by kernel_rfl)) (by kernel_rfl)
  have v41 : a.eval (.tmp 41) = .bool true := h.done 26 41 (dep hd 26 (by kernel_rfl)) (by kernel_rfl)
  exact h.yields hown hH ho hg (v := .bool true) (w' := w) (by simp only [execOp, hop, v33, v41]; kernel_rfl) (Below.refl _ _) rfl
theorem jnSt28 (hR : jnRows N M b5 b6 a7 a8 c7 c8 w0) (h : At jnOps 46 (jnTab N M b5 b6 a7 a8 c7 c8 w0) (jnBase N M b5 b6 a7 a8 c7 c8 w0) (fun w => Inv2 w0 b5 b6 N M w ∧ IsL w a7 c7 (plcI N) ∧ IsL w a8 c8 (plcI M)) l a w) (hd : ∀ o : Oper, jnOps[28]? = some o → ∀ e ∈ o.after.toList, Region.binds .any e = true → l.getD e.on false = true) : wpOp Tryd.prog jnOps Q 28 (At jnOps 46 (jnTab N M b5 b6 a7 a8 c7 c8 w0) (jnBase N M b5 b6 a7 a8 c7 c8 w0) (fun w => Inv2 w0 b5 b6 N M w ∧ IsL w a7 c7 (plcI N) ∧ IsL w a8 c8 (plcI M)) (l.setIfInBounds 28 true)) a w := by
  have hown := jnOwn N M b5 b6 a7 a8 c7 c8 w0
  have hH := jnHold N M b5 b6 a7 a8 c7 c8 w0
  obtain ⟨o, ho⟩ : ∃ o, jnOps[28]? = some o := Option.isSome_iff_exists.1 (by kernel_rfl)
  have hop : o.op = Op.move (Operand.tmp 42) := op_of ho (by kernel_rfl)
  have hg : guardOk jnOps a o := guard_none (guard_of ho (by kernel_rfl))
  have v42 : a.eval (.tmp 42) = .bool true := h.done 27 42 (dep hd 27 (by kernel_rfl)) (by kernel_rfl)
  exact h.yields hown hH ho hg (v := .bool true) (w' := w) (by simp only [execOp, hop, v42]; kernel_rfl) (Below.refl _ _) rfl
theorem jnSt29 (hR : jnRows N M b5 b6 a7 a8 c7 c8 w0) (h : At jnOps 46 (jnTab N M b5 b6 a7 a8 c7 c8 w0) (jnBase N M b5 b6 a7 a8 c7 c8 w0) (fun w => Inv2 w0 b5 b6 N M w ∧ IsL w a7 c7 (plcI N) ∧ IsL w a8 c8 (plcI M)) l a w) (hd : ∀ o : Oper, jnOps[29]? = some o → ∀ e ∈ o.after.toList, Region.binds .any e = true → l.getD e.on false = true) : wpOp Tryd.prog jnOps Q 29 (At jnOps 46 (jnTab N M b5 b6 a7 a8 c7 c8 w0) (jnBase N M b5 b6 a7 a8 c7 c8 w0) (fun w => Inv2 w0 b5 b6 N M w ∧ IsL w a7 c7 (plcI N) ∧ IsL w a8 c8 (plcI M)) (l.setIfInBounds 29 true)) a w := by
  have hown := jnOwn N M b5 b6 a7 a8 c7 c8 w0
  have hH := jnHold N M b5 b6 a7 a8 c7 c8 w0
  obtain ⟨o, ho⟩ : ∃ o, jnOps[29]? = some o := Option.isSome_iff_exists.1 (by kernel_rfl)
  have hop : o.op = Op.call { callee := Callee.value (Operand.func 21), args := #[], argTypes := #[] } := op_of ho (by kernel_rfl)
  have hg : guardOk jnOps a o := h.guard hown (guard_of ho (g := some (28, true)) (by kernel_rfl)) (dep hd 28 (by kernel_rfl)) rfl (by decide +kernel)
  refine h.calls hown hH ho hg (f := 21) (args := #[]) ?_ ((works_any w h.hold.1.2.2.1 h.hold.1.2.2.2.1).mono ?_)
  · rw [exec_call (enters_of Tryd.func21 (by kernel_rfl) rfl) hop]
    simp
    skip
  rintro e w' ⟨rfl, hb⟩
  exact ⟨_, rfl, hb, rfl⟩
theorem jnSt30 (hR : jnRows N M b5 b6 a7 a8 c7 c8 w0) (h : At jnOps 46 (jnTab N M b5 b6 a7 a8 c7 c8 w0) (jnBase N M b5 b6 a7 a8 c7 c8 w0) (fun w => Inv2 w0 b5 b6 N M w ∧ IsL w a7 c7 (plcI N) ∧ IsL w a8 c8 (plcI M)) l a w) (hd : ∀ o : Oper, jnOps[30]? = some o → ∀ e ∈ o.after.toList, Region.binds .any e = true → l.getD e.on false = true) : wpOp Tryd.prog jnOps Q 30 (At jnOps 46 (jnTab N M b5 b6 a7 a8 c7 c8 w0) (jnBase N M b5 b6 a7 a8 c7 c8 w0) (fun w => Inv2 w0 b5 b6 N M w ∧ IsL w a7 c7 (plcI N) ∧ IsL w a8 c8 (plcI M)) (l.setIfInBounds 30 true)) a w := by
  have hown := jnOwn N M b5 b6 a7 a8 c7 c8 w0
  have hH := jnHold N M b5 b6 a7 a8 c7 c8 w0
  obtain ⟨o, ho⟩ : ∃ o, jnOps[30]? = some o := Option.isSome_iff_exists.1 (by kernel_rfl)
  have hop : o.op = Op.pick (Operand.tmp 43) (Operand.tmp 44) (Operand.const (Value.bool false)) := op_of ho (by kernel_rfl)
  have hg : guardOk jnOps a o := guard_none (guard_of ho (by kernel_rfl))
  have v43 : a.eval (.tmp 43) = .bool true := h.done 28 43 (dep hd 28 (by kernel_rfl)) (by kernel_rfl)
  have v44 : a.eval (.tmp 44) = .bool true := h.done 29 44 (dep hd 29 (by kernel_rfl)) (by kernel_rfl)
  exact h.yields hown hH ho hg (v := .bool true) (w' := w) (by simp only [execOp, hop, v43, v44]; kernel_rfl) (Below.refl _ _) rfl
theorem jnSt31 (hR : jnRows N M b5 b6 a7 a8 c7 c8 w0) (h : At jnOps 46 (jnTab N M b5 b6 a7 a8 c7 c8 w0) (jnBase N M b5 b6 a7 a8 c7 c8 w0) (fun w => Inv2 w0 b5 b6 N M w ∧ IsL w a7 c7 (plcI N) ∧ IsL w a8 c8 (plcI M)) l a w) (hd : ∀ o : Oper, jnOps[31]? = some o → ∀ e ∈ o.after.toList, Region.binds .any e = true → l.getD e.on false = true) : wpOp Tryd.prog jnOps Q 31 (At jnOps 46 (jnTab N M b5 b6 a7 a8 c7 c8 w0) (jnBase N M b5 b6 a7 a8 c7 c8 w0) (fun w => Inv2 w0 b5 b6 N M w ∧ IsL w a7 c7 (plcI N) ∧ IsL w a8 c8 (plcI M)) (l.setIfInBounds 31 true)) a w := by
  have hown := jnOwn N M b5 b6 a7 a8 c7 c8 w0
  have hH := jnHold N M b5 b6 a7 a8 c7 c8 w0
  obtain ⟨o, ho⟩ : ∃ o, jnOps[31]? = some o := Option.isSome_iff_exists.1 (by kernel_rfl)
  have hop : o.op = Op.assign (Operand.tmp 45) := op_of ho (by kernel_rfl)
  have hg : guardOk jnOps a o := guard_none (guard_of ho (by kernel_rfl))
  have v45 : a.eval (.tmp 45) = .bool true := h.done 30 45 (dep hd 30 (by kernel_rfl)) (by kernel_rfl)
  exact h.yields hown hH ho hg (v := .bool true) (w' := w) (by simp only [execOp, hop, v45]; kernel_rfl) (Below.refl _ _) rfl
theorem jnSize : jnOps.size = 32 := by kernel_rfl
theorem jnStep (hR : jnRows N M b5 b6 a7 a8 c7 c8 w0) (l : Array Bool) (a : Act) (w : World) (kk : Nat) (h : At jnOps 46 (jnTab N M b5 b6 a7 a8 c7 c8 w0) (jnBase N M b5 b6 a7 a8 c7 c8 w0) (fun w => Inv2 w0 b5 b6 N M w ∧ IsL w a7 c7 (plcI N) ∧ IsL w a8 c8 (plcI M)) l a w) (hi : kk < jnOps.size) (hd : ∀ o : Oper, jnOps[kk]? = some o → ∀ e ∈ o.after.toList, Region.binds .any e = true → l.getD e.on false = true) : wpOp Tryd.prog jnOps Q kk (At jnOps 46 (jnTab N M b5 b6 a7 a8 c7 c8 w0) (jnBase N M b5 b6 a7 a8 c7 c8 w0) (fun w => Inv2 w0 b5 b6 N M w ∧ IsL w a7 c7 (plcI N) ∧ IsL w a8 c8 (plcI M)) (l.setIfInBounds kk true)) a w := by
  rw [jnSize] at hi
  match kk, hi, hd with
  | 0, _, hd => exact jnSt0 hR h hd
  | 1, _, hd => exact jnSt1 hR h hd
  | 2, _, hd => exact jnSt2 hR h hd
  | 3, _, hd => exact jnSt3 hR h hd
  | 4, _, hd => exact jnSt4 hR h hd
  | 5, _, hd => exact jnSt5 hR h hd
  | 6, _, hd => exact jnSt6 hR h hd
  | 7, _, hd => exact jnSt7 hR h hd
  | 8, _, hd => exact jnSt8 hR h hd
  | 9, _, hd => exact jnSt9 hR h hd
  | 10, _, hd => exact jnSt10 hR h hd
  | 11, _, hd => exact jnSt11 hR h hd
  | 12, _, hd => exact jnSt12 hR h hd
  | 13, _, hd => exact jnSt13 hR h hd
  | 14, _, hd => exact jnSt14 hR h hd
  | 15, _, hd => exact jnSt15 hR h hd
  | 16, _, hd => exact jnSt16 hR h hd
  | 17, _, hd => exact jnSt17 hR h hd
  | 18, _, hd => exact jnSt18 hR h hd
  | 19, _, hd => exact jnSt19 hR h hd
  | 20, _, hd => exact jnSt20 hR h hd
  | 21, _, hd => exact jnSt21 hR h hd
  | 22, _, hd => exact jnSt22 hR h hd
  | 23, _, hd => exact jnSt23 hR h hd
  | 24, _, hd => exact jnSt24 hR h hd
  | 25, _, hd => exact jnSt25 hR h hd
  | 26, _, hd => exact jnSt26 hR h hd
  | 27, _, hd => exact jnSt27 hR h hd
  | 28, _, hd => exact jnSt28 hR h hd
  | 29, _, hd => exact jnSt29 hR h hd
  | 30, _, hd => exact jnSt30 hR h hd
  | 31, _, hd => exact jnSt31 hR h hd
  | k + 32, hi, _ => omega
end
end Go.Proofs.YtidkakcnhgfpoaaDoor
