/- BitsTell: the region that draws its order, by program (genTell.py). -/
import Derived.Test.YtidkakcnhgfpoaaDoorBitsY
namespace Go.Proofs.YtidkakcnhgfpoaaDoor
open Go.RowKit Go.Shelf
set_option linter.unusedVariables false
set_option maxRecDepth 100000

/-- The operations of the region. -/
noncomputable def tlOps : Array Oper := ((Tryd.f3.body).bind (regionOps 2)).getD #[]
/-- What each of them yields. -/
def tlTab (N b5 : Nat) (i : Int) (a6 : Option Addr) (c6 : Nat) (w0 : World) : Array Cl := #[.val (sv N),
  .val (.int .i64 i),
  .val (.bool (hasN N i)),
  .lst (plcI N),
  .val (.int .i64 i),
  .val (.bool (hasN N i)),
  .val (.bool true),
  .val (.bool true),
  .val (sv N),
  .val (.int .i64 i),
  .val (sv (addN N i)),
  .lst (plcI N),
  .val (.int .i64 i),
  .lst (plcI (addN N i)),
  .val (sv (addN N i)),
  .val (.bool true),
  .val (.bool true),
  .val (.bool true),
  .val (sv N),
  .val (.int .i64 i),
  .val (sv (delN N i)),
  .lst (plcI N),
  .val (.int .i64 i),
  .lst (plcI (delN N i)),
  .val (sv (delN N i)),
  .val (.bool true),
  .val (.bool true),
  .val (.bool true),
  .val (sv N),
  .val (.int .i64 ((plcI N).length : Int)),
  .lst (plcI N),
  .val (.int .i64 ((plcI N).length : Int)),
  .val (.bool true),
  .val (.bool true),
  .val (.bool true),
  .val (sv N),
  .val (.int .i64 i),
  .val (.int .i64 (nextN N i)),
  .lst (plcI N),
  .val (.int .i64 i),
  .val (.int .i64 (nextN N i)),
  .val (.bool true),
  .val (.bool true),
  .val (.bool true),
  .val (sv N),
  .lst (plcI N),
  .lst (plcI N),
  .val (.bool true),
  .val (.bool true),
  .val (.bool true),
  .val (.bool true),
  .val (.bool true),
  .val (.bool true)]
def tlBase (N b5 : Nat) (i : Int) (a6 : Option Addr) (c6 : Nat) (w0 : World) : Nat → Option Value := fun s => if s = 1 then some (.int .i64 i) else if s = 5 then some (.pointer (some ⟨b5, 0, none⟩)) else if s = 6 then some (.slice a6 (plcI N).length c6) else none
theorem tlOwn (N b5 : Nat) (i : Int) (a6 : Option Addr) (c6 : Nat) (w0 : World) : ownSlots tlOps 62 (tlBase N b5 i a6 c6 w0) := own_of (bs := [1, 5, 6]) (by kernel_rfl) (fun d hd => by
  unfold tlBase
  simp at hd
  simp [hd])
theorem tlHold (N b5 : Nat) (i : Int) (a6 : Option Addr) (c6 : Nat) (w0 : World) : ∀ w w' : World, (fun w => Inv w0 b5 N w ∧ IsL w a6 c6 (plcI N)) w → Below w.heap.size w w' → (fun w => Inv w0 b5 N w ∧ IsL w a6 c6 (plcI N)) w' := fun w w' h k => ⟨h.1.next k, h.2.next k⟩
/-- The closed facts that the region leans on. -/
structure tlRows (N b5 : Nat) (i : Int) (a6 : Option Addr) (c6 : Nat) (w0 : World) : Prop where
  fa : fits (addN N i)
  fd : fits (delN N i)
  hi : i ≤ 9223372036854775807
section
variable {l : Array Bool} {a : Act} {w : World} {Q : Exit → Act → World → Prop} {N b5 : Nat} {i : Int} {a6 : Option Addr} {c6 : Nat} {w0 : World}
theorem tlSt0 (hR : tlRows N b5 i a6 c6 w0) (h : At tlOps 62 (tlTab N b5 i a6 c6 w0) (tlBase N b5 i a6 c6 w0) (fun w => Inv w0 b5 N w ∧ IsL w a6 c6 (plcI N)) l a w) (hd : ∀ o : Oper, tlOps[0]? = some o → ∀ e ∈ o.after.toList, Region.binds .any e = true → l.getD e.on false = true) : wpOp Tryd.prog tlOps Q 0 (At tlOps 62 (tlTab N b5 i a6 c6 w0) (tlBase N b5 i a6 c6 w0) (fun w => Inv w0 b5 N w ∧ IsL w a6 c6 (plcI N)) (l.setIfInBounds 0 true)) a w := by
  have hown := tlOwn N b5 i a6 c6 w0
  have hH := tlHold N b5 i a6 c6 w0
  obtain ⟨o, ho⟩ : ∃ o, tlOps[0]? = some o := Option.isSome_iff_exists.1 (by kernel_rfl)
  have hop : o.op = Op.load 24 (Operand.tmp 5) := op_of ho (by kernel_rfl)
  have hg : guardOk tlOps a o := guard_none (guard_of ho (by kernel_rfl))
  have v5 : a.eval (.tmp 5) = .pointer (some ⟨b5, 0, none⟩) := h.fixed 5 _ rfl
  exact h.yields hown hH ho hg (v := sv N) (w' := w) (by simp only [execOp, hop, v5]; simp only [Sem.run_bind, load_set h.hold.1.1, Result.andThen_ok, Sem.run_pure]) (Below.refl _ _) rfl
theorem tlSt1 (hR : tlRows N b5 i a6 c6 w0) (h : At tlOps 62 (tlTab N b5 i a6 c6 w0) (tlBase N b5 i a6 c6 w0) (fun w => Inv w0 b5 N w ∧ IsL w a6 c6 (plcI N)) l a w) (hd : ∀ o : Oper, tlOps[1]? = some o → ∀ e ∈ o.after.toList, Region.binds .any e = true → l.getD e.on false = true) : wpOp Tryd.prog tlOps Q 1 (At tlOps 62 (tlTab N b5 i a6 c6 w0) (tlBase N b5 i a6 c6 w0) (fun w => Inv w0 b5 N w ∧ IsL w a6 c6 (plcI N)) (l.setIfInBounds 1 true)) a w := by
  have hown := tlOwn N b5 i a6 c6 w0
  have hH := tlHold N b5 i a6 c6 w0
  obtain ⟨o, ho⟩ : ∃ o, tlOps[1]? = some o := Option.isSome_iff_exists.1 (by kernel_rfl)
  have hop : o.op = Op.move (Operand.tmp 1) := op_of ho (by kernel_rfl)
  have hg : guardOk tlOps a o := guard_none (guard_of ho (by kernel_rfl))
  have v1 : a.eval (.tmp 1) = .int .i64 i := h.fixed 1 _ rfl
  exact h.yields hown hH ho hg (v := .int .i64 i) (w' := w) (by simp only [execOp, hop, v1]; kernel_rfl) (Below.refl _ _) rfl
theorem tlSt2 (hR : tlRows N b5 i a6 c6 w0) (h : At tlOps 62 (tlTab N b5 i a6 c6 w0) (tlBase N b5 i a6 c6 w0) (fun w => Inv w0 b5 N w ∧ IsL w a6 c6 (plcI N)) l a w) (hd : ∀ o : Oper, tlOps[2]? = some o → ∀ e ∈ o.after.toList, Region.binds .any e = true → l.getD e.on false = true) : wpOp Tryd.prog tlOps Q 2 (At tlOps 62 (tlTab N b5 i a6 c6 w0) (tlBase N b5 i a6 c6 w0) (fun w => Inv w0 b5 N w ∧ IsL w a6 c6 (plcI N)) (l.setIfInBounds 2 true)) a w := by
  have hown := tlOwn N b5 i a6 c6 w0
  have hH := tlHold N b5 i a6 c6 w0
  obtain ⟨o, ho⟩ : ∃ o, tlOps[2]? = some o := Option.isSome_iff_exists.1 (by kernel_rfl)
  have hop : o.op = Op.call { callee := Callee.value (Operand.func 9), args := #[Operand.tmp 10, Operand.tmp 11], argTypes := #[24, 3] } := op_of ho (by kernel_rfl)
  have hg : guardOk tlOps a o := guard_none (guard_of ho (by kernel_rfl))
  have v10 : a.eval (.tmp 10) = sv N := h.done 0 10 (dep hd 0 (by kernel_rfl)) (by kernel_rfl)
  have v11 : a.eval (.tmp 11) = .int .i64 i := h.done 1 11 (dep hd 1 (by kernel_rfl)) (by kernel_rfl)
  refine h.calls hown hH ho hg (f := 9) (args := #[sv N, .int .i64 i]) ?_ ((has_any N i w).mono ?_)
  · rw [exec_call (enters_of Tryd.func9 (by kernel_rfl) rfl) hop]
    simp only [List.map_toArray, List.map_cons, List.map_nil, v10, v11]
    try rfl
  rintro e w' ⟨rfl, hb⟩
  exact ⟨_, rfl, hb, rfl⟩
theorem tlSt3 (hR : tlRows N b5 i a6 c6 w0) (h : At tlOps 62 (tlTab N b5 i a6 c6 w0) (tlBase N b5 i a6 c6 w0) (fun w => Inv w0 b5 N w ∧ IsL w a6 c6 (plcI N)) l a w) (hd : ∀ o : Oper, tlOps[3]? = some o → ∀ e ∈ o.after.toList, Region.binds .any e = true → l.getD e.on false = true) : wpOp Tryd.prog tlOps Q 3 (At tlOps 62 (tlTab N b5 i a6 c6 w0) (tlBase N b5 i a6 c6 w0) (fun w => Inv w0 b5 N w ∧ IsL w a6 c6 (plcI N)) (l.setIfInBounds 3 true)) a w := by
  have hown := tlOwn N b5 i a6 c6 w0
  have hH := tlHold N b5 i a6 c6 w0
  obtain ⟨o, ho⟩ : ∃ o, tlOps[3]? = some o := Option.isSome_iff_exists.1 (by kernel_rfl)
  have hop : o.op = Op.move (Operand.tmp 6) := op_of ho (by kernel_rfl)
  have hg : guardOk tlOps a o := guard_none (guard_of ho (by kernel_rfl))
  have v6 : a.eval (.tmp 6) = .slice a6 (plcI N).length c6 := h.fixed 6 _ rfl
  exact h.yields hown hH ho hg (v := .slice a6 (plcI N).length c6) (w' := w) (by simp only [execOp, hop, v6]; kernel_rfl) (Below.refl _ _) ⟨a6, c6, rfl, h.hold.2⟩
theorem tlSt4 (hR : tlRows N b5 i a6 c6 w0) (h : At tlOps 62 (tlTab N b5 i a6 c6 w0) (tlBase N b5 i a6 c6 w0) (fun w => Inv w0 b5 N w ∧ IsL w a6 c6 (plcI N)) l a w) (hd : ∀ o : Oper, tlOps[4]? = some o → ∀ e ∈ o.after.toList, Region.binds .any e = true → l.getD e.on false = true) : wpOp Tryd.prog tlOps Q 4 (At tlOps 62 (tlTab N b5 i a6 c6 w0) (tlBase N b5 i a6 c6 w0) (fun w => Inv w0 b5 N w ∧ IsL w a6 c6 (plcI N)) (l.setIfInBounds 4 true)) a w := by
  have hown := tlOwn N b5 i a6 c6 w0
  have hH := tlHold N b5 i a6 c6 w0
  obtain ⟨o, ho⟩ : ∃ o, tlOps[4]? = some o := Option.isSome_iff_exists.1 (by kernel_rfl)
  have hop : o.op = Op.move (Operand.tmp 1) := op_of ho (by kernel_rfl)
  have hg : guardOk tlOps a o := guard_none (guard_of ho (by kernel_rfl))
  have v1 : a.eval (.tmp 1) = .int .i64 i := h.fixed 1 _ rfl
  exact h.yields hown hH ho hg (v := .int .i64 i) (w' := w) (by simp only [execOp, hop, v1]; kernel_rfl) (Below.refl _ _) rfl
theorem tlSt5 (hR : tlRows N b5 i a6 c6 w0) (h : At tlOps 62 (tlTab N b5 i a6 c6 w0) (tlBase N b5 i a6 c6 w0) (fun w => Inv w0 b5 N w ∧ IsL w a6 c6 (plcI N)) l a w) (hd : ∀ o : Oper, tlOps[5]? = some o → ∀ e ∈ o.after.toList, Region.binds .any e = true → l.getD e.on false = true) : wpOp Tryd.prog tlOps Q 5 (At tlOps 62 (tlTab N b5 i a6 c6 w0) (tlBase N b5 i a6 c6 w0) (fun w => Inv w0 b5 N w ∧ IsL w a6 c6 (plcI N)) (l.setIfInBounds 5 true)) a w := by
  have hown := tlOwn N b5 i a6 c6 w0
  have hH := tlHold N b5 i a6 c6 w0
  obtain ⟨o, ho⟩ : ∃ o, tlOps[5]? = some o := Option.isSome_iff_exists.1 (by kernel_rfl)
  have hop : o.op = Op.call { callee := Callee.value (Operand.func 10), args := #[Operand.tmp 13, Operand.tmp 14], argTypes := #[25, 3] } := op_of ho (by kernel_rfl)
  have hg : guardOk tlOps a o := guard_none (guard_of ho (by kernel_rfl))
  obtain ⟨p13, q13, v13, hi13⟩ := h.done 3 13 (dep hd 3 (by kernel_rfl)) (by kernel_rfl)
  change a.eval (.tmp 13) = .slice p13 (plcI N).length q13 at v13
  have v14 : a.eval (.tmp 14) = .int .i64 i := h.done 4 14 (dep hd 4 (by kernel_rfl)) (by kernel_rfl)
  refine h.calls hown hH ho hg (f := 10) (args := #[.slice p13 (plcI N).length q13, .int .i64 i]) ?_ ((refHasN N p13 q13 i w hi13).mono ?_)
  · rw [exec_call (enters_of Tryd.func10 (by kernel_rfl) rfl) hop]
    simp only [List.map_toArray, List.map_cons, List.map_nil, v13, v14]
    try rfl
  rintro e w' ⟨rfl, hb⟩
  exact ⟨_, rfl, hb, rfl⟩
theorem tlSt6 (hR : tlRows N b5 i a6 c6 w0) (h : At tlOps 62 (tlTab N b5 i a6 c6 w0) (tlBase N b5 i a6 c6 w0) (fun w => Inv w0 b5 N w ∧ IsL w a6 c6 (plcI N)) l a w) (hd : ∀ o : Oper, tlOps[6]? = some o → ∀ e ∈ o.after.toList, Region.binds .any e = true → l.getD e.on false = true) : wpOp Tryd.prog tlOps Q 6 (At tlOps 62 (tlTab N b5 i a6 c6 w0) (tlBase N b5 i a6 c6 w0) (fun w => Inv w0 b5 N w ∧ IsL w a6 c6 (plcI N)) (l.setIfInBounds 6 true)) a w := by
  have hown := tlOwn N b5 i a6 c6 w0
  have hH := tlHold N b5 i a6 c6 w0
  obtain ⟨o, ho⟩ : ∃ o, tlOps[6]? = some o := Option.isSome_iff_exists.1 (by kernel_rfl)
  have hop : o.op = Op.binOp BinOp.eql 4 (Operand.tmp 12) (Operand.tmp 15) 4 := op_of ho (by kernel_rfl)
  have hg : guardOk tlOps a o := guard_none (guard_of ho (by kernel_rfl))
  have v12 : a.eval (.tmp 12) = .bool (hasN N i) := h.done 2 12 (dep hd 2 (by kernel_rfl)) (by kernel_rfl)
  have v15 : a.eval (.tmp 15) = .bool (hasN N i) := h.done 5 15 (dep hd 5 (by kernel_rfl)) (by kernel_rfl)
  exact h.yields hown hH ho hg (v := .bool true) (w' := w) (by simp only [execOp, hop, v12, v15]; go_simp) (Below.refl _ _) rfl
theorem tlSt7 (hR : tlRows N b5 i a6 c6 w0) (h : At tlOps 62 (tlTab N b5 i a6 c6 w0) (tlBase N b5 i a6 c6 w0) (fun w => Inv w0 b5 N w ∧ IsL w a6 c6 (plcI N)) l a w) (hd : ∀ o : Oper, tlOps[7]? = some o → ∀ e ∈ o.after.toList, Region.binds .any e = true → l.getD e.on false = true) : wpOp Tryd.prog tlOps Q 7 (At tlOps 62 (tlTab N b5 i a6 c6 w0) (tlBase N b5 i a6 c6 w0) (fun w => Inv w0 b5 N w ∧ IsL w a6 c6 (plcI N)) (l.setIfInBounds 7 true)) a w := by
  have hown := tlOwn N b5 i a6 c6 w0
  have hH := tlHold N b5 i a6 c6 w0
  obtain ⟨o, ho⟩ : ∃ o, tlOps[7]? = some o := Option.isSome_iff_exists.1 (by kernel_rfl)
  have hop : o.op = Op.move (Operand.tmp 16) := op_of ho (by kernel_rfl)
  have hg : guardOk tlOps a o := guard_none (guard_of ho (by kernel_rfl))
  have v16 : a.eval (.tmp 16) = .bool true := h.done 6 16 (dep hd 6 (by kernel_rfl)) (by kernel_rfl)
  exact h.yields hown hH ho hg (v := .bool true) (w' := w) (by simp only [execOp, hop, v16]; kernel_rfl) (Below.refl _ _) rfl
theorem tlSt8 (hR : tlRows N b5 i a6 c6 w0) (h : At tlOps 62 (tlTab N b5 i a6 c6 w0) (tlBase N b5 i a6 c6 w0) (fun w => Inv w0 b5 N w ∧ IsL w a6 c6 (plcI N)) l a w) (hd : ∀ o : Oper, tlOps[8]? = some o → ∀ e ∈ o.after.toList, Region.binds .any e = true → l.getD e.on false = true) : wpOp Tryd.prog tlOps Q 8 (At tlOps 62 (tlTab N b5 i a6 c6 w0) (tlBase N b5 i a6 c6 w0) (fun w => Inv w0 b5 N w ∧ IsL w a6 c6 (plcI N)) (l.setIfInBounds 8 true)) a w := by
  have hown := tlOwn N b5 i a6 c6 w0
  have hH := tlHold N b5 i a6 c6 w0
  obtain ⟨o, ho⟩ : ∃ o, tlOps[8]? = some o := Option.isSome_iff_exists.1 (by kernel_rfl)
  have hop : o.op = Op.load 24 (Operand.tmp 5) := op_of ho (by kernel_rfl)
  have hg : guardOk tlOps a o := h.guard hown (guard_of ho (g := some (7, true)) (by kernel_rfl)) (dep hd 7 (by kernel_rfl)) rfl (by decide +kernel)
  have v5 : a.eval (.tmp 5) = .pointer (some ⟨b5, 0, none⟩) := h.fixed 5 _ rfl
  exact h.yields hown hH ho hg (v := sv N) (w' := w) (by simp only [execOp, hop, v5]; simp only [Sem.run_bind, load_set h.hold.1.1, Result.andThen_ok, Sem.run_pure]) (Below.refl _ _) rfl
theorem tlSt9 (hR : tlRows N b5 i a6 c6 w0) (h : At tlOps 62 (tlTab N b5 i a6 c6 w0) (tlBase N b5 i a6 c6 w0) (fun w => Inv w0 b5 N w ∧ IsL w a6 c6 (plcI N)) l a w) (hd : ∀ o : Oper, tlOps[9]? = some o → ∀ e ∈ o.after.toList, Region.binds .any e = true → l.getD e.on false = true) : wpOp Tryd.prog tlOps Q 9 (At tlOps 62 (tlTab N b5 i a6 c6 w0) (tlBase N b5 i a6 c6 w0) (fun w => Inv w0 b5 N w ∧ IsL w a6 c6 (plcI N)) (l.setIfInBounds 9 true)) a w := by
  have hown := tlOwn N b5 i a6 c6 w0
  have hH := tlHold N b5 i a6 c6 w0
  obtain ⟨o, ho⟩ : ∃ o, tlOps[9]? = some o := Option.isSome_iff_exists.1 (by kernel_rfl)
  have hop : o.op = Op.move (Operand.tmp 1) := op_of ho (by kernel_rfl)
  have hg : guardOk tlOps a o := h.guard hown (guard_of ho (g := some (7, true)) (by kernel_rfl)) (dep hd 7 (by kernel_rfl)) rfl (by decide +kernel)
  have v1 : a.eval (.tmp 1) = .int .i64 i := h.fixed 1 _ rfl
  exact h.yields hown hH ho hg (v := .int .i64 i) (w' := w) (by simp only [execOp, hop, v1]; kernel_rfl) (Below.refl _ _) rfl
theorem tlSt10 (hR : tlRows N b5 i a6 c6 w0) (h : At tlOps 62 (tlTab N b5 i a6 c6 w0) (tlBase N b5 i a6 c6 w0) (fun w => Inv w0 b5 N w ∧ IsL w a6 c6 (plcI N)) l a w) (hd : ∀ o : Oper, tlOps[10]? = some o → ∀ e ∈ o.after.toList, Region.binds .any e = true → l.getD e.on false = true) : wpOp Tryd.prog tlOps Q 10 (At tlOps 62 (tlTab N b5 i a6 c6 w0) (tlBase N b5 i a6 c6 w0) (fun w => Inv w0 b5 N w ∧ IsL w a6 c6 (plcI N)) (l.setIfInBounds 10 true)) a w := by
  have hown := tlOwn N b5 i a6 c6 w0
  have hH := tlHold N b5 i a6 c6 w0
  obtain ⟨o, ho⟩ : ∃ o, tlOps[10]? = some o := Option.isSome_iff_exists.1 (by kernel_rfl)
  have hop : o.op = Op.call { callee := Callee.value (Operand.func 11), args := #[Operand.tmp 18, Operand.tmp 19], argTypes := #[24, 3] } := op_of ho (by kernel_rfl)
  have hg : guardOk tlOps a o := h.guard hown (guard_of ho (g := some (7, true)) (by kernel_rfl)) (dep hd 7 (by kernel_rfl)) rfl (by decide +kernel)
  have v18 : a.eval (.tmp 18) = sv N := h.done 8 18 (dep hd 8 (by kernel_rfl)) (by kernel_rfl)
  have v19 : a.eval (.tmp 19) = .int .i64 i := h.done 9 19 (dep hd 9 (by kernel_rfl)) (by kernel_rfl)
  refine h.calls hown hH ho hg (f := 11) (args := #[sv N, .int .i64 i]) ?_ ((add_any N i w).mono ?_)
  · rw [exec_call (enters_of Tryd.func11 (by kernel_rfl) rfl) hop]
    simp only [List.map_toArray, List.map_cons, List.map_nil, v18, v19]
    try rfl
  rintro e w' ⟨rfl, hb⟩
  exact ⟨_, rfl, hb, rfl⟩
theorem tlSt11 (hR : tlRows N b5 i a6 c6 w0) (h : At tlOps 62 (tlTab N b5 i a6 c6 w0) (tlBase N b5 i a6 c6 w0) (fun w => Inv w0 b5 N w ∧ IsL w a6 c6 (plcI N)) l a w) (hd : ∀ o : Oper, tlOps[11]? = some o → ∀ e ∈ o.after.toList, Region.binds .any e = true → l.getD e.on false = true) : wpOp Tryd.prog tlOps Q 11 (At tlOps 62 (tlTab N b5 i a6 c6 w0) (tlBase N b5 i a6 c6 w0) (fun w => Inv w0 b5 N w ∧ IsL w a6 c6 (plcI N)) (l.setIfInBounds 11 true)) a w := by
  have hown := tlOwn N b5 i a6 c6 w0
  have hH := tlHold N b5 i a6 c6 w0
  obtain ⟨o, ho⟩ : ∃ o, tlOps[11]? = some o := Option.isSome_iff_exists.1 (by kernel_rfl)
  have hop : o.op = Op.move (Operand.tmp 6) := op_of ho (by kernel_rfl)
  have hg : guardOk tlOps a o := h.guard hown (guard_of ho (g := some (7, true)) (by kernel_rfl)) (dep hd 7 (by kernel_rfl)) rfl (by decide +kernel)
  have v6 : a.eval (.tmp 6) = .slice a6 (plcI N).length c6 := h.fixed 6 _ rfl
  exact h.yields hown hH ho hg (v := .slice a6 (plcI N).length c6) (w' := w) (by simp only [execOp, hop, v6]; kernel_rfl) (Below.refl _ _) ⟨a6, c6, rfl, h.hold.2⟩
theorem tlSt12 (hR : tlRows N b5 i a6 c6 w0) (h : At tlOps 62 (tlTab N b5 i a6 c6 w0) (tlBase N b5 i a6 c6 w0) (fun w => Inv w0 b5 N w ∧ IsL w a6 c6 (plcI N)) l a w) (hd : ∀ o : Oper, tlOps[12]? = some o → ∀ e ∈ o.after.toList, Region.binds .any e = true → l.getD e.on false = true) : wpOp Tryd.prog tlOps Q 12 (At tlOps 62 (tlTab N b5 i a6 c6 w0) (tlBase N b5 i a6 c6 w0) (fun w => Inv w0 b5 N w ∧ IsL w a6 c6 (plcI N)) (l.setIfInBounds 12 true)) a w := by
  have hown := tlOwn N b5 i a6 c6 w0
  have hH := tlHold N b5 i a6 c6 w0
  obtain ⟨o, ho⟩ : ∃ o, tlOps[12]? = some o := Option.isSome_iff_exists.1 (by kernel_rfl)
  have hop : o.op = Op.move (Operand.tmp 1) := op_of ho (by kernel_rfl)
  have hg : guardOk tlOps a o := h.guard hown (guard_of ho (g := some (7, true)) (by kernel_rfl)) (dep hd 7 (by kernel_rfl)) rfl (by decide +kernel)
  have v1 : a.eval (.tmp 1) = .int .i64 i := h.fixed 1 _ rfl
  exact h.yields hown hH ho hg (v := .int .i64 i) (w' := w) (by simp only [execOp, hop, v1]; kernel_rfl) (Below.refl _ _) rfl
theorem tlSt13 (hR : tlRows N b5 i a6 c6 w0) (h : At tlOps 62 (tlTab N b5 i a6 c6 w0) (tlBase N b5 i a6 c6 w0) (fun w => Inv w0 b5 N w ∧ IsL w a6 c6 (plcI N)) l a w) (hd : ∀ o : Oper, tlOps[13]? = some o → ∀ e ∈ o.after.toList, Region.binds .any e = true → l.getD e.on false = true) : wpOp Tryd.prog tlOps Q 13 (At tlOps 62 (tlTab N b5 i a6 c6 w0) (tlBase N b5 i a6 c6 w0) (fun w => Inv w0 b5 N w ∧ IsL w a6 c6 (plcI N)) (l.setIfInBounds 13 true)) a w := by
  have hown := tlOwn N b5 i a6 c6 w0
  have hH := tlHold N b5 i a6 c6 w0
  obtain ⟨o, ho⟩ : ∃ o, tlOps[13]? = some o := Option.isSome_iff_exists.1 (by kernel_rfl)
  have hop : o.op = Op.call { callee := Callee.value (Operand.func 13), args := #[Operand.tmp 21, Operand.tmp 22], argTypes := #[25, 3] } := op_of ho (by kernel_rfl)
  have hg : guardOk tlOps a o := h.guard hown (guard_of ho (g := some (7, true)) (by kernel_rfl)) (dep hd 7 (by kernel_rfl)) rfl (by decide +kernel)
  obtain ⟨p21, q21, v21, hi21⟩ := h.done 11 21 (dep hd 11 (by kernel_rfl)) (by kernel_rfl)
  change a.eval (.tmp 21) = .slice p21 (plcI N).length q21 at v21
  have v22 : a.eval (.tmp 22) = .int .i64 i := h.done 12 22 (dep hd 12 (by kernel_rfl)) (by kernel_rfl)
  refine h.calls hown hH ho hg (f := 13) (args := #[.slice p21 (plcI N).length q21, .int .i64 i]) ?_ ((refAddN N p21 q21 i w hi21).mono ?_)
  · rw [exec_call (enters_of Tryd.func13 (by kernel_rfl) rfl) hop]
    simp only [List.map_toArray, List.map_cons, List.map_nil, v21, v22]
    try rfl
  rintro e w' ⟨⟨a1, c1, rfl, hi⟩, hb⟩
  exact ⟨_, rfl, hb, a1, c1, rfl, hi⟩
theorem tlSt14 (hR : tlRows N b5 i a6 c6 w0) (h : At tlOps 62 (tlTab N b5 i a6 c6 w0) (tlBase N b5 i a6 c6 w0) (fun w => Inv w0 b5 N w ∧ IsL w a6 c6 (plcI N)) l a w) (hd : ∀ o : Oper, tlOps[14]? = some o → ∀ e ∈ o.after.toList, Region.binds .any e = true → l.getD e.on false = true) : wpOp Tryd.prog tlOps Q 14 (At tlOps 62 (tlTab N b5 i a6 c6 w0) (tlBase N b5 i a6 c6 w0) (fun w => Inv w0 b5 N w ∧ IsL w a6 c6 (plcI N)) (l.setIfInBounds 14 true)) a w := by
  have hown := tlOwn N b5 i a6 c6 w0
  have hH := tlHold N b5 i a6 c6 w0
  obtain ⟨o, ho⟩ : ∃ o, tlOps[14]? = some o := Option.isSome_iff_exists.1 (by kernel_rfl)
  have hop : o.op = Op.call { callee := Callee.value (Operand.func 12), args := #[Operand.tmp 23], argTypes := #[25] } := op_of ho (by kernel_rfl)
  have hg : guardOk tlOps a o := h.guard hown (guard_of ho (g := some (7, true)) (by kernel_rfl)) (dep hd 7 (by kernel_rfl)) rfl (by decide +kernel)
  obtain ⟨p23, q23, v23, hi23⟩ := h.done 13 23 (dep hd 13 (by kernel_rfl)) (by kernel_rfl)
  change a.eval (.tmp 23) = .slice p23 (plcI (addN N i)).length q23 at v23
  refine h.calls hown hH ho hg (f := 12) (args := #[.slice p23 (plcI (addN N i)).length q23]) ?_ ((refWordsN (addN N i) hR.fa p23 q23 w hi23).mono ?_)
  · rw [exec_call (enters_of Tryd.func12 (by kernel_rfl) rfl) hop]
    simp only [List.map_toArray, List.map_cons, List.map_nil, v23]
    try rfl
  rintro e w' ⟨rfl, hb⟩
  exact ⟨_, rfl, hb, rfl⟩
theorem tlSt15 (hR : tlRows N b5 i a6 c6 w0) (h : At tlOps 62 (tlTab N b5 i a6 c6 w0) (tlBase N b5 i a6 c6 w0) (fun w => Inv w0 b5 N w ∧ IsL w a6 c6 (plcI N)) l a w) (hd : ∀ o : Oper, tlOps[15]? = some o → ∀ e ∈ o.after.toList, Region.binds .any e = true → l.getD e.on false = true) : wpOp Tryd.prog tlOps Q 15 (At tlOps 62 (tlTab N b5 i a6 c6 w0) (tlBase N b5 i a6 c6 w0) (fun w => Inv w0 b5 N w ∧ IsL w a6 c6 (plcI N)) (l.setIfInBounds 15 true)) a w := by
  have hown := tlOwn N b5 i a6 c6 w0
  have hH := tlHold N b5 i a6 c6 w0
  obtain ⟨o, ho⟩ : ∃ o, tlOps[15]? = some o := Option.isSome_iff_exists.1 (by kernel_rfl)
  have hop : o.op = Op.binOp BinOp.eql 24 (Operand.tmp 20) (Operand.tmp 24) 24 := op_of ho (by kernel_rfl)
  have hg : guardOk tlOps a o := h.guard hown (guard_of ho (g := some (7, true)) (by kernel_rfl)) (dep hd 7 (by kernel_rfl)) rfl (by decide +kernel)
  have v20 : a.eval (.tmp 20) = sv (addN N i) := h.done 10 20 (dep hd 10 (by kernel_rfl)) (by kernel_rfl)
  have v24 : a.eval (.tmp 24) = sv (addN N i) := h.done 14 24 (dep hd 14 (by kernel_rfl)) (by kernel_rfl)
  exact h.yields hown hH ho hg (v := .bool true) (w' := w) (by simp only [execOp, hop, v20, v24]; simp only [Sem.run_bind, run_eqGuard_agg (P := Tryd.prog) (w := w) _ _ _ _ _ _ eqg, run_eql_struct, equal_same (addN N i) hR.fa, Result.andThen_ok, Sem.run_pure]) (Below.refl _ _) rfl
theorem tlSt16 (hR : tlRows N b5 i a6 c6 w0) (h : At tlOps 62 (tlTab N b5 i a6 c6 w0) (tlBase N b5 i a6 c6 w0) (fun w => Inv w0 b5 N w ∧ IsL w a6 c6 (plcI N)) l a w) (hd : ∀ o : Oper, tlOps[16]? = some o → ∀ e ∈ o.after.toList, Region.binds .any e = true → l.getD e.on false = true) : wpOp Tryd.prog tlOps Q 16 (At tlOps 62 (tlTab N b5 i a6 c6 w0) (tlBase N b5 i a6 c6 w0) (fun w => Inv w0 b5 N w ∧ IsL w a6 c6 (plcI N)) (l.setIfInBounds 16 true)) a w := by
  have hown := tlOwn N b5 i a6 c6 w0
  have hH := tlHold N b5 i a6 c6 w0
  obtain ⟨o, ho⟩ : ∃ o, tlOps[16]? = some o := Option.isSome_iff_exists.1 (by kernel_rfl)
  have hop : o.op = Op.pick (Operand.tmp 17) (Operand.tmp 25) (Operand.const (Value.bool false)) := op_of ho (by kernel_rfl)
  have hg : guardOk tlOps a o := guard_none (guard_of ho (by kernel_rfl))
  have v17 : a.eval (.tmp 17) = .bool true := h.done 7 17 (dep hd 7 (by kernel_rfl)) (by kernel_rfl)
  have v25 : a.eval (.tmp 25) = .bool true := h.done 15 25 (dep hd 15 (by kernel_rfl)) (by kernel_rfl)
  exact h.yields hown hH ho hg (v := .bool true) (w' := w) (by simp only [execOp, hop, v17, v25]; kernel_rfl) (Below.refl _ _) rfl
theorem tlSt17 (hR : tlRows N b5 i a6 c6 w0) (h : At tlOps 62 (tlTab N b5 i a6 c6 w0) (tlBase N b5 i a6 c6 w0) (fun w => Inv w0 b5 N w ∧ IsL w a6 c6 (plcI N)) l a w) (hd : ∀ o : Oper, tlOps[17]? = some o → ∀ e ∈ o.after.toList, Region.binds .any e = true → l.getD e.on false = true) : wpOp Tryd.prog tlOps Q 17 (At tlOps 62 (tlTab N b5 i a6 c6 w0) (tlBase N b5 i a6 c6 w0) (fun w => Inv w0 b5 N w ∧ IsL w a6 c6 (plcI N)) (l.setIfInBounds 17 true)) a w := by
  have hown := tlOwn N b5 i a6 c6 w0
  have hH := tlHold N b5 i a6 c6 w0
  obtain ⟨o, ho⟩ : ∃ o, tlOps[17]? = some o := Option.isSome_iff_exists.1 (by kernel_rfl)
  have hop : o.op = Op.move (Operand.tmp 26) := op_of ho (by kernel_rfl)
  have hg : guardOk tlOps a o := guard_none (guard_of ho (by kernel_rfl))
  have v26 : a.eval (.tmp 26) = .bool true := h.done 16 26 (dep hd 16 (by kernel_rfl)) (by kernel_rfl)
  exact h.yields hown hH ho hg (v := .bool true) (w' := w) (by simp only [execOp, hop, v26]; kernel_rfl) (Below.refl _ _) rfl
theorem tlSt18 (hR : tlRows N b5 i a6 c6 w0) (h : At tlOps 62 (tlTab N b5 i a6 c6 w0) (tlBase N b5 i a6 c6 w0) (fun w => Inv w0 b5 N w ∧ IsL w a6 c6 (plcI N)) l a w) (hd : ∀ o : Oper, tlOps[18]? = some o → ∀ e ∈ o.after.toList, Region.binds .any e = true → l.getD e.on false = true) : wpOp Tryd.prog tlOps Q 18 (At tlOps 62 (tlTab N b5 i a6 c6 w0) (tlBase N b5 i a6 c6 w0) (fun w => Inv w0 b5 N w ∧ IsL w a6 c6 (plcI N)) (l.setIfInBounds 18 true)) a w := by
  have hown := tlOwn N b5 i a6 c6 w0
  have hH := tlHold N b5 i a6 c6 w0
  obtain ⟨o, ho⟩ : ∃ o, tlOps[18]? = some o := Option.isSome_iff_exists.1 (by kernel_rfl)
  have hop : o.op = Op.load 24 (Operand.tmp 5) := op_of ho (by kernel_rfl)
  have hg : guardOk tlOps a o := h.guard hown (guard_of ho (g := some (17, true)) (by kernel_rfl)) (dep hd 17 (by kernel_rfl)) rfl (by decide +kernel)
  have v5 : a.eval (.tmp 5) = .pointer (some ⟨b5, 0, none⟩) := h.fixed 5 _ rfl
  exact h.yields hown hH ho hg (v := sv N) (w' := w) (by simp only [execOp, hop, v5]; simp only [Sem.run_bind, load_set h.hold.1.1, Result.andThen_ok, Sem.run_pure]) (Below.refl _ _) rfl
theorem tlSt19 (hR : tlRows N b5 i a6 c6 w0) (h : At tlOps 62 (tlTab N b5 i a6 c6 w0) (tlBase N b5 i a6 c6 w0) (fun w => Inv w0 b5 N w ∧ IsL w a6 c6 (plcI N)) l a w) (hd : ∀ o : Oper, tlOps[19]? = some o → ∀ e ∈ o.after.toList, Region.binds .any e = true → l.getD e.on false = true) : wpOp Tryd.prog tlOps Q 19 (At tlOps 62 (tlTab N b5 i a6 c6 w0) (tlBase N b5 i a6 c6 w0) (fun w => Inv w0 b5 N w ∧ IsL w a6 c6 (plcI N)) (l.setIfInBounds 19 true)) a w := by
  have hown := tlOwn N b5 i a6 c6 w0
  have hH := tlHold N b5 i a6 c6 w0
  obtain ⟨o, ho⟩ : ∃ o, tlOps[19]? = some o := Option.isSome_iff_exists.1 (by kernel_rfl)
  have hop : o.op = Op.move (Operand.tmp 1) := op_of ho (by kernel_rfl)
  have hg : guardOk tlOps a o := h.guard hown (guard_of ho (g := some (17, true)) (by kernel_rfl)) (dep hd 17 (by kernel_rfl)) rfl (by decide +kernel)
  have v1 : a.eval (.tmp 1) = .int .i64 i := h.fixed 1 _ rfl
  exact h.yields hown hH ho hg (v := .int .i64 i) (w' := w) (by simp only [execOp, hop, v1]; kernel_rfl) (Below.refl _ _) rfl
theorem tlSt20 (hR : tlRows N b5 i a6 c6 w0) (h : At tlOps 62 (tlTab N b5 i a6 c6 w0) (tlBase N b5 i a6 c6 w0) (fun w => Inv w0 b5 N w ∧ IsL w a6 c6 (plcI N)) l a w) (hd : ∀ o : Oper, tlOps[20]? = some o → ∀ e ∈ o.after.toList, Region.binds .any e = true → l.getD e.on false = true) : wpOp Tryd.prog tlOps Q 20 (At tlOps 62 (tlTab N b5 i a6 c6 w0) (tlBase N b5 i a6 c6 w0) (fun w => Inv w0 b5 N w ∧ IsL w a6 c6 (plcI N)) (l.setIfInBounds 20 true)) a w := by
  have hown := tlOwn N b5 i a6 c6 w0
  have hH := tlHold N b5 i a6 c6 w0
  obtain ⟨o, ho⟩ : ∃ o, tlOps[20]? = some o := Option.isSome_iff_exists.1 (by kernel_rfl)
  have hop : o.op = Op.call { callee := Callee.value (Operand.func 14), args := #[Operand.tmp 28, Operand.tmp 29], argTypes := #[24, 3] } := op_of ho (by kernel_rfl)
  have hg : guardOk tlOps a o := h.guard hown (guard_of ho (g := some (17, true)) (by kernel_rfl)) (dep hd 17 (by kernel_rfl)) rfl (by decide +kernel)
  have v28 : a.eval (.tmp 28) = sv N := h.done 18 28 (dep hd 18 (by kernel_rfl)) (by kernel_rfl)
  have v29 : a.eval (.tmp 29) = .int .i64 i := h.done 19 29 (dep hd 19 (by kernel_rfl)) (by kernel_rfl)
  refine h.calls hown hH ho hg (f := 14) (args := #[sv N, .int .i64 i]) ?_ ((del_any N i w).mono ?_)
  · rw [exec_call (enters_of Tryd.func14 (by kernel_rfl) rfl) hop]
    simp only [List.map_toArray, List.map_cons, List.map_nil, v28, v29]
    try rfl
  rintro e w' ⟨rfl, hb⟩
  exact ⟨_, rfl, hb, rfl⟩
theorem tlSt21 (hR : tlRows N b5 i a6 c6 w0) (h : At tlOps 62 (tlTab N b5 i a6 c6 w0) (tlBase N b5 i a6 c6 w0) (fun w => Inv w0 b5 N w ∧ IsL w a6 c6 (plcI N)) l a w) (hd : ∀ o : Oper, tlOps[21]? = some o → ∀ e ∈ o.after.toList, Region.binds .any e = true → l.getD e.on false = true) : wpOp Tryd.prog tlOps Q 21 (At tlOps 62 (tlTab N b5 i a6 c6 w0) (tlBase N b5 i a6 c6 w0) (fun w => Inv w0 b5 N w ∧ IsL w a6 c6 (plcI N)) (l.setIfInBounds 21 true)) a w := by
  have hown := tlOwn N b5 i a6 c6 w0
  have hH := tlHold N b5 i a6 c6 w0
  obtain ⟨o, ho⟩ : ∃ o, tlOps[21]? = some o := Option.isSome_iff_exists.1 (by kernel_rfl)
  have hop : o.op = Op.move (Operand.tmp 6) := op_of ho (by kernel_rfl)
  have hg : guardOk tlOps a o := h.guard hown (guard_of ho (g := some (17, true)) (by kernel_rfl)) (dep hd 17 (by kernel_rfl)) rfl (by decide +kernel)
  have v6 : a.eval (.tmp 6) = .slice a6 (plcI N).length c6 := h.fixed 6 _ rfl
  exact h.yields hown hH ho hg (v := .slice a6 (plcI N).length c6) (w' := w) (by simp only [execOp, hop, v6]; kernel_rfl) (Below.refl _ _) ⟨a6, c6, rfl, h.hold.2⟩
theorem tlSt22 (hR : tlRows N b5 i a6 c6 w0) (h : At tlOps 62 (tlTab N b5 i a6 c6 w0) (tlBase N b5 i a6 c6 w0) (fun w => Inv w0 b5 N w ∧ IsL w a6 c6 (plcI N)) l a w) (hd : ∀ o : Oper, tlOps[22]? = some o → ∀ e ∈ o.after.toList, Region.binds .any e = true → l.getD e.on false = true) : wpOp Tryd.prog tlOps Q 22 (At tlOps 62 (tlTab N b5 i a6 c6 w0) (tlBase N b5 i a6 c6 w0) (fun w => Inv w0 b5 N w ∧ IsL w a6 c6 (plcI N)) (l.setIfInBounds 22 true)) a w := by
  have hown := tlOwn N b5 i a6 c6 w0
  have hH := tlHold N b5 i a6 c6 w0
  obtain ⟨o, ho⟩ : ∃ o, tlOps[22]? = some o := Option.isSome_iff_exists.1 (by kernel_rfl)
  have hop : o.op = Op.move (Operand.tmp 1) := op_of ho (by kernel_rfl)
  have hg : guardOk tlOps a o := h.guard hown (guard_of ho (g := some (17, true)) (by kernel_rfl)) (dep hd 17 (by kernel_rfl)) rfl (by decide +kernel)
  have v1 : a.eval (.tmp 1) = .int .i64 i := h.fixed 1 _ rfl
  exact h.yields hown hH ho hg (v := .int .i64 i) (w' := w) (by simp only [execOp, hop, v1]; kernel_rfl) (Below.refl _ _) rfl
theorem tlSt23 (hR : tlRows N b5 i a6 c6 w0) (h : At tlOps 62 (tlTab N b5 i a6 c6 w0) (tlBase N b5 i a6 c6 w0) (fun w => Inv w0 b5 N w ∧ IsL w a6 c6 (plcI N)) l a w) (hd : ∀ o : Oper, tlOps[23]? = some o → ∀ e ∈ o.after.toList, Region.binds .any e = true → l.getD e.on false = true) : wpOp Tryd.prog tlOps Q 23 (At tlOps 62 (tlTab N b5 i a6 c6 w0) (tlBase N b5 i a6 c6 w0) (fun w => Inv w0 b5 N w ∧ IsL w a6 c6 (plcI N)) (l.setIfInBounds 23 true)) a w := by
  have hown := tlOwn N b5 i a6 c6 w0
  have hH := tlHold N b5 i a6 c6 w0
  obtain ⟨o, ho⟩ : ∃ o, tlOps[23]? = some o := Option.isSome_iff_exists.1 (by kernel_rfl)
  have hop : o.op = Op.call { callee := Callee.value (Operand.func 15), args := #[Operand.tmp 31, Operand.tmp 32], argTypes := #[25, 3] } := op_of ho (by kernel_rfl)
  have hg : guardOk tlOps a o := h.guard hown (guard_of ho (g := some (17, true)) (by kernel_rfl)) (dep hd 17 (by kernel_rfl)) rfl (by decide +kernel)
  obtain ⟨p31, q31, v31, hi31⟩ := h.done 21 31 (dep hd 21 (by kernel_rfl)) (by kernel_rfl)
  change a.eval (.tmp 31) = .slice p31 (plcI N).length q31 at v31
  have v32 : a.eval (.tmp 32) = .int .i64 i := h.done 22 32 (dep hd 22 (by kernel_rfl)) (by kernel_rfl)
  refine h.calls hown hH ho hg (f := 15) (args := #[.slice p31 (plcI N).length q31, .int .i64 i]) ?_ ((refDelN N p31 q31 i w hi31).mono ?_)
  · rw [exec_call (enters_of Tryd.func15 (by kernel_rfl) rfl) hop]
    simp only [List.map_toArray, List.map_cons, List.map_nil, v31, v32]
    try rfl
  rintro e w' ⟨⟨a1, c1, rfl, hi⟩, hb⟩
  exact ⟨_, rfl, hb, a1, c1, rfl, hi⟩
theorem tlSt24 (hR : tlRows N b5 i a6 c6 w0) (h : At tlOps 62 (tlTab N b5 i a6 c6 w0) (tlBase N b5 i a6 c6 w0) (fun w => Inv w0 b5 N w ∧ IsL w a6 c6 (plcI N)) l a w) (hd : ∀ o : Oper, tlOps[24]? = some o → ∀ e ∈ o.after.toList, Region.binds .any e = true → l.getD e.on false = true) : wpOp Tryd.prog tlOps Q 24 (At tlOps 62 (tlTab N b5 i a6 c6 w0) (tlBase N b5 i a6 c6 w0) (fun w => Inv w0 b5 N w ∧ IsL w a6 c6 (plcI N)) (l.setIfInBounds 24 true)) a w := by
  have hown := tlOwn N b5 i a6 c6 w0
  have hH := tlHold N b5 i a6 c6 w0
  obtain ⟨o, ho⟩ : ∃ o, tlOps[24]? = some o := Option.isSome_iff_exists.1 (by kernel_rfl)
  have hop : o.op = Op.call { callee := Callee.value (Operand.func 12), args := #[Operand.tmp 33], argTypes := #[25] } := op_of ho (by kernel_rfl)
  have hg : guardOk tlOps a o := h.guard hown (guard_of ho (g := some (17, true)) (by kernel_rfl)) (dep hd 17 (by kernel_rfl)) rfl (by decide +kernel)
  obtain ⟨p33, q33, v33, hi33⟩ := h.done 23 33 (dep hd 23 (by kernel_rfl)) (by kernel_rfl)
  change a.eval (.tmp 33) = .slice p33 (plcI (delN N i)).length q33 at v33
  refine h.calls hown hH ho hg (f := 12) (args := #[.slice p33 (plcI (delN N i)).length q33]) ?_ ((refWordsN (delN N i) hR.fd p33 q33 w hi33).mono ?_)
  · rw [exec_call (enters_of Tryd.func12 (by kernel_rfl) rfl) hop]
    simp only [List.map_toArray, List.map_cons, List.map_nil, v33]
    try rfl
  rintro e w' ⟨rfl, hb⟩
  exact ⟨_, rfl, hb, rfl⟩
theorem tlSt25 (hR : tlRows N b5 i a6 c6 w0) (h : At tlOps 62 (tlTab N b5 i a6 c6 w0) (tlBase N b5 i a6 c6 w0) (fun w => Inv w0 b5 N w ∧ IsL w a6 c6 (plcI N)) l a w) (hd : ∀ o : Oper, tlOps[25]? = some o → ∀ e ∈ o.after.toList, Region.binds .any e = true → l.getD e.on false = true) : wpOp Tryd.prog tlOps Q 25 (At tlOps 62 (tlTab N b5 i a6 c6 w0) (tlBase N b5 i a6 c6 w0) (fun w => Inv w0 b5 N w ∧ IsL w a6 c6 (plcI N)) (l.setIfInBounds 25 true)) a w := by
  have hown := tlOwn N b5 i a6 c6 w0
  have hH := tlHold N b5 i a6 c6 w0
  obtain ⟨o, ho⟩ : ∃ o, tlOps[25]? = some o := Option.isSome_iff_exists.1 (by kernel_rfl)
  have hop : o.op = Op.binOp BinOp.eql 24 (Operand.tmp 30) (Operand.tmp 34) 24 := op_of ho (by kernel_rfl)
  have hg : guardOk tlOps a o := h.guard hown (guard_of ho (g := some (17, true)) (by kernel_rfl)) (dep hd 17 (by kernel_rfl)) rfl (by decide +kernel)
  have v30 : a.eval (.tmp 30) = sv (delN N i) := h.done 20 30 (dep hd 20 (by kernel_rfl)) (by kernel_rfl)
  have v34 : a.eval (.tmp 34) = sv (delN N i) := h.done 24 34 (dep hd 24 (by kernel_rfl)) (by kernel_rfl)
  exact h.yields hown hH ho hg (v := .bool true) (w' := w) (by simp only [execOp, hop, v30, v34]; simp only [Sem.run_bind, run_eqGuard_agg (P := Tryd.prog) (w := w) _ _ _ _ _ _ eqg, run_eql_struct, equal_same (delN N i) hR.fd, Result.andThen_ok, Sem.run_pure]) (Below.refl _ _) rfl
theorem tlSt26 (hR : tlRows N b5 i a6 c6 w0) (h : At tlOps 62 (tlTab N b5 i a6 c6 w0) (tlBase N b5 i a6 c6 w0) (fun w => Inv w0 b5 N w ∧ IsL w a6 c6 (plcI N)) l a w) (hd : ∀ o : Oper, tlOps[26]? = some o → ∀ e ∈ o.after.toList, Region.binds .any e = true → l.getD e.on false = true) : wpOp Tryd.prog tlOps Q 26 (At tlOps 62 (tlTab N b5 i a6 c6 w0) (tlBase N b5 i a6 c6 w0) (fun w => Inv w0 b5 N w ∧ IsL w a6 c6 (plcI N)) (l.setIfInBounds 26 true)) a w := by
  have hown := tlOwn N b5 i a6 c6 w0
  have hH := tlHold N b5 i a6 c6 w0
  obtain ⟨o, ho⟩ : ∃ o, tlOps[26]? = some o := Option.isSome_iff_exists.1 (by kernel_rfl)
  have hop : o.op = Op.pick (Operand.tmp 27) (Operand.tmp 35) (Operand.const (Value.bool false)) := op_of ho (by kernel_rfl)
  have hg : guardOk tlOps a o := guard_none (guard_of ho (by kernel_rfl))
  have v27 : a.eval (.tmp 27) = .bool true := h.done 17 27 (dep hd 17 (by kernel_rfl)) (by kernel_rfl)
  have v35 : a.eval (.tmp 35) = .bool true := h.done 25 35 (dep hd 25 (by kernel_rfl)) (by kernel_rfl)
  exact h.yields hown hH ho hg (v := .bool true) (w' := w) (by simp only [execOp, hop, v27, v35]; kernel_rfl) (Below.refl _ _) rfl
theorem tlSt27 (hR : tlRows N b5 i a6 c6 w0) (h : At tlOps 62 (tlTab N b5 i a6 c6 w0) (tlBase N b5 i a6 c6 w0) (fun w => Inv w0 b5 N w ∧ IsL w a6 c6 (plcI N)) l a w) (hd : ∀ o : Oper, tlOps[27]? = some o → ∀ e ∈ o.after.toList, Region.binds .any e = true → l.getD e.on false = true) : wpOp Tryd.prog tlOps Q 27 (At tlOps 62 (tlTab N b5 i a6 c6 w0) (tlBase N b5 i a6 c6 w0) (fun w => Inv w0 b5 N w ∧ IsL w a6 c6 (plcI N)) (l.setIfInBounds 27 true)) a w := by
  have hown := tlOwn N b5 i a6 c6 w0
  have hH := tlHold N b5 i a6 c6 w0
  obtain ⟨o, ho⟩ : ∃ o, tlOps[27]? = some o := Option.isSome_iff_exists.1 (by kernel_rfl)
  have hop : o.op = Op.move (Operand.tmp 36) := op_of ho (by kernel_rfl)
  have hg : guardOk tlOps a o := guard_none (guard_of ho (by kernel_rfl))
  have v36 : a.eval (.tmp 36) = .bool true := h.done 26 36 (dep hd 26 (by kernel_rfl)) (by kernel_rfl)
  exact h.yields hown hH ho hg (v := .bool true) (w' := w) (by simp only [execOp, hop, v36]; kernel_rfl) (Below.refl _ _) rfl
theorem tlSt28 (hR : tlRows N b5 i a6 c6 w0) (h : At tlOps 62 (tlTab N b5 i a6 c6 w0) (tlBase N b5 i a6 c6 w0) (fun w => Inv w0 b5 N w ∧ IsL w a6 c6 (plcI N)) l a w) (hd : ∀ o : Oper, tlOps[28]? = some o → ∀ e ∈ o.after.toList, Region.binds .any e = true → l.getD e.on false = true) : wpOp Tryd.prog tlOps Q 28 (At tlOps 62 (tlTab N b5 i a6 c6 w0) (tlBase N b5 i a6 c6 w0) (fun w => Inv w0 b5 N w ∧ IsL w a6 c6 (plcI N)) (l.setIfInBounds 28 true)) a w := by
  have hown := tlOwn N b5 i a6 c6 w0
  have hH := tlHold N b5 i a6 c6 w0
  obtain ⟨o, ho⟩ : ∃ o, tlOps[28]? = some o := Option.isSome_iff_exists.1 (by kernel_rfl)
  have hop : o.op = Op.load 24 (Operand.tmp 5) := op_of ho (by kernel_rfl)
  have hg : guardOk tlOps a o := h.guard hown (guard_of ho (g := some (27, true)) (by kernel_rfl)) (dep hd 27 (by kernel_rfl)) rfl (by decide +kernel)
  have v5 : a.eval (.tmp 5) = .pointer (some ⟨b5, 0, none⟩) := h.fixed 5 _ rfl
  exact h.yields hown hH ho hg (v := sv N) (w' := w) (by simp only [execOp, hop, v5]; simp only [Sem.run_bind, load_set h.hold.1.1, Result.andThen_ok, Sem.run_pure]) (Below.refl _ _) rfl
theorem tlSt29 (hR : tlRows N b5 i a6 c6 w0) (h : At tlOps 62 (tlTab N b5 i a6 c6 w0) (tlBase N b5 i a6 c6 w0) (fun w => Inv w0 b5 N w ∧ IsL w a6 c6 (plcI N)) l a w) (hd : ∀ o : Oper, tlOps[29]? = some o → ∀ e ∈ o.after.toList, Region.binds .any e = true → l.getD e.on false = true) : wpOp Tryd.prog tlOps Q 29 (At tlOps 62 (tlTab N b5 i a6 c6 w0) (tlBase N b5 i a6 c6 w0) (fun w => Inv w0 b5 N w ∧ IsL w a6 c6 (plcI N)) (l.setIfInBounds 29 true)) a w := by
  have hown := tlOwn N b5 i a6 c6 w0
  have hH := tlHold N b5 i a6 c6 w0
  obtain ⟨o, ho⟩ : ∃ o, tlOps[29]? = some o := Option.isSome_iff_exists.1 (by kernel_rfl)
  have hop : o.op = Op.call { callee := Callee.value (Operand.func 16), args := #[Operand.tmp 38], argTypes := #[24] } := op_of ho (by kernel_rfl)
  have hg : guardOk tlOps a o := h.guard hown (guard_of ho (g := some (27, true)) (by kernel_rfl)) (dep hd 27 (by kernel_rfl)) rfl (by decide +kernel)
  have v38 : a.eval (.tmp 38) = sv N := h.done 28 38 (dep hd 28 (by kernel_rfl)) (by kernel_rfl)
  refine h.calls hown hH ho hg (f := 16) (args := #[sv N]) ?_ ((lenN N w).mono ?_)
  · rw [exec_call (enters_of Tryd.func16 (by kernel_rfl) rfl) hop]
    simp only [List.map_toArray, List.map_cons, List.map_nil, v38]
    try rfl
  rintro e w' ⟨rfl, hb⟩
  exact ⟨_, rfl, hb, rfl⟩
theorem tlSt30 (hR : tlRows N b5 i a6 c6 w0) (h : At tlOps 62 (tlTab N b5 i a6 c6 w0) (tlBase N b5 i a6 c6 w0) (fun w => Inv w0 b5 N w ∧ IsL w a6 c6 (plcI N)) l a w) (hd : ∀ o : Oper, tlOps[30]? = some o → ∀ e ∈ o.after.toList, Region.binds .any e = true → l.getD e.on false = true) : wpOp Tryd.prog tlOps Q 30 (At tlOps 62 (tlTab N b5 i a6 c6 w0) (tlBase N b5 i a6 c6 w0) (fun w => Inv w0 b5 N w ∧ IsL w a6 c6 (plcI N)) (l.setIfInBounds 30 true)) a w := by
  have hown := tlOwn N b5 i a6 c6 w0
  have hH := tlHold N b5 i a6 c6 w0
  obtain ⟨o, ho⟩ : ∃ o, tlOps[30]? = some o := Option.isSome_iff_exists.1 (by kernel_rfl)
  have hop : o.op = Op.move (Operand.tmp 6) := op_of ho (by kernel_rfl)
  have hg : guardOk tlOps a o := h.guard hown (guard_of ho (g := some (27, true)) (by kernel_rfl)) (dep hd 27 (by kernel_rfl)) rfl (by decide +kernel)
  have v6 : a.eval (.tmp 6) = .slice a6 (plcI N).length c6 := h.fixed 6 _ rfl
  exact h.yields hown hH ho hg (v := .slice a6 (plcI N).length c6) (w' := w) (by simp only [execOp, hop, v6]; kernel_rfl) (Below.refl _ _) ⟨a6, c6, rfl, h.hold.2⟩
theorem tlSt31 (hR : tlRows N b5 i a6 c6 w0) (h : At tlOps 62 (tlTab N b5 i a6 c6 w0) (tlBase N b5 i a6 c6 w0) (fun w => Inv w0 b5 N w ∧ IsL w a6 c6 (plcI N)) l a w) (hd : ∀ o : Oper, tlOps[31]? = some o → ∀ e ∈ o.after.toList, Region.binds .any e = true → l.getD e.on false = true) : wpOp Tryd.prog tlOps Q 31 (At tlOps 62 (tlTab N b5 i a6 c6 w0) (tlBase N b5 i a6 c6 w0) (fun w => Inv w0 b5 N w ∧ IsL w a6 c6 (plcI N)) (l.setIfInBounds 31 true)) a w := by
  have hown := tlOwn N b5 i a6 c6 w0
  have hH := tlHold N b5 i a6 c6 w0
  obtain ⟨o, ho⟩ : ∃ o, tlOps[31]? = some o := Option.isSome_iff_exists.1 (by kernel_rfl)
  have hop : o.op = Op.call { callee := Callee.builtin Builtin.len, args := #[Operand.tmp 40], argTypes := #[25] } := op_of ho (by kernel_rfl)
  have hg : guardOk tlOps a o := h.guard hown (guard_of ho (g := some (27, true)) (by kernel_rfl)) (dep hd 27 (by kernel_rfl)) rfl (by decide +kernel)
  obtain ⟨p40, q40, v40, hi40⟩ := h.done 30 40 (dep hd 30 (by kernel_rfl)) (by kernel_rfl)
  change a.eval (.tmp 40) = .slice p40 (plcI N).length q40 at v40
  exact h.yields hown hH ho hg (v := .int .i64 ((plcI N).length : Int)) (w' := w) (by simp only [execOp, hop]; simp only [resolve, List.map_toArray, List.map_cons, List.map_nil, v40]; go_simp) (Below.refl _ _) rfl
theorem tlSt32 (hR : tlRows N b5 i a6 c6 w0) (h : At tlOps 62 (tlTab N b5 i a6 c6 w0) (tlBase N b5 i a6 c6 w0) (fun w => Inv w0 b5 N w ∧ IsL w a6 c6 (plcI N)) l a w) (hd : ∀ o : Oper, tlOps[32]? = some o → ∀ e ∈ o.after.toList, Region.binds .any e = true → l.getD e.on false = true) : wpOp Tryd.prog tlOps Q 32 (At tlOps 62 (tlTab N b5 i a6 c6 w0) (tlBase N b5 i a6 c6 w0) (fun w => Inv w0 b5 N w ∧ IsL w a6 c6 (plcI N)) (l.setIfInBounds 32 true)) a w := by
  have hown := tlOwn N b5 i a6 c6 w0
  have hH := tlHold N b5 i a6 c6 w0
  obtain ⟨o, ho⟩ : ∃ o, tlOps[32]? = some o := Option.isSome_iff_exists.1 (by kernel_rfl)
  have hop : o.op = Op.binOp BinOp.eql 3 (Operand.tmp 39) (Operand.tmp 41) 3 := op_of ho (by kernel_rfl)
  have hg : guardOk tlOps a o := h.guard hown (guard_of ho (g := some (27, true)) (by kernel_rfl)) (dep hd 27 (by kernel_rfl)) rfl (by decide +kernel)
  have v39 : a.eval (.tmp 39) = .int .i64 ((plcI N).length : Int) := h.done 29 39 (dep hd 29 (by kernel_rfl)) (by kernel_rfl)
  have v41 : a.eval (.tmp 41) = .int .i64 ((plcI N).length : Int) := h.done 31 41 (dep hd 31 (by kernel_rfl)) (by kernel_rfl)
  exact h.yields hown hH ho hg (v := .bool true) (w' := w) (by simp only [execOp, hop, v39, v41]; go_simp) (Below.refl _ _) rfl
theorem tlSt33 (hR : tlRows N b5 i a6 c6 w0) (h : At tlOps 62 (tlTab N b5 i a6 c6 w0) (tlBase N b5 i a6 c6 w0) (fun w => Inv w0 b5 N w ∧ IsL w a6 c6 (plcI N)) l a w) (hd : ∀ o : Oper, tlOps[33]? = some o → ∀ e ∈ o.after.toList, Region.binds .any e = true → l.getD e.on false = true) : wpOp Tryd.prog tlOps Q 33 (At tlOps 62 (tlTab N b5 i a6 c6 w0) (tlBase N b5 i a6 c6 w0) (fun w => Inv w0 b5 N w ∧ IsL w a6 c6 (plcI N)) (l.setIfInBounds 33 true)) a w := by
  have hown := tlOwn N b5 i a6 c6 w0
  have hH := tlHold N b5 i a6 c6 w0
  obtain ⟨o, ho⟩ : ∃ o, tlOps[33]? = some o := Option.isSome_iff_exists.1 (by kernel_rfl)
  have hop : o.op = Op.pick (Operand.tmp 37) (Operand.tmp 42) (Operand.const (Value.bool false)) := op_of ho (by kernel_rfl)
  have hg : guardOk tlOps a o := guard_none (guard_of ho (by kernel_rfl))
  have v37 : a.eval (.tmp 37) = .bool true := h.done 27 37 (dep hd 27 (by kernel_rfl)) (by kernel_rfl)
  have v42 : a.eval (.tmp 42) = .bool true := h.done 32 42 (dep hd 32 (by kernel_rfl)) (by kernel_rfl)
  exact h.yields hown hH ho hg (v := .bool true) (w' := w) (by simp only [execOp, hop, v37, v42]; kernel_rfl) (Below.refl _ _) rfl
theorem tlSt34 (hR : tlRows N b5 i a6 c6 w0) (h : At tlOps 62 (tlTab N b5 i a6 c6 w0) (tlBase N b5 i a6 c6 w0) (fun w => Inv w0 b5 N w ∧ IsL w a6 c6 (plcI N)) l a w) (hd : ∀ o : Oper, tlOps[34]? = some o → ∀ e ∈ o.after.toList, Region.binds .any e = true → l.getD e.on false = true) : wpOp Tryd.prog tlOps Q 34 (At tlOps 62 (tlTab N b5 i a6 c6 w0) (tlBase N b5 i a6 c6 w0) (fun w => Inv w0 b5 N w ∧ IsL w a6 c6 (plcI N)) (l.setIfInBounds 34 true)) a w := by
  have hown := tlOwn N b5 i a6 c6 w0
  have hH := tlHold N b5 i a6 c6 w0
  obtain ⟨o, ho⟩ : ∃ o, tlOps[34]? = some o := Option.isSome_iff_exists.1 (by kernel_rfl)
  have hop : o.op = Op.move (Operand.tmp 43) := op_of ho (by kernel_rfl)
  have hg : guardOk tlOps a o := guard_none (guard_of ho (by kernel_rfl))
  have v43 : a.eval (.tmp 43) = .bool true := h.done 33 43 (dep hd 33 (by kernel_rfl)) (by kernel_rfl)
  exact h.yields hown hH ho hg (v := .bool true) (w' := w) (by simp only [execOp, hop, v43]; kernel_rfl) (Below.refl _ _) rfl
theorem tlSt35 (hR : tlRows N b5 i a6 c6 w0) (h : At tlOps 62 (tlTab N b5 i a6 c6 w0) (tlBase N b5 i a6 c6 w0) (fun w => Inv w0 b5 N w ∧ IsL w a6 c6 (plcI N)) l a w) (hd : ∀ o : Oper, tlOps[35]? = some o → ∀ e ∈ o.after.toList, Region.binds .any e = true → l.getD e.on false = true) : wpOp Tryd.prog tlOps Q 35 (At tlOps 62 (tlTab N b5 i a6 c6 w0) (tlBase N b5 i a6 c6 w0) (fun w => Inv w0 b5 N w ∧ IsL w a6 c6 (plcI N)) (l.setIfInBounds 35 true)) a w := by
  have hown := tlOwn N b5 i a6 c6 w0
  have hH := tlHold N b5 i a6 c6 w0
  obtain ⟨o, ho⟩ : ∃ o, tlOps[35]? = some o := Option.isSome_iff_exists.1 (by kernel_rfl)
  have hop : o.op = Op.load 24 (Operand.tmp 5) := op_of ho (by kernel_rfl)
  have hg : guardOk tlOps a o := h.guard hown (guard_of ho (g := some (34, true)) (by kernel_rfl)) (dep hd 34 (by kernel_rfl)) rfl (by decide +kernel)
  have v5 : a.eval (.tmp 5) = .pointer (some ⟨b5, 0, none⟩) := h.fixed 5 _ rfl
  exact h.yields hown hH ho hg (v := sv N) (w' := w) (by simp only [execOp, hop, v5]; simp only [Sem.run_bind, load_set h.hold.1.1, Result.andThen_ok, Sem.run_pure]) (Below.refl _ _) rfl
theorem tlSt36 (hR : tlRows N b5 i a6 c6 w0) (h : At tlOps 62 (tlTab N b5 i a6 c6 w0) (tlBase N b5 i a6 c6 w0) (fun w => Inv w0 b5 N w ∧ IsL w a6 c6 (plcI N)) l a w) (hd : ∀ o : Oper, tlOps[36]? = some o → ∀ e ∈ o.after.toList, Region.binds .any e = true → l.getD e.on false = true) : wpOp Tryd.prog tlOps Q 36 (At tlOps 62 (tlTab N b5 i a6 c6 w0) (tlBase N b5 i a6 c6 w0) (fun w => Inv w0 b5 N w ∧ IsL w a6 c6 (plcI N)) (l.setIfInBounds 36 true)) a w := by
  have hown := tlOwn N b5 i a6 c6 w0
  have hH := tlHold N b5 i a6 c6 w0
  obtain ⟨o, ho⟩ : ∃ o, tlOps[36]? = some o := Option.isSome_iff_exists.1 (by kernel_rfl)
  have hop : o.op = Op.move (Operand.tmp 1) := op_of ho (by kernel_rfl)
  have hg : guardOk tlOps a o := h.guard hown (guard_of ho (g := some (34, true)) (by kernel_rfl)) (dep hd 34 (by kernel_rfl)) rfl (by decide +kernel)
  have v1 : a.eval (.tmp 1) = .int .i64 i := h.fixed 1 _ rfl
  exact h.yields hown hH ho hg (v := .int .i64 i) (w' := w) (by simp only [execOp, hop, v1]; kernel_rfl) (Below.refl _ _) rfl
theorem tlSt37 (hR : tlRows N b5 i a6 c6 w0) (h : At tlOps 62 (tlTab N b5 i a6 c6 w0) (tlBase N b5 i a6 c6 w0) (fun w => Inv w0 b5 N w ∧ IsL w a6 c6 (plcI N)) l a w) (hd : ∀ o : Oper, tlOps[37]? = some o → ∀ e ∈ o.after.toList, Region.binds .any e = true → l.getD e.on false = true) : wpOp Tryd.prog tlOps Q 37 (At tlOps 62 (tlTab N b5 i a6 c6 w0) (tlBase N b5 i a6 c6 w0) (fun w => Inv w0 b5 N w ∧ IsL w a6 c6 (plcI N)) (l.setIfInBounds 37 true)) a w := by
  have hown := tlOwn N b5 i a6 c6 w0
  have hH := tlHold N b5 i a6 c6 w0
  obtain ⟨o, ho⟩ : ∃ o, tlOps[37]? = some o := Option.isSome_iff_exists.1 (by kernel_rfl)
  have hop : o.op = Op.call { callee := Callee.value (Operand.func 17), args := #[Operand.tmp 45, Operand.tmp 46], argTypes := #[24, 3] } := op_of ho (by kernel_rfl)
  have hg : guardOk tlOps a o := h.guard hown (guard_of ho (g := some (34, true)) (by kernel_rfl)) (dep hd 34 (by kernel_rfl)) rfl (by decide +kernel)
  have v45 : a.eval (.tmp 45) = sv N := h.done 35 45 (dep hd 35 (by kernel_rfl)) (by kernel_rfl)
  have v46 : a.eval (.tmp 46) = .int .i64 i := h.done 36 46 (dep hd 36 (by kernel_rfl)) (by kernel_rfl)
  refine h.calls hown hH ho hg (f := 17) (args := #[sv N, .int .i64 i]) ?_ ((next_any N i hR.hi w h.hold.1.2.1 h.hold.1.2.2.1).mono ?_)
  · rw [exec_call (enters_of Tryd.func17 (by kernel_rfl) rfl) hop]
    simp only [List.map_toArray, List.map_cons, List.map_nil, v45, v46]
    try rfl
  rintro e w' ⟨rfl, hb⟩
  exact ⟨_, rfl, hb, rfl⟩
theorem tlSt38 (hR : tlRows N b5 i a6 c6 w0) (h : At tlOps 62 (tlTab N b5 i a6 c6 w0) (tlBase N b5 i a6 c6 w0) (fun w => Inv w0 b5 N w ∧ IsL w a6 c6 (plcI N)) l a w) (hd : ∀ o : Oper, tlOps[38]? = some o → ∀ e ∈ o.after.toList, Region.binds .any e = true → l.getD e.on false = true) : wpOp Tryd.prog tlOps Q 38 (At tlOps 62 (tlTab N b5 i a6 c6 w0) (tlBase N b5 i a6 c6 w0) (fun w => Inv w0 b5 N w ∧ IsL w a6 c6 (plcI N)) (l.setIfInBounds 38 true)) a w := by
  have hown := tlOwn N b5 i a6 c6 w0
  have hH := tlHold N b5 i a6 c6 w0
  obtain ⟨o, ho⟩ : ∃ o, tlOps[38]? = some o := Option.isSome_iff_exists.1 (by kernel_rfl)
  have hop : o.op = Op.move (Operand.tmp 6) := op_of ho (by kernel_rfl)
  have hg : guardOk tlOps a o := h.guard hown (guard_of ho (g := some (34, true)) (by kernel_rfl)) (dep hd 34 (by kernel_rfl)) rfl (by decide +kernel)
  have v6 : a.eval (.tmp 6) = .slice a6 (plcI N).length c6 := h.fixed 6 _ rfl
  exact h.yields hown hH ho hg (v := .slice a6 (plcI N).length c6) (w' := w) (by simp only [execOp, hop, v6]; kernel_rfl) (Below.refl _ _) ⟨a6, c6, rfl, h.hold.2⟩
theorem tlSt39 (hR : tlRows N b5 i a6 c6 w0) (h : At tlOps 62 (tlTab N b5 i a6 c6 w0) (tlBase N b5 i a6 c6 w0) (fun w => Inv w0 b5 N w ∧ IsL w a6 c6 (plcI N)) l a w) (hd : ∀ o : Oper, tlOps[39]? = some o → ∀ e ∈ o.after.toList, Region.binds .any e = true → l.getD e.on false = true) : wpOp Tryd.prog tlOps Q 39 (At tlOps 62 (tlTab N b5 i a6 c6 w0) (tlBase N b5 i a6 c6 w0) (fun w => Inv w0 b5 N w ∧ IsL w a6 c6 (plcI N)) (l.setIfInBounds 39 true)) a w := by
  have hown := tlOwn N b5 i a6 c6 w0
  have hH := tlHold N b5 i a6 c6 w0
  obtain ⟨o, ho⟩ : ∃ o, tlOps[39]? = some o := Option.isSome_iff_exists.1 (by kernel_rfl)
  have hop : o.op = Op.move (Operand.tmp 1) := op_of ho (by kernel_rfl)
  have hg : guardOk tlOps a o := h.guard hown (guard_of ho (g := some (34, true)) (by kernel_rfl)) (dep hd 34 (by kernel_rfl)) rfl (by decide +kernel)
  have v1 : a.eval (.tmp 1) = .int .i64 i := h.fixed 1 _ rfl
  exact h.yields hown hH ho hg (v := .int .i64 i) (w' := w) (by simp only [execOp, hop, v1]; kernel_rfl) (Below.refl _ _) rfl
theorem tlSt40 (hR : tlRows N b5 i a6 c6 w0) (h : At tlOps 62 (tlTab N b5 i a6 c6 w0) (tlBase N b5 i a6 c6 w0) (fun w => Inv w0 b5 N w ∧ IsL w a6 c6 (plcI N)) l a w) (hd : ∀ o : Oper, tlOps[40]? = some o → ∀ e ∈ o.after.toList, Region.binds .any e = true → l.getD e.on false = true) : wpOp Tryd.prog tlOps Q 40 (At tlOps 62 (tlTab N b5 i a6 c6 w0) (tlBase N b5 i a6 c6 w0) (fun w => Inv w0 b5 N w ∧ IsL w a6 c6 (plcI N)) (l.setIfInBounds 40 true)) a w := by
  have hown := tlOwn N b5 i a6 c6 w0
  have hH := tlHold N b5 i a6 c6 w0
  obtain ⟨o, ho⟩ : ∃ o, tlOps[40]? = some o := Option.isSome_iff_exists.1 (by kernel_rfl)
  have hop : o.op = Op.call { callee := Callee.value (Operand.func 18), args := #[Operand.tmp 48, Operand.tmp 49], argTypes := #[25, 3] } := op_of ho (by kernel_rfl)
  have hg : guardOk tlOps a o := h.guard hown (guard_of ho (g := some (34, true)) (by kernel_rfl)) (dep hd 34 (by kernel_rfl)) rfl (by decide +kernel)
  obtain ⟨p48, q48, v48, hi48⟩ := h.done 38 48 (dep hd 38 (by kernel_rfl)) (by kernel_rfl)
  change a.eval (.tmp 48) = .slice p48 (plcI N).length q48 at v48
  have v49 : a.eval (.tmp 49) = .int .i64 i := h.done 39 49 (dep hd 39 (by kernel_rfl)) (by kernel_rfl)
  refine h.calls hown hH ho hg (f := 18) (args := #[.slice p48 (plcI N).length q48, .int .i64 i]) ?_ ((refNextN N p48 q48 i w hi48).mono ?_)
  · rw [exec_call (enters_of Tryd.func18 (by kernel_rfl) rfl) hop]
    simp only [List.map_toArray, List.map_cons, List.map_nil, v48, v49]
    try rfl
  rintro e w' ⟨rfl, hb⟩
  exact ⟨_, rfl, hb, rfl⟩
theorem tlSt41 (hR : tlRows N b5 i a6 c6 w0) (h : At tlOps 62 (tlTab N b5 i a6 c6 w0) (tlBase N b5 i a6 c6 w0) (fun w => Inv w0 b5 N w ∧ IsL w a6 c6 (plcI N)) l a w) (hd : ∀ o : Oper, tlOps[41]? = some o → ∀ e ∈ o.after.toList, Region.binds .any e = true → l.getD e.on false = true) : wpOp Tryd.prog tlOps Q 41 (At tlOps 62 (tlTab N b5 i a6 c6 w0) (tlBase N b5 i a6 c6 w0) (fun w => Inv w0 b5 N w ∧ IsL w a6 c6 (plcI N)) (l.setIfInBounds 41 true)) a w := by
  have hown := tlOwn N b5 i a6 c6 w0
  have hH := tlHold N b5 i a6 c6 w0
  obtain ⟨o, ho⟩ : ∃ o, tlOps[41]? = some o := Option.isSome_iff_exists.1 (by kernel_rfl)
  have hop : o.op = Op.binOp BinOp.eql 3 (Operand.tmp 47) (Operand.tmp 50) 3 := op_of ho (by kernel_rfl)
  have hg : guardOk tlOps a o := h.guard hown (guard_of ho (g := some (34, true)) (by kernel_rfl)) (dep hd 34 (by kernel_rfl)) rfl (by decide +kernel)
  have v47 : a.eval (.tmp 47) = .int .i64 (nextN N i) := h.done 37 47 (dep hd 37 (by kernel_rfl)) (by kernel_rfl)
  have v50 : a.eval (.tmp 50) = .int .i64 (nextN N i) := h.done 40 50 (dep hd 40 (by kernel_rfl)) (by kernel_rfl)
  exact h.yields hown hH ho hg (v := .bool true) (w' := w) (by simp only [execOp, hop, v47, v50]; go_simp) (Below.refl _ _) rfl
theorem tlSt42 (hR : tlRows N b5 i a6 c6 w0) (h : At tlOps 62 (tlTab N b5 i a6 c6 w0) (tlBase N b5 i a6 c6 w0) (fun w => Inv w0 b5 N w ∧ IsL w a6 c6 (plcI N)) l a w) (hd : ∀ o : Oper, tlOps[42]? = some o → ∀ e ∈ o.after.toList, Region.binds .any e = true → l.getD e.on false = true) : wpOp Tryd.prog tlOps Q 42 (At tlOps 62 (tlTab N b5 i a6 c6 w0) (tlBase N b5 i a6 c6 w0) (fun w => Inv w0 b5 N w ∧ IsL w a6 c6 (plcI N)) (l.setIfInBounds 42 true)) a w := by
  have hown := tlOwn N b5 i a6 c6 w0
  have hH := tlHold N b5 i a6 c6 w0
  obtain ⟨o, ho⟩ : ∃ o, tlOps[42]? = some o := Option.isSome_iff_exists.1 (by kernel_rfl)
  have hop : o.op = Op.pick (Operand.tmp 44) (Operand.tmp 51) (Operand.const (Value.bool false)) := op_of ho (by kernel_rfl)
  have hg : guardOk tlOps a o := guard_none (guard_of ho (by kernel_rfl))
  have v44 : a.eval (.tmp 44) = .bool true := h.done 34 44 (dep hd 34 (by kernel_rfl)) (by kernel_rfl)
  have v51 : a.eval (.tmp 51) = .bool true := h.done 41 51 (dep hd 41 (by kernel_rfl)) (by kernel_rfl)
  exact h.yields hown hH ho hg (v := .bool true) (w' := w) (by simp only [execOp, hop, v44, v51]; kernel_rfl) (Below.refl _ _) rfl
theorem tlSt43 (hR : tlRows N b5 i a6 c6 w0) (h : At tlOps 62 (tlTab N b5 i a6 c6 w0) (tlBase N b5 i a6 c6 w0) (fun w => Inv w0 b5 N w ∧ IsL w a6 c6 (plcI N)) l a w) (hd : ∀ o : Oper, tlOps[43]? = some o → ∀ e ∈ o.after.toList, Region.binds .any e = true → l.getD e.on false = true) : wpOp Tryd.prog tlOps Q 43 (At tlOps 62 (tlTab N b5 i a6 c6 w0) (tlBase N b5 i a6 c6 w0) (fun w => Inv w0 b5 N w ∧ IsL w a6 c6 (plcI N)) (l.setIfInBounds 43 true)) a w := by
  have hown := tlOwn N b5 i a6 c6 w0
  have hH := tlHold N b5 i a6 c6 w0
  obtain ⟨o, ho⟩ : ∃ o, tlOps[43]? = some o := Option.isSome_iff_exists.1 (by kernel_rfl)
  have hop : o.op = Op.move (Operand.tmp 52) := op_of ho (by kernel_rfl)
  have hg : guardOk tlOps a o := guard_none (guard_of ho (by kernel_rfl))
  have v52 : a.eval (.tmp 52) = .bool true := h.done 42 52 (dep hd 42 (by kernel_rfl)) (by kernel_rfl)
  exact h.yields hown hH ho hg (v := .bool true) (w' := w) (by simp only [execOp, hop, v52]; kernel_rfl) (Below.refl _ _) rfl
theorem tlSt44 (hR : tlRows N b5 i a6 c6 w0) (h : At tlOps 62 (tlTab N b5 i a6 c6 w0) (tlBase N b5 i a6 c6 w0) (fun w => Inv w0 b5 N w ∧ IsL w a6 c6 (plcI N)) l a w) (hd : ∀ o : Oper, tlOps[44]? = some o → ∀ e ∈ o.after.toList, Region.binds .any e = true → l.getD e.on false = true) : wpOp Tryd.prog tlOps Q 44 (At tlOps 62 (tlTab N b5 i a6 c6 w0) (tlBase N b5 i a6 c6 w0) (fun w => Inv w0 b5 N w ∧ IsL w a6 c6 (plcI N)) (l.setIfInBounds 44 true)) a w := by
  have hown := tlOwn N b5 i a6 c6 w0
  have hH := tlHold N b5 i a6 c6 w0
  obtain ⟨o, ho⟩ : ∃ o, tlOps[44]? = some o := Option.isSome_iff_exists.1 (by kernel_rfl)
  have hop : o.op = Op.load 24 (Operand.tmp 5) := op_of ho (by kernel_rfl)
  have hg : guardOk tlOps a o := h.guard hown (guard_of ho (g := some (43, true)) (by kernel_rfl)) (dep hd 43 (by kernel_rfl)) rfl (by decide +kernel)
  have v5 : a.eval (.tmp 5) = .pointer (some ⟨b5, 0, none⟩) := h.fixed 5 _ rfl
  exact h.yields hown hH ho hg (v := sv N) (w' := w) (by simp only [execOp, hop, v5]; simp only [Sem.run_bind, load_set h.hold.1.1, Result.andThen_ok, Sem.run_pure]) (Below.refl _ _) rfl
theorem tlSt45 (hR : tlRows N b5 i a6 c6 w0) (h : At tlOps 62 (tlTab N b5 i a6 c6 w0) (tlBase N b5 i a6 c6 w0) (fun w => Inv w0 b5 N w ∧ IsL w a6 c6 (plcI N)) l a w) (hd : ∀ o : Oper, tlOps[45]? = some o → ∀ e ∈ o.after.toList, Region.binds .any e = true → l.getD e.on false = true) : wpOp Tryd.prog tlOps Q 45 (At tlOps 62 (tlTab N b5 i a6 c6 w0) (tlBase N b5 i a6 c6 w0) (fun w => Inv w0 b5 N w ∧ IsL w a6 c6 (plcI N)) (l.setIfInBounds 45 true)) a w := by
  have hown := tlOwn N b5 i a6 c6 w0
  have hH := tlHold N b5 i a6 c6 w0
  obtain ⟨o, ho⟩ : ∃ o, tlOps[45]? = some o := Option.isSome_iff_exists.1 (by kernel_rfl)
  have hop : o.op = Op.call { callee := Callee.value (Operand.func 20), args := #[Operand.tmp 54], argTypes := #[24] } := op_of ho (by kernel_rfl)
  have hg : guardOk tlOps a o := h.guard hown (guard_of ho (g := some (43, true)) (by kernel_rfl)) (dep hd 43 (by kernel_rfl)) rfl (by decide +kernel)
  have v54 : a.eval (.tmp 54) = sv N := h.done 44 54 (dep hd 44 (by kernel_rfl)) (by kernel_rfl)
  refine h.calls hown hH ho hg (f := 20) (args := #[sv N]) ?_ ((all_any N w h.hold.1.2.1 h.hold.1.2.2.1).mono ?_)
  · rw [exec_call (enters_of Tryd.func20 (by kernel_rfl) rfl) hop]
    simp only [List.map_toArray, List.map_cons, List.map_nil, v54]
    try rfl
  rintro e w' ⟨⟨a1, c1, rfl, hi⟩, hb⟩
  exact ⟨_, rfl, hb, a1, c1, rfl, hi⟩
theorem tlSt46 (hR : tlRows N b5 i a6 c6 w0) (h : At tlOps 62 (tlTab N b5 i a6 c6 w0) (tlBase N b5 i a6 c6 w0) (fun w => Inv w0 b5 N w ∧ IsL w a6 c6 (plcI N)) l a w) (hd : ∀ o : Oper, tlOps[46]? = some o → ∀ e ∈ o.after.toList, Region.binds .any e = true → l.getD e.on false = true) : wpOp Tryd.prog tlOps Q 46 (At tlOps 62 (tlTab N b5 i a6 c6 w0) (tlBase N b5 i a6 c6 w0) (fun w => Inv w0 b5 N w ∧ IsL w a6 c6 (plcI N)) (l.setIfInBounds 46 true)) a w := by
  have hown := tlOwn N b5 i a6 c6 w0
  have hH := tlHold N b5 i a6 c6 w0
  obtain ⟨o, ho⟩ : ∃ o, tlOps[46]? = some o := Option.isSome_iff_exists.1 (by kernel_rfl)
  have hop : o.op = Op.move (Operand.tmp 6) := op_of ho (by kernel_rfl)
  have hg : guardOk tlOps a o := h.guard hown (guard_of ho (g := some (43, true)) (by kernel_rfl)) (dep hd 43 (by kernel_rfl)) rfl (by decide +kernel)
  have v6 : a.eval (.tmp 6) = .slice a6 (plcI N).length c6 := h.fixed 6 _ rfl
  exact h.yields hown hH ho hg (v := .slice a6 (plcI N).length c6) (w' := w) (by simp only [execOp, hop, v6]; kernel_rfl) (Below.refl _ _) ⟨a6, c6, rfl, h.hold.2⟩
theorem tlSt47 (hR : tlRows N b5 i a6 c6 w0) (h : At tlOps 62 (tlTab N b5 i a6 c6 w0) (tlBase N b5 i a6 c6 w0) (fun w => Inv w0 b5 N w ∧ IsL w a6 c6 (plcI N)) l a w) (hd : ∀ o : Oper, tlOps[47]? = some o → ∀ e ∈ o.after.toList, Region.binds .any e = true → l.getD e.on false = true) : wpOp Tryd.prog tlOps Q 47 (At tlOps 62 (tlTab N b5 i a6 c6 w0) (tlBase N b5 i a6 c6 w0) (fun w => Inv w0 b5 N w ∧ IsL w a6 c6 (plcI N)) (l.setIfInBounds 47 true)) a w := by
  have hown := tlOwn N b5 i a6 c6 w0
  have hH := tlHold N b5 i a6 c6 w0
  obtain ⟨o, ho⟩ : ∃ o, tlOps[47]? = some o := Option.isSome_iff_exists.1 (by kernel_rfl)
  have hop : o.op = Op.call { callee := Callee.value (Operand.func 19), args := #[Operand.tmp 55, Operand.tmp 56], argTypes := #[25, 25] } := op_of ho (by kernel_rfl)
  have hg : guardOk tlOps a o := h.guard hown (guard_of ho (g := some (43, true)) (by kernel_rfl)) (dep hd 43 (by kernel_rfl)) rfl (by decide +kernel)
  obtain ⟨p55, q55, v55, hi55⟩ := h.done 45 55 (dep hd 45 (by kernel_rfl)) (by kernel_rfl)
  change a.eval (.tmp 55) = .slice p55 (plcI N).length q55 at v55
  obtain ⟨p56, q56, v56, hi56⟩ := h.done 46 56 (dep hd 46 (by kernel_rfl)) (by kernel_rfl)
  change a.eval (.tmp 56) = .slice p56 (plcI N).length q56 at v56
  refine h.calls hown hH ho hg (f := 19) (args := #[.slice p55 (plcI N).length q55, .slice p56 (plcI N).length q56]) ?_ ((refSameN N p55 p56 q55 q56 w hi55 hi56).mono ?_)
  · rw [exec_call (enters_of Tryd.func19 (by kernel_rfl) rfl) hop]
    simp only [List.map_toArray, List.map_cons, List.map_nil, v55, v56]
    try rfl
  rintro e w' ⟨rfl, hb⟩
  exact ⟨_, rfl, hb, rfl⟩
theorem tlSt48 (hR : tlRows N b5 i a6 c6 w0) (h : At tlOps 62 (tlTab N b5 i a6 c6 w0) (tlBase N b5 i a6 c6 w0) (fun w => Inv w0 b5 N w ∧ IsL w a6 c6 (plcI N)) l a w) (hd : ∀ o : Oper, tlOps[48]? = some o → ∀ e ∈ o.after.toList, Region.binds .any e = true → l.getD e.on false = true) : wpOp Tryd.prog tlOps Q 48 (At tlOps 62 (tlTab N b5 i a6 c6 w0) (tlBase N b5 i a6 c6 w0) (fun w => Inv w0 b5 N w ∧ IsL w a6 c6 (plcI N)) (l.setIfInBounds 48 true)) a w := by
  have hown := tlOwn N b5 i a6 c6 w0
  have hH := tlHold N b5 i a6 c6 w0
  obtain ⟨o, ho⟩ : ∃ o, tlOps[48]? = some o := Option.isSome_iff_exists.1 (by kernel_rfl)
  have hop : o.op = Op.pick (Operand.tmp 53) (Operand.tmp 57) (Operand.const (Value.bool false)) := op_of ho (by kernel_rfl)
  have hg : guardOk tlOps a o := guard_none (guard_of ho (by kernel_rfl))
  have v53 : a.eval (.tmp 53) = .bool true := h.done 43 53 (dep hd 43 (by kernel_rfl)) (by kernel_rfl)
  have v57 : a.eval (.tmp 57) = .bool true := h.done 47 57 (dep hd 47 (by kernel_rfl)) (by kernel_rfl)
  exact h.yields hown hH ho hg (v := .bool true) (w' := w) (by simp only [execOp, hop, v53, v57]; kernel_rfl) (Below.refl _ _) rfl
theorem tlSt49 (hR : tlRows N b5 i a6 c6 w0) (h : At tlOps 62 (tlTab N b5 i a6 c6 w0) (tlBase N b5 i a6 c6 w0) (fun w => Inv w0 b5 N w ∧ IsL w a6 c6 (plcI N)) l a w) (hd : ∀ o : Oper, tlOps[49]? = some o → ∀ e ∈ o.after.toList, Region.binds .any e = true → l.getD e.on false = true) : wpOp Tryd.prog tlOps Q 49 (At tlOps 62 (tlTab N b5 i a6 c6 w0) (tlBase N b5 i a6 c6 w0) (fun w => Inv w0 b5 N w ∧ IsL w a6 c6 (plcI N)) (l.setIfInBounds 49 true)) a w := by
  have hown := tlOwn N b5 i a6 c6 w0
  have hH := tlHold N b5 i a6 c6 w0
  obtain ⟨o, ho⟩ : ∃ o, tlOps[49]? = some o := Option.isSome_iff_exists.1 (by kernel_rfl)
  have hop : o.op = Op.move (Operand.tmp 58) := op_of ho (by kernel_rfl)
  have hg : guardOk tlOps a o := guard_none (guard_of ho (by kernel_rfl))
  have v58 : a.eval (.tmp 58) = .bool true := h.done 48 58 (dep hd 48 (by kernel_rfl)) (by kernel_rfl)
  exact h.yields hown hH ho hg (v := .bool true) (w' := w) (by simp only [execOp, hop, v58]; kernel_rfl) (Below.refl _ _) rfl
theorem tlSt50 (hR : tlRows N b5 i a6 c6 w0) (h : At tlOps 62 (tlTab N b5 i a6 c6 w0) (tlBase N b5 i a6 c6 w0) (fun w => Inv w0 b5 N w ∧ IsL w a6 c6 (plcI N)) l a w) (hd : ∀ o : Oper, tlOps[50]? = some o → ∀ e ∈ o.after.toList, Region.binds .any e = true → l.getD e.on false = true) : wpOp Tryd.prog tlOps Q 50 (At tlOps 62 (tlTab N b5 i a6 c6 w0) (tlBase N b5 i a6 c6 w0) (fun w => Inv w0 b5 N w ∧ IsL w a6 c6 (plcI N)) (l.setIfInBounds 50 true)) a w := by
  have hown := tlOwn N b5 i a6 c6 w0
  have hH := tlHold N b5 i a6 c6 w0
  obtain ⟨o, ho⟩ : ∃ o, tlOps[50]? = some o := Option.isSome_iff_exists.1 (by kernel_rfl)
  have hop : o.op = Op.call { callee := Callee.value (Operand.func 21), args := #[], argTypes := #[] } := op_of ho (by kernel_rfl)
  have hg : guardOk tlOps a o := h.guard hown (guard_of ho (g := some (49, true)) (by kernel_rfl)) (dep hd 49 (by kernel_rfl)) rfl (by decide +kernel)
  refine h.calls hown hH ho hg (f := 21) (args := #[]) ?_ ((works_any w h.hold.1.2.1 h.hold.1.2.2.1).mono ?_)
  · rw [exec_call (enters_of Tryd.func21 (by kernel_rfl) rfl) hop]
    simp
    skip
  rintro e w' ⟨rfl, hb⟩
  exact ⟨_, rfl, hb, rfl⟩
theorem tlSt51 (hR : tlRows N b5 i a6 c6 w0) (h : At tlOps 62 (tlTab N b5 i a6 c6 w0) (tlBase N b5 i a6 c6 w0) (fun w => Inv w0 b5 N w ∧ IsL w a6 c6 (plcI N)) l a w) (hd : ∀ o : Oper, tlOps[51]? = some o → ∀ e ∈ o.after.toList, Region.binds .any e = true → l.getD e.on false = true) : wpOp Tryd.prog tlOps Q 51 (At tlOps 62 (tlTab N b5 i a6 c6 w0) (tlBase N b5 i a6 c6 w0) (fun w => Inv w0 b5 N w ∧ IsL w a6 c6 (plcI N)) (l.setIfInBounds 51 true)) a w := by
  have hown := tlOwn N b5 i a6 c6 w0
  have hH := tlHold N b5 i a6 c6 w0
  obtain ⟨o, ho⟩ : ∃ o, tlOps[51]? = some o := Option.isSome_iff_exists.1 (by kernel_rfl)
  have hop : o.op = Op.pick (Operand.tmp 59) (Operand.tmp 60) (Operand.const (Value.bool false)) := op_of ho (by kernel_rfl)
  have hg : guardOk tlOps a o := guard_none (guard_of ho (by kernel_rfl))
  have v59 : a.eval (.tmp 59) = .bool true := h.done 49 59 (dep hd 49 (by kernel_rfl)) (by kernel_rfl)
  have v60 : a.eval (.tmp 60) = .bool true := h.done 50 60 (dep hd 50 (by kernel_rfl)) (by kernel_rfl)
  exact h.yields hown hH ho hg (v := .bool true) (w' := w) (by simp only [execOp, hop, v59, v60]; kernel_rfl) (Below.refl _ _) rfl
theorem tlSt52 (hR : tlRows N b5 i a6 c6 w0) (h : At tlOps 62 (tlTab N b5 i a6 c6 w0) (tlBase N b5 i a6 c6 w0) (fun w => Inv w0 b5 N w ∧ IsL w a6 c6 (plcI N)) l a w) (hd : ∀ o : Oper, tlOps[52]? = some o → ∀ e ∈ o.after.toList, Region.binds .any e = true → l.getD e.on false = true) : wpOp Tryd.prog tlOps Q 52 (At tlOps 62 (tlTab N b5 i a6 c6 w0) (tlBase N b5 i a6 c6 w0) (fun w => Inv w0 b5 N w ∧ IsL w a6 c6 (plcI N)) (l.setIfInBounds 52 true)) a w := by
  have hown := tlOwn N b5 i a6 c6 w0
  have hH := tlHold N b5 i a6 c6 w0
  obtain ⟨o, ho⟩ : ∃ o, tlOps[52]? = some o := Option.isSome_iff_exists.1 (by kernel_rfl)
  have hop : o.op = Op.assign (Operand.tmp 61) := op_of ho (by kernel_rfl)
  have hg : guardOk tlOps a o := guard_none (guard_of ho (by kernel_rfl))
  have v61 : a.eval (.tmp 61) = .bool true := h.done 51 61 (dep hd 51 (by kernel_rfl)) (by kernel_rfl)
  exact h.yields hown hH ho hg (v := .bool true) (w' := w) (by simp only [execOp, hop, v61]; kernel_rfl) (Below.refl _ _) rfl
theorem tlSize : tlOps.size = 53 := by kernel_rfl
theorem tlStep (hR : tlRows N b5 i a6 c6 w0) (l : Array Bool) (a : Act) (w : World) (kk : Nat) (h : At tlOps 62 (tlTab N b5 i a6 c6 w0) (tlBase N b5 i a6 c6 w0) (fun w => Inv w0 b5 N w ∧ IsL w a6 c6 (plcI N)) l a w) (hi : kk < tlOps.size) (hd : ∀ o : Oper, tlOps[kk]? = some o → ∀ e ∈ o.after.toList, Region.binds .any e = true → l.getD e.on false = true) : wpOp Tryd.prog tlOps Q kk (At tlOps 62 (tlTab N b5 i a6 c6 w0) (tlBase N b5 i a6 c6 w0) (fun w => Inv w0 b5 N w ∧ IsL w a6 c6 (plcI N)) (l.setIfInBounds kk true)) a w := by
  rw [tlSize] at hi
  match kk, hi, hd with
  | 0, _, hd => exact tlSt0 hR h hd
  | 1, _, hd => exact tlSt1 hR h hd
  | 2, _, hd => exact tlSt2 hR h hd
  | 3, _, hd => exact tlSt3 hR h hd
  | 4, _, hd => exact tlSt4 hR h hd
  | 5, _, hd => exact tlSt5 hR h hd
  | 6, _, hd => exact tlSt6 hR h hd
  | 7, _, hd => exact tlSt7 hR h hd
  | 8, _, hd => exact tlSt8 hR h hd
  | 9, _, hd => exact tlSt9 hR h hd
  | 10, _, hd => exact tlSt10 hR h hd
  | 11, _, hd => exact tlSt11 hR h hd
  | 12, _, hd => exact tlSt12 hR h hd
  | 13, _, hd => exact tlSt13 hR h hd
  | 14, _, hd => exact tlSt14 hR h hd
  | 15, _, hd => exact tlSt15 hR h hd
  | 16, _, hd => exact tlSt16 hR h hd
  | 17, _, hd => exact tlSt17 hR h hd
  | 18, _, hd => exact tlSt18 hR h hd
  | 19, _, hd => exact tlSt19 hR h hd
  | 20, _, hd => exact tlSt20 hR h hd
  | 21, _, hd => exact tlSt21 hR h hd
  | 22, _, hd => exact tlSt22 hR h hd
  | 23, _, hd => exact tlSt23 hR h hd
  | 24, _, hd => exact tlSt24 hR h hd
  | 25, _, hd => exact tlSt25 hR h hd
  | 26, _, hd => exact tlSt26 hR h hd
  | 27, _, hd => exact tlSt27 hR h hd
  | 28, _, hd => exact tlSt28 hR h hd
  | 29, _, hd => exact tlSt29 hR h hd
  | 30, _, hd => exact tlSt30 hR h hd
  | 31, _, hd => exact tlSt31 hR h hd
  | 32, _, hd => exact tlSt32 hR h hd
  | 33, _, hd => exact tlSt33 hR h hd
  | 34, _, hd => exact tlSt34 hR h hd
  | 35, _, hd => exact tlSt35 hR h hd
  | 36, _, hd => exact tlSt36 hR h hd
  | 37, _, hd => exact tlSt37 hR h hd
  | 38, _, hd => exact tlSt38 hR h hd
  | 39, _, hd => exact tlSt39 hR h hd
  | 40, _, hd => exact tlSt40 hR h hd
  | 41, _, hd => exact tlSt41 hR h hd
  | 42, _, hd => exact tlSt42 hR h hd
  | 43, _, hd => exact tlSt43 hR h hd
  | 44, _, hd => exact tlSt44 hR h hd
  | 45, _, hd => exact tlSt45 hR h hd
  | 46, _, hd => exact tlSt46 hR h hd
  | 47, _, hd => exact tlSt47 hR h hd
  | 48, _, hd => exact tlSt48 hR h hd
  | 49, _, hd => exact tlSt49 hR h hd
  | 50, _, hd => exact tlSt50 hR h hd
  | 51, _, hd => exact tlSt51 hR h hd
  | 52, _, hd => exact tlSt52 hR h hd
  | k + 53, hi, _ => omega
end
end Go.Proofs.YtidkakcnhgfpoaaDoor
