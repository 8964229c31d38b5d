/- BitsKnown: its regions that draw their order, by program (genKnown.py). -/
import Derived.Test.YtidkakcnhgfpoaaDoorBitsZ
namespace Go.Proofs.YtidkakcnhgfpoaaDoor
open Go.RowKit Go.Shelf
set_option linter.unusedVariables false
set_option maxRecDepth 100000

/-- The operations of the region. -/
noncomputable def krOps : Array Oper := ((Tryd.f7.body).bind (regionOps 9)).getD #[]
/-- What each of them yields. -/
def krTab (A b1 b2 : Nat) (i : Int) (w0 : World) (t : Nat → Value) : Array Cl := #[.val (sv A),
  .val (.int .i64 i),
  .val (.bool true),
  .val (.bool false),
  .val (.bool false),
  .val (sv A),
  .val (.int .i64 i),
  .val (.int .i64 i),
  .val (.int .i64 i),
  .val (.bool false),
  .val (.bool false),
  .val (.bool false),
  .val (sv 0),
  .val (.int .i64 i),
  .val (.bool false),
  .val (.bool false),
  .val (.bool false),
  .val (sv 0),
  .val (.int .i64 i),
  .val (sv (addN 0 i)),
  .val (.int .i64 1),
  .val (.bool false),
  .val (.bool false),
  .val (.bool false),
  .val (sv 0),
  .val (.int .i64 i),
  .val (sv (addN 0 i)),
  .val (.int .i64 i),
  .val (sv 0),
  .val (sv 0),
  .val (.bool false),
  .val (.bool false),
  .val (.bool false),
  .val (sv A),
  .val (.int .i64 i),
  .val (sv (delN A i)),
  .val (.int .i64 255),
  .val (.bool false),
  .val (.bool false)]
/-- The slots that the region does not write. -/
def krFree : List Nat := [0, 1, 2, 3, 4, 5, 6, 7, 8, 9, 10, 11, 12, 13, 14, 15, 55, 56, 57, 58, 59, 60, 61, 62, 63, 64, 65, 66, 67, 68, 69, 70, 71, 72, 73, 74, 75, 76, 77, 78, 79, 80, 81, 82, 83, 84, 85, 86, 87, 88, 89, 90, 91, 92, 93, 94, 95, 96, 97, 98, 99, 100, 101, 102, 103, 104, 105, 106, 107, 108, 109, 110, 111, 112, 113]
def krBase (A b1 b2 : Nat) (i : Int) (w0 : World) (t : Nat → Value) : Nat → Option Value := fun s => if krFree.contains s then some (t s) else none
theorem krOwn (A b1 b2 : Nat) (i : Int) (w0 : World) (t : Nat → Value) : ownSlots krOps 114 (krBase A b1 b2 i w0 t) := own_of (bs := krFree) (by kernel_rfl) (fun d hd => by unfold krBase; rw [hd]; rfl)
theorem krHold (A b1 b2 : Nat) (i : Int) (w0 : World) (t : Nat → Value) : ∀ w w' : World, (fun w => Inv2 w0 b1 b2 0 A w) w → Below w.heap.size w w' → (fun w => Inv2 w0 b1 b2 0 A w) w' := fun w w' h k => h.next k
/-- The closed facts that the region leans on. -/
structure krRows (A b1 b2 : Nat) (i : Int) (w0 : World) (t : Nat → Value) : Prop where
  t1 : t 1 = .pointer (some ⟨b1, 0, none⟩)
  t2 : t 2 = .pointer (some ⟨b2, 0, none⟩)
  t4 : t 4 = .int .i64 i
  fz : fits 0
  hi : i ≤ 9223372036854775807
  h1 : hasN A i = true
  h2 : nextN A i = i
  h3 : hasN 0 i = false
  h4 : ((plc (addN 0 i)).length : Int) = 1
  h5 : delN (addN 0 i) i = 0
  h6 : ((plc (delN A i)).length : Int) = 255
section
variable {l : Array Bool} {a : Act} {w : World} {Q : Exit → Act → World → Prop} {A b1 b2 : Nat} {i : Int} {w0 : World} {t : Nat → Value}
theorem krSt0 (hR : krRows A b1 b2 i w0 t) (h : At krOps 114 (krTab A b1 b2 i w0 t) (krBase A b1 b2 i w0 t) (fun w => Inv2 w0 b1 b2 0 A w) l a w) (hd : ∀ o : Oper, krOps[0]? = some o → ∀ e ∈ o.after.toList, Region.binds .any e = true → l.getD e.on false = true) : wpOp Tryd.prog krOps Q 0 (At krOps 114 (krTab A b1 b2 i w0 t) (krBase A b1 b2 i w0 t) (fun w => Inv2 w0 b1 b2 0 A w) (l.setIfInBounds 0 true)) a w := by
  have hown := krOwn A b1 b2 i w0 t
  have hH := krHold A b1 b2 i w0 t
  obtain ⟨o, ho⟩ : ∃ o, krOps[0]? = some o := Option.isSome_iff_exists.1 (by kernel_rfl)
  have hop : o.op = Op.load 24 (Operand.tmp 2) := op_of ho (by kernel_rfl)
  have hg : guardOk krOps a o := guard_none (guard_of ho (by kernel_rfl))
  have v2 : a.eval (.tmp 2) = .pointer (some ⟨b2, 0, none⟩) := (h.fixed 2 (t 2) rfl).trans hR.t2
  exact h.yields hown hH ho hg (v := sv A) (w' := w) (by simp only [execOp, hop, v2]; simp only [Sem.run_bind, load_set (h.hold.2.1), Result.andThen_ok, Sem.run_pure]) (Below.refl _ _) rfl
theorem krSt1 (hR : krRows A b1 b2 i w0 t) (h : At krOps 114 (krTab A b1 b2 i w0 t) (krBase A b1 b2 i w0 t) (fun w => Inv2 w0 b1 b2 0 A w) l a w) (hd : ∀ o : Oper, krOps[1]? = some o → ∀ e ∈ o.after.toList, Region.binds .any e = true → l.getD e.on false = true) : wpOp Tryd.prog krOps Q 1 (At krOps 114 (krTab A b1 b2 i w0 t) (krBase A b1 b2 i w0 t) (fun w => Inv2 w0 b1 b2 0 A w) (l.setIfInBounds 1 true)) a w := by
  have hown := krOwn A b1 b2 i w0 t
  have hH := krHold A b1 b2 i w0 t
  obtain ⟨o, ho⟩ : ∃ o, krOps[1]? = some o := Option.isSome_iff_exists.1 (by kernel_rfl)
  have hop : o.op = Op.move (Operand.tmp 4) := op_of ho (by kernel_rfl)
  have hg : guardOk krOps a o := guard_none (guard_of ho (by kernel_rfl))
  have v4 : a.eval (.tmp 4) = .int .i64 i := (h.fixed 4 (t 4) rfl).trans hR.t4
  exact h.yields hown hH ho hg (v := .int .i64 i) (w' := w) (by simp only [execOp, hop, v4]; kernel_rfl) (Below.refl _ _) rfl
theorem krSt2 (hR : krRows A b1 b2 i w0 t) (h : At krOps 114 (krTab A b1 b2 i w0 t) (krBase A b1 b2 i w0 t) (fun w => Inv2 w0 b1 b2 0 A w) l a w) (hd : ∀ o : Oper, krOps[2]? = some o → ∀ e ∈ o.after.toList, Region.binds .any e = true → l.getD e.on false = true) : wpOp Tryd.prog krOps Q 2 (At krOps 114 (krTab A b1 b2 i w0 t) (krBase A b1 b2 i w0 t) (fun w => Inv2 w0 b1 b2 0 A w) (l.setIfInBounds 2 true)) a w := by
  have hown := krOwn A b1 b2 i w0 t
  have hH := krHold A b1 b2 i w0 t
  obtain ⟨o, ho⟩ : ∃ o, krOps[2]? = some o := Option.isSome_iff_exists.1 (by kernel_rfl)
  have hop : o.op = Op.call { callee := Callee.value (Operand.func 9), args := #[Operand.tmp 16, Operand.tmp 17], argTypes := #[24, 3] } := op_of ho (by kernel_rfl)
  have hg : guardOk krOps a o := guard_none (guard_of ho (by kernel_rfl))
  have v16 : a.eval (.tmp 16) = sv A := h.done 0 16 (dep hd 0 (by kernel_rfl)) (by kernel_rfl)
  have v17 : a.eval (.tmp 17) = .int .i64 i := h.done 1 17 (dep hd 1 (by kernel_rfl)) (by kernel_rfl)
  refine h.calls hown hH ho hg (f := 9) (args := #[sv A, .int .i64 i]) ?_ ((has_is A i true hR.h1 w).mono ?_)
  · rw [exec_call (enters_of Tryd.func9 (by kernel_rfl) rfl) hop]
    simp only [List.map_toArray, List.map_cons, List.map_nil, v16, v17]
    try rfl
  rintro e w' ⟨rfl, hb⟩
  exact ⟨_, rfl, hb, rfl⟩
theorem krSt3 (hR : krRows A b1 b2 i w0 t) (h : At krOps 114 (krTab A b1 b2 i w0 t) (krBase A b1 b2 i w0 t) (fun w => Inv2 w0 b1 b2 0 A w) l a w) (hd : ∀ o : Oper, krOps[3]? = some o → ∀ e ∈ o.after.toList, Region.binds .any e = true → l.getD e.on false = true) : wpOp Tryd.prog krOps Q 3 (At krOps 114 (krTab A b1 b2 i w0 t) (krBase A b1 b2 i w0 t) (fun w => Inv2 w0 b1 b2 0 A w) (l.setIfInBounds 3 true)) a w := by
  have hown := krOwn A b1 b2 i w0 t
  have hH := krHold A b1 b2 i w0 t
  obtain ⟨o, ho⟩ : ∃ o, krOps[3]? = some o := Option.isSome_iff_exists.1 (by kernel_rfl)
  have hop : o.op = Op.unOp UnOp.not 4 (Operand.tmp 18) := op_of ho (by kernel_rfl)
  have hg : guardOk krOps a o := guard_none (guard_of ho (by kernel_rfl))
  have v18 : a.eval (.tmp 18) = .bool true := h.done 2 18 (dep hd 2 (by kernel_rfl)) (by kernel_rfl)
  exact h.yields hown hH ho hg (v := .bool false) (w' := w) (by simp only [execOp, hop, v18]; kernel_rfl) (Below.refl _ _) rfl
theorem krSt4 (hR : krRows A b1 b2 i w0 t) (h : At krOps 114 (krTab A b1 b2 i w0 t) (krBase A b1 b2 i w0 t) (fun w => Inv2 w0 b1 b2 0 A w) l a w) (hd : ∀ o : Oper, krOps[4]? = some o → ∀ e ∈ o.after.toList, Region.binds .any e = true → l.getD e.on false = true) : wpOp Tryd.prog krOps Q 4 (At krOps 114 (krTab A b1 b2 i w0 t) (krBase A b1 b2 i w0 t) (fun w => Inv2 w0 b1 b2 0 A w) (l.setIfInBounds 4 true)) a w := by
  have hown := krOwn A b1 b2 i w0 t
  have hH := krHold A b1 b2 i w0 t
  obtain ⟨o, ho⟩ : ∃ o, krOps[4]? = some o := Option.isSome_iff_exists.1 (by kernel_rfl)
  have hop : o.op = Op.move (Operand.tmp 19) := op_of ho (by kernel_rfl)
  have hg : guardOk krOps a o := guard_none (guard_of ho (by kernel_rfl))
  have v19 : a.eval (.tmp 19) = .bool false := h.done 3 19 (dep hd 3 (by kernel_rfl)) (by kernel_rfl)
  exact h.yields hown hH ho hg (v := .bool false) (w' := w) (by simp only [execOp, hop, v19]; kernel_rfl) (Below.refl _ _) rfl
theorem krSt5 (hR : krRows A b1 b2 i w0 t) (h : At krOps 114 (krTab A b1 b2 i w0 t) (krBase A b1 b2 i w0 t) (fun w => Inv2 w0 b1 b2 0 A w) l a w) (hd : ∀ o : Oper, krOps[5]? = some o → ∀ e ∈ o.after.toList, Region.binds .any e = true → l.getD e.on false = true) : wpOp Tryd.prog krOps Q 5 (At krOps 114 (krTab A b1 b2 i w0 t) (krBase A b1 b2 i w0 t) (fun w => Inv2 w0 b1 b2 0 A w) (l.setIfInBounds 5 true)) a w := by
  have hown := krOwn A b1 b2 i w0 t
  have hH := krHold A b1 b2 i w0 t
  obtain ⟨o, ho⟩ : ∃ o, krOps[5]? = some o := Option.isSome_iff_exists.1 (by kernel_rfl)
  have hop : o.op = Op.load 24 (Operand.tmp 2) := op_of ho (by kernel_rfl)
  have hg : guardOk krOps a o := h.guard hown (guard_of ho (g := some (4, false)) (by kernel_rfl)) (dep hd 4 (by kernel_rfl)) rfl (by decide +kernel)
  have v2 : a.eval (.tmp 2) = .pointer (some ⟨b2, 0, none⟩) := (h.fixed 2 (t 2) rfl).trans hR.t2
  exact h.yields hown hH ho hg (v := sv A) (w' := w) (by simp only [execOp, hop, v2]; simp only [Sem.run_bind, load_set (h.hold.2.1), Result.andThen_ok, Sem.run_pure]) (Below.refl _ _) rfl
theorem krSt6 (hR : krRows A b1 b2 i w0 t) (h : At krOps 114 (krTab A b1 b2 i w0 t) (krBase A b1 b2 i w0 t) (fun w => Inv2 w0 b1 b2 0 A w) l a w) (hd : ∀ o : Oper, krOps[6]? = some o → ∀ e ∈ o.after.toList, Region.binds .any e = true → l.getD e.on false = true) : wpOp Tryd.prog krOps Q 6 (At krOps 114 (krTab A b1 b2 i w0 t) (krBase A b1 b2 i w0 t) (fun w => Inv2 w0 b1 b2 0 A w) (l.setIfInBounds 6 true)) a w := by
  have hown := krOwn A b1 b2 i w0 t
  have hH := krHold A b1 b2 i w0 t
  obtain ⟨o, ho⟩ : ∃ o, krOps[6]? = some o := Option.isSome_iff_exists.1 (by kernel_rfl)
  have hop : o.op = Op.move (Operand.tmp 4) := op_of ho (by kernel_rfl)
  have hg : guardOk krOps a o := h.guard hown (guard_of ho (g := some (4, false)) (by kernel_rfl)) (dep hd 4 (by kernel_rfl)) rfl (by decide +kernel)
  have v4 : a.eval (.tmp 4) = .int .i64 i := (h.fixed 4 (t 4) rfl).trans hR.t4
  exact h.yields hown hH ho hg (v := .int .i64 i) (w' := w) (by simp only [execOp, hop, v4]; kernel_rfl) (Below.refl _ _) rfl
theorem krSt7 (hR : krRows A b1 b2 i w0 t) (h : At krOps 114 (krTab A b1 b2 i w0 t) (krBase A b1 b2 i w0 t) (fun w => Inv2 w0 b1 b2 0 A w) l a w) (hd : ∀ o : Oper, krOps[7]? = some o → ∀ e ∈ o.after.toList, Region.binds .any e = true → l.getD e.on false = true) : wpOp Tryd.prog krOps Q 7 (At krOps 114 (krTab A b1 b2 i w0 t) (krBase A b1 b2 i w0 t) (fun w => Inv2 w0 b1 b2 0 A w) (l.setIfInBounds 7 true)) a w := by
  have hown := krOwn A b1 b2 i w0 t
  have hH := krHold A b1 b2 i w0 t
  obtain ⟨o, ho⟩ : ∃ o, krOps[7]? = some o := Option.isSome_iff_exists.1 (by kernel_rfl)
  have hop : o.op = Op.call { callee := Callee.value (Operand.func 17), args := #[Operand.tmp 21, Operand.tmp 22], argTypes := #[24, 3] } := op_of ho (by kernel_rfl)
  have hg : guardOk krOps a o := h.guard hown (guard_of ho (g := some (4, false)) (by kernel_rfl)) (dep hd 4 (by kernel_rfl)) rfl (by decide +kernel)
  have v21 : a.eval (.tmp 21) = sv A := h.done 5 21 (dep hd 5 (by kernel_rfl)) (by kernel_rfl)
  have v22 : a.eval (.tmp 22) = .int .i64 i := h.done 6 22 (dep hd 6 (by kernel_rfl)) (by kernel_rfl)
  refine h.calls hown hH ho hg (f := 17) (args := #[sv A, .int .i64 i]) ?_ ((nextI A i i hR.hi hR.h2 w h.hold.2.2.1 h.hold.2.2.2.1).mono ?_)
  · rw [exec_call (enters_of Tryd.func17 (by kernel_rfl) rfl) hop]
    simp only [List.map_toArray, List.map_cons, List.map_nil, v21, v22]
    try rfl
  rintro e w' ⟨rfl, hb⟩
  exact ⟨_, rfl, hb, rfl⟩
theorem krSt8 (hR : krRows A b1 b2 i w0 t) (h : At krOps 114 (krTab A b1 b2 i w0 t) (krBase A b1 b2 i w0 t) (fun w => Inv2 w0 b1 b2 0 A w) l a w) (hd : ∀ o : Oper, krOps[8]? = some o → ∀ e ∈ o.after.toList, Region.binds .any e = true → l.getD e.on false = true) : wpOp Tryd.prog krOps Q 8 (At krOps 114 (krTab A b1 b2 i w0 t) (krBase A b1 b2 i w0 t) (fun w => Inv2 w0 b1 b2 0 A w) (l.setIfInBounds 8 true)) a w := by
  have hown := krOwn A b1 b2 i w0 t
  have hH := krHold A b1 b2 i w0 t
  obtain ⟨o, ho⟩ : ∃ o, krOps[8]? = some o := Option.isSome_iff_exists.1 (by kernel_rfl)
  have hop : o.op = Op.move (Operand.tmp 4) := op_of ho (by kernel_rfl)
  have hg : guardOk krOps a o := h.guard hown (guard_of ho (g := some (4, false)) (by kernel_rfl)) (dep hd 4 (by kernel_rfl)) rfl (by decide +kernel)
  have v4 : a.eval (.tmp 4) = .int .i64 i := (h.fixed 4 (t 4) rfl).trans hR.t4
  exact h.yields hown hH ho hg (v := .int .i64 i) (w' := w) (by simp only [execOp, hop, v4]; kernel_rfl) (Below.refl _ _) rfl
theorem krSt9 (hR : krRows A b1 b2 i w0 t) (h : At krOps 114 (krTab A b1 b2 i w0 t) (krBase A b1 b2 i w0 t) (fun w => Inv2 w0 b1 b2 0 A w) l a w) (hd : ∀ o : Oper, krOps[9]? = some o → ∀ e ∈ o.after.toList, Region.binds .any e = true → l.getD e.on false = true) : wpOp Tryd.prog krOps Q 9 (At krOps 114 (krTab A b1 b2 i w0 t) (krBase A b1 b2 i w0 t) (fun w => Inv2 w0 b1 b2 0 A w) (l.setIfInBounds 9 true)) a w := by
  have hown := krOwn A b1 b2 i w0 t
  have hH := krHold A b1 b2 i w0 t
  obtain ⟨o, ho⟩ : ∃ o, krOps[9]? = some o := Option.isSome_iff_exists.1 (by kernel_rfl)
  have hop : o.op = Op.binOp BinOp.neq 3 (Operand.tmp 23) (Operand.tmp 24) 3 := op_of ho (by kernel_rfl)
  have hg : guardOk krOps a o := h.guard hown (guard_of ho (g := some (4, false)) (by kernel_rfl)) (dep hd 4 (by kernel_rfl)) rfl (by decide +kernel)
  have v23 : a.eval (.tmp 23) = .int .i64 i := h.done 7 23 (dep hd 7 (by kernel_rfl)) (by kernel_rfl)
  have v24 : a.eval (.tmp 24) = .int .i64 i := h.done 8 24 (dep hd 8 (by kernel_rfl)) (by kernel_rfl)
  exact h.yields hown hH ho hg (v := .bool false) (w' := w) (by simp only [execOp, hop, v23, v24]; go_simp) (Below.refl _ _) rfl
theorem krSt10 (hR : krRows A b1 b2 i w0 t) (h : At krOps 114 (krTab A b1 b2 i w0 t) (krBase A b1 b2 i w0 t) (fun w => Inv2 w0 b1 b2 0 A w) l a w) (hd : ∀ o : Oper, krOps[10]? = some o → ∀ e ∈ o.after.toList, Region.binds .any e = true → l.getD e.on false = true) : wpOp Tryd.prog krOps Q 10 (At krOps 114 (krTab A b1 b2 i w0 t) (krBase A b1 b2 i w0 t) (fun w => Inv2 w0 b1 b2 0 A w) (l.setIfInBounds 10 true)) a w := by
  have hown := krOwn A b1 b2 i w0 t
  have hH := krHold A b1 b2 i w0 t
  obtain ⟨o, ho⟩ : ∃ o, krOps[10]? = some o := Option.isSome_iff_exists.1 (by kernel_rfl)
  have hop : o.op = Op.pick (Operand.tmp 20) (Operand.const (Value.bool true)) (Operand.tmp 25) := op_of ho (by kernel_rfl)
  have hg : guardOk krOps a o := guard_none (guard_of ho (by kernel_rfl))
  have v20 : a.eval (.tmp 20) = .bool false := h.done 4 20 (dep hd 4 (by kernel_rfl)) (by kernel_rfl)
  have v25 : a.eval (.tmp 25) = .bool false := h.done 9 25 (dep hd 9 (by kernel_rfl)) (by kernel_rfl)
  exact h.yields hown hH ho hg (v := .bool false) (w' := w) (by simp only [execOp, hop, v20, v25]; kernel_rfl) (Below.refl _ _) rfl
theorem krSt11 (hR : krRows A b1 b2 i w0 t) (h : At krOps 114 (krTab A b1 b2 i w0 t) (krBase A b1 b2 i w0 t) (fun w => Inv2 w0 b1 b2 0 A w) l a w) (hd : ∀ o : Oper, krOps[11]? = some o → ∀ e ∈ o.after.toList, Region.binds .any e = true → l.getD e.on false = true) : wpOp Tryd.prog krOps Q 11 (At krOps 114 (krTab A b1 b2 i w0 t) (krBase A b1 b2 i w0 t) (fun w => Inv2 w0 b1 b2 0 A w) (l.setIfInBounds 11 true)) a w := by
  have hown := krOwn A b1 b2 i w0 t
  have hH := krHold A b1 b2 i w0 t
  obtain ⟨o, ho⟩ : ∃ o, krOps[11]? = some o := Option.isSome_iff_exists.1 (by kernel_rfl)
  have hop : o.op = Op.move (Operand.tmp 26) := op_of ho (by kernel_rfl)
  have hg : guardOk krOps a o := guard_none (guard_of ho (by kernel_rfl))
  have v26 : a.eval (.tmp 26) = .bool false := h.done 10 26 (dep hd 10 (by kernel_rfl)) (by kernel_rfl)
  exact h.yields hown hH ho hg (v := .bool false) (w' := w) (by simp only [execOp, hop, v26]; kernel_rfl) (Below.refl _ _) rfl
theorem krSt12 (hR : krRows A b1 b2 i w0 t) (h : At krOps 114 (krTab A b1 b2 i w0 t) (krBase A b1 b2 i w0 t) (fun w => Inv2 w0 b1 b2 0 A w) l a w) (hd : ∀ o : Oper, krOps[12]? = some o → ∀ e ∈ o.after.toList, Region.binds .any e = true → l.getD e.on false = true) : wpOp Tryd.prog krOps Q 12 (At krOps 114 (krTab A b1 b2 i w0 t) (krBase A b1 b2 i w0 t) (fun w => Inv2 w0 b1 b2 0 A w) (l.setIfInBounds 12 true)) a w := by
  have hown := krOwn A b1 b2 i w0 t
  have hH := krHold A b1 b2 i w0 t
  obtain ⟨o, ho⟩ : ∃ o, krOps[12]? = some o := Option.isSome_iff_exists.1 (by kernel_rfl)
  have hop : o.op = Op.load 24 (Operand.tmp 1) := op_of ho (by kernel_rfl)
  have hg : guardOk krOps a o := h.guard hown (guard_of ho (g := some (11, false)) (by kernel_rfl)) (dep hd 11 (by kernel_rfl)) rfl (by decide +kernel)
  have v1 : a.eval (.tmp 1) = .pointer (some ⟨b1, 0, none⟩) := (h.fixed 1 (t 1) rfl).trans hR.t1
  exact h.yields hown hH ho hg (v := sv 0) (w' := w) (by simp only [execOp, hop, v1]; simp only [Sem.run_bind, load_set (h.hold.1), Result.andThen_ok, Sem.run_pure]) (Below.refl _ _) rfl
theorem krSt13 (hR : krRows A b1 b2 i w0 t) (h : At krOps 114 (krTab A b1 b2 i w0 t) (krBase A b1 b2 i w0 t) (fun w => Inv2 w0 b1 b2 0 A w) l a w) (hd : ∀ o : Oper, krOps[13]? = some o → ∀ e ∈ o.after.toList, Region.binds .any e = true → l.getD e.on false = true) : wpOp Tryd.prog krOps Q 13 (At krOps 114 (krTab A b1 b2 i w0 t) (krBase A b1 b2 i w0 t) (fun w => Inv2 w0 b1 b2 0 A w) (l.setIfInBounds 13 true)) a w := by
  have hown := krOwn A b1 b2 i w0 t
  have hH := krHold A b1 b2 i w0 t
  obtain ⟨o, ho⟩ : ∃ o, krOps[13]? = some o := Option.isSome_iff_exists.1 (by kernel_rfl)
  have hop : o.op = Op.move (Operand.tmp 4) := op_of ho (by kernel_rfl)
  have hg : guardOk krOps a o := h.guard hown (guard_of ho (g := some (11, false)) (by kernel_rfl)) (dep hd 11 (by kernel_rfl)) rfl (by decide +kernel)
  have v4 : a.eval (.tmp 4) = .int .i64 i := (h.fixed 4 (t 4) rfl).trans hR.t4
  exact h.yields hown hH ho hg (v := .int .i64 i) (w' := w) (by simp only [execOp, hop, v4]; kernel_rfl) (Below.refl _ _) rfl
theorem krSt14 (hR : krRows A b1 b2 i w0 t) (h : At krOps 114 (krTab A b1 b2 i w0 t) (krBase A b1 b2 i w0 t) (fun w => Inv2 w0 b1 b2 0 A w) l a w) (hd : ∀ o : Oper, krOps[14]? = some o → ∀ e ∈ o.after.toList, Region.binds .any e = true → l.getD e.on false = true) : wpOp Tryd.prog krOps Q 14 (At krOps 114 (krTab A b1 b2 i w0 t) (krBase A b1 b2 i w0 t) (fun w => Inv2 w0 b1 b2 0 A w) (l.setIfInBounds 14 true)) a w := by
  have hown := krOwn A b1 b2 i w0 t
  have hH := krHold A b1 b2 i w0 t
  obtain ⟨o, ho⟩ : ∃ o, krOps[14]? = some o := Option.isSome_iff_exists.1 (by kernel_rfl)
  have hop : o.op = Op.call { callee := Callee.value (Operand.func 9), args := #[Operand.tmp 28, Operand.tmp 29], argTypes := #[24, 3] } := op_of ho (by kernel_rfl)
  have hg : guardOk krOps a o := h.guard hown (guard_of ho (g := some (11, false)) (by kernel_rfl)) (dep hd 11 (by kernel_rfl)) rfl (by decide +kernel)
  have v28 : a.eval (.tmp 28) = sv 0 := h.done 12 28 (dep hd 12 (by kernel_rfl)) (by kernel_rfl)
  have v29 : a.eval (.tmp 29) = .int .i64 i := h.done 13 29 (dep hd 13 (by kernel_rfl)) (by kernel_rfl)
  refine h.calls hown hH ho hg (f := 9) (args := #[sv 0, .int .i64 i]) ?_ ((has_is 0 i false hR.h3 w).mono ?_)
  · rw [exec_call (enters_of Tryd.func9 (by kernel_rfl) rfl) hop]
    simp only [List.map_toArray, List.map_cons, List.map_nil, v28, v29]
    try rfl
  rintro e w' ⟨rfl, hb⟩
  exact ⟨_, rfl, hb, rfl⟩
theorem krSt15 (hR : krRows A b1 b2 i w0 t) (h : At krOps 114 (krTab A b1 b2 i w0 t) (krBase A b1 b2 i w0 t) (fun w => Inv2 w0 b1 b2 0 A w) l a w) (hd : ∀ o : Oper, krOps[15]? = some o → ∀ e ∈ o.after.toList, Region.binds .any e = true → l.getD e.on false = true) : wpOp Tryd.prog krOps Q 15 (At krOps 114 (krTab A b1 b2 i w0 t) (krBase A b1 b2 i w0 t) (fun w => Inv2 w0 b1 b2 0 A w) (l.setIfInBounds 15 true)) a w := by
  have hown := krOwn A b1 b2 i w0 t
  have hH := krHold A b1 b2 i w0 t
  obtain ⟨o, ho⟩ : ∃ o, krOps[15]? = some o := Option.isSome_iff_exists.1 (by kernel_rfl)
  have hop : o.op = Op.pick (Operand.tmp 27) (Operand.const (Value.bool true)) (Operand.tmp 30) := op_of ho (by kernel_rfl)
  have hg : guardOk krOps a o := guard_none (guard_of ho (by kernel_rfl))
  have v27 : a.eval (.tmp 27) = .bool false := h.done 11 27 (dep hd 11 (by kernel_rfl)) (by kernel_rfl)
  have v30 : a.eval (.tmp 30) = .bool false := h.done 14 30 (dep hd 14 (by kernel_rfl)) (by kernel_rfl)
  exact h.yields hown hH ho hg (v := .bool false) (w' := w) (by simp only [execOp, hop, v27, v30]; kernel_rfl) (Below.refl _ _) rfl
theorem krSt16 (hR : krRows A b1 b2 i w0 t) (h : At krOps 114 (krTab A b1 b2 i w0 t) (krBase A b1 b2 i w0 t) (fun w => Inv2 w0 b1 b2 0 A w) l a w) (hd : ∀ o : Oper, krOps[16]? = some o → ∀ e ∈ o.after.toList, Region.binds .any e = true → l.getD e.on false = true) : wpOp Tryd.prog krOps Q 16 (At krOps 114 (krTab A b1 b2 i w0 t) (krBase A b1 b2 i w0 t) (fun w => Inv2 w0 b1 b2 0 A w) (l.setIfInBounds 16 true)) a w := by
  have hown := krOwn A b1 b2 i w0 t
  have hH := krHold A b1 b2 i w0 t
  obtain ⟨o, ho⟩ : ∃ o, krOps[16]? = some o := Option.isSome_iff_exists.1 (by kernel_rfl)
  have hop : o.op = Op.move (Operand.tmp 31) := op_of ho (by kernel_rfl)
  have hg : guardOk krOps a o := guard_none (guard_of ho (by kernel_rfl))
  have v31 : a.eval (.tmp 31) = .bool false := h.done 15 31 (dep hd 15 (by kernel_rfl)) (by kernel_rfl)
  exact h.yields hown hH ho hg (v := .bool false) (w' := w) (by simp only [execOp, hop, v31]; kernel_rfl) (Below.refl _ _) rfl
theorem krSt17 (hR : krRows A b1 b2 i w0 t) (h : At krOps 114 (krTab A b1 b2 i w0 t) (krBase A b1 b2 i w0 t) (fun w => Inv2 w0 b1 b2 0 A w) l a w) (hd : ∀ o : Oper, krOps[17]? = some o → ∀ e ∈ o.after.toList, Region.binds .any e = true → l.getD e.on false = true) : wpOp Tryd.prog krOps Q 17 (At krOps 114 (krTab A b1 b2 i w0 t) (krBase A b1 b2 i w0 t) (fun w => Inv2 w0 b1 b2 0 A w) (l.setIfInBounds 17 true)) a w := by
  have hown := krOwn A b1 b2 i w0 t
  have hH := krHold A b1 b2 i w0 t
  obtain ⟨o, ho⟩ : ∃ o, krOps[17]? = some o := Option.isSome_iff_exists.1 (by kernel_rfl)
  have hop : o.op = Op.load 24 (Operand.tmp 1) := op_of ho (by kernel_rfl)
  have hg : guardOk krOps a o := h.guard hown (guard_of ho (g := some (16, false)) (by kernel_rfl)) (dep hd 16 (by kernel_rfl)) rfl (by decide +kernel)
  have v1 : a.eval (.tmp 1) = .pointer (some ⟨b1, 0, none⟩) := (h.fixed 1 (t 1) rfl).trans hR.t1
  exact h.yields hown hH ho hg (v := sv 0) (w' := w) (by simp only [execOp, hop, v1]; simp only [Sem.run_bind, load_set (h.hold.1), Result.andThen_ok, Sem.run_pure]) (Below.refl _ _) rfl
theorem krSt18 (hR : krRows A b1 b2 i w0 t) (h : At krOps 114 (krTab A b1 b2 i w0 t) (krBase A b1 b2 i w0 t) (fun w => Inv2 w0 b1 b2 0 A w) l a w) (hd : ∀ o : Oper, krOps[18]? = some o → ∀ e ∈ o.after.toList, Region.binds .any e = true → l.getD e.on false = true) : wpOp Tryd.prog krOps Q 18 (At krOps 114 (krTab A b1 b2 i w0 t) (krBase A b1 b2 i w0 t) (fun w => Inv2 w0 b1 b2 0 A w) (l.setIfInBounds 18 true)) a w := by
  have hown := krOwn A b1 b2 i w0 t
  have hH := krHold A b1 b2 i w0 t
  obtain ⟨o, ho⟩ : ∃ o, krOps[18]? = some o := Option.isSome_iff_exists.1 (by kernel_rfl)
  have hop : o.op = Op.move (Operand.tmp 4) := op_of ho (by kernel_rfl)
  have hg : guardOk krOps a o := h.guard hown (guard_of ho (g := some (16, false)) (by kernel_rfl)) (dep hd 16 (by kernel_rfl)) rfl (by decide +kernel)
  have v4 : a.eval (.tmp 4) = .int .i64 i := (h.fixed 4 (t 4) rfl).trans hR.t4
  exact h.yields hown hH ho hg (v := .int .i64 i) (w' := w) (by simp only [execOp, hop, v4]; kernel_rfl) (Below.refl _ _) rfl
theorem krSt19 (hR : krRows A b1 b2 i w0 t) (h : At krOps 114 (krTab A b1 b2 i w0 t) (krBase A b1 b2 i w0 t) (fun w => Inv2 w0 b1 b2 0 A w) l a w) (hd : ∀ o : Oper, krOps[19]? = some o → ∀ e ∈ o.after.toList, Region.binds .any e = true → l.getD e.on false = true) : wpOp Tryd.prog krOps Q 19 (At krOps 114 (krTab A b1 b2 i w0 t) (krBase A b1 b2 i w0 t) (fun w => Inv2 w0 b1 b2 0 A w) (l.setIfInBounds 19 true)) a w := by
  have hown := krOwn A b1 b2 i w0 t
  have hH := krHold A b1 b2 i w0 t
  obtain ⟨o, ho⟩ : ∃ o, krOps[19]? = some o := Option.isSome_iff_exists.1 (by kernel_rfl)
  have hop : o.op = Op.call { callee := Callee.value (Operand.func 11), args := #[Operand.tmp 33, Operand.tmp 34], argTypes := #[24, 3] } := op_of ho (by kernel_rfl)
  have hg : guardOk krOps a o := h.guard hown (guard_of ho (g := some (16, false)) (by kernel_rfl)) (dep hd 16 (by kernel_rfl)) rfl (by decide +kernel)
  have v33 : a.eval (.tmp 33) = sv 0 := h.done 17 33 (dep hd 17 (by kernel_rfl)) (by kernel_rfl)
  have v34 : a.eval (.tmp 34) = .int .i64 i := h.done 18 34 (dep hd 18 (by kernel_rfl)) (by kernel_rfl)
  refine h.calls hown hH ho hg (f := 11) (args := #[sv 0, .int .i64 i]) ?_ ((add_any 0 i w).mono ?_)
  · rw [exec_call (enters_of Tryd.func11 (by kernel_rfl) rfl) hop]
    simp only [List.map_toArray, List.map_cons, List.map_nil, v33, v34]
    try rfl
  rintro e w' ⟨rfl, hb⟩
  exact ⟨_, rfl, hb, rfl⟩
theorem krSt20 (hR : krRows A b1 b2 i w0 t) (h : At krOps 114 (krTab A b1 b2 i w0 t) (krBase A b1 b2 i w0 t) (fun w => Inv2 w0 b1 b2 0 A w) l a w) (hd : ∀ o : Oper, krOps[20]? = some o → ∀ e ∈ o.after.toList, Region.binds .any e = true → l.getD e.on false = true) : wpOp Tryd.prog krOps Q 20 (At krOps 114 (krTab A b1 b2 i w0 t) (krBase A b1 b2 i w0 t) (fun w => Inv2 w0 b1 b2 0 A w) (l.setIfInBounds 20 true)) a w := by
  have hown := krOwn A b1 b2 i w0 t
  have hH := krHold A b1 b2 i w0 t
  obtain ⟨o, ho⟩ : ∃ o, krOps[20]? = some o := Option.isSome_iff_exists.1 (by kernel_rfl)
  have hop : o.op = Op.call { callee := Callee.value (Operand.func 16), args := #[Operand.tmp 35], argTypes := #[24] } := op_of ho (by kernel_rfl)
  have hg : guardOk krOps a o := h.guard hown (guard_of ho (g := some (16, false)) (by kernel_rfl)) (dep hd 16 (by kernel_rfl)) rfl (by decide +kernel)
  have v35 : a.eval (.tmp 35) = sv (addN 0 i) := h.done 19 35 (dep hd 19 (by kernel_rfl)) (by kernel_rfl)
  refine h.calls hown hH ho hg (f := 16) (args := #[sv (addN 0 i)]) ?_ ((len_is (addN 0 i) 1 hR.h4 w).mono ?_)
  · rw [exec_call (enters_of Tryd.func16 (by kernel_rfl) rfl) hop]
    simp only [List.map_toArray, List.map_cons, List.map_nil, v35]
    try rfl
  rintro e w' ⟨rfl, hb⟩
  exact ⟨_, rfl, hb, rfl⟩
theorem krSt21 (hR : krRows A b1 b2 i w0 t) (h : At krOps 114 (krTab A b1 b2 i w0 t) (krBase A b1 b2 i w0 t) (fun w => Inv2 w0 b1 b2 0 A w) l a w) (hd : ∀ o : Oper, krOps[21]? = some o → ∀ e ∈ o.after.toList, Region.binds .any e = true → l.getD e.on false = true) : wpOp Tryd.prog krOps Q 21 (At krOps 114 (krTab A b1 b2 i w0 t) (krBase A b1 b2 i w0 t) (fun w => Inv2 w0 b1 b2 0 A w) (l.setIfInBounds 21 true)) a w := by
  have hown := krOwn A b1 b2 i w0 t
  have hH := krHold A b1 b2 i w0 t
  obtain ⟨o, ho⟩ : ∃ o, krOps[21]? = some o := Option.isSome_iff_exists.1 (by kernel_rfl)
  have hop : o.op = Op.binOp BinOp.neq 3 (Operand.tmp 36) (Operand.const (Value.int IntKind.i64 1)) 3 := op_of ho (by kernel_rfl)
  have hg : guardOk krOps a o := h.guard hown (guard_of ho (g := some (16, false)) (by kernel_rfl)) (dep hd 16 (by kernel_rfl)) rfl (by decide +kernel)
  have v36 : a.eval (.tmp 36) = .int .i64 1 := h.done 20 36 (dep hd 20 (by kernel_rfl)) (by kernel_rfl)
  exact h.yields hown hH ho hg (v := .bool false) (w' := w) (by simp only [execOp, hop, v36]; go_simp) (Below.refl _ _) rfl
theorem krSt22 (hR : krRows A b1 b2 i w0 t) (h : At krOps 114 (krTab A b1 b2 i w0 t) (krBase A b1 b2 i w0 t) (fun w => Inv2 w0 b1 b2 0 A w) l a w) (hd : ∀ o : Oper, krOps[22]? = some o → ∀ e ∈ o.after.toList, Region.binds .any e = true → l.getD e.on false = true) : wpOp Tryd.prog krOps Q 22 (At krOps 114 (krTab A b1 b2 i w0 t) (krBase A b1 b2 i w0 t) (fun w => Inv2 w0 b1 b2 0 A w) (l.setIfInBounds 22 true)) a w := by
  have hown := krOwn A b1 b2 i w0 t
  have hH := krHold A b1 b2 i w0 t
  obtain ⟨o, ho⟩ : ∃ o, krOps[22]? = some o := Option.isSome_iff_exists.1 (by kernel_rfl)
  have hop : o.op = Op.pick (Operand.tmp 32) (Operand.const (Value.bool true)) (Operand.tmp 37) := op_of ho (by kernel_rfl)
  have hg : guardOk krOps a o := guard_none (guard_of ho (by kernel_rfl))
  have v32 : a.eval (.tmp 32) = .bool false := h.done 16 32 (dep hd 16 (by kernel_rfl)) (by kernel_rfl)
  have v37 : a.eval (.tmp 37) = .bool false := h.done 21 37 (dep hd 21 (by kernel_rfl)) (by kernel_rfl)
  exact h.yields hown hH ho hg (v := .bool false) (w' := w) (by simp only [execOp, hop, v32, v37]; kernel_rfl) (Below.refl _ _) rfl
theorem krSt23 (hR : krRows A b1 b2 i w0 t) (h : At krOps 114 (krTab A b1 b2 i w0 t) (krBase A b1 b2 i w0 t) (fun w => Inv2 w0 b1 b2 0 A w) l a w) (hd : ∀ o : Oper, krOps[23]? = some o → ∀ e ∈ o.after.toList, Region.binds .any e = true → l.getD e.on false = true) : wpOp Tryd.prog krOps Q 23 (At krOps 114 (krTab A b1 b2 i w0 t) (krBase A b1 b2 i w0 t) (fun w => Inv2 w0 b1 b2 0 A w) (l.setIfInBounds 23 true)) a w := by
  have hown := krOwn A b1 b2 i w0 t
  have hH := krHold A b1 b2 i w0 t
  obtain ⟨o, ho⟩ : ∃ o, krOps[23]? = some o := Option.isSome_iff_exists.1 (by kernel_rfl)
  have hop : o.op = Op.move (Operand.tmp 38) := op_of ho (by kernel_rfl)
  have hg : guardOk krOps a o := guard_none (guard_of ho (by kernel_rfl))
  have v38 : a.eval (.tmp 38) = .bool false := h.done 22 38 (dep hd 22 (by kernel_rfl)) (by kernel_rfl)
  exact h.yields hown hH ho hg (v := .bool false) (w' := w) (by simp only [execOp, hop, v38]; kernel_rfl) (Below.refl _ _) rfl
theorem krSt24 (hR : krRows A b1 b2 i w0 t) (h : At krOps 114 (krTab A b1 b2 i w0 t) (krBase A b1 b2 i w0 t) (fun w => Inv2 w0 b1 b2 0 A w) l a w) (hd : ∀ o : Oper, krOps[24]? = some o → ∀ e ∈ o.after.toList, Region.binds .any e = true → l.getD e.on false = true) : wpOp Tryd.prog krOps Q 24 (At krOps 114 (krTab A b1 b2 i w0 t) (krBase A b1 b2 i w0 t) (fun w => Inv2 w0 b1 b2 0 A w) (l.setIfInBounds 24 true)) a w := by
  have hown := krOwn A b1 b2 i w0 t
  have hH := krHold A b1 b2 i w0 t
  obtain ⟨o, ho⟩ : ∃ o, krOps[24]? = some o := Option.isSome_iff_exists.1 (by kernel_rfl)
  have hop : o.op = Op.load 24 (Operand.tmp 1) := op_of ho (by kernel_rfl)
  have hg : guardOk krOps a o := h.guard hown (guard_of ho (g := some (23, false)) (by kernel_rfl)) (dep hd 23 (by kernel_rfl)) rfl (by decide +kernel)
  have v1 : a.eval (.tmp 1) = .pointer (some ⟨b1, 0, none⟩) := (h.fixed 1 (t 1) rfl).trans hR.t1
  exact h.yields hown hH ho hg (v := sv 0) (w' := w) (by simp only [execOp, hop, v1]; simp only [Sem.run_bind, load_set (h.hold.1), Result.andThen_ok, Sem.run_pure]) (Below.refl _ _) rfl
theorem krSt25 (hR : krRows A b1 b2 i w0 t) (h : At krOps 114 (krTab A b1 b2 i w0 t) (krBase A b1 b2 i w0 t) (fun w => Inv2 w0 b1 b2 0 A w) l a w) (hd : ∀ o : Oper, krOps[25]? = some o → ∀ e ∈ o.after.toList, Region.binds .any e = true → l.getD e.on false = true) : wpOp Tryd.prog krOps Q 25 (At krOps 114 (krTab A b1 b2 i w0 t) (krBase A b1 b2 i w0 t) (fun w => Inv2 w0 b1 b2 0 A w) (l.setIfInBounds 25 true)) a w := by
  have hown := krOwn A b1 b2 i w0 t
  have hH := krHold A b1 b2 i w0 t
  obtain ⟨o, ho⟩ : ∃ o, krOps[25]? = some o := Option.isSome_iff_exists.1 (by kernel_rfl)
  have hop : o.op = Op.move (Operand.tmp 4) := op_of ho (by kernel_rfl)
  have hg : guardOk krOps a o := h.guard hown (guard_of ho (g := some (23, false)) (by kernel_rfl)) (dep hd 23 (by kernel_rfl)) rfl (by decide +kernel)
  have v4 : a.eval (.tmp 4) = .int .i64 i := (h.fixed 4 (t 4) rfl).trans hR.t4
  exact h.yields hown hH ho hg (v := .int .i64 i) (w' := w) (by simp only [execOp, hop, v4]; kernel_rfl) (Below.refl _ _) rfl
theorem krSt26 (hR : krRows A b1 b2 i w0 t) (h : At krOps 114 (krTab A b1 b2 i w0 t) (krBase A b1 b2 i w0 t) (fun w => Inv2 w0 b1 b2 0 A w) l a w) (hd : ∀ o : Oper, krOps[26]? = some o → ∀ e ∈ o.after.toList, Region.binds .any e = true → l.getD e.on false = true) : wpOp Tryd.prog krOps Q 26 (At krOps 114 (krTab A b1 b2 i w0 t) (krBase A b1 b2 i w0 t) (fun w => Inv2 w0 b1 b2 0 A w) (l.setIfInBounds 26 true)) a w := by
  have hown := krOwn A b1 b2 i w0 t
  have hH := krHold A b1 b2 i w0 t
  obtain ⟨o, ho⟩ : ∃ o, krOps[26]? = some o := Option.isSome_iff_exists.1 (by kernel_rfl)
  have hop : o.op = Op.call { callee := Callee.value (Operand.func 11), args := #[Operand.tmp 40, Operand.tmp 41], argTypes := #[24, 3] } := op_of ho (by kernel_rfl)
  have hg : guardOk krOps a o := h.guard hown (guard_of ho (g := some (23, false)) (by kernel_rfl)) (dep hd 23 (by kernel_rfl)) rfl (by decide +kernel)
  have v40 : a.eval (.tmp 40) = sv 0 := h.done 24 40 (dep hd 24 (by kernel_rfl)) (by kernel_rfl)
  have v41 : a.eval (.tmp 41) = .int .i64 i := h.done 25 41 (dep hd 25 (by kernel_rfl)) (by kernel_rfl)
  refine h.calls hown hH ho hg (f := 11) (args := #[sv 0, .int .i64 i]) ?_ ((add_any 0 i w).mono ?_)
  · rw [exec_call (enters_of Tryd.func11 (by kernel_rfl) rfl) hop]
    simp only [List.map_toArray, List.map_cons, List.map_nil, v40, v41]
    try rfl
  rintro e w' ⟨rfl, hb⟩
  exact ⟨_, rfl, hb, rfl⟩
theorem krSt27 (hR : krRows A b1 b2 i w0 t) (h : At krOps 114 (krTab A b1 b2 i w0 t) (krBase A b1 b2 i w0 t) (fun w => Inv2 w0 b1 b2 0 A w) l a w) (hd : ∀ o : Oper, krOps[27]? = some o → ∀ e ∈ o.after.toList, Region.binds .any e = true → l.getD e.on false = true) : wpOp Tryd.prog krOps Q 27 (At krOps 114 (krTab A b1 b2 i w0 t) (krBase A b1 b2 i w0 t) (fun w => Inv2 w0 b1 b2 0 A w) (l.setIfInBounds 27 true)) a w := by
  have hown := krOwn A b1 b2 i w0 t
  have hH := krHold A b1 b2 i w0 t
  obtain ⟨o, ho⟩ : ∃ o, krOps[27]? = some o := Option.isSome_iff_exists.1 (by kernel_rfl)
  have hop : o.op = Op.move (Operand.tmp 4) := op_of ho (by kernel_rfl)
  have hg : guardOk krOps a o := h.guard hown (guard_of ho (g := some (23, false)) (by kernel_rfl)) (dep hd 23 (by kernel_rfl)) rfl (by decide +kernel)
  have v4 : a.eval (.tmp 4) = .int .i64 i := (h.fixed 4 (t 4) rfl).trans hR.t4
  exact h.yields hown hH ho hg (v := .int .i64 i) (w' := w) (by simp only [execOp, hop, v4]; kernel_rfl) (Below.refl _ _) rfl
theorem krSt28 (hR : krRows A b1 b2 i w0 t) (h : At krOps 114 (krTab A b1 b2 i w0 t) (krBase A b1 b2 i w0 t) (fun w => Inv2 w0 b1 b2 0 A w) l a w) (hd : ∀ o : Oper, krOps[28]? = some o → ∀ e ∈ o.after.toList, Region.binds .any e = true → l.getD e.on false = true) : wpOp Tryd.prog krOps Q 28 (At krOps 114 (krTab A b1 b2 i w0 t) (krBase A b1 b2 i w0 t) (fun w => Inv2 w0 b1 b2 0 A w) (l.setIfInBounds 28 true)) a w := by
  have hown := krOwn A b1 b2 i w0 t
  have hH := krHold A b1 b2 i w0 t
  obtain ⟨o, ho⟩ : ∃ o, krOps[28]? = some o := Option.isSome_iff_exists.1 (by kernel_rfl)
  have hop : o.op = Op.call { callee := Callee.value (Operand.func 14), args := #[Operand.tmp 42, Operand.tmp 43], argTypes := #[24, 3] } := op_of ho (by kernel_rfl)
  have hg : guardOk krOps a o := h.guard hown (guard_of ho (g := some (23, false)) (by kernel_rfl)) (dep hd 23 (by kernel_rfl)) rfl (by decide +kernel)
  have v42 : a.eval (.tmp 42) = sv (addN 0 i) := h.done 26 42 (dep hd 26 (by kernel_rfl)) (by kernel_rfl)
  have v43 : a.eval (.tmp 43) = .int .i64 i := h.done 27 43 (dep hd 27 (by kernel_rfl)) (by kernel_rfl)
  refine h.calls hown hH ho hg (f := 14) (args := #[sv (addN 0 i), .int .i64 i]) ?_ ((del_is (addN 0 i) 0 i hR.h5 w).mono ?_)
  · rw [exec_call (enters_of Tryd.func14 (by kernel_rfl) rfl) hop]
    simp only [List.map_toArray, List.map_cons, List.map_nil, v42, v43]
    try rfl
  rintro e w' ⟨rfl, hb⟩
  exact ⟨_, rfl, hb, rfl⟩
theorem krSt29 (hR : krRows A b1 b2 i w0 t) (h : At krOps 114 (krTab A b1 b2 i w0 t) (krBase A b1 b2 i w0 t) (fun w => Inv2 w0 b1 b2 0 A w) l a w) (hd : ∀ o : Oper, krOps[29]? = some o → ∀ e ∈ o.after.toList, Region.binds .any e = true → l.getD e.on false = true) : wpOp Tryd.prog krOps Q 29 (At krOps 114 (krTab A b1 b2 i w0 t) (krBase A b1 b2 i w0 t) (fun w => Inv2 w0 b1 b2 0 A w) (l.setIfInBounds 29 true)) a w := by
  have hown := krOwn A b1 b2 i w0 t
  have hH := krHold A b1 b2 i w0 t
  obtain ⟨o, ho⟩ : ∃ o, krOps[29]? = some o := Option.isSome_iff_exists.1 (by kernel_rfl)
  have hop : o.op = Op.load 24 (Operand.tmp 1) := op_of ho (by kernel_rfl)
  have hg : guardOk krOps a o := h.guard hown (guard_of ho (g := some (23, false)) (by kernel_rfl)) (dep hd 23 (by kernel_rfl)) rfl (by decide +kernel)
  have v1 : a.eval (.tmp 1) = .pointer (some ⟨b1, 0, none⟩) := (h.fixed 1 (t 1) rfl).trans hR.t1
  exact h.yields hown hH ho hg (v := sv 0) (w' := w) (by simp only [execOp, hop, v1]; simp only [Sem.run_bind, load_set (h.hold.1), Result.andThen_ok, Sem.run_pure]) (Below.refl _ _) rfl
theorem krSt30 (hR : krRows A b1 b2 i w0 t) (h : At krOps 114 (krTab A b1 b2 i w0 t) (krBase A b1 b2 i w0 t) (fun w => Inv2 w0 b1 b2 0 A w) l a w) (hd : ∀ o : Oper, krOps[30]? = some o → ∀ e ∈ o.after.toList, Region.binds .any e = true → l.getD e.on false = true) : wpOp Tryd.prog krOps Q 30 (At krOps 114 (krTab A b1 b2 i w0 t) (krBase A b1 b2 i w0 t) (fun w => Inv2 w0 b1 b2 0 A w) (l.setIfInBounds 30 true)) a w := by
  have hown := krOwn A b1 b2 i w0 t
  have hH := krHold A b1 b2 i w0 t
  obtain ⟨o, ho⟩ : ∃ o, krOps[30]? = some o := Option.isSome_iff_exists.1 (by kernel_rfl)
  have hop : o.op = Op.binOp BinOp.neq 24 (Operand.tmp 44) (Operand.tmp 45) 24 := op_of ho (by kernel_rfl)
  have hg : guardOk krOps a o := h.guard hown (guard_of ho (g := some (23, false)) (by kernel_rfl)) (dep hd 23 (by kernel_rfl)) rfl (by decide +kernel)
  have v44 : a.eval (.tmp 44) = sv 0 := h.done 28 44 (dep hd 28 (by kernel_rfl)) (by kernel_rfl)
  have v45 : a.eval (.tmp 45) = sv 0 := h.done 29 45 (dep hd 29 (by kernel_rfl)) (by kernel_rfl)
  exact h.yields hown hH ho hg (v := .bool false) (w' := w) (by simp only [execOp, hop, v44, v45]; simp only [Sem.run_bind, run_eqGuard_agg (P := Tryd.prog) (w := w) _ _ _ _ _ _ eqg, run_neq_struct, equal_same 0 hR.fz, Result.andThen_ok, Sem.run_pure, Bool.not_true]) (Below.refl _ _) rfl
theorem krSt31 (hR : krRows A b1 b2 i w0 t) (h : At krOps 114 (krTab A b1 b2 i w0 t) (krBase A b1 b2 i w0 t) (fun w => Inv2 w0 b1 b2 0 A w) l a w) (hd : ∀ o : Oper, krOps[31]? = some o → ∀ e ∈ o.after.toList, Region.binds .any e = true → l.getD e.on false = true) : wpOp Tryd.prog krOps Q 31 (At krOps 114 (krTab A b1 b2 i w0 t) (krBase A b1 b2 i w0 t) (fun w => Inv2 w0 b1 b2 0 A w) (l.setIfInBounds 31 true)) a w := by
  have hown := krOwn A b1 b2 i w0 t
  have hH := krHold A b1 b2 i w0 t
  obtain ⟨o, ho⟩ : ∃ o, krOps[31]? = some o := Option.isSome_iff_exists.1 (by kernel_rfl)
  have hop : o.op = Op.pick (Operand.tmp 39) (Operand.const (Value.bool true)) (Operand.tmp 46) := op_of ho (by kernel_rfl)
  have hg : guardOk krOps a o := guard_none (guard_of ho (by kernel_rfl))
  have v39 : a.eval (.tmp 39) = .bool false := h.done 23 39 (dep hd 23 (by kernel_rfl)) (by kernel_rfl)
  have v46 : a.eval (.tmp 46) = .bool false := h.done 30 46 (dep hd 30 (by kernel_rfl)) (by kernel_rfl)
  exact h.yields hown hH ho hg (v := .bool false) (w' := w) (by simp only [execOp, hop, v39, v46]; kernel_rfl) (Below.refl _ _) rfl
theorem krSt32 (hR : krRows A b1 b2 i w0 t) (h : At krOps 114 (krTab A b1 b2 i w0 t) (krBase A b1 b2 i w0 t) (fun w => Inv2 w0 b1 b2 0 A w) l a w) (hd : ∀ o : Oper, krOps[32]? = some o → ∀ e ∈ o.after.toList, Region.binds .any e = true → l.getD e.on false = true) : wpOp Tryd.prog krOps Q 32 (At krOps 114 (krTab A b1 b2 i w0 t) (krBase A b1 b2 i w0 t) (fun w => Inv2 w0 b1 b2 0 A w) (l.setIfInBounds 32 true)) a w := by
  have hown := krOwn A b1 b2 i w0 t
  have hH := krHold A b1 b2 i w0 t
  obtain ⟨o, ho⟩ : ∃ o, krOps[32]? = some o := Option.isSome_iff_exists.1 (by kernel_rfl)
  have hop : o.op = Op.move (Operand.tmp 47) := op_of ho (by kernel_rfl)
  have hg : guardOk krOps a o := guard_none (guard_of ho (by kernel_rfl))
  have v47 : a.eval (.tmp 47) = .bool false := h.done 31 47 (dep hd 31 (by kernel_rfl)) (by kernel_rfl)
  exact h.yields hown hH ho hg (v := .bool false) (w' := w) (by simp only [execOp, hop, v47]; kernel_rfl) (Below.refl _ _) rfl
theorem krSt33 (hR : krRows A b1 b2 i w0 t) (h : At krOps 114 (krTab A b1 b2 i w0 t) (krBase A b1 b2 i w0 t) (fun w => Inv2 w0 b1 b2 0 A w) l a w) (hd : ∀ o : Oper, krOps[33]? = some o → ∀ e ∈ o.after.toList, Region.binds .any e = true → l.getD e.on false = true) : wpOp Tryd.prog krOps Q 33 (At krOps 114 (krTab A b1 b2 i w0 t) (krBase A b1 b2 i w0 t) (fun w => Inv2 w0 b1 b2 0 A w) (l.setIfInBounds 33 true)) a w := by
  have hown := krOwn A b1 b2 i w0 t
  have hH := krHold A b1 b2 i w0 t
  obtain ⟨o, ho⟩ : ∃ o, krOps[33]? = some o := Option.isSome_iff_exists.1 (by kernel_rfl)
  have hop : o.op = Op.load 24 (Operand.tmp 2) := op_of ho (by kernel_rfl)
  have hg : guardOk krOps a o := h.guard hown (guard_of ho (g := some (32, false)) (by kernel_rfl)) (dep hd 32 (by kernel_rfl)) rfl (by decide +kernel)
  have v2 : a.eval (.tmp 2) = .pointer (some ⟨b2, 0, none⟩) := (h.fixed 2 (t 2) rfl).trans hR.t2
  exact h.yields hown hH ho hg (v := sv A) (w' := w) (by simp only [execOp, hop, v2]; simp only [Sem.run_bind, load_set (h.hold.2.1), Result.andThen_ok, Sem.run_pure]) (Below.refl _ _) rfl
theorem krSt34 (hR : krRows A b1 b2 i w0 t) (h : At krOps 114 (krTab A b1 b2 i w0 t) (krBase A b1 b2 i w0 t) (fun w => Inv2 w0 b1 b2 0 A w) l a w) (hd : ∀ o : Oper, krOps[34]? = some o → ∀ e ∈ o.after.toList, Region.binds .any e = true → l.getD e.on false = true) : wpOp Tryd.prog krOps Q 34 (At krOps 114 (krTab A b1 b2 i w0 t) (krBase A b1 b2 i w0 t) (fun w => Inv2 w0 b1 b2 0 A w) (l.setIfInBounds 34 true)) a w := by
  have hown := krOwn A b1 b2 i w0 t
  have hH := krHold A b1 b2 i w0 t
  obtain ⟨o, ho⟩ : ∃ o, krOps[34]? = some o := Option.isSome_iff_exists.1 (by kernel_rfl)
  have hop : o.op = Op.move (Operand.tmp 4) := op_of ho (by kernel_rfl)
  have hg : guardOk krOps a o := h.guard hown (guard_of ho (g := some (32, false)) (by kernel_rfl)) (dep hd 32 (by kernel_rfl)) rfl (by decide +kernel)
  have v4 : a.eval (.tmp 4) = .int .i64 i := (h.fixed 4 (t 4) rfl).trans hR.t4
  exact h.yields hown hH ho hg (v := .int .i64 i) (w' := w) (by simp only [execOp, hop, v4]; kernel_rfl) (Below.refl _ _) rfl
theorem krSt35 (hR : krRows A b1 b2 i w0 t) (h : At krOps 114 (krTab A b1 b2 i w0 t) (krBase A b1 b2 i w0 t) (fun w => Inv2 w0 b1 b2 0 A w) l a w) (hd : ∀ o : Oper, krOps[35]? = some o → ∀ e ∈ o.after.toList, Region.binds .any e = true → l.getD e.on false = true) : wpOp Tryd.prog krOps Q 35 (At krOps 114 (krTab A b1 b2 i w0 t) (krBase A b1 b2 i w0 t) (fun w => Inv2 w0 b1 b2 0 A w) (l.setIfInBounds 35 true)) a w := by
  have hown := krOwn A b1 b2 i w0 t
  have hH := krHold A b1 b2 i w0 t
  obtain ⟨o, ho⟩ : ∃ o, krOps[35]? = some o := Option.isSome_iff_exists.1 (by kernel_rfl)
  have hop : o.op = Op.call { callee := Callee.value (Operand.func 14), args := #[Operand.tmp 49, Operand.tmp 50], argTypes := #[24, 3] } := op_of ho (by kernel_rfl)
  have hg : guardOk krOps a o := h.guard hown (guard_of ho (g := some (32, false)) (by kernel_rfl)) (dep hd 32 (by kernel_rfl)) rfl (by decide +kernel)
  have v49 : a.eval (.tmp 49) = sv A := h.done 33 49 (dep hd 33 (by kernel_rfl)) (by kernel_rfl)
  have v50 : a.eval (.tmp 50) = .int .i64 i := h.done 34 50 (dep hd 34 (by kernel_rfl)) (by kernel_rfl)
  refine h.calls hown hH ho hg (f := 14) (args := #[sv A, .int .i64 i]) ?_ ((del_any A i w).mono ?_)
  · rw [exec_call (enters_of Tryd.func14 (by kernel_rfl) rfl) hop]
    simp only [List.map_toArray, List.map_cons, List.map_nil, v49, v50]
    try rfl
  rintro e w' ⟨rfl, hb⟩
  exact ⟨_, rfl, hb, rfl⟩
theorem krSt36 (hR : krRows A b1 b2 i w0 t) (h : At krOps 114 (krTab A b1 b2 i w0 t) (krBase A b1 b2 i w0 t) (fun w => Inv2 w0 b1 b2 0 A w) l a w) (hd : ∀ o : Oper, krOps[36]? = some o → ∀ e ∈ o.after.toList, Region.binds .any e = true → l.getD e.on false = true) : wpOp Tryd.prog krOps Q 36 (At krOps 114 (krTab A b1 b2 i w0 t) (krBase A b1 b2 i w0 t) (fun w => Inv2 w0 b1 b2 0 A w) (l.setIfInBounds 36 true)) a w := by
  have hown := krOwn A b1 b2 i w0 t
  have hH := krHold A b1 b2 i w0 t
  obtain ⟨o, ho⟩ : ∃ o, krOps[36]? = some o := Option.isSome_iff_exists.1 (by kernel_rfl)
  have hop : o.op = Op.call { callee := Callee.value (Operand.func 16), args := #[Operand.tmp 51], argTypes := #[24] } := op_of ho (by kernel_rfl)
  have hg : guardOk krOps a o := h.guard hown (guard_of ho (g := some (32, false)) (by kernel_rfl)) (dep hd 32 (by kernel_rfl)) rfl (by decide +kernel)
  have v51 : a.eval (.tmp 51) = sv (delN A i) := h.done 35 51 (dep hd 35 (by kernel_rfl)) (by kernel_rfl)
  refine h.calls hown hH ho hg (f := 16) (args := #[sv (delN A i)]) ?_ ((len_is (delN A i) 255 hR.h6 w).mono ?_)
  · rw [exec_call (enters_of Tryd.func16 (by kernel_rfl) rfl) hop]
    simp only [List.map_toArray, List.map_cons, List.map_nil, v51]
    try rfl
  rintro e w' ⟨rfl, hb⟩
  exact ⟨_, rfl, hb, rfl⟩
theorem krSt37 (hR : krRows A b1 b2 i w0 t) (h : At krOps 114 (krTab A b1 b2 i w0 t) (krBase A b1 b2 i w0 t) (fun w => Inv2 w0 b1 b2 0 A w) l a w) (hd : ∀ o : Oper, krOps[37]? = some o → ∀ e ∈ o.after.toList, Region.binds .any e = true → l.getD e.on false = true) : wpOp Tryd.prog krOps Q 37 (At krOps 114 (krTab A b1 b2 i w0 t) (krBase A b1 b2 i w0 t) (fun w => Inv2 w0 b1 b2 0 A w) (l.setIfInBounds 37 true)) a w := by
  have hown := krOwn A b1 b2 i w0 t
  have hH := krHold A b1 b2 i w0 t
  obtain ⟨o, ho⟩ : ∃ o, krOps[37]? = some o := Option.isSome_iff_exists.1 (by kernel_rfl)
  have hop : o.op = Op.binOp BinOp.neq 3 (Operand.tmp 52) (Operand.const (Value.int IntKind.i64 255)) 3 := op_of ho (by kernel_rfl)
  have hg : guardOk krOps a o := h.guard hown (guard_of ho (g := some (32, false)) (by kernel_rfl)) (dep hd 32 (by kernel_rfl)) rfl (by decide +kernel)
  have v52 : a.eval (.tmp 52) = .int .i64 255 := h.done 36 52 (dep hd 36 (by kernel_rfl)) (by kernel_rfl)
  exact h.yields hown hH ho hg (v := .bool false) (w' := w) (by simp only [execOp, hop, v52]; go_simp) (Below.refl _ _) rfl
theorem krSt38 (hR : krRows A b1 b2 i w0 t) (h : At krOps 114 (krTab A b1 b2 i w0 t) (krBase A b1 b2 i w0 t) (fun w => Inv2 w0 b1 b2 0 A w) l a w) (hd : ∀ o : Oper, krOps[38]? = some o → ∀ e ∈ o.after.toList, Region.binds .any e = true → l.getD e.on false = true) : wpOp Tryd.prog krOps Q 38 (At krOps 114 (krTab A b1 b2 i w0 t) (krBase A b1 b2 i w0 t) (fun w => Inv2 w0 b1 b2 0 A w) (l.setIfInBounds 38 true)) a w := by
  have hown := krOwn A b1 b2 i w0 t
  have hH := krHold A b1 b2 i w0 t
  obtain ⟨o, ho⟩ : ∃ o, krOps[38]? = some o := Option.isSome_iff_exists.1 (by kernel_rfl)
  have hop : o.op = Op.pick (Operand.tmp 48) (Operand.const (Value.bool true)) (Operand.tmp 53) := op_of ho (by kernel_rfl)
  have hg : guardOk krOps a o := guard_none (guard_of ho (by kernel_rfl))
  have v48 : a.eval (.tmp 48) = .bool false := h.done 32 48 (dep hd 32 (by kernel_rfl)) (by kernel_rfl)
  have v53 : a.eval (.tmp 53) = .bool false := h.done 37 53 (dep hd 37 (by kernel_rfl)) (by kernel_rfl)
  exact h.yields hown hH ho hg (v := .bool false) (w' := w) (by simp only [execOp, hop, v48, v53]; kernel_rfl) (Below.refl _ _) rfl
theorem krSize : krOps.size = 39 := by kernel_rfl
theorem krStep (hR : krRows A b1 b2 i w0 t) (l : Array Bool) (a : Act) (w : World) (kk : Nat) (h : At krOps 114 (krTab A b1 b2 i w0 t) (krBase A b1 b2 i w0 t) (fun w => Inv2 w0 b1 b2 0 A w) l a w) (hi : kk < krOps.size) (hd : ∀ o : Oper, krOps[kk]? = some o → ∀ e ∈ o.after.toList, Region.binds .any e = true → l.getD e.on false = true) : wpOp Tryd.prog krOps Q kk (At krOps 114 (krTab A b1 b2 i w0 t) (krBase A b1 b2 i w0 t) (fun w => Inv2 w0 b1 b2 0 A w) (l.setIfInBounds kk true)) a w := by
  rw [krSize] at hi
  match kk, hi, hd with
  | 0, _, hd => exact krSt0 hR h hd
  | 1, _, hd => exact krSt1 hR h hd
  | 2, _, hd => exact krSt2 hR h hd
  | 3, _, hd => exact krSt3 hR h hd
  | 4, _, hd => exact krSt4 hR h hd
  | 5, _, hd => exact krSt5 hR h hd
  | 6, _, hd => exact krSt6 hR h hd
  | 7, _, hd => exact krSt7 hR h hd
  | 8, _, hd => exact krSt8 hR h hd
  | 9, _, hd => exact krSt9 hR h hd
  | 10, _, hd => exact krSt10 hR h hd
  | 11, _, hd => exact krSt11 hR h hd
  | 12, _, hd => exact krSt12 hR h hd
  | 13, _, hd => exact krSt13 hR h hd
  | 14, _, hd => exact krSt14 hR h hd
  | 15, _, hd => exact krSt15 hR h hd
  | 16, _, hd => exact krSt16 hR h hd
  | 17, _, hd => exact krSt17 hR h hd
  | 18, _, hd => exact krSt18 hR h hd
  | 19, _, hd => exact krSt19 hR h hd
  | 20, _, hd => exact krSt20 hR h hd
  | 21, _, hd => exact krSt21 hR h hd
  | 22, _, hd => exact krSt22 hR h hd
  | 23, _, hd => exact krSt23 hR h hd
  | 24, _, hd => exact krSt24 hR h hd
  | 25, _, hd => exact krSt25 hR h hd
  | 26, _, hd => exact krSt26 hR h hd
  | 27, _, hd => exact krSt27 hR h hd
  | 28, _, hd => exact krSt28 hR h hd
  | 29, _, hd => exact krSt29 hR h hd
  | 30, _, hd => exact krSt30 hR h hd
  | 31, _, hd => exact krSt31 hR h hd
  | 32, _, hd => exact krSt32 hR h hd
  | 33, _, hd => exact krSt33 hR h hd
  | 34, _, hd => exact krSt34 hR h hd
  | 35, _, hd => exact krSt35 hR h hd
  | 36, _, hd => exact krSt36 hR h hd
  | 37, _, hd => exact krSt37 hR h hd
  | 38, _, hd => exact krSt38 hR h hd
  | k + 39, hi, _ => omega
end
/-- The operations of the region. -/
noncomputable def keOps : Array Oper := ((Tryd.f7.body).bind (regionOps 11)).getD #[]
/-- What each of them yields. -/
def keTab (A b1 b2 : Nat) (w0 : World) : Array Cl := #[.val (.bool true),
  .val (.bool true),
  .val (sv A),
  .val (.int .i64 256),
  .val (.bool true),
  .val (.bool true),
  .val (.bool true),
  .val (sv A),
  .val (sv A),
  .val (.bool true),
  .val (.bool true),
  .val (.bool true),
  .val (sv 0),
  .val (.int .i64 0),
  .val (.bool true),
  .val (.bool true),
  .val (.bool true),
  .val (sv 0),
  .lst (([] : List Int)),
  .val (.int .i64 0),
  .val (.bool true),
  .val (.bool true),
  .val (.bool true),
  .val (sv 0),
  .val (.int .i64 (-1)),
  .val (.bool true),
  .val (.bool true),
  .val (.bool true),
  .val (sv A),
  .val (.int .i64 (-1)),
  .val (.bool true),
  .val (.bool true),
  .val (.bool true),
  .val (sv A),
  .val (.int .i64 (-1)),
  .val (.bool true),
  .val (.bool true),
  .val (.bool true),
  .val (sv A),
  .val (.int .i64 0),
  .val (.bool true),
  .val (.bool true),
  .val (.bool true),
  .val (sv A),
  .val (sv A),
  .val (sv A),
  .val (.bool true),
  .val (.bool true),
  .val (.bool true),
  .val (sv A),
  .val (sv A),
  .val (sv A),
  .val (.bool true),
  .val (.bool true),
  .val (.bool true),
  .val (sv A),
  .val (.bool false),
  .val (.bool true),
  .val (.bool true),
  .val (.bool true)]
def keBase (A b1 b2 : Nat) (w0 : World) : Nat → Option Value := fun s => if s = 1 then some (.pointer (some ⟨b1, 0, none⟩)) else if s = 2 then some (.pointer (some ⟨b2, 0, none⟩)) else none
theorem keOwn (A b1 b2 : Nat) (w0 : World) : ownSlots keOps 114 (keBase A b1 b2 w0) := own_of (bs := [1, 2]) (by kernel_rfl) (fun d hd => by
  unfold keBase
  simp at hd
  simp [hd])
theorem keHold (A b1 b2 : Nat) (w0 : World) : ∀ w w' : World, (fun w => Inv2 w0 b1 b2 0 A w) w → Below w.heap.size w w' → (fun w => Inv2 w0 b1 b2 0 A w) w' := fun w w' h k => h.next k
/-- The closed facts that the region leans on. -/
structure keRows (A b1 b2 : Nat) (w0 : World) : Prop where
  fA : fits A
  bl : sv A = .agg #[.int .u64 18446744073709551615, .int .u64 18446744073709551615, .int .u64 18446744073709551615, .int .u64 18446744073709551615]
  lA : ((plc A).length : Int) = 256
  l0 : ((plc 0).length : Int) = 0
  a0 : plcI 0 = []
  n0 : nextN 0 0 = -1
  n1 : nextN A 256 = -1
  n2 : nextN A 4611686018427387904 = -1
  n3 : nextN A (-4611686018427387904) = 0
  d1 : delN A (-1) = A
  d2 : delN A 256 = A
  hs : hasN A 256 = false
section
variable {l : Array Bool} {a : Act} {w : World} {Q : Exit → Act → World → Prop} {A b1 b2 : Nat} {w0 : World}
theorem keSt0 (hR : keRows A b1 b2 w0) (h : At keOps 114 (keTab A b1 b2 w0) (keBase A b1 b2 w0) (fun w => Inv2 w0 b1 b2 0 A w) l a w) (hd : ∀ o : Oper, keOps[0]? = some o → ∀ e ∈ o.after.toList, Region.binds .any e = true → l.getD e.on false = true) : wpOp Tryd.prog keOps Q 0 (At keOps 114 (keTab A b1 b2 w0) (keBase A b1 b2 w0) (fun w => Inv2 w0 b1 b2 0 A w) (l.setIfInBounds 0 true)) a w := by
  have hown := keOwn A b1 b2 w0
  have hH := keHold A b1 b2 w0
  obtain ⟨o, ho⟩ : ∃ o, keOps[0]? = some o := Option.isSome_iff_exists.1 (by kernel_rfl)
  have hop : o.op = Op.call { callee := Callee.value (Operand.func 21), args := #[], argTypes := #[] } := op_of ho (by kernel_rfl)
  have hg : guardOk keOps a o := guard_none (guard_of ho (by kernel_rfl))
  refine h.calls hown hH ho hg (f := 21) (args := #[]) ?_ ((works_any w h.hold.2.2.1 h.hold.2.2.2.1).mono ?_)
  · rw [exec_call (enters_of Tryd.func21 (by kernel_rfl) rfl) hop]
    simp
    skip
  rintro e w' ⟨rfl, hb⟩
  exact ⟨_, rfl, hb, rfl⟩
theorem keSt1 (hR : keRows A b1 b2 w0) (h : At keOps 114 (keTab A b1 b2 w0) (keBase A b1 b2 w0) (fun w => Inv2 w0 b1 b2 0 A w) l a w) (hd : ∀ o : Oper, keOps[1]? = some o → ∀ e ∈ o.after.toList, Region.binds .any e = true → l.getD e.on false = true) : wpOp Tryd.prog keOps Q 1 (At keOps 114 (keTab A b1 b2 w0) (keBase A b1 b2 w0) (fun w => Inv2 w0 b1 b2 0 A w) (l.setIfInBounds 1 true)) a w := by
  have hown := keOwn A b1 b2 w0
  have hH := keHold A b1 b2 w0
  obtain ⟨o, ho⟩ : ∃ o, keOps[1]? = some o := Option.isSome_iff_exists.1 (by kernel_rfl)
  have hop : o.op = Op.move (Operand.tmp 55) := op_of ho (by kernel_rfl)
  have hg : guardOk keOps a o := guard_none (guard_of ho (by kernel_rfl))
  have v55 : a.eval (.tmp 55) = .bool true := h.done 0 55 (dep hd 0 (by kernel_rfl)) (by kernel_rfl)
  exact h.yields hown hH ho hg (v := .bool true) (w' := w) (by simp only [execOp, hop, v55]; kernel_rfl) (Below.refl _ _) rfl
theorem keSt2 (hR : keRows A b1 b2 w0) (h : At keOps 114 (keTab A b1 b2 w0) (keBase A b1 b2 w0) (fun w => Inv2 w0 b1 b2 0 A w) l a w) (hd : ∀ o : Oper, keOps[2]? = some o → ∀ e ∈ o.after.toList, Region.binds .any e = true → l.getD e.on false = true) : wpOp Tryd.prog keOps Q 2 (At keOps 114 (keTab A b1 b2 w0) (keBase A b1 b2 w0) (fun w => Inv2 w0 b1 b2 0 A w) (l.setIfInBounds 2 true)) a w := by
  have hown := keOwn A b1 b2 w0
  have hH := keHold A b1 b2 w0
  obtain ⟨o, ho⟩ : ∃ o, keOps[2]? = some o := Option.isSome_iff_exists.1 (by kernel_rfl)
  have hop : o.op = Op.load 24 (Operand.tmp 2) := op_of ho (by kernel_rfl)
  have hg : guardOk keOps a o := h.guard hown (guard_of ho (g := some (1, true)) (by kernel_rfl)) (dep hd 1 (by kernel_rfl)) rfl (by decide +kernel)
  have v2 : a.eval (.tmp 2) = .pointer (some ⟨b2, 0, none⟩) := h.fixed 2 _ rfl
  exact h.yields hown hH ho hg (v := sv A) (w' := w) (by simp only [execOp, hop, v2]; simp only [Sem.run_bind, load_set (h.hold.2.1), Result.andThen_ok, Sem.run_pure]) (Below.refl _ _) rfl
theorem keSt3 (hR : keRows A b1 b2 w0) (h : At keOps 114 (keTab A b1 b2 w0) (keBase A b1 b2 w0) (fun w => Inv2 w0 b1 b2 0 A w) l a w) (hd : ∀ o : Oper, keOps[3]? = some o → ∀ e ∈ o.after.toList, Region.binds .any e = true → l.getD e.on false = true) : wpOp Tryd.prog keOps Q 3 (At keOps 114 (keTab A b1 b2 w0) (keBase A b1 b2 w0) (fun w => Inv2 w0 b1 b2 0 A w) (l.setIfInBounds 3 true)) a w := by
  have hown := keOwn A b1 b2 w0
  have hH := keHold A b1 b2 w0
  obtain ⟨o, ho⟩ : ∃ o, keOps[3]? = some o := Option.isSome_iff_exists.1 (by kernel_rfl)
  have hop : o.op = Op.call { callee := Callee.value (Operand.func 16), args := #[Operand.tmp 57], argTypes := #[24] } := op_of ho (by kernel_rfl)
  have hg : guardOk keOps a o := h.guard hown (guard_of ho (g := some (1, true)) (by kernel_rfl)) (dep hd 1 (by kernel_rfl)) rfl (by decide +kernel)
  have v57 : a.eval (.tmp 57) = sv A := h.done 2 57 (dep hd 2 (by kernel_rfl)) (by kernel_rfl)
  refine h.calls hown hH ho hg (f := 16) (args := #[sv A]) ?_ ((len_is A 256 hR.lA w).mono ?_)
  · rw [exec_call (enters_of Tryd.func16 (by kernel_rfl) rfl) hop]
    simp only [List.map_toArray, List.map_cons, List.map_nil, v57]
    try rfl
  rintro e w' ⟨rfl, hb⟩
  exact ⟨_, rfl, hb, rfl⟩
theorem keSt4 (hR : keRows A b1 b2 w0) (h : At keOps 114 (keTab A b1 b2 w0) (keBase A b1 b2 w0) (fun w => Inv2 w0 b1 b2 0 A w) l a w) (hd : ∀ o : Oper, keOps[4]? = some o → ∀ e ∈ o.after.toList, Region.binds .any e = true → l.getD e.on false = true) : wpOp Tryd.prog keOps Q 4 (At keOps 114 (keTab A b1 b2 w0) (keBase A b1 b2 w0) (fun w => Inv2 w0 b1 b2 0 A w) (l.setIfInBounds 4 true)) a w := by
  have hown := keOwn A b1 b2 w0
  have hH := keHold A b1 b2 w0
  obtain ⟨o, ho⟩ : ∃ o, keOps[4]? = some o := Option.isSome_iff_exists.1 (by kernel_rfl)
  have hop : o.op = Op.binOp BinOp.eql 3 (Operand.tmp 58) (Operand.const (Value.int IntKind.i64 256)) 3 := op_of ho (by kernel_rfl)
  have hg : guardOk keOps a o := h.guard hown (guard_of ho (g := some (1, true)) (by kernel_rfl)) (dep hd 1 (by kernel_rfl)) rfl (by decide +kernel)
  have v58 : a.eval (.tmp 58) = .int .i64 256 := h.done 3 58 (dep hd 3 (by kernel_rfl)) (by kernel_rfl)
  exact h.yields hown hH ho hg (v := .bool true) (w' := w) (by simp only [execOp, hop, v58]; go_simp) (Below.refl _ _) rfl
theorem keSt5 (hR : keRows A b1 b2 w0) (h : At keOps 114 (keTab A b1 b2 w0) (keBase A b1 b2 w0) (fun w => Inv2 w0 b1 b2 0 A w) l a w) (hd : ∀ o : Oper, keOps[5]? = some o → ∀ e ∈ o.after.toList, Region.binds .any e = true → l.getD e.on false = true) : wpOp Tryd.prog keOps Q 5 (At keOps 114 (keTab A b1 b2 w0) (keBase A b1 b2 w0) (fun w => Inv2 w0 b1 b2 0 A w) (l.setIfInBounds 5 true)) a w := by
  have hown := keOwn A b1 b2 w0
  have hH := keHold A b1 b2 w0
  obtain ⟨o, ho⟩ : ∃ o, keOps[5]? = some o := Option.isSome_iff_exists.1 (by kernel_rfl)
  have hop : o.op = Op.pick (Operand.tmp 56) (Operand.tmp 59) (Operand.const (Value.bool false)) := op_of ho (by kernel_rfl)
  have hg : guardOk keOps a o := guard_none (guard_of ho (by kernel_rfl))
  have v56 : a.eval (.tmp 56) = .bool true := h.done 1 56 (dep hd 1 (by kernel_rfl)) (by kernel_rfl)
  have v59 : a.eval (.tmp 59) = .bool true := h.done 4 59 (dep hd 4 (by kernel_rfl)) (by kernel_rfl)
  exact h.yields hown hH ho hg (v := .bool true) (w' := w) (by simp only [execOp, hop, v56, v59]; kernel_rfl) (Below.refl _ _) rfl
theorem keSt6 (hR : keRows A b1 b2 w0) (h : At keOps 114 (keTab A b1 b2 w0) (keBase A b1 b2 w0) (fun w => Inv2 w0 b1 b2 0 A w) l a w) (hd : ∀ o : Oper, keOps[6]? = some o → ∀ e ∈ o.after.toList, Region.binds .any e = true → l.getD e.on false = true) : wpOp Tryd.prog keOps Q 6 (At keOps 114 (keTab A b1 b2 w0) (keBase A b1 b2 w0) (fun w => Inv2 w0 b1 b2 0 A w) (l.setIfInBounds 6 true)) a w := by
  have hown := keOwn A b1 b2 w0
  have hH := keHold A b1 b2 w0
  obtain ⟨o, ho⟩ : ∃ o, keOps[6]? = some o := Option.isSome_iff_exists.1 (by kernel_rfl)
  have hop : o.op = Op.move (Operand.tmp 60) := op_of ho (by kernel_rfl)
  have hg : guardOk keOps a o := guard_none (guard_of ho (by kernel_rfl))
  have v60 : a.eval (.tmp 60) = .bool true := h.done 5 60 (dep hd 5 (by kernel_rfl)) (by kernel_rfl)
  exact h.yields hown hH ho hg (v := .bool true) (w' := w) (by simp only [execOp, hop, v60]; kernel_rfl) (Below.refl _ _) rfl
theorem keSt7 (hR : keRows A b1 b2 w0) (h : At keOps 114 (keTab A b1 b2 w0) (keBase A b1 b2 w0) (fun w => Inv2 w0 b1 b2 0 A w) l a w) (hd : ∀ o : Oper, keOps[7]? = some o → ∀ e ∈ o.after.toList, Region.binds .any e = true → l.getD e.on false = true) : wpOp Tryd.prog keOps Q 7 (At keOps 114 (keTab A b1 b2 w0) (keBase A b1 b2 w0) (fun w => Inv2 w0 b1 b2 0 A w) (l.setIfInBounds 7 true)) a w := by
  have hown := keOwn A b1 b2 w0
  have hH := keHold A b1 b2 w0
  obtain ⟨o, ho⟩ : ∃ o, keOps[7]? = some o := Option.isSome_iff_exists.1 (by kernel_rfl)
  have hop : o.op = Op.load 24 (Operand.tmp 2) := op_of ho (by kernel_rfl)
  have hg : guardOk keOps a o := h.guard hown (guard_of ho (g := some (6, true)) (by kernel_rfl)) (dep hd 6 (by kernel_rfl)) rfl (by decide +kernel)
  have v2 : a.eval (.tmp 2) = .pointer (some ⟨b2, 0, none⟩) := h.fixed 2 _ rfl
  exact h.yields hown hH ho hg (v := sv A) (w' := w) (by simp only [execOp, hop, v2]; simp only [Sem.run_bind, load_set (h.hold.2.1), Result.andThen_ok, Sem.run_pure]) (Below.refl _ _) rfl
theorem keSt8 (hR : keRows A b1 b2 w0) (h : At keOps 114 (keTab A b1 b2 w0) (keBase A b1 b2 w0) (fun w => Inv2 w0 b1 b2 0 A w) l a w) (hd : ∀ o : Oper, keOps[8]? = some o → ∀ e ∈ o.after.toList, Region.binds .any e = true → l.getD e.on false = true) : wpOp Tryd.prog keOps Q 8 (At keOps 114 (keTab A b1 b2 w0) (keBase A b1 b2 w0) (fun w => Inv2 w0 b1 b2 0 A w) (l.setIfInBounds 8 true)) a w := by
  have hown := keOwn A b1 b2 w0
  have hH := keHold A b1 b2 w0
  obtain ⟨o, ho⟩ : ∃ o, keOps[8]? = some o := Option.isSome_iff_exists.1 (by kernel_rfl)
  have hop : o.op = Op.build 24 #[(0, (Operand.const (Value.int IntKind.u64 18446744073709551615))), (1, (Operand.const (Value.int IntKind.u64 18446744073709551615))), (2, (Operand.const (Value.int IntKind.u64 18446744073709551615))), (3, (Operand.const (Value.int IntKind.u64 18446744073709551615)))] := op_of ho (by kernel_rfl)
  have hg : guardOk keOps a o := h.guard hown (guard_of ho (g := some (6, true)) (by kernel_rfl)) (dep hd 6 (by kernel_rfl)) rfl (by decide +kernel)
  exact h.yields hown hH ho hg (v := sv A) (w' := w) (by simp only [execOp, hop]; rw [hR.bl]; kernel_rfl) (Below.refl _ _) rfl
theorem keSt9 (hR : keRows A b1 b2 w0) (h : At keOps 114 (keTab A b1 b2 w0) (keBase A b1 b2 w0) (fun w => Inv2 w0 b1 b2 0 A w) l a w) (hd : ∀ o : Oper, keOps[9]? = some o → ∀ e ∈ o.after.toList, Region.binds .any e = true → l.getD e.on false = true) : wpOp Tryd.prog keOps Q 9 (At keOps 114 (keTab A b1 b2 w0) (keBase A b1 b2 w0) (fun w => Inv2 w0 b1 b2 0 A w) (l.setIfInBounds 9 true)) a w := by
  have hown := keOwn A b1 b2 w0
  have hH := keHold A b1 b2 w0
  obtain ⟨o, ho⟩ : ∃ o, keOps[9]? = some o := Option.isSome_iff_exists.1 (by kernel_rfl)
  have hop : o.op = Op.binOp BinOp.eql 24 (Operand.tmp 62) (Operand.tmp 63) 24 := op_of ho (by kernel_rfl)
  have hg : guardOk keOps a o := h.guard hown (guard_of ho (g := some (6, true)) (by kernel_rfl)) (dep hd 6 (by kernel_rfl)) rfl (by decide +kernel)
  have v62 : a.eval (.tmp 62) = sv A := h.done 7 62 (dep hd 7 (by kernel_rfl)) (by kernel_rfl)
  have v63 : a.eval (.tmp 63) = sv A := h.done 8 63 (dep hd 8 (by kernel_rfl)) (by kernel_rfl)
  exact h.yields hown hH ho hg (v := .bool true) (w' := w) (by simp only [execOp, hop, v62, v63]; simp only [Sem.run_bind, run_eqGuard_agg (P := Tryd.prog) (w := w) _ _ _ _ _ _ eqg, run_eql_struct, equal_same A hR.fA, Result.andThen_ok, Sem.run_pure]) (Below.refl _ _) rfl
theorem keSt10 (hR : keRows A b1 b2 w0) (h : At keOps 114 (keTab A b1 b2 w0) (keBase A b1 b2 w0) (fun w => Inv2 w0 b1 b2 0 A w) l a w) (hd : ∀ o : Oper, keOps[10]? = some o → ∀ e ∈ o.after.toList, Region.binds .any e = true → l.getD e.on false = true) : wpOp Tryd.prog keOps Q 10 (At keOps 114 (keTab A b1 b2 w0) (keBase A b1 b2 w0) (fun w => Inv2 w0 b1 b2 0 A w) (l.setIfInBounds 10 true)) a w := by
  have hown := keOwn A b1 b2 w0
  have hH := keHold A b1 b2 w0
  obtain ⟨o, ho⟩ : ∃ o, keOps[10]? = some o := Option.isSome_iff_exists.1 (by kernel_rfl)
  have hop : o.op = Op.pick (Operand.tmp 61) (Operand.tmp 64) (Operand.const (Value.bool false)) := op_of ho (by kernel_rfl)
  have hg : guardOk keOps a o := guard_none (guard_of ho (by kernel_rfl))
  have v61 : a.eval (.tmp 61) = .bool true := h.done 6 61 (dep hd 6 (by kernel_rfl)) (by kernel_rfl)
  have v64 : a.eval (.tmp 64) = .bool true := h.done 9 64 (dep hd 9 (by kernel_rfl)) (by kernel_rfl)
  exact h.yields hown hH ho hg (v := .bool true) (w' := w) (by simp only [execOp, hop, v61, v64]; kernel_rfl) (Below.refl _ _) rfl
theorem keSt11 (hR : keRows A b1 b2 w0) (h : At keOps 114 (keTab A b1 b2 w0) (keBase A b1 b2 w0) (fun w => Inv2 w0 b1 b2 0 A w) l a w) (hd : ∀ o : Oper, keOps[11]? = some o → ∀ e ∈ o.after.toList, Region.binds .any e = true → l.getD e.on false = true) : wpOp Tryd.prog keOps Q 11 (At keOps 114 (keTab A b1 b2 w0) (keBase A b1 b2 w0) (fun w => Inv2 w0 b1 b2 0 A w) (l.setIfInBounds 11 true)) a w := by
  have hown := keOwn A b1 b2 w0
  have hH := keHold A b1 b2 w0
  obtain ⟨o, ho⟩ : ∃ o, keOps[11]? = some o := Option.isSome_iff_exists.1 (by kernel_rfl)
  have hop : o.op = Op.move (Operand.tmp 65) := op_of ho (by kernel_rfl)
  have hg : guardOk keOps a o := guard_none (guard_of ho (by kernel_rfl))
  have v65 : a.eval (.tmp 65) = .bool true := h.done 10 65 (dep hd 10 (by kernel_rfl)) (by kernel_rfl)
  exact h.yields hown hH ho hg (v := .bool true) (w' := w) (by simp only [execOp, hop, v65]; kernel_rfl) (Below.refl _ _) rfl
theorem keSt12 (hR : keRows A b1 b2 w0) (h : At keOps 114 (keTab A b1 b2 w0) (keBase A b1 b2 w0) (fun w => Inv2 w0 b1 b2 0 A w) l a w) (hd : ∀ o : Oper, keOps[12]? = some o → ∀ e ∈ o.after.toList, Region.binds .any e = true → l.getD e.on false = true) : wpOp Tryd.prog keOps Q 12 (At keOps 114 (keTab A b1 b2 w0) (keBase A b1 b2 w0) (fun w => Inv2 w0 b1 b2 0 A w) (l.setIfInBounds 12 true)) a w := by
  have hown := keOwn A b1 b2 w0
  have hH := keHold A b1 b2 w0
  obtain ⟨o, ho⟩ : ∃ o, keOps[12]? = some o := Option.isSome_iff_exists.1 (by kernel_rfl)
  have hop : o.op = Op.load 24 (Operand.tmp 1) := op_of ho (by kernel_rfl)
  have hg : guardOk keOps a o := h.guard hown (guard_of ho (g := some (11, true)) (by kernel_rfl)) (dep hd 11 (by kernel_rfl)) rfl (by decide +kernel)
  have v1 : a.eval (.tmp 1) = .pointer (some ⟨b1, 0, none⟩) := h.fixed 1 _ rfl
  exact h.yields hown hH ho hg (v := sv 0) (w' := w) (by simp only [execOp, hop, v1]; simp only [Sem.run_bind, load_set (h.hold.1), Result.andThen_ok, Sem.run_pure]) (Below.refl _ _) rfl
theorem keSt13 (hR : keRows A b1 b2 w0) (h : At keOps 114 (keTab A b1 b2 w0) (keBase A b1 b2 w0) (fun w => Inv2 w0 b1 b2 0 A w) l a w) (hd : ∀ o : Oper, keOps[13]? = some o → ∀ e ∈ o.after.toList, Region.binds .any e = true → l.getD e.on false = true) : wpOp Tryd.prog keOps Q 13 (At keOps 114 (keTab A b1 b2 w0) (keBase A b1 b2 w0) (fun w => Inv2 w0 b1 b2 0 A w) (l.setIfInBounds 13 true)) a w := by
  have hown := keOwn A b1 b2 w0
  have hH := keHold A b1 b2 w0
  obtain ⟨o, ho⟩ : ∃ o, keOps[13]? = some o := Option.isSome_iff_exists.1 (by kernel_rfl)
  have hop : o.op = Op.call { callee := Callee.value (Operand.func 16), args := #[Operand.tmp 67], argTypes := #[24] } := op_of ho (by kernel_rfl)
  have hg : guardOk keOps a o := h.guard hown (guard_of ho (g := some (11, true)) (by kernel_rfl)) (dep hd 11 (by kernel_rfl)) rfl (by decide +kernel)
  have v67 : a.eval (.tmp 67) = sv 0 := h.done 12 67 (dep hd 12 (by kernel_rfl)) (by kernel_rfl)
  refine h.calls hown hH ho hg (f := 16) (args := #[sv 0]) ?_ ((len_is 0 0 hR.l0 w).mono ?_)
  · rw [exec_call (enters_of Tryd.func16 (by kernel_rfl) rfl) hop]
    simp only [List.map_toArray, List.map_cons, List.map_nil, v67]
    try rfl
  rintro e w' ⟨rfl, hb⟩
  exact ⟨_, rfl, hb, rfl⟩
theorem keSt14 (hR : keRows A b1 b2 w0) (h : At keOps 114 (keTab A b1 b2 w0) (keBase A b1 b2 w0) (fun w => Inv2 w0 b1 b2 0 A w) l a w) (hd : ∀ o : Oper, keOps[14]? = some o → ∀ e ∈ o.after.toList, Region.binds .any e = true → l.getD e.on false = true) : wpOp Tryd.prog keOps Q 14 (At keOps 114 (keTab A b1 b2 w0) (keBase A b1 b2 w0) (fun w => Inv2 w0 b1 b2 0 A w) (l.setIfInBounds 14 true)) a w := by
  have hown := keOwn A b1 b2 w0
  have hH := keHold A b1 b2 w0
  obtain ⟨o, ho⟩ : ∃ o, keOps[14]? = some o := Option.isSome_iff_exists.1 (by kernel_rfl)
  have hop : o.op = Op.binOp BinOp.eql 3 (Operand.tmp 68) (Operand.const (Value.int IntKind.i64 0)) 3 := op_of ho (by kernel_rfl)
  have hg : guardOk keOps a o := h.guard hown (guard_of ho (g := some (11, true)) (by kernel_rfl)) (dep hd 11 (by kernel_rfl)) rfl (by decide +kernel)
  have v68 : a.eval (.tmp 68) = .int .i64 0 := h.done 13 68 (dep hd 13 (by kernel_rfl)) (by kernel_rfl)
  exact h.yields hown hH ho hg (v := .bool true) (w' := w) (by simp only [execOp, hop, v68]; go_simp) (Below.refl _ _) rfl
theorem keSt15 (hR : keRows A b1 b2 w0) (h : At keOps 114 (keTab A b1 b2 w0) (keBase A b1 b2 w0) (fun w => Inv2 w0 b1 b2 0 A w) l a w) (hd : ∀ o : Oper, keOps[15]? = some o → ∀ e ∈ o.after.toList, Region.binds .any e = true → l.getD e.on false = true) : wpOp Tryd.prog keOps Q 15 (At keOps 114 (keTab A b1 b2 w0) (keBase A b1 b2 w0) (fun w => Inv2 w0 b1 b2 0 A w) (l.setIfInBounds 15 true)) a w := by
  have hown := keOwn A b1 b2 w0
  have hH := keHold A b1 b2 w0
  obtain ⟨o, ho⟩ : ∃ o, keOps[15]? = some o := Option.isSome_iff_exists.1 (by kernel_rfl)
  have hop : o.op = Op.pick (Operand.tmp 66) (Operand.tmp 69) (Operand.const (Value.bool false)) := op_of ho (by kernel_rfl)
  have hg : guardOk keOps a o := guard_none (guard_of ho (by kernel_rfl))
  have v66 : a.eval (.tmp 66) = .bool true := h.done 11 66 (dep hd 11 (by kernel_rfl)) (by kernel_rfl)
  have v69 : a.eval (.tmp 69) = .bool true := h.done 14 69 (dep hd 14 (by kernel_rfl)) (by kernel_rfl)
  exact h.yields hown hH ho hg (v := .bool true) (w' := w) (by simp only [execOp, hop, v66, v69]; kernel_rfl) (Below.refl _ _) rfl
theorem keSt16 (hR : keRows A b1 b2 w0) (h : At keOps 114 (keTab A b1 b2 w0) (keBase A b1 b2 w0) (fun w => Inv2 w0 b1 b2 0 A w) l a w) (hd : ∀ o : Oper, keOps[16]? = some o → ∀ e ∈ o.after.toList, Region.binds .any e = true → l.getD e.on false = true) : wpOp Tryd.prog keOps Q 16 (At keOps 114 (keTab A b1 b2 w0) (keBase A b1 b2 w0) (fun w => Inv2 w0 b1 b2 0 A w) (l.setIfInBounds 16 true)) a w := by
  have hown := keOwn A b1 b2 w0
  have hH := keHold A b1 b2 w0
  obtain ⟨o, ho⟩ : ∃ o, keOps[16]? = some o := Option.isSome_iff_exists.1 (by kernel_rfl)
  have hop : o.op = Op.move (Operand.tmp 70) := op_of ho (by kernel_rfl)
  have hg : guardOk keOps a o := guard_none (guard_of ho (by kernel_rfl))
  have v70 : a.eval (.tmp 70) = .bool true := h.done 15 70 (dep hd 15 (by kernel_rfl)) (by kernel_rfl)
  exact h.yields hown hH ho hg (v := .bool true) (w' := w) (by simp only [execOp, hop, v70]; kernel_rfl) (Below.refl _ _) rfl
theorem keSt17 (hR : keRows A b1 b2 w0) (h : At keOps 114 (keTab A b1 b2 w0) (keBase A b1 b2 w0) (fun w => Inv2 w0 b1 b2 0 A w) l a w) (hd : ∀ o : Oper, keOps[17]? = some o → ∀ e ∈ o.after.toList, Region.binds .any e = true → l.getD e.on false = true) : wpOp Tryd.prog keOps Q 17 (At keOps 114 (keTab A b1 b2 w0) (keBase A b1 b2 w0) (fun w => Inv2 w0 b1 b2 0 A w) (l.setIfInBounds 17 true)) a w := by
  have hown := keOwn A b1 b2 w0
  have hH := keHold A b1 b2 w0
  obtain ⟨o, ho⟩ : ∃ o, keOps[17]? = some o := Option.isSome_iff_exists.1 (by kernel_rfl)
  have hop : o.op = Op.load 24 (Operand.tmp 1) := op_of ho (by kernel_rfl)
  have hg : guardOk keOps a o := h.guard hown (guard_of ho (g := some (16, true)) (by kernel_rfl)) (dep hd 16 (by kernel_rfl)) rfl (by decide +kernel)
  have v1 : a.eval (.tmp 1) = .pointer (some ⟨b1, 0, none⟩) := h.fixed 1 _ rfl
  exact h.yields hown hH ho hg (v := sv 0) (w' := w) (by simp only [execOp, hop, v1]; simp only [Sem.run_bind, load_set (h.hold.1), Result.andThen_ok, Sem.run_pure]) (Below.refl _ _) rfl
theorem keSt18 (hR : keRows A b1 b2 w0) (h : At keOps 114 (keTab A b1 b2 w0) (keBase A b1 b2 w0) (fun w => Inv2 w0 b1 b2 0 A w) l a w) (hd : ∀ o : Oper, keOps[18]? = some o → ∀ e ∈ o.after.toList, Region.binds .any e = true → l.getD e.on false = true) : wpOp Tryd.prog keOps Q 18 (At keOps 114 (keTab A b1 b2 w0) (keBase A b1 b2 w0) (fun w => Inv2 w0 b1 b2 0 A w) (l.setIfInBounds 18 true)) a w := by
  have hown := keOwn A b1 b2 w0
  have hH := keHold A b1 b2 w0
  obtain ⟨o, ho⟩ : ∃ o, keOps[18]? = some o := Option.isSome_iff_exists.1 (by kernel_rfl)
  have hop : o.op = Op.call { callee := Callee.value (Operand.func 20), args := #[Operand.tmp 72], argTypes := #[24] } := op_of ho (by kernel_rfl)
  have hg : guardOk keOps a o := h.guard hown (guard_of ho (g := some (16, true)) (by kernel_rfl)) (dep hd 16 (by kernel_rfl)) rfl (by decide +kernel)
  have v72 : a.eval (.tmp 72) = sv 0 := h.done 17 72 (dep hd 17 (by kernel_rfl)) (by kernel_rfl)
  refine h.calls hown hH ho hg (f := 20) (args := #[sv 0]) ?_ ((all_is 0 [] hR.a0 w h.hold.2.2.1 h.hold.2.2.2.1).mono ?_)
  · rw [exec_call (enters_of Tryd.func20 (by kernel_rfl) rfl) hop]
    simp only [List.map_toArray, List.map_cons, List.map_nil, v72]
    try rfl
  rintro e w' ⟨⟨a1, c1, rfl, hi⟩, hb⟩
  exact ⟨_, rfl, hb, a1, c1, rfl, hi⟩
theorem keSt19 (hR : keRows A b1 b2 w0) (h : At keOps 114 (keTab A b1 b2 w0) (keBase A b1 b2 w0) (fun w => Inv2 w0 b1 b2 0 A w) l a w) (hd : ∀ o : Oper, keOps[19]? = some o → ∀ e ∈ o.after.toList, Region.binds .any e = true → l.getD e.on false = true) : wpOp Tryd.prog keOps Q 19 (At keOps 114 (keTab A b1 b2 w0) (keBase A b1 b2 w0) (fun w => Inv2 w0 b1 b2 0 A w) (l.setIfInBounds 19 true)) a w := by
  have hown := keOwn A b1 b2 w0
  have hH := keHold A b1 b2 w0
  obtain ⟨o, ho⟩ : ∃ o, keOps[19]? = some o := Option.isSome_iff_exists.1 (by kernel_rfl)
  have hop : o.op = Op.call { callee := Callee.builtin Builtin.len, args := #[Operand.tmp 73], argTypes := #[25] } := op_of ho (by kernel_rfl)
  have hg : guardOk keOps a o := h.guard hown (guard_of ho (g := some (16, true)) (by kernel_rfl)) (dep hd 16 (by kernel_rfl)) rfl (by decide +kernel)
  obtain ⟨p73, q73, v73, hi73⟩ := h.done 18 73 (dep hd 18 (by kernel_rfl)) (by kernel_rfl)
  change a.eval (.tmp 73) = .slice p73 (([] : List Int)).length q73 at v73
  exact h.yields hown hH ho hg (v := .int .i64 0) (w' := w) (by simp only [execOp, hop]; simp only [resolve, List.map_toArray, List.map_cons, List.map_nil, v73]; go_simp) (Below.refl _ _) rfl
theorem keSt20 (hR : keRows A b1 b2 w0) (h : At keOps 114 (keTab A b1 b2 w0) (keBase A b1 b2 w0) (fun w => Inv2 w0 b1 b2 0 A w) l a w) (hd : ∀ o : Oper, keOps[20]? = some o → ∀ e ∈ o.after.toList, Region.binds .any e = true → l.getD e.on false = true) : wpOp Tryd.prog keOps Q 20 (At keOps 114 (keTab A b1 b2 w0) (keBase A b1 b2 w0) (fun w => Inv2 w0 b1 b2 0 A w) (l.setIfInBounds 20 true)) a w := by
  have hown := keOwn A b1 b2 w0
  have hH := keHold A b1 b2 w0
  obtain ⟨o, ho⟩ : ∃ o, keOps[20]? = some o := Option.isSome_iff_exists.1 (by kernel_rfl)
  have hop : o.op = Op.binOp BinOp.eql 3 (Operand.tmp 74) (Operand.const (Value.int IntKind.i64 0)) 3 := op_of ho (by kernel_rfl)
  have hg : guardOk keOps a o := h.guard hown (guard_of ho (g := some (16, true)) (by kernel_rfl)) (dep hd 16 (by kernel_rfl)) rfl (by decide +kernel)
  have v74 : a.eval (.tmp 74) = .int .i64 0 := h.done 19 74 (dep hd 19 (by kernel_rfl)) (by kernel_rfl)
  exact h.yields hown hH ho hg (v := .bool true) (w' := w) (by simp only [execOp, hop, v74]; go_simp) (Below.refl _ _) rfl
theorem keSt21 (hR : keRows A b1 b2 w0) (h : At keOps 114 (keTab A b1 b2 w0) (keBase A b1 b2 w0) (fun w => Inv2 w0 b1 b2 0 A w) l a w) (hd : ∀ o : Oper, keOps[21]? = some o → ∀ e ∈ o.after.toList, Region.binds .any e = true → l.getD e.on false = true) : wpOp Tryd.prog keOps Q 21 (At keOps 114 (keTab A b1 b2 w0) (keBase A b1 b2 w0) (fun w => Inv2 w0 b1 b2 0 A w) (l.setIfInBounds 21 true)) a w := by
  have hown := keOwn A b1 b2 w0
  have hH := keHold A b1 b2 w0
  obtain ⟨o, ho⟩ : ∃ o, keOps[21]? = some o := Option.isSome_iff_exists.1 (by kernel_rfl)
  have hop : o.op = Op.pick (Operand.tmp 71) (Operand.tmp 75) (Operand.const (Value.bool false)) := op_of ho (by kernel_rfl)
  have hg : guardOk keOps a o := guard_none (guard_of ho (by kernel_rfl))
  have v71 : a.eval (.tmp 71) = .bool true := h.done 16 71 (dep hd 16 (by kernel_rfl)) (by kernel_rfl)
  have v75 : a.eval (.tmp 75) = .bool true := h.done 20 75 (dep hd 20 (by kernel_rfl)) (by kernel_rfl)
  exact h.yields hown hH ho hg (v := .bool true) (w' := w) (by simp only [execOp, hop, v71, v75]; kernel_rfl) (Below.refl _ _) rfl
theorem keSt22 (hR : keRows A b1 b2 w0) (h : At keOps 114 (keTab A b1 b2 w0) (keBase A b1 b2 w0) (fun w => Inv2 w0 b1 b2 0 A w) l a w) (hd : ∀ o : Oper, keOps[22]? = some o → ∀ e ∈ o.after.toList, Region.binds .any e = true → l.getD e.on false = true) : wpOp Tryd.prog keOps Q 22 (At keOps 114 (keTab A b1 b2 w0) (keBase A b1 b2 w0) (fun w => Inv2 w0 b1 b2 0 A w) (l.setIfInBounds 22 true)) a w := by
  have hown := keOwn A b1 b2 w0
  have hH := keHold A b1 b2 w0
  obtain ⟨o, ho⟩ : ∃ o, keOps[22]? = some o := Option.isSome_iff_exists.1 (by kernel_rfl)
  have hop : o.op = Op.move (Operand.tmp 76) := op_of ho (by kernel_rfl)
  have hg : guardOk keOps a o := guard_none (guard_of ho (by kernel_rfl))
  have v76 : a.eval (.tmp 76) = .bool true := h.done 21 76 (dep hd 21 (by kernel_rfl)) (by kernel_rfl)
  exact h.yields hown hH ho hg (v := .bool true) (w' := w) (by simp only [execOp, hop, v76]; kernel_rfl) (Below.refl _ _) rfl
theorem keSt23 (hR : keRows A b1 b2 w0) (h : At keOps 114 (keTab A b1 b2 w0) (keBase A b1 b2 w0) (fun w => Inv2 w0 b1 b2 0 A w) l a w) (hd : ∀ o : Oper, keOps[23]? = some o → ∀ e ∈ o.after.toList, Region.binds .any e = true → l.getD e.on false = true) : wpOp Tryd.prog keOps Q 23 (At keOps 114 (keTab A b1 b2 w0) (keBase A b1 b2 w0) (fun w => Inv2 w0 b1 b2 0 A w) (l.setIfInBounds 23 true)) a w := by
  have hown := keOwn A b1 b2 w0
  have hH := keHold A b1 b2 w0
  obtain ⟨o, ho⟩ : ∃ o, keOps[23]? = some o := Option.isSome_iff_exists.1 (by kernel_rfl)
  have hop : o.op = Op.load 24 (Operand.tmp 1) := op_of ho (by kernel_rfl)
  have hg : guardOk keOps a o := h.guard hown (guard_of ho (g := some (22, true)) (by kernel_rfl)) (dep hd 22 (by kernel_rfl)) rfl (by decide +kernel)
  have v1 : a.eval (.tmp 1) = .pointer (some ⟨b1, 0, none⟩) := h.fixed 1 _ rfl
  exact h.yields hown hH ho hg (v := sv 0) (w' := w) (by simp only [execOp, hop, v1]; simp only [Sem.run_bind, load_set (h.hold.1), Result.andThen_ok, Sem.run_pure]) (Below.refl _ _) rfl
theorem keSt24 (hR : keRows A b1 b2 w0) (h : At keOps 114 (keTab A b1 b2 w0) (keBase A b1 b2 w0) (fun w => Inv2 w0 b1 b2 0 A w) l a w) (hd : ∀ o : Oper, keOps[24]? = some o → ∀ e ∈ o.after.toList, Region.binds .any e = true → l.getD e.on false = true) : wpOp Tryd.prog keOps Q 24 (At keOps 114 (keTab A b1 b2 w0) (keBase A b1 b2 w0) (fun w => Inv2 w0 b1 b2 0 A w) (l.setIfInBounds 24 true)) a w := by
  have hown := keOwn A b1 b2 w0
  have hH := keHold A b1 b2 w0
  obtain ⟨o, ho⟩ : ∃ o, keOps[24]? = some o := Option.isSome_iff_exists.1 (by kernel_rfl)
  have hop : o.op = Op.call { callee := Callee.value (Operand.func 17), args := #[Operand.tmp 78, Operand.const (Value.int IntKind.i64 0)], argTypes := #[24, 3] } := op_of ho (by kernel_rfl)
  have hg : guardOk keOps a o := h.guard hown (guard_of ho (g := some (22, true)) (by kernel_rfl)) (dep hd 22 (by kernel_rfl)) rfl (by decide +kernel)
  have v78 : a.eval (.tmp 78) = sv 0 := h.done 23 78 (dep hd 23 (by kernel_rfl)) (by kernel_rfl)
  refine h.calls hown hH ho hg (f := 17) (args := #[sv 0, .int .i64 0]) ?_ ((nextI 0 0 (-1) (by decide) hR.n0 w h.hold.2.2.1 h.hold.2.2.2.1).mono ?_)
  · rw [exec_call (enters_of Tryd.func17 (by kernel_rfl) rfl) hop]
    simp only [List.map_toArray, List.map_cons, List.map_nil, v78]
    try rfl
  rintro e w' ⟨rfl, hb⟩
  exact ⟨_, rfl, hb, rfl⟩
theorem keSt25 (hR : keRows A b1 b2 w0) (h : At keOps 114 (keTab A b1 b2 w0) (keBase A b1 b2 w0) (fun w => Inv2 w0 b1 b2 0 A w) l a w) (hd : ∀ o : Oper, keOps[25]? = some o → ∀ e ∈ o.after.toList, Region.binds .any e = true → l.getD e.on false = true) : wpOp Tryd.prog keOps Q 25 (At keOps 114 (keTab A b1 b2 w0) (keBase A b1 b2 w0) (fun w => Inv2 w0 b1 b2 0 A w) (l.setIfInBounds 25 true)) a w := by
  have hown := keOwn A b1 b2 w0
  have hH := keHold A b1 b2 w0
  obtain ⟨o, ho⟩ : ∃ o, keOps[25]? = some o := Option.isSome_iff_exists.1 (by kernel_rfl)
  have hop : o.op = Op.binOp BinOp.eql 3 (Operand.tmp 79) (Operand.const (Value.int IntKind.i64 (-1))) 3 := op_of ho (by kernel_rfl)
  have hg : guardOk keOps a o := h.guard hown (guard_of ho (g := some (22, true)) (by kernel_rfl)) (dep hd 22 (by kernel_rfl)) rfl (by decide +kernel)
  have v79 : a.eval (.tmp 79) = .int .i64 (-1) := h.done 24 79 (dep hd 24 (by kernel_rfl)) (by kernel_rfl)
  exact h.yields hown hH ho hg (v := .bool true) (w' := w) (by simp only [execOp, hop, v79]; go_simp) (Below.refl _ _) rfl
theorem keSt26 (hR : keRows A b1 b2 w0) (h : At keOps 114 (keTab A b1 b2 w0) (keBase A b1 b2 w0) (fun w => Inv2 w0 b1 b2 0 A w) l a w) (hd : ∀ o : Oper, keOps[26]? = some o → ∀ e ∈ o.after.toList, Region.binds .any e = true → l.getD e.on false = true) : wpOp Tryd.prog keOps Q 26 (At keOps 114 (keTab A b1 b2 w0) (keBase A b1 b2 w0) (fun w => Inv2 w0 b1 b2 0 A w) (l.setIfInBounds 26 true)) a w := by
  have hown := keOwn A b1 b2 w0
  have hH := keHold A b1 b2 w0
  obtain ⟨o, ho⟩ : ∃ o, keOps[26]? = some o := Option.isSome_iff_exists.1 (by kernel_rfl)
  have hop : o.op = Op.pick (Operand.tmp 77) (Operand.tmp 80) (Operand.const (Value.bool false)) := op_of ho (by kernel_rfl)
  have hg : guardOk keOps a o := guard_none (guard_of ho (by kernel_rfl))
  have v77 : a.eval (.tmp 77) = .bool true := h.done 22 77 (dep hd 22 (by kernel_rfl)) (by kernel_rfl)
  have v80 : a.eval (.tmp 80) = .bool true := h.done 25 80 (dep hd 25 (by kernel_rfl)) (by kernel_rfl)
  exact h.yields hown hH ho hg (v := .bool true) (w' := w) (by simp only [execOp, hop, v77, v80]; kernel_rfl) (Below.refl _ _) rfl
theorem keSt27 (hR : keRows A b1 b2 w0) (h : At keOps 114 (keTab A b1 b2 w0) (keBase A b1 b2 w0) (fun w => Inv2 w0 b1 b2 0 A w) l a w) (hd : ∀ o : Oper, keOps[27]? = some o → ∀ e ∈ o.after.toList, Region.binds .any e = true → l.getD e.on false = true) : wpOp Tryd.prog keOps Q 27 (At keOps 114 (keTab A b1 b2 w0) (keBase A b1 b2 w0) (fun w => Inv2 w0 b1 b2 0 A w) (l.setIfInBounds 27 true)) a w := by
  have hown := keOwn A b1 b2 w0
  have hH := keHold A b1 b2 w0
  obtain ⟨o, ho⟩ : ∃ o, keOps[27]? = some o := Option.isSome_iff_exists.1 (by kernel_rfl)
  have hop : o.op = Op.move (Operand.tmp 81) := op_of ho (by kernel_rfl)
  have hg : guardOk keOps a o := guard_none (guard_of ho (by kernel_rfl))
  have v81 : a.eval (.tmp 81) = .bool true := h.done 26 81 (dep hd 26 (by kernel_rfl)) (by kernel_rfl)
  exact h.yields hown hH ho hg (v := .bool true) (w' := w) (by simp only [execOp, hop, v81]; kernel_rfl) (Below.refl _ _) rfl
theorem keSt28 (hR : keRows A b1 b2 w0) (h : At keOps 114 (keTab A b1 b2 w0) (keBase A b1 b2 w0) (fun w => Inv2 w0 b1 b2 0 A w) l a w) (hd : ∀ o : Oper, keOps[28]? = some o → ∀ e ∈ o.after.toList, Region.binds .any e = true → l.getD e.on false = true) : wpOp Tryd.prog keOps Q 28 (At keOps 114 (keTab A b1 b2 w0) (keBase A b1 b2 w0) (fun w => Inv2 w0 b1 b2 0 A w) (l.setIfInBounds 28 true)) a w := by
  have hown := keOwn A b1 b2 w0
  have hH := keHold A b1 b2 w0
  obtain ⟨o, ho⟩ : ∃ o, keOps[28]? = some o := Option.isSome_iff_exists.1 (by kernel_rfl)
  have hop : o.op = Op.load 24 (Operand.tmp 2) := op_of ho (by kernel_rfl)
  have hg : guardOk keOps a o := h.guard hown (guard_of ho (g := some (27, true)) (by kernel_rfl)) (dep hd 27 (by kernel_rfl)) rfl (by decide +kernel)
  have v2 : a.eval (.tmp 2) = .pointer (some ⟨b2, 0, none⟩) := h.fixed 2 _ rfl
  exact h.yields hown hH ho hg (v := sv A) (w' := w) (by simp only [execOp, hop, v2]; simp only [Sem.run_bind, load_set (h.hold.2.1), Result.andThen_ok, Sem.run_pure]) (Below.refl _ _) rfl
theorem keSt29 (hR : keRows A b1 b2 w0) (h : At keOps 114 (keTab A b1 b2 w0) (keBase A b1 b2 w0) (fun w => Inv2 w0 b1 b2 0 A w) l a w) (hd : ∀ o : Oper, keOps[29]? = some o → ∀ e ∈ o.after.toList, Region.binds .any e = true → l.getD e.on false = true) : wpOp Tryd.prog keOps Q 29 (At keOps 114 (keTab A b1 b2 w0) (keBase A b1 b2 w0) (fun w => Inv2 w0 b1 b2 0 A w) (l.setIfInBounds 29 true)) a w := by
  have hown := keOwn A b1 b2 w0
  have hH := keHold A b1 b2 w0
  obtain ⟨o, ho⟩ : ∃ o, keOps[29]? = some o := Option.isSome_iff_exists.1 (by kernel_rfl)
  have hop : o.op = Op.call { callee := Callee.value (Operand.func 17), args := #[Operand.tmp 83, Operand.const (Value.int IntKind.i64 256)], argTypes := #[24, 3] } := op_of ho (by kernel_rfl)
  have hg : guardOk keOps a o := h.guard hown (guard_of ho (g := some (27, true)) (by kernel_rfl)) (dep hd 27 (by kernel_rfl)) rfl (by decide +kernel)
  have v83 : a.eval (.tmp 83) = sv A := h.done 28 83 (dep hd 28 (by kernel_rfl)) (by kernel_rfl)
  refine h.calls hown hH ho hg (f := 17) (args := #[sv A, .int .i64 256]) ?_ ((nextI A 256 (-1) (by decide) hR.n1 w h.hold.2.2.1 h.hold.2.2.2.1).mono ?_)
  · rw [exec_call (enters_of Tryd.func17 (by kernel_rfl) rfl) hop]
    simp only [List.map_toArray, List.map_cons, List.map_nil, v83]
    try rfl
  rintro e w' ⟨rfl, hb⟩
  exact ⟨_, rfl, hb, rfl⟩
theorem keSt30 (hR : keRows A b1 b2 w0) (h : At keOps 114 (keTab A b1 b2 w0) (keBase A b1 b2 w0) (fun w => Inv2 w0 b1 b2 0 A w) l a w) (hd : ∀ o : Oper, keOps[30]? = some o → ∀ e ∈ o.after.toList, Region.binds .any e = true → l.getD e.on false = true) : wpOp Tryd.prog keOps Q 30 (At keOps 114 (keTab A b1 b2 w0) (keBase A b1 b2 w0) (fun w => Inv2 w0 b1 b2 0 A w) (l.setIfInBounds 30 true)) a w := by
  have hown := keOwn A b1 b2 w0
  have hH := keHold A b1 b2 w0
  obtain ⟨o, ho⟩ : ∃ o, keOps[30]? = some o := Option.isSome_iff_exists.1 (by kernel_rfl)
  have hop : o.op = Op.binOp BinOp.eql 3 (Operand.tmp 84) (Operand.const (Value.int IntKind.i64 (-1))) 3 := op_of ho (by kernel_rfl)
  have hg : guardOk keOps a o := h.guard hown (guard_of ho (g := some (27, true)) (by kernel_rfl)) (dep hd 27 (by kernel_rfl)) rfl (by decide +kernel)
  have v84 : a.eval (.tmp 84) = .int .i64 (-1) := h.done 29 84 (dep hd 29 (by kernel_rfl)) (by kernel_rfl)
  exact h.yields hown hH ho hg (v := .bool true) (w' := w) (by simp only [execOp, hop, v84]; go_simp) (Below.refl _ _) rfl
theorem keSt31 (hR : keRows A b1 b2 w0) (h : At keOps 114 (keTab A b1 b2 w0) (keBase A b1 b2 w0) (fun w => Inv2 w0 b1 b2 0 A w) l a w) (hd : ∀ o : Oper, keOps[31]? = some o → ∀ e ∈ o.after.toList, Region.binds .any e = true → l.getD e.on false = true) : wpOp Tryd.prog keOps Q 31 (At keOps 114 (keTab A b1 b2 w0) (keBase A b1 b2 w0) (fun w => Inv2 w0 b1 b2 0 A w) (l.setIfInBounds 31 true)) a w := by
  have hown := keOwn A b1 b2 w0
  have hH := keHold A b1 b2 w0
  obtain ⟨o, ho⟩ : ∃ o, keOps[31]? = some o := Option.isSome_iff_exists.1 (by kernel_rfl)
  have hop : o.op = Op.pick (Operand.tmp 82) (Operand.tmp 85) (Operand.const (Value.bool false)) := op_of ho (by kernel_rfl)
  have hg : guardOk keOps a o := guard_none (guard_of ho (by kernel_rfl))
  have v82 : a.eval (.tmp 82) = .bool true := h.done 27 82 (dep hd 27 (by kernel_rfl)) (by kernel_rfl)
  have v85 : a.eval (.tmp 85) = .bool true := h.done 30 85 (dep hd 30 (by kernel_rfl)) (by kernel_rfl)
  exact h.yields hown hH ho hg (v := .bool true) (w' := w) (by simp only [execOp, hop, v82, v85]; kernel_rfl) (Below.refl _ _) rfl
theorem keSt32 (hR : keRows A b1 b2 w0) (h : At keOps 114 (keTab A b1 b2 w0) (keBase A b1 b2 w0) (fun w => Inv2 w0 b1 b2 0 A w) l a w) (hd : ∀ o : Oper, keOps[32]? = some o → ∀ e ∈ o.after.toList, Region.binds .any e = true → l.getD e.on false = true) : wpOp Tryd.prog keOps Q 32 (At keOps 114 (keTab A b1 b2 w0) (keBase A b1 b2 w0) (fun w => Inv2 w0 b1 b2 0 A w) (l.setIfInBounds 32 true)) a w := by
  have hown := keOwn A b1 b2 w0
  have hH := keHold A b1 b2 w0
  obtain ⟨o, ho⟩ : ∃ o, keOps[32]? = some o := Option.isSome_iff_exists.1 (by kernel_rfl)
  have hop : o.op = Op.move (Operand.tmp 86) := op_of ho (by kernel_rfl)
  have hg : guardOk keOps a o := guard_none (guard_of ho (by kernel_rfl))
  have v86 : a.eval (.tmp 86) = .bool true := h.done 31 86 (dep hd 31 (by kernel_rfl)) (by kernel_rfl)
  exact h.yields hown hH ho hg (v := .bool true) (w' := w) (by simp only [execOp, hop, v86]; kernel_rfl) (Below.refl _ _) rfl
theorem keSt33 (hR : keRows A b1 b2 w0) (h : At keOps 114 (keTab A b1 b2 w0) (keBase A b1 b2 w0) (fun w => Inv2 w0 b1 b2 0 A w) l a w) (hd : ∀ o : Oper, keOps[33]? = some o → ∀ e ∈ o.after.toList, Region.binds .any e = true → l.getD e.on false = true) : wpOp Tryd.prog keOps Q 33 (At keOps 114 (keTab A b1 b2 w0) (keBase A b1 b2 w0) (fun w => Inv2 w0 b1 b2 0 A w) (l.setIfInBounds 33 true)) a w := by
  have hown := keOwn A b1 b2 w0
  have hH := keHold A b1 b2 w0
  obtain ⟨o, ho⟩ : ∃ o, keOps[33]? = some o := Option.isSome_iff_exists.1 (by kernel_rfl)
  have hop : o.op = Op.load 24 (Operand.tmp 2) := op_of ho (by kernel_rfl)
  have hg : guardOk keOps a o := h.guard hown (guard_of ho (g := some (32, true)) (by kernel_rfl)) (dep hd 32 (by kernel_rfl)) rfl (by decide +kernel)
  have v2 : a.eval (.tmp 2) = .pointer (some ⟨b2, 0, none⟩) := h.fixed 2 _ rfl
  exact h.yields hown hH ho hg (v := sv A) (w' := w) (by simp only [execOp, hop, v2]; simp only [Sem.run_bind, load_set (h.hold.2.1), Result.andThen_ok, Sem.run_pure]) (Below.refl _ _) rfl
theorem keSt34 (hR : keRows A b1 b2 w0) (h : At keOps 114 (keTab A b1 b2 w0) (keBase A b1 b2 w0) (fun w => Inv2 w0 b1 b2 0 A w) l a w) (hd : ∀ o : Oper, keOps[34]? = some o → ∀ e ∈ o.after.toList, Region.binds .any e = true → l.getD e.on false = true) : wpOp Tryd.prog keOps Q 34 (At keOps 114 (keTab A b1 b2 w0) (keBase A b1 b2 w0) (fun w => Inv2 w0 b1 b2 0 A w) (l.setIfInBounds 34 true)) a w := by
  have hown := keOwn A b1 b2 w0
  have hH := keHold A b1 b2 w0
  obtain ⟨o, ho⟩ : ∃ o, keOps[34]? = some o := Option.isSome_iff_exists.1 (by kernel_rfl)
  have hop : o.op = Op.call { callee := Callee.value (Operand.func 17), args := #[Operand.tmp 88, Operand.const (Value.int IntKind.i64 4611686018427387904)], argTypes := #[24, 3] } := op_of ho (by kernel_rfl)
  have hg : guardOk keOps a o := h.guard hown (guard_of ho (g := some (32, true)) (by kernel_rfl)) (dep hd 32 (by kernel_rfl)) rfl (by decide +kernel)
  have v88 : a.eval (.tmp 88) = sv A := h.done 33 88 (dep hd 33 (by kernel_rfl)) (by kernel_rfl)
  refine h.calls hown hH ho hg (f := 17) (args := #[sv A, .int .i64 4611686018427387904]) ?_ ((nextI A 4611686018427387904 (-1) (by decide) hR.n2 w h.hold.2.2.1 h.hold.2.2.2.1).mono ?_)
  · rw [exec_call (enters_of Tryd.func17 (by kernel_rfl) rfl) hop]
    simp only [List.map_toArray, List.map_cons, List.map_nil, v88]
    try rfl
  rintro e w' ⟨rfl, hb⟩
  exact ⟨_, rfl, hb, rfl⟩
theorem keSt35 (hR : keRows A b1 b2 w0) (h : At keOps 114 (keTab A b1 b2 w0) (keBase A b1 b2 w0) (fun w => Inv2 w0 b1 b2 0 A w) l a w) (hd : ∀ o : Oper, keOps[35]? = some o → ∀ e ∈ o.after.toList, Region.binds .any e = true → l.getD e.on false = true) : wpOp Tryd.prog keOps Q 35 (At keOps 114 (keTab A b1 b2 w0) (keBase A b1 b2 w0) (fun w => Inv2 w0 b1 b2 0 A w) (l.setIfInBounds 35 true)) a w := by
  have hown := keOwn A b1 b2 w0
  have hH := keHold A b1 b2 w0
  obtain ⟨o, ho⟩ : ∃ o, keOps[35]? = some o := Option.isSome_iff_exists.1 (by kernel_rfl)
  have hop : o.op = Op.binOp BinOp.eql 3 (Operand.tmp 89) (Operand.const (Value.int IntKind.i64 (-1))) 3 := op_of ho (by kernel_rfl)
  have hg : guardOk keOps a o := h.guard hown (guard_of ho (g := some (32, true)) (by kernel_rfl)) (dep hd 32 (by kernel_rfl)) rfl (by decide +kernel)
  have v89 : a.eval (.tmp 89) = .int .i64 (-1) := h.done 34 89 (dep hd 34 (by kernel_rfl)) (by kernel_rfl)
  exact h.yields hown hH ho hg (v := .bool true) (w' := w) (by simp only [execOp, hop, v89]; go_simp) (Below.refl _ _) rfl
theorem keSt36 (hR : keRows A b1 b2 w0) (h : At keOps 114 (keTab A b1 b2 w0) (keBase A b1 b2 w0) (fun w => Inv2 w0 b1 b2 0 A w) l a w) (hd : ∀ o : Oper, keOps[36]? = some o → ∀ e ∈ o.after.toList, Region.binds .any e = true → l.getD e.on false = true) : wpOp Tryd.prog keOps Q 36 (At keOps 114 (keTab A b1 b2 w0) (keBase A b1 b2 w0) (fun w => Inv2 w0 b1 b2 0 A w) (l.setIfInBounds 36 true)) a w := by
  have hown := keOwn A b1 b2 w0
  have hH := keHold A b1 b2 w0
  obtain ⟨o, ho⟩ : ∃ o, keOps[36]? = some o := Option.isSome_iff_exists.1 (by kernel_rfl)
  have hop : o.op = Op.pick (Operand.tmp 87) (Operand.tmp 90) (Operand.const (Value.bool false)) := op_of ho (by kernel_rfl)
  have hg : guardOk keOps a o := guard_none (guard_of ho (by kernel_rfl))
  have v87 : a.eval (.tmp 87) = .bool true := h.done 32 87 (dep hd 32 (by kernel_rfl)) (by kernel_rfl)
  have v90 : a.eval (.tmp 90) = .bool true := h.done 35 90 (dep hd 35 (by kernel_rfl)) (by kernel_rfl)
  exact h.yields hown hH ho hg (v := .bool true) (w' := w) (by simp only [execOp, hop, v87, v90]; kernel_rfl) (Below.refl _ _) rfl
theorem keSt37 (hR : keRows A b1 b2 w0) (h : At keOps 114 (keTab A b1 b2 w0) (keBase A b1 b2 w0) (fun w => Inv2 w0 b1 b2 0 A w) l a w) (hd : ∀ o : Oper, keOps[37]? = some o → ∀ e ∈ o.after.toList, Region.binds .any e = true → l.getD e.on false = true) : wpOp Tryd.prog keOps Q 37 (At keOps 114 (keTab A b1 b2 w0) (keBase A b1 b2 w0) (fun w => Inv2 w0 b1 b2 0 A w) (l.setIfInBounds 37 true)) a w := by
  have hown := keOwn A b1 b2 w0
  have hH := keHold A b1 b2 w0
  obtain ⟨o, ho⟩ : ∃ o, keOps[37]? = some o := Option.isSome_iff_exists.1 (by kernel_rfl)
  have hop : o.op = Op.move (Operand.tmp 91) := op_of ho (by kernel_rfl)
  have hg : guardOk keOps a o := guard_none (guard_of ho (by kernel_rfl))
  have v91 : a.eval (.tmp 91) = .bool true := h.done 36 91 (dep hd 36 (by kernel_rfl)) (by kernel_rfl)
  exact h.yields hown hH ho hg (v := .bool true) (w' := w) (by simp only [execOp, hop, v91]; kernel_rfl) (Below.refl _ _) rfl
theorem keSt38 (hR : keRows A b1 b2 w0) (h : At keOps 114 (keTab A b1 b2 w0) (keBase A b1 b2 w0) (fun w => Inv2 w0 b1 b2 0 A w) l a w) (hd : ∀ o : Oper, keOps[38]? = some o → ∀ e ∈ o.after.toList, Region.binds .any e = true → l.getD e.on false = true) : wpOp Tryd.prog keOps Q 38 (At keOps 114 (keTab A b1 b2 w0) (keBase A b1 b2 w0) (fun w => Inv2 w0 b1 b2 0 A w) (l.setIfInBounds 38 true)) a w := by
  have hown := keOwn A b1 b2 w0
  have hH := keHold A b1 b2 w0
  obtain ⟨o, ho⟩ : ∃ o, keOps[38]? = some o := Option.isSome_iff_exists.1 (by kernel_rfl)
  have hop : o.op = Op.load 24 (Operand.tmp 2) := op_of ho (by kernel_rfl)
  have hg : guardOk keOps a o := h.guard hown (guard_of ho (g := some (37, true)) (by kernel_rfl)) (dep hd 37 (by kernel_rfl)) rfl (by decide +kernel)
  have v2 : a.eval (.tmp 2) = .pointer (some ⟨b2, 0, none⟩) := h.fixed 2 _ rfl
  exact h.yields hown hH ho hg (v := sv A) (w' := w) (by simp only [execOp, hop, v2]; simp only [Sem.run_bind, load_set (h.hold.2.1), Result.andThen_ok, Sem.run_pure]) (Below.refl _ _) rfl
theorem keSt39 (hR : keRows A b1 b2 w0) (h : At keOps 114 (keTab A b1 b2 w0) (keBase A b1 b2 w0) (fun w => Inv2 w0 b1 b2 0 A w) l a w) (hd : ∀ o : Oper, keOps[39]? = some o → ∀ e ∈ o.after.toList, Region.binds .any e = true → l.getD e.on false = true) : wpOp Tryd.prog keOps Q 39 (At keOps 114 (keTab A b1 b2 w0) (keBase A b1 b2 w0) (fun w => Inv2 w0 b1 b2 0 A w) (l.setIfInBounds 39 true)) a w := by
  have hown := keOwn A b1 b2 w0
  have hH := keHold A b1 b2 w0
  obtain ⟨o, ho⟩ : ∃ o, keOps[39]? = some o := Option.isSome_iff_exists.1 (by kernel_rfl)
  have hop : o.op = Op.call { callee := Callee.value (Operand.func 17), args := #[Operand.tmp 93, Operand.const (Value.int IntKind.i64 (-4611686018427387904))], argTypes := #[24, 3] } := op_of ho (by kernel_rfl)
  have hg : guardOk keOps a o := h.guard hown (guard_of ho (g := some (37, true)) (by kernel_rfl)) (dep hd 37 (by kernel_rfl)) rfl (by decide +kernel)
  have v93 : a.eval (.tmp 93) = sv A := h.done 38 93 (dep hd 38 (by kernel_rfl)) (by kernel_rfl)
  refine h.calls hown hH ho hg (f := 17) (args := #[sv A, .int .i64 (-4611686018427387904)]) ?_ ((nextI A (-4611686018427387904) (0) (by decide) hR.n3 w h.hold.2.2.1 h.hold.2.2.2.1).mono ?_)
  · rw [exec_call (enters_of Tryd.func17 (by kernel_rfl) rfl) hop]
    simp only [List.map_toArray, List.map_cons, List.map_nil, v93]
    try rfl
  rintro e w' ⟨rfl, hb⟩
  exact ⟨_, rfl, hb, rfl⟩
theorem keSt40 (hR : keRows A b1 b2 w0) (h : At keOps 114 (keTab A b1 b2 w0) (keBase A b1 b2 w0) (fun w => Inv2 w0 b1 b2 0 A w) l a w) (hd : ∀ o : Oper, keOps[40]? = some o → ∀ e ∈ o.after.toList, Region.binds .any e = true → l.getD e.on false = true) : wpOp Tryd.prog keOps Q 40 (At keOps 114 (keTab A b1 b2 w0) (keBase A b1 b2 w0) (fun w => Inv2 w0 b1 b2 0 A w) (l.setIfInBounds 40 true)) a w := by
  have hown := keOwn A b1 b2 w0
  have hH := keHold A b1 b2 w0
  obtain ⟨o, ho⟩ : ∃ o, keOps[40]? = some o := Option.isSome_iff_exists.1 (by kernel_rfl)
  have hop : o.op = Op.binOp BinOp.eql 3 (Operand.tmp 94) (Operand.const (Value.int IntKind.i64 0)) 3 := op_of ho (by kernel_rfl)
  have hg : guardOk keOps a o := h.guard hown (guard_of ho (g := some (37, true)) (by kernel_rfl)) (dep hd 37 (by kernel_rfl)) rfl (by decide +kernel)
  have v94 : a.eval (.tmp 94) = .int .i64 0 := h.done 39 94 (dep hd 39 (by kernel_rfl)) (by kernel_rfl)
  exact h.yields hown hH ho hg (v := .bool true) (w' := w) (by simp only [execOp, hop, v94]; go_simp) (Below.refl _ _) rfl
theorem keSt41 (hR : keRows A b1 b2 w0) (h : At keOps 114 (keTab A b1 b2 w0) (keBase A b1 b2 w0) (fun w => Inv2 w0 b1 b2 0 A w) l a w) (hd : ∀ o : Oper, keOps[41]? = some o → ∀ e ∈ o.after.toList, Region.binds .any e = true → l.getD e.on false = true) : wpOp Tryd.prog keOps Q 41 (At keOps 114 (keTab A b1 b2 w0) (keBase A b1 b2 w0) (fun w => Inv2 w0 b1 b2 0 A w) (l.setIfInBounds 41 true)) a w := by
  have hown := keOwn A b1 b2 w0
  have hH := keHold A b1 b2 w0
  obtain ⟨o, ho⟩ : ∃ o, keOps[41]? = some o := Option.isSome_iff_exists.1 (by kernel_rfl)
  have hop : o.op = Op.pick (Operand.tmp 92) (Operand.tmp 95) (Operand.const (Value.bool false)) := op_of ho (by kernel_rfl)
  have hg : guardOk keOps a o := guard_none (guard_of ho (by kernel_rfl))
  have v92 : a.eval (.tmp 92) = .bool true := h.done 37 92 (dep hd 37 (by kernel_rfl)) (by kernel_rfl)
  have v95 : a.eval (.tmp 95) = .bool true := h.done 40 95 (dep hd 40 (by kernel_rfl)) (by kernel_rfl)
  exact h.yields hown hH ho hg (v := .bool true) (w' := w) (by simp only [execOp, hop, v92, v95]; kernel_rfl) (Below.refl _ _) rfl
theorem keSt42 (hR : keRows A b1 b2 w0) (h : At keOps 114 (keTab A b1 b2 w0) (keBase A b1 b2 w0) (fun w => Inv2 w0 b1 b2 0 A w) l a w) (hd : ∀ o : Oper, keOps[42]? = some o → ∀ e ∈ o.after.toList, Region.binds .any e = true → l.getD e.on false = true) : wpOp Tryd.prog keOps Q 42 (At keOps 114 (keTab A b1 b2 w0) (keBase A b1 b2 w0) (fun w => Inv2 w0 b1 b2 0 A w) (l.setIfInBounds 42 true)) a w := by
  have hown := keOwn A b1 b2 w0
  have hH := keHold A b1 b2 w0
  obtain ⟨o, ho⟩ : ∃ o, keOps[42]? = some o := Option.isSome_iff_exists.1 (by kernel_rfl)
  have hop : o.op = Op.move (Operand.tmp 96) := op_of ho (by kernel_rfl)
  have hg : guardOk keOps a o := guard_none (guard_of ho (by kernel_rfl))
  have v96 : a.eval (.tmp 96) = .bool true := h.done 41 96 (dep hd 41 (by kernel_rfl)) (by kernel_rfl)
  exact h.yields hown hH ho hg (v := .bool true) (w' := w) (by simp only [execOp, hop, v96]; kernel_rfl) (Below.refl _ _) rfl
theorem keSt43 (hR : keRows A b1 b2 w0) (h : At keOps 114 (keTab A b1 b2 w0) (keBase A b1 b2 w0) (fun w => Inv2 w0 b1 b2 0 A w) l a w) (hd : ∀ o : Oper, keOps[43]? = some o → ∀ e ∈ o.after.toList, Region.binds .any e = true → l.getD e.on false = true) : wpOp Tryd.prog keOps Q 43 (At keOps 114 (keTab A b1 b2 w0) (keBase A b1 b2 w0) (fun w => Inv2 w0 b1 b2 0 A w) (l.setIfInBounds 43 true)) a w := by
  have hown := keOwn A b1 b2 w0
  have hH := keHold A b1 b2 w0
  obtain ⟨o, ho⟩ : ∃ o, keOps[43]? = some o := Option.isSome_iff_exists.1 (by kernel_rfl)
  have hop : o.op = Op.load 24 (Operand.tmp 2) := op_of ho (by kernel_rfl)
  have hg : guardOk keOps a o := h.guard hown (guard_of ho (g := some (42, true)) (by kernel_rfl)) (dep hd 42 (by kernel_rfl)) rfl (by decide +kernel)
  have v2 : a.eval (.tmp 2) = .pointer (some ⟨b2, 0, none⟩) := h.fixed 2 _ rfl
  exact h.yields hown hH ho hg (v := sv A) (w' := w) (by simp only [execOp, hop, v2]; simp only [Sem.run_bind, load_set (h.hold.2.1), Result.andThen_ok, Sem.run_pure]) (Below.refl _ _) rfl
theorem keSt44 (hR : keRows A b1 b2 w0) (h : At keOps 114 (keTab A b1 b2 w0) (keBase A b1 b2 w0) (fun w => Inv2 w0 b1 b2 0 A w) l a w) (hd : ∀ o : Oper, keOps[44]? = some o → ∀ e ∈ o.after.toList, Region.binds .any e = true → l.getD e.on false = true) : wpOp Tryd.prog keOps Q 44 (At keOps 114 (keTab A b1 b2 w0) (keBase A b1 b2 w0) (fun w => Inv2 w0 b1 b2 0 A w) (l.setIfInBounds 44 true)) a w := by
  have hown := keOwn A b1 b2 w0
  have hH := keHold A b1 b2 w0
  obtain ⟨o, ho⟩ : ∃ o, keOps[44]? = some o := Option.isSome_iff_exists.1 (by kernel_rfl)
  have hop : o.op = Op.call { callee := Callee.value (Operand.func 14), args := #[Operand.tmp 98, Operand.const (Value.int IntKind.i64 (-1))], argTypes := #[24, 3] } := op_of ho (by kernel_rfl)
  have hg : guardOk keOps a o := h.guard hown (guard_of ho (g := some (42, true)) (by kernel_rfl)) (dep hd 42 (by kernel_rfl)) rfl (by decide +kernel)
  have v98 : a.eval (.tmp 98) = sv A := h.done 43 98 (dep hd 43 (by kernel_rfl)) (by kernel_rfl)
  refine h.calls hown hH ho hg (f := 14) (args := #[sv A, .int .i64 (-1)]) ?_ ((del_is A A (-1) hR.d1 w).mono ?_)
  · rw [exec_call (enters_of Tryd.func14 (by kernel_rfl) rfl) hop]
    simp only [List.map_toArray, List.map_cons, List.map_nil, v98]
    try rfl
  rintro e w' ⟨rfl, hb⟩
  exact ⟨_, rfl, hb, rfl⟩
theorem keSt45 (hR : keRows A b1 b2 w0) (h : At keOps 114 (keTab A b1 b2 w0) (keBase A b1 b2 w0) (fun w => Inv2 w0 b1 b2 0 A w) l a w) (hd : ∀ o : Oper, keOps[45]? = some o → ∀ e ∈ o.after.toList, Region.binds .any e = true → l.getD e.on false = true) : wpOp Tryd.prog keOps Q 45 (At keOps 114 (keTab A b1 b2 w0) (keBase A b1 b2 w0) (fun w => Inv2 w0 b1 b2 0 A w) (l.setIfInBounds 45 true)) a w := by
  have hown := keOwn A b1 b2 w0
  have hH := keHold A b1 b2 w0
  obtain ⟨o, ho⟩ : ∃ o, keOps[45]? = some o := Option.isSome_iff_exists.1 (by kernel_rfl)
  have hop : o.op = Op.load 24 (Operand.tmp 2) := op_of ho (by kernel_rfl)
  have hg : guardOk keOps a o := h.guard hown (guard_of ho (g := some (42, true)) (by kernel_rfl)) (dep hd 42 (by kernel_rfl)) rfl (by decide +kernel)
  have v2 : a.eval (.tmp 2) = .pointer (some ⟨b2, 0, none⟩) := h.fixed 2 _ rfl
  exact h.yields hown hH ho hg (v := sv A) (w' := w) (by simp only [execOp, hop, v2]; simp only [Sem.run_bind, load_set (h.hold.2.1), Result.andThen_ok, Sem.run_pure]) (Below.refl _ _) rfl
theorem keSt46 (hR : keRows A b1 b2 w0) (h : At keOps 114 (keTab A b1 b2 w0) (keBase A b1 b2 w0) (fun w => Inv2 w0 b1 b2 0 A w) l a w) (hd : ∀ o : Oper, keOps[46]? = some o → ∀ e ∈ o.after.toList, Region.binds .any e = true → l.getD e.on false = true) : wpOp Tryd.prog keOps Q 46 (At keOps 114 (keTab A b1 b2 w0) (keBase A b1 b2 w0) (fun w => Inv2 w0 b1 b2 0 A w) (l.setIfInBounds 46 true)) a w := by
  have hown := keOwn A b1 b2 w0
  have hH := keHold A b1 b2 w0
  obtain ⟨o, ho⟩ : ∃ o, keOps[46]? = some o := Option.isSome_iff_exists.1 (by kernel_rfl)
  have hop : o.op = Op.binOp BinOp.eql 24 (Operand.tmp 99) (Operand.tmp 100) 24 := op_of ho (by kernel_rfl)
  have hg : guardOk keOps a o := h.guard hown (guard_of ho (g := some (42, true)) (by kernel_rfl)) (dep hd 42 (by kernel_rfl)) rfl (by decide +kernel)
  have v99 : a.eval (.tmp 99) = sv A := h.done 44 99 (dep hd 44 (by kernel_rfl)) (by kernel_rfl)
  have v100 : a.eval (.tmp 100) = sv A := h.done 45 100 (dep hd 45 (by kernel_rfl)) (by kernel_rfl)
  exact h.yields hown hH ho hg (v := .bool true) (w' := w) (by simp only [execOp, hop, v99, v100]; simp only [Sem.run_bind, run_eqGuard_agg (P := Tryd.prog) (w := w) _ _ _ _ _ _ eqg, run_eql_struct, equal_same A hR.fA, Result.andThen_ok, Sem.run_pure]) (Below.refl _ _) rfl
theorem keSt47 (hR : keRows A b1 b2 w0) (h : At keOps 114 (keTab A b1 b2 w0) (keBase A b1 b2 w0) (fun w => Inv2 w0 b1 b2 0 A w) l a w) (hd : ∀ o : Oper, keOps[47]? = some o → ∀ e ∈ o.after.toList, Region.binds .any e = true → l.getD e.on false = true) : wpOp Tryd.prog keOps Q 47 (At keOps 114 (keTab A b1 b2 w0) (keBase A b1 b2 w0) (fun w => Inv2 w0 b1 b2 0 A w) (l.setIfInBounds 47 true)) a w := by
  have hown := keOwn A b1 b2 w0
  have hH := keHold A b1 b2 w0
  obtain ⟨o, ho⟩ : ∃ o, keOps[47]? = some o := Option.isSome_iff_exists.1 (by kernel_rfl)
  have hop : o.op = Op.pick (Operand.tmp 97) (Operand.tmp 101) (Operand.const (Value.bool false)) := op_of ho (by kernel_rfl)
  have hg : guardOk keOps a o := guard_none (guard_of ho (by kernel_rfl))
  have v97 : a.eval (.tmp 97) = .bool true := h.done 42 97 (dep hd 42 (by kernel_rfl)) (by kernel_rfl)
  have v101 : a.eval (.tmp 101) = .bool true := h.done 46 101 (dep hd 46 (by kernel_rfl)) (by kernel_rfl)
  exact h.yields hown hH ho hg (v := .bool true) (w' := w) (by simp only [execOp, hop, v97, v101]; kernel_rfl) (Below.refl _ _) rfl
theorem keSt48 (hR : keRows A b1 b2 w0) (h : At keOps 114 (keTab A b1 b2 w0) (keBase A b1 b2 w0) (fun w => Inv2 w0 b1 b2 0 A w) l a w) (hd : ∀ o : Oper, keOps[48]? = some o → ∀ e ∈ o.after.toList, Region.binds .any e = true → l.getD e.on false = true) : wpOp Tryd.prog keOps Q 48 (At keOps 114 (keTab A b1 b2 w0) (keBase A b1 b2 w0) (fun w => Inv2 w0 b1 b2 0 A w) (l.setIfInBounds 48 true)) a w := by
  have hown := keOwn A b1 b2 w0
  have hH := keHold A b1 b2 w0
  obtain ⟨o, ho⟩ : ∃ o, keOps[48]? = some o := Option.isSome_iff_exists.1 (by kernel_rfl)
  have hop : o.op = Op.move (Operand.tmp 102) := op_of ho (by kernel_rfl)
  have hg : guardOk keOps a o := guard_none (guard_of ho (by kernel_rfl))
  have v102 : a.eval (.tmp 102) = .bool true := h.done 47 102 (dep hd 47 (by kernel_rfl)) (by kernel_rfl)
  exact h.yields hown hH ho hg (v := .bool true) (w' := w) (by simp only [execOp, hop, v102]; kernel_rfl) (Below.refl _ _) rfl
theorem keSt49 (hR : keRows A b1 b2 w0) (h : At keOps 114 (keTab A b1 b2 w0) (keBase A b1 b2 w0) (fun w => Inv2 w0 b1 b2 0 A w) l a w) (hd : ∀ o : Oper, keOps[49]? = some o → ∀ e ∈ o.after.toList, Region.binds .any e = true → l.getD e.on false = true) : wpOp Tryd.prog keOps Q 49 (At keOps 114 (keTab A b1 b2 w0) (keBase A b1 b2 w0) (fun w => Inv2 w0 b1 b2 0 A w) (l.setIfInBounds 49 true)) a w := by
  have hown := keOwn A b1 b2 w0
  have hH := keHold A b1 b2 w0
  obtain ⟨o, ho⟩ : ∃ o, keOps[49]? = some o := Option.isSome_iff_exists.1 (by kernel_rfl)
  have hop : o.op = Op.load 24 (Operand.tmp 2) := op_of ho (by kernel_rfl)
  have hg : guardOk keOps a o := h.guard hown (guard_of ho (g := some (48, true)) (by kernel_rfl)) (dep hd 48 (by kernel_rfl)) rfl (by decide +kernel)
  have v2 : a.eval (.tmp 2) = .pointer (some ⟨b2, 0, none⟩) := h.fixed 2 _ rfl
  exact h.yields hown hH ho hg (v := sv A) (w' := w) (by simp only [execOp, hop, v2]; simp only [Sem.run_bind, load_set (h.hold.2.1), Result.andThen_ok, Sem.run_pure]) (Below.refl _ _) rfl
theorem keSt50 (hR : keRows A b1 b2 w0) (h : At keOps 114 (keTab A b1 b2 w0) (keBase A b1 b2 w0) (fun w => Inv2 w0 b1 b2 0 A w) l a w) (hd : ∀ o : Oper, keOps[50]? = some o → ∀ e ∈ o.after.toList, Region.binds .any e = true → l.getD e.on false = true) : wpOp Tryd.prog keOps Q 50 (At keOps 114 (keTab A b1 b2 w0) (keBase A b1 b2 w0) (fun w => Inv2 w0 b1 b2 0 A w) (l.setIfInBounds 50 true)) a w := by
  have hown := keOwn A b1 b2 w0
  have hH := keHold A b1 b2 w0
  obtain ⟨o, ho⟩ : ∃ o, keOps[50]? = some o := Option.isSome_iff_exists.1 (by kernel_rfl)
  have hop : o.op = Op.call { callee := Callee.value (Operand.func 14), args := #[Operand.tmp 104, Operand.const (Value.int IntKind.i64 256)], argTypes := #[24, 3] } := op_of ho (by kernel_rfl)
  have hg : guardOk keOps a o := h.guard hown (guard_of ho (g := some (48, true)) (by kernel_rfl)) (dep hd 48 (by kernel_rfl)) rfl (by decide +kernel)
  have v104 : a.eval (.tmp 104) = sv A := h.done 49 104 (dep hd 49 (by kernel_rfl)) (by kernel_rfl)
  refine h.calls hown hH ho hg (f := 14) (args := #[sv A, .int .i64 256]) ?_ ((del_is A A 256 hR.d2 w).mono ?_)
  · rw [exec_call (enters_of Tryd.func14 (by kernel_rfl) rfl) hop]
    simp only [List.map_toArray, List.map_cons, List.map_nil, v104]
    try rfl
  rintro e w' ⟨rfl, hb⟩
  exact ⟨_, rfl, hb, rfl⟩
theorem keSt51 (hR : keRows A b1 b2 w0) (h : At keOps 114 (keTab A b1 b2 w0) (keBase A b1 b2 w0) (fun w => Inv2 w0 b1 b2 0 A w) l a w) (hd : ∀ o : Oper, keOps[51]? = some o → ∀ e ∈ o.after.toList, Region.binds .any e = true → l.getD e.on false = true) : wpOp Tryd.prog keOps Q 51 (At keOps 114 (keTab A b1 b2 w0) (keBase A b1 b2 w0) (fun w => Inv2 w0 b1 b2 0 A w) (l.setIfInBounds 51 true)) a w := by
  have hown := keOwn A b1 b2 w0
  have hH := keHold A b1 b2 w0
  obtain ⟨o, ho⟩ : ∃ o, keOps[51]? = some o := Option.isSome_iff_exists.1 (by kernel_rfl)
  have hop : o.op = Op.load 24 (Operand.tmp 2) := op_of ho (by kernel_rfl)
  have hg : guardOk keOps a o := h.guard hown (guard_of ho (g := some (48, true)) (by kernel_rfl)) (dep hd 48 (by kernel_rfl)) rfl (by decide +kernel)
  have v2 : a.eval (.tmp 2) = .pointer (some ⟨b2, 0, none⟩) := h.fixed 2 _ rfl
  exact h.yields hown hH ho hg (v := sv A) (w' := w) (by simp only [execOp, hop, v2]; simp only [Sem.run_bind, load_set (h.hold.2.1), Result.andThen_ok, Sem.run_pure]) (Below.refl _ _) rfl
theorem keSt52 (hR : keRows A b1 b2 w0) (h : At keOps 114 (keTab A b1 b2 w0) (keBase A b1 b2 w0) (fun w => Inv2 w0 b1 b2 0 A w) l a w) (hd : ∀ o : Oper, keOps[52]? = some o → ∀ e ∈ o.after.toList, Region.binds .any e = true → l.getD e.on false = true) : wpOp Tryd.prog keOps Q 52 (At keOps 114 (keTab A b1 b2 w0) (keBase A b1 b2 w0) (fun w => Inv2 w0 b1 b2 0 A w) (l.setIfInBounds 52 true)) a w := by
  have hown := keOwn A b1 b2 w0
  have hH := keHold A b1 b2 w0
  obtain ⟨o, ho⟩ : ∃ o, keOps[52]? = some o := Option.isSome_iff_exists.1 (by kernel_rfl)
  have hop : o.op = Op.binOp BinOp.eql 24 (Operand.tmp 105) (Operand.tmp 106) 24 := op_of ho (by kernel_rfl)
  have hg : guardOk keOps a o := h.guard hown (guard_of ho (g := some (48, true)) (by kernel_rfl)) (dep hd 48 (by kernel_rfl)) rfl (by decide +kernel)
  have v105 : a.eval (.tmp 105) = sv A := h.done 50 105 (dep hd 50 (by kernel_rfl)) (by kernel_rfl)
  have v106 : a.eval (.tmp 106) = sv A := h.done 51 106 (dep hd 51 (by kernel_rfl)) (by kernel_rfl)
  exact h.yields hown hH ho hg (v := .bool true) (w' := w) (by simp only [execOp, hop, v105, v106]; simp only [Sem.run_bind, run_eqGuard_agg (P := Tryd.prog) (w := w) _ _ _ _ _ _ eqg, run_eql_struct, equal_same A hR.fA, Result.andThen_ok, Sem.run_pure]) (Below.refl _ _) rfl
theorem keSt53 (hR : keRows A b1 b2 w0) (h : At keOps 114 (keTab A b1 b2 w0) (keBase A b1 b2 w0) (fun w => Inv2 w0 b1 b2 0 A w) l a w) (hd : ∀ o : Oper, keOps[53]? = some o → ∀ e ∈ o.after.toList, Region.binds .any e = true → l.getD e.on false = true) : wpOp Tryd.prog keOps Q 53 (At keOps 114 (keTab A b1 b2 w0) (keBase A b1 b2 w0) (fun w => Inv2 w0 b1 b2 0 A w) (l.setIfInBounds 53 true)) a w := by
  have hown := keOwn A b1 b2 w0
  have hH := keHold A b1 b2 w0
  obtain ⟨o, ho⟩ : ∃ o, keOps[53]? = some o := Option.isSome_iff_exists.1 (by kernel_rfl)
  have hop : o.op = Op.pick (Operand.tmp 103) (Operand.tmp 107) (Operand.const (Value.bool false)) := op_of ho (by kernel_rfl)
  have hg : guardOk keOps a o := guard_none (guard_of ho (by kernel_rfl))
  have v103 : a.eval (.tmp 103) = .bool true := h.done 48 103 (dep hd 48 (by kernel_rfl)) (by kernel_rfl)
  have v107 : a.eval (.tmp 107) = .bool true := h.done 52 107 (dep hd 52 (by kernel_rfl)) (by kernel_rfl)
  exact h.yields hown hH ho hg (v := .bool true) (w' := w) (by simp only [execOp, hop, v103, v107]; kernel_rfl) (Below.refl _ _) rfl
theorem keSt54 (hR : keRows A b1 b2 w0) (h : At keOps 114 (keTab A b1 b2 w0) (keBase A b1 b2 w0) (fun w => Inv2 w0 b1 b2 0 A w) l a w) (hd : ∀ o : Oper, keOps[54]? = some o → ∀ e ∈ o.after.toList, Region.binds .any e = true → l.getD e.on false = true) : wpOp Tryd.prog keOps Q 54 (At keOps 114 (keTab A b1 b2 w0) (keBase A b1 b2 w0) (fun w => Inv2 w0 b1 b2 0 A w) (l.setIfInBounds 54 true)) a w := by
  have hown := keOwn A b1 b2 w0
  have hH := keHold A b1 b2 w0
  obtain ⟨o, ho⟩ : ∃ o, keOps[54]? = some o := Option.isSome_iff_exists.1 (by kernel_rfl)
  have hop : o.op = Op.move (Operand.tmp 108) := op_of ho (by kernel_rfl)
  have hg : guardOk keOps a o := guard_none (guard_of ho (by kernel_rfl))
  have v108 : a.eval (.tmp 108) = .bool true := h.done 53 108 (dep hd 53 (by kernel_rfl)) (by kernel_rfl)
  exact h.yields hown hH ho hg (v := .bool true) (w' := w) (by simp only [execOp, hop, v108]; kernel_rfl) (Below.refl _ _) rfl
theorem keSt55 (hR : keRows A b1 b2 w0) (h : At keOps 114 (keTab A b1 b2 w0) (keBase A b1 b2 w0) (fun w => Inv2 w0 b1 b2 0 A w) l a w) (hd : ∀ o : Oper, keOps[55]? = some o → ∀ e ∈ o.after.toList, Region.binds .any e = true → l.getD e.on false = true) : wpOp Tryd.prog keOps Q 55 (At keOps 114 (keTab A b1 b2 w0) (keBase A b1 b2 w0) (fun w => Inv2 w0 b1 b2 0 A w) (l.setIfInBounds 55 true)) a w := by
  have hown := keOwn A b1 b2 w0
  have hH := keHold A b1 b2 w0
  obtain ⟨o, ho⟩ : ∃ o, keOps[55]? = some o := Option.isSome_iff_exists.1 (by kernel_rfl)
  have hop : o.op = Op.load 24 (Operand.tmp 2) := op_of ho (by kernel_rfl)
  have hg : guardOk keOps a o := h.guard hown (guard_of ho (g := some (54, true)) (by kernel_rfl)) (dep hd 54 (by kernel_rfl)) rfl (by decide +kernel)
  have v2 : a.eval (.tmp 2) = .pointer (some ⟨b2, 0, none⟩) := h.fixed 2 _ rfl
  exact h.yields hown hH ho hg (v := sv A) (w' := w) (by simp only [execOp, hop, v2]; simp only [Sem.run_bind, load_set (h.hold.2.1), Result.andThen_ok, Sem.run_pure]) (Below.refl _ _) rfl
theorem keSt56 (hR : keRows A b1 b2 w0) (h : At keOps 114 (keTab A b1 b2 w0) (keBase A b1 b2 w0) (fun w => Inv2 w0 b1 b2 0 A w) l a w) (hd : ∀ o : Oper, keOps[56]? = some o → ∀ e ∈ o.after.toList, Region.binds .any e = true → l.getD e.on false = true) : wpOp Tryd.prog keOps Q 56 (At keOps 114 (keTab A b1 b2 w0) (keBase A b1 b2 w0) (fun w => Inv2 w0 b1 b2 0 A w) (l.setIfInBounds 56 true)) a w := by
  have hown := keOwn A b1 b2 w0
  have hH := keHold A b1 b2 w0
  obtain ⟨o, ho⟩ : ∃ o, keOps[56]? = some o := Option.isSome_iff_exists.1 (by kernel_rfl)
  have hop : o.op = Op.call { callee := Callee.value (Operand.func 9), args := #[Operand.tmp 110, Operand.const (Value.int IntKind.i64 256)], argTypes := #[24, 3] } := op_of ho (by kernel_rfl)
  have hg : guardOk keOps a o := h.guard hown (guard_of ho (g := some (54, true)) (by kernel_rfl)) (dep hd 54 (by kernel_rfl)) rfl (by decide +kernel)
  have v110 : a.eval (.tmp 110) = sv A := h.done 55 110 (dep hd 55 (by kernel_rfl)) (by kernel_rfl)
  refine h.calls hown hH ho hg (f := 9) (args := #[sv A, .int .i64 256]) ?_ ((has_is A 256 false hR.hs w).mono ?_)
  · rw [exec_call (enters_of Tryd.func9 (by kernel_rfl) rfl) hop]
    simp only [List.map_toArray, List.map_cons, List.map_nil, v110]
    try rfl
  rintro e w' ⟨rfl, hb⟩
  exact ⟨_, rfl, hb, rfl⟩
theorem keSt57 (hR : keRows A b1 b2 w0) (h : At keOps 114 (keTab A b1 b2 w0) (keBase A b1 b2 w0) (fun w => Inv2 w0 b1 b2 0 A w) l a w) (hd : ∀ o : Oper, keOps[57]? = some o → ∀ e ∈ o.after.toList, Region.binds .any e = true → l.getD e.on false = true) : wpOp Tryd.prog keOps Q 57 (At keOps 114 (keTab A b1 b2 w0) (keBase A b1 b2 w0) (fun w => Inv2 w0 b1 b2 0 A w) (l.setIfInBounds 57 true)) a w := by
  have hown := keOwn A b1 b2 w0
  have hH := keHold A b1 b2 w0
  obtain ⟨o, ho⟩ : ∃ o, keOps[57]? = some o := Option.isSome_iff_exists.1 (by kernel_rfl)
  have hop : o.op = Op.unOp UnOp.not 4 (Operand.tmp 111) := op_of ho (by kernel_rfl)
  have hg : guardOk keOps a o := h.guard hown (guard_of ho (g := some (54, true)) (by kernel_rfl)) (dep hd 54 (by kernel_rfl)) rfl (by decide +kernel)
  have v111 : a.eval (.tmp 111) = .bool false := h.done 56 111 (dep hd 56 (by kernel_rfl)) (by kernel_rfl)
  exact h.yields hown hH ho hg (v := .bool true) (w' := w) (by simp only [execOp, hop, v111]; kernel_rfl) (Below.refl _ _) rfl
theorem keSt58 (hR : keRows A b1 b2 w0) (h : At keOps 114 (keTab A b1 b2 w0) (keBase A b1 b2 w0) (fun w => Inv2 w0 b1 b2 0 A w) l a w) (hd : ∀ o : Oper, keOps[58]? = some o → ∀ e ∈ o.after.toList, Region.binds .any e = true → l.getD e.on false = true) : wpOp Tryd.prog keOps Q 58 (At keOps 114 (keTab A b1 b2 w0) (keBase A b1 b2 w0) (fun w => Inv2 w0 b1 b2 0 A w) (l.setIfInBounds 58 true)) a w := by
  have hown := keOwn A b1 b2 w0
  have hH := keHold A b1 b2 w0
  obtain ⟨o, ho⟩ : ∃ o, keOps[58]? = some o := Option.isSome_iff_exists.1 (by kernel_rfl)
  have hop : o.op = Op.pick (Operand.tmp 109) (Operand.tmp 112) (Operand.const (Value.bool false)) := op_of ho (by kernel_rfl)
  have hg : guardOk keOps a o := guard_none (guard_of ho (by kernel_rfl))
  have v109 : a.eval (.tmp 109) = .bool true := h.done 54 109 (dep hd 54 (by kernel_rfl)) (by kernel_rfl)
  have v112 : a.eval (.tmp 112) = .bool true := h.done 57 112 (dep hd 57 (by kernel_rfl)) (by kernel_rfl)
  exact h.yields hown hH ho hg (v := .bool true) (w' := w) (by simp only [execOp, hop, v109, v112]; kernel_rfl) (Below.refl _ _) rfl
theorem keSt59 (hR : keRows A b1 b2 w0) (h : At keOps 114 (keTab A b1 b2 w0) (keBase A b1 b2 w0) (fun w => Inv2 w0 b1 b2 0 A w) l a w) (hd : ∀ o : Oper, keOps[59]? = some o → ∀ e ∈ o.after.toList, Region.binds .any e = true → l.getD e.on false = true) : wpOp Tryd.prog keOps Q 59 (At keOps 114 (keTab A b1 b2 w0) (keBase A b1 b2 w0) (fun w => Inv2 w0 b1 b2 0 A w) (l.setIfInBounds 59 true)) a w := by
  have hown := keOwn A b1 b2 w0
  have hH := keHold A b1 b2 w0
  obtain ⟨o, ho⟩ : ∃ o, keOps[59]? = some o := Option.isSome_iff_exists.1 (by kernel_rfl)
  have hop : o.op = Op.assign (Operand.tmp 113) := op_of ho (by kernel_rfl)
  have hg : guardOk keOps a o := guard_none (guard_of ho (by kernel_rfl))
  have v113 : a.eval (.tmp 113) = .bool true := h.done 58 113 (dep hd 58 (by kernel_rfl)) (by kernel_rfl)
  exact h.yields hown hH ho hg (v := .bool true) (w' := w) (by simp only [execOp, hop, v113]; kernel_rfl) (Below.refl _ _) rfl
theorem keSize : keOps.size = 60 := by kernel_rfl
theorem keStep (hR : keRows A b1 b2 w0) (l : Array Bool) (a : Act) (w : World) (kk : Nat) (h : At keOps 114 (keTab A b1 b2 w0) (keBase A b1 b2 w0) (fun w => Inv2 w0 b1 b2 0 A w) l a w) (hi : kk < keOps.size) (hd : ∀ o : Oper, keOps[kk]? = some o → ∀ e ∈ o.after.toList, Region.binds .any e = true → l.getD e.on false = true) : wpOp Tryd.prog keOps Q kk (At keOps 114 (keTab A b1 b2 w0) (keBase A b1 b2 w0) (fun w => Inv2 w0 b1 b2 0 A w) (l.setIfInBounds kk true)) a w := by
  rw [keSize] at hi
  match kk, hi, hd with
  | 0, _, hd => exact keSt0 hR h hd
  | 1, _, hd => exact keSt1 hR h hd
  | 2, _, hd => exact keSt2 hR h hd
  | 3, _, hd => exact keSt3 hR h hd
  | 4, _, hd => exact keSt4 hR h hd
  | 5, _, hd => exact keSt5 hR h hd
  | 6, _, hd => exact keSt6 hR h hd
  | 7, _, hd => exact keSt7 hR h hd
  | 8, _, hd => exact keSt8 hR h hd
  | 9, _, hd => exact keSt9 hR h hd
  | 10, _, hd => exact keSt10 hR h hd
  | 11, _, hd => exact keSt11 hR h hd
  | 12, _, hd => exact keSt12 hR h hd
  | 13, _, hd => exact keSt13 hR h hd
  | 14, _, hd => exact keSt14 hR h hd
  | 15, _, hd => exact keSt15 hR h hd
  | 16, _, hd => exact keSt16 hR h hd
  | 17, _, hd => exact keSt17 hR h hd
  | 18, _, hd => exact keSt18 hR h hd
  | 19, _, hd => exact keSt19 hR h hd
  | 20, _, hd => exact keSt20 hR h hd
  | 21, _, hd => exact keSt21 hR h hd
  | 22, _, hd => exact keSt22 hR h hd
  | 23, _, hd => exact keSt23 hR h hd
  | 24, _, hd => exact keSt24 hR h hd
  | 25, _, hd => exact keSt25 hR h hd
  | 26, _, hd => exact keSt26 hR h hd
  | 27, _, hd => exact keSt27 hR h hd
  | 28, _, hd => exact keSt28 hR h hd
  | 29, _, hd => exact keSt29 hR h hd
  | 30, _, hd => exact keSt30 hR h hd
  | 31, _, hd => exact keSt31 hR h hd
  | 32, _, hd => exact keSt32 hR h hd
  | 33, _, hd => exact keSt33 hR h hd
  | 34, _, hd => exact keSt34 hR h hd
  | 35, _, hd => exact keSt35 hR h hd
  | 36, _, hd => exact keSt36 hR h hd
  | 37, _, hd => exact keSt37 hR h hd
  | 38, _, hd => exact keSt38 hR h hd
  | 39, _, hd => exact keSt39 hR h hd
  | 40, _, hd => exact keSt40 hR h hd
  | 41, _, hd => exact keSt41 hR h hd
  | 42, _, hd => exact keSt42 hR h hd
  | 43, _, hd => exact keSt43 hR h hd
  | 44, _, hd => exact keSt44 hR h hd
  | 45, _, hd => exact keSt45 hR h hd
  | 46, _, hd => exact keSt46 hR h hd
  | 47, _, hd => exact keSt47 hR h hd
  | 48, _, hd => exact keSt48 hR h hd
  | 49, _, hd => exact keSt49 hR h hd
  | 50, _, hd => exact keSt50 hR h hd
  | 51, _, hd => exact keSt51 hR h hd
  | 52, _, hd => exact keSt52 hR h hd
  | 53, _, hd => exact keSt53 hR h hd
  | 54, _, hd => exact keSt54 hR h hd
  | 55, _, hd => exact keSt55 hR h hd
  | 56, _, hd => exact keSt56 hR h hd
  | 57, _, hd => exact keSt57 hR h hd
  | 58, _, hd => exact keSt58 hR h hd
  | 59, _, hd => exact keSt59 hR h hd
  | k + 60, hi, _ => omega
end
end Go.Proofs.YtidkakcnhgfpoaaDoor
