/- BitsSame: the region of its first answer, by program (genSame8.py). -/
import Derived.Test.YtidkakcnhgfpoaaDoorBitsVx
import Derived.Test.YtidkakcnhgfpoaaDoorBitsZ
namespace Go.Proofs.YtidkakcnhgfpoaaDoor
open Go.RowKit Go.Shelf
set_option linter.unusedVariables false
set_option maxRecDepth 100000

/-- The operations of the region. -/
noncomputable def scOps : Array Oper := ((Tryd.f5.body).bind (regionOps 9)).getD #[]
/-- What each of them yields. -/
def scTab (S T b5 b6 : Nat) (w0 : World) (t : Nat → Value) : Array Cl := #[.val (sv S),
  .val (sv T),
  .val (.bool (decide (S = T))),
  .val (.bool (decide (S = T))),
  .val (.bool false),
  .val (.bool false),
  .val (sv S),
  .val (.int .i64 ((plcI S).length : Int)),
  .val (sv S),
  .lst (plcI S),
  .val (.int .i64 ((plcI S).length : Int)),
  .val (.bool false),
  .val (.bool false)]
/-- The slots that the region does not write. -/
def scFree : List Nat := [0, 1, 2, 3, 4, 5, 6, 7, 8, 9, 10, 11, 12, 13, 14, 15, 16, 17, 18, 19, 20, 21, 22, 23, 24, 25, 26, 27, 28, 29, 30, 31, 32, 33, 34, 35, 36, 37, 38, 39, 53, 54, 55, 56, 57, 58, 59, 60, 61, 62, 63, 64, 65, 66, 67, 68, 69, 70, 71, 72, 73, 74, 75, 76, 77, 78, 79, 80]
def scBase (S T b5 b6 : Nat) (w0 : World) (t : Nat → Value) : Nat → Option Value := fun s => if scFree.contains s then some (t s) else none
theorem scOwn (S T b5 b6 : Nat) (w0 : World) (t : Nat → Value) : ownSlots scOps 81 (scBase S T b5 b6 w0 t) := own_of (bs := scFree) (by kernel_rfl) (fun d hd => by unfold scBase; rw [hd]; rfl)
theorem scHold (S T b5 b6 : Nat) (w0 : World) (t : Nat → Value) : ∀ w w' : World, (fun w => Inv2 w0 b5 b6 S T w) w → Below w.heap.size w w' → (fun w => Inv2 w0 b5 b6 S T w) w' := fun w w' h k => h.next k
/-- The closed facts that the region leans on. -/
structure scRows (S T b5 b6 : Nat) (w0 : World) (t : Nat → Value) : Prop where
  t5 : t 5 = .pointer (some ⟨b5, 0, none⟩)
  t6 : t 6 = .pointer (some ⟨b6, 0, none⟩)
  t7 : t 7 = .bool (decide (S = T))
  fS : fits S
  fT : fits T
section
variable {l : Array Bool} {a : Act} {w : World} {Q : Exit → Act → World → Prop} {S T b5 b6 : Nat} {w0 : World} {t : Nat → Value}
theorem scSt0 (hR : scRows S T b5 b6 w0 t) (h : At scOps 81 (scTab S T b5 b6 w0 t) (scBase S T b5 b6 w0 t) (fun w => Inv2 w0 b5 b6 S T w) l a w) (hd : ∀ o : Oper, scOps[0]? = some o → ∀ e ∈ o.after.toList, Region.binds .any e = true → l.getD e.on false = true) : wpOp Tryd.prog scOps Q 0 (At scOps 81 (scTab S T b5 b6 w0 t) (scBase S T b5 b6 w0 t) (fun w => Inv2 w0 b5 b6 S T w) (l.setIfInBounds 0 true)) a w := by
  have hown := scOwn S T b5 b6 w0 t
  have hH := scHold S T b5 b6 w0 t
  obtain ⟨o, ho⟩ : ∃ o, scOps[0]? = some o := Option.isSome_iff_exists.1 (by kernel_rfl)
  have hop : o.op = Op.load 24 (Operand.tmp 5) := op_of ho (by kernel_rfl)
  have hg : guardOk scOps a o := guard_none (guard_of ho (by kernel_rfl))
  have v5 : a.eval (.tmp 5) = .pointer (some ⟨b5, 0, none⟩) := (h.fixed 5 (t 5) rfl).trans hR.t5
  exact h.yields hown hH ho hg (v := sv S) (w' := w) (by simp only [execOp, hop, v5]; simp only [Sem.run_bind, load_set (h.hold.1), Result.andThen_ok, Sem.run_pure]) (Below.refl _ _) rfl
theorem scSt1 (hR : scRows S T b5 b6 w0 t) (h : At scOps 81 (scTab S T b5 b6 w0 t) (scBase S T b5 b6 w0 t) (fun w => Inv2 w0 b5 b6 S T w) l a w) (hd : ∀ o : Oper, scOps[1]? = some o → ∀ e ∈ o.after.toList, Region.binds .any e = true → l.getD e.on false = true) : wpOp Tryd.prog scOps Q 1 (At scOps 81 (scTab S T b5 b6 w0 t) (scBase S T b5 b6 w0 t) (fun w => Inv2 w0 b5 b6 S T w) (l.setIfInBounds 1 true)) a w := by
  have hown := scOwn S T b5 b6 w0 t
  have hH := scHold S T b5 b6 w0 t
  obtain ⟨o, ho⟩ : ∃ o, scOps[1]? = some o := Option.isSome_iff_exists.1 (by kernel_rfl)
  have hop : o.op = Op.load 24 (Operand.tmp 6) := op_of ho (by kernel_rfl)
  have hg : guardOk scOps a o := guard_none (guard_of ho (by kernel_rfl))
  have v6 : a.eval (.tmp 6) = .pointer (some ⟨b6, 0, none⟩) := (h.fixed 6 (t 6) rfl).trans hR.t6
  exact h.yields hown hH ho hg (v := sv T) (w' := w) (by simp only [execOp, hop, v6]; simp only [Sem.run_bind, load_set (h.hold.2.1), Result.andThen_ok, Sem.run_pure]) (Below.refl _ _) rfl
theorem scSt2 (hR : scRows S T b5 b6 w0 t) (h : At scOps 81 (scTab S T b5 b6 w0 t) (scBase S T b5 b6 w0 t) (fun w => Inv2 w0 b5 b6 S T w) l a w) (hd : ∀ o : Oper, scOps[2]? = some o → ∀ e ∈ o.after.toList, Region.binds .any e = true → l.getD e.on false = true) : wpOp Tryd.prog scOps Q 2 (At scOps 81 (scTab S T b5 b6 w0 t) (scBase S T b5 b6 w0 t) (fun w => Inv2 w0 b5 b6 S T w) (l.setIfInBounds 2 true)) a w := by
  have hown := scOwn S T b5 b6 w0 t
  have hH := scHold S T b5 b6 w0 t
  obtain ⟨o, ho⟩ : ∃ o, scOps[2]? = some o := Option.isSome_iff_exists.1 (by kernel_rfl)
  have hop : o.op = Op.binOp BinOp.eql 24 (Operand.tmp 40) (Operand.tmp 41) 24 := op_of ho (by kernel_rfl)
  have hg : guardOk scOps a o := guard_none (guard_of ho (by kernel_rfl))
  have v40 : a.eval (.tmp 40) = sv S := h.done 0 40 (dep hd 0 (by kernel_rfl)) (by kernel_rfl)
  have v41 : a.eval (.tmp 41) = sv T := h.done 1 41 (dep hd 1 (by kernel_rfl)) (by kernel_rfl)
  exact h.yields hown hH ho hg (v := .bool (decide (S = T))) (w' := w) (by simp only [execOp, hop, v40, v41]; simp only [Sem.run_bind, run_eqGuard_agg (P := Tryd.prog) (w := w) _ _ _ _ _ _ eqg, run_eql_struct, equal_set S T hR.fS hR.fT, Result.andThen_ok, Sem.run_pure]) (Below.refl _ _) rfl
theorem scSt3 (hR : scRows S T b5 b6 w0 t) (h : At scOps 81 (scTab S T b5 b6 w0 t) (scBase S T b5 b6 w0 t) (fun w => Inv2 w0 b5 b6 S T w) l a w) (hd : ∀ o : Oper, scOps[3]? = some o → ∀ e ∈ o.after.toList, Region.binds .any e = true → l.getD e.on false = true) : wpOp Tryd.prog scOps Q 3 (At scOps 81 (scTab S T b5 b6 w0 t) (scBase S T b5 b6 w0 t) (fun w => Inv2 w0 b5 b6 S T w) (l.setIfInBounds 3 true)) a w := by
  have hown := scOwn S T b5 b6 w0 t
  have hH := scHold S T b5 b6 w0 t
  obtain ⟨o, ho⟩ : ∃ o, scOps[3]? = some o := Option.isSome_iff_exists.1 (by kernel_rfl)
  have hop : o.op = Op.move (Operand.tmp 7) := op_of ho (by kernel_rfl)
  have hg : guardOk scOps a o := guard_none (guard_of ho (by kernel_rfl))
  have v7 : a.eval (.tmp 7) = .bool (decide (S = T)) := (h.fixed 7 (t 7) rfl).trans hR.t7
  exact h.yields hown hH ho hg (v := .bool (decide (S = T))) (w' := w) (by simp only [execOp, hop, v7]; kernel_rfl) (Below.refl _ _) rfl
theorem scSt4 (hR : scRows S T b5 b6 w0 t) (h : At scOps 81 (scTab S T b5 b6 w0 t) (scBase S T b5 b6 w0 t) (fun w => Inv2 w0 b5 b6 S T w) l a w) (hd : ∀ o : Oper, scOps[4]? = some o → ∀ e ∈ o.after.toList, Region.binds .any e = true → l.getD e.on false = true) : wpOp Tryd.prog scOps Q 4 (At scOps 81 (scTab S T b5 b6 w0 t) (scBase S T b5 b6 w0 t) (fun w => Inv2 w0 b5 b6 S T w) (l.setIfInBounds 4 true)) a w := by
  have hown := scOwn S T b5 b6 w0 t
  have hH := scHold S T b5 b6 w0 t
  obtain ⟨o, ho⟩ : ∃ o, scOps[4]? = some o := Option.isSome_iff_exists.1 (by kernel_rfl)
  have hop : o.op = Op.binOp BinOp.neq 4 (Operand.tmp 42) (Operand.tmp 43) 4 := op_of ho (by kernel_rfl)
  have hg : guardOk scOps a o := guard_none (guard_of ho (by kernel_rfl))
  have v42 : a.eval (.tmp 42) = .bool (decide (S = T)) := h.done 2 42 (dep hd 2 (by kernel_rfl)) (by kernel_rfl)
  have v43 : a.eval (.tmp 43) = .bool (decide (S = T)) := h.done 3 43 (dep hd 3 (by kernel_rfl)) (by kernel_rfl)
  exact h.yields hown hH ho hg (v := .bool false) (w' := w) (by simp only [execOp, hop, v42, v43]; cases (decide (S = T)) <;> go_simp) (Below.refl _ _) rfl
theorem scSt5 (hR : scRows S T b5 b6 w0 t) (h : At scOps 81 (scTab S T b5 b6 w0 t) (scBase S T b5 b6 w0 t) (fun w => Inv2 w0 b5 b6 S T w) l a w) (hd : ∀ o : Oper, scOps[5]? = some o → ∀ e ∈ o.after.toList, Region.binds .any e = true → l.getD e.on false = true) : wpOp Tryd.prog scOps Q 5 (At scOps 81 (scTab S T b5 b6 w0 t) (scBase S T b5 b6 w0 t) (fun w => Inv2 w0 b5 b6 S T w) (l.setIfInBounds 5 true)) a w := by
  have hown := scOwn S T b5 b6 w0 t
  have hH := scHold S T b5 b6 w0 t
  obtain ⟨o, ho⟩ : ∃ o, scOps[5]? = some o := Option.isSome_iff_exists.1 (by kernel_rfl)
  have hop : o.op = Op.move (Operand.tmp 44) := op_of ho (by kernel_rfl)
  have hg : guardOk scOps a o := guard_none (guard_of ho (by kernel_rfl))
  have v44 : a.eval (.tmp 44) = .bool false := h.done 4 44 (dep hd 4 (by kernel_rfl)) (by kernel_rfl)
  exact h.yields hown hH ho hg (v := .bool false) (w' := w) (by simp only [execOp, hop, v44]; kernel_rfl) (Below.refl _ _) rfl
theorem scSt6 (hR : scRows S T b5 b6 w0 t) (h : At scOps 81 (scTab S T b5 b6 w0 t) (scBase S T b5 b6 w0 t) (fun w => Inv2 w0 b5 b6 S T w) l a w) (hd : ∀ o : Oper, scOps[6]? = some o → ∀ e ∈ o.after.toList, Region.binds .any e = true → l.getD e.on false = true) : wpOp Tryd.prog scOps Q 6 (At scOps 81 (scTab S T b5 b6 w0 t) (scBase S T b5 b6 w0 t) (fun w => Inv2 w0 b5 b6 S T w) (l.setIfInBounds 6 true)) a w := by
  have hown := scOwn S T b5 b6 w0 t
  have hH := scHold S T b5 b6 w0 t
  obtain ⟨o, ho⟩ : ∃ o, scOps[6]? = some o := Option.isSome_iff_exists.1 (by kernel_rfl)
  have hop : o.op = Op.load 24 (Operand.tmp 5) := op_of ho (by kernel_rfl)
  have hg : guardOk scOps a o := h.guard hown (guard_of ho (g := some (5, false)) (by kernel_rfl)) (dep hd 5 (by kernel_rfl)) rfl (by decide +kernel)
  have v5 : a.eval (.tmp 5) = .pointer (some ⟨b5, 0, none⟩) := (h.fixed 5 (t 5) rfl).trans hR.t5
  exact h.yields hown hH ho hg (v := sv S) (w' := w) (by simp only [execOp, hop, v5]; simp only [Sem.run_bind, load_set (h.hold.1), Result.andThen_ok, Sem.run_pure]) (Below.refl _ _) rfl
theorem scSt7 (hR : scRows S T b5 b6 w0 t) (h : At scOps 81 (scTab S T b5 b6 w0 t) (scBase S T b5 b6 w0 t) (fun w => Inv2 w0 b5 b6 S T w) l a w) (hd : ∀ o : Oper, scOps[7]? = some o → ∀ e ∈ o.after.toList, Region.binds .any e = true → l.getD e.on false = true) : wpOp Tryd.prog scOps Q 7 (At scOps 81 (scTab S T b5 b6 w0 t) (scBase S T b5 b6 w0 t) (fun w => Inv2 w0 b5 b6 S T w) (l.setIfInBounds 7 true)) a w := by
  have hown := scOwn S T b5 b6 w0 t
  have hH := scHold S T b5 b6 w0 t
  obtain ⟨o, ho⟩ : ∃ o, scOps[7]? = some o := Option.isSome_iff_exists.1 (by kernel_rfl)
  have hop : o.op = Op.call { callee := Callee.value (Operand.func 16), args := #[Operand.tmp 46], argTypes := #[24] } := op_of ho (by kernel_rfl)
  have hg : guardOk scOps a o := h.guard hown (guard_of ho (g := some (5, false)) (by kernel_rfl)) (dep hd 5 (by kernel_rfl)) rfl (by decide +kernel)
  have v46 : a.eval (.tmp 46) = sv S := h.done 6 46 (dep hd 6 (by kernel_rfl)) (by kernel_rfl)
  refine h.calls hown hH ho hg (f := 16) (args := #[sv S]) ?_ ((lenN S w).mono ?_)
  · rw [exec_call (enters_of Tryd.func16 (by kernel_rfl) rfl) hop]
    simp only [List.map_toArray, List.map_cons, List.map_nil, v46]
    try rfl
  rintro e w' ⟨rfl, hb⟩
  exact ⟨_, rfl, hb, rfl⟩
theorem scSt8 (hR : scRows S T b5 b6 w0 t) (h : At scOps 81 (scTab S T b5 b6 w0 t) (scBase S T b5 b6 w0 t) (fun w => Inv2 w0 b5 b6 S T w) l a w) (hd : ∀ o : Oper, scOps[8]? = some o → ∀ e ∈ o.after.toList, Region.binds .any e = true → l.getD e.on false = true) : wpOp Tryd.prog scOps Q 8 (At scOps 81 (scTab S T b5 b6 w0 t) (scBase S T b5 b6 w0 t) (fun w => Inv2 w0 b5 b6 S T w) (l.setIfInBounds 8 true)) a w := by
  have hown := scOwn S T b5 b6 w0 t
  have hH := scHold S T b5 b6 w0 t
  obtain ⟨o, ho⟩ : ∃ o, scOps[8]? = some o := Option.isSome_iff_exists.1 (by kernel_rfl)
  have hop : o.op = Op.load 24 (Operand.tmp 5) := op_of ho (by kernel_rfl)
  have hg : guardOk scOps a o := h.guard hown (guard_of ho (g := some (5, false)) (by kernel_rfl)) (dep hd 5 (by kernel_rfl)) rfl (by decide +kernel)
  have v5 : a.eval (.tmp 5) = .pointer (some ⟨b5, 0, none⟩) := (h.fixed 5 (t 5) rfl).trans hR.t5
  exact h.yields hown hH ho hg (v := sv S) (w' := w) (by simp only [execOp, hop, v5]; simp only [Sem.run_bind, load_set (h.hold.1), Result.andThen_ok, Sem.run_pure]) (Below.refl _ _) rfl
theorem scSt9 (hR : scRows S T b5 b6 w0 t) (h : At scOps 81 (scTab S T b5 b6 w0 t) (scBase S T b5 b6 w0 t) (fun w => Inv2 w0 b5 b6 S T w) l a w) (hd : ∀ o : Oper, scOps[9]? = some o → ∀ e ∈ o.after.toList, Region.binds .any e = true → l.getD e.on false = true) : wpOp Tryd.prog scOps Q 9 (At scOps 81 (scTab S T b5 b6 w0 t) (scBase S T b5 b6 w0 t) (fun w => Inv2 w0 b5 b6 S T w) (l.setIfInBounds 9 true)) a w := by
  have hown := scOwn S T b5 b6 w0 t
  have hH := scHold S T b5 b6 w0 t
  obtain ⟨o, ho⟩ : ∃ o, scOps[9]? = some o := Option.isSome_iff_exists.1 (by kernel_rfl)
  have hop : o.op = Op.call { callee := Callee.value (Operand.func 20), args := #[Operand.tmp 48], argTypes := #[24] } := op_of ho (by kernel_rfl)
  have hg : guardOk scOps a o := h.guard hown (guard_of ho (g := some (5, false)) (by kernel_rfl)) (dep hd 5 (by kernel_rfl)) rfl (by decide +kernel)
  have v48 : a.eval (.tmp 48) = sv S := h.done 8 48 (dep hd 8 (by kernel_rfl)) (by kernel_rfl)
  refine h.calls hown hH ho hg (f := 20) (args := #[sv S]) ?_ ((all_any S w h.hold.2.2.1 h.hold.2.2.2.1).mono ?_)
  · rw [exec_call (enters_of Tryd.func20 (by kernel_rfl) rfl) hop]
    simp only [List.map_toArray, List.map_cons, List.map_nil, v48]
    try rfl
  rintro e w' ⟨⟨a1, c1, rfl, hi⟩, hb⟩
  exact ⟨_, rfl, hb, a1, c1, rfl, hi⟩
theorem scSt10 (hR : scRows S T b5 b6 w0 t) (h : At scOps 81 (scTab S T b5 b6 w0 t) (scBase S T b5 b6 w0 t) (fun w => Inv2 w0 b5 b6 S T w) l a w) (hd : ∀ o : Oper, scOps[10]? = some o → ∀ e ∈ o.after.toList, Region.binds .any e = true → l.getD e.on false = true) : wpOp Tryd.prog scOps Q 10 (At scOps 81 (scTab S T b5 b6 w0 t) (scBase S T b5 b6 w0 t) (fun w => Inv2 w0 b5 b6 S T w) (l.setIfInBounds 10 true)) a w := by
  have hown := scOwn S T b5 b6 w0 t
  have hH := scHold S T b5 b6 w0 t
  obtain ⟨o, ho⟩ : ∃ o, scOps[10]? = some o := Option.isSome_iff_exists.1 (by kernel_rfl)
  have hop : o.op = Op.call { callee := Callee.builtin Builtin.len, args := #[Operand.tmp 49], argTypes := #[25] } := op_of ho (by kernel_rfl)
  have hg : guardOk scOps a o := h.guard hown (guard_of ho (g := some (5, false)) (by kernel_rfl)) (dep hd 5 (by kernel_rfl)) rfl (by decide +kernel)
  obtain ⟨p49, q49, v49, hi49⟩ := h.done 9 49 (dep hd 9 (by kernel_rfl)) (by kernel_rfl)
  change a.eval (.tmp 49) = .slice p49 (plcI S).length q49 at v49
  exact h.yields hown hH ho hg (v := .int .i64 ((plcI S).length : Int)) (w' := w) (by simp only [execOp, hop]; simp only [resolve, List.map_toArray, List.map_cons, List.map_nil, v49]; go_simp) (Below.refl _ _) rfl
theorem scSt11 (hR : scRows S T b5 b6 w0 t) (h : At scOps 81 (scTab S T b5 b6 w0 t) (scBase S T b5 b6 w0 t) (fun w => Inv2 w0 b5 b6 S T w) l a w) (hd : ∀ o : Oper, scOps[11]? = some o → ∀ e ∈ o.after.toList, Region.binds .any e = true → l.getD e.on false = true) : wpOp Tryd.prog scOps Q 11 (At scOps 81 (scTab S T b5 b6 w0 t) (scBase S T b5 b6 w0 t) (fun w => Inv2 w0 b5 b6 S T w) (l.setIfInBounds 11 true)) a w := by
  have hown := scOwn S T b5 b6 w0 t
  have hH := scHold S T b5 b6 w0 t
  obtain ⟨o, ho⟩ : ∃ o, scOps[11]? = some o := Option.isSome_iff_exists.1 (by kernel_rfl)
  have hop : o.op = Op.binOp BinOp.neq 3 (Operand.tmp 47) (Operand.tmp 50) 3 := op_of ho (by kernel_rfl)
  have hg : guardOk scOps a o := h.guard hown (guard_of ho (g := some (5, false)) (by kernel_rfl)) (dep hd 5 (by kernel_rfl)) rfl (by decide +kernel)
  have v47 : a.eval (.tmp 47) = .int .i64 ((plcI S).length : Int) := h.done 7 47 (dep hd 7 (by kernel_rfl)) (by kernel_rfl)
  have v50 : a.eval (.tmp 50) = .int .i64 ((plcI S).length : Int) := h.done 10 50 (dep hd 10 (by kernel_rfl)) (by kernel_rfl)
  exact h.yields hown hH ho hg (v := .bool false) (w' := w) (by simp only [execOp, hop, v47, v50]; go_simp) (Below.refl _ _) rfl
theorem scSt12 (hR : scRows S T b5 b6 w0 t) (h : At scOps 81 (scTab S T b5 b6 w0 t) (scBase S T b5 b6 w0 t) (fun w => Inv2 w0 b5 b6 S T w) l a w) (hd : ∀ o : Oper, scOps[12]? = some o → ∀ e ∈ o.after.toList, Region.binds .any e = true → l.getD e.on false = true) : wpOp Tryd.prog scOps Q 12 (At scOps 81 (scTab S T b5 b6 w0 t) (scBase S T b5 b6 w0 t) (fun w => Inv2 w0 b5 b6 S T w) (l.setIfInBounds 12 true)) a w := by
  have hown := scOwn S T b5 b6 w0 t
  have hH := scHold S T b5 b6 w0 t
  obtain ⟨o, ho⟩ : ∃ o, scOps[12]? = some o := Option.isSome_iff_exists.1 (by kernel_rfl)
  have hop : o.op = Op.pick (Operand.tmp 45) (Operand.const (Value.bool true)) (Operand.tmp 51) := op_of ho (by kernel_rfl)
  have hg : guardOk scOps a o := guard_none (guard_of ho (by kernel_rfl))
  have v45 : a.eval (.tmp 45) = .bool false := h.done 5 45 (dep hd 5 (by kernel_rfl)) (by kernel_rfl)
  have v51 : a.eval (.tmp 51) = .bool false := h.done 11 51 (dep hd 11 (by kernel_rfl)) (by kernel_rfl)
  exact h.yields hown hH ho hg (v := .bool false) (w' := w) (by simp only [execOp, hop, v45, v51]; kernel_rfl) (Below.refl _ _) rfl
theorem scSize : scOps.size = 13 := by kernel_rfl
theorem scStep (hR : scRows S T b5 b6 w0 t) (l : Array Bool) (a : Act) (w : World) (kk : Nat) (h : At scOps 81 (scTab S T b5 b6 w0 t) (scBase S T b5 b6 w0 t) (fun w => Inv2 w0 b5 b6 S T w) l a w) (hi : kk < scOps.size) (hd : ∀ o : Oper, scOps[kk]? = some o → ∀ e ∈ o.after.toList, Region.binds .any e = true → l.getD e.on false = true) : wpOp Tryd.prog scOps Q kk (At scOps 81 (scTab S T b5 b6 w0 t) (scBase S T b5 b6 w0 t) (fun w => Inv2 w0 b5 b6 S T w) (l.setIfInBounds kk true)) a w := by
  rw [scSize] at hi
  match kk, hi, hd with
  | 0, _, hd => exact scSt0 hR h hd
  | 1, _, hd => exact scSt1 hR h hd
  | 2, _, hd => exact scSt2 hR h hd
  | 3, _, hd => exact scSt3 hR h hd
  | 4, _, hd => exact scSt4 hR h hd
  | 5, _, hd => exact scSt5 hR h hd
  | 6, _, hd => exact scSt6 hR h hd
  | 7, _, hd => exact scSt7 hR h hd
  | 8, _, hd => exact scSt8 hR h hd
  | 9, _, hd => exact scSt9 hR h hd
  | 10, _, hd => exact scSt10 hR h hd
  | 11, _, hd => exact scSt11 hR h hd
  | 12, _, hd => exact scSt12 hR h hd
  | k + 13, hi, _ => omega
end
end Go.Proofs.YtidkakcnhgfpoaaDoor
