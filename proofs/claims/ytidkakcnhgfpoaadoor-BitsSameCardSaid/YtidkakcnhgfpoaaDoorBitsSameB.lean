/- BitsSame: the region of the first loop's round, by program (genSame8.py). -/
import Derived.Test.YtidkakcnhgfpoaaDoorBitsVx
import Derived.Test.YtidkakcnhgfpoaaDoorBitsZ
namespace Go.Proofs.YtidkakcnhgfpoaaDoor
open Go.RowKit Go.Shelf
set_option linter.unusedVariables false
set_option maxRecDepth 100000

/-- The operations of the region. -/
noncomputable def sbOps : Array Oper := ((Tryd.f5.body).bind (regionOps 8)).getD #[]
/-- What each of them yields. -/
def sbTab (S T b5 b6 k : Nat) (w0 : World) (t : Nat → Value) : Array Cl := #[.val (.bool true),
  .val (.bool true),
  .val (sv S),
  .val (.int .i64 (k : Int)),
  .val (.bool (hasN S (k : Int))),
  .val (sv T),
  .val (.int .i64 (k : Int)),
  .val (.bool (hasN T (k : Int))),
  .val (.bool (hasN S (k : Int) == hasN T (k : Int))),
  .val (.bool (hasN S (k : Int) == hasN T (k : Int)))]
/-- The slots that the region does not write. -/
def sbFree : List Nat := [0, 1, 2, 3, 4, 5, 6, 7, 8, 9, 10, 11, 12, 13, 14, 15, 16, 17, 18, 19, 20, 21, 22, 23, 24, 25, 26, 27, 28, 29, 40, 41, 42, 43, 44, 45, 46, 47, 48, 49, 50, 51, 52, 53, 54, 55, 56, 57, 58, 59, 60, 61, 62, 63, 64, 65, 66, 67, 68, 69, 70, 71, 72, 73, 74, 75, 76, 77, 78, 79, 80]
def sbBase (S T b5 b6 k : Nat) (w0 : World) (t : Nat → Value) : Nat → Option Value := fun s => if sbFree.contains s then some (t s) else none
theorem sbHold (S T b5 b6 k : Nat) (w0 : World) (t : Nat → Value) : ∀ w w' : World, (fun w => Inv2 w0 b5 b6 S T w) w → Below w.heap.size w w' → (fun w => Inv2 w0 b5 b6 S T w) w' := fun w w' h k => h.next k
/-- The closed facts that the region leans on. -/
structure sbRows (S T b5 b6 k : Nat) (w0 : World) (t : Nat → Value) : Prop where
  t5 : t 5 = .pointer (some ⟨b5, 0, none⟩)
  t6 : t 6 = .pointer (some ⟨b6, 0, none⟩)
  t7 : t 7 = .bool true
  t8 : t 8 = .int .i64 (k : Int)
section
variable {l : Array Bool} {a : Act} {w : World} {Q : Exit → Act → World → Prop} {S T b5 b6 k : Nat} {w0 : World} {t : Nat → Value}
theorem sbSt0 (hR : sbRows S T b5 b6 k w0 t) (h : At sbOps 81 (sbTab S T b5 b6 k w0 t) (sbBase S T b5 b6 k w0 t) (fun w => Inv2 w0 b5 b6 S T w) l a w) (hd : ∀ o : Oper, sbOps[0]? = some o → ∀ e ∈ o.after.toList, Region.binds .any e = true → l.getD e.on false = true) : wpOp Tryd.prog sbOps Q 0 (At sbOps 81 (sbTab S T b5 b6 k w0 t) (sbBase S T b5 b6 k w0 t) (fun w => Inv2 w0 b5 b6 S T w) (l.setIfInBounds 0 true)) a w := by
  have hown : ownAt sbOps 81 (sbBase S T b5 b6 k w0 t) 0 30 := ownAt_of (by kernel_rfl) rfl
  have hH := sbHold S T b5 b6 k w0 t
  obtain ⟨o, ho⟩ : ∃ o, sbOps[0]? = some o := Option.isSome_iff_exists.1 (by kernel_rfl)
  have hop : o.op = Op.move (Operand.tmp 7) := op_of ho (by kernel_rfl)
  have hg : guardOk sbOps a o := guard_none (guard_of ho (by kernel_rfl))
  have v7 : a.eval (.tmp 7) = .bool true := (h.fixed 7 (t 7) rfl).trans hR.t7
  exact h.yields1 hH ho hown hg (v := .bool true) (w' := w) (by simp only [execOp, hop, v7]; kernel_rfl) (Below.refl _ _) rfl
theorem sbSt1 (hR : sbRows S T b5 b6 k w0 t) (h : At sbOps 81 (sbTab S T b5 b6 k w0 t) (sbBase S T b5 b6 k w0 t) (fun w => Inv2 w0 b5 b6 S T w) l a w) (hd : ∀ o : Oper, sbOps[1]? = some o → ∀ e ∈ o.after.toList, Region.binds .any e = true → l.getD e.on false = true) : wpOp Tryd.prog sbOps Q 1 (At sbOps 81 (sbTab S T b5 b6 k w0 t) (sbBase S T b5 b6 k w0 t) (fun w => Inv2 w0 b5 b6 S T w) (l.setIfInBounds 1 true)) a w := by
  have hown : ownAt sbOps 81 (sbBase S T b5 b6 k w0 t) 1 31 := ownAt_of (by kernel_rfl) rfl
  have hH := sbHold S T b5 b6 k w0 t
  obtain ⟨o, ho⟩ : ∃ o, sbOps[1]? = some o := Option.isSome_iff_exists.1 (by kernel_rfl)
  have hop : o.op = Op.move (Operand.tmp 30) := op_of ho (by kernel_rfl)
  have hg : guardOk sbOps a o := guard_none (guard_of ho (by kernel_rfl))
  have v30 : a.eval (.tmp 30) = .bool true := h.done 0 30 (dep hd 0 (by kernel_rfl)) (by kernel_rfl)
  exact h.yields1 hH ho hown hg (v := .bool true) (w' := w) (by simp only [execOp, hop, v30]; kernel_rfl) (Below.refl _ _) rfl
theorem sbSt2 (hR : sbRows S T b5 b6 k w0 t) (h : At sbOps 81 (sbTab S T b5 b6 k w0 t) (sbBase S T b5 b6 k w0 t) (fun w => Inv2 w0 b5 b6 S T w) l a w) (hd : ∀ o : Oper, sbOps[2]? = some o → ∀ e ∈ o.after.toList, Region.binds .any e = true → l.getD e.on false = true) : wpOp Tryd.prog sbOps Q 2 (At sbOps 81 (sbTab S T b5 b6 k w0 t) (sbBase S T b5 b6 k w0 t) (fun w => Inv2 w0 b5 b6 S T w) (l.setIfInBounds 2 true)) a w := by
  have hown : ownAt sbOps 81 (sbBase S T b5 b6 k w0 t) 2 32 := ownAt_of (by kernel_rfl) rfl
  have hH := sbHold S T b5 b6 k w0 t
  obtain ⟨o, ho⟩ : ∃ o, sbOps[2]? = some o := Option.isSome_iff_exists.1 (by kernel_rfl)
  have hop : o.op = Op.load 24 (Operand.tmp 5) := op_of ho (by kernel_rfl)
  have hg : guardOk sbOps a o := h.guard1 (ownAt_of (i := 1) (d := 31) (by kernel_rfl) rfl) (guard_of ho (g := some (1, true)) (by kernel_rfl)) (dep hd 1 (by kernel_rfl)) rfl
  have v5 : a.eval (.tmp 5) = .pointer (some ⟨b5, 0, none⟩) := (h.fixed 5 (t 5) rfl).trans hR.t5
  exact h.yields1 hH ho hown hg (v := sv S) (w' := w) (by simp only [execOp, hop, v5]; simp only [Sem.run_bind, load_set (h.hold.1), Result.andThen_ok, Sem.run_pure]) (Below.refl _ _) rfl
theorem sbSt3 (hR : sbRows S T b5 b6 k w0 t) (h : At sbOps 81 (sbTab S T b5 b6 k w0 t) (sbBase S T b5 b6 k w0 t) (fun w => Inv2 w0 b5 b6 S T w) l a w) (hd : ∀ o : Oper, sbOps[3]? = some o → ∀ e ∈ o.after.toList, Region.binds .any e = true → l.getD e.on false = true) : wpOp Tryd.prog sbOps Q 3 (At sbOps 81 (sbTab S T b5 b6 k w0 t) (sbBase S T b5 b6 k w0 t) (fun w => Inv2 w0 b5 b6 S T w) (l.setIfInBounds 3 true)) a w := by
  have hown : ownAt sbOps 81 (sbBase S T b5 b6 k w0 t) 3 33 := ownAt_of (by kernel_rfl) rfl
  have hH := sbHold S T b5 b6 k w0 t
  obtain ⟨o, ho⟩ : ∃ o, sbOps[3]? = some o := Option.isSome_iff_exists.1 (by kernel_rfl)
  have hop : o.op = Op.move (Operand.tmp 8) := op_of ho (by kernel_rfl)
  have hg : guardOk sbOps a o := h.guard1 (ownAt_of (i := 1) (d := 31) (by kernel_rfl) rfl) (guard_of ho (g := some (1, true)) (by kernel_rfl)) (dep hd 1 (by kernel_rfl)) rfl
  have v8 : a.eval (.tmp 8) = .int .i64 (k : Int) := (h.fixed 8 (t 8) rfl).trans hR.t8
  exact h.yields1 hH ho hown hg (v := .int .i64 (k : Int)) (w' := w) (by simp only [execOp, hop, v8]; kernel_rfl) (Below.refl _ _) rfl
theorem sbSt4 (hR : sbRows S T b5 b6 k w0 t) (h : At sbOps 81 (sbTab S T b5 b6 k w0 t) (sbBase S T b5 b6 k w0 t) (fun w => Inv2 w0 b5 b6 S T w) l a w) (hd : ∀ o : Oper, sbOps[4]? = some o → ∀ e ∈ o.after.toList, Region.binds .any e = true → l.getD e.on false = true) : wpOp Tryd.prog sbOps Q 4 (At sbOps 81 (sbTab S T b5 b6 k w0 t) (sbBase S T b5 b6 k w0 t) (fun w => Inv2 w0 b5 b6 S T w) (l.setIfInBounds 4 true)) a w := by
  have hown : ownAt sbOps 81 (sbBase S T b5 b6 k w0 t) 4 34 := ownAt_of (by kernel_rfl) rfl
  have hH := sbHold S T b5 b6 k w0 t
  obtain ⟨o, ho⟩ : ∃ o, sbOps[4]? = some o := Option.isSome_iff_exists.1 (by kernel_rfl)
  have hop : o.op = Op.call { callee := Callee.value (Operand.func 9), args := #[Operand.tmp 32, Operand.tmp 33], argTypes := #[24, 3] } := op_of ho (by kernel_rfl)
  have hg : guardOk sbOps a o := h.guard1 (ownAt_of (i := 1) (d := 31) (by kernel_rfl) rfl) (guard_of ho (g := some (1, true)) (by kernel_rfl)) (dep hd 1 (by kernel_rfl)) rfl
  have v32 : a.eval (.tmp 32) = sv S := h.done 2 32 (dep hd 2 (by kernel_rfl)) (by kernel_rfl)
  have v33 : a.eval (.tmp 33) = .int .i64 (k : Int) := h.done 3 33 (dep hd 3 (by kernel_rfl)) (by kernel_rfl)
  refine h.calls1 hH ho hown hg (f := 9) (args := #[sv S, .int .i64 (k : Int)]) ?_ ((has_any S (k : Int) w).mono ?_)
  · rw [exec_call (enters_of Tryd.func9 (by kernel_rfl) rfl) hop]
    simp only [List.map_toArray, List.map_cons, List.map_nil, v32, v33]
    try rfl
  rintro e w' ⟨rfl, hb⟩
  exact ⟨_, rfl, hb, rfl⟩
theorem sbSt5 (hR : sbRows S T b5 b6 k w0 t) (h : At sbOps 81 (sbTab S T b5 b6 k w0 t) (sbBase S T b5 b6 k w0 t) (fun w => Inv2 w0 b5 b6 S T w) l a w) (hd : ∀ o : Oper, sbOps[5]? = some o → ∀ e ∈ o.after.toList, Region.binds .any e = true → l.getD e.on false = true) : wpOp Tryd.prog sbOps Q 5 (At sbOps 81 (sbTab S T b5 b6 k w0 t) (sbBase S T b5 b6 k w0 t) (fun w => Inv2 w0 b5 b6 S T w) (l.setIfInBounds 5 true)) a w := by
  have hown : ownAt sbOps 81 (sbBase S T b5 b6 k w0 t) 5 35 := ownAt_of (by kernel_rfl) rfl
  have hH := sbHold S T b5 b6 k w0 t
  obtain ⟨o, ho⟩ : ∃ o, sbOps[5]? = some o := Option.isSome_iff_exists.1 (by kernel_rfl)
  have hop : o.op = Op.load 24 (Operand.tmp 6) := op_of ho (by kernel_rfl)
  have hg : guardOk sbOps a o := h.guard1 (ownAt_of (i := 1) (d := 31) (by kernel_rfl) rfl) (guard_of ho (g := some (1, true)) (by kernel_rfl)) (dep hd 1 (by kernel_rfl)) rfl
  have v6 : a.eval (.tmp 6) = .pointer (some ⟨b6, 0, none⟩) := (h.fixed 6 (t 6) rfl).trans hR.t6
  exact h.yields1 hH ho hown hg (v := sv T) (w' := w) (by simp only [execOp, hop, v6]; simp only [Sem.run_bind, load_set (h.hold.2.1), Result.andThen_ok, Sem.run_pure]) (Below.refl _ _) rfl
theorem sbSt6 (hR : sbRows S T b5 b6 k w0 t) (h : At sbOps 81 (sbTab S T b5 b6 k w0 t) (sbBase S T b5 b6 k w0 t) (fun w => Inv2 w0 b5 b6 S T w) l a w) (hd : ∀ o : Oper, sbOps[6]? = some o → ∀ e ∈ o.after.toList, Region.binds .any e = true → l.getD e.on false = true) : wpOp Tryd.prog sbOps Q 6 (At sbOps 81 (sbTab S T b5 b6 k w0 t) (sbBase S T b5 b6 k w0 t) (fun w => Inv2 w0 b5 b6 S T w) (l.setIfInBounds 6 true)) a w := by
  have hown : ownAt sbOps 81 (sbBase S T b5 b6 k w0 t) 6 36 := ownAt_of (by kernel_rfl) rfl
  have hH := sbHold S T b5 b6 k w0 t
  obtain ⟨o, ho⟩ : ∃ o, sbOps[6]? = some o := Option.isSome_iff_exists.1 (by kernel_rfl)
  have hop : o.op = Op.move (Operand.tmp 8) := op_of ho (by kernel_rfl)
  have hg : guardOk sbOps a o := h.guard1 (ownAt_of (i := 1) (d := 31) (by kernel_rfl) rfl) (guard_of ho (g := some (1, true)) (by kernel_rfl)) (dep hd 1 (by kernel_rfl)) rfl
  have v8 : a.eval (.tmp 8) = .int .i64 (k : Int) := (h.fixed 8 (t 8) rfl).trans hR.t8
  exact h.yields1 hH ho hown hg (v := .int .i64 (k : Int)) (w' := w) (by simp only [execOp, hop, v8]; kernel_rfl) (Below.refl _ _) rfl
theorem sbSt7 (hR : sbRows S T b5 b6 k w0 t) (h : At sbOps 81 (sbTab S T b5 b6 k w0 t) (sbBase S T b5 b6 k w0 t) (fun w => Inv2 w0 b5 b6 S T w) l a w) (hd : ∀ o : Oper, sbOps[7]? = some o → ∀ e ∈ o.after.toList, Region.binds .any e = true → l.getD e.on false = true) : wpOp Tryd.prog sbOps Q 7 (At sbOps 81 (sbTab S T b5 b6 k w0 t) (sbBase S T b5 b6 k w0 t) (fun w => Inv2 w0 b5 b6 S T w) (l.setIfInBounds 7 true)) a w := by
  have hown : ownAt sbOps 81 (sbBase S T b5 b6 k w0 t) 7 37 := ownAt_of (by kernel_rfl) rfl
  have hH := sbHold S T b5 b6 k w0 t
  obtain ⟨o, ho⟩ : ∃ o, sbOps[7]? = some o := Option.isSome_iff_exists.1 (by kernel_rfl)
  have hop : o.op = Op.call { callee := Callee.value (Operand.func 9), args := #[Operand.tmp 35, Operand.tmp 36], argTypes := #[24, 3] } := op_of ho (by kernel_rfl)
  have hg : guardOk sbOps a o := h.guard1 (ownAt_of (i := 1) (d := 31) (by kernel_rfl) rfl) (guard_of ho (g := some (1, true)) (by kernel_rfl)) (dep hd 1 (by kernel_rfl)) rfl
  have v35 : a.eval (.tmp 35) = sv T := h.done 5 35 (dep hd 5 (by kernel_rfl)) (by kernel_rfl)
  have v36 : a.eval (.tmp 36) = .int .i64 (k : Int) := h.done 6 36 (dep hd 6 (by kernel_rfl)) (by kernel_rfl)
  refine h.calls1 hH ho hown hg (f := 9) (args := #[sv T, .int .i64 (k : Int)]) ?_ ((has_any T (k : Int) w).mono ?_)
  · rw [exec_call (enters_of Tryd.func9 (by kernel_rfl) rfl) hop]
    simp only [List.map_toArray, List.map_cons, List.map_nil, v35, v36]
    try rfl
  rintro e w' ⟨rfl, hb⟩
  exact ⟨_, rfl, hb, rfl⟩
theorem sbSt8 (hR : sbRows S T b5 b6 k w0 t) (h : At sbOps 81 (sbTab S T b5 b6 k w0 t) (sbBase S T b5 b6 k w0 t) (fun w => Inv2 w0 b5 b6 S T w) l a w) (hd : ∀ o : Oper, sbOps[8]? = some o → ∀ e ∈ o.after.toList, Region.binds .any e = true → l.getD e.on false = true) : wpOp Tryd.prog sbOps Q 8 (At sbOps 81 (sbTab S T b5 b6 k w0 t) (sbBase S T b5 b6 k w0 t) (fun w => Inv2 w0 b5 b6 S T w) (l.setIfInBounds 8 true)) a w := by
  have hown : ownAt sbOps 81 (sbBase S T b5 b6 k w0 t) 8 38 := ownAt_of (by kernel_rfl) rfl
  have hH := sbHold S T b5 b6 k w0 t
  obtain ⟨o, ho⟩ : ∃ o, sbOps[8]? = some o := Option.isSome_iff_exists.1 (by kernel_rfl)
  have hop : o.op = Op.binOp BinOp.eql 4 (Operand.tmp 34) (Operand.tmp 37) 4 := op_of ho (by kernel_rfl)
  have hg : guardOk sbOps a o := h.guard1 (ownAt_of (i := 1) (d := 31) (by kernel_rfl) rfl) (guard_of ho (g := some (1, true)) (by kernel_rfl)) (dep hd 1 (by kernel_rfl)) rfl
  have v34 : a.eval (.tmp 34) = .bool (hasN S (k : Int)) := h.done 4 34 (dep hd 4 (by kernel_rfl)) (by kernel_rfl)
  have v37 : a.eval (.tmp 37) = .bool (hasN T (k : Int)) := h.done 7 37 (dep hd 7 (by kernel_rfl)) (by kernel_rfl)
  exact h.yields1 hH ho hown hg (v := .bool (hasN S (k : Int) == hasN T (k : Int))) (w' := w) (by simp only [execOp, hop, v34, v37]; go_simp) (Below.refl _ _) rfl
theorem sbSt9 (hR : sbRows S T b5 b6 k w0 t) (h : At sbOps 81 (sbTab S T b5 b6 k w0 t) (sbBase S T b5 b6 k w0 t) (fun w => Inv2 w0 b5 b6 S T w) l a w) (hd : ∀ o : Oper, sbOps[9]? = some o → ∀ e ∈ o.after.toList, Region.binds .any e = true → l.getD e.on false = true) : wpOp Tryd.prog sbOps Q 9 (At sbOps 81 (sbTab S T b5 b6 k w0 t) (sbBase S T b5 b6 k w0 t) (fun w => Inv2 w0 b5 b6 S T w) (l.setIfInBounds 9 true)) a w := by
  have hown : ownAt sbOps 81 (sbBase S T b5 b6 k w0 t) 9 39 := ownAt_of (by kernel_rfl) rfl
  have hH := sbHold S T b5 b6 k w0 t
  obtain ⟨o, ho⟩ : ∃ o, sbOps[9]? = some o := Option.isSome_iff_exists.1 (by kernel_rfl)
  have hop : o.op = Op.pick (Operand.tmp 31) (Operand.tmp 38) (Operand.const (Value.bool false)) := op_of ho (by kernel_rfl)
  have hg : guardOk sbOps a o := guard_none (guard_of ho (by kernel_rfl))
  have v31 : a.eval (.tmp 31) = .bool true := h.done 1 31 (dep hd 1 (by kernel_rfl)) (by kernel_rfl)
  have v38 : a.eval (.tmp 38) = .bool (hasN S (k : Int) == hasN T (k : Int)) := h.done 8 38 (dep hd 8 (by kernel_rfl)) (by kernel_rfl)
  exact h.yields1 hH ho hown hg (v := .bool (hasN S (k : Int) == hasN T (k : Int))) (w' := w) (by simp only [execOp, hop, v31, v38]; kernel_rfl) (Below.refl _ _) rfl
theorem sbSize : sbOps.size = 11 := by kernel_rfl
theorem sbStep (hR : sbRows S T b5 b6 k w0 t) (l : Array Bool) (a : Act) (w : World) (kk : Nat) (h : At sbOps 81 (sbTab S T b5 b6 k w0 t) (sbBase S T b5 b6 k w0 t) (fun w => Inv2 w0 b5 b6 S T w) l a w) (hi : kk < 10) (hd : ∀ o : Oper, sbOps[kk]? = some o → ∀ e ∈ o.after.toList, Region.binds .any e = true → l.getD e.on false = true) : wpOp Tryd.prog sbOps Q kk (At sbOps 81 (sbTab S T b5 b6 k w0 t) (sbBase S T b5 b6 k w0 t) (fun w => Inv2 w0 b5 b6 S T w) (l.setIfInBounds kk true)) a w := by
  match kk, hi, hd with
  | 0, _, hd => exact sbSt0 hR h hd
  | 1, _, hd => exact sbSt1 hR h hd
  | 2, _, hd => exact sbSt2 hR h hd
  | 3, _, hd => exact sbSt3 hR h hd
  | 4, _, hd => exact sbSt4 hR h hd
  | 5, _, hd => exact sbSt5 hR h hd
  | 6, _, hd => exact sbSt6 hR h hd
  | 7, _, hd => exact sbSt7 hR h hd
  | 8, _, hd => exact sbSt8 hR h hd
  | 9, _, hd => exact sbSt9 hR h hd
  | k + 10, hi, _ => omega
end
end Go.Proofs.YtidkakcnhgfpoaaDoor
