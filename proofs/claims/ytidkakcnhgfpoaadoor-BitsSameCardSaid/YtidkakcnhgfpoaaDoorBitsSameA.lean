/- BitsSame: the region that makes the two sets, by program (genSame.py). -/
import Derived.Test.YtidkakcnhgfpoaaDoorBitsVx
import Derived.Test.YtidkakcnhgfpoaaDoorBitsZ
namespace Go.Proofs.YtidkakcnhgfpoaaDoor
open Go.RowKit Go.Shelf
set_option linter.unusedVariables false
set_option maxRecDepth 100000

theorem IsL.take {w : World} {a : Option Addr} {c : Nat} {L : List Int} (h : IsL w a c L) (n : Nat) : IsL w a c (L.take n) := by
  obtain ⟨h1, h2, h3⟩ := h
  refine ⟨by rw [List.length_take]; omega, h2, ?_⟩
  rcases h3 with h3 | ⟨b, off, e, hb, hc⟩
  · left; rw [List.length_take]; omega
  · right
    refine ⟨b, off, e, hb, fun j hj => ?_⟩
    rw [List.length_take] at hj
    rw [hc j (by omega)]
    simp [List.getD, show j < n by omega]
theorem min_take (L : List Int) (h : (L.take 300).length ≤ 300) : (if (300 : Int) < (L.length : Int) then (300 : Int) else (L.length : Int)) = ((L.take 300).length : Int) := by
  rw [List.length_take]
  split <;> omega
/-- The operations of the region. -/
noncomputable def saOps : Array Oper := ((Tryd.f5.body).bind (regionOps 3)).getD #[]
def saTab (a0 a1 : Option Addr) (c0 c1 : Nat) (L0 L1 : List Int) (w0 : World) (t : Nat → Value) : Array Cl := #[.val (.slice a0 L0.length c0),
  .val (.slice a0 L0.length c0),
  .val (.int .i64 (L0.length : Int)),
  .val (.int .i64 ((L0.take 300).length : Int)),
  .val (.slice a0 (L0.take 300).length c0),
  .val (sv (addAll 0 (L0.take 300))),
  .val (.slice a1 L1.length c1),
  .val (.slice a1 L1.length c1),
  .val (.int .i64 (L1.length : Int)),
  .val (.int .i64 ((L1.take 300).length : Int)),
  .val (.slice a1 (L1.take 300).length c1),
  .val (sv (addAll 0 (L1.take 300))),
  .any, .any]
def saFree : List Nat := [0, 1, 2, 3, 4, 7, 8, 9, 10, 11, 12, 13, 26, 27, 28, 29, 30, 31, 32, 33, 34, 35, 36, 37, 38, 39, 40, 41, 42, 43, 44, 45, 46, 47, 48, 49, 50, 51, 52, 53, 54, 55, 56, 57, 58, 59, 60, 61, 62, 63, 64, 65, 66, 67, 68, 69, 70, 71, 72, 73, 74, 75, 76, 77, 78, 79, 80]
def saBase (t : Nat → Value) : Nat → Option Value := fun s => if saFree.contains s then some (t s) else none
/-- Below w0 all is as it was. -/
def saH (w0 : World) : World → Prop := fun w => Below w0.heap.size w0 w ∧ w0.heap.size ≤ w.heap.size
theorem saHold (w0 : World) : ∀ w w' : World, saH w0 w → Below w.heap.size w w' → saH w0 w' := fun w w' h k => ⟨below_then' h.1 k h.2, Nat.le_trans h.2 k.size⟩
structure saRows (a0 a1 : Option Addr) (c0 c1 : Nat) (L0 L1 : List Int) (w0 : World) (t : Nat → Value) : Prop where
  t0 : t 0 = .slice a0 L0.length c0
  t1 : t 1 = .slice a1 L1.length c1
  i0 : IsL w0 a0 c0 L0
  i1 : IsL w0 a1 c1 L1
  m0 : (L0.take 300).length ≤ c0
  m1 : (L1.take 300).length ≤ c1
  s0 : (L0.take 300).length ≤ 300
  s1 : (L1.take 300).length ≤ 300
section
variable {l : Array Bool} {a : Act} {w : World} {Q : Exit → Act → World → Prop} {a0 a1 : Option Addr} {c0 c1 : Nat} {L0 L1 : List Int} {w0 : World} {t : Nat → Value}
theorem saSt0 (hR : saRows a0 a1 c0 c1 L0 L1 w0 t) (h : At saOps 81 (saTab a0 a1 c0 c1 L0 L1 w0 t) (saBase t) (saH w0) l a w) (hx : Two 24 w0.heap.size 12 13 5 6 l a w) (hd : ∀ o : Oper, saOps[0]? = some o → ∀ e ∈ o.after.toList, Region.binds .any e = true → l.getD e.on false = true) : wpOp Tryd.prog saOps Q 0 (fun a w => At saOps 81 (saTab a0 a1 c0 c1 L0 L1 w0 t) (saBase t) (saH w0) (l.setIfInBounds 0 true) a w ∧ Two 24 w0.heap.size 12 13 5 6 (l.setIfInBounds 0 true) a w) a w := by
  obtain ⟨o, ho⟩ : ∃ o, saOps[0]? = some o := Option.isSome_iff_exists.1 (by kernel_rfl)
  have hop : o.op = Op.move (Operand.tmp 0) := op_of ho (by kernel_rfl)
  have hg : o.guard = none := guard_of ho (by kernel_rfl)
  have hown : ownAt saOps 81 (saBase t) 0 14 := ownAt_of (by kernel_rfl) rfl
  have v0 : a.eval (.tmp 0) = .slice a0 L0.length c0 := (h.fixed 0 (t 0) rfl).trans hR.t0
  exact h.yieldsX (X := Two 24 w0.heap.size 12 13 5 6) (saHold w0) ho hown hg (v := .slice a0 L0.length c0) (w' := w) (by simp only [execOp, hop, v0]; kernel_rfl) (Below.refl _ _) rfl (hx.keep (Below.refl _ _) (by decide) (by decide) (by decide) (by decide))
theorem saSt1 (hR : saRows a0 a1 c0 c1 L0 L1 w0 t) (h : At saOps 81 (saTab a0 a1 c0 c1 L0 L1 w0 t) (saBase t) (saH w0) l a w) (hx : Two 24 w0.heap.size 12 13 5 6 l a w) (hd : ∀ o : Oper, saOps[1]? = some o → ∀ e ∈ o.after.toList, Region.binds .any e = true → l.getD e.on false = true) : wpOp Tryd.prog saOps Q 1 (fun a w => At saOps 81 (saTab a0 a1 c0 c1 L0 L1 w0 t) (saBase t) (saH w0) (l.setIfInBounds 1 true) a w ∧ Two 24 w0.heap.size 12 13 5 6 (l.setIfInBounds 1 true) a w) a w := by
  obtain ⟨o, ho⟩ : ∃ o, saOps[1]? = some o := Option.isSome_iff_exists.1 (by kernel_rfl)
  have hop : o.op = Op.move (Operand.tmp 0) := op_of ho (by kernel_rfl)
  have hg : o.guard = none := guard_of ho (by kernel_rfl)
  have hown : ownAt saOps 81 (saBase t) 1 15 := ownAt_of (by kernel_rfl) rfl
  have v0 : a.eval (.tmp 0) = .slice a0 L0.length c0 := (h.fixed 0 (t 0) rfl).trans hR.t0
  exact h.yieldsX (X := Two 24 w0.heap.size 12 13 5 6) (saHold w0) ho hown hg (v := .slice a0 L0.length c0) (w' := w) (by simp only [execOp, hop, v0]; kernel_rfl) (Below.refl _ _) rfl (hx.keep (Below.refl _ _) (by decide) (by decide) (by decide) (by decide))
theorem saSt2 (hR : saRows a0 a1 c0 c1 L0 L1 w0 t) (h : At saOps 81 (saTab a0 a1 c0 c1 L0 L1 w0 t) (saBase t) (saH w0) l a w) (hx : Two 24 w0.heap.size 12 13 5 6 l a w) (hd : ∀ o : Oper, saOps[2]? = some o → ∀ e ∈ o.after.toList, Region.binds .any e = true → l.getD e.on false = true) : wpOp Tryd.prog saOps Q 2 (fun a w => At saOps 81 (saTab a0 a1 c0 c1 L0 L1 w0 t) (saBase t) (saH w0) (l.setIfInBounds 2 true) a w ∧ Two 24 w0.heap.size 12 13 5 6 (l.setIfInBounds 2 true) a w) a w := by
  obtain ⟨o, ho⟩ : ∃ o, saOps[2]? = some o := Option.isSome_iff_exists.1 (by kernel_rfl)
  have hop : o.op = Op.call { callee := Callee.builtin Builtin.len, args := #[Operand.tmp 15], argTypes := #[25] } := op_of ho (by kernel_rfl)
  have hg : o.guard = none := guard_of ho (by kernel_rfl)
  have hown : ownAt saOps 81 (saBase t) 2 16 := ownAt_of (by kernel_rfl) rfl
  have v15 : a.eval (.tmp 15) = .slice a0 L0.length c0 := h.done 1 15 (dep hd 1 (by kernel_rfl)) (by kernel_rfl)
  exact h.yieldsX (X := Two 24 w0.heap.size 12 13 5 6) (saHold w0) ho hown hg (v := .int .i64 (L0.length : Int)) (w' := w) (by simp only [execOp, hop]; simp only [resolve, List.map_toArray, List.map_cons, List.map_nil, v15]; go_simp) (Below.refl _ _) rfl (hx.keep (Below.refl _ _) (by decide) (by decide) (by decide) (by decide))
theorem saSt3 (hR : saRows a0 a1 c0 c1 L0 L1 w0 t) (h : At saOps 81 (saTab a0 a1 c0 c1 L0 L1 w0 t) (saBase t) (saH w0) l a w) (hx : Two 24 w0.heap.size 12 13 5 6 l a w) (hd : ∀ o : Oper, saOps[3]? = some o → ∀ e ∈ o.after.toList, Region.binds .any e = true → l.getD e.on false = true) : wpOp Tryd.prog saOps Q 3 (fun a w => At saOps 81 (saTab a0 a1 c0 c1 L0 L1 w0 t) (saBase t) (saH w0) (l.setIfInBounds 3 true) a w ∧ Two 24 w0.heap.size 12 13 5 6 (l.setIfInBounds 3 true) a w) a w := by
  obtain ⟨o, ho⟩ : ∃ o, saOps[3]? = some o := Option.isSome_iff_exists.1 (by kernel_rfl)
  have hop : o.op = Op.call { callee := Callee.builtin Builtin.min, args := #[Operand.tmp 16, Operand.const (Value.int IntKind.i64 300)], argTypes := #[3, 3] } := op_of ho (by kernel_rfl)
  have hg : o.guard = none := guard_of ho (by kernel_rfl)
  have hown : ownAt saOps 81 (saBase t) 3 17 := ownAt_of (by kernel_rfl) rfl
  have v16 : a.eval (.tmp 16) = .int .i64 (L0.length : Int) := h.done 2 16 (dep hd 2 (by kernel_rfl)) (by kernel_rfl)
  exact h.yieldsX (X := Two 24 w0.heap.size 12 13 5 6) (saHold w0) ho hown hg (v := .int .i64 ((L0.take 300).length : Int)) (w' := w) (by simp only [execOp, hop]; simp only [resolve, List.map_toArray, List.map_cons, List.map_nil, v16]; go_simp; rw [← List.length_take]; exact min_take L0 hR.s0) (Below.refl _ _) rfl (hx.keep (Below.refl _ _) (by decide) (by decide) (by decide) (by decide))
theorem saSt4 (hR : saRows a0 a1 c0 c1 L0 L1 w0 t) (h : At saOps 81 (saTab a0 a1 c0 c1 L0 L1 w0 t) (saBase t) (saH w0) l a w) (hx : Two 24 w0.heap.size 12 13 5 6 l a w) (hd : ∀ o : Oper, saOps[4]? = some o → ∀ e ∈ o.after.toList, Region.binds .any e = true → l.getD e.on false = true) : wpOp Tryd.prog saOps Q 4 (fun a w => At saOps 81 (saTab a0 a1 c0 c1 L0 L1 w0 t) (saBase t) (saH w0) (l.setIfInBounds 4 true) a w ∧ Two 24 w0.heap.size 12 13 5 6 (l.setIfInBounds 4 true) a w) a w := by
  obtain ⟨o, ho⟩ : ∃ o, saOps[4]? = some o := Option.isSome_iff_exists.1 (by kernel_rfl)
  have hop : o.op = Op.slice 25 (Operand.tmp 14) none (some (Operand.tmp 17)) none := op_of ho (by kernel_rfl)
  have hg : o.guard = none := guard_of ho (by kernel_rfl)
  have hown : ownAt saOps 81 (saBase t) 4 18 := ownAt_of (by kernel_rfl) rfl
  have v14 : a.eval (.tmp 14) = .slice a0 L0.length c0 := h.done 0 14 (dep hd 0 (by kernel_rfl)) (by kernel_rfl)
  have v17 : a.eval (.tmp 17) = .int .i64 ((L0.take 300).length : Int) := h.done 3 17 (dep hd 3 (by kernel_rfl)) (by kernel_rfl)
  have hm := hR.m0
  exact h.yieldsX (X := Two 24 w0.heap.size 12 13 5 6) (saHold w0) ho hown hg (v := .slice a0 (L0.take 300).length c0) (w' := w) (by simp only [execOp, hop, v14, v17, Option.map_some, Option.map_none]; generalize (L0.take 300).length = m at *; go_simp) (Below.refl _ _) rfl (hx.keep (Below.refl _ _) (by decide) (by decide) (by decide) (by decide))
theorem saSt5 (hR : saRows a0 a1 c0 c1 L0 L1 w0 t) (h : At saOps 81 (saTab a0 a1 c0 c1 L0 L1 w0 t) (saBase t) (saH w0) l a w) (hx : Two 24 w0.heap.size 12 13 5 6 l a w) (hd : ∀ o : Oper, saOps[5]? = some o → ∀ e ∈ o.after.toList, Region.binds .any e = true → l.getD e.on false = true) : wpOp Tryd.prog saOps Q 5 (fun a w => At saOps 81 (saTab a0 a1 c0 c1 L0 L1 w0 t) (saBase t) (saH w0) (l.setIfInBounds 5 true) a w ∧ Two 24 w0.heap.size 12 13 5 6 (l.setIfInBounds 5 true) a w) a w := by
  obtain ⟨o, ho⟩ : ∃ o, saOps[5]? = some o := Option.isSome_iff_exists.1 (by kernel_rfl)
  have hop : o.op = Op.call { callee := Callee.value (Operand.func 28), args := #[Operand.tmp 18], argTypes := #[25] } := op_of ho (by kernel_rfl)
  have hg : o.guard = none := guard_of ho (by kernel_rfl)
  have hown : ownAt saOps 81 (saBase t) 5 19 := ownAt_of (by kernel_rfl) rfl
  have v18 : a.eval (.tmp 18) = .slice a0 (L0.take 300).length c0 := h.done 4 18 (dep hd 4 (by kernel_rfl)) (by kernel_rfl)
  refine h.callsX (X := Two 24 w0.heap.size 12 13 5 6) (saHold w0) ho hown hg (f := 28) (args := #[.slice a0 (L0.take 300).length c0]) ?_ (fun v w' hb => (hx.keep (hb) (by decide) (by decide) (by decide) (by decide))) ((of_any a0 c0 (L0.take 300) w ((hR.i0.take 300).next h.hold.1) (by have := hR.s0; omega)).mono ?_)
  · rw [exec_call (enters_of Tryd.func28 (by kernel_rfl) rfl) hop]
    simp only [List.map_toArray, List.map_cons, List.map_nil, v18]
    try rfl
  rintro e w' ⟨rfl, hb⟩
  exact ⟨_, rfl, hb, rfl⟩
theorem saSt6 (hR : saRows a0 a1 c0 c1 L0 L1 w0 t) (h : At saOps 81 (saTab a0 a1 c0 c1 L0 L1 w0 t) (saBase t) (saH w0) l a w) (hx : Two 24 w0.heap.size 12 13 5 6 l a w) (hd : ∀ o : Oper, saOps[6]? = some o → ∀ e ∈ o.after.toList, Region.binds .any e = true → l.getD e.on false = true) : wpOp Tryd.prog saOps Q 6 (fun a w => At saOps 81 (saTab a0 a1 c0 c1 L0 L1 w0 t) (saBase t) (saH w0) (l.setIfInBounds 6 true) a w ∧ Two 24 w0.heap.size 12 13 5 6 (l.setIfInBounds 6 true) a w) a w := by
  obtain ⟨o, ho⟩ : ∃ o, saOps[6]? = some o := Option.isSome_iff_exists.1 (by kernel_rfl)
  have hop : o.op = Op.move (Operand.tmp 1) := op_of ho (by kernel_rfl)
  have hg : o.guard = none := guard_of ho (by kernel_rfl)
  have hown : ownAt saOps 81 (saBase t) 6 20 := ownAt_of (by kernel_rfl) rfl
  have v1 : a.eval (.tmp 1) = .slice a1 L1.length c1 := (h.fixed 1 (t 1) rfl).trans hR.t1
  exact h.yieldsX (X := Two 24 w0.heap.size 12 13 5 6) (saHold w0) ho hown hg (v := .slice a1 L1.length c1) (w' := w) (by simp only [execOp, hop, v1]; kernel_rfl) (Below.refl _ _) rfl (hx.keep (Below.refl _ _) (by decide) (by decide) (by decide) (by decide))
theorem saSt7 (hR : saRows a0 a1 c0 c1 L0 L1 w0 t) (h : At saOps 81 (saTab a0 a1 c0 c1 L0 L1 w0 t) (saBase t) (saH w0) l a w) (hx : Two 24 w0.heap.size 12 13 5 6 l a w) (hd : ∀ o : Oper, saOps[7]? = some o → ∀ e ∈ o.after.toList, Region.binds .any e = true → l.getD e.on false = true) : wpOp Tryd.prog saOps Q 7 (fun a w => At saOps 81 (saTab a0 a1 c0 c1 L0 L1 w0 t) (saBase t) (saH w0) (l.setIfInBounds 7 true) a w ∧ Two 24 w0.heap.size 12 13 5 6 (l.setIfInBounds 7 true) a w) a w := by
  obtain ⟨o, ho⟩ : ∃ o, saOps[7]? = some o := Option.isSome_iff_exists.1 (by kernel_rfl)
  have hop : o.op = Op.move (Operand.tmp 1) := op_of ho (by kernel_rfl)
  have hg : o.guard = none := guard_of ho (by kernel_rfl)
  have hown : ownAt saOps 81 (saBase t) 7 21 := ownAt_of (by kernel_rfl) rfl
  have v1 : a.eval (.tmp 1) = .slice a1 L1.length c1 := (h.fixed 1 (t 1) rfl).trans hR.t1
  exact h.yieldsX (X := Two 24 w0.heap.size 12 13 5 6) (saHold w0) ho hown hg (v := .slice a1 L1.length c1) (w' := w) (by simp only [execOp, hop, v1]; kernel_rfl) (Below.refl _ _) rfl (hx.keep (Below.refl _ _) (by decide) (by decide) (by decide) (by decide))
theorem saSt8 (hR : saRows a0 a1 c0 c1 L0 L1 w0 t) (h : At saOps 81 (saTab a0 a1 c0 c1 L0 L1 w0 t) (saBase t) (saH w0) l a w) (hx : Two 24 w0.heap.size 12 13 5 6 l a w) (hd : ∀ o : Oper, saOps[8]? = some o → ∀ e ∈ o.after.toList, Region.binds .any e = true → l.getD e.on false = true) : wpOp Tryd.prog saOps Q 8 (fun a w => At saOps 81 (saTab a0 a1 c0 c1 L0 L1 w0 t) (saBase t) (saH w0) (l.setIfInBounds 8 true) a w ∧ Two 24 w0.heap.size 12 13 5 6 (l.setIfInBounds 8 true) a w) a w := by
  obtain ⟨o, ho⟩ : ∃ o, saOps[8]? = some o := Option.isSome_iff_exists.1 (by kernel_rfl)
  have hop : o.op = Op.call { callee := Callee.builtin Builtin.len, args := #[Operand.tmp 21], argTypes := #[25] } := op_of ho (by kernel_rfl)
  have hg : o.guard = none := guard_of ho (by kernel_rfl)
  have hown : ownAt saOps 81 (saBase t) 8 22 := ownAt_of (by kernel_rfl) rfl
  have v21 : a.eval (.tmp 21) = .slice a1 L1.length c1 := h.done 7 21 (dep hd 7 (by kernel_rfl)) (by kernel_rfl)
  exact h.yieldsX (X := Two 24 w0.heap.size 12 13 5 6) (saHold w0) ho hown hg (v := .int .i64 (L1.length : Int)) (w' := w) (by simp only [execOp, hop]; simp only [resolve, List.map_toArray, List.map_cons, List.map_nil, v21]; go_simp) (Below.refl _ _) rfl (hx.keep (Below.refl _ _) (by decide) (by decide) (by decide) (by decide))
theorem saSt9 (hR : saRows a0 a1 c0 c1 L0 L1 w0 t) (h : At saOps 81 (saTab a0 a1 c0 c1 L0 L1 w0 t) (saBase t) (saH w0) l a w) (hx : Two 24 w0.heap.size 12 13 5 6 l a w) (hd : ∀ o : Oper, saOps[9]? = some o → ∀ e ∈ o.after.toList, Region.binds .any e = true → l.getD e.on false = true) : wpOp Tryd.prog saOps Q 9 (fun a w => At saOps 81 (saTab a0 a1 c0 c1 L0 L1 w0 t) (saBase t) (saH w0) (l.setIfInBounds 9 true) a w ∧ Two 24 w0.heap.size 12 13 5 6 (l.setIfInBounds 9 true) a w) a w := by
  obtain ⟨o, ho⟩ : ∃ o, saOps[9]? = some o := Option.isSome_iff_exists.1 (by kernel_rfl)
  have hop : o.op = Op.call { callee := Callee.builtin Builtin.min, args := #[Operand.tmp 22, Operand.const (Value.int IntKind.i64 300)], argTypes := #[3, 3] } := op_of ho (by kernel_rfl)
  have hg : o.guard = none := guard_of ho (by kernel_rfl)
  have hown : ownAt saOps 81 (saBase t) 9 23 := ownAt_of (by kernel_rfl) rfl
  have v22 : a.eval (.tmp 22) = .int .i64 (L1.length : Int) := h.done 8 22 (dep hd 8 (by kernel_rfl)) (by kernel_rfl)
  exact h.yieldsX (X := Two 24 w0.heap.size 12 13 5 6) (saHold w0) ho hown hg (v := .int .i64 ((L1.take 300).length : Int)) (w' := w) (by simp only [execOp, hop]; simp only [resolve, List.map_toArray, List.map_cons, List.map_nil, v22]; go_simp; rw [← List.length_take]; exact min_take L1 hR.s1) (Below.refl _ _) rfl (hx.keep (Below.refl _ _) (by decide) (by decide) (by decide) (by decide))
theorem saSt10 (hR : saRows a0 a1 c0 c1 L0 L1 w0 t) (h : At saOps 81 (saTab a0 a1 c0 c1 L0 L1 w0 t) (saBase t) (saH w0) l a w) (hx : Two 24 w0.heap.size 12 13 5 6 l a w) (hd : ∀ o : Oper, saOps[10]? = some o → ∀ e ∈ o.after.toList, Region.binds .any e = true → l.getD e.on false = true) : wpOp Tryd.prog saOps Q 10 (fun a w => At saOps 81 (saTab a0 a1 c0 c1 L0 L1 w0 t) (saBase t) (saH w0) (l.setIfInBounds 10 true) a w ∧ Two 24 w0.heap.size 12 13 5 6 (l.setIfInBounds 10 true) a w) a w := by
  obtain ⟨o, ho⟩ : ∃ o, saOps[10]? = some o := Option.isSome_iff_exists.1 (by kernel_rfl)
  have hop : o.op = Op.slice 25 (Operand.tmp 20) none (some (Operand.tmp 23)) none := op_of ho (by kernel_rfl)
  have hg : o.guard = none := guard_of ho (by kernel_rfl)
  have hown : ownAt saOps 81 (saBase t) 10 24 := ownAt_of (by kernel_rfl) rfl
  have v20 : a.eval (.tmp 20) = .slice a1 L1.length c1 := h.done 6 20 (dep hd 6 (by kernel_rfl)) (by kernel_rfl)
  have v23 : a.eval (.tmp 23) = .int .i64 ((L1.take 300).length : Int) := h.done 9 23 (dep hd 9 (by kernel_rfl)) (by kernel_rfl)
  have hm := hR.m1
  exact h.yieldsX (X := Two 24 w0.heap.size 12 13 5 6) (saHold w0) ho hown hg (v := .slice a1 (L1.take 300).length c1) (w' := w) (by simp only [execOp, hop, v20, v23, Option.map_some, Option.map_none]; generalize (L1.take 300).length = m at *; go_simp) (Below.refl _ _) rfl (hx.keep (Below.refl _ _) (by decide) (by decide) (by decide) (by decide))
theorem saSt11 (hR : saRows a0 a1 c0 c1 L0 L1 w0 t) (h : At saOps 81 (saTab a0 a1 c0 c1 L0 L1 w0 t) (saBase t) (saH w0) l a w) (hx : Two 24 w0.heap.size 12 13 5 6 l a w) (hd : ∀ o : Oper, saOps[11]? = some o → ∀ e ∈ o.after.toList, Region.binds .any e = true → l.getD e.on false = true) : wpOp Tryd.prog saOps Q 11 (fun a w => At saOps 81 (saTab a0 a1 c0 c1 L0 L1 w0 t) (saBase t) (saH w0) (l.setIfInBounds 11 true) a w ∧ Two 24 w0.heap.size 12 13 5 6 (l.setIfInBounds 11 true) a w) a w := by
  obtain ⟨o, ho⟩ : ∃ o, saOps[11]? = some o := Option.isSome_iff_exists.1 (by kernel_rfl)
  have hop : o.op = Op.call { callee := Callee.value (Operand.func 28), args := #[Operand.tmp 24], argTypes := #[25] } := op_of ho (by kernel_rfl)
  have hg : o.guard = none := guard_of ho (by kernel_rfl)
  have hown : ownAt saOps 81 (saBase t) 11 25 := ownAt_of (by kernel_rfl) rfl
  have v24 : a.eval (.tmp 24) = .slice a1 (L1.take 300).length c1 := h.done 10 24 (dep hd 10 (by kernel_rfl)) (by kernel_rfl)
  refine h.callsX (X := Two 24 w0.heap.size 12 13 5 6) (saHold w0) ho hown hg (f := 28) (args := #[.slice a1 (L1.take 300).length c1]) ?_ (fun v w' hb => (hx.keep (hb) (by decide) (by decide) (by decide) (by decide))) ((of_any a1 c1 (L1.take 300) w ((hR.i1.take 300).next h.hold.1) (by have := hR.s1; omega)).mono ?_)
  · rw [exec_call (enters_of Tryd.func28 (by kernel_rfl) rfl) hop]
    simp only [List.map_toArray, List.map_cons, List.map_nil, v24]
    try rfl
  rintro e w' ⟨rfl, hb⟩
  exact ⟨_, rfl, hb, rfl⟩
theorem saSt12 (hR : saRows a0 a1 c0 c1 L0 L1 w0 t) (h : At saOps 81 (saTab a0 a1 c0 c1 L0 L1 w0 t) (saBase t) (saH w0) l a w) (hx : Two 24 w0.heap.size 12 13 5 6 l a w) (hd : ∀ o : Oper, saOps[12]? = some o → ∀ e ∈ o.after.toList, Region.binds .any e = true → l.getD e.on false = true) : wpOp Tryd.prog saOps Q 12 (fun a w => At saOps 81 (saTab a0 a1 c0 c1 L0 L1 w0 t) (saBase t) (saH w0) (l.setIfInBounds 12 true) a w ∧ Two 24 w0.heap.size 12 13 5 6 (l.setIfInBounds 12 true) a w) a w := by
  obtain ⟨o, ho⟩ : ∃ o, saOps[12]? = some o := Option.isSome_iff_exists.1 (by kernel_rfl)
  have hop : o.op = Op.alloc 24 := op_of ho (by kernel_rfl)
  have hg : o.guard = none := guard_of ho (by kernel_rfl)
  have hown : ownAt saOps 81 (saBase t) 12 5 := ownAt_of (by kernel_rfl) rfl
  exact h.yieldsX (X := Two 24 w0.heap.size 12 13 5 6) (saHold w0) ho hown hg (v := .pointer (some ⟨w.heap.size, 0, none⟩)) (w' := w.alloc (.cells #[.int .u64 0, .int .u64 0, .int .u64 0, .int .u64 0] 24)) (by simp only [execOp, hop]; kernel_rfl) (below_alloc1 _ _) trivial (hx.make h.hold.2 (by decide) (by decide) (by rw [h.tmps]; decide))
theorem saSt13 (hR : saRows a0 a1 c0 c1 L0 L1 w0 t) (h : At saOps 81 (saTab a0 a1 c0 c1 L0 L1 w0 t) (saBase t) (saH w0) l a w) (hx : Two 24 w0.heap.size 12 13 5 6 l a w) (hd : ∀ o : Oper, saOps[13]? = some o → ∀ e ∈ o.after.toList, Region.binds .any e = true → l.getD e.on false = true) : wpOp Tryd.prog saOps Q 13 (fun a w => At saOps 81 (saTab a0 a1 c0 c1 L0 L1 w0 t) (saBase t) (saH w0) (l.setIfInBounds 13 true) a w ∧ Two 24 w0.heap.size 12 13 5 6 (l.setIfInBounds 13 true) a w) a w := by
  obtain ⟨o, ho⟩ : ∃ o, saOps[13]? = some o := Option.isSome_iff_exists.1 (by kernel_rfl)
  have hop : o.op = Op.alloc 24 := op_of ho (by kernel_rfl)
  have hg : o.guard = none := guard_of ho (by kernel_rfl)
  have hown : ownAt saOps 81 (saBase t) 13 6 := ownAt_of (by kernel_rfl) rfl
  exact h.yieldsX (X := Two 24 w0.heap.size 12 13 5 6) (saHold w0) ho hown hg (v := .pointer (some ⟨w.heap.size, 0, none⟩)) (w' := w.alloc (.cells #[.int .u64 0, .int .u64 0, .int .u64 0, .int .u64 0] 24)) (by simp only [execOp, hop]; kernel_rfl) (below_alloc1 _ _) trivial ((hx.swap.make h.hold.2 (by decide) (by decide) (by rw [h.tmps]; decide)).swap)
end
/-- One store is done; both. -/
structure SaEnd (last : Bool) (a0 a1 : Option Addr) (c0 c1 : Nat) (L0 L1 : List Int) (w0 : World) (t : Nat → Value) (l : Array Bool) (a : Act) (w : World) : Prop where
  sz : l.size = saOps.size
  all : ∀ j, j < 15 → l.getD j false = true
  end15 : l.getD 15 false = last
  tmps : a.tmps.size = 81
  defers : a.defers = []
  hold : saH w0 w
  fixed : ∀ s v, saBase t s = some v → a.tmps.getD s undef = v
  s25 : a.tmps.getD 25 undef = sv (addAll 0 (L1.take 300))
  blocks : ∃ b5 b6, a.tmps.getD 5 undef = .pointer (some ⟨b5, 0, none⟩) ∧ a.tmps.getD 6 undef = .pointer (some ⟨b6, 0, none⟩) ∧ w0.heap.size ≤ b6 ∧ b5 ≠ b6 ∧ SetIn 24 b5 (addAll 0 (L0.take 300)) w ∧ SetIn 24 b6 (if last then (addAll 0 (L1.take 300)) else 0) w
section
variable {l : Array Bool} {a : Act} {w : World} {Q : Exit → Act → World → Prop} {a0 a1 : Option Addr} {c0 c1 : Nat} {L0 L1 : List Int} {w0 : World} {t : Nat → Value}
theorem ArrIn.row_other {T b c : Nat} {x0 x1 x2 x3 : Value} {w : World} (h : ArrIn T b x0 x1 x2 x3 w) (hne : b ≠ c) (r : Array Value) : ArrIn T b x0 x1 x2 x3 (w.setRow c r) := (setRow_other w c b r hne).trans h
theorem saH_row {W : World} (h : saH w0 W) {b : Nat} (hb : w0.heap.size ≤ b) (r : Array Value) : saH w0 (W.setRow b r) := ⟨below_setRow h.1 hb r, (below_setRow h.1 hb r).size⟩
theorem store_step {i : Nat} {o : Oper} (ho : saOps[i]? = some o) (hg : o.guard = none) (hdn : o.dst = none) {w' : World} (hrun : (execOp a.eval o).run Tryd.prog w = .ok .skip w') {R : Act → World → Prop} (hr : R a w') : wpOp Tryd.prog saOps Q i R a w := by
  unfold wpOp
  rw [ho]
  simp only
  rw [if_pos (show Region.wanted o (yielded saOps a.tmps) = true from guard_none hg)]
  left
  unfold Oper.wp
  rw [hrun]
  show R (a.put o.dst undef) w'
  rw [hdn]
  exact hr
theorem saSt14 (hR : saRows a0 a1 c0 c1 L0 L1 w0 t) (h : At saOps 81 (saTab a0 a1 c0 c1 L0 L1 w0 t) (saBase t) (saH w0) l a w) (hx : Two 24 w0.heap.size 12 13 5 6 l a w) (e15 : l.getD 15 false = false) (hd : True) (hall : ∀ j, j < 14 → l.getD j false = true) : wpOp Tryd.prog saOps Q 14 (SaEnd false a0 a1 c0 c1 L0 L1 w0 t (l.setIfInBounds 14 true)) a w := by
  obtain ⟨o, ho⟩ : ∃ o, saOps[14]? = some o := Option.isSome_iff_exists.1 (by kernel_rfl)
  have hop : o.op = Op.store 24 (Operand.tmp 5) (Operand.tmp 19) := op_of ho (by kernel_rfl)
  have hg : o.guard = none := guard_of ho (by kernel_rfl)
  have hdn : o.dst = none := by have : (saOps[14]?).bind (·.dst) = none := by kernel_rfl
                                rw [ho] at this; simpa using this
  have v19 : a.eval (.tmp 19) = sv (addAll 0 (L0.take 300)) := h.done 5 19 (hall 5 (by omega)) (by kernel_rfl)
  have v25 : a.eval (.tmp 25) = sv (addAll 0 (L1.take 300)) := h.done 11 25 (hall 11 (by omega)) (by kernel_rfl)
  obtain ⟨b5, e5, hb5, z5⟩ := hx.one (hall 12 (by omega))
  obtain ⟨b6, e6, hb6, z6⟩ := hx.two (hall 13 (by omega))
  have hne : b5 ≠ b6 := fun e => hx.far (hall 12 (by omega)) (hall 13 (by omega)) (by rw [e5, e6, e])
  have v5 : a.eval (.tmp 5) = .pointer (some ⟨b5, 0, none⟩) := e5
  refine store_step ho hg hdn (w' := w.setRow b5 #[.int .u64 (wd (addAll 0 (L0.take 300)) 0 : Int), .int .u64 (wd (addAll 0 (L0.take 300)) 1 : Int), .int .u64 (wd (addAll 0 (L0.take 300)) 2 : Int), .int .u64 (wd (addAll 0 (L0.take 300)) 3 : Int)]) ?_ ?_
  · simp only [execOp, hop, v5, v19, Sem.run_bind, store_set z5, Result.andThen_ok, Sem.run_pure]
  · refine ⟨by rw [Array.size_setIfInBounds]; exact h.sz, fun j hj => ?_, by rw [getD_set _ _ _ _ (by decide)]; exact e15, h.tmps, h.defers, saH_row h.hold hb5 _, h.fixed, v25, b5, b6, e5, e6, hb6, hne, ArrIn.set z5 _ _ _ _, ?_⟩
    · by_cases hj4 : j = 14
      · rw [hj4]; exact getD_set_same _ _ _ (by rw [h.sz]; decide +kernel)
      · rw [getD_set _ _ _ _ hj4]; exact hall j (by omega)
    · have e0 : ∀ k, ((wd 0 k : Nat) : Int) = 0 := fun k => by simp [wd]
      rw [if_neg (by decide)]
      unfold SetIn
      rw [e0, e0, e0, e0]
      exact ArrIn.row_other z6 hne.symm _
theorem saSt15 (h : SaEnd false a0 a1 c0 c1 L0 L1 w0 t l a w) : wpOp Tryd.prog saOps Q 15 (SaEnd true a0 a1 c0 c1 L0 L1 w0 t (l.setIfInBounds 15 true)) a w := by
  obtain ⟨o, ho⟩ : ∃ o, saOps[15]? = some o := Option.isSome_iff_exists.1 (by kernel_rfl)
  have hop : o.op = Op.store 24 (Operand.tmp 6) (Operand.tmp 25) := op_of ho (by kernel_rfl)
  have hg : o.guard = none := guard_of ho (by kernel_rfl)
  have hdn : o.dst = none := by have : (saOps[15]?).bind (·.dst) = none := by kernel_rfl
                                rw [ho] at this; simpa using this
  have v25 : a.eval (.tmp 25) = sv (addAll 0 (L1.take 300)) := h.s25
  obtain ⟨b5, b6, e5, e6, hb6, hne, z5, z6⟩ := h.blocks
  have v6 : a.eval (.tmp 6) = .pointer (some ⟨b6, 0, none⟩) := e6
  refine store_step ho hg hdn (w' := w.setRow b6 #[.int .u64 (wd (addAll 0 (L1.take 300)) 0 : Int), .int .u64 (wd (addAll 0 (L1.take 300)) 1 : Int), .int .u64 (wd (addAll 0 (L1.take 300)) 2 : Int), .int .u64 (wd (addAll 0 (L1.take 300)) 3 : Int)]) ?_ ?_
  · simp only [execOp, hop, v6, v25, Sem.run_bind, store_set z6, Result.andThen_ok, Sem.run_pure]
  · refine ⟨by rw [Array.size_setIfInBounds]; exact h.sz, fun j hj => by rw [getD_set _ _ _ _ (by omega)]; exact h.all j hj, getD_set_same _ _ _ (by rw [h.sz]; decide +kernel), h.tmps, h.defers, saH_row h.hold hb6 _, h.fixed, h.s25, b5, b6, e5, e6, hb6, hne, ArrIn.row_other z5 hne _, ArrIn.set z6 _ _ _ _⟩
/-- What an operation that is done waits for is done. -/
def Closed (ops : Array Oper) (l : Array Bool) : Prop := ∀ (i : Nat) (o : Oper), ops[i]? = some o → l.getD i false = true → ∀ e ∈ o.after.toList, Region.binds .any e = true → l.getD e.on false = true
theorem getD_set_up {l : Array Bool} {i j : Nat} (h : l.getD j false = true) (hi : i < l.size) : (l.setIfInBounds i true).getD j false = true := by
  by_cases e : j = i
  · rw [e]; exact getD_set_same _ _ _ hi
  · rw [getD_set _ _ _ _ e]; exact h
theorem Closed.set {ops : Array Oper} {l : Array Bool} (h : Closed ops l) {i : Nat} (hi : i < l.size) (hd : ∀ o : Oper, ops[i]? = some o → ∀ e ∈ o.after.toList, Region.binds .any e = true → l.getD e.on false = true) : Closed ops (l.setIfInBounds i true) := by
  intro j o ho hl e he hb
  refine getD_set_up ?_ hi
  by_cases hji : j = i
  · subst hji; exact hd o ho e he hb
  · rw [getD_set _ _ _ _ hji] at hl
    exact h j o ho hl e he hb
theorem Closed.dep {ops : Array Oper} {l : Array Bool} (h : Closed ops l) {i : Nat} (hl : l.getD i false = true) (j : Nat) (hj : depOn ops i j = true) : l.getD j false = true := Go.Proofs.YtidkakcnhgfpoaaDoor.dep (fun o ho e he hb => h i o ho hl e he hb) j hj
/-- The family of the region. -/
def saA (a0 a1 : Option Addr) (c0 c1 : Nat) (L0 L1 : List Int) (w0 : World) (t : Nat → Value) (l : Array Bool) (a : Act) (w : World) : Prop :=
  (l.getD 14 false = false ∧ l.getD 15 false = false ∧ Closed saOps l ∧ At saOps 81 (saTab a0 a1 c0 c1 L0 L1 w0 t) (saBase t) (saH w0) l a w ∧ Two 24 w0.heap.size 12 13 5 6 l a w) ∨ SaEnd false a0 a1 c0 c1 L0 L1 w0 t l a w ∨ SaEnd true a0 a1 c0 c1 L0 L1 w0 t l a w
theorem saSize : saOps.size = 16 := by kernel_rfl
theorem done_of {i : Nat} (h : l.getD i true = false) (h' : l.getD i false = true) (hs : i < l.size) : False := by
  simp only [Array.getD_eq_getD_getElem?, Array.getElem?_eq_getElem hs, Option.getD_some] at h h'
  rw [h] at h'; cases h'
theorem saStep (hR : saRows a0 a1 c0 c1 L0 L1 w0 t) (l : Array Bool) (a : Act) (w : World) (i : Nat) (h : saA a0 a1 c0 c1 L0 L1 w0 t l a w) (hi : i < saOps.size) (hu : l.getD i true = false) (hd : ∀ o : Oper, saOps[i]? = some o → ∀ e ∈ o.after.toList, Region.binds .any e = true → l.getD e.on false = true) : wpOp Tryd.prog saOps Q i (saA a0 a1 c0 c1 L0 L1 w0 t (l.setIfInBounds i true)) a w := by
  rcases h with ⟨e14, e15, hC, h, hx⟩ | h | h
  · rw [saSize] at hi
    have up : ∀ (i : Nat), i ≠ 14 → i ≠ 15 → ∀ (a' : Act) (w' : World), Closed saOps (l.setIfInBounds i true) → (At saOps 81 (saTab a0 a1 c0 c1 L0 L1 w0 t) (saBase t) (saH w0) (l.setIfInBounds i true) a' w' ∧ Two 24 w0.heap.size 12 13 5 6 (l.setIfInBounds i true) a' w') → saA a0 a1 c0 c1 L0 L1 w0 t (l.setIfInBounds i true) a' w' := fun i h1 h2 a' w' hN h' => .inl ⟨by rw [getD_set _ _ _ _ h1.symm]; exact e14, by rw [getD_set _ _ _ _ h2.symm]; exact e15, hN, h'.1, h'.2⟩
    match i, hi, hd with
    | 0, _, hd => exact wpOp_mono (fun a' w' h' => up 0 (by decide) (by decide) a' w' (hC.set (by rw [h.sz, saSize]; decide) hd) h') (saSt0 hR h hx hd)
    | 1, _, hd => exact wpOp_mono (fun a' w' h' => up 1 (by decide) (by decide) a' w' (hC.set (by rw [h.sz, saSize]; decide) hd) h') (saSt1 hR h hx hd)
    | 2, _, hd => exact wpOp_mono (fun a' w' h' => up 2 (by decide) (by decide) a' w' (hC.set (by rw [h.sz, saSize]; decide) hd) h') (saSt2 hR h hx hd)
    | 3, _, hd => exact wpOp_mono (fun a' w' h' => up 3 (by decide) (by decide) a' w' (hC.set (by rw [h.sz, saSize]; decide) hd) h') (saSt3 hR h hx hd)
    | 4, _, hd => exact wpOp_mono (fun a' w' h' => up 4 (by decide) (by decide) a' w' (hC.set (by rw [h.sz, saSize]; decide) hd) h') (saSt4 hR h hx hd)
    | 5, _, hd => exact wpOp_mono (fun a' w' h' => up 5 (by decide) (by decide) a' w' (hC.set (by rw [h.sz, saSize]; decide) hd) h') (saSt5 hR h hx hd)
    | 6, _, hd => exact wpOp_mono (fun a' w' h' => up 6 (by decide) (by decide) a' w' (hC.set (by rw [h.sz, saSize]; decide) hd) h') (saSt6 hR h hx hd)
    | 7, _, hd => exact wpOp_mono (fun a' w' h' => up 7 (by decide) (by decide) a' w' (hC.set (by rw [h.sz, saSize]; decide) hd) h') (saSt7 hR h hx hd)
    | 8, _, hd => exact wpOp_mono (fun a' w' h' => up 8 (by decide) (by decide) a' w' (hC.set (by rw [h.sz, saSize]; decide) hd) h') (saSt8 hR h hx hd)
    | 9, _, hd => exact wpOp_mono (fun a' w' h' => up 9 (by decide) (by decide) a' w' (hC.set (by rw [h.sz, saSize]; decide) hd) h') (saSt9 hR h hx hd)
    | 10, _, hd => exact wpOp_mono (fun a' w' h' => up 10 (by decide) (by decide) a' w' (hC.set (by rw [h.sz, saSize]; decide) hd) h') (saSt10 hR h hx hd)
    | 11, _, hd => exact wpOp_mono (fun a' w' h' => up 11 (by decide) (by decide) a' w' (hC.set (by rw [h.sz, saSize]; decide) hd) h') (saSt11 hR h hx hd)
    | 12, _, hd => exact wpOp_mono (fun a' w' h' => up 12 (by decide) (by decide) a' w' (hC.set (by rw [h.sz, saSize]; decide) hd) h') (saSt12 hR h hx hd)
    | 13, _, hd => exact wpOp_mono (fun a' w' h' => up 13 (by decide) (by decide) a' w' (hC.set (by rw [h.sz, saSize]; decide) hd) h') (saSt13 hR h hx hd)
    | 14, _, hd =>
      have d11 := dep hd 11 (by kernel_rfl)
      have d10 := hC.dep d11 10 (by kernel_rfl)
      have d9 := hC.dep d10 9 (by kernel_rfl)
      have d8 := hC.dep d9 8 (by kernel_rfl)
      refine wpOp_mono (fun a' w' h' => .inr (.inl h')) (saSt14 hR h hx e15 trivial fun j hj => ?_)
      match j, hj with
      | 0, _ => exact dep hd 0 (by kernel_rfl)
      | 1, _ => exact dep hd 1 (by kernel_rfl)
      | 2, _ => exact dep hd 2 (by kernel_rfl)
      | 3, _ => exact dep hd 3 (by kernel_rfl)
      | 4, _ => exact dep hd 4 (by kernel_rfl)
      | 5, _ => exact dep hd 5 (by kernel_rfl)
      | 6, _ => exact hC.dep d10 6 (by kernel_rfl)
      | 7, _ => exact hC.dep d8 7 (by kernel_rfl)
      | 8, _ => exact d8
      | 9, _ => exact d9
      | 10, _ => exact d10
      | 11, _ => exact d11
      | 12, _ => exact dep hd 12 (by kernel_rfl)
      | 13, _ => exact dep hd 13 (by kernel_rfl)
    | 15, _, hd =>
      have := dep hd 14 (by kernel_rfl)
      rw [e14] at this; cases this
    | k + 16, hi, _ => omega
  · rw [saSize] at hi
    by_cases h15 : i = 15
    · subst h15
      exact wpOp_mono (fun a' w' h' => .inr (.inr h')) (saSt15 h)
    · exact (done_of hu (h.all i (by omega)) (by rw [h.sz, saSize]; omega)).elim
  · rw [saSize] at hi
    by_cases h15 : i = 15
    · subst h15
      exact (done_of hu h.end15 (by rw [h.sz, saSize]; omega)).elim
    · exact (done_of hu (h.all i (by omega)) (by rw [h.sz, saSize]; omega)).elim
/-- What the region leaves. -/
theorem sa_region {id : Nat} (hR : saRows a0 a1 c0 c1 L0 L1 w0 t) (hT : TabAt 0 Lib.deBruijn64tab w0) (h0 : 0 < w0.heap.size) (h1 : a.tmps.size = 81) (h2 : a.defers = []) (h3 : saH w0 w) (h4 : ∀ s, a.tmps.getD s undef = t s)
    (fin : ∀ a W b5 b6, a.tmps.size = 81 → a.defers = [] → (∀ s, saFree.contains s = true → a.tmps.getD s undef = t s) → a.tmps.getD 5 undef = .pointer (some ⟨b5, 0, none⟩) → a.tmps.getD 6 undef = .pointer (some ⟨b6, 0, none⟩) → Inv2 w0 b5 b6 (addAll 0 (L0.take 300)) (addAll 0 (L1.take 300)) W → Q .normal a W) : (Code.region id saOps true).wp Tryd.prog Q a w := by
  refine region_fam (by kernel_rfl) (earlier_of (by kernel_rfl)) (saA a0 a1 c0 c1 L0 L1 w0 t) ?_ ?_ (fun l a w i h hi hu hd => saStep hR l a w i h hi hu hd) ?_
  · rintro l a w (h | h | h)
    · exact h.2.2.2.1.sz
    · exact h.sz
    · exact h.sz
  · have hz : ∀ i b, (Array.replicate saOps.size false).getD i b = true → b = true := fun i b hl => by
      rw [Array.getD_eq_getD_getElem?] at hl
      by_cases hi : i < saOps.size
      · rw [Array.getElem?_replicate, if_pos hi] at hl; cases hl
      · rw [Array.getElem?_replicate, if_neg hi] at hl; exact hl
    have hf : ∀ i, (Array.replicate saOps.size false).getD i false = false := fun i => by
      cases e : (Array.replicate saOps.size false).getD i false with
      | false => rfl
      | true => exact (hz i false e).symm
    refine .inl ⟨hf 14, hf 15, fun i o ho hl => by (rw [hf] at hl; cases hl), At.begins h1 h2 ⟨h3.1.drew, h3.2⟩ (fun s v hs => ?_), ⟨fun hl => ?_, fun hl => ?_, fun hl => ?_⟩⟩
    · unfold saBase at hs
      split at hs
      · cases hs; exact h4 s
      · cases hs
    · rw [hf] at hl; cases hl
    · rw [hf] at hl; cases hl
    · rw [hf] at hl; cases hl
  · intro l a w h hall
    rw [saSize] at hall
    rcases h with ⟨e14, _⟩ | h | h
    · rw [hall 14 (by omega)] at e14; cases e14
    · have := h.end15; rw [hall 15 (by omega)] at this; cases this
    · obtain ⟨b5, b6, e5, e6, hb6, hne, z5, z6⟩ := h.blocks
      exact fin a w b5 b6 h.tmps h.defers (fun s hs => h.fixed s (t s) (by unfold saBase; rw [if_pos hs])) e5 e6 ⟨z5, z6, tab_next hT h.hold.1, Nat.lt_of_lt_of_le h0 h.hold.2, h.hold.2, h.hold.1⟩
end
end Go.Proofs.YtidkakcnhgfpoaaDoor
