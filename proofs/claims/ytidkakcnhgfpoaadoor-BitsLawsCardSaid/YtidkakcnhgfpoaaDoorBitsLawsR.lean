/- BitsLaws: the region of its answer, by program (genLaws.py). -/
import Derived.Test.YtidkakcnhgfpoaaDoorBitsZ
namespace Go.Proofs.YtidkakcnhgfpoaaDoor
open Go.RowKit Go.Shelf
set_option linter.unusedVariables false
set_option maxRecDepth 100000

/-- The operations of the region. -/
noncomputable def laOps : Array Oper := ((Tryd.f6.body).bind (regionOps 5)).getD #[]
/-- What each of them yields. -/
def laTab (N M b5 b6 b7 : Nat) (w0 : World) : Array Cl := #[.val (sv (N ||| M)),
  .val (sv M),
  .val (sv N),
  .val (sv (N ||| M)),
  .val (.bool true),
  .val (.bool true),
  .val (sv N),
  .val (sv M),
  .val (sv (N &&& M)),
  .val (sv M),
  .val (sv N),
  .val (sv (N &&& M)),
  .val (.bool true),
  .val (.bool true),
  .val (.bool true),
  .val (sv N),
  .val (sv M),
  .val (sv (less N M)),
  .val (sv N),
  .val (sv M),
  .val (sv (N &&& M)),
  .val (sv N),
  .val (sv N),
  .val (.bool true),
  .val (.bool true),
  .val (.bool true),
  .val (sv N),
  .val (sv M),
  .val (sv (less N M)),
  .val (sv M),
  .val (sv 0),
  .val (sv 0),
  .val (.bool true),
  .val (.bool true),
  .val (.bool true),
  .val (sv (N ||| M)),
  .val (.int .i64 ((plcI (N ||| M)).length : Int)),
  .val (sv N),
  .val (sv M),
  .val (sv (N &&& M)),
  .val (.int .i64 ((plcI (N &&& M)).length : Int)),
  .val (.int .i64 (((plcI (N ||| M)).length : Int) + ((plcI (N &&& M)).length : Int))),
  .val (sv N),
  .val (.int .i64 ((plcI N).length : Int)),
  .val (sv M),
  .val (.int .i64 ((plcI M).length : Int)),
  .val (.int .i64 (((plcI N).length : Int) + ((plcI M).length : Int))),
  .val (.bool true),
  .val (.bool true),
  .val (.bool true),
  .val (sv (N ||| M)),
  .val (sv M),
  .val (sv (less (N ||| M) M)),
  .val (sv M),
  .val (sv (N ||| M)),
  .val (sv (N ||| M)),
  .val (.bool true),
  .val (.bool true),
  .val (.bool true),
  .val (sv N),
  .val (sv N),
  .val (sv N),
  .val (sv N),
  .val (.bool true),
  .val (.bool true),
  .val (.bool true),
  .val (sv N),
  .val (sv N),
  .val (sv 0),
  .val (.int .i64 (-1)),
  .val (.bool true),
  .val (.bool true),
  .val (.bool true)]
def laBase (N M b5 b6 b7 : Nat) (w0 : World) : Nat → Option Value := fun s => if s = 5 then some (.pointer (some ⟨b5, 0, none⟩)) else if s = 6 then some (.pointer (some ⟨b6, 0, none⟩)) else if s = 7 then some (.pointer (some ⟨b7, 0, none⟩)) else none
theorem laOwn (N M b5 b6 b7 : Nat) (w0 : World) : ownSlots laOps 87 (laBase N M b5 b6 b7 w0) := own_of (bs := [5, 6, 7]) (by kernel_rfl) (fun d hd => by
  unfold laBase
  simp at hd
  simp [hd])
theorem laHold (N M b5 b6 b7 : Nat) (w0 : World) : ∀ w w' : World, (fun w => Inv2 w0 b5 b6 N M w ∧ SetIn 24 b7 (N ||| M) w) w → Below w.heap.size w w' → (fun w => Inv2 w0 b5 b6 N M w ∧ SetIn 24 b7 (N ||| M) w) w' := fun w w' h k => ⟨h.1.next k, ArrIn.next h.2 k⟩
/-- The closed facts that the region leans on. -/
structure laRows (N M b5 b6 b7 : Nat) (w0 : World) : Prop where
  fN : fits N
  fa : fits (N &&& M)
  fo : fits (N ||| M)
  fz : fits 0
  e1 : M ||| N = N ||| M
  e2 : M &&& N = N &&& M
  e3 : less N M ||| (N &&& M) = N
  e4 : less N M &&& M = 0
  e5 : less (N ||| M) M ||| M = N ||| M
  e6 : N ||| N = N
  e7 : less N N = 0
  e8 : nextN 0 0 = -1
  w1 : IntKind.i64.wrap (((plcI (N ||| M)).length : Int) + ((plcI (N &&& M)).length : Int)) = ((plcI (N ||| M)).length : Int) + ((plcI (N &&& M)).length : Int)
  w2 : IntKind.i64.wrap (((plcI N).length : Int) + ((plcI M).length : Int)) = ((plcI N).length : Int) + ((plcI M).length : Int)
  cnt : ((plcI (N ||| M)).length : Int) + ((plcI (N &&& M)).length : Int) = ((plcI N).length : Int) + ((plcI M).length : Int)
section
variable {l : Array Bool} {a : Act} {w : World} {Q : Exit → Act → World → Prop} {N M b5 b6 b7 : Nat} {w0 : World}
theorem laSt0 (hR : laRows N M b5 b6 b7 w0) (h : At laOps 87 (laTab N M b5 b6 b7 w0) (laBase N M b5 b6 b7 w0) (fun w => Inv2 w0 b5 b6 N M w ∧ SetIn 24 b7 (N ||| M) w) l a w) (hd : ∀ o : Oper, laOps[0]? = some o → ∀ e ∈ o.after.toList, Region.binds .any e = true → l.getD e.on false = true) : wpOp Tryd.prog laOps Q 0 (At laOps 87 (laTab N M b5 b6 b7 w0) (laBase N M b5 b6 b7 w0) (fun w => Inv2 w0 b5 b6 N M w ∧ SetIn 24 b7 (N ||| M) w) (l.setIfInBounds 0 true)) a w := by
  have hown := laOwn N M b5 b6 b7 w0
  have hH := laHold N M b5 b6 b7 w0
  obtain ⟨o, ho⟩ : ∃ o, laOps[0]? = some o := Option.isSome_iff_exists.1 (by kernel_rfl)
  have hop : o.op = Op.load 24 (Operand.tmp 7) := op_of ho (by kernel_rfl)
  have hg : guardOk laOps a o := guard_none (guard_of ho (by kernel_rfl))
  have v7 : a.eval (.tmp 7) = .pointer (some ⟨b7, 0, none⟩) := h.fixed 7 _ rfl
  exact h.yields hown hH ho hg (v := sv (N ||| M)) (w' := w) (by simp only [execOp, hop, v7]; simp only [Sem.run_bind, load_set (h.hold.2), Result.andThen_ok, Sem.run_pure]) (Below.refl _ _) rfl
theorem laSt1 (hR : laRows N M b5 b6 b7 w0) (h : At laOps 87 (laTab N M b5 b6 b7 w0) (laBase N M b5 b6 b7 w0) (fun w => Inv2 w0 b5 b6 N M w ∧ SetIn 24 b7 (N ||| M) w) l a w) (hd : ∀ o : Oper, laOps[1]? = some o → ∀ e ∈ o.after.toList, Region.binds .any e = true → l.getD e.on false = true) : wpOp Tryd.prog laOps Q 1 (At laOps 87 (laTab N M b5 b6 b7 w0) (laBase N M b5 b6 b7 w0) (fun w => Inv2 w0 b5 b6 N M w ∧ SetIn 24 b7 (N ||| M) w) (l.setIfInBounds 1 true)) a w := by
  have hown := laOwn N M b5 b6 b7 w0
  have hH := laHold N M b5 b6 b7 w0
  obtain ⟨o, ho⟩ : ∃ o, laOps[1]? = some o := Option.isSome_iff_exists.1 (by kernel_rfl)
  have hop : o.op = Op.load 24 (Operand.tmp 6) := op_of ho (by kernel_rfl)
  have hg : guardOk laOps a o := guard_none (guard_of ho (by kernel_rfl))
  have v6 : a.eval (.tmp 6) = .pointer (some ⟨b6, 0, none⟩) := h.fixed 6 _ rfl
  exact h.yields hown hH ho hg (v := sv M) (w' := w) (by simp only [execOp, hop, v6]; simp only [Sem.run_bind, load_set (h.hold.1.2.1), Result.andThen_ok, Sem.run_pure]) (Below.refl _ _) rfl
theorem laSt2 (hR : laRows N M b5 b6 b7 w0) (h : At laOps 87 (laTab N M b5 b6 b7 w0) (laBase N M b5 b6 b7 w0) (fun w => Inv2 w0 b5 b6 N M w ∧ SetIn 24 b7 (N ||| M) w) l a w) (hd : ∀ o : Oper, laOps[2]? = some o → ∀ e ∈ o.after.toList, Region.binds .any e = true → l.getD e.on false = true) : wpOp Tryd.prog laOps Q 2 (At laOps 87 (laTab N M b5 b6 b7 w0) (laBase N M b5 b6 b7 w0) (fun w => Inv2 w0 b5 b6 N M w ∧ SetIn 24 b7 (N ||| M) w) (l.setIfInBounds 2 true)) a w := by
  have hown := laOwn N M b5 b6 b7 w0
  have hH := laHold N M b5 b6 b7 w0
  obtain ⟨o, ho⟩ : ∃ o, laOps[2]? = some o := Option.isSome_iff_exists.1 (by kernel_rfl)
  have hop : o.op = Op.load 24 (Operand.tmp 5) := op_of ho (by kernel_rfl)
  have hg : guardOk laOps a o := guard_none (guard_of ho (by kernel_rfl))
  have v5 : a.eval (.tmp 5) = .pointer (some ⟨b5, 0, none⟩) := h.fixed 5 _ rfl
  exact h.yields hown hH ho hg (v := sv N) (w' := w) (by simp only [execOp, hop, v5]; simp only [Sem.run_bind, load_set (h.hold.1.1), Result.andThen_ok, Sem.run_pure]) (Below.refl _ _) rfl
theorem laSt3 (hR : laRows N M b5 b6 b7 w0) (h : At laOps 87 (laTab N M b5 b6 b7 w0) (laBase N M b5 b6 b7 w0) (fun w => Inv2 w0 b5 b6 N M w ∧ SetIn 24 b7 (N ||| M) w) l a w) (hd : ∀ o : Oper, laOps[3]? = some o → ∀ e ∈ o.after.toList, Region.binds .any e = true → l.getD e.on false = true) : wpOp Tryd.prog laOps Q 3 (At laOps 87 (laTab N M b5 b6 b7 w0) (laBase N M b5 b6 b7 w0) (fun w => Inv2 w0 b5 b6 N M w ∧ SetIn 24 b7 (N ||| M) w) (l.setIfInBounds 3 true)) a w := by
  have hown := laOwn N M b5 b6 b7 w0
  have hH := laHold N M b5 b6 b7 w0
  obtain ⟨o, ho⟩ : ∃ o, laOps[3]? = some o := Option.isSome_iff_exists.1 (by kernel_rfl)
  have hop : o.op = Op.call { callee := Callee.value (Operand.func 24), args := #[Operand.tmp 16, Operand.tmp 17], argTypes := #[24, 24] } := op_of ho (by kernel_rfl)
  have hg : guardOk laOps a o := guard_none (guard_of ho (by kernel_rfl))
  have v16 : a.eval (.tmp 16) = sv M := h.done 1 16 (dep hd 1 (by kernel_rfl)) (by kernel_rfl)
  have v17 : a.eval (.tmp 17) = sv N := h.done 2 17 (dep hd 2 (by kernel_rfl)) (by kernel_rfl)
  refine h.calls hown hH ho hg (f := 24) (args := #[sv M, sv N]) ?_ ((or_is M N (N ||| M) hR.e1 w).mono ?_)
  · rw [exec_call (enters_of Tryd.func24 (by kernel_rfl) rfl) hop]
    simp only [List.map_toArray, List.map_cons, List.map_nil, v16, v17]
    try rfl
  rintro e w' ⟨rfl, hb⟩
  exact ⟨_, rfl, hb, rfl⟩
theorem laSt4 (hR : laRows N M b5 b6 b7 w0) (h : At laOps 87 (laTab N M b5 b6 b7 w0) (laBase N M b5 b6 b7 w0) (fun w => Inv2 w0 b5 b6 N M w ∧ SetIn 24 b7 (N ||| M) w) l a w) (hd : ∀ o : Oper, laOps[4]? = some o → ∀ e ∈ o.after.toList, Region.binds .any e = true → l.getD e.on false = true) : wpOp Tryd.prog laOps Q 4 (At laOps 87 (laTab N M b5 b6 b7 w0) (laBase N M b5 b6 b7 w0) (fun w => Inv2 w0 b5 b6 N M w ∧ SetIn 24 b7 (N ||| M) w) (l.setIfInBounds 4 true)) a w := by
  have hown := laOwn N M b5 b6 b7 w0
  have hH := laHold N M b5 b6 b7 w0
  obtain ⟨o, ho⟩ : ∃ o, laOps[4]? = some o := Option.isSome_iff_exists.1 (by kernel_rfl)
  have hop : o.op = Op.binOp BinOp.eql 24 (Operand.tmp 15) (Operand.tmp 18) 24 := op_of ho (by kernel_rfl)
  have hg : guardOk laOps a o := guard_none (guard_of ho (by kernel_rfl))
  have v15 : a.eval (.tmp 15) = sv (N ||| M) := h.done 0 15 (dep hd 0 (by kernel_rfl)) (by kernel_rfl)
  have v18 : a.eval (.tmp 18) = sv (N ||| M) := h.done 3 18 (dep hd 3 (by kernel_rfl)) (by kernel_rfl)
  exact h.yields hown hH ho hg (v := .bool true) (w' := w) (by simp only [execOp, hop, v15, v18]; simp only [Sem.run_bind, run_eqGuard_agg (P := Tryd.prog) (w := w) _ _ _ _ _ _ eqg, run_eql_struct, equal_same (N ||| M) hR.fo, Result.andThen_ok, Sem.run_pure]) (Below.refl _ _) rfl
theorem laSt5 (hR : laRows N M b5 b6 b7 w0) (h : At laOps 87 (laTab N M b5 b6 b7 w0) (laBase N M b5 b6 b7 w0) (fun w => Inv2 w0 b5 b6 N M w ∧ SetIn 24 b7 (N ||| M) w) l a w) (hd : ∀ o : Oper, laOps[5]? = some o → ∀ e ∈ o.after.toList, Region.binds .any e = true → l.getD e.on false = true) : wpOp Tryd.prog laOps Q 5 (At laOps 87 (laTab N M b5 b6 b7 w0) (laBase N M b5 b6 b7 w0) (fun w => Inv2 w0 b5 b6 N M w ∧ SetIn 24 b7 (N ||| M) w) (l.setIfInBounds 5 true)) a w := by
  have hown := laOwn N M b5 b6 b7 w0
  have hH := laHold N M b5 b6 b7 w0
  obtain ⟨o, ho⟩ : ∃ o, laOps[5]? = some o := Option.isSome_iff_exists.1 (by kernel_rfl)
  have hop : o.op = Op.move (Operand.tmp 19) := op_of ho (by kernel_rfl)
  have hg : guardOk laOps a o := guard_none (guard_of ho (by kernel_rfl))
  have v19 : a.eval (.tmp 19) = .bool true := h.done 4 19 (dep hd 4 (by kernel_rfl)) (by kernel_rfl)
  exact h.yields hown hH ho hg (v := .bool true) (w' := w) (by simp only [execOp, hop, v19]; kernel_rfl) (Below.refl _ _) rfl
theorem laSt6 (hR : laRows N M b5 b6 b7 w0) (h : At laOps 87 (laTab N M b5 b6 b7 w0) (laBase N M b5 b6 b7 w0) (fun w => Inv2 w0 b5 b6 N M w ∧ SetIn 24 b7 (N ||| M) w) l a w) (hd : ∀ o : Oper, laOps[6]? = some o → ∀ e ∈ o.after.toList, Region.binds .any e = true → l.getD e.on false = true) : wpOp Tryd.prog laOps Q 6 (At laOps 87 (laTab N M b5 b6 b7 w0) (laBase N M b5 b6 b7 w0) (fun w => Inv2 w0 b5 b6 N M w ∧ SetIn 24 b7 (N ||| M) w) (l.setIfInBounds 6 true)) a w := by
  have hown := laOwn N M b5 b6 b7 w0
  have hH := laHold N M b5 b6 b7 w0
  obtain ⟨o, ho⟩ : ∃ o, laOps[6]? = some o := Option.isSome_iff_exists.1 (by kernel_rfl)
  have hop : o.op = Op.load 24 (Operand.tmp 5) := op_of ho (by kernel_rfl)
  have hg : guardOk laOps a o := h.guard hown (guard_of ho (g := some (5, true)) (by kernel_rfl)) (dep hd 5 (by kernel_rfl)) rfl (by decide +kernel)
  have v5 : a.eval (.tmp 5) = .pointer (some ⟨b5, 0, none⟩) := h.fixed 5 _ rfl
  exact h.yields hown hH ho hg (v := sv N) (w' := w) (by simp only [execOp, hop, v5]; simp only [Sem.run_bind, load_set (h.hold.1.1), Result.andThen_ok, Sem.run_pure]) (Below.refl _ _) rfl
theorem laSt7 (hR : laRows N M b5 b6 b7 w0) (h : At laOps 87 (laTab N M b5 b6 b7 w0) (laBase N M b5 b6 b7 w0) (fun w => Inv2 w0 b5 b6 N M w ∧ SetIn 24 b7 (N ||| M) w) l a w) (hd : ∀ o : Oper, laOps[7]? = some o → ∀ e ∈ o.after.toList, Region.binds .any e = true → l.getD e.on false = true) : wpOp Tryd.prog laOps Q 7 (At laOps 87 (laTab N M b5 b6 b7 w0) (laBase N M b5 b6 b7 w0) (fun w => Inv2 w0 b5 b6 N M w ∧ SetIn 24 b7 (N ||| M) w) (l.setIfInBounds 7 true)) a w := by
  have hown := laOwn N M b5 b6 b7 w0
  have hH := laHold N M b5 b6 b7 w0
  obtain ⟨o, ho⟩ : ∃ o, laOps[7]? = some o := Option.isSome_iff_exists.1 (by kernel_rfl)
  have hop : o.op = Op.load 24 (Operand.tmp 6) := op_of ho (by kernel_rfl)
  have hg : guardOk laOps a o := h.guard hown (guard_of ho (g := some (5, true)) (by kernel_rfl)) (dep hd 5 (by kernel_rfl)) rfl (by decide +kernel)
  have v6 : a.eval (.tmp 6) = .pointer (some ⟨b6, 0, none⟩) := h.fixed 6 _ rfl
  exact h.yields hown hH ho hg (v := sv M) (w' := w) (by simp only [execOp, hop, v6]; simp only [Sem.run_bind, load_set (h.hold.1.2.1), Result.andThen_ok, Sem.run_pure]) (Below.refl _ _) rfl
theorem laSt8 (hR : laRows N M b5 b6 b7 w0) (h : At laOps 87 (laTab N M b5 b6 b7 w0) (laBase N M b5 b6 b7 w0) (fun w => Inv2 w0 b5 b6 N M w ∧ SetIn 24 b7 (N ||| M) w) l a w) (hd : ∀ o : Oper, laOps[8]? = some o → ∀ e ∈ o.after.toList, Region.binds .any e = true → l.getD e.on false = true) : wpOp Tryd.prog laOps Q 8 (At laOps 87 (laTab N M b5 b6 b7 w0) (laBase N M b5 b6 b7 w0) (fun w => Inv2 w0 b5 b6 N M w ∧ SetIn 24 b7 (N ||| M) w) (l.setIfInBounds 8 true)) a w := by
  have hown := laOwn N M b5 b6 b7 w0
  have hH := laHold N M b5 b6 b7 w0
  obtain ⟨o, ho⟩ : ∃ o, laOps[8]? = some o := Option.isSome_iff_exists.1 (by kernel_rfl)
  have hop : o.op = Op.call { callee := Callee.value (Operand.func 22), args := #[Operand.tmp 21, Operand.tmp 22], argTypes := #[24, 24] } := op_of ho (by kernel_rfl)
  have hg : guardOk laOps a o := h.guard hown (guard_of ho (g := some (5, true)) (by kernel_rfl)) (dep hd 5 (by kernel_rfl)) rfl (by decide +kernel)
  have v21 : a.eval (.tmp 21) = sv N := h.done 6 21 (dep hd 6 (by kernel_rfl)) (by kernel_rfl)
  have v22 : a.eval (.tmp 22) = sv M := h.done 7 22 (dep hd 7 (by kernel_rfl)) (by kernel_rfl)
  refine h.calls hown hH ho hg (f := 22) (args := #[sv N, sv M]) ?_ ((and_is N M (N &&& M) rfl w).mono ?_)
  · rw [exec_call (enters_of Tryd.func22 (by kernel_rfl) rfl) hop]
    simp only [List.map_toArray, List.map_cons, List.map_nil, v21, v22]
    try rfl
  rintro e w' ⟨rfl, hb⟩
  exact ⟨_, rfl, hb, rfl⟩
theorem laSt9 (hR : laRows N M b5 b6 b7 w0) (h : At laOps 87 (laTab N M b5 b6 b7 w0) (laBase N M b5 b6 b7 w0) (fun w => Inv2 w0 b5 b6 N M w ∧ SetIn 24 b7 (N ||| M) w) l a w) (hd : ∀ o : Oper, laOps[9]? = some o → ∀ e ∈ o.after.toList, Region.binds .any e = true → l.getD e.on false = true) : wpOp Tryd.prog laOps Q 9 (At laOps 87 (laTab N M b5 b6 b7 w0) (laBase N M b5 b6 b7 w0) (fun w => Inv2 w0 b5 b6 N M w ∧ SetIn 24 b7 (N ||| M) w) (l.setIfInBounds 9 true)) a w := by
  have hown := laOwn N M b5 b6 b7 w0
  have hH := laHold N M b5 b6 b7 w0
  obtain ⟨o, ho⟩ : ∃ o, laOps[9]? = some o := Option.isSome_iff_exists.1 (by kernel_rfl)
  have hop : o.op = Op.load 24 (Operand.tmp 6) := op_of ho (by kernel_rfl)
  have hg : guardOk laOps a o := h.guard hown (guard_of ho (g := some (5, true)) (by kernel_rfl)) (dep hd 5 (by kernel_rfl)) rfl (by decide +kernel)
  have v6 : a.eval (.tmp 6) = .pointer (some ⟨b6, 0, none⟩) := h.fixed 6 _ rfl
  exact h.yields hown hH ho hg (v := sv M) (w' := w) (by simp only [execOp, hop, v6]; simp only [Sem.run_bind, load_set (h.hold.1.2.1), Result.andThen_ok, Sem.run_pure]) (Below.refl _ _) rfl
theorem laSt10 (hR : laRows N M b5 b6 b7 w0) (h : At laOps 87 (laTab N M b5 b6 b7 w0) (laBase N M b5 b6 b7 w0) (fun w => Inv2 w0 b5 b6 N M w ∧ SetIn 24 b7 (N ||| M) w) l a w) (hd : ∀ o : Oper, laOps[10]? = some o → ∀ e ∈ o.after.toList, Region.binds .any e = true → l.getD e.on false = true) : wpOp Tryd.prog laOps Q 10 (At laOps 87 (laTab N M b5 b6 b7 w0) (laBase N M b5 b6 b7 w0) (fun w => Inv2 w0 b5 b6 N M w ∧ SetIn 24 b7 (N ||| M) w) (l.setIfInBounds 10 true)) a w := by
  have hown := laOwn N M b5 b6 b7 w0
  have hH := laHold N M b5 b6 b7 w0
  obtain ⟨o, ho⟩ : ∃ o, laOps[10]? = some o := Option.isSome_iff_exists.1 (by kernel_rfl)
  have hop : o.op = Op.load 24 (Operand.tmp 5) := op_of ho (by kernel_rfl)
  have hg : guardOk laOps a o := h.guard hown (guard_of ho (g := some (5, true)) (by kernel_rfl)) (dep hd 5 (by kernel_rfl)) rfl (by decide +kernel)
  have v5 : a.eval (.tmp 5) = .pointer (some ⟨b5, 0, none⟩) := h.fixed 5 _ rfl
  exact h.yields hown hH ho hg (v := sv N) (w' := w) (by simp only [execOp, hop, v5]; simp only [Sem.run_bind, load_set (h.hold.1.1), Result.andThen_ok, Sem.run_pure]) (Below.refl _ _) rfl
theorem laSt11 (hR : laRows N M b5 b6 b7 w0) (h : At laOps 87 (laTab N M b5 b6 b7 w0) (laBase N M b5 b6 b7 w0) (fun w => Inv2 w0 b5 b6 N M w ∧ SetIn 24 b7 (N ||| M) w) l a w) (hd : ∀ o : Oper, laOps[11]? = some o → ∀ e ∈ o.after.toList, Region.binds .any e = true → l.getD e.on false = true) : wpOp Tryd.prog laOps Q 11 (At laOps 87 (laTab N M b5 b6 b7 w0) (laBase N M b5 b6 b7 w0) (fun w => Inv2 w0 b5 b6 N M w ∧ SetIn 24 b7 (N ||| M) w) (l.setIfInBounds 11 true)) a w := by
  have hown := laOwn N M b5 b6 b7 w0
  have hH := laHold N M b5 b6 b7 w0
  obtain ⟨o, ho⟩ : ∃ o, laOps[11]? = some o := Option.isSome_iff_exists.1 (by kernel_rfl)
  have hop : o.op = Op.call { callee := Callee.value (Operand.func 22), args := #[Operand.tmp 24, Operand.tmp 25], argTypes := #[24, 24] } := op_of ho (by kernel_rfl)
  have hg : guardOk laOps a o := h.guard hown (guard_of ho (g := some (5, true)) (by kernel_rfl)) (dep hd 5 (by kernel_rfl)) rfl (by decide +kernel)
  have v24 : a.eval (.tmp 24) = sv M := h.done 9 24 (dep hd 9 (by kernel_rfl)) (by kernel_rfl)
  have v25 : a.eval (.tmp 25) = sv N := h.done 10 25 (dep hd 10 (by kernel_rfl)) (by kernel_rfl)
  refine h.calls hown hH ho hg (f := 22) (args := #[sv M, sv N]) ?_ ((and_is M N (N &&& M) hR.e2 w).mono ?_)
  · rw [exec_call (enters_of Tryd.func22 (by kernel_rfl) rfl) hop]
    simp only [List.map_toArray, List.map_cons, List.map_nil, v24, v25]
    try rfl
  rintro e w' ⟨rfl, hb⟩
  exact ⟨_, rfl, hb, rfl⟩
theorem laSt12 (hR : laRows N M b5 b6 b7 w0) (h : At laOps 87 (laTab N M b5 b6 b7 w0) (laBase N M b5 b6 b7 w0) (fun w => Inv2 w0 b5 b6 N M w ∧ SetIn 24 b7 (N ||| M) w) l a w) (hd : ∀ o : Oper, laOps[12]? = some o → ∀ e ∈ o.after.toList, Region.binds .any e = true → l.getD e.on false = true) : wpOp Tryd.prog laOps Q 12 (At laOps 87 (laTab N M b5 b6 b7 w0) (laBase N M b5 b6 b7 w0) (fun w => Inv2 w0 b5 b6 N M w ∧ SetIn 24 b7 (N ||| M) w) (l.setIfInBounds 12 true)) a w := by
  have hown := laOwn N M b5 b6 b7 w0
  have hH := laHold N M b5 b6 b7 w0
  obtain ⟨o, ho⟩ : ∃ o, laOps[12]? = some o := Option.isSome_iff_exists.1 (by kernel_rfl)
  have hop : o.op = Op.binOp BinOp.eql 24 (Operand.tmp 23) (Operand.tmp 26) 24 := op_of ho (by kernel_rfl)
  have hg : guardOk laOps a o := h.guard hown (guard_of ho (g := some (5, true)) (by kernel_rfl)) (dep hd 5 (by kernel_rfl)) rfl (by decide +kernel)
  have v23 : a.eval (.tmp 23) = sv (N &&& M) := h.done 8 23 (dep hd 8 (by kernel_rfl)) (by kernel_rfl)
  have v26 : a.eval (.tmp 26) = sv (N &&& M) := h.done 11 26 (dep hd 11 (by kernel_rfl)) (by kernel_rfl)
  exact h.yields hown hH ho hg (v := .bool true) (w' := w) (by simp only [execOp, hop, v23, v26]; simp only [Sem.run_bind, run_eqGuard_agg (P := Tryd.prog) (w := w) _ _ _ _ _ _ eqg, run_eql_struct, equal_same (N &&& M) hR.fa, Result.andThen_ok, Sem.run_pure]) (Below.refl _ _) rfl
theorem laSt13 (hR : laRows N M b5 b6 b7 w0) (h : At laOps 87 (laTab N M b5 b6 b7 w0) (laBase N M b5 b6 b7 w0) (fun w => Inv2 w0 b5 b6 N M w ∧ SetIn 24 b7 (N ||| M) w) l a w) (hd : ∀ o : Oper, laOps[13]? = some o → ∀ e ∈ o.after.toList, Region.binds .any e = true → l.getD e.on false = true) : wpOp Tryd.prog laOps Q 13 (At laOps 87 (laTab N M b5 b6 b7 w0) (laBase N M b5 b6 b7 w0) (fun w => Inv2 w0 b5 b6 N M w ∧ SetIn 24 b7 (N ||| M) w) (l.setIfInBounds 13 true)) a w := by
  have hown := laOwn N M b5 b6 b7 w0
  have hH := laHold N M b5 b6 b7 w0
  obtain ⟨o, ho⟩ : ∃ o, laOps[13]? = some o := Option.isSome_iff_exists.1 (by kernel_rfl)
  have hop : o.op = Op.pick (Operand.tmp 20) (Operand.tmp 27) (Operand.const (Value.bool false)) := op_of ho (by kernel_rfl)
  have hg : guardOk laOps a o := guard_none (guard_of ho (by kernel_rfl))
  have v20 : a.eval (.tmp 20) = .bool true := h.done 5 20 (dep hd 5 (by kernel_rfl)) (by kernel_rfl)
  have v27 : a.eval (.tmp 27) = .bool true := h.done 12 27 (dep hd 12 (by kernel_rfl)) (by kernel_rfl)
  exact h.yields hown hH ho hg (v := .bool true) (w' := w) (by simp only [execOp, hop, v20, v27]; kernel_rfl) (Below.refl _ _) rfl
theorem laSt14 (hR : laRows N M b5 b6 b7 w0) (h : At laOps 87 (laTab N M b5 b6 b7 w0) (laBase N M b5 b6 b7 w0) (fun w => Inv2 w0 b5 b6 N M w ∧ SetIn 24 b7 (N ||| M) w) l a w) (hd : ∀ o : Oper, laOps[14]? = some o → ∀ e ∈ o.after.toList, Region.binds .any e = true → l.getD e.on false = true) : wpOp Tryd.prog laOps Q 14 (At laOps 87 (laTab N M b5 b6 b7 w0) (laBase N M b5 b6 b7 w0) (fun w => Inv2 w0 b5 b6 N M w ∧ SetIn 24 b7 (N ||| M) w) (l.setIfInBounds 14 true)) a w := by
  have hown := laOwn N M b5 b6 b7 w0
  have hH := laHold N M b5 b6 b7 w0
  obtain ⟨o, ho⟩ : ∃ o, laOps[14]? = some o := Option.isSome_iff_exists.1 (by kernel_rfl)
  have hop : o.op = Op.move (Operand.tmp 28) := op_of ho (by kernel_rfl)
  have hg : guardOk laOps a o := guard_none (guard_of ho (by kernel_rfl))
  have v28 : a.eval (.tmp 28) = .bool true := h.done 13 28 (dep hd 13 (by kernel_rfl)) (by kernel_rfl)
  exact h.yields hown hH ho hg (v := .bool true) (w' := w) (by simp only [execOp, hop, v28]; kernel_rfl) (Below.refl _ _) rfl
theorem laSt15 (hR : laRows N M b5 b6 b7 w0) (h : At laOps 87 (laTab N M b5 b6 b7 w0) (laBase N M b5 b6 b7 w0) (fun w => Inv2 w0 b5 b6 N M w ∧ SetIn 24 b7 (N ||| M) w) l a w) (hd : ∀ o : Oper, laOps[15]? = some o → ∀ e ∈ o.after.toList, Region.binds .any e = true → l.getD e.on false = true) : wpOp Tryd.prog laOps Q 15 (At laOps 87 (laTab N M b5 b6 b7 w0) (laBase N M b5 b6 b7 w0) (fun w => Inv2 w0 b5 b6 N M w ∧ SetIn 24 b7 (N ||| M) w) (l.setIfInBounds 15 true)) a w := by
  have hown := laOwn N M b5 b6 b7 w0
  have hH := laHold N M b5 b6 b7 w0
  obtain ⟨o, ho⟩ : ∃ o, laOps[15]? = some o := Option.isSome_iff_exists.1 (by kernel_rfl)
  have hop : o.op = Op.load 24 (Operand.tmp 5) := op_of ho (by kernel_rfl)
  have hg : guardOk laOps a o := h.guard hown (guard_of ho (g := some (14, true)) (by kernel_rfl)) (dep hd 14 (by kernel_rfl)) rfl (by decide +kernel)
  have v5 : a.eval (.tmp 5) = .pointer (some ⟨b5, 0, none⟩) := h.fixed 5 _ rfl
  exact h.yields hown hH ho hg (v := sv N) (w' := w) (by simp only [execOp, hop, v5]; simp only [Sem.run_bind, load_set (h.hold.1.1), Result.andThen_ok, Sem.run_pure]) (Below.refl _ _) rfl
theorem laSt16 (hR : laRows N M b5 b6 b7 w0) (h : At laOps 87 (laTab N M b5 b6 b7 w0) (laBase N M b5 b6 b7 w0) (fun w => Inv2 w0 b5 b6 N M w ∧ SetIn 24 b7 (N ||| M) w) l a w) (hd : ∀ o : Oper, laOps[16]? = some o → ∀ e ∈ o.after.toList, Region.binds .any e = true → l.getD e.on false = true) : wpOp Tryd.prog laOps Q 16 (At laOps 87 (laTab N M b5 b6 b7 w0) (laBase N M b5 b6 b7 w0) (fun w => Inv2 w0 b5 b6 N M w ∧ SetIn 24 b7 (N ||| M) w) (l.setIfInBounds 16 true)) a w := by
  have hown := laOwn N M b5 b6 b7 w0
  have hH := laHold N M b5 b6 b7 w0
  obtain ⟨o, ho⟩ : ∃ o, laOps[16]? = some o := Option.isSome_iff_exists.1 (by kernel_rfl)
  have hop : o.op = Op.load 24 (Operand.tmp 6) := op_of ho (by kernel_rfl)
  have hg : guardOk laOps a o := h.guard hown (guard_of ho (g := some (14, true)) (by kernel_rfl)) (dep hd 14 (by kernel_rfl)) rfl (by decide +kernel)
  have v6 : a.eval (.tmp 6) = .pointer (some ⟨b6, 0, none⟩) := h.fixed 6 _ rfl
  exact h.yields hown hH ho hg (v := sv M) (w' := w) (by simp only [execOp, hop, v6]; simp only [Sem.run_bind, load_set (h.hold.1.2.1), Result.andThen_ok, Sem.run_pure]) (Below.refl _ _) rfl
theorem laSt17 (hR : laRows N M b5 b6 b7 w0) (h : At laOps 87 (laTab N M b5 b6 b7 w0) (laBase N M b5 b6 b7 w0) (fun w => Inv2 w0 b5 b6 N M w ∧ SetIn 24 b7 (N ||| M) w) l a w) (hd : ∀ o : Oper, laOps[17]? = some o → ∀ e ∈ o.after.toList, Region.binds .any e = true → l.getD e.on false = true) : wpOp Tryd.prog laOps Q 17 (At laOps 87 (laTab N M b5 b6 b7 w0) (laBase N M b5 b6 b7 w0) (fun w => Inv2 w0 b5 b6 N M w ∧ SetIn 24 b7 (N ||| M) w) (l.setIfInBounds 17 true)) a w := by
  have hown := laOwn N M b5 b6 b7 w0
  have hH := laHold N M b5 b6 b7 w0
  obtain ⟨o, ho⟩ : ∃ o, laOps[17]? = some o := Option.isSome_iff_exists.1 (by kernel_rfl)
  have hop : o.op = Op.call { callee := Callee.value (Operand.func 26), args := #[Operand.tmp 30, Operand.tmp 31], argTypes := #[24, 24] } := op_of ho (by kernel_rfl)
  have hg : guardOk laOps a o := h.guard hown (guard_of ho (g := some (14, true)) (by kernel_rfl)) (dep hd 14 (by kernel_rfl)) rfl (by decide +kernel)
  have v30 : a.eval (.tmp 30) = sv N := h.done 15 30 (dep hd 15 (by kernel_rfl)) (by kernel_rfl)
  have v31 : a.eval (.tmp 31) = sv M := h.done 16 31 (dep hd 16 (by kernel_rfl)) (by kernel_rfl)
  refine h.calls hown hH ho hg (f := 26) (args := #[sv N, sv M]) ?_ ((less_is N M (less N M) rfl w).mono ?_)
  · rw [exec_call (enters_of Tryd.func26 (by kernel_rfl) rfl) hop]
    simp only [List.map_toArray, List.map_cons, List.map_nil, v30, v31]
    try rfl
  rintro e w' ⟨rfl, hb⟩
  exact ⟨_, rfl, hb, rfl⟩
theorem laSt18 (hR : laRows N M b5 b6 b7 w0) (h : At laOps 87 (laTab N M b5 b6 b7 w0) (laBase N M b5 b6 b7 w0) (fun w => Inv2 w0 b5 b6 N M w ∧ SetIn 24 b7 (N ||| M) w) l a w) (hd : ∀ o : Oper, laOps[18]? = some o → ∀ e ∈ o.after.toList, Region.binds .any e = true → l.getD e.on false = true) : wpOp Tryd.prog laOps Q 18 (At laOps 87 (laTab N M b5 b6 b7 w0) (laBase N M b5 b6 b7 w0) (fun w => Inv2 w0 b5 b6 N M w ∧ SetIn 24 b7 (N ||| M) w) (l.setIfInBounds 18 true)) a w := by
  have hown := laOwn N M b5 b6 b7 w0
  have hH := laHold N M b5 b6 b7 w0
  obtain ⟨o, ho⟩ : ∃ o, laOps[18]? = some o := Option.isSome_iff_exists.1 (by kernel_rfl)
  have hop : o.op = Op.load 24 (Operand.tmp 5) := op_of ho (by kernel_rfl)
  have hg : guardOk laOps a o := h.guard hown (guard_of ho (g := some (14, true)) (by kernel_rfl)) (dep hd 14 (by kernel_rfl)) rfl (by decide +kernel)
  have v5 : a.eval (.tmp 5) = .pointer (some ⟨b5, 0, none⟩) := h.fixed 5 _ rfl
  exact h.yields hown hH ho hg (v := sv N) (w' := w) (by simp only [execOp, hop, v5]; simp only [Sem.run_bind, load_set (h.hold.1.1), Result.andThen_ok, Sem.run_pure]) (Below.refl _ _) rfl
theorem laSt19 (hR : laRows N M b5 b6 b7 w0) (h : At laOps 87 (laTab N M b5 b6 b7 w0) (laBase N M b5 b6 b7 w0) (fun w => Inv2 w0 b5 b6 N M w ∧ SetIn 24 b7 (N ||| M) w) l a w) (hd : ∀ o : Oper, laOps[19]? = some o → ∀ e ∈ o.after.toList, Region.binds .any e = true → l.getD e.on false = true) : wpOp Tryd.prog laOps Q 19 (At laOps 87 (laTab N M b5 b6 b7 w0) (laBase N M b5 b6 b7 w0) (fun w => Inv2 w0 b5 b6 N M w ∧ SetIn 24 b7 (N ||| M) w) (l.setIfInBounds 19 true)) a w := by
  have hown := laOwn N M b5 b6 b7 w0
  have hH := laHold N M b5 b6 b7 w0
  obtain ⟨o, ho⟩ : ∃ o, laOps[19]? = some o := Option.isSome_iff_exists.1 (by kernel_rfl)
  have hop : o.op = Op.load 24 (Operand.tmp 6) := op_of ho (by kernel_rfl)
  have hg : guardOk laOps a o := h.guard hown (guard_of ho (g := some (14, true)) (by kernel_rfl)) (dep hd 14 (by kernel_rfl)) rfl (by decide +kernel)
  have v6 : a.eval (.tmp 6) = .pointer (some ⟨b6, 0, none⟩) := h.fixed 6 _ rfl
  exact h.yields hown hH ho hg (v := sv M) (w' := w) (by simp only [execOp, hop, v6]; simp only [Sem.run_bind, load_set (h.hold.1.2.1), Result.andThen_ok, Sem.run_pure]) (Below.refl _ _) rfl
theorem laSt20 (hR : laRows N M b5 b6 b7 w0) (h : At laOps 87 (laTab N M b5 b6 b7 w0) (laBase N M b5 b6 b7 w0) (fun w => Inv2 w0 b5 b6 N M w ∧ SetIn 24 b7 (N ||| M) w) l a w) (hd : ∀ o : Oper, laOps[20]? = some o → ∀ e ∈ o.after.toList, Region.binds .any e = true → l.getD e.on false = true) : wpOp Tryd.prog laOps Q 20 (At laOps 87 (laTab N M b5 b6 b7 w0) (laBase N M b5 b6 b7 w0) (fun w => Inv2 w0 b5 b6 N M w ∧ SetIn 24 b7 (N ||| M) w) (l.setIfInBounds 20 true)) a w := by
  have hown := laOwn N M b5 b6 b7 w0
  have hH := laHold N M b5 b6 b7 w0
  obtain ⟨o, ho⟩ : ∃ o, laOps[20]? = some o := Option.isSome_iff_exists.1 (by kernel_rfl)
  have hop : o.op = Op.call { callee := Callee.value (Operand.func 22), args := #[Operand.tmp 33, Operand.tmp 34], argTypes := #[24, 24] } := op_of ho (by kernel_rfl)
  have hg : guardOk laOps a o := h.guard hown (guard_of ho (g := some (14, true)) (by kernel_rfl)) (dep hd 14 (by kernel_rfl)) rfl (by decide +kernel)
  have v33 : a.eval (.tmp 33) = sv N := h.done 18 33 (dep hd 18 (by kernel_rfl)) (by kernel_rfl)
  have v34 : a.eval (.tmp 34) = sv M := h.done 19 34 (dep hd 19 (by kernel_rfl)) (by kernel_rfl)
  refine h.calls hown hH ho hg (f := 22) (args := #[sv N, sv M]) ?_ ((and_is N M (N &&& M) rfl w).mono ?_)
  · rw [exec_call (enters_of Tryd.func22 (by kernel_rfl) rfl) hop]
    simp only [List.map_toArray, List.map_cons, List.map_nil, v33, v34]
    try rfl
  rintro e w' ⟨rfl, hb⟩
  exact ⟨_, rfl, hb, rfl⟩
theorem laSt21 (hR : laRows N M b5 b6 b7 w0) (h : At laOps 87 (laTab N M b5 b6 b7 w0) (laBase N M b5 b6 b7 w0) (fun w => Inv2 w0 b5 b6 N M w ∧ SetIn 24 b7 (N ||| M) w) l a w) (hd : ∀ o : Oper, laOps[21]? = some o → ∀ e ∈ o.after.toList, Region.binds .any e = true → l.getD e.on false = true) : wpOp Tryd.prog laOps Q 21 (At laOps 87 (laTab N M b5 b6 b7 w0) (laBase N M b5 b6 b7 w0) (fun w => Inv2 w0 b5 b6 N M w ∧ SetIn 24 b7 (N ||| M) w) (l.setIfInBounds 21 true)) a w := by
  have hown := laOwn N M b5 b6 b7 w0
  have hH := laHold N M b5 b6 b7 w0
  obtain ⟨o, ho⟩ : ∃ o, laOps[21]? = some o := Option.isSome_iff_exists.1 (by kernel_rfl)
  have hop : o.op = Op.call { callee := Callee.value (Operand.func 24), args := #[Operand.tmp 32, Operand.tmp 35], argTypes := #[24, 24] } := op_of ho (by kernel_rfl)
  have hg : guardOk laOps a o := h.guard hown (guard_of ho (g := some (14, true)) (by kernel_rfl)) (dep hd 14 (by kernel_rfl)) rfl (by decide +kernel)
  have v32 : a.eval (.tmp 32) = sv (less N M) := h.done 17 32 (dep hd 17 (by kernel_rfl)) (by kernel_rfl)
  have v35 : a.eval (.tmp 35) = sv (N &&& M) := h.done 20 35 (dep hd 20 (by kernel_rfl)) (by kernel_rfl)
  refine h.calls hown hH ho hg (f := 24) (args := #[sv (less N M), sv (N &&& M)]) ?_ ((or_is (less N M) (N &&& M) N hR.e3 w).mono ?_)
  · rw [exec_call (enters_of Tryd.func24 (by kernel_rfl) rfl) hop]
    simp only [List.map_toArray, List.map_cons, List.map_nil, v32, v35]
    try rfl
  rintro e w' ⟨rfl, hb⟩
  exact ⟨_, rfl, hb, rfl⟩
theorem laSt22 (hR : laRows N M b5 b6 b7 w0) (h : At laOps 87 (laTab N M b5 b6 b7 w0) (laBase N M b5 b6 b7 w0) (fun w => Inv2 w0 b5 b6 N M w ∧ SetIn 24 b7 (N ||| M) w) l a w) (hd : ∀ o : Oper, laOps[22]? = some o → ∀ e ∈ o.after.toList, Region.binds .any e = true → l.getD e.on false = true) : wpOp Tryd.prog laOps Q 22 (At laOps 87 (laTab N M b5 b6 b7 w0) (laBase N M b5 b6 b7 w0) (fun w => Inv2 w0 b5 b6 N M w ∧ SetIn 24 b7 (N ||| M) w) (l.setIfInBounds 22 true)) a w := by
  have hown := laOwn N M b5 b6 b7 w0
  have hH := laHold N M b5 b6 b7 w0
  obtain ⟨o, ho⟩ : ∃ o, laOps[22]? = some o := Option.isSome_iff_exists.1 (by kernel_rfl)
  have hop : o.op = Op.load 24 (Operand.tmp 5) := op_of ho (by kernel_rfl)
  have hg : guardOk laOps a o := h.guard hown (guard_of ho (g := some (14, true)) (by kernel_rfl)) (dep hd 14 (by kernel_rfl)) rfl (by decide +kernel)
  have v5 : a.eval (.tmp 5) = .pointer (some ⟨b5, 0, none⟩) := h.fixed 5 _ rfl
  exact h.yields hown hH ho hg (v := sv N) (w' := w) (by simp only [execOp, hop, v5]; simp only [Sem.run_bind, load_set (h.hold.1.1), Result.andThen_ok, Sem.run_pure]) (Below.refl _ _) rfl
theorem laSt23 (hR : laRows N M b5 b6 b7 w0) (h : At laOps 87 (laTab N M b5 b6 b7 w0) (laBase N M b5 b6 b7 w0) (fun w => Inv2 w0 b5 b6 N M w ∧ SetIn 24 b7 (N ||| M) w) l a w) (hd : ∀ o : Oper, laOps[23]? = some o → ∀ e ∈ o.after.toList, Region.binds .any e = true → l.getD e.on false = true) : wpOp Tryd.prog laOps Q 23 (At laOps 87 (laTab N M b5 b6 b7 w0) (laBase N M b5 b6 b7 w0) (fun w => Inv2 w0 b5 b6 N M w ∧ SetIn 24 b7 (N ||| M) w) (l.setIfInBounds 23 true)) a w := by
  have hown := laOwn N M b5 b6 b7 w0
  have hH := laHold N M b5 b6 b7 w0
  obtain ⟨o, ho⟩ : ∃ o, laOps[23]? = some o := Option.isSome_iff_exists.1 (by kernel_rfl)
  have hop : o.op = Op.binOp BinOp.eql 24 (Operand.tmp 36) (Operand.tmp 37) 24 := op_of ho (by kernel_rfl)
  have hg : guardOk laOps a o := h.guard hown (guard_of ho (g := some (14, true)) (by kernel_rfl)) (dep hd 14 (by kernel_rfl)) rfl (by decide +kernel)
  have v36 : a.eval (.tmp 36) = sv N := h.done 21 36 (dep hd 21 (by kernel_rfl)) (by kernel_rfl)
  have v37 : a.eval (.tmp 37) = sv N := h.done 22 37 (dep hd 22 (by kernel_rfl)) (by kernel_rfl)
  exact h.yields hown hH ho hg (v := .bool true) (w' := w) (by simp only [execOp, hop, v36, v37]; simp only [Sem.run_bind, run_eqGuard_agg (P := Tryd.prog) (w := w) _ _ _ _ _ _ eqg, run_eql_struct, equal_same N hR.fN, Result.andThen_ok, Sem.run_pure]) (Below.refl _ _) rfl
theorem laSt24 (hR : laRows N M b5 b6 b7 w0) (h : At laOps 87 (laTab N M b5 b6 b7 w0) (laBase N M b5 b6 b7 w0) (fun w => Inv2 w0 b5 b6 N M w ∧ SetIn 24 b7 (N ||| M) w) l a w) (hd : ∀ o : Oper, laOps[24]? = some o → ∀ e ∈ o.after.toList, Region.binds .any e = true → l.getD e.on false = true) : wpOp Tryd.prog laOps Q 24 (At laOps 87 (laTab N M b5 b6 b7 w0) (laBase N M b5 b6 b7 w0) (fun w => Inv2 w0 b5 b6 N M w ∧ SetIn 24 b7 (N ||| M) w) (l.setIfInBounds 24 true)) a w := by
  have hown := laOwn N M b5 b6 b7 w0
  have hH := laHold N M b5 b6 b7 w0
  obtain ⟨o, ho⟩ : ∃ o, laOps[24]? = some o := Option.isSome_iff_exists.1 (by kernel_rfl)
  have hop : o.op = Op.pick (Operand.tmp 29) (Operand.tmp 38) (Operand.const (Value.bool false)) := op_of ho (by kernel_rfl)
  have hg : guardOk laOps a o := guard_none (guard_of ho (by kernel_rfl))
  have v29 : a.eval (.tmp 29) = .bool true := h.done 14 29 (dep hd 14 (by kernel_rfl)) (by kernel_rfl)
  have v38 : a.eval (.tmp 38) = .bool true := h.done 23 38 (dep hd 23 (by kernel_rfl)) (by kernel_rfl)
  exact h.yields hown hH ho hg (v := .bool true) (w' := w) (by simp only [execOp, hop, v29, v38]; kernel_rfl) (Below.refl _ _) rfl
theorem laSt25 (hR : laRows N M b5 b6 b7 w0) (h : At laOps 87 (laTab N M b5 b6 b7 w0) (laBase N M b5 b6 b7 w0) (fun w => Inv2 w0 b5 b6 N M w ∧ SetIn 24 b7 (N ||| M) w) l a w) (hd : ∀ o : Oper, laOps[25]? = some o → ∀ e ∈ o.after.toList, Region.binds .any e = true → l.getD e.on false = true) : wpOp Tryd.prog laOps Q 25 (At laOps 87 (laTab N M b5 b6 b7 w0) (laBase N M b5 b6 b7 w0) (fun w => Inv2 w0 b5 b6 N M w ∧ SetIn 24 b7 (N ||| M) w) (l.setIfInBounds 25 true)) a w := by
  have hown := laOwn N M b5 b6 b7 w0
  have hH := laHold N M b5 b6 b7 w0
  obtain ⟨o, ho⟩ : ∃ o, laOps[25]? = some o := Option.isSome_iff_exists.1 (by kernel_rfl)
  have hop : o.op = Op.move (Operand.tmp 39) := op_of ho (by kernel_rfl)
  have hg : guardOk laOps a o := guard_none (guard_of ho (by kernel_rfl))
  have v39 : a.eval (.tmp 39) = .bool true := h.done 24 39 (dep hd 24 (by kernel_rfl)) (by kernel_rfl)
  exact h.yields hown hH ho hg (v := .bool true) (w' := w) (by simp only [execOp, hop, v39]; kernel_rfl) (Below.refl _ _) rfl
theorem laSt26 (hR : laRows N M b5 b6 b7 w0) (h : At laOps 87 (laTab N M b5 b6 b7 w0) (laBase N M b5 b6 b7 w0) (fun w => Inv2 w0 b5 b6 N M w ∧ SetIn 24 b7 (N ||| M) w) l a w) (hd : ∀ o : Oper, laOps[26]? = some o → ∀ e ∈ o.after.toList, Region.binds .any e = true → l.getD e.on false = true) : wpOp Tryd.prog laOps Q 26 (At laOps 87 (laTab N M b5 b6 b7 w0) (laBase N M b5 b6 b7 w0) (fun w => Inv2 w0 b5 b6 N M w ∧ SetIn 24 b7 (N ||| M) w) (l.setIfInBounds 26 true)) a w := by
  have hown := laOwn N M b5 b6 b7 w0
  have hH := laHold N M b5 b6 b7 w0
  obtain ⟨o, ho⟩ : ∃ o, laOps[26]? = some o := Option.isSome_iff_exists.1 (by kernel_rfl)
  have hop : o.op = Op.load 24 (Operand.tmp 5) := op_of ho (by kernel_rfl)
  have hg : guardOk laOps a o := h.guard hown (guard_of ho (g := some (25, true)) (by kernel_rfl)) (dep hd 25 (by kernel_rfl)) rfl (by decide +kernel)
  have v5 : a.eval (.tmp 5) = .pointer (some ⟨b5, 0, none⟩) := h.fixed 5 _ rfl
  exact h.yields hown hH ho hg (v := sv N) (w' := w) (by simp only [execOp, hop, v5]; simp only [Sem.run_bind, load_set (h.hold.1.1), Result.andThen_ok, Sem.run_pure]) (Below.refl _ _) rfl
theorem laSt27 (hR : laRows N M b5 b6 b7 w0) (h : At laOps 87 (laTab N M b5 b6 b7 w0) (laBase N M b5 b6 b7 w0) (fun w => Inv2 w0 b5 b6 N M w ∧ SetIn 24 b7 (N ||| M) w) l a w) (hd : ∀ o : Oper, laOps[27]? = some o → ∀ e ∈ o.after.toList, Region.binds .any e = true → l.getD e.on false = true) : wpOp Tryd.prog laOps Q 27 (At laOps 87 (laTab N M b5 b6 b7 w0) (laBase N M b5 b6 b7 w0) (fun w => Inv2 w0 b5 b6 N M w ∧ SetIn 24 b7 (N ||| M) w) (l.setIfInBounds 27 true)) a w := by
  have hown := laOwn N M b5 b6 b7 w0
  have hH := laHold N M b5 b6 b7 w0
  obtain ⟨o, ho⟩ : ∃ o, laOps[27]? = some o := Option.isSome_iff_exists.1 (by kernel_rfl)
  have hop : o.op = Op.load 24 (Operand.tmp 6) := op_of ho (by kernel_rfl)
  have hg : guardOk laOps a o := h.guard hown (guard_of ho (g := some (25, true)) (by kernel_rfl)) (dep hd 25 (by kernel_rfl)) rfl (by decide +kernel)
  have v6 : a.eval (.tmp 6) = .pointer (some ⟨b6, 0, none⟩) := h.fixed 6 _ rfl
  exact h.yields hown hH ho hg (v := sv M) (w' := w) (by simp only [execOp, hop, v6]; simp only [Sem.run_bind, load_set (h.hold.1.2.1), Result.andThen_ok, Sem.run_pure]) (Below.refl _ _) rfl
theorem laSt28 (hR : laRows N M b5 b6 b7 w0) (h : At laOps 87 (laTab N M b5 b6 b7 w0) (laBase N M b5 b6 b7 w0) (fun w => Inv2 w0 b5 b6 N M w ∧ SetIn 24 b7 (N ||| M) w) l a w) (hd : ∀ o : Oper, laOps[28]? = some o → ∀ e ∈ o.after.toList, Region.binds .any e = true → l.getD e.on false = true) : wpOp Tryd.prog laOps Q 28 (At laOps 87 (laTab N M b5 b6 b7 w0) (laBase N M b5 b6 b7 w0) (fun w => Inv2 w0 b5 b6 N M w ∧ SetIn 24 b7 (N ||| M) w) (l.setIfInBounds 28 true)) a w := by
  have hown := laOwn N M b5 b6 b7 w0
  have hH := laHold N M b5 b6 b7 w0
  obtain ⟨o, ho⟩ : ∃ o, laOps[28]? = some o := Option.isSome_iff_exists.1 (by kernel_rfl)
  have hop : o.op = Op.call { callee := Callee.value (Operand.func 26), args := #[Operand.tmp 41, Operand.tmp 42], argTypes := #[24, 24] } := op_of ho (by kernel_rfl)
  have hg : guardOk laOps a o := h.guard hown (guard_of ho (g := some (25, true)) (by kernel_rfl)) (dep hd 25 (by kernel_rfl)) rfl (by decide +kernel)
  have v41 : a.eval (.tmp 41) = sv N := h.done 26 41 (dep hd 26 (by kernel_rfl)) (by kernel_rfl)
  have v42 : a.eval (.tmp 42) = sv M := h.done 27 42 (dep hd 27 (by kernel_rfl)) (by kernel_rfl)
  refine h.calls hown hH ho hg (f := 26) (args := #[sv N, sv M]) ?_ ((less_is N M (less N M) rfl w).mono ?_)
  · rw [exec_call (enters_of Tryd.func26 (by kernel_rfl) rfl) hop]
    simp only [List.map_toArray, List.map_cons, List.map_nil, v41, v42]
    try rfl
  rintro e w' ⟨rfl, hb⟩
  exact ⟨_, rfl, hb, rfl⟩
theorem laSt29 (hR : laRows N M b5 b6 b7 w0) (h : At laOps 87 (laTab N M b5 b6 b7 w0) (laBase N M b5 b6 b7 w0) (fun w => Inv2 w0 b5 b6 N M w ∧ SetIn 24 b7 (N ||| M) w) l a w) (hd : ∀ o : Oper, laOps[29]? = some o → ∀ e ∈ o.after.toList, Region.binds .any e = true → l.getD e.on false = true) : wpOp Tryd.prog laOps Q 29 (At laOps 87 (laTab N M b5 b6 b7 w0) (laBase N M b5 b6 b7 w0) (fun w => Inv2 w0 b5 b6 N M w ∧ SetIn 24 b7 (N ||| M) w) (l.setIfInBounds 29 true)) a w := by
  have hown := laOwn N M b5 b6 b7 w0
  have hH := laHold N M b5 b6 b7 w0
  obtain ⟨o, ho⟩ : ∃ o, laOps[29]? = some o := Option.isSome_iff_exists.1 (by kernel_rfl)
  have hop : o.op = Op.load 24 (Operand.tmp 6) := op_of ho (by kernel_rfl)
  have hg : guardOk laOps a o := h.guard hown (guard_of ho (g := some (25, true)) (by kernel_rfl)) (dep hd 25 (by kernel_rfl)) rfl (by decide +kernel)
  have v6 : a.eval (.tmp 6) = .pointer (some ⟨b6, 0, none⟩) := h.fixed 6 _ rfl
  exact h.yields hown hH ho hg (v := sv M) (w' := w) (by simp only [execOp, hop, v6]; simp only [Sem.run_bind, load_set (h.hold.1.2.1), Result.andThen_ok, Sem.run_pure]) (Below.refl _ _) rfl
theorem laSt30 (hR : laRows N M b5 b6 b7 w0) (h : At laOps 87 (laTab N M b5 b6 b7 w0) (laBase N M b5 b6 b7 w0) (fun w => Inv2 w0 b5 b6 N M w ∧ SetIn 24 b7 (N ||| M) w) l a w) (hd : ∀ o : Oper, laOps[30]? = some o → ∀ e ∈ o.after.toList, Region.binds .any e = true → l.getD e.on false = true) : wpOp Tryd.prog laOps Q 30 (At laOps 87 (laTab N M b5 b6 b7 w0) (laBase N M b5 b6 b7 w0) (fun w => Inv2 w0 b5 b6 N M w ∧ SetIn 24 b7 (N ||| M) w) (l.setIfInBounds 30 true)) a w := by
  have hown := laOwn N M b5 b6 b7 w0
  have hH := laHold N M b5 b6 b7 w0
  obtain ⟨o, ho⟩ : ∃ o, laOps[30]? = some o := Option.isSome_iff_exists.1 (by kernel_rfl)
  have hop : o.op = Op.call { callee := Callee.value (Operand.func 22), args := #[Operand.tmp 43, Operand.tmp 44], argTypes := #[24, 24] } := op_of ho (by kernel_rfl)
  have hg : guardOk laOps a o := h.guard hown (guard_of ho (g := some (25, true)) (by kernel_rfl)) (dep hd 25 (by kernel_rfl)) rfl (by decide +kernel)
  have v43 : a.eval (.tmp 43) = sv (less N M) := h.done 28 43 (dep hd 28 (by kernel_rfl)) (by kernel_rfl)
  have v44 : a.eval (.tmp 44) = sv M := h.done 29 44 (dep hd 29 (by kernel_rfl)) (by kernel_rfl)
  refine h.calls hown hH ho hg (f := 22) (args := #[sv (less N M), sv M]) ?_ ((and_is (less N M) M 0 hR.e4 w).mono ?_)
  · rw [exec_call (enters_of Tryd.func22 (by kernel_rfl) rfl) hop]
    simp only [List.map_toArray, List.map_cons, List.map_nil, v43, v44]
    try rfl
  rintro e w' ⟨rfl, hb⟩
  exact ⟨_, rfl, hb, rfl⟩
theorem laSt31 (hR : laRows N M b5 b6 b7 w0) (h : At laOps 87 (laTab N M b5 b6 b7 w0) (laBase N M b5 b6 b7 w0) (fun w => Inv2 w0 b5 b6 N M w ∧ SetIn 24 b7 (N ||| M) w) l a w) (hd : ∀ o : Oper, laOps[31]? = some o → ∀ e ∈ o.after.toList, Region.binds .any e = true → l.getD e.on false = true) : wpOp Tryd.prog laOps Q 31 (At laOps 87 (laTab N M b5 b6 b7 w0) (laBase N M b5 b6 b7 w0) (fun w => Inv2 w0 b5 b6 N M w ∧ SetIn 24 b7 (N ||| M) w) (l.setIfInBounds 31 true)) a w := by
  have hown := laOwn N M b5 b6 b7 w0
  have hH := laHold N M b5 b6 b7 w0
  obtain ⟨o, ho⟩ : ∃ o, laOps[31]? = some o := Option.isSome_iff_exists.1 (by kernel_rfl)
  have hop : o.op = Op.build 24 #[] := op_of ho (by kernel_rfl)
  have hg : guardOk laOps a o := h.guard hown (guard_of ho (g := some (25, true)) (by kernel_rfl)) (dep hd 25 (by kernel_rfl)) rfl (by decide +kernel)
  exact h.yields hown hH ho hg (v := sv 0) (w' := w) (by simp only [execOp, hop]; kernel_rfl) (Below.refl _ _) rfl
theorem laSt32 (hR : laRows N M b5 b6 b7 w0) (h : At laOps 87 (laTab N M b5 b6 b7 w0) (laBase N M b5 b6 b7 w0) (fun w => Inv2 w0 b5 b6 N M w ∧ SetIn 24 b7 (N ||| M) w) l a w) (hd : ∀ o : Oper, laOps[32]? = some o → ∀ e ∈ o.after.toList, Region.binds .any e = true → l.getD e.on false = true) : wpOp Tryd.prog laOps Q 32 (At laOps 87 (laTab N M b5 b6 b7 w0) (laBase N M b5 b6 b7 w0) (fun w => Inv2 w0 b5 b6 N M w ∧ SetIn 24 b7 (N ||| M) w) (l.setIfInBounds 32 true)) a w := by
  have hown := laOwn N M b5 b6 b7 w0
  have hH := laHold N M b5 b6 b7 w0
  obtain ⟨o, ho⟩ : ∃ o, laOps[32]? = some o := Option.isSome_iff_exists.1 (by kernel_rfl)
  have hop : o.op = Op.binOp BinOp.eql 24 (Operand.tmp 45) (Operand.tmp 46) 24 := op_of ho (by kernel_rfl)
  have hg : guardOk laOps a o := h.guard hown (guard_of ho (g := some (25, true)) (by kernel_rfl)) (dep hd 25 (by kernel_rfl)) rfl (by decide +kernel)
  have v45 : a.eval (.tmp 45) = sv 0 := h.done 30 45 (dep hd 30 (by kernel_rfl)) (by kernel_rfl)
  have v46 : a.eval (.tmp 46) = sv 0 := h.done 31 46 (dep hd 31 (by kernel_rfl)) (by kernel_rfl)
  exact h.yields hown hH ho hg (v := .bool true) (w' := w) (by simp only [execOp, hop, v45, v46]; simp only [Sem.run_bind, run_eqGuard_agg (P := Tryd.prog) (w := w) _ _ _ _ _ _ eqg, run_eql_struct, equal_same 0 hR.fz, Result.andThen_ok, Sem.run_pure]) (Below.refl _ _) rfl
theorem laSt33 (hR : laRows N M b5 b6 b7 w0) (h : At laOps 87 (laTab N M b5 b6 b7 w0) (laBase N M b5 b6 b7 w0) (fun w => Inv2 w0 b5 b6 N M w ∧ SetIn 24 b7 (N ||| M) w) l a w) (hd : ∀ o : Oper, laOps[33]? = some o → ∀ e ∈ o.after.toList, Region.binds .any e = true → l.getD e.on false = true) : wpOp Tryd.prog laOps Q 33 (At laOps 87 (laTab N M b5 b6 b7 w0) (laBase N M b5 b6 b7 w0) (fun w => Inv2 w0 b5 b6 N M w ∧ SetIn 24 b7 (N ||| M) w) (l.setIfInBounds 33 true)) a w := by
  have hown := laOwn N M b5 b6 b7 w0
  have hH := laHold N M b5 b6 b7 w0
  obtain ⟨o, ho⟩ : ∃ o, laOps[33]? = some o := Option.isSome_iff_exists.1 (by kernel_rfl)
  have hop : o.op = Op.pick (Operand.tmp 40) (Operand.tmp 47) (Operand.const (Value.bool false)) := op_of ho (by kernel_rfl)
  have hg : guardOk laOps a o := guard_none (guard_of ho (by kernel_rfl))
  have v40 : a.eval (.tmp 40) = .bool true := h.done 25 40 (dep hd 25 (by kernel_rfl)) (by kernel_rfl)
  have v47 : a.eval (.tmp 47) = .bool true := h.done 32 47 (dep hd 32 (by kernel_rfl)) (by kernel_rfl)
  exact h.yields hown hH ho hg (v := .bool true) (w' := w) (by simp only [execOp, hop, v40, v47]; kernel_rfl) (Below.refl _ _) rfl
theorem laSt34 (hR : laRows N M b5 b6 b7 w0) (h : At laOps 87 (laTab N M b5 b6 b7 w0) (laBase N M b5 b6 b7 w0) (fun w => Inv2 w0 b5 b6 N M w ∧ SetIn 24 b7 (N ||| M) w) l a w) (hd : ∀ o : Oper, laOps[34]? = some o → ∀ e ∈ o.after.toList, Region.binds .any e = true → l.getD e.on false = true) : wpOp Tryd.prog laOps Q 34 (At laOps 87 (laTab N M b5 b6 b7 w0) (laBase N M b5 b6 b7 w0) (fun w => Inv2 w0 b5 b6 N M w ∧ SetIn 24 b7 (N ||| M) w) (l.setIfInBounds 34 true)) a w := by
  have hown := laOwn N M b5 b6 b7 w0
  have hH := laHold N M b5 b6 b7 w0
  obtain ⟨o, ho⟩ : ∃ o, laOps[34]? = some o := Option.isSome_iff_exists.1 (by kernel_rfl)
  have hop : o.op = Op.move (Operand.tmp 48) := op_of ho (by kernel_rfl)
  have hg : guardOk laOps a o := guard_none (guard_of ho (by kernel_rfl))
  have v48 : a.eval (.tmp 48) = .bool true := h.done 33 48 (dep hd 33 (by kernel_rfl)) (by kernel_rfl)
  exact h.yields hown hH ho hg (v := .bool true) (w' := w) (by simp only [execOp, hop, v48]; kernel_rfl) (Below.refl _ _) rfl
theorem laSt35 (hR : laRows N M b5 b6 b7 w0) (h : At laOps 87 (laTab N M b5 b6 b7 w0) (laBase N M b5 b6 b7 w0) (fun w => Inv2 w0 b5 b6 N M w ∧ SetIn 24 b7 (N ||| M) w) l a w) (hd : ∀ o : Oper, laOps[35]? = some o → ∀ e ∈ o.after.toList, Region.binds .any e = true → l.getD e.on false = true) : wpOp Tryd.prog laOps Q 35 (At laOps 87 (laTab N M b5 b6 b7 w0) (laBase N M b5 b6 b7 w0) (fun w => Inv2 w0 b5 b6 N M w ∧ SetIn 24 b7 (N ||| M) w) (l.setIfInBounds 35 true)) a w := by
  have hown := laOwn N M b5 b6 b7 w0
  have hH := laHold N M b5 b6 b7 w0
  obtain ⟨o, ho⟩ : ∃ o, laOps[35]? = some o := Option.isSome_iff_exists.1 (by kernel_rfl)
  have hop : o.op = Op.load 24 (Operand.tmp 7) := op_of ho (by kernel_rfl)
  have hg : guardOk laOps a o := h.guard hown (guard_of ho (g := some (34, true)) (by kernel_rfl)) (dep hd 34 (by kernel_rfl)) rfl (by decide +kernel)
  have v7 : a.eval (.tmp 7) = .pointer (some ⟨b7, 0, none⟩) := h.fixed 7 _ rfl
  exact h.yields hown hH ho hg (v := sv (N ||| M)) (w' := w) (by simp only [execOp, hop, v7]; simp only [Sem.run_bind, load_set (h.hold.2), Result.andThen_ok, Sem.run_pure]) (Below.refl _ _) rfl
theorem laSt36 (hR : laRows N M b5 b6 b7 w0) (h : At laOps 87 (laTab N M b5 b6 b7 w0) (laBase N M b5 b6 b7 w0) (fun w => Inv2 w0 b5 b6 N M w ∧ SetIn 24 b7 (N ||| M) w) l a w) (hd : ∀ o : Oper, laOps[36]? = some o → ∀ e ∈ o.after.toList, Region.binds .any e = true → l.getD e.on false = true) : wpOp Tryd.prog laOps Q 36 (At laOps 87 (laTab N M b5 b6 b7 w0) (laBase N M b5 b6 b7 w0) (fun w => Inv2 w0 b5 b6 N M w ∧ SetIn 24 b7 (N ||| M) w) (l.setIfInBounds 36 true)) a w := by
  have hown := laOwn N M b5 b6 b7 w0
  have hH := laHold N M b5 b6 b7 w0
  obtain ⟨o, ho⟩ : ∃ o, laOps[36]? = some o := Option.isSome_iff_exists.1 (by kernel_rfl)
  have hop : o.op = Op.call { callee := Callee.value (Operand.func 16), args := #[Operand.tmp 50], argTypes := #[24] } := op_of ho (by kernel_rfl)
  have hg : guardOk laOps a o := h.guard hown (guard_of ho (g := some (34, true)) (by kernel_rfl)) (dep hd 34 (by kernel_rfl)) rfl (by decide +kernel)
  have v50 : a.eval (.tmp 50) = sv (N ||| M) := h.done 35 50 (dep hd 35 (by kernel_rfl)) (by kernel_rfl)
  refine h.calls hown hH ho hg (f := 16) (args := #[sv (N ||| M)]) ?_ ((lenN (N ||| M) w).mono ?_)
  · rw [exec_call (enters_of Tryd.func16 (by kernel_rfl) rfl) hop]
    simp only [List.map_toArray, List.map_cons, List.map_nil, v50]
    try rfl
  rintro e w' ⟨rfl, hb⟩
  exact ⟨_, rfl, hb, rfl⟩
theorem laSt37 (hR : laRows N M b5 b6 b7 w0) (h : At laOps 87 (laTab N M b5 b6 b7 w0) (laBase N M b5 b6 b7 w0) (fun w => Inv2 w0 b5 b6 N M w ∧ SetIn 24 b7 (N ||| M) w) l a w) (hd : ∀ o : Oper, laOps[37]? = some o → ∀ e ∈ o.after.toList, Region.binds .any e = true → l.getD e.on false = true) : wpOp Tryd.prog laOps Q 37 (At laOps 87 (laTab N M b5 b6 b7 w0) (laBase N M b5 b6 b7 w0) (fun w => Inv2 w0 b5 b6 N M w ∧ SetIn 24 b7 (N ||| M) w) (l.setIfInBounds 37 true)) a w := by
  have hown := laOwn N M b5 b6 b7 w0
  have hH := laHold N M b5 b6 b7 w0
  obtain ⟨o, ho⟩ : ∃ o, laOps[37]? = some o := Option.isSome_iff_exists.1 (by kernel_rfl)
  have hop : o.op = Op.load 24 (Operand.tmp 5) := op_of ho (by kernel_rfl)
  have hg : guardOk laOps a o := h.guard hown (guard_of ho (g := some (34, true)) (by kernel_rfl)) (dep hd 34 (by kernel_rfl)) rfl (by decide +kernel)
  have v5 : a.eval (.tmp 5) = .pointer (some ⟨b5, 0, none⟩) := h.fixed 5 _ rfl
  exact h.yields hown hH ho hg (v := sv N) (w' := w) (by simp only [execOp, hop, v5]; simp only [Sem.run_bind, load_set (h.hold.1.1), Result.andThen_ok, Sem.run_pure]) (Below.refl _ _) rfl
theorem laSt38 (hR : laRows N M b5 b6 b7 w0) (h : At laOps 87 (laTab N M b5 b6 b7 w0) (laBase N M b5 b6 b7 w0) (fun w => Inv2 w0 b5 b6 N M w ∧ SetIn 24 b7 (N ||| M) w) l a w) (hd : ∀ o : Oper, laOps[38]? = some o → ∀ e ∈ o.after.toList, Region.binds .any e = true → l.getD e.on false = true) : wpOp Tryd.prog laOps Q 38 (At laOps 87 (laTab N M b5 b6 b7 w0) (laBase N M b5 b6 b7 w0) (fun w => Inv2 w0 b5 b6 N M w ∧ SetIn 24 b7 (N ||| M) w) (l.setIfInBounds 38 true)) a w := by
  have hown := laOwn N M b5 b6 b7 w0
  have hH := laHold N M b5 b6 b7 w0
  obtain ⟨o, ho⟩ : ∃ o, laOps[38]? = some o := Option.isSome_iff_exists.1 (by kernel_rfl)
  have hop : o.op = Op.load 24 (Operand.tmp 6) := op_of ho (by kernel_rfl)
  have hg : guardOk laOps a o := h.guard hown (guard_of ho (g := some (34, true)) (by kernel_rfl)) (dep hd 34 (by kernel_rfl)) rfl (by decide +kernel)
  have v6 : a.eval (.tmp 6) = .pointer (some ⟨b6, 0, none⟩) := h.fixed 6 _ rfl
  exact h.yields hown hH ho hg (v := sv M) (w' := w) (by simp only [execOp, hop, v6]; simp only [Sem.run_bind, load_set (h.hold.1.2.1), Result.andThen_ok, Sem.run_pure]) (Below.refl _ _) rfl
theorem laSt39 (hR : laRows N M b5 b6 b7 w0) (h : At laOps 87 (laTab N M b5 b6 b7 w0) (laBase N M b5 b6 b7 w0) (fun w => Inv2 w0 b5 b6 N M w ∧ SetIn 24 b7 (N ||| M) w) l a w) (hd : ∀ o : Oper, laOps[39]? = some o → ∀ e ∈ o.after.toList, Region.binds .any e = true → l.getD e.on false = true) : wpOp Tryd.prog laOps Q 39 (At laOps 87 (laTab N M b5 b6 b7 w0) (laBase N M b5 b6 b7 w0) (fun w => Inv2 w0 b5 b6 N M w ∧ SetIn 24 b7 (N ||| M) w) (l.setIfInBounds 39 true)) a w := by
  have hown := laOwn N M b5 b6 b7 w0
  have hH := laHold N M b5 b6 b7 w0
  obtain ⟨o, ho⟩ : ∃ o, laOps[39]? = some o := Option.isSome_iff_exists.1 (by kernel_rfl)
  have hop : o.op = Op.call { callee := Callee.value (Operand.func 22), args := #[Operand.tmp 52, Operand.tmp 53], argTypes := #[24, 24] } := op_of ho (by kernel_rfl)
  have hg : guardOk laOps a o := h.guard hown (guard_of ho (g := some (34, true)) (by kernel_rfl)) (dep hd 34 (by kernel_rfl)) rfl (by decide +kernel)
  have v52 : a.eval (.tmp 52) = sv N := h.done 37 52 (dep hd 37 (by kernel_rfl)) (by kernel_rfl)
  have v53 : a.eval (.tmp 53) = sv M := h.done 38 53 (dep hd 38 (by kernel_rfl)) (by kernel_rfl)
  refine h.calls hown hH ho hg (f := 22) (args := #[sv N, sv M]) ?_ ((and_is N M (N &&& M) rfl w).mono ?_)
  · rw [exec_call (enters_of Tryd.func22 (by kernel_rfl) rfl) hop]
    simp only [List.map_toArray, List.map_cons, List.map_nil, v52, v53]
    try rfl
  rintro e w' ⟨rfl, hb⟩
  exact ⟨_, rfl, hb, rfl⟩
theorem laSt40 (hR : laRows N M b5 b6 b7 w0) (h : At laOps 87 (laTab N M b5 b6 b7 w0) (laBase N M b5 b6 b7 w0) (fun w => Inv2 w0 b5 b6 N M w ∧ SetIn 24 b7 (N ||| M) w) l a w) (hd : ∀ o : Oper, laOps[40]? = some o → ∀ e ∈ o.after.toList, Region.binds .any e = true → l.getD e.on false = true) : wpOp Tryd.prog laOps Q 40 (At laOps 87 (laTab N M b5 b6 b7 w0) (laBase N M b5 b6 b7 w0) (fun w => Inv2 w0 b5 b6 N M w ∧ SetIn 24 b7 (N ||| M) w) (l.setIfInBounds 40 true)) a w := by
  have hown := laOwn N M b5 b6 b7 w0
  have hH := laHold N M b5 b6 b7 w0
  obtain ⟨o, ho⟩ : ∃ o, laOps[40]? = some o := Option.isSome_iff_exists.1 (by kernel_rfl)
  have hop : o.op = Op.call { callee := Callee.value (Operand.func 16), args := #[Operand.tmp 54], argTypes := #[24] } := op_of ho (by kernel_rfl)
  have hg : guardOk laOps a o := h.guard hown (guard_of ho (g := some (34, true)) (by kernel_rfl)) (dep hd 34 (by kernel_rfl)) rfl (by decide +kernel)
  have v54 : a.eval (.tmp 54) = sv (N &&& M) := h.done 39 54 (dep hd 39 (by kernel_rfl)) (by kernel_rfl)
  refine h.calls hown hH ho hg (f := 16) (args := #[sv (N &&& M)]) ?_ ((lenN (N &&& M) w).mono ?_)
  · rw [exec_call (enters_of Tryd.func16 (by kernel_rfl) rfl) hop]
    simp only [List.map_toArray, List.map_cons, List.map_nil, v54]
    try rfl
  rintro e w' ⟨rfl, hb⟩
  exact ⟨_, rfl, hb, rfl⟩
theorem laSt41 (hR : laRows N M b5 b6 b7 w0) (h : At laOps 87 (laTab N M b5 b6 b7 w0) (laBase N M b5 b6 b7 w0) (fun w => Inv2 w0 b5 b6 N M w ∧ SetIn 24 b7 (N ||| M) w) l a w) (hd : ∀ o : Oper, laOps[41]? = some o → ∀ e ∈ o.after.toList, Region.binds .any e = true → l.getD e.on false = true) : wpOp Tryd.prog laOps Q 41 (At laOps 87 (laTab N M b5 b6 b7 w0) (laBase N M b5 b6 b7 w0) (fun w => Inv2 w0 b5 b6 N M w ∧ SetIn 24 b7 (N ||| M) w) (l.setIfInBounds 41 true)) a w := by
  have hown := laOwn N M b5 b6 b7 w0
  have hH := laHold N M b5 b6 b7 w0
  obtain ⟨o, ho⟩ : ∃ o, laOps[41]? = some o := Option.isSome_iff_exists.1 (by kernel_rfl)
  have hop : o.op = Op.binOp BinOp.add 3 (Operand.tmp 51) (Operand.tmp 55) 3 := op_of ho (by kernel_rfl)
  have hg : guardOk laOps a o := h.guard hown (guard_of ho (g := some (34, true)) (by kernel_rfl)) (dep hd 34 (by kernel_rfl)) rfl (by decide +kernel)
  have v51 : a.eval (.tmp 51) = .int .i64 ((plcI (N ||| M)).length : Int) := h.done 36 51 (dep hd 36 (by kernel_rfl)) (by kernel_rfl)
  have v55 : a.eval (.tmp 55) = .int .i64 ((plcI (N &&& M)).length : Int) := h.done 40 55 (dep hd 40 (by kernel_rfl)) (by kernel_rfl)
  exact h.yields hown hH ho hg (v := .int .i64 (((plcI (N ||| M)).length : Int) + ((plcI (N &&& M)).length : Int))) (w' := w) (by simp only [execOp, hop, v51, v55]; go_simp; exact hR.w1) (Below.refl _ _) rfl
theorem laSt42 (hR : laRows N M b5 b6 b7 w0) (h : At laOps 87 (laTab N M b5 b6 b7 w0) (laBase N M b5 b6 b7 w0) (fun w => Inv2 w0 b5 b6 N M w ∧ SetIn 24 b7 (N ||| M) w) l a w) (hd : ∀ o : Oper, laOps[42]? = some o → ∀ e ∈ o.after.toList, Region.binds .any e = true → l.getD e.on false = true) : wpOp Tryd.prog laOps Q 42 (At laOps 87 (laTab N M b5 b6 b7 w0) (laBase N M b5 b6 b7 w0) (fun w => Inv2 w0 b5 b6 N M w ∧ SetIn 24 b7 (N ||| M) w) (l.setIfInBounds 42 true)) a w := by
  have hown := laOwn N M b5 b6 b7 w0
  have hH := laHold N M b5 b6 b7 w0
  obtain ⟨o, ho⟩ : ∃ o, laOps[42]? = some o := Option.isSome_iff_exists.1 (by kernel_rfl)
  have hop : o.op = Op.load 24 (Operand.tmp 5) := op_of ho (by kernel_rfl)
  have hg : guardOk laOps a o := h.guard hown (guard_of ho (g := some (34, true)) (by kernel_rfl)) (dep hd 34 (by kernel_rfl)) rfl (by decide +kernel)
  have v5 : a.eval (.tmp 5) = .pointer (some ⟨b5, 0, none⟩) := h.fixed 5 _ rfl
  exact h.yields hown hH ho hg (v := sv N) (w' := w) (by simp only [execOp, hop, v5]; simp only [Sem.run_bind, load_set (h.hold.1.1), Result.andThen_ok, Sem.run_pure]) (Below.refl _ _) rfl
theorem laSt43 (hR : laRows N M b5 b6 b7 w0) (h : At laOps 87 (laTab N M b5 b6 b7 w0) (laBase N M b5 b6 b7 w0) (fun w => Inv2 w0 b5 b6 N M w ∧ SetIn 24 b7 (N ||| M) w) l a w) (hd : ∀ o : Oper, laOps[43]? = some o → ∀ e ∈ o.after.toList, Region.binds .any e = true → l.getD e.on false = true) : wpOp Tryd.prog laOps Q 43 (At laOps 87 (laTab N M b5 b6 b7 w0) (laBase N M b5 b6 b7 w0) (fun w => Inv2 w0 b5 b6 N M w ∧ SetIn 24 b7 (N ||| M) w) (l.setIfInBounds 43 true)) a w := by
  have hown := laOwn N M b5 b6 b7 w0
  have hH := laHold N M b5 b6 b7 w0
  obtain ⟨o, ho⟩ : ∃ o, laOps[43]? = some o := Option.isSome_iff_exists.1 (by kernel_rfl)
  have hop : o.op = Op.call { callee := Callee.value (Operand.func 16), args := #[Operand.tmp 57], argTypes := #[24] } := op_of ho (by kernel_rfl)
  have hg : guardOk laOps a o := h.guard hown (guard_of ho (g := some (34, true)) (by kernel_rfl)) (dep hd 34 (by kernel_rfl)) rfl (by decide +kernel)
  have v57 : a.eval (.tmp 57) = sv N := h.done 42 57 (dep hd 42 (by kernel_rfl)) (by kernel_rfl)
  refine h.calls hown hH ho hg (f := 16) (args := #[sv N]) ?_ ((lenN N w).mono ?_)
  · rw [exec_call (enters_of Tryd.func16 (by kernel_rfl) rfl) hop]
    simp only [List.map_toArray, List.map_cons, List.map_nil, v57]
    try rfl
  rintro e w' ⟨rfl, hb⟩
  exact ⟨_, rfl, hb, rfl⟩
theorem laSt44 (hR : laRows N M b5 b6 b7 w0) (h : At laOps 87 (laTab N M b5 b6 b7 w0) (laBase N M b5 b6 b7 w0) (fun w => Inv2 w0 b5 b6 N M w ∧ SetIn 24 b7 (N ||| M) w) l a w) (hd : ∀ o : Oper, laOps[44]? = some o → ∀ e ∈ o.after.toList, Region.binds .any e = true → l.getD e.on false = true) : wpOp Tryd.prog laOps Q 44 (At laOps 87 (laTab N M b5 b6 b7 w0) (laBase N M b5 b6 b7 w0) (fun w => Inv2 w0 b5 b6 N M w ∧ SetIn 24 b7 (N ||| M) w) (l.setIfInBounds 44 true)) a w := by
  have hown := laOwn N M b5 b6 b7 w0
  have hH := laHold N M b5 b6 b7 w0
  obtain ⟨o, ho⟩ : ∃ o, laOps[44]? = some o := Option.isSome_iff_exists.1 (by kernel_rfl)
  have hop : o.op = Op.load 24 (Operand.tmp 6) := op_of ho (by kernel_rfl)
  have hg : guardOk laOps a o := h.guard hown (guard_of ho (g := some (34, true)) (by kernel_rfl)) (dep hd 34 (by kernel_rfl)) rfl (by decide +kernel)
  have v6 : a.eval (.tmp 6) = .pointer (some ⟨b6, 0, none⟩) := h.fixed 6 _ rfl
  exact h.yields hown hH ho hg (v := sv M) (w' := w) (by simp only [execOp, hop, v6]; simp only [Sem.run_bind, load_set (h.hold.1.2.1), Result.andThen_ok, Sem.run_pure]) (Below.refl _ _) rfl
theorem laSt45 (hR : laRows N M b5 b6 b7 w0) (h : At laOps 87 (laTab N M b5 b6 b7 w0) (laBase N M b5 b6 b7 w0) (fun w => Inv2 w0 b5 b6 N M w ∧ SetIn 24 b7 (N ||| M) w) l a w) (hd : ∀ o : Oper, laOps[45]? = some o → ∀ e ∈ o.after.toList, Region.binds .any e = true → l.getD e.on false = true) : wpOp Tryd.prog laOps Q 45 (At laOps 87 (laTab N M b5 b6 b7 w0) (laBase N M b5 b6 b7 w0) (fun w => Inv2 w0 b5 b6 N M w ∧ SetIn 24 b7 (N ||| M) w) (l.setIfInBounds 45 true)) a w := by
  have hown := laOwn N M b5 b6 b7 w0
  have hH := laHold N M b5 b6 b7 w0
  obtain ⟨o, ho⟩ : ∃ o, laOps[45]? = some o := Option.isSome_iff_exists.1 (by kernel_rfl)
  have hop : o.op = Op.call { callee := Callee.value (Operand.func 16), args := #[Operand.tmp 59], argTypes := #[24] } := op_of ho (by kernel_rfl)
  have hg : guardOk laOps a o := h.guard hown (guard_of ho (g := some (34, true)) (by kernel_rfl)) (dep hd 34 (by kernel_rfl)) rfl (by decide +kernel)
  have v59 : a.eval (.tmp 59) = sv M := h.done 44 59 (dep hd 44 (by kernel_rfl)) (by kernel_rfl)
  refine h.calls hown hH ho hg (f := 16) (args := #[sv M]) ?_ ((lenN M w).mono ?_)
  · rw [exec_call (enters_of Tryd.func16 (by kernel_rfl) rfl) hop]
    simp only [List.map_toArray, List.map_cons, List.map_nil, v59]
    try rfl
  rintro e w' ⟨rfl, hb⟩
  exact ⟨_, rfl, hb, rfl⟩
theorem laSt46 (hR : laRows N M b5 b6 b7 w0) (h : At laOps 87 (laTab N M b5 b6 b7 w0) (laBase N M b5 b6 b7 w0) (fun w => Inv2 w0 b5 b6 N M w ∧ SetIn 24 b7 (N ||| M) w) l a w) (hd : ∀ o : Oper, laOps[46]? = some o → ∀ e ∈ o.after.toList, Region.binds .any e = true → l.getD e.on false = true) : wpOp Tryd.prog laOps Q 46 (At laOps 87 (laTab N M b5 b6 b7 w0) (laBase N M b5 b6 b7 w0) (fun w => Inv2 w0 b5 b6 N M w ∧ SetIn 24 b7 (N ||| M) w) (l.setIfInBounds 46 true)) a w := by
  have hown := laOwn N M b5 b6 b7 w0
  have hH := laHold N M b5 b6 b7 w0
  obtain ⟨o, ho⟩ : ∃ o, laOps[46]? = some o := Option.isSome_iff_exists.1 (by kernel_rfl)
  have hop : o.op = Op.binOp BinOp.add 3 (Operand.tmp 58) (Operand.tmp 60) 3 := op_of ho (by kernel_rfl)
  have hg : guardOk laOps a o := h.guard hown (guard_of ho (g := some (34, true)) (by kernel_rfl)) (dep hd 34 (by kernel_rfl)) rfl (by decide +kernel)
  have v58 : a.eval (.tmp 58) = .int .i64 ((plcI N).length : Int) := h.done 43 58 (dep hd 43 (by kernel_rfl)) (by kernel_rfl)
  have v60 : a.eval (.tmp 60) = .int .i64 ((plcI M).length : Int) := h.done 45 60 (dep hd 45 (by kernel_rfl)) (by kernel_rfl)
  exact h.yields hown hH ho hg (v := .int .i64 (((plcI N).length : Int) + ((plcI M).length : Int))) (w' := w) (by simp only [execOp, hop, v58, v60]; go_simp; exact hR.w2) (Below.refl _ _) rfl
theorem laSt47 (hR : laRows N M b5 b6 b7 w0) (h : At laOps 87 (laTab N M b5 b6 b7 w0) (laBase N M b5 b6 b7 w0) (fun w => Inv2 w0 b5 b6 N M w ∧ SetIn 24 b7 (N ||| M) w) l a w) (hd : ∀ o : Oper, laOps[47]? = some o → ∀ e ∈ o.after.toList, Region.binds .any e = true → l.getD e.on false = true) : wpOp Tryd.prog laOps Q 47 (At laOps 87 (laTab N M b5 b6 b7 w0) (laBase N M b5 b6 b7 w0) (fun w => Inv2 w0 b5 b6 N M w ∧ SetIn 24 b7 (N ||| M) w) (l.setIfInBounds 47 true)) a w := by
  have hown := laOwn N M b5 b6 b7 w0
  have hH := laHold N M b5 b6 b7 w0
  obtain ⟨o, ho⟩ : ∃ o, laOps[47]? = some o := Option.isSome_iff_exists.1 (by kernel_rfl)
  have hop : o.op = Op.binOp BinOp.eql 3 (Operand.tmp 56) (Operand.tmp 61) 3 := op_of ho (by kernel_rfl)
  have hg : guardOk laOps a o := h.guard hown (guard_of ho (g := some (34, true)) (by kernel_rfl)) (dep hd 34 (by kernel_rfl)) rfl (by decide +kernel)
  have v56 : a.eval (.tmp 56) = .int .i64 (((plcI (N ||| M)).length : Int) + ((plcI (N &&& M)).length : Int)) := h.done 41 56 (dep hd 41 (by kernel_rfl)) (by kernel_rfl)
  have v61 : a.eval (.tmp 61) = .int .i64 (((plcI N).length : Int) + ((plcI M).length : Int)) := h.done 46 61 (dep hd 46 (by kernel_rfl)) (by kernel_rfl)
  exact h.yields hown hH ho hg (v := .bool true) (w' := w) (by simp only [execOp, hop, v56, v61]; go_simp; exact hR.cnt) (Below.refl _ _) rfl
theorem laSt48 (hR : laRows N M b5 b6 b7 w0) (h : At laOps 87 (laTab N M b5 b6 b7 w0) (laBase N M b5 b6 b7 w0) (fun w => Inv2 w0 b5 b6 N M w ∧ SetIn 24 b7 (N ||| M) w) l a w) (hd : ∀ o : Oper, laOps[48]? = some o → ∀ e ∈ o.after.toList, Region.binds .any e = true → l.getD e.on false = true) : wpOp Tryd.prog laOps Q 48 (At laOps 87 (laTab N M b5 b6 b7 w0) (laBase N M b5 b6 b7 w0) (fun w => Inv2 w0 b5 b6 N M w ∧ SetIn 24 b7 (N ||| M) w) (l.setIfInBounds 48 true)) a w := by
  have hown := laOwn N M b5 b6 b7 w0
  have hH := laHold N M b5 b6 b7 w0
  obtain ⟨o, ho⟩ : ∃ o, laOps[48]? = some o := Option.isSome_iff_exists.1 (by kernel_rfl)
  have hop : o.op = Op.pick (Operand.tmp 49) (Operand.tmp 62) (Operand.const (Value.bool false)) := op_of ho (by kernel_rfl)
  have hg : guardOk laOps a o := guard_none (guard_of ho (by kernel_rfl))
  have v49 : a.eval (.tmp 49) = .bool true := h.done 34 49 (dep hd 34 (by kernel_rfl)) (by kernel_rfl)
  have v62 : a.eval (.tmp 62) = .bool true := h.done 47 62 (dep hd 47 (by kernel_rfl)) (by kernel_rfl)
  exact h.yields hown hH ho hg (v := .bool true) (w' := w) (by simp only [execOp, hop, v49, v62]; kernel_rfl) (Below.refl _ _) rfl
theorem laSt49 (hR : laRows N M b5 b6 b7 w0) (h : At laOps 87 (laTab N M b5 b6 b7 w0) (laBase N M b5 b6 b7 w0) (fun w => Inv2 w0 b5 b6 N M w ∧ SetIn 24 b7 (N ||| M) w) l a w) (hd : ∀ o : Oper, laOps[49]? = some o → ∀ e ∈ o.after.toList, Region.binds .any e = true → l.getD e.on false = true) : wpOp Tryd.prog laOps Q 49 (At laOps 87 (laTab N M b5 b6 b7 w0) (laBase N M b5 b6 b7 w0) (fun w => Inv2 w0 b5 b6 N M w ∧ SetIn 24 b7 (N ||| M) w) (l.setIfInBounds 49 true)) a w := by
  have hown := laOwn N M b5 b6 b7 w0
  have hH := laHold N M b5 b6 b7 w0
  obtain ⟨o, ho⟩ : ∃ o, laOps[49]? = some o := Option.isSome_iff_exists.1 (by kernel_rfl)
  have hop : o.op = Op.move (Operand.tmp 63) := op_of ho (by kernel_rfl)
  have hg : guardOk laOps a o := guard_none (guard_of ho (by kernel_rfl))
  have v63 : a.eval (.tmp 63) = .bool true := h.done 48 63 (dep hd 48 (by kernel_rfl)) (by kernel_rfl)
  exact h.yields hown hH ho hg (v := .bool true) (w' := w) (by simp only [execOp, hop, v63]; kernel_rfl) (Below.refl _ _) rfl
theorem laSt50 (hR : laRows N M b5 b6 b7 w0) (h : At laOps 87 (laTab N M b5 b6 b7 w0) (laBase N M b5 b6 b7 w0) (fun w => Inv2 w0 b5 b6 N M w ∧ SetIn 24 b7 (N ||| M) w) l a w) (hd : ∀ o : Oper, laOps[50]? = some o → ∀ e ∈ o.after.toList, Region.binds .any e = true → l.getD e.on false = true) : wpOp Tryd.prog laOps Q 50 (At laOps 87 (laTab N M b5 b6 b7 w0) (laBase N M b5 b6 b7 w0) (fun w => Inv2 w0 b5 b6 N M w ∧ SetIn 24 b7 (N ||| M) w) (l.setIfInBounds 50 true)) a w := by
  have hown := laOwn N M b5 b6 b7 w0
  have hH := laHold N M b5 b6 b7 w0
  obtain ⟨o, ho⟩ : ∃ o, laOps[50]? = some o := Option.isSome_iff_exists.1 (by kernel_rfl)
  have hop : o.op = Op.load 24 (Operand.tmp 7) := op_of ho (by kernel_rfl)
  have hg : guardOk laOps a o := h.guard hown (guard_of ho (g := some (49, true)) (by kernel_rfl)) (dep hd 49 (by kernel_rfl)) rfl (by decide +kernel)
  have v7 : a.eval (.tmp 7) = .pointer (some ⟨b7, 0, none⟩) := h.fixed 7 _ rfl
  exact h.yields hown hH ho hg (v := sv (N ||| M)) (w' := w) (by simp only [execOp, hop, v7]; simp only [Sem.run_bind, load_set (h.hold.2), Result.andThen_ok, Sem.run_pure]) (Below.refl _ _) rfl
theorem laSt51 (hR : laRows N M b5 b6 b7 w0) (h : At laOps 87 (laTab N M b5 b6 b7 w0) (laBase N M b5 b6 b7 w0) (fun w => Inv2 w0 b5 b6 N M w ∧ SetIn 24 b7 (N ||| M) w) l a w) (hd : ∀ o : Oper, laOps[51]? = some o → ∀ e ∈ o.after.toList, Region.binds .any e = true → l.getD e.on false = true) : wpOp Tryd.prog laOps Q 51 (At laOps 87 (laTab N M b5 b6 b7 w0) (laBase N M b5 b6 b7 w0) (fun w => Inv2 w0 b5 b6 N M w ∧ SetIn 24 b7 (N ||| M) w) (l.setIfInBounds 51 true)) a w := by
  have hown := laOwn N M b5 b6 b7 w0
  have hH := laHold N M b5 b6 b7 w0
  obtain ⟨o, ho⟩ : ∃ o, laOps[51]? = some o := Option.isSome_iff_exists.1 (by kernel_rfl)
  have hop : o.op = Op.load 24 (Operand.tmp 6) := op_of ho (by kernel_rfl)
  have hg : guardOk laOps a o := h.guard hown (guard_of ho (g := some (49, true)) (by kernel_rfl)) (dep hd 49 (by kernel_rfl)) rfl (by decide +kernel)
  have v6 : a.eval (.tmp 6) = .pointer (some ⟨b6, 0, none⟩) := h.fixed 6 _ rfl
  exact h.yields hown hH ho hg (v := sv M) (w' := w) (by simp only [execOp, hop, v6]; simp only [Sem.run_bind, load_set (h.hold.1.2.1), Result.andThen_ok, Sem.run_pure]) (Below.refl _ _) rfl
theorem laSt52 (hR : laRows N M b5 b6 b7 w0) (h : At laOps 87 (laTab N M b5 b6 b7 w0) (laBase N M b5 b6 b7 w0) (fun w => Inv2 w0 b5 b6 N M w ∧ SetIn 24 b7 (N ||| M) w) l a w) (hd : ∀ o : Oper, laOps[52]? = some o → ∀ e ∈ o.after.toList, Region.binds .any e = true → l.getD e.on false = true) : wpOp Tryd.prog laOps Q 52 (At laOps 87 (laTab N M b5 b6 b7 w0) (laBase N M b5 b6 b7 w0) (fun w => Inv2 w0 b5 b6 N M w ∧ SetIn 24 b7 (N ||| M) w) (l.setIfInBounds 52 true)) a w := by
  have hown := laOwn N M b5 b6 b7 w0
  have hH := laHold N M b5 b6 b7 w0
  obtain ⟨o, ho⟩ : ∃ o, laOps[52]? = some o := Option.isSome_iff_exists.1 (by kernel_rfl)
  have hop : o.op = Op.call { callee := Callee.value (Operand.func 26), args := #[Operand.tmp 65, Operand.tmp 66], argTypes := #[24, 24] } := op_of ho (by kernel_rfl)
  have hg : guardOk laOps a o := h.guard hown (guard_of ho (g := some (49, true)) (by kernel_rfl)) (dep hd 49 (by kernel_rfl)) rfl (by decide +kernel)
  have v65 : a.eval (.tmp 65) = sv (N ||| M) := h.done 50 65 (dep hd 50 (by kernel_rfl)) (by kernel_rfl)
  have v66 : a.eval (.tmp 66) = sv M := h.done 51 66 (dep hd 51 (by kernel_rfl)) (by kernel_rfl)
  refine h.calls hown hH ho hg (f := 26) (args := #[sv (N ||| M), sv M]) ?_ ((less_is (N ||| M) M (less (N ||| M) M) rfl w).mono ?_)
  · rw [exec_call (enters_of Tryd.func26 (by kernel_rfl) rfl) hop]
    simp only [List.map_toArray, List.map_cons, List.map_nil, v65, v66]
    try rfl
  rintro e w' ⟨rfl, hb⟩
  exact ⟨_, rfl, hb, rfl⟩
theorem laSt53 (hR : laRows N M b5 b6 b7 w0) (h : At laOps 87 (laTab N M b5 b6 b7 w0) (laBase N M b5 b6 b7 w0) (fun w => Inv2 w0 b5 b6 N M w ∧ SetIn 24 b7 (N ||| M) w) l a w) (hd : ∀ o : Oper, laOps[53]? = some o → ∀ e ∈ o.after.toList, Region.binds .any e = true → l.getD e.on false = true) : wpOp Tryd.prog laOps Q 53 (At laOps 87 (laTab N M b5 b6 b7 w0) (laBase N M b5 b6 b7 w0) (fun w => Inv2 w0 b5 b6 N M w ∧ SetIn 24 b7 (N ||| M) w) (l.setIfInBounds 53 true)) a w := by
  have hown := laOwn N M b5 b6 b7 w0
  have hH := laHold N M b5 b6 b7 w0
  obtain ⟨o, ho⟩ : ∃ o, laOps[53]? = some o := Option.isSome_iff_exists.1 (by kernel_rfl)
  have hop : o.op = Op.load 24 (Operand.tmp 6) := op_of ho (by kernel_rfl)
  have hg : guardOk laOps a o := h.guard hown (guard_of ho (g := some (49, true)) (by kernel_rfl)) (dep hd 49 (by kernel_rfl)) rfl (by decide +kernel)
  have v6 : a.eval (.tmp 6) = .pointer (some ⟨b6, 0, none⟩) := h.fixed 6 _ rfl
  exact h.yields hown hH ho hg (v := sv M) (w' := w) (by simp only [execOp, hop, v6]; simp only [Sem.run_bind, load_set (h.hold.1.2.1), Result.andThen_ok, Sem.run_pure]) (Below.refl _ _) rfl
theorem laSt54 (hR : laRows N M b5 b6 b7 w0) (h : At laOps 87 (laTab N M b5 b6 b7 w0) (laBase N M b5 b6 b7 w0) (fun w => Inv2 w0 b5 b6 N M w ∧ SetIn 24 b7 (N ||| M) w) l a w) (hd : ∀ o : Oper, laOps[54]? = some o → ∀ e ∈ o.after.toList, Region.binds .any e = true → l.getD e.on false = true) : wpOp Tryd.prog laOps Q 54 (At laOps 87 (laTab N M b5 b6 b7 w0) (laBase N M b5 b6 b7 w0) (fun w => Inv2 w0 b5 b6 N M w ∧ SetIn 24 b7 (N ||| M) w) (l.setIfInBounds 54 true)) a w := by
  have hown := laOwn N M b5 b6 b7 w0
  have hH := laHold N M b5 b6 b7 w0
  obtain ⟨o, ho⟩ : ∃ o, laOps[54]? = some o := Option.isSome_iff_exists.1 (by kernel_rfl)
  have hop : o.op = Op.call { callee := Callee.value (Operand.func 24), args := #[Operand.tmp 67, Operand.tmp 68], argTypes := #[24, 24] } := op_of ho (by kernel_rfl)
  have hg : guardOk laOps a o := h.guard hown (guard_of ho (g := some (49, true)) (by kernel_rfl)) (dep hd 49 (by kernel_rfl)) rfl (by decide +kernel)
  have v67 : a.eval (.tmp 67) = sv (less (N ||| M) M) := h.done 52 67 (dep hd 52 (by kernel_rfl)) (by kernel_rfl)
  have v68 : a.eval (.tmp 68) = sv M := h.done 53 68 (dep hd 53 (by kernel_rfl)) (by kernel_rfl)
  refine h.calls hown hH ho hg (f := 24) (args := #[sv (less (N ||| M) M), sv M]) ?_ ((or_is (less (N ||| M) M) M (N ||| M) hR.e5 w).mono ?_)
  · rw [exec_call (enters_of Tryd.func24 (by kernel_rfl) rfl) hop]
    simp only [List.map_toArray, List.map_cons, List.map_nil, v67, v68]
    try rfl
  rintro e w' ⟨rfl, hb⟩
  exact ⟨_, rfl, hb, rfl⟩
theorem laSt55 (hR : laRows N M b5 b6 b7 w0) (h : At laOps 87 (laTab N M b5 b6 b7 w0) (laBase N M b5 b6 b7 w0) (fun w => Inv2 w0 b5 b6 N M w ∧ SetIn 24 b7 (N ||| M) w) l a w) (hd : ∀ o : Oper, laOps[55]? = some o → ∀ e ∈ o.after.toList, Region.binds .any e = true → l.getD e.on false = true) : wpOp Tryd.prog laOps Q 55 (At laOps 87 (laTab N M b5 b6 b7 w0) (laBase N M b5 b6 b7 w0) (fun w => Inv2 w0 b5 b6 N M w ∧ SetIn 24 b7 (N ||| M) w) (l.setIfInBounds 55 true)) a w := by
  have hown := laOwn N M b5 b6 b7 w0
  have hH := laHold N M b5 b6 b7 w0
  obtain ⟨o, ho⟩ : ∃ o, laOps[55]? = some o := Option.isSome_iff_exists.1 (by kernel_rfl)
  have hop : o.op = Op.load 24 (Operand.tmp 7) := op_of ho (by kernel_rfl)
  have hg : guardOk laOps a o := h.guard hown (guard_of ho (g := some (49, true)) (by kernel_rfl)) (dep hd 49 (by kernel_rfl)) rfl (by decide +kernel)
  have v7 : a.eval (.tmp 7) = .pointer (some ⟨b7, 0, none⟩) := h.fixed 7 _ rfl
  exact h.yields hown hH ho hg (v := sv (N ||| M)) (w' := w) (by simp only [execOp, hop, v7]; simp only [Sem.run_bind, load_set (h.hold.2), Result.andThen_ok, Sem.run_pure]) (Below.refl _ _) rfl
theorem laSt56 (hR : laRows N M b5 b6 b7 w0) (h : At laOps 87 (laTab N M b5 b6 b7 w0) (laBase N M b5 b6 b7 w0) (fun w => Inv2 w0 b5 b6 N M w ∧ SetIn 24 b7 (N ||| M) w) l a w) (hd : ∀ o : Oper, laOps[56]? = some o → ∀ e ∈ o.after.toList, Region.binds .any e = true → l.getD e.on false = true) : wpOp Tryd.prog laOps Q 56 (At laOps 87 (laTab N M b5 b6 b7 w0) (laBase N M b5 b6 b7 w0) (fun w => Inv2 w0 b5 b6 N M w ∧ SetIn 24 b7 (N ||| M) w) (l.setIfInBounds 56 true)) a w := by
  have hown := laOwn N M b5 b6 b7 w0
  have hH := laHold N M b5 b6 b7 w0
  obtain ⟨o, ho⟩ : ∃ o, laOps[56]? = some o := Option.isSome_iff_exists.1 (by kernel_rfl)
  have hop : o.op = Op.binOp BinOp.eql 24 (Operand.tmp 69) (Operand.tmp 70) 24 := op_of ho (by kernel_rfl)
  have hg : guardOk laOps a o := h.guard hown (guard_of ho (g := some (49, true)) (by kernel_rfl)) (dep hd 49 (by kernel_rfl)) rfl (by decide +kernel)
  have v69 : a.eval (.tmp 69) = sv (N ||| M) := h.done 54 69 (dep hd 54 (by kernel_rfl)) (by kernel_rfl)
  have v70 : a.eval (.tmp 70) = sv (N ||| M) := h.done 55 70 (dep hd 55 (by kernel_rfl)) (by kernel_rfl)
  exact h.yields hown hH ho hg (v := .bool true) (w' := w) (by simp only [execOp, hop, v69, v70]; simp only [Sem.run_bind, run_eqGuard_agg (P := Tryd.prog) (w := w) _ _ _ _ _ _ eqg, run_eql_struct, equal_same (N ||| M) hR.fo, Result.andThen_ok, Sem.run_pure]) (Below.refl _ _) rfl
theorem laSt57 (hR : laRows N M b5 b6 b7 w0) (h : At laOps 87 (laTab N M b5 b6 b7 w0) (laBase N M b5 b6 b7 w0) (fun w => Inv2 w0 b5 b6 N M w ∧ SetIn 24 b7 (N ||| M) w) l a w) (hd : ∀ o : Oper, laOps[57]? = some o → ∀ e ∈ o.after.toList, Region.binds .any e = true → l.getD e.on false = true) : wpOp Tryd.prog laOps Q 57 (At laOps 87 (laTab N M b5 b6 b7 w0) (laBase N M b5 b6 b7 w0) (fun w => Inv2 w0 b5 b6 N M w ∧ SetIn 24 b7 (N ||| M) w) (l.setIfInBounds 57 true)) a w := by
  have hown := laOwn N M b5 b6 b7 w0
  have hH := laHold N M b5 b6 b7 w0
  obtain ⟨o, ho⟩ : ∃ o, laOps[57]? = some o := Option.isSome_iff_exists.1 (by kernel_rfl)
  have hop : o.op = Op.pick (Operand.tmp 64) (Operand.tmp 71) (Operand.const (Value.bool false)) := op_of ho (by kernel_rfl)
  have hg : guardOk laOps a o := guard_none (guard_of ho (by kernel_rfl))
  have v64 : a.eval (.tmp 64) = .bool true := h.done 49 64 (dep hd 49 (by kernel_rfl)) (by kernel_rfl)
  have v71 : a.eval (.tmp 71) = .bool true := h.done 56 71 (dep hd 56 (by kernel_rfl)) (by kernel_rfl)
  exact h.yields hown hH ho hg (v := .bool true) (w' := w) (by simp only [execOp, hop, v64, v71]; kernel_rfl) (Below.refl _ _) rfl
theorem laSt58 (hR : laRows N M b5 b6 b7 w0) (h : At laOps 87 (laTab N M b5 b6 b7 w0) (laBase N M b5 b6 b7 w0) (fun w => Inv2 w0 b5 b6 N M w ∧ SetIn 24 b7 (N ||| M) w) l a w) (hd : ∀ o : Oper, laOps[58]? = some o → ∀ e ∈ o.after.toList, Region.binds .any e = true → l.getD e.on false = true) : wpOp Tryd.prog laOps Q 58 (At laOps 87 (laTab N M b5 b6 b7 w0) (laBase N M b5 b6 b7 w0) (fun w => Inv2 w0 b5 b6 N M w ∧ SetIn 24 b7 (N ||| M) w) (l.setIfInBounds 58 true)) a w := by
  have hown := laOwn N M b5 b6 b7 w0
  have hH := laHold N M b5 b6 b7 w0
  obtain ⟨o, ho⟩ : ∃ o, laOps[58]? = some o := Option.isSome_iff_exists.1 (by kernel_rfl)
  have hop : o.op = Op.move (Operand.tmp 72) := op_of ho (by kernel_rfl)
  have hg : guardOk laOps a o := guard_none (guard_of ho (by kernel_rfl))
  have v72 : a.eval (.tmp 72) = .bool true := h.done 57 72 (dep hd 57 (by kernel_rfl)) (by kernel_rfl)
  exact h.yields hown hH ho hg (v := .bool true) (w' := w) (by simp only [execOp, hop, v72]; kernel_rfl) (Below.refl _ _) rfl
theorem laSt59 (hR : laRows N M b5 b6 b7 w0) (h : At laOps 87 (laTab N M b5 b6 b7 w0) (laBase N M b5 b6 b7 w0) (fun w => Inv2 w0 b5 b6 N M w ∧ SetIn 24 b7 (N ||| M) w) l a w) (hd : ∀ o : Oper, laOps[59]? = some o → ∀ e ∈ o.after.toList, Region.binds .any e = true → l.getD e.on false = true) : wpOp Tryd.prog laOps Q 59 (At laOps 87 (laTab N M b5 b6 b7 w0) (laBase N M b5 b6 b7 w0) (fun w => Inv2 w0 b5 b6 N M w ∧ SetIn 24 b7 (N ||| M) w) (l.setIfInBounds 59 true)) a w := by
  have hown := laOwn N M b5 b6 b7 w0
  have hH := laHold N M b5 b6 b7 w0
  obtain ⟨o, ho⟩ : ∃ o, laOps[59]? = some o := Option.isSome_iff_exists.1 (by kernel_rfl)
  have hop : o.op = Op.load 24 (Operand.tmp 5) := op_of ho (by kernel_rfl)
  have hg : guardOk laOps a o := h.guard hown (guard_of ho (g := some (58, true)) (by kernel_rfl)) (dep hd 58 (by kernel_rfl)) rfl (by decide +kernel)
  have v5 : a.eval (.tmp 5) = .pointer (some ⟨b5, 0, none⟩) := h.fixed 5 _ rfl
  exact h.yields hown hH ho hg (v := sv N) (w' := w) (by simp only [execOp, hop, v5]; simp only [Sem.run_bind, load_set (h.hold.1.1), Result.andThen_ok, Sem.run_pure]) (Below.refl _ _) rfl
theorem laSt60 (hR : laRows N M b5 b6 b7 w0) (h : At laOps 87 (laTab N M b5 b6 b7 w0) (laBase N M b5 b6 b7 w0) (fun w => Inv2 w0 b5 b6 N M w ∧ SetIn 24 b7 (N ||| M) w) l a w) (hd : ∀ o : Oper, laOps[60]? = some o → ∀ e ∈ o.after.toList, Region.binds .any e = true → l.getD e.on false = true) : wpOp Tryd.prog laOps Q 60 (At laOps 87 (laTab N M b5 b6 b7 w0) (laBase N M b5 b6 b7 w0) (fun w => Inv2 w0 b5 b6 N M w ∧ SetIn 24 b7 (N ||| M) w) (l.setIfInBounds 60 true)) a w := by
  have hown := laOwn N M b5 b6 b7 w0
  have hH := laHold N M b5 b6 b7 w0
  obtain ⟨o, ho⟩ : ∃ o, laOps[60]? = some o := Option.isSome_iff_exists.1 (by kernel_rfl)
  have hop : o.op = Op.load 24 (Operand.tmp 5) := op_of ho (by kernel_rfl)
  have hg : guardOk laOps a o := h.guard hown (guard_of ho (g := some (58, true)) (by kernel_rfl)) (dep hd 58 (by kernel_rfl)) rfl (by decide +kernel)
  have v5 : a.eval (.tmp 5) = .pointer (some ⟨b5, 0, none⟩) := h.fixed 5 _ rfl
  exact h.yields hown hH ho hg (v := sv N) (w' := w) (by simp only [execOp, hop, v5]; simp only [Sem.run_bind, load_set (h.hold.1.1), Result.andThen_ok, Sem.run_pure]) (Below.refl _ _) rfl
theorem laSt61 (hR : laRows N M b5 b6 b7 w0) (h : At laOps 87 (laTab N M b5 b6 b7 w0) (laBase N M b5 b6 b7 w0) (fun w => Inv2 w0 b5 b6 N M w ∧ SetIn 24 b7 (N ||| M) w) l a w) (hd : ∀ o : Oper, laOps[61]? = some o → ∀ e ∈ o.after.toList, Region.binds .any e = true → l.getD e.on false = true) : wpOp Tryd.prog laOps Q 61 (At laOps 87 (laTab N M b5 b6 b7 w0) (laBase N M b5 b6 b7 w0) (fun w => Inv2 w0 b5 b6 N M w ∧ SetIn 24 b7 (N ||| M) w) (l.setIfInBounds 61 true)) a w := by
  have hown := laOwn N M b5 b6 b7 w0
  have hH := laHold N M b5 b6 b7 w0
  obtain ⟨o, ho⟩ : ∃ o, laOps[61]? = some o := Option.isSome_iff_exists.1 (by kernel_rfl)
  have hop : o.op = Op.call { callee := Callee.value (Operand.func 24), args := #[Operand.tmp 74, Operand.tmp 75], argTypes := #[24, 24] } := op_of ho (by kernel_rfl)
  have hg : guardOk laOps a o := h.guard hown (guard_of ho (g := some (58, true)) (by kernel_rfl)) (dep hd 58 (by kernel_rfl)) rfl (by decide +kernel)
  have v74 : a.eval (.tmp 74) = sv N := h.done 59 74 (dep hd 59 (by kernel_rfl)) (by kernel_rfl)
  have v75 : a.eval (.tmp 75) = sv N := h.done 60 75 (dep hd 60 (by kernel_rfl)) (by kernel_rfl)
  refine h.calls hown hH ho hg (f := 24) (args := #[sv N, sv N]) ?_ ((or_is N N N hR.e6 w).mono ?_)
  · rw [exec_call (enters_of Tryd.func24 (by kernel_rfl) rfl) hop]
    simp only [List.map_toArray, List.map_cons, List.map_nil, v74, v75]
    try rfl
  rintro e w' ⟨rfl, hb⟩
  exact ⟨_, rfl, hb, rfl⟩
theorem laSt62 (hR : laRows N M b5 b6 b7 w0) (h : At laOps 87 (laTab N M b5 b6 b7 w0) (laBase N M b5 b6 b7 w0) (fun w => Inv2 w0 b5 b6 N M w ∧ SetIn 24 b7 (N ||| M) w) l a w) (hd : ∀ o : Oper, laOps[62]? = some o → ∀ e ∈ o.after.toList, Region.binds .any e = true → l.getD e.on false = true) : wpOp Tryd.prog laOps Q 62 (At laOps 87 (laTab N M b5 b6 b7 w0) (laBase N M b5 b6 b7 w0) (fun w => Inv2 w0 b5 b6 N M w ∧ SetIn 24 b7 (N ||| M) w) (l.setIfInBounds 62 true)) a w := by
  have hown := laOwn N M b5 b6 b7 w0
  have hH := laHold N M b5 b6 b7 w0
  obtain ⟨o, ho⟩ : ∃ o, laOps[62]? = some o := Option.isSome_iff_exists.1 (by kernel_rfl)
  have hop : o.op = Op.load 24 (Operand.tmp 5) := op_of ho (by kernel_rfl)
  have hg : guardOk laOps a o := h.guard hown (guard_of ho (g := some (58, true)) (by kernel_rfl)) (dep hd 58 (by kernel_rfl)) rfl (by decide +kernel)
  have v5 : a.eval (.tmp 5) = .pointer (some ⟨b5, 0, none⟩) := h.fixed 5 _ rfl
  exact h.yields hown hH ho hg (v := sv N) (w' := w) (by simp only [execOp, hop, v5]; simp only [Sem.run_bind, load_set (h.hold.1.1), Result.andThen_ok, Sem.run_pure]) (Below.refl _ _) rfl
theorem laSt63 (hR : laRows N M b5 b6 b7 w0) (h : At laOps 87 (laTab N M b5 b6 b7 w0) (laBase N M b5 b6 b7 w0) (fun w => Inv2 w0 b5 b6 N M w ∧ SetIn 24 b7 (N ||| M) w) l a w) (hd : ∀ o : Oper, laOps[63]? = some o → ∀ e ∈ o.after.toList, Region.binds .any e = true → l.getD e.on false = true) : wpOp Tryd.prog laOps Q 63 (At laOps 87 (laTab N M b5 b6 b7 w0) (laBase N M b5 b6 b7 w0) (fun w => Inv2 w0 b5 b6 N M w ∧ SetIn 24 b7 (N ||| M) w) (l.setIfInBounds 63 true)) a w := by
  have hown := laOwn N M b5 b6 b7 w0
  have hH := laHold N M b5 b6 b7 w0
  obtain ⟨o, ho⟩ : ∃ o, laOps[63]? = some o := Option.isSome_iff_exists.1 (by kernel_rfl)
  have hop : o.op = Op.binOp BinOp.eql 24 (Operand.tmp 76) (Operand.tmp 77) 24 := op_of ho (by kernel_rfl)
  have hg : guardOk laOps a o := h.guard hown (guard_of ho (g := some (58, true)) (by kernel_rfl)) (dep hd 58 (by kernel_rfl)) rfl (by decide +kernel)
  have v76 : a.eval (.tmp 76) = sv N := h.done 61 76 (dep hd 61 (by kernel_rfl)) (by kernel_rfl)
  have v77 : a.eval (.tmp 77) = sv N := h.done 62 77 (dep hd 62 (by kernel_rfl)) (by kernel_rfl)
  exact h.yields hown hH ho hg (v := .bool true) (w' := w) (by simp only [execOp, hop, v76, v77]; simp only [Sem.run_bind, run_eqGuard_agg (P := Tryd.prog) (w := w) _ _ _ _ _ _ eqg, run_eql_struct, equal_same N hR.fN, Result.andThen_ok, Sem.run_pure]) (Below.refl _ _) rfl
theorem laSt64 (hR : laRows N M b5 b6 b7 w0) (h : At laOps 87 (laTab N M b5 b6 b7 w0) (laBase N M b5 b6 b7 w0) (fun w => Inv2 w0 b5 b6 N M w ∧ SetIn 24 b7 (N ||| M) w) l a w) (hd : ∀ o : Oper, laOps[64]? = some o → ∀ e ∈ o.after.toList, Region.binds .any e = true → l.getD e.on false = true) : wpOp Tryd.prog laOps Q 64 (At laOps 87 (laTab N M b5 b6 b7 w0) (laBase N M b5 b6 b7 w0) (fun w => Inv2 w0 b5 b6 N M w ∧ SetIn 24 b7 (N ||| M) w) (l.setIfInBounds 64 true)) a w := by
  have hown := laOwn N M b5 b6 b7 w0
  have hH := laHold N M b5 b6 b7 w0
  obtain ⟨o, ho⟩ : ∃ o, laOps[64]? = some o := Option.isSome_iff_exists.1 (by kernel_rfl)
  have hop : o.op = Op.pick (Operand.tmp 73) (Operand.tmp 78) (Operand.const (Value.bool false)) := op_of ho (by kernel_rfl)
  have hg : guardOk laOps a o := guard_none (guard_of ho (by kernel_rfl))
  have v73 : a.eval (.tmp 73) = .bool true := h.done 58 73 (dep hd 58 (by kernel_rfl)) (by kernel_rfl)
  have v78 : a.eval (.tmp 78) = .bool true := h.done 63 78 (dep hd 63 (by kernel_rfl)) (by kernel_rfl)
  exact h.yields hown hH ho hg (v := .bool true) (w' := w) (by simp only [execOp, hop, v73, v78]; kernel_rfl) (Below.refl _ _) rfl
theorem laSt65 (hR : laRows N M b5 b6 b7 w0) (h : At laOps 87 (laTab N M b5 b6 b7 w0) (laBase N M b5 b6 b7 w0) (fun w => Inv2 w0 b5 b6 N M w ∧ SetIn 24 b7 (N ||| M) w) l a w) (hd : ∀ o : Oper, laOps[65]? = some o → ∀ e ∈ o.after.toList, Region.binds .any e = true → l.getD e.on false = true) : wpOp Tryd.prog laOps Q 65 (At laOps 87 (laTab N M b5 b6 b7 w0) (laBase N M b5 b6 b7 w0) (fun w => Inv2 w0 b5 b6 N M w ∧ SetIn 24 b7 (N ||| M) w) (l.setIfInBounds 65 true)) a w := by
  have hown := laOwn N M b5 b6 b7 w0
  have hH := laHold N M b5 b6 b7 w0
  obtain ⟨o, ho⟩ : ∃ o, laOps[65]? = some o := Option.isSome_iff_exists.1 (by kernel_rfl)
  have hop : o.op = Op.move (Operand.tmp 79) := op_of ho (by kernel_rfl)
  have hg : guardOk laOps a o := guard_none (guard_of ho (by kernel_rfl))
  have v79 : a.eval (.tmp 79) = .bool true := h.done 64 79 (dep hd 64 (by kernel_rfl)) (by kernel_rfl)
  exact h.yields hown hH ho hg (v := .bool true) (w' := w) (by simp only [execOp, hop, v79]; kernel_rfl) (Below.refl _ _) rfl
theorem laSt66 (hR : laRows N M b5 b6 b7 w0) (h : At laOps 87 (laTab N M b5 b6 b7 w0) (laBase N M b5 b6 b7 w0) (fun w => Inv2 w0 b5 b6 N M w ∧ SetIn 24 b7 (N ||| M) w) l a w) (hd : ∀ o : Oper, laOps[66]? = some o → ∀ e ∈ o.after.toList, Region.binds .any e = true → l.getD e.on false = true) : wpOp Tryd.prog laOps Q 66 (At laOps 87 (laTab N M b5 b6 b7 w0) (laBase N M b5 b6 b7 w0) (fun w => Inv2 w0 b5 b6 N M w ∧ SetIn 24 b7 (N ||| M) w) (l.setIfInBounds 66 true)) a w := by
  have hown := laOwn N M b5 b6 b7 w0
  have hH := laHold N M b5 b6 b7 w0
  obtain ⟨o, ho⟩ : ∃ o, laOps[66]? = some o := Option.isSome_iff_exists.1 (by kernel_rfl)
  have hop : o.op = Op.load 24 (Operand.tmp 5) := op_of ho (by kernel_rfl)
  have hg : guardOk laOps a o := h.guard hown (guard_of ho (g := some (65, true)) (by kernel_rfl)) (dep hd 65 (by kernel_rfl)) rfl (by decide +kernel)
  have v5 : a.eval (.tmp 5) = .pointer (some ⟨b5, 0, none⟩) := h.fixed 5 _ rfl
  exact h.yields hown hH ho hg (v := sv N) (w' := w) (by simp only [execOp, hop, v5]; simp only [Sem.run_bind, load_set (h.hold.1.1), Result.andThen_ok, Sem.run_pure]) (Below.refl _ _) rfl
theorem laSt67 (hR : laRows N M b5 b6 b7 w0) (h : At laOps 87 (laTab N M b5 b6 b7 w0) (laBase N M b5 b6 b7 w0) (fun w => Inv2 w0 b5 b6 N M w ∧ SetIn 24 b7 (N ||| M) w) l a w) (hd : ∀ o : Oper, laOps[67]? = some o → ∀ e ∈ o.after.toList, Region.binds .any e = true → l.getD e.on false = true) : wpOp Tryd.prog laOps Q 67 (At laOps 87 (laTab N M b5 b6 b7 w0) (laBase N M b5 b6 b7 w0) (fun w => Inv2 w0 b5 b6 N M w ∧ SetIn 24 b7 (N ||| M) w) (l.setIfInBounds 67 true)) a w := by
  have hown := laOwn N M b5 b6 b7 w0
  have hH := laHold N M b5 b6 b7 w0
  obtain ⟨o, ho⟩ : ∃ o, laOps[67]? = some o := Option.isSome_iff_exists.1 (by kernel_rfl)
  have hop : o.op = Op.load 24 (Operand.tmp 5) := op_of ho (by kernel_rfl)
  have hg : guardOk laOps a o := h.guard hown (guard_of ho (g := some (65, true)) (by kernel_rfl)) (dep hd 65 (by kernel_rfl)) rfl (by decide +kernel)
  have v5 : a.eval (.tmp 5) = .pointer (some ⟨b5, 0, none⟩) := h.fixed 5 _ rfl
  exact h.yields hown hH ho hg (v := sv N) (w' := w) (by simp only [execOp, hop, v5]; simp only [Sem.run_bind, load_set (h.hold.1.1), Result.andThen_ok, Sem.run_pure]) (Below.refl _ _) rfl
theorem laSt68 (hR : laRows N M b5 b6 b7 w0) (h : At laOps 87 (laTab N M b5 b6 b7 w0) (laBase N M b5 b6 b7 w0) (fun w => Inv2 w0 b5 b6 N M w ∧ SetIn 24 b7 (N ||| M) w) l a w) (hd : ∀ o : Oper, laOps[68]? = some o → ∀ e ∈ o.after.toList, Region.binds .any e = true → l.getD e.on false = true) : wpOp Tryd.prog laOps Q 68 (At laOps 87 (laTab N M b5 b6 b7 w0) (laBase N M b5 b6 b7 w0) (fun w => Inv2 w0 b5 b6 N M w ∧ SetIn 24 b7 (N ||| M) w) (l.setIfInBounds 68 true)) a w := by
  have hown := laOwn N M b5 b6 b7 w0
  have hH := laHold N M b5 b6 b7 w0
  obtain ⟨o, ho⟩ : ∃ o, laOps[68]? = some o := Option.isSome_iff_exists.1 (by kernel_rfl)
  have hop : o.op = Op.call { callee := Callee.value (Operand.func 26), args := #[Operand.tmp 81, Operand.tmp 82], argTypes := #[24, 24] } := op_of ho (by kernel_rfl)
  have hg : guardOk laOps a o := h.guard hown (guard_of ho (g := some (65, true)) (by kernel_rfl)) (dep hd 65 (by kernel_rfl)) rfl (by decide +kernel)
  have v81 : a.eval (.tmp 81) = sv N := h.done 66 81 (dep hd 66 (by kernel_rfl)) (by kernel_rfl)
  have v82 : a.eval (.tmp 82) = sv N := h.done 67 82 (dep hd 67 (by kernel_rfl)) (by kernel_rfl)
  refine h.calls hown hH ho hg (f := 26) (args := #[sv N, sv N]) ?_ ((less_is N N 0 hR.e7 w).mono ?_)
  · rw [exec_call (enters_of Tryd.func26 (by kernel_rfl) rfl) hop]
    simp only [List.map_toArray, List.map_cons, List.map_nil, v81, v82]
    try rfl
  rintro e w' ⟨rfl, hb⟩
  exact ⟨_, rfl, hb, rfl⟩
theorem laSt69 (hR : laRows N M b5 b6 b7 w0) (h : At laOps 87 (laTab N M b5 b6 b7 w0) (laBase N M b5 b6 b7 w0) (fun w => Inv2 w0 b5 b6 N M w ∧ SetIn 24 b7 (N ||| M) w) l a w) (hd : ∀ o : Oper, laOps[69]? = some o → ∀ e ∈ o.after.toList, Region.binds .any e = true → l.getD e.on false = true) : wpOp Tryd.prog laOps Q 69 (At laOps 87 (laTab N M b5 b6 b7 w0) (laBase N M b5 b6 b7 w0) (fun w => Inv2 w0 b5 b6 N M w ∧ SetIn 24 b7 (N ||| M) w) (l.setIfInBounds 69 true)) a w := by
  have hown := laOwn N M b5 b6 b7 w0
  have hH := laHold N M b5 b6 b7 w0
  obtain ⟨o, ho⟩ : ∃ o, laOps[69]? = some o := Option.isSome_iff_exists.1 (by kernel_rfl)
  have hop : o.op = Op.call { callee := Callee.value (Operand.func 17), args := #[Operand.tmp 83, Operand.const (Value.int IntKind.i64 0)], argTypes := #[24, 3] } := op_of ho (by kernel_rfl)
  have hg : guardOk laOps a o := h.guard hown (guard_of ho (g := some (65, true)) (by kernel_rfl)) (dep hd 65 (by kernel_rfl)) rfl (by decide +kernel)
  have v83 : a.eval (.tmp 83) = sv 0 := h.done 68 83 (dep hd 68 (by kernel_rfl)) (by kernel_rfl)
  refine h.calls hown hH ho hg (f := 17) (args := #[sv 0, .int .i64 0]) ?_ ((nextI 0 0 (-1) (by decide) hR.e8 w h.hold.1.2.2.1 h.hold.1.2.2.2.1).mono ?_)
  · rw [exec_call (enters_of Tryd.func17 (by kernel_rfl) rfl) hop]
    simp only [List.map_toArray, List.map_cons, List.map_nil, v83]
    try rfl
  rintro e w' ⟨rfl, hb⟩
  exact ⟨_, rfl, hb, rfl⟩
theorem laSt70 (hR : laRows N M b5 b6 b7 w0) (h : At laOps 87 (laTab N M b5 b6 b7 w0) (laBase N M b5 b6 b7 w0) (fun w => Inv2 w0 b5 b6 N M w ∧ SetIn 24 b7 (N ||| M) w) l a w) (hd : ∀ o : Oper, laOps[70]? = some o → ∀ e ∈ o.after.toList, Region.binds .any e = true → l.getD e.on false = true) : wpOp Tryd.prog laOps Q 70 (At laOps 87 (laTab N M b5 b6 b7 w0) (laBase N M b5 b6 b7 w0) (fun w => Inv2 w0 b5 b6 N M w ∧ SetIn 24 b7 (N ||| M) w) (l.setIfInBounds 70 true)) a w := by
  have hown := laOwn N M b5 b6 b7 w0
  have hH := laHold N M b5 b6 b7 w0
  obtain ⟨o, ho⟩ : ∃ o, laOps[70]? = some o := Option.isSome_iff_exists.1 (by kernel_rfl)
  have hop : o.op = Op.binOp BinOp.eql 3 (Operand.tmp 84) (Operand.const (Value.int IntKind.i64 (-1))) 3 := op_of ho (by kernel_rfl)
  have hg : guardOk laOps a o := h.guard hown (guard_of ho (g := some (65, true)) (by kernel_rfl)) (dep hd 65 (by kernel_rfl)) rfl (by decide +kernel)
  have v84 : a.eval (.tmp 84) = .int .i64 (-1) := h.done 69 84 (dep hd 69 (by kernel_rfl)) (by kernel_rfl)
  exact h.yields hown hH ho hg (v := .bool true) (w' := w) (by simp only [execOp, hop, v84]; go_simp) (Below.refl _ _) rfl
theorem laSt71 (hR : laRows N M b5 b6 b7 w0) (h : At laOps 87 (laTab N M b5 b6 b7 w0) (laBase N M b5 b6 b7 w0) (fun w => Inv2 w0 b5 b6 N M w ∧ SetIn 24 b7 (N ||| M) w) l a w) (hd : ∀ o : Oper, laOps[71]? = some o → ∀ e ∈ o.after.toList, Region.binds .any e = true → l.getD e.on false = true) : wpOp Tryd.prog laOps Q 71 (At laOps 87 (laTab N M b5 b6 b7 w0) (laBase N M b5 b6 b7 w0) (fun w => Inv2 w0 b5 b6 N M w ∧ SetIn 24 b7 (N ||| M) w) (l.setIfInBounds 71 true)) a w := by
  have hown := laOwn N M b5 b6 b7 w0
  have hH := laHold N M b5 b6 b7 w0
  obtain ⟨o, ho⟩ : ∃ o, laOps[71]? = some o := Option.isSome_iff_exists.1 (by kernel_rfl)
  have hop : o.op = Op.pick (Operand.tmp 80) (Operand.tmp 85) (Operand.const (Value.bool false)) := op_of ho (by kernel_rfl)
  have hg : guardOk laOps a o := guard_none (guard_of ho (by kernel_rfl))
  have v80 : a.eval (.tmp 80) = .bool true := h.done 65 80 (dep hd 65 (by kernel_rfl)) (by kernel_rfl)
  have v85 : a.eval (.tmp 85) = .bool true := h.done 70 85 (dep hd 70 (by kernel_rfl)) (by kernel_rfl)
  exact h.yields hown hH ho hg (v := .bool true) (w' := w) (by simp only [execOp, hop, v80, v85]; kernel_rfl) (Below.refl _ _) rfl
theorem laSt72 (hR : laRows N M b5 b6 b7 w0) (h : At laOps 87 (laTab N M b5 b6 b7 w0) (laBase N M b5 b6 b7 w0) (fun w => Inv2 w0 b5 b6 N M w ∧ SetIn 24 b7 (N ||| M) w) l a w) (hd : ∀ o : Oper, laOps[72]? = some o → ∀ e ∈ o.after.toList, Region.binds .any e = true → l.getD e.on false = true) : wpOp Tryd.prog laOps Q 72 (At laOps 87 (laTab N M b5 b6 b7 w0) (laBase N M b5 b6 b7 w0) (fun w => Inv2 w0 b5 b6 N M w ∧ SetIn 24 b7 (N ||| M) w) (l.setIfInBounds 72 true)) a w := by
  have hown := laOwn N M b5 b6 b7 w0
  have hH := laHold N M b5 b6 b7 w0
  obtain ⟨o, ho⟩ : ∃ o, laOps[72]? = some o := Option.isSome_iff_exists.1 (by kernel_rfl)
  have hop : o.op = Op.assign (Operand.tmp 86) := op_of ho (by kernel_rfl)
  have hg : guardOk laOps a o := guard_none (guard_of ho (by kernel_rfl))
  have v86 : a.eval (.tmp 86) = .bool true := h.done 71 86 (dep hd 71 (by kernel_rfl)) (by kernel_rfl)
  exact h.yields hown hH ho hg (v := .bool true) (w' := w) (by simp only [execOp, hop, v86]; kernel_rfl) (Below.refl _ _) rfl
theorem laSize : laOps.size = 73 := by kernel_rfl
theorem laStep (hR : laRows N M b5 b6 b7 w0) (l : Array Bool) (a : Act) (w : World) (kk : Nat) (h : At laOps 87 (laTab N M b5 b6 b7 w0) (laBase N M b5 b6 b7 w0) (fun w => Inv2 w0 b5 b6 N M w ∧ SetIn 24 b7 (N ||| M) w) l a w) (hi : kk < laOps.size) (hd : ∀ o : Oper, laOps[kk]? = some o → ∀ e ∈ o.after.toList, Region.binds .any e = true → l.getD e.on false = true) : wpOp Tryd.prog laOps Q kk (At laOps 87 (laTab N M b5 b6 b7 w0) (laBase N M b5 b6 b7 w0) (fun w => Inv2 w0 b5 b6 N M w ∧ SetIn 24 b7 (N ||| M) w) (l.setIfInBounds kk true)) a w := by
  rw [laSize] at hi
  match kk, hi, hd with
  | 0, _, hd => exact laSt0 hR h hd
  | 1, _, hd => exact laSt1 hR h hd
  | 2, _, hd => exact laSt2 hR h hd
  | 3, _, hd => exact laSt3 hR h hd
  | 4, _, hd => exact laSt4 hR h hd
  | 5, _, hd => exact laSt5 hR h hd
  | 6, _, hd => exact laSt6 hR h hd
  | 7, _, hd => exact laSt7 hR h hd
  | 8, _, hd => exact laSt8 hR h hd
  | 9, _, hd => exact laSt9 hR h hd
  | 10, _, hd => exact laSt10 hR h hd
  | 11, _, hd => exact laSt11 hR h hd
  | 12, _, hd => exact laSt12 hR h hd
  | 13, _, hd => exact laSt13 hR h hd
  | 14, _, hd => exact laSt14 hR h hd
  | 15, _, hd => exact laSt15 hR h hd
  | 16, _, hd => exact laSt16 hR h hd
  | 17, _, hd => exact laSt17 hR h hd
  | 18, _, hd => exact laSt18 hR h hd
  | 19, _, hd => exact laSt19 hR h hd
  | 20, _, hd => exact laSt20 hR h hd
  | 21, _, hd => exact laSt21 hR h hd
  | 22, _, hd => exact laSt22 hR h hd
  | 23, _, hd => exact laSt23 hR h hd
  | 24, _, hd => exact laSt24 hR h hd
  | 25, _, hd => exact laSt25 hR h hd
  | 26, _, hd => exact laSt26 hR h hd
  | 27, _, hd => exact laSt27 hR h hd
  | 28, _, hd => exact laSt28 hR h hd
  | 29, _, hd => exact laSt29 hR h hd
  | 30, _, hd => exact laSt30 hR h hd
  | 31, _, hd => exact laSt31 hR h hd
  | 32, _, hd => exact laSt32 hR h hd
  | 33, _, hd => exact laSt33 hR h hd
  | 34, _, hd => exact laSt34 hR h hd
  | 35, _, hd => exact laSt35 hR h hd
  | 36, _, hd => exact laSt36 hR h hd
  | 37, _, hd => exact laSt37 hR h hd
  | 38, _, hd => exact laSt38 hR h hd
  | 39, _, hd => exact laSt39 hR h hd
  | 40, _, hd => exact laSt40 hR h hd
  | 41, _, hd => exact laSt41 hR h hd
  | 42, _, hd => exact laSt42 hR h hd
  | 43, _, hd => exact laSt43 hR h hd
  | 44, _, hd => exact laSt44 hR h hd
  | 45, _, hd => exact laSt45 hR h hd
  | 46, _, hd => exact laSt46 hR h hd
  | 47, _, hd => exact laSt47 hR h hd
  | 48, _, hd => exact laSt48 hR h hd
  | 49, _, hd => exact laSt49 hR h hd
  | 50, _, hd => exact laSt50 hR h hd
  | 51, _, hd => exact laSt51 hR h hd
  | 52, _, hd => exact laSt52 hR h hd
  | 53, _, hd => exact laSt53 hR h hd
  | 54, _, hd => exact laSt54 hR h hd
  | 55, _, hd => exact laSt55 hR h hd
  | 56, _, hd => exact laSt56 hR h hd
  | 57, _, hd => exact laSt57 hR h hd
  | 58, _, hd => exact laSt58 hR h hd
  | 59, _, hd => exact laSt59 hR h hd
  | 60, _, hd => exact laSt60 hR h hd
  | 61, _, hd => exact laSt61 hR h hd
  | 62, _, hd => exact laSt62 hR h hd
  | 63, _, hd => exact laSt63 hR h hd
  | 64, _, hd => exact laSt64 hR h hd
  | 65, _, hd => exact laSt65 hR h hd
  | 66, _, hd => exact laSt66 hR h hd
  | 67, _, hd => exact laSt67 hR h hd
  | 68, _, hd => exact laSt68 hR h hd
  | 69, _, hd => exact laSt69 hR h hd
  | 70, _, hd => exact laSt70 hR h hd
  | 71, _, hd => exact laSt71 hR h hd
  | 72, _, hd => exact laSt72 hR h hd
  | k + 73, hi, _ => omega
end

theorem laws_rows (N M b5 b6 b7 : Nat) (hN : fits N) (hM : fits M) (w0 : World) : laRows N M b5 b6 b7 w0 := by
  have cnt : ∀ (l : List Nat) (p q : Nat → Bool), (l.filter fun x => p x || q x).length + (l.filter fun x => p x && q x).length = (l.filter p).length + (l.filter q).length := by
    intro l p q
    induction l with
    | nil => rfl
    | cons x l ih =>
      simp only [List.filter_cons]
      cases p x <;> cases q x <;> simp <;> omega
  have hc : (plcI (N ||| M)).length + (plcI (N &&& M)).length = (plcI N).length + (plcI M).length := by
    have h := cnt (List.range 256) N.testBit M.testBit
    unfold plcI plc
    simp only [List.length_map]
    rw [← h]
    congr 1
    · congr 1; congr 1; funext j; exact Nat.testBit_or N M j
    · congr 1; congr 1; funext j; exact Nat.testBit_and N M j
  have b : ∀ N, (plcI N).length ≤ 256 := plcI_len
  have wr : ∀ x : Int, 0 ≤ x → x ≤ 600 → IntKind.i64.wrap x = x := fun x h0 h1 => by
    have e : x % 2 ^ 64 = x := Int.emod_eq_of_lt h0 (by omega)
    simp only [IntKind.wrap, IntKind.signed, IntKind.bits, e]
    rw [if_neg (by simp; omega)]
  refine ⟨hN, fits_and hN, fits_or hN hM, by unfold fits; decide, Nat.or_comm _ _, Nat.and_comm _ _, ?_, ?_, ?_, Nat.or_self N, ?_, by kernel_rfl, ?_, ?_, by exact_mod_cast hc⟩
  · apply Nat.eq_of_testBit_eq; intro j
    simp only [Nat.testBit_or, Nat.testBit_and, less_bit]
    cases N.testBit j <;> cases M.testBit j <;> rfl
  · apply Nat.eq_of_testBit_eq; intro j
    simp only [Nat.testBit_and, less_bit, Nat.zero_testBit]
    cases N.testBit j <;> cases M.testBit j <;> rfl
  · apply Nat.eq_of_testBit_eq; intro j
    simp only [Nat.testBit_or, less_bit]
    cases N.testBit j <;> cases M.testBit j <;> rfl
  · apply Nat.eq_of_testBit_eq; intro j
    simp only [less_bit, Nat.zero_testBit]
    cases N.testBit j <;> rfl
  · have := b (N ||| M); have := b (N &&& M); exact wr _ (by omega) (by omega)
  · have := b N; have := b M; exact wr _ (by omega) (by omega)
end Go.Proofs.YtidkakcnhgfpoaaDoor
