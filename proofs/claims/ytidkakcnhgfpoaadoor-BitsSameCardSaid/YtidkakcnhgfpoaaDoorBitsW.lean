/- The law's own rows, by program (genW.py): the region that draws its order, one theorem an operation. -/
import Derived.Test.YtidkakcnhgfpoaaDoorBitsU
import Derived.Test.YtidkakcnhgfpoaaDoorBitsV
namespace Go.Proofs.YtidkakcnhgfpoaaDoor
open Go.RowKit Go.Shelf
set_option linter.unusedVariables false
set_option maxRecDepth 100000

theorem of_is (a : Option Addr) (c : Nat) (L : List Int) (M : Nat) (hM : addAll 0 L = M) (w : World) (h : IsL w a c L) (hL : L.length ≤ 1000) :
    Calls Tryd.prog 28 #[.slice a L.length c] w fun e w' => e = .returned (sv M) ∧ Below w.heap.size w w' := by rw [← hM]; exact of_any a c L w h hL
theorem all_is (N : Nat) (L : List Int) (h : plcI N = L) (w : World) (hT : TabAt 0 Lib.deBruijn64tab w) (hw : 0 < w.heap.size) :
    Calls Tryd.prog 20 #[sv N] w fun e w' => OutL w' e L ∧ Below w.heap.size w w' := by rw [← h]; exact all_any N w hT hw
theorem ints_is (a b : Option Addr) (c d : Nat) (A : List Int) (w : World) (hA : IsL w a c A) (hB : IsL w b d A) :
    Calls Tryd.prog 35 #[.slice a A.length c, .slice b A.length d] w fun e w' => e = .returned (.bool true) ∧ Below w.heap.size w w' := by
  have h := ints_any a b c d A A w hA hB
  rw [decide_eq_true rfl] at h
  exact h
/-- The operations of the region. -/
noncomputable def wops : Array Oper := ((Tryd.f21.body).bind (regionOps 2)).getD #[]
/-- What each of them yields. -/
def wtab (S D M b : Nat) : Array Cl := #[.val (sv S),
  .val (.int .i64 3),
  .val (.bool true),
  .val (.bool true),
  .val (sv S),
  .val (.bool true),
  .val (.bool true),
  .val (.bool true),
  .val (sv S),
  .val (.bool false),
  .val (.bool true),
  .val (.bool true),
  .val (.bool true),
  .val (sv S),
  .val (.bool false),
  .val (.bool true),
  .val (.bool true),
  .val (.bool true),
  .val (sv S),
  .val (.bool false),
  .val (.bool true),
  .val (.bool true),
  .val (.bool true),
  .val (sv S),
  .val (.int .i64 3),
  .val (.bool true),
  .val (.bool true),
  .val (.bool true),
  .val (sv S),
  .val (.int .i64 64),
  .val (.bool true),
  .val (.bool true),
  .val (.bool true),
  .val (sv S),
  .val (.int .i64 255),
  .val (.bool true),
  .val (.bool true),
  .val (.bool true),
  .val (sv S),
  .val (.int .i64 (-1)),
  .val (.bool true),
  .val (.bool true),
  .val (.bool true),
  .val (sv S),
  .val (.int .i64 3),
  .val (.bool true),
  .val (.bool true),
  .val (.bool true),
  .val (sv S),
  .val (sv S),
  .val (sv S),
  .val (.bool true),
  .val (.bool true),
  .val (.bool true),
  .val (sv S),
  .val (sv D),
  .lst [3, 255],
  .lst [3, 255],
  .val (.bool true),
  .val (.bool true),
  .val (.bool true),
  .val (sv S),
  .val (sv S),
  .val (sv S),
  .val (.bool true),
  .val (.bool true),
  .val (.bool true),
  .val (sv S),
  .lst [64],
  .val (sv M),
  .val (sv M),
  .lst [64],
  .val (sv M),
  .val (.bool true),
  .val (.bool true),
  .val (.bool true),
  .val (sv S),
  .lst [64],
  .val (sv M),
  .val (sv D),
  .lst [3, 255],
  .val (sv D),
  .val (.bool true),
  .val (.bool true),
  .val (.bool true),
  .lst [1],
  .val (sv 2),
  .lst [2],
  .val (sv 4),
  .val (sv 6),
  .lst [1, 2],
  .lst [1, 2],
  .val (.bool true),
  .val (.bool true),
  .val (.bool true),
  .val (.pointer (some ⟨b, 0, none⟩)),
  .val (.int .u64 8),
  .val (.bool true),
  .val (.bool true),
  .val (.bool true)]
def wbase (b : Nat) : Nat → Option Value := fun s => if s = 1 then some (.pointer (some ⟨b, 0, none⟩)) else none
theorem hown (b : Nat) : ownSlots wops 103 (wbase b) := own_of (bs := [1]) (by kernel_rfl) (fun d hd => by
  unfold wbase
  rw [if_neg]
  intro e
  subst e
  simp at hd)
theorem eqg : Tryd.prog.eqGuardType Tryd.prog.depth 24 = false := by kernel_rfl
section
variable {S D M b : Nat} {w0 : World} {l : Array Bool} {a : Act} {w : World} {Q : Exit → Act → World → Prop}
theorem hH : ∀ w w' : World, Inv w0 b S w → Below w.heap.size w w' → Inv w0 b S w' := fun w w' h k => h.next k
/-- The closed facts that the rows lean on. -/
structure Rowed (S D M : Nat) : Prop where
  ofM : addAll 0 [64] = M
  ofD : addAll 0 [3, 255] = D
  len : ((plc S).length : Int) = 3
  has : hasN S 64 = true ∧ hasN S 65 = false ∧ hasN S (-1) = false ∧ hasN S 320 = false
  next : nextN S 0 = 3 ∧ nextN S 4 = 64 ∧ nextN S 65 = 255 ∧ nextN S 256 = -1 ∧ nextN S (-9) = 3
  a3 : addN S 3 = S
  a256 : addN S 256 = S
  del : delN S 64 = D
  allD : plcI D = [3, 255]
  and : S &&& M = M
  minus : less S M = D
  w8 : wd S 0 = 8
  fS : fits S
  fD : fits D
  fM : fits M
theorem st0 (hR : Rowed S D M) (h : At wops 103 (wtab S D M b) (wbase b) (Inv w0 b S) l a w) (hd : ∀ o : Oper, wops[0]? = some o → ∀ e ∈ o.after.toList, Region.binds .any e = true → l.getD e.on false = true) : wpOp Tryd.prog wops Q 0 (At wops 103 (wtab S D M b) (wbase b) (Inv w0 b S) (l.setIfInBounds 0 true)) a w := by
  obtain ⟨o, ho⟩ : ∃ o, wops[0]? = some o := Option.isSome_iff_exists.1 (by kernel_rfl)
  have hop : o.op = Op.load 24 (Operand.tmp 1) := op_of ho (by kernel_rfl)
  have hg : guardOk wops a o := guard_none (guard_of ho (by kernel_rfl))
  have v1 : a.eval (.tmp 1) = .pointer (some ⟨b, 0, none⟩) := h.fixed 1 _ rfl
  exact h.yields (hown b) hH ho hg (v := sv S) (w' := w) (by simp only [execOp, hop, v1, Sem.run_bind, load_set h.hold.1, Result.andThen_ok, Sem.run_pure]) (Below.refl _ _) rfl
theorem st1 (hR : Rowed S D M) (h : At wops 103 (wtab S D M b) (wbase b) (Inv w0 b S) l a w) (hd : ∀ o : Oper, wops[1]? = some o → ∀ e ∈ o.after.toList, Region.binds .any e = true → l.getD e.on false = true) : wpOp Tryd.prog wops Q 1 (At wops 103 (wtab S D M b) (wbase b) (Inv w0 b S) (l.setIfInBounds 1 true)) a w := by
  obtain ⟨o, ho⟩ : ∃ o, wops[1]? = some o := Option.isSome_iff_exists.1 (by kernel_rfl)
  have hop : o.op = Op.call { callee := Callee.value (Operand.func 16), args := #[Operand.tmp 4], argTypes := #[24] } := op_of ho (by kernel_rfl)
  have hg : guardOk wops a o := guard_none (guard_of ho (by kernel_rfl))
  have v4 : a.eval (.tmp 4) = (sv S) := h.done 0 4 (dep hd 0 (by kernel_rfl)) (by kernel_rfl)
  refine h.calls (hown b) hH ho hg (f := 16) (args := #[sv S]) ?_ ((len_is S 3 hR.len w).mono ?_)
  · rw [exec_call (enters_of Tryd.func16 (by kernel_rfl) rfl) hop]
    simp only [List.map_toArray, List.map_cons, List.map_nil, v4]
    try rfl
  rintro e w' ⟨rfl, hb⟩
  exact ⟨_, rfl, hb, rfl⟩
theorem st2 (hR : Rowed S D M) (h : At wops 103 (wtab S D M b) (wbase b) (Inv w0 b S) l a w) (hd : ∀ o : Oper, wops[2]? = some o → ∀ e ∈ o.after.toList, Region.binds .any e = true → l.getD e.on false = true) : wpOp Tryd.prog wops Q 2 (At wops 103 (wtab S D M b) (wbase b) (Inv w0 b S) (l.setIfInBounds 2 true)) a w := by
  obtain ⟨o, ho⟩ : ∃ o, wops[2]? = some o := Option.isSome_iff_exists.1 (by kernel_rfl)
  have hop : o.op = Op.binOp BinOp.eql 3 (Operand.tmp 5) (Operand.const (Value.int IntKind.i64 3)) 3 := op_of ho (by kernel_rfl)
  have hg : guardOk wops a o := guard_none (guard_of ho (by kernel_rfl))
  have v5 : a.eval (.tmp 5) = (.int .i64 3) := h.done 1 5 (dep hd 1 (by kernel_rfl)) (by kernel_rfl)
  exact h.yields (hown b) hH ho hg (v := (.bool true)) (w' := w) (by simp only [execOp, hop, v5]; kernel_rfl) (Below.refl _ _) rfl
theorem st3 (hR : Rowed S D M) (h : At wops 103 (wtab S D M b) (wbase b) (Inv w0 b S) l a w) (hd : ∀ o : Oper, wops[3]? = some o → ∀ e ∈ o.after.toList, Region.binds .any e = true → l.getD e.on false = true) : wpOp Tryd.prog wops Q 3 (At wops 103 (wtab S D M b) (wbase b) (Inv w0 b S) (l.setIfInBounds 3 true)) a w := by
  obtain ⟨o, ho⟩ : ∃ o, wops[3]? = some o := Option.isSome_iff_exists.1 (by kernel_rfl)
  have hop : o.op = Op.move (Operand.tmp 6) := op_of ho (by kernel_rfl)
  have hg : guardOk wops a o := guard_none (guard_of ho (by kernel_rfl))
  have v6 : a.eval (.tmp 6) = (.bool true) := h.done 2 6 (dep hd 2 (by kernel_rfl)) (by kernel_rfl)
  exact h.yields (hown b) hH ho hg (v := (.bool true)) (w' := w) (by simp only [execOp, hop, v6]; kernel_rfl) (Below.refl _ _) rfl
theorem st4 (hR : Rowed S D M) (h : At wops 103 (wtab S D M b) (wbase b) (Inv w0 b S) l a w) (hd : ∀ o : Oper, wops[4]? = some o → ∀ e ∈ o.after.toList, Region.binds .any e = true → l.getD e.on false = true) : wpOp Tryd.prog wops Q 4 (At wops 103 (wtab S D M b) (wbase b) (Inv w0 b S) (l.setIfInBounds 4 true)) a w := by
  obtain ⟨o, ho⟩ : ∃ o, wops[4]? = some o := Option.isSome_iff_exists.1 (by kernel_rfl)
  have hop : o.op = Op.load 24 (Operand.tmp 1) := op_of ho (by kernel_rfl)
  have hg : guardOk wops a o := h.guard (hown b) (guard_of ho (g := some (3, true)) (by kernel_rfl)) (dep hd 3 (by kernel_rfl)) rfl (by decide +kernel)
  have v1 : a.eval (.tmp 1) = .pointer (some ⟨b, 0, none⟩) := h.fixed 1 _ rfl
  exact h.yields (hown b) hH ho hg (v := sv S) (w' := w) (by simp only [execOp, hop, v1, Sem.run_bind, load_set h.hold.1, Result.andThen_ok, Sem.run_pure]) (Below.refl _ _) rfl
theorem st5 (hR : Rowed S D M) (h : At wops 103 (wtab S D M b) (wbase b) (Inv w0 b S) l a w) (hd : ∀ o : Oper, wops[5]? = some o → ∀ e ∈ o.after.toList, Region.binds .any e = true → l.getD e.on false = true) : wpOp Tryd.prog wops Q 5 (At wops 103 (wtab S D M b) (wbase b) (Inv w0 b S) (l.setIfInBounds 5 true)) a w := by
  obtain ⟨o, ho⟩ : ∃ o, wops[5]? = some o := Option.isSome_iff_exists.1 (by kernel_rfl)
  have hop : o.op = Op.call { callee := Callee.value (Operand.func 9), args := #[Operand.tmp 8, Operand.const (Value.int IntKind.i64 64)], argTypes := #[24, 3] } := op_of ho (by kernel_rfl)
  have hg : guardOk wops a o := h.guard (hown b) (guard_of ho (g := some (3, true)) (by kernel_rfl)) (dep hd 3 (by kernel_rfl)) rfl (by decide +kernel)
  have v8 : a.eval (.tmp 8) = (sv S) := h.done 4 8 (dep hd 4 (by kernel_rfl)) (by kernel_rfl)
  refine h.calls (hown b) hH ho hg (f := 9) (args := #[sv S, .int .i64 (64)]) ?_ ((has_is S (64) true hR.has.1 w).mono ?_)
  · rw [exec_call (enters_of Tryd.func9 (by kernel_rfl) rfl) hop]
    simp only [List.map_toArray, List.map_cons, List.map_nil, v8]
    try rfl
  rintro e w' ⟨rfl, hb⟩
  exact ⟨_, rfl, hb, rfl⟩
theorem st6 (hR : Rowed S D M) (h : At wops 103 (wtab S D M b) (wbase b) (Inv w0 b S) l a w) (hd : ∀ o : Oper, wops[6]? = some o → ∀ e ∈ o.after.toList, Region.binds .any e = true → l.getD e.on false = true) : wpOp Tryd.prog wops Q 6 (At wops 103 (wtab S D M b) (wbase b) (Inv w0 b S) (l.setIfInBounds 6 true)) a w := by
  obtain ⟨o, ho⟩ : ∃ o, wops[6]? = some o := Option.isSome_iff_exists.1 (by kernel_rfl)
  have hop : o.op = Op.pick (Operand.tmp 7) (Operand.tmp 9) (Operand.const (Value.bool false)) := op_of ho (by kernel_rfl)
  have hg : guardOk wops a o := guard_none (guard_of ho (by kernel_rfl))
  have v7 : a.eval (.tmp 7) = (.bool true) := h.done 3 7 (dep hd 3 (by kernel_rfl)) (by kernel_rfl)
  have v9 : a.eval (.tmp 9) = (.bool true) := h.done 5 9 (dep hd 5 (by kernel_rfl)) (by kernel_rfl)
  exact h.yields (hown b) hH ho hg (v := (.bool true)) (w' := w) (by simp only [execOp, hop, v7, v9]; kernel_rfl) (Below.refl _ _) rfl
theorem st7 (hR : Rowed S D M) (h : At wops 103 (wtab S D M b) (wbase b) (Inv w0 b S) l a w) (hd : ∀ o : Oper, wops[7]? = some o → ∀ e ∈ o.after.toList, Region.binds .any e = true → l.getD e.on false = true) : wpOp Tryd.prog wops Q 7 (At wops 103 (wtab S D M b) (wbase b) (Inv w0 b S) (l.setIfInBounds 7 true)) a w := by
  obtain ⟨o, ho⟩ : ∃ o, wops[7]? = some o := Option.isSome_iff_exists.1 (by kernel_rfl)
  have hop : o.op = Op.move (Operand.tmp 10) := op_of ho (by kernel_rfl)
  have hg : guardOk wops a o := guard_none (guard_of ho (by kernel_rfl))
  have v10 : a.eval (.tmp 10) = (.bool true) := h.done 6 10 (dep hd 6 (by kernel_rfl)) (by kernel_rfl)
  exact h.yields (hown b) hH ho hg (v := (.bool true)) (w' := w) (by simp only [execOp, hop, v10]; kernel_rfl) (Below.refl _ _) rfl
theorem st8 (hR : Rowed S D M) (h : At wops 103 (wtab S D M b) (wbase b) (Inv w0 b S) l a w) (hd : ∀ o : Oper, wops[8]? = some o → ∀ e ∈ o.after.toList, Region.binds .any e = true → l.getD e.on false = true) : wpOp Tryd.prog wops Q 8 (At wops 103 (wtab S D M b) (wbase b) (Inv w0 b S) (l.setIfInBounds 8 true)) a w := by
  obtain ⟨o, ho⟩ : ∃ o, wops[8]? = some o := Option.isSome_iff_exists.1 (by kernel_rfl)
  have hop : o.op = Op.load 24 (Operand.tmp 1) := op_of ho (by kernel_rfl)
  have hg : guardOk wops a o := h.guard (hown b) (guard_of ho (g := some (7, true)) (by kernel_rfl)) (dep hd 7 (by kernel_rfl)) rfl (by decide +kernel)
  have v1 : a.eval (.tmp 1) = .pointer (some ⟨b, 0, none⟩) := h.fixed 1 _ rfl
  exact h.yields (hown b) hH ho hg (v := sv S) (w' := w) (by simp only [execOp, hop, v1, Sem.run_bind, load_set h.hold.1, Result.andThen_ok, Sem.run_pure]) (Below.refl _ _) rfl
theorem st9 (hR : Rowed S D M) (h : At wops 103 (wtab S D M b) (wbase b) (Inv w0 b S) l a w) (hd : ∀ o : Oper, wops[9]? = some o → ∀ e ∈ o.after.toList, Region.binds .any e = true → l.getD e.on false = true) : wpOp Tryd.prog wops Q 9 (At wops 103 (wtab S D M b) (wbase b) (Inv w0 b S) (l.setIfInBounds 9 true)) a w := by
  obtain ⟨o, ho⟩ : ∃ o, wops[9]? = some o := Option.isSome_iff_exists.1 (by kernel_rfl)
  have hop : o.op = Op.call { callee := Callee.value (Operand.func 9), args := #[Operand.tmp 12, Operand.const (Value.int IntKind.i64 65)], argTypes := #[24, 3] } := op_of ho (by kernel_rfl)
  have hg : guardOk wops a o := h.guard (hown b) (guard_of ho (g := some (7, true)) (by kernel_rfl)) (dep hd 7 (by kernel_rfl)) rfl (by decide +kernel)
  have v12 : a.eval (.tmp 12) = (sv S) := h.done 8 12 (dep hd 8 (by kernel_rfl)) (by kernel_rfl)
  refine h.calls (hown b) hH ho hg (f := 9) (args := #[sv S, .int .i64 (65)]) ?_ ((has_is S (65) false hR.has.2.1 w).mono ?_)
  · rw [exec_call (enters_of Tryd.func9 (by kernel_rfl) rfl) hop]
    simp only [List.map_toArray, List.map_cons, List.map_nil, v12]
    try rfl
  rintro e w' ⟨rfl, hb⟩
  exact ⟨_, rfl, hb, rfl⟩
theorem st10 (hR : Rowed S D M) (h : At wops 103 (wtab S D M b) (wbase b) (Inv w0 b S) l a w) (hd : ∀ o : Oper, wops[10]? = some o → ∀ e ∈ o.after.toList, Region.binds .any e = true → l.getD e.on false = true) : wpOp Tryd.prog wops Q 10 (At wops 103 (wtab S D M b) (wbase b) (Inv w0 b S) (l.setIfInBounds 10 true)) a w := by
  obtain ⟨o, ho⟩ : ∃ o, wops[10]? = some o := Option.isSome_iff_exists.1 (by kernel_rfl)
  have hop : o.op = Op.unOp UnOp.not 4 (Operand.tmp 13) := op_of ho (by kernel_rfl)
  have hg : guardOk wops a o := h.guard (hown b) (guard_of ho (g := some (7, true)) (by kernel_rfl)) (dep hd 7 (by kernel_rfl)) rfl (by decide +kernel)
  have v13 : a.eval (.tmp 13) = (.bool false) := h.done 9 13 (dep hd 9 (by kernel_rfl)) (by kernel_rfl)
  exact h.yields (hown b) hH ho hg (v := (.bool true)) (w' := w) (by simp only [execOp, hop, v13]; kernel_rfl) (Below.refl _ _) rfl
theorem st11 (hR : Rowed S D M) (h : At wops 103 (wtab S D M b) (wbase b) (Inv w0 b S) l a w) (hd : ∀ o : Oper, wops[11]? = some o → ∀ e ∈ o.after.toList, Region.binds .any e = true → l.getD e.on false = true) : wpOp Tryd.prog wops Q 11 (At wops 103 (wtab S D M b) (wbase b) (Inv w0 b S) (l.setIfInBounds 11 true)) a w := by
  obtain ⟨o, ho⟩ : ∃ o, wops[11]? = some o := Option.isSome_iff_exists.1 (by kernel_rfl)
  have hop : o.op = Op.pick (Operand.tmp 11) (Operand.tmp 14) (Operand.const (Value.bool false)) := op_of ho (by kernel_rfl)
  have hg : guardOk wops a o := guard_none (guard_of ho (by kernel_rfl))
  have v11 : a.eval (.tmp 11) = (.bool true) := h.done 7 11 (dep hd 7 (by kernel_rfl)) (by kernel_rfl)
  have v14 : a.eval (.tmp 14) = (.bool true) := h.done 10 14 (dep hd 10 (by kernel_rfl)) (by kernel_rfl)
  exact h.yields (hown b) hH ho hg (v := (.bool true)) (w' := w) (by simp only [execOp, hop, v11, v14]; kernel_rfl) (Below.refl _ _) rfl
theorem st12 (hR : Rowed S D M) (h : At wops 103 (wtab S D M b) (wbase b) (Inv w0 b S) l a w) (hd : ∀ o : Oper, wops[12]? = some o → ∀ e ∈ o.after.toList, Region.binds .any e = true → l.getD e.on false = true) : wpOp Tryd.prog wops Q 12 (At wops 103 (wtab S D M b) (wbase b) (Inv w0 b S) (l.setIfInBounds 12 true)) a w := by
  obtain ⟨o, ho⟩ : ∃ o, wops[12]? = some o := Option.isSome_iff_exists.1 (by kernel_rfl)
  have hop : o.op = Op.move (Operand.tmp 15) := op_of ho (by kernel_rfl)
  have hg : guardOk wops a o := guard_none (guard_of ho (by kernel_rfl))
  have v15 : a.eval (.tmp 15) = (.bool true) := h.done 11 15 (dep hd 11 (by kernel_rfl)) (by kernel_rfl)
  exact h.yields (hown b) hH ho hg (v := (.bool true)) (w' := w) (by simp only [execOp, hop, v15]; kernel_rfl) (Below.refl _ _) rfl
theorem st13 (hR : Rowed S D M) (h : At wops 103 (wtab S D M b) (wbase b) (Inv w0 b S) l a w) (hd : ∀ o : Oper, wops[13]? = some o → ∀ e ∈ o.after.toList, Region.binds .any e = true → l.getD e.on false = true) : wpOp Tryd.prog wops Q 13 (At wops 103 (wtab S D M b) (wbase b) (Inv w0 b S) (l.setIfInBounds 13 true)) a w := by
  obtain ⟨o, ho⟩ : ∃ o, wops[13]? = some o := Option.isSome_iff_exists.1 (by kernel_rfl)
  have hop : o.op = Op.load 24 (Operand.tmp 1) := op_of ho (by kernel_rfl)
  have hg : guardOk wops a o := h.guard (hown b) (guard_of ho (g := some (12, true)) (by kernel_rfl)) (dep hd 12 (by kernel_rfl)) rfl (by decide +kernel)
  have v1 : a.eval (.tmp 1) = .pointer (some ⟨b, 0, none⟩) := h.fixed 1 _ rfl
  exact h.yields (hown b) hH ho hg (v := sv S) (w' := w) (by simp only [execOp, hop, v1, Sem.run_bind, load_set h.hold.1, Result.andThen_ok, Sem.run_pure]) (Below.refl _ _) rfl
theorem st14 (hR : Rowed S D M) (h : At wops 103 (wtab S D M b) (wbase b) (Inv w0 b S) l a w) (hd : ∀ o : Oper, wops[14]? = some o → ∀ e ∈ o.after.toList, Region.binds .any e = true → l.getD e.on false = true) : wpOp Tryd.prog wops Q 14 (At wops 103 (wtab S D M b) (wbase b) (Inv w0 b S) (l.setIfInBounds 14 true)) a w := by
  obtain ⟨o, ho⟩ : ∃ o, wops[14]? = some o := Option.isSome_iff_exists.1 (by kernel_rfl)
  have hop : o.op = Op.call { callee := Callee.value (Operand.func 9), args := #[Operand.tmp 17, Operand.const (Value.int IntKind.i64 (-1))], argTypes := #[24, 3] } := op_of ho (by kernel_rfl)
  have hg : guardOk wops a o := h.guard (hown b) (guard_of ho (g := some (12, true)) (by kernel_rfl)) (dep hd 12 (by kernel_rfl)) rfl (by decide +kernel)
  have v17 : a.eval (.tmp 17) = (sv S) := h.done 13 17 (dep hd 13 (by kernel_rfl)) (by kernel_rfl)
  refine h.calls (hown b) hH ho hg (f := 9) (args := #[sv S, .int .i64 (-1)]) ?_ ((has_is S (-1) false hR.has.2.2.1 w).mono ?_)
  · rw [exec_call (enters_of Tryd.func9 (by kernel_rfl) rfl) hop]
    simp only [List.map_toArray, List.map_cons, List.map_nil, v17]
    try rfl
  rintro e w' ⟨rfl, hb⟩
  exact ⟨_, rfl, hb, rfl⟩
theorem st15 (hR : Rowed S D M) (h : At wops 103 (wtab S D M b) (wbase b) (Inv w0 b S) l a w) (hd : ∀ o : Oper, wops[15]? = some o → ∀ e ∈ o.after.toList, Region.binds .any e = true → l.getD e.on false = true) : wpOp Tryd.prog wops Q 15 (At wops 103 (wtab S D M b) (wbase b) (Inv w0 b S) (l.setIfInBounds 15 true)) a w := by
  obtain ⟨o, ho⟩ : ∃ o, wops[15]? = some o := Option.isSome_iff_exists.1 (by kernel_rfl)
  have hop : o.op = Op.unOp UnOp.not 4 (Operand.tmp 18) := op_of ho (by kernel_rfl)
  have hg : guardOk wops a o := h.guard (hown b) (guard_of ho (g := some (12, true)) (by kernel_rfl)) (dep hd 12 (by kernel_rfl)) rfl (by decide +kernel)
  have v18 : a.eval (.tmp 18) = (.bool false) := h.done 14 18 (dep hd 14 (by kernel_rfl)) (by kernel_rfl)
  exact h.yields (hown b) hH ho hg (v := (.bool true)) (w' := w) (by simp only [execOp, hop, v18]; kernel_rfl) (Below.refl _ _) rfl
theorem st16 (hR : Rowed S D M) (h : At wops 103 (wtab S D M b) (wbase b) (Inv w0 b S) l a w) (hd : ∀ o : Oper, wops[16]? = some o → ∀ e ∈ o.after.toList, Region.binds .any e = true → l.getD e.on false = true) : wpOp Tryd.prog wops Q 16 (At wops 103 (wtab S D M b) (wbase b) (Inv w0 b S) (l.setIfInBounds 16 true)) a w := by
  obtain ⟨o, ho⟩ : ∃ o, wops[16]? = some o := Option.isSome_iff_exists.1 (by kernel_rfl)
  have hop : o.op = Op.pick (Operand.tmp 16) (Operand.tmp 19) (Operand.const (Value.bool false)) := op_of ho (by kernel_rfl)
  have hg : guardOk wops a o := guard_none (guard_of ho (by kernel_rfl))
  have v16 : a.eval (.tmp 16) = (.bool true) := h.done 12 16 (dep hd 12 (by kernel_rfl)) (by kernel_rfl)
  have v19 : a.eval (.tmp 19) = (.bool true) := h.done 15 19 (dep hd 15 (by kernel_rfl)) (by kernel_rfl)
  exact h.yields (hown b) hH ho hg (v := (.bool true)) (w' := w) (by simp only [execOp, hop, v16, v19]; kernel_rfl) (Below.refl _ _) rfl
theorem st17 (hR : Rowed S D M) (h : At wops 103 (wtab S D M b) (wbase b) (Inv w0 b S) l a w) (hd : ∀ o : Oper, wops[17]? = some o → ∀ e ∈ o.after.toList, Region.binds .any e = true → l.getD e.on false = true) : wpOp Tryd.prog wops Q 17 (At wops 103 (wtab S D M b) (wbase b) (Inv w0 b S) (l.setIfInBounds 17 true)) a w := by
  obtain ⟨o, ho⟩ : ∃ o, wops[17]? = some o := Option.isSome_iff_exists.1 (by kernel_rfl)
  have hop : o.op = Op.move (Operand.tmp 20) := op_of ho (by kernel_rfl)
  have hg : guardOk wops a o := guard_none (guard_of ho (by kernel_rfl))
  have v20 : a.eval (.tmp 20) = (.bool true) := h.done 16 20 (dep hd 16 (by kernel_rfl)) (by kernel_rfl)
  exact h.yields (hown b) hH ho hg (v := (.bool true)) (w' := w) (by simp only [execOp, hop, v20]; kernel_rfl) (Below.refl _ _) rfl
theorem st18 (hR : Rowed S D M) (h : At wops 103 (wtab S D M b) (wbase b) (Inv w0 b S) l a w) (hd : ∀ o : Oper, wops[18]? = some o → ∀ e ∈ o.after.toList, Region.binds .any e = true → l.getD e.on false = true) : wpOp Tryd.prog wops Q 18 (At wops 103 (wtab S D M b) (wbase b) (Inv w0 b S) (l.setIfInBounds 18 true)) a w := by
  obtain ⟨o, ho⟩ : ∃ o, wops[18]? = some o := Option.isSome_iff_exists.1 (by kernel_rfl)
  have hop : o.op = Op.load 24 (Operand.tmp 1) := op_of ho (by kernel_rfl)
  have hg : guardOk wops a o := h.guard (hown b) (guard_of ho (g := some (17, true)) (by kernel_rfl)) (dep hd 17 (by kernel_rfl)) rfl (by decide +kernel)
  have v1 : a.eval (.tmp 1) = .pointer (some ⟨b, 0, none⟩) := h.fixed 1 _ rfl
  exact h.yields (hown b) hH ho hg (v := sv S) (w' := w) (by simp only [execOp, hop, v1, Sem.run_bind, load_set h.hold.1, Result.andThen_ok, Sem.run_pure]) (Below.refl _ _) rfl
theorem st19 (hR : Rowed S D M) (h : At wops 103 (wtab S D M b) (wbase b) (Inv w0 b S) l a w) (hd : ∀ o : Oper, wops[19]? = some o → ∀ e ∈ o.after.toList, Region.binds .any e = true → l.getD e.on false = true) : wpOp Tryd.prog wops Q 19 (At wops 103 (wtab S D M b) (wbase b) (Inv w0 b S) (l.setIfInBounds 19 true)) a w := by
  obtain ⟨o, ho⟩ : ∃ o, wops[19]? = some o := Option.isSome_iff_exists.1 (by kernel_rfl)
  have hop : o.op = Op.call { callee := Callee.value (Operand.func 9), args := #[Operand.tmp 22, Operand.const (Value.int IntKind.i64 320)], argTypes := #[24, 3] } := op_of ho (by kernel_rfl)
  have hg : guardOk wops a o := h.guard (hown b) (guard_of ho (g := some (17, true)) (by kernel_rfl)) (dep hd 17 (by kernel_rfl)) rfl (by decide +kernel)
  have v22 : a.eval (.tmp 22) = (sv S) := h.done 18 22 (dep hd 18 (by kernel_rfl)) (by kernel_rfl)
  refine h.calls (hown b) hH ho hg (f := 9) (args := #[sv S, .int .i64 (320)]) ?_ ((has_is S (320) false hR.has.2.2.2 w).mono ?_)
  · rw [exec_call (enters_of Tryd.func9 (by kernel_rfl) rfl) hop]
    simp only [List.map_toArray, List.map_cons, List.map_nil, v22]
    try rfl
  rintro e w' ⟨rfl, hb⟩
  exact ⟨_, rfl, hb, rfl⟩
theorem st20 (hR : Rowed S D M) (h : At wops 103 (wtab S D M b) (wbase b) (Inv w0 b S) l a w) (hd : ∀ o : Oper, wops[20]? = some o → ∀ e ∈ o.after.toList, Region.binds .any e = true → l.getD e.on false = true) : wpOp Tryd.prog wops Q 20 (At wops 103 (wtab S D M b) (wbase b) (Inv w0 b S) (l.setIfInBounds 20 true)) a w := by
  obtain ⟨o, ho⟩ : ∃ o, wops[20]? = some o := Option.isSome_iff_exists.1 (by kernel_rfl)
  have hop : o.op = Op.unOp UnOp.not 4 (Operand.tmp 23) := op_of ho (by kernel_rfl)
  have hg : guardOk wops a o := h.guard (hown b) (guard_of ho (g := some (17, true)) (by kernel_rfl)) (dep hd 17 (by kernel_rfl)) rfl (by decide +kernel)
  have v23 : a.eval (.tmp 23) = (.bool false) := h.done 19 23 (dep hd 19 (by kernel_rfl)) (by kernel_rfl)
  exact h.yields (hown b) hH ho hg (v := (.bool true)) (w' := w) (by simp only [execOp, hop, v23]; kernel_rfl) (Below.refl _ _) rfl
theorem st21 (hR : Rowed S D M) (h : At wops 103 (wtab S D M b) (wbase b) (Inv w0 b S) l a w) (hd : ∀ o : Oper, wops[21]? = some o → ∀ e ∈ o.after.toList, Region.binds .any e = true → l.getD e.on false = true) : wpOp Tryd.prog wops Q 21 (At wops 103 (wtab S D M b) (wbase b) (Inv w0 b S) (l.setIfInBounds 21 true)) a w := by
  obtain ⟨o, ho⟩ : ∃ o, wops[21]? = some o := Option.isSome_iff_exists.1 (by kernel_rfl)
  have hop : o.op = Op.pick (Operand.tmp 21) (Operand.tmp 24) (Operand.const (Value.bool false)) := op_of ho (by kernel_rfl)
  have hg : guardOk wops a o := guard_none (guard_of ho (by kernel_rfl))
  have v21 : a.eval (.tmp 21) = (.bool true) := h.done 17 21 (dep hd 17 (by kernel_rfl)) (by kernel_rfl)
  have v24 : a.eval (.tmp 24) = (.bool true) := h.done 20 24 (dep hd 20 (by kernel_rfl)) (by kernel_rfl)
  exact h.yields (hown b) hH ho hg (v := (.bool true)) (w' := w) (by simp only [execOp, hop, v21, v24]; kernel_rfl) (Below.refl _ _) rfl
theorem st22 (hR : Rowed S D M) (h : At wops 103 (wtab S D M b) (wbase b) (Inv w0 b S) l a w) (hd : ∀ o : Oper, wops[22]? = some o → ∀ e ∈ o.after.toList, Region.binds .any e = true → l.getD e.on false = true) : wpOp Tryd.prog wops Q 22 (At wops 103 (wtab S D M b) (wbase b) (Inv w0 b S) (l.setIfInBounds 22 true)) a w := by
  obtain ⟨o, ho⟩ : ∃ o, wops[22]? = some o := Option.isSome_iff_exists.1 (by kernel_rfl)
  have hop : o.op = Op.move (Operand.tmp 25) := op_of ho (by kernel_rfl)
  have hg : guardOk wops a o := guard_none (guard_of ho (by kernel_rfl))
  have v25 : a.eval (.tmp 25) = (.bool true) := h.done 21 25 (dep hd 21 (by kernel_rfl)) (by kernel_rfl)
  exact h.yields (hown b) hH ho hg (v := (.bool true)) (w' := w) (by simp only [execOp, hop, v25]; kernel_rfl) (Below.refl _ _) rfl
theorem st23 (hR : Rowed S D M) (h : At wops 103 (wtab S D M b) (wbase b) (Inv w0 b S) l a w) (hd : ∀ o : Oper, wops[23]? = some o → ∀ e ∈ o.after.toList, Region.binds .any e = true → l.getD e.on false = true) : wpOp Tryd.prog wops Q 23 (At wops 103 (wtab S D M b) (wbase b) (Inv w0 b S) (l.setIfInBounds 23 true)) a w := by
  obtain ⟨o, ho⟩ : ∃ o, wops[23]? = some o := Option.isSome_iff_exists.1 (by kernel_rfl)
  have hop : o.op = Op.load 24 (Operand.tmp 1) := op_of ho (by kernel_rfl)
  have hg : guardOk wops a o := h.guard (hown b) (guard_of ho (g := some (22, true)) (by kernel_rfl)) (dep hd 22 (by kernel_rfl)) rfl (by decide +kernel)
  have v1 : a.eval (.tmp 1) = .pointer (some ⟨b, 0, none⟩) := h.fixed 1 _ rfl
  exact h.yields (hown b) hH ho hg (v := sv S) (w' := w) (by simp only [execOp, hop, v1, Sem.run_bind, load_set h.hold.1, Result.andThen_ok, Sem.run_pure]) (Below.refl _ _) rfl
theorem st24 (hR : Rowed S D M) (h : At wops 103 (wtab S D M b) (wbase b) (Inv w0 b S) l a w) (hd : ∀ o : Oper, wops[24]? = some o → ∀ e ∈ o.after.toList, Region.binds .any e = true → l.getD e.on false = true) : wpOp Tryd.prog wops Q 24 (At wops 103 (wtab S D M b) (wbase b) (Inv w0 b S) (l.setIfInBounds 24 true)) a w := by
  obtain ⟨o, ho⟩ : ∃ o, wops[24]? = some o := Option.isSome_iff_exists.1 (by kernel_rfl)
  have hop : o.op = Op.call { callee := Callee.value (Operand.func 17), args := #[Operand.tmp 27, Operand.const (Value.int IntKind.i64 0)], argTypes := #[24, 3] } := op_of ho (by kernel_rfl)
  have hg : guardOk wops a o := h.guard (hown b) (guard_of ho (g := some (22, true)) (by kernel_rfl)) (dep hd 22 (by kernel_rfl)) rfl (by decide +kernel)
  have v27 : a.eval (.tmp 27) = (sv S) := h.done 23 27 (dep hd 23 (by kernel_rfl)) (by kernel_rfl)
  refine h.calls (hown b) hH ho hg (f := 17) (args := #[sv S, .int .i64 (0)]) ?_ ((nextI S (0) (3) (by omega) hR.next.1 w h.hold.2.1 h.hold.2.2.1).mono ?_)
  · rw [exec_call (enters_of Tryd.func17 (by kernel_rfl) rfl) hop]
    simp only [List.map_toArray, List.map_cons, List.map_nil, v27]
    try rfl
  rintro e w' ⟨rfl, hb⟩
  exact ⟨_, rfl, hb, rfl⟩
theorem st25 (hR : Rowed S D M) (h : At wops 103 (wtab S D M b) (wbase b) (Inv w0 b S) l a w) (hd : ∀ o : Oper, wops[25]? = some o → ∀ e ∈ o.after.toList, Region.binds .any e = true → l.getD e.on false = true) : wpOp Tryd.prog wops Q 25 (At wops 103 (wtab S D M b) (wbase b) (Inv w0 b S) (l.setIfInBounds 25 true)) a w := by
  obtain ⟨o, ho⟩ : ∃ o, wops[25]? = some o := Option.isSome_iff_exists.1 (by kernel_rfl)
  have hop : o.op = Op.binOp BinOp.eql 3 (Operand.tmp 28) (Operand.const (Value.int IntKind.i64 3)) 3 := op_of ho (by kernel_rfl)
  have hg : guardOk wops a o := h.guard (hown b) (guard_of ho (g := some (22, true)) (by kernel_rfl)) (dep hd 22 (by kernel_rfl)) rfl (by decide +kernel)
  have v28 : a.eval (.tmp 28) = (.int .i64 3) := h.done 24 28 (dep hd 24 (by kernel_rfl)) (by kernel_rfl)
  exact h.yields (hown b) hH ho hg (v := (.bool true)) (w' := w) (by simp only [execOp, hop, v28]; kernel_rfl) (Below.refl _ _) rfl
theorem st26 (hR : Rowed S D M) (h : At wops 103 (wtab S D M b) (wbase b) (Inv w0 b S) l a w) (hd : ∀ o : Oper, wops[26]? = some o → ∀ e ∈ o.after.toList, Region.binds .any e = true → l.getD e.on false = true) : wpOp Tryd.prog wops Q 26 (At wops 103 (wtab S D M b) (wbase b) (Inv w0 b S) (l.setIfInBounds 26 true)) a w := by
  obtain ⟨o, ho⟩ : ∃ o, wops[26]? = some o := Option.isSome_iff_exists.1 (by kernel_rfl)
  have hop : o.op = Op.pick (Operand.tmp 26) (Operand.tmp 29) (Operand.const (Value.bool false)) := op_of ho (by kernel_rfl)
  have hg : guardOk wops a o := guard_none (guard_of ho (by kernel_rfl))
  have v26 : a.eval (.tmp 26) = (.bool true) := h.done 22 26 (dep hd 22 (by kernel_rfl)) (by kernel_rfl)
  have v29 : a.eval (.tmp 29) = (.bool true) := h.done 25 29 (dep hd 25 (by kernel_rfl)) (by kernel_rfl)
  exact h.yields (hown b) hH ho hg (v := (.bool true)) (w' := w) (by simp only [execOp, hop, v26, v29]; kernel_rfl) (Below.refl _ _) rfl
theorem st27 (hR : Rowed S D M) (h : At wops 103 (wtab S D M b) (wbase b) (Inv w0 b S) l a w) (hd : ∀ o : Oper, wops[27]? = some o → ∀ e ∈ o.after.toList, Region.binds .any e = true → l.getD e.on false = true) : wpOp Tryd.prog wops Q 27 (At wops 103 (wtab S D M b) (wbase b) (Inv w0 b S) (l.setIfInBounds 27 true)) a w := by
  obtain ⟨o, ho⟩ : ∃ o, wops[27]? = some o := Option.isSome_iff_exists.1 (by kernel_rfl)
  have hop : o.op = Op.move (Operand.tmp 30) := op_of ho (by kernel_rfl)
  have hg : guardOk wops a o := guard_none (guard_of ho (by kernel_rfl))
  have v30 : a.eval (.tmp 30) = (.bool true) := h.done 26 30 (dep hd 26 (by kernel_rfl)) (by kernel_rfl)
  exact h.yields (hown b) hH ho hg (v := (.bool true)) (w' := w) (by simp only [execOp, hop, v30]; kernel_rfl) (Below.refl _ _) rfl
theorem st28 (hR : Rowed S D M) (h : At wops 103 (wtab S D M b) (wbase b) (Inv w0 b S) l a w) (hd : ∀ o : Oper, wops[28]? = some o → ∀ e ∈ o.after.toList, Region.binds .any e = true → l.getD e.on false = true) : wpOp Tryd.prog wops Q 28 (At wops 103 (wtab S D M b) (wbase b) (Inv w0 b S) (l.setIfInBounds 28 true)) a w := by
  obtain ⟨o, ho⟩ : ∃ o, wops[28]? = some o := Option.isSome_iff_exists.1 (by kernel_rfl)
  have hop : o.op = Op.load 24 (Operand.tmp 1) := op_of ho (by kernel_rfl)
  have hg : guardOk wops a o := h.guard (hown b) (guard_of ho (g := some (27, true)) (by kernel_rfl)) (dep hd 27 (by kernel_rfl)) rfl (by decide +kernel)
  have v1 : a.eval (.tmp 1) = .pointer (some ⟨b, 0, none⟩) := h.fixed 1 _ rfl
  exact h.yields (hown b) hH ho hg (v := sv S) (w' := w) (by simp only [execOp, hop, v1, Sem.run_bind, load_set h.hold.1, Result.andThen_ok, Sem.run_pure]) (Below.refl _ _) rfl
theorem st29 (hR : Rowed S D M) (h : At wops 103 (wtab S D M b) (wbase b) (Inv w0 b S) l a w) (hd : ∀ o : Oper, wops[29]? = some o → ∀ e ∈ o.after.toList, Region.binds .any e = true → l.getD e.on false = true) : wpOp Tryd.prog wops Q 29 (At wops 103 (wtab S D M b) (wbase b) (Inv w0 b S) (l.setIfInBounds 29 true)) a w := by
  obtain ⟨o, ho⟩ : ∃ o, wops[29]? = some o := Option.isSome_iff_exists.1 (by kernel_rfl)
  have hop : o.op = Op.call { callee := Callee.value (Operand.func 17), args := #[Operand.tmp 32, Operand.const (Value.int IntKind.i64 4)], argTypes := #[24, 3] } := op_of ho (by kernel_rfl)
  have hg : guardOk wops a o := h.guard (hown b) (guard_of ho (g := some (27, true)) (by kernel_rfl)) (dep hd 27 (by kernel_rfl)) rfl (by decide +kernel)
  have v32 : a.eval (.tmp 32) = (sv S) := h.done 28 32 (dep hd 28 (by kernel_rfl)) (by kernel_rfl)
  refine h.calls (hown b) hH ho hg (f := 17) (args := #[sv S, .int .i64 (4)]) ?_ ((nextI S (4) (64) (by omega) hR.next.2.1 w h.hold.2.1 h.hold.2.2.1).mono ?_)
  · rw [exec_call (enters_of Tryd.func17 (by kernel_rfl) rfl) hop]
    simp only [List.map_toArray, List.map_cons, List.map_nil, v32]
    try rfl
  rintro e w' ⟨rfl, hb⟩
  exact ⟨_, rfl, hb, rfl⟩
theorem st30 (hR : Rowed S D M) (h : At wops 103 (wtab S D M b) (wbase b) (Inv w0 b S) l a w) (hd : ∀ o : Oper, wops[30]? = some o → ∀ e ∈ o.after.toList, Region.binds .any e = true → l.getD e.on false = true) : wpOp Tryd.prog wops Q 30 (At wops 103 (wtab S D M b) (wbase b) (Inv w0 b S) (l.setIfInBounds 30 true)) a w := by
  obtain ⟨o, ho⟩ : ∃ o, wops[30]? = some o := Option.isSome_iff_exists.1 (by kernel_rfl)
  have hop : o.op = Op.binOp BinOp.eql 3 (Operand.tmp 33) (Operand.const (Value.int IntKind.i64 64)) 3 := op_of ho (by kernel_rfl)
  have hg : guardOk wops a o := h.guard (hown b) (guard_of ho (g := some (27, true)) (by kernel_rfl)) (dep hd 27 (by kernel_rfl)) rfl (by decide +kernel)
  have v33 : a.eval (.tmp 33) = (.int .i64 64) := h.done 29 33 (dep hd 29 (by kernel_rfl)) (by kernel_rfl)
  exact h.yields (hown b) hH ho hg (v := (.bool true)) (w' := w) (by simp only [execOp, hop, v33]; kernel_rfl) (Below.refl _ _) rfl
theorem st31 (hR : Rowed S D M) (h : At wops 103 (wtab S D M b) (wbase b) (Inv w0 b S) l a w) (hd : ∀ o : Oper, wops[31]? = some o → ∀ e ∈ o.after.toList, Region.binds .any e = true → l.getD e.on false = true) : wpOp Tryd.prog wops Q 31 (At wops 103 (wtab S D M b) (wbase b) (Inv w0 b S) (l.setIfInBounds 31 true)) a w := by
  obtain ⟨o, ho⟩ : ∃ o, wops[31]? = some o := Option.isSome_iff_exists.1 (by kernel_rfl)
  have hop : o.op = Op.pick (Operand.tmp 31) (Operand.tmp 34) (Operand.const (Value.bool false)) := op_of ho (by kernel_rfl)
  have hg : guardOk wops a o := guard_none (guard_of ho (by kernel_rfl))
  have v31 : a.eval (.tmp 31) = (.bool true) := h.done 27 31 (dep hd 27 (by kernel_rfl)) (by kernel_rfl)
  have v34 : a.eval (.tmp 34) = (.bool true) := h.done 30 34 (dep hd 30 (by kernel_rfl)) (by kernel_rfl)
  exact h.yields (hown b) hH ho hg (v := (.bool true)) (w' := w) (by simp only [execOp, hop, v31, v34]; kernel_rfl) (Below.refl _ _) rfl
theorem st32 (hR : Rowed S D M) (h : At wops 103 (wtab S D M b) (wbase b) (Inv w0 b S) l a w) (hd : ∀ o : Oper, wops[32]? = some o → ∀ e ∈ o.after.toList, Region.binds .any e = true → l.getD e.on false = true) : wpOp Tryd.prog wops Q 32 (At wops 103 (wtab S D M b) (wbase b) (Inv w0 b S) (l.setIfInBounds 32 true)) a w := by
  obtain ⟨o, ho⟩ : ∃ o, wops[32]? = some o := Option.isSome_iff_exists.1 (by kernel_rfl)
  have hop : o.op = Op.move (Operand.tmp 35) := op_of ho (by kernel_rfl)
  have hg : guardOk wops a o := guard_none (guard_of ho (by kernel_rfl))
  have v35 : a.eval (.tmp 35) = (.bool true) := h.done 31 35 (dep hd 31 (by kernel_rfl)) (by kernel_rfl)
  exact h.yields (hown b) hH ho hg (v := (.bool true)) (w' := w) (by simp only [execOp, hop, v35]; kernel_rfl) (Below.refl _ _) rfl
theorem st33 (hR : Rowed S D M) (h : At wops 103 (wtab S D M b) (wbase b) (Inv w0 b S) l a w) (hd : ∀ o : Oper, wops[33]? = some o → ∀ e ∈ o.after.toList, Region.binds .any e = true → l.getD e.on false = true) : wpOp Tryd.prog wops Q 33 (At wops 103 (wtab S D M b) (wbase b) (Inv w0 b S) (l.setIfInBounds 33 true)) a w := by
  obtain ⟨o, ho⟩ : ∃ o, wops[33]? = some o := Option.isSome_iff_exists.1 (by kernel_rfl)
  have hop : o.op = Op.load 24 (Operand.tmp 1) := op_of ho (by kernel_rfl)
  have hg : guardOk wops a o := h.guard (hown b) (guard_of ho (g := some (32, true)) (by kernel_rfl)) (dep hd 32 (by kernel_rfl)) rfl (by decide +kernel)
  have v1 : a.eval (.tmp 1) = .pointer (some ⟨b, 0, none⟩) := h.fixed 1 _ rfl
  exact h.yields (hown b) hH ho hg (v := sv S) (w' := w) (by simp only [execOp, hop, v1, Sem.run_bind, load_set h.hold.1, Result.andThen_ok, Sem.run_pure]) (Below.refl _ _) rfl
theorem st34 (hR : Rowed S D M) (h : At wops 103 (wtab S D M b) (wbase b) (Inv w0 b S) l a w) (hd : ∀ o : Oper, wops[34]? = some o → ∀ e ∈ o.after.toList, Region.binds .any e = true → l.getD e.on false = true) : wpOp Tryd.prog wops Q 34 (At wops 103 (wtab S D M b) (wbase b) (Inv w0 b S) (l.setIfInBounds 34 true)) a w := by
  obtain ⟨o, ho⟩ : ∃ o, wops[34]? = some o := Option.isSome_iff_exists.1 (by kernel_rfl)
  have hop : o.op = Op.call { callee := Callee.value (Operand.func 17), args := #[Operand.tmp 37, Operand.const (Value.int IntKind.i64 65)], argTypes := #[24, 3] } := op_of ho (by kernel_rfl)
  have hg : guardOk wops a o := h.guard (hown b) (guard_of ho (g := some (32, true)) (by kernel_rfl)) (dep hd 32 (by kernel_rfl)) rfl (by decide +kernel)
  have v37 : a.eval (.tmp 37) = (sv S) := h.done 33 37 (dep hd 33 (by kernel_rfl)) (by kernel_rfl)
  refine h.calls (hown b) hH ho hg (f := 17) (args := #[sv S, .int .i64 (65)]) ?_ ((nextI S (65) (255) (by omega) hR.next.2.2.1 w h.hold.2.1 h.hold.2.2.1).mono ?_)
  · rw [exec_call (enters_of Tryd.func17 (by kernel_rfl) rfl) hop]
    simp only [List.map_toArray, List.map_cons, List.map_nil, v37]
    try rfl
  rintro e w' ⟨rfl, hb⟩
  exact ⟨_, rfl, hb, rfl⟩
theorem st35 (hR : Rowed S D M) (h : At wops 103 (wtab S D M b) (wbase b) (Inv w0 b S) l a w) (hd : ∀ o : Oper, wops[35]? = some o → ∀ e ∈ o.after.toList, Region.binds .any e = true → l.getD e.on false = true) : wpOp Tryd.prog wops Q 35 (At wops 103 (wtab S D M b) (wbase b) (Inv w0 b S) (l.setIfInBounds 35 true)) a w := by
  obtain ⟨o, ho⟩ : ∃ o, wops[35]? = some o := Option.isSome_iff_exists.1 (by kernel_rfl)
  have hop : o.op = Op.binOp BinOp.eql 3 (Operand.tmp 38) (Operand.const (Value.int IntKind.i64 255)) 3 := op_of ho (by kernel_rfl)
  have hg : guardOk wops a o := h.guard (hown b) (guard_of ho (g := some (32, true)) (by kernel_rfl)) (dep hd 32 (by kernel_rfl)) rfl (by decide +kernel)
  have v38 : a.eval (.tmp 38) = (.int .i64 255) := h.done 34 38 (dep hd 34 (by kernel_rfl)) (by kernel_rfl)
  exact h.yields (hown b) hH ho hg (v := (.bool true)) (w' := w) (by simp only [execOp, hop, v38]; kernel_rfl) (Below.refl _ _) rfl
theorem st36 (hR : Rowed S D M) (h : At wops 103 (wtab S D M b) (wbase b) (Inv w0 b S) l a w) (hd : ∀ o : Oper, wops[36]? = some o → ∀ e ∈ o.after.toList, Region.binds .any e = true → l.getD e.on false = true) : wpOp Tryd.prog wops Q 36 (At wops 103 (wtab S D M b) (wbase b) (Inv w0 b S) (l.setIfInBounds 36 true)) a w := by
  obtain ⟨o, ho⟩ : ∃ o, wops[36]? = some o := Option.isSome_iff_exists.1 (by kernel_rfl)
  have hop : o.op = Op.pick (Operand.tmp 36) (Operand.tmp 39) (Operand.const (Value.bool false)) := op_of ho (by kernel_rfl)
  have hg : guardOk wops a o := guard_none (guard_of ho (by kernel_rfl))
  have v36 : a.eval (.tmp 36) = (.bool true) := h.done 32 36 (dep hd 32 (by kernel_rfl)) (by kernel_rfl)
  have v39 : a.eval (.tmp 39) = (.bool true) := h.done 35 39 (dep hd 35 (by kernel_rfl)) (by kernel_rfl)
  exact h.yields (hown b) hH ho hg (v := (.bool true)) (w' := w) (by simp only [execOp, hop, v36, v39]; kernel_rfl) (Below.refl _ _) rfl
theorem st37 (hR : Rowed S D M) (h : At wops 103 (wtab S D M b) (wbase b) (Inv w0 b S) l a w) (hd : ∀ o : Oper, wops[37]? = some o → ∀ e ∈ o.after.toList, Region.binds .any e = true → l.getD e.on false = true) : wpOp Tryd.prog wops Q 37 (At wops 103 (wtab S D M b) (wbase b) (Inv w0 b S) (l.setIfInBounds 37 true)) a w := by
  obtain ⟨o, ho⟩ : ∃ o, wops[37]? = some o := Option.isSome_iff_exists.1 (by kernel_rfl)
  have hop : o.op = Op.move (Operand.tmp 40) := op_of ho (by kernel_rfl)
  have hg : guardOk wops a o := guard_none (guard_of ho (by kernel_rfl))
  have v40 : a.eval (.tmp 40) = (.bool true) := h.done 36 40 (dep hd 36 (by kernel_rfl)) (by kernel_rfl)
  exact h.yields (hown b) hH ho hg (v := (.bool true)) (w' := w) (by simp only [execOp, hop, v40]; kernel_rfl) (Below.refl _ _) rfl
theorem st38 (hR : Rowed S D M) (h : At wops 103 (wtab S D M b) (wbase b) (Inv w0 b S) l a w) (hd : ∀ o : Oper, wops[38]? = some o → ∀ e ∈ o.after.toList, Region.binds .any e = true → l.getD e.on false = true) : wpOp Tryd.prog wops Q 38 (At wops 103 (wtab S D M b) (wbase b) (Inv w0 b S) (l.setIfInBounds 38 true)) a w := by
  obtain ⟨o, ho⟩ : ∃ o, wops[38]? = some o := Option.isSome_iff_exists.1 (by kernel_rfl)
  have hop : o.op = Op.load 24 (Operand.tmp 1) := op_of ho (by kernel_rfl)
  have hg : guardOk wops a o := h.guard (hown b) (guard_of ho (g := some (37, true)) (by kernel_rfl)) (dep hd 37 (by kernel_rfl)) rfl (by decide +kernel)
  have v1 : a.eval (.tmp 1) = .pointer (some ⟨b, 0, none⟩) := h.fixed 1 _ rfl
  exact h.yields (hown b) hH ho hg (v := sv S) (w' := w) (by simp only [execOp, hop, v1, Sem.run_bind, load_set h.hold.1, Result.andThen_ok, Sem.run_pure]) (Below.refl _ _) rfl
theorem st39 (hR : Rowed S D M) (h : At wops 103 (wtab S D M b) (wbase b) (Inv w0 b S) l a w) (hd : ∀ o : Oper, wops[39]? = some o → ∀ e ∈ o.after.toList, Region.binds .any e = true → l.getD e.on false = true) : wpOp Tryd.prog wops Q 39 (At wops 103 (wtab S D M b) (wbase b) (Inv w0 b S) (l.setIfInBounds 39 true)) a w := by
  obtain ⟨o, ho⟩ : ∃ o, wops[39]? = some o := Option.isSome_iff_exists.1 (by kernel_rfl)
  have hop : o.op = Op.call { callee := Callee.value (Operand.func 17), args := #[Operand.tmp 42, Operand.const (Value.int IntKind.i64 256)], argTypes := #[24, 3] } := op_of ho (by kernel_rfl)
  have hg : guardOk wops a o := h.guard (hown b) (guard_of ho (g := some (37, true)) (by kernel_rfl)) (dep hd 37 (by kernel_rfl)) rfl (by decide +kernel)
  have v42 : a.eval (.tmp 42) = (sv S) := h.done 38 42 (dep hd 38 (by kernel_rfl)) (by kernel_rfl)
  refine h.calls (hown b) hH ho hg (f := 17) (args := #[sv S, .int .i64 (256)]) ?_ ((nextI S (256) (-1) (by omega) hR.next.2.2.2.1 w h.hold.2.1 h.hold.2.2.1).mono ?_)
  · rw [exec_call (enters_of Tryd.func17 (by kernel_rfl) rfl) hop]
    simp only [List.map_toArray, List.map_cons, List.map_nil, v42]
    try rfl
  rintro e w' ⟨rfl, hb⟩
  exact ⟨_, rfl, hb, rfl⟩
theorem st40 (hR : Rowed S D M) (h : At wops 103 (wtab S D M b) (wbase b) (Inv w0 b S) l a w) (hd : ∀ o : Oper, wops[40]? = some o → ∀ e ∈ o.after.toList, Region.binds .any e = true → l.getD e.on false = true) : wpOp Tryd.prog wops Q 40 (At wops 103 (wtab S D M b) (wbase b) (Inv w0 b S) (l.setIfInBounds 40 true)) a w := by
  obtain ⟨o, ho⟩ : ∃ o, wops[40]? = some o := Option.isSome_iff_exists.1 (by kernel_rfl)
  have hop : o.op = Op.binOp BinOp.eql 3 (Operand.tmp 43) (Operand.const (Value.int IntKind.i64 (-1))) 3 := op_of ho (by kernel_rfl)
  have hg : guardOk wops a o := h.guard (hown b) (guard_of ho (g := some (37, true)) (by kernel_rfl)) (dep hd 37 (by kernel_rfl)) rfl (by decide +kernel)
  have v43 : a.eval (.tmp 43) = (.int .i64 (-1)) := h.done 39 43 (dep hd 39 (by kernel_rfl)) (by kernel_rfl)
  exact h.yields (hown b) hH ho hg (v := (.bool true)) (w' := w) (by simp only [execOp, hop, v43]; kernel_rfl) (Below.refl _ _) rfl
theorem st41 (hR : Rowed S D M) (h : At wops 103 (wtab S D M b) (wbase b) (Inv w0 b S) l a w) (hd : ∀ o : Oper, wops[41]? = some o → ∀ e ∈ o.after.toList, Region.binds .any e = true → l.getD e.on false = true) : wpOp Tryd.prog wops Q 41 (At wops 103 (wtab S D M b) (wbase b) (Inv w0 b S) (l.setIfInBounds 41 true)) a w := by
  obtain ⟨o, ho⟩ : ∃ o, wops[41]? = some o := Option.isSome_iff_exists.1 (by kernel_rfl)
  have hop : o.op = Op.pick (Operand.tmp 41) (Operand.tmp 44) (Operand.const (Value.bool false)) := op_of ho (by kernel_rfl)
  have hg : guardOk wops a o := guard_none (guard_of ho (by kernel_rfl))
  have v41 : a.eval (.tmp 41) = (.bool true) := h.done 37 41 (dep hd 37 (by kernel_rfl)) (by kernel_rfl)
  have v44 : a.eval (.tmp 44) = (.bool true) := h.done 40 44 (dep hd 40 (by kernel_rfl)) (by kernel_rfl)
  exact h.yields (hown b) hH ho hg (v := (.bool true)) (w' := w) (by simp only [execOp, hop, v41, v44]; kernel_rfl) (Below.refl _ _) rfl
theorem st42 (hR : Rowed S D M) (h : At wops 103 (wtab S D M b) (wbase b) (Inv w0 b S) l a w) (hd : ∀ o : Oper, wops[42]? = some o → ∀ e ∈ o.after.toList, Region.binds .any e = true → l.getD e.on false = true) : wpOp Tryd.prog wops Q 42 (At wops 103 (wtab S D M b) (wbase b) (Inv w0 b S) (l.setIfInBounds 42 true)) a w := by
  obtain ⟨o, ho⟩ : ∃ o, wops[42]? = some o := Option.isSome_iff_exists.1 (by kernel_rfl)
  have hop : o.op = Op.move (Operand.tmp 45) := op_of ho (by kernel_rfl)
  have hg : guardOk wops a o := guard_none (guard_of ho (by kernel_rfl))
  have v45 : a.eval (.tmp 45) = (.bool true) := h.done 41 45 (dep hd 41 (by kernel_rfl)) (by kernel_rfl)
  exact h.yields (hown b) hH ho hg (v := (.bool true)) (w' := w) (by simp only [execOp, hop, v45]; kernel_rfl) (Below.refl _ _) rfl
theorem st43 (hR : Rowed S D M) (h : At wops 103 (wtab S D M b) (wbase b) (Inv w0 b S) l a w) (hd : ∀ o : Oper, wops[43]? = some o → ∀ e ∈ o.after.toList, Region.binds .any e = true → l.getD e.on false = true) : wpOp Tryd.prog wops Q 43 (At wops 103 (wtab S D M b) (wbase b) (Inv w0 b S) (l.setIfInBounds 43 true)) a w := by
  obtain ⟨o, ho⟩ : ∃ o, wops[43]? = some o := Option.isSome_iff_exists.1 (by kernel_rfl)
  have hop : o.op = Op.load 24 (Operand.tmp 1) := op_of ho (by kernel_rfl)
  have hg : guardOk wops a o := h.guard (hown b) (guard_of ho (g := some (42, true)) (by kernel_rfl)) (dep hd 42 (by kernel_rfl)) rfl (by decide +kernel)
  have v1 : a.eval (.tmp 1) = .pointer (some ⟨b, 0, none⟩) := h.fixed 1 _ rfl
  exact h.yields (hown b) hH ho hg (v := sv S) (w' := w) (by simp only [execOp, hop, v1, Sem.run_bind, load_set h.hold.1, Result.andThen_ok, Sem.run_pure]) (Below.refl _ _) rfl
theorem st44 (hR : Rowed S D M) (h : At wops 103 (wtab S D M b) (wbase b) (Inv w0 b S) l a w) (hd : ∀ o : Oper, wops[44]? = some o → ∀ e ∈ o.after.toList, Region.binds .any e = true → l.getD e.on false = true) : wpOp Tryd.prog wops Q 44 (At wops 103 (wtab S D M b) (wbase b) (Inv w0 b S) (l.setIfInBounds 44 true)) a w := by
  obtain ⟨o, ho⟩ : ∃ o, wops[44]? = some o := Option.isSome_iff_exists.1 (by kernel_rfl)
  have hop : o.op = Op.call { callee := Callee.value (Operand.func 17), args := #[Operand.tmp 47, Operand.const (Value.int IntKind.i64 (-9))], argTypes := #[24, 3] } := op_of ho (by kernel_rfl)
  have hg : guardOk wops a o := h.guard (hown b) (guard_of ho (g := some (42, true)) (by kernel_rfl)) (dep hd 42 (by kernel_rfl)) rfl (by decide +kernel)
  have v47 : a.eval (.tmp 47) = (sv S) := h.done 43 47 (dep hd 43 (by kernel_rfl)) (by kernel_rfl)
  refine h.calls (hown b) hH ho hg (f := 17) (args := #[sv S, .int .i64 (-9)]) ?_ ((nextI S (-9) (3) (by omega) hR.next.2.2.2.2 w h.hold.2.1 h.hold.2.2.1).mono ?_)
  · rw [exec_call (enters_of Tryd.func17 (by kernel_rfl) rfl) hop]
    simp only [List.map_toArray, List.map_cons, List.map_nil, v47]
    try rfl
  rintro e w' ⟨rfl, hb⟩
  exact ⟨_, rfl, hb, rfl⟩
theorem st45 (hR : Rowed S D M) (h : At wops 103 (wtab S D M b) (wbase b) (Inv w0 b S) l a w) (hd : ∀ o : Oper, wops[45]? = some o → ∀ e ∈ o.after.toList, Region.binds .any e = true → l.getD e.on false = true) : wpOp Tryd.prog wops Q 45 (At wops 103 (wtab S D M b) (wbase b) (Inv w0 b S) (l.setIfInBounds 45 true)) a w := by
  obtain ⟨o, ho⟩ : ∃ o, wops[45]? = some o := Option.isSome_iff_exists.1 (by kernel_rfl)
  have hop : o.op = Op.binOp BinOp.eql 3 (Operand.tmp 48) (Operand.const (Value.int IntKind.i64 3)) 3 := op_of ho (by kernel_rfl)
  have hg : guardOk wops a o := h.guard (hown b) (guard_of ho (g := some (42, true)) (by kernel_rfl)) (dep hd 42 (by kernel_rfl)) rfl (by decide +kernel)
  have v48 : a.eval (.tmp 48) = (.int .i64 3) := h.done 44 48 (dep hd 44 (by kernel_rfl)) (by kernel_rfl)
  exact h.yields (hown b) hH ho hg (v := (.bool true)) (w' := w) (by simp only [execOp, hop, v48]; kernel_rfl) (Below.refl _ _) rfl
theorem st46 (hR : Rowed S D M) (h : At wops 103 (wtab S D M b) (wbase b) (Inv w0 b S) l a w) (hd : ∀ o : Oper, wops[46]? = some o → ∀ e ∈ o.after.toList, Region.binds .any e = true → l.getD e.on false = true) : wpOp Tryd.prog wops Q 46 (At wops 103 (wtab S D M b) (wbase b) (Inv w0 b S) (l.setIfInBounds 46 true)) a w := by
  obtain ⟨o, ho⟩ : ∃ o, wops[46]? = some o := Option.isSome_iff_exists.1 (by kernel_rfl)
  have hop : o.op = Op.pick (Operand.tmp 46) (Operand.tmp 49) (Operand.const (Value.bool false)) := op_of ho (by kernel_rfl)
  have hg : guardOk wops a o := guard_none (guard_of ho (by kernel_rfl))
  have v46 : a.eval (.tmp 46) = (.bool true) := h.done 42 46 (dep hd 42 (by kernel_rfl)) (by kernel_rfl)
  have v49 : a.eval (.tmp 49) = (.bool true) := h.done 45 49 (dep hd 45 (by kernel_rfl)) (by kernel_rfl)
  exact h.yields (hown b) hH ho hg (v := (.bool true)) (w' := w) (by simp only [execOp, hop, v46, v49]; kernel_rfl) (Below.refl _ _) rfl
theorem st47 (hR : Rowed S D M) (h : At wops 103 (wtab S D M b) (wbase b) (Inv w0 b S) l a w) (hd : ∀ o : Oper, wops[47]? = some o → ∀ e ∈ o.after.toList, Region.binds .any e = true → l.getD e.on false = true) : wpOp Tryd.prog wops Q 47 (At wops 103 (wtab S D M b) (wbase b) (Inv w0 b S) (l.setIfInBounds 47 true)) a w := by
  obtain ⟨o, ho⟩ : ∃ o, wops[47]? = some o := Option.isSome_iff_exists.1 (by kernel_rfl)
  have hop : o.op = Op.move (Operand.tmp 50) := op_of ho (by kernel_rfl)
  have hg : guardOk wops a o := guard_none (guard_of ho (by kernel_rfl))
  have v50 : a.eval (.tmp 50) = (.bool true) := h.done 46 50 (dep hd 46 (by kernel_rfl)) (by kernel_rfl)
  exact h.yields (hown b) hH ho hg (v := (.bool true)) (w' := w) (by simp only [execOp, hop, v50]; kernel_rfl) (Below.refl _ _) rfl
theorem st48 (hR : Rowed S D M) (h : At wops 103 (wtab S D M b) (wbase b) (Inv w0 b S) l a w) (hd : ∀ o : Oper, wops[48]? = some o → ∀ e ∈ o.after.toList, Region.binds .any e = true → l.getD e.on false = true) : wpOp Tryd.prog wops Q 48 (At wops 103 (wtab S D M b) (wbase b) (Inv w0 b S) (l.setIfInBounds 48 true)) a w := by
  obtain ⟨o, ho⟩ : ∃ o, wops[48]? = some o := Option.isSome_iff_exists.1 (by kernel_rfl)
  have hop : o.op = Op.load 24 (Operand.tmp 1) := op_of ho (by kernel_rfl)
  have hg : guardOk wops a o := h.guard (hown b) (guard_of ho (g := some (47, true)) (by kernel_rfl)) (dep hd 47 (by kernel_rfl)) rfl (by decide +kernel)
  have v1 : a.eval (.tmp 1) = .pointer (some ⟨b, 0, none⟩) := h.fixed 1 _ rfl
  exact h.yields (hown b) hH ho hg (v := sv S) (w' := w) (by simp only [execOp, hop, v1, Sem.run_bind, load_set h.hold.1, Result.andThen_ok, Sem.run_pure]) (Below.refl _ _) rfl
theorem st49 (hR : Rowed S D M) (h : At wops 103 (wtab S D M b) (wbase b) (Inv w0 b S) l a w) (hd : ∀ o : Oper, wops[49]? = some o → ∀ e ∈ o.after.toList, Region.binds .any e = true → l.getD e.on false = true) : wpOp Tryd.prog wops Q 49 (At wops 103 (wtab S D M b) (wbase b) (Inv w0 b S) (l.setIfInBounds 49 true)) a w := by
  obtain ⟨o, ho⟩ : ∃ o, wops[49]? = some o := Option.isSome_iff_exists.1 (by kernel_rfl)
  have hop : o.op = Op.call { callee := Callee.value (Operand.func 11), args := #[Operand.tmp 52, Operand.const (Value.int IntKind.i64 3)], argTypes := #[24, 3] } := op_of ho (by kernel_rfl)
  have hg : guardOk wops a o := h.guard (hown b) (guard_of ho (g := some (47, true)) (by kernel_rfl)) (dep hd 47 (by kernel_rfl)) rfl (by decide +kernel)
  have v52 : a.eval (.tmp 52) = (sv S) := h.done 48 52 (dep hd 48 (by kernel_rfl)) (by kernel_rfl)
  refine h.calls (hown b) hH ho hg (f := 11) (args := #[sv S, .int .i64 3]) ?_ ((add_is S S 3 hR.a3 w).mono ?_)
  · rw [exec_call (enters_of Tryd.func11 (by kernel_rfl) rfl) hop]
    simp only [List.map_toArray, List.map_cons, List.map_nil, v52]
    try rfl
  rintro e w' ⟨rfl, hb⟩
  exact ⟨_, rfl, hb, rfl⟩
theorem st50 (hR : Rowed S D M) (h : At wops 103 (wtab S D M b) (wbase b) (Inv w0 b S) l a w) (hd : ∀ o : Oper, wops[50]? = some o → ∀ e ∈ o.after.toList, Region.binds .any e = true → l.getD e.on false = true) : wpOp Tryd.prog wops Q 50 (At wops 103 (wtab S D M b) (wbase b) (Inv w0 b S) (l.setIfInBounds 50 true)) a w := by
  obtain ⟨o, ho⟩ : ∃ o, wops[50]? = some o := Option.isSome_iff_exists.1 (by kernel_rfl)
  have hop : o.op = Op.load 24 (Operand.tmp 1) := op_of ho (by kernel_rfl)
  have hg : guardOk wops a o := h.guard (hown b) (guard_of ho (g := some (47, true)) (by kernel_rfl)) (dep hd 47 (by kernel_rfl)) rfl (by decide +kernel)
  have v1 : a.eval (.tmp 1) = .pointer (some ⟨b, 0, none⟩) := h.fixed 1 _ rfl
  exact h.yields (hown b) hH ho hg (v := sv S) (w' := w) (by simp only [execOp, hop, v1, Sem.run_bind, load_set h.hold.1, Result.andThen_ok, Sem.run_pure]) (Below.refl _ _) rfl
theorem st51 (hR : Rowed S D M) (h : At wops 103 (wtab S D M b) (wbase b) (Inv w0 b S) l a w) (hd : ∀ o : Oper, wops[51]? = some o → ∀ e ∈ o.after.toList, Region.binds .any e = true → l.getD e.on false = true) : wpOp Tryd.prog wops Q 51 (At wops 103 (wtab S D M b) (wbase b) (Inv w0 b S) (l.setIfInBounds 51 true)) a w := by
  obtain ⟨o, ho⟩ : ∃ o, wops[51]? = some o := Option.isSome_iff_exists.1 (by kernel_rfl)
  have hop : o.op = Op.binOp BinOp.eql 24 (Operand.tmp 53) (Operand.tmp 54) 24 := op_of ho (by kernel_rfl)
  have hg : guardOk wops a o := h.guard (hown b) (guard_of ho (g := some (47, true)) (by kernel_rfl)) (dep hd 47 (by kernel_rfl)) rfl (by decide +kernel)
  have v53 : a.eval (.tmp 53) = (sv S) := h.done 49 53 (dep hd 49 (by kernel_rfl)) (by kernel_rfl)
  have v54 : a.eval (.tmp 54) = (sv S) := h.done 50 54 (dep hd 50 (by kernel_rfl)) (by kernel_rfl)
  exact h.yields (hown b) hH ho hg (v := (.bool true)) (w' := w) (by simp only [execOp, hop, v53, v54]; simp only [Sem.run_bind, run_eqGuard_agg (P := Tryd.prog) (w := w) _ _ _ _ _ _ eqg, run_eql_struct, equal_same S hR.fS, Result.andThen_ok, Sem.run_pure]) (Below.refl _ _) rfl
theorem st52 (hR : Rowed S D M) (h : At wops 103 (wtab S D M b) (wbase b) (Inv w0 b S) l a w) (hd : ∀ o : Oper, wops[52]? = some o → ∀ e ∈ o.after.toList, Region.binds .any e = true → l.getD e.on false = true) : wpOp Tryd.prog wops Q 52 (At wops 103 (wtab S D M b) (wbase b) (Inv w0 b S) (l.setIfInBounds 52 true)) a w := by
  obtain ⟨o, ho⟩ : ∃ o, wops[52]? = some o := Option.isSome_iff_exists.1 (by kernel_rfl)
  have hop : o.op = Op.pick (Operand.tmp 51) (Operand.tmp 55) (Operand.const (Value.bool false)) := op_of ho (by kernel_rfl)
  have hg : guardOk wops a o := guard_none (guard_of ho (by kernel_rfl))
  have v51 : a.eval (.tmp 51) = (.bool true) := h.done 47 51 (dep hd 47 (by kernel_rfl)) (by kernel_rfl)
  have v55 : a.eval (.tmp 55) = (.bool true) := h.done 51 55 (dep hd 51 (by kernel_rfl)) (by kernel_rfl)
  exact h.yields (hown b) hH ho hg (v := (.bool true)) (w' := w) (by simp only [execOp, hop, v51, v55]; kernel_rfl) (Below.refl _ _) rfl
theorem st53 (hR : Rowed S D M) (h : At wops 103 (wtab S D M b) (wbase b) (Inv w0 b S) l a w) (hd : ∀ o : Oper, wops[53]? = some o → ∀ e ∈ o.after.toList, Region.binds .any e = true → l.getD e.on false = true) : wpOp Tryd.prog wops Q 53 (At wops 103 (wtab S D M b) (wbase b) (Inv w0 b S) (l.setIfInBounds 53 true)) a w := by
  obtain ⟨o, ho⟩ : ∃ o, wops[53]? = some o := Option.isSome_iff_exists.1 (by kernel_rfl)
  have hop : o.op = Op.move (Operand.tmp 56) := op_of ho (by kernel_rfl)
  have hg : guardOk wops a o := guard_none (guard_of ho (by kernel_rfl))
  have v56 : a.eval (.tmp 56) = (.bool true) := h.done 52 56 (dep hd 52 (by kernel_rfl)) (by kernel_rfl)
  exact h.yields (hown b) hH ho hg (v := (.bool true)) (w' := w) (by simp only [execOp, hop, v56]; kernel_rfl) (Below.refl _ _) rfl
theorem st54 (hR : Rowed S D M) (h : At wops 103 (wtab S D M b) (wbase b) (Inv w0 b S) l a w) (hd : ∀ o : Oper, wops[54]? = some o → ∀ e ∈ o.after.toList, Region.binds .any e = true → l.getD e.on false = true) : wpOp Tryd.prog wops Q 54 (At wops 103 (wtab S D M b) (wbase b) (Inv w0 b S) (l.setIfInBounds 54 true)) a w := by
  obtain ⟨o, ho⟩ : ∃ o, wops[54]? = some o := Option.isSome_iff_exists.1 (by kernel_rfl)
  have hop : o.op = Op.load 24 (Operand.tmp 1) := op_of ho (by kernel_rfl)
  have hg : guardOk wops a o := h.guard (hown b) (guard_of ho (g := some (53, true)) (by kernel_rfl)) (dep hd 53 (by kernel_rfl)) rfl (by decide +kernel)
  have v1 : a.eval (.tmp 1) = .pointer (some ⟨b, 0, none⟩) := h.fixed 1 _ rfl
  exact h.yields (hown b) hH ho hg (v := sv S) (w' := w) (by simp only [execOp, hop, v1, Sem.run_bind, load_set h.hold.1, Result.andThen_ok, Sem.run_pure]) (Below.refl _ _) rfl
theorem st55 (hR : Rowed S D M) (h : At wops 103 (wtab S D M b) (wbase b) (Inv w0 b S) l a w) (hd : ∀ o : Oper, wops[55]? = some o → ∀ e ∈ o.after.toList, Region.binds .any e = true → l.getD e.on false = true) : wpOp Tryd.prog wops Q 55 (At wops 103 (wtab S D M b) (wbase b) (Inv w0 b S) (l.setIfInBounds 55 true)) a w := by
  obtain ⟨o, ho⟩ : ∃ o, wops[55]? = some o := Option.isSome_iff_exists.1 (by kernel_rfl)
  have hop : o.op = Op.call { callee := Callee.value (Operand.func 14), args := #[Operand.tmp 58, Operand.const (Value.int IntKind.i64 64)], argTypes := #[24, 3] } := op_of ho (by kernel_rfl)
  have hg : guardOk wops a o := h.guard (hown b) (guard_of ho (g := some (53, true)) (by kernel_rfl)) (dep hd 53 (by kernel_rfl)) rfl (by decide +kernel)
  have v58 : a.eval (.tmp 58) = (sv S) := h.done 54 58 (dep hd 54 (by kernel_rfl)) (by kernel_rfl)
  refine h.calls (hown b) hH ho hg (f := 14) (args := #[sv S, .int .i64 64]) ?_ ((del_is S D 64 hR.del w).mono ?_)
  · rw [exec_call (enters_of Tryd.func14 (by kernel_rfl) rfl) hop]
    simp only [List.map_toArray, List.map_cons, List.map_nil, v58]
    try rfl
  rintro e w' ⟨rfl, hb⟩
  exact ⟨_, rfl, hb, rfl⟩
theorem st56 (hR : Rowed S D M) (h : At wops 103 (wtab S D M b) (wbase b) (Inv w0 b S) l a w) (hd : ∀ o : Oper, wops[56]? = some o → ∀ e ∈ o.after.toList, Region.binds .any e = true → l.getD e.on false = true) : wpOp Tryd.prog wops Q 56 (At wops 103 (wtab S D M b) (wbase b) (Inv w0 b S) (l.setIfInBounds 56 true)) a w := by
  obtain ⟨o, ho⟩ : ∃ o, wops[56]? = some o := Option.isSome_iff_exists.1 (by kernel_rfl)
  have hop : o.op = Op.call { callee := Callee.value (Operand.func 20), args := #[Operand.tmp 59], argTypes := #[24] } := op_of ho (by kernel_rfl)
  have hg : guardOk wops a o := h.guard (hown b) (guard_of ho (g := some (53, true)) (by kernel_rfl)) (dep hd 53 (by kernel_rfl)) rfl (by decide +kernel)
  have v59 : a.eval (.tmp 59) = (sv D) := h.done 55 59 (dep hd 55 (by kernel_rfl)) (by kernel_rfl)
  refine h.calls (hown b) hH ho hg (f := 20) (args := #[sv D]) ?_ ((all_is D [3, 255] hR.allD w h.hold.2.1 h.hold.2.2.1).mono ?_)
  · rw [exec_call (enters_of Tryd.func20 (by kernel_rfl) rfl) hop]
    simp only [List.map_toArray, List.map_cons, List.map_nil, v59]
    try rfl
  rintro e w' ⟨⟨a1, c1, rfl, hi⟩, hb⟩
  exact ⟨_, rfl, hb, a1, c1, rfl, hi⟩
theorem st57 (hR : Rowed S D M) (h : At wops 103 (wtab S D M b) (wbase b) (Inv w0 b S) l a w) (hd : ∀ o : Oper, wops[57]? = some o → ∀ e ∈ o.after.toList, Region.binds .any e = true → l.getD e.on false = true) : wpOp Tryd.prog wops Q 57 (At wops 103 (wtab S D M b) (wbase b) (Inv w0 b S) (l.setIfInBounds 57 true)) a w := by
  obtain ⟨o, ho⟩ : ∃ o, wops[57]? = some o := Option.isSome_iff_exists.1 (by kernel_rfl)
  have hop : o.op = Op.buildSlice 25 2 #[(0, Operand.const (Value.int IntKind.i64 3)), (1, Operand.const (Value.int IntKind.i64 255))] := op_of ho (by kernel_rfl)
  have hg : guardOk wops a o := h.guard (hown b) (guard_of ho (g := some (53, true)) (by kernel_rfl)) (dep hd 53 (by kernel_rfl)) rfl (by decide +kernel)
  exact h.yields (hown b) hH ho hg (v := .slice (some ⟨w.heap.size, 0, none⟩) 2 2) (w' := w.alloc (.cells #[.int .i64 3, .int .i64 255] 3)) (by simp only [execOp, hop]; kernel_rfl) (below_alloc1 _ _) ⟨_, 2, rfl, lit2 w 3 255⟩
theorem st58 (hR : Rowed S D M) (h : At wops 103 (wtab S D M b) (wbase b) (Inv w0 b S) l a w) (hd : ∀ o : Oper, wops[58]? = some o → ∀ e ∈ o.after.toList, Region.binds .any e = true → l.getD e.on false = true) : wpOp Tryd.prog wops Q 58 (At wops 103 (wtab S D M b) (wbase b) (Inv w0 b S) (l.setIfInBounds 58 true)) a w := by
  obtain ⟨o, ho⟩ : ∃ o, wops[58]? = some o := Option.isSome_iff_exists.1 (by kernel_rfl)
  have hop : o.op = Op.call { callee := Callee.value (Operand.func 35), args := #[Operand.tmp 60, Operand.tmp 61], argTypes := #[25, 25] } := op_of ho (by kernel_rfl)
  have hg : guardOk wops a o := h.guard (hown b) (guard_of ho (g := some (53, true)) (by kernel_rfl)) (dep hd 53 (by kernel_rfl)) rfl (by decide +kernel)
  obtain ⟨p60, q60, v60, hi60⟩ := h.done 56 60 (dep hd 56 (by kernel_rfl)) (by kernel_rfl)
  change a.eval (.tmp 60) = .slice p60 2 q60 at v60
  obtain ⟨p61, q61, v61, hi61⟩ := h.done 57 61 (dep hd 57 (by kernel_rfl)) (by kernel_rfl)
  change a.eval (.tmp 61) = .slice p61 2 q61 at v61
  refine h.calls (hown b) hH ho hg (f := 35) (args := #[.slice p60 2 q60, .slice p61 2 q61]) ?_ ((ints_is p60 p61 q60 q61 [3, 255] w hi60 hi61).mono ?_)
  · rw [exec_call (enters_of Tryd.func35 (by kernel_rfl) rfl) hop]
    simp only [List.map_toArray, List.map_cons, List.map_nil, v60, v61]
    try rfl
  rintro e w' ⟨rfl, hb⟩
  exact ⟨_, rfl, hb, rfl⟩
theorem st59 (hR : Rowed S D M) (h : At wops 103 (wtab S D M b) (wbase b) (Inv w0 b S) l a w) (hd : ∀ o : Oper, wops[59]? = some o → ∀ e ∈ o.after.toList, Region.binds .any e = true → l.getD e.on false = true) : wpOp Tryd.prog wops Q 59 (At wops 103 (wtab S D M b) (wbase b) (Inv w0 b S) (l.setIfInBounds 59 true)) a w := by
  obtain ⟨o, ho⟩ : ∃ o, wops[59]? = some o := Option.isSome_iff_exists.1 (by kernel_rfl)
  have hop : o.op = Op.pick (Operand.tmp 57) (Operand.tmp 62) (Operand.const (Value.bool false)) := op_of ho (by kernel_rfl)
  have hg : guardOk wops a o := guard_none (guard_of ho (by kernel_rfl))
  have v57 : a.eval (.tmp 57) = (.bool true) := h.done 53 57 (dep hd 53 (by kernel_rfl)) (by kernel_rfl)
  have v62 : a.eval (.tmp 62) = (.bool true) := h.done 58 62 (dep hd 58 (by kernel_rfl)) (by kernel_rfl)
  exact h.yields (hown b) hH ho hg (v := (.bool true)) (w' := w) (by simp only [execOp, hop, v57, v62]; kernel_rfl) (Below.refl _ _) rfl
theorem st60 (hR : Rowed S D M) (h : At wops 103 (wtab S D M b) (wbase b) (Inv w0 b S) l a w) (hd : ∀ o : Oper, wops[60]? = some o → ∀ e ∈ o.after.toList, Region.binds .any e = true → l.getD e.on false = true) : wpOp Tryd.prog wops Q 60 (At wops 103 (wtab S D M b) (wbase b) (Inv w0 b S) (l.setIfInBounds 60 true)) a w := by
  obtain ⟨o, ho⟩ : ∃ o, wops[60]? = some o := Option.isSome_iff_exists.1 (by kernel_rfl)
  have hop : o.op = Op.move (Operand.tmp 63) := op_of ho (by kernel_rfl)
  have hg : guardOk wops a o := guard_none (guard_of ho (by kernel_rfl))
  have v63 : a.eval (.tmp 63) = (.bool true) := h.done 59 63 (dep hd 59 (by kernel_rfl)) (by kernel_rfl)
  exact h.yields (hown b) hH ho hg (v := (.bool true)) (w' := w) (by simp only [execOp, hop, v63]; kernel_rfl) (Below.refl _ _) rfl
theorem st61 (hR : Rowed S D M) (h : At wops 103 (wtab S D M b) (wbase b) (Inv w0 b S) l a w) (hd : ∀ o : Oper, wops[61]? = some o → ∀ e ∈ o.after.toList, Region.binds .any e = true → l.getD e.on false = true) : wpOp Tryd.prog wops Q 61 (At wops 103 (wtab S D M b) (wbase b) (Inv w0 b S) (l.setIfInBounds 61 true)) a w := by
  obtain ⟨o, ho⟩ : ∃ o, wops[61]? = some o := Option.isSome_iff_exists.1 (by kernel_rfl)
  have hop : o.op = Op.load 24 (Operand.tmp 1) := op_of ho (by kernel_rfl)
  have hg : guardOk wops a o := h.guard (hown b) (guard_of ho (g := some (60, true)) (by kernel_rfl)) (dep hd 60 (by kernel_rfl)) rfl (by decide +kernel)
  have v1 : a.eval (.tmp 1) = .pointer (some ⟨b, 0, none⟩) := h.fixed 1 _ rfl
  exact h.yields (hown b) hH ho hg (v := sv S) (w' := w) (by simp only [execOp, hop, v1, Sem.run_bind, load_set h.hold.1, Result.andThen_ok, Sem.run_pure]) (Below.refl _ _) rfl
theorem st62 (hR : Rowed S D M) (h : At wops 103 (wtab S D M b) (wbase b) (Inv w0 b S) l a w) (hd : ∀ o : Oper, wops[62]? = some o → ∀ e ∈ o.after.toList, Region.binds .any e = true → l.getD e.on false = true) : wpOp Tryd.prog wops Q 62 (At wops 103 (wtab S D M b) (wbase b) (Inv w0 b S) (l.setIfInBounds 62 true)) a w := by
  obtain ⟨o, ho⟩ : ∃ o, wops[62]? = some o := Option.isSome_iff_exists.1 (by kernel_rfl)
  have hop : o.op = Op.call { callee := Callee.value (Operand.func 11), args := #[Operand.tmp 65, Operand.const (Value.int IntKind.i64 256)], argTypes := #[24, 3] } := op_of ho (by kernel_rfl)
  have hg : guardOk wops a o := h.guard (hown b) (guard_of ho (g := some (60, true)) (by kernel_rfl)) (dep hd 60 (by kernel_rfl)) rfl (by decide +kernel)
  have v65 : a.eval (.tmp 65) = (sv S) := h.done 61 65 (dep hd 61 (by kernel_rfl)) (by kernel_rfl)
  refine h.calls (hown b) hH ho hg (f := 11) (args := #[sv S, .int .i64 256]) ?_ ((add_is S S 256 hR.a256 w).mono ?_)
  · rw [exec_call (enters_of Tryd.func11 (by kernel_rfl) rfl) hop]
    simp only [List.map_toArray, List.map_cons, List.map_nil, v65]
    try rfl
  rintro e w' ⟨rfl, hb⟩
  exact ⟨_, rfl, hb, rfl⟩
theorem st63 (hR : Rowed S D M) (h : At wops 103 (wtab S D M b) (wbase b) (Inv w0 b S) l a w) (hd : ∀ o : Oper, wops[63]? = some o → ∀ e ∈ o.after.toList, Region.binds .any e = true → l.getD e.on false = true) : wpOp Tryd.prog wops Q 63 (At wops 103 (wtab S D M b) (wbase b) (Inv w0 b S) (l.setIfInBounds 63 true)) a w := by
  obtain ⟨o, ho⟩ : ∃ o, wops[63]? = some o := Option.isSome_iff_exists.1 (by kernel_rfl)
  have hop : o.op = Op.load 24 (Operand.tmp 1) := op_of ho (by kernel_rfl)
  have hg : guardOk wops a o := h.guard (hown b) (guard_of ho (g := some (60, true)) (by kernel_rfl)) (dep hd 60 (by kernel_rfl)) rfl (by decide +kernel)
  have v1 : a.eval (.tmp 1) = .pointer (some ⟨b, 0, none⟩) := h.fixed 1 _ rfl
  exact h.yields (hown b) hH ho hg (v := sv S) (w' := w) (by simp only [execOp, hop, v1, Sem.run_bind, load_set h.hold.1, Result.andThen_ok, Sem.run_pure]) (Below.refl _ _) rfl
theorem st64 (hR : Rowed S D M) (h : At wops 103 (wtab S D M b) (wbase b) (Inv w0 b S) l a w) (hd : ∀ o : Oper, wops[64]? = some o → ∀ e ∈ o.after.toList, Region.binds .any e = true → l.getD e.on false = true) : wpOp Tryd.prog wops Q 64 (At wops 103 (wtab S D M b) (wbase b) (Inv w0 b S) (l.setIfInBounds 64 true)) a w := by
  obtain ⟨o, ho⟩ : ∃ o, wops[64]? = some o := Option.isSome_iff_exists.1 (by kernel_rfl)
  have hop : o.op = Op.binOp BinOp.eql 24 (Operand.tmp 66) (Operand.tmp 67) 24 := op_of ho (by kernel_rfl)
  have hg : guardOk wops a o := h.guard (hown b) (guard_of ho (g := some (60, true)) (by kernel_rfl)) (dep hd 60 (by kernel_rfl)) rfl (by decide +kernel)
  have v66 : a.eval (.tmp 66) = (sv S) := h.done 62 66 (dep hd 62 (by kernel_rfl)) (by kernel_rfl)
  have v67 : a.eval (.tmp 67) = (sv S) := h.done 63 67 (dep hd 63 (by kernel_rfl)) (by kernel_rfl)
  exact h.yields (hown b) hH ho hg (v := (.bool true)) (w' := w) (by simp only [execOp, hop, v66, v67]; simp only [Sem.run_bind, run_eqGuard_agg (P := Tryd.prog) (w := w) _ _ _ _ _ _ eqg, run_eql_struct, equal_same S hR.fS, Result.andThen_ok, Sem.run_pure]) (Below.refl _ _) rfl
theorem st65 (hR : Rowed S D M) (h : At wops 103 (wtab S D M b) (wbase b) (Inv w0 b S) l a w) (hd : ∀ o : Oper, wops[65]? = some o → ∀ e ∈ o.after.toList, Region.binds .any e = true → l.getD e.on false = true) : wpOp Tryd.prog wops Q 65 (At wops 103 (wtab S D M b) (wbase b) (Inv w0 b S) (l.setIfInBounds 65 true)) a w := by
  obtain ⟨o, ho⟩ : ∃ o, wops[65]? = some o := Option.isSome_iff_exists.1 (by kernel_rfl)
  have hop : o.op = Op.pick (Operand.tmp 64) (Operand.tmp 68) (Operand.const (Value.bool false)) := op_of ho (by kernel_rfl)
  have hg : guardOk wops a o := guard_none (guard_of ho (by kernel_rfl))
  have v64 : a.eval (.tmp 64) = (.bool true) := h.done 60 64 (dep hd 60 (by kernel_rfl)) (by kernel_rfl)
  have v68 : a.eval (.tmp 68) = (.bool true) := h.done 64 68 (dep hd 64 (by kernel_rfl)) (by kernel_rfl)
  exact h.yields (hown b) hH ho hg (v := (.bool true)) (w' := w) (by simp only [execOp, hop, v64, v68]; kernel_rfl) (Below.refl _ _) rfl
theorem st66 (hR : Rowed S D M) (h : At wops 103 (wtab S D M b) (wbase b) (Inv w0 b S) l a w) (hd : ∀ o : Oper, wops[66]? = some o → ∀ e ∈ o.after.toList, Region.binds .any e = true → l.getD e.on false = true) : wpOp Tryd.prog wops Q 66 (At wops 103 (wtab S D M b) (wbase b) (Inv w0 b S) (l.setIfInBounds 66 true)) a w := by
  obtain ⟨o, ho⟩ : ∃ o, wops[66]? = some o := Option.isSome_iff_exists.1 (by kernel_rfl)
  have hop : o.op = Op.move (Operand.tmp 69) := op_of ho (by kernel_rfl)
  have hg : guardOk wops a o := guard_none (guard_of ho (by kernel_rfl))
  have v69 : a.eval (.tmp 69) = (.bool true) := h.done 65 69 (dep hd 65 (by kernel_rfl)) (by kernel_rfl)
  exact h.yields (hown b) hH ho hg (v := (.bool true)) (w' := w) (by simp only [execOp, hop, v69]; kernel_rfl) (Below.refl _ _) rfl
theorem st67 (hR : Rowed S D M) (h : At wops 103 (wtab S D M b) (wbase b) (Inv w0 b S) l a w) (hd : ∀ o : Oper, wops[67]? = some o → ∀ e ∈ o.after.toList, Region.binds .any e = true → l.getD e.on false = true) : wpOp Tryd.prog wops Q 67 (At wops 103 (wtab S D M b) (wbase b) (Inv w0 b S) (l.setIfInBounds 67 true)) a w := by
  obtain ⟨o, ho⟩ : ∃ o, wops[67]? = some o := Option.isSome_iff_exists.1 (by kernel_rfl)
  have hop : o.op = Op.load 24 (Operand.tmp 1) := op_of ho (by kernel_rfl)
  have hg : guardOk wops a o := h.guard (hown b) (guard_of ho (g := some (66, true)) (by kernel_rfl)) (dep hd 66 (by kernel_rfl)) rfl (by decide +kernel)
  have v1 : a.eval (.tmp 1) = .pointer (some ⟨b, 0, none⟩) := h.fixed 1 _ rfl
  exact h.yields (hown b) hH ho hg (v := sv S) (w' := w) (by simp only [execOp, hop, v1, Sem.run_bind, load_set h.hold.1, Result.andThen_ok, Sem.run_pure]) (Below.refl _ _) rfl
theorem st68 (hR : Rowed S D M) (h : At wops 103 (wtab S D M b) (wbase b) (Inv w0 b S) l a w) (hd : ∀ o : Oper, wops[68]? = some o → ∀ e ∈ o.after.toList, Region.binds .any e = true → l.getD e.on false = true) : wpOp Tryd.prog wops Q 68 (At wops 103 (wtab S D M b) (wbase b) (Inv w0 b S) (l.setIfInBounds 68 true)) a w := by
  obtain ⟨o, ho⟩ : ∃ o, wops[68]? = some o := Option.isSome_iff_exists.1 (by kernel_rfl)
  have hop : o.op = Op.buildSlice 25 1 #[(0, Operand.const (Value.int IntKind.i64 64))] := op_of ho (by kernel_rfl)
  have hg : guardOk wops a o := h.guard (hown b) (guard_of ho (g := some (66, true)) (by kernel_rfl)) (dep hd 66 (by kernel_rfl)) rfl (by decide +kernel)
  exact h.yields (hown b) hH ho hg (v := .slice (some ⟨w.heap.size, 0, none⟩) 1 1) (w' := w.alloc (.cells #[.int .i64 64] 3)) (by simp only [execOp, hop]; kernel_rfl) (below_alloc1 _ _) ⟨_, 1, rfl, lit1 w 64⟩
theorem st69 (hR : Rowed S D M) (h : At wops 103 (wtab S D M b) (wbase b) (Inv w0 b S) l a w) (hd : ∀ o : Oper, wops[69]? = some o → ∀ e ∈ o.after.toList, Region.binds .any e = true → l.getD e.on false = true) : wpOp Tryd.prog wops Q 69 (At wops 103 (wtab S D M b) (wbase b) (Inv w0 b S) (l.setIfInBounds 69 true)) a w := by
  obtain ⟨o, ho⟩ : ∃ o, wops[69]? = some o := Option.isSome_iff_exists.1 (by kernel_rfl)
  have hop : o.op = Op.call { callee := Callee.value (Operand.func 28), args := #[Operand.tmp 72], argTypes := #[25] } := op_of ho (by kernel_rfl)
  have hg : guardOk wops a o := h.guard (hown b) (guard_of ho (g := some (66, true)) (by kernel_rfl)) (dep hd 66 (by kernel_rfl)) rfl (by decide +kernel)
  obtain ⟨p72, q72, v72, hi72⟩ := h.done 68 72 (dep hd 68 (by kernel_rfl)) (by kernel_rfl)
  change a.eval (.tmp 72) = .slice p72 1 q72 at v72
  refine h.calls (hown b) hH ho hg (f := 28) (args := #[.slice p72 1 q72]) ?_ ((of_is p72 q72 [64] M hR.ofM w hi72 (by decide)).mono ?_)
  · rw [exec_call (enters_of Tryd.func28 (by kernel_rfl) rfl) hop]
    simp only [List.map_toArray, List.map_cons, List.map_nil, v72]
    try rfl
  rintro e w' ⟨rfl, hb⟩
  exact ⟨_, rfl, hb, rfl⟩
theorem st70 (hR : Rowed S D M) (h : At wops 103 (wtab S D M b) (wbase b) (Inv w0 b S) l a w) (hd : ∀ o : Oper, wops[70]? = some o → ∀ e ∈ o.after.toList, Region.binds .any e = true → l.getD e.on false = true) : wpOp Tryd.prog wops Q 70 (At wops 103 (wtab S D M b) (wbase b) (Inv w0 b S) (l.setIfInBounds 70 true)) a w := by
  obtain ⟨o, ho⟩ : ∃ o, wops[70]? = some o := Option.isSome_iff_exists.1 (by kernel_rfl)
  have hop : o.op = Op.call { callee := Callee.value (Operand.func 22), args := #[Operand.tmp 71, Operand.tmp 73], argTypes := #[24, 24] } := op_of ho (by kernel_rfl)
  have hg : guardOk wops a o := h.guard (hown b) (guard_of ho (g := some (66, true)) (by kernel_rfl)) (dep hd 66 (by kernel_rfl)) rfl (by decide +kernel)
  have v71 : a.eval (.tmp 71) = (sv S) := h.done 67 71 (dep hd 67 (by kernel_rfl)) (by kernel_rfl)
  have v73 : a.eval (.tmp 73) = (sv M) := h.done 69 73 (dep hd 69 (by kernel_rfl)) (by kernel_rfl)
  refine h.calls (hown b) hH ho hg (f := 22) (args := #[sv S, sv M]) ?_ ((and_is S M M hR.and w).mono ?_)
  · rw [exec_call (enters_of Tryd.func22 (by kernel_rfl) rfl) hop]
    simp only [List.map_toArray, List.map_cons, List.map_nil, v71, v73]
    try rfl
  rintro e w' ⟨rfl, hb⟩
  exact ⟨_, rfl, hb, rfl⟩
theorem st71 (hR : Rowed S D M) (h : At wops 103 (wtab S D M b) (wbase b) (Inv w0 b S) l a w) (hd : ∀ o : Oper, wops[71]? = some o → ∀ e ∈ o.after.toList, Region.binds .any e = true → l.getD e.on false = true) : wpOp Tryd.prog wops Q 71 (At wops 103 (wtab S D M b) (wbase b) (Inv w0 b S) (l.setIfInBounds 71 true)) a w := by
  obtain ⟨o, ho⟩ : ∃ o, wops[71]? = some o := Option.isSome_iff_exists.1 (by kernel_rfl)
  have hop : o.op = Op.buildSlice 25 1 #[(0, Operand.const (Value.int IntKind.i64 64))] := op_of ho (by kernel_rfl)
  have hg : guardOk wops a o := h.guard (hown b) (guard_of ho (g := some (66, true)) (by kernel_rfl)) (dep hd 66 (by kernel_rfl)) rfl (by decide +kernel)
  exact h.yields (hown b) hH ho hg (v := .slice (some ⟨w.heap.size, 0, none⟩) 1 1) (w' := w.alloc (.cells #[.int .i64 64] 3)) (by simp only [execOp, hop]; kernel_rfl) (below_alloc1 _ _) ⟨_, 1, rfl, lit1 w 64⟩
theorem st72 (hR : Rowed S D M) (h : At wops 103 (wtab S D M b) (wbase b) (Inv w0 b S) l a w) (hd : ∀ o : Oper, wops[72]? = some o → ∀ e ∈ o.after.toList, Region.binds .any e = true → l.getD e.on false = true) : wpOp Tryd.prog wops Q 72 (At wops 103 (wtab S D M b) (wbase b) (Inv w0 b S) (l.setIfInBounds 72 true)) a w := by
  obtain ⟨o, ho⟩ : ∃ o, wops[72]? = some o := Option.isSome_iff_exists.1 (by kernel_rfl)
  have hop : o.op = Op.call { callee := Callee.value (Operand.func 28), args := #[Operand.tmp 75], argTypes := #[25] } := op_of ho (by kernel_rfl)
  have hg : guardOk wops a o := h.guard (hown b) (guard_of ho (g := some (66, true)) (by kernel_rfl)) (dep hd 66 (by kernel_rfl)) rfl (by decide +kernel)
  obtain ⟨p75, q75, v75, hi75⟩ := h.done 71 75 (dep hd 71 (by kernel_rfl)) (by kernel_rfl)
  change a.eval (.tmp 75) = .slice p75 1 q75 at v75
  refine h.calls (hown b) hH ho hg (f := 28) (args := #[.slice p75 1 q75]) ?_ ((of_is p75 q75 [64] M hR.ofM w hi75 (by decide)).mono ?_)
  · rw [exec_call (enters_of Tryd.func28 (by kernel_rfl) rfl) hop]
    simp only [List.map_toArray, List.map_cons, List.map_nil, v75]
    try rfl
  rintro e w' ⟨rfl, hb⟩
  exact ⟨_, rfl, hb, rfl⟩
theorem st73 (hR : Rowed S D M) (h : At wops 103 (wtab S D M b) (wbase b) (Inv w0 b S) l a w) (hd : ∀ o : Oper, wops[73]? = some o → ∀ e ∈ o.after.toList, Region.binds .any e = true → l.getD e.on false = true) : wpOp Tryd.prog wops Q 73 (At wops 103 (wtab S D M b) (wbase b) (Inv w0 b S) (l.setIfInBounds 73 true)) a w := by
  obtain ⟨o, ho⟩ : ∃ o, wops[73]? = some o := Option.isSome_iff_exists.1 (by kernel_rfl)
  have hop : o.op = Op.binOp BinOp.eql 24 (Operand.tmp 74) (Operand.tmp 76) 24 := op_of ho (by kernel_rfl)
  have hg : guardOk wops a o := h.guard (hown b) (guard_of ho (g := some (66, true)) (by kernel_rfl)) (dep hd 66 (by kernel_rfl)) rfl (by decide +kernel)
  have v74 : a.eval (.tmp 74) = (sv M) := h.done 70 74 (dep hd 70 (by kernel_rfl)) (by kernel_rfl)
  have v76 : a.eval (.tmp 76) = (sv M) := h.done 72 76 (dep hd 72 (by kernel_rfl)) (by kernel_rfl)
  exact h.yields (hown b) hH ho hg (v := (.bool true)) (w' := w) (by simp only [execOp, hop, v74, v76]; simp only [Sem.run_bind, run_eqGuard_agg (P := Tryd.prog) (w := w) _ _ _ _ _ _ eqg, run_eql_struct, equal_same M hR.fM, Result.andThen_ok, Sem.run_pure]) (Below.refl _ _) rfl
theorem st74 (hR : Rowed S D M) (h : At wops 103 (wtab S D M b) (wbase b) (Inv w0 b S) l a w) (hd : ∀ o : Oper, wops[74]? = some o → ∀ e ∈ o.after.toList, Region.binds .any e = true → l.getD e.on false = true) : wpOp Tryd.prog wops Q 74 (At wops 103 (wtab S D M b) (wbase b) (Inv w0 b S) (l.setIfInBounds 74 true)) a w := by
  obtain ⟨o, ho⟩ : ∃ o, wops[74]? = some o := Option.isSome_iff_exists.1 (by kernel_rfl)
  have hop : o.op = Op.pick (Operand.tmp 70) (Operand.tmp 77) (Operand.const (Value.bool false)) := op_of ho (by kernel_rfl)
  have hg : guardOk wops a o := guard_none (guard_of ho (by kernel_rfl))
  have v70 : a.eval (.tmp 70) = (.bool true) := h.done 66 70 (dep hd 66 (by kernel_rfl)) (by kernel_rfl)
  have v77 : a.eval (.tmp 77) = (.bool true) := h.done 73 77 (dep hd 73 (by kernel_rfl)) (by kernel_rfl)
  exact h.yields (hown b) hH ho hg (v := (.bool true)) (w' := w) (by simp only [execOp, hop, v70, v77]; kernel_rfl) (Below.refl _ _) rfl
theorem st75 (hR : Rowed S D M) (h : At wops 103 (wtab S D M b) (wbase b) (Inv w0 b S) l a w) (hd : ∀ o : Oper, wops[75]? = some o → ∀ e ∈ o.after.toList, Region.binds .any e = true → l.getD e.on false = true) : wpOp Tryd.prog wops Q 75 (At wops 103 (wtab S D M b) (wbase b) (Inv w0 b S) (l.setIfInBounds 75 true)) a w := by
  obtain ⟨o, ho⟩ : ∃ o, wops[75]? = some o := Option.isSome_iff_exists.1 (by kernel_rfl)
  have hop : o.op = Op.move (Operand.tmp 78) := op_of ho (by kernel_rfl)
  have hg : guardOk wops a o := guard_none (guard_of ho (by kernel_rfl))
  have v78 : a.eval (.tmp 78) = (.bool true) := h.done 74 78 (dep hd 74 (by kernel_rfl)) (by kernel_rfl)
  exact h.yields (hown b) hH ho hg (v := (.bool true)) (w' := w) (by simp only [execOp, hop, v78]; kernel_rfl) (Below.refl _ _) rfl
theorem st76 (hR : Rowed S D M) (h : At wops 103 (wtab S D M b) (wbase b) (Inv w0 b S) l a w) (hd : ∀ o : Oper, wops[76]? = some o → ∀ e ∈ o.after.toList, Region.binds .any e = true → l.getD e.on false = true) : wpOp Tryd.prog wops Q 76 (At wops 103 (wtab S D M b) (wbase b) (Inv w0 b S) (l.setIfInBounds 76 true)) a w := by
  obtain ⟨o, ho⟩ : ∃ o, wops[76]? = some o := Option.isSome_iff_exists.1 (by kernel_rfl)
  have hop : o.op = Op.load 24 (Operand.tmp 1) := op_of ho (by kernel_rfl)
  have hg : guardOk wops a o := h.guard (hown b) (guard_of ho (g := some (75, true)) (by kernel_rfl)) (dep hd 75 (by kernel_rfl)) rfl (by decide +kernel)
  have v1 : a.eval (.tmp 1) = .pointer (some ⟨b, 0, none⟩) := h.fixed 1 _ rfl
  exact h.yields (hown b) hH ho hg (v := sv S) (w' := w) (by simp only [execOp, hop, v1, Sem.run_bind, load_set h.hold.1, Result.andThen_ok, Sem.run_pure]) (Below.refl _ _) rfl
theorem st77 (hR : Rowed S D M) (h : At wops 103 (wtab S D M b) (wbase b) (Inv w0 b S) l a w) (hd : ∀ o : Oper, wops[77]? = some o → ∀ e ∈ o.after.toList, Region.binds .any e = true → l.getD e.on false = true) : wpOp Tryd.prog wops Q 77 (At wops 103 (wtab S D M b) (wbase b) (Inv w0 b S) (l.setIfInBounds 77 true)) a w := by
  obtain ⟨o, ho⟩ : ∃ o, wops[77]? = some o := Option.isSome_iff_exists.1 (by kernel_rfl)
  have hop : o.op = Op.buildSlice 25 1 #[(0, Operand.const (Value.int IntKind.i64 64))] := op_of ho (by kernel_rfl)
  have hg : guardOk wops a o := h.guard (hown b) (guard_of ho (g := some (75, true)) (by kernel_rfl)) (dep hd 75 (by kernel_rfl)) rfl (by decide +kernel)
  exact h.yields (hown b) hH ho hg (v := .slice (some ⟨w.heap.size, 0, none⟩) 1 1) (w' := w.alloc (.cells #[.int .i64 64] 3)) (by simp only [execOp, hop]; kernel_rfl) (below_alloc1 _ _) ⟨_, 1, rfl, lit1 w 64⟩
theorem st78 (hR : Rowed S D M) (h : At wops 103 (wtab S D M b) (wbase b) (Inv w0 b S) l a w) (hd : ∀ o : Oper, wops[78]? = some o → ∀ e ∈ o.after.toList, Region.binds .any e = true → l.getD e.on false = true) : wpOp Tryd.prog wops Q 78 (At wops 103 (wtab S D M b) (wbase b) (Inv w0 b S) (l.setIfInBounds 78 true)) a w := by
  obtain ⟨o, ho⟩ : ∃ o, wops[78]? = some o := Option.isSome_iff_exists.1 (by kernel_rfl)
  have hop : o.op = Op.call { callee := Callee.value (Operand.func 28), args := #[Operand.tmp 81], argTypes := #[25] } := op_of ho (by kernel_rfl)
  have hg : guardOk wops a o := h.guard (hown b) (guard_of ho (g := some (75, true)) (by kernel_rfl)) (dep hd 75 (by kernel_rfl)) rfl (by decide +kernel)
  obtain ⟨p81, q81, v81, hi81⟩ := h.done 77 81 (dep hd 77 (by kernel_rfl)) (by kernel_rfl)
  change a.eval (.tmp 81) = .slice p81 1 q81 at v81
  refine h.calls (hown b) hH ho hg (f := 28) (args := #[.slice p81 1 q81]) ?_ ((of_is p81 q81 [64] M hR.ofM w hi81 (by decide)).mono ?_)
  · rw [exec_call (enters_of Tryd.func28 (by kernel_rfl) rfl) hop]
    simp only [List.map_toArray, List.map_cons, List.map_nil, v81]
    try rfl
  rintro e w' ⟨rfl, hb⟩
  exact ⟨_, rfl, hb, rfl⟩
theorem st79 (hR : Rowed S D M) (h : At wops 103 (wtab S D M b) (wbase b) (Inv w0 b S) l a w) (hd : ∀ o : Oper, wops[79]? = some o → ∀ e ∈ o.after.toList, Region.binds .any e = true → l.getD e.on false = true) : wpOp Tryd.prog wops Q 79 (At wops 103 (wtab S D M b) (wbase b) (Inv w0 b S) (l.setIfInBounds 79 true)) a w := by
  obtain ⟨o, ho⟩ : ∃ o, wops[79]? = some o := Option.isSome_iff_exists.1 (by kernel_rfl)
  have hop : o.op = Op.call { callee := Callee.value (Operand.func 26), args := #[Operand.tmp 80, Operand.tmp 82], argTypes := #[24, 24] } := op_of ho (by kernel_rfl)
  have hg : guardOk wops a o := h.guard (hown b) (guard_of ho (g := some (75, true)) (by kernel_rfl)) (dep hd 75 (by kernel_rfl)) rfl (by decide +kernel)
  have v80 : a.eval (.tmp 80) = (sv S) := h.done 76 80 (dep hd 76 (by kernel_rfl)) (by kernel_rfl)
  have v82 : a.eval (.tmp 82) = (sv M) := h.done 78 82 (dep hd 78 (by kernel_rfl)) (by kernel_rfl)
  refine h.calls (hown b) hH ho hg (f := 26) (args := #[sv S, sv M]) ?_ ((less_is S M D hR.minus w).mono ?_)
  · rw [exec_call (enters_of Tryd.func26 (by kernel_rfl) rfl) hop]
    simp only [List.map_toArray, List.map_cons, List.map_nil, v80, v82]
    try rfl
  rintro e w' ⟨rfl, hb⟩
  exact ⟨_, rfl, hb, rfl⟩
theorem st80 (hR : Rowed S D M) (h : At wops 103 (wtab S D M b) (wbase b) (Inv w0 b S) l a w) (hd : ∀ o : Oper, wops[80]? = some o → ∀ e ∈ o.after.toList, Region.binds .any e = true → l.getD e.on false = true) : wpOp Tryd.prog wops Q 80 (At wops 103 (wtab S D M b) (wbase b) (Inv w0 b S) (l.setIfInBounds 80 true)) a w := by
  obtain ⟨o, ho⟩ : ∃ o, wops[80]? = some o := Option.isSome_iff_exists.1 (by kernel_rfl)
  have hop : o.op = Op.buildSlice 25 2 #[(0, Operand.const (Value.int IntKind.i64 3)), (1, Operand.const (Value.int IntKind.i64 255))] := op_of ho (by kernel_rfl)
  have hg : guardOk wops a o := h.guard (hown b) (guard_of ho (g := some (75, true)) (by kernel_rfl)) (dep hd 75 (by kernel_rfl)) rfl (by decide +kernel)
  exact h.yields (hown b) hH ho hg (v := .slice (some ⟨w.heap.size, 0, none⟩) 2 2) (w' := w.alloc (.cells #[.int .i64 3, .int .i64 255] 3)) (by simp only [execOp, hop]; kernel_rfl) (below_alloc1 _ _) ⟨_, 2, rfl, lit2 w 3 255⟩
theorem st81 (hR : Rowed S D M) (h : At wops 103 (wtab S D M b) (wbase b) (Inv w0 b S) l a w) (hd : ∀ o : Oper, wops[81]? = some o → ∀ e ∈ o.after.toList, Region.binds .any e = true → l.getD e.on false = true) : wpOp Tryd.prog wops Q 81 (At wops 103 (wtab S D M b) (wbase b) (Inv w0 b S) (l.setIfInBounds 81 true)) a w := by
  obtain ⟨o, ho⟩ : ∃ o, wops[81]? = some o := Option.isSome_iff_exists.1 (by kernel_rfl)
  have hop : o.op = Op.call { callee := Callee.value (Operand.func 28), args := #[Operand.tmp 84], argTypes := #[25] } := op_of ho (by kernel_rfl)
  have hg : guardOk wops a o := h.guard (hown b) (guard_of ho (g := some (75, true)) (by kernel_rfl)) (dep hd 75 (by kernel_rfl)) rfl (by decide +kernel)
  obtain ⟨p84, q84, v84, hi84⟩ := h.done 80 84 (dep hd 80 (by kernel_rfl)) (by kernel_rfl)
  change a.eval (.tmp 84) = .slice p84 2 q84 at v84
  refine h.calls (hown b) hH ho hg (f := 28) (args := #[.slice p84 2 q84]) ?_ ((of_is p84 q84 [3, 255] D hR.ofD w hi84 (by decide)).mono ?_)
  · rw [exec_call (enters_of Tryd.func28 (by kernel_rfl) rfl) hop]
    simp only [List.map_toArray, List.map_cons, List.map_nil, v84]
    try rfl
  rintro e w' ⟨rfl, hb⟩
  exact ⟨_, rfl, hb, rfl⟩
theorem st82 (hR : Rowed S D M) (h : At wops 103 (wtab S D M b) (wbase b) (Inv w0 b S) l a w) (hd : ∀ o : Oper, wops[82]? = some o → ∀ e ∈ o.after.toList, Region.binds .any e = true → l.getD e.on false = true) : wpOp Tryd.prog wops Q 82 (At wops 103 (wtab S D M b) (wbase b) (Inv w0 b S) (l.setIfInBounds 82 true)) a w := by
  obtain ⟨o, ho⟩ : ∃ o, wops[82]? = some o := Option.isSome_iff_exists.1 (by kernel_rfl)
  have hop : o.op = Op.binOp BinOp.eql 24 (Operand.tmp 83) (Operand.tmp 85) 24 := op_of ho (by kernel_rfl)
  have hg : guardOk wops a o := h.guard (hown b) (guard_of ho (g := some (75, true)) (by kernel_rfl)) (dep hd 75 (by kernel_rfl)) rfl (by decide +kernel)
  have v83 : a.eval (.tmp 83) = (sv D) := h.done 79 83 (dep hd 79 (by kernel_rfl)) (by kernel_rfl)
  have v85 : a.eval (.tmp 85) = (sv D) := h.done 81 85 (dep hd 81 (by kernel_rfl)) (by kernel_rfl)
  exact h.yields (hown b) hH ho hg (v := (.bool true)) (w' := w) (by simp only [execOp, hop, v83, v85]; simp only [Sem.run_bind, run_eqGuard_agg (P := Tryd.prog) (w := w) _ _ _ _ _ _ eqg, run_eql_struct, equal_same D hR.fD, Result.andThen_ok, Sem.run_pure]) (Below.refl _ _) rfl
theorem st83 (hR : Rowed S D M) (h : At wops 103 (wtab S D M b) (wbase b) (Inv w0 b S) l a w) (hd : ∀ o : Oper, wops[83]? = some o → ∀ e ∈ o.after.toList, Region.binds .any e = true → l.getD e.on false = true) : wpOp Tryd.prog wops Q 83 (At wops 103 (wtab S D M b) (wbase b) (Inv w0 b S) (l.setIfInBounds 83 true)) a w := by
  obtain ⟨o, ho⟩ : ∃ o, wops[83]? = some o := Option.isSome_iff_exists.1 (by kernel_rfl)
  have hop : o.op = Op.pick (Operand.tmp 79) (Operand.tmp 86) (Operand.const (Value.bool false)) := op_of ho (by kernel_rfl)
  have hg : guardOk wops a o := guard_none (guard_of ho (by kernel_rfl))
  have v79 : a.eval (.tmp 79) = (.bool true) := h.done 75 79 (dep hd 75 (by kernel_rfl)) (by kernel_rfl)
  have v86 : a.eval (.tmp 86) = (.bool true) := h.done 82 86 (dep hd 82 (by kernel_rfl)) (by kernel_rfl)
  exact h.yields (hown b) hH ho hg (v := (.bool true)) (w' := w) (by simp only [execOp, hop, v79, v86]; kernel_rfl) (Below.refl _ _) rfl
theorem st84 (hR : Rowed S D M) (h : At wops 103 (wtab S D M b) (wbase b) (Inv w0 b S) l a w) (hd : ∀ o : Oper, wops[84]? = some o → ∀ e ∈ o.after.toList, Region.binds .any e = true → l.getD e.on false = true) : wpOp Tryd.prog wops Q 84 (At wops 103 (wtab S D M b) (wbase b) (Inv w0 b S) (l.setIfInBounds 84 true)) a w := by
  obtain ⟨o, ho⟩ : ∃ o, wops[84]? = some o := Option.isSome_iff_exists.1 (by kernel_rfl)
  have hop : o.op = Op.move (Operand.tmp 87) := op_of ho (by kernel_rfl)
  have hg : guardOk wops a o := guard_none (guard_of ho (by kernel_rfl))
  have v87 : a.eval (.tmp 87) = (.bool true) := h.done 83 87 (dep hd 83 (by kernel_rfl)) (by kernel_rfl)
  exact h.yields (hown b) hH ho hg (v := (.bool true)) (w' := w) (by simp only [execOp, hop, v87]; kernel_rfl) (Below.refl _ _) rfl
theorem st85 (hR : Rowed S D M) (h : At wops 103 (wtab S D M b) (wbase b) (Inv w0 b S) l a w) (hd : ∀ o : Oper, wops[85]? = some o → ∀ e ∈ o.after.toList, Region.binds .any e = true → l.getD e.on false = true) : wpOp Tryd.prog wops Q 85 (At wops 103 (wtab S D M b) (wbase b) (Inv w0 b S) (l.setIfInBounds 85 true)) a w := by
  obtain ⟨o, ho⟩ : ∃ o, wops[85]? = some o := Option.isSome_iff_exists.1 (by kernel_rfl)
  have hop : o.op = Op.buildSlice 25 1 #[(0, Operand.const (Value.int IntKind.i64 1))] := op_of ho (by kernel_rfl)
  have hg : guardOk wops a o := h.guard (hown b) (guard_of ho (g := some (84, true)) (by kernel_rfl)) (dep hd 84 (by kernel_rfl)) rfl (by decide +kernel)
  exact h.yields (hown b) hH ho hg (v := .slice (some ⟨w.heap.size, 0, none⟩) 1 1) (w' := w.alloc (.cells #[.int .i64 1] 3)) (by simp only [execOp, hop]; kernel_rfl) (below_alloc1 _ _) ⟨_, 1, rfl, lit1 w 1⟩
theorem st86 (hR : Rowed S D M) (h : At wops 103 (wtab S D M b) (wbase b) (Inv w0 b S) l a w) (hd : ∀ o : Oper, wops[86]? = some o → ∀ e ∈ o.after.toList, Region.binds .any e = true → l.getD e.on false = true) : wpOp Tryd.prog wops Q 86 (At wops 103 (wtab S D M b) (wbase b) (Inv w0 b S) (l.setIfInBounds 86 true)) a w := by
  obtain ⟨o, ho⟩ : ∃ o, wops[86]? = some o := Option.isSome_iff_exists.1 (by kernel_rfl)
  have hop : o.op = Op.call { callee := Callee.value (Operand.func 28), args := #[Operand.tmp 89], argTypes := #[25] } := op_of ho (by kernel_rfl)
  have hg : guardOk wops a o := h.guard (hown b) (guard_of ho (g := some (84, true)) (by kernel_rfl)) (dep hd 84 (by kernel_rfl)) rfl (by decide +kernel)
  obtain ⟨p89, q89, v89, hi89⟩ := h.done 85 89 (dep hd 85 (by kernel_rfl)) (by kernel_rfl)
  change a.eval (.tmp 89) = .slice p89 1 q89 at v89
  refine h.calls (hown b) hH ho hg (f := 28) (args := #[.slice p89 1 q89]) ?_ ((of_is p89 q89 [1] 2 k_one w hi89 (by decide)).mono ?_)
  · rw [exec_call (enters_of Tryd.func28 (by kernel_rfl) rfl) hop]
    simp only [List.map_toArray, List.map_cons, List.map_nil, v89]
    try rfl
  rintro e w' ⟨rfl, hb⟩
  exact ⟨_, rfl, hb, rfl⟩
theorem st87 (hR : Rowed S D M) (h : At wops 103 (wtab S D M b) (wbase b) (Inv w0 b S) l a w) (hd : ∀ o : Oper, wops[87]? = some o → ∀ e ∈ o.after.toList, Region.binds .any e = true → l.getD e.on false = true) : wpOp Tryd.prog wops Q 87 (At wops 103 (wtab S D M b) (wbase b) (Inv w0 b S) (l.setIfInBounds 87 true)) a w := by
  obtain ⟨o, ho⟩ : ∃ o, wops[87]? = some o := Option.isSome_iff_exists.1 (by kernel_rfl)
  have hop : o.op = Op.buildSlice 25 1 #[(0, Operand.const (Value.int IntKind.i64 2))] := op_of ho (by kernel_rfl)
  have hg : guardOk wops a o := h.guard (hown b) (guard_of ho (g := some (84, true)) (by kernel_rfl)) (dep hd 84 (by kernel_rfl)) rfl (by decide +kernel)
  exact h.yields (hown b) hH ho hg (v := .slice (some ⟨w.heap.size, 0, none⟩) 1 1) (w' := w.alloc (.cells #[.int .i64 2] 3)) (by simp only [execOp, hop]; kernel_rfl) (below_alloc1 _ _) ⟨_, 1, rfl, lit1 w 2⟩
theorem st88 (hR : Rowed S D M) (h : At wops 103 (wtab S D M b) (wbase b) (Inv w0 b S) l a w) (hd : ∀ o : Oper, wops[88]? = some o → ∀ e ∈ o.after.toList, Region.binds .any e = true → l.getD e.on false = true) : wpOp Tryd.prog wops Q 88 (At wops 103 (wtab S D M b) (wbase b) (Inv w0 b S) (l.setIfInBounds 88 true)) a w := by
  obtain ⟨o, ho⟩ : ∃ o, wops[88]? = some o := Option.isSome_iff_exists.1 (by kernel_rfl)
  have hop : o.op = Op.call { callee := Callee.value (Operand.func 28), args := #[Operand.tmp 91], argTypes := #[25] } := op_of ho (by kernel_rfl)
  have hg : guardOk wops a o := h.guard (hown b) (guard_of ho (g := some (84, true)) (by kernel_rfl)) (dep hd 84 (by kernel_rfl)) rfl (by decide +kernel)
  obtain ⟨p91, q91, v91, hi91⟩ := h.done 87 91 (dep hd 87 (by kernel_rfl)) (by kernel_rfl)
  change a.eval (.tmp 91) = .slice p91 1 q91 at v91
  refine h.calls (hown b) hH ho hg (f := 28) (args := #[.slice p91 1 q91]) ?_ ((of_is p91 q91 [2] 4 k_two w hi91 (by decide)).mono ?_)
  · rw [exec_call (enters_of Tryd.func28 (by kernel_rfl) rfl) hop]
    simp only [List.map_toArray, List.map_cons, List.map_nil, v91]
    try rfl
  rintro e w' ⟨rfl, hb⟩
  exact ⟨_, rfl, hb, rfl⟩
theorem st89 (hR : Rowed S D M) (h : At wops 103 (wtab S D M b) (wbase b) (Inv w0 b S) l a w) (hd : ∀ o : Oper, wops[89]? = some o → ∀ e ∈ o.after.toList, Region.binds .any e = true → l.getD e.on false = true) : wpOp Tryd.prog wops Q 89 (At wops 103 (wtab S D M b) (wbase b) (Inv w0 b S) (l.setIfInBounds 89 true)) a w := by
  obtain ⟨o, ho⟩ : ∃ o, wops[89]? = some o := Option.isSome_iff_exists.1 (by kernel_rfl)
  have hop : o.op = Op.call { callee := Callee.value (Operand.func 24), args := #[Operand.tmp 90, Operand.tmp 92], argTypes := #[24, 24] } := op_of ho (by kernel_rfl)
  have hg : guardOk wops a o := h.guard (hown b) (guard_of ho (g := some (84, true)) (by kernel_rfl)) (dep hd 84 (by kernel_rfl)) rfl (by decide +kernel)
  have v90 : a.eval (.tmp 90) = (sv 2) := h.done 86 90 (dep hd 86 (by kernel_rfl)) (by kernel_rfl)
  have v92 : a.eval (.tmp 92) = (sv 4) := h.done 88 92 (dep hd 88 (by kernel_rfl)) (by kernel_rfl)
  refine h.calls (hown b) hH ho hg (f := 24) (args := #[sv 2, sv 4]) ?_ ((or_is 2 4 6 k_sets.2.2.2.2.2.1 w).mono ?_)
  · rw [exec_call (enters_of Tryd.func24 (by kernel_rfl) rfl) hop]
    simp only [List.map_toArray, List.map_cons, List.map_nil, v90, v92]
    try rfl
  rintro e w' ⟨rfl, hb⟩
  exact ⟨_, rfl, hb, rfl⟩
theorem st90 (hR : Rowed S D M) (h : At wops 103 (wtab S D M b) (wbase b) (Inv w0 b S) l a w) (hd : ∀ o : Oper, wops[90]? = some o → ∀ e ∈ o.after.toList, Region.binds .any e = true → l.getD e.on false = true) : wpOp Tryd.prog wops Q 90 (At wops 103 (wtab S D M b) (wbase b) (Inv w0 b S) (l.setIfInBounds 90 true)) a w := by
  obtain ⟨o, ho⟩ : ∃ o, wops[90]? = some o := Option.isSome_iff_exists.1 (by kernel_rfl)
  have hop : o.op = Op.call { callee := Callee.value (Operand.func 20), args := #[Operand.tmp 93], argTypes := #[24] } := op_of ho (by kernel_rfl)
  have hg : guardOk wops a o := h.guard (hown b) (guard_of ho (g := some (84, true)) (by kernel_rfl)) (dep hd 84 (by kernel_rfl)) rfl (by decide +kernel)
  have v93 : a.eval (.tmp 93) = (sv 6) := h.done 89 93 (dep hd 89 (by kernel_rfl)) (by kernel_rfl)
  refine h.calls (hown b) hH ho hg (f := 20) (args := #[sv 6]) ?_ ((all_is 6 [1, 2] k_all.2 w h.hold.2.1 h.hold.2.2.1).mono ?_)
  · rw [exec_call (enters_of Tryd.func20 (by kernel_rfl) rfl) hop]
    simp only [List.map_toArray, List.map_cons, List.map_nil, v93]
    try rfl
  rintro e w' ⟨⟨a1, c1, rfl, hi⟩, hb⟩
  exact ⟨_, rfl, hb, a1, c1, rfl, hi⟩
theorem st91 (hR : Rowed S D M) (h : At wops 103 (wtab S D M b) (wbase b) (Inv w0 b S) l a w) (hd : ∀ o : Oper, wops[91]? = some o → ∀ e ∈ o.after.toList, Region.binds .any e = true → l.getD e.on false = true) : wpOp Tryd.prog wops Q 91 (At wops 103 (wtab S D M b) (wbase b) (Inv w0 b S) (l.setIfInBounds 91 true)) a w := by
  obtain ⟨o, ho⟩ : ∃ o, wops[91]? = some o := Option.isSome_iff_exists.1 (by kernel_rfl)
  have hop : o.op = Op.buildSlice 25 2 #[(0, Operand.const (Value.int IntKind.i64 1)), (1, Operand.const (Value.int IntKind.i64 2))] := op_of ho (by kernel_rfl)
  have hg : guardOk wops a o := h.guard (hown b) (guard_of ho (g := some (84, true)) (by kernel_rfl)) (dep hd 84 (by kernel_rfl)) rfl (by decide +kernel)
  exact h.yields (hown b) hH ho hg (v := .slice (some ⟨w.heap.size, 0, none⟩) 2 2) (w' := w.alloc (.cells #[.int .i64 1, .int .i64 2] 3)) (by simp only [execOp, hop]; kernel_rfl) (below_alloc1 _ _) ⟨_, 2, rfl, lit2 w 1 2⟩
theorem st92 (hR : Rowed S D M) (h : At wops 103 (wtab S D M b) (wbase b) (Inv w0 b S) l a w) (hd : ∀ o : Oper, wops[92]? = some o → ∀ e ∈ o.after.toList, Region.binds .any e = true → l.getD e.on false = true) : wpOp Tryd.prog wops Q 92 (At wops 103 (wtab S D M b) (wbase b) (Inv w0 b S) (l.setIfInBounds 92 true)) a w := by
  obtain ⟨o, ho⟩ : ∃ o, wops[92]? = some o := Option.isSome_iff_exists.1 (by kernel_rfl)
  have hop : o.op = Op.call { callee := Callee.value (Operand.func 35), args := #[Operand.tmp 94, Operand.tmp 95], argTypes := #[25, 25] } := op_of ho (by kernel_rfl)
  have hg : guardOk wops a o := h.guard (hown b) (guard_of ho (g := some (84, true)) (by kernel_rfl)) (dep hd 84 (by kernel_rfl)) rfl (by decide +kernel)
  obtain ⟨p94, q94, v94, hi94⟩ := h.done 90 94 (dep hd 90 (by kernel_rfl)) (by kernel_rfl)
  change a.eval (.tmp 94) = .slice p94 2 q94 at v94
  obtain ⟨p95, q95, v95, hi95⟩ := h.done 91 95 (dep hd 91 (by kernel_rfl)) (by kernel_rfl)
  change a.eval (.tmp 95) = .slice p95 2 q95 at v95
  refine h.calls (hown b) hH ho hg (f := 35) (args := #[.slice p94 2 q94, .slice p95 2 q95]) ?_ ((ints_is p94 p95 q94 q95 [1, 2] w hi94 hi95).mono ?_)
  · rw [exec_call (enters_of Tryd.func35 (by kernel_rfl) rfl) hop]
    simp only [List.map_toArray, List.map_cons, List.map_nil, v94, v95]
    try rfl
  rintro e w' ⟨rfl, hb⟩
  exact ⟨_, rfl, hb, rfl⟩
theorem st93 (hR : Rowed S D M) (h : At wops 103 (wtab S D M b) (wbase b) (Inv w0 b S) l a w) (hd : ∀ o : Oper, wops[93]? = some o → ∀ e ∈ o.after.toList, Region.binds .any e = true → l.getD e.on false = true) : wpOp Tryd.prog wops Q 93 (At wops 103 (wtab S D M b) (wbase b) (Inv w0 b S) (l.setIfInBounds 93 true)) a w := by
  obtain ⟨o, ho⟩ : ∃ o, wops[93]? = some o := Option.isSome_iff_exists.1 (by kernel_rfl)
  have hop : o.op = Op.pick (Operand.tmp 88) (Operand.tmp 96) (Operand.const (Value.bool false)) := op_of ho (by kernel_rfl)
  have hg : guardOk wops a o := guard_none (guard_of ho (by kernel_rfl))
  have v88 : a.eval (.tmp 88) = (.bool true) := h.done 84 88 (dep hd 84 (by kernel_rfl)) (by kernel_rfl)
  have v96 : a.eval (.tmp 96) = (.bool true) := h.done 92 96 (dep hd 92 (by kernel_rfl)) (by kernel_rfl)
  exact h.yields (hown b) hH ho hg (v := (.bool true)) (w' := w) (by simp only [execOp, hop, v88, v96]; kernel_rfl) (Below.refl _ _) rfl
theorem st94 (hR : Rowed S D M) (h : At wops 103 (wtab S D M b) (wbase b) (Inv w0 b S) l a w) (hd : ∀ o : Oper, wops[94]? = some o → ∀ e ∈ o.after.toList, Region.binds .any e = true → l.getD e.on false = true) : wpOp Tryd.prog wops Q 94 (At wops 103 (wtab S D M b) (wbase b) (Inv w0 b S) (l.setIfInBounds 94 true)) a w := by
  obtain ⟨o, ho⟩ : ∃ o, wops[94]? = some o := Option.isSome_iff_exists.1 (by kernel_rfl)
  have hop : o.op = Op.move (Operand.tmp 97) := op_of ho (by kernel_rfl)
  have hg : guardOk wops a o := guard_none (guard_of ho (by kernel_rfl))
  have v97 : a.eval (.tmp 97) = (.bool true) := h.done 93 97 (dep hd 93 (by kernel_rfl)) (by kernel_rfl)
  exact h.yields (hown b) hH ho hg (v := (.bool true)) (w' := w) (by simp only [execOp, hop, v97]; kernel_rfl) (Below.refl _ _) rfl
theorem st95 (hR : Rowed S D M) (h : At wops 103 (wtab S D M b) (wbase b) (Inv w0 b S) l a w) (hd : ∀ o : Oper, wops[95]? = some o → ∀ e ∈ o.after.toList, Region.binds .any e = true → l.getD e.on false = true) : wpOp Tryd.prog wops Q 95 (At wops 103 (wtab S D M b) (wbase b) (Inv w0 b S) (l.setIfInBounds 95 true)) a w := by
  obtain ⟨o, ho⟩ : ∃ o, wops[95]? = some o := Option.isSome_iff_exists.1 (by kernel_rfl)
  have hop : o.op = Op.indexAddr 24 (Operand.tmp 1) (Operand.const (Value.int IntKind.i64 0)) := op_of ho (by kernel_rfl)
  have hg : guardOk wops a o := h.guard (hown b) (guard_of ho (g := some (94, true)) (by kernel_rfl)) (dep hd 94 (by kernel_rfl)) rfl (by decide +kernel)
  have v1 : a.eval (.tmp 1) = .pointer (some ⟨b, 0, none⟩) := h.fixed 1 _ rfl
  exact h.yields (hown b) hH ho hg (v := (.pointer (some ⟨b, 0, none⟩))) (w' := w) (by simp only [execOp, hop, v1]; kernel_rfl) (Below.refl _ _) rfl
theorem st96 (hR : Rowed S D M) (h : At wops 103 (wtab S D M b) (wbase b) (Inv w0 b S) l a w) (hd : ∀ o : Oper, wops[96]? = some o → ∀ e ∈ o.after.toList, Region.binds .any e = true → l.getD e.on false = true) : wpOp Tryd.prog wops Q 96 (At wops 103 (wtab S D M b) (wbase b) (Inv w0 b S) (l.setIfInBounds 96 true)) a w := by
  obtain ⟨o, ho⟩ : ∃ o, wops[96]? = some o := Option.isSome_iff_exists.1 (by kernel_rfl)
  have hop : o.op = Op.load 22 (Operand.tmp 99) := op_of ho (by kernel_rfl)
  have hg : guardOk wops a o := h.guard (hown b) (guard_of ho (g := some (94, true)) (by kernel_rfl)) (dep hd 94 (by kernel_rfl)) rfl (by decide +kernel)
  have v99 : a.eval (.tmp 99) = (.pointer (some ⟨b, 0, none⟩)) := h.done 95 99 (dep hd 95 (by kernel_rfl)) (by kernel_rfl)
  have hc := h.hold.1.cells.1
  rw [hR.w8] at hc
  exact h.yields (hown b) hH ho hg (v := .int .u64 8) (w' := w) (by simp only [execOp, hop, v99]; simp [go_sem, hc]) (Below.refl _ _) rfl
theorem st97 (hR : Rowed S D M) (h : At wops 103 (wtab S D M b) (wbase b) (Inv w0 b S) l a w) (hd : ∀ o : Oper, wops[97]? = some o → ∀ e ∈ o.after.toList, Region.binds .any e = true → l.getD e.on false = true) : wpOp Tryd.prog wops Q 97 (At wops 103 (wtab S D M b) (wbase b) (Inv w0 b S) (l.setIfInBounds 97 true)) a w := by
  obtain ⟨o, ho⟩ : ∃ o, wops[97]? = some o := Option.isSome_iff_exists.1 (by kernel_rfl)
  have hop : o.op = Op.binOp BinOp.eql 22 (Operand.tmp 100) (Operand.const (Value.int IntKind.u64 8)) 22 := op_of ho (by kernel_rfl)
  have hg : guardOk wops a o := h.guard (hown b) (guard_of ho (g := some (94, true)) (by kernel_rfl)) (dep hd 94 (by kernel_rfl)) rfl (by decide +kernel)
  have v100 : a.eval (.tmp 100) = (.int .u64 8) := h.done 96 100 (dep hd 96 (by kernel_rfl)) (by kernel_rfl)
  exact h.yields (hown b) hH ho hg (v := (.bool true)) (w' := w) (by simp only [execOp, hop, v100]; kernel_rfl) (Below.refl _ _) rfl
theorem st98 (hR : Rowed S D M) (h : At wops 103 (wtab S D M b) (wbase b) (Inv w0 b S) l a w) (hd : ∀ o : Oper, wops[98]? = some o → ∀ e ∈ o.after.toList, Region.binds .any e = true → l.getD e.on false = true) : wpOp Tryd.prog wops Q 98 (At wops 103 (wtab S D M b) (wbase b) (Inv w0 b S) (l.setIfInBounds 98 true)) a w := by
  obtain ⟨o, ho⟩ : ∃ o, wops[98]? = some o := Option.isSome_iff_exists.1 (by kernel_rfl)
  have hop : o.op = Op.pick (Operand.tmp 98) (Operand.tmp 101) (Operand.const (Value.bool false)) := op_of ho (by kernel_rfl)
  have hg : guardOk wops a o := guard_none (guard_of ho (by kernel_rfl))
  have v98 : a.eval (.tmp 98) = (.bool true) := h.done 94 98 (dep hd 94 (by kernel_rfl)) (by kernel_rfl)
  have v101 : a.eval (.tmp 101) = (.bool true) := h.done 97 101 (dep hd 97 (by kernel_rfl)) (by kernel_rfl)
  exact h.yields (hown b) hH ho hg (v := (.bool true)) (w' := w) (by simp only [execOp, hop, v98, v101]; kernel_rfl) (Below.refl _ _) rfl
theorem st99 (hR : Rowed S D M) (h : At wops 103 (wtab S D M b) (wbase b) (Inv w0 b S) l a w) (hd : ∀ o : Oper, wops[99]? = some o → ∀ e ∈ o.after.toList, Region.binds .any e = true → l.getD e.on false = true) : wpOp Tryd.prog wops Q 99 (At wops 103 (wtab S D M b) (wbase b) (Inv w0 b S) (l.setIfInBounds 99 true)) a w := by
  obtain ⟨o, ho⟩ : ∃ o, wops[99]? = some o := Option.isSome_iff_exists.1 (by kernel_rfl)
  have hop : o.op = Op.assign (Operand.tmp 102) := op_of ho (by kernel_rfl)
  have hg : guardOk wops a o := guard_none (guard_of ho (by kernel_rfl))
  have v102 : a.eval (.tmp 102) = (.bool true) := h.done 98 102 (dep hd 98 (by kernel_rfl)) (by kernel_rfl)
  exact h.yields (hown b) hH ho hg (v := (.bool true)) (w' := w) (by simp only [execOp, hop, v102]; kernel_rfl) (Below.refl _ _) rfl
end
end Go.Proofs.YtidkakcnhgfpoaaDoor
