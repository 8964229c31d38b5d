/- A region that draws its order, proved by what each slot holds once its operation is done: whatever the order, each operation is met once. No program. -/
import Derived.Test.YtidkakcnhgfpoaaDoorBitsS
namespace Go.Proofs.YtidkakcnhgfpoaaDoor
open Go.RowKit
set_option linter.unusedVariables false

/-- What is known of a slot: its value; that it is a slice that reads as a list; nothing. -/
inductive Cl where
  | val (v : Value)
  | lst (L : List Int)
  | any
def Cl.ok (c : Cl) (v : Value) (w : World) : Prop :=
  match c with
  | .val u => v = u
  | .lst L => ∃ a k, v = .slice a L.length k ∧ IsL w a k L
  | .any => True
theorem Cl.ok.next {c : Cl} {v : Value} {w w' : World} (h : c.ok v w) (k : Below w.heap.size w w') : c.ok v w' := by
  cases c with
  | val u => exact h
  | lst L => obtain ⟨a, n, e, hl⟩ := h; exact ⟨a, n, e, hl.next k⟩
  | any => trivial

/-- How many operations are not done. -/
def undone (n : Nat) (listed : Array Bool) : Nat := ((List.range n).filter fun i => !listed.getD i true).length
theorem getD_set (listed : Array Bool) (i j : Nat) (b : Bool) (hij : j ≠ i) : (listed.setIfInBounds i true).getD j b = listed.getD j b := by
  simp only [Array.getD_eq_getD_getElem?, Array.getElem?_setIfInBounds]
  rw [if_neg (fun e => hij e.symm)]
theorem getD_set_same (listed : Array Bool) (i : Nat) (b : Bool) (hi : i < listed.size) : (listed.setIfInBounds i true).getD i b = true := by
  simp only [Array.getD_eq_getD_getElem?, Array.getElem?_setIfInBounds, if_pos hi, if_true]
  rfl
theorem undone_set (n i : Nat) (listed : Array Bool) (hn : i < n) (hs : listed.size = n) (h : listed.getD i true = false) : undone n (listed.setIfInBounds i true) < undone n listed := by
  unfold undone
  obtain ⟨m, rfl⟩ : ∃ m, n = i + (1 + m) := ⟨n - i - 1, by omega⟩
  have e1 : ((List.range i).filter fun j => !(listed.setIfInBounds i true).getD j true) = (List.range i).filter fun j => !listed.getD j true := List.filter_congr fun j hj => by
    rw [getD_set _ _ _ _ (by have := List.mem_range.1 hj; omega)]
  have e2 : (((List.range m).map (fun j => i + (1 + j))).filter fun j => !(listed.setIfInBounds i true).getD j true) = ((List.range m).map (fun j => i + (1 + j))).filter fun j => !listed.getD j true := List.filter_congr fun j hj => by
    obtain ⟨k, _, rfl⟩ := List.mem_map.1 hj
    rw [getD_set _ _ _ _ (by omega)]
  rw [range_split, List.filter_append, List.filter_append, List.filter_cons, List.filter_cons, e1, e2, h, getD_set_same _ _ _ (by omega)]
  simp

section
variable {P : Program} {ops : Array Oper} {Q : Exit → Act → World → Prop}

/-- What is asked of one operation that is ready: that it leads to where it is done. -/
theorem ready_spec {listed : Array Bool} {i : Nat} (h : i ∈ Region.ready .any ops listed) : i < ops.size ∧ listed.getD i true = false ∧ ∀ o : Oper, ops[i]? = some o → ∀ e ∈ o.after.toList, Region.binds .any e = true → listed.getD e.on false = true := by
  unfold Region.ready at h
  rw [List.mem_filter, List.mem_range] at h
  obtain ⟨h1, h2⟩ := h
  rw [Bool.and_eq_true] at h2
  refine ⟨h1, by simpa using h2.1, fun o ho e he hb => ?_⟩
  have h3 := h2.2
  rw [ho] at h3
  simp only [Option.map_some, Option.getD_some, Array.all_eq_true_iff_forall_mem] at h3
  have := h3 e (by simpa using he)
  simpa [hb] using this
theorem any_inv (A : Array Bool → Act → World → Prop) (hsz : ∀ l a w, A l a w → l.size = ops.size)
    (step : ∀ l a w i, A l a w → i ∈ Region.ready .any ops l → wpOp P ops Q i (A (l.setIfInBounds i true)) a w)
    (fin : ∀ l a w, A l a w → Region.ready .any ops l = [] → Q .normal a w) :
    ∀ (fuel : Nat) (l : Array Bool) (a : Act) (w : World), undone ops.size l ≤ fuel → A l a w → wpAny P .any ops Q fuel l a w := by
  intro fuel
  induction fuel with
  | zero =>
    intro l a w hu hA
    have h0 : Region.ready .any ops l = [] := by
      unfold Region.ready
      rw [List.filter_eq_nil_iff]
      intro i hi hh
      have : ((List.range ops.size).filter fun i => !l.getD i true) = [] := List.length_eq_zero_iff.1 (Nat.le_zero.1 hu)
      rw [List.filter_eq_nil_iff] at this
      rw [Bool.and_eq_true] at hh
      exact this i hi hh.1
    exact ⟨h0, fin l a w hA h0⟩
  | succ fuel ih =>
    intro l a w hu hA
    refine ⟨fun h0 => fin l a w hA h0, fun i hi => ?_⟩
    have hr := ready_spec hi
    exact wpOp_mono (fun a' w' hA' => ih _ _ _ (by have := undone_set _ i l hr.1 (hsz l a w hA) hr.2.1; omega) hA') (step l a w i hA hi)
/-- If none is ready all are done: each waits for earlier ones alone. -/
theorem all_done (hlt : ∀ (i : Nat) (o : Oper), ops[i]? = some o → ∀ e ∈ o.after.toList, e.on < i) {l : Array Bool} (h0 : Region.ready .any ops l = []) (hs : l.size = ops.size) : ∀ i, i < ops.size → l.getD i false = true := by
  intro i
  induction i using Nat.strongRecOn with
  | ind i ih =>
    intro hi
    cases hb : l.getD i true with
    | true => 
      simp only [Array.getD_eq_getD_getElem?] at hb ⊢
      rw [Array.getElem?_eq_getElem (by omega)] at hb ⊢
      exact hb
    | false =>
      have : i ∈ Region.ready .any ops l := by
        unfold Region.ready
        rw [List.mem_filter, List.mem_range]
        refine ⟨hi, ?_⟩
        rw [hb, Array.getElem?_eq_getElem hi]
        simp only [Bool.not_false, Bool.true_and, Option.map_some, Option.getD_some, Array.all_eq_true_iff_forall_mem]
        intro e he
        have h1 := hlt i ops[i] (Array.getElem?_eq_getElem hi) e (by simpa using he)
        rw [ih e.on h1 (by omega), Bool.or_true]
      rw [h0] at this
      cases this
/-- Where the operations of l are done: each one's slot is as the table says; the fixed slots are as they were; H holds. -/
structure At (ops : Array Oper) (n : Nat) (tab : Array Cl) (base : Nat → Option Value) (H : World → Prop) (l : Array Bool) (a : Act) (w : World) : Prop where
  sz : l.size = ops.size
  tmps : a.tmps.size = n
  defers : a.defers = []
  hold : H w
  fixed : ∀ s v, base s = some v → a.tmps.getD s undef = v
  done : ∀ i d, l.getD i false = true → (ops[i]?).bind (·.dst) = some d → (tab.getD i .any).ok (a.tmps.getD d undef) w
variable {n : Nat} {tab : Array Cl} {base : Nat → Option Value} {H : World → Prop} {l : Array Bool} {a : Act} {w : World}
/-- Each operation has a slot of its own, which is not fixed. -/
def ownSlots (ops : Array Oper) (n : Nat) (base : Nat → Option Value) : Prop :=
  ∀ (i : Nat) (o : Oper), ops[i]? = some o → ∃ d, o.dst = some d ∧ d < n ∧ base d = none ∧ ∀ (j : Nat) (o' : Oper), ops[j]? = some o' → o'.dst = some d → j = i
theorem At.put (h : At ops n tab base H l a w) (hown : ownSlots ops n base) (hH : ∀ w w', H w → Below w.heap.size w w' → H w') {i : Nat} {o : Oper} (ho : ops[i]? = some o) {v : Value} {w' : World} (hb : Below w.heap.size w w')
    (hv : (tab.getD i .any).ok v w') : At ops n tab base H (l.setIfInBounds i true) (a.put o.dst v) w' := by
  obtain ⟨d, hd, hdn, hdb, huniq⟩ := hown i o ho
  have hi : i < ops.size := (Array.getElem?_eq_some_iff.1 ho).1
  rw [hd]
  refine ⟨by rw [Array.size_setIfInBounds]; exact h.sz, by show (a.tmps.setIfInBounds d v).size = n; rw [Array.size_setIfInBounds]; exact h.tmps, h.defers, hH _ _ h.hold hb, fun s u hs => ?_, fun j d' hj hd' => ?_⟩
  · show (a.tmps.setIfInBounds d v).getD s undef = u
    have hne : d ≠ s := fun e => by rw [← e, hdb] at hs; cases hs
    have := h.fixed s u hs
    simp only [Array.getD_eq_getD_getElem?, Array.getElem?_setIfInBounds, if_neg hne] at this ⊢
    exact this
  · show (tab.getD j .any).ok ((a.tmps.setIfInBounds d v).getD d' undef) w'
    by_cases hji : j = i
    · subst hji
      rw [ho] at hd'
      have e : d' = d := by simpa [hd] using hd'.symm
      subst e
      have ev : (a.tmps.setIfInBounds d' v).getD d' undef = v := by
        simp only [Array.getD_eq_getD_getElem?, Array.getElem?_setIfInBounds, h.tmps, if_pos hdn, if_true]
        rfl
      rw [ev]
      exact hv
    · have hne : d ≠ d' := fun e => by
        subst e
        cases hoj : ops[j]? with
        | none => rw [hoj] at hd'; cases hd'
        | some oj =>
          rw [hoj] at hd'
          exact hji (huniq j oj hoj (by simpa using hd'))
      rw [getD_set _ _ _ _ hji] at hj
      have := (h.done j d' hj hd').next hb
      simp only [Array.getD_eq_getD_getElem?, Array.getElem?_setIfInBounds, if_neg hne] at this ⊢
      exact this
/-- The guard's operation is done, and says what the guard asks. -/
def guardOk (ops : Array Oper) (a : Act) (o : Oper) : Prop := Region.wanted o (yielded ops a.tmps) = true
theorem At.guard (h : At ops n tab base H l a w) (hown : ownSlots ops n base) {o : Oper} {g : Nat} {b : Bool} (hg : o.guard = some (g, b)) (hl : l.getD g false = true) (ht : tab.getD g .any = .val (.bool b)) (hgs : g < ops.size) : guardOk ops a o := by
  obtain ⟨d, hd, hdn, _, _⟩ := hown g _ (Array.getElem?_eq_getElem hgs)
  have hv := h.done g d hl (by rw [Array.getElem?_eq_getElem hgs]; exact hd)
  rw [ht] at hv
  have hv' : a.tmps.getD d undef = .bool b := hv
  have hdt : d < a.tmps.size := by rw [h.tmps]; exact hdn
  simp only [Array.getD_eq_getD_getElem?, Array.getElem?_eq_getElem hdt, Option.getD_some] at hv'
  unfold guardOk Region.wanted yielded
  rw [hg]
  simp only [Array.getElem?_eq_getElem hgs, Option.bind_some, hd, Array.getElem?_eq_getElem hdt, hv']
  simp
theorem guard_none {o : Oper} (hg : o.guard = none) : guardOk ops a o := by unfold guardOk Region.wanted; rw [hg]
/-- An operation that yields a value. -/
theorem At.yields (h : At ops n tab base H l a w) (hown : ownSlots ops n base) (hH : ∀ w w', H w → Below w.heap.size w w' → H w') {i : Nat} {o : Oper} (ho : ops[i]? = some o) (hg : guardOk ops a o) {v : Value} {w' : World}
    (hrun : (execOp a.eval o).run P w = .ok (.value v) w') (hb : Below w.heap.size w w') (hv : (tab.getD i .any).ok v w') : wpOp P ops Q i (At ops n tab base H (l.setIfInBounds i true)) a w := by
  unfold wpOp
  rw [ho]
  simp only
  rw [if_pos (show Region.wanted o (yielded ops a.tmps) = true from hg)]
  left
  unfold Oper.wp
  rw [hrun]
  exact h.put hown hH ho hb hv
/-- An operation that calls. -/
theorem At.calls (h : At ops n tab base H l a w) (hown : ownSlots ops n base) (hH : ∀ w w', H w → Below w.heap.size w w' → H w') {i : Nat} {o : Oper} (ho : ops[i]? = some o) (hg : guardOk ops a o) {f : FuncId} {args : Array Value}
    (hrun : (execOp a.eval o).run P w = .ok (.enter f args) w) (hc : Calls P f args w fun e w' => ∃ v, e = .returned v ∧ Below w.heap.size w w' ∧ (tab.getD i .any).ok v w') :
    wpOp P ops Q i (At ops n tab base H (l.setIfInBounds i true)) a w := by
  unfold wpOp
  rw [ho]
  simp only
  rw [if_pos (show Region.wanted o (yielded ops a.tmps) = true from hg)]
  left
  unfold Oper.wp
  rw [hrun]
  refine Calls.mono hc ?_
  rintro e w' ⟨v, rfl, hb, hv⟩
  exact h.put hown hH ho hb hv
/-- The whole region. -/
theorem region_inv {id : Nat} (hm : P.follows .mixedOrders = true) (hlt : ∀ (i : Nat) (o : Oper), ops[i]? = some o → ∀ e ∈ o.after.toList, e.on < i)
    (start : At ops n tab base H (Array.replicate ops.size false) a w.drew)
    (step : ∀ l a w i, At ops n tab base H l a w → i < ops.size → (∀ o : Oper, ops[i]? = some o → ∀ e ∈ o.after.toList, Region.binds .any e = true → l.getD e.on false = true) → wpOp P ops Q i (At ops n tab base H (l.setIfInBounds i true)) a w)
    (fin : ∀ l a w, At ops n tab base H l a w → (∀ i, i < ops.size → l.getD i false = true) → Q .normal a w) : (Code.region id ops true).wp P Q a w := by
  refine wp_region_any hm ?_
  refine any_inv (At ops n tab base H) (fun l a w h => h.sz) (fun l a w i h hi => ?_) (fun l a w h h0 => fin l a w h (all_done hlt h0 h.sz)) _ _ _ _ ?_ start
  · have hr := ready_spec hi
    exact step l a w i h hr.1 hr.2.2
  · exact Nat.le_trans (List.length_filter_le _ _) (by simp)
end
section
variable {ops : Array Oper}
/-- The two closed checks, and what they give. -/
def ownB (ops : Array Oper) (n : Nat) (bs : List Nat) : Bool :=
  (List.range ops.size).all fun i => match (ops[i]?).bind (·.dst) with
    | some d => decide (d < n) && !bs.contains d && (List.range ops.size).all fun j => j == i || (ops[j]?).bind (·.dst) != some d
    | none => false
theorem own_of {n : Nat} {bs : List Nat} {base : Nat → Option Value} (h : ownB ops n bs = true) (hb : ∀ d, bs.contains d = false → base d = none) : ownSlots ops n base := by
  intro i o ho
  have hi : i < ops.size := (Array.getElem?_eq_some_iff.1 ho).1
  unfold ownB at h
  rw [List.all_eq_true] at h
  have h1 := h i (List.mem_range.2 hi)
  rw [ho] at h1
  cases hd : o.dst with
  | none => simp [hd] at h1
  | some d =>
    simp only [Option.bind_some, hd, Bool.and_eq_true, decide_eq_true_eq, List.all_eq_true] at h1
    refine ⟨d, rfl, h1.1.1, hb d (by simpa using h1.1.2), fun j o' ho' hd' => ?_⟩
    have h2 := h1.2 j (List.mem_range.2 (Array.getElem?_eq_some_iff.1 ho').1)
    rw [ho'] at h2
    simp only [Option.bind_some, hd', bne_self_eq_false, Bool.or_false] at h2
    simpa using h2
def earlierB (ops : Array Oper) : Bool := (List.range ops.size).all fun i => ((ops[i]?).map fun o => o.after.toList.all fun e => decide (e.on < i)).getD true
theorem earlier_of (h : earlierB ops = true) : ∀ (i : Nat) (o : Oper), ops[i]? = some o → ∀ e ∈ o.after.toList, e.on < i := by
  intro i o ho e he
  unfold earlierB at h
  rw [List.all_eq_true] at h
  have h1 := h i (List.mem_range.2 (Array.getElem?_eq_some_iff.1 ho).1)
  rw [ho] at h1
  simp only [Option.map_some, Option.getD_some, List.all_eq_true, decide_eq_true_eq] at h1
  exact h1 e he
def depOn (ops : Array Oper) (i j : Nat) : Bool := ((ops[i]?).map fun o => o.after.toList.any fun e => e.on == j && Region.binds .any e).getD false
theorem dep {i : Nat} {l : Array Bool} (hd : ∀ o : Oper, ops[i]? = some o → ∀ e ∈ o.after.toList, Region.binds .any e = true → l.getD e.on false = true) (j : Nat) (h : depOn ops i j = true) : l.getD j false = true := by
  unfold depOn at h
  cases ho : ops[i]? with
  | none => rw [ho] at h; cases h
  | some o =>
    rw [ho] at h
    simp only [Option.map_some, Option.getD_some, List.any_eq_true, Bool.and_eq_true, beq_iff_eq] at h
    obtain ⟨e, he, h1, h2⟩ := h
    rw [← h1]; exact hd o ho e he h2
theorem op_of {i : Nat} {o : Oper} (ho : ops[i]? = some o) {p : Op} (h : (ops[i]?).map (·.op) = some p) : o.op = p := by rw [ho] at h; simpa using h
theorem guard_of {i : Nat} {o : Oper} (ho : ops[i]? = some o) {g : Option (Nat × Bool)} (h : (ops[i]?).map (·.guard) = some g) : o.guard = g := by rw [ho] at h; simpa using h
theorem exec_call {P : Program} {k : FuncId} (eg : ∀ args w, (callFunc k args).run P w = .ok (.enter k args) w) {o : Oper} {args : Array Operand} {ts : Array TypeId} (hop : o.op = Op.call { callee := Callee.value (Operand.func k), args := args, argTypes := ts })
    (a : Act) (w : World) : (execOp a.eval o).run P w = .ok (.enter k (args.map a.eval)) w := by
  simp only [execOp, hop, resolve]
  simp [go_sem, Act.eval, invoke, eg]
end
/-- The operations of region k of a code. -/
def regionOps (k : Nat) : Code → Option (Array Oper)
  | .region id ops _ => if id = k then some ops else none
  | .seq a b => (regionOps k a).or (regionOps k b)
  | .cond _ a b => (regionOps k a).or (regionOps k b)
  | .block _ b => regionOps k b
  | .loop b => regionOps k b
  | .rangeFunc _ _ a b => (regionOps k a).or (regionOps k b)
  | .scope b => regionOps k b
  | _ => none
end Go.Proofs.YtidkakcnhgfpoaaDoor
