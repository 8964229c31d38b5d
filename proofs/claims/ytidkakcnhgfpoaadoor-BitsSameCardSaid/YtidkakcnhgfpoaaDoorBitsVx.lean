/- A region that draws its order, whose values are kept in new blocks at its end: the engine with a further condition on slots and world, where only some operations have slots of their own. No program. -/
import Derived.Test.YtidkakcnhgfpoaaDoorBitsVs
namespace Go.Proofs.YtidkakcnhgfpoaaDoor
open Go.RowKit
set_option linter.unusedVariables false

variable {P : Program} {ops : Array Oper} {Q : Exit → Act → World → Prop} {n : Nat} {tab : Array Cl} {base : Nat → Option Value} {H : World → Prop} {l : Array Bool} {a : Act} {w : World}
/-- Operation i has a slot of its own, which is not fixed. -/
def ownAt (ops : Array Oper) (n : Nat) (base : Nat → Option Value) (i d : Nat) : Prop :=
  (ops[i]?).bind (·.dst) = some d ∧ d < n ∧ base d = none ∧ ∀ (j : Nat) (o' : Oper), ops[j]? = some o' → o'.dst = some d → j = i
def ownAtB (ops : Array Oper) (n : Nat) (i d : Nat) : Bool := ((ops[i]?).bind (·.dst) == some d) && decide (d < n) && (List.range ops.size).all fun j => j == i || (ops[j]?).bind (·.dst) != some d
theorem ownAt_of {i d : Nat} (h : ownAtB ops n i d = true) (hb : base d = none) : ownAt ops n base i d := by
  unfold ownAtB at h
  simp only [Bool.and_eq_true, decide_eq_true_eq, List.all_eq_true, beq_iff_eq] at h
  refine ⟨h.1.1, h.1.2, hb, fun j o' ho' hd' => ?_⟩
  have h2 := h.2 j (List.mem_range.2 (Array.getElem?_eq_some_iff.1 ho').1)
  rw [ho'] at h2
  simp only [Option.bind_some, hd', bne_self_eq_false, Bool.or_false] at h2
  simpa using h2
theorem At.put1 (h : At ops n tab base H l a w) (hH : ∀ w w', H w → Below w.heap.size w w' → H w') {i d : Nat} {o : Oper} (ho : ops[i]? = some o) (hown : ownAt ops n base i d) {v : Value} {w' : World} (hb : Below w.heap.size w w')
    (hv : (tab.getD i .any).ok v w') : At ops n tab base H (l.setIfInBounds i true) (a.put o.dst v) w' := by
  obtain ⟨hd, hdn, hdb, huniq⟩ := hown
  rw [ho] at hd
  simp only [Option.bind_some] at hd
  have hi : i < ops.size := (Array.getElem?_eq_some_iff.1 ho).1
  rw [hd]
  refine ⟨by rw [Array.size_setIfInBounds]; exact h.sz, by show (a.tmps.setIfInBounds d v).size = n; rw [Array.size_setIfInBounds]; exact h.tmps, h.defers, hH _ _ h.hold hb, fun s u hs => ?_, fun j d' hj hd' => ?_⟩
  · show (a.tmps.setIfInBounds d v).getD s undef = u
    have hne : d ≠ s := fun e => by rw [← e, hdb] at hs; cases hs
    have := h.fixed s u hs
    simp only [Array.getD_eq_getD_getElem?, Array.getElem?_setIfInBounds, if_neg hne] at this ⊢
    exact this
  · show (tab.getD j .any).ok ((a.tmps.setIfInBounds d v).getD d' undef) w'
    by_cases hji : j = i
    · subst hji
      rw [ho] at hd'
      have e : d' = d := by simpa [hd] using hd'.symm
      subst e
      have ev : (a.tmps.setIfInBounds d' v).getD d' undef = v := by
        simp only [Array.getD_eq_getD_getElem?, Array.getElem?_setIfInBounds, h.tmps, if_pos hdn, if_true]
        rfl
      rw [ev]
      exact hv
    · have hne : d ≠ d' := fun e => by
        subst e
        cases hoj : ops[j]? with
        | none => rw [hoj] at hd'; cases hd'
        | some oj =>
          rw [hoj] at hd'
          exact hji (huniq j oj hoj (by simpa using hd'))
      rw [getD_set _ _ _ _ hji] at hj
      have := (h.done j d' hj hd').next hb
      simp only [Array.getD_eq_getD_getElem?, Array.getElem?_setIfInBounds, if_neg hne] at this ⊢
      exact this
/-- The condition of two blocks that are made in slots p and q by the operations i and j: each is new and holds nothing, and they differ. -/
structure Two (T B : Nat) (i j p q : Nat) (l : Array Bool) (a : Act) (w : World) : Prop where
  one : l.getD i false = true → ∃ b, a.tmps.getD p undef = .pointer (some ⟨b, 0, none⟩) ∧ B ≤ b ∧ ArrIn T b (.int .u64 0) (.int .u64 0) (.int .u64 0) (.int .u64 0) w
  two : l.getD j false = true → ∃ b, a.tmps.getD q undef = .pointer (some ⟨b, 0, none⟩) ∧ B ≤ b ∧ ArrIn T b (.int .u64 0) (.int .u64 0) (.int .u64 0) (.int .u64 0) w
  far : l.getD i false = true → l.getD j false = true → a.tmps.getD p undef ≠ a.tmps.getD q undef
theorem put_other (a : Act) (d s : Nat) (v : Value) (h : d ≠ s) : (a.put (some d) v).tmps.getD s undef = a.tmps.getD s undef := by
  show (a.tmps.setIfInBounds d v).getD s undef = _
  simp only [Array.getD_eq_getD_getElem?, Array.getElem?_setIfInBounds, if_neg h]
theorem put_same (a : Act) (d : Nat) (v : Value) (h : d < a.tmps.size) : (a.put (some d) v).tmps.getD d undef = v := by
  show (a.tmps.setIfInBounds d v).getD d undef = _
  simp only [Array.getD_eq_getD_getElem?, Array.getElem?_setIfInBounds, if_pos h, if_true]
  rfl
theorem Two.keep {T B i j p q : Nat} (h : Two T B i j p q l a w) {k d : Nat} {v : Value} {w' : World} (hb : Below w.heap.size w w') (h1 : i ≠ k) (h2 : j ≠ k) (h3 : d ≠ p) (h4 : d ≠ q) : Two T B i j p q (l.setIfInBounds k true) (a.put (some d) v) w' := by
  refine ⟨fun hl => ?_, fun hl => ?_, fun hl hl' => ?_⟩
  · rw [getD_set _ _ _ _ h1] at hl
    obtain ⟨b, e, hB, hZ⟩ := h.one hl
    exact ⟨b, by rw [put_other _ _ _ _ h3]; exact e, hB, hZ.next hb⟩
  · rw [getD_set _ _ _ _ h2] at hl
    obtain ⟨b, e, hB, hZ⟩ := h.two hl
    exact ⟨b, by rw [put_other _ _ _ _ h4]; exact e, hB, hZ.next hb⟩
  · rw [getD_set _ _ _ _ h1] at hl
    rw [getD_set _ _ _ _ h2] at hl'
    rw [put_other _ _ _ _ h3, put_other _ _ _ _ h4]
    exact h.far hl hl'
/-- The first block is made. -/
theorem Two.make {T B i j p q : Nat} (h : Two T B i j p q l a w) (hB : B ≤ w.heap.size) (hij : i ≠ j) (hpq : p ≠ q) (hp : p < a.tmps.size) :
    Two T B i j p q (l.setIfInBounds i true) (a.put (some p) (.pointer (some ⟨w.heap.size, 0, none⟩))) (w.alloc (.cells #[.int .u64 0, .int .u64 0, .int .u64 0, .int .u64 0] T)) := by
  refine ⟨fun _ => ⟨w.heap.size, put_same _ _ _ hp, hB, ArrIn.new _ _ _ _ _ _⟩, fun hl => ?_, fun _ hl' => ?_⟩
  · rw [getD_set _ _ _ _ hij.symm] at hl
    obtain ⟨b, e, hB, hZ⟩ := h.two hl
    exact ⟨b, by rw [put_other _ _ _ _ hpq]; exact e, hB, hZ.alloc _⟩
  · rw [getD_set _ _ _ _ hij.symm] at hl'
    obtain ⟨b, e, hB, hZ⟩ := h.two hl'
    rw [put_same _ _ _ hp, put_other _ _ _ _ hpq, e]
    intro he
    have := hZ.lt
    simp at he
    try omega
theorem Two.swap {T B i j p q : Nat} (h : Two T B i j p q l a w) : Two T B j i q p l a w := ⟨h.two, h.one, fun h1 h2 => (h.far h2 h1).symm⟩
/-- An operation that yields a value; one that calls. -/
theorem At.yieldsX {X : Array Bool → Act → World → Prop} (h : At ops n tab base H l a w) (hH : ∀ w w', H w → Below w.heap.size w w' → H w') {i d : Nat} {o : Oper} (ho : ops[i]? = some o) (hown : ownAt ops n base i d) (hg : o.guard = none) {v : Value} {w' : World}
    (hrun : (execOp a.eval o).run P w = .ok (.value v) w') (hb : Below w.heap.size w w') (hv : (tab.getD i .any).ok v w') (hx : X (l.setIfInBounds i true) (a.put (some d) v) w') :
    wpOp P ops Q i (fun a w => At ops n tab base H (l.setIfInBounds i true) a w ∧ X (l.setIfInBounds i true) a w) a w := by
  have hd : o.dst = some d := by have := hown.1; rw [ho] at this; simpa using this
  unfold wpOp
  rw [ho]
  simp only
  rw [if_pos (show Region.wanted o (yielded ops a.tmps) = true from guard_none hg)]
  left
  unfold Oper.wp
  rw [hrun]
  exact ⟨h.put1 hH ho hown hb hv, by rw [hd]; exact hx⟩
theorem At.callsX {X : Array Bool → Act → World → Prop} (h : At ops n tab base H l a w) (hH : ∀ w w', H w → Below w.heap.size w w' → H w') {i d : Nat} {o : Oper} (ho : ops[i]? = some o) (hown : ownAt ops n base i d) (hg : o.guard = none) {f : FuncId} {args : Array Value}
    (hrun : (execOp a.eval o).run P w = .ok (.enter f args) w) (hx : ∀ v w', Below w.heap.size w w' → X (l.setIfInBounds i true) (a.put (some d) v) w') (hc : Calls P f args w fun e w' => ∃ v, e = .returned v ∧ Below w.heap.size w w' ∧ (tab.getD i .any).ok v w') :
    wpOp P ops Q i (fun a w => At ops n tab base H (l.setIfInBounds i true) a w ∧ X (l.setIfInBounds i true) a w) a w := by
  have hd : o.dst = some d := by have := hown.1; rw [ho] at this; simpa using this
  unfold wpOp
  rw [ho]
  simp only
  rw [if_pos (show Region.wanted o (yielded ops a.tmps) = true from guard_none hg)]
  left
  unfold Oper.wp
  rw [hrun]
  refine Calls.mono hc ?_
  rintro e w' ⟨v, rfl, hb, hv⟩
  exact ⟨h.put1 hH ho hown hb hv, by rw [hd]; exact hx v w' hb⟩
theorem At.guard1 (h : At ops n tab base H l a w) {o : Oper} {g d : Nat} {b : Bool} (hown : ownAt ops n base g d) (hg : o.guard = some (g, b)) (hl : l.getD g false = true) (ht : tab.getD g .any = .val (.bool b)) : guardOk ops a o := by
  obtain ⟨hd, hdn, _, _⟩ := hown
  have hv := h.done g d hl hd
  rw [ht] at hv
  have hv' : a.tmps.getD d undef = .bool b := hv
  have hdt : d < a.tmps.size := by rw [h.tmps]; exact hdn
  simp only [Array.getD_eq_getD_getElem?, Array.getElem?_eq_getElem hdt, Option.getD_some] at hv'
  unfold guardOk Region.wanted yielded
  rw [hg]
  simp only [hd, Array.getElem?_eq_getElem hdt, Option.bind_some, hv']
  simp
theorem At.yields1 (h : At ops n tab base H l a w) (hH : ∀ w w', H w → Below w.heap.size w w' → H w') {i d : Nat} {o : Oper} (ho : ops[i]? = some o) (hown : ownAt ops n base i d) (hg : guardOk ops a o) {v : Value} {w' : World}
    (hrun : (execOp a.eval o).run P w = .ok (.value v) w') (hb : Below w.heap.size w w') (hv : (tab.getD i .any).ok v w') : wpOp P ops Q i (At ops n tab base H (l.setIfInBounds i true)) a w := by
  unfold wpOp
  rw [ho]
  simp only
  rw [if_pos (show Region.wanted o (yielded ops a.tmps) = true from hg)]
  left
  unfold Oper.wp
  rw [hrun]
  exact h.put1 hH ho hown hb hv
theorem At.calls1 (h : At ops n tab base H l a w) (hH : ∀ w w', H w → Below w.heap.size w w' → H w') {i d : Nat} {o : Oper} (ho : ops[i]? = some o) (hown : ownAt ops n base i d) (hg : guardOk ops a o) {f : FuncId} {args : Array Value}
    (hrun : (execOp a.eval o).run P w = .ok (.enter f args) w) (hc : Calls P f args w fun e w' => ∃ v, e = .returned v ∧ Below w.heap.size w w' ∧ (tab.getD i .any).ok v w') :
    wpOp P ops Q i (At ops n tab base H (l.setIfInBounds i true)) a w := by
  unfold wpOp
  rw [ho]
  simp only
  rw [if_pos (show Region.wanted o (yielded ops a.tmps) = true from hg)]
  left
  unfold Oper.wp
  rw [hrun]
  refine Calls.mono hc ?_
  rintro e w' ⟨v, rfl, hb, hv⟩
  exact h.put1 hH ho hown hb hv
theorem not_done {i : Nat} (h : l.getD i true = false) (h' : l.getD i false = true) (hs : i < l.size) : False := by
  simp only [Array.getD_eq_getD_getElem?, Array.getElem?_eq_getElem hs, Option.getD_some] at h h'
  rw [h] at h'; cases h'
/-- The whole region, by any family. -/
theorem region_fam {id : Nat} (hm : P.follows .mixedOrders = true) (hlt : ∀ (i : Nat) (o : Oper), ops[i]? = some o → ∀ e ∈ o.after.toList, e.on < i) (A : Array Bool → Act → World → Prop) (hsz : ∀ l a w, A l a w → l.size = ops.size)
    (start : A (Array.replicate ops.size false) a w.drew)
    (step : ∀ l a w i, A l a w → i < ops.size → l.getD i true = false → (∀ o : Oper, ops[i]? = some o → ∀ e ∈ o.after.toList, Region.binds .any e = true → l.getD e.on false = true) → wpOp P ops Q i (A (l.setIfInBounds i true)) a w)
    (fin : ∀ l a w, A l a w → (∀ i, i < ops.size → l.getD i false = true) → Q .normal a w) : (Code.region id ops true).wp P Q a w := by
  refine wp_region_any hm ?_
  refine any_inv A hsz (fun l a w i h hi => ?_) (fun l a w h h0 => fin l a w h (all_done hlt h0 (hsz _ _ _ h))) _ _ _ _ ?_ start
  · have hr := ready_spec hi
    exact step l a w i h hr.1 hr.2.1 hr.2.2
  · exact Nat.le_trans (List.length_filter_le _ _) (by simp)
theorem wpOp_value {i : Nat} {o : Oper} (ho : ops[i]? = some o) (hg : o.guard = none) {v : Value} {w' : World} (hrun : (execOp a.eval o).run P w = .ok (.value v) w') {R : Act → World → Prop} (hr : R (a.put o.dst v) w') : wpOp P ops Q i R a w := by
  unfold wpOp
  rw [ho]
  simp only
  rw [if_pos (show Region.wanted o (yielded ops a.tmps) = true from guard_none hg)]
  left
  unfold Oper.wp
  rw [hrun]
  exact hr
/-- A region whose last operation waits for all the others and writes a slot that they read. -/
theorem region_last {id m : Nat} (hm : P.follows .mixedOrders = true) (hlt : ∀ (i : Nat) (o : Oper), ops[i]? = some o → ∀ e ∈ o.after.toList, e.on < i) (hsz : ops.size = m + 1) (hdeps : ∀ j, j < m → depOn ops m j = true)
    (start : At ops n tab base H (Array.replicate ops.size false) a w.drew)
    (step : ∀ l a w i, At ops n tab base H l a w → i < m → (∀ o : Oper, ops[i]? = some o → ∀ e ∈ o.after.toList, Region.binds .any e = true → l.getD e.on false = true) → wpOp P ops Q i (At ops n tab base H (l.setIfInBounds i true)) a w)
    (last : ∀ l a w, At ops n tab base H l a w → (∀ j, j < m → l.getD j false = true) → wpOp P ops Q m (fun a w => Q .normal a w) a w) : (Code.region id ops true).wp P Q a w := by
  refine region_fam hm hlt (fun l a w => (l.getD m false = false ∧ At ops n tab base H l a w) ∨ (l.size = ops.size ∧ (∀ j, j < m + 1 → l.getD j false = true) ∧ Q .normal a w)) ?_ ?_ ?_ ?_
  · rintro l a w (h | h)
    · exact h.2.sz
    · exact h.1
  · refine .inl ⟨?_, start⟩
    rw [Array.getD_eq_getD_getElem?]
    by_cases hi : m < ops.size
    · rw [Array.getElem?_replicate, if_pos hi]; rfl
    · rw [Array.getElem?_replicate, if_neg hi]; rfl
  · rintro l a w i (⟨hl, h⟩ | ⟨h1, h2, h3⟩) hi hu hd
    · by_cases him : i = m
      · subst him
        have hall : ∀ j, j < i → l.getD j false = true := fun j hj => dep hd j (hdeps j hj)
        refine wpOp_mono (fun a' w' h' => .inr ⟨by rw [Array.size_setIfInBounds]; exact h.sz, fun j hj => ?_, h'⟩) (last l a w h hall)
        by_cases hji : j = i
        · rw [hji]; exact getD_set_same _ _ _ (by rw [h.sz]; omega)
        · rw [getD_set _ _ _ _ hji]; exact hall j (by omega)
      · refine wpOp_mono (fun a' w' h' => .inl ⟨?_, h'⟩) (step l a w i h (by omega) hd)
        rw [getD_set _ _ _ _ (fun e => him e.symm)]; exact hl
    · exact (not_done hu (h2 i (by omega)) (by omega)).elim
  · rintro l a w (⟨hl, h⟩ | ⟨h1, h2, h3⟩) hall
    · rw [hall m (by omega)] at hl; cases hl
    · exact h3
end Go.Proofs.YtidkakcnhgfpoaaDoor
