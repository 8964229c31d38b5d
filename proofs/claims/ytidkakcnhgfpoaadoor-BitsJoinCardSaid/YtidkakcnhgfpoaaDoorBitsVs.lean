/- The same for a region in the text's order. No program. -/
import Derived.Test.YtidkakcnhgfpoaaDoorBitsV
namespace Go.Proofs.YtidkakcnhgfpoaaDoor
open Go.RowKit
set_option linter.unusedVariables false

variable {P : Program} {ops : Array Oper} {Q : Exit → Act → World → Prop} {n : Nat} {tab : Array Cl} {base : Nat → Option Value} {H : World → Prop} {a : Act} {w : World}
theorem region_seq {id : Nat} (hlt : ∀ (i : Nat) (o : Oper), ops[i]? = some o → ∀ e ∈ o.after.toList, e.on < i)
    (start : At ops n tab base H (Array.replicate ops.size false) a w)
    (step : ∀ l a w i, At ops n tab base H l a w → i < ops.size → (∀ o : Oper, ops[i]? = some o → ∀ e ∈ o.after.toList, Region.binds .any e = true → l.getD e.on false = true) → wpOp P ops Q i (At ops n tab base H (l.setIfInBounds i true)) a w)
    (fin : ∀ l a w, At ops n tab base H l a w → (∀ i, i < ops.size → l.getD i false = true) → Q .normal a w) : (Code.region id ops false).wp P Q a w := by
  refine wp_region ?_
  have key : ∀ (m k : Nat) (l : Array Bool) (a : Act) (w : World), k + m = ops.size → At ops n tab base H l a w → (∀ j, j < k → l.getD j false = true) → wpOps P ops Q (List.range' k m) a w := by
    intro m
    induction m with
    | zero => intro k l a w hk h hl; exact fin l a w h (fun i hi => hl i (by omega))
    | succ m ih =>
      intro k l a w hk h hl
      rw [List.range'_succ, wpOps_cons]
      refine wpOp_mono (fun a' w' h' => ih (k + 1) _ a' w' (by omega) h' (fun j hj => ?_)) (step l a w k h (by omega) (fun o ho e he _ => hl _ (hlt k o ho e he)))
      by_cases hjk : j = k
      · rw [hjk]; exact getD_set_same _ _ _ (by rw [h.sz]; omega)
      · rw [getD_set _ _ _ _ hjk]; exact hl j (by omega)
  rw [List.range_eq_range']
  exact key ops.size 0 _ a w (by omega) start (fun j hj => by omega)
/-- The beginning: nothing is done. -/
theorem At.begins (h1 : a.tmps.size = n) (h2 : a.defers = []) (h3 : H w) (h4 : ∀ s v, base s = some v → a.tmps.getD s undef = v) : At ops n tab base H (Array.replicate ops.size false) a w :=
  ⟨by simp, h1, h2, h3, h4, fun i d hl => by
    rw [Array.getD_eq_getD_getElem?] at hl
    by_cases hi : i < ops.size
    · rw [Array.getElem?_replicate, if_pos hi] at hl; cases hl
    · rw [Array.getElem?_replicate, if_neg hi] at hl; cases hl⟩
/-- A row of slots, slot by slot. -/
theorem slots_of (a : Array Value) (n : Nat) (h : a.size = n) : a = ((List.range n).map fun s => a.getD s undef).toArray := by
  apply Array.ext
  · simp [h]
  · intro i hi hj
    simp [Array.getD_eq_getD_getElem?, hi]
/-- What a region leaves: the slots that it does not write as they were, the others as they are. -/
theorem slots_free (a : Array Value) (n : Nat) (h : a.size = n) (free : List Nat) (t u : Nat → Value) (hf : ∀ s, free.contains s = true → a.getD s undef = t s) (hu : ∀ s, a.getD s undef = u s) :
    a = ((List.range n).map fun s => if free.contains s then t s else u s).toArray := by
  refine (slots_of a n h).trans ?_
  congr 1
  apply List.map_congr_left
  intro s _
  cases e : free.contains s with
  | true => simp only [if_true]; exact hf s e
  | false => simp only [Bool.false_eq_true, if_false]; exact hu s
end Go.Proofs.YtidkakcnhgfpoaaDoor
