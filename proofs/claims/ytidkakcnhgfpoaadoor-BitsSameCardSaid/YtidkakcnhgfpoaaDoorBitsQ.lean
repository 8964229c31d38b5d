/- A loop over a method's value that hands on a list, whose body never leaves: the law for it, out of the library's rule for the statement. -/
import Derived.Test.YtidkakcnhgfpoaaDoorBitsN
import Derived.RangeFuncBox
import Derived.RangeFuncLeaves
import Derived.Shelf.Abstract
import Derived.OwnWalkIn
import Derived.TacticsInMore
import Derived.LoopNIn
import Derived.LoopIn
namespace Go.Proofs.YtidkakcnhgfpoaaDoor
open Go.RowKit Go.Shelf
set_option linter.unusedVariables false

/-- Each variable of type T is as it was. -/
def KeepsT (T : Nat) (W W' : World) : Prop := ∀ (k : Nat) (cs : Array Value) (fr : Nat × Nat), W.heap[k]? = some (Obj.cells cs T fr) → W'.heap[k]? = some (Obj.cells cs T fr)
theorem KeepsT.refl (T : Nat) (W : World) : KeepsT T W W := fun _ _ _ h => h
theorem KeepsT.trans {T : Nat} {A B C : World} (h : KeepsT T A B) (k : KeepsT T B C) : KeepsT T A C := fun i cs fr hi => k i cs fr (h i cs fr hi)
theorem KeepsT.putObj {T : Nat} {W : World} {l : Nat} {o : Obj} (o' : Obj) (hl : W.heap[l]? = some o) (ho : o.isCells = false) : KeepsT T W (W.putObj l o') := fun k cs fr hk => by
  by_cases h : k = l
  · subst h
    rw [hl] at hk; cases hk; cases ho
  · exact (World.putObj_heap_other h).trans hk
theorem KeepsT.of_below {T : Nat} {W W' : World} (h : Below W.heap.size W W') : KeepsT T W W' := fun k cs fr hk => (h.block k (Array.getElem?_eq_some_iff.1 hk).1).trans hk
theorem KeepsT.grown {T : Nat} {W W' : World} {row : Option Nat} (h : W.grownBy W' row) (hr : ∀ k cs fr, W.heap[k]? = some (.cells cs T fr) → some k ≠ row) : KeepsT T W W' := fun k cs fr hk =>
  (h.block k (Array.getElem?_eq_some_iff.1 hk).1 (hr k cs fr hk)).trans hk
theorem KeepsT.set {T t b : Nat} {u v : Value} {W : World} (h : Boxed W b t u) (ht : t ≠ T) : KeepsT T W (W.setCell ⟨b, 0, none⟩ v) := fun k cs fr hk => by
  have hne : k ≠ b := fun e => by
    subst e
    have := (show W.heap[k]? = _ from h).symm.trans hk
    simp at this
    exact ht this.2.1
  exact (Below.heap_setCell W ⟨b, 0, none⟩ v k hne).trans hk
/-- What a round of the body ends in: it goes on; what is no cells is as it was; so is all below n₀; the loop's own holds with one number more. -/
def goesOn (n₀ : Nat) (I : List Int → World → Prop) (ys : List Int) (W : World) : Exit → Act → World → Prop
  | .normal, _, W' => KeepsOthers W W' ∧ (Below n₀ W W' ∧ KeepsT 24 W W') ∧ I ys W'
  | _, _, _ => False
/-- The function k, called with first and then a loop's yield, hands on just xs: whatever J says between two rounds. -/
def HandsOn (F : Fence) (n : Nat) (P : Program) (k : Nat) (first : Array Value) (xs : List Int) (n₀ : Nat) (w : World) : Prop :=
  ∀ (l : Nat) (J : List Int → World → Prop) (W : World), Below w.heap.size w W → (∀ pre A B, J pre A → Below A.heap.size A B → J pre B) →
    (∀ pre x rest W1, xs = pre ++ x :: rest → J pre W1 → YieldAt F (n - 1) P l #[.int .i64 x] W1 fun e W' => e = .returned (.bool true) ∧ J (pre ++ [x]) W' ∧ Below n₀ W1 W' ∧ KeepsT 24 W1 W') → J [] W →
    CallsIn F n P k (first ++ #[.func (.yield l) #[] #[]]) W fun e W' => (∃ v, e = .returned v) ∧ J xs W'
theorem rangeAll {P : Program} {F : Fence} {n : Nat} {g : Operand} {ps : Array Tmp} {assign body : Code} {Q : Exit → Act → World → Prop} {a : Act} {w : World}
    (hro : F.round = none) (h1 : 1 ≤ n) {gf : Nat} {first : Array Value} (hg : a.eval g = .func (.func gf) first #[]) (hFg : F.fn gf) (eg : ∀ args w, (callFunc gf args).run P w = .ok (.enter gf args) w)
    {xs : List Int} {n₀ : Nat} (hn₀ : n₀ ≤ w.heap.size) (hseq : HandsOn F (n - 1) P gf first xs n₀ w) (hps : ps.size = 1)
    (I : List Int → World → Prop) (hIB : ∀ pre A B, I pre A → Below A.heap.size A B → I pre B)
    (hIl : ∀ pre A l o o', I pre A → w.heap.size ≤ l → A.heap[l]? = some o → o.isCells = false → I pre (A.putObj l o')) (h0 : I [] w) (a₁ : Int → Act)
    (hassign : ∀ (l : Nat) (x : Int) (W : World) (K : Act → World → Prop), K (a₁ x) W →
      assign.wpIn (F.inRound l) (n - 1 - 1) P (Exit.then K (fun _ _ _ => False)) { tmps := (ps.zip #[Value.int .i64 x]).foldl (fun t (p, v) => t.setIfInBounds p v) a.tmps, defers := [] } W)
    (hbody : ∀ (l : Nat) (pre : List Int) (x : Int) (rest : List Int) (W : World), xs = pre ++ x :: rest → I pre W → body.wpIn (F.inRound l) (n - 1 - 1) P (goesOn n₀ I (pre ++ [x]) W) (a₁ x) W)
    (hdone : ∀ (D : Nat) (W : World), w.heap.size ≤ D → I xs W → W.heap[D]? = some (.deferred (some [])) → Q .normal { a with defers := { target := .collected D, args := #[] } :: a.defers } W) :
    (Code.rangeFunc g ps assign body).wpIn F n P Q a w := by
  refine wpIn_rangeFunc fun fn hfn => ?_
  rw [hro]
  obtain ⟨rec, hrec⟩ : ∃ rec : LoopState → Option Code → Loop, rec = fun st pe => { state := st, pending := pe, fn, tmps := a.tmps, params := ps, assign, body, defers := w.heap.size } := ⟨_, rfl⟩
  obtain ⟨W1, hW1⟩ : ∃ W1, (w.alloc (.deferred (some []))).alloc (.loop (rec .ready none)) = W1 := ⟨_, rfl⟩
  have rl : W1.heap[w.heap.size + 1]? = some (.loop (rec .ready none)) := by rw [← hW1]; exact heap_alloc2_new _ _ _
  have rd : W1.heap[w.heap.size]? = some (.deferred (some [])) := by rw [← hW1]; exact heap_alloc2_old _ _ _
  have hw1 : Below w.heap.size w W1 := by rw [← hW1]; exact below_alloc2 _ _ _
  have hI1 : I [] W1 := hIB _ _ _ h0 hw1
  refine ⟨w.heap.size + 1, [{ target := .collected w.heap.size, args := #[] }], W1, { target := .fn (.func gf) #[], args := first ++ #[.func (.yield (w.heap.size + 1)) #[] #[]] }, W1, gf,
    first ++ #[.func (.yield (w.heap.size + 1)) #[] #[]], W1, ?_, ?_, ?_, ?_, fun _ => h1, ?_⟩
  · rw [← hW1, hrec]; exact run_enterLoop_outer _ _ _ _ _
  · simp only [resolve, hg]
    simp [go_sem]
  · intro f' hf'; simp [Target.leads] at hf'; subst hf'; exact hFg
  · simp [invoke, go_sem, eg]
  · refine (hseq (w.heap.size + 1) (fun pre W => I pre W ∧ W.heap[w.heap.size + 1]? = some (.loop (rec .ready none)) ∧ W.heap[w.heap.size]? = some (.deferred (some []))) W1 hw1 ?_ ?_ ⟨hI1, rl, rd⟩).mono ?_
    · rintro pre A B ⟨i1, i2, i3⟩ hb
      exact ⟨hIB _ _ _ i1 hb, (hb.block _ (Array.getElem?_eq_some_iff.1 i2).1).trans i2, (hb.block _ (Array.getElem?_eq_some_iff.1 i3).1).trans i3⟩
    · rintro pre x rest W hx ⟨i1, i2, i3⟩
      have hlt : w.heap.size + 1 < W.heap.size := (Array.getElem?_eq_some_iff.1 i2).1
      have hy := run_yield (P := P) (args := #[Value.int .i64 x]) i2 (by rw [hrec]; exact hps.symm)
      rw [hrec] at hy
      refine ⟨fn, _, assign, body, hy, roundIn_of_wpIn hfn (hassign _ x W _ ⟨_, run_beginRound i2 (by rw [hrec]), ?_⟩)⟩
      obtain ⟨V, hV⟩ : ∃ V, V = W.putObj (w.heap.size + 1) (.loop { rec .ready none with state := .busy }) := ⟨_, rfl⟩
      rw [← hV]
      have v1 : I pre V := by rw [hV]; exact hIl _ _ _ _ _ i1 (by omega) i2 rfl
      have v2 : V.heap[w.heap.size + 1]? = some (.loop { rec .ready none with state := .busy }) := by rw [hV]; exact World.putObj_heap_same hlt
      have v3 : V.heap[w.heap.size]? = some (.deferred (some [])) := by rw [hV]; exact (World.putObj_heap_other (by omega)).trans i3
      have v5 : KeepsT 24 W V := by rw [hV]; exact KeepsT.putObj _ i2 rfl
      have v4 : Below n₀ W V := by rw [hV]; exact belowK_b (w := w) hn₀ W _ _ _ (by omega) i2 rfl rfl
      refine wpIn_mono (hbody _ pre x rest V hx v1) ?_
      rintro e a3 W3 hp
      cases e with
      | normal =>
        obtain ⟨k1, ⟨k2, k4⟩, k3⟩ := hp
        have u2 := k1.same _ _ v2 rfl
        have u3 := k1.same _ _ v3 rfl
        have hr := run_endRound (P := P) none u2
        rw [hrec] at hr u2
        refine ⟨_, _, hr, rfl, ⟨hIl _ _ _ _ _ k3 (by omega) u2 rfl, ?_, (World.putObj_heap_other (by omega)).trans u3⟩, (v4.trans k2).trans (belowK_b (w := w) hn₀ W3 _ _ _ (by omega) u2 rfl rfl), (v5.trans k4).trans (KeepsT.putObj _ u2 rfl)⟩
        rw [World.putObj_heap_same (Array.getElem?_eq_some_iff.1 u2).1, hrec]; rfl
      | _ => exact hp.elim
    · rintro e W2 ⟨⟨v, rfl⟩, i1, i2, i3⟩
      have he := run_endLoop (P := P) i2 (by rw [hrec]; simp)
      rw [hrec] at he
      exact ⟨none, _, he, hdone _ _ (Nat.le_refl _) (hIl _ _ _ _ _ i1 (by omega) i2 rfl) ((World.putObj_heap_other (by omega)).trans i3)⟩
end Go.Proofs.YtidkakcnhgfpoaaDoor
