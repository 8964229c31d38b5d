/- Texts that belong together: RegC, PoolQ, PoolT, PoolTr, PoolTn. -/
import Derived.Test.YtbeaaieaffdgeaaGreatDoorMg
import Derived.Test.YtbeaaieaffdgeaaGreatDoorMa
/- A region that draws its order and calls, one behind the other: each call may give up. No program. -/
section
namespace Go.Proofs.YtbeaaieaffdgeaaGreatDoor
open Go.RowKit
set_option linter.unusedVariables false

section
variable {P : Program} {ops : Array Oper} {Q : Exit → Act → World → Prop} {n : Nat} {cs : List Nat} {base : Nat → Option Value} {val : Nat → Value → World → Prop} {H : Nat → World → Prop} {l : Array Bool} {a : Act} {w : World}
/-- Where the operations of l are done: what each one's slot holds; so many of the calls are done, and H says how the world stands behind these. -/
structure AtC (ops : Array Oper) (n : Nat) (cs : List Nat) (base : Nat → Option Value) (val : Nat → Value → World → Prop) (H : Nat → World → Prop) (l : Array Bool) (a : Act) (w : World) : Prop where
  sz : l.size = ops.size
  tmps : a.tmps.size = n
  defers : a.defers = []
  fixed : ∀ s v, base s = some v → a.tmps.getD s undef = v
  stage : ∃ j, j ≤ cs.length ∧ (∀ i, i < cs.length → l.getD (cs.getD i 0) false = decide (i < j)) ∧ H j w
  done : ∀ i d, l.getD i false = true → (ops[i]?).bind (·.dst) = some d → val i (a.tmps.getD d undef) w
theorem putC_fixed {d s : Nat} {v u : Value} (hd : base d = none) (hs : base s = some u) (h : a.tmps.getD s undef = u) : (a.put (some d) v).tmps.getD s undef = u := by
  rw [put_other a d s v (fun e => by rw [e, hs] at hd; cases hd)]; exact h
theorem putC_done (hsz : l.size = ops.size) (hn : a.tmps.size = n) {i d : Nat} (hown : ownAt ops n base i d) (hi : i < ops.size) {v : Value} {w w' : World} (hv : val i v w') (hk : ∀ j u, val j u w → val j u w')
    (h : ∀ i d, l.getD i false = true → (ops[i]?).bind (·.dst) = some d → val i (a.tmps.getD d undef) w) :
    ∀ j d', (l.setIfInBounds i true).getD j false = true → (ops[j]?).bind (·.dst) = some d' → val j ((a.put (some d) v).tmps.getD d' undef) w' := by
  obtain ⟨hd, hdn, hdb, huniq⟩ := hown
  intro j d' hj hd'
  by_cases hji : j = i
  · subst hji
    rw [hd] at hd'
    obtain rfl : d = d' := by simpa using hd'
    rw [put_same a d v (by rw [hn]; exact hdn)]
    exact hv
  · have hne : d ≠ d' := fun e => by
      subst e
      cases hoj : ops[j]? with
      | none => rw [hoj] at hd'; cases hd'
      | some oj =>
        rw [hoj] at hd'
        exact hji (huniq j oj hoj (by simpa using hd'))
    rw [getD_set _ _ _ _ hji] at hj
    rw [put_other a d d' v hne]
    exact hk _ _ (h j d' hj hd')
theorem dst_of {i : Nat} {o : Oper} (ho : ops[i]? = some o) {d : Option Nat} (h : (ops[i]?).map (·.dst) = some d) : o.dst = d := by rw [ho] at h; simpa using h
/-- An operation that yields a value, and leaves the world as it is. -/
theorem AtC.pure (h : AtC ops n cs base val H l a w) {i d : Nat} {o : Oper} (ho : ops[i]? = some o) (hown : ownAt ops n base i d) (hno : cs.contains i = false) (hg : o.guard = none) {v : Value}
    (hrun : (execOp a.eval o).run P w = .ok (.value v) w) (hv : val i v w) : wpOp P ops Q i (AtC ops n cs base val H (l.setIfInBounds i true)) a w := by
  have hi : i < ops.size := (Array.getElem?_eq_some_iff.1 ho).1
  have hd : o.dst = some d := by have := hown.1; rw [ho] at this; simpa using this
  refine wpOp_value ho hg hrun ?_
  rw [hd]
  refine ⟨by rw [Array.size_setIfInBounds]; exact h.sz, by show (a.tmps.setIfInBounds d v).size = n; rw [Array.size_setIfInBounds]; exact h.tmps, h.defers, fun s u hs => putC_fixed hown.2.2.1 hs (h.fixed s u hs), ?_, putC_done h.sz h.tmps hown hi hv (fun _ _ h => h) h.done⟩
  obtain ⟨j, hj, hs, hH⟩ := h.stage
  refine ⟨j, hj, fun k hk => ?_, hH⟩
  rw [getD_set _ _ _ _ (fun e => ?_)]
  · exact hs k hk
  · have : cs.contains i = true := by
      rw [List.contains_iff_mem, ← e, List.getD_eq_getElem?_getD, List.getElem?_eq_getElem hk]
      exact List.getElem_mem hk
    rw [hno] at this; cases this
/-- The call with the number k. -/
theorem AtC.call (h : AtC ops n cs base val H l a w) {i d k : Nat} {o : Oper} (ho : ops[i]? = some o) (hown : ownAt ops n base i d) (hk : k < cs.length) (hki : cs.getD k 0 = i) (hnd : ∀ j, j < cs.length → cs.getD j 0 = i → j = k)
    (hprev : ∀ j, j + 1 = k → l.getD (cs.getD j 0) false = true) (hnot : l.getD i true = false) (hg : o.guard = none) {f : FuncId} {args : Array Value}
    (hrun : (execOp a.eval o).run P w = .ok (.enter f args) w)
    (hc : H k w → Calls P f args w fun e w' => (∃ ch, e = .panicked ch ∧ Q (.panic ch) a w') ∨ ∃ v, e = .returned v ∧ H (k + 1) w' ∧ val i v w' ∧ ∀ j u, val j u w → val j u w') :
    wpOp P ops Q i (AtC ops n cs base val H (l.setIfInBounds i true)) a w := by
  have hi : i < ops.size := (Array.getElem?_eq_some_iff.1 ho).1
  have hd : o.dst = some d := by have := hown.1; rw [ho] at this; simpa using this
  have hnot' : l.getD i false = false := by
    have hs : i < l.size := by rw [h.sz]; exact hi
    simp only [Array.getD_eq_getD_getElem?, Array.getElem?_eq_getElem hs, Option.getD_some] at hnot ⊢
    exact hnot
  obtain ⟨j, hj, hs, hH⟩ := h.stage
  have hjk : j = k := by
    have h1 := hs k hk
    rw [hki, hnot'] at h1
    have h2 : ¬ k < j := by simpa using h1.symm
    rcases Nat.lt_or_ge j k with h3 | h3
    · have h4 := hs (k - 1) (by omega)
      rw [hprev (k - 1) (by omega)] at h4
      have h5 : k - 1 < j := by simpa using h4.symm
      omega
    · omega
  subst hjk
  unfold wpOp
  rw [ho]
  simp only
  rw [if_pos (show Region.wanted o (yielded ops a.tmps) = true from guard_none hg)]
  left
  unfold Oper.wp
  rw [hrun]
  refine Calls.mono (hc hH) ?_
  rintro e w' (⟨ch, rfl, hq⟩ | ⟨v, rfl, hH', hv, hkp⟩)
  · exact hq
  · simp only
    rw [hd]
    refine ⟨by rw [Array.size_setIfInBounds]; exact h.sz, by show (a.tmps.setIfInBounds d v).size = n; rw [Array.size_setIfInBounds]; exact h.tmps, h.defers, fun s u hs => putC_fixed hown.2.2.1 hs (h.fixed s u hs), ⟨j + 1, by omega, fun q hq => ?_, hH'⟩, putC_done h.sz h.tmps hown hi hv hkp h.done⟩
    by_cases hqj : q = j
    · subst hqj
      rw [hki, getD_set_same _ _ _ (by rw [h.sz]; exact hi)]
      simp
    · rw [getD_set _ _ _ _ (fun e => hqj (hnd q hq e)), hs q hq]
      simp only [decide_eq_decide]
      omega
/-- All calls are done. -/
theorem AtC.last (h : AtC ops n cs base val H l a w) (hall : ∀ i, i < cs.length → l.getD (cs.getD i 0) false = true) : H cs.length w := by
  obtain ⟨j, hj, hs, hH⟩ := h.stage
  have : j = cs.length := by
    rcases Nat.lt_or_ge j cs.length with h3 | h3
    · have h4 := hs j h3
      rw [hall j h3] at h4
      simp at h4
    · omega
  rw [← this]; exact hH
theorem AtC.any (h : AtC ops n cs base val H l a w) : ∃ j, H j w := by
  obtain ⟨j, _, _, hH⟩ := h.stage
  exact ⟨j, hH⟩
/-- The beginning: nothing is done. -/
theorem AtC.begins (h1 : a.tmps.size = n) (h2 : a.defers = []) (h3 : H 0 w) (h4 : ∀ s v, base s = some v → a.tmps.getD s undef = v) : AtC ops n cs base val H (Array.replicate ops.size false) a w := by
  have hf : ∀ i, (Array.replicate ops.size false).getD i false = false := fun i => by
    rw [Array.getD_eq_getD_getElem?]
    by_cases hi : i < ops.size
    · rw [Array.getElem?_replicate, if_pos hi]; rfl
    · rw [Array.getElem?_replicate, if_neg hi]; rfl
  exact ⟨by simp, h1, h2, h4, ⟨0, Nat.zero_le _, fun i hi => by rw [hf]; simp, h3⟩, fun i d hl => by rw [hf] at hl; cases hl⟩
/-- A region whose last operation waits for all the others. -/
theorem region_lastC {id m : Nat} (hm : P.follows .mixedOrders = true) (hlt : ∀ (i : Nat) (o : Oper), ops[i]? = some o → ∀ e ∈ o.after.toList, e.on < i) (hsz : ops.size = m + 1) (hdeps : ∀ j, j < m → depOn ops m j = true)
    (start : AtC ops n cs base val H (Array.replicate ops.size false) a w.drew)
    (step : ∀ l a w i, AtC ops n cs base val H l a w → i < m → l.getD i true = false → (∀ o : Oper, ops[i]? = some o → ∀ e ∈ o.after.toList, Region.binds .any e = true → l.getD e.on false = true) → wpOp P ops Q i (AtC ops n cs base val H (l.setIfInBounds i true)) a w)
    (last : ∀ l a w, AtC ops n cs base val H l a w → (∀ j, j < m → l.getD j false = true) → wpOp P ops Q m (fun a w => Q .normal a w) a w) : (Code.region id ops true).wp P Q a w := by
  refine region_fam hm hlt (fun l a w => (l.getD m false = false ∧ AtC ops n cs base val H l a w) ∨ (l.size = ops.size ∧ (∀ j, j < m + 1 → l.getD j false = true) ∧ Q .normal a w)) ?_ ?_ ?_ ?_
  · rintro l a w (h | h)
    · exact h.2.sz
    · exact h.1
  · refine .inl ⟨?_, start⟩
    rw [Array.getD_eq_getD_getElem?]
    by_cases hi : m < ops.size
    · rw [Array.getElem?_replicate, if_pos hi]; rfl
    · rw [Array.getElem?_replicate, if_neg hi]; rfl
  · rintro l a w i (⟨hl, h⟩ | ⟨h1, h2, h3⟩) hi hu hd
    · by_cases him : i = m
      · subst him
        have hall : ∀ j, j < i → l.getD j false = true := fun j hj => dep hd j (hdeps j hj)
        refine wpOp_mono (fun a' w' h' => .inr ⟨by rw [Array.size_setIfInBounds]; exact h.sz, fun j hj => ?_, h'⟩) (last l a w h hall)
        by_cases hji : j = i
        · rw [hji]; exact getD_set_same _ _ _ (by rw [h.sz]; omega)
        · rw [getD_set _ _ _ _ hji]; exact hall j (by omega)
      · refine wpOp_mono (fun a' w' h' => .inl ⟨?_, h'⟩) (step l a w i h (by omega) hu hd)
        rw [getD_set _ _ _ _ (fun e => him e.symm)]; exact hl
    · exact (not_done hu (h2 i (by omega)) (by omega)).elim
  · rintro l a w (⟨hl, h⟩ | ⟨h1, h2, h3⟩) hall
    · rw [hall m (by omega)] at hl; cases hl
    · exact h3
/-- The same without a last one. -/
theorem region_allC {id : Nat} (hm : P.follows .mixedOrders = true) (hlt : ∀ (i : Nat) (o : Oper), ops[i]? = some o → ∀ e ∈ o.after.toList, e.on < i)
    (start : AtC ops n cs base val H (Array.replicate ops.size false) a w.drew)
    (step : ∀ l a w i, AtC ops n cs base val H l a w → i < ops.size → l.getD i true = false → (∀ o : Oper, ops[i]? = some o → ∀ e ∈ o.after.toList, Region.binds .any e = true → l.getD e.on false = true) → wpOp P ops Q i (AtC ops n cs base val H (l.setIfInBounds i true)) a w)
    (fin : ∀ l a w, AtC ops n cs base val H l a w → (∀ i, i < ops.size → l.getD i false = true) → Q .normal a w) : (Code.region id ops true).wp P Q a w :=
  region_fam hm hlt (AtC ops n cs base val H) (fun l a w h => h.sz) start (fun l a w i h hi hn hd => step l a w i h hi hn hd) fin
/-- An operation of the number k that makes memory. -/
theorem AtC.makes (h : AtC ops n cs base val H l a w) {i d k : Nat} {o : Oper} (ho : ops[i]? = some o) (hown : ownAt ops n base i d) (hk : k < cs.length) (hki : cs.getD k 0 = i) (hnd : ∀ j, j < cs.length → cs.getD j 0 = i → j = k)
    (hprev : ∀ j, j + 1 = k → l.getD (cs.getD j 0) false = true) (hnot : l.getD i true = false) (hg : o.guard = none) {v : Value} {w' : World}
    (hrun : (execOp a.eval o).run P w = .ok (.value v) w') (hc : H k w → H (k + 1) w' ∧ val i v w' ∧ ∀ j u, val j u w → val j u w') :
    wpOp P ops Q i (AtC ops n cs base val H (l.setIfInBounds i true)) a w := by
  have hi : i < ops.size := (Array.getElem?_eq_some_iff.1 ho).1
  have hd : o.dst = some d := by have := hown.1; rw [ho] at this; simpa using this
  have hnot' : l.getD i false = false := by
    have hs : i < l.size := by rw [h.sz]; exact hi
    simp only [Array.getD_eq_getD_getElem?, Array.getElem?_eq_getElem hs, Option.getD_some] at hnot ⊢
    exact hnot
  obtain ⟨j, hj, hs, hH⟩ := h.stage
  have hjk : j = k := by
    have h1 := hs k hk
    rw [hki, hnot'] at h1
    have h2 : ¬ k < j := by simpa using h1.symm
    rcases Nat.lt_or_ge j k with h3 | h3
    · have h4 := hs (k - 1) (by omega)
      rw [hprev (k - 1) (by omega)] at h4
      have h5 : k - 1 < j := by simpa using h4.symm
      omega
    · omega
  subst hjk
  obtain ⟨hH', hv, hkp⟩ := hc hH
  refine wpOp_value ho hg hrun ?_
  rw [hd]
  refine ⟨by rw [Array.size_setIfInBounds]; exact h.sz, by show (a.tmps.setIfInBounds d v).size = n; rw [Array.size_setIfInBounds]; exact h.tmps, h.defers, fun s u hs => putC_fixed hown.2.2.1 hs (h.fixed s u hs), ⟨j + 1, by omega, fun q hq => ?_, hH'⟩, putC_done h.sz h.tmps hown hi hv hkp h.done⟩
  by_cases hqj : q = j
  · subst hqj
    rw [hki, getD_set_same _ _ _ (by rw [h.sz]; exact hi)]
    simp
  · rw [getD_set _ _ _ _ (fun e => hqj (hnd q hq e)), hs q hq]
    simp only [decide_eq_decide]
    omega
end
theorem wp_slotsC {P : Program} {c : Code} {Q : Exit → Act → World → Prop} {R : Array Value} {w : World} (n : Nat) (hn : R.size = n) (h : ∀ t : Nat → Value, t = (fun s => R.getD s undef) → c.wp P Q ⟨((List.range n).map t).toArray, []⟩ w) : c.wp P Q ⟨R, []⟩ w := by
  have e := slots_of R n hn
  rw [e]
  exact h _ rfl
theorem row_getC (t : Nat → Value) (n s : Nat) (hs : s < n) : (((List.range n).map t).toArray).getD s undef = t s := by
  simp [Array.getD_eq_getD_getElem?, hs]
theorem free_ltC {free : List Nat} {n s : Nat} (h : (free.all fun x => decide (x < n)) = true) (hs : free.contains s = true) : s < n := by
  rw [List.all_eq_true] at h
  simpa using h s (List.contains_iff_mem.1 hs)
end Go.Proofs.YtbeaaieaffdgeaaGreatDoor
end
/- Readings one behind the other in a region that draws its order. -/
section
namespace Go.Proofs.YtbeaaieaffdgeaaGreatDoor
open Go.RowKit
set_option linter.unusedVariables false
set_option linter.unusedSimpArgs false

def dropT {α : Type} (f : Tk α) (o : Option ByteArray) : Option ByteArray := o.bind fun u => (f u).map Prod.snd
def takeT {α : Type} (f : Tk α) (o : Option ByteArray) : Option α := o.bind fun u => (f u).map Prod.fst
theorem drop_some {α : Type} {f : Tk α} {o : Option ByteArray} {t : ByteArray} (h : dropT f o = some t) : ∃ u x, o = some u ∧ f u = some (x, t) ∧ takeT f o = some x := by
  cases o with
  | none => cases h
  | some u =>
    unfold dropT at h
    simp only [Option.bind_some, Option.map_eq_some_iff] at h
    obtain ⟨⟨x, t'⟩, h1, h2⟩ := h
    simp only at h2
    subst h2
    exact ⟨u, x, rfl, h1, by simp [takeT, h1]⟩
theorem drop_of {α : Type} {f : Tk α} {o : Option ByteArray} {u t : ByteArray} {x : α} (h : o = some u) (h1 : f u = some (x, t)) : dropT f o = some t ∧ takeT f o = some x := by
  subst h
  simp [dropT, takeT, h1]
theorem take_some {α : Type} {f : Tk α} {o : Option ByteArray} {x : α} (h : takeT f o = some x) : ∃ u t, f u = some (x, t) := by
  cases o with
  | none => cases h
  | some u =>
    unfold takeT at h
    simp only [Option.bind_some, Option.map_eq_some_iff] at h
    obtain ⟨⟨y, t⟩, h1, h2⟩ := h
    simp only at h2
    subst h2
    exact ⟨u, t, h1⟩
theorem sub_of {S S' : List TypeId} (h : (S.all fun e => S'.contains e) = true) : ∀ e, S.contains e = true → S'.contains e = true := fun e he => by
  rw [List.all_eq_true] at h
  exact h e (List.contains_iff_mem.1 he)
/-- A block of the call's own. -/
def Bk (w : World) (b : Nat) (cs : Array Value) (T : TypeId) : Prop := w.heap[b]? = some (.cells cs T (0, 0))
theorem Bk.lt {w : World} {b : Nat} {cs : Array Value} {T : TypeId} (h : Bk w b cs T) : b < w.heap.size := (Array.getElem?_eq_some_iff.1 h).1
theorem Bk.read {w w' : World} {b rb : Nat} {cs : Array Value} {T : TypeId} (h : Bk w b cs T) (g : w.grownBy w' (some rb)) (hne : b ≠ rb) : Bk w' b cs T := (g.block b h.lt (fun e => hne (Option.some.inj e))).trans h
theorem Bk.below {w w' : World} {b : Nat} {cs : Array Value} {T : TypeId} (h : Bk w b cs T) (g : Below w.heap.size w w') : Bk w' b cs T := (g.block b h.lt).trans h
theorem Bk.new (w : World) (cs : Array Value) (T : TypeId) : Bk (w.alloc (.cells cs T)) w.heap.size cs T := heap_alloc_new w _
theorem Bk.cell {w : World} {b : Nat} {cs : Array Value} {T : TypeId} (h : Bk w b cs T) (i : Nat) : w.cell? ⟨b, i, none⟩ = cs[i]? := by
  unfold Bk at h
  simp [World.cell?, h]
theorem Bk.free {w : World} {b : Nat} {cs : Array Value} {T : TypeId} (h : Bk w b cs T) (i : Nat) : w.frozen? ⟨b, i, none⟩ = false := by
  unfold Bk at h
  simp [World.frozen?, h]
/-- What each stage knows of the world: what is left to be read, and the call's own blocks. -/
def RH (w0 : World) (rb : Nat) (s : ByteArray) (st : Nat → Option ByteArray) (I : World → Prop) (j : Nat) (w : World) : Prop :=
  ∃ u, st j = some u ∧ u.size ≤ s.size ∧ Rd1 rb u w ∧ w0.grownBy w (some rb) ∧ I w
section
variable {ops : Array Oper} {Q : Exit → Act → World → Prop} {n : Nat} {cs : List Nat} {base : Nat → Option Value} {val : Nat → Value → World → Prop} {l : Array Bool} {a : Act} {w w0 : World} {rb : Nat} {s : ByteArray} {st : Nat → Option ByteArray} {I : World → Prop}
/-- A call that reads. -/
theorem AtC.reads {α : Type} (h : AtC ops n cs base val (RH w0 rb s st I) l a w) {i d k : Nat} {o : Oper} (ho : ops[i]? = some o) (hown : ownAt ops n base i d) (hk : k < cs.length) (hki : cs.getD k 0 = i) (hnd : ∀ j, j < cs.length → cs.getD j 0 = i → j = k)
    (hprev : ∀ j, j + 1 = k → l.getD (cs.getD j 0) false = true) (hnot : l.getD i true = false) (hg : o.guard = none) {q : FuncId} {args : Nat → Array Value} {f : Tk α} {V : Nat → α → Value → World → Prop}
    (hrun : (execOp a.eval o).run Tryz.prog w = .ok (.enter q (args rb)) w) (hR : Reads f q args V) (hst : st (k + 1) = dropT f (st k)) (hs : s.size ≤ 70368744177664)
    (hval : ∀ v w', (∃ x, takeT f (st k) = some x ∧ V rb x v w') → val i v w') (hmono : ∀ j v w w', val j v w → w.grownBy w' (some rb) → val j v w') (hI : ∀ w w', I w → w.grownBy w' (some rb) → I w')
    (hQ : ∀ u w', st k = some u → f u = none → w0.grownBy w' (some rb) → Q (.panic [{ v := .iface 24 (.int .i64 4), recovered := false }]) a w') :
    wpOp Tryz.prog ops Q i (AtC ops n cs base val (RH w0 rb s st I) (l.setIfInBounds i true)) a w := by
  refine h.call ho hown hk hki hnd hprev hnot hg hrun ?_
  rintro ⟨u, hu, hus, hrd, hg0, hi⟩
  refine (hR rb u w (by omega) hrd).mono ?_
  rintro e w' ⟨g, ⟨hno, rfl⟩ | ⟨x, t, v, hx, ht, rfl, hr', hv⟩⟩
  · exact .inl ⟨_, rfl, hQ u w' hu hno (grown_then hg0 g)⟩
  · obtain ⟨h1, h2⟩ := drop_of hu hx
    exact .inr ⟨v, rfl, ⟨t, by rw [hst]; exact h1, by omega, hr', grown_then hg0 g, hI _ _ hi g⟩, hval v w' ⟨x, h2, hv⟩, fun j z hz => hmono j z w w' hz g⟩
theorem AtC.own (h : AtC ops n cs base val (RH w0 rb s st I) l a w) : I w := by
  obtain ⟨j, u, _, _, _, _, hi⟩ := h.any
  exact hi
end
end Go.Proofs.YtbeaaieaffdgeaaGreatDoor
end
/- The program's writer: what stands while it writes. -/
section
namespace Go.Proofs.YtbeaaieaffdgeaaGreatDoor
open Go.RowKit
set_option linter.unusedVariables false
set_option linter.unusedSimpArgs false

/-- It reads so, as long as the writer alone, and what is new, is written. -/
def Kq (B b : Nat) (R : World → Prop) (w : World) : Prop := ∀ W, Below B w W → Oth b w W → R W
theorem Kq.now {B b : Nat} {R : World → Prop} {w : World} (h : Kq B b R w) : R w := h w (Below.refl _ _) (Lib.OthersKept.refl _ _ _)
theorem Kq.next {B b : Nat} {R : World → Prop} {w w' : World} (h : Kq B b R w) (k : Below B w w') (o : Oth b w w') : Kq B b R w' := fun W k2 o2 => h W (k.trans k2) (o.trans o2)
/-- What was there before. -/
theorem Kq.old {B b : Nat} {R : World → Prop} {w0 w : World} (hb : Below B w0 w) (h : ∀ W, Below B w0 W → R W) : Kq B b R w := fun W k _ => h W (hb.trans k)
theorem oth_below {b : Nat} {w w' : World} (h : Below w.heap.size w w') : Oth b w w' := fun k o hk _ _ => (h.block k (Array.getElem?_eq_some_iff.1 hk).1).trans hk
theorem Wr.below {B b : Nat} {t : ByteArray} {w w' : World} (h : Wr B b t w) (k : Below w.heap.size w w') : Wr B b t w' := by
  have key : ∀ p, Lib.BuilderAtF 48 5 B b p (Lib.strCells t) w → Lib.BuilderAtF 48 5 B b p (Lib.strCells t) w' := by
    rintro p ⟨hB, v, hb, hown, hne⟩
    exact ⟨hB, v, (k.block b (Array.getElem?_eq_some_iff.1 hb).1).trans hb, hown.kept (row := none) (grown_below k none) (by rcases hown.2 with ⟨rfl, _⟩ | ⟨g, cap, cur, fz, rfl, _⟩ <;> simp [Value.ownBlock]), hne⟩
  exact h.elim (fun x => .inl (key _ x)) (fun x => .inr (key _ x))
theorem Wr.lt {B b : Nat} {t : ByteArray} {w : World} (h : Wr B b t w) : b < w.heap.size := h.elim (fun x => x.lt) (fun x => x.lt)
theorem Wr.ge {B b : Nat} {t : ByteArray} {w : World} (h : Wr B b t w) : B ≤ b := h.elim (fun x => x.1) (fun x => x.1)
/-- From w on the writer has laid its bytes, and t' is what it holds. -/
def WS (B b : Nat) (t' : ByteArray) (w w' : World) : Prop := Wr B b t' w' ∧ Below B w w' ∧ Oth b w w'
theorem WS.refl {B b : Nat} {t : ByteArray} {w : World} (h : Wr B b t w) : WS B b t w w := ⟨h, Below.refl _ _, Lib.OthersKept.refl _ _ _⟩
theorem WS.then {B b : Nat} {t t' : ByteArray} {w w' w'' : World} (h : WS B b t w w') (k : WS B b t' w' w'') : WS B b t' w w'' := ⟨k.1, h.2.1.trans k.2.1, h.2.2.trans k.2.2⟩
theorem WS.new {B b : Nat} {t : ByteArray} {w w' w'' : World} (h : WS B b t w w') (hB : B ≤ w.heap.size) (k : Below w'.heap.size w' w'') : WS B b t w w'' :=
  ⟨h.1.below k, h.2.1.trans (k.mono (Nat.le_trans hB h.2.1.size)), h.2.2.trans (oth_below k)⟩
theorem WS.size {B b : Nat} {t : ByteArray} {w w' : World} (h : WS B b t w w') : w.heap.size ≤ w'.heap.size := h.2.1.size
/-- Numbers that an int can be. -/
def Nn (i : Int) : Prop := 0 ≤ i ∧ i ≤ 9223372036854775807
theorem u64_wrap {x : Int} (h : Nn x) : IntKind.u64.wrap x = x := by
  obtain ⟨h0, h1⟩ := h
  simp only [IntKind.wrap_u64]
  omega
theorem nB_size' (i : Int) : (nB i ByteArray.empty).size ≤ 9 := by have := nB_size i ByteArray.empty; simpa using this
theorem putEmpty (x : Int) (h : Nn x) (w : World) :
    Calls Tryz.prog 39 #[.string ⟨#[]⟩, .int .u64 x] w fun e w' => e = .returned (.string (nB x ByteArray.empty)) ∧ Below w.heap.size w w' := by
  obtain ⟨h0, h1⟩ := h
  have h2 := putNum_any ⟨#[]⟩ (by show (0 : Nat) ≤ _; omega) x.toNat (by omega) w
  rw [Int.toNat_of_nonneg h0] at h2
  refine h2.mono ?_
  rintro e w' ⟨rfl, hb⟩
  refine ⟨?_, hb⟩
  have e1 : (⟨#[]⟩ : ByteArray) ++ numS x.toNat = nB x ByteArray.empty := by
    show ByteArray.empty ++ numS x.toNat = _
    simp [nB]
  rw [e1]
theorem putsEmpty (x : Int) (h : In64 x) (w : World) :
    Calls Tryz.prog 94 #[.string ⟨#[]⟩, .int .i64 x] w fun e w' => e = .returned (.string (sB x ByteArray.empty)) ∧ Below w.heap.size w w' := by
  have h2 := putInt_any ⟨#[]⟩ (by show (0 : Nat) ≤ _; omega) x h.1 h.2 w
  refine h2.mono ?_
  rintro e w' ⟨rfl, hb⟩
  refine ⟨?_, hb⟩
  have e1 : (⟨#[]⟩ : ByteArray) ++ numS (zig x) = sB x ByteArray.empty := by
    show ByteArray.empty ++ numS (zig x) = _
    simp [sB]
  rw [e1]
theorem puttEmpty (x : ByteArray) (h : x.size ≤ 70368744177664) (w : World) :
    Calls Tryz.prog 40 #[.string ⟨#[]⟩, .string x] w fun e w' => e = .returned (.string (xB x ByteArray.empty)) ∧ Below w.heap.size w w' := by
  have h2 := putText_any ⟨#[]⟩ (by show (0 : Nat) ≤ _; omega) x h w
  refine h2.mono ?_
  rintro e w' ⟨rfl, hb⟩
  refine ⟨?_, hb⟩
  have e1 : (⟨#[]⟩ : ByteArray) ++ textS x = xB x ByteArray.empty := by
    show ByteArray.empty ++ textS x = _
    simp [xB]
  rw [e1]
theorem writes {B b : Nat} {t s : ByteArray} {w : World} (h : Wr B b t w) (hlen : t.size + s.size ≤ 140737488355328) (hBw : B ≤ w.heap.size) :
    Calls Tryz.prog 38 #[.pointer (some ⟨b, 0, none⟩), .string s] w fun e w' => e = .returned (.tuple #[.int .i64 s.size, .nilIface]) ∧ WS B b (t ++ s) w w' :=
  (write_any B b t s w h hlen hBw).mono fun _ _ ⟨h1, h2⟩ => ⟨h1, h2⟩
end Go.Proofs.YtbeaaieaffdgeaaGreatDoor
end
/- The drawn regions of the program's writer. (Written by gen6w.py.) -/
section
namespace Go.Proofs.YtbeaaieaffdgeaaGreatDoor
open Go.RowKit
set_option linter.unusedVariables false
set_option linter.unusedSimpArgs false
set_option maxRecDepth 100000

noncomputable def wnOps : Array Oper := ((Tryz.f14.body).bind (regionOps 3)).getD #[]
def wnFree : List Nat := [0, 1, 2, 3, 4, 5, 6, 7, 8, 9, 10, 11, 19]
def wnBase (t : Nat → Value) : Nat → Option Value := fun s => if wnFree.contains s then some (t s) else none
def wnTs (u : ByteArray) (x : Int) : Nat → ByteArray := fun j => if j < 2 then u else u ++ nB x ByteArray.empty
def wnI (B b : Nat) (x : Int) (w : World) : Prop := True
theorem wnKeep (B b : Nat) (x : Int) : ∀ w w' : World, wnI B b x w → Below B w w' → Oth b w w' → wnI B b x w' := fun _ _ _ _ _ => trivial
def wnH (B b : Nat) (u : ByteArray) (x : Int) (w0 : World) : Nat → World → Prop := fun j w => WS B b (wnTs u x j) w0 w ∧ wnI B b x w
def wnVal (B b : Nat) (u : ByteArray) (x : Int) (w0 : World) : Nat → Value → World → Prop
  | 0, v, w => v = .pointer (some ⟨b, 0, none⟩)
  | 1, v, w => v = .pointer (some ⟨b, 0, none⟩)
  | 2, v, w => v = .pointer (some ⟨b, 0, none⟩)
  | 3, v, w => v = .int .i64 x
  | 4, v, w => v = .int .u64 x
  | 5, v, w => v = .string (nB x ByteArray.empty)
  | _, _, _ => True
theorem wnMono (B b : Nat) (u : ByteArray) (x : Int) (w0 : World) : ∀ j v w w', wnVal B b u x w0 j v w → Below B w w' → Oth b w w' → wnVal B b u x w0 j v w' := by
  intro j v w w' h k o
  match j, h with
  | 0, h => exact h
  | 1, h => exact h
  | 2, h => exact h
  | 3, h => exact h
  | 4, h => exact h
  | 5, h => exact h
  | 6, h => exact h
  | q + 7, h => exact trivial
structure wnRows (B b : Nat) (u : ByteArray) (x : Int) (w0 : World) (t : Nat → Value) : Prop where
  t0 : t 0 = .pointer (some ⟨b, 0, none⟩)
  t5 : t 5 = .int .i64 x
  hx : Nn x
  hz : u.size + 2000 ≤ 140737488355328
  hB : B ≤ w0.heap.size
section
variable {l : Array Bool} {a : Act} {w : World} {Q : Exit → Act → World → Prop} {B b : Nat} {u : ByteArray} {x : Int} {w0 : World} {t : Nat → Value}
theorem wnOp0 (hR : wnRows B b u x w0 t) (h : AtC wnOps 20 [5, 6] (wnBase t) (wnVal B b u x w0) (wnH B b u x w0) l a w) (hn : l.getD 0 true = false) (hd : ∀ o : Oper, wnOps[0]? = some o → ∀ e ∈ o.after.toList, Region.binds .any e = true → l.getD e.on false = true) : wpOp Tryz.prog wnOps Q 0 (AtC wnOps 20 [5, 6] (wnBase t) (wnVal B b u x w0) (wnH B b u x w0) (l.setIfInBounds 0 true)) a w := by
  have hown : ownAt wnOps 20 (wnBase t) 0 12 := ownAt_of (by kernel_rfl) rfl
  obtain ⟨o, ho⟩ : ∃ o, wnOps[0]? = some o := Option.isSome_iff_exists.1 (by kernel_rfl)
  have hop : o.op = Op.move (Operand.tmp 0) := op_of ho (by kernel_rfl)
  have hg : o.guard = none := guard_of ho (by kernel_rfl)
  have v0 : a.eval (.tmp 0) = .pointer (some ⟨b, 0, none⟩) := (h.fixed 0 (t 0) rfl).trans hR.t0
  exact h.pure ho hown rfl hg (v := .pointer (some ⟨b, 0, none⟩)) (by simp only [execOp, hop, v0]; first | kernel_rfl | go_simp) rfl
theorem wnOp1 (hR : wnRows B b u x w0 t) (h : AtC wnOps 20 [5, 6] (wnBase t) (wnVal B b u x w0) (wnH B b u x w0) l a w) (hn : l.getD 1 true = false) (hd : ∀ o : Oper, wnOps[1]? = some o → ∀ e ∈ o.after.toList, Region.binds .any e = true → l.getD e.on false = true) : wpOp Tryz.prog wnOps Q 1 (AtC wnOps 20 [5, 6] (wnBase t) (wnVal B b u x w0) (wnH B b u x w0) (l.setIfInBounds 1 true)) a w := by
  have hown : ownAt wnOps 20 (wnBase t) 1 13 := ownAt_of (by kernel_rfl) rfl
  obtain ⟨o, ho⟩ : ∃ o, wnOps[1]? = some o := Option.isSome_iff_exists.1 (by kernel_rfl)
  have hop : o.op = Op.nilCheck (Operand.tmp 12) := op_of ho (by kernel_rfl)
  have hg : o.guard = none := guard_of ho (by kernel_rfl)
  have v12 : a.eval (.tmp 12) = .pointer (some ⟨b, 0, none⟩) := h.done 0 12 (dep hd 0 (by kernel_rfl)) (by kernel_rfl)
  exact h.pure ho hown rfl hg (v := .pointer (some ⟨b, 0, none⟩)) (by simp only [execOp, hop, v12]; first | kernel_rfl | go_simp) rfl
theorem wnOp2 (hR : wnRows B b u x w0 t) (h : AtC wnOps 20 [5, 6] (wnBase t) (wnVal B b u x w0) (wnH B b u x w0) l a w) (hn : l.getD 2 true = false) (hd : ∀ o : Oper, wnOps[2]? = some o → ∀ e ∈ o.after.toList, Region.binds .any e = true → l.getD e.on false = true) : wpOp Tryz.prog wnOps Q 2 (AtC wnOps 20 [5, 6] (wnBase t) (wnVal B b u x w0) (wnH B b u x w0) (l.setIfInBounds 2 true)) a w := by
  have hown : ownAt wnOps 20 (wnBase t) 2 14 := ownAt_of (by kernel_rfl) rfl
  obtain ⟨o, ho⟩ : ∃ o, wnOps[2]? = some o := Option.isSome_iff_exists.1 (by kernel_rfl)
  have hop : o.op = Op.fieldAddr 48 (Operand.tmp 13) 0 := op_of ho (by kernel_rfl)
  have hg : o.guard = none := guard_of ho (by kernel_rfl)
  have v13 : a.eval (.tmp 13) = .pointer (some ⟨b, 0, none⟩) := h.done 1 13 (dep hd 1 (by kernel_rfl)) (by kernel_rfl)
  exact h.pure ho hown rfl hg (v := .pointer (some ⟨b, 0, none⟩)) (by simp only [execOp, hop, v13]; first | kernel_rfl | go_simp) rfl
theorem wnOp3 (hR : wnRows B b u x w0 t) (h : AtC wnOps 20 [5, 6] (wnBase t) (wnVal B b u x w0) (wnH B b u x w0) l a w) (hn : l.getD 3 true = false) (hd : ∀ o : Oper, wnOps[3]? = some o → ∀ e ∈ o.after.toList, Region.binds .any e = true → l.getD e.on false = true) : wpOp Tryz.prog wnOps Q 3 (AtC wnOps 20 [5, 6] (wnBase t) (wnVal B b u x w0) (wnH B b u x w0) (l.setIfInBounds 3 true)) a w := by
  have hown : ownAt wnOps 20 (wnBase t) 3 15 := ownAt_of (by kernel_rfl) rfl
  obtain ⟨o, ho⟩ : ∃ o, wnOps[3]? = some o := Option.isSome_iff_exists.1 (by kernel_rfl)
  have hop : o.op = Op.move (Operand.tmp 5) := op_of ho (by kernel_rfl)
  have hg : o.guard = none := guard_of ho (by kernel_rfl)
  have v5 : a.eval (.tmp 5) = .int .i64 x := (h.fixed 5 (t 5) rfl).trans hR.t5
  exact h.pure ho hown rfl hg (v := .int .i64 x) (by simp only [execOp, hop, v5]; first | kernel_rfl | go_simp) rfl
theorem wnOp4 (hR : wnRows B b u x w0 t) (h : AtC wnOps 20 [5, 6] (wnBase t) (wnVal B b u x w0) (wnH B b u x w0) l a w) (hn : l.getD 4 true = false) (hd : ∀ o : Oper, wnOps[4]? = some o → ∀ e ∈ o.after.toList, Region.binds .any e = true → l.getD e.on false = true) : wpOp Tryz.prog wnOps Q 4 (AtC wnOps 20 [5, 6] (wnBase t) (wnVal B b u x w0) (wnH B b u x w0) (l.setIfInBounds 4 true)) a w := by
  have hown : ownAt wnOps 20 (wnBase t) 4 16 := ownAt_of (by kernel_rfl) rfl
  obtain ⟨o, ho⟩ : ∃ o, wnOps[4]? = some o := Option.isSome_iff_exists.1 (by kernel_rfl)
  have hop : o.op = Op.convert 3 78 (Operand.tmp 15) := op_of ho (by kernel_rfl)
  have hg : o.guard = none := guard_of ho (by kernel_rfl)
  have v15 : a.eval (.tmp 15) = .int .i64 x := h.done 3 15 (dep hd 3 (by kernel_rfl)) (by kernel_rfl)
  have hw := u64_wrap hR.hx
  exact h.pure ho hown rfl hg (v := .int .u64 x) (by simp only [execOp, hop, v15]; first | (simp [go_sem, hw]; done) | go_simp) rfl
theorem wnOp5 (hR : wnRows B b u x w0 t) (h : AtC wnOps 20 [5, 6] (wnBase t) (wnVal B b u x w0) (wnH B b u x w0) l a w) (hn : l.getD 5 true = false) (hd : ∀ o : Oper, wnOps[5]? = some o → ∀ e ∈ o.after.toList, Region.binds .any e = true → l.getD e.on false = true) : wpOp Tryz.prog wnOps Q 5 (AtC wnOps 20 [5, 6] (wnBase t) (wnVal B b u x w0) (wnH B b u x w0) (l.setIfInBounds 5 true)) a w := by
  have hown : ownAt wnOps 20 (wnBase t) 5 17 := ownAt_of (by kernel_rfl) rfl
  obtain ⟨o, ho⟩ : ∃ o, wnOps[5]? = some o := Option.isSome_iff_exists.1 (by kernel_rfl)
  have hop : o.op = Op.call { callee := Callee.value (Operand.func 39), args := #[Operand.const (Value.string { data := #[] }), Operand.tmp 16], argTypes := #[9, 78] } := op_of ho (by kernel_rfl)
  have hg : o.guard = none := guard_of ho (by kernel_rfl)
  have v16 : a.eval (.tmp 16) = .int .u64 x := h.done 4 16 (dep hd 4 (by kernel_rfl)) (by kernel_rfl)
  refine h.call (f := 39) (args := #[.string ⟨#[]⟩, .int .u64 x]) (k := 0) ho hown (by decide) rfl (by decide) (fun j hj => ?_) hn hg ?_ (fun hH => (putEmpty x hR.hx w).mono ?_)
  · omega
  · rw [exec_call (enters_of Tryz.func39 (by kernel_rfl) rfl) hop]
    simp only [List.map_toArray, List.map_cons, List.map_nil, v16]
    try rfl
  · rintro e w' ⟨rfl, hb⟩
    have hB := Nat.le_trans hR.hB hH.1.size
    exact .inr ⟨_, rfl, ⟨hH.1.new hR.hB hb, wnKeep B b x _ _ hH.2 (hb.mono hB) (oth_below hb)⟩, rfl, fun j v hv => wnMono B b u x w0 j v _ _ hv (hb.mono hB) (oth_below hb)⟩
theorem wnOp6 (hR : wnRows B b u x w0 t) (h : AtC wnOps 20 [5, 6] (wnBase t) (wnVal B b u x w0) (wnH B b u x w0) l a w) (hn : l.getD 6 true = false) (hd : ∀ o : Oper, wnOps[6]? = some o → ∀ e ∈ o.after.toList, Region.binds .any e = true → l.getD e.on false = true) : wpOp Tryz.prog wnOps Q 6 (AtC wnOps 20 [5, 6] (wnBase t) (wnVal B b u x w0) (wnH B b u x w0) (l.setIfInBounds 6 true)) a w := by
  have hown : ownAt wnOps 20 (wnBase t) 6 18 := ownAt_of (by kernel_rfl) rfl
  obtain ⟨o, ho⟩ : ∃ o, wnOps[6]? = some o := Option.isSome_iff_exists.1 (by kernel_rfl)
  have hop : o.op = Op.call { callee := Callee.value (Operand.func 38), args := #[Operand.tmp 14, Operand.tmp 17], argTypes := #[46, 9] } := op_of ho (by kernel_rfl)
  have hg : o.guard = none := guard_of ho (by kernel_rfl)
  have v14 : a.eval (.tmp 14) = .pointer (some ⟨b, 0, none⟩) := h.done 2 14 (dep hd 2 (by kernel_rfl)) (by kernel_rfl)
  have v17 : a.eval (.tmp 17) = .string (nB x ByteArray.empty) := h.done 5 17 (dep hd 5 (by kernel_rfl)) (by kernel_rfl)
  refine h.call (f := 38) (args := #[.pointer (some ⟨b, 0, none⟩), .string (nB x ByteArray.empty)]) (k := 1) ho hown (by decide) rfl (by decide) (fun j hj => ?_) hn hg ?_ (fun hH => (writes (t := u) (s := nB x ByteArray.empty) (by have h1 := hH.1.1; exact h1) (by have := nB_size' x; have := hR.hz; omega) (Nat.le_trans hR.hB hH.1.size)).mono ?_)
  · obtain rfl : j = 0 := by omega
    exact dep hd 5 (by kernel_rfl)
  · rw [exec_call (enters_of Tryz.func38 (by kernel_rfl) rfl) hop]
    simp only [List.map_toArray, List.map_cons, List.map_nil, v14, v17]
    try rfl
  · rintro e w' ⟨rfl, hws⟩
    exact .inr ⟨_, rfl, ⟨hH.1.then hws, wnKeep B b x _ _ hH.2 hws.2.1 hws.2.2⟩, trivial, fun j v hv => wnMono B b u x w0 j v _ _ hv hws.2.1 hws.2.2⟩
theorem wnSize : wnOps.size = 7 := by kernel_rfl
theorem wnStep (hR : wnRows B b u x w0 t) (l : Array Bool) (a : Act) (w : World) (kk : Nat) (h : AtC wnOps 20 [5, 6] (wnBase t) (wnVal B b u x w0) (wnH B b u x w0) l a w) (hi : kk < wnOps.size) (hn : l.getD kk true = false) (hd : ∀ o : Oper, wnOps[kk]? = some o → ∀ e ∈ o.after.toList, Region.binds .any e = true → l.getD e.on false = true) : wpOp Tryz.prog wnOps Q kk (AtC wnOps 20 [5, 6] (wnBase t) (wnVal B b u x w0) (wnH B b u x w0) (l.setIfInBounds kk true)) a w := by
  rw [wnSize] at hi
  match kk, hi, hn, hd with
  | 0, _, hn, hd => exact wnOp0 hR h hn hd
  | 1, _, hn, hd => exact wnOp1 hR h hn hd
  | 2, _, hn, hd => exact wnOp2 hR h hn hd
  | 3, _, hn, hd => exact wnOp3 hR h hn hd
  | 4, _, hn, hd => exact wnOp4 hR h hn hd
  | 5, _, hn, hd => exact wnOp5 hR h hn hd
  | 6, _, hn, hd => exact wnOp6 hR h hn hd
  | k + 7, hi, _, _ => omega
theorem wnReg (hR : wnRows B b u x w0 t) (h0 : Wr B b u w0) (hI : wnI B b x w0) (fin : ∀ (v : Nat → Value) (w : World), WS B b (u ++ nB x ByteArray.empty) w0 w → wnI B b x w → Q .normal ⟨#[t 0, t 1, t 2, t 3, t 4, t 5, t 6, t 7, t 8, t 9, t 10, t 11, v 12, v 13, v 14, v 15, v 16, v 17, v 18, t 19], []⟩ w) : (Code.region 3 wnOps true).wp Tryz.prog Q ⟨((List.range 20).map t).toArray, []⟩ w0 := by
  refine region_allC (n := 20) (cs := [5, 6]) (base := wnBase t) (val := wnVal B b u x w0) (H := wnH B b u x w0) (by kernel_rfl) (earlier_of (by kernel_rfl)) ?start (fun l a w i h hi hn hd => wnStep hR l a w i h hi hn hd) ?fin
  case start =>
    refine AtC.begins (by simp) rfl ⟨⟨h0, (Below.refl _ _).drew, (Lib.OthersKept.refl _ _ _).drew⟩, wnKeep B b x _ _ hI (Below.refl _ _).drew (Lib.OthersKept.refl _ _ _).drew⟩ fun s v hs => ?_
    unfold wnBase at hs
    split at hs
    · rename_i hs1
      cases hs
      exact row_getC t 20 s (free_ltC (free := wnFree) (by kernel_rfl) hs1)
    · cases hs
  case fin =>
    intro l a w h hall
    have hH := h.last (fun i hi => hall _ (by
      have hi2 : i = 0 ∨ i = 1 := by simp at hi; omega
      rw [wnSize]
      rcases hi2 with rfl | rfl <;> decide))
    obtain ⟨tm, df⟩ := a
    have hdf : df = [] := h.defers
    have hsz : tm.size = 20 := h.tmps
    have hfx : ∀ s, wnFree.contains s = true → tm.getD s undef = t s := fun s hs => h.fixed s (t s) (by unfold wnBase; rw [if_pos hs])
    obtain ⟨v2, hv2⟩ : ∃ v2 : Nat → Value, ∀ s, tm.getD s undef = v2 s := ⟨_, fun _ => rfl⟩
    have e := slots_free tm 20 hsz wnFree t v2 hfx hv2
    have e2 : tm = #[t 0, t 1, t 2, t 3, t 4, t 5, t 6, t 7, t 8, t 9, t 10, t 11, v2 12, v2 13, v2 14, v2 15, v2 16, v2 17, v2 18, t 19] := e.trans (by kernel_rfl)
    subst e2 hdf
    exact fin v2 w (by have h1 := hH.1; exact h1) hH.2
end

noncomputable def wiOps : Array Oper := ((Tryz.f83.body).bind (regionOps 3)).getD #[]
def wiFree : List Nat := [0, 1, 2, 3, 4, 5, 6, 7, 8, 9, 10, 11, 18]
def wiBase (t : Nat → Value) : Nat → Option Value := fun s => if wiFree.contains s then some (t s) else none
def wiTs (u : ByteArray) (x : Int) : Nat → ByteArray := fun j => if j < 2 then u else u ++ sB x ByteArray.empty
def wiI (B b : Nat) (x : Int) (w : World) : Prop := True
theorem wiKeep (B b : Nat) (x : Int) : ∀ w w' : World, wiI B b x w → Below B w w' → Oth b w w' → wiI B b x w' := fun _ _ _ _ _ => trivial
def wiH (B b : Nat) (u : ByteArray) (x : Int) (w0 : World) : Nat → World → Prop := fun j w => WS B b (wiTs u x j) w0 w ∧ wiI B b x w
def wiVal (B b : Nat) (u : ByteArray) (x : Int) (w0 : World) : Nat → Value → World → Prop
  | 0, v, w => v = .pointer (some ⟨b, 0, none⟩)
  | 1, v, w => v = .pointer (some ⟨b, 0, none⟩)
  | 2, v, w => v = .pointer (some ⟨b, 0, none⟩)
  | 3, v, w => v = .int .i64 x
  | 4, v, w => v = .string (sB x ByteArray.empty)
  | _, _, _ => True
theorem wiMono (B b : Nat) (u : ByteArray) (x : Int) (w0 : World) : ∀ j v w w', wiVal B b u x w0 j v w → Below B w w' → Oth b w w' → wiVal B b u x w0 j v w' := by
  intro j v w w' h k o
  match j, h with
  | 0, h => exact h
  | 1, h => exact h
  | 2, h => exact h
  | 3, h => exact h
  | 4, h => exact h
  | 5, h => exact h
  | q + 6, h => exact trivial
structure wiRows (B b : Nat) (u : ByteArray) (x : Int) (w0 : World) (t : Nat → Value) : Prop where
  t0 : t 0 = .pointer (some ⟨b, 0, none⟩)
  t5 : t 5 = .int .i64 x
  hx : In64 x
  hz : u.size + 2000 ≤ 140737488355328
  hB : B ≤ w0.heap.size
section
variable {l : Array Bool} {a : Act} {w : World} {Q : Exit → Act → World → Prop} {B b : Nat} {u : ByteArray} {x : Int} {w0 : World} {t : Nat → Value}
theorem wiOp0 (hR : wiRows B b u x w0 t) (h : AtC wiOps 19 [4, 5] (wiBase t) (wiVal B b u x w0) (wiH B b u x w0) l a w) (hn : l.getD 0 true = false) (hd : ∀ o : Oper, wiOps[0]? = some o → ∀ e ∈ o.after.toList, Region.binds .any e = true → l.getD e.on false = true) : wpOp Tryz.prog wiOps Q 0 (AtC wiOps 19 [4, 5] (wiBase t) (wiVal B b u x w0) (wiH B b u x w0) (l.setIfInBounds 0 true)) a w := by
  have hown : ownAt wiOps 19 (wiBase t) 0 12 := ownAt_of (by kernel_rfl) rfl
  obtain ⟨o, ho⟩ : ∃ o, wiOps[0]? = some o := Option.isSome_iff_exists.1 (by kernel_rfl)
  have hop : o.op = Op.move (Operand.tmp 0) := op_of ho (by kernel_rfl)
  have hg : o.guard = none := guard_of ho (by kernel_rfl)
  have v0 : a.eval (.tmp 0) = .pointer (some ⟨b, 0, none⟩) := (h.fixed 0 (t 0) rfl).trans hR.t0
  exact h.pure ho hown rfl hg (v := .pointer (some ⟨b, 0, none⟩)) (by simp only [execOp, hop, v0]; first | kernel_rfl | go_simp) rfl
theorem wiOp1 (hR : wiRows B b u x w0 t) (h : AtC wiOps 19 [4, 5] (wiBase t) (wiVal B b u x w0) (wiH B b u x w0) l a w) (hn : l.getD 1 true = false) (hd : ∀ o : Oper, wiOps[1]? = some o → ∀ e ∈ o.after.toList, Region.binds .any e = true → l.getD e.on false = true) : wpOp Tryz.prog wiOps Q 1 (AtC wiOps 19 [4, 5] (wiBase t) (wiVal B b u x w0) (wiH B b u x w0) (l.setIfInBounds 1 true)) a w := by
  have hown : ownAt wiOps 19 (wiBase t) 1 13 := ownAt_of (by kernel_rfl) rfl
  obtain ⟨o, ho⟩ : ∃ o, wiOps[1]? = some o := Option.isSome_iff_exists.1 (by kernel_rfl)
  have hop : o.op = Op.nilCheck (Operand.tmp 12) := op_of ho (by kernel_rfl)
  have hg : o.guard = none := guard_of ho (by kernel_rfl)
  have v12 : a.eval (.tmp 12) = .pointer (some ⟨b, 0, none⟩) := h.done 0 12 (dep hd 0 (by kernel_rfl)) (by kernel_rfl)
  exact h.pure ho hown rfl hg (v := .pointer (some ⟨b, 0, none⟩)) (by simp only [execOp, hop, v12]; first | kernel_rfl | go_simp) rfl
theorem wiOp2 (hR : wiRows B b u x w0 t) (h : AtC wiOps 19 [4, 5] (wiBase t) (wiVal B b u x w0) (wiH B b u x w0) l a w) (hn : l.getD 2 true = false) (hd : ∀ o : Oper, wiOps[2]? = some o → ∀ e ∈ o.after.toList, Region.binds .any e = true → l.getD e.on false = true) : wpOp Tryz.prog wiOps Q 2 (AtC wiOps 19 [4, 5] (wiBase t) (wiVal B b u x w0) (wiH B b u x w0) (l.setIfInBounds 2 true)) a w := by
  have hown : ownAt wiOps 19 (wiBase t) 2 14 := ownAt_of (by kernel_rfl) rfl
  obtain ⟨o, ho⟩ : ∃ o, wiOps[2]? = some o := Option.isSome_iff_exists.1 (by kernel_rfl)
  have hop : o.op = Op.fieldAddr 48 (Operand.tmp 13) 0 := op_of ho (by kernel_rfl)
  have hg : o.guard = none := guard_of ho (by kernel_rfl)
  have v13 : a.eval (.tmp 13) = .pointer (some ⟨b, 0, none⟩) := h.done 1 13 (dep hd 1 (by kernel_rfl)) (by kernel_rfl)
  exact h.pure ho hown rfl hg (v := .pointer (some ⟨b, 0, none⟩)) (by simp only [execOp, hop, v13]; first | kernel_rfl | go_simp) rfl
theorem wiOp3 (hR : wiRows B b u x w0 t) (h : AtC wiOps 19 [4, 5] (wiBase t) (wiVal B b u x w0) (wiH B b u x w0) l a w) (hn : l.getD 3 true = false) (hd : ∀ o : Oper, wiOps[3]? = some o → ∀ e ∈ o.after.toList, Region.binds .any e = true → l.getD e.on false = true) : wpOp Tryz.prog wiOps Q 3 (AtC wiOps 19 [4, 5] (wiBase t) (wiVal B b u x w0) (wiH B b u x w0) (l.setIfInBounds 3 true)) a w := by
  have hown : ownAt wiOps 19 (wiBase t) 3 15 := ownAt_of (by kernel_rfl) rfl
  obtain ⟨o, ho⟩ : ∃ o, wiOps[3]? = some o := Option.isSome_iff_exists.1 (by kernel_rfl)
  have hop : o.op = Op.move (Operand.tmp 5) := op_of ho (by kernel_rfl)
  have hg : o.guard = none := guard_of ho (by kernel_rfl)
  have v5 : a.eval (.tmp 5) = .int .i64 x := (h.fixed 5 (t 5) rfl).trans hR.t5
  exact h.pure ho hown rfl hg (v := .int .i64 x) (by simp only [execOp, hop, v5]; first | kernel_rfl | go_simp) rfl
theorem wiOp4 (hR : wiRows B b u x w0 t) (h : AtC wiOps 19 [4, 5] (wiBase t) (wiVal B b u x w0) (wiH B b u x w0) l a w) (hn : l.getD 4 true = false) (hd : ∀ o : Oper, wiOps[4]? = some o → ∀ e ∈ o.after.toList, Region.binds .any e = true → l.getD e.on false = true) : wpOp Tryz.prog wiOps Q 4 (AtC wiOps 19 [4, 5] (wiBase t) (wiVal B b u x w0) (wiH B b u x w0) (l.setIfInBounds 4 true)) a w := by
  have hown : ownAt wiOps 19 (wiBase t) 4 16 := ownAt_of (by kernel_rfl) rfl
  obtain ⟨o, ho⟩ : ∃ o, wiOps[4]? = some o := Option.isSome_iff_exists.1 (by kernel_rfl)
  have hop : o.op = Op.call { callee := Callee.value (Operand.func 94), args := #[Operand.const (Value.string { data := #[] }), Operand.tmp 15], argTypes := #[9, 3] } := op_of ho (by kernel_rfl)
  have hg : o.guard = none := guard_of ho (by kernel_rfl)
  have v15 : a.eval (.tmp 15) = .int .i64 x := h.done 3 15 (dep hd 3 (by kernel_rfl)) (by kernel_rfl)
  refine h.call (f := 94) (args := #[.string ⟨#[]⟩, .int .i64 x]) (k := 0) ho hown (by decide) rfl (by decide) (fun j hj => ?_) hn hg ?_ (fun hH => (putsEmpty x hR.hx w).mono ?_)
  · omega
  · rw [exec_call (enters_of Tryz.func94 (by kernel_rfl) rfl) hop]
    simp only [List.map_toArray, List.map_cons, List.map_nil, v15]
    try rfl
  · rintro e w' ⟨rfl, hb⟩
    have hB := Nat.le_trans hR.hB hH.1.size
    exact .inr ⟨_, rfl, ⟨hH.1.new hR.hB hb, wiKeep B b x _ _ hH.2 (hb.mono hB) (oth_below hb)⟩, rfl, fun j v hv => wiMono B b u x w0 j v _ _ hv (hb.mono hB) (oth_below hb)⟩
theorem wiOp5 (hR : wiRows B b u x w0 t) (h : AtC wiOps 19 [4, 5] (wiBase t) (wiVal B b u x w0) (wiH B b u x w0) l a w) (hn : l.getD 5 true = false) (hd : ∀ o : Oper, wiOps[5]? = some o → ∀ e ∈ o.after.toList, Region.binds .any e = true → l.getD e.on false = true) : wpOp Tryz.prog wiOps Q 5 (AtC wiOps 19 [4, 5] (wiBase t) (wiVal B b u x w0) (wiH B b u x w0) (l.setIfInBounds 5 true)) a w := by
  have hown : ownAt wiOps 19 (wiBase t) 5 17 := ownAt_of (by kernel_rfl) rfl
  obtain ⟨o, ho⟩ : ∃ o, wiOps[5]? = some o := Option.isSome_iff_exists.1 (by kernel_rfl)
  have hop : o.op = Op.call { callee := Callee.value (Operand.func 38), args := #[Operand.tmp 14, Operand.tmp 16], argTypes := #[46, 9] } := op_of ho (by kernel_rfl)
  have hg : o.guard = none := guard_of ho (by kernel_rfl)
  have v14 : a.eval (.tmp 14) = .pointer (some ⟨b, 0, none⟩) := h.done 2 14 (dep hd 2 (by kernel_rfl)) (by kernel_rfl)
  have v16 : a.eval (.tmp 16) = .string (sB x ByteArray.empty) := h.done 4 16 (dep hd 4 (by kernel_rfl)) (by kernel_rfl)
  refine h.call (f := 38) (args := #[.pointer (some ⟨b, 0, none⟩), .string (sB x ByteArray.empty)]) (k := 1) ho hown (by decide) rfl (by decide) (fun j hj => ?_) hn hg ?_ (fun hH => (writes (t := u) (s := sB x ByteArray.empty) (by have h1 := hH.1.1; exact h1) (by have := sB_size x ByteArray.empty; have e : ByteArray.empty.size = 0 := rfl; have := hR.hz; omega) (Nat.le_trans hR.hB hH.1.size)).mono ?_)
  · obtain rfl : j = 0 := by omega
    exact dep hd 4 (by kernel_rfl)
  · rw [exec_call (enters_of Tryz.func38 (by kernel_rfl) rfl) hop]
    simp only [List.map_toArray, List.map_cons, List.map_nil, v14, v16]
    try rfl
  · rintro e w' ⟨rfl, hws⟩
    exact .inr ⟨_, rfl, ⟨hH.1.then hws, wiKeep B b x _ _ hH.2 hws.2.1 hws.2.2⟩, trivial, fun j v hv => wiMono B b u x w0 j v _ _ hv hws.2.1 hws.2.2⟩
theorem wiSize : wiOps.size = 6 := by kernel_rfl
theorem wiStep (hR : wiRows B b u x w0 t) (l : Array Bool) (a : Act) (w : World) (kk : Nat) (h : AtC wiOps 19 [4, 5] (wiBase t) (wiVal B b u x w0) (wiH B b u x w0) l a w) (hi : kk < wiOps.size) (hn : l.getD kk true = false) (hd : ∀ o : Oper, wiOps[kk]? = some o → ∀ e ∈ o.after.toList, Region.binds .any e = true → l.getD e.on false = true) : wpOp Tryz.prog wiOps Q kk (AtC wiOps 19 [4, 5] (wiBase t) (wiVal B b u x w0) (wiH B b u x w0) (l.setIfInBounds kk true)) a w := by
  rw [wiSize] at hi
  match kk, hi, hn, hd with
  | 0, _, hn, hd => exact wiOp0 hR h hn hd
  | 1, _, hn, hd => exact wiOp1 hR h hn hd
  | 2, _, hn, hd => exact wiOp2 hR h hn hd
  | 3, _, hn, hd => exact wiOp3 hR h hn hd
  | 4, _, hn, hd => exact wiOp4 hR h hn hd
  | 5, _, hn, hd => exact wiOp5 hR h hn hd
  | k + 6, hi, _, _ => omega
theorem wiReg (hR : wiRows B b u x w0 t) (h0 : Wr B b u w0) (hI : wiI B b x w0) (fin : ∀ (v : Nat → Value) (w : World), WS B b (u ++ sB x ByteArray.empty) w0 w → wiI B b x w → Q .normal ⟨#[t 0, t 1, t 2, t 3, t 4, t 5, t 6, t 7, t 8, t 9, t 10, t 11, v 12, v 13, v 14, v 15, v 16, v 17, t 18], []⟩ w) : (Code.region 3 wiOps true).wp Tryz.prog Q ⟨((List.range 19).map t).toArray, []⟩ w0 := by
  refine region_allC (n := 19) (cs := [4, 5]) (base := wiBase t) (val := wiVal B b u x w0) (H := wiH B b u x w0) (by kernel_rfl) (earlier_of (by kernel_rfl)) ?start (fun l a w i h hi hn hd => wiStep hR l a w i h hi hn hd) ?fin
  case start =>
    refine AtC.begins (by simp) rfl ⟨⟨h0, (Below.refl _ _).drew, (Lib.OthersKept.refl _ _ _).drew⟩, wiKeep B b x _ _ hI (Below.refl _ _).drew (Lib.OthersKept.refl _ _ _).drew⟩ fun s v hs => ?_
    unfold wiBase at hs
    split at hs
    · rename_i hs1
      cases hs
      exact row_getC t 19 s (free_ltC (free := wiFree) (by kernel_rfl) hs1)
    · cases hs
  case fin =>
    intro l a w h hall
    have hH := h.last (fun i hi => hall _ (by
      have hi2 : i = 0 ∨ i = 1 := by simp at hi; omega
      rw [wiSize]
      rcases hi2 with rfl | rfl <;> decide))
    obtain ⟨tm, df⟩ := a
    have hdf : df = [] := h.defers
    have hsz : tm.size = 19 := h.tmps
    have hfx : ∀ s, wiFree.contains s = true → tm.getD s undef = t s := fun s hs => h.fixed s (t s) (by unfold wiBase; rw [if_pos hs])
    obtain ⟨v2, hv2⟩ : ∃ v2 : Nat → Value, ∀ s, tm.getD s undef = v2 s := ⟨_, fun _ => rfl⟩
    have e := slots_free tm 19 hsz wiFree t v2 hfx hv2
    have e2 : tm = #[t 0, t 1, t 2, t 3, t 4, t 5, t 6, t 7, t 8, t 9, t 10, t 11, v2 12, v2 13, v2 14, v2 15, v2 16, v2 17, t 18] := e.trans (by kernel_rfl)
    subst e2 hdf
    exact fin v2 w (by have h1 := hH.1; exact h1) hH.2
end

noncomputable def wcOps : Array Oper := ((Tryz.f15.body).bind (regionOps 1)).getD #[]
def wcFree : List Nat := [0, 1, 2, 3, 4, 5, 13, 14, 15, 16, 17, 18, 19, 20, 21, 22, 23, 24, 25, 26, 27, 28, 29, 30, 31, 32, 33, 34, 35, 36, 37, 38, 39, 40, 41, 42, 43, 44, 45, 46]
def wcBase (t : Nat → Value) : Nat → Option Value := fun s => if wcFree.contains s then some (t s) else none
def wcTs (u : ByteArray) (bx : Nat) (y : Cd) : Nat → ByteArray := fun j => if j < 2 then u else u ++ xB y.nm ByteArray.empty
def wcI (B b : Nat) (bx : Nat) (y : Cd) (w : World) : Prop := Kq B b (fun W => Bk W bx #[.string y.nm, .int .i64 y.k, .int .i64 y.c0, .int .i64 y.c1, .int .i64 y.c2, .int .i64 y.c3, .int .i64 y.col, .int .i64 y.pow, .int .i64 y.tou, .int .i64 y.keys, .slice y.aa y.an y.ac] 38) w
theorem wcKeep (B b : Nat) (bx : Nat) (y : Cd) : ∀ w w' : World, wcI B b bx y w → Below B w w' → Oth b w w' → wcI B b bx y w' := fun _ _ h k o => h.next k o
def wcH (B b : Nat) (u : ByteArray) (bx : Nat) (y : Cd) (w0 : World) : Nat → World → Prop := fun j w => WS B b (wcTs u bx y j) w0 w ∧ wcI B b bx y w
def wcVal (B b : Nat) (u : ByteArray) (bx : Nat) (y : Cd) (w0 : World) : Nat → Value → World → Prop
  | 0, v, w => v = .pointer (some ⟨b, 0, none⟩)
  | 1, v, w => v = .pointer (some ⟨b, 0, none⟩)
  | 2, v, w => v = .pointer (some ⟨b, 0, none⟩)
  | 3, v, w => v = .pointer (some ⟨bx, 0, none⟩)
  | 4, v, w => v = .string y.nm
  | 5, v, w => v = .string (xB y.nm ByteArray.empty)
  | _, _, _ => True
theorem wcMono (B b : Nat) (u : ByteArray) (bx : Nat) (y : Cd) (w0 : World) : ∀ j v w w', wcVal B b u bx y w0 j v w → Below B w w' → Oth b w w' → wcVal B b u bx y w0 j v w' := by
  intro j v w w' h k o
  match j, h with
  | 0, h => exact h
  | 1, h => exact h
  | 2, h => exact h
  | 3, h => exact h
  | 4, h => exact h
  | 5, h => exact h
  | 6, h => exact h
  | q + 7, h => exact trivial
structure wcRows (B b : Nat) (u : ByteArray) (bx : Nat) (y : Cd) (w0 : World) (t : Nat → Value) : Prop where
  t0 : t 0 = .pointer (some ⟨b, 0, none⟩)
  t3 : t 3 = .pointer (some ⟨bx, 0, none⟩)
  hx : y.nm.size ≤ 1000
  hz : u.size + 2000 ≤ 140737488355328
  hB : B ≤ w0.heap.size
section
variable {l : Array Bool} {a : Act} {w : World} {Q : Exit → Act → World → Prop} {B b : Nat} {u : ByteArray} {bx : Nat} {y : Cd} {w0 : World} {t : Nat → Value}
theorem wcOp0 (hR : wcRows B b u bx y w0 t) (h : AtC wcOps 47 [5, 6] (wcBase t) (wcVal B b u bx y w0) (wcH B b u bx y w0) l a w) (hn : l.getD 0 true = false) (hd : ∀ o : Oper, wcOps[0]? = some o → ∀ e ∈ o.after.toList, Region.binds .any e = true → l.getD e.on false = true) : wpOp Tryz.prog wcOps Q 0 (AtC wcOps 47 [5, 6] (wcBase t) (wcVal B b u bx y w0) (wcH B b u bx y w0) (l.setIfInBounds 0 true)) a w := by
  have hown : ownAt wcOps 47 (wcBase t) 0 6 := ownAt_of (by kernel_rfl) rfl
  obtain ⟨o, ho⟩ : ∃ o, wcOps[0]? = some o := Option.isSome_iff_exists.1 (by kernel_rfl)
  have hop : o.op = Op.move (Operand.tmp 0) := op_of ho (by kernel_rfl)
  have hg : o.guard = none := guard_of ho (by kernel_rfl)
  have v0 : a.eval (.tmp 0) = .pointer (some ⟨b, 0, none⟩) := (h.fixed 0 (t 0) rfl).trans hR.t0
  exact h.pure ho hown rfl hg (v := .pointer (some ⟨b, 0, none⟩)) (by simp only [execOp, hop, v0]; first | kernel_rfl | go_simp) rfl
theorem wcOp1 (hR : wcRows B b u bx y w0 t) (h : AtC wcOps 47 [5, 6] (wcBase t) (wcVal B b u bx y w0) (wcH B b u bx y w0) l a w) (hn : l.getD 1 true = false) (hd : ∀ o : Oper, wcOps[1]? = some o → ∀ e ∈ o.after.toList, Region.binds .any e = true → l.getD e.on false = true) : wpOp Tryz.prog wcOps Q 1 (AtC wcOps 47 [5, 6] (wcBase t) (wcVal B b u bx y w0) (wcH B b u bx y w0) (l.setIfInBounds 1 true)) a w := by
  have hown : ownAt wcOps 47 (wcBase t) 1 7 := ownAt_of (by kernel_rfl) rfl
  obtain ⟨o, ho⟩ : ∃ o, wcOps[1]? = some o := Option.isSome_iff_exists.1 (by kernel_rfl)
  have hop : o.op = Op.nilCheck (Operand.tmp 6) := op_of ho (by kernel_rfl)
  have hg : o.guard = none := guard_of ho (by kernel_rfl)
  have v6 : a.eval (.tmp 6) = .pointer (some ⟨b, 0, none⟩) := h.done 0 6 (dep hd 0 (by kernel_rfl)) (by kernel_rfl)
  exact h.pure ho hown rfl hg (v := .pointer (some ⟨b, 0, none⟩)) (by simp only [execOp, hop, v6]; first | kernel_rfl | go_simp) rfl
theorem wcOp2 (hR : wcRows B b u bx y w0 t) (h : AtC wcOps 47 [5, 6] (wcBase t) (wcVal B b u bx y w0) (wcH B b u bx y w0) l a w) (hn : l.getD 2 true = false) (hd : ∀ o : Oper, wcOps[2]? = some o → ∀ e ∈ o.after.toList, Region.binds .any e = true → l.getD e.on false = true) : wpOp Tryz.prog wcOps Q 2 (AtC wcOps 47 [5, 6] (wcBase t) (wcVal B b u bx y w0) (wcH B b u bx y w0) (l.setIfInBounds 2 true)) a w := by
  have hown : ownAt wcOps 47 (wcBase t) 2 8 := ownAt_of (by kernel_rfl) rfl
  obtain ⟨o, ho⟩ : ∃ o, wcOps[2]? = some o := Option.isSome_iff_exists.1 (by kernel_rfl)
  have hop : o.op = Op.fieldAddr 48 (Operand.tmp 7) 0 := op_of ho (by kernel_rfl)
  have hg : o.guard = none := guard_of ho (by kernel_rfl)
  have v7 : a.eval (.tmp 7) = .pointer (some ⟨b, 0, none⟩) := h.done 1 7 (dep hd 1 (by kernel_rfl)) (by kernel_rfl)
  exact h.pure ho hown rfl hg (v := .pointer (some ⟨b, 0, none⟩)) (by simp only [execOp, hop, v7]; first | kernel_rfl | go_simp) rfl
theorem wcOp3 (hR : wcRows B b u bx y w0 t) (h : AtC wcOps 47 [5, 6] (wcBase t) (wcVal B b u bx y w0) (wcH B b u bx y w0) l a w) (hn : l.getD 3 true = false) (hd : ∀ o : Oper, wcOps[3]? = some o → ∀ e ∈ o.after.toList, Region.binds .any e = true → l.getD e.on false = true) : wpOp Tryz.prog wcOps Q 3 (AtC wcOps 47 [5, 6] (wcBase t) (wcVal B b u bx y w0) (wcH B b u bx y w0) (l.setIfInBounds 3 true)) a w := by
  have hown : ownAt wcOps 47 (wcBase t) 3 9 := ownAt_of (by kernel_rfl) rfl
  obtain ⟨o, ho⟩ : ∃ o, wcOps[3]? = some o := Option.isSome_iff_exists.1 (by kernel_rfl)
  have hop : o.op = Op.fieldAddr 38 (Operand.tmp 3) 0 := op_of ho (by kernel_rfl)
  have hg : o.guard = none := guard_of ho (by kernel_rfl)
  have v3 : a.eval (.tmp 3) = .pointer (some ⟨bx, 0, none⟩) := (h.fixed 3 (t 3) rfl).trans hR.t3
  exact h.pure ho hown rfl hg (v := .pointer (some ⟨bx, 0, none⟩)) (by simp only [execOp, hop, v3]; first | kernel_rfl | go_simp) rfl
theorem wcOp4 (hR : wcRows B b u bx y w0 t) (h : AtC wcOps 47 [5, 6] (wcBase t) (wcVal B b u bx y w0) (wcH B b u bx y w0) l a w) (hn : l.getD 4 true = false) (hd : ∀ o : Oper, wcOps[4]? = some o → ∀ e ∈ o.after.toList, Region.binds .any e = true → l.getD e.on false = true) : wpOp Tryz.prog wcOps Q 4 (AtC wcOps 47 [5, 6] (wcBase t) (wcVal B b u bx y w0) (wcH B b u bx y w0) (l.setIfInBounds 4 true)) a w := by
  have hown : ownAt wcOps 47 (wcBase t) 4 10 := ownAt_of (by kernel_rfl) rfl
  obtain ⟨o, ho⟩ : ∃ o, wcOps[4]? = some o := Option.isSome_iff_exists.1 (by kernel_rfl)
  have hop : o.op = Op.load 9 (Operand.tmp 9) := op_of ho (by kernel_rfl)
  have hg : o.guard = none := guard_of ho (by kernel_rfl)
  have v9 : a.eval (.tmp 9) = .pointer (some ⟨bx, 0, none⟩) := h.done 3 9 (dep hd 3 (by kernel_rfl)) (by kernel_rfl)
  obtain ⟨j, hj⟩ := h.any
  have c := hj.2.now.cell 0
  simp at c
  exact h.pure ho hown rfl hg (v := .string y.nm) (by simp only [execOp, hop, v9]; first | go_simp | simp [go_sem, c]) rfl
theorem wcOp5 (hR : wcRows B b u bx y w0 t) (h : AtC wcOps 47 [5, 6] (wcBase t) (wcVal B b u bx y w0) (wcH B b u bx y w0) l a w) (hn : l.getD 5 true = false) (hd : ∀ o : Oper, wcOps[5]? = some o → ∀ e ∈ o.after.toList, Region.binds .any e = true → l.getD e.on false = true) : wpOp Tryz.prog wcOps Q 5 (AtC wcOps 47 [5, 6] (wcBase t) (wcVal B b u bx y w0) (wcH B b u bx y w0) (l.setIfInBounds 5 true)) a w := by
  have hown : ownAt wcOps 47 (wcBase t) 5 11 := ownAt_of (by kernel_rfl) rfl
  obtain ⟨o, ho⟩ : ∃ o, wcOps[5]? = some o := Option.isSome_iff_exists.1 (by kernel_rfl)
  have hop : o.op = Op.call { callee := Callee.value (Operand.func 40), args := #[Operand.const (Value.string { data := #[] }), Operand.tmp 10], argTypes := #[9, 9] } := op_of ho (by kernel_rfl)
  have hg : o.guard = none := guard_of ho (by kernel_rfl)
  have v10 : a.eval (.tmp 10) = .string y.nm := h.done 4 10 (dep hd 4 (by kernel_rfl)) (by kernel_rfl)
  refine h.call (f := 40) (args := #[.string ⟨#[]⟩, .string y.nm]) (k := 0) ho hown (by decide) rfl (by decide) (fun j hj => ?_) hn hg ?_ (fun hH => (puttEmpty y.nm (by have := hR.hx; omega) w).mono ?_)
  · omega
  · rw [exec_call (enters_of Tryz.func40 (by kernel_rfl) rfl) hop]
    simp only [List.map_toArray, List.map_cons, List.map_nil, v10]
    try rfl
  · rintro e w' ⟨rfl, hb⟩
    have hB := Nat.le_trans hR.hB hH.1.size
    exact .inr ⟨_, rfl, ⟨hH.1.new hR.hB hb, wcKeep B b bx y _ _ hH.2 (hb.mono hB) (oth_below hb)⟩, rfl, fun j v hv => wcMono B b u bx y w0 j v _ _ hv (hb.mono hB) (oth_below hb)⟩
theorem wcOp6 (hR : wcRows B b u bx y w0 t) (h : AtC wcOps 47 [5, 6] (wcBase t) (wcVal B b u bx y w0) (wcH B b u bx y w0) l a w) (hn : l.getD 6 true = false) (hd : ∀ o : Oper, wcOps[6]? = some o → ∀ e ∈ o.after.toList, Region.binds .any e = true → l.getD e.on false = true) : wpOp Tryz.prog wcOps Q 6 (AtC wcOps 47 [5, 6] (wcBase t) (wcVal B b u bx y w0) (wcH B b u bx y w0) (l.setIfInBounds 6 true)) a w := by
  have hown : ownAt wcOps 47 (wcBase t) 6 12 := ownAt_of (by kernel_rfl) rfl
  obtain ⟨o, ho⟩ : ∃ o, wcOps[6]? = some o := Option.isSome_iff_exists.1 (by kernel_rfl)
  have hop : o.op = Op.call { callee := Callee.value (Operand.func 38), args := #[Operand.tmp 8, Operand.tmp 11], argTypes := #[46, 9] } := op_of ho (by kernel_rfl)
  have hg : o.guard = none := guard_of ho (by kernel_rfl)
  have v8 : a.eval (.tmp 8) = .pointer (some ⟨b, 0, none⟩) := h.done 2 8 (dep hd 2 (by kernel_rfl)) (by kernel_rfl)
  have v11 : a.eval (.tmp 11) = .string (xB y.nm ByteArray.empty) := h.done 5 11 (dep hd 5 (by kernel_rfl)) (by kernel_rfl)
  refine h.call (f := 38) (args := #[.pointer (some ⟨b, 0, none⟩), .string (xB y.nm ByteArray.empty)]) (k := 1) ho hown (by decide) rfl (by decide) (fun j hj => ?_) hn hg ?_ (fun hH => (writes (t := u) (s := xB y.nm ByteArray.empty) (by have h1 := hH.1.1; exact h1) (by have := xB_size y.nm ByteArray.empty; have e : ByteArray.empty.size = 0 := rfl; have := hR.hx; have := hR.hz; omega) (Nat.le_trans hR.hB hH.1.size)).mono ?_)
  · obtain rfl : j = 0 := by omega
    exact dep hd 5 (by kernel_rfl)
  · rw [exec_call (enters_of Tryz.func38 (by kernel_rfl) rfl) hop]
    simp only [List.map_toArray, List.map_cons, List.map_nil, v8, v11]
    try rfl
  · rintro e w' ⟨rfl, hws⟩
    exact .inr ⟨_, rfl, ⟨hH.1.then hws, wcKeep B b bx y _ _ hH.2 hws.2.1 hws.2.2⟩, trivial, fun j v hv => wcMono B b u bx y w0 j v _ _ hv hws.2.1 hws.2.2⟩
theorem wcSize : wcOps.size = 7 := by kernel_rfl
theorem wcStep (hR : wcRows B b u bx y w0 t) (l : Array Bool) (a : Act) (w : World) (kk : Nat) (h : AtC wcOps 47 [5, 6] (wcBase t) (wcVal B b u bx y w0) (wcH B b u bx y w0) l a w) (hi : kk < wcOps.size) (hn : l.getD kk true = false) (hd : ∀ o : Oper, wcOps[kk]? = some o → ∀ e ∈ o.after.toList, Region.binds .any e = true → l.getD e.on false = true) : wpOp Tryz.prog wcOps Q kk (AtC wcOps 47 [5, 6] (wcBase t) (wcVal B b u bx y w0) (wcH B b u bx y w0) (l.setIfInBounds kk true)) a w := by
  rw [wcSize] at hi
  match kk, hi, hn, hd with
  | 0, _, hn, hd => exact wcOp0 hR h hn hd
  | 1, _, hn, hd => exact wcOp1 hR h hn hd
  | 2, _, hn, hd => exact wcOp2 hR h hn hd
  | 3, _, hn, hd => exact wcOp3 hR h hn hd
  | 4, _, hn, hd => exact wcOp4 hR h hn hd
  | 5, _, hn, hd => exact wcOp5 hR h hn hd
  | 6, _, hn, hd => exact wcOp6 hR h hn hd
  | k + 7, hi, _, _ => omega
theorem wcReg (hR : wcRows B b u bx y w0 t) (h0 : Wr B b u w0) (hI : wcI B b bx y w0) (fin : ∀ (v : Nat → Value) (w : World), WS B b (u ++ xB y.nm ByteArray.empty) w0 w → wcI B b bx y w → Q .normal ⟨#[t 0, t 1, t 2, t 3, t 4, t 5, v 6, v 7, v 8, v 9, v 10, v 11, v 12, t 13, t 14, t 15, t 16, t 17, t 18, t 19, t 20, t 21, t 22, t 23, t 24, t 25, t 26, t 27, t 28, t 29, t 30, t 31, t 32, t 33, t 34, t 35, t 36, t 37, t 38, t 39, t 40, t 41, t 42, t 43, t 44, t 45, t 46], []⟩ w) : (Code.region 1 wcOps true).wp Tryz.prog Q ⟨((List.range 47).map t).toArray, []⟩ w0 := by
  refine region_allC (n := 47) (cs := [5, 6]) (base := wcBase t) (val := wcVal B b u bx y w0) (H := wcH B b u bx y w0) (by kernel_rfl) (earlier_of (by kernel_rfl)) ?start (fun l a w i h hi hn hd => wcStep hR l a w i h hi hn hd) ?fin
  case start =>
    refine AtC.begins (by simp) rfl ⟨⟨h0, (Below.refl _ _).drew, (Lib.OthersKept.refl _ _ _).drew⟩, wcKeep B b bx y _ _ hI (Below.refl _ _).drew (Lib.OthersKept.refl _ _ _).drew⟩ fun s v hs => ?_
    unfold wcBase at hs
    split at hs
    · rename_i hs1
      cases hs
      exact row_getC t 47 s (free_ltC (free := wcFree) (by kernel_rfl) hs1)
    · cases hs
  case fin =>
    intro l a w h hall
    have hH := h.last (fun i hi => hall _ (by
      have hi2 : i = 0 ∨ i = 1 := by simp at hi; omega
      rw [wcSize]
      rcases hi2 with rfl | rfl <;> decide))
    obtain ⟨tm, df⟩ := a
    have hdf : df = [] := h.defers
    have hsz : tm.size = 47 := h.tmps
    have hfx : ∀ s, wcFree.contains s = true → tm.getD s undef = t s := fun s hs => h.fixed s (t s) (by unfold wcBase; rw [if_pos hs])
    obtain ⟨v2, hv2⟩ : ∃ v2 : Nat → Value, ∀ s, tm.getD s undef = v2 s := ⟨_, fun _ => rfl⟩
    have e := slots_free tm 47 hsz wcFree t v2 hfx hv2
    have e2 : tm = #[t 0, t 1, t 2, t 3, t 4, t 5, v2 6, v2 7, v2 8, v2 9, v2 10, v2 11, v2 12, t 13, t 14, t 15, t 16, t 17, t 18, t 19, t 20, t 21, t 22, t 23, t 24, t 25, t 26, t 27, t 28, t 29, t 30, t 31, t 32, t 33, t 34, t 35, t 36, t 37, t 38, t 39, t 40, t 41, t 42, t 43, t 44, t 45, t 46] := e.trans (by kernel_rfl)
    subst e2 hdf
    exact fin v2 w (by have h1 := hH.1; exact h1) hH.2
end
end Go.Proofs.YtbeaaieaffdgeaaGreatDoor
end
/- The program's writer: numbers, signed ones, an operation. -/
section
namespace Go.Proofs.YtbeaaieaffdgeaaGreatDoor
open Go.RowKit
set_option linter.unusedVariables false
set_option linter.unusedSimpArgs false

theorem many_one {α : Type} (e : α → ByteArray → ByteArray) (x : α) (t : ByteArray) : many e [x] t = e x t := rfl
theorem truth_any (x : Bool) (w : World) : Calls Tryz.prog 62 #[.bool x] w fun e w' => e = .returned (.int .i64 (flagI x)) ∧ w = w' := by
  cases x
  all_goals
    go_enter Tryz.func62, Tryz.ntmps62
    go_wp2
    go_ret
    exact ⟨rfl, rfl⟩
/-- A literal row of ints. -/
theorem lit_kq (w : World) {B b : Nat} (T : List Int) (n : Nat) (hn : T.length = n) (hl : n ≤ 1000) (hb : b < w.heap.size) : Kq B b (fun W => IsL W (some ⟨w.heap.size, 0, none⟩) n T) (w.alloc (.cells (T.map (Value.int .i64)).toArray 3)) := by
  intro W hB ho
  have h1 := ho w.heap.size _ (heap_alloc_new w (.cells (T.map (Value.int .i64)).toArray 3)) (fun e => by have := Option.some.inj e; omega) (fun c fz e => by injection e with _ e2 _; revert e2; decide)
  subst hn
  refine ⟨Nat.le_refl _, by omega, .inr ⟨w.heap.size, 0, rfl, (Array.getElem?_eq_some_iff.1 h1).1, fun j hj => ?_⟩⟩
  rw [Nat.zero_add, World.cell?_of_block (w := w.alloc (.cells (T.map (Value.int .i64)).toArray 3)) (h1.trans (heap_alloc_new w _).symm), World.cell?_alloc_new]
  simp [hj]
set_option maxRecDepth 100000 in
set_option maxHeartbeats 4000000 in
theorem nums_any {B b : Nat} {u : ByteArray} {T : List Int} (hT : ∀ i ∈ T, Nn i) {a : Option Addr} {c : Nat} {w : World} (h : Wr B b u w) (hl : Kq B b (fun W => IsL W a c T) w) (hB : B ≤ w.heap.size) (hz : u.size + 9 * T.length ≤ 70368744177664) :
    Calls Tryz.prog 14 #[.pointer (some ⟨b, 0, none⟩), .slice a T.length c] w fun e w' => e = .returned (.tuple #[]) ∧ WS B b (u ++ many nB T ByteArray.empty) w w' := by
  obtain ⟨n, hn⟩ : ∃ n, T.length = n := ⟨_, rfl⟩
  have HN := Lib.hid hn
  have HT := Lib.hid hT
  have HW0 := Lib.hid h
  have HL := Lib.hid hl
  have hlc := hl.now.1
  have hcm := hl.now.2.1
  rw [hn] at hlc hz
  rw [hn]
  clear hn hT h hl
  go_enter Tryz.func14, Tryz.ntmps14
  go_wp2_with fail
  go_loopw [8] (fun q wr => ∃ k : Nat, q = .int .i64 (k : Int) ∧ k ≤ n ∧ WS B b (u ++ many nB (T.take k) ByteArray.empty) w wr) (fun q _ => n - (intOf q).toNat)
  case atStart => exact ⟨0, rfl, Nat.zero_le _, (show u ++ many nB (T.take 0) ByteArray.empty = u by simp [many]).symm ▸ WS.refl HW0.out⟩
  case round =>
    obtain ⟨k, rfl, hk, hws⟩ := hrel
    have HW := Lib.hid hws
    clear hws
    by_cases hlt : k < n
    · obtain ⟨bb, off, x, hx, hta, x0⟩ := (HL.out.next HW.out.2.1 HW.out.2.2).now.at k (by rw [HN.out]; exact hlt)
      have HX := Lib.hid (show Nn x from by rw [hx]; exact HT.out _ (List.getElem_mem _))
      have HNx := Lib.hid (show u ++ many nB (T.take k) ByteArray.empty ++ nB x ByteArray.empty = u ++ many nB (T.take (k + 1)) ByteArray.empty by
        rw [List.take_succ_eq_append_getElem (show k < T.length by rw [HN.out]; exact hlt), many_snoc nB_fore, ← hx, ByteArray.append_assoc])
      have HZ := Lib.hid (show (u ++ many nB (T.take k) ByteArray.empty).size + 2000 ≤ 140737488355328 by
        have h1 := many_size 9 (T.take k) (fun i _ t => nB_size i t) ByteArray.empty
        have h2 : (T.take k).length ≤ n := by rw [List.length_take]; omega
        have h3 : ByteArray.empty.size = 0 := rfl
        rw [ByteArray.size_append]
        omega)
      clear hx
      rw [hta] at *
      go_wp2_with fail
      rename_i KK hKK
      refine wp_slotsC 20 rfl ?_
      intro t ht
      have HRo := Lib.hid (show wnRows B b (u ++ many nB (T.take k) ByteArray.empty) x wr t from ⟨by rw [ht]; rfl, by rw [ht]; rfl, HX.out, HZ.out, Nat.le_trans hB HW.out.size⟩)
      refine wnReg HRo.out HW.out.1 trivial ?_
      intro v2 w2 hw2 _
      have HW2 := Lib.hid (HW.out.then hw2)
      rw [HNx.out] at HW2
      clear hw2
      refine hKK _ _ ?_
      have e8 : t 8 = .int .i64 (k : Int) := by rw [ht]; rfl
      rw [e8]
      go_wp2_with fail
      refine ⟨⟨t 5, .int .i64 ((k : Int) + 1), t 9, t 10, t 11, v2 12, v2 13, v2 14, v2 15, v2 16, v2 17, v2 18, .int .i64 ((k : Int) + 1), ⟨k + 1, by go_num, by omega, HW2.out⟩, by subst ht; kernel_rfl⟩, ?measure⟩
      case measure => simp [intOf]; omega
    · have HE := Lib.hid (show WS B b (u ++ many nB T ByteArray.empty) w wr by
        have h1 := HW.out
        rw [List.take_of_length_le (by rw [HN.out]; omega)] at h1
        exact h1)
      go_wp2_with fail
      go_end0
      exact ⟨rfl, HE.out⟩
set_option maxRecDepth 100000 in
set_option maxHeartbeats 4000000 in
theorem ints_any {B b : Nat} {u : ByteArray} {T : List Int} (hT : ∀ i ∈ T, In64 i) {a : Option Addr} {c : Nat} {w : World} (h : Wr B b u w) (hl : Kq B b (fun W => IsL W a c T) w) (hB : B ≤ w.heap.size) (hz : u.size + 9 * T.length ≤ 70368744177664) :
    Calls Tryz.prog 83 #[.pointer (some ⟨b, 0, none⟩), .slice a T.length c] w fun e w' => e = .returned (.tuple #[]) ∧ WS B b (u ++ many sB T ByteArray.empty) w w' := by
  obtain ⟨n, hn⟩ : ∃ n, T.length = n := ⟨_, rfl⟩
  have HN := Lib.hid hn
  have HT := Lib.hid hT
  have HW0 := Lib.hid h
  have HL := Lib.hid hl
  have hlc := hl.now.1
  have hcm := hl.now.2.1
  rw [hn] at hlc hz
  rw [hn]
  clear hn hT h hl
  go_enter Tryz.func83, Tryz.ntmps83
  go_wp2_with fail
  go_loopw [8] (fun q wr => ∃ k : Nat, q = .int .i64 (k : Int) ∧ k ≤ n ∧ WS B b (u ++ many sB (T.take k) ByteArray.empty) w wr) (fun q _ => n - (intOf q).toNat)
  case atStart => exact ⟨0, rfl, Nat.zero_le _, (show u ++ many sB (T.take 0) ByteArray.empty = u by simp [many]).symm ▸ WS.refl HW0.out⟩
  case round =>
    obtain ⟨k, rfl, hk, hws⟩ := hrel
    have HW := Lib.hid hws
    clear hws
    by_cases hlt : k < n
    · obtain ⟨bb, off, x, hx, hta, x0⟩ := (HL.out.next HW.out.2.1 HW.out.2.2).now.at k (by rw [HN.out]; exact hlt)
      have HX := Lib.hid (show In64 x from by rw [hx]; exact HT.out _ (List.getElem_mem _))
      have HNx := Lib.hid (show u ++ many sB (T.take k) ByteArray.empty ++ sB x ByteArray.empty = u ++ many sB (T.take (k + 1)) ByteArray.empty by
        rw [List.take_succ_eq_append_getElem (show k < T.length by rw [HN.out]; exact hlt), many_snoc sB_fore, ← hx, ByteArray.append_assoc])
      have HZ := Lib.hid (show (u ++ many sB (T.take k) ByteArray.empty).size + 2000 ≤ 140737488355328 by
        have h1 := many_size 9 (T.take k) (fun i _ t => sB_size i t) ByteArray.empty
        have h2 : (T.take k).length ≤ n := by rw [List.length_take]; omega
        have h3 : ByteArray.empty.size = 0 := rfl
        rw [ByteArray.size_append]
        omega)
      clear hx
      rw [hta] at *
      go_wp2_with fail
      rename_i KK hKK
      refine wp_slotsC 19 rfl ?_
      intro t ht
      have HRo := Lib.hid (show wiRows B b (u ++ many sB (T.take k) ByteArray.empty) x wr t from ⟨by rw [ht]; rfl, by rw [ht]; rfl, HX.out, HZ.out, Nat.le_trans hB HW.out.size⟩)
      refine wiReg HRo.out HW.out.1 trivial ?_
      intro v2 w2 hw2 _
      have HW2 := Lib.hid (HW.out.then hw2)
      rw [HNx.out] at HW2
      clear hw2
      refine hKK _ _ ?_
      have e8 : t 8 = .int .i64 (k : Int) := by rw [ht]; rfl
      rw [e8]
      go_wp2_with fail
      refine ⟨⟨t 5, .int .i64 ((k : Int) + 1), t 9, t 10, t 11, v2 12, v2 13, v2 14, v2 15, v2 16, v2 17, .int .i64 ((k : Int) + 1), ⟨k + 1, by go_num, by omega, HW2.out⟩, by subst ht; kernel_rfl⟩, ?measure⟩
      case measure => simp [intOf]; omega
    · have HE := Lib.hid (show WS B b (u ++ many sB T ByteArray.empty) w wr by
        have h1 := HW.out
        rw [List.take_of_length_le (by rw [HN.out]; omega)] at h1
        exact h1)
      go_wp2_with fail
      go_end0
      exact ⟨rfl, HE.out⟩
set_option maxRecDepth 100000 in
set_option maxHeartbeats 2000000 in
theorem operation_any {B b : Nat} {u : ByteArray} {op p q : Int} (ho : Nn op) (hp : In64 p) (hq : In64 q) {w : World} (h : Wr B b u w) (hB : B ≤ w.heap.size) (hz : u.size + 100 ≤ 70368744177664) :
    Calls Tryz.prog 63 #[.pointer (some ⟨b, 0, none⟩), .int .i64 op, .int .i64 p, .int .i64 q] w fun e w' => e = .returned (.tuple #[]) ∧ WS B b (u ++ nB op (sB p (sB q ByteArray.empty))) w w' := by
  have HW := Lib.hid h
  have hblt := h.lt
  clear h
  go_enter Tryz.func63, Tryz.ntmps63
  go_wp2_with fail
  have hb1 := below_alloc1 w (.cells #[.int .i64 op] 3)
  have HK1 := Lib.hid (lit_kq (B := B) w [op] 1 rfl (by omega) hblt)
  have HS1 := Lib.hid ((WS.refl HW.out).new hB hb1)
  clear hb1
  generalize hw1 : w.alloc (.cells #[.int .i64 op] 3) = w1 at *
  refine (nums_any (T := [op]) (fun i hi => by rw [List.mem_singleton.1 hi]; exact ho) HS1.out.1 (by first | exact HK1.out | (have := HK1.out; simp at this; rw [hw1] at this; exact this)) (Nat.le_trans hB HS1.out.size) (by simp; omega)).mono ?_
  rintro e w2 ⟨rfl, h2⟩
  have HS2 := Lib.hid (HS1.out.then h2)
  clear h2 HK1
  have hz2 := nB_size' op
  go_wp2_with fail
  have hb3 := below_alloc1 w2 (.cells #[.int .i64 p, .int .i64 q] 3)
  have HK3 := Lib.hid (lit_kq (B := B) w2 [p, q] 2 rfl (by omega) HS2.out.1.lt)
  have HS3 := Lib.hid (HS2.out.new hB hb3)
  clear hb3
  refine (ints_any (T := [p, q]) (fun i hi => by simp at hi; rcases hi with rfl | rfl <;> assumption) HS3.out.1 HK3.out (Nat.le_trans hB HS3.out.size) (by rw [ByteArray.size_append, many_one]; simp; omega)).mono ?_
  rintro e w4 ⟨rfl, h4⟩
  have HS4 := Lib.hid (HS3.out.then h4)
  clear h4
  have HE := Lib.hid (show u ++ many nB [op] ByteArray.empty ++ many sB [p, q] ByteArray.empty = u ++ nB op (sB p (sB q ByteArray.empty)) by
    rw [ByteArray.append_assoc]
    congr 1
    rw [many_one, many_cons, many_one, ← nB_fore])
  rw [HE.out] at HS4
  go_wp2_with fail
  go_end0
  exact ⟨rfl, HS4.out⟩
end Go.Proofs.YtbeaaieaffdgeaaGreatDoor
end
