/- Texts that belong together: PoolO, PoolOv, RegV, RegVs, RegVx, RegC. -/
import Derived.Test.YtbeaaieaffdgeaaDoorMd
import Derived.Test.YtbeaaieaffdgeaaDoorMh
/- What reads so as long as rows of some types stand, whatever becomes of the reader; lists that are read one by one. -/
section
namespace Go.Proofs.YtbeaaieaffdgeaaDoor
open Go.RowKit
set_option linter.unusedVariables false
set_option linter.unusedSimpArgs false

def Kd (S : List TypeId) (rb : Nat) (R : World → Prop) (w : World) : Prop :=
  ∀ W : World, w.heap.size ≤ W.heap.size → (∀ k c e fz, w.heap[k]? = some (.cells c e fz) → S.contains e = true → k ≠ rb → W.heap[k]? = w.heap[k]?) → R W
theorem Kd.now {S : List TypeId} {rb : Nat} {R : World → Prop} {w : World} (h : Kd S rb R w) : R w := h w (Nat.le_refl _) fun _ _ _ _ _ _ _ => rfl
theorem Kd.next {S : List TypeId} {rb : Nat} {R : World → Prop} {w w' : World} (h : Kd S rb R w) (hs : w.heap.size ≤ w'.heap.size) (hk : ∀ k c e fz, w.heap[k]? = some (.cells c e fz) → S.contains e = true → k ≠ rb → w'.heap[k]? = w.heap[k]?) : Kd S rb R w' :=
  fun W h1 h2 => h W (Nat.le_trans hs h1) fun k c e fz hc he hne => (h2 k c e fz ((hk k c e fz hc he hne).trans hc) he hne).trans (hk k c e fz hc he hne)
theorem Kd.read {S : List TypeId} {rb : Nat} {R : World → Prop} {w w' : World} (h : Kd S rb R w) (g : w.grownBy w' (some rb)) : Kd S rb R w' :=
  h.next g.size fun k c e fz hc he hne => g.block k (Array.getElem?_eq_some_iff.1 hc).1 (fun q => hne (Option.some.inj q))
theorem Kd.below {S : List TypeId} {rb : Nat} {R : World → Prop} {w w' : World} (h : Kd S rb R w) (g : Below w.heap.size w w') : Kd S rb R w' :=
  h.next g.size fun k c e fz hc he hne => g.block k (Array.getElem?_eq_some_iff.1 hc).1
/-- A row of another type is written. -/
theorem Kd.row {S : List TypeId} {rb : Nat} {R : World → Prop} {w w' : World} {row : Option Nat} {E : TypeId} (h : Kd S rb R w) (g : w.grownBy w' row) (hE : S.contains E = false) (hr : ∀ k, row = some k → ∃ c fz, w.heap[k]? = some (.cells c E fz)) : Kd S rb R w' :=
  h.next g.size fun k c e fz hc he hne => g.block k (Array.getElem?_eq_some_iff.1 hc).1 (fun q => by
    obtain ⟨c', fz', h'⟩ := hr k q.symm
    rw [hc] at h'
    injection h' with h'
    injection h' with _ h2 _
    rw [h2, hE] at he
    cases he)
theorem Kd.more {S S' : List TypeId} {rb : Nat} {R : World → Prop} {w : World} (h : Kd S rb R w) (hS : ∀ e, S.contains e = true → S'.contains e = true) : Kd S' rb R w :=
  fun W h1 h2 => h W h1 fun k c e fz hc he hne => h2 k c e fz hc (hS e he) hne
theorem Kd.map {S : List TypeId} {rb : Nat} {R R' : World → Prop} {w : World} (h : Kd S rb R w) (hR : ∀ W, R W → R' W) : Kd S rb R' w := fun W h1 h2 => hR W (h W h1 h2)
theorem Kd.two {S : List TypeId} {rb : Nat} {R R' : World → Prop} {w : World} (h : Kd S rb R w) (k : Kd S rb R' w) : Kd S rb (fun W => R W ∧ R' W) w := fun W h1 h2 => ⟨h W h1 h2, k W h1 h2⟩
theorem Kd.triv (S : List TypeId) (rb : Nat) (w : World) : Kd S rb (fun _ => True) w := fun _ _ _ => trivial
theorem ownsRow_kind {w : World} {B e size : Nat} {v : Value} {n : Nat} {xs : List Value} (h : w.ownsRow B e size v n xs) : ∀ g, v.ownBlock = some g → ∃ c fz, w.heap[g]? = some (.cells c e fz) := by
  intro g hg
  rcases h.2 with ⟨rfl, _⟩ | ⟨g', cap, cur, rfl, _, hgg, _⟩
  · simp [Value.ownBlock] at hg
  · simp [Value.ownBlock] at hg
    subst hg
    exact ⟨cur, _, hgg⟩
/-- An owned row is a slice that reads so. -/
theorem own_kd {w : World} {B e size : Nat} {v : Value} {n : Nat} {xs : List Value} {rb : Nat} (h : w.ownsRow B e size v n xs) (hB : rb < B) : ∃ a c, v = .slice a n c ∧ Kd [e] rb (fun W => Row W a c size n xs) w := by
  have h' := h
  obtain ⟨h1, h2⟩ := h
  rcases h2 with ⟨rfl, h2⟩ | ⟨g, c, cur, rfl, hg, hh, hc, hm, _⟩
  · rw [h2]
    exact ⟨none, 0, rfl, fun W _ _ => ⟨by omega, by omega, .inl rfl⟩⟩
  · unfold maxLen at hm
    refine ⟨_, c, rfl, fun W hs hk => ⟨hc, hm, .inr ⟨g, 0, rfl, Nat.lt_of_lt_of_le (Array.getElem?_eq_some_iff.1 hh).1 hs, fun i hi => ?_⟩⟩⟩
    rw [Nat.zero_add, World.cell?_of_block (w := w) (hk g _ _ _ hh (by simp) (by omega)), h'.cellAt i (by omega)]
theorem own_read {w w' : World} {base e size n b : Nat} {v : Value} {xs : List Value} (h : w.ownsRow base e size v n xs) (g : w.grownBy w' (some b)) (hb : b < base) : w'.ownsRow base e size v n xs := by
  refine h.kept g ?_
  rcases h.2 with ⟨rfl, _⟩ | ⟨g', cap, cur, rfl, hg, _⟩
  · exact .inl rfl
  · exact .inr (fun e => by have : g' = b := Option.some.inj e; omega)
/-- What a value is that was read: an element that reads so, told without its addresses. -/
def VV {α : Type} (g : α → α) (val : α → Value) (C : α → Prop) (S : List TypeId) (R : α → World → Prop) (rb : Nat) (x : α) (v : Value) (w : World) : Prop := ∃ y, g y = x ∧ v = val y ∧ C y ∧ Kd S rb (R y) w
/-- So many are read; so many are left to be read. -/
def Part {α : Type} (f : Tk α) (n : Nat) (s0 : ByteArray) (i : Nat) (l : List α) (s : ByteArray) : Prop :=
  (pRep f (n - i) s = none → pRep f n s0 = none) ∧ ∀ r t, pRep f (n - i) s = some (r, t) → pRep f n s0 = some (l ++ r, t)
theorem Part.start {α : Type} (f : Tk α) (n : Nat) (s : ByteArray) : Part f n s 0 [] s := ⟨fun h => h, fun r t h => h⟩
theorem pRep_none {α : Type} {f : Tk α} {s : ByteArray} (h : f s = none) (k : Nat) : pRep f (k + 1) s = none := then_none h
theorem pRep_some {α : Type} {f : Tk α} {s t : ByteArray} {x : α} (h : f s = some (x, t)) (k : Nat) : pRep f (k + 1) s = (pRep f k t).map fun p => (x :: p.1, p.2) := by
  show (f.then fun x => (pRep f k).then fun l => Tk.give (x :: l)) s = _
  rw [then_of h]
  show ((pRep f k).then fun l => Tk.give (x :: l)) t = _
  cases hq : pRep f k t with
  | none => rw [then_none hq]; rfl
  | some p =>
    obtain ⟨l, u⟩ := p
    rw [then_of hq]
    rfl
theorem Part.fails {α : Type} {f : Tk α} {n : Nat} {s0 s : ByteArray} {i : Nat} {l : List α} (h : Part f n s0 i l s) (hi : i < n) (hf : f s = none) : pRep f n s0 = none :=
  h.1 (by rw [show n - i = (n - (i + 1)) + 1 by omega]; exact pRep_none hf _)
theorem Part.step {α : Type} {f : Tk α} {n : Nat} {s0 s t : ByteArray} {i : Nat} {l : List α} {x : α} (h : Part f n s0 i l s) (hi : i < n) (hf : f s = some (x, t)) : Part f n s0 (i + 1) (l ++ [x]) t := by
  have e : pRep f (n - i) s = (pRep f (n - (i + 1)) t).map fun p => (x :: p.1, p.2) := by
    rw [show n - i = (n - (i + 1)) + 1 by omega]; exact pRep_some hf _
  refine ⟨fun hn => h.1 (by rw [e, hn]; rfl), fun r u hr => ?_⟩
  rw [h.2 (x :: r) u (by rw [e, hr]; rfl)]
  simp
theorem Part.ends {α : Type} {f : Tk α} {n : Nat} {s0 s : ByteArray} {l : List α} (h : Part f n s0 n l s) : pRep f n s0 = some (l, s) := by
  have := h.2 [] s (by rw [Nat.sub_self]; rfl)
  simpa using this
theorem pList_of {α : Type} {m : Nat} {f : Tk α} {s t : ByteArray} {n : Int} (h : pUp m s = some (n, t)) : pList m f s = pRep f n.toNat t := then_of h
theorem pUp_nat {m : Nat} {s t : ByteArray} {i : Int} (h : pUp m s = some (i, t)) : ∃ n : Nat, i = (n : Int) ∧ n ≤ m := by
  obtain ⟨_, h0, h1⟩ := row_up m s i t h
  exact ⟨i.toNat, by omega, by omega⟩
theorem grown_own {w w4 w5 : World} {o : Obj} {sv : Value} {rb e size n : Nat} {xs : List Value} (h : w.grownBy w4 (some rb)) (hown : (w4.alloc o).ownsRow w.heap.size e size sv n xs) (hg : (w4.alloc o).grownBy w5 sv.ownBlock) : w.grownBy w5 (some rb) :=
  have h4 := grown_new h o
  ⟨hg.os.trans h4.os, hg.tape.trans h4.tape, hg.output.trans h4.output, Nat.le_trans h4.size hg.size, fun k hk hne => (hg.block k (Nat.lt_of_lt_of_le hk h4.size) (fun q => by have := (hown.lt k q.symm).1; omega)).trans (h4.block k hk hne)⟩
theorem rd_own {w4 w5 : World} {o : Obj} {sv : Value} {B rb e size n : Nat} {xs : List Value} {u : ByteArray} (h : Rd1 rb u w4) (hown : (w4.alloc o).ownsRow B e size sv n xs) (hg : (w4.alloc o).grownBy w5 sv.ownBlock) (hrb : rb < B) : Rd1 rb u w5 :=
  (hg.block rb (h.alloc o).lt (fun q => by have := (hown.lt rb q.symm).1; omega)).trans (h.alloc o)
theorem kd_own {w4 w5 : World} {o : Obj} {sv : Value} {S : List TypeId} {R : World → Prop} {B rb e size n : Nat} {xs : List Value} (h : Kd S rb R w4) (hown : (w4.alloc o).ownsRow B e size sv n xs) (hg : (w4.alloc o).grownBy w5 sv.ownBlock) (hE : S.contains e = false) : Kd S rb R w5 :=
  (h.below (below_alloc1 w4 o)).row hg hE (ownsRow_kind hown)
end Go.Proofs.YtbeaaieaffdgeaaDoor
end
/- The kinds of what is read in lists. -/
section
namespace Go.Proofs.YtbeaaieaffdgeaaDoor
open Go.RowKit
set_option linter.unusedVariables false
set_option linter.unusedSimpArgs false

/-- A kind of element: told without its addresses; as a value; what it keeps; the types of the rows on which it hangs; what it reads as. -/
structure Kind (α : Type) where
  g : α → α
  val : α → Value
  C : α → Prop
  S : List TypeId
  R : α → World → Prop
abbrev vI : Kind Int := ⟨id, .int .i64, fun _ => True, [], fun _ _ => True⟩
abbrev vN : Kind Ins := ⟨id, fun y => .agg #[.int .i64 y.op, .int .i64 y.a, .int .i64 y.b], fun _ => True, [], fun _ _ => True⟩
abbrev vA : Kind AbT := ⟨bareA, fun y => .agg #[.int .i64 y.1.k, .int .i64 y.1.ev, .int .i64 y.1.wh, .int .i64 y.1.c0, .int .i64 y.1.c1, .int .i64 y.1.c2, .int .i64 y.1.c3, .bool y.1.tap, .slice y.1.ta y.1.tn y.1.tc, .slice y.1.ca y.1.cn y.1.cc, .int .i64 y.1.op, .int .i64 y.1.a, .int .i64 y.1.b], fun _ => True, [3, 42], fun y W => AbR W y.1 y.2.1 y.2.2⟩
abbrev vC : Kind CdT := ⟨bareC, fun y => .agg #[.string y.1.nm, .int .i64 y.1.k, .int .i64 y.1.c0, .int .i64 y.1.c1, .int .i64 y.1.c2, .int .i64 y.1.c3, .int .i64 y.1.col, .int .i64 y.1.pow, .int .i64 y.1.tou, .int .i64 y.1.keys, .slice y.1.aa y.1.an y.1.ac], fun y => CdOk y.1, [3, 42, 45], fun y W => CdR W y.1 y.2⟩
theorem infoI : (Tryd.prog.info? 3).map (fun i => (i.zero, i.size, i.bytes)) = some (some (.int .i64 0), 1, 8) := by kernel_rfl
theorem infoN : (Tryd.prog.info? 42).map (fun i => (i.zero, i.size, i.bytes)) = some (some (.agg #[.int .i64 0, .int .i64 0, .int .i64 0]), 3, 24) := by kernel_rfl
theorem infoA : (Tryd.prog.info? 45).map (fun i => (i.zero, i.size, i.bytes)) = some (some (.agg #[.int .i64 0, .int .i64 0, .int .i64 0, .int .i64 0, .int .i64 0, .int .i64 0, .int .i64 0, .bool false, .slice none 0 0, .slice none 0 0, .int .i64 0, .int .i64 0, .int .i64 0]), 13, 136) := by kernel_rfl
theorem infoC : (Tryd.prog.info? 39).map (fun i => (i.zero, i.size, i.bytes)) = some (some (.agg #[.string ⟨#[]⟩, .int .i64 0, .int .i64 0, .int .i64 0, .int .i64 0, .int .i64 0, .int .i64 0, .int .i64 0, .int .i64 0, .int .i64 0, .slice none 0 0]), 11, 112) := by kernel_rfl
theorem abRow_snoc (A : List AbT) (t : AbT) : abRow (A ++ [t]) = abRow A ++ abCells t.1 := by simp [abRow]
theorem cdRow_snoc (A : List CdT) (t : CdT) : cdRow (A ++ [t]) = cdRow A ++ cdCells t.1 := by simp [cdRow]
/-- A list that was read. -/
def VL {α : Type} (V : Kind α) (e : TypeId) (size : Nat) (rw : List α → List Value) (rb : Nat) (l : List α) (v : Value) (w : World) : Prop :=
  ∃ M a c, M.map V.g = l ∧ v = .slice a M.length c ∧ (∀ y ∈ M, V.C y) ∧ Kd (e :: V.S) rb (fun W => Row W a c size M.length (rw M) ∧ ∀ y ∈ M, V.R y W) w
theorem VL.of {α : Type} {V : Kind α} {e size rb : Nat} {rw : List α → List Value} {w : World} {B : Nat} {v : Value} {M : List α} (h : w.ownsRow B e size v M.length (rw M)) (hB : rb < B) (hM : ∀ y ∈ M, V.C y ∧ Kd V.S rb (V.R y) w) : VL V e size rw rb (M.map V.g) v w := by
  obtain ⟨a, c, e1, hk⟩ := own_kd h hB
  refine ⟨M, a, c, rfl, e1, fun y hy => (hM y hy).1, ?_⟩
  refine (hk.more (S' := e :: V.S) (fun e' he' => ?_)).two (fun W h1 h2 y hy => (hM y hy).2 W h1 (fun k c e' fz hc he' hne => h2 k c e' fz hc ?_ hne))
  · rw [List.contains_cons, Bool.or_eq_true]
    left
    simpa using he'
  · rw [List.contains_cons, he', Bool.or_true]
end Go.Proofs.YtbeaaieaffdgeaaDoor
end
/- A region that draws its order, proved by what each slot holds once its operation is done: whatever the order, each operation is met once. No program. -/
section
namespace Go.Proofs.YtbeaaieaffdgeaaDoor
open Go.RowKit
set_option linter.unusedVariables false

theorem range_split (i m : Nat) : List.range (i + (1 + m)) = List.range i ++ i :: (List.range m).map (fun j => i + (1 + j)) := by
  rw [List.range_add, List.range_add, List.map_append, List.map_map]
  simp [List.range_succ]
/-- What is known of a slot: its value; that it is a slice that reads as a list; nothing. -/
inductive Cl where
  | val (v : Value)
  | lst (L : List Int)
  | any
def Cl.ok (c : Cl) (v : Value) (w : World) : Prop :=
  match c with
  | .val u => v = u
  | .lst L => ∃ a k, v = .slice a L.length k ∧ IsL w a k L
  | .any => True
theorem Cl.ok.next {c : Cl} {v : Value} {w w' : World} (h : c.ok v w) (k : Below w.heap.size w w') : c.ok v w' := by
  cases c with
  | val u => exact h
  | lst L => obtain ⟨a, n, e, hl⟩ := h; exact ⟨a, n, e, hl.next k⟩
  | any => trivial

/-- How many operations are not done. -/
def undone (n : Nat) (listed : Array Bool) : Nat := ((List.range n).filter fun i => !listed.getD i true).length
theorem getD_set (listed : Array Bool) (i j : Nat) (b : Bool) (hij : j ≠ i) : (listed.setIfInBounds i true).getD j b = listed.getD j b := by
  simp only [Array.getD_eq_getD_getElem?, Array.getElem?_setIfInBounds]
  rw [if_neg (fun e => hij e.symm)]
theorem getD_set_same (listed : Array Bool) (i : Nat) (b : Bool) (hi : i < listed.size) : (listed.setIfInBounds i true).getD i b = true := by
  simp only [Array.getD_eq_getD_getElem?, Array.getElem?_setIfInBounds, if_pos hi, if_true]
  rfl
theorem undone_set (n i : Nat) (listed : Array Bool) (hn : i < n) (hs : listed.size = n) (h : listed.getD i true = false) : undone n (listed.setIfInBounds i true) < undone n listed := by
  unfold undone
  obtain ⟨m, rfl⟩ : ∃ m, n = i + (1 + m) := ⟨n - i - 1, by omega⟩
  have e1 : ((List.range i).filter fun j => !(listed.setIfInBounds i true).getD j true) = (List.range i).filter fun j => !listed.getD j true := List.filter_congr fun j hj => by
    rw [getD_set _ _ _ _ (by have := List.mem_range.1 hj; omega)]
  have e2 : (((List.range m).map (fun j => i + (1 + j))).filter fun j => !(listed.setIfInBounds i true).getD j true) = ((List.range m).map (fun j => i + (1 + j))).filter fun j => !listed.getD j true := List.filter_congr fun j hj => by
    obtain ⟨k, _, rfl⟩ := List.mem_map.1 hj
    rw [getD_set _ _ _ _ (by omega)]
  rw [range_split, List.filter_append, List.filter_append, List.filter_cons, List.filter_cons, e1, e2, h, getD_set_same _ _ _ (by omega)]
  simp

section
variable {P : Program} {ops : Array Oper} {Q : Exit → Act → World → Prop}

/-- What is asked of one operation that is ready: that it leads to where it is done. -/
theorem ready_spec {listed : Array Bool} {i : Nat} (h : i ∈ Region.ready .any ops listed) : i < ops.size ∧ listed.getD i true = false ∧ ∀ o : Oper, ops[i]? = some o → ∀ e ∈ o.after.toList, Region.binds .any e = true → listed.getD e.on false = true := by
  unfold Region.ready at h
  rw [List.mem_filter, List.mem_range] at h
  obtain ⟨h1, h2⟩ := h
  rw [Bool.and_eq_true] at h2
  refine ⟨h1, by simpa using h2.1, fun o ho e he hb => ?_⟩
  have h3 := h2.2
  rw [ho] at h3
  simp only [Option.map_some, Option.getD_some, Array.all_eq_true_iff_forall_mem] at h3
  have := h3 e (by simpa using he)
  simpa [hb] using this
theorem any_inv (A : Array Bool → Act → World → Prop) (hsz : ∀ l a w, A l a w → l.size = ops.size)
    (step : ∀ l a w i, A l a w → i ∈ Region.ready .any ops l → wpOp P ops Q i (A (l.setIfInBounds i true)) a w)
    (fin : ∀ l a w, A l a w → Region.ready .any ops l = [] → Q .normal a w) :
    ∀ (fuel : Nat) (l : Array Bool) (a : Act) (w : World), undone ops.size l ≤ fuel → A l a w → wpAny P .any ops Q fuel l a w := by
  intro fuel
  induction fuel with
  | zero =>
    intro l a w hu hA
    have h0 : Region.ready .any ops l = [] := by
      unfold Region.ready
      rw [List.filter_eq_nil_iff]
      intro i hi hh
      have : ((List.range ops.size).filter fun i => !l.getD i true) = [] := List.length_eq_zero_iff.1 (Nat.le_zero.1 hu)
      rw [List.filter_eq_nil_iff] at this
      rw [Bool.and_eq_true] at hh
      exact this i hi hh.1
    exact ⟨h0, fin l a w hA h0⟩
  | succ fuel ih =>
    intro l a w hu hA
    refine ⟨fun h0 => fin l a w hA h0, fun i hi => ?_⟩
    have hr := ready_spec hi
    exact wpOp_mono (fun a' w' hA' => ih _ _ _ (by have := undone_set _ i l hr.1 (hsz l a w hA) hr.2.1; omega) hA') (step l a w i hA hi)
/-- If none is ready all are done: each waits for earlier ones alone. -/
theorem all_done (hlt : ∀ (i : Nat) (o : Oper), ops[i]? = some o → ∀ e ∈ o.after.toList, e.on < i) {l : Array Bool} (h0 : Region.ready .any ops l = []) (hs : l.size = ops.size) : ∀ i, i < ops.size → l.getD i false = true := by
  intro i
  induction i using Nat.strongRecOn with
  | ind i ih =>
    intro hi
    cases hb : l.getD i true with
    | true => 
      simp only [Array.getD_eq_getD_getElem?] at hb ⊢
      rw [Array.getElem?_eq_getElem (by omega)] at hb ⊢
      exact hb
    | false =>
      have : i ∈ Region.ready .any ops l := by
        unfold Region.ready
        rw [List.mem_filter, List.mem_range]
        refine ⟨hi, ?_⟩
        rw [hb, Array.getElem?_eq_getElem hi]
        simp only [Bool.not_false, Bool.true_and, Option.map_some, Option.getD_some, Array.all_eq_true_iff_forall_mem]
        intro e he
        have h1 := hlt i ops[i] (Array.getElem?_eq_getElem hi) e (by simpa using he)
        rw [ih e.on h1 (by omega), Bool.or_true]
      rw [h0] at this
      cases this
/-- Where the operations of l are done: each one's slot is as the table says; the fixed slots are as they were; H holds. -/
structure At (ops : Array Oper) (n : Nat) (tab : Array Cl) (base : Nat → Option Value) (H : World → Prop) (l : Array Bool) (a : Act) (w : World) : Prop where
  sz : l.size = ops.size
  tmps : a.tmps.size = n
  defers : a.defers = []
  hold : H w
  fixed : ∀ s v, base s = some v → a.tmps.getD s undef = v
  done : ∀ i d, l.getD i false = true → (ops[i]?).bind (·.dst) = some d → (tab.getD i .any).ok (a.tmps.getD d undef) w
variable {n : Nat} {tab : Array Cl} {base : Nat → Option Value} {H : World → Prop} {l : Array Bool} {a : Act} {w : World}
/-- Each operation has a slot of its own, which is not fixed. -/
def ownSlots (ops : Array Oper) (n : Nat) (base : Nat → Option Value) : Prop :=
  ∀ (i : Nat) (o : Oper), ops[i]? = some o → ∃ d, o.dst = some d ∧ d < n ∧ base d = none ∧ ∀ (j : Nat) (o' : Oper), ops[j]? = some o' → o'.dst = some d → j = i
theorem At.put (h : At ops n tab base H l a w) (hown : ownSlots ops n base) (hH : ∀ w w', H w → Below w.heap.size w w' → H w') {i : Nat} {o : Oper} (ho : ops[i]? = some o) {v : Value} {w' : World} (hb : Below w.heap.size w w')
    (hv : (tab.getD i .any).ok v w') : At ops n tab base H (l.setIfInBounds i true) (a.put o.dst v) w' := by
  obtain ⟨d, hd, hdn, hdb, huniq⟩ := hown i o ho
  have hi : i < ops.size := (Array.getElem?_eq_some_iff.1 ho).1
  rw [hd]
  refine ⟨by rw [Array.size_setIfInBounds]; exact h.sz, by show (a.tmps.setIfInBounds d v).size = n; rw [Array.size_setIfInBounds]; exact h.tmps, h.defers, hH _ _ h.hold hb, fun s u hs => ?_, fun j d' hj hd' => ?_⟩
  · show (a.tmps.setIfInBounds d v).getD s undef = u
    have hne : d ≠ s := fun e => by rw [← e, hdb] at hs; cases hs
    have := h.fixed s u hs
    simp only [Array.getD_eq_getD_getElem?, Array.getElem?_setIfInBounds, if_neg hne] at this ⊢
    exact this
  · show (tab.getD j .any).ok ((a.tmps.setIfInBounds d v).getD d' undef) w'
    by_cases hji : j = i
    · subst hji
      rw [ho] at hd'
      have e : d' = d := by simpa [hd] using hd'.symm
      subst e
      have ev : (a.tmps.setIfInBounds d' v).getD d' undef = v := by
        simp only [Array.getD_eq_getD_getElem?, Array.getElem?_setIfInBounds, h.tmps, if_pos hdn, if_true]
        rfl
      rw [ev]
      exact hv
    · have hne : d ≠ d' := fun e => by
        subst e
        cases hoj : ops[j]? with
        | none => rw [hoj] at hd'; cases hd'
        | some oj =>
          rw [hoj] at hd'
          exact hji (huniq j oj hoj (by simpa using hd'))
      rw [getD_set _ _ _ _ hji] at hj
      have := (h.done j d' hj hd').next hb
      simp only [Array.getD_eq_getD_getElem?, Array.getElem?_setIfInBounds, if_neg hne] at this ⊢
      exact this
/-- The guard's operation is done, and says what the guard asks. -/
def guardOk (ops : Array Oper) (a : Act) (o : Oper) : Prop := Region.wanted o (yielded ops a.tmps) = true
theorem At.guard (h : At ops n tab base H l a w) (hown : ownSlots ops n base) {o : Oper} {g : Nat} {b : Bool} (hg : o.guard = some (g, b)) (hl : l.getD g false = true) (ht : tab.getD g .any = .val (.bool b)) (hgs : g < ops.size) : guardOk ops a o := by
  obtain ⟨d, hd, hdn, _, _⟩ := hown g _ (Array.getElem?_eq_getElem hgs)
  have hv := h.done g d hl (by rw [Array.getElem?_eq_getElem hgs]; exact hd)
  rw [ht] at hv
  have hv' : a.tmps.getD d undef = .bool b := hv
  have hdt : d < a.tmps.size := by rw [h.tmps]; exact hdn
  simp only [Array.getD_eq_getD_getElem?, Array.getElem?_eq_getElem hdt, Option.getD_some] at hv'
  unfold guardOk Region.wanted yielded
  rw [hg]
  simp only [Array.getElem?_eq_getElem hgs, Option.bind_some, hd, Array.getElem?_eq_getElem hdt, hv']
  simp
theorem guard_none {o : Oper} (hg : o.guard = none) : guardOk ops a o := by unfold guardOk Region.wanted; rw [hg]
/-- An operation that yields a value. -/
theorem At.yields (h : At ops n tab base H l a w) (hown : ownSlots ops n base) (hH : ∀ w w', H w → Below w.heap.size w w' → H w') {i : Nat} {o : Oper} (ho : ops[i]? = some o) (hg : guardOk ops a o) {v : Value} {w' : World}
    (hrun : (execOp a.eval o).run P w = .ok (.value v) w') (hb : Below w.heap.size w w') (hv : (tab.getD i .any).ok v w') : wpOp P ops Q i (At ops n tab base H (l.setIfInBounds i true)) a w := by
  unfold wpOp
  rw [ho]
  simp only
  rw [if_pos (show Region.wanted o (yielded ops a.tmps) = true from hg)]
  left
  unfold Oper.wp
  rw [hrun]
  exact h.put hown hH ho hb hv
/-- An operation that calls. -/
theorem At.calls (h : At ops n tab base H l a w) (hown : ownSlots ops n base) (hH : ∀ w w', H w → Below w.heap.size w w' → H w') {i : Nat} {o : Oper} (ho : ops[i]? = some o) (hg : guardOk ops a o) {f : FuncId} {args : Array Value}
    (hrun : (execOp a.eval o).run P w = .ok (.enter f args) w) (hc : Calls P f args w fun e w' => ∃ v, e = .returned v ∧ Below w.heap.size w w' ∧ (tab.getD i .any).ok v w') :
    wpOp P ops Q i (At ops n tab base H (l.setIfInBounds i true)) a w := by
  unfold wpOp
  rw [ho]
  simp only
  rw [if_pos (show Region.wanted o (yielded ops a.tmps) = true from hg)]
  left
  unfold Oper.wp
  rw [hrun]
  refine Calls.mono hc ?_
  rintro e w' ⟨v, rfl, hb, hv⟩
  exact h.put hown hH ho hb hv
/-- The whole region. -/
theorem region_inv {id : Nat} (hm : P.follows .mixedOrders = true) (hlt : ∀ (i : Nat) (o : Oper), ops[i]? = some o → ∀ e ∈ o.after.toList, e.on < i)
    (start : At ops n tab base H (Array.replicate ops.size false) a w.drew)
    (step : ∀ l a w i, At ops n tab base H l a w → i < ops.size → (∀ o : Oper, ops[i]? = some o → ∀ e ∈ o.after.toList, Region.binds .any e = true → l.getD e.on false = true) → wpOp P ops Q i (At ops n tab base H (l.setIfInBounds i true)) a w)
    (fin : ∀ l a w, At ops n tab base H l a w → (∀ i, i < ops.size → l.getD i false = true) → Q .normal a w) : (Code.region id ops true).wp P Q a w := by
  refine wp_region_any hm ?_
  refine any_inv (At ops n tab base H) (fun l a w h => h.sz) (fun l a w i h hi => ?_) (fun l a w h h0 => fin l a w h (all_done hlt h0 h.sz)) _ _ _ _ ?_ start
  · have hr := ready_spec hi
    exact step l a w i h hr.1 hr.2.2
  · exact Nat.le_trans (List.length_filter_le _ _) (by simp)
end
section
variable {ops : Array Oper}
/-- The two closed checks, and what they give. -/
def ownB (ops : Array Oper) (n : Nat) (bs : List Nat) : Bool :=
  (List.range ops.size).all fun i => match (ops[i]?).bind (·.dst) with
    | some d => decide (d < n) && !bs.contains d && (List.range ops.size).all fun j => j == i || (ops[j]?).bind (·.dst) != some d
    | none => false
theorem own_of {n : Nat} {bs : List Nat} {base : Nat → Option Value} (h : ownB ops n bs = true) (hb : ∀ d, bs.contains d = false → base d = none) : ownSlots ops n base := by
  intro i o ho
  have hi : i < ops.size := (Array.getElem?_eq_some_iff.1 ho).1
  unfold ownB at h
  rw [List.all_eq_true] at h
  have h1 := h i (List.mem_range.2 hi)
  rw [ho] at h1
  cases hd : o.dst with
  | none => simp [hd] at h1
  | some d =>
    simp only [Option.bind_some, hd, Bool.and_eq_true, decide_eq_true_eq, List.all_eq_true] at h1
    refine ⟨d, rfl, h1.1.1, hb d (by simpa using h1.1.2), fun j o' ho' hd' => ?_⟩
    have h2 := h1.2 j (List.mem_range.2 (Array.getElem?_eq_some_iff.1 ho').1)
    rw [ho'] at h2
    simp only [Option.bind_some, hd', bne_self_eq_false, Bool.or_false] at h2
    simpa using h2
def earlierB (ops : Array Oper) : Bool := (List.range ops.size).all fun i => ((ops[i]?).map fun o => o.after.toList.all fun e => decide (e.on < i)).getD true
theorem earlier_of (h : earlierB ops = true) : ∀ (i : Nat) (o : Oper), ops[i]? = some o → ∀ e ∈ o.after.toList, e.on < i := by
  intro i o ho e he
  unfold earlierB at h
  rw [List.all_eq_true] at h
  have h1 := h i (List.mem_range.2 (Array.getElem?_eq_some_iff.1 ho).1)
  rw [ho] at h1
  simp only [Option.map_some, Option.getD_some, List.all_eq_true, decide_eq_true_eq] at h1
  exact h1 e he
def depOn (ops : Array Oper) (i j : Nat) : Bool := ((ops[i]?).map fun o => o.after.toList.any fun e => e.on == j && Region.binds .any e).getD false
theorem dep {i : Nat} {l : Array Bool} (hd : ∀ o : Oper, ops[i]? = some o → ∀ e ∈ o.after.toList, Region.binds .any e = true → l.getD e.on false = true) (j : Nat) (h : depOn ops i j = true) : l.getD j false = true := by
  unfold depOn at h
  cases ho : ops[i]? with
  | none => rw [ho] at h; cases h
  | some o =>
    rw [ho] at h
    simp only [Option.map_some, Option.getD_some, List.any_eq_true, Bool.and_eq_true, beq_iff_eq] at h
    obtain ⟨e, he, h1, h2⟩ := h
    rw [← h1]; exact hd o ho e he h2
theorem op_of {i : Nat} {o : Oper} (ho : ops[i]? = some o) {p : Op} (h : (ops[i]?).map (·.op) = some p) : o.op = p := by rw [ho] at h; simpa using h
theorem guard_of {i : Nat} {o : Oper} (ho : ops[i]? = some o) {g : Option (Nat × Bool)} (h : (ops[i]?).map (·.guard) = some g) : o.guard = g := by rw [ho] at h; simpa using h
theorem exec_call {P : Program} {k : FuncId} (eg : ∀ args w, (callFunc k args).run P w = .ok (.enter k args) w) {o : Oper} {args : Array Operand} {ts : Array TypeId} (hop : o.op = Op.call { callee := Callee.value (Operand.func k), args := args, argTypes := ts })
    (a : Act) (w : World) : (execOp a.eval o).run P w = .ok (.enter k (args.map a.eval)) w := by
  simp only [execOp, hop, resolve]
  simp [go_sem, Act.eval, invoke, eg]
end
/-- The operations of region k of a code. -/
def regionOps (k : Nat) : Code → Option (Array Oper)
  | .region id ops _ => if id = k then some ops else none
  | .seq a b => (regionOps k a).or (regionOps k b)
  | .cond _ a b => (regionOps k a).or (regionOps k b)
  | .block _ b => regionOps k b
  | .loop b => regionOps k b
  | .rangeFunc _ _ a b => (regionOps k a).or (regionOps k b)
  | .scope b => regionOps k b
  | _ => none
end Go.Proofs.YtbeaaieaffdgeaaDoor
end
/- The same for a region in the text's order. No program. -/
section
namespace Go.Proofs.YtbeaaieaffdgeaaDoor
open Go.RowKit
set_option linter.unusedVariables false

variable {P : Program} {ops : Array Oper} {Q : Exit → Act → World → Prop} {n : Nat} {tab : Array Cl} {base : Nat → Option Value} {H : World → Prop} {a : Act} {w : World}
theorem region_seq {id : Nat} (hlt : ∀ (i : Nat) (o : Oper), ops[i]? = some o → ∀ e ∈ o.after.toList, e.on < i)
    (start : At ops n tab base H (Array.replicate ops.size false) a w)
    (step : ∀ l a w i, At ops n tab base H l a w → i < ops.size → (∀ o : Oper, ops[i]? = some o → ∀ e ∈ o.after.toList, Region.binds .any e = true → l.getD e.on false = true) → wpOp P ops Q i (At ops n tab base H (l.setIfInBounds i true)) a w)
    (fin : ∀ l a w, At ops n tab base H l a w → (∀ i, i < ops.size → l.getD i false = true) → Q .normal a w) : (Code.region id ops false).wp P Q a w := by
  refine wp_region ?_
  have key : ∀ (m k : Nat) (l : Array Bool) (a : Act) (w : World), k + m = ops.size → At ops n tab base H l a w → (∀ j, j < k → l.getD j false = true) → wpOps P ops Q (List.range' k m) a w := by
    intro m
    induction m with
    | zero => intro k l a w hk h hl; exact fin l a w h (fun i hi => hl i (by omega))
    | succ m ih =>
      intro k l a w hk h hl
      rw [List.range'_succ, wpOps_cons]
      refine wpOp_mono (fun a' w' h' => ih (k + 1) _ a' w' (by omega) h' (fun j hj => ?_)) (step l a w k h (by omega) (fun o ho e he _ => hl _ (hlt k o ho e he)))
      by_cases hjk : j = k
      · rw [hjk]; exact getD_set_same _ _ _ (by rw [h.sz]; omega)
      · rw [getD_set _ _ _ _ hjk]; exact hl j (by omega)
  rw [List.range_eq_range']
  exact key ops.size 0 _ a w (by omega) start (fun j hj => by omega)
/-- The beginning: nothing is done. -/
theorem At.begins (h1 : a.tmps.size = n) (h2 : a.defers = []) (h3 : H w) (h4 : ∀ s v, base s = some v → a.tmps.getD s undef = v) : At ops n tab base H (Array.replicate ops.size false) a w :=
  ⟨by simp, h1, h2, h3, h4, fun i d hl => by
    rw [Array.getD_eq_getD_getElem?] at hl
    by_cases hi : i < ops.size
    · rw [Array.getElem?_replicate, if_pos hi] at hl; cases hl
    · rw [Array.getElem?_replicate, if_neg hi] at hl; cases hl⟩
/-- A row of slots, slot by slot. -/
theorem slots_of (a : Array Value) (n : Nat) (h : a.size = n) : a = ((List.range n).map fun s => a.getD s undef).toArray := by
  apply Array.ext
  · simp [h]
  · intro i hi hj
    simp [Array.getD_eq_getD_getElem?, hi]
/-- What a region leaves: the slots that it does not write as they were, the others as they are. -/
theorem slots_free (a : Array Value) (n : Nat) (h : a.size = n) (free : List Nat) (t u : Nat → Value) (hf : ∀ s, free.contains s = true → a.getD s undef = t s) (hu : ∀ s, a.getD s undef = u s) :
    a = ((List.range n).map fun s => if free.contains s then t s else u s).toArray := by
  refine (slots_of a n h).trans ?_
  congr 1
  apply List.map_congr_left
  intro s _
  cases e : free.contains s with
  | true => simp only [if_true]; exact hf s e
  | false => simp only [Bool.false_eq_true, if_false]; exact hu s
end Go.Proofs.YtbeaaieaffdgeaaDoor
end
/- A region that draws its order, whose values are kept in new blocks at its end: the engine with a further condition on slots and world, where only some operations have slots of their own. No program. -/
section
namespace Go.Proofs.YtbeaaieaffdgeaaDoor
open Go.RowKit
set_option linter.unusedVariables false

variable {P : Program} {ops : Array Oper} {Q : Exit → Act → World → Prop} {n : Nat} {tab : Array Cl} {base : Nat → Option Value} {H : World → Prop} {l : Array Bool} {a : Act} {w : World}
/-- Operation i has a slot of its own, which is not fixed. -/
def ownAt (ops : Array Oper) (n : Nat) (base : Nat → Option Value) (i d : Nat) : Prop :=
  (ops[i]?).bind (·.dst) = some d ∧ d < n ∧ base d = none ∧ ∀ (j : Nat) (o' : Oper), ops[j]? = some o' → o'.dst = some d → j = i
def ownAtB (ops : Array Oper) (n : Nat) (i d : Nat) : Bool := ((ops[i]?).bind (·.dst) == some d) && decide (d < n) && (List.range ops.size).all fun j => j == i || (ops[j]?).bind (·.dst) != some d
theorem ownAt_of {i d : Nat} (h : ownAtB ops n i d = true) (hb : base d = none) : ownAt ops n base i d := by
  unfold ownAtB at h
  simp only [Bool.and_eq_true, decide_eq_true_eq, List.all_eq_true, beq_iff_eq] at h
  refine ⟨h.1.1, h.1.2, hb, fun j o' ho' hd' => ?_⟩
  have h2 := h.2 j (List.mem_range.2 (Array.getElem?_eq_some_iff.1 ho').1)
  rw [ho'] at h2
  simp only [Option.bind_some, hd', bne_self_eq_false, Bool.or_false] at h2
  simpa using h2
theorem At.put1 (h : At ops n tab base H l a w) (hH : ∀ w w', H w → Below w.heap.size w w' → H w') {i d : Nat} {o : Oper} (ho : ops[i]? = some o) (hown : ownAt ops n base i d) {v : Value} {w' : World} (hb : Below w.heap.size w w')
    (hv : (tab.getD i .any).ok v w') : At ops n tab base H (l.setIfInBounds i true) (a.put o.dst v) w' := by
  obtain ⟨hd, hdn, hdb, huniq⟩ := hown
  rw [ho] at hd
  simp only [Option.bind_some] at hd
  have hi : i < ops.size := (Array.getElem?_eq_some_iff.1 ho).1
  rw [hd]
  refine ⟨by rw [Array.size_setIfInBounds]; exact h.sz, by show (a.tmps.setIfInBounds d v).size = n; rw [Array.size_setIfInBounds]; exact h.tmps, h.defers, hH _ _ h.hold hb, fun s u hs => ?_, fun j d' hj hd' => ?_⟩
  · show (a.tmps.setIfInBounds d v).getD s undef = u
    have hne : d ≠ s := fun e => by rw [← e, hdb] at hs; cases hs
    have := h.fixed s u hs
    simp only [Array.getD_eq_getD_getElem?, Array.getElem?_setIfInBounds, if_neg hne] at this ⊢
    exact this
  · show (tab.getD j .any).ok ((a.tmps.setIfInBounds d v).getD d' undef) w'
    by_cases hji : j = i
    · subst hji
      rw [ho] at hd'
      have e : d' = d := by simpa [hd] using hd'.symm
      subst e
      have ev : (a.tmps.setIfInBounds d' v).getD d' undef = v := by
        simp only [Array.getD_eq_getD_getElem?, Array.getElem?_setIfInBounds, h.tmps, if_pos hdn, if_true]
        rfl
      rw [ev]
      exact hv
    · have hne : d ≠ d' := fun e => by
        subst e
        cases hoj : ops[j]? with
        | none => rw [hoj] at hd'; cases hd'
        | some oj =>
          rw [hoj] at hd'
          exact hji (huniq j oj hoj (by simpa using hd'))
      rw [getD_set _ _ _ _ hji] at hj
      have := (h.done j d' hj hd').next hb
      simp only [Array.getD_eq_getD_getElem?, Array.getElem?_setIfInBounds, if_neg hne] at this ⊢
      exact this
theorem put_other (a : Act) (d s : Nat) (v : Value) (h : d ≠ s) : (a.put (some d) v).tmps.getD s undef = a.tmps.getD s undef := by
  show (a.tmps.setIfInBounds d v).getD s undef = _
  simp only [Array.getD_eq_getD_getElem?, Array.getElem?_setIfInBounds, if_neg h]
theorem put_same (a : Act) (d : Nat) (v : Value) (h : d < a.tmps.size) : (a.put (some d) v).tmps.getD d undef = v := by
  show (a.tmps.setIfInBounds d v).getD d undef = _
  simp only [Array.getD_eq_getD_getElem?, Array.getElem?_setIfInBounds, if_pos h, if_true]
  rfl
/-- An operation that yields a value; one that calls. -/
theorem At.yieldsX {X : Array Bool → Act → World → Prop} (h : At ops n tab base H l a w) (hH : ∀ w w', H w → Below w.heap.size w w' → H w') {i d : Nat} {o : Oper} (ho : ops[i]? = some o) (hown : ownAt ops n base i d) (hg : o.guard = none) {v : Value} {w' : World}
    (hrun : (execOp a.eval o).run P w = .ok (.value v) w') (hb : Below w.heap.size w w') (hv : (tab.getD i .any).ok v w') (hx : X (l.setIfInBounds i true) (a.put (some d) v) w') :
    wpOp P ops Q i (fun a w => At ops n tab base H (l.setIfInBounds i true) a w ∧ X (l.setIfInBounds i true) a w) a w := by
  have hd : o.dst = some d := by have := hown.1; rw [ho] at this; simpa using this
  unfold wpOp
  rw [ho]
  simp only
  rw [if_pos (show Region.wanted o (yielded ops a.tmps) = true from guard_none hg)]
  left
  unfold Oper.wp
  rw [hrun]
  exact ⟨h.put1 hH ho hown hb hv, by rw [hd]; exact hx⟩
theorem At.callsX {X : Array Bool → Act → World → Prop} (h : At ops n tab base H l a w) (hH : ∀ w w', H w → Below w.heap.size w w' → H w') {i d : Nat} {o : Oper} (ho : ops[i]? = some o) (hown : ownAt ops n base i d) (hg : o.guard = none) {f : FuncId} {args : Array Value}
    (hrun : (execOp a.eval o).run P w = .ok (.enter f args) w) (hx : ∀ v w', Below w.heap.size w w' → X (l.setIfInBounds i true) (a.put (some d) v) w') (hc : Calls P f args w fun e w' => ∃ v, e = .returned v ∧ Below w.heap.size w w' ∧ (tab.getD i .any).ok v w') :
    wpOp P ops Q i (fun a w => At ops n tab base H (l.setIfInBounds i true) a w ∧ X (l.setIfInBounds i true) a w) a w := by
  have hd : o.dst = some d := by have := hown.1; rw [ho] at this; simpa using this
  unfold wpOp
  rw [ho]
  simp only
  rw [if_pos (show Region.wanted o (yielded ops a.tmps) = true from guard_none hg)]
  left
  unfold Oper.wp
  rw [hrun]
  refine Calls.mono hc ?_
  rintro e w' ⟨v, rfl, hb, hv⟩
  exact ⟨h.put1 hH ho hown hb hv, by rw [hd]; exact hx v w' hb⟩
theorem At.guard1 (h : At ops n tab base H l a w) {o : Oper} {g d : Nat} {b : Bool} (hown : ownAt ops n base g d) (hg : o.guard = some (g, b)) (hl : l.getD g false = true) (ht : tab.getD g .any = .val (.bool b)) : guardOk ops a o := by
  obtain ⟨hd, hdn, _, _⟩ := hown
  have hv := h.done g d hl hd
  rw [ht] at hv
  have hv' : a.tmps.getD d undef = .bool b := hv
  have hdt : d < a.tmps.size := by rw [h.tmps]; exact hdn
  simp only [Array.getD_eq_getD_getElem?, Array.getElem?_eq_getElem hdt, Option.getD_some] at hv'
  unfold guardOk Region.wanted yielded
  rw [hg]
  simp only [hd, Array.getElem?_eq_getElem hdt, Option.bind_some, hv']
  simp
theorem At.yields1 (h : At ops n tab base H l a w) (hH : ∀ w w', H w → Below w.heap.size w w' → H w') {i d : Nat} {o : Oper} (ho : ops[i]? = some o) (hown : ownAt ops n base i d) (hg : guardOk ops a o) {v : Value} {w' : World}
    (hrun : (execOp a.eval o).run P w = .ok (.value v) w') (hb : Below w.heap.size w w') (hv : (tab.getD i .any).ok v w') : wpOp P ops Q i (At ops n tab base H (l.setIfInBounds i true)) a w := by
  unfold wpOp
  rw [ho]
  simp only
  rw [if_pos (show Region.wanted o (yielded ops a.tmps) = true from hg)]
  left
  unfold Oper.wp
  rw [hrun]
  exact h.put1 hH ho hown hb hv
theorem At.calls1 (h : At ops n tab base H l a w) (hH : ∀ w w', H w → Below w.heap.size w w' → H w') {i d : Nat} {o : Oper} (ho : ops[i]? = some o) (hown : ownAt ops n base i d) (hg : guardOk ops a o) {f : FuncId} {args : Array Value}
    (hrun : (execOp a.eval o).run P w = .ok (.enter f args) w) (hc : Calls P f args w fun e w' => ∃ v, e = .returned v ∧ Below w.heap.size w w' ∧ (tab.getD i .any).ok v w') :
    wpOp P ops Q i (At ops n tab base H (l.setIfInBounds i true)) a w := by
  unfold wpOp
  rw [ho]
  simp only
  rw [if_pos (show Region.wanted o (yielded ops a.tmps) = true from hg)]
  left
  unfold Oper.wp
  rw [hrun]
  refine Calls.mono hc ?_
  rintro e w' ⟨v, rfl, hb, hv⟩
  exact h.put1 hH ho hown hb hv
theorem not_done {i : Nat} (h : l.getD i true = false) (h' : l.getD i false = true) (hs : i < l.size) : False := by
  simp only [Array.getD_eq_getD_getElem?, Array.getElem?_eq_getElem hs, Option.getD_some] at h h'
  rw [h] at h'; cases h'
/-- The whole region, by any family. -/
theorem region_fam {id : Nat} (hm : P.follows .mixedOrders = true) (hlt : ∀ (i : Nat) (o : Oper), ops[i]? = some o → ∀ e ∈ o.after.toList, e.on < i) (A : Array Bool → Act → World → Prop) (hsz : ∀ l a w, A l a w → l.size = ops.size)
    (start : A (Array.replicate ops.size false) a w.drew)
    (step : ∀ l a w i, A l a w → i < ops.size → l.getD i true = false → (∀ o : Oper, ops[i]? = some o → ∀ e ∈ o.after.toList, Region.binds .any e = true → l.getD e.on false = true) → wpOp P ops Q i (A (l.setIfInBounds i true)) a w)
    (fin : ∀ l a w, A l a w → (∀ i, i < ops.size → l.getD i false = true) → Q .normal a w) : (Code.region id ops true).wp P Q a w := by
  refine wp_region_any hm ?_
  refine any_inv A hsz (fun l a w i h hi => ?_) (fun l a w h h0 => fin l a w h (all_done hlt h0 (hsz _ _ _ h))) _ _ _ _ ?_ start
  · have hr := ready_spec hi
    exact step l a w i h hr.1 hr.2.1 hr.2.2
  · exact Nat.le_trans (List.length_filter_le _ _) (by simp)
theorem wpOp_value {i : Nat} {o : Oper} (ho : ops[i]? = some o) (hg : o.guard = none) {v : Value} {w' : World} (hrun : (execOp a.eval o).run P w = .ok (.value v) w') {R : Act → World → Prop} (hr : R (a.put o.dst v) w') : wpOp P ops Q i R a w := by
  unfold wpOp
  rw [ho]
  simp only
  rw [if_pos (show Region.wanted o (yielded ops a.tmps) = true from guard_none hg)]
  left
  unfold Oper.wp
  rw [hrun]
  exact hr
/-- A region whose last operation waits for all the others and writes a slot that they read. -/
theorem region_last {id m : Nat} (hm : P.follows .mixedOrders = true) (hlt : ∀ (i : Nat) (o : Oper), ops[i]? = some o → ∀ e ∈ o.after.toList, e.on < i) (hsz : ops.size = m + 1) (hdeps : ∀ j, j < m → depOn ops m j = true)
    (start : At ops n tab base H (Array.replicate ops.size false) a w.drew)
    (step : ∀ l a w i, At ops n tab base H l a w → i < m → (∀ o : Oper, ops[i]? = some o → ∀ e ∈ o.after.toList, Region.binds .any e = true → l.getD e.on false = true) → wpOp P ops Q i (At ops n tab base H (l.setIfInBounds i true)) a w)
    (last : ∀ l a w, At ops n tab base H l a w → (∀ j, j < m → l.getD j false = true) → wpOp P ops Q m (fun a w => Q .normal a w) a w) : (Code.region id ops true).wp P Q a w := by
  refine region_fam hm hlt (fun l a w => (l.getD m false = false ∧ At ops n tab base H l a w) ∨ (l.size = ops.size ∧ (∀ j, j < m + 1 → l.getD j false = true) ∧ Q .normal a w)) ?_ ?_ ?_ ?_
  · rintro l a w (h | h)
    · exact h.2.sz
    · exact h.1
  · refine .inl ⟨?_, start⟩
    rw [Array.getD_eq_getD_getElem?]
    by_cases hi : m < ops.size
    · rw [Array.getElem?_replicate, if_pos hi]; rfl
    · rw [Array.getElem?_replicate, if_neg hi]; rfl
  · rintro l a w i (⟨hl, h⟩ | ⟨h1, h2, h3⟩) hi hu hd
    · by_cases him : i = m
      · subst him
        have hall : ∀ j, j < i → l.getD j false = true := fun j hj => dep hd j (hdeps j hj)
        refine wpOp_mono (fun a' w' h' => .inr ⟨by rw [Array.size_setIfInBounds]; exact h.sz, fun j hj => ?_, h'⟩) (last l a w h hall)
        by_cases hji : j = i
        · rw [hji]; exact getD_set_same _ _ _ (by rw [h.sz]; omega)
        · rw [getD_set _ _ _ _ hji]; exact hall j (by omega)
      · refine wpOp_mono (fun a' w' h' => .inl ⟨?_, h'⟩) (step l a w i h (by omega) hd)
        rw [getD_set _ _ _ _ (fun e => him e.symm)]; exact hl
    · exact (not_done hu (h2 i (by omega)) (by omega)).elim
  · rintro l a w (⟨hl, h⟩ | ⟨h1, h2, h3⟩) hall
    · rw [hall m (by omega)] at hl; cases hl
    · exact h3
end Go.Proofs.YtbeaaieaffdgeaaDoor
end
/- A region that draws its order and calls, one behind the other: each call may give up. No program. -/
section
namespace Go.Proofs.YtbeaaieaffdgeaaDoor
open Go.RowKit
set_option linter.unusedVariables false

section
variable {P : Program} {ops : Array Oper} {Q : Exit → Act → World → Prop} {n : Nat} {cs : List Nat} {base : Nat → Option Value} {val : Nat → Value → World → Prop} {H : Nat → World → Prop} {l : Array Bool} {a : Act} {w : World}
/-- Where the operations of l are done: what each one's slot holds; so many of the calls are done, and H says how the world stands behind these. -/
structure AtC (ops : Array Oper) (n : Nat) (cs : List Nat) (base : Nat → Option Value) (val : Nat → Value → World → Prop) (H : Nat → World → Prop) (l : Array Bool) (a : Act) (w : World) : Prop where
  sz : l.size = ops.size
  tmps : a.tmps.size = n
  defers : a.defers = []
  fixed : ∀ s v, base s = some v → a.tmps.getD s undef = v
  stage : ∃ j, j ≤ cs.length ∧ (∀ i, i < cs.length → l.getD (cs.getD i 0) false = decide (i < j)) ∧ H j w
  done : ∀ i d, l.getD i false = true → (ops[i]?).bind (·.dst) = some d → val i (a.tmps.getD d undef) w
theorem putC_fixed {d s : Nat} {v u : Value} (hd : base d = none) (hs : base s = some u) (h : a.tmps.getD s undef = u) : (a.put (some d) v).tmps.getD s undef = u := by
  rw [put_other a d s v (fun e => by rw [e, hs] at hd; cases hd)]; exact h
theorem putC_done (hsz : l.size = ops.size) (hn : a.tmps.size = n) {i d : Nat} (hown : ownAt ops n base i d) (hi : i < ops.size) {v : Value} {w w' : World} (hv : val i v w') (hk : ∀ j u, val j u w → val j u w')
    (h : ∀ i d, l.getD i false = true → (ops[i]?).bind (·.dst) = some d → val i (a.tmps.getD d undef) w) :
    ∀ j d', (l.setIfInBounds i true).getD j false = true → (ops[j]?).bind (·.dst) = some d' → val j ((a.put (some d) v).tmps.getD d' undef) w' := by
  obtain ⟨hd, hdn, hdb, huniq⟩ := hown
  intro j d' hj hd'
  by_cases hji : j = i
  · subst hji
    rw [hd] at hd'
    obtain rfl : d = d' := by simpa using hd'
    rw [put_same a d v (by rw [hn]; exact hdn)]
    exact hv
  · have hne : d ≠ d' := fun e => by
      subst e
      cases hoj : ops[j]? with
      | none => rw [hoj] at hd'; cases hd'
      | some oj =>
        rw [hoj] at hd'
        exact hji (huniq j oj hoj (by simpa using hd'))
    rw [getD_set _ _ _ _ hji] at hj
    rw [put_other a d d' v hne]
    exact hk _ _ (h j d' hj hd')
theorem dst_of {i : Nat} {o : Oper} (ho : ops[i]? = some o) {d : Option Nat} (h : (ops[i]?).map (·.dst) = some d) : o.dst = d := by rw [ho] at h; simpa using h
/-- An operation that yields a value, and leaves the world as it is. -/
theorem AtC.pure (h : AtC ops n cs base val H l a w) {i d : Nat} {o : Oper} (ho : ops[i]? = some o) (hown : ownAt ops n base i d) (hno : cs.contains i = false) (hg : o.guard = none) {v : Value}
    (hrun : (execOp a.eval o).run P w = .ok (.value v) w) (hv : val i v w) : wpOp P ops Q i (AtC ops n cs base val H (l.setIfInBounds i true)) a w := by
  have hi : i < ops.size := (Array.getElem?_eq_some_iff.1 ho).1
  have hd : o.dst = some d := by have := hown.1; rw [ho] at this; simpa using this
  refine wpOp_value ho hg hrun ?_
  rw [hd]
  refine ⟨by rw [Array.size_setIfInBounds]; exact h.sz, by show (a.tmps.setIfInBounds d v).size = n; rw [Array.size_setIfInBounds]; exact h.tmps, h.defers, fun s u hs => putC_fixed hown.2.2.1 hs (h.fixed s u hs), ?_, putC_done h.sz h.tmps hown hi hv (fun _ _ h => h) h.done⟩
  obtain ⟨j, hj, hs, hH⟩ := h.stage
  refine ⟨j, hj, fun k hk => ?_, hH⟩
  rw [getD_set _ _ _ _ (fun e => ?_)]
  · exact hs k hk
  · have : cs.contains i = true := by
      rw [List.contains_iff_mem, ← e, List.getD_eq_getElem?_getD, List.getElem?_eq_getElem hk]
      exact List.getElem_mem hk
    rw [hno] at this; cases this
/-- The call with the number k. -/
theorem AtC.call (h : AtC ops n cs base val H l a w) {i d k : Nat} {o : Oper} (ho : ops[i]? = some o) (hown : ownAt ops n base i d) (hk : k < cs.length) (hki : cs.getD k 0 = i) (hnd : ∀ j, j < cs.length → cs.getD j 0 = i → j = k)
    (hprev : ∀ j, j + 1 = k → l.getD (cs.getD j 0) false = true) (hnot : l.getD i true = false) (hg : o.guard = none) {f : FuncId} {args : Array Value}
    (hrun : (execOp a.eval o).run P w = .ok (.enter f args) w)
    (hc : H k w → Calls P f args w fun e w' => (∃ ch, e = .panicked ch ∧ Q (.panic ch) a w') ∨ ∃ v, e = .returned v ∧ H (k + 1) w' ∧ val i v w' ∧ ∀ j u, val j u w → val j u w') :
    wpOp P ops Q i (AtC ops n cs base val H (l.setIfInBounds i true)) a w := by
  have hi : i < ops.size := (Array.getElem?_eq_some_iff.1 ho).1
  have hd : o.dst = some d := by have := hown.1; rw [ho] at this; simpa using this
  have hnot' : l.getD i false = false := by
    have hs : i < l.size := by rw [h.sz]; exact hi
    simp only [Array.getD_eq_getD_getElem?, Array.getElem?_eq_getElem hs, Option.getD_some] at hnot ⊢
    exact hnot
  obtain ⟨j, hj, hs, hH⟩ := h.stage
  have hjk : j = k := by
    have h1 := hs k hk
    rw [hki, hnot'] at h1
    have h2 : ¬ k < j := by simpa using h1.symm
    rcases Nat.lt_or_ge j k with h3 | h3
    · have h4 := hs (k - 1) (by omega)
      rw [hprev (k - 1) (by omega)] at h4
      have h5 : k - 1 < j := by simpa using h4.symm
      omega
    · omega
  subst hjk
  unfold wpOp
  rw [ho]
  simp only
  rw [if_pos (show Region.wanted o (yielded ops a.tmps) = true from guard_none hg)]
  left
  unfold Oper.wp
  rw [hrun]
  refine Calls.mono (hc hH) ?_
  rintro e w' (⟨ch, rfl, hq⟩ | ⟨v, rfl, hH', hv, hkp⟩)
  · exact hq
  · simp only
    rw [hd]
    refine ⟨by rw [Array.size_setIfInBounds]; exact h.sz, by show (a.tmps.setIfInBounds d v).size = n; rw [Array.size_setIfInBounds]; exact h.tmps, h.defers, fun s u hs => putC_fixed hown.2.2.1 hs (h.fixed s u hs), ⟨j + 1, by omega, fun q hq => ?_, hH'⟩, putC_done h.sz h.tmps hown hi hv hkp h.done⟩
    by_cases hqj : q = j
    · subst hqj
      rw [hki, getD_set_same _ _ _ (by rw [h.sz]; exact hi)]
      simp
    · rw [getD_set _ _ _ _ (fun e => hqj (hnd q hq e)), hs q hq]
      simp only [decide_eq_decide]
      omega
/-- All calls are done. -/
theorem AtC.last (h : AtC ops n cs base val H l a w) (hall : ∀ i, i < cs.length → l.getD (cs.getD i 0) false = true) : H cs.length w := by
  obtain ⟨j, hj, hs, hH⟩ := h.stage
  have : j = cs.length := by
    rcases Nat.lt_or_ge j cs.length with h3 | h3
    · have h4 := hs j h3
      rw [hall j h3] at h4
      simp at h4
    · omega
  rw [← this]; exact hH
theorem AtC.any (h : AtC ops n cs base val H l a w) : ∃ j, H j w := by
  obtain ⟨j, _, _, hH⟩ := h.stage
  exact ⟨j, hH⟩
/-- The beginning: nothing is done. -/
theorem AtC.begins (h1 : a.tmps.size = n) (h2 : a.defers = []) (h3 : H 0 w) (h4 : ∀ s v, base s = some v → a.tmps.getD s undef = v) : AtC ops n cs base val H (Array.replicate ops.size false) a w := by
  have hf : ∀ i, (Array.replicate ops.size false).getD i false = false := fun i => by
    rw [Array.getD_eq_getD_getElem?]
    by_cases hi : i < ops.size
    · rw [Array.getElem?_replicate, if_pos hi]; rfl
    · rw [Array.getElem?_replicate, if_neg hi]; rfl
  exact ⟨by simp, h1, h2, h4, ⟨0, Nat.zero_le _, fun i hi => by rw [hf]; simp, h3⟩, fun i d hl => by rw [hf] at hl; cases hl⟩
/-- A region whose last operation waits for all the others. -/
theorem region_lastC {id m : Nat} (hm : P.follows .mixedOrders = true) (hlt : ∀ (i : Nat) (o : Oper), ops[i]? = some o → ∀ e ∈ o.after.toList, e.on < i) (hsz : ops.size = m + 1) (hdeps : ∀ j, j < m → depOn ops m j = true)
    (start : AtC ops n cs base val H (Array.replicate ops.size false) a w.drew)
    (step : ∀ l a w i, AtC ops n cs base val H l a w → i < m → l.getD i true = false → (∀ o : Oper, ops[i]? = some o → ∀ e ∈ o.after.toList, Region.binds .any e = true → l.getD e.on false = true) → wpOp P ops Q i (AtC ops n cs base val H (l.setIfInBounds i true)) a w)
    (last : ∀ l a w, AtC ops n cs base val H l a w → (∀ j, j < m → l.getD j false = true) → wpOp P ops Q m (fun a w => Q .normal a w) a w) : (Code.region id ops true).wp P Q a w := by
  refine region_fam hm hlt (fun l a w => (l.getD m false = false ∧ AtC ops n cs base val H l a w) ∨ (l.size = ops.size ∧ (∀ j, j < m + 1 → l.getD j false = true) ∧ Q .normal a w)) ?_ ?_ ?_ ?_
  · rintro l a w (h | h)
    · exact h.2.sz
    · exact h.1
  · refine .inl ⟨?_, start⟩
    rw [Array.getD_eq_getD_getElem?]
    by_cases hi : m < ops.size
    · rw [Array.getElem?_replicate, if_pos hi]; rfl
    · rw [Array.getElem?_replicate, if_neg hi]; rfl
  · rintro l a w i (⟨hl, h⟩ | ⟨h1, h2, h3⟩) hi hu hd
    · by_cases him : i = m
      · subst him
        have hall : ∀ j, j < i → l.getD j false = true := fun j hj => dep hd j (hdeps j hj)
        refine wpOp_mono (fun a' w' h' => .inr ⟨by rw [Array.size_setIfInBounds]; exact h.sz, fun j hj => ?_, h'⟩) (last l a w h hall)
        by_cases hji : j = i
        · rw [hji]; exact getD_set_same _ _ _ (by rw [h.sz]; omega)
        · rw [getD_set _ _ _ _ hji]; exact hall j (by omega)
      · refine wpOp_mono (fun a' w' h' => .inl ⟨?_, h'⟩) (step l a w i h (by omega) hu hd)
        rw [getD_set _ _ _ _ (fun e => him e.symm)]; exact hl
    · exact (not_done hu (h2 i (by omega)) (by omega)).elim
  · rintro l a w (⟨hl, h⟩ | ⟨h1, h2, h3⟩) hall
    · rw [hall m (by omega)] at hl; cases hl
    · exact h3
/-- The same without a last one. -/
theorem region_allC {id : Nat} (hm : P.follows .mixedOrders = true) (hlt : ∀ (i : Nat) (o : Oper), ops[i]? = some o → ∀ e ∈ o.after.toList, e.on < i)
    (start : AtC ops n cs base val H (Array.replicate ops.size false) a w.drew)
    (step : ∀ l a w i, AtC ops n cs base val H l a w → i < ops.size → l.getD i true = false → (∀ o : Oper, ops[i]? = some o → ∀ e ∈ o.after.toList, Region.binds .any e = true → l.getD e.on false = true) → wpOp P ops Q i (AtC ops n cs base val H (l.setIfInBounds i true)) a w)
    (fin : ∀ l a w, AtC ops n cs base val H l a w → (∀ i, i < ops.size → l.getD i false = true) → Q .normal a w) : (Code.region id ops true).wp P Q a w :=
  region_fam hm hlt (AtC ops n cs base val H) (fun l a w h => h.sz) start (fun l a w i h hi hn hd => step l a w i h hi hn hd) fin
/-- An operation of the number k that makes memory. -/
theorem AtC.makes (h : AtC ops n cs base val H l a w) {i d k : Nat} {o : Oper} (ho : ops[i]? = some o) (hown : ownAt ops n base i d) (hk : k < cs.length) (hki : cs.getD k 0 = i) (hnd : ∀ j, j < cs.length → cs.getD j 0 = i → j = k)
    (hprev : ∀ j, j + 1 = k → l.getD (cs.getD j 0) false = true) (hnot : l.getD i true = false) (hg : o.guard = none) {v : Value} {w' : World}
    (hrun : (execOp a.eval o).run P w = .ok (.value v) w') (hc : H k w → H (k + 1) w' ∧ val i v w' ∧ ∀ j u, val j u w → val j u w') :
    wpOp P ops Q i (AtC ops n cs base val H (l.setIfInBounds i true)) a w := by
  have hi : i < ops.size := (Array.getElem?_eq_some_iff.1 ho).1
  have hd : o.dst = some d := by have := hown.1; rw [ho] at this; simpa using this
  have hnot' : l.getD i false = false := by
    have hs : i < l.size := by rw [h.sz]; exact hi
    simp only [Array.getD_eq_getD_getElem?, Array.getElem?_eq_getElem hs, Option.getD_some] at hnot ⊢
    exact hnot
  obtain ⟨j, hj, hs, hH⟩ := h.stage
  have hjk : j = k := by
    have h1 := hs k hk
    rw [hki, hnot'] at h1
    have h2 : ¬ k < j := by simpa using h1.symm
    rcases Nat.lt_or_ge j k with h3 | h3
    · have h4 := hs (k - 1) (by omega)
      rw [hprev (k - 1) (by omega)] at h4
      have h5 : k - 1 < j := by simpa using h4.symm
      omega
    · omega
  subst hjk
  obtain ⟨hH', hv, hkp⟩ := hc hH
  refine wpOp_value ho hg hrun ?_
  rw [hd]
  refine ⟨by rw [Array.size_setIfInBounds]; exact h.sz, by show (a.tmps.setIfInBounds d v).size = n; rw [Array.size_setIfInBounds]; exact h.tmps, h.defers, fun s u hs => putC_fixed hown.2.2.1 hs (h.fixed s u hs), ⟨j + 1, by omega, fun q hq => ?_, hH'⟩, putC_done h.sz h.tmps hown hi hv hkp h.done⟩
  by_cases hqj : q = j
  · subst hqj
    rw [hki, getD_set_same _ _ _ (by rw [h.sz]; exact hi)]
    simp
  · rw [getD_set _ _ _ _ (fun e => hqj (hnd q hq e)), hs q hq]
    simp only [decide_eq_decide]
    omega
end
theorem wp_slotsC {P : Program} {c : Code} {Q : Exit → Act → World → Prop} {R : Array Value} {w : World} (n : Nat) (hn : R.size = n) (h : ∀ t : Nat → Value, t = (fun s => R.getD s undef) → c.wp P Q ⟨((List.range n).map t).toArray, []⟩ w) : c.wp P Q ⟨R, []⟩ w := by
  have e := slots_of R n hn
  rw [e]
  exact h _ rfl
theorem row_getC (t : Nat → Value) (n s : Nat) (hs : s < n) : (((List.range n).map t).toArray).getD s undef = t s := by
  simp [Array.getD_eq_getD_getElem?, hs]
theorem free_ltC {free : List Nat} {n s : Nat} (h : (free.all fun x => decide (x < n)) = true) (hs : free.contains s = true) : s < n := by
  rw [List.all_eq_true] at h
  simpa using h s (List.contains_iff_mem.1 hs)
end Go.Proofs.YtbeaaieaffdgeaaDoor
end
