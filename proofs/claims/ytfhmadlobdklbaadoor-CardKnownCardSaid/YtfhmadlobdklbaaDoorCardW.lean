/- turned: what its walks share. -/
import Derived.Test.YtfhmadlobdklbaaDoorCardV
import Derived.Laws.OwnMore
import Derived.BigRegion
namespace Go.Proofs.YtfhmadlobdklbaaDoor
open Go.RowKit
set_option linter.unusedVariables false
set_option linter.unusedSimpArgs false

theorem BlkAt.set {w : World} {b : Nat} {cs : Array Value} {T : TypeId} (h : BlkAt w b cs T) (i : Nat) (v : Value) : BlkAt (w.setCell ⟨b, i, none⟩ v) b (cs.setIfInBounds i v) T := heap_setCell_same w b i cs T v h
theorem BlkAt.far {w : World} {b : Nat} {cs : Array Value} {T : TypeId} (h : BlkAt w b cs T) (p : Addr) (v : Value) (hp : p.block ≠ b) : BlkAt (w.setCell p v) b cs T :=
  (Below.heap_setCell w p v b (Ne.symm hp)).trans h
theorem IsA.cells {w : World} {a : Option Addr} {c : Nat} {A : List AbT} (h : IsA w a c A) (h0 : A.length ≠ 0) : ∃ b off, a = some ⟨b, off, none⟩ ∧ b < w.heap.size ∧ ∀ (j : Nat) (u : Value), (abRow A)[j]? = some u → w.cell? ((⟨b, off, none⟩ : Addr).add j) = some u := by
  obtain ⟨h1, h2, _, h3 | ⟨b, off, h3, h4, h5⟩⟩ := h
  · exact absurd h3 h0
  · refine ⟨b, off, h3, h4, fun j u hu => ?_⟩
    have hj : j < (abRow A).length := (List.getElem?_eq_some_iff.1 hu).1
    rw [abRow_len] at hj
    have e : j = j / 13 * 13 + j % 13 := by omega
    rw [add_plain, ← hu]
    have hd : j / 13 < A.length := by omega
    have := h5 (j / 13) hd (j % 13) (by omega)
    rw [show off + j / 13 * 13 + j % 13 = off + j by omega] at this
    rw [this]
    have h6 := abRow_at A (j / 13) hd (j % 13) (by omega)
    rw [← e] at h6
    exact h6.symm
theorem own_some {w : World} {base e size : Nat} {v : Value} {n : Nat} {xs : List Value} (h : w.ownsRow base e size v n xs) (hn : n ≠ 0) : ∃ g c, v = .slice (some ⟨g, 0, none⟩) n c ∧ base ≤ g ∧ g < w.heap.size ∧ n ≤ c ∧ c ≤ 9223372036854775807 := by
  rcases h.2 with ⟨_, h2⟩ | ⟨g, c, cur, rfl, hg, hh, hc, hm, _⟩
  · exact absurd h2 hn
  · unfold maxLen at hm
    exact ⟨g, c, rfl, hg, (Array.getElem?_eq_some_iff.1 hh).1, hc, hm⟩
theorem own_empty (w : World) (o1 o2 : Obj) : (((w.alloc o1).alloc o2).alloc (.cells #[] 41)).ownsRow (w.heap.size + 1 + 1) 41 13 (.slice (some ⟨w.heap.size + 1 + 1, 0, none⟩) 0 0) 0 [] := by
  have := World.ownsRow_lit (base := w.heap.size + 1 + 1) (e := 41) (size := 13) ((w.alloc o1).alloc o2) #[] 0 (by simp) (by unfold maxLen; omega) rfl
  simpa using this
theorem own_ne0 (h : Nat) : (Value.slice (some ⟨h + 1 + 1, 0, none⟩) 0 0).ownBlock ≠ some h := by
  intro e
  have : h + 1 + 1 = h := Option.some.inj e
  omega
theorem own_ne1 (h : Nat) : (Value.slice (some ⟨h + 1 + 1, 0, none⟩) 0 0).ownBlock ≠ some (h + 1) := by
  intro e
  have : h + 1 + 1 = h + 1 := Option.some.inj e
  omega
theorem own_ge (h : Nat) (k : Nat) (e : (Value.slice (some ⟨h + 1 + 1, 0, none⟩) 0 0).ownBlock = some k) : h ≤ k := by
  have : h + 1 + 1 = k := Option.some.inj e
  omega
theorem BlkAt.grown {w w' : World} {b : Nat} {cs : Array Value} {T : TypeId} {row : Option Nat} (h : BlkAt w b cs T) (k : w.grownBy w' row) (hr : row ≠ some b) : BlkAt w' b cs T :=
  (k.block b h.lt hr.symm).trans h
theorem blkAt_top (w : World) (cs : Array Value) (T : TypeId) : BlkAt (w.alloc (.cells cs T)).drew w.heap.size cs T := heap_alloc_new w _
/-- What turned tells, without addresses. -/
def lastM (A : List AbT) (g : AbT → AbT) : List AbT := A.dropLast ++ (A.getLast?.map g).toList
theorem lastM_snoc (A : List AbT) (t : AbT) (g : AbT → AbT) : lastM (A ++ [t]) g = A ++ [g t] := by simp [lastM]
def longNm : ByteArray := ⟨#[49, 50, 51, 52, 53, 54, 55, 56, 57, 48, 49, 50, 51, 52, 53, 54, 55]⟩
def turnM (p : Cd × List AbT) (f : Nat) (n : Int) : Cd × List AbT :=
  if p.2.length = 0 then p else
  match f with
  | 0 => ({ p.1 with k := n }, p.2)
  | 1 => ({ p.1 with c0 := n }, p.2)
  | 2 => ({ p.1 with c3 := n }, p.2)
  | 3 => ({ p.1 with col := n }, p.2)
  | 4 => ({ p.1 with pow := n }, p.2)
  | 5 => ({ p.1 with tou := n }, p.2)
  | 6 => ({ p.1 with keys := n }, p.2)
  | 7 => (p.1, lastM p.2 fun t => ({ t.1 with k := n }, t.2))
  | 8 => (p.1, lastM p.2 fun t => ({ t.1 with ev := n }, t.2))
  | 9 => (p.1, lastM p.2 fun t => ({ t.1 with wh := n }, t.2))
  | 10 => (p.1, lastM p.2 fun t => ({ t.1 with c1 := n }, t.2))
  | 11 => (p.1, lastM p.2 fun t => ({ t.1 with op := n }, t.2))
  | 12 => (p.1, lastM p.2 fun t => ({ t.1 with a := n }, t.2))
  | 13 => (p.1, lastM p.2 fun t => ({ t.1 with b := n }, t.2))
  | 14 => (p.1, lastM p.2 fun t => ({ t.1 with tap := !t.1.tap }, t.2))
  | 15 => (p.1, lastM p.2 fun t => ({ t.1 with tn := t.1.tn + 1 }, t.2.1 ++ [n], t.2.2))
  | 16 => (p.1, lastM p.2 fun t => ({ t.1 with tn := 0 }, [], t.2.2))
  | 17 => (p.1, lastM p.2 fun t => ({ t.1 with cn := t.1.cn + 1 }, t.2.1, t.2.2 ++ [⟨n, 0, 0⟩]))
  | 18 => (p.1, lastM p.2 fun t => ({ t.1 with cn := 0 }, t.2.1, []))
  | 19 => ({ p.1 with an := p.1.an - 1 }, p.2.dropLast)
  | 20 => ({ p.1 with an := p.1.an + 1 }, p.2 ++ p.2.head?.toList)
  | 21 => ({ p.1 with nm := ⟨#[]⟩ }, p.2)
  | 22 => ({ p.1 with nm := longNm }, p.2)
  | _ => ({ p.1 with an := 0 }, [])
theorem outC_own {X : Nat → Prop} {w W' : World} {B : Nat} {y : Cd} {A : List AbT} {p : Cd × List AbT} (hb : Below w.heap.size w W') (ho : W'.ownsRow B 41 13 (.slice y.aa y.an y.ac) y.an (abRow A)) (hB : w.heap.size ≤ B) (hX : ∀ g, X g → g < w.heap.size) (hn : A.length = y.an)
    (hr : ∀ W : World, W'.heap.size ≤ W.heap.size → (∀ g o, g < W'.heap.size → ¬ X g → W.cell? ⟨g, o, none⟩ = W'.cell? ⟨g, o, none⟩) → ∀ t ∈ A, AbR W t.1 t.2.1 t.2.2) (hy : CdOk y) (hp : p = (erC y, A.map erT)) :
    OutC X w W' (.returned (.agg #[.string y.nm, .int .i64 y.k, .int .i64 y.c0, .int .i64 y.c1, .int .i64 y.c2, .int .i64 y.c3, .int .i64 y.col, .int .i64 y.pow, .int .i64 y.tou, .int .i64 y.keys, .slice y.aa y.an y.ac])) p := by
  subst hp
  obtain ⟨a, c, hv, hrow⟩ := own_row ho
  obtain ⟨rfl, rfl⟩ : y.aa = a ∧ y.ac = c := by
    injection hv with h1 h2 h3
    exact ⟨h1, h3⟩
  refine ⟨y, A, rfl, fun W hs hc => ⟨hn, isA_row hn (hr W hs hc) (hrow.agree hs hc (fun p hp hx => ?_))⟩, hy, rfl, rfl, hb⟩
  have h1 := (ho.lt p.block (by rw [hp]; rfl)).1
  have h2 := hX _ hx
  omega
/-- A card's abilities, as they read behind the call, whatever becomes of X. -/
theorem CdX.abs {X : Nat → Prop} {w W' : World} {y : Cd} {A : List AbT} (h : CdX X w y A) (hb : Below w.heap.size w W') (W : World) (hs : W'.heap.size ≤ W.heap.size) (hc : ∀ g o, g < W'.heap.size → ¬ X g → W.cell? ⟨g, o, none⟩ = W'.cell? ⟨g, o, none⟩) : ∀ t ∈ A, AbR W t.1 t.2.1 t.2.2 :=
  (h.next hb W hs hc).2.2.2.1
theorem abRow_set (A : List AbT) (t t' : AbT) (i : Nat) (v : Value) (hi : i < 13) (h : (abCells t.1).set i v = abCells t'.1) (j : Nat) (hj : j = A.length * 13 + i) : (abRow (A ++ [t])).set j v = abRow (A ++ [t']) := by
  subst hj
  rw [abRow_append, abRow_append, List.set_append_right _ _ (by rw [abRow_len]; omega), abRow_len, Nat.add_sub_cancel_left]
  simp [abRow, h]
theorem snoc_of (A : List AbT) (h : A.length ≠ 0) : ∃ A0 t, A = A0 ++ [t] := by
  rcases List.eq_nil_or_concat A with rfl | ⟨A0, t, rfl⟩
  · exact absurd rfl h
  · exact ⟨A0, t, by simp⟩
end Go.Proofs.YtfhmadlobdklbaaDoor
