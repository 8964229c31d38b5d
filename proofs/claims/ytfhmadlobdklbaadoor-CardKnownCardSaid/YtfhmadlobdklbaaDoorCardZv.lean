/- What CardKnown lays behind its loops: wide, deep, set and keys. -/
import Derived.Test.YtfhmadlobdklbaaDoorCardZs
import Derived.Test.YtfhmadlobdklbaaDoorCardZu
namespace Go.Proofs.YtfhmadlobdklbaaDoor
open Go.RowKit
set_option linter.unusedVariables false
set_option linter.unusedSimpArgs false

/-- A card in a box of its own. -/
def Box (W : World) (x : Nat) (y : Cd) (A : List AbT) : Prop := BlkAt W x #[.string y.nm, .int .i64 y.k, .int .i64 y.c0, .int .i64 y.c1, .int .i64 y.c2, .int .i64 y.c3, .int .i64 y.col, .int .i64 y.pow, .int .i64 y.tou, .int .i64 y.keys, .slice y.aa y.an y.ac] 26 ∧ CdR W y A
theorem Box.next {w w' : World} {x : Nat} {y : Cd} {A : List AbT} (h : Box w x y A) (k : Below w.heap.size w w') : Box w' x y A := ⟨h.1.next k, h.2.next k⟩
/-- many. -/
abbrev manyCd (g gc : Nat) : Cd := ⟨⟨#[98]⟩, 2, 0, 0, 0, 0, 0, 2, 2, 0, some ⟨g, 0, none⟩, 5, gc⟩
theorem make_33 (W : World) : (Instr.makeSlice 39 (.int .i64 33) (.int .i64 33)).run Tryd.prog W = .ok (.slice (some ⟨W.heap.size, 0, none⟩) 33 33) (W.alloc (.cells zeros33.toArray 53)) := by kernel_rfl
/-- The world behind wide's store. -/
abbrev WideW (v : World) (b : Nat) : World :=
  ((v.setCell ⟨b, 8, none⟩ (.slice (some ⟨v.heap.size + 1, 0, none⟩) 3 3)).alloc (.cells #[.string ⟨#[97]⟩, .int .i64 1, .int .i64 0, .int .i64 0, .int .i64 0, .int .i64 0, .int .i64 2, .int .i64 0, .int .i64 0, .int .i64 0, .slice (some ⟨b, 0, none⟩) 1 1] 26)).alloc (.cells #[.int .i64 1, .int .i64 1, .int .i64 1] 3)
theorem wide_lays {V v : World} {b t c : Nat} (h : P1 V v b t c) : Below V.heap.size V (WideW v b) ∧ Box (WideW v b) v.heap.size (p1Cd b) [wideT (v.heap.size + 1) c] := by
  obtain ⟨ht, hc, hb, htb, hcb, hB, hT, hC, hk⟩ := h
  have hs := hk.size
  refine ⟨((hk.setCell (p := ⟨b, 8, none⟩) hb _).alloc (by simp; omega) _).alloc (by simp; omega) _, (blkAt_here _ _ _ _ (by simp)).up _, wide_reads ?_ (blkAt_here _ _ _ _ (by simp)) (((hC.far _ _ (by show b ≠ c; omega)).up _).up _)⟩
  have := hB.set 8 (.slice (some ⟨v.heap.size + 1, 0, none⟩) 3 3)
  exact ((show BlkAt (v.setCell ⟨b, 8, none⟩ (.slice (some ⟨v.heap.size + 1, 0, none⟩) 3 3)) b #[.int .i64 2, .int .i64 0, .int .i64 0, .int .i64 0, .int .i64 0, .int .i64 0, .int .i64 0, .bool true, .slice (some ⟨v.heap.size + 1, 0, none⟩) 3 3, .slice (some ⟨c, 0, none⟩) 2 2, .int .i64 0, .int .i64 0, .int .i64 0] 41 by simpa using this).up _).up _
/-- The world with deep's box. -/
abbrev DeepU (v : World) (b : Nat) : World :=
  v.alloc (.cells #[.string ⟨#[97]⟩, .int .i64 1, .int .i64 0, .int .i64 0, .int .i64 0, .int .i64 0, .int .i64 2, .int .i64 0, .int .i64 0, .int .i64 0, .slice (some ⟨b, 0, none⟩) 1 1] 26)
/-- What holds of it. -/
def D1 (V u : World) (x b t c : Nat) : Prop :=
  V.heap.size ≤ b ∧ t ≠ b ∧ c ≠ b ∧ b < x ∧ x < u.heap.size ∧ Below V.heap.size V u ∧
  BlkAt u x #[.string ⟨#[97]⟩, .int .i64 1, .int .i64 0, .int .i64 0, .int .i64 0, .int .i64 0, .int .i64 2, .int .i64 0, .int .i64 0, .int .i64 0, .slice (some ⟨b, 0, none⟩) 1 1] 26 ∧
  BlkAt u b #[.int .i64 2, .int .i64 0, .int .i64 0, .int .i64 0, .int .i64 0, .int .i64 0, .int .i64 0, .bool true, .slice (some ⟨t, 0, none⟩) 1 1, .slice (some ⟨c, 0, none⟩) 2 2, .int .i64 0, .int .i64 0, .int .i64 0] 41 ∧
  BlkAt u t #[.int .i64 3] 3
theorem deep_box {V v : World} {b t c : Nat} (h : P1 V v b t c) : D1 V (DeepU v b) v.heap.size b t c := by
  obtain ⟨ht, hc, hb, htb, hcb, hB, hT, hC, hk⟩ := h
  have hs := hk.size
  exact ⟨hb, htb, hcb, hB.lt, by simp, hk.alloc hs _, blkAt_here _ _ _ _ (by simp), hB.up _, hT.up _⟩
/-- The world behind deep's store. -/
abbrev DeepW (u : World) (b : Nat) : World :=
  ((u.setCell ⟨b, 9, none⟩ (.slice (some ⟨u.heap.size, 0, none⟩) 33 33)).alloc (.cells zeros33.toArray 53)).drew
theorem BlkAt.drawn {w : World} {b : Nat} {cs : Array Value} {T : TypeId} (h : BlkAt w b cs T) : BlkAt w.drew b cs T := h.next (Below.refl _ _).drew
theorem deep_lays {V u : World} {x b t c : Nat} (h : D1 V u x b t c) : Below V.heap.size V (DeepW u b) ∧ Box (DeepW u b) x (p1Cd b) [deepT t u.heap.size] := by
  obtain ⟨hb, htb, hcb, hbx, hx, hk, hX, hB, hT⟩ := h
  have hs := hk.size
  refine ⟨((hk.setCell (p := ⟨b, 9, none⟩) hb _).alloc (by simp; omega) _).drew, ((hX.far _ _ (by show b ≠ x; omega)).up _).drawn, deep_reads ?_ ((hT.far _ _ (by show b ≠ t; omega)).up _).drawn (blkAt_here _ _ _ _ (by simp)).drawn⟩
  have := hB.set 9 (.slice (some ⟨u.heap.size, 0, none⟩) 33 33)
  exact ((show BlkAt (u.setCell ⟨b, 9, none⟩ (.slice (some ⟨u.heap.size, 0, none⟩) 33 33)) b #[.int .i64 2, .int .i64 0, .int .i64 0, .int .i64 0, .int .i64 0, .int .i64 0, .int .i64 0, .bool true, .slice (some ⟨t, 0, none⟩) 1 1, .slice (some ⟨u.heap.size, 0, none⟩) 33 33, .int .i64 0, .int .i64 0, .int .i64 0] 41 by simpa using this).up _).drawn
/-- The lord with other abilities. -/
abbrev lordCd (s n : Nat) : Cd := ⟨⟨#[98]⟩, 2, 0, 0, 0, 0, 0, 2, 2, 0, some ⟨s, 0, none⟩, n, n⟩
def setT : List AbT := [(⟨4, 0, 0, 0, 0, 0, 0, false, none, 0, 0, none, 0, 0, 3, 0, 16⟩, [], [])]
def keysT : List AbT := [(⟨4, 0, 0, 0, 0, 0, 0, false, none, 0, 0, none, 0, 0, 2, 127, 0⟩, [], []), (⟨5, 3, 0, 0, 0, 0, 0, false, none, 0, 0, none, 0, 0, 0, 0, 0⟩, [], []), (⟨3, 6, 2, 0, 0, 0, 0, false, none, 0, 0, none, 0, 0, 0, 0, 0⟩, [], [])]
theorem set_reads {W : World} {s : Nat} (h : BlkAt W s #[.int .i64 4, .int .i64 0, .int .i64 0, .int .i64 0, .int .i64 0, .int .i64 0, .int .i64 0, .bool false, .slice none 0 0, .slice none 0 0, .int .i64 3, .int .i64 0, .int .i64 16] 41) : CdR W (lordCd s 1) setT :=
  ⟨rfl, LitAt.isA (A := setT) (h.lit _ rfl) (by
    intro t ht
    simp only [setT, List.mem_cons, List.not_mem_nil, or_false] at ht
    subst ht
    exact ⟨⟨rfl, IsL.nil _⟩, rfl, IsC.nil _⟩) 1 rfl (by omega)⟩
theorem keys_reads {W : World} {s : Nat} (h : BlkAt W s #[.int .i64 4, .int .i64 0, .int .i64 0, .int .i64 0, .int .i64 0, .int .i64 0, .int .i64 0, .bool false, .slice none 0 0, .slice none 0 0, .int .i64 2, .int .i64 127, .int .i64 0, .int .i64 5, .int .i64 3, .int .i64 0, .int .i64 0, .int .i64 0, .int .i64 0, .int .i64 0, .bool false, .slice none 0 0, .slice none 0 0, .int .i64 0, .int .i64 0, .int .i64 0, .int .i64 3, .int .i64 6, .int .i64 2, .int .i64 0, .int .i64 0, .int .i64 0, .int .i64 0, .bool false, .slice none 0 0, .slice none 0 0, .int .i64 0, .int .i64 0, .int .i64 0] 41) : CdR W (lordCd s 3) keysT :=
  ⟨rfl, LitAt.isA (A := keysT) (h.lit _ rfl) (by
    intro t ht
    simp only [keysT, List.mem_cons, List.not_mem_nil, or_false] at ht
    rcases ht with rfl | rfl | rfl <;> exact ⟨⟨rfl, IsL.nil _⟩, rfl, IsC.nil _⟩) 3 rfl (by omega)⟩
theorem chk_set {W : World} {s : Nat} (hT : Tabs W) (h : CdR W (lordCd s 1) setT) :
    Calls Tryd.prog 8 #[.agg #[.string ⟨#[98]⟩, .int .i64 2, .int .i64 0, .int .i64 0, .int .i64 0, .int .i64 0, .int .i64 0, .int .i64 2, .int .i64 2, .int .i64 0, .slice (some ⟨s, 0, none⟩) 1 1], .int .i64 0] W fun e w' => e = .returned (.int .i64 10) ∧ Below W.heap.size W w' :=
  cardCheck_any (lordCd s 1) setT 0 10 ((chkC_er _ _ _).symm.trans (by show chkC (erC (lordCd 0 1)) (setT.map erT) 0 = 10; decide +kernel)) W h ⟨by show 1 ≤ maxLen; unfold maxLen; omega, by show In64 0; unfold In64; omega⟩ hT
theorem chk_keys {W : World} {s : Nat} (hT : Tabs W) (h : CdR W (lordCd s 3) keysT) :
    Calls Tryd.prog 8 #[.agg #[.string ⟨#[98]⟩, .int .i64 2, .int .i64 0, .int .i64 0, .int .i64 0, .int .i64 0, .int .i64 0, .int .i64 2, .int .i64 2, .int .i64 0, .slice (some ⟨s, 0, none⟩) 3 3], .int .i64 0] W fun e w' => e = .returned (.int .i64 0) ∧ Below W.heap.size W w' :=
  cardCheck_any (lordCd s 3) keysT 0 0 ((chkC_er _ _ _).symm.trans (by show chkC (erC (lordCd 0 3)) (keysT.map erT) 0 = 0; decide +kernel)) W h ⟨by show 1 ≤ maxLen; unfold maxLen; omega, by show In64 0; unfold In64; omega⟩ hT
/-- All that the end reads. -/
def Fin5 (w W : World) (mb g gc x1 b1 d1 c1 x2 b2 t2 d2 x3 s3 x4 s4 : Nat) : Prop :=
  St w W ∧ Box W mb (manyCd g gc) (List.replicate 5 labT) ∧ Box W x1 (p1Cd b1) [wideT d1 c1] ∧ Box W x2 (p1Cd b2) [deepT t2 d2] ∧ Box W x3 (lordCd s3 1) setT ∧ Box W x4 (lordCd s4 3) keysT
theorem Fin5.next {w W W' : World} {mb g gc x1 b1 d1 c1 x2 b2 t2 d2 x3 s3 x4 s4 : Nat} (h : Fin5 w W mb g gc x1 b1 d1 c1 x2 b2 t2 d2 x3 s3 x4 s4) (k : Below W.heap.size W W') : Fin5 w W' mb g gc x1 b1 d1 c1 x2 b2 t2 d2 x3 s3 x4 s4 :=
  ⟨h.1.next k, h.2.1.next k, h.2.2.1.next k, h.2.2.2.1.next k, h.2.2.2.2.1.next k, h.2.2.2.2.2.next k⟩
/-- The world behind the last stores. -/
abbrev LastW (W : World) : World := ((((W.alloc (.cells #[.string ⟨#[98]⟩, .int .i64 2, .int .i64 0, .int .i64 0, .int .i64 0, .int .i64 0, .int .i64 0, .int .i64 2, .int .i64 2, .int .i64 0, .slice (some ⟨W.heap.size + 1, 0, none⟩) 1 1] 26)).alloc (.cells #[.int .i64 4, .int .i64 0, .int .i64 0, .int .i64 0, .int .i64 0, .int .i64 0, .int .i64 0, .bool false, .slice none 0 0, .slice none 0 0, .int .i64 3, .int .i64 0, .int .i64 16] 41)).alloc (.cells #[.string ⟨#[98]⟩, .int .i64 2, .int .i64 0, .int .i64 0, .int .i64 0, .int .i64 0, .int .i64 0, .int .i64 2, .int .i64 2, .int .i64 0, .slice (some ⟨W.heap.size + 1 + 1 + 1, 0, none⟩) 3 3] 26)).alloc (.cells #[.int .i64 4, .int .i64 0, .int .i64 0, .int .i64 0, .int .i64 0, .int .i64 0, .int .i64 0, .bool false, .slice none 0 0, .slice none 0 0, .int .i64 2, .int .i64 127, .int .i64 0, .int .i64 5, .int .i64 3, .int .i64 0, .int .i64 0, .int .i64 0, .int .i64 0, .int .i64 0, .bool false, .slice none 0 0, .slice none 0 0, .int .i64 0, .int .i64 0, .int .i64 0, .int .i64 3, .int .i64 6, .int .i64 2, .int .i64 0, .int .i64 0, .int .i64 0, .int .i64 0, .bool false, .slice none 0 0, .slice none 0 0, .int .i64 0, .int .i64 0, .int .i64 0] 41))
theorem fin_new {w W : World} {mb g gc x1 b1 d1 c1 x2 b2 t2 d2 : Nat} (s : St w W) (hm : Box W mb (manyCd g gc) (List.replicate 5 labT)) (h1 : Box W x1 (p1Cd b1) [wideT d1 c1]) (h2 : Box W x2 (p1Cd b2) [deepT t2 d2]) :
    Fin5 w (LastW W) mb g gc x1 b1 d1 c1 x2 b2 t2 d2 W.heap.size (W.heap.size + 1) (W.heap.size + 1 + 1) (W.heap.size + 1 + 1 + 1) := by
  have k : Below W.heap.size W (LastW W) := (((((Below.refl _ W).alloc (by simp) _).alloc (by simp) _).alloc (by simp <;> omega) _).alloc (by simp <;> omega) _)
  exact ⟨s.next k, hm.next k, h1.next k, h2.next k, ⟨(((blkAt_here _ _ _ _ rfl).up _).up _).up _, set_reads ((((blkAt_here _ _ _ _ (by simp)).up _).up _))⟩, ⟨(blkAt_here _ _ _ _ (by simp)).up _, keys_reads (blkAt_here _ _ _ _ (by simp))⟩⟩
end Go.Proofs.YtfhmadlobdklbaaDoor
