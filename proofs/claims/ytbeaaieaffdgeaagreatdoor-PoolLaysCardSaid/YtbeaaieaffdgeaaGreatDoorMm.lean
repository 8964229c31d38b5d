/- Texts that belong together: CardV, PoolYc, CardYf, CardYg, PoolFr, WireM, WireP, PoolD. -/
import Derived.Test.YtbeaaieaffdgeaaGreatDoorMl
import Derived.Test.YtbeaaieaffdgeaaGreatDoorRows
import Derived.WalkKit
import Derived.ProofKit
import Derived.OpenShut
import Derived.ChangeOld
import Derived.Below
import Derived.LaidMore
import Derived.LaidOnce
import Derived.Lay
import Derived.SevenTiedAt
import Derived.Stop.Joined
import Derived.Laws.IdiomArrays
import Derived.Lib.LaidTab
import Derived.Deep.Slices
import Derived.Deep.Strs
import Derived.Deep.Fields
import Derived.Test.YtbeaaieaffdgeaaGreatDoorMb
import Derived.Test.YtbeaaieaffdgeaaGreatDoorMe
/- bounded. -/
section
namespace Go.Proofs.YtbeaaieaffdgeaaGreatDoor
open Go.RowKit
set_option linter.unusedVariables false
set_option linter.unusedSimpArgs false

theorem abInfo : (Tryz.prog.info? 42).map (fun i => (i.zero, i.size, i.bytes)) = some (some (.agg #[.int .i64 0, .int .i64 0, .int .i64 0, .int .i64 0, .int .i64 0, .int .i64 0, .int .i64 0, .bool false, .slice none 0 0, .slice none 0 0, .int .i64 0, .int .i64 0, .int .i64 0]), 13, 136) := by kernel_rfl
theorem abCells_one (x : Ab) (u : Value) (h : u ∈ abCells x) : u.oneCell' = true := by
  simp only [abCells, List.mem_cons, List.not_mem_nil, or_false] at h
  rcases h with rfl | rfl | rfl | rfl | rfl | rfl | rfl | rfl | rfl | rfl | rfl | rfl | rfl <;> rfl
theorem abRow_append (A B : List AbT) : abRow (A ++ B) = abRow A ++ abRow B := by simp [abRow]
theorem abRow_one (A : List AbT) (u : Value) (h : u ∈ abRow A) : u.oneCell' = true := by
  simp only [abRow, List.mem_flatMap] at h
  obtain ⟨t, _, ht⟩ := h
  exact abCells_one _ _ ht
/-- Some card comes back. -/
def SomeC (X : Nat → Prop) (w w' : World) (e : Ending) : Prop := ∃ p, OutC X w w' e p
theorem Row.agree {X : Nat → Prop} {w W : World} {a : Option Addr} {c size n : Nat} {xs : List Value} (h : Row w a c size n xs) (hs : w.heap.size ≤ W.heap.size) (hc : ∀ g o, g < w.heap.size → ¬ X g → W.cell? ⟨g, o, none⟩ = w.cell? ⟨g, o, none⟩) (hb : ∀ p, a = some p → ¬ X p.block) : Row W a c size n xs := by
  obtain ⟨h1, h2, h3 | ⟨b, off, h3, h4, h5⟩⟩ := h
  · exact ⟨h1, h2, .inl h3⟩
  · exact ⟨h1, h2, .inr ⟨b, off, h3, Nat.lt_of_lt_of_le h4 hs, fun i hi => (hc _ _ h4 (hb _ h3)).trans (h5 i hi)⟩⟩
/-- What a card's walk leaves: a card of these cells, whose abilities are a row of the call's own. -/
theorem someC_own {X : Nat → Prop} {w W' : World} {B : Nat} {y : Cd} {A : List AbT} (hb : Below w.heap.size w W') (ho : W'.ownsRow B 42 13 (.slice y.aa y.an y.ac) y.an (abRow A)) (hB : w.heap.size ≤ B) (hX : ∀ g, X g → g < w.heap.size) (hn : A.length = y.an)
    (hr : ∀ W : World, w.heap.size ≤ W.heap.size → (∀ g o, g < w.heap.size → ¬ X g → W.cell? ⟨g, o, none⟩ = w.cell? ⟨g, o, none⟩) → ∀ t ∈ A, AbR W t.1 t.2.1 t.2.2) (hy : CdOk y) :
    SomeC X w W' (.returned (.agg #[.string y.nm, .int .i64 y.k, .int .i64 y.c0, .int .i64 y.c1, .int .i64 y.c2, .int .i64 y.c3, .int .i64 y.col, .int .i64 y.pow, .int .i64 y.tou, .int .i64 y.keys, .slice y.aa y.an y.ac])) := by
  obtain ⟨a, c, hv, hrow⟩ := own_row ho
  obtain ⟨rfl, rfl⟩ : y.aa = a ∧ y.ac = c := by
    injection hv with h1 h2 h3
    exact ⟨h1, h3⟩
  refine ⟨(erC y, A.map erT), y, A, rfl, fun W hs hc => ⟨hn, isA_row hn (fun t ht => hr W (Nat.le_trans hb.size hs) (fun g o hg hx => (hc g o (Nat.lt_of_lt_of_le hg hb.size) hx).trans (hb.cell (p := ⟨g, o, none⟩) hg)) t ht) (hrow.agree hs hc (fun p hp hx => ?_))⟩, hy, rfl, rfl, hb⟩
  have h1 := (ho.lt p.block (by rw [hp]; rfl)).1
  have h2 := hX _ hx
  omega
/-- An ability, its lists cut. -/
def cutT (t : AbT) : AbT := ({ t.1 with tn := min t.1.tn 4, cn := min t.1.cn 40 }, t.2.1.take 4, t.2.2.take 40)
theorem IsL.take {w : World} {a : Option Addr} {c : Nat} {L : List Int} (h : IsL w a c L) (n : Nat) : IsL w a c (L.take n) := by
  obtain ⟨h1, h2, h3⟩ := h
  refine ⟨by rw [List.length_take]; omega, h2, ?_⟩
  rcases h3 with h3 | ⟨b, off, h3, h4, h5⟩
  · left; rw [List.length_take]; omega
  · refine .inr ⟨b, off, h3, h4, fun j hj => ?_⟩
    rw [List.length_take] at hj
    rw [List.getElem_take]
    exact h5 j (by omega)
theorem IsC.take {w : World} {a : Option Addr} {c : Nat} {L : List Ins} (h : IsC w a c L) (n : Nat) : IsC w a c (L.take n) := by
  obtain ⟨h1, h2, h3⟩ := h
  refine ⟨by rw [List.length_take]; omega, h2, ?_⟩
  rcases h3 with h3 | ⟨b, off, h3, h4, h5⟩
  · left; rw [List.length_take]; omega
  · refine .inr ⟨b, off, h3, h4, fun j hj => ?_⟩
    rw [List.length_take] at hj
    rw [List.getElem_take]
    exact h5 j (by omega)
theorem AbR.cut {w : World} {t : AbT} (h : AbR w t.1 t.2.1 t.2.2) : AbR w (cutT t).1 (cutT t).2.1 (cutT t).2.2 := by
  obtain ⟨⟨h1, h2⟩, h3, h4⟩ := h
  exact ⟨⟨by simp only [cutT, List.length_take, h1]; omega, h2.take 4⟩, by simp only [cutT, List.length_take, h3]; omega, h4.take 40⟩
theorem new_cells_at (w : World) (cs : Array Value) (T : TypeId) (b : Nat) (hb : b = w.heap.size) (j : Nat) (u : Value) (h : cs.toList[j]? = some u) : (w.alloc (.cells cs T)).cell? ((⟨b, 0, none⟩ : Addr).add j) = some u := by
  subst hb
  exact new_cells w cs T j u h
/-- Block b is these cells, and may be written. -/
def BlkAt (w : World) (b : Nat) (cs : Array Value) (T : TypeId) : Prop := w.heap[b]? = some (.cells cs T (0, 0))
theorem BlkAt.next {w w' : World} {b : Nat} {cs : Array Value} {T : TypeId} (h : BlkAt w b cs T) (k : Below w.heap.size w w') : BlkAt w' b cs T :=
  (k.block b (Array.getElem?_eq_some_iff.1 h).1).trans h
theorem BlkAt.lt {w : World} {b : Nat} {cs : Array Value} {T : TypeId} (h : BlkAt w b cs T) : b < w.heap.size := (Array.getElem?_eq_some_iff.1 h).1
theorem BlkAt.free {w : World} {b : Nat} {cs : Array Value} {T : TypeId} (h : BlkAt w b cs T) (i : Nat) : w.frozen? ⟨b, i, none⟩ = false := by
  have : w.heap[b]? = some (.cells cs T (0, 0)) := h
  simp [World.frozen?, this]
theorem BlkAt.set' {w : World} {b : Nat} {cs : Array Value} {T : TypeId} (h : BlkAt w b cs T) (i : Nat) (v : Value) : BlkAt (w.setCell ⟨b, i, none⟩ v) b (cs.setIfInBounds i v) T := heap_setCell_same w b i cs T v h
theorem BlkAt.cell {w : World} {b : Nat} {cs : Array Value} {T : TypeId} (h : BlkAt w b cs T) (i : Nat) : w.cell? ⟨b, i, none⟩ = cs[i]? := by
  exact cell_of_row w b i cs T (0, 0) h
theorem BlkAt.cells11 {w : World} {b : Nat} {T : TypeId} {v0 v1 v2 v3 v4 v5 v6 v7 v8 v9 v10 : Value} (h : BlkAt w b #[v0, v1, v2, v3, v4, v5, v6, v7, v8, v9, v10] T) :
    (w.cell? ⟨b, 0, none⟩ = some v0 ∧ w.cell? ⟨b, 1, none⟩ = some v1 ∧ w.cell? ⟨b, 2, none⟩ = some v2 ∧ w.cell? ⟨b, 3, none⟩ = some v3 ∧ w.cell? ⟨b, 4, none⟩ = some v4 ∧ w.cell? ⟨b, 5, none⟩ = some v5 ∧ w.cell? ⟨b, 6, none⟩ = some v6 ∧
    w.cell? ⟨b, 7, none⟩ = some v7 ∧ w.cell? ⟨b, 8, none⟩ = some v8 ∧ w.cell? ⟨b, 9, none⟩ = some v9 ∧ w.cell? ⟨b, 10, none⟩ = some v10) ∧
    (w.frozen? ⟨b, 0, none⟩ = false ∧ w.frozen? ⟨b, 1, none⟩ = false ∧ w.frozen? ⟨b, 2, none⟩ = false ∧ w.frozen? ⟨b, 3, none⟩ = false ∧ w.frozen? ⟨b, 4, none⟩ = false ∧ w.frozen? ⟨b, 5, none⟩ = false ∧ w.frozen? ⟨b, 6, none⟩ = false ∧
    w.frozen? ⟨b, 7, none⟩ = false ∧ w.frozen? ⟨b, 8, none⟩ = false ∧ w.frozen? ⟨b, 9, none⟩ = false ∧ w.frozen? ⟨b, 10, none⟩ = false) :=
  ⟨⟨h.cell 0, h.cell 1, h.cell 2, h.cell 3, h.cell 4, h.cell 5, h.cell 6, h.cell 7, h.cell 8, h.cell 9, h.cell 10⟩, h.free 0, h.free 1, h.free 2, h.free 3, h.free 4, h.free 5, h.free 6, h.free 7, h.free 8, h.free 9, h.free 10⟩
theorem blkAt_one (w : World) (cs : Array Value) (T : TypeId) (o : Obj) : BlkAt ((w.alloc (.cells cs T)).alloc o) w.heap.size cs T :=
  (heap_alloc_old _ _ (by simp)).trans (heap_alloc_new w _)
theorem blkAt_two (w : World) (cs : Array Value) (T : TypeId) (o : Obj) : BlkAt ((w.alloc o).alloc (.cells cs T)) (w.heap.size + 1) cs T := by
  have := heap_alloc_new (w.alloc o) (.cells cs T)
  rw [World.size_alloc] at this
  exact this
theorem row_snoc {w : World} {B : Nat} {v : Value} {A : List AbT} {k : Nat} (hk : k < A.length) (h : w.ownsRow B 42 13 v (k + 1) (abRow (A.take k) ++ abCells A[k].1)) :
    w.ownsRow B 42 13 v (k + 1) (abRow (A.take (k + 1))) := by
  rw [List.take_succ_eq_append_getElem hk, abRow_append]
  simpa [abRow] using h
theorem grown_row {B : Nat} {w wr w1 : World} {o : Obj} {v : Value} {n : Nat} {xs : List Value} {e size : Nat} (h : Below B w wr) (hB : B ≤ wr.heap.size) (ho : wr.ownsRow B e size v n xs) (hg : (wr.alloc o).grownBy w1 v.ownBlock) : Below B w w1 :=
  (h.alloc hB o).grown hg (Nat.le_trans hB (by simp)) (fun k e => (ho.lt k e).1)
theorem grown_row2 {B : Nat} {w wr w1 : World} {o o2 : Obj} {v : Value} {n : Nat} {xs : List Value} {e size : Nat} (h : Below B w wr) (hB : B ≤ wr.heap.size) (ho : wr.ownsRow B e size v n xs) (hg : ((wr.alloc o).alloc o2).grownBy w1 v.ownBlock) : Below B w w1 :=
  grown_row (h.alloc hB o) (Nat.le_trans hB (by simp)) (ho.alloc o) hg
end Go.Proofs.YtbeaaieaffdgeaaGreatDoor
end
/- The laws' cut: some pool comes back, of bounded lists. -/
section
namespace Go.Proofs.YtbeaaieaffdgeaaGreatDoor
open Go.RowKit
set_option linter.unusedVariables false
set_option linter.unusedSimpArgs false

/-- It reads so, whatever becomes of the rows of cards from B on. -/
def Kx (B : Nat) (R : World → Prop) (w : World) : Prop :=
  ∀ W : World, w.heap.size ≤ W.heap.size → (∀ k o, w.heap[k]? = some o → (B ≤ k → ∀ c fz, o ≠ .cells c 38 fz) → W.heap[k]? = some o) → R W
theorem Kx.now {B : Nat} {R : World → Prop} {w : World} (h : Kx B R w) : R w := h w (Nat.le_refl _) fun _ _ h _ => h
theorem Kx.next {B : Nat} {R : World → Prop} {w w' : World} (h : Kx B R w) (k : Below w.heap.size w w') : Kx B R w' :=
  fun W hs hc => h W (Nat.le_trans k.size hs) fun j o hj ho => hc j o ((k.block j (Array.getElem?_eq_some_iff.1 hj).1).trans hj) ho
theorem Kx.row {B : Nat} {R : World → Prop} {w w' : World} {row : Option Nat} (h : Kx B R w) (g : w.grownBy w' row) (hr : ∀ k, row = some k → B ≤ k ∧ ∃ c fz, w.heap[k]? = some (.cells c 38 fz)) : Kx B R w' :=
  fun W hs hc => h W (Nat.le_trans g.size hs) fun j o hj ho => hc j o ((g.block j (Array.getElem?_eq_some_iff.1 hj).1 (fun e => by
    obtain ⟨h1, c, fz, h2⟩ := hr j e.symm
    rw [hj] at h2
    exact ho h1 c fz (Option.some.inj h2))).trans hj) ho
/-- An ability, its lists cut. -/
def cut5 (t : AbT) : AbT := ({ t.1 with tn := min t.1.tn 5, cn := min t.1.cn 35 }, t.2.1.take 5, t.2.2.take 35)
theorem AbR.cut5 {w : World} {t : AbT} (h : AbR w t.1 t.2.1 t.2.2) : AbR w (cut5 t).1 (cut5 t).2.1 (cut5 t).2.2 := by
  obtain ⟨⟨h1, h2⟩, h3, h4⟩ := h
  exact ⟨⟨by simp only [Proofs.YtbeaaieaffdgeaaGreatDoor.cut5, List.length_take, h1]; omega, h2.take 5⟩, by simp only [Proofs.YtbeaaieaffdgeaaGreatDoor.cut5, List.length_take, h3]; omega, h4.take 35⟩
theorem row_snoc' {w : World} {B : Nat} {v : Value} {A : List AbT} {k : Nat} (hk : k < A.length) (h : w.ownsRow B 42 13 v (k + 1) (abRow (A.take k) ++ abCells A[k].1)) :
    w.ownsRow B 42 13 v (k + 1) (abRow (A.take (k + 1))) := row_snoc hk h
/-- A pool of bounded lists. -/
def PlBnd (L : List CdT) : Prop := L.length ≤ 42 ∧ ∀ c ∈ L, CdOk c.1 ∧ CdT64 c ∧ c.1.nm.size ≤ 40 ∧ c.2.length ≤ 5 ∧ ∀ t ∈ c.2, t.2.1.length ≤ 5 ∧ t.2.2.length ≤ 35
theorem kx_card {B : Nat} {w wr : World} {y : Cd} {A : List AbT} {nm : ByteArray} {la : Option Addr} {lc k B2 : Nat} (hcx : CdX (fun g => w.heap.size ≤ g) w y A) (hB : B ≤ w.heap.size) (hw : Below w.heap.size w wr)
    (ho : wr.ownsRow B2 42 13 (.slice la k lc) k (abRow ((A.map cut5).take k))) (hk : k ≤ A.length) (hBw : w.heap.size ≤ B) :
    Kx B (fun W => CdR W { y with nm := nm, aa := la, an := k, ac := lc } ((A.map cut5).take k)) wr := by
  intro W hs hc
  have hbl : ∀ g o, g < w.heap.size → ¬ (w.heap.size ≤ g) → W.cell? ⟨g, o, none⟩ = w.cell? ⟨g, o, none⟩ := fun g o hg _ => by
    have h1 : ∃ ob, w.heap[g]? = some ob := ⟨_, Array.getElem?_eq_getElem hg⟩
    obtain ⟨ob, h1⟩ := h1
    have h2 := (hw.block g hg).trans h1
    have h3 := hc g ob h2 (fun h => by omega)
    exact World.cell?_of_block (w := w) (h3.trans h1.symm)
  have hA := hcx W (Nat.le_trans hw.size hs) hbl
  refine ⟨by rw [List.length_take, List.length_map]; show min k A.length = k; omega, ?_⟩
  have hrow : Row W la lc 13 k (abRow ((A.map cut5).take k)) := by
    have ho' := ho
    obtain ⟨h1, h2⟩ := ho
    rcases h2 with ⟨h3, h2⟩ | ⟨g, c, cur, h3, hg, hh, hcc, hm, _⟩
    · injection h3 with h4 h5 h6
      subst h2
      exact ⟨by omega, by omega, .inl rfl⟩
    · unfold maxLen at hm
      injection h3 with h4 h5 h6
      subst h6
      have h7 := hc g _ hh (fun _ c' fz e => by injection e with _ e2 _; revert e2; decide)
      refine ⟨hcc, hm, .inr ⟨g, 0, h4, Nat.lt_of_lt_of_le (Array.getElem?_eq_some_iff.1 hh).1 hs, fun i hi => ?_⟩⟩
      rw [Nat.zero_add, World.cell?_of_block (w := wr) (h7.trans hh.symm)]
      have h8 : (Value.slice la k lc).ownBlock = some g := by rw [h4]; rfl
      subst h4
      exact ho'.cellAt i (by omega)
  refine isA_row (by rw [List.length_take, List.length_map]; omega) (fun t ht => ?_) hrow
  obtain ⟨t0, ht0, rfl⟩ := List.mem_map.1 (List.mem_of_mem_take ht)
  exact (hA.2.2.2.1 t0 ht0).cut5
theorem cd64_cut {y : Cd} {A : List AbT} {nm : ByteArray} {la : Option Addr} {lc k : Nat} (h : CdT64 (y, A)) (hk : k ≤ A.length) : CdT64 ({ y with nm := nm, aa := la, an := k, ac := lc }, (A.map cut5).take k) := by
  obtain ⟨h1, h2⟩ := h
  refine ⟨by rw [List.length_take, List.length_map]; show min k A.length = k; omega, fun t ht => ?_⟩
  obtain ⟨t0, ht0, rfl⟩ := List.mem_map.1 (List.mem_of_mem_take ht)
  obtain ⟨a1, a2, a3, a4, a5⟩ := h2 t0 ht0
  refine ⟨by simp only [cut5, List.length_take, a1]; omega, by simp only [cut5, List.length_take, a2]; omega, a3, a4, fun i hi => a5 i (List.mem_of_mem_take hi)⟩
set_option maxRecDepth 100000 in
set_option maxHeartbeats 8000000 in
theorem cut_any (a : Option Addr) (c : Nat) (L : List CdT) (n : Nat) (hn : L.length = n) (hok : PCd L) (h64 : ∀ c ∈ L, CdT64 c) (w : World) (hp : IsP w a c L) :
    Calls Tryz.prog 5 #[.slice a n c] w fun e w' => ∃ L' a' c', e = .returned (.slice a' L'.length c') ∧ IsP w' a' c' L' ∧ PlBnd L' ∧ Below w.heap.size w w' := by
  obtain ⟨i0, hi, hz0, hz1, hz2⟩ := info_parts infoC
  obtain ⟨j0, hj, hy0, hy1, hy2⟩ := info_parts abInfo
  have hcp := hp.1
  have hcpm := hp.2.1
  rw [hn] at hcp
  have HP := Lib.hid hp
  have HO64 := Lib.hid h64
  have HOk := Lib.hid hok
  have HN := Lib.hid hn
  clear hp h64 hok hn
  go_enter Tryz.func5, Tryz.ntmps5
  go_wp2_with fail
  go_loopw [3, 4] (fun sv q wr => ∃ (k : Nat) (v3 : Value) (M : List CdT), v3 = sv ∧ q = .int .i64 (k : Int) ∧ k ≤ n ∧ k ≤ 42 ∧ M.length = k ∧ wr.ownsRow w.heap.size 38 11 v3 k (cdRow M) ∧ (∀ t ∈ M, Kx w.heap.size (fun W => CdR W t.1 t.2) wr) ∧ PlBnd M ∧ Below w.heap.size w wr) (fun sv q _ => 42 - (intOf q).toNat)
  case atStart => exact ⟨0, _, [], rfl, rfl, Nat.zero_le _, by omega, rfl, World.ownsRow_nil _ _ _ _, (fun t h => by cases h), ⟨by simp, fun c h => by cases h⟩, Below.refl _ _⟩
  case round =>
    obtain ⟨k, sv, M, rfl, rfl, hk, hk42, hM, hown, hkx, hbnd, hb⟩ := hrel
    have HO := Lib.hid hown
    have HB := Lib.hid hb
    have HK := Lib.hid hkx
    have HM := Lib.hid hM
    have HBn := Lib.hid hbnd
    clear hown hb hkx hM hbnd
    by_cases hlt : k < n ∧ k < 42
    · obtain ⟨hlt1, hlt2⟩ := hlt
      obtain ⟨b, off, y, A, hy, hcd, hpa, hbz, y0, y1, y2, y3, y4, y5, y6, y7, y8, y9, y10⟩ := (HP.out.next HB.out).at k (by rw [HN.out]; exact hlt1)
      have hmem : (y, A) ∈ L := by rw [hy]; exact List.getElem_mem _
      have HCX := Lib.hid (show CdX (fun g => w.heap.size ≤ g) w y A from (HP.out.2.2.1 (y, A) hmem).old (Below.refl _ _) (fun g h => h))
      have HYo := Lib.hid (HOk.out (y, A) hmem)
      have HY64 := Lib.hid (HO64.out (y, A) hmem)
      have HCd := Lib.hid hcd
      have HAn := Lib.hid hcd.1
      have hcap := hcd.2.1
      have hcm := hcd.2.2.1
      rw [hcd.1] at hcap
      have hs := HYo.out.1
      change y.nm.size ≤ maxLen at hs
      unfold maxLen at hs
      clear hy hmem hcd
      obtain ⟨nm2, hnm⟩ : ∃ nm2, nm2 = y.nm.extract 0 (min (y.nm.size : Int) 40).toNat := ⟨_, rfl⟩
      have HNm := Lib.hid (show nm2.size ≤ 40 by rw [hnm, ByteArray.size_extract]; omega)
      rw [hpa] at *
      have HBx := Lib.hid (HB.out.alloc HB.out.size (.cells #[.string nm2, .int .i64 y.k, .int .i64 y.c0, .int .i64 y.c1, .int .i64 y.c2, .int .i64 y.c3, .int .i64 y.col, .int .i64 y.pow, .int .i64 y.tou, .int .i64 y.keys, .slice y.aa y.an y.ac] 38))
      have HOx := Lib.hid (HO.out.alloc (.cells #[.string nm2, .int .i64 y.k, .int .i64 y.c0, .int .i64 y.c1, .int .i64 y.c2, .int .i64 y.c3, .int .i64 y.col, .int .i64 y.pow, .int .i64 y.tou, .int .i64 y.keys, .slice y.aa y.an y.ac] 38))
      have HKx := Lib.hid (show ∀ t ∈ M, Kx w.heap.size (fun W => CdR W t.1 t.2) (wr.alloc (.cells #[.string nm2, .int .i64 y.k, .int .i64 y.c0, .int .i64 y.c1, .int .i64 y.c2, .int .i64 y.c3, .int .i64 y.col, .int .i64 y.pow, .int .i64 y.tou, .int .i64 y.keys, .slice y.aa y.an y.ac] 38)) from fun t ht => (HK.out t ht).next (below_alloc1 _ _))
      have HCx := Lib.hid (show BlkAt (wr.alloc (.cells #[.string nm2, .int .i64 y.k, .int .i64 y.c0, .int .i64 y.c1, .int .i64 y.c2, .int .i64 y.c3, .int .i64 y.col, .int .i64 y.pow, .int .i64 y.tou, .int .i64 y.keys, .slice y.aa y.an y.ac] 38)) wr.heap.size #[.string nm2, .int .i64 y.k, .int .i64 y.c0, .int .i64 y.c1, .int .i64 y.c2, .int .i64 y.c3, .int .i64 y.col, .int .i64 y.pow, .int .i64 y.tou, .int .i64 y.keys, .slice y.aa y.an y.ac] 38 from heap_alloc_new wr _)
      have hzr : w.heap.size ≤ wr.heap.size := HB.out.size
      go_wp2_with fail
      rw [← hnm] at *
      clear hnm y0 y1 y2 y3 y4 y5 y6 y7 y8 y9 y10
      generalize wr.alloc (.cells #[.string nm2, .int .i64 y.k, .int .i64 y.c0, .int .i64 y.c1, .int .i64 y.c2, .int .i64 y.c3, .int .i64 y.col, .int .i64 y.pow, .int .i64 y.tou, .int .i64 y.keys, .slice y.aa y.an y.ac] 38) = W at *
      generalize wr = wq at *
      go_loopw [6, 7] (fun v q ws => ∃ (j : Nat) (v6 : Value), v6 = v ∧ q = .int .i64 (j : Int) ∧ j ≤ y.an ∧ j ≤ 5 ∧ ws.ownsRow W.heap.size 42 13 v6 j (abRow ((A.map cut5).take j)) ∧ Below W.heap.size W ws) (fun _ q _ => 5 - (intOf q).toNat)
      case atStart => exact ⟨0, _, rfl, rfl, Nat.zero_le _, by omega, World.ownsRow_nil _ _ _ _, Below.refl _ _⟩
      case round =>
        obtain ⟨j, sv6, rfl, rfl, hj1, hj5, hown, hbw⟩ := hrel
        have HOa := Lib.hid hown
        have HWa := Lib.hid hbw
        clear hown hbw
        obtain ⟨⟨q0, q1, q2, q3, q4, q5, q6, q7, q8, q9, q10⟩, f0, f1, f2, f3, f4, f5, f6, f7, f8, f9, f10⟩ := (HCx.out.next HWa.out).cells11
        by_cases hlt : j < y.an ∧ j < 5
        · obtain ⟨hl1, hl2⟩ := hlt
          obtain ⟨b2, off2, x, T, C, hx, hab, hta, hbl, m0, m1, m2, m3, m4, m5, m6, m7, m8, m9, m10, m11, m12⟩ := (HCX.out.now.2.next (below_then' HBx.out HWa.out HBx.out.size)).at j (by rw [HAn.out]; exact hl1)
          have HX := Lib.hid hx
          have hn1 := hab.1.1
          have hn2 := hab.1.2.1
          have hn3 := hab.1.2.2.1
          have hc1 := hab.2.1
          have hc2 := hab.2.2.1
          have hc3 := hab.2.2.2.1
          rw [hn1] at hn2
          rw [hc1] at hc2
          clear hx hab hn1 hc1
          obtain ⟨t4, ht4⟩ : ∃ t4, t4 = min x.tn 5 := ⟨_, rfl⟩
          obtain ⟨c4, hc4⟩ : ∃ c4, c4 = min x.cn 35 := ⟨_, rfl⟩
          have ht1 : min (x.tn : Int) 5 = (t4 : Int) := by omega
          have hd1 : min (x.cn : Int) 35 = (c4 : Int) := by omega
          have ht1' : (if (5 : Int) < (x.tn : Int) then (5 : Int) else (x.tn : Int)) = (t4 : Int) := by split <;> omega
          have hd1' : (if (35 : Int) < (x.cn : Int) then (35 : Int) else (x.cn : Int)) = (c4 : Int) := by split <;> omega
          have ht2 : t4 ≤ x.tn := by omega
          have ht3 : t4 ≤ x.tc := by omega
          have hd2 : c4 ≤ x.cn := by omega
          have hd3 : c4 ≤ x.cc := by omega
          have HT4 := Lib.hid ht4
          have HC4 := Lib.hid hc4
          rw [hta] at q10
          clear ht4 hc4 hta
          go_wp2_with (at_builtin; refine wpList_append_own _ rfl _ _ 36 rfl W.heap.size 42 j0 (.agg #[.int .i64 0, .int .i64 0, .int .i64 0, .int .i64 0, .int .i64 0, .int .i64 0, .int .i64 0, .bool false, .slice none 0 0, .slice none 0 0, .int .i64 0, .int .i64 0, .int .i64 0]) 13 136 Tryz.underlying36 hj hy0 hy1 hy2 rfl (by decide) _ j _ rfl ((HOa.out.alloc _).alloc _) ⟨wr.heap.size + 1, 0, none⟩ 1 1 [.int .i64 x.k, .int .i64 x.ev, .int .i64 x.wh, .int .i64 x.c0, .int .i64 x.c1, .int .i64 x.c2, .int .i64 x.c3, .bool x.tap, .slice x.ta t4 x.tc, .slice x.ca c4 x.cc, .int .i64 x.op, .int .i64 x.a, .int .i64 x.b] rfl rfl (new_cells_at _ #[.int .i64 x.k, .int .i64 x.ev, .int .i64 x.wh, .int .i64 x.c0, .int .i64 x.c1, .int .i64 x.c2, .int .i64 x.c3, .bool x.tap, .slice x.ta t4 x.tc, .slice x.ca c4 x.cc, .int .i64 x.op, .int .i64 x.a, .int .i64 x.b] _ _ (size_one _ _)) (abCells_one ⟨x.k, x.ev, x.wh, x.c0, x.c1, x.c2, x.c3, x.tap, x.ta, t4, x.tc, x.ca, c4, x.cc, x.op, x.a, x.b⟩) (by unfold maxLen; omega) (by omega) (by have := HWa.out.size; simp; omega) ?_; intro v' w1 hown' hgrow _; have HO2 := Lib.hid hown'; have HG := Lib.hid hgrow; clear hown' hgrow)
          have HB2 := Lib.hid (grown_row2 HWa.out HWa.out.size HOa.out HG.out)
          have HR2 := Lib.hid (row_snoc (A := A.map cut5) (k := j) (by rw [List.length_map, HAn.out]; exact hl1) (by
            have e : (A.map cut5)[j]'(by rw [List.length_map, HAn.out]; exact hl1) = ({ x with tn := t4, cn := c4 }, T.take 5, C.take 35) := by
              rw [List.getElem_map, ← HX.out, HT4.out, HC4.out]; rfl
            rw [e]
            exact HO2.out))
          go_roundw
          case rel => exact ⟨j + 1, _, rfl, by go_num, by omega, by omega, HR2.out, HB2.out⟩
          case measure => simp [intOf]; omega
        · obtain ⟨la, lc, rfl, hrow⟩ := own_row HOa.out
          clear hrow
          have hjA : j ≤ A.length := by rw [HAn.out]; exact hj1
          have hbk : wq.heap.size < wr.heap.size := (HCx.out.next HWa.out).lt
          have hWz : W.heap.size ≤ wr.heap.size := HWa.out.size
          have hWq : wq.heap.size < W.heap.size := HCx.out.lt
          have HWw := Lib.hid (below_then' HBx.out HWa.out HBx.out.size)
          have HKe := Lib.hid (kx_card (nm := nm2) (B := w.heap.size) HCX.out (Nat.le_refl _) HWw.out HOa.out hjA (Nat.le_refl _))
          have HGs := Lib.hid (grown_set (World.grownBy.refl wr (some wq.heap.size)) 10 (.slice la j lc))
          have hrowC : ∀ g, some wq.heap.size = some g → w.heap.size ≤ g ∧ ∃ c fz, wr.heap[g]? = some (.cells c 38 fz) := fun g e => by
            cases e
            exact ⟨hzr, _, _, (HCx.out.next HWa.out)⟩
          have HKe2 := Lib.hid (HKe.out.row HGs.out hrowC)
          have HKx2 := Lib.hid (show ∀ t ∈ M, Kx w.heap.size (fun W => CdR W t.1 t.2) (wr.setCell ⟨wq.heap.size, 10, none⟩ (.slice la j lc)) from fun t ht => ((HKx.out t ht).next HWa.out).row HGs.out hrowC)
          have HO2 := Lib.hid ((own_below HOx.out HWa.out).kept HGs.out (by
            rcases HO.out.2 with ⟨e1, _⟩ | ⟨g, cap, cur, e1, _, hg, _⟩
            · left; rw [e1]; rfl
            · right
              rw [e1]
              intro e2
              have h1 := (Array.getElem?_eq_some_iff.1 hg).1
              have h2 : g = wq.heap.size := Option.some.inj e2
              omega))
          have HW2 := Lib.hid (HWw.out.setCell (p := ⟨wq.heap.size, 10, none⟩) hzr (.slice la j lc))
          have HO3 := Lib.hid (HO2.out.alloc (.cells #[.string nm2, .int .i64 y.k, .int .i64 y.c0, .int .i64 y.c1, .int .i64 y.c2, .int .i64 y.c3, .int .i64 y.col, .int .i64 y.pow, .int .i64 y.tou, .int .i64 y.keys, .slice la j lc] 38))
          have hzq : (wr.setCell ⟨wq.heap.size, 10, none⟩ (.slice la j lc)).heap.size = wr.heap.size := by simp [World.setCell]
          have hzw := HW2.out.size
          clear hrowC HKe
          by_cases h1 : j < y.an
          all_goals
            go_wp2_with (at_builtin; refine wpList_append_own _ rfl _ _ 22 rfl w.heap.size 38 i0 (.agg #[.string ⟨#[]⟩, .int .i64 0, .int .i64 0, .int .i64 0, .int .i64 0, .int .i64 0, .int .i64 0, .int .i64 0, .int .i64 0, .int .i64 0, .slice none 0 0]) 11 112 Tryz.underlying22 hi hz0 hz1 hz2 rfl (by decide) _ k _ rfl HO3.out ⟨wr.heap.size, 0, none⟩ 1 1 [.string nm2, .int .i64 y.k, .int .i64 y.c0, .int .i64 y.c1, .int .i64 y.c2, .int .i64 y.c3, .int .i64 y.col, .int .i64 y.pow, .int .i64 y.tou, .int .i64 y.keys, .slice la j lc] rfl rfl (new_cells_at _ _ _ _ hzq.symm) (fun z hz => by simp only [List.mem_cons, List.not_mem_nil, or_false] at hz; rcases hz with rfl | rfl | rfl | rfl | rfl | rfl | rfl | rfl | rfl | rfl | rfl <;> rfl) (by unfold maxLen; omega) (by omega) (by simp; omega) ?_; intro sv5 w5 hown5 hgr5 hnil5; clear hnil5)
            have HRw := Lib.hid (fun g (e : sv.ownBlock = some g) => (⟨(HO3.out.lt g e).1, ownsRow_kind HO3.out g e⟩ : w.heap.size ≤ g ∧ ∃ c fz, ((wr.setCell ⟨wq.heap.size, 10, none⟩ (.slice la j lc)).alloc (.cells #[.string nm2, .int .i64 y.k, .int .i64 y.c0, .int .i64 y.c1, .int .i64 y.c2, .int .i64 y.c3, .int .i64 y.col, .int .i64 y.pow, .int .i64 y.tou, .int .i64 y.keys, .slice la j lc] 38)).heap[g]? = some (.cells c 38 fz)))
            have HO5 := Lib.hid (show w5.ownsRow w.heap.size 38 11 sv5 (k + 1) (cdRow (M ++ [({ y with nm := nm2, aa := la, an := j, ac := lc }, (A.map cut5).take j)])) by rw [cdRow_snoc]; exact hown5)
            have HK5 := Lib.hid (show ∀ t ∈ M ++ [(({ y with nm := nm2, aa := la, an := j, ac := lc }, (A.map cut5).take j) : CdT)], Kx w.heap.size (fun W => CdR W t.1 t.2) w5 from fun t ht => by
              rcases List.mem_append.1 ht with ht | ht
              · exact ((HKx2.out t ht).next (below_alloc1 _ _)).row hgr5 HRw.out
              · rw [List.mem_singleton.1 ht]
                exact (HKe2.out.next (below_alloc1 _ _)).row hgr5 HRw.out)
            have HB5 := Lib.hid ((HW2.out.alloc HW2.out.size (.cells #[.string nm2, .int .i64 y.k, .int .i64 y.c0, .int .i64 y.c1, .int .i64 y.c2, .int .i64 y.c3, .int .i64 y.col, .int .i64 y.pow, .int .i64 y.tou, .int .i64 y.keys, .slice la j lc] 38)).grown hgr5 (by simp; omega) (fun g e => (HO3.out.lt g e).1))
            have HBn5 := Lib.hid (show PlBnd (M ++ [({ y with nm := nm2, aa := la, an := j, ac := lc }, (A.map cut5).take j)]) from ⟨by have := HM.out; simp; omega, fun q hq => by
              rcases List.mem_append.1 hq with hq | hq
              · exact HBn.out.2 q hq
              · rw [List.mem_singleton.1 hq]
                refine ⟨⟨by have := HNm.out; show nm2.size ≤ maxLen; unfold maxLen; omega, HYo.out.2⟩, cd64_cut HY64.out hjA, HNm.out, by show ((A.map cut5).take j).length ≤ 5; rw [List.length_take]; omega, fun t ht => ?_⟩
                obtain ⟨t0, ht0, rfl⟩ := List.mem_map.1 (List.mem_of_mem_take ht)
                exact ⟨by show (t0.2.1.take 5).length ≤ 5; rw [List.length_take]; omega, by show (t0.2.2.take 35).length ≤ 35; rw [List.length_take]; omega⟩⟩)
            clear hown5 hgr5
            go_wp2_with fail
            go_roundw
            case rel => exact ⟨k + 1, _, _, rfl, by go_num, by omega, by omega, by have := HM.out; simp; omega, HO5.out, HK5.out, HBn5.out, HB5.out⟩
            case measure => simp [intOf]; omega
    · obtain ⟨a', c', rfl, hrow⟩ := own_row HO.out
      have HI := Lib.hid (show IsP wr a' c' M from isP_row HM.out (fun t ht => (HK.out t ht).now) hrow)
      clear hrow
      have hMk := HM.out
      by_cases h1 : k < n
      all_goals
        go_wp2_with fail
        go_ret
        exact ⟨M, a', c', by rw [hMk]; rfl, HI.out, HBn.out, HB.out⟩
end Go.Proofs.YtbeaaieaffdgeaaGreatDoor
end
/- What the frames of this layer share: the listed tables as the walks want them; a card as an argument. -/
section
namespace Go.Proofs.YtbeaaieaffdgeaaGreatDoor
open Go.ChangeShapes Go.WideShapes Go.ChangeAt Go.RowKit
set_option maxRecDepth 100000
set_option linter.unusedVariables false
set_option linter.unusedSimpArgs false

theorem own : ownKnob Tryz.prog.godebug = none := by kernel_rfl
theorem laidOut : laidOutB Tryz.prog = true := by kernel_rfl
/-- What the rows list. -/
abbrev listed : List (String × DataW Unit) := [("trefoil/card.kinds", Rows.laid_trefoil_card_kinds), ("trefoil/card.layers", Rows.laid_trefoil_card_layers), ("trefoil/card.instead", Rows.laid_trefoil_card_instead)]
theorem laid_reads {P : Program} {w : World} : ∀ {l : List (String × DataW Unit)} {ps : List MemPlace}, DataW.LaidVars P w l ps → ∀ {n : String} {d : DataW Unit}, (n, d) ∈ l →
    ∃ g t cs fuel p, P.globalNamed n = some g ∧ (P.globals[g]?).map (·.type) = some t ∧ w.var? P n = some cs ∧ DataW.trod (fun _ => ()) P w 0 (fun _ => true) false fuel t cs.toList = some (d, p)
  | [], _, _, _, _, hm => by cases hm
  | (n0, d0) :: r, ps, h, n, d, hm => by
    obtain ⟨g, t, cs, fuel, p, q, h1, h2, h3, h4, h5, _⟩ := h
    rcases List.mem_cons.1 hm with e | hm
    · cases e
      exact ⟨g, t, cs, fuel, p, h1, h2, h3, h4⟩
    · exact laid_reads h5 hm
theorem cInt : Tryz.prog.cellsOf 3 = 1 := by kernel_rfl
theorem cSpan : Tryz.prog.cellsOf 105 = 2 := by kernel_rfl
section
variable {H : Type} {enc : TypeId × Value → H} {W : World} {base : Nat} {sp : Nat → Bool} {held : Bool}
theorem one_int {fuel : Nat} {v : Value} {y : DataW H × List MemPlace} (h : DataW.trod enc Tryz.prog W base sp held fuel 3 [v] = some y) : ∃ n : Int, v = .int .i64 n ∧ y.1 = .lit (.int .i64 n) ∧ In64 n := by
  obtain ⟨n, e, hy, hw⟩ := DataW.trod_int Tryz.underlying3 h
  refine ⟨n, by simpa using e, by rw [hy], ?_⟩
  have := bounds_i64 hw
  exact this
/-- A row of four numbers: a struct of four. -/
theorem row_kinds {fuel : Nat} {cs : List Value} {a b c d : Int} {p : List MemPlace} (h : DataW.trod enc Tryz.prog W base sp held fuel 123 cs = some (.agg [.lit (.int .i64 a), .lit (.int .i64 b), .lit (.int .i64 c), .lit (.int .i64 d)], p)) :
    cs = [.int .i64 a, .int .i64 b, .int .i64 c, .int .i64 d] := by
  obtain ⟨xs, n, _, hx, hl, hxl, hf⟩ := DataW.trod_struct Tryz.underlying123 h
  rw [show Tryz.prog.cellsOf 123 = 4 by kernel_rfl] at hl
  match cs, hl, xs, hxl with
  | [v0, v1, v2, v3], _, [y0, y1, y2, y3], _ =>
    have h0 := hf 0 _ rfl
    have h1 := hf 1 _ rfl
    have h2 := hf 2 _ rfl
    have h3 := hf 3 _ rfl
    simp [cInt] at h0 h1 h2 h3 hx
    obtain ⟨n0, rfl, e0, _⟩ := one_int h0
    obtain ⟨n1, rfl, e1, _⟩ := one_int h1
    obtain ⟨n2, rfl, e2, _⟩ := one_int h2
    obtain ⟨n3, rfl, e3, _⟩ := one_int h3
    obtain ⟨⟨x0, x1, x2, x3⟩, _⟩ := hx
    rw [e0] at x0; rw [e1] at x1; rw [e2] at x2; rw [e3] at x3
    simp at x0 x1 x2 x3
    subst x0 x1 x2 x3
    rfl
theorem row_span {fuel : Nat} {v0 v1 : Value} {a b : Int} {y : DataW H × List MemPlace} (hy : y.1 = .agg [.lit (.int .i64 a), .lit (.int .i64 b)]) (h : DataW.trod enc Tryz.prog W base sp held fuel 105 [v0, v1] = some y) : v0 = .int .i64 a ∧ v1 = .int .i64 b := by
  obtain ⟨xs, n, _, hx, hl, hxl, hf⟩ := DataW.trod_struct Tryz.underlying105 h
  match xs, hxl with
  | [y0, y1], _ =>
    have h0 := hf 0 _ rfl
    have h1 := hf 1 _ rfl
    simp [cInt] at h0 h1
    obtain ⟨n0, rfl, e0, _⟩ := one_int h0
    obtain ⟨n1, rfl, e1, _⟩ := one_int h1
    rw [hx] at hy
    simp [e0, e1] at hy
    obtain ⟨x0, x1⟩ := hy
    subst x0 x1
    exact ⟨rfl, rfl⟩
theorem row_lay {fuel : Nat} {cs : List Value} {a b c d : Int} {p : List MemPlace} (h : DataW.trod enc Tryz.prog W base sp held fuel 137 cs = some (.agg [.agg [.lit (.int .i64 a), .lit (.int .i64 b)], .agg [.lit (.int .i64 c), .lit (.int .i64 d)]], p)) :
    cs = [.int .i64 a, .int .i64 b, .int .i64 c, .int .i64 d] := by
  obtain ⟨xs, n, _, hx, hl, hxl, hf⟩ := DataW.trod_struct Tryz.underlying137 h
  rw [show Tryz.prog.cellsOf 137 = 4 by kernel_rfl] at hl
  match cs, hl, xs, hxl with
  | [v0, v1, v2, v3], _, [y0, y1], _ =>
    have h0 := hf 0 _ rfl
    have h1 := hf 1 _ rfl
    simp [cSpan] at h0 h1 hx
    obtain ⟨⟨x0, x1⟩, _⟩ := hx
    obtain ⟨rfl, rfl⟩ := row_span x0.symm h0
    obtain ⟨rfl, rfl⟩ := row_span x1.symm h1
    rfl
theorem row_instr {fuel : Nat} {cs : List Value} {a b c d : Int} {p : List MemPlace} (h : DataW.trod enc Tryz.prog W base sp held fuel 139 cs = some (.agg [.agg [.lit (.int .i64 a), .lit (.int .i64 b)], .agg [.lit (.int .i64 c), .lit (.int .i64 d)]], p)) :
    cs = [.int .i64 a, .int .i64 b, .int .i64 c, .int .i64 d] := by
  obtain ⟨xs, n, _, hx, hl, hxl, hf⟩ := DataW.trod_struct Tryz.underlying139 h
  rw [show Tryz.prog.cellsOf 139 = 4 by kernel_rfl] at hl
  match cs, hl, xs, hxl with
  | [v0, v1, v2, v3], _, [y0, y1], _ =>
    have h0 := hf 0 _ rfl
    have h1 := hf 1 _ rfl
    simp [cSpan] at h0 h1 hx
    obtain ⟨⟨x0, x1⟩, _⟩ := hx
    obtain ⟨rfl, rfl⟩ := row_span x0.symm h0
    obtain ⟨rfl, rfl⟩ := row_span x1.symm h1
    rfl
/-- Five rows of four. -/
theorem five_rows {fuel : Nat} {t e : TypeId} {cs : List Value} {p : List MemPlace} (D : Int → Int → Int → Int → DataW H) (ht : Tryz.prog.underlying t = some (.array 5 e)) (hce : Tryz.prog.cellsOf e = 4) (hct : Tryz.prog.cellsOf t = 20)
    (hrow : ∀ (fuel : Nat) (cs : List Value) (a b c d : Int) (p : List MemPlace), DataW.trod enc Tryz.prog W base sp held fuel e cs = some (D a b c d, p) → cs = [.int .i64 a, .int .i64 b, .int .i64 c, .int .i64 d])
    (a0 b0 c0 d0 a1 b1 c1 d1 a2 b2 c2 d2 a3 b3 c3 d3 a4 b4 c4 d4 : Int)
    (h : DataW.trod enc Tryz.prog W base sp held fuel t cs = some (.agg [D a0 b0 c0 d0, D a1 b1 c1 d1, D a2 b2 c2 d2, D a3 b3 c3 d3, D a4 b4 c4 d4], p)) :
    cs = [a0, b0, c0, d0, a1, b1, c1, d1, a2, b2, c2, d2, a3, b3, c3, d3, a4, b4, c4, d4].map (Value.int .i64) := by
  obtain ⟨xs, m, _, hx, hl, hxl, hf⟩ := DataW.trod_array ht h
  rw [hct] at hl
  match cs, hl, xs, hxl with
  | [v0, v1, v2, v3, v4, v5, v6, v7, v8, v9, v10, v11, v12, v13, v14, v15, v16, v17, v18, v19], _, [y0, y1, y2, y3, y4], _ =>
    have h0 := hf 0 (by omega)
    have h1 := hf 1 (by omega)
    have h2 := hf 2 (by omega)
    have h3 := hf 3 (by omega)
    have h4 := hf 4 (by omega)
    simp [hce] at h0 h1 h2 h3 h4 hx
    obtain ⟨⟨x0, x1, x2, x3, x4⟩, _⟩ := hx
    obtain ⟨z0, p0⟩ := y0
    obtain ⟨z1, p1⟩ := y1
    obtain ⟨z2, p2⟩ := y2
    obtain ⟨z3, p3⟩ := y3
    obtain ⟨z4, p4⟩ := y4
    simp only at x0 x1 x2 x3 x4
    subst x0 x1 x2 x3 x4
    have r0 := hrow _ _ _ _ _ _ _ h0
    have r1 := hrow _ _ _ _ _ _ _ h1
    have r2 := hrow _ _ _ _ _ _ _ h2
    have r3 := hrow _ _ _ _ _ _ _ h3
    have r4 := hrow _ _ _ _ _ _ _ h4
    simp only [List.cons.injEq, and_true] at r0 r1 r2 r3 r4
    simp [r0, r1, r2, r3, r4]
end
theorem gK : Tryz.prog.globalNamed "trefoil/card.kinds" = some 0 := by kernel_rfl
theorem gL : Tryz.prog.globalNamed "trefoil/card.layers" = some 1 := by kernel_rfl
theorem gI : Tryz.prog.globalNamed "trefoil/card.instead" = some 2 := by kernel_rfl
theorem tK : (Tryz.prog.globals[0]?).map (·.type) = some 124 := by kernel_rfl
theorem tL : (Tryz.prog.globals[1]?).map (·.type) = some 138 := by kernel_rfl
theorem tI : (Tryz.prog.globals[2]?).map (·.type) = some 140 := by kernel_rfl
theorem kinds_cells {W : World} {cs : List Value} {fuel : Nat} {p : List MemPlace} (h : DataW.trod (fun _ => ()) Tryz.prog W 0 (fun _ => true) false fuel 124 cs = some (Rows.laid_trefoil_card_kinds, p)) : cs = kindsT.map (Value.int .i64) :=
  five_rows (fun a b c d => .agg [.lit (.int .i64 a), .lit (.int .i64 b), .lit (.int .i64 c), .lit (.int .i64 d)]) Tryz.underlying124 (by kernel_rfl) (by kernel_rfl) (fun _ _ _ _ _ _ _ h => row_kinds h) 0 0 0 0 0 3 0 0 20 0 15 127 20 0 0 64 20 0 0 64 h
theorem lay_cells {W : World} {cs : List Value} {fuel : Nat} {p : List MemPlace} (h : DataW.trod (fun _ => ()) Tryz.prog W 0 (fun _ => true) false fuel 138 cs = some (Rows.laid_trefoil_card_layers, p)) : cs = layT.map (Value.int .i64) :=
  five_rows (fun a b c d => .agg [.agg [.lit (.int .i64 a), .lit (.int .i64 b)], .agg [.lit (.int .i64 c), .lit (.int .i64 d)]]) Tryz.underlying138 (by kernel_rfl) (by kernel_rfl) (fun _ _ _ _ _ _ _ h => row_lay h) 0 0 0 0 1 127 0 0 1 127 0 0 0 15 0 15 (-15) 15 (-15) 15 h
theorem ins_cells {W : World} {cs : List Value} {fuel : Nat} {p : List MemPlace} (h : DataW.trod (fun _ => ()) Tryz.prog W 0 (fun _ => true) false fuel 140 cs = some (Rows.laid_trefoil_card_instead, p)) : cs = insT.map (Value.int .i64) :=
  five_rows (fun a b c d => .agg [.agg [.lit (.int .i64 a), .lit (.int .i64 b)], .agg [.lit (.int .i64 c), .lit (.int .i64 d)]]) Tryz.underlying140 (by kernel_rfl) (by kernel_rfl) (fun _ _ _ _ _ _ _ h => row_instr h) 0 0 0 0 0 0 1 999 0 1 0 0 0 0 0 999 0 1 0 0 h
theorem tab_at (T : List Int) (hT : T.length = 20) (j : Nat) (hj : j < 20) : (T.map (Value.int .i64))[j]? = some (.int .i64 (T.getD j 0)) := by
  rw [List.getElem?_map, List.getD, List.getElem?_eq_getElem (by omega)]
  rfl
theorem tabs_of_laid {W : World} (h : laidMetH Tryz.prog listed W) : Tabs W := by
  rw [MakeChecks.laidMetH_plain _ _ _ (by kernel_rfl)] at h
  obtain ⟨ps, hv, _⟩ := h
  have k1 : ∀ j, j < 20 → W.cell? ⟨0, j, none⟩ = some (.int .i64 (kindsT.getD j 0)) := by
    obtain ⟨g, t, cs, fuel, p, h1, h2, h3, h4⟩ := laid_reads hv (n := "trefoil/card.kinds") (d := Rows.laid_trefoil_card_kinds) (by simp)
    obtain rfl := Option.some.inj (gK.symm.trans h1)
    obtain rfl := Option.some.inj (tK.symm.trans h2)
    intro j hj
    rw [World.var?_cell gK h3 j, ← Array.getElem?_toList, kinds_cells h4]
    exact tab_at _ rfl j hj
  have k2 : ∀ j, j < 20 → W.cell? ⟨1, j, none⟩ = some (.int .i64 (layT.getD j 0)) := by
    obtain ⟨g, t, cs, fuel, p, h1, h2, h3, h4⟩ := laid_reads hv (n := "trefoil/card.layers") (d := Rows.laid_trefoil_card_layers) (by simp)
    obtain rfl := Option.some.inj (gL.symm.trans h1)
    obtain rfl := Option.some.inj (tL.symm.trans h2)
    intro j hj
    rw [World.var?_cell gL h3 j, ← Array.getElem?_toList, lay_cells h4]
    exact tab_at _ rfl j hj
  have k3 : ∀ j, j < 20 → W.cell? ⟨2, j, none⟩ = some (.int .i64 (insT.getD j 0)) := by
    obtain ⟨g, t, cs, fuel, p, h1, h2, h3, h4⟩ := laid_reads hv (n := "trefoil/card.instead") (d := Rows.laid_trefoil_card_instead) (by simp)
    obtain rfl := Option.some.inj (gI.symm.trans h1)
    obtain rfl := Option.some.inj (tI.symm.trans h2)
    intro j hj
    rw [World.var?_cell gI h3 j, ← Array.getElem?_toList, ins_cells h4]
    exact tab_at _ rfl j hj
  exact ⟨World.block_lt_of_cell? W _ (k3 0 (by omega)), k1, k2, k3⟩
/-- A start that meets the condition. -/
theorem met (os : Os) (args : Array Value) : laidMetH Tryz.prog listed ((World.laidAll Tryz.prog os listed).forCall (fun _ _ => 0) ⟨#[], args, []⟩).memory := by
  rw [MakeChecks.laidMetH_plain _ _ _ (by kernel_rfl)]
  exact laidMet_laidAll _ (by kernel_rfl) (by kernel_rfl)
theorem start_shaped (os : Os) (args : Array Value) : ((World.laidAll Tryz.prog os listed).forCall (fun _ _ => 0) ⟨#[], args, []⟩).Shaped Tryz.prog :=
  World.shaped_of_ZipB (by kernel_rfl) (by kernel_rfl)
end Go.Proofs.YtbeaaieaffdgeaaGreatDoor
end
/- A card as an argument. -/
section
namespace Go.Proofs.YtbeaaieaffdgeaaGreatDoor
open Go.ChangeShapes Go.WideShapes Go.ChangeAt Go.RowKit
set_option maxRecDepth 100000
set_option linter.unusedVariables false
set_option linter.unusedSimpArgs false

instance : Inhabited Ins := ⟨⟨0, 0, 0⟩⟩
instance : Inhabited AbT := ⟨(⟨0, 0, 0, 0, 0, 0, 0, false, none, 0, 0, none, 0, 0, 0, 0, 0⟩, [], [])⟩
theorem cIns : Tryz.prog.cellsOf 82 = 3 := by kernel_rfl
theorem cAb : Tryz.prog.cellsOf 42 = 13 := by kernel_rfl
theorem cMana : Tryz.prog.cellsOf 35 = 4 := by kernel_rfl
theorem cBool : Tryz.prog.cellsOf 4 = 1 := by kernel_rfl
theorem cStr : Tryz.prog.cellsOf 9 = 1 := by kernel_rfl
theorem cInts : Tryz.prog.cellsOf 39 = 1 := by kernel_rfl
theorem cCode : Tryz.prog.cellsOf 40 = 1 := by kernel_rfl
theorem cAbs : Tryz.prog.cellsOf 36 = 1 := by kernel_rfl
theorem cCard : Tryz.prog.cellsOf 38 = 11 := by kernel_rfl
theorem list3 {α : Type} (l : List α) (h : l.length = 3) : ∃ a b c, l = [a, b, c] := by
  match l, h with
  | [a, b, c], _ => exact ⟨a, b, c, rfl⟩
section
variable {H : Type} {enc : TypeId × Value → H} {W : World} {base : Nat} {sp : Nat → Bool} {held : Bool}
theorem open_ins {fuel : Nat} {cs : List Value} {x : DataW H × List MemPlace} (h : DataW.trod enc Tryz.prog W base sp held fuel 82 cs = some x) :
    ∃ y : Ins, cs = [.int .i64 y.op, .int .i64 y.a, .int .i64 y.b] := by
  obtain ⟨y0, y1, y2, n, _, hl, h0, h1, h2⟩ := Deep.trod_struct3 Tryz.underlying82 h
  rw [cIns] at hl
  obtain ⟨c0, c1, c2, rfl⟩ := list3 cs hl
  obtain ⟨x0, e0, _, w0⟩ := DataW.trod_int Tryz.underlying3 h0
  obtain ⟨x1, e1, _, w1⟩ := DataW.trod_int Tryz.underlying3 h1
  obtain ⟨x2, e2, _, w2⟩ := DataW.trod_int Tryz.underlying3 h2
  simp [cInt] at e0 e1 e2
  subst e0 e1 e2
  exact ⟨⟨x0, x1, x2⟩, rfl⟩
theorem open_code {fuel : Nat} {v : Value} {x : DataW H × List MemPlace} (h : DataW.trod enc Tryz.prog W base sp held fuel 40 [v] = some x) :
    ∃ (a : Option Addr) (len cap : Nat) (L : List Ins), v = .slice a len cap ∧ L.length = len ∧ IsC W a cap L := by
  rcases Deep.open_slice Tryz.underlying40 h with ⟨hcs, _⟩ | ⟨x, len, cap, m, n, D, Pl, hcs, _, hl, hm, hmm, _, hx⟩
  · simp at hcs
    exact ⟨none, 0, 0, [], hcs, rfl, IsC.nil _⟩
  · simp at hcs
    have hall : ∀ i, i < len → ∃ y : Ins, W.cell? (x.add (i * 3)) = some (.int .i64 y.op) ∧ W.cell? ((x.add (i * 3)).add 1) = some (.int .i64 y.a) ∧ W.cell? ((x.add (i * 3)).add 2) = some (.int .i64 y.b) := fun i hi => by
      obtain ⟨cs', h1, h2⟩ := hx i (by rw [hmm]; split <;> omega)
      rw [cIns] at h1
      obtain ⟨_, h3, h4⟩ := World.cells?_some h1
      obtain ⟨y, rfl⟩ := open_ins h2
      refine ⟨y, ?_, h4 1 (by omega), h4 2 (by omega)⟩
      have := h4 0 (by omega)
      rwa [show (x.add (i * 3)).add 0 = x.add (i * 3) by simp [Addr.add]] at this
    obtain ⟨Y, hY⟩ := Deep.choose_lt (α := Ins) (n := len) (p := fun i y => W.cell? (x.add (i * 3)) = some (.int .i64 y.op) ∧ W.cell? ((x.add (i * 3)).add 1) = some (.int .i64 y.a) ∧ W.cell? ((x.add (i * 3)).add 2) = some (.int .i64 y.b)) hall
    refine ⟨_, _, _, (List.range len).map Y, hcs, by simp, by simpa using hl, by unfold maxLen at hm; omega, ?_⟩
    by_cases hz : len = 0
    · left; simpa using hz
    · right
      have h00 := (hY 0 (by omega)).1
      obtain ⟨b, off, spot⟩ := x
      have hspot : spot = none := by
        have := World.cell?_spot h00
        simpa [Addr.add] using this
      subst hspot
      refine ⟨b, off, rfl, by rw [add_plain] at h00; exact World.block_lt_of_cell? W _ h00, fun j hj => ?_⟩
      simp only [List.length_map, List.length_range] at hj
      obtain ⟨q0, q1, q2⟩ := hY j hj
      simp only [List.getElem_map, List.getElem_range]
      rw [add_plain] at q0 q1 q2
      rw [add_plain] at q1 q2
      exact ⟨q0, q1, q2⟩
theorem open_ints {fuel : Nat} {v : Value} {x : DataW H × List MemPlace} (h : DataW.trod enc Tryz.prog W base sp held fuel 39 [v] = some x) :
    ∃ (a : Option Addr) (len cap : Nat) (L : List Int), v = .slice a len cap ∧ L.length = len ∧ IsL W a cap L := by
  rcases Deep.open_slice Tryz.underlying39 h with ⟨hcs, _⟩ | ⟨x, len, cap, m, n, D, Pl, hcs, _, hl, hm, hmm, _, hx⟩
  · simp at hcs
    exact ⟨none, 0, 0, [], hcs, rfl, IsL.nil _⟩
  · simp at hcs
    have hall : ∀ i, i < len → ∃ y : Int, W.cell? (x.add i) = some (.int .i64 y) := fun i hi => by
      obtain ⟨cs', h1, h2⟩ := hx i (by rw [hmm]; split <;> omega)
      rw [cInt] at h1
      obtain ⟨_, h3, h4⟩ := World.cells?_some h1
      obtain ⟨y, rfl, _, _⟩ := DataW.trod_int Tryz.underlying3 h2
      refine ⟨y, ?_⟩
      have := h4 0 (by omega)
      rw [Nat.mul_one] at this
      rwa [show (x.add i).add 0 = x.add i by simp [Addr.add]] at this
    obtain ⟨Y, hY⟩ := Deep.choose_lt (α := Int) (n := len) (p := fun i y => W.cell? (x.add i) = some (.int .i64 y)) hall
    refine ⟨_, _, _, (List.range len).map Y, hcs, by simp, by simpa using hl, by unfold maxLen at hm; omega, ?_⟩
    by_cases hz : len = 0
    · left; simpa using hz
    · right
      have h00 := hY 0 (by omega)
      obtain ⟨b, off, spot⟩ := x
      have hspot : spot = none := by
        have := World.cell?_spot h00
        simpa [Addr.add] using this
      subst hspot
      refine ⟨b, off, rfl, by rw [add_plain] at h00; exact World.block_lt_of_cell? W _ h00, fun j hj => ?_⟩
      simp only [List.length_map, List.length_range] at hj
      have q0 := hY j hj
      simp only [List.getElem_map, List.getElem_range]
      rw [add_plain] at q0
      exact q0
theorem open_mana {fuel : Nat} {v0 v1 v2 v3 : Value} {x : DataW H × List MemPlace} (h : DataW.trod enc Tryz.prog W base sp held fuel 35 [v0, v1, v2, v3] = some x) :
    ∃ n0 n1 n2 n3 : Int, v0 = .int .i64 n0 ∧ v1 = .int .i64 n1 ∧ v2 = .int .i64 n2 ∧ v3 = .int .i64 n3 := by
  obtain ⟨xs, m, _, hx, hl, hxl, hf⟩ := DataW.trod_array Tryz.underlying35 h
  match xs, hxl with
  | [y0, y1, y2, y3], _ =>
    have h0 := hf 0 (by omega)
    have h1 := hf 1 (by omega)
    have h2 := hf 2 (by omega)
    have h3 := hf 3 (by omega)
    simp [cInt] at h0 h1 h2 h3
    obtain ⟨n0, rfl, _, _⟩ := one_int h0
    obtain ⟨n1, rfl, _, _⟩ := one_int h1
    obtain ⟨n2, rfl, _, _⟩ := one_int h2
    obtain ⟨n3, rfl, _, _⟩ := one_int h3
    exact ⟨n0, n1, n2, n3, rfl, rfl, rfl, rfl⟩
theorem open_ab {fuel : Nat} {cs : List Value} {x : DataW H × List MemPlace} (h : DataW.trod enc Tryz.prog W base sp held fuel 42 cs = some x) :
    ∃ t : AbT, cs = abCells t.1 ∧ AbR W t.1 t.2.1 t.2.2 := by
  obtain ⟨xs, n, _, hx, hl, hxl, hf⟩ := DataW.trod_struct Tryz.underlying42 h
  rw [cAb] at hl
  match cs, hl, xs, hxl with
  | [v0, v1, v2, v3, v4, v5, v6, v7, v8, v9, v10, v11, v12], _, [y0, y1, y2, y3, y4, y5, y6, y7, y8, y9], _ =>
    have h0 := hf 0 _ rfl
    have h1 := hf 1 _ rfl
    have h2 := hf 2 _ rfl
    have h3 := hf 3 _ rfl
    have h4 := hf 4 _ rfl
    have h5 := hf 5 _ rfl
    have h6 := hf 6 _ rfl
    have h7 := hf 7 _ rfl
    have h8 := hf 8 _ rfl
    have h9 := hf 9 _ rfl
    simp [cInt, cMana, cBool, cInts, cCode] at h0 h1 h2 h3 h4 h5 h6 h7 h8 h9
    obtain ⟨k, rfl, _, _⟩ := one_int h0
    obtain ⟨ev, rfl, _, _⟩ := one_int h1
    obtain ⟨wh, rfl, _, _⟩ := one_int h2
    obtain ⟨c0, c1, c2, c3, rfl, rfl, rfl, rfl⟩ := open_mana h3
    obtain ⟨tap, e4, _⟩ := DataW.trod_bool Tryz.underlying4 h4
    obtain ⟨ta, tn, tc, T, rfl, t1, t2⟩ := open_ints h5
    obtain ⟨ca, cn, cc, L, rfl, l1, l2⟩ := open_code h6
    obtain ⟨op, rfl, _, _⟩ := one_int h7
    obtain ⟨a, rfl, _, _⟩ := one_int h8
    obtain ⟨b, rfl, _, _⟩ := one_int h9
    simp at e4
    subst e4
    exact ⟨(⟨k, ev, wh, c0, c1, c2, c3, tap, ta, tn, tc, ca, cn, cc, op, a, b⟩, T, L), rfl, ⟨t1, t2⟩, l1, l2⟩
theorem open_abils {fuel : Nat} {v : Value} {x : DataW H × List MemPlace} (h : DataW.trod enc Tryz.prog W base sp held fuel 36 [v] = some x) :
    ∃ (a : Option Addr) (len cap : Nat) (A : List AbT), v = .slice a len cap ∧ A.length = len ∧ IsA W a cap A := by
  rcases Deep.open_slice Tryz.underlying36 h with ⟨hcs, _⟩ | ⟨x, len, cap, m, n, D, Pl, hcs, _, hl, hm, hmm, _, hx⟩
  · simp at hcs
    exact ⟨none, 0, 0, [], hcs, rfl, IsA.nil _⟩
  · simp at hcs
    have hall : ∀ i, i < len → ∃ t : AbT, (∀ j, j < 13 → W.cell? ((x.add (i * 13)).add j) = (abCells t.1)[j]?) ∧ AbR W t.1 t.2.1 t.2.2 := fun i hi => by
      obtain ⟨cs', h1, h2⟩ := hx i (by rw [hmm]; split <;> omega)
      rw [cAb] at h1
      obtain ⟨_, h3, h4⟩ := World.cells?_some h1
      obtain ⟨t, rfl, ht⟩ := open_ab h2
      exact ⟨t, h4, ht⟩
    obtain ⟨Y, hY⟩ := Deep.choose_lt (α := AbT) (n := len) (p := fun i t => (∀ j, j < 13 → W.cell? ((x.add (i * 13)).add j) = (abCells t.1)[j]?) ∧ AbR W t.1 t.2.1 t.2.2) hall
    refine ⟨_, _, _, (List.range len).map Y, hcs, by simp, by simpa using hl, by unfold maxLen at hm; omega, fun t ht => ?_, ?_⟩
    · obtain ⟨i, hi, rfl⟩ := List.mem_map.1 ht
      exact (hY i (by simpa using hi)).2
    · by_cases hz : len = 0
      · left; simpa using hz
      · right
        have h00 := (hY 0 (by omega)).1 0 (by omega)
        obtain ⟨b, off, spot⟩ := x
        have hspot : spot = none := by
          have := World.cell?_spot (h00.trans rfl)
          simpa [Addr.add] using this
        subst hspot
        refine ⟨b, off, rfl, by rw [add_plain, add_plain] at h00; exact World.block_lt_of_cell? W _ (h00.trans rfl), fun j hj i hi => ?_⟩
        simp only [List.length_map, List.length_range] at hj
        have q0 := (hY j hj).1 i hi
        simp only [List.getElem_map, List.getElem_range]
        rw [add_plain, add_plain] at q0
        exact q0
theorem open_card {r : Reach} {b0 : Nat} {v : Value} {d : DataW H} {p : List MemPlace} (hv : Value.okWide Tryz.prog W r b0 38 v) (h : DataW.Trod enc Tryz.prog W base sp held 38 v d p) :
    ∃ (y : Cd) (A : List AbT), v = .agg #[.string y.nm, .int .i64 y.k, .int .i64 y.c0, .int .i64 y.c1, .int .i64 y.c2, .int .i64 y.c3, .int .i64 y.col, .int .i64 y.pow, .int .i64 y.tou, .int .i64 y.keys, .slice y.aa y.an y.ac] ∧ CdR W y A ∧ CdOk y := by
  obtain ⟨cs, rfl, hsz⟩ := okWide_struct Tryz.underlying38 hv
  obtain ⟨l⟩ := cs
  match l, hsz.trans cCard with
  | [v0, v1, v2, v3, v4, v5, v6, v7, v8, v9, v10], _ =>
    obtain ⟨fuel, hf'⟩ := h
    obtain ⟨xs, n, _, hx, _, hxl, hf⟩ := DataW.trod_struct Tryz.underlying38 hf'
    match xs, hxl with
    | [y0, y1, y2, y3, y4, y5, y6, y7], _ =>
      have h0 := hf 0 _ rfl
      have h1 := hf 1 _ rfl
      have h2 := hf 2 _ rfl
      have h3 := hf 3 _ rfl
      have h4 := hf 4 _ rfl
      have h5 := hf 5 _ rfl
      have h6 := hf 6 _ rfl
      have h7 := hf 7 _ rfl
      simp [Value.cells, cInt, cMana, cStr, cAbs] at h0 h1 h2 h3 h4 h5 h6 h7
      obtain ⟨nm, e0, _, hnm⟩ := DataW.trod_string Tryz.underlying9 h0
      obtain ⟨k, rfl, _, _⟩ := one_int h1
      obtain ⟨c0, c1, c2, c3, rfl, rfl, rfl, rfl⟩ := open_mana h2
      obtain ⟨col, rfl, _, _⟩ := one_int h3
      obtain ⟨pow, rfl, _, _⟩ := one_int h4
      obtain ⟨tou, rfl, _, _⟩ := one_int h5
      obtain ⟨keys, rfl, _, hk⟩ := one_int h6
      obtain ⟨aa, an, ac, A, rfl, a1, a2⟩ := open_abils h7
      simp at e0
      subst e0
      exact ⟨⟨nm, k, c0, c1, c2, c3, col, pow, tou, keys, aa, an, ac⟩, A, rfl, ⟨a1, a2⟩, hnm, hk⟩
end
end Go.Proofs.YtbeaaieaffdgeaaGreatDoor
end
/- A pool as an argument. -/
section
namespace Go.Proofs.YtbeaaieaffdgeaaGreatDoor
open Go.ChangeShapes Go.WideShapes Go.ChangeAt Go.RowKit
set_option maxRecDepth 100000
set_option linter.unusedVariables false
set_option linter.unusedSimpArgs false

instance : Inhabited CdT := ⟨(landC ⟨#[]⟩, [])⟩
section
variable {H : Type} {enc : TypeId × Value → H} {W : World} {base : Nat} {sp : Nat → Bool} {held : Bool}
theorem open_ins64 {fuel : Nat} {cs : List Value} {x : DataW H × List MemPlace} (h : DataW.trod enc Tryz.prog W base sp held fuel 82 cs = some x) :
    ∃ y : Ins, cs = [.int .i64 y.op, .int .i64 y.a, .int .i64 y.b] ∧ In64 y.a ∧ In64 y.b := by
  obtain ⟨y0, y1, y2, n, _, hl, h0, h1, h2⟩ := Deep.trod_struct3 Tryz.underlying82 h
  rw [cIns] at hl
  obtain ⟨c0, c1, c2, rfl⟩ := list3 cs hl
  obtain ⟨x0, e0, _, w0⟩ := DataW.trod_int Tryz.underlying3 h0
  obtain ⟨x1, e1, _, w1⟩ := DataW.trod_int Tryz.underlying3 h1
  obtain ⟨x2, e2, _, w2⟩ := DataW.trod_int Tryz.underlying3 h2
  simp [cInt] at e0 e1 e2
  subst e0 e1 e2
  exact ⟨⟨x0, x1, x2⟩, rfl, bounds_i64 w1, bounds_i64 w2⟩
theorem open_code64 {fuel : Nat} {v : Value} {x : DataW H × List MemPlace} (h : DataW.trod enc Tryz.prog W base sp held fuel 40 [v] = some x) :
    ∃ (a : Option Addr) (len cap : Nat) (L : List Ins), v = .slice a len cap ∧ L.length = len ∧ IsC W a cap L ∧ ∀ i ∈ L, In64 i.a ∧ In64 i.b := by
  rcases Deep.open_slice Tryz.underlying40 h with ⟨hcs, _⟩ | ⟨x, len, cap, m, n, D, Pl, hcs, _, hl, hm, hmm, _, hx⟩
  · simp at hcs
    exact ⟨none, 0, 0, [], hcs, rfl, IsC.nil _, fun i h => by cases h⟩
  · simp at hcs
    have hall : ∀ i, i < len → ∃ y : Ins, W.cell? (x.add (i * 3)) = some (.int .i64 y.op) ∧ W.cell? ((x.add (i * 3)).add 1) = some (.int .i64 y.a) ∧ W.cell? ((x.add (i * 3)).add 2) = some (.int .i64 y.b) ∧ In64 y.a ∧ In64 y.b := fun i hi => by
      obtain ⟨cs', h1, h2⟩ := hx i (by rw [hmm]; split <;> omega)
      rw [cIns] at h1
      obtain ⟨_, h3, h4⟩ := World.cells?_some h1
      obtain ⟨y, rfl, u1, u2⟩ := open_ins64 h2
      refine ⟨y, ?_, h4 1 (by omega), h4 2 (by omega), u1, u2⟩
      have := h4 0 (by omega)
      rwa [show (x.add (i * 3)).add 0 = x.add (i * 3) by simp [Addr.add]] at this
    obtain ⟨Y, hY⟩ := Deep.choose_lt (α := Ins) (n := len) (p := fun i y => W.cell? (x.add (i * 3)) = some (.int .i64 y.op) ∧ W.cell? ((x.add (i * 3)).add 1) = some (.int .i64 y.a) ∧ W.cell? ((x.add (i * 3)).add 2) = some (.int .i64 y.b) ∧ In64 y.a ∧ In64 y.b) hall
    refine ⟨_, _, _, (List.range len).map Y, hcs, by simp, ⟨by simpa using hl, by unfold maxLen at hm; omega, ?_⟩, fun i h => by
      obtain ⟨j, hj, rfl⟩ := List.mem_map.1 h
      exact (hY j (by simpa using hj)).2.2.2⟩
    by_cases hz : len = 0
    · left; simpa using hz
    · right
      have h00 := (hY 0 (by omega)).1
      obtain ⟨b, off, spot⟩ := x
      have hspot : spot = none := by
        have := World.cell?_spot h00
        simpa [Addr.add] using this
      subst hspot
      refine ⟨b, off, rfl, by rw [add_plain] at h00; exact World.block_lt_of_cell? W _ h00, fun j hj => ?_⟩
      simp only [List.length_map, List.length_range] at hj
      obtain ⟨q0, q1, q2, _⟩ := hY j hj
      simp only [List.getElem_map, List.getElem_range]
      rw [add_plain] at q0 q1 q2
      rw [add_plain] at q1 q2
      exact ⟨q0, q1, q2⟩
theorem open_ab64 {fuel : Nat} {cs : List Value} {x : DataW H × List MemPlace} (h : DataW.trod enc Tryz.prog W base sp held fuel 42 cs = some x) :
    ∃ t : AbT, cs = abCells t.1 ∧ AbR W t.1 t.2.1 t.2.2 ∧ In64 t.1.a ∧ In64 t.1.b ∧ ∀ i ∈ t.2.2, In64 i.a ∧ In64 i.b := by
  obtain ⟨xs, n, _, hx, hl, hxl, hf⟩ := DataW.trod_struct Tryz.underlying42 h
  rw [cAb] at hl
  match cs, hl, xs, hxl with
  | [v0, v1, v2, v3, v4, v5, v6, v7, v8, v9, v10, v11, v12], _, [y0, y1, y2, y3, y4, y5, y6, y7, y8, y9], _ =>
    have h0 := hf 0 _ rfl
    have h1 := hf 1 _ rfl
    have h2 := hf 2 _ rfl
    have h3 := hf 3 _ rfl
    have h4 := hf 4 _ rfl
    have h5 := hf 5 _ rfl
    have h6 := hf 6 _ rfl
    have h7 := hf 7 _ rfl
    have h8 := hf 8 _ rfl
    have h9 := hf 9 _ rfl
    simp [cInt, cMana, cBool, cInts, cCode] at h0 h1 h2 h3 h4 h5 h6 h7 h8 h9
    obtain ⟨k, rfl, _, _⟩ := one_int h0
    obtain ⟨ev, rfl, _, _⟩ := one_int h1
    obtain ⟨wh, rfl, _, _⟩ := one_int h2
    obtain ⟨c0, c1, c2, c3, rfl, rfl, rfl, rfl⟩ := open_mana h3
    obtain ⟨tap, e4, _⟩ := DataW.trod_bool Tryz.underlying4 h4
    obtain ⟨ta, tn, tc, T, rfl, t1, t2⟩ := open_ints h5
    obtain ⟨ca, cn, cc, L, rfl, l1, l2, l3⟩ := open_code64 h6
    obtain ⟨op, rfl, _, _⟩ := one_int h7
    obtain ⟨a, rfl, _, ua⟩ := one_int h8
    obtain ⟨b, rfl, _, ub⟩ := one_int h9
    simp at e4
    subst e4
    exact ⟨(⟨k, ev, wh, c0, c1, c2, c3, tap, ta, tn, tc, ca, cn, cc, op, a, b⟩, T, L), rfl, ⟨⟨t1, t2⟩, l1, l2⟩, ua, ub, l3⟩
theorem open_abils64 {fuel : Nat} {v : Value} {x : DataW H × List MemPlace} (h : DataW.trod enc Tryz.prog W base sp held fuel 36 [v] = some x) :
    ∃ (a : Option Addr) (len cap : Nat) (A : List AbT), v = .slice a len cap ∧ A.length = len ∧ IsA W a cap A ∧ ∀ t ∈ A, In64 t.1.a ∧ In64 t.1.b ∧ ∀ i ∈ t.2.2, In64 i.a ∧ In64 i.b := by
  rcases Deep.open_slice Tryz.underlying36 h with ⟨hcs, _⟩ | ⟨x, len, cap, m, n, D, Pl, hcs, _, hl, hm, hmm, _, hx⟩
  · simp at hcs
    exact ⟨none, 0, 0, [], hcs, rfl, IsA.nil _, fun i h => by cases h⟩
  · simp at hcs
    have hall : ∀ i, i < len → ∃ t : AbT, (∀ j, j < 13 → W.cell? ((x.add (i * 13)).add j) = (abCells t.1)[j]?) ∧ AbR W t.1 t.2.1 t.2.2 ∧ In64 t.1.a ∧ In64 t.1.b ∧ ∀ i ∈ t.2.2, In64 i.a ∧ In64 i.b := fun i hi => by
      obtain ⟨cs', h1, h2⟩ := hx i (by rw [hmm]; split <;> omega)
      rw [cAb] at h1
      obtain ⟨_, h3, h4⟩ := World.cells?_some h1
      obtain ⟨t, rfl, ht⟩ := open_ab64 h2
      exact ⟨t, h4, ht⟩
    obtain ⟨Y, hY⟩ := Deep.choose_lt (α := AbT) (n := len) (p := fun i t => (∀ j, j < 13 → W.cell? ((x.add (i * 13)).add j) = (abCells t.1)[j]?) ∧ AbR W t.1 t.2.1 t.2.2 ∧ In64 t.1.a ∧ In64 t.1.b ∧ ∀ i ∈ t.2.2, In64 i.a ∧ In64 i.b) hall
    refine ⟨_, _, _, (List.range len).map Y, hcs, by simp, ⟨by simpa using hl, by unfold maxLen at hm; omega, fun t ht => ?_, ?_⟩, fun t h => by
      obtain ⟨j, hj, rfl⟩ := List.mem_map.1 h
      exact (hY j (by simpa using hj)).2.2⟩
    · obtain ⟨i, hi, rfl⟩ := List.mem_map.1 ht
      exact (hY i (by simpa using hi)).2.1
    · by_cases hz : len = 0
      · left; simpa using hz
      · right
        have h00 := (hY 0 (by omega)).1 0 (by omega)
        obtain ⟨b, off, spot⟩ := x
        have hspot : spot = none := by
          have := World.cell?_spot (h00.trans rfl)
          simpa [Addr.add] using this
        subst hspot
        refine ⟨b, off, rfl, by rw [add_plain, add_plain] at h00; exact World.block_lt_of_cell? W _ (h00.trans rfl), fun j hj i hi => ?_⟩
        simp only [List.length_map, List.length_range] at hj
        have q0 := (hY j hj).1 i hi
        simp only [List.getElem_map, List.getElem_range]
        rw [add_plain, add_plain] at q0
        exact q0
theorem open_cd64 {fuel : Nat} {cs : List Value} {x : DataW H × List MemPlace} (hf' : DataW.trod enc Tryz.prog W base sp held fuel 38 cs = some x) :
    ∃ c : CdT, cs = cdCells c.1 ∧ CdR W c.1 c.2 ∧ CdOk c.1 ∧ CdT64 c := by
  obtain ⟨xs, n, _, hx, hl, hxl, hf⟩ := DataW.trod_struct Tryz.underlying38 hf'
  rw [cCard] at hl
  match cs, hl, xs, hxl with
  | [v0, v1, v2, v3, v4, v5, v6, v7, v8, v9, v10], _, [y0, y1, y2, y3, y4, y5, y6, y7], _ =>
    have h0 := hf 0 _ rfl
    have h1 := hf 1 _ rfl
    have h2 := hf 2 _ rfl
    have h3 := hf 3 _ rfl
    have h4 := hf 4 _ rfl
    have h5 := hf 5 _ rfl
    have h6 := hf 6 _ rfl
    have h7 := hf 7 _ rfl
    simp [cInt, cMana, cStr, cAbs] at h0 h1 h2 h3 h4 h5 h6 h7
    obtain ⟨nm, e0, _, hnm⟩ := DataW.trod_string Tryz.underlying9 h0
    obtain ⟨k, rfl, _, _⟩ := one_int h1
    obtain ⟨c0, c1, c2, c3, rfl, rfl, rfl, rfl⟩ := open_mana h2
    obtain ⟨col, rfl, _, _⟩ := one_int h3
    obtain ⟨pow, rfl, _, _⟩ := one_int h4
    obtain ⟨tou, rfl, _, _⟩ := one_int h5
    obtain ⟨keys, rfl, _, hk⟩ := one_int h6
    obtain ⟨aa, an, ac, A, rfl, a1, a2, a3⟩ := open_abils64 h7
    simp at e0
    subst e0
    exact ⟨(⟨nm, k, c0, c1, c2, c3, col, pow, tou, keys, aa, an, ac⟩, A), rfl, ⟨a1, a2⟩, ⟨hnm, hk⟩, a1, fun t ht => ⟨(a2.2.2.1 t ht).1.1, (a2.2.2.1 t ht).2.1, a3 t ht⟩⟩
theorem open_cards1 {fuel : Nat} {v : Value} {x : DataW H × List MemPlace} (h : DataW.trod enc Tryz.prog W base sp held fuel 22 [v] = some x) :
    ∃ (a : Option Addr) (len cap : Nat) (L : List CdT), v = .slice a len cap ∧ L.length = len ∧ IsP W a cap L ∧ PCd L ∧ ∀ c ∈ L, CdT64 c := by
  rcases Deep.open_slice Tryz.underlying22 h with ⟨hcs, _⟩ | ⟨x, len, cap, m, n, D, Pl, hcs, _, hl, hm, hmm, _, hx⟩
  · simp at hcs
    exact ⟨none, 0, 0, [], hcs, rfl, IsP.nil _, (fun i h => by cases h), fun i h => by cases h⟩
  · simp at hcs
    have hall : ∀ i, i < len → ∃ t : CdT, (∀ j, j < 11 → W.cell? ((x.add (i * 11)).add j) = (cdCells t.1)[j]?) ∧ CdR W t.1 t.2 ∧ CdOk t.1 ∧ CdT64 t := fun i hi => by
      obtain ⟨cs', h1, h2⟩ := hx i (by rw [hmm]; split <;> omega)
      rw [cCard] at h1
      obtain ⟨_, h3, h4⟩ := World.cells?_some h1
      obtain ⟨t, rfl, ht⟩ := open_cd64 h2
      exact ⟨t, h4, ht⟩
    obtain ⟨Y, hY⟩ := Deep.choose_lt (α := CdT) (n := len) (p := fun i t => (∀ j, j < 11 → W.cell? ((x.add (i * 11)).add j) = (cdCells t.1)[j]?) ∧ CdR W t.1 t.2 ∧ CdOk t.1 ∧ CdT64 t) hall
    refine ⟨_, _, _, (List.range len).map Y, hcs, by simp, ⟨by simpa using hl, by unfold maxLen at hm; omega, fun t ht => ?_, ?_⟩, (fun t h => ?_), fun t h => ?_⟩
    · obtain ⟨i, hi, rfl⟩ := List.mem_map.1 ht
      exact (hY i (by simpa using hi)).2.1
    · by_cases hz : len = 0
      · left; simpa using hz
      · right
        have h00 := (hY 0 (by omega)).1 0 (by omega)
        obtain ⟨b, off, spot⟩ := x
        have hspot : spot = none := by
          have := World.cell?_spot (h00.trans rfl)
          simpa [Addr.add] using this
        subst hspot
        refine ⟨b, off, rfl, by rw [add_plain, add_plain] at h00; exact World.block_lt_of_cell? W _ (h00.trans rfl), fun j hj i hi => ?_⟩
        simp only [List.length_map, List.length_range] at hj
        have q0 := (hY j hj).1 i hi
        simp only [List.getElem_map, List.getElem_range]
        rw [add_plain, add_plain] at q0
        exact q0
    · obtain ⟨i, hi, rfl⟩ := List.mem_map.1 h
      exact (hY i (by simpa using hi)).2.2.1
    · obtain ⟨i, hi, rfl⟩ := List.mem_map.1 h
      exact (hY i (by simpa using hi)).2.2.2
theorem open_cards {a : Option Addr} {len cap : Nat} {d : DataW H} {p : List MemPlace} (h : DataW.Trod enc Tryz.prog W base sp held 22 (.slice a len cap) d p) :
    ∃ L : List CdT, L.length = len ∧ IsP W a cap L ∧ PCd L ∧ ∀ c ∈ L, CdT64 c := by
  obtain ⟨fuel, hf⟩ := h
  obtain ⟨a', len', cap', L, he, h1, h2, h3, h4⟩ := open_cards1 (v := .slice a len cap) hf
  injection he with e1 e2 e3
  subst e1 e2 e3
  exact ⟨L, h1, h2, h3, h4⟩
end
end Go.Proofs.YtbeaaieaffdgeaaGreatDoor
end
/- 'works': the closed run that each statement asks besides: it answers true, and nothing that was there has changed. -/
section
namespace Go.Proofs.YtbeaaieaffdgeaaGreatDoor
open Go.RowKit
set_option linter.unusedVariables false

theorem below_grown {B b : Nat} {u v w : World} (h : Below B u v) (g : v.grownBy w (some b)) (hB : B ≤ v.heap.size) (hb : B ≤ b) : Below B u w :=
  h.grown g hB (fun k e => by injection e with e; omega)
theorem below_then {B : Nat} {u v w : World} (h : Below B u v) (k : Below v.heap.size v w) (hB : B ≤ v.heap.size) : Below B u w := h.trans (k.mono hB)
theorem below_size {B : Nat} {u v : World} (h : Below B u v) (hB : B ≤ u.heap.size) : B ≤ v.heap.size := Nat.le_trans hB h.size

end Go.Proofs.YtbeaaieaffdgeaaGreatDoor
end
/- WireSorts: the document's PutInt and PutText, and the walk. -/
section
namespace Go.Proofs.YtbeaaieaffdgeaaGreatDoor
open Go.RowKit
set_option linter.unusedVariables false

theorem refNum_int (a : ByteArray) (ha : a.size ≤ 70368744177664) (x : Int) (h0 : 0 ≤ x) (h1 : x ≤ 18446744073709551615) (w : World) :
    Calls Tryz.prog 42 #[.string a, .int .u64 x] w fun e w' => e = .returned (.string (a ++ numS x.toNat)) ∧ Below w.heap.size w w' := by
  obtain ⟨n, rfl⟩ := Int.eq_ofNat_of_zero_le h0
  exact refNum_any a ha n (by omega) w
set_option maxHeartbeats 400000 in
theorem refInt_any (a : ByteArray) (ha : a.size ≤ 70368744177664) (i : Int) (h1 : -9223372036854775808 ≤ i) (h2 : i ≤ 9223372036854775807) (w : World) :
    Calls Tryz.prog 43 #[.string a, .int .i64 i] w fun e w' => e = .returned (.string (a ++ numS (zig i))) ∧ Below w.heap.size w w' := by
  by_cases h : i < 0
  · go_enter Tryz.func43, Tryz.ntmps43
    go_wp2_with fail
    refine (refNum_int a ha _ (by omega) (by omega) _).mono ?_
    rintro e w1 ⟨rfl, hb⟩
    go_wp2_with fail
    go_ret
    refine ⟨strA ?_, hb⟩
    unfold zig
    rw [if_neg (by omega)]
    congr 2
    omega
  · have h' : 0 ≤ i := by omega
    go_enter Tryz.func43, Tryz.ntmps43
    go_wp2_with fail
    refine (refNum_int a ha _ (by omega) (by omega) _).mono ?_
    rintro e w1 ⟨rfl, hb⟩
    go_wp2_with fail
    go_ret
    refine ⟨strA ?_, hb⟩
    unfold zig
    rw [if_pos h']
    congr 2
    omega
set_option maxHeartbeats 400000 in
theorem refText_any (a : ByteArray) (ha : a.size ≤ 70368744177) (t : ByteArray) (ht : t.size ≤ 70368744177) (w : World) :
    Calls Tryz.prog 18 #[.string a, .string t] w fun e w' => e = .returned (.string (a ++ textS t)) ∧ Below w.heap.size w w' := by
  have hz := numS_size t.size
  go_enter Tryz.func18, Tryz.ntmps18
  go_wp2_with fail
  refine (refNum_any a (by omega) t.size (by omega) _).mono ?_
  rintro e w1 ⟨rfl, hb⟩
  go_wp2_with fail
  go_ret
  exact ⟨strA (ByteArray.append_assoc), hb⟩

end Go.Proofs.YtbeaaieaffdgeaaGreatDoor
end
/- The document's nums. -/
section
namespace Go.Proofs.YtbeaaieaffdgeaaGreatDoor
open Go.RowKit
set_option linter.unusedVariables false
set_option linter.unusedSimpArgs false

theorem nums_size (T : List Int) (k : Nat) : (many nB (T.take k) ByteArray.empty).size ≤ 9 * T.length := by
  have h := many_size 9 (T.take k) (fun i _ t => nB_size i t) ByteArray.empty
  have h2 : (T.take k).length ≤ T.length := by rw [List.length_take]; omega
  have h3 : ByteArray.empty.size = 0 := rfl
  omega
theorem nums_next (s : ByteArray) (T : List Int) (k m : Nat) (hk : k < T.length) (hm : T[k] = (m : Int)) :
    s ++ many nB (T.take k) ByteArray.empty ++ numS m = s ++ many nB (T.take (k + 1)) ByteArray.empty := by
  rw [List.take_succ_eq_append_getElem hk, many_snoc nB_fore, hm, ByteArray.append_assoc]
  simp [nB]
set_option maxRecDepth 100000 in
set_option maxHeartbeats 2000000 in
theorem refNums_any (a : Option Addr) (c : Nat) (T : List Int) (hT : ∀ i ∈ T, NmOk i) (n : Nat) (hn : T.length = n) (s t : ByteArray) (hs : s.size + 9 * n ≤ 70368744177664) (ht : s ++ many nB T ByteArray.empty = t) (w : World) (h : IsL w a c T) :
    Calls Tryz.prog 17 #[.string s, .slice a n c] w fun e w' => e = .returned (.string t) ∧ Below w.heap.size w w' := by
  have HL := Lib.hid h
  have HT := Lib.hid hT
  have HE := Lib.hid ht
  have hcap := h.1
  have hcm := h.2.1
  rw [hn] at hcap
  have HN := Lib.hid hn
  have HS := Lib.hid hs
  clear h hT hn hs ht
  go_enter Tryz.func17, Tryz.ntmps17
  go_wp2_with fail
  go_loopw [0, 5] (fun q0 q wr => ∃ k : Nat, q0 = .string (s ++ many nB (T.take k) ByteArray.empty) ∧ q = .int .i64 (k : Int) ∧ k ≤ n ∧ Below w.heap.size w wr) (fun _ q _ => n - (intOf q).toNat)
  case atStart => exact ⟨0, by simp [many], rfl, Nat.zero_le _, Below.refl _ _⟩
  case round =>
    obtain ⟨k, rfl, rfl, hk, hb⟩ := hrel
    have HB := Lib.hid hb
    clear hb
    by_cases hlt : k < n
    · obtain ⟨b, off, x, hx, hta, x0⟩ := (HL.out.next HB.out).at k (by rw [HN.out]; exact hlt)
      have hxm := HT.out x (by rw [hx]; exact List.getElem_mem _)
      obtain ⟨m, rfl⟩ : ∃ m : Nat, x = (m : Int) := ⟨x.toNat, by unfold NmOk at hxm; omega⟩
      have hm1 : m ≤ 100000 := by unfold NmOk at hxm; omega
      have HX := Lib.hid (nums_next s T k m (by rw [HN.out]; exact hlt) hx.symm)
      have HZ := Lib.hid (show (s ++ many nB (T.take k) ByteArray.empty).size ≤ 70368744177664 by
        rw [ByteArray.size_append]
        have h1 := nums_size T k
        have h2 := HS.out
        rw [HN.out] at h1
        omega)
      clear hx hxm
      rw [hta] at *
      generalize s ++ many nB (T.take k) ByteArray.empty = u at *
      go_wp2_with fail
      refine (refNum_any u HZ.out m (by omega) _).mono ?_
      rintro e w1 ⟨rfl, hb⟩
      have HB1 := Lib.hid (below_then' HB.out hb HB.out.size)
      clear hb
      go_wp2_with fail
      go_roundw
      case rel => exact ⟨k + 1, congrArg Value.string HX.out, by go_num, by omega, HB1.out⟩
      case measure => simp [intOf]; omega
    · go_wp2_with fail
      have HQ := Lib.hid (show s ++ many nB (T.take k) ByteArray.empty = t by rw [List.take_of_length_le (by rw [HN.out]; omega)]; exact HE.out)
      go_ret
      exact ⟨by rw [HQ.out]; rfl, HB.out⟩
end Go.Proofs.YtbeaaieaffdgeaaGreatDoor
end
