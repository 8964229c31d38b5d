/- bounded. -/
import Derived.Test.YtfhmadlobdklbaaDoorCardU
namespace Go.Proofs.YtfhmadlobdklbaaDoor
open Go.RowKit
set_option linter.unusedVariables false
set_option linter.unusedSimpArgs false

theorem abInfo : (Tryd.prog.info? 41).map (fun i => (i.zero, i.size, i.bytes)) = some (some (.agg #[.int .i64 0, .int .i64 0, .int .i64 0, .int .i64 0, .int .i64 0, .int .i64 0, .int .i64 0, .bool false, .slice none 0 0, .slice none 0 0, .int .i64 0, .int .i64 0, .int .i64 0]), 13, 136) := by kernel_rfl
theorem abCells_one (x : Ab) (u : Value) (h : u ∈ abCells x) : u.oneCell' = true := by
  simp only [abCells, List.mem_cons, List.not_mem_nil, or_false] at h
  rcases h with rfl | rfl | rfl | rfl | rfl | rfl | rfl | rfl | rfl | rfl | rfl | rfl | rfl <;> rfl
theorem abRow_append (A B : List AbT) : abRow (A ++ B) = abRow A ++ abRow B := by simp [abRow]
theorem abRow_one (A : List AbT) (u : Value) (h : u ∈ abRow A) : u.oneCell' = true := by
  simp only [abRow, List.mem_flatMap] at h
  obtain ⟨t, _, ht⟩ := h
  exact abCells_one _ _ ht
/-- Some card comes back. -/
def SomeC (X : Nat → Prop) (w w' : World) (e : Ending) : Prop := ∃ p, OutC X w w' e p
theorem Row.agree {X : Nat → Prop} {w W : World} {a : Option Addr} {c size n : Nat} {xs : List Value} (h : Row w a c size n xs) (hs : w.heap.size ≤ W.heap.size) (hc : ∀ g o, g < w.heap.size → ¬ X g → W.cell? ⟨g, o, none⟩ = w.cell? ⟨g, o, none⟩) (hb : ∀ p, a = some p → ¬ X p.block) : Row W a c size n xs := by
  obtain ⟨h1, h2, h3 | ⟨b, off, h3, h4, h5⟩⟩ := h
  · exact ⟨h1, h2, .inl h3⟩
  · exact ⟨h1, h2, .inr ⟨b, off, h3, Nat.lt_of_lt_of_le h4 hs, fun i hi => (hc _ _ h4 (hb _ h3)).trans (h5 i hi)⟩⟩
/-- What a card's walk leaves: a card of these cells, whose abilities are a row of the call's own. -/
theorem someC_own {X : Nat → Prop} {w W' : World} {B : Nat} {y : Cd} {A : List AbT} (hb : Below w.heap.size w W') (ho : W'.ownsRow B 41 13 (.slice y.aa y.an y.ac) y.an (abRow A)) (hB : w.heap.size ≤ B) (hX : ∀ g, X g → g < w.heap.size) (hn : A.length = y.an)
    (hr : ∀ W : World, w.heap.size ≤ W.heap.size → (∀ g o, g < w.heap.size → ¬ X g → W.cell? ⟨g, o, none⟩ = w.cell? ⟨g, o, none⟩) → ∀ t ∈ A, AbR W t.1 t.2.1 t.2.2) (hy : CdOk y) :
    SomeC X w W' (.returned (.agg #[.string y.nm, .int .i64 y.k, .int .i64 y.c0, .int .i64 y.c1, .int .i64 y.c2, .int .i64 y.c3, .int .i64 y.col, .int .i64 y.pow, .int .i64 y.tou, .int .i64 y.keys, .slice y.aa y.an y.ac])) := by
  obtain ⟨a, c, hv, hrow⟩ := own_row ho
  obtain ⟨rfl, rfl⟩ : y.aa = a ∧ y.ac = c := by
    injection hv with h1 h2 h3
    exact ⟨h1, h3⟩
  refine ⟨(erC y, A.map erT), y, A, rfl, fun W hs hc => ⟨hn, isA_row hn (fun t ht => hr W (Nat.le_trans hb.size hs) (fun g o hg hx => (hc g o (Nat.lt_of_lt_of_le hg hb.size) hx).trans (hb.cell (p := ⟨g, o, none⟩) hg)) t ht) (hrow.agree hs hc (fun p hp hx => ?_))⟩, hy, rfl, rfl, hb⟩
  have h1 := (ho.lt p.block (by rw [hp]; rfl)).1
  have h2 := hX _ hx
  omega
/-- An ability, its lists cut. -/
def cutT (t : AbT) : AbT := ({ t.1 with tn := min t.1.tn 4, cn := min t.1.cn 40 }, t.2.1.take 4, t.2.2.take 40)
theorem IsL.take {w : World} {a : Option Addr} {c : Nat} {L : List Int} (h : IsL w a c L) (n : Nat) : IsL w a c (L.take n) := by
  obtain ⟨h1, h2, h3⟩ := h
  refine ⟨by rw [List.length_take]; omega, h2, ?_⟩
  rcases h3 with h3 | ⟨b, off, h3, h4, h5⟩
  · left; rw [List.length_take]; omega
  · refine .inr ⟨b, off, h3, h4, fun j hj => ?_⟩
    rw [List.length_take] at hj
    rw [List.getElem_take]
    exact h5 j (by omega)
theorem IsC.take {w : World} {a : Option Addr} {c : Nat} {L : List Ins} (h : IsC w a c L) (n : Nat) : IsC w a c (L.take n) := by
  obtain ⟨h1, h2, h3⟩ := h
  refine ⟨by rw [List.length_take]; omega, h2, ?_⟩
  rcases h3 with h3 | ⟨b, off, h3, h4, h5⟩
  · left; rw [List.length_take]; omega
  · refine .inr ⟨b, off, h3, h4, fun j hj => ?_⟩
    rw [List.length_take] at hj
    rw [List.getElem_take]
    exact h5 j (by omega)
theorem AbR.cut {w : World} {t : AbT} (h : AbR w t.1 t.2.1 t.2.2) : AbR w (cutT t).1 (cutT t).2.1 (cutT t).2.2 := by
  obtain ⟨⟨h1, h2⟩, h3, h4⟩ := h
  exact ⟨⟨by simp only [cutT, List.length_take, h1]; omega, h2.take 4⟩, by simp only [cutT, List.length_take, h3]; omega, h4.take 40⟩
theorem new_cells_at (w : World) (cs : Array Value) (T : TypeId) (b : Nat) (hb : b = w.heap.size) (j : Nat) (u : Value) (h : cs.toList[j]? = some u) : (w.alloc (.cells cs T)).cell? ((⟨b, 0, none⟩ : Addr).add j) = some u := by
  subst hb
  exact new_cells w cs T j u h
/-- Block b is these cells, and may be written. -/
def BlkAt (w : World) (b : Nat) (cs : Array Value) (T : TypeId) : Prop := w.heap[b]? = some (.cells cs T (0, 0))
theorem BlkAt.next {w w' : World} {b : Nat} {cs : Array Value} {T : TypeId} (h : BlkAt w b cs T) (k : Below w.heap.size w w') : BlkAt w' b cs T :=
  (k.block b (Array.getElem?_eq_some_iff.1 h).1).trans h
theorem BlkAt.lt {w : World} {b : Nat} {cs : Array Value} {T : TypeId} (h : BlkAt w b cs T) : b < w.heap.size := (Array.getElem?_eq_some_iff.1 h).1
theorem BlkAt.free {w : World} {b : Nat} {cs : Array Value} {T : TypeId} (h : BlkAt w b cs T) (i : Nat) : w.frozen? ⟨b, i, none⟩ = false := by
  have : w.heap[b]? = some (.cells cs T (0, 0)) := h
  simp [World.frozen?, this]
theorem BlkAt.set' {w : World} {b : Nat} {cs : Array Value} {T : TypeId} (h : BlkAt w b cs T) (i : Nat) (v : Value) : BlkAt (w.setCell ⟨b, i, none⟩ v) b (cs.setIfInBounds i v) T := heap_setCell_same w b i cs T v h
theorem BlkAt.cell {w : World} {b : Nat} {cs : Array Value} {T : TypeId} (h : BlkAt w b cs T) (i : Nat) : w.cell? ⟨b, i, none⟩ = cs[i]? := by
  exact cell_of_row w b i cs T (0, 0) h
theorem BlkAt.cells11 {w : World} {b : Nat} {T : TypeId} {v0 v1 v2 v3 v4 v5 v6 v7 v8 v9 v10 : Value} (h : BlkAt w b #[v0, v1, v2, v3, v4, v5, v6, v7, v8, v9, v10] T) :
    (w.cell? ⟨b, 0, none⟩ = some v0 ∧ w.cell? ⟨b, 1, none⟩ = some v1 ∧ w.cell? ⟨b, 2, none⟩ = some v2 ∧ w.cell? ⟨b, 3, none⟩ = some v3 ∧ w.cell? ⟨b, 4, none⟩ = some v4 ∧ w.cell? ⟨b, 5, none⟩ = some v5 ∧ w.cell? ⟨b, 6, none⟩ = some v6 ∧
    w.cell? ⟨b, 7, none⟩ = some v7 ∧ w.cell? ⟨b, 8, none⟩ = some v8 ∧ w.cell? ⟨b, 9, none⟩ = some v9 ∧ w.cell? ⟨b, 10, none⟩ = some v10) ∧
    (w.frozen? ⟨b, 0, none⟩ = false ∧ w.frozen? ⟨b, 1, none⟩ = false ∧ w.frozen? ⟨b, 2, none⟩ = false ∧ w.frozen? ⟨b, 3, none⟩ = false ∧ w.frozen? ⟨b, 4, none⟩ = false ∧ w.frozen? ⟨b, 5, none⟩ = false ∧ w.frozen? ⟨b, 6, none⟩ = false ∧
    w.frozen? ⟨b, 7, none⟩ = false ∧ w.frozen? ⟨b, 8, none⟩ = false ∧ w.frozen? ⟨b, 9, none⟩ = false ∧ w.frozen? ⟨b, 10, none⟩ = false) :=
  ⟨⟨h.cell 0, h.cell 1, h.cell 2, h.cell 3, h.cell 4, h.cell 5, h.cell 6, h.cell 7, h.cell 8, h.cell 9, h.cell 10⟩, h.free 0, h.free 1, h.free 2, h.free 3, h.free 4, h.free 5, h.free 6, h.free 7, h.free 8, h.free 9, h.free 10⟩
theorem blkAt_one (w : World) (cs : Array Value) (T : TypeId) (o : Obj) : BlkAt ((w.alloc (.cells cs T)).alloc o) w.heap.size cs T :=
  (heap_alloc_old _ _ (by simp)).trans (heap_alloc_new w _)
theorem blkAt_two (w : World) (cs : Array Value) (T : TypeId) (o : Obj) : BlkAt ((w.alloc o).alloc (.cells cs T)) (w.heap.size + 1) cs T := by
  have := heap_alloc_new (w.alloc o) (.cells cs T)
  rw [World.size_alloc] at this
  exact this
theorem row_snoc {w : World} {B : Nat} {v : Value} {A : List AbT} {k : Nat} (hk : k < A.length) (h : w.ownsRow B 41 13 v (k + 1) (abRow (A.take k) ++ abCells A[k].1)) :
    w.ownsRow B 41 13 v (k + 1) (abRow (A.take (k + 1))) := by
  rw [List.take_succ_eq_append_getElem hk, abRow_append]
  simpa [abRow] using h
theorem grown_row {B : Nat} {w wr w1 : World} {o : Obj} {v : Value} {n : Nat} {xs : List Value} {e size : Nat} (h : Below B w wr) (hB : B ≤ wr.heap.size) (ho : wr.ownsRow B e size v n xs) (hg : (wr.alloc o).grownBy w1 v.ownBlock) : Below B w w1 :=
  (h.alloc hB o).grown hg (Nat.le_trans hB (by simp)) (fun k e => (ho.lt k e).1)
theorem grown_row2 {B : Nat} {w wr w1 : World} {o o2 : Obj} {v : Value} {n : Nat} {xs : List Value} {e size : Nat} (h : Below B w wr) (hB : B ≤ wr.heap.size) (ho : wr.ownsRow B e size v n xs) (hg : ((wr.alloc o).alloc o2).grownBy w1 v.ownBlock) : Below B w w1 :=
  grown_row (h.alloc hB o) (Nat.le_trans hB (by simp)) (ho.alloc o) hg
set_option maxRecDepth 100000 in
set_option maxHeartbeats 4000000 in
theorem bounded_any (X : Nat → Prop) (y : Cd) (A : List AbT) (w : World) (hX : ∀ g, X g → g < w.heap.size) (hcx : CdX X w y A) (hy : CdOk y) :
    Calls Tryd.prog 7 #[.agg #[.string y.nm, .int .i64 y.k, .int .i64 y.c0, .int .i64 y.c1, .int .i64 y.c2, .int .i64 y.c3, .int .i64 y.col, .int .i64 y.pow, .int .i64 y.tou, .int .i64 y.keys, .slice y.aa y.an y.ac]] w fun e w' => SomeC X w w' e := by
  obtain ⟨i0, hi, hz0, hz1, hz2⟩ := info_parts abInfo
  have h := hcx.now
  have HCX := Lib.hid hcx
  have HX0 := Lib.hid hX
  have hcap := h.2.1
  have hcm := h.2.2.1
  rw [h.1] at hcap
  have hs := hy.1
  clear hcx hX
  unfold maxLen at hs
  have HY := Lib.hid hy
  have HN := Lib.hid h.1
  have HA0 := Lib.hid h
  have hs := hy.1
  obtain ⟨m, hm⟩ : ∃ m, m = min y.nm.size 20 := ⟨_, rfl⟩
  have hm1 : (if (20 : Int) < (y.nm.size : Int) then (20 : Int) else (y.nm.size : Int)) = (m : Int) := by split <;> omega
  have hm2 : m ≤ y.nm.size := by omega
  have hm3 : m ≤ 20 := by omega
  clear hm hy h
  obtain ⟨nm2, hnm⟩ : ∃ nm2, nm2 = y.nm.extract 0 m := ⟨_, rfl⟩
  have HNm := Lib.hid (show nm2.size ≤ 20 by rw [hnm, ByteArray.size_extract]; omega)
  have HD := Lib.hid (below_alloc2 w (.cells #[.string nm2, .int .i64 y.k, .int .i64 y.c0, .int .i64 y.c1, .int .i64 y.c2, .int .i64 y.c3, .int .i64 y.col, .int .i64 y.pow, .int .i64 y.tou, .int .i64 y.keys, .slice y.aa y.an y.ac] 26)
    (.cells #[.string ⟨#[]⟩, .int .i64 0, .int .i64 0, .int .i64 0, .int .i64 0, .int .i64 0, .int .i64 0, .int .i64 0, .int .i64 0, .int .i64 0, .slice none 0 0] 26))
  have HC := Lib.hid (blkAt_one w #[.string nm2, .int .i64 y.k, .int .i64 y.c0, .int .i64 y.c1, .int .i64 y.c2, .int .i64 y.c3, .int .i64 y.col, .int .i64 y.pow, .int .i64 y.tou, .int .i64 y.keys, .slice y.aa y.an y.ac] 26
    (.cells #[.string ⟨#[]⟩, .int .i64 0, .int .i64 0, .int .i64 0, .int .i64 0, .int .i64 0, .int .i64 0, .int .i64 0, .int .i64 0, .int .i64 0, .slice none 0 0] 26))
  have HE := Lib.hid (blkAt_two w #[.string ⟨#[]⟩, .int .i64 0, .int .i64 0, .int .i64 0, .int .i64 0, .int .i64 0, .int .i64 0, .int .i64 0, .int .i64 0, .int .i64 0, .slice none 0 0] 26
    (.cells #[.string nm2, .int .i64 y.k, .int .i64 y.c0, .int .i64 y.c1, .int .i64 y.c2, .int .i64 y.c3, .int .i64 y.col, .int .i64 y.pow, .int .i64 y.tou, .int .i64 y.keys, .slice y.aa y.an y.ac] 26))
  have hnm2 := hnm
  clear hnm
  go_enter Tryd.func7, Tryd.ntmps7
  go_wp2_with fail
  rw [← hnm2] at *
  generalize (w.alloc (.cells #[.string nm2, .int .i64 y.k, .int .i64 y.c0, .int .i64 y.c1, .int .i64 y.c2, .int .i64 y.c3, .int .i64 y.col, .int .i64 y.pow, .int .i64 y.tou, .int .i64 y.keys, .slice y.aa y.an y.ac] 26)).alloc
    (.cells #[.string ⟨#[]⟩, .int .i64 0, .int .i64 0, .int .i64 0, .int .i64 0, .int .i64 0, .int .i64 0, .int .i64 0, .int .i64 0, .int .i64 0, .slice none 0 0] 26) = W at *
  go_loopw [3, 4] (fun v q wr => ∃ k : Nat, q = .int .i64 (k : Int) ∧ k ≤ y.an ∧ k ≤ 6 ∧ wr.ownsRow W.heap.size 41 13 v k (abRow ((A.map cutT).take k)) ∧ Below W.heap.size W wr) (fun _ q _ => 6 - (intOf q).toNat)
  case atStart => exact ⟨0, rfl, Nat.zero_le _, by omega, World.ownsRow_nil _ _ _ _, Below.refl _ _⟩
  case round =>
    obtain ⟨k, rfl, hk, hk6, hown, hbw⟩ := hrel
    have HO := Lib.hid hown
    have HW := Lib.hid hbw
    clear hown hbw
    obtain ⟨⟨q0, q1, q2, q3, q4, q5, q6, q7, q8, q9, q10⟩, f0, f1, f2, f3, f4, f5, f6, f7, f8, f9, f10⟩ := (HC.out.next HW.out).cells11
    by_cases hlt : k < y.an ∧ k < 6
    · obtain ⟨hlt1, hlt2⟩ := hlt
      obtain ⟨b, off, x, T, L, hx, hab, hta, hbl, m0, m1, m2, m3, m4, m5, m6, m7, m8, m9, m10, m11, m12⟩ := ((HA0.out.2.next HD.out).next HW.out).at k (by rw [HN.out]; exact hlt1)
      have HX := Lib.hid hx
      have hn1 := hab.1.1
      have hn2 := hab.1.2.1
      have hn3 := hab.1.2.2.1
      have hc1 := hab.2.1
      have hc2 := hab.2.2.1
      have hc3 := hab.2.2.2.1
      rw [hn1] at hn2
      rw [hc1] at hc2
      clear hx hab hn1 hc1
      obtain ⟨t4, ht4⟩ : ∃ t4, t4 = min x.tn 4 := ⟨_, rfl⟩
      obtain ⟨c4, hc4⟩ : ∃ c4, c4 = min x.cn 40 := ⟨_, rfl⟩
      have ht1 : (if (4 : Int) < (x.tn : Int) then (4 : Int) else (x.tn : Int)) = (t4 : Int) := by split <;> omega
      have ht2 : t4 ≤ x.tn := by omega
      have ht3 : t4 ≤ x.tc := by omega
      have hd1 : (if (40 : Int) < (x.cn : Int) then (40 : Int) else (x.cn : Int)) = (c4 : Int) := by split <;> omega
      have hd2 : c4 ≤ x.cn := by omega
      have hd3 : c4 ≤ x.cc := by omega
      have HT4 := Lib.hid ht4
      have HC4 := Lib.hid hc4
      rw [hta] at q10
      clear ht4 hc4 hta
      go_wp2_with (at_builtin; refine wpList_append_own _ rfl _ _ 24 rfl W.heap.size 41 i0 (.agg #[.int .i64 0, .int .i64 0, .int .i64 0, .int .i64 0, .int .i64 0, .int .i64 0, .int .i64 0, .bool false, .slice none 0 0, .slice none 0 0, .int .i64 0, .int .i64 0, .int .i64 0]) 13 136 Tryd.underlying24 hi hz0 hz1 hz2 rfl (by decide) _ k _ rfl ((HO.out.alloc _).alloc _) ⟨wr.heap.size + 1, 0, none⟩ 1 1 [.int .i64 x.k, .int .i64 x.ev, .int .i64 x.wh, .int .i64 x.c0, .int .i64 x.c1, .int .i64 x.c2, .int .i64 x.c3, .bool x.tap, .slice x.ta t4 x.tc, .slice x.ca c4 x.cc, .int .i64 x.op, .int .i64 x.a, .int .i64 x.b] rfl rfl (new_cells_at _ #[.int .i64 x.k, .int .i64 x.ev, .int .i64 x.wh, .int .i64 x.c0, .int .i64 x.c1, .int .i64 x.c2, .int .i64 x.c3, .bool x.tap, .slice x.ta t4 x.tc, .slice x.ca c4 x.cc, .int .i64 x.op, .int .i64 x.a, .int .i64 x.b] _ _ (size_one _ _)) (abCells_one ⟨x.k, x.ev, x.wh, x.c0, x.c1, x.c2, x.c3, x.tap, x.ta, t4, x.tc, x.ca, c4, x.cc, x.op, x.a, x.b⟩) (by unfold maxLen; omega) (by omega) (by have := HW.out.size; simp; omega) ?_; intro v' w1 hown' hgrow _; have HO2 := Lib.hid hown'; have HG := Lib.hid hgrow; clear hown' hgrow)
      have HB2 := Lib.hid (grown_row2 HW.out HW.out.size HO.out HG.out)
      have HR2 := Lib.hid (row_snoc (A := A.map cutT) (k := k) (by rw [List.length_map, HN.out]; exact hlt1) (by
        have e : (A.map cutT)[k]'(by rw [List.length_map, HN.out]; exact hlt1) = ({ x with tn := t4, cn := c4 }, T.take 4, L.take 40) := by
          rw [List.getElem_map, ← HX.out, HT4.out, HC4.out]; rfl
        rw [e]
        exact HO2.out))
      go_roundw
      case rel => exact ⟨k + 1, by go_num, by omega, by omega, HR2.out, HB2.out⟩
      case measure => simp [intOf]; omega
    · obtain ⟨⟨g0, g1, g2, g3, g4, g5, g6, g7, g8, g9, g10⟩, e0, e1, e2, e3, e4, e5, e6, e7, e8, e9, e10⟩ := (HE.out.next HW.out).cells11
      obtain ⟨la, lc, rfl, hrow⟩ := own_row HO.out
      clear hrow hm1 hm2 hm3 hs hcap hcm
      have hz : w.heap.size + 1 < wr.heap.size := (HE.out.next HW.out).lt
      have HZ := Lib.hid (show w.heap.size + 1 < W.heap.size from HE.out.lt)
      have HSt := Lib.hid (fun (W' : World) (p : Addr) (v : Value) (h1 : w.heap.size ≤ p.block) (h2 : p.block < W.heap.size) (h : Below w.heap.size w W' ∧ W'.ownsRow W.heap.size 41 13 (.slice la k lc) k (abRow ((A.map cutT).take k))) =>
        (⟨h.1.setCell h1 v, ownsRow_setCell_below h.2 h2 v⟩ : Below w.heap.size w (W'.setCell p v) ∧ (W'.setCell p v).ownsRow W.heap.size 41 13 (.slice la k lc) k (abRow ((A.map cutT).take k))))
      have HFin := Lib.hid (fun (W' : World) (h : Below w.heap.size w W' ∧ W'.ownsRow W.heap.size 41 13 (.slice la k lc) k (abRow ((A.map cutT).take k))) =>
        someC_own (y := ⟨nm2, y.k, y.c0, y.c1, y.c2, y.c3, y.col, y.pow, y.tou, y.keys, la, k, lc⟩) h.1 h.2 HD.out.size HX0.out (by rw [List.length_take, List.length_map, HN.out]; show min k y.an = k; omega)
          (fun W2 hs2 hc2 t ht => by
            obtain ⟨t0, ht0, rfl⟩ := List.mem_map.1 (List.mem_of_mem_take ht)
            exact ((HCX.out W2 hs2 hc2).2.2.2.1 t0 ht0).cut) ⟨by have := HNm.out; show nm2.size ≤ maxLen; unfold maxLen; omega, HY.out.2⟩)
      by_cases h1 : k < y.an
      all_goals
        go_wp2_with fail
        refine bodyPost_ret (v := .agg #[.string nm2, .int .i64 y.k, .int .i64 y.c0, .int .i64 y.c1, .int .i64 y.c2, .int .i64 y.c3, .int .i64 y.col, .int .i64 y.pow, .int .i64 y.tou, .int .i64 y.keys, .slice la k lc]) (by simp [results, Tryd.results7, go_sem, *]) rfl ?_
        refine HFin.out _ ?_
        iterate 12 (refine HSt.out _ _ _ (by simp) (by have := HZ.out; simp; omega) ?_)
        with_reducible exact ⟨HD.out.trans (HW.out.mono HD.out.size), HO.out⟩
end Go.Proofs.YtfhmadlobdklbaaDoor
