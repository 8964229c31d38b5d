/- turned: the first ability again. (Written by gen5w.py.) -/
import Derived.Test.YtfhmadlobdklbaaDoorCardW
import Derived.Deep.RegionLaw
import Derived.Deep.AppendLies
namespace Go.Proofs.YtfhmadlobdklbaaDoor
open Go.RowKit
set_option linter.unusedVariables false
set_option linter.unusedSimpArgs false

set_option maxRecDepth 100000 in
set_option maxHeartbeats 8000000 in
theorem turned_e (X : Nat → Prop) (y : Cd) (A : List AbT) (f : Nat) (hf : f = 20) (n : Int) (hn64 : In64 n) (w : World) (hX : ∀ g, X g → g < w.heap.size) (hcx : CdX X w y A) (hy : CdOk y) (h0 : A.length ≠ 0) (hlen : A.length ≤ 100) :
    Calls Tryd.prog 12 #[.agg #[.string y.nm, .int .i64 y.k, .int .i64 y.c0, .int .i64 y.c1, .int .i64 y.c2, .int .i64 y.c3, .int .i64 y.col, .int .i64 y.pow, .int .i64 y.tou, .int .i64 y.keys, .slice y.aa y.an y.ac], .int .i64 (f : Int), .int .i64 n] w fun e w' => OutC X w w' e (turnM (erC y, A.map erT) f n) := by
  obtain ⟨i0, hi, hz0, hz1, hz2⟩ := info_parts abInfo
  have h := hcx.now
  have hc := h.2.next (below_alloc2 w (.cells #[.string y.nm, .int .i64 y.k, .int .i64 y.c0, .int .i64 y.c1, .int .i64 y.c2, .int .i64 y.c3, .int .i64 y.col, .int .i64 y.pow, .int .i64 y.tou, .int .i64 y.keys, .slice y.aa y.an y.ac] 26) (.cells #[.string ⟨#[]⟩, .int .i64 0, .int .i64 0, .int .i64 0, .int .i64 0, .int .i64 0, .int .i64 0, .int .i64 0, .int .i64 0, .int .i64 0, .slice none 0 0] 26))
  have HN := Lib.hid h.1
  have hcap := h.2.1
  have hcm := h.2.2.1
  rw [h.1] at hcap
  obtain ⟨b, off, hya, hb, hcells⟩ := (hc.next (below_alloc1 _ (.cells #[] 41))).cells h0
  have HCe := Lib.hid hcells
  have HY := Lib.hid hy
  have HCX := Lib.hid hcx
  have HX := Lib.hid hX
  have HN64 := Lib.hid hn64
  have hl := hlen
  rw [h.1] at hl
  have hn0 : y.an ≠ 0 := by rw [← h.1]; exact h0
  obtain ⟨A0, t, rfl⟩ := snoc_of A h0
  clear hcells hy hcx h hc hlen h0 hX hn64
  obtain ⟨nm, k, c0, c1, c2, c3, col, pow, tou, keys, aa, an, ac⟩ := y
  simp only at *
  subst hya
  obtain ⟨P, hP⟩ : ∃ P, P = turnM (erC ⟨nm, k, c0, c1, c2, c3, col, pow, tou, keys, some ⟨b, off, none⟩, an, ac⟩, (A0 ++ [t]).map erT) f n := ⟨_, rfl⟩
  rw [← hP]
  have HPq := Lib.hid hP
  clear hP
  have HA := Lib.hid (own_empty w (.cells #[.string nm, .int .i64 k, .int .i64 c0, .int .i64 c1, .int .i64 c2, .int .i64 c3, .int .i64 col, .int .i64 pow, .int .i64 tou, .int .i64 keys, .slice (some ⟨b, off, none⟩) an ac] 26) (.cells #[.string ⟨#[]⟩, .int .i64 0, .int .i64 0, .int .i64 0, .int .i64 0, .int .i64 0, .int .i64 0, .int .i64 0, .int .i64 0, .int .i64 0, .slice none 0 0] 26))
  have HC := Lib.hid ((blkAt_one w #[.string nm, .int .i64 k, .int .i64 c0, .int .i64 c1, .int .i64 c2, .int .i64 c3, .int .i64 col, .int .i64 pow, .int .i64 tou, .int .i64 keys, .slice (some ⟨b, off, none⟩) an ac] 26 (.cells #[.string ⟨#[]⟩, .int .i64 0, .int .i64 0, .int .i64 0, .int .i64 0, .int .i64 0, .int .i64 0, .int .i64 0, .int .i64 0, .int .i64 0, .slice none 0 0] 26)).next (below_alloc1 _ (.cells #[] 41)))
  have HE := Lib.hid ((blkAt_two w #[.string ⟨#[]⟩, .int .i64 0, .int .i64 0, .int .i64 0, .int .i64 0, .int .i64 0, .int .i64 0, .int .i64 0, .int .i64 0, .int .i64 0, .slice none 0 0] 26 (.cells #[.string nm, .int .i64 k, .int .i64 c0, .int .i64 c1, .int .i64 c2, .int .i64 c3, .int .i64 col, .int .i64 pow, .int .i64 tou, .int .i64 keys, .slice (some ⟨b, off, none⟩) an ac] 26)).next (below_alloc1 _ (.cells #[] 41)))
  have HB := Lib.hid ((below_alloc2 w (.cells #[.string nm, .int .i64 k, .int .i64 c0, .int .i64 c1, .int .i64 c2, .int .i64 c3, .int .i64 col, .int .i64 pow, .int .i64 tou, .int .i64 keys, .slice (some ⟨b, off, none⟩) an ac] 26) (.cells #[.string ⟨#[]⟩, .int .i64 0, .int .i64 0, .int .i64 0, .int .i64 0, .int .i64 0, .int .i64 0, .int .i64 0, .int .i64 0, .int .i64 0, .slice none 0 0] 26)).alloc (by simp; omega) (.cells #[] 41))
  have HL := Lib.hid (show (abRow (A0 ++ [t])).length = an * 13 by rw [abRow_len, HN.out])
  have HN0 := Lib.hid hn0
  have hn1 : ((an : Int) == 0) = false := by simp; omega
  have hn2 : 1 ≤ an := by omega
  clear hn0 hb
  go_enter Tryd.func12, Tryd.ntmps12
  go_wp2_with (at_builtin; refine wpList_append_own _ rfl _ _ 24 rfl (w.heap.size + 1 + 1) 41 i0 (.agg #[.int .i64 0, .int .i64 0, .int .i64 0, .int .i64 0, .int .i64 0, .int .i64 0, .int .i64 0, .bool false, .slice none 0 0, .slice none 0 0, .int .i64 0, .int .i64 0, .int .i64 0]) 13 136 Tryd.underlying24 hi hz0 hz1 hz2 rfl (by decide) _ 0 [] rfl HA.out ⟨b, off, none⟩ an ac (abRow (A0 ++ [t])) rfl HL.out HCe.out (abRow_one (A0 ++ [t])) (by unfold maxLen; omega) (by omega) (by simp) ?_; intro v' w1 hown' hgrow hnil; clear hnil; rw [Nat.zero_add, List.nil_append] at hown'; obtain ⟨g, gc, rfl, hg1, hg2, hg3, hg4⟩ := own_some hown' HN0.out; have HO := Lib.hid hown'; have HC1 := Lib.hid (HC.out.grown hgrow (own_ne0 _)); have HE1 := Lib.hid (HE.out.grown hgrow (own_ne1 _)); have HB1 := Lib.hid (HB.out.grown hgrow HB.out.size (own_ge _)); clear hown' hgrow; obtain ⟨⟨q0, q1, q2, q3, q4, q5, q6, q7, q8, q9, q10⟩, f0, f1, f2, f3, f4, f5, f6, f7, f8, f9, f10⟩ := HC1.out.cells11)
  have HO2 := Lib.hid (ownsRow_setCell_below HO.out (a := ⟨w.heap.size, 10, none⟩) (by show w.heap.size < w.heap.size + 1 + 1; omega) (.slice (some ⟨g, 0, none⟩) an gc))
  have HC2 := Lib.hid (show BlkAt (w1.setCell ⟨w.heap.size, 10, none⟩ (.slice (some ⟨g, 0, none⟩) an gc)) w.heap.size #[.string nm, .int .i64 k, .int .i64 c0, .int .i64 c1, .int .i64 c2, .int .i64 c3, .int .i64 col, .int .i64 pow, .int .i64 tou, .int .i64 keys, .slice (some ⟨g, 0, none⟩) an gc] 26 by simpa using HC1.out.set 10 (.slice (some ⟨g, 0, none⟩) an gc))
  have HE2 := Lib.hid (HE1.out.far ⟨w.heap.size, 10, none⟩ (.slice (some ⟨g, 0, none⟩) an gc) (by show w.heap.size ≠ w.heap.size + 1; omega))
  have HB2 := Lib.hid (HB1.out.setCell (p := ⟨w.heap.size, 10, none⟩) (Nat.le_refl _) (.slice (some ⟨g, 0, none⟩) an gc))
  clear q0 q1 q2 q3 q4 q5 q6 q7 q8 q9 q10 f0 f1 f2 f3 f4 f5 f6 f7 f8 f9 f10 hg2
  generalize w1.setCell ⟨w.heap.size, 10, none⟩ (.slice (some ⟨g, 0, none⟩) an gc) = W at *
  go_region
  have hdr : Below W.heap.size W (W.alloc (.cells #[.pointer (some ⟨w.heap.size, 1, none⟩), .pointer (some ⟨w.heap.size, 2, none⟩), .pointer (some ⟨w.heap.size, 5, none⟩), .pointer (some ⟨w.heap.size, 6, none⟩), .pointer (some ⟨w.heap.size, 7, none⟩), .pointer (some ⟨w.heap.size, 8, none⟩), .pointer (some ⟨w.heap.size, 9, none⟩), .pointer (some ⟨g, (an - 1) * 13, none⟩), .pointer (some ⟨g, (an - 1) * 13 + 1, none⟩), .pointer (some ⟨g, (an - 1) * 13 + 2, none⟩), .pointer (some ⟨g, (an - 1) * 13 + 3 + 1, none⟩), .pointer (some ⟨g, (an - 1) * 13 + 10, none⟩), .pointer (some ⟨g, (an - 1) * 13 + 11, none⟩), .pointer (some ⟨g, (an - 1) * 13 + 12, none⟩)] 55)).drew := (below_alloc1 _ _).drew
  have HO3 := Lib.hid (show (W.alloc (.cells #[.pointer (some ⟨w.heap.size, 1, none⟩), .pointer (some ⟨w.heap.size, 2, none⟩), .pointer (some ⟨w.heap.size, 5, none⟩), .pointer (some ⟨w.heap.size, 6, none⟩), .pointer (some ⟨w.heap.size, 7, none⟩), .pointer (some ⟨w.heap.size, 8, none⟩), .pointer (some ⟨w.heap.size, 9, none⟩), .pointer (some ⟨g, (an - 1) * 13, none⟩), .pointer (some ⟨g, (an - 1) * 13 + 1, none⟩), .pointer (some ⟨g, (an - 1) * 13 + 2, none⟩), .pointer (some ⟨g, (an - 1) * 13 + 3 + 1, none⟩), .pointer (some ⟨g, (an - 1) * 13 + 10, none⟩), .pointer (some ⟨g, (an - 1) * 13 + 11, none⟩), .pointer (some ⟨g, (an - 1) * 13 + 12, none⟩)] 55)).drew.ownsRow (w.heap.size + 1 + 1) 41 13 (.slice (some ⟨g, 0, none⟩) an gc) an (abRow (A0 ++ [t])) from (HO2.out.alloc _).drew)
  have HP := Lib.hid (show BlkAt (W.alloc (.cells #[.pointer (some ⟨w.heap.size, 1, none⟩), .pointer (some ⟨w.heap.size, 2, none⟩), .pointer (some ⟨w.heap.size, 5, none⟩), .pointer (some ⟨w.heap.size, 6, none⟩), .pointer (some ⟨w.heap.size, 7, none⟩), .pointer (some ⟨w.heap.size, 8, none⟩), .pointer (some ⟨w.heap.size, 9, none⟩), .pointer (some ⟨g, (an - 1) * 13, none⟩), .pointer (some ⟨g, (an - 1) * 13 + 1, none⟩), .pointer (some ⟨g, (an - 1) * 13 + 2, none⟩), .pointer (some ⟨g, (an - 1) * 13 + 3 + 1, none⟩), .pointer (some ⟨g, (an - 1) * 13 + 10, none⟩), .pointer (some ⟨g, (an - 1) * 13 + 11, none⟩), .pointer (some ⟨g, (an - 1) * 13 + 12, none⟩)] 55)).drew W.heap.size #[.pointer (some ⟨w.heap.size, 1, none⟩), .pointer (some ⟨w.heap.size, 2, none⟩), .pointer (some ⟨w.heap.size, 5, none⟩), .pointer (some ⟨w.heap.size, 6, none⟩), .pointer (some ⟨w.heap.size, 7, none⟩), .pointer (some ⟨w.heap.size, 8, none⟩), .pointer (some ⟨w.heap.size, 9, none⟩), .pointer (some ⟨g, (an - 1) * 13, none⟩), .pointer (some ⟨g, (an - 1) * 13 + 1, none⟩), .pointer (some ⟨g, (an - 1) * 13 + 2, none⟩), .pointer (some ⟨g, (an - 1) * 13 + 3 + 1, none⟩), .pointer (some ⟨g, (an - 1) * 13 + 10, none⟩), .pointer (some ⟨g, (an - 1) * 13 + 11, none⟩), .pointer (some ⟨g, (an - 1) * 13 + 12, none⟩)] 55 from blkAt_top W _ _)
  have HC3 := Lib.hid (HC2.out.next hdr)
  have HE3 := Lib.hid (HE2.out.next hdr)
  have HB3 := Lib.hid (below_then' HB2.out hdr HB2.out.size)
  clear hdr HA HC HE HB HC1 HE1 HB1 HO HO2 HC2 HE2 HB2 HCe
  generalize (W.alloc (.cells #[.pointer (some ⟨w.heap.size, 1, none⟩), .pointer (some ⟨w.heap.size, 2, none⟩), .pointer (some ⟨w.heap.size, 5, none⟩), .pointer (some ⟨w.heap.size, 6, none⟩), .pointer (some ⟨w.heap.size, 7, none⟩), .pointer (some ⟨w.heap.size, 8, none⟩), .pointer (some ⟨w.heap.size, 9, none⟩), .pointer (some ⟨g, (an - 1) * 13, none⟩), .pointer (some ⟨g, (an - 1) * 13 + 1, none⟩), .pointer (some ⟨g, (an - 1) * 13 + 2, none⟩), .pointer (some ⟨g, (an - 1) * 13 + 3 + 1, none⟩), .pointer (some ⟨g, (an - 1) * 13 + 10, none⟩), .pointer (some ⟨g, (an - 1) * 13 + 11, none⟩), .pointer (some ⟨g, (an - 1) * 13 + 12, none⟩)] 55)).drew = V at *
  obtain ⟨⟨q0, q1, q2, q3, q4, q5, q6, q7, q8, q9, q10⟩, f0, f1, f2, f3, f4, f5, f6, f7, f8, f9, f10⟩ := HC3.out.cells11
  obtain ⟨⟨g0, g1, g2, g3, g4, g5, g6, g7, g8, g9, g10⟩, e0, e1, e2, e3, e4, e5, e6, e7, e8, e9, e10⟩ := HE3.out.cells11
  have hz : w.heap.size + 1 < V.heap.size := HE3.out.lt
  have hp : ∀ i : Nat, V.cell? ⟨W.heap.size, i, none⟩ = (#[.pointer (some ⟨w.heap.size, 1, none⟩), .pointer (some ⟨w.heap.size, 2, none⟩), .pointer (some ⟨w.heap.size, 5, none⟩), .pointer (some ⟨w.heap.size, 6, none⟩), .pointer (some ⟨w.heap.size, 7, none⟩), .pointer (some ⟨w.heap.size, 8, none⟩), .pointer (some ⟨w.heap.size, 9, none⟩), .pointer (some ⟨g, (an - 1) * 13, none⟩), .pointer (some ⟨g, (an - 1) * 13 + 1, none⟩), .pointer (some ⟨g, (an - 1) * 13 + 2, none⟩), .pointer (some ⟨g, (an - 1) * 13 + 3 + 1, none⟩), .pointer (some ⟨g, (an - 1) * 13 + 10, none⟩), .pointer (some ⟨g, (an - 1) * 13 + 11, none⟩), .pointer (some ⟨g, (an - 1) * 13 + 12, none⟩)] : Array Value)[i]? := HP.out.cell
  have HHp := Lib.hid hp
  clear hp
  have HM := Lib.hid (show an - 1 = A0.length by have := HN.out; simp at this; omega)
  have hlast := fun (i : Nat) (hi : i < 13) (j : Nat) (hj : j = (an - 1) * 13 + i) => (HO3.out.cellAt j (by omega)).trans ((congrArg (fun z => (abRow (A0 ++ [t]))[z]?) (show j = A0.length * 13 + i by rw [hj, HM.out])).trans ((abRow_at (A0 ++ [t]) A0.length (by simp) i hi).trans (by rw [List.getElem_append_right (Nat.le_refl _)]; simp : _ = (abCells t.1)[i]?)))
  have HLs := Lib.hid hlast
  clear hlast
  have hne1 : w.heap.size ≠ g := by omega
  have hne2 : w.heap.size + 1 ≠ g := by omega
  have hne3 : g ≠ w.heap.size := by omega
  have hne4 : g ≠ w.heap.size + 1 := by omega
  subst hf
  obtain ⟨t0, ht0⟩ : ∃ t0, (A0 ++ [t])[0]'(by simp) = t0 := ⟨_, rfl⟩
  have HT0 := Lib.hid (show ((A0 ++ [t]).map erT).head? = some (erT t0) by rw [List.head?_map, List.head?_eq_getElem?, List.getElem?_eq_getElem (by simp), ht0]; rfl)
  have HT1 := Lib.hid (show t0 ∈ A0 ++ [t] by rw [← ht0]; exact List.getElem_mem _)
  have hfirst := fun (i : Nat) (hi : i < 13) => (HO3.out.cellAt i (by omega)).trans ((congrArg (fun z => (abRow (A0 ++ [t]))[z]?) (show i = 0 * 13 + i by omega)).trans ((abRow_at (A0 ++ [t]) 0 (by simp) i hi).trans (by rw [ht0] : _ = (abCells t0.1)[i]?)))
  have p0 : V.cell? ⟨g, 0, none⟩ = some (.int .i64 t0.1.k) := hfirst 0 (by omega)
  have p1 : V.cell? ⟨g, 1, none⟩ = some (.int .i64 t0.1.ev) := hfirst 1 (by omega)
  have p2 : V.cell? ⟨g, 2, none⟩ = some (.int .i64 t0.1.wh) := hfirst 2 (by omega)
  have p3 : V.cell? ⟨g, 3, none⟩ = some (.int .i64 t0.1.c0) := hfirst 3 (by omega)
  have p4 : V.cell? ⟨g, 4, none⟩ = some (.int .i64 t0.1.c1) := hfirst 4 (by omega)
  have p5 : V.cell? ⟨g, 5, none⟩ = some (.int .i64 t0.1.c2) := hfirst 5 (by omega)
  have p6 : V.cell? ⟨g, 6, none⟩ = some (.int .i64 t0.1.c3) := hfirst 6 (by omega)
  have p7 : V.cell? ⟨g, 7, none⟩ = some (.bool t0.1.tap) := hfirst 7 (by omega)
  have p8 : V.cell? ⟨g, 8, none⟩ = some (.slice t0.1.ta t0.1.tn t0.1.tc) := hfirst 8 (by omega)
  have p9 : V.cell? ⟨g, 9, none⟩ = some (.slice t0.1.ca t0.1.cn t0.1.cc) := hfirst 9 (by omega)
  have p10 : V.cell? ⟨g, 10, none⟩ = some (.int .i64 t0.1.op) := hfirst 10 (by omega)
  have p11 : V.cell? ⟨g, 11, none⟩ = some (.int .i64 t0.1.a) := hfirst 11 (by omega)
  have p12 : V.cell? ⟨g, 12, none⟩ = some (.int .i64 t0.1.b) := hfirst 12 (by omega)
  clear ht0 hfirst
  have hn3 : 0 < an := by omega
  have hn4 : (0 : Int) < (an : Int) := by omega
  have hdr : Below V.heap.size V (V.alloc (.cells #[.int .i64 t0.1.k, .int .i64 t0.1.ev, .int .i64 t0.1.wh, .int .i64 t0.1.c0, .int .i64 t0.1.c1, .int .i64 t0.1.c2, .int .i64 t0.1.c3, .bool t0.1.tap, .slice t0.1.ta t0.1.tn t0.1.tc, .slice t0.1.ca t0.1.cn t0.1.cc, .int .i64 t0.1.op, .int .i64 t0.1.a, .int .i64 t0.1.b] 41)).drew := (below_alloc1 _ _).drew
  have HC4 := Lib.hid (HC3.out.next hdr)
  have HE4 := Lib.hid (HE3.out.next hdr)
  have HB4 := Lib.hid (below_then' HB3.out hdr HB3.out.size)
  have HO4 := Lib.hid (show ((V.alloc (.cells #[.int .i64 t0.1.k, .int .i64 t0.1.ev, .int .i64 t0.1.wh, .int .i64 t0.1.c0, .int .i64 t0.1.c1, .int .i64 t0.1.c2, .int .i64 t0.1.c3, .bool t0.1.tap, .slice t0.1.ta t0.1.tn t0.1.tc, .slice t0.1.ca t0.1.cn t0.1.cc, .int .i64 t0.1.op, .int .i64 t0.1.a, .int .i64 t0.1.b] 41)).drew).ownsRow (w.heap.size + 1 + 1) 41 13 (.slice (some ⟨g, 0, none⟩) an gc) an (abRow (A0 ++ [t])) from (HO3.out.alloc _).drew)
  have HNw := Lib.hid (show ∀ (j : Nat) (u : Value), ([.int .i64 t0.1.k, .int .i64 t0.1.ev, .int .i64 t0.1.wh, .int .i64 t0.1.c0, .int .i64 t0.1.c1, .int .i64 t0.1.c2, .int .i64 t0.1.c3, .bool t0.1.tap, .slice t0.1.ta t0.1.tn t0.1.tc, .slice t0.1.ca t0.1.cn t0.1.cc, .int .i64 t0.1.op, .int .i64 t0.1.a, .int .i64 t0.1.b] : List Value)[j]? = some u → ((V.alloc (.cells #[.int .i64 t0.1.k, .int .i64 t0.1.ev, .int .i64 t0.1.wh, .int .i64 t0.1.c0, .int .i64 t0.1.c1, .int .i64 t0.1.c2, .int .i64 t0.1.c3, .bool t0.1.tap, .slice t0.1.ta t0.1.tn t0.1.tc, .slice t0.1.ca t0.1.cn t0.1.cc, .int .i64 t0.1.op, .int .i64 t0.1.a, .int .i64 t0.1.b] 41)).drew).cell? ((⟨V.heap.size, 0, none⟩ : Addr).add j) = some u from fun j u h => new_cells V #[.int .i64 t0.1.k, .int .i64 t0.1.ev, .int .i64 t0.1.wh, .int .i64 t0.1.c0, .int .i64 t0.1.c1, .int .i64 t0.1.c2, .int .i64 t0.1.c3, .bool t0.1.tap, .slice t0.1.ta t0.1.tn t0.1.tc, .slice t0.1.ca t0.1.cn t0.1.cc, .int .i64 t0.1.op, .int .i64 t0.1.a, .int .i64 t0.1.b] 41 j u h)
  have HSz := Lib.hid (show w.heap.size + 1 + 1 ≤ ((V.alloc (.cells #[.int .i64 t0.1.k, .int .i64 t0.1.ev, .int .i64 t0.1.wh, .int .i64 t0.1.c0, .int .i64 t0.1.c1, .int .i64 t0.1.c2, .int .i64 t0.1.c3, .bool t0.1.tap, .slice t0.1.ta t0.1.tn t0.1.tc, .slice t0.1.ca t0.1.cn t0.1.cc, .int .i64 t0.1.op, .int .i64 t0.1.a, .int .i64 t0.1.b] 41)).drew).heap.size by have := HO4.out.lt g rfl; omega)
  clear hdr
  have r10 : ((V.alloc (.cells #[.int .i64 t0.1.k, .int .i64 t0.1.ev, .int .i64 t0.1.wh, .int .i64 t0.1.c0, .int .i64 t0.1.c1, .int .i64 t0.1.c2, .int .i64 t0.1.c3, .bool t0.1.tap, .slice t0.1.ta t0.1.tn t0.1.tc, .slice t0.1.ca t0.1.cn t0.1.cc, .int .i64 t0.1.op, .int .i64 t0.1.a, .int .i64 t0.1.b] 41)).drew).cell? ⟨w.heap.size, 10, none⟩ = some (.slice (some ⟨g, 0, none⟩) an gc) := HC4.out.cell 10
  have hzA : w.heap.size ≠ V.heap.size := by omega
  have hzB : V.heap.size ≠ w.heap.size := by omega
  go_wp2_with fail
  first
    | (go_region_law (first | (refine step_append_lies _ (by rfl) _ _ _ (by rfl) (w.heap.size + 1 + 1) 41 i0 (.agg #[.int .i64 0, .int .i64 0, .int .i64 0, .int .i64 0, .int .i64 0, .int .i64 0, .int .i64 0, .bool false, .slice none 0 0, .slice none 0 0, .int .i64 0, .int .i64 0, .int .i64 0]) 13 136 Tryd.underlying24 hi hz0 hz1 hz2 rfl (by omega) (.slice (some ⟨g, 0, none⟩) an gc) an (abRow (A0 ++ [t])) (by rfl) HO4.out ⟨V.heap.size, 0, none⟩ 1 1 [.int .i64 t0.1.k, .int .i64 t0.1.ev, .int .i64 t0.1.wh, .int .i64 t0.1.c0, .int .i64 t0.1.c1, .int .i64 t0.1.c2, .int .i64 t0.1.c3, .bool t0.1.tap, .slice t0.1.ta t0.1.tn t0.1.tc, .slice t0.1.ca t0.1.cn t0.1.cc, .int .i64 t0.1.op, .int .i64 t0.1.a, .int .i64 t0.1.b] (by rfl) (by rfl) HNw.out (abCells_one t0.1) (by omega) (by unfold maxLen; omega) (by omega) HSz.out _ (by rfl) ?_; intro g2 gc2 w2 hown2 hgrow2 hat hlt; have HO5 := Lib.hid hown2; have HC5 := Lib.hid (HC4.out.grown hgrow2 (by simpa [Value.ownBlock] using hne3)); have HE5 := Lib.hid (HE4.out.grown hgrow2 (by simpa [Value.ownBlock] using hne4)); have HB5 := Lib.hid (HB4.out.grown hgrow2 HB4.out.size (fun kk e => by have e2 := Option.some.inj e; show w.heap.size ≤ kk; have : g = kk := e2; omega)); clear hown2 hgrow2 hat hlt q0 q1 q2 q3 q4 q5 q6 q7 q8 q9 q10 f0 f1 f2 f3 f4 f5 f6 f7 f8 f9 f10; obtain ⟨⟨q0, q1, q2, q3, q4, q5, q6, q7, q8, q9, q10⟩, f0, f1, f2, f3, f4, f5, f6, f7, f8, f9, f10⟩ := HC5.out.cells11)))
    | fail
  all_goals
    have HSt := Lib.hid (fun (W' : World) (p : Addr) (v : Value) (h1 : w.heap.size ≤ p.block) (h2 : p.block < w.heap.size + 1 + 1) (h : Below w.heap.size w W' ∧ W'.ownsRow (w.heap.size + 1 + 1) 41 13 (.slice (some ⟨g2, 0, none⟩) (an + 1) gc2) (an + 1) (abRow (A0 ++ [t] ++ [t0]))) =>
      (⟨h.1.setCell h1 v, ownsRow_setCell_below h.2 h2 v⟩ : Below w.heap.size w (W'.setCell p v) ∧ (W'.setCell p v).ownsRow (w.heap.size + 1 + 1) 41 13 (.slice (some ⟨g2, 0, none⟩) (an + 1) gc2) (an + 1) (abRow (A0 ++ [t] ++ [t0]))))
    have HFin := Lib.hid (fun (W' : World) (h : Below w.heap.size w W' ∧ W'.ownsRow (w.heap.size + 1 + 1) 41 13 (.slice (some ⟨g2, 0, none⟩) (an + 1) gc2) (an + 1) (abRow (A0 ++ [t] ++ [t0]))) =>
      outC_own (X := X) (p := P) (y := ⟨nm, k, c0, c1, c2, c3, col, pow, tou, keys, some ⟨g2, 0, none⟩, an + 1, gc2⟩) (A := (A0 ++ [t] ++ [t0])) h.1 h.2 (by omega) HX.out (by rw [List.length_append, HN.out]; rfl) (fun W2 hs2 hc2 t2 ht2 => by
        rcases List.mem_append.1 ht2 with h3 | h3
        · exact HCX.out.abs h.1 W2 hs2 hc2 t2 h3
        · obtain rfl := List.mem_singleton.1 h3
          exact HCX.out.abs h.1 W2 hs2 hc2 _ HT1.out) ⟨HY.out.1, HY.out.2⟩ (by rw [HPq.out]; unfold turnM; rw [if_neg (by simp)]; simp only [HT0.out]; simp [erC]))
    have HO6 := Lib.hid (show w2.ownsRow (w.heap.size + 1 + 1) 41 13 (.slice (some ⟨g2, 0, none⟩) (an + 1) gc2) (an + 1) (abRow (A0 ++ [t] ++ [t0])) by rw [abRow_append (A0 ++ [t])]; simpa [abRow, abCells] using HO5.out)
    obtain ⟨⟨x0, x1, x2, x3, x4, x5, x6, x7, x8, x9, x10⟩, z0, z1, z2, z3, z4, z5, z6, z7, z8, z9, z10⟩ := HE5.out.cells11
    go_wp2_with fail
    refine bodyPost_ret (v := .agg #[.string nm, .int .i64 k, .int .i64 c0, .int .i64 c1, .int .i64 c2, .int .i64 c3, .int .i64 col, .int .i64 pow, .int .i64 tou, .int .i64 keys, .slice (some ⟨g2, 0, none⟩) (an + 1) gc2]) (by simp [results, Tryd.results12, go_sem, *]) rfl ?_
    refine HFin.out _ ?_
    iterate 12 (refine HSt.out _ _ _ (by simp) (by simp <;> omega) ?_)
    with_reducible exact ⟨HB5.out, HO6.out⟩
end Go.Proofs.YtfhmadlobdklbaaDoor
