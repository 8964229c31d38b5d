/- turned: one more instruction. (Written by gen5w.py.) -/
import Derived.Test.YtfhmadlobdklbaaDoorCardWs
namespace Go.Proofs.YtfhmadlobdklbaaDoor
open Go.RowKit
set_option linter.unusedVariables false
set_option linter.unusedSimpArgs false

set_option maxRecDepth 100000 in
set_option maxHeartbeats 8000000 in
theorem turned_u (X : Nat → Prop) (y : Cd) (A : List AbT) (f : Nat) (hf : f = 17) (n : Int) (hn64 : In64 n) (w : World) (hX : ∀ g, X g → g < w.heap.size) (hcx : CdX X w y A) (hy : CdOk y) (h0 : A.length ≠ 0) (hlen : A.length ≤ 100) (hb2 : ∀ t ∈ A, t.1.tn ≤ 100 ∧ t.1.cn ≤ 100) :
    Calls Tryd.prog 12 #[.agg #[.string y.nm, .int .i64 y.k, .int .i64 y.c0, .int .i64 y.c1, .int .i64 y.c2, .int .i64 y.c3, .int .i64 y.col, .int .i64 y.pow, .int .i64 y.tou, .int .i64 y.keys, .slice y.aa y.an y.ac], .int .i64 (f : Int), .int .i64 n] w fun e w' => OutC X w w' e (turnM (erC y, A.map erT) f n) := by
  obtain ⟨i0, hi, hz0, hz1, hz2⟩ := info_parts abInfo
  have h := hcx.now
  have hc := h.2.next (below_alloc2 w (.cells #[.string y.nm, .int .i64 y.k, .int .i64 y.c0, .int .i64 y.c1, .int .i64 y.c2, .int .i64 y.c3, .int .i64 y.col, .int .i64 y.pow, .int .i64 y.tou, .int .i64 y.keys, .slice y.aa y.an y.ac] 26) (.cells #[.string ⟨#[]⟩, .int .i64 0, .int .i64 0, .int .i64 0, .int .i64 0, .int .i64 0, .int .i64 0, .int .i64 0, .int .i64 0, .int .i64 0, .slice none 0 0] 26))
  have HN := Lib.hid h.1
  have hcap := h.2.1
  have hcm := h.2.2.1
  rw [h.1] at hcap
  obtain ⟨b, off, hya, hb, hcells⟩ := (hc.next (below_alloc1 _ (.cells #[] 41))).cells h0
  have HCe := Lib.hid hcells
  have HY := Lib.hid hy
  have HCX := Lib.hid hcx
  have HX := Lib.hid hX
  have HN64 := Lib.hid hn64
  have hl := hlen
  rw [h.1] at hl
  have hn0 : y.an ≠ 0 := by rw [← h.1]; exact h0
  obtain ⟨A0, t, rfl⟩ := snoc_of A h0
  have ht2 := hb2 t (by simp)
  have hts := (h.2.2.2.1 t (by simp))
  clear hcells hy hcx h hc hlen h0 hX hn64 hb2
  obtain ⟨nm, k, c0, c1, c2, c3, col, pow, tou, keys, aa, an, ac⟩ := y
  simp only at *
  subst hya
  obtain ⟨P, hP⟩ : ∃ P, P = turnM (erC ⟨nm, k, c0, c1, c2, c3, col, pow, tou, keys, some ⟨b, off, none⟩, an, ac⟩, (A0 ++ [t]).map erT) f n := ⟨_, rfl⟩
  rw [← hP]
  have HPq := Lib.hid hP
  clear hP
  have HA := Lib.hid (own_empty w (.cells #[.string nm, .int .i64 k, .int .i64 c0, .int .i64 c1, .int .i64 c2, .int .i64 c3, .int .i64 col, .int .i64 pow, .int .i64 tou, .int .i64 keys, .slice (some ⟨b, off, none⟩) an ac] 26) (.cells #[.string ⟨#[]⟩, .int .i64 0, .int .i64 0, .int .i64 0, .int .i64 0, .int .i64 0, .int .i64 0, .int .i64 0, .int .i64 0, .int .i64 0, .slice none 0 0] 26))
  have HC := Lib.hid ((blkAt_one w #[.string nm, .int .i64 k, .int .i64 c0, .int .i64 c1, .int .i64 c2, .int .i64 c3, .int .i64 col, .int .i64 pow, .int .i64 tou, .int .i64 keys, .slice (some ⟨b, off, none⟩) an ac] 26 (.cells #[.string ⟨#[]⟩, .int .i64 0, .int .i64 0, .int .i64 0, .int .i64 0, .int .i64 0, .int .i64 0, .int .i64 0, .int .i64 0, .int .i64 0, .slice none 0 0] 26)).next (below_alloc1 _ (.cells #[] 41)))
  have HE := Lib.hid ((blkAt_two w #[.string ⟨#[]⟩, .int .i64 0, .int .i64 0, .int .i64 0, .int .i64 0, .int .i64 0, .int .i64 0, .int .i64 0, .int .i64 0, .int .i64 0, .slice none 0 0] 26 (.cells #[.string nm, .int .i64 k, .int .i64 c0, .int .i64 c1, .int .i64 c2, .int .i64 c3, .int .i64 col, .int .i64 pow, .int .i64 tou, .int .i64 keys, .slice (some ⟨b, off, none⟩) an ac] 26)).next (below_alloc1 _ (.cells #[] 41)))
  have HB := Lib.hid ((below_alloc2 w (.cells #[.string nm, .int .i64 k, .int .i64 c0, .int .i64 c1, .int .i64 c2, .int .i64 c3, .int .i64 col, .int .i64 pow, .int .i64 tou, .int .i64 keys, .slice (some ⟨b, off, none⟩) an ac] 26) (.cells #[.string ⟨#[]⟩, .int .i64 0, .int .i64 0, .int .i64 0, .int .i64 0, .int .i64 0, .int .i64 0, .int .i64 0, .int .i64 0, .int .i64 0, .slice none 0 0] 26)).alloc (by simp; omega) (.cells #[] 41))
  have HL := Lib.hid (show (abRow (A0 ++ [t])).length = an * 13 by rw [abRow_len, HN.out])
  have HN0 := Lib.hid hn0
  have hn1 : ((an : Int) == 0) = false := by simp; omega
  have hn2 : 1 ≤ an := by omega
  clear hn0 hb
  go_enter Tryd.func12, Tryd.ntmps12
  go_wp2_with (at_builtin; refine wpList_append_own _ rfl _ _ 24 rfl (w.heap.size + 1 + 1) 41 i0 (.agg #[.int .i64 0, .int .i64 0, .int .i64 0, .int .i64 0, .int .i64 0, .int .i64 0, .int .i64 0, .bool false, .slice none 0 0, .slice none 0 0, .int .i64 0, .int .i64 0, .int .i64 0]) 13 136 Tryd.underlying24 hi hz0 hz1 hz2 rfl (by decide) _ 0 [] rfl HA.out ⟨b, off, none⟩ an ac (abRow (A0 ++ [t])) rfl HL.out HCe.out (abRow_one (A0 ++ [t])) (by unfold maxLen; omega) (by omega) (by simp) ?_; intro v' w1 hown' hgrow hnil; clear hnil; rw [Nat.zero_add, List.nil_append] at hown'; obtain ⟨g, gc, rfl, hg1, hg2, hg3, hg4⟩ := own_some hown' HN0.out; have HO := Lib.hid hown'; have HC1 := Lib.hid (HC.out.grown hgrow (own_ne0 _)); have HE1 := Lib.hid (HE.out.grown hgrow (own_ne1 _)); have HB1 := Lib.hid (HB.out.grown hgrow HB.out.size (own_ge _)); clear hown' hgrow; obtain ⟨⟨q0, q1, q2, q3, q4, q5, q6, q7, q8, q9, q10⟩, f0, f1, f2, f3, f4, f5, f6, f7, f8, f9, f10⟩ := HC1.out.cells11)
  have HO2 := Lib.hid (ownsRow_setCell_below HO.out (a := ⟨w.heap.size, 10, none⟩) (by show w.heap.size < w.heap.size + 1 + 1; omega) (.slice (some ⟨g, 0, none⟩) an gc))
  have HC2 := Lib.hid (show BlkAt (w1.setCell ⟨w.heap.size, 10, none⟩ (.slice (some ⟨g, 0, none⟩) an gc)) w.heap.size #[.string nm, .int .i64 k, .int .i64 c0, .int .i64 c1, .int .i64 c2, .int .i64 c3, .int .i64 col, .int .i64 pow, .int .i64 tou, .int .i64 keys, .slice (some ⟨g, 0, none⟩) an gc] 26 by simpa using HC1.out.set 10 (.slice (some ⟨g, 0, none⟩) an gc))
  have HE2 := Lib.hid (HE1.out.far ⟨w.heap.size, 10, none⟩ (.slice (some ⟨g, 0, none⟩) an gc) (by show w.heap.size ≠ w.heap.size + 1; omega))
  have HB2 := Lib.hid (HB1.out.setCell (p := ⟨w.heap.size, 10, none⟩) (Nat.le_refl _) (.slice (some ⟨g, 0, none⟩) an gc))
  clear q0 q1 q2 q3 q4 q5 q6 q7 q8 q9 q10 f0 f1 f2 f3 f4 f5 f6 f7 f8 f9 f10 hg2
  generalize w1.setCell ⟨w.heap.size, 10, none⟩ (.slice (some ⟨g, 0, none⟩) an gc) = W at *
  go_region
  have hdr : Below W.heap.size W (W.alloc (.cells #[.pointer (some ⟨w.heap.size, 1, none⟩), .pointer (some ⟨w.heap.size, 2, none⟩), .pointer (some ⟨w.heap.size, 5, none⟩), .pointer (some ⟨w.heap.size, 6, none⟩), .pointer (some ⟨w.heap.size, 7, none⟩), .pointer (some ⟨w.heap.size, 8, none⟩), .pointer (some ⟨w.heap.size, 9, none⟩), .pointer (some ⟨g, (an - 1) * 13, none⟩), .pointer (some ⟨g, (an - 1) * 13 + 1, none⟩), .pointer (some ⟨g, (an - 1) * 13 + 2, none⟩), .pointer (some ⟨g, (an - 1) * 13 + 3 + 1, none⟩), .pointer (some ⟨g, (an - 1) * 13 + 10, none⟩), .pointer (some ⟨g, (an - 1) * 13 + 11, none⟩), .pointer (some ⟨g, (an - 1) * 13 + 12, none⟩)] 55)).drew := (below_alloc1 _ _).drew
  have HO3 := Lib.hid (show (W.alloc (.cells #[.pointer (some ⟨w.heap.size, 1, none⟩), .pointer (some ⟨w.heap.size, 2, none⟩), .pointer (some ⟨w.heap.size, 5, none⟩), .pointer (some ⟨w.heap.size, 6, none⟩), .pointer (some ⟨w.heap.size, 7, none⟩), .pointer (some ⟨w.heap.size, 8, none⟩), .pointer (some ⟨w.heap.size, 9, none⟩), .pointer (some ⟨g, (an - 1) * 13, none⟩), .pointer (some ⟨g, (an - 1) * 13 + 1, none⟩), .pointer (some ⟨g, (an - 1) * 13 + 2, none⟩), .pointer (some ⟨g, (an - 1) * 13 + 3 + 1, none⟩), .pointer (some ⟨g, (an - 1) * 13 + 10, none⟩), .pointer (some ⟨g, (an - 1) * 13 + 11, none⟩), .pointer (some ⟨g, (an - 1) * 13 + 12, none⟩)] 55)).drew.ownsRow (w.heap.size + 1 + 1) 41 13 (.slice (some ⟨g, 0, none⟩) an gc) an (abRow (A0 ++ [t])) from (HO2.out.alloc _).drew)
  have HP := Lib.hid (show BlkAt (W.alloc (.cells #[.pointer (some ⟨w.heap.size, 1, none⟩), .pointer (some ⟨w.heap.size, 2, none⟩), .pointer (some ⟨w.heap.size, 5, none⟩), .pointer (some ⟨w.heap.size, 6, none⟩), .pointer (some ⟨w.heap.size, 7, none⟩), .pointer (some ⟨w.heap.size, 8, none⟩), .pointer (some ⟨w.heap.size, 9, none⟩), .pointer (some ⟨g, (an - 1) * 13, none⟩), .pointer (some ⟨g, (an - 1) * 13 + 1, none⟩), .pointer (some ⟨g, (an - 1) * 13 + 2, none⟩), .pointer (some ⟨g, (an - 1) * 13 + 3 + 1, none⟩), .pointer (some ⟨g, (an - 1) * 13 + 10, none⟩), .pointer (some ⟨g, (an - 1) * 13 + 11, none⟩), .pointer (some ⟨g, (an - 1) * 13 + 12, none⟩)] 55)).drew W.heap.size #[.pointer (some ⟨w.heap.size, 1, none⟩), .pointer (some ⟨w.heap.size, 2, none⟩), .pointer (some ⟨w.heap.size, 5, none⟩), .pointer (some ⟨w.heap.size, 6, none⟩), .pointer (some ⟨w.heap.size, 7, none⟩), .pointer (some ⟨w.heap.size, 8, none⟩), .pointer (some ⟨w.heap.size, 9, none⟩), .pointer (some ⟨g, (an - 1) * 13, none⟩), .pointer (some ⟨g, (an - 1) * 13 + 1, none⟩), .pointer (some ⟨g, (an - 1) * 13 + 2, none⟩), .pointer (some ⟨g, (an - 1) * 13 + 3 + 1, none⟩), .pointer (some ⟨g, (an - 1) * 13 + 10, none⟩), .pointer (some ⟨g, (an - 1) * 13 + 11, none⟩), .pointer (some ⟨g, (an - 1) * 13 + 12, none⟩)] 55 from blkAt_top W _ _)
  have HC3 := Lib.hid (HC2.out.next hdr)
  have HE3 := Lib.hid (HE2.out.next hdr)
  have HB3 := Lib.hid (below_then' HB2.out hdr HB2.out.size)
  clear hdr HA HC HE HB HC1 HE1 HB1 HO HO2 HC2 HE2 HB2 HCe
  generalize (W.alloc (.cells #[.pointer (some ⟨w.heap.size, 1, none⟩), .pointer (some ⟨w.heap.size, 2, none⟩), .pointer (some ⟨w.heap.size, 5, none⟩), .pointer (some ⟨w.heap.size, 6, none⟩), .pointer (some ⟨w.heap.size, 7, none⟩), .pointer (some ⟨w.heap.size, 8, none⟩), .pointer (some ⟨w.heap.size, 9, none⟩), .pointer (some ⟨g, (an - 1) * 13, none⟩), .pointer (some ⟨g, (an - 1) * 13 + 1, none⟩), .pointer (some ⟨g, (an - 1) * 13 + 2, none⟩), .pointer (some ⟨g, (an - 1) * 13 + 3 + 1, none⟩), .pointer (some ⟨g, (an - 1) * 13 + 10, none⟩), .pointer (some ⟨g, (an - 1) * 13 + 11, none⟩), .pointer (some ⟨g, (an - 1) * 13 + 12, none⟩)] 55)).drew = V at *
  obtain ⟨⟨q0, q1, q2, q3, q4, q5, q6, q7, q8, q9, q10⟩, f0, f1, f2, f3, f4, f5, f6, f7, f8, f9, f10⟩ := HC3.out.cells11
  obtain ⟨⟨g0, g1, g2, g3, g4, g5, g6, g7, g8, g9, g10⟩, e0, e1, e2, e3, e4, e5, e6, e7, e8, e9, e10⟩ := HE3.out.cells11
  have hz : w.heap.size + 1 < V.heap.size := HE3.out.lt
  have hp : ∀ i : Nat, V.cell? ⟨W.heap.size, i, none⟩ = (#[.pointer (some ⟨w.heap.size, 1, none⟩), .pointer (some ⟨w.heap.size, 2, none⟩), .pointer (some ⟨w.heap.size, 5, none⟩), .pointer (some ⟨w.heap.size, 6, none⟩), .pointer (some ⟨w.heap.size, 7, none⟩), .pointer (some ⟨w.heap.size, 8, none⟩), .pointer (some ⟨w.heap.size, 9, none⟩), .pointer (some ⟨g, (an - 1) * 13, none⟩), .pointer (some ⟨g, (an - 1) * 13 + 1, none⟩), .pointer (some ⟨g, (an - 1) * 13 + 2, none⟩), .pointer (some ⟨g, (an - 1) * 13 + 3 + 1, none⟩), .pointer (some ⟨g, (an - 1) * 13 + 10, none⟩), .pointer (some ⟨g, (an - 1) * 13 + 11, none⟩), .pointer (some ⟨g, (an - 1) * 13 + 12, none⟩)] : Array Value)[i]? := HP.out.cell
  have HHp := Lib.hid hp
  clear hp
  have HM := Lib.hid (show an - 1 = A0.length by have := HN.out; simp at this; omega)
  have hlast := fun (i : Nat) (hi : i < 13) (j : Nat) (hj : j = (an - 1) * 13 + i) => (HO3.out.cellAt j (by omega)).trans ((congrArg (fun z => (abRow (A0 ++ [t]))[z]?) (show j = A0.length * 13 + i by rw [hj, HM.out])).trans ((abRow_at (A0 ++ [t]) A0.length (by simp) i hi).trans (by rw [List.getElem_append_right (Nat.le_refl _)]; simp : _ = (abCells t.1)[i]?)))
  have HLs := Lib.hid hlast
  clear hlast
  have hne1 : w.heap.size ≠ g := by omega
  have hne2 : w.heap.size + 1 ≠ g := by omega
  have hne3 : g ≠ w.heap.size := by omega
  have hne4 : g ≠ w.heap.size + 1 := by omega
  subst hf
  obtain ⟨j0, hj1, hj2, hj3⟩ := info_parts insInfo
  obtain ⟨hj3, hj4⟩ := hj3
  have hsn : t.1.cn ≤ 100 := ht2.2
  have HSr := Lib.hid (fun (W2 : World) (h : Below w.heap.size w W2) => isC_to hts.2.1 ((HCX.out.next h).now.2.2.2.1 t (by simp)).2.2)
  have HSl := Lib.hid (show (insCells t.2.2).length = t.1.cn * 3 from (by rw [insCells_len, hts.2.1]))
  have hold : V.cell? ⟨g, (an - 1) * 13 + 9, none⟩ = some (.slice t.1.ca t.1.cn t.1.cc) := HLs.out 9 (by omega) _ (by omega)
  clear ht2 hts
  have hgV : g < V.heap.size := (HO3.out.lt g rfl).2
  have hgV1 : g ≠ V.heap.size := by omega
  have hgV2 : V.heap.size ≠ g := by omega
  go_wp2_with (first
    | (at_builtin; refine wpList_append_src rfl _ _ 39 rfl V.heap.size 53 j0 (.agg #[.int .i64 0, .int .i64 0, .int .i64 0]) 3 24 Tryd.underlying39 hj1 hj2 hj3 hj4 rfl (by decide) (.slice (some ⟨V.heap.size, 0, none⟩) 0 0) 0 [] rfl (own_lit0 V 53 3) t.1.ca t.1.cn t.1.cc (insCells t.2.2) rfl HSl.out (HSr.out _ (HB3.out.trans ((below_alloc1 V _).mono HB3.out.size))) (insCells_one _) (by unfold maxLen; omega) (by omega) (by simp) ?_; intro v1 w1 hown1 hgrow1; rw [Nat.zero_add, List.nil_append] at hown1; have HI1 := Lib.hid hown1; have HV1 := Lib.hid (grown_up (below_alloc1 V _) (by simp) (own_lit0 V 53 3) hgrow1); clear hown1 hgrow1)
    | (at_builtin; refine wpList_append_own _ rfl _ _ 39 rfl V.heap.size 53 j0 (.agg #[.int .i64 0, .int .i64 0, .int .i64 0]) 3 24 Tryd.underlying39 hj1 hj2 hj3 hj4 rfl (by decide) v1 t.1.cn (insCells t.2.2) rfl (HI1.out.alloc _) ⟨w1.heap.size, 0, none⟩ 1 1 [.int .i64 n, .int .i64 0, .int .i64 0] rfl rfl (new_cells w1 #[.int .i64 n, .int .i64 0, .int .i64 0] 53) (insCells_one [⟨n, 0, 0⟩]) (by unfold maxLen; omega) (by omega) (by have := HV1.out.size; simp; omega) ?_; intro v2 w2 hown2 hgrow2 hnil; clear hnil; have HI2 := Lib.hid hown2; have HV2 := Lib.hid (grown_row HV1.out HV1.out.size HI1.out hgrow2); obtain ⟨gx, dx, rfl, hk1, hk2, hk3, hk4⟩ := own_some hown2 (Nat.succ_ne_zero _); clear hown2 hgrow2 q0 q1 q2 q3 q4 q5 q6 q7 q8 q9 q10 f0 f1 f2 f3 f4 f5 f6 f7 f8 f9 f10 g0 g1 g2 g3 g4 g5 g6 g7 g8 g9 g10 e0 e1 e2 e3 e4 e5 e6 e7 e8 e9 e10 hold; obtain ⟨⟨q0, q1, q2, q3, q4, q5, q6, q7, q8, q9, q10⟩, f0, f1, f2, f3, f4, f5, f6, f7, f8, f9, f10⟩ := (HC3.out.next HV2.out).cells11; obtain ⟨⟨g0, g1, g2, g3, g4, g5, g6, g7, g8, g9, g10⟩, e0, e1, e2, e3, e4, e5, e6, e7, e8, e9, e10⟩ := (HE3.out.next HV2.out).cells11; have HO5 := Lib.hid (own_next HO3.out HV2.out); have hold : w2.cell? ⟨g, (an - 1) * 13 + 9, none⟩ = some (.slice t.1.ca t.1.cn t.1.cc) := (HV2.out.cell (p := ⟨g, (an - 1) * 13 + 9, none⟩) (HO3.out.lt g rfl).2).trans (HLs.out 9 (by omega) _ (by omega)); have hfr : w2.frozen? ⟨g, (an - 1) * 13 + 9, none⟩ = false := HO5.out.frozenAt _; have HB5 := Lib.hid (below_then' HB3.out HV2.out HB3.out.size)))
  have hst := (HO5.out.stored ((an - 1) * 13 + 9) (.slice (some ⟨gx, 0, none⟩) (t.1.cn + 1) dx)).1
  rw [abRow_set A0 t ({ t.1 with ca := some ⟨gx, 0, none⟩, cn := t.1.cn + 1, cc := dx }, (t.2.1, t.2.2 ++ [⟨n, 0, 0⟩])) 9 (.slice (some ⟨gx, 0, none⟩) (t.1.cn + 1) dx) (by omega) rfl _ (by have := HM.out; omega)] at hst
  have HO6 := Lib.hid hst
  clear hst
  have HB6 := Lib.hid (HB5.out.setCell (p := ⟨g, (an - 1) * 13 + 9, none⟩) (by show w.heap.size ≤ g; omega) (.slice (some ⟨gx, 0, none⟩) (t.1.cn + 1) dx))
  have HI3 := Lib.hid (ownsRow_setCell_below HI2.out (a := ⟨g, (an - 1) * 13 + 9, none⟩) (by show g < V.heap.size; omega) (.slice (some ⟨gx, 0, none⟩) (t.1.cn + 1) dx))
  have HSt := Lib.hid (fun (W' : World) (p : Addr) (v : Value) (h1 : w.heap.size ≤ p.block) (h2 : p.block < w.heap.size + 1 + 1) (h : ((Below w.heap.size w W' ∧ W'.ownsRow (w.heap.size + 1 + 1) 41 13 (.slice (some ⟨g, 0, none⟩) an gc) an (abRow (A0 ++ [({ t.1 with ca := some ⟨gx, 0, none⟩, cn := t.1.cn + 1, cc := dx }, (t.2.1, t.2.2 ++ [⟨n, 0, 0⟩]))]))) ∧ W'.ownsRow V.heap.size 53 3 (.slice (some ⟨gx, 0, none⟩) (t.1.cn + 1) dx) (t.1.cn + 1) (insCells t.2.2 ++ [.int .i64 n, .int .i64 0, .int .i64 0]))) =>
    (⟨⟨h.1.1.setCell h1 v, ownsRow_setCell_below h.1.2 h2 v⟩, ownsRow_setCell_below h.2 (Nat.lt_of_lt_of_le h2 hz) v⟩ : ((Below w.heap.size w (W'.setCell p v) ∧ (W'.setCell p v).ownsRow (w.heap.size + 1 + 1) 41 13 (.slice (some ⟨g, 0, none⟩) an gc) an (abRow (A0 ++ [({ t.1 with ca := some ⟨gx, 0, none⟩, cn := t.1.cn + 1, cc := dx }, (t.2.1, t.2.2 ++ [⟨n, 0, 0⟩]))]))) ∧ (W'.setCell p v).ownsRow V.heap.size 53 3 (.slice (some ⟨gx, 0, none⟩) (t.1.cn + 1) dx) (t.1.cn + 1) (insCells t.2.2 ++ [.int .i64 n, .int .i64 0, .int .i64 0]))))
  have HFin := Lib.hid (fun (W' : World) (h : ((Below w.heap.size w W' ∧ W'.ownsRow (w.heap.size + 1 + 1) 41 13 (.slice (some ⟨g, 0, none⟩) an gc) an (abRow (A0 ++ [({ t.1 with ca := some ⟨gx, 0, none⟩, cn := t.1.cn + 1, cc := dx }, (t.2.1, t.2.2 ++ [⟨n, 0, 0⟩]))]))) ∧ W'.ownsRow V.heap.size 53 3 (.slice (some ⟨gx, 0, none⟩) (t.1.cn + 1) dx) (t.1.cn + 1) (insCells t.2.2 ++ [.int .i64 n, .int .i64 0, .int .i64 0]))) =>
    outC_own (X := X) (p := P) (y := ⟨nm, k, c0, c1, c2, c3, col, pow, tou, keys, some ⟨g, 0, none⟩, an, gc⟩) (A := (A0 ++ [({ t.1 with ca := some ⟨gx, 0, none⟩, cn := t.1.cn + 1, cc := dx }, (t.2.1, t.2.2 ++ [⟨n, 0, 0⟩]))])) h.1.1 h.1.2 (by omega) HX.out (by simpa using HN.out) (fun W2 hs2 hc2 t2 ht2 => by
      rcases List.mem_append.1 ht2 with h3 | h3
      · exact HCX.out.abs h.1.1 W2 hs2 hc2 t2 (List.mem_append_left _ h3)
      · obtain rfl := List.mem_singleton.1 h3
        have hq := HCX.out.abs h.1.1 W2 hs2 hc2 t (by simp)
        obtain ⟨a3, b3, hv3, hrow3⟩ := own_row h.2
        injection hv3 with r1 r2 r3
        subst r1 r3
        have hrow2 := hrow3.agree hs2 hc2 (fun p hp hx => by cases hp; have h9 : gx < w.heap.size := HX.out _ hx; omega)
        exact ⟨hq.1, by simp [hq.2.1], isC_row (n := t.1.cn + 1) (by simp [hq.2.1]) (by rw [insCells_append]; exact hrow2)⟩) ⟨HY.out.1, HY.out.2⟩ (by rw [HPq.out]; simp [turnM, lastM, erC, erT, erA]))
  refine bodyPost_ret (v := .agg #[.string nm, .int .i64 k, .int .i64 c0, .int .i64 c1, .int .i64 c2, .int .i64 c3, .int .i64 col, .int .i64 pow, .int .i64 tou, .int .i64 keys, .slice (some ⟨g, 0, none⟩) an gc]) (by simp [results, Tryd.results12, go_sem, *]) rfl ?_
  refine HFin.out _ ?_
  iterate 11 (refine HSt.out _ _ _ (by simp) (by simp <;> omega) ?_)
  with_reducible exact ⟨⟨HB6.out, HO6.out⟩, HI3.out⟩
end Go.Proofs.YtfhmadlobdklbaaDoor
