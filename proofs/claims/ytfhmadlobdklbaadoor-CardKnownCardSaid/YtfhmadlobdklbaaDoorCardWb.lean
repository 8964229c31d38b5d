/- turned: names; fewer abilities. (Written by gen5w.py.) -/
import Derived.Test.YtfhmadlobdklbaaDoorCardW
namespace Go.Proofs.YtfhmadlobdklbaaDoor
open Go.RowKit
set_option linter.unusedVariables false
set_option linter.unusedSimpArgs false

theorem own_less {w : World} {base e size : Nat} {g n c m : Nat} {xs : List Value} (h : w.ownsRow base e size (.slice (some ⟨g, 0, none⟩) n c) n xs) (hm : m ≤ n) : w.ownsRow base e size (.slice (some ⟨g, 0, none⟩) m c) m (xs.take (m * size)) := by
  have hms : m * size ≤ n * size := Nat.mul_le_mul_right _ hm
  refine ⟨by rw [List.length_take, h.1]; omega, ?_⟩
  rcases h.2 with ⟨h', _⟩ | ⟨g', c', cur, h', hb, hh, hc, hx, hs, ht⟩
  · cases h'
  · injection h' with e1 e2 e3
    injection e1 with e1
    injection e1 with e1
    subst e1 e3
    refine .inr ⟨g, c, cur, rfl, hb, hh, Nat.le_trans hm hc, hx, hs, ?_⟩
    rw [← ht, List.take_take, Nat.min_eq_left hms]
set_option maxRecDepth 100000 in
set_option maxHeartbeats 8000000 in
theorem turned_b (X : Nat → Prop) (y : Cd) (A : List AbT) (f : Nat) (hf : f = 19 ∨ f = 21 ∨ f = 22 ∨ f = 23) (n : Int) (hn64 : In64 n) (w : World) (hX : ∀ g, X g → g < w.heap.size) (hcx : CdX X w y A) (hy : CdOk y) (h0 : A.length ≠ 0) (hlen : A.length ≤ 100) :
    Calls Tryd.prog 12 #[.agg #[.string y.nm, .int .i64 y.k, .int .i64 y.c0, .int .i64 y.c1, .int .i64 y.c2, .int .i64 y.c3, .int .i64 y.col, .int .i64 y.pow, .int .i64 y.tou, .int .i64 y.keys, .slice y.aa y.an y.ac], .int .i64 (f : Int), .int .i64 n] w fun e w' => OutC X w w' e (turnM (erC y, A.map erT) f n) := by
  obtain ⟨i0, hi, hz0, hz1, hz2⟩ := info_parts abInfo
  have h := hcx.now
  have hc := h.2.next (below_alloc2 w (.cells #[.string y.nm, .int .i64 y.k, .int .i64 y.c0, .int .i64 y.c1, .int .i64 y.c2, .int .i64 y.c3, .int .i64 y.col, .int .i64 y.pow, .int .i64 y.tou, .int .i64 y.keys, .slice y.aa y.an y.ac] 26) (.cells #[.string ⟨#[]⟩, .int .i64 0, .int .i64 0, .int .i64 0, .int .i64 0, .int .i64 0, .int .i64 0, .int .i64 0, .int .i64 0, .int .i64 0, .slice none 0 0] 26))
  have HN := Lib.hid h.1
  have hcap := h.2.1
  have hcm := h.2.2.1
  rw [h.1] at hcap
  obtain ⟨b, off, hya, hb, hcells⟩ := (hc.next (below_alloc1 _ (.cells #[] 41))).cells h0
  have HCe := Lib.hid hcells
  have HY := Lib.hid hy
  have HCX := Lib.hid hcx
  have HX := Lib.hid hX
  have HN64 := Lib.hid hn64
  have hl := hlen
  rw [h.1] at hl
  have hn0 : y.an ≠ 0 := by rw [← h.1]; exact h0
  obtain ⟨A0, t, rfl⟩ := snoc_of A h0
  clear hcells hy hcx h hc hlen h0 hX hn64
  obtain ⟨nm, k, c0, c1, c2, c3, col, pow, tou, keys, aa, an, ac⟩ := y
  simp only at *
  subst hya
  obtain ⟨P, hP⟩ : ∃ P, P = turnM (erC ⟨nm, k, c0, c1, c2, c3, col, pow, tou, keys, some ⟨b, off, none⟩, an, ac⟩, (A0 ++ [t]).map erT) f n := ⟨_, rfl⟩
  rw [← hP]
  have HPq := Lib.hid hP
  clear hP
  have HA := Lib.hid (own_empty w (.cells #[.string nm, .int .i64 k, .int .i64 c0, .int .i64 c1, .int .i64 c2, .int .i64 c3, .int .i64 col, .int .i64 pow, .int .i64 tou, .int .i64 keys, .slice (some ⟨b, off, none⟩) an ac] 26) (.cells #[.string ⟨#[]⟩, .int .i64 0, .int .i64 0, .int .i64 0, .int .i64 0, .int .i64 0, .int .i64 0, .int .i64 0, .int .i64 0, .int .i64 0, .slice none 0 0] 26))
  have HC := Lib.hid ((blkAt_one w #[.string nm, .int .i64 k, .int .i64 c0, .int .i64 c1, .int .i64 c2, .int .i64 c3, .int .i64 col, .int .i64 pow, .int .i64 tou, .int .i64 keys, .slice (some ⟨b, off, none⟩) an ac] 26 (.cells #[.string ⟨#[]⟩, .int .i64 0, .int .i64 0, .int .i64 0, .int .i64 0, .int .i64 0, .int .i64 0, .int .i64 0, .int .i64 0, .int .i64 0, .slice none 0 0] 26)).next (below_alloc1 _ (.cells #[] 41)))
  have HE := Lib.hid ((blkAt_two w #[.string ⟨#[]⟩, .int .i64 0, .int .i64 0, .int .i64 0, .int .i64 0, .int .i64 0, .int .i64 0, .int .i64 0, .int .i64 0, .int .i64 0, .slice none 0 0] 26 (.cells #[.string nm, .int .i64 k, .int .i64 c0, .int .i64 c1, .int .i64 c2, .int .i64 c3, .int .i64 col, .int .i64 pow, .int .i64 tou, .int .i64 keys, .slice (some ⟨b, off, none⟩) an ac] 26)).next (below_alloc1 _ (.cells #[] 41)))
  have HB := Lib.hid ((below_alloc2 w (.cells #[.string nm, .int .i64 k, .int .i64 c0, .int .i64 c1, .int .i64 c2, .int .i64 c3, .int .i64 col, .int .i64 pow, .int .i64 tou, .int .i64 keys, .slice (some ⟨b, off, none⟩) an ac] 26) (.cells #[.string ⟨#[]⟩, .int .i64 0, .int .i64 0, .int .i64 0, .int .i64 0, .int .i64 0, .int .i64 0, .int .i64 0, .int .i64 0, .int .i64 0, .slice none 0 0] 26)).alloc (by simp; omega) (.cells #[] 41))
  have HL := Lib.hid (show (abRow (A0 ++ [t])).length = an * 13 by rw [abRow_len, HN.out])
  have HN0 := Lib.hid hn0
  have hn1 : ((an : Int) == 0) = false := by simp; omega
  have hn2 : 1 ≤ an := by omega
  clear hn0 hb
  go_enter Tryd.func12, Tryd.ntmps12
  go_wp2_with (at_builtin; refine wpList_append_own _ rfl _ _ 24 rfl (w.heap.size + 1 + 1) 41 i0 (.agg #[.int .i64 0, .int .i64 0, .int .i64 0, .int .i64 0, .int .i64 0, .int .i64 0, .int .i64 0, .bool false, .slice none 0 0, .slice none 0 0, .int .i64 0, .int .i64 0, .int .i64 0]) 13 136 Tryd.underlying24 hi hz0 hz1 hz2 rfl (by decide) _ 0 [] rfl HA.out ⟨b, off, none⟩ an ac (abRow (A0 ++ [t])) rfl HL.out HCe.out (abRow_one (A0 ++ [t])) (by unfold maxLen; omega) (by omega) (by simp) ?_; intro v' w1 hown' hgrow hnil; clear hnil; rw [Nat.zero_add, List.nil_append] at hown'; obtain ⟨g, gc, rfl, hg1, hg2, hg3, hg4⟩ := own_some hown' HN0.out; have HO := Lib.hid hown'; have HC1 := Lib.hid (HC.out.grown hgrow (own_ne0 _)); have HE1 := Lib.hid (HE.out.grown hgrow (own_ne1 _)); have HB1 := Lib.hid (HB.out.grown hgrow HB.out.size (own_ge _)); clear hown' hgrow; obtain ⟨⟨q0, q1, q2, q3, q4, q5, q6, q7, q8, q9, q10⟩, f0, f1, f2, f3, f4, f5, f6, f7, f8, f9, f10⟩ := HC1.out.cells11)
  have HO2 := Lib.hid (ownsRow_setCell_below HO.out (a := ⟨w.heap.size, 10, none⟩) (by show w.heap.size < w.heap.size + 1 + 1; omega) (.slice (some ⟨g, 0, none⟩) an gc))
  have HC2 := Lib.hid (show BlkAt (w1.setCell ⟨w.heap.size, 10, none⟩ (.slice (some ⟨g, 0, none⟩) an gc)) w.heap.size #[.string nm, .int .i64 k, .int .i64 c0, .int .i64 c1, .int .i64 c2, .int .i64 c3, .int .i64 col, .int .i64 pow, .int .i64 tou, .int .i64 keys, .slice (some ⟨g, 0, none⟩) an gc] 26 by simpa using HC1.out.set 10 (.slice (some ⟨g, 0, none⟩) an gc))
  have HE2 := Lib.hid (HE1.out.far ⟨w.heap.size, 10, none⟩ (.slice (some ⟨g, 0, none⟩) an gc) (by show w.heap.size ≠ w.heap.size + 1; omega))
  have HB2 := Lib.hid (HB1.out.setCell (p := ⟨w.heap.size, 10, none⟩) (Nat.le_refl _) (.slice (some ⟨g, 0, none⟩) an gc))
  clear q0 q1 q2 q3 q4 q5 q6 q7 q8 q9 q10 f0 f1 f2 f3 f4 f5 f6 f7 f8 f9 f10 hg2
  generalize w1.setCell ⟨w.heap.size, 10, none⟩ (.slice (some ⟨g, 0, none⟩) an gc) = W at *
  go_region
  have hdr : Below W.heap.size W (W.alloc (.cells #[.pointer (some ⟨w.heap.size, 1, none⟩), .pointer (some ⟨w.heap.size, 2, none⟩), .pointer (some ⟨w.heap.size, 5, none⟩), .pointer (some ⟨w.heap.size, 6, none⟩), .pointer (some ⟨w.heap.size, 7, none⟩), .pointer (some ⟨w.heap.size, 8, none⟩), .pointer (some ⟨w.heap.size, 9, none⟩), .pointer (some ⟨g, (an - 1) * 13, none⟩), .pointer (some ⟨g, (an - 1) * 13 + 1, none⟩), .pointer (some ⟨g, (an - 1) * 13 + 2, none⟩), .pointer (some ⟨g, (an - 1) * 13 + 3 + 1, none⟩), .pointer (some ⟨g, (an - 1) * 13 + 10, none⟩), .pointer (some ⟨g, (an - 1) * 13 + 11, none⟩), .pointer (some ⟨g, (an - 1) * 13 + 12, none⟩)] 55)).drew := (below_alloc1 _ _).drew
  have HO3 := Lib.hid (show (W.alloc (.cells #[.pointer (some ⟨w.heap.size, 1, none⟩), .pointer (some ⟨w.heap.size, 2, none⟩), .pointer (some ⟨w.heap.size, 5, none⟩), .pointer (some ⟨w.heap.size, 6, none⟩), .pointer (some ⟨w.heap.size, 7, none⟩), .pointer (some ⟨w.heap.size, 8, none⟩), .pointer (some ⟨w.heap.size, 9, none⟩), .pointer (some ⟨g, (an - 1) * 13, none⟩), .pointer (some ⟨g, (an - 1) * 13 + 1, none⟩), .pointer (some ⟨g, (an - 1) * 13 + 2, none⟩), .pointer (some ⟨g, (an - 1) * 13 + 3 + 1, none⟩), .pointer (some ⟨g, (an - 1) * 13 + 10, none⟩), .pointer (some ⟨g, (an - 1) * 13 + 11, none⟩), .pointer (some ⟨g, (an - 1) * 13 + 12, none⟩)] 55)).drew.ownsRow (w.heap.size + 1 + 1) 41 13 (.slice (some ⟨g, 0, none⟩) an gc) an (abRow (A0 ++ [t])) from (HO2.out.alloc _).drew)
  have HP := Lib.hid (show BlkAt (W.alloc (.cells #[.pointer (some ⟨w.heap.size, 1, none⟩), .pointer (some ⟨w.heap.size, 2, none⟩), .pointer (some ⟨w.heap.size, 5, none⟩), .pointer (some ⟨w.heap.size, 6, none⟩), .pointer (some ⟨w.heap.size, 7, none⟩), .pointer (some ⟨w.heap.size, 8, none⟩), .pointer (some ⟨w.heap.size, 9, none⟩), .pointer (some ⟨g, (an - 1) * 13, none⟩), .pointer (some ⟨g, (an - 1) * 13 + 1, none⟩), .pointer (some ⟨g, (an - 1) * 13 + 2, none⟩), .pointer (some ⟨g, (an - 1) * 13 + 3 + 1, none⟩), .pointer (some ⟨g, (an - 1) * 13 + 10, none⟩), .pointer (some ⟨g, (an - 1) * 13 + 11, none⟩), .pointer (some ⟨g, (an - 1) * 13 + 12, none⟩)] 55)).drew W.heap.size #[.pointer (some ⟨w.heap.size, 1, none⟩), .pointer (some ⟨w.heap.size, 2, none⟩), .pointer (some ⟨w.heap.size, 5, none⟩), .pointer (some ⟨w.heap.size, 6, none⟩), .pointer (some ⟨w.heap.size, 7, none⟩), .pointer (some ⟨w.heap.size, 8, none⟩), .pointer (some ⟨w.heap.size, 9, none⟩), .pointer (some ⟨g, (an - 1) * 13, none⟩), .pointer (some ⟨g, (an - 1) * 13 + 1, none⟩), .pointer (some ⟨g, (an - 1) * 13 + 2, none⟩), .pointer (some ⟨g, (an - 1) * 13 + 3 + 1, none⟩), .pointer (some ⟨g, (an - 1) * 13 + 10, none⟩), .pointer (some ⟨g, (an - 1) * 13 + 11, none⟩), .pointer (some ⟨g, (an - 1) * 13 + 12, none⟩)] 55 from blkAt_top W _ _)
  have HC3 := Lib.hid (HC2.out.next hdr)
  have HE3 := Lib.hid (HE2.out.next hdr)
  have HB3 := Lib.hid (below_then' HB2.out hdr HB2.out.size)
  clear hdr HA HC HE HB HC1 HE1 HB1 HO HO2 HC2 HE2 HB2 HCe
  generalize (W.alloc (.cells #[.pointer (some ⟨w.heap.size, 1, none⟩), .pointer (some ⟨w.heap.size, 2, none⟩), .pointer (some ⟨w.heap.size, 5, none⟩), .pointer (some ⟨w.heap.size, 6, none⟩), .pointer (some ⟨w.heap.size, 7, none⟩), .pointer (some ⟨w.heap.size, 8, none⟩), .pointer (some ⟨w.heap.size, 9, none⟩), .pointer (some ⟨g, (an - 1) * 13, none⟩), .pointer (some ⟨g, (an - 1) * 13 + 1, none⟩), .pointer (some ⟨g, (an - 1) * 13 + 2, none⟩), .pointer (some ⟨g, (an - 1) * 13 + 3 + 1, none⟩), .pointer (some ⟨g, (an - 1) * 13 + 10, none⟩), .pointer (some ⟨g, (an - 1) * 13 + 11, none⟩), .pointer (some ⟨g, (an - 1) * 13 + 12, none⟩)] 55)).drew = V at *
  obtain ⟨⟨q0, q1, q2, q3, q4, q5, q6, q7, q8, q9, q10⟩, f0, f1, f2, f3, f4, f5, f6, f7, f8, f9, f10⟩ := HC3.out.cells11
  obtain ⟨⟨g0, g1, g2, g3, g4, g5, g6, g7, g8, g9, g10⟩, e0, e1, e2, e3, e4, e5, e6, e7, e8, e9, e10⟩ := HE3.out.cells11
  have hz : w.heap.size + 1 < V.heap.size := HE3.out.lt
  have hp : ∀ i : Nat, V.cell? ⟨W.heap.size, i, none⟩ = (#[.pointer (some ⟨w.heap.size, 1, none⟩), .pointer (some ⟨w.heap.size, 2, none⟩), .pointer (some ⟨w.heap.size, 5, none⟩), .pointer (some ⟨w.heap.size, 6, none⟩), .pointer (some ⟨w.heap.size, 7, none⟩), .pointer (some ⟨w.heap.size, 8, none⟩), .pointer (some ⟨w.heap.size, 9, none⟩), .pointer (some ⟨g, (an - 1) * 13, none⟩), .pointer (some ⟨g, (an - 1) * 13 + 1, none⟩), .pointer (some ⟨g, (an - 1) * 13 + 2, none⟩), .pointer (some ⟨g, (an - 1) * 13 + 3 + 1, none⟩), .pointer (some ⟨g, (an - 1) * 13 + 10, none⟩), .pointer (some ⟨g, (an - 1) * 13 + 11, none⟩), .pointer (some ⟨g, (an - 1) * 13 + 12, none⟩)] : Array Value)[i]? := HP.out.cell
  have HHp := Lib.hid hp
  clear hp
  have HM := Lib.hid (show an - 1 = A0.length by have := HN.out; simp at this; omega)
  have hlast := fun (i : Nat) (hi : i < 13) (j : Nat) (hj : j = (an - 1) * 13 + i) => (HO3.out.cellAt j (by omega)).trans ((congrArg (fun z => (abRow (A0 ++ [t]))[z]?) (show j = A0.length * 13 + i by rw [hj, HM.out])).trans ((abRow_at (A0 ++ [t]) A0.length (by simp) i hi).trans (by rw [List.getElem_append_right (Nat.le_refl _)]; simp : _ = (abCells t.1)[i]?)))
  have HLs := Lib.hid hlast
  clear hlast
  have hne1 : w.heap.size ≠ g := by omega
  have hne2 : w.heap.size + 1 ≠ g := by omega
  have hne3 : g ≠ w.heap.size := by omega
  have hne4 : g ≠ w.heap.size + 1 := by omega
  rcases hf with rfl | rfl | rfl | rfl
  · have HO4 := Lib.hid (own_less HO3.out (show an - 1 ≤ an by omega))
    rw [HM.out, abRow_append, List.take_append_of_le_length (by rw [abRow_len]; omega), List.take_of_length_le (by rw [abRow_len]; omega), ← HM.out] at HO4
    have HSt := Lib.hid (fun (W' : World) (p : Addr) (v : Value) (h1 : w.heap.size ≤ p.block) (h2 : p.block < w.heap.size + 1 + 1) (h : Below w.heap.size w W' ∧ W'.ownsRow (w.heap.size + 1 + 1) 41 13 (.slice (some ⟨g, 0, none⟩) (an - 1) gc) (an - 1) (abRow A0)) =>
      (⟨h.1.setCell h1 v, ownsRow_setCell_below h.2 h2 v⟩ : Below w.heap.size w (W'.setCell p v) ∧ (W'.setCell p v).ownsRow (w.heap.size + 1 + 1) 41 13 (.slice (some ⟨g, 0, none⟩) (an - 1) gc) (an - 1) (abRow A0)))
    have HFin := Lib.hid (fun (W' : World) (h : Below w.heap.size w W' ∧ W'.ownsRow (w.heap.size + 1 + 1) 41 13 (.slice (some ⟨g, 0, none⟩) (an - 1) gc) (an - 1) (abRow A0)) =>
      outC_own (X := X) (p := P) (y := ⟨nm, k, c0, c1, c2, c3, col, pow, tou, keys, some ⟨g, 0, none⟩, an - 1, gc⟩) (A := A0) h.1 h.2 (by omega) HX.out HM.out.symm (fun W2 hs2 hc2 t2 ht2 => HCX.out.abs h.1 W2 hs2 hc2 t2 (List.mem_append_left _ ht2)) ⟨HY.out.1, HY.out.2⟩ (by rw [HPq.out]; simp [turnM, lastM, erC, erT, erA]))
    go_wp2_with fail
    go_ways
    refine bodyPost_ret (v := .agg #[.string nm, .int .i64 k, .int .i64 c0, .int .i64 c1, .int .i64 c2, .int .i64 c3, .int .i64 col, .int .i64 pow, .int .i64 tou, .int .i64 keys, .slice (some ⟨g, 0, none⟩) (an - 1) gc]) (by simp [results, Tryd.results12, go_sem, *]) rfl ?_
    refine HFin.out _ ?_
    iterate 12 (refine HSt.out _ _ _ (by simp) (by simp <;> omega) ?_)
    with_reducible exact ⟨HB3.out, HO4.out⟩
  · have HSt := Lib.hid (fun (W' : World) (p : Addr) (v : Value) (h1 : w.heap.size ≤ p.block) (h2 : p.block < w.heap.size + 1 + 1) (h : Below w.heap.size w W' ∧ W'.ownsRow (w.heap.size + 1 + 1) 41 13 (.slice (some ⟨g, 0, none⟩) an gc) an (abRow (A0 ++ [t]))) =>
      (⟨h.1.setCell h1 v, ownsRow_setCell_below h.2 h2 v⟩ : Below w.heap.size w (W'.setCell p v) ∧ (W'.setCell p v).ownsRow (w.heap.size + 1 + 1) 41 13 (.slice (some ⟨g, 0, none⟩) an gc) an (abRow (A0 ++ [t]))))
    have HFin := Lib.hid (fun (W' : World) (h : Below w.heap.size w W' ∧ W'.ownsRow (w.heap.size + 1 + 1) 41 13 (.slice (some ⟨g, 0, none⟩) an gc) an (abRow (A0 ++ [t]))) =>
      outC_own (X := X) (p := P) (y := ⟨⟨#[]⟩, k, c0, c1, c2, c3, col, pow, tou, keys, some ⟨g, 0, none⟩, an, gc⟩) (A := (A0 ++ [t])) h.1 h.2 (by omega) HX.out (by simpa using HN.out) (fun W2 hs2 hc2 => HCX.out.abs h.1 W2 hs2 hc2) ⟨by show (⟨#[]⟩ : ByteArray).size ≤ maxLen; unfold maxLen; decide, HY.out.2⟩ (by rw [HPq.out]; simp [turnM, longNm, lastM, erC, erT, erA]))
    go_wp2_with fail
    refine bodyPost_ret (v := .agg #[.string ⟨#[]⟩, .int .i64 k, .int .i64 c0, .int .i64 c1, .int .i64 c2, .int .i64 c3, .int .i64 col, .int .i64 pow, .int .i64 tou, .int .i64 keys, .slice (some ⟨g, 0, none⟩) an gc]) (by simp [results, Tryd.results12, go_sem, *]) rfl ?_
    refine HFin.out _ ?_
    iterate 12 (refine HSt.out _ _ _ (by simp) (by simp <;> omega) ?_)
    with_reducible exact ⟨HB3.out, HO3.out⟩
  · have HSt := Lib.hid (fun (W' : World) (p : Addr) (v : Value) (h1 : w.heap.size ≤ p.block) (h2 : p.block < w.heap.size + 1 + 1) (h : Below w.heap.size w W' ∧ W'.ownsRow (w.heap.size + 1 + 1) 41 13 (.slice (some ⟨g, 0, none⟩) an gc) an (abRow (A0 ++ [t]))) =>
      (⟨h.1.setCell h1 v, ownsRow_setCell_below h.2 h2 v⟩ : Below w.heap.size w (W'.setCell p v) ∧ (W'.setCell p v).ownsRow (w.heap.size + 1 + 1) 41 13 (.slice (some ⟨g, 0, none⟩) an gc) an (abRow (A0 ++ [t]))))
    have HFin := Lib.hid (fun (W' : World) (h : Below w.heap.size w W' ∧ W'.ownsRow (w.heap.size + 1 + 1) 41 13 (.slice (some ⟨g, 0, none⟩) an gc) an (abRow (A0 ++ [t]))) =>
      outC_own (X := X) (p := P) (y := ⟨⟨#[49, 50, 51, 52, 53, 54, 55, 56, 57, 48, 49, 50, 51, 52, 53, 54, 55]⟩, k, c0, c1, c2, c3, col, pow, tou, keys, some ⟨g, 0, none⟩, an, gc⟩) (A := (A0 ++ [t])) h.1 h.2 (by omega) HX.out (by simpa using HN.out) (fun W2 hs2 hc2 => HCX.out.abs h.1 W2 hs2 hc2) ⟨by show (⟨#[49, 50, 51, 52, 53, 54, 55, 56, 57, 48, 49, 50, 51, 52, 53, 54, 55]⟩ : ByteArray).size ≤ maxLen; unfold maxLen; decide, HY.out.2⟩ (by rw [HPq.out]; simp [turnM, longNm, lastM, erC, erT, erA]))
    go_wp2_with fail
    refine bodyPost_ret (v := .agg #[.string ⟨#[49, 50, 51, 52, 53, 54, 55, 56, 57, 48, 49, 50, 51, 52, 53, 54, 55]⟩, .int .i64 k, .int .i64 c0, .int .i64 c1, .int .i64 c2, .int .i64 c3, .int .i64 col, .int .i64 pow, .int .i64 tou, .int .i64 keys, .slice (some ⟨g, 0, none⟩) an gc]) (by simp [results, Tryd.results12, go_sem, *]) rfl ?_
    refine HFin.out _ ?_
    iterate 12 (refine HSt.out _ _ _ (by simp) (by simp <;> omega) ?_)
    with_reducible exact ⟨HB3.out, HO3.out⟩
  · have HO4 := Lib.hid (show V.ownsRow (w.heap.size + 1 + 1) 41 13 (.slice none 0 0) 0 (abRow []) from World.ownsRow_nil V (w.heap.size + 1 + 1) 41 13)
    have HSt := Lib.hid (fun (W' : World) (p : Addr) (v : Value) (h1 : w.heap.size ≤ p.block) (h2 : p.block < w.heap.size + 1 + 1) (h : Below w.heap.size w W' ∧ W'.ownsRow (w.heap.size + 1 + 1) 41 13 (.slice none 0 0) 0 (abRow [])) =>
      (⟨h.1.setCell h1 v, ownsRow_setCell_below h.2 h2 v⟩ : Below w.heap.size w (W'.setCell p v) ∧ (W'.setCell p v).ownsRow (w.heap.size + 1 + 1) 41 13 (.slice none 0 0) 0 (abRow [])))
    have HFin := Lib.hid (fun (W' : World) (h : Below w.heap.size w W' ∧ W'.ownsRow (w.heap.size + 1 + 1) 41 13 (.slice none 0 0) 0 (abRow [])) =>
      outC_own (X := X) (p := P) (y := ⟨nm, k, c0, c1, c2, c3, col, pow, tou, keys, none, 0, 0⟩) (A := []) h.1 h.2 (by omega) HX.out rfl (fun W2 hs2 hc2 t2 ht2 => by cases ht2) ⟨HY.out.1, HY.out.2⟩ (by rw [HPq.out]; simp [turnM, lastM, erC, erT, erA]))
    go_wp2_with fail
    refine bodyPost_ret (v := .agg #[.string nm, .int .i64 k, .int .i64 c0, .int .i64 c1, .int .i64 c2, .int .i64 c3, .int .i64 col, .int .i64 pow, .int .i64 tou, .int .i64 keys, .slice none 0 0]) (by simp [results, Tryd.results12, go_sem, *]) rfl ?_
    refine HFin.out _ ?_
    iterate 12 (refine HSt.out _ _ _ (by simp) (by simp <;> omega) ?_)
    with_reducible exact ⟨HB3.out, HO4.out⟩
end Go.Proofs.YtfhmadlobdklbaaDoor
