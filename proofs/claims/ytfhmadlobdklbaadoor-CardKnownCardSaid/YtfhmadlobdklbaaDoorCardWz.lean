/- turned, whatever the field. (Written by gen5z.py.) -/
import Derived.Test.YtfhmadlobdklbaaDoorCardWc
import Derived.Test.YtfhmadlobdklbaaDoorCardWa
import Derived.Test.YtfhmadlobdklbaaDoorCardWb
import Derived.Test.YtfhmadlobdklbaaDoorCardWe
import Derived.Test.YtfhmadlobdklbaaDoorCardWt
import Derived.Test.YtfhmadlobdklbaaDoorCardWu
namespace Go.Proofs.YtfhmadlobdklbaaDoor
open Go.RowKit
set_option linter.unusedVariables false
set_option linter.unusedSimpArgs false

set_option maxRecDepth 100000 in
set_option maxHeartbeats 4000000 in
theorem turned_empty (X : Nat → Prop) (y : Cd) (A : List AbT) (f : Nat) (n : Int) (w : World) (hX : ∀ g, X g → g < w.heap.size) (hcx : CdX X w y A) (hy : CdOk y) (h0 : A.length = 0) :
    Calls Tryd.prog 12 #[.agg #[.string y.nm, .int .i64 y.k, .int .i64 y.c0, .int .i64 y.c1, .int .i64 y.c2, .int .i64 y.c3, .int .i64 y.col, .int .i64 y.pow, .int .i64 y.tou, .int .i64 y.keys, .slice y.aa y.an y.ac], .int .i64 (f : Int), .int .i64 n] w fun e w' => OutC X w w' e (turnM (erC y, A.map erT) f n) := by
  obtain ⟨i0, hi, hz0, hz1, hz2⟩ := info_parts abInfo
  have h := hcx.now
  obtain rfl := List.length_eq_zero_iff.1 h0
  have hcap := h.2.1
  have hcm := h.2.2.1
  have hn := h.1
  have HY := Lib.hid hy
  have HX := Lib.hid hX
  obtain ⟨nm, k, c0, c1, c2, c3, col, pow, tou, keys, aa, an, ac⟩ := y
  simp only [List.length_nil] at hn hcm hcap
  subst hn
  clear hy hcx h h0 hX
  obtain ⟨P, hP⟩ : ∃ P, P = turnM (erC ⟨nm, k, c0, c1, c2, c3, col, pow, tou, keys, aa, 0, ac⟩, ([] : List AbT).map erT) f n := ⟨_, rfl⟩
  rw [← hP]
  have HPq := Lib.hid hP
  clear hP
  have HA := Lib.hid (own_empty w (.cells #[.string nm, .int .i64 k, .int .i64 c0, .int .i64 c1, .int .i64 c2, .int .i64 c3, .int .i64 col, .int .i64 pow, .int .i64 tou, .int .i64 keys, .slice aa 0 ac] 26) (.cells #[.string ⟨#[]⟩, .int .i64 0, .int .i64 0, .int .i64 0, .int .i64 0, .int .i64 0, .int .i64 0, .int .i64 0, .int .i64 0, .int .i64 0, .slice none 0 0] 26))
  have HC := Lib.hid ((blkAt_one w #[.string nm, .int .i64 k, .int .i64 c0, .int .i64 c1, .int .i64 c2, .int .i64 c3, .int .i64 col, .int .i64 pow, .int .i64 tou, .int .i64 keys, .slice aa 0 ac] 26 (.cells #[.string ⟨#[]⟩, .int .i64 0, .int .i64 0, .int .i64 0, .int .i64 0, .int .i64 0, .int .i64 0, .int .i64 0, .int .i64 0, .int .i64 0, .slice none 0 0] 26)).next (below_alloc1 _ (.cells #[] 41)))
  have HE := Lib.hid ((blkAt_two w #[.string ⟨#[]⟩, .int .i64 0, .int .i64 0, .int .i64 0, .int .i64 0, .int .i64 0, .int .i64 0, .int .i64 0, .int .i64 0, .int .i64 0, .slice none 0 0] 26 (.cells #[.string nm, .int .i64 k, .int .i64 c0, .int .i64 c1, .int .i64 c2, .int .i64 c3, .int .i64 col, .int .i64 pow, .int .i64 tou, .int .i64 keys, .slice aa 0 ac] 26)).next (below_alloc1 _ (.cells #[] 41)))
  have HB := Lib.hid ((below_alloc2 w (.cells #[.string nm, .int .i64 k, .int .i64 c0, .int .i64 c1, .int .i64 c2, .int .i64 c3, .int .i64 col, .int .i64 pow, .int .i64 tou, .int .i64 keys, .slice aa 0 ac] 26) (.cells #[.string ⟨#[]⟩, .int .i64 0, .int .i64 0, .int .i64 0, .int .i64 0, .int .i64 0, .int .i64 0, .int .i64 0, .int .i64 0, .int .i64 0, .slice none 0 0] 26)).alloc (by simp; omega) (.cells #[] 41))
  have HRw := Lib.hid (fun (W : World) => (⟨Nat.zero_le _, hcm, .inl rfl⟩ : Row W aa ac 13 0 []))
  go_enter Tryd.func12, Tryd.ntmps12
  go_wp2_with (at_builtin; refine wpList_append_src rfl _ _ 24 rfl (w.heap.size + 1 + 1) 41 i0 (.agg #[.int .i64 0, .int .i64 0, .int .i64 0, .int .i64 0, .int .i64 0, .int .i64 0, .int .i64 0, .bool false, .slice none 0 0, .slice none 0 0, .int .i64 0, .int .i64 0, .int .i64 0]) 13 136 Tryd.underlying24 hi hz0 hz1 hz2 rfl (by decide) _ 0 [] rfl HA.out aa 0 ac [] rfl rfl (HRw.out _) (by simp) (by unfold maxLen; omega) (by omega) (by simp) ?_; intro v' w1 hown' hgrow; rw [List.append_nil] at hown'; obtain ⟨ax, cx, rfl, _⟩ := own_row hown'; have HO := Lib.hid hown'; have HC1 := Lib.hid (HC.out.grown hgrow (own_ne0 _)); have HE1 := Lib.hid (HE.out.grown hgrow (own_ne1 _)); have HB1 := Lib.hid (HB.out.grown hgrow HB.out.size (own_ge _)); clear hown' hgrow; obtain ⟨⟨q0, q1, q2, q3, q4, q5, q6, q7, q8, q9, q10⟩, f0, f1, f2, f3, f4, f5, f6, f7, f8, f9, f10⟩ := HC1.out.cells11; obtain ⟨⟨g0, g1, g2, g3, g4, g5, g6, g7, g8, g9, g10⟩, e0, e1, e2, e3, e4, e5, e6, e7, e8, e9, e10⟩ := HE1.out.cells11)
  have HSt := Lib.hid (fun (W' : World) (p : Addr) (v : Value) (h1 : w.heap.size ≤ p.block) (h2 : p.block < w.heap.size + 1 + 1) (h : Below w.heap.size w W' ∧ W'.ownsRow (w.heap.size + 1 + 1) 41 13 (.slice ax 0 cx) 0 (abRow [])) =>
    (⟨h.1.setCell h1 v, ownsRow_setCell_below h.2 h2 v⟩ : Below w.heap.size w (W'.setCell p v) ∧ (W'.setCell p v).ownsRow (w.heap.size + 1 + 1) 41 13 (.slice ax 0 cx) 0 (abRow [])))
  have HFin := Lib.hid (fun (W' : World) (h : Below w.heap.size w W' ∧ W'.ownsRow (w.heap.size + 1 + 1) 41 13 (.slice ax 0 cx) 0 (abRow [])) =>
    outC_own (X := X) (p := P) (y := ⟨nm, k, c0, c1, c2, c3, col, pow, tou, keys, ax, 0, cx⟩) (A := []) h.1 h.2 (by omega) HX.out rfl (fun W2 hs2 hc2 t2 ht2 => by cases ht2) ⟨HY.out.1, HY.out.2⟩ (by rw [HPq.out]; rfl))
  refine bodyPost_ret (v := .agg #[.string nm, .int .i64 k, .int .i64 c0, .int .i64 c1, .int .i64 c2, .int .i64 c3, .int .i64 col, .int .i64 pow, .int .i64 tou, .int .i64 keys, .slice ax 0 cx]) (by simp [results, Tryd.results12, go_sem, *]) rfl ?_
  refine HFin.out _ ?_
  iterate 12 (refine HSt.out _ _ _ (by simp) (by simp <;> omega) ?_)
  exact ⟨HB1.out, show w1.ownsRow (w.heap.size + 1 + 1) 41 13 (.slice ax 0 cx) 0 (abRow []) from HO.out⟩
theorem turned_any (X : Nat → Prop) (y : Cd) (A : List AbT) (f : Nat) (hf : f ≤ 23) (n : Int) (hn : In64 n) (w : World) (hX : ∀ g, X g → g < w.heap.size) (hcx : CdX X w y A) (hy : CdOk y) (hlen : A.length ≤ 100) (hb : ∀ t ∈ A, t.1.tn ≤ 100 ∧ t.1.cn ≤ 100) :
    Calls Tryd.prog 12 #[.agg #[.string y.nm, .int .i64 y.k, .int .i64 y.c0, .int .i64 y.c1, .int .i64 y.c2, .int .i64 y.c3, .int .i64 y.col, .int .i64 y.pow, .int .i64 y.tou, .int .i64 y.keys, .slice y.aa y.an y.ac], .int .i64 (f : Int), .int .i64 n] w fun e w' => OutC X w w' e (turnM (erC y, A.map erT) f n) := by
  by_cases h0 : A.length = 0
  · exact turned_empty X y A f n w hX hcx hy h0
  · by_cases h1 : f ≤ 6
    · exact turned_c X y A f (by omega) n hn w hX hcx hy h0 hlen
    · by_cases h2 : f = 15
      · exact turned_t X y A f h2 n hn w hX hcx hy h0 hlen hb
      · by_cases h3 : f = 17
        · exact turned_u X y A f h3 n hn w hX hcx hy h0 hlen hb
        · by_cases h4 : f = 20
          · exact turned_e X y A f h4 n hn w hX hcx hy h0 hlen
          · by_cases h5 : f = 19 ∨ f = 21 ∨ f = 22 ∨ f = 23
            · exact turned_b X y A f h5 n hn w hX hcx hy h0 hlen
            · exact turned_a X y A f (by omega) n hn w hX hcx hy h0 hlen
end Go.Proofs.YtfhmadlobdklbaaDoor
