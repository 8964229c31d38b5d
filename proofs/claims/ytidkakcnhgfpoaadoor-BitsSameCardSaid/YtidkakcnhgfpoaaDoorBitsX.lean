/- The law's own rows: works answers true. -/
import Derived.Test.YtidkakcnhgfpoaaDoorBitsW
namespace Go.Proofs.YtidkakcnhgfpoaaDoor
open Go.RowKit Go.Shelf
set_option linter.unusedVariables false
set_option maxRecDepth 100000

theorem rowed : Rowed s3 s2 s1 where
  ofM := k_of1
  ofD := k_of2
  len := k_len
  has := k_has
  next := k_next
  a3 := k_sets.1
  a256 := k_sets.2.2.1
  del := k_sets.2.1
  allD := k_all.1
  and := k_sets.2.2.2.1
  minus := k_sets.2.2.2.2.1
  w8 := k_sets.2.2.2.2.2.2
  fS := k_fits.1
  fD := k_fits.2.1
  fM := k_fits.2.2
theorem inv_drew {w0 W : World} {b S : Nat} (h : Inv w0 b S W) : Inv w0 b S W.drew := ⟨h.1, h.2.1, h.2.2.1, h.2.2.2.1, h.2.2.2.2.drew⟩
theorem wops_size : wops.size = 100 := by kernel_rfl
theorem wstep {S D M b : Nat} {w0 : World} {Q : Exit → Act → World → Prop} (hR : Rowed S D M) (l : Array Bool) (a : Act) (w : World) (i : Nat) (h : At wops 103 (wtab S D M b) (wbase b) (Inv w0 b S) l a w) (hi : i < wops.size)
    (hd : ∀ o : Oper, wops[i]? = some o → ∀ e ∈ o.after.toList, Region.binds .any e = true → l.getD e.on false = true) : wpOp Tryd.prog wops Q i (At wops 103 (wtab S D M b) (wbase b) (Inv w0 b S) (l.setIfInBounds i true)) a w := by
  rw [wops_size] at hi
  match i, hi, hd with
  | 0, _, hd => exact st0 hR h hd
  | 1, _, hd => exact st1 hR h hd
  | 2, _, hd => exact st2 hR h hd
  | 3, _, hd => exact st3 hR h hd
  | 4, _, hd => exact st4 hR h hd
  | 5, _, hd => exact st5 hR h hd
  | 6, _, hd => exact st6 hR h hd
  | 7, _, hd => exact st7 hR h hd
  | 8, _, hd => exact st8 hR h hd
  | 9, _, hd => exact st9 hR h hd
  | 10, _, hd => exact st10 hR h hd
  | 11, _, hd => exact st11 hR h hd
  | 12, _, hd => exact st12 hR h hd
  | 13, _, hd => exact st13 hR h hd
  | 14, _, hd => exact st14 hR h hd
  | 15, _, hd => exact st15 hR h hd
  | 16, _, hd => exact st16 hR h hd
  | 17, _, hd => exact st17 hR h hd
  | 18, _, hd => exact st18 hR h hd
  | 19, _, hd => exact st19 hR h hd
  | 20, _, hd => exact st20 hR h hd
  | 21, _, hd => exact st21 hR h hd
  | 22, _, hd => exact st22 hR h hd
  | 23, _, hd => exact st23 hR h hd
  | 24, _, hd => exact st24 hR h hd
  | 25, _, hd => exact st25 hR h hd
  | 26, _, hd => exact st26 hR h hd
  | 27, _, hd => exact st27 hR h hd
  | 28, _, hd => exact st28 hR h hd
  | 29, _, hd => exact st29 hR h hd
  | 30, _, hd => exact st30 hR h hd
  | 31, _, hd => exact st31 hR h hd
  | 32, _, hd => exact st32 hR h hd
  | 33, _, hd => exact st33 hR h hd
  | 34, _, hd => exact st34 hR h hd
  | 35, _, hd => exact st35 hR h hd
  | 36, _, hd => exact st36 hR h hd
  | 37, _, hd => exact st37 hR h hd
  | 38, _, hd => exact st38 hR h hd
  | 39, _, hd => exact st39 hR h hd
  | 40, _, hd => exact st40 hR h hd
  | 41, _, hd => exact st41 hR h hd
  | 42, _, hd => exact st42 hR h hd
  | 43, _, hd => exact st43 hR h hd
  | 44, _, hd => exact st44 hR h hd
  | 45, _, hd => exact st45 hR h hd
  | 46, _, hd => exact st46 hR h hd
  | 47, _, hd => exact st47 hR h hd
  | 48, _, hd => exact st48 hR h hd
  | 49, _, hd => exact st49 hR h hd
  | 50, _, hd => exact st50 hR h hd
  | 51, _, hd => exact st51 hR h hd
  | 52, _, hd => exact st52 hR h hd
  | 53, _, hd => exact st53 hR h hd
  | 54, _, hd => exact st54 hR h hd
  | 55, _, hd => exact st55 hR h hd
  | 56, _, hd => exact st56 hR h hd
  | 57, _, hd => exact st57 hR h hd
  | 58, _, hd => exact st58 hR h hd
  | 59, _, hd => exact st59 hR h hd
  | 60, _, hd => exact st60 hR h hd
  | 61, _, hd => exact st61 hR h hd
  | 62, _, hd => exact st62 hR h hd
  | 63, _, hd => exact st63 hR h hd
  | 64, _, hd => exact st64 hR h hd
  | 65, _, hd => exact st65 hR h hd
  | 66, _, hd => exact st66 hR h hd
  | 67, _, hd => exact st67 hR h hd
  | 68, _, hd => exact st68 hR h hd
  | 69, _, hd => exact st69 hR h hd
  | 70, _, hd => exact st70 hR h hd
  | 71, _, hd => exact st71 hR h hd
  | 72, _, hd => exact st72 hR h hd
  | 73, _, hd => exact st73 hR h hd
  | 74, _, hd => exact st74 hR h hd
  | 75, _, hd => exact st75 hR h hd
  | 76, _, hd => exact st76 hR h hd
  | 77, _, hd => exact st77 hR h hd
  | 78, _, hd => exact st78 hR h hd
  | 79, _, hd => exact st79 hR h hd
  | 80, _, hd => exact st80 hR h hd
  | 81, _, hd => exact st81 hR h hd
  | 82, _, hd => exact st82 hR h hd
  | 83, _, hd => exact st83 hR h hd
  | 84, _, hd => exact st84 hR h hd
  | 85, _, hd => exact st85 hR h hd
  | 86, _, hd => exact st86 hR h hd
  | 87, _, hd => exact st87 hR h hd
  | 88, _, hd => exact st88 hR h hd
  | 89, _, hd => exact st89 hR h hd
  | 90, _, hd => exact st90 hR h hd
  | 91, _, hd => exact st91 hR h hd
  | 92, _, hd => exact st92 hR h hd
  | 93, _, hd => exact st93 hR h hd
  | 94, _, hd => exact st94 hR h hd
  | 95, _, hd => exact st95 hR h hd
  | 96, _, hd => exact st96 hR h hd
  | 97, _, hd => exact st97 hR h hd
  | 98, _, hd => exact st98 hR h hd
  | 99, _, hd => exact st99 hR h hd
  | k + 100, hi, _ => omega
theorem works_any (w : World) (hT : TabAt 0 Lib.deBruijn64tab w) (hw : 0 < w.heap.size) :
    Calls Tryd.prog 21 #[] w fun e w' => e = .returned (.bool true) ∧ Below w.heap.size w w' := by
  have HT := Lib.hid hT
  have HC := Lib.hid (fun W => of3 3 64 255 s3 k_of3 W)
  have HR := Lib.hid rowed
  clear hT
  generalize s3 = S at *
  generalize s2 = D at *
  generalize s1 = M at *
  go_enter Tryd.func21, Tryd.ntmps21
  go_wp2_with fail
  refine (HC.out w).mono ?_
  rintro e w1 ⟨rfl, b1⟩
  have hb1 := below_then' (below_alloc1 w (.cells #[.int .i64 3, .int .i64 64, .int .i64 255] 3)) b1 (by simp)
  have I0 := Lib.hid (show Inv w w1.heap.size S (w1.alloc (.cells #[.int .u64 (wd S 0 : Int), .int .u64 (wd S 1 : Int), .int .u64 (wd S 2 : Int), .int .u64 (wd S 3 : Int)] 24)) from
    ⟨ArrIn.new _ _ _ _ _ _, tab_next (tab_next HT.out hb1) (below_alloc1 _ _), by simp, by have := hb1.size; simp; omega, hb1.alloc hb1.size _⟩)
  clear b1 hb1
  go_wp2_with fail
  refine region_inv (ops := wops) (n := 103) (tab := wtab S D M w1.heap.size) (base := wbase w1.heap.size) (H := Inv w w1.heap.size S) (by kernel_rfl) (earlier_of (by kernel_rfl)) ?start (fun l a w' i h hi hd => wstep HR.out l a w' i h hi hd) ?fin
  case start =>
    refine ⟨by simp, rfl, rfl, inv_drew I0.out, ?_, ?_⟩
    · intro s v hs
      unfold wbase at hs
      split at hs
      · rename_i h1
        subst h1
        cases hs
        rfl
      · cases hs
    · intro i d hl
      rw [Array.getD_eq_getD_getElem?] at hl
      by_cases hi : i < wops.size
      · rw [Array.getElem?_replicate, if_pos hi] at hl; cases hl
      · rw [Array.getElem?_replicate, if_neg hi] at hl; cases hl
  case fin =>
    intro l a w' h hall
    have h0 : a.tmps.getD 0 undef = .bool true := h.done 99 0 (hall 99 (by rw [wops_size]; omega)) (by kernel_rfl)
    have hdf := h.defers
    have HI := Lib.hid h.hold
    clear h hall
    rename_i Q1 K1 hK1
    refine hK1 a w' ?_
    go_wp2_with fail
    refine bodyPost_ret (results_tmp rfl _ _ _) hdf ?_
    exact ⟨by rw [h0], HI.out.2.2.2.2⟩
end Go.Proofs.YtidkakcnhgfpoaaDoor
