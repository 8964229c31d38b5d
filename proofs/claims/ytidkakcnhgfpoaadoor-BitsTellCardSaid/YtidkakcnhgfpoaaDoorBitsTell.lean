/- BitsTell: the walk. -/
import Derived.Test.YtidkakcnhgfpoaaDoorBitsTellR
import Derived.Test.YtidkakcnhgfpoaaDoorBitsVs
import Derived.Test.YtidkakcnhgfpoaaDoorBitsIo
import Derived.Deep.RegionWith
namespace Go.Proofs.YtidkakcnhgfpoaaDoor
open Go.RowKit Go.Shelf
set_option linter.unusedVariables false
set_option maxRecDepth 100000

theorem invA {w W w1 : World} {N : Nat} (h0 : Below w.heap.size w W) (hT : TabAt 0 Lib.deBruijn64tab w) (hw : 0 < w.heap.size) (b1 : Below W.heap.size W w1) :
    Inv w w1.heap.size N (w1.alloc (.cells #[.int .u64 (wd N 0 : Int), .int .u64 (wd N 1 : Int), .int .u64 (wd N 2 : Int), .int .u64 (wd N 3 : Int)] 24)) := by
  have h1 := below_then' h0 b1 h0.size
  have h2 := h1.alloc h1.size (.cells #[.int .u64 (wd N 0 : Int), .int .u64 (wd N 1 : Int), .int .u64 (wd N 2 : Int), .int .u64 (wd N 3 : Int)] 24)
  exact ⟨ArrIn.new _ _ _ _ _ _, tab_next hT h2, Nat.lt_of_lt_of_le hw h2.size, h2.size, h2⟩
theorem invB {w W w1 : World} {N : Nat} {b : Nat} {o : Obj} (h0 : Below w.heap.size w W) (hT : TabAt 0 Lib.deBruijn64tab w) (hw : 0 < w.heap.size) (hz : ArrIn 24 b (.int .u64 0) (.int .u64 0) (.int .u64 0) (.int .u64 0) (W.alloc o)) (hb : w.heap.size ≤ b)
    (b1 : Below (W.alloc o).drew.heap.size (W.alloc o).drew w1) :
    Inv w b N ((((w1.setCell ⟨b, 0, none⟩ (.int .u64 (wd N 0 : Int))).setCell ⟨b, 1, none⟩ (.int .u64 (wd N 1 : Int))).setCell ⟨b, 2, none⟩ (.int .u64 (wd N 2 : Int))).setCell ⟨b, 3, none⟩ (.int .u64 (wd N 3 : Int))) := by
  have h1 : Below w.heap.size w w1 := below_then' (h0.alloc h0.size o).drew b1 (Nat.le_trans h0.size (by simp))
  have h2 := below_set4 h1 hb (.int .u64 (wd N 0 : Int)) (.int .u64 (wd N 1 : Int)) (.int .u64 (wd N 2 : Int)) (.int .u64 (wd N 3 : Int))
  exact ⟨(ArrIn.next (w := (W.alloc o).drew) hz b1).set4 _ _ _ _, tab_next hT h2, Nat.lt_of_lt_of_le hw h2.size, h2.size, h2⟩
theorem isL_B {W w1 : World} {o : Obj} {a : Option Addr} {c : Nat} {L : List Int} {x0 x1 x2 x3 : Value} (h : IsL w1 a c L) (hn : ∀ b o' s, a = some ⟨b, o', s⟩ → (W.alloc o).drew.heap.size ≤ b) :
    IsL ((((w1.setCell ⟨W.heap.size, 0, none⟩ x0).setCell ⟨W.heap.size, 1, none⟩ x1).setCell ⟨W.heap.size, 2, none⟩ x2).setCell ⟨W.heap.size, 3, none⟩ x3) a c L := by
  obtain ⟨h1, h2, h3 | ⟨b, off, rfl, h4, h5⟩⟩ := h
  · exact ⟨h1, h2, .inl h3⟩
  · have hb := hn b off none rfl
    have hne : b ≠ W.heap.size := by
      have : (W.alloc o).drew.heap.size = W.heap.size + 1 := by show (W.alloc o).heap.size = _; simp
      omega
    have keep : ∀ (V : World) (i : Nat) (u : Value) (j : Nat), (V.setCell ⟨W.heap.size, i, none⟩ u).cell? ⟨b, j, none⟩ = V.cell? ⟨b, j, none⟩ := fun V i u j => World.cell?_of_block (Below.heap_setCell V ⟨W.heap.size, i, none⟩ u b hne)
    refine ⟨h1, h2, .inr ⟨b, off, rfl, by simpa [World.setCell] using h4, fun j hj => ?_⟩⟩
    rw [keep, keep, keep, keep]
    exact h5 j hj
set_option maxHeartbeats 4000000 in
theorem tell_any (N : Nat) (hN : fits N) (i : Int) (hi : i ≤ 9223372036854775807) (w : World) (hT : TabAt 0 Lib.deBruijn64tab w) (hw : 0 < w.heap.size) :
    Calls Tryd.prog 3 #[sv N, .int .i64 i] w fun e w' => e = .returned (.bool true) ∧ Below w.heap.size w w' := by
  have HT := Lib.hid hT
  have HOF := Lib.hid (refOf_new N)
  clear hT
  go_enter Tryd.func3, Tryd.ntmps3
  go_wp2_with fail
  have hb0 := below_alloc1 w (.cells #[.int .u64 (wd N 0 : Int), .int .u64 (wd N 1 : Int), .int .u64 (wd N 2 : Int), .int .u64 (wd N 3 : Int)] 23)
  have ha0 := ArrIn.new 23 (.int .u64 (wd N 0 : Int)) (.int .u64 (wd N 1 : Int)) (.int .u64 (wd N 2 : Int)) (.int .u64 (wd N 3 : Int)) w
  generalize w.alloc (.cells #[.int .u64 (wd N 0 : Int), .int .u64 (wd N 1 : Int), .int .u64 (wd N 2 : Int), .int .u64 (wd N 3 : Int)] 23) = W at *
  have HB0 := Lib.hid hb0
  have hcW := ha0.cells
  have ha1 := ha0.alloc (.cells #[.int .u64 0, .int .u64 0, .int .u64 0, .int .u64 0] 24)
  have hcA := ha1.cells
  have hz := ArrIn.new 24 (.int .u64 0) (.int .u64 0) (.int .u64 0) (.int .u64 0) W
  have hzA := hz.cells
  have hfA := hz.frozens
  have HZ := Lib.hid hz
  have HA0 := Lib.hid ha0
  clear ha0 hb0 ha1 hz
  have HR := Lib.hid (show tlRows N 0 i none 0 w from ⟨fits_add hN i, fits_del hN i, hi⟩)
  rename_i Q1 K1 hK1
  have TAIL : ∀ (b5 : Nat) (a1 : Option Addr) (c1 : Nat) (act : Act) (W2 : World), act.tmps.size = 62 → act.defers = [] → act.tmps.getD 1 undef = .int .i64 i → act.tmps.getD 5 undef = .pointer (some ⟨b5, 0, none⟩) → act.tmps.getD 6 undef = .slice a1 (plcI N).length c1 → Inv w b5 N W2 → IsL W2 a1 c1 (plcI N) → K1 act W2 := by
    intro b5 a1 c1 act W2 h1 h2 h3 h4 h5 h6 h7
    have H := Lib.hid (And.intro h6 h7)
    clear h6 h7 hcW hcA hzA hfA
    refine hK1 _ _ ?_
    refine wp_seq ?_
    refine region_seq (ops := tlOps) (n := 62) (tab := tlTab N b5 i a1 c1 w) (base := tlBase N b5 i a1 c1 w) (H := fun W => Inv w b5 N W ∧ IsL W a1 c1 (plcI N)) (earlier_of (by kernel_rfl)) ?start (fun l a w' k h hk hd => tlStep ⟨HR.out.fa, HR.out.fd, HR.out.hi⟩ l a w' k h hk hd) ?fin
    case start =>
      refine At.begins h1 h2 H.out fun s v hs => ?_
      unfold tlBase at hs
      split at hs
      · rename_i e; subst e; cases hs; exact h3
      · split at hs
        · rename_i e; subst e; cases hs; exact h4
        · split at hs
          · rename_i e; subst e; cases hs; exact h5
          · cases hs
    case fin =>
      intro l a w' h hall
      have h0 : a.tmps.getD 4 undef = .bool true := h.done 52 4 (hall 52 (by rw [tlSize]; omega)) (by kernel_rfl)
      have hdf := h.defers
      have HI := Lib.hid h.hold
      clear h hall
      show Code.wp _ _ _ a w'
      go_wp2_with fail
      refine bodyPost_ret (results_tmp rfl _ _ _) hdf ?_
      exact ⟨by rw [h0], HI.out.1.2.2.2.2⟩
  clear hK1
  go_region_with (first | (go_at_call 8; refine (HOF.out _).mono ?_; rintro e w1 ⟨⟨a1, c1, rfl, hi1, hn1⟩, b1⟩; have hc1 := keep4 b1 hcW; have hca1 := keep4 (below_alloc1 w1 (.cells #[.int .u64 0, .int .u64 0, .int .u64 0, .int .u64 0] 24)) hc1) | (go_at_call 8; refine (HOF.out _).mono ?_; rintro e w1 ⟨⟨a1, c1, rfl, hi1, hn1⟩, b1⟩; have hc1 := keep4 b1 hcA; have hz1 := keep4 b1 hzA; have hf1 := keepf4 b1 hzA hfA))
  all_goals
    first
      | (have hb := hz1
         refine TAIL W.heap.size a1 c1 _ _ rfl rfl rfl rfl rfl ?_ ?_
         · exact invB (b := W.heap.size) HB0.out HT.out hw HZ.out HB0.out.size b1
         · exact isL_B hi1 hn1)
      | (refine TAIL w1.heap.size a1 c1 _ _ rfl rfl rfl rfl rfl ?_ ?_
         · exact invA HB0.out.drew HT.out hw b1
         · exact hi1.next (below_alloc1 _ _))
end Go.Proofs.YtidkakcnhgfpoaaDoor
