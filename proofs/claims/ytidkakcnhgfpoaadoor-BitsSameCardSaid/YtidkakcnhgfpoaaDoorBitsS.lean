/- All: the places of a set, as a list. -/
import Derived.Test.YtidkakcnhgfpoaaDoorBitsR
import Derived.Maps.AppendAt
namespace Go.Proofs.YtidkakcnhgfpoaaDoor
open Go.RowKit Go.Shelf
set_option linter.unusedVariables false
attribute [local go_sem] Oper.semAt_some

theorem none_or (o : Option Nat) : o = none ∨ o ≠ none := by cases o <;> simp
theorem grown_of {w w' : World} (h : Below w.heap.size w w') : w.grownBy w' none := ⟨h.os, h.tape, h.output, h.size, fun k hk _ => h.block k hk⟩
theorem kept_append {W w1 : World} {B base n : Nat} {v u : Value} {xs : List Value} {tmp : Obj} (hv : Boxed W B 25 u) (hrow : W.ownsRow base 3 1 v n xs) (hg : (W.alloc tmp).grownBy w1 v.ownBlock) : KeepsT 24 W w1 := by
  refine (KeepsT.of_below (below_alloc1 W tmp)).trans (KeepsT.grown hg fun k cs fr hk e => ?_)
  rcases (hrow.alloc tmp).2 with ⟨rfl, _⟩ | ⟨g, cap, cur, rfl, _, hgb, _⟩
  · simp [Value.ownBlock] at e
  · obtain rfl : k = g := by simpa [Value.ownBlock] using e
    rw [hgb] at hk
    simp at hk
set_option maxRecDepth 100000 in
set_option maxHeartbeats 4000000 in
theorem all_any (N : Nat) (w : World) (hT : TabAt 0 Lib.deBruijn64tab w) (hw : 0 < w.heap.size) :
    Calls Tryd.prog 20 #[sv N] w fun e w' => OutL w' e (plcI N) ∧ Below w.heap.size w w' := by
  have HT := Lib.hid hT
  have HLEN := Lib.hid (len_any N)
  have HE := Lib.hid (each_hands 4 N)
  have hlen : (plc N).length ≤ 256 := Nat.le_trans (List.length_filter_le _ _) (by simp)
  have HLL := Lib.hid (show (plcI N).length = (plc N).length by unfold plcI; rw [List.length_map])
  obtain ⟨L, hL⟩ : ∃ L, L = plcI N := ⟨_, rfl⟩
  rw [← hL] at HE HLL ⊢
  clear hL hT
  generalize (plc N).length = m at *
  obtain ⟨i0, hi, hz0, hz1, hz2⟩ := info_parts intInfo
  refine (callsIn_wide (n := 5)).1 ?_
  refine callsIn_of_wp_marks Tryd.func20 rfl trivial ?_ rfl
  simp only [Tryd.ntmps20, List.size_toArray, List.length_cons, List.length_nil, Nat.reduceAdd, Nat.reduceSub, Array.replicate_succ, Array.replicate_zero, List.push_toArray, List.append_toArray, List.nil_append, List.cons_append]
  have hb0 := below_alloc1 w (.cells #[.int .u64 (wd N 0 : Int), .int .u64 (wd N 1 : Int), .int .u64 (wd N 2 : Int), .int .u64 (wd N 3 : Int)] 24)
  have hs0 := ArrIn.new 24 (.int .u64 (wd N 0 : Int)) (.int .u64 (wd N 1 : Int)) (.int .u64 (wd N 2 : Int)) (.int .u64 (wd N 3 : Int)) w
  have HB0 := Lib.hid hb0
  have HS0 := Lib.hid hs0
  clear hb0 hs0
  gi_wp2_with fail
  generalize w.alloc (.cells #[.int .u64 (wd N 0 : Int), .int .u64 (wd N 1 : Int), .int .u64 (wd N 2 : Int), .int .u64 (wd N 3 : Int)] 24) = V at *
  refine ⟨trivial, ?_⟩
  refine (callsIn_wide.2 (HLEN.out V)).mono ?_
  rintro e w1 ⟨rfl, b1⟩
  have HB1 := Lib.hid (below_then' HB0.out b1 HB0.out.size)
  have HS1 := Lib.hid (HS0.out.next b1)
  have hz1' : w.heap.size ≤ w1.heap.size := HB1.out.size
  have hs4 := HS1.out.cells
  clear b1 HB0 HS0
  gi_wp2_with (gi_at_make; refine wpListIn_make_own _ rfl _ _ 25 rfl w.heap.size 3 i0 (.int .i64 0) 1 Tryd.underlying25 hi hz0 hz1 _ _ _ m rfl rfl rfl ?c1 ?c2 ?c3 ?_)
  case c1 => rw [hz2]; omega
  case c2 => unfold maxLen; omega
  case c3 => exact hz1'
  intro w2 hown hgrow
  have hB2 : Below w.heap.size w w2 := HB1.out.grown hgrow HB1.out.size (fun k e => by cases e)
  have hS2 := HS1.out.next (Below.refl _ _ |>.grown hgrow (Nat.le_refl _) (fun k e => by cases e))
  have HB2 := Lib.hid hB2
  have HS2 := Lib.hid hS2
  have HO2 := Lib.hid hown
  have hs4b := (hS2.alloc (.cells #[.slice (some ⟨w1.heap.size, 0, none⟩) 0 m] 25)).cells
  clear hown hgrow hB2 hS2 hs4
  gi_wp2_with fail
  have HT3 := Lib.hid (show TabAt 0 Lib.deBruijn64tab (w2.alloc (.cells #[.slice (some ⟨w1.heap.size, 0, none⟩) 0 m] 25)) from fun j hj => ((HB2.out.alloc HB2.out.size _).cell hw).trans (HT.out j hj))
  have HBX := Lib.hid (Boxed.new w2 25 (.slice (some ⟨w1.heap.size, 0, none⟩) 0 m))
  have HO3 := Lib.hid (HO2.out.alloc (.cells #[.slice (some ⟨w1.heap.size, 0, none⟩) 0 m] 25))
  have HB3 := Lib.hid (HB2.out.alloc HB2.out.size (.cells #[.slice (some ⟨w1.heap.size, 0, none⟩) 0 m] 25))
  have hB2s : w.heap.size ≤ w2.heap.size := HB2.out.size
  clear hs4b HS2 HO2
  generalize w2.alloc (.cells #[.slice (some ⟨w1.heap.size, 0, none⟩) 0 m] 25) = W0 at *
  generalize w2.heap.size = B at *
  refine rangeAll (gf := 34) (first := #[sv N]) (xs := L) (n₀ := w.heap.size) rfl (by decide) rfl trivial (enters_of Tryd.func34 (by kernel_rfl) rfl) HB3.out.size (HE.out w.heap.size hw W0 HB3.out.size HT3.out) rfl
    (fun pre W => (∃ v, Boxed W B 25 v ∧ W.ownsRow w.heap.size 3 1 v pre.length (pre.map (Value.int .i64)) ∧ True) ∧ Below w.heap.size w W)
    ?iB ?iL ⟨⟨_, HBX.out, HO3.out, trivial⟩, HB3.out⟩
    (fun x => { tmps := #[sv N, .pointer (some ⟨w.heap.size, 0, none⟩), .slice none 0 0, .pointer (some ⟨B, 0, none⟩), .int .i64 x, sv N, .int .i64 m, .slice (some ⟨w1.heap.size, 0, none⟩) 0 m, sv N, .func (.func 34) #[sv N] #[], .int .i64 x, undef, undef, undef, undef, undef], defers := [] }) ?assign ?body ?done
  case iB =>
    rintro pre X Y ⟨⟨v, hv, hr, _⟩, hb⟩ hxy
    exact ⟨⟨v, hv.kept (grown_of hxy) (by simp), hr.kept (grown_of hxy) (none_or _), trivial⟩, below_then' hb hxy hb.size⟩
  case iL =>
    rintro pre X l o o' ⟨hs, hb⟩ hl ho hc
    refine ⟨holdsRow_own w.heap.size B 25 3 1 (fun pre : List Int => pre.length) (fun pre => pre.map (Value.int .i64)) (fun _ _ => True) pre X _ (some l) hs (grownBy_putObj' X l o') (fun r e => by cases e; exact ⟨o, ho, hc⟩), ?_⟩
    exact hb.grown (grownBy_putObj' X l o') hb.size (fun k e => by cases e; exact Nat.le_trans HB3.out.size hl)
  case assign =>
    intro l x W K hK
    gi_wp2
    exact hK
  case body =>
    rintro l pre x rest W hx ⟨⟨v, hv, hrow, _⟩, hB⟩
    have hc := hv.cell
    have hpl : pre.length + 1 ≤ 256 := by
      have := congrArg List.length hx
      have := HLL.out
      simp at *; omega
    gi_wp2_with (gi_at_builtin; refine wpListIn_append_own _ rfl _ _ 25 rfl w.heap.size 3 i0 (.int .i64 0) 1 8 Tryd.underlying25 hi hz0 hz1 hz2 rfl (by decide) _ _ _ rfl (hrow.alloc _) ⟨W.heap.size, 0, none⟩ 1 1 [.int .i64 x] rfl rfl (cell_one_new _ _ _) (by simp [Value.oneCell']) (by unfold maxLen; omega) (by omega) (by have := hB.size; simp; omega) ?_; intro v' w4 hown' hgrow _; have hkt := kept_append hv hrow hgrow; obtain ⟨g', cap', rfl⟩ := ownsRow_succ hown'; obtain ⟨hv1, hv2, hr2, hk2, hb2⟩ := hv.appended (by decide) hrow hB.size hB2s hown' hgrow; have hc1 := hv1.cell; have hf1 := hv1.frozen)
    exact ⟨hk2, ⟨hb2, hkt.trans (KeepsT.set hv1 (by decide))⟩, ⟨⟨_, hv2, by simpa using hr2, trivial⟩, hB.trans hb2⟩⟩
  case done =>
    rintro D W hD ⟨⟨v, hv, hrow, _⟩, hB⟩ hK
    have hc := hv.cell
    gi_wp2
    refine ⟨by simp, .inl ⟨_, _, rfl, run_takeDeferred hK, ?_⟩⟩
    obtain ⟨a1, c1, hv1, hi1⟩ := own_isL (ownsRow_putObj hrow (.deferred none) hK rfl)
    exact ⟨_, results_tmp rfl _ _ _, ⟨a1, c1, by rw [← hv1]; rfl, hi1⟩, hB.grown (grownBy_putObj' W D _) hB.size (fun k e => by cases e; exact Nat.le_trans HB3.out.size hD)⟩
end Go.Proofs.YtidkakcnhgfpoaaDoor
