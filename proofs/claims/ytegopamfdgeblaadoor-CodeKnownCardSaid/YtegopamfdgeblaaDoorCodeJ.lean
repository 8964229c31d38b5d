/- Ways. -/
import Derived.Test.YtegopamfdgeblaaDoorCodeI
import Derived.Maps.AppendAt
namespace Go.Proofs.YtegopamfdgeblaaDoor
open Go.RowKit Go.Shelf
set_option linter.unusedVariables false
set_option linter.unusedSimpArgs false
attribute [local go_sem] Oper.semAt_some

theorem behind_any (op a b i : Int) (w : World) :
    Calls Tryd.prog 22 #[.agg #[.int .i64 op, .int .i64 a, .int .i64 b], .int .i64 i] w fun e w' => e = .returned (.func (.func 35) #[] #[.pointer (some ⟨w.heap.size, 0, none⟩), .pointer (some ⟨w.heap.size + 1, 0, none⟩)]) ∧ (w.alloc (.cells #[.int .i64 op, .int .i64 a, .int .i64 b] 34)).alloc (.cells #[.int .i64 i] 3) = w' := by
  go_enter Tryd.func22, Tryd.ntmps22
  go_wp2_with fail
  go_ret
  exact ⟨rfl, rfl⟩
theorem own_isL {w : World} {B : Nat} {v : Value} {M : List Int} (h : w.ownsRow B 3 1 v M.length (M.map (Value.int .i64))) : ∃ a c, v = .slice a M.length c ∧ IsL w a c M := by
  have h' := h
  obtain ⟨_, h2⟩ := h
  rcases h2 with ⟨rfl, h2⟩ | ⟨g, c, cur, rfl, hg, hh, hc, hm, _⟩
  · rw [h2]
    exact ⟨none, 0, rfl, by omega, by omega, .inl h2⟩
  · unfold maxLen at hm
    refine ⟨_, c, rfl, hc, hm, .inr ⟨g, 0, rfl, (Array.getElem?_eq_some_iff.1 hh).1, fun j hj => ?_⟩⟩
    rw [Nat.zero_add, h'.cellAt j (by omega)]
    simp [List.getD, List.getElem?_map, List.getElem?_eq_getElem hj]
theorem intInfo : (Tryd.prog.info? 3).map (fun i => (i.zero, i.size, i.bytes)) = some (some (.int .i64 0), 1, 8) := by kernel_rfl
theorem none_or (o : Option Nat) : o = none ∨ o ≠ none := by cases o <;> simp
theorem grown_of {w w' : World} (h : Below w.heap.size w w') : w.grownBy w' none := ⟨h.os, h.tape, h.output, h.size, fun k hk _ => h.block k hk⟩
theorem wayOf_len (x : Ins) (i : Int) : (wayOf x i).length ≤ 2 := by
  unfold wayOf; repeat' split
  all_goals simp
set_option maxRecDepth 100000 in
set_option maxHeartbeats 4000000 in
theorem ways_in (k : Nat) (x : Ins) (b off len cap : Nat) (hk : k < len) (hlc : len ≤ cap) (hcm : cap ≤ 9223372036854775807) (w : World)
    (x0 : w.cell? ⟨b, off + k * 3, none⟩ = some (.int .i64 x.op)) (x1 : w.cell? ⟨b, off + k * 3 + 1, none⟩ = some (.int .i64 x.a)) (x2 : w.cell? ⟨b, off + k * 3 + 2, none⟩ = some (.int .i64 x.b)) (hb : b < w.heap.size) :
    Calls Tryd.prog 13 #[.slice (some ⟨b, off, none⟩) len cap, .int .i64 (k : Int)] w fun e w' => OutL w' e (wayOf x (k : Int)) ∧ Below w.heap.size w w' := by
  obtain ⟨op, a, xb⟩ := x
  have HLL := Lib.hid (wayOf_len ⟨op, a, xb⟩ (k : Int))
  have HE := Lib.hid (fun n₀ W bx bi => behind_hands 4 op a xb (k : Int) bx bi n₀ (by omega) (by omega) W)
  obtain ⟨L, hL⟩ : ∃ L, L = wayOf ⟨op, a, xb⟩ (k : Int) := ⟨_, rfl⟩
  rw [← hL] at HLL HE ⊢
  clear hL
  obtain ⟨i0, hi, hz0, hz1, hz2⟩ := info_parts intInfo
  refine (callsIn_wide (n := 5)).1 ?_
  refine callsIn_of_wp_marks Tryd.func13 rfl trivial ?_ rfl
  simp only [Tryd.ntmps13, List.size_toArray, List.length_cons, List.length_nil, Nat.reduceAdd, Nat.reduceSub, Array.replicate_succ, Array.replicate_zero, List.push_toArray, List.append_toArray, List.nil_append, List.cons_append]
  gi_wp2_with fail
  refine ⟨trivial, ?_⟩
  refine (callsIn_wide.2 (behind_any op a xb (k : Int) _)).mono ?_
  rintro e w1 ⟨rfl, rfl⟩
  gi_wp2_with fail
  have HBX := Lib.hid (((Boxed.new w 28 (.slice none 0 0)).alloc (.cells #[.int .i64 op, .int .i64 a, .int .i64 xb] 34)).alloc (.cells #[.int .i64 (k : Int)] 3))
  have hB := ((below_alloc1 w (.cells #[.slice none 0 0] 28)).alloc (by simp) (.cells #[.int .i64 op, .int .i64 a, .int .i64 xb] 34)).alloc (by simp; omega) (.cells #[.int .i64 (k : Int)] 3)
  have h1 := heap_one (w.alloc (.cells #[.slice none 0 0] 28)) (.cells #[.int .i64 op, .int .i64 a, .int .i64 xb] 34) (.cells #[.int .i64 (k : Int)] 3)
  have h2 := heap_two (w.alloc (.cells #[.slice none 0 0] 28)) (.cells #[.int .i64 op, .int .i64 a, .int .i64 xb] 34) (.cells #[.int .i64 (k : Int)] 3)
  replace h1 : (((w.alloc (.cells #[.slice none 0 0] 28)).alloc (.cells #[.int .i64 op, .int .i64 a, .int .i64 xb] 34)).alloc (.cells #[.int .i64 (k : Int)] 3)).heap[w.heap.size + 1]? = some (.cells #[.int .i64 op, .int .i64 a, .int .i64 xb] 34) := by simpa using h1
  replace h2 : (((w.alloc (.cells #[.slice none 0 0] 28)).alloc (.cells #[.int .i64 op, .int .i64 a, .int .i64 xb] 34)).alloc (.cells #[.int .i64 (k : Int)] 3)).heap[w.heap.size + 1 + 1]? = some (.cells #[.int .i64 (k : Int)] 3) := by simpa using h2
  have hsz : (((w.alloc (.cells #[.slice none 0 0] 28)).alloc (.cells #[.int .i64 op, .int .i64 a, .int .i64 xb] 34)).alloc (.cells #[.int .i64 (k : Int)] 3)).heap.size = w.heap.size + 3 := by simp
  generalize (((w.alloc (.cells #[.slice none 0 0] 28)).alloc (.cells #[.int .i64 op, .int .i64 a, .int .i64 xb] 34)).alloc (.cells #[.int .i64 (k : Int)] 3)) = W0 at *
  have HB3 := Lib.hid hB
  have HH := Lib.hid (HE.out w.heap.size W0 (w.heap.size + 1) (w.heap.size + 1 + 1) hB.size (by simp [World.cell?, h1]) (by simp [World.cell?, h1]) (by simp [World.cell?, h2]) (by omega) (by omega))
  have HSZ := Lib.hid hsz
  clear HE hB h1 h2 hsz x0 x1 x2
  refine rangeAll (gf := 35) (lb := #[.pointer (some ⟨w.heap.size + 1, 0, none⟩), .pointer (some ⟨w.heap.size + 1 + 1, 0, none⟩)]) (xs := L) (n₀ := w.heap.size) rfl (by decide) rfl trivial (enters_of Tryd.func35 (by kernel_rfl) rfl) HB3.out.size HH.out rfl
    (fun pre W => (∃ v, Boxed W w.heap.size 28 v ∧ W.ownsRow w.heap.size 3 1 v pre.length (pre.map (Value.int .i64)) ∧ True) ∧ Below w.heap.size w W)
    ?iB ?iL ⟨⟨_, HBX.out, World.ownsRow_nil _ _ _ _, trivial⟩, HB3.out⟩
    (fun x => { tmps := #[.slice (some ⟨b, off, none⟩) len cap, .int .i64 (k : Int), undef, undef, .slice none 0 0, .pointer (some ⟨w.heap.size, 0, none⟩), .int .i64 x, .int .i64 (k : Int), .bool (decide ((k : Int) < 0)), .bool (decide ((k : Int) < 0)),
      .int .i64 (k : Int), .slice (some ⟨b, off, none⟩) len cap, .int .i64 (len : Int), .bool false, .bool (decide ((k : Int) < 0)), .slice (some ⟨b, off, none⟩) len cap, .int .i64 (k : Int), .pointer (some ⟨b, off + k * 3, none⟩),
      .agg #[.int .i64 op, .int .i64 a, .int .i64 xb], .int .i64 (k : Int), .func (.func 35) #[] #[.pointer (some ⟨w.heap.size + 1, 0, none⟩), .pointer (some ⟨w.heap.size + 1 + 1, 0, none⟩)], .int .i64 x, undef, undef, undef, undef, undef], defers := [] }) ?assign ?body ?done
  case iB =>
    rintro pre X Y ⟨⟨v, hv, hr, _⟩, hb⟩ hxy
    exact ⟨⟨v, hv.kept (grown_of hxy) (by simp), hr.kept (grown_of hxy) (none_or _), trivial⟩, below_then' hb hxy hb.size⟩
  case iL =>
    rintro pre X l o o' ⟨hs, hb⟩ hl ho hc
    refine ⟨holdsRow_own w.heap.size w.heap.size 28 3 1 (fun pre : List Int => pre.length) (fun pre => pre.map (Value.int .i64)) (fun _ _ => True) pre X _ (some l) hs (grownBy_putObj' X l o') (fun r e => by cases e; exact ⟨o, ho, hc⟩), ?_⟩
    exact hb.grown (grownBy_putObj' X l o') hb.size (fun k e => by cases e; exact Nat.le_trans HB3.out.size hl)
  case assign =>
    intro l x W K hK
    gi_wp2
    exact hK
  case body =>
    rintro l pre x rest W hx ⟨⟨v, hv, hrow, _⟩, hB⟩
    have hc := hv.cell
    have hpl : pre.length + 1 ≤ 2 := by
      have := congrArg List.length hx
      have := HLL.out
      simp at *; omega
    have hB2s : w.heap.size ≤ w.heap.size := Nat.le_refl _
    gi_wp2_with (gi_at_builtin; refine wpListIn_append_own _ rfl _ _ 28 rfl w.heap.size 3 i0 (.int .i64 0) 1 8 Tryd.underlying28 hi hz0 hz1 hz2 rfl (by decide) _ _ _ rfl (hrow.alloc _) ⟨W.heap.size, 0, none⟩ 1 1 [.int .i64 x] rfl rfl (cell_one_new _ _ _) (by simp [Value.oneCell']) (by unfold maxLen; omega) (by omega) (by have := hB.size; simp; omega) ?_; intro v' w4 hown' hgrow _; obtain ⟨g', cap', rfl⟩ := ownsRow_succ hown'; obtain ⟨hv1, hv2, hr2, hk2, hb2⟩ := hv.appended (by decide) hrow hB.size hB2s hown' hgrow; have hc1 := hv1.cell; have hf1 := hv1.frozen)
    exact ⟨hk2, hb2, ⟨⟨_, hv2, by simpa using hr2, trivial⟩, hB.trans hb2⟩⟩
  case done =>
    rintro D W hD ⟨⟨v, hv, hrow, _⟩, hB⟩ hK
    have hc := hv.cell
    gi_wp2
    refine ⟨by simp, .inl ⟨_, _, rfl, run_takeDeferred hK, ?_⟩⟩
    obtain ⟨a1, c1, hv1, hi1⟩ := own_isL (ownsRow_putObj hrow (.deferred none) hK rfl)
    exact ⟨_, results_tmp rfl _ _ _, ⟨a1, c1, by rw [← hv1]; rfl, hi1⟩, hB.grown (grownBy_putObj' W D _) hB.size (fun k e => by cases e; exact Nat.le_trans HB3.out.size hD)⟩
theorem ways_any (a : Option Addr) (cap : Nat) (L : List Ins) (i : Int) (w : World) (h : IsC w a cap L) :
    Calls Tryd.prog 13 #[.slice a L.length cap, .int .i64 i] w fun e w' => OutL w' e (waysL L i) ∧ Below w.heap.size w w' := by
  have hcap := h.1
  have hcm := h.2.1
  by_cases hin : 0 ≤ i ∧ i.toNat < L.length
  · obtain ⟨k, rfl⟩ : ∃ k : Nat, i = (k : Int) := ⟨i.toNat, by omega⟩
    have hk : k < L.length := by omega
    obtain ⟨b, off, x, hx, rfl, x0, x1, x2⟩ := h.at k hk
    have HE := Lib.hid (show waysL L k = wayOf x k by rw [waysL, dif_pos hin, hx]; rfl)
    rw [HE.out]
    exact ways_in k x b off L.length cap hk hcap hcm w x0 x1 x2 (World.block_lt_of_cell? w _ x0)
  · have HV := Lib.hid (show waysL L i = [] by rw [waysL, dif_neg hin])
    rw [HV.out]
    clear h
    by_cases hn : i < 0
    · go_enter Tryd.func13, Tryd.ntmps13
      go_wp2_with fail
      go_ret
      exact ⟨⟨none, 0, rfl, IsL.nil _⟩, Below.refl _ _⟩
    · have hn2 : (L.length : Int) ≤ i := by omega
      go_enter Tryd.func13, Tryd.ntmps13
      go_wp2_with fail
      go_ret
      exact ⟨⟨none, 0, rfl, IsL.nil _⟩, Below.refl _ _⟩
end Go.Proofs.YtegopamfdgeblaaDoor
