/- The document's answers that make a list: Del, And, Minus, Of. -/
import Derived.Test.YtidkakcnhgfpoaaDoorBitsG
import Derived.Test.YtidkakcnhgfpoaaDoorBitsC
import Derived.RangeFuncBox
namespace Go.Proofs.YtidkakcnhgfpoaaDoor
open Go.RowKit
set_option linter.unusedVariables false

/-- The slice that is handed back reads as M. -/
def OutL (w : World) (e : Ending) (M : List Int) : Prop := ∃ a c, e = .returned (.slice a M.length c) ∧ IsL w a c M
theorem own_isL {w : World} {B : Nat} {v : Value} {M : List Int} (h : w.ownsRow B 3 1 v M.length (M.map (Value.int .i64))) : ∃ a c, v = .slice a M.length c ∧ IsL w a c M := by
  have h' := h
  obtain ⟨_, h2⟩ := h
  rcases h2 with ⟨rfl, h2⟩ | ⟨g, c, cur, rfl, hg, hh, hc, hm, _⟩
  · rw [h2]
    exact ⟨none, 0, rfl, by omega, by omega, .inl h2⟩
  · unfold maxLen at hm
    refine ⟨_, c, rfl, hc, hm, .inr ⟨g, 0, rfl, (Array.getElem?_eq_some_iff.1 hh).1, fun j hj => ?_⟩⟩
    rw [Nat.zero_add, h'.cellAt j (by omega)]
    simp [List.getD, List.getElem?_map, List.getElem?_eq_getElem hj]
theorem intInfo : (Tryd.prog.info? 3).map (fun i => (i.zero, i.size, i.bytes)) = some (some (.int .i64 0), 1, 8) := by kernel_rfl
theorem take_step (L : List Int) (k : Nat) (hk : k < L.length) : L.take (k + 1) = L.take k ++ [L.getD k 0] := by
  rw [List.take_add_one, List.getElem?_eq_getElem hk, List.getD_eq_getElem?_getD, List.getElem?_eq_getElem hk]; rfl
theorem filter_in (p : Int → Bool) (L : List Int) (k : Nat) (hk : k < L.length) (h : p (L.getD k 0) = true) : (L.take (k + 1)).filter p = (L.take k).filter p ++ [L.getD k 0] := by
  rw [take_step L k hk, List.filter_append, List.filter_cons, h]; rfl
theorem filter_out (p : Int → Bool) (L : List Int) (k : Nat) (hk : k < L.length) (h : p (L.getD k 0) = false) : (L.take (k + 1)).filter p = (L.take k).filter p := by
  rw [take_step L k hk, List.filter_append, List.filter_cons, h]; simp
theorem filter_len (p : Int → Bool) (L : List Int) (k : Nat) : ((L.take k).filter p).length ≤ k := Nat.le_trans (List.length_filter_le _ _) (List.length_take_le _ _)
theorem own_snoc {w : World} {B : Nat} {v : Value} {M : List Int} {x : Int} (h : w.ownsRow B 3 1 v (M.length + 1) (M.map (Value.int .i64) ++ [.int .i64 x])) :
    w.ownsRow B 3 1 v (M ++ [x]).length ((M ++ [x]).map (Value.int .i64)) := by
  rw [List.length_append, List.map_append]; exact h
theorem grown_out {w wr w1 : World} {o : Obj} {v : Value} {n : Nat} {xs : List Value} (h : Below w.heap.size w wr) (ho : wr.ownsRow w.heap.size 3 1 v n xs) (hg : (wr.alloc o).grownBy w1 v.ownBlock) : Below w.heap.size w w1 :=
  (h.alloc h.size o).grown hg (Nat.le_trans h.size (by simp)) (fun k e => (ho.lt k e).1)

set_option maxRecDepth 100000 in
set_option maxHeartbeats 1000000 in
theorem refDel_any (a : Option Addr) (c : Nat) (L : List Int) (i : Int) (w : World) (h : IsL w a c L) (hL : L.length ≤ 1000) :
    Calls Tryd.prog 15 #[.slice a L.length c, .int .i64 i] w fun e w' => OutL w' e (L.filter (fun x => x != i)) ∧ Below w.heap.size w w' := by
  have H := Lib.hid h
  have hc := h.1
  have hcm := h.2.1
  clear h
  obtain ⟨i0, hi, hz0, hz1, hz2⟩ := info_parts intInfo
  go_enter Tryd.func15, Tryd.ntmps15
  go_wp2_with fail
  go_loopw [5, 6] (fun v q wr => ∃ (k : Nat) (M : List Int), q = .int .i64 (k : Int) ∧ k ≤ L.length ∧ M = (L.take k).filter (fun x => x != i) ∧ wr.ownsRow w.heap.size 3 1 v M.length (M.map (Value.int .i64)) ∧ Below w.heap.size w wr) (fun _ q _ => L.length - (intOf q).toNat)
  case atStart => exact ⟨0, [], rfl, Nat.zero_le _, rfl, World.ownsRow_nil _ _ _ _, Below.refl _ _⟩
  case round =>
    obtain ⟨k, M, rfl, hk, hM, hown, hbw⟩ := hrel
    have HM := Lib.hid hM
    have HO := Lib.hid hown
    have HW := Lib.hid hbw
    have hMl : M.length ≤ k := by rw [hM]; exact filter_len _ _ _
    clear hM hown hbw
    by_cases hlt : k < L.length
    · obtain ⟨b, off, rfl, hcell⟩ := (H.out.next HW.out).at k hlt
      obtain ⟨x, hx⟩ : ∃ x, x = L.getD k 0 := ⟨_, rfl⟩
      rw [← hx] at hcell
      have HX := Lib.hid hx
      clear hx
      by_cases hxi : x = i
      · have HN := Lib.hid (show M = (L.take (k + 1)).filter (fun x => x != i) by rw [filter_out _ L k hlt (by rw [← HX.out, hxi]; simp), ← HM.out])
        go_wp2_with fail
        go_roundw
        case rel => exact ⟨k + 1, M, by go_num, by omega, HN.out, HO.out, HW.out⟩
        case measure => simp [intOf]; omega
      · have hxb : (x != i) = true := by simp [hxi]
        have HN := Lib.hid (show M ++ [x] = (L.take (k + 1)).filter (fun x => x != i) by rw [filter_in _ L k hlt (by rw [← HX.out]; exact hxb), ← HM.out, HX.out])
        go_wp2_with (at_builtin; refine wpList_append_own _ rfl _ _ 25 rfl w.heap.size 3 i0 (.int .i64 0) 1 8 Tryd.underlying25 hi hz0 hz1 hz2 rfl (by decide) _ M.length (M.map (Value.int .i64)) rfl (HO.out.alloc _) ⟨wr.heap.size, 0, none⟩ 1 1 [.int .i64 x] rfl rfl (cell_one_new _ _ _) (by simp [Value.oneCell']) ?c4 ?c5 ?c6 ?_)
        case c4 => unfold maxLen; omega
        case c5 => omega
        case c6 => have := HW.out.size; simp; omega
        intro v1 w1 hown1 hgrow hne
        have HW1 := Lib.hid (grown_out HW.out HO.out hgrow)
        have HO1 := Lib.hid (own_snoc hown1)
        obtain ⟨g1, cap1, rfl⟩ := ownsRow_succ hown1
        clear hown1 hgrow hne
        go_wp2_with fail
        go_roundw
        case rel => exact ⟨k + 1, M ++ [x], by go_num, by omega, HN.out, HO1.out, HW1.out⟩
        case measure => simp [intOf]; omega
    · have HN := Lib.hid (show M = L.filter (fun x => x != i) by rw [HM.out, List.take_of_length_le (by omega)])
      go_wp2_with fail
      refine bodyPost_ret (results_tmp rfl _ _ _) rfl ?_
      obtain ⟨a1, c1, hv, hi1⟩ := own_isL HO.out
      rw [← HN.out]
      exact ⟨⟨a1, c1, by rw [← hv]; rfl, hi1⟩, HW.out⟩

set_option maxRecDepth 100000 in
set_option maxHeartbeats 1000000 in
theorem refAnd_any (a a' : Option Addr) (c c' : Nat) (L L2 : List Int) (w : World) (h : IsL w a c L) (h' : IsL w a' c' L2) (hL : L.length ≤ 1000) :
    Calls Tryd.prog 23 #[.slice a L.length c, .slice a' L2.length c'] w fun e w' => OutL w' e (L.filter (fun x => decide (x ∈ L2))) ∧ Below w.heap.size w w' := by
  have H := Lib.hid h
  have H2 := Lib.hid h'
  have hc := h.1
  have hcm := h.2.1
  have hc2 := h'.1
  have hcm2 := h'.2.1
  clear h h'
  obtain ⟨i0, hi, hz0, hz1, hz2⟩ := info_parts intInfo
  go_enter Tryd.func23, Tryd.ntmps23
  go_wp2_with fail
  go_loopw [5, 6] (fun v q wr => ∃ (k : Nat) (M : List Int), q = .int .i64 (k : Int) ∧ k ≤ L.length ∧ M = (L.take k).filter (fun x => decide (x ∈ L2)) ∧ wr.ownsRow w.heap.size 3 1 v M.length (M.map (Value.int .i64)) ∧ Below w.heap.size w wr) (fun _ q _ => L.length - (intOf q).toNat)
  case atStart => exact ⟨0, [], rfl, Nat.zero_le _, rfl, World.ownsRow_nil _ _ _ _, Below.refl _ _⟩
  case round =>
    obtain ⟨k, M, rfl, hk, hM, hown, hbw⟩ := hrel
    have HM := Lib.hid hM
    have HO := Lib.hid hown
    have HW := Lib.hid hbw
    have hMl : M.length ≤ k := by rw [hM]; exact filter_len _ _ _
    clear hM hown hbw
    by_cases hlt : k < L.length
    · obtain ⟨b, off, rfl, hcell⟩ := (H.out.next HW.out).at k hlt
      obtain ⟨x, hx⟩ : ∃ x, x = L.getD k 0 := ⟨_, rfl⟩
      rw [← hx] at hcell
      have HX := Lib.hid hx
      clear hx
      have HH := Lib.hid (refHas_any a' c' L2 x wr (H2.out.next HW.out))
      by_cases hxi : x ∈ L2
      · have hxb : (decide (x ∈ L2)) = true := by simp [hxi]
        have HN := Lib.hid (show M ++ [x] = (L.take (k + 1)).filter (fun x => decide (x ∈ L2)) by rw [filter_in _ L k hlt (by rw [← HX.out]; exact hxb), ← HM.out, HX.out])
        rw [decide_eq_true hxi] at HH
        clear hxb hxi
        go_wp2_with fail
        refine HH.out.mono ?_
        rintro e w1 ⟨rfl, rfl⟩
        go_wp2_with (at_builtin; refine wpList_append_own _ rfl _ _ 25 rfl w.heap.size 3 i0 (.int .i64 0) 1 8 Tryd.underlying25 hi hz0 hz1 hz2 rfl (by decide) _ M.length (M.map (Value.int .i64)) rfl (HO.out.alloc _) ⟨wr.heap.size, 0, none⟩ 1 1 [.int .i64 x] rfl rfl (cell_one_new _ _ _) (by simp [Value.oneCell']) ?c4 ?c5 ?c6 ?_)
        case c4 => unfold maxLen; omega
        case c5 => omega
        case c6 => have := HW.out.size; simp; omega
        intro v1 w1 hown1 hgrow hne
        have HW1 := Lib.hid (grown_out HW.out HO.out hgrow)
        have HO1 := Lib.hid (own_snoc hown1)
        obtain ⟨g1, cap1, rfl⟩ := ownsRow_succ hown1
        clear hown1 hgrow hne
        go_wp2_with fail
        go_roundw
        case rel => exact ⟨k + 1, M ++ [x], by go_num, by omega, HN.out, HO1.out, HW1.out⟩
        case measure => simp [intOf]; omega
      · have hxb : (decide (x ∈ L2)) = false := by simp [hxi]
        have HN := Lib.hid (show M = (L.take (k + 1)).filter (fun x => decide (x ∈ L2)) by rw [filter_out _ L k hlt (by rw [← HX.out]; exact hxb), ← HM.out])
        rw [decide_eq_false hxi] at HH
        clear hxb hxi
        go_wp2_with fail
        refine HH.out.mono ?_
        rintro e w1 ⟨rfl, rfl⟩
        go_wp2_with fail
        go_roundw
        case rel => exact ⟨k + 1, M, by go_num, by omega, HN.out, HO.out, HW.out⟩
        case measure => simp [intOf]; omega
    · have HN := Lib.hid (show M = L.filter (fun x => decide (x ∈ L2)) by rw [HM.out, List.take_of_length_le (by omega)])
      go_wp2_with fail
      refine bodyPost_ret (results_tmp rfl _ _ _) rfl ?_
      obtain ⟨a1, c1, hv, hi1⟩ := own_isL HO.out
      rw [← HN.out]
      exact ⟨⟨a1, c1, by rw [← hv]; rfl, hi1⟩, HW.out⟩

set_option maxRecDepth 100000 in
set_option maxHeartbeats 1000000 in
theorem refMinus_any (a a' : Option Addr) (c c' : Nat) (L L2 : List Int) (w : World) (h : IsL w a c L) (h' : IsL w a' c' L2) (hL : L.length ≤ 1000) :
    Calls Tryd.prog 27 #[.slice a L.length c, .slice a' L2.length c'] w fun e w' => OutL w' e (L.filter (fun x => !decide (x ∈ L2))) ∧ Below w.heap.size w w' := by
  have H := Lib.hid h
  have H2 := Lib.hid h'
  have hc := h.1
  have hcm := h.2.1
  have hc2 := h'.1
  have hcm2 := h'.2.1
  clear h h'
  obtain ⟨i0, hi, hz0, hz1, hz2⟩ := info_parts intInfo
  go_enter Tryd.func27, Tryd.ntmps27
  go_wp2_with fail
  go_loopw [5, 6] (fun v q wr => ∃ (k : Nat) (M : List Int), q = .int .i64 (k : Int) ∧ k ≤ L.length ∧ M = (L.take k).filter (fun x => !decide (x ∈ L2)) ∧ wr.ownsRow w.heap.size 3 1 v M.length (M.map (Value.int .i64)) ∧ Below w.heap.size w wr) (fun _ q _ => L.length - (intOf q).toNat)
  case atStart => exact ⟨0, [], rfl, Nat.zero_le _, rfl, World.ownsRow_nil _ _ _ _, Below.refl _ _⟩
  case round =>
    obtain ⟨k, M, rfl, hk, hM, hown, hbw⟩ := hrel
    have HM := Lib.hid hM
    have HO := Lib.hid hown
    have HW := Lib.hid hbw
    have hMl : M.length ≤ k := by rw [hM]; exact filter_len _ _ _
    clear hM hown hbw
    by_cases hlt : k < L.length
    · obtain ⟨b, off, rfl, hcell⟩ := (H.out.next HW.out).at k hlt
      obtain ⟨x, hx⟩ : ∃ x, x = L.getD k 0 := ⟨_, rfl⟩
      rw [← hx] at hcell
      have HX := Lib.hid hx
      clear hx
      have HH := Lib.hid (refHas_any a' c' L2 x wr (H2.out.next HW.out))
      by_cases hxi : x ∈ L2
      · have hxb : (!decide (x ∈ L2)) = false := by simp [hxi]
        have HN := Lib.hid (show M = (L.take (k + 1)).filter (fun x => !decide (x ∈ L2)) by rw [filter_out _ L k hlt (by rw [← HX.out]; exact hxb), ← HM.out])
        rw [decide_eq_true hxi] at HH
        clear hxb hxi
        go_wp2_with fail
        refine HH.out.mono ?_
        rintro e w1 ⟨rfl, rfl⟩
        go_wp2_with fail
        go_roundw
        case rel => exact ⟨k + 1, M, by go_num, by omega, HN.out, HO.out, HW.out⟩
        case measure => simp [intOf]; omega
      · have hxb : (!decide (x ∈ L2)) = true := by simp [hxi]
        have HN := Lib.hid (show M ++ [x] = (L.take (k + 1)).filter (fun x => !decide (x ∈ L2)) by rw [filter_in _ L k hlt (by rw [← HX.out]; exact hxb), ← HM.out, HX.out])
        rw [decide_eq_false hxi] at HH
        clear hxb hxi
        go_wp2_with fail
        refine HH.out.mono ?_
        rintro e w1 ⟨rfl, rfl⟩
        go_wp2_with (at_builtin; refine wpList_append_own _ rfl _ _ 25 rfl w.heap.size 3 i0 (.int .i64 0) 1 8 Tryd.underlying25 hi hz0 hz1 hz2 rfl (by decide) _ M.length (M.map (Value.int .i64)) rfl (HO.out.alloc _) ⟨wr.heap.size, 0, none⟩ 1 1 [.int .i64 x] rfl rfl (cell_one_new _ _ _) (by simp [Value.oneCell']) ?c4 ?c5 ?c6 ?_)
        case c4 => unfold maxLen; omega
        case c5 => omega
        case c6 => have := HW.out.size; simp; omega
        intro v1 w1 hown1 hgrow hne
        have HW1 := Lib.hid (grown_out HW.out HO.out hgrow)
        have HO1 := Lib.hid (own_snoc hown1)
        obtain ⟨g1, cap1, rfl⟩ := ownsRow_succ hown1
        clear hown1 hgrow hne
        go_wp2_with fail
        go_roundw
        case rel => exact ⟨k + 1, M ++ [x], by go_num, by omega, HN.out, HO1.out, HW1.out⟩
        case measure => simp [intOf]; omega
    · have HN := Lib.hid (show M = L.filter (fun x => !decide (x ∈ L2)) by rw [HM.out, List.take_of_length_le (by omega)])
      go_wp2_with fail
      refine bodyPost_ret (results_tmp rfl _ _ _) rfl ?_
      obtain ⟨a1, c1, hv, hi1⟩ := own_isL HO.out
      rw [← HN.out]
      exact ⟨⟨a1, c1, by rw [← hv]; rfl, hi1⟩, HW.out⟩
end Go.Proofs.YtidkakcnhgfpoaaDoor
