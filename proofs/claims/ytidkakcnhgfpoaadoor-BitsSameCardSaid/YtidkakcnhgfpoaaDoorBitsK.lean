/- The document's Add and Or. -/
import Derived.Test.YtidkakcnhgfpoaaDoorBitsJ
namespace Go.Proofs.YtidkakcnhgfpoaaDoor
open Go.RowKit
set_option linter.unusedVariables false

theorem refPlace_any (i : Int) (w : World) : Calls Tryd.prog 31 #[.int .i64 i] w fun e w' => e = .returned (.bool (decide (0 ≤ i ∧ i < 256))) ∧ w = w' := by
  by_cases h0 : 0 ≤ i
  · by_cases h1 : i < 256
    all_goals
      go_enter Tryd.func31, Tryd.ntmps31
      go_wp2
      go_ret
      exact ⟨by simp [h0, h1], rfl⟩
  · go_enter Tryd.func31, Tryd.ntmps31
    go_wp2
    go_ret
    exact ⟨by simp; omega, rfl⟩
theorem drop_step (L : List Int) (k : Nat) (hk : k < L.length) : L.drop k = L.getD k 0 :: L.drop (k + 1) := by
  rw [List.drop_eq_getElem_cons hk, List.getD_eq_getElem?_getD, List.getElem?_eq_getElem hk]; rfl
/-- What the loop has made when k numbers are over. -/
def AddSt (i : Int) (L : List Int) (b : Bool) (k : Nat) (M : List Int) : Prop :=
  M.length ≤ k + 1 ∧ (b = true → M ++ L.drop k = insI i L) ∧ (b = false → M = L.take k ∧ ∀ x ∈ L.take k, ¬ i < x)
theorem AddSt.zero (i : Int) (L : List Int) : AddSt i L false 0 [] := ⟨by simp, fun h => (by cases h), fun _ => ⟨rfl, by simp⟩⟩
theorem AddSt.kept {i : Int} {L : List Int} {k : Nat} {M : List Int} (h : AddSt i L false k M) (hk : k < L.length) (hx : ¬ i < L.getD k 0) : AddSt i L false (k + 1) (M ++ [L.getD k 0]) := by
  obtain ⟨h1, h2, h3⟩ := h
  obtain ⟨h4, h5⟩ := h3 rfl
  refine ⟨by simp; omega, fun h => (by cases h), fun _ => ⟨by rw [take_step L k hk, h4], ?_⟩⟩
  rw [take_step L k hk]
  intro x hm
  rcases List.mem_append.1 hm with h | h
  · exact h5 x h
  · rw [List.mem_singleton.1 h]; exact hx
theorem AddSt.here {i : Int} {L : List Int} {k : Nat} {M : List Int} (h : AddSt i L false k M) (hk : k < L.length) (hx : i < L.getD k 0) : AddSt i L true (k + 1) (M ++ [i] ++ [L.getD k 0]) := by
  obtain ⟨h1, h2, h3⟩ := h
  obtain ⟨h4, h5⟩ := h3 rfl
  have hl : M.length = k := by rw [h4, List.length_take]; omega
  refine ⟨by simp; omega, fun _ => ?_, fun h => by cases h⟩
  have e : insI i L = insI i (L.take k ++ L.drop k) := by rw [List.take_append_drop]
  rw [e, insI_app i _ _ h5, drop_step L k hk, ← h4]
  unfold insI
  rw [if_pos hx]
  simp
theorem AddSt.past {i : Int} {L : List Int} {k : Nat} {M : List Int} (h : AddSt i L true k M) (hk : k < L.length) (hM : M.length ≤ k + 1) : AddSt i L true (k + 1) (M ++ [L.getD k 0]) := by
  obtain ⟨h1, h2, h3⟩ := h
  refine ⟨by simp; omega, fun _ => ?_, fun h => by cases h⟩
  rw [← h2 rfl, drop_step L k hk]; simp
theorem AddSt.end_true {i : Int} {L : List Int} {k : Nat} {M : List Int} (h : AddSt i L true k M) (hk : L.length ≤ k) : M = insI i L := by
  have := h.2.1 rfl
  rw [List.drop_eq_nil_of_le hk, List.append_nil] at this
  exact this
theorem AddSt.end_false {i : Int} {L : List Int} {k : Nat} {M : List Int} (h : AddSt i L false k M) (hk : L.length ≤ k) : M ++ [i] = insI i L := by
  obtain ⟨h4, h5⟩ := h.2.2 rfl
  rw [List.take_of_length_le hk] at h4 h5
  have := insI_app i [] L h5
  rw [List.append_nil] at this
  rw [this, h4]; rfl
set_option maxRecDepth 100000 in
set_option maxHeartbeats 2000000 in
theorem refAdd_in (a : Option Addr) (c : Nat) (L : List Int) (i : Int) (w : World) (h : IsL w a c L) (hL : L.length ≤ 1000) (hp : 0 ≤ i ∧ i < 256) (hm : i ∉ L) :
    Calls Tryd.prog 13 #[.slice a L.length c, .int .i64 i] w fun e w' => OutL w' e (insI i L) ∧ Below w.heap.size w w' := by
  have H := Lib.hid h
  have hc := h.1
  have hcm := h.2.1
  have HP := Lib.hid (refPlace_any i)
  have HH := Lib.hid (refHas_any a c L i)
  rw [decide_eq_true hp] at HP
  rw [decide_eq_false hm] at HH
  clear h hp hm
  obtain ⟨i0, hi, hz0, hz1, hz2⟩ := info_parts intInfo
  go_enter Tryd.func13, Tryd.ntmps13
  go_wp2_with fail
  refine (HP.out _).mono ?_
  rintro e w1 ⟨rfl, rfl⟩
  go_wp2_with fail
  refine (HH.out _ H.out).mono ?_
  rintro e w1 ⟨rfl, rfl⟩
  go_wp2_with fail
  go_loopw [5, 6, 7] (fun v dn q wr => ∃ (k : Nat) (M : List Int) (b : Bool), q = .int .i64 (k : Int) ∧ dn = .bool b ∧ k ≤ L.length ∧ AddSt i L b k M ∧ wr.ownsRow w.heap.size 3 1 v M.length (M.map (Value.int .i64)) ∧ Below w.heap.size w wr) (fun _ _ q _ => L.length - (intOf q).toNat)
  case atStart => exact ⟨0, [], false, rfl, rfl, Nat.zero_le _, AddSt.zero i L, World.ownsRow_nil _ _ _ _, Below.refl _ _⟩
  case round =>
    obtain ⟨k, M, b, rfl, rfl, hk, hst, hown, hbw⟩ := hrel
    have HS := Lib.hid hst
    have HO := Lib.hid hown
    have HW := Lib.hid hbw
    have hMl : M.length ≤ k + 1 := hst.1
    clear hst hown hbw
    by_cases hlt : k < L.length
    · obtain ⟨b1, off, rfl, hcell⟩ := (H.out.next HW.out).at k hlt
      obtain ⟨x, hx⟩ : ∃ x, x = L.getD k 0 := ⟨_, rfl⟩
      rw [← hx] at hcell
      have HX := Lib.hid hx
      clear hx
      cases b
      · by_cases hxi : i < x
        · have HN := Lib.hid (show AddSt i L true (k + 1) (M ++ [i] ++ [x]) by rw [HX.out]; exact HS.out.here hlt (by rw [← HX.out]; exact hxi))
          go_wp2_with (at_builtin; refine wpList_append_own _ rfl _ _ 25 rfl w.heap.size 3 i0 (.int .i64 0) 1 8 Tryd.underlying25 hi hz0 hz1 hz2 rfl (by decide) _ M.length (M.map (Value.int .i64)) rfl (HO.out.alloc _) ⟨wr.heap.size, 0, none⟩ 1 1 [.int .i64 i] rfl rfl (cell_one_new _ _ _) (by simp [Value.oneCell']) (by unfold maxLen; omega) (by omega) (by have := HW.out.size; simp; omega) ?_)
          intro v1 w1 hown1 hgrow hne
          have HW1 := Lib.hid (grown_out HW.out HO.out hgrow)
          have HO1 := Lib.hid (own_snoc hown1)
          have hcell1 : w1.cell? ⟨b1, off + k, none⟩ = some (.int .i64 x) := by
            obtain ⟨b2, off2, e2, hc2⟩ := (H.out.next HW1.out).at k hlt
            cases e2
            rw [hc2, ← HX.out]
          obtain ⟨g1, cap1, rfl⟩ := ownsRow_succ hown1
          clear hown1 hgrow hne
          have hl1 : (M ++ [i]).length = M.length + 1 := by simp
          rw [hl1] at HO1
          generalize M ++ [i] = M1 at *
          go_wp2_with (at_builtin; refine wpList_append_own _ rfl _ _ 25 rfl w.heap.size 3 i0 (.int .i64 0) 1 8 Tryd.underlying25 hi hz0 hz1 hz2 rfl (by decide) _ (M.length + 1) (M1.map (Value.int .i64)) rfl (HO1.out.alloc _) ⟨w1.heap.size, 0, none⟩ 1 1 [.int .i64 x] rfl rfl (cell_one_new _ _ _) (by simp [Value.oneCell']) (by unfold maxLen; omega) (by omega) (by have := HW1.out.size; simp; omega) ?_)
          intro v2 w2 hown2 hgrow hne
          have HW2 := Lib.hid (grown_out HW1.out HO1.out hgrow)
          rw [← hl1] at hown2
          have HO2 := Lib.hid (own_snoc hown2)
          obtain ⟨g2, cap2, rfl⟩ := ownsRow_succ hown2
          clear hown2 hgrow hne
          go_wp2_with fail
          go_roundw
          case rel => exact ⟨k + 1, M1 ++ [x], true, by go_num, rfl, by omega, HN.out, HO2.out, HW2.out⟩
          case measure => simp [intOf]; omega
        · have HN := Lib.hid (show AddSt i L false (k + 1) (M ++ [x]) by rw [HX.out]; exact HS.out.kept hlt (by rw [← HX.out]; exact hxi))
          go_wp2_with (at_builtin; refine wpList_append_own _ rfl _ _ 25 rfl w.heap.size 3 i0 (.int .i64 0) 1 8 Tryd.underlying25 hi hz0 hz1 hz2 rfl (by decide) _ M.length (M.map (Value.int .i64)) rfl (HO.out.alloc _) ⟨wr.heap.size, 0, none⟩ 1 1 [.int .i64 x] rfl rfl (cell_one_new _ _ _) (by simp [Value.oneCell']) (by unfold maxLen; omega) (by omega) (by have := HW.out.size; simp; omega) ?_)
          intro v1 w1 hown1 hgrow hne
          have HW1 := Lib.hid (grown_out HW.out HO.out hgrow)
          have HO1 := Lib.hid (own_snoc hown1)
          obtain ⟨g1, cap1, rfl⟩ := ownsRow_succ hown1
          clear hown1 hgrow hne
          go_wp2_with fail
          go_roundw
          case rel => exact ⟨k + 1, M ++ [x], false, by go_num, rfl, by omega, HN.out, HO1.out, HW1.out⟩
          case measure => simp [intOf]; omega
      · have HN := Lib.hid (show AddSt i L true (k + 1) (M ++ [x]) by rw [HX.out]; exact HS.out.past hlt hMl)
        go_wp2_with (at_builtin; refine wpList_append_own _ rfl _ _ 25 rfl w.heap.size 3 i0 (.int .i64 0) 1 8 Tryd.underlying25 hi hz0 hz1 hz2 rfl (by decide) _ M.length (M.map (Value.int .i64)) rfl (HO.out.alloc _) ⟨wr.heap.size, 0, none⟩ 1 1 [.int .i64 x] rfl rfl (cell_one_new _ _ _) (by simp [Value.oneCell']) (by unfold maxLen; omega) (by omega) (by have := HW.out.size; simp; omega) ?_)
        intro v1 w1 hown1 hgrow hne
        have HW1 := Lib.hid (grown_out HW.out HO.out hgrow)
        have HO1 := Lib.hid (own_snoc hown1)
        obtain ⟨g1, cap1, rfl⟩ := ownsRow_succ hown1
        clear hown1 hgrow hne
        go_wp2_with fail
        go_roundw
        case rel => exact ⟨k + 1, M ++ [x], true, by go_num, rfl, by omega, HN.out, HO1.out, HW1.out⟩
        case measure => simp [intOf]; omega
    · cases b
      · have HN := Lib.hid (HS.out.end_false (by omega))
        go_wp2_with (at_builtin; refine wpList_append_own _ rfl _ _ 25 rfl w.heap.size 3 i0 (.int .i64 0) 1 8 Tryd.underlying25 hi hz0 hz1 hz2 rfl (by decide) _ M.length (M.map (Value.int .i64)) rfl (HO.out.alloc _) ⟨wr.heap.size, 0, none⟩ 1 1 [.int .i64 i] rfl rfl (cell_one_new _ _ _) (by simp [Value.oneCell']) (by unfold maxLen; omega) (by omega) (by have := HW.out.size; simp; omega) ?_)
        intro v1 w1 hown1 hgrow hne
        have HW1 := Lib.hid (grown_out HW.out HO.out hgrow)
        have HO1 := Lib.hid (own_snoc hown1)
        obtain ⟨g1, cap1, rfl⟩ := ownsRow_succ hown1
        clear hown1 hgrow hne
        go_wp2_with fail
        refine bodyPost_ret (results_tmp rfl _ _ _) rfl ?_
        obtain ⟨a1, c1, hv, hi1⟩ := own_isL HO1.out
        rw [← HN.out]
        exact ⟨⟨a1, c1, by rw [← hv]; rfl, hi1⟩, HW1.out⟩
      · have HN := Lib.hid (HS.out.end_true (by omega))
        go_wp2_with fail
        refine bodyPost_ret (results_tmp rfl _ _ _) rfl ?_
        obtain ⟨a1, c1, hv, hi1⟩ := own_isL HO.out
        rw [← HN.out]
        exact ⟨⟨a1, c1, by rw [← hv]; rfl, hi1⟩, HW.out⟩
theorem refAdd_out (a : Option Addr) (c : Nat) (L : List Int) (i : Int) (w : World) (h : IsL w a c L) (hn : ¬ ((0 ≤ i ∧ i < 256) ∧ i ∉ L)) :
    Calls Tryd.prog 13 #[.slice a L.length c, .int .i64 i] w fun e w' => OutL w' e L ∧ Below w.heap.size w w' := by
  have H := Lib.hid h
  have HP := Lib.hid (refPlace_any i)
  have HH := Lib.hid (refHas_any a c L i)
  by_cases hp : 0 ≤ i ∧ i < 256
  · have hm : i ∈ L := by
      by_cases hm : i ∈ L
      · exact hm
      · exact absurd ⟨hp, hm⟩ hn
    rw [decide_eq_true hp] at HP
    rw [decide_eq_true hm] at HH
    clear h hp hm hn
    go_enter Tryd.func13, Tryd.ntmps13
    go_wp2_with fail
    refine (HP.out _).mono ?_
    rintro e w1 ⟨rfl, rfl⟩
    go_wp2_with fail
    refine (HH.out _ H.out).mono ?_
    rintro e w1 ⟨rfl, rfl⟩
    go_wp2_with fail
    refine bodyPost_ret (results_tmp rfl _ _ _) rfl ?_
    exact ⟨⟨a, c, rfl, H.out⟩, Below.refl _ _⟩
  · rw [decide_eq_false hp] at HP
    clear h hp hn
    go_enter Tryd.func13, Tryd.ntmps13
    go_wp2_with fail
    refine (HP.out _).mono ?_
    rintro e w1 ⟨rfl, rfl⟩
    go_wp2_with fail
    refine bodyPost_ret (results_tmp rfl _ _ _) rfl ?_
    exact ⟨⟨a, c, rfl, H.out⟩, Below.refl _ _⟩
theorem refAdd_any (a : Option Addr) (c : Nat) (L : List Int) (i : Int) (w : World) (h : IsL w a c L) (hL : L.length ≤ 1000) :
    Calls Tryd.prog 13 #[.slice a L.length c, .int .i64 i] w fun e w' => OutL w' e (addL L i) ∧ Below w.heap.size w w' := by
  unfold addL
  by_cases hn : (0 ≤ i ∧ i < 256) ∧ i ∉ L
  · rw [if_pos hn]; exact refAdd_in a c L i w h hL hn.1 hn.2
  · rw [if_neg hn]; exact refAdd_out a c L i w h hn
theorem foldl_step (L : List Int) (N : List Int) (k : Nat) (hk : k < L.length) : (L.take (k + 1)).foldl addL N = addL ((L.take k).foldl addL N) (L.getD k 0) := by
  rw [take_step L k hk, List.foldl_append]; rfl
theorem foldl_len (N : List Int) : ∀ L : List Int, (L.foldl addL N).length ≤ N.length + L.length := by
  intro L
  induction L generalizing N with
  | nil => simp
  | cons x r ih =>
    have h1 := ih (addL N x)
    have h2 := addL_len N x
    simp only [List.foldl_cons, List.length_cons]; omega
set_option maxRecDepth 100000 in
set_option maxHeartbeats 2000000 in
theorem refOr_any (a a' : Option Addr) (c c' : Nat) (L L2 : List Int) (w : World) (h : IsL w a c L) (h' : IsL w a' c' L2) (hL : L.length + L2.length ≤ 1000) :
    Calls Tryd.prog 25 #[.slice a L.length c, .slice a' L2.length c'] w fun e w' => OutL w' e (L2.foldl addL L) ∧ Below w.heap.size w w' := by
  have H := Lib.hid h
  have H2 := Lib.hid h'
  have hc := h.1
  have hcm := h.2.1
  have hc2 := h'.1
  have hcm2 := h'.2.1
  clear h h'
  go_enter Tryd.func25, Tryd.ntmps25
  go_wp2_with fail
  go_loopw [0, 5] (fun v q wr => ∃ (k : Nat) (M : List Int) (a1 : Option Addr) (c1 : Nat), q = .int .i64 (k : Int) ∧ v = .slice a1 M.length c1 ∧ k ≤ L2.length ∧ M = (L2.take k).foldl addL L ∧ IsL wr a1 c1 M ∧ Below w.heap.size w wr) (fun _ q _ => L2.length - (intOf q).toNat)
  case atStart => exact ⟨0, L, a, c, rfl, rfl, Nat.zero_le _, rfl, H.out, Below.refl _ _⟩
  case round =>
    obtain ⟨k, M, a1, c1, rfl, rfl, hk, hM, hI, hbw⟩ := hrel
    have HM := Lib.hid hM
    have HI := Lib.hid hI
    have HW := Lib.hid hbw
    have hMl : M.length ≤ L.length + L2.length := by
      rw [hM]
      have := foldl_len L (L2.take k)
      have := List.length_take_le k L2
      omega
    clear hM hI hbw
    by_cases hlt : k < L2.length
    · obtain ⟨b1, off, rfl, hcell⟩ := (H2.out.next HW.out).at k hlt
      obtain ⟨x, hx⟩ : ∃ x, x = L2.getD k 0 := ⟨_, rfl⟩
      rw [← hx] at hcell
      have HN := Lib.hid (show addL M x = (L2.take (k + 1)).foldl addL L by rw [foldl_step L2 L k hlt, ← HM.out, hx])
      clear hx
      go_wp2_with fail
      refine (refAdd_any a1 c1 M x wr HI.out (by omega)).mono ?_
      rintro e w1 ⟨⟨a2, c2, rfl, hi2⟩, bw⟩
      have HI2 := Lib.hid hi2
      have HW2 := Lib.hid (below_then' HW.out bw HW.out.size)
      clear hi2 bw
      go_wp2_with fail
      go_roundw
      case rel => exact ⟨k + 1, addL M x, a2, c2, by go_num, rfl, by omega, HN.out, HI2.out, HW2.out⟩
      case measure => simp [intOf]; omega
    · have HN := Lib.hid (show M = L2.foldl addL L by rw [HM.out, List.take_of_length_le (by omega)])
      go_wp2_with fail
      refine bodyPost_ret (results_tmp rfl _ _ _) rfl ?_
      rw [← HN.out]
      exact ⟨⟨a1, c1, rfl, HI.out⟩, HW.out⟩
end Go.Proofs.YtidkakcnhgfpoaaDoor
