/- BitsSame: the walk. -/
import Derived.Test.YtidkakcnhgfpoaaDoorBitsSameA
import Derived.Test.YtidkakcnhgfpoaaDoorBitsSameB
import Derived.Test.YtidkakcnhgfpoaaDoorBitsSameC
import Derived.Deep.RegionWith
namespace Go.Proofs.YtidkakcnhgfpoaaDoor
open Go.RowKit Go.Shelf
set_option linter.unusedVariables false
set_option maxRecDepth 100000

/-- The two sets have the same places below k. -/
def agree (S T k : Nat) : Bool := (List.range k).all fun j => hasN S (j : Int) == hasN T (j : Int)
theorem agree_next (S T k : Nat) : agree S T (k + 1) = (agree S T k && (hasN S (k : Int) == hasN T (k : Int))) := by
  unfold agree
  rw [List.range_succ, List.all_append]
  simp
theorem agree_end (S T : Nat) (hS : fits S) (hT : fits T) : agree S T 256 = decide (S = T) := by
  by_cases e : S = T
  · subst e
    simp [agree]
  · rw [decide_eq_false e]
    cases h : agree S T 256 with
    | false => rfl
    | true =>
      exfalso
      apply e
      apply Nat.eq_of_testBit_eq
      intro j
      by_cases hj : j < 256
      · unfold agree at h
        rw [List.all_eq_true] at h
        have h1 := h j (List.mem_range.2 hj)
        unfold hasN at h1
        rw [decide_eq_true (show 0 ≤ (j : Int) ∧ (j : Int) < 256 by omega), Bool.true_and, Bool.true_and] at h1
        simpa using h1
      · rw [fits_bit hS (by omega), fits_bit hT (by omega)]
theorem drop_at (L : List Int) (k : Nat) (h : k < L.length) : L.drop k = L.getD k 0 :: L.drop (k + 1) := by
  rw [List.drop_eq_getElem_cons h]
  simp [List.getD, h]
set_option maxHeartbeats 8000000 in
theorem same_any (a0 a1 : Option Addr) (c0 c1 : Nat) (L0 L1 : List Int) (w : World) (f0 : IsL w a0 c0 L0) (f1 : IsL w a1 c1 L1) (hT : TabAt 0 Lib.deBruijn64tab w) (hw : 0 < w.heap.size) :
    Calls Tryd.prog 5 #[.slice a0 L0.length c0, .slice a1 L1.length c1] w fun e w' => e = .returned (.bool true) ∧ Below w.heap.size w w' := by
  have HT := Lib.hid hT
  have HWK := Lib.hid (works_any w hT hw)
  clear hT
  have F0 := Lib.hid f0
  have F1 := Lib.hid f1
  have HL0 := Lib.hid (show (L0.take 300).length ≤ c0 ∧ (L0.take 300).length ≤ 300 by have := f0.1; rw [List.length_take]; omega)
  have HL1 := Lib.hid (show (L1.take 300).length ≤ c1 ∧ (L1.take 300).length ≤ 300 by have := f1.1; rw [List.length_take]; omega)
  have HfS := Lib.hid (show fits (addAll 0 (L0.take 300)) from fits_addAll _ _ (by unfold fits; decide))
  have HfT := Lib.hid (show fits (addAll 0 (L1.take 300)) from fits_addAll _ _ (by unfold fits; decide))
  clear f0 f1
  go_enter Tryd.func5, Tryd.ntmps5
  go_wp2_with fail
  refine HWK.out.mono ?_
  rintro e w1 ⟨rfl, b1⟩
  go_wp2_with fail
  rename_i K2 hK2
  obtain ⟨t, ht⟩ : ∃ t : Nat → Value, t = fun s => (#[.slice a0 L0.length c0, .slice a1 L1.length c1, undef, undef, .bool false, undef, undef, undef, undef, undef, undef, undef, .bool true, .bool false, undef, undef, undef, undef, undef, undef, undef, undef, undef, undef, undef, undef, undef, undef, undef, undef, undef, undef, undef, undef, undef, undef, undef, undef, undef, undef, undef, undef, undef, undef, undef, undef, undef, undef, undef, undef, undef, undef, undef, undef, undef, undef, undef, undef, undef, undef, undef, undef, undef, undef, undef, undef, undef, undef, undef, undef, undef, undef, undef, undef, undef, undef, undef, undef, undef, undef, undef] : Array Value).getD s undef := ⟨_, rfl⟩
  refine sa_region (t := t) ⟨by rw [ht]; rfl, by rw [ht]; rfl, F0.out, F1.out, HL0.out.1, HL1.out.1, HL0.out.2, HL1.out.2⟩ HT.out hw rfl rfl ⟨b1, b1.size⟩ (fun s => by rw [ht]) ?_
  intro a W b5 b6 hsz hdf hfx e5 e6 hI
  obtain ⟨tm, df⟩ := a
  have HI := Lib.hid hI
  obtain ⟨v, hv⟩ : ∃ v : Nat → Value, ∀ s, tm.getD s undef = v s := ⟨_, fun _ => rfl⟩
  have e := slots_free tm 81 hsz saFree t v hfx hv
  rw [hv] at e5 e6
  have hdf' : df = [] := hdf
  clear hfx hv hsz hI hdf b1 F0 F1 HL0 HL1 HWK
  subst ht
  have e2 : tm = #[.slice a0 L0.length c0, .slice a1 L1.length c1, undef, undef, .bool false, v 5, v 6, undef, undef, undef, undef, undef, .bool true, .bool false, v 14, v 15, v 16, v 17, v 18, v 19, v 20, v 21, v 22, v 23, v 24, v 25, undef, undef, undef, undef, undef, undef, undef, undef, undef, undef, undef, undef, undef, undef, undef, undef, undef, undef, undef, undef, undef, undef, undef, undef, undef, undef, undef, undef, undef, undef, undef, undef, undef, undef, undef, undef, undef, undef, undef, undef, undef, undef, undef, undef, undef, undef, undef, undef, undef, undef, undef, undef, undef, undef, undef] := e.trans (by kernel_rfl)
  rw [e5, e6] at e2
  subst e2 hdf'
  clear e
  generalize addAll 0 (L0.take 300) = S at *
  generalize addAll 0 (L1.take 300) = T at *
  refine hK2 _ _ ?_
  go_wp2_with fail
  have HHS := Lib.hid (has_any S)
  have HHT := Lib.hid (has_any T)
  go_loopw [7, 8] (fun s q wr => ∃ k : Nat, q = .int .i64 (k : Int) ∧ k ≤ 256 ∧ s = .bool (agree S T k) ∧ Inv2 w b5 b6 S T wr) (fun _ q _ => 256 - (intOf q).toNat)
  case atStart => exact ⟨0, rfl, by omega, rfl, HI.out⟩
  case round =>
    clear HI
    obtain ⟨k, rfl, hk, rfl, hI⟩ := hrel
    have HI := Lib.hid hI
    have c5 := hI.1.cells
    have c6 := hI.2.1.cells
    clear hI
    by_cases hlt : k < 256
    · have HN := Lib.hid (agree_next S T k)
      generalize agree S T k = g at *
      cases g
      · go_wp2_with fail
        go_region
        all_goals go_wp2_with fail
        all_goals exact ⟨⟨k + 1, int_eq (by omega), by omega, by rw [HN.out, Bool.false_and], HI.out.drew⟩, by simp [intOf]; omega⟩
      · go_wp2_with fail
        rename_i K3 hK3
        obtain ⟨t, ht⟩ : ∃ t : Nat → Value, t = fun s => (#[.slice a0 L0.length c0, .slice a1 L1.length c1, undef, undef, .bool false, .pointer (some ⟨b5, 0, none⟩), .pointer (some ⟨b6, 0, none⟩), .bool true, .int .i64 (k : Int), undef, undef, undef, .bool true, .bool false, v 14, v 15, v 16, v 17, v 18, v 19, v 20, v 21, v 22, v 23, v 24, v 25, .int .i64 (k : Int), .bool (decide ((k : Int) < 256)), u28, u29, u30, u31, u32, u33, u34, u35, u36, u37, u38, u39, undef, undef, undef, undef, undef, undef, undef, undef, undef, undef, undef, undef, undef, undef, undef, undef, undef, undef, undef, undef, undef, undef, undef, undef, undef, undef, undef, undef, undef, undef, undef, undef, undef, undef, undef, undef, undef, undef, undef, undef, undef] : Array Value).getD s undef := ⟨_, rfl⟩
        have HD := Lib.hid HI.out.drew
        have HR := Lib.hid (show sbRows S T b5 b6 k w t from ⟨by rw [ht]; rfl, by rw [ht]; rfl, by rw [ht]; rfl, by rw [ht]; rfl⟩)
        refine region_last (m := 10) (ops := sbOps) (n := 81) (tab := sbTab S T b5 b6 k w t) (base := sbBase S T b5 b6 k w t) (H := fun W => Inv2 w b5 b6 S T W) (by kernel_rfl) (earlier_of (by kernel_rfl)) sbSize (fun j hj => (List.all_eq_true.1 (show ((List.range 10).all fun j => depOn sbOps 10 j) = true by kernel_rfl)) j (List.mem_range.2 hj)) ?start (fun l a w' i h hi hd => sbStep HR.out l a w' i h hi hd) ?last
        case start =>
          refine At.begins rfl rfl HD.out fun s v hs => ?_
          unfold sbBase at hs
          split at hs
          · cases hs; rw [ht]
          · cases hs
        case last =>
          intro l a w' h hall
          obtain ⟨o, ho⟩ : ∃ o, sbOps[10]? = some o := Option.isSome_iff_exists.1 (by kernel_rfl)
          have hop : o.op = Op.assign (Operand.tmp 39) := op_of ho (by kernel_rfl)
          have hg : o.guard = none := guard_of ho (by kernel_rfl)
          have hdst : o.dst = some 7 := by have : (sbOps[10]?).bind (·.dst) = some 7 := by kernel_rfl
                                           rw [ho] at this; simpa using this
          have v39 : a.eval (.tmp 39) = .bool (hasN S (k : Int) == hasN T (k : Int)) := h.done 9 39 (hall 9 (by omega)) (by kernel_rfl)
          refine wpOp_value ho hg (v := .bool (hasN S (k : Int) == hasN T (k : Int))) (w' := w') (by simp only [execOp, hop, v39]; kernel_rfl) ?_
          rw [hdst]
          obtain ⟨tm, df⟩ := a
          have hdf : df = [] := h.defers
          have hsz : tm.size = 81 := h.tmps
          have hfx : ∀ s, sbFree.contains s = true → tm.getD s undef = t s := fun s hs => h.fixed s (t s) (by unfold sbBase; rw [if_pos hs])
          have HJ := Lib.hid h.hold
          clear h hall v39
          obtain ⟨v2, hv2⟩ : ∃ v2 : Nat → Value, ∀ s, tm.getD s undef = v2 s := ⟨_, fun _ => rfl⟩
          have e := slots_free tm 81 hsz sbFree t v2 hfx hv2
          clear hfx hv2 hsz HR
          subst ht
          have e2 : tm = #[.slice a0 L0.length c0, .slice a1 L1.length c1, undef, undef, .bool false, .pointer (some ⟨b5, 0, none⟩), .pointer (some ⟨b6, 0, none⟩), .bool true, .int .i64 (k : Int), undef, undef, undef, .bool true, .bool false, v 14, v 15, v 16, v 17, v 18, v 19, v 20, v 21, v 22, v 23, v 24, v 25, .int .i64 (k : Int), .bool (decide ((k : Int) < 256)), u28, u29, v2 30, v2 31, v2 32, v2 33, v2 34, v2 35, v2 36, v2 37, v2 38, v2 39, undef, undef, undef, undef, undef, undef, undef, undef, undef, undef, undef, undef, undef, undef, undef, undef, undef, undef, undef, undef, undef, undef, undef, undef, undef, undef, undef, undef, undef, undef, undef, undef, undef, undef, undef, undef, undef, undef, undef, undef, undef] := e.trans (by kernel_rfl)
          subst e2 hdf
          clear e
          generalize hx : (hasN S (k : Int) == hasN T (k : Int)) = x at *
          have e3 : (Act.put ⟨#[.slice a0 L0.length c0, .slice a1 L1.length c1, undef, undef, .bool false, .pointer (some ⟨b5, 0, none⟩), .pointer (some ⟨b6, 0, none⟩), .bool true, .int .i64 (k : Int), undef, undef, undef, .bool true, .bool false, v 14, v 15, v 16, v 17, v 18, v 19, v 20, v 21, v 22, v 23, v 24, v 25, .int .i64 (k : Int), .bool (decide ((k : Int) < 256)), u28, u29, v2 30, v2 31, v2 32, v2 33, v2 34, v2 35, v2 36, v2 37, v2 38, v2 39, undef, undef, undef, undef, undef, undef, undef, undef, undef, undef, undef, undef, undef, undef, undef, undef, undef, undef, undef, undef, undef, undef, undef, undef, undef, undef, undef, undef, undef, undef, undef, undef, undef, undef, undef, undef, undef, undef, undef, undef, undef], []⟩ (some 7) (.bool x)) = ⟨#[.slice a0 L0.length c0, .slice a1 L1.length c1, undef, undef, .bool false, .pointer (some ⟨b5, 0, none⟩), .pointer (some ⟨b6, 0, none⟩), .bool x, .int .i64 (k : Int), undef, undef, undef, .bool true, .bool false, v 14, v 15, v 16, v 17, v 18, v 19, v 20, v 21, v 22, v 23, v 24, v 25, .int .i64 (k : Int), .bool (decide ((k : Int) < 256)), u28, u29, v2 30, v2 31, v2 32, v2 33, v2 34, v2 35, v2 36, v2 37, v2 38, v2 39, undef, undef, undef, undef, undef, undef, undef, undef, undef, undef, undef, undef, undef, undef, undef, undef, undef, undef, undef, undef, undef, undef, undef, undef, undef, undef, undef, undef, undef, undef, undef, undef, undef, undef, undef, undef, undef, undef, undef, undef, undef], []⟩ := by kernel_rfl
          rw [e3]
          clear e3
          refine hK3 _ _ ?_
          go_wp2_with fail
          exact ⟨⟨k + 1, int_eq (by omega), by omega, by rw [HN.out, Bool.true_and], HJ.out⟩, by simp [intOf]; omega⟩
    · obtain rfl : k = 256 := by omega
      rw [agree_end S T HfS.out HfT.out]
      go_wp2_with fail
      rename_i K3 hK3
      obtain ⟨t, ht⟩ : ∃ t : Nat → Value, t = fun s => (#[.slice a0 L0.length c0, .slice a1 L1.length c1, undef, undef, .bool false, .pointer (some ⟨b5, 0, none⟩), .pointer (some ⟨b6, 0, none⟩), .bool (decide (S = T)), .int .i64 ((256 : Nat) : Int), undef, undef, undef, .bool true, .bool false, v 14, v 15, v 16, v 17, v 18, v 19, v 20, v 21, v 22, v 23, v 24, v 25, .int .i64 ((256 : Nat) : Int), .bool false, u28, u29, u30, u31, u32, u33, u34, u35, u36, u37, u38, u39, undef, undef, undef, undef, undef, undef, undef, undef, undef, undef, undef, undef, undef, undef, undef, undef, undef, undef, undef, undef, undef, undef, undef, undef, undef, undef, undef, undef, undef, undef, undef, undef, undef, undef, undef, undef, undef, undef, undef, undef, undef] : Array Value).getD s undef := ⟨_, rfl⟩
      have HD := Lib.hid HI.out.drew
      have HR := Lib.hid (show scRows S T b5 b6 w t from ⟨by rw [ht]; rfl, by rw [ht]; rfl, by rw [ht]; rfl, HfS.out, HfT.out⟩)
      clear HI c5 c6 HHS HHT
      refine region_inv (ops := scOps) (n := 81) (tab := scTab S T b5 b6 w t) (base := scBase S T b5 b6 w t) (H := fun W => Inv2 w b5 b6 S T W) (by kernel_rfl) (earlier_of (by kernel_rfl)) ?start (fun l a w' i h hi hd => scStep HR.out l a w' i h hi hd) ?fin
      case start =>
        refine At.begins rfl rfl HD.out fun s v hs => ?_
        unfold scBase at hs
        split at hs
        · cases hs; rw [ht]
        · cases hs
      case fin =>
        intro l a w' h hall
        obtain ⟨tm, df⟩ := a
        have h52 : tm.getD 52 undef = .bool false := h.done 12 52 (hall 12 (by rw [scSize]; omega)) (by kernel_rfl)
        have hdf : df = [] := h.defers
        have hsz : tm.size = 81 := h.tmps
        have hfx : ∀ s, scFree.contains s = true → tm.getD s undef = t s := fun s hs => h.fixed s (t s) (by unfold scBase; rw [if_pos hs])
        have HJ := Lib.hid h.hold
        clear h hall
        obtain ⟨v2, hv2⟩ : ∃ v2 : Nat → Value, ∀ s, tm.getD s undef = v2 s := ⟨_, fun _ => rfl⟩
        have e := slots_free tm 81 hsz scFree t v2 hfx hv2
        rw [hv2] at h52
        clear hfx hv2 hsz HR
        subst ht
        have e2 : tm = #[.slice a0 L0.length c0, .slice a1 L1.length c1, undef, undef, .bool false, .pointer (some ⟨b5, 0, none⟩), .pointer (some ⟨b6, 0, none⟩), .bool (decide (S = T)), .int .i64 ((256 : Nat) : Int), undef, undef, undef, .bool true, .bool false, v 14, v 15, v 16, v 17, v 18, v 19, v 20, v 21, v 22, v 23, v 24, v 25, .int .i64 ((256 : Nat) : Int), .bool false, u28, u29, u30, u31, u32, u33, u34, u35, u36, u37, u38, u39, v2 40, v2 41, v2 42, v2 43, v2 44, v2 45, v2 46, v2 47, v2 48, v2 49, v2 50, v2 51, v2 52, undef, undef, undef, undef, undef, undef, undef, undef, undef, undef, undef, undef, undef, undef, undef, undef, undef, undef, undef, undef, undef, undef, undef, undef, undef, undef, undef, undef] := e.trans (by kernel_rfl)
        rw [h52] at e2
        subst e2 hdf
        clear e
        refine hK3 _ _ ?_
        have c5 := HJ.out.1.cells
        go_wp2_with (first | (go_at_call 20; refine (all_any S _ HJ.out.2.2.1 HJ.out.2.2.2.1).mono ?_; rintro e w2 ⟨⟨a9, c9, rfl, i9⟩, b9⟩; have HJ2 := Lib.hid (HJ.out.next b9); have d5 := HJ2.out.1.cells) | (go_at_call 17; refine (next_any S 0 (by decide) _ HJ2.out.2.2.1 HJ2.out.2.2.2.1).mono ?_; rintro e w3 ⟨rfl, b10⟩; have HJ3 := Lib.hid (HJ2.out.next b10)))
        have HI9 := Lib.hid (show Inv2 w b5 b6 S T w3 ∧ IsL w3 a9 c9 (plcI S) from ⟨HJ3.out, i9.next b10⟩)
        have HL := Lib.hid (plcI_len S)
        clear HJ HJ2 HJ3 i9 b9 b10 c5 d5 HD
        go_loopw [10, 11] (fun x q wr => ∃ k : Nat, q = .int .i64 (k : Int) ∧ k ≤ (plcI S).length ∧ x = .int .i64 (hd ((plcI S).drop k)) ∧ Inv2 w b5 b6 S T wr ∧ IsL wr a9 c9 (plcI S)) (fun _ q _ => (plcI S).length - (intOf q).toNat)
        case atStart => exact ⟨0, rfl, by omega, by rw [first_zero]; rfl, HI9.out.1, HI9.out.2⟩
        case round =>
          clear HI9
          obtain ⟨k, rfl, hk, rfl, hI, hL⟩ := hrel
          have HI := Lib.hid hI
          have HLL := Lib.hid hL
          have hlen := HL.out
          have c5 := hI.1.cells
          clear hI hL
          by_cases hlt : k < (plcI S).length
          · obtain ⟨bb, off, rfl, hcell⟩ := HLL.out.at k hlt
            have hsplit := drop_at (plcI S) k hlt
            obtain ⟨x, hx⟩ : ∃ x, x = (plcI S).getD k 0 := ⟨_, rfl⟩
            rw [← hx] at hcell hsplit
            have hm := (mem_plcI S x).1 (by rw [hx]; exact mem_getD (plcI S) k hlt)
            have hx0 := hm.1.1
            have hx1 := hm.1.2
            have HH := Lib.hid (show hasN S x = true by unfold hasN; rw [decide_eq_true hm.1, hm.2]; rfl)
            have HN := Lib.hid (next_behind S ((plcI S).take k) ((plcI S).drop (k + 1)) x (by rw [← hsplit, List.take_append_drop]))
            rw [hsplit, show hd (x :: (plcI S).drop (k + 1)) = x from rfl]
            clear hm hx hsplit
            generalize hy : hd ((plcI S).drop (k + 1)) = y at *
            go_wp2_with (first | (go_at_call 9; refine (has_is S x true HH.out _).mono ?_; rintro e w4 ⟨rfl, b4⟩; have HI4 := Lib.hid (HI.out.next b4); have d5 := HI4.out.1.cells) | (go_at_call 17; refine (nextI S (x + 1) y (by omega) HN.out _ HI4.out.2.2.1 HI4.out.2.2.2.1).mono ?_; rintro e w5 ⟨rfl, b5'⟩))
            exact ⟨⟨k + 1, int_eq (by omega), by omega, by rw [hy], HI4.out.next b5', (HLL.out.next b4).next b5'⟩, by simp [intOf]; omega⟩
          · rw [show (plcI S).drop k = [] from List.drop_eq_nil_of_le (by omega), show hd [] = -1 from rfl]
            go_wp2_with fail
            refine bodyPost_ret (results_tmp rfl _ _ _) rfl ?_
            exact ⟨rfl, HI.out.2.2.2.2.2⟩
end Go.Proofs.YtidkakcnhgfpoaaDoor
