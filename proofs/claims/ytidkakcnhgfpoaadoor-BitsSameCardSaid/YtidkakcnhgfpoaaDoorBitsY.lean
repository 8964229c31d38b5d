/- The document's answers at the places of a set, in the set's own words. -/
import Derived.Test.YtidkakcnhgfpoaaDoorBitsX
namespace Go.Proofs.YtidkakcnhgfpoaaDoor
open Go.RowKit Go.Shelf
set_option linter.unusedVariables false

theorem plcI_len (N : Nat) : (plcI N).length ≤ 256 := by
  unfold plcI plc
  rw [List.length_map]
  exact Nat.le_trans (List.length_filter_le _ _) (by simp)
theorem mem_is (N : Nat) (i : Int) : decide (i ∈ plcI N) = hasN N i := by
  unfold hasN
  by_cases h : i ∈ plcI N
  · have := (mem_plcI N i).1 h
    rw [decide_eq_true h, decide_eq_true this.1, this.2]; rfl
  · rw [decide_eq_false h]
    by_cases hp : 0 ≤ i ∧ i < 256
    · cases hb : N.testBit i.toNat
      · rw [Bool.and_false]
      · exact absurd ((mem_plcI N i).2 ⟨hp, hb⟩) h
    · rw [decide_eq_false hp, Bool.false_and]
theorem filter_plc (N M : Nat) (p : Int → Bool) (h : ∀ j, j < 256 → (N.testBit j && p (j : Int)) = M.testBit j) : (plcI N).filter p = plcI M := by
  unfold plcI plc
  rw [List.filter_map, List.filter_filter]
  congr 1
  refine List.filter_congr fun j hj => ?_
  have := h j (List.mem_range.1 hj)
  rw [Bool.and_comm] at this
  exact this
theorem del_plcI (N : Nat) (i : Int) : (plcI N).filter (fun x => x != i) = plcI (delN N i) := by
  refine filter_plc N _ _ fun j hj => ?_
  unfold delN
  rw [less_bit, only_bit]
  by_cases he : (j : Int) = i
  · subst he
    have : decide ((0 : Int) ≤ (j : Int) ∧ (j : Int) < 256) = true := decide_eq_true (by omega)
    rw [this]; simp
  · have h1 : ((j : Int) != i) = true := by simp [he]
    rw [h1, Bool.and_true]
    cases hd : decide (0 ≤ i ∧ i < 256)
    · simp
    · have := of_decide_eq_true hd
      rw [decide_eq_false (show ¬ i.toNat = j by omega)]; simp
theorem and_plcI (N M : Nat) : (plcI N).filter (fun x => decide (x ∈ plcI M)) = plcI (N &&& M) := by
  refine filter_plc N _ _ fun j hj => ?_
  rw [mem_is, Nat.testBit_and]
  unfold hasN
  rw [decide_eq_true (show (0 : Int) ≤ (j : Int) ∧ (j : Int) < 256 by omega), Bool.true_and]; rfl
theorem minus_plcI (N M : Nat) : (plcI N).filter (fun x => !decide (x ∈ plcI M)) = plcI (less N M) := by
  refine filter_plc N _ _ fun j hj => ?_
  rw [mem_is, less_bit]
  unfold hasN
  rw [decide_eq_true (show (0 : Int) ≤ (j : Int) ∧ (j : Int) < 256 by omega), Bool.true_and]; rfl
theorem words_plcI (N : Nat) (hN : fits N) : addAll 0 (plcI N) = N := by rw [addAll_or 0 N hN, Nat.zero_or]
theorem or_plcI (N M : Nat) (hM : fits M) : (plcI M).foldl addL (plcI N) = plcI (N ||| M) := by rw [addAll_plcI M, addAll_or N M hM]
theorem refHasN (N : Nat) (a : Option Addr) (c : Nat) (i : Int) (w : World) (h : IsL w a c (plcI N)) :
    Calls Tryd.prog 10 #[.slice a (plcI N).length c, .int .i64 i] w fun e w' => e = .returned (.bool (hasN N i)) ∧ Below w.heap.size w w' := by
  rw [← mem_is]
  refine (refHas_any a c (plcI N) i w h).mono ?_
  rintro e w' ⟨rfl, rfl⟩
  exact ⟨rfl, Below.refl _ _⟩
theorem refAddN (N : Nat) (a : Option Addr) (c : Nat) (i : Int) (w : World) (h : IsL w a c (plcI N)) :
    Calls Tryd.prog 13 #[.slice a (plcI N).length c, .int .i64 i] w fun e w' => OutL w' e (plcI (addN N i)) ∧ Below w.heap.size w w' := by
  rw [← addL_plcI]
  exact refAdd_any a c (plcI N) i w h (by have := plcI_len N; omega)
theorem refDelN (N : Nat) (a : Option Addr) (c : Nat) (i : Int) (w : World) (h : IsL w a c (plcI N)) :
    Calls Tryd.prog 15 #[.slice a (plcI N).length c, .int .i64 i] w fun e w' => OutL w' e (plcI (delN N i)) ∧ Below w.heap.size w w' := by
  rw [← del_plcI]
  exact refDel_any a c (plcI N) i w h (by have := plcI_len N; omega)
theorem refNextN (N : Nat) (a : Option Addr) (c : Nat) (i : Int) (w : World) (h : IsL w a c (plcI N)) :
    Calls Tryd.prog 18 #[.slice a (plcI N).length c, .int .i64 i] w fun e w' => e = .returned (.int .i64 (nextN N i)) ∧ Below w.heap.size w w' := by
  rw [next_first]
  refine (refNext_any a c (plcI N) i w h).mono ?_
  rintro e w' ⟨rfl, rfl⟩
  exact ⟨rfl, Below.refl _ _⟩
theorem refWordsN (N : Nat) (hN : fits N) (a : Option Addr) (c : Nat) (w : World) (h : IsL w a c (plcI N)) :
    Calls Tryd.prog 12 #[.slice a (plcI N).length c] w fun e w' => e = .returned (sv N) ∧ Below w.heap.size w w' := by
  have hw := refWords_any a c (plcI N) w h (by have := plcI_len N; omega) (fun x hx => ((mem_plcI N x).1 hx).1)
  rw [words_plcI N hN] at hw
  exact hw
theorem refSameN (N : Nat) (a b : Option Addr) (c d : Nat) (w : World) (h : IsL w a c (plcI N)) (h' : IsL w b d (plcI N)) :
    Calls Tryd.prog 19 #[.slice a (plcI N).length c, .slice b (plcI N).length d] w fun e w' => e = .returned (.bool true) ∧ Below w.heap.size w w' := by
  have hs := refSame_any a b c d (plcI N) (plcI N) w h h'
  rw [decide_eq_true rfl] at hs
  exact hs
theorem refAndN (N M : Nat) (a b : Option Addr) (c d : Nat) (w : World) (h : IsL w a c (plcI N)) (h' : IsL w b d (plcI M)) :
    Calls Tryd.prog 23 #[.slice a (plcI N).length c, .slice b (plcI M).length d] w fun e w' => OutL w' e (plcI (N &&& M)) ∧ Below w.heap.size w w' := by
  rw [← and_plcI]
  exact refAnd_any a b c d (plcI N) (plcI M) w h h' (by have := plcI_len N; omega)
theorem refMinusN (N M : Nat) (a b : Option Addr) (c d : Nat) (w : World) (h : IsL w a c (plcI N)) (h' : IsL w b d (plcI M)) :
    Calls Tryd.prog 27 #[.slice a (plcI N).length c, .slice b (plcI M).length d] w fun e w' => OutL w' e (plcI (less N M)) ∧ Below w.heap.size w w' := by
  rw [← minus_plcI]
  exact refMinus_any a b c d (plcI N) (plcI M) w h h' (by have := plcI_len N; omega)
theorem refOrN (N M : Nat) (hM : fits M) (a b : Option Addr) (c d : Nat) (w : World) (h : IsL w a c (plcI N)) (h' : IsL w b d (plcI M)) :
    Calls Tryd.prog 25 #[.slice a (plcI N).length c, .slice b (plcI M).length d] w fun e w' => OutL w' e (plcI (N ||| M)) ∧ Below w.heap.size w w' := by
  rw [← or_plcI N M hM]
  exact refOr_any a b c d (plcI N) (plcI M) w h h' (by have := plcI_len N; have := plcI_len M; omega)
theorem lenN (N : Nat) (w : World) : Calls Tryd.prog 16 #[sv N] w fun e w' => e = .returned (.int .i64 ((plcI N).length : Int)) ∧ Below w.heap.size w w' := by
  have h := len_any N w
  have e : (plcI N).length = (plc N).length := by unfold plcI; rw [List.length_map]
  rw [e]; exact h
end Go.Proofs.YtidkakcnhgfpoaaDoor
