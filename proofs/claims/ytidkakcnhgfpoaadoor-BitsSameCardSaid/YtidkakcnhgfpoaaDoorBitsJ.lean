/- The document's Add, Or: one number laid where it belongs in a rising list. -/
import Derived.Test.YtidkakcnhgfpoaaDoorBitsI
namespace Go.Proofs.YtidkakcnhgfpoaaDoor
open Go.RowKit
set_option linter.unusedVariables false

/-- i ahead of the first that is greater. -/
def insI (i : Int) : List Int → List Int
  | [] => [i]
  | x :: r => if i < x then i :: x :: r else x :: insI i r
theorem insI_app (i : Int) (B : List Int) : ∀ A : List Int, (∀ x ∈ A, ¬ i < x) → insI i (A ++ B) = A ++ insI i B
  | [], _ => rfl
  | x :: r, h => by
    have hx := h x (by simp)
    have ih := insI_app i B r (fun y hy => h y (by simp [hy]))
    show (if i < x then i :: x :: (r ++ B) else x :: insI i (r ++ B)) = x :: (r ++ insI i B)
    rw [if_neg hx, ih]
theorem insI_gt (i : Int) (B : List Int) (h : ∀ x ∈ B, i < x) : insI i B = i :: B := by
  cases B with
  | nil => rfl
  | cons x r => unfold insI; rw [if_pos (h x (by simp))]
theorem insI_len (i : Int) : ∀ L : List Int, (insI i L).length = L.length + 1
  | [] => rfl
  | x :: r => by
    unfold insI
    split
    · simp
    · simp [insI_len i r]
def addL (L : List Int) (i : Int) : List Int := if (0 ≤ i ∧ i < 256) ∧ i ∉ L then insI i L else L
theorem addL_len (L : List Int) (i : Int) : (addL L i).length ≤ L.length + 1 := by
  unfold addL
  split
  · rw [insI_len]; omega
  · omega
theorem range_split (i m : Nat) : List.range (i + (1 + m)) = List.range i ++ i :: (List.range m).map (fun j => i + (1 + j)) := by
  rw [List.range_add, List.range_add, List.map_append, List.map_map]
  simp [List.range_succ]
theorem mem_plcI (N : Nat) (j : Int) : j ∈ plcI N ↔ (0 ≤ j ∧ j < 256) ∧ N.testBit j.toNat = true := by
  unfold plcI plc
  rw [List.mem_map]
  constructor
  · rintro ⟨n, hn, rfl⟩
    rw [List.mem_filter, List.mem_range] at hn
    exact ⟨⟨by show (0 : Int) ≤ (n : Int); omega, by show (n : Int) < 256; omega⟩, hn.2⟩
  · rintro ⟨⟨h0, h1⟩, h2⟩
    exact ⟨j.toNat, by rw [List.mem_filter, List.mem_range]; exact ⟨by omega, h2⟩, by show ((j.toNat : Nat) : Int) = j; omega⟩
theorem addL_plcI (N : Nat) (i : Int) : addL (plcI N) i = plcI (addN N i) := by
  unfold addL
  by_cases hp : 0 ≤ i ∧ i < 256
  · obtain ⟨n, rfl⟩ : ∃ n : Nat, i = (n : Int) := ⟨i.toNat, by omega⟩
    by_cases hm : (n : Int) ∈ plcI N
    · rw [if_neg (fun h => h.2 hm)]
      have hb := ((mem_plcI N n).1 hm).2
      congr 1
      apply Nat.eq_of_testBit_eq; intro j
      unfold addN
      rw [Nat.testBit_or, only_bit]
      by_cases hj : (n : Int).toNat = j
      · rw [← hj, hb]; rfl
      · rw [decide_eq_false hj, Bool.and_false, Bool.or_false]
    · rw [if_pos ⟨hp, hm⟩]
      have hb : N.testBit n = false := by
        cases h : N.testBit n
        · rfl
        · exact absurd ((mem_plcI N n).2 ⟨hp, h⟩) hm
      have hat : ∀ j, (addN N (n : Int)).testBit j = (N.testBit j || decide (n = j)) := by
        intro j
        unfold addN
        rw [Nat.testBit_or, only_bit, decide_eq_true hp]; rfl
      have hsp : List.range 256 = List.range n ++ n :: (List.range (255 - n)).map (fun j => n + (1 + j)) := by
        rw [← range_split]; congr 1; omega
      unfold plcI plc
      rw [hsp, List.filter_append, List.filter_append, List.filter_cons, List.filter_cons, hb, hat n]
      simp only [decide_true, Bool.or_true, if_true, Bool.false_eq_true, if_false, List.map_append, List.map_cons]
      have h1 : (List.range n).filter (addN N (n : Int)).testBit = (List.range n).filter N.testBit := List.filter_congr fun j hj => by
        rw [hat, decide_eq_false (by have := List.mem_range.1 hj; omega), Bool.or_false]
      have h2 : ((List.range (255 - n)).map (fun j => n + (1 + j))).filter (addN N (n : Int)).testBit = ((List.range (255 - n)).map (fun j => n + (1 + j))).filter N.testBit := List.filter_congr fun j hj => by
        obtain ⟨k, _, rfl⟩ := List.mem_map.1 hj
        rw [hat, decide_eq_false (by omega), Bool.or_false]
      rw [h1, h2, insI_app, insI_gt]
      · rfl
      · intro x hx
        obtain ⟨y, hy, rfl⟩ := List.mem_map.1 hx
        obtain ⟨k, _, rfl⟩ := List.mem_map.1 (List.mem_filter.1 hy).1
        simp only [Int.ofNat_eq_natCast]; omega
      · intro x hx
        obtain ⟨y, hy, rfl⟩ := List.mem_map.1 hx
        have := List.mem_range.1 (List.mem_filter.1 hy).1
        simp only [Int.ofNat_eq_natCast]; omega
  · rw [if_neg (fun h => hp h.1)]
    unfold addN onlyN
    rw [if_neg hp, Nat.or_zero]
def addAll (N : Nat) (L : List Int) : Nat := L.foldl addN N
theorem addAll_plcI (M : Nat) : ∀ (L : List Int) (N : Nat), L.foldl addL (plcI N) = plcI (addAll N L)
  | [], N => rfl
  | x :: r, N => by
    show r.foldl addL (addL (plcI N) x) = plcI (addAll (addN N x) r)
    rw [addL_plcI]
    exact addAll_plcI M r _
theorem addAll_bit : ∀ (L : List Int) (N j : Nat), (addAll N L).testBit j = (N.testBit j || decide ((j : Int) ∈ L ∧ j < 256))
  | [], N, j => by simp [addAll]
  | x :: r, N, j => by
    show (addAll (addN N x) r).testBit j = _
    rw [addAll_bit r]
    unfold addN
    rw [Nat.testBit_or, only_bit]
    by_cases h : j < 256
    · by_cases hx : (j : Int) = x
      · subst hx
        simp [h]; omega
      · have h1 : (decide (0 ≤ x ∧ x < 256) && decide (x.toNat = j)) = false := by
          cases hd : decide (0 ≤ x ∧ x < 256)
          · rfl
          · have := of_decide_eq_true hd
            rw [decide_eq_false (by omega)]; rfl
        rw [h1]
        simp [h, hx]
    · have h1 : (decide (0 ≤ x ∧ x < 256) && decide (x.toNat = j)) = false := by
        cases hd : decide (0 ≤ x ∧ x < 256)
        · rfl
        · have := of_decide_eq_true hd
          rw [decide_eq_false (by omega)]; rfl
      rw [h1]
      simp [h]
theorem fits_addAll : ∀ (L : List Int) (N : Nat), fits N → fits (addAll N L)
  | [], N, h => h
  | x :: r, N, h => fits_addAll r _ (fits_add h x)
theorem addAll_or (N M : Nat) (hM : fits M) : addAll N (plcI M) = N ||| M := by
  apply Nat.eq_of_testBit_eq; intro j
  rw [addAll_bit, Nat.testBit_or]
  congr 1
  by_cases h : j < 256
  · cases hb : M.testBit j
    · exact decide_eq_false (fun hm => by have := ((mem_plcI M j).1 hm.1).2; simp at this; rw [hb] at this; cases this)
    · exact decide_eq_true ⟨(mem_plcI M j).2 ⟨by omega, by simpa using hb⟩, h⟩
  · rw [fits_bit hM (by omega)]; simp [h]
theorem plc_plcI_eq {N M : Nat} (hN : fits N) (hM : fits M) (h : plcI N = plcI M) : N = M := by
  apply Nat.eq_of_testBit_eq; intro j
  by_cases hj : j < 256
  · have h1 := mem_plcI N j
    have h2 := mem_plcI M j
    rw [h] at h1
    have : N.testBit j = true ↔ M.testBit j = true := by
      constructor
      · intro hb
        have := (h2.1 (h1.2 ⟨by omega, by simpa using hb⟩)).2
        simpa using this
      · intro hb
        have := (h1.1 (h2.2 ⟨by omega, by simpa using hb⟩)).2
        simpa using this
    cases hn : N.testBit j <;> cases hm : M.testBit j <;> simp_all
  · rw [fits_bit hN (by omega), fits_bit hM (by omega)]
end Go.Proofs.YtidkakcnhgfpoaaDoor
