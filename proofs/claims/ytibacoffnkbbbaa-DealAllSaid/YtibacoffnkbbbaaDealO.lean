/- The draws by which an order can be told: pure. No program. -/
import Derived.Test.YtibacoffnkbbbaaDealN
namespace Go.Proofs.Ytibacoffnkbbbaa
open Go.RowKit
set_option linter.unusedVariables false

/-- Above the place that is reached nothing changes any more. -/
theorem permAt_above (ds : List Int) : ∀ (i u : Nat) (M : List Int) (k : Nat), i < M.length ∨ i = 0 → i < k → (permAt ds i u M).1.getD k 0 = M.getD k 0
  | 0, u, M, k, _, _ => rfl
  | i + 1, u, M, k, hi, hk => by
    have hlt := leftN_lt (ds.getD u 0) (show 0 < i + 2 by omega)
    rw [permAt_step, permAt_above ds i _ _ k (.inl (by rw [swp_len]; omega)) (by omega), swp_at M _ _ k (by omega) (by omega), if_neg (by omega), if_neg (by omega)]
/-- What the place i has at the end is what the place has that changes with it. -/
theorem permAt_here (ds : List Int) (i u : Nat) (M : List Int) (h1 : 1 ≤ i) (hi : i < M.length) : (permAt ds i u M).1.getD i 0 = M.getD (leftN (ds.getD u 0) (i + 1)) 0 := by
  have hlt := leftN_lt (ds.getD u 0) (show 0 < i + 1 by omega)
  rw [permAt_down ds i u M h1, permAt_above ds (i - 1) _ _ i (.inl (by rw [swp_len]; omega)) (by omega), swp_at M i _ i hi (by omega)]
  by_cases h : leftN (ds.getD u 0) (i + 1) = i
  · rw [if_pos h, h]
  · rw [if_neg h, if_pos rfl]
/-- Two rows of draws of which the same is left, as far as they are drawn, make the same. -/
theorem permAt_same (A B : List Int) (hl : A.length = B.length) : ∀ (i u : Nat) (M : List Int), u + i ≤ A.length → (∀ q, q < i → leftN (A.getD (u + q) 0) (i + 1 - q) = leftN (B.getD (u + q) 0) (i + 1 - q)) → permAt A i u M = permAt B i u M
  | 0, u, M, _, _ => rfl
  | i + 1, u, M, hu, h => by
    have h0 := h 0 (by omega)
    rw [Nat.add_zero, Nat.sub_zero] at h0
    rw [permAt_step, permAt_step, h0, show nxt A u = u + 1 by unfold nxt; rw [if_pos (by omega)], show nxt B u = u + 1 by unfold nxt; rw [if_pos (by omega)]]
    refine permAt_same A B hl i (u + 1) _ (by omega) (fun q hq => ?_)
    have := h (q + 1) (by omega)
    rw [show u + (q + 1) = u + 1 + q by omega, show i + 1 + 1 - (q + 1) = i + 1 - q by omega] at this
    exact this
/-- T tells of n places the changes down to place i, by which they are N now. -/
structure Told (n i : Nat) (T N : List Int) : Prop where
  len : T.length = n - 1 - i
  low : ∀ q, q < T.length → 0 ≤ T.getD q 0 ∧ T.getD q 0 < ((n - q : Nat) : Int)
  isP : isP N n = true
  now : ∀ E, permAt (T ++ E) (n - 1) 0 (places n) = permAt (T ++ E) i (n - 1 - i) N
theorem Told.start (n : Nat) (hn : 1 ≤ n) : Told n (n - 1) [] (places n) :=
  ⟨by simp, fun q hq => by simp at hq, places_isP n, fun E => by rw [Nat.sub_self]⟩
theorem getD_app (T E : List Int) (k : Int) : (T ++ [k] ++ E).getD T.length 0 = k := by
  rw [List.getD_eq_getElem?_getD, List.append_assoc, List.getElem?_append_right (Nat.le_refl _), Nat.sub_self]; rfl
theorem getD_app_left (T : List Int) (k : Int) (q : Nat) (hq : q < T.length) : (T ++ [k]).getD q 0 = T.getD q 0 := by
  rw [List.getD_eq_getElem?_getD, List.getElem?_append_left hq, List.getD_eq_getElem?_getD]
theorem getD_app_last (T : List Int) (k : Int) : (T ++ [k]).getD T.length 0 = k := by
  have := getD_app T [] k
  rwa [List.append_nil] at this
theorem Told.step {n i : Nat} {T N : List Int} (h : Told n i T N) (h1 : 1 ≤ i) (hi : i < n) (k : Nat) (hk : k ≤ i) : Told n (i - 1) (T ++ [(k : Int)]) (swp N i k) := by
  have hl := isP_len h.isP
  have hT := h.len
  refine ⟨by rw [List.length_append, hT]; show _ + 1 = _; omega, fun q hq => ?_, by rw [swp_isP N i k n (by omega) (by omega)]; exact h.isP, fun E => ?_⟩
  · rw [List.length_append] at hq
    have hq' : q < T.length + 1 := hq
    by_cases hqt : q = T.length
    · subst hqt
      rw [getD_app_last]
      omega
    · rw [getD_app_left T _ q (by omega)]
      exact h.low q (by omega)
  · have := h.now ([(k : Int)] ++ E)
    rw [← List.append_assoc] at this
    rw [this, permAt_down _ i _ _ h1]
    have hg : (T ++ [(k : Int)] ++ E).getD (n - 1 - i) 0 = (k : Int) := by rw [← hT]; exact getD_app T E k
    rw [hg, leftN_self k (by omega), show nxt (T ++ [(k : Int)] ++ E) (n - 1 - i) = n - 1 - (i - 1) by
      unfold nxt
      rw [if_pos (by rw [List.length_append, List.length_append, hT]; show _ < _ + 1 + _; omega)]
      omega]
theorem Told.done {n : Nat} {T N : List Int} (h : Told n 0 T N) : (permN n T).1 = N := by
  have := h.now []
  rw [List.append_nil] at this
  unfold permN
  rw [this]; rfl
/-- Each draw a whole round less, or two, or three. -/
def roundOf (n : Nat) (T : List Int) (q : Nat) : Int := T.getD q 0 - ((n : Int) - (q : Int)) * (1 + (q : Int).tmod 3)
def rounds (n : Nat) (T : List Int) (k : Nat) : List Int := (List.range k).map (roundOf n T)
theorem rounds_len (n : Nat) (T : List Int) (k : Nat) : (rounds n T k).length = k := by unfold rounds; simp
theorem rounds_succ' (n : Nat) (T : List Int) (k : Nat) : rounds n T (k + 1) = rounds n T k ++ [roundOf n T k] := by
  unfold rounds; rw [List.range_succ, List.map_append]; rfl
theorem rounds_at (n : Nat) (T : List Int) (k q : Nat) (hq : q < k) : (rounds n T k).getD q 0 = roundOf n T q := by
  rw [getD_in _ q (by rw [rounds_len]; exact hq)]; unfold rounds; simp
theorem leftN_roundOf {n : Nat} {T : List Int} (q : Nat) (hq : q < n) (h : 0 ≤ T.getD q 0 ∧ T.getD q 0 < ((n - q : Nat) : Int)) : leftN (roundOf n T q) (n - q) = leftN (T.getD q 0) (n - q) := by
  obtain ⟨k, hk⟩ : ∃ k : Nat, T.getD q 0 = (k : Int) := ⟨(T.getD q 0).toNat, by omega⟩
  obtain ⟨c, hc⟩ : ∃ c : Nat, 1 + (q : Int).tmod 3 = (c : Int) := ⟨1 + q % 3, by
    have : (q : Int).tmod 3 = ((q % 3 : Nat) : Int) := by rw [Int.tmod_eq_emod_of_nonneg (by omega)]; omega
    rw [this]; omega⟩
  unfold roundOf
  rw [hc, show (n : Int) - (q : Int) = ((n - q : Nat) : Int) by omega, hk]
  rw [hk] at h
  rw [leftN_round k c (by omega), leftN_self k (by omega)]
theorem Told.round {n : Nat} {T N : List Int} (h : Told n 0 T N) (hn : 1 ≤ n) : (permN n (rounds n T T.length)).1 = N := by
  rw [← h.done]
  have hT := h.len
  unfold permN
  rw [permAt_same (rounds n T T.length) T (rounds_len _ _ _) (n - 1) 0 _ (by rw [rounds_len]; omega) (fun q hq => by
    rw [Nat.zero_add, rounds_at n T _ q (by omega), show n - 1 + 1 - q = n - q by omega]
    exact leftN_roundOf q (by omega) (h.low q (by omega)))]
end Go.Proofs.Ytibacoffnkbbbaa
