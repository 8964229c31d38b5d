/- What Perm makes is a permutation; a permutation turned back by where each went. No program. -/
import Derived.Test.YtibacoffnkbbbaaDealL
namespace Go.Proofs.Ytibacoffnkbbbaa
open Go.RowKit
set_option linter.unusedVariables false

theorem swp_count (M : List Int) (i j : Nat) (hi : i < M.length) (hj : j < M.length) (x : Int) : (swp M i j).count x = M.count x := by
  unfold swp
  rw [getD_in M j hj, getD_in M i hi]
  exact (List.set_set_perm hi hj).count_eq x
theorem swp_isP (M : List Int) (i j n : Nat) (hi : i < M.length) (hj : j < M.length) : isP (swp M i j) n = isP M n := by
  unfold isP
  rw [swp_len]
  congr 2
  apply propext
  exact ⟨fun h k hk => by rw [← swp_count M i j hi hj]; exact h k hk, fun h k hk => by rw [swp_count M i j hi hj]; exact h k hk⟩
theorem places_count (n i : Nat) (hi : i < n) : (places n).count (i : Int) = 1 := by
  induction n with
  | zero => omega
  | succ n ih =>
    rw [places_succ, List.count_append, List.count_singleton]
    by_cases h : i = n
    · subst h
      rw [if_pos (by simp), List.count_eq_zero.2 (fun hm => by simp [places] at hm; obtain ⟨a, h1, h2⟩ := hm; omega)]
    · rw [if_neg (by simp; omega), ih (by omega)]
theorem places_isP (n : Nat) : isP (places n) n = true := isP_yes (places_len n) fun i hi => places_count n i hi
theorem permAt_isP (ds : List Int) (n : Nat) : ∀ (i u : Nat) (M : List Int), i < M.length ∨ i = 0 → isP M n = true → isP (permAt ds i u M).1 n = true
  | 0, u, M, _, h => h
  | i + 1, u, M, hi, h => by
    unfold permAt
    have hlt := leftN_lt (ds.getD u 0) (show 0 < i + 2 by omega)
    refine permAt_isP ds n i _ _ (.inl (by rw [swp_len]; omega)) ?_
    rw [swp_isP M _ _ n (by omega) (by omega)]
    exact h
theorem permN_isP (n : Nat) (ds : List Int) : isP (permN n ds).1 n = true := by
  unfold permN
  exact permAt_isP ds n _ _ _ (by rw [places_len]; omega) (places_isP n)
theorem isP_count {P : List Int} {n : Nat} (h : isP P n = true) (i : Nat) (hi : i < n) : P.count (i : Int) = 1 := by
  unfold isP at h
  rw [Bool.and_eq_true] at h
  exact of_decide_eq_true h.2 i hi
theorem isP_mem {P : List Int} {n : Nat} (h : isP P n = true) (i : Nat) (hi : i < n) : ∃ j, j < n ∧ P.getD j 0 = (i : Int) := by
  have hm : (i : Int) ∈ P := List.count_pos_iff.1 (by rw [isP_count h i hi]; decide)
  obtain ⟨j, hj, e⟩ := List.getElem_of_mem hm
  exact ⟨j, by rw [← isP_len h]; exact hj, by rw [getD_in P j hj]; exact e⟩
theorem isP_nodup {P : List Int} {n : Nat} (h : isP P n = true) : P.Nodup := by
  rw [List.nodup_iff_count]
  intro x
  by_cases hx : x ∈ P
  · have hr := isP_range h x hx
    obtain ⟨i, rfl⟩ : ∃ i : Nat, x = (i : Int) := ⟨x.toNat, by omega⟩
    rw [isP_count h i (by omega)]
    exact Nat.le_refl _
  · rw [List.count_eq_zero.2 hx]; exact Nat.zero_le _
theorem nodup_inj {P : List Int} (h : P.Nodup) (i j : Nat) (hi : i < P.length) (hj : j < P.length) (e : P.getD i 0 = P.getD j 0) : i = j := by
  rw [getD_in P i hi, getD_in P j hj] at e
  have hp := List.pairwise_iff_getElem.1 h
  rcases Nat.lt_trichotomy i j with hij | hij | hij
  · exact absurd e (hp i j hi hj hij)
  · exact hij
  · exact absurd e.symm (hp j i hj hi hij)
theorem inj_nodup (P : List Int) (h : ∀ i j, i < P.length → j < P.length → P.getD i 0 = P.getD j 0 → i = j) : P.Nodup := by
  unfold List.Nodup
  rw [List.pairwise_iff_getElem]
  intro i j hi hj hij e
  have := h i j hi hj (by rw [getD_in P i hi, getD_in P j hj]; exact e)
  omega
/-- A list of n that are all below n, none twice, is a permutation. -/
theorem isP_of (P : List Int) (n : Nat) (hl : P.length = n) (hr : ∀ i, i < n → 0 ≤ P.getD i 0 ∧ P.getD i 0 < (n : Int)) (h : ∀ i j, i < n → j < n → P.getD i 0 = P.getD j 0 → i = j) : isP P n = true := by
  have hnd := inj_nodup P (fun i j hi hj => h i j (by omega) (by omega))
  have hall : ∀ x ∈ P, 0 ≤ x ∧ x < (n : Int) := by
    intro x hx
    obtain ⟨j, hj, e⟩ := List.getElem_of_mem hx
    have := hr j (by omega)
    rw [getD_in P j hj, e] at this
    exact this
  refine isP_yes hl ((csum_small P n (fun i _ => List.nodup_iff_count.1 hnd i)).2 ?_)
  rw [← inr_csum, inr_all P n hall, hl]
/-- B tells where each of the first k of P stands. -/
def Back (P B : List Int) (k : Nat) : Prop := ∀ j, j < k → B.getD (P.getD j 0).toNat 0 = (j : Int)
theorem Back.step {P B : List Int} {n k : Nat} (hP : isP P n = true) (hB : B.length = n) (hk : k < n) (h : Back P B k) : Back P (B.set (P.getD k 0).toNat (k : Int)) (k + 1) := by
  intro j hj
  have hl := isP_len hP
  have rk := isP_at hP k hk
  have rj := isP_at hP j (by omega)
  rw [getD_set B _ _ _ (by omega)]
  by_cases hjk : j = k
  · subst hjk; rw [if_pos rfl]
  · rw [if_neg, h j (by omega)]
    intro e
    exact hjk (nodup_inj (isP_nodup hP) j k (by omega) (by omega) (by omega))
theorem Back.isP {P B : List Int} {n : Nat} (hP : isP P n = true) (hB : B.length = n) (h : Back P B n) : isP B n = true := by
  have at_ : ∀ i, i < n → ∃ j, j < n ∧ P.getD j 0 = (i : Int) ∧ B.getD i 0 = (j : Int) := by
    intro i hi
    obtain ⟨j, hj, e⟩ := isP_mem hP i hi
    have := h j hj
    rw [e] at this
    exact ⟨j, hj, e, by simpa using this⟩
  refine isP_of B n hB (fun i hi => ?_) (fun i i' hi hi' e => ?_)
  · obtain ⟨j, hj, _, e⟩ := at_ i hi
    rw [e]; omega
  · obtain ⟨j, hj, e1, e2⟩ := at_ i hi
    obtain ⟨j', hj', e1', e2'⟩ := at_ i' hi'
    have : j = j' := by omega
    subst this
    omega
theorem Back.turned {L P B : List Int} {n : Nat} (hL : L.length = n) (hP : Go.Proofs.Ytibacoffnkbbbaa.isP P n = true) (hB : B.length = n) (h : Back P B n) : turnI (turnL L P) B = L := by
  have hpl := isP_len hP
  unfold turnI
  rw [turnL_len, hpl, if_pos (h.isP hP hB)]
  apply list_eq
  · rw [turnL_len, hB, hL]
  · intro i hi
    rw [turnL_len, hB] at hi
    rw [turnL_at _ B i (by omega)]
    obtain ⟨j, hj, e⟩ := isP_mem hP i hi
    have hb := h j hj
    rw [e] at hb
    have hb' : B.getD i 0 = (j : Int) := by simpa using hb
    rw [hb']
    show (turnL L P).getD j 0 = _
    rw [turnL_at L P j (by omega), e]
    rfl
theorem turnI_isP {L P : List Int} {n : Nat} (hL : L.length = n) (hP : isP P n = true) : turnI L P = turnL L P := by
  unfold turnI; rw [hL, if_pos hP]
theorem turnI_not {L P : List Int} (x : Int) (hx : x ∈ P) (h : ¬ (0 ≤ x ∧ x < (L.length : Int))) : turnI L P = [] := by
  unfold turnI; rw [isP_out P _ x hx h]; rfl
end Go.Proofs.Ytibacoffnkbbbaa
