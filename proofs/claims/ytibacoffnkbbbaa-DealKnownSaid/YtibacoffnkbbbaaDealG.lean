/- Is a list a permutation of n places: counted place by place; and by a set of what is there. No program. -/
import Derived.Test.YtibacoffnkbbbaaDealF
namespace Go.Proofs.Ytibacoffnkbbbaa
open Go.RowKit Go.Maps
set_option linter.unusedVariables false

/-- Each place from 0 to n - 1 once, and nothing else. -/
def isP (P : List Int) (n : Nat) : Bool := decide (P.length = n) && decide (∀ i : Nat, i < n → P.count (i : Int) = 1)
/-- How many are places below n. -/
def inr (P : List Int) (n : Nat) : Nat := (P.filter (fun x => decide (0 ≤ x ∧ x < (n : Int)))).length
def csum (P : List Int) : Nat → Nat
  | 0 => 0
  | n + 1 => csum P n + P.count (n : Int)
theorem inr_zero (P : List Int) : inr P 0 = 0 := by
  unfold inr
  rw [List.filter_eq_nil_iff.2 (fun x _ => by simp)]; rfl
theorem inr_step (n : Nat) : ∀ P : List Int, inr P (n + 1) = inr P n + P.count (n : Int)
  | [] => rfl
  | x :: P => by
    have ih := inr_step n P
    unfold inr at ih ⊢
    rw [List.filter_cons, List.filter_cons, List.count_cons]
    by_cases h : x = (n : Int)
    · subst h
      rw [if_pos (by simp; omega), if_neg (by simp), List.length_cons, ih]
      simp; omega
    · by_cases h2 : 0 ≤ x ∧ x < (n : Int)
      · rw [if_pos (by simp; omega), if_pos (by simpa using h2), List.length_cons, List.length_cons, ih, if_neg (by simpa using h)]
        omega
      · rw [if_neg (by simp; omega), if_neg (by simpa using h2), ih, if_neg (by simpa using h)]
        omega
theorem inr_csum (P : List Int) : ∀ n, inr P n = csum P n
  | 0 => inr_zero P
  | n + 1 => by rw [inr_step, inr_csum P n]; rfl
theorem inr_le (P : List Int) (n : Nat) : inr P n ≤ P.length := List.length_filter_le _ _
theorem inr_all (P : List Int) (n : Nat) (h : ∀ x ∈ P, 0 ≤ x ∧ x < (n : Int)) : inr P n = P.length := by
  unfold inr
  rw [List.filter_eq_self.2 (fun x hx => by simpa using h x hx)]
theorem all_inr (P : List Int) (n : Nat) (h : inr P n = P.length) : ∀ x ∈ P, 0 ≤ x ∧ x < (n : Int) := by
  intro x hx
  have := List.length_filter_eq_length_iff.1 h x hx
  simpa using this
theorem csum_ones (P : List Int) : ∀ n : Nat, (∀ i : Nat, i < n → P.count (i : Int) = 1) → csum P n = n
  | 0, _ => rfl
  | n + 1, h => by
    show csum P n + _ = _
    rw [csum_ones P n (fun i hi => h i (by omega)), h n (by omega)]
theorem csum_small (P : List Int) : ∀ n : Nat, (∀ i : Nat, i < n → P.count (i : Int) ≤ 1) → csum P n ≤ n ∧ (csum P n = n → ∀ i : Nat, i < n → P.count (i : Int) = 1)
  | 0, _ => ⟨Nat.le_refl _, fun _ i hi => by omega⟩
  | n + 1, h => by
    have ih := csum_small P n (fun i hi => h i (by omega))
    have hn := h n (by omega)
    constructor
    · show csum P n + _ ≤ _; omega
    · intro he i hi
      have he' : csum P n + P.count (n : Int) = n + 1 := he
      by_cases hin : i = n
      · subst hin; omega
      · exact ih.2 (by omega) i (by omega)
theorem csum_great (P : List Int) : ∀ n : Nat, (∀ i : Nat, i < n → 1 ≤ P.count (i : Int)) → n ≤ csum P n ∧ (csum P n = n → ∀ i : Nat, i < n → P.count (i : Int) = 1)
  | 0, _ => ⟨Nat.le_refl _, fun _ i hi => by omega⟩
  | n + 1, h => by
    have ih := csum_great P n (fun i hi => h i (by omega))
    have hn := h n (by omega)
    constructor
    · show _ ≤ csum P n + _; omega
    · intro he i hi
      have he' : csum P n + P.count (n : Int) = n + 1 := he
      by_cases hin : i = n
      · subst hin; omega
      · exact ih.2 (by omega) i (by omega)
/-- Each that is there, once, as it comes first. -/
def addI (acc : List Int) (x : Int) : List Int := if acc.contains x then acc else acc ++ [x]
def onceI (P : List Int) : List Int := P.foldl addI []
theorem addI_nodup (acc : List Int) (x : Int) (h : acc.Nodup) : (addI acc x).Nodup := by
  unfold addI
  split
  · exact h
  · rename_i hc
    rw [List.nodup_append]
    refine ⟨h, by simp, ?_⟩
    intro a ha b hb e
    simp at hb
    subst hb e
    exact hc (by simpa using ha)
theorem addI_mem (acc : List Int) (x y : Int) : y ∈ addI acc x ↔ y ∈ acc ∨ y = x := by
  unfold addI
  split
  · rename_i hc
    have : x ∈ acc := by simpa using hc
    exact ⟨.inl, fun h => h.elim id (fun e => e ▸ this)⟩
  · simp
theorem fold_once (P : List Int) : ∀ acc : List Int, acc.Nodup → (P.foldl addI acc).Nodup ∧ ∀ y, y ∈ P.foldl addI acc ↔ y ∈ acc ∨ y ∈ P := by
  induction P with
  | nil => intro acc h; exact ⟨h, fun y => by simp⟩
  | cons x P ih =>
    intro acc h
    have := ih (addI acc x) (addI_nodup acc x h)
    refine ⟨this.1, fun y => ?_⟩
    rw [List.foldl_cons, this.2 y, addI_mem, List.mem_cons]
    constructor
    · rintro ((h | h) | h)
      · exact .inl h
      · exact .inr (.inl h)
      · exact .inr (.inr h)
    · rintro (h | h | h)
      · exact .inl (.inl h)
      · exact .inl (.inr h)
      · exact .inr h
theorem once_mem (P : List Int) (y : Int) : y ∈ onceI P ↔ y ∈ P := by
  have := (fold_once P [] (by simp)).2 y
  unfold onceI
  simpa using this
theorem once_count (P : List Int) (y : Int) : (onceI P).count y ≤ 1 := List.nodup_iff_count.1 (fold_once P [] (by simp)).1 y
theorem isP_once (P : List Int) (n : Nat) (hl : P.length = n) (h : ∀ x ∈ P, 0 ≤ x ∧ x < (n : Int)) : isP P n = decide ((onceI P).length = n) := by
  have hs : csum P n = n := by rw [← inr_csum, inr_all P n h, hl]
  have ho : csum (onceI P) n = (onceI P).length := by rw [← inr_csum]; exact inr_all _ n (fun x hx => h x ((once_mem P x).1 hx))
  have hsm := csum_small (onceI P) n (fun i _ => once_count P i)
  unfold isP
  rw [decide_eq_true hl, Bool.true_and]
  apply Bool.eq_iff_iff.2
  rw [decide_eq_true_iff, decide_eq_true_iff]
  constructor
  · intro h1
    have h2 := csum_great (onceI P) n (fun i hi => by
      have : (i : Int) ∈ P := List.count_pos_iff.1 (by rw [h1 i hi]; decide)
      exact List.count_pos_iff.2 ((once_mem P i).2 this))
    omega
  · intro h1
    have h2 := hsm.2 (by omega)
    exact (csum_great P n (fun i hi => by
      have : (i : Int) ∈ onceI P := List.count_pos_iff.1 (by rw [h2 i hi]; decide)
      exact List.count_pos_iff.2 ((once_mem P i).1 this))).2 hs
theorem isP_out (P : List Int) (n : Nat) (x : Int) (hx : x ∈ P) (h : ¬ (0 ≤ x ∧ x < (n : Int))) : isP P n = false := by
  unfold isP
  by_cases hl : P.length = n
  · rw [decide_eq_true hl, Bool.true_and, decide_eq_false_iff_not]
    intro h1
    have h2 := csum_ones P n h1
    rw [← inr_csum, ← hl, hl] at h2
    exact h (all_inr P n (by rw [h2, hl]) x hx)
  · rw [decide_eq_false hl]; rfl
theorem any_int (x : Int) : ∀ l : List Int, (l.map (Lit.int .i64)).any (fun y : Lit => y.sameKey (.int .i64 x)) = l.contains x
  | [] => rfl
  | a :: r => by
    rw [List.map_cons, List.any_cons, List.contains_cons, any_int x r]
    congr 1
    show decide (IntKind.i64 = IntKind.i64 ∧ a = x) = (x == a)
    by_cases e : a = x
    · subst e; simp
    · have e' : ¬ x = a := fun h => e h.symm
      simp [e, e']
theorem fold_addKey (P : List Int) : ∀ acc : List Int, (P.map (Lit.int .i64)).foldl addKey (acc.map (Lit.int .i64)) = (P.foldl addI acc).map (Lit.int .i64) := by
  induction P with
  | nil => intro acc; rfl
  | cons x P ih =>
    intro acc
    rw [List.map_cons, List.foldl_cons, List.foldl_cons, ← ih (addI acc x)]
    congr 1
    unfold addKey addI
    rw [any_int]
    split
    · rfl
    · rw [List.map_append]; rfl
/-- The set that holds the first k. -/
def Sd {H : Type} (P : List Int) (k : Nat) : DataW H := setOf (.agg []) ((P.take k).map (Lit.int .i64))
theorem Sd_zero {H : Type} (P : List Int) : Sd (H := H) P 0 = .map [] := by simp [Sd, setOf]
theorem Sd_succ {H : Type} (P : List Int) (k : Nat) (hk : k < P.length) : Sd (H := H) P (k + 1) = (Sd P k).put (.int .i64 (P.getD k 0)) (.agg []) := by
  unfold Sd
  rw [take_step P k hk, List.map_append, List.map_singleton, setOf_snoc]
theorem Sd_size {H : Type} (P : List Int) (k : Nat) (hk : P.length ≤ k) : Maps.size (Sd (H := H) P k) = (onceI P).length := by
  unfold Sd
  rw [size_setOf _ _ (fun y hy => by obtain ⟨_, _, rfl⟩ := List.mem_map.1 hy; trivial), List.take_of_length_le hk]
  have := fold_addKey P []
  rw [List.map_nil] at this
  rw [this, List.length_map]; rfl
end Go.Proofs.Ytibacoffnkbbbaa
