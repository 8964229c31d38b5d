/- A card that may be in a pool may be in a greater one; without its abilities; with one of them. -/
import Derived.Test.YtfhmadlobdklbaaDoorCardX
namespace Go.Proofs.YtfhmadlobdklbaaDoor
open Go.RowKit
set_option linter.unusedVariables false
set_option linter.unusedSimpArgs false

theorem bOk_more (c : Int) (h : 1 ≤ c) (j : Nat) (b : Int) (hb : bOk 1 j b = true) : bOk c j b = true := by
  unfold bOk at *
  split at hb
  · exact hb
  · rw [btw_iff] at *
    omega
  · exact hb
theorem one_more (len t c : Int) (h : 1 ≤ c) (x : Ins) (hx : one len t 1 x = true) : one len t c x = true := by
  unfold one at *
  rw [Bool.and_eq_true, Bool.and_eq_true] at *
  exact ⟨hx.1, hx.2.1, bOk_more c h _ _ hx.2.2⟩
theorem chk_more (L : List Ins) (t : Int) (c : Int) (h : 1 ≤ c) (h2 : c ≤ 40) (hc : (chk L t 1 == 0) = true) : (chk L t c == 0) = true := by
  rw [beq_iff_eq] at *
  unfold chk at *
  have e1 : btw 0 40 (1 : Int) = true := rfl
  have e2 : btw 0 40 c = true := by rw [btw_iff]; omega
  rw [e1] at hc
  rw [e2]
  split at hc
  · rename_i hb
    rw [if_pos hb]
    split at hc
    · omega
    · rename_i hl
      rw [if_neg hl]
      split at hc
      · rename_i ha
        rw [if_pos]
        exact List.all_eq_true.2 fun x hx => one_more _ _ c h x (List.all_eq_true.1 ha x hx)
      · omega
  · omega
theorem abil_more (x : Ab) (T : List Int) (L : List Ins) (c : Int) (h : 1 ≤ c) (h2 : c ≤ 40) (hx : abilB x T L 1 = true) : abilB x T L c = true := by
  unfold abilB spellB actB trigB at *
  split at hx
  · rename_i e
    rw [if_pos e]
    simp only [Bool.and_eq_true] at *
    exact ⟨hx.1, chk_more _ _ c h h2 hx.2.1, hx.2.2⟩
  · rename_i e1
    rw [if_neg e1]
    split at hx
    · rename_i e
      rw [if_pos e]
      simp only [Bool.and_eq_true] at *
      exact ⟨hx.1, hx.2.1, chk_more _ _ c h h2 hx.2.2.1, hx.2.2.2⟩
    · rename_i e2
      rw [if_neg e2]
      split at hx
      · rename_i e
        rw [if_pos e]
        simp only [Bool.and_eq_true] at *
        exact ⟨hx.1, chk_more _ _ c h h2 hx.2.1, hx.2.2⟩
      · rename_i e3
        rw [if_neg e3]
        exact hx
theorem fit_more (s : Bool) (c : Int) (h : 1 ≤ c) (h2 : c ≤ 40) (t : AbT) (ht : fitB s 1 t = true) : fitB s c t = true := by
  unfold fitB at *
  rw [Bool.and_eq_true] at *
  exact ⟨ht.1, abil_more _ _ _ c h h2 ht.2⟩
theorem chkC_parts (y : Cd) (A : List AbT) (h : chkC y A 1 = 0) : longB y A = false ∧ mayB y = true ∧ canB (y.k == 3) A 1 = true := by
  have e1 : btw 0 40 (1 : Int) = true := rfl
  rw [chkC, e1, if_pos rfl] at h
  split at h
  · omega
  · rename_i hl
    split at h
    · rename_i hm
      rw [Bool.and_eq_true] at hm
      exact ⟨by simpa using hl, hm.1, hm.2⟩
    · omega
theorem chkC_of {y : Cd} {A : List AbT} {c : Int} (h1 : 1 ≤ c) (h2 : c ≤ 40) (hl : longB y A = false) (hm : mayB y = true) (hc : canB (y.k == 3) A c = true) : chkC y A c = 0 := by
  have e2 : btw 0 40 c = true := by rw [btw_iff]; omega
  simp [chkC, e2, hl, hm, hc]
theorem chkC_more (y : Cd) (A : List AbT) (c : Int) (h1 : 1 ≤ c) (h2 : c ≤ 40) (h : chkC y A 1 = 0) : chkC y A c = 0 := by
  obtain ⟨a, b, d⟩ := chkC_parts y A h
  refine chkC_of h1 h2 a b ?_
  unfold canB at *
  rw [Bool.and_eq_true] at *
  exact ⟨d.1, List.all_eq_true.2 fun t ht => fit_more _ c h1 h2 t (List.all_eq_true.1 d.2 t ht)⟩
theorem chkC_long (y : Cd) (A : List AbT) (c : Int) (h1 : 1 ≤ c) (h2 : c ≤ 40) (h : chkC y A 1 = 3) : chkC y A c = 3 := by
  have e1 : btw 0 40 (1 : Int) = true := rfl
  have e2 : btw 0 40 c = true := by rw [btw_iff]; omega
  rw [chkC, e1, if_pos rfl] at h
  rw [chkC, e2, if_pos rfl]
  split at h
  · rename_i hl
    rw [if_pos hl]
  · split at h <;> omega
/-- With other abilities out of its own: likewise. -/
theorem chkC_some (y : Cd) (A : List AbT) (h : chkC y A 1 = 0) (hk : (y.k == 3) = false) (B : List AbT) (hB : ∀ t ∈ B, t ∈ A) (a : Option Addr) (n c : Nat) (hn : n ≤ 4) : chkC { y with aa := a, an := n, ac := c } B 1 = 0 := by
  obtain ⟨h1, h2, h3⟩ := chkC_parts y A h
  refine chkC_of (by omega) (by omega) ?_ h2 ?_
  · rw [longB, Bool.or_eq_false_iff] at *
    refine ⟨?_, ?_⟩
    · refine Bool.eq_false_iff.2 fun hall => ?_
      obtain ⟨t, ht, hl⟩ := List.any_eq_true.1 hall
      have := List.any_eq_true.2 ⟨t, hB t ht, hl⟩
      rw [h1.1] at this
      cases this
    · have := h1.2
      simp at this ⊢
      omega
  · show canB (y.k == 3) B 1 = true
    rw [hk] at *
    unfold canB at *
    rw [Bool.and_eq_true] at *
    exact ⟨rfl, List.all_eq_true.2 fun t ht => List.all_eq_true.1 h3.2 t (hB t ht)⟩
end Go.Proofs.YtfhmadlobdklbaaDoor
