/- What follows of Check for Ways; a row of bools. -/
import Derived.Test.YtegopamfdgeblaaDoorCodeS
namespace Go.Proofs.YtegopamfdgeblaaDoor
open Go.RowKit
set_option linter.unusedVariables false
set_option linter.unusedSimpArgs false

/-- The slice of address a and capacity c reads as the bools T. -/
def IsB (w : World) (a : Option Addr) (c : Nat) (T : List Bool) : Prop :=
  T.length ≤ c ∧ c ≤ 9223372036854775807 ∧ (T.length = 0 ∨ ∃ b off, a = some ⟨b, off, none⟩ ∧ b < w.heap.size ∧ ∀ j (h : j < T.length), w.cell? ⟨b, off + j, none⟩ = some (.bool T[j]))
theorem IsB.next {w w' : World} {a : Option Addr} {c : Nat} {T : List Bool} (h : IsB w a c T) (k : Below w.heap.size w w') : IsB w' a c T := by
  obtain ⟨h1, h2, h3 | ⟨b, off, h3, h4, h5⟩⟩ := h
  · exact ⟨h1, h2, .inl h3⟩
  · exact ⟨h1, h2, .inr ⟨b, off, h3, Nat.lt_of_lt_of_le h4 k.size, fun j hj => (k.cell (p := ⟨b, off + j, none⟩) h4).trans (h5 j hj)⟩⟩
theorem IsB.at {w : World} {a : Option Addr} {c : Nat} {T : List Bool} (h : IsB w a c T) (k : Nat) (hk : k < T.length) : ∃ b off x, a = some ⟨b, off, none⟩ ∧ w.cell? ⟨b, off + k, none⟩ = some (.bool x) := by
  obtain ⟨h1, h2, h3 | ⟨b, off, h3, h4, h5⟩⟩ := h
  · omega
  · exact ⟨b, off, _, h3, h5 k hk⟩
/-- What the ways of an instruction that may be are: none, of the end; one, inside; two, inside, rising. -/
theorem wayOf_shape (x : Ins) (len i : Int) (t c : Int) (h : one len t c x = true) (h1 : 0 ≤ i) (h2 : i < len) :
    (wayOf x i = [] ∧ x.op = 24) ∨ (∃ v, wayOf x i = [v] ∧ 0 ≤ v ∧ v ≤ len) ∨ (∃ v u, wayOf x i = [v, u] ∧ 0 ≤ v ∧ v < u ∧ u ≤ len) := by
  obtain ⟨o, a, b⟩ := x
  have ho := one_op h
  unfold one at h
  simp only [Bool.and_eq_true] at h
  have ha := h.2.1
  clear h
  by_cases h24 : o = 24
  · left; exact ⟨by simp [wayOf, h24], h24⟩
  · right
    by_cases h8 : o = 8
    · subst h8
      have : 0 ≤ a ∧ a ≤ len := by simpa [aOk, btw] using ha
      left; exact ⟨a, by simp [wayOf], this⟩
    · by_cases h9 : o = 9
      · subst h9
        have : 0 ≤ a ∧ a ≤ len := by simpa [aOk, btw] using ha
        by_cases he : a = i + 1
        · left; exact ⟨i + 1, by simp [wayOf, he], by omega, by omega⟩
        · right
          by_cases hlt : a < i + 1
          · exact ⟨a, i + 1, by simp only [wayOf, if_neg h24, if_neg h8, if_neg he, if_true]; rw [Int.min_eq_left (by omega), Int.max_eq_right (by omega)], by omega, hlt, by omega⟩
          · exact ⟨i + 1, a, by simp only [wayOf, if_neg h24, if_neg h8, if_neg he, if_true]; rw [Int.min_eq_right (by omega), Int.max_eq_left (by omega)], by omega, by omega, by omega⟩
      · left; exact ⟨i + 1, by simp [wayOf, h24, h8, h9], by omega, by omega⟩
/-- Of a code that may be: what its ways are at a place that is inside, or just behind the end. -/
theorem waysL_shape (L : List Ins) (n : Nat) (hn : L.length = n) (t c : Int) (h : chk L t c = 0) (i : Int) (h1 : 0 ≤ i) (h2 : i ≤ (n : Int)) :
    (waysL L i = [] ∧ (i = (n : Int) ∨ ∀ x, L[i.toNat]? = some x → x.op = 24)) ∨ (∃ v, waysL L i = [v] ∧ 0 ≤ v ∧ v ≤ (n : Int)) ∨ (∃ v u, waysL L i = [v, u] ∧ 0 ≤ v ∧ v < u ∧ u ≤ (n : Int)) := by
  subst hn
  by_cases hi : i.toNat < L.length
  · have e : waysL L i = wayOf L[i.toNat] i := by rw [waysL, dif_pos ⟨h1, hi⟩]
    rw [e]
    rcases wayOf_shape L[i.toNat] L.length i t c ((chk_ok h).2.2.2 _ (List.getElem_mem hi)) h1 (by omega) with ⟨h3, h4⟩ | h3 | h3
    · exact .inl ⟨h3, .inr fun x hx => by rw [List.getElem?_eq_getElem hi] at hx; cases hx; exact h4⟩
    · exact .inr (.inl h3)
    · exact .inr (.inr h3)
  · left
    exact ⟨by rw [waysL, dif_neg (by omega)], .inl (by omega)⟩
theorem IsL.one {w : World} {p : Option Addr} {c : Nat} {v : Int} (h : IsL w p c [v]) : ∃ b off, p = some ⟨b, off, none⟩ ∧ w.cell? ⟨b, off, none⟩ = some (.int .i64 v) ∧ 1 ≤ c ∧ c ≤ 9223372036854775807 := by
  obtain ⟨b, off, e, hc⟩ := h.at 0 (by simp)
  exact ⟨b, off, e, by simpa using hc, h.1, h.2.1⟩
theorem IsL.two {w : World} {p : Option Addr} {c : Nat} {v u : Int} (h : IsL w p c [v, u]) : ∃ b off, p = some ⟨b, off, none⟩ ∧ w.cell? ⟨b, off, none⟩ = some (.int .i64 v) ∧ w.cell? ⟨b, off + 1, none⟩ = some (.int .i64 u) ∧ 2 ≤ c ∧ c ≤ 9223372036854775807 := by
  obtain ⟨b, off, e, hc⟩ := h.at 0 (by simp)
  obtain ⟨b2, off2, e2, hc2⟩ := h.at 1 (by simp)
  rw [e] at e2
  cases e2
  exact ⟨b, off, e, by simpa using hc, by simpa using hc2, h.1, h.2.1⟩
end Go.Proofs.YtegopamfdgeblaaDoor
