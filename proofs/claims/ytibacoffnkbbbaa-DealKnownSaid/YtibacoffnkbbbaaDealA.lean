/- Orders by draws, as lists: what is left of a draw; two places that change; the order that comes of draws. No program. -/
import Derived.Test.YtibacoffnkbbbaaProg
import Derived.WalkKit
import Derived.WalkSpells
import Derived.WalkLawsBesides
import Derived.Lib.Hide
namespace Go.Proofs.Ytibacoffnkbbbaa
open Go.RowKit
set_option linter.unusedVariables false

theorem int_eq {k : IntKind} {a b : Int} (h : a = b) : Value.int k a = .int k b := by rw [h]
theorem list_eq (A B : List Int) (hl : A.length = B.length) (h : ∀ j, j < A.length → A.getD j 0 = B.getD j 0) : A = B := by
  apply List.ext_getElem hl
  intro j h1 h2
  have := h j h1
  rw [List.getD_eq_getElem?_getD, List.getD_eq_getElem?_getD, List.getElem?_eq_getElem h1, List.getElem?_eq_getElem h2] at this
  exact this
theorem getD_in (L : List Int) (k : Nat) (hk : k < L.length) : L.getD k 0 = L[k] := by
  rw [List.getD_eq_getElem?_getD, List.getElem?_eq_getElem hk]; rfl
theorem getD_out (L : List Int) (k : Nat) (hk : L.length ≤ k) : L.getD k 0 = 0 := by
  rw [List.getD_eq_getElem?_getD, List.getElem?_eq_none hk]; rfl
theorem getD_set (L : List Int) (i k : Nat) (x : Int) (hi : i < L.length) : (L.set i x).getD k 0 = if i = k then x else L.getD k 0 := by
  rw [List.getD_eq_getElem?_getD, List.getElem?_set, List.getD_eq_getElem?_getD]
  by_cases h : i = k
  · subst h; simp [hi]
  · simp [h]
theorem take_step (L : List Int) (k : Nat) (hk : k < L.length) : L.take (k + 1) = L.take k ++ [L.getD k 0] := by
  rw [List.take_add_one, List.getElem?_eq_getElem hk, List.getD_eq_getElem?_getD, List.getElem?_eq_getElem hk]; rfl

/-- What is left of a draw by n. -/
def leftN (d : Int) (n : Nat) : Nat := (d % (n : Int)).toNat
theorem leftN_lt (d : Int) {n : Nat} (hn : 0 < n) : leftN d n < n := by
  unfold leftN
  have h1 := Int.emod_nonneg d (show (n : Int) ≠ 0 by omega)
  have h2 := Int.emod_lt_of_pos d (show (0 : Int) < (n : Int) by omega)
  omega
theorem leftN_int (d : Int) {n : Nat} (hn : 0 < n) : ((leftN d n : Nat) : Int) = d % (n : Int) := by
  unfold leftN
  have h1 := Int.emod_nonneg d (show (n : Int) ≠ 0 by omega)
  omega
theorem leftN_self (k : Nat) {n : Nat} (hk : k < n) : leftN (k : Int) n = k := by
  unfold leftN
  rw [Int.emod_eq_of_lt (by omega) (by omega)]; rfl
theorem leftN_round (k c : Nat) {n : Nat} (hk : k < n) : leftN ((k : Int) - (n : Int) * (c : Int)) n = k := by
  unfold leftN
  rw [Int.sub_mul_emod_self_left, Int.emod_eq_of_lt (by omega) (by omega)]; rfl
/-- The language's own rest, and how far from 0 it is. -/
theorem tmod_low (d : Int) {n : Nat} (hn : 0 < n) : -(n : Int) < d.tmod n ∧ d.tmod n < n := by
  constructor
  · have := Int.lt_tmod_of_pos d (show (0 : Int) < (n : Int) by omega)
    omega
  · exact Int.tmod_lt_of_pos d (by omega)
theorem left_up (d : Int) {n : Nat} (hn : 0 < n) (h : 0 ≤ d.tmod n) : d.tmod n = ((leftN d n : Nat) : Int) := by
  rw [leftN_int d hn]
  have h1 := Int.mul_tdiv_add_tmod d n
  have h2 := (tmod_low d hn).2
  rw [← Int.emod_eq_of_lt h h2]
  conv => rhs; rw [← h1]
  rw [Int.add_comm, Int.add_mul_emod_self_left]
theorem left_down (d : Int) {n : Nat} (hn : 0 < n) (h : d.tmod n < 0) : d.tmod n + n = ((leftN d n : Nat) : Int) := by
  rw [leftN_int d hn]
  have h1 := Int.mul_tdiv_add_tmod d n
  have h2 := (tmod_low d hn).1
  rw [← Int.emod_eq_of_lt (show 0 ≤ d.tmod n + n by omega) (show d.tmod n + n < n by omega)]
  conv => rhs; rw [← h1]
  rw [Int.add_emod_right, Int.add_comm, Int.add_mul_emod_self_left]

/-- What stands at two places changes. -/
def swp (M : List Int) (i j : Nat) : List Int := (M.set i (M.getD j 0)).set j (M.getD i 0)
theorem swp_len (M : List Int) (i j : Nat) : (swp M i j).length = M.length := by unfold swp; rw [List.length_set, List.length_set]
theorem swp_at (M : List Int) (i j k : Nat) (hi : i < M.length) (hj : j < M.length) : (swp M i j).getD k 0 = if j = k then M.getD i 0 else if i = k then M.getD j 0 else M.getD k 0 := by
  unfold swp
  rw [getD_set _ j k _ (by rw [List.length_set]; exact hj), getD_set M i k _ hi]
theorem swp_map (M : List Int) (i j : Nat) : (swp M i j).map (Value.int .i64) = ((M.map (Value.int .i64)).set i (.int .i64 (M.getD j 0))).set j (.int .i64 (M.getD i 0)) := by
  unfold swp
  rw [List.map_set, List.map_set]
/-- The order that comes of draws: from place i down; u are drawn. -/
def permAt (ds : List Int) : Nat → Nat → List Int → List Int × Nat
  | 0, u, M => (M, u)
  | i + 1, u, M => permAt ds i (if u < ds.length then u + 1 else u) (swp M (i + 1) (leftN (ds.getD u 0) (i + 2)))
def places (n : Nat) : List Int := (List.range n).map fun k : Nat => (k : Int)
theorem places_len (n : Nat) : (places n).length = n := by simp [places]
theorem places_at (n k : Nat) (hk : k < n) : (places n).getD k 0 = (k : Int) := by
  rw [getD_in _ k (by rw [places_len]; exact hk)]; simp [places]
theorem places_succ (n : Nat) : places (n + 1) = places n ++ [(n : Int)] := by
  unfold places; rw [List.range_succ, List.map_append]; rfl
def permN (n : Nat) (ds : List Int) : List Int × Nat := permAt ds (n - 1) 0 (places n)
theorem permAt_len (ds : List Int) : ∀ (i u : Nat) (M : List Int), (permAt ds i u M).1.length = M.length
  | 0, u, M => rfl
  | i + 1, u, M => by
    unfold permAt
    rw [permAt_len ds i, swp_len]
theorem permN_len (n : Nat) (ds : List Int) : (permN n ds).1.length = n := by unfold permN; rw [permAt_len, places_len]
theorem permAt_used (ds : List Int) : ∀ (i u : Nat) (M : List Int), u ≤ ds.length → (permAt ds i u M).2 = min (u + i) ds.length
  | 0, u, M, h => by show u = _; omega
  | i + 1, u, M, h => by
    unfold permAt
    by_cases hu : u < ds.length
    · rw [if_pos hu, permAt_used ds i _ _ (by omega)]; omega
    · rw [if_neg hu, permAt_used ds i _ _ h]; omega
theorem permN_used (n : Nat) (ds : List Int) : (permN n ds).2 = min (n - 1) ds.length := by
  unfold permN; rw [permAt_used ds _ _ _ (Nat.zero_le _), Nat.zero_add]
/-- Of any number of places: none, if it is none that may be. -/
def permI (n : Int) (ds : List Int) : List Int × Nat := if 1 ≤ n ∧ n ≤ 4096 then permN n.toNat ds else ([], 0)
end Go.Proofs.Ytibacoffnkbbbaa
