/- The rows of CardKnown. -/
import Derived.Test.YtfhmadlobdklbaaDoorCardZk
namespace Go.Proofs.YtfhmadlobdklbaaDoor
open Go.RowKit
set_option linter.unusedVariables false
set_option linter.unusedSimpArgs false

theorem grown_of {w w' : World} (h : Below w.heap.size w w') (r : Option Nat) : w.grownBy w' r := ⟨h.os, h.tape, h.output, h.size, fun k hk _ => h.block k hk⟩
abbrev Rw := Nat × Nat × Int × Int
def rowC (r : Rw) : List Value := [.int .i64 (r.1 : Int), .int .i64 (r.2.1 : Int), .int .i64 r.2.2.1, .int .i64 r.2.2.2]
def rowsK : List Rw := [(2, 4, 15, 0), (2, 4, 16, 10), (2, 5, -1, 10), (2, 6, 127, 0), (2, 6, 128, 10), (4, 6, 1, 10), (4, 6, 0, 0), (1, 6, 64, 10), (1, 3, 3, 0), (1, 3, 4, 10), (2, 3, 1, 10), (2, 1, 20, 0), (2, 1, 21, 10), (4, 4, 1, 10), (2, 0, 5, 10), (2, 0, 0, 10), (3, 7, 2, 10), (2, 7, 1, 10), (2, 9, 1, 0), (2, 9, 2, 10), (4, 8, 3, 0), (4, 8, 2, 10), (4, 8, 5, 10), (4, 12, 0, 10), (4, 12, 999, 0), (4, 12, 1000, 10), (4, 13, 1, 10), (4, 11, 1, 10), (1, 10, 20, 0), (1, 10, -1, 10), (1, 9, 1, 10), (1, 15, 6, 0), (1, 15, 7, 10), (1, 16, 0, 10), (1, 17, 2, 0), (1, 17, 99, 10), (1, 18, 0, 0), (3, 14, 0, 10), (3, 19, 0, 10), (3, 20, 0, 10), (2, 20, 0, 0), (2, 23, 0, 0)]
def rowCells : List Value := rowsK.flatMap rowC
theorem rowC_at : ∀ (A : List Rw) (j : Nat) (h : j < A.length) (i : Nat), i < 4 → (A.flatMap rowC)[j * 4 + i]? = (rowC A[j])[i]?
  | [], j, h, i, hi => by simp at h
  | t :: A, 0, h, i, hi => by
    simp only [List.flatMap_cons]
    rw [List.getElem?_append_left (by show _ < 4; omega)]
    simp
  | t :: A, j + 1, h, i, hi => by
    have := rowC_at A j (by simpa using h) i hi
    simp only [List.flatMap_cons] at *
    rw [List.getElem?_append_right (by show 4 ≤ _; omega), show (rowC t).length = 4 from rfl, show (j + 1) * 4 + i - 4 = j * 4 + i by omega, this]
    simp
def rowOk (r : Rw) : Bool := decide (1 ≤ r.1 ∧ r.1 ≤ 4 ∧ r.2.1 ≤ 23 ∧ -100000 ≤ r.2.2.1 ∧ r.2.2.1 ≤ 100000 ∧ chkC (turnM (pC r.1, pA r.1) r.2.1 r.2.2.1).1 (turnM (pC r.1, pA r.1) r.2.1 r.2.2.1).2 2 = r.2.2.2)
theorem rows_ok : rowsK.all rowOk = true := by decide +kernel
def RowIs (k f : Nat) (n e : Int) : Prop := 1 ≤ k ∧ k ≤ 4 ∧ f ≤ 23 ∧ In64 n ∧ chkC (turnM (pC k, pA k) f n).1 (turnM (pC k, pA k) f n).2 2 = e
theorem row_at (j : Nat) (h : j < 42) : ∃ k f n e, RowIs k f n e ∧ rowCells.toArray[j * 4]? = some (.int .i64 (k : Int)) ∧ rowCells.toArray[j * 4 + 1]? = some (.int .i64 (f : Int)) ∧ rowCells.toArray[j * 4 + 2]? = some (.int .i64 n) ∧ rowCells.toArray[j * 4 + 3]? = some (.int .i64 e) := by
  have hj : j < rowsK.length := h
  have h1 := List.all_eq_true.1 rows_ok rowsK[j] (List.getElem_mem hj)
  unfold rowOk at h1
  obtain ⟨a1, a2, a3, a4, a5, a6⟩ := of_decide_eq_true h1
  refine ⟨rowsK[j].1, rowsK[j].2.1, rowsK[j].2.2.1, rowsK[j].2.2.2, ⟨a1, a2, a3, by unfold In64; omega, a6⟩, ?_, ?_, ?_, ?_⟩
  · have := rowC_at rowsK j hj 0 (by omega); simpa [rowCells, rowC] using this
  · have := rowC_at rowsK j hj 1 (by omega); simpa [rowCells, rowC] using this
  · have := rowC_at rowsK j hj 2 (by omega); simpa [rowCells, rowC] using this
  · have := rowC_at rowsK j hj 3 (by omega); simpa [rowCells, rowC] using this
theorem turnedK (k f : Nat) (n e : Int) (h : RowIs k f n e) (y : Cd) (A : List AbT) (w : World) (hr : CdX (fun _ => False) w y A) (ho : CdOk y) (he1 : erC y = pC k) (he2 : A.map erT = pA k) :
    Calls Tryd.prog 12 #[.agg #[.string y.nm, .int .i64 y.k, .int .i64 y.c0, .int .i64 y.c1, .int .i64 y.c2, .int .i64 y.c3, .int .i64 y.col, .int .i64 y.pow, .int .i64 y.tou, .int .i64 y.keys, .slice y.aa y.an y.ac], .int .i64 (f : Int), .int .i64 n] w fun u w' => ∃ z B, u = .returned (.agg #[.string z.nm, .int .i64 z.k, .int .i64 z.c0, .int .i64 z.c1, .int .i64 z.c2, .int .i64 z.c3, .int .i64 z.col, .int .i64 z.pow, .int .i64 z.tou, .int .i64 z.keys, .slice z.aa z.an z.ac]) ∧ CdR w' z B ∧ CdOk z ∧ chkC z B 2 = e ∧ Below w.heap.size w w' := by
  have hb : Bnd 2 A := by rw [← bnd_er, he2]; exact bnd_plain k h.1 h.2.1
  refine (turned_any (fun _ => False) y A f h.2.2.1 n h.2.2.2.1 w (fun _ h => h.elim) hr ho (by have := hb.1; omega) (fun t ht => by have := hb.2 t ht; omega)).mono ?_
  rintro u w' ⟨z, B, h1, hr, ho, e1, e2, hb⟩
  refine ⟨z, B, h1, hr.now, ho, (chk_of e1 e2 2).trans ?_, hb⟩
  rw [he1, he2]
  exact h.2.2.2.2
end Go.Proofs.YtfhmadlobdklbaaDoor
