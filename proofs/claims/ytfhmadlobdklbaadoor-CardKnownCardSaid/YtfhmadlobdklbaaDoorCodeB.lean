/- asker: the rows of what A and B may be; and the closure over them. -/
import Derived.Test.YtfhmadlobdklbaaDoorCodeA
import Derived.Deep.WholeRow
namespace Go.Proofs.YtfhmadlobdklbaaDoor
open Go.RowKit
set_option linter.unusedVariables false
set_option linter.unusedSimpArgs false

/-- A target's slot. -/
def tgt (t a : Int) : Bool := btw 0 (t - 1) a
/-- What A of an instruction j may be, in a code of len with t targets. -/
def aOk (len t : Int) : Nat → Int → Bool
  | 1 => btw (-999) 999
  | 6 => btw 5 7
  | 7 => fun n => tgt t n || btw 3 3 n
  | 8 => btw 0 len
  | 9 => btw 0 len
  | 10 => fun n => tgt t n || btw 2 7 n
  | 11 => fun n => tgt t n || (btw 3 3 n || btw 4 4 n)
  | 12 => fun n => tgt t n || (btw 3 3 n || btw 4 4 n)
  | 21 => fun n => tgt t n || (btw 3 3 n || btw 4 4 n)
  | 13 => fun n => tgt t n || (btw 2 2 n || btw 5 7 n)
  | 14 => fun n => tgt t n || (btw 2 2 n || btw 5 7 n)
  | 15 => fun n => tgt t n || (btw 2 2 n || btw 5 7 n)
  | 16 => fun n => tgt t n || (btw 2 2 n || btw 5 7 n)
  | 17 => fun n => tgt t n || (btw 2 2 n || btw 5 7 n)
  | 18 => fun n => tgt t n || (btw 2 2 n || btw 5 7 n)
  | 19 => fun n => tgt t n || (btw 2 2 n || btw 5 7 n)
  | 20 => tgt t
  | 22 => btw 0 3
  | 23 => btw 1 999
  | _ => btw 0 0
/-- What B may be, where there are c cards. -/
def bOk (c : Int) : Nat → Int → Bool
  | 17 => btw 1 127
  | 21 => btw 0 (c - 1)
  | _ => btw 0 0
/-- Block g holds the rows. -/
def RowsAt (w : World) (g : Nat) (len t c : Int) : Prop := g < w.heap.size ∧ ∀ j, 1 ≤ j → j ≤ 24 → ∃ q1 q2 : Ask, w.cell? ⟨g, j * 2, none⟩ = some (askV q1) ∧ w.cell? ⟨g, j * 2 + 1, none⟩ = some (askV q2) ∧ Asks w q1.1 q1.2.1 (aOk len t j) ∧ Asks w q2.1 q2.2.1 (bOk c j)
theorem RowsAt.next {w w' : World} {g : Nat} {len t c : Int} (h : RowsAt w g len t c) (b : Below w.heap.size w w') : RowsAt w' g len t c :=
  ⟨Nat.lt_of_lt_of_le h.1 b.size, fun j h1 h2 => by
    obtain ⟨q1, q2, x1, x2, a1, a2⟩ := h.2 j h1 h2
    exact ⟨q1, q2, (b.cell (p := ⟨g, j * 2, none⟩) h.1).trans x1, (b.cell (p := ⟨g, j * 2 + 1, none⟩) h.1).trans x2, a1.next b, a2.next b⟩⟩
set_option maxHeartbeats 1000000 in
theorem rows_new (w0 w : World) (len t c : Int) (k1 k2 k3 k4 k5 k6 k7 k8 k9 k10 k11 k12 k13 k14 k15 k16 k17 : Nat) (c1 c2 c3 c4 c5 c6 c7 c8 c9 c10 c11 c12 c13 c14 c15 c16 c17 : Array Value) (h : Held w0 w [(k17, c17, btw 1 999), (k16, c16, btw 0 3), (k15, c15, btw 0 (c - 1)), (k14, c14, btw 1 127), (k13, c13, fun n => btw 0 (t - 1) n || btw 2 7 n), (k12, c12, btw 2 7), (k11, c11, fun n => btw 0 (t - 1) n || btw 3 3 n), (k10, c10, btw (-999) 999), (k9, c9, btw 0 len), (k8, c8, fun n => btw 0 (t - 1) n || (btw 2 2 n || btw 5 7 n)), (k7, c7, btw 2 2), (k6, c6, fun n => btw 0 (t - 1) n || (btw 3 3 n || btw 4 4 n)), (k5, c5, btw 4 4), (k4, c4, btw 5 7), (k3, c3, btw 0 0), (k2, c2, btw 3 3), (k1, c1, btw 0 (t - 1))]) :
    RowsAt (w.alloc (.cells #[.nilFunc, .nilFunc, .func (.func k10) #[] c10, .func (.func k3) #[] c3, .func (.func k3) #[] c3, .func (.func k3) #[] c3, .func (.func k3) #[] c3, .func (.func k3) #[] c3, .func (.func k3) #[] c3, .func (.func k3) #[] c3, .func (.func k3) #[] c3, .func (.func k3) #[] c3, .func (.func k4) #[] c4, .func (.func k3) #[] c3, .func (.func k11) #[] c11, .func (.func k3) #[] c3, .func (.func k9) #[] c9, .func (.func k3) #[] c3, .func (.func k9) #[] c9, .func (.func k3) #[] c3, .func (.func k13) #[] c13, .func (.func k3) #[] c3, .func (.func k6) #[] c6, .func (.func k3) #[] c3, .func (.func k6) #[] c6, .func (.func k3) #[] c3, .func (.func k8) #[] c8, .func (.func k3) #[] c3, .func (.func k8) #[] c8, .func (.func k3) #[] c3, .func (.func k8) #[] c8, .func (.func k3) #[] c3, .func (.func k8) #[] c8, .func (.func k3) #[] c3, .func (.func k8) #[] c8, .func (.func k14) #[] c14, .func (.func k8) #[] c8, .func (.func k3) #[] c3, .func (.func k8) #[] c8, .func (.func k3) #[] c3, .func (.func k1) #[] c1, .func (.func k3) #[] c3, .func (.func k6) #[] c6, .func (.func k15) #[] c15, .func (.func k16) #[] c16, .func (.func k3) #[] c3, .func (.func k17) #[] c17, .func (.func k3) #[] c3, .func (.func k3) #[] c3, .func (.func k3) #[] c3] 83)) w.heap.size len t c := by
  refine ⟨by simp, fun j h1 h2 => ?_⟩
  have b := below_alloc1 w (.cells #[.nilFunc, .nilFunc, .func (.func k10) #[] c10, .func (.func k3) #[] c3, .func (.func k3) #[] c3, .func (.func k3) #[] c3, .func (.func k3) #[] c3, .func (.func k3) #[] c3, .func (.func k3) #[] c3, .func (.func k3) #[] c3, .func (.func k3) #[] c3, .func (.func k3) #[] c3, .func (.func k4) #[] c4, .func (.func k3) #[] c3, .func (.func k11) #[] c11, .func (.func k3) #[] c3, .func (.func k9) #[] c9, .func (.func k3) #[] c3, .func (.func k9) #[] c9, .func (.func k3) #[] c3, .func (.func k13) #[] c13, .func (.func k3) #[] c3, .func (.func k6) #[] c6, .func (.func k3) #[] c3, .func (.func k6) #[] c6, .func (.func k3) #[] c3, .func (.func k8) #[] c8, .func (.func k3) #[] c3, .func (.func k8) #[] c8, .func (.func k3) #[] c3, .func (.func k8) #[] c8, .func (.func k3) #[] c3, .func (.func k8) #[] c8, .func (.func k3) #[] c3, .func (.func k8) #[] c8, .func (.func k14) #[] c14, .func (.func k8) #[] c8, .func (.func k3) #[] c3, .func (.func k8) #[] c8, .func (.func k3) #[] c3, .func (.func k1) #[] c1, .func (.func k3) #[] c3, .func (.func k6) #[] c6, .func (.func k15) #[] c15, .func (.func k16) #[] c16, .func (.func k3) #[] c3, .func (.func k17) #[] c17, .func (.func k3) #[] c3, .func (.func k3) #[] c3, .func (.func k3) #[] c3] 83)
  generalize hW : w.alloc (.cells #[.nilFunc, .nilFunc, .func (.func k10) #[] c10, .func (.func k3) #[] c3, .func (.func k3) #[] c3, .func (.func k3) #[] c3, .func (.func k3) #[] c3, .func (.func k3) #[] c3, .func (.func k3) #[] c3, .func (.func k3) #[] c3, .func (.func k3) #[] c3, .func (.func k3) #[] c3, .func (.func k4) #[] c4, .func (.func k3) #[] c3, .func (.func k11) #[] c11, .func (.func k3) #[] c3, .func (.func k9) #[] c9, .func (.func k3) #[] c3, .func (.func k9) #[] c9, .func (.func k3) #[] c3, .func (.func k13) #[] c13, .func (.func k3) #[] c3, .func (.func k6) #[] c6, .func (.func k3) #[] c3, .func (.func k6) #[] c6, .func (.func k3) #[] c3, .func (.func k8) #[] c8, .func (.func k3) #[] c3, .func (.func k8) #[] c8, .func (.func k3) #[] c3, .func (.func k8) #[] c8, .func (.func k3) #[] c3, .func (.func k8) #[] c8, .func (.func k3) #[] c3, .func (.func k8) #[] c8, .func (.func k14) #[] c14, .func (.func k8) #[] c8, .func (.func k3) #[] c3, .func (.func k8) #[] c8, .func (.func k3) #[] c3, .func (.func k1) #[] c1, .func (.func k3) #[] c3, .func (.func k6) #[] c6, .func (.func k15) #[] c15, .func (.func k16) #[] c16, .func (.func k3) #[] c3, .func (.func k17) #[] c17, .func (.func k3) #[] c3, .func (.func k3) #[] c3, .func (.func k3) #[] c3] 83) = W at *
  have hc : ∀ i, W.cell? ⟨w.heap.size, i, none⟩ = #[.nilFunc, .nilFunc, .func (.func k10) #[] c10, .func (.func k3) #[] c3, .func (.func k3) #[] c3, .func (.func k3) #[] c3, .func (.func k3) #[] c3, .func (.func k3) #[] c3, .func (.func k3) #[] c3, .func (.func k3) #[] c3, .func (.func k3) #[] c3, .func (.func k3) #[] c3, .func (.func k4) #[] c4, .func (.func k3) #[] c3, .func (.func k11) #[] c11, .func (.func k3) #[] c3, .func (.func k9) #[] c9, .func (.func k3) #[] c3, .func (.func k9) #[] c9, .func (.func k3) #[] c3, .func (.func k13) #[] c13, .func (.func k3) #[] c3, .func (.func k6) #[] c6, .func (.func k3) #[] c3, .func (.func k6) #[] c6, .func (.func k3) #[] c3, .func (.func k8) #[] c8, .func (.func k3) #[] c3, .func (.func k8) #[] c8, .func (.func k3) #[] c3, .func (.func k8) #[] c8, .func (.func k3) #[] c3, .func (.func k8) #[] c8, .func (.func k3) #[] c3, .func (.func k8) #[] c8, .func (.func k14) #[] c14, .func (.func k8) #[] c8, .func (.func k3) #[] c3, .func (.func k8) #[] c8, .func (.func k3) #[] c3, .func (.func k1) #[] c1, .func (.func k3) #[] c3, .func (.func k6) #[] c6, .func (.func k15) #[] c15, .func (.func k16) #[] c16, .func (.func k3) #[] c3, .func (.func k17) #[] c17, .func (.func k3) #[] c3, .func (.func k3) #[] c3, .func (.func k3) #[] c3][i]? := fun i => by rw [← hW]; exact World.cell?_alloc_new _ _ _ _
  clear hW
  obtain rfl | rfl | rfl | rfl | rfl | rfl | rfl | rfl | rfl | rfl | rfl | rfl | rfl | rfl | rfl | rfl | rfl | rfl | rfl | rfl | rfl | rfl | rfl | rfl : j = 1 ∨ j = 2 ∨ j = 3 ∨ j = 4 ∨ j = 5 ∨ j = 6 ∨ j = 7 ∨ j = 8 ∨ j = 9 ∨ j = 10 ∨ j = 11 ∨ j = 12 ∨ j = 13 ∨ j = 14 ∨ j = 15 ∨ j = 16 ∨ j = 17 ∨ j = 18 ∨ j = 19 ∨ j = 20 ∨ j = 21 ∨ j = 22 ∨ j = 23 ∨ j = 24 := by omega
  · exact ⟨(k10, c10, btw (-999) 999), (k3, c3, btw 0 0), hc _, hc _, (h.2 (k10, c10, btw (-999) 999) (by simp)).next b, (h.2 (k3, c3, btw 0 0) (by simp)).next b⟩
  · exact ⟨(k3, c3, btw 0 0), (k3, c3, btw 0 0), hc _, hc _, (h.2 (k3, c3, btw 0 0) (by simp)).next b, (h.2 (k3, c3, btw 0 0) (by simp)).next b⟩
  · exact ⟨(k3, c3, btw 0 0), (k3, c3, btw 0 0), hc _, hc _, (h.2 (k3, c3, btw 0 0) (by simp)).next b, (h.2 (k3, c3, btw 0 0) (by simp)).next b⟩
  · exact ⟨(k3, c3, btw 0 0), (k3, c3, btw 0 0), hc _, hc _, (h.2 (k3, c3, btw 0 0) (by simp)).next b, (h.2 (k3, c3, btw 0 0) (by simp)).next b⟩
  · exact ⟨(k3, c3, btw 0 0), (k3, c3, btw 0 0), hc _, hc _, (h.2 (k3, c3, btw 0 0) (by simp)).next b, (h.2 (k3, c3, btw 0 0) (by simp)).next b⟩
  · exact ⟨(k4, c4, btw 5 7), (k3, c3, btw 0 0), hc _, hc _, (h.2 (k4, c4, btw 5 7) (by simp)).next b, (h.2 (k3, c3, btw 0 0) (by simp)).next b⟩
  · exact ⟨(k11, c11, fun n => btw 0 (t - 1) n || btw 3 3 n), (k3, c3, btw 0 0), hc _, hc _, (h.2 (k11, c11, fun n => btw 0 (t - 1) n || btw 3 3 n) (by simp)).next b, (h.2 (k3, c3, btw 0 0) (by simp)).next b⟩
  · exact ⟨(k9, c9, btw 0 len), (k3, c3, btw 0 0), hc _, hc _, (h.2 (k9, c9, btw 0 len) (by simp)).next b, (h.2 (k3, c3, btw 0 0) (by simp)).next b⟩
  · exact ⟨(k9, c9, btw 0 len), (k3, c3, btw 0 0), hc _, hc _, (h.2 (k9, c9, btw 0 len) (by simp)).next b, (h.2 (k3, c3, btw 0 0) (by simp)).next b⟩
  · exact ⟨(k13, c13, fun n => btw 0 (t - 1) n || btw 2 7 n), (k3, c3, btw 0 0), hc _, hc _, (h.2 (k13, c13, fun n => btw 0 (t - 1) n || btw 2 7 n) (by simp)).next b, (h.2 (k3, c3, btw 0 0) (by simp)).next b⟩
  · exact ⟨(k6, c6, fun n => btw 0 (t - 1) n || (btw 3 3 n || btw 4 4 n)), (k3, c3, btw 0 0), hc _, hc _, (h.2 (k6, c6, fun n => btw 0 (t - 1) n || (btw 3 3 n || btw 4 4 n)) (by simp)).next b, (h.2 (k3, c3, btw 0 0) (by simp)).next b⟩
  · exact ⟨(k6, c6, fun n => btw 0 (t - 1) n || (btw 3 3 n || btw 4 4 n)), (k3, c3, btw 0 0), hc _, hc _, (h.2 (k6, c6, fun n => btw 0 (t - 1) n || (btw 3 3 n || btw 4 4 n)) (by simp)).next b, (h.2 (k3, c3, btw 0 0) (by simp)).next b⟩
  · exact ⟨(k8, c8, fun n => btw 0 (t - 1) n || (btw 2 2 n || btw 5 7 n)), (k3, c3, btw 0 0), hc _, hc _, (h.2 (k8, c8, fun n => btw 0 (t - 1) n || (btw 2 2 n || btw 5 7 n)) (by simp)).next b, (h.2 (k3, c3, btw 0 0) (by simp)).next b⟩
  · exact ⟨(k8, c8, fun n => btw 0 (t - 1) n || (btw 2 2 n || btw 5 7 n)), (k3, c3, btw 0 0), hc _, hc _, (h.2 (k8, c8, fun n => btw 0 (t - 1) n || (btw 2 2 n || btw 5 7 n)) (by simp)).next b, (h.2 (k3, c3, btw 0 0) (by simp)).next b⟩
  · exact ⟨(k8, c8, fun n => btw 0 (t - 1) n || (btw 2 2 n || btw 5 7 n)), (k3, c3, btw 0 0), hc _, hc _, (h.2 (k8, c8, fun n => btw 0 (t - 1) n || (btw 2 2 n || btw 5 7 n)) (by simp)).next b, (h.2 (k3, c3, btw 0 0) (by simp)).next b⟩
  · exact ⟨(k8, c8, fun n => btw 0 (t - 1) n || (btw 2 2 n || btw 5 7 n)), (k3, c3, btw 0 0), hc _, hc _, (h.2 (k8, c8, fun n => btw 0 (t - 1) n || (btw 2 2 n || btw 5 7 n)) (by simp)).next b, (h.2 (k3, c3, btw 0 0) (by simp)).next b⟩
  · exact ⟨(k8, c8, fun n => btw 0 (t - 1) n || (btw 2 2 n || btw 5 7 n)), (k14, c14, btw 1 127), hc _, hc _, (h.2 (k8, c8, fun n => btw 0 (t - 1) n || (btw 2 2 n || btw 5 7 n)) (by simp)).next b, (h.2 (k14, c14, btw 1 127) (by simp)).next b⟩
  · exact ⟨(k8, c8, fun n => btw 0 (t - 1) n || (btw 2 2 n || btw 5 7 n)), (k3, c3, btw 0 0), hc _, hc _, (h.2 (k8, c8, fun n => btw 0 (t - 1) n || (btw 2 2 n || btw 5 7 n)) (by simp)).next b, (h.2 (k3, c3, btw 0 0) (by simp)).next b⟩
  · exact ⟨(k8, c8, fun n => btw 0 (t - 1) n || (btw 2 2 n || btw 5 7 n)), (k3, c3, btw 0 0), hc _, hc _, (h.2 (k8, c8, fun n => btw 0 (t - 1) n || (btw 2 2 n || btw 5 7 n)) (by simp)).next b, (h.2 (k3, c3, btw 0 0) (by simp)).next b⟩
  · exact ⟨(k1, c1, btw 0 (t - 1)), (k3, c3, btw 0 0), hc _, hc _, (h.2 (k1, c1, btw 0 (t - 1)) (by simp)).next b, (h.2 (k3, c3, btw 0 0) (by simp)).next b⟩
  · exact ⟨(k6, c6, fun n => btw 0 (t - 1) n || (btw 3 3 n || btw 4 4 n)), (k15, c15, btw 0 (c - 1)), hc _, hc _, (h.2 (k6, c6, fun n => btw 0 (t - 1) n || (btw 3 3 n || btw 4 4 n)) (by simp)).next b, (h.2 (k15, c15, btw 0 (c - 1)) (by simp)).next b⟩
  · exact ⟨(k16, c16, btw 0 3), (k3, c3, btw 0 0), hc _, hc _, (h.2 (k16, c16, btw 0 3) (by simp)).next b, (h.2 (k3, c3, btw 0 0) (by simp)).next b⟩
  · exact ⟨(k17, c17, btw 1 999), (k3, c3, btw 0 0), hc _, hc _, (h.2 (k17, c17, btw 1 999) (by simp)).next b, (h.2 (k3, c3, btw 0 0) (by simp)).next b⟩
  · exact ⟨(k3, c3, btw 0 0), (k3, c3, btw 0 0), hc _, hc _, (h.2 (k3, c3, btw 0 0) (by simp)).next b, (h.2 (k3, c3, btw 0 0) (by simp)).next b⟩
set_option maxRecDepth 100000 in
set_option maxHeartbeats 4000000 in
theorem asker_any (len : Nat) (hlen : len ≤ 32) (t c : Int) (ht : 0 ≤ t ∧ t ≤ 2) (hc : 0 ≤ c ∧ c ≤ 40) (w : World) :
    Calls Tryd.prog 42 #[.int .i64 (len : Int), .int .i64 t, .int .i64 c] w fun e w' => ∃ g, e = .returned (.func (.func 46) #[] #[.pointer (some ⟨g, 0, none⟩)]) ∧ RowsAt w' g len t c ∧ Below w.heap.size w w' := by
  have h1 := Lib.hid (Held.nil w)
  go_enter Tryd.func42, Tryd.ntmps42
  go_wp2_with fail
  refine (between_step h1.out _ _).mono ?_
  rintro e w1 ⟨k1, c1, rfl, h2⟩
  replace h1 := Lib.hid h2; clear h2
  go_wp2_with fail
  refine (exactly_step h1.out _).mono ?_
  rintro e w2 ⟨k2, c2, rfl, h2⟩
  replace h1 := Lib.hid h2; clear h2
  go_wp2_with fail
  refine (exactly_step h1.out _).mono ?_
  rintro e w3 ⟨k3, c3, rfl, h2⟩
  replace h1 := Lib.hid h2; clear h2
  go_wp2_with fail
  refine (between_step h1.out _ _).mono ?_
  rintro e w4 ⟨k4, c4, rfl, h2⟩
  replace h1 := Lib.hid h2; clear h2
  go_wp2_with fail
  refine (exactly_step h1.out _).mono ?_
  rintro e w5 ⟨k5, c5, rfl, h2⟩
  replace h1 := Lib.hid h2; clear h2
  go_wp2_with fail
  refine (oneOf3_step h1.out (p1 := btw 0 (t - 1)) (p2 := btw 3 3) (p3 := btw 4 4) (by simp) (by simp) (by simp)).mono ?_
  rintro e w6 ⟨k6, c6, rfl, h2⟩
  replace h1 := Lib.hid h2; clear h2
  go_wp2_with fail
  refine (exactly_step h1.out _).mono ?_
  rintro e w7 ⟨k7, c7, rfl, h2⟩
  replace h1 := Lib.hid h2; clear h2
  go_wp2_with fail
  refine (oneOf3_step h1.out (p1 := btw 0 (t - 1)) (p2 := btw 2 2) (p3 := btw 5 7) (by simp) (by simp) (by simp)).mono ?_
  rintro e w8 ⟨k8, c8, rfl, h2⟩
  replace h1 := Lib.hid h2; clear h2
  go_wp2_with fail
  refine (between_step h1.out _ _).mono ?_
  rintro e w9 ⟨k9, c9, rfl, h2⟩
  replace h1 := Lib.hid h2; clear h2
  go_wp2_with fail
  refine (between_step h1.out _ _).mono ?_
  rintro e w10 ⟨k10, c10, rfl, h2⟩
  replace h1 := Lib.hid h2; clear h2
  go_wp2_with fail
  refine (oneOf2_step h1.out (p1 := btw 0 (t - 1)) (p2 := btw 3 3) (by simp) (by simp)).mono ?_
  rintro e w11 ⟨k11, c11, rfl, h2⟩
  replace h1 := Lib.hid h2; clear h2
  go_wp2_with fail
  refine (between_step h1.out _ _).mono ?_
  rintro e w12 ⟨k12, c12, rfl, h2⟩
  replace h1 := Lib.hid h2; clear h2
  go_wp2_with fail
  refine (oneOf2_step h1.out (p1 := btw 0 (t - 1)) (p2 := btw 2 7) (by simp) (by simp)).mono ?_
  rintro e w13 ⟨k13, c13, rfl, h2⟩
  replace h1 := Lib.hid h2; clear h2
  go_wp2_with fail
  refine (between_step h1.out _ _).mono ?_
  rintro e w14 ⟨k14, c14, rfl, h2⟩
  replace h1 := Lib.hid h2; clear h2
  go_wp2_with fail
  refine (between_step h1.out _ _).mono ?_
  rintro e w15 ⟨k15, c15, rfl, h2⟩
  replace h1 := Lib.hid h2; clear h2
  go_wp2_with fail
  refine (between_step h1.out _ _).mono ?_
  rintro e w16 ⟨k16, c16, rfl, h2⟩
  replace h1 := Lib.hid h2; clear h2
  go_wp2_with fail
  refine (between_step h1.out _ _).mono ?_
  rintro e w17 ⟨k17, c17, rfl, h2⟩
  replace h1 := Lib.hid h2; clear h2
  go_wp2_with (refine wpList_store_row rfl 83 _ _ rfl w17.heap.size _ rfl rfl 83 _ (heap_alloc_new _ _) ?hi ?hold ?h1 ?_)
  case hi => kernel_rfl
  case hold => rfl
  case h1 => kernel_rfl
  have HR := Lib.hid (rows_new _ _ _ _ _ _ _ _ _ _ _ _ _ _ _ _ _ _ _ _ _ _ _ _ _ _ _ _ _ _ _ _ _ _ _ _ _ _ _ h1.out)
  have HB := Lib.hid (h1.out.next (below_alloc1 w17 (.cells #[.nilFunc, .nilFunc, .func (.func k10) #[] c10, .func (.func k3) #[] c3, .func (.func k3) #[] c3, .func (.func k3) #[] c3, .func (.func k3) #[] c3, .func (.func k3) #[] c3, .func (.func k3) #[] c3, .func (.func k3) #[] c3, .func (.func k3) #[] c3, .func (.func k3) #[] c3, .func (.func k4) #[] c4, .func (.func k3) #[] c3, .func (.func k11) #[] c11, .func (.func k3) #[] c3, .func (.func k9) #[] c9, .func (.func k3) #[] c3, .func (.func k9) #[] c9, .func (.func k3) #[] c3, .func (.func k13) #[] c13, .func (.func k3) #[] c3, .func (.func k6) #[] c6, .func (.func k3) #[] c3, .func (.func k6) #[] c6, .func (.func k3) #[] c3, .func (.func k8) #[] c8, .func (.func k3) #[] c3, .func (.func k8) #[] c8, .func (.func k3) #[] c3, .func (.func k8) #[] c8, .func (.func k3) #[] c3, .func (.func k8) #[] c8, .func (.func k3) #[] c3, .func (.func k8) #[] c8, .func (.func k14) #[] c14, .func (.func k8) #[] c8, .func (.func k3) #[] c3, .func (.func k8) #[] c8, .func (.func k3) #[] c3, .func (.func k1) #[] c1, .func (.func k3) #[] c3, .func (.func k6) #[] c6, .func (.func k15) #[] c15, .func (.func k16) #[] c16, .func (.func k3) #[] c3, .func (.func k17) #[] c17, .func (.func k3) #[] c3, .func (.func k3) #[] c3, .func (.func k3) #[] c3] 83))).1
  go_ret
  exact ⟨_, rfl, by rw [World.setRow_alloc_new]; exact HR.out, by rw [World.setRow_alloc_new]; exact HB.out⟩
end Go.Proofs.YtfhmadlobdklbaaDoor
