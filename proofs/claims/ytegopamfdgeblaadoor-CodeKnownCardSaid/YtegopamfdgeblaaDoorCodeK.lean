/- word, told: the parts of a code's text. -/
import Derived.Test.YtegopamfdgeblaaDoorCodeH
import Derived.Lib.ItoaLen
namespace Go.Proofs.YtegopamfdgeblaaDoor
open Go.RowKit
set_option linter.unusedVariables false
set_option linter.unusedSimpArgs false

/-- The words of the Ops. -/
def wordTab : List (List UInt8) := [[], [110, 117, 109], [97, 100, 100], [115, 117, 98], [109, 117, 108], [108, 101, 115, 115], [99, 111, 117, 110, 116], [108, 105, 102, 101], [106, 117, 109, 112], [122, 101, 114, 111], [104, 117, 114, 116], [103, 97, 105, 110], [100, 114, 97, 119], [107, 105, 108, 108], [98, 111, 117, 110, 99, 101], [98, 97, 110, 105, 115, 104], [112, 117, 109, 112], [103, 114, 97, 110, 116], [116, 97, 112], [117, 110, 116, 97, 112], [99, 111, 117, 110, 116, 101, 114], [116, 111, 107, 101, 110], [109, 97, 110, 97], [114, 111, 108, 108], [101, 110, 100]]
def wordL (op : Int) : List UInt8 := if 1 ≤ op ∧ op ≤ 24 then wordTab.getD op.toNat [] else [63]
def bytesS (l : List UInt8) : ByteArray := ⟨l.toArray⟩
theorem bytesS_size (l : List UInt8) : (bytesS l).size = l.length := by simp [bytesS, ByteArray.size]
/-- The program's table of words, in memory. -/
def WordsAt (w : World) : Prop := 0 < w.heap.size ∧ ∀ j, j < 25 → w.cell? ⟨0, j, none⟩ = some (.string (bytesS (wordTab.getD j [])))
theorem WordsAt.next {w w' : World} (h : WordsAt w) (b : Below w.heap.size w w') : WordsAt w' :=
  ⟨Nat.lt_of_lt_of_le h.1 b.size, fun j hj => (b.cell (p := ⟨0, j, none⟩) h.1).trans (h.2 j hj)⟩
theorem str_ret {a b : ByteArray} (h : a = b) : Ending.returned (.string a) = .returned (.string b) := by rw [h]
set_option maxHeartbeats 1000000 in
theorem word_any (op : Int) (w : World) (h : WordsAt w) :
    Calls Tryd.prog 23 #[.int .i64 op] w fun e w' => e = .returned (.string (bytesS (wordL op))) ∧ w = w' := by
  by_cases ho : 1 ≤ op ∧ op ≤ 24
  · obtain ⟨j, rfl⟩ : ∃ j : Nat, op = (j : Int) := ⟨op.toNat, by omega⟩
    have HO := Lib.hid (isOp_at (j : Int) true (by simp [btw]; omega))
    have hc := h.2 j (by omega)
    have HV := Lib.hid (show wordL (j : Int) = wordTab.getD j [] by rw [wordL, if_pos ho]; rfl)
    obtain ⟨s, hs⟩ : ∃ s, s = bytesS (wordTab.getD j []) := ⟨_, rfl⟩
    rw [← hs] at hc
    have HS := Lib.hid hs
    clear hs h
    go_enter Tryd.func23, Tryd.ntmps23
    go_wp2_with fail
    refine (HO.out _).mono ?_
    rintro e w1 ⟨rfl, rfl⟩
    go_wp2_with fail
    go_ret
    exact ⟨str_ret (by rw [HV.out]; exact HS.out), rfl⟩
  · have HO := Lib.hid (isOp_at op false (by simp [btw]; omega))
    have HV := Lib.hid (show bytesS (wordL op) = ⟨#[63]⟩ by rw [wordL, if_neg ho]; rfl)
    clear h
    go_enter Tryd.func23, Tryd.ntmps23
    go_wp2_with fail
    refine (HO.out _).mono ?_
    rintro e w1 ⟨rfl, rfl⟩
    go_wp2_with fail
    go_ret
    exact ⟨str_ret HV.out.symm, rfl⟩
/-- A and B, as far as the last one that is not 0. -/
def toldL (x : Ins) : List Int := if x.b ≠ 0 then [x.a, x.b] else if x.a ≠ 0 then [x.a] else []
/-- The numbers M lie in a block of their own. -/
def IntsAt (w : World) (p : Option Addr) (M : List Int) : Prop := M = [] ∨ ∃ g, p = some ⟨g, 0, none⟩ ∧ w.heap[g]? = some (.cells (M.map (Value.int .i64)).toArray 3 (0, 0))
set_option maxHeartbeats 1000000 in
theorem told_any (x : Ins) (w : World) :
    Calls Tryd.prog 24 #[.agg #[.int .i64 x.op, .int .i64 x.a, .int .i64 x.b]] w fun e w' => ∃ p c, e = .returned (.slice p (toldL x).length c) ∧ (toldL x).length ≤ c ∧ c ≤ 2 ∧ IntsAt w' p (toldL x) ∧ Below w.heap.size w w' := by
  obtain ⟨op, a, b⟩ := x
  obtain ⟨M, hM⟩ : ∃ M, M = toldL ⟨op, a, b⟩ := ⟨_, rfl⟩
  rw [← hM]
  have HM := Lib.hid hM
  clear hM
  by_cases hb : b = 0
  · by_cases ha : a = 0
    · have HV := Lib.hid (show M = [] by rw [HM.out]; simp [toldL, ha, hb])
      go_enter Tryd.func24, Tryd.ntmps24
      go_wp2_with fail
      go_ret
      exact ⟨none, 0, by rw [HV.out]; rfl, by rw [HV.out]; simp, by omega, .inl HV.out, below_alloc1 _ _⟩
    · have HV := Lib.hid (show M = [a] by rw [HM.out]; simp [toldL, ha, hb])
      go_enter Tryd.func24, Tryd.ntmps24
      go_wp2_with fail
      go_ret
      exact ⟨_, 1, by rw [HV.out]; rfl, by rw [HV.out]; simp, by omega, .inr ⟨_, rfl, by rw [HV.out]; simpa using heap_two w _ (.cells #[.int .i64 a] 3)⟩, below_alloc2 _ _ _⟩
  · have HV := Lib.hid (show M = [a, b] by rw [HM.out]; simp [toldL, hb])
    go_enter Tryd.func24, Tryd.ntmps24
    go_wp2_with fail
    go_ret
    exact ⟨_, 2, by rw [HV.out]; rfl, by rw [HV.out]; simp, by omega, .inr ⟨_, rfl, by rw [HV.out]; simpa using heap_two w _ (.cells #[.int .i64 a, .int .i64 b] 3)⟩, below_alloc2 _ _ _⟩
end Go.Proofs.YtegopamfdgeblaaDoor
