/- Two sets compared; the law's own rows. -/
import Derived.Test.YtidkakcnhgfpoaaDoorBitsS
import Derived.ChangeKeysEq
namespace Go.Proofs.YtidkakcnhgfpoaaDoor
open Go.RowKit
set_option linter.unusedVariables false

theorem eq_step (d : Nat) (xs ys : Array Value) (i : Nat) (is : List Nat) (x y : Int) (hx : xs[i * 1]? = some (.int .u64 x)) (hy : ys[i * 1]? = some (.int .u64 y)) (w : World) :
    (Op.eqItems (d + 1) 22 1 xs ys (i :: is)).run Tryd.prog w = if (x == y) = true then (Op.eqItems (d + 1) 22 1 xs ys is).run Tryd.prog w else .ok false w := by
  have p1 := run_part_plain (P := Tryd.prog) (w := w) (e := 22) (by kernel_rfl) hx
  have p2 := run_part_plain (P := Tryd.prog) (w := w) (e := 22) (by kernel_rfl) hy
  have p3 := run_equalIn_int (P := Tryd.prog) w d 22 .u64 .u64 x y Tryd.underlying22
  simp only [Op.eqItems, Sem.run_bind, p1, p2, p3, Result.andThen_ok]
  cases x == y <;> simp
theorem equal_words (a0 a1 a2 a3 b0 b1 b2 b3 : Int) (w : World) :
    (Op.equalIn 10000 24 (.agg #[.int .u64 a0, .int .u64 a1, .int .u64 a2, .int .u64 a3]) (.agg #[.int .u64 b0, .int .u64 b1, .int .u64 b2, .int .u64 b3])).run Tryd.prog w = .ok (a0 == b0 && (a1 == b1 && (a2 == b2 && a3 == b3))) w := by
  obtain ⟨i, hi, _, _, _⟩ := info_parts (show (Tryd.prog.info? 22).map (fun i => (i.zero, i.size, i.bytes)) = some (some (.int .u64 0), 1, 8) by kernel_rfl)
  rw [show (10000 : Nat) = 9999 + 1 from rfl, run_equalIn_array w 9999 _ _ Tryd.underlying24 hi, show Tryd.prog.cellsOf 22 = 1 by kernel_rfl, show List.range 4 = [0, 1, 2, 3] from rfl,
    show (9999 : Nat) = 9998 + 1 from rfl, eq_step 9998 _ _ 0 _ a0 b0 rfl rfl, eq_step 9998 _ _ 1 _ a1 b1 rfl rfl, eq_step 9998 _ _ 2 _ a2 b2 rfl rfl, eq_step 9998 _ _ 3 _ a3 b3 rfl rfl]
  cases a0 == b0 <;> cases a1 == b1 <;> cases a2 == b2 <;> cases a3 == b3 <;> simp [Op.eqItems]
theorem equal_set (N M : Nat) (hN : fits N) (hM : fits M) (w : World) : (Op.equalIn 10000 24 (sv N) (sv M)).run Tryd.prog w = .ok (decide (N = M)) w := by
  unfold sv
  rw [equal_words]
  congr 1
  by_cases h : N = M
  · subst h; simp
  · rw [decide_eq_false h]
    apply Bool.eq_false_iff.2
    intro hall
    simp only [Bool.and_eq_true, beq_iff_eq, Int.natCast_inj] at hall
    exact h (words_eq hN hM hall.1 hall.2.1 hall.2.2.1 hall.2.2.2)
end Go.Proofs.YtidkakcnhgfpoaaDoor
