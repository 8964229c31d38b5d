/- Abilities, as their cells; isOnly. -/
import Derived.Test.YtfhmadlobdklbaaDoorCardB
import Derived.ChangeKeysEq
import Derived.Laws.StructEq
namespace Go.Proofs.YtfhmadlobdklbaaDoor
open Go.RowKit
set_option linter.unusedVariables false
set_option linter.unusedSimpArgs false

/-- An ability's cells: numbers, and where its Targets and its Code lie. -/
structure Ab where
  k : Int
  ev : Int
  wh : Int
  c0 : Int
  c1 : Int
  c2 : Int
  c3 : Int
  tap : Bool
  ta : Option Addr
  tn : Nat
  tc : Nat
  ca : Option Addr
  cn : Nat
  cc : Nat
  op : Int
  a : Int
  b : Int
def abCells (x : Ab) : List Value := [.int .i64 x.k, .int .i64 x.ev, .int .i64 x.wh, .int .i64 x.c0, .int .i64 x.c1, .int .i64 x.c2, .int .i64 x.c3, .bool x.tap, .slice x.ta x.tn x.tc, .slice x.ca x.cn x.cc, .int .i64 x.op, .int .i64 x.a, .int .i64 x.b]
/-- Are the costs one? -/
def costB (x y : Ab) : Bool := x.c0 == y.c0 && (x.c1 == y.c1 && (x.c2 == y.c2 && x.c3 == y.c3))
/-- What isOnly tells. -/
def onlyB (x y : Ab) : Bool := x.ev == y.ev && (x.wh == y.wh && (costB x y && (x.tap == y.tap && ((x.tn : Int) == (y.tn : Int) && ((x.cn : Int) == (y.cn : Int) && (x.op == y.op && (x.a == y.a && x.b == y.b)))))))
theorem part_eq (d : Nat) (xs ys : Array Value) (i : Nat) (x y : Int) (w : World) (hx : xs[i]? = some (.int .i64 x)) (hy : ys[i]? = some (.int .i64 y)) (is : List Nat) :
    (Op.eqItems (d + 1) 3 1 xs ys (i :: is)).run Tryd.prog w = if x == y then (Op.eqItems (d + 1) 3 1 xs ys is).run Tryd.prog w else .ok false w := by
  have p1 := run_part_plain (P := Tryd.prog) (w := w) (e := 3) (by kernel_rfl) (by rw [Nat.mul_one]; exact hx : xs[i * 1]? = some (.int .i64 x))
  have p2 := run_part_plain (P := Tryd.prog) (w := w) (e := 3) (by kernel_rfl) (by rw [Nat.mul_one]; exact hy : ys[i * 1]? = some (.int .i64 y))
  have p3 := run_equalIn_int (P := Tryd.prog) w d 3 .i64 .i64 x y Tryd.underlying3
  simp only [Op.eqItems, Sem.run_bind, p1, p2, p3, Result.andThen_ok]
  cases h : (x == y) <;> simp
theorem equal_mana (a0 a1 a2 a3 b0 b1 b2 b3 : Int) (w : World) :
    (Op.equalIn 10000 23 (.agg #[.int .i64 a0, .int .i64 a1, .int .i64 a2, .int .i64 a3]) (.agg #[.int .i64 b0, .int .i64 b1, .int .i64 b2, .int .i64 b3])).run Tryd.prog w = .ok (a0 == b0 && (a1 == b1 && (a2 == b2 && a3 == b3))) w := by
  obtain ⟨i, hi, _, _, _⟩ := info_parts (show (Tryd.prog.info? 3).map (fun i => (i.zero, i.size, i.bytes)) = some (some (.int .i64 0), 1, 8) by kernel_rfl)
  rw [show (10000 : Nat) = 9999 + 1 from rfl, run_equalIn_array w 9999 _ _ Tryd.underlying23 hi, show Tryd.prog.cellsOf 3 = 1 by kernel_rfl, show List.range 4 = [0, 1, 2, 3] from rfl,
    part_eq 9998 _ _ 0 a0 b0 w rfl rfl, part_eq 9998 _ _ 1 a1 b1 w rfl rfl, part_eq 9998 _ _ 2 a2 b2 w rfl rfl, part_eq 9998 _ _ 3 a3 b3 w rfl rfl]
  cases h0 : (a0 == b0) <;> cases h1 : (a1 == b1) <;> cases h2 : (a2 == b2) <;> cases h3 : (a3 == b3) <;> simp [Op.eqItems]
set_option maxRecDepth 100000 in
set_option maxHeartbeats 4000000 in
theorem isOnly_any (x y : Ab) (r : Bool) (hr : onlyB x y = r) (w : World) :
    Calls Tryd.prog 36 #[.agg #[.int .i64 x.k, .int .i64 x.ev, .int .i64 x.wh, .int .i64 x.c0, .int .i64 x.c1, .int .i64 x.c2, .int .i64 x.c3, .bool x.tap, .slice x.ta x.tn x.tc, .slice x.ca x.cn x.cc, .int .i64 x.op, .int .i64 x.a, .int .i64 x.b], .agg #[.int .i64 y.k, .int .i64 y.ev, .int .i64 y.wh, .int .i64 y.c0, .int .i64 y.c1, .int .i64 y.c2, .int .i64 y.c3, .bool y.tap, .slice y.ta y.tn y.tc, .slice y.ca y.cn y.cc, .int .i64 y.op, .int .i64 y.a, .int .i64 y.b]] w fun e w' => e = .returned (.bool r) ∧ Below w.heap.size w w' := by
  have HR := Lib.hid hr
  clear hr
  have HB := Lib.hid (below_alloc2 w (.cells #[.int .i64 x.k, .int .i64 x.ev, .int .i64 x.wh, .int .i64 x.c0, .int .i64 x.c1, .int .i64 x.c2, .int .i64 x.c3, .bool x.tap, .slice x.ta x.tn x.tc, .slice x.ca x.cn x.cc, .int .i64 x.op, .int .i64 x.a, .int .i64 x.b] 62) (.cells #[.int .i64 y.k, .int .i64 y.ev, .int .i64 y.wh, .int .i64 y.c0, .int .i64 y.c1, .int .i64 y.c2, .int .i64 y.c3, .bool y.tap, .slice y.ta y.tn y.tc, .slice y.ca y.cn y.cc, .int .i64 y.op, .int .i64 y.a, .int .i64 y.b] 62))
  have hq := fun W => equal_mana x.c0 x.c1 x.c2 x.c3 y.c0 y.c1 y.c2 y.c3 W
  obtain ⟨s, hs⟩ : ∃ s, s = costB x y := ⟨_, rfl⟩
  change ∀ W, _ = Result.ok (costB x y) W at hq
  rw [← hs] at hq
  have HS := Lib.hid hs
  clear hs
  cases h1 : (x.ev == y.ev)
  · go_enter Tryd.func36, Tryd.ntmps36
    go_wp2_with fail
    go_ret
    exact ⟨bool_ret (by rw [← HR.out]; simp only [onlyB, HS.out.symm, h1, Bool.and_true, Bool.true_and, Bool.false_and, Bool.and_false]), HB.out⟩
  · skip
    cases h2 : (x.wh == y.wh)
    · go_enter Tryd.func36, Tryd.ntmps36
      go_wp2_with fail
      go_ret
      exact ⟨bool_ret (by rw [← HR.out]; simp only [onlyB, HS.out.symm, h1, h2, Bool.and_true, Bool.true_and, Bool.false_and, Bool.and_false]), HB.out⟩
    · skip
      cases s
      · go_enter Tryd.func36, Tryd.ntmps36
        go_wp2_with fail
        go_ret
        exact ⟨bool_ret (by rw [← HR.out]; simp only [onlyB, HS.out.symm, h1, h2, Bool.and_true, Bool.true_and, Bool.false_and, Bool.and_false]), HB.out⟩
      · skip
        cases h4 : (x.tap == y.tap)
        · go_enter Tryd.func36, Tryd.ntmps36
          go_wp2_with fail
          go_ret
          exact ⟨bool_ret (by rw [← HR.out]; simp only [onlyB, HS.out.symm, h1, h2, h4, Bool.and_true, Bool.true_and, Bool.false_and, Bool.and_false]), HB.out⟩
        · skip
          cases h5 : ((x.tn : Int) == (y.tn : Int))
          · go_enter Tryd.func36, Tryd.ntmps36
            go_wp2_with fail
            go_ret
            exact ⟨bool_ret (by rw [← HR.out]; simp only [onlyB, HS.out.symm, h1, h2, h4, h5, Bool.and_true, Bool.true_and, Bool.false_and, Bool.and_false]), HB.out⟩
          · skip
            cases h6 : ((x.cn : Int) == (y.cn : Int))
            · go_enter Tryd.func36, Tryd.ntmps36
              go_wp2_with fail
              go_ret
              exact ⟨bool_ret (by rw [← HR.out]; simp only [onlyB, HS.out.symm, h1, h2, h4, h5, h6, Bool.and_true, Bool.true_and, Bool.false_and, Bool.and_false]), HB.out⟩
            · skip
              cases h7 : (x.op == y.op)
              · go_enter Tryd.func36, Tryd.ntmps36
                go_wp2_with fail
                go_ret
                exact ⟨bool_ret (by rw [← HR.out]; simp only [onlyB, HS.out.symm, h1, h2, h4, h5, h6, h7, Bool.and_true, Bool.true_and, Bool.false_and, Bool.and_false]), HB.out⟩
              · skip
                cases h8 : (x.a == y.a)
                · go_enter Tryd.func36, Tryd.ntmps36
                  go_wp2_with fail
                  go_ret
                  exact ⟨bool_ret (by rw [← HR.out]; simp only [onlyB, HS.out.symm, h1, h2, h4, h5, h6, h7, h8, Bool.and_true, Bool.true_and, Bool.false_and, Bool.and_false]), HB.out⟩
                · skip
                  cases h9 : (x.b == y.b)
                  · go_enter Tryd.func36, Tryd.ntmps36
                    go_wp2_with fail
                    go_ret
                    exact ⟨bool_ret (by rw [← HR.out]; simp only [onlyB, HS.out.symm, h1, h2, h4, h5, h6, h7, h8, h9, Bool.and_true, Bool.true_and, Bool.false_and, Bool.and_false]), HB.out⟩
                  · go_enter Tryd.func36, Tryd.ntmps36
                    go_wp2_with fail
                    go_ret
                    exact ⟨bool_ret (by rw [← HR.out]; simp only [onlyB, HS.out.symm, h1, h2, h4, h5, h6, h7, h8, h9, Bool.and_true, Bool.true_and, Bool.false_and, Bool.and_false]), HB.out⟩
end Go.Proofs.YtfhmadlobdklbaaDoor
