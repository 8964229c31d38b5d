/- Two instructions compared. -/
import Derived.Test.YtegopamfdgeblaaDoorCodeS
import Derived.ChangeKeysEq
import Derived.Laws.StructEq
namespace Go.Proofs.YtegopamfdgeblaaDoor
open Go.RowKit
set_option linter.unusedVariables false
set_option linter.unusedSimpArgs false

theorem fields_ins : (Tryd.prog.fieldsOf 34).toList.map (fun f => (f.type, f.offset)) = [(3, 0), (3, 1), (3, 2)] := by kernel_rfl
theorem und_ins : Tryd.prog.underlying 34 = some (.struct (Tryd.prog.fieldsOf 34)) := by kernel_rfl
theorem held_ins : Tryd.prog.stoodInHeld 34 = false := by kernel_rfl
theorem equal_ins (x y : Ins) (w : World) : (Op.equalIn 10000 34 (.agg #[.int .i64 x.op, .int .i64 x.a, .int .i64 x.b]) (.agg #[.int .i64 y.op, .int .i64 y.a, .int .i64 y.b])).run Tryd.prog w = .ok (decide (x = y)) w := by
  obtain ⟨o, a, b⟩ := x
  obtain ⟨p, c, d⟩ := y
  rw [show (10000 : Nat) = 9999 + 1 from rfl, run_equalIn_struct w 9999 _ _ _ und_ins held_ins]
  have hf := fields_ins
  have hn : ((Tryd.prog.fieldsOf 34).toList.map fun f => f.name != "_") = [true, true, true] := by kernel_rfl
  generalize (Tryd.prog.fieldsOf 34).toList = fs at *
  have hl : fs.length = 3 := by simpa using congrArg List.length hf
  obtain ⟨f0, f1, f2, rfl⟩ : ∃ f0 f1 f2, fs = [f0, f1, f2] := by
    match fs, hl with
    | [f0, f1, f2], _ => exact ⟨f0, f1, f2, rfl⟩
  simp only [List.map_cons, List.map_nil, List.cons.injEq, Prod.mk.injEq, and_true] at hf hn
  obtain ⟨⟨t0, o0⟩, ⟨t1, o1⟩, ⟨t2, o2⟩⟩ := hf
  obtain ⟨n0, n1, n2⟩ := hn
  have m0 : f0.name ≠ "_" := bne_iff_ne.1 n0
  have m1 : f1.name ≠ "_" := bne_iff_ne.1 n1
  have m2 : f2.name ≠ "_" := bne_iff_ne.1 n2
  have p0 := fun (u : Value) (xs : Array Value) (h : xs[0]? = some u) => run_part_plain (P := Tryd.prog) (w := w) (e := 3) (by kernel_rfl) h
  have p1 := fun (u : Value) (xs : Array Value) (h : xs[1]? = some u) => run_part_plain (P := Tryd.prog) (w := w) (e := 3) (by kernel_rfl) h
  have p2 := fun (u : Value) (xs : Array Value) (h : xs[2]? = some u) => run_part_plain (P := Tryd.prog) (w := w) (e := 3) (by kernel_rfl) h
  have q : ∀ a b : Int, (Op.equalIn 9999 3 (.int .i64 a) (.int .i64 b)).run Tryd.prog w = .ok (a == b) w := fun a b => run_equalIn_int (P := Tryd.prog) w 9998 3 .i64 .i64 a b Tryd.underlying3
  simp only [Op.eqFields, m0, m1, m2, t0, t1, t2, o0, o1, o2, Sem.run_bind, Sem.run_ite, ne_eq, not_false_eq_true, if_true,
    p0 (.int .i64 o) #[.int .i64 o, .int .i64 a, .int .i64 b] rfl, p0 (.int .i64 p) #[.int .i64 p, .int .i64 c, .int .i64 d] rfl,
    p1 (.int .i64 a) #[.int .i64 o, .int .i64 a, .int .i64 b] rfl, p1 (.int .i64 c) #[.int .i64 p, .int .i64 c, .int .i64 d] rfl,
    p2 (.int .i64 b) #[.int .i64 o, .int .i64 a, .int .i64 b] rfl, p2 (.int .i64 d) #[.int .i64 p, .int .i64 c, .int .i64 d] rfl, Result.andThen_ok, q]
  by_cases e0 : o = p
  · by_cases e1 : a = c
    · by_cases e2 : b = d
      · subst e0 e1 e2; simp
      · simp [e0, e1, e2]
    · simp [e0, e1]
  · simp [e0]
end Go.Proofs.YtegopamfdgeblaaDoor
