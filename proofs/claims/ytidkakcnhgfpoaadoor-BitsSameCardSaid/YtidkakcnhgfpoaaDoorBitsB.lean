/- Contracts of the program's small functions: isPlace, the words' three ways, merge. -/
import Derived.Test.YtidkakcnhgfpoaaDoorBitsA
namespace Go.Proofs.YtidkakcnhgfpoaaDoor
open Go.RowKit
set_option linter.unusedVariables false

theorem place_any (i : Int) (w : World) : Calls Tryd.prog 29 #[.int .i64 i] w fun e w' => e = .returned (.bool (decide (0 ≤ i ∧ i < 256))) ∧ w = w' := by
  by_cases h0 : 0 ≤ i
  · by_cases h1 : i < 256
    all_goals
      go_enter Tryd.func29, Tryd.ntmps29
      go_wp2
      go_ret
      exact ⟨by simp [h0, h1], rfl⟩
  · go_enter Tryd.func29, Tryd.ntmps29
    go_wp2
    go_ret
    exact ⟨by simp; omega, rfl⟩
theorem and_word (a b : Nat) (ha : a < 18446744073709551616) (hb : b < 18446744073709551616) (w : World) :
    Calls Tryd.prog 37 #[.int .u64 (a : Int), .int .u64 (b : Int)] w fun e w' => e = .returned (.int .u64 ((a &&& b : Nat) : Int)) ∧ w = w' := by
  go_enter Tryd.func37, Tryd.ntmps37
  go_wp2
  go_ret
  exact ret_eq (int_eq (u64_and_nat a b ha hb))
theorem or_word (a b : Nat) (ha : a < 18446744073709551616) (hb : b < 18446744073709551616) (w : World) :
    Calls Tryd.prog 38 #[.int .u64 (a : Int), .int .u64 (b : Int)] w fun e w' => e = .returned (.int .u64 ((a ||| b : Nat) : Int)) ∧ w = w' := by
  go_enter Tryd.func38, Tryd.ntmps38
  go_wp2
  go_ret
  exact ret_eq (int_eq (u64_or_nat a b ha hb))
theorem less_word (a b : Nat) (ha : a < 18446744073709551616) (hb : b < 18446744073709551616) (w : World) :
    Calls Tryd.prog 39 #[.int .u64 (a : Int), .int .u64 (b : Int)] w fun e w' => e = .returned (.int .u64 ((less a b : Nat) : Int)) ∧ w = w' := by
  go_enter Tryd.func39, Tryd.ntmps39
  go_wp2
  go_ret
  exact ret_eq (int_eq (by rw [u64_andNot_nat a b ha hb, andNot_less a b ha hb]))
theorem index0 (x0 x1 x2 x3 : Value) (w : World) : (Instr.index 24 (.agg #[x0, x1, x2, x3]) (.int .i64 0)).run Tryd.prog w = .ok x0 w := by kernel_rfl
theorem index1 (x0 x1 x2 x3 : Value) (w : World) : (Instr.index 24 (.agg #[x0, x1, x2, x3]) (.int .i64 1)).run Tryd.prog w = .ok x1 w := by kernel_rfl
theorem index2 (x0 x1 x2 x3 : Value) (w : World) : (Instr.index 24 (.agg #[x0, x1, x2, x3]) (.int .i64 2)).run Tryd.prog w = .ok x2 w := by kernel_rfl
theorem index3 (x0 x1 x2 x3 : Value) (w : World) : (Instr.index 24 (.agg #[x0, x1, x2, x3]) (.int .i64 3)).run Tryd.prog w = .ok x3 w := by kernel_rfl
theorem res_set {fn : Func} {p : Tmp} (h : fn.results = #[.cell p 24]) (tmps : Array Value) (w : World) (g : Nat) (x0 x1 x2 x3 : Value)
    (hp : tmps.getD p undef = .pointer (some ⟨g, 0, none⟩)) (hg : w.heap[g]? = some (.cells #[x0, x1, x2, x3] 24 (0, 0))) : (results fn tmps).run Tryd.prog w = .ok (.agg #[x0, x1, x2, x3]) w :=
  results_cell_row h tmps w g 24 _ (0, 0) _ hp hg Tryd.underlying24 rfl (by kernel_rfl)
theorem below_alloc3 (w : World) (a b c : Obj) : Below w.heap.size w (((w.alloc a).alloc b).alloc c) :=
  (((Below.refl _ w).alloc (Nat.le_refl _) a).alloc (by simp) b).alloc (by simp; omega) c
theorem below_alloc2 (w : World) (a b : Obj) : Below w.heap.size w ((w.alloc a).alloc b) := ((Below.refl _ w).alloc (Nat.le_refl _) a).alloc (by simp) b
theorem below_alloc1 (w : World) (a : Obj) : Below w.heap.size w (w.alloc a) := (Below.refl _ w).alloc (Nat.le_refl _) a
theorem heap3 (w : World) (a b c : Obj) : (((w.alloc a).alloc b).alloc c).heap[w.heap.size + 1 + 1]? = some c := by
  have h := heap_alloc_new ((w.alloc a).alloc b) c
  simpa using h
/-- Block b is a variable of type T that holds an array of four. -/
def ArrIn (T b : Nat) (x0 x1 x2 x3 : Value) (w : World) : Prop := w.heap[b]? = some (.cells #[x0, x1, x2, x3] T (0, 0))
theorem ArrIn.lt {T b : Nat} {x0 x1 x2 x3 : Value} {w : World} (h : ArrIn T b x0 x1 x2 x3 w) : b < w.heap.size := (Array.getElem?_eq_some_iff.1 h).1
theorem ArrIn.below {T b B : Nat} {x0 x1 x2 x3 : Value} {w w' : World} (h : ArrIn T b x0 x1 x2 x3 w) (k : Below B w w') (hb : b < B) : ArrIn T b x0 x1 x2 x3 w' := (k.block b hb).trans h
theorem ArrIn.next {T b : Nat} {x0 x1 x2 x3 : Value} {w w' : World} (h : ArrIn T b x0 x1 x2 x3 w) (k : Below w.heap.size w w') : ArrIn T b x0 x1 x2 x3 w' := h.below k h.lt
theorem ArrIn.alloc {T b : Nat} {x0 x1 x2 x3 : Value} {w : World} (h : ArrIn T b x0 x1 x2 x3 w) (o : Obj) : ArrIn T b x0 x1 x2 x3 (w.alloc o) := (Below.heap_alloc _ _ _ h.lt).trans h
theorem ArrIn.new (T : Nat) (x0 x1 x2 x3 : Value) (w : World) : ArrIn T w.heap.size x0 x1 x2 x3 (w.alloc (.cells #[x0, x1, x2, x3] T)) := heap_alloc_new w _
theorem ArrIn.set {T b : Nat} {x0 x1 x2 x3 : Value} {w : World} (h : ArrIn T b x0 x1 x2 x3 w) (y0 y1 y2 y3 : Value) : ArrIn T b y0 y1 y2 y3 (w.setRow b #[y0, y1, y2, y3]) := setRow_heap w b _ _ T (0, 0) h
theorem ArrIn.set_other {T b c : Nat} {x0 x1 x2 x3 : Value} {w : World} (h : ArrIn T b x0 x1 x2 x3 w) (hbc : b ≠ c) (ys : Array Value) : ArrIn T b x0 x1 x2 x3 (w.setRow c ys) := (setRow_other w c b ys hbc).trans h
theorem below_setRow {B : Nat} {a w : World} (h : Below B a w) {b : Nat} (hb : B ≤ b) (ys : Array Value) : Below B a (w.setRow b ys) :=
  h.trans ⟨rfl, rfl, rfl, by simp, fun k hk => setRow_other w b k ys (by omega)⟩
theorem load_set {T b : Nat} {x0 x1 x2 x3 : Value} {w : World} (h : ArrIn T b x0 x1 x2 x3 w) : (Instr.loadAt 24 (.pointer (some ⟨b, 0, none⟩))).run Tryd.prog w = .ok (.agg #[x0, x1, x2, x3]) w := by
  have := run_loadVar_row (P := Tryd.prog) w b T 24 _ (0, 0) _ h Tryd.underlying24 rfl (by kernel_rfl)
  simp only [Instr.loadAt, Instr.sureAddr, Sem.run_bind, Sem.run_pure, Result.andThen_ok, this]
theorem load_arr {T b : Nat} {x0 x1 x2 x3 : Value} {w : World} (h : ArrIn T b x0 x1 x2 x3 w) : (Instr.loadAt 23 (.pointer (some ⟨b, 0, none⟩))).run Tryd.prog w = .ok (.agg #[x0, x1, x2, x3]) w := by
  have := run_loadVar_row (P := Tryd.prog) w b T 23 _ (0, 0) _ h Tryd.underlying23 rfl (by kernel_rfl)
  simp only [Instr.loadAt, Instr.sureAddr, Sem.run_bind, Sem.run_pure, Result.andThen_ok, this]
theorem store_set {T b : Nat} {x0 x1 x2 x3 : Value} {w : World} (h : ArrIn T b x0 x1 x2 x3 w) (k0 k1 k2 k3 : IntKind) (y0 y1 y2 y3 : Int) :
    (Instr.storeAt 24 (.pointer (some ⟨b, 0, none⟩)) (.agg #[.int k0 y0, .int k1 y1, .int k2 y2, .int k3 y3])).run Tryd.prog w = .ok () (w.setRow b #[.int k0 y0, .int k1 y1, .int k2 y2, .int k3 y3]) := by
  have := run_storeVar_row (P := Tryd.prog) w b T 24 _ #[.int k0 y0, .int k1 y1, .int k2 y2, .int k3 y3] h (by kernel_rfl) rfl (by simp [Value.oneCell'])
  simp only [Instr.storeAt, Instr.sureAddr, Sem.run_bind, Sem.run_pure, Result.andThen_ok, this]
theorem store_arr {T b : Nat} {x0 x1 x2 x3 : Value} {w : World} (h : ArrIn T b x0 x1 x2 x3 w) (k0 k1 k2 k3 : IntKind) (y0 y1 y2 y3 : Int) :
    (Instr.storeAt 23 (.pointer (some ⟨b, 0, none⟩)) (.agg #[.int k0 y0, .int k1 y1, .int k2 y2, .int k3 y3])).run Tryd.prog w = .ok () (w.setRow b #[.int k0 y0, .int k1 y1, .int k2 y2, .int k3 y3]) := by
  have := run_storeVar_row (P := Tryd.prog) w b T 23 _ #[.int k0 y0, .int k1 y1, .int k2 y2, .int k3 y3] h (by kernel_rfl) rfl (by simp [Value.oneCell'])
  simp only [Instr.storeAt, Instr.sureAddr, Sem.run_bind, Sem.run_pure, Result.andThen_ok, this]
theorem res_in {fn : Func} {p : Tmp} (h : fn.results = #[.cell p 24]) (tmps : Array Value) (w : World) (T g : Nat) (x0 x1 x2 x3 : Value)
    (hp : tmps.getD p undef = .pointer (some ⟨g, 0, none⟩)) (hg : ArrIn T g x0 x1 x2 x3 w) : (results fn tmps).run Tryd.prog w = .ok (.agg #[x0, x1, x2, x3]) w :=
  results_cell_row h tmps w g T _ (0, 0) _ hp hg Tryd.underlying24 rfl (by kernel_rfl)
theorem res_arr {fn : Func} {p : Tmp} (h : fn.results = #[.cell p 23]) (tmps : Array Value) (w : World) (T g : Nat) (x0 x1 x2 x3 : Value)
    (hp : tmps.getD p undef = .pointer (some ⟨g, 0, none⟩)) (hg : ArrIn T g x0 x1 x2 x3 w) : (results fn tmps).run Tryd.prog w = .ok (.agg #[x0, x1, x2, x3]) w :=
  results_cell_row h tmps w g T _ (0, 0) _ hp hg Tryd.underlying23 rfl (by kernel_rfl)
theorem below_then' {B : Nat} {a b c : World} (h : Below B a b) (k : Below b.heap.size b c) (hB : B ≤ b.heap.size) : Below B a c := h.trans (k.mono hB)
theorem wpList_store_set {ops : Array Oper} {rest : List Oper} {o : Oper} {a : Act} {w : World} {Q : Exit → Act → World → Prop} (hgd : o.guard = none) (ty : TypeId) (x y : Operand) (ho : o.op = .store ty x y)
    (T b : Nat) (hx : a.eval x = .pointer (some ⟨b, 0, none⟩)) (y0 y1 y2 y3 : Int) (hy : a.eval y = .agg #[.int .u64 y0, .int .u64 y1, .int .u64 y2, .int .u64 y3]) (x0 x1 x2 x3 : Value) (h : ArrIn T b x0 x1 x2 x3 w)
    (hi : (Tryd.prog.info? ty).map (·.size) = some 4)
    (hK : wpList Tryd.prog ops Q rest (a.put o.dst undef) (w.setRow b #[.int .u64 y0, .int .u64 y1, .int .u64 y2, .int .u64 y3])) : wpList Tryd.prog ops Q (o :: rest) a w :=
  wpList_plain hgd fun _ hK' => wp_store_row ty x y ho b _ hx hy T _ h hi rfl (by simp [Value.oneCell']) (hK' _ _ hK)
theorem keep_cell {w w' : World} (h : Below w.heap.size w w') {a : Addr} {v : Value} (hc : w.cell? a = some v) : w'.cell? a = some v :=
  (h.cell (World.block_lt_of_cell? w a hc)).trans hc
theorem keep_frozen {w w' : World} (h : Below w.heap.size w w') {a : Addr} {v : Value} (hc : w.cell? a = some v) (hf : w.frozen? a = false) : w'.frozen? a = false :=
  (h.frozen (World.block_lt_of_cell? w a hc)).trans hf
theorem keep4 {w w' : World} (h : Below w.heap.size w w') {b : Nat} {x0 x1 x2 x3 : Value}
    (hc : w.cell? ⟨b, 0, none⟩ = some x0 ∧ w.cell? ⟨b, 1, none⟩ = some x1 ∧ w.cell? ⟨b, 2, none⟩ = some x2 ∧ w.cell? ⟨b, 3, none⟩ = some x3) :
    w'.cell? ⟨b, 0, none⟩ = some x0 ∧ w'.cell? ⟨b, 1, none⟩ = some x1 ∧ w'.cell? ⟨b, 2, none⟩ = some x2 ∧ w'.cell? ⟨b, 3, none⟩ = some x3 :=
  ⟨keep_cell h hc.1, keep_cell h hc.2.1, keep_cell h hc.2.2.1, keep_cell h hc.2.2.2⟩
theorem keepf4 {w w' : World} (h : Below w.heap.size w w') {b : Nat} {x0 x1 x2 x3 : Value}
    (hc : w.cell? ⟨b, 0, none⟩ = some x0 ∧ w.cell? ⟨b, 1, none⟩ = some x1 ∧ w.cell? ⟨b, 2, none⟩ = some x2 ∧ w.cell? ⟨b, 3, none⟩ = some x3)
    (hf : w.frozen? ⟨b, 0, none⟩ = false ∧ w.frozen? ⟨b, 1, none⟩ = false ∧ w.frozen? ⟨b, 2, none⟩ = false ∧ w.frozen? ⟨b, 3, none⟩ = false) :
    w'.frozen? ⟨b, 0, none⟩ = false ∧ w'.frozen? ⟨b, 1, none⟩ = false ∧ w'.frozen? ⟨b, 2, none⟩ = false ∧ w'.frozen? ⟨b, 3, none⟩ = false :=
  ⟨keep_frozen h hc.1 hf.1, keep_frozen h hc.2.1 hf.2.1, keep_frozen h hc.2.2.1 hf.2.2.1, keep_frozen h hc.2.2.2 hf.2.2.2⟩
theorem ArrIn.cells {T b : Nat} {x0 x1 x2 x3 : Value} {w : World} (h : ArrIn T b x0 x1 x2 x3 w) :
    w.cell? ⟨b, 0, none⟩ = some x0 ∧ w.cell? ⟨b, 1, none⟩ = some x1 ∧ w.cell? ⟨b, 2, none⟩ = some x2 ∧ w.cell? ⟨b, 3, none⟩ = some x3 := by
  unfold ArrIn at h
  refine ⟨?_, ?_, ?_, ?_⟩ <;> simp [World.cell?, h]
theorem ArrIn.frozens {T b : Nat} {x0 x1 x2 x3 : Value} {w : World} (h : ArrIn T b x0 x1 x2 x3 w) :
    w.frozen? ⟨b, 0, none⟩ = false ∧ w.frozen? ⟨b, 1, none⟩ = false ∧ w.frozen? ⟨b, 2, none⟩ = false ∧ w.frozen? ⟨b, 3, none⟩ = false := by
  unfold ArrIn at h
  refine ⟨?_, ?_, ?_, ?_⟩ <;> simp [World.frozen?, h]
theorem ArrIn.set4 {T b : Nat} {x0 x1 x2 x3 : Value} {w : World} (h : ArrIn T b x0 x1 x2 x3 w) (y0 y1 y2 y3 : Value) :
    ArrIn T b y0 y1 y2 y3 ((((w.setCell ⟨b, 0, none⟩ y0).setCell ⟨b, 1, none⟩ y1).setCell ⟨b, 2, none⟩ y2).setCell ⟨b, 3, none⟩ y3) := by
  rw [setCell_eq_setRow w b 0 _ T (0, 0) _ h, setCell_eq_setRow _ b 1 _ T (0, 0) _ (setRow_heap w b _ _ T (0, 0) h), setRow_setRow,
    setCell_eq_setRow _ b 2 _ T (0, 0) _ (setRow_heap w b _ _ T (0, 0) h), setRow_setRow, setCell_eq_setRow _ b 3 _ T (0, 0) _ (setRow_heap w b _ _ T (0, 0) h), setRow_setRow]
  exact setRow_heap w b _ _ T (0, 0) h
theorem below_set4 {B : Nat} {a w : World} (h : Below B a w) {b : Nat} (hb : B ≤ b) (y0 y1 y2 y3 : Value) :
    Below B a ((((w.setCell ⟨b, 0, none⟩ y0).setCell ⟨b, 1, none⟩ y1).setCell ⟨b, 2, none⟩ y2).setCell ⟨b, 3, none⟩ y3) :=
  (((h.setCell (p := ⟨b, 0, none⟩) hb _).setCell (p := ⟨b, 1, none⟩) hb _).setCell (p := ⟨b, 2, none⟩) hb _).setCell (p := ⟨b, 3, none⟩) hb _
set_option maxHeartbeats 1000000 in
theorem merge_and (a0 a1 a2 a3 b0 b1 b2 b3 : Nat) (ha0 : a0 < 18446744073709551616) (ha1 : a1 < 18446744073709551616) (ha2 : a2 < 18446744073709551616) (ha3 : a3 < 18446744073709551616)
    (hb0 : b0 < 18446744073709551616) (hb1 : b1 < 18446744073709551616) (hb2 : b2 < 18446744073709551616) (hb3 : b3 < 18446744073709551616) (w : World) :
    Calls Tryd.prog 36 #[.agg #[.int .u64 (a0 : Int), .int .u64 (a1 : Int), .int .u64 (a2 : Int), .int .u64 (a3 : Int)], .agg #[.int .u64 (b0 : Int), .int .u64 (b1 : Int), .int .u64 (b2 : Int), .int .u64 (b3 : Int)], .func (.func 37) #[] #[]] w
      fun e w' => e = .returned (.agg #[.int .u64 ((a0 &&& b0 : Nat) : Int), .int .u64 ((a1 &&& b1 : Nat) : Int), .int .u64 ((a2 &&& b2 : Nat) : Int), .int .u64 ((a3 &&& b3 : Nat) : Int)]) ∧ Below w.heap.size w w' := by
  have i0 := index0; have i1 := index1; have i2 := index2; have i3 := index3
  go_enter Tryd.func36, Tryd.ntmps36
  go_wp2_with fail
  refine wp_loop_rounds 5 ?_
  rw [rounds_succ]
  go_wp2_with fail
  refine (and_word a0 b0 ha0 hb0 _).mono ?_
  rintro e w1 ⟨rfl, rfl⟩
  go_wp2_with fail
  rw [rounds_succ]
  go_wp2_with fail
  refine (and_word a1 b1 ha1 hb1 _).mono ?_
  rintro e w1 ⟨rfl, rfl⟩
  go_wp2_with fail
  rw [rounds_succ]
  go_wp2_with fail
  refine (and_word a2 b2 ha2 hb2 _).mono ?_
  rintro e w1 ⟨rfl, rfl⟩
  go_wp2_with fail
  rw [rounds_succ]
  go_wp2_with fail
  refine (and_word a3 b3 ha3 hb3 _).mono ?_
  rintro e w1 ⟨rfl, rfl⟩
  go_wp2_with fail
  rw [rounds_succ]
  go_wp2_with fail
  refine bodyPost_ret (res_set rfl _ _ (w.heap.size + 1 + 1) _ _ _ _ rfl (heap3 _ _ _ _)) rfl ?_
  exact ⟨rfl, below_alloc3 _ _ _ _⟩
set_option maxHeartbeats 1000000 in
theorem and_words (a0 a1 a2 a3 b0 b1 b2 b3 : Nat) (ha0 : a0 < 18446744073709551616) (ha1 : a1 < 18446744073709551616) (ha2 : a2 < 18446744073709551616) (ha3 : a3 < 18446744073709551616)
    (hb0 : b0 < 18446744073709551616) (hb1 : b1 < 18446744073709551616) (hb2 : b2 < 18446744073709551616) (hb3 : b3 < 18446744073709551616) (w : World) :
    Calls Tryd.prog 22 #[.agg #[.int .u64 (a0 : Int), .int .u64 (a1 : Int), .int .u64 (a2 : Int), .int .u64 (a3 : Int)], .agg #[.int .u64 (b0 : Int), .int .u64 (b1 : Int), .int .u64 (b2 : Int), .int .u64 (b3 : Int)]] w
      fun e w' => e = .returned (.agg #[.int .u64 ((a0 &&& b0 : Nat) : Int), .int .u64 ((a1 &&& b1 : Nat) : Int), .int .u64 ((a2 &&& b2 : Nat) : Int), .int .u64 ((a3 &&& b3 : Nat) : Int)]) ∧ Below w.heap.size w w' := by
  go_enter Tryd.func22, Tryd.ntmps22
  go_wp2_with fail
  refine (merge_and a0 a1 a2 a3 b0 b1 b2 b3 ha0 ha1 ha2 ha3 hb0 hb1 hb2 hb3 _).mono ?_
  rintro e w1 ⟨rfl, bw⟩
  have hr := ((ArrIn.new 24 (.int .u64 0) (.int .u64 0) (.int .u64 0) (.int .u64 0) ((w.alloc (.cells #[.int .u64 (a0 : Int), .int .u64 (a1 : Int), .int .u64 (a2 : Int), .int .u64 (a3 : Int)] 24)).alloc (.cells #[.int .u64 (b0 : Int), .int .u64 (b1 : Int), .int .u64 (b2 : Int), .int .u64 (b3 : Int)] 24))).next bw)
  have hi : (Tryd.prog.info? 24).map (·.size) = some 4 := by kernel_rfl
  have HR := Lib.hid hr
  have HB := Lib.hid (below_then' (below_alloc3 w _ _ _) bw (by simp; omega))
  clear hr bw
  simp only [World.size_alloc] at HR
  go_wp2_with (refine wpList_store_set rfl _ _ _ rfl 24 (w.heap.size + 1 + 1) rfl _ _ _ _ rfl _ _ _ _ HR.out hi ?_)
  refine bodyPost_ret (res_in rfl _ _ _ (w.heap.size + 1 + 1) _ _ _ _ rfl (HR.out.set _ _ _ _)) rfl ?_
  exact ⟨rfl, below_setRow HB.out (by omega) _⟩
theorem and_any (N M : Nat) (w : World) :
    Calls Tryd.prog 22 #[sv N, sv M] w fun e w' => e = .returned (sv (N &&& M)) ∧ Below w.heap.size w w' := by
  have hm := and_words (wd N 0) (wd N 1) (wd N 2) (wd N 3) (wd M 0) (wd M 1) (wd M 2) (wd M 3) (wd_lt _ _) (wd_lt _ _) (wd_lt _ _) (wd_lt _ _) (wd_lt _ _) (wd_lt _ _) (wd_lt _ _) (wd_lt _ _) w
  simp only [← wd_and] at hm
  exact hm
end Go.Proofs.YtidkakcnhgfpoaaDoor
