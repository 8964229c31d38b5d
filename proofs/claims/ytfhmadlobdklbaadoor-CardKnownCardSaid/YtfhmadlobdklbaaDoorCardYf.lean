/- What the frames of this layer share: the listed tables as the walks want them; a card as an argument. -/
import Derived.Test.YtfhmadlobdklbaaDoorRows
import Derived.Test.YtfhmadlobdklbaaDoorCardV
import Derived.WalkKit
import Derived.ProofKit
import Derived.OpenShut
import Derived.ChangeOld
import Derived.Below
import Derived.LaidMore
import Derived.LaidOnce
import Derived.Lay
import Derived.SevenTiedAt
import Derived.Stop.Joined
import Derived.Laws.IdiomArrays
import Derived.Lib.LaidTab
import Derived.Deep.Slices
import Derived.Deep.Strs
namespace Go.Proofs.YtfhmadlobdklbaaDoor
open Go.ChangeShapes Go.WideShapes Go.ChangeAt Go.RowKit
set_option linter.unusedVariables false
set_option linter.unusedSimpArgs false

theorem own : ownKnob Tryd.prog.godebug = none := by kernel_rfl
theorem laidOut : laidOutB Tryd.prog = true := by kernel_rfl
/-- What the rows list. -/
abbrev listed : List (String × DataW Unit) := [("trefoil/card.kinds", Rows.laid_trefoil_card_kinds), ("trefoil/card.layers", Rows.laid_trefoil_card_layers), ("trefoil/card.instead", Rows.laid_trefoil_card_instead)]
theorem laid_reads {P : Program} {w : World} : ∀ {l : List (String × DataW Unit)} {ps : List MemPlace}, DataW.LaidVars P w l ps → ∀ {n : String} {d : DataW Unit}, (n, d) ∈ l →
    ∃ g t cs fuel p, P.globalNamed n = some g ∧ (P.globals[g]?).map (·.type) = some t ∧ w.var? P n = some cs ∧ DataW.trod (fun _ => ()) P w 0 (fun _ => true) false fuel t cs.toList = some (d, p)
  | [], _, _, _, _, hm => by cases hm
  | (n0, d0) :: r, ps, h, n, d, hm => by
    obtain ⟨g, t, cs, fuel, p, q, h1, h2, h3, h4, h5, _⟩ := h
    rcases List.mem_cons.1 hm with e | hm
    · cases e
      exact ⟨g, t, cs, fuel, p, h1, h2, h3, h4⟩
    · exact laid_reads h5 hm
theorem cInt : Tryd.prog.cellsOf 3 = 1 := by kernel_rfl
theorem cSpan : Tryd.prog.cellsOf 46 = 2 := by kernel_rfl
section
variable {H : Type} {enc : TypeId × Value → H} {W : World} {base : Nat} {sp : Nat → Bool} {held : Bool}
theorem one_int {fuel : Nat} {v : Value} {y : DataW H × List MemPlace} (h : DataW.trod enc Tryd.prog W base sp held fuel 3 [v] = some y) : ∃ n : Int, v = .int .i64 n ∧ y.1 = .lit (.int .i64 n) ∧ In64 n := by
  obtain ⟨n, e, hy, hw⟩ := DataW.trod_int Tryd.underlying3 h
  refine ⟨n, by simpa using e, by rw [hy], ?_⟩
  have := bounds_i64 hw
  exact this
/-- A row of four numbers: a struct of four. -/
theorem row_kinds {fuel : Nat} {cs : List Value} {a b c d : Int} {p : List MemPlace} (h : DataW.trod enc Tryd.prog W base sp held fuel 58 cs = some (.agg [.lit (.int .i64 a), .lit (.int .i64 b), .lit (.int .i64 c), .lit (.int .i64 d)], p)) :
    cs = [.int .i64 a, .int .i64 b, .int .i64 c, .int .i64 d] := by
  obtain ⟨xs, n, _, hx, hl, hxl, hf⟩ := DataW.trod_struct Tryd.underlying58 h
  rw [show Tryd.prog.cellsOf 58 = 4 by kernel_rfl] at hl
  match cs, hl, xs, hxl with
  | [v0, v1, v2, v3], _, [y0, y1, y2, y3], _ =>
    have h0 := hf 0 _ rfl
    have h1 := hf 1 _ rfl
    have h2 := hf 2 _ rfl
    have h3 := hf 3 _ rfl
    simp [cInt] at h0 h1 h2 h3 hx
    obtain ⟨n0, rfl, e0, _⟩ := one_int h0
    obtain ⟨n1, rfl, e1, _⟩ := one_int h1
    obtain ⟨n2, rfl, e2, _⟩ := one_int h2
    obtain ⟨n3, rfl, e3, _⟩ := one_int h3
    obtain ⟨⟨x0, x1, x2, x3⟩, _⟩ := hx
    rw [e0] at x0; rw [e1] at x1; rw [e2] at x2; rw [e3] at x3
    simp at x0 x1 x2 x3
    subst x0 x1 x2 x3
    rfl
theorem row_span {fuel : Nat} {v0 v1 : Value} {a b : Int} {y : DataW H × List MemPlace} (hy : y.1 = .agg [.lit (.int .i64 a), .lit (.int .i64 b)]) (h : DataW.trod enc Tryd.prog W base sp held fuel 46 [v0, v1] = some y) : v0 = .int .i64 a ∧ v1 = .int .i64 b := by
  obtain ⟨xs, n, _, hx, hl, hxl, hf⟩ := DataW.trod_struct Tryd.underlying46 h
  match xs, hxl with
  | [y0, y1], _ =>
    have h0 := hf 0 _ rfl
    have h1 := hf 1 _ rfl
    simp [cInt] at h0 h1
    obtain ⟨n0, rfl, e0, _⟩ := one_int h0
    obtain ⟨n1, rfl, e1, _⟩ := one_int h1
    rw [hx] at hy
    simp [e0, e1] at hy
    obtain ⟨x0, x1⟩ := hy
    subst x0 x1
    exact ⟨rfl, rfl⟩
theorem row_lay {fuel : Nat} {cs : List Value} {a b c d : Int} {p : List MemPlace} (h : DataW.trod enc Tryd.prog W base sp held fuel 72 cs = some (.agg [.agg [.lit (.int .i64 a), .lit (.int .i64 b)], .agg [.lit (.int .i64 c), .lit (.int .i64 d)]], p)) :
    cs = [.int .i64 a, .int .i64 b, .int .i64 c, .int .i64 d] := by
  obtain ⟨xs, n, _, hx, hl, hxl, hf⟩ := DataW.trod_struct Tryd.underlying72 h
  rw [show Tryd.prog.cellsOf 72 = 4 by kernel_rfl] at hl
  match cs, hl, xs, hxl with
  | [v0, v1, v2, v3], _, [y0, y1], _ =>
    have h0 := hf 0 _ rfl
    have h1 := hf 1 _ rfl
    simp [cSpan] at h0 h1 hx
    obtain ⟨⟨x0, x1⟩, _⟩ := hx
    obtain ⟨rfl, rfl⟩ := row_span x0.symm h0
    obtain ⟨rfl, rfl⟩ := row_span x1.symm h1
    rfl
theorem row_ins {fuel : Nat} {cs : List Value} {a b c d : Int} {p : List MemPlace} (h : DataW.trod enc Tryd.prog W base sp held fuel 74 cs = some (.agg [.agg [.lit (.int .i64 a), .lit (.int .i64 b)], .agg [.lit (.int .i64 c), .lit (.int .i64 d)]], p)) :
    cs = [.int .i64 a, .int .i64 b, .int .i64 c, .int .i64 d] := by
  obtain ⟨xs, n, _, hx, hl, hxl, hf⟩ := DataW.trod_struct Tryd.underlying74 h
  rw [show Tryd.prog.cellsOf 74 = 4 by kernel_rfl] at hl
  match cs, hl, xs, hxl with
  | [v0, v1, v2, v3], _, [y0, y1], _ =>
    have h0 := hf 0 _ rfl
    have h1 := hf 1 _ rfl
    simp [cSpan] at h0 h1 hx
    obtain ⟨⟨x0, x1⟩, _⟩ := hx
    obtain ⟨rfl, rfl⟩ := row_span x0.symm h0
    obtain ⟨rfl, rfl⟩ := row_span x1.symm h1
    rfl
/-- Five rows of four. -/
theorem five_rows {fuel : Nat} {t e : TypeId} {cs : List Value} {p : List MemPlace} (D : Int → Int → Int → Int → DataW H) (ht : Tryd.prog.underlying t = some (.array 5 e)) (hce : Tryd.prog.cellsOf e = 4) (hct : Tryd.prog.cellsOf t = 20)
    (hrow : ∀ (fuel : Nat) (cs : List Value) (a b c d : Int) (p : List MemPlace), DataW.trod enc Tryd.prog W base sp held fuel e cs = some (D a b c d, p) → cs = [.int .i64 a, .int .i64 b, .int .i64 c, .int .i64 d])
    (a0 b0 c0 d0 a1 b1 c1 d1 a2 b2 c2 d2 a3 b3 c3 d3 a4 b4 c4 d4 : Int)
    (h : DataW.trod enc Tryd.prog W base sp held fuel t cs = some (.agg [D a0 b0 c0 d0, D a1 b1 c1 d1, D a2 b2 c2 d2, D a3 b3 c3 d3, D a4 b4 c4 d4], p)) :
    cs = [a0, b0, c0, d0, a1, b1, c1, d1, a2, b2, c2, d2, a3, b3, c3, d3, a4, b4, c4, d4].map (Value.int .i64) := by
  obtain ⟨xs, m, _, hx, hl, hxl, hf⟩ := DataW.trod_array ht h
  rw [hct] at hl
  match cs, hl, xs, hxl with
  | [v0, v1, v2, v3, v4, v5, v6, v7, v8, v9, v10, v11, v12, v13, v14, v15, v16, v17, v18, v19], _, [y0, y1, y2, y3, y4], _ =>
    have h0 := hf 0 (by omega)
    have h1 := hf 1 (by omega)
    have h2 := hf 2 (by omega)
    have h3 := hf 3 (by omega)
    have h4 := hf 4 (by omega)
    simp [hce] at h0 h1 h2 h3 h4 hx
    obtain ⟨⟨x0, x1, x2, x3, x4⟩, _⟩ := hx
    obtain ⟨z0, p0⟩ := y0
    obtain ⟨z1, p1⟩ := y1
    obtain ⟨z2, p2⟩ := y2
    obtain ⟨z3, p3⟩ := y3
    obtain ⟨z4, p4⟩ := y4
    simp only at x0 x1 x2 x3 x4
    subst x0 x1 x2 x3 x4
    have r0 := hrow _ _ _ _ _ _ _ h0
    have r1 := hrow _ _ _ _ _ _ _ h1
    have r2 := hrow _ _ _ _ _ _ _ h2
    have r3 := hrow _ _ _ _ _ _ _ h3
    have r4 := hrow _ _ _ _ _ _ _ h4
    simp only [List.cons.injEq, and_true] at r0 r1 r2 r3 r4
    simp [r0, r1, r2, r3, r4]
end
theorem gK : Tryd.prog.globalNamed "trefoil/card.kinds" = some 0 := by kernel_rfl
theorem gL : Tryd.prog.globalNamed "trefoil/card.layers" = some 1 := by kernel_rfl
theorem gI : Tryd.prog.globalNamed "trefoil/card.instead" = some 2 := by kernel_rfl
theorem tK : (Tryd.prog.globals[0]?).map (·.type) = some 59 := by kernel_rfl
theorem tL : (Tryd.prog.globals[1]?).map (·.type) = some 73 := by kernel_rfl
theorem tI : (Tryd.prog.globals[2]?).map (·.type) = some 75 := by kernel_rfl
theorem kinds_cells {W : World} {cs : List Value} {fuel : Nat} {p : List MemPlace} (h : DataW.trod (fun _ => ()) Tryd.prog W 0 (fun _ => true) false fuel 59 cs = some (Rows.laid_trefoil_card_kinds, p)) : cs = kindsT.map (Value.int .i64) :=
  five_rows (fun a b c d => .agg [.lit (.int .i64 a), .lit (.int .i64 b), .lit (.int .i64 c), .lit (.int .i64 d)]) Tryd.underlying59 (by kernel_rfl) (by kernel_rfl) (fun _ _ _ _ _ _ _ h => row_kinds h) 0 0 0 0 0 3 0 0 20 0 15 127 20 0 0 64 20 0 0 64 h
theorem lay_cells {W : World} {cs : List Value} {fuel : Nat} {p : List MemPlace} (h : DataW.trod (fun _ => ()) Tryd.prog W 0 (fun _ => true) false fuel 73 cs = some (Rows.laid_trefoil_card_layers, p)) : cs = layT.map (Value.int .i64) :=
  five_rows (fun a b c d => .agg [.agg [.lit (.int .i64 a), .lit (.int .i64 b)], .agg [.lit (.int .i64 c), .lit (.int .i64 d)]]) Tryd.underlying73 (by kernel_rfl) (by kernel_rfl) (fun _ _ _ _ _ _ _ h => row_lay h) 0 0 0 0 1 127 0 0 1 127 0 0 0 15 0 15 (-15) 15 (-15) 15 h
theorem ins_cells {W : World} {cs : List Value} {fuel : Nat} {p : List MemPlace} (h : DataW.trod (fun _ => ()) Tryd.prog W 0 (fun _ => true) false fuel 75 cs = some (Rows.laid_trefoil_card_instead, p)) : cs = insT.map (Value.int .i64) :=
  five_rows (fun a b c d => .agg [.agg [.lit (.int .i64 a), .lit (.int .i64 b)], .agg [.lit (.int .i64 c), .lit (.int .i64 d)]]) Tryd.underlying75 (by kernel_rfl) (by kernel_rfl) (fun _ _ _ _ _ _ _ h => row_ins h) 0 0 0 0 0 0 1 999 0 1 0 0 0 0 0 999 0 1 0 0 h
theorem tab_at (T : List Int) (hT : T.length = 20) (j : Nat) (hj : j < 20) : (T.map (Value.int .i64))[j]? = some (.int .i64 (T.getD j 0)) := by
  rw [List.getElem?_map, List.getD, List.getElem?_eq_getElem (by omega)]
  rfl
theorem tabs_of_laid {W : World} (h : laidMetH Tryd.prog listed W) : Tabs W := by
  rw [MakeChecks.laidMetH_plain _ _ _ (by kernel_rfl)] at h
  obtain ⟨ps, hv, _⟩ := h
  have k1 : ∀ j, j < 20 → W.cell? ⟨0, j, none⟩ = some (.int .i64 (kindsT.getD j 0)) := by
    obtain ⟨g, t, cs, fuel, p, h1, h2, h3, h4⟩ := laid_reads hv (n := "trefoil/card.kinds") (d := Rows.laid_trefoil_card_kinds) (by simp)
    obtain rfl := Option.some.inj (gK.symm.trans h1)
    obtain rfl := Option.some.inj (tK.symm.trans h2)
    intro j hj
    rw [World.var?_cell gK h3 j, ← Array.getElem?_toList, kinds_cells h4]
    exact tab_at _ rfl j hj
  have k2 : ∀ j, j < 20 → W.cell? ⟨1, j, none⟩ = some (.int .i64 (layT.getD j 0)) := by
    obtain ⟨g, t, cs, fuel, p, h1, h2, h3, h4⟩ := laid_reads hv (n := "trefoil/card.layers") (d := Rows.laid_trefoil_card_layers) (by simp)
    obtain rfl := Option.some.inj (gL.symm.trans h1)
    obtain rfl := Option.some.inj (tL.symm.trans h2)
    intro j hj
    rw [World.var?_cell gL h3 j, ← Array.getElem?_toList, lay_cells h4]
    exact tab_at _ rfl j hj
  have k3 : ∀ j, j < 20 → W.cell? ⟨2, j, none⟩ = some (.int .i64 (insT.getD j 0)) := by
    obtain ⟨g, t, cs, fuel, p, h1, h2, h3, h4⟩ := laid_reads hv (n := "trefoil/card.instead") (d := Rows.laid_trefoil_card_instead) (by simp)
    obtain rfl := Option.some.inj (gI.symm.trans h1)
    obtain rfl := Option.some.inj (tI.symm.trans h2)
    intro j hj
    rw [World.var?_cell gI h3 j, ← Array.getElem?_toList, ins_cells h4]
    exact tab_at _ rfl j hj
  exact ⟨World.block_lt_of_cell? W _ (k3 0 (by omega)), k1, k2, k3⟩
/-- A start that meets the condition. -/
theorem met (os : Os) (args : Array Value) : laidMetH Tryd.prog listed ((World.laidAll Tryd.prog os listed).forCall (fun _ _ => 0) ⟨#[], args, []⟩).memory := by
  rw [MakeChecks.laidMetH_plain _ _ _ (by kernel_rfl)]
  exact laidMet_laidAll _ (by kernel_rfl) (by kernel_rfl)
theorem start_shaped (os : Os) (args : Array Value) : ((World.laidAll Tryd.prog os listed).forCall (fun _ _ => 0) ⟨#[], args, []⟩).Shaped Tryd.prog :=
  World.shaped_of_ZipB (by kernel_rfl) (by kernel_rfl)
end Go.Proofs.YtfhmadlobdklbaaDoor
