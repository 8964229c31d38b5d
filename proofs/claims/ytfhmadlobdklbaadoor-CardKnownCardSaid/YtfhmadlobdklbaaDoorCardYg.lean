/- A card as an argument. -/
import Derived.Test.YtfhmadlobdklbaaDoorCardYf
import Derived.Deep.Fields
namespace Go.Proofs.YtfhmadlobdklbaaDoor
open Go.ChangeShapes Go.WideShapes Go.ChangeAt Go.RowKit
set_option linter.unusedVariables false
set_option linter.unusedSimpArgs false

instance : Inhabited Ins := ⟨⟨0, 0, 0⟩⟩
instance : Inhabited AbT := ⟨(⟨0, 0, 0, 0, 0, 0, 0, false, none, 0, 0, none, 0, 0, 0, 0, 0⟩, [], [])⟩
theorem cIns : Tryd.prog.cellsOf 53 = 3 := by kernel_rfl
theorem cAb : Tryd.prog.cellsOf 41 = 13 := by kernel_rfl
theorem cMana : Tryd.prog.cellsOf 23 = 4 := by kernel_rfl
theorem cBool : Tryd.prog.cellsOf 4 = 1 := by kernel_rfl
theorem cStr : Tryd.prog.cellsOf 9 = 1 := by kernel_rfl
theorem cInts : Tryd.prog.cellsOf 38 = 1 := by kernel_rfl
theorem cCode : Tryd.prog.cellsOf 39 = 1 := by kernel_rfl
theorem cAbs : Tryd.prog.cellsOf 24 = 1 := by kernel_rfl
theorem cCard : Tryd.prog.cellsOf 26 = 11 := by kernel_rfl
theorem list3 {α : Type} (l : List α) (h : l.length = 3) : ∃ a b c, l = [a, b, c] := by
  match l, h with
  | [a, b, c], _ => exact ⟨a, b, c, rfl⟩
section
variable {H : Type} {enc : TypeId × Value → H} {W : World} {base : Nat} {sp : Nat → Bool} {held : Bool}
theorem open_ins {fuel : Nat} {cs : List Value} {x : DataW H × List MemPlace} (h : DataW.trod enc Tryd.prog W base sp held fuel 53 cs = some x) :
    ∃ y : Ins, cs = [.int .i64 y.op, .int .i64 y.a, .int .i64 y.b] := by
  obtain ⟨y0, y1, y2, n, _, hl, h0, h1, h2⟩ := Deep.trod_struct3 Tryd.underlying53 h
  rw [cIns] at hl
  obtain ⟨c0, c1, c2, rfl⟩ := list3 cs hl
  obtain ⟨x0, e0, _, w0⟩ := DataW.trod_int Tryd.underlying3 h0
  obtain ⟨x1, e1, _, w1⟩ := DataW.trod_int Tryd.underlying3 h1
  obtain ⟨x2, e2, _, w2⟩ := DataW.trod_int Tryd.underlying3 h2
  simp [cInt] at e0 e1 e2
  subst e0 e1 e2
  exact ⟨⟨x0, x1, x2⟩, rfl⟩
theorem open_code {fuel : Nat} {v : Value} {x : DataW H × List MemPlace} (h : DataW.trod enc Tryd.prog W base sp held fuel 39 [v] = some x) :
    ∃ (a : Option Addr) (len cap : Nat) (L : List Ins), v = .slice a len cap ∧ L.length = len ∧ IsC W a cap L := by
  rcases Deep.open_slice Tryd.underlying39 h with ⟨hcs, _⟩ | ⟨x, len, cap, m, n, D, Pl, hcs, _, hl, hm, hmm, _, hx⟩
  · simp at hcs
    exact ⟨none, 0, 0, [], hcs, rfl, IsC.nil _⟩
  · simp at hcs
    have hall : ∀ i, i < len → ∃ y : Ins, W.cell? (x.add (i * 3)) = some (.int .i64 y.op) ∧ W.cell? ((x.add (i * 3)).add 1) = some (.int .i64 y.a) ∧ W.cell? ((x.add (i * 3)).add 2) = some (.int .i64 y.b) := fun i hi => by
      obtain ⟨cs', h1, h2⟩ := hx i (by rw [hmm]; split <;> omega)
      rw [cIns] at h1
      obtain ⟨_, h3, h4⟩ := World.cells?_some h1
      obtain ⟨y, rfl⟩ := open_ins h2
      refine ⟨y, ?_, h4 1 (by omega), h4 2 (by omega)⟩
      have := h4 0 (by omega)
      rwa [show (x.add (i * 3)).add 0 = x.add (i * 3) by simp [Addr.add]] at this
    obtain ⟨Y, hY⟩ := Deep.choose_lt (α := Ins) (n := len) (p := fun i y => W.cell? (x.add (i * 3)) = some (.int .i64 y.op) ∧ W.cell? ((x.add (i * 3)).add 1) = some (.int .i64 y.a) ∧ W.cell? ((x.add (i * 3)).add 2) = some (.int .i64 y.b)) hall
    refine ⟨_, _, _, (List.range len).map Y, hcs, by simp, by simpa using hl, by unfold maxLen at hm; omega, ?_⟩
    by_cases hz : len = 0
    · left; simpa using hz
    · right
      have h00 := (hY 0 (by omega)).1
      obtain ⟨b, off, spot⟩ := x
      have hspot : spot = none := by
        have := World.cell?_spot h00
        simpa [Addr.add] using this
      subst hspot
      refine ⟨b, off, rfl, by rw [add_plain] at h00; exact World.block_lt_of_cell? W _ h00, fun j hj => ?_⟩
      simp only [List.length_map, List.length_range] at hj
      obtain ⟨q0, q1, q2⟩ := hY j hj
      simp only [List.getElem_map, List.getElem_range]
      rw [add_plain] at q0 q1 q2
      rw [add_plain] at q1 q2
      exact ⟨q0, q1, q2⟩
theorem open_ints {fuel : Nat} {v : Value} {x : DataW H × List MemPlace} (h : DataW.trod enc Tryd.prog W base sp held fuel 38 [v] = some x) :
    ∃ (a : Option Addr) (len cap : Nat) (L : List Int), v = .slice a len cap ∧ L.length = len ∧ IsL W a cap L := by
  rcases Deep.open_slice Tryd.underlying38 h with ⟨hcs, _⟩ | ⟨x, len, cap, m, n, D, Pl, hcs, _, hl, hm, hmm, _, hx⟩
  · simp at hcs
    exact ⟨none, 0, 0, [], hcs, rfl, IsL.nil _⟩
  · simp at hcs
    have hall : ∀ i, i < len → ∃ y : Int, W.cell? (x.add i) = some (.int .i64 y) := fun i hi => by
      obtain ⟨cs', h1, h2⟩ := hx i (by rw [hmm]; split <;> omega)
      rw [cInt] at h1
      obtain ⟨_, h3, h4⟩ := World.cells?_some h1
      obtain ⟨y, rfl, _, _⟩ := DataW.trod_int Tryd.underlying3 h2
      refine ⟨y, ?_⟩
      have := h4 0 (by omega)
      rw [Nat.mul_one] at this
      rwa [show (x.add i).add 0 = x.add i by simp [Addr.add]] at this
    obtain ⟨Y, hY⟩ := Deep.choose_lt (α := Int) (n := len) (p := fun i y => W.cell? (x.add i) = some (.int .i64 y)) hall
    refine ⟨_, _, _, (List.range len).map Y, hcs, by simp, by simpa using hl, by unfold maxLen at hm; omega, ?_⟩
    by_cases hz : len = 0
    · left; simpa using hz
    · right
      have h00 := hY 0 (by omega)
      obtain ⟨b, off, spot⟩ := x
      have hspot : spot = none := by
        have := World.cell?_spot h00
        simpa [Addr.add] using this
      subst hspot
      refine ⟨b, off, rfl, by rw [add_plain] at h00; exact World.block_lt_of_cell? W _ h00, fun j hj => ?_⟩
      simp only [List.length_map, List.length_range] at hj
      have q0 := hY j hj
      simp only [List.getElem_map, List.getElem_range]
      rw [add_plain] at q0
      exact q0
theorem open_mana {fuel : Nat} {v0 v1 v2 v3 : Value} {x : DataW H × List MemPlace} (h : DataW.trod enc Tryd.prog W base sp held fuel 23 [v0, v1, v2, v3] = some x) :
    ∃ n0 n1 n2 n3 : Int, v0 = .int .i64 n0 ∧ v1 = .int .i64 n1 ∧ v2 = .int .i64 n2 ∧ v3 = .int .i64 n3 := by
  obtain ⟨xs, m, _, hx, hl, hxl, hf⟩ := DataW.trod_array Tryd.underlying23 h
  match xs, hxl with
  | [y0, y1, y2, y3], _ =>
    have h0 := hf 0 (by omega)
    have h1 := hf 1 (by omega)
    have h2 := hf 2 (by omega)
    have h3 := hf 3 (by omega)
    simp [cInt] at h0 h1 h2 h3
    obtain ⟨n0, rfl, _, _⟩ := one_int h0
    obtain ⟨n1, rfl, _, _⟩ := one_int h1
    obtain ⟨n2, rfl, _, _⟩ := one_int h2
    obtain ⟨n3, rfl, _, _⟩ := one_int h3
    exact ⟨n0, n1, n2, n3, rfl, rfl, rfl, rfl⟩
theorem open_ab {fuel : Nat} {cs : List Value} {x : DataW H × List MemPlace} (h : DataW.trod enc Tryd.prog W base sp held fuel 41 cs = some x) :
    ∃ t : AbT, cs = abCells t.1 ∧ AbR W t.1 t.2.1 t.2.2 := by
  obtain ⟨xs, n, _, hx, hl, hxl, hf⟩ := DataW.trod_struct Tryd.underlying41 h
  rw [cAb] at hl
  match cs, hl, xs, hxl with
  | [v0, v1, v2, v3, v4, v5, v6, v7, v8, v9, v10, v11, v12], _, [y0, y1, y2, y3, y4, y5, y6, y7, y8, y9], _ =>
    have h0 := hf 0 _ rfl
    have h1 := hf 1 _ rfl
    have h2 := hf 2 _ rfl
    have h3 := hf 3 _ rfl
    have h4 := hf 4 _ rfl
    have h5 := hf 5 _ rfl
    have h6 := hf 6 _ rfl
    have h7 := hf 7 _ rfl
    have h8 := hf 8 _ rfl
    have h9 := hf 9 _ rfl
    simp [cInt, cMana, cBool, cInts, cCode] at h0 h1 h2 h3 h4 h5 h6 h7 h8 h9
    obtain ⟨k, rfl, _, _⟩ := one_int h0
    obtain ⟨ev, rfl, _, _⟩ := one_int h1
    obtain ⟨wh, rfl, _, _⟩ := one_int h2
    obtain ⟨c0, c1, c2, c3, rfl, rfl, rfl, rfl⟩ := open_mana h3
    obtain ⟨tap, e4, _⟩ := DataW.trod_bool Tryd.underlying4 h4
    obtain ⟨ta, tn, tc, T, rfl, t1, t2⟩ := open_ints h5
    obtain ⟨ca, cn, cc, L, rfl, l1, l2⟩ := open_code h6
    obtain ⟨op, rfl, _, _⟩ := one_int h7
    obtain ⟨a, rfl, _, _⟩ := one_int h8
    obtain ⟨b, rfl, _, _⟩ := one_int h9
    simp at e4
    subst e4
    exact ⟨(⟨k, ev, wh, c0, c1, c2, c3, tap, ta, tn, tc, ca, cn, cc, op, a, b⟩, T, L), rfl, ⟨t1, t2⟩, l1, l2⟩
theorem open_abils {fuel : Nat} {v : Value} {x : DataW H × List MemPlace} (h : DataW.trod enc Tryd.prog W base sp held fuel 24 [v] = some x) :
    ∃ (a : Option Addr) (len cap : Nat) (A : List AbT), v = .slice a len cap ∧ A.length = len ∧ IsA W a cap A := by
  rcases Deep.open_slice Tryd.underlying24 h with ⟨hcs, _⟩ | ⟨x, len, cap, m, n, D, Pl, hcs, _, hl, hm, hmm, _, hx⟩
  · simp at hcs
    exact ⟨none, 0, 0, [], hcs, rfl, IsA.nil _⟩
  · simp at hcs
    have hall : ∀ i, i < len → ∃ t : AbT, (∀ j, j < 13 → W.cell? ((x.add (i * 13)).add j) = (abCells t.1)[j]?) ∧ AbR W t.1 t.2.1 t.2.2 := fun i hi => by
      obtain ⟨cs', h1, h2⟩ := hx i (by rw [hmm]; split <;> omega)
      rw [cAb] at h1
      obtain ⟨_, h3, h4⟩ := World.cells?_some h1
      obtain ⟨t, rfl, ht⟩ := open_ab h2
      exact ⟨t, h4, ht⟩
    obtain ⟨Y, hY⟩ := Deep.choose_lt (α := AbT) (n := len) (p := fun i t => (∀ j, j < 13 → W.cell? ((x.add (i * 13)).add j) = (abCells t.1)[j]?) ∧ AbR W t.1 t.2.1 t.2.2) hall
    refine ⟨_, _, _, (List.range len).map Y, hcs, by simp, by simpa using hl, by unfold maxLen at hm; omega, fun t ht => ?_, ?_⟩
    · obtain ⟨i, hi, rfl⟩ := List.mem_map.1 ht
      exact (hY i (by simpa using hi)).2
    · by_cases hz : len = 0
      · left; simpa using hz
      · right
        have h00 := (hY 0 (by omega)).1 0 (by omega)
        obtain ⟨b, off, spot⟩ := x
        have hspot : spot = none := by
          have := World.cell?_spot (h00.trans rfl)
          simpa [Addr.add] using this
        subst hspot
        refine ⟨b, off, rfl, by rw [add_plain, add_plain] at h00; exact World.block_lt_of_cell? W _ (h00.trans rfl), fun j hj i hi => ?_⟩
        simp only [List.length_map, List.length_range] at hj
        have q0 := (hY j hj).1 i hi
        simp only [List.getElem_map, List.getElem_range]
        rw [add_plain, add_plain] at q0
        exact q0
theorem open_card {r : Reach} {b0 : Nat} {v : Value} {d : DataW H} {p : List MemPlace} (hv : Value.okWide Tryd.prog W r b0 26 v) (h : DataW.Trod enc Tryd.prog W base sp held 26 v d p) :
    ∃ (y : Cd) (A : List AbT), v = .agg #[.string y.nm, .int .i64 y.k, .int .i64 y.c0, .int .i64 y.c1, .int .i64 y.c2, .int .i64 y.c3, .int .i64 y.col, .int .i64 y.pow, .int .i64 y.tou, .int .i64 y.keys, .slice y.aa y.an y.ac] ∧ CdR W y A ∧ CdOk y := by
  obtain ⟨cs, rfl, hsz⟩ := okWide_struct Tryd.underlying26 hv
  obtain ⟨l⟩ := cs
  match l, hsz.trans cCard with
  | [v0, v1, v2, v3, v4, v5, v6, v7, v8, v9, v10], _ =>
    obtain ⟨fuel, hf'⟩ := h
    obtain ⟨xs, n, _, hx, _, hxl, hf⟩ := DataW.trod_struct Tryd.underlying26 hf'
    match xs, hxl with
    | [y0, y1, y2, y3, y4, y5, y6, y7], _ =>
      have h0 := hf 0 _ rfl
      have h1 := hf 1 _ rfl
      have h2 := hf 2 _ rfl
      have h3 := hf 3 _ rfl
      have h4 := hf 4 _ rfl
      have h5 := hf 5 _ rfl
      have h6 := hf 6 _ rfl
      have h7 := hf 7 _ rfl
      simp [Value.cells, cInt, cMana, cStr, cAbs] at h0 h1 h2 h3 h4 h5 h6 h7
      obtain ⟨nm, e0, _, hnm⟩ := DataW.trod_string Tryd.underlying9 h0
      obtain ⟨k, rfl, _, _⟩ := one_int h1
      obtain ⟨c0, c1, c2, c3, rfl, rfl, rfl, rfl⟩ := open_mana h2
      obtain ⟨col, rfl, _, _⟩ := one_int h3
      obtain ⟨pow, rfl, _, _⟩ := one_int h4
      obtain ⟨tou, rfl, _, _⟩ := one_int h5
      obtain ⟨keys, rfl, _, hk⟩ := one_int h6
      obtain ⟨aa, an, ac, A, rfl, a1, a2⟩ := open_abils h7
      simp at e0
      subst e0
      exact ⟨⟨nm, k, c0, c1, c2, c3, col, pow, tou, keys, aa, an, ac⟩, A, rfl, ⟨a1, a2⟩, hnm, hk⟩
end
end Go.Proofs.YtfhmadlobdklbaaDoor
