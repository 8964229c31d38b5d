/- Arrays of three as arguments. -/
import Derived.Test.YtfhmadlobdklbaaDoorCardYg
namespace Go.Proofs.YtfhmadlobdklbaaDoor
open Go.ChangeShapes Go.WideShapes Go.ChangeAt Go.RowKit
set_option linter.unusedVariables false
set_option linter.unusedSimpArgs false

theorem cU8s : Tryd.prog.cellsOf 35 = 3 := by kernel_rfl
theorem cInts3 : Tryd.prog.cellsOf 36 = 3 := by kernel_rfl
theorem cU8 : Tryd.prog.cellsOf 5 = 1 := by kernel_rfl
theorem okWide_arr {P : Program} {w : World} {r : Reach} {base : Nat} {t e : TypeId} {n : Nat} {v : Value} (ht : P.underlying t = some (.array n e)) (h : Value.okWide P w r base t v) : ∃ cs, v = .agg cs ∧ cs.size = P.cellsOf t := by
  simp only [Value.okWide, ht] at h
  obtain ⟨cs, h1, h2, _⟩ := h
  exact ⟨cs, h1, h2⟩
section
variable {H : Type} {enc : TypeId × Value → H} {W : World} {base : Nat} {sp : Nat → Bool} {held : Bool}
theorem one_u8 {fuel : Nat} {v : Value} {y : DataW H × List MemPlace} (h : DataW.trod enc Tryd.prog W base sp held fuel 5 [v] = some y) : ∃ n : Nat, v = .int .u8 (n : Int) ∧ n ≤ 255 := by
  obtain ⟨n, e, hy, hw⟩ := DataW.trod_int Tryd.underlying5 h
  have b := bounds_u8 hw
  obtain ⟨m, rfl⟩ : ∃ m : Nat, n = (m : Int) := ⟨n.toNat, by omega⟩
  exact ⟨m, by simpa using e, by omega⟩
theorem open_u8s {r : Reach} {b0 : Nat} {v : Value} {d : DataW H} {p : List MemPlace} (hv : Value.okWide Tryd.prog W r b0 35 v) (h : DataW.Trod enc Tryd.prog W base sp held 35 v d p) :
    ∃ a b c : Nat, v = .agg #[.int .u8 (a : Int), .int .u8 (b : Int), .int .u8 (c : Int)] ∧ a ≤ 255 ∧ b ≤ 255 ∧ c ≤ 255 := by
  obtain ⟨cs, rfl, hsz⟩ := okWide_arr Tryd.underlying35 hv
  obtain ⟨l⟩ := cs
  match l, hsz.trans cU8s with
  | [v0, v1, v2], _ =>
    obtain ⟨fuel, hf'⟩ := h
    obtain ⟨xs, m, _, hx, hl, hxl, hf⟩ := DataW.trod_array Tryd.underlying35 hf'
    match xs, hxl with
    | [y0, y1, y2], _ =>
      have h0 := hf 0 (by omega)
      have h1 := hf 1 (by omega)
      have h2 := hf 2 (by omega)
      simp [Value.cells, cU8] at h0 h1 h2
      obtain ⟨n0, rfl, b0⟩ := one_u8 h0
      obtain ⟨n1, rfl, b1⟩ := one_u8 h1
      obtain ⟨n2, rfl, b2⟩ := one_u8 h2
      exact ⟨n0, n1, n2, rfl, b0, b1, b2⟩
theorem open_ints3 {r : Reach} {b0 : Nat} {v : Value} {d : DataW H} {p : List MemPlace} (hv : Value.okWide Tryd.prog W r b0 36 v) (h : DataW.Trod enc Tryd.prog W base sp held 36 v d p) :
    ∃ a b c : Int, v = .agg #[.int .i64 a, .int .i64 b, .int .i64 c] ∧ In64 a ∧ In64 b ∧ In64 c := by
  obtain ⟨cs, rfl, hsz⟩ := okWide_arr Tryd.underlying36 hv
  obtain ⟨l⟩ := cs
  match l, hsz.trans cInts3 with
  | [v0, v1, v2], _ =>
    obtain ⟨fuel, hf'⟩ := h
    obtain ⟨xs, m, _, hx, hl, hxl, hf⟩ := DataW.trod_array Tryd.underlying36 hf'
    match xs, hxl with
    | [y0, y1, y2], _ =>
      have h0 := hf 0 (by omega)
      have h1 := hf 1 (by omega)
      have h2 := hf 2 (by omega)
      simp [Value.cells, cInt] at h0 h1 h2
      obtain ⟨n0, rfl, _, b0⟩ := one_int h0
      obtain ⟨n1, rfl, _, b1⟩ := one_int h1
      obtain ⟨n2, rfl, _, b2⟩ := one_int h2
      exact ⟨n0, n1, n2, rfl, b0, b1, b2⟩
end
end Go.Proofs.YtfhmadlobdklbaaDoor
