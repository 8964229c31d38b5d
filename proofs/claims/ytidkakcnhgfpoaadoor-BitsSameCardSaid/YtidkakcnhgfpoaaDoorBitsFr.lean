/- What the frames of this layer share: the listed table as the walks want it; a set as an argument (four words), opened and shut; a list of numbers, opened. -/
import Derived.Test.YtidkakcnhgfpoaaDoorRows
import Derived.Test.YtidkakcnhgfpoaaDoorBitsA
import Derived.WalkKit
import Derived.ProofKit
import Derived.OpenShut
import Derived.ChangeOld
import Derived.Below
import Derived.LaidMore
import Derived.LaidOnce
import Derived.Lay
import Derived.SevenTiedAt
import Derived.Stop.Joined
import Derived.Laws.IdiomArrays
import Derived.Lib.LaidTab
import Derived.Shelf.Spec.TrailingZeros
namespace Go.Proofs.YtidkakcnhgfpoaaDoor
open Go.ChangeShapes Go.WideShapes Go.ChangeAt Go.RowKit
set_option linter.unusedVariables false

theorem own : ownKnob Tryd.prog.godebug = none := by kernel_rfl
theorem laidOut : laidOutB Tryd.prog = true := by kernel_rfl
/-- What the rows list. -/
abbrev listed : List (String × DataW Unit) := [("math/bits.deBruijn64tab", Rows.laid_math_bits_deBruijn64tab)]
theorem gTab : Tryd.prog.globalNamed "math/bits.deBruijn64tab" = some 0 := by kernel_rfl
theorem tTab : (Tryd.prog.globals[0]?).map (·.type) = some 49 := by kernel_rfl
theorem cTab : Tryd.prog.cellsOf 49 = 64 := by kernel_rfl
theorem cByte : Tryd.prog.cellsOf 5 = 1 := by kernel_rfl
theorem cSet : Tryd.prog.cellsOf 23 = 4 := by kernel_rfl
theorem cWord : Tryd.prog.cellsOf 22 = 1 := by kernel_rfl
theorem listed_tab : listed = [("math/bits.deBruijn64tab", Lib.tabData .u8 (Lib.deBruijn64tab.map Int.ofNat))] := by
  unfold listed Rows.laid_math_bits_deBruijn64tab Lib.tabData Lib.deBruijn64tab
  simp

theorem tab_of_laid {W : World} (h : laidMetH Tryd.prog listed W) : TabAt 0 Lib.deBruijn64tab W ∧ 0 < W.heap.size := by
  rw [MakeChecks.laidMetH_plain _ _ _ (by kernel_rfl), listed_tab] at h
  have ht := Lib.tabIs_of_head gTab tTab Tryd.underlying49 Tryd.underlying5 cByte cTab h
  have hT : TabAt 0 Lib.deBruijn64tab W := fun j hj => by
    rw [ht.cell gTab j (by simpa using hj)]
    simp [List.getD, List.getElem?_map, List.getElem?_eq_getElem hj]
  exact ⟨hT, World.block_lt_of_cell? W _ (hT 0 (by decide))⟩

/-- A start that meets the condition. -/
theorem met (os : Os) (args : Array Value) : laidMetH Tryd.prog listed ((World.laidAll Tryd.prog os listed).forCall (fun _ _ => 0) ⟨#[], args, []⟩).memory := by
  rw [MakeChecks.laidMetH_plain _ _ _ (by kernel_rfl)]
  exact laidMet_laidAll _ (by kernel_rfl) (by kernel_rfl)
theorem start_shaped (os : Os) (args : Array Value) : ((World.laidAll Tryd.prog os listed).forCall (fun _ _ => 0) ⟨#[], args, []⟩).Shaped Tryd.prog :=
  World.shaped_of_ZipB (by kernel_rfl) (by kernel_rfl)

section
variable {H : Type} {enc : TypeId × Value → H} {W : World} {base : Nat}
/-- A set's datum. -/
abbrev dv (N : Nat) : DataW H := .agg [.lit (.int .u64 (wd N 0 : Int)), .lit (.int .u64 (wd N 1 : Int)), .lit (.int .u64 (wd N 2 : Int)), .lit (.int .u64 (wd N 3 : Int))]
/-- IN A CONTEXT OF ITS OWN. -/
theorem list4 {α : Type} (l : List α) (h : (⟨l⟩ : Array α).size = 4) : ∃ a b c d, l = [a, b, c, d] := by
  match l, h with
  | [a, b, c, d], _ => exact ⟨a, b, c, d, rfl⟩
theorem word_nat {x : Int} (w : (Lit.int .u64 x).wf = true) : ∃ a : Nat, a < 18446744073709551616 ∧ x = (a : Int) := by
  have := bounds_u64 w
  exact ⟨x.toNat, by omega, by omega⟩
theorem open_set {v : Value} {d : DataW H} {p : List MemPlace} {sp : Nat → Bool} {held : Bool} (hv : Value.okWide Tryd.prog W .any base 23 v) (h : DataW.Trod enc Tryd.prog W 0 sp held 23 v d p) :
    ∃ N, fits N ∧ v = sv N ∧ d = dv N ∧ p = [] := by
  obtain ⟨cs, rfl, hsz, _⟩ : ∃ cs, v = .agg cs ∧ cs.size = Tryd.prog.cellsOf 23 ∧ Row.okWide Tryd.prog W .any base 23 cs := by
    simpa [Value.okWide, Tryd.underlying23] using hv
  rw [cSet] at hsz
  obtain ⟨l⟩ := cs
  obtain ⟨c0, c1, c2, c3, rfl⟩ := list4 l hsz
  obtain ⟨fuel, hf⟩ := h
  obtain ⟨y0, y1, y2, y3, m, hx, hy0, hy1, hy2, hy3⟩ := trod_array4 Tryd.underlying23 cWord hf
  obtain ⟨x0, e0, rfl, w0⟩ := DataW.trod_int Tryd.underlying22 hy0
  obtain ⟨x1, e1, rfl, w1⟩ := DataW.trod_int Tryd.underlying22 hy1
  obtain ⟨x2, e2, rfl, w2⟩ := DataW.trod_int Tryd.underlying22 hy2
  obtain ⟨x3, e3, rfl, w3⟩ := DataW.trod_int Tryd.underlying22 hy3
  simp at e0 e1 e2 e3
  subst e0 e1 e2 e3
  simp only [Prod.mk.injEq] at hx
  obtain ⟨rfl, rfl⟩ := hx
  obtain ⟨a, ha, rfl⟩ := word_nat w0
  obtain ⟨b, hb, rfl⟩ := word_nat w1
  obtain ⟨c, hc, rfl⟩ := word_nat w2
  obtain ⟨d, hd, rfl⟩ := word_nat w3
  obtain ⟨s0, s1, s2, s3, hfit⟩ := setOf_wd a b c d ha hb hc hd
  exact ⟨setOf a b c d, hfit, by unfold sv; rw [s0, s1, s2, s3], by unfold dv; rw [s0, s1, s2, s3], rfl⟩
theorem shut_set (N : Nat) (sp : Nat → Bool) (held : Bool) : DataW.Trod enc Tryd.prog W base sp held 23 (sv N) (dv N) [] := by
  have hwf : ∀ k, (Lit.int .u64 (wd N k : Int)).wf = true := fun k => by
    have := wd_lt N k
    simp [Lit.wf, IntKind.min, IntKind.max, IntKind.signed, IntKind.bits]
    omega
  exact ⟨2, by simp [DataW.trod, Value.cells, Tryd.underlying23, Tryd.underlying22, cSet, cWord, hwf, show List.range 4 = [0, 1, 2, 3] from rfl]⟩
end
end Go.Proofs.YtidkakcnhgfpoaaDoor
