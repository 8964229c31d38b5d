/- What the frames of this layer share: the listed tables as the walks want them; a code as an argument; flags as an argument. -/
import Derived.Test.YtegopamfdgeblaaDoorRows
import Derived.Test.YtegopamfdgeblaaDoorCodeL
import Derived.WalkKit
import Derived.ProofKit
import Derived.OpenShut
import Derived.ChangeOld
import Derived.Below
import Derived.LaidMore
import Derived.LaidOnce
import Derived.Lay
import Derived.SevenTiedAt
import Derived.Stop.Joined
import Derived.Laws.IdiomArrays
import Derived.Lib.LaidTab
import Derived.Deep.Slices
import Derived.Deep.Strs
namespace Go.Proofs.YtegopamfdgeblaaDoor
open Go.ChangeShapes Go.WideShapes Go.ChangeAt Go.RowKit
set_option linter.unusedVariables false
set_option linter.unusedSimpArgs false

theorem own : ownKnob Tryd.prog.godebug = none := by kernel_rfl
theorem laidOut : laidOutB Tryd.prog = true := by kernel_rfl
/-- What the rows list. -/
abbrev listed : List (String × DataW Unit) := [("math/bits.deBruijn32tab", Rows.laid_math_bits_deBruijn32tab), ("math/bits.deBruijn64tab", Rows.laid_math_bits_deBruijn64tab), ("internal/strconv.uint64pow10", Rows.laid_internal_strconv_uint64pow10), ("trefoil/code.words", Rows.laid_trefoil_code_words)]
theorem laid_reads {P : Program} {w : World} : ∀ {l : List (String × DataW Unit)} {ps : List MemPlace}, DataW.LaidVars P w l ps → ∀ {n : String} {d : DataW Unit}, (n, d) ∈ l →
    ∃ g t cs fuel p, P.globalNamed n = some g ∧ (P.globals[g]?).map (·.type) = some t ∧ w.var? P n = some cs ∧ DataW.trod (fun _ => ()) P w 0 (fun _ => true) false fuel t cs.toList = some (d, p)
  | [], _, _, _, _, hm => by cases hm
  | (n0, d0) :: r, ps, h, n, d, hm => by
    obtain ⟨g, t, cs, fuel, p, q, h1, h2, h3, h4, h5, _⟩ := h
    rcases List.mem_cons.1 hm with e | hm
    · cases e
      exact ⟨g, t, cs, fuel, p, h1, h2, h3, h4⟩
    · exact laid_reads h5 hm
/-- A table of texts that reads so holds these texts. -/
theorem cells_of_strs {H : Type} {enc : TypeId × Value → H} {P : Program} {w : World} {base : Nat} {sp : Nat → Bool} {held : Bool} {fuel : Nat} {t e : TypeId} {n : Nat} {cs : List Value} {zs : List (List UInt8)} {p : List MemPlace}
    (ht : P.underlying t = some (.array n e)) (he : P.underlying e = some .string) (hce : P.cellsOf e = 1) (hct : P.cellsOf t = n)
    (h : DataW.trod enc P w base sp held fuel t cs = some (.agg (zs.map fun z => .lit (.string z)), p)) : cs = zs.map fun z => Value.string (bytesS z) := by
  cases fuel with
  | zero => simp [DataW.trod] at h
  | succ fuel =>
    simp only [DataW.trod, ht, hce, hct, Nat.mul_one] at h
    split at h
    · rename_i hl
      obtain ⟨xs, hm, hx⟩ := Option.map_eq_some_iff.1 h
      have hxs : xs.map (·.1) = zs.map fun z => (DataW.lit (.string z) : DataW H) := by
        have := congrArg Prod.fst hx
        simpa using this
      have hxl : xs.length = n := by simpa using Lib.mapM_length hm
      have hzl : zs.length = n := by
        have := congrArg List.length hxs
        simp at this
        omega
      apply List.ext_getElem?
      intro i
      by_cases hi : i < n
      · obtain ⟨b, hb, hf⟩ := Lib.mapM_at hm i i (by simp [hi])
        obtain ⟨z, hc, rfl, _⟩ := DataW.trod_string he hf
        have h1 : cs[i]? = some (.string z) := by
          have := congrArg (·[0]?) hc
          simpa [List.getElem?_take, List.getElem?_drop] using this
        have h2 : (xs.map (·.1))[i]? = some (DataW.lit (.string z.data.toList) : DataW H) := by simp [hb]
        rw [hxs] at h2
        simp only [List.getElem?_map, Option.map_eq_some_iff, DataW.lit.injEq, Lit.string.injEq] at h2
        obtain ⟨z', hz', rfl⟩ := h2
        simp [h1, hz', bytesS]
      · rw [List.getElem?_eq_none (by omega), List.getElem?_eq_none (by simp; omega)]
    · cases h
theorem gPow : Tryd.prog.globalNamed "internal/strconv.uint64pow10" = some 1 := by kernel_rfl
theorem tPow : (Tryd.prog.globals[1]?).map (·.type) = some 68 := by kernel_rfl
theorem gWords : Tryd.prog.globalNamed "trefoil/code.words" = some 0 := by kernel_rfl
theorem tWords : (Tryd.prog.globals[0]?).map (·.type) = some 52 := by kernel_rfl
theorem cPow : Tryd.prog.cellsOf 68 = 20 := by kernel_rfl
theorem cU64 : Tryd.prog.cellsOf 59 = 1 := by kernel_rfl
theorem cWords : Tryd.prog.cellsOf 52 = 25 := by kernel_rfl
theorem cStr : Tryd.prog.cellsOf 9 = 1 := by kernel_rfl
theorem pow_data : (Rows.laid_internal_strconv_uint64pow10 : DataW Unit) = Lib.tabData .u64 Lib.pow10Tab := by
  kernel_rfl
theorem words_data : (Rows.laid_trefoil_code_words : DataW Unit) = .agg (wordTab.map fun z => .lit (.string z)) := by
  kernel_rfl
theorem tabs_of_laid {W : World} (h : laidMetH Tryd.prog listed W) : Tabs W := by
  rw [MakeChecks.laidMetH_plain _ _ _ (by kernel_rfl)] at h
  obtain ⟨ps, hv, _⟩ := h
  constructor
  · obtain ⟨g, t, cs, fuel, p, h1, h2, h3, h4⟩ := laid_reads hv (n := "trefoil/code.words") (d := Rows.laid_trefoil_code_words) (by simp)
    obtain rfl := Option.some.inj (gWords.symm.trans h1)
    obtain rfl := Option.some.inj (tWords.symm.trans h2)
    rw [words_data] at h4
    have hcs := cells_of_strs Tryd.underlying52 Tryd.underlying9 cStr cWords h4
    have hc : ∀ j, j < 25 → W.cell? ⟨0, j, none⟩ = some (.string (bytesS (wordTab.getD j []))) := fun j hj => by
      rw [World.var?_cell gWords h3 j, ← Array.getElem?_toList, hcs, List.getElem?_map]
      simp [List.getD, show j < wordTab.length from hj]
    exact ⟨World.block_lt_of_cell? W _ (hc 0 (by omega)), hc⟩
  · obtain ⟨g, t, cs, fuel, p, h1, h2, h3, h4⟩ := laid_reads hv (n := "internal/strconv.uint64pow10") (d := Rows.laid_internal_strconv_uint64pow10) (by simp)
    obtain rfl := Option.some.inj (gPow.symm.trans h1)
    obtain rfl := Option.some.inj (tPow.symm.trans h2)
    rw [pow_data] at h4
    have hcs := Lib.cells_of_tab Tryd.underlying68 Tryd.underlying59 cU64 cPow h4
    unfold Lib.TabIs
    rw [h3, ← hcs]
/-- A start that meets the condition. -/
theorem met (os : Os) (args : Array Value) : laidMetH Tryd.prog listed ((World.laidAll Tryd.prog os listed).forCall (fun _ _ => 0) ⟨#[], args, []⟩).memory := by
  rw [MakeChecks.laidMetH_plain _ _ _ (by kernel_rfl)]
  exact laidMet_laidAll _ (by kernel_rfl) (by kernel_rfl)
theorem start_shaped (os : Os) (args : Array Value) : ((World.laidAll Tryd.prog os listed).forCall (fun _ _ => 0) ⟨#[], args, []⟩).Shaped Tryd.prog :=
  World.shaped_of_ZipB (by kernel_rfl) (by kernel_rfl)
instance : Inhabited Ins := ⟨⟨0, 0, 0⟩⟩
theorem add_plain' (b off n : Nat) : (⟨b, off, none⟩ : Addr).add n = ⟨b, off + n, none⟩ := by
  unfold Addr.add
  split
  · simp_all
  · rfl
theorem cIns : Tryd.prog.cellsOf 34 = 3 := by kernel_rfl
theorem cInt : Tryd.prog.cellsOf 3 = 1 := by kernel_rfl
theorem cBool : Tryd.prog.cellsOf 4 = 1 := by kernel_rfl
theorem list3 {α : Type} (l : List α) (h : l.length = 3) : ∃ a b c, l = [a, b, c] := by
  match l, h with
  | [a, b, c], _ => exact ⟨a, b, c, rfl⟩
section
variable {H : Type} {enc : TypeId × Value → H} {W : World} {base : Nat}
theorem open_ins {fuel : Nat} {cs : List Value} {x : DataW H × List MemPlace} {sp : Nat → Bool} {held : Bool} (h : DataW.trod enc Tryd.prog W base sp held fuel 34 cs = some x) :
    ∃ y : Ins, cs = [.int .i64 y.op, .int .i64 y.a, .int .i64 y.b] ∧ In64 y.a ∧ In64 y.b := by
  obtain ⟨y0, y1, y2, n, _, hl, h0, h1, h2⟩ := Deep.trod_struct3 Tryd.underlying34 h
  rw [cIns] at hl
  obtain ⟨c0, c1, c2, rfl⟩ := list3 cs hl
  obtain ⟨x0, e0, _, w0⟩ := DataW.trod_int Tryd.underlying3 h0
  obtain ⟨x1, e1, _, w1⟩ := DataW.trod_int Tryd.underlying3 h1
  obtain ⟨x2, e2, _, w2⟩ := DataW.trod_int Tryd.underlying3 h2
  simp [cInt] at e0 e1 e2
  subst e0 e1 e2
  exact ⟨⟨x0, x1, x2⟩, rfl, bounds_i64 w1, bounds_i64 w2⟩
theorem open_code {a : Option Addr} {len cap : Nat} {d : DataW H} {p : List MemPlace} {sp : Nat → Bool} {held : Bool} (h : DataW.Trod enc Tryd.prog W base sp held 22 (.slice a len cap) d p) :
    ∃ L : List Ins, L.length = len ∧ IsC W a cap L ∧ InR L := by
  obtain ⟨fuel, hf⟩ := h
  rcases Deep.open_slice Tryd.underlying22 hf with ⟨hcs, _⟩ | ⟨x, l, c, m, n, D, Pl, hcs, _, hl, hm, hmm, _, hx⟩
  · simp [Value.cells] at hcs
    obtain ⟨rfl, rfl, rfl⟩ := hcs
    exact ⟨[], rfl, IsC.nil _, fun x hx => by cases hx⟩
  · simp [Value.cells] at hcs
    obtain ⟨rfl, rfl, rfl⟩ := hcs
    have hlm : len ≤ m := by rw [hmm]; split <;> omega
    have hall : ∀ i, i < len → ∃ y : Ins, W.cell? (x.add (i * 3)) = some (.int .i64 y.op) ∧ W.cell? ((x.add (i * 3)).add 1) = some (.int .i64 y.a) ∧ W.cell? ((x.add (i * 3)).add 2) = some (.int .i64 y.b) ∧ In64 y.a ∧ In64 y.b := fun i hi => by
      obtain ⟨cs', h1, h2⟩ := hx i (by omega)
      rw [cIns] at h1
      obtain ⟨_, h3, h4⟩ := World.cells?_some h1
      obtain ⟨y, rfl, ra, rb⟩ := open_ins h2
      refine ⟨y, ?_, h4 1 (by omega), h4 2 (by omega), ra, rb⟩
      have := h4 0 (by omega)
      rwa [show (x.add (i * 3)).add 0 = x.add (i * 3) by simp [Addr.add]] at this
    obtain ⟨Y, hY⟩ := Deep.choose_lt (α := Ins) (n := len) (p := fun i y => W.cell? (x.add (i * 3)) = some (.int .i64 y.op) ∧ W.cell? ((x.add (i * 3)).add 1) = some (.int .i64 y.a) ∧ W.cell? ((x.add (i * 3)).add 2) = some (.int .i64 y.b) ∧ In64 y.a ∧ In64 y.b) hall
    refine ⟨(List.range len).map Y, by simp, ⟨by simpa using hl, by unfold maxLen at hm; omega, ?_⟩, ?_⟩
    · by_cases hz : len = 0
      · left; simpa using hz
      · right
        have h00 := (hY 0 (by omega)).1
        obtain ⟨b, off, spot⟩ := x
        have hspot : spot = none := by
          have := World.cell?_spot h00
          simpa [Addr.add] using this
        subst hspot
        refine ⟨b, off, rfl, by rw [add_plain'] at h00; exact World.block_lt_of_cell? W _ h00, fun j hj => ?_⟩
        simp only [List.length_map, List.length_range] at hj
        obtain ⟨q0, q1, q2, _, _⟩ := hY j hj
        simp only [List.getElem_map, List.getElem_range]
        rw [add_plain'] at q0 q1 q2
        rw [add_plain'] at q1 q2
        exact ⟨q0, q1, q2⟩
    · intro y hy
      obtain ⟨i, hi, rfl⟩ := List.mem_map.1 hy
      exact (hY i (by simpa using hi)).2.2.2
end
end Go.Proofs.YtegopamfdgeblaaDoor
