/- CodeKnown: the row of thirty-two jumps; a code that was appended to; Ways below 0. -/
import Derived.Test.YtegopamfdgeblaaDoorCodeX0
import Derived.Maps.AppendAt
namespace Go.Proofs.YtegopamfdgeblaaDoor
open Go.RowKit
set_option linter.unusedVariables false
set_option linter.unusedSimpArgs false

theorem set_heap {w : World} {g i : Nat} {C : Array Value} {T : TypeId} {fr : Nat × Nat} {v : Value} (h : w.heap[g]? = some (.cells C T fr)) : (w.setCell ⟨g, i, none⟩ v).heap[g]? = some (.cells (C.setIfInBounds i v) T fr) := by
  show (w.heap.modify g _)[g]? = _
  rw [Array.getElem?_modify, if_pos rfl, h]
  rfl
/-- Block g holds thirty-two instructions, the first k of them jumps to 32. -/
def Long (w : World) (g k : Nat) : Prop := ∃ C : Array Value, w.heap[g]? = some (.cells C 34 (0, 0)) ∧ C.size = 96 ∧
  ∀ j, j < k → C[j * 3]? = some (.int .i64 8) ∧ C[j * 3 + 1]? = some (.int .i64 32) ∧ C[j * 3 + 2]? = some (.int .i64 0)
theorem Long.next {w w' : World} {g k : Nat} (h : Long w g k) (b : Below w.heap.size w w') : Long w' g k := by
  obtain ⟨C, h1, h2, h3⟩ := h
  exact ⟨C, (b.block g (Array.getElem?_eq_some_iff.1 h1).1).trans h1, h2, h3⟩
theorem Long.lt {w : World} {g k : Nat} (h : Long w g k) : g < w.heap.size := by
  obtain ⟨C, h1, _⟩ := h
  exact (Array.getElem?_eq_some_iff.1 h1).1
theorem Long.cell {w : World} {g k : Nat} (h : Long w g k) (i : Nat) (hi : i < 96) : ∃ v, w.cell? ⟨g, i, none⟩ = some v := by
  obtain ⟨C, h1, h2, _⟩ := h
  exact ⟨C[i]'(by omega), by simp [World.cell?, h1, h2, hi]⟩
theorem Long.free {w : World} {g k : Nat} (h : Long w g k) (i : Nat) : w.frozen? ⟨g, i, none⟩ = false := by
  obtain ⟨C, h1, h2, _⟩ := h
  simp [World.frozen?, h1]
theorem Long.step {w : World} {g k : Nat} (h : Long w g k) (hk : k < 32) : Long (((w.setCell ⟨g, k * 3, none⟩ (.int .i64 8)).setCell ⟨g, k * 3 + 1, none⟩ (.int .i64 32)).setCell ⟨g, k * 3 + 2, none⟩ (.int .i64 0)) g (k + 1) := by
  obtain ⟨C, h1, h2, h3⟩ := h
  refine ⟨_, set_heap (set_heap (set_heap h1)), by simp [h2], fun j hj => ?_⟩
  have hs : (C.setIfInBounds (k * 3) (Value.int .i64 8)).size = 96 := by simp [h2]
  simp only [Array.getElem?_setIfInBounds, Array.size_setIfInBounds, h2]
  by_cases hjk : j = k
  · subst hjk
    refine ⟨?_, ?_, ?_⟩
    · rw [if_neg (by omega), if_neg (by omega), if_pos rfl, if_pos (by omega)]
    · rw [if_neg (by omega), if_pos rfl, if_pos (by omega)]
    · rw [if_pos rfl, if_pos (by omega)]
  · obtain ⟨q0, q1, q2⟩ := h3 j (by omega)
    refine ⟨?_, ?_, ?_⟩
    · rw [if_neg (by omega), if_neg (by omega), if_neg (by omega)]; exact q0
    · rw [if_neg (by omega), if_neg (by omega), if_neg (by omega)]; exact q1
    · rw [if_neg (by omega), if_neg (by omega), if_neg (by omega)]; exact q2
theorem Long.below {w W : World} {B g k : Nat} (hg : B ≤ g) (b : Below B w W) (i : Nat) (v : Value) : Below B w (W.setCell ⟨g, i, none⟩ v) := b.setCell (p := ⟨g, i, none⟩) hg v
def cLong : List Ins := List.replicate 32 ⟨8, 32, 0⟩
theorem Long.isC {w : World} {g : Nat} (h : Long w g 32) : IsC w (some ⟨g, 0, none⟩) 32 cLong := by
  have hl := h.lt
  obtain ⟨C, h1, h2, h3⟩ := h
  refine ⟨by simp [cLong], by omega, .inr ⟨g, 0, rfl, hl, fun j hj => ?_⟩⟩
  have hj' : j < 32 := by simpa [cLong] using hj
  obtain ⟨q0, q1, q2⟩ := h3 j hj'
  simp only [cLong, List.getElem_replicate, Nat.zero_add]
  refine ⟨?_, ?_, ?_⟩
  · simp [World.cell?, h1, q0]
  · simp [World.cell?, h1, q1]
  · simp [World.cell?, h1, q2]
/-- A row of instructions of the call's own, as a code. -/
theorem own_isC {w : World} {B n : Nat} {v : Value} {xs : List Value} (h : w.ownsRow B 34 3 v n xs) (L : List Ins) (hL : xs = insCells L) (hn : L.length = n) (hp : 0 < n) : ∃ g c, v = .slice (some ⟨g, 0, none⟩) n c ∧ IsC w (some ⟨g, 0, none⟩) c L := by
  have h' := h
  obtain ⟨_, h2⟩ := h
  rcases h2 with ⟨rfl, h2⟩ | ⟨g, c, cur, rfl, hg, hh, hc, hm, hcs, htk⟩
  · omega
  · unfold maxLen at hm
    refine ⟨g, c, rfl, by rw [hn]; exact hc, by omega, .inr ⟨g, 0, rfl, (Array.getElem?_eq_some_iff.1 hh).1, fun j hj => ?_⟩⟩
    obtain ⟨q0, q1, q2⟩ := insCells_at L j hj
    have hat := fun i u (hu : xs[i]? = some u) => h'.cells (g := g) rfl i u hu
    have hadd : ∀ i, (⟨g, 0, none⟩ : Addr).add i = ⟨g, 0 + i, none⟩ := fun i => by
      unfold Addr.add
      split
      · simp_all
      · rfl
    refine ⟨?_, ?_, ?_⟩
    · have := hat _ _ (by rw [hL]; exact q0); rwa [hadd] at this
    · have := hat _ _ (by rw [hL]; exact q1); rwa [hadd] at this
    · have := hat _ _ (by rw [hL]; exact q2); rwa [hadd] at this
theorem Long.own {w : World} {B g : Nat} (h : Long w g 32) (hB : B ≤ g) : w.ownsRow B 34 3 (.slice (some ⟨g, 0, none⟩) 32 32) 32 (insCells cLong) := by
  obtain ⟨C, h1, h2, h3⟩ := h
  refine ⟨by decide, .inr ⟨g, 32, C, rfl, hB, h1, Nat.le_refl _, by unfold maxLen; omega, h2, ?_⟩⟩
  apply List.ext_getElem?
  intro i
  rw [List.getElem?_take]
  by_cases hi : i < 96
  · rw [if_pos hi, Array.getElem?_toList]
    obtain ⟨q0, q1, q2⟩ := h3 (i / 3) (by omega)
    obtain ⟨p0, p1, p2⟩ := insCells_at cLong (i / 3) (by show i / 3 < 32; omega)
    have hr : ∀ j (hj : j < cLong.length), cLong[j] = ⟨8, 32, 0⟩ := fun j hj => List.getElem_replicate _
    rw [hr] at p0 p1 p2
    rcases (show i = i / 3 * 3 ∨ i = i / 3 * 3 + 1 ∨ i = i / 3 * 3 + 2 by omega) with e | e | e
    · rw [e, q0, p0]
    · rw [e, q1, p1]
    · rw [e, q2, p2]
  · rw [if_neg hi]
    exact (List.getElem?_eq_none (by show (insCells cLong).length ≤ i; have : (insCells cLong).length = 96 := by decide
                                     omega)).symm
theorem ways_low {w W : World} {Cs : List Cod} (h : Kept w W Cs) (a : Option Addr) (n cap : Nat) :
    Calls Tryd.prog 13 #[.slice a n cap, .int .i64 (-1)] W fun e w' => ∃ p c, e = .returned (.slice p 0 c) ∧ IsL w' p c [] ∧ Kept w w' Cs := by
  have HK := Lib.hid h
  clear h
  go_enter Tryd.func13, Tryd.ntmps13
  go_wp2_with fail
  go_ret
  exact ⟨none, 0, rfl, IsL.nil _, HK.out⟩
theorem insInfo : (Tryd.prog.info? 34).map (fun i => (i.zero, i.size, i.bytes)) = some (some (.agg #[.int .i64 0, .int .i64 0, .int .i64 0]), 3, 24) := by kernel_rfl
theorem new3 (w : World) (T : TypeId) (x y z : Value) : ∀ j u, [x, y, z][j]? = some u → (w.alloc (.cells #[x, y, z] T)).cell? ((⟨w.heap.size, 0, none⟩ : Addr).add j) = some u := by
  intro j u hj
  have hadd : (⟨w.heap.size, 0, none⟩ : Addr).add j = ⟨w.heap.size, j, none⟩ := by
    unfold Addr.add
    split
    · simp_all
    · simp
  rw [hadd, World.cell?_alloc_new]
  simpa using hj
theorem long_more : insCells cLong ++ [.int .i64 24, .int .i64 0, .int .i64 0] = insCells (cLong ++ [⟨24, 0, 0⟩]) := by rfl
theorem chk_long : chk cLong 0 0 = 0 := by decide +kernel
theorem chk_longer : chk (cLong ++ [⟨24, 0, 0⟩]) 0 0 = 3 := by decide +kernel
end Go.Proofs.YtegopamfdgeblaaDoor
