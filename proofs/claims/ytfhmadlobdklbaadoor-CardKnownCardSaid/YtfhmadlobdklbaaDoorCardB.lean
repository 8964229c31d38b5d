/- isCost. -/
import Derived.Test.YtfhmadlobdklbaaDoorCardA
import Derived.Maps.AppendAt
namespace Go.Proofs.YtfhmadlobdklbaaDoor
open Go.RowKit
set_option linter.unusedVariables false
set_option linter.unusedSimpArgs false

theorem add_plain (b off n : Nat) : (⟨b, off, none⟩ : Addr).add n = ⟨b, off + n, none⟩ := by
  unfold Addr.add
  split
  · simp_all
  · rfl
/-- A literal row's cells. -/
def insCells : List Ins → List Value
  | [] => []
  | x :: L => .int .i64 x.op :: .int .i64 x.a :: .int .i64 x.b :: insCells L
theorem insCells_len : ∀ L : List Ins, (insCells L).length = L.length * 3
  | [] => rfl
  | x :: L => by simp [insCells, insCells_len L]; omega
theorem insCells_at : ∀ (L : List Ins) (j : Nat) (h : j < L.length), (insCells L)[j * 3]? = some (.int .i64 L[j].op) ∧ (insCells L)[j * 3 + 1]? = some (.int .i64 L[j].a) ∧ (insCells L)[j * 3 + 2]? = some (.int .i64 L[j].b)
  | [], j, h => by simp at h
  | x :: L, 0, h => ⟨rfl, rfl, rfl⟩
  | x :: L, j + 1, h => by
    have := insCells_at L j (by simpa using h)
    rw [show (j + 1) * 3 = j * 3 + 3 by omega]
    simpa [insCells] using this
theorem insCells_append : ∀ L M : List Ins, insCells (L ++ M) = insCells L ++ insCells M
  | [], M => rfl
  | x :: L, M => by simp [insCells, insCells_append L M]
theorem insCells_one : ∀ (L : List Ins) (u : Value), u ∈ insCells L → u.oneCell' = true
  | [], u, h => by cases h
  | x :: L, u, h => by
    simp only [insCells, List.mem_cons] at h
    rcases h with rfl | rfl | rfl | h
    · rfl
    · rfl
    · rfl
    · exact insCells_one L u h
/-- What a slice reads: n elements of so many cells. -/
def Row (w : World) (a : Option Addr) (c size n : Nat) (xs : List Value) : Prop :=
  n ≤ c ∧ c ≤ 9223372036854775807 ∧ (n = 0 ∨ ∃ b off, a = some ⟨b, off, none⟩ ∧ b < w.heap.size ∧ ∀ i, i < n * size → w.cell? ⟨b, off + i, none⟩ = xs[i]?)
theorem row_new (w : World) (cs : Array Value) (T : TypeId) (size n : Nat) (hn : n ≤ 9223372036854775807) : Row (w.alloc (.cells cs T)) (some ⟨w.heap.size, 0, none⟩) n size n cs.toList :=
  ⟨Nat.le_refl _, hn, .inr ⟨w.heap.size, 0, rfl, by simp, fun i hi => by rw [World.cell?_alloc_new, Nat.zero_add]; simp⟩⟩
theorem own_row {w : World} {B e size : Nat} {v : Value} {n : Nat} {xs : List Value} (h : w.ownsRow B e size v n xs) : ∃ a c, v = .slice a n c ∧ Row w a c size n xs := by
  have h' := h
  obtain ⟨h1, h2⟩ := h
  rcases h2 with ⟨rfl, h2⟩ | ⟨g, c, cur, rfl, hg, hh, hc, hm, _⟩
  · rw [h2]
    exact ⟨none, 0, rfl, by omega, by omega, .inl rfl⟩
  · unfold maxLen at hm
    refine ⟨_, c, rfl, hc, hm, .inr ⟨g, 0, rfl, (Array.getElem?_eq_some_iff.1 hh).1, fun i hi => ?_⟩⟩
    rw [Nat.zero_add, h'.cellAt i (by omega)]
theorem isC_row {w : World} {a : Option Addr} {c n : Nat} {L : List Ins} (hn : L.length = n) (h : Row w a c 3 n (insCells L)) : IsC w a c L := by
  subst hn
  obtain ⟨h1, h2, h3 | ⟨b, off, h3, h4, h5⟩⟩ := h
  · exact ⟨h1, h2, .inl h3⟩
  · refine ⟨h1, h2, .inr ⟨b, off, h3, h4, fun j hj => ?_⟩⟩
    obtain ⟨a0, a1, a2⟩ := insCells_at L j hj
    exact ⟨(h5 _ (by omega)).trans a0, (h5 _ (by omega)).trans a1, (h5 _ (by omega)).trans a2⟩
theorem isC_new (w : World) (L : List Ins) (cs : Array Value) (T : TypeId) (hcs : cs = (insCells L).toArray) (n : Nat) (hn : L.length = n) (hl : n ≤ 1000) : IsC (w.alloc (.cells cs T)) (some ⟨w.heap.size, 0, none⟩) n L := by
  subst hcs
  exact isC_row hn (by simpa using row_new w (insCells L).toArray T 3 n (by omega))
theorem new_cells (w : World) (cs : Array Value) (T : TypeId) (j : Nat) (u : Value) (h : cs.toList[j]? = some u) : (w.alloc (.cells cs T)).cell? ((⟨w.heap.size, 0, none⟩ : Addr).add j) = some u := by
  rw [add_plain, Nat.zero_add, World.cell?_alloc_new]
  simpa using h
theorem askedInfo : (Tryd.prog.info? 48).map (fun i => (i.zero, i.size, i.bytes)) = some (some (.agg #[.int .i64 0, .int .i64 0, .int .i64 0]), 3, 24) := by kernel_rfl
/-- May the cost be, each number up to most? -/
def costL (most c0 c1 c2 c3 : Int) : List Ins := [⟨c0, 0, most⟩, ⟨c1, 0, most⟩, ⟨c2, 0, most⟩, ⟨c3, 0, most⟩]
theorem costL_get (most c0 c1 c2 c3 : Int) : (costL most c0 c1 c2 c3).take 0 = [] := rfl
theorem cost_snoc {w : World} {B : Nat} {v : Value} {L : List Ins} {x : Ins} {k : Nat} (h : w.ownsRow B 48 3 v (k + 1) (insCells L ++ [.int .i64 x.op, .int .i64 x.a, .int .i64 x.b])) :
    w.ownsRow B 48 3 v (k + 1) (insCells (L ++ [x])) := by
  rw [insCells_append]; exact h
theorem grown_asked {w wr w1 : World} {o : Obj} {v : Value} {n : Nat} {xs : List Value} (h : Below w.heap.size w wr) (ho : wr.ownsRow w.heap.size 48 3 v n xs) (hg : (wr.alloc o).grownBy w1 v.ownBlock) : Below w.heap.size w w1 :=
  (h.alloc h.size o).grown hg (Nat.le_trans h.size (by simp)) (fun k e => (ho.lt k e).1)
set_option maxRecDepth 100000 in
set_option maxHeartbeats 2000000 in
theorem isCost_any (c0 c1 c2 c3 most : Int) (r : Bool) (hr : wi (costL most c0 c1 c2 c3) = r) (w : World) :
    Calls Tryd.prog 20 #[.agg #[.int .i64 c0, .int .i64 c1, .int .i64 c2, .int .i64 c3], .int .i64 most] w fun e w' => e = .returned (.bool r) ∧ Below w.heap.size w w' := by
  obtain ⟨i0, hi, hz0, hz1, hz2⟩ := info_parts askedInfo
  have HR := Lib.hid hr
  clear hr
  have hb0 := below_alloc1 w (.cells #[.int .i64 c0, .int .i64 c1, .int .i64 c2, .int .i64 c3] 23)
  have HB0 := Lib.hid hb0
  clear hb0
  have ix0 : ∀ W : World, (Instr.index 23 (.agg #[.int .i64 c0, .int .i64 c1, .int .i64 c2, .int .i64 c3]) (.int .i64 0)).run Tryd.prog W = .ok (.int .i64 c0) W := fun _ => by kernel_rfl
  have ix1 : ∀ W : World, (Instr.index 23 (.agg #[.int .i64 c0, .int .i64 c1, .int .i64 c2, .int .i64 c3]) (.int .i64 1)).run Tryd.prog W = .ok (.int .i64 c1) W := fun _ => by kernel_rfl
  have ix2 : ∀ W : World, (Instr.index 23 (.agg #[.int .i64 c0, .int .i64 c1, .int .i64 c2, .int .i64 c3]) (.int .i64 2)).run Tryd.prog W = .ok (.int .i64 c2) W := fun _ => by kernel_rfl
  have ix3 : ∀ W : World, (Instr.index 23 (.agg #[.int .i64 c0, .int .i64 c1, .int .i64 c2, .int .i64 c3]) (.int .i64 3)).run Tryd.prog W = .ok (.int .i64 c3) W := fun _ => by kernel_rfl
  go_enter Tryd.func20, Tryd.ntmps20
  go_wp2_with fail
  go_loopw [5, 9] (fun v q wr => ∃ k : Nat, q = .int .i64 (k : Int) ∧ k ≤ 4 ∧ wr.ownsRow w.heap.size 48 3 v k (insCells ((costL most c0 c1 c2 c3).take k)) ∧ Below w.heap.size w wr) (fun _ q _ => 4 - (intOf q).toNat)
  case atStart => exact ⟨0, rfl, Nat.zero_le _, World.ownsRow_nil _ _ _ _, HB0.out⟩
  case round =>
    obtain ⟨k, rfl, hk, hown, hbw⟩ := hrel
    have HO := Lib.hid hown
    have HW := Lib.hid hbw
    clear hown hbw
    have h4 : k = 0 ∨ k = 1 ∨ k = 2 ∨ k = 3 ∨ k = 4 := by omega
    rcases h4 with rfl | rfl | rfl | rfl | rfl
    · go_wp2_with (at_builtin; refine wpList_append_own _ rfl _ _ 57 rfl w.heap.size 48 i0 (.agg #[.int .i64 0, .int .i64 0, .int .i64 0]) 3 24 Tryd.underlying57 hi hz0 hz1 hz2 rfl (by decide) _ _ _ rfl (HO.out.alloc _) ⟨wr.heap.size, 0, none⟩ 1 1 [.int .i64 c0, .int .i64 0, .int .i64 most] rfl rfl (new_cells _ #[.int .i64 c0, .int .i64 0, .int .i64 most] _) (insCells_one [⟨c0, 0, most⟩]) (by unfold maxLen; omega) (by omega) (by have := HW.out.size; simp; omega) ?_; intro v' w1 hown' hgrow _; have HO2 := Lib.hid hown'; have HG := Lib.hid hgrow; clear hown' hgrow)
      have HB2 := Lib.hid (grown_asked HW.out HO.out HG.out)
      go_roundw
      case rel => exact ⟨1, by go_num, by omega, HO2.out, HB2.out⟩
      case measure => simp [intOf]
    · go_wp2_with (at_builtin; refine wpList_append_own _ rfl _ _ 57 rfl w.heap.size 48 i0 (.agg #[.int .i64 0, .int .i64 0, .int .i64 0]) 3 24 Tryd.underlying57 hi hz0 hz1 hz2 rfl (by decide) _ _ _ rfl (HO.out.alloc _) ⟨wr.heap.size, 0, none⟩ 1 1 [.int .i64 c1, .int .i64 0, .int .i64 most] rfl rfl (new_cells _ #[.int .i64 c1, .int .i64 0, .int .i64 most] _) (insCells_one [⟨c1, 0, most⟩]) (by unfold maxLen; omega) (by omega) (by have := HW.out.size; simp; omega) ?_; intro v' w1 hown' hgrow _; have HO2 := Lib.hid hown'; have HG := Lib.hid hgrow; clear hown' hgrow)
      have HB2 := Lib.hid (grown_asked HW.out HO.out HG.out)
      go_roundw
      case rel => exact ⟨2, by go_num, by omega, HO2.out, HB2.out⟩
      case measure => simp [intOf]
    · go_wp2_with (at_builtin; refine wpList_append_own _ rfl _ _ 57 rfl w.heap.size 48 i0 (.agg #[.int .i64 0, .int .i64 0, .int .i64 0]) 3 24 Tryd.underlying57 hi hz0 hz1 hz2 rfl (by decide) _ _ _ rfl (HO.out.alloc _) ⟨wr.heap.size, 0, none⟩ 1 1 [.int .i64 c2, .int .i64 0, .int .i64 most] rfl rfl (new_cells _ #[.int .i64 c2, .int .i64 0, .int .i64 most] _) (insCells_one [⟨c2, 0, most⟩]) (by unfold maxLen; omega) (by omega) (by have := HW.out.size; simp; omega) ?_; intro v' w1 hown' hgrow _; have HO2 := Lib.hid hown'; have HG := Lib.hid hgrow; clear hown' hgrow)
      have HB2 := Lib.hid (grown_asked HW.out HO.out HG.out)
      go_roundw
      case rel => exact ⟨3, by go_num, by omega, HO2.out, HB2.out⟩
      case measure => simp [intOf]
    · go_wp2_with (at_builtin; refine wpList_append_own _ rfl _ _ 57 rfl w.heap.size 48 i0 (.agg #[.int .i64 0, .int .i64 0, .int .i64 0]) 3 24 Tryd.underlying57 hi hz0 hz1 hz2 rfl (by decide) _ _ _ rfl (HO.out.alloc _) ⟨wr.heap.size, 0, none⟩ 1 1 [.int .i64 c3, .int .i64 0, .int .i64 most] rfl rfl (new_cells _ #[.int .i64 c3, .int .i64 0, .int .i64 most] _) (insCells_one [⟨c3, 0, most⟩]) (by unfold maxLen; omega) (by omega) (by have := HW.out.size; simp; omega) ?_; intro v' w1 hown' hgrow _; have HO2 := Lib.hid hown'; have HG := Lib.hid hgrow; clear hown' hgrow)
      have HB2 := Lib.hid (grown_asked HW.out HO.out HG.out)
      go_roundw
      case rel => exact ⟨4, by go_num, by omega, HO2.out, HB2.out⟩
      case measure => simp [intOf]
    · obtain ⟨a, c, rfl, hrow⟩ := own_row HO.out
      have HI := Lib.hid (isC_row (L := costL most c0 c1 c2 c3) rfl hrow)
      clear hrow
      go_wp2_with fail
      refine (within_any _ _ _ 4 rfl r HR.out _ HI.out).mono ?_
      rintro e w2 ⟨rfl, hb⟩
      have HB2 := Lib.hid (below_then' HW.out hb HW.out.size)
      clear hb
      go_wp2_with fail
      go_ret
      exact ⟨rfl, HB2.out⟩
end Go.Proofs.YtfhmadlobdklbaaDoor
