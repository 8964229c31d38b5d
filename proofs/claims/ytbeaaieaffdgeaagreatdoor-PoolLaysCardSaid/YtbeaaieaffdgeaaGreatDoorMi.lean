/- Texts that belong together: PoolTa, PoolTb, PoolGa, PoolU, PoolUa, PoolTc, PoolX, PoolPc. -/
import Derived.Test.YtbeaaieaffdgeaaGreatDoorMh
import Derived.Test.YtbeaaieaffdgeaaGreatDoorMg
import Derived.Test.YtbeaaieaffdgeaaGreatDoorMf
import Derived.BigQuiet
import Derived.StringKeys
import Derived.Maps.OwnSet
import Derived.Maps.Views
/- The drawn regions of the program's writer. (Written by gen6w.py.) -/
section
namespace Go.Proofs.YtbeaaieaffdgeaaGreatDoor
open Go.RowKit
set_option linter.unusedVariables false
set_option linter.unusedSimpArgs false
set_option maxRecDepth 100000

noncomputable def waOps : Array Oper := ((Tryz.f41.body).bind (regionOps 3)).getD #[]
def waFree : List Nat := [0, 1, 2, 3, 4, 5, 6, 7, 8, 9, 10, 11, 12, 13, 14, 15, 16, 17, 18, 28, 29, 30, 31, 32, 33, 34, 35, 36, 37, 38, 39, 40, 41, 42, 43, 44, 45, 46, 47, 48, 49, 50, 51, 52, 53, 54, 55, 56, 57, 58, 59, 60, 61]
def waBase (t : Nat → Value) : Nat → Option Value := fun s => if waFree.contains s then some (t s) else none
def waTs (u : ByteArray) (bx : Nat) (x : Ab) : Nat → ByteArray := fun j => if j < 3 then u else u ++ many nB [flagI x.tap, (x.tn : Int)] ByteArray.empty
def waI (B b : Nat) (bx : Nat) (x : Ab) (w : World) : Prop := Kq B b (fun W => Bk W bx #[.int .i64 x.k, .int .i64 x.ev, .int .i64 x.wh, .int .i64 x.c0, .int .i64 x.c1, .int .i64 x.c2, .int .i64 x.c3, .bool x.tap, .slice x.ta x.tn x.tc, .slice x.ca x.cn x.cc, .int .i64 x.op, .int .i64 x.a, .int .i64 x.b] 42) w
theorem waKeep (B b : Nat) (bx : Nat) (x : Ab) : ∀ w w' : World, waI B b bx x w → Below B w w' → Oth b w w' → waI B b bx x w' := fun _ _ h k o => h.next k o
def waH (B b : Nat) (u : ByteArray) (bx : Nat) (x : Ab) (w0 : World) : Nat → World → Prop := fun j w => WS B b (waTs u bx x j) w0 w ∧ waI B b bx x w
def waVal (B b : Nat) (u : ByteArray) (bx : Nat) (x : Ab) (w0 : World) : Nat → Value → World → Prop
  | 0, v, w => v = .pointer (some ⟨b, 0, none⟩)
  | 1, v, w => v = .pointer (some ⟨bx, 7, none⟩)
  | 2, v, w => v = .bool x.tap
  | 3, v, w => v = .int .i64 (flagI x.tap)
  | 4, v, w => v = .pointer (some ⟨bx, 8, none⟩)
  | 5, v, w => v = .slice x.ta x.tn x.tc
  | 6, v, w => v = .int .i64 (x.tn : Int)
  | 7, v, w => ∃ g, v = .slice (some ⟨g, 0, none⟩) 2 2 ∧ Kq B b (fun W => IsL W (some ⟨g, 0, none⟩) 2 [flagI x.tap, (x.tn : Int)]) w
  | _, _, _ => True
theorem waMono (B b : Nat) (u : ByteArray) (bx : Nat) (x : Ab) (w0 : World) : ∀ j v w w', waVal B b u bx x w0 j v w → Below B w w' → Oth b w w' → waVal B b u bx x w0 j v w' := by
  intro j v w w' h k o
  match j, h with
  | 0, h => exact h
  | 1, h => exact h
  | 2, h => exact h
  | 3, h => exact h
  | 4, h => exact h
  | 5, h => exact h
  | 6, h => exact h
  | 7, ⟨g, h1, h2⟩ => exact ⟨g, h1, h2.next k o⟩
  | 8, h => exact h
  | q + 9, h => exact trivial
structure waRows (B b : Nat) (u : ByteArray) (bx : Nat) (x : Ab) (w0 : World) (t : Nat → Value) : Prop where
  t0 : t 0 = .pointer (some ⟨b, 0, none⟩)
  t3 : t 3 = .pointer (some ⟨bx, 0, none⟩)
  hx : x.tn ≤ 100
  hz : u.size + 2000 ≤ 70368744177664
  hB : B ≤ w0.heap.size
section
variable {l : Array Bool} {a : Act} {w : World} {Q : Exit → Act → World → Prop} {B b : Nat} {u : ByteArray} {bx : Nat} {x : Ab} {w0 : World} {t : Nat → Value}
theorem waOp0 (hR : waRows B b u bx x w0 t) (h : AtC waOps 62 [3, 7, 8] (waBase t) (waVal B b u bx x w0) (waH B b u bx x w0) l a w) (hn : l.getD 0 true = false) (hd : ∀ o : Oper, waOps[0]? = some o → ∀ e ∈ o.after.toList, Region.binds .any e = true → l.getD e.on false = true) : wpOp Tryz.prog waOps Q 0 (AtC waOps 62 [3, 7, 8] (waBase t) (waVal B b u bx x w0) (waH B b u bx x w0) (l.setIfInBounds 0 true)) a w := by
  have hown : ownAt waOps 62 (waBase t) 0 19 := ownAt_of (by kernel_rfl) rfl
  obtain ⟨o, ho⟩ : ∃ o, waOps[0]? = some o := Option.isSome_iff_exists.1 (by kernel_rfl)
  have hop : o.op = Op.move (Operand.tmp 0) := op_of ho (by kernel_rfl)
  have hg : o.guard = none := guard_of ho (by kernel_rfl)
  have v0 : a.eval (.tmp 0) = .pointer (some ⟨b, 0, none⟩) := (h.fixed 0 (t 0) rfl).trans hR.t0
  exact h.pure ho hown rfl hg (v := .pointer (some ⟨b, 0, none⟩)) (by simp only [execOp, hop, v0]; first | kernel_rfl | go_simp) rfl
theorem waOp1 (hR : waRows B b u bx x w0 t) (h : AtC waOps 62 [3, 7, 8] (waBase t) (waVal B b u bx x w0) (waH B b u bx x w0) l a w) (hn : l.getD 1 true = false) (hd : ∀ o : Oper, waOps[1]? = some o → ∀ e ∈ o.after.toList, Region.binds .any e = true → l.getD e.on false = true) : wpOp Tryz.prog waOps Q 1 (AtC waOps 62 [3, 7, 8] (waBase t) (waVal B b u bx x w0) (waH B b u bx x w0) (l.setIfInBounds 1 true)) a w := by
  have hown : ownAt waOps 62 (waBase t) 1 20 := ownAt_of (by kernel_rfl) rfl
  obtain ⟨o, ho⟩ : ∃ o, waOps[1]? = some o := Option.isSome_iff_exists.1 (by kernel_rfl)
  have hop : o.op = Op.fieldAddr 42 (Operand.tmp 3) 4 := op_of ho (by kernel_rfl)
  have hg : o.guard = none := guard_of ho (by kernel_rfl)
  have v3 : a.eval (.tmp 3) = .pointer (some ⟨bx, 0, none⟩) := (h.fixed 3 (t 3) rfl).trans hR.t3
  exact h.pure ho hown rfl hg (v := .pointer (some ⟨bx, 7, none⟩)) (by simp only [execOp, hop, v3]; first | kernel_rfl | go_simp) rfl
theorem waOp2 (hR : waRows B b u bx x w0 t) (h : AtC waOps 62 [3, 7, 8] (waBase t) (waVal B b u bx x w0) (waH B b u bx x w0) l a w) (hn : l.getD 2 true = false) (hd : ∀ o : Oper, waOps[2]? = some o → ∀ e ∈ o.after.toList, Region.binds .any e = true → l.getD e.on false = true) : wpOp Tryz.prog waOps Q 2 (AtC waOps 62 [3, 7, 8] (waBase t) (waVal B b u bx x w0) (waH B b u bx x w0) (l.setIfInBounds 2 true)) a w := by
  have hown : ownAt waOps 62 (waBase t) 2 21 := ownAt_of (by kernel_rfl) rfl
  obtain ⟨o, ho⟩ : ∃ o, waOps[2]? = some o := Option.isSome_iff_exists.1 (by kernel_rfl)
  have hop : o.op = Op.load 4 (Operand.tmp 20) := op_of ho (by kernel_rfl)
  have hg : o.guard = none := guard_of ho (by kernel_rfl)
  have v20 : a.eval (.tmp 20) = .pointer (some ⟨bx, 7, none⟩) := h.done 1 20 (dep hd 1 (by kernel_rfl)) (by kernel_rfl)
  obtain ⟨j, hj⟩ := h.any
  have c := hj.2.now.cell 7
  simp at c
  exact h.pure ho hown rfl hg (v := .bool x.tap) (by simp only [execOp, hop, v20]; first | go_simp | simp [go_sem, c]) rfl
theorem waOp3 (hR : waRows B b u bx x w0 t) (h : AtC waOps 62 [3, 7, 8] (waBase t) (waVal B b u bx x w0) (waH B b u bx x w0) l a w) (hn : l.getD 3 true = false) (hd : ∀ o : Oper, waOps[3]? = some o → ∀ e ∈ o.after.toList, Region.binds .any e = true → l.getD e.on false = true) : wpOp Tryz.prog waOps Q 3 (AtC waOps 62 [3, 7, 8] (waBase t) (waVal B b u bx x w0) (waH B b u bx x w0) (l.setIfInBounds 3 true)) a w := by
  have hown : ownAt waOps 62 (waBase t) 3 22 := ownAt_of (by kernel_rfl) rfl
  obtain ⟨o, ho⟩ : ∃ o, waOps[3]? = some o := Option.isSome_iff_exists.1 (by kernel_rfl)
  have hop : o.op = Op.call { callee := Callee.value (Operand.func 62), args := #[Operand.tmp 21], argTypes := #[4] } := op_of ho (by kernel_rfl)
  have hg : o.guard = none := guard_of ho (by kernel_rfl)
  have v21 : a.eval (.tmp 21) = .bool x.tap := h.done 2 21 (dep hd 2 (by kernel_rfl)) (by kernel_rfl)
  refine h.call (f := 62) (args := #[.bool x.tap]) (k := 0) ho hown (by decide) rfl (by decide) (fun j hj => ?_) hn hg ?_ (fun hH => (truth_any x.tap w).mono ?_)
  · omega
  · rw [exec_call (enters_of Tryz.func62 (by kernel_rfl) rfl) hop]
    simp only [List.map_toArray, List.map_cons, List.map_nil, v21]
    try rfl
  · rintro e w' ⟨rfl, rfl⟩
    exact .inr ⟨_, rfl, ⟨hH.1, hH.2⟩, rfl, fun j v hv => hv⟩
theorem waOp4 (hR : waRows B b u bx x w0 t) (h : AtC waOps 62 [3, 7, 8] (waBase t) (waVal B b u bx x w0) (waH B b u bx x w0) l a w) (hn : l.getD 4 true = false) (hd : ∀ o : Oper, waOps[4]? = some o → ∀ e ∈ o.after.toList, Region.binds .any e = true → l.getD e.on false = true) : wpOp Tryz.prog waOps Q 4 (AtC waOps 62 [3, 7, 8] (waBase t) (waVal B b u bx x w0) (waH B b u bx x w0) (l.setIfInBounds 4 true)) a w := by
  have hown : ownAt waOps 62 (waBase t) 4 23 := ownAt_of (by kernel_rfl) rfl
  obtain ⟨o, ho⟩ : ∃ o, waOps[4]? = some o := Option.isSome_iff_exists.1 (by kernel_rfl)
  have hop : o.op = Op.fieldAddr 42 (Operand.tmp 3) 5 := op_of ho (by kernel_rfl)
  have hg : o.guard = none := guard_of ho (by kernel_rfl)
  have v3 : a.eval (.tmp 3) = .pointer (some ⟨bx, 0, none⟩) := (h.fixed 3 (t 3) rfl).trans hR.t3
  exact h.pure ho hown rfl hg (v := .pointer (some ⟨bx, 8, none⟩)) (by simp only [execOp, hop, v3]; first | kernel_rfl | go_simp) rfl
theorem waOp5 (hR : waRows B b u bx x w0 t) (h : AtC waOps 62 [3, 7, 8] (waBase t) (waVal B b u bx x w0) (waH B b u bx x w0) l a w) (hn : l.getD 5 true = false) (hd : ∀ o : Oper, waOps[5]? = some o → ∀ e ∈ o.after.toList, Region.binds .any e = true → l.getD e.on false = true) : wpOp Tryz.prog waOps Q 5 (AtC waOps 62 [3, 7, 8] (waBase t) (waVal B b u bx x w0) (waH B b u bx x w0) (l.setIfInBounds 5 true)) a w := by
  have hown : ownAt waOps 62 (waBase t) 5 24 := ownAt_of (by kernel_rfl) rfl
  obtain ⟨o, ho⟩ : ∃ o, waOps[5]? = some o := Option.isSome_iff_exists.1 (by kernel_rfl)
  have hop : o.op = Op.load 39 (Operand.tmp 23) := op_of ho (by kernel_rfl)
  have hg : o.guard = none := guard_of ho (by kernel_rfl)
  have v23 : a.eval (.tmp 23) = .pointer (some ⟨bx, 8, none⟩) := h.done 4 23 (dep hd 4 (by kernel_rfl)) (by kernel_rfl)
  obtain ⟨j, hj⟩ := h.any
  have c := hj.2.now.cell 8
  simp at c
  exact h.pure ho hown rfl hg (v := .slice x.ta x.tn x.tc) (by simp only [execOp, hop, v23]; first | go_simp | simp [go_sem, c]) rfl
theorem waOp6 (hR : waRows B b u bx x w0 t) (h : AtC waOps 62 [3, 7, 8] (waBase t) (waVal B b u bx x w0) (waH B b u bx x w0) l a w) (hn : l.getD 6 true = false) (hd : ∀ o : Oper, waOps[6]? = some o → ∀ e ∈ o.after.toList, Region.binds .any e = true → l.getD e.on false = true) : wpOp Tryz.prog waOps Q 6 (AtC waOps 62 [3, 7, 8] (waBase t) (waVal B b u bx x w0) (waH B b u bx x w0) (l.setIfInBounds 6 true)) a w := by
  have hown : ownAt waOps 62 (waBase t) 6 25 := ownAt_of (by kernel_rfl) rfl
  obtain ⟨o, ho⟩ : ∃ o, waOps[6]? = some o := Option.isSome_iff_exists.1 (by kernel_rfl)
  have hop : o.op = Op.call { callee := Callee.builtin Builtin.len, args := #[Operand.tmp 24], argTypes := #[39] } := op_of ho (by kernel_rfl)
  have hg : o.guard = none := guard_of ho (by kernel_rfl)
  have v24 : a.eval (.tmp 24) = .slice x.ta x.tn x.tc := h.done 5 24 (dep hd 5 (by kernel_rfl)) (by kernel_rfl)
  exact h.pure ho hown rfl hg (v := .int .i64 (x.tn : Int)) (by simp only [execOp, hop, resolve, List.map_toArray, List.map_cons, List.map_nil, v24]; first | kernel_rfl | go_simp) rfl
theorem waOp7 (hR : waRows B b u bx x w0 t) (h : AtC waOps 62 [3, 7, 8] (waBase t) (waVal B b u bx x w0) (waH B b u bx x w0) l a w) (hn : l.getD 7 true = false) (hd : ∀ o : Oper, waOps[7]? = some o → ∀ e ∈ o.after.toList, Region.binds .any e = true → l.getD e.on false = true) : wpOp Tryz.prog waOps Q 7 (AtC waOps 62 [3, 7, 8] (waBase t) (waVal B b u bx x w0) (waH B b u bx x w0) (l.setIfInBounds 7 true)) a w := by
  have hown : ownAt waOps 62 (waBase t) 7 26 := ownAt_of (by kernel_rfl) rfl
  obtain ⟨o, ho⟩ : ∃ o, waOps[7]? = some o := Option.isSome_iff_exists.1 (by kernel_rfl)
  have hop : o.op = Op.buildSlice 39 2 #[(0, Operand.tmp 22), (1, Operand.tmp 25)] := op_of ho (by kernel_rfl)
  have hg : o.guard = none := guard_of ho (by kernel_rfl)
  have v22 : a.eval (.tmp 22) = .int .i64 (flagI x.tap) := h.done 3 22 (dep hd 3 (by kernel_rfl)) (by kernel_rfl)
  have v25 : a.eval (.tmp 25) = .int .i64 (x.tn : Int) := h.done 6 25 (dep hd 6 (by kernel_rfl)) (by kernel_rfl)
  have hnew : ∀ W : World, B ≤ W.heap.size → b < W.heap.size → Kq B b (fun W => IsL W (some ⟨W.heap.size, 0, none⟩) 2 [flagI x.tap, (x.tn : Int)]) W → True := fun _ _ _ _ => trivial
  refine h.makes (v := .slice (some ⟨w.heap.size, 0, none⟩) 2 2) (w' := w.alloc (.cells #[.int .i64 (flagI x.tap), .int .i64 (x.tn : Int)] 3)) (k := 1) ho hown (by decide) rfl (by decide) (fun j hj => ?_) hn hg ?_ (fun hH => ?_)
  · obtain rfl : j = 0 := by omega
    exact dep hd 3 (by kernel_rfl)
  · simp only [execOp, hop, List.map_toArray, List.map_cons, List.map_nil, v22, v25]
    first | go_simp | kernel_rfl
  · have hb := below_alloc1 w (.cells #[.int .i64 (flagI x.tap), .int .i64 (x.tn : Int)] 3)
    have hB := Nat.le_trans hR.hB hH.1.size
    exact ⟨⟨hH.1.new hR.hB hb, waKeep B b bx x _ _ hH.2 (hb.mono hB) (oth_below hb)⟩, ⟨_, rfl, lit_kq w [flagI x.tap, (x.tn : Int)] 2 rfl (by omega) hH.1.1.lt⟩, fun j v hv => waMono B b u bx x w0 j v _ _ hv (hb.mono hB) (oth_below hb)⟩
theorem waOp8 (hR : waRows B b u bx x w0 t) (h : AtC waOps 62 [3, 7, 8] (waBase t) (waVal B b u bx x w0) (waH B b u bx x w0) l a w) (hn : l.getD 8 true = false) (hd : ∀ o : Oper, waOps[8]? = some o → ∀ e ∈ o.after.toList, Region.binds .any e = true → l.getD e.on false = true) : wpOp Tryz.prog waOps Q 8 (AtC waOps 62 [3, 7, 8] (waBase t) (waVal B b u bx x w0) (waH B b u bx x w0) (l.setIfInBounds 8 true)) a w := by
  have hown : ownAt waOps 62 (waBase t) 8 27 := ownAt_of (by kernel_rfl) rfl
  obtain ⟨o, ho⟩ : ∃ o, waOps[8]? = some o := Option.isSome_iff_exists.1 (by kernel_rfl)
  have hop : o.op = Op.call { callee := Callee.value (Operand.func 14), args := #[Operand.tmp 19, Operand.tmp 26], argTypes := #[72, 39] } := op_of ho (by kernel_rfl)
  have hg : o.guard = none := guard_of ho (by kernel_rfl)
  have v19 : a.eval (.tmp 19) = .pointer (some ⟨b, 0, none⟩) := h.done 0 19 (dep hd 0 (by kernel_rfl)) (by kernel_rfl)
  have p26 : waVal B b u bx x w0 7 (a.eval (.tmp 26)) w := h.done 7 26 (dep hd 7 (by kernel_rfl)) (by kernel_rfl)
  obtain ⟨g, hg1, hg2⟩ := p26
  refine h.call (f := 14) (args := #[.pointer (some ⟨b, 0, none⟩), .slice (some ⟨g, 0, none⟩) 2 2]) (k := 2) ho hown (by decide) rfl (by decide) (fun j hj => ?_) hn hg ?_ (fun hH => (nums_any (T := [flagI x.tap, (x.tn : Int)]) (u := u) (by have := flag_nm x.tap; have := hR.hx; unfold NmOk at *; intro i hi; simp at hi; unfold Nn; rcases hi with rfl | rfl <;> omega) (by have h1 := hH.1.1; exact h1) hg2 (Nat.le_trans hR.hB hH.1.size) (by have := hR.hz; simp; omega)).mono ?_)
  · obtain rfl : j = 1 := by omega
    exact dep hd 7 (by kernel_rfl)
  · rw [exec_call (enters_of Tryz.func14 (by kernel_rfl) rfl) hop]
    simp only [List.map_toArray, List.map_cons, List.map_nil, v19, hg1]
    try rfl
  · rintro e w' ⟨rfl, hws⟩
    exact .inr ⟨_, rfl, ⟨hH.1.then hws, waKeep B b bx x _ _ hH.2 hws.2.1 hws.2.2⟩, trivial, fun j v hv => waMono B b u bx x w0 j v _ _ hv hws.2.1 hws.2.2⟩
theorem waSize : waOps.size = 9 := by kernel_rfl
theorem waStep (hR : waRows B b u bx x w0 t) (l : Array Bool) (a : Act) (w : World) (kk : Nat) (h : AtC waOps 62 [3, 7, 8] (waBase t) (waVal B b u bx x w0) (waH B b u bx x w0) l a w) (hi : kk < waOps.size) (hn : l.getD kk true = false) (hd : ∀ o : Oper, waOps[kk]? = some o → ∀ e ∈ o.after.toList, Region.binds .any e = true → l.getD e.on false = true) : wpOp Tryz.prog waOps Q kk (AtC waOps 62 [3, 7, 8] (waBase t) (waVal B b u bx x w0) (waH B b u bx x w0) (l.setIfInBounds kk true)) a w := by
  rw [waSize] at hi
  match kk, hi, hn, hd with
  | 0, _, hn, hd => exact waOp0 hR h hn hd
  | 1, _, hn, hd => exact waOp1 hR h hn hd
  | 2, _, hn, hd => exact waOp2 hR h hn hd
  | 3, _, hn, hd => exact waOp3 hR h hn hd
  | 4, _, hn, hd => exact waOp4 hR h hn hd
  | 5, _, hn, hd => exact waOp5 hR h hn hd
  | 6, _, hn, hd => exact waOp6 hR h hn hd
  | 7, _, hn, hd => exact waOp7 hR h hn hd
  | 8, _, hn, hd => exact waOp8 hR h hn hd
  | k + 9, hi, _, _ => omega
theorem waReg (hR : waRows B b u bx x w0 t) (h0 : Wr B b u w0) (hI : waI B b bx x w0) (fin : ∀ (v : Nat → Value) (w : World), WS B b (u ++ many nB [flagI x.tap, (x.tn : Int)] ByteArray.empty) w0 w → waI B b bx x w → Q .normal ⟨#[t 0, t 1, t 2, t 3, t 4, t 5, t 6, t 7, t 8, t 9, t 10, t 11, t 12, t 13, t 14, t 15, t 16, t 17, t 18, v 19, v 20, v 21, v 22, v 23, v 24, v 25, v 26, v 27, t 28, t 29, t 30, t 31, t 32, t 33, t 34, t 35, t 36, t 37, t 38, t 39, t 40, t 41, t 42, t 43, t 44, t 45, t 46, t 47, t 48, t 49, t 50, t 51, t 52, t 53, t 54, t 55, t 56, t 57, t 58, t 59, t 60, t 61], []⟩ w) : (Code.region 3 waOps true).wp Tryz.prog Q ⟨((List.range 62).map t).toArray, []⟩ w0 := by
  refine region_allC (n := 62) (cs := [3, 7, 8]) (base := waBase t) (val := waVal B b u bx x w0) (H := waH B b u bx x w0) (by kernel_rfl) (earlier_of (by kernel_rfl)) ?start (fun l a w i h hi hn hd => waStep hR l a w i h hi hn hd) ?fin
  case start =>
    refine AtC.begins (by simp) rfl ⟨⟨h0, (Below.refl _ _).drew, (Lib.OthersKept.refl _ _ _).drew⟩, waKeep B b bx x _ _ hI (Below.refl _ _).drew (Lib.OthersKept.refl _ _ _).drew⟩ fun s v hs => ?_
    unfold waBase at hs
    split at hs
    · rename_i hs1
      cases hs
      exact row_getC t 62 s (free_ltC (free := waFree) (by kernel_rfl) hs1)
    · cases hs
  case fin =>
    intro l a w h hall
    have hH := h.last (fun i hi => hall _ (by
      have hi2 : i = 0 ∨ i = 1 ∨ i = 2 := by simp at hi; omega
      rw [waSize]
      rcases hi2 with rfl | rfl | rfl <;> decide))
    obtain ⟨tm, df⟩ := a
    have hdf : df = [] := h.defers
    have hsz : tm.size = 62 := h.tmps
    have hfx : ∀ s, waFree.contains s = true → tm.getD s undef = t s := fun s hs => h.fixed s (t s) (by unfold waBase; rw [if_pos hs])
    obtain ⟨v2, hv2⟩ : ∃ v2 : Nat → Value, ∀ s, tm.getD s undef = v2 s := ⟨_, fun _ => rfl⟩
    have e := slots_free tm 62 hsz waFree t v2 hfx hv2
    have e2 : tm = #[t 0, t 1, t 2, t 3, t 4, t 5, t 6, t 7, t 8, t 9, t 10, t 11, t 12, t 13, t 14, t 15, t 16, t 17, t 18, v2 19, v2 20, v2 21, v2 22, v2 23, v2 24, v2 25, v2 26, v2 27, t 28, t 29, t 30, t 31, t 32, t 33, t 34, t 35, t 36, t 37, t 38, t 39, t 40, t 41, t 42, t 43, t 44, t 45, t 46, t 47, t 48, t 49, t 50, t 51, t 52, t 53, t 54, t 55, t 56, t 57, t 58, t 59, t 60, t 61] := e.trans (by kernel_rfl)
    subst e2 hdf
    exact fin v2 w (by have h1 := hH.1; exact h1) hH.2
end
end Go.Proofs.YtbeaaieaffdgeaaGreatDoor
end
/- The program's writer: an ability. -/
section
namespace Go.Proofs.YtbeaaieaffdgeaaGreatDoor
open Go.RowKit
set_option linter.unusedVariables false
set_option linter.unusedSimpArgs false

theorem many_cat {α : Type} (e : α → ByteArray → ByteArray) (l m : List α) (t : ByteArray) : many e (l ++ m) t = many e l (many e m t) := by simp [many, List.foldr_append]
theorem kq_bk {B b bx : Nat} {cs : Array Value} {T : TypeId} {w : World} (h : Bk w bx cs T) (hne : bx ≠ b) (hT : T ≠ 5) : Kq B b (fun W => Bk W bx cs T) w :=
  fun W _ o => o bx _ h (fun e => hne (Option.some.inj e)) (fun c fz e => by injection e with _ e2 _; exact hT e2)
theorem kq_cost {B b bx o : Nat} {cs : Array Value} {T : TypeId} {w : World} {c0 c1 c2 c3 : Int} (h : Kq B b (fun W => Bk W bx cs T) w) (h0 : cs[o]? = some (.int .i64 c0)) (h1 : cs[o + 1]? = some (.int .i64 c1)) (h2 : cs[o + 2]? = some (.int .i64 c2)) (h3 : cs[o + 3]? = some (.int .i64 c3)) :
    Kq B b (fun W => IsL W (some ⟨bx, o, none⟩) 4 [c0, c1, c2, c3]) w := by
  intro W hb ho
  have k := h W hb ho
  refine ⟨by simp, by omega, .inr ⟨bx, o, rfl, k.lt, fun j hj => ?_⟩⟩
  rw [k.cell]
  match j, hj with
  | 0, _ => exact h0
  | 1, _ => exact h1
  | 2, _ => exact h2
  | 3, _ => exact h3
  | j + 4, hj => simp at hj; omega
theorem nn_of {i : Int} (h : NmOk i) : Nn i := ⟨h.1, by have := h.2; omega⟩
theorem ins_next' (s : ByteArray) (C : List Ins) (k : Nat) (hk : k < C.length) (i : Ins) (hi : i = C[k]) : s ++ many insB (C.take k) ByteArray.empty ++ nB i.op (sB i.a (sB i.b ByteArray.empty)) = s ++ many insB (C.take (k + 1)) ByteArray.empty := by
  rw [List.take_succ_eq_append_getElem hk, many_snoc insB_fore, ← hi, ByteArray.append_assoc]
  rfl
/-- Where the writer of an ability stands. -/
def AS (B b bx : Nat) (x : Ab) (T : List Int) (C : List Ins) (w0 : World) (u : ByteArray) (W : World) : Prop :=
  WS B b u w0 W ∧ Kq B b (fun W => AbR W x T C) W ∧ Kq B b (fun W => Bk W bx #[.int .i64 x.k, .int .i64 x.ev, .int .i64 x.wh, .int .i64 x.c0, .int .i64 x.c1, .int .i64 x.c2, .int .i64 x.c3, .bool x.tap, .slice x.ta x.tn x.tc, .slice x.ca x.cn x.cc, .int .i64 x.op, .int .i64 x.a, .int .i64 x.b] 42) W ∧ B ≤ W.heap.size
theorem AS.go {B b bx : Nat} {x : Ab} {T : List Int} {C : List Ins} {w0 : World} {u u' : ByteArray} {W W' : World} (h : AS B b bx x T C w0 u W) (k : WS B b u' W W') : AS B b bx x T C w0 u' W' :=
  ⟨h.1.then k, h.2.1.next k.2.1 k.2.2, h.2.2.1.next k.2.1 k.2.2, Nat.le_trans h.2.2.2 k.size⟩
theorem AS.new {B b bx : Nat} {x : Ab} {T : List Int} {C : List Ins} {w0 : World} {u : ByteArray} {W W' : World} (h : AS B b bx x T C w0 u W) (k : Below W.heap.size W W') : AS B b bx x T C w0 u W' :=
  h.go ((WS.refl h.1.1).new h.2.2.2 k)
set_option maxRecDepth 100000 in
set_option maxHeartbeats 8000000 in
theorem wAb_any {B b : Nat} {u : ByteArray} (x : Ab) (T : List Int) (C : List Ins) (hx : AbOk (x, T, C)) {w : World} (h : Wr B b u w) (hB : B ≤ w.heap.size) (hab : Kq B b (fun W => AbR W x T C) w) (hz : u.size + 4000 ≤ 70368744177664) :
    Calls Tryz.prog 41 #[.pointer (some ⟨b, 0, none⟩), .agg #[.int .i64 x.k, .int .i64 x.ev, .int .i64 x.wh, .int .i64 x.c0, .int .i64 x.c1, .int .i64 x.c2, .int .i64 x.c3, .bool x.tap, .slice x.ta x.tn x.tc, .slice x.ca x.cn x.cc, .int .i64 x.op, .int .i64 x.a, .int .i64 x.b]] w fun e w' => e = .returned (.tuple #[]) ∧ WS B b (u ++ abB (x, T, C) ByteArray.empty) w w' := by
  obtain ⟨hh, hT2, hC32, hTs, hCs, hop, ha, hbn⟩ := hx
  simp only [abHead, List.forall_mem_cons] at hh
  obtain ⟨a1, a2, a3, a4, a5, a6, a7, a8, a9, _⟩ := hh
  have htn := hab.now.1.1
  have hcn := hab.now.2.1
  obtain ⟨s1, hu1⟩ : ∃ s1, u ++ many nB [x.k, x.ev, x.wh] ByteArray.empty = s1 := ⟨_, rfl⟩
  obtain ⟨s2, hu2⟩ : ∃ s2, s1 ++ many nB [x.c0, x.c1, x.c2, x.c3] ByteArray.empty = s2 := ⟨_, rfl⟩
  obtain ⟨s3, hu3⟩ : ∃ s3, s2 ++ many nB [flagI x.tap, (x.tn : Int)] ByteArray.empty = s3 := ⟨_, rfl⟩
  obtain ⟨s4, hu4⟩ : ∃ s4, s3 ++ many nB T ByteArray.empty = s4 := ⟨_, rfl⟩
  obtain ⟨s5, hu5⟩ : ∃ s5, s4 ++ many nB [(x.cn : Int)] ByteArray.empty = s5 := ⟨_, rfl⟩
  obtain ⟨s6, hu6⟩ : ∃ s6, s5 ++ many insB C ByteArray.empty = s6 := ⟨_, rfl⟩
  have HE := Lib.hid (show s6 ++ nB x.op (sB x.a (sB x.b ByteArray.empty)) = u ++ abB (x, T, C) ByteArray.empty by
    rw [← hu6, ← hu5, ← hu4, ← hu3, ← hu2, ← hu1]
    simp only [ByteArray.append_assoc]
    congr 1
    rw [← many_fore insB_fore C, ← many_fore nB_fore, ← many_fore nB_fore T, ← many_fore nB_fore, ← many_fore nB_fore, ← many_fore nB_fore]
    simp only [abB, abHead, many_cons, many_nil, htn, hcn])
  have z0 : ByteArray.empty.size = 0 := rfl
  have hT2' : T.length ≤ 2 := hT2
  have hC32' : C.length ≤ 32 := hC32
  have z1 : s1.size ≤ u.size + 27 := by have := many_size 9 [x.k, x.ev, x.wh] (fun i _ t => nB_size i t) ByteArray.empty; rw [← hu1, ByteArray.size_append]; simp at this ⊢; omega
  have z2 : s2.size ≤ s1.size + 36 := by have := many_size 9 [x.c0, x.c1, x.c2, x.c3] (fun i _ t => nB_size i t) ByteArray.empty; rw [← hu2, ByteArray.size_append]; simp at this ⊢; omega
  have z3 : s3.size ≤ s2.size + 18 := by have := many_size 9 [flagI x.tap, (x.tn : Int)] (fun i _ t => nB_size i t) ByteArray.empty; rw [← hu3, ByteArray.size_append]; simp at this ⊢; omega
  have z4 : s4.size ≤ s3.size + 18 := by have := many_size 9 T (fun i _ t => nB_size i t) ByteArray.empty; rw [← hu4, ByteArray.size_append]; omega
  have z5 : s5.size ≤ s4.size + 9 := by have := many_size 9 [(x.cn : Int)] (fun i _ t => nB_size i t) ByteArray.empty; rw [← hu5, ByteArray.size_append]; simp at this ⊢; omega
  have HZ := Lib.hid (show s1.size + 2500 ≤ 70368744177664 ∧ s2.size + 2500 ≤ 70368744177664 ∧ s3.size + 2500 ≤ 70368744177664 ∧ s4.size + 2500 ≤ 70368744177664 ∧ s5.size + 2500 ≤ 70368744177664 ∧ ∀ k, (s5 ++ many insB (C.take k) ByteArray.empty).size + 100 ≤ 70368744177664 by
    refine ⟨by omega, by omega, by omega, by omega, by omega, fun k => ?_⟩
    have h1 := many_size 27 (C.take k) (fun i _ t => insB_size i t) ByteArray.empty
    have h2 : (C.take k).length ≤ C.length := by rw [List.length_take]; omega
    rw [ByteArray.size_append]
    omega)
  have H1 := Lib.hid hu1
  have H2 := Lib.hid hu2
  have H3 := Lib.hid hu3
  have H4 := Lib.hid hu4
  have H5 := Lib.hid hu5
  have H6 := Lib.hid hu6
  have HA := Lib.hid (⟨a1, a2, a3, a4, a5, a6, a7⟩ : NmOk x.k ∧ NmOk x.ev ∧ NmOk x.wh ∧ NmOk x.c0 ∧ NmOk x.c1 ∧ NmOk x.c2 ∧ NmOk x.c3)
  have HTs := Lib.hid (show ∀ i ∈ T, Nn i from fun i hi => nn_of (hTs i hi))
  have HCs := Lib.hid (show ∀ i ∈ C, InsOk i from hCs)
  have HO := Lib.hid (⟨nn_of hop, ha, hbn⟩ : Nn x.op ∧ In64 x.a ∧ In64 x.b)
  have HTn := Lib.hid htn
  have HCn := Lib.hid hcn
  have htn2 : x.tn ≤ 2 := by rw [← htn]; exact hT2
  have hcn2 : x.cn ≤ 32 := by rw [← hcn]; exact hC32
  have hcc := hab.now.2.2.1
  have hccm := hab.now.2.2.2.1
  rw [hcn] at hcc
  have HS0 := Lib.hid (show AS B b w.heap.size x T C w u (w.alloc (.cells #[.int .i64 x.k, .int .i64 x.ev, .int .i64 x.wh, .int .i64 x.c0, .int .i64 x.c1, .int .i64 x.c2, .int .i64 x.c3, .bool x.tap, .slice x.ta x.tn x.tc, .slice x.ca x.cn x.cc, .int .i64 x.op, .int .i64 x.a, .int .i64 x.b] 42)) from
    ⟨(WS.refl h).new hB (below_alloc1 w _), hab.next ((below_alloc1 w _).mono hB) (oth_below (below_alloc1 w _)), kq_bk (Bk.new w #[.int .i64 x.k, .int .i64 x.ev, .int .i64 x.wh, .int .i64 x.c0, .int .i64 x.c1, .int .i64 x.c2, .int .i64 x.c3, .bool x.tap, .slice x.ta x.tn x.tc, .slice x.ca x.cn x.cc, .int .i64 x.op, .int .i64 x.a, .int .i64 x.b] 42) (by have := h.lt; omega) (by decide), by simp; omega⟩)
  have hblt := h.lt
  have hzu : u.size + 4000 ≤ 70368744177664 := hz
  clear hu1 hu2 hu3 hu4 hu5 hu6 z0 z1 z2 z3 z4 z5 hT2' hC32' a1 a2 a3 a4 a5 a6 a7 a8 a9 hop ha hbn htn hcn hT2 hC32 hTs hCs h hab hz
  go_enter Tryz.func41, Tryz.ntmps41
  go_wp2_with fail
  have HL1 := Lib.hid (lit_kq (B := B) (b := b) (w.alloc (.cells #[.int .i64 x.k, .int .i64 x.ev, .int .i64 x.wh, .int .i64 x.c0, .int .i64 x.c1, .int .i64 x.c2, .int .i64 x.c3, .bool x.tap, .slice x.ta x.tn x.tc, .slice x.ca x.cn x.cc, .int .i64 x.op, .int .i64 x.a, .int .i64 x.b] 42)) [x.k, x.ev, x.wh] 3 rfl (by omega) (by simp; omega))
  have HS1 := Lib.hid (HS0.out.new (below_alloc1 _ (.cells #[.int .i64 x.k, .int .i64 x.ev, .int .i64 x.wh] 3)))
  clear HS0
  refine (nums_any (T := [x.k, x.ev, x.wh]) (fun i hi => by have := HA.out; simp at hi; rcases hi with rfl | rfl | rfl <;> (apply nn_of; simp [*])) HS1.out.1.1 (by simpa using HL1.out) HS1.out.2.2.2 (by simp; omega)).mono ?_
  rintro e w1 ⟨rfl, h1⟩
  have HS2 := Lib.hid (HS1.out.go h1)
  rw [H1.out] at HS2
  clear h1 HS1 HL1
  go_wp2_with fail
  refine (nums_any (T := [x.c0, x.c1, x.c2, x.c3]) (fun i hi => by have := HA.out; simp at hi; rcases hi with rfl | rfl | rfl | rfl <;> (apply nn_of; simp [*])) HS2.out.1.1 (kq_cost (o := 3) HS2.out.2.2.1 rfl rfl rfl rfl) HS2.out.2.2.2 (by have := HZ.out.1; simp; omega)).mono ?_
  rintro e w2 ⟨rfl, h1⟩
  have HS3 := Lib.hid (HS2.out.go h1)
  rw [H2.out] at HS3
  clear h1 HS2
  go_wp2_with fail
  rename_i KK hKK
  refine wp_slotsC 62 rfl ?_
  intro t ht
  have e0 : t 0 = .pointer (some ⟨b, 0, none⟩) := by rw [ht]; rfl
  have e3 : t 3 = .pointer (some ⟨w.heap.size, 0, none⟩) := by rw [ht]; rfl
  have HRo := Lib.hid (show waRows B b s2 w.heap.size x w2 t from ⟨e0, e3, by omega, by have := HZ.out.2.1; omega, HS3.out.2.2.2⟩)
  clear ht
  refine waReg HRo.out HS3.out.1.1 HS3.out.2.2.1 ?_
  intro v2 w3 h1 _
  have HS4 := Lib.hid (HS3.out.go h1)
  rw [H3.out] at HS4
  clear h1 HS3 HRo
  refine hKK _ _ ?_
  rw [e0, e3]
  clear e0 e3 hKK
  have c8 := HS4.out.2.2.1.now.cell 8
  have c9 := HS4.out.2.2.1.now.cell 9
  simp at c8 c9
  go_wp2_with fail
  rw [← HTn.out]
  refine (nums_any (T := T) HTs.out HS4.out.1.1 (fun W k o => (HS4.out.2.1 W k o).1.2) HS4.out.2.2.2 (by have := HZ.out.2.2.1; have := HTn.out; omega)).mono ?_
  rintro e w4 ⟨rfl, h1⟩
  have HS5 := Lib.hid (HS4.out.go h1)
  rw [H4.out] at HS5
  clear h1 HS4 c8 c9
  have c9 := HS5.out.2.2.1.now.cell 9
  simp at c9
  go_wp2_with fail
  have HL5 := Lib.hid (lit_kq (B := B) (b := b) w4 [(x.cn : Int)] 1 rfl (by omega) HS5.out.1.1.lt)
  have HS6 := Lib.hid (HS5.out.new (below_alloc1 w4 (.cells #[.int .i64 (x.cn : Int)] 3)))
  clear HS5 c9
  refine (nums_any (T := [(x.cn : Int)]) (fun i hi => by rw [List.mem_singleton.1 hi]; unfold Nn; omega) HS6.out.1.1 HL5.out HS6.out.2.2.2 (by have := HZ.out.2.2.2.1; simp; omega)).mono ?_
  rintro e w5 ⟨rfl, h1⟩
  have HS7 := Lib.hid (HS6.out.go h1)
  rw [H5.out] at HS7
  clear h1 HS6 HL5
  have c9 := HS7.out.2.2.1.now.cell 9
  simp at c9
  go_wp2_with fail
  clear c9
  go_loopw [41] (fun q wr => ∃ k : Nat, q = .int .i64 (k : Int) ∧ k ≤ x.cn ∧ AS B b w.heap.size x T C w (s5 ++ many insB (C.take k) ByteArray.empty) wr) (fun q _ => x.cn - (intOf q).toNat)
  case atStart => exact ⟨0, rfl, Nat.zero_le _, (show s5 ++ many insB (C.take 0) ByteArray.empty = s5 by simp [many]).symm ▸ HS7.out⟩
  case round =>
    obtain ⟨k, rfl, hk, has⟩ := hrel
    have HSr := Lib.hid has
    clear has HS7
    by_cases hlt : k < x.cn
    · obtain ⟨bb, off, i, hi, hca, x0, x1, x2⟩ := HSr.out.2.1.now.2.2.at k (by rw [HCn.out]; exact hlt)
      have HIo := Lib.hid (HCs.out i (by rw [hi]; exact List.getElem_mem _))
      have HNx := Lib.hid (ins_next' s5 C k (by rw [HCn.out]; exact hlt) i hi)
      have HZk := Lib.hid (HZ.out.2.2.2.2.2 k)
      have HSb := Lib.hid (HSr.out.new (below_alloc1 wr (.cells #[.int .i64 i.op, .int .i64 i.a, .int .i64 i.b] 82)))
      clear hi
      rw [hca] at *
      go_wp2_with fail
      refine (operation_any (nn_of HIo.out.1) HIo.out.2.1 HIo.out.2.2 HSb.out.1.1 HSb.out.2.2.2 HZk.out).mono ?_
      rintro e w6 ⟨rfl, h1⟩
      have HSn := Lib.hid (HSb.out.go h1)
      rw [HNx.out] at HSn
      clear h1 HSb x0 x1 x2
      go_wp2_with fail
      go_roundw
      case rel => exact ⟨k + 1, by go_num, by omega, HSn.out⟩
      case measure => simp [intOf]; omega
    · have HSe := Lib.hid (show AS B b w.heap.size x T C w s6 wr by
        have h1 := HSr.out
        rw [List.take_of_length_le (by rw [HCn.out]; omega), H6.out] at h1
        exact h1)
      have HZe := Lib.hid (show s6.size + 100 ≤ 70368744177664 by have h1 := HZ.out.2.2.2.2.2 C.length; rw [List.take_length, H6.out] at h1; exact h1)
      have c10 := HSe.out.2.2.1.now.cell 10
      have c11 := HSe.out.2.2.1.now.cell 11
      have c12 := HSe.out.2.2.1.now.cell 12
      simp at c10 c11 c12
      clear HSr
      go_wp2_with fail
      refine (operation_any HO.out.1 HO.out.2.1 HO.out.2.2 HSe.out.1.1 HSe.out.2.2.2 HZe.out).mono ?_
      rintro e w7 ⟨rfl, h1⟩
      have HSf := Lib.hid (HSe.out.go h1)
      rw [HE.out] at HSf
      clear h1 HSe c10 c11 c12
      go_wp2_with fail
      go_end0
      exact ⟨rfl, HSf.out.1⟩
end Go.Proofs.YtbeaaieaffdgeaaGreatDoor
end
/- Tokens, names: what Check tells, told of a part. No walk. -/
section
namespace Go.Proofs.YtbeaaieaffdgeaaGreatDoor
open Go.RowKit
set_option linter.unusedVariables false
set_option linter.unusedSimpArgs false

/-- May an instruction's token be? -/
def tok1 (L : List CdT) (x : Ins) : Bool := !(x.op == 21) || ((L[x.b.toNat]?.map fun c => c.1.k == 2).getD true)
theorem tokB_eq (L : List CdT) (C : List Ins) : tokB L C = C.all (tok1 L) := rfl
/-- Each token's number is a card's. -/
def TokIn (n : Nat) (C : List Ins) : Prop := ∀ x ∈ C, x.op = 21 → 0 ≤ x.b ∧ x.b < n
theorem tok_one {len t c : Int} {x : Ins} (h : one len t c x = true) (h21 : x.op = 21) : 0 ≤ x.b ∧ x.b < c := by
  simp only [one, Bool.and_eq_true] at h
  obtain ⟨_, _, h3⟩ := h
  rw [h21] at h3
  change btw 0 (c - 1) x.b = true at h3
  rw [btw_iff] at h3
  omega
theorem abil_tok (x : Ab) (T : List Int) (L : List Ins) (cards : Int) (h : abilB x T L cards = true) (hc : L.length = x.cn) : ∀ i ∈ L, i.op = 21 → 0 ≤ i.b ∧ i.b < cards := by
  intro i m h21
  unfold abilB at h
  split at h
  · simp only [spellB, Bool.and_eq_true, beq_iff_eq] at h
    exact tok_one ((chk_ins h.2.1).2.2 i m) h21
  · split at h
    · simp only [actB, Bool.and_eq_true, beq_iff_eq] at h
      exact tok_one ((chk_ins h.2.2.1).2.2 i m) h21
    · split at h
      · simp only [trigB, Bool.and_eq_true, beq_iff_eq] at h
        exact tok_one ((chk_ins h.2.1).2.2 i m) h21
      · split at h
        · simp only [staticB, Bool.and_eq_true, beq_iff_eq, only_iff] at h
          obtain ⟨_, _, _, _, _, _, _, h11, _⟩ := h
          obtain rfl : L = [] := List.eq_nil_of_length_eq_zero (by omega)
          cases m
        · split at h
          · simp only [replB, Bool.and_eq_true, beq_iff_eq, only_iff] at h
            obtain ⟨_, _, _, _, _, _, _, h11, _⟩ := h
            obtain rfl : L = [] := List.eq_nil_of_length_eq_zero (by omega)
            cases m
          · cases h
theorem tok_in (y : Cd) (A : List AbT) (n : Nat) (h : chkC y A n = 0) (hl : ∀ t ∈ A, t.2.2.length = t.1.cn) : ∀ t ∈ A, TokIn n t.2.2 := by
  intro t m
  unfold chkC at h
  split at h
  · split at h
    · omega
    · split at h
      · rename_i h3
        simp only [canB, Bool.and_eq_true] at h3
        have := List.all_eq_true.1 h3.2.2 t m
        simp only [fitB, Bool.and_eq_true] at this
        exact abil_tok t.1 t.2.1 t.2.2 n this.2 (hl t m)
      · omega
  · omega
theorem twice_iff : ∀ L : List CdT, twiceB L = true ↔ ∃ k i, ∃ (hi : i < L.length) (hk : k < i), L[i].1.nm = L[k].1.nm
  | [] => by simp [twiceB]
  | c :: L => by
    have ih := twice_iff L
    simp only [twiceB, Bool.or_eq_true, List.any_eq_true, decide_eq_true_eq, ih]
    constructor
    · rintro (⟨d, hd, h⟩ | ⟨k, i, hi, hk, h⟩)
      · obtain ⟨j, hj, rfl⟩ := List.getElem_of_mem hd
        exact ⟨0, j + 1, by simp; omega, by omega, by simpa using h⟩
      · exact ⟨k + 1, i + 1, by simp; omega, by omega, by simpa using h⟩
    · rintro ⟨k, i, hi, hk, h⟩
      obtain ⟨i, rfl⟩ : ∃ j, i = j + 1 := ⟨i - 1, by omega⟩
      rcases k with _ | k
      · exact .inl ⟨L[i]'(by simpa using hi), List.getElem_mem _, by simpa using h⟩
      · exact .inr ⟨k, i, by simpa using hi, by omega, by simpa using h⟩
theorem nm_eq (a b : ByteArray) : (a.toList == b.toList) = decide (a = b) := by
  rw [ByteArray.toList_eq, ByteArray.toList_eq, Bool.eq_iff_iff, beq_iff_eq, decide_eq_true_eq]
  constructor
  · intro h
    exact ByteArray.ext (Array.toList_inj.1 h)
  · intro h
    rw [h]
/-- Where Check stands: it is told of the first i; the names of the first i differ. -/
theorem chkP_bad {L : List CdT} (h1 : L.length ≠ 0) (h2 : L.length ≤ 40) (k : Nat) (hk : k < L.length) (h : inB L L[k] = false) : chkP L = 10 := by
  rw [chkP, if_neg h1, if_neg (by omega), if_neg]
  intro hall
  have := List.all_eq_true.1 hall _ (List.getElem_mem hk)
  rw [h] at this
  cases this
theorem chkP_good {L : List CdT} (h1 : L.length ≠ 0) (h2 : L.length ≤ 40) (h : ∀ j (hj : j < L.length), inB L L[j] = true) : chkP L = if twiceB L then 11 else 0 := by
  rw [chkP, if_neg h1, if_neg (by omega), if_pos]
  refine List.all_eq_true.2 fun y hy => ?_
  obtain ⟨j, hj, rfl⟩ := List.getElem_of_mem hy
  exact h j hj
end Go.Proofs.YtbeaaieaffdgeaaGreatDoor
end
/- The program's Check of a pool: tokens, each card. -/
section
namespace Go.Proofs.YtbeaaieaffdgeaaGreatDoor
open Go.RowKit
set_option linter.unusedVariables false
set_option linter.unusedSimpArgs false

set_option maxRecDepth 100000 in
set_option maxHeartbeats 4000000 in
theorem makes_any (y : Cd) (A : List AbT) (a : Option Addr) (c : Nat) (L : List CdT) (n : Nat) (hn : L.length = n) (hT : ∀ t ∈ A, TokIn n t.2.2) (r : Bool) (hr : (A.all fun t => tokB L t.2.2) = r) (w : World) (h : CdR w y A) (hp : IsP w a c L) :
    Calls Tryz.prog 45 #[.agg #[.string y.nm, .int .i64 y.k, .int .i64 y.c0, .int .i64 y.c1, .int .i64 y.c2, .int .i64 y.c3, .int .i64 y.col, .int .i64 y.pow, .int .i64 y.tou, .int .i64 y.keys, .slice y.aa y.an y.ac], .slice a n c] w fun e w' => e = .returned (.bool r) ∧ Below w.heap.size w w' := by
  have HR := Lib.hid hr
  have hb := below_alloc1 w (.cells #[.string y.nm, .int .i64 y.k, .int .i64 y.c0, .int .i64 y.c1, .int .i64 y.c2, .int .i64 y.c3, .int .i64 y.col, .int .i64 y.pow, .int .i64 y.tou, .int .i64 y.keys, .slice y.aa y.an y.ac] 38)
  have HD := Lib.hid (h.next hb)
  have HP := Lib.hid (hp.next hb)
  have HX := Lib.hid (boxC_new w y 38)
  have hcap := h.2.1
  have hcm := h.2.2.1
  rw [h.1] at hcap
  have hcp := hp.1
  have hcpm := hp.2.1
  rw [hn] at hcp
  have HB := Lib.hid hb
  have HA := Lib.hid h.1
  have HN := Lib.hid hn
  have HTk := Lib.hid hT
  clear hr h hb hp hn hT
  go_enter Tryz.func45, Tryz.ntmps45
  go_wp2_with fail
  generalize w.alloc (.cells #[.string y.nm, .int .i64 y.k, .int .i64 y.c0, .int .i64 y.c1, .int .i64 y.c2, .int .i64 y.c3, .int .i64 y.col, .int .i64 y.pow, .int .i64 y.tou, .int .i64 y.keys, .slice y.aa y.an y.ac] 38) = W at *
  go_loopw [12] (fun q wr => ∃ k : Nat, q = .int .i64 (k : Int) ∧ k ≤ y.an ∧ (∀ j (h : j < A.length), j < k → tokB L A[j].2.2 = true) ∧ Below W.heap.size W wr) (fun q _ => y.an - (intOf q).toNat)
  case atStart => exact ⟨0, rfl, Nat.zero_le _, fun j _ hj => by omega, Below.refl _ _⟩
  case round =>
    obtain ⟨k, rfl, hk, hT, hbw⟩ := hrel
    have HT := Lib.hid hT
    have HW := Lib.hid hbw
    clear hT hbw
    by_cases hlt : k < y.an
    · obtain ⟨b, off, x, T, C, hx, hab, hta, hbl, m0, m1, m2, m3, m4, m5, m6, m7, m8, m9, m10, m11, m12⟩ := (HD.out.2.next HW.out).at k (by rw [HA.out]; exact hlt)
      have HY := Lib.hid hx
      have HTj := Lib.hid (HTk.out (x, T, C) (by rw [hx]; exact List.getElem_mem _))
      have HC := Lib.hid (hab.2.2.next (below_alloc1 wr (.cells #[.int .i64 x.k, .int .i64 x.ev, .int .i64 x.wh, .int .i64 x.c0, .int .i64 x.c1, .int .i64 x.c2, .int .i64 x.c3, .bool x.tap, .slice x.ta x.tn x.tc, .slice x.ca x.cn x.cc, .int .i64 x.op, .int .i64 x.a, .int .i64 x.b] 42)))
      have HCn := Lib.hid hab.2.1
      have hcc := hab.2.2.1
      have hccm := hab.2.2.2.1
      rw [hab.2.1] at hcc
      have HW2 := Lib.hid (HW.out.alloc HW.out.size (.cells #[.int .i64 x.k, .int .i64 x.ev, .int .i64 x.wh, .int .i64 x.c0, .int .i64 x.c1, .int .i64 x.c2, .int .i64 x.c3, .bool x.tap, .slice x.ta x.tn x.tc, .slice x.ca x.cn x.cc, .int .i64 x.op, .int .i64 x.a, .int .i64 x.b] 42))
      clear hx hab
      rw [hta] at *
      go_wp2_with fail
      generalize wr.alloc (.cells #[.int .i64 x.k, .int .i64 x.ev, .int .i64 x.wh, .int .i64 x.c0, .int .i64 x.c1, .int .i64 x.c2, .int .i64 x.c3, .bool x.tap, .slice x.ta x.tn x.tc, .slice x.ca x.cn x.cc, .int .i64 x.op, .int .i64 x.a, .int .i64 x.b] 42) = wA at *
      generalize wr = wB at *
      go_loopw [19] (fun q ws => ∃ j : Nat, q = .int .i64 (j : Int) ∧ j ≤ x.cn ∧ (∀ i (h : i < C.length), i < j → tok1 L C[i] = true) ∧ Below wA.heap.size wA ws) (fun q _ => x.cn - (intOf q).toNat)
      case atStart => exact ⟨0, rfl, Nat.zero_le _, fun j _ hj => by omega, Below.refl _ _⟩
      case round =>
        obtain ⟨j, rfl, hj, hTC, hbs⟩ := hrel
        have HTC := Lib.hid hTC
        have HS := Lib.hid hbs
        clear hTC hbs
        by_cases hlj : j < x.cn
        · obtain ⟨b2, off2, i, hi, hca, x0, x1, x2⟩ := (HC.out.next HS.out).at j (by rw [HCn.out]; exact hlj)
          have HI := Lib.hid hi
          have HNx := Lib.hid (show (hone : tok1 L i = true) → ∀ q (h : q < C.length), q < j + 1 → tok1 L C[q] = true from fun hone q h1 h2 => by
            by_cases hjk : q = j
            · subst hjk; rw [← HI.out]; exact hone
            · exact HTC.out q h1 (by omega))
          have HNo := Lib.hid (show (hone : tok1 L i = false) → r = false from fun hone => by
            rw [← HR.out]
            refine Bool.eq_false_iff.2 fun hall => ?_
            have h1 := List.all_eq_true.1 hall _ (List.getElem_mem (show k < A.length by rw [HA.out]; exact hlt))
            rw [← HY.out] at h1
            have h2 := List.all_eq_true.1 (show C.all (tok1 L) = true from h1) _ (List.getElem_mem (show j < C.length by rw [HCn.out]; exact hlj))
            rw [← HI.out, hone] at h2
            cases h2)
          have HS2 := Lib.hid (HS.out.alloc HS.out.size (.cells #[.int .i64 i.op, .int .i64 i.a, .int .i64 i.b] 82))
          have HTi := Lib.hid (HTj.out i (by rw [hi]; exact List.getElem_mem _))
          clear hi
          rw [hca] at *
          by_cases hop : i.op = 21
          · obtain ⟨h0, h1⟩ := HTi.out hop
            obtain ⟨q, hq⟩ : ∃ q : Nat, i.b = (q : Int) := ⟨i.b.toNat, by omega⟩
            have hqn : q < n := by omega
            obtain ⟨b3, off3, z, A', hz, _, hpa, hbz, y0, y1, y2, y3, y4, y5, y6, y7, y8, y9, y10⟩ := (HP.out.next (below_then' HW2.out HS2.out HW2.out.size)).at q (by rw [HN.out]; exact hqn)
            have HT1 := Lib.hid (show tok1 L i = (z.k == 2) by
              unfold tok1
              rw [hop, hq, Int.toNat_natCast, List.getElem?_eq_getElem (by rw [HN.out]; exact hqn), ← hz]
              rfl)
            rw [hop] at x0
            rw [hq] at x2
            have HOp := Lib.hid hop
            have HBq := Lib.hid hq
            rw [hop, hq] at y1 HS2
            rw [hpa] at *
            clear h0 h1 y0 y2 y3 y4 y5 y6 y7 y8 y9 y10 hz hop hq
            by_cases hk2 : z.k = 2
            · have HV := Lib.hid (HNx.out (by rw [HT1.out, hk2]; rfl))
              rw [hk2] at y1
              go_wp2_with fail
              go_roundw
              case rel => exact ⟨j + 1, by go_num, by omega, HV.out, HS2.out⟩
              case measure => simp [intOf]; omega
            · have HV := Lib.hid (HNo.out (by rw [HT1.out]; simpa using hk2))
              go_wp2_with fail
              go_ret
              exact ⟨bool_ret HV.out.symm, HB.out.trans ((below_then' HW2.out HS2.out HW2.out.size).mono HB.out.size)⟩
          · have HV := Lib.hid (HNx.out (by unfold tok1; simp [hop]))
            go_wp2_with fail
            go_roundw
            case rel => exact ⟨j + 1, by go_num, by omega, HV.out, HS2.out⟩
            case measure => simp [intOf]; omega
        · have HV := Lib.hid (show tokB L C = true by
            refine List.all_eq_true.2 fun y hy => ?_
            obtain ⟨q, hq, rfl⟩ := List.getElem_of_mem hy
            exact HTC.out q hq (by have := HCn.out; omega))
          go_wp2_with fail
          go_roundw
          case rel => exact ⟨k + 1, by go_num, by omega, fun j h1 h2 => by
            by_cases hjk : j = k
            · subst hjk; rw [← HY.out]; exact HV.out
            · exact HT.out j h1 (by omega), below_then' HW2.out HS.out HW2.out.size⟩
          case measure => simp [intOf]; omega
    · have HV := Lib.hid (show r = true by
        rw [← HR.out]
        refine List.all_eq_true.2 fun y hy => ?_
        obtain ⟨j, hj, rfl⟩ := List.getElem_of_mem hy
        exact HT.out j hj (by have := HA.out; omega))
      go_wp2_with fail
      go_ret
      exact ⟨bool_ret HV.out.symm, HB.out.trans (HW.out.mono HB.out.size)⟩
/-- Are the cards what the program's Check asks of memory? -/
def PCd (L : List CdT) : Prop := ∀ p ∈ L, CdOk p.1
set_option maxRecDepth 100000 in
set_option maxHeartbeats 4000000 in
theorem mayAll_any (a : Option Addr) (c : Nat) (L : List CdT) (n : Nat) (hn : L.length = n) (r : Bool) (hr : L.all (inB L) = r) (hok : PCd L) (w : World) (hp : IsP w a c L) (hT : Tabs w) :
    Calls Tryz.prog 20 #[.slice a n c] w fun e w' => e = .returned (.bool r) ∧ Below w.heap.size w w' := by
  have HR := Lib.hid hr
  have HP := Lib.hid hp
  have HO := Lib.hid hok
  have HTb := Lib.hid hT
  have hcp := hp.1
  have hcpm := hp.2.1
  rw [hn] at hcp
  have HN := Lib.hid hn
  clear hr hp hn hT hok
  go_enter Tryz.func20, Tryz.ntmps20
  go_wp2_with fail
  go_loopw [7] (fun q wr => ∃ k : Nat, q = .int .i64 (k : Int) ∧ k ≤ n ∧ (∀ j (hj : j < L.length), j < k → inB L L[j] = true) ∧ Below w.heap.size w wr) (fun q _ => n - (intOf q).toNat)
  case atStart => exact ⟨0, rfl, Nat.zero_le _, fun j _ hj => by omega, Below.refl _ _⟩
  case round =>
    obtain ⟨k, rfl, hk, hT, hb⟩ := hrel
    have HT := Lib.hid hT
    have HB := Lib.hid hb
    clear hT hb
    by_cases hlt : k < n
    · obtain ⟨b, off, y, A, hy, hcd, hpa, hbz, y0, y1, y2, y3, y4, y5, y6, y7, y8, y9, y10⟩ := (HP.out.next HB.out).at k (by rw [HN.out]; exact hlt)
      have HY := Lib.hid hy
      have hbx := below_alloc1 wr (.cells #[.string y.nm, .int .i64 y.k, .int .i64 y.c0, .int .i64 y.c1, .int .i64 y.c2, .int .i64 y.c3, .int .i64 y.col, .int .i64 y.pow, .int .i64 y.tou, .int .i64 y.keys, .slice y.aa y.an y.ac] 38)
      have HD := Lib.hid (hcd.next hbx)
      have HB2 := Lib.hid (HB.out.alloc HB.out.size (.cells #[.string y.nm, .int .i64 y.k, .int .i64 y.c0, .int .i64 y.c1, .int .i64 y.c2, .int .i64 y.c3, .int .i64 y.col, .int .i64 y.pow, .int .i64 y.tou, .int .i64 y.keys, .slice y.aa y.an y.ac] 38))
      have HX := Lib.hid (boxC_new wr y 38)
      have HYo := Lib.hid (show CdOk y from HO.out (y, A) (by rw [hy]; exact List.getElem_mem _))
      have HI := Lib.hid (show inB L (y, A) = ((chkC y A n == 0) && A.all fun t => tokB L t.2.2) by rw [inB, HN.out])
      have HBad := Lib.hid (show inB L (y, A) = false → r = false from fun hf => by
        rw [← HR.out]
        refine Bool.eq_false_iff.2 fun hall => ?_
        have := List.all_eq_true.1 hall _ (List.getElem_mem (show k < L.length by rw [HN.out]; exact hlt))
        rw [← HY.out, hf] at this
        cases this)
      clear hy hcd hbx
      subst hpa
      obtain ⟨rc, hrc⟩ : ∃ rc, chkC y A n = rc := ⟨_, rfl⟩
      have HRc := Lib.hid hrc
      clear hrc
      go_wp2_with fail
      generalize wr.alloc (.cells #[.string y.nm, .int .i64 y.k, .int .i64 y.c0, .int .i64 y.c1, .int .i64 y.c2, .int .i64 y.c3, .int .i64 y.col, .int .i64 y.pow, .int .i64 y.tou, .int .i64 y.keys, .slice y.aa y.an y.ac] 38) = wA at *
      refine (cardCheck_any y A n rc HRc.out _ HD.out HYo.out (HTb.out.next HB2.out)).mono ?_
      rintro e w1 ⟨rfl, hb⟩
      have HB3 := Lib.hid (below_then' HB2.out hb HB2.out.size)
      have HD3 := Lib.hid (HD.out.next hb)
      obtain ⟨q0, q1, q2, q3, q4, q5, q6, q7, q8, q9, q10⟩ := (HX.out.next hb).cells
      clear hb y0 y1 y2 y3 y4 y5 y6 y7 y8 y9 y10
      by_cases h0c : rc = 0
      · subst h0c
        have HTk := Lib.hid (tok_in y A n HRc.out (fun t m => (HD.out.2.2.2.1 t m).2.1))
        obtain ⟨rt, hrt⟩ : ∃ rt, (A.all fun t => tokB L t.2.2) = rt := ⟨_, rfl⟩
        have HRt := Lib.hid hrt
        clear hrt
        have HP3 := Lib.hid (HP.out.next HB3.out)
        go_wp2_with fail
        refine (makes_any y A _ c L n HN.out HTk.out rt HRt.out _ HD3.out HP3.out).mono ?_
        rintro e w2 ⟨rfl, hb⟩
        have HB4 := Lib.hid (below_then' HB3.out hb HB3.out.size)
        clear hb
        cases rt
        · have HV := Lib.hid (HBad.out (by rw [HI.out, HRt.out, Bool.and_false]))
          go_wp2_with fail
          go_ret
          exact ⟨bool_ret HV.out.symm, HB4.out⟩
        · have HGo := Lib.hid (show inB L (y, A) = true by rw [HI.out, HRt.out, HRc.out]; rfl)
          go_wp2_with fail
          go_roundw
          case rel => exact ⟨k + 1, by go_num, by omega, fun j h1 h2 => by
            by_cases hjk : j = k
            · subst hjk; rw [← HY.out]; exact HGo.out
            · exact HT.out j h1 (by omega), HB4.out⟩
          case measure => simp [intOf]; omega
      · have HV := Lib.hid (HBad.out (by rw [HI.out, HRc.out]; simp [h0c]))
        go_wp2_with fail
        go_ret
        exact ⟨bool_ret HV.out.symm, HB3.out⟩
    · have HV := Lib.hid (show r = true by
        rw [← HR.out]
        refine List.all_eq_true.2 fun y hy => ?_
        obtain ⟨j, hj, rfl⟩ := List.getElem_of_mem hy
        exact HT.out j hj (by have := HN.out; omega))
      go_wp2_with fail
      go_ret
      exact ⟨bool_ret HV.out.symm, HB.out⟩
end Go.Proofs.YtbeaaieaffdgeaaGreatDoor
end
/- The program's Check of a pool: names; whole. -/
section
namespace Go.Proofs.YtbeaaieaffdgeaaGreatDoor
open Go.RowKit Go.Maps
set_option linter.unusedVariables false
set_option linter.unusedSimpArgs false

theorem lawStr : Keyed Tryz.prog 9 := string_keyed Tryz.underlying9
theorem zeroInt (w : World) : (zeroValue 3).run Tryz.prog w = .ok (.int .i64 0) w := by kernel_rfl
/-- The map's keys are these cards' names. -/
def NmD (D : DataW Unit) (M : List CdT) : Prop := IsMap D ∧ ∀ s : ByteArray, Maps.has D (.string s.data.toList) = M.any fun c => decide (c.1.nm = s)
theorem NmD.start : NmD (.map []) [] := ⟨isMap_empty, fun s => rfl⟩
theorem nm_inj {s t : ByteArray} (h : s ≠ t) : (Lit.string s.data.toList) ≠ Lit.string t.data.toList := by
  intro e
  injection e with e
  exact h (ByteArray.ext (Array.toList_inj.1 e))
theorem NmD.put {D : DataW Unit} {M : List CdT} (h : NmD D M) (c : CdT) (d : DataW Unit) : NmD (D.put (.string c.1.nm.data.toList) d) (M ++ [c]) := by
  refine ⟨h.1.put _ _, fun s => ?_⟩
  rw [List.any_append, List.any_cons, List.any_nil, Bool.or_false]
  by_cases hs : c.1.nm = s
  · subst hs
    rw [has_put_same h.1 (by show True; trivial)]
    simp
  · rw [has_put_other (nm_inj (fun e => hs e.symm)), h.2 s]
    simp [hs]
set_option maxRecDepth 100000 in
set_option maxHeartbeats 4000000 in
theorem hasTwice_any (a : Option Addr) (c : Nat) (L : List CdT) (n : Nat) (hn : L.length = n) (r : Bool) (hr : twiceB L = r) (hok : PCd L) (w : World) (hp : IsP w a c L) :
    Calls Tryz.prog 21 #[.slice a n c] w fun e w' => e = .returned (.bool r) ∧ Below w.heap.size w w' := by
  have HR := Lib.hid hr
  have HP := Lib.hid hp
  have HO := Lib.hid hok
  have hcp := hp.1
  have hcpm := hp.2.1
  rw [hn] at hcp
  have HN := Lib.hid hn
  have HMB := Lib.hid (below_alloc1 w (.map #[] 0))
  clear hr hp hn hok
  have hmm := @run_makeMap Tryz.prog
  go_enter Tryz.func21, Tryz.ntmps21
  go_wp2_with fail
  go_loopw [11] (fun q wr => ∃ (k : Nat) (D : DataW Unit), q = .int .i64 (k : Int) ∧ k ≤ n ∧ (∀ i (hi : i < L.length), i < k → ∀ j (hj : j < i), L[i].1.nm ≠ L[j].1.nm) ∧ NmD D (L.take k) ∧ wr.ownsMap Tryz.prog 9 (plainElem Tryz.prog 3) w.heap.size k D ∧ Below w.heap.size w wr) (fun q _ => n - (intOf q).toNat)
  case atStart => exact ⟨0, _, rfl, Nat.zero_le _, fun i _ hi => by omega, NmD.start, World.ownsMap_made _ _ _ _, HMB.out⟩
  case round =>
    obtain ⟨k, D, rfl, hk, hT, hD, hown, hb⟩ := hrel
    have HT := Lib.hid hT
    have HD := Lib.hid hD
    have HB := Lib.hid hb
    have HOw := Lib.hid hown
    clear hT hb hD hown
    by_cases hlt : k < n
    · obtain ⟨b, off, y, A, hy, hcd, hpa, hbz, y0, y1, y2, y3, y4, y5, y6, y7, y8, y9, y10⟩ := (HP.out.next HB.out).at k (by rw [HN.out]; exact hlt)
      have HY := Lib.hid hy
      have HB2 := Lib.hid (HB.out.alloc HB.out.size (.cells #[.string y.nm, .int .i64 y.k, .int .i64 y.c0, .int .i64 y.c1, .int .i64 y.c2, .int .i64 y.c3, .int .i64 y.col, .int .i64 y.pow, .int .i64 y.tou, .int .i64 y.keys, .slice y.aa y.an y.ac] 38))
      have hkey : keyOf Tryz.prog 9 (.string y.nm) = some (.string y.nm.data.toList) := Go.WideMaps.keyOf_string_mk Tryz.underlying9 (HO.out (y, A) (by rw [hy]; exact List.getElem_mem _)).1
      obtain ⟨hs, hhs⟩ : ∃ hs, Maps.has D (.string y.nm.data.toList) = hs := ⟨_, rfl⟩
      have HHs := Lib.hid hhs
      have HOw2 := Lib.hid (HOw.out.alloc (.cells #[.string y.nm, .int .i64 y.k, .int .i64 y.c0, .int .i64 y.c1, .int .i64 y.c2, .int .i64 y.c3, .int .i64 y.col, .int .i64 y.pow, .int .i64 y.tou, .int .i64 y.keys, .slice y.aa y.an y.ac] 38))
      have HNw := Lib.hid (show hs = false → ∀ i (hi : i < L.length), i < k + 1 → ∀ j (hj : j < i), L[i].1.nm ≠ L[j].1.nm from fun h0 i h1 h2 j hj => by
        by_cases hik : i = k
        · subst hik
          intro e
          have h3 := (HD.out.2 y.nm).symm.trans hhs
          rw [h0] at h3
          rw [List.any_eq_false] at h3
          refine h3 L[j] (List.mem_iff_getElem.2 ⟨j, by rw [List.length_take]; omega, by rw [List.getElem_take]⟩) ?_
          rw [decide_eq_true_eq, ← e, ← HY.out]
        · exact HT.out i h1 (by omega) j hj)
      have HTw := Lib.hid (show hs = true → r = true from fun h0 => by
        rw [← HR.out, twice_iff]
        have h3 := (HD.out.2 y.nm).symm.trans hhs
        rw [h0, List.any_eq_true] at h3
        obtain ⟨d, hd, he⟩ := h3
        obtain ⟨j, hj, rfl⟩ := List.getElem_of_mem hd
        rw [List.length_take] at hj
        rw [decide_eq_true_eq, List.getElem_take] at he
        exact ⟨j, k, by rw [HN.out]; exact hlt, by omega, by rw [← HY.out]; exact he.symm⟩)
      have HDn := Lib.hid (show ∀ d, NmD (D.put (.string y.nm.data.toList) d) (L.take (k + 1)) from fun d => by
        rw [List.take_succ_eq_append_getElem (show k < L.length by rw [HN.out]; exact hlt), ← HY.out]
        exact HD.out.put (y, A) d)
      clear hy hcd hhs
      subst hpa
      cases hs
      · go_wp2_with (first
          | (at_lookup; refine wpList_lookup_own_ok_int _ rfl _ _ 85 rfl 9 3 .i64 lawStr Tryz.underlying85 Tryz.underlying3 (zeroInt _) w.heap.size k D rfl HOw2.out _ _ rfl hkey ?_; rw [HHs.out]; intro c0 hat0 hwc0; clear hat0 hwc0)
          | (at_mapUpdate; refine wpList_mapUpdate_own _ rfl _ _ _ 85 rfl 9 3 lawStr Tryz.underlying85 (plainElem Tryz.prog 3) w.heap.size k D rfl HOw2.out (by unfold maxLen; omega) _ _ _ rfl rfl hkey _ [] (plainElem_int Tryz.underlying3 (WalkArith.wf_i64 (by omega))) ?_; intro w1 hown1 hgrow1))
        have HOn := Lib.hid hown1
        have HBn := Lib.hid (HB2.out.grown hgrow1 HB2.out.size (fun j hj => by cases hj; exact Nat.le_refl _))
        have HNn := Lib.hid (HNw.out rfl)
        clear hown1 hgrow1 y0 y1 y2 y3 y4 y5 y6 y7 y8 y9 y10
        go_wp2_with fail
        go_roundw
        case rel => exact ⟨k + 1, _, by go_num, by omega, HNn.out, HDn.out _, HOn.out, HBn.out⟩
        case measure => simp [intOf]; omega
      · have HV := Lib.hid (HTw.out rfl)
        go_wp2_with (at_lookup; refine wpList_lookup_own_ok_int _ rfl _ _ 85 rfl 9 3 .i64 lawStr Tryz.underlying85 Tryz.underlying3 (zeroInt _) w.heap.size k D rfl HOw2.out _ _ rfl hkey ?_; rw [HHs.out]; intro c0 hat0 hwc0; clear hat0 hwc0)
        go_ret
        exact ⟨bool_ret HV.out.symm, HB2.out⟩
    · have HV := Lib.hid (show r = false by
        rw [← HR.out]
        refine Bool.eq_false_iff.2 fun h => ?_
        obtain ⟨j, i, hi, hj, he⟩ := (twice_iff L).1 h
        exact HT.out i hi (by have := HN.out; omega) j hj he)
      go_wp2_with fail
      go_ret
      exact ⟨bool_ret HV.out.symm, HB.out⟩
set_option maxHeartbeats 2000000 in
/-- CHECK, of any list of cards. -/
theorem pCheck_any (a : Option Addr) (c : Nat) (L : List CdT) (n : Nat) (hn : L.length = n) (r : Int) (hr : chkP L = r) (hok : PCd L) (w : World) (hp : IsP w a c L) (hT : Tabs w) :
    Calls Tryz.prog 8 #[.slice a n c] w fun e w' => e = .returned (.int .i64 r) ∧ Below w.heap.size w w' := by
  have hcp := hp.1
  have hcpm := hp.2.1
  rw [hn] at hcp
  have HP := Lib.hid hp
  have HO := Lib.hid hok
  have HTb := Lib.hid hT
  have HN := Lib.hid hn
  have HR := Lib.hid hr
  clear hp hok hT hn hr
  by_cases h0 : n = 0
  · have HV := Lib.hid (show r = 2 by rw [← HR.out, chkP, if_pos (by rw [HN.out]; exact h0)])
    subst h0
    go_enter Tryz.func8, Tryz.ntmps8
    go_wp2_with fail
    go_ret
    exact ⟨int_ret HV.out.symm, Below.refl _ _⟩
  have hb0 : ((n : Int) == 0) = false := by simp; omega
  by_cases h40 : 40 < n
  · have HV := Lib.hid (show r = 3 by rw [← HR.out, chkP, if_neg (by rw [HN.out]; exact h0), if_pos (by rw [HN.out]; exact h40)])
    go_enter Tryz.func8, Tryz.ntmps8
    go_wp2_with fail
    go_ret
    exact ⟨int_ret HV.out.symm, Below.refl _ _⟩
  have HC := Lib.hid (show r = if L.all (inB L) then (if twiceB L then 11 else 0) else 10 by rw [← HR.out, chkP, if_neg (by rw [HN.out]; exact h0), if_neg (by rw [HN.out]; exact h40)])
  obtain ⟨r1, h1⟩ : ∃ r1, L.all (inB L) = r1 := ⟨_, rfl⟩
  obtain ⟨r2, h2⟩ : ∃ r2, twiceB L = r2 := ⟨_, rfl⟩
  have H1 := Lib.hid h1
  have H2 := Lib.hid h2
  rw [h1, h2] at HC
  clear h1 h2
  go_enter Tryz.func8, Tryz.ntmps8
  go_wp2_with fail
  refine (mayAll_any a c L n HN.out r1 H1.out HO.out _ HP.out HTb.out).mono ?_
  rintro e w1 ⟨rfl, hb⟩
  have HB1 := Lib.hid hb
  have HP1 := Lib.hid (HP.out.next hb)
  clear hb
  cases r1
  · have HV := Lib.hid (show r = 10 by rw [HC.out]; rfl)
    go_wp2_with fail
    go_ret
    exact ⟨int_ret HV.out.symm, HB1.out⟩
  · go_wp2_with fail
    refine (hasTwice_any a c L n HN.out r2 H2.out HO.out _ HP1.out).mono ?_
    rintro e w2 ⟨rfl, hb⟩
    have HB2 := Lib.hid (below_then' HB1.out hb HB1.out.size)
    clear hb
    cases r2
    · have HV := Lib.hid (show r = 0 by rw [HC.out]; rfl)
      go_wp2_with fail
      go_ret
      exact ⟨int_ret HV.out.symm, HB2.out⟩
    · have HV := Lib.hid (show r = 11 by rw [HC.out]; rfl)
      go_wp2_with fail
      go_ret
      exact ⟨int_ret HV.out.symm, HB2.out⟩
end Go.Proofs.YtbeaaieaffdgeaaGreatDoor
end
/- The program's writer: a card; the program's Encode. -/
section
namespace Go.Proofs.YtbeaaieaffdgeaaGreatDoor
open Go.RowKit
set_option linter.unusedVariables false
set_option linter.unusedSimpArgs false

/-- Where the writer of a card stands. -/
def CS (B b bx : Nat) (y : Cd) (A : List AbT) (w0 : World) (u : ByteArray) (W : World) : Prop :=
  WS B b u w0 W ∧ Kq B b (fun W => CdR W y A) W ∧ Kq B b (fun W => Bk W bx #[.string y.nm, .int .i64 y.k, .int .i64 y.c0, .int .i64 y.c1, .int .i64 y.c2, .int .i64 y.c3, .int .i64 y.col, .int .i64 y.pow, .int .i64 y.tou, .int .i64 y.keys, .slice y.aa y.an y.ac] 38) W ∧ B ≤ W.heap.size
theorem CS.go {B b bx : Nat} {y : Cd} {A : List AbT} {w0 : World} {u u' : ByteArray} {W W' : World} (h : CS B b bx y A w0 u W) (k : WS B b u' W W') : CS B b bx y A w0 u' W' :=
  ⟨h.1.then k, h.2.1.next k.2.1 k.2.2, h.2.2.1.next k.2.1 k.2.2, Nat.le_trans h.2.2.2 k.size⟩
theorem CS.new {B b bx : Nat} {y : Cd} {A : List AbT} {w0 : World} {u : ByteArray} {W W' : World} (h : CS B b bx y A w0 u W) (k : Below W.heap.size W W') : CS B b bx y A w0 u W' :=
  h.go ((WS.refl h.1.1).new h.2.2.2 k)
theorem ab_next (s : ByteArray) (A : List AbT) (k : Nat) (hk : k < A.length) (t : AbT) (ht : t = A[k]) : s ++ many abB (A.take k) ByteArray.empty ++ abB t ByteArray.empty = s ++ many abB (A.take (k + 1)) ByteArray.empty := by
  rw [List.take_succ_eq_append_getElem hk, many_snoc abB_fore, ← ht, ByteArray.append_assoc]
set_option maxRecDepth 100000 in
set_option maxHeartbeats 8000000 in
theorem wCd_any {B b : Nat} {u : ByteArray} (y : Cd) (A : List AbT) (hx : CdTOk (y, A)) {w : World} (h : Wr B b u w) (hB : B ≤ w.heap.size) (hcd : Kq B b (fun W => CdR W y A) w) (hz : u.size + 24000 ≤ 70368744177664) :
    Calls Tryz.prog 15 #[.pointer (some ⟨b, 0, none⟩), .agg #[.string y.nm, .int .i64 y.k, .int .i64 y.c0, .int .i64 y.c1, .int .i64 y.c2, .int .i64 y.c3, .int .i64 y.col, .int .i64 y.pow, .int .i64 y.tou, .int .i64 y.keys, .slice y.aa y.an y.ac]] w fun e w' => e = .returned (.tuple #[]) ∧ WS B b (u ++ cdB (y, A) ByteArray.empty) w w' := by
  obtain ⟨hnm, hh, h4, hAs⟩ := hx
  simp only [cdHead, List.forall_mem_cons] at hh
  obtain ⟨a1, a2, a3, a4, a5, a6, a7, a8, a9, a10, _⟩ := hh
  have han := hcd.now.1
  have hnm2 : y.nm.size ≤ 1000 := hnm
  have h42 : A.length ≤ 4 := h4
  obtain ⟨s1, hs1⟩ : ∃ s1, u ++ xB y.nm ByteArray.empty = s1 := ⟨_, rfl⟩
  obtain ⟨s2, hs2⟩ : ∃ s2, s1 ++ many nB [y.k] ByteArray.empty = s2 := ⟨_, rfl⟩
  obtain ⟨s3, hs3⟩ : ∃ s3, s2 ++ many nB [y.c0, y.c1, y.c2, y.c3] ByteArray.empty = s3 := ⟨_, rfl⟩
  obtain ⟨s4, hs4⟩ : ∃ s4, s3 ++ many nB [y.col, y.pow, y.tou, y.keys, (y.an : Int)] ByteArray.empty = s4 := ⟨_, rfl⟩
  have HE := Lib.hid (show s4 ++ many abB A ByteArray.empty = u ++ cdB (y, A) ByteArray.empty by
    rw [← hs4, ← hs3, ← hs2, ← hs1]
    simp only [ByteArray.append_assoc]
    congr 1
    rw [← many_fore nB_fore, ← many_fore nB_fore, ← many_fore nB_fore, ← xB_fore]
    simp only [cdB, cdHead, many_cons, many_nil, han])
  have z0 : ByteArray.empty.size = 0 := rfl
  have z1 : s1.size ≤ u.size + 1009 := by have := xB_size y.nm ByteArray.empty; rw [← hs1, ByteArray.size_append]; omega
  have z2 : s2.size ≤ s1.size + 9 := by have := many_size 9 [y.k] (fun i _ t => nB_size i t) ByteArray.empty; rw [← hs2, ByteArray.size_append]; simp at this ⊢; omega
  have z3 : s3.size ≤ s2.size + 36 := by have := many_size 9 [y.c0, y.c1, y.c2, y.c3] (fun i _ t => nB_size i t) ByteArray.empty; rw [← hs3, ByteArray.size_append]; simp at this ⊢; omega
  have z4 : s4.size ≤ s3.size + 45 := by have := many_size 9 [y.col, y.pow, y.tou, y.keys, (y.an : Int)] (fun i _ t => nB_size i t) ByteArray.empty; rw [← hs4, ByteArray.size_append]; simp at this ⊢; omega
  have HZ := Lib.hid (show s1.size + 10000 ≤ 70368744177664 ∧ s2.size + 10000 ≤ 70368744177664 ∧ s3.size + 10000 ≤ 70368744177664 ∧ ∀ k, (s4 ++ many abB (A.take k) ByteArray.empty).size + 4000 ≤ 70368744177664 by
    refine ⟨by omega, by omega, by omega, fun k => ?_⟩
    have h1 := many_size 2000 (A.take k) (fun t ht s => abB_size t (hAs t (List.mem_of_mem_take ht)) s) ByteArray.empty
    have h2 : (A.take k).length ≤ A.length := by rw [List.length_take]; omega
    rw [ByteArray.size_append]
    omega)
  have H1 := Lib.hid hs1
  have H2 := Lib.hid hs2
  have H3 := Lib.hid hs3
  have H4 := Lib.hid hs4
  have HAs := Lib.hid (show ∀ t ∈ A, AbOk t from hAs)
  have HA := Lib.hid (⟨a1, a2, a3, a4, a5, a6, a7, a8, a9⟩ : NmOk y.k ∧ NmOk y.c0 ∧ NmOk y.c1 ∧ NmOk y.c2 ∧ NmOk y.c3 ∧ NmOk y.col ∧ NmOk y.pow ∧ NmOk y.tou ∧ NmOk y.keys)
  have HAn := Lib.hid han
  have han2 : y.an ≤ 4 := by rw [← han]; exact h42
  have hcc := hcd.now.2.1
  have hccm := hcd.now.2.2.1
  rw [han] at hcc
  have HS0 := Lib.hid (show CS B b w.heap.size y A w u (w.alloc (.cells #[.string y.nm, .int .i64 y.k, .int .i64 y.c0, .int .i64 y.c1, .int .i64 y.c2, .int .i64 y.c3, .int .i64 y.col, .int .i64 y.pow, .int .i64 y.tou, .int .i64 y.keys, .slice y.aa y.an y.ac] 38)) from
    ⟨(WS.refl h).new hB (below_alloc1 w _), hcd.next ((below_alloc1 w _).mono hB) (oth_below (below_alloc1 w _)), kq_bk (Bk.new w #[.string y.nm, .int .i64 y.k, .int .i64 y.c0, .int .i64 y.c1, .int .i64 y.c2, .int .i64 y.c3, .int .i64 y.col, .int .i64 y.pow, .int .i64 y.tou, .int .i64 y.keys, .slice y.aa y.an y.ac] 38) (by have := h.lt; omega) (by decide), by simp; omega⟩)
  have hblt := h.lt
  have hzu : u.size + 24000 ≤ 70368744177664 := hz
  clear hs1 hs2 hs3 hs4 z0 z1 z2 z3 z4 a1 a2 a3 a4 a5 a6 a7 a8 a9 a10 hAs han h h4 hcd hz hnm
  go_enter Tryz.func15, Tryz.ntmps15
  go_wp2_with fail
  generalize w.alloc (.cells #[.string y.nm, .int .i64 y.k, .int .i64 y.c0, .int .i64 y.c1, .int .i64 y.c2, .int .i64 y.c3, .int .i64 y.col, .int .i64 y.pow, .int .i64 y.tou, .int .i64 y.keys, .slice y.aa y.an y.ac] 38) = w1 at *
  rename_i KK hKK
  refine wp_slotsC 47 rfl ?_
  intro t ht
  have e0 : t 0 = .pointer (some ⟨b, 0, none⟩) := by rw [ht]; rfl
  have e3 : t 3 = .pointer (some ⟨w.heap.size, 0, none⟩) := by rw [ht]; rfl
  have HRo := Lib.hid (show wcRows B b u w.heap.size y w1 t from ⟨e0, e3, hnm2, by omega, HS0.out.2.2.2⟩)
  clear ht
  refine wcReg HRo.out HS0.out.1.1 HS0.out.2.2.1 ?_
  intro v2 w2 h1 _
  have HS1 := Lib.hid (HS0.out.go h1)
  rw [H1.out] at HS1
  clear h1 HS0 HRo
  refine hKK _ _ ?_
  rw [e0, e3]
  clear e0 e3 hKK
  have c1 := HS1.out.2.2.1.now.cell 1
  simp at c1
  go_wp2_with fail
  have HL1 := Lib.hid (lit_kq (B := B) (b := b) w2 [y.k] 1 rfl (by omega) HS1.out.1.1.lt)
  have HS2 := Lib.hid (HS1.out.new (below_alloc1 w2 (.cells #[.int .i64 y.k] 3)))
  clear HS1 c1
  refine (nums_any (T := [y.k]) (fun i hi => by rw [List.mem_singleton.1 hi]; exact nn_of HA.out.1) HS2.out.1.1 HL1.out HS2.out.2.2.2 (by have := HZ.out.1; simp; omega)).mono ?_
  rintro e w3 ⟨rfl, h1⟩
  have HS3 := Lib.hid (HS2.out.go h1)
  rw [H2.out] at HS3
  clear h1 HS2 HL1
  go_wp2_with fail
  refine (nums_any (T := [y.c0, y.c1, y.c2, y.c3]) (fun i hi => by have := HA.out; simp at hi; rcases hi with rfl | rfl | rfl | rfl <;> (apply nn_of; simp [*])) HS3.out.1.1 (kq_cost (o := 2) HS3.out.2.2.1 rfl rfl rfl rfl) HS3.out.2.2.2 (by have := HZ.out.2.1; simp; omega)).mono ?_
  rintro e w4 ⟨rfl, h1⟩
  have HS4 := Lib.hid (HS3.out.go h1)
  rw [H3.out] at HS4
  clear h1 HS3
  have c6 := HS4.out.2.2.1.now.cell 6
  have c7 := HS4.out.2.2.1.now.cell 7
  have c8 := HS4.out.2.2.1.now.cell 8
  have c9 := HS4.out.2.2.1.now.cell 9
  have c10 := HS4.out.2.2.1.now.cell 10
  simp at c6 c7 c8 c9 c10
  go_wp2_with fail
  have HL4 := Lib.hid (lit_kq (B := B) (b := b) w4 [y.col, y.pow, y.tou, y.keys, (y.an : Int)] 5 rfl (by omega) HS4.out.1.1.lt)
  have HS5 := Lib.hid (HS4.out.new (below_alloc1 w4 (.cells #[.int .i64 y.col, .int .i64 y.pow, .int .i64 y.tou, .int .i64 y.keys, .int .i64 (y.an : Int)] 3)))
  clear HS4 c6 c7 c8 c9 c10
  refine (nums_any (T := [y.col, y.pow, y.tou, y.keys, (y.an : Int)]) (fun i hi => by have := HA.out; have hq : NmOk (y.an : Int) := ⟨by omega, by omega⟩; simp at hi; rcases hi with rfl | rfl | rfl | rfl | rfl <;> (apply nn_of; simp [*])) HS5.out.1.1 HL4.out HS5.out.2.2.2 (by have := HZ.out.2.2.1; simp; omega)).mono ?_
  rintro e w5 ⟨rfl, h1⟩
  have HS6 := Lib.hid (HS5.out.go h1)
  rw [H4.out] at HS6
  clear h1 HS5 HL4
  have c10 := HS6.out.2.2.1.now.cell 10
  simp at c10
  go_wp2_with fail
  clear c10
  go_loopw [39] (fun q wr => ∃ k : Nat, q = .int .i64 (k : Int) ∧ k ≤ y.an ∧ CS B b w.heap.size y A w (s4 ++ many abB (A.take k) ByteArray.empty) wr) (fun q _ => y.an - (intOf q).toNat)
  case atStart => exact ⟨0, rfl, Nat.zero_le _, (show s4 ++ many abB (A.take 0) ByteArray.empty = s4 by simp [many]).symm ▸ HS6.out⟩
  case round =>
    obtain ⟨k, rfl, hk, has⟩ := hrel
    have HSr := Lib.hid has
    clear has HS6
    by_cases hlt : k < y.an
    · obtain ⟨bb, off, x, T, C, hxe, _, hxa, hbz, m0, m1, m2, m3, m4, m5, m6, m7, m8, m9, m10, m11, m12⟩ := HSr.out.2.1.now.2.at k (by rw [HAn.out]; exact hlt)
      have hmem : (x, T, C) ∈ A := by rw [hxe]; exact List.getElem_mem _
      have HAo := Lib.hid (HAs.out (x, T, C) hmem)
      have HNx := Lib.hid (ab_next s4 A k (by rw [HAn.out]; exact hlt) (x, T, C) hxe)
      have HZk := Lib.hid (HZ.out.2.2.2 k)
      have HKa := Lib.hid (show Kq B b (fun W => AbR W x T C) wr from fun W k o => (HSr.out.2.1 W k o).2.2.2.1 (x, T, C) hmem)
      have HSb := Lib.hid (HSr.out.new (below_alloc1 wr (.cells #[.int .i64 x.k, .int .i64 x.ev, .int .i64 x.wh, .int .i64 x.c0, .int .i64 x.c1, .int .i64 x.c2, .int .i64 x.c3, .bool x.tap, .slice x.ta x.tn x.tc, .slice x.ca x.cn x.cc, .int .i64 x.op, .int .i64 x.a, .int .i64 x.b] 42)))
      have HKb := Lib.hid (HKa.out.next ((below_alloc1 wr (.cells #[.int .i64 x.k, .int .i64 x.ev, .int .i64 x.wh, .int .i64 x.c0, .int .i64 x.c1, .int .i64 x.c2, .int .i64 x.c3, .bool x.tap, .slice x.ta x.tn x.tc, .slice x.ca x.cn x.cc, .int .i64 x.op, .int .i64 x.a, .int .i64 x.b] 42)).mono HSr.out.2.2.2) (oth_below (below_alloc1 wr (.cells #[.int .i64 x.k, .int .i64 x.ev, .int .i64 x.wh, .int .i64 x.c0, .int .i64 x.c1, .int .i64 x.c2, .int .i64 x.c3, .bool x.tap, .slice x.ta x.tn x.tc, .slice x.ca x.cn x.cc, .int .i64 x.op, .int .i64 x.a, .int .i64 x.b] 42))))
      clear hxe hmem
      rw [hxa] at *
      go_wp2_with fail
      refine (wAb_any x T C HAo.out HSb.out.1.1 HSb.out.2.2.2 HKb.out HZk.out).mono ?_
      rintro e w6 ⟨rfl, h1⟩
      have HSn := Lib.hid (HSb.out.go h1)
      rw [HNx.out] at HSn
      clear h1 HSb m0 m1 m2 m3 m4 m5 m6 m7 m8 m9 m10 m11 m12
      go_wp2_with fail
      go_roundw
      case rel => exact ⟨k + 1, by go_num, by omega, HSn.out⟩
      case measure => simp [intOf]; omega
    · have HSe := Lib.hid (show CS B b w.heap.size y A w (u ++ cdB (y, A) ByteArray.empty) wr by
        have h1 := HSr.out
        rw [List.take_of_length_le (by rw [HAn.out]; omega), HE.out] at h1
        exact h1)
      clear HSr
      go_wp2_with fail
      go_end0
      exact ⟨rfl, HSe.out.1⟩
end Go.Proofs.YtbeaaieaffdgeaaGreatDoor
end
/- The program's Encode. -/
section
namespace Go.Proofs.YtbeaaieaffdgeaaGreatDoor
open Go.RowKit
set_option linter.unusedVariables false
set_option linter.unusedSimpArgs false

theorem cd_next (s : ByteArray) (L : List CdT) (k : Nat) (hk : k < L.length) (c : CdT) (hc : c = L[k]) : s ++ many cdB (L.take k) ByteArray.empty ++ cdB c ByteArray.empty = s ++ many cdB (L.take (k + 1)) ByteArray.empty := by
  rw [List.take_succ_eq_append_getElem hk, many_snoc cdB_fore, ← hc, ByteArray.append_assoc]
theorem poolB_some (L : List CdT) : (poolB L ByteArray.empty).size ≠ 0 := by
  have := numS_size' (L.length : Int).toNat
  simp only [poolB, nB, ByteArray.size_append]
  omega
/-- What Encode tells. -/
def encS (L : List CdT) : ByteArray := if chkP L = 0 then poolB L ByteArray.empty else ⟨#[]⟩
set_option maxRecDepth 100000 in
set_option maxHeartbeats 4000000 in
theorem encode_any (a : Option Addr) (c : Nat) (L : List CdT) (n : Nat) (hn : L.length = n) (r : Int) (hr : chkP L = r) (s : ByteArray) (hs : encS L = s) (hok : PCd L) (h64 : ∀ c ∈ L, CdT64 c) (w : World) (hp : IsP w a c L) (hT : Tabs w) :
    Calls Tryz.prog 6 #[.slice a n c] w fun e w' => e = .returned (.tuple #[.string s, .int .i64 r]) ∧ Below w.heap.size w w' := by
  have hcp := hp.1
  have hcpm := hp.2.1
  rw [hn] at hcp
  have HP := Lib.hid hp
  have HO := Lib.hid hok
  have HTb := Lib.hid hT
  have HN := Lib.hid hn
  have HR := Lib.hid hr
  have HS := Lib.hid hs
  have H64 := Lib.hid h64
  clear hp hok hT hn hr hs h64
  go_enter Tryz.func6, Tryz.ntmps6
  go_wp2_with fail
  refine (pCheck_any a c L n HN.out r HR.out HO.out _ HP.out HTb.out).mono ?_
  rintro e w1 ⟨rfl, hb⟩
  have HB1 := Lib.hid hb
  have HP1 := Lib.hid (HP.out.next hb)
  clear hb
  by_cases h0 : r = 0
  · subst h0
    obtain ⟨p1, p40, hpl⟩ := pool_ok L HR.out H64.out
    have HPl := Lib.hid hpl
    have HE := Lib.hid (show poolB L ByteArray.empty = s by rw [← HS.out, encS, if_pos HR.out])
    obtain ⟨u1, hu1⟩ : ∃ u1, ByteArray.empty ++ many nB [(n : Int)] ByteArray.empty = u1 := ⟨_, rfl⟩
    have HU1 := Lib.hid hu1
    have HEn := Lib.hid (show u1 ++ many cdB L ByteArray.empty = s by
      rw [← HE.out, ← hu1]
      simp only [poolB, HN.out]
      rw [ByteArray.empty_append, ← many_fore nB_fore, many_one])
    have hzu : ∀ k, (u1 ++ many cdB (L.take k) ByteArray.empty).size + 24000 ≤ 70368744177664 := fun k => by
      have h1 := many_size 22000 (L.take k) (fun c hc s => cdB_size c (hpl.2 c (List.mem_of_mem_take hc)) s) ByteArray.empty
      have h2 : (L.take k).length ≤ L.length := by rw [List.length_take]; omega
      have h3 := many_size 9 [(n : Int)] (fun i _ t => nB_size i t) ByteArray.empty
      have z0 : ByteArray.empty.size = 0 := rfl
      rw [ByteArray.size_append, ← hu1, ByteArray.size_append]
      simp at h3
      omega
    have HZ := Lib.hid hzu
    have hn40 : n ≤ 40 := by rw [← HN.out]; exact p40
    clear hpl hu1 hzu p1 p40
    have HW0 := Lib.hid (show Wr w1.heap.size w1.heap.size ByteArray.empty (w1.alloc (.cells #[.pointer none, .slice none 0 0] 48)) from Lib.IsBuilderF.of (Lib.fresh_isBuilder 48 5 w1))
    go_wp2_with fail
    have hbW := below_alloc1 w1 (.cells #[.pointer none, .slice none 0 0] 48)
    have HBW := Lib.hid hbW
    clear hbW
    have HL2 := Lib.hid (lit_kq (B := w1.heap.size) (b := w1.heap.size) (w1.alloc (.cells #[.pointer none, .slice none 0 0] 48)) [(n : Int)] 1 rfl (by omega) (by simp))
    have HS2 := Lib.hid ((WS.refl HW0.out).new (by simp) (below_alloc1 (w1.alloc (.cells #[.pointer none, .slice none 0 0] 48)) (.cells #[.int .i64 (n : Int)] 3)))
    have HB2 := Lib.hid (show Below w1.heap.size w1 ((w1.alloc (.cells #[.pointer none, .slice none 0 0] 48)).alloc (.cells #[.int .i64 (n : Int)] 3)) from HBW.out.alloc (by simp) _)
    clear HW0 HBW
    refine (nums_any (T := [(n : Int)]) (fun i hi => by rw [List.mem_singleton.1 hi]; unfold Nn; omega) HS2.out.1 (by simpa using HL2.out) (by simp; omega) (by show 0 + 9 * 1 ≤ _; omega)).mono ?_
    rintro e w3 ⟨rfl, h3⟩
    have HS3 := Lib.hid h3
    rw [HU1.out] at HS3
    have HB3 := Lib.hid (HB2.out.trans h3.2.1)
    clear h3 HS2 HL2 HB2
    go_wp2_with fail
    go_loopw [19] (fun q wr => ∃ k : Nat, q = .int .i64 (k : Int) ∧ k ≤ n ∧ Wr w1.heap.size w1.heap.size (u1 ++ many cdB (L.take k) ByteArray.empty) wr ∧ Below w1.heap.size w1 wr) (fun q _ => n - (intOf q).toNat)
    case atStart => exact ⟨0, rfl, Nat.zero_le _, (show u1 ++ many cdB (L.take 0) ByteArray.empty = u1 by simp [many]).symm ▸ HS3.out.1, HB3.out⟩
    case round =>
      obtain ⟨k, rfl, hk, hwr, hbr⟩ := hrel
      have HWr := Lib.hid hwr
      have HBr := Lib.hid hbr
      clear hwr hbr HS3 HB3
      by_cases hlt : k < n
      · obtain ⟨bb, off, y, A, hy, hcd, hpa, hbz, y0, y1, y2, y3, y4, y5, y6, y7, y8, y9, y10⟩ := (HP1.out.next HBr.out).at k (by rw [HN.out]; exact hlt)
        have hmem : (y, A) ∈ L := by rw [hy]; exact List.getElem_mem _
        have HCo := Lib.hid (HPl.out.2 (y, A) hmem)
        have HNx := Lib.hid (cd_next u1 L k (by rw [HN.out]; exact hlt) (y, A) hy)
        have HZk := Lib.hid (HZ.out k)
        have HBb := Lib.hid (HBr.out.alloc HBr.out.size (.cells #[.string y.nm, .int .i64 y.k, .int .i64 y.c0, .int .i64 y.c1, .int .i64 y.c2, .int .i64 y.c3, .int .i64 y.col, .int .i64 y.pow, .int .i64 y.tou, .int .i64 y.keys, .slice y.aa y.an y.ac] 38))
        have HKc := Lib.hid (show Kq w1.heap.size w1.heap.size (fun W => CdR W y A) (wr.alloc (.cells #[.string y.nm, .int .i64 y.k, .int .i64 y.c0, .int .i64 y.c1, .int .i64 y.c2, .int .i64 y.c3, .int .i64 y.col, .int .i64 y.pow, .int .i64 y.tou, .int .i64 y.keys, .slice y.aa y.an y.ac] 38)) from Kq.old HBb.out (fun W k => (HP1.out.2.2.1 (y, A) hmem).next k))
        have HWb := Lib.hid (HWr.out.below (below_alloc1 wr (.cells #[.string y.nm, .int .i64 y.k, .int .i64 y.c0, .int .i64 y.c1, .int .i64 y.c2, .int .i64 y.c3, .int .i64 y.col, .int .i64 y.pow, .int .i64 y.tou, .int .i64 y.keys, .slice y.aa y.an y.ac] 38)))
        clear hy hmem hcd
        rw [hpa] at *
        go_wp2_with fail
        refine (wCd_any y A HCo.out HWb.out HBb.out.size HKc.out HZk.out).mono ?_
        rintro e w6 ⟨rfl, h1⟩
        have HWn := Lib.hid h1.1
        rw [HNx.out] at HWn
        have HBn := Lib.hid (HBb.out.trans h1.2.1)
        clear h1 HWb HBb y0 y1 y2 y3 y4 y5 y6 y7 y8 y9 y10
        go_wp2_with fail
        go_roundw
        case rel => exact ⟨k + 1, by go_num, by omega, HWn.out, HBn.out⟩
        case measure => simp [intOf]; omega
      · have HWe := Lib.hid (show Wr w1.heap.size w1.heap.size s wr by
          have h1 := HWr.out
          rw [List.take_of_length_le (by rw [HN.out]; omega), HEn.out] at h1
          exact h1)
        have HSz := Lib.hid (show s.size ≠ 0 by rw [← HE.out]; exact poolB_some L)
        clear HWr
        go_wp2_with fail
        refine (string_any _ _ s _ HWe.out HSz.out).mono ?_
        rintro e w7 ⟨rfl, h1⟩
        have HBf := Lib.hid (show Below w.heap.size w w7 from HB1.out.trans ((HBr.out.trans h1).mono HB1.out.size))
        clear h1
        go_wp2_with fail
        go_ret2
        exact ⟨rfl, HBf.out⟩
  · have HV := Lib.hid (show (⟨#[]⟩ : ByteArray) = s by rw [← HS.out, encS, if_neg (by rw [HR.out]; exact h0)])
    have hb0 : (r != 0) = true := by simpa using h0
    clear h0
    go_wp2_with fail
    go_ret2
    exact ⟨by rw [← HV.out]; rfl, HB1.out⟩
end Go.Proofs.YtbeaaieaffdgeaaGreatDoor
end
/- The program's list[card]. (Written by gen6l.py.) -/
section
namespace Go.Proofs.YtbeaaieaffdgeaaGreatDoor
open Go.RowKit
set_option linter.unusedVariables false
set_option linter.unusedSimpArgs false

set_option maxRecDepth 100000 in
set_option maxHeartbeats 4000000 in
theorem list_c (m : Nat) (hm : m ≤ 1000) (hf : Reads pCd 29 (fun rb => #[rdV rb]) (VV vC.g vC.val vC.C vC.S vC.R)) :
    Reads (pList m pCd) 28 (fun rb => #[rdV rb, .int .i64 (m : Int), .func (.func 29) #[rdV rb] #[]]) (VL vC 38 11 cdRow) := by
  intro rb s w hs hr
  have hrb := hr.lt
  obtain ⟨i0, hi, hz0, hz1, hz2⟩ := info_parts infoC
  have HR := Lib.hid (hr.below (below_alloc1 w (.cells #[.pointer (some ⟨rb, 0, none⟩)] 62)))
  have HG0 := Lib.hid (grown_new (World.grownBy.refl w (some rb)) (.cells #[.pointer (some ⟨rb, 0, none⟩)] 62))
  have HU := Lib.hid (upTo_any m (by omega))
  have HF := Lib.hid hf
  have hsz1 : w.heap.size < (w.alloc (.cells #[.pointer (some ⟨rb, 0, none⟩)] 62)).heap.size := by simp
  have HS := Lib.hid hs
  clear hf hr hs
  go_enter Tryz.func28, Tryz.ntmps28
  go_wp2_with fail
  generalize w.alloc (.cells #[.pointer (some ⟨rb, 0, none⟩)] 62) = w1 at *
  refine (HU.out rb s w1 HS.out HR.out).mono ?_
  rintro e w2 ⟨g2, ⟨hn, rfl⟩ | ⟨x, t, v, hx, ht, rfl, h2, rfl⟩⟩
  · have HP := Lib.hid (then_none (g := fun n => pRep pCd n.toNat) hn)
    have HG := Lib.hid (grown_then HG0.out g2)
    clear hn g2
    exact ⟨rfl, HG.out, .inl ⟨HP.out, rfl⟩⟩
  · obtain ⟨n, rfl, hnm⟩ := pUp_nat hx
    have HP := Lib.hid (pList_of (f := pCd) hx)
    rw [Int.toNat_natCast] at HP
    have HG := Lib.hid (grown_then HG0.out g2)
    have HR2 := Lib.hid h2
    have HT := Lib.hid (show t.size ≤ s.size from ht)
    have HS2 := Lib.hid (show w.heap.size ≤ w2.heap.size by have := g2.size; omega)
    clear hx g2 h2 ht
    go_wp2_with fail
    go_loopw [7, 11] (fun sv q wr => ∃ (i : Nat) (M : List CdT) (u : ByteArray) (v7 : Value), v7 = sv ∧ q = .int .i64 (i : Int) ∧ M.length = i ∧ i ≤ n ∧ Part pCd n t i (M.map vC.g) u ∧ u.size ≤ s.size ∧ Rd1 rb u wr ∧ wr.ownsRow w.heap.size 38 11 v7 i (cdRow M) ∧ (∀ y ∈ M, vC.C y ∧ Kd vC.S rb (vC.R y) wr) ∧ w.grownBy wr (some rb)) (fun sv q _ => n - (intOf q).toNat)
    case atStart => exact ⟨0, [], t, _, rfl, rfl, rfl, Nat.zero_le _, Part.start _ _ _, HT.out, HR2.out, World.ownsRow_nil _ _ _ _, (fun y h => by cases h), HG.out⟩
    case round =>
      obtain ⟨i, M, u, sv, rfl, rfl, hl, hin, hpt, hus, hrd, hown, hM, hg⟩ := hrel
      have HPt := Lib.hid hpt
      have HUs := Lib.hid hus
      have HRd := Lib.hid hrd
      have HOw := Lib.hid hown
      have HM := Lib.hid hM
      have HGr := Lib.hid hg
      have HL := Lib.hid hl
      clear hpt hus hrd hown hM hg hl
      by_cases hlt : i < n
      · go_wp2_with fail
        refine (HF.out rb u _ (by have := HUs.out; have := HS.out; omega) HRd.out).mono ?_
        rintro e w4 ⟨g4, ⟨hno, rfl⟩ | ⟨x, t4, v4, hx4, ht4, rfl, h4, y, hgy, rfl, hC, hK⟩⟩
        · have HNo := Lib.hid (HP.out.trans (HPt.out.fails hlt hno))
          have HGn := Lib.hid (grown_then HGr.out g4)
          clear hno g4
          exact ⟨rfl, HGn.out, .inl ⟨HNo.out, rfl⟩⟩
        · have HPn := Lib.hid (HPt.out.step hlt hx4)
          have HO4 := Lib.hid ((own_read HOw.out g4 hrb).alloc (.cells #[.string y.1.nm, .int .i64 y.1.k, .int .i64 y.1.c0, .int .i64 y.1.c1, .int .i64 y.1.c2, .int .i64 y.1.c3, .int .i64 y.1.col, .int .i64 y.1.pow, .int .i64 y.1.tou, .int .i64 y.1.keys, .slice y.1.aa y.1.an y.1.ac] 38))
          have HM4 := Lib.hid (show ∀ z ∈ M ++ [y], vC.C z ∧ Kd vC.S rb (vC.R z) w4 from fun z hz => by
            rcases List.mem_append.1 hz with hz | hz
            · exact ⟨(HM.out z hz).1, (HM.out z hz).2.read g4⟩
            · rw [List.mem_singleton.1 hz]; exact ⟨hC, hK⟩)
          have HG4 := Lib.hid (grown_then HGr.out g4)
          have HR4 := Lib.hid h4
          have HT4 := Lib.hid (show t4.size ≤ s.size by have := HUs.out; omega)
          have HGy := Lib.hid hgy
          have hsz4 : w.heap.size ≤ w4.heap.size := HG4.out.size
          clear hx4 hC hK h4 ht4 g4 hgy
          go_wp2_with (at_builtin; go_loud (refine wpList_append_own _ rfl _ _ 22 rfl w.heap.size 38 i0 (.agg #[.string ⟨#[]⟩, .int .i64 0, .int .i64 0, .int .i64 0, .int .i64 0, .int .i64 0, .int .i64 0, .int .i64 0, .int .i64 0, .int .i64 0, .slice none 0 0]) 11 112 Tryz.underlying22 hi hz0 hz1 hz2 rfl (by decide) _ i _ rfl HO4.out ⟨w4.heap.size, 0, none⟩ 1 1 (cdCells y.1) rfl rfl (new_cells w4 _ _) (fun z hz => by simp only [cdCells, List.mem_cons, List.not_mem_nil, or_false] at hz; rcases hz with rfl | rfl | rfl | rfl | rfl | rfl | rfl | rfl | rfl | rfl | rfl <;> rfl) (by unfold maxLen; omega) (by omega) (by simp; omega) ?_; intro sv5 w5 hown5 hgr5 hnil5; clear hnil5))
          have HG5 := Lib.hid (grown_own HG4.out HO4.out hgr5)
          have HR5 := Lib.hid (rd_own HR4.out HO4.out hgr5 hrb)
          have HM5 := Lib.hid (show ∀ z ∈ M ++ [y], vC.C z ∧ Kd vC.S rb (vC.R z) w5 from fun z hz => ⟨(HM4.out z hz).1, kd_own (HM4.out z hz).2 HO4.out hgr5 rfl⟩)
          have HO5 := Lib.hid (show w5.ownsRow w.heap.size 38 11 sv5 (i + 1) (cdRow (M ++ [y])) by rw [cdRow_snoc]; exact hown5)
          have HPm := Lib.hid (show Part pCd n t (i + 1) ((M ++ [y]).map vC.g) t4 by
            rw [List.map_append, List.map_singleton, show vC.g y = x from HGy.out]; exact HPn.out)
          clear hown5 hgr5
          go_wp2_with fail
          go_roundw
          case rel => exact ⟨i + 1, M ++ [y], t4, _, rfl, by go_num, by have := HL.out; simp; omega, by omega, HPm.out, HT4.out, HR5.out, HO5.out, HM5.out, HG5.out⟩
          case measure => simp [intOf]; omega
      · obtain rfl : i = n := by omega
        have HFin := Lib.hid (VL.of (V := vC) (rw := cdRow) (rb := rb) (show wr.ownsRow w.heap.size 38 11 sv M.length (cdRow M) by rw [HL.out]; exact HOw.out) hrb HM.out)
        have HPe := Lib.hid (HP.out.trans HPt.out.ends)
        go_wp2_with fail
        go_ret
        exact ⟨HGr.out, .inr ⟨_, _, HPe.out, HUs.out, sv, rfl, HRd.out, HFin.out⟩⟩
end Go.Proofs.YtbeaaieaffdgeaaGreatDoor
end
