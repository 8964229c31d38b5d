/- Texts that belong together: PoolEr, PoolE, PoolF, PoolG, PoolH, PoolZl, PoolL. -/
import Derived.Test.YtbeaaieaffdgeaaGreatDoorMg
import Derived.Test.YtbeaaieaffdgeaaGreatDoorMm
import Derived.Shelf.Abstract
import Derived.Test.YtbeaaieaffdgeaaGreatDoorMi
import Derived.BigQuiet
/- The drawn regions of the document's ability, by program (gen6a.py). -/
section
namespace Go.Proofs.YtbeaaieaffdgeaaGreatDoor
open Go.RowKit Go.Shelf
set_option linter.unusedVariables false
set_option linter.unusedSimpArgs false
set_option maxRecDepth 100000

/-- What the loop's region reads. -/
def AbH (bx b off k : Nat) (x : Ab) (i : Ins) (w0 w : World) : Prop :=
  w.cell? ⟨bx, 9, none⟩ = some (.slice (some ⟨b, off, none⟩) x.cn x.cc) ∧ w.cell? ⟨b, off + k * 3 + 1, none⟩ = some (.int .i64 i.a) ∧ w.cell? ⟨b, off + k * 3 + 2, none⟩ = some (.int .i64 i.b) ∧
  bx < w.heap.size ∧ b < w.heap.size ∧ Below w0.heap.size w0 w
theorem AbH.next {bx b off k : Nat} {x : Ab} {i : Ins} {w0 w w' : World} (h : AbH bx b off k x i w0 w) (g : Below w.heap.size w w') : AbH bx b off k x i w0 w' :=
  ⟨(g.cell (p := ⟨bx, 9, none⟩) h.2.2.2.1).trans h.1, (g.cell (p := ⟨b, off + k * 3 + 1, none⟩) h.2.2.2.2.1).trans h.2.1, (g.cell (p := ⟨b, off + k * 3 + 2, none⟩) h.2.2.2.2.1).trans h.2.2.1,
    Nat.lt_of_lt_of_le h.2.2.2.1 g.size, Nat.lt_of_lt_of_le h.2.2.2.2.1 g.size, below_then' h.2.2.2.2.2 g h.2.2.2.2.2.size⟩
/-- What the last region reads. -/
def AbE (bx : Nat) (x : Ab) (w0 w : World) : Prop :=
  w.cell? ⟨bx, 11, none⟩ = some (.int .i64 x.a) ∧ w.cell? ⟨bx, 12, none⟩ = some (.int .i64 x.b) ∧ bx < w.heap.size ∧ Below w0.heap.size w0 w
theorem AbE.next {bx : Nat} {x : Ab} {w0 w w' : World} (h : AbE bx x w0 w) (g : Below w.heap.size w w') : AbE bx x w0 w' :=
  ⟨(g.cell (p := ⟨bx, 11, none⟩) h.2.2.1).trans h.1, (g.cell (p := ⟨bx, 12, none⟩) h.2.2.1).trans h.2.1, Nat.lt_of_lt_of_le h.2.2.1 g.size, below_then' h.2.2.2 g h.2.2.2.size⟩
/-- The operations of the region. -/
noncomputable def paOps : Array Oper := ((Tryz.f19.body).bind (regionOps 11)).getD #[]
/-- What each of them yields. -/
def paTab (u1 : ByteArray) (bx b off k : Nat) (x : Ab) (i : Ins) (w0 : World) (t : Nat → Value) : Array Cl := #[.val (.string u1),
  .val (.pointer (some ⟨bx, 9, none⟩)),
  .val (.slice (some ⟨b, off, none⟩) x.cn x.cc),
  .val (.int .i64 (k : Int)),
  .val (.pointer (some ⟨b, off + k * 3, none⟩)),
  .val (.pointer (some ⟨b, off + k * 3 + 1, none⟩)),
  .val (.int .i64 i.a),
  .val (.string (u1 ++ numS (zig i.a))),
  .val (.pointer (some ⟨bx, 9, none⟩)),
  .val (.slice (some ⟨b, off, none⟩) x.cn x.cc),
  .val (.int .i64 (k : Int)),
  .val (.pointer (some ⟨b, off + k * 3, none⟩)),
  .val (.pointer (some ⟨b, off + k * 3 + 2, none⟩)),
  .val (.int .i64 i.b),
  .val (.string (u1 ++ numS (zig i.a) ++ numS (zig i.b)))]
/-- The slots that the region does not write. -/
def paFree : List Nat := [0, 1, 2, 3, 4, 5, 6, 7, 8, 9, 10, 11, 12, 13, 14, 15, 16, 17, 18, 19, 20, 21, 22, 23, 24, 25, 26, 27, 28, 29, 30, 31, 32, 33, 34, 35, 36, 37, 38, 39, 40, 41, 42, 43, 44, 45, 46, 47, 48, 49, 50, 51, 52, 53, 54, 55, 56, 57, 58, 59, 75, 76, 77, 78, 79, 80, 81, 82, 83, 84, 85, 86]
def paBase (u1 : ByteArray) (bx b off k : Nat) (x : Ab) (i : Ins) (w0 : World) (t : Nat → Value) : Nat → Option Value := fun s => if paFree.contains s then some (t s) else none
theorem paHold (u1 : ByteArray) (bx b off k : Nat) (x : Ab) (i : Ins) (w0 : World) (t : Nat → Value) : ∀ w w' : World, (fun w => AbH bx b off k x i w0 w) w → Below w.heap.size w w' → (fun w => AbH bx b off k x i w0 w) w' := fun w w' h k => h.next k
/-- The closed facts that the region leans on. -/
structure paRows (u1 : ByteArray) (bx b off k : Nat) (x : Ab) (i : Ins) (w0 : World) (t : Nat → Value) : Prop where
  t0 : t 0 = .string u1
  t3 : t 3 = .pointer (some ⟨bx, 0, none⟩)
  t6 : t 6 = .int .i64 (k : Int)
  hk : k < x.cn
  z1 : u1.size ≤ 70368744177664
  z2 : (u1 ++ numS (zig i.a)).size ≤ 70368744177664
  la : -9223372036854775808 ≤ i.a
  ha : i.a ≤ 9223372036854775807
  lb : -9223372036854775808 ≤ i.b
  hb : i.b ≤ 9223372036854775807
section
variable {l : Array Bool} {a : Act} {w : World} {Q : Exit → Act → World → Prop} {u1 : ByteArray} {bx b off k : Nat} {x : Ab} {i : Ins} {w0 : World} {t : Nat → Value}
theorem paSt0 (hR : paRows u1 bx b off k x i w0 t) (h : At paOps 87 (paTab u1 bx b off k x i w0 t) (paBase u1 bx b off k x i w0 t) (fun w => AbH bx b off k x i w0 w) l a w) (hd : ∀ o : Oper, paOps[0]? = some o → ∀ e ∈ o.after.toList, Region.binds .any e = true → l.getD e.on false = true) : wpOp Tryz.prog paOps Q 0 (At paOps 87 (paTab u1 bx b off k x i w0 t) (paBase u1 bx b off k x i w0 t) (fun w => AbH bx b off k x i w0 w) (l.setIfInBounds 0 true)) a w := by
  have hown : ownAt paOps 87 (paBase u1 bx b off k x i w0 t) 0 60 := ownAt_of (by kernel_rfl) rfl
  have hH := paHold u1 bx b off k x i w0 t
  obtain ⟨o, ho⟩ : ∃ o, paOps[0]? = some o := Option.isSome_iff_exists.1 (by kernel_rfl)
  have hop : o.op = Op.move (Operand.tmp 0) := op_of ho (by kernel_rfl)
  have hg : guardOk paOps a o := guard_none (guard_of ho (by kernel_rfl))
  have v0 : a.eval (.tmp 0) = .string u1 := (h.fixed 0 (t 0) rfl).trans hR.t0
  exact h.yields1 hH ho hown hg (v := .string u1) (w' := w) (by simp only [execOp, hop, v0]; kernel_rfl) (Below.refl _ _) rfl
theorem paSt1 (hR : paRows u1 bx b off k x i w0 t) (h : At paOps 87 (paTab u1 bx b off k x i w0 t) (paBase u1 bx b off k x i w0 t) (fun w => AbH bx b off k x i w0 w) l a w) (hd : ∀ o : Oper, paOps[1]? = some o → ∀ e ∈ o.after.toList, Region.binds .any e = true → l.getD e.on false = true) : wpOp Tryz.prog paOps Q 1 (At paOps 87 (paTab u1 bx b off k x i w0 t) (paBase u1 bx b off k x i w0 t) (fun w => AbH bx b off k x i w0 w) (l.setIfInBounds 1 true)) a w := by
  have hown : ownAt paOps 87 (paBase u1 bx b off k x i w0 t) 1 61 := ownAt_of (by kernel_rfl) rfl
  have hH := paHold u1 bx b off k x i w0 t
  obtain ⟨o, ho⟩ : ∃ o, paOps[1]? = some o := Option.isSome_iff_exists.1 (by kernel_rfl)
  have hop : o.op = Op.fieldAddr 42 (Operand.tmp 3) 6 := op_of ho (by kernel_rfl)
  have hg : guardOk paOps a o := guard_none (guard_of ho (by kernel_rfl))
  have v3 : a.eval (.tmp 3) = .pointer (some ⟨bx, 0, none⟩) := (h.fixed 3 (t 3) rfl).trans hR.t3
  exact h.yields1 hH ho hown hg (v := .pointer (some ⟨bx, 9, none⟩)) (w' := w) (by simp only [execOp, hop, v3]; first | kernel_rfl | go_simp) (Below.refl _ _) rfl
theorem paSt2 (hR : paRows u1 bx b off k x i w0 t) (h : At paOps 87 (paTab u1 bx b off k x i w0 t) (paBase u1 bx b off k x i w0 t) (fun w => AbH bx b off k x i w0 w) l a w) (hd : ∀ o : Oper, paOps[2]? = some o → ∀ e ∈ o.after.toList, Region.binds .any e = true → l.getD e.on false = true) : wpOp Tryz.prog paOps Q 2 (At paOps 87 (paTab u1 bx b off k x i w0 t) (paBase u1 bx b off k x i w0 t) (fun w => AbH bx b off k x i w0 w) (l.setIfInBounds 2 true)) a w := by
  have hown : ownAt paOps 87 (paBase u1 bx b off k x i w0 t) 2 62 := ownAt_of (by kernel_rfl) rfl
  have hH := paHold u1 bx b off k x i w0 t
  obtain ⟨o, ho⟩ : ∃ o, paOps[2]? = some o := Option.isSome_iff_exists.1 (by kernel_rfl)
  have hop : o.op = Op.load 40 (Operand.tmp 61) := op_of ho (by kernel_rfl)
  have hg : guardOk paOps a o := guard_none (guard_of ho (by kernel_rfl))
  have v61 : a.eval (.tmp 61) = .pointer (some ⟨bx, 9, none⟩) := h.done 1 61 (dep hd 1 (by kernel_rfl)) (by kernel_rfl)
  have c := h.hold.1
  exact h.yields1 hH ho hown hg (v := .slice (some ⟨b, off, none⟩) x.cn x.cc) (w' := w) (by simp only [execOp, hop, v61]; first | go_simp | simp [go_sem, c]) (Below.refl _ _) rfl
theorem paSt3 (hR : paRows u1 bx b off k x i w0 t) (h : At paOps 87 (paTab u1 bx b off k x i w0 t) (paBase u1 bx b off k x i w0 t) (fun w => AbH bx b off k x i w0 w) l a w) (hd : ∀ o : Oper, paOps[3]? = some o → ∀ e ∈ o.after.toList, Region.binds .any e = true → l.getD e.on false = true) : wpOp Tryz.prog paOps Q 3 (At paOps 87 (paTab u1 bx b off k x i w0 t) (paBase u1 bx b off k x i w0 t) (fun w => AbH bx b off k x i w0 w) (l.setIfInBounds 3 true)) a w := by
  have hown : ownAt paOps 87 (paBase u1 bx b off k x i w0 t) 3 63 := ownAt_of (by kernel_rfl) rfl
  have hH := paHold u1 bx b off k x i w0 t
  obtain ⟨o, ho⟩ : ∃ o, paOps[3]? = some o := Option.isSome_iff_exists.1 (by kernel_rfl)
  have hop : o.op = Op.move (Operand.tmp 6) := op_of ho (by kernel_rfl)
  have hg : guardOk paOps a o := guard_none (guard_of ho (by kernel_rfl))
  have v6 : a.eval (.tmp 6) = .int .i64 (k : Int) := (h.fixed 6 (t 6) rfl).trans hR.t6
  exact h.yields1 hH ho hown hg (v := .int .i64 (k : Int)) (w' := w) (by simp only [execOp, hop, v6]; kernel_rfl) (Below.refl _ _) rfl
theorem paSt4 (hR : paRows u1 bx b off k x i w0 t) (h : At paOps 87 (paTab u1 bx b off k x i w0 t) (paBase u1 bx b off k x i w0 t) (fun w => AbH bx b off k x i w0 w) l a w) (hd : ∀ o : Oper, paOps[4]? = some o → ∀ e ∈ o.after.toList, Region.binds .any e = true → l.getD e.on false = true) : wpOp Tryz.prog paOps Q 4 (At paOps 87 (paTab u1 bx b off k x i w0 t) (paBase u1 bx b off k x i w0 t) (fun w => AbH bx b off k x i w0 w) (l.setIfInBounds 4 true)) a w := by
  have hown : ownAt paOps 87 (paBase u1 bx b off k x i w0 t) 4 64 := ownAt_of (by kernel_rfl) rfl
  have hH := paHold u1 bx b off k x i w0 t
  obtain ⟨o, ho⟩ : ∃ o, paOps[4]? = some o := Option.isSome_iff_exists.1 (by kernel_rfl)
  have hop : o.op = Op.indexAddr 40 (Operand.tmp 62) (Operand.tmp 63) := op_of ho (by kernel_rfl)
  have hg : guardOk paOps a o := guard_none (guard_of ho (by kernel_rfl))
  have v62 : a.eval (.tmp 62) = .slice (some ⟨b, off, none⟩) x.cn x.cc := h.done 2 62 (dep hd 2 (by kernel_rfl)) (by kernel_rfl)
  have v63 : a.eval (.tmp 63) = .int .i64 (k : Int) := h.done 3 63 (dep hd 3 (by kernel_rfl)) (by kernel_rfl)
  have hk := hR.hk
  exact h.yields1 hH ho hown hg (v := .pointer (some ⟨b, off + k * 3, none⟩)) (w' := w) (by simp only [execOp, hop, v62, v63]; go_simp) (Below.refl _ _) rfl
theorem paSt5 (hR : paRows u1 bx b off k x i w0 t) (h : At paOps 87 (paTab u1 bx b off k x i w0 t) (paBase u1 bx b off k x i w0 t) (fun w => AbH bx b off k x i w0 w) l a w) (hd : ∀ o : Oper, paOps[5]? = some o → ∀ e ∈ o.after.toList, Region.binds .any e = true → l.getD e.on false = true) : wpOp Tryz.prog paOps Q 5 (At paOps 87 (paTab u1 bx b off k x i w0 t) (paBase u1 bx b off k x i w0 t) (fun w => AbH bx b off k x i w0 w) (l.setIfInBounds 5 true)) a w := by
  have hown : ownAt paOps 87 (paBase u1 bx b off k x i w0 t) 5 65 := ownAt_of (by kernel_rfl) rfl
  have hH := paHold u1 bx b off k x i w0 t
  obtain ⟨o, ho⟩ : ∃ o, paOps[5]? = some o := Option.isSome_iff_exists.1 (by kernel_rfl)
  have hop : o.op = Op.fieldAddr 82 (Operand.tmp 64) 1 := op_of ho (by kernel_rfl)
  have hg : guardOk paOps a o := guard_none (guard_of ho (by kernel_rfl))
  have v64 : a.eval (.tmp 64) = .pointer (some ⟨b, off + k * 3, none⟩) := h.done 4 64 (dep hd 4 (by kernel_rfl)) (by kernel_rfl)
  exact h.yields1 hH ho hown hg (v := .pointer (some ⟨b, off + k * 3 + 1, none⟩)) (w' := w) (by simp only [execOp, hop, v64]; first | kernel_rfl | go_simp) (Below.refl _ _) rfl
theorem paSt6 (hR : paRows u1 bx b off k x i w0 t) (h : At paOps 87 (paTab u1 bx b off k x i w0 t) (paBase u1 bx b off k x i w0 t) (fun w => AbH bx b off k x i w0 w) l a w) (hd : ∀ o : Oper, paOps[6]? = some o → ∀ e ∈ o.after.toList, Region.binds .any e = true → l.getD e.on false = true) : wpOp Tryz.prog paOps Q 6 (At paOps 87 (paTab u1 bx b off k x i w0 t) (paBase u1 bx b off k x i w0 t) (fun w => AbH bx b off k x i w0 w) (l.setIfInBounds 6 true)) a w := by
  have hown : ownAt paOps 87 (paBase u1 bx b off k x i w0 t) 6 66 := ownAt_of (by kernel_rfl) rfl
  have hH := paHold u1 bx b off k x i w0 t
  obtain ⟨o, ho⟩ : ∃ o, paOps[6]? = some o := Option.isSome_iff_exists.1 (by kernel_rfl)
  have hop : o.op = Op.load 3 (Operand.tmp 65) := op_of ho (by kernel_rfl)
  have hg : guardOk paOps a o := guard_none (guard_of ho (by kernel_rfl))
  have v65 : a.eval (.tmp 65) = .pointer (some ⟨b, off + k * 3 + 1, none⟩) := h.done 5 65 (dep hd 5 (by kernel_rfl)) (by kernel_rfl)
  have c := h.hold.2.1
  exact h.yields1 hH ho hown hg (v := .int .i64 i.a) (w' := w) (by simp only [execOp, hop, v65]; first | go_simp | simp [go_sem, c]) (Below.refl _ _) rfl
theorem paSt7 (hR : paRows u1 bx b off k x i w0 t) (h : At paOps 87 (paTab u1 bx b off k x i w0 t) (paBase u1 bx b off k x i w0 t) (fun w => AbH bx b off k x i w0 w) l a w) (hd : ∀ o : Oper, paOps[7]? = some o → ∀ e ∈ o.after.toList, Region.binds .any e = true → l.getD e.on false = true) : wpOp Tryz.prog paOps Q 7 (At paOps 87 (paTab u1 bx b off k x i w0 t) (paBase u1 bx b off k x i w0 t) (fun w => AbH bx b off k x i w0 w) (l.setIfInBounds 7 true)) a w := by
  have hown : ownAt paOps 87 (paBase u1 bx b off k x i w0 t) 7 67 := ownAt_of (by kernel_rfl) rfl
  have hH := paHold u1 bx b off k x i w0 t
  obtain ⟨o, ho⟩ : ∃ o, paOps[7]? = some o := Option.isSome_iff_exists.1 (by kernel_rfl)
  have hop : o.op = Op.call { callee := Callee.value (Operand.func 43), args := #[Operand.tmp 60, Operand.tmp 66], argTypes := #[9, 3] } := op_of ho (by kernel_rfl)
  have hg : guardOk paOps a o := guard_none (guard_of ho (by kernel_rfl))
  have v60 : a.eval (.tmp 60) = .string u1 := h.done 0 60 (dep hd 0 (by kernel_rfl)) (by kernel_rfl)
  have v66 : a.eval (.tmp 66) = .int .i64 i.a := h.done 6 66 (dep hd 6 (by kernel_rfl)) (by kernel_rfl)
  refine h.calls1 hH ho hown hg (f := 43) (args := #[.string u1, .int .i64 i.a]) ?_ ((refInt_any u1 hR.z1 i.a hR.la hR.ha w).mono ?_)
  · rw [exec_call (enters_of Tryz.func43 (by kernel_rfl) rfl) hop]
    simp only [List.map_toArray, List.map_cons, List.map_nil, v60, v66]
    try rfl
  rintro e w' ⟨rfl, hb⟩
  exact ⟨_, rfl, hb, rfl⟩
theorem paSt8 (hR : paRows u1 bx b off k x i w0 t) (h : At paOps 87 (paTab u1 bx b off k x i w0 t) (paBase u1 bx b off k x i w0 t) (fun w => AbH bx b off k x i w0 w) l a w) (hd : ∀ o : Oper, paOps[8]? = some o → ∀ e ∈ o.after.toList, Region.binds .any e = true → l.getD e.on false = true) : wpOp Tryz.prog paOps Q 8 (At paOps 87 (paTab u1 bx b off k x i w0 t) (paBase u1 bx b off k x i w0 t) (fun w => AbH bx b off k x i w0 w) (l.setIfInBounds 8 true)) a w := by
  have hown : ownAt paOps 87 (paBase u1 bx b off k x i w0 t) 8 68 := ownAt_of (by kernel_rfl) rfl
  have hH := paHold u1 bx b off k x i w0 t
  obtain ⟨o, ho⟩ : ∃ o, paOps[8]? = some o := Option.isSome_iff_exists.1 (by kernel_rfl)
  have hop : o.op = Op.fieldAddr 42 (Operand.tmp 3) 6 := op_of ho (by kernel_rfl)
  have hg : guardOk paOps a o := guard_none (guard_of ho (by kernel_rfl))
  have v3 : a.eval (.tmp 3) = .pointer (some ⟨bx, 0, none⟩) := (h.fixed 3 (t 3) rfl).trans hR.t3
  exact h.yields1 hH ho hown hg (v := .pointer (some ⟨bx, 9, none⟩)) (w' := w) (by simp only [execOp, hop, v3]; first | kernel_rfl | go_simp) (Below.refl _ _) rfl
theorem paSt9 (hR : paRows u1 bx b off k x i w0 t) (h : At paOps 87 (paTab u1 bx b off k x i w0 t) (paBase u1 bx b off k x i w0 t) (fun w => AbH bx b off k x i w0 w) l a w) (hd : ∀ o : Oper, paOps[9]? = some o → ∀ e ∈ o.after.toList, Region.binds .any e = true → l.getD e.on false = true) : wpOp Tryz.prog paOps Q 9 (At paOps 87 (paTab u1 bx b off k x i w0 t) (paBase u1 bx b off k x i w0 t) (fun w => AbH bx b off k x i w0 w) (l.setIfInBounds 9 true)) a w := by
  have hown : ownAt paOps 87 (paBase u1 bx b off k x i w0 t) 9 69 := ownAt_of (by kernel_rfl) rfl
  have hH := paHold u1 bx b off k x i w0 t
  obtain ⟨o, ho⟩ : ∃ o, paOps[9]? = some o := Option.isSome_iff_exists.1 (by kernel_rfl)
  have hop : o.op = Op.load 40 (Operand.tmp 68) := op_of ho (by kernel_rfl)
  have hg : guardOk paOps a o := guard_none (guard_of ho (by kernel_rfl))
  have v68 : a.eval (.tmp 68) = .pointer (some ⟨bx, 9, none⟩) := h.done 8 68 (dep hd 8 (by kernel_rfl)) (by kernel_rfl)
  have c := h.hold.1
  exact h.yields1 hH ho hown hg (v := .slice (some ⟨b, off, none⟩) x.cn x.cc) (w' := w) (by simp only [execOp, hop, v68]; first | go_simp | simp [go_sem, c]) (Below.refl _ _) rfl
theorem paSt10 (hR : paRows u1 bx b off k x i w0 t) (h : At paOps 87 (paTab u1 bx b off k x i w0 t) (paBase u1 bx b off k x i w0 t) (fun w => AbH bx b off k x i w0 w) l a w) (hd : ∀ o : Oper, paOps[10]? = some o → ∀ e ∈ o.after.toList, Region.binds .any e = true → l.getD e.on false = true) : wpOp Tryz.prog paOps Q 10 (At paOps 87 (paTab u1 bx b off k x i w0 t) (paBase u1 bx b off k x i w0 t) (fun w => AbH bx b off k x i w0 w) (l.setIfInBounds 10 true)) a w := by
  have hown : ownAt paOps 87 (paBase u1 bx b off k x i w0 t) 10 70 := ownAt_of (by kernel_rfl) rfl
  have hH := paHold u1 bx b off k x i w0 t
  obtain ⟨o, ho⟩ : ∃ o, paOps[10]? = some o := Option.isSome_iff_exists.1 (by kernel_rfl)
  have hop : o.op = Op.move (Operand.tmp 6) := op_of ho (by kernel_rfl)
  have hg : guardOk paOps a o := guard_none (guard_of ho (by kernel_rfl))
  have v6 : a.eval (.tmp 6) = .int .i64 (k : Int) := (h.fixed 6 (t 6) rfl).trans hR.t6
  exact h.yields1 hH ho hown hg (v := .int .i64 (k : Int)) (w' := w) (by simp only [execOp, hop, v6]; kernel_rfl) (Below.refl _ _) rfl
theorem paSt11 (hR : paRows u1 bx b off k x i w0 t) (h : At paOps 87 (paTab u1 bx b off k x i w0 t) (paBase u1 bx b off k x i w0 t) (fun w => AbH bx b off k x i w0 w) l a w) (hd : ∀ o : Oper, paOps[11]? = some o → ∀ e ∈ o.after.toList, Region.binds .any e = true → l.getD e.on false = true) : wpOp Tryz.prog paOps Q 11 (At paOps 87 (paTab u1 bx b off k x i w0 t) (paBase u1 bx b off k x i w0 t) (fun w => AbH bx b off k x i w0 w) (l.setIfInBounds 11 true)) a w := by
  have hown : ownAt paOps 87 (paBase u1 bx b off k x i w0 t) 11 71 := ownAt_of (by kernel_rfl) rfl
  have hH := paHold u1 bx b off k x i w0 t
  obtain ⟨o, ho⟩ : ∃ o, paOps[11]? = some o := Option.isSome_iff_exists.1 (by kernel_rfl)
  have hop : o.op = Op.indexAddr 40 (Operand.tmp 69) (Operand.tmp 70) := op_of ho (by kernel_rfl)
  have hg : guardOk paOps a o := guard_none (guard_of ho (by kernel_rfl))
  have v69 : a.eval (.tmp 69) = .slice (some ⟨b, off, none⟩) x.cn x.cc := h.done 9 69 (dep hd 9 (by kernel_rfl)) (by kernel_rfl)
  have v70 : a.eval (.tmp 70) = .int .i64 (k : Int) := h.done 10 70 (dep hd 10 (by kernel_rfl)) (by kernel_rfl)
  have hk := hR.hk
  exact h.yields1 hH ho hown hg (v := .pointer (some ⟨b, off + k * 3, none⟩)) (w' := w) (by simp only [execOp, hop, v69, v70]; go_simp) (Below.refl _ _) rfl
theorem paSt12 (hR : paRows u1 bx b off k x i w0 t) (h : At paOps 87 (paTab u1 bx b off k x i w0 t) (paBase u1 bx b off k x i w0 t) (fun w => AbH bx b off k x i w0 w) l a w) (hd : ∀ o : Oper, paOps[12]? = some o → ∀ e ∈ o.after.toList, Region.binds .any e = true → l.getD e.on false = true) : wpOp Tryz.prog paOps Q 12 (At paOps 87 (paTab u1 bx b off k x i w0 t) (paBase u1 bx b off k x i w0 t) (fun w => AbH bx b off k x i w0 w) (l.setIfInBounds 12 true)) a w := by
  have hown : ownAt paOps 87 (paBase u1 bx b off k x i w0 t) 12 72 := ownAt_of (by kernel_rfl) rfl
  have hH := paHold u1 bx b off k x i w0 t
  obtain ⟨o, ho⟩ : ∃ o, paOps[12]? = some o := Option.isSome_iff_exists.1 (by kernel_rfl)
  have hop : o.op = Op.fieldAddr 82 (Operand.tmp 71) 2 := op_of ho (by kernel_rfl)
  have hg : guardOk paOps a o := guard_none (guard_of ho (by kernel_rfl))
  have v71 : a.eval (.tmp 71) = .pointer (some ⟨b, off + k * 3, none⟩) := h.done 11 71 (dep hd 11 (by kernel_rfl)) (by kernel_rfl)
  exact h.yields1 hH ho hown hg (v := .pointer (some ⟨b, off + k * 3 + 2, none⟩)) (w' := w) (by simp only [execOp, hop, v71]; first | kernel_rfl | go_simp) (Below.refl _ _) rfl
theorem paSt13 (hR : paRows u1 bx b off k x i w0 t) (h : At paOps 87 (paTab u1 bx b off k x i w0 t) (paBase u1 bx b off k x i w0 t) (fun w => AbH bx b off k x i w0 w) l a w) (hd : ∀ o : Oper, paOps[13]? = some o → ∀ e ∈ o.after.toList, Region.binds .any e = true → l.getD e.on false = true) : wpOp Tryz.prog paOps Q 13 (At paOps 87 (paTab u1 bx b off k x i w0 t) (paBase u1 bx b off k x i w0 t) (fun w => AbH bx b off k x i w0 w) (l.setIfInBounds 13 true)) a w := by
  have hown : ownAt paOps 87 (paBase u1 bx b off k x i w0 t) 13 73 := ownAt_of (by kernel_rfl) rfl
  have hH := paHold u1 bx b off k x i w0 t
  obtain ⟨o, ho⟩ : ∃ o, paOps[13]? = some o := Option.isSome_iff_exists.1 (by kernel_rfl)
  have hop : o.op = Op.load 3 (Operand.tmp 72) := op_of ho (by kernel_rfl)
  have hg : guardOk paOps a o := guard_none (guard_of ho (by kernel_rfl))
  have v72 : a.eval (.tmp 72) = .pointer (some ⟨b, off + k * 3 + 2, none⟩) := h.done 12 72 (dep hd 12 (by kernel_rfl)) (by kernel_rfl)
  have c := h.hold.2.2.1
  exact h.yields1 hH ho hown hg (v := .int .i64 i.b) (w' := w) (by simp only [execOp, hop, v72]; first | go_simp | simp [go_sem, c]) (Below.refl _ _) rfl
theorem paSt14 (hR : paRows u1 bx b off k x i w0 t) (h : At paOps 87 (paTab u1 bx b off k x i w0 t) (paBase u1 bx b off k x i w0 t) (fun w => AbH bx b off k x i w0 w) l a w) (hd : ∀ o : Oper, paOps[14]? = some o → ∀ e ∈ o.after.toList, Region.binds .any e = true → l.getD e.on false = true) : wpOp Tryz.prog paOps Q 14 (At paOps 87 (paTab u1 bx b off k x i w0 t) (paBase u1 bx b off k x i w0 t) (fun w => AbH bx b off k x i w0 w) (l.setIfInBounds 14 true)) a w := by
  have hown : ownAt paOps 87 (paBase u1 bx b off k x i w0 t) 14 74 := ownAt_of (by kernel_rfl) rfl
  have hH := paHold u1 bx b off k x i w0 t
  obtain ⟨o, ho⟩ : ∃ o, paOps[14]? = some o := Option.isSome_iff_exists.1 (by kernel_rfl)
  have hop : o.op = Op.call { callee := Callee.value (Operand.func 43), args := #[Operand.tmp 67, Operand.tmp 73], argTypes := #[9, 3] } := op_of ho (by kernel_rfl)
  have hg : guardOk paOps a o := guard_none (guard_of ho (by kernel_rfl))
  have v67 : a.eval (.tmp 67) = .string (u1 ++ numS (zig i.a)) := h.done 7 67 (dep hd 7 (by kernel_rfl)) (by kernel_rfl)
  have v73 : a.eval (.tmp 73) = .int .i64 i.b := h.done 13 73 (dep hd 13 (by kernel_rfl)) (by kernel_rfl)
  refine h.calls1 hH ho hown hg (f := 43) (args := #[.string (u1 ++ numS (zig i.a)), .int .i64 i.b]) ?_ ((refInt_any (u1 ++ numS (zig i.a)) hR.z2 i.b hR.lb hR.hb w).mono ?_)
  · rw [exec_call (enters_of Tryz.func43 (by kernel_rfl) rfl) hop]
    simp only [List.map_toArray, List.map_cons, List.map_nil, v67, v73]
    try rfl
  rintro e w' ⟨rfl, hb⟩
  exact ⟨_, rfl, hb, rfl⟩
theorem paSize : paOps.size = 16 := by kernel_rfl
theorem paStep (hR : paRows u1 bx b off k x i w0 t) (l : Array Bool) (a : Act) (w : World) (kk : Nat) (h : At paOps 87 (paTab u1 bx b off k x i w0 t) (paBase u1 bx b off k x i w0 t) (fun w => AbH bx b off k x i w0 w) l a w) (hi : kk < 15) (hd : ∀ o : Oper, paOps[kk]? = some o → ∀ e ∈ o.after.toList, Region.binds .any e = true → l.getD e.on false = true) : wpOp Tryz.prog paOps Q kk (At paOps 87 (paTab u1 bx b off k x i w0 t) (paBase u1 bx b off k x i w0 t) (fun w => AbH bx b off k x i w0 w) (l.setIfInBounds kk true)) a w := by
  match kk, hi, hd with
  | 0, _, hd => exact paSt0 hR h hd
  | 1, _, hd => exact paSt1 hR h hd
  | 2, _, hd => exact paSt2 hR h hd
  | 3, _, hd => exact paSt3 hR h hd
  | 4, _, hd => exact paSt4 hR h hd
  | 5, _, hd => exact paSt5 hR h hd
  | 6, _, hd => exact paSt6 hR h hd
  | 7, _, hd => exact paSt7 hR h hd
  | 8, _, hd => exact paSt8 hR h hd
  | 9, _, hd => exact paSt9 hR h hd
  | 10, _, hd => exact paSt10 hR h hd
  | 11, _, hd => exact paSt11 hR h hd
  | 12, _, hd => exact paSt12 hR h hd
  | 13, _, hd => exact paSt13 hR h hd
  | 14, _, hd => exact paSt14 hR h hd
  | k + 15, hi, _ => omega
end

/-- The operations of the region. -/
noncomputable def pbOps : Array Oper := ((Tryz.f19.body).bind (regionOps 13)).getD #[]
/-- What each of them yields. -/
def pbTab (u1 : ByteArray) (bx : Nat) (x : Ab) (w0 : World) (t : Nat → Value) : Array Cl := #[.val (.string u1),
  .val (.pointer (some ⟨bx, 11, none⟩)),
  .val (.int .i64 x.a),
  .val (.string (u1 ++ numS (zig x.a))),
  .val (.pointer (some ⟨bx, 12, none⟩)),
  .val (.int .i64 x.b),
  .val (.string (u1 ++ numS (zig x.a) ++ numS (zig x.b))),
  .val (.string (u1 ++ numS (zig x.a) ++ numS (zig x.b)))]
/-- The slots that the region does not write. -/
def pbFree : List Nat := [0, 1, 2, 3, 5, 6, 7, 8, 9, 10, 11, 12, 13, 14, 15, 16, 17, 18, 19, 20, 21, 22, 23, 24, 25, 26, 27, 28, 29, 30, 31, 32, 33, 34, 35, 36, 37, 38, 39, 40, 41, 42, 43, 44, 45, 46, 47, 48, 49, 50, 51, 52, 53, 54, 55, 56, 57, 58, 59, 60, 61, 62, 63, 64, 65, 66, 67, 68, 69, 70, 71, 72, 73, 74, 75, 76, 77, 78, 79]
def pbBase (u1 : ByteArray) (bx : Nat) (x : Ab) (w0 : World) (t : Nat → Value) : Nat → Option Value := fun s => if pbFree.contains s then some (t s) else none
theorem pbOwn (u1 : ByteArray) (bx : Nat) (x : Ab) (w0 : World) (t : Nat → Value) : ownSlots pbOps 87 (pbBase u1 bx x w0 t) := own_of (bs := pbFree) (by kernel_rfl) (fun d hd => by unfold pbBase; rw [hd]; rfl)
theorem pbHold (u1 : ByteArray) (bx : Nat) (x : Ab) (w0 : World) (t : Nat → Value) : ∀ w w' : World, (fun w => AbE bx x w0 w) w → Below w.heap.size w w' → (fun w => AbE bx x w0 w) w' := fun w w' h k => h.next k
/-- The closed facts that the region leans on. -/
structure pbRows (u1 : ByteArray) (bx : Nat) (x : Ab) (w0 : World) (t : Nat → Value) : Prop where
  t0 : t 0 = .string u1
  t3 : t 3 = .pointer (some ⟨bx, 0, none⟩)
  z1 : u1.size ≤ 70368744177664
  z2 : (u1 ++ numS (zig x.a)).size ≤ 70368744177664
  la : -9223372036854775808 ≤ x.a
  ha : x.a ≤ 9223372036854775807
  lb : -9223372036854775808 ≤ x.b
  hb : x.b ≤ 9223372036854775807
section
variable {l : Array Bool} {a : Act} {w : World} {Q : Exit → Act → World → Prop} {u1 : ByteArray} {bx : Nat} {x : Ab} {w0 : World} {t : Nat → Value}
theorem pbSt0 (hR : pbRows u1 bx x w0 t) (h : At pbOps 87 (pbTab u1 bx x w0 t) (pbBase u1 bx x w0 t) (fun w => AbE bx x w0 w) l a w) (hd : ∀ o : Oper, pbOps[0]? = some o → ∀ e ∈ o.after.toList, Region.binds .any e = true → l.getD e.on false = true) : wpOp Tryz.prog pbOps Q 0 (At pbOps 87 (pbTab u1 bx x w0 t) (pbBase u1 bx x w0 t) (fun w => AbE bx x w0 w) (l.setIfInBounds 0 true)) a w := by
  have hown := pbOwn u1 bx x w0 t
  have hH := pbHold u1 bx x w0 t
  obtain ⟨o, ho⟩ : ∃ o, pbOps[0]? = some o := Option.isSome_iff_exists.1 (by kernel_rfl)
  have hop : o.op = Op.move (Operand.tmp 0) := op_of ho (by kernel_rfl)
  have hg : guardOk pbOps a o := guard_none (guard_of ho (by kernel_rfl))
  have v0 : a.eval (.tmp 0) = .string u1 := (h.fixed 0 (t 0) rfl).trans hR.t0
  exact h.yields hown hH ho hg (v := .string u1) (w' := w) (by simp only [execOp, hop, v0]; kernel_rfl) (Below.refl _ _) rfl
theorem pbSt1 (hR : pbRows u1 bx x w0 t) (h : At pbOps 87 (pbTab u1 bx x w0 t) (pbBase u1 bx x w0 t) (fun w => AbE bx x w0 w) l a w) (hd : ∀ o : Oper, pbOps[1]? = some o → ∀ e ∈ o.after.toList, Region.binds .any e = true → l.getD e.on false = true) : wpOp Tryz.prog pbOps Q 1 (At pbOps 87 (pbTab u1 bx x w0 t) (pbBase u1 bx x w0 t) (fun w => AbE bx x w0 w) (l.setIfInBounds 1 true)) a w := by
  have hown := pbOwn u1 bx x w0 t
  have hH := pbHold u1 bx x w0 t
  obtain ⟨o, ho⟩ : ∃ o, pbOps[1]? = some o := Option.isSome_iff_exists.1 (by kernel_rfl)
  have hop : o.op = Op.fieldAddr 42 (Operand.tmp 3) 8 := op_of ho (by kernel_rfl)
  have hg : guardOk pbOps a o := guard_none (guard_of ho (by kernel_rfl))
  have v3 : a.eval (.tmp 3) = .pointer (some ⟨bx, 0, none⟩) := (h.fixed 3 (t 3) rfl).trans hR.t3
  exact h.yields hown hH ho hg (v := .pointer (some ⟨bx, 11, none⟩)) (w' := w) (by simp only [execOp, hop, v3]; first | kernel_rfl | go_simp) (Below.refl _ _) rfl
theorem pbSt2 (hR : pbRows u1 bx x w0 t) (h : At pbOps 87 (pbTab u1 bx x w0 t) (pbBase u1 bx x w0 t) (fun w => AbE bx x w0 w) l a w) (hd : ∀ o : Oper, pbOps[2]? = some o → ∀ e ∈ o.after.toList, Region.binds .any e = true → l.getD e.on false = true) : wpOp Tryz.prog pbOps Q 2 (At pbOps 87 (pbTab u1 bx x w0 t) (pbBase u1 bx x w0 t) (fun w => AbE bx x w0 w) (l.setIfInBounds 2 true)) a w := by
  have hown := pbOwn u1 bx x w0 t
  have hH := pbHold u1 bx x w0 t
  obtain ⟨o, ho⟩ : ∃ o, pbOps[2]? = some o := Option.isSome_iff_exists.1 (by kernel_rfl)
  have hop : o.op = Op.load 3 (Operand.tmp 81) := op_of ho (by kernel_rfl)
  have hg : guardOk pbOps a o := guard_none (guard_of ho (by kernel_rfl))
  have v81 : a.eval (.tmp 81) = .pointer (some ⟨bx, 11, none⟩) := h.done 1 81 (dep hd 1 (by kernel_rfl)) (by kernel_rfl)
  have c := h.hold.1
  exact h.yields hown hH ho hg (v := .int .i64 x.a) (w' := w) (by simp only [execOp, hop, v81]; first | go_simp | simp [go_sem, c]) (Below.refl _ _) rfl
theorem pbSt3 (hR : pbRows u1 bx x w0 t) (h : At pbOps 87 (pbTab u1 bx x w0 t) (pbBase u1 bx x w0 t) (fun w => AbE bx x w0 w) l a w) (hd : ∀ o : Oper, pbOps[3]? = some o → ∀ e ∈ o.after.toList, Region.binds .any e = true → l.getD e.on false = true) : wpOp Tryz.prog pbOps Q 3 (At pbOps 87 (pbTab u1 bx x w0 t) (pbBase u1 bx x w0 t) (fun w => AbE bx x w0 w) (l.setIfInBounds 3 true)) a w := by
  have hown := pbOwn u1 bx x w0 t
  have hH := pbHold u1 bx x w0 t
  obtain ⟨o, ho⟩ : ∃ o, pbOps[3]? = some o := Option.isSome_iff_exists.1 (by kernel_rfl)
  have hop : o.op = Op.call { callee := Callee.value (Operand.func 43), args := #[Operand.tmp 80, Operand.tmp 82], argTypes := #[9, 3] } := op_of ho (by kernel_rfl)
  have hg : guardOk pbOps a o := guard_none (guard_of ho (by kernel_rfl))
  have v80 : a.eval (.tmp 80) = .string u1 := h.done 0 80 (dep hd 0 (by kernel_rfl)) (by kernel_rfl)
  have v82 : a.eval (.tmp 82) = .int .i64 x.a := h.done 2 82 (dep hd 2 (by kernel_rfl)) (by kernel_rfl)
  refine h.calls hown hH ho hg (f := 43) (args := #[.string u1, .int .i64 x.a]) ?_ ((refInt_any u1 hR.z1 x.a hR.la hR.ha w).mono ?_)
  · rw [exec_call (enters_of Tryz.func43 (by kernel_rfl) rfl) hop]
    simp only [List.map_toArray, List.map_cons, List.map_nil, v80, v82]
    try rfl
  rintro e w' ⟨rfl, hb⟩
  exact ⟨_, rfl, hb, rfl⟩
theorem pbSt4 (hR : pbRows u1 bx x w0 t) (h : At pbOps 87 (pbTab u1 bx x w0 t) (pbBase u1 bx x w0 t) (fun w => AbE bx x w0 w) l a w) (hd : ∀ o : Oper, pbOps[4]? = some o → ∀ e ∈ o.after.toList, Region.binds .any e = true → l.getD e.on false = true) : wpOp Tryz.prog pbOps Q 4 (At pbOps 87 (pbTab u1 bx x w0 t) (pbBase u1 bx x w0 t) (fun w => AbE bx x w0 w) (l.setIfInBounds 4 true)) a w := by
  have hown := pbOwn u1 bx x w0 t
  have hH := pbHold u1 bx x w0 t
  obtain ⟨o, ho⟩ : ∃ o, pbOps[4]? = some o := Option.isSome_iff_exists.1 (by kernel_rfl)
  have hop : o.op = Op.fieldAddr 42 (Operand.tmp 3) 9 := op_of ho (by kernel_rfl)
  have hg : guardOk pbOps a o := guard_none (guard_of ho (by kernel_rfl))
  have v3 : a.eval (.tmp 3) = .pointer (some ⟨bx, 0, none⟩) := (h.fixed 3 (t 3) rfl).trans hR.t3
  exact h.yields hown hH ho hg (v := .pointer (some ⟨bx, 12, none⟩)) (w' := w) (by simp only [execOp, hop, v3]; first | kernel_rfl | go_simp) (Below.refl _ _) rfl
theorem pbSt5 (hR : pbRows u1 bx x w0 t) (h : At pbOps 87 (pbTab u1 bx x w0 t) (pbBase u1 bx x w0 t) (fun w => AbE bx x w0 w) l a w) (hd : ∀ o : Oper, pbOps[5]? = some o → ∀ e ∈ o.after.toList, Region.binds .any e = true → l.getD e.on false = true) : wpOp Tryz.prog pbOps Q 5 (At pbOps 87 (pbTab u1 bx x w0 t) (pbBase u1 bx x w0 t) (fun w => AbE bx x w0 w) (l.setIfInBounds 5 true)) a w := by
  have hown := pbOwn u1 bx x w0 t
  have hH := pbHold u1 bx x w0 t
  obtain ⟨o, ho⟩ : ∃ o, pbOps[5]? = some o := Option.isSome_iff_exists.1 (by kernel_rfl)
  have hop : o.op = Op.load 3 (Operand.tmp 84) := op_of ho (by kernel_rfl)
  have hg : guardOk pbOps a o := guard_none (guard_of ho (by kernel_rfl))
  have v84 : a.eval (.tmp 84) = .pointer (some ⟨bx, 12, none⟩) := h.done 4 84 (dep hd 4 (by kernel_rfl)) (by kernel_rfl)
  have c := h.hold.2.1
  exact h.yields hown hH ho hg (v := .int .i64 x.b) (w' := w) (by simp only [execOp, hop, v84]; first | go_simp | simp [go_sem, c]) (Below.refl _ _) rfl
theorem pbSt6 (hR : pbRows u1 bx x w0 t) (h : At pbOps 87 (pbTab u1 bx x w0 t) (pbBase u1 bx x w0 t) (fun w => AbE bx x w0 w) l a w) (hd : ∀ o : Oper, pbOps[6]? = some o → ∀ e ∈ o.after.toList, Region.binds .any e = true → l.getD e.on false = true) : wpOp Tryz.prog pbOps Q 6 (At pbOps 87 (pbTab u1 bx x w0 t) (pbBase u1 bx x w0 t) (fun w => AbE bx x w0 w) (l.setIfInBounds 6 true)) a w := by
  have hown := pbOwn u1 bx x w0 t
  have hH := pbHold u1 bx x w0 t
  obtain ⟨o, ho⟩ : ∃ o, pbOps[6]? = some o := Option.isSome_iff_exists.1 (by kernel_rfl)
  have hop : o.op = Op.call { callee := Callee.value (Operand.func 43), args := #[Operand.tmp 83, Operand.tmp 85], argTypes := #[9, 3] } := op_of ho (by kernel_rfl)
  have hg : guardOk pbOps a o := guard_none (guard_of ho (by kernel_rfl))
  have v83 : a.eval (.tmp 83) = .string (u1 ++ numS (zig x.a)) := h.done 3 83 (dep hd 3 (by kernel_rfl)) (by kernel_rfl)
  have v85 : a.eval (.tmp 85) = .int .i64 x.b := h.done 5 85 (dep hd 5 (by kernel_rfl)) (by kernel_rfl)
  refine h.calls hown hH ho hg (f := 43) (args := #[.string (u1 ++ numS (zig x.a)), .int .i64 x.b]) ?_ ((refInt_any (u1 ++ numS (zig x.a)) hR.z2 x.b hR.lb hR.hb w).mono ?_)
  · rw [exec_call (enters_of Tryz.func43 (by kernel_rfl) rfl) hop]
    simp only [List.map_toArray, List.map_cons, List.map_nil, v83, v85]
    try rfl
  rintro e w' ⟨rfl, hb⟩
  exact ⟨_, rfl, hb, rfl⟩
theorem pbSt7 (hR : pbRows u1 bx x w0 t) (h : At pbOps 87 (pbTab u1 bx x w0 t) (pbBase u1 bx x w0 t) (fun w => AbE bx x w0 w) l a w) (hd : ∀ o : Oper, pbOps[7]? = some o → ∀ e ∈ o.after.toList, Region.binds .any e = true → l.getD e.on false = true) : wpOp Tryz.prog pbOps Q 7 (At pbOps 87 (pbTab u1 bx x w0 t) (pbBase u1 bx x w0 t) (fun w => AbE bx x w0 w) (l.setIfInBounds 7 true)) a w := by
  have hown := pbOwn u1 bx x w0 t
  have hH := pbHold u1 bx x w0 t
  obtain ⟨o, ho⟩ : ∃ o, pbOps[7]? = some o := Option.isSome_iff_exists.1 (by kernel_rfl)
  have hop : o.op = Op.assign (Operand.tmp 86) := op_of ho (by kernel_rfl)
  have hg : guardOk pbOps a o := guard_none (guard_of ho (by kernel_rfl))
  have v86 : a.eval (.tmp 86) = .string (u1 ++ numS (zig x.a) ++ numS (zig x.b)) := h.done 6 86 (dep hd 6 (by kernel_rfl)) (by kernel_rfl)
  exact h.yields hown hH ho hg (v := .string (u1 ++ numS (zig x.a) ++ numS (zig x.b))) (w' := w) (by simp only [execOp, hop, v86]; kernel_rfl) (Below.refl _ _) rfl
theorem pbSize : pbOps.size = 8 := by kernel_rfl
theorem pbStep (hR : pbRows u1 bx x w0 t) (l : Array Bool) (a : Act) (w : World) (kk : Nat) (h : At pbOps 87 (pbTab u1 bx x w0 t) (pbBase u1 bx x w0 t) (fun w => AbE bx x w0 w) l a w) (hi : kk < pbOps.size) (hd : ∀ o : Oper, pbOps[kk]? = some o → ∀ e ∈ o.after.toList, Region.binds .any e = true → l.getD e.on false = true) : wpOp Tryz.prog pbOps Q kk (At pbOps 87 (pbTab u1 bx x w0 t) (pbBase u1 bx x w0 t) (fun w => AbE bx x w0 w) (l.setIfInBounds kk true)) a w := by
  rw [pbSize] at hi
  match kk, hi, hd with
  | 0, _, hd => exact pbSt0 hR h hd
  | 1, _, hd => exact pbSt1 hR h hd
  | 2, _, hd => exact pbSt2 hR h hd
  | 3, _, hd => exact pbSt3 hR h hd
  | 4, _, hd => exact pbSt4 hR h hd
  | 5, _, hd => exact pbSt5 hR h hd
  | 6, _, hd => exact pbSt6 hR h hd
  | 7, _, hd => exact pbSt7 hR h hd
  | k + 8, hi, _ => omega
end
end Go.Proofs.YtbeaaieaffdgeaaGreatDoor
end
/- The document's ability. -/
section
namespace Go.Proofs.YtbeaaieaffdgeaaGreatDoor
open Go.RowKit
set_option linter.unusedVariables false
set_option linter.unusedSimpArgs false

/-- A literal of numbers. -/
theorem isL_lit (w : World) (cs : Array Value) (T : List Int) (hc : cs = (T.map (Value.int .i64)).toArray) (n : Nat) (hn : T.length = n) (hm : n ≤ 1000) : IsL (w.alloc (.cells cs 3)) (some ⟨w.heap.size, 0, none⟩) n T := by
  subst hc
  exact (litAt_top w (T.map (Value.int .i64)) 3 w.heap.size rfl).isL n hn hm
theorem refNums_lit (T : List Int) (cs : Array Value) (hc : cs = (T.map (Value.int .i64)).toArray) (hT : ∀ i ∈ T, NmOk i) (n : Nat) (hn : T.length = n) (hm : n ≤ 1000) (s t : ByteArray) (hs : s.size + 9 * n ≤ 70368744177664) (ht : s ++ many nB T ByteArray.empty = t) (w : World) (b : Nat) (hb : b = w.heap.size) :
    Calls Tryz.prog 17 #[.string s, .slice (some ⟨b, 0, none⟩) n n] (w.alloc (.cells cs 3)) fun e w' => e = .returned (.string t) ∧ Below w.heap.size w w' := by
  subst hb
  exact (refNums_any _ _ T hT n hn s t hs ht _ (isL_lit w cs T hc n hn hm)).mono fun e w' ⟨h1, h2⟩ => ⟨h1, (below_alloc1 _ _).trans (h2.mono (by simp))⟩
theorem one_nm {i : Int} (h : NmOk i) : ∀ j ∈ [i], NmOk j := fun j m => by rw [List.mem_singleton.1 m]; exact h
theorem one_cat (s : ByteArray) (i : Int) : s ++ many nB [i] ByteArray.empty = s ++ nB i ByteArray.empty := rfl
theorem nB_len (i : Int) : (nB i ByteArray.empty).size ≤ 9 := nB_size i ByteArray.empty
theorem zig_len (i : Int) : (numS (zig i)).size ≤ 9 := numS_size _
/-- One behind the other: an ability's parts. -/
theorem abB_cat (s : ByteArray) (x : AbT) : s ++ abB x ByteArray.empty =
    s ++ many nB (abHead x) ByteArray.empty ++ many nB x.2.1 ByteArray.empty ++ nB x.2.2.length ByteArray.empty ++ many insB x.2.2 ByteArray.empty ++ nB x.1.op ByteArray.empty ++ numS (zig x.1.a) ++ numS (zig x.1.b) := by
  unfold abB
  rw [many_fore nB_fore (abHead x), many_fore nB_fore x.2.1, nB_fore x.2.2.length, many_fore insB_fore x.2.2, nB_fore x.1.op, sB_fore x.1.a]
  simp only [ByteArray.append_assoc, sB, ByteArray.append_empty]
theorem insB_cat (s : ByteArray) (x : Ins) : s ++ insB x ByteArray.empty = s ++ nB x.op ByteArray.empty ++ numS (zig x.a) ++ numS (zig x.b) := by
  unfold insB
  rw [nB_fore x.op, sB_fore x.a]
  simp only [ByteArray.append_assoc, sB, ByteArray.append_empty]
theorem ins_next (s : ByteArray) (L : List Ins) (k : Nat) (hk : k < L.length) (x : Ins) (hx : x = L[k]) :
    s ++ many insB (L.take k) ByteArray.empty ++ nB x.op ByteArray.empty ++ numS (zig x.a) ++ numS (zig x.b) = s ++ many insB (L.take (k + 1)) ByteArray.empty := by
  rw [List.take_succ_eq_append_getElem hk, many_snoc insB_fore, ← hx, ← ByteArray.append_assoc, insB_cat]
theorem ins_size (L : List Ins) (k : Nat) : (many insB (L.take k) ByteArray.empty).size ≤ 27 * L.length := by
  have h := many_size 27 (L.take k) (fun i _ t => insB_size i t) ByteArray.empty
  have h2 : (L.take k).length ≤ L.length := by rw [List.length_take]; omega
  have h3 : ByteArray.empty.size = 0 := rfl
  omega
/-- A frame as a row of slots. -/
theorem wp_slots {P : Program} {c : Code} {Q : Exit → Act → World → Prop} {R : Array Value} {w : World} (n : Nat) (hn : R.size = n) (h : ∀ t : Nat → Value, t = (fun s => R.getD s undef) → c.wp P Q ⟨((List.range n).map t).toArray, []⟩ w) : c.wp P Q ⟨R, []⟩ w := by
  have h1 := h _ rfl
  rwa [← slots_of R n hn] at h1
theorem row_get (t : Nat → Value) (n s : Nat) (hs : s < n) : (((List.range n).map t).toArray).getD s undef = t s := by
  simp [Array.getD_eq_getD_getElem?, hs]
theorem free_lt {free : List Nat} {n s : Nat} (h : (free.all fun x => decide (x < n)) = true) (hs : free.contains s = true) : s < n := by
  have := List.all_eq_true.1 h s (by simpa using hs)
  simpa using this
set_option maxRecDepth 100000 in
set_option maxHeartbeats 4000000 in
theorem refAbility_any (x : Ab) (T : List Int) (L : List Ins) (hx : AbOk (x, T, L)) (s t : ByteArray) (hs : s.size + 2000 ≤ 70368744177) (ht : s ++ abB (x, T, L) ByteArray.empty = t) (w : World) (h : AbR w x T L) :
    Calls Tryz.prog 19 #[.string s, .agg #[.int .i64 x.k, .int .i64 x.ev, .int .i64 x.wh, .int .i64 x.c0, .int .i64 x.c1, .int .i64 x.c2, .int .i64 x.c3, .bool x.tap, .slice x.ta x.tn x.tc, .slice x.ca x.cn x.cc, .int .i64 x.op, .int .i64 x.a, .int .i64 x.b]] w fun e w' => e = .returned (.string t) ∧ Below w.heap.size w w' := by
  rw [abB_cat] at ht
  obtain ⟨hh, hT1, hL1, hT2, hL2, hop, hA, hB⟩ := hx
  replace hT1 : T.length ≤ 10 := by have : T.length ≤ 2 := hT1; omega
  replace hL1 : L.length ≤ 40 := by have : L.length ≤ 32 := hL1; omega
  change ∀ i ∈ T, NmOk i at hT2
  change ∀ i ∈ L, InsOk i at hL2
  change NmOk x.op at hop
  simp only [abHead] at ht hh
  have h1 := many_size 9 (abHead (x, T, L)) (fun i _ t => nB_size i t) ByteArray.empty
  have h2 := many_size 9 T (fun i _ t => nB_size i t) ByteArray.empty
  have h3 := nB_len (L.length : Int)
  have h4 := many_size 27 L (fun i _ t => insB_size i t) ByteArray.empty
  have h5 := nB_len x.op
  have h6 := zig_len x.a
  have h0 : ByteArray.empty.size = 0 := rfl
  have h9 : (abHead (x, T, L)).length = 9 := rfl
  rw [h9] at h1
  simp only [abHead] at h1
  simp only [h.1.1, h.2.1] at ht hh h1 h3
  obtain ⟨s1, e1⟩ : ∃ s1, s ++ many nB [x.k, x.ev, x.wh, x.c0, x.c1, x.c2, x.c3, flagI x.tap, (x.tn : Int)] ByteArray.empty = s1 := ⟨_, rfl⟩
  obtain ⟨s2, e2⟩ : ∃ s2, s1 ++ many nB T ByteArray.empty = s2 := ⟨_, rfl⟩
  obtain ⟨s3, e3⟩ : ∃ s3, s2 ++ nB (x.cn : Int) ByteArray.empty = s3 := ⟨_, rfl⟩
  obtain ⟨s4, e4⟩ : ∃ s4, s3 ++ many insB L ByteArray.empty = s4 := ⟨_, rfl⟩
  obtain ⟨s5, e5⟩ : ∃ s5, s4 ++ nB x.op ByteArray.empty = s5 := ⟨_, rfl⟩
  rw [e1, e2, e3, e4, e5] at ht
  have z1 : s1.size ≤ s.size + 81 := by rw [← e1, ByteArray.size_append]; omega
  have z2 : s2.size ≤ s1.size + 90 := by rw [← e2, ByteArray.size_append]; omega
  have z3 : s3.size ≤ s2.size + 9 := by rw [← e3, ByteArray.size_append]; omega
  have z4 : s4.size ≤ s3.size + 1080 := by rw [← e4, ByteArray.size_append]; omega
  have z5 : s5.size ≤ s4.size + 9 := by rw [← e5, ByteArray.size_append]; omega
  have z6 : (s5 ++ numS (zig x.a)).size ≤ s5.size + 9 := by rw [ByteArray.size_append]; omega
  clear h0 h1 h2 h3 h4 h5 h6 h9
  have HZ := Lib.hid (⟨hs, z1, z2, z3, z4, z5, z6⟩ : s.size + 2000 ≤ 70368744177 ∧ s1.size ≤ s.size + 81 ∧ s2.size ≤ s1.size + 90 ∧ s3.size ≤ s2.size + 9 ∧ s4.size ≤ s3.size + 1080 ∧ s5.size ≤ s4.size + 9 ∧ (s5 ++ numS (zig x.a)).size ≤ s5.size + 9)
  have HE1 := Lib.hid e1
  have HE2 := Lib.hid e2
  have HE3 := Lib.hid e3
  have HE4 := Lib.hid e4
  have HE5 := Lib.hid e5
  have HE6 := Lib.hid ht
  have HH := Lib.hid hh
  have HT2 := Lib.hid hT2
  have HL2 := Lib.hid hL2
  have HL1 := Lib.hid hL1
  have HT1 := Lib.hid hT1
  have HOP := Lib.hid hop
  have HAB := Lib.hid (show In64 x.a ∧ In64 x.b from ⟨hA, hB⟩)
  have HTn := Lib.hid h.1.1
  have HLn := Lib.hid h.2.1
  have hb := below_alloc1 w (.cells #[.int .i64 x.k, .int .i64 x.ev, .int .i64 x.wh, .int .i64 x.c0, .int .i64 x.c1, .int .i64 x.c2, .int .i64 x.c3, .bool x.tap, .slice x.ta x.tn x.tc, .slice x.ca x.cn x.cc, .int .i64 x.op, .int .i64 x.a, .int .i64 x.b] 42)
  have HR := Lib.hid (h.next hb)
  have HX := Lib.hid (boxA_new w x 42)
  have HB := Lib.hid hb
  have hc1 := h.1.2.1
  have hc2 := h.2.2.1
  have hc3 := h.1.2.2.1
  have hc4 := h.2.2.2.1
  rw [h.1.1] at hc1
  rw [h.2.1] at hc2
  have hcn : x.cn ≤ 40 := by rw [← HLn.out]; exact hL1
  clear e1 e2 e3 e4 e5 ht hh hT1 hL1 hT2 hL2 hop hA hB h hb hs z1 z2 z3 z4 z5 z6
  have HN := Lib.hid (show 0 ≤ x.cn by omega)
  rcases htap : x.tap with _ | _
  all_goals
    rw [htap] at HR HX HB HE1 HH
    go_enter Tryz.func19, Tryz.ntmps19
    go_wp2_with fail
    refine (refNums_lit _ _ rfl HH.out 9 rfl (by omega) s s1 (by have := HZ.out.1; omega) HE1.out _ _ (by simp)).mono ?_
    rintro e w1 ⟨rfl, hb⟩
    have HX1 := Lib.hid (HX.out.next hb)
    have HR1 := Lib.hid (HR.out.next hb)
    have HB1 := Lib.hid (below_then' HB.out hb HB.out.size)
    clear hb HX HR HB
    obtain ⟨q0, q1, q2, q3, q4, q5, q6, q7, q8, q9, q10, q11, q12⟩ := HX1.out.cells
    clear q0 q1 q2 q3 q4 q5 q6 q7 q9 q10 q11 q12
    go_wp2_with fail
    clear q8
    refine (refNums_any _ _ T HT2.out _ HTn.out s1 s2 (by have := HZ.out; have := HT1.out; have := HTn.out; omega) HE2.out _ HR1.out.1.2).mono ?_
    rintro e w2 ⟨rfl, hb⟩
    have HX2 := Lib.hid (HX1.out.next hb)
    have HR2 := Lib.hid (HR1.out.next hb)
    have HB2 := Lib.hid (below_then' HB1.out hb HB1.out.size)
    clear hb HX1 HR1 HB1
    obtain ⟨q0, q1, q2, q3, q4, q5, q6, q7, q8, q9, q10, q11, q12⟩ := HX2.out.cells
    clear q0 q1 q2 q3 q4 q5 q6 q7 q8 q10 q11 q12
    go_wp2_with fail
    clear q9
    refine (refNums_lit [(x.cn : Int)] _ rfl (one_nm (by unfold NmOk; omega)) 1 rfl (by omega) s2 s3 (by have := HZ.out; have := HT1.out; have := HTn.out; omega) HE3.out _ _ rfl).mono ?_
    rintro e w3 ⟨rfl, hb⟩
    have HX3 := Lib.hid (HX2.out.next hb)
    have HR3 := Lib.hid (HR2.out.next hb)
    have HB3 := Lib.hid (below_then' HB2.out hb HB2.out.size)
    clear hb HX2 HR2 HB2
    obtain ⟨q0, q1, q2, q3, q4, q5, q6, q7, q8, q9, q10, q11, q12⟩ := HX3.out.cells
    clear q0 q1 q2 q3 q4 q5 q6 q7 q8 q10 q11 q12
    go_wp2_with fail
    clear q9
    go_loopw [0, 6] (fun q0 q wr => ∃ k : Nat, q0 = .string (s3 ++ many insB (L.take k) ByteArray.empty) ∧ q = .int .i64 (k : Int) ∧ k ≤ x.cn ∧ Below w3.heap.size w3 wr) (fun _ q _ => x.cn - (intOf q).toNat)
    case atStart => exact ⟨0, by simp [many], rfl, Nat.zero_le _, Below.refl _ _⟩
    case round =>
      obtain ⟨k, rfl, rfl, hk, hb⟩ := hrel
      have HW := Lib.hid hb
      clear hb
      have HXr := Lib.hid (HX3.out.next HW.out)
      have HRr := Lib.hid (HR3.out.next HW.out)
      obtain ⟨q0, q1, q2, q3, q4, q5, q6, q7, q8, q9, q10, q11, q12⟩ := HXr.out.cells
      clear q0 q1 q2 q3 q4 q5 q6 q7 q8 q10 q11 q12
      by_cases hlt : k < x.cn
      · obtain ⟨b, off, i, hi, hca, x0, x1, x2⟩ := HRr.out.2.2.at k (by rw [HLn.out]; exact hlt)
        have HIo := Lib.hid (HL2.out i (by rw [hi]; exact List.getElem_mem _))
        have HI := Lib.hid (ins_next s3 L k (by rw [HLn.out]; exact hlt) i hi)
        have HU := Lib.hid (show (s3 ++ many insB (L.take k) ByteArray.empty).size ≤ s3.size + 1080 by
          rw [ByteArray.size_append]
          have h1 := ins_size L k
          have h2 := HL1.out
          omega)
        have HIe := Lib.hid hi
        have HCa := Lib.hid hca
        clear hi x1 x2
        rw [hca] at q9
        generalize s3 ++ many insB (L.take k) ByteArray.empty = u at *
        go_wp2_with fail
        clear q9 x0
        refine (refNums_lit [i.op] _ rfl (one_nm HIo.out.1) 1 rfl (by omega) u (u ++ nB i.op ByteArray.empty) (by have := HZ.out; have := HU.out; omega) rfl _ _ rfl).mono ?_
        rintro e w4 ⟨rfl, hb⟩
        have HX4 := Lib.hid (HXr.out.next hb)
        have HR4 := Lib.hid (HRr.out.next hb)
        have HW4 := Lib.hid (below_then' HW.out hb HW.out.size)
        clear hb
        obtain ⟨q0, q1, q2, q3, q4, q5, q6, q7, q8, q9, q10, q11, q12⟩ := HX4.out.cells
        clear q0 q1 q2 q3 q4 q5 q6 q7 q8 q10 q11 q12
        rw [hca] at q9
        obtain ⟨b', off', i', hi', hca', x0, x1, x2⟩ := HR4.out.2.2.at k (by rw [HLn.out]; exact hlt)
        obtain rfl : i' = i := hi'.trans HIe.out.symm
        obtain ⟨rfl, rfl⟩ : b = b' ∧ off = off' := by have := HCa.out.symm.trans hca'; simpa using this
        have hbz : b < w4.heap.size := by
          rcases HR4.out.2.2.2.2 with h0 | ⟨b', off', h1, h2, _⟩
          · have := HLn.out; omega
          · rw [hca'] at h1
            obtain ⟨rfl, rfl⟩ : b = b' ∧ off = off' := by simpa using h1
            exact h2
        clear hi' hca' hca x0
        have HU1 := Lib.hid (show (u ++ nB i'.op ByteArray.empty).size ≤ 70368744177664 - 100 by
          have h1 := nB_len i'.op
          have h2 := HZ.out
          have h3 := HU.out
          rw [ByteArray.size_append]
          omega)
        have HI2 := Lib.hid (show u ++ nB i'.op ByteArray.empty ++ numS (zig i'.a) ++ numS (zig i'.b) = s3 ++ many insB (L.take (k + 1)) ByteArray.empty from HI.out)
        clear HI HU
        generalize u ++ nB i'.op ByteArray.empty = u1 at *
        go_wp2_with fail
        rename_i KK hKK
        have HC := Lib.hid (show AbH w.heap.size b off k x i' w4 w4 from ⟨q9, x1, x2, HX4.out.1, hbz, Below.refl _ _⟩)
        clear q9 x1 x2 hbz
        refine wp_slots 87 rfl ?_
        intro t ht
        have HRo := Lib.hid (show paRows u1 w.heap.size b off k x i' w4 t from ⟨by rw [ht]; rfl, by rw [ht]; rfl, by rw [ht]; rfl, hlt, by have := HU1.out; omega, by rw [ByteArray.size_append]; have h1 := zig_len i'.a; have h2 := HU1.out; omega, HIo.out.2.1.1, HIo.out.2.1.2, HIo.out.2.2.1, HIo.out.2.2.2⟩)
        refine region_last (m := 15) (ops := paOps) (n := 87) (tab := paTab u1 w.heap.size b off k x i' w4 t) (base := paBase u1 w.heap.size b off k x i' w4 t) (H := fun W => AbH w.heap.size b off k x i' w4 W) (by kernel_rfl) (earlier_of (by kernel_rfl)) paSize (fun j hj => (List.all_eq_true.1 (show ((List.range 15).all fun j => depOn paOps 15 j) = true by kernel_rfl)) j (List.mem_range.2 hj)) ?start (fun l a w' i h hi hd => paStep HRo.out l a w' i h hi hd) ?last
        case start =>
          refine At.begins (by simp) rfl (HC.out.next (Below.refl _ _).drew) fun s v hs => ?_
          unfold paBase at hs
          split at hs
          · rename_i hs1
            cases hs
            exact row_get t 87 s (free_lt (free := paFree) (by kernel_rfl) hs1)
          · cases hs
        case last =>
          intro l a w' h hall
          obtain ⟨o, ho⟩ : ∃ o, paOps[15]? = some o := Option.isSome_iff_exists.1 (by kernel_rfl)
          have hop : o.op = Op.assign (Operand.tmp 74) := op_of ho (by kernel_rfl)
          have hg : o.guard = none := guard_of ho (by kernel_rfl)
          have hdst : o.dst = some 0 := by have : (paOps[15]?).bind (·.dst) = some 0 := by kernel_rfl
                                           rw [ho] at this; simpa using this
          have v74 : a.eval (.tmp 74) = .string (u1 ++ numS (zig i'.a) ++ numS (zig i'.b)) := h.done 14 74 (hall 14 (by omega)) (by kernel_rfl)
          refine wpOp_value ho hg (v := .string (u1 ++ numS (zig i'.a) ++ numS (zig i'.b))) (w' := w') (by simp only [execOp, hop, v74]; kernel_rfl) ?_
          rw [hdst]
          obtain ⟨tm, df⟩ := a
          have hdf : df = [] := h.defers
          have hsz : tm.size = 87 := h.tmps
          have hfx : ∀ s, paFree.contains s = true → tm.getD s undef = t s := fun s hs => h.fixed s (t s) (by unfold paBase; rw [if_pos hs])
          have HJ := Lib.hid h.hold
          clear h hall v74
          obtain ⟨v2, hv2⟩ : ∃ v2 : Nat → Value, ∀ s, tm.getD s undef = v2 s := ⟨_, fun _ => rfl⟩
          have e := slots_free tm 87 hsz paFree t v2 hfx hv2
          clear hfx hv2 hsz
          have e6 : t 6 = .int .i64 (k : Int) := HRo.out.t6
          have e3 : t 3 = .pointer (some ⟨w.heap.size, 0, none⟩) := HRo.out.t3
          have e2 : tm = #[t 0, t 1, t 2, t 3, t 4, t 5, t 6, t 7, t 8, t 9, t 10, t 11, t 12, t 13, t 14, t 15, t 16, t 17, t 18, t 19, t 20, t 21, t 22, t 23, t 24, t 25, t 26, t 27, t 28, t 29, t 30, t 31, t 32, t 33, t 34, t 35, t 36, t 37, t 38, t 39, t 40, t 41, t 42, t 43, t 44, t 45, t 46, t 47, t 48, t 49, t 50, t 51, t 52, t 53, t 54, t 55, t 56, t 57, t 58, t 59, v2 60, v2 61, v2 62, v2 63, v2 64, v2 65, v2 66, v2 67, v2 68, v2 69, v2 70, v2 71, v2 72, v2 73, v2 74, t 75, t 76, t 77, t 78, t 79, t 80, t 81, t 82, t 83, t 84, t 85, t 86] := e.trans (by kernel_rfl)
          rw [e6, e3] at e2
          dsimp only at e2
          subst e2 hdf
          clear e e6 e3
          refine hKK _ _ ?_
          have HEn := Lib.hid (below_then' HW4.out HJ.out.2.2.2.2.2 HW4.out.size)
          go_wp2_with fail
          subst ht
          go_roundw
          case rel => exact ⟨k + 1, congrArg Value.string HI2.out, by go_num, by omega, HEn.out⟩
          case measure => simp [intOf]; omega
      · have HQ := Lib.hid (show s3 ++ many insB (L.take k) ByteArray.empty = s4 by rw [List.take_of_length_le (by rw [HLn.out]; omega)]; exact HE4.out)
        obtain ⟨r0, r1, r2, r3, r4, r5, r6, r7, r8, r9, q10, r11, r12⟩ := HXr.out.cells
        clear r0 r1 r2 r3 r4 r5 r6 r7 r8 r9 r11 r12
        rw [HQ.out]
        go_wp2_with fail
        clear q9 q10
        refine (refNums_lit [x.op] _ rfl (one_nm HOP.out) 1 rfl (by omega) s4 s5 (by have := HZ.out; omega) HE5.out _ _ rfl).mono ?_
        rintro e w4 ⟨rfl, hb⟩
        have HX4 := Lib.hid (HXr.out.next hb)
        have HB4 := Lib.hid (below_then' HB3.out (below_then' HW.out hb HW.out.size) HB3.out.size)
        clear hb
        obtain ⟨r0, r1, r2, r3, r4, r5, r6, r7, r8, r9, r10, q11, q12⟩ := HX4.out.cells
        clear r0 r1 r2 r3 r4 r5 r6 r7 r8 r9 r10
        go_wp2_with fail
        rename_i KK hKK
        have HC := Lib.hid (show AbE w.heap.size x w4 w4 from ⟨q11, q12, HX4.out.1, Below.refl _ _⟩)
        clear q11 q12
        refine wp_slots 87 rfl ?_
        intro t' ht
        have HRo := Lib.hid (show pbRows s5 w.heap.size x w4 t' from ⟨by rw [ht]; rfl, by rw [ht]; rfl, by have := HZ.out; omega, by have := HZ.out; omega, HAB.out.1.1, HAB.out.1.2, HAB.out.2.1, HAB.out.2.2⟩)
        refine region_inv (ops := pbOps) (n := 87) (tab := pbTab s5 w.heap.size x w4 t') (base := pbBase s5 w.heap.size x w4 t') (H := fun W => AbE w.heap.size x w4 W) (by kernel_rfl) (earlier_of (by kernel_rfl)) ?start (fun l a w' i h hi hd => pbStep HRo.out l a w' i h hi hd) ?fin
        case start =>
          refine At.begins (by simp) rfl (HC.out.next (Below.refl _ _).drew) fun s v hs => ?_
          unfold pbBase at hs
          split at hs
          · rename_i hs1
            cases hs
            exact row_get t' 87 s (free_lt (free := pbFree) (by kernel_rfl) hs1)
          · cases hs
        case fin =>
          intro l a w' h hall
          have v4 : a.eval (.tmp 4) = .string (s5 ++ numS (zig x.a) ++ numS (zig x.b)) := h.done 7 4 (hall 7 (by rw [pbSize]; omega)) (by kernel_rfl)
          obtain ⟨tm, df⟩ := a
          have hdf : df = [] := h.defers
          have hsz : tm.size = 87 := h.tmps
          have hfx : ∀ s, pbFree.contains s = true → tm.getD s undef = t' s := fun s hs => h.fixed s (t' s) (by unfold pbBase; rw [if_pos hs])
          have HJ := Lib.hid h.hold
          clear h hall
          obtain ⟨v2, hv2⟩ : ∃ v2 : Nat → Value, ∀ s, tm.getD s undef = v2 s := ⟨_, fun _ => rfl⟩
          have e := slots_free tm 87 hsz pbFree t' v2 hfx hv2
          have e4 : v2 4 = .string t := (hv2 4).symm.trans (v4.trans (congrArg Value.string HE6.out))
          clear hfx hv2 hsz v4
          have e2 : tm = #[t' 0, t' 1, t' 2, t' 3, v2 4, t' 5, t' 6, t' 7, t' 8, t' 9, t' 10, t' 11, t' 12, t' 13, t' 14, t' 15, t' 16, t' 17, t' 18, t' 19, t' 20, t' 21, t' 22, t' 23, t' 24, t' 25, t' 26, t' 27, t' 28, t' 29, t' 30, t' 31, t' 32, t' 33, t' 34, t' 35, t' 36, t' 37, t' 38, t' 39, t' 40, t' 41, t' 42, t' 43, t' 44, t' 45, t' 46, t' 47, t' 48, t' 49, t' 50, t' 51, t' 52, t' 53, t' 54, t' 55, t' 56, t' 57, t' 58, t' 59, t' 60, t' 61, t' 62, t' 63, t' 64, t' 65, t' 66, t' 67, t' 68, t' 69, t' 70, t' 71, t' 72, t' 73, t' 74, t' 75, t' 76, t' 77, t' 78, t' 79, v2 80, v2 81, v2 82, v2 83, v2 84, v2 85, v2 86] := e.trans (by kernel_rfl)
          rw [e4] at e2
          dsimp only at e2
          subst e2 hdf
          clear e e4
          refine hKK _ _ ?_
          have HEn := Lib.hid (below_then' HB4.out HJ.out.2.2.2 HB4.out.size)
          go_wp2_with fail
          go_ret
          exact ⟨rfl, HEn.out⟩
end Go.Proofs.YtbeaaieaffdgeaaGreatDoor
end
/- The document's tokens. -/
section
namespace Go.Proofs.YtbeaaieaffdgeaaGreatDoor
open Go.RowKit
set_option linter.unusedVariables false
set_option linter.unusedSimpArgs false

set_option maxRecDepth 100000 in
set_option maxHeartbeats 4000000 in
theorem refTokens_any (a : Option Addr) (c : Nat) (L : List CdT) (n : Nat) (hn : L.length = n) (a2 : Option Addr) (c2 : Nat) (C : List Ins) (m : Nat) (hm : C.length = m) (hC : TokIn n C) (r : Bool) (hr : tokB L C = r) (w : World) (h : IsP w a c L) (h2 : IsC w a2 c2 C) :
    Calls Tryz.prog 23 #[.slice a n c, .slice a2 m c2] w fun e w' => e = .returned (.bool r) ∧ w = w' := by
  rw [tokB_eq] at hr
  have HR := Lib.hid hr
  have HP := Lib.hid h
  have HL := Lib.hid h2
  have HC := Lib.hid hC
  have hcap := h.1
  have hcm := h.2.1
  rw [hn] at hcap
  have hcap2 := h2.1
  have hcm2 := h2.2.1
  rw [hm] at hcap2
  have HN := Lib.hid hn
  have HM := Lib.hid hm
  clear hr h h2 hn hm hC
  go_enter Tryz.func23, Tryz.ntmps23
  go_wp2_with fail
  go_loop [5] (fun q => ∃ k : Nat, q = .int .i64 (k : Int) ∧ k ≤ m ∧ ∀ j (h : j < C.length), j < k → tok1 L C[j] = true) (fun q => m - (intOf q).toNat)
  case atStart => exact ⟨0, rfl, Nat.zero_le _, fun j _ hj => by omega⟩
  case round =>
    obtain ⟨k, rfl, hk, hT⟩ := hrel
    have HT := Lib.hid hT
    clear hT
    by_cases hlt : k < m
    · obtain ⟨b, off, x, hx, hta, x0, x1, x2⟩ := HL.out.at k (by rw [HM.out]; exact hlt)
      have HX := Lib.hid hx
      have HNx := Lib.hid (show (hone : tok1 L x = true) → ∀ j (h : j < C.length), j < k + 1 → tok1 L C[j] = true from fun hone j h1 h2 => by
        by_cases hjk : j = k
        · subst hjk; rw [← HX.out]; exact hone
        · exact HT.out j h1 (by omega))
      have HNo := Lib.hid (show (hone : tok1 L x = false) → r = false from fun hone => by
        rw [← HR.out]
        refine Bool.eq_false_iff.2 fun hall => ?_
        have := List.all_eq_true.1 hall _ (List.getElem_mem (by rw [HM.out]; exact hlt))
        rw [← HX.out, hone] at this
        cases this)
      clear hx x1
      rw [hta] at *
      by_cases hop : x.op = 21
      · obtain ⟨h0, h1⟩ := HC.out x (by rw [HX.out]; exact List.getElem_mem _) hop
        obtain ⟨q, hq⟩ : ∃ q : Nat, x.b = (q : Int) := ⟨x.b.toNat, by omega⟩
        have hqn : q < n := by omega
        obtain ⟨b2, off2, y, A, hy, _, hpa, _, y0, y1, y2, y3, y4, y5, y6, y7, y8, y9, y10⟩ := HP.out.at q (by rw [HN.out]; exact hqn)
        have HT1 := Lib.hid (show tok1 L x = (y.k == 2) by
          unfold tok1
          rw [hop, hq, Int.toNat_natCast, List.getElem?_eq_getElem (by rw [HN.out]; exact hqn), ← hy]
          rfl)
        rw [hop] at x0
        rw [hq] at x2
        clear h0 h1 y0 y2 y3 y4 y5 y6 y7 y8 y9 y10 hy hop
        rw [hpa] at *
        by_cases hk2 : y.k = 2
        · have HV := Lib.hid (HNx.out (by rw [HT1.out, hk2]; rfl))
          rw [hk2] at y1
          go_wp2_with fail
          go_round
          case rel => exact ⟨k + 1, by go_num, by omega, HV.out⟩
          case measure => simp [intOf]; omega
        · have HV := Lib.hid (HNo.out (by rw [HT1.out]; simpa using hk2))
          go_wp2_with fail
          go_ret
          exact ⟨bool_ret HV.out.symm, rfl⟩
      · have HV := Lib.hid (HNx.out (by unfold tok1; simp [hop]))
        go_wp2_with fail
        go_round
        case rel => exact ⟨k + 1, by go_num, by omega, HV.out⟩
        case measure => simp [intOf]; omega
    · have HV := Lib.hid (show r = true by
        rw [← HR.out]
        refine List.all_eq_true.2 fun y hy => ?_
        obtain ⟨j, hj, rfl⟩ := List.getElem_of_mem hy
        exact HT.out j hj (by have := HM.out; omega))
      go_wp2_with fail
      go_ret
      exact ⟨bool_ret HV.out.symm, rfl⟩
end Go.Proofs.YtbeaaieaffdgeaaGreatDoor
end
/- The document's Check of a pool. -/
section
namespace Go.Proofs.YtbeaaieaffdgeaaGreatDoor
open Go.RowKit
set_option linter.unusedVariables false
set_option linter.unusedSimpArgs false

set_option maxRecDepth 100000 in
set_option maxHeartbeats 8000000 in
theorem refPool_any (a : Option Addr) (c : Nat) (L : List CdT) (n : Nat) (hn : L.length = n) (r : Int) (hr : chkP L = r) (hok : ∀ p ∈ L, p.1.nm.size ≤ maxLen) (w : World) (h : IsP w a c L) :
    Calls Tryz.prog 9 #[.slice a n c] w fun e w' => e = .returned (.int .i64 r) ∧ Below w.heap.size w w' := by
  have HR := Lib.hid hr
  have HP := Lib.hid h
  have HO := Lib.hid hok
  have hcap := h.1
  have hcm := h.2.1
  rw [hn] at hcap
  have HN := Lib.hid hn
  clear hr h hok hn
  by_cases h0 : n = 0
  · have HV := Lib.hid (show r = 2 by rw [← HR.out, chkP, if_pos (by rw [HN.out]; exact h0)])
    subst h0
    go_enter Tryz.func9, Tryz.ntmps9
    go_wp2_with fail
    go_ret
    exact ⟨int_ret HV.out.symm, Below.refl _ _⟩
  by_cases h40 : 40 < n
  · have HV := Lib.hid (show r = 3 by rw [← HR.out, chkP, if_neg (by rw [HN.out]; exact h0), if_pos (by rw [HN.out]; exact h40)])
    go_enter Tryz.func9, Tryz.ntmps9
    go_wp2_with fail
    go_ret
    exact ⟨int_ret HV.out.symm, Below.refl _ _⟩
  have HL0 := Lib.hid (show L.length ≠ 0 by rw [HN.out]; exact h0)
  have HL40 := Lib.hid (show L.length ≤ 40 by rw [HN.out]; omega)
  go_enter Tryz.func9, Tryz.ntmps9
  go_wp2_with fail
  go_loopw [3] (fun q wr => ∃ k : Nat, q = .int .i64 (k : Int) ∧ k ≤ n ∧ (∀ j (hj : j < L.length), j < k → inB L L[j] = true) ∧ Below w.heap.size w wr) (fun q _ => n - (intOf q).toNat)
  case atStart => exact ⟨0, rfl, Nat.zero_le _, fun j _ hj => by omega, Below.refl _ _⟩
  case round =>
    obtain ⟨k, rfl, hk, hT, hb⟩ := hrel
    have HT := Lib.hid hT
    have HB := Lib.hid hb
    clear hT hb
    by_cases hlt : k < n
    · obtain ⟨b, off, y, A, hy, hcd, hpa, hbz, y0, y1, y2, y3, y4, y5, y6, y7, y8, y9, y10⟩ := (HP.out.next HB.out).at k (by rw [HN.out]; exact hlt)
      have HY := Lib.hid hy
      have HD := Lib.hid hcd
      have hyo := HO.out _ (show (y, A) ∈ L by rw [hy]; exact List.getElem_mem _)
      have HYo := Lib.hid (show y.nm.size ≤ maxLen from hyo)
      have HI := Lib.hid (show inB L (y, A) = ((chkC y A n == 0) && A.all fun t => tokB L t.2.2) by rw [inB, HN.out])
      have HBad := Lib.hid (show inB L (y, A) = false → r = 10 from fun hf => by
        rw [← HR.out]
        exact chkP_bad HL0.out HL40.out k (by rw [HN.out]; exact hlt) (by rw [← HY.out]; exact hf))
      clear hy hcd hyo
      subst hpa
      obtain ⟨rc, hrc⟩ : ∃ rc, chkC y A n = rc := ⟨_, rfl⟩
      have HRc := Lib.hid hrc
      have HRf := Lib.hid ((chk_eq y A n HD.out.1).trans hrc)
      clear hrc
      go_wp2_with fail
      refine (refCardCheck_any y A n rc HRf.out _ HD.out HYo.out).mono ?_
      rintro e w1 ⟨rfl, hb⟩
      have HB1 := Lib.hid (below_then' HB.out hb HB.out.size)
      have HD1 := Lib.hid (HD.out.next hb)
      have z10 := (hb.cell (p := ⟨b, off + k * 11 + 10, none⟩) hbz).trans y10
      clear hb y0 y1 y2 y3 y4 y5 y6 y7 y8 y9 y10
      by_cases h0c : rc = 0
      · subst h0c
        have hac := HD1.out.2.1
        have ham := HD1.out.2.2.1
        rw [HD1.out.1] at hac
        have HTk := Lib.hid (tok_in y A n HRc.out (fun t m => (HD.out.2.2.2.1 t m).2.1))
        go_wp2_with fail
        have HP1 := Lib.hid (HP.out.next HB1.out)
        go_loop [4] (fun q => ∃ j : Nat, q = .int .i64 (j : Int) ∧ j ≤ y.an ∧ ∀ i (h : i < A.length), i < j → tokB L A[i].2.2 = true) (fun q => y.an - (intOf q).toNat)
        case atStart => exact ⟨0, rfl, Nat.zero_le _, fun j _ hj => by omega⟩
        case round =>
          obtain ⟨j, rfl, hj, hTA⟩ := hrel
          have HTA := Lib.hid hTA
          clear hTA
          by_cases hlj : j < y.an
          · obtain ⟨b', off', x, T', L', hxe, hab, hxa, hbz', a0, a1, a2, a3, a4, a5, a6, a7, a8, a9, a10, a11, a12⟩ := HD1.out.2.at j (by rw [HD1.out.1]; exact hlj)
            have HXe := Lib.hid hxe
            have HAb := Lib.hid hab
            have HTj := Lib.hid (HTk.out (x, T', L') (by rw [hxe]; exact List.getElem_mem _))
            clear hxe hab a0 a1 a2 a3 a4 a5 a6 a7 a8 a10 a11 a12
            obtain ⟨rt, hrt⟩ : ∃ rt, tokB L L' = rt := ⟨_, rfl⟩
            have HRt := Lib.hid hrt
            clear hrt
            rw [hxa] at z10
            clear hxa
            go_wp2_with fail
            refine (refTokens_any _ c L n HN.out x.ca x.cc L' x.cn HAb.out.2.1 HTj.out rt HRt.out _ HP1.out HAb.out.2.2).mono ?_
            rintro e w' ⟨rfl, rfl⟩
            cases rt
            · have HV := Lib.hid (HBad.out (by
                rw [HI.out, HRc.out]
                have hf : (A.all fun t => tokB L t.2.2) = false := by
                  refine Bool.eq_false_iff.2 fun hall => ?_
                  have := List.all_eq_true.1 hall _ (List.getElem_mem (by rw [HD1.out.1]; exact hlj))
                  rw [← HXe.out] at this
                  have h2 := HRt.out
                  rw [show tokB L L' = true from this] at h2
                  cases h2
                rw [hf, Bool.and_false]))
              go_wp2_with fail
              go_ret
              exact ⟨int_ret HV.out.symm, HB1.out⟩
            · go_wp2_with fail
              go_round
              case rel => exact ⟨j + 1, by go_num, by omega, fun i h1 h2 => by
                by_cases hij : i = j
                · subst hij; rw [← HXe.out]; exact HRt.out
                · exact HTA.out i h1 (by omega)⟩
              case measure => simp [intOf]; omega
          · have HGo := Lib.hid (show inB L (y, A) = true by
              rw [HI.out, HRc.out]
              have hf : (A.all fun t => tokB L t.2.2) = true := by
                refine List.all_eq_true.2 fun t ht => ?_
                obtain ⟨i, hi, rfl⟩ := List.getElem_of_mem ht
                exact HTA.out i hi (by have := HD1.out.1; omega)
              rw [hf]
              rfl)
            go_wp2_with fail
            go_roundw
            case rel => exact ⟨k + 1, by go_num, by omega, fun j h1 h2 => by
              by_cases hjk : j = k
              · subst hjk; rw [← HY.out]; exact HGo.out
              · exact HT.out j h1 (by omega), HB1.out⟩
            case measure => simp [intOf]; omega
      · have HV := Lib.hid (HBad.out (by rw [HI.out, HRc.out]; simp [h0c]))
        go_wp2_with fail
        go_ret
        exact ⟨int_ret HV.out.symm, HB1.out⟩
    · have HGd := Lib.hid (show r = if twiceB L then 11 else 0 by
        rw [← HR.out]
        exact chkP_good HL0.out HL40.out (fun j hj => HT.out j hj (by have := HN.out; omega)))
      go_wp2_with fail
      generalize wr = wA at *
      go_loopw [5] (fun q wr => ∃ i : Nat, q = .int .i64 (i : Int) ∧ i ≤ n ∧ (∀ i' (h : i' < L.length), i' < i → ∀ k' (hk : k' < i'), L[i'].1.nm ≠ L[k'].1.nm) ∧ Below w.heap.size w wr) (fun q _ => n - (intOf q).toNat)
      case atStart => exact ⟨0, rfl, Nat.zero_le _, fun j _ hj => by omega, HB.out⟩
      case round =>
        obtain ⟨i, rfl, hi, hU, hb⟩ := hrel
        have HU := Lib.hid hU
        have HB2 := Lib.hid hb
        clear hU hb
        by_cases hli : i < n
        · go_wp2_with fail
          generalize wr = wC at *
          go_loopw [6] (fun q wr => ∃ k2 : Nat, q = .int .i64 (k2 : Int) ∧ k2 ≤ i ∧ (∀ k' (hk : k' < L.length), k' < k2 → (L[i]'(by rw [HN.out]; exact hli)).1.nm ≠ L[k'].1.nm) ∧ Below w.heap.size w wr) (fun q _ => i - (intOf q).toNat)
          case atStart => exact ⟨0, rfl, Nat.zero_le _, fun j _ hj => by omega, HB2.out⟩
          case round =>
            obtain ⟨k2, rfl, hk2, hU2, hb⟩ := hrel
            have HU2 := Lib.hid hU2
            have HB3 := Lib.hid hb
            clear hU2 hb
            by_cases hlk : k2 < i
            · obtain ⟨b, off, y, A, hy, _, hpa, _, y0, y1, y2, y3, y4, y5, y6, y7, y8, y9, y10⟩ := (HP.out.next HB3.out).at i (by rw [HN.out]; exact hli)
              obtain ⟨b', off', z, A', hz, _, hpa', _, z0, z1, z2, z3, z4, z5, z6, z7, z8, z9, z10⟩ := (HP.out.next HB3.out).at k2 (by rw [HN.out]; omega)
              obtain ⟨rfl, rfl⟩ : b = b' ∧ off = off' := by have := hpa.symm.trans hpa'; simpa using this
              have HY := Lib.hid hy
              have HZ := Lib.hid hz
              have hl2 : k2 < n := by omega
              clear hy hz hpa' y1 y2 y3 y4 y5 y6 y7 y8 y9 y10 z1 z2 z3 z4 z5 z6 z7 z8 z9 z10
              subst hpa
              by_cases hnm : y.nm = z.nm
              · have HV := Lib.hid (show r = 11 by
                  rw [HGd.out, if_pos]
                  exact (twice_iff L).2 ⟨k2, i, by rw [HN.out]; exact hli, hlk, by rw [← HY.out, ← HZ.out]; exact hnm⟩)
                have hq : (y.nm.toList == z.nm.toList) = true := by rw [nm_eq, hnm]; simp
                clear hnm
                go_wp2_with fail
                go_quiet (fail)
                go_wp2_with fail
                go_ret
                exact ⟨int_ret HV.out.symm, HB3.out.trans ⟨rfl, rfl, rfl, Nat.le_refl _, fun _ _ => rfl⟩⟩
              · have hq : (y.nm.toList == z.nm.toList) = false := by rw [nm_eq]; simpa using hnm
                have HNm := Lib.hid hnm
                clear hnm
                go_wp2_with fail
                go_quiet (fail)
                go_wp2_with fail
                go_roundw
                case rel => exact ⟨k2 + 1, by go_num, by omega, fun k' h1 h2 => by
                  by_cases hkk : k' = k2
                  · subst hkk; rw [← HY.out, ← HZ.out]; exact HNm.out
                  · exact HU2.out k' h1 (by omega), HB3.out.trans ⟨rfl, rfl, rfl, Nat.le_refl _, fun _ _ => rfl⟩⟩
                case measure => simp [intOf]; omega
            · go_wp2_with fail
              go_roundw
              case rel => exact ⟨i + 1, by go_num, by omega, fun i' h1 h2 k' hk' => by
                by_cases hii : i' = i
                · subst hii; exact HU2.out k' (by omega) (by omega)
                · exact HU.out i' h1 (by omega) k' hk', HB3.out⟩
              case measure => simp [intOf]; omega
        · have HV := Lib.hid (show r = 0 by
            rw [HGd.out, if_neg]
            intro ht
            obtain ⟨k', i', hi', hk', he⟩ := (twice_iff L).1 ht
            exact HU.out i' hi' (by have := HN.out; omega) k' hk' he)
          go_wp2_with fail
          go_ret
          exact ⟨int_ret HV.out.symm, HB2.out⟩
end Go.Proofs.YtbeaaieaffdgeaaGreatDoor
end
/- The document's Encode. -/
section
namespace Go.Proofs.YtbeaaieaffdgeaaGreatDoor
open Go.RowKit
set_option linter.unusedVariables false
set_option linter.unusedSimpArgs false

theorem cdB_cat (s : ByteArray) (c : CdT) : s ++ cdB c ByteArray.empty = s ++ textS c.1.nm ++ many nB (cdHead c) ByteArray.empty ++ many abB c.2 ByteArray.empty := by
  unfold cdB
  rw [xB_fore c.1.nm, many_fore nB_fore (cdHead c)]
  simp only [ByteArray.append_assoc, xB, ByteArray.append_empty]
theorem cards_next (s : ByteArray) (L : List CdT) (k : Nat) (hk : k < L.length) (c : CdT) (hc : c = L[k]) :
    s ++ many cdB (L.take k) ByteArray.empty ++ textS c.1.nm ++ many nB (cdHead c) ByteArray.empty ++ many abB c.2 ByteArray.empty = s ++ many cdB (L.take (k + 1)) ByteArray.empty := by
  rw [List.take_succ_eq_append_getElem hk, many_snoc cdB_fore, ← hc, ← ByteArray.append_assoc, cdB_cat]
theorem abs_next (s : ByteArray) (A : List AbT) (k : Nat) (hk : k < A.length) (x : AbT) (hx : x = A[k]) :
    s ++ many abB (A.take k) ByteArray.empty ++ abB x ByteArray.empty = s ++ many abB (A.take (k + 1)) ByteArray.empty := by
  rw [List.take_succ_eq_append_getElem hk, many_snoc abB_fore, ← hx, ByteArray.append_assoc]
theorem cards_size (L : List CdT) (h : PlOk L) (k : Nat) : (many cdB (L.take k) ByteArray.empty).size ≤ 1100000 := by
  have h1 := many_size 22000 (L.take k) (fun c hc t => cdB_size c (h.2 c (List.mem_of_mem_take hc)) t) ByteArray.empty
  have h2 : (L.take k).length ≤ L.length := by rw [List.length_take]; omega
  have h3 := h.1
  have h4 : ByteArray.empty.size = 0 := rfl
  have : 22000 * (L.take k).length ≤ 22000 * 50 := Nat.mul_le_mul_left _ (by omega)
  omega
theorem abs_size (A : List AbT) (h : ∀ x ∈ A, AbOk x) (h10 : A.length ≤ 10) (k : Nat) : (many abB (A.take k) ByteArray.empty).size ≤ 20000 := by
  have h1 := many_size 2000 (A.take k) (fun c hc t => abB_size c (h c (List.mem_of_mem_take hc)) t) ByteArray.empty
  have h2 : (A.take k).length ≤ A.length := by rw [List.length_take]; omega
  have h4 : ByteArray.empty.size = 0 := rfl
  have : 2000 * (A.take k).length ≤ 2000 * 10 := Nat.mul_le_mul_left _ (by omega)
  omega
theorem text_size (t : ByteArray) : (textS t).size ≤ 9 + t.size := by
  have := numS_size t.size
  simp only [textS, ByteArray.size_append]; omega
set_option maxRecDepth 100000 in
set_option maxHeartbeats 8000000 in
theorem refEncode_any (a : Option Addr) (c : Nat) (L : List CdT) (n : Nat) (hn : L.length = n) (r : Int) (hr : chkP L = r) (t : ByteArray) (ht : (if r = 0 then poolB L ByteArray.empty else ByteArray.empty) = t)
    (h64 : ∀ p ∈ L, CdT64 p) (hok : ∀ p ∈ L, p.1.nm.size ≤ maxLen) (w : World) (h : IsP w a c L) :
    Calls Tryz.prog 7 #[.slice a n c] w fun e w' => e = .returned (.tuple #[.string t, .int .i64 r]) ∧ Below w.heap.size w w' := by
  have HP := Lib.hid h
  have HC := Lib.hid (refPool_any a c L n hn r hr hok w h)
  have hcap := h.1
  have hcm := h.2.1
  rw [hn] at hcap
  have HN := Lib.hid hn
  have HE := Lib.hid ht
  have HR := Lib.hid hr
  have H64 := Lib.hid h64
  clear h hn ht hr h64 hok
  go_enter Tryz.func7, Tryz.ntmps7
  go_wp2_with fail
  refine HC.out.mono ?_
  rintro e w1 ⟨rfl, hb⟩
  have HB1 := Lib.hid hb
  clear hb
  by_cases h0 : r = 0
  · subst h0
    obtain ⟨hl1, hl40, hpl⟩ := pool_ok L HR.out H64.out
    rw [HN.out] at hl1 hl40
    have HPl := Lib.hid hpl
    clear hpl
    have HT := Lib.hid (show poolB L ByteArray.empty = t by have := HE.out; rwa [if_pos rfl] at this)
    have hnm : NmOk (n : Int) := by unfold NmOk; omega
    have HNm := Lib.hid hnm
    clear hnm
    go_wp2_with fail
    refine (refNums_lit [(n : Int)] _ rfl (one_nm HNm.out) 1 rfl (by omega) ByteArray.empty (nB n ByteArray.empty) (by show 0 + 9 * 1 ≤ _; omega) (by rw [ByteArray.empty_append]; rfl) _ _ rfl).mono ?_
    rintro e w2 ⟨rfl, hb⟩
    have HB2 := Lib.hid (below_then' HB1.out hb HB1.out.size)
    have HP2 := Lib.hid (HP.out.next HB2.out)
    clear hb
    obtain ⟨s0, hs0⟩ : ∃ s0, nB n ByteArray.empty = s0 := ⟨_, rfl⟩
    have HS0 := Lib.hid (show s0.size ≤ 9 by rw [← hs0]; exact nB_len _)
    have HT0 := Lib.hid (show s0 ++ many cdB L ByteArray.empty = t by rw [← HT.out, ← hs0, poolB, HN.out, nB_fore n (many cdB L ByteArray.empty)])
    rw [hs0]
    clear hs0
    go_wp2_with fail
    go_loopw [5, 6] (fun q0 q wr => ∃ k : Nat, q0 = .string (s0 ++ many cdB (L.take k) ByteArray.empty) ∧ q = .int .i64 (k : Int) ∧ k ≤ n ∧ Below w2.heap.size w2 wr) (fun _ q _ => n - (intOf q).toNat)
    case atStart => exact ⟨0, by simp [many], rfl, Nat.zero_le _, Below.refl _ _⟩
    case round =>
      obtain ⟨k, rfl, rfl, hk, hb⟩ := hrel
      have HW := Lib.hid hb
      clear hb
      by_cases hlt : k < n
      · obtain ⟨b, off, y, A, hy, hcd, hpa, hbz, y0, y1, y2, y3, y4, y5, y6, y7, y8, y9, y10⟩ := (HP2.out.next HW.out).at k (by rw [HN.out]; exact hlt)
        have hco : CdTOk (y, A) := HPl.out.2 _ (by rw [hy]; exact List.getElem_mem _)
        obtain ⟨hnmz, hhd, ha10, hab⟩ := hco
        change y.nm.size ≤ 1000 at hnmz
        replace ha10 : A.length ≤ 10 := by have : A.length ≤ 4 := ha10; omega
        have HHd := Lib.hid (show ∀ i ∈ [y.k, y.c0, y.c1, y.c2, y.c3, y.col, y.pow, y.tou, y.keys, (y.an : Int)], NmOk i by rw [← hcd.1]; exact hhd)
        have HAb := Lib.hid (show ∀ x ∈ A, AbOk x from hab)
        have HA10 := Lib.hid ha10
        have HNx := Lib.hid (show s0 ++ many cdB (L.take k) ByteArray.empty ++ textS y.nm ++ many nB [y.k, y.c0, y.c1, y.c2, y.c3, y.col, y.pow, y.tou, y.keys, (y.an : Int)] ByteArray.empty ++ many abB A ByteArray.empty = s0 ++ many cdB (L.take (k + 1)) ByteArray.empty by
          have := cards_next s0 L k (by rw [HN.out]; exact hlt) (y, A) hy
          rw [← hcd.1]
          exact this)
        have HU := Lib.hid (show (s0 ++ many cdB (L.take k) ByteArray.empty).size ≤ 1200000 by
          rw [ByteArray.size_append]
          have h1 := cards_size L HPl.out k
          have h2 := HS0.out
          omega)
        have HNz := Lib.hid hnmz
        have hbx := below_alloc1 wr (.cells #[.string y.nm, .int .i64 y.k, .int .i64 y.c0, .int .i64 y.c1, .int .i64 y.c2, .int .i64 y.c3, .int .i64 y.col, .int .i64 y.pow, .int .i64 y.tou, .int .i64 y.keys, .slice y.aa y.an y.ac] 38)
        have HD := Lib.hid (hcd.next hbx)
        have HX := Lib.hid (boxC_new wr y 38)
        have HWx := Lib.hid (below_then' HW.out hbx HW.out.size)
        clear hy hcd hhd hab ha10 hnmz hbx
        subst hpa
        generalize s0 ++ many cdB (L.take k) ByteArray.empty = u at *
        go_wp2_with fail
        clear y0 y1 y2 y3 y4 y5 y6 y7 y8 y9 y10
        refine (refText_any u (by have := HU.out; omega) y.nm (by have := HNz.out; omega) _).mono ?_
        rintro e w3 ⟨rfl, hb⟩
        have HX3 := Lib.hid (HX.out.next hb)
        have HD3 := Lib.hid (HD.out.next hb)
        have HW3 := Lib.hid (below_then' HWx.out hb HWx.out.size)
        clear hb HX HD HWx
        obtain ⟨u1, hu1⟩ : ∃ u1, u ++ textS y.nm = u1 := ⟨_, rfl⟩
        have HU1 := Lib.hid (show u1.size ≤ 1300000 by rw [← hu1, ByteArray.size_append]; have h1 := text_size y.nm; have h2 := HU.out; have h3 := HNz.out; omega)
        rw [hu1] at HNx
        rw [hu1]
        clear hu1
        obtain ⟨x0, x1, x2, x3, x4, x5, x6, x7, x8, x9, x10⟩ := HX3.out.cells
        obtain ⟨u2, hu2⟩ : ∃ u2, u1 ++ many nB [y.k, y.c0, y.c1, y.c2, y.c3, y.col, y.pow, y.tou, y.keys, (y.an : Int)] ByteArray.empty = u2 := ⟨_, rfl⟩
        have HU2 := Lib.hid hu2
        have HZ2 := Lib.hid (show u2.size ≤ 1400000 by
          rw [← hu2, ByteArray.size_append]
          have h1 := many_size 9 [y.k, y.c0, y.c1, y.c2, y.c3, y.col, y.pow, y.tou, y.keys, (y.an : Int)] (fun i _ t => nB_size i t) ByteArray.empty
          have h2 := HU1.out
          have h3 : ByteArray.empty.size = 0 := rfl
          simp only [List.length_cons, List.length_nil] at h1
          omega)
        rw [hu2] at HNx
        clear hu2
        have hac := HD3.out.2.1
        have ham := HD3.out.2.2.1
        rw [HD3.out.1] at hac
        go_wp2_with fail
        clear x0 x1 x2 x3 x4 x5 x6 x7 x8 x9 x10
        refine (refNums_lit _ _ rfl HHd.out 10 rfl (by omega) u1 u2 (by have := HU1.out; omega) HU2.out _ _ rfl).mono ?_
        rintro e w4 ⟨rfl, hb⟩
        have HX4 := Lib.hid (HX3.out.next hb)
        have HD4 := Lib.hid (HD3.out.next hb)
        have HW4 := Lib.hid (below_then' HW3.out hb HW3.out.size)
        clear hb HX3 HD3 HW3
        go_wp2_with fail
        generalize wr.heap.size = bx at *
        generalize wr = wA at *
        go_loopw [5, 8] (fun q0 q wr => ∃ j : Nat, q0 = .string (u2 ++ many abB (A.take j) ByteArray.empty) ∧ q = .int .i64 (j : Int) ∧ j ≤ y.an ∧ Below w4.heap.size w4 wr) (fun _ q _ => y.an - (intOf q).toNat)
        case atStart => exact ⟨0, by simp [many], rfl, Nat.zero_le _, Below.refl _ _⟩
        case round =>
          obtain ⟨j, rfl, rfl, hj, hb⟩ := hrel
          have HV := Lib.hid hb
          have HX5 := Lib.hid (HX4.out.next hb)
          have HD5 := Lib.hid (HD4.out.next hb)
          clear hb
          obtain ⟨x0, x1, x2, x3, x4, x5, x6, x7, x8, x9, x10⟩ := HX5.out.cells
          clear x0 x1 x2 x3 x4 x5 x6 x7 x8 x9
          by_cases hlj : j < y.an
          · obtain ⟨b', off', x, T', L', hxe, hxr, hxa, hbz', a0, a1, a2, a3, a4, a5, a6, a7, a8, a9, a10, a11, a12⟩ := HD5.out.2.at j (by rw [HD5.out.1]; exact hlj)
            have HXo := Lib.hid (HAb.out (x, T', L') (by rw [hxe]; exact List.getElem_mem _))
            have HXn := Lib.hid (abs_next u2 A j (by rw [HD5.out.1]; exact hlj) (x, T', L') hxe)
            have HXr := Lib.hid hxr
            have HXz := Lib.hid (show (u2 ++ many abB (A.take j) ByteArray.empty).size ≤ 1500000 by
              rw [ByteArray.size_append]
              have h1 := abs_size A HAb.out HA10.out j
              have h2 := HZ2.out
              omega)
            rw [hxa] at x10
            clear hxe hxr hxa
            generalize u2 ++ many abB (A.take j) ByteArray.empty = v at *
            go_wp2_with fail
            clear a0 a1 a2 a3 a4 a5 a6 a7 a8 a9 a10 a11 a12
            refine (refAbility_any x T' L' HXo.out v _ (by have := HXz.out; omega) HXn.out _ HXr.out).mono ?_
            rintro e w5 ⟨rfl, hb⟩
            have HV5 := Lib.hid (below_then' HV.out hb HV.out.size)
            clear hb
            go_wp2_with fail
            go_roundw
            case rel => exact ⟨j + 1, rfl, by go_num, by omega, HV5.out⟩
            case measure => simp [intOf]; omega
          · have HQ := Lib.hid (show u2 ++ many abB (A.take j) ByteArray.empty = s0 ++ many cdB (L.take (k + 1)) ByteArray.empty by rw [List.take_of_length_le (by have := HD5.out.1; omega)]; exact HNx.out)
            have HWn := Lib.hid (below_then' HW4.out HV.out HW4.out.size)
            rw [HQ.out]
            go_wp2_with fail
            go_roundw
            case rel => exact ⟨k + 1, rfl, by go_num, by omega, HWn.out⟩
            case measure => simp [intOf]; omega
      · have HQ := Lib.hid (show s0 ++ many cdB (L.take k) ByteArray.empty = t by rw [List.take_of_length_le (by rw [HN.out]; omega)]; exact HT0.out)
        rw [HQ.out]
        go_wp2_with fail
        have HEn := Lib.hid (below_then' HB2.out HW.out HB2.out.size)
        go_ret2
        exact ⟨rfl, HEn.out⟩
  · have HT := Lib.hid (show ByteArray.empty = t by have := HE.out; rwa [if_neg h0] at this)
    go_wp2_with fail
    go_ret2
    exact ⟨by rw [← HT.out]; rfl, HB1.out⟩
end Go.Proofs.YtbeaaieaffdgeaaGreatDoor
end
/- PoolLays: may a pool be, and which bytes has it. -/
section
namespace Go.Proofs.YtbeaaieaffdgeaaGreatDoor
open Go.RowKit
set_option linter.unusedVariables false
set_option linter.unusedSimpArgs false

theorem bndz_pcd {L : List CdT} (h : PlBnd L) : PCd L := fun c hc => (h.2 c hc).1
theorem bndz_64 {L : List CdT} (h : PlBnd L) : ∀ c ∈ L, CdT64 c := fun c hc => (h.2 c hc).2.1
theorem bndz_nm {L : List CdT} (h : PlBnd L) : ∀ p ∈ L, p.1.nm.size ≤ maxLen := fun c hc => (h.2 c hc).1.1
set_option maxRecDepth 100000 in
set_option maxHeartbeats 4000000 in
theorem walk_PoolLays (a : Option Addr) (c : Nat) (L : List CdT) (n : Nat) (hn : L.length = n) (hok : PCd L) (h64 : ∀ c ∈ L, CdT64 c) (w : World) (hp : IsP w a c L) (hT : Tabs w) :
    Calls Tryz.prog 3 #[.slice a n c] w fun e w' => e = .returned (.bool true) ∧ Below w.heap.size w w' := by
  have HP := Lib.hid hp
  have HO := Lib.hid hok
  have H64 := Lib.hid h64
  have HTb := Lib.hid hT
  have HN := Lib.hid hn
  clear hp hok h64 hT hn
  go_enter Tryz.func3, Tryz.ntmps3
  go_wp2_with fail
  refine (cut_any a c L n HN.out HO.out H64.out _ HP.out).mono ?_
  rintro e w2 ⟨M, a2, c2, rfl, hI, hbd, hb⟩
  have HB2 := Lib.hid hb
  have HI := Lib.hid hI
  have HBd := Lib.hid hbd
  obtain ⟨m, hm⟩ : ∃ m, M.length = m := ⟨_, rfl⟩
  have HM := Lib.hid hm
  obtain ⟨r, hr⟩ : ∃ r, chkP M = r := ⟨_, rfl⟩
  have HR := Lib.hid hr
  obtain ⟨s, hs⟩ : ∃ s, encS M = s := ⟨_, rfl⟩
  have HS := Lib.hid hs
  have HS2 := Lib.hid (show (if r = 0 then poolB M ByteArray.empty else ByteArray.empty) = s by rw [← hs, ← hr]; rfl)
  rw [hm]
  clear hb hI hbd HP HO H64 HN hm hr hs
  go_wp2_with fail
  refine (encode_any a2 c2 M m HM.out r HR.out s HS.out (bndz_pcd HBd.out) (bndz_64 HBd.out) _ HI.out (HTb.out.next HB2.out)).mono ?_
  rintro e w3 ⟨rfl, hb⟩
  have HB3 := Lib.hid (below_then' HB2.out hb HB2.out.size)
  have HI3 := Lib.hid (HI.out.next hb)
  clear hb HB2 HI
  go_wp2_with fail
  refine (refEncode_any a2 c2 M m HM.out r HR.out s HS2.out (bndz_64 HBd.out) (bndz_nm HBd.out) _ HI3.out).mono ?_
  rintro e w4 ⟨rfl, hb⟩
  have HB4 := Lib.hid (below_then' HB3.out hb HB3.out.size)
  have HI4 := Lib.hid (HI3.out.next hb)
  clear hb HB3 HI3
  go_wp2_with fail
  refine (pCheck_any a2 c2 M m HM.out r HR.out (bndz_pcd HBd.out) _ HI4.out (HTb.out.next HB4.out)).mono ?_
  rintro e w5 ⟨rfl, hb⟩
  have HB5 := Lib.hid (below_then' HB4.out hb HB4.out.size)
  have HI5 := Lib.hid (HI4.out.next hb)
  clear hb HB4 HI4
  go_wp2_with fail
  refine (refPool_any a2 c2 M m HM.out r HR.out (bndz_nm HBd.out) _ HI5.out).mono ?_
  rintro e w6 ⟨rfl, hb⟩
  have HB6 := Lib.hid (below_then' HB5.out hb HB5.out.size)
  clear hb HB5 HI5
  have hse : (s.toList == s.toList) = true := by simp
  have hre : (r == r) = true := by simp
  go_wp2_with fail
  refine (works_any _ (HTb.out.next HB6.out)).mono ?_
  rintro e w7 ⟨rfl, hb⟩
  have HB7 := Lib.hid (below_then' HB6.out hb HB6.out.size)
  clear hb HB6
  go_wp2_with fail
  refine bodyPost_ret (v := .bool true) (by simp [results, Tryz.results3, go_sem]) rfl ?_
  exact ⟨rfl, HB7.out⟩
end Go.Proofs.YtbeaaieaffdgeaaGreatDoor
end
/- The document's ints, of two lists that are alike. -/
section
namespace Go.Proofs.YtbeaaieaffdgeaaGreatDoor
open Go.RowKit
set_option linter.unusedVariables false
set_option linter.unusedSimpArgs false

set_option maxRecDepth 100000 in
set_option maxHeartbeats 2000000 in
theorem refInts_same (T : List Int) (a a2 : Option Addr) (c c2 n : Nat) (hn : T.length = n) (w : World) (h : IsL w a c T) (h2 : IsL w a2 c2 T) :
    Calls Tryz.prog 59 #[.slice a n c, .slice a2 n c2] w fun e w' => e = .returned (.bool true) ∧ Below w.heap.size w w' := by
  have HL := Lib.hid h
  have HM := Lib.hid h2
  have HN := Lib.hid hn
  have hcap := h.1
  have hcm := h.2.1
  have hcap2 := h2.1
  have hcm2 := h2.2.1
  rw [hn] at hcap hcap2
  clear h h2 hn
  go_enter Tryz.func59, Tryz.ntmps59
  go_wp2_with fail
  go_loopw [5] (fun q wr => ∃ k : Nat, q = .int .i64 (k : Int) ∧ k ≤ n ∧ Below w.heap.size w wr) (fun q _ => n - (intOf q).toNat)
  case atStart => exact ⟨0, rfl, Nat.zero_le _, Below.refl _ _⟩
  case round =>
    obtain ⟨k, rfl, hk, hb⟩ := hrel
    have HB := Lib.hid hb
    clear hb
    by_cases hlt : k < n
    · obtain ⟨b, off, x, hx, hta, x0⟩ := (HL.out.next HB.out).at k (by rw [HN.out]; exact hlt)
      obtain ⟨b2, off2, z, hz, htb, z0⟩ := (HM.out.next HB.out).at k (by rw [HN.out]; exact hlt)
      obtain rfl : x = z := hx.trans hz.symm
      clear hx hz
      subst hta
      subst htb
      go_wp2_with fail
      go_quiet (fail)
      go_wp2_with fail
      go_roundw
      case rel => exact ⟨k + 1, by go_num, by omega, HB.out.trans ⟨rfl, rfl, rfl, Nat.le_refl _, fun _ _ => rfl⟩⟩
      case measure => simp [intOf]; omega
    · go_wp2_with fail
      go_ret
      exact ⟨rfl, HB.out⟩
end Go.Proofs.YtbeaaieaffdgeaaGreatDoor
end
