/- Texts that belong together: PoolRc, CardU, PoolV, PoolY, PoolYa, PoolYw. -/
import Derived.Test.YtbeaaieaffdgeaaGreatDoorMk
import Derived.Test.YtbeaaieaffdgeaaGreatDoorMj
import Derived.Test.YtbeaaieaffdgeaaGreatDoorMg
import Derived.Test.YtbeaaieaffdgeaaGreatDoorMi
import Derived.Tactics
import Derived.Tactics2
import Derived.Defers
import Derived.Recover
import Derived.Laws.Pointers
/- The program's card. (Written by gen6r.py.) -/
section
namespace Go.Proofs.YtbeaaieaffdgeaaGreatDoor
open Go.RowKit
set_option linter.unusedVariables false
set_option linter.unusedSimpArgs false
set_option maxRecDepth 100000

noncomputable def rcOps : Array Oper := ((Tryz.f29.body).bind (regionOps 1)).getD #[]
/-- What is left behind each reading. -/
def rcD : Nat → Option ByteArray → Option ByteArray
  | 0 => dropT pTxt
  | 1 => dropT pNum
  | 2 => dropT pMan
  | 3 => dropT pNum
  | 4 => dropT pNum
  | 5 => dropT pNum
  | 6 => dropT pNum
  | _ => dropT (pList 4 pAb)
def rcSt (s : ByteArray) : Nat → Option ByteArray
  | 0 => some s
  | j + 1 => rcD j (rcSt s j)
def rcVal (rb : Nat) (s : ByteArray) : Nat → Value → World → Prop
  | 0, v, w => v = rdV rb
  | 1, v, w => ∃ nm, takeT pTxt (rcSt s 0) = some nm ∧ asText rb nm v w
  | 2, v, w => v = rdV rb
  | 3, v, w => ∃ k, takeT pNum (rcSt s 1) = some k ∧ asInt rb k v w
  | 4, v, w => v = rdV rb
  | 5, v, w => ∃ c, takeT pMan (rcSt s 2) = some c ∧ asMan rb c v w
  | 6, v, w => v = rdV rb
  | 7, v, w => ∃ co, takeT pNum (rcSt s 3) = some co ∧ asInt rb co v w
  | 8, v, w => v = rdV rb
  | 9, v, w => ∃ p, takeT pNum (rcSt s 4) = some p ∧ asInt rb p v w
  | 10, v, w => v = rdV rb
  | 11, v, w => ∃ t, takeT pNum (rcSt s 5) = some t ∧ asInt rb t v w
  | 12, v, w => v = rdV rb
  | 13, v, w => ∃ ke, takeT pNum (rcSt s 6) = some ke ∧ asInt rb ke v w
  | 14, v, w => v = rdV rb
  | 15, v, w => v = rdV rb
  | 16, v, w => v = .func (.func 54) #[rdV rb] #[]
  | 17, v, w => ∃ A, takeT (pList 4 pAb) (rcSt s 7) = some A ∧ (VL vA 42 13 abRow) rb A v w
  | 18, v, w => ∃ nm k c co p t ke A, (takeT pTxt (rcSt s 0) = some nm ∧ takeT pNum (rcSt s 1) = some k ∧ takeT pMan (rcSt s 2) = some c ∧ takeT pNum (rcSt s 3) = some co ∧ takeT pNum (rcSt s 4) = some p ∧ takeT pNum (rcSt s 5) = some t ∧ takeT pNum (rcSt s 6) = some ke ∧ takeT (pList 4 pAb) (rcSt s 7) = some A) ∧ VV vC.g vC.val vC.C vC.S vC.R rb (mkCd nm k c co p t ke A) v w
  | _, _, _ => True
def rcI (rb bx xb : Nat) (w : World) : Prop := bx ≠ rb ∧ xb ≠ rb ∧ Bk w bx #[.pointer (some ⟨rb, 0, none⟩)] 62 ∧ Bk w xb #[.string ⟨#[]⟩, .int .i64 0, .int .i64 0, .int .i64 0, .int .i64 0, .int .i64 0, .int .i64 0, .int .i64 0, .int .i64 0, .int .i64 0, .slice none 0 0] 38
theorem rcKeep (rb bx xb : Nat) : ∀ w w' : World, rcI rb bx xb w → w.grownBy w' (some rb) → rcI rb bx xb w' := fun w w' h g => ⟨h.1, h.2.1, h.2.2.1.read g h.1, h.2.2.2.read g h.2.1⟩
theorem rcMono (rb : Nat) (s : ByteArray) : ∀ j v w w', rcVal rb s j v w → w.grownBy w' (some rb) → rcVal rb s j v w' := by
  intro j v w w' h g
  match j, h with
  | 0, h => exact h
  | 1, h => exact h
  | 2, h => exact h
  | 3, h => exact h
  | 4, h => exact h
  | 5, h => exact h
  | 6, h => exact h
  | 7, h => exact h
  | 8, h => exact h
  | 9, h => exact h
  | 10, h => exact h
  | 11, h => exact h
  | 12, h => exact h
  | 13, h => exact h
  | 14, h => exact h
  | 15, h => exact h
  | 16, h => exact h
  | 17, ⟨x, h1, M, a, c, h2, h3, h4, h5⟩ => exact ⟨x, h1, M, a, c, h2, h3, h4, h5.read g⟩
  | 18, ⟨_, _, _, _, _, _, _, _, h1, y, h2, h3, h4, h5⟩ => exact ⟨_, _, _, _, _, _, _, _, h1, y, h2, h3, h4, h5.read g⟩
  | k + 19, h => exact trivial
def rcBase (bx xb : Nat) : Nat → Option Value := fun s => if s = 1 then some (.pointer (some ⟨bx, 0, none⟩)) else if s = 2 then some (.pointer (some ⟨xb, 0, none⟩)) else none
section
variable {l : Array Bool} {a : Act} {w w0 : World} {Q : Exit → Act → World → Prop} {rb bx xb : Nat} {s : ByteArray}
theorem rcNone0 {u : ByteArray} (hu : rcSt s 0 = some u) (hn : pTxt u = none) : pCd s = none := by
    have e0 := hu
    obtain rfl : s = u := Option.some.inj hu
    unfold pCd
    rw [then_none hn]
theorem rcNone1 {u : ByteArray} (hu : rcSt s 1 = some u) (hn : pNum u = none) : pCd s = none := by
    have e1 := hu
    obtain ⟨u0, x0, e0, f0, t0⟩ := drop_some (f := pTxt) (o := rcSt s 0) (by exact e1)
    obtain rfl : s = u0 := Option.some.inj e0
    unfold pCd
    rw [then_of f0, then_none hn]
theorem rcNone2 {u : ByteArray} (hu : rcSt s 2 = some u) (hn : pMan u = none) : pCd s = none := by
    have e2 := hu
    obtain ⟨u1, x1, e1, f1, t1⟩ := drop_some (f := pNum) (o := rcSt s 1) (by exact e2)
    obtain ⟨u0, x0, e0, f0, t0⟩ := drop_some (f := pTxt) (o := rcSt s 0) (by exact e1)
    obtain rfl : s = u0 := Option.some.inj e0
    unfold pCd
    rw [then_of f0, then_of f1, then_none hn]
theorem rcNone3 {u : ByteArray} (hu : rcSt s 3 = some u) (hn : pNum u = none) : pCd s = none := by
    have e3 := hu
    obtain ⟨u2, x2, e2, f2, t2⟩ := drop_some (f := pMan) (o := rcSt s 2) (by exact e3)
    obtain ⟨u1, x1, e1, f1, t1⟩ := drop_some (f := pNum) (o := rcSt s 1) (by exact e2)
    obtain ⟨u0, x0, e0, f0, t0⟩ := drop_some (f := pTxt) (o := rcSt s 0) (by exact e1)
    obtain rfl : s = u0 := Option.some.inj e0
    unfold pCd
    rw [then_of f0, then_of f1, then_of f2, then_none hn]
theorem rcNone4 {u : ByteArray} (hu : rcSt s 4 = some u) (hn : pNum u = none) : pCd s = none := by
    have e4 := hu
    obtain ⟨u3, x3, e3, f3, t3⟩ := drop_some (f := pNum) (o := rcSt s 3) (by exact e4)
    obtain ⟨u2, x2, e2, f2, t2⟩ := drop_some (f := pMan) (o := rcSt s 2) (by exact e3)
    obtain ⟨u1, x1, e1, f1, t1⟩ := drop_some (f := pNum) (o := rcSt s 1) (by exact e2)
    obtain ⟨u0, x0, e0, f0, t0⟩ := drop_some (f := pTxt) (o := rcSt s 0) (by exact e1)
    obtain rfl : s = u0 := Option.some.inj e0
    unfold pCd
    rw [then_of f0, then_of f1, then_of f2, then_of f3, then_none hn]
theorem rcNone5 {u : ByteArray} (hu : rcSt s 5 = some u) (hn : pNum u = none) : pCd s = none := by
    have e5 := hu
    obtain ⟨u4, x4, e4, f4, t4⟩ := drop_some (f := pNum) (o := rcSt s 4) (by exact e5)
    obtain ⟨u3, x3, e3, f3, t3⟩ := drop_some (f := pNum) (o := rcSt s 3) (by exact e4)
    obtain ⟨u2, x2, e2, f2, t2⟩ := drop_some (f := pMan) (o := rcSt s 2) (by exact e3)
    obtain ⟨u1, x1, e1, f1, t1⟩ := drop_some (f := pNum) (o := rcSt s 1) (by exact e2)
    obtain ⟨u0, x0, e0, f0, t0⟩ := drop_some (f := pTxt) (o := rcSt s 0) (by exact e1)
    obtain rfl : s = u0 := Option.some.inj e0
    unfold pCd
    rw [then_of f0, then_of f1, then_of f2, then_of f3, then_of f4, then_none hn]
theorem rcNone6 {u : ByteArray} (hu : rcSt s 6 = some u) (hn : pNum u = none) : pCd s = none := by
    have e6 := hu
    obtain ⟨u5, x5, e5, f5, t5⟩ := drop_some (f := pNum) (o := rcSt s 5) (by exact e6)
    obtain ⟨u4, x4, e4, f4, t4⟩ := drop_some (f := pNum) (o := rcSt s 4) (by exact e5)
    obtain ⟨u3, x3, e3, f3, t3⟩ := drop_some (f := pNum) (o := rcSt s 3) (by exact e4)
    obtain ⟨u2, x2, e2, f2, t2⟩ := drop_some (f := pMan) (o := rcSt s 2) (by exact e3)
    obtain ⟨u1, x1, e1, f1, t1⟩ := drop_some (f := pNum) (o := rcSt s 1) (by exact e2)
    obtain ⟨u0, x0, e0, f0, t0⟩ := drop_some (f := pTxt) (o := rcSt s 0) (by exact e1)
    obtain rfl : s = u0 := Option.some.inj e0
    unfold pCd
    rw [then_of f0, then_of f1, then_of f2, then_of f3, then_of f4, then_of f5, then_none hn]
theorem rcNone7 {u : ByteArray} (hu : rcSt s 7 = some u) (hn : (pList 4 pAb) u = none) : pCd s = none := by
    have e7 := hu
    obtain ⟨u6, x6, e6, f6, t6⟩ := drop_some (f := pNum) (o := rcSt s 6) (by exact e7)
    obtain ⟨u5, x5, e5, f5, t5⟩ := drop_some (f := pNum) (o := rcSt s 5) (by exact e6)
    obtain ⟨u4, x4, e4, f4, t4⟩ := drop_some (f := pNum) (o := rcSt s 4) (by exact e5)
    obtain ⟨u3, x3, e3, f3, t3⟩ := drop_some (f := pNum) (o := rcSt s 3) (by exact e4)
    obtain ⟨u2, x2, e2, f2, t2⟩ := drop_some (f := pMan) (o := rcSt s 2) (by exact e3)
    obtain ⟨u1, x1, e1, f1, t1⟩ := drop_some (f := pNum) (o := rcSt s 1) (by exact e2)
    obtain ⟨u0, x0, e0, f0, t0⟩ := drop_some (f := pTxt) (o := rcSt s 0) (by exact e1)
    obtain rfl : s = u0 := Option.some.inj e0
    unfold pCd
    rw [then_of f0, then_of f1, then_of f2, then_of f3, then_of f4, then_of f5, then_of f6, then_none hn]
theorem rcAll {u : ByteArray} {nm : ByteArray} {k : Int} {c : Mn} {co : Int} {p : Int} {t : Int} {ke : Int} {A : List AbT} (hu : rcSt s 8 = some u) (ht : takeT pTxt (rcSt s 0) = some nm ∧ takeT pNum (rcSt s 1) = some k ∧ takeT pMan (rcSt s 2) = some c ∧ takeT pNum (rcSt s 3) = some co ∧ takeT pNum (rcSt s 4) = some p ∧ takeT pNum (rcSt s 5) = some t ∧ takeT pNum (rcSt s 6) = some ke ∧ takeT (pList 4 pAb) (rcSt s 7) = some A) : pCd s = some ((mkCd nm k c co p t ke A), u) := by
    have e8 := hu
    obtain ⟨u7, x7, e7, f7, t7⟩ := drop_some (f := (pList 4 pAb)) (o := rcSt s 7) (by exact e8)
    obtain ⟨u6, x6, e6, f6, t6⟩ := drop_some (f := pNum) (o := rcSt s 6) (by exact e7)
    obtain ⟨u5, x5, e5, f5, t5⟩ := drop_some (f := pNum) (o := rcSt s 5) (by exact e6)
    obtain ⟨u4, x4, e4, f4, t4⟩ := drop_some (f := pNum) (o := rcSt s 4) (by exact e5)
    obtain ⟨u3, x3, e3, f3, t3⟩ := drop_some (f := pNum) (o := rcSt s 3) (by exact e4)
    obtain ⟨u2, x2, e2, f2, t2⟩ := drop_some (f := pMan) (o := rcSt s 2) (by exact e3)
    obtain ⟨u1, x1, e1, f1, t1⟩ := drop_some (f := pNum) (o := rcSt s 1) (by exact e2)
    obtain ⟨u0, x0, e0, f0, t0⟩ := drop_some (f := pTxt) (o := rcSt s 0) (by exact e1)
    obtain rfl : s = u0 := Option.some.inj e0
    obtain ⟨g0, g1, g2, g3, g4, g5, g6, g7⟩ := ht
    obtain rfl : x0 = nm := Option.some.inj (t0.symm.trans g0)
    obtain rfl : x1 = k := Option.some.inj (t1.symm.trans g1)
    obtain rfl : x2 = c := Option.some.inj (t2.symm.trans g2)
    obtain rfl : x3 = co := Option.some.inj (t3.symm.trans g3)
    obtain rfl : x4 = p := Option.some.inj (t4.symm.trans g4)
    obtain rfl : x5 = t := Option.some.inj (t5.symm.trans g5)
    obtain rfl : x6 = ke := Option.some.inj (t6.symm.trans g6)
    obtain rfl : x7 = A := Option.some.inj (t7.symm.trans g7)
    unfold pCd
    rw [then_of f0, then_of f1, then_of f2, then_of f3, then_of f4, then_of f5, then_of f6, then_of f7]
    rfl
theorem rcOp0 (hs : s.size ≤ 70368744177664) (hQ : ∀ (a : Act) (w' : World), a.defers = [] → w0.grownBy w' (some rb) → pCd s = none → Q (.panic [{ v := .iface 24 (.int .i64 4), recovered := false }]) a w') (h : AtC rcOps 22 [1, 3, 5, 7, 9, 11, 13, 17] (rcBase bx xb) (rcVal rb s) (RH w0 rb s (rcSt s) (rcI rb bx xb)) l a w) (hn : l.getD 0 true = false) (hd : ∀ o : Oper, rcOps[0]? = some o → ∀ e ∈ o.after.toList, Region.binds .any e = true → l.getD e.on false = true) : wpOp Tryz.prog rcOps Q 0 (AtC rcOps 22 [1, 3, 5, 7, 9, 11, 13, 17] (rcBase bx xb) (rcVal rb s) (RH w0 rb s (rcSt s) (rcI rb bx xb)) (l.setIfInBounds 0 true)) a w := by
  have hown : ownAt rcOps 22 (rcBase bx xb) 0 3 := ownAt_of (by kernel_rfl) rfl
  obtain ⟨o, ho⟩ : ∃ o, rcOps[0]? = some o := Option.isSome_iff_exists.1 (by kernel_rfl)
  have hop : o.op = Op.load 62 (Operand.tmp 1) := op_of ho (by kernel_rfl)
  have hg : o.guard = none := guard_of ho (by kernel_rfl)
  have v1 : a.eval (.tmp 1) = .pointer (some ⟨bx, 0, none⟩) := h.fixed 1 _ rfl
  have c := h.own.2.2.1.cell 0
  simp at c
  exact h.pure ho hown rfl hg (v := rdV rb) (by simp only [execOp, hop, v1]; first | go_simp | simp [go_sem, c]) rfl
theorem rcOp1 (hs : s.size ≤ 70368744177664) (hQ : ∀ (a : Act) (w' : World), a.defers = [] → w0.grownBy w' (some rb) → pCd s = none → Q (.panic [{ v := .iface 24 (.int .i64 4), recovered := false }]) a w') (h : AtC rcOps 22 [1, 3, 5, 7, 9, 11, 13, 17] (rcBase bx xb) (rcVal rb s) (RH w0 rb s (rcSt s) (rcI rb bx xb)) l a w) (hn : l.getD 1 true = false) (hd : ∀ o : Oper, rcOps[1]? = some o → ∀ e ∈ o.after.toList, Region.binds .any e = true → l.getD e.on false = true) : wpOp Tryz.prog rcOps Q 1 (AtC rcOps 22 [1, 3, 5, 7, 9, 11, 13, 17] (rcBase bx xb) (rcVal rb s) (RH w0 rb s (rcSt s) (rcI rb bx xb)) (l.setIfInBounds 1 true)) a w := by
  have hown : ownAt rcOps 22 (rcBase bx xb) 1 4 := ownAt_of (by kernel_rfl) rfl
  obtain ⟨o, ho⟩ : ∃ o, rcOps[1]? = some o := Option.isSome_iff_exists.1 (by kernel_rfl)
  have hop : o.op = Op.call { callee := Callee.value (Operand.func 50), args := #[Operand.tmp 3], argTypes := #[62] } := op_of ho (by kernel_rfl)
  have hg : o.guard = none := guard_of ho (by kernel_rfl)
  have v3 : a.eval (.tmp 3) = rdV rb := h.done 0 3 (dep hd 0 (by kernel_rfl)) (by kernel_rfl)
  refine h.reads (k := 0) (f := pTxt) (q := 50) (args := fun rb => #[rdV rb]) (V := asText) ho hown (by decide) rfl (by decide) (fun j hj => ?_) hn hg ?_ text1_any rfl hs (fun v w' hv => hv) (rcMono rb s) (rcKeep rb bx xb) (fun u w' hu hf g => hQ a w' h.defers g (rcNone0 hu hf))
  · omega
  · rw [exec_call (enters_of Tryz.func50 (by kernel_rfl) rfl) hop]
    simp only [List.map_toArray, List.map_cons, List.map_nil, v3]
    try rfl
theorem rcOp2 (hs : s.size ≤ 70368744177664) (hQ : ∀ (a : Act) (w' : World), a.defers = [] → w0.grownBy w' (some rb) → pCd s = none → Q (.panic [{ v := .iface 24 (.int .i64 4), recovered := false }]) a w') (h : AtC rcOps 22 [1, 3, 5, 7, 9, 11, 13, 17] (rcBase bx xb) (rcVal rb s) (RH w0 rb s (rcSt s) (rcI rb bx xb)) l a w) (hn : l.getD 2 true = false) (hd : ∀ o : Oper, rcOps[2]? = some o → ∀ e ∈ o.after.toList, Region.binds .any e = true → l.getD e.on false = true) : wpOp Tryz.prog rcOps Q 2 (AtC rcOps 22 [1, 3, 5, 7, 9, 11, 13, 17] (rcBase bx xb) (rcVal rb s) (RH w0 rb s (rcSt s) (rcI rb bx xb)) (l.setIfInBounds 2 true)) a w := by
  have hown : ownAt rcOps 22 (rcBase bx xb) 2 5 := ownAt_of (by kernel_rfl) rfl
  obtain ⟨o, ho⟩ : ∃ o, rcOps[2]? = some o := Option.isSome_iff_exists.1 (by kernel_rfl)
  have hop : o.op = Op.load 62 (Operand.tmp 1) := op_of ho (by kernel_rfl)
  have hg : o.guard = none := guard_of ho (by kernel_rfl)
  have v1 : a.eval (.tmp 1) = .pointer (some ⟨bx, 0, none⟩) := h.fixed 1 _ rfl
  have c := h.own.2.2.1.cell 0
  simp at c
  exact h.pure ho hown rfl hg (v := rdV rb) (by simp only [execOp, hop, v1]; first | go_simp | simp [go_sem, c]) rfl
theorem rcOp3 (hs : s.size ≤ 70368744177664) (hQ : ∀ (a : Act) (w' : World), a.defers = [] → w0.grownBy w' (some rb) → pCd s = none → Q (.panic [{ v := .iface 24 (.int .i64 4), recovered := false }]) a w') (h : AtC rcOps 22 [1, 3, 5, 7, 9, 11, 13, 17] (rcBase bx xb) (rcVal rb s) (RH w0 rb s (rcSt s) (rcI rb bx xb)) l a w) (hn : l.getD 3 true = false) (hd : ∀ o : Oper, rcOps[3]? = some o → ∀ e ∈ o.after.toList, Region.binds .any e = true → l.getD e.on false = true) : wpOp Tryz.prog rcOps Q 3 (AtC rcOps 22 [1, 3, 5, 7, 9, 11, 13, 17] (rcBase bx xb) (rcVal rb s) (RH w0 rb s (rcSt s) (rcI rb bx xb)) (l.setIfInBounds 3 true)) a w := by
  have hown : ownAt rcOps 22 (rcBase bx xb) 3 6 := ownAt_of (by kernel_rfl) rfl
  obtain ⟨o, ho⟩ : ∃ o, rcOps[3]? = some o := Option.isSome_iff_exists.1 (by kernel_rfl)
  have hop : o.op = Op.call { callee := Callee.value (Operand.func 51), args := #[Operand.tmp 5], argTypes := #[62] } := op_of ho (by kernel_rfl)
  have hg : o.guard = none := guard_of ho (by kernel_rfl)
  have v5 : a.eval (.tmp 5) = rdV rb := h.done 2 5 (dep hd 2 (by kernel_rfl)) (by kernel_rfl)
  refine h.reads (k := 1) (f := pNum) (q := 51) (args := fun rb => #[rdV rb]) (V := asInt) ho hown (by decide) rfl (by decide) (fun j hj => ?_) hn hg ?_ num1_any rfl hs (fun v w' hv => hv) (rcMono rb s) (rcKeep rb bx xb) (fun u w' hu hf g => hQ a w' h.defers g (rcNone1 hu hf))
  · obtain rfl : j = 0 := by omega
    exact dep hd 1 (by kernel_rfl)
  · rw [exec_call (enters_of Tryz.func51 (by kernel_rfl) rfl) hop]
    simp only [List.map_toArray, List.map_cons, List.map_nil, v5]
    try rfl
theorem rcOp4 (hs : s.size ≤ 70368744177664) (hQ : ∀ (a : Act) (w' : World), a.defers = [] → w0.grownBy w' (some rb) → pCd s = none → Q (.panic [{ v := .iface 24 (.int .i64 4), recovered := false }]) a w') (h : AtC rcOps 22 [1, 3, 5, 7, 9, 11, 13, 17] (rcBase bx xb) (rcVal rb s) (RH w0 rb s (rcSt s) (rcI rb bx xb)) l a w) (hn : l.getD 4 true = false) (hd : ∀ o : Oper, rcOps[4]? = some o → ∀ e ∈ o.after.toList, Region.binds .any e = true → l.getD e.on false = true) : wpOp Tryz.prog rcOps Q 4 (AtC rcOps 22 [1, 3, 5, 7, 9, 11, 13, 17] (rcBase bx xb) (rcVal rb s) (RH w0 rb s (rcSt s) (rcI rb bx xb)) (l.setIfInBounds 4 true)) a w := by
  have hown : ownAt rcOps 22 (rcBase bx xb) 4 7 := ownAt_of (by kernel_rfl) rfl
  obtain ⟨o, ho⟩ : ∃ o, rcOps[4]? = some o := Option.isSome_iff_exists.1 (by kernel_rfl)
  have hop : o.op = Op.load 62 (Operand.tmp 1) := op_of ho (by kernel_rfl)
  have hg : o.guard = none := guard_of ho (by kernel_rfl)
  have v1 : a.eval (.tmp 1) = .pointer (some ⟨bx, 0, none⟩) := h.fixed 1 _ rfl
  have c := h.own.2.2.1.cell 0
  simp at c
  exact h.pure ho hown rfl hg (v := rdV rb) (by simp only [execOp, hop, v1]; first | go_simp | simp [go_sem, c]) rfl
theorem rcOp5 (hs : s.size ≤ 70368744177664) (hQ : ∀ (a : Act) (w' : World), a.defers = [] → w0.grownBy w' (some rb) → pCd s = none → Q (.panic [{ v := .iface 24 (.int .i64 4), recovered := false }]) a w') (h : AtC rcOps 22 [1, 3, 5, 7, 9, 11, 13, 17] (rcBase bx xb) (rcVal rb s) (RH w0 rb s (rcSt s) (rcI rb bx xb)) l a w) (hn : l.getD 5 true = false) (hd : ∀ o : Oper, rcOps[5]? = some o → ∀ e ∈ o.after.toList, Region.binds .any e = true → l.getD e.on false = true) : wpOp Tryz.prog rcOps Q 5 (AtC rcOps 22 [1, 3, 5, 7, 9, 11, 13, 17] (rcBase bx xb) (rcVal rb s) (RH w0 rb s (rcSt s) (rcI rb bx xb)) (l.setIfInBounds 5 true)) a w := by
  have hown : ownAt rcOps 22 (rcBase bx xb) 5 8 := ownAt_of (by kernel_rfl) rfl
  obtain ⟨o, ho⟩ : ∃ o, rcOps[5]? = some o := Option.isSome_iff_exists.1 (by kernel_rfl)
  have hop : o.op = Op.call { callee := Callee.value (Operand.func 52), args := #[Operand.tmp 7], argTypes := #[62] } := op_of ho (by kernel_rfl)
  have hg : o.guard = none := guard_of ho (by kernel_rfl)
  have v7 : a.eval (.tmp 7) = rdV rb := h.done 4 7 (dep hd 4 (by kernel_rfl)) (by kernel_rfl)
  refine h.reads (k := 2) (f := pMan) (q := 52) (args := fun rb => #[rdV rb]) (V := asMan) ho hown (by decide) rfl (by decide) (fun j hj => ?_) hn hg ?_ mana1_any rfl hs (fun v w' hv => hv) (rcMono rb s) (rcKeep rb bx xb) (fun u w' hu hf g => hQ a w' h.defers g (rcNone2 hu hf))
  · obtain rfl : j = 1 := by omega
    exact dep hd 3 (by kernel_rfl)
  · rw [exec_call (enters_of Tryz.func52 (by kernel_rfl) rfl) hop]
    simp only [List.map_toArray, List.map_cons, List.map_nil, v7]
    try rfl
theorem rcOp6 (hs : s.size ≤ 70368744177664) (hQ : ∀ (a : Act) (w' : World), a.defers = [] → w0.grownBy w' (some rb) → pCd s = none → Q (.panic [{ v := .iface 24 (.int .i64 4), recovered := false }]) a w') (h : AtC rcOps 22 [1, 3, 5, 7, 9, 11, 13, 17] (rcBase bx xb) (rcVal rb s) (RH w0 rb s (rcSt s) (rcI rb bx xb)) l a w) (hn : l.getD 6 true = false) (hd : ∀ o : Oper, rcOps[6]? = some o → ∀ e ∈ o.after.toList, Region.binds .any e = true → l.getD e.on false = true) : wpOp Tryz.prog rcOps Q 6 (AtC rcOps 22 [1, 3, 5, 7, 9, 11, 13, 17] (rcBase bx xb) (rcVal rb s) (RH w0 rb s (rcSt s) (rcI rb bx xb)) (l.setIfInBounds 6 true)) a w := by
  have hown : ownAt rcOps 22 (rcBase bx xb) 6 9 := ownAt_of (by kernel_rfl) rfl
  obtain ⟨o, ho⟩ : ∃ o, rcOps[6]? = some o := Option.isSome_iff_exists.1 (by kernel_rfl)
  have hop : o.op = Op.load 62 (Operand.tmp 1) := op_of ho (by kernel_rfl)
  have hg : o.guard = none := guard_of ho (by kernel_rfl)
  have v1 : a.eval (.tmp 1) = .pointer (some ⟨bx, 0, none⟩) := h.fixed 1 _ rfl
  have c := h.own.2.2.1.cell 0
  simp at c
  exact h.pure ho hown rfl hg (v := rdV rb) (by simp only [execOp, hop, v1]; first | go_simp | simp [go_sem, c]) rfl
theorem rcOp7 (hs : s.size ≤ 70368744177664) (hQ : ∀ (a : Act) (w' : World), a.defers = [] → w0.grownBy w' (some rb) → pCd s = none → Q (.panic [{ v := .iface 24 (.int .i64 4), recovered := false }]) a w') (h : AtC rcOps 22 [1, 3, 5, 7, 9, 11, 13, 17] (rcBase bx xb) (rcVal rb s) (RH w0 rb s (rcSt s) (rcI rb bx xb)) l a w) (hn : l.getD 7 true = false) (hd : ∀ o : Oper, rcOps[7]? = some o → ∀ e ∈ o.after.toList, Region.binds .any e = true → l.getD e.on false = true) : wpOp Tryz.prog rcOps Q 7 (AtC rcOps 22 [1, 3, 5, 7, 9, 11, 13, 17] (rcBase bx xb) (rcVal rb s) (RH w0 rb s (rcSt s) (rcI rb bx xb)) (l.setIfInBounds 7 true)) a w := by
  have hown : ownAt rcOps 22 (rcBase bx xb) 7 10 := ownAt_of (by kernel_rfl) rfl
  obtain ⟨o, ho⟩ : ∃ o, rcOps[7]? = some o := Option.isSome_iff_exists.1 (by kernel_rfl)
  have hop : o.op = Op.call { callee := Callee.value (Operand.func 51), args := #[Operand.tmp 9], argTypes := #[62] } := op_of ho (by kernel_rfl)
  have hg : o.guard = none := guard_of ho (by kernel_rfl)
  have v9 : a.eval (.tmp 9) = rdV rb := h.done 6 9 (dep hd 6 (by kernel_rfl)) (by kernel_rfl)
  refine h.reads (k := 3) (f := pNum) (q := 51) (args := fun rb => #[rdV rb]) (V := asInt) ho hown (by decide) rfl (by decide) (fun j hj => ?_) hn hg ?_ num1_any rfl hs (fun v w' hv => hv) (rcMono rb s) (rcKeep rb bx xb) (fun u w' hu hf g => hQ a w' h.defers g (rcNone3 hu hf))
  · obtain rfl : j = 2 := by omega
    exact dep hd 5 (by kernel_rfl)
  · rw [exec_call (enters_of Tryz.func51 (by kernel_rfl) rfl) hop]
    simp only [List.map_toArray, List.map_cons, List.map_nil, v9]
    try rfl
theorem rcOp8 (hs : s.size ≤ 70368744177664) (hQ : ∀ (a : Act) (w' : World), a.defers = [] → w0.grownBy w' (some rb) → pCd s = none → Q (.panic [{ v := .iface 24 (.int .i64 4), recovered := false }]) a w') (h : AtC rcOps 22 [1, 3, 5, 7, 9, 11, 13, 17] (rcBase bx xb) (rcVal rb s) (RH w0 rb s (rcSt s) (rcI rb bx xb)) l a w) (hn : l.getD 8 true = false) (hd : ∀ o : Oper, rcOps[8]? = some o → ∀ e ∈ o.after.toList, Region.binds .any e = true → l.getD e.on false = true) : wpOp Tryz.prog rcOps Q 8 (AtC rcOps 22 [1, 3, 5, 7, 9, 11, 13, 17] (rcBase bx xb) (rcVal rb s) (RH w0 rb s (rcSt s) (rcI rb bx xb)) (l.setIfInBounds 8 true)) a w := by
  have hown : ownAt rcOps 22 (rcBase bx xb) 8 11 := ownAt_of (by kernel_rfl) rfl
  obtain ⟨o, ho⟩ : ∃ o, rcOps[8]? = some o := Option.isSome_iff_exists.1 (by kernel_rfl)
  have hop : o.op = Op.load 62 (Operand.tmp 1) := op_of ho (by kernel_rfl)
  have hg : o.guard = none := guard_of ho (by kernel_rfl)
  have v1 : a.eval (.tmp 1) = .pointer (some ⟨bx, 0, none⟩) := h.fixed 1 _ rfl
  have c := h.own.2.2.1.cell 0
  simp at c
  exact h.pure ho hown rfl hg (v := rdV rb) (by simp only [execOp, hop, v1]; first | go_simp | simp [go_sem, c]) rfl
theorem rcOp9 (hs : s.size ≤ 70368744177664) (hQ : ∀ (a : Act) (w' : World), a.defers = [] → w0.grownBy w' (some rb) → pCd s = none → Q (.panic [{ v := .iface 24 (.int .i64 4), recovered := false }]) a w') (h : AtC rcOps 22 [1, 3, 5, 7, 9, 11, 13, 17] (rcBase bx xb) (rcVal rb s) (RH w0 rb s (rcSt s) (rcI rb bx xb)) l a w) (hn : l.getD 9 true = false) (hd : ∀ o : Oper, rcOps[9]? = some o → ∀ e ∈ o.after.toList, Region.binds .any e = true → l.getD e.on false = true) : wpOp Tryz.prog rcOps Q 9 (AtC rcOps 22 [1, 3, 5, 7, 9, 11, 13, 17] (rcBase bx xb) (rcVal rb s) (RH w0 rb s (rcSt s) (rcI rb bx xb)) (l.setIfInBounds 9 true)) a w := by
  have hown : ownAt rcOps 22 (rcBase bx xb) 9 12 := ownAt_of (by kernel_rfl) rfl
  obtain ⟨o, ho⟩ : ∃ o, rcOps[9]? = some o := Option.isSome_iff_exists.1 (by kernel_rfl)
  have hop : o.op = Op.call { callee := Callee.value (Operand.func 51), args := #[Operand.tmp 11], argTypes := #[62] } := op_of ho (by kernel_rfl)
  have hg : o.guard = none := guard_of ho (by kernel_rfl)
  have v11 : a.eval (.tmp 11) = rdV rb := h.done 8 11 (dep hd 8 (by kernel_rfl)) (by kernel_rfl)
  refine h.reads (k := 4) (f := pNum) (q := 51) (args := fun rb => #[rdV rb]) (V := asInt) ho hown (by decide) rfl (by decide) (fun j hj => ?_) hn hg ?_ num1_any rfl hs (fun v w' hv => hv) (rcMono rb s) (rcKeep rb bx xb) (fun u w' hu hf g => hQ a w' h.defers g (rcNone4 hu hf))
  · obtain rfl : j = 3 := by omega
    exact dep hd 7 (by kernel_rfl)
  · rw [exec_call (enters_of Tryz.func51 (by kernel_rfl) rfl) hop]
    simp only [List.map_toArray, List.map_cons, List.map_nil, v11]
    try rfl
theorem rcOp10 (hs : s.size ≤ 70368744177664) (hQ : ∀ (a : Act) (w' : World), a.defers = [] → w0.grownBy w' (some rb) → pCd s = none → Q (.panic [{ v := .iface 24 (.int .i64 4), recovered := false }]) a w') (h : AtC rcOps 22 [1, 3, 5, 7, 9, 11, 13, 17] (rcBase bx xb) (rcVal rb s) (RH w0 rb s (rcSt s) (rcI rb bx xb)) l a w) (hn : l.getD 10 true = false) (hd : ∀ o : Oper, rcOps[10]? = some o → ∀ e ∈ o.after.toList, Region.binds .any e = true → l.getD e.on false = true) : wpOp Tryz.prog rcOps Q 10 (AtC rcOps 22 [1, 3, 5, 7, 9, 11, 13, 17] (rcBase bx xb) (rcVal rb s) (RH w0 rb s (rcSt s) (rcI rb bx xb)) (l.setIfInBounds 10 true)) a w := by
  have hown : ownAt rcOps 22 (rcBase bx xb) 10 13 := ownAt_of (by kernel_rfl) rfl
  obtain ⟨o, ho⟩ : ∃ o, rcOps[10]? = some o := Option.isSome_iff_exists.1 (by kernel_rfl)
  have hop : o.op = Op.load 62 (Operand.tmp 1) := op_of ho (by kernel_rfl)
  have hg : o.guard = none := guard_of ho (by kernel_rfl)
  have v1 : a.eval (.tmp 1) = .pointer (some ⟨bx, 0, none⟩) := h.fixed 1 _ rfl
  have c := h.own.2.2.1.cell 0
  simp at c
  exact h.pure ho hown rfl hg (v := rdV rb) (by simp only [execOp, hop, v1]; first | go_simp | simp [go_sem, c]) rfl
theorem rcOp11 (hs : s.size ≤ 70368744177664) (hQ : ∀ (a : Act) (w' : World), a.defers = [] → w0.grownBy w' (some rb) → pCd s = none → Q (.panic [{ v := .iface 24 (.int .i64 4), recovered := false }]) a w') (h : AtC rcOps 22 [1, 3, 5, 7, 9, 11, 13, 17] (rcBase bx xb) (rcVal rb s) (RH w0 rb s (rcSt s) (rcI rb bx xb)) l a w) (hn : l.getD 11 true = false) (hd : ∀ o : Oper, rcOps[11]? = some o → ∀ e ∈ o.after.toList, Region.binds .any e = true → l.getD e.on false = true) : wpOp Tryz.prog rcOps Q 11 (AtC rcOps 22 [1, 3, 5, 7, 9, 11, 13, 17] (rcBase bx xb) (rcVal rb s) (RH w0 rb s (rcSt s) (rcI rb bx xb)) (l.setIfInBounds 11 true)) a w := by
  have hown : ownAt rcOps 22 (rcBase bx xb) 11 14 := ownAt_of (by kernel_rfl) rfl
  obtain ⟨o, ho⟩ : ∃ o, rcOps[11]? = some o := Option.isSome_iff_exists.1 (by kernel_rfl)
  have hop : o.op = Op.call { callee := Callee.value (Operand.func 51), args := #[Operand.tmp 13], argTypes := #[62] } := op_of ho (by kernel_rfl)
  have hg : o.guard = none := guard_of ho (by kernel_rfl)
  have v13 : a.eval (.tmp 13) = rdV rb := h.done 10 13 (dep hd 10 (by kernel_rfl)) (by kernel_rfl)
  refine h.reads (k := 5) (f := pNum) (q := 51) (args := fun rb => #[rdV rb]) (V := asInt) ho hown (by decide) rfl (by decide) (fun j hj => ?_) hn hg ?_ num1_any rfl hs (fun v w' hv => hv) (rcMono rb s) (rcKeep rb bx xb) (fun u w' hu hf g => hQ a w' h.defers g (rcNone5 hu hf))
  · obtain rfl : j = 4 := by omega
    exact dep hd 9 (by kernel_rfl)
  · rw [exec_call (enters_of Tryz.func51 (by kernel_rfl) rfl) hop]
    simp only [List.map_toArray, List.map_cons, List.map_nil, v13]
    try rfl
theorem rcOp12 (hs : s.size ≤ 70368744177664) (hQ : ∀ (a : Act) (w' : World), a.defers = [] → w0.grownBy w' (some rb) → pCd s = none → Q (.panic [{ v := .iface 24 (.int .i64 4), recovered := false }]) a w') (h : AtC rcOps 22 [1, 3, 5, 7, 9, 11, 13, 17] (rcBase bx xb) (rcVal rb s) (RH w0 rb s (rcSt s) (rcI rb bx xb)) l a w) (hn : l.getD 12 true = false) (hd : ∀ o : Oper, rcOps[12]? = some o → ∀ e ∈ o.after.toList, Region.binds .any e = true → l.getD e.on false = true) : wpOp Tryz.prog rcOps Q 12 (AtC rcOps 22 [1, 3, 5, 7, 9, 11, 13, 17] (rcBase bx xb) (rcVal rb s) (RH w0 rb s (rcSt s) (rcI rb bx xb)) (l.setIfInBounds 12 true)) a w := by
  have hown : ownAt rcOps 22 (rcBase bx xb) 12 15 := ownAt_of (by kernel_rfl) rfl
  obtain ⟨o, ho⟩ : ∃ o, rcOps[12]? = some o := Option.isSome_iff_exists.1 (by kernel_rfl)
  have hop : o.op = Op.load 62 (Operand.tmp 1) := op_of ho (by kernel_rfl)
  have hg : o.guard = none := guard_of ho (by kernel_rfl)
  have v1 : a.eval (.tmp 1) = .pointer (some ⟨bx, 0, none⟩) := h.fixed 1 _ rfl
  have c := h.own.2.2.1.cell 0
  simp at c
  exact h.pure ho hown rfl hg (v := rdV rb) (by simp only [execOp, hop, v1]; first | go_simp | simp [go_sem, c]) rfl
theorem rcOp13 (hs : s.size ≤ 70368744177664) (hQ : ∀ (a : Act) (w' : World), a.defers = [] → w0.grownBy w' (some rb) → pCd s = none → Q (.panic [{ v := .iface 24 (.int .i64 4), recovered := false }]) a w') (h : AtC rcOps 22 [1, 3, 5, 7, 9, 11, 13, 17] (rcBase bx xb) (rcVal rb s) (RH w0 rb s (rcSt s) (rcI rb bx xb)) l a w) (hn : l.getD 13 true = false) (hd : ∀ o : Oper, rcOps[13]? = some o → ∀ e ∈ o.after.toList, Region.binds .any e = true → l.getD e.on false = true) : wpOp Tryz.prog rcOps Q 13 (AtC rcOps 22 [1, 3, 5, 7, 9, 11, 13, 17] (rcBase bx xb) (rcVal rb s) (RH w0 rb s (rcSt s) (rcI rb bx xb)) (l.setIfInBounds 13 true)) a w := by
  have hown : ownAt rcOps 22 (rcBase bx xb) 13 16 := ownAt_of (by kernel_rfl) rfl
  obtain ⟨o, ho⟩ : ∃ o, rcOps[13]? = some o := Option.isSome_iff_exists.1 (by kernel_rfl)
  have hop : o.op = Op.call { callee := Callee.value (Operand.func 51), args := #[Operand.tmp 15], argTypes := #[62] } := op_of ho (by kernel_rfl)
  have hg : o.guard = none := guard_of ho (by kernel_rfl)
  have v15 : a.eval (.tmp 15) = rdV rb := h.done 12 15 (dep hd 12 (by kernel_rfl)) (by kernel_rfl)
  refine h.reads (k := 6) (f := pNum) (q := 51) (args := fun rb => #[rdV rb]) (V := asInt) ho hown (by decide) rfl (by decide) (fun j hj => ?_) hn hg ?_ num1_any rfl hs (fun v w' hv => hv) (rcMono rb s) (rcKeep rb bx xb) (fun u w' hu hf g => hQ a w' h.defers g (rcNone6 hu hf))
  · obtain rfl : j = 5 := by omega
    exact dep hd 11 (by kernel_rfl)
  · rw [exec_call (enters_of Tryz.func51 (by kernel_rfl) rfl) hop]
    simp only [List.map_toArray, List.map_cons, List.map_nil, v15]
    try rfl
theorem rcOp14 (hs : s.size ≤ 70368744177664) (hQ : ∀ (a : Act) (w' : World), a.defers = [] → w0.grownBy w' (some rb) → pCd s = none → Q (.panic [{ v := .iface 24 (.int .i64 4), recovered := false }]) a w') (h : AtC rcOps 22 [1, 3, 5, 7, 9, 11, 13, 17] (rcBase bx xb) (rcVal rb s) (RH w0 rb s (rcSt s) (rcI rb bx xb)) l a w) (hn : l.getD 14 true = false) (hd : ∀ o : Oper, rcOps[14]? = some o → ∀ e ∈ o.after.toList, Region.binds .any e = true → l.getD e.on false = true) : wpOp Tryz.prog rcOps Q 14 (AtC rcOps 22 [1, 3, 5, 7, 9, 11, 13, 17] (rcBase bx xb) (rcVal rb s) (RH w0 rb s (rcSt s) (rcI rb bx xb)) (l.setIfInBounds 14 true)) a w := by
  have hown : ownAt rcOps 22 (rcBase bx xb) 14 17 := ownAt_of (by kernel_rfl) rfl
  obtain ⟨o, ho⟩ : ∃ o, rcOps[14]? = some o := Option.isSome_iff_exists.1 (by kernel_rfl)
  have hop : o.op = Op.load 62 (Operand.tmp 1) := op_of ho (by kernel_rfl)
  have hg : o.guard = none := guard_of ho (by kernel_rfl)
  have v1 : a.eval (.tmp 1) = .pointer (some ⟨bx, 0, none⟩) := h.fixed 1 _ rfl
  have c := h.own.2.2.1.cell 0
  simp at c
  exact h.pure ho hown rfl hg (v := rdV rb) (by simp only [execOp, hop, v1]; first | go_simp | simp [go_sem, c]) rfl
theorem rcOp15 (hs : s.size ≤ 70368744177664) (hQ : ∀ (a : Act) (w' : World), a.defers = [] → w0.grownBy w' (some rb) → pCd s = none → Q (.panic [{ v := .iface 24 (.int .i64 4), recovered := false }]) a w') (h : AtC rcOps 22 [1, 3, 5, 7, 9, 11, 13, 17] (rcBase bx xb) (rcVal rb s) (RH w0 rb s (rcSt s) (rcI rb bx xb)) l a w) (hn : l.getD 15 true = false) (hd : ∀ o : Oper, rcOps[15]? = some o → ∀ e ∈ o.after.toList, Region.binds .any e = true → l.getD e.on false = true) : wpOp Tryz.prog rcOps Q 15 (AtC rcOps 22 [1, 3, 5, 7, 9, 11, 13, 17] (rcBase bx xb) (rcVal rb s) (RH w0 rb s (rcSt s) (rcI rb bx xb)) (l.setIfInBounds 15 true)) a w := by
  have hown : ownAt rcOps 22 (rcBase bx xb) 15 18 := ownAt_of (by kernel_rfl) rfl
  obtain ⟨o, ho⟩ : ∃ o, rcOps[15]? = some o := Option.isSome_iff_exists.1 (by kernel_rfl)
  have hop : o.op = Op.load 62 (Operand.tmp 1) := op_of ho (by kernel_rfl)
  have hg : o.guard = none := guard_of ho (by kernel_rfl)
  have v1 : a.eval (.tmp 1) = .pointer (some ⟨bx, 0, none⟩) := h.fixed 1 _ rfl
  have c := h.own.2.2.1.cell 0
  simp at c
  exact h.pure ho hown rfl hg (v := rdV rb) (by simp only [execOp, hop, v1]; first | go_simp | simp [go_sem, c]) rfl
theorem rcOp16 (hs : s.size ≤ 70368744177664) (hQ : ∀ (a : Act) (w' : World), a.defers = [] → w0.grownBy w' (some rb) → pCd s = none → Q (.panic [{ v := .iface 24 (.int .i64 4), recovered := false }]) a w') (h : AtC rcOps 22 [1, 3, 5, 7, 9, 11, 13, 17] (rcBase bx xb) (rcVal rb s) (RH w0 rb s (rcSt s) (rcI rb bx xb)) l a w) (hn : l.getD 16 true = false) (hd : ∀ o : Oper, rcOps[16]? = some o → ∀ e ∈ o.after.toList, Region.binds .any e = true → l.getD e.on false = true) : wpOp Tryz.prog rcOps Q 16 (AtC rcOps 22 [1, 3, 5, 7, 9, 11, 13, 17] (rcBase bx xb) (rcVal rb s) (RH w0 rb s (rcSt s) (rcI rb bx xb)) (l.setIfInBounds 16 true)) a w := by
  have hown : ownAt rcOps 22 (rcBase bx xb) 16 19 := ownAt_of (by kernel_rfl) rfl
  obtain ⟨o, ho⟩ : ∃ o, rcOps[16]? = some o := Option.isSome_iff_exists.1 (by kernel_rfl)
  have hop : o.op = Op.makeFunc (Fn.func 54) #[(Operand.tmp 18)] #[] := op_of ho (by kernel_rfl)
  have hg : o.guard = none := guard_of ho (by kernel_rfl)
  have v18 : a.eval (.tmp 18) = rdV rb := h.done 15 18 (dep hd 15 (by kernel_rfl)) (by kernel_rfl)
  exact h.pure ho hown rfl hg (v := .func (.func 54) #[rdV rb] #[]) (by simp only [execOp, hop, v18]; first | rfl | (simp [v18]; rfl)) rfl
theorem rcOp17 (hs : s.size ≤ 70368744177664) (hQ : ∀ (a : Act) (w' : World), a.defers = [] → w0.grownBy w' (some rb) → pCd s = none → Q (.panic [{ v := .iface 24 (.int .i64 4), recovered := false }]) a w') (h : AtC rcOps 22 [1, 3, 5, 7, 9, 11, 13, 17] (rcBase bx xb) (rcVal rb s) (RH w0 rb s (rcSt s) (rcI rb bx xb)) l a w) (hn : l.getD 17 true = false) (hd : ∀ o : Oper, rcOps[17]? = some o → ∀ e ∈ o.after.toList, Region.binds .any e = true → l.getD e.on false = true) : wpOp Tryz.prog rcOps Q 17 (AtC rcOps 22 [1, 3, 5, 7, 9, 11, 13, 17] (rcBase bx xb) (rcVal rb s) (RH w0 rb s (rcSt s) (rcI rb bx xb)) (l.setIfInBounds 17 true)) a w := by
  have hown : ownAt rcOps 22 (rcBase bx xb) 17 20 := ownAt_of (by kernel_rfl) rfl
  obtain ⟨o, ho⟩ : ∃ o, rcOps[17]? = some o := Option.isSome_iff_exists.1 (by kernel_rfl)
  have hop : o.op = Op.call { callee := Callee.value (Operand.func 53), args := #[Operand.tmp 17, Operand.const (Value.int IntKind.i64 4), Operand.tmp 19], argTypes := #[62, 3, 96] } := op_of ho (by kernel_rfl)
  have hg : o.guard = none := guard_of ho (by kernel_rfl)
  have v17 : a.eval (.tmp 17) = rdV rb := h.done 14 17 (dep hd 14 (by kernel_rfl)) (by kernel_rfl)
  have v19 : a.eval (.tmp 19) = .func (.func 54) #[rdV rb] #[] := h.done 16 19 (dep hd 16 (by kernel_rfl)) (by kernel_rfl)
  refine h.reads (k := 7) (f := (pList 4 pAb)) (q := 53) (args := fun rb => #[rdV rb, .int .i64 (4 : Nat), .func (.func 54) #[rdV rb] #[]]) (V := (VL vA 42 13 abRow)) ho hown (by decide) rfl (by decide) (fun j hj => ?_) hn hg ?_ (list_a 4 (by omega) ability1_any) rfl hs (fun v w' hv => hv) (rcMono rb s) (rcKeep rb bx xb) (fun u w' hu hf g => hQ a w' h.defers g (rcNone7 hu hf))
  · obtain rfl : j = 6 := by omega
    exact dep hd 13 (by kernel_rfl)
  · rw [exec_call (enters_of Tryz.func53 (by kernel_rfl) rfl) hop]
    simp only [List.map_toArray, List.map_cons, List.map_nil, v17, v19]
    try rfl
theorem rcOp18 (hs : s.size ≤ 70368744177664) (hQ : ∀ (a : Act) (w' : World), a.defers = [] → w0.grownBy w' (some rb) → pCd s = none → Q (.panic [{ v := .iface 24 (.int .i64 4), recovered := false }]) a w') (h : AtC rcOps 22 [1, 3, 5, 7, 9, 11, 13, 17] (rcBase bx xb) (rcVal rb s) (RH w0 rb s (rcSt s) (rcI rb bx xb)) l a w) (hn : l.getD 18 true = false) (hd : ∀ o : Oper, rcOps[18]? = some o → ∀ e ∈ o.after.toList, Region.binds .any e = true → l.getD e.on false = true) : wpOp Tryz.prog rcOps Q 18 (AtC rcOps 22 [1, 3, 5, 7, 9, 11, 13, 17] (rcBase bx xb) (rcVal rb s) (RH w0 rb s (rcSt s) (rcI rb bx xb)) (l.setIfInBounds 18 true)) a w := by
  have hown : ownAt rcOps 22 (rcBase bx xb) 18 21 := ownAt_of (by kernel_rfl) rfl
  obtain ⟨o, ho⟩ : ∃ o, rcOps[18]? = some o := Option.isSome_iff_exists.1 (by kernel_rfl)
  have hop : o.op = Op.build 38 #[(0, Operand.tmp 4), (1, Operand.tmp 6), (2, Operand.tmp 8), (3, Operand.tmp 10), (4, Operand.tmp 12), (5, Operand.tmp 14), (6, Operand.tmp 16), (7, Operand.tmp 20)] := op_of ho (by kernel_rfl)
  have hg : o.guard = none := guard_of ho (by kernel_rfl)
  have p4 : rcVal rb s 1 (a.eval (.tmp 4)) w := h.done 1 4 (dep hd 1 (by kernel_rfl)) (by kernel_rfl)
  have p6 : rcVal rb s 3 (a.eval (.tmp 6)) w := h.done 3 6 (dep hd 3 (by kernel_rfl)) (by kernel_rfl)
  have p8 : rcVal rb s 5 (a.eval (.tmp 8)) w := h.done 5 8 (dep hd 5 (by kernel_rfl)) (by kernel_rfl)
  have p10 : rcVal rb s 7 (a.eval (.tmp 10)) w := h.done 7 10 (dep hd 7 (by kernel_rfl)) (by kernel_rfl)
  have p12 : rcVal rb s 9 (a.eval (.tmp 12)) w := h.done 9 12 (dep hd 9 (by kernel_rfl)) (by kernel_rfl)
  have p14 : rcVal rb s 11 (a.eval (.tmp 14)) w := h.done 11 14 (dep hd 11 (by kernel_rfl)) (by kernel_rfl)
  have p16 : rcVal rb s 13 (a.eval (.tmp 16)) w := h.done 13 16 (dep hd 13 (by kernel_rfl)) (by kernel_rfl)
  have p20 : rcVal rb s 17 (a.eval (.tmp 20)) w := h.done 17 20 (dep hd 17 (by kernel_rfl)) (by kernel_rfl)
  obtain ⟨nm, gnm, wnm, znm⟩ := p4
  obtain ⟨k, gk, wk⟩ := p6
  change a.eval (.tmp 6) = .int .i64 k at wk
  obtain ⟨⟨c0, c1, c2, c3⟩, gc, wc⟩ := p8
  change a.eval (.tmp 8) = .agg #[.int .i64 c0, .int .i64 c1, .int .i64 c2, .int .i64 c3] at wc
  obtain ⟨co, gco, wco⟩ := p10
  change a.eval (.tmp 10) = .int .i64 co at wco
  obtain ⟨p, gp, wp⟩ := p12
  change a.eval (.tmp 12) = .int .i64 p at wp
  obtain ⟨t, gt, wt⟩ := p14
  change a.eval (.tmp 14) = .int .i64 t at wt
  obtain ⟨ke, gke, wke⟩ := p16
  change a.eval (.tmp 16) = .int .i64 ke at wke
  obtain ⟨A, gA, M, aa, ac, rfl, wA, _, kA⟩ := p20
  have hke : In64 ke := by
    obtain ⟨u, t2, hu2⟩ := take_some gke
    have := (row_num _ _ _ hu2).2
    unfold In64; omega
  have kC : Kd vC.S rb (fun W => CdR W ⟨nm, k, c0, c1, c2, c3, co, p, t, ke, aa, M.length, ac⟩ M) w :=
    (kA.more (S' := vC.S) (sub_of (by decide))).map fun W h => ⟨rfl, isA_row rfl h.2 h.1⟩
  exact h.pure ho hown rfl hg (v := vC.val (⟨nm, k, c0, c1, c2, c3, co, p, t, ke, aa, M.length, ac⟩, M)) (by simp only [execOp, hop, List.map_toArray, List.map_cons, List.map_nil, wnm, wk, wc, wco, wp, wt, wke, wA]; first | go_simp | kernel_rfl)
    ⟨nm, k, (c0, c1, c2, c3), co, p, t, ke, M.map vA.g, ⟨gnm, gk, gc, gco, gp, gt, gke, gA⟩, (⟨nm, k, c0, c1, c2, c3, co, p, t, ke, aa, M.length, ac⟩, M), by simp [mkCd, bareC], rfl, ⟨by show nm.size ≤ maxLen; unfold maxLen; omega, hke⟩, kC⟩

end
theorem rcStep {w0 : World} {Q : Exit → Act → World → Prop} {rb bx xb : Nat} {s : ByteArray} (hs : s.size ≤ 70368744177664) (hQ : ∀ (a : Act) (w' : World), a.defers = [] → w0.grownBy w' (some rb) → pCd s = none → Q (.panic [{ v := .iface 24 (.int .i64 4), recovered := false }]) a w') (l : Array Bool) (a : Act) (w : World) (kk : Nat) (h : AtC rcOps 22 [1, 3, 5, 7, 9, 11, 13, 17] (rcBase bx xb) (rcVal rb s) (RH w0 rb s (rcSt s) (rcI rb bx xb)) l a w) (hi : kk < 19) (hn : l.getD kk true = false) (hd : ∀ o : Oper, rcOps[kk]? = some o → ∀ e ∈ o.after.toList, Region.binds .any e = true → l.getD e.on false = true) : wpOp Tryz.prog rcOps Q kk (AtC rcOps 22 [1, 3, 5, 7, 9, 11, 13, 17] (rcBase bx xb) (rcVal rb s) (RH w0 rb s (rcSt s) (rcI rb bx xb)) (l.setIfInBounds kk true)) a w := by
  match kk, hi, hn, hd with
  | 0, _, hn, hd => exact rcOp0 hs hQ h hn hd
  | 1, _, hn, hd => exact rcOp1 hs hQ h hn hd
  | 2, _, hn, hd => exact rcOp2 hs hQ h hn hd
  | 3, _, hn, hd => exact rcOp3 hs hQ h hn hd
  | 4, _, hn, hd => exact rcOp4 hs hQ h hn hd
  | 5, _, hn, hd => exact rcOp5 hs hQ h hn hd
  | 6, _, hn, hd => exact rcOp6 hs hQ h hn hd
  | 7, _, hn, hd => exact rcOp7 hs hQ h hn hd
  | 8, _, hn, hd => exact rcOp8 hs hQ h hn hd
  | 9, _, hn, hd => exact rcOp9 hs hQ h hn hd
  | 10, _, hn, hd => exact rcOp10 hs hQ h hn hd
  | 11, _, hn, hd => exact rcOp11 hs hQ h hn hd
  | 12, _, hn, hd => exact rcOp12 hs hQ h hn hd
  | 13, _, hn, hd => exact rcOp13 hs hQ h hn hd
  | 14, _, hn, hd => exact rcOp14 hs hQ h hn hd
  | 15, _, hn, hd => exact rcOp15 hs hQ h hn hd
  | 16, _, hn, hd => exact rcOp16 hs hQ h hn hd
  | 17, _, hn, hd => exact rcOp17 hs hQ h hn hd
  | 18, _, hn, hd => exact rcOp18 hs hQ h hn hd
  | k + 19, hi, _, _ => omega
theorem rcSize : rcOps.size = 20 := by kernel_rfl
theorem rcDeps : ∀ j, j < 19 → depOn rcOps 19 j = true := fun j hj => (List.all_eq_true.1 (show ((List.range 19).all fun j => depOn rcOps 19 j) = true by kernel_rfl)) j (List.mem_range.2 hj)
set_option maxHeartbeats 4000000 in
theorem card1_any : Reads pCd 29 (fun rb => #[rdV rb]) (VV vC.g vC.val vC.C vC.S vC.R) := by
  intro rb s w hs hr
  suffices key : ∀ Post : Ending → World → Prop, (∀ e w', (w.grownBy w' (some rb) ∧ ((pCd s = none ∧ e = Gone) ∨ ∃ x t v, pCd s = some (x, t) ∧ t.size ≤ s.size ∧ e = .returned v ∧ Rd1 rb t w' ∧ VV vC.g vC.val vC.C vC.S vC.R rb x v w')) → Post e w') →
      Calls Tryz.prog 29 ((fun rb => #[rdV rb]) rb) w Post from key _ (fun _ _ h => h)
  intro Post hPost
  have HPo := Lib.hid hPost
  clear hPost
  have hrb := hr.lt
  have HR := Lib.hid (show Rd1 rb s ((w.alloc (.cells #[.pointer (some ⟨rb, 0, none⟩)] 62)).alloc (.cells #[.string ⟨#[]⟩, .int .i64 0, .int .i64 0, .int .i64 0, .int .i64 0, .int .i64 0, .int .i64 0, .int .i64 0, .int .i64 0, .int .i64 0, .slice none 0 0] 38)) from (hr.alloc _).alloc _)
  have HG := Lib.hid (grown_new (grown_new (World.grownBy.refl w (some rb)) (.cells #[.pointer (some ⟨rb, 0, none⟩)] 62)) (.cells #[.string ⟨#[]⟩, .int .i64 0, .int .i64 0, .int .i64 0, .int .i64 0, .int .i64 0, .int .i64 0, .int .i64 0, .int .i64 0, .int .i64 0, .slice none 0 0] 38))
  have HI := Lib.hid (show rcI rb w.heap.size (w.heap.size + 1) ((w.alloc (.cells #[.pointer (some ⟨rb, 0, none⟩)] 62)).alloc (.cells #[.string ⟨#[]⟩, .int .i64 0, .int .i64 0, .int .i64 0, .int .i64 0, .int .i64 0, .int .i64 0, .int .i64 0, .int .i64 0, .int .i64 0, .slice none 0 0] 38)) from
    ⟨by omega, by omega, (Bk.new w _ _).below (below_alloc1 _ _), by have := Bk.new (w.alloc (.cells #[.pointer (some ⟨rb, 0, none⟩)] 62)) #[.string ⟨#[]⟩, .int .i64 0, .int .i64 0, .int .i64 0, .int .i64 0, .int .i64 0, .int .i64 0, .int .i64 0, .int .i64 0, .int .i64 0, .slice none 0 0] 38; simpa using this⟩)
  have HS := Lib.hid hs
  clear hr hs
  go_enter Tryz.func29, Tryz.ntmps29
  go_wp2_with fail
  generalize (w.alloc (.cells #[.pointer (some ⟨rb, 0, none⟩)] 62)).alloc (.cells #[.string ⟨#[]⟩, .int .i64 0, .int .i64 0, .int .i64 0, .int .i64 0, .int .i64 0, .int .i64 0, .int .i64 0, .int .i64 0, .int .i64 0, .slice none 0 0] 38) = w1 at *
  rename_i KK hKK
  refine region_lastC (m := 19) (ops := rcOps) (n := 22) (cs := [1, 3, 5, 7, 9, 11, 13, 17]) (base := rcBase w.heap.size (w.heap.size + 1)) (val := rcVal rb s) (H := RH w rb s (rcSt s) (rcI rb w.heap.size (w.heap.size + 1))) (by kernel_rfl) (earlier_of (by kernel_rfl)) rcSize rcDeps ?start (fun l a w' i h hi hn hd => rcStep HS.out (fun a w' h1 h2 h3 => ⟨h1, HPo.out _ _ ⟨h2, .inl ⟨h3, rfl⟩⟩⟩) l a w' i h hi hn hd) ?last
  case start =>
    refine AtC.begins rfl rfl ⟨s, rfl, Nat.le_refl _, HR.out, ⟨HG.out.os, HG.out.tape, HG.out.output, HG.out.size, HG.out.block⟩, HI.out⟩ fun k v hk => ?_
    unfold rcBase at hk
    split at hk
    · rename_i e; subst e; cases hk; rfl
    · split at hk
      · rename_i e; subst e; cases hk; rfl
      · cases hk
  case last =>
    intro l a w' h hall
    obtain ⟨u, hu, hus, hrd, hg, hi⟩ := h.last (fun i hi => hall _ (by
      have hi2 : i = 0 ∨ i = 1 ∨ i = 2 ∨ i = 3 ∨ i = 4 ∨ i = 5 ∨ i = 6 ∨ i = 7 := by simp at hi; omega
      rcases hi2 with rfl | rfl | rfl | rfl | rfl | rfl | rfl | rfl <;> decide))
    have hv : rcVal rb s 18 (a.tmps.getD 21 undef) w' := h.done 18 21 (hall 18 (by omega)) (by kernel_rfl)
    obtain ⟨oo, ho⟩ : ∃ oo, rcOps[19]? = some oo := Option.isSome_iff_exists.1 (by kernel_rfl)
    have hop : oo.op = Op.store 38 (Operand.tmp 2) (Operand.tmp 21) := op_of ho (by kernel_rfl)
    have hgd : oo.guard = none := guard_of ho (by kernel_rfl)
    have hdst : oo.dst = none := dst_of ho (by kernel_rfl)
    have v2 : a.eval (.tmp 2) = .pointer (some ⟨w.heap.size + 1, 0, none⟩) := h.fixed 2 _ rfl
    have hdf : a.defers = [] := h.defers
    have hsz : a.tmps.size = 22 := h.tmps
    have HB := Lib.hid hi.2.2.2
    have HRd := Lib.hid hrd
    have HGg := Lib.hid hg
    have HUs := Lib.hid hus
    clear hall h hi hrd hg hus
    have c0 := HB.out.cell 0
    have f0 := HB.out.free 0
    have c1 := HB.out.cell 1
    have f1 := HB.out.free 1
    have c2 := HB.out.cell 2
    have f2 := HB.out.free 2
    have c3 := HB.out.cell 3
    have f3 := HB.out.free 3
    have c4 := HB.out.cell 4
    have f4 := HB.out.free 4
    have c5 := HB.out.cell 5
    have f5 := HB.out.free 5
    have c6 := HB.out.cell 6
    have f6 := HB.out.free 6
    have c7 := HB.out.cell 7
    have f7 := HB.out.free 7
    have c8 := HB.out.cell 8
    have f8 := HB.out.free 8
    have c9 := HB.out.cell 9
    have f9 := HB.out.free 9
    have c10 := HB.out.cell 10
    have f10 := HB.out.free 10
    simp at c0 c1 c2 c3 c4 c5 c6 c7 c8 c9 c10
    obtain ⟨nm, k, c, co, p, t, ke, A, ht, y, hgy, hvy, hC, hK⟩ := hv
    have HAll := Lib.hid (rcAll hu ht)
    have HK := Lib.hid hK
    have HC := Lib.hid hC
    have HGy := Lib.hid hgy
    clear hu ht hK hC hgy
    have v21 : a.eval (.tmp 21) = vC.val y := hvy
    obtain ⟨tm, df⟩ := a
    simp only at hdf hsz hvy
    subst hdf
    obtain ⟨v, hvs⟩ : ∃ v : Nat → Value, ∀ s, tm.getD s undef = v s := ⟨_, fun _ => rfl⟩
    have e2 : v 2 = .pointer (some ⟨w.heap.size + 1, 0, none⟩) := (hvs 2).symm.trans v2
    have e : tm = #[v 0, v 1, v 2, v 3, v 4, v 5, v 6, v 7, v 8, v 9, v 10, v 11, v 12, v 13, v 14, v 15, v 16, v 17, v 18, v 19, v 20, v 21] := (slots_of tm 22 hsz).trans (by simp only [hvs]; rfl)
    rw [e2] at e
    unfold wpOp
    rw [ho]
    simp only
    rw [if_pos (show Region.wanted oo (yielded rcOps tm) = true from guard_none (a := ⟨tm, []⟩) hgd)]
    left
    unfold Oper.wp
    simp only [execOp, hop, v2, v21]
    go_simp
    refine hKK _ _ ?_
    have HFin := Lib.hid (show _ from put_step (T := 38) (by omega) (by omega) (by decide) 10 (.slice y.1.aa y.1.an y.1.ac) (put_step (T := 38) (by omega) (by omega) (by decide) 9 (.int .i64 y.1.keys) (put_step (T := 38) (by omega) (by omega) (by decide) 8 (.int .i64 y.1.tou) (put_step (T := 38) (by omega) (by omega) (by decide) 7 (.int .i64 y.1.pow) (put_step (T := 38) (by omega) (by omega) (by decide) 6 (.int .i64 y.1.col) (put_step (T := 38) (by omega) (by omega) (by decide) 5 (.int .i64 y.1.c3) (put_step (T := 38) (by omega) (by omega) (by decide) 4 (.int .i64 y.1.c2) (put_step (T := 38) (by omega) (by omega) (by decide) 3 (.int .i64 y.1.c1) (put_step (T := 38) (by omega) (by omega) (by decide) 2 (.int .i64 y.1.c0) (put_step (T := 38) (by omega) (by omega) (by decide) 1 (.int .i64 y.1.k) (put_step (T := 38) (by omega) (by omega) (by decide) 0 (.string y.1.nm) (⟨HGg.out, HRd.out, HK.out, _, HB.out⟩))))))))))))
    have hb9 : Bk ((((((((((((w'.setCell ⟨w.heap.size + 1, 0, none⟩ (.string y.1.nm)).setCell ⟨w.heap.size + 1, 1, none⟩ (.int .i64 y.1.k)).setCell ⟨w.heap.size + 1, 2, none⟩ (.int .i64 y.1.c0)).setCell ⟨w.heap.size + 1, 3, none⟩ (.int .i64 y.1.c1)).setCell ⟨w.heap.size + 1, 4, none⟩ (.int .i64 y.1.c2)).setCell ⟨w.heap.size + 1, 5, none⟩ (.int .i64 y.1.c3)).setCell ⟨w.heap.size + 1, 6, none⟩ (.int .i64 y.1.col)).setCell ⟨w.heap.size + 1, 7, none⟩ (.int .i64 y.1.pow)).setCell ⟨w.heap.size + 1, 8, none⟩ (.int .i64 y.1.tou)).setCell ⟨w.heap.size + 1, 9, none⟩ (.int .i64 y.1.keys)).setCell ⟨w.heap.size + 1, 10, none⟩ (.slice y.1.aa y.1.an y.1.ac))) (w.heap.size + 1) #[.string y.1.nm, .int .i64 y.1.k, .int .i64 y.1.c0, .int .i64 y.1.c1, .int .i64 y.1.c2, .int .i64 y.1.c3, .int .i64 y.1.col, .int .i64 y.1.pow, .int .i64 y.1.tou, .int .i64 y.1.keys, .slice y.1.aa y.1.an y.1.ac] 38 := by
      have h9 := (((((((((((HB.out.set 0 (.string y.1.nm)).set 1 (.int .i64 y.1.k)).set 2 (.int .i64 y.1.c0)).set 3 (.int .i64 y.1.c1)).set 4 (.int .i64 y.1.c2)).set 5 (.int .i64 y.1.c3)).set 6 (.int .i64 y.1.col)).set 7 (.int .i64 y.1.pow)).set 8 (.int .i64 y.1.tou)).set 9 (.int .i64 y.1.keys)).set 10 (.slice y.1.aa y.1.an y.1.ac))
      simpa using h9
    clear c0 f0 c1 f1 c2 f2 c3 f3 c4 f4 c5 f5 c6 f6 c7 f7 c8 f8 c9 f9 c10 f10
    generalize (((((((((((w'.setCell ⟨w.heap.size + 1, 0, none⟩ (.string y.1.nm)).setCell ⟨w.heap.size + 1, 1, none⟩ (.int .i64 y.1.k)).setCell ⟨w.heap.size + 1, 2, none⟩ (.int .i64 y.1.c0)).setCell ⟨w.heap.size + 1, 3, none⟩ (.int .i64 y.1.c1)).setCell ⟨w.heap.size + 1, 4, none⟩ (.int .i64 y.1.c2)).setCell ⟨w.heap.size + 1, 5, none⟩ (.int .i64 y.1.c3)).setCell ⟨w.heap.size + 1, 6, none⟩ (.int .i64 y.1.col)).setCell ⟨w.heap.size + 1, 7, none⟩ (.int .i64 y.1.pow)).setCell ⟨w.heap.size + 1, 8, none⟩ (.int .i64 y.1.tou)).setCell ⟨w.heap.size + 1, 9, none⟩ (.int .i64 y.1.keys)).setCell ⟨w.heap.size + 1, 10, none⟩ (.slice y.1.aa y.1.an y.1.ac)) = W9 at *
    have d0 := hb9.cell 0
    have d1 := hb9.cell 1
    have d2 := hb9.cell 2
    have d3 := hb9.cell 3
    have d4 := hb9.cell 4
    have d5 := hb9.cell 5
    have d6 := hb9.cell 6
    have d7 := hb9.cell 7
    have d8 := hb9.cell 8
    have d9 := hb9.cell 9
    have d10 := hb9.cell 10
    simp at d0 d1 d2 d3 d4 d5 d6 d7 d8 d9 d10
    clear hb9
    go_wp2_with fail
    refine bodyPost_ret (v := vC.val y) (by simp [results, Tryz.results29, go_sem, d0, d1, d2, d3, d4, d5, d6, d7, d8, d9, d10]) rfl ?_
    exact HPo.out _ _ ⟨HFin.out.1, .inr ⟨_, _, _, HAll.out, HUs.out, rfl, HFin.out.2.1, y, HGy.out, rfl, HC.out, HFin.out.2.2.1⟩⟩
end Go.Proofs.YtbeaaieaffdgeaaGreatDoor
end
/- works. -/
section
namespace Go.Proofs.YtbeaaieaffdgeaaGreatDoor
open Go.RowKit
set_option linter.unusedVariables false
set_option linter.unusedSimpArgs false

theorem all_map {α β : Type} (f : β → Bool) (g : α → β) (A : List α) : (A.map g).all f = A.all fun x => f (g x) := by
  induction A with
  | nil => rfl
  | cons a A ih => simp [ih]
theorem any_map {α β : Type} (f : β → Bool) (g : α → β) (A : List α) : (A.map g).any f = A.any fun x => f (g x) := by
  induction A with
  | nil => rfl
  | cons a A ih => simp [ih]
/-- Addresses are not asked. -/
theorem chkC_er (y : Cd) (A : List AbT) (cards : Int) : chkC (erC y) (A.map erT) cards = chkC y A cards := by
  have h1 : longB (erC y) (A.map erT) = longB y A := by rw [longB, any_map]; rfl
  have h3 : canB ((erC y).k == 3) (A.map erT) cards = canB (y.k == 3) A cards := by rw [canB, all_map, List.length_map]; rfl
  rw [chkC, chkC, h1, h3]
  rfl
theorem chk_of {y : Cd} {A : List AbT} {p : Cd × List AbT} (h1 : erC y = p.1) (h2 : A.map erT = p.2) (cards : Int) : chkC y A cards = chkC p.1 p.2 cards := by
  rw [← h1, ← h2, chkC_er]
theorem plain_ok (k : Nat) (h1 : 1 ≤ k) (h4 : k ≤ 4) : chkC (pC k) (pA k) 2 = 0 := by
  obtain rfl | rfl | rfl | rfl : k = 1 ∨ k = 2 ∨ k = 3 ∨ k = 4 := by omega
  all_goals decide +kernel
end Go.Proofs.YtbeaaieaffdgeaaGreatDoor
end
/- The program's Decode: what it gives up is recovered. -/
section
namespace Go.Proofs.YtbeaaieaffdgeaaGreatDoor
open Go.RowKit
set_option linter.unusedVariables false
set_option linter.unusedSimpArgs false

theorem catch_panic (b : Nat) (x y : Value) (u : TypeId) (pv : Value) (older : List PanicEntry) (w : World) (hx : Bk w b #[x] 22) (hy : Bk w (b + 1) #[y] 24) :
    CallsD Tryz.prog 26 #[.pointer (some ⟨b, 0, none⟩), .pointer (some ⟨b + 1, 0, none⟩)] (.panicking ({ v := .iface u pv, recovered := false } :: older)) w fun e u' w' =>
      e = .returned (.tuple #[]) ∧ u' = .panicking ({ v := .iface u pv, recovered := true } :: older) ∧ w' = (w.setCell ⟨b, 0, none⟩ (.slice none 0 0)).setCell ⟨b + 1, 0, none⟩ (.int .i64 4) := by
  have c0 := hx.cell 0
  have f0 := hx.free 0
  have c1 := hy.cell 0
  have f1 := hy.free 0
  simp at c0 c1
  refine callsD_of_wpS Tryz.func26 rfl fun c₀ cs hu => ?_
  apply wpS_seq
  apply wpS_region
  simp [wpOpsS, go_sem, recoverD, hu, Tryz.ntmps26, Exit.thenS]
  refine wpS_cond (t := true) (by simp [Act.eval, Array.replicate]) ?_
  simp only [if_true]
  apply wpS_region
  simp [wpOpsS, go_sem, c0, f0, c1, f1, bodyPostS, results, Tryz.results26]
theorem catch_idle (b : Nat) (w : World) :
    CallsD Tryz.prog 26 #[.pointer (some ⟨b, 0, none⟩), .pointer (some ⟨b + 1, 0, none⟩)] .returning w fun e u' w' => e = .returned (.tuple #[]) ∧ u' = .returning ∧ w' = w := by
  refine callsD_of_wpS Tryz.func26 rfl fun c₀ cs hu => ?_
  apply wpS_seq
  apply wpS_region
  simp [wpOpsS, go_sem, recoverD, hu, Tryz.ntmps26, Exit.thenS]
  refine wpS_cond (t := false) (by simp [Act.eval, Array.replicate]) ?_
  simp only [Bool.false_eq_true, if_false]
  refine wpS_of_wp (wp_skip ?_)
  cases c₀
  simp_all [bodyPostS, results, Tryz.results26]
/-- What Check tells is told of the cards without their addresses. -/
theorem bare_er {y : Cd} {A : List AbT} {w : World} (h : CdR w y A) : bareC (y, A) = (erC y, A.map erT) := by
  have h1 : A.map bareA = A.map erT := List.map_congr_left fun t ht => by
    obtain ⟨⟨h2, _⟩, h3, _⟩ := h.2.2.2.1 t ht
    simp only [bareA, erT, erA, h2, h3]
  simp only [bareC, h1, erC, h.1]
theorem inB_bare {w : World} (M : List CdT) (c : CdT) (h : CdR w c.1 c.2) : inB (M.map bareC) (bareC c) = inB M c := by
  have e1 : ∀ C, tokB (M.map bareC) C = tokB M C := fun C => by
    unfold tokB
    congr 1
    funext x
    rw [List.getElem?_map]
    cases M[x.b.toNat]? <;> rfl
  have e2 := bare_er (y := c.1) (A := c.2) h
  have e3 : bareC c = (erC c.1, c.2.map erT) := e2
  unfold inB
  rw [e3, List.length_map]
  simp only [chkC_er, List.all_map]
  congr 1
  refine congrArg (fun f => c.2.all f) (funext fun t => ?_)
  show tokB (M.map bareC) (erT t).2.2 = tokB M t.2.2
  rw [e1]; rfl
theorem twice_bare : ∀ M : List CdT, twiceB (M.map bareC) = twiceB M
  | [] => rfl
  | c :: M => by
    have ih := twice_bare M
    simp only [List.map_cons, twiceB, ih, List.any_map]
    rfl
theorem chkP_bare {w : World} (M : List CdT) (h : ∀ c ∈ M, CdR w c.1 c.2) : chkP (M.map bareC) = chkP M := by
  have e : (M.map bareC).all (inB (M.map bareC)) = M.all (inB M) := by
    rw [List.all_map]
    have : ∀ N : List CdT, (∀ c ∈ N, c ∈ M) → N.all (inB (M.map bareC) ∘ bareC) = N.all (inB M) := by
      intro N
      induction N with
      | nil => intro _; rfl
      | cons c N ih =>
        intro hN
        simp only [List.all_cons, Function.comp]
        rw [inB_bare M c (h c (hN c (by simp))), ← ih (fun d hd => hN d (by simp [hd]))]
    exact this M (fun c hc => hc)
  unfold chkP
  rw [List.length_map, e, twice_bare]
/-- WHAT DECODE TELLS. -/
def DecOut (s : ByteArray) (w : World) (e : Ending) (w' : World) : Prop :=
  Below w.heap.size w w' ∧
  ((∃ L, pPool s = some (L, ByteArray.empty) ∧ chkP L = 0 ∧ ∃ M a c, M.map bareC = L ∧ e = .returned (.tuple #[.slice a M.length c, .int .i64 0]) ∧ IsP w' a c M ∧ PCd M) ∨
   ((∀ L, pPool s = some (L, ByteArray.empty) → chkP L ≠ 0) ∧ e = .returned (.tuple #[.slice none 0 0, .int .i64 4])))
/-- Decode's own blocks. -/
def DS (w : World) (lv ev : Value) (u : ByteArray) (W : World) : Prop :=
  Bk W w.heap.size #[lv] 22 ∧ Bk W (w.heap.size + 1) #[ev] 24 ∧ Rd1 (w.heap.size + 1 + 1) u W ∧ Bk W (w.heap.size + 1 + 1 + 1) #[.pointer (some ⟨w.heap.size + 1 + 1, 0, none⟩)] 62 ∧ Below w.heap.size w W
theorem DS.start (w : World) (s : ByteArray) : DS w (.slice none 0 0) (.int .i64 0) s ((((w.alloc (.cells #[.slice none 0 0] 22)).alloc (.cells #[.int .i64 0] 24)).alloc (.cells #[.string s, .bool false] 91 (0, 0))).alloc (.cells #[.pointer (some ⟨w.heap.size + 1 + 1, 0, none⟩)] 62)) := by
  refine ⟨(((Bk.new w _ _).below (below_alloc1 _ _)).below (below_alloc1 _ _)).below (below_alloc1 _ _), ?_, ?_, ?_, ?_⟩
  · have h := ((Bk.new (w.alloc (.cells #[.slice none 0 0] 22)) #[.int .i64 0] 24).below (below_alloc1 _ (.cells #[.string s, .bool false] 91 (0, 0)))).below (below_alloc1 _ (.cells #[.pointer (some ⟨w.heap.size + 1 + 1, 0, none⟩)] 62))
    simpa using h
  · have h : Rd1 _ s _ := ((RdT.new 91 s false ((w.alloc (.cells #[.slice none 0 0] 22)).alloc (.cells #[.int .i64 0] 24))).alloc (.cells #[.pointer (some ⟨w.heap.size + 1 + 1, 0, none⟩)] 62))
    simpa using h
  · have h := Bk.new (((w.alloc (.cells #[.slice none 0 0] 22)).alloc (.cells #[.int .i64 0] 24)).alloc (.cells #[.string s, .bool false] 91 (0, 0))) #[.pointer (some ⟨w.heap.size + 1 + 1, 0, none⟩)] 62
    simpa using h
  · exact (((below_alloc1 w _).alloc (by simp) _).alloc (by simp; omega) _).alloc (by simp; omega) _
theorem DS.read {w W W' : World} {lv ev : Value} {u u' : ByteArray} (h : DS w lv ev u W) (g : W.grownBy W' (some (w.heap.size + 1 + 1))) (hr : Rd1 (w.heap.size + 1 + 1) u' W') : DS w lv ev u' W' :=
  ⟨h.1.read g (by omega), h.2.1.read g (by omega), hr, h.2.2.2.1.read g (by omega), h.2.2.2.2.grown g h.2.2.2.2.size (fun j hj => by cases hj; omega)⟩
theorem DS.call {w W W' : World} {lv ev : Value} {u : ByteArray} (h : DS w lv ev u W) (k : Below W.heap.size W W') : DS w lv ev u W' :=
  ⟨h.1.below k, h.2.1.below k, h.2.2.1.below k, h.2.2.2.1.below k, below_then' h.2.2.2.2 k h.2.2.2.2.size⟩
theorem DS.set0 {w W : World} {lv ev : Value} {u : ByteArray} (h : DS w lv ev u W) (v : Value) : DS w v ev u (W.setCell ⟨w.heap.size, 0, none⟩ v) :=
  ⟨by simpa using h.1.set 0 v, h.2.1.far ⟨w.heap.size, 0, none⟩ v (by show w.heap.size ≠ w.heap.size + 1; omega), Rd1.far h.2.2.1 ⟨w.heap.size, 0, none⟩ v (by show w.heap.size ≠ w.heap.size + 1 + 1; omega), h.2.2.2.1.far ⟨w.heap.size, 0, none⟩ v (by show w.heap.size ≠ w.heap.size + 1 + 1 + 1; omega), h.2.2.2.2.setCell (Nat.le_refl _) v⟩
theorem DS.set1 {w W : World} {lv ev : Value} {u : ByteArray} (h : DS w lv ev u W) (v : Value) : DS w lv v u (W.setCell ⟨w.heap.size + 1, 0, none⟩ v) :=
  ⟨h.1.far ⟨w.heap.size + 1, 0, none⟩ v (by show w.heap.size + 1 ≠ w.heap.size; omega), by simpa using h.2.1.set 0 v, Rd1.far h.2.2.1 ⟨w.heap.size + 1, 0, none⟩ v (by show w.heap.size + 1 ≠ w.heap.size + 1 + 1; omega), h.2.2.2.1.far ⟨w.heap.size + 1, 0, none⟩ v (by show w.heap.size + 1 ≠ w.heap.size + 1 + 1 + 1; omega), h.2.2.2.2.setCell (by show w.heap.size ≤ w.heap.size + 1; omega) v⟩
/-- At the door, where reading was given up; where it was not. -/
theorem door_gone {s : ByteArray} {w W : World} {lv ev : Value} (tm : Array Value) (h2 : tm.getD 2 undef = .pointer (some ⟨w.heap.size, 0, none⟩)) (h3 : tm.getD 3 undef = .pointer (some ⟨w.heap.size + 1, 0, none⟩))
    (hl : Bk W w.heap.size #[lv] 22) (he : Bk W (w.heap.size + 1) #[ev] 24) (hB : Below w.heap.size w W) (hbad : ∀ L, pPool s = some (L, ByteArray.empty) → chkP L ≠ 0) :
    Leaves Tryz.prog Tryz.f11 tm (fun e w' => DecOut s w e w') [{ target := .fn (.func 26) #[.pointer (some ⟨w.heap.size, 0, none⟩), .pointer (some ⟨w.heap.size + 1, 0, none⟩)], args := #[] }] (.panicking [{ v := .iface 24 (.int .i64 4), recovered := false }]) W := by
  refine leaves_cons (f := 26) (args := #[.pointer (some ⟨w.heap.size, 0, none⟩), .pointer (some ⟨w.heap.size + 1, 0, none⟩)]) (by simp) (by simp [go_sem]) ?_
  refine (catch_panic w.heap.size _ _ _ _ [] _ hl he).mono ?_
  rintro e u' w'' ⟨rfl, rfl, rfl⟩
  have k0 : Bk ((W.setCell ⟨w.heap.size, 0, none⟩ (.slice none 0 0)).setCell ⟨w.heap.size + 1, 0, none⟩ (.int .i64 4)) w.heap.size #[.slice none 0 0] 22 := by
    have h := (hl.set 0 (.slice none 0 0)).far ⟨w.heap.size + 1, 0, none⟩ (.int .i64 4) (by show w.heap.size + 1 ≠ w.heap.size; omega)
    simpa using h
  have k1 : Bk ((W.setCell ⟨w.heap.size, 0, none⟩ (.slice none 0 0)).setCell ⟨w.heap.size + 1, 0, none⟩ (.int .i64 4)) (w.heap.size + 1) #[.int .i64 4] 24 := by
    have h := (he.far ⟨w.heap.size, 0, none⟩ (.slice none 0 0) (by show w.heap.size ≠ w.heap.size + 1; omega)).set 0 (.int .i64 4)
    simpa using h
  have hB9 := (hB.setCell (p := ⟨w.heap.size, 0, none⟩) (Nat.le_refl _) (.slice none 0 0)).setCell (p := ⟨w.heap.size + 1, 0, none⟩) (by show w.heap.size ≤ w.heap.size + 1; omega) (.int .i64 4)
  generalize (W.setCell ⟨w.heap.size, 0, none⟩ (.slice none 0 0)).setCell ⟨w.heap.size + 1, 0, none⟩ (.int .i64 4) = W9 at *
  have d0 := k0.cell 0
  have d1 := k1.cell 0
  simp at d0 d1
  refine ⟨.tuple #[.slice none 0 0, .int .i64 4], ?_, hB9, .inr ⟨hbad, rfl⟩⟩
  simp [results, Tryz.results11, go_sem, d0, d1]
  simp [Array.getD_eq_getD_getElem?] at h2 h3
  simp [h2, h3, d0, d1, go_sem]
theorem door_good {s : ByteArray} {w W : World} {lv ev : Value} (tm : Array Value) (h2 : tm.getD 2 undef = .pointer (some ⟨w.heap.size, 0, none⟩)) (h3 : tm.getD 3 undef = .pointer (some ⟨w.heap.size + 1, 0, none⟩))
    (hl : Bk W w.heap.size #[lv] 22) (he : Bk W (w.heap.size + 1) #[ev] 24) (R : DecOut s w (.returned (.tuple #[lv, ev])) W) :
    Leaves Tryz.prog Tryz.f11 tm (fun e w' => DecOut s w e w') [{ target := .fn (.func 26) #[.pointer (some ⟨w.heap.size, 0, none⟩), .pointer (some ⟨w.heap.size + 1, 0, none⟩)], args := #[] }] .returning W := by
  refine leaves_cons (f := 26) (args := #[.pointer (some ⟨w.heap.size, 0, none⟩), .pointer (some ⟨w.heap.size + 1, 0, none⟩)]) (by simp) (by simp [go_sem]) ?_
  refine (catch_idle w.heap.size _).mono ?_
  rintro e u' w'' ⟨rfl, rfl, rfl⟩
  have d0 := hl.cell 0
  have d1 := he.cell 0
  simp at d0 d1
  refine ⟨.tuple #[lv, ev], ?_, R⟩
  simp [Array.getD_eq_getD_getElem?] at h2 h3
  simp [results, Tryz.results11, go_sem, h2, h3, d0, d1]
theorem DS.rows {w W : World} {lv ev : Value} {u : ByteArray} (h : DS w lv ev u W) (v : Value) {S : List TypeId} {rb : Nat} (hS : S.contains 22 = false := by decide) : ∀ k c e fz, W.heap[k]? = some (.cells c e fz) → S.contains e = true → k ≠ rb → (W.setCell ⟨w.heap.size, 0, none⟩ v).heap[k]? = W.heap[k]? := by
  intro k c e fz hk he _
  refine Below.heap_setCell _ _ _ _ (fun q => ?_)
  have q2 : k = w.heap.size := q
  have h1 : W.heap[w.heap.size]? = some (.cells #[lv] 22 (0, 0)) := h.1
  rw [q2, h1] at hk
  injection hk with hk
  injection hk with _ h5 _
  rw [← h5, hS] at he
  cases he
theorem DS.rows1 {w W : World} {lv ev : Value} {u : ByteArray} (h : DS w lv ev u W) (v : Value) {S : List TypeId} {rb : Nat} (hS : S.contains 24 = false := by decide) : ∀ k c e fz, W.heap[k]? = some (.cells c e fz) → S.contains e = true → k ≠ rb → (W.setCell ⟨w.heap.size + 1, 0, none⟩ v).heap[k]? = W.heap[k]? := by
  intro k c e fz hk he _
  refine Below.heap_setCell _ _ _ _ (fun q => ?_)
  have q2 : k = w.heap.size + 1 := q
  have h1 : W.heap[w.heap.size + 1]? = some (.cells #[ev] 24 (0, 0)) := h.2.1
  rw [q2, h1] at hk
  injection hk with hk
  injection hk with _ h5 _
  rw [← h5, hS] at he
  cases he
set_option maxRecDepth 100000 in
set_option maxHeartbeats 4000000 in
theorem decode_any (s : ByteArray) (hs : s.size ≤ 70368744177664) (w : World) (hT : Tabs w) :
    Calls Tryz.prog 11 #[.string s] w fun e w' => DecOut s w e w' := by
  have hmf : ∀ (fn : Fn) (first cap : Array Value) (w : World), (Instr.makeFunc fn first cap).run Tryz.prog w = .ok (.func fn first cap) w := fun _ _ _ _ => rfl
  have HL := Lib.hid (list_c 40 (by omega) card1_any)
  have HD0 := Lib.hid (DS.start w s)
  have HTb := Lib.hid hT
  have HS := Lib.hid hs
  clear hT hs
  go_enter_defers Tryz.func11, Tryz.ntmps11
  go_wp2_with fail
  refine (new_any _ _).mono ?_
  rintro e w1 ⟨rfl, rfl⟩
  go_wp2_with fail
  generalize (((w.alloc (.cells #[.slice none 0 0] 22)).alloc (.cells #[.int .i64 0] 24)).alloc (.cells #[.string s, .bool false] 91 (0, 0))).alloc (.cells #[.pointer (some ⟨w.heap.size + 1 + 1, 0, none⟩)] 62) = W1 at *
  refine (HL.out (w.heap.size + 1 + 1) s W1 HS.out HD0.out.2.2.1).mono ?_
  rintro e W2 ⟨g2, ⟨hno, rfl⟩ | ⟨L, u, v, hL, hus, rfl, hr2, M, a, c, rfl, rfl, hC, hK⟩⟩
  · have HBad := Lib.hid (show ∀ L, pPool s = some (L, ByteArray.empty) → chkP L ≠ 0 from fun L h => by rw [show pPool s = none from hno] at h; cases h)
    have HD2 := Lib.hid (show Bk W2 w.heap.size #[.slice none 0 0] 22 ∧ Bk W2 (w.heap.size + 1) #[.int .i64 0] 24 ∧ Below w.heap.size w W2 from ⟨HD0.out.1.read g2 (by omega), HD0.out.2.1.read g2 (by omega), HD0.out.2.2.2.2.grown g2 HD0.out.2.2.2.2.size (fun j hj => by cases hj; omega)⟩)
    clear g2 hno
    exact door_gone _ rfl rfl HD2.out.1 HD2.out.2.1 HD2.out.2.2 HBad.out
  · have HD2 := Lib.hid (HD0.out.read g2 hr2)
    have HPl := Lib.hid (show pPool s = some (M.map bareC, u) from hL)
    have HIs := Lib.hid (show IsP W2 a c M from isP_row rfl hK.now.2 hK.now.1)
    have HCd := Lib.hid (show PCd M from hC)
    have HCk := Lib.hid (chkP_bare M (fun c hc => hK.now.2 c hc))
    have hc0 := HD2.out.1.cell 0
    have hf0 := HD2.out.1.free 0
    have hc3 := HD2.out.2.2.2.1.cell 0
    simp at hc0 hc3
    have HD3 := Lib.hid (HD2.out.set0 (.slice a M.length c))
    have HI3 := Lib.hid (show Kd (38 :: vC.S) (w.heap.size + 1 + 1) (fun W => IsP W a c M) (W2.setCell ⟨w.heap.size, 0, none⟩ (.slice a M.length c)) from
      (hK.map (fun W h => isP_row rfl h.2 h.1)).next (by simp [World.setCell]) (DS.rows HD2.out _))
    clear g2 hL hus hr2 hK hC
    go_wp2_with fail
    generalize W2.setCell ⟨w.heap.size, 0, none⟩ (.slice a M.length c) = W3 at *
    clear hf0 hc0 hc3 HIs HD2
    obtain ⟨bb, hbb⟩ : ∃ bb, u.toList.isEmpty = bb := ⟨_, rfl⟩
    have hE := end_any (w.heap.size + 1 + 1) u false W3 HD3.out.2.2.1
    rw [hbb] at hE
    refine hE.mono ?_
    rintro e W4 ⟨rfl, rfl⟩
    have hc0 := HD3.out.1.cell 0
    have hf0 := HD3.out.1.free 0
    have hc1 := HD3.out.2.1.cell 0
    have hf1 := HD3.out.2.1.free 0
    simp at hc0 hc1
    clear hE
    cases bb
    · have HBad := Lib.hid (show ∀ L, pPool s = some (L, ByteArray.empty) → chkP L ≠ 0 from fun L h => by
        rw [HPl.out] at h
        simp only [Option.some.injEq, Prod.mk.injEq] at h
        rw [h.2] at hbb
        rw [ByteArray.toList_eq] at hbb
        simp at hbb)
      clear hbb
      go_wp2_with (go_at_call 30; refine (must_false _).mono ?_; rintro e w9 ⟨rfl, rfl⟩)
      exact door_gone _ rfl rfl HD3.out.1 HD3.out.2.1 HD3.out.2.2.2.2 HBad.out
    · have HU := Lib.hid (show u = ByteArray.empty by
        rw [ByteArray.toList_eq] at hbb
        apply ByteArray.ext
        apply Array.ext'
        simpa using hbb)
      clear hbb
      obtain ⟨r, hr⟩ : ∃ r, chkP M = r := ⟨_, rfl⟩
      have HR := Lib.hid hr
      clear hr
      go_wp2_with fail
      refine (pCheck_any a c M M.length rfl r HR.out HCd.out _ HI3.out.now (HTb.out.next HD3.out.2.2.2.2)).mono ?_
      rintro e W5 ⟨rfl, hb⟩
      have HD5 := Lib.hid (HD3.out.call hb)
      have HI5 := Lib.hid (HI3.out.below hb)
      have kc0 := HD5.out.1.cell 0
      have kf0 := HD5.out.1.free 0
      have kc1 := HD5.out.2.1.cell 0
      have kf1 := HD5.out.2.1.free 0
      simp at kc0 kc1
      clear hb hc0 hf0 hc1 hf1
      by_cases h0 : r = 0
      · subst h0
        have HD6 := Lib.hid ((HD5.out.set0 (.slice a M.length c)).set1 (.int .i64 0))
        have HI6 := Lib.hid (show IsP ((W5.setCell ⟨w.heap.size, 0, none⟩ (.slice a M.length c)).setCell ⟨w.heap.size + 1, 0, none⟩ (.int .i64 0)) a c M from
          ((HI5.out.next (by simp [World.setCell]) (DS.rows HD5.out (.slice a M.length c))).next (w' := (W5.setCell ⟨w.heap.size, 0, none⟩ (.slice a M.length c)).setCell ⟨w.heap.size + 1, 0, none⟩ (.int .i64 0)) (by simp [World.setCell]) (DS.rows1 (HD5.out.set0 (.slice a M.length c)) _)).now)
        go_wp2_with (go_at_call 30; refine (must_true _).mono ?_; rintro e w9 ⟨rfl, rfl⟩)
        generalize (W5.setCell ⟨w.heap.size, 0, none⟩ (.slice a M.length c)).setCell ⟨w.heap.size + 1, 0, none⟩ (.int .i64 0) = W6 at *
        refine door_good _ rfl rfl HD6.out.1 HD6.out.2.1 ⟨HD6.out.2.2.2.2, .inl ⟨M.map bareC, by rw [HPl.out, HU.out], by rw [HCk.out]; exact HR.out, M, a, c, rfl, rfl, HI6.out, HCd.out⟩⟩
      · have HBad := Lib.hid (show ∀ L, pPool s = some (L, ByteArray.empty) → chkP L ≠ 0 from fun L h => by
          rw [HPl.out] at h
          simp only [Option.some.injEq, Prod.mk.injEq] at h
          rw [← h.1, HCk.out, HR.out]
          exact h0)
        have hb0 : (r == 0) = false := by simpa using h0
        clear h0
        go_wp2_with (go_at_call 30; refine (must_false _).mono ?_; rintro e w9 ⟨rfl, rfl⟩)
        exact door_gone _ rfl rfl HD5.out.1 HD5.out.2.1 HD5.out.2.2.2.2 HBad.out
end Go.Proofs.YtbeaaieaffdgeaaGreatDoor
end
/- The laws' pools: land, lands; what Encode and Decode tell, put together. -/
section
namespace Go.Proofs.YtbeaaieaffdgeaaGreatDoor
open Go.RowKit
set_option linter.unusedVariables false
set_option linter.unusedSimpArgs false

/-- A land of this name. -/
abbrev landC (nm : ByteArray) : Cd := ⟨nm, 1, 0, 0, 0, 0, 1, 0, 0, 0, none, 0, 0⟩
abbrev landT (nm : ByteArray) : CdT := (landC nm, [])
set_option maxHeartbeats 2000000 in
theorem land_any (nm : ByteArray) (w : World) : Calls Tryz.prog 24 #[.string nm] w fun e w' => e = .returned (.agg #[.string nm, .int .i64 1, .int .i64 0, .int .i64 0, .int .i64 0, .int .i64 0, .int .i64 1, .int .i64 0, .int .i64 0, .int .i64 0, .slice none 0 0]) ∧ Below w.heap.size w w' := by
  go_enter Tryz.func24, Tryz.ntmps24
  go_wp2
  refine bodyPost_ret (v := .agg #[.string nm, .int .i64 1, .int .i64 0, .int .i64 0, .int .i64 0, .int .i64 0, .int .i64 1, .int .i64 0, .int .i64 0, .int .i64 0, .slice none 0 0]) (by simp [results, Tryz.results24, go_sem]) rfl ?_
  exact ⟨rfl, below_alloc1 _ _⟩
theorem land_cdr (nm : ByteArray) (w : World) : CdR w (landC nm) [] := ⟨rfl, IsA.nil w⟩
/-- A literal row of cards. -/
theorem lit_isP {w0 w : World} (h : Below w0.heap.size w0 w) (L : List CdT) (n : Nat) (hn : L.length = n) (hl : n ≤ 1000) (hr : ∀ t ∈ L, CdR w t.1 t.2) (cs : Array Value) (hcs : cs = (cdRow L).toArray) : IsP (w.alloc (.cells cs 38)) (some ⟨w.heap.size, 0, none⟩) n L := by
  subst hcs
  exact isP_row hn (fun t ht => (hr t ht).next (below_alloc1 _ _)) (by simpa using row_new w (cdRow L).toArray 38 11 n (by omega))
/-- The bytes of pools that may be come back; others are given up. -/
theorem pool_sound {s : ByteArray} {L : List CdT} (h : pPool s = some (L, ByteArray.empty)) : s = poolB L ByteArray.empty ∧ (∀ c ∈ L, CdT64 c ∧ bareC c = c) := by
  obtain ⟨h1, _, h2⟩ := pPool_row s L _ h
  exact ⟨h1, h2⟩
theorem cd64_bare {c : CdT} (h : CdT64 c) : CdT64 (bareC c) := by
  obtain ⟨h1, h2⟩ := h
  refine ⟨by simp [bareC], fun t ht => ?_⟩
  simp only [bareC, List.mem_map] at ht
  obtain ⟨q, hq, rfl⟩ := ht
  obtain ⟨a1, a2, a3, a4, a5⟩ := h2 q hq
  exact ⟨rfl, rfl, a3, a4, a5⟩
theorem cdB_bare (c : CdT) (t : ByteArray) : cdB (bareC c) t = cdB c t := by
  have e : ∀ A : List AbT, ∀ t, many abB (A.map bareA) t = many abB A t := by
    intro A
    induction A with
    | nil => intro t; rfl
    | cons x A ih => intro t; rw [List.map_cons, many_cons, many_cons, ih]; rfl
  simp only [cdB, cdHead, bareC, List.length_map, e]
theorem poolB_bare (L : List CdT) (t : ByteArray) : poolB (L.map bareC) t = poolB L t := by
  have e : ∀ L : List CdT, ∀ t, many cdB (L.map bareC) t = many cdB L t := by
    intro L
    induction L with
    | nil => intro t; rfl
    | cons x L ih => intro t; rw [List.map_cons, many_cons, many_cons, ih, cdB_bare]
  simp only [poolB, List.length_map, e]
/-- Decode of a pool's bytes. -/
theorem dec_good {L : List CdT} {w w0 w' : World} {e : Ending} (h : DecOut (poolB L ByteArray.empty) w e w') (hL : chkP L = 0) (h64 : ∀ c ∈ L, CdT64 c) (hr : ∀ c ∈ L, CdR w0 c.1 c.2) :
    Below w.heap.size w w' ∧ ∃ M a c, M.map bareC = L.map bareC ∧ e = .returned (.tuple #[.slice a M.length c, .int .i64 0]) ∧ IsP w' a c M ∧ PCd M := by
  have hp := pPool_put L (pool_ok L hL h64).2.2 ByteArray.empty
  rcases h.2 with ⟨L', h1, h2, M, a, c, h3, h4, h5, h6⟩ | ⟨h1, _⟩
  · rw [hp] at h1
    simp only [Option.some.injEq, Prod.mk.injEq, and_true] at h1
    exact ⟨h.1, M, a, c, h3.trans h1.symm, h4, h5, h6⟩
  · exact absurd ((chkP_bare L hr).trans hL) (h1 _ hp)
/-- Decode of anything that is no pool's bytes. -/
theorem dec_bad {s : ByteArray} {w w' : World} {e : Ending} (h : DecOut s w e w') (hn : ∀ L, pPool s = some (L, ByteArray.empty) → chkP L ≠ 0) : Below w.heap.size w w' ∧ e = .returned (.tuple #[.slice none 0 0, .int .i64 4]) := by
  rcases h.2 with ⟨L', h1, h2, _⟩ | ⟨_, h2⟩
  · exact absurd h2 (hn L' h1)
  · exact ⟨h.1, h2⟩
/-- Something behind a pool's bytes, or less of them. -/
theorem no_more {L : List CdT} (hL : chkP L = 0) (h64 : ∀ c ∈ L, CdT64 c) (t : ByteArray) (ht : t ≠ ByteArray.empty) : ∀ M, pPool (poolB L t) = some (M, ByteArray.empty) → chkP M ≠ 0 := by
  intro M h
  have hp := pPool_put L (pool_ok L hL h64).2.2 t
  rw [hp] at h
  simp only [Option.some.injEq, Prod.mk.injEq] at h
  exact absurd h.2 ht
theorem no_less {L : List CdT} (hL : chkP L = 0) (h64 : ∀ c ∈ L, CdT64 c) (s t : ByteArray) (hs : s ++ t = poolB L ByteArray.empty) (ht : t ≠ ByteArray.empty) : ∀ M, pPool s = some (M, ByteArray.empty) → chkP M ≠ 0 := by
  intro M h hM
  obtain ⟨h1, h2⟩ := pool_sound h
  have h3 := poolB_front L M (pool_ok L hL h64).2.2 (pool_ok M hM (fun c hc => (h2 c hc).1)).2.2 t (by rw [← hs, h1, ← poolB_fore])
  exact ht h3.2
end Go.Proofs.YtbeaaieaffdgeaaGreatDoor
end
/- The laws' lands. -/
section
namespace Go.Proofs.YtbeaaieaffdgeaaGreatDoor
open Go.RowKit
set_option linter.unusedVariables false
set_option linter.unusedSimpArgs false

theorem own_below {w w' : World} {base e size n : Nat} {v : Value} {xs : List Value} (h : w.ownsRow base e size v n xs) (k : Below w.heap.size w w') : w'.ownsRow base e size v n xs :=
  h.kept (row := none) (grown_below k none) (by rcases h.2 with ⟨rfl, _⟩ | ⟨g, cap, cur, rfl, _⟩ <;> simp [Value.ownBlock])
def nmK (k : Nat) : ByteArray := ⟨#[UInt8.ofNat (97 + k % 26), UInt8.ofNat (97 + k / 26)]⟩
def landsL (n : Nat) : List CdT := (List.range n).map fun k => landT (nmK k)
theorem landsL_len (n : Nat) : (landsL n).length = n := by simp [landsL]
theorem landsL_snoc (n : Nat) : landsL (n + 1) = landsL n ++ [landT (nmK n)] := by simp [landsL, List.range_succ]
set_option maxRecDepth 100000 in
set_option maxHeartbeats 4000000 in
theorem lands_any (n : Nat) (hn : n ≤ 100) (w : World) :
    Calls Tryz.prog 25 #[.int .i64 (n : Int)] w fun e w' => ∃ a c, e = .returned (.slice a n c) ∧ IsP w' a c (landsL n) ∧ Below w.heap.size w w' := by
  obtain ⟨i0, hi, hz0, hz1, hz2⟩ := info_parts infoC
  go_enter Tryz.func25, Tryz.ntmps25
  go_wp2_with fail
  go_loopw [3, 4] (fun sv q wr => ∃ (k : Nat) (v3 : Value), v3 = sv ∧ q = .int .i64 (k : Int) ∧ k ≤ n ∧ wr.ownsRow w.heap.size 38 11 v3 k (cdRow (landsL k)) ∧ Below w.heap.size w wr) (fun sv q _ => n - (intOf q).toNat)
  case atStart => exact ⟨0, _, rfl, rfl, Nat.zero_le _, World.ownsRow_nil _ _ _ _, Below.refl _ _⟩
  case round =>
    obtain ⟨k, sv, rfl, rfl, hk, hown, hb⟩ := hrel
    have HO := Lib.hid hown
    have HB := Lib.hid hb
    clear hown hb
    by_cases hlt : k < n
    · have hcv : (convert 44 9 (.slice (some ⟨wr.heap.size, 0, none⟩) 2 2)).run Tryz.prog (wr.alloc (.cells #[.int .u8 (97 + (k : Int) % 26), .int .u8 (97 + (k : Int) / 26)] 5)) = .ok (.string (nmK k)) (wr.alloc (.cells #[.int .u8 (97 + (k : Int) % 26), .int .u8 (97 + (k : Int) / 26)] 5)) :=
        conv_bytes _ 44 9 5 ⟨wr.heap.size, 0, none⟩ 2 2 [97 + (k : Int) % 26, 97 + (k : Int) / 26] (nmK k) Tryz.underlying44 Tryz.underlying5 Tryz.underlying9 rfl
          (fun j v h => new_cells wr _ _ j v h) (by
            simp only [nmK, List.map_cons, List.map_nil]
            rw [show (97 + (k : Int) % 26).toNat = 97 + k % 26 by omega, show (97 + (k : Int) / 26).toNat = 97 + k / 26 by omega])
      have HB1 := Lib.hid (HB.out.alloc HB.out.size (.cells #[.int .u8 (97 + (k : Int) % 26), .int .u8 (97 + (k : Int) / 26)] 5))
      have HO1 := Lib.hid (HO.out.alloc (.cells #[.int .u8 (97 + (k : Int) % 26), .int .u8 (97 + (k : Int) / 26)] 5))
      go_wp2_with fail
      clear hcv
      generalize wr.alloc (.cells #[.int .u8 (97 + (k : Int) % 26), .int .u8 (97 + (k : Int) / 26)] 5) = w1 at *
      refine (land_any (nmK k) _).mono ?_
      rintro e w2 ⟨rfl, hb⟩
      have HB2 := Lib.hid (below_then' HB1.out hb HB1.out.size)
      have HO2 := Lib.hid ((own_below HO1.out hb).alloc (.cells #[.string (nmK k), .int .i64 1, .int .i64 0, .int .i64 0, .int .i64 0, .int .i64 0, .int .i64 1, .int .i64 0, .int .i64 0, .int .i64 0, .slice none 0 0] 38))
      have hz := HB2.out.size
      clear hb
      go_wp2_with (at_builtin; refine wpList_append_own _ rfl _ _ 22 rfl w.heap.size 38 i0 (.agg #[.string ⟨#[]⟩, .int .i64 0, .int .i64 0, .int .i64 0, .int .i64 0, .int .i64 0, .int .i64 0, .int .i64 0, .int .i64 0, .int .i64 0, .slice none 0 0]) 11 112 Tryz.underlying22 hi hz0 hz1 hz2 rfl (by decide) _ k _ rfl HO2.out ⟨w2.heap.size, 0, none⟩ 1 1 (cdCells (landC (nmK k))) rfl rfl (new_cells w2 _ _) (fun z hz => by simp only [cdCells, List.mem_cons, List.not_mem_nil, or_false] at hz; rcases hz with rfl | rfl | rfl | rfl | rfl | rfl | rfl | rfl | rfl | rfl | rfl <;> rfl) (by unfold maxLen; omega) (by omega) (by simp; omega) ?_; intro sv5 w5 hown5 hgr5 hnil5; clear hnil5)
      have HO5 := Lib.hid (show w5.ownsRow w.heap.size 38 11 sv5 (k + 1) (cdRow (landsL (k + 1))) by rw [landsL_snoc, cdRow_snoc]; exact hown5)
      have HB5 := Lib.hid ((HB2.out.alloc HB2.out.size (.cells #[.string (nmK k), .int .i64 1, .int .i64 0, .int .i64 0, .int .i64 0, .int .i64 0, .int .i64 1, .int .i64 0, .int .i64 0, .int .i64 0, .slice none 0 0] 38)).grown hgr5 (by simp; omega) (fun j hj => (HO2.out.lt j hj).1))
      clear hown5 hgr5
      go_wp2_with fail
      go_roundw
      case rel => exact ⟨k + 1, _, rfl, by go_num, by omega, HO5.out, HB5.out⟩
      case measure => simp [intOf]; omega
    · obtain rfl : k = n := by omega
      obtain ⟨a, c, rfl, hrow⟩ := own_row HO.out
      have HI := Lib.hid (show IsP wr a c (landsL k) from isP_row (landsL_len k) (fun t ht => by
        simp only [landsL, List.mem_map] at ht
        obtain ⟨i, _, rfl⟩ := ht
        exact land_cdr _ _) hrow)
      clear hrow
      go_wp2_with fail
      go_ret
      exact ⟨a, c, rfl, HI.out, HB.out⟩
end Go.Proofs.YtbeaaieaffdgeaaGreatDoor
end
/- The laws' works. -/
section
namespace Go.Proofs.YtbeaaieaffdgeaaGreatDoor
open Go.RowKit
set_option linter.unusedVariables false
set_option linter.unusedSimpArgs false

def nA : ByteArray := ⟨#[97]⟩
def sA : ByteArray := ⟨#[1, 1, 97, 1, 0, 0, 0, 0, 1, 0, 0, 0, 0]⟩
theorem chk_a : chkP [landT ⟨#[97]⟩] = 0 := by decide +kernel
theorem enc_a : encS [landT ⟨#[97]⟩] = ⟨#[1, 1, 97, 1, 0, 0, 0, 0, 1, 0, 0, 0, 0]⟩ := by decide +kernel
theorem chk_aa : chkP [landT ⟨#[97]⟩, landT ⟨#[97]⟩] = 11 := by decide +kernel
theorem chk_e : chkP [landT ⟨#[]⟩] = 10 := by decide +kernel
theorem chk_41 : chkP (landsL 41) = 3 := by simp [chkP, landsL_len]
theorem chk_none : chkP [] = 2 := rfl
theorem pool_none : ∀ L, pPool ⟨#[]⟩ = some (L, ByteArray.empty) → chkP L ≠ 0 := by
  intro L h
  have : (pPool ⟨#[]⟩).isNone = true := by decide +kernel
  rw [h] at this
  cases this
theorem pool_zero : ∀ L, pPool ⟨#[0]⟩ = some (L, ByteArray.empty) → chkP L ≠ 0 := by
  intro L h
  have : (pPool ⟨#[0]⟩).map (fun p => p.1.length) = some 0 := by decide +kernel
  rw [h] at this
  simp at this
  rw [this]
  decide
theorem land_pcd (nm : ByteArray) (h : nm.size ≤ 1000) : CdOk (landC nm) := ⟨by show nm.size ≤ maxLen; unfold maxLen; omega, by show In64 0; unfold In64; omega⟩
theorem land_64 (nm : ByteArray) : CdT64 (landT nm) := ⟨rfl, fun t ht => by cases ht⟩
theorem one_bare {M : List CdT} {c : CdT} (h : M.map bareC = [c].map bareC) : ∃ m, M = [m] ∧ m.1.nm = c.1.nm ∧ m.1.col = c.1.col := by
  match M, h with
  | [m], h =>
    simp only [List.map_cons, List.map_nil, List.cons.injEq, and_true] at h
    have h1 := congrArg (fun c : CdT => c.1.nm) h
    have h2 := congrArg (fun c : CdT => c.1.col) h
    exact ⟨m, rfl, h1, h2⟩
  | [], h => simp at h
  | _ :: _ :: _, h => simp at h
set_option maxRecDepth 100000 in
set_option maxHeartbeats 8000000 in
theorem works_any (w : World) (hT : Tabs w) : Calls Tryz.prog 10 #[] w fun e w' => e = .returned (.bool true) ∧ Below w.heap.size w w' := by
  have HTb := Lib.hid hT
  clear hT
  go_enter Tryz.func10, Tryz.ntmps10
  go_wp2_with fail
  refine (land_any ⟨#[97]⟩ _).mono ?_
  rintro e w1 ⟨rfl, hb⟩
  have HB1 := Lib.hid hb
  clear hb
  go_wp2_with fail
  have HI2 := Lib.hid (lit_isP HB1.out [landT ⟨#[97]⟩] 1 rfl (by omega) (fun t ht => by rw [List.mem_singleton.1 ht]; exact land_cdr _ _) _ rfl)
  have HB2 := Lib.hid (HB1.out.alloc HB1.out.size (.cells (cdRow [landT ⟨#[97]⟩]).toArray 38))
  refine (encode_any _ 1 [landT ⟨#[97]⟩] 1 rfl 0 chk_a _ enc_a (fun p hp => by rw [List.mem_singleton.1 hp]; exact land_pcd _ (by decide)) (fun p hp => by rw [List.mem_singleton.1 hp]; exact land_64 _) _ HI2.out (HTb.out.next HB2.out)).mono ?_
  rintro e w3 ⟨rfl, hb⟩
  have HB3 := Lib.hid (below_then' HB2.out hb HB2.out.size)
  clear hb HI2 HB1 HB2
  go_wp2_with fail
  have hsA : poolB [landT ⟨#[97]⟩] ByteArray.empty = ⟨#[1, 1, 97, 1, 0, 0, 0, 0, 1, 0, 0, 0, 0]⟩ := by have h := enc_a; unfold encS at h; rw [if_pos chk_a] at h; exact h
  have HsA := Lib.hid hsA
  clear hsA
  refine (decode_any ⟨#[1, 1, 97, 1, 0, 0, 0, 0, 1, 0, 0, 0, 0]⟩ (by decide) _ (HTb.out.next HB3.out)).mono ?_
  intro e w4 hd
  rw [← HsA.out] at hd
  obtain ⟨hb, M, a, c, hM, rfl, hI, hP⟩ := dec_good (w0 := w) hd chk_a (fun p hp => by rw [List.mem_singleton.1 hp]; exact land_64 _) (fun p hp => by rw [List.mem_singleton.1 hp]; exact land_cdr _ _)
  obtain ⟨m, rfl, hm1, hm2⟩ := one_bare hM
  have HB4 := Lib.hid (below_then' HB3.out hb HB3.out.size)
  have HI4 := Lib.hid hI
  have HM1 := Lib.hid (show m.1.nm = ⟨#[97]⟩ from hm1)
  have HM2 := Lib.hid (show m.1.col = 1 from hm2)
  clear hb hI hM hP hm1 hm2 HB3 hd
  go_wp2_with fail
  refine (decode_any ⟨#[]⟩ (by decide) _ (HTb.out.next HB4.out)).mono ?_
  intro e w5 hd
  obtain ⟨hb, rfl⟩ := dec_bad hd pool_none
  have HB5 := Lib.hid (below_then' HB4.out hb HB4.out.size)
  have HI5 := Lib.hid (HI4.out.next hb)
  clear hb hd HB4 HI4
  go_wp2_with fail
  refine (decode_any ⟨#[0]⟩ (by decide) _ (HTb.out.next HB5.out)).mono ?_
  intro e w6 hd
  obtain ⟨hb, rfl⟩ := dec_bad hd pool_zero
  have HB6 := Lib.hid (below_then' HB5.out hb HB5.out.size)
  have HI6 := Lib.hid (HI5.out.next hb)
  clear hb hd HB5 HI5
  go_wp2_with fail
  refine (decode_any _ (by rw [ByteArray.size_append]; show 13 + 1 ≤ 70368744177664; omega) _ (HTb.out.next HB6.out)).mono ?_
  intro e w7 hd
  rw [← HsA.out, ← poolB_fore] at hd
  obtain ⟨hb, rfl⟩ := dec_bad hd (no_more chk_a (fun p hp => by rw [List.mem_singleton.1 hp]; exact land_64 _) _ (by decide))
  have HB7 := Lib.hid (below_then' HB6.out hb HB6.out.size)
  have HI7 := Lib.hid (HI6.out.next hb)
  clear hb hd HB6 HI6
  obtain ⟨b, off, y, A, hy, _, hpa, hbz, y0, y1, y2, y3, y4, y5, y6, y7, y8, y9, y10⟩ := HI7.out.at 0 (by simp)
  have hy2 : y = m.1 := congrArg Prod.fst hy
  rw [hy2, HM1.out] at y0
  rw [hy2, HM2.out] at y6
  simp only [Nat.zero_mul, Nat.add_zero] at y0 y6
  have hac := HI7.out.1
  have ham := HI7.out.2.1
  simp at hac
  clear hy hy2 hbz y1 y2 y3 y4 y5 y7 y8 y9 y10
  subst hpa
  have hq1 : ((⟨#[1, 1, 97, 1, 0, 0, 0, 0, 1, 0, 0, 0, 0]⟩ : ByteArray).toList == (⟨#[1, 1, 97, 1, 0, 0, 0, 0, 1, 0, 0, 0, 0]⟩ : ByteArray).toList) = true := by simp
  have hq2 : ((⟨#[97]⟩ : ByteArray).toList == (⟨#[97]⟩ : ByteArray).toList) = true := by simp
  go_wp2_with fail
  refine (pCheck_any none 0 [] 0 rfl 2 chk_none (fun p hp => by cases hp) _ (IsP.nil _) (HTb.out.next HB7.out)).mono ?_
  rintro e w8 ⟨rfl, hb⟩
  have HB8 := Lib.hid (below_then' HB7.out hb HB7.out.size)
  clear hb y0 y6 HI7 HB7
  go_wp2_with fail
  refine (lands_any 41 (by omega) _).mono ?_
  rintro e w9 ⟨a9, c9, rfl, hI9, hb⟩
  have HB9 := Lib.hid (below_then' HB8.out hb HB8.out.size)
  have HI9 := Lib.hid hI9
  clear hb hI9 HB8
  go_wp2_with fail
  refine (pCheck_any a9 c9 (landsL 41) 41 (landsL_len 41) 3 chk_41 (fun p hp => by simp only [landsL, List.mem_map] at hp; obtain ⟨i, _, rfl⟩ := hp; exact land_pcd _ (by show 2 ≤ 1000; omega)) _ HI9.out (HTb.out.next HB9.out)).mono ?_
  rintro e w10 ⟨rfl, hb⟩
  have HB10 := Lib.hid (below_then' HB9.out hb HB9.out.size)
  clear hb HB9 HI9
  go_wp2_with fail
  refine (land_any ⟨#[97]⟩ _).mono ?_
  rintro e w11 ⟨rfl, hb⟩
  have HB11 := Lib.hid (below_then' HB10.out hb HB10.out.size)
  clear hb HB10
  go_wp2_with fail
  refine (land_any ⟨#[97]⟩ _).mono ?_
  rintro e w12 ⟨rfl, hb⟩
  have HB12 := Lib.hid (below_then' HB11.out hb HB11.out.size)
  clear hb HB11
  go_wp2_with fail
  have HI13 := Lib.hid (lit_isP HB12.out [landT ⟨#[97]⟩, landT ⟨#[97]⟩] 2 rfl (by omega) (fun t ht => by simp at ht; rw [ht]; exact land_cdr _ _) _ rfl)
  have HB13 := Lib.hid (HB12.out.alloc HB12.out.size (.cells (cdRow [landT ⟨#[97]⟩, landT ⟨#[97]⟩]).toArray 38))
  refine (pCheck_any _ 2 [landT ⟨#[97]⟩, landT ⟨#[97]⟩] 2 rfl 11 chk_aa (fun p hp => by simp at hp; rw [hp]; exact land_pcd _ (by decide)) _ HI13.out (HTb.out.next HB13.out)).mono ?_
  rintro e w14 ⟨rfl, hb⟩
  have HB14 := Lib.hid (below_then' HB13.out hb HB13.out.size)
  clear hb HB12 HB13 HI13
  go_wp2_with fail
  refine (land_any ⟨#[]⟩ _).mono ?_
  rintro e w15 ⟨rfl, hb⟩
  have HB15 := Lib.hid (below_then' HB14.out hb HB14.out.size)
  clear hb HB14
  go_wp2_with fail
  have HI16 := Lib.hid (lit_isP HB15.out [landT ⟨#[]⟩] 1 rfl (by omega) (fun t ht => by rw [List.mem_singleton.1 ht]; exact land_cdr _ _) _ rfl)
  have HB16 := Lib.hid (HB15.out.alloc HB15.out.size (.cells (cdRow [landT ⟨#[]⟩]).toArray 38))
  refine (pCheck_any _ 1 [landT ⟨#[]⟩] 1 rfl 10 chk_e (fun p hp => by rw [List.mem_singleton.1 hp]; exact land_pcd _ (by decide)) _ HI16.out (HTb.out.next HB16.out)).mono ?_
  rintro e w17 ⟨rfl, hb⟩
  have HB17 := Lib.hid (below_then' HB16.out hb HB16.out.size)
  clear hb HB15 HB16 HI16
  go_wp2_with fail
  go_ret
  exact ⟨rfl, HB17.out⟩
end Go.Proofs.YtbeaaieaffdgeaaGreatDoor
end
