/- Texts that belong together: PoolRa, PoolPa. -/
import Derived.Test.YtbeaaieaffdgeaaGreatDoorMj
import Derived.Test.YtbeaaieaffdgeaaGreatDoorMg
/- The program's ability. (Written by gen6r.py.) -/
section
namespace Go.Proofs.YtbeaaieaffdgeaaGreatDoor
open Go.RowKit
set_option linter.unusedVariables false
set_option linter.unusedSimpArgs false
set_option maxRecDepth 100000

noncomputable def raOps : Array Oper := ((Tryz.f54.body).bind (regionOps 1)).getD #[]
/-- What is left behind each reading. -/
def raD : Nat → Option ByteArray → Option ByteArray
  | 0 => dropT pNum
  | 1 => dropT pNum
  | 2 => dropT pNum
  | 3 => dropT pMan
  | 4 => dropT (pUp 1)
  | 5 => dropT (pList 2 pNum)
  | 6 => dropT (pList 32 pIns)
  | 7 => dropT pNum
  | 8 => dropT pInt
  | _ => dropT pInt
def raSt (s : ByteArray) : Nat → Option ByteArray
  | 0 => some s
  | j + 1 => raD j (raSt s j)
def raVal (rb : Nat) (s : ByteArray) : Nat → Value → World → Prop
  | 0, v, w => v = rdV rb
  | 1, v, w => ∃ k, takeT pNum (raSt s 0) = some k ∧ asInt rb k v w
  | 2, v, w => v = rdV rb
  | 3, v, w => ∃ ev, takeT pNum (raSt s 1) = some ev ∧ asInt rb ev v w
  | 4, v, w => v = rdV rb
  | 5, v, w => ∃ wh, takeT pNum (raSt s 2) = some wh ∧ asInt rb wh v w
  | 6, v, w => v = rdV rb
  | 7, v, w => ∃ c, takeT pMan (raSt s 3) = some c ∧ asMan rb c v w
  | 8, v, w => v = rdV rb
  | 9, v, w => ∃ tp, takeT (pUp 1) (raSt s 4) = some tp ∧ asInt rb tp v w
  | 10, v, w => ∃ tp, takeT (pUp 1) (raSt s 4) = some tp ∧ v = .bool (tp == 1)
  | 11, v, w => v = rdV rb
  | 12, v, w => v = rdV rb
  | 13, v, w => v = .func (.func 51) #[rdV rb] #[]
  | 14, v, w => ∃ T, takeT (pList 2 pNum) (raSt s 5) = some T ∧ (VL vI 3 1 (fun l => l.map (Value.int .i64))) rb T v w
  | 15, v, w => v = rdV rb
  | 16, v, w => v = rdV rb
  | 17, v, w => v = .func (.func 78) #[rdV rb] #[]
  | 18, v, w => ∃ C, takeT (pList 32 pIns) (raSt s 6) = some C ∧ (VL vN 82 3 insCells) rb C v w
  | 19, v, w => v = rdV rb
  | 20, v, w => ∃ op, takeT pNum (raSt s 7) = some op ∧ asInt rb op v w
  | 21, v, w => v = rdV rb
  | 22, v, w => ∃ p, takeT pInt (raSt s 8) = some p ∧ asInt rb p v w
  | 23, v, w => v = rdV rb
  | 24, v, w => ∃ q, takeT pInt (raSt s 9) = some q ∧ asInt rb q v w
  | 25, v, w => ∃ k ev wh c tp T C op p q, (takeT pNum (raSt s 0) = some k ∧ takeT pNum (raSt s 1) = some ev ∧ takeT pNum (raSt s 2) = some wh ∧ takeT pMan (raSt s 3) = some c ∧ takeT (pUp 1) (raSt s 4) = some tp ∧ takeT (pList 2 pNum) (raSt s 5) = some T ∧ takeT (pList 32 pIns) (raSt s 6) = some C ∧ takeT pNum (raSt s 7) = some op ∧ takeT pInt (raSt s 8) = some p ∧ takeT pInt (raSt s 9) = some q) ∧ VV vA.g vA.val vA.C vA.S vA.R rb (mkAb k ev wh c tp T C op p q) v w
  | _, _, _ => True
def raI (rb bx xb : Nat) (w : World) : Prop := bx ≠ rb ∧ xb ≠ rb ∧ Bk w bx #[.pointer (some ⟨rb, 0, none⟩)] 62 ∧ Bk w xb #[.int .i64 0, .int .i64 0, .int .i64 0, .int .i64 0, .int .i64 0, .int .i64 0, .int .i64 0, .bool false, .slice none 0 0, .slice none 0 0, .int .i64 0, .int .i64 0, .int .i64 0] 42
theorem raKeep (rb bx xb : Nat) : ∀ w w' : World, raI rb bx xb w → w.grownBy w' (some rb) → raI rb bx xb w' := fun w w' h g => ⟨h.1, h.2.1, h.2.2.1.read g h.1, h.2.2.2.read g h.2.1⟩
theorem raMono (rb : Nat) (s : ByteArray) : ∀ j v w w', raVal rb s j v w → w.grownBy w' (some rb) → raVal rb s j v w' := by
  intro j v w w' h g
  match j, h with
  | 0, h => exact h
  | 1, h => exact h
  | 2, h => exact h
  | 3, h => exact h
  | 4, h => exact h
  | 5, h => exact h
  | 6, h => exact h
  | 7, h => exact h
  | 8, h => exact h
  | 9, h => exact h
  | 10, h => exact h
  | 11, h => exact h
  | 12, h => exact h
  | 13, h => exact h
  | 14, ⟨x, h1, M, a, c, h2, h3, h4, h5⟩ => exact ⟨x, h1, M, a, c, h2, h3, h4, h5.read g⟩
  | 15, h => exact h
  | 16, h => exact h
  | 17, h => exact h
  | 18, ⟨x, h1, M, a, c, h2, h3, h4, h5⟩ => exact ⟨x, h1, M, a, c, h2, h3, h4, h5.read g⟩
  | 19, h => exact h
  | 20, h => exact h
  | 21, h => exact h
  | 22, h => exact h
  | 23, h => exact h
  | 24, h => exact h
  | 25, ⟨_, _, _, _, _, _, _, _, _, _, h1, y, h2, h3, h4, h5⟩ => exact ⟨_, _, _, _, _, _, _, _, _, _, h1, y, h2, h3, h4, h5.read g⟩
  | k + 26, h => exact trivial
def raBase (bx xb : Nat) : Nat → Option Value := fun s => if s = 1 then some (.pointer (some ⟨bx, 0, none⟩)) else if s = 2 then some (.pointer (some ⟨xb, 0, none⟩)) else none
section
variable {l : Array Bool} {a : Act} {w w0 : World} {Q : Exit → Act → World → Prop} {rb bx xb : Nat} {s : ByteArray}
theorem raNone0 {u : ByteArray} (hu : raSt s 0 = some u) (hn : pNum u = none) : pAb s = none := by
    have e0 := hu
    obtain rfl : s = u := Option.some.inj hu
    unfold pAb
    rw [then_none hn]
theorem raNone1 {u : ByteArray} (hu : raSt s 1 = some u) (hn : pNum u = none) : pAb s = none := by
    have e1 := hu
    obtain ⟨u0, x0, e0, f0, t0⟩ := drop_some (f := pNum) (o := raSt s 0) (by exact e1)
    obtain rfl : s = u0 := Option.some.inj e0
    unfold pAb
    rw [then_of f0, then_none hn]
theorem raNone2 {u : ByteArray} (hu : raSt s 2 = some u) (hn : pNum u = none) : pAb s = none := by
    have e2 := hu
    obtain ⟨u1, x1, e1, f1, t1⟩ := drop_some (f := pNum) (o := raSt s 1) (by exact e2)
    obtain ⟨u0, x0, e0, f0, t0⟩ := drop_some (f := pNum) (o := raSt s 0) (by exact e1)
    obtain rfl : s = u0 := Option.some.inj e0
    unfold pAb
    rw [then_of f0, then_of f1, then_none hn]
theorem raNone3 {u : ByteArray} (hu : raSt s 3 = some u) (hn : pMan u = none) : pAb s = none := by
    have e3 := hu
    obtain ⟨u2, x2, e2, f2, t2⟩ := drop_some (f := pNum) (o := raSt s 2) (by exact e3)
    obtain ⟨u1, x1, e1, f1, t1⟩ := drop_some (f := pNum) (o := raSt s 1) (by exact e2)
    obtain ⟨u0, x0, e0, f0, t0⟩ := drop_some (f := pNum) (o := raSt s 0) (by exact e1)
    obtain rfl : s = u0 := Option.some.inj e0
    unfold pAb
    rw [then_of f0, then_of f1, then_of f2, then_none hn]
theorem raNone4 {u : ByteArray} (hu : raSt s 4 = some u) (hn : (pUp 1) u = none) : pAb s = none := by
    have e4 := hu
    obtain ⟨u3, x3, e3, f3, t3⟩ := drop_some (f := pMan) (o := raSt s 3) (by exact e4)
    obtain ⟨u2, x2, e2, f2, t2⟩ := drop_some (f := pNum) (o := raSt s 2) (by exact e3)
    obtain ⟨u1, x1, e1, f1, t1⟩ := drop_some (f := pNum) (o := raSt s 1) (by exact e2)
    obtain ⟨u0, x0, e0, f0, t0⟩ := drop_some (f := pNum) (o := raSt s 0) (by exact e1)
    obtain rfl : s = u0 := Option.some.inj e0
    unfold pAb
    rw [then_of f0, then_of f1, then_of f2, then_of f3, then_none hn]
theorem raNone5 {u : ByteArray} (hu : raSt s 5 = some u) (hn : (pList 2 pNum) u = none) : pAb s = none := by
    have e5 := hu
    obtain ⟨u4, x4, e4, f4, t4⟩ := drop_some (f := (pUp 1)) (o := raSt s 4) (by exact e5)
    obtain ⟨u3, x3, e3, f3, t3⟩ := drop_some (f := pMan) (o := raSt s 3) (by exact e4)
    obtain ⟨u2, x2, e2, f2, t2⟩ := drop_some (f := pNum) (o := raSt s 2) (by exact e3)
    obtain ⟨u1, x1, e1, f1, t1⟩ := drop_some (f := pNum) (o := raSt s 1) (by exact e2)
    obtain ⟨u0, x0, e0, f0, t0⟩ := drop_some (f := pNum) (o := raSt s 0) (by exact e1)
    obtain rfl : s = u0 := Option.some.inj e0
    unfold pAb
    rw [then_of f0, then_of f1, then_of f2, then_of f3, then_of f4, then_none hn]
theorem raNone6 {u : ByteArray} (hu : raSt s 6 = some u) (hn : (pList 32 pIns) u = none) : pAb s = none := by
    have e6 := hu
    obtain ⟨u5, x5, e5, f5, t5⟩ := drop_some (f := (pList 2 pNum)) (o := raSt s 5) (by exact e6)
    obtain ⟨u4, x4, e4, f4, t4⟩ := drop_some (f := (pUp 1)) (o := raSt s 4) (by exact e5)
    obtain ⟨u3, x3, e3, f3, t3⟩ := drop_some (f := pMan) (o := raSt s 3) (by exact e4)
    obtain ⟨u2, x2, e2, f2, t2⟩ := drop_some (f := pNum) (o := raSt s 2) (by exact e3)
    obtain ⟨u1, x1, e1, f1, t1⟩ := drop_some (f := pNum) (o := raSt s 1) (by exact e2)
    obtain ⟨u0, x0, e0, f0, t0⟩ := drop_some (f := pNum) (o := raSt s 0) (by exact e1)
    obtain rfl : s = u0 := Option.some.inj e0
    unfold pAb
    rw [then_of f0, then_of f1, then_of f2, then_of f3, then_of f4, then_of f5, then_none hn]
theorem raNone7 {u : ByteArray} (hu : raSt s 7 = some u) (hn : pNum u = none) : pAb s = none := by
    have e7 := hu
    obtain ⟨u6, x6, e6, f6, t6⟩ := drop_some (f := (pList 32 pIns)) (o := raSt s 6) (by exact e7)
    obtain ⟨u5, x5, e5, f5, t5⟩ := drop_some (f := (pList 2 pNum)) (o := raSt s 5) (by exact e6)
    obtain ⟨u4, x4, e4, f4, t4⟩ := drop_some (f := (pUp 1)) (o := raSt s 4) (by exact e5)
    obtain ⟨u3, x3, e3, f3, t3⟩ := drop_some (f := pMan) (o := raSt s 3) (by exact e4)
    obtain ⟨u2, x2, e2, f2, t2⟩ := drop_some (f := pNum) (o := raSt s 2) (by exact e3)
    obtain ⟨u1, x1, e1, f1, t1⟩ := drop_some (f := pNum) (o := raSt s 1) (by exact e2)
    obtain ⟨u0, x0, e0, f0, t0⟩ := drop_some (f := pNum) (o := raSt s 0) (by exact e1)
    obtain rfl : s = u0 := Option.some.inj e0
    unfold pAb
    rw [then_of f0, then_of f1, then_of f2, then_of f3, then_of f4, then_of f5, then_of f6, then_none hn]
theorem raNone8 {u : ByteArray} (hu : raSt s 8 = some u) (hn : pInt u = none) : pAb s = none := by
    have e8 := hu
    obtain ⟨u7, x7, e7, f7, t7⟩ := drop_some (f := pNum) (o := raSt s 7) (by exact e8)
    obtain ⟨u6, x6, e6, f6, t6⟩ := drop_some (f := (pList 32 pIns)) (o := raSt s 6) (by exact e7)
    obtain ⟨u5, x5, e5, f5, t5⟩ := drop_some (f := (pList 2 pNum)) (o := raSt s 5) (by exact e6)
    obtain ⟨u4, x4, e4, f4, t4⟩ := drop_some (f := (pUp 1)) (o := raSt s 4) (by exact e5)
    obtain ⟨u3, x3, e3, f3, t3⟩ := drop_some (f := pMan) (o := raSt s 3) (by exact e4)
    obtain ⟨u2, x2, e2, f2, t2⟩ := drop_some (f := pNum) (o := raSt s 2) (by exact e3)
    obtain ⟨u1, x1, e1, f1, t1⟩ := drop_some (f := pNum) (o := raSt s 1) (by exact e2)
    obtain ⟨u0, x0, e0, f0, t0⟩ := drop_some (f := pNum) (o := raSt s 0) (by exact e1)
    obtain rfl : s = u0 := Option.some.inj e0
    unfold pAb
    rw [then_of f0, then_of f1, then_of f2, then_of f3, then_of f4, then_of f5, then_of f6, then_of f7, then_none hn]
theorem raNone9 {u : ByteArray} (hu : raSt s 9 = some u) (hn : pInt u = none) : pAb s = none := by
    have e9 := hu
    obtain ⟨u8, x8, e8, f8, t8⟩ := drop_some (f := pInt) (o := raSt s 8) (by exact e9)
    obtain ⟨u7, x7, e7, f7, t7⟩ := drop_some (f := pNum) (o := raSt s 7) (by exact e8)
    obtain ⟨u6, x6, e6, f6, t6⟩ := drop_some (f := (pList 32 pIns)) (o := raSt s 6) (by exact e7)
    obtain ⟨u5, x5, e5, f5, t5⟩ := drop_some (f := (pList 2 pNum)) (o := raSt s 5) (by exact e6)
    obtain ⟨u4, x4, e4, f4, t4⟩ := drop_some (f := (pUp 1)) (o := raSt s 4) (by exact e5)
    obtain ⟨u3, x3, e3, f3, t3⟩ := drop_some (f := pMan) (o := raSt s 3) (by exact e4)
    obtain ⟨u2, x2, e2, f2, t2⟩ := drop_some (f := pNum) (o := raSt s 2) (by exact e3)
    obtain ⟨u1, x1, e1, f1, t1⟩ := drop_some (f := pNum) (o := raSt s 1) (by exact e2)
    obtain ⟨u0, x0, e0, f0, t0⟩ := drop_some (f := pNum) (o := raSt s 0) (by exact e1)
    obtain rfl : s = u0 := Option.some.inj e0
    unfold pAb
    rw [then_of f0, then_of f1, then_of f2, then_of f3, then_of f4, then_of f5, then_of f6, then_of f7, then_of f8, then_none hn]
theorem raAll {u : ByteArray} {k : Int} {ev : Int} {wh : Int} {c : Mn} {tp : Int} {T : List Int} {C : List Ins} {op : Int} {p : Int} {q : Int} (hu : raSt s 10 = some u) (ht : takeT pNum (raSt s 0) = some k ∧ takeT pNum (raSt s 1) = some ev ∧ takeT pNum (raSt s 2) = some wh ∧ takeT pMan (raSt s 3) = some c ∧ takeT (pUp 1) (raSt s 4) = some tp ∧ takeT (pList 2 pNum) (raSt s 5) = some T ∧ takeT (pList 32 pIns) (raSt s 6) = some C ∧ takeT pNum (raSt s 7) = some op ∧ takeT pInt (raSt s 8) = some p ∧ takeT pInt (raSt s 9) = some q) : pAb s = some ((mkAb k ev wh c tp T C op p q), u) := by
    have e10 := hu
    obtain ⟨u9, x9, e9, f9, t9⟩ := drop_some (f := pInt) (o := raSt s 9) (by exact e10)
    obtain ⟨u8, x8, e8, f8, t8⟩ := drop_some (f := pInt) (o := raSt s 8) (by exact e9)
    obtain ⟨u7, x7, e7, f7, t7⟩ := drop_some (f := pNum) (o := raSt s 7) (by exact e8)
    obtain ⟨u6, x6, e6, f6, t6⟩ := drop_some (f := (pList 32 pIns)) (o := raSt s 6) (by exact e7)
    obtain ⟨u5, x5, e5, f5, t5⟩ := drop_some (f := (pList 2 pNum)) (o := raSt s 5) (by exact e6)
    obtain ⟨u4, x4, e4, f4, t4⟩ := drop_some (f := (pUp 1)) (o := raSt s 4) (by exact e5)
    obtain ⟨u3, x3, e3, f3, t3⟩ := drop_some (f := pMan) (o := raSt s 3) (by exact e4)
    obtain ⟨u2, x2, e2, f2, t2⟩ := drop_some (f := pNum) (o := raSt s 2) (by exact e3)
    obtain ⟨u1, x1, e1, f1, t1⟩ := drop_some (f := pNum) (o := raSt s 1) (by exact e2)
    obtain ⟨u0, x0, e0, f0, t0⟩ := drop_some (f := pNum) (o := raSt s 0) (by exact e1)
    obtain rfl : s = u0 := Option.some.inj e0
    obtain ⟨g0, g1, g2, g3, g4, g5, g6, g7, g8, g9⟩ := ht
    obtain rfl : x0 = k := Option.some.inj (t0.symm.trans g0)
    obtain rfl : x1 = ev := Option.some.inj (t1.symm.trans g1)
    obtain rfl : x2 = wh := Option.some.inj (t2.symm.trans g2)
    obtain rfl : x3 = c := Option.some.inj (t3.symm.trans g3)
    obtain rfl : x4 = tp := Option.some.inj (t4.symm.trans g4)
    obtain rfl : x5 = T := Option.some.inj (t5.symm.trans g5)
    obtain rfl : x6 = C := Option.some.inj (t6.symm.trans g6)
    obtain rfl : x7 = op := Option.some.inj (t7.symm.trans g7)
    obtain rfl : x8 = p := Option.some.inj (t8.symm.trans g8)
    obtain rfl : x9 = q := Option.some.inj (t9.symm.trans g9)
    unfold pAb
    rw [then_of f0, then_of f1, then_of f2, then_of f3, then_of f4, then_of f5, then_of f6, then_of f7, then_of f8, then_of f9]
    rfl
theorem raOp0 (hs : s.size ≤ 70368744177664) (hQ : ∀ (a : Act) (w' : World), a.defers = [] → w0.grownBy w' (some rb) → pAb s = none → Q (.panic [{ v := .iface 24 (.int .i64 4), recovered := false }]) a w') (h : AtC raOps 29 [1, 3, 5, 7, 9, 14, 18, 20, 22, 24] (raBase bx xb) (raVal rb s) (RH w0 rb s (raSt s) (raI rb bx xb)) l a w) (hn : l.getD 0 true = false) (hd : ∀ o : Oper, raOps[0]? = some o → ∀ e ∈ o.after.toList, Region.binds .any e = true → l.getD e.on false = true) : wpOp Tryz.prog raOps Q 0 (AtC raOps 29 [1, 3, 5, 7, 9, 14, 18, 20, 22, 24] (raBase bx xb) (raVal rb s) (RH w0 rb s (raSt s) (raI rb bx xb)) (l.setIfInBounds 0 true)) a w := by
  have hown : ownAt raOps 29 (raBase bx xb) 0 3 := ownAt_of (by kernel_rfl) rfl
  obtain ⟨o, ho⟩ : ∃ o, raOps[0]? = some o := Option.isSome_iff_exists.1 (by kernel_rfl)
  have hop : o.op = Op.load 62 (Operand.tmp 1) := op_of ho (by kernel_rfl)
  have hg : o.guard = none := guard_of ho (by kernel_rfl)
  have v1 : a.eval (.tmp 1) = .pointer (some ⟨bx, 0, none⟩) := h.fixed 1 _ rfl
  have c := h.own.2.2.1.cell 0
  simp at c
  exact h.pure ho hown rfl hg (v := rdV rb) (by simp only [execOp, hop, v1]; first | go_simp | simp [go_sem, c]) rfl
theorem raOp1 (hs : s.size ≤ 70368744177664) (hQ : ∀ (a : Act) (w' : World), a.defers = [] → w0.grownBy w' (some rb) → pAb s = none → Q (.panic [{ v := .iface 24 (.int .i64 4), recovered := false }]) a w') (h : AtC raOps 29 [1, 3, 5, 7, 9, 14, 18, 20, 22, 24] (raBase bx xb) (raVal rb s) (RH w0 rb s (raSt s) (raI rb bx xb)) l a w) (hn : l.getD 1 true = false) (hd : ∀ o : Oper, raOps[1]? = some o → ∀ e ∈ o.after.toList, Region.binds .any e = true → l.getD e.on false = true) : wpOp Tryz.prog raOps Q 1 (AtC raOps 29 [1, 3, 5, 7, 9, 14, 18, 20, 22, 24] (raBase bx xb) (raVal rb s) (RH w0 rb s (raSt s) (raI rb bx xb)) (l.setIfInBounds 1 true)) a w := by
  have hown : ownAt raOps 29 (raBase bx xb) 1 4 := ownAt_of (by kernel_rfl) rfl
  obtain ⟨o, ho⟩ : ∃ o, raOps[1]? = some o := Option.isSome_iff_exists.1 (by kernel_rfl)
  have hop : o.op = Op.call { callee := Callee.value (Operand.func 51), args := #[Operand.tmp 3], argTypes := #[62] } := op_of ho (by kernel_rfl)
  have hg : o.guard = none := guard_of ho (by kernel_rfl)
  have v3 : a.eval (.tmp 3) = rdV rb := h.done 0 3 (dep hd 0 (by kernel_rfl)) (by kernel_rfl)
  refine h.reads (k := 0) (f := pNum) (q := 51) (args := fun rb => #[rdV rb]) (V := asInt) ho hown (by decide) rfl (by decide) (fun j hj => ?_) hn hg ?_ num1_any rfl hs (fun v w' hv => hv) (raMono rb s) (raKeep rb bx xb) (fun u w' hu hf g => hQ a w' h.defers g (raNone0 hu hf))
  · omega
  · rw [exec_call (enters_of Tryz.func51 (by kernel_rfl) rfl) hop]
    simp only [List.map_toArray, List.map_cons, List.map_nil, v3]
    try rfl
theorem raOp2 (hs : s.size ≤ 70368744177664) (hQ : ∀ (a : Act) (w' : World), a.defers = [] → w0.grownBy w' (some rb) → pAb s = none → Q (.panic [{ v := .iface 24 (.int .i64 4), recovered := false }]) a w') (h : AtC raOps 29 [1, 3, 5, 7, 9, 14, 18, 20, 22, 24] (raBase bx xb) (raVal rb s) (RH w0 rb s (raSt s) (raI rb bx xb)) l a w) (hn : l.getD 2 true = false) (hd : ∀ o : Oper, raOps[2]? = some o → ∀ e ∈ o.after.toList, Region.binds .any e = true → l.getD e.on false = true) : wpOp Tryz.prog raOps Q 2 (AtC raOps 29 [1, 3, 5, 7, 9, 14, 18, 20, 22, 24] (raBase bx xb) (raVal rb s) (RH w0 rb s (raSt s) (raI rb bx xb)) (l.setIfInBounds 2 true)) a w := by
  have hown : ownAt raOps 29 (raBase bx xb) 2 5 := ownAt_of (by kernel_rfl) rfl
  obtain ⟨o, ho⟩ : ∃ o, raOps[2]? = some o := Option.isSome_iff_exists.1 (by kernel_rfl)
  have hop : o.op = Op.load 62 (Operand.tmp 1) := op_of ho (by kernel_rfl)
  have hg : o.guard = none := guard_of ho (by kernel_rfl)
  have v1 : a.eval (.tmp 1) = .pointer (some ⟨bx, 0, none⟩) := h.fixed 1 _ rfl
  have c := h.own.2.2.1.cell 0
  simp at c
  exact h.pure ho hown rfl hg (v := rdV rb) (by simp only [execOp, hop, v1]; first | go_simp | simp [go_sem, c]) rfl
theorem raOp3 (hs : s.size ≤ 70368744177664) (hQ : ∀ (a : Act) (w' : World), a.defers = [] → w0.grownBy w' (some rb) → pAb s = none → Q (.panic [{ v := .iface 24 (.int .i64 4), recovered := false }]) a w') (h : AtC raOps 29 [1, 3, 5, 7, 9, 14, 18, 20, 22, 24] (raBase bx xb) (raVal rb s) (RH w0 rb s (raSt s) (raI rb bx xb)) l a w) (hn : l.getD 3 true = false) (hd : ∀ o : Oper, raOps[3]? = some o → ∀ e ∈ o.after.toList, Region.binds .any e = true → l.getD e.on false = true) : wpOp Tryz.prog raOps Q 3 (AtC raOps 29 [1, 3, 5, 7, 9, 14, 18, 20, 22, 24] (raBase bx xb) (raVal rb s) (RH w0 rb s (raSt s) (raI rb bx xb)) (l.setIfInBounds 3 true)) a w := by
  have hown : ownAt raOps 29 (raBase bx xb) 3 6 := ownAt_of (by kernel_rfl) rfl
  obtain ⟨o, ho⟩ : ∃ o, raOps[3]? = some o := Option.isSome_iff_exists.1 (by kernel_rfl)
  have hop : o.op = Op.call { callee := Callee.value (Operand.func 51), args := #[Operand.tmp 5], argTypes := #[62] } := op_of ho (by kernel_rfl)
  have hg : o.guard = none := guard_of ho (by kernel_rfl)
  have v5 : a.eval (.tmp 5) = rdV rb := h.done 2 5 (dep hd 2 (by kernel_rfl)) (by kernel_rfl)
  refine h.reads (k := 1) (f := pNum) (q := 51) (args := fun rb => #[rdV rb]) (V := asInt) ho hown (by decide) rfl (by decide) (fun j hj => ?_) hn hg ?_ num1_any rfl hs (fun v w' hv => hv) (raMono rb s) (raKeep rb bx xb) (fun u w' hu hf g => hQ a w' h.defers g (raNone1 hu hf))
  · obtain rfl : j = 0 := by omega
    exact dep hd 1 (by kernel_rfl)
  · rw [exec_call (enters_of Tryz.func51 (by kernel_rfl) rfl) hop]
    simp only [List.map_toArray, List.map_cons, List.map_nil, v5]
    try rfl
theorem raOp4 (hs : s.size ≤ 70368744177664) (hQ : ∀ (a : Act) (w' : World), a.defers = [] → w0.grownBy w' (some rb) → pAb s = none → Q (.panic [{ v := .iface 24 (.int .i64 4), recovered := false }]) a w') (h : AtC raOps 29 [1, 3, 5, 7, 9, 14, 18, 20, 22, 24] (raBase bx xb) (raVal rb s) (RH w0 rb s (raSt s) (raI rb bx xb)) l a w) (hn : l.getD 4 true = false) (hd : ∀ o : Oper, raOps[4]? = some o → ∀ e ∈ o.after.toList, Region.binds .any e = true → l.getD e.on false = true) : wpOp Tryz.prog raOps Q 4 (AtC raOps 29 [1, 3, 5, 7, 9, 14, 18, 20, 22, 24] (raBase bx xb) (raVal rb s) (RH w0 rb s (raSt s) (raI rb bx xb)) (l.setIfInBounds 4 true)) a w := by
  have hown : ownAt raOps 29 (raBase bx xb) 4 7 := ownAt_of (by kernel_rfl) rfl
  obtain ⟨o, ho⟩ : ∃ o, raOps[4]? = some o := Option.isSome_iff_exists.1 (by kernel_rfl)
  have hop : o.op = Op.load 62 (Operand.tmp 1) := op_of ho (by kernel_rfl)
  have hg : o.guard = none := guard_of ho (by kernel_rfl)
  have v1 : a.eval (.tmp 1) = .pointer (some ⟨bx, 0, none⟩) := h.fixed 1 _ rfl
  have c := h.own.2.2.1.cell 0
  simp at c
  exact h.pure ho hown rfl hg (v := rdV rb) (by simp only [execOp, hop, v1]; first | go_simp | simp [go_sem, c]) rfl
theorem raOp5 (hs : s.size ≤ 70368744177664) (hQ : ∀ (a : Act) (w' : World), a.defers = [] → w0.grownBy w' (some rb) → pAb s = none → Q (.panic [{ v := .iface 24 (.int .i64 4), recovered := false }]) a w') (h : AtC raOps 29 [1, 3, 5, 7, 9, 14, 18, 20, 22, 24] (raBase bx xb) (raVal rb s) (RH w0 rb s (raSt s) (raI rb bx xb)) l a w) (hn : l.getD 5 true = false) (hd : ∀ o : Oper, raOps[5]? = some o → ∀ e ∈ o.after.toList, Region.binds .any e = true → l.getD e.on false = true) : wpOp Tryz.prog raOps Q 5 (AtC raOps 29 [1, 3, 5, 7, 9, 14, 18, 20, 22, 24] (raBase bx xb) (raVal rb s) (RH w0 rb s (raSt s) (raI rb bx xb)) (l.setIfInBounds 5 true)) a w := by
  have hown : ownAt raOps 29 (raBase bx xb) 5 8 := ownAt_of (by kernel_rfl) rfl
  obtain ⟨o, ho⟩ : ∃ o, raOps[5]? = some o := Option.isSome_iff_exists.1 (by kernel_rfl)
  have hop : o.op = Op.call { callee := Callee.value (Operand.func 51), args := #[Operand.tmp 7], argTypes := #[62] } := op_of ho (by kernel_rfl)
  have hg : o.guard = none := guard_of ho (by kernel_rfl)
  have v7 : a.eval (.tmp 7) = rdV rb := h.done 4 7 (dep hd 4 (by kernel_rfl)) (by kernel_rfl)
  refine h.reads (k := 2) (f := pNum) (q := 51) (args := fun rb => #[rdV rb]) (V := asInt) ho hown (by decide) rfl (by decide) (fun j hj => ?_) hn hg ?_ num1_any rfl hs (fun v w' hv => hv) (raMono rb s) (raKeep rb bx xb) (fun u w' hu hf g => hQ a w' h.defers g (raNone2 hu hf))
  · obtain rfl : j = 1 := by omega
    exact dep hd 3 (by kernel_rfl)
  · rw [exec_call (enters_of Tryz.func51 (by kernel_rfl) rfl) hop]
    simp only [List.map_toArray, List.map_cons, List.map_nil, v7]
    try rfl
theorem raOp6 (hs : s.size ≤ 70368744177664) (hQ : ∀ (a : Act) (w' : World), a.defers = [] → w0.grownBy w' (some rb) → pAb s = none → Q (.panic [{ v := .iface 24 (.int .i64 4), recovered := false }]) a w') (h : AtC raOps 29 [1, 3, 5, 7, 9, 14, 18, 20, 22, 24] (raBase bx xb) (raVal rb s) (RH w0 rb s (raSt s) (raI rb bx xb)) l a w) (hn : l.getD 6 true = false) (hd : ∀ o : Oper, raOps[6]? = some o → ∀ e ∈ o.after.toList, Region.binds .any e = true → l.getD e.on false = true) : wpOp Tryz.prog raOps Q 6 (AtC raOps 29 [1, 3, 5, 7, 9, 14, 18, 20, 22, 24] (raBase bx xb) (raVal rb s) (RH w0 rb s (raSt s) (raI rb bx xb)) (l.setIfInBounds 6 true)) a w := by
  have hown : ownAt raOps 29 (raBase bx xb) 6 9 := ownAt_of (by kernel_rfl) rfl
  obtain ⟨o, ho⟩ : ∃ o, raOps[6]? = some o := Option.isSome_iff_exists.1 (by kernel_rfl)
  have hop : o.op = Op.load 62 (Operand.tmp 1) := op_of ho (by kernel_rfl)
  have hg : o.guard = none := guard_of ho (by kernel_rfl)
  have v1 : a.eval (.tmp 1) = .pointer (some ⟨bx, 0, none⟩) := h.fixed 1 _ rfl
  have c := h.own.2.2.1.cell 0
  simp at c
  exact h.pure ho hown rfl hg (v := rdV rb) (by simp only [execOp, hop, v1]; first | go_simp | simp [go_sem, c]) rfl
theorem raOp7 (hs : s.size ≤ 70368744177664) (hQ : ∀ (a : Act) (w' : World), a.defers = [] → w0.grownBy w' (some rb) → pAb s = none → Q (.panic [{ v := .iface 24 (.int .i64 4), recovered := false }]) a w') (h : AtC raOps 29 [1, 3, 5, 7, 9, 14, 18, 20, 22, 24] (raBase bx xb) (raVal rb s) (RH w0 rb s (raSt s) (raI rb bx xb)) l a w) (hn : l.getD 7 true = false) (hd : ∀ o : Oper, raOps[7]? = some o → ∀ e ∈ o.after.toList, Region.binds .any e = true → l.getD e.on false = true) : wpOp Tryz.prog raOps Q 7 (AtC raOps 29 [1, 3, 5, 7, 9, 14, 18, 20, 22, 24] (raBase bx xb) (raVal rb s) (RH w0 rb s (raSt s) (raI rb bx xb)) (l.setIfInBounds 7 true)) a w := by
  have hown : ownAt raOps 29 (raBase bx xb) 7 10 := ownAt_of (by kernel_rfl) rfl
  obtain ⟨o, ho⟩ : ∃ o, raOps[7]? = some o := Option.isSome_iff_exists.1 (by kernel_rfl)
  have hop : o.op = Op.call { callee := Callee.value (Operand.func 52), args := #[Operand.tmp 9], argTypes := #[62] } := op_of ho (by kernel_rfl)
  have hg : o.guard = none := guard_of ho (by kernel_rfl)
  have v9 : a.eval (.tmp 9) = rdV rb := h.done 6 9 (dep hd 6 (by kernel_rfl)) (by kernel_rfl)
  refine h.reads (k := 3) (f := pMan) (q := 52) (args := fun rb => #[rdV rb]) (V := asMan) ho hown (by decide) rfl (by decide) (fun j hj => ?_) hn hg ?_ mana1_any rfl hs (fun v w' hv => hv) (raMono rb s) (raKeep rb bx xb) (fun u w' hu hf g => hQ a w' h.defers g (raNone3 hu hf))
  · obtain rfl : j = 2 := by omega
    exact dep hd 5 (by kernel_rfl)
  · rw [exec_call (enters_of Tryz.func52 (by kernel_rfl) rfl) hop]
    simp only [List.map_toArray, List.map_cons, List.map_nil, v9]
    try rfl
theorem raOp8 (hs : s.size ≤ 70368744177664) (hQ : ∀ (a : Act) (w' : World), a.defers = [] → w0.grownBy w' (some rb) → pAb s = none → Q (.panic [{ v := .iface 24 (.int .i64 4), recovered := false }]) a w') (h : AtC raOps 29 [1, 3, 5, 7, 9, 14, 18, 20, 22, 24] (raBase bx xb) (raVal rb s) (RH w0 rb s (raSt s) (raI rb bx xb)) l a w) (hn : l.getD 8 true = false) (hd : ∀ o : Oper, raOps[8]? = some o → ∀ e ∈ o.after.toList, Region.binds .any e = true → l.getD e.on false = true) : wpOp Tryz.prog raOps Q 8 (AtC raOps 29 [1, 3, 5, 7, 9, 14, 18, 20, 22, 24] (raBase bx xb) (raVal rb s) (RH w0 rb s (raSt s) (raI rb bx xb)) (l.setIfInBounds 8 true)) a w := by
  have hown : ownAt raOps 29 (raBase bx xb) 8 11 := ownAt_of (by kernel_rfl) rfl
  obtain ⟨o, ho⟩ : ∃ o, raOps[8]? = some o := Option.isSome_iff_exists.1 (by kernel_rfl)
  have hop : o.op = Op.load 62 (Operand.tmp 1) := op_of ho (by kernel_rfl)
  have hg : o.guard = none := guard_of ho (by kernel_rfl)
  have v1 : a.eval (.tmp 1) = .pointer (some ⟨bx, 0, none⟩) := h.fixed 1 _ rfl
  have c := h.own.2.2.1.cell 0
  simp at c
  exact h.pure ho hown rfl hg (v := rdV rb) (by simp only [execOp, hop, v1]; first | go_simp | simp [go_sem, c]) rfl
theorem raOp9 (hs : s.size ≤ 70368744177664) (hQ : ∀ (a : Act) (w' : World), a.defers = [] → w0.grownBy w' (some rb) → pAb s = none → Q (.panic [{ v := .iface 24 (.int .i64 4), recovered := false }]) a w') (h : AtC raOps 29 [1, 3, 5, 7, 9, 14, 18, 20, 22, 24] (raBase bx xb) (raVal rb s) (RH w0 rb s (raSt s) (raI rb bx xb)) l a w) (hn : l.getD 9 true = false) (hd : ∀ o : Oper, raOps[9]? = some o → ∀ e ∈ o.after.toList, Region.binds .any e = true → l.getD e.on false = true) : wpOp Tryz.prog raOps Q 9 (AtC raOps 29 [1, 3, 5, 7, 9, 14, 18, 20, 22, 24] (raBase bx xb) (raVal rb s) (RH w0 rb s (raSt s) (raI rb bx xb)) (l.setIfInBounds 9 true)) a w := by
  have hown : ownAt raOps 29 (raBase bx xb) 9 12 := ownAt_of (by kernel_rfl) rfl
  obtain ⟨o, ho⟩ : ∃ o, raOps[9]? = some o := Option.isSome_iff_exists.1 (by kernel_rfl)
  have hop : o.op = Op.call { callee := Callee.value (Operand.func 49), args := #[Operand.tmp 11, Operand.const (Value.int IntKind.i64 1)], argTypes := #[62, 3] } := op_of ho (by kernel_rfl)
  have hg : o.guard = none := guard_of ho (by kernel_rfl)
  have v11 : a.eval (.tmp 11) = rdV rb := h.done 8 11 (dep hd 8 (by kernel_rfl)) (by kernel_rfl)
  refine h.reads (k := 4) (f := (pUp 1)) (q := 49) (args := fun rb => #[rdV rb, .int .i64 (1 : Nat)]) (V := asInt) ho hown (by decide) rfl (by decide) (fun j hj => ?_) hn hg ?_ (upTo_any 1 (by omega)) rfl hs (fun v w' hv => hv) (raMono rb s) (raKeep rb bx xb) (fun u w' hu hf g => hQ a w' h.defers g (raNone4 hu hf))
  · obtain rfl : j = 3 := by omega
    exact dep hd 7 (by kernel_rfl)
  · rw [exec_call (enters_of Tryz.func49 (by kernel_rfl) rfl) hop]
    simp only [List.map_toArray, List.map_cons, List.map_nil, v11]
    try rfl
theorem raOp10 (hs : s.size ≤ 70368744177664) (hQ : ∀ (a : Act) (w' : World), a.defers = [] → w0.grownBy w' (some rb) → pAb s = none → Q (.panic [{ v := .iface 24 (.int .i64 4), recovered := false }]) a w') (h : AtC raOps 29 [1, 3, 5, 7, 9, 14, 18, 20, 22, 24] (raBase bx xb) (raVal rb s) (RH w0 rb s (raSt s) (raI rb bx xb)) l a w) (hn : l.getD 10 true = false) (hd : ∀ o : Oper, raOps[10]? = some o → ∀ e ∈ o.after.toList, Region.binds .any e = true → l.getD e.on false = true) : wpOp Tryz.prog raOps Q 10 (AtC raOps 29 [1, 3, 5, 7, 9, 14, 18, 20, 22, 24] (raBase bx xb) (raVal rb s) (RH w0 rb s (raSt s) (raI rb bx xb)) (l.setIfInBounds 10 true)) a w := by
  have hown : ownAt raOps 29 (raBase bx xb) 10 13 := ownAt_of (by kernel_rfl) rfl
  obtain ⟨o, ho⟩ : ∃ o, raOps[10]? = some o := Option.isSome_iff_exists.1 (by kernel_rfl)
  have hop : o.op = Op.binOp BinOp.eql 3 (Operand.tmp 12) (Operand.const (Value.int IntKind.i64 1)) 3 := op_of ho (by kernel_rfl)
  have hg : o.guard = none := guard_of ho (by kernel_rfl)
  have p12 : raVal rb s 9 (a.eval (.tmp 12)) w := h.done 9 12 (dep hd 9 (by kernel_rfl)) (by kernel_rfl)
  obtain ⟨z, hz, hv⟩ := p12
  change a.eval (.tmp 12) = .int .i64 z at hv
  exact h.pure ho hown rfl hg (v := .bool (z == 1)) (by simp only [execOp, hop, hv]; first | kernel_rfl | go_simp) ⟨z, hz, rfl⟩
theorem raOp11 (hs : s.size ≤ 70368744177664) (hQ : ∀ (a : Act) (w' : World), a.defers = [] → w0.grownBy w' (some rb) → pAb s = none → Q (.panic [{ v := .iface 24 (.int .i64 4), recovered := false }]) a w') (h : AtC raOps 29 [1, 3, 5, 7, 9, 14, 18, 20, 22, 24] (raBase bx xb) (raVal rb s) (RH w0 rb s (raSt s) (raI rb bx xb)) l a w) (hn : l.getD 11 true = false) (hd : ∀ o : Oper, raOps[11]? = some o → ∀ e ∈ o.after.toList, Region.binds .any e = true → l.getD e.on false = true) : wpOp Tryz.prog raOps Q 11 (AtC raOps 29 [1, 3, 5, 7, 9, 14, 18, 20, 22, 24] (raBase bx xb) (raVal rb s) (RH w0 rb s (raSt s) (raI rb bx xb)) (l.setIfInBounds 11 true)) a w := by
  have hown : ownAt raOps 29 (raBase bx xb) 11 14 := ownAt_of (by kernel_rfl) rfl
  obtain ⟨o, ho⟩ : ∃ o, raOps[11]? = some o := Option.isSome_iff_exists.1 (by kernel_rfl)
  have hop : o.op = Op.load 62 (Operand.tmp 1) := op_of ho (by kernel_rfl)
  have hg : o.guard = none := guard_of ho (by kernel_rfl)
  have v1 : a.eval (.tmp 1) = .pointer (some ⟨bx, 0, none⟩) := h.fixed 1 _ rfl
  have c := h.own.2.2.1.cell 0
  simp at c
  exact h.pure ho hown rfl hg (v := rdV rb) (by simp only [execOp, hop, v1]; first | go_simp | simp [go_sem, c]) rfl
theorem raOp12 (hs : s.size ≤ 70368744177664) (hQ : ∀ (a : Act) (w' : World), a.defers = [] → w0.grownBy w' (some rb) → pAb s = none → Q (.panic [{ v := .iface 24 (.int .i64 4), recovered := false }]) a w') (h : AtC raOps 29 [1, 3, 5, 7, 9, 14, 18, 20, 22, 24] (raBase bx xb) (raVal rb s) (RH w0 rb s (raSt s) (raI rb bx xb)) l a w) (hn : l.getD 12 true = false) (hd : ∀ o : Oper, raOps[12]? = some o → ∀ e ∈ o.after.toList, Region.binds .any e = true → l.getD e.on false = true) : wpOp Tryz.prog raOps Q 12 (AtC raOps 29 [1, 3, 5, 7, 9, 14, 18, 20, 22, 24] (raBase bx xb) (raVal rb s) (RH w0 rb s (raSt s) (raI rb bx xb)) (l.setIfInBounds 12 true)) a w := by
  have hown : ownAt raOps 29 (raBase bx xb) 12 15 := ownAt_of (by kernel_rfl) rfl
  obtain ⟨o, ho⟩ : ∃ o, raOps[12]? = some o := Option.isSome_iff_exists.1 (by kernel_rfl)
  have hop : o.op = Op.load 62 (Operand.tmp 1) := op_of ho (by kernel_rfl)
  have hg : o.guard = none := guard_of ho (by kernel_rfl)
  have v1 : a.eval (.tmp 1) = .pointer (some ⟨bx, 0, none⟩) := h.fixed 1 _ rfl
  have c := h.own.2.2.1.cell 0
  simp at c
  exact h.pure ho hown rfl hg (v := rdV rb) (by simp only [execOp, hop, v1]; first | go_simp | simp [go_sem, c]) rfl
theorem raOp13 (hs : s.size ≤ 70368744177664) (hQ : ∀ (a : Act) (w' : World), a.defers = [] → w0.grownBy w' (some rb) → pAb s = none → Q (.panic [{ v := .iface 24 (.int .i64 4), recovered := false }]) a w') (h : AtC raOps 29 [1, 3, 5, 7, 9, 14, 18, 20, 22, 24] (raBase bx xb) (raVal rb s) (RH w0 rb s (raSt s) (raI rb bx xb)) l a w) (hn : l.getD 13 true = false) (hd : ∀ o : Oper, raOps[13]? = some o → ∀ e ∈ o.after.toList, Region.binds .any e = true → l.getD e.on false = true) : wpOp Tryz.prog raOps Q 13 (AtC raOps 29 [1, 3, 5, 7, 9, 14, 18, 20, 22, 24] (raBase bx xb) (raVal rb s) (RH w0 rb s (raSt s) (raI rb bx xb)) (l.setIfInBounds 13 true)) a w := by
  have hown : ownAt raOps 29 (raBase bx xb) 13 16 := ownAt_of (by kernel_rfl) rfl
  obtain ⟨o, ho⟩ : ∃ o, raOps[13]? = some o := Option.isSome_iff_exists.1 (by kernel_rfl)
  have hop : o.op = Op.makeFunc (Fn.func 51) #[(Operand.tmp 15)] #[] := op_of ho (by kernel_rfl)
  have hg : o.guard = none := guard_of ho (by kernel_rfl)
  have v15 : a.eval (.tmp 15) = rdV rb := h.done 12 15 (dep hd 12 (by kernel_rfl)) (by kernel_rfl)
  exact h.pure ho hown rfl hg (v := .func (.func 51) #[rdV rb] #[]) (by simp only [execOp, hop, v15]; first | rfl | (simp [v15]; rfl)) rfl
theorem raOp14 (hs : s.size ≤ 70368744177664) (hQ : ∀ (a : Act) (w' : World), a.defers = [] → w0.grownBy w' (some rb) → pAb s = none → Q (.panic [{ v := .iface 24 (.int .i64 4), recovered := false }]) a w') (h : AtC raOps 29 [1, 3, 5, 7, 9, 14, 18, 20, 22, 24] (raBase bx xb) (raVal rb s) (RH w0 rb s (raSt s) (raI rb bx xb)) l a w) (hn : l.getD 14 true = false) (hd : ∀ o : Oper, raOps[14]? = some o → ∀ e ∈ o.after.toList, Region.binds .any e = true → l.getD e.on false = true) : wpOp Tryz.prog raOps Q 14 (AtC raOps 29 [1, 3, 5, 7, 9, 14, 18, 20, 22, 24] (raBase bx xb) (raVal rb s) (RH w0 rb s (raSt s) (raI rb bx xb)) (l.setIfInBounds 14 true)) a w := by
  have hown : ownAt raOps 29 (raBase bx xb) 14 17 := ownAt_of (by kernel_rfl) rfl
  obtain ⟨o, ho⟩ : ∃ o, raOps[14]? = some o := Option.isSome_iff_exists.1 (by kernel_rfl)
  have hop : o.op = Op.call { callee := Callee.value (Operand.func 76), args := #[Operand.tmp 14, Operand.const (Value.int IntKind.i64 2), Operand.tmp 16], argTypes := #[62, 3, 93] } := op_of ho (by kernel_rfl)
  have hg : o.guard = none := guard_of ho (by kernel_rfl)
  have v14 : a.eval (.tmp 14) = rdV rb := h.done 11 14 (dep hd 11 (by kernel_rfl)) (by kernel_rfl)
  have v16 : a.eval (.tmp 16) = .func (.func 51) #[rdV rb] #[] := h.done 13 16 (dep hd 13 (by kernel_rfl)) (by kernel_rfl)
  refine h.reads (k := 5) (f := (pList 2 pNum)) (q := 76) (args := fun rb => #[rdV rb, .int .i64 (2 : Nat), .func (.func 51) #[rdV rb] #[]]) (V := (VL vI 3 1 (fun l => l.map (Value.int .i64)))) ho hown (by decide) rfl (by decide) (fun j hj => ?_) hn hg ?_ (list_i 2 (by omega) num1_vv) rfl hs (fun v w' hv => hv) (raMono rb s) (raKeep rb bx xb) (fun u w' hu hf g => hQ a w' h.defers g (raNone5 hu hf))
  · obtain rfl : j = 4 := by omega
    exact dep hd 9 (by kernel_rfl)
  · rw [exec_call (enters_of Tryz.func76 (by kernel_rfl) rfl) hop]
    simp only [List.map_toArray, List.map_cons, List.map_nil, v14, v16]
    try rfl
theorem raOp15 (hs : s.size ≤ 70368744177664) (hQ : ∀ (a : Act) (w' : World), a.defers = [] → w0.grownBy w' (some rb) → pAb s = none → Q (.panic [{ v := .iface 24 (.int .i64 4), recovered := false }]) a w') (h : AtC raOps 29 [1, 3, 5, 7, 9, 14, 18, 20, 22, 24] (raBase bx xb) (raVal rb s) (RH w0 rb s (raSt s) (raI rb bx xb)) l a w) (hn : l.getD 15 true = false) (hd : ∀ o : Oper, raOps[15]? = some o → ∀ e ∈ o.after.toList, Region.binds .any e = true → l.getD e.on false = true) : wpOp Tryz.prog raOps Q 15 (AtC raOps 29 [1, 3, 5, 7, 9, 14, 18, 20, 22, 24] (raBase bx xb) (raVal rb s) (RH w0 rb s (raSt s) (raI rb bx xb)) (l.setIfInBounds 15 true)) a w := by
  have hown : ownAt raOps 29 (raBase bx xb) 15 18 := ownAt_of (by kernel_rfl) rfl
  obtain ⟨o, ho⟩ : ∃ o, raOps[15]? = some o := Option.isSome_iff_exists.1 (by kernel_rfl)
  have hop : o.op = Op.load 62 (Operand.tmp 1) := op_of ho (by kernel_rfl)
  have hg : o.guard = none := guard_of ho (by kernel_rfl)
  have v1 : a.eval (.tmp 1) = .pointer (some ⟨bx, 0, none⟩) := h.fixed 1 _ rfl
  have c := h.own.2.2.1.cell 0
  simp at c
  exact h.pure ho hown rfl hg (v := rdV rb) (by simp only [execOp, hop, v1]; first | go_simp | simp [go_sem, c]) rfl
theorem raOp16 (hs : s.size ≤ 70368744177664) (hQ : ∀ (a : Act) (w' : World), a.defers = [] → w0.grownBy w' (some rb) → pAb s = none → Q (.panic [{ v := .iface 24 (.int .i64 4), recovered := false }]) a w') (h : AtC raOps 29 [1, 3, 5, 7, 9, 14, 18, 20, 22, 24] (raBase bx xb) (raVal rb s) (RH w0 rb s (raSt s) (raI rb bx xb)) l a w) (hn : l.getD 16 true = false) (hd : ∀ o : Oper, raOps[16]? = some o → ∀ e ∈ o.after.toList, Region.binds .any e = true → l.getD e.on false = true) : wpOp Tryz.prog raOps Q 16 (AtC raOps 29 [1, 3, 5, 7, 9, 14, 18, 20, 22, 24] (raBase bx xb) (raVal rb s) (RH w0 rb s (raSt s) (raI rb bx xb)) (l.setIfInBounds 16 true)) a w := by
  have hown : ownAt raOps 29 (raBase bx xb) 16 19 := ownAt_of (by kernel_rfl) rfl
  obtain ⟨o, ho⟩ : ∃ o, raOps[16]? = some o := Option.isSome_iff_exists.1 (by kernel_rfl)
  have hop : o.op = Op.load 62 (Operand.tmp 1) := op_of ho (by kernel_rfl)
  have hg : o.guard = none := guard_of ho (by kernel_rfl)
  have v1 : a.eval (.tmp 1) = .pointer (some ⟨bx, 0, none⟩) := h.fixed 1 _ rfl
  have c := h.own.2.2.1.cell 0
  simp at c
  exact h.pure ho hown rfl hg (v := rdV rb) (by simp only [execOp, hop, v1]; first | go_simp | simp [go_sem, c]) rfl
theorem raOp17 (hs : s.size ≤ 70368744177664) (hQ : ∀ (a : Act) (w' : World), a.defers = [] → w0.grownBy w' (some rb) → pAb s = none → Q (.panic [{ v := .iface 24 (.int .i64 4), recovered := false }]) a w') (h : AtC raOps 29 [1, 3, 5, 7, 9, 14, 18, 20, 22, 24] (raBase bx xb) (raVal rb s) (RH w0 rb s (raSt s) (raI rb bx xb)) l a w) (hn : l.getD 17 true = false) (hd : ∀ o : Oper, raOps[17]? = some o → ∀ e ∈ o.after.toList, Region.binds .any e = true → l.getD e.on false = true) : wpOp Tryz.prog raOps Q 17 (AtC raOps 29 [1, 3, 5, 7, 9, 14, 18, 20, 22, 24] (raBase bx xb) (raVal rb s) (RH w0 rb s (raSt s) (raI rb bx xb)) (l.setIfInBounds 17 true)) a w := by
  have hown : ownAt raOps 29 (raBase bx xb) 17 20 := ownAt_of (by kernel_rfl) rfl
  obtain ⟨o, ho⟩ : ∃ o, raOps[17]? = some o := Option.isSome_iff_exists.1 (by kernel_rfl)
  have hop : o.op = Op.makeFunc (Fn.func 78) #[(Operand.tmp 19)] #[] := op_of ho (by kernel_rfl)
  have hg : o.guard = none := guard_of ho (by kernel_rfl)
  have v19 : a.eval (.tmp 19) = rdV rb := h.done 16 19 (dep hd 16 (by kernel_rfl)) (by kernel_rfl)
  exact h.pure ho hown rfl hg (v := .func (.func 78) #[rdV rb] #[]) (by simp only [execOp, hop, v19]; first | rfl | (simp [v19]; rfl)) rfl
theorem raOp18 (hs : s.size ≤ 70368744177664) (hQ : ∀ (a : Act) (w' : World), a.defers = [] → w0.grownBy w' (some rb) → pAb s = none → Q (.panic [{ v := .iface 24 (.int .i64 4), recovered := false }]) a w') (h : AtC raOps 29 [1, 3, 5, 7, 9, 14, 18, 20, 22, 24] (raBase bx xb) (raVal rb s) (RH w0 rb s (raSt s) (raI rb bx xb)) l a w) (hn : l.getD 18 true = false) (hd : ∀ o : Oper, raOps[18]? = some o → ∀ e ∈ o.after.toList, Region.binds .any e = true → l.getD e.on false = true) : wpOp Tryz.prog raOps Q 18 (AtC raOps 29 [1, 3, 5, 7, 9, 14, 18, 20, 22, 24] (raBase bx xb) (raVal rb s) (RH w0 rb s (raSt s) (raI rb bx xb)) (l.setIfInBounds 18 true)) a w := by
  have hown : ownAt raOps 29 (raBase bx xb) 18 21 := ownAt_of (by kernel_rfl) rfl
  obtain ⟨o, ho⟩ : ∃ o, raOps[18]? = some o := Option.isSome_iff_exists.1 (by kernel_rfl)
  have hop : o.op = Op.call { callee := Callee.value (Operand.func 77), args := #[Operand.tmp 18, Operand.const (Value.int IntKind.i64 32), Operand.tmp 20], argTypes := #[62, 3, 115] } := op_of ho (by kernel_rfl)
  have hg : o.guard = none := guard_of ho (by kernel_rfl)
  have v18 : a.eval (.tmp 18) = rdV rb := h.done 15 18 (dep hd 15 (by kernel_rfl)) (by kernel_rfl)
  have v20 : a.eval (.tmp 20) = .func (.func 78) #[rdV rb] #[] := h.done 17 20 (dep hd 17 (by kernel_rfl)) (by kernel_rfl)
  refine h.reads (k := 6) (f := (pList 32 pIns)) (q := 77) (args := fun rb => #[rdV rb, .int .i64 (32 : Nat), .func (.func 78) #[rdV rb] #[]]) (V := (VL vN 82 3 insCells)) ho hown (by decide) rfl (by decide) (fun j hj => ?_) hn hg ?_ (list_n 32 (by omega) instr1_any) rfl hs (fun v w' hv => hv) (raMono rb s) (raKeep rb bx xb) (fun u w' hu hf g => hQ a w' h.defers g (raNone6 hu hf))
  · obtain rfl : j = 5 := by omega
    exact dep hd 14 (by kernel_rfl)
  · rw [exec_call (enters_of Tryz.func77 (by kernel_rfl) rfl) hop]
    simp only [List.map_toArray, List.map_cons, List.map_nil, v18, v20]
    try rfl
theorem raOp19 (hs : s.size ≤ 70368744177664) (hQ : ∀ (a : Act) (w' : World), a.defers = [] → w0.grownBy w' (some rb) → pAb s = none → Q (.panic [{ v := .iface 24 (.int .i64 4), recovered := false }]) a w') (h : AtC raOps 29 [1, 3, 5, 7, 9, 14, 18, 20, 22, 24] (raBase bx xb) (raVal rb s) (RH w0 rb s (raSt s) (raI rb bx xb)) l a w) (hn : l.getD 19 true = false) (hd : ∀ o : Oper, raOps[19]? = some o → ∀ e ∈ o.after.toList, Region.binds .any e = true → l.getD e.on false = true) : wpOp Tryz.prog raOps Q 19 (AtC raOps 29 [1, 3, 5, 7, 9, 14, 18, 20, 22, 24] (raBase bx xb) (raVal rb s) (RH w0 rb s (raSt s) (raI rb bx xb)) (l.setIfInBounds 19 true)) a w := by
  have hown : ownAt raOps 29 (raBase bx xb) 19 22 := ownAt_of (by kernel_rfl) rfl
  obtain ⟨o, ho⟩ : ∃ o, raOps[19]? = some o := Option.isSome_iff_exists.1 (by kernel_rfl)
  have hop : o.op = Op.load 62 (Operand.tmp 1) := op_of ho (by kernel_rfl)
  have hg : o.guard = none := guard_of ho (by kernel_rfl)
  have v1 : a.eval (.tmp 1) = .pointer (some ⟨bx, 0, none⟩) := h.fixed 1 _ rfl
  have c := h.own.2.2.1.cell 0
  simp at c
  exact h.pure ho hown rfl hg (v := rdV rb) (by simp only [execOp, hop, v1]; first | go_simp | simp [go_sem, c]) rfl
theorem raOp20 (hs : s.size ≤ 70368744177664) (hQ : ∀ (a : Act) (w' : World), a.defers = [] → w0.grownBy w' (some rb) → pAb s = none → Q (.panic [{ v := .iface 24 (.int .i64 4), recovered := false }]) a w') (h : AtC raOps 29 [1, 3, 5, 7, 9, 14, 18, 20, 22, 24] (raBase bx xb) (raVal rb s) (RH w0 rb s (raSt s) (raI rb bx xb)) l a w) (hn : l.getD 20 true = false) (hd : ∀ o : Oper, raOps[20]? = some o → ∀ e ∈ o.after.toList, Region.binds .any e = true → l.getD e.on false = true) : wpOp Tryz.prog raOps Q 20 (AtC raOps 29 [1, 3, 5, 7, 9, 14, 18, 20, 22, 24] (raBase bx xb) (raVal rb s) (RH w0 rb s (raSt s) (raI rb bx xb)) (l.setIfInBounds 20 true)) a w := by
  have hown : ownAt raOps 29 (raBase bx xb) 20 23 := ownAt_of (by kernel_rfl) rfl
  obtain ⟨o, ho⟩ : ∃ o, raOps[20]? = some o := Option.isSome_iff_exists.1 (by kernel_rfl)
  have hop : o.op = Op.call { callee := Callee.value (Operand.func 51), args := #[Operand.tmp 22], argTypes := #[62] } := op_of ho (by kernel_rfl)
  have hg : o.guard = none := guard_of ho (by kernel_rfl)
  have v22 : a.eval (.tmp 22) = rdV rb := h.done 19 22 (dep hd 19 (by kernel_rfl)) (by kernel_rfl)
  refine h.reads (k := 7) (f := pNum) (q := 51) (args := fun rb => #[rdV rb]) (V := asInt) ho hown (by decide) rfl (by decide) (fun j hj => ?_) hn hg ?_ num1_any rfl hs (fun v w' hv => hv) (raMono rb s) (raKeep rb bx xb) (fun u w' hu hf g => hQ a w' h.defers g (raNone7 hu hf))
  · obtain rfl : j = 6 := by omega
    exact dep hd 18 (by kernel_rfl)
  · rw [exec_call (enters_of Tryz.func51 (by kernel_rfl) rfl) hop]
    simp only [List.map_toArray, List.map_cons, List.map_nil, v22]
    try rfl
theorem raOp21 (hs : s.size ≤ 70368744177664) (hQ : ∀ (a : Act) (w' : World), a.defers = [] → w0.grownBy w' (some rb) → pAb s = none → Q (.panic [{ v := .iface 24 (.int .i64 4), recovered := false }]) a w') (h : AtC raOps 29 [1, 3, 5, 7, 9, 14, 18, 20, 22, 24] (raBase bx xb) (raVal rb s) (RH w0 rb s (raSt s) (raI rb bx xb)) l a w) (hn : l.getD 21 true = false) (hd : ∀ o : Oper, raOps[21]? = some o → ∀ e ∈ o.after.toList, Region.binds .any e = true → l.getD e.on false = true) : wpOp Tryz.prog raOps Q 21 (AtC raOps 29 [1, 3, 5, 7, 9, 14, 18, 20, 22, 24] (raBase bx xb) (raVal rb s) (RH w0 rb s (raSt s) (raI rb bx xb)) (l.setIfInBounds 21 true)) a w := by
  have hown : ownAt raOps 29 (raBase bx xb) 21 24 := ownAt_of (by kernel_rfl) rfl
  obtain ⟨o, ho⟩ : ∃ o, raOps[21]? = some o := Option.isSome_iff_exists.1 (by kernel_rfl)
  have hop : o.op = Op.load 62 (Operand.tmp 1) := op_of ho (by kernel_rfl)
  have hg : o.guard = none := guard_of ho (by kernel_rfl)
  have v1 : a.eval (.tmp 1) = .pointer (some ⟨bx, 0, none⟩) := h.fixed 1 _ rfl
  have c := h.own.2.2.1.cell 0
  simp at c
  exact h.pure ho hown rfl hg (v := rdV rb) (by simp only [execOp, hop, v1]; first | go_simp | simp [go_sem, c]) rfl
theorem raOp22 (hs : s.size ≤ 70368744177664) (hQ : ∀ (a : Act) (w' : World), a.defers = [] → w0.grownBy w' (some rb) → pAb s = none → Q (.panic [{ v := .iface 24 (.int .i64 4), recovered := false }]) a w') (h : AtC raOps 29 [1, 3, 5, 7, 9, 14, 18, 20, 22, 24] (raBase bx xb) (raVal rb s) (RH w0 rb s (raSt s) (raI rb bx xb)) l a w) (hn : l.getD 22 true = false) (hd : ∀ o : Oper, raOps[22]? = some o → ∀ e ∈ o.after.toList, Region.binds .any e = true → l.getD e.on false = true) : wpOp Tryz.prog raOps Q 22 (AtC raOps 29 [1, 3, 5, 7, 9, 14, 18, 20, 22, 24] (raBase bx xb) (raVal rb s) (RH w0 rb s (raSt s) (raI rb bx xb)) (l.setIfInBounds 22 true)) a w := by
  have hown : ownAt raOps 29 (raBase bx xb) 22 25 := ownAt_of (by kernel_rfl) rfl
  obtain ⟨o, ho⟩ : ∃ o, raOps[22]? = some o := Option.isSome_iff_exists.1 (by kernel_rfl)
  have hop : o.op = Op.call { callee := Callee.value (Operand.func 79), args := #[Operand.tmp 24], argTypes := #[62] } := op_of ho (by kernel_rfl)
  have hg : o.guard = none := guard_of ho (by kernel_rfl)
  have v24 : a.eval (.tmp 24) = rdV rb := h.done 21 24 (dep hd 21 (by kernel_rfl)) (by kernel_rfl)
  refine h.reads (k := 8) (f := pInt) (q := 79) (args := fun rb => #[rdV rb]) (V := asInt) ho hown (by decide) rfl (by decide) (fun j hj => ?_) hn hg ?_ int1_any rfl hs (fun v w' hv => hv) (raMono rb s) (raKeep rb bx xb) (fun u w' hu hf g => hQ a w' h.defers g (raNone8 hu hf))
  · obtain rfl : j = 7 := by omega
    exact dep hd 20 (by kernel_rfl)
  · rw [exec_call (enters_of Tryz.func79 (by kernel_rfl) rfl) hop]
    simp only [List.map_toArray, List.map_cons, List.map_nil, v24]
    try rfl
theorem raOp23 (hs : s.size ≤ 70368744177664) (hQ : ∀ (a : Act) (w' : World), a.defers = [] → w0.grownBy w' (some rb) → pAb s = none → Q (.panic [{ v := .iface 24 (.int .i64 4), recovered := false }]) a w') (h : AtC raOps 29 [1, 3, 5, 7, 9, 14, 18, 20, 22, 24] (raBase bx xb) (raVal rb s) (RH w0 rb s (raSt s) (raI rb bx xb)) l a w) (hn : l.getD 23 true = false) (hd : ∀ o : Oper, raOps[23]? = some o → ∀ e ∈ o.after.toList, Region.binds .any e = true → l.getD e.on false = true) : wpOp Tryz.prog raOps Q 23 (AtC raOps 29 [1, 3, 5, 7, 9, 14, 18, 20, 22, 24] (raBase bx xb) (raVal rb s) (RH w0 rb s (raSt s) (raI rb bx xb)) (l.setIfInBounds 23 true)) a w := by
  have hown : ownAt raOps 29 (raBase bx xb) 23 26 := ownAt_of (by kernel_rfl) rfl
  obtain ⟨o, ho⟩ : ∃ o, raOps[23]? = some o := Option.isSome_iff_exists.1 (by kernel_rfl)
  have hop : o.op = Op.load 62 (Operand.tmp 1) := op_of ho (by kernel_rfl)
  have hg : o.guard = none := guard_of ho (by kernel_rfl)
  have v1 : a.eval (.tmp 1) = .pointer (some ⟨bx, 0, none⟩) := h.fixed 1 _ rfl
  have c := h.own.2.2.1.cell 0
  simp at c
  exact h.pure ho hown rfl hg (v := rdV rb) (by simp only [execOp, hop, v1]; first | go_simp | simp [go_sem, c]) rfl
theorem raOp24 (hs : s.size ≤ 70368744177664) (hQ : ∀ (a : Act) (w' : World), a.defers = [] → w0.grownBy w' (some rb) → pAb s = none → Q (.panic [{ v := .iface 24 (.int .i64 4), recovered := false }]) a w') (h : AtC raOps 29 [1, 3, 5, 7, 9, 14, 18, 20, 22, 24] (raBase bx xb) (raVal rb s) (RH w0 rb s (raSt s) (raI rb bx xb)) l a w) (hn : l.getD 24 true = false) (hd : ∀ o : Oper, raOps[24]? = some o → ∀ e ∈ o.after.toList, Region.binds .any e = true → l.getD e.on false = true) : wpOp Tryz.prog raOps Q 24 (AtC raOps 29 [1, 3, 5, 7, 9, 14, 18, 20, 22, 24] (raBase bx xb) (raVal rb s) (RH w0 rb s (raSt s) (raI rb bx xb)) (l.setIfInBounds 24 true)) a w := by
  have hown : ownAt raOps 29 (raBase bx xb) 24 27 := ownAt_of (by kernel_rfl) rfl
  obtain ⟨o, ho⟩ : ∃ o, raOps[24]? = some o := Option.isSome_iff_exists.1 (by kernel_rfl)
  have hop : o.op = Op.call { callee := Callee.value (Operand.func 79), args := #[Operand.tmp 26], argTypes := #[62] } := op_of ho (by kernel_rfl)
  have hg : o.guard = none := guard_of ho (by kernel_rfl)
  have v26 : a.eval (.tmp 26) = rdV rb := h.done 23 26 (dep hd 23 (by kernel_rfl)) (by kernel_rfl)
  refine h.reads (k := 9) (f := pInt) (q := 79) (args := fun rb => #[rdV rb]) (V := asInt) ho hown (by decide) rfl (by decide) (fun j hj => ?_) hn hg ?_ int1_any rfl hs (fun v w' hv => hv) (raMono rb s) (raKeep rb bx xb) (fun u w' hu hf g => hQ a w' h.defers g (raNone9 hu hf))
  · obtain rfl : j = 8 := by omega
    exact dep hd 22 (by kernel_rfl)
  · rw [exec_call (enters_of Tryz.func79 (by kernel_rfl) rfl) hop]
    simp only [List.map_toArray, List.map_cons, List.map_nil, v26]
    try rfl
theorem raOp25 (hs : s.size ≤ 70368744177664) (hQ : ∀ (a : Act) (w' : World), a.defers = [] → w0.grownBy w' (some rb) → pAb s = none → Q (.panic [{ v := .iface 24 (.int .i64 4), recovered := false }]) a w') (h : AtC raOps 29 [1, 3, 5, 7, 9, 14, 18, 20, 22, 24] (raBase bx xb) (raVal rb s) (RH w0 rb s (raSt s) (raI rb bx xb)) l a w) (hn : l.getD 25 true = false) (hd : ∀ o : Oper, raOps[25]? = some o → ∀ e ∈ o.after.toList, Region.binds .any e = true → l.getD e.on false = true) : wpOp Tryz.prog raOps Q 25 (AtC raOps 29 [1, 3, 5, 7, 9, 14, 18, 20, 22, 24] (raBase bx xb) (raVal rb s) (RH w0 rb s (raSt s) (raI rb bx xb)) (l.setIfInBounds 25 true)) a w := by
  have hown : ownAt raOps 29 (raBase bx xb) 25 28 := ownAt_of (by kernel_rfl) rfl
  obtain ⟨o, ho⟩ : ∃ o, raOps[25]? = some o := Option.isSome_iff_exists.1 (by kernel_rfl)
  have hop : o.op = Op.build 42 #[(0, Operand.tmp 4), (1, Operand.tmp 6), (2, Operand.tmp 8), (3, Operand.tmp 10), (4, Operand.tmp 13), (5, Operand.tmp 17), (6, Operand.tmp 21), (7, Operand.tmp 23), (8, Operand.tmp 25), (9, Operand.tmp 27)] := op_of ho (by kernel_rfl)
  have hg : o.guard = none := guard_of ho (by kernel_rfl)
  have p4 : raVal rb s 1 (a.eval (.tmp 4)) w := h.done 1 4 (dep hd 1 (by kernel_rfl)) (by kernel_rfl)
  have p6 : raVal rb s 3 (a.eval (.tmp 6)) w := h.done 3 6 (dep hd 3 (by kernel_rfl)) (by kernel_rfl)
  have p8 : raVal rb s 5 (a.eval (.tmp 8)) w := h.done 5 8 (dep hd 5 (by kernel_rfl)) (by kernel_rfl)
  have p10 : raVal rb s 7 (a.eval (.tmp 10)) w := h.done 7 10 (dep hd 7 (by kernel_rfl)) (by kernel_rfl)
  have p13 : raVal rb s 10 (a.eval (.tmp 13)) w := h.done 10 13 (dep hd 10 (by kernel_rfl)) (by kernel_rfl)
  have p17 : raVal rb s 14 (a.eval (.tmp 17)) w := h.done 14 17 (dep hd 14 (by kernel_rfl)) (by kernel_rfl)
  have p21 : raVal rb s 18 (a.eval (.tmp 21)) w := h.done 18 21 (dep hd 18 (by kernel_rfl)) (by kernel_rfl)
  have p23 : raVal rb s 20 (a.eval (.tmp 23)) w := h.done 20 23 (dep hd 20 (by kernel_rfl)) (by kernel_rfl)
  have p25 : raVal rb s 22 (a.eval (.tmp 25)) w := h.done 22 25 (dep hd 22 (by kernel_rfl)) (by kernel_rfl)
  have p27 : raVal rb s 24 (a.eval (.tmp 27)) w := h.done 24 27 (dep hd 24 (by kernel_rfl)) (by kernel_rfl)
  obtain ⟨k, gk, wk⟩ := p4
  change a.eval (.tmp 4) = .int .i64 k at wk
  obtain ⟨ev, gev, wev⟩ := p6
  change a.eval (.tmp 6) = .int .i64 ev at wev
  obtain ⟨wh, gwh, wwh⟩ := p8
  change a.eval (.tmp 8) = .int .i64 wh at wwh
  obtain ⟨⟨c0, c1, c2, c3⟩, gc, wc⟩ := p10
  change a.eval (.tmp 10) = .agg #[.int .i64 c0, .int .i64 c1, .int .i64 c2, .int .i64 c3] at wc
  obtain ⟨tp, gtp, wtp⟩ := p13
  obtain ⟨T, gT, M1, ta, tc, rfl, wT, _, kT⟩ := p17
  obtain ⟨C, gC, M2, ca, cc, rfl, wC, _, kC⟩ := p21
  obtain ⟨op, gop, wop⟩ := p23
  change a.eval (.tmp 23) = .int .i64 op at wop
  obtain ⟨p, gp, wp⟩ := p25
  change a.eval (.tmp 25) = .int .i64 p at wp
  obtain ⟨q, gq, wq⟩ := p27
  change a.eval (.tmp 27) = .int .i64 q at wq
  have kA : Kd vA.S rb (fun W => AbR W ⟨k, ev, wh, c0, c1, c2, c3, tp == 1, ta, M1.length, tc, ca, M2.length, cc, op, p, q⟩ M1 M2) w :=
    ((kT.more (S' := vA.S) (sub_of (by decide))).two (kC.more (S' := vA.S) (sub_of (by decide)))).map fun W h => ⟨⟨rfl, isL_row rfl h.1.1⟩, rfl, isC_row rfl h.2.1⟩
  exact h.pure ho hown rfl hg (v := vA.val (⟨k, ev, wh, c0, c1, c2, c3, tp == 1, ta, M1.length, tc, ca, M2.length, cc, op, p, q⟩, M1, M2)) (by simp only [execOp, hop, List.map_toArray, List.map_cons, List.map_nil, wk, wev, wwh, wc, wtp, wT, wC, wop, wp, wq]; first | go_simp | kernel_rfl)
    ⟨k, ev, wh, (c0, c1, c2, c3), tp, M1.map vI.g, M2.map vN.g, op, p, q, ⟨gk, gev, gwh, gc, gtp, gT, gC, gop, gp, gq⟩, (⟨k, ev, wh, c0, c1, c2, c3, tp == 1, ta, M1.length, tc, ca, M2.length, cc, op, p, q⟩, M1, M2), by simp [mkAb, bareA], rfl, trivial, kA⟩

end
theorem raStep {w0 : World} {Q : Exit → Act → World → Prop} {rb bx xb : Nat} {s : ByteArray} (hs : s.size ≤ 70368744177664) (hQ : ∀ (a : Act) (w' : World), a.defers = [] → w0.grownBy w' (some rb) → pAb s = none → Q (.panic [{ v := .iface 24 (.int .i64 4), recovered := false }]) a w') (l : Array Bool) (a : Act) (w : World) (kk : Nat) (h : AtC raOps 29 [1, 3, 5, 7, 9, 14, 18, 20, 22, 24] (raBase bx xb) (raVal rb s) (RH w0 rb s (raSt s) (raI rb bx xb)) l a w) (hi : kk < 26) (hn : l.getD kk true = false) (hd : ∀ o : Oper, raOps[kk]? = some o → ∀ e ∈ o.after.toList, Region.binds .any e = true → l.getD e.on false = true) : wpOp Tryz.prog raOps Q kk (AtC raOps 29 [1, 3, 5, 7, 9, 14, 18, 20, 22, 24] (raBase bx xb) (raVal rb s) (RH w0 rb s (raSt s) (raI rb bx xb)) (l.setIfInBounds kk true)) a w := by
  match kk, hi, hn, hd with
  | 0, _, hn, hd => exact raOp0 hs hQ h hn hd
  | 1, _, hn, hd => exact raOp1 hs hQ h hn hd
  | 2, _, hn, hd => exact raOp2 hs hQ h hn hd
  | 3, _, hn, hd => exact raOp3 hs hQ h hn hd
  | 4, _, hn, hd => exact raOp4 hs hQ h hn hd
  | 5, _, hn, hd => exact raOp5 hs hQ h hn hd
  | 6, _, hn, hd => exact raOp6 hs hQ h hn hd
  | 7, _, hn, hd => exact raOp7 hs hQ h hn hd
  | 8, _, hn, hd => exact raOp8 hs hQ h hn hd
  | 9, _, hn, hd => exact raOp9 hs hQ h hn hd
  | 10, _, hn, hd => exact raOp10 hs hQ h hn hd
  | 11, _, hn, hd => exact raOp11 hs hQ h hn hd
  | 12, _, hn, hd => exact raOp12 hs hQ h hn hd
  | 13, _, hn, hd => exact raOp13 hs hQ h hn hd
  | 14, _, hn, hd => exact raOp14 hs hQ h hn hd
  | 15, _, hn, hd => exact raOp15 hs hQ h hn hd
  | 16, _, hn, hd => exact raOp16 hs hQ h hn hd
  | 17, _, hn, hd => exact raOp17 hs hQ h hn hd
  | 18, _, hn, hd => exact raOp18 hs hQ h hn hd
  | 19, _, hn, hd => exact raOp19 hs hQ h hn hd
  | 20, _, hn, hd => exact raOp20 hs hQ h hn hd
  | 21, _, hn, hd => exact raOp21 hs hQ h hn hd
  | 22, _, hn, hd => exact raOp22 hs hQ h hn hd
  | 23, _, hn, hd => exact raOp23 hs hQ h hn hd
  | 24, _, hn, hd => exact raOp24 hs hQ h hn hd
  | 25, _, hn, hd => exact raOp25 hs hQ h hn hd
  | k + 26, hi, _, _ => omega
theorem raSize : raOps.size = 27 := by kernel_rfl
theorem raDeps : ∀ j, j < 26 → depOn raOps 26 j = true := fun j hj => (List.all_eq_true.1 (show ((List.range 26).all fun j => depOn raOps 26 j) = true by kernel_rfl)) j (List.mem_range.2 hj)
set_option maxHeartbeats 4000000 in
theorem ability1_any : Reads pAb 54 (fun rb => #[rdV rb]) (VV vA.g vA.val vA.C vA.S vA.R) := by
  intro rb s w hs hr
  suffices key : ∀ Post : Ending → World → Prop, (∀ e w', (w.grownBy w' (some rb) ∧ ((pAb s = none ∧ e = Gone) ∨ ∃ x t v, pAb s = some (x, t) ∧ t.size ≤ s.size ∧ e = .returned v ∧ Rd1 rb t w' ∧ VV vA.g vA.val vA.C vA.S vA.R rb x v w')) → Post e w') →
      Calls Tryz.prog 54 ((fun rb => #[rdV rb]) rb) w Post from key _ (fun _ _ h => h)
  intro Post hPost
  have HPo := Lib.hid hPost
  clear hPost
  have hrb := hr.lt
  have HR := Lib.hid (show Rd1 rb s ((w.alloc (.cells #[.pointer (some ⟨rb, 0, none⟩)] 62)).alloc (.cells #[.int .i64 0, .int .i64 0, .int .i64 0, .int .i64 0, .int .i64 0, .int .i64 0, .int .i64 0, .bool false, .slice none 0 0, .slice none 0 0, .int .i64 0, .int .i64 0, .int .i64 0] 42)) from (hr.alloc _).alloc _)
  have HG := Lib.hid (grown_new (grown_new (World.grownBy.refl w (some rb)) (.cells #[.pointer (some ⟨rb, 0, none⟩)] 62)) (.cells #[.int .i64 0, .int .i64 0, .int .i64 0, .int .i64 0, .int .i64 0, .int .i64 0, .int .i64 0, .bool false, .slice none 0 0, .slice none 0 0, .int .i64 0, .int .i64 0, .int .i64 0] 42))
  have HI := Lib.hid (show raI rb w.heap.size (w.heap.size + 1) ((w.alloc (.cells #[.pointer (some ⟨rb, 0, none⟩)] 62)).alloc (.cells #[.int .i64 0, .int .i64 0, .int .i64 0, .int .i64 0, .int .i64 0, .int .i64 0, .int .i64 0, .bool false, .slice none 0 0, .slice none 0 0, .int .i64 0, .int .i64 0, .int .i64 0] 42)) from
    ⟨by omega, by omega, (Bk.new w _ _).below (below_alloc1 _ _), by have := Bk.new (w.alloc (.cells #[.pointer (some ⟨rb, 0, none⟩)] 62)) #[.int .i64 0, .int .i64 0, .int .i64 0, .int .i64 0, .int .i64 0, .int .i64 0, .int .i64 0, .bool false, .slice none 0 0, .slice none 0 0, .int .i64 0, .int .i64 0, .int .i64 0] 42; simpa using this⟩)
  have HS := Lib.hid hs
  clear hr hs
  go_enter Tryz.func54, Tryz.ntmps54
  go_wp2_with fail
  generalize (w.alloc (.cells #[.pointer (some ⟨rb, 0, none⟩)] 62)).alloc (.cells #[.int .i64 0, .int .i64 0, .int .i64 0, .int .i64 0, .int .i64 0, .int .i64 0, .int .i64 0, .bool false, .slice none 0 0, .slice none 0 0, .int .i64 0, .int .i64 0, .int .i64 0] 42) = w1 at *
  rename_i KK hKK
  refine region_lastC (m := 26) (ops := raOps) (n := 29) (cs := [1, 3, 5, 7, 9, 14, 18, 20, 22, 24]) (base := raBase w.heap.size (w.heap.size + 1)) (val := raVal rb s) (H := RH w rb s (raSt s) (raI rb w.heap.size (w.heap.size + 1))) (by kernel_rfl) (earlier_of (by kernel_rfl)) raSize raDeps ?start (fun l a w' i h hi hn hd => raStep HS.out (fun a w' h1 h2 h3 => ⟨h1, HPo.out _ _ ⟨h2, .inl ⟨h3, rfl⟩⟩⟩) l a w' i h hi hn hd) ?last
  case start =>
    refine AtC.begins rfl rfl ⟨s, rfl, Nat.le_refl _, HR.out, ⟨HG.out.os, HG.out.tape, HG.out.output, HG.out.size, HG.out.block⟩, HI.out⟩ fun k v hk => ?_
    unfold raBase at hk
    split at hk
    · rename_i e; subst e; cases hk; rfl
    · split at hk
      · rename_i e; subst e; cases hk; rfl
      · cases hk
  case last =>
    intro l a w' h hall
    obtain ⟨u, hu, hus, hrd, hg, hi⟩ := h.last (fun i hi => hall _ (by
      have hi2 : i = 0 ∨ i = 1 ∨ i = 2 ∨ i = 3 ∨ i = 4 ∨ i = 5 ∨ i = 6 ∨ i = 7 ∨ i = 8 ∨ i = 9 := by simp at hi; omega
      rcases hi2 with rfl | rfl | rfl | rfl | rfl | rfl | rfl | rfl | rfl | rfl <;> decide))
    have hv : raVal rb s 25 (a.tmps.getD 28 undef) w' := h.done 25 28 (hall 25 (by omega)) (by kernel_rfl)
    obtain ⟨oo, ho⟩ : ∃ oo, raOps[26]? = some oo := Option.isSome_iff_exists.1 (by kernel_rfl)
    have hop : oo.op = Op.store 42 (Operand.tmp 2) (Operand.tmp 28) := op_of ho (by kernel_rfl)
    have hgd : oo.guard = none := guard_of ho (by kernel_rfl)
    have hdst : oo.dst = none := dst_of ho (by kernel_rfl)
    have v2 : a.eval (.tmp 2) = .pointer (some ⟨w.heap.size + 1, 0, none⟩) := h.fixed 2 _ rfl
    have hdf : a.defers = [] := h.defers
    have hsz : a.tmps.size = 29 := h.tmps
    have HB := Lib.hid hi.2.2.2
    have HRd := Lib.hid hrd
    have HGg := Lib.hid hg
    have HUs := Lib.hid hus
    clear hall h hi hrd hg hus
    have c0 := HB.out.cell 0
    have f0 := HB.out.free 0
    have c1 := HB.out.cell 1
    have f1 := HB.out.free 1
    have c2 := HB.out.cell 2
    have f2 := HB.out.free 2
    have c3 := HB.out.cell 3
    have f3 := HB.out.free 3
    have c4 := HB.out.cell 4
    have f4 := HB.out.free 4
    have c5 := HB.out.cell 5
    have f5 := HB.out.free 5
    have c6 := HB.out.cell 6
    have f6 := HB.out.free 6
    have c7 := HB.out.cell 7
    have f7 := HB.out.free 7
    have c8 := HB.out.cell 8
    have f8 := HB.out.free 8
    have c9 := HB.out.cell 9
    have f9 := HB.out.free 9
    have c10 := HB.out.cell 10
    have f10 := HB.out.free 10
    have c11 := HB.out.cell 11
    have f11 := HB.out.free 11
    have c12 := HB.out.cell 12
    have f12 := HB.out.free 12
    simp at c0 c1 c2 c3 c4 c5 c6 c7 c8 c9 c10 c11 c12
    obtain ⟨k, ev, wh, c, tp, T, C, op, p, q, ht, y, hgy, hvy, hC, hK⟩ := hv
    have HAll := Lib.hid (raAll hu ht)
    have HK := Lib.hid hK
    have HC := Lib.hid hC
    have HGy := Lib.hid hgy
    clear hu ht hK hC hgy
    have v28 : a.eval (.tmp 28) = vA.val y := hvy
    obtain ⟨tm, df⟩ := a
    simp only at hdf hsz hvy
    subst hdf
    obtain ⟨v, hvs⟩ : ∃ v : Nat → Value, ∀ s, tm.getD s undef = v s := ⟨_, fun _ => rfl⟩
    have e2 : v 2 = .pointer (some ⟨w.heap.size + 1, 0, none⟩) := (hvs 2).symm.trans v2
    have e : tm = #[v 0, v 1, v 2, v 3, v 4, v 5, v 6, v 7, v 8, v 9, v 10, v 11, v 12, v 13, v 14, v 15, v 16, v 17, v 18, v 19, v 20, v 21, v 22, v 23, v 24, v 25, v 26, v 27, v 28] := (slots_of tm 29 hsz).trans (by simp only [hvs]; rfl)
    rw [e2] at e
    unfold wpOp
    rw [ho]
    simp only
    rw [if_pos (show Region.wanted oo (yielded raOps tm) = true from guard_none (a := ⟨tm, []⟩) hgd)]
    left
    unfold Oper.wp
    simp only [execOp, hop, v2, v28]
    go_simp
    refine hKK _ _ ?_
    have HFin := Lib.hid (show _ from put_step (T := 42) (by omega) (by omega) (by decide) 12 (.int .i64 y.1.b) (put_step (T := 42) (by omega) (by omega) (by decide) 11 (.int .i64 y.1.a) (put_step (T := 42) (by omega) (by omega) (by decide) 10 (.int .i64 y.1.op) (put_step (T := 42) (by omega) (by omega) (by decide) 9 (.slice y.1.ca y.1.cn y.1.cc) (put_step (T := 42) (by omega) (by omega) (by decide) 8 (.slice y.1.ta y.1.tn y.1.tc) (put_step (T := 42) (by omega) (by omega) (by decide) 7 (.bool y.1.tap) (put_step (T := 42) (by omega) (by omega) (by decide) 6 (.int .i64 y.1.c3) (put_step (T := 42) (by omega) (by omega) (by decide) 5 (.int .i64 y.1.c2) (put_step (T := 42) (by omega) (by omega) (by decide) 4 (.int .i64 y.1.c1) (put_step (T := 42) (by omega) (by omega) (by decide) 3 (.int .i64 y.1.c0) (put_step (T := 42) (by omega) (by omega) (by decide) 2 (.int .i64 y.1.wh) (put_step (T := 42) (by omega) (by omega) (by decide) 1 (.int .i64 y.1.ev) (put_step (T := 42) (by omega) (by omega) (by decide) 0 (.int .i64 y.1.k) (⟨HGg.out, HRd.out, HK.out, _, HB.out⟩))))))))))))))
    have hb9 : Bk ((((((((((((((w'.setCell ⟨w.heap.size + 1, 0, none⟩ (.int .i64 y.1.k)).setCell ⟨w.heap.size + 1, 1, none⟩ (.int .i64 y.1.ev)).setCell ⟨w.heap.size + 1, 2, none⟩ (.int .i64 y.1.wh)).setCell ⟨w.heap.size + 1, 3, none⟩ (.int .i64 y.1.c0)).setCell ⟨w.heap.size + 1, 4, none⟩ (.int .i64 y.1.c1)).setCell ⟨w.heap.size + 1, 5, none⟩ (.int .i64 y.1.c2)).setCell ⟨w.heap.size + 1, 6, none⟩ (.int .i64 y.1.c3)).setCell ⟨w.heap.size + 1, 7, none⟩ (.bool y.1.tap)).setCell ⟨w.heap.size + 1, 8, none⟩ (.slice y.1.ta y.1.tn y.1.tc)).setCell ⟨w.heap.size + 1, 9, none⟩ (.slice y.1.ca y.1.cn y.1.cc)).setCell ⟨w.heap.size + 1, 10, none⟩ (.int .i64 y.1.op)).setCell ⟨w.heap.size + 1, 11, none⟩ (.int .i64 y.1.a)).setCell ⟨w.heap.size + 1, 12, none⟩ (.int .i64 y.1.b))) (w.heap.size + 1) #[.int .i64 y.1.k, .int .i64 y.1.ev, .int .i64 y.1.wh, .int .i64 y.1.c0, .int .i64 y.1.c1, .int .i64 y.1.c2, .int .i64 y.1.c3, .bool y.1.tap, .slice y.1.ta y.1.tn y.1.tc, .slice y.1.ca y.1.cn y.1.cc, .int .i64 y.1.op, .int .i64 y.1.a, .int .i64 y.1.b] 42 := by
      have h9 := (((((((((((((HB.out.set 0 (.int .i64 y.1.k)).set 1 (.int .i64 y.1.ev)).set 2 (.int .i64 y.1.wh)).set 3 (.int .i64 y.1.c0)).set 4 (.int .i64 y.1.c1)).set 5 (.int .i64 y.1.c2)).set 6 (.int .i64 y.1.c3)).set 7 (.bool y.1.tap)).set 8 (.slice y.1.ta y.1.tn y.1.tc)).set 9 (.slice y.1.ca y.1.cn y.1.cc)).set 10 (.int .i64 y.1.op)).set 11 (.int .i64 y.1.a)).set 12 (.int .i64 y.1.b))
      simpa using h9
    clear c0 f0 c1 f1 c2 f2 c3 f3 c4 f4 c5 f5 c6 f6 c7 f7 c8 f8 c9 f9 c10 f10 c11 f11 c12 f12
    generalize (((((((((((((w'.setCell ⟨w.heap.size + 1, 0, none⟩ (.int .i64 y.1.k)).setCell ⟨w.heap.size + 1, 1, none⟩ (.int .i64 y.1.ev)).setCell ⟨w.heap.size + 1, 2, none⟩ (.int .i64 y.1.wh)).setCell ⟨w.heap.size + 1, 3, none⟩ (.int .i64 y.1.c0)).setCell ⟨w.heap.size + 1, 4, none⟩ (.int .i64 y.1.c1)).setCell ⟨w.heap.size + 1, 5, none⟩ (.int .i64 y.1.c2)).setCell ⟨w.heap.size + 1, 6, none⟩ (.int .i64 y.1.c3)).setCell ⟨w.heap.size + 1, 7, none⟩ (.bool y.1.tap)).setCell ⟨w.heap.size + 1, 8, none⟩ (.slice y.1.ta y.1.tn y.1.tc)).setCell ⟨w.heap.size + 1, 9, none⟩ (.slice y.1.ca y.1.cn y.1.cc)).setCell ⟨w.heap.size + 1, 10, none⟩ (.int .i64 y.1.op)).setCell ⟨w.heap.size + 1, 11, none⟩ (.int .i64 y.1.a)).setCell ⟨w.heap.size + 1, 12, none⟩ (.int .i64 y.1.b)) = W9 at *
    have d0 := hb9.cell 0
    have d1 := hb9.cell 1
    have d2 := hb9.cell 2
    have d3 := hb9.cell 3
    have d4 := hb9.cell 4
    have d5 := hb9.cell 5
    have d6 := hb9.cell 6
    have d7 := hb9.cell 7
    have d8 := hb9.cell 8
    have d9 := hb9.cell 9
    have d10 := hb9.cell 10
    have d11 := hb9.cell 11
    have d12 := hb9.cell 12
    simp at d0 d1 d2 d3 d4 d5 d6 d7 d8 d9 d10 d11 d12
    clear hb9
    go_wp2_with fail
    refine bodyPost_ret (v := vA.val y) (by simp [results, Tryz.results54, go_sem, d0, d1, d2, d3, d4, d5, d6, d7, d8, d9, d10, d11, d12]) rfl ?_
    exact HPo.out _ _ ⟨HFin.out.1, .inr ⟨_, _, _, HAll.out, HUs.out, rfl, HFin.out.2.1, y, HGy.out, rfl, HC.out, HFin.out.2.2.1⟩⟩
end Go.Proofs.YtbeaaieaffdgeaaGreatDoor
end
/- The program's list[ability]. (Written by gen6l.py.) -/
section
namespace Go.Proofs.YtbeaaieaffdgeaaGreatDoor
open Go.RowKit
set_option linter.unusedVariables false
set_option linter.unusedSimpArgs false

set_option maxRecDepth 100000 in
set_option maxHeartbeats 4000000 in
theorem list_a (m : Nat) (hm : m ≤ 1000) (hf : Reads pAb 54 (fun rb => #[rdV rb]) (VV vA.g vA.val vA.C vA.S vA.R)) :
    Reads (pList m pAb) 53 (fun rb => #[rdV rb, .int .i64 (m : Int), .func (.func 54) #[rdV rb] #[]]) (VL vA 42 13 abRow) := by
  intro rb s w hs hr
  have hrb := hr.lt
  obtain ⟨i0, hi, hz0, hz1, hz2⟩ := info_parts infoA
  have HR := Lib.hid (hr.below (below_alloc1 w (.cells #[.pointer (some ⟨rb, 0, none⟩)] 62)))
  have HG0 := Lib.hid (grown_new (World.grownBy.refl w (some rb)) (.cells #[.pointer (some ⟨rb, 0, none⟩)] 62))
  have HU := Lib.hid (upTo_any m (by omega))
  have HF := Lib.hid hf
  have hsz1 : w.heap.size < (w.alloc (.cells #[.pointer (some ⟨rb, 0, none⟩)] 62)).heap.size := by simp
  have HS := Lib.hid hs
  clear hf hr hs
  go_enter Tryz.func53, Tryz.ntmps53
  go_wp2_with fail
  generalize w.alloc (.cells #[.pointer (some ⟨rb, 0, none⟩)] 62) = w1 at *
  refine (HU.out rb s w1 HS.out HR.out).mono ?_
  rintro e w2 ⟨g2, ⟨hn, rfl⟩ | ⟨x, t, v, hx, ht, rfl, h2, rfl⟩⟩
  · have HP := Lib.hid (then_none (g := fun n => pRep pAb n.toNat) hn)
    have HG := Lib.hid (grown_then HG0.out g2)
    clear hn g2
    exact ⟨rfl, HG.out, .inl ⟨HP.out, rfl⟩⟩
  · obtain ⟨n, rfl, hnm⟩ := pUp_nat hx
    have HP := Lib.hid (pList_of (f := pAb) hx)
    rw [Int.toNat_natCast] at HP
    have HG := Lib.hid (grown_then HG0.out g2)
    have HR2 := Lib.hid h2
    have HT := Lib.hid (show t.size ≤ s.size from ht)
    have HS2 := Lib.hid (show w.heap.size ≤ w2.heap.size by have := g2.size; omega)
    clear hx g2 h2 ht
    go_wp2_with fail
    go_loopw [7, 11] (fun sv q wr => ∃ (i : Nat) (M : List AbT) (u : ByteArray) (v7 : Value), v7 = sv ∧ q = .int .i64 (i : Int) ∧ M.length = i ∧ i ≤ n ∧ Part pAb n t i (M.map vA.g) u ∧ u.size ≤ s.size ∧ Rd1 rb u wr ∧ wr.ownsRow w.heap.size 42 13 v7 i (abRow M) ∧ (∀ y ∈ M, vA.C y ∧ Kd vA.S rb (vA.R y) wr) ∧ w.grownBy wr (some rb)) (fun sv q _ => n - (intOf q).toNat)
    case atStart => exact ⟨0, [], t, _, rfl, rfl, rfl, Nat.zero_le _, Part.start _ _ _, HT.out, HR2.out, World.ownsRow_nil _ _ _ _, (fun y h => by cases h), HG.out⟩
    case round =>
      obtain ⟨i, M, u, sv, rfl, rfl, hl, hin, hpt, hus, hrd, hown, hM, hg⟩ := hrel
      have HPt := Lib.hid hpt
      have HUs := Lib.hid hus
      have HRd := Lib.hid hrd
      have HOw := Lib.hid hown
      have HM := Lib.hid hM
      have HGr := Lib.hid hg
      have HL := Lib.hid hl
      clear hpt hus hrd hown hM hg hl
      by_cases hlt : i < n
      · go_wp2_with fail
        refine (HF.out rb u _ (by have := HUs.out; have := HS.out; omega) HRd.out).mono ?_
        rintro e w4 ⟨g4, ⟨hno, rfl⟩ | ⟨x, t4, v4, hx4, ht4, rfl, h4, y, hgy, rfl, hC, hK⟩⟩
        · have HNo := Lib.hid (HP.out.trans (HPt.out.fails hlt hno))
          have HGn := Lib.hid (grown_then HGr.out g4)
          clear hno g4
          exact ⟨rfl, HGn.out, .inl ⟨HNo.out, rfl⟩⟩
        · have HPn := Lib.hid (HPt.out.step hlt hx4)
          have HO4 := Lib.hid ((own_read HOw.out g4 hrb).alloc (.cells #[.int .i64 y.1.k, .int .i64 y.1.ev, .int .i64 y.1.wh, .int .i64 y.1.c0, .int .i64 y.1.c1, .int .i64 y.1.c2, .int .i64 y.1.c3, .bool y.1.tap, .slice y.1.ta y.1.tn y.1.tc, .slice y.1.ca y.1.cn y.1.cc, .int .i64 y.1.op, .int .i64 y.1.a, .int .i64 y.1.b] 42))
          have HM4 := Lib.hid (show ∀ z ∈ M ++ [y], vA.C z ∧ Kd vA.S rb (vA.R z) w4 from fun z hz => by
            rcases List.mem_append.1 hz with hz | hz
            · exact ⟨(HM.out z hz).1, (HM.out z hz).2.read g4⟩
            · rw [List.mem_singleton.1 hz]; exact ⟨hC, hK⟩)
          have HG4 := Lib.hid (grown_then HGr.out g4)
          have HR4 := Lib.hid h4
          have HT4 := Lib.hid (show t4.size ≤ s.size by have := HUs.out; omega)
          have HGy := Lib.hid hgy
          have hsz4 : w.heap.size ≤ w4.heap.size := HG4.out.size
          clear hx4 hC hK h4 ht4 g4 hgy
          go_wp2_with (at_builtin; go_loud (refine wpList_append_own _ rfl _ _ 36 rfl w.heap.size 42 i0 (.agg #[.int .i64 0, .int .i64 0, .int .i64 0, .int .i64 0, .int .i64 0, .int .i64 0, .int .i64 0, .bool false, .slice none 0 0, .slice none 0 0, .int .i64 0, .int .i64 0, .int .i64 0]) 13 136 Tryz.underlying36 hi hz0 hz1 hz2 rfl (by decide) _ i _ rfl HO4.out ⟨w4.heap.size, 0, none⟩ 1 1 (abCells y.1) rfl rfl (new_cells w4 _ _) (fun z hz => by simp only [abCells, List.mem_cons, List.not_mem_nil, or_false] at hz; rcases hz with rfl | rfl | rfl | rfl | rfl | rfl | rfl | rfl | rfl | rfl | rfl | rfl | rfl <;> rfl) (by unfold maxLen; omega) (by omega) (by simp; omega) ?_; intro sv5 w5 hown5 hgr5 hnil5; clear hnil5))
          have HG5 := Lib.hid (grown_own HG4.out HO4.out hgr5)
          have HR5 := Lib.hid (rd_own HR4.out HO4.out hgr5 hrb)
          have HM5 := Lib.hid (show ∀ z ∈ M ++ [y], vA.C z ∧ Kd vA.S rb (vA.R z) w5 from fun z hz => ⟨(HM4.out z hz).1, kd_own (HM4.out z hz).2 HO4.out hgr5 rfl⟩)
          have HO5 := Lib.hid (show w5.ownsRow w.heap.size 42 13 sv5 (i + 1) (abRow (M ++ [y])) by rw [abRow_snoc]; exact hown5)
          have HPm := Lib.hid (show Part pAb n t (i + 1) ((M ++ [y]).map vA.g) t4 by
            rw [List.map_append, List.map_singleton, show vA.g y = x from HGy.out]; exact HPn.out)
          clear hown5 hgr5
          go_wp2_with fail
          go_roundw
          case rel => exact ⟨i + 1, M ++ [y], t4, _, rfl, by go_num, by have := HL.out; simp; omega, by omega, HPm.out, HT4.out, HR5.out, HO5.out, HM5.out, HG5.out⟩
          case measure => simp [intOf]; omega
      · obtain rfl : i = n := by omega
        have HFin := Lib.hid (VL.of (V := vA) (rw := abRow) (rb := rb) (show wr.ownsRow w.heap.size 42 13 sv M.length (abRow M) by rw [HL.out]; exact HOw.out) hrb HM.out)
        have HPe := Lib.hid (HP.out.trans HPt.out.ends)
        go_wp2_with fail
        go_ret
        exact ⟨HGr.out, .inr ⟨_, _, HPe.out, HUs.out, sv, rfl, HRd.out, HFin.out⟩⟩
end Go.Proofs.YtbeaaieaffdgeaaGreatDoor
end
