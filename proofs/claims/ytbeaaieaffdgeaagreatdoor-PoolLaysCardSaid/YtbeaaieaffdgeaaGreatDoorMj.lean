/- Texts that belong together: PoolRm, PoolRn, PoolPi, PoolPn. -/
import Derived.Test.YtbeaaieaffdgeaaGreatDoorMh
import Derived.Test.YtbeaaieaffdgeaaGreatDoorMg
/- The program's reader.mana: four numbers in an array; a number as an element of a list. -/
section
namespace Go.Proofs.YtbeaaieaffdgeaaGreatDoor
open Go.RowKit
set_option linter.unusedVariables false
set_option linter.unusedSimpArgs false

theorem num1_vv : Reads pNum 51 (fun rb => #[rdV rb]) (VV vI.g vI.val vI.C vI.S vI.R) := by
  intro rb s w hs hr
  refine (num1_any rb s w hs hr).mono ?_
  rintro e w' ⟨g, h | ⟨x, t, v, h1, h2, h3, h4, h5⟩⟩
  · exact ⟨g, .inl h⟩
  · exact ⟨g, .inr ⟨x, t, v, h1, h2, h3, h4, x, rfl, h5, trivial, Kd.triv _ _ _⟩⟩
def asMan (rb : Nat) (c : Mn) (v : Value) (w : World) : Prop := v = .agg #[.int .i64 c.1, .int .i64 c.2.1, .int .i64 c.2.2.1, .int .i64 c.2.2.2]
theorem pMan_none {s : ByteArray} (h : pRep pNum 4 s = none) : pMan s = none := by
  unfold pMan
  cases h1 : pNum s with
  | none => exact then_none h1
  | some p1 =>
    obtain ⟨a, s1⟩ := p1
    rw [then_of h1]
    rw [pRep_some h1] at h
    cases h2 : pNum s1 with
    | none => exact then_none h2
    | some p2 =>
      obtain ⟨b, s2⟩ := p2
      rw [then_of h2]
      rw [pRep_some h2] at h
      cases h3 : pNum s2 with
      | none => exact then_none h3
      | some p3 =>
        obtain ⟨c, s3⟩ := p3
        rw [then_of h3]
        rw [pRep_some h3] at h
        cases h4 : pNum s3 with
        | none => exact then_none h4
        | some p4 =>
          obtain ⟨d, s4⟩ := p4
          rw [pRep_some h4] at h
          simp [pRep, Tk.give] at h
theorem pRep_cons {α : Type} {f : Tk α} {k : Nat} {s t : ByteArray} {L : List α} (h : pRep f (k + 1) s = some (L, t)) : ∃ x u l, f s = some (x, u) ∧ pRep f k u = some (l, t) ∧ L = x :: l := by
  cases h1 : f s with
  | none => rw [pRep_none h1] at h; cases h
  | some p =>
    obtain ⟨x, u⟩ := p
    rw [pRep_some h1] at h
    rw [Option.map_eq_some_iff] at h
    obtain ⟨⟨l, t'⟩, h2, h3⟩ := h
    simp only [Prod.mk.injEq] at h3
    obtain ⟨rfl, rfl⟩ := h3
    exact ⟨x, u, l, rfl, h2, rfl⟩
theorem pMan_some {s t : ByteArray} {L : List Int} (h : pRep pNum 4 s = some (L, t)) : pMan s = some ((L.getD 0 0, L.getD 1 0, L.getD 2 0, L.getD 3 0), t) := by
  obtain ⟨a, s1, l1, h1, k1, e1⟩ := pRep_cons h
  obtain ⟨b, s2, l2, h2, k2, e2⟩ := pRep_cons k1
  obtain ⟨c, s3, l3, h3, k3, e3⟩ := pRep_cons k2
  obtain ⟨d, s4, l4, h4, k4, e4⟩ := pRep_cons k3
  obtain ⟨e5, e6⟩ := give_some k4
  subst e1 e2 e3 e4 e5 e6
  unfold pMan
  rw [then_of h1, then_of h2, then_of h3, then_of h4]
  rfl
/-- The array, while it is filled. -/
def mnC (L : List Int) : Array Value := #[.int .i64 (L.getD 0 0), .int .i64 (L.getD 1 0), .int .i64 (L.getD 2 0), .int .i64 (L.getD 3 0)]
theorem mnC_set (L : List Int) (x : Int) (h : L.length < 4) : (mnC L).setIfInBounds L.length (.int .i64 x) = mnC (L ++ [x]) := by
  match L, h with
  | [], _ => rfl
  | [a], _ => rfl
  | [a, b], _ => rfl
  | [a, b, c], _ => rfl
  | a :: b :: c :: d :: L, h => simp at h; omega
theorem Bk.set {w : World} {b : Nat} {cs : Array Value} {T : TypeId} (h : Bk w b cs T) (i : Nat) (v : Value) : Bk (w.setCell ⟨b, i, none⟩ v) b (cs.setIfInBounds i v) T := by
  unfold Bk at *
  simp [World.setCell, Array.getElem?_modify, h]
theorem Bk.far {w : World} {b : Nat} {cs : Array Value} {T : TypeId} (h : Bk w b cs T) (p : Addr) (v : Value) (hne : p.block ≠ b) : Bk (w.setCell p v) b cs T := by
  unfold Bk at *
  rw [Below.heap_setCell _ _ _ _ hne.symm]
  exact h
theorem grown_put {w w' : World} {rb : Nat} (h : w.grownBy w' (some rb)) (p : Addr) (v : Value) (hp : w.heap.size ≤ p.block) : w.grownBy (w'.setCell p v) (some rb) :=
  have k : Below w.heap.size w' (w'.setCell p v) := (Below.refl _ w').setCell hp v
  ⟨k.os.trans h.os, k.tape.trans h.tape, k.output.trans h.output, Nat.le_trans h.size k.size, fun j hj hne => (k.block j hj).trans (h.block j hj hne)⟩
theorem Rd1.far {w : World} {b : Nat} {u : ByteArray} (h : Rd1 b u w) (p : Addr) (v : Value) (hne : p.block ≠ b) : Rd1 b u (w.setCell p v) := Bk.far h p v hne
/-- The result's own block is filled: what stands. -/
theorem put_step {w W : World} {rb xb : Nat} {u : ByteArray} {S : List TypeId} {R : World → Prop} {T : TypeId} (hx : xb ≠ rb) (hw : w.heap.size ≤ xb) (hT : S.contains T = false) (i : Nat) (v : Value)
    (h : w.grownBy W (some rb) ∧ Rd1 rb u W ∧ Kd S rb R W ∧ ∃ cs, Bk W xb cs T) :
    w.grownBy (W.setCell ⟨xb, i, none⟩ v) (some rb) ∧ Rd1 rb u (W.setCell ⟨xb, i, none⟩ v) ∧ Kd S rb R (W.setCell ⟨xb, i, none⟩ v) ∧ ∃ cs, Bk (W.setCell ⟨xb, i, none⟩ v) xb cs T := by
  obtain ⟨h1, h2, h3, cs, h4⟩ := h
  refine ⟨grown_put h1 ⟨xb, i, none⟩ v hw, Rd1.far h2 ⟨xb, i, none⟩ v hx, h3.next (by simp [World.setCell]) (fun k c e fz hc he hne => ?_), _, h4.set i v⟩
  refine Below.heap_setCell _ _ _ _ (fun q => ?_)
  have q2 : k = xb := q
  unfold Bk at h4
  rw [q2, h4] at hc
  injection hc with hc
  injection hc with _ h5 _
  rw [← h5, hT] at he
  cases he
set_option maxHeartbeats 2000000 in
theorem mana1_any : Reads pMan 52 (fun rb => #[rdV rb]) asMan := by
  intro rb s w hs hr
  have hrb := hr.lt
  have HR := Lib.hid (show Rd1 rb s (((w.alloc (.cells #[.pointer (some ⟨rb, 0, none⟩)] 62)).alloc (.cells #[.int .i64 0, .int .i64 0, .int .i64 0, .int .i64 0] 35)).alloc (.cells #[.int .i64 0, .int .i64 0, .int .i64 0, .int .i64 0] 35)) from ((hr.alloc _).alloc _).alloc _)
  have HG := Lib.hid (grown_new (grown_new (grown_new (World.grownBy.refl w (some rb)) (.cells #[.pointer (some ⟨rb, 0, none⟩)] 62)) (.cells #[.int .i64 0, .int .i64 0, .int .i64 0, .int .i64 0] 35)) (.cells #[.int .i64 0, .int .i64 0, .int .i64 0, .int .i64 0] 35))
  have HB0 := Lib.hid (((Bk.new w #[.pointer (some ⟨rb, 0, none⟩)] 62).below (below_alloc1 _ (.cells #[.int .i64 0, .int .i64 0, .int .i64 0, .int .i64 0] 35))).below (below_alloc1 _ (.cells #[.int .i64 0, .int .i64 0, .int .i64 0, .int .i64 0] 35)))
  have HB1 := Lib.hid (show Bk _ (w.heap.size + 1) #[.int .i64 0, .int .i64 0, .int .i64 0, .int .i64 0] 35 by have := (Bk.new (w.alloc (.cells #[.pointer (some ⟨rb, 0, none⟩)] 62)) #[.int .i64 0, .int .i64 0, .int .i64 0, .int .i64 0] 35).below (below_alloc1 _ (.cells #[.int .i64 0, .int .i64 0, .int .i64 0, .int .i64 0] 35)); simpa using this)
  have HB2 := Lib.hid (show Bk (((w.alloc (.cells #[.pointer (some ⟨rb, 0, none⟩)] 62)).alloc (.cells #[.int .i64 0, .int .i64 0, .int .i64 0, .int .i64 0] 35)).alloc (.cells #[.int .i64 0, .int .i64 0, .int .i64 0, .int .i64 0] 35)) (w.heap.size + 1 + 1) (mnC []) 35 by have := Bk.new ((w.alloc (.cells #[.pointer (some ⟨rb, 0, none⟩)] 62)).alloc (.cells #[.int .i64 0, .int .i64 0, .int .i64 0, .int .i64 0] 35)) #[.int .i64 0, .int .i64 0, .int .i64 0, .int .i64 0] 35; simpa [mnC] using this)
  have HS := Lib.hid hs
  have HN := Lib.hid num1_any
  clear hr hs
  go_enter Tryz.func52, Tryz.ntmps52
  go_wp2_with fail
  generalize ((w.alloc (.cells #[.pointer (some ⟨rb, 0, none⟩)] 62)).alloc (.cells #[.int .i64 0, .int .i64 0, .int .i64 0, .int .i64 0] 35)).alloc (.cells #[.int .i64 0, .int .i64 0, .int .i64 0, .int .i64 0] 35) = w1 at *
  go_loopw [5] (fun q wr => ∃ (i : Nat) (L : List Int) (u : ByteArray), q = .int .i64 (i : Int) ∧ L.length = i ∧ i ≤ 4 ∧ Part pNum 4 s i L u ∧ u.size ≤ s.size ∧ Rd1 rb u wr ∧ w.grownBy wr (some rb) ∧ Bk wr w.heap.size #[.pointer (some ⟨rb, 0, none⟩)] 62 ∧ Bk wr (w.heap.size + 1) #[.int .i64 0, .int .i64 0, .int .i64 0, .int .i64 0] 35 ∧ Bk wr (w.heap.size + 1 + 1) (mnC L) 35) (fun q _ => 4 - (intOf q).toNat)
  case atStart => exact ⟨0, [], s, rfl, rfl, Nat.zero_le _, Part.start _ _ _, Nat.le_refl _, HR.out, HG.out, HB0.out, HB1.out, HB2.out⟩
  case round =>
    obtain ⟨i, L, u, rfl, hl, hi4, hpt, hus, hrd, hg, hb0, hb1, hb2⟩ := hrel
    have HPt := Lib.hid hpt
    have HUs := Lib.hid hus
    have HRd := Lib.hid hrd
    have HGr := Lib.hid hg
    have HC0 := Lib.hid hb0
    have HC1 := Lib.hid hb1
    have HC2 := Lib.hid hb2
    have HL := Lib.hid hl
    clear hpt hus hrd hg hl
    by_cases hlt : i < 4
    · have c0 := hb0.cell 0
      simp at c0
      clear hb0 hb1 hb2
      go_wp2_with fail
      refine (HN.out rb u _ (by have := HUs.out; have := HS.out; omega) HRd.out).mono ?_
      rintro e w4 ⟨g4, ⟨hno, rfl⟩ | ⟨x, t4, v4, hx4, ht4, rfl, h4, rfl⟩⟩
      · have HNo := Lib.hid (pMan_none (HPt.out.fails hlt hno))
        have HGn := Lib.hid (grown_then HGr.out g4)
        clear hno g4
        exact ⟨rfl, HGn.out, .inl ⟨HNo.out, rfl⟩⟩
      · have HPn := Lib.hid (HPt.out.step hlt hx4)
        have HG4 := Lib.hid (grown_then HGr.out g4)
        have HD0 := Lib.hid (HC0.out.read g4 (by omega))
        have HD1 := Lib.hid (HC1.out.read g4 (by omega))
        have HD2 := Lib.hid (HC2.out.read g4 (by omega))
        have HR4 := Lib.hid h4
        have HT4 := Lib.hid (show t4.size ≤ s.size by have := HUs.out; omega)
        clear hx4 h4 ht4 g4 c0
        have f2 := HD2.out.free i
        have hcur : ∃ z, w4.cell? ⟨w.heap.size + 1 + 1, i, none⟩ = some z := by
          rw [HD2.out.cell i]
          have : i < (mnC L).size := by show i < 4; exact hlt
          exact ⟨_, Array.getElem?_eq_getElem this⟩
        obtain ⟨z, c2⟩ := hcur
        go_wp2_with fail
        have HE2 := Lib.hid (show Bk (w4.setCell ⟨w.heap.size + 1 + 1, i, none⟩ (.int .i64 x)) (w.heap.size + 1 + 1) (mnC (L ++ [x])) 35 by rw [← mnC_set L x (by rw [HL.out]; exact hlt), HL.out]; exact HD2.out.set i _)
        have HE0 := Lib.hid (HD0.out.far ⟨w.heap.size + 1 + 1, i, none⟩ (.int .i64 x) (by show w.heap.size + 1 + 1 ≠ w.heap.size; omega))
        have HE1 := Lib.hid (HD1.out.far ⟨w.heap.size + 1 + 1, i, none⟩ (.int .i64 x) (by show w.heap.size + 1 + 1 ≠ w.heap.size + 1; omega))
        have HG5 := Lib.hid (grown_put HG4.out ⟨w.heap.size + 1 + 1, i, none⟩ (.int .i64 x) (by show w.heap.size ≤ w.heap.size + 1 + 1; omega))
        have HR5 := Lib.hid (Rd1.far HR4.out ⟨w.heap.size + 1 + 1, i, none⟩ (.int .i64 x) (by show w.heap.size + 1 + 1 ≠ rb; omega))
        clear f2 c2
        go_roundw
        case rel => exact ⟨i + 1, L ++ [x], t4, by go_num, by have := HL.out; simp; omega, by omega, HPn.out, HT4.out, HR5.out, HG5.out, HE0.out, HE1.out, HE2.out⟩
        case measure => simp [intOf]; omega
    · obtain rfl : i = 4 := by omega
      have HPe := Lib.hid (pMan_some HPt.out.ends)
      have q0 := hb2.cell 0
      have q1 := hb2.cell 1
      have q2 := hb2.cell 2
      have q3 := hb2.cell 3
      have z0 := hb1.cell 0
      have z1 := hb1.cell 1
      have z2 := hb1.cell 2
      have z3 := hb1.cell 3
      have f0 := hb1.free 0
      have f1 := hb1.free 1
      have f2 := hb1.free 2
      have f3 := hb1.free 3
      simp [mnC] at q0 q1 q2 q3 z0 z1 z2 z3
      clear hb0 hb1 hb2
      have HSt := Lib.hid (fun (W' : World) (i : Nat) (v : Value) (h : w.grownBy W' (some rb) ∧ Rd1 rb u W') => (⟨grown_put h.1 ⟨w.heap.size + 1, i, none⟩ v (by show w.heap.size ≤ w.heap.size + 1; omega), Rd1.far h.2 ⟨w.heap.size + 1, i, none⟩ v (by show w.heap.size + 1 ≠ rb; omega)⟩ : w.grownBy (W'.setCell ⟨w.heap.size + 1, i, none⟩ v) (some rb) ∧ Rd1 rb u (W'.setCell ⟨w.heap.size + 1, i, none⟩ v)))
      go_wp2_with fail
      refine bodyPost_ret (v := .agg #[.int .i64 (L[0]?.getD 0), .int .i64 (L[1]?.getD 0), .int .i64 (L[2]?.getD 0), .int .i64 (L[3]?.getD 0)]) (by simp [results, Tryz.results52, go_sem, *]) rfl ?_
      have hfin := HSt.out _ 3 (.int .i64 (L[3]?.getD 0)) (HSt.out _ 2 (.int .i64 (L[2]?.getD 0)) (HSt.out _ 1 (.int .i64 (L[1]?.getD 0)) (HSt.out _ 0 (.int .i64 (L[0]?.getD 0)) ⟨HGr.out, HRd.out⟩)))
      exact ⟨hfin.1, .inr ⟨_, _, _, HPe.out, HUs.out, rfl, hfin.2, rfl⟩⟩
end Go.Proofs.YtbeaaieaffdgeaaGreatDoor
end
/- The program's instr. (Written by gen6r.py.) -/
section
namespace Go.Proofs.YtbeaaieaffdgeaaGreatDoor
open Go.RowKit
set_option linter.unusedVariables false
set_option linter.unusedSimpArgs false
set_option maxRecDepth 100000

noncomputable def riOps : Array Oper := ((Tryz.f78.body).bind (regionOps 1)).getD #[]
/-- What is left behind each reading. -/
def riD : Nat → Option ByteArray → Option ByteArray
  | 0 => dropT pNum
  | 1 => dropT pInt
  | _ => dropT pInt
def riSt (s : ByteArray) : Nat → Option ByteArray
  | 0 => some s
  | j + 1 => riD j (riSt s j)
def riVal (rb : Nat) (s : ByteArray) : Nat → Value → World → Prop
  | 0, v, w => v = rdV rb
  | 1, v, w => ∃ o, takeT pNum (riSt s 0) = some o ∧ asInt rb o v w
  | 2, v, w => v = rdV rb
  | 3, v, w => ∃ x, takeT pInt (riSt s 1) = some x ∧ asInt rb x v w
  | 4, v, w => v = rdV rb
  | 5, v, w => ∃ y, takeT pInt (riSt s 2) = some y ∧ asInt rb y v w
  | 6, v, w => ∃ o x y, (takeT pNum (riSt s 0) = some o ∧ takeT pInt (riSt s 1) = some x ∧ takeT pInt (riSt s 2) = some y) ∧ VV vN.g vN.val vN.C vN.S vN.R rb (⟨o, x, y⟩ : Ins) v w
  | _, _, _ => True
def riI (rb bx xb : Nat) (w : World) : Prop := bx ≠ rb ∧ xb ≠ rb ∧ Bk w bx #[.pointer (some ⟨rb, 0, none⟩)] 62 ∧ Bk w xb #[.int .i64 0, .int .i64 0, .int .i64 0] 82
theorem riKeep (rb bx xb : Nat) : ∀ w w' : World, riI rb bx xb w → w.grownBy w' (some rb) → riI rb bx xb w' := fun w w' h g => ⟨h.1, h.2.1, h.2.2.1.read g h.1, h.2.2.2.read g h.2.1⟩
theorem riMono (rb : Nat) (s : ByteArray) : ∀ j v w w', riVal rb s j v w → w.grownBy w' (some rb) → riVal rb s j v w' := by
  intro j v w w' h g
  match j, h with
  | 0, h => exact h
  | 1, h => exact h
  | 2, h => exact h
  | 3, h => exact h
  | 4, h => exact h
  | 5, h => exact h
  | 6, ⟨_, _, _, h1, y, h2, h3, h4, h5⟩ => exact ⟨_, _, _, h1, y, h2, h3, h4, h5.read g⟩
  | k + 7, h => exact trivial
def riBase (bx xb : Nat) : Nat → Option Value := fun s => if s = 1 then some (.pointer (some ⟨bx, 0, none⟩)) else if s = 2 then some (.pointer (some ⟨xb, 0, none⟩)) else none
section
variable {l : Array Bool} {a : Act} {w w0 : World} {Q : Exit → Act → World → Prop} {rb bx xb : Nat} {s : ByteArray}
theorem riNone0 {u : ByteArray} (hu : riSt s 0 = some u) (hn : pNum u = none) : pIns s = none := by
    have e0 := hu
    obtain rfl : s = u := Option.some.inj hu
    unfold pIns
    rw [then_none hn]
theorem riNone1 {u : ByteArray} (hu : riSt s 1 = some u) (hn : pInt u = none) : pIns s = none := by
    have e1 := hu
    obtain ⟨u0, x0, e0, f0, t0⟩ := drop_some (f := pNum) (o := riSt s 0) (by exact e1)
    obtain rfl : s = u0 := Option.some.inj e0
    unfold pIns
    rw [then_of f0, then_none hn]
theorem riNone2 {u : ByteArray} (hu : riSt s 2 = some u) (hn : pInt u = none) : pIns s = none := by
    have e2 := hu
    obtain ⟨u1, x1, e1, f1, t1⟩ := drop_some (f := pInt) (o := riSt s 1) (by exact e2)
    obtain ⟨u0, x0, e0, f0, t0⟩ := drop_some (f := pNum) (o := riSt s 0) (by exact e1)
    obtain rfl : s = u0 := Option.some.inj e0
    unfold pIns
    rw [then_of f0, then_of f1, then_none hn]
theorem riAll {u : ByteArray} {o : Int} {x : Int} {y : Int} (hu : riSt s 3 = some u) (ht : takeT pNum (riSt s 0) = some o ∧ takeT pInt (riSt s 1) = some x ∧ takeT pInt (riSt s 2) = some y) : pIns s = some ((⟨o, x, y⟩ : Ins), u) := by
    have e3 := hu
    obtain ⟨u2, x2, e2, f2, t2⟩ := drop_some (f := pInt) (o := riSt s 2) (by exact e3)
    obtain ⟨u1, x1, e1, f1, t1⟩ := drop_some (f := pInt) (o := riSt s 1) (by exact e2)
    obtain ⟨u0, x0, e0, f0, t0⟩ := drop_some (f := pNum) (o := riSt s 0) (by exact e1)
    obtain rfl : s = u0 := Option.some.inj e0
    obtain ⟨g0, g1, g2⟩ := ht
    obtain rfl : x0 = o := Option.some.inj (t0.symm.trans g0)
    obtain rfl : x1 = x := Option.some.inj (t1.symm.trans g1)
    obtain rfl : x2 = y := Option.some.inj (t2.symm.trans g2)
    unfold pIns
    rw [then_of f0, then_of f1, then_of f2]
    rfl
theorem riOp0 (hs : s.size ≤ 70368744177664) (hQ : ∀ (a : Act) (w' : World), a.defers = [] → w0.grownBy w' (some rb) → pIns s = none → Q (.panic [{ v := .iface 24 (.int .i64 4), recovered := false }]) a w') (h : AtC riOps 10 [1, 3, 5] (riBase bx xb) (riVal rb s) (RH w0 rb s (riSt s) (riI rb bx xb)) l a w) (hn : l.getD 0 true = false) (hd : ∀ o : Oper, riOps[0]? = some o → ∀ e ∈ o.after.toList, Region.binds .any e = true → l.getD e.on false = true) : wpOp Tryz.prog riOps Q 0 (AtC riOps 10 [1, 3, 5] (riBase bx xb) (riVal rb s) (RH w0 rb s (riSt s) (riI rb bx xb)) (l.setIfInBounds 0 true)) a w := by
  have hown : ownAt riOps 10 (riBase bx xb) 0 3 := ownAt_of (by kernel_rfl) rfl
  obtain ⟨o, ho⟩ : ∃ o, riOps[0]? = some o := Option.isSome_iff_exists.1 (by kernel_rfl)
  have hop : o.op = Op.load 62 (Operand.tmp 1) := op_of ho (by kernel_rfl)
  have hg : o.guard = none := guard_of ho (by kernel_rfl)
  have v1 : a.eval (.tmp 1) = .pointer (some ⟨bx, 0, none⟩) := h.fixed 1 _ rfl
  have c := h.own.2.2.1.cell 0
  simp at c
  exact h.pure ho hown rfl hg (v := rdV rb) (by simp only [execOp, hop, v1]; first | go_simp | simp [go_sem, c]) rfl
theorem riOp1 (hs : s.size ≤ 70368744177664) (hQ : ∀ (a : Act) (w' : World), a.defers = [] → w0.grownBy w' (some rb) → pIns s = none → Q (.panic [{ v := .iface 24 (.int .i64 4), recovered := false }]) a w') (h : AtC riOps 10 [1, 3, 5] (riBase bx xb) (riVal rb s) (RH w0 rb s (riSt s) (riI rb bx xb)) l a w) (hn : l.getD 1 true = false) (hd : ∀ o : Oper, riOps[1]? = some o → ∀ e ∈ o.after.toList, Region.binds .any e = true → l.getD e.on false = true) : wpOp Tryz.prog riOps Q 1 (AtC riOps 10 [1, 3, 5] (riBase bx xb) (riVal rb s) (RH w0 rb s (riSt s) (riI rb bx xb)) (l.setIfInBounds 1 true)) a w := by
  have hown : ownAt riOps 10 (riBase bx xb) 1 4 := ownAt_of (by kernel_rfl) rfl
  obtain ⟨o, ho⟩ : ∃ o, riOps[1]? = some o := Option.isSome_iff_exists.1 (by kernel_rfl)
  have hop : o.op = Op.call { callee := Callee.value (Operand.func 51), args := #[Operand.tmp 3], argTypes := #[62] } := op_of ho (by kernel_rfl)
  have hg : o.guard = none := guard_of ho (by kernel_rfl)
  have v3 : a.eval (.tmp 3) = rdV rb := h.done 0 3 (dep hd 0 (by kernel_rfl)) (by kernel_rfl)
  refine h.reads (k := 0) (f := pNum) (q := 51) (args := fun rb => #[rdV rb]) (V := asInt) ho hown (by decide) rfl (by decide) (fun j hj => ?_) hn hg ?_ num1_any rfl hs (fun v w' hv => hv) (riMono rb s) (riKeep rb bx xb) (fun u w' hu hf g => hQ a w' h.defers g (riNone0 hu hf))
  · omega
  · rw [exec_call (enters_of Tryz.func51 (by kernel_rfl) rfl) hop]
    simp only [List.map_toArray, List.map_cons, List.map_nil, v3]
    try rfl
theorem riOp2 (hs : s.size ≤ 70368744177664) (hQ : ∀ (a : Act) (w' : World), a.defers = [] → w0.grownBy w' (some rb) → pIns s = none → Q (.panic [{ v := .iface 24 (.int .i64 4), recovered := false }]) a w') (h : AtC riOps 10 [1, 3, 5] (riBase bx xb) (riVal rb s) (RH w0 rb s (riSt s) (riI rb bx xb)) l a w) (hn : l.getD 2 true = false) (hd : ∀ o : Oper, riOps[2]? = some o → ∀ e ∈ o.after.toList, Region.binds .any e = true → l.getD e.on false = true) : wpOp Tryz.prog riOps Q 2 (AtC riOps 10 [1, 3, 5] (riBase bx xb) (riVal rb s) (RH w0 rb s (riSt s) (riI rb bx xb)) (l.setIfInBounds 2 true)) a w := by
  have hown : ownAt riOps 10 (riBase bx xb) 2 5 := ownAt_of (by kernel_rfl) rfl
  obtain ⟨o, ho⟩ : ∃ o, riOps[2]? = some o := Option.isSome_iff_exists.1 (by kernel_rfl)
  have hop : o.op = Op.load 62 (Operand.tmp 1) := op_of ho (by kernel_rfl)
  have hg : o.guard = none := guard_of ho (by kernel_rfl)
  have v1 : a.eval (.tmp 1) = .pointer (some ⟨bx, 0, none⟩) := h.fixed 1 _ rfl
  have c := h.own.2.2.1.cell 0
  simp at c
  exact h.pure ho hown rfl hg (v := rdV rb) (by simp only [execOp, hop, v1]; first | go_simp | simp [go_sem, c]) rfl
theorem riOp3 (hs : s.size ≤ 70368744177664) (hQ : ∀ (a : Act) (w' : World), a.defers = [] → w0.grownBy w' (some rb) → pIns s = none → Q (.panic [{ v := .iface 24 (.int .i64 4), recovered := false }]) a w') (h : AtC riOps 10 [1, 3, 5] (riBase bx xb) (riVal rb s) (RH w0 rb s (riSt s) (riI rb bx xb)) l a w) (hn : l.getD 3 true = false) (hd : ∀ o : Oper, riOps[3]? = some o → ∀ e ∈ o.after.toList, Region.binds .any e = true → l.getD e.on false = true) : wpOp Tryz.prog riOps Q 3 (AtC riOps 10 [1, 3, 5] (riBase bx xb) (riVal rb s) (RH w0 rb s (riSt s) (riI rb bx xb)) (l.setIfInBounds 3 true)) a w := by
  have hown : ownAt riOps 10 (riBase bx xb) 3 6 := ownAt_of (by kernel_rfl) rfl
  obtain ⟨o, ho⟩ : ∃ o, riOps[3]? = some o := Option.isSome_iff_exists.1 (by kernel_rfl)
  have hop : o.op = Op.call { callee := Callee.value (Operand.func 79), args := #[Operand.tmp 5], argTypes := #[62] } := op_of ho (by kernel_rfl)
  have hg : o.guard = none := guard_of ho (by kernel_rfl)
  have v5 : a.eval (.tmp 5) = rdV rb := h.done 2 5 (dep hd 2 (by kernel_rfl)) (by kernel_rfl)
  refine h.reads (k := 1) (f := pInt) (q := 79) (args := fun rb => #[rdV rb]) (V := asInt) ho hown (by decide) rfl (by decide) (fun j hj => ?_) hn hg ?_ int1_any rfl hs (fun v w' hv => hv) (riMono rb s) (riKeep rb bx xb) (fun u w' hu hf g => hQ a w' h.defers g (riNone1 hu hf))
  · obtain rfl : j = 0 := by omega
    exact dep hd 1 (by kernel_rfl)
  · rw [exec_call (enters_of Tryz.func79 (by kernel_rfl) rfl) hop]
    simp only [List.map_toArray, List.map_cons, List.map_nil, v5]
    try rfl
theorem riOp4 (hs : s.size ≤ 70368744177664) (hQ : ∀ (a : Act) (w' : World), a.defers = [] → w0.grownBy w' (some rb) → pIns s = none → Q (.panic [{ v := .iface 24 (.int .i64 4), recovered := false }]) a w') (h : AtC riOps 10 [1, 3, 5] (riBase bx xb) (riVal rb s) (RH w0 rb s (riSt s) (riI rb bx xb)) l a w) (hn : l.getD 4 true = false) (hd : ∀ o : Oper, riOps[4]? = some o → ∀ e ∈ o.after.toList, Region.binds .any e = true → l.getD e.on false = true) : wpOp Tryz.prog riOps Q 4 (AtC riOps 10 [1, 3, 5] (riBase bx xb) (riVal rb s) (RH w0 rb s (riSt s) (riI rb bx xb)) (l.setIfInBounds 4 true)) a w := by
  have hown : ownAt riOps 10 (riBase bx xb) 4 7 := ownAt_of (by kernel_rfl) rfl
  obtain ⟨o, ho⟩ : ∃ o, riOps[4]? = some o := Option.isSome_iff_exists.1 (by kernel_rfl)
  have hop : o.op = Op.load 62 (Operand.tmp 1) := op_of ho (by kernel_rfl)
  have hg : o.guard = none := guard_of ho (by kernel_rfl)
  have v1 : a.eval (.tmp 1) = .pointer (some ⟨bx, 0, none⟩) := h.fixed 1 _ rfl
  have c := h.own.2.2.1.cell 0
  simp at c
  exact h.pure ho hown rfl hg (v := rdV rb) (by simp only [execOp, hop, v1]; first | go_simp | simp [go_sem, c]) rfl
theorem riOp5 (hs : s.size ≤ 70368744177664) (hQ : ∀ (a : Act) (w' : World), a.defers = [] → w0.grownBy w' (some rb) → pIns s = none → Q (.panic [{ v := .iface 24 (.int .i64 4), recovered := false }]) a w') (h : AtC riOps 10 [1, 3, 5] (riBase bx xb) (riVal rb s) (RH w0 rb s (riSt s) (riI rb bx xb)) l a w) (hn : l.getD 5 true = false) (hd : ∀ o : Oper, riOps[5]? = some o → ∀ e ∈ o.after.toList, Region.binds .any e = true → l.getD e.on false = true) : wpOp Tryz.prog riOps Q 5 (AtC riOps 10 [1, 3, 5] (riBase bx xb) (riVal rb s) (RH w0 rb s (riSt s) (riI rb bx xb)) (l.setIfInBounds 5 true)) a w := by
  have hown : ownAt riOps 10 (riBase bx xb) 5 8 := ownAt_of (by kernel_rfl) rfl
  obtain ⟨o, ho⟩ : ∃ o, riOps[5]? = some o := Option.isSome_iff_exists.1 (by kernel_rfl)
  have hop : o.op = Op.call { callee := Callee.value (Operand.func 79), args := #[Operand.tmp 7], argTypes := #[62] } := op_of ho (by kernel_rfl)
  have hg : o.guard = none := guard_of ho (by kernel_rfl)
  have v7 : a.eval (.tmp 7) = rdV rb := h.done 4 7 (dep hd 4 (by kernel_rfl)) (by kernel_rfl)
  refine h.reads (k := 2) (f := pInt) (q := 79) (args := fun rb => #[rdV rb]) (V := asInt) ho hown (by decide) rfl (by decide) (fun j hj => ?_) hn hg ?_ int1_any rfl hs (fun v w' hv => hv) (riMono rb s) (riKeep rb bx xb) (fun u w' hu hf g => hQ a w' h.defers g (riNone2 hu hf))
  · obtain rfl : j = 1 := by omega
    exact dep hd 3 (by kernel_rfl)
  · rw [exec_call (enters_of Tryz.func79 (by kernel_rfl) rfl) hop]
    simp only [List.map_toArray, List.map_cons, List.map_nil, v7]
    try rfl
theorem riOp6 (hs : s.size ≤ 70368744177664) (hQ : ∀ (a : Act) (w' : World), a.defers = [] → w0.grownBy w' (some rb) → pIns s = none → Q (.panic [{ v := .iface 24 (.int .i64 4), recovered := false }]) a w') (h : AtC riOps 10 [1, 3, 5] (riBase bx xb) (riVal rb s) (RH w0 rb s (riSt s) (riI rb bx xb)) l a w) (hn : l.getD 6 true = false) (hd : ∀ o : Oper, riOps[6]? = some o → ∀ e ∈ o.after.toList, Region.binds .any e = true → l.getD e.on false = true) : wpOp Tryz.prog riOps Q 6 (AtC riOps 10 [1, 3, 5] (riBase bx xb) (riVal rb s) (RH w0 rb s (riSt s) (riI rb bx xb)) (l.setIfInBounds 6 true)) a w := by
  have hown : ownAt riOps 10 (riBase bx xb) 6 9 := ownAt_of (by kernel_rfl) rfl
  obtain ⟨o, ho⟩ : ∃ o, riOps[6]? = some o := Option.isSome_iff_exists.1 (by kernel_rfl)
  have hop : o.op = Op.build 82 #[(0, Operand.tmp 4), (1, Operand.tmp 6), (2, Operand.tmp 8)] := op_of ho (by kernel_rfl)
  have hg : o.guard = none := guard_of ho (by kernel_rfl)
  have p4 : riVal rb s 1 (a.eval (.tmp 4)) w := h.done 1 4 (dep hd 1 (by kernel_rfl)) (by kernel_rfl)
  have p6 : riVal rb s 3 (a.eval (.tmp 6)) w := h.done 3 6 (dep hd 3 (by kernel_rfl)) (by kernel_rfl)
  have p8 : riVal rb s 5 (a.eval (.tmp 8)) w := h.done 5 8 (dep hd 5 (by kernel_rfl)) (by kernel_rfl)
  obtain ⟨o, go, wo⟩ := p4
  change a.eval (.tmp 4) = .int .i64 o at wo
  obtain ⟨x, gx, wx⟩ := p6
  change a.eval (.tmp 6) = .int .i64 x at wx
  obtain ⟨y, gy, wy⟩ := p8
  change a.eval (.tmp 8) = .int .i64 y at wy
  exact h.pure ho hown rfl hg (v := .agg #[.int .i64 o, .int .i64 x, .int .i64 y]) (by simp only [execOp, hop, List.map_toArray, List.map_cons, List.map_nil, wo, wx, wy]; first | go_simp | kernel_rfl) ⟨o, x, y, ⟨go, gx, gy⟩, _, rfl, rfl, trivial, Kd.triv _ _ _⟩

end
theorem riStep {w0 : World} {Q : Exit → Act → World → Prop} {rb bx xb : Nat} {s : ByteArray} (hs : s.size ≤ 70368744177664) (hQ : ∀ (a : Act) (w' : World), a.defers = [] → w0.grownBy w' (some rb) → pIns s = none → Q (.panic [{ v := .iface 24 (.int .i64 4), recovered := false }]) a w') (l : Array Bool) (a : Act) (w : World) (kk : Nat) (h : AtC riOps 10 [1, 3, 5] (riBase bx xb) (riVal rb s) (RH w0 rb s (riSt s) (riI rb bx xb)) l a w) (hi : kk < 7) (hn : l.getD kk true = false) (hd : ∀ o : Oper, riOps[kk]? = some o → ∀ e ∈ o.after.toList, Region.binds .any e = true → l.getD e.on false = true) : wpOp Tryz.prog riOps Q kk (AtC riOps 10 [1, 3, 5] (riBase bx xb) (riVal rb s) (RH w0 rb s (riSt s) (riI rb bx xb)) (l.setIfInBounds kk true)) a w := by
  match kk, hi, hn, hd with
  | 0, _, hn, hd => exact riOp0 hs hQ h hn hd
  | 1, _, hn, hd => exact riOp1 hs hQ h hn hd
  | 2, _, hn, hd => exact riOp2 hs hQ h hn hd
  | 3, _, hn, hd => exact riOp3 hs hQ h hn hd
  | 4, _, hn, hd => exact riOp4 hs hQ h hn hd
  | 5, _, hn, hd => exact riOp5 hs hQ h hn hd
  | 6, _, hn, hd => exact riOp6 hs hQ h hn hd
  | k + 7, hi, _, _ => omega
theorem riSize : riOps.size = 8 := by kernel_rfl
theorem riDeps : ∀ j, j < 7 → depOn riOps 7 j = true := fun j hj => (List.all_eq_true.1 (show ((List.range 7).all fun j => depOn riOps 7 j) = true by kernel_rfl)) j (List.mem_range.2 hj)
set_option maxHeartbeats 4000000 in
theorem instr1_any : Reads pIns 78 (fun rb => #[rdV rb]) (VV vN.g vN.val vN.C vN.S vN.R) := by
  intro rb s w hs hr
  suffices key : ∀ Post : Ending → World → Prop, (∀ e w', (w.grownBy w' (some rb) ∧ ((pIns s = none ∧ e = Gone) ∨ ∃ x t v, pIns s = some (x, t) ∧ t.size ≤ s.size ∧ e = .returned v ∧ Rd1 rb t w' ∧ VV vN.g vN.val vN.C vN.S vN.R rb x v w')) → Post e w') →
      Calls Tryz.prog 78 ((fun rb => #[rdV rb]) rb) w Post from key _ (fun _ _ h => h)
  intro Post hPost
  have HPo := Lib.hid hPost
  clear hPost
  have hrb := hr.lt
  have HR := Lib.hid (show Rd1 rb s ((w.alloc (.cells #[.pointer (some ⟨rb, 0, none⟩)] 62)).alloc (.cells #[.int .i64 0, .int .i64 0, .int .i64 0] 82)) from (hr.alloc _).alloc _)
  have HG := Lib.hid (grown_new (grown_new (World.grownBy.refl w (some rb)) (.cells #[.pointer (some ⟨rb, 0, none⟩)] 62)) (.cells #[.int .i64 0, .int .i64 0, .int .i64 0] 82))
  have HI := Lib.hid (show riI rb w.heap.size (w.heap.size + 1) ((w.alloc (.cells #[.pointer (some ⟨rb, 0, none⟩)] 62)).alloc (.cells #[.int .i64 0, .int .i64 0, .int .i64 0] 82)) from
    ⟨by omega, by omega, (Bk.new w _ _).below (below_alloc1 _ _), by have := Bk.new (w.alloc (.cells #[.pointer (some ⟨rb, 0, none⟩)] 62)) #[.int .i64 0, .int .i64 0, .int .i64 0] 82; simpa using this⟩)
  have HS := Lib.hid hs
  clear hr hs
  go_enter Tryz.func78, Tryz.ntmps78
  go_wp2_with fail
  generalize (w.alloc (.cells #[.pointer (some ⟨rb, 0, none⟩)] 62)).alloc (.cells #[.int .i64 0, .int .i64 0, .int .i64 0] 82) = w1 at *
  rename_i KK hKK
  refine region_lastC (m := 7) (ops := riOps) (n := 10) (cs := [1, 3, 5]) (base := riBase w.heap.size (w.heap.size + 1)) (val := riVal rb s) (H := RH w rb s (riSt s) (riI rb w.heap.size (w.heap.size + 1))) (by kernel_rfl) (earlier_of (by kernel_rfl)) riSize riDeps ?start (fun l a w' i h hi hn hd => riStep HS.out (fun a w' h1 h2 h3 => ⟨h1, HPo.out _ _ ⟨h2, .inl ⟨h3, rfl⟩⟩⟩) l a w' i h hi hn hd) ?last
  case start =>
    refine AtC.begins rfl rfl ⟨s, rfl, Nat.le_refl _, HR.out, ⟨HG.out.os, HG.out.tape, HG.out.output, HG.out.size, HG.out.block⟩, HI.out⟩ fun k v hk => ?_
    unfold riBase at hk
    split at hk
    · rename_i e; subst e; cases hk; rfl
    · split at hk
      · rename_i e; subst e; cases hk; rfl
      · cases hk
  case last =>
    intro l a w' h hall
    obtain ⟨u, hu, hus, hrd, hg, hi⟩ := h.last (fun i hi => hall _ (by
      have hi2 : i = 0 ∨ i = 1 ∨ i = 2 := by simp at hi; omega
      rcases hi2 with rfl | rfl | rfl <;> decide))
    have hv : riVal rb s 6 (a.tmps.getD 9 undef) w' := h.done 6 9 (hall 6 (by omega)) (by kernel_rfl)
    obtain ⟨oo, ho⟩ : ∃ oo, riOps[7]? = some oo := Option.isSome_iff_exists.1 (by kernel_rfl)
    have hop : oo.op = Op.store 82 (Operand.tmp 2) (Operand.tmp 9) := op_of ho (by kernel_rfl)
    have hgd : oo.guard = none := guard_of ho (by kernel_rfl)
    have hdst : oo.dst = none := dst_of ho (by kernel_rfl)
    have v2 : a.eval (.tmp 2) = .pointer (some ⟨w.heap.size + 1, 0, none⟩) := h.fixed 2 _ rfl
    have hdf : a.defers = [] := h.defers
    have hsz : a.tmps.size = 10 := h.tmps
    have HB := Lib.hid hi.2.2.2
    have HRd := Lib.hid hrd
    have HGg := Lib.hid hg
    have HUs := Lib.hid hus
    clear hall h hi hrd hg hus
    have c0 := HB.out.cell 0
    have f0 := HB.out.free 0
    have c1 := HB.out.cell 1
    have f1 := HB.out.free 1
    have c2 := HB.out.cell 2
    have f2 := HB.out.free 2
    simp at c0 c1 c2
    obtain ⟨o, x, y, ht, y, hgy, hvy, hC, hK⟩ := hv
    have HAll := Lib.hid (riAll hu ht)
    have HK := Lib.hid hK
    have HC := Lib.hid hC
    have HGy := Lib.hid hgy
    clear hu ht hK hC hgy
    have v9 : a.eval (.tmp 9) = vN.val y := hvy
    obtain ⟨tm, df⟩ := a
    simp only at hdf hsz hvy
    subst hdf
    obtain ⟨v, hvs⟩ : ∃ v : Nat → Value, ∀ s, tm.getD s undef = v s := ⟨_, fun _ => rfl⟩
    have e2 : v 2 = .pointer (some ⟨w.heap.size + 1, 0, none⟩) := (hvs 2).symm.trans v2
    have e : tm = #[v 0, v 1, v 2, v 3, v 4, v 5, v 6, v 7, v 8, v 9] := (slots_of tm 10 hsz).trans (by simp only [hvs]; rfl)
    rw [e2] at e
    unfold wpOp
    rw [ho]
    simp only
    rw [if_pos (show Region.wanted oo (yielded riOps tm) = true from guard_none (a := ⟨tm, []⟩) hgd)]
    left
    unfold Oper.wp
    simp only [execOp, hop, v2, v9]
    go_simp
    refine hKK _ _ ?_
    have HFin := Lib.hid (show _ from put_step (T := 82) (by omega) (by omega) (by decide) 2 (.int .i64 y.b) (put_step (T := 82) (by omega) (by omega) (by decide) 1 (.int .i64 y.a) (put_step (T := 82) (by omega) (by omega) (by decide) 0 (.int .i64 y.op) (⟨HGg.out, HRd.out, HK.out, _, HB.out⟩))))
    have hb9 : Bk ((((w'.setCell ⟨w.heap.size + 1, 0, none⟩ (.int .i64 y.op)).setCell ⟨w.heap.size + 1, 1, none⟩ (.int .i64 y.a)).setCell ⟨w.heap.size + 1, 2, none⟩ (.int .i64 y.b))) (w.heap.size + 1) #[.int .i64 y.op, .int .i64 y.a, .int .i64 y.b] 82 := by
      have h9 := (((HB.out.set 0 (.int .i64 y.op)).set 1 (.int .i64 y.a)).set 2 (.int .i64 y.b))
      simpa using h9
    clear c0 f0 c1 f1 c2 f2
    generalize (((w'.setCell ⟨w.heap.size + 1, 0, none⟩ (.int .i64 y.op)).setCell ⟨w.heap.size + 1, 1, none⟩ (.int .i64 y.a)).setCell ⟨w.heap.size + 1, 2, none⟩ (.int .i64 y.b)) = W9 at *
    have d0 := hb9.cell 0
    have d1 := hb9.cell 1
    have d2 := hb9.cell 2
    simp at d0 d1 d2
    clear hb9
    go_wp2_with fail
    refine bodyPost_ret (v := vN.val y) (by simp [results, Tryz.results78, go_sem, d0, d1, d2]) rfl ?_
    exact HPo.out _ _ ⟨HFin.out.1, .inr ⟨_, _, _, HAll.out, HUs.out, rfl, HFin.out.2.1, y, HGy.out, rfl, HC.out, HFin.out.2.2.1⟩⟩
end Go.Proofs.YtbeaaieaffdgeaaGreatDoor
end
/- The program's list[int]. (Written by gen6l.py.) -/
section
namespace Go.Proofs.YtbeaaieaffdgeaaGreatDoor
open Go.RowKit
set_option linter.unusedVariables false
set_option linter.unusedSimpArgs false

set_option maxRecDepth 100000 in
set_option maxHeartbeats 4000000 in
theorem list_i (m : Nat) (hm : m ≤ 1000) (hf : Reads pNum 51 (fun rb => #[rdV rb]) (VV vI.g vI.val vI.C vI.S vI.R)) :
    Reads (pList m pNum) 76 (fun rb => #[rdV rb, .int .i64 (m : Int), .func (.func 51) #[rdV rb] #[]]) (VL vI 3 1 (fun l => l.map (Value.int .i64))) := by
  intro rb s w hs hr
  have hrb := hr.lt
  obtain ⟨i0, hi, hz0, hz1, hz2⟩ := info_parts infoI
  have HR := Lib.hid (hr.below (below_alloc1 w (.cells #[.pointer (some ⟨rb, 0, none⟩)] 62)))
  have HG0 := Lib.hid (grown_new (World.grownBy.refl w (some rb)) (.cells #[.pointer (some ⟨rb, 0, none⟩)] 62))
  have HU := Lib.hid (upTo_any m (by omega))
  have HF := Lib.hid hf
  have hsz1 : w.heap.size < (w.alloc (.cells #[.pointer (some ⟨rb, 0, none⟩)] 62)).heap.size := by simp
  have HS := Lib.hid hs
  clear hf hr hs
  go_enter Tryz.func76, Tryz.ntmps76
  go_wp2_with fail
  generalize w.alloc (.cells #[.pointer (some ⟨rb, 0, none⟩)] 62) = w1 at *
  refine (HU.out rb s w1 HS.out HR.out).mono ?_
  rintro e w2 ⟨g2, ⟨hn, rfl⟩ | ⟨x, t, v, hx, ht, rfl, h2, rfl⟩⟩
  · have HP := Lib.hid (then_none (g := fun n => pRep pNum n.toNat) hn)
    have HG := Lib.hid (grown_then HG0.out g2)
    clear hn g2
    exact ⟨rfl, HG.out, .inl ⟨HP.out, rfl⟩⟩
  · obtain ⟨n, rfl, hnm⟩ := pUp_nat hx
    have HP := Lib.hid (pList_of (f := pNum) hx)
    rw [Int.toNat_natCast] at HP
    have HG := Lib.hid (grown_then HG0.out g2)
    have HR2 := Lib.hid h2
    have HT := Lib.hid (show t.size ≤ s.size from ht)
    have HS2 := Lib.hid (show w.heap.size ≤ w2.heap.size by have := g2.size; omega)
    clear hx g2 h2 ht
    go_wp2_with fail
    go_loopw [7, 11] (fun sv q wr => ∃ (i : Nat) (M : List Int) (u : ByteArray) (v7 : Value), v7 = sv ∧ q = .int .i64 (i : Int) ∧ M.length = i ∧ i ≤ n ∧ Part pNum n t i (M.map vI.g) u ∧ u.size ≤ s.size ∧ Rd1 rb u wr ∧ wr.ownsRow w.heap.size 3 1 v7 i ((fun l => l.map (Value.int .i64)) M) ∧ (∀ y ∈ M, vI.C y ∧ Kd vI.S rb (vI.R y) wr) ∧ w.grownBy wr (some rb)) (fun sv q _ => n - (intOf q).toNat)
    case atStart => exact ⟨0, [], t, _, rfl, rfl, rfl, Nat.zero_le _, Part.start _ _ _, HT.out, HR2.out, World.ownsRow_nil _ _ _ _, (fun y h => by cases h), HG.out⟩
    case round =>
      obtain ⟨i, M, u, sv, rfl, rfl, hl, hin, hpt, hus, hrd, hown, hM, hg⟩ := hrel
      have HPt := Lib.hid hpt
      have HUs := Lib.hid hus
      have HRd := Lib.hid hrd
      have HOw := Lib.hid hown
      have HM := Lib.hid hM
      have HGr := Lib.hid hg
      have HL := Lib.hid hl
      clear hpt hus hrd hown hM hg hl
      by_cases hlt : i < n
      · go_wp2_with fail
        refine (HF.out rb u _ (by have := HUs.out; have := HS.out; omega) HRd.out).mono ?_
        rintro e w4 ⟨g4, ⟨hno, rfl⟩ | ⟨x, t4, v4, hx4, ht4, rfl, h4, y, hgy, rfl, hC, hK⟩⟩
        · have HNo := Lib.hid (HP.out.trans (HPt.out.fails hlt hno))
          have HGn := Lib.hid (grown_then HGr.out g4)
          clear hno g4
          exact ⟨rfl, HGn.out, .inl ⟨HNo.out, rfl⟩⟩
        · have HPn := Lib.hid (HPt.out.step hlt hx4)
          have HO4 := Lib.hid ((own_read HOw.out g4 hrb).alloc (.cells #[.int .i64 y] 3))
          have HM4 := Lib.hid (show ∀ z ∈ M ++ [y], vI.C z ∧ Kd vI.S rb (vI.R z) w4 from fun z hz => by
            rcases List.mem_append.1 hz with hz | hz
            · exact ⟨(HM.out z hz).1, (HM.out z hz).2.read g4⟩
            · rw [List.mem_singleton.1 hz]; exact ⟨hC, hK⟩)
          have HG4 := Lib.hid (grown_then HGr.out g4)
          have HR4 := Lib.hid h4
          have HT4 := Lib.hid (show t4.size ≤ s.size by have := HUs.out; omega)
          have HGy := Lib.hid hgy
          have hsz4 : w.heap.size ≤ w4.heap.size := HG4.out.size
          clear hx4 hC hK h4 ht4 g4 hgy
          go_wp2_with (at_builtin; go_loud (refine wpList_append_own _ rfl _ _ 39 rfl w.heap.size 3 i0 (.int .i64 0) 1 8 Tryz.underlying39 hi hz0 hz1 hz2 rfl (by decide) _ i _ rfl HO4.out ⟨w4.heap.size, 0, none⟩ 1 1 [.int .i64 y] rfl rfl (new_cells w4 _ _) (fun z hz => by rw [List.mem_singleton.1 hz]; rfl) (by unfold maxLen; omega) (by omega) (by simp; omega) ?_; intro sv5 w5 hown5 hgr5 hnil5; clear hnil5))
          have HG5 := Lib.hid (grown_own HG4.out HO4.out hgr5)
          have HR5 := Lib.hid (rd_own HR4.out HO4.out hgr5 hrb)
          have HM5 := Lib.hid (show ∀ z ∈ M ++ [y], vI.C z ∧ Kd vI.S rb (vI.R z) w5 from fun z hz => ⟨(HM4.out z hz).1, kd_own (HM4.out z hz).2 HO4.out hgr5 rfl⟩)
          have HO5 := Lib.hid (show w5.ownsRow w.heap.size 3 1 sv5 (i + 1) ((fun l => l.map (Value.int .i64)) (M ++ [y])) by simpa using hown5)
          have HPm := Lib.hid (show Part pNum n t (i + 1) ((M ++ [y]).map vI.g) t4 by
            rw [List.map_append, List.map_singleton, show vI.g y = x from HGy.out]; exact HPn.out)
          clear hown5 hgr5
          go_wp2_with fail
          go_roundw
          case rel => exact ⟨i + 1, M ++ [y], t4, _, rfl, by go_num, by have := HL.out; simp; omega, by omega, HPm.out, HT4.out, HR5.out, HO5.out, HM5.out, HG5.out⟩
          case measure => simp [intOf]; omega
      · obtain rfl : i = n := by omega
        have HFin := Lib.hid (VL.of (V := vI) (rw := (fun l => l.map (Value.int .i64))) (rb := rb) (show wr.ownsRow w.heap.size 3 1 sv M.length ((fun l => l.map (Value.int .i64)) M) by rw [HL.out]; exact HOw.out) hrb HM.out)
        have HPe := Lib.hid (HP.out.trans HPt.out.ends)
        go_wp2_with fail
        go_ret
        exact ⟨HGr.out, .inr ⟨_, _, HPe.out, HUs.out, sv, rfl, HRd.out, HFin.out⟩⟩
end Go.Proofs.YtbeaaieaffdgeaaGreatDoor
end
/- The program's list[instr]. (Written by gen6l.py.) -/
section
namespace Go.Proofs.YtbeaaieaffdgeaaGreatDoor
open Go.RowKit
set_option linter.unusedVariables false
set_option linter.unusedSimpArgs false

set_option maxRecDepth 100000 in
set_option maxHeartbeats 4000000 in
theorem list_n (m : Nat) (hm : m ≤ 1000) (hf : Reads pIns 78 (fun rb => #[rdV rb]) (VV vN.g vN.val vN.C vN.S vN.R)) :
    Reads (pList m pIns) 77 (fun rb => #[rdV rb, .int .i64 (m : Int), .func (.func 78) #[rdV rb] #[]]) (VL vN 82 3 insCells) := by
  intro rb s w hs hr
  have hrb := hr.lt
  obtain ⟨i0, hi, hz0, hz1, hz2⟩ := info_parts infoN
  have HR := Lib.hid (hr.below (below_alloc1 w (.cells #[.pointer (some ⟨rb, 0, none⟩)] 62)))
  have HG0 := Lib.hid (grown_new (World.grownBy.refl w (some rb)) (.cells #[.pointer (some ⟨rb, 0, none⟩)] 62))
  have HU := Lib.hid (upTo_any m (by omega))
  have HF := Lib.hid hf
  have hsz1 : w.heap.size < (w.alloc (.cells #[.pointer (some ⟨rb, 0, none⟩)] 62)).heap.size := by simp
  have HS := Lib.hid hs
  clear hf hr hs
  go_enter Tryz.func77, Tryz.ntmps77
  go_wp2_with fail
  generalize w.alloc (.cells #[.pointer (some ⟨rb, 0, none⟩)] 62) = w1 at *
  refine (HU.out rb s w1 HS.out HR.out).mono ?_
  rintro e w2 ⟨g2, ⟨hn, rfl⟩ | ⟨x, t, v, hx, ht, rfl, h2, rfl⟩⟩
  · have HP := Lib.hid (then_none (g := fun n => pRep pIns n.toNat) hn)
    have HG := Lib.hid (grown_then HG0.out g2)
    clear hn g2
    exact ⟨rfl, HG.out, .inl ⟨HP.out, rfl⟩⟩
  · obtain ⟨n, rfl, hnm⟩ := pUp_nat hx
    have HP := Lib.hid (pList_of (f := pIns) hx)
    rw [Int.toNat_natCast] at HP
    have HG := Lib.hid (grown_then HG0.out g2)
    have HR2 := Lib.hid h2
    have HT := Lib.hid (show t.size ≤ s.size from ht)
    have HS2 := Lib.hid (show w.heap.size ≤ w2.heap.size by have := g2.size; omega)
    clear hx g2 h2 ht
    go_wp2_with fail
    go_loopw [7, 11] (fun sv q wr => ∃ (i : Nat) (M : List Ins) (u : ByteArray) (v7 : Value), v7 = sv ∧ q = .int .i64 (i : Int) ∧ M.length = i ∧ i ≤ n ∧ Part pIns n t i (M.map vN.g) u ∧ u.size ≤ s.size ∧ Rd1 rb u wr ∧ wr.ownsRow w.heap.size 82 3 v7 i (insCells M) ∧ (∀ y ∈ M, vN.C y ∧ Kd vN.S rb (vN.R y) wr) ∧ w.grownBy wr (some rb)) (fun sv q _ => n - (intOf q).toNat)
    case atStart => exact ⟨0, [], t, _, rfl, rfl, rfl, Nat.zero_le _, Part.start _ _ _, HT.out, HR2.out, World.ownsRow_nil _ _ _ _, (fun y h => by cases h), HG.out⟩
    case round =>
      obtain ⟨i, M, u, sv, rfl, rfl, hl, hin, hpt, hus, hrd, hown, hM, hg⟩ := hrel
      have HPt := Lib.hid hpt
      have HUs := Lib.hid hus
      have HRd := Lib.hid hrd
      have HOw := Lib.hid hown
      have HM := Lib.hid hM
      have HGr := Lib.hid hg
      have HL := Lib.hid hl
      clear hpt hus hrd hown hM hg hl
      by_cases hlt : i < n
      · go_wp2_with fail
        refine (HF.out rb u _ (by have := HUs.out; have := HS.out; omega) HRd.out).mono ?_
        rintro e w4 ⟨g4, ⟨hno, rfl⟩ | ⟨x, t4, v4, hx4, ht4, rfl, h4, y, hgy, rfl, hC, hK⟩⟩
        · have HNo := Lib.hid (HP.out.trans (HPt.out.fails hlt hno))
          have HGn := Lib.hid (grown_then HGr.out g4)
          clear hno g4
          exact ⟨rfl, HGn.out, .inl ⟨HNo.out, rfl⟩⟩
        · have HPn := Lib.hid (HPt.out.step hlt hx4)
          have HO4 := Lib.hid ((own_read HOw.out g4 hrb).alloc (.cells #[.int .i64 y.op, .int .i64 y.a, .int .i64 y.b] 82))
          have HM4 := Lib.hid (show ∀ z ∈ M ++ [y], vN.C z ∧ Kd vN.S rb (vN.R z) w4 from fun z hz => by
            rcases List.mem_append.1 hz with hz | hz
            · exact ⟨(HM.out z hz).1, (HM.out z hz).2.read g4⟩
            · rw [List.mem_singleton.1 hz]; exact ⟨hC, hK⟩)
          have HG4 := Lib.hid (grown_then HGr.out g4)
          have HR4 := Lib.hid h4
          have HT4 := Lib.hid (show t4.size ≤ s.size by have := HUs.out; omega)
          have HGy := Lib.hid hgy
          have hsz4 : w.heap.size ≤ w4.heap.size := HG4.out.size
          clear hx4 hC hK h4 ht4 g4 hgy
          go_wp2_with (at_builtin; go_loud (refine wpList_append_own _ rfl _ _ 40 rfl w.heap.size 82 i0 (.agg #[.int .i64 0, .int .i64 0, .int .i64 0]) 3 24 Tryz.underlying40 hi hz0 hz1 hz2 rfl (by decide) _ i _ rfl HO4.out ⟨w4.heap.size, 0, none⟩ 1 1 [.int .i64 y.op, .int .i64 y.a, .int .i64 y.b] rfl rfl (new_cells w4 _ _) (insCells_one [y]) (by unfold maxLen; omega) (by omega) (by simp; omega) ?_; intro sv5 w5 hown5 hgr5 hnil5; clear hnil5))
          have HG5 := Lib.hid (grown_own HG4.out HO4.out hgr5)
          have HR5 := Lib.hid (rd_own HR4.out HO4.out hgr5 hrb)
          have HM5 := Lib.hid (show ∀ z ∈ M ++ [y], vN.C z ∧ Kd vN.S rb (vN.R z) w5 from fun z hz => ⟨(HM4.out z hz).1, kd_own (HM4.out z hz).2 HO4.out hgr5 rfl⟩)
          have HO5 := Lib.hid (show w5.ownsRow w.heap.size 82 3 sv5 (i + 1) (insCells (M ++ [y])) by rw [insCells_append]; exact hown5)
          have HPm := Lib.hid (show Part pIns n t (i + 1) ((M ++ [y]).map vN.g) t4 by
            rw [List.map_append, List.map_singleton, show vN.g y = x from HGy.out]; exact HPn.out)
          clear hown5 hgr5
          go_wp2_with fail
          go_roundw
          case rel => exact ⟨i + 1, M ++ [y], t4, _, rfl, by go_num, by have := HL.out; simp; omega, by omega, HPm.out, HT4.out, HR5.out, HO5.out, HM5.out, HG5.out⟩
          case measure => simp [intOf]; omega
      · obtain rfl : i = n := by omega
        have HFin := Lib.hid (VL.of (V := vN) (rw := insCells) (rb := rb) (show wr.ownsRow w.heap.size 82 3 sv M.length (insCells M) by rw [HL.out]; exact HOw.out) hrb HM.out)
        have HPe := Lib.hid (HP.out.trans HPt.out.ends)
        go_wp2_with fail
        go_ret
        exact ⟨HGr.out, .inr ⟨_, _, HPe.out, HUs.out, sv, rfl, HRd.out, HFin.out⟩⟩
end Go.Proofs.YtbeaaieaffdgeaaGreatDoor
end
