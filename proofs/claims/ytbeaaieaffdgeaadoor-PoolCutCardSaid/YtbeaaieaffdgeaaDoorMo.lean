/- Texts that belong together: PoolPa, PoolRc, CardU. -/
import Derived.Test.YtbeaaieaffdgeaaDoorMi
import Derived.Test.YtbeaaieaffdgeaaDoorMn
import Derived.Test.YtbeaaieaffdgeaaDoorMl
import Derived.Test.YtbeaaieaffdgeaaDoorMh
/- The program's list[ability]. (Written by gen6l.py.) -/
section
namespace Go.Proofs.YtbeaaieaffdgeaaDoor
open Go.RowKit
set_option linter.unusedVariables false
set_option linter.unusedSimpArgs false

set_option maxRecDepth 100000 in
set_option maxHeartbeats 4000000 in
theorem list_a (m : Nat) (hm : m ≤ 1000) (hf : Reads pAb 35 (fun rb => #[rdV rb]) (VV vA.g vA.val vA.C vA.S vA.R)) :
    Reads (pList m pAb) 34 (fun rb => #[rdV rb, .int .i64 (m : Int), .func (.func 35) #[rdV rb] #[]]) (VL vA 45 13 abRow) := by
  intro rb s w hs hr
  have hrb := hr.lt
  obtain ⟨i0, hi, hz0, hz1, hz2⟩ := info_parts infoA
  have HR := Lib.hid (hr.below (below_alloc1 w (.cells #[.pointer (some ⟨rb, 0, none⟩)] 60)))
  have HG0 := Lib.hid (grown_new (World.grownBy.refl w (some rb)) (.cells #[.pointer (some ⟨rb, 0, none⟩)] 60))
  have HU := Lib.hid (upTo_any m (by omega))
  have HF := Lib.hid hf
  have hsz1 : w.heap.size < (w.alloc (.cells #[.pointer (some ⟨rb, 0, none⟩)] 60)).heap.size := by simp
  have HS := Lib.hid hs
  clear hf hr hs
  go_enter Tryd.func34, Tryd.ntmps34
  go_wp2_with fail
  generalize w.alloc (.cells #[.pointer (some ⟨rb, 0, none⟩)] 60) = w1 at *
  refine (HU.out rb s w1 HS.out HR.out).mono ?_
  rintro e w2 ⟨g2, ⟨hn, rfl⟩ | ⟨x, t, v, hx, ht, rfl, h2, rfl⟩⟩
  · have HP := Lib.hid (then_none (g := fun n => pRep pAb n.toNat) hn)
    have HG := Lib.hid (grown_then HG0.out g2)
    clear hn g2
    exact ⟨rfl, HG.out, .inl ⟨HP.out, rfl⟩⟩
  · obtain ⟨n, rfl, hnm⟩ := pUp_nat hx
    have HP := Lib.hid (pList_of (f := pAb) hx)
    rw [Int.toNat_natCast] at HP
    have HG := Lib.hid (grown_then HG0.out g2)
    have HR2 := Lib.hid h2
    have HT := Lib.hid (show t.size ≤ s.size from ht)
    have HS2 := Lib.hid (show w.heap.size ≤ w2.heap.size by have := g2.size; omega)
    clear hx g2 h2 ht
    go_wp2_with fail
    go_loopw [7, 11] (fun sv q wr => ∃ (i : Nat) (M : List AbT) (u : ByteArray) (v7 : Value), v7 = sv ∧ q = .int .i64 (i : Int) ∧ M.length = i ∧ i ≤ n ∧ Part pAb n t i (M.map vA.g) u ∧ u.size ≤ s.size ∧ Rd1 rb u wr ∧ wr.ownsRow w.heap.size 45 13 v7 i (abRow M) ∧ (∀ y ∈ M, vA.C y ∧ Kd vA.S rb (vA.R y) wr) ∧ w.grownBy wr (some rb)) (fun sv q _ => n - (intOf q).toNat)
    case atStart => exact ⟨0, [], t, _, rfl, rfl, rfl, Nat.zero_le _, Part.start _ _ _, HT.out, HR2.out, World.ownsRow_nil _ _ _ _, (fun y h => by cases h), HG.out⟩
    case round =>
      obtain ⟨i, M, u, sv, rfl, rfl, hl, hin, hpt, hus, hrd, hown, hM, hg⟩ := hrel
      have HPt := Lib.hid hpt
      have HUs := Lib.hid hus
      have HRd := Lib.hid hrd
      have HOw := Lib.hid hown
      have HM := Lib.hid hM
      have HGr := Lib.hid hg
      have HL := Lib.hid hl
      clear hpt hus hrd hown hM hg hl
      by_cases hlt : i < n
      · go_wp2_with fail
        refine (HF.out rb u _ (by have := HUs.out; have := HS.out; omega) HRd.out).mono ?_
        rintro e w4 ⟨g4, ⟨hno, rfl⟩ | ⟨x, t4, v4, hx4, ht4, rfl, h4, y, hgy, rfl, hC, hK⟩⟩
        · have HNo := Lib.hid (HP.out.trans (HPt.out.fails hlt hno))
          have HGn := Lib.hid (grown_then HGr.out g4)
          clear hno g4
          exact ⟨rfl, HGn.out, .inl ⟨HNo.out, rfl⟩⟩
        · have HPn := Lib.hid (HPt.out.step hlt hx4)
          have HO4 := Lib.hid ((own_read HOw.out g4 hrb).alloc (.cells #[.int .i64 y.1.k, .int .i64 y.1.ev, .int .i64 y.1.wh, .int .i64 y.1.c0, .int .i64 y.1.c1, .int .i64 y.1.c2, .int .i64 y.1.c3, .bool y.1.tap, .slice y.1.ta y.1.tn y.1.tc, .slice y.1.ca y.1.cn y.1.cc, .int .i64 y.1.op, .int .i64 y.1.a, .int .i64 y.1.b] 45))
          have HM4 := Lib.hid (show ∀ z ∈ M ++ [y], vA.C z ∧ Kd vA.S rb (vA.R z) w4 from fun z hz => by
            rcases List.mem_append.1 hz with hz | hz
            · exact ⟨(HM.out z hz).1, (HM.out z hz).2.read g4⟩
            · rw [List.mem_singleton.1 hz]; exact ⟨hC, hK⟩)
          have HG4 := Lib.hid (grown_then HGr.out g4)
          have HR4 := Lib.hid h4
          have HT4 := Lib.hid (show t4.size ≤ s.size by have := HUs.out; omega)
          have HGy := Lib.hid hgy
          have hsz4 : w.heap.size ≤ w4.heap.size := HG4.out.size
          clear hx4 hC hK h4 ht4 g4 hgy
          go_wp2_with (at_builtin; go_loud (refine wpList_append_own _ rfl _ _ 37 rfl w.heap.size 45 i0 (.agg #[.int .i64 0, .int .i64 0, .int .i64 0, .int .i64 0, .int .i64 0, .int .i64 0, .int .i64 0, .bool false, .slice none 0 0, .slice none 0 0, .int .i64 0, .int .i64 0, .int .i64 0]) 13 136 Tryd.underlying37 hi hz0 hz1 hz2 rfl (by decide) _ i _ rfl HO4.out ⟨w4.heap.size, 0, none⟩ 1 1 (abCells y.1) rfl rfl (new_cells w4 _ _) (fun z hz => by simp only [abCells, List.mem_cons, List.not_mem_nil, or_false] at hz; rcases hz with rfl | rfl | rfl | rfl | rfl | rfl | rfl | rfl | rfl | rfl | rfl | rfl | rfl <;> rfl) (by unfold maxLen; omega) (by omega) (by simp; omega) ?_; intro sv5 w5 hown5 hgr5 hnil5; clear hnil5))
          have HG5 := Lib.hid (grown_own HG4.out HO4.out hgr5)
          have HR5 := Lib.hid (rd_own HR4.out HO4.out hgr5 hrb)
          have HM5 := Lib.hid (show ∀ z ∈ M ++ [y], vA.C z ∧ Kd vA.S rb (vA.R z) w5 from fun z hz => ⟨(HM4.out z hz).1, kd_own (HM4.out z hz).2 HO4.out hgr5 rfl⟩)
          have HO5 := Lib.hid (show w5.ownsRow w.heap.size 45 13 sv5 (i + 1) (abRow (M ++ [y])) by rw [abRow_snoc]; exact hown5)
          have HPm := Lib.hid (show Part pAb n t (i + 1) ((M ++ [y]).map vA.g) t4 by
            rw [List.map_append, List.map_singleton, show vA.g y = x from HGy.out]; exact HPn.out)
          clear hown5 hgr5
          go_wp2_with fail
          go_roundw
          case rel => exact ⟨i + 1, M ++ [y], t4, _, rfl, by go_num, by have := HL.out; simp; omega, by omega, HPm.out, HT4.out, HR5.out, HO5.out, HM5.out, HG5.out⟩
          case measure => simp [intOf]; omega
      · obtain rfl : i = n := by omega
        have HFin := Lib.hid (VL.of (V := vA) (rw := abRow) (rb := rb) (show wr.ownsRow w.heap.size 45 13 sv M.length (abRow M) by rw [HL.out]; exact HOw.out) hrb HM.out)
        have HPe := Lib.hid (HP.out.trans HPt.out.ends)
        go_wp2_with fail
        go_ret
        exact ⟨HGr.out, .inr ⟨_, _, HPe.out, HUs.out, sv, rfl, HRd.out, HFin.out⟩⟩
end Go.Proofs.YtbeaaieaffdgeaaDoor
end
/- The program's card. (Written by gen6r.py.) -/
section
namespace Go.Proofs.YtbeaaieaffdgeaaDoor
open Go.RowKit
set_option linter.unusedVariables false
set_option linter.unusedSimpArgs false
set_option maxRecDepth 100000

noncomputable def rcOps : Array Oper := ((Tryd.f20.body).bind (regionOps 1)).getD #[]
/-- What is left behind each reading. -/
def rcD : Nat → Option ByteArray → Option ByteArray
  | 0 => dropT pTxt
  | 1 => dropT pNum
  | 2 => dropT pMan
  | 3 => dropT pNum
  | 4 => dropT pNum
  | 5 => dropT pNum
  | 6 => dropT pNum
  | _ => dropT (pList 4 pAb)
def rcSt (s : ByteArray) : Nat → Option ByteArray
  | 0 => some s
  | j + 1 => rcD j (rcSt s j)
def rcVal (rb : Nat) (s : ByteArray) : Nat → Value → World → Prop
  | 0, v, w => v = rdV rb
  | 1, v, w => ∃ nm, takeT pTxt (rcSt s 0) = some nm ∧ asText rb nm v w
  | 2, v, w => v = rdV rb
  | 3, v, w => ∃ k, takeT pNum (rcSt s 1) = some k ∧ asInt rb k v w
  | 4, v, w => v = rdV rb
  | 5, v, w => ∃ c, takeT pMan (rcSt s 2) = some c ∧ asMan rb c v w
  | 6, v, w => v = rdV rb
  | 7, v, w => ∃ co, takeT pNum (rcSt s 3) = some co ∧ asInt rb co v w
  | 8, v, w => v = rdV rb
  | 9, v, w => ∃ p, takeT pNum (rcSt s 4) = some p ∧ asInt rb p v w
  | 10, v, w => v = rdV rb
  | 11, v, w => ∃ t, takeT pNum (rcSt s 5) = some t ∧ asInt rb t v w
  | 12, v, w => v = rdV rb
  | 13, v, w => ∃ ke, takeT pNum (rcSt s 6) = some ke ∧ asInt rb ke v w
  | 14, v, w => v = rdV rb
  | 15, v, w => v = rdV rb
  | 16, v, w => v = .func (.func 35) #[rdV rb] #[]
  | 17, v, w => ∃ A, takeT (pList 4 pAb) (rcSt s 7) = some A ∧ (VL vA 45 13 abRow) rb A v w
  | 18, v, w => ∃ nm k c co p t ke A, (takeT pTxt (rcSt s 0) = some nm ∧ takeT pNum (rcSt s 1) = some k ∧ takeT pMan (rcSt s 2) = some c ∧ takeT pNum (rcSt s 3) = some co ∧ takeT pNum (rcSt s 4) = some p ∧ takeT pNum (rcSt s 5) = some t ∧ takeT pNum (rcSt s 6) = some ke ∧ takeT (pList 4 pAb) (rcSt s 7) = some A) ∧ VV vC.g vC.val vC.C vC.S vC.R rb (mkCd nm k c co p t ke A) v w
  | _, _, _ => True
def rcI (rb bx xb : Nat) (w : World) : Prop := bx ≠ rb ∧ xb ≠ rb ∧ Bk w bx #[.pointer (some ⟨rb, 0, none⟩)] 60 ∧ Bk w xb #[.string ⟨#[]⟩, .int .i64 0, .int .i64 0, .int .i64 0, .int .i64 0, .int .i64 0, .int .i64 0, .int .i64 0, .int .i64 0, .int .i64 0, .slice none 0 0] 39
theorem rcKeep (rb bx xb : Nat) : ∀ w w' : World, rcI rb bx xb w → w.grownBy w' (some rb) → rcI rb bx xb w' := fun w w' h g => ⟨h.1, h.2.1, h.2.2.1.read g h.1, h.2.2.2.read g h.2.1⟩
theorem rcMono (rb : Nat) (s : ByteArray) : ∀ j v w w', rcVal rb s j v w → w.grownBy w' (some rb) → rcVal rb s j v w' := by
  intro j v w w' h g
  match j, h with
  | 0, h => exact h
  | 1, h => exact h
  | 2, h => exact h
  | 3, h => exact h
  | 4, h => exact h
  | 5, h => exact h
  | 6, h => exact h
  | 7, h => exact h
  | 8, h => exact h
  | 9, h => exact h
  | 10, h => exact h
  | 11, h => exact h
  | 12, h => exact h
  | 13, h => exact h
  | 14, h => exact h
  | 15, h => exact h
  | 16, h => exact h
  | 17, ⟨x, h1, M, a, c, h2, h3, h4, h5⟩ => exact ⟨x, h1, M, a, c, h2, h3, h4, h5.read g⟩
  | 18, ⟨_, _, _, _, _, _, _, _, h1, y, h2, h3, h4, h5⟩ => exact ⟨_, _, _, _, _, _, _, _, h1, y, h2, h3, h4, h5.read g⟩
  | k + 19, h => exact trivial
def rcBase (bx xb : Nat) : Nat → Option Value := fun s => if s = 1 then some (.pointer (some ⟨bx, 0, none⟩)) else if s = 2 then some (.pointer (some ⟨xb, 0, none⟩)) else none
section
variable {l : Array Bool} {a : Act} {w w0 : World} {Q : Exit → Act → World → Prop} {rb bx xb : Nat} {s : ByteArray}
theorem rcNone0 {u : ByteArray} (hu : rcSt s 0 = some u) (hn : pTxt u = none) : pCd s = none := by
    have e0 := hu
    obtain rfl : s = u := Option.some.inj hu
    unfold pCd
    rw [then_none hn]
theorem rcNone1 {u : ByteArray} (hu : rcSt s 1 = some u) (hn : pNum u = none) : pCd s = none := by
    have e1 := hu
    obtain ⟨u0, x0, e0, f0, t0⟩ := drop_some (f := pTxt) (o := rcSt s 0) (by exact e1)
    obtain rfl : s = u0 := Option.some.inj e0
    unfold pCd
    rw [then_of f0, then_none hn]
theorem rcNone2 {u : ByteArray} (hu : rcSt s 2 = some u) (hn : pMan u = none) : pCd s = none := by
    have e2 := hu
    obtain ⟨u1, x1, e1, f1, t1⟩ := drop_some (f := pNum) (o := rcSt s 1) (by exact e2)
    obtain ⟨u0, x0, e0, f0, t0⟩ := drop_some (f := pTxt) (o := rcSt s 0) (by exact e1)
    obtain rfl : s = u0 := Option.some.inj e0
    unfold pCd
    rw [then_of f0, then_of f1, then_none hn]
theorem rcNone3 {u : ByteArray} (hu : rcSt s 3 = some u) (hn : pNum u = none) : pCd s = none := by
    have e3 := hu
    obtain ⟨u2, x2, e2, f2, t2⟩ := drop_some (f := pMan) (o := rcSt s 2) (by exact e3)
    obtain ⟨u1, x1, e1, f1, t1⟩ := drop_some (f := pNum) (o := rcSt s 1) (by exact e2)
    obtain ⟨u0, x0, e0, f0, t0⟩ := drop_some (f := pTxt) (o := rcSt s 0) (by exact e1)
    obtain rfl : s = u0 := Option.some.inj e0
    unfold pCd
    rw [then_of f0, then_of f1, then_of f2, then_none hn]
theorem rcNone4 {u : ByteArray} (hu : rcSt s 4 = some u) (hn : pNum u = none) : pCd s = none := by
    have e4 := hu
    obtain ⟨u3, x3, e3, f3, t3⟩ := drop_some (f := pNum) (o := rcSt s 3) (by exact e4)
    obtain ⟨u2, x2, e2, f2, t2⟩ := drop_some (f := pMan) (o := rcSt s 2) (by exact e3)
    obtain ⟨u1, x1, e1, f1, t1⟩ := drop_some (f := pNum) (o := rcSt s 1) (by exact e2)
    obtain ⟨u0, x0, e0, f0, t0⟩ := drop_some (f := pTxt) (o := rcSt s 0) (by exact e1)
    obtain rfl : s = u0 := Option.some.inj e0
    unfold pCd
    rw [then_of f0, then_of f1, then_of f2, then_of f3, then_none hn]
theorem rcNone5 {u : ByteArray} (hu : rcSt s 5 = some u) (hn : pNum u = none) : pCd s = none := by
    have e5 := hu
    obtain ⟨u4, x4, e4, f4, t4⟩ := drop_some (f := pNum) (o := rcSt s 4) (by exact e5)
    obtain ⟨u3, x3, e3, f3, t3⟩ := drop_some (f := pNum) (o := rcSt s 3) (by exact e4)
    obtain ⟨u2, x2, e2, f2, t2⟩ := drop_some (f := pMan) (o := rcSt s 2) (by exact e3)
    obtain ⟨u1, x1, e1, f1, t1⟩ := drop_some (f := pNum) (o := rcSt s 1) (by exact e2)
    obtain ⟨u0, x0, e0, f0, t0⟩ := drop_some (f := pTxt) (o := rcSt s 0) (by exact e1)
    obtain rfl : s = u0 := Option.some.inj e0
    unfold pCd
    rw [then_of f0, then_of f1, then_of f2, then_of f3, then_of f4, then_none hn]
theorem rcNone6 {u : ByteArray} (hu : rcSt s 6 = some u) (hn : pNum u = none) : pCd s = none := by
    have e6 := hu
    obtain ⟨u5, x5, e5, f5, t5⟩ := drop_some (f := pNum) (o := rcSt s 5) (by exact e6)
    obtain ⟨u4, x4, e4, f4, t4⟩ := drop_some (f := pNum) (o := rcSt s 4) (by exact e5)
    obtain ⟨u3, x3, e3, f3, t3⟩ := drop_some (f := pNum) (o := rcSt s 3) (by exact e4)
    obtain ⟨u2, x2, e2, f2, t2⟩ := drop_some (f := pMan) (o := rcSt s 2) (by exact e3)
    obtain ⟨u1, x1, e1, f1, t1⟩ := drop_some (f := pNum) (o := rcSt s 1) (by exact e2)
    obtain ⟨u0, x0, e0, f0, t0⟩ := drop_some (f := pTxt) (o := rcSt s 0) (by exact e1)
    obtain rfl : s = u0 := Option.some.inj e0
    unfold pCd
    rw [then_of f0, then_of f1, then_of f2, then_of f3, then_of f4, then_of f5, then_none hn]
theorem rcNone7 {u : ByteArray} (hu : rcSt s 7 = some u) (hn : (pList 4 pAb) u = none) : pCd s = none := by
    have e7 := hu
    obtain ⟨u6, x6, e6, f6, t6⟩ := drop_some (f := pNum) (o := rcSt s 6) (by exact e7)
    obtain ⟨u5, x5, e5, f5, t5⟩ := drop_some (f := pNum) (o := rcSt s 5) (by exact e6)
    obtain ⟨u4, x4, e4, f4, t4⟩ := drop_some (f := pNum) (o := rcSt s 4) (by exact e5)
    obtain ⟨u3, x3, e3, f3, t3⟩ := drop_some (f := pNum) (o := rcSt s 3) (by exact e4)
    obtain ⟨u2, x2, e2, f2, t2⟩ := drop_some (f := pMan) (o := rcSt s 2) (by exact e3)
    obtain ⟨u1, x1, e1, f1, t1⟩ := drop_some (f := pNum) (o := rcSt s 1) (by exact e2)
    obtain ⟨u0, x0, e0, f0, t0⟩ := drop_some (f := pTxt) (o := rcSt s 0) (by exact e1)
    obtain rfl : s = u0 := Option.some.inj e0
    unfold pCd
    rw [then_of f0, then_of f1, then_of f2, then_of f3, then_of f4, then_of f5, then_of f6, then_none hn]
theorem rcAll {u : ByteArray} {nm : ByteArray} {k : Int} {c : Mn} {co : Int} {p : Int} {t : Int} {ke : Int} {A : List AbT} (hu : rcSt s 8 = some u) (ht : takeT pTxt (rcSt s 0) = some nm ∧ takeT pNum (rcSt s 1) = some k ∧ takeT pMan (rcSt s 2) = some c ∧ takeT pNum (rcSt s 3) = some co ∧ takeT pNum (rcSt s 4) = some p ∧ takeT pNum (rcSt s 5) = some t ∧ takeT pNum (rcSt s 6) = some ke ∧ takeT (pList 4 pAb) (rcSt s 7) = some A) : pCd s = some ((mkCd nm k c co p t ke A), u) := by
    have e8 := hu
    obtain ⟨u7, x7, e7, f7, t7⟩ := drop_some (f := (pList 4 pAb)) (o := rcSt s 7) (by exact e8)
    obtain ⟨u6, x6, e6, f6, t6⟩ := drop_some (f := pNum) (o := rcSt s 6) (by exact e7)
    obtain ⟨u5, x5, e5, f5, t5⟩ := drop_some (f := pNum) (o := rcSt s 5) (by exact e6)
    obtain ⟨u4, x4, e4, f4, t4⟩ := drop_some (f := pNum) (o := rcSt s 4) (by exact e5)
    obtain ⟨u3, x3, e3, f3, t3⟩ := drop_some (f := pNum) (o := rcSt s 3) (by exact e4)
    obtain ⟨u2, x2, e2, f2, t2⟩ := drop_some (f := pMan) (o := rcSt s 2) (by exact e3)
    obtain ⟨u1, x1, e1, f1, t1⟩ := drop_some (f := pNum) (o := rcSt s 1) (by exact e2)
    obtain ⟨u0, x0, e0, f0, t0⟩ := drop_some (f := pTxt) (o := rcSt s 0) (by exact e1)
    obtain rfl : s = u0 := Option.some.inj e0
    obtain ⟨g0, g1, g2, g3, g4, g5, g6, g7⟩ := ht
    obtain rfl : x0 = nm := Option.some.inj (t0.symm.trans g0)
    obtain rfl : x1 = k := Option.some.inj (t1.symm.trans g1)
    obtain rfl : x2 = c := Option.some.inj (t2.symm.trans g2)
    obtain rfl : x3 = co := Option.some.inj (t3.symm.trans g3)
    obtain rfl : x4 = p := Option.some.inj (t4.symm.trans g4)
    obtain rfl : x5 = t := Option.some.inj (t5.symm.trans g5)
    obtain rfl : x6 = ke := Option.some.inj (t6.symm.trans g6)
    obtain rfl : x7 = A := Option.some.inj (t7.symm.trans g7)
    unfold pCd
    rw [then_of f0, then_of f1, then_of f2, then_of f3, then_of f4, then_of f5, then_of f6, then_of f7]
    rfl
theorem rcOp0 (hs : s.size ≤ 70368744177664) (hQ : ∀ (a : Act) (w' : World), a.defers = [] → w0.grownBy w' (some rb) → pCd s = none → Q (.panic [{ v := .iface 25 (.int .i64 4), recovered := false }]) a w') (h : AtC rcOps 22 [1, 3, 5, 7, 9, 11, 13, 17] (rcBase bx xb) (rcVal rb s) (RH w0 rb s (rcSt s) (rcI rb bx xb)) l a w) (hn : l.getD 0 true = false) (hd : ∀ o : Oper, rcOps[0]? = some o → ∀ e ∈ o.after.toList, Region.binds .any e = true → l.getD e.on false = true) : wpOp Tryd.prog rcOps Q 0 (AtC rcOps 22 [1, 3, 5, 7, 9, 11, 13, 17] (rcBase bx xb) (rcVal rb s) (RH w0 rb s (rcSt s) (rcI rb bx xb)) (l.setIfInBounds 0 true)) a w := by
  have hown : ownAt rcOps 22 (rcBase bx xb) 0 3 := ownAt_of (by kernel_rfl) rfl
  obtain ⟨o, ho⟩ : ∃ o, rcOps[0]? = some o := Option.isSome_iff_exists.1 (by kernel_rfl)
  have hop : o.op = Op.load 60 (Operand.tmp 1) := op_of ho (by kernel_rfl)
  have hg : o.guard = none := guard_of ho (by kernel_rfl)
  have v1 : a.eval (.tmp 1) = .pointer (some ⟨bx, 0, none⟩) := h.fixed 1 _ rfl
  have c := h.own.2.2.1.cell 0
  simp at c
  exact h.pure ho hown rfl hg (v := rdV rb) (by simp only [execOp, hop, v1]; first | go_simp | simp [go_sem, c]) rfl
theorem rcOp1 (hs : s.size ≤ 70368744177664) (hQ : ∀ (a : Act) (w' : World), a.defers = [] → w0.grownBy w' (some rb) → pCd s = none → Q (.panic [{ v := .iface 25 (.int .i64 4), recovered := false }]) a w') (h : AtC rcOps 22 [1, 3, 5, 7, 9, 11, 13, 17] (rcBase bx xb) (rcVal rb s) (RH w0 rb s (rcSt s) (rcI rb bx xb)) l a w) (hn : l.getD 1 true = false) (hd : ∀ o : Oper, rcOps[1]? = some o → ∀ e ∈ o.after.toList, Region.binds .any e = true → l.getD e.on false = true) : wpOp Tryd.prog rcOps Q 1 (AtC rcOps 22 [1, 3, 5, 7, 9, 11, 13, 17] (rcBase bx xb) (rcVal rb s) (RH w0 rb s (rcSt s) (rcI rb bx xb)) (l.setIfInBounds 1 true)) a w := by
  have hown : ownAt rcOps 22 (rcBase bx xb) 1 4 := ownAt_of (by kernel_rfl) rfl
  obtain ⟨o, ho⟩ : ∃ o, rcOps[1]? = some o := Option.isSome_iff_exists.1 (by kernel_rfl)
  have hop : o.op = Op.call { callee := Callee.value (Operand.func 31), args := #[Operand.tmp 3], argTypes := #[60] } := op_of ho (by kernel_rfl)
  have hg : o.guard = none := guard_of ho (by kernel_rfl)
  have v3 : a.eval (.tmp 3) = rdV rb := h.done 0 3 (dep hd 0 (by kernel_rfl)) (by kernel_rfl)
  refine h.reads (k := 0) (f := pTxt) (q := 31) (args := fun rb => #[rdV rb]) (V := asText) ho hown (by decide) rfl (by decide) (fun j hj => ?_) hn hg ?_ text1_any rfl hs (fun v w' hv => hv) (rcMono rb s) (rcKeep rb bx xb) (fun u w' hu hf g => hQ a w' h.defers g (rcNone0 hu hf))
  · omega
  · rw [exec_call (enters_of Tryd.func31 (by kernel_rfl) rfl) hop]
    simp only [List.map_toArray, List.map_cons, List.map_nil, v3]
    try rfl
theorem rcOp2 (hs : s.size ≤ 70368744177664) (hQ : ∀ (a : Act) (w' : World), a.defers = [] → w0.grownBy w' (some rb) → pCd s = none → Q (.panic [{ v := .iface 25 (.int .i64 4), recovered := false }]) a w') (h : AtC rcOps 22 [1, 3, 5, 7, 9, 11, 13, 17] (rcBase bx xb) (rcVal rb s) (RH w0 rb s (rcSt s) (rcI rb bx xb)) l a w) (hn : l.getD 2 true = false) (hd : ∀ o : Oper, rcOps[2]? = some o → ∀ e ∈ o.after.toList, Region.binds .any e = true → l.getD e.on false = true) : wpOp Tryd.prog rcOps Q 2 (AtC rcOps 22 [1, 3, 5, 7, 9, 11, 13, 17] (rcBase bx xb) (rcVal rb s) (RH w0 rb s (rcSt s) (rcI rb bx xb)) (l.setIfInBounds 2 true)) a w := by
  have hown : ownAt rcOps 22 (rcBase bx xb) 2 5 := ownAt_of (by kernel_rfl) rfl
  obtain ⟨o, ho⟩ : ∃ o, rcOps[2]? = some o := Option.isSome_iff_exists.1 (by kernel_rfl)
  have hop : o.op = Op.load 60 (Operand.tmp 1) := op_of ho (by kernel_rfl)
  have hg : o.guard = none := guard_of ho (by kernel_rfl)
  have v1 : a.eval (.tmp 1) = .pointer (some ⟨bx, 0, none⟩) := h.fixed 1 _ rfl
  have c := h.own.2.2.1.cell 0
  simp at c
  exact h.pure ho hown rfl hg (v := rdV rb) (by simp only [execOp, hop, v1]; first | go_simp | simp [go_sem, c]) rfl
theorem rcOp3 (hs : s.size ≤ 70368744177664) (hQ : ∀ (a : Act) (w' : World), a.defers = [] → w0.grownBy w' (some rb) → pCd s = none → Q (.panic [{ v := .iface 25 (.int .i64 4), recovered := false }]) a w') (h : AtC rcOps 22 [1, 3, 5, 7, 9, 11, 13, 17] (rcBase bx xb) (rcVal rb s) (RH w0 rb s (rcSt s) (rcI rb bx xb)) l a w) (hn : l.getD 3 true = false) (hd : ∀ o : Oper, rcOps[3]? = some o → ∀ e ∈ o.after.toList, Region.binds .any e = true → l.getD e.on false = true) : wpOp Tryd.prog rcOps Q 3 (AtC rcOps 22 [1, 3, 5, 7, 9, 11, 13, 17] (rcBase bx xb) (rcVal rb s) (RH w0 rb s (rcSt s) (rcI rb bx xb)) (l.setIfInBounds 3 true)) a w := by
  have hown : ownAt rcOps 22 (rcBase bx xb) 3 6 := ownAt_of (by kernel_rfl) rfl
  obtain ⟨o, ho⟩ : ∃ o, rcOps[3]? = some o := Option.isSome_iff_exists.1 (by kernel_rfl)
  have hop : o.op = Op.call { callee := Callee.value (Operand.func 32), args := #[Operand.tmp 5], argTypes := #[60] } := op_of ho (by kernel_rfl)
  have hg : o.guard = none := guard_of ho (by kernel_rfl)
  have v5 : a.eval (.tmp 5) = rdV rb := h.done 2 5 (dep hd 2 (by kernel_rfl)) (by kernel_rfl)
  refine h.reads (k := 1) (f := pNum) (q := 32) (args := fun rb => #[rdV rb]) (V := asInt) ho hown (by decide) rfl (by decide) (fun j hj => ?_) hn hg ?_ num1_any rfl hs (fun v w' hv => hv) (rcMono rb s) (rcKeep rb bx xb) (fun u w' hu hf g => hQ a w' h.defers g (rcNone1 hu hf))
  · obtain rfl : j = 0 := by omega
    exact dep hd 1 (by kernel_rfl)
  · rw [exec_call (enters_of Tryd.func32 (by kernel_rfl) rfl) hop]
    simp only [List.map_toArray, List.map_cons, List.map_nil, v5]
    try rfl
theorem rcOp4 (hs : s.size ≤ 70368744177664) (hQ : ∀ (a : Act) (w' : World), a.defers = [] → w0.grownBy w' (some rb) → pCd s = none → Q (.panic [{ v := .iface 25 (.int .i64 4), recovered := false }]) a w') (h : AtC rcOps 22 [1, 3, 5, 7, 9, 11, 13, 17] (rcBase bx xb) (rcVal rb s) (RH w0 rb s (rcSt s) (rcI rb bx xb)) l a w) (hn : l.getD 4 true = false) (hd : ∀ o : Oper, rcOps[4]? = some o → ∀ e ∈ o.after.toList, Region.binds .any e = true → l.getD e.on false = true) : wpOp Tryd.prog rcOps Q 4 (AtC rcOps 22 [1, 3, 5, 7, 9, 11, 13, 17] (rcBase bx xb) (rcVal rb s) (RH w0 rb s (rcSt s) (rcI rb bx xb)) (l.setIfInBounds 4 true)) a w := by
  have hown : ownAt rcOps 22 (rcBase bx xb) 4 7 := ownAt_of (by kernel_rfl) rfl
  obtain ⟨o, ho⟩ : ∃ o, rcOps[4]? = some o := Option.isSome_iff_exists.1 (by kernel_rfl)
  have hop : o.op = Op.load 60 (Operand.tmp 1) := op_of ho (by kernel_rfl)
  have hg : o.guard = none := guard_of ho (by kernel_rfl)
  have v1 : a.eval (.tmp 1) = .pointer (some ⟨bx, 0, none⟩) := h.fixed 1 _ rfl
  have c := h.own.2.2.1.cell 0
  simp at c
  exact h.pure ho hown rfl hg (v := rdV rb) (by simp only [execOp, hop, v1]; first | go_simp | simp [go_sem, c]) rfl
theorem rcOp5 (hs : s.size ≤ 70368744177664) (hQ : ∀ (a : Act) (w' : World), a.defers = [] → w0.grownBy w' (some rb) → pCd s = none → Q (.panic [{ v := .iface 25 (.int .i64 4), recovered := false }]) a w') (h : AtC rcOps 22 [1, 3, 5, 7, 9, 11, 13, 17] (rcBase bx xb) (rcVal rb s) (RH w0 rb s (rcSt s) (rcI rb bx xb)) l a w) (hn : l.getD 5 true = false) (hd : ∀ o : Oper, rcOps[5]? = some o → ∀ e ∈ o.after.toList, Region.binds .any e = true → l.getD e.on false = true) : wpOp Tryd.prog rcOps Q 5 (AtC rcOps 22 [1, 3, 5, 7, 9, 11, 13, 17] (rcBase bx xb) (rcVal rb s) (RH w0 rb s (rcSt s) (rcI rb bx xb)) (l.setIfInBounds 5 true)) a w := by
  have hown : ownAt rcOps 22 (rcBase bx xb) 5 8 := ownAt_of (by kernel_rfl) rfl
  obtain ⟨o, ho⟩ : ∃ o, rcOps[5]? = some o := Option.isSome_iff_exists.1 (by kernel_rfl)
  have hop : o.op = Op.call { callee := Callee.value (Operand.func 33), args := #[Operand.tmp 7], argTypes := #[60] } := op_of ho (by kernel_rfl)
  have hg : o.guard = none := guard_of ho (by kernel_rfl)
  have v7 : a.eval (.tmp 7) = rdV rb := h.done 4 7 (dep hd 4 (by kernel_rfl)) (by kernel_rfl)
  refine h.reads (k := 2) (f := pMan) (q := 33) (args := fun rb => #[rdV rb]) (V := asMan) ho hown (by decide) rfl (by decide) (fun j hj => ?_) hn hg ?_ mana1_any rfl hs (fun v w' hv => hv) (rcMono rb s) (rcKeep rb bx xb) (fun u w' hu hf g => hQ a w' h.defers g (rcNone2 hu hf))
  · obtain rfl : j = 1 := by omega
    exact dep hd 3 (by kernel_rfl)
  · rw [exec_call (enters_of Tryd.func33 (by kernel_rfl) rfl) hop]
    simp only [List.map_toArray, List.map_cons, List.map_nil, v7]
    try rfl
theorem rcOp6 (hs : s.size ≤ 70368744177664) (hQ : ∀ (a : Act) (w' : World), a.defers = [] → w0.grownBy w' (some rb) → pCd s = none → Q (.panic [{ v := .iface 25 (.int .i64 4), recovered := false }]) a w') (h : AtC rcOps 22 [1, 3, 5, 7, 9, 11, 13, 17] (rcBase bx xb) (rcVal rb s) (RH w0 rb s (rcSt s) (rcI rb bx xb)) l a w) (hn : l.getD 6 true = false) (hd : ∀ o : Oper, rcOps[6]? = some o → ∀ e ∈ o.after.toList, Region.binds .any e = true → l.getD e.on false = true) : wpOp Tryd.prog rcOps Q 6 (AtC rcOps 22 [1, 3, 5, 7, 9, 11, 13, 17] (rcBase bx xb) (rcVal rb s) (RH w0 rb s (rcSt s) (rcI rb bx xb)) (l.setIfInBounds 6 true)) a w := by
  have hown : ownAt rcOps 22 (rcBase bx xb) 6 9 := ownAt_of (by kernel_rfl) rfl
  obtain ⟨o, ho⟩ : ∃ o, rcOps[6]? = some o := Option.isSome_iff_exists.1 (by kernel_rfl)
  have hop : o.op = Op.load 60 (Operand.tmp 1) := op_of ho (by kernel_rfl)
  have hg : o.guard = none := guard_of ho (by kernel_rfl)
  have v1 : a.eval (.tmp 1) = .pointer (some ⟨bx, 0, none⟩) := h.fixed 1 _ rfl
  have c := h.own.2.2.1.cell 0
  simp at c
  exact h.pure ho hown rfl hg (v := rdV rb) (by simp only [execOp, hop, v1]; first | go_simp | simp [go_sem, c]) rfl
theorem rcOp7 (hs : s.size ≤ 70368744177664) (hQ : ∀ (a : Act) (w' : World), a.defers = [] → w0.grownBy w' (some rb) → pCd s = none → Q (.panic [{ v := .iface 25 (.int .i64 4), recovered := false }]) a w') (h : AtC rcOps 22 [1, 3, 5, 7, 9, 11, 13, 17] (rcBase bx xb) (rcVal rb s) (RH w0 rb s (rcSt s) (rcI rb bx xb)) l a w) (hn : l.getD 7 true = false) (hd : ∀ o : Oper, rcOps[7]? = some o → ∀ e ∈ o.after.toList, Region.binds .any e = true → l.getD e.on false = true) : wpOp Tryd.prog rcOps Q 7 (AtC rcOps 22 [1, 3, 5, 7, 9, 11, 13, 17] (rcBase bx xb) (rcVal rb s) (RH w0 rb s (rcSt s) (rcI rb bx xb)) (l.setIfInBounds 7 true)) a w := by
  have hown : ownAt rcOps 22 (rcBase bx xb) 7 10 := ownAt_of (by kernel_rfl) rfl
  obtain ⟨o, ho⟩ : ∃ o, rcOps[7]? = some o := Option.isSome_iff_exists.1 (by kernel_rfl)
  have hop : o.op = Op.call { callee := Callee.value (Operand.func 32), args := #[Operand.tmp 9], argTypes := #[60] } := op_of ho (by kernel_rfl)
  have hg : o.guard = none := guard_of ho (by kernel_rfl)
  have v9 : a.eval (.tmp 9) = rdV rb := h.done 6 9 (dep hd 6 (by kernel_rfl)) (by kernel_rfl)
  refine h.reads (k := 3) (f := pNum) (q := 32) (args := fun rb => #[rdV rb]) (V := asInt) ho hown (by decide) rfl (by decide) (fun j hj => ?_) hn hg ?_ num1_any rfl hs (fun v w' hv => hv) (rcMono rb s) (rcKeep rb bx xb) (fun u w' hu hf g => hQ a w' h.defers g (rcNone3 hu hf))
  · obtain rfl : j = 2 := by omega
    exact dep hd 5 (by kernel_rfl)
  · rw [exec_call (enters_of Tryd.func32 (by kernel_rfl) rfl) hop]
    simp only [List.map_toArray, List.map_cons, List.map_nil, v9]
    try rfl
theorem rcOp8 (hs : s.size ≤ 70368744177664) (hQ : ∀ (a : Act) (w' : World), a.defers = [] → w0.grownBy w' (some rb) → pCd s = none → Q (.panic [{ v := .iface 25 (.int .i64 4), recovered := false }]) a w') (h : AtC rcOps 22 [1, 3, 5, 7, 9, 11, 13, 17] (rcBase bx xb) (rcVal rb s) (RH w0 rb s (rcSt s) (rcI rb bx xb)) l a w) (hn : l.getD 8 true = false) (hd : ∀ o : Oper, rcOps[8]? = some o → ∀ e ∈ o.after.toList, Region.binds .any e = true → l.getD e.on false = true) : wpOp Tryd.prog rcOps Q 8 (AtC rcOps 22 [1, 3, 5, 7, 9, 11, 13, 17] (rcBase bx xb) (rcVal rb s) (RH w0 rb s (rcSt s) (rcI rb bx xb)) (l.setIfInBounds 8 true)) a w := by
  have hown : ownAt rcOps 22 (rcBase bx xb) 8 11 := ownAt_of (by kernel_rfl) rfl
  obtain ⟨o, ho⟩ : ∃ o, rcOps[8]? = some o := Option.isSome_iff_exists.1 (by kernel_rfl)
  have hop : o.op = Op.load 60 (Operand.tmp 1) := op_of ho (by kernel_rfl)
  have hg : o.guard = none := guard_of ho (by kernel_rfl)
  have v1 : a.eval (.tmp 1) = .pointer (some ⟨bx, 0, none⟩) := h.fixed 1 _ rfl
  have c := h.own.2.2.1.cell 0
  simp at c
  exact h.pure ho hown rfl hg (v := rdV rb) (by simp only [execOp, hop, v1]; first | go_simp | simp [go_sem, c]) rfl
theorem rcOp9 (hs : s.size ≤ 70368744177664) (hQ : ∀ (a : Act) (w' : World), a.defers = [] → w0.grownBy w' (some rb) → pCd s = none → Q (.panic [{ v := .iface 25 (.int .i64 4), recovered := false }]) a w') (h : AtC rcOps 22 [1, 3, 5, 7, 9, 11, 13, 17] (rcBase bx xb) (rcVal rb s) (RH w0 rb s (rcSt s) (rcI rb bx xb)) l a w) (hn : l.getD 9 true = false) (hd : ∀ o : Oper, rcOps[9]? = some o → ∀ e ∈ o.after.toList, Region.binds .any e = true → l.getD e.on false = true) : wpOp Tryd.prog rcOps Q 9 (AtC rcOps 22 [1, 3, 5, 7, 9, 11, 13, 17] (rcBase bx xb) (rcVal rb s) (RH w0 rb s (rcSt s) (rcI rb bx xb)) (l.setIfInBounds 9 true)) a w := by
  have hown : ownAt rcOps 22 (rcBase bx xb) 9 12 := ownAt_of (by kernel_rfl) rfl
  obtain ⟨o, ho⟩ : ∃ o, rcOps[9]? = some o := Option.isSome_iff_exists.1 (by kernel_rfl)
  have hop : o.op = Op.call { callee := Callee.value (Operand.func 32), args := #[Operand.tmp 11], argTypes := #[60] } := op_of ho (by kernel_rfl)
  have hg : o.guard = none := guard_of ho (by kernel_rfl)
  have v11 : a.eval (.tmp 11) = rdV rb := h.done 8 11 (dep hd 8 (by kernel_rfl)) (by kernel_rfl)
  refine h.reads (k := 4) (f := pNum) (q := 32) (args := fun rb => #[rdV rb]) (V := asInt) ho hown (by decide) rfl (by decide) (fun j hj => ?_) hn hg ?_ num1_any rfl hs (fun v w' hv => hv) (rcMono rb s) (rcKeep rb bx xb) (fun u w' hu hf g => hQ a w' h.defers g (rcNone4 hu hf))
  · obtain rfl : j = 3 := by omega
    exact dep hd 7 (by kernel_rfl)
  · rw [exec_call (enters_of Tryd.func32 (by kernel_rfl) rfl) hop]
    simp only [List.map_toArray, List.map_cons, List.map_nil, v11]
    try rfl
theorem rcOp10 (hs : s.size ≤ 70368744177664) (hQ : ∀ (a : Act) (w' : World), a.defers = [] → w0.grownBy w' (some rb) → pCd s = none → Q (.panic [{ v := .iface 25 (.int .i64 4), recovered := false }]) a w') (h : AtC rcOps 22 [1, 3, 5, 7, 9, 11, 13, 17] (rcBase bx xb) (rcVal rb s) (RH w0 rb s (rcSt s) (rcI rb bx xb)) l a w) (hn : l.getD 10 true = false) (hd : ∀ o : Oper, rcOps[10]? = some o → ∀ e ∈ o.after.toList, Region.binds .any e = true → l.getD e.on false = true) : wpOp Tryd.prog rcOps Q 10 (AtC rcOps 22 [1, 3, 5, 7, 9, 11, 13, 17] (rcBase bx xb) (rcVal rb s) (RH w0 rb s (rcSt s) (rcI rb bx xb)) (l.setIfInBounds 10 true)) a w := by
  have hown : ownAt rcOps 22 (rcBase bx xb) 10 13 := ownAt_of (by kernel_rfl) rfl
  obtain ⟨o, ho⟩ : ∃ o, rcOps[10]? = some o := Option.isSome_iff_exists.1 (by kernel_rfl)
  have hop : o.op = Op.load 60 (Operand.tmp 1) := op_of ho (by kernel_rfl)
  have hg : o.guard = none := guard_of ho (by kernel_rfl)
  have v1 : a.eval (.tmp 1) = .pointer (some ⟨bx, 0, none⟩) := h.fixed 1 _ rfl
  have c := h.own.2.2.1.cell 0
  simp at c
  exact h.pure ho hown rfl hg (v := rdV rb) (by simp only [execOp, hop, v1]; first | go_simp | simp [go_sem, c]) rfl
theorem rcOp11 (hs : s.size ≤ 70368744177664) (hQ : ∀ (a : Act) (w' : World), a.defers = [] → w0.grownBy w' (some rb) → pCd s = none → Q (.panic [{ v := .iface 25 (.int .i64 4), recovered := false }]) a w') (h : AtC rcOps 22 [1, 3, 5, 7, 9, 11, 13, 17] (rcBase bx xb) (rcVal rb s) (RH w0 rb s (rcSt s) (rcI rb bx xb)) l a w) (hn : l.getD 11 true = false) (hd : ∀ o : Oper, rcOps[11]? = some o → ∀ e ∈ o.after.toList, Region.binds .any e = true → l.getD e.on false = true) : wpOp Tryd.prog rcOps Q 11 (AtC rcOps 22 [1, 3, 5, 7, 9, 11, 13, 17] (rcBase bx xb) (rcVal rb s) (RH w0 rb s (rcSt s) (rcI rb bx xb)) (l.setIfInBounds 11 true)) a w := by
  have hown : ownAt rcOps 22 (rcBase bx xb) 11 14 := ownAt_of (by kernel_rfl) rfl
  obtain ⟨o, ho⟩ : ∃ o, rcOps[11]? = some o := Option.isSome_iff_exists.1 (by kernel_rfl)
  have hop : o.op = Op.call { callee := Callee.value (Operand.func 32), args := #[Operand.tmp 13], argTypes := #[60] } := op_of ho (by kernel_rfl)
  have hg : o.guard = none := guard_of ho (by kernel_rfl)
  have v13 : a.eval (.tmp 13) = rdV rb := h.done 10 13 (dep hd 10 (by kernel_rfl)) (by kernel_rfl)
  refine h.reads (k := 5) (f := pNum) (q := 32) (args := fun rb => #[rdV rb]) (V := asInt) ho hown (by decide) rfl (by decide) (fun j hj => ?_) hn hg ?_ num1_any rfl hs (fun v w' hv => hv) (rcMono rb s) (rcKeep rb bx xb) (fun u w' hu hf g => hQ a w' h.defers g (rcNone5 hu hf))
  · obtain rfl : j = 4 := by omega
    exact dep hd 9 (by kernel_rfl)
  · rw [exec_call (enters_of Tryd.func32 (by kernel_rfl) rfl) hop]
    simp only [List.map_toArray, List.map_cons, List.map_nil, v13]
    try rfl
theorem rcOp12 (hs : s.size ≤ 70368744177664) (hQ : ∀ (a : Act) (w' : World), a.defers = [] → w0.grownBy w' (some rb) → pCd s = none → Q (.panic [{ v := .iface 25 (.int .i64 4), recovered := false }]) a w') (h : AtC rcOps 22 [1, 3, 5, 7, 9, 11, 13, 17] (rcBase bx xb) (rcVal rb s) (RH w0 rb s (rcSt s) (rcI rb bx xb)) l a w) (hn : l.getD 12 true = false) (hd : ∀ o : Oper, rcOps[12]? = some o → ∀ e ∈ o.after.toList, Region.binds .any e = true → l.getD e.on false = true) : wpOp Tryd.prog rcOps Q 12 (AtC rcOps 22 [1, 3, 5, 7, 9, 11, 13, 17] (rcBase bx xb) (rcVal rb s) (RH w0 rb s (rcSt s) (rcI rb bx xb)) (l.setIfInBounds 12 true)) a w := by
  have hown : ownAt rcOps 22 (rcBase bx xb) 12 15 := ownAt_of (by kernel_rfl) rfl
  obtain ⟨o, ho⟩ : ∃ o, rcOps[12]? = some o := Option.isSome_iff_exists.1 (by kernel_rfl)
  have hop : o.op = Op.load 60 (Operand.tmp 1) := op_of ho (by kernel_rfl)
  have hg : o.guard = none := guard_of ho (by kernel_rfl)
  have v1 : a.eval (.tmp 1) = .pointer (some ⟨bx, 0, none⟩) := h.fixed 1 _ rfl
  have c := h.own.2.2.1.cell 0
  simp at c
  exact h.pure ho hown rfl hg (v := rdV rb) (by simp only [execOp, hop, v1]; first | go_simp | simp [go_sem, c]) rfl
theorem rcOp13 (hs : s.size ≤ 70368744177664) (hQ : ∀ (a : Act) (w' : World), a.defers = [] → w0.grownBy w' (some rb) → pCd s = none → Q (.panic [{ v := .iface 25 (.int .i64 4), recovered := false }]) a w') (h : AtC rcOps 22 [1, 3, 5, 7, 9, 11, 13, 17] (rcBase bx xb) (rcVal rb s) (RH w0 rb s (rcSt s) (rcI rb bx xb)) l a w) (hn : l.getD 13 true = false) (hd : ∀ o : Oper, rcOps[13]? = some o → ∀ e ∈ o.after.toList, Region.binds .any e = true → l.getD e.on false = true) : wpOp Tryd.prog rcOps Q 13 (AtC rcOps 22 [1, 3, 5, 7, 9, 11, 13, 17] (rcBase bx xb) (rcVal rb s) (RH w0 rb s (rcSt s) (rcI rb bx xb)) (l.setIfInBounds 13 true)) a w := by
  have hown : ownAt rcOps 22 (rcBase bx xb) 13 16 := ownAt_of (by kernel_rfl) rfl
  obtain ⟨o, ho⟩ : ∃ o, rcOps[13]? = some o := Option.isSome_iff_exists.1 (by kernel_rfl)
  have hop : o.op = Op.call { callee := Callee.value (Operand.func 32), args := #[Operand.tmp 15], argTypes := #[60] } := op_of ho (by kernel_rfl)
  have hg : o.guard = none := guard_of ho (by kernel_rfl)
  have v15 : a.eval (.tmp 15) = rdV rb := h.done 12 15 (dep hd 12 (by kernel_rfl)) (by kernel_rfl)
  refine h.reads (k := 6) (f := pNum) (q := 32) (args := fun rb => #[rdV rb]) (V := asInt) ho hown (by decide) rfl (by decide) (fun j hj => ?_) hn hg ?_ num1_any rfl hs (fun v w' hv => hv) (rcMono rb s) (rcKeep rb bx xb) (fun u w' hu hf g => hQ a w' h.defers g (rcNone6 hu hf))
  · obtain rfl : j = 5 := by omega
    exact dep hd 11 (by kernel_rfl)
  · rw [exec_call (enters_of Tryd.func32 (by kernel_rfl) rfl) hop]
    simp only [List.map_toArray, List.map_cons, List.map_nil, v15]
    try rfl
theorem rcOp14 (hs : s.size ≤ 70368744177664) (hQ : ∀ (a : Act) (w' : World), a.defers = [] → w0.grownBy w' (some rb) → pCd s = none → Q (.panic [{ v := .iface 25 (.int .i64 4), recovered := false }]) a w') (h : AtC rcOps 22 [1, 3, 5, 7, 9, 11, 13, 17] (rcBase bx xb) (rcVal rb s) (RH w0 rb s (rcSt s) (rcI rb bx xb)) l a w) (hn : l.getD 14 true = false) (hd : ∀ o : Oper, rcOps[14]? = some o → ∀ e ∈ o.after.toList, Region.binds .any e = true → l.getD e.on false = true) : wpOp Tryd.prog rcOps Q 14 (AtC rcOps 22 [1, 3, 5, 7, 9, 11, 13, 17] (rcBase bx xb) (rcVal rb s) (RH w0 rb s (rcSt s) (rcI rb bx xb)) (l.setIfInBounds 14 true)) a w := by
  have hown : ownAt rcOps 22 (rcBase bx xb) 14 17 := ownAt_of (by kernel_rfl) rfl
  obtain ⟨o, ho⟩ : ∃ o, rcOps[14]? = some o := Option.isSome_iff_exists.1 (by kernel_rfl)
  have hop : o.op = Op.load 60 (Operand.tmp 1) := op_of ho (by kernel_rfl)
  have hg : o.guard = none := guard_of ho (by kernel_rfl)
  have v1 : a.eval (.tmp 1) = .pointer (some ⟨bx, 0, none⟩) := h.fixed 1 _ rfl
  have c := h.own.2.2.1.cell 0
  simp at c
  exact h.pure ho hown rfl hg (v := rdV rb) (by simp only [execOp, hop, v1]; first | go_simp | simp [go_sem, c]) rfl
theorem rcOp15 (hs : s.size ≤ 70368744177664) (hQ : ∀ (a : Act) (w' : World), a.defers = [] → w0.grownBy w' (some rb) → pCd s = none → Q (.panic [{ v := .iface 25 (.int .i64 4), recovered := false }]) a w') (h : AtC rcOps 22 [1, 3, 5, 7, 9, 11, 13, 17] (rcBase bx xb) (rcVal rb s) (RH w0 rb s (rcSt s) (rcI rb bx xb)) l a w) (hn : l.getD 15 true = false) (hd : ∀ o : Oper, rcOps[15]? = some o → ∀ e ∈ o.after.toList, Region.binds .any e = true → l.getD e.on false = true) : wpOp Tryd.prog rcOps Q 15 (AtC rcOps 22 [1, 3, 5, 7, 9, 11, 13, 17] (rcBase bx xb) (rcVal rb s) (RH w0 rb s (rcSt s) (rcI rb bx xb)) (l.setIfInBounds 15 true)) a w := by
  have hown : ownAt rcOps 22 (rcBase bx xb) 15 18 := ownAt_of (by kernel_rfl) rfl
  obtain ⟨o, ho⟩ : ∃ o, rcOps[15]? = some o := Option.isSome_iff_exists.1 (by kernel_rfl)
  have hop : o.op = Op.load 60 (Operand.tmp 1) := op_of ho (by kernel_rfl)
  have hg : o.guard = none := guard_of ho (by kernel_rfl)
  have v1 : a.eval (.tmp 1) = .pointer (some ⟨bx, 0, none⟩) := h.fixed 1 _ rfl
  have c := h.own.2.2.1.cell 0
  simp at c
  exact h.pure ho hown rfl hg (v := rdV rb) (by simp only [execOp, hop, v1]; first | go_simp | simp [go_sem, c]) rfl
theorem rcOp16 (hs : s.size ≤ 70368744177664) (hQ : ∀ (a : Act) (w' : World), a.defers = [] → w0.grownBy w' (some rb) → pCd s = none → Q (.panic [{ v := .iface 25 (.int .i64 4), recovered := false }]) a w') (h : AtC rcOps 22 [1, 3, 5, 7, 9, 11, 13, 17] (rcBase bx xb) (rcVal rb s) (RH w0 rb s (rcSt s) (rcI rb bx xb)) l a w) (hn : l.getD 16 true = false) (hd : ∀ o : Oper, rcOps[16]? = some o → ∀ e ∈ o.after.toList, Region.binds .any e = true → l.getD e.on false = true) : wpOp Tryd.prog rcOps Q 16 (AtC rcOps 22 [1, 3, 5, 7, 9, 11, 13, 17] (rcBase bx xb) (rcVal rb s) (RH w0 rb s (rcSt s) (rcI rb bx xb)) (l.setIfInBounds 16 true)) a w := by
  have hown : ownAt rcOps 22 (rcBase bx xb) 16 19 := ownAt_of (by kernel_rfl) rfl
  obtain ⟨o, ho⟩ : ∃ o, rcOps[16]? = some o := Option.isSome_iff_exists.1 (by kernel_rfl)
  have hop : o.op = Op.makeFunc (Fn.func 35) #[(Operand.tmp 18)] #[] := op_of ho (by kernel_rfl)
  have hg : o.guard = none := guard_of ho (by kernel_rfl)
  have v18 : a.eval (.tmp 18) = rdV rb := h.done 15 18 (dep hd 15 (by kernel_rfl)) (by kernel_rfl)
  exact h.pure ho hown rfl hg (v := .func (.func 35) #[rdV rb] #[]) (by simp only [execOp, hop, v18]; first | rfl | (simp [v18]; rfl)) rfl
theorem rcOp17 (hs : s.size ≤ 70368744177664) (hQ : ∀ (a : Act) (w' : World), a.defers = [] → w0.grownBy w' (some rb) → pCd s = none → Q (.panic [{ v := .iface 25 (.int .i64 4), recovered := false }]) a w') (h : AtC rcOps 22 [1, 3, 5, 7, 9, 11, 13, 17] (rcBase bx xb) (rcVal rb s) (RH w0 rb s (rcSt s) (rcI rb bx xb)) l a w) (hn : l.getD 17 true = false) (hd : ∀ o : Oper, rcOps[17]? = some o → ∀ e ∈ o.after.toList, Region.binds .any e = true → l.getD e.on false = true) : wpOp Tryd.prog rcOps Q 17 (AtC rcOps 22 [1, 3, 5, 7, 9, 11, 13, 17] (rcBase bx xb) (rcVal rb s) (RH w0 rb s (rcSt s) (rcI rb bx xb)) (l.setIfInBounds 17 true)) a w := by
  have hown : ownAt rcOps 22 (rcBase bx xb) 17 20 := ownAt_of (by kernel_rfl) rfl
  obtain ⟨o, ho⟩ : ∃ o, rcOps[17]? = some o := Option.isSome_iff_exists.1 (by kernel_rfl)
  have hop : o.op = Op.call { callee := Callee.value (Operand.func 34), args := #[Operand.tmp 17, Operand.const (Value.int IntKind.i64 4), Operand.tmp 19], argTypes := #[60, 3, 82] } := op_of ho (by kernel_rfl)
  have hg : o.guard = none := guard_of ho (by kernel_rfl)
  have v17 : a.eval (.tmp 17) = rdV rb := h.done 14 17 (dep hd 14 (by kernel_rfl)) (by kernel_rfl)
  have v19 : a.eval (.tmp 19) = .func (.func 35) #[rdV rb] #[] := h.done 16 19 (dep hd 16 (by kernel_rfl)) (by kernel_rfl)
  refine h.reads (k := 7) (f := (pList 4 pAb)) (q := 34) (args := fun rb => #[rdV rb, .int .i64 (4 : Nat), .func (.func 35) #[rdV rb] #[]]) (V := (VL vA 45 13 abRow)) ho hown (by decide) rfl (by decide) (fun j hj => ?_) hn hg ?_ (list_a 4 (by omega) ability1_any) rfl hs (fun v w' hv => hv) (rcMono rb s) (rcKeep rb bx xb) (fun u w' hu hf g => hQ a w' h.defers g (rcNone7 hu hf))
  · obtain rfl : j = 6 := by omega
    exact dep hd 13 (by kernel_rfl)
  · rw [exec_call (enters_of Tryd.func34 (by kernel_rfl) rfl) hop]
    simp only [List.map_toArray, List.map_cons, List.map_nil, v17, v19]
    try rfl
theorem rcOp18 (hs : s.size ≤ 70368744177664) (hQ : ∀ (a : Act) (w' : World), a.defers = [] → w0.grownBy w' (some rb) → pCd s = none → Q (.panic [{ v := .iface 25 (.int .i64 4), recovered := false }]) a w') (h : AtC rcOps 22 [1, 3, 5, 7, 9, 11, 13, 17] (rcBase bx xb) (rcVal rb s) (RH w0 rb s (rcSt s) (rcI rb bx xb)) l a w) (hn : l.getD 18 true = false) (hd : ∀ o : Oper, rcOps[18]? = some o → ∀ e ∈ o.after.toList, Region.binds .any e = true → l.getD e.on false = true) : wpOp Tryd.prog rcOps Q 18 (AtC rcOps 22 [1, 3, 5, 7, 9, 11, 13, 17] (rcBase bx xb) (rcVal rb s) (RH w0 rb s (rcSt s) (rcI rb bx xb)) (l.setIfInBounds 18 true)) a w := by
  have hown : ownAt rcOps 22 (rcBase bx xb) 18 21 := ownAt_of (by kernel_rfl) rfl
  obtain ⟨o, ho⟩ : ∃ o, rcOps[18]? = some o := Option.isSome_iff_exists.1 (by kernel_rfl)
  have hop : o.op = Op.build 39 #[(0, Operand.tmp 4), (1, Operand.tmp 6), (2, Operand.tmp 8), (3, Operand.tmp 10), (4, Operand.tmp 12), (5, Operand.tmp 14), (6, Operand.tmp 16), (7, Operand.tmp 20)] := op_of ho (by kernel_rfl)
  have hg : o.guard = none := guard_of ho (by kernel_rfl)
  have p4 : rcVal rb s 1 (a.eval (.tmp 4)) w := h.done 1 4 (dep hd 1 (by kernel_rfl)) (by kernel_rfl)
  have p6 : rcVal rb s 3 (a.eval (.tmp 6)) w := h.done 3 6 (dep hd 3 (by kernel_rfl)) (by kernel_rfl)
  have p8 : rcVal rb s 5 (a.eval (.tmp 8)) w := h.done 5 8 (dep hd 5 (by kernel_rfl)) (by kernel_rfl)
  have p10 : rcVal rb s 7 (a.eval (.tmp 10)) w := h.done 7 10 (dep hd 7 (by kernel_rfl)) (by kernel_rfl)
  have p12 : rcVal rb s 9 (a.eval (.tmp 12)) w := h.done 9 12 (dep hd 9 (by kernel_rfl)) (by kernel_rfl)
  have p14 : rcVal rb s 11 (a.eval (.tmp 14)) w := h.done 11 14 (dep hd 11 (by kernel_rfl)) (by kernel_rfl)
  have p16 : rcVal rb s 13 (a.eval (.tmp 16)) w := h.done 13 16 (dep hd 13 (by kernel_rfl)) (by kernel_rfl)
  have p20 : rcVal rb s 17 (a.eval (.tmp 20)) w := h.done 17 20 (dep hd 17 (by kernel_rfl)) (by kernel_rfl)
  obtain ⟨nm, gnm, wnm, znm⟩ := p4
  obtain ⟨k, gk, wk⟩ := p6
  change a.eval (.tmp 6) = .int .i64 k at wk
  obtain ⟨⟨c0, c1, c2, c3⟩, gc, wc⟩ := p8
  change a.eval (.tmp 8) = .agg #[.int .i64 c0, .int .i64 c1, .int .i64 c2, .int .i64 c3] at wc
  obtain ⟨co, gco, wco⟩ := p10
  change a.eval (.tmp 10) = .int .i64 co at wco
  obtain ⟨p, gp, wp⟩ := p12
  change a.eval (.tmp 12) = .int .i64 p at wp
  obtain ⟨t, gt, wt⟩ := p14
  change a.eval (.tmp 14) = .int .i64 t at wt
  obtain ⟨ke, gke, wke⟩ := p16
  change a.eval (.tmp 16) = .int .i64 ke at wke
  obtain ⟨A, gA, M, aa, ac, rfl, wA, _, kA⟩ := p20
  have hke : In64 ke := by
    obtain ⟨u, t2, hu2⟩ := take_some gke
    have := (row_num _ _ _ hu2).2
    unfold In64; omega
  have kC : Kd vC.S rb (fun W => CdR W ⟨nm, k, c0, c1, c2, c3, co, p, t, ke, aa, M.length, ac⟩ M) w :=
    (kA.more (S' := vC.S) (sub_of (by decide))).map fun W h => ⟨rfl, isA_row rfl h.2 h.1⟩
  exact h.pure ho hown rfl hg (v := vC.val (⟨nm, k, c0, c1, c2, c3, co, p, t, ke, aa, M.length, ac⟩, M)) (by simp only [execOp, hop, List.map_toArray, List.map_cons, List.map_nil, wnm, wk, wc, wco, wp, wt, wke, wA]; first | go_simp | kernel_rfl)
    ⟨nm, k, (c0, c1, c2, c3), co, p, t, ke, M.map vA.g, ⟨gnm, gk, gc, gco, gp, gt, gke, gA⟩, (⟨nm, k, c0, c1, c2, c3, co, p, t, ke, aa, M.length, ac⟩, M), by simp [mkCd, bareC], rfl, ⟨by show nm.size ≤ maxLen; unfold maxLen; omega, hke⟩, kC⟩

end
theorem rcStep {w0 : World} {Q : Exit → Act → World → Prop} {rb bx xb : Nat} {s : ByteArray} (hs : s.size ≤ 70368744177664) (hQ : ∀ (a : Act) (w' : World), a.defers = [] → w0.grownBy w' (some rb) → pCd s = none → Q (.panic [{ v := .iface 25 (.int .i64 4), recovered := false }]) a w') (l : Array Bool) (a : Act) (w : World) (kk : Nat) (h : AtC rcOps 22 [1, 3, 5, 7, 9, 11, 13, 17] (rcBase bx xb) (rcVal rb s) (RH w0 rb s (rcSt s) (rcI rb bx xb)) l a w) (hi : kk < 19) (hn : l.getD kk true = false) (hd : ∀ o : Oper, rcOps[kk]? = some o → ∀ e ∈ o.after.toList, Region.binds .any e = true → l.getD e.on false = true) : wpOp Tryd.prog rcOps Q kk (AtC rcOps 22 [1, 3, 5, 7, 9, 11, 13, 17] (rcBase bx xb) (rcVal rb s) (RH w0 rb s (rcSt s) (rcI rb bx xb)) (l.setIfInBounds kk true)) a w := by
  match kk, hi, hn, hd with
  | 0, _, hn, hd => exact rcOp0 hs hQ h hn hd
  | 1, _, hn, hd => exact rcOp1 hs hQ h hn hd
  | 2, _, hn, hd => exact rcOp2 hs hQ h hn hd
  | 3, _, hn, hd => exact rcOp3 hs hQ h hn hd
  | 4, _, hn, hd => exact rcOp4 hs hQ h hn hd
  | 5, _, hn, hd => exact rcOp5 hs hQ h hn hd
  | 6, _, hn, hd => exact rcOp6 hs hQ h hn hd
  | 7, _, hn, hd => exact rcOp7 hs hQ h hn hd
  | 8, _, hn, hd => exact rcOp8 hs hQ h hn hd
  | 9, _, hn, hd => exact rcOp9 hs hQ h hn hd
  | 10, _, hn, hd => exact rcOp10 hs hQ h hn hd
  | 11, _, hn, hd => exact rcOp11 hs hQ h hn hd
  | 12, _, hn, hd => exact rcOp12 hs hQ h hn hd
  | 13, _, hn, hd => exact rcOp13 hs hQ h hn hd
  | 14, _, hn, hd => exact rcOp14 hs hQ h hn hd
  | 15, _, hn, hd => exact rcOp15 hs hQ h hn hd
  | 16, _, hn, hd => exact rcOp16 hs hQ h hn hd
  | 17, _, hn, hd => exact rcOp17 hs hQ h hn hd
  | 18, _, hn, hd => exact rcOp18 hs hQ h hn hd
  | k + 19, hi, _, _ => omega
theorem rcSize : rcOps.size = 20 := by kernel_rfl
theorem rcDeps : ∀ j, j < 19 → depOn rcOps 19 j = true := fun j hj => (List.all_eq_true.1 (show ((List.range 19).all fun j => depOn rcOps 19 j) = true by kernel_rfl)) j (List.mem_range.2 hj)
set_option maxHeartbeats 4000000 in
theorem card1_any : Reads pCd 20 (fun rb => #[rdV rb]) (VV vC.g vC.val vC.C vC.S vC.R) := by
  intro rb s w hs hr
  suffices key : ∀ Post : Ending → World → Prop, (∀ e w', (w.grownBy w' (some rb) ∧ ((pCd s = none ∧ e = Gone) ∨ ∃ x t v, pCd s = some (x, t) ∧ t.size ≤ s.size ∧ e = .returned v ∧ Rd1 rb t w' ∧ VV vC.g vC.val vC.C vC.S vC.R rb x v w')) → Post e w') →
      Calls Tryd.prog 20 ((fun rb => #[rdV rb]) rb) w Post from key _ (fun _ _ h => h)
  intro Post hPost
  have HPo := Lib.hid hPost
  clear hPost
  have hrb := hr.lt
  have HR := Lib.hid (show Rd1 rb s ((w.alloc (.cells #[.pointer (some ⟨rb, 0, none⟩)] 60)).alloc (.cells #[.string ⟨#[]⟩, .int .i64 0, .int .i64 0, .int .i64 0, .int .i64 0, .int .i64 0, .int .i64 0, .int .i64 0, .int .i64 0, .int .i64 0, .slice none 0 0] 39)) from (hr.alloc _).alloc _)
  have HG := Lib.hid (grown_new (grown_new (World.grownBy.refl w (some rb)) (.cells #[.pointer (some ⟨rb, 0, none⟩)] 60)) (.cells #[.string ⟨#[]⟩, .int .i64 0, .int .i64 0, .int .i64 0, .int .i64 0, .int .i64 0, .int .i64 0, .int .i64 0, .int .i64 0, .int .i64 0, .slice none 0 0] 39))
  have HI := Lib.hid (show rcI rb w.heap.size (w.heap.size + 1) ((w.alloc (.cells #[.pointer (some ⟨rb, 0, none⟩)] 60)).alloc (.cells #[.string ⟨#[]⟩, .int .i64 0, .int .i64 0, .int .i64 0, .int .i64 0, .int .i64 0, .int .i64 0, .int .i64 0, .int .i64 0, .int .i64 0, .slice none 0 0] 39)) from
    ⟨by omega, by omega, (Bk.new w _ _).below (below_alloc1 _ _), by have := Bk.new (w.alloc (.cells #[.pointer (some ⟨rb, 0, none⟩)] 60)) #[.string ⟨#[]⟩, .int .i64 0, .int .i64 0, .int .i64 0, .int .i64 0, .int .i64 0, .int .i64 0, .int .i64 0, .int .i64 0, .int .i64 0, .slice none 0 0] 39; simpa using this⟩)
  have HS := Lib.hid hs
  clear hr hs
  go_enter Tryd.func20, Tryd.ntmps20
  go_wp2_with fail
  generalize (w.alloc (.cells #[.pointer (some ⟨rb, 0, none⟩)] 60)).alloc (.cells #[.string ⟨#[]⟩, .int .i64 0, .int .i64 0, .int .i64 0, .int .i64 0, .int .i64 0, .int .i64 0, .int .i64 0, .int .i64 0, .int .i64 0, .slice none 0 0] 39) = w1 at *
  rename_i KK hKK
  refine region_lastC (m := 19) (ops := rcOps) (n := 22) (cs := [1, 3, 5, 7, 9, 11, 13, 17]) (base := rcBase w.heap.size (w.heap.size + 1)) (val := rcVal rb s) (H := RH w rb s (rcSt s) (rcI rb w.heap.size (w.heap.size + 1))) (by kernel_rfl) (earlier_of (by kernel_rfl)) rcSize rcDeps ?start (fun l a w' i h hi hn hd => rcStep HS.out (fun a w' h1 h2 h3 => ⟨h1, HPo.out _ _ ⟨h2, .inl ⟨h3, rfl⟩⟩⟩) l a w' i h hi hn hd) ?last
  case start =>
    refine AtC.begins rfl rfl ⟨s, rfl, Nat.le_refl _, HR.out, ⟨HG.out.os, HG.out.tape, HG.out.output, HG.out.size, HG.out.block⟩, HI.out⟩ fun k v hk => ?_
    unfold rcBase at hk
    split at hk
    · rename_i e; subst e; cases hk; rfl
    · split at hk
      · rename_i e; subst e; cases hk; rfl
      · cases hk
  case last =>
    intro l a w' h hall
    obtain ⟨u, hu, hus, hrd, hg, hi⟩ := h.last (fun i hi => hall _ (by
      have hi2 : i = 0 ∨ i = 1 ∨ i = 2 ∨ i = 3 ∨ i = 4 ∨ i = 5 ∨ i = 6 ∨ i = 7 := by simp at hi; omega
      rcases hi2 with rfl | rfl | rfl | rfl | rfl | rfl | rfl | rfl <;> decide))
    have hv : rcVal rb s 18 (a.tmps.getD 21 undef) w' := h.done 18 21 (hall 18 (by omega)) (by kernel_rfl)
    obtain ⟨oo, ho⟩ : ∃ oo, rcOps[19]? = some oo := Option.isSome_iff_exists.1 (by kernel_rfl)
    have hop : oo.op = Op.store 39 (Operand.tmp 2) (Operand.tmp 21) := op_of ho (by kernel_rfl)
    have hgd : oo.guard = none := guard_of ho (by kernel_rfl)
    have hdst : oo.dst = none := dst_of ho (by kernel_rfl)
    have v2 : a.eval (.tmp 2) = .pointer (some ⟨w.heap.size + 1, 0, none⟩) := h.fixed 2 _ rfl
    have hdf : a.defers = [] := h.defers
    have hsz : a.tmps.size = 22 := h.tmps
    have HB := Lib.hid hi.2.2.2
    have HRd := Lib.hid hrd
    have HGg := Lib.hid hg
    have HUs := Lib.hid hus
    clear hall h hi hrd hg hus
    have c0 := HB.out.cell 0
    have f0 := HB.out.free 0
    have c1 := HB.out.cell 1
    have f1 := HB.out.free 1
    have c2 := HB.out.cell 2
    have f2 := HB.out.free 2
    have c3 := HB.out.cell 3
    have f3 := HB.out.free 3
    have c4 := HB.out.cell 4
    have f4 := HB.out.free 4
    have c5 := HB.out.cell 5
    have f5 := HB.out.free 5
    have c6 := HB.out.cell 6
    have f6 := HB.out.free 6
    have c7 := HB.out.cell 7
    have f7 := HB.out.free 7
    have c8 := HB.out.cell 8
    have f8 := HB.out.free 8
    have c9 := HB.out.cell 9
    have f9 := HB.out.free 9
    have c10 := HB.out.cell 10
    have f10 := HB.out.free 10
    simp at c0 c1 c2 c3 c4 c5 c6 c7 c8 c9 c10
    obtain ⟨nm, k, c, co, p, t, ke, A, ht, y, hgy, hvy, hC, hK⟩ := hv
    have HAll := Lib.hid (rcAll hu ht)
    have HK := Lib.hid hK
    have HC := Lib.hid hC
    have HGy := Lib.hid hgy
    clear hu ht hK hC hgy
    have v21 : a.eval (.tmp 21) = vC.val y := hvy
    obtain ⟨tm, df⟩ := a
    simp only at hdf hsz hvy
    subst hdf
    obtain ⟨v, hvs⟩ : ∃ v : Nat → Value, ∀ s, tm.getD s undef = v s := ⟨_, fun _ => rfl⟩
    have e2 : v 2 = .pointer (some ⟨w.heap.size + 1, 0, none⟩) := (hvs 2).symm.trans v2
    have e : tm = #[v 0, v 1, v 2, v 3, v 4, v 5, v 6, v 7, v 8, v 9, v 10, v 11, v 12, v 13, v 14, v 15, v 16, v 17, v 18, v 19, v 20, v 21] := (slots_of tm 22 hsz).trans (by simp only [hvs]; rfl)
    rw [e2] at e
    unfold wpOp
    rw [ho]
    simp only
    rw [if_pos (show Region.wanted oo (yielded rcOps tm) = true from guard_none (a := ⟨tm, []⟩) hgd)]
    left
    unfold Oper.wp
    simp only [execOp, hop, v2, v21]
    go_simp
    refine hKK _ _ ?_
    have HFin := Lib.hid (show _ from put_step (T := 39) (by omega) (by omega) (by decide) 10 (.slice y.1.aa y.1.an y.1.ac) (put_step (T := 39) (by omega) (by omega) (by decide) 9 (.int .i64 y.1.keys) (put_step (T := 39) (by omega) (by omega) (by decide) 8 (.int .i64 y.1.tou) (put_step (T := 39) (by omega) (by omega) (by decide) 7 (.int .i64 y.1.pow) (put_step (T := 39) (by omega) (by omega) (by decide) 6 (.int .i64 y.1.col) (put_step (T := 39) (by omega) (by omega) (by decide) 5 (.int .i64 y.1.c3) (put_step (T := 39) (by omega) (by omega) (by decide) 4 (.int .i64 y.1.c2) (put_step (T := 39) (by omega) (by omega) (by decide) 3 (.int .i64 y.1.c1) (put_step (T := 39) (by omega) (by omega) (by decide) 2 (.int .i64 y.1.c0) (put_step (T := 39) (by omega) (by omega) (by decide) 1 (.int .i64 y.1.k) (put_step (T := 39) (by omega) (by omega) (by decide) 0 (.string y.1.nm) (⟨HGg.out, HRd.out, HK.out, _, HB.out⟩))))))))))))
    have hb9 : Bk ((((((((((((w'.setCell ⟨w.heap.size + 1, 0, none⟩ (.string y.1.nm)).setCell ⟨w.heap.size + 1, 1, none⟩ (.int .i64 y.1.k)).setCell ⟨w.heap.size + 1, 2, none⟩ (.int .i64 y.1.c0)).setCell ⟨w.heap.size + 1, 3, none⟩ (.int .i64 y.1.c1)).setCell ⟨w.heap.size + 1, 4, none⟩ (.int .i64 y.1.c2)).setCell ⟨w.heap.size + 1, 5, none⟩ (.int .i64 y.1.c3)).setCell ⟨w.heap.size + 1, 6, none⟩ (.int .i64 y.1.col)).setCell ⟨w.heap.size + 1, 7, none⟩ (.int .i64 y.1.pow)).setCell ⟨w.heap.size + 1, 8, none⟩ (.int .i64 y.1.tou)).setCell ⟨w.heap.size + 1, 9, none⟩ (.int .i64 y.1.keys)).setCell ⟨w.heap.size + 1, 10, none⟩ (.slice y.1.aa y.1.an y.1.ac))) (w.heap.size + 1) #[.string y.1.nm, .int .i64 y.1.k, .int .i64 y.1.c0, .int .i64 y.1.c1, .int .i64 y.1.c2, .int .i64 y.1.c3, .int .i64 y.1.col, .int .i64 y.1.pow, .int .i64 y.1.tou, .int .i64 y.1.keys, .slice y.1.aa y.1.an y.1.ac] 39 := by
      have h9 := (((((((((((HB.out.set 0 (.string y.1.nm)).set 1 (.int .i64 y.1.k)).set 2 (.int .i64 y.1.c0)).set 3 (.int .i64 y.1.c1)).set 4 (.int .i64 y.1.c2)).set 5 (.int .i64 y.1.c3)).set 6 (.int .i64 y.1.col)).set 7 (.int .i64 y.1.pow)).set 8 (.int .i64 y.1.tou)).set 9 (.int .i64 y.1.keys)).set 10 (.slice y.1.aa y.1.an y.1.ac))
      simpa using h9
    clear c0 f0 c1 f1 c2 f2 c3 f3 c4 f4 c5 f5 c6 f6 c7 f7 c8 f8 c9 f9 c10 f10
    generalize (((((((((((w'.setCell ⟨w.heap.size + 1, 0, none⟩ (.string y.1.nm)).setCell ⟨w.heap.size + 1, 1, none⟩ (.int .i64 y.1.k)).setCell ⟨w.heap.size + 1, 2, none⟩ (.int .i64 y.1.c0)).setCell ⟨w.heap.size + 1, 3, none⟩ (.int .i64 y.1.c1)).setCell ⟨w.heap.size + 1, 4, none⟩ (.int .i64 y.1.c2)).setCell ⟨w.heap.size + 1, 5, none⟩ (.int .i64 y.1.c3)).setCell ⟨w.heap.size + 1, 6, none⟩ (.int .i64 y.1.col)).setCell ⟨w.heap.size + 1, 7, none⟩ (.int .i64 y.1.pow)).setCell ⟨w.heap.size + 1, 8, none⟩ (.int .i64 y.1.tou)).setCell ⟨w.heap.size + 1, 9, none⟩ (.int .i64 y.1.keys)).setCell ⟨w.heap.size + 1, 10, none⟩ (.slice y.1.aa y.1.an y.1.ac)) = W9 at *
    have d0 := hb9.cell 0
    have d1 := hb9.cell 1
    have d2 := hb9.cell 2
    have d3 := hb9.cell 3
    have d4 := hb9.cell 4
    have d5 := hb9.cell 5
    have d6 := hb9.cell 6
    have d7 := hb9.cell 7
    have d8 := hb9.cell 8
    have d9 := hb9.cell 9
    have d10 := hb9.cell 10
    simp at d0 d1 d2 d3 d4 d5 d6 d7 d8 d9 d10
    clear hb9
    go_wp2_with fail
    refine bodyPost_ret (v := vC.val y) (by simp [results, Tryd.results20, go_sem, d0, d1, d2, d3, d4, d5, d6, d7, d8, d9, d10]) rfl ?_
    exact HPo.out _ _ ⟨HFin.out.1, .inr ⟨_, _, _, HAll.out, HUs.out, rfl, HFin.out.2.1, y, HGy.out, rfl, HC.out, HFin.out.2.2.1⟩⟩
end Go.Proofs.YtbeaaieaffdgeaaDoor
end
/- works. -/
section
namespace Go.Proofs.YtbeaaieaffdgeaaDoor
open Go.RowKit
set_option linter.unusedVariables false
set_option linter.unusedSimpArgs false

theorem all_map {α β : Type} (f : β → Bool) (g : α → β) (A : List α) : (A.map g).all f = A.all fun x => f (g x) := by
  induction A with
  | nil => rfl
  | cons a A ih => simp [ih]
theorem any_map {α β : Type} (f : β → Bool) (g : α → β) (A : List α) : (A.map g).any f = A.any fun x => f (g x) := by
  induction A with
  | nil => rfl
  | cons a A ih => simp [ih]
/-- Addresses are not asked. -/
theorem chkC_er (y : Cd) (A : List AbT) (cards : Int) : chkC (erC y) (A.map erT) cards = chkC y A cards := by
  have h1 : longB (erC y) (A.map erT) = longB y A := by rw [longB, any_map]; rfl
  have h3 : canB ((erC y).k == 3) (A.map erT) cards = canB (y.k == 3) A cards := by rw [canB, all_map, List.length_map]; rfl
  rw [chkC, chkC, h1, h3]
  rfl
theorem chk_of {y : Cd} {A : List AbT} {p : Cd × List AbT} (h1 : erC y = p.1) (h2 : A.map erT = p.2) (cards : Int) : chkC y A cards = chkC p.1 p.2 cards := by
  rw [← h1, ← h2, chkC_er]
theorem plain_ok (k : Nat) (h1 : 1 ≤ k) (h4 : k ≤ 4) : chkC (pC k) (pA k) 2 = 0 := by
  obtain rfl | rfl | rfl | rfl : k = 1 ∨ k = 2 ∨ k = 3 ∨ k = 4 := by omega
  all_goals decide +kernel
end Go.Proofs.YtbeaaieaffdgeaaDoor
end
