/- Texts that belong together: PoolPi, PoolPn. -/
import Derived.Test.YtbeaaieaffdgeaaDoorMi
/- The program's list[int]. (Written by gen6l.py.) -/
section
namespace Go.Proofs.YtbeaaieaffdgeaaDoor
open Go.RowKit
set_option linter.unusedVariables false
set_option linter.unusedSimpArgs false

set_option maxRecDepth 100000 in
set_option maxHeartbeats 4000000 in
theorem list_i (m : Nat) (hm : m ≤ 1000) (hf : Reads pNum 32 (fun rb => #[rdV rb]) (VV vI.g vI.val vI.C vI.S vI.R)) :
    Reads (pList m pNum) 45 (fun rb => #[rdV rb, .int .i64 (m : Int), .func (.func 32) #[rdV rb] #[]]) (VL vI 3 1 (fun l => l.map (Value.int .i64))) := by
  intro rb s w hs hr
  have hrb := hr.lt
  obtain ⟨i0, hi, hz0, hz1, hz2⟩ := info_parts infoI
  have HR := Lib.hid (hr.below (below_alloc1 w (.cells #[.pointer (some ⟨rb, 0, none⟩)] 60)))
  have HG0 := Lib.hid (grown_new (World.grownBy.refl w (some rb)) (.cells #[.pointer (some ⟨rb, 0, none⟩)] 60))
  have HU := Lib.hid (upTo_any m (by omega))
  have HF := Lib.hid hf
  have hsz1 : w.heap.size < (w.alloc (.cells #[.pointer (some ⟨rb, 0, none⟩)] 60)).heap.size := by simp
  have HS := Lib.hid hs
  clear hf hr hs
  go_enter Tryd.func45, Tryd.ntmps45
  go_wp2_with fail
  generalize w.alloc (.cells #[.pointer (some ⟨rb, 0, none⟩)] 60) = w1 at *
  refine (HU.out rb s w1 HS.out HR.out).mono ?_
  rintro e w2 ⟨g2, ⟨hn, rfl⟩ | ⟨x, t, v, hx, ht, rfl, h2, rfl⟩⟩
  · have HP := Lib.hid (then_none (g := fun n => pRep pNum n.toNat) hn)
    have HG := Lib.hid (grown_then HG0.out g2)
    clear hn g2
    exact ⟨rfl, HG.out, .inl ⟨HP.out, rfl⟩⟩
  · obtain ⟨n, rfl, hnm⟩ := pUp_nat hx
    have HP := Lib.hid (pList_of (f := pNum) hx)
    rw [Int.toNat_natCast] at HP
    have HG := Lib.hid (grown_then HG0.out g2)
    have HR2 := Lib.hid h2
    have HT := Lib.hid (show t.size ≤ s.size from ht)
    have HS2 := Lib.hid (show w.heap.size ≤ w2.heap.size by have := g2.size; omega)
    clear hx g2 h2 ht
    go_wp2_with fail
    go_loopw [7, 11] (fun sv q wr => ∃ (i : Nat) (M : List Int) (u : ByteArray) (v7 : Value), v7 = sv ∧ q = .int .i64 (i : Int) ∧ M.length = i ∧ i ≤ n ∧ Part pNum n t i (M.map vI.g) u ∧ u.size ≤ s.size ∧ Rd1 rb u wr ∧ wr.ownsRow w.heap.size 3 1 v7 i ((fun l => l.map (Value.int .i64)) M) ∧ (∀ y ∈ M, vI.C y ∧ Kd vI.S rb (vI.R y) wr) ∧ w.grownBy wr (some rb)) (fun sv q _ => n - (intOf q).toNat)
    case atStart => exact ⟨0, [], t, _, rfl, rfl, rfl, Nat.zero_le _, Part.start _ _ _, HT.out, HR2.out, World.ownsRow_nil _ _ _ _, (fun y h => by cases h), HG.out⟩
    case round =>
      obtain ⟨i, M, u, sv, rfl, rfl, hl, hin, hpt, hus, hrd, hown, hM, hg⟩ := hrel
      have HPt := Lib.hid hpt
      have HUs := Lib.hid hus
      have HRd := Lib.hid hrd
      have HOw := Lib.hid hown
      have HM := Lib.hid hM
      have HGr := Lib.hid hg
      have HL := Lib.hid hl
      clear hpt hus hrd hown hM hg hl
      by_cases hlt : i < n
      · go_wp2_with fail
        refine (HF.out rb u _ (by have := HUs.out; have := HS.out; omega) HRd.out).mono ?_
        rintro e w4 ⟨g4, ⟨hno, rfl⟩ | ⟨x, t4, v4, hx4, ht4, rfl, h4, y, hgy, rfl, hC, hK⟩⟩
        · have HNo := Lib.hid (HP.out.trans (HPt.out.fails hlt hno))
          have HGn := Lib.hid (grown_then HGr.out g4)
          clear hno g4
          exact ⟨rfl, HGn.out, .inl ⟨HNo.out, rfl⟩⟩
        · have HPn := Lib.hid (HPt.out.step hlt hx4)
          have HO4 := Lib.hid ((own_read HOw.out g4 hrb).alloc (.cells #[.int .i64 y] 3))
          have HM4 := Lib.hid (show ∀ z ∈ M ++ [y], vI.C z ∧ Kd vI.S rb (vI.R z) w4 from fun z hz => by
            rcases List.mem_append.1 hz with hz | hz
            · exact ⟨(HM.out z hz).1, (HM.out z hz).2.read g4⟩
            · rw [List.mem_singleton.1 hz]; exact ⟨hC, hK⟩)
          have HG4 := Lib.hid (grown_then HGr.out g4)
          have HR4 := Lib.hid h4
          have HT4 := Lib.hid (show t4.size ≤ s.size by have := HUs.out; omega)
          have HGy := Lib.hid hgy
          have hsz4 : w.heap.size ≤ w4.heap.size := HG4.out.size
          clear hx4 hC hK h4 ht4 g4 hgy
          go_wp2_with (at_builtin; go_loud (refine wpList_append_own _ rfl _ _ 40 rfl w.heap.size 3 i0 (.int .i64 0) 1 8 Tryd.underlying40 hi hz0 hz1 hz2 rfl (by decide) _ i _ rfl HO4.out ⟨w4.heap.size, 0, none⟩ 1 1 [.int .i64 y] rfl rfl (new_cells w4 _ _) (fun z hz => by rw [List.mem_singleton.1 hz]; rfl) (by unfold maxLen; omega) (by omega) (by simp; omega) ?_; intro sv5 w5 hown5 hgr5 hnil5; clear hnil5))
          have HG5 := Lib.hid (grown_own HG4.out HO4.out hgr5)
          have HR5 := Lib.hid (rd_own HR4.out HO4.out hgr5 hrb)
          have HM5 := Lib.hid (show ∀ z ∈ M ++ [y], vI.C z ∧ Kd vI.S rb (vI.R z) w5 from fun z hz => ⟨(HM4.out z hz).1, kd_own (HM4.out z hz).2 HO4.out hgr5 rfl⟩)
          have HO5 := Lib.hid (show w5.ownsRow w.heap.size 3 1 sv5 (i + 1) ((fun l => l.map (Value.int .i64)) (M ++ [y])) by simpa using hown5)
          have HPm := Lib.hid (show Part pNum n t (i + 1) ((M ++ [y]).map vI.g) t4 by
            rw [List.map_append, List.map_singleton, show vI.g y = x from HGy.out]; exact HPn.out)
          clear hown5 hgr5
          go_wp2_with fail
          go_roundw
          case rel => exact ⟨i + 1, M ++ [y], t4, _, rfl, by go_num, by have := HL.out; simp; omega, by omega, HPm.out, HT4.out, HR5.out, HO5.out, HM5.out, HG5.out⟩
          case measure => simp [intOf]; omega
      · obtain rfl : i = n := by omega
        have HFin := Lib.hid (VL.of (V := vI) (rw := (fun l => l.map (Value.int .i64))) (rb := rb) (show wr.ownsRow w.heap.size 3 1 sv M.length ((fun l => l.map (Value.int .i64)) M) by rw [HL.out]; exact HOw.out) hrb HM.out)
        have HPe := Lib.hid (HP.out.trans HPt.out.ends)
        go_wp2_with fail
        go_ret
        exact ⟨HGr.out, .inr ⟨_, _, HPe.out, HUs.out, sv, rfl, HRd.out, HFin.out⟩⟩
end Go.Proofs.YtbeaaieaffdgeaaDoor
end
/- The program's list[instr]. (Written by gen6l.py.) -/
section
namespace Go.Proofs.YtbeaaieaffdgeaaDoor
open Go.RowKit
set_option linter.unusedVariables false
set_option linter.unusedSimpArgs false

set_option maxRecDepth 100000 in
set_option maxHeartbeats 4000000 in
theorem list_n (m : Nat) (hm : m ≤ 1000) (hf : Reads pIns 47 (fun rb => #[rdV rb]) (VV vN.g vN.val vN.C vN.S vN.R)) :
    Reads (pList m pIns) 46 (fun rb => #[rdV rb, .int .i64 (m : Int), .func (.func 47) #[rdV rb] #[]]) (VL vN 42 3 insCells) := by
  intro rb s w hs hr
  have hrb := hr.lt
  obtain ⟨i0, hi, hz0, hz1, hz2⟩ := info_parts infoN
  have HR := Lib.hid (hr.below (below_alloc1 w (.cells #[.pointer (some ⟨rb, 0, none⟩)] 60)))
  have HG0 := Lib.hid (grown_new (World.grownBy.refl w (some rb)) (.cells #[.pointer (some ⟨rb, 0, none⟩)] 60))
  have HU := Lib.hid (upTo_any m (by omega))
  have HF := Lib.hid hf
  have hsz1 : w.heap.size < (w.alloc (.cells #[.pointer (some ⟨rb, 0, none⟩)] 60)).heap.size := by simp
  have HS := Lib.hid hs
  clear hf hr hs
  go_enter Tryd.func46, Tryd.ntmps46
  go_wp2_with fail
  generalize w.alloc (.cells #[.pointer (some ⟨rb, 0, none⟩)] 60) = w1 at *
  refine (HU.out rb s w1 HS.out HR.out).mono ?_
  rintro e w2 ⟨g2, ⟨hn, rfl⟩ | ⟨x, t, v, hx, ht, rfl, h2, rfl⟩⟩
  · have HP := Lib.hid (then_none (g := fun n => pRep pIns n.toNat) hn)
    have HG := Lib.hid (grown_then HG0.out g2)
    clear hn g2
    exact ⟨rfl, HG.out, .inl ⟨HP.out, rfl⟩⟩
  · obtain ⟨n, rfl, hnm⟩ := pUp_nat hx
    have HP := Lib.hid (pList_of (f := pIns) hx)
    rw [Int.toNat_natCast] at HP
    have HG := Lib.hid (grown_then HG0.out g2)
    have HR2 := Lib.hid h2
    have HT := Lib.hid (show t.size ≤ s.size from ht)
    have HS2 := Lib.hid (show w.heap.size ≤ w2.heap.size by have := g2.size; omega)
    clear hx g2 h2 ht
    go_wp2_with fail
    go_loopw [7, 11] (fun sv q wr => ∃ (i : Nat) (M : List Ins) (u : ByteArray) (v7 : Value), v7 = sv ∧ q = .int .i64 (i : Int) ∧ M.length = i ∧ i ≤ n ∧ Part pIns n t i (M.map vN.g) u ∧ u.size ≤ s.size ∧ Rd1 rb u wr ∧ wr.ownsRow w.heap.size 42 3 v7 i (insCells M) ∧ (∀ y ∈ M, vN.C y ∧ Kd vN.S rb (vN.R y) wr) ∧ w.grownBy wr (some rb)) (fun sv q _ => n - (intOf q).toNat)
    case atStart => exact ⟨0, [], t, _, rfl, rfl, rfl, Nat.zero_le _, Part.start _ _ _, HT.out, HR2.out, World.ownsRow_nil _ _ _ _, (fun y h => by cases h), HG.out⟩
    case round =>
      obtain ⟨i, M, u, sv, rfl, rfl, hl, hin, hpt, hus, hrd, hown, hM, hg⟩ := hrel
      have HPt := Lib.hid hpt
      have HUs := Lib.hid hus
      have HRd := Lib.hid hrd
      have HOw := Lib.hid hown
      have HM := Lib.hid hM
      have HGr := Lib.hid hg
      have HL := Lib.hid hl
      clear hpt hus hrd hown hM hg hl
      by_cases hlt : i < n
      · go_wp2_with fail
        refine (HF.out rb u _ (by have := HUs.out; have := HS.out; omega) HRd.out).mono ?_
        rintro e w4 ⟨g4, ⟨hno, rfl⟩ | ⟨x, t4, v4, hx4, ht4, rfl, h4, y, hgy, rfl, hC, hK⟩⟩
        · have HNo := Lib.hid (HP.out.trans (HPt.out.fails hlt hno))
          have HGn := Lib.hid (grown_then HGr.out g4)
          clear hno g4
          exact ⟨rfl, HGn.out, .inl ⟨HNo.out, rfl⟩⟩
        · have HPn := Lib.hid (HPt.out.step hlt hx4)
          have HO4 := Lib.hid ((own_read HOw.out g4 hrb).alloc (.cells #[.int .i64 y.op, .int .i64 y.a, .int .i64 y.b] 42))
          have HM4 := Lib.hid (show ∀ z ∈ M ++ [y], vN.C z ∧ Kd vN.S rb (vN.R z) w4 from fun z hz => by
            rcases List.mem_append.1 hz with hz | hz
            · exact ⟨(HM.out z hz).1, (HM.out z hz).2.read g4⟩
            · rw [List.mem_singleton.1 hz]; exact ⟨hC, hK⟩)
          have HG4 := Lib.hid (grown_then HGr.out g4)
          have HR4 := Lib.hid h4
          have HT4 := Lib.hid (show t4.size ≤ s.size by have := HUs.out; omega)
          have HGy := Lib.hid hgy
          have hsz4 : w.heap.size ≤ w4.heap.size := HG4.out.size
          clear hx4 hC hK h4 ht4 g4 hgy
          go_wp2_with (at_builtin; go_loud (refine wpList_append_own _ rfl _ _ 43 rfl w.heap.size 42 i0 (.agg #[.int .i64 0, .int .i64 0, .int .i64 0]) 3 24 Tryd.underlying43 hi hz0 hz1 hz2 rfl (by decide) _ i _ rfl HO4.out ⟨w4.heap.size, 0, none⟩ 1 1 [.int .i64 y.op, .int .i64 y.a, .int .i64 y.b] rfl rfl (new_cells w4 _ _) (insCells_one [y]) (by unfold maxLen; omega) (by omega) (by simp; omega) ?_; intro sv5 w5 hown5 hgr5 hnil5; clear hnil5))
          have HG5 := Lib.hid (grown_own HG4.out HO4.out hgr5)
          have HR5 := Lib.hid (rd_own HR4.out HO4.out hgr5 hrb)
          have HM5 := Lib.hid (show ∀ z ∈ M ++ [y], vN.C z ∧ Kd vN.S rb (vN.R z) w5 from fun z hz => ⟨(HM4.out z hz).1, kd_own (HM4.out z hz).2 HO4.out hgr5 rfl⟩)
          have HO5 := Lib.hid (show w5.ownsRow w.heap.size 42 3 sv5 (i + 1) (insCells (M ++ [y])) by rw [insCells_append]; exact hown5)
          have HPm := Lib.hid (show Part pIns n t (i + 1) ((M ++ [y]).map vN.g) t4 by
            rw [List.map_append, List.map_singleton, show vN.g y = x from HGy.out]; exact HPn.out)
          clear hown5 hgr5
          go_wp2_with fail
          go_roundw
          case rel => exact ⟨i + 1, M ++ [y], t4, _, rfl, by go_num, by have := HL.out; simp; omega, by omega, HPm.out, HT4.out, HR5.out, HO5.out, HM5.out, HG5.out⟩
          case measure => simp [intOf]; omega
      · obtain rfl : i = n := by omega
        have HFin := Lib.hid (VL.of (V := vN) (rw := insCells) (rb := rb) (show wr.ownsRow w.heap.size 42 3 sv M.length (insCells M) by rw [HL.out]; exact HOw.out) hrb HM.out)
        have HPe := Lib.hid (HP.out.trans HPt.out.ends)
        go_wp2_with fail
        go_ret
        exact ⟨HGr.out, .inr ⟨_, _, HPe.out, HUs.out, sv, rfl, HRd.out, HFin.out⟩⟩
end Go.Proofs.YtbeaaieaffdgeaaDoor
end
