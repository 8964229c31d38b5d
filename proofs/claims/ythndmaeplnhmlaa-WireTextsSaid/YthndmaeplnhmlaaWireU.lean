/- WireTexts: the walk. -/
import Derived.Test.YthndmaeplnhmlaaWireTh
import Derived.Deep.RegionHeld3
namespace Go.Proofs.Ythndmaeplnhmlaa
open Go.RowKit
set_option linter.unusedVariables false

/-- A text, cut as the law cuts it. -/
def cut300 (x : ByteArray) : ByteArray := x.extract 0 (min (x.size : Int) 300).toNat
theorem cut300_size (x : ByteArray) : (cut300 x).size ≤ 300 := by unfold cut300; simp only [ByteArray.size_extract]; omega
/-- The row of the law's own when k texts are cut. -/
def rowAt (L : List ByteArray) (k : Nat) : List Value := (List.range L.length).map fun j => if j < k then .string (cut300 (L.getD j ByteArray.empty)) else .string (L.getD j ByteArray.empty)
theorem rowAt_get (L : List ByteArray) (k j : Nat) (h : j < L.length) : (rowAt L k)[j]? = some (if j < k then .string (cut300 (L.getD j ByteArray.empty)) else .string (L.getD j ByteArray.empty)) := by
  unfold rowAt
  rw [List.getElem?_map, List.getElem?_range h]
  rfl
theorem rowAt_length (L : List ByteArray) (k : Nat) : (rowAt L k).length = L.length := by simp [rowAt]
theorem rowAt_step (L : List ByteArray) (k : Nat) (h : k < L.length) : (rowAt L k).set k (.string (cut300 (L.getD k ByteArray.empty))) = rowAt L (k + 1) := by
  apply List.ext_getElem?
  intro j
  by_cases hj : j < L.length
  · rw [rowAt_get L (k + 1) j hj, List.getElem?_set]
    by_cases hjk : k = j
    · subst hjk
      rw [if_pos rfl, if_pos (by rw [rowAt_length]; exact hj), if_pos (by omega)]
    · rw [if_neg hjk, rowAt_get L k j hj]
      by_cases h1 : j < k
      · rw [if_pos h1, if_pos (by omega)]
      · rw [if_neg h1, if_neg (by omega)]
  · rw [List.getElem?_eq_none (by rw [List.length_set, rowAt_length]; omega), List.getElem?_eq_none (by rw [rowAt_length]; omega)]
theorem rowAt_zero (L : List ByteArray) : rowAt L 0 = L.map .string := by
  apply List.ext_getElem?
  intro j
  by_cases hj : j < L.length
  · rw [rowAt_get L 0 j hj, List.getElem?_map, List.getElem?_eq_getElem hj]
    simp [List.getD, List.getElem?_eq_getElem hj]
  · rw [List.getElem?_eq_none (by rw [rowAt_length]; omega), List.getElem?_eq_none (by simp; omega)]
/-- The cut texts' bytes from the k-th on. -/
def textsFrom (L : List ByteArray) (k : Nat) : ByteArray := (L.drop k).foldr (fun x r => textS (cut300 x) ++ r) ByteArray.empty
/-- The cut texts' bytes before the k-th. -/
def textsTo : List ByteArray → Nat → ByteArray
  | _, 0 => ByteArray.empty
  | L, k + 1 => textsTo L k ++ textS (cut300 (L.getD k ByteArray.empty))
theorem textS_size (x : ByteArray) : (textS x).size ≤ x.size + 9 := by
  have := numS_size x.size
  unfold textS
  rw [ByteArray.size_append]; omega
theorem textsTo_size (L : List ByteArray) (k : Nat) : (textsTo L k).size ≤ 309 * k := by
  induction k with
  | zero => simp [textsTo]
  | succ k ih =>
    have h1 := cut300_size (L.getD k ByteArray.empty)
    have h2 := textS_size (cut300 (L.getD k ByteArray.empty))
    unfold textsTo
    rw [ByteArray.size_append]; omega
theorem textsFrom_step (L : List ByteArray) (k : Nat) (h : k < L.length) : textsFrom L k = textS (cut300 (L.getD k ByteArray.empty)) ++ textsFrom L (k + 1) := by
  unfold textsFrom
  rw [List.drop_eq_getElem_cons h, List.foldr_cons]
  have e : L.getD k ByteArray.empty = L[k] := by simp [List.getD, List.getElem?_eq_getElem h]
  rw [e]
theorem texts_join (L : List ByteArray) (k : Nat) (h : k ≤ L.length) : textsTo L k ++ textsFrom L k = textsFrom L 0 := by
  induction k with
  | zero => simp [textsTo]
  | succ k ih =>
    rw [← ih (by omega), textsFrom_step L k (by omega)]
    show (textsTo L k ++ textS (cut300 (L.getD k ByteArray.empty))) ++ textsFrom L (k + 1) = _
    rw [ByteArray.append_assoc]
theorem texts_all (L : List ByteArray) : textsTo L L.length = textsFrom L 0 := by
  have h := texts_join L L.length (Nat.le_refl _)
  have e : textsFrom L L.length = ByteArray.empty := by simp [textsFrom]
  rw [e, ByteArray.append_empty] at h
  exact h

theorem textsFrom_size (L : List ByteArray) (k : Nat) (h : k ≤ L.length) : (textsFrom L k).size ≤ 309 * L.length := by
  have h1 := congrArg ByteArray.size (texts_join L k h)
  have h2 := textsTo_size L L.length
  rw [texts_all, ← h1, ByteArray.size_append] at h2
  omega
theorem readsT (x t : ByteArray) (hx : x.size ≤ 1000000) (ht : t.size ≤ 1000000) (b : Nat) (W : World) (h : RdT 57 b (textS x ++ t) false W) :
    Calls Try.prog 22 #[.pointer (some ⟨b, 0, none⟩)] W fun e w' => e = .returned (.string x) ∧ RdT 57 b t false w' ∧ W.grownBy w' (some b) := by
  have h1 := text_any b (textS x ++ t, false) W ⟨by have := textS_size x; simp only [ByteArray.size_append]; omega, fun h => by cases h⟩ h
  rw [rdText_put x t (by omega)] at h1
  exact h1
theorem addPlain (b off n : Nat) : (⟨b, off, none⟩ : Addr).add n = ⟨b, off + n, none⟩ := by
  unfold Addr.add
  split
  · simp_all
  · rfl
theorem own_some {w : World} {B : Nat} {e : TypeId} {v : Value} {n : Nat} {xs : List Value} (h : w.ownsRow B e 1 v n xs) (hne : ¬v = .slice none 0 0) :
    ∃ g c : Nat, v = .slice (some ⟨g, 0, none⟩) n c ∧ B ≤ g ∧ g < w.heap.size ∧ n ≤ c ∧ c ≤ 9223372036854775807 := by
  obtain ⟨_, h2⟩ := h
  rcases h2 with ⟨h2, _⟩ | ⟨g, c, cur, hv, hg, hh, hc, hm, _⟩
  · exact absurd h2 hne
  · unfold maxLen at hm
    exact ⟨g, c, hv, hg, (Array.getElem?_eq_some_iff.1 hh).1, hc, hm⟩
/-- What the walk is told of the texts: text j is the j-th of L. -/
def TextRow (w : World) (bl off : Nat) (L : List ByteArray) : Prop := bl < w.heap.size ∧ ∀ j, j < L.length → w.cell? ⟨bl, off + j, none⟩ = some (.string (L.getD j ByteArray.empty)) ∧ (L.getD j ByteArray.empty).size ≤ 9223372036854775807
theorem strInfo : (Try.prog.info? 9).map (fun i => (i.zero, i.size, i.bytes)) = some (some (.string ⟨#[]⟩), 1, 16) := by kernel_rfl

set_option maxHeartbeats 1000000 in
theorem texts_row (bl off len cap : Nat) (L : List ByteArray) (hl0 : 0 < len) (hlc : len ≤ cap) (hcap : cap ≤ 9223372036854775807) (hL : L.length = (min (len : Int) 12).toNat) (more : ByteArray) (hmore : more.size ≤ 9223372036854775807) (w : World) (hrow : TextRow w bl off L) :
    Calls Try.prog 8 #[.slice (some ⟨bl, off, none⟩) len cap, .string more] w fun e w' => e = .returned (.bool true) ∧ Below w.heap.size w w' := by
  have HR := Lib.hid hrow
  have HL := Lib.hid hL
  clear hrow hL
  obtain ⟨i0, hi, hz0, hz1, hz2⟩ := info_parts strInfo
  have hown : (w.alloc (.cells #[] 9 (0, 0))).ownsRow w.heap.size 9 1 (.slice (some ⟨w.heap.size, 0, none⟩) 0 0) 0 [] := World.ownsRow_lit w #[] 0 (Nat.le_refl _) (by unfold maxLen; omega) rfl
  have HO := Lib.hid hown
  have hnews : ∀ j u, (L.map Value.string)[j]? = some u → (w.alloc (.cells #[] 9 (0, 0))).cell? ((⟨bl, off, none⟩ : Addr).add j) = some u := by
    intro j u hu
    have hj : j < L.length := by
      have := (List.getElem?_eq_some_iff.1 hu).1
      simpa using this
    rw [addPlain]
    rw [World.cell?_alloc_lt w _ ⟨bl, off + j, none⟩ HR.out.1, (HR.out.2 j hj).1]
    rw [List.getElem?_map, List.getElem?_eq_getElem hj] at hu
    simpa [List.getD, List.getElem?_eq_getElem hj] using hu
  have HNW := Lib.hid hnews
  clear hown hnews
  go_enter Try.func8, Try.ntmps8
  go_wp2_with (at_builtin; refine wpList_append_own _ rfl _ _ 47 rfl w.heap.size 9 i0 (.string ⟨#[]⟩) 1 16 Try.underlying47 hi hz0 hz1 hz2 rfl (by decide) _ 0 [] rfl HO.out ⟨bl, off, none⟩ (min (len : Int) 12).toNat cap (L.map Value.string) rfl ?c1 HNW.out ?c3 ?c4 ?c5 ?c6 ?_)
  case c1 => rw [List.length_map, HL.out]; omega
  case c3 =>
    intro u hu
    obtain ⟨x, _, rfl⟩ := List.mem_map.1 hu
    rfl
  case c4 => unfold maxLen; omega
  case c5 => omega
  case c6 => simp
  have hm12 : (min (len : Int) 12).toNat ≤ 12 := by omega
  generalize (min (len : Int) 12).toNat = m at *
  intro v1 w1 hown1 hgrow hne
  obtain ⟨g, c1, rfl, hg, hgw, hmc, hc1⟩ := own_some hown1 hne
  have hb1 : Below w.heap.size w w1 := ((Below.refl _ _).alloc (Nat.le_refl _) _).grown hgrow (by simp) (fun k e => by simp [Value.ownBlock] at e; omega)
  have HW1 := Lib.hid hown1
  have HB1 := Lib.hid hb1
  clear hown1 hgrow hne hb1
  go_wp2_with fail
  go_loopw [5, 6] (fun sv i wr => ∃ k : Nat, k ≤ m ∧ i = .int .i64 (k : Int) ∧ sv = .string (textsTo L k) ∧ wr.ownsRow w.heap.size 9 1 (.slice (some ⟨g, 0, none⟩) m c1) m (rowAt L k) ∧ Below w.heap.size w wr) (fun _ i _ => m + 1 - (intOf i).toNat)
  case atStart => exact ⟨0, Nat.zero_le _, rfl, rfl, by rw [rowAt_zero]; exact HW1.out, HB1.out⟩
  case round =>
    obtain ⟨k, hk, rfl, rfl, hrow, hbel⟩ := hrel
    have HB := Lib.hid hbel
    have hsz := textsTo_size L k
    by_cases hlt : k < m
    · have hkl : k < L.length := by rw [HL.out]; exact hlt
      obtain ⟨x, hxe⟩ : ∃ x, x = L.getD k ByteArray.empty := ⟨_, rfl⟩
      have hx : wr.cell? ⟨g, k, none⟩ = some (.string x) := by
        rw [hrow.cellAt k (by omega), rowAt_get L k k hkl, if_neg (by omega), hxe]
      have hxf : wr.frozen? ⟨g, k, none⟩ = false := hrow.frozenAt k
      have hxs : x.size ≤ 9223372036854775807 := by rw [hxe]; exact (HR.out.2 k hkl).2
      have hst := (hrow.stored k (.string (cut300 x))).1
      rw [hxe, rowAt_step L k hkl, ← hxe] at hst
      have HS := Lib.hid hst
      have HN := Lib.hid (show textsTo L k ++ textS (cut300 x) = textsTo L (k + 1) by rw [hxe]; rfl)
      clear hrow hbel hst hxe hkl
      go_wp2_with fail
      go_region
      go_wp2_with fail
      refine (putText_any _ (by omega) (cut300 x) (by have := cut300_size x; omega) _).mono ?_
      rintro e w2 ⟨rfl, b2⟩
      have HB2 := Lib.hid (below_then (((HB.out).setCell (p := ⟨g, k, none⟩) hg (.string (cut300 x))).drew) b2 (Nat.le_trans HB.out.size (by simp [World.setCell])))
      have HS2 := Lib.hid (HS.out.drew.kept (grown_below b2 none) (.inr (by simp [Value.ownBlock])))
      clear b2
      go_wp2_with fail
      go_roundw
      case rel => exact ⟨k + 1, by omega, by go_num, by rw [HN.out], HS2.out, HB2.out⟩
      case measure => simp [intOf]; omega
    · have hkm : m = k := by omega
      have HK := Lib.hid (show k = L.length by rw [HL.out]; omega)
      have HT := Lib.hid (show textsTo L k = textsFrom L 0 by rw [HK.out]; exact texts_all L)
      have HROW := Lib.hid (show wr.ownsRow w.heap.size 9 1 (.slice (some ⟨g, 0, none⟩) m c1) m (rowAt L m) by rw [show rowAt L m = rowAt L k by rw [hkm]]; exact hrow)
      have hgr : g < wr.heap.size := (hrow.lt g (by simp [Value.ownBlock])).2
      have hkl : L.length = m := by rw [HL.out]
      have HKL := Lib.hid hkl
      clear hrow hbel hkm hkl
      go_wp2_with fail
      have hmo : (more.extract 0 (min (more.size : Int) 50).toNat).size ≤ 50 := by simp only [ByteArray.size_extract]; omega
      generalize more.extract 0 (min (more.size : Int) 50).toNat = mo at *
      refine (new_rd _ _).mono ?_
      rintro e w2 ⟨rfl, n2, b2⟩
      rw [HT.out] at n2
      have HN2 := Lib.hid n2
      have HB2 := Lib.hid (below_then HB.out b2 HB.out.size)
      have HR2 := Lib.hid (HROW.out.kept (grown_below b2 none) (.inr (by simp [Value.ownBlock])))
      have hbs := HB.out.size
      clear n2 b2
      go_wp2_with fail
      go_loopw [8] (fun i w3 => ∃ k2 : Nat, k2 ≤ m ∧ i = .int .i64 (k2 : Int) ∧ RdT 57 wr.heap.size (textsFrom L k2 ++ mo) false w3 ∧ w3.ownsRow w.heap.size 9 1 (.slice (some ⟨g, 0, none⟩) m c1) m (rowAt L m) ∧ Below w.heap.size w w3) (fun i _ => m + 1 - (intOf i).toNat)
      case atStart => exact ⟨0, Nat.zero_le _, rfl, HN2.out, HR2.out, HB2.out⟩
      case round =>
        rename World => w4
        obtain ⟨k2, hk2, rfl, hrd, hrow, hbel⟩ := hrel
        have HRD := Lib.hid hrd
        have HROW4 := Lib.hid hrow
        have HB4 := Lib.hid hbel
        clear hrd hbel
        by_cases hlt2 : k2 < m
        · have hkl : k2 < L.length := by rw [HKL.out]; exact hlt2
          obtain ⟨x, hxe⟩ : ∃ x, x = cut300 (L.getD k2 ByteArray.empty) := ⟨_, rfl⟩
          have hx : w4.cell? ⟨g, k2, none⟩ = some (.string x) := by
            rw [hrow.cellAt k2 (by omega), rowAt_get L m k2 hkl, if_pos hlt2, hxe]
          have hxs : x.size ≤ 300 := by rw [hxe]; exact cut300_size _
          have HS := Lib.hid (show textsFrom L k2 ++ mo = textS x ++ (textsFrom L (k2 + 1) ++ mo) by rw [textsFrom_step L k2 hkl, ← hxe, ByteArray.append_assoc])
          have hts : (textsFrom L (k2 + 1) ++ mo).size ≤ 1000000 := by
            have := textsFrom_size L (k2 + 1) (by omega)
            have := HKL.out
            rw [ByteArray.size_append]; omega
          have HX := Lib.hid (readsT x (textsFrom L (k2 + 1) ++ mo) (by omega) hts)
          clear hrow hxe hkl
          have hgw4 : g ≠ wr.heap.size := by omega
          go_wp2_with fail
          go_region_held3 (fun w' => w'.cell? ⟨g, k2, none⟩ = some (.string x)) (first | go_keep | (refine World.grownBy.cell (by assumption) (by assumption) ?_; simp; omega))
            (first | (go_at_call 22; refine (HX.out _ _ (by rw [← HS.out]; exact HRD.out)).mono ?_; rintro e w5 ⟨rfl, n5, g5⟩) | (go_at_call 24; refine (ok_any _ _ _ _ n5).mono ?_; rintro e w6 ⟨rfl, rfl⟩))
          have HB5 := Lib.hid (below_grown (HB4.out.drew) g5 HB4.out.size (by omega))
          have HROW5 := Lib.hid ((HROW4.out.drew).kept g5 (.inr (by simp [Value.ownBlock]; omega)))
          have N5 := Lib.hid n5
          clear n5 g5
          go_wp2_with fail
          go_roundw
          case rel => exact ⟨k2 + 1, by omega, by go_num, N5.out, HROW5.out, HB5.out⟩
          case measure => simp [intOf]; omega
        · have hN : RdT 57 wr.heap.size mo false w4 := by
            have h := HRD.out
            rw [show k2 = L.length by have := HKL.out; omega] at h
            have e : textsFrom L L.length = ByteArray.empty := by simp [textsFrom]
            rw [e, ByteArray.empty_append] at h
            exact h
          have HN := Lib.hid hN
          clear hN hrow
          have hend := fun W h => end_any wr.heap.size mo false W h
          have HE := Lib.hid hend
          clear hend
          cases hq : mo.toList.isEmpty
          all_goals
            rw [hq] at HE
            go_wp2_with fail
            refine (HE.out _ HN.out).mono ?_
            rintro e w6 ⟨rfl, rfl⟩
            go_wp2_with fail
            refine (works_any _).mono ?_
            rintro e w9 ⟨rfl, b9⟩
            go_wp2_with fail
            go_ret
            exact ⟨rfl, below_then HB4.out b9 HB4.out.size⟩
set_option maxHeartbeats 2000000 in
theorem texts_zero (a : Option Addr) (cap : Nat) (hcap : cap ≤ 9223372036854775807) (more : ByteArray) (hmore : more.size ≤ 9223372036854775807) (w : World) :
    Calls Try.prog 8 #[.slice a 0 cap, .string more] w fun e w' => e = .returned (.bool true) ∧ Below w.heap.size w w' := by
  have hmin : min (0 : Int) 12 = 0 := by decide
  cases a
  all_goals
    go_enter Try.func8, Try.ntmps8
    go_wp2_with fail
    refine wp_loop_rounds 1 ?_
    rw [rounds_succ]
    go_wp2_with fail
    have hmo : (more.extract 0 (min (more.size : Int) 50).toNat).size ≤ 50 := by simp only [ByteArray.size_extract]; omega
    generalize more.extract 0 (min (more.size : Int) 50).toNat = mo at *
    refine (new_rd _ _).mono ?_
    rintro e w2 ⟨rfl, n2, b2⟩
    have e0 : (⟨#[]⟩ ++ mo : ByteArray) = mo := ByteArray.empty_append
    rw [e0] at n2
    have N2 := Lib.hid (show RdT 57 (w.heap.size + 1) mo false w2 by simpa using n2)
    have B2 := Lib.hid (below_then ((Below.refl w.heap.size w).alloc (Nat.le_refl _) _) b2 (by simp))
    have E2 := Lib.hid (fun W h => end_any (w.heap.size + 1) mo false W h)
    clear n2 b2 e0
    go_wp2_with fail
    refine wp_loop_rounds 1 ?_
    rw [rounds_succ]
    cases hq : mo.toList.isEmpty
    all_goals
      rw [hq] at E2
      go_wp2_with fail
      refine (E2.out _ N2.out).mono ?_
      rintro e w6 ⟨rfl, rfl⟩
      go_wp2_with fail
      refine (works_any _).mono ?_
      rintro e w9 ⟨rfl, b9⟩
      go_wp2_with fail
      go_ret
      exact ⟨rfl, below_then B2.out b9 B2.out.size⟩
theorem walk_WireTexts (a : Option Addr) (len cap : Nat) (more : ByteArray) (hmore : more.size ≤ maxLen) (w : World)
    (h : cap ≤ maxLen ∧ (len = 0 ∨ ∃ b off ss, a = some ⟨b, off, none⟩ ∧ 0 < len ∧ len ≤ cap ∧ len ≤ ss.length ∧ TextRow w b off ss)) :
    Calls Try.prog 8 #[.slice a len cap, .string more] w fun e w' => e = .returned (.bool true) ∧ Below w.heap.size w w' := by
  unfold maxLen at hmore h
  obtain ⟨hc, h⟩ := h
  rcases h with rfl | ⟨b, off, ss, rfl, h0, hl, hs, hr⟩
  · exact texts_zero a cap hc more hmore w
  · refine texts_row b off len cap (ss.take (min (len : Int) 12).toNat) h0 hl hc (by rw [List.length_take]; omega) more hmore w ⟨hr.1, fun j hj => ?_⟩
    rw [List.length_take] at hj
    have e : (ss.take (min (len : Int) 12).toNat).getD j ByteArray.empty = ss.getD j ByteArray.empty := by
      simp only [List.getD]
      rw [List.getElem?_take_of_lt (by omega)]
    rw [e]
    exact hr.2 j (by omega)
end Go.Proofs.Ythndmaeplnhmlaa
