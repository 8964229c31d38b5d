/- Abilities boxed; aims, runs. -/
import Derived.Test.YtfhmadlobdklbaaDoorCardC
namespace Go.Proofs.YtfhmadlobdklbaaDoor
open Go.RowKit
set_option linter.unusedVariables false
set_option linter.unusedSimpArgs false

/-- The slice of address a and capacity c reads as these numbers. -/
def IsL (w : World) (a : Option Addr) (c : Nat) (L : List Int) : Prop :=
  L.length ≤ c ∧ c ≤ 9223372036854775807 ∧ (L.length = 0 ∨ ∃ b off, a = some ⟨b, off, none⟩ ∧ b < w.heap.size ∧ ∀ j (h : j < L.length), w.cell? ⟨b, off + j, none⟩ = some (.int .i64 L[j]))
theorem IsL.next {w w' : World} {a : Option Addr} {c : Nat} {L : List Int} (h : IsL w a c L) (k : Below w.heap.size w w') : IsL w' a c L := by
  obtain ⟨h1, h2, h3 | ⟨b, off, h3, h4, h5⟩⟩ := h
  · exact ⟨h1, h2, .inl h3⟩
  · exact ⟨h1, h2, .inr ⟨b, off, h3, Nat.lt_of_lt_of_le h4 k.size, fun j hj => (k.cell (p := ⟨b, off + j, none⟩) h4).trans (h5 j hj)⟩⟩
theorem IsL.at {w : World} {a : Option Addr} {c : Nat} {L : List Int} (h : IsL w a c L) (k : Nat) (hk : k < L.length) : ∃ b off x, x = L[k] ∧ a = some ⟨b, off, none⟩ ∧ w.cell? ⟨b, off + k, none⟩ = some (.int .i64 x) := by
  obtain ⟨h1, h2, h3 | ⟨b, off, h3, h4, h5⟩⟩ := h
  · omega
  · exact ⟨b, off, _, rfl, h3, h5 k hk⟩
theorem IsL.nil (w : World) : IsL w none 0 [] := ⟨by simp, by omega, .inl rfl⟩
theorem isL_row {w : World} {a : Option Addr} {c n : Nat} {L : List Int} (hn : L.length = n) (h : Row w a c 1 n (L.map (Value.int .i64))) : IsL w a c L := by
  subst hn
  obtain ⟨h1, h2, h3 | ⟨b, off, h3, h4, h5⟩⟩ := h
  · exact ⟨h1, h2, .inl h3⟩
  · exact ⟨h1, h2, .inr ⟨b, off, h3, h4, fun j hj => (h5 _ (by omega)).trans (by simp [hj])⟩⟩
/-- What an ability's Targets and Code read as. -/
def AbR (w : World) (x : Ab) (T : List Int) (L : List Ins) : Prop := (T.length = x.tn ∧ IsL w x.ta x.tc T) ∧ L.length = x.cn ∧ IsC w x.ca x.cc L
theorem AbR.next {w w' : World} {x : Ab} {T : List Int} {L : List Ins} (h : AbR w x T L) (k : Below w.heap.size w w') : AbR w' x T L := ⟨⟨h.1.1, h.1.2.next k⟩, h.2.1, h.2.2.next k⟩
/-- Block b is this ability. -/
def BoxA (w : World) (b : Nat) (x : Ab) : Prop := b < w.heap.size ∧ ∀ i, i < 13 → w.cell? ⟨b, i, none⟩ = (abCells x)[i]?
theorem BoxA.next {w w' : World} {b : Nat} {x : Ab} (h : BoxA w b x) (k : Below w.heap.size w w') : BoxA w' b x :=
  ⟨Nat.lt_of_lt_of_le h.1 k.size, fun i hi => (k.cell (p := ⟨b, i, none⟩) h.1).trans (h.2 i hi)⟩
theorem boxA_new (w : World) (x : Ab) (T : TypeId) : BoxA (w.alloc (.cells #[.int .i64 x.k, .int .i64 x.ev, .int .i64 x.wh, .int .i64 x.c0, .int .i64 x.c1, .int .i64 x.c2, .int .i64 x.c3, .bool x.tap, .slice x.ta x.tn x.tc, .slice x.ca x.cn x.cc, .int .i64 x.op, .int .i64 x.a, .int .i64 x.b] T)) w.heap.size x :=
  ⟨by simp, fun i hi => by rw [World.cell?_alloc_new]; simp [abCells]⟩
theorem BoxA.cells {w : World} {b : Nat} {x : Ab} (h : BoxA w b x) : w.cell? ⟨b, 0, none⟩ = some (.int .i64 x.k) ∧ w.cell? ⟨b, 1, none⟩ = some (.int .i64 x.ev) ∧ w.cell? ⟨b, 2, none⟩ = some (.int .i64 x.wh) ∧
    w.cell? ⟨b, 3, none⟩ = some (.int .i64 x.c0) ∧ w.cell? ⟨b, 4, none⟩ = some (.int .i64 x.c1) ∧ w.cell? ⟨b, 5, none⟩ = some (.int .i64 x.c2) ∧ w.cell? ⟨b, 6, none⟩ = some (.int .i64 x.c3) ∧
    w.cell? ⟨b, 7, none⟩ = some (.bool x.tap) ∧ w.cell? ⟨b, 8, none⟩ = some (.slice x.ta x.tn x.tc) ∧ w.cell? ⟨b, 9, none⟩ = some (.slice x.ca x.cn x.cc) ∧
    w.cell? ⟨b, 10, none⟩ = some (.int .i64 x.op) ∧ w.cell? ⟨b, 11, none⟩ = some (.int .i64 x.a) ∧ w.cell? ⟨b, 12, none⟩ = some (.int .i64 x.b) :=
  ⟨h.2 0 (by omega), h.2 1 (by omega), h.2 2 (by omega), h.2 3 (by omega), h.2 4 (by omega), h.2 5 (by omega), h.2 6 (by omega), h.2 7 (by omega), h.2 8 (by omega), h.2 9 (by omega), h.2 10 (by omega), h.2 11 (by omega), h.2 12 (by omega)⟩
theorem within_new (L : List Ins) (cs : Array Value) (T : TypeId) (hcs : cs = (insCells L).toArray) (n : Nat) (hn : L.length = n) (hl : n ≤ 1000) (r : Bool) (hr : wi L = r) (w : World) :
    Calls Tryd.prog 13 #[.slice (some ⟨w.heap.size, 0, none⟩) n n] (w.alloc (.cells cs T)) fun e w' => e = .returned (.bool r) ∧ Below w.heap.size w w' :=
  (within_any _ _ L n hn r hr _ (isC_new w L cs T hcs n hn hl)).mono fun e w' ⟨he, hb⟩ => ⟨he, (below_alloc1 _ _).trans (hb.mono (by simp))⟩
theorem within_at (L : List Ins) (cs : Array Value) (T : TypeId) (hcs : cs = (insCells L).toArray) (n : Nat) (hn : L.length = n) (hl : n ≤ 1000) (r : Bool) (hr : wi L = r) (w : World) (b : Nat) (hb : b = w.heap.size) :
    Calls Tryd.prog 13 #[.slice (some ⟨b, 0, none⟩) n n] (w.alloc (.cells cs T)) fun e w' => e = .returned (.bool r) ∧ Below w.heap.size w w' := by
  subst hb
  exact within_new L cs T hcs n hn hl r hr w
theorem wi_one (y lo hi : Int) : wi [⟨y, lo, hi⟩] = btw lo hi y := by simp [wi]
/-- May the targets be? -/
def aimsB (T : List Int) : Bool := T.all (btw 1 6)
set_option maxRecDepth 100000 in
set_option maxHeartbeats 2000000 in
theorem aims_any (x : Ab) (T : List Int) (r : Bool) (hr : aimsB T = r) (w : World) (hn : T.length = x.tn) (h : IsL w x.ta x.tc T) :
    Calls Tryd.prog 34 #[.agg #[.int .i64 x.k, .int .i64 x.ev, .int .i64 x.wh, .int .i64 x.c0, .int .i64 x.c1, .int .i64 x.c2, .int .i64 x.c3, .bool x.tap, .slice x.ta x.tn x.tc, .slice x.ca x.cn x.cc, .int .i64 x.op, .int .i64 x.a, .int .i64 x.b]] w fun e w' => e = .returned (.bool r) ∧ Below w.heap.size w w' := by
  have HR := Lib.hid hr
  have hb := below_alloc1 w (.cells #[.int .i64 x.k, .int .i64 x.ev, .int .i64 x.wh, .int .i64 x.c0, .int .i64 x.c1, .int .i64 x.c2, .int .i64 x.c3, .bool x.tap, .slice x.ta x.tn x.tc, .slice x.ca x.cn x.cc, .int .i64 x.op, .int .i64 x.a, .int .i64 x.b] 62)
  have HL := Lib.hid (h.next hb)
  have HX := Lib.hid (boxA_new w x 62)
  have hcap := h.1
  have hcm := h.2.1
  rw [hn] at hcap
  have HB := Lib.hid hb
  have HN := Lib.hid hn
  clear hr h hb hn
  go_enter Tryd.func34, Tryd.ntmps34
  go_wp2_with fail
  generalize w.alloc (.cells #[.int .i64 x.k, .int .i64 x.ev, .int .i64 x.wh, .int .i64 x.c0, .int .i64 x.c1, .int .i64 x.c2, .int .i64 x.c3, .bool x.tap, .slice x.ta x.tn x.tc, .slice x.ca x.cn x.cc, .int .i64 x.op, .int .i64 x.a, .int .i64 x.b] 62) = W at *
  go_loopw [8] (fun q wr => ∃ k : Nat, q = .int .i64 (k : Int) ∧ k ≤ x.tn ∧ (∀ j (h : j < T.length), j < k → btw 1 6 T[j] = true) ∧ Below W.heap.size W wr) (fun q _ => x.tn - (intOf q).toNat)
  case atStart => exact ⟨0, rfl, Nat.zero_le _, fun j _ hj => by omega, Below.refl _ _⟩
  case round =>
    obtain ⟨k, rfl, hk, hn, hbw⟩ := hrel
    have HT := Lib.hid hn
    have HW := Lib.hid hbw
    clear hn hbw
    by_cases hlt : k < x.tn
    · obtain ⟨b, off, y, hy, hta, x0⟩ := (HL.out.next HW.out).at k (by rw [HN.out]; exact hlt)
      have HY := Lib.hid hy
      clear hy
      cases hone : btw 1 6 y
      · have HV := Lib.hid (show r = false by
          rw [← HR.out]
          refine Bool.eq_false_iff.2 fun hall => ?_
          have := List.all_eq_true.1 hall _ (List.getElem_mem (by rw [HN.out]; exact hlt))
          rw [← HY.out, hone] at this
          cases this)
        rw [hta] at *
        go_wp2_with fail
        refine (within_new [⟨y, 1, 6⟩] _ _ rfl 1 rfl (by omega) false ((wi_one _ _ _).trans hone) _).mono ?_
        rintro e w4 ⟨rfl, hb⟩
        have HW3 := Lib.hid (below_then' HW.out hb HW.out.size)
        clear hb
        go_wp2_with fail
        go_ret
        exact ⟨bool_ret HV.out.symm, HB.out.trans (HW3.out.mono HB.out.size)⟩
      · rw [hta] at *
        go_wp2_with fail
        refine (within_new [⟨y, 1, 6⟩] _ _ rfl 1 rfl (by omega) true ((wi_one _ _ _).trans hone) _).mono ?_
        rintro e w4 ⟨rfl, hb⟩
        have HW3 := Lib.hid (below_then' HW.out hb HW.out.size)
        clear hb
        go_wp2_with fail
        go_roundw
        case rel => exact ⟨k + 1, by go_num, by omega, fun j h1 h2 => by
          by_cases hjk : j = k
          · subst hjk; rw [← HY.out]; exact hone
          · exact HT.out j h1 (by omega), HW3.out⟩
        case measure => simp [intOf]; omega
    · have HV := Lib.hid (show r = true by
        rw [← HR.out]
        refine List.all_eq_true.2 fun y hy => ?_
        obtain ⟨j, hj, rfl⟩ := List.getElem_of_mem hy
        exact HT.out j hj (by have := HN.out; omega))
      go_wp2_with fail
      go_ret
      exact ⟨bool_ret HV.out.symm, HB.out.trans (HW.out.mono HB.out.size)⟩
set_option maxRecDepth 100000 in
set_option maxHeartbeats 2000000 in
theorem runs_any (x : Ab) (T : List Int) (L : List Ins) (cards : Int) (r : Bool) (hr : (chk L x.tn cards == 0) = r) (w : World) (h : AbR w x T L) :
    Calls Tryd.prog 35 #[.agg #[.int .i64 x.k, .int .i64 x.ev, .int .i64 x.wh, .int .i64 x.c0, .int .i64 x.c1, .int .i64 x.c2, .int .i64 x.c3, .bool x.tap, .slice x.ta x.tn x.tc, .slice x.ca x.cn x.cc, .int .i64 x.op, .int .i64 x.a, .int .i64 x.b], .int .i64 cards] w fun e w' => e = .returned (.bool r) ∧ Below w.heap.size w w' := by
  have hb := below_alloc1 w (.cells #[.int .i64 x.k, .int .i64 x.ev, .int .i64 x.wh, .int .i64 x.c0, .int .i64 x.c1, .int .i64 x.c2, .int .i64 x.c3, .bool x.tap, .slice x.ta x.tn x.tc, .slice x.ca x.cn x.cc, .int .i64 x.op, .int .i64 x.a, .int .i64 x.b] 62)
  obtain ⟨q, hq⟩ : ∃ q, chk L x.tn cards = q := ⟨_, rfl⟩
  rw [hq] at hr
  have HQ := Lib.hid hq
  have HC := Lib.hid (h.2.2.next hb)
  have HN := Lib.hid h.2.1
  have HX := Lib.hid (boxA_new w x 62)
  have HB := Lib.hid hb
  clear hq h hb
  have HE := Lib.hid (check_any x.ca x.cc L x.tn cards)
  rw [HN.out, HQ.out] at HE
  go_enter Tryd.func35, Tryd.ntmps35
  go_wp2_with fail
  generalize w.alloc (.cells #[.int .i64 x.k, .int .i64 x.ev, .int .i64 x.wh, .int .i64 x.c0, .int .i64 x.c1, .int .i64 x.c2, .int .i64 x.c3, .bool x.tap, .slice x.ta x.tn x.tc, .slice x.ca x.cn x.cc, .int .i64 x.op, .int .i64 x.a, .int .i64 x.b] 62) = W at *
  refine (HE.out _ HC.out).mono ?_
  rintro e w2 ⟨rfl, hb⟩
  have HB2 := Lib.hid (below_then' HB.out hb HB.out.size)
  clear hb
  go_wp2_with fail
  go_ret
  exact ⟨rfl, HB2.out⟩
end Go.Proofs.YtfhmadlobdklbaaDoor
