/- Texts that belong together: CardC, CardD, CardE, CardEa, CardEt, CardFa, CardFs, CardFr, CardG. -/
import Derived.Test.YtbeaaieaffdgeaaGreatDoorMc
import Derived.ChangeKeysEq
import Derived.Laws.StructEq
import Derived.Laws.EntriesVeiled
import Derived.Deep.RegionWith
import Derived.Deep.RegionHeld3
/- Abilities, as their cells; isOnly. -/
section
namespace Go.Proofs.YtbeaaieaffdgeaaGreatDoor
open Go.RowKit
set_option linter.unusedVariables false
set_option linter.unusedSimpArgs false

/-- An ability's cells: numbers, and where its Targets and its Code lie. -/
structure Ab where
  k : Int
  ev : Int
  wh : Int
  c0 : Int
  c1 : Int
  c2 : Int
  c3 : Int
  tap : Bool
  ta : Option Addr
  tn : Nat
  tc : Nat
  ca : Option Addr
  cn : Nat
  cc : Nat
  op : Int
  a : Int
  b : Int
def abCells (x : Ab) : List Value := [.int .i64 x.k, .int .i64 x.ev, .int .i64 x.wh, .int .i64 x.c0, .int .i64 x.c1, .int .i64 x.c2, .int .i64 x.c3, .bool x.tap, .slice x.ta x.tn x.tc, .slice x.ca x.cn x.cc, .int .i64 x.op, .int .i64 x.a, .int .i64 x.b]
/-- Are the costs one? -/
def costB (x y : Ab) : Bool := x.c0 == y.c0 && (x.c1 == y.c1 && (x.c2 == y.c2 && x.c3 == y.c3))
/-- What isOnly tells. -/
def onlyB (x y : Ab) : Bool := x.ev == y.ev && (x.wh == y.wh && (costB x y && (x.tap == y.tap && ((x.tn : Int) == (y.tn : Int) && ((x.cn : Int) == (y.cn : Int) && (x.op == y.op && (x.a == y.a && x.b == y.b)))))))
theorem part_eq (d : Nat) (xs ys : Array Value) (i : Nat) (x y : Int) (w : World) (hx : xs[i]? = some (.int .i64 x)) (hy : ys[i]? = some (.int .i64 y)) (is : List Nat) :
    (Op.eqItems (d + 1) 3 1 xs ys (i :: is)).run Tryz.prog w = if x == y then (Op.eqItems (d + 1) 3 1 xs ys is).run Tryz.prog w else .ok false w := by
  have p1 := run_part_plain (P := Tryz.prog) (w := w) (e := 3) (by kernel_rfl) (by rw [Nat.mul_one]; exact hx : xs[i * 1]? = some (.int .i64 x))
  have p2 := run_part_plain (P := Tryz.prog) (w := w) (e := 3) (by kernel_rfl) (by rw [Nat.mul_one]; exact hy : ys[i * 1]? = some (.int .i64 y))
  have p3 := run_equalIn_int (P := Tryz.prog) w d 3 .i64 .i64 x y Tryz.underlying3
  simp only [Op.eqItems, Sem.run_bind, p1, p2, p3, Result.andThen_ok]
  cases h : (x == y) <;> simp
theorem equal_mana (a0 a1 a2 a3 b0 b1 b2 b3 : Int) (w : World) :
    (Op.equalIn 10000 35 (.agg #[.int .i64 a0, .int .i64 a1, .int .i64 a2, .int .i64 a3]) (.agg #[.int .i64 b0, .int .i64 b1, .int .i64 b2, .int .i64 b3])).run Tryz.prog w = .ok (a0 == b0 && (a1 == b1 && (a2 == b2 && a3 == b3))) w := by
  obtain ⟨i, hi, _, _, _⟩ := info_parts (show (Tryz.prog.info? 3).map (fun i => (i.zero, i.size, i.bytes)) = some (some (.int .i64 0), 1, 8) by kernel_rfl)
  rw [show (10000 : Nat) = 9999 + 1 from rfl, run_equalIn_array w 9999 _ _ Tryz.underlying35 hi, show Tryz.prog.cellsOf 3 = 1 by kernel_rfl, show List.range 4 = [0, 1, 2, 3] from rfl,
    part_eq 9998 _ _ 0 a0 b0 w rfl rfl, part_eq 9998 _ _ 1 a1 b1 w rfl rfl, part_eq 9998 _ _ 2 a2 b2 w rfl rfl, part_eq 9998 _ _ 3 a3 b3 w rfl rfl]
  cases h0 : (a0 == b0) <;> cases h1 : (a1 == b1) <;> cases h2 : (a2 == b2) <;> cases h3 : (a3 == b3) <;> simp [Op.eqItems]
set_option maxRecDepth 100000 in
set_option maxHeartbeats 4000000 in
theorem isOnly_any (x y : Ab) (r : Bool) (hr : onlyB x y = r) (w : World) :
    Calls Tryz.prog 109 #[.agg #[.int .i64 x.k, .int .i64 x.ev, .int .i64 x.wh, .int .i64 x.c0, .int .i64 x.c1, .int .i64 x.c2, .int .i64 x.c3, .bool x.tap, .slice x.ta x.tn x.tc, .slice x.ca x.cn x.cc, .int .i64 x.op, .int .i64 x.a, .int .i64 x.b], .agg #[.int .i64 y.k, .int .i64 y.ev, .int .i64 y.wh, .int .i64 y.c0, .int .i64 y.c1, .int .i64 y.c2, .int .i64 y.c3, .bool y.tap, .slice y.ta y.tn y.tc, .slice y.ca y.cn y.cc, .int .i64 y.op, .int .i64 y.a, .int .i64 y.b]] w fun e w' => e = .returned (.bool r) ∧ Below w.heap.size w w' := by
  have HR := Lib.hid hr
  clear hr
  have HB := Lib.hid (below_alloc2 w (.cells #[.int .i64 x.k, .int .i64 x.ev, .int .i64 x.wh, .int .i64 x.c0, .int .i64 x.c1, .int .i64 x.c2, .int .i64 x.c3, .bool x.tap, .slice x.ta x.tn x.tc, .slice x.ca x.cn x.cc, .int .i64 x.op, .int .i64 x.a, .int .i64 x.b] 127) (.cells #[.int .i64 y.k, .int .i64 y.ev, .int .i64 y.wh, .int .i64 y.c0, .int .i64 y.c1, .int .i64 y.c2, .int .i64 y.c3, .bool y.tap, .slice y.ta y.tn y.tc, .slice y.ca y.cn y.cc, .int .i64 y.op, .int .i64 y.a, .int .i64 y.b] 127))
  have hq := fun W => equal_mana x.c0 x.c1 x.c2 x.c3 y.c0 y.c1 y.c2 y.c3 W
  obtain ⟨s, hs⟩ : ∃ s, s = costB x y := ⟨_, rfl⟩
  change ∀ W, _ = Result.ok (costB x y) W at hq
  rw [← hs] at hq
  have HS := Lib.hid hs
  clear hs
  cases h1 : (x.ev == y.ev)
  · go_enter Tryz.func109, Tryz.ntmps109
    go_wp2_with fail
    go_ret
    exact ⟨bool_ret (by rw [← HR.out]; simp only [onlyB, HS.out.symm, h1, Bool.and_true, Bool.true_and, Bool.false_and, Bool.and_false]), HB.out⟩
  · skip
    cases h2 : (x.wh == y.wh)
    · go_enter Tryz.func109, Tryz.ntmps109
      go_wp2_with fail
      go_ret
      exact ⟨bool_ret (by rw [← HR.out]; simp only [onlyB, HS.out.symm, h1, h2, Bool.and_true, Bool.true_and, Bool.false_and, Bool.and_false]), HB.out⟩
    · skip
      cases s
      · go_enter Tryz.func109, Tryz.ntmps109
        go_wp2_with fail
        go_ret
        exact ⟨bool_ret (by rw [← HR.out]; simp only [onlyB, HS.out.symm, h1, h2, Bool.and_true, Bool.true_and, Bool.false_and, Bool.and_false]), HB.out⟩
      · skip
        cases h4 : (x.tap == y.tap)
        · go_enter Tryz.func109, Tryz.ntmps109
          go_wp2_with fail
          go_ret
          exact ⟨bool_ret (by rw [← HR.out]; simp only [onlyB, HS.out.symm, h1, h2, h4, Bool.and_true, Bool.true_and, Bool.false_and, Bool.and_false]), HB.out⟩
        · skip
          cases h5 : ((x.tn : Int) == (y.tn : Int))
          · go_enter Tryz.func109, Tryz.ntmps109
            go_wp2_with fail
            go_ret
            exact ⟨bool_ret (by rw [← HR.out]; simp only [onlyB, HS.out.symm, h1, h2, h4, h5, Bool.and_true, Bool.true_and, Bool.false_and, Bool.and_false]), HB.out⟩
          · skip
            cases h6 : ((x.cn : Int) == (y.cn : Int))
            · go_enter Tryz.func109, Tryz.ntmps109
              go_wp2_with fail
              go_ret
              exact ⟨bool_ret (by rw [← HR.out]; simp only [onlyB, HS.out.symm, h1, h2, h4, h5, h6, Bool.and_true, Bool.true_and, Bool.false_and, Bool.and_false]), HB.out⟩
            · skip
              cases h7 : (x.op == y.op)
              · go_enter Tryz.func109, Tryz.ntmps109
                go_wp2_with fail
                go_ret
                exact ⟨bool_ret (by rw [← HR.out]; simp only [onlyB, HS.out.symm, h1, h2, h4, h5, h6, h7, Bool.and_true, Bool.true_and, Bool.false_and, Bool.and_false]), HB.out⟩
              · skip
                cases h8 : (x.a == y.a)
                · go_enter Tryz.func109, Tryz.ntmps109
                  go_wp2_with fail
                  go_ret
                  exact ⟨bool_ret (by rw [← HR.out]; simp only [onlyB, HS.out.symm, h1, h2, h4, h5, h6, h7, h8, Bool.and_true, Bool.true_and, Bool.false_and, Bool.and_false]), HB.out⟩
                · skip
                  cases h9 : (x.b == y.b)
                  · go_enter Tryz.func109, Tryz.ntmps109
                    go_wp2_with fail
                    go_ret
                    exact ⟨bool_ret (by rw [← HR.out]; simp only [onlyB, HS.out.symm, h1, h2, h4, h5, h6, h7, h8, h9, Bool.and_true, Bool.true_and, Bool.false_and, Bool.and_false]), HB.out⟩
                  · go_enter Tryz.func109, Tryz.ntmps109
                    go_wp2_with fail
                    go_ret
                    exact ⟨bool_ret (by rw [← HR.out]; simp only [onlyB, HS.out.symm, h1, h2, h4, h5, h6, h7, h8, h9, Bool.and_true, Bool.true_and, Bool.false_and, Bool.and_false]), HB.out⟩
end Go.Proofs.YtbeaaieaffdgeaaGreatDoor
end
/- Abilities boxed; aims, runs. -/
section
namespace Go.Proofs.YtbeaaieaffdgeaaGreatDoor
open Go.RowKit
set_option linter.unusedVariables false
set_option linter.unusedSimpArgs false

/-- The slice of address a and capacity c reads as these numbers. -/
def IsL (w : World) (a : Option Addr) (c : Nat) (L : List Int) : Prop :=
  L.length ≤ c ∧ c ≤ 9223372036854775807 ∧ (L.length = 0 ∨ ∃ b off, a = some ⟨b, off, none⟩ ∧ b < w.heap.size ∧ ∀ j (h : j < L.length), w.cell? ⟨b, off + j, none⟩ = some (.int .i64 L[j]))
theorem IsL.next {w w' : World} {a : Option Addr} {c : Nat} {L : List Int} (h : IsL w a c L) (k : Below w.heap.size w w') : IsL w' a c L := by
  obtain ⟨h1, h2, h3 | ⟨b, off, h3, h4, h5⟩⟩ := h
  · exact ⟨h1, h2, .inl h3⟩
  · exact ⟨h1, h2, .inr ⟨b, off, h3, Nat.lt_of_lt_of_le h4 k.size, fun j hj => (k.cell (p := ⟨b, off + j, none⟩) h4).trans (h5 j hj)⟩⟩
theorem IsL.at {w : World} {a : Option Addr} {c : Nat} {L : List Int} (h : IsL w a c L) (k : Nat) (hk : k < L.length) : ∃ b off x, x = L[k] ∧ a = some ⟨b, off, none⟩ ∧ w.cell? ⟨b, off + k, none⟩ = some (.int .i64 x) := by
  obtain ⟨h1, h2, h3 | ⟨b, off, h3, h4, h5⟩⟩ := h
  · omega
  · exact ⟨b, off, _, rfl, h3, h5 k hk⟩
theorem IsL.nil (w : World) : IsL w none 0 [] := ⟨by simp, by omega, .inl rfl⟩
theorem isL_row {w : World} {a : Option Addr} {c n : Nat} {L : List Int} (hn : L.length = n) (h : Row w a c 1 n (L.map (Value.int .i64))) : IsL w a c L := by
  subst hn
  obtain ⟨h1, h2, h3 | ⟨b, off, h3, h4, h5⟩⟩ := h
  · exact ⟨h1, h2, .inl h3⟩
  · exact ⟨h1, h2, .inr ⟨b, off, h3, h4, fun j hj => (h5 _ (by omega)).trans (by simp [hj])⟩⟩
/-- What an ability's Targets and Code read as. -/
def AbR (w : World) (x : Ab) (T : List Int) (L : List Ins) : Prop := (T.length = x.tn ∧ IsL w x.ta x.tc T) ∧ L.length = x.cn ∧ IsC w x.ca x.cc L
theorem AbR.next {w w' : World} {x : Ab} {T : List Int} {L : List Ins} (h : AbR w x T L) (k : Below w.heap.size w w') : AbR w' x T L := ⟨⟨h.1.1, h.1.2.next k⟩, h.2.1, h.2.2.next k⟩
/-- Block b is this ability. -/
def BoxA (w : World) (b : Nat) (x : Ab) : Prop := b < w.heap.size ∧ ∀ i, i < 13 → w.cell? ⟨b, i, none⟩ = (abCells x)[i]?
theorem BoxA.next {w w' : World} {b : Nat} {x : Ab} (h : BoxA w b x) (k : Below w.heap.size w w') : BoxA w' b x :=
  ⟨Nat.lt_of_lt_of_le h.1 k.size, fun i hi => (k.cell (p := ⟨b, i, none⟩) h.1).trans (h.2 i hi)⟩
theorem boxA_new (w : World) (x : Ab) (T : TypeId) : BoxA (w.alloc (.cells #[.int .i64 x.k, .int .i64 x.ev, .int .i64 x.wh, .int .i64 x.c0, .int .i64 x.c1, .int .i64 x.c2, .int .i64 x.c3, .bool x.tap, .slice x.ta x.tn x.tc, .slice x.ca x.cn x.cc, .int .i64 x.op, .int .i64 x.a, .int .i64 x.b] T)) w.heap.size x :=
  ⟨by simp, fun i hi => by rw [World.cell?_alloc_new]; simp [abCells]⟩
theorem BoxA.cells {w : World} {b : Nat} {x : Ab} (h : BoxA w b x) : w.cell? ⟨b, 0, none⟩ = some (.int .i64 x.k) ∧ w.cell? ⟨b, 1, none⟩ = some (.int .i64 x.ev) ∧ w.cell? ⟨b, 2, none⟩ = some (.int .i64 x.wh) ∧
    w.cell? ⟨b, 3, none⟩ = some (.int .i64 x.c0) ∧ w.cell? ⟨b, 4, none⟩ = some (.int .i64 x.c1) ∧ w.cell? ⟨b, 5, none⟩ = some (.int .i64 x.c2) ∧ w.cell? ⟨b, 6, none⟩ = some (.int .i64 x.c3) ∧
    w.cell? ⟨b, 7, none⟩ = some (.bool x.tap) ∧ w.cell? ⟨b, 8, none⟩ = some (.slice x.ta x.tn x.tc) ∧ w.cell? ⟨b, 9, none⟩ = some (.slice x.ca x.cn x.cc) ∧
    w.cell? ⟨b, 10, none⟩ = some (.int .i64 x.op) ∧ w.cell? ⟨b, 11, none⟩ = some (.int .i64 x.a) ∧ w.cell? ⟨b, 12, none⟩ = some (.int .i64 x.b) :=
  ⟨h.2 0 (by omega), h.2 1 (by omega), h.2 2 (by omega), h.2 3 (by omega), h.2 4 (by omega), h.2 5 (by omega), h.2 6 (by omega), h.2 7 (by omega), h.2 8 (by omega), h.2 9 (by omega), h.2 10 (by omega), h.2 11 (by omega), h.2 12 (by omega)⟩
theorem within_new (L : List Ins) (cs : Array Value) (T : TypeId) (hcs : cs = (insCells L).toArray) (n : Nat) (hn : L.length = n) (hl : n ≤ 1000) (r : Bool) (hr : wi L = r) (w : World) :
    Calls Tryz.prog 65 #[.slice (some ⟨w.heap.size, 0, none⟩) n n] (w.alloc (.cells cs T)) fun e w' => e = .returned (.bool r) ∧ Below w.heap.size w w' :=
  (within_any _ _ L n hn r hr _ (isC_new w L cs T hcs n hn hl)).mono fun e w' ⟨he, hb⟩ => ⟨he, (below_alloc1 _ _).trans (hb.mono (by simp))⟩
theorem within_at (L : List Ins) (cs : Array Value) (T : TypeId) (hcs : cs = (insCells L).toArray) (n : Nat) (hn : L.length = n) (hl : n ≤ 1000) (r : Bool) (hr : wi L = r) (w : World) (b : Nat) (hb : b = w.heap.size) :
    Calls Tryz.prog 65 #[.slice (some ⟨b, 0, none⟩) n n] (w.alloc (.cells cs T)) fun e w' => e = .returned (.bool r) ∧ Below w.heap.size w w' := by
  subst hb
  exact within_new L cs T hcs n hn hl r hr w
theorem wi_one (y lo hi : Int) : wi [⟨y, lo, hi⟩] = btw lo hi y := by simp [wi]
/-- May the targets be? -/
def aimsB (T : List Int) : Bool := T.all (btw 1 6)
set_option maxRecDepth 100000 in
set_option maxHeartbeats 2000000 in
theorem aims_any (x : Ab) (T : List Int) (r : Bool) (hr : aimsB T = r) (w : World) (hn : T.length = x.tn) (h : IsL w x.ta x.tc T) :
    Calls Tryz.prog 107 #[.agg #[.int .i64 x.k, .int .i64 x.ev, .int .i64 x.wh, .int .i64 x.c0, .int .i64 x.c1, .int .i64 x.c2, .int .i64 x.c3, .bool x.tap, .slice x.ta x.tn x.tc, .slice x.ca x.cn x.cc, .int .i64 x.op, .int .i64 x.a, .int .i64 x.b]] w fun e w' => e = .returned (.bool r) ∧ Below w.heap.size w w' := by
  have HR := Lib.hid hr
  have hb := below_alloc1 w (.cells #[.int .i64 x.k, .int .i64 x.ev, .int .i64 x.wh, .int .i64 x.c0, .int .i64 x.c1, .int .i64 x.c2, .int .i64 x.c3, .bool x.tap, .slice x.ta x.tn x.tc, .slice x.ca x.cn x.cc, .int .i64 x.op, .int .i64 x.a, .int .i64 x.b] 127)
  have HL := Lib.hid (h.next hb)
  have HX := Lib.hid (boxA_new w x 127)
  have hcap := h.1
  have hcm := h.2.1
  rw [hn] at hcap
  have HB := Lib.hid hb
  have HN := Lib.hid hn
  clear hr h hb hn
  go_enter Tryz.func107, Tryz.ntmps107
  go_wp2_with fail
  generalize w.alloc (.cells #[.int .i64 x.k, .int .i64 x.ev, .int .i64 x.wh, .int .i64 x.c0, .int .i64 x.c1, .int .i64 x.c2, .int .i64 x.c3, .bool x.tap, .slice x.ta x.tn x.tc, .slice x.ca x.cn x.cc, .int .i64 x.op, .int .i64 x.a, .int .i64 x.b] 127) = W at *
  go_loopw [8] (fun q wr => ∃ k : Nat, q = .int .i64 (k : Int) ∧ k ≤ x.tn ∧ (∀ j (h : j < T.length), j < k → btw 1 6 T[j] = true) ∧ Below W.heap.size W wr) (fun q _ => x.tn - (intOf q).toNat)
  case atStart => exact ⟨0, rfl, Nat.zero_le _, fun j _ hj => by omega, Below.refl _ _⟩
  case round =>
    obtain ⟨k, rfl, hk, hn, hbw⟩ := hrel
    have HT := Lib.hid hn
    have HW := Lib.hid hbw
    clear hn hbw
    by_cases hlt : k < x.tn
    · obtain ⟨b, off, y, hy, hta, x0⟩ := (HL.out.next HW.out).at k (by rw [HN.out]; exact hlt)
      have HY := Lib.hid hy
      clear hy
      cases hone : btw 1 6 y
      · have HV := Lib.hid (show r = false by
          rw [← HR.out]
          refine Bool.eq_false_iff.2 fun hall => ?_
          have := List.all_eq_true.1 hall _ (List.getElem_mem (by rw [HN.out]; exact hlt))
          rw [← HY.out, hone] at this
          cases this)
        rw [hta] at *
        go_wp2_with fail
        refine (within_new [⟨y, 1, 6⟩] _ _ rfl 1 rfl (by omega) false ((wi_one _ _ _).trans hone) _).mono ?_
        rintro e w4 ⟨rfl, hb⟩
        have HW3 := Lib.hid (below_then' HW.out hb HW.out.size)
        clear hb
        go_wp2_with fail
        go_ret
        exact ⟨bool_ret HV.out.symm, HB.out.trans (HW3.out.mono HB.out.size)⟩
      · rw [hta] at *
        go_wp2_with fail
        refine (within_new [⟨y, 1, 6⟩] _ _ rfl 1 rfl (by omega) true ((wi_one _ _ _).trans hone) _).mono ?_
        rintro e w4 ⟨rfl, hb⟩
        have HW3 := Lib.hid (below_then' HW.out hb HW.out.size)
        clear hb
        go_wp2_with fail
        go_roundw
        case rel => exact ⟨k + 1, by go_num, by omega, fun j h1 h2 => by
          by_cases hjk : j = k
          · subst hjk; rw [← HY.out]; exact hone
          · exact HT.out j h1 (by omega), HW3.out⟩
        case measure => simp [intOf]; omega
    · have HV := Lib.hid (show r = true by
        rw [← HR.out]
        refine List.all_eq_true.2 fun y hy => ?_
        obtain ⟨j, hj, rfl⟩ := List.getElem_of_mem hy
        exact HT.out j hj (by have := HN.out; omega))
      go_wp2_with fail
      go_ret
      exact ⟨bool_ret HV.out.symm, HB.out.trans (HW.out.mono HB.out.size)⟩
set_option maxRecDepth 100000 in
set_option maxHeartbeats 2000000 in
theorem runs_any (x : Ab) (T : List Int) (L : List Ins) (cards : Int) (r : Bool) (hr : (chk L x.tn cards == 0) = r) (w : World) (h : AbR w x T L) :
    Calls Tryz.prog 108 #[.agg #[.int .i64 x.k, .int .i64 x.ev, .int .i64 x.wh, .int .i64 x.c0, .int .i64 x.c1, .int .i64 x.c2, .int .i64 x.c3, .bool x.tap, .slice x.ta x.tn x.tc, .slice x.ca x.cn x.cc, .int .i64 x.op, .int .i64 x.a, .int .i64 x.b], .int .i64 cards] w fun e w' => e = .returned (.bool r) ∧ Below w.heap.size w w' := by
  have hb := below_alloc1 w (.cells #[.int .i64 x.k, .int .i64 x.ev, .int .i64 x.wh, .int .i64 x.c0, .int .i64 x.c1, .int .i64 x.c2, .int .i64 x.c3, .bool x.tap, .slice x.ta x.tn x.tc, .slice x.ca x.cn x.cc, .int .i64 x.op, .int .i64 x.a, .int .i64 x.b] 127)
  obtain ⟨q, hq⟩ : ∃ q, chk L x.tn cards = q := ⟨_, rfl⟩
  rw [hq] at hr
  have HQ := Lib.hid hq
  have HC := Lib.hid (h.2.2.next hb)
  have HN := Lib.hid h.2.1
  have HX := Lib.hid (boxA_new w x 127)
  have HB := Lib.hid hb
  clear hq h hb
  have HE := Lib.hid (check_any x.ca x.cc L x.tn cards)
  rw [HN.out, HQ.out] at HE
  go_enter Tryz.func108, Tryz.ntmps108
  go_wp2_with fail
  generalize w.alloc (.cells #[.int .i64 x.k, .int .i64 x.ev, .int .i64 x.wh, .int .i64 x.c0, .int .i64 x.c1, .int .i64 x.c2, .int .i64 x.c3, .bool x.tap, .slice x.ta x.tn x.tc, .slice x.ca x.cn x.cc, .int .i64 x.op, .int .i64 x.a, .int .i64 x.b] 127) = W at *
  refine (HE.out _ HC.out).mono ?_
  rintro e w2 ⟨rfl, hb⟩
  have HB2 := Lib.hid (below_then' HB.out hb HB.out.size)
  clear hb
  go_wp2_with fail
  go_ret
  exact ⟨rfl, HB2.out⟩
end Go.Proofs.YtbeaaieaffdgeaaGreatDoor
end
/- isSpell, isAct, isTrig. (Written by gen5e.py.) -/
section
namespace Go.Proofs.YtbeaaieaffdgeaaGreatDoor
open Go.RowKit
set_option linter.unusedVariables false
set_option linter.unusedSimpArgs false

/-- May it be, as one of a spell? -/
def spellB (x : Ab) (T : List Int) (L : List Ins) (cards : Int) : Bool := aimsB T && ((chk L x.tn cards == 0) && onlyB x ⟨0, 0, 0, 0, 0, 0, 0, false, x.ta, x.tn, x.tc, x.ca, x.cn, x.cc, 0, 0, 0⟩)
set_option maxRecDepth 100000 in
set_option maxHeartbeats 4000000 in
theorem spell_any (x : Ab) (T : List Int) (L : List Ins) (cards : Int) (r : Bool) (hr : spellB x T L cards = r) (w : World) (h : AbR w x T L) :
    Calls Tryz.prog 95 #[.agg #[.int .i64 x.k, .int .i64 x.ev, .int .i64 x.wh, .int .i64 x.c0, .int .i64 x.c1, .int .i64 x.c2, .int .i64 x.c3, .bool x.tap, .slice x.ta x.tn x.tc, .slice x.ca x.cn x.cc, .int .i64 x.op, .int .i64 x.a, .int .i64 x.b], .int .i64 cards] w fun e w' => e = .returned (.bool r) ∧ Below w.heap.size w w' := by
  have HW := Lib.hid (below_alloc1 w (.cells #[.int .i64 x.k, .int .i64 x.ev, .int .i64 x.wh, .int .i64 x.c0, .int .i64 x.c1, .int .i64 x.c2, .int .i64 x.c3, .bool x.tap, .slice x.ta x.tn x.tc, .slice x.ca x.cn x.cc, .int .i64 x.op, .int .i64 x.a, .int .i64 x.b] 127))
  have HZ := Lib.hid (show w.heap.size + 1 = (w.alloc (.cells #[.int .i64 x.k, .int .i64 x.ev, .int .i64 x.wh, .int .i64 x.c0, .int .i64 x.c1, .int .i64 x.c2, .int .i64 x.c3, .bool x.tap, .slice x.ta x.tn x.tc, .slice x.ca x.cn x.cc, .int .i64 x.op, .int .i64 x.a, .int .i64 x.b] 127)).heap.size by simp)
  have HX := Lib.hid (boxA_new w x 127)
  have HA := Lib.hid (h.next HW.out)
  have HR := Lib.hid hr
  clear hr h
  cases t1 : aimsB T
  · have HV := Lib.hid (show r = false by rw [← HR.out]; simp [spellB, t1])
    have Ht1 := Lib.hid t1
    clear t1
    go_enter Tryz.func95, Tryz.ntmps95
    go_wp2_with fail
    generalize w.alloc (.cells #[.int .i64 x.k, .int .i64 x.ev, .int .i64 x.wh, .int .i64 x.c0, .int .i64 x.c1, .int .i64 x.c2, .int .i64 x.c3, .bool x.tap, .slice x.ta x.tn x.tc, .slice x.ca x.cn x.cc, .int .i64 x.op, .int .i64 x.a, .int .i64 x.b] 127) = W at *
    refine (aims_any x T _ Ht1.out _ (HA.out).1.1 (HA.out).1.2).mono ?_
    rintro e w1 ⟨rfl, hb⟩
    have HB1 := Lib.hid (hb)
    clear hb
    obtain ⟨q0, q1, q2, q3, q4, q5, q6, q7, q8, q9, q10, q11, q12⟩ := (HX.out.next HB1.out).cells
    go_wp2_with fail
    go_ret
    exact ⟨bool_ret (HV.out.symm), HW.out.trans (HB1.out.mono HW.out.size)⟩
  · skip
    cases t2 : (chk L x.tn cards == 0)
    · have HV := Lib.hid (show r = false by rw [← HR.out]; simp [spellB, t1, t2])
      have Ht1 := Lib.hid t1
      have Ht2 := Lib.hid t2
      clear t1 t2
      go_enter Tryz.func95, Tryz.ntmps95
      go_wp2_with fail
      generalize w.alloc (.cells #[.int .i64 x.k, .int .i64 x.ev, .int .i64 x.wh, .int .i64 x.c0, .int .i64 x.c1, .int .i64 x.c2, .int .i64 x.c3, .bool x.tap, .slice x.ta x.tn x.tc, .slice x.ca x.cn x.cc, .int .i64 x.op, .int .i64 x.a, .int .i64 x.b] 127) = W at *
      refine (aims_any x T _ Ht1.out _ (HA.out).1.1 (HA.out).1.2).mono ?_
      rintro e w1 ⟨rfl, hb⟩
      have HB1 := Lib.hid (hb)
      clear hb
      obtain ⟨q0, q1, q2, q3, q4, q5, q6, q7, q8, q9, q10, q11, q12⟩ := (HX.out.next HB1.out).cells
      go_wp2_with fail
      refine (runs_any x T L cards _ Ht2.out _ (HA.out.next HB1.out)).mono ?_
      rintro e w2 ⟨rfl, hb⟩
      have HB2 := Lib.hid (below_then' HB1.out hb HB1.out.size)
      clear hb
      clear q0 q1 q2 q3 q4 q5 q6 q7 q8 q9 q10 q11 q12
      obtain ⟨q0, q1, q2, q3, q4, q5, q6, q7, q8, q9, q10, q11, q12⟩ := (HX.out.next HB2.out).cells
      go_wp2_with fail
      go_ret
      exact ⟨bool_ret (HV.out.symm), HW.out.trans (HB2.out.mono HW.out.size)⟩
    · have HV := Lib.hid (show onlyB x ⟨0, 0, 0, 0, 0, 0, 0, false, x.ta, x.tn, x.tc, x.ca, x.cn, x.cc, 0, 0, 0⟩ = r by rw [← HR.out]; simp [spellB, t1, t2])
      have Ht1 := Lib.hid t1
      have Ht2 := Lib.hid t2
      clear t1 t2
      go_enter Tryz.func95, Tryz.ntmps95
      go_wp2_with fail
      generalize w.alloc (.cells #[.int .i64 x.k, .int .i64 x.ev, .int .i64 x.wh, .int .i64 x.c0, .int .i64 x.c1, .int .i64 x.c2, .int .i64 x.c3, .bool x.tap, .slice x.ta x.tn x.tc, .slice x.ca x.cn x.cc, .int .i64 x.op, .int .i64 x.a, .int .i64 x.b] 127) = W at *
      refine (aims_any x T _ Ht1.out _ (HA.out).1.1 (HA.out).1.2).mono ?_
      rintro e w1 ⟨rfl, hb⟩
      have HB1 := Lib.hid (hb)
      clear hb
      obtain ⟨q0, q1, q2, q3, q4, q5, q6, q7, q8, q9, q10, q11, q12⟩ := (HX.out.next HB1.out).cells
      go_wp2_with fail
      refine (runs_any x T L cards _ Ht2.out _ (HA.out.next HB1.out)).mono ?_
      rintro e w2 ⟨rfl, hb⟩
      have HB2 := Lib.hid (below_then' HB1.out hb HB1.out.size)
      clear hb
      clear q0 q1 q2 q3 q4 q5 q6 q7 q8 q9 q10 q11 q12
      obtain ⟨q0, q1, q2, q3, q4, q5, q6, q7, q8, q9, q10, q11, q12⟩ := (HX.out.next HB2.out).cells
      go_wp2_with fail
      refine (isOnly_any x ⟨0, 0, 0, 0, 0, 0, 0, false, x.ta, x.tn, x.tc, x.ca, x.cn, x.cc, 0, 0, 0⟩ r HV.out _).mono ?_
      rintro e w3 ⟨rfl, hb⟩
      have HB3 := Lib.hid (below_then' HB2.out hb HB2.out.size)
      clear hb
      clear q0 q1 q2 q3 q4 q5 q6 q7 q8 q9 q10 q11 q12
      obtain ⟨q0, q1, q2, q3, q4, q5, q6, q7, q8, q9, q10, q11, q12⟩ := (HX.out.next HB3.out).cells
      go_wp2_with fail
      go_ret
      exact ⟨bool_ret (rfl), HW.out.trans (HB3.out.mono HW.out.size)⟩
end Go.Proofs.YtbeaaieaffdgeaaGreatDoor
end
/- isSpell, isAct, isTrig. (Written by gen5e.py.) -/
section
namespace Go.Proofs.YtbeaaieaffdgeaaGreatDoor
open Go.RowKit
set_option linter.unusedVariables false
set_option linter.unusedSimpArgs false

/-- May it be, as one that is played? -/
def actB (x : Ab) (T : List Int) (L : List Ins) (cards : Int) : Bool := wi (costL 20 x.c0 x.c1 x.c2 x.c3) && (aimsB T && ((chk L x.tn cards == 0) && onlyB x ⟨0, 0, 0, x.c0, x.c1, x.c2, x.c3, x.tap, x.ta, x.tn, x.tc, x.ca, x.cn, x.cc, 0, 0, 0⟩))
set_option maxRecDepth 100000 in
set_option maxHeartbeats 4000000 in
theorem act_any (x : Ab) (T : List Int) (L : List Ins) (cards : Int) (r : Bool) (hr : actB x T L cards = r) (w : World) (h : AbR w x T L) :
    Calls Tryz.prog 96 #[.agg #[.int .i64 x.k, .int .i64 x.ev, .int .i64 x.wh, .int .i64 x.c0, .int .i64 x.c1, .int .i64 x.c2, .int .i64 x.c3, .bool x.tap, .slice x.ta x.tn x.tc, .slice x.ca x.cn x.cc, .int .i64 x.op, .int .i64 x.a, .int .i64 x.b], .int .i64 cards] w fun e w' => e = .returned (.bool r) ∧ Below w.heap.size w w' := by
  have HW := Lib.hid (below_alloc1 w (.cells #[.int .i64 x.k, .int .i64 x.ev, .int .i64 x.wh, .int .i64 x.c0, .int .i64 x.c1, .int .i64 x.c2, .int .i64 x.c3, .bool x.tap, .slice x.ta x.tn x.tc, .slice x.ca x.cn x.cc, .int .i64 x.op, .int .i64 x.a, .int .i64 x.b] 127))
  have HZ := Lib.hid (show w.heap.size + 1 = (w.alloc (.cells #[.int .i64 x.k, .int .i64 x.ev, .int .i64 x.wh, .int .i64 x.c0, .int .i64 x.c1, .int .i64 x.c2, .int .i64 x.c3, .bool x.tap, .slice x.ta x.tn x.tc, .slice x.ca x.cn x.cc, .int .i64 x.op, .int .i64 x.a, .int .i64 x.b] 127)).heap.size by simp)
  have HX := Lib.hid (boxA_new w x 127)
  have HA := Lib.hid (h.next HW.out)
  have HR := Lib.hid hr
  clear hr h
  cases t1 : wi (costL 20 x.c0 x.c1 x.c2 x.c3)
  · have HV := Lib.hid (show r = false by rw [← HR.out]; simp [actB, t1])
    have Ht1 := Lib.hid t1
    clear t1
    go_enter Tryz.func96, Tryz.ntmps96
    go_wp2_with fail
    generalize w.alloc (.cells #[.int .i64 x.k, .int .i64 x.ev, .int .i64 x.wh, .int .i64 x.c0, .int .i64 x.c1, .int .i64 x.c2, .int .i64 x.c3, .bool x.tap, .slice x.ta x.tn x.tc, .slice x.ca x.cn x.cc, .int .i64 x.op, .int .i64 x.a, .int .i64 x.b] 127) = W at *
    refine (isCost_any x.c0 x.c1 x.c2 x.c3 20 _ Ht1.out _).mono ?_
    rintro e w1 ⟨rfl, hb⟩
    have HB1 := Lib.hid (hb)
    clear hb
    obtain ⟨q0, q1, q2, q3, q4, q5, q6, q7, q8, q9, q10, q11, q12⟩ := (HX.out.next HB1.out).cells
    go_wp2_with fail
    go_ret
    exact ⟨bool_ret (HV.out.symm), HW.out.trans (HB1.out.mono HW.out.size)⟩
  · skip
    cases t2 : aimsB T
    · have HV := Lib.hid (show r = false by rw [← HR.out]; simp [actB, t1, t2])
      have Ht1 := Lib.hid t1
      have Ht2 := Lib.hid t2
      clear t1 t2
      go_enter Tryz.func96, Tryz.ntmps96
      go_wp2_with fail
      generalize w.alloc (.cells #[.int .i64 x.k, .int .i64 x.ev, .int .i64 x.wh, .int .i64 x.c0, .int .i64 x.c1, .int .i64 x.c2, .int .i64 x.c3, .bool x.tap, .slice x.ta x.tn x.tc, .slice x.ca x.cn x.cc, .int .i64 x.op, .int .i64 x.a, .int .i64 x.b] 127) = W at *
      refine (isCost_any x.c0 x.c1 x.c2 x.c3 20 _ Ht1.out _).mono ?_
      rintro e w1 ⟨rfl, hb⟩
      have HB1 := Lib.hid (hb)
      clear hb
      obtain ⟨q0, q1, q2, q3, q4, q5, q6, q7, q8, q9, q10, q11, q12⟩ := (HX.out.next HB1.out).cells
      go_wp2_with fail
      refine (aims_any x T _ Ht2.out _ (HA.out.next HB1.out).1.1 (HA.out.next HB1.out).1.2).mono ?_
      rintro e w2 ⟨rfl, hb⟩
      have HB2 := Lib.hid (below_then' HB1.out hb HB1.out.size)
      clear hb
      clear q0 q1 q2 q3 q4 q5 q6 q7 q8 q9 q10 q11 q12
      obtain ⟨q0, q1, q2, q3, q4, q5, q6, q7, q8, q9, q10, q11, q12⟩ := (HX.out.next HB2.out).cells
      go_wp2_with fail
      go_ret
      exact ⟨bool_ret (HV.out.symm), HW.out.trans (HB2.out.mono HW.out.size)⟩
    · skip
      cases t3 : (chk L x.tn cards == 0)
      · have HV := Lib.hid (show r = false by rw [← HR.out]; simp [actB, t1, t2, t3])
        have Ht1 := Lib.hid t1
        have Ht2 := Lib.hid t2
        have Ht3 := Lib.hid t3
        clear t1 t2 t3
        go_enter Tryz.func96, Tryz.ntmps96
        go_wp2_with fail
        generalize w.alloc (.cells #[.int .i64 x.k, .int .i64 x.ev, .int .i64 x.wh, .int .i64 x.c0, .int .i64 x.c1, .int .i64 x.c2, .int .i64 x.c3, .bool x.tap, .slice x.ta x.tn x.tc, .slice x.ca x.cn x.cc, .int .i64 x.op, .int .i64 x.a, .int .i64 x.b] 127) = W at *
        refine (isCost_any x.c0 x.c1 x.c2 x.c3 20 _ Ht1.out _).mono ?_
        rintro e w1 ⟨rfl, hb⟩
        have HB1 := Lib.hid (hb)
        clear hb
        obtain ⟨q0, q1, q2, q3, q4, q5, q6, q7, q8, q9, q10, q11, q12⟩ := (HX.out.next HB1.out).cells
        go_wp2_with fail
        refine (aims_any x T _ Ht2.out _ (HA.out.next HB1.out).1.1 (HA.out.next HB1.out).1.2).mono ?_
        rintro e w2 ⟨rfl, hb⟩
        have HB2 := Lib.hid (below_then' HB1.out hb HB1.out.size)
        clear hb
        clear q0 q1 q2 q3 q4 q5 q6 q7 q8 q9 q10 q11 q12
        obtain ⟨q0, q1, q2, q3, q4, q5, q6, q7, q8, q9, q10, q11, q12⟩ := (HX.out.next HB2.out).cells
        go_wp2_with fail
        refine (runs_any x T L cards _ Ht3.out _ (HA.out.next HB2.out)).mono ?_
        rintro e w3 ⟨rfl, hb⟩
        have HB3 := Lib.hid (below_then' HB2.out hb HB2.out.size)
        clear hb
        clear q0 q1 q2 q3 q4 q5 q6 q7 q8 q9 q10 q11 q12
        obtain ⟨q0, q1, q2, q3, q4, q5, q6, q7, q8, q9, q10, q11, q12⟩ := (HX.out.next HB3.out).cells
        go_wp2_with fail
        go_ret
        exact ⟨bool_ret (HV.out.symm), HW.out.trans (HB3.out.mono HW.out.size)⟩
      · have HV := Lib.hid (show onlyB x ⟨0, 0, 0, x.c0, x.c1, x.c2, x.c3, x.tap, x.ta, x.tn, x.tc, x.ca, x.cn, x.cc, 0, 0, 0⟩ = r by rw [← HR.out]; simp [actB, t1, t2, t3])
        have Ht1 := Lib.hid t1
        have Ht2 := Lib.hid t2
        have Ht3 := Lib.hid t3
        clear t1 t2 t3
        go_enter Tryz.func96, Tryz.ntmps96
        go_wp2_with fail
        generalize w.alloc (.cells #[.int .i64 x.k, .int .i64 x.ev, .int .i64 x.wh, .int .i64 x.c0, .int .i64 x.c1, .int .i64 x.c2, .int .i64 x.c3, .bool x.tap, .slice x.ta x.tn x.tc, .slice x.ca x.cn x.cc, .int .i64 x.op, .int .i64 x.a, .int .i64 x.b] 127) = W at *
        refine (isCost_any x.c0 x.c1 x.c2 x.c3 20 _ Ht1.out _).mono ?_
        rintro e w1 ⟨rfl, hb⟩
        have HB1 := Lib.hid (hb)
        clear hb
        obtain ⟨q0, q1, q2, q3, q4, q5, q6, q7, q8, q9, q10, q11, q12⟩ := (HX.out.next HB1.out).cells
        go_wp2_with fail
        refine (aims_any x T _ Ht2.out _ (HA.out.next HB1.out).1.1 (HA.out.next HB1.out).1.2).mono ?_
        rintro e w2 ⟨rfl, hb⟩
        have HB2 := Lib.hid (below_then' HB1.out hb HB1.out.size)
        clear hb
        clear q0 q1 q2 q3 q4 q5 q6 q7 q8 q9 q10 q11 q12
        obtain ⟨q0, q1, q2, q3, q4, q5, q6, q7, q8, q9, q10, q11, q12⟩ := (HX.out.next HB2.out).cells
        go_wp2_with fail
        refine (runs_any x T L cards _ Ht3.out _ (HA.out.next HB2.out)).mono ?_
        rintro e w3 ⟨rfl, hb⟩
        have HB3 := Lib.hid (below_then' HB2.out hb HB2.out.size)
        clear hb
        clear q0 q1 q2 q3 q4 q5 q6 q7 q8 q9 q10 q11 q12
        obtain ⟨q0, q1, q2, q3, q4, q5, q6, q7, q8, q9, q10, q11, q12⟩ := (HX.out.next HB3.out).cells
        go_wp2_with fail
        refine (isOnly_any x ⟨0, 0, 0, x.c0, x.c1, x.c2, x.c3, x.tap, x.ta, x.tn, x.tc, x.ca, x.cn, x.cc, 0, 0, 0⟩ r HV.out _).mono ?_
        rintro e w4 ⟨rfl, hb⟩
        have HB4 := Lib.hid (below_then' HB3.out hb HB3.out.size)
        clear hb
        clear q0 q1 q2 q3 q4 q5 q6 q7 q8 q9 q10 q11 q12
        obtain ⟨q0, q1, q2, q3, q4, q5, q6, q7, q8, q9, q10, q11, q12⟩ := (HX.out.next HB4.out).cells
        go_wp2_with fail
        go_ret
        exact ⟨bool_ret (rfl), HW.out.trans (HB4.out.mono HW.out.size)⟩
end Go.Proofs.YtbeaaieaffdgeaaGreatDoor
end
/- isSpell, isAct, isTrig. (Written by gen5e.py.) -/
section
namespace Go.Proofs.YtbeaaieaffdgeaaGreatDoor
open Go.RowKit
set_option linter.unusedVariables false
set_option linter.unusedSimpArgs false

/-- May it be, as one that waits? -/
def trigB (x : Ab) (T : List Int) (L : List Ins) (cards : Int) : Bool := wi [⟨x.ev, 1, 6⟩, ⟨x.wh, 0, 2⟩] && ((chk L x.tn cards == 0) && onlyB x ⟨0, x.ev, x.wh, 0, 0, 0, 0, false, none, 0, 0, x.ca, x.cn, x.cc, 0, 0, 0⟩)
set_option maxRecDepth 100000 in
set_option maxHeartbeats 4000000 in
theorem trig_any (x : Ab) (T : List Int) (L : List Ins) (cards : Int) (r : Bool) (hr : trigB x T L cards = r) (w : World) (h : AbR w x T L) :
    Calls Tryz.prog 97 #[.agg #[.int .i64 x.k, .int .i64 x.ev, .int .i64 x.wh, .int .i64 x.c0, .int .i64 x.c1, .int .i64 x.c2, .int .i64 x.c3, .bool x.tap, .slice x.ta x.tn x.tc, .slice x.ca x.cn x.cc, .int .i64 x.op, .int .i64 x.a, .int .i64 x.b], .int .i64 cards] w fun e w' => e = .returned (.bool r) ∧ Below w.heap.size w w' := by
  have HW := Lib.hid (below_alloc1 w (.cells #[.int .i64 x.k, .int .i64 x.ev, .int .i64 x.wh, .int .i64 x.c0, .int .i64 x.c1, .int .i64 x.c2, .int .i64 x.c3, .bool x.tap, .slice x.ta x.tn x.tc, .slice x.ca x.cn x.cc, .int .i64 x.op, .int .i64 x.a, .int .i64 x.b] 127))
  have HZ := Lib.hid (show w.heap.size + 1 = (w.alloc (.cells #[.int .i64 x.k, .int .i64 x.ev, .int .i64 x.wh, .int .i64 x.c0, .int .i64 x.c1, .int .i64 x.c2, .int .i64 x.c3, .bool x.tap, .slice x.ta x.tn x.tc, .slice x.ca x.cn x.cc, .int .i64 x.op, .int .i64 x.a, .int .i64 x.b] 127)).heap.size by simp)
  have HX := Lib.hid (boxA_new w x 127)
  have HA := Lib.hid (h.next HW.out)
  have HR := Lib.hid hr
  clear hr h
  cases t1 : wi [⟨x.ev, 1, 6⟩, ⟨x.wh, 0, 2⟩]
  · have HV := Lib.hid (show r = false by rw [← HR.out]; simp [trigB, t1])
    have Ht1 := Lib.hid t1
    clear t1
    go_enter Tryz.func97, Tryz.ntmps97
    go_wp2_with fail
    generalize w.alloc (.cells #[.int .i64 x.k, .int .i64 x.ev, .int .i64 x.wh, .int .i64 x.c0, .int .i64 x.c1, .int .i64 x.c2, .int .i64 x.c3, .bool x.tap, .slice x.ta x.tn x.tc, .slice x.ca x.cn x.cc, .int .i64 x.op, .int .i64 x.a, .int .i64 x.b] 127) = W at *
    refine (within_at [⟨x.ev, 1, 6⟩, ⟨x.wh, 0, 2⟩] _ _ rfl 2 rfl (by omega) _ Ht1.out _ _ HZ.out).mono ?_
    rintro e w1 ⟨rfl, hb⟩
    have HB1 := Lib.hid (hb)
    clear hb
    obtain ⟨q0, q1, q2, q3, q4, q5, q6, q7, q8, q9, q10, q11, q12⟩ := (HX.out.next HB1.out).cells
    go_wp2_with fail
    go_ret
    exact ⟨bool_ret (HV.out.symm), HW.out.trans (HB1.out.mono HW.out.size)⟩
  · skip
    cases t2 : (chk L x.tn cards == 0)
    · have HV := Lib.hid (show r = false by rw [← HR.out]; simp [trigB, t1, t2])
      have Ht1 := Lib.hid t1
      have Ht2 := Lib.hid t2
      clear t1 t2
      go_enter Tryz.func97, Tryz.ntmps97
      go_wp2_with fail
      generalize w.alloc (.cells #[.int .i64 x.k, .int .i64 x.ev, .int .i64 x.wh, .int .i64 x.c0, .int .i64 x.c1, .int .i64 x.c2, .int .i64 x.c3, .bool x.tap, .slice x.ta x.tn x.tc, .slice x.ca x.cn x.cc, .int .i64 x.op, .int .i64 x.a, .int .i64 x.b] 127) = W at *
      refine (within_at [⟨x.ev, 1, 6⟩, ⟨x.wh, 0, 2⟩] _ _ rfl 2 rfl (by omega) _ Ht1.out _ _ HZ.out).mono ?_
      rintro e w1 ⟨rfl, hb⟩
      have HB1 := Lib.hid (hb)
      clear hb
      obtain ⟨q0, q1, q2, q3, q4, q5, q6, q7, q8, q9, q10, q11, q12⟩ := (HX.out.next HB1.out).cells
      go_wp2_with fail
      refine (runs_any x T L cards _ Ht2.out _ (HA.out.next HB1.out)).mono ?_
      rintro e w2 ⟨rfl, hb⟩
      have HB2 := Lib.hid (below_then' HB1.out hb HB1.out.size)
      clear hb
      clear q0 q1 q2 q3 q4 q5 q6 q7 q8 q9 q10 q11 q12
      obtain ⟨q0, q1, q2, q3, q4, q5, q6, q7, q8, q9, q10, q11, q12⟩ := (HX.out.next HB2.out).cells
      go_wp2_with fail
      go_ret
      exact ⟨bool_ret (HV.out.symm), HW.out.trans (HB2.out.mono HW.out.size)⟩
    · have HV := Lib.hid (show onlyB x ⟨0, x.ev, x.wh, 0, 0, 0, 0, false, none, 0, 0, x.ca, x.cn, x.cc, 0, 0, 0⟩ = r by rw [← HR.out]; simp [trigB, t1, t2])
      have Ht1 := Lib.hid t1
      have Ht2 := Lib.hid t2
      clear t1 t2
      go_enter Tryz.func97, Tryz.ntmps97
      go_wp2_with fail
      generalize w.alloc (.cells #[.int .i64 x.k, .int .i64 x.ev, .int .i64 x.wh, .int .i64 x.c0, .int .i64 x.c1, .int .i64 x.c2, .int .i64 x.c3, .bool x.tap, .slice x.ta x.tn x.tc, .slice x.ca x.cn x.cc, .int .i64 x.op, .int .i64 x.a, .int .i64 x.b] 127) = W at *
      refine (within_at [⟨x.ev, 1, 6⟩, ⟨x.wh, 0, 2⟩] _ _ rfl 2 rfl (by omega) _ Ht1.out _ _ HZ.out).mono ?_
      rintro e w1 ⟨rfl, hb⟩
      have HB1 := Lib.hid (hb)
      clear hb
      obtain ⟨q0, q1, q2, q3, q4, q5, q6, q7, q8, q9, q10, q11, q12⟩ := (HX.out.next HB1.out).cells
      go_wp2_with fail
      refine (runs_any x T L cards _ Ht2.out _ (HA.out.next HB1.out)).mono ?_
      rintro e w2 ⟨rfl, hb⟩
      have HB2 := Lib.hid (below_then' HB1.out hb HB1.out.size)
      clear hb
      clear q0 q1 q2 q3 q4 q5 q6 q7 q8 q9 q10 q11 q12
      obtain ⟨q0, q1, q2, q3, q4, q5, q6, q7, q8, q9, q10, q11, q12⟩ := (HX.out.next HB2.out).cells
      go_wp2_with fail
      refine (isOnly_any x ⟨0, x.ev, x.wh, 0, 0, 0, 0, false, none, 0, 0, x.ca, x.cn, x.cc, 0, 0, 0⟩ r HV.out _).mono ?_
      rintro e w3 ⟨rfl, hb⟩
      have HB3 := Lib.hid (below_then' HB2.out hb HB2.out.size)
      clear hb
      clear q0 q1 q2 q3 q4 q5 q6 q7 q8 q9 q10 q11 q12
      obtain ⟨q0, q1, q2, q3, q4, q5, q6, q7, q8, q9, q10, q11, q12⟩ := (HX.out.next HB3.out).cells
      go_wp2_with fail
      go_ret
      exact ⟨bool_ret (rfl), HW.out.trans (HB3.out.mono HW.out.size)⟩
end Go.Proofs.YtbeaaieaffdgeaaGreatDoor
end
/- The listed tables, as the walks want them. -/
section
namespace Go.Proofs.YtbeaaieaffdgeaaGreatDoor
open Go.RowKit
set_option linter.unusedVariables false
set_option linter.unusedSimpArgs false

def kindsT : List Int := [0, 0, 0, 0, 0, 3, 0, 0, 20, 0, 15, 127, 20, 0, 0, 64, 20, 0, 0, 64]
def layT : List Int := [0, 0, 0, 0, 1, 127, 0, 0, 1, 127, 0, 0, 0, 15, 0, 15, -15, 15, -15, 15]
def insT : List Int := [0, 0, 0, 0, 0, 0, 1, 999, 0, 1, 0, 0, 0, 0, 0, 999, 0, 1, 0, 0]
/-- The package's tables stand as the program's text lays them. -/
structure Tabs (w : World) : Prop where
  size : 3 ≤ w.heap.size
  kinds : ∀ j, j < 20 → w.cell? ⟨0, j, none⟩ = some (.int .i64 (kindsT.getD j 0))
  lay : ∀ j, j < 20 → w.cell? ⟨1, j, none⟩ = some (.int .i64 (layT.getD j 0))
  ins : ∀ j, j < 20 → w.cell? ⟨2, j, none⟩ = some (.int .i64 (insT.getD j 0))
theorem Tabs.next {w w' : World} (h : Tabs w) (k : Below w.heap.size w w') : Tabs w' :=
  ⟨Nat.le_trans h.size k.size, fun j hj => (k.cell (p := ⟨0, j, none⟩) (by have := h.size; show 0 < w.heap.size; omega)).trans (h.kinds j hj), fun j hj => (k.cell (p := ⟨1, j, none⟩) (by have := h.size; show 1 < w.heap.size; omega)).trans (h.lay j hj),
    fun j hj => (k.cell (p := ⟨2, j, none⟩) (by have := h.size; show 2 < w.heap.size; omega)).trans (h.ins j hj)⟩
theorem below_alloc_then {B : Nat} {a b c : World} {o : Obj} (h : Below B a b) (k : Below (b.alloc o).heap.size (b.alloc o) c) (hb : B ≤ b.heap.size) : Below B a c :=
  below_then' (h.alloc hb o) k (by simp; omega)
theorem size_one (w : World) (o : Obj) : w.heap.size + 1 = (w.alloc o).heap.size := by simp
theorem btw_iff (lo hi n : Int) : btw lo hi n = true ↔ lo ≤ n ∧ n ≤ hi := by simp [btw]
theorem wi_two (y lo hi z mo mi : Int) : wi [⟨y, lo, hi⟩, ⟨z, mo, mi⟩] = (btw lo hi y && btw mo mi z) := by simp [wi]
end Go.Proofs.YtbeaaieaffdgeaaGreatDoor
end
/- static. (Written by gen5f.py.) -/
section
namespace Go.Proofs.YtbeaaieaffdgeaaGreatDoor
open Go.RowKit
set_option linter.unusedVariables false
set_option linter.unusedSimpArgs false

/-- May it be, as one that always acts? -/
def staticB (x : Ab) : Bool := wi [⟨x.op, 1, 4⟩, ⟨x.wh, 0, 3⟩] && (wi [⟨x.a, (layT.getD (x.op.toNat * 4 + 0) 0), (layT.getD (x.op.toNat * 4 + 1) 0)⟩, ⟨x.b, (layT.getD (x.op.toNat * 4 + 2) 0), (layT.getD (x.op.toNat * 4 + 3) 0)⟩] && onlyB x ⟨0, 0, x.wh, 0, 0, 0, 0, false, none, 0, 0, none, 0, 0, x.op, x.a, x.b⟩)
set_option maxRecDepth 100000 in
set_option maxHeartbeats 4000000 in
theorem static_any (x : Ab) (cards : Int) (r : Bool) (hr : staticB x = r) (w : World) (hT : Tabs w) :
    Calls Tryz.prog 98 #[.agg #[.int .i64 x.k, .int .i64 x.ev, .int .i64 x.wh, .int .i64 x.c0, .int .i64 x.c1, .int .i64 x.c2, .int .i64 x.c3, .bool x.tap, .slice x.ta x.tn x.tc, .slice x.ca x.cn x.cc, .int .i64 x.op, .int .i64 x.a, .int .i64 x.b], .int .i64 cards] w fun e w' => e = .returned (.bool r) ∧ Below w.heap.size w w' := by
  have HW := Lib.hid (below_alloc1 w (.cells #[.int .i64 x.k, .int .i64 x.ev, .int .i64 x.wh, .int .i64 x.c0, .int .i64 x.c1, .int .i64 x.c2, .int .i64 x.c3, .bool x.tap, .slice x.ta x.tn x.tc, .slice x.ca x.cn x.cc, .int .i64 x.op, .int .i64 x.a, .int .i64 x.b] 127))
  have HZ := Lib.hid (show w.heap.size + 1 = (w.alloc (.cells #[.int .i64 x.k, .int .i64 x.ev, .int .i64 x.wh, .int .i64 x.c0, .int .i64 x.c1, .int .i64 x.c2, .int .i64 x.c3, .bool x.tap, .slice x.ta x.tn x.tc, .slice x.ca x.cn x.cc, .int .i64 x.op, .int .i64 x.a, .int .i64 x.b] 127)).heap.size by simp)
  have HX := Lib.hid (boxA_new w x 127)
  have HT := Lib.hid (hT.next HW.out)
  have HR := Lib.hid hr
  clear hr hT
  cases t1 : wi [⟨x.op, 1, 4⟩, ⟨x.wh, 0, 3⟩]
  · have HV := Lib.hid (show r = false by rw [← HR.out]; simp [staticB, t1])
    have Ht1 := Lib.hid t1
    clear t1
    go_enter Tryz.func98, Tryz.ntmps98
    go_wp2_with fail
    generalize w.alloc (.cells #[.int .i64 x.k, .int .i64 x.ev, .int .i64 x.wh, .int .i64 x.c0, .int .i64 x.c1, .int .i64 x.c2, .int .i64 x.c3, .bool x.tap, .slice x.ta x.tn x.tc, .slice x.ca x.cn x.cc, .int .i64 x.op, .int .i64 x.a, .int .i64 x.b] 127) = W at *
    refine (within_at [⟨x.op, 1, 4⟩, ⟨x.wh, 0, 3⟩] _ _ rfl 2 rfl (by omega) _ Ht1.out _ _ HZ.out).mono ?_
    rintro e w1 ⟨rfl, hb⟩
    have HB1 := Lib.hid hb
    clear hb
    obtain ⟨q0, q1, q2, q3, q4, q5, q6, q7, q8, q9, q10, q11, q12⟩ := (HX.out.next HB1.out).cells
    go_wp2_with fail
    go_ret
    exact ⟨bool_ret HV.out.symm, HW.out.trans (HB1.out.mono HW.out.size)⟩
  · obtain ⟨j, hj, hj1, hj4⟩ : ∃ j : Nat, x.op = (j : Int) ∧ 1 ≤ j ∧ j ≤ 4 := by
      have := (btw_iff _ _ _).1 (Bool.and_eq_true _ _ ▸ wi_two x.op 1 4 x.wh 0 3 ▸ t1).1
      exact ⟨x.op.toNat, by omega, by omega, by omega⟩
    obtain ⟨l0, hl0⟩ : ∃ l, layT.getD (j * 4) 0 = l := ⟨_, rfl⟩
    obtain ⟨l1, hl1⟩ : ∃ l, layT.getD (j * 4 + 1) 0 = l := ⟨_, rfl⟩
    obtain ⟨l2, hl2⟩ : ∃ l, layT.getD (j * 4 + 2) 0 = l := ⟨_, rfl⟩
    obtain ⟨l3, hl3⟩ : ∃ l, layT.getD (j * 4 + 3) 0 = l := ⟨_, rfl⟩
    have HE := Lib.hid (show (wi [⟨x.a, l0, l1⟩, ⟨x.b, l2, l3⟩] && onlyB x ⟨0, 0, x.wh, 0, 0, 0, 0, false, none, 0, 0, none, 0, 0, x.op, x.a, x.b⟩) = r by
      rw [← HR.out, staticB, t1, Bool.true_and]
      simp only [hj, Int.toNat_natCast, Nat.add_zero, hl0, hl1, hl2, hl3])
    have Ht1 := Lib.hid t1
    have HJ := Lib.hid hj
    clear t1 hj
    have HL := Lib.hid (show layT.getD (j * 4) 0 = l0 ∧ layT.getD (j * 4 + 1) 0 = l1 ∧ layT.getD (j * 4 + 2) 0 = l2 ∧ layT.getD (j * 4 + 3) 0 = l3 from ⟨hl0, hl1, hl2, hl3⟩)
    clear hl0 hl1 hl2 hl3
    cases t2 : wi [⟨x.a, l0, l1⟩, ⟨x.b, l2, l3⟩]
    · have HV := Lib.hid (show r = false by rw [← HE.out]; simp only [t2, Bool.false_and])
      have Ht2 := Lib.hid t2
      clear t2
      go_enter Tryz.func98, Tryz.ntmps98
      go_wp2_with fail
      generalize w.alloc (.cells #[.int .i64 x.k, .int .i64 x.ev, .int .i64 x.wh, .int .i64 x.c0, .int .i64 x.c1, .int .i64 x.c2, .int .i64 x.c3, .bool x.tap, .slice x.ta x.tn x.tc, .slice x.ca x.cn x.cc, .int .i64 x.op, .int .i64 x.a, .int .i64 x.b] 127) = W at *
      refine (within_at [⟨x.op, 1, 4⟩, ⟨x.wh, 0, 3⟩] _ _ rfl 2 rfl (by omega) _ Ht1.out _ _ HZ.out).mono ?_
      rintro e w1 ⟨rfl, hb⟩
      have HB1 := Lib.hid hb
      clear hb
      obtain ⟨q0, q1, q2, q3, q4, q5, q6, q7, q8, q9, q10, q11, q12⟩ := (HX.out.next HB1.out).cells
      obtain ⟨m0, m1, m2, m3⟩ : w1.cell? ⟨1, j * 4, none⟩ = some (.int .i64 l0) ∧ w1.cell? ⟨1, j * 4 + 1, none⟩ = some (.int .i64 l1) ∧ w1.cell? ⟨1, j * 4 + 2, none⟩ = some (.int .i64 l2) ∧ w1.cell? ⟨1, j * 4 + 3, none⟩ = some (.int .i64 l3) := by
        have h := (HT.out.next HB1.out).lay
        exact ⟨by rw [h _ (by omega), HL.out.1], by rw [h _ (by omega), HL.out.2.1], by rw [h _ (by omega), HL.out.2.2.1], by rw [h _ (by omega), HL.out.2.2.2]⟩
      rw [HJ.out] at q10
      have hz1 : w.heap.size < w1.heap.size := by have := HB1.out.size; have := HZ.out; omega
      go_wp2_with fail
      refine (within_at [⟨x.a, l0, l1⟩, ⟨x.b, l2, l3⟩] _ _ rfl 2 rfl (by omega) _ Ht2.out _ _ (size_one _ _)).mono ?_
      rintro e w2 ⟨rfl, hb⟩
      have HB2 := Lib.hid (below_alloc_then HB1.out hb HB1.out.size)
      clear hb q0 q1 q2 q3 q4 q5 q6 q7 q8 q9 q10 q11 q12 m0 m1 m2 m3
      obtain ⟨q0, q1, q2, q3, q4, q5, q6, q7, q8, q9, q10, q11, q12⟩ := (HX.out.next HB2.out).cells
      go_wp2_with fail
      go_ret
      exact ⟨bool_ret HV.out.symm, HW.out.trans (HB2.out.mono HW.out.size)⟩
    · have HV := Lib.hid (show onlyB x ⟨0, 0, x.wh, 0, 0, 0, 0, false, none, 0, 0, none, 0, 0, x.op, x.a, x.b⟩ = r by rw [← HE.out]; simp only [t2, Bool.true_and])
      have Ht2 := Lib.hid t2
      clear t2
      go_enter Tryz.func98, Tryz.ntmps98
      go_wp2_with fail
      generalize w.alloc (.cells #[.int .i64 x.k, .int .i64 x.ev, .int .i64 x.wh, .int .i64 x.c0, .int .i64 x.c1, .int .i64 x.c2, .int .i64 x.c3, .bool x.tap, .slice x.ta x.tn x.tc, .slice x.ca x.cn x.cc, .int .i64 x.op, .int .i64 x.a, .int .i64 x.b] 127) = W at *
      refine (within_at [⟨x.op, 1, 4⟩, ⟨x.wh, 0, 3⟩] _ _ rfl 2 rfl (by omega) _ Ht1.out _ _ HZ.out).mono ?_
      rintro e w1 ⟨rfl, hb⟩
      have HB1 := Lib.hid hb
      clear hb
      obtain ⟨q0, q1, q2, q3, q4, q5, q6, q7, q8, q9, q10, q11, q12⟩ := (HX.out.next HB1.out).cells
      obtain ⟨m0, m1, m2, m3⟩ : w1.cell? ⟨1, j * 4, none⟩ = some (.int .i64 l0) ∧ w1.cell? ⟨1, j * 4 + 1, none⟩ = some (.int .i64 l1) ∧ w1.cell? ⟨1, j * 4 + 2, none⟩ = some (.int .i64 l2) ∧ w1.cell? ⟨1, j * 4 + 3, none⟩ = some (.int .i64 l3) := by
        have h := (HT.out.next HB1.out).lay
        exact ⟨by rw [h _ (by omega), HL.out.1], by rw [h _ (by omega), HL.out.2.1], by rw [h _ (by omega), HL.out.2.2.1], by rw [h _ (by omega), HL.out.2.2.2]⟩
      rw [HJ.out] at q10
      have hz1 : w.heap.size < w1.heap.size := by have := HB1.out.size; have := HZ.out; omega
      go_wp2_with fail
      refine (within_at [⟨x.a, l0, l1⟩, ⟨x.b, l2, l3⟩] _ _ rfl 2 rfl (by omega) _ Ht2.out _ _ (size_one _ _)).mono ?_
      rintro e w2 ⟨rfl, hb⟩
      have HB2 := Lib.hid (below_alloc_then HB1.out hb HB1.out.size)
      clear hb q0 q1 q2 q3 q4 q5 q6 q7 q8 q9 q10 q11 q12 m0 m1 m2 m3
      obtain ⟨q0, q1, q2, q3, q4, q5, q6, q7, q8, q9, q10, q11, q12⟩ := (HX.out.next HB2.out).cells
      go_wp2_with fail
      refine (isOnly_any x ⟨0, 0, x.wh, 0, 0, 0, 0, false, none, 0, 0, none, 0, 0, x.op, x.a, x.b⟩ r HV.out _).mono ?_
      rintro e w3 ⟨rfl, hb⟩
      have HB3 := Lib.hid (below_then' HB2.out hb HB2.out.size)
      clear hb
      go_wp2_with fail
      go_ret
      exact ⟨rfl, HW.out.trans (HB3.out.mono HW.out.size)⟩
end Go.Proofs.YtbeaaieaffdgeaaGreatDoor
end
/- repl. (Written by gen5f.py.) -/
section
namespace Go.Proofs.YtbeaaieaffdgeaaGreatDoor
open Go.RowKit
set_option linter.unusedVariables false
set_option linter.unusedSimpArgs false

/-- May it be, as one that is done instead? -/
def replB (x : Ab) : Bool := wi [⟨x.ev, 1, 4⟩] && (wi [⟨x.wh, (insT.getD (x.ev.toNat * 4 + 0) 0), (insT.getD (x.ev.toNat * 4 + 1) 0)⟩, ⟨x.a, (insT.getD (x.ev.toNat * 4 + 2) 0), (insT.getD (x.ev.toNat * 4 + 3) 0)⟩] && onlyB x ⟨0, x.ev, x.wh, 0, 0, 0, 0, false, none, 0, 0, none, 0, 0, 0, x.a, 0⟩)
set_option maxRecDepth 100000 in
set_option maxHeartbeats 4000000 in
theorem repl_any (x : Ab) (cards : Int) (r : Bool) (hr : replB x = r) (w : World) (hT : Tabs w) :
    Calls Tryz.prog 99 #[.agg #[.int .i64 x.k, .int .i64 x.ev, .int .i64 x.wh, .int .i64 x.c0, .int .i64 x.c1, .int .i64 x.c2, .int .i64 x.c3, .bool x.tap, .slice x.ta x.tn x.tc, .slice x.ca x.cn x.cc, .int .i64 x.op, .int .i64 x.a, .int .i64 x.b], .int .i64 cards] w fun e w' => e = .returned (.bool r) ∧ Below w.heap.size w w' := by
  have HW := Lib.hid (below_alloc1 w (.cells #[.int .i64 x.k, .int .i64 x.ev, .int .i64 x.wh, .int .i64 x.c0, .int .i64 x.c1, .int .i64 x.c2, .int .i64 x.c3, .bool x.tap, .slice x.ta x.tn x.tc, .slice x.ca x.cn x.cc, .int .i64 x.op, .int .i64 x.a, .int .i64 x.b] 127))
  have HZ := Lib.hid (show w.heap.size + 1 = (w.alloc (.cells #[.int .i64 x.k, .int .i64 x.ev, .int .i64 x.wh, .int .i64 x.c0, .int .i64 x.c1, .int .i64 x.c2, .int .i64 x.c3, .bool x.tap, .slice x.ta x.tn x.tc, .slice x.ca x.cn x.cc, .int .i64 x.op, .int .i64 x.a, .int .i64 x.b] 127)).heap.size by simp)
  have HX := Lib.hid (boxA_new w x 127)
  have HT := Lib.hid (hT.next HW.out)
  have HR := Lib.hid hr
  clear hr hT
  cases t1 : wi [⟨x.ev, 1, 4⟩]
  · have HV := Lib.hid (show r = false by rw [← HR.out]; simp [replB, t1])
    have Ht1 := Lib.hid t1
    clear t1
    go_enter Tryz.func99, Tryz.ntmps99
    go_wp2_with fail
    generalize w.alloc (.cells #[.int .i64 x.k, .int .i64 x.ev, .int .i64 x.wh, .int .i64 x.c0, .int .i64 x.c1, .int .i64 x.c2, .int .i64 x.c3, .bool x.tap, .slice x.ta x.tn x.tc, .slice x.ca x.cn x.cc, .int .i64 x.op, .int .i64 x.a, .int .i64 x.b] 127) = W at *
    refine (within_at [⟨x.ev, 1, 4⟩] _ _ rfl 1 rfl (by omega) _ Ht1.out _ _ HZ.out).mono ?_
    rintro e w1 ⟨rfl, hb⟩
    have HB1 := Lib.hid hb
    clear hb
    obtain ⟨q0, q1, q2, q3, q4, q5, q6, q7, q8, q9, q10, q11, q12⟩ := (HX.out.next HB1.out).cells
    go_wp2_with fail
    go_ret
    exact ⟨bool_ret HV.out.symm, HW.out.trans (HB1.out.mono HW.out.size)⟩
  · obtain ⟨j, hj, hj1, hj4⟩ : ∃ j : Nat, x.ev = (j : Int) ∧ 1 ≤ j ∧ j ≤ 4 := by
      have := (btw_iff _ _ _).1 (wi_one x.ev 1 4 ▸ t1)
      exact ⟨x.ev.toNat, by omega, by omega, by omega⟩
    obtain ⟨l0, hl0⟩ : ∃ l, insT.getD (j * 4) 0 = l := ⟨_, rfl⟩
    obtain ⟨l1, hl1⟩ : ∃ l, insT.getD (j * 4 + 1) 0 = l := ⟨_, rfl⟩
    obtain ⟨l2, hl2⟩ : ∃ l, insT.getD (j * 4 + 2) 0 = l := ⟨_, rfl⟩
    obtain ⟨l3, hl3⟩ : ∃ l, insT.getD (j * 4 + 3) 0 = l := ⟨_, rfl⟩
    have HE := Lib.hid (show (wi [⟨x.wh, l0, l1⟩, ⟨x.a, l2, l3⟩] && onlyB x ⟨0, x.ev, x.wh, 0, 0, 0, 0, false, none, 0, 0, none, 0, 0, 0, x.a, 0⟩) = r by
      rw [← HR.out, replB, t1, Bool.true_and]
      simp only [hj, Int.toNat_natCast, Nat.add_zero, hl0, hl1, hl2, hl3])
    have Ht1 := Lib.hid t1
    have HJ := Lib.hid hj
    clear t1 hj
    have HL := Lib.hid (show insT.getD (j * 4) 0 = l0 ∧ insT.getD (j * 4 + 1) 0 = l1 ∧ insT.getD (j * 4 + 2) 0 = l2 ∧ insT.getD (j * 4 + 3) 0 = l3 from ⟨hl0, hl1, hl2, hl3⟩)
    clear hl0 hl1 hl2 hl3
    cases t2 : wi [⟨x.wh, l0, l1⟩, ⟨x.a, l2, l3⟩]
    · have HV := Lib.hid (show r = false by rw [← HE.out]; simp only [t2, Bool.false_and])
      have Ht2 := Lib.hid t2
      clear t2
      go_enter Tryz.func99, Tryz.ntmps99
      go_wp2_with fail
      generalize w.alloc (.cells #[.int .i64 x.k, .int .i64 x.ev, .int .i64 x.wh, .int .i64 x.c0, .int .i64 x.c1, .int .i64 x.c2, .int .i64 x.c3, .bool x.tap, .slice x.ta x.tn x.tc, .slice x.ca x.cn x.cc, .int .i64 x.op, .int .i64 x.a, .int .i64 x.b] 127) = W at *
      refine (within_at [⟨x.ev, 1, 4⟩] _ _ rfl 1 rfl (by omega) _ Ht1.out _ _ HZ.out).mono ?_
      rintro e w1 ⟨rfl, hb⟩
      have HB1 := Lib.hid hb
      clear hb
      obtain ⟨q0, q1, q2, q3, q4, q5, q6, q7, q8, q9, q10, q11, q12⟩ := (HX.out.next HB1.out).cells
      obtain ⟨m0, m1, m2, m3⟩ : w1.cell? ⟨2, j * 4, none⟩ = some (.int .i64 l0) ∧ w1.cell? ⟨2, j * 4 + 1, none⟩ = some (.int .i64 l1) ∧ w1.cell? ⟨2, j * 4 + 2, none⟩ = some (.int .i64 l2) ∧ w1.cell? ⟨2, j * 4 + 3, none⟩ = some (.int .i64 l3) := by
        have h := (HT.out.next HB1.out).ins
        exact ⟨by rw [h _ (by omega), HL.out.1], by rw [h _ (by omega), HL.out.2.1], by rw [h _ (by omega), HL.out.2.2.1], by rw [h _ (by omega), HL.out.2.2.2]⟩
      rw [HJ.out] at q1
      have hz1 : w.heap.size < w1.heap.size := by have := HB1.out.size; have := HZ.out; omega
      go_wp2_with fail
      refine (within_at [⟨x.wh, l0, l1⟩, ⟨x.a, l2, l3⟩] _ _ rfl 2 rfl (by omega) _ Ht2.out _ _ (size_one _ _)).mono ?_
      rintro e w2 ⟨rfl, hb⟩
      have HB2 := Lib.hid (below_alloc_then HB1.out hb HB1.out.size)
      clear hb q0 q1 q2 q3 q4 q5 q6 q7 q8 q9 q10 q11 q12 m0 m1 m2 m3
      obtain ⟨q0, q1, q2, q3, q4, q5, q6, q7, q8, q9, q10, q11, q12⟩ := (HX.out.next HB2.out).cells
      go_wp2_with fail
      go_ret
      exact ⟨bool_ret HV.out.symm, HW.out.trans (HB2.out.mono HW.out.size)⟩
    · have HV := Lib.hid (show onlyB x ⟨0, x.ev, x.wh, 0, 0, 0, 0, false, none, 0, 0, none, 0, 0, 0, x.a, 0⟩ = r by rw [← HE.out]; simp only [t2, Bool.true_and])
      have Ht2 := Lib.hid t2
      clear t2
      go_enter Tryz.func99, Tryz.ntmps99
      go_wp2_with fail
      generalize w.alloc (.cells #[.int .i64 x.k, .int .i64 x.ev, .int .i64 x.wh, .int .i64 x.c0, .int .i64 x.c1, .int .i64 x.c2, .int .i64 x.c3, .bool x.tap, .slice x.ta x.tn x.tc, .slice x.ca x.cn x.cc, .int .i64 x.op, .int .i64 x.a, .int .i64 x.b] 127) = W at *
      refine (within_at [⟨x.ev, 1, 4⟩] _ _ rfl 1 rfl (by omega) _ Ht1.out _ _ HZ.out).mono ?_
      rintro e w1 ⟨rfl, hb⟩
      have HB1 := Lib.hid hb
      clear hb
      obtain ⟨q0, q1, q2, q3, q4, q5, q6, q7, q8, q9, q10, q11, q12⟩ := (HX.out.next HB1.out).cells
      obtain ⟨m0, m1, m2, m3⟩ : w1.cell? ⟨2, j * 4, none⟩ = some (.int .i64 l0) ∧ w1.cell? ⟨2, j * 4 + 1, none⟩ = some (.int .i64 l1) ∧ w1.cell? ⟨2, j * 4 + 2, none⟩ = some (.int .i64 l2) ∧ w1.cell? ⟨2, j * 4 + 3, none⟩ = some (.int .i64 l3) := by
        have h := (HT.out.next HB1.out).ins
        exact ⟨by rw [h _ (by omega), HL.out.1], by rw [h _ (by omega), HL.out.2.1], by rw [h _ (by omega), HL.out.2.2.1], by rw [h _ (by omega), HL.out.2.2.2]⟩
      rw [HJ.out] at q1
      have hz1 : w.heap.size < w1.heap.size := by have := HB1.out.size; have := HZ.out; omega
      go_wp2_with fail
      refine (within_at [⟨x.wh, l0, l1⟩, ⟨x.a, l2, l3⟩] _ _ rfl 2 rfl (by omega) _ Ht2.out _ _ (size_one _ _)).mono ?_
      rintro e w2 ⟨rfl, hb⟩
      have HB2 := Lib.hid (below_alloc_then HB1.out hb HB1.out.size)
      clear hb q0 q1 q2 q3 q4 q5 q6 q7 q8 q9 q10 q11 q12 m0 m1 m2 m3
      obtain ⟨q0, q1, q2, q3, q4, q5, q6, q7, q8, q9, q10, q11, q12⟩ := (HX.out.next HB2.out).cells
      go_wp2_with fail
      refine (isOnly_any x ⟨0, x.ev, x.wh, 0, 0, 0, 0, false, none, 0, 0, none, 0, 0, 0, x.a, 0⟩ r HV.out _).mono ?_
      rintro e w3 ⟨rfl, hb⟩
      have HB3 := Lib.hid (below_then' HB2.out hb HB2.out.size)
      clear hb
      go_wp2_with fail
      go_ret
      exact ⟨rfl, HW.out.trans (HB3.out.mono HW.out.size)⟩
end Go.Proofs.YtbeaaieaffdgeaaGreatDoor
end
/- isAbility. (Written by gen5g.py.) -/
section
namespace Go.Proofs.YtbeaaieaffdgeaaGreatDoor
open Go.RowKit
set_option linter.unusedVariables false
set_option linter.unusedSimpArgs false

theorem within_drew (L : List Ins) (cs : Array Value) (T : TypeId) (hcs : cs = (insCells L).toArray) (n : Nat) (hn : L.length = n) (hl : n ≤ 1000) (r : Bool) (hr : wi L = r) (w : World) :
    Calls Tryz.prog 65 #[.slice (some ⟨w.heap.size, 0, none⟩) n n] (w.alloc (.cells cs T)).drew fun e w' => e = .returned (.bool r) ∧ Below w.heap.size w w' :=
  (within_any _ _ L n hn r hr _ ((isC_new w L cs T hcs n hn hl).next (Below.refl _ _).drew)).mono fun e w' ⟨he, hb⟩ => ⟨he, (below_alloc1 _ _).drew.trans (hb.mono (by simp [World.drew]))⟩
/-- May it be? -/
def abilB (x : Ab) (T : List Int) (L : List Ins) (cards : Int) : Bool :=
  if x.k = 1 then spellB x T L cards else if x.k = 2 then actB x T L cards else if x.k = 3 then trigB x T L cards else if x.k = 4 then staticB x else if x.k = 5 then replB x else false
set_option maxRecDepth 100000 in
set_option maxHeartbeats 4000000 in
theorem isAbility_spell (x : Ab) (hk : x.k = 1) (T : List Int) (L : List Ins) (cards : Int) (r : Bool) (hr : spellB x T L cards = r) (w : World) (h : AbR w x T L) :
    Calls Tryz.prog 86 #[.agg #[.int .i64 x.k, .int .i64 x.ev, .int .i64 x.wh, .int .i64 x.c0, .int .i64 x.c1, .int .i64 x.c2, .int .i64 x.c3, .bool x.tap, .slice x.ta x.tn x.tc, .slice x.ca x.cn x.cc, .int .i64 x.op, .int .i64 x.a, .int .i64 x.b], .int .i64 cards] w fun e w' => e = .returned (.bool r) ∧ Below w.heap.size w w' := by
  have HK := Lib.hid hk
  have hf := spell_any x T L cards r hr
  rw [hk] at hf
  have HF := Lib.hid hf
  have HW := Lib.hid (show Below w.heap.size w ((w.alloc (.cells #[.int .i64 x.k, .int .i64 x.ev, .int .i64 x.wh, .int .i64 x.c0, .int .i64 x.c1, .int .i64 x.c2, .int .i64 x.c3, .bool x.tap, .slice x.ta x.tn x.tc, .slice x.ca x.cn x.cc, .int .i64 x.op, .int .i64 x.a, .int .i64 x.b] 127)).alloc (.cells #[.nilFunc, .func (.func 95) #[] #[], .func (.func 96) #[] #[], .func (.func 97) #[] #[], .func (.func 98) #[] #[], .func (.func 99) #[] #[]] 133)) from below_alloc2 w _ _)
  have HX := Lib.hid (show BoxA ((w.alloc (.cells #[.int .i64 x.k, .int .i64 x.ev, .int .i64 x.wh, .int .i64 x.c0, .int .i64 x.c1, .int .i64 x.c2, .int .i64 x.c3, .bool x.tap, .slice x.ta x.tn x.tc, .slice x.ca x.cn x.cc, .int .i64 x.op, .int .i64 x.a, .int .i64 x.b] 127)).alloc (.cells #[.nilFunc, .func (.func 95) #[] #[], .func (.func 96) #[] #[], .func (.func 97) #[] #[], .func (.func 98) #[] #[], .func (.func 99) #[] #[]] 133)) w.heap.size x from (boxA_new w x 127).next (below_alloc1 _ _))
  have HZ := Lib.hid (show w.heap.size + 1 + 1 = ((w.alloc (.cells #[.int .i64 x.k, .int .i64 x.ev, .int .i64 x.wh, .int .i64 x.c0, .int .i64 x.c1, .int .i64 x.c2, .int .i64 x.c3, .bool x.tap, .slice x.ta x.tn x.tc, .slice x.ca x.cn x.cc, .int .i64 x.op, .int .i64 x.a, .int .i64 x.b] 127)).alloc (.cells #[.nilFunc, .func (.func 95) #[] #[], .func (.func 96) #[] #[], .func (.func 97) #[] #[], .func (.func 98) #[] #[], .func (.func 99) #[] #[]] 133)).heap.size by simp)
  have HM := Lib.hid (show ((w.alloc (.cells #[.int .i64 x.k, .int .i64 x.ev, .int .i64 x.wh, .int .i64 x.c0, .int .i64 x.c1, .int .i64 x.c2, .int .i64 x.c3, .bool x.tap, .slice x.ta x.tn x.tc, .slice x.ca x.cn x.cc, .int .i64 x.op, .int .i64 x.a, .int .i64 x.b] 127)).alloc (.cells #[.nilFunc, .func (.func 95) #[] #[], .func (.func 96) #[] #[], .func (.func 97) #[] #[], .func (.func 98) #[] #[], .func (.func 99) #[] #[]] 133)).cell? ⟨w.heap.size + 1, 1, none⟩ = some (.func (.func 95) #[] #[]) by simp)
  have HA := Lib.hid (h.next HW.out)
  clear hr hk hf h
  go_enter Tryz.func86, Tryz.ntmps86
  go_wp2_with fail
  generalize (w.alloc (.cells #[.int .i64 x.k, .int .i64 x.ev, .int .i64 x.wh, .int .i64 x.c0, .int .i64 x.c1, .int .i64 x.c2, .int .i64 x.c3, .bool x.tap, .slice x.ta x.tn x.tc, .slice x.ca x.cn x.cc, .int .i64 x.op, .int .i64 x.a, .int .i64 x.b] 127)).alloc (.cells #[.nilFunc, .func (.func 95) #[] #[], .func (.func 96) #[] #[], .func (.func 97) #[] #[], .func (.func 98) #[] #[], .func (.func 99) #[] #[]] 133) = W at *
  obtain ⟨q0, q1, q2, q3, q4, q5, q6, q7, q8, q9, q10, q11, q12⟩ := HX.out.cells
  rw [HK.out] at q0
  have m1 := HM.out
  go_region_with (first | (go_at_call 65; refine (within_drew [⟨1, 1, 5⟩] _ _ rfl 1 rfl (by omega) true (by decide) _).mono ?_; rintro e w1 ⟨rfl, hb⟩; have HB1 := Lib.hid hb; clear hb q0 q1 q2 q3 q4 q5 q6 q7 q8 q9 q10 q11 q12 m1; obtain ⟨q0, q1, q2, q3, q4, q5, q6, q7, q8, q9, q10, q11, q12⟩ := (HX.out.next HB1.out).cells; rw [HK.out] at q0; have m1 := (HB1.out.cell (p := ⟨w.heap.size + 1, 1, none⟩) (by have := HZ.out; show w.heap.size + 1 < W.heap.size; omega)).trans HM.out; have HA1 := Lib.hid (HA.out.next HB1.out)) | (go_at_call 95; refine (HF.out _ HA1.out).mono ?_; rintro e w2 ⟨rfl, hb⟩; have HB2 := Lib.hid (below_then' HB1.out hb HB1.out.size); clear hb))
  all_goals
    go_wp2_with fail
    go_ret
    exact ⟨rfl, HW.out.trans (HB2.out.mono HW.out.size)⟩
set_option maxRecDepth 100000 in
set_option maxHeartbeats 4000000 in
theorem isAbility_act (x : Ab) (hk : x.k = 2) (T : List Int) (L : List Ins) (cards : Int) (r : Bool) (hr : actB x T L cards = r) (w : World) (h : AbR w x T L) :
    Calls Tryz.prog 86 #[.agg #[.int .i64 x.k, .int .i64 x.ev, .int .i64 x.wh, .int .i64 x.c0, .int .i64 x.c1, .int .i64 x.c2, .int .i64 x.c3, .bool x.tap, .slice x.ta x.tn x.tc, .slice x.ca x.cn x.cc, .int .i64 x.op, .int .i64 x.a, .int .i64 x.b], .int .i64 cards] w fun e w' => e = .returned (.bool r) ∧ Below w.heap.size w w' := by
  have HK := Lib.hid hk
  have hf := act_any x T L cards r hr
  rw [hk] at hf
  have HF := Lib.hid hf
  have HW := Lib.hid (show Below w.heap.size w ((w.alloc (.cells #[.int .i64 x.k, .int .i64 x.ev, .int .i64 x.wh, .int .i64 x.c0, .int .i64 x.c1, .int .i64 x.c2, .int .i64 x.c3, .bool x.tap, .slice x.ta x.tn x.tc, .slice x.ca x.cn x.cc, .int .i64 x.op, .int .i64 x.a, .int .i64 x.b] 127)).alloc (.cells #[.nilFunc, .func (.func 95) #[] #[], .func (.func 96) #[] #[], .func (.func 97) #[] #[], .func (.func 98) #[] #[], .func (.func 99) #[] #[]] 133)) from below_alloc2 w _ _)
  have HX := Lib.hid (show BoxA ((w.alloc (.cells #[.int .i64 x.k, .int .i64 x.ev, .int .i64 x.wh, .int .i64 x.c0, .int .i64 x.c1, .int .i64 x.c2, .int .i64 x.c3, .bool x.tap, .slice x.ta x.tn x.tc, .slice x.ca x.cn x.cc, .int .i64 x.op, .int .i64 x.a, .int .i64 x.b] 127)).alloc (.cells #[.nilFunc, .func (.func 95) #[] #[], .func (.func 96) #[] #[], .func (.func 97) #[] #[], .func (.func 98) #[] #[], .func (.func 99) #[] #[]] 133)) w.heap.size x from (boxA_new w x 127).next (below_alloc1 _ _))
  have HZ := Lib.hid (show w.heap.size + 1 + 1 = ((w.alloc (.cells #[.int .i64 x.k, .int .i64 x.ev, .int .i64 x.wh, .int .i64 x.c0, .int .i64 x.c1, .int .i64 x.c2, .int .i64 x.c3, .bool x.tap, .slice x.ta x.tn x.tc, .slice x.ca x.cn x.cc, .int .i64 x.op, .int .i64 x.a, .int .i64 x.b] 127)).alloc (.cells #[.nilFunc, .func (.func 95) #[] #[], .func (.func 96) #[] #[], .func (.func 97) #[] #[], .func (.func 98) #[] #[], .func (.func 99) #[] #[]] 133)).heap.size by simp)
  have HM := Lib.hid (show ((w.alloc (.cells #[.int .i64 x.k, .int .i64 x.ev, .int .i64 x.wh, .int .i64 x.c0, .int .i64 x.c1, .int .i64 x.c2, .int .i64 x.c3, .bool x.tap, .slice x.ta x.tn x.tc, .slice x.ca x.cn x.cc, .int .i64 x.op, .int .i64 x.a, .int .i64 x.b] 127)).alloc (.cells #[.nilFunc, .func (.func 95) #[] #[], .func (.func 96) #[] #[], .func (.func 97) #[] #[], .func (.func 98) #[] #[], .func (.func 99) #[] #[]] 133)).cell? ⟨w.heap.size + 1, 2, none⟩ = some (.func (.func 96) #[] #[]) by simp)
  have HA := Lib.hid (h.next HW.out)
  clear hr hk hf h
  go_enter Tryz.func86, Tryz.ntmps86
  go_wp2_with fail
  generalize (w.alloc (.cells #[.int .i64 x.k, .int .i64 x.ev, .int .i64 x.wh, .int .i64 x.c0, .int .i64 x.c1, .int .i64 x.c2, .int .i64 x.c3, .bool x.tap, .slice x.ta x.tn x.tc, .slice x.ca x.cn x.cc, .int .i64 x.op, .int .i64 x.a, .int .i64 x.b] 127)).alloc (.cells #[.nilFunc, .func (.func 95) #[] #[], .func (.func 96) #[] #[], .func (.func 97) #[] #[], .func (.func 98) #[] #[], .func (.func 99) #[] #[]] 133) = W at *
  obtain ⟨q0, q1, q2, q3, q4, q5, q6, q7, q8, q9, q10, q11, q12⟩ := HX.out.cells
  rw [HK.out] at q0
  have m1 := HM.out
  go_region_with (first | (go_at_call 65; refine (within_drew [⟨2, 1, 5⟩] _ _ rfl 1 rfl (by omega) true (by decide) _).mono ?_; rintro e w1 ⟨rfl, hb⟩; have HB1 := Lib.hid hb; clear hb q0 q1 q2 q3 q4 q5 q6 q7 q8 q9 q10 q11 q12 m1; obtain ⟨q0, q1, q2, q3, q4, q5, q6, q7, q8, q9, q10, q11, q12⟩ := (HX.out.next HB1.out).cells; rw [HK.out] at q0; have m1 := (HB1.out.cell (p := ⟨w.heap.size + 1, 2, none⟩) (by have := HZ.out; show w.heap.size + 1 < W.heap.size; omega)).trans HM.out; have HA1 := Lib.hid (HA.out.next HB1.out)) | (go_at_call 96; refine (HF.out _ HA1.out).mono ?_; rintro e w2 ⟨rfl, hb⟩; have HB2 := Lib.hid (below_then' HB1.out hb HB1.out.size); clear hb))
  all_goals
    go_wp2_with fail
    go_ret
    exact ⟨rfl, HW.out.trans (HB2.out.mono HW.out.size)⟩
set_option maxRecDepth 100000 in
set_option maxHeartbeats 4000000 in
theorem isAbility_trig (x : Ab) (hk : x.k = 3) (T : List Int) (L : List Ins) (cards : Int) (r : Bool) (hr : trigB x T L cards = r) (w : World) (h : AbR w x T L) :
    Calls Tryz.prog 86 #[.agg #[.int .i64 x.k, .int .i64 x.ev, .int .i64 x.wh, .int .i64 x.c0, .int .i64 x.c1, .int .i64 x.c2, .int .i64 x.c3, .bool x.tap, .slice x.ta x.tn x.tc, .slice x.ca x.cn x.cc, .int .i64 x.op, .int .i64 x.a, .int .i64 x.b], .int .i64 cards] w fun e w' => e = .returned (.bool r) ∧ Below w.heap.size w w' := by
  have HK := Lib.hid hk
  have hf := trig_any x T L cards r hr
  rw [hk] at hf
  have HF := Lib.hid hf
  have HW := Lib.hid (show Below w.heap.size w ((w.alloc (.cells #[.int .i64 x.k, .int .i64 x.ev, .int .i64 x.wh, .int .i64 x.c0, .int .i64 x.c1, .int .i64 x.c2, .int .i64 x.c3, .bool x.tap, .slice x.ta x.tn x.tc, .slice x.ca x.cn x.cc, .int .i64 x.op, .int .i64 x.a, .int .i64 x.b] 127)).alloc (.cells #[.nilFunc, .func (.func 95) #[] #[], .func (.func 96) #[] #[], .func (.func 97) #[] #[], .func (.func 98) #[] #[], .func (.func 99) #[] #[]] 133)) from below_alloc2 w _ _)
  have HX := Lib.hid (show BoxA ((w.alloc (.cells #[.int .i64 x.k, .int .i64 x.ev, .int .i64 x.wh, .int .i64 x.c0, .int .i64 x.c1, .int .i64 x.c2, .int .i64 x.c3, .bool x.tap, .slice x.ta x.tn x.tc, .slice x.ca x.cn x.cc, .int .i64 x.op, .int .i64 x.a, .int .i64 x.b] 127)).alloc (.cells #[.nilFunc, .func (.func 95) #[] #[], .func (.func 96) #[] #[], .func (.func 97) #[] #[], .func (.func 98) #[] #[], .func (.func 99) #[] #[]] 133)) w.heap.size x from (boxA_new w x 127).next (below_alloc1 _ _))
  have HZ := Lib.hid (show w.heap.size + 1 + 1 = ((w.alloc (.cells #[.int .i64 x.k, .int .i64 x.ev, .int .i64 x.wh, .int .i64 x.c0, .int .i64 x.c1, .int .i64 x.c2, .int .i64 x.c3, .bool x.tap, .slice x.ta x.tn x.tc, .slice x.ca x.cn x.cc, .int .i64 x.op, .int .i64 x.a, .int .i64 x.b] 127)).alloc (.cells #[.nilFunc, .func (.func 95) #[] #[], .func (.func 96) #[] #[], .func (.func 97) #[] #[], .func (.func 98) #[] #[], .func (.func 99) #[] #[]] 133)).heap.size by simp)
  have HM := Lib.hid (show ((w.alloc (.cells #[.int .i64 x.k, .int .i64 x.ev, .int .i64 x.wh, .int .i64 x.c0, .int .i64 x.c1, .int .i64 x.c2, .int .i64 x.c3, .bool x.tap, .slice x.ta x.tn x.tc, .slice x.ca x.cn x.cc, .int .i64 x.op, .int .i64 x.a, .int .i64 x.b] 127)).alloc (.cells #[.nilFunc, .func (.func 95) #[] #[], .func (.func 96) #[] #[], .func (.func 97) #[] #[], .func (.func 98) #[] #[], .func (.func 99) #[] #[]] 133)).cell? ⟨w.heap.size + 1, 3, none⟩ = some (.func (.func 97) #[] #[]) by simp)
  have HA := Lib.hid (h.next HW.out)
  clear hr hk hf h
  go_enter Tryz.func86, Tryz.ntmps86
  go_wp2_with fail
  generalize (w.alloc (.cells #[.int .i64 x.k, .int .i64 x.ev, .int .i64 x.wh, .int .i64 x.c0, .int .i64 x.c1, .int .i64 x.c2, .int .i64 x.c3, .bool x.tap, .slice x.ta x.tn x.tc, .slice x.ca x.cn x.cc, .int .i64 x.op, .int .i64 x.a, .int .i64 x.b] 127)).alloc (.cells #[.nilFunc, .func (.func 95) #[] #[], .func (.func 96) #[] #[], .func (.func 97) #[] #[], .func (.func 98) #[] #[], .func (.func 99) #[] #[]] 133) = W at *
  obtain ⟨q0, q1, q2, q3, q4, q5, q6, q7, q8, q9, q10, q11, q12⟩ := HX.out.cells
  rw [HK.out] at q0
  have m1 := HM.out
  go_region_with (first | (go_at_call 65; refine (within_drew [⟨3, 1, 5⟩] _ _ rfl 1 rfl (by omega) true (by decide) _).mono ?_; rintro e w1 ⟨rfl, hb⟩; have HB1 := Lib.hid hb; clear hb q0 q1 q2 q3 q4 q5 q6 q7 q8 q9 q10 q11 q12 m1; obtain ⟨q0, q1, q2, q3, q4, q5, q6, q7, q8, q9, q10, q11, q12⟩ := (HX.out.next HB1.out).cells; rw [HK.out] at q0; have m1 := (HB1.out.cell (p := ⟨w.heap.size + 1, 3, none⟩) (by have := HZ.out; show w.heap.size + 1 < W.heap.size; omega)).trans HM.out; have HA1 := Lib.hid (HA.out.next HB1.out)) | (go_at_call 97; refine (HF.out _ HA1.out).mono ?_; rintro e w2 ⟨rfl, hb⟩; have HB2 := Lib.hid (below_then' HB1.out hb HB1.out.size); clear hb))
  all_goals
    go_wp2_with fail
    go_ret
    exact ⟨rfl, HW.out.trans (HB2.out.mono HW.out.size)⟩
set_option maxRecDepth 100000 in
set_option maxHeartbeats 4000000 in
theorem isAbility_static (x : Ab) (hk : x.k = 4) (cards : Int) (r : Bool) (hr : staticB x = r) (w : World) (h : Tabs w) :
    Calls Tryz.prog 86 #[.agg #[.int .i64 x.k, .int .i64 x.ev, .int .i64 x.wh, .int .i64 x.c0, .int .i64 x.c1, .int .i64 x.c2, .int .i64 x.c3, .bool x.tap, .slice x.ta x.tn x.tc, .slice x.ca x.cn x.cc, .int .i64 x.op, .int .i64 x.a, .int .i64 x.b], .int .i64 cards] w fun e w' => e = .returned (.bool r) ∧ Below w.heap.size w w' := by
  have HK := Lib.hid hk
  have hf := static_any x cards r hr
  rw [hk] at hf
  have HF := Lib.hid hf
  have HW := Lib.hid (show Below w.heap.size w ((w.alloc (.cells #[.int .i64 x.k, .int .i64 x.ev, .int .i64 x.wh, .int .i64 x.c0, .int .i64 x.c1, .int .i64 x.c2, .int .i64 x.c3, .bool x.tap, .slice x.ta x.tn x.tc, .slice x.ca x.cn x.cc, .int .i64 x.op, .int .i64 x.a, .int .i64 x.b] 127)).alloc (.cells #[.nilFunc, .func (.func 95) #[] #[], .func (.func 96) #[] #[], .func (.func 97) #[] #[], .func (.func 98) #[] #[], .func (.func 99) #[] #[]] 133)) from below_alloc2 w _ _)
  have HX := Lib.hid (show BoxA ((w.alloc (.cells #[.int .i64 x.k, .int .i64 x.ev, .int .i64 x.wh, .int .i64 x.c0, .int .i64 x.c1, .int .i64 x.c2, .int .i64 x.c3, .bool x.tap, .slice x.ta x.tn x.tc, .slice x.ca x.cn x.cc, .int .i64 x.op, .int .i64 x.a, .int .i64 x.b] 127)).alloc (.cells #[.nilFunc, .func (.func 95) #[] #[], .func (.func 96) #[] #[], .func (.func 97) #[] #[], .func (.func 98) #[] #[], .func (.func 99) #[] #[]] 133)) w.heap.size x from (boxA_new w x 127).next (below_alloc1 _ _))
  have HZ := Lib.hid (show w.heap.size + 1 + 1 = ((w.alloc (.cells #[.int .i64 x.k, .int .i64 x.ev, .int .i64 x.wh, .int .i64 x.c0, .int .i64 x.c1, .int .i64 x.c2, .int .i64 x.c3, .bool x.tap, .slice x.ta x.tn x.tc, .slice x.ca x.cn x.cc, .int .i64 x.op, .int .i64 x.a, .int .i64 x.b] 127)).alloc (.cells #[.nilFunc, .func (.func 95) #[] #[], .func (.func 96) #[] #[], .func (.func 97) #[] #[], .func (.func 98) #[] #[], .func (.func 99) #[] #[]] 133)).heap.size by simp)
  have HM := Lib.hid (show ((w.alloc (.cells #[.int .i64 x.k, .int .i64 x.ev, .int .i64 x.wh, .int .i64 x.c0, .int .i64 x.c1, .int .i64 x.c2, .int .i64 x.c3, .bool x.tap, .slice x.ta x.tn x.tc, .slice x.ca x.cn x.cc, .int .i64 x.op, .int .i64 x.a, .int .i64 x.b] 127)).alloc (.cells #[.nilFunc, .func (.func 95) #[] #[], .func (.func 96) #[] #[], .func (.func 97) #[] #[], .func (.func 98) #[] #[], .func (.func 99) #[] #[]] 133)).cell? ⟨w.heap.size + 1, 4, none⟩ = some (.func (.func 98) #[] #[]) by simp)
  have HA := Lib.hid (h.next HW.out)
  clear hr hk hf h
  go_enter Tryz.func86, Tryz.ntmps86
  go_wp2_with fail
  generalize (w.alloc (.cells #[.int .i64 x.k, .int .i64 x.ev, .int .i64 x.wh, .int .i64 x.c0, .int .i64 x.c1, .int .i64 x.c2, .int .i64 x.c3, .bool x.tap, .slice x.ta x.tn x.tc, .slice x.ca x.cn x.cc, .int .i64 x.op, .int .i64 x.a, .int .i64 x.b] 127)).alloc (.cells #[.nilFunc, .func (.func 95) #[] #[], .func (.func 96) #[] #[], .func (.func 97) #[] #[], .func (.func 98) #[] #[], .func (.func 99) #[] #[]] 133) = W at *
  obtain ⟨q0, q1, q2, q3, q4, q5, q6, q7, q8, q9, q10, q11, q12⟩ := HX.out.cells
  rw [HK.out] at q0
  have m1 := HM.out
  go_region_with (first | (go_at_call 65; refine (within_drew [⟨4, 1, 5⟩] _ _ rfl 1 rfl (by omega) true (by decide) _).mono ?_; rintro e w1 ⟨rfl, hb⟩; have HB1 := Lib.hid hb; clear hb q0 q1 q2 q3 q4 q5 q6 q7 q8 q9 q10 q11 q12 m1; obtain ⟨q0, q1, q2, q3, q4, q5, q6, q7, q8, q9, q10, q11, q12⟩ := (HX.out.next HB1.out).cells; rw [HK.out] at q0; have m1 := (HB1.out.cell (p := ⟨w.heap.size + 1, 4, none⟩) (by have := HZ.out; show w.heap.size + 1 < W.heap.size; omega)).trans HM.out; have HA1 := Lib.hid (HA.out.next HB1.out)) | (go_at_call 98; refine (HF.out _ HA1.out).mono ?_; rintro e w2 ⟨rfl, hb⟩; have HB2 := Lib.hid (below_then' HB1.out hb HB1.out.size); clear hb))
  all_goals
    go_wp2_with fail
    go_ret
    exact ⟨rfl, HW.out.trans (HB2.out.mono HW.out.size)⟩
set_option maxRecDepth 100000 in
set_option maxHeartbeats 4000000 in
theorem isAbility_repl (x : Ab) (hk : x.k = 5) (cards : Int) (r : Bool) (hr : replB x = r) (w : World) (h : Tabs w) :
    Calls Tryz.prog 86 #[.agg #[.int .i64 x.k, .int .i64 x.ev, .int .i64 x.wh, .int .i64 x.c0, .int .i64 x.c1, .int .i64 x.c2, .int .i64 x.c3, .bool x.tap, .slice x.ta x.tn x.tc, .slice x.ca x.cn x.cc, .int .i64 x.op, .int .i64 x.a, .int .i64 x.b], .int .i64 cards] w fun e w' => e = .returned (.bool r) ∧ Below w.heap.size w w' := by
  have HK := Lib.hid hk
  have hf := repl_any x cards r hr
  rw [hk] at hf
  have HF := Lib.hid hf
  have HW := Lib.hid (show Below w.heap.size w ((w.alloc (.cells #[.int .i64 x.k, .int .i64 x.ev, .int .i64 x.wh, .int .i64 x.c0, .int .i64 x.c1, .int .i64 x.c2, .int .i64 x.c3, .bool x.tap, .slice x.ta x.tn x.tc, .slice x.ca x.cn x.cc, .int .i64 x.op, .int .i64 x.a, .int .i64 x.b] 127)).alloc (.cells #[.nilFunc, .func (.func 95) #[] #[], .func (.func 96) #[] #[], .func (.func 97) #[] #[], .func (.func 98) #[] #[], .func (.func 99) #[] #[]] 133)) from below_alloc2 w _ _)
  have HX := Lib.hid (show BoxA ((w.alloc (.cells #[.int .i64 x.k, .int .i64 x.ev, .int .i64 x.wh, .int .i64 x.c0, .int .i64 x.c1, .int .i64 x.c2, .int .i64 x.c3, .bool x.tap, .slice x.ta x.tn x.tc, .slice x.ca x.cn x.cc, .int .i64 x.op, .int .i64 x.a, .int .i64 x.b] 127)).alloc (.cells #[.nilFunc, .func (.func 95) #[] #[], .func (.func 96) #[] #[], .func (.func 97) #[] #[], .func (.func 98) #[] #[], .func (.func 99) #[] #[]] 133)) w.heap.size x from (boxA_new w x 127).next (below_alloc1 _ _))
  have HZ := Lib.hid (show w.heap.size + 1 + 1 = ((w.alloc (.cells #[.int .i64 x.k, .int .i64 x.ev, .int .i64 x.wh, .int .i64 x.c0, .int .i64 x.c1, .int .i64 x.c2, .int .i64 x.c3, .bool x.tap, .slice x.ta x.tn x.tc, .slice x.ca x.cn x.cc, .int .i64 x.op, .int .i64 x.a, .int .i64 x.b] 127)).alloc (.cells #[.nilFunc, .func (.func 95) #[] #[], .func (.func 96) #[] #[], .func (.func 97) #[] #[], .func (.func 98) #[] #[], .func (.func 99) #[] #[]] 133)).heap.size by simp)
  have HM := Lib.hid (show ((w.alloc (.cells #[.int .i64 x.k, .int .i64 x.ev, .int .i64 x.wh, .int .i64 x.c0, .int .i64 x.c1, .int .i64 x.c2, .int .i64 x.c3, .bool x.tap, .slice x.ta x.tn x.tc, .slice x.ca x.cn x.cc, .int .i64 x.op, .int .i64 x.a, .int .i64 x.b] 127)).alloc (.cells #[.nilFunc, .func (.func 95) #[] #[], .func (.func 96) #[] #[], .func (.func 97) #[] #[], .func (.func 98) #[] #[], .func (.func 99) #[] #[]] 133)).cell? ⟨w.heap.size + 1, 5, none⟩ = some (.func (.func 99) #[] #[]) by simp)
  have HA := Lib.hid (h.next HW.out)
  clear hr hk hf h
  go_enter Tryz.func86, Tryz.ntmps86
  go_wp2_with fail
  generalize (w.alloc (.cells #[.int .i64 x.k, .int .i64 x.ev, .int .i64 x.wh, .int .i64 x.c0, .int .i64 x.c1, .int .i64 x.c2, .int .i64 x.c3, .bool x.tap, .slice x.ta x.tn x.tc, .slice x.ca x.cn x.cc, .int .i64 x.op, .int .i64 x.a, .int .i64 x.b] 127)).alloc (.cells #[.nilFunc, .func (.func 95) #[] #[], .func (.func 96) #[] #[], .func (.func 97) #[] #[], .func (.func 98) #[] #[], .func (.func 99) #[] #[]] 133) = W at *
  obtain ⟨q0, q1, q2, q3, q4, q5, q6, q7, q8, q9, q10, q11, q12⟩ := HX.out.cells
  rw [HK.out] at q0
  have m1 := HM.out
  go_region_with (first | (go_at_call 65; refine (within_drew [⟨5, 1, 5⟩] _ _ rfl 1 rfl (by omega) true (by decide) _).mono ?_; rintro e w1 ⟨rfl, hb⟩; have HB1 := Lib.hid hb; clear hb q0 q1 q2 q3 q4 q5 q6 q7 q8 q9 q10 q11 q12 m1; obtain ⟨q0, q1, q2, q3, q4, q5, q6, q7, q8, q9, q10, q11, q12⟩ := (HX.out.next HB1.out).cells; rw [HK.out] at q0; have m1 := (HB1.out.cell (p := ⟨w.heap.size + 1, 5, none⟩) (by have := HZ.out; show w.heap.size + 1 < W.heap.size; omega)).trans HM.out; have HA1 := Lib.hid (HA.out.next HB1.out)) | (go_at_call 99; refine (HF.out _ HA1.out).mono ?_; rintro e w2 ⟨rfl, hb⟩; have HB2 := Lib.hid (below_then' HB1.out hb HB1.out.size); clear hb))
  all_goals
    go_wp2_with fail
    go_ret
    exact ⟨rfl, HW.out.trans (HB2.out.mono HW.out.size)⟩
set_option maxRecDepth 100000 in
set_option maxHeartbeats 4000000 in
theorem isAbility_none (x : Ab) (hk : btw 1 5 x.k = false) (cards : Int) (w : World) :
    Calls Tryz.prog 86 #[.agg #[.int .i64 x.k, .int .i64 x.ev, .int .i64 x.wh, .int .i64 x.c0, .int .i64 x.c1, .int .i64 x.c2, .int .i64 x.c3, .bool x.tap, .slice x.ta x.tn x.tc, .slice x.ca x.cn x.cc, .int .i64 x.op, .int .i64 x.a, .int .i64 x.b], .int .i64 cards] w fun e w' => e = .returned (.bool false) ∧ Below w.heap.size w w' := by
  have HK := Lib.hid hk
  have HW := Lib.hid (show Below w.heap.size w ((w.alloc (.cells #[.int .i64 x.k, .int .i64 x.ev, .int .i64 x.wh, .int .i64 x.c0, .int .i64 x.c1, .int .i64 x.c2, .int .i64 x.c3, .bool x.tap, .slice x.ta x.tn x.tc, .slice x.ca x.cn x.cc, .int .i64 x.op, .int .i64 x.a, .int .i64 x.b] 127)).alloc (.cells #[.nilFunc, .func (.func 95) #[] #[], .func (.func 96) #[] #[], .func (.func 97) #[] #[], .func (.func 98) #[] #[], .func (.func 99) #[] #[]] 133)) from below_alloc2 w _ _)
  have HX := Lib.hid (show BoxA ((w.alloc (.cells #[.int .i64 x.k, .int .i64 x.ev, .int .i64 x.wh, .int .i64 x.c0, .int .i64 x.c1, .int .i64 x.c2, .int .i64 x.c3, .bool x.tap, .slice x.ta x.tn x.tc, .slice x.ca x.cn x.cc, .int .i64 x.op, .int .i64 x.a, .int .i64 x.b] 127)).alloc (.cells #[.nilFunc, .func (.func 95) #[] #[], .func (.func 96) #[] #[], .func (.func 97) #[] #[], .func (.func 98) #[] #[], .func (.func 99) #[] #[]] 133)) w.heap.size x from (boxA_new w x 127).next (below_alloc1 _ _))
  have HZ := Lib.hid (show w.heap.size + 1 + 1 = ((w.alloc (.cells #[.int .i64 x.k, .int .i64 x.ev, .int .i64 x.wh, .int .i64 x.c0, .int .i64 x.c1, .int .i64 x.c2, .int .i64 x.c3, .bool x.tap, .slice x.ta x.tn x.tc, .slice x.ca x.cn x.cc, .int .i64 x.op, .int .i64 x.a, .int .i64 x.b] 127)).alloc (.cells #[.nilFunc, .func (.func 95) #[] #[], .func (.func 96) #[] #[], .func (.func 97) #[] #[], .func (.func 98) #[] #[], .func (.func 99) #[] #[]] 133)).heap.size by simp)
  clear hk
  go_enter Tryz.func86, Tryz.ntmps86
  go_wp2_with fail
  generalize (w.alloc (.cells #[.int .i64 x.k, .int .i64 x.ev, .int .i64 x.wh, .int .i64 x.c0, .int .i64 x.c1, .int .i64 x.c2, .int .i64 x.c3, .bool x.tap, .slice x.ta x.tn x.tc, .slice x.ca x.cn x.cc, .int .i64 x.op, .int .i64 x.a, .int .i64 x.b] 127)).alloc (.cells #[.nilFunc, .func (.func 95) #[] #[], .func (.func 96) #[] #[], .func (.func 97) #[] #[], .func (.func 98) #[] #[], .func (.func 99) #[] #[]] 133) = W at *
  obtain ⟨q0, q1, q2, q3, q4, q5, q6, q7, q8, q9, q10, q11, q12⟩ := HX.out.cells
  clear q1 q2 q3 q4 q5 q6 q7 q8 q9 q10 q11 q12
  first
    | (go_region_with (first | (go_at_call 65; refine (within_drew [⟨x.k, 1, 5⟩] _ _ rfl 1 rfl (by omega) false ((wi_one _ _ _).trans HK.out) _).mono ?_; rintro e w1 ⟨rfl, hb⟩; have HB1 := Lib.hid hb; clear hb q0)))
    | fail
  all_goals
    go_wp2_with fail
    go_ret
    exact ⟨rfl, HW.out.trans (HB1.out.mono HW.out.size)⟩
theorem isAbility_any (x : Ab) (T : List Int) (L : List Ins) (cards : Int) (r : Bool) (hr : abilB x T L cards = r) (w : World) (h : AbR w x T L) (hT : Tabs w) :
    Calls Tryz.prog 86 #[.agg #[.int .i64 x.k, .int .i64 x.ev, .int .i64 x.wh, .int .i64 x.c0, .int .i64 x.c1, .int .i64 x.c2, .int .i64 x.c3, .bool x.tap, .slice x.ta x.tn x.tc, .slice x.ca x.cn x.cc, .int .i64 x.op, .int .i64 x.a, .int .i64 x.b], .int .i64 cards] w fun e w' => e = .returned (.bool r) ∧ Below w.heap.size w w' := by
  subst hr
  by_cases h1 : x.k = 1
  · exact isAbility_spell x h1 T L cards _ (by simp [abilB, h1]) w h
  · by_cases h2 : x.k = 2
    · exact isAbility_act x h2 T L cards _ (by simp [abilB, h2]) w h
    · by_cases h3 : x.k = 3
      · exact isAbility_trig x h3 T L cards _ (by simp [abilB, h3]) w h
      · by_cases h4 : x.k = 4
        · exact isAbility_static x h4 cards _ (by simp [abilB, h4]) w hT
        · by_cases h5 : x.k = 5
          · exact isAbility_repl x h5 cards _ (by simp [abilB, h5]) w hT
          · have e : abilB x T L cards = false := by simp [abilB, h1, h2, h3, h4, h5]
            rw [e]
            exact isAbility_none x (by simp [btw]; omega) cards w
end Go.Proofs.YtbeaaieaffdgeaaGreatDoor
end
