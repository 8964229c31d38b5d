/- Texts that belong together: CardI, CardK. -/
import Derived.Test.YtbeaaieaffdgeaaDoorMf
/- mayBe. (Written by gen5i.py.) -/
section
namespace Go.Proofs.YtbeaaieaffdgeaaDoor
open Go.RowKit
set_option linter.unusedVariables false
set_option linter.unusedSimpArgs false

/-- Block b is these cells. -/
def LitAt (w : World) (b : Nat) (cs : List Value) : Prop := b < w.heap.size ∧ ∀ i, i < cs.length → w.cell? ⟨b, i, none⟩ = cs[i]?
theorem LitAt.next {w w' : World} {b : Nat} {cs : List Value} (h : LitAt w b cs) (k : Below w.heap.size w w') : LitAt w' b cs :=
  ⟨Nat.lt_of_lt_of_le h.1 k.size, fun i hi => (k.cell (p := ⟨b, i, none⟩) h.1).trans (h.2 i hi)⟩
theorem litAt_new (w : World) (cs : List Value) (T : TypeId) : LitAt (w.alloc (.cells cs.toArray T)) w.heap.size cs :=
  ⟨by simp, fun i hi => by rw [World.cell?_alloc_new]; simp⟩
theorem litAt_one (w : World) (cs : List Value) (T : TypeId) (o : Obj) : LitAt ((w.alloc (.cells cs.toArray T)).alloc o) w.heap.size cs :=
  (litAt_new w cs T).next (below_alloc1 _ _)
theorem litAt_two (w : World) (cs : List Value) (T : TypeId) (o : Obj) : LitAt ((w.alloc o).alloc (.cells cs.toArray T)) (w.heap.size + 1) cs := by
  have := litAt_new (w.alloc o) cs T
  simpa using this
def keysB (k keys : Int) : Bool := if k = 1 then keys == 0 else if k = 2 then btw 0 127 keys else (keys == 0 || keys == 64)
/-- May a card be, but for its abilities? -/
def mayB (y : Cd) : Bool :=
  !y.nm.toList.isEmpty && (btw 1 4 y.k && (wi (costL (if y.k = 1 then 0 else 20) y.c0 y.c1 y.c2 y.c3) && (keysB y.k y.keys &&
    wi [⟨y.col, 0, if y.k = 1 then 3 else 0⟩, ⟨y.pow, 0, if y.k = 2 then 15 else 0⟩, ⟨y.tou, 0, if y.k = 2 then 15 else 0⟩])))
set_option maxRecDepth 100000 in
set_option maxHeartbeats 4000000 in
theorem mayBe_land (y : Cd) (hk : y.k = 1) (hn : y.nm.toList.isEmpty = false) (hy : In64 y.keys) (r : Bool) (hr : mayB y = r) (w : World) (hT : Tabs w) :
    Calls Tryd.prog 51 #[.agg #[.string y.nm, .int .i64 y.k, .int .i64 y.c0, .int .i64 y.c1, .int .i64 y.c2, .int .i64 y.c3, .int .i64 y.col, .int .i64 y.pow, .int .i64 y.tou, .int .i64 y.keys, .slice y.aa y.an y.ac]] w fun e w' => e = .returned (.bool r) ∧ Below w.heap.size w w' := by
  have HW := Lib.hid (below_alloc1 w (.cells #[.string y.nm, .int .i64 y.k, .int .i64 y.c0, .int .i64 y.c1, .int .i64 y.c2, .int .i64 y.c3, .int .i64 y.col, .int .i64 y.pow, .int .i64 y.tou, .int .i64 y.keys, .slice y.aa y.an y.ac] 39))
  have HX := Lib.hid (boxC_new w y 39)
  have HZ := Lib.hid (show w.heap.size + 1 = (w.alloc (.cells #[.string y.nm, .int .i64 y.k, .int .i64 y.c0, .int .i64 y.c1, .int .i64 y.c2, .int .i64 y.c3, .int .i64 y.col, .int .i64 y.pow, .int .i64 y.tou, .int .i64 y.keys, .slice y.aa y.an y.ac] 39)).heap.size by simp)
  have HT := Lib.hid (hT.next HW.out)
  have HK := Lib.hid hk
  have HR := Lib.hid hr
  clear hk hT hr
  cases t1 : wi (costL 0 y.c0 y.c1 y.c2 y.c3)
  · have HV := Lib.hid (show r = false by rw [← HR.out]; simp [mayB, HK.out, t1])
    have H1 := Lib.hid t1
    clear t1
    go_enter Tryd.func51, Tryd.ntmps51
    go_wp2_with fail
    generalize w.alloc (.cells #[.string y.nm, .int .i64 y.k, .int .i64 y.c0, .int .i64 y.c1, .int .i64 y.c2, .int .i64 y.c3, .int .i64 y.col, .int .i64 y.pow, .int .i64 y.tou, .int .i64 y.keys, .slice y.aa y.an y.ac] 39) = W at *
    refine (within_at [⟨y.k, 1, 4⟩] _ _ rfl 1 rfl (by omega) true (by rw [wi_one, HK.out]; decide) _ _ HZ.out).mono ?_
    rintro e w1 ⟨rfl, hb⟩
    have HB1 := Lib.hid hb
    clear hb
    obtain ⟨q0, q1, q2, q3, q4, q5, q6, q7, q8, q9, q10⟩ := (HX.out.next HB1.out).cells
    rw [HK.out] at q1
    obtain ⟨m0, m1, m2, m3⟩ : w1.cell? ⟨0, 4, none⟩ = some (.int .i64 0) ∧ w1.cell? ⟨0, 5, none⟩ = some (.int .i64 3) ∧ w1.cell? ⟨0, 6, none⟩ = some (.int .i64 0) ∧ w1.cell? ⟨0, 7, none⟩ = some (.int .i64 0) := by
      have h := (HT.out.next HB1.out).kinds
      exact ⟨h 4 (by omega), h 5 (by omega), h 6 (by omega), h 7 (by omega)⟩
    have hz1 : w.heap.size < w1.heap.size := by have := HB1.out.size; have := HZ.out; omega
    go_wp2_with fail
    clear q0 q1 q2 q3 q4 q5 q6 q7 q8 q9 q10 m0 m1 m2 m3
    have HB2 := Lib.hid (show Below W.heap.size W ((w1.alloc (.cells #[.int .i64 0, .int .i64 3, .int .i64 0, .int .i64 0] 110)).alloc (.cells #[.int .i64 0, .int .i64 0] 96)) from below_then' HB1.out (below_alloc2 _ _ _) HB1.out.size)
    have HN := Lib.hid (litAt_one w1 [.int .i64 0, .int .i64 3, .int .i64 0, .int .i64 0] 110 (.cells #[.int .i64 0, .int .i64 0] 96))
    have HS := Lib.hid (litAt_two w1 [.int .i64 0, .int .i64 0] 96 (.cells #[.int .i64 0, .int .i64 3, .int .i64 0, .int .i64 0] 110))
    replace HN := Lib.hid (show LitAt ((w1.alloc (.cells #[.int .i64 0, .int .i64 3, .int .i64 0, .int .i64 0] 110)).alloc (.cells #[.int .i64 0, .int .i64 0] 96)) w1.heap.size [.int .i64 0, .int .i64 3, .int .i64 0, .int .i64 0] from HN.out)
    replace HS := Lib.hid (show LitAt ((w1.alloc (.cells #[.int .i64 0, .int .i64 3, .int .i64 0, .int .i64 0] 110)).alloc (.cells #[.int .i64 0, .int .i64 0] 96)) (w1.heap.size + 1) [.int .i64 0, .int .i64 0] from HS.out)
    generalize (w1.alloc (.cells #[.int .i64 0, .int .i64 3, .int .i64 0, .int .i64 0] 110)).alloc (.cells #[.int .i64 0, .int .i64 0] 96) = W2 at *
    refine (isCost_any y.c0 y.c1 y.c2 y.c3 0 false H1.out _).mono ?_
    rintro e w2 ⟨rfl, hb⟩
    have HB3 := Lib.hid (below_then' HB2.out hb HB2.out.size)
    have HN3 := Lib.hid (HN.out.next hb)
    have HS3 := Lib.hid (HS.out.next hb)
    clear hb
    obtain ⟨q0, q1, q2, q3, q4, q5, q6, q7, q8, q9, q10⟩ := (HX.out.next HB3.out).cells
    have n0 := HN3.out.2 0 (by decide)
    have n1 := HN3.out.2 1 (by decide)
    have n2 := HN3.out.2 2 (by decide)
    have n3 := HN3.out.2 3 (by decide)
    have s0 := HS3.out.2 0 (by decide)
    have s1 := HS3.out.2 1 (by decide)
    simp only [List.getElem?_cons_zero, List.getElem?_cons_succ] at n0 n1 n2 n3 s0 s1
    go_wp2_with fail
    go_ret
    exact ⟨bool_ret HV.out.symm, HW.out.trans (HB3.out.mono HW.out.size)⟩
  · have HE := Lib.hid (show ((y.keys == 0) && wi [⟨y.col, 0, 3⟩, ⟨y.pow, 0, 0⟩, ⟨y.tou, 0, 0⟩]) = r by rw [← HR.out]; simp [mayB, HK.out, t1, keysB, hn, btw])
    have H1 := Lib.hid t1
    clear t1
    cases t2 : (y.keys == 0)
    · have HV := Lib.hid (show r = false by rw [← HE.out, t2, Bool.false_and])
      have t3 := (keys_none y.keys hy).trans t2
      clear t2
      go_enter Tryd.func51, Tryd.ntmps51
      go_wp2_with fail
      generalize w.alloc (.cells #[.string y.nm, .int .i64 y.k, .int .i64 y.c0, .int .i64 y.c1, .int .i64 y.c2, .int .i64 y.c3, .int .i64 y.col, .int .i64 y.pow, .int .i64 y.tou, .int .i64 y.keys, .slice y.aa y.an y.ac] 39) = W at *
      refine (within_at [⟨y.k, 1, 4⟩] _ _ rfl 1 rfl (by omega) true (by rw [wi_one, HK.out]; decide) _ _ HZ.out).mono ?_
      rintro e w1 ⟨rfl, hb⟩
      have HB1 := Lib.hid hb
      clear hb
      obtain ⟨q0, q1, q2, q3, q4, q5, q6, q7, q8, q9, q10⟩ := (HX.out.next HB1.out).cells
      rw [HK.out] at q1
      obtain ⟨m0, m1, m2, m3⟩ : w1.cell? ⟨0, 4, none⟩ = some (.int .i64 0) ∧ w1.cell? ⟨0, 5, none⟩ = some (.int .i64 3) ∧ w1.cell? ⟨0, 6, none⟩ = some (.int .i64 0) ∧ w1.cell? ⟨0, 7, none⟩ = some (.int .i64 0) := by
        have h := (HT.out.next HB1.out).kinds
        exact ⟨h 4 (by omega), h 5 (by omega), h 6 (by omega), h 7 (by omega)⟩
      have hz1 : w.heap.size < w1.heap.size := by have := HB1.out.size; have := HZ.out; omega
      go_wp2_with fail
      clear q0 q1 q2 q3 q4 q5 q6 q7 q8 q9 q10 m0 m1 m2 m3
      have HB2 := Lib.hid (show Below W.heap.size W ((w1.alloc (.cells #[.int .i64 0, .int .i64 3, .int .i64 0, .int .i64 0] 110)).alloc (.cells #[.int .i64 0, .int .i64 0] 96)) from below_then' HB1.out (below_alloc2 _ _ _) HB1.out.size)
      have HN := Lib.hid (litAt_one w1 [.int .i64 0, .int .i64 3, .int .i64 0, .int .i64 0] 110 (.cells #[.int .i64 0, .int .i64 0] 96))
      have HS := Lib.hid (litAt_two w1 [.int .i64 0, .int .i64 0] 96 (.cells #[.int .i64 0, .int .i64 3, .int .i64 0, .int .i64 0] 110))
      replace HN := Lib.hid (show LitAt ((w1.alloc (.cells #[.int .i64 0, .int .i64 3, .int .i64 0, .int .i64 0] 110)).alloc (.cells #[.int .i64 0, .int .i64 0] 96)) w1.heap.size [.int .i64 0, .int .i64 3, .int .i64 0, .int .i64 0] from HN.out)
      replace HS := Lib.hid (show LitAt ((w1.alloc (.cells #[.int .i64 0, .int .i64 3, .int .i64 0, .int .i64 0] 110)).alloc (.cells #[.int .i64 0, .int .i64 0] 96)) (w1.heap.size + 1) [.int .i64 0, .int .i64 0] from HS.out)
      generalize (w1.alloc (.cells #[.int .i64 0, .int .i64 3, .int .i64 0, .int .i64 0] 110)).alloc (.cells #[.int .i64 0, .int .i64 0] 96) = W2 at *
      refine (isCost_any y.c0 y.c1 y.c2 y.c3 0 true H1.out _).mono ?_
      rintro e w2 ⟨rfl, hb⟩
      have HB3 := Lib.hid (below_then' HB2.out hb HB2.out.size)
      have HN3 := Lib.hid (HN.out.next hb)
      have HS3 := Lib.hid (HS.out.next hb)
      clear hb
      obtain ⟨q0, q1, q2, q3, q4, q5, q6, q7, q8, q9, q10⟩ := (HX.out.next HB3.out).cells
      have n0 := HN3.out.2 0 (by decide)
      have n1 := HN3.out.2 1 (by decide)
      have n2 := HN3.out.2 2 (by decide)
      have n3 := HN3.out.2 3 (by decide)
      have s0 := HS3.out.2 0 (by decide)
      have s1 := HS3.out.2 1 (by decide)
      simp only [List.getElem?_cons_zero, List.getElem?_cons_succ] at n0 n1 n2 n3 s0 s1
      go_wp2_with fail
      go_ret
      exact ⟨bool_ret HV.out.symm, HW.out.trans (HB3.out.mono HW.out.size)⟩
    · have HV := Lib.hid (show wi [⟨y.col, 0, 3⟩, ⟨y.pow, 0, 0⟩, ⟨y.tou, 0, 0⟩] = r by rw [← HE.out, t2, Bool.true_and])
      have t3 := (keys_none y.keys hy).trans t2
      clear t2
      go_enter Tryd.func51, Tryd.ntmps51
      go_wp2_with fail
      generalize w.alloc (.cells #[.string y.nm, .int .i64 y.k, .int .i64 y.c0, .int .i64 y.c1, .int .i64 y.c2, .int .i64 y.c3, .int .i64 y.col, .int .i64 y.pow, .int .i64 y.tou, .int .i64 y.keys, .slice y.aa y.an y.ac] 39) = W at *
      refine (within_at [⟨y.k, 1, 4⟩] _ _ rfl 1 rfl (by omega) true (by rw [wi_one, HK.out]; decide) _ _ HZ.out).mono ?_
      rintro e w1 ⟨rfl, hb⟩
      have HB1 := Lib.hid hb
      clear hb
      obtain ⟨q0, q1, q2, q3, q4, q5, q6, q7, q8, q9, q10⟩ := (HX.out.next HB1.out).cells
      rw [HK.out] at q1
      obtain ⟨m0, m1, m2, m3⟩ : w1.cell? ⟨0, 4, none⟩ = some (.int .i64 0) ∧ w1.cell? ⟨0, 5, none⟩ = some (.int .i64 3) ∧ w1.cell? ⟨0, 6, none⟩ = some (.int .i64 0) ∧ w1.cell? ⟨0, 7, none⟩ = some (.int .i64 0) := by
        have h := (HT.out.next HB1.out).kinds
        exact ⟨h 4 (by omega), h 5 (by omega), h 6 (by omega), h 7 (by omega)⟩
      have hz1 : w.heap.size < w1.heap.size := by have := HB1.out.size; have := HZ.out; omega
      go_wp2_with fail
      clear q0 q1 q2 q3 q4 q5 q6 q7 q8 q9 q10 m0 m1 m2 m3
      have HB2 := Lib.hid (show Below W.heap.size W ((w1.alloc (.cells #[.int .i64 0, .int .i64 3, .int .i64 0, .int .i64 0] 110)).alloc (.cells #[.int .i64 0, .int .i64 0] 96)) from below_then' HB1.out (below_alloc2 _ _ _) HB1.out.size)
      have HN := Lib.hid (litAt_one w1 [.int .i64 0, .int .i64 3, .int .i64 0, .int .i64 0] 110 (.cells #[.int .i64 0, .int .i64 0] 96))
      have HS := Lib.hid (litAt_two w1 [.int .i64 0, .int .i64 0] 96 (.cells #[.int .i64 0, .int .i64 3, .int .i64 0, .int .i64 0] 110))
      replace HN := Lib.hid (show LitAt ((w1.alloc (.cells #[.int .i64 0, .int .i64 3, .int .i64 0, .int .i64 0] 110)).alloc (.cells #[.int .i64 0, .int .i64 0] 96)) w1.heap.size [.int .i64 0, .int .i64 3, .int .i64 0, .int .i64 0] from HN.out)
      replace HS := Lib.hid (show LitAt ((w1.alloc (.cells #[.int .i64 0, .int .i64 3, .int .i64 0, .int .i64 0] 110)).alloc (.cells #[.int .i64 0, .int .i64 0] 96)) (w1.heap.size + 1) [.int .i64 0, .int .i64 0] from HS.out)
      generalize (w1.alloc (.cells #[.int .i64 0, .int .i64 3, .int .i64 0, .int .i64 0] 110)).alloc (.cells #[.int .i64 0, .int .i64 0] 96) = W2 at *
      refine (isCost_any y.c0 y.c1 y.c2 y.c3 0 true H1.out _).mono ?_
      rintro e w2 ⟨rfl, hb⟩
      have HB3 := Lib.hid (below_then' HB2.out hb HB2.out.size)
      have HN3 := Lib.hid (HN.out.next hb)
      have HS3 := Lib.hid (HS.out.next hb)
      clear hb
      obtain ⟨q0, q1, q2, q3, q4, q5, q6, q7, q8, q9, q10⟩ := (HX.out.next HB3.out).cells
      have n0 := HN3.out.2 0 (by decide)
      have n1 := HN3.out.2 1 (by decide)
      have n2 := HN3.out.2 2 (by decide)
      have n3 := HN3.out.2 3 (by decide)
      have s0 := HS3.out.2 0 (by decide)
      have s1 := HS3.out.2 1 (by decide)
      simp only [List.getElem?_cons_zero, List.getElem?_cons_succ] at n0 n1 n2 n3 s0 s1
      go_wp2_with fail
      refine (within_new [⟨y.col, 0, 3⟩, ⟨y.pow, 0, 0⟩, ⟨y.tou, 0, 0⟩] _ _ rfl 3 rfl (by omega) r HV.out _).mono ?_
      rintro e w3 ⟨rfl, hb⟩
      have HB4 := Lib.hid (below_then' HB3.out hb HB3.out.size)
      clear hb
      go_wp2_with fail
      go_ret
      exact ⟨rfl, HW.out.trans (HB4.out.mono HW.out.size)⟩
set_option maxRecDepth 100000 in
set_option maxHeartbeats 4000000 in
theorem mayBe_beast (y : Cd) (hk : y.k = 2) (hn : y.nm.toList.isEmpty = false) (hy : In64 y.keys) (r : Bool) (hr : mayB y = r) (w : World) (hT : Tabs w) :
    Calls Tryd.prog 51 #[.agg #[.string y.nm, .int .i64 y.k, .int .i64 y.c0, .int .i64 y.c1, .int .i64 y.c2, .int .i64 y.c3, .int .i64 y.col, .int .i64 y.pow, .int .i64 y.tou, .int .i64 y.keys, .slice y.aa y.an y.ac]] w fun e w' => e = .returned (.bool r) ∧ Below w.heap.size w w' := by
  have HW := Lib.hid (below_alloc1 w (.cells #[.string y.nm, .int .i64 y.k, .int .i64 y.c0, .int .i64 y.c1, .int .i64 y.c2, .int .i64 y.c3, .int .i64 y.col, .int .i64 y.pow, .int .i64 y.tou, .int .i64 y.keys, .slice y.aa y.an y.ac] 39))
  have HX := Lib.hid (boxC_new w y 39)
  have HZ := Lib.hid (show w.heap.size + 1 = (w.alloc (.cells #[.string y.nm, .int .i64 y.k, .int .i64 y.c0, .int .i64 y.c1, .int .i64 y.c2, .int .i64 y.c3, .int .i64 y.col, .int .i64 y.pow, .int .i64 y.tou, .int .i64 y.keys, .slice y.aa y.an y.ac] 39)).heap.size by simp)
  have HT := Lib.hid (hT.next HW.out)
  have HK := Lib.hid hk
  have HR := Lib.hid hr
  clear hk hT hr
  cases t1 : wi (costL 20 y.c0 y.c1 y.c2 y.c3)
  · have HV := Lib.hid (show r = false by rw [← HR.out]; simp [mayB, HK.out, t1])
    have H1 := Lib.hid t1
    clear t1
    go_enter Tryd.func51, Tryd.ntmps51
    go_wp2_with fail
    generalize w.alloc (.cells #[.string y.nm, .int .i64 y.k, .int .i64 y.c0, .int .i64 y.c1, .int .i64 y.c2, .int .i64 y.c3, .int .i64 y.col, .int .i64 y.pow, .int .i64 y.tou, .int .i64 y.keys, .slice y.aa y.an y.ac] 39) = W at *
    refine (within_at [⟨y.k, 1, 4⟩] _ _ rfl 1 rfl (by omega) true (by rw [wi_one, HK.out]; decide) _ _ HZ.out).mono ?_
    rintro e w1 ⟨rfl, hb⟩
    have HB1 := Lib.hid hb
    clear hb
    obtain ⟨q0, q1, q2, q3, q4, q5, q6, q7, q8, q9, q10⟩ := (HX.out.next HB1.out).cells
    rw [HK.out] at q1
    obtain ⟨m0, m1, m2, m3⟩ : w1.cell? ⟨0, 8, none⟩ = some (.int .i64 20) ∧ w1.cell? ⟨0, 9, none⟩ = some (.int .i64 0) ∧ w1.cell? ⟨0, 10, none⟩ = some (.int .i64 15) ∧ w1.cell? ⟨0, 11, none⟩ = some (.int .i64 127) := by
      have h := (HT.out.next HB1.out).kinds
      exact ⟨h 8 (by omega), h 9 (by omega), h 10 (by omega), h 11 (by omega)⟩
    have hz1 : w.heap.size < w1.heap.size := by have := HB1.out.size; have := HZ.out; omega
    go_wp2_with fail
    clear q0 q1 q2 q3 q4 q5 q6 q7 q8 q9 q10 m0 m1 m2 m3
    have HB2 := Lib.hid (show Below W.heap.size W ((w1.alloc (.cells #[.int .i64 20, .int .i64 0, .int .i64 15, .int .i64 127] 110)).alloc (.cells #[.int .i64 0, .int .i64 15] 96)) from below_then' HB1.out (below_alloc2 _ _ _) HB1.out.size)
    have HN := Lib.hid (litAt_one w1 [.int .i64 20, .int .i64 0, .int .i64 15, .int .i64 127] 110 (.cells #[.int .i64 0, .int .i64 15] 96))
    have HS := Lib.hid (litAt_two w1 [.int .i64 0, .int .i64 15] 96 (.cells #[.int .i64 20, .int .i64 0, .int .i64 15, .int .i64 127] 110))
    replace HN := Lib.hid (show LitAt ((w1.alloc (.cells #[.int .i64 20, .int .i64 0, .int .i64 15, .int .i64 127] 110)).alloc (.cells #[.int .i64 0, .int .i64 15] 96)) w1.heap.size [.int .i64 20, .int .i64 0, .int .i64 15, .int .i64 127] from HN.out)
    replace HS := Lib.hid (show LitAt ((w1.alloc (.cells #[.int .i64 20, .int .i64 0, .int .i64 15, .int .i64 127] 110)).alloc (.cells #[.int .i64 0, .int .i64 15] 96)) (w1.heap.size + 1) [.int .i64 0, .int .i64 15] from HS.out)
    generalize (w1.alloc (.cells #[.int .i64 20, .int .i64 0, .int .i64 15, .int .i64 127] 110)).alloc (.cells #[.int .i64 0, .int .i64 15] 96) = W2 at *
    refine (isCost_any y.c0 y.c1 y.c2 y.c3 20 false H1.out _).mono ?_
    rintro e w2 ⟨rfl, hb⟩
    have HB3 := Lib.hid (below_then' HB2.out hb HB2.out.size)
    have HN3 := Lib.hid (HN.out.next hb)
    have HS3 := Lib.hid (HS.out.next hb)
    clear hb
    obtain ⟨q0, q1, q2, q3, q4, q5, q6, q7, q8, q9, q10⟩ := (HX.out.next HB3.out).cells
    have n0 := HN3.out.2 0 (by decide)
    have n1 := HN3.out.2 1 (by decide)
    have n2 := HN3.out.2 2 (by decide)
    have n3 := HN3.out.2 3 (by decide)
    have s0 := HS3.out.2 0 (by decide)
    have s1 := HS3.out.2 1 (by decide)
    simp only [List.getElem?_cons_zero, List.getElem?_cons_succ] at n0 n1 n2 n3 s0 s1
    go_wp2_with fail
    go_ret
    exact ⟨bool_ret HV.out.symm, HW.out.trans (HB3.out.mono HW.out.size)⟩
  · have HE := Lib.hid (show (btw 0 127 y.keys && wi [⟨y.col, 0, 0⟩, ⟨y.pow, 0, 15⟩, ⟨y.tou, 0, 15⟩]) = r by rw [← HR.out]; simp [mayB, HK.out, t1, keysB, hn, btw])
    have H1 := Lib.hid t1
    clear t1
    cases t2 : btw 0 127 y.keys
    · have HV := Lib.hid (show r = false by rw [← HE.out, t2, Bool.false_and])
      have t3 := (keys_all y.keys hy).trans t2
      clear t2
      go_enter Tryd.func51, Tryd.ntmps51
      go_wp2_with fail
      generalize w.alloc (.cells #[.string y.nm, .int .i64 y.k, .int .i64 y.c0, .int .i64 y.c1, .int .i64 y.c2, .int .i64 y.c3, .int .i64 y.col, .int .i64 y.pow, .int .i64 y.tou, .int .i64 y.keys, .slice y.aa y.an y.ac] 39) = W at *
      refine (within_at [⟨y.k, 1, 4⟩] _ _ rfl 1 rfl (by omega) true (by rw [wi_one, HK.out]; decide) _ _ HZ.out).mono ?_
      rintro e w1 ⟨rfl, hb⟩
      have HB1 := Lib.hid hb
      clear hb
      obtain ⟨q0, q1, q2, q3, q4, q5, q6, q7, q8, q9, q10⟩ := (HX.out.next HB1.out).cells
      rw [HK.out] at q1
      obtain ⟨m0, m1, m2, m3⟩ : w1.cell? ⟨0, 8, none⟩ = some (.int .i64 20) ∧ w1.cell? ⟨0, 9, none⟩ = some (.int .i64 0) ∧ w1.cell? ⟨0, 10, none⟩ = some (.int .i64 15) ∧ w1.cell? ⟨0, 11, none⟩ = some (.int .i64 127) := by
        have h := (HT.out.next HB1.out).kinds
        exact ⟨h 8 (by omega), h 9 (by omega), h 10 (by omega), h 11 (by omega)⟩
      have hz1 : w.heap.size < w1.heap.size := by have := HB1.out.size; have := HZ.out; omega
      go_wp2_with fail
      clear q0 q1 q2 q3 q4 q5 q6 q7 q8 q9 q10 m0 m1 m2 m3
      have HB2 := Lib.hid (show Below W.heap.size W ((w1.alloc (.cells #[.int .i64 20, .int .i64 0, .int .i64 15, .int .i64 127] 110)).alloc (.cells #[.int .i64 0, .int .i64 15] 96)) from below_then' HB1.out (below_alloc2 _ _ _) HB1.out.size)
      have HN := Lib.hid (litAt_one w1 [.int .i64 20, .int .i64 0, .int .i64 15, .int .i64 127] 110 (.cells #[.int .i64 0, .int .i64 15] 96))
      have HS := Lib.hid (litAt_two w1 [.int .i64 0, .int .i64 15] 96 (.cells #[.int .i64 20, .int .i64 0, .int .i64 15, .int .i64 127] 110))
      replace HN := Lib.hid (show LitAt ((w1.alloc (.cells #[.int .i64 20, .int .i64 0, .int .i64 15, .int .i64 127] 110)).alloc (.cells #[.int .i64 0, .int .i64 15] 96)) w1.heap.size [.int .i64 20, .int .i64 0, .int .i64 15, .int .i64 127] from HN.out)
      replace HS := Lib.hid (show LitAt ((w1.alloc (.cells #[.int .i64 20, .int .i64 0, .int .i64 15, .int .i64 127] 110)).alloc (.cells #[.int .i64 0, .int .i64 15] 96)) (w1.heap.size + 1) [.int .i64 0, .int .i64 15] from HS.out)
      generalize (w1.alloc (.cells #[.int .i64 20, .int .i64 0, .int .i64 15, .int .i64 127] 110)).alloc (.cells #[.int .i64 0, .int .i64 15] 96) = W2 at *
      refine (isCost_any y.c0 y.c1 y.c2 y.c3 20 true H1.out _).mono ?_
      rintro e w2 ⟨rfl, hb⟩
      have HB3 := Lib.hid (below_then' HB2.out hb HB2.out.size)
      have HN3 := Lib.hid (HN.out.next hb)
      have HS3 := Lib.hid (HS.out.next hb)
      clear hb
      obtain ⟨q0, q1, q2, q3, q4, q5, q6, q7, q8, q9, q10⟩ := (HX.out.next HB3.out).cells
      have n0 := HN3.out.2 0 (by decide)
      have n1 := HN3.out.2 1 (by decide)
      have n2 := HN3.out.2 2 (by decide)
      have n3 := HN3.out.2 3 (by decide)
      have s0 := HS3.out.2 0 (by decide)
      have s1 := HS3.out.2 1 (by decide)
      simp only [List.getElem?_cons_zero, List.getElem?_cons_succ] at n0 n1 n2 n3 s0 s1
      go_wp2_with fail
      go_ret
      exact ⟨bool_ret HV.out.symm, HW.out.trans (HB3.out.mono HW.out.size)⟩
    · have HV := Lib.hid (show wi [⟨y.col, 0, 0⟩, ⟨y.pow, 0, 15⟩, ⟨y.tou, 0, 15⟩] = r by rw [← HE.out, t2, Bool.true_and])
      have t3 := (keys_all y.keys hy).trans t2
      clear t2
      go_enter Tryd.func51, Tryd.ntmps51
      go_wp2_with fail
      generalize w.alloc (.cells #[.string y.nm, .int .i64 y.k, .int .i64 y.c0, .int .i64 y.c1, .int .i64 y.c2, .int .i64 y.c3, .int .i64 y.col, .int .i64 y.pow, .int .i64 y.tou, .int .i64 y.keys, .slice y.aa y.an y.ac] 39) = W at *
      refine (within_at [⟨y.k, 1, 4⟩] _ _ rfl 1 rfl (by omega) true (by rw [wi_one, HK.out]; decide) _ _ HZ.out).mono ?_
      rintro e w1 ⟨rfl, hb⟩
      have HB1 := Lib.hid hb
      clear hb
      obtain ⟨q0, q1, q2, q3, q4, q5, q6, q7, q8, q9, q10⟩ := (HX.out.next HB1.out).cells
      rw [HK.out] at q1
      obtain ⟨m0, m1, m2, m3⟩ : w1.cell? ⟨0, 8, none⟩ = some (.int .i64 20) ∧ w1.cell? ⟨0, 9, none⟩ = some (.int .i64 0) ∧ w1.cell? ⟨0, 10, none⟩ = some (.int .i64 15) ∧ w1.cell? ⟨0, 11, none⟩ = some (.int .i64 127) := by
        have h := (HT.out.next HB1.out).kinds
        exact ⟨h 8 (by omega), h 9 (by omega), h 10 (by omega), h 11 (by omega)⟩
      have hz1 : w.heap.size < w1.heap.size := by have := HB1.out.size; have := HZ.out; omega
      go_wp2_with fail
      clear q0 q1 q2 q3 q4 q5 q6 q7 q8 q9 q10 m0 m1 m2 m3
      have HB2 := Lib.hid (show Below W.heap.size W ((w1.alloc (.cells #[.int .i64 20, .int .i64 0, .int .i64 15, .int .i64 127] 110)).alloc (.cells #[.int .i64 0, .int .i64 15] 96)) from below_then' HB1.out (below_alloc2 _ _ _) HB1.out.size)
      have HN := Lib.hid (litAt_one w1 [.int .i64 20, .int .i64 0, .int .i64 15, .int .i64 127] 110 (.cells #[.int .i64 0, .int .i64 15] 96))
      have HS := Lib.hid (litAt_two w1 [.int .i64 0, .int .i64 15] 96 (.cells #[.int .i64 20, .int .i64 0, .int .i64 15, .int .i64 127] 110))
      replace HN := Lib.hid (show LitAt ((w1.alloc (.cells #[.int .i64 20, .int .i64 0, .int .i64 15, .int .i64 127] 110)).alloc (.cells #[.int .i64 0, .int .i64 15] 96)) w1.heap.size [.int .i64 20, .int .i64 0, .int .i64 15, .int .i64 127] from HN.out)
      replace HS := Lib.hid (show LitAt ((w1.alloc (.cells #[.int .i64 20, .int .i64 0, .int .i64 15, .int .i64 127] 110)).alloc (.cells #[.int .i64 0, .int .i64 15] 96)) (w1.heap.size + 1) [.int .i64 0, .int .i64 15] from HS.out)
      generalize (w1.alloc (.cells #[.int .i64 20, .int .i64 0, .int .i64 15, .int .i64 127] 110)).alloc (.cells #[.int .i64 0, .int .i64 15] 96) = W2 at *
      refine (isCost_any y.c0 y.c1 y.c2 y.c3 20 true H1.out _).mono ?_
      rintro e w2 ⟨rfl, hb⟩
      have HB3 := Lib.hid (below_then' HB2.out hb HB2.out.size)
      have HN3 := Lib.hid (HN.out.next hb)
      have HS3 := Lib.hid (HS.out.next hb)
      clear hb
      obtain ⟨q0, q1, q2, q3, q4, q5, q6, q7, q8, q9, q10⟩ := (HX.out.next HB3.out).cells
      have n0 := HN3.out.2 0 (by decide)
      have n1 := HN3.out.2 1 (by decide)
      have n2 := HN3.out.2 2 (by decide)
      have n3 := HN3.out.2 3 (by decide)
      have s0 := HS3.out.2 0 (by decide)
      have s1 := HS3.out.2 1 (by decide)
      simp only [List.getElem?_cons_zero, List.getElem?_cons_succ] at n0 n1 n2 n3 s0 s1
      go_wp2_with fail
      refine (within_new [⟨y.col, 0, 0⟩, ⟨y.pow, 0, 15⟩, ⟨y.tou, 0, 15⟩] _ _ rfl 3 rfl (by omega) r HV.out _).mono ?_
      rintro e w3 ⟨rfl, hb⟩
      have HB4 := Lib.hid (below_then' HB3.out hb HB3.out.size)
      clear hb
      go_wp2_with fail
      go_ret
      exact ⟨rfl, HW.out.trans (HB4.out.mono HW.out.size)⟩
set_option maxRecDepth 100000 in
set_option maxHeartbeats 4000000 in
theorem mayBe_spell (y : Cd) (hk : y.k = 3) (hn : y.nm.toList.isEmpty = false) (hy : In64 y.keys) (r : Bool) (hr : mayB y = r) (w : World) (hT : Tabs w) :
    Calls Tryd.prog 51 #[.agg #[.string y.nm, .int .i64 y.k, .int .i64 y.c0, .int .i64 y.c1, .int .i64 y.c2, .int .i64 y.c3, .int .i64 y.col, .int .i64 y.pow, .int .i64 y.tou, .int .i64 y.keys, .slice y.aa y.an y.ac]] w fun e w' => e = .returned (.bool r) ∧ Below w.heap.size w w' := by
  have HW := Lib.hid (below_alloc1 w (.cells #[.string y.nm, .int .i64 y.k, .int .i64 y.c0, .int .i64 y.c1, .int .i64 y.c2, .int .i64 y.c3, .int .i64 y.col, .int .i64 y.pow, .int .i64 y.tou, .int .i64 y.keys, .slice y.aa y.an y.ac] 39))
  have HX := Lib.hid (boxC_new w y 39)
  have HZ := Lib.hid (show w.heap.size + 1 = (w.alloc (.cells #[.string y.nm, .int .i64 y.k, .int .i64 y.c0, .int .i64 y.c1, .int .i64 y.c2, .int .i64 y.c3, .int .i64 y.col, .int .i64 y.pow, .int .i64 y.tou, .int .i64 y.keys, .slice y.aa y.an y.ac] 39)).heap.size by simp)
  have HT := Lib.hid (hT.next HW.out)
  have HK := Lib.hid hk
  have HR := Lib.hid hr
  clear hk hT hr
  cases t1 : wi (costL 20 y.c0 y.c1 y.c2 y.c3)
  · have HV := Lib.hid (show r = false by rw [← HR.out]; simp [mayB, HK.out, t1])
    have H1 := Lib.hid t1
    clear t1
    go_enter Tryd.func51, Tryd.ntmps51
    go_wp2_with fail
    generalize w.alloc (.cells #[.string y.nm, .int .i64 y.k, .int .i64 y.c0, .int .i64 y.c1, .int .i64 y.c2, .int .i64 y.c3, .int .i64 y.col, .int .i64 y.pow, .int .i64 y.tou, .int .i64 y.keys, .slice y.aa y.an y.ac] 39) = W at *
    refine (within_at [⟨y.k, 1, 4⟩] _ _ rfl 1 rfl (by omega) true (by rw [wi_one, HK.out]; decide) _ _ HZ.out).mono ?_
    rintro e w1 ⟨rfl, hb⟩
    have HB1 := Lib.hid hb
    clear hb
    obtain ⟨q0, q1, q2, q3, q4, q5, q6, q7, q8, q9, q10⟩ := (HX.out.next HB1.out).cells
    rw [HK.out] at q1
    obtain ⟨m0, m1, m2, m3⟩ : w1.cell? ⟨0, 12, none⟩ = some (.int .i64 20) ∧ w1.cell? ⟨0, 13, none⟩ = some (.int .i64 0) ∧ w1.cell? ⟨0, 14, none⟩ = some (.int .i64 0) ∧ w1.cell? ⟨0, 15, none⟩ = some (.int .i64 64) := by
      have h := (HT.out.next HB1.out).kinds
      exact ⟨h 12 (by omega), h 13 (by omega), h 14 (by omega), h 15 (by omega)⟩
    have hz1 : w.heap.size < w1.heap.size := by have := HB1.out.size; have := HZ.out; omega
    go_wp2_with fail
    clear q0 q1 q2 q3 q4 q5 q6 q7 q8 q9 q10 m0 m1 m2 m3
    have HB2 := Lib.hid (show Below W.heap.size W ((w1.alloc (.cells #[.int .i64 20, .int .i64 0, .int .i64 0, .int .i64 64] 110)).alloc (.cells #[.int .i64 0, .int .i64 0] 96)) from below_then' HB1.out (below_alloc2 _ _ _) HB1.out.size)
    have HN := Lib.hid (litAt_one w1 [.int .i64 20, .int .i64 0, .int .i64 0, .int .i64 64] 110 (.cells #[.int .i64 0, .int .i64 0] 96))
    have HS := Lib.hid (litAt_two w1 [.int .i64 0, .int .i64 0] 96 (.cells #[.int .i64 20, .int .i64 0, .int .i64 0, .int .i64 64] 110))
    replace HN := Lib.hid (show LitAt ((w1.alloc (.cells #[.int .i64 20, .int .i64 0, .int .i64 0, .int .i64 64] 110)).alloc (.cells #[.int .i64 0, .int .i64 0] 96)) w1.heap.size [.int .i64 20, .int .i64 0, .int .i64 0, .int .i64 64] from HN.out)
    replace HS := Lib.hid (show LitAt ((w1.alloc (.cells #[.int .i64 20, .int .i64 0, .int .i64 0, .int .i64 64] 110)).alloc (.cells #[.int .i64 0, .int .i64 0] 96)) (w1.heap.size + 1) [.int .i64 0, .int .i64 0] from HS.out)
    generalize (w1.alloc (.cells #[.int .i64 20, .int .i64 0, .int .i64 0, .int .i64 64] 110)).alloc (.cells #[.int .i64 0, .int .i64 0] 96) = W2 at *
    refine (isCost_any y.c0 y.c1 y.c2 y.c3 20 false H1.out _).mono ?_
    rintro e w2 ⟨rfl, hb⟩
    have HB3 := Lib.hid (below_then' HB2.out hb HB2.out.size)
    have HN3 := Lib.hid (HN.out.next hb)
    have HS3 := Lib.hid (HS.out.next hb)
    clear hb
    obtain ⟨q0, q1, q2, q3, q4, q5, q6, q7, q8, q9, q10⟩ := (HX.out.next HB3.out).cells
    have n0 := HN3.out.2 0 (by decide)
    have n1 := HN3.out.2 1 (by decide)
    have n2 := HN3.out.2 2 (by decide)
    have n3 := HN3.out.2 3 (by decide)
    have s0 := HS3.out.2 0 (by decide)
    have s1 := HS3.out.2 1 (by decide)
    simp only [List.getElem?_cons_zero, List.getElem?_cons_succ] at n0 n1 n2 n3 s0 s1
    go_wp2_with fail
    go_ret
    exact ⟨bool_ret HV.out.symm, HW.out.trans (HB3.out.mono HW.out.size)⟩
  · have HE := Lib.hid (show ((y.keys == 0 || y.keys == 64) && wi [⟨y.col, 0, 0⟩, ⟨y.pow, 0, 0⟩, ⟨y.tou, 0, 0⟩]) = r by rw [← HR.out]; simp [mayB, HK.out, t1, keysB, hn, btw])
    have H1 := Lib.hid t1
    clear t1
    cases t2 : (y.keys == 0 || y.keys == 64)
    · have HV := Lib.hid (show r = false by rw [← HE.out, t2, Bool.false_and])
      have t3 := (keys_swift y.keys hy).trans t2
      clear t2
      go_enter Tryd.func51, Tryd.ntmps51
      go_wp2_with fail
      generalize w.alloc (.cells #[.string y.nm, .int .i64 y.k, .int .i64 y.c0, .int .i64 y.c1, .int .i64 y.c2, .int .i64 y.c3, .int .i64 y.col, .int .i64 y.pow, .int .i64 y.tou, .int .i64 y.keys, .slice y.aa y.an y.ac] 39) = W at *
      refine (within_at [⟨y.k, 1, 4⟩] _ _ rfl 1 rfl (by omega) true (by rw [wi_one, HK.out]; decide) _ _ HZ.out).mono ?_
      rintro e w1 ⟨rfl, hb⟩
      have HB1 := Lib.hid hb
      clear hb
      obtain ⟨q0, q1, q2, q3, q4, q5, q6, q7, q8, q9, q10⟩ := (HX.out.next HB1.out).cells
      rw [HK.out] at q1
      obtain ⟨m0, m1, m2, m3⟩ : w1.cell? ⟨0, 12, none⟩ = some (.int .i64 20) ∧ w1.cell? ⟨0, 13, none⟩ = some (.int .i64 0) ∧ w1.cell? ⟨0, 14, none⟩ = some (.int .i64 0) ∧ w1.cell? ⟨0, 15, none⟩ = some (.int .i64 64) := by
        have h := (HT.out.next HB1.out).kinds
        exact ⟨h 12 (by omega), h 13 (by omega), h 14 (by omega), h 15 (by omega)⟩
      have hz1 : w.heap.size < w1.heap.size := by have := HB1.out.size; have := HZ.out; omega
      go_wp2_with fail
      clear q0 q1 q2 q3 q4 q5 q6 q7 q8 q9 q10 m0 m1 m2 m3
      have HB2 := Lib.hid (show Below W.heap.size W ((w1.alloc (.cells #[.int .i64 20, .int .i64 0, .int .i64 0, .int .i64 64] 110)).alloc (.cells #[.int .i64 0, .int .i64 0] 96)) from below_then' HB1.out (below_alloc2 _ _ _) HB1.out.size)
      have HN := Lib.hid (litAt_one w1 [.int .i64 20, .int .i64 0, .int .i64 0, .int .i64 64] 110 (.cells #[.int .i64 0, .int .i64 0] 96))
      have HS := Lib.hid (litAt_two w1 [.int .i64 0, .int .i64 0] 96 (.cells #[.int .i64 20, .int .i64 0, .int .i64 0, .int .i64 64] 110))
      replace HN := Lib.hid (show LitAt ((w1.alloc (.cells #[.int .i64 20, .int .i64 0, .int .i64 0, .int .i64 64] 110)).alloc (.cells #[.int .i64 0, .int .i64 0] 96)) w1.heap.size [.int .i64 20, .int .i64 0, .int .i64 0, .int .i64 64] from HN.out)
      replace HS := Lib.hid (show LitAt ((w1.alloc (.cells #[.int .i64 20, .int .i64 0, .int .i64 0, .int .i64 64] 110)).alloc (.cells #[.int .i64 0, .int .i64 0] 96)) (w1.heap.size + 1) [.int .i64 0, .int .i64 0] from HS.out)
      generalize (w1.alloc (.cells #[.int .i64 20, .int .i64 0, .int .i64 0, .int .i64 64] 110)).alloc (.cells #[.int .i64 0, .int .i64 0] 96) = W2 at *
      refine (isCost_any y.c0 y.c1 y.c2 y.c3 20 true H1.out _).mono ?_
      rintro e w2 ⟨rfl, hb⟩
      have HB3 := Lib.hid (below_then' HB2.out hb HB2.out.size)
      have HN3 := Lib.hid (HN.out.next hb)
      have HS3 := Lib.hid (HS.out.next hb)
      clear hb
      obtain ⟨q0, q1, q2, q3, q4, q5, q6, q7, q8, q9, q10⟩ := (HX.out.next HB3.out).cells
      have n0 := HN3.out.2 0 (by decide)
      have n1 := HN3.out.2 1 (by decide)
      have n2 := HN3.out.2 2 (by decide)
      have n3 := HN3.out.2 3 (by decide)
      have s0 := HS3.out.2 0 (by decide)
      have s1 := HS3.out.2 1 (by decide)
      simp only [List.getElem?_cons_zero, List.getElem?_cons_succ] at n0 n1 n2 n3 s0 s1
      go_wp2_with fail
      go_ret
      exact ⟨bool_ret HV.out.symm, HW.out.trans (HB3.out.mono HW.out.size)⟩
    · have HV := Lib.hid (show wi [⟨y.col, 0, 0⟩, ⟨y.pow, 0, 0⟩, ⟨y.tou, 0, 0⟩] = r by rw [← HE.out, t2, Bool.true_and])
      have t3 := (keys_swift y.keys hy).trans t2
      clear t2
      go_enter Tryd.func51, Tryd.ntmps51
      go_wp2_with fail
      generalize w.alloc (.cells #[.string y.nm, .int .i64 y.k, .int .i64 y.c0, .int .i64 y.c1, .int .i64 y.c2, .int .i64 y.c3, .int .i64 y.col, .int .i64 y.pow, .int .i64 y.tou, .int .i64 y.keys, .slice y.aa y.an y.ac] 39) = W at *
      refine (within_at [⟨y.k, 1, 4⟩] _ _ rfl 1 rfl (by omega) true (by rw [wi_one, HK.out]; decide) _ _ HZ.out).mono ?_
      rintro e w1 ⟨rfl, hb⟩
      have HB1 := Lib.hid hb
      clear hb
      obtain ⟨q0, q1, q2, q3, q4, q5, q6, q7, q8, q9, q10⟩ := (HX.out.next HB1.out).cells
      rw [HK.out] at q1
      obtain ⟨m0, m1, m2, m3⟩ : w1.cell? ⟨0, 12, none⟩ = some (.int .i64 20) ∧ w1.cell? ⟨0, 13, none⟩ = some (.int .i64 0) ∧ w1.cell? ⟨0, 14, none⟩ = some (.int .i64 0) ∧ w1.cell? ⟨0, 15, none⟩ = some (.int .i64 64) := by
        have h := (HT.out.next HB1.out).kinds
        exact ⟨h 12 (by omega), h 13 (by omega), h 14 (by omega), h 15 (by omega)⟩
      have hz1 : w.heap.size < w1.heap.size := by have := HB1.out.size; have := HZ.out; omega
      go_wp2_with fail
      clear q0 q1 q2 q3 q4 q5 q6 q7 q8 q9 q10 m0 m1 m2 m3
      have HB2 := Lib.hid (show Below W.heap.size W ((w1.alloc (.cells #[.int .i64 20, .int .i64 0, .int .i64 0, .int .i64 64] 110)).alloc (.cells #[.int .i64 0, .int .i64 0] 96)) from below_then' HB1.out (below_alloc2 _ _ _) HB1.out.size)
      have HN := Lib.hid (litAt_one w1 [.int .i64 20, .int .i64 0, .int .i64 0, .int .i64 64] 110 (.cells #[.int .i64 0, .int .i64 0] 96))
      have HS := Lib.hid (litAt_two w1 [.int .i64 0, .int .i64 0] 96 (.cells #[.int .i64 20, .int .i64 0, .int .i64 0, .int .i64 64] 110))
      replace HN := Lib.hid (show LitAt ((w1.alloc (.cells #[.int .i64 20, .int .i64 0, .int .i64 0, .int .i64 64] 110)).alloc (.cells #[.int .i64 0, .int .i64 0] 96)) w1.heap.size [.int .i64 20, .int .i64 0, .int .i64 0, .int .i64 64] from HN.out)
      replace HS := Lib.hid (show LitAt ((w1.alloc (.cells #[.int .i64 20, .int .i64 0, .int .i64 0, .int .i64 64] 110)).alloc (.cells #[.int .i64 0, .int .i64 0] 96)) (w1.heap.size + 1) [.int .i64 0, .int .i64 0] from HS.out)
      generalize (w1.alloc (.cells #[.int .i64 20, .int .i64 0, .int .i64 0, .int .i64 64] 110)).alloc (.cells #[.int .i64 0, .int .i64 0] 96) = W2 at *
      refine (isCost_any y.c0 y.c1 y.c2 y.c3 20 true H1.out _).mono ?_
      rintro e w2 ⟨rfl, hb⟩
      have HB3 := Lib.hid (below_then' HB2.out hb HB2.out.size)
      have HN3 := Lib.hid (HN.out.next hb)
      have HS3 := Lib.hid (HS.out.next hb)
      clear hb
      obtain ⟨q0, q1, q2, q3, q4, q5, q6, q7, q8, q9, q10⟩ := (HX.out.next HB3.out).cells
      have n0 := HN3.out.2 0 (by decide)
      have n1 := HN3.out.2 1 (by decide)
      have n2 := HN3.out.2 2 (by decide)
      have n3 := HN3.out.2 3 (by decide)
      have s0 := HS3.out.2 0 (by decide)
      have s1 := HS3.out.2 1 (by decide)
      simp only [List.getElem?_cons_zero, List.getElem?_cons_succ] at n0 n1 n2 n3 s0 s1
      go_wp2_with fail
      refine (within_new [⟨y.col, 0, 0⟩, ⟨y.pow, 0, 0⟩, ⟨y.tou, 0, 0⟩] _ _ rfl 3 rfl (by omega) r HV.out _).mono ?_
      rintro e w3 ⟨rfl, hb⟩
      have HB4 := Lib.hid (below_then' HB3.out hb HB3.out.size)
      clear hb
      go_wp2_with fail
      go_ret
      exact ⟨rfl, HW.out.trans (HB4.out.mono HW.out.size)⟩
set_option maxRecDepth 100000 in
set_option maxHeartbeats 4000000 in
theorem mayBe_relic (y : Cd) (hk : y.k = 4) (hn : y.nm.toList.isEmpty = false) (hy : In64 y.keys) (r : Bool) (hr : mayB y = r) (w : World) (hT : Tabs w) :
    Calls Tryd.prog 51 #[.agg #[.string y.nm, .int .i64 y.k, .int .i64 y.c0, .int .i64 y.c1, .int .i64 y.c2, .int .i64 y.c3, .int .i64 y.col, .int .i64 y.pow, .int .i64 y.tou, .int .i64 y.keys, .slice y.aa y.an y.ac]] w fun e w' => e = .returned (.bool r) ∧ Below w.heap.size w w' := by
  have HW := Lib.hid (below_alloc1 w (.cells #[.string y.nm, .int .i64 y.k, .int .i64 y.c0, .int .i64 y.c1, .int .i64 y.c2, .int .i64 y.c3, .int .i64 y.col, .int .i64 y.pow, .int .i64 y.tou, .int .i64 y.keys, .slice y.aa y.an y.ac] 39))
  have HX := Lib.hid (boxC_new w y 39)
  have HZ := Lib.hid (show w.heap.size + 1 = (w.alloc (.cells #[.string y.nm, .int .i64 y.k, .int .i64 y.c0, .int .i64 y.c1, .int .i64 y.c2, .int .i64 y.c3, .int .i64 y.col, .int .i64 y.pow, .int .i64 y.tou, .int .i64 y.keys, .slice y.aa y.an y.ac] 39)).heap.size by simp)
  have HT := Lib.hid (hT.next HW.out)
  have HK := Lib.hid hk
  have HR := Lib.hid hr
  clear hk hT hr
  cases t1 : wi (costL 20 y.c0 y.c1 y.c2 y.c3)
  · have HV := Lib.hid (show r = false by rw [← HR.out]; simp [mayB, HK.out, t1])
    have H1 := Lib.hid t1
    clear t1
    go_enter Tryd.func51, Tryd.ntmps51
    go_wp2_with fail
    generalize w.alloc (.cells #[.string y.nm, .int .i64 y.k, .int .i64 y.c0, .int .i64 y.c1, .int .i64 y.c2, .int .i64 y.c3, .int .i64 y.col, .int .i64 y.pow, .int .i64 y.tou, .int .i64 y.keys, .slice y.aa y.an y.ac] 39) = W at *
    refine (within_at [⟨y.k, 1, 4⟩] _ _ rfl 1 rfl (by omega) true (by rw [wi_one, HK.out]; decide) _ _ HZ.out).mono ?_
    rintro e w1 ⟨rfl, hb⟩
    have HB1 := Lib.hid hb
    clear hb
    obtain ⟨q0, q1, q2, q3, q4, q5, q6, q7, q8, q9, q10⟩ := (HX.out.next HB1.out).cells
    rw [HK.out] at q1
    obtain ⟨m0, m1, m2, m3⟩ : w1.cell? ⟨0, 16, none⟩ = some (.int .i64 20) ∧ w1.cell? ⟨0, 17, none⟩ = some (.int .i64 0) ∧ w1.cell? ⟨0, 18, none⟩ = some (.int .i64 0) ∧ w1.cell? ⟨0, 19, none⟩ = some (.int .i64 64) := by
      have h := (HT.out.next HB1.out).kinds
      exact ⟨h 16 (by omega), h 17 (by omega), h 18 (by omega), h 19 (by omega)⟩
    have hz1 : w.heap.size < w1.heap.size := by have := HB1.out.size; have := HZ.out; omega
    go_wp2_with fail
    clear q0 q1 q2 q3 q4 q5 q6 q7 q8 q9 q10 m0 m1 m2 m3
    have HB2 := Lib.hid (show Below W.heap.size W ((w1.alloc (.cells #[.int .i64 20, .int .i64 0, .int .i64 0, .int .i64 64] 110)).alloc (.cells #[.int .i64 0, .int .i64 0] 96)) from below_then' HB1.out (below_alloc2 _ _ _) HB1.out.size)
    have HN := Lib.hid (litAt_one w1 [.int .i64 20, .int .i64 0, .int .i64 0, .int .i64 64] 110 (.cells #[.int .i64 0, .int .i64 0] 96))
    have HS := Lib.hid (litAt_two w1 [.int .i64 0, .int .i64 0] 96 (.cells #[.int .i64 20, .int .i64 0, .int .i64 0, .int .i64 64] 110))
    replace HN := Lib.hid (show LitAt ((w1.alloc (.cells #[.int .i64 20, .int .i64 0, .int .i64 0, .int .i64 64] 110)).alloc (.cells #[.int .i64 0, .int .i64 0] 96)) w1.heap.size [.int .i64 20, .int .i64 0, .int .i64 0, .int .i64 64] from HN.out)
    replace HS := Lib.hid (show LitAt ((w1.alloc (.cells #[.int .i64 20, .int .i64 0, .int .i64 0, .int .i64 64] 110)).alloc (.cells #[.int .i64 0, .int .i64 0] 96)) (w1.heap.size + 1) [.int .i64 0, .int .i64 0] from HS.out)
    generalize (w1.alloc (.cells #[.int .i64 20, .int .i64 0, .int .i64 0, .int .i64 64] 110)).alloc (.cells #[.int .i64 0, .int .i64 0] 96) = W2 at *
    refine (isCost_any y.c0 y.c1 y.c2 y.c3 20 false H1.out _).mono ?_
    rintro e w2 ⟨rfl, hb⟩
    have HB3 := Lib.hid (below_then' HB2.out hb HB2.out.size)
    have HN3 := Lib.hid (HN.out.next hb)
    have HS3 := Lib.hid (HS.out.next hb)
    clear hb
    obtain ⟨q0, q1, q2, q3, q4, q5, q6, q7, q8, q9, q10⟩ := (HX.out.next HB3.out).cells
    have n0 := HN3.out.2 0 (by decide)
    have n1 := HN3.out.2 1 (by decide)
    have n2 := HN3.out.2 2 (by decide)
    have n3 := HN3.out.2 3 (by decide)
    have s0 := HS3.out.2 0 (by decide)
    have s1 := HS3.out.2 1 (by decide)
    simp only [List.getElem?_cons_zero, List.getElem?_cons_succ] at n0 n1 n2 n3 s0 s1
    go_wp2_with fail
    go_ret
    exact ⟨bool_ret HV.out.symm, HW.out.trans (HB3.out.mono HW.out.size)⟩
  · have HE := Lib.hid (show ((y.keys == 0 || y.keys == 64) && wi [⟨y.col, 0, 0⟩, ⟨y.pow, 0, 0⟩, ⟨y.tou, 0, 0⟩]) = r by rw [← HR.out]; simp [mayB, HK.out, t1, keysB, hn, btw])
    have H1 := Lib.hid t1
    clear t1
    cases t2 : (y.keys == 0 || y.keys == 64)
    · have HV := Lib.hid (show r = false by rw [← HE.out, t2, Bool.false_and])
      have t3 := (keys_swift y.keys hy).trans t2
      clear t2
      go_enter Tryd.func51, Tryd.ntmps51
      go_wp2_with fail
      generalize w.alloc (.cells #[.string y.nm, .int .i64 y.k, .int .i64 y.c0, .int .i64 y.c1, .int .i64 y.c2, .int .i64 y.c3, .int .i64 y.col, .int .i64 y.pow, .int .i64 y.tou, .int .i64 y.keys, .slice y.aa y.an y.ac] 39) = W at *
      refine (within_at [⟨y.k, 1, 4⟩] _ _ rfl 1 rfl (by omega) true (by rw [wi_one, HK.out]; decide) _ _ HZ.out).mono ?_
      rintro e w1 ⟨rfl, hb⟩
      have HB1 := Lib.hid hb
      clear hb
      obtain ⟨q0, q1, q2, q3, q4, q5, q6, q7, q8, q9, q10⟩ := (HX.out.next HB1.out).cells
      rw [HK.out] at q1
      obtain ⟨m0, m1, m2, m3⟩ : w1.cell? ⟨0, 16, none⟩ = some (.int .i64 20) ∧ w1.cell? ⟨0, 17, none⟩ = some (.int .i64 0) ∧ w1.cell? ⟨0, 18, none⟩ = some (.int .i64 0) ∧ w1.cell? ⟨0, 19, none⟩ = some (.int .i64 64) := by
        have h := (HT.out.next HB1.out).kinds
        exact ⟨h 16 (by omega), h 17 (by omega), h 18 (by omega), h 19 (by omega)⟩
      have hz1 : w.heap.size < w1.heap.size := by have := HB1.out.size; have := HZ.out; omega
      go_wp2_with fail
      clear q0 q1 q2 q3 q4 q5 q6 q7 q8 q9 q10 m0 m1 m2 m3
      have HB2 := Lib.hid (show Below W.heap.size W ((w1.alloc (.cells #[.int .i64 20, .int .i64 0, .int .i64 0, .int .i64 64] 110)).alloc (.cells #[.int .i64 0, .int .i64 0] 96)) from below_then' HB1.out (below_alloc2 _ _ _) HB1.out.size)
      have HN := Lib.hid (litAt_one w1 [.int .i64 20, .int .i64 0, .int .i64 0, .int .i64 64] 110 (.cells #[.int .i64 0, .int .i64 0] 96))
      have HS := Lib.hid (litAt_two w1 [.int .i64 0, .int .i64 0] 96 (.cells #[.int .i64 20, .int .i64 0, .int .i64 0, .int .i64 64] 110))
      replace HN := Lib.hid (show LitAt ((w1.alloc (.cells #[.int .i64 20, .int .i64 0, .int .i64 0, .int .i64 64] 110)).alloc (.cells #[.int .i64 0, .int .i64 0] 96)) w1.heap.size [.int .i64 20, .int .i64 0, .int .i64 0, .int .i64 64] from HN.out)
      replace HS := Lib.hid (show LitAt ((w1.alloc (.cells #[.int .i64 20, .int .i64 0, .int .i64 0, .int .i64 64] 110)).alloc (.cells #[.int .i64 0, .int .i64 0] 96)) (w1.heap.size + 1) [.int .i64 0, .int .i64 0] from HS.out)
      generalize (w1.alloc (.cells #[.int .i64 20, .int .i64 0, .int .i64 0, .int .i64 64] 110)).alloc (.cells #[.int .i64 0, .int .i64 0] 96) = W2 at *
      refine (isCost_any y.c0 y.c1 y.c2 y.c3 20 true H1.out _).mono ?_
      rintro e w2 ⟨rfl, hb⟩
      have HB3 := Lib.hid (below_then' HB2.out hb HB2.out.size)
      have HN3 := Lib.hid (HN.out.next hb)
      have HS3 := Lib.hid (HS.out.next hb)
      clear hb
      obtain ⟨q0, q1, q2, q3, q4, q5, q6, q7, q8, q9, q10⟩ := (HX.out.next HB3.out).cells
      have n0 := HN3.out.2 0 (by decide)
      have n1 := HN3.out.2 1 (by decide)
      have n2 := HN3.out.2 2 (by decide)
      have n3 := HN3.out.2 3 (by decide)
      have s0 := HS3.out.2 0 (by decide)
      have s1 := HS3.out.2 1 (by decide)
      simp only [List.getElem?_cons_zero, List.getElem?_cons_succ] at n0 n1 n2 n3 s0 s1
      go_wp2_with fail
      go_ret
      exact ⟨bool_ret HV.out.symm, HW.out.trans (HB3.out.mono HW.out.size)⟩
    · have HV := Lib.hid (show wi [⟨y.col, 0, 0⟩, ⟨y.pow, 0, 0⟩, ⟨y.tou, 0, 0⟩] = r by rw [← HE.out, t2, Bool.true_and])
      have t3 := (keys_swift y.keys hy).trans t2
      clear t2
      go_enter Tryd.func51, Tryd.ntmps51
      go_wp2_with fail
      generalize w.alloc (.cells #[.string y.nm, .int .i64 y.k, .int .i64 y.c0, .int .i64 y.c1, .int .i64 y.c2, .int .i64 y.c3, .int .i64 y.col, .int .i64 y.pow, .int .i64 y.tou, .int .i64 y.keys, .slice y.aa y.an y.ac] 39) = W at *
      refine (within_at [⟨y.k, 1, 4⟩] _ _ rfl 1 rfl (by omega) true (by rw [wi_one, HK.out]; decide) _ _ HZ.out).mono ?_
      rintro e w1 ⟨rfl, hb⟩
      have HB1 := Lib.hid hb
      clear hb
      obtain ⟨q0, q1, q2, q3, q4, q5, q6, q7, q8, q9, q10⟩ := (HX.out.next HB1.out).cells
      rw [HK.out] at q1
      obtain ⟨m0, m1, m2, m3⟩ : w1.cell? ⟨0, 16, none⟩ = some (.int .i64 20) ∧ w1.cell? ⟨0, 17, none⟩ = some (.int .i64 0) ∧ w1.cell? ⟨0, 18, none⟩ = some (.int .i64 0) ∧ w1.cell? ⟨0, 19, none⟩ = some (.int .i64 64) := by
        have h := (HT.out.next HB1.out).kinds
        exact ⟨h 16 (by omega), h 17 (by omega), h 18 (by omega), h 19 (by omega)⟩
      have hz1 : w.heap.size < w1.heap.size := by have := HB1.out.size; have := HZ.out; omega
      go_wp2_with fail
      clear q0 q1 q2 q3 q4 q5 q6 q7 q8 q9 q10 m0 m1 m2 m3
      have HB2 := Lib.hid (show Below W.heap.size W ((w1.alloc (.cells #[.int .i64 20, .int .i64 0, .int .i64 0, .int .i64 64] 110)).alloc (.cells #[.int .i64 0, .int .i64 0] 96)) from below_then' HB1.out (below_alloc2 _ _ _) HB1.out.size)
      have HN := Lib.hid (litAt_one w1 [.int .i64 20, .int .i64 0, .int .i64 0, .int .i64 64] 110 (.cells #[.int .i64 0, .int .i64 0] 96))
      have HS := Lib.hid (litAt_two w1 [.int .i64 0, .int .i64 0] 96 (.cells #[.int .i64 20, .int .i64 0, .int .i64 0, .int .i64 64] 110))
      replace HN := Lib.hid (show LitAt ((w1.alloc (.cells #[.int .i64 20, .int .i64 0, .int .i64 0, .int .i64 64] 110)).alloc (.cells #[.int .i64 0, .int .i64 0] 96)) w1.heap.size [.int .i64 20, .int .i64 0, .int .i64 0, .int .i64 64] from HN.out)
      replace HS := Lib.hid (show LitAt ((w1.alloc (.cells #[.int .i64 20, .int .i64 0, .int .i64 0, .int .i64 64] 110)).alloc (.cells #[.int .i64 0, .int .i64 0] 96)) (w1.heap.size + 1) [.int .i64 0, .int .i64 0] from HS.out)
      generalize (w1.alloc (.cells #[.int .i64 20, .int .i64 0, .int .i64 0, .int .i64 64] 110)).alloc (.cells #[.int .i64 0, .int .i64 0] 96) = W2 at *
      refine (isCost_any y.c0 y.c1 y.c2 y.c3 20 true H1.out _).mono ?_
      rintro e w2 ⟨rfl, hb⟩
      have HB3 := Lib.hid (below_then' HB2.out hb HB2.out.size)
      have HN3 := Lib.hid (HN.out.next hb)
      have HS3 := Lib.hid (HS.out.next hb)
      clear hb
      obtain ⟨q0, q1, q2, q3, q4, q5, q6, q7, q8, q9, q10⟩ := (HX.out.next HB3.out).cells
      have n0 := HN3.out.2 0 (by decide)
      have n1 := HN3.out.2 1 (by decide)
      have n2 := HN3.out.2 2 (by decide)
      have n3 := HN3.out.2 3 (by decide)
      have s0 := HS3.out.2 0 (by decide)
      have s1 := HS3.out.2 1 (by decide)
      simp only [List.getElem?_cons_zero, List.getElem?_cons_succ] at n0 n1 n2 n3 s0 s1
      go_wp2_with fail
      refine (within_new [⟨y.col, 0, 0⟩, ⟨y.pow, 0, 0⟩, ⟨y.tou, 0, 0⟩] _ _ rfl 3 rfl (by omega) r HV.out _).mono ?_
      rintro e w3 ⟨rfl, hb⟩
      have HB4 := Lib.hid (below_then' HB3.out hb HB3.out.size)
      clear hb
      go_wp2_with fail
      go_ret
      exact ⟨rfl, HW.out.trans (HB4.out.mono HW.out.size)⟩
set_option maxRecDepth 100000 in
set_option maxHeartbeats 4000000 in
theorem mayBe_nameless (y : Cd) (hn : y.nm.toList.isEmpty = true) (w : World) :
    Calls Tryd.prog 51 #[.agg #[.string y.nm, .int .i64 y.k, .int .i64 y.c0, .int .i64 y.c1, .int .i64 y.c2, .int .i64 y.c3, .int .i64 y.col, .int .i64 y.pow, .int .i64 y.tou, .int .i64 y.keys, .slice y.aa y.an y.ac]] w fun e w' => e = .returned (.bool false) ∧ Below w.heap.size w w' := by
  have HW := Lib.hid (below_alloc1 w (.cells #[.string y.nm, .int .i64 y.k, .int .i64 y.c0, .int .i64 y.c1, .int .i64 y.c2, .int .i64 y.c3, .int .i64 y.col, .int .i64 y.pow, .int .i64 y.tou, .int .i64 y.keys, .slice y.aa y.an y.ac] 39))
  have HX := Lib.hid (boxC_new w y 39)
  have HZ := Lib.hid (show w.heap.size + 1 = (w.alloc (.cells #[.string y.nm, .int .i64 y.k, .int .i64 y.c0, .int .i64 y.c1, .int .i64 y.c2, .int .i64 y.c3, .int .i64 y.col, .int .i64 y.pow, .int .i64 y.tou, .int .i64 y.keys, .slice y.aa y.an y.ac] 39)).heap.size by simp)
  go_enter Tryd.func51, Tryd.ntmps51
  go_wp2_with fail
  go_ret
  exact ⟨rfl, HW.out⟩
set_option maxRecDepth 100000 in
set_option maxHeartbeats 4000000 in
theorem mayBe_none (y : Cd) (hn : y.nm.toList.isEmpty = false) (hk : btw 1 4 y.k = false) (w : World) :
    Calls Tryd.prog 51 #[.agg #[.string y.nm, .int .i64 y.k, .int .i64 y.c0, .int .i64 y.c1, .int .i64 y.c2, .int .i64 y.c3, .int .i64 y.col, .int .i64 y.pow, .int .i64 y.tou, .int .i64 y.keys, .slice y.aa y.an y.ac]] w fun e w' => e = .returned (.bool false) ∧ Below w.heap.size w w' := by
  have HK := Lib.hid hk
  clear hk
  have HW := Lib.hid (below_alloc1 w (.cells #[.string y.nm, .int .i64 y.k, .int .i64 y.c0, .int .i64 y.c1, .int .i64 y.c2, .int .i64 y.c3, .int .i64 y.col, .int .i64 y.pow, .int .i64 y.tou, .int .i64 y.keys, .slice y.aa y.an y.ac] 39))
  have HX := Lib.hid (boxC_new w y 39)
  have HZ := Lib.hid (show w.heap.size + 1 = (w.alloc (.cells #[.string y.nm, .int .i64 y.k, .int .i64 y.c0, .int .i64 y.c1, .int .i64 y.c2, .int .i64 y.c3, .int .i64 y.col, .int .i64 y.pow, .int .i64 y.tou, .int .i64 y.keys, .slice y.aa y.an y.ac] 39)).heap.size by simp)
  go_enter Tryd.func51, Tryd.ntmps51
  go_wp2_with fail
  generalize w.alloc (.cells #[.string y.nm, .int .i64 y.k, .int .i64 y.c0, .int .i64 y.c1, .int .i64 y.c2, .int .i64 y.c3, .int .i64 y.col, .int .i64 y.pow, .int .i64 y.tou, .int .i64 y.keys, .slice y.aa y.an y.ac] 39) = W at *
  refine (within_at [⟨y.k, 1, 4⟩] _ _ rfl 1 rfl (by omega) false ((wi_one _ _ _).trans HK.out) _ _ HZ.out).mono ?_
  rintro e w1 ⟨rfl, hb⟩
  have HB1 := Lib.hid hb
  clear hb
  go_wp2_with fail
  go_ret
  exact ⟨rfl, HW.out.trans (HB1.out.mono HW.out.size)⟩
theorem mayBe_any (y : Cd) (hy : In64 y.keys) (r : Bool) (hr : mayB y = r) (w : World) (hT : Tabs w) :
    Calls Tryd.prog 51 #[.agg #[.string y.nm, .int .i64 y.k, .int .i64 y.c0, .int .i64 y.c1, .int .i64 y.c2, .int .i64 y.c3, .int .i64 y.col, .int .i64 y.pow, .int .i64 y.tou, .int .i64 y.keys, .slice y.aa y.an y.ac]] w fun e w' => e = .returned (.bool r) ∧ Below w.heap.size w w' := by
  cases hn : y.nm.toList.isEmpty
  · by_cases h1 : y.k = 1
    · exact mayBe_land y h1 hn hy r hr w hT
    · by_cases h2 : y.k = 2
      · exact mayBe_beast y h2 hn hy r hr w hT
      · by_cases h3 : y.k = 3
        · exact mayBe_spell y h3 hn hy r hr w hT
        · by_cases h4 : y.k = 4
          · exact mayBe_relic y h4 hn hy r hr w hT
          · have e : btw 1 4 y.k = false := by simp [btw]; omega
            obtain rfl : r = false := by rw [← hr]; simp [mayB, e]
            exact mayBe_none y hn e w
  · obtain rfl : r = false := by rw [← hr]; simp [mayB, hn]
    exact mayBe_nameless y hn w
end Go.Proofs.YtbeaaieaffdgeaaDoor
end
/- canDo. -/
section
namespace Go.Proofs.YtbeaaieaffdgeaaDoor
open Go.RowKit
set_option linter.unusedVariables false
set_option linter.unusedSimpArgs false

/-- May an ability be, of a spell or not? -/
def fitB (s : Bool) (cards : Int) (t : AbT) : Bool := ((t.1.k == 1) == s) && abilB t.1 t.2.1 t.2.2 cards
/-- May a card have these abilities? -/
def canB (s : Bool) (A : List AbT) (cards : Int) : Bool := !(s && A.length != 1) && A.all (fitB s cards)
set_option maxRecDepth 100000 in
set_option maxHeartbeats 4000000 in
theorem canDo_any (y : Cd) (A : List AbT) (s : Bool) (hs : (y.k == 3) = s) (cards : Int) (r : Bool) (hr : canB s A cards = r) (w : World) (h : CdR w y A) (hT : Tabs w) :
    Calls Tryd.prog 52 #[.agg #[.string y.nm, .int .i64 y.k, .int .i64 y.c0, .int .i64 y.c1, .int .i64 y.c2, .int .i64 y.c3, .int .i64 y.col, .int .i64 y.pow, .int .i64 y.tou, .int .i64 y.keys, .slice y.aa y.an y.ac], .int .i64 cards] w fun e w' => e = .returned (.bool r) ∧ Below w.heap.size w w' := by
  have HR := Lib.hid hr
  have hb := below_alloc1 w (.cells #[.string y.nm, .int .i64 y.k, .int .i64 y.c0, .int .i64 y.c1, .int .i64 y.c2, .int .i64 y.c3, .int .i64 y.col, .int .i64 y.pow, .int .i64 y.tou, .int .i64 y.keys, .slice y.aa y.an y.ac] 39)
  have HL := Lib.hid (h.next hb)
  have HT := Lib.hid (hT.next hb)
  have HX := Lib.hid (boxC_new w y 39)
  have hcap := h.2.1
  have hcm := h.2.2.1
  rw [h.1] at hcap
  have HB := Lib.hid hb
  have HN := Lib.hid h.1
  clear hr h hb hT
  cases hc : (s && A.length != 1)
  · have hc1 : s = true → ((y.an : Int) != 1) = false := fun e => by
      rw [e, HN.out] at hc
      simp at hc ⊢
      omega
    obtain ⟨fp, hfp⟩ : ∃ fp, fp = fitB s cards := ⟨_, rfl⟩
    have HE := Lib.hid (show A.all fp = r by rw [← HR.out, canB, hc, hfp]; rfl)
    have HP := Lib.hid hfp
    clear hc hfp
    cases s
    all_goals
      first | (replace hc1 := hc1 rfl) | (clear hc1)
      go_enter Tryd.func52, Tryd.ntmps52
      go_wp2_with fail
      generalize w.alloc (.cells #[.string y.nm, .int .i64 y.k, .int .i64 y.c0, .int .i64 y.c1, .int .i64 y.c2, .int .i64 y.c3, .int .i64 y.col, .int .i64 y.pow, .int .i64 y.tou, .int .i64 y.keys, .slice y.aa y.an y.ac] 39) = W at *
      go_loopw [21] (fun q wr => ∃ k : Nat, q = .int .i64 (k : Int) ∧ k ≤ y.an ∧ (∀ j (h : j < A.length), j < k → fp A[j] = true) ∧ Below W.heap.size W wr) (fun q _ => y.an - (intOf q).toNat)
      case atStart => exact ⟨0, rfl, Nat.zero_le _, fun j _ hj => by omega, Below.refl _ _⟩
      case round =>
        obtain ⟨k, rfl, hk, hn, hbw⟩ := hrel
        have HF := Lib.hid hn
        have HW := Lib.hid hbw
        clear hn hbw
        by_cases hlt : k < y.an
        · obtain ⟨b, off, x, T, L, hx, hab, hta, hbl, m0, m1, m2, m3, m4, m5, m6, m7, m8, m9, m10, m11, m12⟩ := (HL.out.2.next HW.out).at k (by rw [HN.out]; exact hlt)
          have HY := Lib.hid hx
          have HAb := Lib.hid (hab.next (below_alloc1 wr (.cells #[.int .i64 x.k, .int .i64 x.ev, .int .i64 x.wh, .int .i64 x.c0, .int .i64 x.c1, .int .i64 x.c2, .int .i64 x.c3, .bool x.tap, .slice x.ta x.tn x.tc, .slice x.ca x.cn x.cc, .int .i64 x.op, .int .i64 x.a, .int .i64 x.b] 45)))
          clear hx hab
          have HW2 := Lib.hid (HW.out.alloc HW.out.size (.cells #[.int .i64 x.k, .int .i64 x.ev, .int .i64 x.wh, .int .i64 x.c0, .int .i64 x.c1, .int .i64 x.c2, .int .i64 x.c3, .bool x.tap, .slice x.ta x.tn x.tc, .slice x.ca x.cn x.cc, .int .i64 x.op, .int .i64 x.a, .int .i64 x.b] 45))
          have HT2 := Lib.hid (HT.out.next HW2.out)
          rw [hta] at *
          obtain ⟨s2, hs2⟩ : ∃ s2, abilB x T L cards = s2 := ⟨_, rfl⟩
          have HS2 := Lib.hid hs2
          clear hs2
          cases e1 : (x.k == 1)
          all_goals
            have HV := Lib.hid (show fp (x, T, L) = false → r = false from fun h2 => by
              rw [← HE.out]
              refine Bool.eq_false_iff.2 fun hall => ?_
              have := List.all_eq_true.1 hall _ (List.getElem_mem (by rw [HN.out]; exact hlt))
              rw [← HY.out, h2] at this
              cases this)
            go_wp2_with fail
            first
              | (go_ret
                 exact ⟨bool_ret (HV.out (by rw [HP.out]; simp [fitB, e1])).symm, HB.out.trans (HW2.out.mono HB.out.size)⟩)
              | (refine (isAbility_any x T L cards s2 HS2.out _ HAb.out HT2.out).mono ?_
                 rintro e w4 ⟨rfl, hb⟩
                 have HW3 := Lib.hid (below_then' HW2.out hb HW2.out.size)
                 clear hb
                 cases s2
                 · go_wp2_with fail
                   go_ret
                   exact ⟨bool_ret (HV.out (by rw [HP.out]; simp [fitB, HS2.out])).symm, HB.out.trans (HW3.out.mono HB.out.size)⟩
                 · go_wp2_with fail
                   go_roundw
                   case rel => exact ⟨k + 1, by go_num, by omega, fun j h1 h2 => by
                     by_cases hjk : j = k
                     · subst hjk; rw [← HY.out, HP.out]; simp [fitB, e1, HS2.out]
                     · exact HF.out j h1 (by omega), HW3.out⟩
                   case measure => simp [intOf]; omega)
        · have HV := Lib.hid (show r = true by
            rw [← HE.out]
            refine List.all_eq_true.2 fun t ht => ?_
            obtain ⟨j, hj, rfl⟩ := List.getElem_of_mem ht
            exact HF.out j hj (by have := HN.out; omega))
          go_wp2_with fail
          go_ret
          exact ⟨bool_ret HV.out.symm, HB.out.trans (HW.out.mono HB.out.size)⟩
  · have HV := Lib.hid (show r = false by rw [← HR.out, canB, hc]; rfl)
    obtain ⟨rfl, hc1⟩ : s = true ∧ ((y.an : Int) != 1) = true := by
      rw [HN.out] at hc
      cases s
      · simp at hc
      · simp at hc ⊢
        omega
    clear hc
    go_enter Tryd.func52, Tryd.ntmps52
    go_wp2_with fail
    go_ret
    exact ⟨bool_ret HV.out.symm, HB.out⟩
end Go.Proofs.YtbeaaieaffdgeaaDoor
end
