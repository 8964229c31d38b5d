/- The walk of CardOnes. -/
import Derived.Test.YtfhmadlobdklbaaDoorCardX
import Derived.Test.YtfhmadlobdklbaaDoorCardWz
namespace Go.Proofs.YtfhmadlobdklbaaDoor
open Go.RowKit
set_option linter.unusedVariables false
set_option linter.unusedSimpArgs false

/-- No more than m of anything. -/
def Bnd (m : Nat) (A : List AbT) : Prop := A.length ≤ m ∧ ∀ t ∈ A, t.1.tn ≤ m ∧ t.1.cn ≤ m
theorem bnd_er {m : Nat} {A : List AbT} : Bnd m (A.map erT) ↔ Bnd m A := by
  constructor
  · rintro ⟨h1, h2⟩
    exact ⟨by simpa using h1, fun t ht => h2 (erT t) (List.mem_map_of_mem ht)⟩
  · rintro ⟨h1, h2⟩
    refine ⟨by simpa using h1, fun t ht => ?_⟩
    obtain ⟨t0, h0, rfl⟩ := List.mem_map.1 ht
    exact h2 t0 h0
theorem bnd_plain (k : Nat) (h1 : 1 ≤ k) (h4 : k ≤ 4) : Bnd 2 (pA k) := by
  obtain rfl | rfl | rfl | rfl : k = 1 ∨ k = 2 ∨ k = 3 ∨ k = 4 := by omega
  all_goals
    refine ⟨by decide, fun t ht => ?_⟩
    simp only [pA, List.mem_cons, List.not_mem_nil, or_false] at ht
    first
      | (rcases ht with rfl | rfl <;> decide)
      | (subst ht; decide)
theorem bnd_last {m : Nat} {A : List AbT} (g : AbT → AbT) (h : Bnd m A) (hg : ∀ t, t.1.tn ≤ m ∧ t.1.cn ≤ m → (g t).1.tn ≤ m + 1 ∧ (g t).1.cn ≤ m + 1) : Bnd (m + 1) (lastM A g) := by
  rcases List.eq_nil_or_concat A with rfl | ⟨A0, t, rfl⟩
  · simp [lastM, Bnd]
  · rw [List.concat_eq_append] at *
    rw [lastM_snoc]
    obtain ⟨h1, h2⟩ := h
    refine ⟨by simp at *; omega, fun t2 ht2 => ?_⟩
    rcases List.mem_append.1 ht2 with h3 | h3
    · have := h2 t2 (List.mem_append_left _ h3)
      omega
    · obtain rfl := List.mem_singleton.1 h3
      exact hg t (h2 t (by simp))
theorem Bnd.up {m : Nat} {A : List AbT} (h : Bnd m A) : Bnd (m + 1) A := ⟨by have := h.1; omega, fun t ht => by have := h.2 t ht; omega⟩
theorem bnd_more {m : Nat} {A : List AbT} (h : Bnd m A) : Bnd (m + 1) (A ++ A.head?.toList) := by
  obtain ⟨h1, h2⟩ := h
  cases A with
  | nil => exact ⟨by simp, fun t ht => by simp at ht⟩
  | cons a l =>
    refine ⟨by simp at *; omega, fun t ht => ?_⟩
    have h3 : t ∈ a :: l := by
      simp at ht ⊢
      rcases ht with h | h | h
      · exact .inl h
      · exact .inr h
      · exact .inl h
    have := h2 t h3
    omega
theorem bnd_drop {m : Nat} {A : List AbT} (h : Bnd m A) : Bnd (m + 1) A.dropLast := by
  obtain ⟨h1, h2⟩ := h
  refine ⟨by rw [List.length_dropLast]; omega, fun t ht => ?_⟩
  rw [List.dropLast_eq_take] at ht
  have := h2 t (List.mem_of_mem_take ht)
  omega
theorem bnd_turn {m : Nat} (p : Cd × List AbT) (f : Nat) (n : Int) (h : Bnd m p.2) : Bnd (m + 1) (turnM p f n).2 := by
  unfold turnM
  split
  · exact h.up
  · split
    all_goals first
      | exact h.up
      | exact bnd_drop h
      | exact bnd_more h
      | (refine bnd_last _ h fun t ht => ?_; simp only; omega)
      | exact ⟨by simp, fun t ht => by cases ht⟩
set_option maxRecDepth 100000 in
set_option maxHeartbeats 4000000 in
theorem walk_CardOnes (k f : Nat) (hk : k ≤ 255) (hf : f ≤ 255) (n : Int) (hn : In64 n) (w : World) (hT : Tabs w) :
    Calls Tryd.prog 4 #[.int .u8 (k : Int), .int .u8 (f : Int), .int .i64 n] w fun e w' => e = .returned (.bool true) ∧ Below w.heap.size w w' := by
  have HT := Lib.hid hT
  have HN := Lib.hid hn
  obtain ⟨k4, hk4⟩ : ∃ k4, k4 = 1 + k % 4 := ⟨_, rfl⟩
  obtain ⟨f24, hf24⟩ : ∃ f24, f24 = f % 24 := ⟨_, rfl⟩
  have H4 := Lib.hid (show 1 ≤ k4 ∧ k4 ≤ 4 by omega)
  have H24 := Lib.hid (show f24 ≤ 23 by omega)
  have e1 : 1 + (k : Int) % 4 = (k4 : Int) := by omega
  have e2 : (f : Int) % 24 = (f24 : Int) := by omega
  clear hT hn hk4 hf24
  go_enter Tryd.func4, Tryd.ntmps4
  go_wp2_with fail
  refine (plain_any k4 H4.out.1 H4.out.2 (fun _ => False) _ (fun _ h => h.elim)).mono ?_
  rintro e w1 ⟨y, A, rfl, hr, ho, he1, he2, hb⟩
  have HW1 := Lib.hid hb
  have hb2 := below_alloc1 w1 (.cells #[.string y.nm, .int .i64 y.k, .int .i64 y.c0, .int .i64 y.c1, .int .i64 y.c2, .int .i64 y.c3, .int .i64 y.col, .int .i64 y.pow, .int .i64 y.tou, .int .i64 y.keys, .slice y.aa y.an y.ac] 26)
  have HCX := Lib.hid (hr.now.old hb2 (X := fun g => g = w1.heap.size) (fun g e => by rw [e]; exact Nat.le_refl _))
  have HX := Lib.hid (blkAt_new w1 #[.string y.nm, .int .i64 y.k, .int .i64 y.c0, .int .i64 y.c1, .int .i64 y.c2, .int .i64 y.c3, .int .i64 y.col, .int .i64 y.pow, .int .i64 y.tou, .int .i64 y.keys, .slice y.aa y.an y.ac] 26)
  have HW := Lib.hid (below_then' hb hb2 hb.size)
  have HZ := Lib.hid (show w1.heap.size < (w1.alloc (.cells #[.string y.nm, .int .i64 y.k, .int .i64 y.c0, .int .i64 y.c1, .int .i64 y.c2, .int .i64 y.c3, .int .i64 y.col, .int .i64 y.pow, .int .i64 y.tou, .int .i64 y.keys, .slice y.aa y.an y.ac] 26)).heap.size by simp)
  have HO := Lib.hid ho
  have HBd := Lib.hid (show Bnd 2 A by rw [← bnd_er, he2]; exact bnd_plain k4 H4.out.1 H4.out.2)
  have HCk := Lib.hid ((chk_eq y A 2 hr.now.1).trans ((chk_of he1 he2 2).trans (plain_ok k4 H4.out.1 H4.out.2)))
  clear hr ho he1 he2 hb hb2
  go_wp2_with fail
  generalize w1.alloc (.cells #[.string y.nm, .int .i64 y.k, .int .i64 y.c0, .int .i64 y.c1, .int .i64 y.c2, .int .i64 y.c3, .int .i64 y.col, .int .i64 y.pow, .int .i64 y.tou, .int .i64 y.keys, .slice y.aa y.an y.ac] 26) = W at *
  refine (refCardCheck_any y A 2 0 HCk.out _ HCX.out.now HO.out.1).mono ?_
  rintro e w2 ⟨rfl, hb⟩
  have HB2 := Lib.hid hb
  clear hb
  obtain ⟨⟨q0, q1, q2, q3, q4, q5, q6, q7, q8, q9, q10⟩, _⟩ := (HX.out.next HB2.out).cells11
  go_wp2_with fail
  clear q0 q1 q2 q3 q4 q5 q6 q7 q8 q9 q10
  refine (turned_any (fun g => g = w1.heap.size) y A f24 H24.out n HN.out _ (fun g e => by rw [e]; exact Nat.lt_of_lt_of_le HZ.out HB2.out.size) (HCX.out.next HB2.out) HO.out (by have := HBd.out.1; omega) (fun t ht => by have := HBd.out.2 t ht; omega)).mono ?_
  rintro e w3 ⟨z, B, rfl, hr, ho, _, _, hb⟩
  have HB3 := Lib.hid (below_then' HB2.out hb HB2.out.size)
  have HX1 := Lib.hid (HX.out.next HB3.out)
  have HZ1 := Lib.hid hr
  have HO3 := Lib.hid ho
  clear hr ho hb
  obtain ⟨⟨q0, q1, q2, q3, q4, q5, q6, q7, q8, q9, q10⟩, f0, f1, f2, f3, f4, f5, f6, f7, f8, f9, f10⟩ := HX1.out.cells11
  go_wp2_with fail
  have HB4 := Lib.hid (stored11_below w3 w1.heap.size HW1.out.size (.string z.nm) (.int .i64 z.k) (.int .i64 z.c0) (.int .i64 z.c1) (.int .i64 z.c2) (.int .i64 z.c3) (.int .i64 z.col) (.int .i64 z.pow) (.int .i64 z.tou) (.int .i64 z.keys) (.slice z.aa z.an z.ac) (HW.out.trans (HB3.out.mono HW.out.size)))
  have HX2 := Lib.hid (stored11 w3 w1.heap.size _ _ _ _ _ _ _ _ _ _ _ _ (.string z.nm) (.int .i64 z.k) (.int .i64 z.c0) (.int .i64 z.c1) (.int .i64 z.c2) (.int .i64 z.c3) (.int .i64 z.col) (.int .i64 z.pow) (.int .i64 z.tou) (.int .i64 z.keys) (.slice z.aa z.an z.ac) HX1.out)
  have HC2 := Lib.hid (stored11_cdx (X := fun g => g = w1.heap.size) w3 w1.heap.size rfl z B (.string z.nm) (.int .i64 z.k) (.int .i64 z.c0) (.int .i64 z.c1) (.int .i64 z.c2) (.int .i64 z.c3) (.int .i64 z.col) (.int .i64 z.pow) (.int .i64 z.tou) (.int .i64 z.keys) (.slice z.aa z.an z.ac) HZ1.out)
  have HT2 := Lib.hid (HT.out.next HB4.out)
  clear q0 q1 q2 q3 q4 q5 q6 q7 q8 q9 q10 f0 f1 f2 f3 f4 f5 f6 f7 f8 f9 f10
  generalize ((((((((((w3.setCell ⟨w1.heap.size, 0, none⟩ (.string z.nm)).setCell ⟨w1.heap.size, 1, none⟩ (.int .i64 z.k)).setCell ⟨w1.heap.size, 2, none⟩ (.int .i64 z.c0)).setCell ⟨w1.heap.size, 3, none⟩ (.int .i64 z.c1)).setCell ⟨w1.heap.size, 4, none⟩ (.int .i64 z.c2)).setCell ⟨w1.heap.size, 5, none⟩ (.int .i64 z.c3)).setCell ⟨w1.heap.size, 6, none⟩ (.int .i64 z.col)).setCell ⟨w1.heap.size, 7, none⟩ (.int .i64 z.pow)).setCell ⟨w1.heap.size, 8, none⟩ (.int .i64 z.tou)).setCell ⟨w1.heap.size, 9, none⟩ (.int .i64 z.keys)).setCell ⟨w1.heap.size, 10, none⟩ (.slice z.aa z.an z.ac) = V at *
  obtain ⟨⟨q0, q1, q2, q3, q4, q5, q6, q7, q8, q9, q10⟩, _⟩ := HX2.out.cells11
  obtain ⟨r, hr⟩ : ∃ r, chkC z B 2 = r := ⟨_, rfl⟩
  have HR := Lib.hid hr
  have HR2 := Lib.hid ((chk_eq z B 2 HC2.out.now.1).trans hr)
  clear hr
  have hdr : Below V.heap.size V V.drew := (Below.refl _ _).drew
  have HCd := Lib.hid (HC2.out.next hdr).now
  have HTd := Lib.hid (HT2.out.next hdr)
  have HDr := Lib.hid hdr
  clear hdr
  first
    | (go_region_with (first
        | (go_at_call 8; refine (cardCheck_any z B 2 r HR.out _ HCd.out HO3.out HTd.out).mono ?_; rintro e w4 ⟨rfl, hb⟩; have HB5 := Lib.hid (below_then' HDr.out hb (Nat.le_refl _)); clear hb q0 q1 q2 q3 q4 q5 q6 q7 q8 q9 q10; obtain ⟨⟨q0, q1, q2, q3, q4, q5, q6, q7, q8, q9, q10⟩, _⟩ := (HX2.out.next HB5.out).cells11)
        | (go_at_call 9; refine (refCardCheck_any z B 2 r HR2.out _ (HC2.out.next HB5.out).now HO3.out.1).mono ?_; rintro e w5 ⟨rfl, hb⟩; have HB6 := Lib.hid (below_then' HB5.out hb HB5.out.size); clear hb)
        | (go_at_call 10; refine (works_any _ (HT2.out.next HB6.out)).mono ?_; rintro e w6 ⟨rfl, hb⟩; have HB7 := Lib.hid (below_then' HB6.out hb HB6.out.size); clear hb)))
    | fail
  all_goals
    go_wp2_with fail
    go_ret
    exact ⟨rfl, HB4.out.trans (HB7.out.mono HB4.out.size)⟩
end Go.Proofs.YtfhmadlobdklbaaDoor
