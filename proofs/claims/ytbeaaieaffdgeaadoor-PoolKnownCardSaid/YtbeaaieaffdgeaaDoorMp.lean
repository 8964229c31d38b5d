/- Texts that belong together: PoolV, PoolY, PoolYa, PoolYw, CardV. -/
import Derived.Test.YtbeaaieaffdgeaaDoorMk
import Derived.Test.YtbeaaieaffdgeaaDoorMl
import Derived.Test.YtbeaaieaffdgeaaDoorMo
import Derived.Tactics
import Derived.Tactics2
import Derived.Defers
import Derived.Recover
import Derived.Laws.Pointers
/- The program's Decode: what it gives up is recovered. -/
section
namespace Go.Proofs.YtbeaaieaffdgeaaDoor
open Go.RowKit
set_option linter.unusedVariables false
set_option linter.unusedSimpArgs false

theorem catch_panic (b : Nat) (x y : Value) (u : TypeId) (pv : Value) (older : List PanicEntry) (w : World) (hx : Bk w b #[x] 22) (hy : Bk w (b + 1) #[y] 25) :
    CallsD Tryd.prog 17 #[.pointer (some ⟨b, 0, none⟩), .pointer (some ⟨b + 1, 0, none⟩)] (.panicking ({ v := .iface u pv, recovered := false } :: older)) w fun e u' w' =>
      e = .returned (.tuple #[]) ∧ u' = .panicking ({ v := .iface u pv, recovered := true } :: older) ∧ w' = (w.setCell ⟨b, 0, none⟩ (.slice none 0 0)).setCell ⟨b + 1, 0, none⟩ (.int .i64 4) := by
  have c0 := hx.cell 0
  have f0 := hx.free 0
  have c1 := hy.cell 0
  have f1 := hy.free 0
  simp at c0 c1
  refine callsD_of_wpS Tryd.func17 rfl fun c₀ cs hu => ?_
  apply wpS_seq
  apply wpS_region
  simp [wpOpsS, go_sem, recoverD, hu, Tryd.ntmps17, Exit.thenS]
  refine wpS_cond (t := true) (by simp [Act.eval, Array.replicate]) ?_
  simp only [if_true]
  apply wpS_region
  simp [wpOpsS, go_sem, c0, f0, c1, f1, bodyPostS, results, Tryd.results17]
theorem catch_idle (b : Nat) (w : World) :
    CallsD Tryd.prog 17 #[.pointer (some ⟨b, 0, none⟩), .pointer (some ⟨b + 1, 0, none⟩)] .returning w fun e u' w' => e = .returned (.tuple #[]) ∧ u' = .returning ∧ w' = w := by
  refine callsD_of_wpS Tryd.func17 rfl fun c₀ cs hu => ?_
  apply wpS_seq
  apply wpS_region
  simp [wpOpsS, go_sem, recoverD, hu, Tryd.ntmps17, Exit.thenS]
  refine wpS_cond (t := false) (by simp [Act.eval, Array.replicate]) ?_
  simp only [Bool.false_eq_true, if_false]
  refine wpS_of_wp (wp_skip ?_)
  cases c₀
  simp_all [bodyPostS, results, Tryd.results17]
/-- What Check tells is told of the cards without their addresses. -/
theorem bare_er {y : Cd} {A : List AbT} {w : World} (h : CdR w y A) : bareC (y, A) = (erC y, A.map erT) := by
  have h1 : A.map bareA = A.map erT := List.map_congr_left fun t ht => by
    obtain ⟨⟨h2, _⟩, h3, _⟩ := h.2.2.2.1 t ht
    simp only [bareA, erT, erA, h2, h3]
  simp only [bareC, h1, erC, h.1]
theorem inB_bare {w : World} (M : List CdT) (c : CdT) (h : CdR w c.1 c.2) : inB (M.map bareC) (bareC c) = inB M c := by
  have e1 : ∀ C, tokB (M.map bareC) C = tokB M C := fun C => by
    unfold tokB
    congr 1
    funext x
    rw [List.getElem?_map]
    cases M[x.b.toNat]? <;> rfl
  have e2 := bare_er (y := c.1) (A := c.2) h
  have e3 : bareC c = (erC c.1, c.2.map erT) := e2
  unfold inB
  rw [e3, List.length_map]
  simp only [chkC_er, List.all_map]
  congr 1
  refine congrArg (fun f => c.2.all f) (funext fun t => ?_)
  show tokB (M.map bareC) (erT t).2.2 = tokB M t.2.2
  rw [e1]; rfl
theorem twice_bare : ∀ M : List CdT, twiceB (M.map bareC) = twiceB M
  | [] => rfl
  | c :: M => by
    have ih := twice_bare M
    simp only [List.map_cons, twiceB, ih, List.any_map]
    rfl
theorem chkP_bare {w : World} (M : List CdT) (h : ∀ c ∈ M, CdR w c.1 c.2) : chkP (M.map bareC) = chkP M := by
  have e : (M.map bareC).all (inB (M.map bareC)) = M.all (inB M) := by
    rw [List.all_map]
    have : ∀ N : List CdT, (∀ c ∈ N, c ∈ M) → N.all (inB (M.map bareC) ∘ bareC) = N.all (inB M) := by
      intro N
      induction N with
      | nil => intro _; rfl
      | cons c N ih =>
        intro hN
        simp only [List.all_cons, Function.comp]
        rw [inB_bare M c (h c (hN c (by simp))), ← ih (fun d hd => hN d (by simp [hd]))]
    exact this M (fun c hc => hc)
  unfold chkP
  rw [List.length_map, e, twice_bare]
/-- WHAT DECODE TELLS. -/
def DecOut (s : ByteArray) (w : World) (e : Ending) (w' : World) : Prop :=
  Below w.heap.size w w' ∧
  ((∃ L, pPool s = some (L, ByteArray.empty) ∧ chkP L = 0 ∧ ∃ M a c, M.map bareC = L ∧ e = .returned (.tuple #[.slice a M.length c, .int .i64 0]) ∧ IsP w' a c M ∧ PCd M) ∨
   ((∀ L, pPool s = some (L, ByteArray.empty) → chkP L ≠ 0) ∧ e = .returned (.tuple #[.slice none 0 0, .int .i64 4])))
/-- Decode's own blocks. -/
def DS (w : World) (lv ev : Value) (u : ByteArray) (W : World) : Prop :=
  Bk W w.heap.size #[lv] 22 ∧ Bk W (w.heap.size + 1) #[ev] 25 ∧ Rd1 (w.heap.size + 1 + 1) u W ∧ Bk W (w.heap.size + 1 + 1 + 1) #[.pointer (some ⟨w.heap.size + 1 + 1, 0, none⟩)] 60 ∧ Below w.heap.size w W
theorem DS.start (w : World) (s : ByteArray) : DS w (.slice none 0 0) (.int .i64 0) s ((((w.alloc (.cells #[.slice none 0 0] 22)).alloc (.cells #[.int .i64 0] 25)).alloc (.cells #[.string s, .bool false] 77 (0, 0))).alloc (.cells #[.pointer (some ⟨w.heap.size + 1 + 1, 0, none⟩)] 60)) := by
  refine ⟨(((Bk.new w _ _).below (below_alloc1 _ _)).below (below_alloc1 _ _)).below (below_alloc1 _ _), ?_, ?_, ?_, ?_⟩
  · have h := ((Bk.new (w.alloc (.cells #[.slice none 0 0] 22)) #[.int .i64 0] 25).below (below_alloc1 _ (.cells #[.string s, .bool false] 77 (0, 0)))).below (below_alloc1 _ (.cells #[.pointer (some ⟨w.heap.size + 1 + 1, 0, none⟩)] 60))
    simpa using h
  · have h : Rd1 _ s _ := ((RdT.new 77 s false ((w.alloc (.cells #[.slice none 0 0] 22)).alloc (.cells #[.int .i64 0] 25))).alloc (.cells #[.pointer (some ⟨w.heap.size + 1 + 1, 0, none⟩)] 60))
    simpa using h
  · have h := Bk.new (((w.alloc (.cells #[.slice none 0 0] 22)).alloc (.cells #[.int .i64 0] 25)).alloc (.cells #[.string s, .bool false] 77 (0, 0))) #[.pointer (some ⟨w.heap.size + 1 + 1, 0, none⟩)] 60
    simpa using h
  · exact (((below_alloc1 w _).alloc (by simp) _).alloc (by simp; omega) _).alloc (by simp; omega) _
theorem DS.read {w W W' : World} {lv ev : Value} {u u' : ByteArray} (h : DS w lv ev u W) (g : W.grownBy W' (some (w.heap.size + 1 + 1))) (hr : Rd1 (w.heap.size + 1 + 1) u' W') : DS w lv ev u' W' :=
  ⟨h.1.read g (by omega), h.2.1.read g (by omega), hr, h.2.2.2.1.read g (by omega), h.2.2.2.2.grown g h.2.2.2.2.size (fun j hj => by cases hj; omega)⟩
theorem DS.call {w W W' : World} {lv ev : Value} {u : ByteArray} (h : DS w lv ev u W) (k : Below W.heap.size W W') : DS w lv ev u W' :=
  ⟨h.1.below k, h.2.1.below k, h.2.2.1.below k, h.2.2.2.1.below k, below_then' h.2.2.2.2 k h.2.2.2.2.size⟩
theorem DS.set0 {w W : World} {lv ev : Value} {u : ByteArray} (h : DS w lv ev u W) (v : Value) : DS w v ev u (W.setCell ⟨w.heap.size, 0, none⟩ v) :=
  ⟨by simpa using h.1.set 0 v, h.2.1.far ⟨w.heap.size, 0, none⟩ v (by show w.heap.size ≠ w.heap.size + 1; omega), Rd1.far h.2.2.1 ⟨w.heap.size, 0, none⟩ v (by show w.heap.size ≠ w.heap.size + 1 + 1; omega), h.2.2.2.1.far ⟨w.heap.size, 0, none⟩ v (by show w.heap.size ≠ w.heap.size + 1 + 1 + 1; omega), h.2.2.2.2.setCell (Nat.le_refl _) v⟩
theorem DS.set1 {w W : World} {lv ev : Value} {u : ByteArray} (h : DS w lv ev u W) (v : Value) : DS w lv v u (W.setCell ⟨w.heap.size + 1, 0, none⟩ v) :=
  ⟨h.1.far ⟨w.heap.size + 1, 0, none⟩ v (by show w.heap.size + 1 ≠ w.heap.size; omega), by simpa using h.2.1.set 0 v, Rd1.far h.2.2.1 ⟨w.heap.size + 1, 0, none⟩ v (by show w.heap.size + 1 ≠ w.heap.size + 1 + 1; omega), h.2.2.2.1.far ⟨w.heap.size + 1, 0, none⟩ v (by show w.heap.size + 1 ≠ w.heap.size + 1 + 1 + 1; omega), h.2.2.2.2.setCell (by show w.heap.size ≤ w.heap.size + 1; omega) v⟩
/-- At the door, where reading was given up; where it was not. -/
theorem door_gone {s : ByteArray} {w W : World} {lv ev : Value} (tm : Array Value) (h2 : tm.getD 2 undef = .pointer (some ⟨w.heap.size, 0, none⟩)) (h3 : tm.getD 3 undef = .pointer (some ⟨w.heap.size + 1, 0, none⟩))
    (hl : Bk W w.heap.size #[lv] 22) (he : Bk W (w.heap.size + 1) #[ev] 25) (hB : Below w.heap.size w W) (hbad : ∀ L, pPool s = some (L, ByteArray.empty) → chkP L ≠ 0) :
    Leaves Tryd.prog Tryd.f9 tm (fun e w' => DecOut s w e w') [{ target := .fn (.func 17) #[.pointer (some ⟨w.heap.size, 0, none⟩), .pointer (some ⟨w.heap.size + 1, 0, none⟩)], args := #[] }] (.panicking [{ v := .iface 25 (.int .i64 4), recovered := false }]) W := by
  refine leaves_cons (f := 17) (args := #[.pointer (some ⟨w.heap.size, 0, none⟩), .pointer (some ⟨w.heap.size + 1, 0, none⟩)]) (by simp) (by simp [go_sem]) ?_
  refine (catch_panic w.heap.size _ _ _ _ [] _ hl he).mono ?_
  rintro e u' w'' ⟨rfl, rfl, rfl⟩
  have k0 : Bk ((W.setCell ⟨w.heap.size, 0, none⟩ (.slice none 0 0)).setCell ⟨w.heap.size + 1, 0, none⟩ (.int .i64 4)) w.heap.size #[.slice none 0 0] 22 := by
    have h := (hl.set 0 (.slice none 0 0)).far ⟨w.heap.size + 1, 0, none⟩ (.int .i64 4) (by show w.heap.size + 1 ≠ w.heap.size; omega)
    simpa using h
  have k1 : Bk ((W.setCell ⟨w.heap.size, 0, none⟩ (.slice none 0 0)).setCell ⟨w.heap.size + 1, 0, none⟩ (.int .i64 4)) (w.heap.size + 1) #[.int .i64 4] 25 := by
    have h := (he.far ⟨w.heap.size, 0, none⟩ (.slice none 0 0) (by show w.heap.size ≠ w.heap.size + 1; omega)).set 0 (.int .i64 4)
    simpa using h
  have hB9 := (hB.setCell (p := ⟨w.heap.size, 0, none⟩) (Nat.le_refl _) (.slice none 0 0)).setCell (p := ⟨w.heap.size + 1, 0, none⟩) (by show w.heap.size ≤ w.heap.size + 1; omega) (.int .i64 4)
  generalize (W.setCell ⟨w.heap.size, 0, none⟩ (.slice none 0 0)).setCell ⟨w.heap.size + 1, 0, none⟩ (.int .i64 4) = W9 at *
  have d0 := k0.cell 0
  have d1 := k1.cell 0
  simp at d0 d1
  refine ⟨.tuple #[.slice none 0 0, .int .i64 4], ?_, hB9, .inr ⟨hbad, rfl⟩⟩
  simp [results, Tryd.results9, go_sem, d0, d1]
  simp [Array.getD_eq_getD_getElem?] at h2 h3
  simp [h2, h3, d0, d1, go_sem]
theorem door_good {s : ByteArray} {w W : World} {lv ev : Value} (tm : Array Value) (h2 : tm.getD 2 undef = .pointer (some ⟨w.heap.size, 0, none⟩)) (h3 : tm.getD 3 undef = .pointer (some ⟨w.heap.size + 1, 0, none⟩))
    (hl : Bk W w.heap.size #[lv] 22) (he : Bk W (w.heap.size + 1) #[ev] 25) (R : DecOut s w (.returned (.tuple #[lv, ev])) W) :
    Leaves Tryd.prog Tryd.f9 tm (fun e w' => DecOut s w e w') [{ target := .fn (.func 17) #[.pointer (some ⟨w.heap.size, 0, none⟩), .pointer (some ⟨w.heap.size + 1, 0, none⟩)], args := #[] }] .returning W := by
  refine leaves_cons (f := 17) (args := #[.pointer (some ⟨w.heap.size, 0, none⟩), .pointer (some ⟨w.heap.size + 1, 0, none⟩)]) (by simp) (by simp [go_sem]) ?_
  refine (catch_idle w.heap.size _).mono ?_
  rintro e u' w'' ⟨rfl, rfl, rfl⟩
  have d0 := hl.cell 0
  have d1 := he.cell 0
  simp at d0 d1
  refine ⟨.tuple #[lv, ev], ?_, R⟩
  simp [Array.getD_eq_getD_getElem?] at h2 h3
  simp [results, Tryd.results9, go_sem, h2, h3, d0, d1]
theorem DS.rows {w W : World} {lv ev : Value} {u : ByteArray} (h : DS w lv ev u W) (v : Value) {S : List TypeId} {rb : Nat} (hS : S.contains 22 = false := by decide) : ∀ k c e fz, W.heap[k]? = some (.cells c e fz) → S.contains e = true → k ≠ rb → (W.setCell ⟨w.heap.size, 0, none⟩ v).heap[k]? = W.heap[k]? := by
  intro k c e fz hk he _
  refine Below.heap_setCell _ _ _ _ (fun q => ?_)
  have q2 : k = w.heap.size := q
  have h1 : W.heap[w.heap.size]? = some (.cells #[lv] 22 (0, 0)) := h.1
  rw [q2, h1] at hk
  injection hk with hk
  injection hk with _ h5 _
  rw [← h5, hS] at he
  cases he
theorem DS.rows1 {w W : World} {lv ev : Value} {u : ByteArray} (h : DS w lv ev u W) (v : Value) {S : List TypeId} {rb : Nat} (hS : S.contains 25 = false := by decide) : ∀ k c e fz, W.heap[k]? = some (.cells c e fz) → S.contains e = true → k ≠ rb → (W.setCell ⟨w.heap.size + 1, 0, none⟩ v).heap[k]? = W.heap[k]? := by
  intro k c e fz hk he _
  refine Below.heap_setCell _ _ _ _ (fun q => ?_)
  have q2 : k = w.heap.size + 1 := q
  have h1 : W.heap[w.heap.size + 1]? = some (.cells #[ev] 25 (0, 0)) := h.2.1
  rw [q2, h1] at hk
  injection hk with hk
  injection hk with _ h5 _
  rw [← h5, hS] at he
  cases he
set_option maxRecDepth 100000 in
set_option maxHeartbeats 4000000 in
theorem decode_any (s : ByteArray) (hs : s.size ≤ 70368744177664) (w : World) (hT : Tabs w) :
    Calls Tryd.prog 9 #[.string s] w fun e w' => DecOut s w e w' := by
  have hmf : ∀ (fn : Fn) (first cap : Array Value) (w : World), (Instr.makeFunc fn first cap).run Tryd.prog w = .ok (.func fn first cap) w := fun _ _ _ _ => rfl
  have HL := Lib.hid (list_c 40 (by omega) card1_any)
  have HD0 := Lib.hid (DS.start w s)
  have HTb := Lib.hid hT
  have HS := Lib.hid hs
  clear hT hs
  go_enter_defers Tryd.func9, Tryd.ntmps9
  go_wp2_with fail
  refine (new_any _ _).mono ?_
  rintro e w1 ⟨rfl, rfl⟩
  go_wp2_with fail
  generalize (((w.alloc (.cells #[.slice none 0 0] 22)).alloc (.cells #[.int .i64 0] 25)).alloc (.cells #[.string s, .bool false] 77 (0, 0))).alloc (.cells #[.pointer (some ⟨w.heap.size + 1 + 1, 0, none⟩)] 60) = W1 at *
  refine (HL.out (w.heap.size + 1 + 1) s W1 HS.out HD0.out.2.2.1).mono ?_
  rintro e W2 ⟨g2, ⟨hno, rfl⟩ | ⟨L, u, v, hL, hus, rfl, hr2, M, a, c, rfl, rfl, hC, hK⟩⟩
  · have HBad := Lib.hid (show ∀ L, pPool s = some (L, ByteArray.empty) → chkP L ≠ 0 from fun L h => by rw [show pPool s = none from hno] at h; cases h)
    have HD2 := Lib.hid (show Bk W2 w.heap.size #[.slice none 0 0] 22 ∧ Bk W2 (w.heap.size + 1) #[.int .i64 0] 25 ∧ Below w.heap.size w W2 from ⟨HD0.out.1.read g2 (by omega), HD0.out.2.1.read g2 (by omega), HD0.out.2.2.2.2.grown g2 HD0.out.2.2.2.2.size (fun j hj => by cases hj; omega)⟩)
    clear g2 hno
    exact door_gone _ rfl rfl HD2.out.1 HD2.out.2.1 HD2.out.2.2 HBad.out
  · have HD2 := Lib.hid (HD0.out.read g2 hr2)
    have HPl := Lib.hid (show pPool s = some (M.map bareC, u) from hL)
    have HIs := Lib.hid (show IsP W2 a c M from isP_row rfl hK.now.2 hK.now.1)
    have HCd := Lib.hid (show PCd M from hC)
    have HCk := Lib.hid (chkP_bare M (fun c hc => hK.now.2 c hc))
    have hc0 := HD2.out.1.cell 0
    have hf0 := HD2.out.1.free 0
    have hc3 := HD2.out.2.2.2.1.cell 0
    simp at hc0 hc3
    have HD3 := Lib.hid (HD2.out.set0 (.slice a M.length c))
    have HI3 := Lib.hid (show Kd (39 :: vC.S) (w.heap.size + 1 + 1) (fun W => IsP W a c M) (W2.setCell ⟨w.heap.size, 0, none⟩ (.slice a M.length c)) from
      (hK.map (fun W h => isP_row rfl h.2 h.1)).next (by simp [World.setCell]) (DS.rows HD2.out _))
    clear g2 hL hus hr2 hK hC
    go_wp2_with fail
    generalize W2.setCell ⟨w.heap.size, 0, none⟩ (.slice a M.length c) = W3 at *
    clear hf0 hc0 hc3 HIs HD2
    obtain ⟨bb, hbb⟩ : ∃ bb, u.toList.isEmpty = bb := ⟨_, rfl⟩
    have hE := end_any (w.heap.size + 1 + 1) u false W3 HD3.out.2.2.1
    rw [hbb] at hE
    refine hE.mono ?_
    rintro e W4 ⟨rfl, rfl⟩
    have hc0 := HD3.out.1.cell 0
    have hf0 := HD3.out.1.free 0
    have hc1 := HD3.out.2.1.cell 0
    have hf1 := HD3.out.2.1.free 0
    simp at hc0 hc1
    clear hE
    cases bb
    · have HBad := Lib.hid (show ∀ L, pPool s = some (L, ByteArray.empty) → chkP L ≠ 0 from fun L h => by
        rw [HPl.out] at h
        simp only [Option.some.injEq, Prod.mk.injEq] at h
        rw [h.2] at hbb
        rw [ByteArray.toList_eq] at hbb
        simp at hbb)
      clear hbb
      go_wp2_with (go_at_call 21; refine (must_false _).mono ?_; rintro e w9 ⟨rfl, rfl⟩)
      exact door_gone _ rfl rfl HD3.out.1 HD3.out.2.1 HD3.out.2.2.2.2 HBad.out
    · have HU := Lib.hid (show u = ByteArray.empty by
        rw [ByteArray.toList_eq] at hbb
        apply ByteArray.ext
        apply Array.ext'
        simpa using hbb)
      clear hbb
      obtain ⟨r, hr⟩ : ∃ r, chkP M = r := ⟨_, rfl⟩
      have HR := Lib.hid hr
      clear hr
      go_wp2_with fail
      refine (pCheck_any a c M M.length rfl r HR.out HCd.out _ HI3.out.now (HTb.out.next HD3.out.2.2.2.2)).mono ?_
      rintro e W5 ⟨rfl, hb⟩
      have HD5 := Lib.hid (HD3.out.call hb)
      have HI5 := Lib.hid (HI3.out.below hb)
      have kc0 := HD5.out.1.cell 0
      have kf0 := HD5.out.1.free 0
      have kc1 := HD5.out.2.1.cell 0
      have kf1 := HD5.out.2.1.free 0
      simp at kc0 kc1
      clear hb hc0 hf0 hc1 hf1
      by_cases h0 : r = 0
      · subst h0
        have HD6 := Lib.hid ((HD5.out.set0 (.slice a M.length c)).set1 (.int .i64 0))
        have HI6 := Lib.hid (show IsP ((W5.setCell ⟨w.heap.size, 0, none⟩ (.slice a M.length c)).setCell ⟨w.heap.size + 1, 0, none⟩ (.int .i64 0)) a c M from
          ((HI5.out.next (by simp [World.setCell]) (DS.rows HD5.out (.slice a M.length c))).next (w' := (W5.setCell ⟨w.heap.size, 0, none⟩ (.slice a M.length c)).setCell ⟨w.heap.size + 1, 0, none⟩ (.int .i64 0)) (by simp [World.setCell]) (DS.rows1 (HD5.out.set0 (.slice a M.length c)) _)).now)
        go_wp2_with (go_at_call 21; refine (must_true _).mono ?_; rintro e w9 ⟨rfl, rfl⟩)
        generalize (W5.setCell ⟨w.heap.size, 0, none⟩ (.slice a M.length c)).setCell ⟨w.heap.size + 1, 0, none⟩ (.int .i64 0) = W6 at *
        refine door_good _ rfl rfl HD6.out.1 HD6.out.2.1 ⟨HD6.out.2.2.2.2, .inl ⟨M.map bareC, by rw [HPl.out, HU.out], by rw [HCk.out]; exact HR.out, M, a, c, rfl, rfl, HI6.out, HCd.out⟩⟩
      · have HBad := Lib.hid (show ∀ L, pPool s = some (L, ByteArray.empty) → chkP L ≠ 0 from fun L h => by
          rw [HPl.out] at h
          simp only [Option.some.injEq, Prod.mk.injEq] at h
          rw [← h.1, HCk.out, HR.out]
          exact h0)
        have hb0 : (r == 0) = false := by simpa using h0
        clear h0
        go_wp2_with (go_at_call 21; refine (must_false _).mono ?_; rintro e w9 ⟨rfl, rfl⟩)
        exact door_gone _ rfl rfl HD5.out.1 HD5.out.2.1 HD5.out.2.2.2.2 HBad.out
end Go.Proofs.YtbeaaieaffdgeaaDoor
end
/- The laws' pools: land, lands; what Encode and Decode tell, put together. -/
section
namespace Go.Proofs.YtbeaaieaffdgeaaDoor
open Go.RowKit
set_option linter.unusedVariables false
set_option linter.unusedSimpArgs false

/-- A land of this name. -/
abbrev landC (nm : ByteArray) : Cd := ⟨nm, 1, 0, 0, 0, 0, 1, 0, 0, 0, none, 0, 0⟩
abbrev landT (nm : ByteArray) : CdT := (landC nm, [])
set_option maxHeartbeats 2000000 in
theorem land_any (nm : ByteArray) (w : World) : Calls Tryd.prog 12 #[.string nm] w fun e w' => e = .returned (.agg #[.string nm, .int .i64 1, .int .i64 0, .int .i64 0, .int .i64 0, .int .i64 0, .int .i64 1, .int .i64 0, .int .i64 0, .int .i64 0, .slice none 0 0]) ∧ Below w.heap.size w w' := by
  go_enter Tryd.func12, Tryd.ntmps12
  go_wp2
  refine bodyPost_ret (v := .agg #[.string nm, .int .i64 1, .int .i64 0, .int .i64 0, .int .i64 0, .int .i64 0, .int .i64 1, .int .i64 0, .int .i64 0, .int .i64 0, .slice none 0 0]) (by simp [results, Tryd.results12, go_sem]) rfl ?_
  exact ⟨rfl, below_alloc1 _ _⟩
theorem land_cdr (nm : ByteArray) (w : World) : CdR w (landC nm) [] := ⟨rfl, IsA.nil w⟩
/-- A literal row of cards. -/
theorem lit_isP {w0 w : World} (h : Below w0.heap.size w0 w) (L : List CdT) (n : Nat) (hn : L.length = n) (hl : n ≤ 1000) (hr : ∀ t ∈ L, CdR w t.1 t.2) (cs : Array Value) (hcs : cs = (cdRow L).toArray) : IsP (w.alloc (.cells cs 39)) (some ⟨w.heap.size, 0, none⟩) n L := by
  subst hcs
  exact isP_row hn (fun t ht => (hr t ht).next (below_alloc1 _ _)) (by simpa using row_new w (cdRow L).toArray 39 11 n (by omega))
/-- The bytes of pools that may be come back; others are given up. -/
theorem pool_sound {s : ByteArray} {L : List CdT} (h : pPool s = some (L, ByteArray.empty)) : s = poolB L ByteArray.empty ∧ (∀ c ∈ L, CdT64 c ∧ bareC c = c) := by
  obtain ⟨h1, _, h2⟩ := pPool_row s L _ h
  exact ⟨h1, h2⟩
theorem cd64_bare {c : CdT} (h : CdT64 c) : CdT64 (bareC c) := by
  obtain ⟨h1, h2⟩ := h
  refine ⟨by simp [bareC], fun t ht => ?_⟩
  simp only [bareC, List.mem_map] at ht
  obtain ⟨q, hq, rfl⟩ := ht
  obtain ⟨a1, a2, a3, a4, a5⟩ := h2 q hq
  exact ⟨rfl, rfl, a3, a4, a5⟩
theorem cdB_bare (c : CdT) (t : ByteArray) : cdB (bareC c) t = cdB c t := by
  have e : ∀ A : List AbT, ∀ t, many abB (A.map bareA) t = many abB A t := by
    intro A
    induction A with
    | nil => intro t; rfl
    | cons x A ih => intro t; rw [List.map_cons, many_cons, many_cons, ih]; rfl
  simp only [cdB, cdHead, bareC, List.length_map, e]
theorem poolB_bare (L : List CdT) (t : ByteArray) : poolB (L.map bareC) t = poolB L t := by
  have e : ∀ L : List CdT, ∀ t, many cdB (L.map bareC) t = many cdB L t := by
    intro L
    induction L with
    | nil => intro t; rfl
    | cons x L ih => intro t; rw [List.map_cons, many_cons, many_cons, ih, cdB_bare]
  simp only [poolB, List.length_map, e]
/-- Decode of a pool's bytes. -/
theorem dec_good {L : List CdT} {w w0 w' : World} {e : Ending} (h : DecOut (poolB L ByteArray.empty) w e w') (hL : chkP L = 0) (h64 : ∀ c ∈ L, CdT64 c) (hr : ∀ c ∈ L, CdR w0 c.1 c.2) :
    Below w.heap.size w w' ∧ ∃ M a c, M.map bareC = L.map bareC ∧ e = .returned (.tuple #[.slice a M.length c, .int .i64 0]) ∧ IsP w' a c M ∧ PCd M := by
  have hp := pPool_put L (pool_ok L hL h64).2.2 ByteArray.empty
  rcases h.2 with ⟨L', h1, h2, M, a, c, h3, h4, h5, h6⟩ | ⟨h1, _⟩
  · rw [hp] at h1
    simp only [Option.some.injEq, Prod.mk.injEq, and_true] at h1
    exact ⟨h.1, M, a, c, h3.trans h1.symm, h4, h5, h6⟩
  · exact absurd ((chkP_bare L hr).trans hL) (h1 _ hp)
/-- Decode of anything that is no pool's bytes. -/
theorem dec_bad {s : ByteArray} {w w' : World} {e : Ending} (h : DecOut s w e w') (hn : ∀ L, pPool s = some (L, ByteArray.empty) → chkP L ≠ 0) : Below w.heap.size w w' ∧ e = .returned (.tuple #[.slice none 0 0, .int .i64 4]) := by
  rcases h.2 with ⟨L', h1, h2, _⟩ | ⟨_, h2⟩
  · exact absurd h2 (hn L' h1)
  · exact ⟨h.1, h2⟩
/-- Something behind a pool's bytes, or less of them. -/
theorem no_more {L : List CdT} (hL : chkP L = 0) (h64 : ∀ c ∈ L, CdT64 c) (t : ByteArray) (ht : t ≠ ByteArray.empty) : ∀ M, pPool (poolB L t) = some (M, ByteArray.empty) → chkP M ≠ 0 := by
  intro M h
  have hp := pPool_put L (pool_ok L hL h64).2.2 t
  rw [hp] at h
  simp only [Option.some.injEq, Prod.mk.injEq] at h
  exact absurd h.2 ht
theorem no_less {L : List CdT} (hL : chkP L = 0) (h64 : ∀ c ∈ L, CdT64 c) (s t : ByteArray) (hs : s ++ t = poolB L ByteArray.empty) (ht : t ≠ ByteArray.empty) : ∀ M, pPool s = some (M, ByteArray.empty) → chkP M ≠ 0 := by
  intro M h hM
  obtain ⟨h1, h2⟩ := pool_sound h
  have h3 := poolB_front L M (pool_ok L hL h64).2.2 (pool_ok M hM (fun c hc => (h2 c hc).1)).2.2 t (by rw [← hs, h1, ← poolB_fore])
  exact ht h3.2
end Go.Proofs.YtbeaaieaffdgeaaDoor
end
/- The laws' lands. -/
section
namespace Go.Proofs.YtbeaaieaffdgeaaDoor
open Go.RowKit
set_option linter.unusedVariables false
set_option linter.unusedSimpArgs false

theorem own_below {w w' : World} {base e size n : Nat} {v : Value} {xs : List Value} (h : w.ownsRow base e size v n xs) (k : Below w.heap.size w w') : w'.ownsRow base e size v n xs :=
  h.kept (row := none) (grown_below k none) (by rcases h.2 with ⟨rfl, _⟩ | ⟨g, cap, cur, rfl, _⟩ <;> simp [Value.ownBlock])
def nmK (k : Nat) : ByteArray := ⟨#[UInt8.ofNat (97 + k % 26), UInt8.ofNat (97 + k / 26)]⟩
def landsL (n : Nat) : List CdT := (List.range n).map fun k => landT (nmK k)
theorem landsL_len (n : Nat) : (landsL n).length = n := by simp [landsL]
theorem landsL_snoc (n : Nat) : landsL (n + 1) = landsL n ++ [landT (nmK n)] := by simp [landsL, List.range_succ]
set_option maxRecDepth 100000 in
set_option maxHeartbeats 4000000 in
theorem lands_any (n : Nat) (hn : n ≤ 100) (w : World) :
    Calls Tryd.prog 13 #[.int .i64 (n : Int)] w fun e w' => ∃ a c, e = .returned (.slice a n c) ∧ IsP w' a c (landsL n) ∧ Below w.heap.size w w' := by
  obtain ⟨i0, hi, hz0, hz1, hz2⟩ := info_parts infoC
  go_enter Tryd.func13, Tryd.ntmps13
  go_wp2_with fail
  go_loopw [3, 4] (fun sv q wr => ∃ (k : Nat) (v3 : Value), v3 = sv ∧ q = .int .i64 (k : Int) ∧ k ≤ n ∧ wr.ownsRow w.heap.size 39 11 v3 k (cdRow (landsL k)) ∧ Below w.heap.size w wr) (fun sv q _ => n - (intOf q).toNat)
  case atStart => exact ⟨0, _, rfl, rfl, Nat.zero_le _, World.ownsRow_nil _ _ _ _, Below.refl _ _⟩
  case round =>
    obtain ⟨k, sv, rfl, rfl, hk, hown, hb⟩ := hrel
    have HO := Lib.hid hown
    have HB := Lib.hid hb
    clear hown hb
    by_cases hlt : k < n
    · have hcv : (convert 49 9 (.slice (some ⟨wr.heap.size, 0, none⟩) 2 2)).run Tryd.prog (wr.alloc (.cells #[.int .u8 (97 + (k : Int) % 26), .int .u8 (97 + (k : Int) / 26)] 5)) = .ok (.string (nmK k)) (wr.alloc (.cells #[.int .u8 (97 + (k : Int) % 26), .int .u8 (97 + (k : Int) / 26)] 5)) :=
        conv_bytes _ 49 9 5 ⟨wr.heap.size, 0, none⟩ 2 2 [97 + (k : Int) % 26, 97 + (k : Int) / 26] (nmK k) Tryd.underlying49 Tryd.underlying5 Tryd.underlying9 rfl
          (fun j v h => new_cells wr _ _ j v h) (by
            simp only [nmK, List.map_cons, List.map_nil]
            rw [show (97 + (k : Int) % 26).toNat = 97 + k % 26 by omega, show (97 + (k : Int) / 26).toNat = 97 + k / 26 by omega])
      have HB1 := Lib.hid (HB.out.alloc HB.out.size (.cells #[.int .u8 (97 + (k : Int) % 26), .int .u8 (97 + (k : Int) / 26)] 5))
      have HO1 := Lib.hid (HO.out.alloc (.cells #[.int .u8 (97 + (k : Int) % 26), .int .u8 (97 + (k : Int) / 26)] 5))
      go_wp2_with fail
      clear hcv
      generalize wr.alloc (.cells #[.int .u8 (97 + (k : Int) % 26), .int .u8 (97 + (k : Int) / 26)] 5) = w1 at *
      refine (land_any (nmK k) _).mono ?_
      rintro e w2 ⟨rfl, hb⟩
      have HB2 := Lib.hid (below_then' HB1.out hb HB1.out.size)
      have HO2 := Lib.hid ((own_below HO1.out hb).alloc (.cells #[.string (nmK k), .int .i64 1, .int .i64 0, .int .i64 0, .int .i64 0, .int .i64 0, .int .i64 1, .int .i64 0, .int .i64 0, .int .i64 0, .slice none 0 0] 39))
      have hz := HB2.out.size
      clear hb
      go_wp2_with (at_builtin; refine wpList_append_own _ rfl _ _ 22 rfl w.heap.size 39 i0 (.agg #[.string ⟨#[]⟩, .int .i64 0, .int .i64 0, .int .i64 0, .int .i64 0, .int .i64 0, .int .i64 0, .int .i64 0, .int .i64 0, .int .i64 0, .slice none 0 0]) 11 112 Tryd.underlying22 hi hz0 hz1 hz2 rfl (by decide) _ k _ rfl HO2.out ⟨w2.heap.size, 0, none⟩ 1 1 (cdCells (landC (nmK k))) rfl rfl (new_cells w2 _ _) (fun z hz => by simp only [cdCells, List.mem_cons, List.not_mem_nil, or_false] at hz; rcases hz with rfl | rfl | rfl | rfl | rfl | rfl | rfl | rfl | rfl | rfl | rfl <;> rfl) (by unfold maxLen; omega) (by omega) (by simp; omega) ?_; intro sv5 w5 hown5 hgr5 hnil5; clear hnil5)
      have HO5 := Lib.hid (show w5.ownsRow w.heap.size 39 11 sv5 (k + 1) (cdRow (landsL (k + 1))) by rw [landsL_snoc, cdRow_snoc]; exact hown5)
      have HB5 := Lib.hid ((HB2.out.alloc HB2.out.size (.cells #[.string (nmK k), .int .i64 1, .int .i64 0, .int .i64 0, .int .i64 0, .int .i64 0, .int .i64 1, .int .i64 0, .int .i64 0, .int .i64 0, .slice none 0 0] 39)).grown hgr5 (by simp; omega) (fun j hj => (HO2.out.lt j hj).1))
      clear hown5 hgr5
      go_wp2_with fail
      go_roundw
      case rel => exact ⟨k + 1, _, rfl, by go_num, by omega, HO5.out, HB5.out⟩
      case measure => simp [intOf]; omega
    · obtain rfl : k = n := by omega
      obtain ⟨a, c, rfl, hrow⟩ := own_row HO.out
      have HI := Lib.hid (show IsP wr a c (landsL k) from isP_row (landsL_len k) (fun t ht => by
        simp only [landsL, List.mem_map] at ht
        obtain ⟨i, _, rfl⟩ := ht
        exact land_cdr _ _) hrow)
      clear hrow
      go_wp2_with fail
      go_ret
      exact ⟨a, c, rfl, HI.out, HB.out⟩
end Go.Proofs.YtbeaaieaffdgeaaDoor
end
/- The laws' works. -/
section
namespace Go.Proofs.YtbeaaieaffdgeaaDoor
open Go.RowKit
set_option linter.unusedVariables false
set_option linter.unusedSimpArgs false

def nA : ByteArray := ⟨#[97]⟩
def sA : ByteArray := ⟨#[1, 1, 97, 1, 0, 0, 0, 0, 1, 0, 0, 0, 0]⟩
theorem chk_a : chkP [landT ⟨#[97]⟩] = 0 := by decide +kernel
theorem enc_a : encS [landT ⟨#[97]⟩] = ⟨#[1, 1, 97, 1, 0, 0, 0, 0, 1, 0, 0, 0, 0]⟩ := by decide +kernel
theorem chk_aa : chkP [landT ⟨#[97]⟩, landT ⟨#[97]⟩] = 11 := by decide +kernel
theorem chk_e : chkP [landT ⟨#[]⟩] = 10 := by decide +kernel
theorem chk_41 : chkP (landsL 41) = 3 := by simp [chkP, landsL_len]
theorem chk_none : chkP [] = 2 := rfl
theorem pool_none : ∀ L, pPool ⟨#[]⟩ = some (L, ByteArray.empty) → chkP L ≠ 0 := by
  intro L h
  have : (pPool ⟨#[]⟩).isNone = true := by decide +kernel
  rw [h] at this
  cases this
theorem pool_zero : ∀ L, pPool ⟨#[0]⟩ = some (L, ByteArray.empty) → chkP L ≠ 0 := by
  intro L h
  have : (pPool ⟨#[0]⟩).map (fun p => p.1.length) = some 0 := by decide +kernel
  rw [h] at this
  simp at this
  rw [this]
  decide
theorem land_pcd (nm : ByteArray) (h : nm.size ≤ 1000) : CdOk (landC nm) := ⟨by show nm.size ≤ maxLen; unfold maxLen; omega, by show In64 0; unfold In64; omega⟩
theorem land_64 (nm : ByteArray) : CdT64 (landT nm) := ⟨rfl, fun t ht => by cases ht⟩
theorem one_bare {M : List CdT} {c : CdT} (h : M.map bareC = [c].map bareC) : ∃ m, M = [m] ∧ m.1.nm = c.1.nm ∧ m.1.col = c.1.col := by
  match M, h with
  | [m], h =>
    simp only [List.map_cons, List.map_nil, List.cons.injEq, and_true] at h
    have h1 := congrArg (fun c : CdT => c.1.nm) h
    have h2 := congrArg (fun c : CdT => c.1.col) h
    exact ⟨m, rfl, h1, h2⟩
  | [], h => simp at h
  | _ :: _ :: _, h => simp at h
set_option maxRecDepth 100000 in
set_option maxHeartbeats 8000000 in
theorem works_any (w : World) (hT : Tabs w) : Calls Tryd.prog 6 #[] w fun e w' => e = .returned (.bool true) ∧ Below w.heap.size w w' := by
  have HTb := Lib.hid hT
  clear hT
  go_enter Tryd.func6, Tryd.ntmps6
  go_wp2_with fail
  refine (land_any ⟨#[97]⟩ _).mono ?_
  rintro e w1 ⟨rfl, hb⟩
  have HB1 := Lib.hid hb
  clear hb
  go_wp2_with fail
  have HI2 := Lib.hid (lit_isP HB1.out [landT ⟨#[97]⟩] 1 rfl (by omega) (fun t ht => by rw [List.mem_singleton.1 ht]; exact land_cdr _ _) _ rfl)
  have HB2 := Lib.hid (HB1.out.alloc HB1.out.size (.cells (cdRow [landT ⟨#[97]⟩]).toArray 39))
  refine (encode_any _ 1 [landT ⟨#[97]⟩] 1 rfl 0 chk_a _ enc_a (fun p hp => by rw [List.mem_singleton.1 hp]; exact land_pcd _ (by decide)) (fun p hp => by rw [List.mem_singleton.1 hp]; exact land_64 _) _ HI2.out (HTb.out.next HB2.out)).mono ?_
  rintro e w3 ⟨rfl, hb⟩
  have HB3 := Lib.hid (below_then' HB2.out hb HB2.out.size)
  clear hb HI2 HB1 HB2
  go_wp2_with fail
  have hsA : poolB [landT ⟨#[97]⟩] ByteArray.empty = ⟨#[1, 1, 97, 1, 0, 0, 0, 0, 1, 0, 0, 0, 0]⟩ := by have h := enc_a; unfold encS at h; rw [if_pos chk_a] at h; exact h
  have HsA := Lib.hid hsA
  clear hsA
  refine (decode_any ⟨#[1, 1, 97, 1, 0, 0, 0, 0, 1, 0, 0, 0, 0]⟩ (by decide) _ (HTb.out.next HB3.out)).mono ?_
  intro e w4 hd
  rw [← HsA.out] at hd
  obtain ⟨hb, M, a, c, hM, rfl, hI, hP⟩ := dec_good (w0 := w) hd chk_a (fun p hp => by rw [List.mem_singleton.1 hp]; exact land_64 _) (fun p hp => by rw [List.mem_singleton.1 hp]; exact land_cdr _ _)
  obtain ⟨m, rfl, hm1, hm2⟩ := one_bare hM
  have HB4 := Lib.hid (below_then' HB3.out hb HB3.out.size)
  have HI4 := Lib.hid hI
  have HM1 := Lib.hid (show m.1.nm = ⟨#[97]⟩ from hm1)
  have HM2 := Lib.hid (show m.1.col = 1 from hm2)
  clear hb hI hM hP hm1 hm2 HB3 hd
  go_wp2_with fail
  refine (decode_any ⟨#[]⟩ (by decide) _ (HTb.out.next HB4.out)).mono ?_
  intro e w5 hd
  obtain ⟨hb, rfl⟩ := dec_bad hd pool_none
  have HB5 := Lib.hid (below_then' HB4.out hb HB4.out.size)
  have HI5 := Lib.hid (HI4.out.next hb)
  clear hb hd HB4 HI4
  go_wp2_with fail
  refine (decode_any ⟨#[0]⟩ (by decide) _ (HTb.out.next HB5.out)).mono ?_
  intro e w6 hd
  obtain ⟨hb, rfl⟩ := dec_bad hd pool_zero
  have HB6 := Lib.hid (below_then' HB5.out hb HB5.out.size)
  have HI6 := Lib.hid (HI5.out.next hb)
  clear hb hd HB5 HI5
  go_wp2_with fail
  refine (decode_any _ (by rw [ByteArray.size_append]; show 13 + 1 ≤ 70368744177664; omega) _ (HTb.out.next HB6.out)).mono ?_
  intro e w7 hd
  rw [← HsA.out, ← poolB_fore] at hd
  obtain ⟨hb, rfl⟩ := dec_bad hd (no_more chk_a (fun p hp => by rw [List.mem_singleton.1 hp]; exact land_64 _) _ (by decide))
  have HB7 := Lib.hid (below_then' HB6.out hb HB6.out.size)
  have HI7 := Lib.hid (HI6.out.next hb)
  clear hb hd HB6 HI6
  obtain ⟨b, off, y, A, hy, _, hpa, hbz, y0, y1, y2, y3, y4, y5, y6, y7, y8, y9, y10⟩ := HI7.out.at 0 (by simp)
  have hy2 : y = m.1 := congrArg Prod.fst hy
  rw [hy2, HM1.out] at y0
  rw [hy2, HM2.out] at y6
  simp only [Nat.zero_mul, Nat.add_zero] at y0 y6
  have hac := HI7.out.1
  have ham := HI7.out.2.1
  simp at hac
  clear hy hy2 hbz y1 y2 y3 y4 y5 y7 y8 y9 y10
  subst hpa
  have hq1 : ((⟨#[1, 1, 97, 1, 0, 0, 0, 0, 1, 0, 0, 0, 0]⟩ : ByteArray).toList == (⟨#[1, 1, 97, 1, 0, 0, 0, 0, 1, 0, 0, 0, 0]⟩ : ByteArray).toList) = true := by simp
  have hq2 : ((⟨#[97]⟩ : ByteArray).toList == (⟨#[97]⟩ : ByteArray).toList) = true := by simp
  go_wp2_with fail
  refine (pCheck_any none 0 [] 0 rfl 2 chk_none (fun p hp => by cases hp) _ (IsP.nil _) (HTb.out.next HB7.out)).mono ?_
  rintro e w8 ⟨rfl, hb⟩
  have HB8 := Lib.hid (below_then' HB7.out hb HB7.out.size)
  clear hb y0 y6 HI7 HB7
  go_wp2_with fail
  refine (lands_any 41 (by omega) _).mono ?_
  rintro e w9 ⟨a9, c9, rfl, hI9, hb⟩
  have HB9 := Lib.hid (below_then' HB8.out hb HB8.out.size)
  have HI9 := Lib.hid hI9
  clear hb hI9 HB8
  go_wp2_with fail
  refine (pCheck_any a9 c9 (landsL 41) 41 (landsL_len 41) 3 chk_41 (fun p hp => by simp only [landsL, List.mem_map] at hp; obtain ⟨i, _, rfl⟩ := hp; exact land_pcd _ (by show 2 ≤ 1000; omega)) _ HI9.out (HTb.out.next HB9.out)).mono ?_
  rintro e w10 ⟨rfl, hb⟩
  have HB10 := Lib.hid (below_then' HB9.out hb HB9.out.size)
  clear hb HB9 HI9
  go_wp2_with fail
  refine (land_any ⟨#[97]⟩ _).mono ?_
  rintro e w11 ⟨rfl, hb⟩
  have HB11 := Lib.hid (below_then' HB10.out hb HB10.out.size)
  clear hb HB10
  go_wp2_with fail
  refine (land_any ⟨#[97]⟩ _).mono ?_
  rintro e w12 ⟨rfl, hb⟩
  have HB12 := Lib.hid (below_then' HB11.out hb HB11.out.size)
  clear hb HB11
  go_wp2_with fail
  have HI13 := Lib.hid (lit_isP HB12.out [landT ⟨#[97]⟩, landT ⟨#[97]⟩] 2 rfl (by omega) (fun t ht => by simp at ht; rw [ht]; exact land_cdr _ _) _ rfl)
  have HB13 := Lib.hid (HB12.out.alloc HB12.out.size (.cells (cdRow [landT ⟨#[97]⟩, landT ⟨#[97]⟩]).toArray 39))
  refine (pCheck_any _ 2 [landT ⟨#[97]⟩, landT ⟨#[97]⟩] 2 rfl 11 chk_aa (fun p hp => by simp at hp; rw [hp]; exact land_pcd _ (by decide)) _ HI13.out (HTb.out.next HB13.out)).mono ?_
  rintro e w14 ⟨rfl, hb⟩
  have HB14 := Lib.hid (below_then' HB13.out hb HB13.out.size)
  clear hb HB12 HB13 HI13
  go_wp2_with fail
  refine (land_any ⟨#[]⟩ _).mono ?_
  rintro e w15 ⟨rfl, hb⟩
  have HB15 := Lib.hid (below_then' HB14.out hb HB14.out.size)
  clear hb HB14
  go_wp2_with fail
  have HI16 := Lib.hid (lit_isP HB15.out [landT ⟨#[]⟩] 1 rfl (by omega) (fun t ht => by rw [List.mem_singleton.1 ht]; exact land_cdr _ _) _ rfl)
  have HB16 := Lib.hid (HB15.out.alloc HB15.out.size (.cells (cdRow [landT ⟨#[]⟩]).toArray 39))
  refine (pCheck_any _ 1 [landT ⟨#[]⟩] 1 rfl 10 chk_e (fun p hp => by rw [List.mem_singleton.1 hp]; exact land_pcd _ (by decide)) _ HI16.out (HTb.out.next HB16.out)).mono ?_
  rintro e w17 ⟨rfl, hb⟩
  have HB17 := Lib.hid (below_then' HB16.out hb HB16.out.size)
  clear hb HB15 HB16 HI16
  go_wp2_with fail
  go_ret
  exact ⟨rfl, HB17.out⟩
end Go.Proofs.YtbeaaieaffdgeaaDoor
end
/- bounded. -/
section
namespace Go.Proofs.YtbeaaieaffdgeaaDoor
open Go.RowKit
set_option linter.unusedVariables false
set_option linter.unusedSimpArgs false

theorem abInfo : (Tryd.prog.info? 45).map (fun i => (i.zero, i.size, i.bytes)) = some (some (.agg #[.int .i64 0, .int .i64 0, .int .i64 0, .int .i64 0, .int .i64 0, .int .i64 0, .int .i64 0, .bool false, .slice none 0 0, .slice none 0 0, .int .i64 0, .int .i64 0, .int .i64 0]), 13, 136) := by kernel_rfl
theorem abCells_one (x : Ab) (u : Value) (h : u ∈ abCells x) : u.oneCell' = true := by
  simp only [abCells, List.mem_cons, List.not_mem_nil, or_false] at h
  rcases h with rfl | rfl | rfl | rfl | rfl | rfl | rfl | rfl | rfl | rfl | rfl | rfl | rfl <;> rfl
theorem abRow_append (A B : List AbT) : abRow (A ++ B) = abRow A ++ abRow B := by simp [abRow]
theorem abRow_one (A : List AbT) (u : Value) (h : u ∈ abRow A) : u.oneCell' = true := by
  simp only [abRow, List.mem_flatMap] at h
  obtain ⟨t, _, ht⟩ := h
  exact abCells_one _ _ ht
/-- Some card comes back. -/
def SomeC (X : Nat → Prop) (w w' : World) (e : Ending) : Prop := ∃ p, OutC X w w' e p
theorem Row.agree {X : Nat → Prop} {w W : World} {a : Option Addr} {c size n : Nat} {xs : List Value} (h : Row w a c size n xs) (hs : w.heap.size ≤ W.heap.size) (hc : ∀ g o, g < w.heap.size → ¬ X g → W.cell? ⟨g, o, none⟩ = w.cell? ⟨g, o, none⟩) (hb : ∀ p, a = some p → ¬ X p.block) : Row W a c size n xs := by
  obtain ⟨h1, h2, h3 | ⟨b, off, h3, h4, h5⟩⟩ := h
  · exact ⟨h1, h2, .inl h3⟩
  · exact ⟨h1, h2, .inr ⟨b, off, h3, Nat.lt_of_lt_of_le h4 hs, fun i hi => (hc _ _ h4 (hb _ h3)).trans (h5 i hi)⟩⟩
/-- What a card's walk leaves: a card of these cells, whose abilities are a row of the call's own. -/
theorem someC_own {X : Nat → Prop} {w W' : World} {B : Nat} {y : Cd} {A : List AbT} (hb : Below w.heap.size w W') (ho : W'.ownsRow B 45 13 (.slice y.aa y.an y.ac) y.an (abRow A)) (hB : w.heap.size ≤ B) (hX : ∀ g, X g → g < w.heap.size) (hn : A.length = y.an)
    (hr : ∀ W : World, w.heap.size ≤ W.heap.size → (∀ g o, g < w.heap.size → ¬ X g → W.cell? ⟨g, o, none⟩ = w.cell? ⟨g, o, none⟩) → ∀ t ∈ A, AbR W t.1 t.2.1 t.2.2) (hy : CdOk y) :
    SomeC X w W' (.returned (.agg #[.string y.nm, .int .i64 y.k, .int .i64 y.c0, .int .i64 y.c1, .int .i64 y.c2, .int .i64 y.c3, .int .i64 y.col, .int .i64 y.pow, .int .i64 y.tou, .int .i64 y.keys, .slice y.aa y.an y.ac])) := by
  obtain ⟨a, c, hv, hrow⟩ := own_row ho
  obtain ⟨rfl, rfl⟩ : y.aa = a ∧ y.ac = c := by
    injection hv with h1 h2 h3
    exact ⟨h1, h3⟩
  refine ⟨(erC y, A.map erT), y, A, rfl, fun W hs hc => ⟨hn, isA_row hn (fun t ht => hr W (Nat.le_trans hb.size hs) (fun g o hg hx => (hc g o (Nat.lt_of_lt_of_le hg hb.size) hx).trans (hb.cell (p := ⟨g, o, none⟩) hg)) t ht) (hrow.agree hs hc (fun p hp hx => ?_))⟩, hy, rfl, rfl, hb⟩
  have h1 := (ho.lt p.block (by rw [hp]; rfl)).1
  have h2 := hX _ hx
  omega
/-- An ability, its lists cut. -/
def cutT (t : AbT) : AbT := ({ t.1 with tn := min t.1.tn 4, cn := min t.1.cn 40 }, t.2.1.take 4, t.2.2.take 40)
theorem IsL.take {w : World} {a : Option Addr} {c : Nat} {L : List Int} (h : IsL w a c L) (n : Nat) : IsL w a c (L.take n) := by
  obtain ⟨h1, h2, h3⟩ := h
  refine ⟨by rw [List.length_take]; omega, h2, ?_⟩
  rcases h3 with h3 | ⟨b, off, h3, h4, h5⟩
  · left; rw [List.length_take]; omega
  · refine .inr ⟨b, off, h3, h4, fun j hj => ?_⟩
    rw [List.length_take] at hj
    rw [List.getElem_take]
    exact h5 j (by omega)
theorem IsC.take {w : World} {a : Option Addr} {c : Nat} {L : List Ins} (h : IsC w a c L) (n : Nat) : IsC w a c (L.take n) := by
  obtain ⟨h1, h2, h3⟩ := h
  refine ⟨by rw [List.length_take]; omega, h2, ?_⟩
  rcases h3 with h3 | ⟨b, off, h3, h4, h5⟩
  · left; rw [List.length_take]; omega
  · refine .inr ⟨b, off, h3, h4, fun j hj => ?_⟩
    rw [List.length_take] at hj
    rw [List.getElem_take]
    exact h5 j (by omega)
theorem AbR.cut {w : World} {t : AbT} (h : AbR w t.1 t.2.1 t.2.2) : AbR w (cutT t).1 (cutT t).2.1 (cutT t).2.2 := by
  obtain ⟨⟨h1, h2⟩, h3, h4⟩ := h
  exact ⟨⟨by simp only [cutT, List.length_take, h1]; omega, h2.take 4⟩, by simp only [cutT, List.length_take, h3]; omega, h4.take 40⟩
theorem new_cells_at (w : World) (cs : Array Value) (T : TypeId) (b : Nat) (hb : b = w.heap.size) (j : Nat) (u : Value) (h : cs.toList[j]? = some u) : (w.alloc (.cells cs T)).cell? ((⟨b, 0, none⟩ : Addr).add j) = some u := by
  subst hb
  exact new_cells w cs T j u h
/-- Block b is these cells, and may be written. -/
def BlkAt (w : World) (b : Nat) (cs : Array Value) (T : TypeId) : Prop := w.heap[b]? = some (.cells cs T (0, 0))
theorem BlkAt.next {w w' : World} {b : Nat} {cs : Array Value} {T : TypeId} (h : BlkAt w b cs T) (k : Below w.heap.size w w') : BlkAt w' b cs T :=
  (k.block b (Array.getElem?_eq_some_iff.1 h).1).trans h
theorem BlkAt.lt {w : World} {b : Nat} {cs : Array Value} {T : TypeId} (h : BlkAt w b cs T) : b < w.heap.size := (Array.getElem?_eq_some_iff.1 h).1
theorem BlkAt.free {w : World} {b : Nat} {cs : Array Value} {T : TypeId} (h : BlkAt w b cs T) (i : Nat) : w.frozen? ⟨b, i, none⟩ = false := by
  have : w.heap[b]? = some (.cells cs T (0, 0)) := h
  simp [World.frozen?, this]
theorem BlkAt.set' {w : World} {b : Nat} {cs : Array Value} {T : TypeId} (h : BlkAt w b cs T) (i : Nat) (v : Value) : BlkAt (w.setCell ⟨b, i, none⟩ v) b (cs.setIfInBounds i v) T := heap_setCell_same w b i cs T v h
theorem BlkAt.cell {w : World} {b : Nat} {cs : Array Value} {T : TypeId} (h : BlkAt w b cs T) (i : Nat) : w.cell? ⟨b, i, none⟩ = cs[i]? := by
  exact cell_of_row w b i cs T (0, 0) h
theorem BlkAt.cells11 {w : World} {b : Nat} {T : TypeId} {v0 v1 v2 v3 v4 v5 v6 v7 v8 v9 v10 : Value} (h : BlkAt w b #[v0, v1, v2, v3, v4, v5, v6, v7, v8, v9, v10] T) :
    (w.cell? ⟨b, 0, none⟩ = some v0 ∧ w.cell? ⟨b, 1, none⟩ = some v1 ∧ w.cell? ⟨b, 2, none⟩ = some v2 ∧ w.cell? ⟨b, 3, none⟩ = some v3 ∧ w.cell? ⟨b, 4, none⟩ = some v4 ∧ w.cell? ⟨b, 5, none⟩ = some v5 ∧ w.cell? ⟨b, 6, none⟩ = some v6 ∧
    w.cell? ⟨b, 7, none⟩ = some v7 ∧ w.cell? ⟨b, 8, none⟩ = some v8 ∧ w.cell? ⟨b, 9, none⟩ = some v9 ∧ w.cell? ⟨b, 10, none⟩ = some v10) ∧
    (w.frozen? ⟨b, 0, none⟩ = false ∧ w.frozen? ⟨b, 1, none⟩ = false ∧ w.frozen? ⟨b, 2, none⟩ = false ∧ w.frozen? ⟨b, 3, none⟩ = false ∧ w.frozen? ⟨b, 4, none⟩ = false ∧ w.frozen? ⟨b, 5, none⟩ = false ∧ w.frozen? ⟨b, 6, none⟩ = false ∧
    w.frozen? ⟨b, 7, none⟩ = false ∧ w.frozen? ⟨b, 8, none⟩ = false ∧ w.frozen? ⟨b, 9, none⟩ = false ∧ w.frozen? ⟨b, 10, none⟩ = false) :=
  ⟨⟨h.cell 0, h.cell 1, h.cell 2, h.cell 3, h.cell 4, h.cell 5, h.cell 6, h.cell 7, h.cell 8, h.cell 9, h.cell 10⟩, h.free 0, h.free 1, h.free 2, h.free 3, h.free 4, h.free 5, h.free 6, h.free 7, h.free 8, h.free 9, h.free 10⟩
theorem blkAt_one (w : World) (cs : Array Value) (T : TypeId) (o : Obj) : BlkAt ((w.alloc (.cells cs T)).alloc o) w.heap.size cs T :=
  (heap_alloc_old _ _ (by simp)).trans (heap_alloc_new w _)
theorem blkAt_two (w : World) (cs : Array Value) (T : TypeId) (o : Obj) : BlkAt ((w.alloc o).alloc (.cells cs T)) (w.heap.size + 1) cs T := by
  have := heap_alloc_new (w.alloc o) (.cells cs T)
  rw [World.size_alloc] at this
  exact this
theorem row_snoc {w : World} {B : Nat} {v : Value} {A : List AbT} {k : Nat} (hk : k < A.length) (h : w.ownsRow B 45 13 v (k + 1) (abRow (A.take k) ++ abCells A[k].1)) :
    w.ownsRow B 45 13 v (k + 1) (abRow (A.take (k + 1))) := by
  rw [List.take_succ_eq_append_getElem hk, abRow_append]
  simpa [abRow] using h
theorem grown_row {B : Nat} {w wr w1 : World} {o : Obj} {v : Value} {n : Nat} {xs : List Value} {e size : Nat} (h : Below B w wr) (hB : B ≤ wr.heap.size) (ho : wr.ownsRow B e size v n xs) (hg : (wr.alloc o).grownBy w1 v.ownBlock) : Below B w w1 :=
  (h.alloc hB o).grown hg (Nat.le_trans hB (by simp)) (fun k e => (ho.lt k e).1)
theorem grown_row2 {B : Nat} {w wr w1 : World} {o o2 : Obj} {v : Value} {n : Nat} {xs : List Value} {e size : Nat} (h : Below B w wr) (hB : B ≤ wr.heap.size) (ho : wr.ownsRow B e size v n xs) (hg : ((wr.alloc o).alloc o2).grownBy w1 v.ownBlock) : Below B w w1 :=
  grown_row (h.alloc hB o) (Nat.le_trans hB (by simp)) (ho.alloc o) hg
end Go.Proofs.YtbeaaieaffdgeaaDoor
end
