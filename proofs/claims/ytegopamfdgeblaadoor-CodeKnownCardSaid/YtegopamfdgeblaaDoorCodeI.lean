/- A loop over a closure that hands on a list, whose body never leaves; behind and its closure. -/
import Derived.Test.YtegopamfdgeblaaDoorCodeH
import Derived.RangeFuncBox
import Derived.RangeFuncLeaves
import Derived.Shelf.Abstract
import Derived.OwnWalkIn
import Derived.TacticsInMore
import Derived.LoopNIn
import Derived.LoopIn
namespace Go.Proofs.YtegopamfdgeblaaDoor
open Go.RowKit Go.Shelf
set_option linter.unusedVariables false
set_option linter.unusedSimpArgs false

/-- What a round of the body ends in: it goes on; what is no cells is as it was; so is all below n₀; the loop's own holds with one number more. -/
def goesOn (n₀ : Nat) (I : List Int → World → Prop) (ys : List Int) (W : World) : Exit → Act → World → Prop
  | .normal, _, W' => KeepsOthers W W' ∧ Below n₀ W W' ∧ I ys W'
  | _, _, _ => False
/-- The function k over lb, called with a loop's yield, hands on just xs: whatever J says between two rounds. -/
def HandsOn (F : Fence) (n : Nat) (P : Program) (k : Nat) (lb : Array Value) (xs : List Int) (n₀ : Nat) (w : World) : Prop :=
  ∀ (l : Nat) (J : List Int → World → Prop) (W : World), Below w.heap.size w W → (∀ pre A B, J pre A → Below A.heap.size A B → J pre B) →
    (∀ pre x rest W1, xs = pre ++ x :: rest → J pre W1 → YieldAt F (n - 1) P l #[.int .i64 x] W1 fun e W' => e = .returned (.bool true) ∧ J (pre ++ [x]) W' ∧ Below n₀ W1 W') → J [] W →
    CallsIn F n P k (#[.func (.yield l) #[] #[]] ++ lb) W fun e W' => (∃ v, e = .returned v) ∧ J xs W'
theorem rangeAll {P : Program} {F : Fence} {n : Nat} {g : Operand} {ps : Array Tmp} {assign body : Code} {Q : Exit → Act → World → Prop} {a : Act} {w : World}
    (hro : F.round = none) (h1 : 1 ≤ n) {gf : Nat} {lb : Array Value} (hg : a.eval g = .func (.func gf) #[] lb) (hFg : F.fn gf) (eg : ∀ args w, (callFunc gf args).run P w = .ok (.enter gf args) w)
    {xs : List Int} {n₀ : Nat} (hn₀ : n₀ ≤ w.heap.size) (hseq : HandsOn F (n - 1) P gf lb xs n₀ w) (hps : ps.size = 1)
    (I : List Int → World → Prop) (hIB : ∀ pre A B, I pre A → Below A.heap.size A B → I pre B)
    (hIl : ∀ pre A l o o', I pre A → w.heap.size ≤ l → A.heap[l]? = some o → o.isCells = false → I pre (A.putObj l o')) (h0 : I [] w) (a₁ : Int → Act)
    (hassign : ∀ (l : Nat) (x : Int) (W : World) (K : Act → World → Prop), K (a₁ x) W →
      assign.wpIn (F.inRound l) (n - 1 - 1) P (Exit.then K (fun _ _ _ => False)) { tmps := (ps.zip #[Value.int .i64 x]).foldl (fun t (p, v) => t.setIfInBounds p v) a.tmps, defers := [] } W)
    (hbody : ∀ (l : Nat) (pre : List Int) (x : Int) (rest : List Int) (W : World), xs = pre ++ x :: rest → I pre W → body.wpIn (F.inRound l) (n - 1 - 1) P (goesOn n₀ I (pre ++ [x]) W) (a₁ x) W)
    (hdone : ∀ (D : Nat) (W : World), w.heap.size ≤ D → I xs W → W.heap[D]? = some (.deferred (some [])) → Q .normal { a with defers := { target := .collected D, args := #[] } :: a.defers } W) :
    (Code.rangeFunc g ps assign body).wpIn F n P Q a w := by
  refine wpIn_rangeFunc fun fn hfn => ?_
  rw [hro]
  obtain ⟨rec, hrec⟩ : ∃ rec : LoopState → Option Code → Loop, rec = fun st pe => { state := st, pending := pe, fn, tmps := a.tmps, params := ps, assign, body, defers := w.heap.size } := ⟨_, rfl⟩
  obtain ⟨W1, hW1⟩ : ∃ W1, (w.alloc (.deferred (some []))).alloc (.loop (rec .ready none)) = W1 := ⟨_, rfl⟩
  have rl : W1.heap[w.heap.size + 1]? = some (.loop (rec .ready none)) := by rw [← hW1]; exact heap_alloc2_new _ _ _
  have rd : W1.heap[w.heap.size]? = some (.deferred (some [])) := by rw [← hW1]; exact heap_alloc2_old _ _ _
  have hw1 : Below w.heap.size w W1 := by rw [← hW1]; exact below_alloc2 _ _ _
  have hI1 : I [] W1 := hIB _ _ _ h0 hw1
  refine ⟨w.heap.size + 1, [{ target := .collected w.heap.size, args := #[] }], W1, { target := .fn (.func gf) lb, args := #[.func (.yield (w.heap.size + 1)) #[] #[]] }, W1, gf,
    #[.func (.yield (w.heap.size + 1)) #[] #[]] ++ lb, W1, ?_, ?_, ?_, ?_, fun _ => h1, ?_⟩
  · rw [← hW1, hrec]; exact run_enterLoop_outer _ _ _ _ _
  · simp only [resolve, hg]
    simp [go_sem]
  · intro f' hf'; simp [Target.leads] at hf'; subst hf'; exact hFg
  · simp [invoke, go_sem, eg]
  · refine (hseq (w.heap.size + 1) (fun pre W => I pre W ∧ W.heap[w.heap.size + 1]? = some (.loop (rec .ready none)) ∧ W.heap[w.heap.size]? = some (.deferred (some []))) W1 hw1 ?_ ?_ ⟨hI1, rl, rd⟩).mono ?_
    · rintro pre A B ⟨i1, i2, i3⟩ hb
      exact ⟨hIB _ _ _ i1 hb, (hb.block _ (Array.getElem?_eq_some_iff.1 i2).1).trans i2, (hb.block _ (Array.getElem?_eq_some_iff.1 i3).1).trans i3⟩
    · rintro pre x rest W hx ⟨i1, i2, i3⟩
      have hlt : w.heap.size + 1 < W.heap.size := (Array.getElem?_eq_some_iff.1 i2).1
      have hy := run_yield (P := P) (args := #[Value.int .i64 x]) i2 (by rw [hrec]; exact hps.symm)
      rw [hrec] at hy
      refine ⟨fn, _, assign, body, hy, roundIn_of_wpIn hfn (hassign _ x W _ ⟨_, run_beginRound i2 (by rw [hrec]), ?_⟩)⟩
      obtain ⟨V, hV⟩ : ∃ V, V = W.putObj (w.heap.size + 1) (.loop { rec .ready none with state := .busy }) := ⟨_, rfl⟩
      rw [← hV]
      have v1 : I pre V := by rw [hV]; exact hIl _ _ _ _ _ i1 (by omega) i2 rfl
      have v2 : V.heap[w.heap.size + 1]? = some (.loop { rec .ready none with state := .busy }) := by rw [hV]; exact World.putObj_heap_same hlt
      have v3 : V.heap[w.heap.size]? = some (.deferred (some [])) := by rw [hV]; exact (World.putObj_heap_other (by omega)).trans i3
      have v4 : Below n₀ W V := by rw [hV]; exact belowK_b (w := w) hn₀ W _ _ _ (by omega) i2 rfl rfl
      refine wpIn_mono (hbody _ pre x rest V hx v1) ?_
      rintro e a3 W3 hp
      cases e with
      | normal =>
        obtain ⟨k1, k2, k3⟩ := hp
        have u2 := k1.same _ _ v2 rfl
        have u3 := k1.same _ _ v3 rfl
        have hr := run_endRound (P := P) none u2
        rw [hrec] at hr u2
        refine ⟨_, _, hr, rfl, ⟨hIl _ _ _ _ _ k3 (by omega) u2 rfl, ?_, (World.putObj_heap_other (by omega)).trans u3⟩, (v4.trans k2).trans (belowK_b (w := w) hn₀ W3 _ _ _ (by omega) u2 rfl rfl)⟩
        rw [World.putObj_heap_same (Array.getElem?_eq_some_iff.1 u2).1, hrec]; rfl
      | _ => exact hp.elim
    · rintro e W2 ⟨⟨v, rfl⟩, i1, i2, i3⟩
      have he := run_endLoop (P := P) i2 (by rw [hrec]; simp)
      rw [hrec] at he
      exact ⟨none, _, he, hdone _ _ (Nat.le_refl _) (hIl _ _ _ _ _ i1 (by omega) i2 rfl) ((World.putObj_heap_other (by omega)).trans i3)⟩
attribute [local go_sem] Oper.semAt_some
set_option maxRecDepth 100000 in
set_option maxHeartbeats 4000000 in
theorem behind_hands (n : Nat) (op a b i : Int) (bx bi n₀ : Nat) (hi : i < 9223372036854775807) (hi0 : 0 ≤ i) (w : World) (hn₀ : n₀ ≤ w.heap.size) (x0 : w.cell? ⟨bx, 0, none⟩ = some (.int .i64 op)) (x1 : w.cell? ⟨bx, 1, none⟩ = some (.int .i64 a)) (xi : w.cell? ⟨bi, 0, none⟩ = some (.int .i64 i)) (hbx : bx < w.heap.size) (hbi : bi < w.heap.size) :
    HandsOn Fence.wide n Tryd.prog 35 #[.pointer (some ⟨bx, 0, none⟩), .pointer (some ⟨bi, 0, none⟩)] (wayOf ⟨op, a, b⟩ i) n₀ w := by
  intro l J W hW hJB hY hJ0
  have HB := Lib.hid hJB
  replace x0 := (hW.cell (p := ⟨bx, 0, none⟩) hbx).trans x0
  replace x1 := (hW.cell (p := ⟨bx, 1, none⟩) hbx).trans x1
  replace xi := (hW.cell (p := ⟨bi, 0, none⟩) hbi).trans xi
  clear hJB hbx hbi hn₀ hW
  obtain ⟨L, hL⟩ : ∃ L, L = wayOf ⟨op, a, b⟩ i := ⟨_, rfl⟩
  rw [← hL] at hY ⊢
  by_cases h24 : op = 24
  · subst h24
    have HV := Lib.hid (show L = [] by rw [hL]; rfl)
    have HJ := Lib.hid hJ0
    clear hY hL hJ0
    refine callsIn_of_wp Tryd.func35 rfl trivial ?_ rfl
    simp only [Tryd.ntmps35, List.size_toArray, List.length_cons, List.length_nil, Nat.reduceAdd, Nat.reduceSub, Array.replicate_succ, Array.replicate_zero, List.push_toArray, List.append_toArray, List.nil_append, List.cons_append]
    gi_wp2_with fail
    go_end0
    exact ⟨⟨_, rfl⟩, by rw [HV.out]; exact HJ.out⟩
  · by_cases h8 : op = 8
    · subst h8
      have HV := Lib.hid (show L = [a] by rw [hL]; rfl)
      obtain ⟨fn, tmps, assign, body, hy, hRd⟩ := hY [] a [] W (by rw [hL]; rfl) hJ0
      clear hY hL hJ0
      refine callsIn_of_wp Tryd.func35 rfl trivial ?_ rfl
      simp only [Tryd.ntmps35, List.size_toArray, List.length_cons, List.length_nil, Nat.reduceAdd, Nat.reduceSub, Array.replicate_succ, Array.replicate_zero, List.push_toArray, List.append_toArray, List.nil_append, List.cons_append]
      gi_wp2_with fail
      refine ⟨fun h => (by cases h), ?_⟩
      refine hRd.mono ?_
      rintro e W3 ⟨rfl, hJ3, hb3⟩
      gi_wp2_with fail
      go_end0
      exact ⟨⟨_, rfl⟩, by rw [HV.out]; exact hJ3⟩
    · by_cases h9 : op = 9
      · subst h9
        by_cases ha : a = i + 1
        · subst ha
          have HV := Lib.hid (show L = [i + 1] by rw [hL]; simp [wayOf])
          obtain ⟨fn, tmps, assign, body, hy, hRd⟩ := hY [] (i + 1) [] W.drew (by rw [hL]; simp [wayOf]) (HB.out _ _ _ hJ0 (show Below W.heap.size W W.drew from below_drew' W 1))
          clear hY hL hJ0
          refine callsIn_of_wp Tryd.func35 rfl trivial ?_ rfl
          simp only [Tryd.ntmps35, List.size_toArray, List.length_cons, List.length_nil, Nat.reduceAdd, Nat.reduceSub, Array.replicate_succ, Array.replicate_zero, List.push_toArray, List.append_toArray, List.nil_append, List.cons_append]
          gi_wp2_with fail
          gi_region
          gi_wp2_with fail
          refine ⟨fun h => (by cases h), ?_⟩
          refine hRd.mono ?_
          rintro e W3 ⟨rfl, hJ3, hb3⟩
          gi_wp2_with fail
          go_end0
          exact ⟨⟨_, rfl⟩, by rw [HV.out]; exact hJ3⟩
        · by_cases hlt : i + 1 < a
          · have hnl : ¬ a < i + 1 := by omega
            have hV : L = [i + 1, a] := by rw [hL]; simp only [wayOf, h24, h8, ha, if_false, if_true, Int.min_def, Int.max_def]; rw [if_neg (by omega), if_neg (by omega)]
            obtain ⟨fn, tmps, assign, body, hy, hRd⟩ := hY [] (i + 1) [a] W.drew hV (HB.out _ _ _ hJ0 (show Below W.heap.size W W.drew from below_drew' W 1))
            have HY2 := Lib.hid hY
            have HV := Lib.hid hV
            clear hY hL hJ0 hV
            refine callsIn_of_wp Tryd.func35 rfl trivial ?_ rfl
            simp only [Tryd.ntmps35, List.size_toArray, List.length_cons, List.length_nil, Nat.reduceAdd, Nat.reduceSub, Array.replicate_succ, Array.replicate_zero, List.push_toArray, List.append_toArray, List.nil_append, List.cons_append]
            gi_wp2_with fail
            gi_region
            gi_wp2_with fail
            refine ⟨fun h => (by cases h), ?_⟩
            refine hRd.mono ?_
            rintro e W3 ⟨rfl, hJ3, hb3⟩
            obtain ⟨fn2, tmps2, assign2, body2, hy2, hRd2⟩ := HY2.out [i + 1] a [] W3 (by rw [HV.out]; rfl) hJ3
            clear hJ3 hb3 hy hRd
            gi_wp2_with fail
            refine ⟨fun h => (by cases h), ?_⟩
            refine hRd2.mono ?_
            rintro e W4 ⟨rfl, hJ4, hb4⟩
            gi_wp2_with fail
            go_end0
            exact ⟨⟨_, rfl⟩, by rw [HV.out]; exact hJ4⟩
          · have hlt2 : a < i + 1 := by omega
            have hV : L = [a, i + 1] := by rw [hL]; simp only [wayOf, h24, h8, ha, if_false, if_true, Int.min_def, Int.max_def]; rw [if_pos (by omega), if_pos (by omega)]
            obtain ⟨fn, tmps, assign, body, hy, hRd⟩ := hY [] a [i + 1] W.drew hV (HB.out _ _ _ hJ0 (show Below W.heap.size W W.drew from below_drew' W 1))
            have HY2 := Lib.hid hY
            have HV := Lib.hid hV
            clear hY hL hJ0 hV
            refine callsIn_of_wp Tryd.func35 rfl trivial ?_ rfl
            simp only [Tryd.ntmps35, List.size_toArray, List.length_cons, List.length_nil, Nat.reduceAdd, Nat.reduceSub, Array.replicate_succ, Array.replicate_zero, List.push_toArray, List.append_toArray, List.nil_append, List.cons_append]
            gi_wp2_with fail
            gi_region
            gi_wp2_with fail
            refine ⟨fun h => (by cases h), ?_⟩
            refine hRd.mono ?_
            rintro e W3 ⟨rfl, hJ3, hb3⟩
            obtain ⟨fn2, tmps2, assign2, body2, hy2, hRd2⟩ := HY2.out [a] (i + 1) [] W3 (by rw [HV.out]; rfl) hJ3
            clear hJ3 hb3 hy hRd
            gi_wp2_with fail
            refine ⟨fun h => (by cases h), ?_⟩
            refine hRd2.mono ?_
            rintro e W4 ⟨rfl, hJ4, hb4⟩
            gi_wp2_with fail
            go_end0
            exact ⟨⟨_, rfl⟩, by rw [HV.out]; exact hJ4⟩
      · have HV := Lib.hid (show L = [i + 1] by rw [hL]; simp [wayOf, h24, h8, h9])
        obtain ⟨fn, tmps, assign, body, hy, hRd⟩ := hY [] (i + 1) [] W (by rw [hL]; simp [wayOf, h24, h8, h9]) hJ0
        clear hY hL hJ0
        refine callsIn_of_wp Tryd.func35 rfl trivial ?_ rfl
        simp only [Tryd.ntmps35, List.size_toArray, List.length_cons, List.length_nil, Nat.reduceAdd, Nat.reduceSub, Array.replicate_succ, Array.replicate_zero, List.push_toArray, List.append_toArray, List.nil_append, List.cons_append]
        gi_wp2_with fail
        refine ⟨fun h => (by cases h), ?_⟩
        refine hRd.mono ?_
        rintro e W3 ⟨rfl, hJ3, hb3⟩
        gi_wp2_with fail
        go_end0
        exact ⟨⟨_, rfl⟩, by rw [HV.out]; exact hJ3⟩
end Go.Proofs.YtegopamfdgeblaaDoor
