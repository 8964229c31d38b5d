/- Texts that belong together: WireQ, PoolI, CardW, PoolJ, PoolKa, PoolKb, PoolK. -/
import Derived.Test.YtbeaaieaffdgeaaGreatDoorMo
import Derived.Test.YtbeaaieaffdgeaaGreatDoorMn
import Derived.Test.YtbeaaieaffdgeaaGreatDoorMm
import Derived.Laws.OwnMore
import Derived.BigRegion
import Derived.Test.YtbeaaieaffdgeaaGreatDoorMg
import Derived.Deep.AppendLies
import Derived.OneCell
import Derived.Deep.CutRange
import Derived.Deep.RegionLaw
import Derived.Deep.RegionLawGrows
/- What the document's reader hands back, whatever it holds. -/
section
namespace Go.Proofs.YtbeaaieaffdgeaaGreatDoor
open Go.RowKit
set_option linter.unusedVariables false

theorem rnum_any (b : Nat) (r : RdS) (w : World) (hr : RdOk r) (h : RdT 68 b r.1 r.2 w) :
    Calls Tryz.prog 56 #[.pointer (some ⟨b, 0, none⟩)] w fun e w' => e = .returned (.int .u64 ((rdNum r).1 : Int)) ∧ RdT 68 b (rdNum r).2.1 (rdNum r).2.2 w' ∧ w.grownBy w' (some b) := by
  obtain ⟨s, st⟩ := r
  cases st with
  | true =>
    have he : s = ByteArray.empty := hr.2 rfl
    subst he
    exact rnum_empty b true w h
  | false =>
    have e0 : rdNum (s, false) = match readN s.data.toList with
      | none => (0, (ByteArray.empty, true))
      | some (n, k) => (n, (s.extract k s.size, false)) := rfl
    by_cases hz : s.size = 0
    · obtain rfl : s = ByteArray.empty := by
        apply ByteArray.ext
        exact Array.eq_empty_of_size_eq_zero hz
      exact rnum_empty b false w h
    · have hm : Calls Tryz.prog 56 #[.pointer (some ⟨b, 0, none⟩)] w (RNumPost b s w) := by
        have h0 : 0 < s.size := by omega
        by_cases h8 : lead s[0].toNat < 8
        · exact rnum_lt8 b s w h h0 hr.1 h8
        · exact rnum_is8 b s w h h0 hr.1 (by omega)
      refine hm.mono ?_
      rintro e w' ⟨hg, hp⟩
      rw [e0]
      split at hp
      · rename_i hq; rw [hq]; exact ⟨hp.1, hp.2, hg⟩
      · rename_i hq; rw [hq]; exact ⟨hp.1, hp.2, hg⟩

set_option maxHeartbeats 400000 in
theorem rint_any (b : Nat) (r : RdS) (w : World) (hr : RdOk r) (h : RdT 68 b r.1 r.2 w) :
    Calls Tryz.prog 58 #[.pointer (some ⟨b, 0, none⟩)] w fun e w' => e = .returned (.int .i64 (rdInt r).1) ∧ RdT 68 b (rdInt r).2.1 (rdInt r).2.2 w' ∧ w.grownBy w' (some b) := by
  have hb := rdNum_lt r
  have hN := rnum_any b r w hr h
  have e0 : rdInt r = (unzig (rdNum r).1, (rdNum r).2) := rfl
  rw [e0]
  generalize rdNum r = q at *
  obtain ⟨n, s1, st1⟩ := q
  have hn : n < 18446744073709551616 := hb
  have HN := Lib.hid hN
  clear hN h hb e0
  by_cases hp : n % 2 = 1
  · have ht : ((n : Int) % 2 == 1) = true := by rw [beq_iff_eq]; omega
    have HU := Lib.hid (show unzig n = -((n / 2 : Nat) : Int) - 1 by unfold unzig; rw [if_neg (by omega)])
    clear hp
    go_enter Tryz.func58, Tryz.ntmps58
    go_wp2_with fail
    refine HN.out.mono ?_
    rintro e w1 ⟨rfl, h1, hg⟩
    go_wp2_with fail
    go_ret
    refine ⟨ret_int ?_, h1, hg⟩
    rw [HU.out]
    first | omega | (simp only [wrap64]; omega)
  · have ht : ((n : Int) % 2 == 1) = false := by rw [beq_eq_false_iff_ne]; omega
    have HU := Lib.hid (show unzig n = ((n / 2 : Nat) : Int) by unfold unzig; rw [if_pos (by omega)])
    clear hp
    go_enter Tryz.func58, Tryz.ntmps58
    go_wp2_with fail
    refine HN.out.mono ?_
    rintro e w1 ⟨rfl, h1, hg⟩
    go_wp2_with fail
    go_ret
    refine ⟨ret_int ?_, h1, hg⟩
    rw [HU.out]
    omega

set_option maxHeartbeats 1000000 in
theorem rtext_any (b : Nat) (r : RdS) (w : World) (hr : RdOk r) (h : RdT 68 b r.1 r.2 w) :
    Calls Tryz.prog 34 #[.pointer (some ⟨b, 0, none⟩)] w fun e w' => e = .returned (.string (rdText r).1) ∧ RdT 68 b (rdText r).2.1 (rdText r).2.2 w' ∧ w.grownBy w' (some b) := by
  have hN := rnum_any b r w hr h
  have hb := rdNum_lt r
  have hk := hr.num
  have e0 : rdText r = if (rdNum r).2.2 then (ByteArray.empty, (rdNum r).2)
  else if (rdNum r).2.1.size < (rdNum r).1 then (ByteArray.empty, (ByteArray.empty, true))
  else ((rdNum r).2.1.extract 0 (rdNum r).1, ((rdNum r).2.1.extract (rdNum r).1 (rdNum r).2.1.size, false)) := rfl
  have E0 := Lib.hid e0
  clear e0
  generalize rdNum r = q at *
  obtain ⟨n, s1, st1⟩ := q
  have HN := Lib.hid hN
  have hs' : s1.size ≤ 70368744177664 := hk.1
  have hb' : n < 18446744073709551616 := hb
  have HK := Lib.hid hk.2
  clear hN h hb hk
  cases st1 with
  | true =>
    go_enter Tryz.func34, Tryz.ntmps34
    go_wp2_with fail
    refine HN.out.mono ?_
    rintro e w1 ⟨rfl, h1, hg⟩
    have H1 := Lib.hid h1
    obtain ⟨c0, c1, d0, d1⟩ := h1.facts
    clear h1
    go_wp2_with fail
    refine (rstop_any _ _ _ _ H1.out).mono ?_
    rintro e w2 ⟨rfl, h2, hg2⟩
    go_wp2_with fail
    go_ret
    have hse : s1 = ByteArray.empty := HK.out (by first | rfl | trivial)
    rw [E0.out]
    simp only [if_true]
    rw [hse]
    exact ⟨rfl, h2, grown_then hg hg2⟩
  | false =>
    by_cases hlt : s1.size < n
    · go_enter Tryz.func34, Tryz.ntmps34
      go_wp2_with fail
      refine HN.out.mono ?_
      rintro e w1 ⟨rfl, h1, hg⟩
      have H1 := Lib.hid h1
      obtain ⟨c0, c1, d0, d1⟩ := h1.facts
      clear h1
      go_wp2_with fail
      refine (rstop_any _ _ _ _ H1.out).mono ?_
      rintro e w2 ⟨rfl, h2, hg2⟩
      go_wp2_with fail
      go_ret
      rw [E0.out, if_neg (by simp), if_pos hlt]
      exact ⟨rfl, h2, grown_then hg hg2⟩
    · have hle : n ≤ s1.size := by omega
      go_enter Tryz.func34, Tryz.ntmps34
      go_wp2_with fail
      refine HN.out.mono ?_
      rintro e w1 ⟨rfl, h1, hg⟩
      have H1 := Lib.hid h1
      obtain ⟨c0, c1, d0, d1⟩ := h1.facts
      clear h1
      go_wp2_with fail
      go_ret
      rw [E0.out, if_neg (by simp), if_neg hlt]
      exact ⟨rfl, H1.out.set0 _, grown_then hg (grown_set (World.grownBy.refl _ _) _ _)⟩
end Go.Proofs.YtbeaaieaffdgeaaGreatDoor
end
/- The document's num, of a reader. -/
section
namespace Go.Proofs.YtbeaaieaffdgeaaGreatDoor
open Go.RowKit
set_option linter.unusedVariables false
set_option linter.unusedSimpArgs false

theorem RdOk.nm {r : RdS} (h : RdOk r) : RdOk (rdNm r).2 := h.num
set_option maxHeartbeats 2000000 in
theorem refNm_any (b : Nat) (r : RdS) (w : World) (hr : RdOk r) (h : RdT 68 b r.1 r.2 w) :
    Calls Tryz.prog 32 #[.pointer (some ⟨b, 0, none⟩)] w fun e w' => e = .returned (.int .i64 (rdNm r).1) ∧ RdT 68 b (rdNm r).2.1 (rdNm r).2.2 w' ∧ w.grownBy w' (some b) := by
  have hlt := rdNum_lt r
  have HC := Lib.hid (rnum_any b r w hr h)
  obtain ⟨m, hm⟩ : ∃ m, (rdNum r).1 = m := ⟨_, rfl⟩
  have HM := Lib.hid hm
  rw [hm] at hlt HC
  clear h hr hm
  go_enter Tryz.func32, Tryz.ntmps32
  go_wp2_with fail
  refine HC.out.mono ?_
  rintro e w1 ⟨rfl, hrd, hg⟩
  have HD := Lib.hid hrd
  have HG := Lib.hid hg
  clear hrd hg
  have HV := Lib.hid (show (rdNm r).1 = ((min m 100000 : Nat) : Int) by unfold rdNm; rw [HM.out])
  go_wp2_with fail
  go_ret
  exact ⟨int_ret (by rw [HV.out]; omega), HD.out, HG.out⟩
end Go.Proofs.YtbeaaieaffdgeaaGreatDoor
end
/- turned: what its walks share. -/
section
namespace Go.Proofs.YtbeaaieaffdgeaaGreatDoor
open Go.RowKit
set_option linter.unusedVariables false
set_option linter.unusedSimpArgs false

theorem BlkAt.set {w : World} {b : Nat} {cs : Array Value} {T : TypeId} (h : BlkAt w b cs T) (i : Nat) (v : Value) : BlkAt (w.setCell ⟨b, i, none⟩ v) b (cs.setIfInBounds i v) T := heap_setCell_same w b i cs T v h
theorem BlkAt.far {w : World} {b : Nat} {cs : Array Value} {T : TypeId} (h : BlkAt w b cs T) (p : Addr) (v : Value) (hp : p.block ≠ b) : BlkAt (w.setCell p v) b cs T :=
  (Below.heap_setCell w p v b (Ne.symm hp)).trans h
theorem IsA.cells {w : World} {a : Option Addr} {c : Nat} {A : List AbT} (h : IsA w a c A) (h0 : A.length ≠ 0) : ∃ b off, a = some ⟨b, off, none⟩ ∧ b < w.heap.size ∧ ∀ (j : Nat) (u : Value), (abRow A)[j]? = some u → w.cell? ((⟨b, off, none⟩ : Addr).add j) = some u := by
  obtain ⟨h1, h2, _, h3 | ⟨b, off, h3, h4, h5⟩⟩ := h
  · exact absurd h3 h0
  · refine ⟨b, off, h3, h4, fun j u hu => ?_⟩
    have hj : j < (abRow A).length := (List.getElem?_eq_some_iff.1 hu).1
    rw [abRow_len] at hj
    have e : j = j / 13 * 13 + j % 13 := by omega
    rw [add_plain, ← hu]
    have hd : j / 13 < A.length := by omega
    have := h5 (j / 13) hd (j % 13) (by omega)
    rw [show off + j / 13 * 13 + j % 13 = off + j by omega] at this
    rw [this]
    have h6 := abRow_at A (j / 13) hd (j % 13) (by omega)
    rw [← e] at h6
    exact h6.symm
theorem own_some {w : World} {base e size : Nat} {v : Value} {n : Nat} {xs : List Value} (h : w.ownsRow base e size v n xs) (hn : n ≠ 0) : ∃ g c, v = .slice (some ⟨g, 0, none⟩) n c ∧ base ≤ g ∧ g < w.heap.size ∧ n ≤ c ∧ c ≤ 9223372036854775807 := by
  rcases h.2 with ⟨_, h2⟩ | ⟨g, c, cur, rfl, hg, hh, hc, hm, _⟩
  · exact absurd h2 hn
  · unfold maxLen at hm
    exact ⟨g, c, rfl, hg, (Array.getElem?_eq_some_iff.1 hh).1, hc, hm⟩
theorem own_empty (w : World) (o1 o2 : Obj) : (((w.alloc o1).alloc o2).alloc (.cells #[] 42)).ownsRow (w.heap.size + 1 + 1) 42 13 (.slice (some ⟨w.heap.size + 1 + 1, 0, none⟩) 0 0) 0 [] := by
  have := World.ownsRow_lit (base := w.heap.size + 1 + 1) (e := 42) (size := 13) ((w.alloc o1).alloc o2) #[] 0 (by simp) (by unfold maxLen; omega) rfl
  simpa using this
theorem own_ne0 (h : Nat) : (Value.slice (some ⟨h + 1 + 1, 0, none⟩) 0 0).ownBlock ≠ some h := by
  intro e
  have : h + 1 + 1 = h := Option.some.inj e
  omega
theorem own_ne1 (h : Nat) : (Value.slice (some ⟨h + 1 + 1, 0, none⟩) 0 0).ownBlock ≠ some (h + 1) := by
  intro e
  have : h + 1 + 1 = h + 1 := Option.some.inj e
  omega
theorem own_ge (h : Nat) (k : Nat) (e : (Value.slice (some ⟨h + 1 + 1, 0, none⟩) 0 0).ownBlock = some k) : h ≤ k := by
  have : h + 1 + 1 = k := Option.some.inj e
  omega
theorem BlkAt.grown {w w' : World} {b : Nat} {cs : Array Value} {T : TypeId} {row : Option Nat} (h : BlkAt w b cs T) (k : w.grownBy w' row) (hr : row ≠ some b) : BlkAt w' b cs T :=
  (k.block b h.lt hr.symm).trans h
theorem blkAt_top (w : World) (cs : Array Value) (T : TypeId) : BlkAt (w.alloc (.cells cs T)).drew w.heap.size cs T := heap_alloc_new w _
/-- What turned tells, without addresses. -/
def lastM (A : List AbT) (g : AbT → AbT) : List AbT := A.dropLast ++ (A.getLast?.map g).toList
theorem lastM_snoc (A : List AbT) (t : AbT) (g : AbT → AbT) : lastM (A ++ [t]) g = A ++ [g t] := by simp [lastM]
def longNm : ByteArray := ⟨#[49, 50, 51, 52, 53, 54, 55, 56, 57, 48, 49, 50, 51, 52, 53, 54, 55]⟩
def turnM (p : Cd × List AbT) (f : Nat) (n : Int) : Cd × List AbT :=
  if p.2.length = 0 then p else
  match f with
  | 0 => ({ p.1 with k := n }, p.2)
  | 1 => ({ p.1 with c0 := n }, p.2)
  | 2 => ({ p.1 with c3 := n }, p.2)
  | 3 => ({ p.1 with col := n }, p.2)
  | 4 => ({ p.1 with pow := n }, p.2)
  | 5 => ({ p.1 with tou := n }, p.2)
  | 6 => ({ p.1 with keys := n }, p.2)
  | 7 => (p.1, lastM p.2 fun t => ({ t.1 with k := n }, t.2))
  | 8 => (p.1, lastM p.2 fun t => ({ t.1 with ev := n }, t.2))
  | 9 => (p.1, lastM p.2 fun t => ({ t.1 with wh := n }, t.2))
  | 10 => (p.1, lastM p.2 fun t => ({ t.1 with c1 := n }, t.2))
  | 11 => (p.1, lastM p.2 fun t => ({ t.1 with op := n }, t.2))
  | 12 => (p.1, lastM p.2 fun t => ({ t.1 with a := n }, t.2))
  | 13 => (p.1, lastM p.2 fun t => ({ t.1 with b := n }, t.2))
  | 14 => (p.1, lastM p.2 fun t => ({ t.1 with tap := !t.1.tap }, t.2))
  | 15 => (p.1, lastM p.2 fun t => ({ t.1 with tn := t.1.tn + 1 }, t.2.1 ++ [n], t.2.2))
  | 16 => (p.1, lastM p.2 fun t => ({ t.1 with tn := 0 }, [], t.2.2))
  | 17 => (p.1, lastM p.2 fun t => ({ t.1 with cn := t.1.cn + 1 }, t.2.1, t.2.2 ++ [⟨n, 0, 0⟩]))
  | 18 => (p.1, lastM p.2 fun t => ({ t.1 with cn := 0 }, t.2.1, []))
  | 19 => ({ p.1 with an := p.1.an - 1 }, p.2.dropLast)
  | 20 => ({ p.1 with an := p.1.an + 1 }, p.2 ++ p.2.head?.toList)
  | 21 => ({ p.1 with nm := ⟨#[]⟩ }, p.2)
  | 22 => ({ p.1 with nm := longNm }, p.2)
  | _ => ({ p.1 with an := 0 }, [])
theorem outC_own {X : Nat → Prop} {w W' : World} {B : Nat} {y : Cd} {A : List AbT} {p : Cd × List AbT} (hb : Below w.heap.size w W') (ho : W'.ownsRow B 42 13 (.slice y.aa y.an y.ac) y.an (abRow A)) (hB : w.heap.size ≤ B) (hX : ∀ g, X g → g < w.heap.size) (hn : A.length = y.an)
    (hr : ∀ W : World, W'.heap.size ≤ W.heap.size → (∀ g o, g < W'.heap.size → ¬ X g → W.cell? ⟨g, o, none⟩ = W'.cell? ⟨g, o, none⟩) → ∀ t ∈ A, AbR W t.1 t.2.1 t.2.2) (hy : CdOk y) (hp : p = (erC y, A.map erT)) :
    OutC X w W' (.returned (.agg #[.string y.nm, .int .i64 y.k, .int .i64 y.c0, .int .i64 y.c1, .int .i64 y.c2, .int .i64 y.c3, .int .i64 y.col, .int .i64 y.pow, .int .i64 y.tou, .int .i64 y.keys, .slice y.aa y.an y.ac])) p := by
  subst hp
  obtain ⟨a, c, hv, hrow⟩ := own_row ho
  obtain ⟨rfl, rfl⟩ : y.aa = a ∧ y.ac = c := by
    injection hv with h1 h2 h3
    exact ⟨h1, h3⟩
  refine ⟨y, A, rfl, fun W hs hc => ⟨hn, isA_row hn (hr W hs hc) (hrow.agree hs hc (fun p hp hx => ?_))⟩, hy, rfl, rfl, hb⟩
  have h1 := (ho.lt p.block (by rw [hp]; rfl)).1
  have h2 := hX _ hx
  omega
/-- A card's abilities, as they read behind the call, whatever becomes of X. -/
theorem CdX.abs {X : Nat → Prop} {w W' : World} {y : Cd} {A : List AbT} (h : CdX X w y A) (hb : Below w.heap.size w W') (W : World) (hs : W'.heap.size ≤ W.heap.size) (hc : ∀ g o, g < W'.heap.size → ¬ X g → W.cell? ⟨g, o, none⟩ = W'.cell? ⟨g, o, none⟩) : ∀ t ∈ A, AbR W t.1 t.2.1 t.2.2 :=
  (h.next hb W hs hc).2.2.2.1
theorem abRow_set (A : List AbT) (t t' : AbT) (i : Nat) (v : Value) (hi : i < 13) (h : (abCells t.1).set i v = abCells t'.1) (j : Nat) (hj : j = A.length * 13 + i) : (abRow (A ++ [t])).set j v = abRow (A ++ [t']) := by
  subst hj
  rw [abRow_append, abRow_append, List.set_append_right _ _ (by rw [abRow_len]; omega), abRow_len, Nat.add_sub_cancel_left]
  simp [abRow, h]
theorem snoc_of (A : List AbT) (h : A.length ≠ 0) : ∃ A0 t, A = A0 ++ [t] := by
  rcases List.eq_nil_or_concat A with rfl | ⟨A0, t, rfl⟩
  · exact absurd rfl h
  · exact ⟨A0, t, by simp⟩
end Go.Proofs.YtbeaaieaffdgeaaGreatDoor
end
/- A reader that is read on, while a struct of the call's own is filled. -/
section
namespace Go.Proofs.YtbeaaieaffdgeaaGreatDoor
open Go.RowKit
set_option linter.unusedVariables false
set_option linter.unusedSimpArgs false

theorem own_kept {w w' : World} {base e size n b : Nat} {v : Value} {xs : List Value} (h : w.ownsRow base e size v n xs) (g : w.grownBy w' (some b)) (hb : b < base) : w'.ownsRow base e size v n xs := by
  refine ⟨h.1, ?_⟩
  rcases h.2 with h2 | ⟨g0, c, cur, hv, hbg, hh, rest⟩
  · exact .inl h2
  · exact .inr ⟨g0, c, cur, hv, hbg, (g.block g0 (Array.getElem?_eq_some_iff.1 hh).1 (fun e => by have : g0 = b := Option.some.inj e; omega)).trans hh, rest⟩
theorem grown_cell {w W : World} {b : Nat} (h : w.grownBy W (some b)) (hs : w.heap.size ≤ W.heap.size) (p : Addr) (v : Value) (hp : w.heap.size ≤ p.block) : w.grownBy (W.setCell p v) (some b) :=
  have k : Below w.heap.size W (W.setCell p v) := (Below.refl _ W).setCell hp v
  ⟨k.os.trans h.os, k.tape.trans h.tape, k.output.trans h.output, Nat.le_trans h.size k.size, fun j hj hne => (k.block j hj).trans (h.block j hj hne)⟩
/-- Block b holds the document's reader in the state r; block x, of the call's own, the cells cs; of what was there before w nothing has changed but b. -/
def RX (b : Nat) (w : World) (r : RdS) (x : Nat) (cs : Array Value) (T : TypeId) (W : World) : Prop :=
  RdT 68 b r.1 r.2 W ∧ RdOk r ∧ w.heap.size ≤ x ∧ BlkAt W x cs T ∧ w.grownBy W (some b)
theorem RX.ne {b : Nat} {w W : World} {r : RdS} {x : Nat} {cs : Array Value} {T : TypeId} (h : RX b w r x cs T W) (hb : b < w.heap.size) : b ≠ x := by have := h.2.2.1; omega
theorem RX.kept {b : Nat} {w W W' : World} {r r' : RdS} {x : Nat} {cs : Array Value} {T : TypeId} (h : RX b w r x cs T W) (hb : b < w.heap.size) (ho : RdOk r') (h1 : RdT 68 b r'.1 r'.2 W') (g : W.grownBy W' (some b)) : RX b w r' x cs T W' :=
  ⟨h1, ho, h.2.2.1, h.2.2.2.1.grown g (fun e => h.ne hb (Option.some.inj e)), grown_then h.2.2.2.2 g⟩
theorem RX.num {b : Nat} {w W : World} {r : RdS} {x : Nat} {cs : Array Value} {T : TypeId} (h : RX b w r x cs T W) (hb : b < w.heap.size) :
    Calls Tryz.prog 32 #[.pointer (some ⟨b, 0, none⟩)] W fun e W' => e = .returned (.int .i64 (rdNm r).1) ∧ RX b w (rdNm r).2 x cs T W' :=
  (refNm_any b r W h.2.1 h.1).mono fun _ _ ⟨h1, h2, h3⟩ => ⟨h1, h.kept hb h.2.1.nm h2 h3⟩
theorem RX.int {b : Nat} {w W : World} {r : RdS} {x : Nat} {cs : Array Value} {T : TypeId} (h : RX b w r x cs T W) (hb : b < w.heap.size) :
    Calls Tryz.prog 58 #[.pointer (some ⟨b, 0, none⟩)] W fun e W' => e = .returned (.int .i64 (rdInt r).1) ∧ RX b w (rdInt r).2 x cs T W' :=
  (rint_any b r W h.2.1 h.1).mono fun _ _ ⟨h1, h2, h3⟩ => ⟨h1, h.kept hb h.2.1.num h2 h3⟩
theorem RX.set {b : Nat} {w W : World} {r : RdS} {x : Nat} {cs : Array Value} {T : TypeId} (h : RX b w r x cs T W) (hb : b < w.heap.size) (i : Nat) (v : Value) : RX b w r x (cs.setIfInBounds i v) T (W.setCell ⟨x, i, none⟩ v) :=
  ⟨h.1.kept (grown_set (World.grownBy.refl W (some x)) i v) (h.ne hb), h.2.1, h.2.2.1, h.2.2.2.1.set i v, grown_cell h.2.2.2.2 (h.2.2.2.2.size) _ _ h.2.2.1⟩
theorem RX.grow {b : Nat} {w W W' : World} {r : RdS} {x : Nat} {cs : Array Value} {T : TypeId} (h : RX b w r x cs T W) (hb : b < w.heap.size) (k : Below W.heap.size W W') : RX b w r x cs T W' :=
  ⟨h.1.below k, h.2.1, h.2.2.1, h.2.2.2.1.next k, grown_then h.2.2.2.2 (grown_below k _)⟩
theorem RX.ok {b : Nat} {w W : World} {r : RdS} {x : Nat} {cs : Array Value} {T : TypeId} (h : RX b w r x cs T W) :
    Calls Tryz.prog 33 #[.pointer (some ⟨b, 0, none⟩)] W fun e W' => e = .returned (.bool (!r.2)) ∧ W = W' := rok_any b r.1 r.2 W h.1
end Go.Proofs.YtbeaaieaffdgeaaGreatDoor
end
/- The document's reader, and what stands beside it. -/
section
namespace Go.Proofs.YtbeaaieaffdgeaaGreatDoor
open Go.RowKit
set_option linter.unusedVariables false
set_option linter.unusedSimpArgs false

/-- What is kept as long as only block b, and new blocks, are written. -/
def Kpt (b : Nat) (X : World → Prop) : Prop := ∀ W W' : World, X W → W.grownBy W' (some b) → X W'
/-- Block b holds the document's reader in the state r; what was there before w stands but for b; and X. -/
def SX (b : Nat) (w : World) (r : RdS) (X : World → Prop) (W : World) : Prop :=
  (RdT 68 b r.1 r.2 W ∧ RdOk r ∧ w.grownBy W (some b)) ∧ X W
theorem SX.lt {b : Nat} {w W : World} {r : RdS} {X : World → Prop} (h : SX b w r X W) : b < W.heap.size := h.1.1.lt
theorem SX.num {b : Nat} {w W : World} {r : RdS} {X : World → Prop} (h : SX b w r X W) (hX : Kpt b X) :
    Calls Tryz.prog 32 #[.pointer (some ⟨b, 0, none⟩)] W fun e W' => e = .returned (.int .i64 (rdNm r).1) ∧ SX b w (rdNm r).2 X W' :=
  (refNm_any b r W h.1.2.1 h.1.1).mono fun _ _ ⟨h1, h2, h3⟩ => ⟨h1, ⟨h2, h.1.2.1.nm, grown_then h.1.2.2 h3⟩, hX _ _ h.2 h3⟩
theorem SX.int {b : Nat} {w W : World} {r : RdS} {X : World → Prop} (h : SX b w r X W) (hX : Kpt b X) :
    Calls Tryz.prog 58 #[.pointer (some ⟨b, 0, none⟩)] W fun e W' => e = .returned (.int .i64 (rdInt r).1) ∧ SX b w (rdInt r).2 X W' :=
  (rint_any b r W h.1.2.1 h.1.1).mono fun _ _ ⟨h1, h2, h3⟩ => ⟨h1, ⟨h2, h.1.2.1.num, grown_then h.1.2.2 h3⟩, hX _ _ h.2 h3⟩
theorem SX.ok {b : Nat} {w W : World} {r : RdS} {X : World → Prop} (h : SX b w r X W) :
    Calls Tryz.prog 33 #[.pointer (some ⟨b, 0, none⟩)] W fun e W' => e = .returned (.bool (!r.2)) ∧ W = W' := rok_any b r.1 r.2 W h.1.1
theorem SX.grow {b : Nat} {w W W' : World} {r : RdS} {X : World → Prop} (h : SX b w r X W) (hX : Kpt b X) (k : Below W.heap.size W W') : SX b w r X W' :=
  ⟨⟨h.1.1.below k, h.1.2.1, grown_then h.1.2.2 (grown_below k _)⟩, hX _ _ h.2 (grown_below k _)⟩
theorem SX.to {b : Nat} {w W : World} {r : RdS} {X X' : World → Prop} (h : SX b w r X W) (hX : X W → X' W) : SX b w r X' W := ⟨h.1, hX h.2⟩
theorem grown_rowb {w W W' : World} {b : Nat} {row : Option Nat} (h : w.grownBy W (some b)) (g : W.grownBy W' row) (hr : ∀ k, row = some k → w.heap.size ≤ k) : w.grownBy W' (some b) :=
  ⟨g.os.trans h.os, g.tape.trans h.tape, g.output.trans h.output, Nat.le_trans h.size g.size, fun k hk hkb => (g.block k (Nat.lt_of_lt_of_le hk h.size) (fun e => by have := hr k e.symm; omega)).trans (h.block k hk hkb)⟩
theorem SX.row {b : Nat} {w W W' : World} {r : RdS} {X X' : World → Prop} {row : Option Nat} (h : SX b w r X W) (g : W.grownBy W' row) (hr : ∀ k, row = some k → w.heap.size ≤ k ∧ k ≠ b) (hX : X' W') : SX b w r X' W' :=
  ⟨⟨(g.block b h.lt (fun e => (hr b e.symm).2 rfl)).trans h.1.1, h.1.2.1, grown_rowb h.1.2.2 g (fun k e => (hr k e).1)⟩, hX⟩
theorem SX.put {b : Nat} {w W : World} {r : RdS} {X X' : World → Prop} {q i : Nat} {v : Value} (h : SX b w r X W) (hq : w.heap.size ≤ q) (hb : q ≠ b) (hX : X' (W.setCell ⟨q, i, none⟩ v)) : SX b w r X' (W.setCell ⟨q, i, none⟩ v) :=
  h.row (row := some q) (grown_set (World.grownBy.refl W (some q)) i v) (fun k e => by injection e with e; subst e; exact ⟨hq, hb⟩) hX
theorem kpt_blk {b x : Nat} {cs : Array Value} {T : TypeId} (h : x ≠ b) : Kpt b (BlkAt · x cs T) := fun _ _ hx g => hx.grown g (fun e => h (Option.some.inj e).symm)
theorem kpt_own {b base e size n : Nat} {v : Value} {xs : List Value} (h : b < base) : Kpt b (fun W => W.ownsRow base e size v n xs) := fun _ _ hx g => own_kept hx g h
theorem kpt_and {b : Nat} {X Y : World → Prop} (h : Kpt b X) (k : Kpt b Y) : Kpt b (fun W => X W ∧ Y W) := fun W W' hx g => ⟨h W W' hx.1 g, k W W' hx.2 g⟩
theorem kpt_kd {b : Nat} {S : List TypeId} {R : World → Prop} : Kpt b (Kd S b R) := fun _ _ hx g => hx.read g
theorem kpt_all {α : Type} {b : Nat} {L : List α} {X : α → World → Prop} (h : ∀ x ∈ L, Kpt b (X x)) : Kpt b (fun W => ∀ x ∈ L, X x W) := fun W W' hx g x hm => h x hm W W' (hx x hm) g
/-- A row stands where one of another type grows. -/
theorem own_other {w w' : World} {base e size n : Nat} {v : Value} {xs : List Value} {row : Option Nat} {E : TypeId} (h : w.ownsRow base e size v n xs) (g : w.grownBy w' row) (hE : E ≠ e) (hr : ∀ k, row = some k → ∃ c fz, w.heap[k]? = some (.cells c E fz)) : w'.ownsRow base e size v n xs := by
  refine ⟨h.1, ?_⟩
  rcases h.2 with h2 | ⟨g0, c, cur, hv, hbg, hh, rest⟩
  · exact .inl h2
  · exact .inr ⟨g0, c, cur, hv, hbg, (g.block g0 (Array.getElem?_eq_some_iff.1 hh).1 (fun e => by
      obtain ⟨c', fz', h'⟩ := hr g0 e.symm
      rw [hh] at h'
      injection h' with h'
      injection h' with _ h'
      exact hE h'.symm)).trans hh, rest⟩
theorem blk_other {w w' : World} {x : Nat} {cs : Array Value} {T E : TypeId} {row : Option Nat} (h : BlkAt w x cs T) (g : w.grownBy w' row) (hE : E ≠ T) (hr : ∀ k, row = some k → ∃ c fz, w.heap[k]? = some (.cells c E fz)) : BlkAt w' x cs T :=
  h.grown g (fun e => by
    obtain ⟨c', fz', h'⟩ := hr x e
    have h2 : w.heap[x]? = some (.cells cs T (0, 0)) := h
    rw [h2] at h'
    injection h' with h'
    injection h' with _ h'
    exact hE h'.symm)
end Go.Proofs.YtbeaaieaffdgeaaGreatDoor
end
/- What stands beside the document's reader while an ability is read. -/
section
namespace Go.Proofs.YtbeaaieaffdgeaaGreatDoor
open Go.RowKit
set_option linter.unusedVariables false
set_option linter.unusedSimpArgs false

abbrev zeroA : Array Value := #[.int .i64 0, .int .i64 0, .int .i64 0, .int .i64 0, .int .i64 0, .int .i64 0, .int .i64 0, .bool false, .slice none 0 0, .slice none 0 0, .int .i64 0, .int .i64 0, .int .i64 0]
/-- The ability that is filled, the one that is told, and the targets. -/
def XA (xb zb : Nat) (cs : Array Value) (sv : Value) (T : List Int) (W : World) : Prop :=
  (BlkAt W xb cs 42 ∧ BlkAt W zb zeroA 42) ∧ W.ownsRow (xb + 1) 3 1 sv T.length (T.map (Value.int .i64))
/-- And the code. -/
def XB (xb zb : Nat) (cs : Array Value) (sv : Value) (T : List Int) (cv : Value) (i : Nat) (C : List Ins) (W : World) : Prop :=
  XA xb zb cs sv T W ∧ W.ownsRow (xb + 1) 82 3 cv i (insCells C)
/-- And an instruction that is filled. -/
def XC (xb zb : Nat) (cs : Array Value) (sv : Value) (T : List Int) (cv : Value) (i : Nat) (C : List Ins) (qb : Nat) (q : Array Value) (W : World) : Prop :=
  XB xb zb cs sv T cv i C W ∧ BlkAt W qb q 82
theorem kpt_XA {b xb zb : Nat} {cs : Array Value} {sv : Value} {T : List Int} (h : b < zb) (hz : zb < xb) : Kpt b (XA xb zb cs sv T) := fun W W' ⟨⟨h1, h2⟩, h3⟩ g =>
  ⟨⟨kpt_blk (by omega) W W' h1 g, kpt_blk (by omega) W W' h2 g⟩, own_kept h3 g (by omega)⟩
theorem kpt_XB {b xb zb i : Nat} {cs : Array Value} {sv cv : Value} {T : List Int} {C : List Ins} (h : b < zb) (hz : zb < xb) : Kpt b (XB xb zb cs sv T cv i C) := fun W W' ⟨h1, h2⟩ g => ⟨kpt_XA h hz W W' h1 g, own_kept h2 g (by omega)⟩
theorem kpt_XC {b xb zb i qb : Nat} {cs q : Array Value} {sv cv : Value} {T : List Int} {C : List Ins} (h : b < zb) (hz : zb < xb) (hq : qb ≠ b) : Kpt b (XC xb zb cs sv T cv i C qb q) := fun W W' ⟨h1, h2⟩ g => ⟨kpt_XB h hz W W' h1 g, kpt_blk hq W W' h2 g⟩
theorem XA.set {xb zb : Nat} {cs : Array Value} {sv : Value} {T : List Int} {W : World} (h : XA xb zb cs sv T W) (hz : zb < xb) (i : Nat) (v : Value) : XA xb zb (cs.setIfInBounds i v) sv T (W.setCell ⟨xb, i, none⟩ v) :=
  ⟨⟨h.1.1.set i v, h.1.2.far _ _ (by show xb ≠ zb; omega)⟩, ownsRow_setCell_below h.2 (a := ⟨xb, i, none⟩) (by show xb < xb + 1; omega) v⟩
theorem XB.set {xb zb i : Nat} {cs : Array Value} {sv cv : Value} {T : List Int} {C : List Ins} {W : World} (h : XB xb zb cs sv T cv i C W) (hz : zb < xb) (j : Nat) (v : Value) : XB xb zb (cs.setIfInBounds j v) sv T cv i C (W.setCell ⟨xb, j, none⟩ v) :=
  ⟨h.1.set hz j v, ownsRow_setCell_below h.2 (a := ⟨xb, j, none⟩) (by show xb < xb + 1; omega) v⟩
/-- A store into the instruction that is filled. -/
theorem XC.put {xb zb i qb : Nat} {cs q : Array Value} {sv cv : Value} {T : List Int} {C : List Ins} {W : World} (h : XC xb zb cs sv T cv i C qb q W) (hz : zb < xb) (hq : xb < qb) (h1 : sv.ownBlock ≠ some qb) (h2 : cv.ownBlock ≠ some qb) (j : Nat) (v : Value) :
    XC xb zb cs sv T cv i C qb (q.setIfInBounds j v) (W.setCell ⟨qb, j, none⟩ v) :=
  ⟨⟨⟨⟨h.1.1.1.1.far _ _ (by show qb ≠ xb; omega), h.1.1.1.2.far _ _ (by show qb ≠ zb; omega)⟩, ownsRow_setCell_other h.1.1.2 (a := ⟨qb, j, none⟩) h1 v⟩, ownsRow_setCell_other h.1.2 (a := ⟨qb, j, none⟩) h2 v⟩, h.2.set j v⟩
/-- The code grows. -/
theorem XB.app {xb zb i n : Nat} {cs : Array Value} {sv cv nv : Value} {T : List Int} {C C' : List Ins} {W W' : World} (h : XB xb zb cs sv T cv i C W) (g : W.grownBy W' cv.ownBlock) (hn : W'.ownsRow (xb + 1) 82 3 nv n (insCells C')) : XB xb zb cs sv T nv n C' W' := by
  have hk := ownsRow_kind h.2
  exact ⟨⟨⟨blk_other h.1.1.1 g (by decide) hk, blk_other h.1.1.2 g (by decide) hk⟩, own_other h.1.2 g (by decide) hk⟩, hn⟩
theorem own_fresh {W : World} {base e size n : Nat} {v : Value} {xs : List Value} (h : W.ownsRow base e size v n xs) (B : Nat) (hB : B = W.heap.size) : v.ownBlock ≠ some B := fun e => by
  have := (h.lt B e).2
  omega
theorem insCells_snoc (C : List Ins) (y : Ins) : insCells (C ++ [y]) = insCells C ++ [.int .i64 y.op, .int .i64 y.a, .int .i64 y.b] := by rw [insCells_append]; rfl
/-- What was read, read. -/
theorem XB.reads {xb zb i : Nat} {b : Nat} {cs : Array Value} {sv cv : Value} {T : List Int} {C : List Ins} {W : World} (h : XB xb zb cs sv T cv i C W) (hb : b < xb + 1) (hi : C.length = i) (x : Ab) (h1 : sv = .slice x.ta x.tn x.tc) (h2 : cv = .slice x.ca x.cn x.cc) :
    Kd [3, 82] b (fun W => AbR W x T C) W ∧ T.length = x.tn ∧ C.length = x.cn := by
  obtain ⟨a1, c1, e1, k1⟩ := own_kd h.1.2 hb
  obtain ⟨a2, c2, e2, k2⟩ := own_kd h.2 hb
  rw [e1] at h1
  rw [e2] at h2
  injection h1 with p1 p2 p3
  injection h2 with s1 s2 s3
  subst hi
  refine ⟨((k1.more (S' := [3, 82]) (fun e he => by simp at he; simp [he])).two (k2.more (S' := [3, 82]) (fun e he => by simp at he; simp [he]))).map fun W hW => ⟨⟨p2, ?_⟩, s2, ?_⟩, p2, s2⟩
  · rw [← p1, ← p3]; exact isL_row rfl hW.1
  · rw [← s1, ← s3]; exact isC_row rfl hW.2
/-- Thirteen stores over an ability. -/
theorem stored13 (w : World) (b : Nat) (T : TypeId) (v0 v1 v2 v3 v4 v5 v6 v7 v8 v9 v10 v11 v12 u0 u1 u2 u3 u4 u5 u6 u7 u8 u9 u10 u11 u12 : Value) (h : BlkAt w b #[v0, v1, v2, v3, v4, v5, v6, v7, v8, v9, v10, v11, v12] T) :
    BlkAt (((((((((((((w.setCell ⟨b, 0, none⟩ u0).setCell ⟨b, 1, none⟩ u1).setCell ⟨b, 2, none⟩ u2).setCell ⟨b, 3, none⟩ u3).setCell ⟨b, 4, none⟩ u4).setCell ⟨b, 5, none⟩ u5).setCell ⟨b, 6, none⟩ u6).setCell ⟨b, 7, none⟩ u7).setCell ⟨b, 8, none⟩ u8).setCell ⟨b, 9, none⟩ u9).setCell ⟨b, 10, none⟩ u10).setCell ⟨b, 11, none⟩ u11).setCell ⟨b, 12, none⟩ u12) b #[u0, u1, u2, u3, u4, u5, u6, u7, u8, u9, u10, u11, u12] T ∧ w.grownBy (((((((((((((w.setCell ⟨b, 0, none⟩ u0).setCell ⟨b, 1, none⟩ u1).setCell ⟨b, 2, none⟩ u2).setCell ⟨b, 3, none⟩ u3).setCell ⟨b, 4, none⟩ u4).setCell ⟨b, 5, none⟩ u5).setCell ⟨b, 6, none⟩ u6).setCell ⟨b, 7, none⟩ u7).setCell ⟨b, 8, none⟩ u8).setCell ⟨b, 9, none⟩ u9).setCell ⟨b, 10, none⟩ u10).setCell ⟨b, 11, none⟩ u11).setCell ⟨b, 12, none⟩ u12) (some b) := by
  have h0 : BlkAt (w.setCell ⟨b, 0, none⟩ u0) b #[u0, v1, v2, v3, v4, v5, v6, v7, v8, v9, v10, v11, v12] T := by simpa using h.set' 0 u0
  have h1 : BlkAt ((w.setCell ⟨b, 0, none⟩ u0).setCell ⟨b, 1, none⟩ u1) b #[u0, u1, v2, v3, v4, v5, v6, v7, v8, v9, v10, v11, v12] T := by simpa using h0.set' 1 u1
  have h2 : BlkAt (((w.setCell ⟨b, 0, none⟩ u0).setCell ⟨b, 1, none⟩ u1).setCell ⟨b, 2, none⟩ u2) b #[u0, u1, u2, v3, v4, v5, v6, v7, v8, v9, v10, v11, v12] T := by simpa using h1.set' 2 u2
  have h3 : BlkAt ((((w.setCell ⟨b, 0, none⟩ u0).setCell ⟨b, 1, none⟩ u1).setCell ⟨b, 2, none⟩ u2).setCell ⟨b, 3, none⟩ u3) b #[u0, u1, u2, u3, v4, v5, v6, v7, v8, v9, v10, v11, v12] T := by simpa using h2.set' 3 u3
  have h4 : BlkAt (((((w.setCell ⟨b, 0, none⟩ u0).setCell ⟨b, 1, none⟩ u1).setCell ⟨b, 2, none⟩ u2).setCell ⟨b, 3, none⟩ u3).setCell ⟨b, 4, none⟩ u4) b #[u0, u1, u2, u3, u4, v5, v6, v7, v8, v9, v10, v11, v12] T := by simpa using h3.set' 4 u4
  have h5 : BlkAt ((((((w.setCell ⟨b, 0, none⟩ u0).setCell ⟨b, 1, none⟩ u1).setCell ⟨b, 2, none⟩ u2).setCell ⟨b, 3, none⟩ u3).setCell ⟨b, 4, none⟩ u4).setCell ⟨b, 5, none⟩ u5) b #[u0, u1, u2, u3, u4, u5, v6, v7, v8, v9, v10, v11, v12] T := by simpa using h4.set' 5 u5
  have h6 : BlkAt (((((((w.setCell ⟨b, 0, none⟩ u0).setCell ⟨b, 1, none⟩ u1).setCell ⟨b, 2, none⟩ u2).setCell ⟨b, 3, none⟩ u3).setCell ⟨b, 4, none⟩ u4).setCell ⟨b, 5, none⟩ u5).setCell ⟨b, 6, none⟩ u6) b #[u0, u1, u2, u3, u4, u5, u6, v7, v8, v9, v10, v11, v12] T := by simpa using h5.set' 6 u6
  have h7 : BlkAt ((((((((w.setCell ⟨b, 0, none⟩ u0).setCell ⟨b, 1, none⟩ u1).setCell ⟨b, 2, none⟩ u2).setCell ⟨b, 3, none⟩ u3).setCell ⟨b, 4, none⟩ u4).setCell ⟨b, 5, none⟩ u5).setCell ⟨b, 6, none⟩ u6).setCell ⟨b, 7, none⟩ u7) b #[u0, u1, u2, u3, u4, u5, u6, u7, v8, v9, v10, v11, v12] T := by simpa using h6.set' 7 u7
  have h8 : BlkAt (((((((((w.setCell ⟨b, 0, none⟩ u0).setCell ⟨b, 1, none⟩ u1).setCell ⟨b, 2, none⟩ u2).setCell ⟨b, 3, none⟩ u3).setCell ⟨b, 4, none⟩ u4).setCell ⟨b, 5, none⟩ u5).setCell ⟨b, 6, none⟩ u6).setCell ⟨b, 7, none⟩ u7).setCell ⟨b, 8, none⟩ u8) b #[u0, u1, u2, u3, u4, u5, u6, u7, u8, v9, v10, v11, v12] T := by simpa using h7.set' 8 u8
  have h9 : BlkAt ((((((((((w.setCell ⟨b, 0, none⟩ u0).setCell ⟨b, 1, none⟩ u1).setCell ⟨b, 2, none⟩ u2).setCell ⟨b, 3, none⟩ u3).setCell ⟨b, 4, none⟩ u4).setCell ⟨b, 5, none⟩ u5).setCell ⟨b, 6, none⟩ u6).setCell ⟨b, 7, none⟩ u7).setCell ⟨b, 8, none⟩ u8).setCell ⟨b, 9, none⟩ u9) b #[u0, u1, u2, u3, u4, u5, u6, u7, u8, u9, v10, v11, v12] T := by simpa using h8.set' 9 u9
  have h10 : BlkAt (((((((((((w.setCell ⟨b, 0, none⟩ u0).setCell ⟨b, 1, none⟩ u1).setCell ⟨b, 2, none⟩ u2).setCell ⟨b, 3, none⟩ u3).setCell ⟨b, 4, none⟩ u4).setCell ⟨b, 5, none⟩ u5).setCell ⟨b, 6, none⟩ u6).setCell ⟨b, 7, none⟩ u7).setCell ⟨b, 8, none⟩ u8).setCell ⟨b, 9, none⟩ u9).setCell ⟨b, 10, none⟩ u10) b #[u0, u1, u2, u3, u4, u5, u6, u7, u8, u9, u10, v11, v12] T := by simpa using h9.set' 10 u10
  have h11 : BlkAt ((((((((((((w.setCell ⟨b, 0, none⟩ u0).setCell ⟨b, 1, none⟩ u1).setCell ⟨b, 2, none⟩ u2).setCell ⟨b, 3, none⟩ u3).setCell ⟨b, 4, none⟩ u4).setCell ⟨b, 5, none⟩ u5).setCell ⟨b, 6, none⟩ u6).setCell ⟨b, 7, none⟩ u7).setCell ⟨b, 8, none⟩ u8).setCell ⟨b, 9, none⟩ u9).setCell ⟨b, 10, none⟩ u10).setCell ⟨b, 11, none⟩ u11) b #[u0, u1, u2, u3, u4, u5, u6, u7, u8, u9, u10, u11, v12] T := by simpa using h10.set' 11 u11
  have h12 : BlkAt (((((((((((((w.setCell ⟨b, 0, none⟩ u0).setCell ⟨b, 1, none⟩ u1).setCell ⟨b, 2, none⟩ u2).setCell ⟨b, 3, none⟩ u3).setCell ⟨b, 4, none⟩ u4).setCell ⟨b, 5, none⟩ u5).setCell ⟨b, 6, none⟩ u6).setCell ⟨b, 7, none⟩ u7).setCell ⟨b, 8, none⟩ u8).setCell ⟨b, 9, none⟩ u9).setCell ⟨b, 10, none⟩ u10).setCell ⟨b, 11, none⟩ u11).setCell ⟨b, 12, none⟩ u12) b #[u0, u1, u2, u3, u4, u5, u6, u7, u8, u9, u10, u11, u12] T := by simpa using h11.set' 12 u12
  exact ⟨h12, grown_set (grown_set (grown_set (grown_set (grown_set (grown_set (grown_set (grown_set (grown_set (grown_set (grown_set (grown_set (grown_set (World.grownBy.refl w (some b)) 0 u0) 1 u1) 2 u2) 3 u3) 4 u4) 5 u5) 6 u6) 7 u7) 8 u8) 9 u9) 10 u10) 11 u11) 12 u12⟩
end Go.Proofs.YtbeaaieaffdgeaaGreatDoor
end
/- The document's reads. (Written by gen6b.py.) -/
section
namespace Go.Proofs.YtbeaaieaffdgeaaGreatDoor
open Go.RowKit
set_option linter.unusedVariables false
set_option linter.unusedSimpArgs false

theorem blkAt_fresh (w : World) (cs : Array Value) (T : TypeId) : BlkAt (w.alloc (.cells cs T)) w.heap.size cs T := heap_alloc_new w _
/-- The reader behind i numbers, and number j. -/
def stR (r : RdS) : Nat → RdS
  | 0 => r
  | i + 1 => (rdNm (stR r i)).2
def stV (r : RdS) (j : Nat) : Int := (rdNm (stR r j)).1
/-- The same, and block z, of the call's own, as it was laid. -/
def RZ (b : Nat) (w : World) (r : RdS) (x : Nat) (cs : Array Value) (z : Nat) (zs : Array Value) (T : TypeId) (W : World) : Prop :=
  RX b w r x cs T W ∧ w.heap.size ≤ z ∧ z ≠ x ∧ BlkAt W z zs T
theorem RZ.num {b : Nat} {w W : World} {r : RdS} {x z : Nat} {cs zs : Array Value} {T : TypeId} (h : RZ b w r x cs z zs T W) (hb : b < w.heap.size) :
    Calls Tryz.prog 32 #[.pointer (some ⟨b, 0, none⟩)] W fun e W' => e = .returned (.int .i64 (rdNm r).1) ∧ RZ b w (rdNm r).2 x cs z zs T W' :=
  (refNm_any b r W h.1.2.1 h.1.1).mono fun _ _ ⟨h1, h2, h3⟩ => ⟨h1, h.1.kept hb h.1.2.1.nm h2 h3, h.2.1, h.2.2.1, h.2.2.2.grown h3 (fun e => by have := h.2.1; have : b = z := Option.some.inj e; omega)⟩
theorem RZ.int {b : Nat} {w W : World} {r : RdS} {x z : Nat} {cs zs : Array Value} {T : TypeId} (h : RZ b w r x cs z zs T W) (hb : b < w.heap.size) :
    Calls Tryz.prog 58 #[.pointer (some ⟨b, 0, none⟩)] W fun e W' => e = .returned (.int .i64 (rdInt r).1) ∧ RZ b w (rdInt r).2 x cs z zs T W' :=
  (rint_any b r W h.1.2.1 h.1.1).mono fun _ _ ⟨h1, h2, h3⟩ => ⟨h1, h.1.kept hb h.1.2.1.num h2 h3, h.2.1, h.2.2.1, h.2.2.2.grown h3 (fun e => by have := h.2.1; have : b = z := Option.some.inj e; omega)⟩
theorem RZ.set {b : Nat} {w W : World} {r : RdS} {x z : Nat} {cs zs : Array Value} {T : TypeId} (h : RZ b w r x cs z zs T W) (hb : b < w.heap.size) (i : Nat) (v : Value) : RZ b w r x (cs.setIfInBounds i v) z zs T (W.setCell ⟨x, i, none⟩ v) :=
  ⟨h.1.set hb i v, h.2.1, h.2.2.1, h.2.2.2.far _ _ (fun e => h.2.2.1 e.symm)⟩
theorem RZ.grow {b : Nat} {w W W' : World} {r : RdS} {x z : Nat} {cs zs : Array Value} {T : TypeId} (h : RZ b w r x cs z zs T W) (hb : b < w.heap.size) (k : Below W.heap.size W W') : RZ b w r x cs z zs T W' :=
  ⟨h.1.grow hb k, h.2.1, h.2.2.1, h.2.2.2.next k⟩
theorem RZ.numg {b : Nat} {w W : World} {r : RdS} {x z : Nat} {cs zs : Array Value} {T : TypeId} (h : RZ b w r x cs z zs T W) (hb : b < w.heap.size) :
    Calls Tryz.prog 32 #[.pointer (some ⟨b, 0, none⟩)] W fun e W' => e = .returned (.int .i64 (rdNm r).1) ∧ RZ b w (rdNm r).2 x cs z zs T W' ∧ W.grownBy W' (some b) :=
  (refNm_any b r W h.1.2.1 h.1.1).mono fun _ _ ⟨h1, h2, h3⟩ => ⟨h1, ⟨h.1.kept hb h.1.2.1.nm h2 h3, h.2.1, h.2.2.1, h.2.2.2.grown h3 (fun e => by have := h.2.1; have : b = z := Option.some.inj e; omega)⟩, h3⟩
/-- A row of the call's own has grown. -/
theorem RZ.row {b : Nat} {w W W' : World} {r : RdS} {x z : Nat} {cs zs : Array Value} {T : TypeId} {row : Option Nat} (h : RZ b w r x cs z zs T W) (hb : b < w.heap.size) (hz : z < x) (g : W.grownBy W' row) (hr : ∀ k, row = some k → x < k) : RZ b w r x cs z zs T W' := by
  obtain ⟨⟨h1, h2, h3, h4, h5⟩, h6, h7, h8⟩ := h
  have hne : ∀ k, k ≤ x → row ≠ some k := fun k hk e => by have := hr k e; omega
  refine ⟨⟨(g.block b h1.lt (fun e => hne b (by omega) e.symm)).trans h1, h2, h3, h4.grown g (hne x (Nat.le_refl _)), ?_⟩, h6, h7, h8.grown g (hne z (by omega))⟩
  exact ⟨g.os.trans h5.os, g.tape.trans h5.tape, g.output.trans h5.output, Nat.le_trans h5.size g.size, fun k hk hkb => (g.block k (Nat.lt_of_lt_of_le hk h5.size) (fun e => hne k (by omega) e.symm)).trans (h5.block k hk hkb)⟩
theorem RZ.lt {b : Nat} {w W : World} {r : RdS} {x z : Nat} {cs zs : Array Value} {T : TypeId} (h : RZ b w r x cs z zs T W) : x < W.heap.size := h.1.2.2.2.1.lt
theorem BlkAt.plus {w : World} {b : Nat} {l : List Value} {cs : Array Value} {T : TypeId} (h : BlkAt w b cs T) (hl : cs = l.toArray) (j : Nat) (u : Value) (hj : l[j]? = some u) : w.cell? ((⟨b, 0, none⟩ : Addr).add j) = some u := by
  rw [add_plain, Nat.zero_add, h.cell j, hl]
  simpa using hj
theorem rep_step {α : Type} (f : RdS → α × RdS) (r : RdS) (k : Nat) (v : α) (q : RdS) (h : r.2 = false) (e : f r = (v, q)) : rdRep f (k + 1) r = (v :: (rdRep f k q).1, (rdRep f k q).2) := by simp [rdRep, h, e]
theorem rep_stop {α : Type} (f : RdS → α × RdS) (r : RdS) (k : Nat) (h : r.2 = true) : rdRep f k r = ([], r) := by cases k <;> simp [rdRep, h]
theorem intInfo : (Tryz.prog.info? 3).map (fun i => (i.zero, i.size, i.bytes)) = some (some (.int .i64 0), 1, 8) := by kernel_rfl
theorem BlkAt.cells13 {w : World} {b : Nat} {T : TypeId} {v0 v1 v2 v3 v4 v5 v6 v7 v8 v9 v10 v11 v12 : Value} (h : BlkAt w b #[v0, v1, v2, v3, v4, v5, v6, v7, v8, v9, v10, v11, v12] T) :
    w.cell? ⟨b, 0, none⟩ = some v0 ∧ w.cell? ⟨b, 1, none⟩ = some v1 ∧ w.cell? ⟨b, 2, none⟩ = some v2 ∧ w.cell? ⟨b, 3, none⟩ = some v3 ∧ w.cell? ⟨b, 4, none⟩ = some v4 ∧ w.cell? ⟨b, 5, none⟩ = some v5 ∧ w.cell? ⟨b, 6, none⟩ = some v6 ∧
    w.cell? ⟨b, 7, none⟩ = some v7 ∧ w.cell? ⟨b, 8, none⟩ = some v8 ∧ w.cell? ⟨b, 9, none⟩ = some v9 ∧ w.cell? ⟨b, 10, none⟩ = some v10 ∧ w.cell? ⟨b, 11, none⟩ = some v11 ∧ w.cell? ⟨b, 12, none⟩ = some v12 :=
  ⟨h.cell 0, h.cell 1, h.cell 2, h.cell 3, h.cell 4, h.cell 5, h.cell 6, h.cell 7, h.cell 8, h.cell 9, h.cell 10, h.cell 11, h.cell 12⟩
theorem BlkAt.free13 {w : World} {b : Nat} {T : TypeId} {cs : Array Value} (h : BlkAt w b cs T) :
    w.frozen? ⟨b, 0, none⟩ = false ∧ w.frozen? ⟨b, 1, none⟩ = false ∧ w.frozen? ⟨b, 2, none⟩ = false ∧ w.frozen? ⟨b, 3, none⟩ = false ∧ w.frozen? ⟨b, 4, none⟩ = false ∧ w.frozen? ⟨b, 5, none⟩ = false ∧ w.frozen? ⟨b, 6, none⟩ = false ∧
    w.frozen? ⟨b, 7, none⟩ = false ∧ w.frozen? ⟨b, 8, none⟩ = false ∧ w.frozen? ⟨b, 9, none⟩ = false ∧ w.frozen? ⟨b, 10, none⟩ = false ∧ w.frozen? ⟨b, 11, none⟩ = false ∧ w.frozen? ⟨b, 12, none⟩ = false :=
  ⟨h.free 0, h.free 1, h.free 2, h.free 3, h.free 4, h.free 5, h.free 6, h.free 7, h.free 8, h.free 9, h.free 10, h.free 11, h.free 12⟩
theorem insInfo : (Tryz.prog.info? 82).map (fun i => (i.zero, i.size, i.bytes)) = some (some (.agg #[.int .i64 0, .int .i64 0, .int .i64 0]), 3, 24) := by kernel_rfl
theorem RZ.cell {b : Nat} {w W : World} {r : RdS} {x z : Nat} {cs zs : Array Value} {T : TypeId} (h : RZ b w r x cs z zs T W) (i : Nat) : W.cell? ⟨x, i, none⟩ = cs[i]? := h.1.2.2.2.1.cell i
theorem RZ.free {b : Nat} {w W : World} {r : RdS} {x z : Nat} {cs zs : Array Value} {T : TypeId} (h : RZ b w r x cs z zs T W) (i : Nat) : W.frozen? ⟨x, i, none⟩ = false := h.1.2.2.2.1.free i
set_option maxRecDepth 100000 in
set_option maxHeartbeats 8000000 in
theorem refReads_any (b : Nat) (r : RdS) (w : World) (hr : RdOk r) (h : RdT 68 b r.1 r.2 w) :
    Calls Tryz.prog 35 #[.pointer (some ⟨b, 0, none⟩)] w fun e w' => ∃ x : Ab, e = .returned (.agg #[.int .i64 x.k, .int .i64 x.ev, .int .i64 x.wh, .int .i64 x.c0, .int .i64 x.c1, .int .i64 x.c2, .int .i64 x.c3, .bool x.tap, .slice x.ta x.tn x.tc, .slice x.ca x.cn x.cc, .int .i64 x.op, .int .i64 x.a, .int .i64 x.b]) ∧ bareA (x, (rdAb r).1.2.1, (rdAb r).1.2.2) = (rdAb r).1 ∧
      Kd [3, 82] b (fun W => AbR W x (rdAb r).1.2.1 (rdAb r).1.2.2) w' ∧ RdT 68 b (rdAb r).2.1 (rdAb r).2.2 w' ∧ w.grownBy w' (some b) := by
  have HB := Lib.hid h.lt
  have HO := Lib.hid hr
  have H0 := Lib.hid (h.alloc (.cells #[.int .i64 0, .int .i64 0, .int .i64 0, .int .i64 0, .int .i64 0, .int .i64 0, .int .i64 0, .bool false, .slice none 0 0, .slice none 0 0, .int .i64 0, .int .i64 0, .int .i64 0] 42))
  have HZ := Lib.hid (blkAt_fresh w #[.int .i64 0, .int .i64 0, .int .i64 0, .int .i64 0, .int .i64 0, .int .i64 0, .int .i64 0, .bool false, .slice none 0 0, .slice none 0 0, .int .i64 0, .int .i64 0, .int .i64 0] 42)
  have HG := Lib.hid (grown_new (World.grownBy.refl w (some b)) (.cells #[.int .i64 0, .int .i64 0, .int .i64 0, .int .i64 0, .int .i64 0, .int .i64 0, .int .i64 0, .bool false, .slice none 0 0, .slice none 0 0, .int .i64 0, .int .i64 0, .int .i64 0] 42))
  clear h hr
  go_enter Tryz.func35, Tryz.ntmps35
  go_wp2_with fail
  refine (refNm_any b r _ HO.out H0.out).mono ?_
  rintro e w1 ⟨rfl, h1, g1⟩
  obtain ⟨v1, hv⟩ : ∃ v, (rdNm r).1 = v := ⟨_, rfl⟩
  obtain ⟨r1, hr⟩ : ∃ r', (rdNm r).2 = r' := ⟨_, rfl⟩
  have EQ1 := Lib.hid (show rdNm r = (v1, r1) from Prod.ext hv hr)
  have ho1 : RdOk r1 := by rw [← hr]; exact HO.out.nm
  rw [hr] at h1
  rw [hv]
  have HX1 := Lib.hid (show RZ b w r1 w1.heap.size #[.int .i64 v1, .int .i64 0, .int .i64 0, .int .i64 0, .int .i64 0, .int .i64 0, .int .i64 0, .bool false, .slice none 0 0, .slice none 0 0, .int .i64 0, .int .i64 0, .int .i64 0] w.heap.size #[.int .i64 0, .int .i64 0, .int .i64 0, .int .i64 0, .int .i64 0, .int .i64 0, .int .i64 0, .bool false, .slice none 0 0, .slice none 0 0, .int .i64 0, .int .i64 0, .int .i64 0] 42 (w1.alloc (.cells #[.int .i64 v1, .int .i64 0, .int .i64 0, .int .i64 0, .int .i64 0, .int .i64 0, .int .i64 0, .bool false, .slice none 0 0, .slice none 0 0, .int .i64 0, .int .i64 0, .int .i64 0] 42)) from
    ⟨⟨h1.alloc _, ho1, Nat.le_trans (by simp) g1.size, blkAt_fresh _ _ _, grown_new (grown_then HG.out g1) _⟩, Nat.le_refl _, by have := g1.size; simp at this; omega, (HZ.out.grown g1 (fun e => by have := HB.out; have : b = w.heap.size := Option.some.inj e; omega)).next (below_alloc1 _ _)⟩)
  clear h1 g1 ho1 hv hr H0 HZ HG
  go_wp2_with fail
  generalize w1.alloc (.cells #[.int .i64 v1, .int .i64 0, .int .i64 0, .int .i64 0, .int .i64 0, .int .i64 0, .int .i64 0, .bool false, .slice none 0 0, .slice none 0 0, .int .i64 0, .int .i64 0, .int .i64 0] 42) = W1 at *
  generalize w1.heap.size = xb at *
  refine (HX1.out.num HB.out).mono ?_
  rintro e w2 ⟨rfl, hx⟩
  obtain ⟨v2, hv⟩ : ∃ v, (rdNm r1).1 = v := ⟨_, rfl⟩
  obtain ⟨r2, hr⟩ : ∃ r', (rdNm r1).2 = r' := ⟨_, rfl⟩
  have EQ2 := Lib.hid (show rdNm r1 = (v2, r2) from Prod.ext hv hr)
  rw [hr] at hx
  rw [hv]
  have HX := Lib.hid hx
  clear HX1 hv hr
  have c := hx.cell 1
  have f := hx.free 1
  simp at c
  clear hx
  go_wp2_with fail
  clear c f
  have HX2 := Lib.hid (show RZ b w r2 xb #[.int .i64 v1, .int .i64 v2, .int .i64 0, .int .i64 0, .int .i64 0, .int .i64 0, .int .i64 0, .bool false, .slice none 0 0, .slice none 0 0, .int .i64 0, .int .i64 0, .int .i64 0] w.heap.size #[.int .i64 0, .int .i64 0, .int .i64 0, .int .i64 0, .int .i64 0, .int .i64 0, .int .i64 0, .bool false, .slice none 0 0, .slice none 0 0, .int .i64 0, .int .i64 0, .int .i64 0] 42 (w2.setCell ⟨xb, 1, none⟩ (.int .i64 v2)) by simpa using HX.out.set HB.out 1 (.int .i64 v2))
  clear HX
  generalize w2.setCell ⟨xb, 1, none⟩ (.int .i64 v2) = W2 at *
  refine (HX2.out.num HB.out).mono ?_
  rintro e w3 ⟨rfl, hx⟩
  obtain ⟨v3, hv⟩ : ∃ v, (rdNm r2).1 = v := ⟨_, rfl⟩
  obtain ⟨r3, hr⟩ : ∃ r', (rdNm r2).2 = r' := ⟨_, rfl⟩
  have EQ3 := Lib.hid (show rdNm r2 = (v3, r3) from Prod.ext hv hr)
  rw [hr] at hx
  rw [hv]
  have HX := Lib.hid hx
  clear HX2 hv hr
  have c := hx.cell 2
  have f := hx.free 2
  simp at c
  clear hx
  go_wp2_with fail
  clear c f
  have HX3 := Lib.hid (show RZ b w r3 xb #[.int .i64 v1, .int .i64 v2, .int .i64 v3, .int .i64 0, .int .i64 0, .int .i64 0, .int .i64 0, .bool false, .slice none 0 0, .slice none 0 0, .int .i64 0, .int .i64 0, .int .i64 0] w.heap.size #[.int .i64 0, .int .i64 0, .int .i64 0, .int .i64 0, .int .i64 0, .int .i64 0, .int .i64 0, .bool false, .slice none 0 0, .slice none 0 0, .int .i64 0, .int .i64 0, .int .i64 0] 42 (w3.setCell ⟨xb, 2, none⟩ (.int .i64 v3)) by simpa using HX.out.set HB.out 2 (.int .i64 v3))
  clear HX
  generalize w3.setCell ⟨xb, 2, none⟩ (.int .i64 v3) = W3 at *
  go_loopw [4] (fun q wr => ∃ i : Nat, q = .int .i64 (i : Int) ∧ i ≤ 4 ∧ RZ b w (stR r3 i) xb #[.int .i64 v1, .int .i64 v2, .int .i64 v3, .int .i64 (if 0 < i then stV r3 0 else 0), .int .i64 (if 1 < i then stV r3 1 else 0), .int .i64 (if 2 < i then stV r3 2 else 0), .int .i64 (if 3 < i then stV r3 3 else 0), .bool false, .slice none 0 0, .slice none 0 0, .int .i64 0, .int .i64 0, .int .i64 0] w.heap.size #[.int .i64 0, .int .i64 0, .int .i64 0, .int .i64 0, .int .i64 0, .int .i64 0, .int .i64 0, .bool false, .slice none 0 0, .slice none 0 0, .int .i64 0, .int .i64 0, .int .i64 0] 42 wr) (fun q _ => 4 - (intOf q).toNat)
  case atStart => exact ⟨0, rfl, by omega, by simpa [stR] using HX3.out⟩
  case round =>
    obtain ⟨i, rfl, hi, hx⟩ := hrel
    clear HX3
    by_cases hlt : i < 4
    · obtain rfl | rfl | rfl | rfl : i = 0 ∨ i = 1 ∨ i = 2 ∨ i = 3 := by omega
      · have HX := Lib.hid (show RZ b w (stR r3 0) xb #[.int .i64 v1, .int .i64 v2, .int .i64 v3, .int .i64 0, .int .i64 0, .int .i64 0, .int .i64 0, .bool false, .slice none 0 0, .slice none 0 0, .int .i64 0, .int .i64 0, .int .i64 0] w.heap.size #[.int .i64 0, .int .i64 0, .int .i64 0, .int .i64 0, .int .i64 0, .int .i64 0, .int .i64 0, .bool false, .slice none 0 0, .slice none 0 0, .int .i64 0, .int .i64 0, .int .i64 0] 42 wr by simpa using hx)
        clear hx
        go_wp2_with fail
        refine (HX.out.num HB.out).mono ?_
        rintro e w4 ⟨rfl, hx⟩
        rw [show (rdNm (stR r3 0)).1 = stV r3 0 from rfl]
        have HX4 := Lib.hid (show RZ b w (stR r3 1) xb #[.int .i64 v1, .int .i64 v2, .int .i64 v3, .int .i64 0, .int .i64 0, .int .i64 0, .int .i64 0, .bool false, .slice none 0 0, .slice none 0 0, .int .i64 0, .int .i64 0, .int .i64 0] w.heap.size #[.int .i64 0, .int .i64 0, .int .i64 0, .int .i64 0, .int .i64 0, .int .i64 0, .int .i64 0, .bool false, .slice none 0 0, .slice none 0 0, .int .i64 0, .int .i64 0, .int .i64 0] 42 w4 from hx)
        have c := hx.cell 3
        have f := hx.free 3
        simp at c
        clear hx HX
        obtain ⟨vq, hvq⟩ : ∃ v, stV r3 0 = v := ⟨_, rfl⟩
        rw [hvq]
        have HVq := Lib.hid hvq
        clear hvq
        go_wp2_with fail
        have HX5 := Lib.hid (show RZ b w (stR r3 1) xb #[.int .i64 v1, .int .i64 v2, .int .i64 v3, .int .i64 vq, .int .i64 0, .int .i64 0, .int .i64 0, .bool false, .slice none 0 0, .slice none 0 0, .int .i64 0, .int .i64 0, .int .i64 0] w.heap.size #[.int .i64 0, .int .i64 0, .int .i64 0, .int .i64 0, .int .i64 0, .int .i64 0, .int .i64 0, .bool false, .slice none 0 0, .slice none 0 0, .int .i64 0, .int .i64 0, .int .i64 0] 42 (w4.setCell ⟨xb, 3, none⟩ (.int .i64 vq)) by simpa using HX4.out.set HB.out 3 (.int .i64 vq))
        exact ⟨⟨1, rfl, by omega, by have h := HX5.out; simp only [HVq.out]; simpa using h⟩, by simp [intOf]⟩
      · have HX := Lib.hid (show RZ b w (stR r3 1) xb #[.int .i64 v1, .int .i64 v2, .int .i64 v3, .int .i64 (stV r3 0), .int .i64 0, .int .i64 0, .int .i64 0, .bool false, .slice none 0 0, .slice none 0 0, .int .i64 0, .int .i64 0, .int .i64 0] w.heap.size #[.int .i64 0, .int .i64 0, .int .i64 0, .int .i64 0, .int .i64 0, .int .i64 0, .int .i64 0, .bool false, .slice none 0 0, .slice none 0 0, .int .i64 0, .int .i64 0, .int .i64 0] 42 wr by simpa using hx)
        clear hx
        go_wp2_with fail
        refine (HX.out.num HB.out).mono ?_
        rintro e w4 ⟨rfl, hx⟩
        rw [show (rdNm (stR r3 1)).1 = stV r3 1 from rfl]
        have HX4 := Lib.hid (show RZ b w (stR r3 2) xb #[.int .i64 v1, .int .i64 v2, .int .i64 v3, .int .i64 (stV r3 0), .int .i64 0, .int .i64 0, .int .i64 0, .bool false, .slice none 0 0, .slice none 0 0, .int .i64 0, .int .i64 0, .int .i64 0] w.heap.size #[.int .i64 0, .int .i64 0, .int .i64 0, .int .i64 0, .int .i64 0, .int .i64 0, .int .i64 0, .bool false, .slice none 0 0, .slice none 0 0, .int .i64 0, .int .i64 0, .int .i64 0] 42 w4 from hx)
        have c := hx.cell 4
        have f := hx.free 4
        simp at c
        clear hx HX
        obtain ⟨vq, hvq⟩ : ∃ v, stV r3 1 = v := ⟨_, rfl⟩
        rw [hvq]
        have HVq := Lib.hid hvq
        clear hvq
        go_wp2_with fail
        have HX5 := Lib.hid (show RZ b w (stR r3 2) xb #[.int .i64 v1, .int .i64 v2, .int .i64 v3, .int .i64 (stV r3 0), .int .i64 vq, .int .i64 0, .int .i64 0, .bool false, .slice none 0 0, .slice none 0 0, .int .i64 0, .int .i64 0, .int .i64 0] w.heap.size #[.int .i64 0, .int .i64 0, .int .i64 0, .int .i64 0, .int .i64 0, .int .i64 0, .int .i64 0, .bool false, .slice none 0 0, .slice none 0 0, .int .i64 0, .int .i64 0, .int .i64 0] 42 (w4.setCell ⟨xb, 4, none⟩ (.int .i64 vq)) by simpa using HX4.out.set HB.out 4 (.int .i64 vq))
        exact ⟨⟨2, rfl, by omega, by have h := HX5.out; simp only [HVq.out]; simpa using h⟩, by simp [intOf]⟩
      · have HX := Lib.hid (show RZ b w (stR r3 2) xb #[.int .i64 v1, .int .i64 v2, .int .i64 v3, .int .i64 (stV r3 0), .int .i64 (stV r3 1), .int .i64 0, .int .i64 0, .bool false, .slice none 0 0, .slice none 0 0, .int .i64 0, .int .i64 0, .int .i64 0] w.heap.size #[.int .i64 0, .int .i64 0, .int .i64 0, .int .i64 0, .int .i64 0, .int .i64 0, .int .i64 0, .bool false, .slice none 0 0, .slice none 0 0, .int .i64 0, .int .i64 0, .int .i64 0] 42 wr by simpa using hx)
        clear hx
        go_wp2_with fail
        refine (HX.out.num HB.out).mono ?_
        rintro e w4 ⟨rfl, hx⟩
        rw [show (rdNm (stR r3 2)).1 = stV r3 2 from rfl]
        have HX4 := Lib.hid (show RZ b w (stR r3 3) xb #[.int .i64 v1, .int .i64 v2, .int .i64 v3, .int .i64 (stV r3 0), .int .i64 (stV r3 1), .int .i64 0, .int .i64 0, .bool false, .slice none 0 0, .slice none 0 0, .int .i64 0, .int .i64 0, .int .i64 0] w.heap.size #[.int .i64 0, .int .i64 0, .int .i64 0, .int .i64 0, .int .i64 0, .int .i64 0, .int .i64 0, .bool false, .slice none 0 0, .slice none 0 0, .int .i64 0, .int .i64 0, .int .i64 0] 42 w4 from hx)
        have c := hx.cell 5
        have f := hx.free 5
        simp at c
        clear hx HX
        obtain ⟨vq, hvq⟩ : ∃ v, stV r3 2 = v := ⟨_, rfl⟩
        rw [hvq]
        have HVq := Lib.hid hvq
        clear hvq
        go_wp2_with fail
        have HX5 := Lib.hid (show RZ b w (stR r3 3) xb #[.int .i64 v1, .int .i64 v2, .int .i64 v3, .int .i64 (stV r3 0), .int .i64 (stV r3 1), .int .i64 vq, .int .i64 0, .bool false, .slice none 0 0, .slice none 0 0, .int .i64 0, .int .i64 0, .int .i64 0] w.heap.size #[.int .i64 0, .int .i64 0, .int .i64 0, .int .i64 0, .int .i64 0, .int .i64 0, .int .i64 0, .bool false, .slice none 0 0, .slice none 0 0, .int .i64 0, .int .i64 0, .int .i64 0] 42 (w4.setCell ⟨xb, 5, none⟩ (.int .i64 vq)) by simpa using HX4.out.set HB.out 5 (.int .i64 vq))
        exact ⟨⟨3, rfl, by omega, by have h := HX5.out; simp only [HVq.out]; simpa using h⟩, by simp [intOf]⟩
      · have HX := Lib.hid (show RZ b w (stR r3 3) xb #[.int .i64 v1, .int .i64 v2, .int .i64 v3, .int .i64 (stV r3 0), .int .i64 (stV r3 1), .int .i64 (stV r3 2), .int .i64 0, .bool false, .slice none 0 0, .slice none 0 0, .int .i64 0, .int .i64 0, .int .i64 0] w.heap.size #[.int .i64 0, .int .i64 0, .int .i64 0, .int .i64 0, .int .i64 0, .int .i64 0, .int .i64 0, .bool false, .slice none 0 0, .slice none 0 0, .int .i64 0, .int .i64 0, .int .i64 0] 42 wr by simpa using hx)
        clear hx
        go_wp2_with fail
        refine (HX.out.num HB.out).mono ?_
        rintro e w4 ⟨rfl, hx⟩
        rw [show (rdNm (stR r3 3)).1 = stV r3 3 from rfl]
        have HX4 := Lib.hid (show RZ b w (stR r3 4) xb #[.int .i64 v1, .int .i64 v2, .int .i64 v3, .int .i64 (stV r3 0), .int .i64 (stV r3 1), .int .i64 (stV r3 2), .int .i64 0, .bool false, .slice none 0 0, .slice none 0 0, .int .i64 0, .int .i64 0, .int .i64 0] w.heap.size #[.int .i64 0, .int .i64 0, .int .i64 0, .int .i64 0, .int .i64 0, .int .i64 0, .int .i64 0, .bool false, .slice none 0 0, .slice none 0 0, .int .i64 0, .int .i64 0, .int .i64 0] 42 w4 from hx)
        have c := hx.cell 6
        have f := hx.free 6
        simp at c
        clear hx HX
        obtain ⟨vq, hvq⟩ : ∃ v, stV r3 3 = v := ⟨_, rfl⟩
        rw [hvq]
        have HVq := Lib.hid hvq
        clear hvq
        go_wp2_with fail
        have HX5 := Lib.hid (show RZ b w (stR r3 4) xb #[.int .i64 v1, .int .i64 v2, .int .i64 v3, .int .i64 (stV r3 0), .int .i64 (stV r3 1), .int .i64 (stV r3 2), .int .i64 vq, .bool false, .slice none 0 0, .slice none 0 0, .int .i64 0, .int .i64 0, .int .i64 0] w.heap.size #[.int .i64 0, .int .i64 0, .int .i64 0, .int .i64 0, .int .i64 0, .int .i64 0, .int .i64 0, .bool false, .slice none 0 0, .slice none 0 0, .int .i64 0, .int .i64 0, .int .i64 0] 42 (w4.setCell ⟨xb, 6, none⟩ (.int .i64 vq)) by simpa using HX4.out.set HB.out 6 (.int .i64 vq))
        exact ⟨⟨4, rfl, by omega, by have h := HX5.out; simp only [HVq.out]; simpa using h⟩, by simp [intOf]⟩
    · obtain rfl : i = 4 := by omega
      have HX := Lib.hid (show RZ b w (stR r3 4) xb #[.int .i64 v1, .int .i64 v2, .int .i64 v3, .int .i64 (stV r3 0), .int .i64 (stV r3 1), .int .i64 (stV r3 2), .int .i64 (stV r3 3), .bool false, .slice none 0 0, .slice none 0 0, .int .i64 0, .int .i64 0, .int .i64 0] w.heap.size #[.int .i64 0, .int .i64 0, .int .i64 0, .int .i64 0, .int .i64 0, .int .i64 0, .int .i64 0, .bool false, .slice none 0 0, .slice none 0 0, .int .i64 0, .int .i64 0, .int .i64 0] 42 wr by simpa using hx)
      clear hx hlt hi
      obtain ⟨r7, hr7⟩ : ∃ r', stR r3 4 = r' := ⟨_, rfl⟩
      obtain ⟨c0, hc0⟩ : ∃ v, stV r3 0 = v := ⟨_, rfl⟩
      obtain ⟨c1, hc1⟩ : ∃ v, stV r3 1 = v := ⟨_, rfl⟩
      obtain ⟨c2, hc2⟩ : ∃ v, stV r3 2 = v := ⟨_, rfl⟩
      obtain ⟨c3, hc3⟩ : ∃ v, stV r3 3 = v := ⟨_, rfl⟩
      rw [hr7, hc0, hc1, hc2, hc3] at HX
      have HC := Lib.hid (⟨hr7, hc0, hc1, hc2, hc3⟩ : stR r3 4 = r7 ∧ stV r3 0 = c0 ∧ stV r3 1 = c1 ∧ stV r3 2 = c2 ∧ stV r3 3 = c3)
      clear hr7 hc0 hc1 hc2 hc3
      go_wp2_with fail
      refine (HX.out.num HB.out).mono ?_
      rintro e w8 ⟨rfl, hx⟩
      obtain ⟨v8, hv⟩ : ∃ v, (rdNm r7).1 = v := ⟨_, rfl⟩
      obtain ⟨r8, hr⟩ : ∃ r', (rdNm r7).2 = r' := ⟨_, rfl⟩
      have EQ8 := Lib.hid (show rdNm r7 = (v8, r8) from Prod.ext hv hr)
      rw [hr] at hx
      rw [hv]
      have HX := Lib.hid hx
      clear hv hr
      have c := hx.cell 7
      have f := hx.free 7
      simp at c
      clear hx
      go_wp2_with fail
      clear c f
      have HX8 := Lib.hid (show RZ b w r8 xb #[.int .i64 v1, .int .i64 v2, .int .i64 v3, .int .i64 c0, .int .i64 c1, .int .i64 c2, .int .i64 c3, .bool (v8 == 1), .slice none 0 0, .slice none 0 0, .int .i64 0, .int .i64 0, .int .i64 0] w.heap.size #[.int .i64 0, .int .i64 0, .int .i64 0, .int .i64 0, .int .i64 0, .int .i64 0, .int .i64 0, .bool false, .slice none 0 0, .slice none 0 0, .int .i64 0, .int .i64 0, .int .i64 0] 42 (w8.setCell ⟨xb, 7, none⟩ (.bool (v8 == 1))) by simpa using HX.out.set HB.out 7 (.bool (v8 == 1)))
      clear HX
      generalize w8.setCell ⟨xb, 7, none⟩ (.bool (v8 == 1)) = W8 at *
      refine (HX8.out.num HB.out).mono ?_
      rintro e w9 ⟨rfl, hx⟩
      obtain ⟨v9, hv⟩ : ∃ v, (rdNm r8).1 = v := ⟨_, rfl⟩
      obtain ⟨r9, hr⟩ : ∃ r', (rdNm r8).2 = r' := ⟨_, rfl⟩
      have EQ9 := Lib.hid (show rdNm r8 = (v9, r9) from Prod.ext hv hr)
      rw [hr] at hx
      rw [hv]
      have HX := Lib.hid hx
      clear HX8 hv hr
      clear hx
      obtain ⟨n9, rfl⟩ : ∃ n9 : Nat, v9 = (n9 : Int) := ⟨v9.toNat, by have h := congrArg Prod.fst EQ9.out; have h2 : (0 : Int) ≤ (rdNm r8).1 := Int.natCast_nonneg _; rw [h] at h2; show v9 = _; have h3 : 0 ≤ v9 := h2; omega⟩
      obtain ⟨K, hK⟩ : ∃ K, min n9 10 = K := ⟨_, rfl⟩
      obtain ⟨T, hT⟩ : ∃ T, (rdRep rdNm K r9).1 = T := ⟨_, rfl⟩
      obtain ⟨rT, hrT⟩ : ∃ rT, (rdRep rdNm K r9).2 = rT := ⟨_, rfl⟩
      have HK := Lib.hid hK
      have HTr := Lib.hid (⟨hT, hrT⟩ : (rdRep rdNm K r9).1 = T ∧ (rdRep rdNm K r9).2 = rT)
      clear hK hT hrT
      go_upto_region 10 with fail
      go_cut [6] from 33 to 52 (fun q wr => q = .int .i64 0 ∧ wr = w9)
      case first =>
        go_wp2_with fail
        go_meet
        exact ⟨rfl, rfl⟩
      case rest =>
        obtain ⟨rfl, rfl⟩ := hcut
        rename_i KK hKK
        refine hKK _ _ ?_
        go_cut [6] from 33 to 52 (fun q wr => ∃ sv, RZ b w rT xb #[.int .i64 v1, .int .i64 v2, .int .i64 v3, .int .i64 c0, .int .i64 c1, .int .i64 c2, .int .i64 c3, .bool (v8 == 1), sv, .slice none 0 0, .int .i64 0, .int .i64 0, .int .i64 0] w.heap.size #[.int .i64 0, .int .i64 0, .int .i64 0, .int .i64 0, .int .i64 0, .int .i64 0, .int .i64 0, .bool false, .slice none 0 0, .slice none 0 0, .int .i64 0, .int .i64 0, .int .i64 0] 42 wr ∧ wr.ownsRow (xb + 1) 3 1 sv T.length (T.map (Value.int .i64)))
        case first =>
          go_wp2_with fail
          go_loopw [6] (fun q wr => ∃ (i : Nat) (Ti : List Int) (ri : RdS) (sv : Value), q = .int .i64 (i : Int) ∧ Ti.length = i ∧ i ≤ K ∧ (Ti ++ (rdRep rdNm (K - i) ri).1 = T ∧ (rdRep rdNm (K - i) ri).2 = rT) ∧ RZ b w ri xb #[.int .i64 v1, .int .i64 v2, .int .i64 v3, .int .i64 c0, .int .i64 c1, .int .i64 c2, .int .i64 c3, .bool (v8 == 1), sv, .slice none 0 0, .int .i64 0, .int .i64 0, .int .i64 0] w.heap.size #[.int .i64 0, .int .i64 0, .int .i64 0, .int .i64 0, .int .i64 0, .int .i64 0, .int .i64 0, .bool false, .slice none 0 0, .slice none 0 0, .int .i64 0, .int .i64 0, .int .i64 0] 42 wr ∧ wr.ownsRow (xb + 1) 3 1 sv i (Ti.map (Value.int .i64))) (fun q _ => 10 - (intOf q).toNat)
          case atStart => exact ⟨0, [], r9, .slice none 0 0, rfl, rfl, Nat.zero_le _, ⟨by simpa using HTr.out.1, by simpa using HTr.out.2⟩, HX.out, World.ownsRow_nil _ _ _ _⟩
          case round =>
            obtain ⟨i, Ti, ri, sv, rfl, hl, hiK, hre, hx, hown⟩ := hrel
            have HXr := Lib.hid hx
            have HOw := Lib.hid hown
            have HRe := Lib.hid hre
            have HLi := Lib.hid hl
            clear hx hown hre hl HX
            by_cases hlt : i < K
            · have h1 : i < n9 := by have := HK.out; omega
              have h2 : i < 10 := by have := HK.out; omega
              have HOk := Lib.hid (HXr.out.1.ok)
              rcases hst : ri.2 with _ | _
              · rw [hst] at HOk
                go_wp2_with fail
                refine HOk.out.mono ?_
                rintro e w' ⟨rfl, rfl⟩
                go_wp2_with fail
                have HXd := Lib.hid (HXr.out.grow HB.out (Below.refl wr.heap.size wr).drew)
                have HOd := Lib.hid (show (wr.drew).ownsRow (xb + 1) 3 1 sv i (Ti.map (Value.int .i64)) from HOw.out.drew)
                have HSz := Lib.hid HXr.out.lt
                have c8 := HXr.out.cell 8
                have f8 := HXr.out.free 8
                simp at c8
                obtain ⟨vq, hvq⟩ : ∃ v, (rdNm ri).1 = v := ⟨_, rfl⟩
                obtain ⟨rq, hrq⟩ : ∃ r', (rdNm ri).2 = r' := ⟨_, rfl⟩
                have EQq := Lib.hid (show rdNm ri = (vq, rq) from Prod.ext hvq hrq)
                have HCn := Lib.hid (HXd.out.numg HB.out)
                rw [hvq, hrq] at HCn
                clear hvq hrq
                obtain ⟨i0, hi0, hz0, hz1, hz2⟩ := info_parts intInfo
                go_region_law (first
                  | (refine step_append_lies _ (by rfl) _ _ _ (by rfl) (xb + 1) 3 i0 (.int .i64 0) 1 8 Tryz.underlying39 hi0 hz0 hz1 hz2 rfl (by omega) sv i (Ti.map (Value.int .i64)) (by rfl) HO5.out ⟨w5.heap.size, 0, none⟩ 1 1 [.int .i64 vq] (by rfl) (by rfl) HN5.out (fun u hu => by rw [List.mem_singleton.1 hu]; rfl) (by omega) (by unfold maxLen; omega) (by omega) HS5.out _ (by rfl) ?_; intro g2 gc2 w7 hown2 hgrow2 hat hlt2; have HX7 := Lib.hid (HX6.out.row HB.out (by have := HXd.out.2.1; have := HXd.out.1.2.2.1; have := HXd.out.2.2.1; omega) hgrow2 (fun k e => by have := (HO5.out.lt k e).1; omega)); have x8 := HX7.out.cell 8; have y8 := HX7.out.free 8; simp at x8; have HO7 := Lib.hid hown2; clear hat hlt2 hown2 hgrow2)
                  | (go_simp; go_at_call 32; refine HCn.out.mono ?_; rintro e w5 ⟨rfl, hx5, g5⟩; have HX5 := Lib.hid hx5; have HX6 := Lib.hid (hx5.grow HB.out (below_alloc1 w5 (.cells #[.int .i64 vq] 3))); have HO5 := Lib.hid ((own_kept HOd.out g5 (by have := HB.out; have := HXd.out.1.2.2.1; omega)).alloc (.cells #[.int .i64 vq] 3)); have HN5 := Lib.hid ((blkAt_fresh w5 #[.int .i64 vq] 3).plus (l := [.int .i64 vq]) rfl); have HS5 := Lib.hid (show xb + 1 ≤ (w5.alloc (.cells #[.int .i64 vq] 3)).heap.size by have := hx5.lt; simp; omega); have c5 := hx5.cell 8; simp at c5; have z5 := hx5.lt; clear hx5 g5))
                all_goals
                  have HXn := Lib.hid (show RZ b w rq xb #[.int .i64 v1, .int .i64 v2, .int .i64 v3, .int .i64 c0, .int .i64 c1, .int .i64 c2, .int .i64 c3, .bool (v8 == 1), .slice (some ⟨g2, 0, none⟩) (i + 1) gc2, .slice none 0 0, .int .i64 0, .int .i64 0, .int .i64 0] w.heap.size #[.int .i64 0, .int .i64 0, .int .i64 0, .int .i64 0, .int .i64 0, .int .i64 0, .int .i64 0, .bool false, .slice none 0 0, .slice none 0 0, .int .i64 0, .int .i64 0, .int .i64 0] 42 (w7.setCell ⟨xb, 8, none⟩ (.slice (some ⟨g2, 0, none⟩) (i + 1) gc2)) by simpa using HX7.out.set HB.out 8 (.slice (some ⟨g2, 0, none⟩) (i + 1) gc2))
                  have HOn := Lib.hid (show (w7.setCell ⟨xb, 8, none⟩ (.slice (some ⟨g2, 0, none⟩) (i + 1) gc2)).ownsRow (xb + 1) 3 1 (.slice (some ⟨g2, 0, none⟩) (i + 1) gc2) (i + 1) ((Ti ++ [vq]).map (Value.int .i64)) by rw [List.map_append]; exact ownsRow_setCell_below HO7.out (a := ⟨xb, 8, none⟩) (by show xb < xb + 1; omega) _)
                  have HRn := Lib.hid (show (Ti ++ [vq]) ++ (rdRep rdNm (K - (i + 1)) rq).1 = T ∧ (rdRep rdNm (K - (i + 1)) rq).2 = rT by
                    have h := HRe.out
                    rw [show K - i = (K - (i + 1)) + 1 by omega, rep_step rdNm ri _ vq rq hst EQq.out] at h
                    simpa using h)
                  go_wp2_with fail
                  go_roundw
                  case rel => exact ⟨i + 1, Ti ++ [vq], rq, _, by go_num, by have := HLi.out; simp; omega, by omega, HRn.out, HXn.out, HOn.out⟩
                  case measure => simp [intOf]; omega
              · obtain ⟨hTi, hri⟩ : Ti = T ∧ ri = rT := by
                  have h := HRe.out
                  rw [rep_stop rdNm ri _ hst] at h
                  exact ⟨by simpa using h.1, h.2⟩
                have HEn := Lib.hid (show RZ b w rT xb #[.int .i64 v1, .int .i64 v2, .int .i64 v3, .int .i64 c0, .int .i64 c1, .int .i64 c2, .int .i64 c3, .bool (v8 == 1), sv, .slice none 0 0, .int .i64 0, .int .i64 0, .int .i64 0] w.heap.size #[.int .i64 0, .int .i64 0, .int .i64 0, .int .i64 0, .int .i64 0, .int .i64 0, .int .i64 0, .bool false, .slice none 0 0, .slice none 0 0, .int .i64 0, .int .i64 0, .int .i64 0] 42 wr ∧ wr.ownsRow (xb + 1) 3 1 sv T.length (T.map (Value.int .i64)) from ⟨by rw [← hri]; exact HXr.out, by rw [← hTi, HLi.out]; exact HOw.out⟩)
                rw [hst] at HOk
                clear hTi hri
                go_wp2_with fail
                refine HOk.out.mono ?_
                rintro e w' ⟨rfl, rfl⟩
                go_wp2_with fail
                go_meet
                case rel => exact ⟨sv, HEn.out⟩
            · obtain ⟨hTi, hri⟩ : Ti = T ∧ ri = rT := by
                have h := HRe.out
                rw [show K - i = 0 by omega] at h
                exact ⟨by simpa [rdRep] using h.1, h.2⟩
              have HEn := Lib.hid (show RZ b w rT xb #[.int .i64 v1, .int .i64 v2, .int .i64 v3, .int .i64 c0, .int .i64 c1, .int .i64 c2, .int .i64 c3, .bool (v8 == 1), sv, .slice none 0 0, .int .i64 0, .int .i64 0, .int .i64 0] w.heap.size #[.int .i64 0, .int .i64 0, .int .i64 0, .int .i64 0, .int .i64 0, .int .i64 0, .int .i64 0, .bool false, .slice none 0 0, .slice none 0 0, .int .i64 0, .int .i64 0, .int .i64 0] 42 wr ∧ wr.ownsRow (xb + 1) 3 1 sv T.length (T.map (Value.int .i64)) from ⟨by rw [← hri]; exact HXr.out, by rw [← hTi, HLi.out]; exact HOw.out⟩)
              have hKi : i = min n9 10 := by have := HK.out; omega
              clear hTi hri
              by_cases h1 : i < n9
              · have h2 : ¬ i < 10 := by omega
                go_wp2_with fail
                go_meet
                case rel => exact ⟨sv, HEn.out⟩
              · go_wp2_with fail
                go_meet
                case rel => exact ⟨sv, HEn.out⟩
        case rest =>
          obtain ⟨sv, hx, hown⟩ := hcut
          have HS := Lib.hid (show SX b w rT (XA xb w.heap.size #[.int .i64 v1, .int .i64 v2, .int .i64 v3, .int .i64 c0, .int .i64 c1, .int .i64 c2, .int .i64 c3, .bool (v8 == 1), sv, .slice none 0 0, .int .i64 0, .int .i64 0, .int .i64 0] sv T) wc from ⟨⟨hx.1.1, hx.1.2.1, hx.1.2.2.2.2⟩, ⟨hx.1.2.2.2.1, hx.2.2.2⟩, hown⟩)
          have hzx : w.heap.size < xb := by have := hx.1.2.2.1; have := hx.2.2.1; omega
          have hbz := HB.out
          have HZ := Lib.hid hzx
          have KA := Lib.hid (kpt_XA (cs := #[.int .i64 v1, .int .i64 v2, .int .i64 v3, .int .i64 c0, .int .i64 c1, .int .i64 c2, .int .i64 c3, .bool (v8 == 1), sv, .slice none 0 0, .int .i64 0, .int .i64 0, .int .i64 0]) (sv := sv) (T := T) hbz hzx)
          clear hx hown HX hbz hzx
          go_wp2_with fail
          refine (HS.out.num KA.out).mono ?_
          rintro e w10 ⟨rfl, hx⟩
          obtain ⟨v10, hv⟩ : ∃ v, (rdNm rT).1 = v := ⟨_, rfl⟩
          obtain ⟨r10, hr⟩ : ∃ r', (rdNm rT).2 = r' := ⟨_, rfl⟩
          have EQ10 := Lib.hid (show rdNm rT = (v10, r10) from Prod.ext hv hr)
          rw [hr] at hx
          rw [hv]
          have HX := Lib.hid hx
          clear hx hv hr HS
          obtain ⟨n10, rfl⟩ : ∃ n : Nat, v10 = (n : Int) := ⟨v10.toNat, by have h := congrArg Prod.fst EQ10.out; have h2 : (0 : Int) ≤ (rdNm rT).1 := Int.natCast_nonneg _; rw [h] at h2; have h3 : 0 ≤ v10 := h2; omega⟩
          obtain ⟨M, hM⟩ : ∃ M, min n10 40 = M := ⟨_, rfl⟩
          obtain ⟨C, hC⟩ : ∃ C, (rdRep rdIns M r10).1 = C := ⟨_, rfl⟩
          obtain ⟨rC, hrC⟩ : ∃ rC, (rdRep rdIns M r10).2 = rC := ⟨_, rfl⟩
          have HM := Lib.hid hM
          have HCr := Lib.hid (⟨hC, hrC⟩ : (rdRep rdIns M r10).1 = C ∧ (rdRep rdIns M r10).2 = rC)
          clear hM hC hrC
          go_upto_region 15 with fail
          go_cut [7] from 55 to 82 (fun q wr => q = .int .i64 0 ∧ wr = w10)
          case first =>
            go_wp2_with fail
            go_meet
            exact ⟨rfl, rfl⟩
          case rest =>
            obtain ⟨rfl, rfl⟩ := hcut
            rename_i KK hKK
            refine hKK _ _ ?_
            go_cut [7, 8] from 55 to 82 (fun q q8 wr => ∃ cv, SX b w rC (XB xb w.heap.size #[.int .i64 v1, .int .i64 v2, .int .i64 v3, .int .i64 c0, .int .i64 c1, .int .i64 c2, .int .i64 c3, .bool (v8 == 1), sv, cv, .int .i64 0, .int .i64 0, .int .i64 0] sv T cv C.length C) wr)
            case first =>
              go_wp2_with fail
              go_loopw [7] (fun q wr => ∃ (i : Nat) (Ci : List Ins) (ri : RdS) (cv : Value), q = .int .i64 (i : Int) ∧ Ci.length = i ∧ i ≤ M ∧ (Ci ++ (rdRep rdIns (M - i) ri).1 = C ∧ (rdRep rdIns (M - i) ri).2 = rC) ∧ SX b w ri (XB xb w.heap.size #[.int .i64 v1, .int .i64 v2, .int .i64 v3, .int .i64 c0, .int .i64 c1, .int .i64 c2, .int .i64 c3, .bool (v8 == 1), sv, cv, .int .i64 0, .int .i64 0, .int .i64 0] sv T cv i Ci) wr) (fun q _ => 40 - (intOf q).toNat)
              case atStart => exact ⟨0, [], r10, .slice none 0 0, rfl, rfl, Nat.zero_le _, ⟨by simpa using HCr.out.1, by simpa using HCr.out.2⟩, HX.out.to (fun h => ⟨h, World.ownsRow_nil _ _ _ _⟩)⟩
              case round =>
                obtain ⟨i, Ci, ri, cv, rfl, hl, hiK, hre, hx⟩ := hrel
                have HXr := Lib.hid hx
                have HRe := Lib.hid hre
                have HLi := Lib.hid hl
                clear hx hre hl HX
                by_cases hlt : i < M
                · have h1 : i < n10 := by have := HM.out; omega
                  have h2 : i < 40 := by have := HM.out; omega
                  have HOk := Lib.hid (HXr.out.ok)
                  rcases hst : ri.2 with _ | _
                  · rw [hst] at HOk
                    go_wp2_with fail
                    refine HOk.out.mono ?_
                    rintro e w' ⟨rfl, rfl⟩
                    go_wp2_with fail
                    have hbz := HB.out
                    have hzx := HZ.out
                    refine (HXr.out.num (kpt_XB hbz hzx)).mono ?_
                    rintro e w11 ⟨rfl, hx⟩
                    obtain ⟨vo, hvo⟩ : ∃ v, (rdNm ri).1 = v := ⟨_, rfl⟩
                    obtain ⟨ro, hro⟩ : ∃ r', (rdNm ri).2 = r' := ⟨_, rfl⟩
                    have EQo := Lib.hid (show rdNm ri = (vo, ro) from Prod.ext hvo hro)
                    rw [hro] at hx
                    rw [hvo]
                    have HX11 := Lib.hid hx
                    clear hx hvo hro hbz hzx
                    go_wp2_with fail
                    have HXQ := Lib.hid (show SX b w ro (XC xb w.heap.size #[.int .i64 v1, .int .i64 v2, .int .i64 v3, .int .i64 c0, .int .i64 c1, .int .i64 c2, .int .i64 c3, .bool (v8 == 1), sv, cv, .int .i64 0, .int .i64 0, .int .i64 0] sv T cv i Ci w11.heap.size #[.int .i64 vo, .int .i64 0, .int .i64 0]) (w11.alloc (.cells #[.int .i64 vo, .int .i64 0, .int .i64 0] 82)) from
                      (HX11.out.grow (kpt_XB HB.out HZ.out) (below_alloc1 w11 _)).to (fun h => ⟨h, blkAt_fresh w11 _ _⟩))
                    have HN := Lib.hid (show (xb < w11.heap.size ∧ b ≠ w11.heap.size) ∧ sv.ownBlock ≠ some w11.heap.size ∧ cv.ownBlock ≠ some w11.heap.size from ⟨⟨HX11.out.2.1.1.1.lt, by have := HX11.out.lt; omega⟩, own_fresh HX11.out.2.1.2 _ rfl, own_fresh HX11.out.2.2 _ rfl⟩)
                    clear HX11
                    generalize w11.alloc (.cells #[.int .i64 vo, .int .i64 0, .int .i64 0] 82) = W12 at *
                    generalize w11.heap.size = qb at *
                    have hbz := HB.out
                    have hzx := HZ.out
                    refine (HXQ.out.int (kpt_XC hbz hzx (Ne.symm HN.out.1.2))).mono ?_
                    rintro e w13 ⟨rfl, hx⟩
                    obtain ⟨va, hva⟩ : ∃ v, (rdInt ro).1 = v := ⟨_, rfl⟩
                    obtain ⟨ra, hra⟩ : ∃ r', (rdInt ro).2 = r' := ⟨_, rfl⟩
                    have EQa := Lib.hid (show rdInt ro = (va, ra) from Prod.ext hva hra)
                    rw [hra] at hx
                    rw [hva]
                    have HX13 := Lib.hid hx
                    have c := hx.2.2.cell 1
                    have f := hx.2.2.free 1
                    simp at c
                    clear hx hva hra hbz hzx HXQ
                    go_wp2_with fail
                    clear c f
                    have HX14 := Lib.hid (show SX b w ra (XC xb w.heap.size #[.int .i64 v1, .int .i64 v2, .int .i64 v3, .int .i64 c0, .int .i64 c1, .int .i64 c2, .int .i64 c3, .bool (v8 == 1), sv, cv, .int .i64 0, .int .i64 0, .int .i64 0] sv T cv i Ci qb #[.int .i64 vo, .int .i64 va, .int .i64 0]) (w13.setCell ⟨qb, 1, none⟩ (.int .i64 va)) from
                      HX13.out.put (by have := HN.out.1.1; have := HZ.out; omega) (Ne.symm HN.out.1.2) (by simpa using HX13.out.2.put HZ.out HN.out.1.1 HN.out.2.1 HN.out.2.2 1 (.int .i64 va)))
                    clear HX13
                    generalize w13.setCell ⟨qb, 1, none⟩ (.int .i64 va) = W14 at *
                    have hbz := HB.out
                    have hzx := HZ.out
                    refine (HX14.out.int (kpt_XC hbz hzx (Ne.symm HN.out.1.2))).mono ?_
                    rintro e w15 ⟨rfl, hx⟩
                    obtain ⟨vb, hvb⟩ : ∃ v, (rdInt ra).1 = v := ⟨_, rfl⟩
                    obtain ⟨rb2, hrb⟩ : ∃ r', (rdInt ra).2 = r' := ⟨_, rfl⟩
                    have EQb := Lib.hid (show rdInt ra = (vb, rb2) from Prod.ext hvb hrb)
                    rw [hrb] at hx
                    rw [hvb]
                    have HX15 := Lib.hid hx
                    have c := hx.2.2.cell 2
                    have f := hx.2.2.free 2
                    simp at c
                    have HX16 := Lib.hid (show SX b w rb2 (XC xb w.heap.size #[.int .i64 v1, .int .i64 v2, .int .i64 v3, .int .i64 c0, .int .i64 c1, .int .i64 c2, .int .i64 c3, .bool (v8 == 1), sv, cv, .int .i64 0, .int .i64 0, .int .i64 0] sv T cv i Ci qb #[.int .i64 vo, .int .i64 va, .int .i64 vb]) (w15.setCell ⟨qb, 2, none⟩ (.int .i64 vb)) from
                      HX15.out.put (by have := HN.out.1.1; have := HZ.out; omega) (Ne.symm HN.out.1.2) (by simpa using HX15.out.2.put HZ.out HN.out.1.1 HN.out.2.1 HN.out.2.2 2 (.int .i64 vb)))
                    clear hx hvb hrb hbz hzx HX14 HX15
                    go_upto_region 21 with fail
                    clear c f
                    generalize w15.setCell ⟨qb, 2, none⟩ (.int .i64 vb) = W16 at *
                    have q0 := HX16.out.2.2.cell 0
                    have q1 := HX16.out.2.2.cell 1
                    have q2 := HX16.out.2.2.cell 2
                    have c9 := HX16.out.2.1.1.1.1.cell 9
                    simp at q0 q1 q2 c9
                    obtain ⟨i0, hi0, hz0, hz1, hz2⟩ := info_parts insInfo
                    have HX17 := Lib.hid ((HX16.out.to (fun h => h.1)).grow (kpt_XB HB.out HZ.out) (below_alloc1 W16 (.cells #[.int .i64 vo, .int .i64 va, .int .i64 vb] 82)))
                    have HSz := Lib.hid (show xb + 1 ≤ (W16.alloc (.cells #[.int .i64 vo, .int .i64 va, .int .i64 vb] 82)).heap.size by have := HX17.out.2.1.1.1.lt; omega)
                    go_wp2_with (at_builtin; refine wpList_append_lies _ rfl _ _ 40 rfl (xb + 1) 82 i0 (.agg #[.int .i64 0, .int .i64 0, .int .i64 0]) 3 24 Tryz.underlying40 hi0 hz0 hz1 hz2 rfl (by omega) cv i (insCells Ci) rfl HX17.out.2.2 ⟨W16.heap.size, 0, none⟩ 1 1 [.int .i64 vo, .int .i64 va, .int .i64 vb] rfl rfl (new_cells W16 _ _) (fun u hu => by simp only [List.mem_cons, List.not_mem_nil, or_false] at hu; rcases hu with rfl | rfl | rfl <;> rfl) (by omega) (by unfold maxLen; omega) (by omega) HSz.out _ rfl ?_; intro g2 gc2 w18 hown2 hgrow2 hat hlt2; have HX18 := Lib.hid (show SX b w rb2 (XB xb w.heap.size #[.int .i64 v1, .int .i64 v2, .int .i64 v3, .int .i64 c0, .int .i64 c1, .int .i64 c2, .int .i64 c3, .bool (v8 == 1), sv, cv, .int .i64 0, .int .i64 0, .int .i64 0] sv T (.slice (some ⟨g2, 0, none⟩) (i + 1) gc2) (i + 1) (Ci ++ [⟨vo, va, vb⟩])) w18 from HX17.out.row hgrow2 (fun k e => by have := (HX17.out.2.2.lt k e).1; have := HZ.out; have := HB.out; omega) (HX17.out.2.app hgrow2 (by rw [insCells_snoc]; exact hown2))); have x9 := HX18.out.2.1.1.1.cell 9; have y9 := HX18.out.2.1.1.1.free 9; simp at x9; clear hown2 hgrow2 hat hlt2)
                    have HXn := Lib.hid (show SX b w rb2 (XB xb w.heap.size #[.int .i64 v1, .int .i64 v2, .int .i64 v3, .int .i64 c0, .int .i64 c1, .int .i64 c2, .int .i64 c3, .bool (v8 == 1), sv, .slice (some ⟨g2, 0, none⟩) (i + 1) gc2, .int .i64 0, .int .i64 0, .int .i64 0] sv T (.slice (some ⟨g2, 0, none⟩) (i + 1) gc2) (i + 1) (Ci ++ [⟨vo, va, vb⟩])) (w18.setCell ⟨xb, 9, none⟩ (.slice (some ⟨g2, 0, none⟩) (i + 1) gc2)) from
                      HX18.out.put (by have := HZ.out; omega) (by have := HZ.out; have := HB.out; omega) (by simpa using HX18.out.2.set HZ.out 9 (.slice (some ⟨g2, 0, none⟩) (i + 1) gc2)))
                    have HRn := Lib.hid (show (Ci ++ [⟨vo, va, vb⟩]) ++ (rdRep rdIns (M - (i + 1)) rb2).1 = C ∧ (rdRep rdIns (M - (i + 1)) rb2).2 = rC by
                      have h := HRe.out
                      rw [show M - i = (M - (i + 1)) + 1 by omega, rep_step rdIns ri _ ⟨vo, va, vb⟩ rb2 hst (by simp only [rdIns, EQo.out, EQa.out, EQb.out])] at h
                      simpa using h)
                    exact ⟨⟨i + 1, Ci ++ [⟨vo, va, vb⟩], rb2, _, by go_num, by have := HLi.out; simp; omega, by omega, HRn.out, HXn.out⟩, by simp [intOf]; omega⟩
                  · obtain ⟨hTi, hri⟩ : Ci = C ∧ ri = rC := by
                      have h := HRe.out
                      rw [rep_stop rdIns ri _ hst] at h
                      exact ⟨by simpa using h.1, h.2⟩
                    have HEn := Lib.hid (show SX b w rC (XB xb w.heap.size #[.int .i64 v1, .int .i64 v2, .int .i64 v3, .int .i64 c0, .int .i64 c1, .int .i64 c2, .int .i64 c3, .bool (v8 == 1), sv, cv, .int .i64 0, .int .i64 0, .int .i64 0] sv T cv C.length C) wr by rw [← hri, ← hTi, HLi.out]; exact HXr.out)
                    rw [hst] at HOk
                    clear hTi hri
                    go_wp2_with fail
                    refine HOk.out.mono ?_
                    rintro e w' ⟨rfl, rfl⟩
                    go_wp2_with fail
                    go_meet
                    case rel => exact ⟨cv, HEn.out⟩
                · obtain ⟨hTi, hri⟩ : Ci = C ∧ ri = rC := by
                    have h := HRe.out
                    rw [show M - i = 0 by omega] at h
                    exact ⟨by simpa [rdRep] using h.1, h.2⟩
                  have HEn := Lib.hid (show SX b w rC (XB xb w.heap.size #[.int .i64 v1, .int .i64 v2, .int .i64 v3, .int .i64 c0, .int .i64 c1, .int .i64 c2, .int .i64 c3, .bool (v8 == 1), sv, cv, .int .i64 0, .int .i64 0, .int .i64 0] sv T cv C.length C) wr by rw [← hri, ← hTi, HLi.out]; exact HXr.out)
                  have hKi : i = min n10 40 := by have := HM.out; omega
                  clear hTi hri
                  by_cases h1 : i < n10
                  · have h2 : ¬ i < 40 := by omega
                    go_wp2_with fail
                    go_meet
                    case rel => exact ⟨cv, HEn.out⟩
                  · go_wp2_with fail
                    go_meet
                    case rel => exact ⟨cv, HEn.out⟩
            case rest =>
              obtain ⟨cv, hx⟩ := hcut
              rename World => W0
              have HX := Lib.hid hx
              clear hx
              have hbz := HB.out
              have hzx := HZ.out
              go_wp2_with fail
              refine (HX.out.num (kpt_XB hbz hzx)).mono ?_
              rintro e w20 ⟨rfl, hx⟩
              obtain ⟨vp, hv⟩ : ∃ v, (rdNm rC).1 = v := ⟨_, rfl⟩
              obtain ⟨rp, hr⟩ : ∃ r', (rdNm rC).2 = r' := ⟨_, rfl⟩
              have EQvp := Lib.hid (show rdNm rC = (vp, rp) from Prod.ext hv hr)
              rw [hr] at hx
              rw [hv]
              have c := hx.2.1.1.1.cell 10
              have f := hx.2.1.1.1.free 10
              simp at c
              have HY := Lib.hid (show SX b w rp (XB xb w.heap.size #[.int .i64 v1, .int .i64 v2, .int .i64 v3, .int .i64 c0, .int .i64 c1, .int .i64 c2, .int .i64 c3, .bool (v8 == 1), sv, cv, .int .i64 vp, .int .i64 0, .int .i64 0] sv T cv C.length C) (w20.setCell ⟨xb, 10, none⟩ (.int .i64 vp)) from
                hx.put (by omega) (by omega) (by simpa using hx.2.set hzx 10 (.int .i64 vp)))
              clear hx hv hr hbz hzx HX
              go_wp2_with fail
              clear c f
              generalize w20.setCell ⟨xb, 10, none⟩ (.int .i64 vp) = W20 at *
              have HX := HY
              clear HY
              have hbz := HB.out
              have hzx := HZ.out
              refine (HX.out.int (kpt_XB hbz hzx)).mono ?_
              rintro e w21 ⟨rfl, hx⟩
              obtain ⟨vq, hv⟩ : ∃ v, (rdInt rp).1 = v := ⟨_, rfl⟩
              obtain ⟨rq, hr⟩ : ∃ r', (rdInt rp).2 = r' := ⟨_, rfl⟩
              have EQvq := Lib.hid (show rdInt rp = (vq, rq) from Prod.ext hv hr)
              rw [hr] at hx
              rw [hv]
              have c := hx.2.1.1.1.cell 11
              have f := hx.2.1.1.1.free 11
              simp at c
              have HY := Lib.hid (show SX b w rq (XB xb w.heap.size #[.int .i64 v1, .int .i64 v2, .int .i64 v3, .int .i64 c0, .int .i64 c1, .int .i64 c2, .int .i64 c3, .bool (v8 == 1), sv, cv, .int .i64 vp, .int .i64 vq, .int .i64 0] sv T cv C.length C) (w21.setCell ⟨xb, 11, none⟩ (.int .i64 vq)) from
                hx.put (by omega) (by omega) (by simpa using hx.2.set hzx 11 (.int .i64 vq)))
              clear hx hv hr hbz hzx HX
              go_wp2_with fail
              clear c f
              generalize w21.setCell ⟨xb, 11, none⟩ (.int .i64 vq) = W21 at *
              have HX := HY
              clear HY
              have hbz := HB.out
              have hzx := HZ.out
              refine (HX.out.int (kpt_XB hbz hzx)).mono ?_
              rintro e w22 ⟨rfl, hx⟩
              obtain ⟨vr, hv⟩ : ∃ v, (rdInt rq).1 = v := ⟨_, rfl⟩
              obtain ⟨rr, hr⟩ : ∃ r', (rdInt rq).2 = r' := ⟨_, rfl⟩
              have EQvr := Lib.hid (show rdInt rq = (vr, rr) from Prod.ext hv hr)
              rw [hr] at hx
              rw [hv]
              have c := hx.2.1.1.1.cell 12
              have f := hx.2.1.1.1.free 12
              simp at c
              have HY := Lib.hid (show SX b w rr (XB xb w.heap.size #[.int .i64 v1, .int .i64 v2, .int .i64 v3, .int .i64 c0, .int .i64 c1, .int .i64 c2, .int .i64 c3, .bool (v8 == 1), sv, cv, .int .i64 vp, .int .i64 vq, .int .i64 vr] sv T cv C.length C) (w22.setCell ⟨xb, 12, none⟩ (.int .i64 vr)) from
                hx.put (by omega) (by omega) (by simpa using hx.2.set hzx 12 (.int .i64 vr)))
              clear hx hv hr hbz hzx HX
              go_upto_region 25 with fail
              clear c f
              generalize w22.setCell ⟨xb, 12, none⟩ (.int .i64 vr) = W22 at *
              have HX := HY
              clear HY
              obtain ⟨a1, k1, e1, _⟩ := own_kd HX.out.2.1.2 (show b < xb + 1 by have := HB.out; have := HZ.out; omega)
              obtain ⟨a2, k2, e2, _⟩ := own_kd HX.out.2.2 (show b < xb + 1 by have := HB.out; have := HZ.out; omega)
              subst e1 e2
              have hrd := HX.out.2.reads (show b < xb + 1 by have := HB.out; have := HZ.out; omega) rfl ⟨v1, v2, v3, c0, c1, c2, c3, (v8 == 1), a1, T.length, k1, a2, C.length, k2, vp, vq, vr⟩ rfl rfl
              have HKd := Lib.hid hrd.1
              have hst13 := stored13 W22 w.heap.size 42 _ _ _ _ _ _ _ _ _ _ _ _ _ (.int .i64 v1) (.int .i64 v2) (.int .i64 v3) (.int .i64 c0) (.int .i64 c1) (.int .i64 c2) (.int .i64 c3) (.bool (v8 == 1)) (.slice a1 T.length k1) (.slice a2 C.length k2) (.int .i64 vp) (.int .i64 vq) (.int .i64 vr) HX.out.2.1.1.2
              have HX25 := Lib.hid (HX.out.row hst13.2 (X' := fun W => BlkAt W w.heap.size #[.int .i64 v1, .int .i64 v2, .int .i64 v3, .int .i64 c0, .int .i64 c1, .int .i64 c2, .int .i64 c3, .bool (v8 == 1), .slice a1 T.length k1, .slice a2 C.length k2, .int .i64 vp, .int .i64 vq, .int .i64 vr] 42 ∧ Kd [3, 82] b (fun W => AbR W ⟨v1, v2, v3, c0, c1, c2, c3, (v8 == 1), a1, T.length, k1, a2, C.length, k2, vp, vq, vr⟩ T C) W)
                (fun k e => by injection e with e; subst e; exact ⟨Nat.le_refl _, by have := HB.out; omega⟩)
                ⟨hst13.1, hrd.1.row hst13.2 (E := 42) (by decide) (fun k e => by injection e with e; subst e; exact ⟨_, _, HX.out.2.1.1.2⟩)⟩)
              clear hrd hst13
              obtain ⟨t0, t1, t2, t3, t4, t5, t6, t7, t8, t9, t10, t11, t12⟩ := HX.out.2.1.1.1.cells13
              obtain ⟨z0, z1, z2, z3, z4, z5, z6, z7, z8, z9, z10, z11, z12⟩ := HX.out.2.1.1.2.cells13
              obtain ⟨y0, y1, y2, y3, y4, y5, y6, y7, y8, y9, y10, y11, y12⟩ := HX.out.2.1.1.2.free13
              go_wp2_with fail
              have HE := Lib.hid (show rdAb r = ((⟨v1, v2, v3, c0, c1, c2, c3, (v8 == 1), none, T.length, 0, none, C.length, 0, vp, vq, vr⟩, T, C), rr) by
                obtain ⟨h7, h0, h1, h2, h3⟩ := HC.out
                change (rdNm r3).1 = c0 at h0
                change (rdNm (rdNm r3).2).1 = c1 at h1
                change (rdNm (rdNm (rdNm r3).2).2).1 = c2 at h2
                change (rdNm (rdNm (rdNm (rdNm r3).2).2).2).1 = c3 at h3
                change (rdNm (rdNm (rdNm (rdNm r3).2).2).2).2 = r7 at h7
                unfold rdAb
                simp only [EQ1.out, EQ2.out, EQ3.out, h0, h1, h2, h3, h7, EQ8.out, EQ9.out, Int.toNat_natCast, HK.out, HTr.out.1, HTr.out.2, EQ10.out, HM.out, HCr.out.1, HCr.out.2, EQvp.out, EQvq.out, EQvr.out])
              clear z0 z1 z2 z3 z4 z5 z6 z7 z8 z9 z10 z11 z12 y0 y1 y2 y3 y4 y5 y6 y7 y8 y9 y10 y11 y12 t0 t1 t2 t3 t4 t5 t6 t7 t8 t9 t10 t11 t12
              generalize ((((((((((((W22.setCell _ _).setCell _ _).setCell _ _).setCell _ _).setCell _ _).setCell _ _).setCell _ _).setCell _ _).setCell _ _).setCell _ _).setCell _ _).setCell _ _).setCell _ _ = W25 at *
              obtain ⟨t0, t1, t2, t3, t4, t5, t6, t7, t8, t9, t10, t11, t12⟩ := HX25.out.2.1.cells13
              refine bodyPost_ret (v := .agg #[.int .i64 v1, .int .i64 v2, .int .i64 v3, .int .i64 c0, .int .i64 c1, .int .i64 c2, .int .i64 c3, .bool (v8 == 1), .slice a1 T.length k1, .slice a2 C.length k2, .int .i64 vp, .int .i64 vq, .int .i64 vr]) (by simp [results, Tryz.results35, go_sem, t0, t1, t2, t3, t4, t5, t6, t7, t8, t9, t10, t11, t12]) rfl ?_
              rw [HE.out]
              exact ⟨⟨v1, v2, v3, c0, c1, c2, c3, (v8 == 1), a1, T.length, k1, a2, C.length, k2, vp, vq, vr⟩, rfl, rfl, HX25.out.2.2, HX25.out.1.1, HX25.out.1.2.2⟩
end Go.Proofs.YtbeaaieaffdgeaaGreatDoor
end
