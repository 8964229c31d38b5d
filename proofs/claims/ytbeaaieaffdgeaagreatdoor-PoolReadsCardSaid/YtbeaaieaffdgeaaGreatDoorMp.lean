/- Texts that belong together: PoolK, PoolLb, PoolLc, PoolKc, PoolKd. -/
import Derived.Test.YtbeaaieaffdgeaaGreatDoorMo
import Derived.Deep.CutRange
import Derived.Deep.RegionLaw
import Derived.Deep.AppendLies
import Derived.Deep.RegionLawGrows
import Derived.Test.YtbeaaieaffdgeaaGreatDoorMn
import Derived.BigQuiet
import Derived.Test.YtbeaaieaffdgeaaGreatDoorMm
import Derived.Deep.RegionWith
/- The document's reads. (Written by gen6b.py.) -/
section
namespace Go.Proofs.YtbeaaieaffdgeaaGreatDoor
open Go.RowKit
set_option linter.unusedVariables false
set_option linter.unusedSimpArgs false

theorem blkAt_fresh (w : World) (cs : Array Value) (T : TypeId) : BlkAt (w.alloc (.cells cs T)) w.heap.size cs T := heap_alloc_new w _
/-- The reader behind i numbers, and number j. -/
def stR (r : RdS) : Nat → RdS
  | 0 => r
  | i + 1 => (rdNm (stR r i)).2
def stV (r : RdS) (j : Nat) : Int := (rdNm (stR r j)).1
/-- The same, and block z, of the call's own, as it was laid. -/
def RZ (b : Nat) (w : World) (r : RdS) (x : Nat) (cs : Array Value) (z : Nat) (zs : Array Value) (T : TypeId) (W : World) : Prop :=
  RX b w r x cs T W ∧ w.heap.size ≤ z ∧ z ≠ x ∧ BlkAt W z zs T
theorem RZ.num {b : Nat} {w W : World} {r : RdS} {x z : Nat} {cs zs : Array Value} {T : TypeId} (h : RZ b w r x cs z zs T W) (hb : b < w.heap.size) :
    Calls Tryz.prog 32 #[.pointer (some ⟨b, 0, none⟩)] W fun e W' => e = .returned (.int .i64 (rdNm r).1) ∧ RZ b w (rdNm r).2 x cs z zs T W' :=
  (refNm_any b r W h.1.2.1 h.1.1).mono fun _ _ ⟨h1, h2, h3⟩ => ⟨h1, h.1.kept hb h.1.2.1.nm h2 h3, h.2.1, h.2.2.1, h.2.2.2.grown h3 (fun e => by have := h.2.1; have : b = z := Option.some.inj e; omega)⟩
theorem RZ.int {b : Nat} {w W : World} {r : RdS} {x z : Nat} {cs zs : Array Value} {T : TypeId} (h : RZ b w r x cs z zs T W) (hb : b < w.heap.size) :
    Calls Tryz.prog 58 #[.pointer (some ⟨b, 0, none⟩)] W fun e W' => e = .returned (.int .i64 (rdInt r).1) ∧ RZ b w (rdInt r).2 x cs z zs T W' :=
  (rint_any b r W h.1.2.1 h.1.1).mono fun _ _ ⟨h1, h2, h3⟩ => ⟨h1, h.1.kept hb h.1.2.1.num h2 h3, h.2.1, h.2.2.1, h.2.2.2.grown h3 (fun e => by have := h.2.1; have : b = z := Option.some.inj e; omega)⟩
theorem RZ.set {b : Nat} {w W : World} {r : RdS} {x z : Nat} {cs zs : Array Value} {T : TypeId} (h : RZ b w r x cs z zs T W) (hb : b < w.heap.size) (i : Nat) (v : Value) : RZ b w r x (cs.setIfInBounds i v) z zs T (W.setCell ⟨x, i, none⟩ v) :=
  ⟨h.1.set hb i v, h.2.1, h.2.2.1, h.2.2.2.far _ _ (fun e => h.2.2.1 e.symm)⟩
theorem RZ.grow {b : Nat} {w W W' : World} {r : RdS} {x z : Nat} {cs zs : Array Value} {T : TypeId} (h : RZ b w r x cs z zs T W) (hb : b < w.heap.size) (k : Below W.heap.size W W') : RZ b w r x cs z zs T W' :=
  ⟨h.1.grow hb k, h.2.1, h.2.2.1, h.2.2.2.next k⟩
theorem RZ.numg {b : Nat} {w W : World} {r : RdS} {x z : Nat} {cs zs : Array Value} {T : TypeId} (h : RZ b w r x cs z zs T W) (hb : b < w.heap.size) :
    Calls Tryz.prog 32 #[.pointer (some ⟨b, 0, none⟩)] W fun e W' => e = .returned (.int .i64 (rdNm r).1) ∧ RZ b w (rdNm r).2 x cs z zs T W' ∧ W.grownBy W' (some b) :=
  (refNm_any b r W h.1.2.1 h.1.1).mono fun _ _ ⟨h1, h2, h3⟩ => ⟨h1, ⟨h.1.kept hb h.1.2.1.nm h2 h3, h.2.1, h.2.2.1, h.2.2.2.grown h3 (fun e => by have := h.2.1; have : b = z := Option.some.inj e; omega)⟩, h3⟩
/-- A row of the call's own has grown. -/
theorem RZ.row {b : Nat} {w W W' : World} {r : RdS} {x z : Nat} {cs zs : Array Value} {T : TypeId} {row : Option Nat} (h : RZ b w r x cs z zs T W) (hb : b < w.heap.size) (hz : z < x) (g : W.grownBy W' row) (hr : ∀ k, row = some k → x < k) : RZ b w r x cs z zs T W' := by
  obtain ⟨⟨h1, h2, h3, h4, h5⟩, h6, h7, h8⟩ := h
  have hne : ∀ k, k ≤ x → row ≠ some k := fun k hk e => by have := hr k e; omega
  refine ⟨⟨(g.block b h1.lt (fun e => hne b (by omega) e.symm)).trans h1, h2, h3, h4.grown g (hne x (Nat.le_refl _)), ?_⟩, h6, h7, h8.grown g (hne z (by omega))⟩
  exact ⟨g.os.trans h5.os, g.tape.trans h5.tape, g.output.trans h5.output, Nat.le_trans h5.size g.size, fun k hk hkb => (g.block k (Nat.lt_of_lt_of_le hk h5.size) (fun e => hne k (by omega) e.symm)).trans (h5.block k hk hkb)⟩
theorem RZ.lt {b : Nat} {w W : World} {r : RdS} {x z : Nat} {cs zs : Array Value} {T : TypeId} (h : RZ b w r x cs z zs T W) : x < W.heap.size := h.1.2.2.2.1.lt
theorem BlkAt.plus {w : World} {b : Nat} {l : List Value} {cs : Array Value} {T : TypeId} (h : BlkAt w b cs T) (hl : cs = l.toArray) (j : Nat) (u : Value) (hj : l[j]? = some u) : w.cell? ((⟨b, 0, none⟩ : Addr).add j) = some u := by
  rw [add_plain, Nat.zero_add, h.cell j, hl]
  simpa using hj
theorem rep_step {α : Type} (f : RdS → α × RdS) (r : RdS) (k : Nat) (v : α) (q : RdS) (h : r.2 = false) (e : f r = (v, q)) : rdRep f (k + 1) r = (v :: (rdRep f k q).1, (rdRep f k q).2) := by simp [rdRep, h, e]
theorem rep_stop {α : Type} (f : RdS → α × RdS) (r : RdS) (k : Nat) (h : r.2 = true) : rdRep f k r = ([], r) := by cases k <;> simp [rdRep, h]
theorem intInfo : (Tryz.prog.info? 3).map (fun i => (i.zero, i.size, i.bytes)) = some (some (.int .i64 0), 1, 8) := by kernel_rfl
theorem BlkAt.cells13 {w : World} {b : Nat} {T : TypeId} {v0 v1 v2 v3 v4 v5 v6 v7 v8 v9 v10 v11 v12 : Value} (h : BlkAt w b #[v0, v1, v2, v3, v4, v5, v6, v7, v8, v9, v10, v11, v12] T) :
    w.cell? ⟨b, 0, none⟩ = some v0 ∧ w.cell? ⟨b, 1, none⟩ = some v1 ∧ w.cell? ⟨b, 2, none⟩ = some v2 ∧ w.cell? ⟨b, 3, none⟩ = some v3 ∧ w.cell? ⟨b, 4, none⟩ = some v4 ∧ w.cell? ⟨b, 5, none⟩ = some v5 ∧ w.cell? ⟨b, 6, none⟩ = some v6 ∧
    w.cell? ⟨b, 7, none⟩ = some v7 ∧ w.cell? ⟨b, 8, none⟩ = some v8 ∧ w.cell? ⟨b, 9, none⟩ = some v9 ∧ w.cell? ⟨b, 10, none⟩ = some v10 ∧ w.cell? ⟨b, 11, none⟩ = some v11 ∧ w.cell? ⟨b, 12, none⟩ = some v12 :=
  ⟨h.cell 0, h.cell 1, h.cell 2, h.cell 3, h.cell 4, h.cell 5, h.cell 6, h.cell 7, h.cell 8, h.cell 9, h.cell 10, h.cell 11, h.cell 12⟩
theorem BlkAt.free13 {w : World} {b : Nat} {T : TypeId} {cs : Array Value} (h : BlkAt w b cs T) :
    w.frozen? ⟨b, 0, none⟩ = false ∧ w.frozen? ⟨b, 1, none⟩ = false ∧ w.frozen? ⟨b, 2, none⟩ = false ∧ w.frozen? ⟨b, 3, none⟩ = false ∧ w.frozen? ⟨b, 4, none⟩ = false ∧ w.frozen? ⟨b, 5, none⟩ = false ∧ w.frozen? ⟨b, 6, none⟩ = false ∧
    w.frozen? ⟨b, 7, none⟩ = false ∧ w.frozen? ⟨b, 8, none⟩ = false ∧ w.frozen? ⟨b, 9, none⟩ = false ∧ w.frozen? ⟨b, 10, none⟩ = false ∧ w.frozen? ⟨b, 11, none⟩ = false ∧ w.frozen? ⟨b, 12, none⟩ = false :=
  ⟨h.free 0, h.free 1, h.free 2, h.free 3, h.free 4, h.free 5, h.free 6, h.free 7, h.free 8, h.free 9, h.free 10, h.free 11, h.free 12⟩
theorem insInfo : (Tryz.prog.info? 82).map (fun i => (i.zero, i.size, i.bytes)) = some (some (.agg #[.int .i64 0, .int .i64 0, .int .i64 0]), 3, 24) := by kernel_rfl
theorem RZ.cell {b : Nat} {w W : World} {r : RdS} {x z : Nat} {cs zs : Array Value} {T : TypeId} (h : RZ b w r x cs z zs T W) (i : Nat) : W.cell? ⟨x, i, none⟩ = cs[i]? := h.1.2.2.2.1.cell i
theorem RZ.free {b : Nat} {w W : World} {r : RdS} {x z : Nat} {cs zs : Array Value} {T : TypeId} (h : RZ b w r x cs z zs T W) (i : Nat) : W.frozen? ⟨x, i, none⟩ = false := h.1.2.2.2.1.free i
set_option maxRecDepth 100000 in
set_option maxHeartbeats 8000000 in
theorem refReads_any (b : Nat) (r : RdS) (w : World) (hr : RdOk r) (h : RdT 68 b r.1 r.2 w) :
    Calls Tryz.prog 35 #[.pointer (some ⟨b, 0, none⟩)] w fun e w' => ∃ x : Ab, e = .returned (.agg #[.int .i64 x.k, .int .i64 x.ev, .int .i64 x.wh, .int .i64 x.c0, .int .i64 x.c1, .int .i64 x.c2, .int .i64 x.c3, .bool x.tap, .slice x.ta x.tn x.tc, .slice x.ca x.cn x.cc, .int .i64 x.op, .int .i64 x.a, .int .i64 x.b]) ∧ bareA (x, (rdAb r).1.2.1, (rdAb r).1.2.2) = (rdAb r).1 ∧
      Kd [3, 82] b (fun W => AbR W x (rdAb r).1.2.1 (rdAb r).1.2.2) w' ∧ RdT 68 b (rdAb r).2.1 (rdAb r).2.2 w' ∧ w.grownBy w' (some b) := by
  have HB := Lib.hid h.lt
  have HO := Lib.hid hr
  have H0 := Lib.hid (h.alloc (.cells #[.int .i64 0, .int .i64 0, .int .i64 0, .int .i64 0, .int .i64 0, .int .i64 0, .int .i64 0, .bool false, .slice none 0 0, .slice none 0 0, .int .i64 0, .int .i64 0, .int .i64 0] 42))
  have HZ := Lib.hid (blkAt_fresh w #[.int .i64 0, .int .i64 0, .int .i64 0, .int .i64 0, .int .i64 0, .int .i64 0, .int .i64 0, .bool false, .slice none 0 0, .slice none 0 0, .int .i64 0, .int .i64 0, .int .i64 0] 42)
  have HG := Lib.hid (grown_new (World.grownBy.refl w (some b)) (.cells #[.int .i64 0, .int .i64 0, .int .i64 0, .int .i64 0, .int .i64 0, .int .i64 0, .int .i64 0, .bool false, .slice none 0 0, .slice none 0 0, .int .i64 0, .int .i64 0, .int .i64 0] 42))
  clear h hr
  go_enter Tryz.func35, Tryz.ntmps35
  go_wp2_with fail
  refine (refNm_any b r _ HO.out H0.out).mono ?_
  rintro e w1 ⟨rfl, h1, g1⟩
  obtain ⟨v1, hv⟩ : ∃ v, (rdNm r).1 = v := ⟨_, rfl⟩
  obtain ⟨r1, hr⟩ : ∃ r', (rdNm r).2 = r' := ⟨_, rfl⟩
  have EQ1 := Lib.hid (show rdNm r = (v1, r1) from Prod.ext hv hr)
  have ho1 : RdOk r1 := by rw [← hr]; exact HO.out.nm
  rw [hr] at h1
  rw [hv]
  have HX1 := Lib.hid (show RZ b w r1 w1.heap.size #[.int .i64 v1, .int .i64 0, .int .i64 0, .int .i64 0, .int .i64 0, .int .i64 0, .int .i64 0, .bool false, .slice none 0 0, .slice none 0 0, .int .i64 0, .int .i64 0, .int .i64 0] w.heap.size #[.int .i64 0, .int .i64 0, .int .i64 0, .int .i64 0, .int .i64 0, .int .i64 0, .int .i64 0, .bool false, .slice none 0 0, .slice none 0 0, .int .i64 0, .int .i64 0, .int .i64 0] 42 (w1.alloc (.cells #[.int .i64 v1, .int .i64 0, .int .i64 0, .int .i64 0, .int .i64 0, .int .i64 0, .int .i64 0, .bool false, .slice none 0 0, .slice none 0 0, .int .i64 0, .int .i64 0, .int .i64 0] 42)) from
    ⟨⟨h1.alloc _, ho1, Nat.le_trans (by simp) g1.size, blkAt_fresh _ _ _, grown_new (grown_then HG.out g1) _⟩, Nat.le_refl _, by have := g1.size; simp at this; omega, (HZ.out.grown g1 (fun e => by have := HB.out; have : b = w.heap.size := Option.some.inj e; omega)).next (below_alloc1 _ _)⟩)
  clear h1 g1 ho1 hv hr H0 HZ HG
  go_wp2_with fail
  generalize w1.alloc (.cells #[.int .i64 v1, .int .i64 0, .int .i64 0, .int .i64 0, .int .i64 0, .int .i64 0, .int .i64 0, .bool false, .slice none 0 0, .slice none 0 0, .int .i64 0, .int .i64 0, .int .i64 0] 42) = W1 at *
  generalize w1.heap.size = xb at *
  refine (HX1.out.num HB.out).mono ?_
  rintro e w2 ⟨rfl, hx⟩
  obtain ⟨v2, hv⟩ : ∃ v, (rdNm r1).1 = v := ⟨_, rfl⟩
  obtain ⟨r2, hr⟩ : ∃ r', (rdNm r1).2 = r' := ⟨_, rfl⟩
  have EQ2 := Lib.hid (show rdNm r1 = (v2, r2) from Prod.ext hv hr)
  rw [hr] at hx
  rw [hv]
  have HX := Lib.hid hx
  clear HX1 hv hr
  have c := hx.cell 1
  have f := hx.free 1
  simp at c
  clear hx
  go_wp2_with fail
  clear c f
  have HX2 := Lib.hid (show RZ b w r2 xb #[.int .i64 v1, .int .i64 v2, .int .i64 0, .int .i64 0, .int .i64 0, .int .i64 0, .int .i64 0, .bool false, .slice none 0 0, .slice none 0 0, .int .i64 0, .int .i64 0, .int .i64 0] w.heap.size #[.int .i64 0, .int .i64 0, .int .i64 0, .int .i64 0, .int .i64 0, .int .i64 0, .int .i64 0, .bool false, .slice none 0 0, .slice none 0 0, .int .i64 0, .int .i64 0, .int .i64 0] 42 (w2.setCell ⟨xb, 1, none⟩ (.int .i64 v2)) by simpa using HX.out.set HB.out 1 (.int .i64 v2))
  clear HX
  generalize w2.setCell ⟨xb, 1, none⟩ (.int .i64 v2) = W2 at *
  refine (HX2.out.num HB.out).mono ?_
  rintro e w3 ⟨rfl, hx⟩
  obtain ⟨v3, hv⟩ : ∃ v, (rdNm r2).1 = v := ⟨_, rfl⟩
  obtain ⟨r3, hr⟩ : ∃ r', (rdNm r2).2 = r' := ⟨_, rfl⟩
  have EQ3 := Lib.hid (show rdNm r2 = (v3, r3) from Prod.ext hv hr)
  rw [hr] at hx
  rw [hv]
  have HX := Lib.hid hx
  clear HX2 hv hr
  have c := hx.cell 2
  have f := hx.free 2
  simp at c
  clear hx
  go_wp2_with fail
  clear c f
  have HX3 := Lib.hid (show RZ b w r3 xb #[.int .i64 v1, .int .i64 v2, .int .i64 v3, .int .i64 0, .int .i64 0, .int .i64 0, .int .i64 0, .bool false, .slice none 0 0, .slice none 0 0, .int .i64 0, .int .i64 0, .int .i64 0] w.heap.size #[.int .i64 0, .int .i64 0, .int .i64 0, .int .i64 0, .int .i64 0, .int .i64 0, .int .i64 0, .bool false, .slice none 0 0, .slice none 0 0, .int .i64 0, .int .i64 0, .int .i64 0] 42 (w3.setCell ⟨xb, 2, none⟩ (.int .i64 v3)) by simpa using HX.out.set HB.out 2 (.int .i64 v3))
  clear HX
  generalize w3.setCell ⟨xb, 2, none⟩ (.int .i64 v3) = W3 at *
  go_loopw [4] (fun q wr => ∃ i : Nat, q = .int .i64 (i : Int) ∧ i ≤ 4 ∧ RZ b w (stR r3 i) xb #[.int .i64 v1, .int .i64 v2, .int .i64 v3, .int .i64 (if 0 < i then stV r3 0 else 0), .int .i64 (if 1 < i then stV r3 1 else 0), .int .i64 (if 2 < i then stV r3 2 else 0), .int .i64 (if 3 < i then stV r3 3 else 0), .bool false, .slice none 0 0, .slice none 0 0, .int .i64 0, .int .i64 0, .int .i64 0] w.heap.size #[.int .i64 0, .int .i64 0, .int .i64 0, .int .i64 0, .int .i64 0, .int .i64 0, .int .i64 0, .bool false, .slice none 0 0, .slice none 0 0, .int .i64 0, .int .i64 0, .int .i64 0] 42 wr) (fun q _ => 4 - (intOf q).toNat)
  case atStart => exact ⟨0, rfl, by omega, by simpa [stR] using HX3.out⟩
  case round =>
    obtain ⟨i, rfl, hi, hx⟩ := hrel
    clear HX3
    by_cases hlt : i < 4
    · obtain rfl | rfl | rfl | rfl : i = 0 ∨ i = 1 ∨ i = 2 ∨ i = 3 := by omega
      · have HX := Lib.hid (show RZ b w (stR r3 0) xb #[.int .i64 v1, .int .i64 v2, .int .i64 v3, .int .i64 0, .int .i64 0, .int .i64 0, .int .i64 0, .bool false, .slice none 0 0, .slice none 0 0, .int .i64 0, .int .i64 0, .int .i64 0] w.heap.size #[.int .i64 0, .int .i64 0, .int .i64 0, .int .i64 0, .int .i64 0, .int .i64 0, .int .i64 0, .bool false, .slice none 0 0, .slice none 0 0, .int .i64 0, .int .i64 0, .int .i64 0] 42 wr by simpa using hx)
        clear hx
        go_wp2_with fail
        refine (HX.out.num HB.out).mono ?_
        rintro e w4 ⟨rfl, hx⟩
        rw [show (rdNm (stR r3 0)).1 = stV r3 0 from rfl]
        have HX4 := Lib.hid (show RZ b w (stR r3 1) xb #[.int .i64 v1, .int .i64 v2, .int .i64 v3, .int .i64 0, .int .i64 0, .int .i64 0, .int .i64 0, .bool false, .slice none 0 0, .slice none 0 0, .int .i64 0, .int .i64 0, .int .i64 0] w.heap.size #[.int .i64 0, .int .i64 0, .int .i64 0, .int .i64 0, .int .i64 0, .int .i64 0, .int .i64 0, .bool false, .slice none 0 0, .slice none 0 0, .int .i64 0, .int .i64 0, .int .i64 0] 42 w4 from hx)
        have c := hx.cell 3
        have f := hx.free 3
        simp at c
        clear hx HX
        obtain ⟨vq, hvq⟩ : ∃ v, stV r3 0 = v := ⟨_, rfl⟩
        rw [hvq]
        have HVq := Lib.hid hvq
        clear hvq
        go_wp2_with fail
        have HX5 := Lib.hid (show RZ b w (stR r3 1) xb #[.int .i64 v1, .int .i64 v2, .int .i64 v3, .int .i64 vq, .int .i64 0, .int .i64 0, .int .i64 0, .bool false, .slice none 0 0, .slice none 0 0, .int .i64 0, .int .i64 0, .int .i64 0] w.heap.size #[.int .i64 0, .int .i64 0, .int .i64 0, .int .i64 0, .int .i64 0, .int .i64 0, .int .i64 0, .bool false, .slice none 0 0, .slice none 0 0, .int .i64 0, .int .i64 0, .int .i64 0] 42 (w4.setCell ⟨xb, 3, none⟩ (.int .i64 vq)) by simpa using HX4.out.set HB.out 3 (.int .i64 vq))
        exact ⟨⟨1, rfl, by omega, by have h := HX5.out; simp only [HVq.out]; simpa using h⟩, by simp [intOf]⟩
      · have HX := Lib.hid (show RZ b w (stR r3 1) xb #[.int .i64 v1, .int .i64 v2, .int .i64 v3, .int .i64 (stV r3 0), .int .i64 0, .int .i64 0, .int .i64 0, .bool false, .slice none 0 0, .slice none 0 0, .int .i64 0, .int .i64 0, .int .i64 0] w.heap.size #[.int .i64 0, .int .i64 0, .int .i64 0, .int .i64 0, .int .i64 0, .int .i64 0, .int .i64 0, .bool false, .slice none 0 0, .slice none 0 0, .int .i64 0, .int .i64 0, .int .i64 0] 42 wr by simpa using hx)
        clear hx
        go_wp2_with fail
        refine (HX.out.num HB.out).mono ?_
        rintro e w4 ⟨rfl, hx⟩
        rw [show (rdNm (stR r3 1)).1 = stV r3 1 from rfl]
        have HX4 := Lib.hid (show RZ b w (stR r3 2) xb #[.int .i64 v1, .int .i64 v2, .int .i64 v3, .int .i64 (stV r3 0), .int .i64 0, .int .i64 0, .int .i64 0, .bool false, .slice none 0 0, .slice none 0 0, .int .i64 0, .int .i64 0, .int .i64 0] w.heap.size #[.int .i64 0, .int .i64 0, .int .i64 0, .int .i64 0, .int .i64 0, .int .i64 0, .int .i64 0, .bool false, .slice none 0 0, .slice none 0 0, .int .i64 0, .int .i64 0, .int .i64 0] 42 w4 from hx)
        have c := hx.cell 4
        have f := hx.free 4
        simp at c
        clear hx HX
        obtain ⟨vq, hvq⟩ : ∃ v, stV r3 1 = v := ⟨_, rfl⟩
        rw [hvq]
        have HVq := Lib.hid hvq
        clear hvq
        go_wp2_with fail
        have HX5 := Lib.hid (show RZ b w (stR r3 2) xb #[.int .i64 v1, .int .i64 v2, .int .i64 v3, .int .i64 (stV r3 0), .int .i64 vq, .int .i64 0, .int .i64 0, .bool false, .slice none 0 0, .slice none 0 0, .int .i64 0, .int .i64 0, .int .i64 0] w.heap.size #[.int .i64 0, .int .i64 0, .int .i64 0, .int .i64 0, .int .i64 0, .int .i64 0, .int .i64 0, .bool false, .slice none 0 0, .slice none 0 0, .int .i64 0, .int .i64 0, .int .i64 0] 42 (w4.setCell ⟨xb, 4, none⟩ (.int .i64 vq)) by simpa using HX4.out.set HB.out 4 (.int .i64 vq))
        exact ⟨⟨2, rfl, by omega, by have h := HX5.out; simp only [HVq.out]; simpa using h⟩, by simp [intOf]⟩
      · have HX := Lib.hid (show RZ b w (stR r3 2) xb #[.int .i64 v1, .int .i64 v2, .int .i64 v3, .int .i64 (stV r3 0), .int .i64 (stV r3 1), .int .i64 0, .int .i64 0, .bool false, .slice none 0 0, .slice none 0 0, .int .i64 0, .int .i64 0, .int .i64 0] w.heap.size #[.int .i64 0, .int .i64 0, .int .i64 0, .int .i64 0, .int .i64 0, .int .i64 0, .int .i64 0, .bool false, .slice none 0 0, .slice none 0 0, .int .i64 0, .int .i64 0, .int .i64 0] 42 wr by simpa using hx)
        clear hx
        go_wp2_with fail
        refine (HX.out.num HB.out).mono ?_
        rintro e w4 ⟨rfl, hx⟩
        rw [show (rdNm (stR r3 2)).1 = stV r3 2 from rfl]
        have HX4 := Lib.hid (show RZ b w (stR r3 3) xb #[.int .i64 v1, .int .i64 v2, .int .i64 v3, .int .i64 (stV r3 0), .int .i64 (stV r3 1), .int .i64 0, .int .i64 0, .bool false, .slice none 0 0, .slice none 0 0, .int .i64 0, .int .i64 0, .int .i64 0] w.heap.size #[.int .i64 0, .int .i64 0, .int .i64 0, .int .i64 0, .int .i64 0, .int .i64 0, .int .i64 0, .bool false, .slice none 0 0, .slice none 0 0, .int .i64 0, .int .i64 0, .int .i64 0] 42 w4 from hx)
        have c := hx.cell 5
        have f := hx.free 5
        simp at c
        clear hx HX
        obtain ⟨vq, hvq⟩ : ∃ v, stV r3 2 = v := ⟨_, rfl⟩
        rw [hvq]
        have HVq := Lib.hid hvq
        clear hvq
        go_wp2_with fail
        have HX5 := Lib.hid (show RZ b w (stR r3 3) xb #[.int .i64 v1, .int .i64 v2, .int .i64 v3, .int .i64 (stV r3 0), .int .i64 (stV r3 1), .int .i64 vq, .int .i64 0, .bool false, .slice none 0 0, .slice none 0 0, .int .i64 0, .int .i64 0, .int .i64 0] w.heap.size #[.int .i64 0, .int .i64 0, .int .i64 0, .int .i64 0, .int .i64 0, .int .i64 0, .int .i64 0, .bool false, .slice none 0 0, .slice none 0 0, .int .i64 0, .int .i64 0, .int .i64 0] 42 (w4.setCell ⟨xb, 5, none⟩ (.int .i64 vq)) by simpa using HX4.out.set HB.out 5 (.int .i64 vq))
        exact ⟨⟨3, rfl, by omega, by have h := HX5.out; simp only [HVq.out]; simpa using h⟩, by simp [intOf]⟩
      · have HX := Lib.hid (show RZ b w (stR r3 3) xb #[.int .i64 v1, .int .i64 v2, .int .i64 v3, .int .i64 (stV r3 0), .int .i64 (stV r3 1), .int .i64 (stV r3 2), .int .i64 0, .bool false, .slice none 0 0, .slice none 0 0, .int .i64 0, .int .i64 0, .int .i64 0] w.heap.size #[.int .i64 0, .int .i64 0, .int .i64 0, .int .i64 0, .int .i64 0, .int .i64 0, .int .i64 0, .bool false, .slice none 0 0, .slice none 0 0, .int .i64 0, .int .i64 0, .int .i64 0] 42 wr by simpa using hx)
        clear hx
        go_wp2_with fail
        refine (HX.out.num HB.out).mono ?_
        rintro e w4 ⟨rfl, hx⟩
        rw [show (rdNm (stR r3 3)).1 = stV r3 3 from rfl]
        have HX4 := Lib.hid (show RZ b w (stR r3 4) xb #[.int .i64 v1, .int .i64 v2, .int .i64 v3, .int .i64 (stV r3 0), .int .i64 (stV r3 1), .int .i64 (stV r3 2), .int .i64 0, .bool false, .slice none 0 0, .slice none 0 0, .int .i64 0, .int .i64 0, .int .i64 0] w.heap.size #[.int .i64 0, .int .i64 0, .int .i64 0, .int .i64 0, .int .i64 0, .int .i64 0, .int .i64 0, .bool false, .slice none 0 0, .slice none 0 0, .int .i64 0, .int .i64 0, .int .i64 0] 42 w4 from hx)
        have c := hx.cell 6
        have f := hx.free 6
        simp at c
        clear hx HX
        obtain ⟨vq, hvq⟩ : ∃ v, stV r3 3 = v := ⟨_, rfl⟩
        rw [hvq]
        have HVq := Lib.hid hvq
        clear hvq
        go_wp2_with fail
        have HX5 := Lib.hid (show RZ b w (stR r3 4) xb #[.int .i64 v1, .int .i64 v2, .int .i64 v3, .int .i64 (stV r3 0), .int .i64 (stV r3 1), .int .i64 (stV r3 2), .int .i64 vq, .bool false, .slice none 0 0, .slice none 0 0, .int .i64 0, .int .i64 0, .int .i64 0] w.heap.size #[.int .i64 0, .int .i64 0, .int .i64 0, .int .i64 0, .int .i64 0, .int .i64 0, .int .i64 0, .bool false, .slice none 0 0, .slice none 0 0, .int .i64 0, .int .i64 0, .int .i64 0] 42 (w4.setCell ⟨xb, 6, none⟩ (.int .i64 vq)) by simpa using HX4.out.set HB.out 6 (.int .i64 vq))
        exact ⟨⟨4, rfl, by omega, by have h := HX5.out; simp only [HVq.out]; simpa using h⟩, by simp [intOf]⟩
    · obtain rfl : i = 4 := by omega
      have HX := Lib.hid (show RZ b w (stR r3 4) xb #[.int .i64 v1, .int .i64 v2, .int .i64 v3, .int .i64 (stV r3 0), .int .i64 (stV r3 1), .int .i64 (stV r3 2), .int .i64 (stV r3 3), .bool false, .slice none 0 0, .slice none 0 0, .int .i64 0, .int .i64 0, .int .i64 0] w.heap.size #[.int .i64 0, .int .i64 0, .int .i64 0, .int .i64 0, .int .i64 0, .int .i64 0, .int .i64 0, .bool false, .slice none 0 0, .slice none 0 0, .int .i64 0, .int .i64 0, .int .i64 0] 42 wr by simpa using hx)
      clear hx hlt hi
      obtain ⟨r7, hr7⟩ : ∃ r', stR r3 4 = r' := ⟨_, rfl⟩
      obtain ⟨c0, hc0⟩ : ∃ v, stV r3 0 = v := ⟨_, rfl⟩
      obtain ⟨c1, hc1⟩ : ∃ v, stV r3 1 = v := ⟨_, rfl⟩
      obtain ⟨c2, hc2⟩ : ∃ v, stV r3 2 = v := ⟨_, rfl⟩
      obtain ⟨c3, hc3⟩ : ∃ v, stV r3 3 = v := ⟨_, rfl⟩
      rw [hr7, hc0, hc1, hc2, hc3] at HX
      have HC := Lib.hid (⟨hr7, hc0, hc1, hc2, hc3⟩ : stR r3 4 = r7 ∧ stV r3 0 = c0 ∧ stV r3 1 = c1 ∧ stV r3 2 = c2 ∧ stV r3 3 = c3)
      clear hr7 hc0 hc1 hc2 hc3
      go_wp2_with fail
      refine (HX.out.num HB.out).mono ?_
      rintro e w8 ⟨rfl, hx⟩
      obtain ⟨v8, hv⟩ : ∃ v, (rdNm r7).1 = v := ⟨_, rfl⟩
      obtain ⟨r8, hr⟩ : ∃ r', (rdNm r7).2 = r' := ⟨_, rfl⟩
      have EQ8 := Lib.hid (show rdNm r7 = (v8, r8) from Prod.ext hv hr)
      rw [hr] at hx
      rw [hv]
      have HX := Lib.hid hx
      clear hv hr
      have c := hx.cell 7
      have f := hx.free 7
      simp at c
      clear hx
      go_wp2_with fail
      clear c f
      have HX8 := Lib.hid (show RZ b w r8 xb #[.int .i64 v1, .int .i64 v2, .int .i64 v3, .int .i64 c0, .int .i64 c1, .int .i64 c2, .int .i64 c3, .bool (v8 == 1), .slice none 0 0, .slice none 0 0, .int .i64 0, .int .i64 0, .int .i64 0] w.heap.size #[.int .i64 0, .int .i64 0, .int .i64 0, .int .i64 0, .int .i64 0, .int .i64 0, .int .i64 0, .bool false, .slice none 0 0, .slice none 0 0, .int .i64 0, .int .i64 0, .int .i64 0] 42 (w8.setCell ⟨xb, 7, none⟩ (.bool (v8 == 1))) by simpa using HX.out.set HB.out 7 (.bool (v8 == 1)))
      clear HX
      generalize w8.setCell ⟨xb, 7, none⟩ (.bool (v8 == 1)) = W8 at *
      refine (HX8.out.num HB.out).mono ?_
      rintro e w9 ⟨rfl, hx⟩
      obtain ⟨v9, hv⟩ : ∃ v, (rdNm r8).1 = v := ⟨_, rfl⟩
      obtain ⟨r9, hr⟩ : ∃ r', (rdNm r8).2 = r' := ⟨_, rfl⟩
      have EQ9 := Lib.hid (show rdNm r8 = (v9, r9) from Prod.ext hv hr)
      rw [hr] at hx
      rw [hv]
      have HX := Lib.hid hx
      clear HX8 hv hr
      clear hx
      obtain ⟨n9, rfl⟩ : ∃ n9 : Nat, v9 = (n9 : Int) := ⟨v9.toNat, by have h := congrArg Prod.fst EQ9.out; have h2 : (0 : Int) ≤ (rdNm r8).1 := Int.natCast_nonneg _; rw [h] at h2; show v9 = _; have h3 : 0 ≤ v9 := h2; omega⟩
      obtain ⟨K, hK⟩ : ∃ K, min n9 10 = K := ⟨_, rfl⟩
      obtain ⟨T, hT⟩ : ∃ T, (rdRep rdNm K r9).1 = T := ⟨_, rfl⟩
      obtain ⟨rT, hrT⟩ : ∃ rT, (rdRep rdNm K r9).2 = rT := ⟨_, rfl⟩
      have HK := Lib.hid hK
      have HTr := Lib.hid (⟨hT, hrT⟩ : (rdRep rdNm K r9).1 = T ∧ (rdRep rdNm K r9).2 = rT)
      clear hK hT hrT
      go_upto_region 10 with fail
      go_cut [6] from 33 to 52 (fun q wr => q = .int .i64 0 ∧ wr = w9)
      case first =>
        go_wp2_with fail
        go_meet
        exact ⟨rfl, rfl⟩
      case rest =>
        obtain ⟨rfl, rfl⟩ := hcut
        rename_i KK hKK
        refine hKK _ _ ?_
        go_cut [6] from 33 to 52 (fun q wr => ∃ sv, RZ b w rT xb #[.int .i64 v1, .int .i64 v2, .int .i64 v3, .int .i64 c0, .int .i64 c1, .int .i64 c2, .int .i64 c3, .bool (v8 == 1), sv, .slice none 0 0, .int .i64 0, .int .i64 0, .int .i64 0] w.heap.size #[.int .i64 0, .int .i64 0, .int .i64 0, .int .i64 0, .int .i64 0, .int .i64 0, .int .i64 0, .bool false, .slice none 0 0, .slice none 0 0, .int .i64 0, .int .i64 0, .int .i64 0] 42 wr ∧ wr.ownsRow (xb + 1) 3 1 sv T.length (T.map (Value.int .i64)))
        case first =>
          go_wp2_with fail
          go_loopw [6] (fun q wr => ∃ (i : Nat) (Ti : List Int) (ri : RdS) (sv : Value), q = .int .i64 (i : Int) ∧ Ti.length = i ∧ i ≤ K ∧ (Ti ++ (rdRep rdNm (K - i) ri).1 = T ∧ (rdRep rdNm (K - i) ri).2 = rT) ∧ RZ b w ri xb #[.int .i64 v1, .int .i64 v2, .int .i64 v3, .int .i64 c0, .int .i64 c1, .int .i64 c2, .int .i64 c3, .bool (v8 == 1), sv, .slice none 0 0, .int .i64 0, .int .i64 0, .int .i64 0] w.heap.size #[.int .i64 0, .int .i64 0, .int .i64 0, .int .i64 0, .int .i64 0, .int .i64 0, .int .i64 0, .bool false, .slice none 0 0, .slice none 0 0, .int .i64 0, .int .i64 0, .int .i64 0] 42 wr ∧ wr.ownsRow (xb + 1) 3 1 sv i (Ti.map (Value.int .i64))) (fun q _ => 10 - (intOf q).toNat)
          case atStart => exact ⟨0, [], r9, .slice none 0 0, rfl, rfl, Nat.zero_le _, ⟨by simpa using HTr.out.1, by simpa using HTr.out.2⟩, HX.out, World.ownsRow_nil _ _ _ _⟩
          case round =>
            obtain ⟨i, Ti, ri, sv, rfl, hl, hiK, hre, hx, hown⟩ := hrel
            have HXr := Lib.hid hx
            have HOw := Lib.hid hown
            have HRe := Lib.hid hre
            have HLi := Lib.hid hl
            clear hx hown hre hl HX
            by_cases hlt : i < K
            · have h1 : i < n9 := by have := HK.out; omega
              have h2 : i < 10 := by have := HK.out; omega
              have HOk := Lib.hid (HXr.out.1.ok)
              rcases hst : ri.2 with _ | _
              · rw [hst] at HOk
                go_wp2_with fail
                refine HOk.out.mono ?_
                rintro e w' ⟨rfl, rfl⟩
                go_wp2_with fail
                have HXd := Lib.hid (HXr.out.grow HB.out (Below.refl wr.heap.size wr).drew)
                have HOd := Lib.hid (show (wr.drew).ownsRow (xb + 1) 3 1 sv i (Ti.map (Value.int .i64)) from HOw.out.drew)
                have HSz := Lib.hid HXr.out.lt
                have c8 := HXr.out.cell 8
                have f8 := HXr.out.free 8
                simp at c8
                obtain ⟨vq, hvq⟩ : ∃ v, (rdNm ri).1 = v := ⟨_, rfl⟩
                obtain ⟨rq, hrq⟩ : ∃ r', (rdNm ri).2 = r' := ⟨_, rfl⟩
                have EQq := Lib.hid (show rdNm ri = (vq, rq) from Prod.ext hvq hrq)
                have HCn := Lib.hid (HXd.out.numg HB.out)
                rw [hvq, hrq] at HCn
                clear hvq hrq
                obtain ⟨i0, hi0, hz0, hz1, hz2⟩ := info_parts intInfo
                go_region_law (first
                  | (refine step_append_lies _ (by rfl) _ _ _ (by rfl) (xb + 1) 3 i0 (.int .i64 0) 1 8 Tryz.underlying39 hi0 hz0 hz1 hz2 rfl (by omega) sv i (Ti.map (Value.int .i64)) (by rfl) HO5.out ⟨w5.heap.size, 0, none⟩ 1 1 [.int .i64 vq] (by rfl) (by rfl) HN5.out (fun u hu => by rw [List.mem_singleton.1 hu]; rfl) (by omega) (by unfold maxLen; omega) (by omega) HS5.out _ (by rfl) ?_; intro g2 gc2 w7 hown2 hgrow2 hat hlt2; have HX7 := Lib.hid (HX6.out.row HB.out (by have := HXd.out.2.1; have := HXd.out.1.2.2.1; have := HXd.out.2.2.1; omega) hgrow2 (fun k e => by have := (HO5.out.lt k e).1; omega)); have x8 := HX7.out.cell 8; have y8 := HX7.out.free 8; simp at x8; have HO7 := Lib.hid hown2; clear hat hlt2 hown2 hgrow2)
                  | (go_simp; go_at_call 32; refine HCn.out.mono ?_; rintro e w5 ⟨rfl, hx5, g5⟩; have HX5 := Lib.hid hx5; have HX6 := Lib.hid (hx5.grow HB.out (below_alloc1 w5 (.cells #[.int .i64 vq] 3))); have HO5 := Lib.hid ((own_kept HOd.out g5 (by have := HB.out; have := HXd.out.1.2.2.1; omega)).alloc (.cells #[.int .i64 vq] 3)); have HN5 := Lib.hid ((blkAt_fresh w5 #[.int .i64 vq] 3).plus (l := [.int .i64 vq]) rfl); have HS5 := Lib.hid (show xb + 1 ≤ (w5.alloc (.cells #[.int .i64 vq] 3)).heap.size by have := hx5.lt; simp; omega); have c5 := hx5.cell 8; simp at c5; have z5 := hx5.lt; clear hx5 g5))
                all_goals
                  have HXn := Lib.hid (show RZ b w rq xb #[.int .i64 v1, .int .i64 v2, .int .i64 v3, .int .i64 c0, .int .i64 c1, .int .i64 c2, .int .i64 c3, .bool (v8 == 1), .slice (some ⟨g2, 0, none⟩) (i + 1) gc2, .slice none 0 0, .int .i64 0, .int .i64 0, .int .i64 0] w.heap.size #[.int .i64 0, .int .i64 0, .int .i64 0, .int .i64 0, .int .i64 0, .int .i64 0, .int .i64 0, .bool false, .slice none 0 0, .slice none 0 0, .int .i64 0, .int .i64 0, .int .i64 0] 42 (w7.setCell ⟨xb, 8, none⟩ (.slice (some ⟨g2, 0, none⟩) (i + 1) gc2)) by simpa using HX7.out.set HB.out 8 (.slice (some ⟨g2, 0, none⟩) (i + 1) gc2))
                  have HOn := Lib.hid (show (w7.setCell ⟨xb, 8, none⟩ (.slice (some ⟨g2, 0, none⟩) (i + 1) gc2)).ownsRow (xb + 1) 3 1 (.slice (some ⟨g2, 0, none⟩) (i + 1) gc2) (i + 1) ((Ti ++ [vq]).map (Value.int .i64)) by rw [List.map_append]; exact ownsRow_setCell_below HO7.out (a := ⟨xb, 8, none⟩) (by show xb < xb + 1; omega) _)
                  have HRn := Lib.hid (show (Ti ++ [vq]) ++ (rdRep rdNm (K - (i + 1)) rq).1 = T ∧ (rdRep rdNm (K - (i + 1)) rq).2 = rT by
                    have h := HRe.out
                    rw [show K - i = (K - (i + 1)) + 1 by omega, rep_step rdNm ri _ vq rq hst EQq.out] at h
                    simpa using h)
                  go_wp2_with fail
                  go_roundw
                  case rel => exact ⟨i + 1, Ti ++ [vq], rq, _, by go_num, by have := HLi.out; simp; omega, by omega, HRn.out, HXn.out, HOn.out⟩
                  case measure => simp [intOf]; omega
              · obtain ⟨hTi, hri⟩ : Ti = T ∧ ri = rT := by
                  have h := HRe.out
                  rw [rep_stop rdNm ri _ hst] at h
                  exact ⟨by simpa using h.1, h.2⟩
                have HEn := Lib.hid (show RZ b w rT xb #[.int .i64 v1, .int .i64 v2, .int .i64 v3, .int .i64 c0, .int .i64 c1, .int .i64 c2, .int .i64 c3, .bool (v8 == 1), sv, .slice none 0 0, .int .i64 0, .int .i64 0, .int .i64 0] w.heap.size #[.int .i64 0, .int .i64 0, .int .i64 0, .int .i64 0, .int .i64 0, .int .i64 0, .int .i64 0, .bool false, .slice none 0 0, .slice none 0 0, .int .i64 0, .int .i64 0, .int .i64 0] 42 wr ∧ wr.ownsRow (xb + 1) 3 1 sv T.length (T.map (Value.int .i64)) from ⟨by rw [← hri]; exact HXr.out, by rw [← hTi, HLi.out]; exact HOw.out⟩)
                rw [hst] at HOk
                clear hTi hri
                go_wp2_with fail
                refine HOk.out.mono ?_
                rintro e w' ⟨rfl, rfl⟩
                go_wp2_with fail
                go_meet
                case rel => exact ⟨sv, HEn.out⟩
            · obtain ⟨hTi, hri⟩ : Ti = T ∧ ri = rT := by
                have h := HRe.out
                rw [show K - i = 0 by omega] at h
                exact ⟨by simpa [rdRep] using h.1, h.2⟩
              have HEn := Lib.hid (show RZ b w rT xb #[.int .i64 v1, .int .i64 v2, .int .i64 v3, .int .i64 c0, .int .i64 c1, .int .i64 c2, .int .i64 c3, .bool (v8 == 1), sv, .slice none 0 0, .int .i64 0, .int .i64 0, .int .i64 0] w.heap.size #[.int .i64 0, .int .i64 0, .int .i64 0, .int .i64 0, .int .i64 0, .int .i64 0, .int .i64 0, .bool false, .slice none 0 0, .slice none 0 0, .int .i64 0, .int .i64 0, .int .i64 0] 42 wr ∧ wr.ownsRow (xb + 1) 3 1 sv T.length (T.map (Value.int .i64)) from ⟨by rw [← hri]; exact HXr.out, by rw [← hTi, HLi.out]; exact HOw.out⟩)
              have hKi : i = min n9 10 := by have := HK.out; omega
              clear hTi hri
              by_cases h1 : i < n9
              · have h2 : ¬ i < 10 := by omega
                go_wp2_with fail
                go_meet
                case rel => exact ⟨sv, HEn.out⟩
              · go_wp2_with fail
                go_meet
                case rel => exact ⟨sv, HEn.out⟩
        case rest =>
          obtain ⟨sv, hx, hown⟩ := hcut
          have HS := Lib.hid (show SX b w rT (XA xb w.heap.size #[.int .i64 v1, .int .i64 v2, .int .i64 v3, .int .i64 c0, .int .i64 c1, .int .i64 c2, .int .i64 c3, .bool (v8 == 1), sv, .slice none 0 0, .int .i64 0, .int .i64 0, .int .i64 0] sv T) wc from ⟨⟨hx.1.1, hx.1.2.1, hx.1.2.2.2.2⟩, ⟨hx.1.2.2.2.1, hx.2.2.2⟩, hown⟩)
          have hzx : w.heap.size < xb := by have := hx.1.2.2.1; have := hx.2.2.1; omega
          have hbz := HB.out
          have HZ := Lib.hid hzx
          have KA := Lib.hid (kpt_XA (cs := #[.int .i64 v1, .int .i64 v2, .int .i64 v3, .int .i64 c0, .int .i64 c1, .int .i64 c2, .int .i64 c3, .bool (v8 == 1), sv, .slice none 0 0, .int .i64 0, .int .i64 0, .int .i64 0]) (sv := sv) (T := T) hbz hzx)
          clear hx hown HX hbz hzx
          go_wp2_with fail
          refine (HS.out.num KA.out).mono ?_
          rintro e w10 ⟨rfl, hx⟩
          obtain ⟨v10, hv⟩ : ∃ v, (rdNm rT).1 = v := ⟨_, rfl⟩
          obtain ⟨r10, hr⟩ : ∃ r', (rdNm rT).2 = r' := ⟨_, rfl⟩
          have EQ10 := Lib.hid (show rdNm rT = (v10, r10) from Prod.ext hv hr)
          rw [hr] at hx
          rw [hv]
          have HX := Lib.hid hx
          clear hx hv hr HS
          obtain ⟨n10, rfl⟩ : ∃ n : Nat, v10 = (n : Int) := ⟨v10.toNat, by have h := congrArg Prod.fst EQ10.out; have h2 : (0 : Int) ≤ (rdNm rT).1 := Int.natCast_nonneg _; rw [h] at h2; have h3 : 0 ≤ v10 := h2; omega⟩
          obtain ⟨M, hM⟩ : ∃ M, min n10 40 = M := ⟨_, rfl⟩
          obtain ⟨C, hC⟩ : ∃ C, (rdRep rdIns M r10).1 = C := ⟨_, rfl⟩
          obtain ⟨rC, hrC⟩ : ∃ rC, (rdRep rdIns M r10).2 = rC := ⟨_, rfl⟩
          have HM := Lib.hid hM
          have HCr := Lib.hid (⟨hC, hrC⟩ : (rdRep rdIns M r10).1 = C ∧ (rdRep rdIns M r10).2 = rC)
          clear hM hC hrC
          go_upto_region 15 with fail
          go_cut [7] from 55 to 82 (fun q wr => q = .int .i64 0 ∧ wr = w10)
          case first =>
            go_wp2_with fail
            go_meet
            exact ⟨rfl, rfl⟩
          case rest =>
            obtain ⟨rfl, rfl⟩ := hcut
            rename_i KK hKK
            refine hKK _ _ ?_
            go_cut [7, 8] from 55 to 82 (fun q q8 wr => ∃ cv, SX b w rC (XB xb w.heap.size #[.int .i64 v1, .int .i64 v2, .int .i64 v3, .int .i64 c0, .int .i64 c1, .int .i64 c2, .int .i64 c3, .bool (v8 == 1), sv, cv, .int .i64 0, .int .i64 0, .int .i64 0] sv T cv C.length C) wr)
            case first =>
              go_wp2_with fail
              go_loopw [7] (fun q wr => ∃ (i : Nat) (Ci : List Ins) (ri : RdS) (cv : Value), q = .int .i64 (i : Int) ∧ Ci.length = i ∧ i ≤ M ∧ (Ci ++ (rdRep rdIns (M - i) ri).1 = C ∧ (rdRep rdIns (M - i) ri).2 = rC) ∧ SX b w ri (XB xb w.heap.size #[.int .i64 v1, .int .i64 v2, .int .i64 v3, .int .i64 c0, .int .i64 c1, .int .i64 c2, .int .i64 c3, .bool (v8 == 1), sv, cv, .int .i64 0, .int .i64 0, .int .i64 0] sv T cv i Ci) wr) (fun q _ => 40 - (intOf q).toNat)
              case atStart => exact ⟨0, [], r10, .slice none 0 0, rfl, rfl, Nat.zero_le _, ⟨by simpa using HCr.out.1, by simpa using HCr.out.2⟩, HX.out.to (fun h => ⟨h, World.ownsRow_nil _ _ _ _⟩)⟩
              case round =>
                obtain ⟨i, Ci, ri, cv, rfl, hl, hiK, hre, hx⟩ := hrel
                have HXr := Lib.hid hx
                have HRe := Lib.hid hre
                have HLi := Lib.hid hl
                clear hx hre hl HX
                by_cases hlt : i < M
                · have h1 : i < n10 := by have := HM.out; omega
                  have h2 : i < 40 := by have := HM.out; omega
                  have HOk := Lib.hid (HXr.out.ok)
                  rcases hst : ri.2 with _ | _
                  · rw [hst] at HOk
                    go_wp2_with fail
                    refine HOk.out.mono ?_
                    rintro e w' ⟨rfl, rfl⟩
                    go_wp2_with fail
                    have hbz := HB.out
                    have hzx := HZ.out
                    refine (HXr.out.num (kpt_XB hbz hzx)).mono ?_
                    rintro e w11 ⟨rfl, hx⟩
                    obtain ⟨vo, hvo⟩ : ∃ v, (rdNm ri).1 = v := ⟨_, rfl⟩
                    obtain ⟨ro, hro⟩ : ∃ r', (rdNm ri).2 = r' := ⟨_, rfl⟩
                    have EQo := Lib.hid (show rdNm ri = (vo, ro) from Prod.ext hvo hro)
                    rw [hro] at hx
                    rw [hvo]
                    have HX11 := Lib.hid hx
                    clear hx hvo hro hbz hzx
                    go_wp2_with fail
                    have HXQ := Lib.hid (show SX b w ro (XC xb w.heap.size #[.int .i64 v1, .int .i64 v2, .int .i64 v3, .int .i64 c0, .int .i64 c1, .int .i64 c2, .int .i64 c3, .bool (v8 == 1), sv, cv, .int .i64 0, .int .i64 0, .int .i64 0] sv T cv i Ci w11.heap.size #[.int .i64 vo, .int .i64 0, .int .i64 0]) (w11.alloc (.cells #[.int .i64 vo, .int .i64 0, .int .i64 0] 82)) from
                      (HX11.out.grow (kpt_XB HB.out HZ.out) (below_alloc1 w11 _)).to (fun h => ⟨h, blkAt_fresh w11 _ _⟩))
                    have HN := Lib.hid (show (xb < w11.heap.size ∧ b ≠ w11.heap.size) ∧ sv.ownBlock ≠ some w11.heap.size ∧ cv.ownBlock ≠ some w11.heap.size from ⟨⟨HX11.out.2.1.1.1.lt, by have := HX11.out.lt; omega⟩, own_fresh HX11.out.2.1.2 _ rfl, own_fresh HX11.out.2.2 _ rfl⟩)
                    clear HX11
                    generalize w11.alloc (.cells #[.int .i64 vo, .int .i64 0, .int .i64 0] 82) = W12 at *
                    generalize w11.heap.size = qb at *
                    have hbz := HB.out
                    have hzx := HZ.out
                    refine (HXQ.out.int (kpt_XC hbz hzx (Ne.symm HN.out.1.2))).mono ?_
                    rintro e w13 ⟨rfl, hx⟩
                    obtain ⟨va, hva⟩ : ∃ v, (rdInt ro).1 = v := ⟨_, rfl⟩
                    obtain ⟨ra, hra⟩ : ∃ r', (rdInt ro).2 = r' := ⟨_, rfl⟩
                    have EQa := Lib.hid (show rdInt ro = (va, ra) from Prod.ext hva hra)
                    rw [hra] at hx
                    rw [hva]
                    have HX13 := Lib.hid hx
                    have c := hx.2.2.cell 1
                    have f := hx.2.2.free 1
                    simp at c
                    clear hx hva hra hbz hzx HXQ
                    go_wp2_with fail
                    clear c f
                    have HX14 := Lib.hid (show SX b w ra (XC xb w.heap.size #[.int .i64 v1, .int .i64 v2, .int .i64 v3, .int .i64 c0, .int .i64 c1, .int .i64 c2, .int .i64 c3, .bool (v8 == 1), sv, cv, .int .i64 0, .int .i64 0, .int .i64 0] sv T cv i Ci qb #[.int .i64 vo, .int .i64 va, .int .i64 0]) (w13.setCell ⟨qb, 1, none⟩ (.int .i64 va)) from
                      HX13.out.put (by have := HN.out.1.1; have := HZ.out; omega) (Ne.symm HN.out.1.2) (by simpa using HX13.out.2.put HZ.out HN.out.1.1 HN.out.2.1 HN.out.2.2 1 (.int .i64 va)))
                    clear HX13
                    generalize w13.setCell ⟨qb, 1, none⟩ (.int .i64 va) = W14 at *
                    have hbz := HB.out
                    have hzx := HZ.out
                    refine (HX14.out.int (kpt_XC hbz hzx (Ne.symm HN.out.1.2))).mono ?_
                    rintro e w15 ⟨rfl, hx⟩
                    obtain ⟨vb, hvb⟩ : ∃ v, (rdInt ra).1 = v := ⟨_, rfl⟩
                    obtain ⟨rb2, hrb⟩ : ∃ r', (rdInt ra).2 = r' := ⟨_, rfl⟩
                    have EQb := Lib.hid (show rdInt ra = (vb, rb2) from Prod.ext hvb hrb)
                    rw [hrb] at hx
                    rw [hvb]
                    have HX15 := Lib.hid hx
                    have c := hx.2.2.cell 2
                    have f := hx.2.2.free 2
                    simp at c
                    have HX16 := Lib.hid (show SX b w rb2 (XC xb w.heap.size #[.int .i64 v1, .int .i64 v2, .int .i64 v3, .int .i64 c0, .int .i64 c1, .int .i64 c2, .int .i64 c3, .bool (v8 == 1), sv, cv, .int .i64 0, .int .i64 0, .int .i64 0] sv T cv i Ci qb #[.int .i64 vo, .int .i64 va, .int .i64 vb]) (w15.setCell ⟨qb, 2, none⟩ (.int .i64 vb)) from
                      HX15.out.put (by have := HN.out.1.1; have := HZ.out; omega) (Ne.symm HN.out.1.2) (by simpa using HX15.out.2.put HZ.out HN.out.1.1 HN.out.2.1 HN.out.2.2 2 (.int .i64 vb)))
                    clear hx hvb hrb hbz hzx HX14 HX15
                    go_upto_region 21 with fail
                    clear c f
                    generalize w15.setCell ⟨qb, 2, none⟩ (.int .i64 vb) = W16 at *
                    have q0 := HX16.out.2.2.cell 0
                    have q1 := HX16.out.2.2.cell 1
                    have q2 := HX16.out.2.2.cell 2
                    have c9 := HX16.out.2.1.1.1.1.cell 9
                    simp at q0 q1 q2 c9
                    obtain ⟨i0, hi0, hz0, hz1, hz2⟩ := info_parts insInfo
                    have HX17 := Lib.hid ((HX16.out.to (fun h => h.1)).grow (kpt_XB HB.out HZ.out) (below_alloc1 W16 (.cells #[.int .i64 vo, .int .i64 va, .int .i64 vb] 82)))
                    have HSz := Lib.hid (show xb + 1 ≤ (W16.alloc (.cells #[.int .i64 vo, .int .i64 va, .int .i64 vb] 82)).heap.size by have := HX17.out.2.1.1.1.lt; omega)
                    go_wp2_with (at_builtin; refine wpList_append_lies _ rfl _ _ 40 rfl (xb + 1) 82 i0 (.agg #[.int .i64 0, .int .i64 0, .int .i64 0]) 3 24 Tryz.underlying40 hi0 hz0 hz1 hz2 rfl (by omega) cv i (insCells Ci) rfl HX17.out.2.2 ⟨W16.heap.size, 0, none⟩ 1 1 [.int .i64 vo, .int .i64 va, .int .i64 vb] rfl rfl (new_cells W16 _ _) (fun u hu => by simp only [List.mem_cons, List.not_mem_nil, or_false] at hu; rcases hu with rfl | rfl | rfl <;> rfl) (by omega) (by unfold maxLen; omega) (by omega) HSz.out _ rfl ?_; intro g2 gc2 w18 hown2 hgrow2 hat hlt2; have HX18 := Lib.hid (show SX b w rb2 (XB xb w.heap.size #[.int .i64 v1, .int .i64 v2, .int .i64 v3, .int .i64 c0, .int .i64 c1, .int .i64 c2, .int .i64 c3, .bool (v8 == 1), sv, cv, .int .i64 0, .int .i64 0, .int .i64 0] sv T (.slice (some ⟨g2, 0, none⟩) (i + 1) gc2) (i + 1) (Ci ++ [⟨vo, va, vb⟩])) w18 from HX17.out.row hgrow2 (fun k e => by have := (HX17.out.2.2.lt k e).1; have := HZ.out; have := HB.out; omega) (HX17.out.2.app hgrow2 (by rw [insCells_snoc]; exact hown2))); have x9 := HX18.out.2.1.1.1.cell 9; have y9 := HX18.out.2.1.1.1.free 9; simp at x9; clear hown2 hgrow2 hat hlt2)
                    have HXn := Lib.hid (show SX b w rb2 (XB xb w.heap.size #[.int .i64 v1, .int .i64 v2, .int .i64 v3, .int .i64 c0, .int .i64 c1, .int .i64 c2, .int .i64 c3, .bool (v8 == 1), sv, .slice (some ⟨g2, 0, none⟩) (i + 1) gc2, .int .i64 0, .int .i64 0, .int .i64 0] sv T (.slice (some ⟨g2, 0, none⟩) (i + 1) gc2) (i + 1) (Ci ++ [⟨vo, va, vb⟩])) (w18.setCell ⟨xb, 9, none⟩ (.slice (some ⟨g2, 0, none⟩) (i + 1) gc2)) from
                      HX18.out.put (by have := HZ.out; omega) (by have := HZ.out; have := HB.out; omega) (by simpa using HX18.out.2.set HZ.out 9 (.slice (some ⟨g2, 0, none⟩) (i + 1) gc2)))
                    have HRn := Lib.hid (show (Ci ++ [⟨vo, va, vb⟩]) ++ (rdRep rdIns (M - (i + 1)) rb2).1 = C ∧ (rdRep rdIns (M - (i + 1)) rb2).2 = rC by
                      have h := HRe.out
                      rw [show M - i = (M - (i + 1)) + 1 by omega, rep_step rdIns ri _ ⟨vo, va, vb⟩ rb2 hst (by simp only [rdIns, EQo.out, EQa.out, EQb.out])] at h
                      simpa using h)
                    exact ⟨⟨i + 1, Ci ++ [⟨vo, va, vb⟩], rb2, _, by go_num, by have := HLi.out; simp; omega, by omega, HRn.out, HXn.out⟩, by simp [intOf]; omega⟩
                  · obtain ⟨hTi, hri⟩ : Ci = C ∧ ri = rC := by
                      have h := HRe.out
                      rw [rep_stop rdIns ri _ hst] at h
                      exact ⟨by simpa using h.1, h.2⟩
                    have HEn := Lib.hid (show SX b w rC (XB xb w.heap.size #[.int .i64 v1, .int .i64 v2, .int .i64 v3, .int .i64 c0, .int .i64 c1, .int .i64 c2, .int .i64 c3, .bool (v8 == 1), sv, cv, .int .i64 0, .int .i64 0, .int .i64 0] sv T cv C.length C) wr by rw [← hri, ← hTi, HLi.out]; exact HXr.out)
                    rw [hst] at HOk
                    clear hTi hri
                    go_wp2_with fail
                    refine HOk.out.mono ?_
                    rintro e w' ⟨rfl, rfl⟩
                    go_wp2_with fail
                    go_meet
                    case rel => exact ⟨cv, HEn.out⟩
                · obtain ⟨hTi, hri⟩ : Ci = C ∧ ri = rC := by
                    have h := HRe.out
                    rw [show M - i = 0 by omega] at h
                    exact ⟨by simpa [rdRep] using h.1, h.2⟩
                  have HEn := Lib.hid (show SX b w rC (XB xb w.heap.size #[.int .i64 v1, .int .i64 v2, .int .i64 v3, .int .i64 c0, .int .i64 c1, .int .i64 c2, .int .i64 c3, .bool (v8 == 1), sv, cv, .int .i64 0, .int .i64 0, .int .i64 0] sv T cv C.length C) wr by rw [← hri, ← hTi, HLi.out]; exact HXr.out)
                  have hKi : i = min n10 40 := by have := HM.out; omega
                  clear hTi hri
                  by_cases h1 : i < n10
                  · have h2 : ¬ i < 40 := by omega
                    go_wp2_with fail
                    go_meet
                    case rel => exact ⟨cv, HEn.out⟩
                  · go_wp2_with fail
                    go_meet
                    case rel => exact ⟨cv, HEn.out⟩
            case rest =>
              obtain ⟨cv, hx⟩ := hcut
              rename World => W0
              have HX := Lib.hid hx
              clear hx
              have hbz := HB.out
              have hzx := HZ.out
              go_wp2_with fail
              refine (HX.out.num (kpt_XB hbz hzx)).mono ?_
              rintro e w20 ⟨rfl, hx⟩
              obtain ⟨vp, hv⟩ : ∃ v, (rdNm rC).1 = v := ⟨_, rfl⟩
              obtain ⟨rp, hr⟩ : ∃ r', (rdNm rC).2 = r' := ⟨_, rfl⟩
              have EQvp := Lib.hid (show rdNm rC = (vp, rp) from Prod.ext hv hr)
              rw [hr] at hx
              rw [hv]
              have c := hx.2.1.1.1.cell 10
              have f := hx.2.1.1.1.free 10
              simp at c
              have HY := Lib.hid (show SX b w rp (XB xb w.heap.size #[.int .i64 v1, .int .i64 v2, .int .i64 v3, .int .i64 c0, .int .i64 c1, .int .i64 c2, .int .i64 c3, .bool (v8 == 1), sv, cv, .int .i64 vp, .int .i64 0, .int .i64 0] sv T cv C.length C) (w20.setCell ⟨xb, 10, none⟩ (.int .i64 vp)) from
                hx.put (by omega) (by omega) (by simpa using hx.2.set hzx 10 (.int .i64 vp)))
              clear hx hv hr hbz hzx HX
              go_wp2_with fail
              clear c f
              generalize w20.setCell ⟨xb, 10, none⟩ (.int .i64 vp) = W20 at *
              have HX := HY
              clear HY
              have hbz := HB.out
              have hzx := HZ.out
              refine (HX.out.int (kpt_XB hbz hzx)).mono ?_
              rintro e w21 ⟨rfl, hx⟩
              obtain ⟨vq, hv⟩ : ∃ v, (rdInt rp).1 = v := ⟨_, rfl⟩
              obtain ⟨rq, hr⟩ : ∃ r', (rdInt rp).2 = r' := ⟨_, rfl⟩
              have EQvq := Lib.hid (show rdInt rp = (vq, rq) from Prod.ext hv hr)
              rw [hr] at hx
              rw [hv]
              have c := hx.2.1.1.1.cell 11
              have f := hx.2.1.1.1.free 11
              simp at c
              have HY := Lib.hid (show SX b w rq (XB xb w.heap.size #[.int .i64 v1, .int .i64 v2, .int .i64 v3, .int .i64 c0, .int .i64 c1, .int .i64 c2, .int .i64 c3, .bool (v8 == 1), sv, cv, .int .i64 vp, .int .i64 vq, .int .i64 0] sv T cv C.length C) (w21.setCell ⟨xb, 11, none⟩ (.int .i64 vq)) from
                hx.put (by omega) (by omega) (by simpa using hx.2.set hzx 11 (.int .i64 vq)))
              clear hx hv hr hbz hzx HX
              go_wp2_with fail
              clear c f
              generalize w21.setCell ⟨xb, 11, none⟩ (.int .i64 vq) = W21 at *
              have HX := HY
              clear HY
              have hbz := HB.out
              have hzx := HZ.out
              refine (HX.out.int (kpt_XB hbz hzx)).mono ?_
              rintro e w22 ⟨rfl, hx⟩
              obtain ⟨vr, hv⟩ : ∃ v, (rdInt rq).1 = v := ⟨_, rfl⟩
              obtain ⟨rr, hr⟩ : ∃ r', (rdInt rq).2 = r' := ⟨_, rfl⟩
              have EQvr := Lib.hid (show rdInt rq = (vr, rr) from Prod.ext hv hr)
              rw [hr] at hx
              rw [hv]
              have c := hx.2.1.1.1.cell 12
              have f := hx.2.1.1.1.free 12
              simp at c
              have HY := Lib.hid (show SX b w rr (XB xb w.heap.size #[.int .i64 v1, .int .i64 v2, .int .i64 v3, .int .i64 c0, .int .i64 c1, .int .i64 c2, .int .i64 c3, .bool (v8 == 1), sv, cv, .int .i64 vp, .int .i64 vq, .int .i64 vr] sv T cv C.length C) (w22.setCell ⟨xb, 12, none⟩ (.int .i64 vr)) from
                hx.put (by omega) (by omega) (by simpa using hx.2.set hzx 12 (.int .i64 vr)))
              clear hx hv hr hbz hzx HX
              go_upto_region 25 with fail
              clear c f
              generalize w22.setCell ⟨xb, 12, none⟩ (.int .i64 vr) = W22 at *
              have HX := HY
              clear HY
              obtain ⟨a1, k1, e1, _⟩ := own_kd HX.out.2.1.2 (show b < xb + 1 by have := HB.out; have := HZ.out; omega)
              obtain ⟨a2, k2, e2, _⟩ := own_kd HX.out.2.2 (show b < xb + 1 by have := HB.out; have := HZ.out; omega)
              subst e1 e2
              have hrd := HX.out.2.reads (show b < xb + 1 by have := HB.out; have := HZ.out; omega) rfl ⟨v1, v2, v3, c0, c1, c2, c3, (v8 == 1), a1, T.length, k1, a2, C.length, k2, vp, vq, vr⟩ rfl rfl
              have HKd := Lib.hid hrd.1
              have hst13 := stored13 W22 w.heap.size 42 _ _ _ _ _ _ _ _ _ _ _ _ _ (.int .i64 v1) (.int .i64 v2) (.int .i64 v3) (.int .i64 c0) (.int .i64 c1) (.int .i64 c2) (.int .i64 c3) (.bool (v8 == 1)) (.slice a1 T.length k1) (.slice a2 C.length k2) (.int .i64 vp) (.int .i64 vq) (.int .i64 vr) HX.out.2.1.1.2
              have HX25 := Lib.hid (HX.out.row hst13.2 (X' := fun W => BlkAt W w.heap.size #[.int .i64 v1, .int .i64 v2, .int .i64 v3, .int .i64 c0, .int .i64 c1, .int .i64 c2, .int .i64 c3, .bool (v8 == 1), .slice a1 T.length k1, .slice a2 C.length k2, .int .i64 vp, .int .i64 vq, .int .i64 vr] 42 ∧ Kd [3, 82] b (fun W => AbR W ⟨v1, v2, v3, c0, c1, c2, c3, (v8 == 1), a1, T.length, k1, a2, C.length, k2, vp, vq, vr⟩ T C) W)
                (fun k e => by injection e with e; subst e; exact ⟨Nat.le_refl _, by have := HB.out; omega⟩)
                ⟨hst13.1, hrd.1.row hst13.2 (E := 42) (by decide) (fun k e => by injection e with e; subst e; exact ⟨_, _, HX.out.2.1.1.2⟩)⟩)
              clear hrd hst13
              obtain ⟨t0, t1, t2, t3, t4, t5, t6, t7, t8, t9, t10, t11, t12⟩ := HX.out.2.1.1.1.cells13
              obtain ⟨z0, z1, z2, z3, z4, z5, z6, z7, z8, z9, z10, z11, z12⟩ := HX.out.2.1.1.2.cells13
              obtain ⟨y0, y1, y2, y3, y4, y5, y6, y7, y8, y9, y10, y11, y12⟩ := HX.out.2.1.1.2.free13
              go_wp2_with fail
              have HE := Lib.hid (show rdAb r = ((⟨v1, v2, v3, c0, c1, c2, c3, (v8 == 1), none, T.length, 0, none, C.length, 0, vp, vq, vr⟩, T, C), rr) by
                obtain ⟨h7, h0, h1, h2, h3⟩ := HC.out
                change (rdNm r3).1 = c0 at h0
                change (rdNm (rdNm r3).2).1 = c1 at h1
                change (rdNm (rdNm (rdNm r3).2).2).1 = c2 at h2
                change (rdNm (rdNm (rdNm (rdNm r3).2).2).2).1 = c3 at h3
                change (rdNm (rdNm (rdNm (rdNm r3).2).2).2).2 = r7 at h7
                unfold rdAb
                simp only [EQ1.out, EQ2.out, EQ3.out, h0, h1, h2, h3, h7, EQ8.out, EQ9.out, Int.toNat_natCast, HK.out, HTr.out.1, HTr.out.2, EQ10.out, HM.out, HCr.out.1, HCr.out.2, EQvp.out, EQvq.out, EQvr.out])
              clear z0 z1 z2 z3 z4 z5 z6 z7 z8 z9 z10 z11 z12 y0 y1 y2 y3 y4 y5 y6 y7 y8 y9 y10 y11 y12 t0 t1 t2 t3 t4 t5 t6 t7 t8 t9 t10 t11 t12
              generalize ((((((((((((W22.setCell _ _).setCell _ _).setCell _ _).setCell _ _).setCell _ _).setCell _ _).setCell _ _).setCell _ _).setCell _ _).setCell _ _).setCell _ _).setCell _ _).setCell _ _ = W25 at *
              obtain ⟨t0, t1, t2, t3, t4, t5, t6, t7, t8, t9, t10, t11, t12⟩ := HX25.out.2.1.cells13
              refine bodyPost_ret (v := .agg #[.int .i64 v1, .int .i64 v2, .int .i64 v3, .int .i64 c0, .int .i64 c1, .int .i64 c2, .int .i64 c3, .bool (v8 == 1), .slice a1 T.length k1, .slice a2 C.length k2, .int .i64 vp, .int .i64 vq, .int .i64 vr]) (by simp [results, Tryz.results35, go_sem, t0, t1, t2, t3, t4, t5, t6, t7, t8, t9, t10, t11, t12]) rfl ?_
              rw [HE.out]
              exact ⟨⟨v1, v2, v3, c0, c1, c2, c3, (v8 == 1), a1, T.length, k1, a2, C.length, k2, vp, vq, vr⟩, rfl, rfl, HX25.out.2.2, HX25.out.1.1, HX25.out.1.2.2⟩
end Go.Proofs.YtbeaaieaffdgeaaGreatDoor
end
/- The document's abilities, of two lists that are alike. -/
section
namespace Go.Proofs.YtbeaaieaffdgeaaGreatDoor
open Go.RowKit
set_option linter.unusedVariables false
set_option linter.unusedSimpArgs false

attribute [local go_sem] mana_eq
attribute [local go_sem] ins_same
set_option maxRecDepth 100000 in
set_option maxHeartbeats 8000000 in
theorem refAbs_same (a : Option Addr) (c : Nat) (A : List AbT) (a2 : Option Addr) (c2 : Nat) (B : List AbT) (n : Nat) (hn : A.length = n) (hAB : B.map bareA = A.map bareA) (w : World) (hp : IsA w a c A) (hq : IsA w a2 c2 B) :
    Calls Tryz.prog 37 #[.slice a n c, .slice a2 n c2] w fun e w' => e = .returned (.bool true) ∧ Below w.heap.size w w' := by
  have hm : B.length = n := by rw [← hn]; simpa using congrArg List.length hAB
  have q1 := hp.1
  have q2 := hp.2.1
  have r1 := hq.1
  have r2 := hq.2.1
  rw [hn] at q1
  rw [hm] at r1
  have HP := Lib.hid hp
  have HQ := Lib.hid hq
  have HN := Lib.hid hn
  have HM := Lib.hid hm
  have HE := Lib.hid hAB
  clear hp hq hn hm hAB
  go_enter Tryz.func37, Tryz.ntmps37
  go_wp2_with fail
  go_loopw [5] (fun q wr => ∃ k : Nat, q = .int .i64 (k : Int) ∧ k ≤ n ∧ Below w.heap.size w wr) (fun q _ => n - (intOf q).toNat)
  case atStart => exact ⟨0, rfl, Nat.zero_le _, Below.refl _ _⟩
  case round =>
    obtain ⟨j, rfl, hj, hb⟩ := hrel
    have HB := Lib.hid hb
    clear hb
    by_cases hlj : j < n
    · obtain ⟨ab, aoff, x, T, C, hxx, hax, hta, hbl, m0, m1, m2, m3, m4, m5, m6, m7, m8, m9, m10, m11, m12⟩ := (HP.out.next HB.out).at j (by rw [HN.out]; exact hlj)
      obtain ⟨ab2, aoff2, v, T2, C2, hvv, hav, htb, hbl2, n0, n1, n2, n3, n4, n5, n6, n7, n8, n9, n10, n11, n12⟩ := (HQ.out.next HB.out).at j (by rw [HM.out]; exact hlj)
      have htw := twinA_at HE.out j (by rw [HN.out]; exact hlj) (by rw [HM.out]; exact hlj)
      rw [← hxx, ← hvv] at htw
      obtain ⟨rfl, rfl, t0, t1, t2, t3, t4, t5, t6, t7, t8, t9, t10⟩ := bareA_twin htw
      have t11 : v.tn = x.tn := by rw [← hav.1.1, ← hax.1.1]
      have t12 : v.cn = x.cn := by rw [← hav.2.1, ← hax.2.1]
      have hv : v = { x with ta := v.ta, tc := v.tc, ca := v.ca, cc := v.cc } := by
        obtain ⟨⟩ := v
        obtain ⟨⟩ := x
        simp only at t0 t1 t2 t3 t4 t5 t6 t7 t8 t9 t10 t11 t12
        subst t0 t1 t2 t3 t4 t5 t6 t7 t8 t9 t10 t11 t12
        rfl
      generalize v.ta = vta at hv
      generalize v.tc = vtc at hv
      generalize v.ca = vca at hv
      generalize v.cc = vcc at hv
      subst hv
      dsimp only at n0 n1 n2 n3 n4 n5 n6 n7 n8 n9 n10 n11 n12
      have HAX := Lib.hid hax
      have HAV := Lib.hid hav
      have HTl := Lib.hid hax.1.1
      have HCl := Lib.hid hax.2.1
      clear hxx hvv hax hav htw t0 t1 t2 t3 t4 t5 t6 t7 t8 t9 t10 t11 t12
      rw [hta, htb] at *
      clear hta htb
      go_upto_region 6 with fail
      go_cut [6, 7] from 20 to 27 (fun p q W => ∃ bx bz : Nat, p = .pointer (some ⟨bx, 0, none⟩) ∧ q = .pointer (some ⟨bz, 0, none⟩) ∧ BlkAt W bx #[.int .i64 x.k, .int .i64 x.ev, .int .i64 x.wh, .int .i64 x.c0, .int .i64 x.c1, .int .i64 x.c2, .int .i64 x.c3, .bool x.tap, .slice x.ta x.tn x.tc, .slice x.ca x.cn x.cc, .int .i64 x.op, .int .i64 x.a, .int .i64 x.b] 42 ∧ BlkAt W bz #[.int .i64 x.k, .int .i64 x.ev, .int .i64 x.wh, .int .i64 x.c0, .int .i64 x.c1, .int .i64 x.c2, .int .i64 x.c3, .bool x.tap, .slice vta x.tn vtc, .slice vca x.cn vcc, .int .i64 x.op, .int .i64 x.a, .int .i64 x.b] 42 ∧ Below wr.heap.size wr W)
      case first =>
        go_region
        · go_wp2_with fail
          go_meet
          exact ⟨wr.heap.size, wr.heap.size + 1, rfl, rfl, blkAt_one wr #[.int .i64 x.k, .int .i64 x.ev, .int .i64 x.wh, .int .i64 x.c0, .int .i64 x.c1, .int .i64 x.c2, .int .i64 x.c3, .bool x.tap, .slice x.ta x.tn x.tc, .slice x.ca x.cn x.cc, .int .i64 x.op, .int .i64 x.a, .int .i64 x.b] 42 _, blkAt_two wr #[.int .i64 x.k, .int .i64 x.ev, .int .i64 x.wh, .int .i64 x.c0, .int .i64 x.c1, .int .i64 x.c2, .int .i64 x.c3, .bool x.tap, .slice vta x.tn vtc, .slice vca x.cn vcc, .int .i64 x.op, .int .i64 x.a, .int .i64 x.b] 42 _, (below_alloc2 wr _ _).trans ⟨rfl, rfl, rfl, Nat.le_refl _, fun _ _ => rfl⟩⟩
        · go_wp2_with fail
          go_meet
          exact ⟨wr.heap.size + 1, wr.heap.size, rfl, rfl, blkAt_two wr #[.int .i64 x.k, .int .i64 x.ev, .int .i64 x.wh, .int .i64 x.c0, .int .i64 x.c1, .int .i64 x.c2, .int .i64 x.c3, .bool x.tap, .slice x.ta x.tn x.tc, .slice x.ca x.cn x.cc, .int .i64 x.op, .int .i64 x.a, .int .i64 x.b] 42 _, blkAt_one wr #[.int .i64 x.k, .int .i64 x.ev, .int .i64 x.wh, .int .i64 x.c0, .int .i64 x.c1, .int .i64 x.c2, .int .i64 x.c3, .bool x.tap, .slice vta x.tn vtc, .slice vca x.cn vcc, .int .i64 x.op, .int .i64 x.a, .int .i64 x.b] 42 _, (below_alloc2 wr _ _).trans ⟨rfl, rfl, rfl, Nat.le_refl _, fun _ _ => rfl⟩⟩
      case rest =>
        obtain ⟨bx, bz, rfl, rfl, hx, hz, hb⟩ := hcut
        have HX := Lib.hid hx
        have HZ := Lib.hid hz
        have HB2 := Lib.hid (below_then' HB.out hb HB.out.size)
        have HTx := Lib.hid (HAX.out.next hb)
        have HTz := Lib.hid (HAV.out.next hb)
        clear hx hz hb m0 m1 m2 m3 m4 m5 m6 m7 m8 m9 m10 m11 m12 n0 n1 n2 n3 n4 n5 n6 n7 n8 n9 n10 n11 n12 hbl hbl2 HAX HAV
        obtain ⟨x0, x1, x2, x3, x4, x5, x6, x7, x8, x9, x10, x11, x12⟩ := HX.out.cells13
        obtain ⟨z0, z1, z2, z3, z4, z5, z6, z7, z8, z9, z10, z11, z12⟩ := HZ.out.cells13
        have HIn := Lib.hid (refInts_same T2 x.ta vta x.tc vtc x.tn HTl.out wc HTx.out.1.2 HTz.out.1.2)
        go_wp2_with (go_at_call 59; refine HIn.out.mono ?_; rintro e w9 ⟨rfl, hb9⟩; have HX9 := Lib.hid (HX.out.next hb9); have HZ9 := Lib.hid (HZ.out.next hb9); have HB9 := Lib.hid (below_then' HB2.out hb9 HB2.out.size); have HTx9 := Lib.hid (HTx.out.next hb9); have HTz9 := Lib.hid (HTz.out.next hb9); obtain ⟨_, _, _, _, _, _, _, _, _, r9, _, _, _⟩ := HX9.out.cells13; obtain ⟨_, _, _, _, _, _, _, _, _, s9, _, _, _⟩ := HZ9.out.cells13; clear hb9)
        clear x0 x1 x2 x3 x4 x5 x6 x7 x8 x9 x10 x11 x12 z0 z1 z2 z3 z4 z5 z6 z7 z8 z9 z10 z11 z12 r9 s9
        go_loopw [8] (fun q ws => ∃ i : Nat, q = .int .i64 (i : Int) ∧ i ≤ x.cn ∧ Below w9.heap.size w9 ws) (fun q _ => x.cn - (intOf q).toNat)
        case atStart => exact ⟨0, rfl, Nat.zero_le _, Below.refl _ _⟩
        case round =>
          obtain ⟨i, rfl, hi, hb⟩ := hrel
          rename World => ws
          have HC := Lib.hid hb
          clear hb
          obtain ⟨_, _, _, _, _, _, _, _, _, r9, _, _, _⟩ := (HX9.out.next HC.out).cells13
          obtain ⟨_, _, _, _, _, _, _, _, _, s9, _, _, _⟩ := (HZ9.out.next HC.out).cells13
          by_cases hlt2 : i < x.cn
          · obtain ⟨b, off, u, hu, hta, u0, u1, u2⟩ := (HTx9.out.2.2.next HC.out).at i (by rw [HCl.out]; exact hlt2)
            obtain ⟨b2, off2, z, hz, htb, z0, z1, z2⟩ := (HTz9.out.2.2.next HC.out).at i (by rw [HCl.out]; exact hlt2)
            obtain rfl : u = z := hu.trans hz.symm
            clear hu hz
            dsimp only at htb
            rw [hta] at r9
            rw [htb] at s9
            have q5 := HTx9.out.2.2.1
            have q6 := HTx9.out.2.2.2.1
            have q7 := HTz9.out.2.2.1
            have q8 := HTz9.out.2.2.2.1
            dsimp only at q7 q8
            rw [HCl.out] at q5 q7
            clear hta htb
            go_wp2_with fail
            go_quiet (fail)
            go_wp2_with fail
            go_roundw
            case rel => exact ⟨i + 1, by go_num, by omega, HC.out.trans ⟨rfl, rfl, rfl, Nat.le_refl _, fun _ _ => rfl⟩⟩
            case measure => simp [intOf]; omega
          · go_wp2_with fail
            exact ⟨⟨j + 1, by go_num, by omega, below_then' HB9.out HC.out HB9.out.size⟩, by simp [intOf]; omega⟩
    · go_wp2_with fail
      go_ret
      exact ⟨rfl, HB.out⟩
end Go.Proofs.YtbeaaieaffdgeaaGreatDoor
end
/- The document's Same, of two pools that are alike. -/
section
namespace Go.Proofs.YtbeaaieaffdgeaaGreatDoor
open Go.RowKit
set_option linter.unusedVariables false
set_option linter.unusedSimpArgs false

attribute [local go_sem] mana_eq
set_option maxRecDepth 100000 in
set_option maxHeartbeats 8000000 in
theorem refSame_same (a : Option Addr) (c : Nat) (L : List CdT) (a2 : Option Addr) (c2 : Nat) (M : List CdT) (n : Nat) (hn : L.length = n) (hLM : M.map bareC = L.map bareC) (w : World) (hp : IsP w a c L) (hq : IsP w a2 c2 M) :
    Calls Tryz.prog 13 #[.slice a n c, .slice a2 n c2] w fun e w' => e = .returned (.bool true) ∧ Below w.heap.size w w' := by
  have hm : M.length = n := by rw [← hn]; simpa using congrArg List.length hLM
  have q1 := hp.1
  have q2 := hp.2.1
  have r1 := hq.1
  have r2 := hq.2.1
  rw [hn] at q1
  rw [hm] at r1
  have HP := Lib.hid hp
  have HQ := Lib.hid hq
  have HN := Lib.hid hn
  have HM := Lib.hid hm
  have HE := Lib.hid hLM
  clear hp hq hn hm hLM
  go_enter Tryz.func13, Tryz.ntmps13
  go_wp2_with fail
  go_loopw [5] (fun q wr => ∃ k : Nat, q = .int .i64 (k : Int) ∧ k ≤ n ∧ Below w.heap.size w wr) (fun q _ => n - (intOf q).toNat)
  case atStart => exact ⟨0, rfl, Nat.zero_le _, Below.refl _ _⟩
  case round =>
    obtain ⟨k, rfl, hk, hb⟩ := hrel
    have HB := Lib.hid hb
    clear hb
    by_cases hlt : k < n
    · obtain ⟨b, off, y, A, hy, hcd, hpa, hbz, y0, y1, y2, y3, y4, y5, y6, y7, y8, y9, y10⟩ := (HP.out.next HB.out).at k (by rw [HN.out]; exact hlt)
      obtain ⟨b2, off2, z, B, hz, hcd2, hpb, hbz2, z0, z1, z2, z3, z4, z5, z6, z7, z8, z9, z10⟩ := (HQ.out.next HB.out).at k (by rw [HM.out]; exact hlt)
      have htw := twin_at HE.out k (by rw [HN.out]; exact hlt) (by rw [HM.out]; exact hlt)
      rw [← hy, ← hz] at htw
      obtain ⟨hAB, e0, e1, e2, e3, e4, e5, e6, e7, e8, e9⟩ := bareC_twin htw
      rw [e0] at z0
      rw [e1] at z1
      rw [e2] at z2
      rw [e3] at z3
      rw [e4] at z4
      rw [e5] at z5
      rw [e6] at z6
      rw [e7] at z7
      rw [e8] at z8
      rw [e9] at z9
      have han : z.an = y.an := by rw [← hcd.1, ← hcd2.1]; simpa using congrArg List.length hAB
      rw [han] at z10
      have HA := Lib.hid hcd
      have HA2 := Lib.hid hcd2
      have HAB := Lib.hid hAB
      have HAn := Lib.hid han
      clear hy hz hcd hcd2 htw hAB han e0 e1 e2 e3 e4 e5 e6 e7 e8 e9
      subst hpa
      subst hpb
      go_upto_region 6 with fail
      go_cut [6, 7] from 19 to 26 (fun p q W => ∃ bx bz : Nat, p = .pointer (some ⟨bx, 0, none⟩) ∧ q = .pointer (some ⟨bz, 0, none⟩) ∧ BlkAt W bx #[.string y.nm, .int .i64 y.k, .int .i64 y.c0, .int .i64 y.c1, .int .i64 y.c2, .int .i64 y.c3, .int .i64 y.col, .int .i64 y.pow, .int .i64 y.tou, .int .i64 y.keys, .slice y.aa y.an y.ac] 38 ∧ BlkAt W bz #[.string y.nm, .int .i64 y.k, .int .i64 y.c0, .int .i64 y.c1, .int .i64 y.c2, .int .i64 y.c3, .int .i64 y.col, .int .i64 y.pow, .int .i64 y.tou, .int .i64 y.keys, .slice z.aa y.an z.ac] 38 ∧ Below wr.heap.size wr W)
      case first =>
        go_region
        · go_wp2_with fail
          go_meet
          exact ⟨wr.heap.size, wr.heap.size + 1, rfl, rfl, blkAt_one wr #[.string y.nm, .int .i64 y.k, .int .i64 y.c0, .int .i64 y.c1, .int .i64 y.c2, .int .i64 y.c3, .int .i64 y.col, .int .i64 y.pow, .int .i64 y.tou, .int .i64 y.keys, .slice y.aa y.an y.ac] 38 _, blkAt_two wr #[.string y.nm, .int .i64 y.k, .int .i64 y.c0, .int .i64 y.c1, .int .i64 y.c2, .int .i64 y.c3, .int .i64 y.col, .int .i64 y.pow, .int .i64 y.tou, .int .i64 y.keys, .slice z.aa y.an z.ac] 38 _, (below_alloc2 wr _ _).trans ⟨rfl, rfl, rfl, Nat.le_refl _, fun _ _ => rfl⟩⟩
        · go_wp2_with fail
          go_meet
          exact ⟨wr.heap.size + 1, wr.heap.size, rfl, rfl, blkAt_two wr #[.string y.nm, .int .i64 y.k, .int .i64 y.c0, .int .i64 y.c1, .int .i64 y.c2, .int .i64 y.c3, .int .i64 y.col, .int .i64 y.pow, .int .i64 y.tou, .int .i64 y.keys, .slice y.aa y.an y.ac] 38 _, blkAt_one wr #[.string y.nm, .int .i64 y.k, .int .i64 y.c0, .int .i64 y.c1, .int .i64 y.c2, .int .i64 y.c3, .int .i64 y.col, .int .i64 y.pow, .int .i64 y.tou, .int .i64 y.keys, .slice z.aa y.an z.ac] 38 _, (below_alloc2 wr _ _).trans ⟨rfl, rfl, rfl, Nat.le_refl _, fun _ _ => rfl⟩⟩
      case rest =>
        obtain ⟨bx, bz, rfl, rfl, hx, hz, hb⟩ := hcut
        have HX := Lib.hid hx
        have HZ := Lib.hid hz
        have HB2 := Lib.hid (below_then' HB.out hb HB.out.size)
        have HBw := Lib.hid hb
        clear hx hz hb y0 y1 y2 y3 y4 y5 y6 y7 y8 y9 y10 z0 z1 z2 z3 z4 z5 z6 z7 z8 z9 z10
        obtain ⟨⟨x0, x1, x2, x3, x4, x5, x6, x7, x8, x9, x10⟩, _⟩ := HX.out.cells11
        obtain ⟨⟨z0, z1, z2, z3, z4, z5, z6, z7, z8, z9, z10⟩, _⟩ := HZ.out.cells11
        have HCl := Lib.hid (refAbs_same y.aa y.ac A z.aa z.ac B y.an HA.out.1 HAB.out wc (HA.out.2.next HBw.out) (HA2.out.2.next HBw.out))
        go_wp2_with (go_at_call 37; refine HCl.out.mono ?_; rintro e w9 ⟨rfl, hb9⟩; have HB9 := Lib.hid hb9; clear hb9)
        exact ⟨⟨k + 1, by go_num, by omega, below_then' HB2.out HB9.out HB2.out.size⟩, by simp [intOf]; omega⟩
    · go_wp2_with fail
      go_ret
      exact ⟨rfl, HB.out⟩
end Go.Proofs.YtbeaaieaffdgeaaGreatDoor
end
/- What the document's reader reads is bounded; abilities that were read. -/
section
namespace Go.Proofs.YtbeaaieaffdgeaaGreatDoor
open Go.RowKit
set_option linter.unusedVariables false
set_option linter.unusedSimpArgs false

theorem rdInt_64 (r : RdS) : In64 (rdInt r).1 := by
  have h := rdNum_lt r
  show In64 (unzig (rdNum r).1)
  unfold In64 unzig
  split <;> omega
theorem rdNm_64 (r : RdS) : In64 (rdNm r).1 := by
  show In64 ((min (rdNum r).1 100000 : Nat) : Int)
  unfold In64
  omega
theorem RdOk.rep {α : Type} {f : RdS → α × RdS} (hf : ∀ r, RdOk r → RdOk (f r).2) : ∀ (k : Nat) (r : RdS), RdOk r → RdOk (rdRep f k r).2
  | 0, r, h => h
  | k + 1, r, h => by
    unfold rdRep
    split
    · exact h
    · exact RdOk.rep hf k _ (hf r h)
theorem rep_all {α : Type} {f : RdS → α × RdS} {P : α → Prop} (hf : ∀ r, RdOk r → RdOk (f r).2) (hP : ∀ r, RdOk r → P (f r).1) : ∀ (k : Nat) (r : RdS), RdOk r → ∀ x ∈ (rdRep f k r).1, P x
  | 0, r, h => fun x hx => by simp [rdRep] at hx
  | k + 1, r, h => fun x hx => by
    unfold rdRep at hx
    split at hx
    · cases hx
    · rcases List.mem_cons.1 hx with rfl | hx
      · exact hP r h
      · exact rep_all hf hP k _ (hf r h) x hx
theorem rep_len {α : Type} (f : RdS → α × RdS) : ∀ (k : Nat) (r : RdS), (rdRep f k r).1.length ≤ k
  | 0, r => by simp [rdRep]
  | k + 1, r => by
    unfold rdRep
    split
    · simp
    · simp only [List.length_cons]
      have := rep_len f k (f r).2
      omega
theorem RdOk.int {r : RdS} (h : RdOk r) : RdOk (rdInt r).2 := RdOk.num h
theorem RdOk.ins {r : RdS} (h : RdOk r) : RdOk (rdIns r).2 := RdOk.int (RdOk.int h.nm)
theorem RdOk.ab {r : RdS} (h : RdOk r) : RdOk (rdAb r).2 := by
  have h9 := h.nm.nm.nm.nm.nm.nm.nm.nm.nm
  have hT := fun k => RdOk.rep (f := rdNm) (fun r h => RdOk.nm h) k _ h9
  have hm := fun k => (hT k).nm
  have hL := fun k j => RdOk.rep (f := rdIns) (fun r h => RdOk.ins h) j _ (hm k)
  have hE := fun k j => (hL k j).nm.int.int
  dsimp only [rdAb]
  exact hE _ _
theorem rdAb_64 (r : RdS) (h : RdOk r) : In64 (rdAb r).1.1.a ∧ In64 (rdAb r).1.1.b ∧ ∀ i ∈ (rdAb r).1.2.2, In64 i.a ∧ In64 i.b := by
  have h9 := h.nm.nm.nm.nm.nm.nm.nm.nm.nm
  have hT := fun k => RdOk.rep (f := rdNm) (fun r h => RdOk.nm h) k _ h9
  have hm := fun k => (hT k).nm
  have hL := fun k j => rep_all (f := rdIns) (P := fun i : Ins => In64 i.a ∧ In64 i.b) (fun r h => RdOk.ins h) (fun r _ => ⟨rdInt_64 _, rdInt_64 _⟩) j _ (hm k)
  dsimp only [rdAb]
  exact ⟨rdInt_64 _, rdInt_64 _, hL _ _⟩
theorem rdText_sz (r : RdS) (h : RdOk r) : (rdText r).1.size ≤ 70368744177664 := by
  have h2 := h.num.1
  unfold rdText
  split
  · show (0 : Nat) ≤ _; omega
  · split
    · show (0 : Nat) ≤ _; omega
    · show ((rdNum r).2.1.extract 0 (rdNum r).1).size ≤ _
      rw [ByteArray.size_extract]
      omega
theorem RdOk.cd {r : RdS} (h : RdOk r) : RdOk (rdCd r).2 := by
  have h9 := h.text.nm.nm.nm.nm.nm.nm.nm.nm.nm.nm
  have hA := fun k => RdOk.rep (f := rdAb) (fun r h => RdOk.ab h) k _ h9
  dsimp only [rdCd]
  exact hA _
/-- What a card that was read keeps. -/
def Rdd (c : CdT) : Prop := c.1.nm.size ≤ maxLen ∧ In64 c.1.keys ∧ ∀ t ∈ c.2, In64 t.1.a ∧ In64 t.1.b ∧ ∀ i ∈ t.2.2, In64 i.a ∧ In64 i.b
theorem rdCd_ok (r : RdS) (h : RdOk r) : Rdd (rdCd r).1 := by
  have h9 := h.text.nm.nm.nm.nm.nm.nm.nm.nm.nm.nm
  have hA := fun k => rep_all (f := rdAb) (P := fun t : AbT => In64 t.1.a ∧ In64 t.1.b ∧ ∀ i ∈ t.2.2, In64 i.a ∧ In64 i.b) (fun r h => RdOk.ab h) (fun r h => rdAb_64 r h) k _ h9
  have ht : (rdText r).1.size ≤ maxLen := by
    have := rdText_sz r h
    unfold maxLen
    omega
  dsimp only [rdCd, Rdd]
  exact ⟨ht, rdNm_64 _, hA _⟩
theorem Rdd.bare {c : CdT} (h : Rdd (bareC c)) : Rdd c := by
  refine ⟨h.1, h.2.1, fun t ht => ?_⟩
  exact h.2.2 (bareA t) (List.mem_map_of_mem ht)
theorem Rdd.c64 {w : World} {c : CdT} (h : Rdd c) (hr : CdR w c.1 c.2) : CdT64 c := by
  refine ⟨hr.1, fun t ht => ?_⟩
  have ha := hr.2.2.2.1 t ht
  exact ⟨ha.1.1, ha.2.1, h.2.2 t ht⟩
theorem SX.text {b : Nat} {w W : World} {r : RdS} {X : World → Prop} (h : SX b w r X W) (hX : Kpt b X) :
    Calls Tryz.prog 34 #[.pointer (some ⟨b, 0, none⟩)] W fun e W' => e = .returned (.string (rdText r).1) ∧ SX b w (rdText r).2 X W' :=
  (rtext_any b r W h.1.2.1 h.1.1).mono fun _ _ ⟨h1, h2, h3⟩ => ⟨h1, ⟨h2, RdOk.text h.1.2.1, grown_then h.1.2.2 h3⟩, hX _ _ h.2 h3⟩
theorem SX.endd {b : Nat} {w W : World} {r : RdS} {X : World → Prop} (h : SX b w r X W) :
    Calls Tryz.prog 36 #[.pointer (some ⟨b, 0, none⟩)] W fun e W' => e = .returned (.bool (!r.2 && r.1.toList.isEmpty)) ∧ W = W' := rend_any b r.1 r.2 W h.1.1
/-- The ability in memory that came of the reader's next bytes. -/
def Red (b : Nat) (r : RdS) (t : AbT) (W : World) : Prop := bareA t = (rdAb r).1 ∧ Kd [3, 82] b (fun W => AbR W t.1 t.2.1 t.2.2) W
theorem SX.reads {b : Nat} {w W : World} {r : RdS} {X : World → Prop} (h : SX b w r X W) (hX : Kpt b X) :
    Calls Tryz.prog 35 #[.pointer (some ⟨b, 0, none⟩)] W fun e W' => ∃ t : AbT, e = .returned (.agg #[.int .i64 t.1.k, .int .i64 t.1.ev, .int .i64 t.1.wh, .int .i64 t.1.c0, .int .i64 t.1.c1, .int .i64 t.1.c2, .int .i64 t.1.c3, .bool t.1.tap, .slice t.1.ta t.1.tn t.1.tc, .slice t.1.ca t.1.cn t.1.cc, .int .i64 t.1.op, .int .i64 t.1.a, .int .i64 t.1.b]) ∧
      SX b w (rdAb r).2 (fun W => X W ∧ Red b r t W) W' :=
  (refReads_any b r W h.1.2.1 h.1.1).mono fun _ _ ⟨x, h1, h2, h3, h4, h5⟩ => ⟨(x, (rdAb r).1.2.1, (rdAb r).1.2.2), h1, ⟨h4, RdOk.ab h.1.2.1, grown_then h.1.2.2 h5⟩, hX _ _ h.2 h5, h2, h3⟩
end Go.Proofs.YtbeaaieaffdgeaaGreatDoor
end
/- What stands beside the document's reader while a pool is read. -/
section
namespace Go.Proofs.YtbeaaieaffdgeaaGreatDoor
open Go.RowKit
set_option linter.unusedVariables false
set_option linter.unusedSimpArgs false

/-- It reads so, as long as the blocks below B stand, but for b, and rows of cards. -/
def Ko (B b : Nat) (R : World → Prop) (w : World) : Prop :=
  ∀ W : World, w.heap.size ≤ W.heap.size → (∀ k c e fz, w.heap[k]? = some (.cells c e fz) → k < B → e ≠ 38 → k ≠ b → W.heap[k]? = w.heap[k]?) → R W
theorem Ko.now {B b : Nat} {R : World → Prop} {w : World} (h : Ko B b R w) : R w := h w (Nat.le_refl _) fun _ _ _ _ _ _ _ _ => rfl
theorem Ko.up {B B' b : Nat} {R : World → Prop} {w : World} (h : Ko B b R w) (hB : B ≤ B') : Ko B' b R w := fun W h1 h2 => h W h1 fun k c e fz hc hk he hb => h2 k c e fz hc (Nat.lt_of_lt_of_le hk hB) he hb
theorem Ko.keep {B b : Nat} {R : World → Prop} {w w' : World} (h : Ko B b R w) (hs : w.heap.size ≤ w'.heap.size) (hk : ∀ k c e fz, w.heap[k]? = some (.cells c e fz) → k < B → e ≠ 38 → k ≠ b → w'.heap[k]? = w.heap[k]?) : Ko B b R w' :=
  fun W h1 h2 => h W (Nat.le_trans hs h1) fun k c e fz hc hB he hb => (h2 k c e fz ((hk k c e fz hc hB he hb).trans hc) hB he hb).trans (hk k c e fz hc hB he hb)
theorem Ko.read {B b : Nat} {R : World → Prop} {w w' : World} (h : Ko B b R w) (g : w.grownBy w' (some b)) : Ko B b R w' :=
  h.keep g.size fun k c e fz hc _ _ hb => g.block k (Array.getElem?_eq_some_iff.1 hc).1 (fun q => hb (Option.some.inj q))
theorem Ko.row {B b : Nat} {R : World → Prop} {w w' : World} {row : Option Nat} (h : Ko B b R w) (g : w.grownBy w' row) (hr : ∀ k, row = some k → B ≤ k ∨ ∃ c fz, w.heap[k]? = some (.cells c 38 fz)) : Ko B b R w' :=
  h.keep g.size fun k c e fz hc hB he _ => g.block k (Array.getElem?_eq_some_iff.1 hc).1 (fun q => by
    rcases hr k q.symm with h1 | ⟨c', fz', h1⟩
    · omega
    · rw [hc] at h1
      injection h1 with h1
      injection h1 with _ h1
      exact he h1)
theorem Ko.of {B b : Nat} {S : List TypeId} {R : World → Prop} {w : World} (h : Kd S b R w) (hS : S.contains 38 = false) (hB : w.heap.size ≤ B) : Ko B b R w :=
  fun W h1 h2 => h W h1 fun k c e fz hc he hb => h2 k c e fz hc (Nat.lt_of_lt_of_le (Array.getElem?_eq_some_iff.1 hc).1 hB) (fun q => by rw [q, hS] at he; cases he) hb
/-- The cards that were read. -/
def XL (b B : Nat) (lv : Value) (n : Nat) (L : List CdT) (W : World) : Prop :=
  W.ownsRow (b + 1) 38 11 lv n (cdRow L) ∧ ∀ c ∈ L, Ko B b (fun W => CdR W c.1 c.2) W
/-- And the one that is filled. -/
def XD (b B : Nat) (lv : Value) (n : Nat) (L : List CdT) (cb : Nat) (cs : Array Value) (W : World) : Prop :=
  XL b B lv n L W ∧ BlkAt W cb cs 38
/-- And its abilities. -/
def XE (b B : Nat) (lv : Value) (n : Nat) (L : List CdT) (cb : Nat) (cs : Array Value) (av : Value) (k : Nat) (A : List AbT) (W : World) : Prop :=
  XD b B lv n L cb cs W ∧ W.ownsRow (cb + 1) 42 13 av k (abRow A) ∧ ∀ t ∈ A, Kd [3, 82] b (fun W => AbR W t.1 t.2.1 t.2.2) W
theorem kpt_XL {b B n : Nat} {lv : Value} {L : List CdT} : Kpt b (XL b B lv n L) := fun W W' h g => ⟨own_kept h.1 g (by omega), fun c hc => (h.2 c hc).read g⟩
theorem kpt_XD {b B n cb : Nat} {lv : Value} {L : List CdT} {cs : Array Value} (h : cb ≠ b) : Kpt b (XD b B lv n L cb cs) := fun W W' hx g => ⟨kpt_XL W W' hx.1 g, kpt_blk h W W' hx.2 g⟩
theorem kpt_XE {b B n cb k : Nat} {lv av : Value} {L : List CdT} {cs : Array Value} {A : List AbT} (h : b < cb) : Kpt b (XE b B lv n L cb cs av k A) := fun W W' hx g =>
  ⟨kpt_XD (by omega) W W' hx.1 g, own_kept hx.2.1 g (by omega), fun t ht => (hx.2.2 t ht).read g⟩
theorem XD.set {b B n cb : Nat} {lv : Value} {L : List CdT} {cs : Array Value} {W : World} (h : XD b B lv n L cb cs W) (hl : lv.ownBlock ≠ some cb) (i : Nat) (v : Value) : XD b B lv n L cb (cs.setIfInBounds i v) (W.setCell ⟨cb, i, none⟩ v) :=
  ⟨⟨ownsRow_setCell_other h.1.1 (a := ⟨cb, i, none⟩) hl v, fun c hc => (h.1.2 c hc).row (row := some cb) (grown_set (World.grownBy.refl W (some cb)) i v) (fun k e => by injection e with e; subst e; exact .inr ⟨_, _, h.2⟩)⟩, h.2.set i v⟩
theorem XE.set {b B n cb k : Nat} {lv av : Value} {L : List CdT} {cs : Array Value} {A : List AbT} {W : World} (h : XE b B lv n L cb cs av k A W) (hl : lv.ownBlock ≠ some cb) (i : Nat) (v : Value) : XE b B lv n L cb (cs.setIfInBounds i v) av k A (W.setCell ⟨cb, i, none⟩ v) :=
  ⟨h.1.set hl i v, ownsRow_setCell_below h.2.1 (a := ⟨cb, i, none⟩) (by show cb < cb + 1; omega) v, fun t ht => (h.2.2 t ht).row (row := some cb) (E := 38) (grown_set (World.grownBy.refl W (some cb)) i v) (by decide) (fun k e => by injection e with e; subst e; exact ⟨_, _, h.1.2⟩)⟩
/-- An ability more. -/
theorem XE.app {b B n cb k m : Nat} {lv av nv : Value} {L : List CdT} {cs : Array Value} {A A' : List AbT} {W W' : World} (h : XE b B lv n L cb cs av k A W) (g : W.grownBy W' av.ownBlock) (hB : B ≤ cb) (hn : W'.ownsRow (cb + 1) 42 13 nv m (abRow A'))
    (hA : ∀ t ∈ A', Kd [3, 82] b (fun W => AbR W t.1 t.2.1 t.2.2) W) : XE b B lv n L cb cs nv m A' W' := by
  have hk := ownsRow_kind h.2.1
  exact ⟨⟨⟨own_other h.1.1.1 g (by decide) hk, fun c hc => (h.1.1.2 c hc).row g (fun k e => .inl (by have := (h.2.1.lt k e).1; omega))⟩, blk_other h.1.2 g (by decide) hk⟩, hn, fun t ht => (hA t ht).row g (by decide) hk⟩
/-- A card more. -/
theorem XE.card {b B n cb k m : Nat} {lv av nv : Value} {L : List CdT} {cs : Array Value} {A : List AbT} {W W' : World} (h : XE b B lv n L cb cs av k A W) (hB : B ≤ W.heap.size) (hbc : b < cb + 1) (g : W.grownBy W' lv.ownBlock) (y : Cd) (hk : A.length = k) (hy : av = .slice y.aa y.an y.ac) (hn : W'.ownsRow (b + 1) 38 11 nv m (cdRow (L ++ [(y, A)]))) :
    XL b W.heap.size nv m (L ++ [(y, A)]) W' := by
  have hkk := ownsRow_kind h.1.1.1
  refine ⟨hn, fun c hc => Ko.row (w := W) ?_ g (fun k e => .inr (hkk k e))⟩
  rcases List.mem_append.1 hc with hc | hc
  · exact (h.1.1.2 c hc).up hB
  · rw [List.mem_singleton.1 hc]
    obtain ⟨a1, c1, e1, k1⟩ := own_kd h.2.1 hbc
    rw [e1] at hy
    injection hy with p1 p2 p3
    refine Ko.of (S := [3, 82, 42]) (R := fun W => CdR W y A) ?_ (by decide) (Nat.le_refl _)
    refine ((k1.more (S' := [3, 82, 42]) (fun e he => by simp at he; simp [he])).two (R' := fun W => ∀ t ∈ A, AbR W t.1 t.2.1 t.2.2) (fun W1 w1 w2 t ht => (h.2.2 t ht) W1 w1 (fun k c e fz hc he hne => w2 k c e fz hc (by simp at he; rcases he with he | he <;> simp [he]) hne))).map fun W1 hW => ⟨by show A.length = y.an; omega, ?_⟩
    show IsA W1 y.aa y.ac A
    rw [← p1, ← p3]
    exact isA_row hk hW.2 hW.1
end Go.Proofs.YtbeaaieaffdgeaaGreatDoor
end
