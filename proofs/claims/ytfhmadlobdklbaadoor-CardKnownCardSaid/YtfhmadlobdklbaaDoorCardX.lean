/- The walk of CardChecks. -/
import Derived.Test.YtfhmadlobdklbaaDoorCardV
import Derived.Deep.RegionWith
namespace Go.Proofs.YtfhmadlobdklbaaDoor
open Go.RowKit
set_option linter.unusedVariables false
set_option linter.unusedSimpArgs false

theorem blkAt_new (w : World) (cs : Array Value) (T : TypeId) : BlkAt (w.alloc (.cells cs T)) w.heap.size cs T := heap_alloc_new w _
/-- Eleven stores over a card. -/
theorem stored11 (w : World) (b : Nat) (T : TypeId) (v0 v1 v2 v3 v4 v5 v6 v7 v8 v9 v10 u0 u1 u2 u3 u4 u5 u6 u7 u8 u9 u10 : Value) (h : BlkAt w b #[v0, v1, v2, v3, v4, v5, v6, v7, v8, v9, v10] T) :
    BlkAt (((((((((((w.setCell ⟨b, 0, none⟩ u0).setCell ⟨b, 1, none⟩ u1).setCell ⟨b, 2, none⟩ u2).setCell ⟨b, 3, none⟩ u3).setCell ⟨b, 4, none⟩ u4).setCell ⟨b, 5, none⟩ u5).setCell ⟨b, 6, none⟩ u6).setCell ⟨b, 7, none⟩ u7).setCell ⟨b, 8, none⟩ u8).setCell ⟨b, 9, none⟩ u9).setCell ⟨b, 10, none⟩ u10)
      b #[u0, u1, u2, u3, u4, u5, u6, u7, u8, u9, u10] T := by
  have h0 : BlkAt (w.setCell ⟨b, 0, none⟩ u0) b #[u0, v1, v2, v3, v4, v5, v6, v7, v8, v9, v10] T := by simpa using h.set' 0 u0
  have h1 : BlkAt ((w.setCell ⟨b, 0, none⟩ u0).setCell ⟨b, 1, none⟩ u1) b #[u0, u1, v2, v3, v4, v5, v6, v7, v8, v9, v10] T := by simpa using h0.set' 1 u1
  have h2 : BlkAt (((w.setCell ⟨b, 0, none⟩ u0).setCell ⟨b, 1, none⟩ u1).setCell ⟨b, 2, none⟩ u2) b #[u0, u1, u2, v3, v4, v5, v6, v7, v8, v9, v10] T := by simpa using h1.set' 2 u2
  have h3 : BlkAt ((((w.setCell ⟨b, 0, none⟩ u0).setCell ⟨b, 1, none⟩ u1).setCell ⟨b, 2, none⟩ u2).setCell ⟨b, 3, none⟩ u3) b #[u0, u1, u2, u3, v4, v5, v6, v7, v8, v9, v10] T := by simpa using h2.set' 3 u3
  have h4 : BlkAt (((((w.setCell ⟨b, 0, none⟩ u0).setCell ⟨b, 1, none⟩ u1).setCell ⟨b, 2, none⟩ u2).setCell ⟨b, 3, none⟩ u3).setCell ⟨b, 4, none⟩ u4) b #[u0, u1, u2, u3, u4, v5, v6, v7, v8, v9, v10] T := by simpa using h3.set' 4 u4
  have h5 : BlkAt ((((((w.setCell ⟨b, 0, none⟩ u0).setCell ⟨b, 1, none⟩ u1).setCell ⟨b, 2, none⟩ u2).setCell ⟨b, 3, none⟩ u3).setCell ⟨b, 4, none⟩ u4).setCell ⟨b, 5, none⟩ u5) b #[u0, u1, u2, u3, u4, u5, v6, v7, v8, v9, v10] T := by simpa using h4.set' 5 u5
  have h6 : BlkAt (((((((w.setCell ⟨b, 0, none⟩ u0).setCell ⟨b, 1, none⟩ u1).setCell ⟨b, 2, none⟩ u2).setCell ⟨b, 3, none⟩ u3).setCell ⟨b, 4, none⟩ u4).setCell ⟨b, 5, none⟩ u5).setCell ⟨b, 6, none⟩ u6) b #[u0, u1, u2, u3, u4, u5, u6, v7, v8, v9, v10] T := by simpa using h5.set' 6 u6
  have h7 : BlkAt ((((((((w.setCell ⟨b, 0, none⟩ u0).setCell ⟨b, 1, none⟩ u1).setCell ⟨b, 2, none⟩ u2).setCell ⟨b, 3, none⟩ u3).setCell ⟨b, 4, none⟩ u4).setCell ⟨b, 5, none⟩ u5).setCell ⟨b, 6, none⟩ u6).setCell ⟨b, 7, none⟩ u7) b #[u0, u1, u2, u3, u4, u5, u6, u7, v8, v9, v10] T := by simpa using h6.set' 7 u7
  have h8 : BlkAt (((((((((w.setCell ⟨b, 0, none⟩ u0).setCell ⟨b, 1, none⟩ u1).setCell ⟨b, 2, none⟩ u2).setCell ⟨b, 3, none⟩ u3).setCell ⟨b, 4, none⟩ u4).setCell ⟨b, 5, none⟩ u5).setCell ⟨b, 6, none⟩ u6).setCell ⟨b, 7, none⟩ u7).setCell ⟨b, 8, none⟩ u8) b #[u0, u1, u2, u3, u4, u5, u6, u7, u8, v9, v10] T := by simpa using h7.set' 8 u8
  have h9 : BlkAt ((((((((((w.setCell ⟨b, 0, none⟩ u0).setCell ⟨b, 1, none⟩ u1).setCell ⟨b, 2, none⟩ u2).setCell ⟨b, 3, none⟩ u3).setCell ⟨b, 4, none⟩ u4).setCell ⟨b, 5, none⟩ u5).setCell ⟨b, 6, none⟩ u6).setCell ⟨b, 7, none⟩ u7).setCell ⟨b, 8, none⟩ u8).setCell ⟨b, 9, none⟩ u9) b #[u0, u1, u2, u3, u4, u5, u6, u7, u8, u9, v10] T := by simpa using h8.set' 9 u9
  have h10 : BlkAt (((((((((((w.setCell ⟨b, 0, none⟩ u0).setCell ⟨b, 1, none⟩ u1).setCell ⟨b, 2, none⟩ u2).setCell ⟨b, 3, none⟩ u3).setCell ⟨b, 4, none⟩ u4).setCell ⟨b, 5, none⟩ u5).setCell ⟨b, 6, none⟩ u6).setCell ⟨b, 7, none⟩ u7).setCell ⟨b, 8, none⟩ u8).setCell ⟨b, 9, none⟩ u9).setCell ⟨b, 10, none⟩ u10) b #[u0, u1, u2, u3, u4, u5, u6, u7, u8, u9, u10] T := by simpa using h9.set' 10 u10
  exact h10
theorem stored11_cdx {X : Nat → Prop} (w : World) (b : Nat) (hb : X b) (y : Cd) (A : List AbT) (u0 u1 u2 u3 u4 u5 u6 u7 u8 u9 u10 : Value) (h : CdX X w y A) :
    CdX X (((((((((((w.setCell ⟨b, 0, none⟩ u0).setCell ⟨b, 1, none⟩ u1).setCell ⟨b, 2, none⟩ u2).setCell ⟨b, 3, none⟩ u3).setCell ⟨b, 4, none⟩ u4).setCell ⟨b, 5, none⟩ u5).setCell ⟨b, 6, none⟩ u6).setCell ⟨b, 7, none⟩ u7).setCell ⟨b, 8, none⟩ u8).setCell ⟨b, 9, none⟩ u9).setCell ⟨b, 10, none⟩ u10) y A :=
  ((((((((((h.set b 0 hb u0).set b 1 hb u1).set b 2 hb u2).set b 3 hb u3).set b 4 hb u4).set b 5 hb u5).set b 6 hb u6).set b 7 hb u7).set b 8 hb u8).set b 9 hb u9).set b 10 hb u10
theorem stored11_below {B : Nat} {w0 : World} (w : World) (b : Nat) (hb : B ≤ b) (u0 u1 u2 u3 u4 u5 u6 u7 u8 u9 u10 : Value) (h : Below B w0 w) :
    Below B w0 (((((((((((w.setCell ⟨b, 0, none⟩ u0).setCell ⟨b, 1, none⟩ u1).setCell ⟨b, 2, none⟩ u2).setCell ⟨b, 3, none⟩ u3).setCell ⟨b, 4, none⟩ u4).setCell ⟨b, 5, none⟩ u5).setCell ⟨b, 6, none⟩ u6).setCell ⟨b, 7, none⟩ u7).setCell ⟨b, 8, none⟩ u8).setCell ⟨b, 9, none⟩ u9).setCell ⟨b, 10, none⟩ u10) :=
  ((((((((((h.setCell (p := ⟨b, 0, none⟩) hb u0).setCell (p := ⟨b, 1, none⟩) hb u1).setCell (p := ⟨b, 2, none⟩) hb u2).setCell (p := ⟨b, 3, none⟩) hb u3).setCell (p := ⟨b, 4, none⟩) hb u4).setCell (p := ⟨b, 5, none⟩) hb u5).setCell (p := ⟨b, 6, none⟩) hb u6).setCell (p := ⟨b, 7, none⟩) hb u7).setCell (p := ⟨b, 8, none⟩) hb u8).setCell (p := ⟨b, 9, none⟩) hb u9).setCell (p := ⟨b, 10, none⟩) hb u10
set_option maxRecDepth 100000 in
set_option maxHeartbeats 4000000 in
theorem walk_CardChecks (y : Cd) (A : List AbT) (cards : Int) (w : World) (h : CdR w y A) (hy : CdOk y) (hT : Tabs w) :
    Calls Tryd.prog 3 #[.agg #[.string y.nm, .int .i64 y.k, .int .i64 y.c0, .int .i64 y.c1, .int .i64 y.c2, .int .i64 y.c3, .int .i64 y.col, .int .i64 y.pow, .int .i64 y.tou, .int .i64 y.keys, .slice y.aa y.an y.ac], .int .i64 cards] w fun e w' => e = .returned (.bool true) ∧ Below w.heap.size w w' := by
  have hb := below_alloc1 w (.cells #[.string y.nm, .int .i64 y.k, .int .i64 y.c0, .int .i64 y.c1, .int .i64 y.c2, .int .i64 y.c3, .int .i64 y.col, .int .i64 y.pow, .int .i64 y.tou, .int .i64 y.keys, .slice y.aa y.an y.ac] 26)
  have HCX := Lib.hid (h.old hb (X := fun g => g = w.heap.size) (fun g e => by rw [e]; exact Nat.le_refl _))
  have HT := Lib.hid (hT.next hb)
  have HX := Lib.hid (blkAt_new w #[.string y.nm, .int .i64 y.k, .int .i64 y.c0, .int .i64 y.c1, .int .i64 y.c2, .int .i64 y.c3, .int .i64 y.col, .int .i64 y.pow, .int .i64 y.tou, .int .i64 y.keys, .slice y.aa y.an y.ac] 26)
  have HW := Lib.hid hb
  have HY := Lib.hid hy
  have HZ := Lib.hid (show w.heap.size < (w.alloc (.cells #[.string y.nm, .int .i64 y.k, .int .i64 y.c0, .int .i64 y.c1, .int .i64 y.c2, .int .i64 y.c3, .int .i64 y.col, .int .i64 y.pow, .int .i64 y.tou, .int .i64 y.keys, .slice y.aa y.an y.ac] 26)).heap.size by simp)
  have hTs := Lib.hid hT
  clear h hy hT hb
  go_enter Tryd.func3, Tryd.ntmps3
  go_wp2_with fail
  generalize w.alloc (.cells #[.string y.nm, .int .i64 y.k, .int .i64 y.c0, .int .i64 y.c1, .int .i64 y.c2, .int .i64 y.c3, .int .i64 y.col, .int .i64 y.pow, .int .i64 y.tou, .int .i64 y.keys, .slice y.aa y.an y.ac] 26) = W at *
  refine (bounded_any (fun g => g = w.heap.size) y A _ (fun g e => by rw [e]; exact HZ.out) HCX.out HY.out).mono ?_
  rintro e w1 ⟨p, z, B, rfl, hr, ho, _, _, hb⟩
  have HB1 := Lib.hid hb
  have HX1 := Lib.hid (HX.out.next hb)
  have HZ1 := Lib.hid hr
  have HO := Lib.hid ho
  clear hr ho hb
  obtain ⟨⟨q0, q1, q2, q3, q4, q5, q6, q7, q8, q9, q10⟩, f0, f1, f2, f3, f4, f5, f6, f7, f8, f9, f10⟩ := HX1.out.cells11
  go_wp2_with fail
  have HB2 := Lib.hid (stored11_below w1 w.heap.size (Nat.le_refl _) (.string z.nm) (.int .i64 z.k) (.int .i64 z.c0) (.int .i64 z.c1) (.int .i64 z.c2) (.int .i64 z.c3) (.int .i64 z.col) (.int .i64 z.pow) (.int .i64 z.tou) (.int .i64 z.keys) (.slice z.aa z.an z.ac) (HW.out.trans (HB1.out.mono HW.out.size)))
  have HX2 := Lib.hid (stored11 w1 w.heap.size _ _ _ _ _ _ _ _ _ _ _ _ (.string z.nm) (.int .i64 z.k) (.int .i64 z.c0) (.int .i64 z.c1) (.int .i64 z.c2) (.int .i64 z.c3) (.int .i64 z.col) (.int .i64 z.pow) (.int .i64 z.tou) (.int .i64 z.keys) (.slice z.aa z.an z.ac) HX1.out)
  have HC2 := Lib.hid (stored11_cdx (X := fun g => g = w.heap.size) w1 w.heap.size rfl z B (.string z.nm) (.int .i64 z.k) (.int .i64 z.c0) (.int .i64 z.c1) (.int .i64 z.c2) (.int .i64 z.c3) (.int .i64 z.col) (.int .i64 z.pow) (.int .i64 z.tou) (.int .i64 z.keys) (.slice z.aa z.an z.ac) HZ1.out)
  have HT2 := Lib.hid (hTs.out.next HB2.out)
  clear q0 q1 q2 q3 q4 q5 q6 q7 q8 q9 q10 f0 f1 f2 f3 f4 f5 f6 f7 f8 f9 f10
  generalize ((((((((((w1.setCell ⟨w.heap.size, 0, none⟩ (.string z.nm)).setCell ⟨w.heap.size, 1, none⟩ (.int .i64 z.k)).setCell ⟨w.heap.size, 2, none⟩ (.int .i64 z.c0)).setCell ⟨w.heap.size, 3, none⟩ (.int .i64 z.c1)).setCell ⟨w.heap.size, 4, none⟩ (.int .i64 z.c2)).setCell ⟨w.heap.size, 5, none⟩ (.int .i64 z.c3)).setCell ⟨w.heap.size, 6, none⟩ (.int .i64 z.col)).setCell ⟨w.heap.size, 7, none⟩ (.int .i64 z.pow)).setCell ⟨w.heap.size, 8, none⟩ (.int .i64 z.tou)).setCell ⟨w.heap.size, 9, none⟩ (.int .i64 z.keys)).setCell ⟨w.heap.size, 10, none⟩ (.slice z.aa z.an z.ac) = V at *
  obtain ⟨⟨q0, q1, q2, q3, q4, q5, q6, q7, q8, q9, q10⟩, _⟩ := HX2.out.cells11
  obtain ⟨r, hr⟩ : ∃ r, chkC z B cards = r := ⟨_, rfl⟩
  have HR := Lib.hid hr
  have HR2 := Lib.hid ((chk_eq z B cards HC2.out.now.1).trans hr)
  clear hr
  have hdr : Below V.heap.size V V.drew := (Below.refl _ _).drew
  have HCd := Lib.hid (HC2.out.next hdr).now
  have HTd := Lib.hid (HT2.out.next hdr)
  have HDr := Lib.hid hdr
  clear hdr
  first
    | (go_region_with (first
        | (go_at_call 8; refine (cardCheck_any z B cards r HR.out _ HCd.out HO.out HTd.out).mono ?_; rintro e w2 ⟨rfl, hb⟩; have HB3 := Lib.hid (below_then' HDr.out hb (Nat.le_refl _)); clear hb q0 q1 q2 q3 q4 q5 q6 q7 q8 q9 q10; obtain ⟨⟨q0, q1, q2, q3, q4, q5, q6, q7, q8, q9, q10⟩, _⟩ := (HX2.out.next HB3.out).cells11)
        | (go_at_call 9; refine (refCardCheck_any z B cards r HR2.out _ (HC2.out.next HB3.out).now HO.out.1).mono ?_; rintro e w3 ⟨rfl, hb⟩; have HB4 := Lib.hid (below_then' HB3.out hb HB3.out.size); clear hb)
        | (go_at_call 10; refine (works_any _ (HT2.out.next HB4.out)).mono ?_; rintro e w4 ⟨rfl, hb⟩; have HB5 := Lib.hid (below_then' HB4.out hb HB4.out.size); clear hb)))
    | fail
  all_goals
    go_wp2_with fail
    go_ret
    exact ⟨rfl, HB2.out.trans (HB5.out.mono HB2.out.size)⟩
end Go.Proofs.YtfhmadlobdklbaaDoor
