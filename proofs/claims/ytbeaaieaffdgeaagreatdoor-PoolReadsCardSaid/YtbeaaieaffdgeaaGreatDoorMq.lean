/- Texts that belong together: PoolLb, PoolLc, PoolKc, PoolKd, PoolKe, PoolZr. -/
import Derived.Test.YtbeaaieaffdgeaaGreatDoorMn
import Derived.Test.YtbeaaieaffdgeaaGreatDoorMo
import Derived.BigQuiet
import Derived.Test.YtbeaaieaffdgeaaGreatDoorMp
import Derived.Test.YtbeaaieaffdgeaaGreatDoorMm
import Derived.Deep.CutRange
import Derived.Deep.RegionWith
import Derived.Test.YtbeaaieaffdgeaaGreatDoorMl
import Derived.Deep.RegionLaw
import Derived.Deep.RegionLawGrows
/- The document's abilities, of two lists that are alike. -/
section
namespace Go.Proofs.YtbeaaieaffdgeaaGreatDoor
open Go.RowKit
set_option linter.unusedVariables false
set_option linter.unusedSimpArgs false

attribute [local go_sem] mana_eq
attribute [local go_sem] ins_same
set_option maxRecDepth 100000 in
set_option maxHeartbeats 8000000 in
theorem refAbs_same (a : Option Addr) (c : Nat) (A : List AbT) (a2 : Option Addr) (c2 : Nat) (B : List AbT) (n : Nat) (hn : A.length = n) (hAB : B.map bareA = A.map bareA) (w : World) (hp : IsA w a c A) (hq : IsA w a2 c2 B) :
    Calls Tryz.prog 37 #[.slice a n c, .slice a2 n c2] w fun e w' => e = .returned (.bool true) ∧ Below w.heap.size w w' := by
  have hm : B.length = n := by rw [← hn]; simpa using congrArg List.length hAB
  have q1 := hp.1
  have q2 := hp.2.1
  have r1 := hq.1
  have r2 := hq.2.1
  rw [hn] at q1
  rw [hm] at r1
  have HP := Lib.hid hp
  have HQ := Lib.hid hq
  have HN := Lib.hid hn
  have HM := Lib.hid hm
  have HE := Lib.hid hAB
  clear hp hq hn hm hAB
  go_enter Tryz.func37, Tryz.ntmps37
  go_wp2_with fail
  go_loopw [5] (fun q wr => ∃ k : Nat, q = .int .i64 (k : Int) ∧ k ≤ n ∧ Below w.heap.size w wr) (fun q _ => n - (intOf q).toNat)
  case atStart => exact ⟨0, rfl, Nat.zero_le _, Below.refl _ _⟩
  case round =>
    obtain ⟨j, rfl, hj, hb⟩ := hrel
    have HB := Lib.hid hb
    clear hb
    by_cases hlj : j < n
    · obtain ⟨ab, aoff, x, T, C, hxx, hax, hta, hbl, m0, m1, m2, m3, m4, m5, m6, m7, m8, m9, m10, m11, m12⟩ := (HP.out.next HB.out).at j (by rw [HN.out]; exact hlj)
      obtain ⟨ab2, aoff2, v, T2, C2, hvv, hav, htb, hbl2, n0, n1, n2, n3, n4, n5, n6, n7, n8, n9, n10, n11, n12⟩ := (HQ.out.next HB.out).at j (by rw [HM.out]; exact hlj)
      have htw := twinA_at HE.out j (by rw [HN.out]; exact hlj) (by rw [HM.out]; exact hlj)
      rw [← hxx, ← hvv] at htw
      obtain ⟨rfl, rfl, t0, t1, t2, t3, t4, t5, t6, t7, t8, t9, t10⟩ := bareA_twin htw
      have t11 : v.tn = x.tn := by rw [← hav.1.1, ← hax.1.1]
      have t12 : v.cn = x.cn := by rw [← hav.2.1, ← hax.2.1]
      have hv : v = { x with ta := v.ta, tc := v.tc, ca := v.ca, cc := v.cc } := by
        obtain ⟨⟩ := v
        obtain ⟨⟩ := x
        simp only at t0 t1 t2 t3 t4 t5 t6 t7 t8 t9 t10 t11 t12
        subst t0 t1 t2 t3 t4 t5 t6 t7 t8 t9 t10 t11 t12
        rfl
      generalize v.ta = vta at hv
      generalize v.tc = vtc at hv
      generalize v.ca = vca at hv
      generalize v.cc = vcc at hv
      subst hv
      dsimp only at n0 n1 n2 n3 n4 n5 n6 n7 n8 n9 n10 n11 n12
      have HAX := Lib.hid hax
      have HAV := Lib.hid hav
      have HTl := Lib.hid hax.1.1
      have HCl := Lib.hid hax.2.1
      clear hxx hvv hax hav htw t0 t1 t2 t3 t4 t5 t6 t7 t8 t9 t10 t11 t12
      rw [hta, htb] at *
      clear hta htb
      go_upto_region 6 with fail
      go_cut [6, 7] from 20 to 27 (fun p q W => ∃ bx bz : Nat, p = .pointer (some ⟨bx, 0, none⟩) ∧ q = .pointer (some ⟨bz, 0, none⟩) ∧ BlkAt W bx #[.int .i64 x.k, .int .i64 x.ev, .int .i64 x.wh, .int .i64 x.c0, .int .i64 x.c1, .int .i64 x.c2, .int .i64 x.c3, .bool x.tap, .slice x.ta x.tn x.tc, .slice x.ca x.cn x.cc, .int .i64 x.op, .int .i64 x.a, .int .i64 x.b] 42 ∧ BlkAt W bz #[.int .i64 x.k, .int .i64 x.ev, .int .i64 x.wh, .int .i64 x.c0, .int .i64 x.c1, .int .i64 x.c2, .int .i64 x.c3, .bool x.tap, .slice vta x.tn vtc, .slice vca x.cn vcc, .int .i64 x.op, .int .i64 x.a, .int .i64 x.b] 42 ∧ Below wr.heap.size wr W)
      case first =>
        go_region
        · go_wp2_with fail
          go_meet
          exact ⟨wr.heap.size, wr.heap.size + 1, rfl, rfl, blkAt_one wr #[.int .i64 x.k, .int .i64 x.ev, .int .i64 x.wh, .int .i64 x.c0, .int .i64 x.c1, .int .i64 x.c2, .int .i64 x.c3, .bool x.tap, .slice x.ta x.tn x.tc, .slice x.ca x.cn x.cc, .int .i64 x.op, .int .i64 x.a, .int .i64 x.b] 42 _, blkAt_two wr #[.int .i64 x.k, .int .i64 x.ev, .int .i64 x.wh, .int .i64 x.c0, .int .i64 x.c1, .int .i64 x.c2, .int .i64 x.c3, .bool x.tap, .slice vta x.tn vtc, .slice vca x.cn vcc, .int .i64 x.op, .int .i64 x.a, .int .i64 x.b] 42 _, (below_alloc2 wr _ _).trans ⟨rfl, rfl, rfl, Nat.le_refl _, fun _ _ => rfl⟩⟩
        · go_wp2_with fail
          go_meet
          exact ⟨wr.heap.size + 1, wr.heap.size, rfl, rfl, blkAt_two wr #[.int .i64 x.k, .int .i64 x.ev, .int .i64 x.wh, .int .i64 x.c0, .int .i64 x.c1, .int .i64 x.c2, .int .i64 x.c3, .bool x.tap, .slice x.ta x.tn x.tc, .slice x.ca x.cn x.cc, .int .i64 x.op, .int .i64 x.a, .int .i64 x.b] 42 _, blkAt_one wr #[.int .i64 x.k, .int .i64 x.ev, .int .i64 x.wh, .int .i64 x.c0, .int .i64 x.c1, .int .i64 x.c2, .int .i64 x.c3, .bool x.tap, .slice vta x.tn vtc, .slice vca x.cn vcc, .int .i64 x.op, .int .i64 x.a, .int .i64 x.b] 42 _, (below_alloc2 wr _ _).trans ⟨rfl, rfl, rfl, Nat.le_refl _, fun _ _ => rfl⟩⟩
      case rest =>
        obtain ⟨bx, bz, rfl, rfl, hx, hz, hb⟩ := hcut
        have HX := Lib.hid hx
        have HZ := Lib.hid hz
        have HB2 := Lib.hid (below_then' HB.out hb HB.out.size)
        have HTx := Lib.hid (HAX.out.next hb)
        have HTz := Lib.hid (HAV.out.next hb)
        clear hx hz hb m0 m1 m2 m3 m4 m5 m6 m7 m8 m9 m10 m11 m12 n0 n1 n2 n3 n4 n5 n6 n7 n8 n9 n10 n11 n12 hbl hbl2 HAX HAV
        obtain ⟨x0, x1, x2, x3, x4, x5, x6, x7, x8, x9, x10, x11, x12⟩ := HX.out.cells13
        obtain ⟨z0, z1, z2, z3, z4, z5, z6, z7, z8, z9, z10, z11, z12⟩ := HZ.out.cells13
        have HIn := Lib.hid (refInts_same T2 x.ta vta x.tc vtc x.tn HTl.out wc HTx.out.1.2 HTz.out.1.2)
        go_wp2_with (go_at_call 59; refine HIn.out.mono ?_; rintro e w9 ⟨rfl, hb9⟩; have HX9 := Lib.hid (HX.out.next hb9); have HZ9 := Lib.hid (HZ.out.next hb9); have HB9 := Lib.hid (below_then' HB2.out hb9 HB2.out.size); have HTx9 := Lib.hid (HTx.out.next hb9); have HTz9 := Lib.hid (HTz.out.next hb9); obtain ⟨_, _, _, _, _, _, _, _, _, r9, _, _, _⟩ := HX9.out.cells13; obtain ⟨_, _, _, _, _, _, _, _, _, s9, _, _, _⟩ := HZ9.out.cells13; clear hb9)
        clear x0 x1 x2 x3 x4 x5 x6 x7 x8 x9 x10 x11 x12 z0 z1 z2 z3 z4 z5 z6 z7 z8 z9 z10 z11 z12 r9 s9
        go_loopw [8] (fun q ws => ∃ i : Nat, q = .int .i64 (i : Int) ∧ i ≤ x.cn ∧ Below w9.heap.size w9 ws) (fun q _ => x.cn - (intOf q).toNat)
        case atStart => exact ⟨0, rfl, Nat.zero_le _, Below.refl _ _⟩
        case round =>
          obtain ⟨i, rfl, hi, hb⟩ := hrel
          rename World => ws
          have HC := Lib.hid hb
          clear hb
          obtain ⟨_, _, _, _, _, _, _, _, _, r9, _, _, _⟩ := (HX9.out.next HC.out).cells13
          obtain ⟨_, _, _, _, _, _, _, _, _, s9, _, _, _⟩ := (HZ9.out.next HC.out).cells13
          by_cases hlt2 : i < x.cn
          · obtain ⟨b, off, u, hu, hta, u0, u1, u2⟩ := (HTx9.out.2.2.next HC.out).at i (by rw [HCl.out]; exact hlt2)
            obtain ⟨b2, off2, z, hz, htb, z0, z1, z2⟩ := (HTz9.out.2.2.next HC.out).at i (by rw [HCl.out]; exact hlt2)
            obtain rfl : u = z := hu.trans hz.symm
            clear hu hz
            dsimp only at htb
            rw [hta] at r9
            rw [htb] at s9
            have q5 := HTx9.out.2.2.1
            have q6 := HTx9.out.2.2.2.1
            have q7 := HTz9.out.2.2.1
            have q8 := HTz9.out.2.2.2.1
            dsimp only at q7 q8
            rw [HCl.out] at q5 q7
            clear hta htb
            go_wp2_with fail
            go_quiet (fail)
            go_wp2_with fail
            go_roundw
            case rel => exact ⟨i + 1, by go_num, by omega, HC.out.trans ⟨rfl, rfl, rfl, Nat.le_refl _, fun _ _ => rfl⟩⟩
            case measure => simp [intOf]; omega
          · go_wp2_with fail
            exact ⟨⟨j + 1, by go_num, by omega, below_then' HB9.out HC.out HB9.out.size⟩, by simp [intOf]; omega⟩
    · go_wp2_with fail
      go_ret
      exact ⟨rfl, HB.out⟩
end Go.Proofs.YtbeaaieaffdgeaaGreatDoor
end
/- The document's Same, of two pools that are alike. -/
section
namespace Go.Proofs.YtbeaaieaffdgeaaGreatDoor
open Go.RowKit
set_option linter.unusedVariables false
set_option linter.unusedSimpArgs false

attribute [local go_sem] mana_eq
set_option maxRecDepth 100000 in
set_option maxHeartbeats 8000000 in
theorem refSame_same (a : Option Addr) (c : Nat) (L : List CdT) (a2 : Option Addr) (c2 : Nat) (M : List CdT) (n : Nat) (hn : L.length = n) (hLM : M.map bareC = L.map bareC) (w : World) (hp : IsP w a c L) (hq : IsP w a2 c2 M) :
    Calls Tryz.prog 13 #[.slice a n c, .slice a2 n c2] w fun e w' => e = .returned (.bool true) ∧ Below w.heap.size w w' := by
  have hm : M.length = n := by rw [← hn]; simpa using congrArg List.length hLM
  have q1 := hp.1
  have q2 := hp.2.1
  have r1 := hq.1
  have r2 := hq.2.1
  rw [hn] at q1
  rw [hm] at r1
  have HP := Lib.hid hp
  have HQ := Lib.hid hq
  have HN := Lib.hid hn
  have HM := Lib.hid hm
  have HE := Lib.hid hLM
  clear hp hq hn hm hLM
  go_enter Tryz.func13, Tryz.ntmps13
  go_wp2_with fail
  go_loopw [5] (fun q wr => ∃ k : Nat, q = .int .i64 (k : Int) ∧ k ≤ n ∧ Below w.heap.size w wr) (fun q _ => n - (intOf q).toNat)
  case atStart => exact ⟨0, rfl, Nat.zero_le _, Below.refl _ _⟩
  case round =>
    obtain ⟨k, rfl, hk, hb⟩ := hrel
    have HB := Lib.hid hb
    clear hb
    by_cases hlt : k < n
    · obtain ⟨b, off, y, A, hy, hcd, hpa, hbz, y0, y1, y2, y3, y4, y5, y6, y7, y8, y9, y10⟩ := (HP.out.next HB.out).at k (by rw [HN.out]; exact hlt)
      obtain ⟨b2, off2, z, B, hz, hcd2, hpb, hbz2, z0, z1, z2, z3, z4, z5, z6, z7, z8, z9, z10⟩ := (HQ.out.next HB.out).at k (by rw [HM.out]; exact hlt)
      have htw := twin_at HE.out k (by rw [HN.out]; exact hlt) (by rw [HM.out]; exact hlt)
      rw [← hy, ← hz] at htw
      obtain ⟨hAB, e0, e1, e2, e3, e4, e5, e6, e7, e8, e9⟩ := bareC_twin htw
      rw [e0] at z0
      rw [e1] at z1
      rw [e2] at z2
      rw [e3] at z3
      rw [e4] at z4
      rw [e5] at z5
      rw [e6] at z6
      rw [e7] at z7
      rw [e8] at z8
      rw [e9] at z9
      have han : z.an = y.an := by rw [← hcd.1, ← hcd2.1]; simpa using congrArg List.length hAB
      rw [han] at z10
      have HA := Lib.hid hcd
      have HA2 := Lib.hid hcd2
      have HAB := Lib.hid hAB
      have HAn := Lib.hid han
      clear hy hz hcd hcd2 htw hAB han e0 e1 e2 e3 e4 e5 e6 e7 e8 e9
      subst hpa
      subst hpb
      go_upto_region 6 with fail
      go_cut [6, 7] from 19 to 26 (fun p q W => ∃ bx bz : Nat, p = .pointer (some ⟨bx, 0, none⟩) ∧ q = .pointer (some ⟨bz, 0, none⟩) ∧ BlkAt W bx #[.string y.nm, .int .i64 y.k, .int .i64 y.c0, .int .i64 y.c1, .int .i64 y.c2, .int .i64 y.c3, .int .i64 y.col, .int .i64 y.pow, .int .i64 y.tou, .int .i64 y.keys, .slice y.aa y.an y.ac] 38 ∧ BlkAt W bz #[.string y.nm, .int .i64 y.k, .int .i64 y.c0, .int .i64 y.c1, .int .i64 y.c2, .int .i64 y.c3, .int .i64 y.col, .int .i64 y.pow, .int .i64 y.tou, .int .i64 y.keys, .slice z.aa y.an z.ac] 38 ∧ Below wr.heap.size wr W)
      case first =>
        go_region
        · go_wp2_with fail
          go_meet
          exact ⟨wr.heap.size, wr.heap.size + 1, rfl, rfl, blkAt_one wr #[.string y.nm, .int .i64 y.k, .int .i64 y.c0, .int .i64 y.c1, .int .i64 y.c2, .int .i64 y.c3, .int .i64 y.col, .int .i64 y.pow, .int .i64 y.tou, .int .i64 y.keys, .slice y.aa y.an y.ac] 38 _, blkAt_two wr #[.string y.nm, .int .i64 y.k, .int .i64 y.c0, .int .i64 y.c1, .int .i64 y.c2, .int .i64 y.c3, .int .i64 y.col, .int .i64 y.pow, .int .i64 y.tou, .int .i64 y.keys, .slice z.aa y.an z.ac] 38 _, (below_alloc2 wr _ _).trans ⟨rfl, rfl, rfl, Nat.le_refl _, fun _ _ => rfl⟩⟩
        · go_wp2_with fail
          go_meet
          exact ⟨wr.heap.size + 1, wr.heap.size, rfl, rfl, blkAt_two wr #[.string y.nm, .int .i64 y.k, .int .i64 y.c0, .int .i64 y.c1, .int .i64 y.c2, .int .i64 y.c3, .int .i64 y.col, .int .i64 y.pow, .int .i64 y.tou, .int .i64 y.keys, .slice y.aa y.an y.ac] 38 _, blkAt_one wr #[.string y.nm, .int .i64 y.k, .int .i64 y.c0, .int .i64 y.c1, .int .i64 y.c2, .int .i64 y.c3, .int .i64 y.col, .int .i64 y.pow, .int .i64 y.tou, .int .i64 y.keys, .slice z.aa y.an z.ac] 38 _, (below_alloc2 wr _ _).trans ⟨rfl, rfl, rfl, Nat.le_refl _, fun _ _ => rfl⟩⟩
      case rest =>
        obtain ⟨bx, bz, rfl, rfl, hx, hz, hb⟩ := hcut
        have HX := Lib.hid hx
        have HZ := Lib.hid hz
        have HB2 := Lib.hid (below_then' HB.out hb HB.out.size)
        have HBw := Lib.hid hb
        clear hx hz hb y0 y1 y2 y3 y4 y5 y6 y7 y8 y9 y10 z0 z1 z2 z3 z4 z5 z6 z7 z8 z9 z10
        obtain ⟨⟨x0, x1, x2, x3, x4, x5, x6, x7, x8, x9, x10⟩, _⟩ := HX.out.cells11
        obtain ⟨⟨z0, z1, z2, z3, z4, z5, z6, z7, z8, z9, z10⟩, _⟩ := HZ.out.cells11
        have HCl := Lib.hid (refAbs_same y.aa y.ac A z.aa z.ac B y.an HA.out.1 HAB.out wc (HA.out.2.next HBw.out) (HA2.out.2.next HBw.out))
        go_wp2_with (go_at_call 37; refine HCl.out.mono ?_; rintro e w9 ⟨rfl, hb9⟩; have HB9 := Lib.hid hb9; clear hb9)
        exact ⟨⟨k + 1, by go_num, by omega, below_then' HB2.out HB9.out HB2.out.size⟩, by simp [intOf]; omega⟩
    · go_wp2_with fail
      go_ret
      exact ⟨rfl, HB.out⟩
end Go.Proofs.YtbeaaieaffdgeaaGreatDoor
end
/- What the document's reader reads is bounded; abilities that were read. -/
section
namespace Go.Proofs.YtbeaaieaffdgeaaGreatDoor
open Go.RowKit
set_option linter.unusedVariables false
set_option linter.unusedSimpArgs false

theorem rdInt_64 (r : RdS) : In64 (rdInt r).1 := by
  have h := rdNum_lt r
  show In64 (unzig (rdNum r).1)
  unfold In64 unzig
  split <;> omega
theorem rdNm_64 (r : RdS) : In64 (rdNm r).1 := by
  show In64 ((min (rdNum r).1 100000 : Nat) : Int)
  unfold In64
  omega
theorem RdOk.rep {α : Type} {f : RdS → α × RdS} (hf : ∀ r, RdOk r → RdOk (f r).2) : ∀ (k : Nat) (r : RdS), RdOk r → RdOk (rdRep f k r).2
  | 0, r, h => h
  | k + 1, r, h => by
    unfold rdRep
    split
    · exact h
    · exact RdOk.rep hf k _ (hf r h)
theorem rep_all {α : Type} {f : RdS → α × RdS} {P : α → Prop} (hf : ∀ r, RdOk r → RdOk (f r).2) (hP : ∀ r, RdOk r → P (f r).1) : ∀ (k : Nat) (r : RdS), RdOk r → ∀ x ∈ (rdRep f k r).1, P x
  | 0, r, h => fun x hx => by simp [rdRep] at hx
  | k + 1, r, h => fun x hx => by
    unfold rdRep at hx
    split at hx
    · cases hx
    · rcases List.mem_cons.1 hx with rfl | hx
      · exact hP r h
      · exact rep_all hf hP k _ (hf r h) x hx
theorem rep_len {α : Type} (f : RdS → α × RdS) : ∀ (k : Nat) (r : RdS), (rdRep f k r).1.length ≤ k
  | 0, r => by simp [rdRep]
  | k + 1, r => by
    unfold rdRep
    split
    · simp
    · simp only [List.length_cons]
      have := rep_len f k (f r).2
      omega
theorem RdOk.int {r : RdS} (h : RdOk r) : RdOk (rdInt r).2 := RdOk.num h
theorem RdOk.ins {r : RdS} (h : RdOk r) : RdOk (rdIns r).2 := RdOk.int (RdOk.int h.nm)
theorem RdOk.ab {r : RdS} (h : RdOk r) : RdOk (rdAb r).2 := by
  have h9 := h.nm.nm.nm.nm.nm.nm.nm.nm.nm
  have hT := fun k => RdOk.rep (f := rdNm) (fun r h => RdOk.nm h) k _ h9
  have hm := fun k => (hT k).nm
  have hL := fun k j => RdOk.rep (f := rdIns) (fun r h => RdOk.ins h) j _ (hm k)
  have hE := fun k j => (hL k j).nm.int.int
  dsimp only [rdAb]
  exact hE _ _
theorem rdAb_64 (r : RdS) (h : RdOk r) : In64 (rdAb r).1.1.a ∧ In64 (rdAb r).1.1.b ∧ ∀ i ∈ (rdAb r).1.2.2, In64 i.a ∧ In64 i.b := by
  have h9 := h.nm.nm.nm.nm.nm.nm.nm.nm.nm
  have hT := fun k => RdOk.rep (f := rdNm) (fun r h => RdOk.nm h) k _ h9
  have hm := fun k => (hT k).nm
  have hL := fun k j => rep_all (f := rdIns) (P := fun i : Ins => In64 i.a ∧ In64 i.b) (fun r h => RdOk.ins h) (fun r _ => ⟨rdInt_64 _, rdInt_64 _⟩) j _ (hm k)
  dsimp only [rdAb]
  exact ⟨rdInt_64 _, rdInt_64 _, hL _ _⟩
theorem rdText_sz (r : RdS) (h : RdOk r) : (rdText r).1.size ≤ 70368744177664 := by
  have h2 := h.num.1
  unfold rdText
  split
  · show (0 : Nat) ≤ _; omega
  · split
    · show (0 : Nat) ≤ _; omega
    · show ((rdNum r).2.1.extract 0 (rdNum r).1).size ≤ _
      rw [ByteArray.size_extract]
      omega
theorem RdOk.cd {r : RdS} (h : RdOk r) : RdOk (rdCd r).2 := by
  have h9 := h.text.nm.nm.nm.nm.nm.nm.nm.nm.nm.nm
  have hA := fun k => RdOk.rep (f := rdAb) (fun r h => RdOk.ab h) k _ h9
  dsimp only [rdCd]
  exact hA _
/-- What a card that was read keeps. -/
def Rdd (c : CdT) : Prop := c.1.nm.size ≤ maxLen ∧ In64 c.1.keys ∧ ∀ t ∈ c.2, In64 t.1.a ∧ In64 t.1.b ∧ ∀ i ∈ t.2.2, In64 i.a ∧ In64 i.b
theorem rdCd_ok (r : RdS) (h : RdOk r) : Rdd (rdCd r).1 := by
  have h9 := h.text.nm.nm.nm.nm.nm.nm.nm.nm.nm.nm
  have hA := fun k => rep_all (f := rdAb) (P := fun t : AbT => In64 t.1.a ∧ In64 t.1.b ∧ ∀ i ∈ t.2.2, In64 i.a ∧ In64 i.b) (fun r h => RdOk.ab h) (fun r h => rdAb_64 r h) k _ h9
  have ht : (rdText r).1.size ≤ maxLen := by
    have := rdText_sz r h
    unfold maxLen
    omega
  dsimp only [rdCd, Rdd]
  exact ⟨ht, rdNm_64 _, hA _⟩
theorem Rdd.bare {c : CdT} (h : Rdd (bareC c)) : Rdd c := by
  refine ⟨h.1, h.2.1, fun t ht => ?_⟩
  exact h.2.2 (bareA t) (List.mem_map_of_mem ht)
theorem Rdd.c64 {w : World} {c : CdT} (h : Rdd c) (hr : CdR w c.1 c.2) : CdT64 c := by
  refine ⟨hr.1, fun t ht => ?_⟩
  have ha := hr.2.2.2.1 t ht
  exact ⟨ha.1.1, ha.2.1, h.2.2 t ht⟩
theorem SX.text {b : Nat} {w W : World} {r : RdS} {X : World → Prop} (h : SX b w r X W) (hX : Kpt b X) :
    Calls Tryz.prog 34 #[.pointer (some ⟨b, 0, none⟩)] W fun e W' => e = .returned (.string (rdText r).1) ∧ SX b w (rdText r).2 X W' :=
  (rtext_any b r W h.1.2.1 h.1.1).mono fun _ _ ⟨h1, h2, h3⟩ => ⟨h1, ⟨h2, RdOk.text h.1.2.1, grown_then h.1.2.2 h3⟩, hX _ _ h.2 h3⟩
theorem SX.endd {b : Nat} {w W : World} {r : RdS} {X : World → Prop} (h : SX b w r X W) :
    Calls Tryz.prog 36 #[.pointer (some ⟨b, 0, none⟩)] W fun e W' => e = .returned (.bool (!r.2 && r.1.toList.isEmpty)) ∧ W = W' := rend_any b r.1 r.2 W h.1.1
/-- The ability in memory that came of the reader's next bytes. -/
def Red (b : Nat) (r : RdS) (t : AbT) (W : World) : Prop := bareA t = (rdAb r).1 ∧ Kd [3, 82] b (fun W => AbR W t.1 t.2.1 t.2.2) W
theorem SX.reads {b : Nat} {w W : World} {r : RdS} {X : World → Prop} (h : SX b w r X W) (hX : Kpt b X) :
    Calls Tryz.prog 35 #[.pointer (some ⟨b, 0, none⟩)] W fun e W' => ∃ t : AbT, e = .returned (.agg #[.int .i64 t.1.k, .int .i64 t.1.ev, .int .i64 t.1.wh, .int .i64 t.1.c0, .int .i64 t.1.c1, .int .i64 t.1.c2, .int .i64 t.1.c3, .bool t.1.tap, .slice t.1.ta t.1.tn t.1.tc, .slice t.1.ca t.1.cn t.1.cc, .int .i64 t.1.op, .int .i64 t.1.a, .int .i64 t.1.b]) ∧
      SX b w (rdAb r).2 (fun W => X W ∧ Red b r t W) W' :=
  (refReads_any b r W h.1.2.1 h.1.1).mono fun _ _ ⟨x, h1, h2, h3, h4, h5⟩ => ⟨(x, (rdAb r).1.2.1, (rdAb r).1.2.2), h1, ⟨h4, RdOk.ab h.1.2.1, grown_then h.1.2.2 h5⟩, hX _ _ h.2 h5, h2, h3⟩
end Go.Proofs.YtbeaaieaffdgeaaGreatDoor
end
/- What stands beside the document's reader while a pool is read. -/
section
namespace Go.Proofs.YtbeaaieaffdgeaaGreatDoor
open Go.RowKit
set_option linter.unusedVariables false
set_option linter.unusedSimpArgs false

/-- It reads so, as long as the blocks below B stand, but for b, and rows of cards. -/
def Ko (B b : Nat) (R : World → Prop) (w : World) : Prop :=
  ∀ W : World, w.heap.size ≤ W.heap.size → (∀ k c e fz, w.heap[k]? = some (.cells c e fz) → k < B → e ≠ 38 → k ≠ b → W.heap[k]? = w.heap[k]?) → R W
theorem Ko.now {B b : Nat} {R : World → Prop} {w : World} (h : Ko B b R w) : R w := h w (Nat.le_refl _) fun _ _ _ _ _ _ _ _ => rfl
theorem Ko.up {B B' b : Nat} {R : World → Prop} {w : World} (h : Ko B b R w) (hB : B ≤ B') : Ko B' b R w := fun W h1 h2 => h W h1 fun k c e fz hc hk he hb => h2 k c e fz hc (Nat.lt_of_lt_of_le hk hB) he hb
theorem Ko.keep {B b : Nat} {R : World → Prop} {w w' : World} (h : Ko B b R w) (hs : w.heap.size ≤ w'.heap.size) (hk : ∀ k c e fz, w.heap[k]? = some (.cells c e fz) → k < B → e ≠ 38 → k ≠ b → w'.heap[k]? = w.heap[k]?) : Ko B b R w' :=
  fun W h1 h2 => h W (Nat.le_trans hs h1) fun k c e fz hc hB he hb => (h2 k c e fz ((hk k c e fz hc hB he hb).trans hc) hB he hb).trans (hk k c e fz hc hB he hb)
theorem Ko.read {B b : Nat} {R : World → Prop} {w w' : World} (h : Ko B b R w) (g : w.grownBy w' (some b)) : Ko B b R w' :=
  h.keep g.size fun k c e fz hc _ _ hb => g.block k (Array.getElem?_eq_some_iff.1 hc).1 (fun q => hb (Option.some.inj q))
theorem Ko.row {B b : Nat} {R : World → Prop} {w w' : World} {row : Option Nat} (h : Ko B b R w) (g : w.grownBy w' row) (hr : ∀ k, row = some k → B ≤ k ∨ ∃ c fz, w.heap[k]? = some (.cells c 38 fz)) : Ko B b R w' :=
  h.keep g.size fun k c e fz hc hB he _ => g.block k (Array.getElem?_eq_some_iff.1 hc).1 (fun q => by
    rcases hr k q.symm with h1 | ⟨c', fz', h1⟩
    · omega
    · rw [hc] at h1
      injection h1 with h1
      injection h1 with _ h1
      exact he h1)
theorem Ko.of {B b : Nat} {S : List TypeId} {R : World → Prop} {w : World} (h : Kd S b R w) (hS : S.contains 38 = false) (hB : w.heap.size ≤ B) : Ko B b R w :=
  fun W h1 h2 => h W h1 fun k c e fz hc he hb => h2 k c e fz hc (Nat.lt_of_lt_of_le (Array.getElem?_eq_some_iff.1 hc).1 hB) (fun q => by rw [q, hS] at he; cases he) hb
/-- The cards that were read. -/
def XL (b B : Nat) (lv : Value) (n : Nat) (L : List CdT) (W : World) : Prop :=
  W.ownsRow (b + 1) 38 11 lv n (cdRow L) ∧ ∀ c ∈ L, Ko B b (fun W => CdR W c.1 c.2) W
/-- And the one that is filled. -/
def XD (b B : Nat) (lv : Value) (n : Nat) (L : List CdT) (cb : Nat) (cs : Array Value) (W : World) : Prop :=
  XL b B lv n L W ∧ BlkAt W cb cs 38
/-- And its abilities. -/
def XE (b B : Nat) (lv : Value) (n : Nat) (L : List CdT) (cb : Nat) (cs : Array Value) (av : Value) (k : Nat) (A : List AbT) (W : World) : Prop :=
  XD b B lv n L cb cs W ∧ W.ownsRow (cb + 1) 42 13 av k (abRow A) ∧ ∀ t ∈ A, Kd [3, 82] b (fun W => AbR W t.1 t.2.1 t.2.2) W
theorem kpt_XL {b B n : Nat} {lv : Value} {L : List CdT} : Kpt b (XL b B lv n L) := fun W W' h g => ⟨own_kept h.1 g (by omega), fun c hc => (h.2 c hc).read g⟩
theorem kpt_XD {b B n cb : Nat} {lv : Value} {L : List CdT} {cs : Array Value} (h : cb ≠ b) : Kpt b (XD b B lv n L cb cs) := fun W W' hx g => ⟨kpt_XL W W' hx.1 g, kpt_blk h W W' hx.2 g⟩
theorem kpt_XE {b B n cb k : Nat} {lv av : Value} {L : List CdT} {cs : Array Value} {A : List AbT} (h : b < cb) : Kpt b (XE b B lv n L cb cs av k A) := fun W W' hx g =>
  ⟨kpt_XD (by omega) W W' hx.1 g, own_kept hx.2.1 g (by omega), fun t ht => (hx.2.2 t ht).read g⟩
theorem XD.set {b B n cb : Nat} {lv : Value} {L : List CdT} {cs : Array Value} {W : World} (h : XD b B lv n L cb cs W) (hl : lv.ownBlock ≠ some cb) (i : Nat) (v : Value) : XD b B lv n L cb (cs.setIfInBounds i v) (W.setCell ⟨cb, i, none⟩ v) :=
  ⟨⟨ownsRow_setCell_other h.1.1 (a := ⟨cb, i, none⟩) hl v, fun c hc => (h.1.2 c hc).row (row := some cb) (grown_set (World.grownBy.refl W (some cb)) i v) (fun k e => by injection e with e; subst e; exact .inr ⟨_, _, h.2⟩)⟩, h.2.set i v⟩
theorem XE.set {b B n cb k : Nat} {lv av : Value} {L : List CdT} {cs : Array Value} {A : List AbT} {W : World} (h : XE b B lv n L cb cs av k A W) (hl : lv.ownBlock ≠ some cb) (i : Nat) (v : Value) : XE b B lv n L cb (cs.setIfInBounds i v) av k A (W.setCell ⟨cb, i, none⟩ v) :=
  ⟨h.1.set hl i v, ownsRow_setCell_below h.2.1 (a := ⟨cb, i, none⟩) (by show cb < cb + 1; omega) v, fun t ht => (h.2.2 t ht).row (row := some cb) (E := 38) (grown_set (World.grownBy.refl W (some cb)) i v) (by decide) (fun k e => by injection e with e; subst e; exact ⟨_, _, h.1.2⟩)⟩
/-- An ability more. -/
theorem XE.app {b B n cb k m : Nat} {lv av nv : Value} {L : List CdT} {cs : Array Value} {A A' : List AbT} {W W' : World} (h : XE b B lv n L cb cs av k A W) (g : W.grownBy W' av.ownBlock) (hB : B ≤ cb) (hn : W'.ownsRow (cb + 1) 42 13 nv m (abRow A'))
    (hA : ∀ t ∈ A', Kd [3, 82] b (fun W => AbR W t.1 t.2.1 t.2.2) W) : XE b B lv n L cb cs nv m A' W' := by
  have hk := ownsRow_kind h.2.1
  exact ⟨⟨⟨own_other h.1.1.1 g (by decide) hk, fun c hc => (h.1.1.2 c hc).row g (fun k e => .inl (by have := (h.2.1.lt k e).1; omega))⟩, blk_other h.1.2 g (by decide) hk⟩, hn, fun t ht => (hA t ht).row g (by decide) hk⟩
/-- A card more. -/
theorem XE.card {b B n cb k m : Nat} {lv av nv : Value} {L : List CdT} {cs : Array Value} {A : List AbT} {W W' : World} (h : XE b B lv n L cb cs av k A W) (hB : B ≤ W.heap.size) (hbc : b < cb + 1) (g : W.grownBy W' lv.ownBlock) (y : Cd) (hk : A.length = k) (hy : av = .slice y.aa y.an y.ac) (hn : W'.ownsRow (b + 1) 38 11 nv m (cdRow (L ++ [(y, A)]))) :
    XL b W.heap.size nv m (L ++ [(y, A)]) W' := by
  have hkk := ownsRow_kind h.1.1.1
  refine ⟨hn, fun c hc => Ko.row (w := W) ?_ g (fun k e => .inr (hkk k e))⟩
  rcases List.mem_append.1 hc with hc | hc
  · exact (h.1.1.2 c hc).up hB
  · rw [List.mem_singleton.1 hc]
    obtain ⟨a1, c1, e1, k1⟩ := own_kd h.2.1 hbc
    rw [e1] at hy
    injection hy with p1 p2 p3
    refine Ko.of (S := [3, 82, 42]) (R := fun W => CdR W y A) ?_ (by decide) (Nat.le_refl _)
    refine ((k1.more (S' := [3, 82, 42]) (fun e he => by simp at he; simp [he])).two (R' := fun W => ∀ t ∈ A, AbR W t.1 t.2.1 t.2.2) (fun W1 w1 w2 t ht => (h.2.2 t ht) W1 w1 (fun k c e fz hc he hne => w2 k c e fz hc (by simp at he; rcases he with he | he <;> simp [he]) hne))).map fun W1 hW => ⟨by show A.length = y.an; omega, ?_⟩
    show IsA W1 y.aa y.ac A
    rw [← p1, ← p3]
    exact isA_row hk hW.2 hW.1
end Go.Proofs.YtbeaaieaffdgeaaGreatDoor
end
/- The document's Decode. (Written by gen6d.py.) -/
section
namespace Go.Proofs.YtbeaaieaffdgeaaGreatDoor
open Go.RowKit
set_option linter.unusedVariables false
set_option linter.unusedSimpArgs false

theorem kpt_true {b : Nat} : Kpt b (fun _ => True) := fun _ _ _ _ => trivial
theorem kpt_size {b B : Nat} : Kpt b (fun W => B ≤ W.heap.size) := fun _ _ h g => Nat.le_trans h g.size
theorem kpt_red {b : Nat} {r : RdS} {t : AbT} : Kpt b (Red b r t) := fun W W' h g => ⟨h.1, h.2.read g⟩
/-- The bytes are a pool's that may be. -/
def DocOk (s : ByteArray) : Prop := (rdPool s).2.2 = false ∧ (rdPool s).2.1 = ByteArray.empty ∧ chkP (rdPool s).1 = 0 ∧ poolB (rdPool s).1 ByteArray.empty = s
/-- What the document's Decode tells. -/
def RefDec (s : ByteArray) (w : World) (e : Ending) (w' : World) : Prop :=
  Below w.heap.size w w' ∧
  ((DocOk s ∧ ∃ M a c, M.map bareC = (rdPool s).1 ∧ e = .returned (.tuple #[.slice a M.length c, .int .i64 0]) ∧ IsP w' a c M) ∨
   (¬ DocOk s ∧ e = .returned (.tuple #[.slice none 0 0, .int .i64 4])))
theorem docOk_iff {s tt : ByteArray} {LL Li : List CdT} {rL : RdS} {eb : Bool} {rc : Int} (hp : rdPool s = (LL, rL)) (hc : chkP LL = chkP Li) (hb : poolB LL ByteArray.empty = poolB Li ByteArray.empty) (hr : chkP Li = rc)
    (ht : (if rc = 0 then poolB Li ByteArray.empty else ByteArray.empty) = tt) (he : (!rL.2 && rL.1.toList.isEmpty) = eb) : DocOk s ↔ eb = true ∧ rc = 0 ∧ tt = s := by
  have h1 : (rL.2 = false ∧ rL.1 = ByteArray.empty) ↔ eb = true := by
    rw [← he, ByteArray.toList_eq]
    constructor
    · rintro ⟨h1, h2⟩
      rw [h1, h2]
      rfl
    · intro h
      simp at h
      exact ⟨h.1, by apply ByteArray.ext; apply Array.ext'; simpa using h.2⟩
  unfold DocOk
  rw [hp]
  dsimp only
  rw [hc, hb, hr]
  constructor
  · rintro ⟨a1, a2, a3, a4⟩
    exact ⟨h1.1 ⟨a1, a2⟩, a3, by rw [← ht, if_pos a3]; exact a4⟩
  · rintro ⟨a1, a2, a3⟩
    obtain ⟨b1, b2⟩ := h1.2 a1
    rw [if_pos a2] at ht
    exact ⟨b1, b2, a2, ht.trans a3⟩
set_option maxRecDepth 100000 in
set_option maxHeartbeats 16000000 in
theorem refDecode_any (s : ByteArray) (hs : s.size ≤ 70368744177664) (w : World) :
    Calls Tryz.prog 12 #[.string s] w fun e w' => RefDec s w e w' := by
  have HX := Lib.hid (show SX w.heap.size (w.alloc (.cells #[.string s, .bool false] 68)) (s, false) (fun _ => True) (w.alloc (.cells #[.string s, .bool false] 68)) from ⟨⟨RdT.new _ s false w, ⟨hs, fun h => by cases h⟩, World.grownBy.refl _ _⟩, trivial⟩)
  have HBl := Lib.hid (below_alloc1 w (.cells #[.string s, .bool false] 68))
  have HBs := Lib.hid (show (w.alloc (.cells #[.string s, .bool false] 68)).heap.size = w.heap.size + 1 by simp)
  have HS := Lib.hid hs
  clear hs
  go_enter Tryz.func12, Tryz.ntmps12
  go_wp2_with fail
  generalize hw0 : w.alloc (.cells #[.string s, .bool false] 68) = w0 at *
  clear hw0
  generalize hwb : w.heap.size = b at *
  have HWb := Lib.hid hwb
  clear hwb
  refine (HX.out.num kpt_true).mono ?_
  rintro e w1 ⟨rfl, hx⟩
  obtain ⟨v0, hv⟩ : ∃ v, (rdNm (s, false)).1 = v := ⟨_, rfl⟩
  obtain ⟨q1, hr⟩ : ∃ r', (rdNm (s, false)).2 = r' := ⟨_, rfl⟩
  have EQv0 := Lib.hid (show rdNm (s, false) = (v0, q1) from Prod.ext hv hr)
  rw [hr] at hx
  rw [hv]
  clear hv hr HX
  have HX := Lib.hid hx
  clear hx
  obtain ⟨n1, rfl⟩ : ∃ n : Nat, v0 = (n : Int) := ⟨v0.toNat, by have h := congrArg Prod.fst EQv0.out; have h2 : (0 : Int) ≤ (rdNm (s, false)).1 := Int.natCast_nonneg _; rw [h] at h2; have h3 : 0 ≤ v0 := h2; omega⟩
  obtain ⟨K, hK⟩ : ∃ K, min n1 50 = K := ⟨_, rfl⟩
  obtain ⟨LL, hLL⟩ : ∃ L, (rdRep rdCd K q1).1 = L := ⟨_, rfl⟩
  obtain ⟨rL, hrL⟩ : ∃ r', (rdRep rdCd K q1).2 = r' := ⟨_, rfl⟩
  have HPo := Lib.hid (show rdPool s = (LL, rL) by unfold rdPool; simp only [EQv0.out, Int.toNat_natCast, hK]; exact Prod.ext hLL hrL)
  have HK := Lib.hid hK
  have HR0 := Lib.hid (⟨hLL, hrL⟩ : (rdRep rdCd K q1).1 = LL ∧ (rdRep rdCd K q1).2 = rL)
  have HRok := Lib.hid HX.out.1.2.1
  clear hK hLL hrL
  go_wp2_with fail
  go_loopw [6, 7] (fun lv q wr => ∃ (i : Nat) (Li : List CdT) (ri : RdS) (l6 : Value) (B : Nat), l6 = lv ∧ q = .int .i64 (i : Int) ∧ Li.length = i ∧ i ≤ K ∧ (Li.map bareC ++ (rdRep rdCd (K - i) ri).1 = LL ∧ (rdRep rdCd (K - i) ri).2 = rL) ∧ (b + 1 ≤ B ∧ B ≤ wr.heap.size) ∧ SX b w0 ri (XL b B l6 i Li) wr) (fun _ q _ => 50 - (intOf q).toNat)
  case atStart => exact ⟨0, [], q1, _, b + 1, rfl, rfl, rfl, Nat.zero_le _, ⟨by simpa using HR0.out.1, by simpa using HR0.out.2⟩, ⟨Nat.le_refl _, HX.out.lt⟩, HX.out.to (fun _ => ⟨World.ownsRow_nil _ _ _ _, fun c h => by cases h⟩)⟩
  case round =>
    obtain ⟨i, Li, ri, lv, B, rfl, rfl, hl, hiK, hre, hBb, hx⟩ := hrel
    have HXr := Lib.hid hx
    have HRe := Lib.hid hre
    have HLi := Lib.hid hl
    have HBB := Lib.hid hBb
    clear hx hre hl hBb HX
    by_cases hlt : i < K
    · have h1 : i < n1 := by have := HK.out; omega
      have h2 : i < 50 := by have := HK.out; omega
      have HOk := Lib.hid (HXr.out.ok)
      rcases hst : ri.2 with _ | _
      · rw [hst] at HOk
        go_wp2_with fail
        refine HOk.out.mono ?_
        rintro e w' ⟨rfl, rfl⟩
        clear HOk
        go_wp2_with fail
        have HXs := Lib.hid (HXr.out.to (X' := fun W => XL b B lv i Li W ∧ B ≤ W.heap.size) (fun h => ⟨h, HBB.out.2⟩))
        clear HXr
        generalize wr = wq at *
        refine (HXs.out.text (kpt_and kpt_XL kpt_size)).mono ?_
        rintro e w2 ⟨rfl, hx⟩
        obtain ⟨nm, hv⟩ : ∃ v, (rdText ri).1 = v := ⟨_, rfl⟩
        obtain ⟨r2, hr⟩ : ∃ r', (rdText ri).2 = r' := ⟨_, rfl⟩
        have EQnm := Lib.hid (show rdText ri = (nm, r2) from Prod.ext hv hr)
        rw [hr] at hx
        rw [hv]
        clear hv hr HXs
        have HX2 := Lib.hid hx
        clear hx
        go_wp2_with fail
        have HN := Lib.hid (show (B ≤ w2.heap.size ∧ b < w2.heap.size ∧ w0.heap.size ≤ w2.heap.size) ∧ lv.ownBlock ≠ some w2.heap.size from ⟨⟨HX2.out.2.2, HX2.out.lt, HX2.out.1.2.2.size⟩, own_fresh HX2.out.2.1.1 _ rfl⟩)
        have HX := Lib.hid (show SX b w0 r2 (XD b B lv i Li w2.heap.size #[.string nm, .int .i64 0, .int .i64 0, .int .i64 0, .int .i64 0, .int .i64 0, .int .i64 0, .int .i64 0, .int .i64 0, .int .i64 0, .slice none 0 0]) (w2.alloc (.cells #[.string nm, .int .i64 0, .int .i64 0, .int .i64 0, .int .i64 0, .int .i64 0, .int .i64 0, .int .i64 0, .int .i64 0, .int .i64 0, .slice none 0 0] 38)) from (((HX2.out.to (fun h => h.1)).grow kpt_XL (below_alloc1 w2 _)).to (fun h => ⟨h, blkAt_fresh w2 _ _⟩)))
        clear HX2
        generalize w2.alloc (.cells #[.string nm, .int .i64 0, .int .i64 0, .int .i64 0, .int .i64 0, .int .i64 0, .int .i64 0, .int .i64 0, .int .i64 0, .int .i64 0, .slice none 0 0] 38) = W2 at *
        generalize w2.heap.size = cb at *
        refine (HX.out.num (kpt_XD (by have := HN.out.1.2.1; omega))).mono ?_
        rintro e w3 ⟨rfl, hx⟩
        obtain ⟨v1, hv⟩ : ∃ v, (rdNm r2).1 = v := ⟨_, rfl⟩
        obtain ⟨r3, hr⟩ : ∃ r', (rdNm r2).2 = r' := ⟨_, rfl⟩
        have EQv1 := Lib.hid (show rdNm r2 = (v1, r3) from Prod.ext hv hr)
        rw [hr] at hx
        rw [hv]
        clear hv hr HX
        have c := hx.2.2.cell 1
        have f := hx.2.2.free 1
        simp at c
        have HX := Lib.hid (show SX b w0 r3 (XD b B lv i Li cb #[.string nm, .int .i64 v1, .int .i64 0, .int .i64 0, .int .i64 0, .int .i64 0, .int .i64 0, .int .i64 0, .int .i64 0, .int .i64 0, .slice none 0 0]) (w3.setCell ⟨cb, 1, none⟩ (.int .i64 v1)) from hx.put HN.out.1.2.2 (by have := HN.out.1.2.1; omega) (by simpa using hx.2.set HN.out.2 1 (.int .i64 v1)))
        clear hx
        go_wp2_with fail
        clear c f
        generalize w3.setCell ⟨cb, 1, none⟩ (.int .i64 v1) = W3 at *
        go_loopw [9] (fun q wr => ∃ j : Nat, q = .int .i64 (j : Int) ∧ j ≤ 4 ∧ SX b w0 (stR r3 j) (XD b B lv i Li cb #[.string nm, .int .i64 v1, .int .i64 (if 0 < j then stV r3 0 else 0), .int .i64 (if 1 < j then stV r3 1 else 0), .int .i64 (if 2 < j then stV r3 2 else 0), .int .i64 (if 3 < j then stV r3 3 else 0), .int .i64 0, .int .i64 0, .int .i64 0, .int .i64 0, .slice none 0 0]) wr) (fun q _ => 4 - (intOf q).toNat)
        case atStart => exact ⟨0, rfl, by omega, by simpa [stR] using HX.out⟩
        case round =>
          obtain ⟨j, rfl, hj, hx⟩ := hrel
          clear HX
          by_cases hlt : j < 4
          · obtain rfl | rfl | rfl | rfl : j = 0 ∨ j = 1 ∨ j = 2 ∨ j = 3 := by omega
            · have HX := Lib.hid (show SX b w0 (stR r3 0) (XD b B lv i Li cb #[.string nm, .int .i64 v1, .int .i64 0, .int .i64 0, .int .i64 0, .int .i64 0, .int .i64 0, .int .i64 0, .int .i64 0, .int .i64 0, .slice none 0 0]) wr by simpa using hx)
              clear hx
              go_wp2_with fail
              refine (HX.out.num (kpt_XD (by have := HN.out.1.2.1; omega))).mono ?_
              rintro e w4 ⟨rfl, hx⟩
              rw [show (rdNm (stR r3 0)).1 = stV r3 0 from rfl]
              have HX4 := Lib.hid (show SX b w0 (stR r3 1) (XD b B lv i Li cb #[.string nm, .int .i64 v1, .int .i64 0, .int .i64 0, .int .i64 0, .int .i64 0, .int .i64 0, .int .i64 0, .int .i64 0, .int .i64 0, .slice none 0 0]) w4 from hx)
              have c := hx.2.2.cell 2
              have f := hx.2.2.free 2
              simp at c
              clear hx HX
              obtain ⟨vq, hvq⟩ : ∃ v, stV r3 0 = v := ⟨_, rfl⟩
              rw [hvq]
              have HVq := Lib.hid hvq
              clear hvq
              go_wp2_with fail
              have HX5 := Lib.hid (show SX b w0 (stR r3 1) (XD b B lv i Li cb #[.string nm, .int .i64 v1, .int .i64 vq, .int .i64 0, .int .i64 0, .int .i64 0, .int .i64 0, .int .i64 0, .int .i64 0, .int .i64 0, .slice none 0 0]) (w4.setCell ⟨cb, 2, none⟩ (.int .i64 vq)) from HX4.out.put HN.out.1.2.2 (by have := HN.out.1.2.1; omega) (by simpa using HX4.out.2.set HN.out.2 2 (.int .i64 vq)))
              exact ⟨⟨1, rfl, by omega, by have h := HX5.out; simp only [HVq.out]; simpa using h⟩, by simp [intOf]⟩
            · have HX := Lib.hid (show SX b w0 (stR r3 1) (XD b B lv i Li cb #[.string nm, .int .i64 v1, .int .i64 (stV r3 0), .int .i64 0, .int .i64 0, .int .i64 0, .int .i64 0, .int .i64 0, .int .i64 0, .int .i64 0, .slice none 0 0]) wr by simpa using hx)
              clear hx
              go_wp2_with fail
              refine (HX.out.num (kpt_XD (by have := HN.out.1.2.1; omega))).mono ?_
              rintro e w4 ⟨rfl, hx⟩
              rw [show (rdNm (stR r3 1)).1 = stV r3 1 from rfl]
              have HX4 := Lib.hid (show SX b w0 (stR r3 2) (XD b B lv i Li cb #[.string nm, .int .i64 v1, .int .i64 (stV r3 0), .int .i64 0, .int .i64 0, .int .i64 0, .int .i64 0, .int .i64 0, .int .i64 0, .int .i64 0, .slice none 0 0]) w4 from hx)
              have c := hx.2.2.cell 3
              have f := hx.2.2.free 3
              simp at c
              clear hx HX
              obtain ⟨vq, hvq⟩ : ∃ v, stV r3 1 = v := ⟨_, rfl⟩
              rw [hvq]
              have HVq := Lib.hid hvq
              clear hvq
              go_wp2_with fail
              have HX5 := Lib.hid (show SX b w0 (stR r3 2) (XD b B lv i Li cb #[.string nm, .int .i64 v1, .int .i64 (stV r3 0), .int .i64 vq, .int .i64 0, .int .i64 0, .int .i64 0, .int .i64 0, .int .i64 0, .int .i64 0, .slice none 0 0]) (w4.setCell ⟨cb, 3, none⟩ (.int .i64 vq)) from HX4.out.put HN.out.1.2.2 (by have := HN.out.1.2.1; omega) (by simpa using HX4.out.2.set HN.out.2 3 (.int .i64 vq)))
              exact ⟨⟨2, rfl, by omega, by have h := HX5.out; simp only [HVq.out]; simpa using h⟩, by simp [intOf]⟩
            · have HX := Lib.hid (show SX b w0 (stR r3 2) (XD b B lv i Li cb #[.string nm, .int .i64 v1, .int .i64 (stV r3 0), .int .i64 (stV r3 1), .int .i64 0, .int .i64 0, .int .i64 0, .int .i64 0, .int .i64 0, .int .i64 0, .slice none 0 0]) wr by simpa using hx)
              clear hx
              go_wp2_with fail
              refine (HX.out.num (kpt_XD (by have := HN.out.1.2.1; omega))).mono ?_
              rintro e w4 ⟨rfl, hx⟩
              rw [show (rdNm (stR r3 2)).1 = stV r3 2 from rfl]
              have HX4 := Lib.hid (show SX b w0 (stR r3 3) (XD b B lv i Li cb #[.string nm, .int .i64 v1, .int .i64 (stV r3 0), .int .i64 (stV r3 1), .int .i64 0, .int .i64 0, .int .i64 0, .int .i64 0, .int .i64 0, .int .i64 0, .slice none 0 0]) w4 from hx)
              have c := hx.2.2.cell 4
              have f := hx.2.2.free 4
              simp at c
              clear hx HX
              obtain ⟨vq, hvq⟩ : ∃ v, stV r3 2 = v := ⟨_, rfl⟩
              rw [hvq]
              have HVq := Lib.hid hvq
              clear hvq
              go_wp2_with fail
              have HX5 := Lib.hid (show SX b w0 (stR r3 3) (XD b B lv i Li cb #[.string nm, .int .i64 v1, .int .i64 (stV r3 0), .int .i64 (stV r3 1), .int .i64 vq, .int .i64 0, .int .i64 0, .int .i64 0, .int .i64 0, .int .i64 0, .slice none 0 0]) (w4.setCell ⟨cb, 4, none⟩ (.int .i64 vq)) from HX4.out.put HN.out.1.2.2 (by have := HN.out.1.2.1; omega) (by simpa using HX4.out.2.set HN.out.2 4 (.int .i64 vq)))
              exact ⟨⟨3, rfl, by omega, by have h := HX5.out; simp only [HVq.out]; simpa using h⟩, by simp [intOf]⟩
            · have HX := Lib.hid (show SX b w0 (stR r3 3) (XD b B lv i Li cb #[.string nm, .int .i64 v1, .int .i64 (stV r3 0), .int .i64 (stV r3 1), .int .i64 (stV r3 2), .int .i64 0, .int .i64 0, .int .i64 0, .int .i64 0, .int .i64 0, .slice none 0 0]) wr by simpa using hx)
              clear hx
              go_wp2_with fail
              refine (HX.out.num (kpt_XD (by have := HN.out.1.2.1; omega))).mono ?_
              rintro e w4 ⟨rfl, hx⟩
              rw [show (rdNm (stR r3 3)).1 = stV r3 3 from rfl]
              have HX4 := Lib.hid (show SX b w0 (stR r3 4) (XD b B lv i Li cb #[.string nm, .int .i64 v1, .int .i64 (stV r3 0), .int .i64 (stV r3 1), .int .i64 (stV r3 2), .int .i64 0, .int .i64 0, .int .i64 0, .int .i64 0, .int .i64 0, .slice none 0 0]) w4 from hx)
              have c := hx.2.2.cell 5
              have f := hx.2.2.free 5
              simp at c
              clear hx HX
              obtain ⟨vq, hvq⟩ : ∃ v, stV r3 3 = v := ⟨_, rfl⟩
              rw [hvq]
              have HVq := Lib.hid hvq
              clear hvq
              go_wp2_with fail
              have HX5 := Lib.hid (show SX b w0 (stR r3 4) (XD b B lv i Li cb #[.string nm, .int .i64 v1, .int .i64 (stV r3 0), .int .i64 (stV r3 1), .int .i64 (stV r3 2), .int .i64 vq, .int .i64 0, .int .i64 0, .int .i64 0, .int .i64 0, .slice none 0 0]) (w4.setCell ⟨cb, 5, none⟩ (.int .i64 vq)) from HX4.out.put HN.out.1.2.2 (by have := HN.out.1.2.1; omega) (by simpa using HX4.out.2.set HN.out.2 5 (.int .i64 vq)))
              exact ⟨⟨4, rfl, by omega, by have h := HX5.out; simp only [HVq.out]; simpa using h⟩, by simp [intOf]⟩
          · obtain rfl : j = 4 := by omega
            have HX := Lib.hid (show SX b w0 (stR r3 4) (XD b B lv i Li cb #[.string nm, .int .i64 v1, .int .i64 (stV r3 0), .int .i64 (stV r3 1), .int .i64 (stV r3 2), .int .i64 (stV r3 3), .int .i64 0, .int .i64 0, .int .i64 0, .int .i64 0, .slice none 0 0]) wr by simpa using hx)
            clear hx hlt hj
            obtain ⟨r7, hr7⟩ : ∃ r', stR r3 4 = r' := ⟨_, rfl⟩
            obtain ⟨c0, hc0⟩ : ∃ v, stV r3 0 = v := ⟨_, rfl⟩
            obtain ⟨c1, hc1⟩ : ∃ v, stV r3 1 = v := ⟨_, rfl⟩
            obtain ⟨c2, hc2⟩ : ∃ v, stV r3 2 = v := ⟨_, rfl⟩
            obtain ⟨c3, hc3⟩ : ∃ v, stV r3 3 = v := ⟨_, rfl⟩
            rw [hr7, hc0, hc1, hc2, hc3] at HX
            have HC := Lib.hid (⟨hr7, hc0, hc1, hc2, hc3⟩ : stR r3 4 = r7 ∧ stV r3 0 = c0 ∧ stV r3 1 = c1 ∧ stV r3 2 = c2 ∧ stV r3 3 = c3)
            clear hr7 hc0 hc1 hc2 hc3
            generalize wr = ws at *
            go_wp2_with fail
            refine (HX.out.num (kpt_XD (by have := HN.out.1.2.1; omega))).mono ?_
            rintro e w3 ⟨rfl, hx⟩
            obtain ⟨v6, hv⟩ : ∃ v, (rdNm r7).1 = v := ⟨_, rfl⟩
            obtain ⟨r8, hr⟩ : ∃ r', (rdNm r7).2 = r' := ⟨_, rfl⟩
            have EQv6 := Lib.hid (show rdNm r7 = (v6, r8) from Prod.ext hv hr)
            rw [hr] at hx
            rw [hv]
            clear hv hr HX
            have c := hx.2.2.cell 6
            have f := hx.2.2.free 6
            simp at c
            have HX := Lib.hid (show SX b w0 r8 (XD b B lv i Li cb #[.string nm, .int .i64 v1, .int .i64 c0, .int .i64 c1, .int .i64 c2, .int .i64 c3, .int .i64 v6, .int .i64 0, .int .i64 0, .int .i64 0, .slice none 0 0]) (w3.setCell ⟨cb, 6, none⟩ (.int .i64 v6)) from hx.put HN.out.1.2.2 (by have := HN.out.1.2.1; omega) (by simpa using hx.2.set HN.out.2 6 (.int .i64 v6)))
            clear hx
            go_wp2_with fail
            clear c f
            generalize w3.setCell ⟨cb, 6, none⟩ (.int .i64 v6) = W4 at *
            refine (HX.out.num (kpt_XD (by have := HN.out.1.2.1; omega))).mono ?_
            rintro e w3 ⟨rfl, hx⟩
            obtain ⟨v7, hv⟩ : ∃ v, (rdNm r8).1 = v := ⟨_, rfl⟩
            obtain ⟨r9, hr⟩ : ∃ r', (rdNm r8).2 = r' := ⟨_, rfl⟩
            have EQv7 := Lib.hid (show rdNm r8 = (v7, r9) from Prod.ext hv hr)
            rw [hr] at hx
            rw [hv]
            clear hv hr HX
            have c := hx.2.2.cell 7
            have f := hx.2.2.free 7
            simp at c
            have HX := Lib.hid (show SX b w0 r9 (XD b B lv i Li cb #[.string nm, .int .i64 v1, .int .i64 c0, .int .i64 c1, .int .i64 c2, .int .i64 c3, .int .i64 v6, .int .i64 v7, .int .i64 0, .int .i64 0, .slice none 0 0]) (w3.setCell ⟨cb, 7, none⟩ (.int .i64 v7)) from hx.put HN.out.1.2.2 (by have := HN.out.1.2.1; omega) (by simpa using hx.2.set HN.out.2 7 (.int .i64 v7)))
            clear hx
            go_wp2_with fail
            clear c f
            generalize w3.setCell ⟨cb, 7, none⟩ (.int .i64 v7) = W5 at *
            refine (HX.out.num (kpt_XD (by have := HN.out.1.2.1; omega))).mono ?_
            rintro e w3 ⟨rfl, hx⟩
            obtain ⟨v8, hv⟩ : ∃ v, (rdNm r9).1 = v := ⟨_, rfl⟩
            obtain ⟨r10, hr⟩ : ∃ r', (rdNm r9).2 = r' := ⟨_, rfl⟩
            have EQv8 := Lib.hid (show rdNm r9 = (v8, r10) from Prod.ext hv hr)
            rw [hr] at hx
            rw [hv]
            clear hv hr HX
            have c := hx.2.2.cell 8
            have f := hx.2.2.free 8
            simp at c
            have HX := Lib.hid (show SX b w0 r10 (XD b B lv i Li cb #[.string nm, .int .i64 v1, .int .i64 c0, .int .i64 c1, .int .i64 c2, .int .i64 c3, .int .i64 v6, .int .i64 v7, .int .i64 v8, .int .i64 0, .slice none 0 0]) (w3.setCell ⟨cb, 8, none⟩ (.int .i64 v8)) from hx.put HN.out.1.2.2 (by have := HN.out.1.2.1; omega) (by simpa using hx.2.set HN.out.2 8 (.int .i64 v8)))
            clear hx
            go_wp2_with fail
            clear c f
            generalize w3.setCell ⟨cb, 8, none⟩ (.int .i64 v8) = W6 at *
            refine (HX.out.num (kpt_XD (by have := HN.out.1.2.1; omega))).mono ?_
            rintro e w3 ⟨rfl, hx⟩
            obtain ⟨v9, hv⟩ : ∃ v, (rdNm r10).1 = v := ⟨_, rfl⟩
            obtain ⟨r11, hr⟩ : ∃ r', (rdNm r10).2 = r' := ⟨_, rfl⟩
            have EQv9 := Lib.hid (show rdNm r10 = (v9, r11) from Prod.ext hv hr)
            rw [hr] at hx
            rw [hv]
            clear hv hr HX
            have c := hx.2.2.cell 9
            have f := hx.2.2.free 9
            simp at c
            have HX := Lib.hid (show SX b w0 r11 (XD b B lv i Li cb #[.string nm, .int .i64 v1, .int .i64 c0, .int .i64 c1, .int .i64 c2, .int .i64 c3, .int .i64 v6, .int .i64 v7, .int .i64 v8, .int .i64 v9, .slice none 0 0]) (w3.setCell ⟨cb, 9, none⟩ (.int .i64 v9)) from hx.put HN.out.1.2.2 (by have := HN.out.1.2.1; omega) (by simpa using hx.2.set HN.out.2 9 (.int .i64 v9)))
            clear hx
            go_wp2_with fail
            clear c f
            generalize w3.setCell ⟨cb, 9, none⟩ (.int .i64 v9) = W7 at *
            refine (HX.out.num (kpt_XD (by have := HN.out.1.2.1; omega))).mono ?_
            rintro e w3 ⟨rfl, hx⟩
            obtain ⟨vm, hv⟩ : ∃ v, (rdNm r11).1 = v := ⟨_, rfl⟩
            obtain ⟨rm, hr⟩ : ∃ r', (rdNm r11).2 = r' := ⟨_, rfl⟩
            have EQvm := Lib.hid (show rdNm r11 = (vm, rm) from Prod.ext hv hr)
            rw [hr] at hx
            rw [hv]
            clear hv hr HX
            have HX := Lib.hid hx
            clear hx
            obtain ⟨n2, rfl⟩ : ∃ n : Nat, vm = (n : Int) := ⟨vm.toNat, by have h := congrArg Prod.fst EQvm.out; have h2 : (0 : Int) ≤ (rdNm r11).1 := Int.natCast_nonneg _; rw [h] at h2; have h3 : 0 ≤ vm := h2; omega⟩
            obtain ⟨J, hJ⟩ : ∃ J, min n2 10 = J := ⟨_, rfl⟩
            obtain ⟨A, hA⟩ : ∃ A, (rdRep rdAb J rm).1 = A := ⟨_, rfl⟩
            obtain ⟨rA, hrA⟩ : ∃ r', (rdRep rdAb J rm).2 = r' := ⟨_, rfl⟩
            have HE := Lib.hid (show rdCd ri = ((⟨nm, v1, c0, c1, c2, c3, v6, v7, v8, v9, none, A.length, 0⟩, A), rA) by
              obtain ⟨h7, h0, h1, h2, h3⟩ := HC.out
              change (rdNm r3).1 = c0 at h0
              change (rdNm (rdNm r3).2).1 = c1 at h1
              change (rdNm (rdNm (rdNm r3).2).2).1 = c2 at h2
              change (rdNm (rdNm (rdNm (rdNm r3).2).2).2).1 = c3 at h3
              change (rdNm (rdNm (rdNm (rdNm r3).2).2).2).2 = r7 at h7
              unfold rdCd
              simp only [EQnm.out, EQv1.out, h0, h1, h2, h3, h7, EQv6.out, EQv7.out, EQv8.out, EQv9.out, EQvm.out, Int.toNat_natCast, hJ, hA, hrA])
            have HJ := Lib.hid hJ
            have HAr := Lib.hid (⟨hA, hrA⟩ : (rdRep rdAb J rm).1 = A ∧ (rdRep rdAb J rm).2 = rA)
            have HHi := Lib.hid hiK
            clear hJ hA hrA EQnm EQv1 EQv6 EQv7 EQv8 EQv9 EQvm HC h1 h2
            go_wp2_with fail
            go_loopw [11] (fun q wr => ∃ (j : Nat) (Aj : List AbT) (rj : RdS) (av : Value), q = .int .i64 (j : Int) ∧ Aj.length = j ∧ j ≤ J ∧ (Aj.map bareA ++ (rdRep rdAb (J - j) rj).1 = A ∧ (rdRep rdAb (J - j) rj).2 = rA) ∧ SX b w0 rj (XE b B lv i Li cb #[.string nm, .int .i64 v1, .int .i64 c0, .int .i64 c1, .int .i64 c2, .int .i64 c3, .int .i64 v6, .int .i64 v7, .int .i64 v8, .int .i64 v9, av] av j Aj) wr) (fun q _ => 10 - (intOf q).toNat)
            case atStart => exact ⟨0, [], rm, .slice none 0 0, rfl, rfl, Nat.zero_le _, ⟨by simpa using HAr.out.1, by simpa using HAr.out.2⟩, HX.out.to (fun h => ⟨h, World.ownsRow_nil _ _ _ _, fun t ht => by cases ht⟩)⟩
            case round =>
              obtain ⟨j, Aj, rj, av, rfl, hlj, hjJ, hrj, hx⟩ := hrel
              have HXj := Lib.hid hx
              have HRj := Lib.hid hrj
              have HLj := Lib.hid hlj
              clear hx hrj hlj HX
              by_cases hlt2 : j < J
              · have h1 : j < n2 := by have := HJ.out; omega
                have h2 : j < 10 := by have := HJ.out; omega
                have HOk := Lib.hid (HXj.out.ok)
                rcases hsj : rj.2 with _ | _
                · rw [hsj] at HOk
                  go_wp2_with fail
                  refine HOk.out.mono ?_
                  rintro e w' ⟨rfl, rfl⟩
                  clear HOk
                  go_wp2_with fail
                  have HXd := Lib.hid (HXj.out.grow (kpt_XE (by have := HN.out.1.2.1; omega)) (Below.refl wr.heap.size wr).drew)
                  have HSz := Lib.hid HXj.out.lt
                  have c10 := HXj.out.2.1.2.cell 10
                  have f10 := HXj.out.2.1.2.free 10
                  simp at c10
                  obtain ⟨rq, hrq⟩ : ∃ r', (rdAb rj).2 = r' := ⟨_, rfl⟩
                  have HCn := Lib.hid (HXd.out.reads (kpt_XE (by have := HN.out.1.2.1; omega)))
                  rw [hrq] at HCn
                  have HRq := Lib.hid hrq
                  clear hrq
                  obtain ⟨i0, hi0, hz0, hz1, hz2⟩ := info_parts infoA
                  go_region_law (first
                    | (refine step_append_lies _ (by rfl) _ _ _ (by rfl) (cb + 1) 42 i0 (.agg #[.int .i64 0, .int .i64 0, .int .i64 0, .int .i64 0, .int .i64 0, .int .i64 0, .int .i64 0, .bool false, .slice none 0 0, .slice none 0 0, .int .i64 0, .int .i64 0, .int .i64 0]) 13 136 Tryz.underlying36 hi0 hz0 hz1 hz2 rfl (by omega) av j (abRow Aj) (by rfl) HX6.out.2.1.2.1 ⟨w5.heap.size, 0, none⟩ 1 1 [.int .i64 t.1.k, .int .i64 t.1.ev, .int .i64 t.1.wh, .int .i64 t.1.c0, .int .i64 t.1.c1, .int .i64 t.1.c2, .int .i64 t.1.c3, .bool t.1.tap, .slice t.1.ta t.1.tn t.1.tc, .slice t.1.ca t.1.cn t.1.cc, .int .i64 t.1.op, .int .i64 t.1.a, .int .i64 t.1.b] (by rfl) (by rfl) HN5.out (abCells_one t.1) (by omega) (by unfold maxLen; omega) (by omega) HS5.out _ (by rfl) ?_; intro g2 gc2 w7 hown2 hgrow2 hat hlt2; have HX7 := Lib.hid (show SX b w0 rq (XE b B lv i Li cb #[.string nm, .int .i64 v1, .int .i64 c0, .int .i64 c1, .int .i64 c2, .int .i64 c3, .int .i64 v6, .int .i64 v7, .int .i64 v8, .int .i64 v9, av] (.slice (some ⟨g2, 0, none⟩) (j + 1) gc2) (j + 1) (Aj ++ [t])) w7 from HX6.out.row hgrow2 (fun k e => by have := (HX6.out.2.1.2.1.lt k e).1; have := HN.out.1.2.1; have := HN.out.1.2.2; omega) (HX6.out.2.1.app hgrow2 HN.out.1.1 (by rw [abRow_snoc]; exact hown2) (fun t' ht' => by rcases List.mem_append.1 ht' with ht' | ht'; exact HX6.out.2.1.2.2 t' ht'; rw [List.mem_singleton.1 ht']; exact HX6.out.2.2.2))); have x10 := HX7.out.2.1.2.cell 10; have y10 := HX7.out.2.1.2.free 10; simp at x10; clear hat hlt2 hown2 hgrow2)
                    | (go_simp; go_at_call 35; refine HCn.out.mono ?_; rintro e w5 ⟨t, rfl, hx5⟩; have HX5 := Lib.hid hx5; have HX6 := Lib.hid (hx5.grow (kpt_and (kpt_XE (by have := HN.out.1.2.1; omega)) kpt_red) (below_alloc1 w5 (.cells #[.int .i64 t.1.k, .int .i64 t.1.ev, .int .i64 t.1.wh, .int .i64 t.1.c0, .int .i64 t.1.c1, .int .i64 t.1.c2, .int .i64 t.1.c3, .bool t.1.tap, .slice t.1.ta t.1.tn t.1.tc, .slice t.1.ca t.1.cn t.1.cc, .int .i64 t.1.op, .int .i64 t.1.a, .int .i64 t.1.b] 42))); have HN5 := Lib.hid ((blkAt_fresh w5 #[.int .i64 t.1.k, .int .i64 t.1.ev, .int .i64 t.1.wh, .int .i64 t.1.c0, .int .i64 t.1.c1, .int .i64 t.1.c2, .int .i64 t.1.c3, .bool t.1.tap, .slice t.1.ta t.1.tn t.1.tc, .slice t.1.ca t.1.cn t.1.cc, .int .i64 t.1.op, .int .i64 t.1.a, .int .i64 t.1.b] 42).plus (l := [.int .i64 t.1.k, .int .i64 t.1.ev, .int .i64 t.1.wh, .int .i64 t.1.c0, .int .i64 t.1.c1, .int .i64 t.1.c2, .int .i64 t.1.c3, .bool t.1.tap, .slice t.1.ta t.1.tn t.1.tc, .slice t.1.ca t.1.cn t.1.cc, .int .i64 t.1.op, .int .i64 t.1.a, .int .i64 t.1.b]) rfl); have HS5 := Lib.hid (show cb + 1 ≤ (w5.alloc (.cells #[.int .i64 t.1.k, .int .i64 t.1.ev, .int .i64 t.1.wh, .int .i64 t.1.c0, .int .i64 t.1.c1, .int .i64 t.1.c2, .int .i64 t.1.c3, .bool t.1.tap, .slice t.1.ta t.1.tn t.1.tc, .slice t.1.ca t.1.cn t.1.cc, .int .i64 t.1.op, .int .i64 t.1.a, .int .i64 t.1.b] 42)).heap.size by have := hx5.2.1.1.2.lt; simp; omega); have c5 := hx5.2.1.1.2.cell 10; simp at c5; have z5 := hx5.2.1.1.2.lt; clear hx5))
                  all_goals
                    have HXn := Lib.hid (show SX b w0 rq (XE b B lv i Li cb #[.string nm, .int .i64 v1, .int .i64 c0, .int .i64 c1, .int .i64 c2, .int .i64 c3, .int .i64 v6, .int .i64 v7, .int .i64 v8, .int .i64 v9, .slice (some ⟨g2, 0, none⟩) (j + 1) gc2] (.slice (some ⟨g2, 0, none⟩) (j + 1) gc2) (j + 1) (Aj ++ [t])) (w7.setCell ⟨cb, 10, none⟩ (.slice (some ⟨g2, 0, none⟩) (j + 1) gc2)) from HX7.out.put HN.out.1.2.2 (by have := HN.out.1.2.1; omega) (by simpa using HX7.out.2.set HN.out.2 10 (.slice (some ⟨g2, 0, none⟩) (j + 1) gc2)))
                    have HRn := Lib.hid (show (Aj ++ [t]).map bareA ++ (rdRep rdAb (J - (j + 1)) rq).1 = A ∧ (rdRep rdAb (J - (j + 1)) rq).2 = rA by
                      have h := HRj.out
                      rw [show J - j = (J - (j + 1)) + 1 by omega, rep_step rdAb rj _ (bareA t) rq hsj (Prod.ext HX5.out.2.2.1.symm HRq.out)] at h
                      simpa using h)
                    go_wp2_with fail
                    go_roundw
                    case rel => exact ⟨j + 1, Aj ++ [t], rq, _, by go_num, by have := HLj.out; simp; omega, by omega, HRn.out, HXn.out⟩
                    case measure => simp [intOf]; omega
                · have HAe := Lib.hid (show Aj.map bareA = A ∧ rj = rA by
                    have h := HRj.out
                    rw [rep_stop rdAb rj _ hsj] at h
                    exact ⟨by simpa [rdRep] using h.1, h.2⟩)
                  have HXe := Lib.hid (show SX b w0 rA (XE b B lv i Li cb #[.string nm, .int .i64 v1, .int .i64 c0, .int .i64 c1, .int .i64 c2, .int .i64 c3, .int .i64 v6, .int .i64 v7, .int .i64 v8, .int .i64 v9, av] av j Aj) wr by rw [← HAe.out.2]; exact HXj.out)
                  replace HAe := Lib.hid HAe.out.1
                  rw [hsj] at HOk
                  go_wp2_with fail
                  refine HOk.out.mono ?_
                  rintro e w' ⟨rfl, rfl⟩
                  clear HOk
                  obtain ⟨a1, k1, e1, _⟩ := own_kd HXe.out.2.2.1 (show b < cb + 1 by have := HN.out.1.2.1; omega)
                  subst e1
                  obtain ⟨⟨q0, q1, q2, q3, q4, q5, q6, q7, q8, q9, q10⟩, _⟩ := HXe.out.2.1.2.cells11
                  have HXf := Lib.hid (HXe.out.grow (kpt_XE (by have := HN.out.1.2.1; omega)) (below_alloc1 wr (.cells #[.string nm, .int .i64 v1, .int .i64 c0, .int .i64 c1, .int .i64 c2, .int .i64 c3, .int .i64 v6, .int .i64 v7, .int .i64 v8, .int .i64 v9, .slice a1 j k1] 38)))
                  obtain ⟨i0, hi0, hz0, hz1, hz2⟩ := info_parts infoC
                  have hh2 : i < 50 := by have := HK.out; omega
                  go_wp2_with (at_builtin; refine wpList_append_lies _ rfl _ _ 22 rfl (b + 1) 38 i0 (.agg #[.string ⟨#[]⟩, .int .i64 0, .int .i64 0, .int .i64 0, .int .i64 0, .int .i64 0, .int .i64 0, .int .i64 0, .int .i64 0, .int .i64 0, .slice none 0 0]) 11 112 Tryz.underlying22 hi0 hz0 hz1 hz2 rfl (by omega) lv i (cdRow Li) rfl HXf.out.2.1.1.1 ⟨wr.heap.size, 0, none⟩ 1 1 [.string nm, .int .i64 v1, .int .i64 c0, .int .i64 c1, .int .i64 c2, .int .i64 c3, .int .i64 v6, .int .i64 v7, .int .i64 v8, .int .i64 v9, .slice a1 j k1] rfl rfl (new_cells wr _ _) (fun u hu => by simp only [List.mem_cons, List.not_mem_nil, or_false] at hu; rcases hu with rfl | rfl | rfl | rfl | rfl | rfl | rfl | rfl | rfl | rfl | rfl <;> rfl) (by omega) (by unfold maxLen; omega) (by omega) (by have := HXf.out.lt; omega) _ rfl ?_; intro g2 gc2 w18 hown2 hgrow2 hat hlt2; have HO2 := Lib.hid hown2; have HG2 := Lib.hid hgrow2; clear hown2 hgrow2 hat hlt2)
                  have HL2 := Lib.hid (show XL b (wr.alloc (.cells #[.string nm, .int .i64 v1, .int .i64 c0, .int .i64 c1, .int .i64 c2, .int .i64 c3, .int .i64 v6, .int .i64 v7, .int .i64 v8, .int .i64 v9, .slice a1 j k1] 38)).heap.size (.slice (some ⟨g2, 0, none⟩) (i + 1) gc2) (i + 1) (Li ++ [(⟨nm, v1, c0, c1, c2, c3, v6, v7, v8, v9, a1, j, k1⟩, Aj)]) w18 from
                    HXf.out.2.card (by have := HXf.out.2.1.2.lt; have := HN.out.1.1; omega) (by have := HN.out.1.2.1; omega) HG2.out ⟨nm, v1, c0, c1, c2, c3, v6, v7, v8, v9, a1, j, k1⟩ HLj.out rfl (by rw [cdRow_snoc]; exact HO2.out))
                  have HXn := Lib.hid (show SX b w0 rA (XL b (wr.alloc (.cells #[.string nm, .int .i64 v1, .int .i64 c0, .int .i64 c1, .int .i64 c2, .int .i64 c3, .int .i64 v6, .int .i64 v7, .int .i64 v8, .int .i64 v9, .slice a1 j k1] 38)).heap.size (.slice (some ⟨g2, 0, none⟩) (i + 1) gc2) (i + 1) (Li ++ [(⟨nm, v1, c0, c1, c2, c3, v6, v7, v8, v9, a1, j, k1⟩, Aj)])) w18 from
                    HXf.out.row HG2.out (fun k e => by have := (HXf.out.2.1.1.1.lt k e).1; have := HBs.out; omega) HL2.out)
                  have HRn := Lib.hid (show (Li ++ [((⟨nm, v1, c0, c1, c2, c3, v6, v7, v8, v9, a1, j, k1⟩, Aj) : CdT)]).map bareC ++ (rdRep rdCd (K - (i + 1)) rA).1 = LL ∧ (rdRep rdCd (K - (i + 1)) rA).2 = rL by
                    have h := HRe.out
                    rw [show K - i = (K - (i + 1)) + 1 by omega, rep_step rdCd ri _ _ rA hst HE.out] at h
                    rw [List.map_append, List.map_singleton, show bareC (⟨nm, v1, c0, c1, c2, c3, v6, v7, v8, v9, a1, j, k1⟩, Aj) = (⟨nm, v1, c0, c1, c2, c3, v6, v7, v8, v9, none, A.length, 0⟩, A) by
                      unfold bareC
                      rw [← HAe.out, List.length_map]]
                    simpa using h)
                  have HBn := Lib.hid (show b + 1 ≤ (wr.alloc (.cells #[.string nm, .int .i64 v1, .int .i64 c0, .int .i64 c1, .int .i64 c2, .int .i64 c3, .int .i64 v6, .int .i64 v7, .int .i64 v8, .int .i64 v9, .slice a1 j k1] 38)).heap.size ∧ (wr.alloc (.cells #[.string nm, .int .i64 v1, .int .i64 c0, .int .i64 c1, .int .i64 c2, .int .i64 c3, .int .i64 v6, .int .i64 v7, .int .i64 v8, .int .i64 v9, .slice a1 j k1] 38)).heap.size ≤ w18.heap.size from ⟨HXf.out.lt, HG2.out.size⟩)
                  have hLn : (Li ++ [((⟨nm, v1, c0, c1, c2, c3, v6, v7, v8, v9, a1, j, k1⟩, Aj) : CdT)]).length = i + 1 := by have := HLi.out; simp; omega
                  clear HXe HXf HL2 HG2 HO2
                  go_wp2_with fail
                  go_roundw
                  case rel => exact ⟨i + 1, _, rA, _, _, rfl, by go_num, hLn, by omega, HRn.out, HBn.out, HXn.out⟩
                  case measure => simp [intOf]; omega
              · have HAe := Lib.hid (show Aj.map bareA = A ∧ rj = rA by
                  have h := HRj.out
                  rw [show J - j = 0 by omega] at h
                  exact ⟨by simpa [rdRep] using h.1, h.2⟩)
                have HXe := Lib.hid (show SX b w0 rA (XE b B lv i Li cb #[.string nm, .int .i64 v1, .int .i64 c0, .int .i64 c1, .int .i64 c2, .int .i64 c3, .int .i64 v6, .int .i64 v7, .int .i64 v8, .int .i64 v9, av] av j Aj) wr by rw [← HAe.out.2]; exact HXj.out)
                replace HAe := Lib.hid HAe.out.1
                by_cases h1 : j < n2
                · have h2 : ¬ j < 10 := by have := HJ.out; omega
                  obtain ⟨a1, k1, e1, _⟩ := own_kd HXe.out.2.2.1 (show b < cb + 1 by have := HN.out.1.2.1; omega)
                  subst e1
                  obtain ⟨⟨q0, q1, q2, q3, q4, q5, q6, q7, q8, q9, q10⟩, _⟩ := HXe.out.2.1.2.cells11
                  have HXf := Lib.hid (HXe.out.grow (kpt_XE (by have := HN.out.1.2.1; omega)) (below_alloc1 wr (.cells #[.string nm, .int .i64 v1, .int .i64 c0, .int .i64 c1, .int .i64 c2, .int .i64 c3, .int .i64 v6, .int .i64 v7, .int .i64 v8, .int .i64 v9, .slice a1 j k1] 38)))
                  obtain ⟨i0, hi0, hz0, hz1, hz2⟩ := info_parts infoC
                  have hh2 : i < 50 := by have := HK.out; omega
                  go_wp2_with (at_builtin; refine wpList_append_lies _ rfl _ _ 22 rfl (b + 1) 38 i0 (.agg #[.string ⟨#[]⟩, .int .i64 0, .int .i64 0, .int .i64 0, .int .i64 0, .int .i64 0, .int .i64 0, .int .i64 0, .int .i64 0, .int .i64 0, .slice none 0 0]) 11 112 Tryz.underlying22 hi0 hz0 hz1 hz2 rfl (by omega) lv i (cdRow Li) rfl HXf.out.2.1.1.1 ⟨wr.heap.size, 0, none⟩ 1 1 [.string nm, .int .i64 v1, .int .i64 c0, .int .i64 c1, .int .i64 c2, .int .i64 c3, .int .i64 v6, .int .i64 v7, .int .i64 v8, .int .i64 v9, .slice a1 j k1] rfl rfl (new_cells wr _ _) (fun u hu => by simp only [List.mem_cons, List.not_mem_nil, or_false] at hu; rcases hu with rfl | rfl | rfl | rfl | rfl | rfl | rfl | rfl | rfl | rfl | rfl <;> rfl) (by omega) (by unfold maxLen; omega) (by omega) (by have := HXf.out.lt; omega) _ rfl ?_; intro g2 gc2 w18 hown2 hgrow2 hat hlt2; have HO2 := Lib.hid hown2; have HG2 := Lib.hid hgrow2; clear hown2 hgrow2 hat hlt2)
                  have HL2 := Lib.hid (show XL b (wr.alloc (.cells #[.string nm, .int .i64 v1, .int .i64 c0, .int .i64 c1, .int .i64 c2, .int .i64 c3, .int .i64 v6, .int .i64 v7, .int .i64 v8, .int .i64 v9, .slice a1 j k1] 38)).heap.size (.slice (some ⟨g2, 0, none⟩) (i + 1) gc2) (i + 1) (Li ++ [(⟨nm, v1, c0, c1, c2, c3, v6, v7, v8, v9, a1, j, k1⟩, Aj)]) w18 from
                    HXf.out.2.card (by have := HXf.out.2.1.2.lt; have := HN.out.1.1; omega) (by have := HN.out.1.2.1; omega) HG2.out ⟨nm, v1, c0, c1, c2, c3, v6, v7, v8, v9, a1, j, k1⟩ HLj.out rfl (by rw [cdRow_snoc]; exact HO2.out))
                  have HXn := Lib.hid (show SX b w0 rA (XL b (wr.alloc (.cells #[.string nm, .int .i64 v1, .int .i64 c0, .int .i64 c1, .int .i64 c2, .int .i64 c3, .int .i64 v6, .int .i64 v7, .int .i64 v8, .int .i64 v9, .slice a1 j k1] 38)).heap.size (.slice (some ⟨g2, 0, none⟩) (i + 1) gc2) (i + 1) (Li ++ [(⟨nm, v1, c0, c1, c2, c3, v6, v7, v8, v9, a1, j, k1⟩, Aj)])) w18 from
                    HXf.out.row HG2.out (fun k e => by have := (HXf.out.2.1.1.1.lt k e).1; have := HBs.out; omega) HL2.out)
                  have HRn := Lib.hid (show (Li ++ [((⟨nm, v1, c0, c1, c2, c3, v6, v7, v8, v9, a1, j, k1⟩, Aj) : CdT)]).map bareC ++ (rdRep rdCd (K - (i + 1)) rA).1 = LL ∧ (rdRep rdCd (K - (i + 1)) rA).2 = rL by
                    have h := HRe.out
                    rw [show K - i = (K - (i + 1)) + 1 by omega, rep_step rdCd ri _ _ rA hst HE.out] at h
                    rw [List.map_append, List.map_singleton, show bareC (⟨nm, v1, c0, c1, c2, c3, v6, v7, v8, v9, a1, j, k1⟩, Aj) = (⟨nm, v1, c0, c1, c2, c3, v6, v7, v8, v9, none, A.length, 0⟩, A) by
                      unfold bareC
                      rw [← HAe.out, List.length_map]]
                    simpa using h)
                  have HBn := Lib.hid (show b + 1 ≤ (wr.alloc (.cells #[.string nm, .int .i64 v1, .int .i64 c0, .int .i64 c1, .int .i64 c2, .int .i64 c3, .int .i64 v6, .int .i64 v7, .int .i64 v8, .int .i64 v9, .slice a1 j k1] 38)).heap.size ∧ (wr.alloc (.cells #[.string nm, .int .i64 v1, .int .i64 c0, .int .i64 c1, .int .i64 c2, .int .i64 c3, .int .i64 v6, .int .i64 v7, .int .i64 v8, .int .i64 v9, .slice a1 j k1] 38)).heap.size ≤ w18.heap.size from ⟨HXf.out.lt, HG2.out.size⟩)
                  have hLn : (Li ++ [((⟨nm, v1, c0, c1, c2, c3, v6, v7, v8, v9, a1, j, k1⟩, Aj) : CdT)]).length = i + 1 := by have := HLi.out; simp; omega
                  clear HXe HXf HL2 HG2 HO2
                  go_wp2_with fail
                  go_roundw
                  case rel => exact ⟨i + 1, _, rA, _, _, rfl, by go_num, hLn, by omega, HRn.out, HBn.out, HXn.out⟩
                  case measure => simp [intOf]; omega
                · obtain ⟨a1, k1, e1, _⟩ := own_kd HXe.out.2.2.1 (show b < cb + 1 by have := HN.out.1.2.1; omega)
                  subst e1
                  obtain ⟨⟨q0, q1, q2, q3, q4, q5, q6, q7, q8, q9, q10⟩, _⟩ := HXe.out.2.1.2.cells11
                  have HXf := Lib.hid (HXe.out.grow (kpt_XE (by have := HN.out.1.2.1; omega)) (below_alloc1 wr (.cells #[.string nm, .int .i64 v1, .int .i64 c0, .int .i64 c1, .int .i64 c2, .int .i64 c3, .int .i64 v6, .int .i64 v7, .int .i64 v8, .int .i64 v9, .slice a1 j k1] 38)))
                  obtain ⟨i0, hi0, hz0, hz1, hz2⟩ := info_parts infoC
                  have hh2 : i < 50 := by have := HK.out; omega
                  go_wp2_with (at_builtin; refine wpList_append_lies _ rfl _ _ 22 rfl (b + 1) 38 i0 (.agg #[.string ⟨#[]⟩, .int .i64 0, .int .i64 0, .int .i64 0, .int .i64 0, .int .i64 0, .int .i64 0, .int .i64 0, .int .i64 0, .int .i64 0, .slice none 0 0]) 11 112 Tryz.underlying22 hi0 hz0 hz1 hz2 rfl (by omega) lv i (cdRow Li) rfl HXf.out.2.1.1.1 ⟨wr.heap.size, 0, none⟩ 1 1 [.string nm, .int .i64 v1, .int .i64 c0, .int .i64 c1, .int .i64 c2, .int .i64 c3, .int .i64 v6, .int .i64 v7, .int .i64 v8, .int .i64 v9, .slice a1 j k1] rfl rfl (new_cells wr _ _) (fun u hu => by simp only [List.mem_cons, List.not_mem_nil, or_false] at hu; rcases hu with rfl | rfl | rfl | rfl | rfl | rfl | rfl | rfl | rfl | rfl | rfl <;> rfl) (by omega) (by unfold maxLen; omega) (by omega) (by have := HXf.out.lt; omega) _ rfl ?_; intro g2 gc2 w18 hown2 hgrow2 hat hlt2; have HO2 := Lib.hid hown2; have HG2 := Lib.hid hgrow2; clear hown2 hgrow2 hat hlt2)
                  have HL2 := Lib.hid (show XL b (wr.alloc (.cells #[.string nm, .int .i64 v1, .int .i64 c0, .int .i64 c1, .int .i64 c2, .int .i64 c3, .int .i64 v6, .int .i64 v7, .int .i64 v8, .int .i64 v9, .slice a1 j k1] 38)).heap.size (.slice (some ⟨g2, 0, none⟩) (i + 1) gc2) (i + 1) (Li ++ [(⟨nm, v1, c0, c1, c2, c3, v6, v7, v8, v9, a1, j, k1⟩, Aj)]) w18 from
                    HXf.out.2.card (by have := HXf.out.2.1.2.lt; have := HN.out.1.1; omega) (by have := HN.out.1.2.1; omega) HG2.out ⟨nm, v1, c0, c1, c2, c3, v6, v7, v8, v9, a1, j, k1⟩ HLj.out rfl (by rw [cdRow_snoc]; exact HO2.out))
                  have HXn := Lib.hid (show SX b w0 rA (XL b (wr.alloc (.cells #[.string nm, .int .i64 v1, .int .i64 c0, .int .i64 c1, .int .i64 c2, .int .i64 c3, .int .i64 v6, .int .i64 v7, .int .i64 v8, .int .i64 v9, .slice a1 j k1] 38)).heap.size (.slice (some ⟨g2, 0, none⟩) (i + 1) gc2) (i + 1) (Li ++ [(⟨nm, v1, c0, c1, c2, c3, v6, v7, v8, v9, a1, j, k1⟩, Aj)])) w18 from
                    HXf.out.row HG2.out (fun k e => by have := (HXf.out.2.1.1.1.lt k e).1; have := HBs.out; omega) HL2.out)
                  have HRn := Lib.hid (show (Li ++ [((⟨nm, v1, c0, c1, c2, c3, v6, v7, v8, v9, a1, j, k1⟩, Aj) : CdT)]).map bareC ++ (rdRep rdCd (K - (i + 1)) rA).1 = LL ∧ (rdRep rdCd (K - (i + 1)) rA).2 = rL by
                    have h := HRe.out
                    rw [show K - i = (K - (i + 1)) + 1 by omega, rep_step rdCd ri _ _ rA hst HE.out] at h
                    rw [List.map_append, List.map_singleton, show bareC (⟨nm, v1, c0, c1, c2, c3, v6, v7, v8, v9, a1, j, k1⟩, Aj) = (⟨nm, v1, c0, c1, c2, c3, v6, v7, v8, v9, none, A.length, 0⟩, A) by
                      unfold bareC
                      rw [← HAe.out, List.length_map]]
                    simpa using h)
                  have HBn := Lib.hid (show b + 1 ≤ (wr.alloc (.cells #[.string nm, .int .i64 v1, .int .i64 c0, .int .i64 c1, .int .i64 c2, .int .i64 c3, .int .i64 v6, .int .i64 v7, .int .i64 v8, .int .i64 v9, .slice a1 j k1] 38)).heap.size ∧ (wr.alloc (.cells #[.string nm, .int .i64 v1, .int .i64 c0, .int .i64 c1, .int .i64 c2, .int .i64 c3, .int .i64 v6, .int .i64 v7, .int .i64 v8, .int .i64 v9, .slice a1 j k1] 38)).heap.size ≤ w18.heap.size from ⟨HXf.out.lt, HG2.out.size⟩)
                  have hLn : (Li ++ [((⟨nm, v1, c0, c1, c2, c3, v6, v7, v8, v9, a1, j, k1⟩, Aj) : CdT)]).length = i + 1 := by have := HLi.out; simp; omega
                  clear HXe HXf HL2 HG2 HO2
                  go_wp2_with fail
                  go_roundw
                  case rel => exact ⟨i + 1, _, rA, _, _, rfl, by go_num, hLn, by omega, HRn.out, HBn.out, HXn.out⟩
                  case measure => simp [intOf]; omega
      · have HLe := Lib.hid (show Li.map bareC = LL ∧ ri = rL by
          have h := HRe.out
          rw [rep_stop rdCd ri _ hst] at h
          exact ⟨by simpa [rdRep] using h.1, h.2⟩)
        have HXe := Lib.hid (show SX b w0 rL (XL b B lv i Li) wr by rw [← HLe.out.2]; exact HXr.out)
        replace HLe := Lib.hid HLe.out.1
        rw [hst] at HOk
        go_wp2_with fail
        refine HOk.out.mono ?_
        rintro e w' ⟨rfl, rfl⟩
        clear HOk
        go_wp2_with fail
        have HRk := Lib.hid (show ∀ c ∈ Li, Rdd c from fun c hc => Rdd.bare (by
          have h1 : bareC c ∈ LL := by rw [← HLe.out]; exact List.mem_map_of_mem hc
          rw [← HR0.out.1] at h1
          exact rep_all (f := rdCd) (fun r h => RdOk.cd h) (fun r h => rdCd_ok r h) K q1 HRok.out _ h1))
        obtain ⟨a1, k1, e1, hrow⟩ := own_kd HXe.out.2.1 (show b < b + 1 by omega)
        subst e1
        have hcd : ∀ c ∈ Li, CdR wr c.1 c.2 := fun c hc => (HXe.out.2.2 c hc).now
        have HIs := Lib.hid (show IsP wr a1 k1 Li from isP_row HLi.out hcd hrow.now)
        have HCk := Lib.hid (show chkP LL = chkP Li by rw [← HLe.out]; exact chkP_bare Li hcd)
        have HPb := Lib.hid (show poolB LL ByteArray.empty = poolB Li ByteArray.empty by rw [← HLe.out]; exact poolB_bare Li _)
        have H64 := Lib.hid (show ∀ c ∈ Li, CdT64 c from fun c hc => (HRk.out c hc).c64 (hcd c hc))
        have HNm := Lib.hid (show ∀ c ∈ Li, c.1.nm.size ≤ maxLen from fun c hc => (HRk.out c hc).1)
        clear hrow hcd
        obtain ⟨rc, hrc⟩ : ∃ r, chkP Li = r := ⟨_, rfl⟩
        have HRc := Lib.hid hrc
        obtain ⟨tt, htt⟩ : ∃ t, (if rc = 0 then poolB Li ByteArray.empty else ByteArray.empty) = t := ⟨_, rfl⟩
        have HTt := Lib.hid htt
        clear hrc htt
        refine (refEncode_any a1 k1 Li i HLi.out rc HRc.out tt HTt.out H64.out HNm.out wr HIs.out).mono ?_
        rintro e w5 ⟨rfl, hb⟩
        have HI5 := Lib.hid (HIs.out.next hb)
        have HX5 := Lib.hid ((HXe.out.to (X' := fun _ => True) (fun _ => trivial)).grow kpt_true hb)
        have HB5 := Lib.hid (show Below w.heap.size w w5 by rw [HWb.out]; exact below_grown HBl.out HX5.out.1.2.2 (by have := HBs.out; omega) (Nat.le_refl _))
        obtain ⟨eb, heb⟩ : ∃ x, (!rL.2 && rL.1.toList.isEmpty) = x := ⟨_, rfl⟩
        have hen := HX5.out.endd
        rw [heb] at hen
        have HEn := Lib.hid hen
        have HDk := Lib.hid (docOk_iff HPo.out HCk.out HPb.out HRc.out HTt.out heb)
        clear hb HXe HIs hen heb HTt
        go_wp2_with fail
        refine HEn.out.mono ?_
        rintro e w6 ⟨rfl, rfl⟩
        cases eb
        · have HDn := Lib.hid (show ¬ DocOk s from fun h => by have := (HDk.out.1 h).1; cases this)
          go_wp2_with fail
          refine bodyPost_ret (v := .tuple #[.slice none 0 0, .int .i64 4]) (by simp [results, Tryz.results12, go_sem]) rfl ?_
          exact ⟨HB5.out, .inr ⟨HDn.out, rfl⟩⟩
        · by_cases h0 : rc = 0
          · subst h0
            by_cases hts : tt = s
            · subst hts
              have HDy := Lib.hid (HDk.out.2 ⟨rfl, rfl, rfl⟩)
              have hse : (tt.toList == tt.toList) = true := by simp
              have hln := HLi.out
              have HM := Lib.hid (show Li.map bareC = (rdPool tt).1 by rw [HPo.out]; exact HLe.out)
              go_wp2_with fail
              refine bodyPost_ret (v := .tuple #[.slice a1 i k1, .int .i64 0]) (by simp [results, Tryz.results12, go_sem]) rfl ?_
              exact ⟨HB5.out, .inl ⟨HDy.out, Li, a1, k1, HM.out, by rw [hln], HI5.out⟩⟩
            · have HDn := Lib.hid (show ¬ DocOk s from fun h => hts (HDk.out.1 h).2.2)
              have hse : (tt.toList == s.toList) = false := by
                rw [ByteArray.toList_eq, ByteArray.toList_eq]
                simp only [beq_eq_false_iff_ne, ne_eq]
                exact fun h => hts (by apply ByteArray.ext; apply Array.ext'; exact h)
              clear hts
              go_wp2_with fail
              refine bodyPost_ret (v := .tuple #[.slice none 0 0, .int .i64 4]) (by simp [results, Tryz.results12, go_sem]) rfl ?_
              exact ⟨HB5.out, .inr ⟨HDn.out, rfl⟩⟩
          · have HDn := Lib.hid (show ¬ DocOk s from fun h => h0 (HDk.out.1 h).2.1)
            have hzb : (rc == 0) = false := by simpa using h0
            go_wp2_with fail
            refine bodyPost_ret (v := .tuple #[.slice none 0 0, .int .i64 4]) (by simp [results, Tryz.results12, go_sem]) rfl ?_
            exact ⟨HB5.out, .inr ⟨HDn.out, rfl⟩⟩
    · have HLe := Lib.hid (show Li.map bareC = LL ∧ ri = rL by
        have h := HRe.out
        rw [show K - i = 0 by omega] at h
        exact ⟨by simpa [rdRep] using h.1, h.2⟩)
      have HXe := Lib.hid (show SX b w0 rL (XL b B lv i Li) wr by rw [← HLe.out.2]; exact HXr.out)
      replace HLe := Lib.hid HLe.out.1
      by_cases h1 : i < n1
      · have h2 : ¬ i < 50 := by have := HK.out; omega
        go_wp2_with fail
        have HRk := Lib.hid (show ∀ c ∈ Li, Rdd c from fun c hc => Rdd.bare (by
          have h1 : bareC c ∈ LL := by rw [← HLe.out]; exact List.mem_map_of_mem hc
          rw [← HR0.out.1] at h1
          exact rep_all (f := rdCd) (fun r h => RdOk.cd h) (fun r h => rdCd_ok r h) K q1 HRok.out _ h1))
        obtain ⟨a1, k1, e1, hrow⟩ := own_kd HXe.out.2.1 (show b < b + 1 by omega)
        subst e1
        have hcd : ∀ c ∈ Li, CdR wr c.1 c.2 := fun c hc => (HXe.out.2.2 c hc).now
        have HIs := Lib.hid (show IsP wr a1 k1 Li from isP_row HLi.out hcd hrow.now)
        have HCk := Lib.hid (show chkP LL = chkP Li by rw [← HLe.out]; exact chkP_bare Li hcd)
        have HPb := Lib.hid (show poolB LL ByteArray.empty = poolB Li ByteArray.empty by rw [← HLe.out]; exact poolB_bare Li _)
        have H64 := Lib.hid (show ∀ c ∈ Li, CdT64 c from fun c hc => (HRk.out c hc).c64 (hcd c hc))
        have HNm := Lib.hid (show ∀ c ∈ Li, c.1.nm.size ≤ maxLen from fun c hc => (HRk.out c hc).1)
        clear hrow hcd
        obtain ⟨rc, hrc⟩ : ∃ r, chkP Li = r := ⟨_, rfl⟩
        have HRc := Lib.hid hrc
        obtain ⟨tt, htt⟩ : ∃ t, (if rc = 0 then poolB Li ByteArray.empty else ByteArray.empty) = t := ⟨_, rfl⟩
        have HTt := Lib.hid htt
        clear hrc htt
        refine (refEncode_any a1 k1 Li i HLi.out rc HRc.out tt HTt.out H64.out HNm.out wr HIs.out).mono ?_
        rintro e w5 ⟨rfl, hb⟩
        have HI5 := Lib.hid (HIs.out.next hb)
        have HX5 := Lib.hid ((HXe.out.to (X' := fun _ => True) (fun _ => trivial)).grow kpt_true hb)
        have HB5 := Lib.hid (show Below w.heap.size w w5 by rw [HWb.out]; exact below_grown HBl.out HX5.out.1.2.2 (by have := HBs.out; omega) (Nat.le_refl _))
        obtain ⟨eb, heb⟩ : ∃ x, (!rL.2 && rL.1.toList.isEmpty) = x := ⟨_, rfl⟩
        have hen := HX5.out.endd
        rw [heb] at hen
        have HEn := Lib.hid hen
        have HDk := Lib.hid (docOk_iff HPo.out HCk.out HPb.out HRc.out HTt.out heb)
        clear hb HXe HIs hen heb HTt
        go_wp2_with fail
        refine HEn.out.mono ?_
        rintro e w6 ⟨rfl, rfl⟩
        cases eb
        · have HDn := Lib.hid (show ¬ DocOk s from fun h => by have := (HDk.out.1 h).1; cases this)
          go_wp2_with fail
          refine bodyPost_ret (v := .tuple #[.slice none 0 0, .int .i64 4]) (by simp [results, Tryz.results12, go_sem]) rfl ?_
          exact ⟨HB5.out, .inr ⟨HDn.out, rfl⟩⟩
        · by_cases h0 : rc = 0
          · subst h0
            by_cases hts : tt = s
            · subst hts
              have HDy := Lib.hid (HDk.out.2 ⟨rfl, rfl, rfl⟩)
              have hse : (tt.toList == tt.toList) = true := by simp
              have hln := HLi.out
              have HM := Lib.hid (show Li.map bareC = (rdPool tt).1 by rw [HPo.out]; exact HLe.out)
              go_wp2_with fail
              refine bodyPost_ret (v := .tuple #[.slice a1 i k1, .int .i64 0]) (by simp [results, Tryz.results12, go_sem]) rfl ?_
              exact ⟨HB5.out, .inl ⟨HDy.out, Li, a1, k1, HM.out, by rw [hln], HI5.out⟩⟩
            · have HDn := Lib.hid (show ¬ DocOk s from fun h => hts (HDk.out.1 h).2.2)
              have hse : (tt.toList == s.toList) = false := by
                rw [ByteArray.toList_eq, ByteArray.toList_eq]
                simp only [beq_eq_false_iff_ne, ne_eq]
                exact fun h => hts (by apply ByteArray.ext; apply Array.ext'; exact h)
              clear hts
              go_wp2_with fail
              refine bodyPost_ret (v := .tuple #[.slice none 0 0, .int .i64 4]) (by simp [results, Tryz.results12, go_sem]) rfl ?_
              exact ⟨HB5.out, .inr ⟨HDn.out, rfl⟩⟩
          · have HDn := Lib.hid (show ¬ DocOk s from fun h => h0 (HDk.out.1 h).2.1)
            have hzb : (rc == 0) = false := by simpa using h0
            go_wp2_with fail
            refine bodyPost_ret (v := .tuple #[.slice none 0 0, .int .i64 4]) (by simp [results, Tryz.results12, go_sem]) rfl ?_
            exact ⟨HB5.out, .inr ⟨HDn.out, rfl⟩⟩
      · go_wp2_with fail
        have HRk := Lib.hid (show ∀ c ∈ Li, Rdd c from fun c hc => Rdd.bare (by
          have h1 : bareC c ∈ LL := by rw [← HLe.out]; exact List.mem_map_of_mem hc
          rw [← HR0.out.1] at h1
          exact rep_all (f := rdCd) (fun r h => RdOk.cd h) (fun r h => rdCd_ok r h) K q1 HRok.out _ h1))
        obtain ⟨a1, k1, e1, hrow⟩ := own_kd HXe.out.2.1 (show b < b + 1 by omega)
        subst e1
        have hcd : ∀ c ∈ Li, CdR wr c.1 c.2 := fun c hc => (HXe.out.2.2 c hc).now
        have HIs := Lib.hid (show IsP wr a1 k1 Li from isP_row HLi.out hcd hrow.now)
        have HCk := Lib.hid (show chkP LL = chkP Li by rw [← HLe.out]; exact chkP_bare Li hcd)
        have HPb := Lib.hid (show poolB LL ByteArray.empty = poolB Li ByteArray.empty by rw [← HLe.out]; exact poolB_bare Li _)
        have H64 := Lib.hid (show ∀ c ∈ Li, CdT64 c from fun c hc => (HRk.out c hc).c64 (hcd c hc))
        have HNm := Lib.hid (show ∀ c ∈ Li, c.1.nm.size ≤ maxLen from fun c hc => (HRk.out c hc).1)
        clear hrow hcd
        obtain ⟨rc, hrc⟩ : ∃ r, chkP Li = r := ⟨_, rfl⟩
        have HRc := Lib.hid hrc
        obtain ⟨tt, htt⟩ : ∃ t, (if rc = 0 then poolB Li ByteArray.empty else ByteArray.empty) = t := ⟨_, rfl⟩
        have HTt := Lib.hid htt
        clear hrc htt
        refine (refEncode_any a1 k1 Li i HLi.out rc HRc.out tt HTt.out H64.out HNm.out wr HIs.out).mono ?_
        rintro e w5 ⟨rfl, hb⟩
        have HI5 := Lib.hid (HIs.out.next hb)
        have HX5 := Lib.hid ((HXe.out.to (X' := fun _ => True) (fun _ => trivial)).grow kpt_true hb)
        have HB5 := Lib.hid (show Below w.heap.size w w5 by rw [HWb.out]; exact below_grown HBl.out HX5.out.1.2.2 (by have := HBs.out; omega) (Nat.le_refl _))
        obtain ⟨eb, heb⟩ : ∃ x, (!rL.2 && rL.1.toList.isEmpty) = x := ⟨_, rfl⟩
        have hen := HX5.out.endd
        rw [heb] at hen
        have HEn := Lib.hid hen
        have HDk := Lib.hid (docOk_iff HPo.out HCk.out HPb.out HRc.out HTt.out heb)
        clear hb HXe HIs hen heb HTt
        go_wp2_with fail
        refine HEn.out.mono ?_
        rintro e w6 ⟨rfl, rfl⟩
        cases eb
        · have HDn := Lib.hid (show ¬ DocOk s from fun h => by have := (HDk.out.1 h).1; cases this)
          go_wp2_with fail
          refine bodyPost_ret (v := .tuple #[.slice none 0 0, .int .i64 4]) (by simp [results, Tryz.results12, go_sem]) rfl ?_
          exact ⟨HB5.out, .inr ⟨HDn.out, rfl⟩⟩
        · by_cases h0 : rc = 0
          · subst h0
            by_cases hts : tt = s
            · subst hts
              have HDy := Lib.hid (HDk.out.2 ⟨rfl, rfl, rfl⟩)
              have hse : (tt.toList == tt.toList) = true := by simp
              have hln := HLi.out
              have HM := Lib.hid (show Li.map bareC = (rdPool tt).1 by rw [HPo.out]; exact HLe.out)
              go_wp2_with fail
              refine bodyPost_ret (v := .tuple #[.slice a1 i k1, .int .i64 0]) (by simp [results, Tryz.results12, go_sem]) rfl ?_
              exact ⟨HB5.out, .inl ⟨HDy.out, Li, a1, k1, HM.out, by rw [hln], HI5.out⟩⟩
            · have HDn := Lib.hid (show ¬ DocOk s from fun h => hts (HDk.out.1 h).2.2)
              have hse : (tt.toList == s.toList) = false := by
                rw [ByteArray.toList_eq, ByteArray.toList_eq]
                simp only [beq_eq_false_iff_ne, ne_eq]
                exact fun h => hts (by apply ByteArray.ext; apply Array.ext'; exact h)
              clear hts
              go_wp2_with fail
              refine bodyPost_ret (v := .tuple #[.slice none 0 0, .int .i64 4]) (by simp [results, Tryz.results12, go_sem]) rfl ?_
              exact ⟨HB5.out, .inr ⟨HDn.out, rfl⟩⟩
          · have HDn := Lib.hid (show ¬ DocOk s from fun h => h0 (HDk.out.1 h).2.1)
            have hzb : (rc == 0) = false := by simpa using h0
            go_wp2_with fail
            refine bodyPost_ret (v := .tuple #[.slice none 0 0, .int .i64 4]) (by simp [results, Tryz.results12, go_sem]) rfl ?_
            exact ⟨HB5.out, .inr ⟨HDn.out, rfl⟩⟩
end Go.Proofs.YtbeaaieaffdgeaaGreatDoor
end
/- PoolReads: which pool any bytes are. -/
section
namespace Go.Proofs.YtbeaaieaffdgeaaGreatDoor
open Go.RowKit
set_option linter.unusedVariables false
set_option linter.unusedSimpArgs false

theorem rdAb_tn (r : RdS) : (rdAb r).1.2.1.length = (rdAb r).1.1.tn := by unfold rdAb; dsimp only
theorem rdAb_cn (r : RdS) : (rdAb r).1.2.2.length = (rdAb r).1.1.cn := by unfold rdAb; dsimp only
theorem rdAb_bare (r : RdS) : bareA (rdAb r).1 = (rdAb r).1 := by unfold rdAb bareA; dsimp only
theorem rdCd_64 (r : RdS) (h : RdOk r) : CdT64 (rdCd r).1 ∧ bareC (rdCd r).1 = (rdCd r).1 := by
  have h9 := h.text.nm.nm.nm.nm.nm.nm.nm.nm.nm.nm
  have hA := fun k => rep_all (f := rdAb) (P := fun t : AbT => (t.2.1.length = t.1.tn ∧ t.2.2.length = t.1.cn ∧ In64 t.1.a ∧ In64 t.1.b ∧ ∀ i ∈ t.2.2, In64 i.a ∧ In64 i.b) ∧ bareA t = t)
    (fun r h => RdOk.ab h) (fun r h => ⟨⟨rdAb_tn r, rdAb_cn r, rdAb_64 r h⟩, rdAb_bare r⟩) k _ h9
  have hB := fun k => (List.map_congr_left (g := id) (fun t ht => (hA k t ht).2)).trans (List.map_id _)
  unfold rdCd CdT64 bareC
  dsimp only
  refine ⟨⟨by rfl, fun t ht => (hA _ t ht).1⟩, ?_⟩
  rw [hB]
theorem rdPool_64 (s : ByteArray) (hs : s.size ≤ 70368744177664) : ∀ c ∈ (rdPool s).1, CdT64 c ∧ bareC c = c :=
  have h0 : RdOk (s, false) := ⟨hs, fun h => by cases h⟩
  rep_all (f := rdCd) (fun r h => RdOk.cd h) (fun r h => rdCd_64 r h) _ _ h0.nm
theorem bare_id {L : List CdT} (h : ∀ c ∈ L, bareC c = c) : L.map bareC = L := by
  rw [List.map_congr_left (g := id) h, List.map_id]
theorem docOk_pool {s : ByteArray} (hs : s.size ≤ 70368744177664) (h : DocOk s) : pPool s = some ((rdPool s).1, ByteArray.empty) ∧ chkP (rdPool s).1 = 0 := by
  obtain ⟨_, _, h3, h4⟩ := h
  have h64 := rdPool_64 s hs
  have hp := pPool_put (rdPool s).1 (pool_ok _ h3 (fun c hc => (h64 c hc).1)).2.2 ByteArray.empty
  rw [h4, bare_id (fun c hc => (h64 c hc).2)] at hp
  exact ⟨hp, h3⟩
theorem pool_docOk {s : ByteArray} {L : List CdT} (h : pPool s = some (L, ByteArray.empty)) (hc : chkP L = 0) : DocOk s ∧ (rdPool s).1 = L := by
  obtain ⟨h1, h2⟩ := pool_sound h
  have hp := rdPool_put L (pool_ok L hc (fun c hc => (h2 c hc).1)).2.2 ByteArray.empty
  rw [← h1, bare_id (fun c hc => (h2 c hc).2)] at hp
  unfold DocOk
  rw [hp]
  exact ⟨⟨rfl, rfl, hc, h1.symm⟩, rfl⟩
set_option maxRecDepth 100000 in
set_option maxHeartbeats 4000000 in
theorem walk_PoolReads (s : ByteArray) (hs : s.size ≤ maxLen) (w : World) (hT : Tabs w) :
    Calls Tryz.prog 4 #[.string s] w fun e w' => e = .returned (.bool true) ∧ Below w.heap.size w w' := by
  have HTb := Lib.hid hT
  unfold maxLen at hs
  clear hT
  go_enter Tryz.func4, Tryz.ntmps4
  have hov0 : 0 ≤ min (s.size : Int) 6000 := by omega
  have hov1 : min (s.size : Int) 6000 ≤ (s.size : Int) := by omega
  go_wp2_with fail
  clear hov0 hov1
  refine (decode_any _ (by rw [ByteArray.size_extract]; omega) _ HTb.out).mono ?_
  intro e w1 hd
  obtain ⟨sy, hsy⟩ : ∃ sy, s.extract 0 (min (s.size : Int) 6000).toNat = sy := ⟨_, rfl⟩
  have hz : sy.size ≤ 70368744177664 := by rw [← hsy, ByteArray.size_extract]; omega
  rw [hsy] at hd
  simp only [hsy]
  clear hsy
  have HZ := Lib.hid hz
  clear hz
  obtain ⟨hb, hd⟩ := hd
  have HB1 := Lib.hid hb
  clear hb
  rcases hd with ⟨L, hp, hk, M, a, c, hm, rfl, hI, hP⟩ | ⟨hno, rfl⟩
  · obtain ⟨hdoc, hrd⟩ := pool_docOk hp hk
    obtain ⟨m, hml⟩ : ∃ m, M.length = m := ⟨_, rfl⟩
    have HM := Lib.hid hml
    have HI := Lib.hid hI
    have HDc := Lib.hid hdoc
    have HRd := Lib.hid (show (rdPool sy).1 = M.map bareC from hrd.trans hm.symm)
    rw [hml]
    clear hp hk hm hI hP hdoc hrd hml
    go_wp2_with fail
    refine (refDecode_any sy HZ.out w1).mono ?_
    rintro e w2 ⟨hb, ⟨_, M2, a2, c2, hm2, rfl, hI2⟩ | ⟨hn, rfl⟩⟩
    · have hl2 : M2.length = m := by rw [HRd.out] at hm2; rw [← HM.out]; simpa using congrArg List.length hm2
      have HM2 := Lib.hid (show M2.map bareC = M.map bareC from hm2.trans HRd.out)
      have HI1 := Lib.hid (HI.out.next hb)
      have HI2 := Lib.hid hI2
      have HB2 := Lib.hid (below_then' HB1.out hb HB1.out.size)
      rw [hl2]
      clear hb hm2 hI2 hl2 HI HB1
      go_wp2_with fail
      refine (refSame_same a c M a2 c2 M2 m HM.out HM2.out w2 HI1.out HI2.out).mono ?_
      rintro e w3 ⟨rfl, hb⟩
      have HB3 := Lib.hid (below_then' HB2.out hb HB2.out.size)
      clear hb HB2 HI1 HI2
      go_wp2_with fail
      refine (works_any _ (HTb.out.next HB3.out)).mono ?_
      rintro e w4 ⟨rfl, hb⟩
      have HB4 := Lib.hid (below_then' HB3.out hb HB3.out.size)
      clear hb HB3
      go_wp2_with fail
      refine bodyPost_ret (v := .bool true) (by simp [results, Tryz.results4, go_sem]) rfl ?_
      exact ⟨rfl, HB4.out⟩
    · exact absurd HDc.out hn
  · have HNo := Lib.hid hno
    clear hno
    go_wp2_with fail
    refine (refDecode_any sy HZ.out w1).mono ?_
    rintro e w2 ⟨hb, ⟨hdoc, _⟩ | ⟨hn, rfl⟩⟩
    · obtain ⟨h1, h2⟩ := docOk_pool HZ.out hdoc
      exact absurd h2 (HNo.out _ h1)
    · have HB2 := Lib.hid (below_then' HB1.out hb HB1.out.size)
      clear hb hn HB1
      go_wp2_with fail
      refine (refSame_same none 0 [] none 0 [] 0 rfl rfl w2 (IsP.nil _) (IsP.nil _)).mono ?_
      rintro e w3 ⟨rfl, hb⟩
      have HB3 := Lib.hid (below_then' HB2.out hb HB2.out.size)
      clear hb HB2
      go_wp2_with fail
      refine (works_any _ (HTb.out.next HB3.out)).mono ?_
      rintro e w4 ⟨rfl, hb⟩
      have HB4 := Lib.hid (below_then' HB3.out hb HB3.out.size)
      clear hb HB3
      go_wp2_with fail
      refine bodyPost_ret (v := .bool true) (by simp [results, Tryz.results4, go_sem]) rfl ?_
      exact ⟨rfl, HB4.out⟩
end Go.Proofs.YtbeaaieaffdgeaaGreatDoor
end
