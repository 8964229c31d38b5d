/- Texts that belong together: PoolYd, PoolYe, PoolZc, PoolZb, PoolZk, PoolZn. -/
import Derived.Test.YtbeaaieaffdgeaaDoorMq
import Derived.BigQuiet
import Derived.ChangeKeysEq
import Derived.Laws.StructEq
import Derived.Laws.IdiomArrays
import Derived.Deep.CutRange
import Derived.Deep.RegionWith
/- The laws' alike: two abilities that are one, but for their addresses, are alike. -/
section
namespace Go.Proofs.YtbeaaieaffdgeaaDoor
open Go.RowKit
set_option linter.unusedVariables false
set_option linter.unusedSimpArgs false

theorem m_step (d : Nat) (xs ys : Array Value) (i : Nat) (is : List Nat) (x y : Int) (hx : xs[i * 1]? = some (.int .i64 x)) (hy : ys[i * 1]? = some (.int .i64 y)) (w : World) :
    (Op.eqItems (d + 1) 3 1 xs ys (i :: is)).run Tryd.prog w = if (x == y) = true then (Op.eqItems (d + 1) 3 1 xs ys is).run Tryd.prog w else .ok false w := by
  have p1 := run_part_plain (P := Tryd.prog) (w := w) (e := 3) (by kernel_rfl) hx
  have p2 := run_part_plain (P := Tryd.prog) (w := w) (e := 3) (by kernel_rfl) hy
  have p3 := run_equalIn_int (P := Tryd.prog) w d 3 .i64 .i64 x y Tryd.underlying3
  simp only [Op.eqItems, Sem.run_bind, p1, p2, p3, Result.andThen_ok]
  cases x == y <;> simp
theorem mana_eq (a0 a1 a2 a3 : Int) (w : World) :
    (Op.equalIn 10000 36 (.agg #[.int .i64 a0, .int .i64 a1, .int .i64 a2, .int .i64 a3]) (.agg #[.int .i64 a0, .int .i64 a1, .int .i64 a2, .int .i64 a3])).run Tryd.prog w = .ok true w := by
  obtain ⟨i, hi, _, _, _⟩ := info_parts (show (Tryd.prog.info? 3).map (fun i => (i.zero, i.size, i.bytes)) = some (some (.int .i64 0), 1, 8) by kernel_rfl)
  rw [show (10000 : Nat) = 9999 + 1 from rfl, run_equalIn_array w 9999 _ _ Tryd.underlying36 hi, show Tryd.prog.cellsOf 3 = 1 by kernel_rfl, show List.range 4 = [0, 1, 2, 3] from rfl,
    show (9999 : Nat) = 9998 + 1 from rfl, m_step 9998 _ _ 0 _ a0 a0 rfl rfl, m_step 9998 _ _ 1 _ a1 a1 rfl rfl, m_step 9998 _ _ 2 _ a2 a2 rfl rfl, m_step 9998 _ _ 3 _ a3 a3 rfl rfl]
  simp [Op.eqItems]
theorem fields_ins : (Tryd.prog.fieldsOf 42).toList.map (fun f => (f.type, f.offset)) = [(3, 0), (3, 1), (3, 2)] := by kernel_rfl
theorem und_ins : Tryd.prog.underlying 42 = some (.struct (Tryd.prog.fieldsOf 42)) := by kernel_rfl
theorem held_ins : Tryd.prog.stoodInHeld 42 = false := by kernel_rfl
theorem equal_ins (x y : Ins) (w : World) : (Op.equalIn 10000 42 (.agg #[.int .i64 x.op, .int .i64 x.a, .int .i64 x.b]) (.agg #[.int .i64 y.op, .int .i64 y.a, .int .i64 y.b])).run Tryd.prog w = .ok (decide (x = y)) w := by
  obtain ⟨o, a, b⟩ := x
  obtain ⟨p, c, d⟩ := y
  rw [show (10000 : Nat) = 9999 + 1 from rfl, run_equalIn_struct w 9999 _ _ _ und_ins held_ins]
  have hf := fields_ins
  have hn : ((Tryd.prog.fieldsOf 42).toList.map fun f => f.name != "_") = [true, true, true] := by kernel_rfl
  generalize (Tryd.prog.fieldsOf 42).toList = fs at *
  have hl : fs.length = 3 := by simpa using congrArg List.length hf
  obtain ⟨f0, f1, f2, rfl⟩ : ∃ f0 f1 f2, fs = [f0, f1, f2] := by
    match fs, hl with
    | [f0, f1, f2], _ => exact ⟨f0, f1, f2, rfl⟩
  simp only [List.map_cons, List.map_nil, List.cons.injEq, Prod.mk.injEq, and_true] at hf hn
  obtain ⟨⟨t0, o0⟩, ⟨t1, o1⟩, ⟨t2, o2⟩⟩ := hf
  obtain ⟨n0, n1, n2⟩ := hn
  have m0 : f0.name ≠ "_" := bne_iff_ne.1 n0
  have m1 : f1.name ≠ "_" := bne_iff_ne.1 n1
  have m2 : f2.name ≠ "_" := bne_iff_ne.1 n2
  have p0 := fun (u : Value) (xs : Array Value) (h : xs[0]? = some u) => run_part_plain (P := Tryd.prog) (w := w) (e := 3) (by kernel_rfl) h
  have p1 := fun (u : Value) (xs : Array Value) (h : xs[1]? = some u) => run_part_plain (P := Tryd.prog) (w := w) (e := 3) (by kernel_rfl) h
  have p2 := fun (u : Value) (xs : Array Value) (h : xs[2]? = some u) => run_part_plain (P := Tryd.prog) (w := w) (e := 3) (by kernel_rfl) h
  have q : ∀ a b : Int, (Op.equalIn 9999 3 (.int .i64 a) (.int .i64 b)).run Tryd.prog w = .ok (a == b) w := fun a b => run_equalIn_int (P := Tryd.prog) w 9998 3 .i64 .i64 a b Tryd.underlying3
  simp only [Op.eqFields, m0, m1, m2, t0, t1, t2, o0, o1, o2, Sem.run_bind, Sem.run_ite, ne_eq, not_false_eq_true, if_true,
    p0 (.int .i64 o) #[.int .i64 o, .int .i64 a, .int .i64 b] rfl, p0 (.int .i64 p) #[.int .i64 p, .int .i64 c, .int .i64 d] rfl,
    p1 (.int .i64 a) #[.int .i64 o, .int .i64 a, .int .i64 b] rfl, p1 (.int .i64 c) #[.int .i64 p, .int .i64 c, .int .i64 d] rfl,
    p2 (.int .i64 b) #[.int .i64 o, .int .i64 a, .int .i64 b] rfl, p2 (.int .i64 d) #[.int .i64 p, .int .i64 c, .int .i64 d] rfl, Result.andThen_ok, q]
  by_cases e0 : o = p
  · by_cases e1 : a = c
    · by_cases e2 : b = d
      · subst e0 e1 e2; simp
      · simp [e0, e1, e2]
    · simp [e0, e1]
  · simp [e0]
theorem ins_same (x : Ins) (w : World) : (Op.equalIn 10000 42 (.agg #[.int .i64 x.op, .int .i64 x.a, .int .i64 x.b]) (.agg #[.int .i64 x.op, .int .i64 x.a, .int .i64 x.b])).run Tryd.prog w = .ok true w := by
  rw [equal_ins, decide_eq_true rfl]
attribute [local go_sem] ins_same
attribute [local go_sem] mana_eq
set_option maxRecDepth 100000 in
set_option maxHeartbeats 8000000 in
theorem alike_any (x : Ab) (ta2 ca2 : Option Addr) (tc2 cc2 : Nat) (T : List Int) (C : List Ins) (w : World) (h : AbR w x T C) (h2 : AbR w { x with ta := ta2, tc := tc2, ca := ca2, cc := cc2 } T C) :
    Calls Tryd.prog 23 #[.agg #[.int .i64 x.k, .int .i64 x.ev, .int .i64 x.wh, .int .i64 x.c0, .int .i64 x.c1, .int .i64 x.c2, .int .i64 x.c3, .bool x.tap, .slice x.ta x.tn x.tc, .slice x.ca x.cn x.cc, .int .i64 x.op, .int .i64 x.a, .int .i64 x.b], .agg #[.int .i64 x.k, .int .i64 x.ev, .int .i64 x.wh, .int .i64 x.c0, .int .i64 x.c1, .int .i64 x.c2, .int .i64 x.c3, .bool x.tap, .slice ta2 x.tn tc2, .slice ca2 x.cn cc2, .int .i64 x.op, .int .i64 x.a, .int .i64 x.b]] w fun e w' => e = .returned (.bool true) ∧ Below w.heap.size w w' := by
  have HA := Lib.hid h
  have HB := Lib.hid h2
  have q1 := h.1.1
  have q2 := h.1.2.1
  have q3 := h.1.2.2.1
  have q4 := h.2.1
  have q5 := h.2.2.1
  have q6 := h.2.2.2.1
  have r2 := h2.1.2.1
  have r3 := h2.1.2.2.1
  have r5 := h2.2.2.1
  have r6 := h2.2.2.2.1
  have HT := Lib.hid q1
  have HC := Lib.hid q4
  rw [q1] at q2 r2
  rw [q4] at q5 r5
  clear h h2 q1 q4
  dsimp only at r2 r3 r5 r6
  go_enter Tryd.func23, Tryd.ntmps23
  go_wp2_with fail
  have HX := Lib.hid ((boxA_new w x 45).next (below_alloc1 _ (.cells #[.int .i64 x.k, .int .i64 x.ev, .int .i64 x.wh, .int .i64 x.c0, .int .i64 x.c1, .int .i64 x.c2, .int .i64 x.c3, .bool x.tap, .slice ta2 x.tn tc2, .slice ca2 x.cn cc2, .int .i64 x.op, .int .i64 x.a, .int .i64 x.b] 45)))
  have HY := Lib.hid (boxA_new (w.alloc (.cells #[.int .i64 x.k, .int .i64 x.ev, .int .i64 x.wh, .int .i64 x.c0, .int .i64 x.c1, .int .i64 x.c2, .int .i64 x.c3, .bool x.tap, .slice x.ta x.tn x.tc, .slice x.ca x.cn x.cc, .int .i64 x.op, .int .i64 x.a, .int .i64 x.b] 45)) { x with ta := ta2, tc := tc2, ca := ca2, cc := cc2 } 45)
  rw [World.size_alloc] at HY
  have HBl := Lib.hid (below_alloc2 w (.cells #[.int .i64 x.k, .int .i64 x.ev, .int .i64 x.wh, .int .i64 x.c0, .int .i64 x.c1, .int .i64 x.c2, .int .i64 x.c3, .bool x.tap, .slice x.ta x.tn x.tc, .slice x.ca x.cn x.cc, .int .i64 x.op, .int .i64 x.a, .int .i64 x.b] 45) (.cells #[.int .i64 x.k, .int .i64 x.ev, .int .i64 x.wh, .int .i64 x.c0, .int .i64 x.c1, .int .i64 x.c2, .int .i64 x.c3, .bool x.tap, .slice ta2 x.tn tc2, .slice ca2 x.cn cc2, .int .i64 x.op, .int .i64 x.a, .int .i64 x.b] 45))
  dsimp only at HY
  generalize (w.alloc (.cells #[.int .i64 x.k, .int .i64 x.ev, .int .i64 x.wh, .int .i64 x.c0, .int .i64 x.c1, .int .i64 x.c2, .int .i64 x.c3, .bool x.tap, .slice x.ta x.tn x.tc, .slice x.ca x.cn x.cc, .int .i64 x.op, .int .i64 x.a, .int .i64 x.b] 45)).alloc (.cells #[.int .i64 x.k, .int .i64 x.ev, .int .i64 x.wh, .int .i64 x.c0, .int .i64 x.c1, .int .i64 x.c2, .int .i64 x.c3, .bool x.tap, .slice ta2 x.tn tc2, .slice ca2 x.cn cc2, .int .i64 x.op, .int .i64 x.a, .int .i64 x.b] 45) = W at *
  have HS := Lib.hid HBl.out.size
  go_loopw [5] (fun q wr => ∃ k : Nat, q = .int .i64 (k : Int) ∧ k ≤ x.tn ∧ Below W.heap.size W wr) (fun q _ => x.tn - (intOf q).toNat)
  case atStart => exact ⟨0, rfl, Nat.zero_le _, Below.refl _ _⟩
  case round =>
    obtain ⟨k, rfl, hk, hb⟩ := hrel
    have HB1 := Lib.hid hb
    clear hb
    obtain ⟨_, _, _, _, _, _, _, _, x8, x9, _, _, _⟩ := (HX.out.next HB1.out).cells
    obtain ⟨_, _, _, _, _, _, _, _, y8, y9, _, _, _⟩ := (HY.out.next HB1.out).cells
    dsimp only at y8 y9
    by_cases hlt : k < x.tn
    · obtain ⟨b, off, u, hu, hta, u0⟩ := ((HA.out.1.2.next HBl.out).next HB1.out).at k (by rw [HT.out]; exact hlt)
      obtain ⟨b2, off2, z, hz, htb, z0⟩ := ((HB.out.1.2.next HBl.out).next HB1.out).at k (by rw [HT.out]; exact hlt)
      obtain rfl : u = z := hu.trans hz.symm
      clear hu hz
      dsimp only at htb
      rw [hta] at x8
      rw [htb] at y8
      clear hta htb
      go_wp2_with fail
      go_quiet (fail)
      go_wp2_with fail
      go_roundw
      case rel => exact ⟨k + 1, by go_num, by omega, HB1.out.trans ⟨rfl, rfl, rfl, Nat.le_refl _, fun _ _ => rfl⟩⟩
      case measure => simp [intOf]; omega
    · go_wp2_with fail
      generalize wr = wq at *
      go_loopw [6] (fun q wr => ∃ k : Nat, q = .int .i64 (k : Int) ∧ k ≤ x.cn ∧ Below W.heap.size W wr) (fun q _ => x.cn - (intOf q).toNat)
      case atStart => exact ⟨0, rfl, Nat.zero_le _, HB1.out⟩
      case round =>
        clear x8 x9 y8 y9 HB1
        obtain ⟨k, rfl, hk, hb⟩ := hrel
        have HB1 := Lib.hid hb
        clear hb
        obtain ⟨_, _, _, _, _, _, _, _, x8, x9, _, _, _⟩ := (HX.out.next HB1.out).cells
        obtain ⟨_, _, _, _, _, _, _, _, y8, y9, _, _, _⟩ := (HY.out.next HB1.out).cells
        dsimp only at y8 y9
        by_cases hlt2 : k < x.cn
        · obtain ⟨b, off, u, hu, hta, u0, u1, u2⟩ := ((HA.out.2.2.next HBl.out).next HB1.out).at k (by rw [HC.out]; exact hlt2)
          obtain ⟨b2, off2, z, hz, htb, z0, z1, z2⟩ := ((HB.out.2.2.next HBl.out).next HB1.out).at k (by rw [HC.out]; exact hlt2)
          obtain rfl : u = z := hu.trans hz.symm
          clear hu hz
          dsimp only at htb
          rw [hta] at x9
          rw [htb] at y9
          clear hta htb
          go_wp2_with fail
          go_quiet (fail)
          go_wp2_with fail
          go_roundw
          case rel => exact ⟨k + 1, by go_num, by omega, HB1.out.trans ⟨rfl, rfl, rfl, Nat.le_refl _, fun _ _ => rfl⟩⟩
          case measure => simp [intOf]; omega
        · go_wp2_with fail
          go_ret
          exact ⟨rfl, below_then' HBl.out HB1.out HBl.out.size⟩
end Go.Proofs.YtbeaaieaffdgeaaDoor
end
/- The laws' same: two pools that are one, but for their addresses, are the same. -/
section
namespace Go.Proofs.YtbeaaieaffdgeaaDoor
open Go.RowKit
set_option linter.unusedVariables false
set_option linter.unusedSimpArgs false

attribute [local go_sem] mana_eq
theorem bareA_twin {z x : Ab} {T T2 : List Int} {C C2 : List Ins} (h : bareA (z, T2, C2) = bareA (x, T, C)) : T2 = T ∧ C2 = C ∧ z.k = x.k ∧ z.ev = x.ev ∧ z.wh = x.wh ∧ z.c0 = x.c0 ∧ z.c1 = x.c1 ∧ z.c2 = x.c2 ∧ z.c3 = x.c3 ∧ z.tap = x.tap ∧ z.op = x.op ∧ z.a = x.a ∧ z.b = x.b := by
  simp only [bareA, Prod.mk.injEq, Ab.mk.injEq] at h
  obtain ⟨⟨h1, h2, h3, h4, h5, h6, h7, h8, _, _, _, _, _, _, h9, h10, h11⟩, h12, h13⟩ := h
  exact ⟨h12, h13, h1, h2, h3, h4, h5, h6, h7, h8, h9, h10, h11⟩
theorem bareC_twin {z y : Cd} {A B : List AbT} (h : bareC (z, B) = bareC (y, A)) : B.map bareA = A.map bareA ∧ z.nm = y.nm ∧ z.k = y.k ∧ z.c0 = y.c0 ∧ z.c1 = y.c1 ∧ z.c2 = y.c2 ∧ z.c3 = y.c3 ∧ z.col = y.col ∧ z.pow = y.pow ∧ z.tou = y.tou ∧ z.keys = y.keys := by
  simp only [bareC, Prod.mk.injEq, Cd.mk.injEq] at h
  obtain ⟨⟨h1, h2, h3, h4, h5, h6, h7, h8, h9, h10, _, _, _⟩, h11⟩ := h
  exact ⟨h11, h1, h2, h3, h4, h5, h6, h7, h8, h9, h10⟩
theorem twin_at {L M : List CdT} (h : M.map bareC = L.map bareC) (k : Nat) (hk : k < L.length) (hm : k < M.length) : bareC M[k] = bareC L[k] := by
  have e : (M.map bareC)[k]? = (L.map bareC)[k]? := by rw [h]
  simpa [List.getElem?_eq_getElem, hk, hm] using e
theorem twinA_at {L M : List AbT} (h : M.map bareA = L.map bareA) (k : Nat) (hk : k < L.length) (hm : k < M.length) : bareA M[k] = bareA L[k] := by
  have e : (M.map bareA)[k]? = (L.map bareA)[k]? := by rw [h]
  simpa [List.getElem?_eq_getElem, hk, hm] using e
set_option maxRecDepth 100000 in
set_option maxHeartbeats 8000000 in
theorem same_any (a : Option Addr) (c : Nat) (L : List CdT) (a2 : Option Addr) (c2 : Nat) (M : List CdT) (n : Nat) (hn : L.length = n) (hLM : M.map bareC = L.map bareC) (w : World) (hp : IsP w a c L) (hq : IsP w a2 c2 M) :
    Calls Tryd.prog 10 #[.slice a n c, .slice a2 n c2] w fun e w' => e = .returned (.bool true) ∧ Below w.heap.size w w' := by
  have hm : M.length = n := by rw [← hn]; simpa using congrArg List.length hLM
  have q1 := hp.1
  have q2 := hp.2.1
  have r1 := hq.1
  have r2 := hq.2.1
  rw [hn] at q1
  rw [hm] at r1
  have HP := Lib.hid hp
  have HQ := Lib.hid hq
  have HN := Lib.hid hn
  have HM := Lib.hid hm
  have HE := Lib.hid hLM
  clear hp hq hn hm hLM
  go_enter Tryd.func10, Tryd.ntmps10
  go_wp2_with fail
  go_loopw [5] (fun q wr => ∃ k : Nat, q = .int .i64 (k : Int) ∧ k ≤ n ∧ Below w.heap.size w wr) (fun q _ => n - (intOf q).toNat)
  case atStart => exact ⟨0, rfl, Nat.zero_le _, Below.refl _ _⟩
  case round =>
    obtain ⟨k, rfl, hk, hb⟩ := hrel
    have HB := Lib.hid hb
    clear hb
    by_cases hlt : k < n
    · obtain ⟨b, off, y, A, hy, hcd, hpa, hbz, y0, y1, y2, y3, y4, y5, y6, y7, y8, y9, y10⟩ := (HP.out.next HB.out).at k (by rw [HN.out]; exact hlt)
      obtain ⟨b2, off2, z, B, hz, hcd2, hpb, hbz2, z0, z1, z2, z3, z4, z5, z6, z7, z8, z9, z10⟩ := (HQ.out.next HB.out).at k (by rw [HM.out]; exact hlt)
      have htw := twin_at HE.out k (by rw [HN.out]; exact hlt) (by rw [HM.out]; exact hlt)
      rw [← hy, ← hz] at htw
      obtain ⟨hAB, e0, e1, e2, e3, e4, e5, e6, e7, e8, e9⟩ := bareC_twin htw
      rw [e0] at z0
      rw [e1] at z1
      rw [e2] at z2
      rw [e3] at z3
      rw [e4] at z4
      rw [e5] at z5
      rw [e6] at z6
      rw [e7] at z7
      rw [e8] at z8
      rw [e9] at z9
      have han : z.an = y.an := by rw [← hcd.1, ← hcd2.1]; simpa using congrArg List.length hAB
      rw [han] at z10
      have HA := Lib.hid hcd
      have HA2 := Lib.hid hcd2
      have HAB := Lib.hid hAB
      have HAn := Lib.hid han
      clear hy hz hcd hcd2 htw hAB han e0 e1 e2 e3 e4 e5 e6 e7 e8 e9
      subst hpa
      subst hpb
      go_upto_region 6 with fail
      go_cut [6, 7] from 20 to 27 (fun p q W => ∃ bx bz : Nat, p = .pointer (some ⟨bx, 0, none⟩) ∧ q = .pointer (some ⟨bz, 0, none⟩) ∧ BlkAt W bx #[.string y.nm, .int .i64 y.k, .int .i64 y.c0, .int .i64 y.c1, .int .i64 y.c2, .int .i64 y.c3, .int .i64 y.col, .int .i64 y.pow, .int .i64 y.tou, .int .i64 y.keys, .slice y.aa y.an y.ac] 39 ∧ BlkAt W bz #[.string y.nm, .int .i64 y.k, .int .i64 y.c0, .int .i64 y.c1, .int .i64 y.c2, .int .i64 y.c3, .int .i64 y.col, .int .i64 y.pow, .int .i64 y.tou, .int .i64 y.keys, .slice z.aa y.an z.ac] 39 ∧ Below wr.heap.size wr W)
      case first =>
        go_region
        · go_wp2_with fail
          go_meet
          exact ⟨wr.heap.size, wr.heap.size + 1, rfl, rfl, blkAt_one wr #[.string y.nm, .int .i64 y.k, .int .i64 y.c0, .int .i64 y.c1, .int .i64 y.c2, .int .i64 y.c3, .int .i64 y.col, .int .i64 y.pow, .int .i64 y.tou, .int .i64 y.keys, .slice y.aa y.an y.ac] 39 _, blkAt_two wr #[.string y.nm, .int .i64 y.k, .int .i64 y.c0, .int .i64 y.c1, .int .i64 y.c2, .int .i64 y.c3, .int .i64 y.col, .int .i64 y.pow, .int .i64 y.tou, .int .i64 y.keys, .slice z.aa y.an z.ac] 39 _, (below_alloc2 wr _ _).trans ⟨rfl, rfl, rfl, Nat.le_refl _, fun _ _ => rfl⟩⟩
        · go_wp2_with fail
          go_meet
          exact ⟨wr.heap.size + 1, wr.heap.size, rfl, rfl, blkAt_two wr #[.string y.nm, .int .i64 y.k, .int .i64 y.c0, .int .i64 y.c1, .int .i64 y.c2, .int .i64 y.c3, .int .i64 y.col, .int .i64 y.pow, .int .i64 y.tou, .int .i64 y.keys, .slice y.aa y.an y.ac] 39 _, blkAt_one wr #[.string y.nm, .int .i64 y.k, .int .i64 y.c0, .int .i64 y.c1, .int .i64 y.c2, .int .i64 y.c3, .int .i64 y.col, .int .i64 y.pow, .int .i64 y.tou, .int .i64 y.keys, .slice z.aa y.an z.ac] 39 _, (below_alloc2 wr _ _).trans ⟨rfl, rfl, rfl, Nat.le_refl _, fun _ _ => rfl⟩⟩
      case rest =>
        obtain ⟨bx, bz, rfl, rfl, hx, hz, hb⟩ := hcut
        have HX := Lib.hid hx
        have HZ := Lib.hid hz
        have HB2 := Lib.hid (below_then' HB.out hb HB.out.size)
        have HBw := Lib.hid hb
        clear hx hz hb y0 y1 y2 y3 y4 y5 y6 y7 y8 y9 y10 z0 z1 z2 z3 z4 z5 z6 z7 z8 z9 z10
        obtain ⟨⟨x0, x1, x2, x3, x4, x5, x6, x7, x8, x9, x10⟩, _⟩ := HX.out.cells11
        obtain ⟨⟨z0, z1, z2, z3, z4, z5, z6, z7, z8, z9, z10⟩, _⟩ := HZ.out.cells11
        go_wp2_with fail
        clear x0 x1 x2 x3 x4 x5 x6 x7 x8 x9 z0 z1 z2 z3 z4 z5 z6 z7 z8 z9
        go_loopw [8] (fun q ws => ∃ j : Nat, q = .int .i64 (j : Int) ∧ j ≤ y.an ∧ Below wc.heap.size wc ws) (fun q _ => y.an - (intOf q).toNat)
        case atStart => exact ⟨0, rfl, Nat.zero_le _, Below.refl _ _⟩
        case round =>
          clear x10 z10
          obtain ⟨j, rfl, hj, hb⟩ := hrel
          rename World => ws
          have HC := Lib.hid hb
          clear hb
          obtain ⟨⟨_, _, _, _, _, _, _, _, _, _, x10⟩, _⟩ := (HX.out.next HC.out).cells11
          obtain ⟨⟨_, _, _, _, _, _, _, _, _, _, z10⟩, _⟩ := (HZ.out.next HC.out).cells11
          by_cases hlj : j < y.an
          · obtain ⟨ab, aoff, x, T, C, hxx, hax, hta, hbl, m0, m1, m2, m3, m4, m5, m6, m7, m8, m9, m10, m11, m12⟩ := ((HA.out.2.next HBw.out).next HC.out).at j (by rw [HA.out.1]; exact hlj)
            obtain ⟨ab2, aoff2, v, T2, C2, hvv, hav, htb, hbl2, n0, n1, n2, n3, n4, n5, n6, n7, n8, n9, n10, n11, n12⟩ := ((HA2.out.2.next HBw.out).next HC.out).at j (by rw [HA2.out.1, HAn.out]; exact hlj)
            have htw := twinA_at HAB.out j (by rw [HA.out.1]; exact hlj) (by rw [HA2.out.1, HAn.out]; exact hlj)
            rw [← hxx, ← hvv] at htw
            obtain ⟨rfl, rfl, t0, t1, t2, t3, t4, t5, t6, t7, t8, t9, t10⟩ := bareA_twin htw
            have t11 : v.tn = x.tn := by rw [← hav.1.1, ← hax.1.1]
            have t12 : v.cn = x.cn := by rw [← hav.2.1, ← hax.2.1]
            have hv : v = { x with ta := v.ta, tc := v.tc, ca := v.ca, cc := v.cc } := by
              obtain ⟨⟩ := v
              obtain ⟨⟩ := x
              simp only at t0 t1 t2 t3 t4 t5 t6 t7 t8 t9 t10 t11 t12
              subst t0 t1 t2 t3 t4 t5 t6 t7 t8 t9 t10 t11 t12
              rfl
            generalize v.ta = vta at hv
            generalize v.tc = vtc at hv
            generalize v.ca = vca at hv
            generalize v.cc = vcc at hv
            subst hv
            dsimp only at n0 n1 n2 n3 n4 n5 n6 n7 n8 n9 n10 n11 n12
            have HAX := Lib.hid hax
            have HAV := Lib.hid hav
            clear hxx hvv hax hav htw t0 t1 t2 t3 t4 t5 t6 t7 t8 t9 t10 t11 t12
            rw [hta] at x10
            rw [htb] at z10
            clear hta htb
            go_upto_region 12 with fail
            go_cut [102] from 91 to 101 (fun q W => q = .bool false ∧ Below ws.heap.size ws W)
            case first =>
              have hcall := alike_any x vta vca vtc vcc T2 C2 ws.drew (HAX.out.next ⟨rfl, rfl, rfl, Nat.le_refl _, fun _ _ => rfl⟩) (HAV.out.next ⟨rfl, rfl, rfl, Nat.le_refl _, fun _ _ => rfl⟩)
              go_region_with (go_at_call 23; with_reducible refine hcall.mono ?_; rintro e w1 ⟨rfl, hb⟩)
              all_goals
                rename World => w1
                have hb2 : Below ws.heap.size ws w1 := below_then' (show Below ws.heap.size ws ws.drew from ⟨rfl, rfl, rfl, Nat.le_refl _, fun _ _ => rfl⟩) (by assumption) (Nat.le_refl _)
                go_wp2_with fail
                go_meet
                exact ⟨rfl, hb2⟩
            case rest =>
              obtain ⟨rfl, hb⟩ := hcut
              have hya : y.an ≤ y.ac := by have := HA.out.2.1; rw [HA.out.1] at this; exact this
              have hyc : y.ac ≤ 9223372036854775807 := HA.out.2.2.1
              have HC2 := Lib.hid (below_then' HC.out hb HC.out.size)
              clear hb
              go_wp2_with fail
              exact ⟨⟨j + 1, by go_num, by omega, HC2.out⟩, by simp [intOf]; omega⟩
          · go_wp2_with fail
            exact ⟨⟨k + 1, by go_num, by omega, below_then' HB2.out HC.out HB2.out.size⟩, by simp [intOf]; omega⟩
    · go_wp2_with fail
      go_ret
      exact ⟨rfl, HB.out⟩
end Go.Proofs.YtbeaaieaffdgeaaDoor
end
/- PoolCut: no beginning of a pool's bytes is one's, and nothing may stand behind them. -/
section
namespace Go.Proofs.YtbeaaieaffdgeaaDoor
open Go.RowKit
set_option linter.unusedVariables false
set_option linter.unusedSimpArgs false

theorem bnd_pcd {L : List CdT} (h : PlBnd L) : PCd L := fun c hc => (h.2 c hc).1
theorem bnd_64 {L : List CdT} (h : PlBnd L) : ∀ c ∈ L, CdT64 c := fun c hc => (h.2 c hc).2.1
theorem encS_good {L : List CdT} (h : chkP L = 0) : encS L = poolB L ByteArray.empty := by unfold encS; rw [if_pos h]
theorem poolB_pos {L : List CdT} {w : World} (h : chkP L = 0) (h64 : ∀ c ∈ L, CdT64 c) (hr : ∀ c ∈ L, CdR w c.1 c.2) : 0 < (poolB L ByteArray.empty).size := by
  rcases Nat.eq_zero_or_pos (poolB L ByteArray.empty).size with h0 | h0
  · exfalso
    have e : poolB L ByteArray.empty = ByteArray.empty := by simpa using h0
    have hp := pPool_put L (pool_ok L h h64).2.2 ByteArray.empty
    rw [e] at hp
    exact pool_none _ hp ((chkP_bare L hr).trans h)
  · exact h0
set_option maxRecDepth 100000 in
set_option maxHeartbeats 4000000 in
theorem walk_PoolCut (a : Option Addr) (c : Nat) (L : List CdT) (n : Nat) (hn : L.length = n) (k : Nat) (hk : k < 65536) (bh : ByteArray) (hb64 : bh.size ≤ maxLen) (hok : PCd L) (h64 : ∀ c ∈ L, CdT64 c) (w : World) (hp : IsP w a c L) (hT : Tabs w) :
    Calls Tryd.prog 4 #[.slice a n c, .int .u16 (k : Int), .string bh] w fun e w' => e = .returned (.bool true) ∧ Below w.heap.size w w' := by
  have HP := Lib.hid hp
  have HO := Lib.hid hok
  have H64 := Lib.hid h64
  have HTb := Lib.hid hT
  have HN := Lib.hid hn
  clear hp hok h64 hT hn
  go_enter Tryd.func4, Tryd.ntmps4
  go_wp2_with fail
  refine (works_any _ HTb.out).mono ?_
  rintro e w1 ⟨rfl, hb⟩
  have HB1 := Lib.hid hb
  clear hb
  go_wp2_with fail
  refine (cut_any a c L n HN.out HO.out H64.out _ (HP.out.next HB1.out)).mono ?_
  rintro e w2 ⟨M, a2, c2, rfl, hI, hbd, hb⟩
  have HB2 := Lib.hid (below_then' HB1.out hb HB1.out.size)
  have HI := Lib.hid hI
  have HBd := Lib.hid hbd
  obtain ⟨m, hm⟩ : ∃ m, M.length = m := ⟨_, rfl⟩
  have HM := Lib.hid hm
  obtain ⟨r, hr⟩ : ∃ r, chkP M = r := ⟨_, rfl⟩
  have HR := Lib.hid hr
  obtain ⟨s, hs⟩ : ∃ s, encS M = s := ⟨_, rfl⟩
  have HS := Lib.hid hs
  rw [hm]
  clear hb hI hbd HP HO H64 HN hm hr hs HB1
  go_wp2_with fail
  refine (encode_any a2 c2 M m HM.out r HR.out s HS.out (bnd_pcd HBd.out) (bnd_64 HBd.out) _ HI.out (HTb.out.next HB2.out)).mono ?_
  rintro e w3 ⟨rfl, hb⟩
  have HB3 := Lib.hid (below_then' HB2.out hb HB2.out.size)
  clear hb HB2
  have hr0 := HI.out.2.2.1
  by_cases hz : r = 0
  · subst hz
    have hsz := poolB_pos HR.out (bnd_64 HBd.out) hr0
    rw [← encS_good HR.out, HS.out] at hsz
    have hne : ((s.size : Int) == 0) = false := by rw [beq_eq_false_iff_ne]; omega
    have hne' : ¬ s = ByteArray.empty := by intro h; rw [h] at hsz; exact absurd hsz (by decide)
    have hrem : 0 ≤ (k : Int) % (s.size : Int) ∧ (k : Int) % (s.size : Int) ≤ (s.size : Int) := by
      refine ⟨Int.emod_nonneg _ (by omega), ?_⟩
      have := Int.emod_lt_of_pos (k : Int) (show (0 : Int) < s.size by omega)
      omega
    have hPs := encS_good HR.out
    rw [HS.out] at hPs
    have hss : s.size ≤ 2000000 := by
      have := poolB_size M (pool_ok M HR.out (bnd_64 HBd.out)).2.2 ByteArray.empty
      rw [← hPs] at this
      simpa using this
    have HPs := Lib.hid hPs
    have HSS := Lib.hid hss
    have HSZ := Lib.hid hsz
    have hkm : k % s.size < s.size := Nat.mod_lt _ hsz
    have HKM := Lib.hid hkm
    clear hr0 hPs hss hkm
    go_wp2_with fail
    clear hrem
    refine (decode_any _ (by have := HSS.out; rw [ByteArray.size_extract]; omega) _ (HTb.out.next HB3.out)).mono ?_
    intro e w4 hd
    obtain ⟨hb, rfl⟩ := dec_bad hd (no_less HR.out (bnd_64 HBd.out) _ (s.extract (k % s.size) s.size) (by
      have := HKM.out
      rw [← HPs.out, ByteArray.extract_append_extract]
      simp) (by
      have := HKM.out
      intro h
      have h2 := congrArg ByteArray.size h
      rw [ByteArray.size_extract] at h2
      simp at h2
      omega))
    have HB4 := Lib.hid (below_then' HB3.out hb HB3.out.size)
    clear hb hd HB3
    have hov : ¬ (9223372036854775807 < s.size + min (min (bh.size : Int) 100).toNat bh.size) := by have := HSS.out; omega
    go_wp2_with fail
    · refine bodyPost_ret (v := .bool true) (by simp [results, Tryd.results4, go_sem]) rfl ?_
      exact ⟨rfl, HB4.out⟩
    · have hem : bh.toList.isEmpty = false := by assumption
      clear hov
      refine (decode_any _ (by have := HSS.out; rw [ByteArray.size_append, ByteArray.size_extract]; omega) _ (HTb.out.next HB4.out)).mono ?_
      intro e w5 hd
      rw [HPs.out, ← poolB_fore] at hd
      obtain ⟨hb, rfl⟩ := dec_bad hd (no_more HR.out (bnd_64 HBd.out) _ (by
        intro h
        have h2 := congrArg ByteArray.size h
        rw [ByteArray.size_extract] at h2
        rw [show ByteArray.empty.size = 0 from rfl] at h2
        have h3 : bh.size = 0 := by omega
        have h4 : bh = ByteArray.empty := by simpa using h3
        rw [h4] at hem
        exact absurd hem (by decide +kernel)))
      have HB5 := Lib.hid (below_then' HB4.out hb HB4.out.size)
      clear hb hd HB4
      go_wp2_with fail
      refine bodyPost_ret (v := .bool true) (by simp [results, Tryd.results4, go_sem]) rfl ?_
      exact ⟨rfl, HB5.out⟩
  · clear hr0
    have hzb : (r != 0) = true := by simpa using hz
    go_wp2_with fail
    refine bodyPost_ret (v := .bool true) (by simp [results, Tryd.results4, go_sem]) rfl ?_
    exact ⟨rfl, HB3.out⟩
end Go.Proofs.YtbeaaieaffdgeaaDoor
end
/- PoolBack: a pool comes back from its bytes; and bytes that are taken are laid again just so. (Written by gen6zb.py.) -/
section
namespace Go.Proofs.YtbeaaieaffdgeaaDoor
open Go.RowKit
set_option linter.unusedVariables false
set_option linter.unusedSimpArgs false

theorem unbare64 {w : World} {c : CdT} (h : CdT64 (bareC c)) (hr : CdR w c.1 c.2) : CdT64 c := by
  refine ⟨hr.1, fun t ht => ?_⟩
  obtain ⟨h1, h2, h3, h4, h5⟩ := h.2 (bareA t) (List.mem_map_of_mem ht)
  have ha := hr.2.2.2.1 t ht
  exact ⟨ha.1.1, ha.2.1, h3, h4, h5⟩
set_option maxRecDepth 100000 in
set_option maxHeartbeats 8000000 in
theorem walk_PoolBack (a : Option Addr) (c : Nat) (L : List CdT) (n : Nat) (hn : L.length = n) (sx : ByteArray) (hsx : sx.size ≤ maxLen) (hok : PCd L) (h64 : ∀ c ∈ L, CdT64 c) (w : World) (hp : IsP w a c L) (hT : Tabs w) :
    Calls Tryd.prog 3 #[.slice a n c, .string sx] w fun e w' => e = .returned (.bool true) ∧ Below w.heap.size w w' := by
  have HP := Lib.hid hp
  have HO := Lib.hid hok
  have H64 := Lib.hid h64
  have HTb := Lib.hid hT
  have HN := Lib.hid hn
  clear hp hok h64 hT hn
  go_enter Tryd.func3, Tryd.ntmps3
  go_wp2_with fail
  refine (works_any _ HTb.out).mono ?_
  rintro e w1 ⟨rfl, hb⟩
  have HB1 := Lib.hid hb
  clear hb
  go_wp2_with fail
  refine (cut_any a c L n HN.out HO.out H64.out _ (HP.out.next HB1.out)).mono ?_
  rintro e w2 ⟨M, a2, c2, rfl, hI, hbd, hb⟩
  have HB2 := Lib.hid (below_then' HB1.out hb HB1.out.size)
  have HI := Lib.hid hI
  have HBd := Lib.hid hbd
  obtain ⟨m, hm⟩ : ∃ m, M.length = m := ⟨_, rfl⟩
  have HM := Lib.hid hm
  obtain ⟨r, hr⟩ : ∃ r, chkP M = r := ⟨_, rfl⟩
  have HR := Lib.hid hr
  obtain ⟨s, hs⟩ : ∃ s, encS M = s := ⟨_, rfl⟩
  have HS := Lib.hid hs
  rw [hm]
  clear hb hI hbd HP HO H64 HN hm hr hs HB1
  go_wp2_with fail
  refine (encode_any a2 c2 M m HM.out r HR.out s HS.out (bnd_pcd HBd.out) (bnd_64 HBd.out) _ HI.out (HTb.out.next HB2.out)).mono ?_
  rintro e w3 ⟨rfl, hb⟩
  have HB3 := Lib.hid (below_then' HB2.out hb HB2.out.size)
  have HI3 := Lib.hid (HI.out.next hb)
  clear hb HB2 HI
  by_cases hz : r = 0
  · subst hz
    have hPs := encS_good HR.out
    rw [HS.out] at hPs
    have hss : s.size ≤ 2000000 := by
      have := poolB_size M (pool_ok M HR.out (bnd_64 HBd.out)).2.2 ByteArray.empty
      rw [← hPs] at this
      simpa using this
    have HPs := Lib.hid hPs
    have HSS := Lib.hid hss
    clear hPs hss
    go_wp2_with fail
    refine (decode_any _ (by have := HSS.out; omega) _ (HTb.out.next HB3.out)).mono ?_
    intro e w4 hd
    rw [HPs.out] at hd
    obtain ⟨hb, M2, a4, c4, hm2, rfl, hI4, hP4⟩ := dec_good hd HR.out (bnd_64 HBd.out) HI3.out.2.2.1
    have hr2 := hI4.2.2.1
    have h642 : ∀ c ∈ M2, CdT64 c := fun c hc => by
      have h1 : bareC c ∈ M.map bareC := by rw [← hm2]; exact List.mem_map_of_mem hc
      obtain ⟨d, hd1, hd2⟩ := List.mem_map.1 h1
      exact unbare64 (by rw [← hd2]; exact cd64_bare (bnd_64 HBd.out d hd1)) (hr2 c hc)
    have hc2 : chkP M2 = 0 := by rw [← chkP_bare M2 hr2, hm2, chkP_bare M HI3.out.2.2.1]; exact HR.out
    have he2 : encS M2 = s := by rw [encS_good hc2, ← poolB_bare, hm2, poolB_bare]; exact HPs.out.symm
    have hl2 : M2.length = m := by rw [← HM.out]; simpa using congrArg List.length hm2
    have HB4 := Lib.hid (below_then' HB3.out hb HB3.out.size)
    have HI5 := Lib.hid (HI3.out.next hb)
    have HI4 := Lib.hid hI4
    have HP4 := Lib.hid hP4
    have HM2 := Lib.hid hm2
    have HL2 := Lib.hid hl2
    have HC2 := Lib.hid hc2
    have HE2 := Lib.hid he2
    have H642 := Lib.hid h642
    rw [hl2]
    clear hb hd hI4 hP4 hm2 hl2 hc2 he2 h642 hr2 HB3 HI3
    go_wp2_with fail
    refine (encode_any a4 c4 M2 m HL2.out 0 HC2.out s HE2.out HP4.out H642.out _ HI4.out (HTb.out.next HB4.out)).mono ?_
    rintro e w5 ⟨rfl, hb⟩
    have HB5 := Lib.hid (below_then' HB4.out hb HB4.out.size)
    have HI6 := Lib.hid (HI5.out.next hb)
    have HI7 := Lib.hid (HI4.out.next hb)
    clear hb HB4 HI5 HI4 HP4 H642 HE2 HC2
    have hse : (s.toList == s.toList) = true := by simp
    go_wp2_with fail
    refine (same_any a2 c2 M a4 c4 M2 m HM.out HM2.out _ HI6.out HI7.out).mono ?_
    rintro e w6 ⟨rfl, hb⟩
    have HB6 := Lib.hid (below_then' HB5.out hb HB5.out.size)
    clear hb HB5 HI6 HI7 hse
    have hov0 : 0 ≤ min (sx.size : Int) 6000 := by omega
    have hov1 : min (sx.size : Int) 6000 ≤ (sx.size : Int) := by omega
    go_wp2_with fail
    clear hov0 hov1
    refine (decode_any _ (by rw [ByteArray.size_extract]; omega) _ (HTb.out.next HB6.out)).mono ?_
    intro e w9 hd
    obtain ⟨sy, hsy⟩ : ∃ sy, sx.extract 0 (min (sx.size : Int) 6000).toNat = sy := ⟨_, rfl⟩
    rw [hsy] at hd
    simp only [hsy]
    clear hsy
    obtain ⟨hb9, hd⟩ := hd
    have HB9 := Lib.hid (below_then' HB6.out hb9 HB6.out.size)
    clear hb9
    rcases hd with ⟨L3, hp3, hk3, M3, a3, c3, hm3, rfl, hI3, hP3⟩ | ⟨_, rfl⟩
    · have hr3 := hI3.2.2.1
      have hps := pool_sound hp3
      have h643 : ∀ c ∈ M3, CdT64 c := fun c hc => unbare64 (hps.2 (bareC c) (by rw [← hm3]; exact List.mem_map_of_mem hc)).1 (hr3 c hc)
      have hc3 : chkP M3 = 0 := by rw [← chkP_bare M3 hr3, hm3]; exact hk3
      have he3 : encS M3 = sy := by rw [encS_good hc3, ← poolB_bare, hm3]; exact hps.1.symm
      have HI3 := Lib.hid hI3
      have HC3 := Lib.hid hc3
      have HE3 := Lib.hid he3
      have HP3 := Lib.hid hP3
      have H643 := Lib.hid h643
      obtain ⟨m3, hm3'⟩ : ∃ m3, M3.length = m3 := ⟨_, rfl⟩
      have HM3 := Lib.hid hm3'
      rw [hm3']
      clear hr3 hps h643 hc3 he3 hI3 hP3 hp3 hk3 hm3 hm3'
      go_wp2_with fail
      refine (encode_any a3 c3 M3 m3 HM3.out 0 HC3.out sy HE3.out HP3.out H643.out _ HI3.out (HTb.out.next HB9.out)).mono ?_
      rintro e w10 ⟨rfl, hb⟩
      have HB10 := Lib.hid (below_then' HB9.out hb HB9.out.size)
      have HI4 := Lib.hid (HI3.out.next hb)
      clear hb HB9 HI3
      have hse : (sy.toList == sy.toList) = true := by simp
      go_wp2_with fail
      refine (pCheck_any a3 c3 M3 m3 HM3.out 0 HC3.out HP3.out _ HI4.out (HTb.out.next HB10.out)).mono ?_
      rintro e w11 ⟨rfl, hb⟩
      have HB11 := Lib.hid (below_then' HB10.out hb HB10.out.size)
      clear hb HB10 HI4
      go_wp2_with fail
      refine bodyPost_ret (v := .bool true) (by simp [results, Tryd.results3, go_sem]) rfl ?_
      exact ⟨rfl, HB11.out⟩
    · go_wp2_with fail
      refine bodyPost_ret (v := .bool true) (by simp [results, Tryd.results3, go_sem]) rfl ?_
      exact ⟨rfl, HB9.out⟩
  · have hs0 : s = ⟨#[]⟩ := by rw [← HS.out]; unfold encS; rw [if_neg (by rw [HR.out]; exact hz)]
    have hzb : (r == 0) = false := by simpa using hz
    subst hs0
    go_wp2_with fail
    refine (pCheck_any a2 c2 M m HM.out r HR.out (bnd_pcd HBd.out) _ HI3.out (HTb.out.next HB3.out)).mono ?_
    rintro e w6 ⟨rfl, hb⟩
    have HB6 := Lib.hid (below_then' HB3.out hb HB3.out.size)
    clear hb HB3 HI3
    have hov0 : 0 ≤ min (sx.size : Int) 6000 := by omega
    have hov1 : min (sx.size : Int) 6000 ≤ (sx.size : Int) := by omega
    go_wp2_with fail
    clear hov0 hov1
    refine (decode_any _ (by rw [ByteArray.size_extract]; omega) _ (HTb.out.next HB6.out)).mono ?_
    intro e w9 hd
    obtain ⟨sy, hsy⟩ : ∃ sy, sx.extract 0 (min (sx.size : Int) 6000).toNat = sy := ⟨_, rfl⟩
    rw [hsy] at hd
    simp only [hsy]
    clear hsy
    obtain ⟨hb9, hd⟩ := hd
    have HB9 := Lib.hid (below_then' HB6.out hb9 HB6.out.size)
    clear hb9
    rcases hd with ⟨L3, hp3, hk3, M3, a3, c3, hm3, rfl, hI3, hP3⟩ | ⟨_, rfl⟩
    · have hr3 := hI3.2.2.1
      have hps := pool_sound hp3
      have h643 : ∀ c ∈ M3, CdT64 c := fun c hc => unbare64 (hps.2 (bareC c) (by rw [← hm3]; exact List.mem_map_of_mem hc)).1 (hr3 c hc)
      have hc3 : chkP M3 = 0 := by rw [← chkP_bare M3 hr3, hm3]; exact hk3
      have he3 : encS M3 = sy := by rw [encS_good hc3, ← poolB_bare, hm3]; exact hps.1.symm
      have HI3 := Lib.hid hI3
      have HC3 := Lib.hid hc3
      have HE3 := Lib.hid he3
      have HP3 := Lib.hid hP3
      have H643 := Lib.hid h643
      obtain ⟨m3, hm3'⟩ : ∃ m3, M3.length = m3 := ⟨_, rfl⟩
      have HM3 := Lib.hid hm3'
      rw [hm3']
      clear hr3 hps h643 hc3 he3 hI3 hP3 hp3 hk3 hm3 hm3'
      go_wp2_with fail
      refine (encode_any a3 c3 M3 m3 HM3.out 0 HC3.out sy HE3.out HP3.out H643.out _ HI3.out (HTb.out.next HB9.out)).mono ?_
      rintro e w10 ⟨rfl, hb⟩
      have HB10 := Lib.hid (below_then' HB9.out hb HB9.out.size)
      have HI4 := Lib.hid (HI3.out.next hb)
      clear hb HB9 HI3
      have hse : (sy.toList == sy.toList) = true := by simp
      go_wp2_with fail
      refine (pCheck_any a3 c3 M3 m3 HM3.out 0 HC3.out HP3.out _ HI4.out (HTb.out.next HB10.out)).mono ?_
      rintro e w11 ⟨rfl, hb⟩
      have HB11 := Lib.hid (below_then' HB10.out hb HB10.out.size)
      clear hb HB10 HI4
      go_wp2_with fail
      refine bodyPost_ret (v := .bool true) (by simp [results, Tryd.results3, go_sem]) rfl ?_
      exact ⟨rfl, HB11.out⟩
    · go_wp2_with fail
      refine bodyPost_ret (v := .bool true) (by simp [results, Tryd.results3, go_sem]) rfl ?_
      exact ⟨rfl, HB9.out⟩
end Go.Proofs.YtbeaaieaffdgeaaDoor
end
/- PoolKnown: its cards. -/
section
namespace Go.Proofs.YtbeaaieaffdgeaaDoor
open Go.RowKit
set_option linter.unusedVariables false
set_option linter.unusedSimpArgs false

abbrev aNm : ByteArray := ⟨#[97]⟩
abbrev cubC : Cd := ⟨⟨#[99, 117, 98]⟩, 2, 1, 0, 0, 2, 0, 3, 4, 65, none, 0, 0⟩
abbrev mkA (t c : Nat) : Ab := ⟨1, 0, 0, 0, 0, 0, 0, false, some ⟨t, 0, none⟩, 1, 1, some ⟨c, 0, none⟩, 2, 2, 0, 0, 0⟩
abbrev mkT (t c : Nat) : AbT := (mkA t c, [2], [⟨1, -2, 0⟩, ⟨21, 0, 1⟩])
abbrev mkC (a : Nat) : Cd := ⟨⟨#[109, 97, 107, 101, 114]⟩, 3, 0, 0, 0, 0, 0, 0, 0, 0, some ⟨a, 0, none⟩, 1, 1⟩
abbrev oddA (c : Nat) : Ab := ⟨1, 0, 0, 0, 0, 0, 0, false, none, 0, 0, some ⟨c, 0, none⟩, 1, 1, 0, 0, 0⟩
abbrev oddT (c : Nat) : AbT := (oddA c, [], [⟨21, 3, 0⟩])
abbrev noC : Cd := ⟨ByteArray.empty, 0, 0, 0, 0, 0, 0, 0, 0, 0, none, 0, 0⟩
abbrev goodL (t c a : Nat) : List CdT := [landT aNm, (cubC, []), (mkC a, [mkT t c])]
abbrev oddL (c a : Nat) : List CdT := [landT aNm, (cubC, []), (mkC a, [oddT c])]
abbrev bothL : List CdT := [landT aNm, landT aNm, (noC, [])]
def wantS : ByteArray := ⟨#[3, 1, 97, 1, 0, 0, 0, 0, 1, 0, 0, 0, 0, 3, 99, 117, 98, 2, 1, 0, 0, 2, 0, 3, 4, 65, 0, 5, 109, 97, 107, 101, 114, 3, 0, 0, 0, 0, 0, 0, 0, 0, 1, 1, 0, 0, 0, 0, 0, 0, 0, 1, 2, 2, 1, 3, 0, 21, 0, 2, 0, 0, 0]⟩
theorem chk_both : chkP bothL = 10 := by decide +kernel
theorem chk_40 : chkP (landsL 40) = 0 := by decide +kernel
theorem chk_good (t c a : Nat) : chkP (goodL t c a) = 0 := by kernel_rfl
theorem chk_odd (c a : Nat) : chkP (oddL c a) = 10 := by kernel_rfl
theorem enc_odd (c a : Nat) : encS (oddL c a) = ⟨#[]⟩ := by unfold encS; rw [chk_odd]; rfl
theorem enc_good0 : poolB (goodL 0 0 0) ByteArray.empty = wantS := by decide +kernel
theorem enc_good (t c a : Nat) : encS (goodL t c a) = wantS := by
  rw [encS_good (chk_good t c a), ← enc_good0]
  rfl
theorem in64_of (i : Int) (h : -1000 ≤ i ∧ i ≤ 1000) : In64 i := by unfold In64; omega
theorem nm_ok (nm : ByteArray) (h : nm.size ≤ 1000) : nm.size ≤ maxLen := by unfold maxLen; omega
theorem in64_0 : In64 0 := in64_of 0 (by decide)
theorem good_pcd (t c a : Nat) : PCd (goodL t c a) := by
  intro p hp
  simp only [List.mem_cons, List.not_mem_nil, or_false] at hp
  rcases hp with rfl | rfl | rfl
  · exact land_pcd _ (by decide)
  · exact ⟨nm_ok _ (by decide), in64_of _ (by decide)⟩
  · exact ⟨nm_ok ⟨#[109, 97, 107, 101, 114]⟩ (by decide), in64_0⟩
theorem odd_pcd (c a : Nat) : PCd (oddL c a) := by
  intro p hp
  simp only [List.mem_cons, List.not_mem_nil, or_false] at hp
  rcases hp with rfl | rfl | rfl
  · exact land_pcd _ (by decide)
  · exact ⟨nm_ok _ (by decide), in64_of _ (by decide)⟩
  · exact ⟨nm_ok ⟨#[109, 97, 107, 101, 114]⟩ (by decide), in64_0⟩
theorem both_pcd : PCd bothL := by
  intro p hp
  simp only [List.mem_cons, List.not_mem_nil, or_false] at hp
  rcases hp with rfl | rfl | rfl
  · exact land_pcd _ (by decide)
  · exact land_pcd _ (by decide)
  · exact ⟨nm_ok _ (by decide), in64_of _ (by decide)⟩
theorem good_64 (t c a : Nat) : ∀ p ∈ goodL t c a, CdT64 p := by
  intro p hp
  simp only [List.mem_cons, List.not_mem_nil, or_false] at hp
  rcases hp with rfl | rfl | rfl
  · exact land_64 _
  · exact ⟨rfl, fun t ht => by cases ht⟩
  · refine ⟨rfl, fun q hq => ?_⟩
    rw [List.mem_singleton.1 hq]
    refine ⟨rfl, rfl, in64_0, in64_0, fun i hi => ?_⟩
    simp only [List.mem_cons, List.not_mem_nil, or_false] at hi
    rcases hi with rfl | rfl <;> exact ⟨in64_of _ (by decide), in64_of _ (by decide)⟩
theorem odd_64 (c a : Nat) : ∀ p ∈ oddL c a, CdT64 p := by
  intro p hp
  simp only [List.mem_cons, List.not_mem_nil, or_false] at hp
  rcases hp with rfl | rfl | rfl
  · exact land_64 _
  · exact ⟨rfl, fun t ht => by cases ht⟩
  · refine ⟨rfl, fun q hq => ?_⟩
    rw [List.mem_singleton.1 hq]
    refine ⟨rfl, rfl, in64_0, in64_0, fun i hi => ?_⟩
    simp only [List.mem_cons, List.not_mem_nil, or_false] at hi
    subst hi
    exact ⟨in64_of _ (by decide), in64_of _ (by decide)⟩
/-- A block as a row. -/
theorem blk_row {w : World} {b n k : Nat} {cs : Array Value} {T : TypeId} (h : w.heap[b]? = some (.cells cs T (0, 0))) (hn : n ≤ 1000) : Row w (some ⟨b, 0, none⟩) n k n cs.toList :=
  ⟨Nat.le_refl _, by omega, .inr ⟨b, 0, rfl, (Array.getElem?_eq_some_iff.1 h).1, fun i hi => by rw [Nat.zero_add, cell_of_row w b i cs T (0, 0) h]; simp⟩⟩
theorem blk_code {w : World} {b n : Nat} {cs : Array Value} {T : TypeId} (L : List Ins) (h : w.heap[b]? = some (.cells cs T (0, 0))) (hL : L.length = n) (hn : n ≤ 1000)
    (hc : ∀ j (hj : j < L.length), cs[j * 3]? = some (.int .i64 L[j].op) ∧ cs[j * 3 + 1]? = some (.int .i64 L[j].a) ∧ cs[j * 3 + 2]? = some (.int .i64 L[j].b)) : IsC w (some ⟨b, 0, none⟩) n L := by
  refine ⟨by omega, by omega, .inr ⟨b, 0, rfl, (Array.getElem?_eq_some_iff.1 h).1, fun j hj => ?_⟩⟩
  obtain ⟨h0, h1, h2⟩ := hc j hj
  simp only [Nat.zero_add]
  exact ⟨(cell_of_row w b _ cs T (0, 0) h).trans h0, (cell_of_row w b _ cs T (0, 0) h).trans h1, (cell_of_row w b _ cs T (0, 0) h).trans h2⟩
theorem maker_r {w : World} {t c a : Nat} (h1 : BlkAt w t #[.int .i64 2] 3) (h2 : BlkAt w c #[.int .i64 1, .int .i64 (-2), .int .i64 0, .int .i64 21, .int .i64 0, .int .i64 1] 42) (h3 : BlkAt w a #[.int .i64 1, .int .i64 0, .int .i64 0, .int .i64 0, .int .i64 0, .int .i64 0, .int .i64 0, .bool false, .slice (some ⟨t, 0, none⟩) 1 1, .slice (some ⟨c, 0, none⟩) 2 2, .int .i64 0, .int .i64 0, .int .i64 0] 45) : CdR w (mkC a) [mkT t c] := by
  refine ⟨rfl, isA_row rfl (fun p hp => ?_) (blk_row h3 (Nat.le_of_ble_eq_true rfl))⟩
  rw [List.mem_singleton.1 hp]
  refine ⟨⟨rfl, isL_row rfl (blk_row h1 (Nat.le_of_ble_eq_true rfl))⟩, rfl, blk_code _ h2 rfl (Nat.le_of_ble_eq_true rfl) fun j hj => ?_⟩
  match j, hj with
  | 0, _ => exact ⟨rfl, rfl, rfl⟩
  | 1, _ => exact ⟨rfl, rfl, rfl⟩
theorem odd_r {w : World} {c a : Nat} (h2 : BlkAt w c #[.int .i64 21, .int .i64 3, .int .i64 0] 42) (h3 : BlkAt w a #[.int .i64 1, .int .i64 0, .int .i64 0, .int .i64 0, .int .i64 0, .int .i64 0, .int .i64 0, .bool false, .slice none 0 0, .slice (some ⟨c, 0, none⟩) 1 1, .int .i64 0, .int .i64 0, .int .i64 0] 45) : CdR w (mkC a) [oddT c] := by
  refine ⟨rfl, isA_row rfl (fun p hp => ?_) (blk_row h3 (Nat.le_of_ble_eq_true rfl))⟩
  rw [List.mem_singleton.1 hp]
  refine ⟨⟨rfl, IsL.nil w⟩, rfl, blk_code _ h2 rfl (Nat.le_of_ble_eq_true rfl) fun j hj => ?_⟩
  match j, hj with
  | 0, _ => exact ⟨rfl, rfl, rfl⟩
end Go.Proofs.YtbeaaieaffdgeaaDoor
end
/- PoolKnown: what a store into a card of its own leaves of a pool that was read. -/
section
namespace Go.Proofs.YtbeaaieaffdgeaaDoor
open Go.RowKit
set_option linter.unusedVariables false
set_option linter.unusedSimpArgs false

/-- W is w but for block b. -/
def But (b : Nat) (w W : World) : Prop := W.heap.size = w.heap.size ∧ ∀ k o, k ≠ b → W.cell? ⟨k, o, none⟩ = w.cell? ⟨k, o, none⟩
theorem but_set (w : World) (b i : Nat) (v : Value) : But b w (w.setCell ⟨b, i, none⟩ v) := by
  refine ⟨by simp [World.setCell], fun k o hk => ?_⟩
  exact World.cell?_of_block (w := w) (Below.heap_setCell w ⟨b, i, none⟩ v k (by show k ≠ b; exact hk))
theorem kept_L {w W : World} {b : Nat} {cs : Array Value} {T : TypeId} {a : Option Addr} {c : Nat} {L : List Int} (h : IsL w a c L) (hb : BlkAt w b cs T) (hW : But b w W) (hn : ∀ x ∈ L, ∀ i : Nat, cs[i]? ≠ some (Value.int .i64 x)) : IsL W a c L := by
  obtain ⟨h1, h2, h3 | ⟨k, off, h3, h4, h5⟩⟩ := h
  · exact ⟨h1, h2, .inl h3⟩
  · by_cases h0 : L.length = 0
    · exact ⟨h1, h2, .inl h0⟩
    · have hk : k ≠ b := by
        rintro rfl
        have := h5 0 (by omega)
        rw [hb.cell] at this
        exact hn _ (List.getElem_mem _) _ this
      exact ⟨h1, h2, .inr ⟨k, off, h3, by rw [hW.1]; exact h4, fun j hj => (hW.2 k _ hk).trans (h5 j hj)⟩⟩
theorem kept_C {w W : World} {b : Nat} {cs : Array Value} {T : TypeId} {a : Option Addr} {c : Nat} {L : List Ins} (h : IsC w a c L) (hb : BlkAt w b cs T) (hW : But b w W) (hn : L = [] ∨ ∃ j, ∃ hj : j < L.length, ∀ i : Nat, cs[i]? ≠ some (Value.int .i64 L[j].a)) : IsC W a c L := by
  obtain ⟨h1, h2, h3 | ⟨k, off, h3, h4, h5⟩⟩ := h
  · exact ⟨h1, h2, .inl h3⟩
  · rcases hn with rfl | ⟨j, hj, hn⟩
    · exact ⟨h1, h2, .inl rfl⟩
    · have hk : k ≠ b := by
        rintro rfl
        have := (h5 j hj).2.1
        rw [hb.cell] at this
        exact hn _ this
      exact ⟨h1, h2, .inr ⟨k, off, h3, by rw [hW.1]; exact h4, fun j hj => ⟨(hW.2 k _ hk).trans (h5 j hj).1, (hW.2 k _ hk).trans (h5 j hj).2.1, (hW.2 k _ hk).trans (h5 j hj).2.2⟩⟩⟩
theorem kept_A {w W : World} {b : Nat} {cs : Array Value} {T : TypeId} {a : Option Addr} {c : Nat} {A : List AbT} (h : IsA w a c A) (hb : BlkAt w b cs T) (hW : But b w W) (hs : cs.size ≤ 11)
    (hn : ∀ t ∈ A, (∀ x ∈ t.2.1, ∀ i : Nat, cs[i]? ≠ some (Value.int .i64 x)) ∧ (t.2.2 = [] ∨ ∃ j, ∃ hj : j < t.2.2.length, ∀ i : Nat, cs[i]? ≠ some (Value.int .i64 t.2.2[j].a))) : IsA W a c A := by
  obtain ⟨h1, h2, h0, h3⟩ := h
  refine ⟨h1, h2, fun t ht => ⟨⟨(h0 t ht).1.1, kept_L (h0 t ht).1.2 hb hW (hn t ht).1⟩, (h0 t ht).2.1, kept_C (h0 t ht).2.2 hb hW (hn t ht).2⟩, ?_⟩
  rcases h3 with h3 | ⟨k, off, h3, h4, h5⟩
  · exact .inl h3
  · by_cases hz : A.length = 0
    · exact .inl hz
    · have hk : k ≠ b := by
        rintro rfl
        have := h5 0 (by omega) 12 (by omega)
        rw [hb.cell, Array.getElem?_eq_none (by omega)] at this
        simp [abCells] at this
      exact .inr ⟨k, off, h3, by rw [hW.1]; exact h4, fun j hj i hi => (hW.2 k _ hk).trans (h5 j hj i hi)⟩
theorem kept_P {w W : World} {b : Nat} {cs : Array Value} {T : TypeId} {a : Option Addr} {c : Nat} {L : List CdT} (h : IsP w a c L) (hb : BlkAt w b cs T) (hW : But b w W) (hs : cs.size ≤ 11) (hl : 2 ≤ L.length)
    (hn : ∀ p ∈ L, ∀ t ∈ p.2, (∀ x ∈ t.2.1, ∀ i : Nat, cs[i]? ≠ some (Value.int .i64 x)) ∧ (t.2.2 = [] ∨ ∃ j, ∃ hj : j < t.2.2.length, ∀ i : Nat, cs[i]? ≠ some (Value.int .i64 t.2.2[j].a))) : IsP W a c L := by
  obtain ⟨h1, h2, h0, h3⟩ := h
  refine ⟨h1, h2, fun t ht => ⟨(h0 t ht).1, kept_A (h0 t ht).2 hb hW hs (hn t ht)⟩, ?_⟩
  rcases h3 with h3 | ⟨k, off, h3, h4, h5⟩
  · exact .inl h3
  · have hk : k ≠ b := by
      rintro rfl
      have := h5 1 (by omega) 10 (by omega)
      rw [hb.cell, Array.getElem?_eq_none (by omega)] at this
      simp [cdCells] at this
    exact .inr ⟨k, off, h3, by rw [hW.1]; exact h4, fun j hj i hi => (hW.2 k _ hk).trans (h5 j hj i hi)⟩
/-- What is the good pool, but for addresses, holds 2, and 1, -2. -/
theorem good_twin {t c a : Nat} {M : List CdT} (h : M.map bareC = (goodL t c a).map bareC) : M.length = 3 ∧ ∀ p ∈ M, ∀ q ∈ p.2, q.2.1 = [2] ∧ q.2.2 = [⟨1, -2, 0⟩, ⟨21, 0, 1⟩] := by
  refine ⟨by simpa using congrArg List.length h, fun p hp q hq => ?_⟩
  have h1 : bareC p ∈ (goodL t c a).map bareC := by rw [← h]; exact List.mem_map_of_mem hp
  obtain ⟨g, hg1, hg2⟩ := List.mem_map.1 h1
  have h2 : bareA q ∈ (bareC p).2 := List.mem_map_of_mem hq
  rw [← hg2] at h2
  obtain ⟨g2, hg3, hg4⟩ := List.mem_map.1 (show bareA q ∈ g.2.map bareA from h2)
  have h5 : g2 = mkT t c := by
    simp only [List.mem_cons, List.not_mem_nil, or_false] at hg1
    rcases hg1 with rfl | rfl | rfl
    · cases hg3
    · cases hg3
    · exact List.mem_singleton.1 hg3
  subst h5
  have e := congrArg Prod.snd hg4
  have e2 : (mkT t c).2 = q.2 := e
  exact ⟨by rw [← e2], by rw [← e2]⟩
theorem mk_no2 (u : Value) (hu : ∀ x, u ≠ Value.int .i64 x) (x : Int) (hx : x = 2 ∨ x = -2) (i : Nat) : (#[Value.string ⟨#[109, 97, 107, 101, 114]⟩, .int .i64 3, .int .i64 0, .int .i64 0, .int .i64 0, .int .i64 0, .int .i64 0, .int .i64 0, .int .i64 0, .int .i64 0, u] : Array Value)[i]? ≠ some (Value.int .i64 x) := by
  intro h
  match i, h with
  | 0, h => simp at h
  | 1, h => simp at h; omega
  | 2, h => simp at h; omega
  | 3, h => simp at h; omega
  | 4, h => simp at h; omega
  | 5, h => simp at h; omega
  | 6, h => simp at h; omega
  | 7, h => simp at h; omega
  | 8, h => simp at h; omega
  | 9, h => simp at h; omega
  | 10, h => exact hu x (by simpa using h)
  | k + 11, h => simp at h
/-- A pool that is the good one, but for addresses, is left by a store into maker's box. -/
theorem kept_good {w W : World} {b t c' a' : Nat} {u : Value} {T : TypeId} {a : Option Addr} {c : Nat} {M : List CdT} (h : IsP w a c M) (hM : M.map bareC = (goodL t c' a').map bareC) (hu : ∀ x, u ≠ Value.int .i64 x)
    (hb : BlkAt w b #[.string ⟨#[109, 97, 107, 101, 114]⟩, .int .i64 3, .int .i64 0, .int .i64 0, .int .i64 0, .int .i64 0, .int .i64 0, .int .i64 0, .int .i64 0, .int .i64 0, u] T) (hW : But b w W) : IsP W a c M := by
  obtain ⟨hl, hq⟩ := good_twin hM
  refine kept_P h hb hW (by simp) (by omega) fun p hp q hqq => ?_
  obtain ⟨e1, e2⟩ := hq p hp q hqq
  rw [e1, e2]
  refine ⟨fun x hx i => ?_, .inr ⟨0, by simp, fun i => ?_⟩⟩
  · rw [List.mem_singleton.1 hx]
    exact mk_no2 u hu 2 (.inl rfl) i
  · exact mk_no2 u hu (-2) (.inr rfl) i
end Go.Proofs.YtbeaaieaffdgeaaDoor
end
