/- Texts that belong together: PoolLa, WireL, WireLa, WireLb, WireQ, PoolI, CardW, PoolJ, PoolKa, PoolKb. -/
import Derived.Test.YtbeaaieaffdgeaaGreatDoorMg
import Derived.ChangeKeysEq
import Derived.Laws.StructEq
import Derived.Laws.IdiomArrays
import Derived.Test.YtbeaaieaffdgeaaGreatDoorMb
import Derived.Test.YtbeaaieaffdgeaaGreatDoorMn
import Derived.Test.YtbeaaieaffdgeaaGreatDoorMm
import Derived.Laws.OwnMore
import Derived.BigRegion
import Derived.Deep.AppendLies
import Derived.OneCell
/- Equal instructions, equal costs; lists that are one but for their addresses. -/
section
namespace Go.Proofs.YtbeaaieaffdgeaaGreatDoor
open Go.RowKit
set_option linter.unusedVariables false
set_option linter.unusedSimpArgs false

theorem m_step (d : Nat) (xs ys : Array Value) (i : Nat) (is : List Nat) (x y : Int) (hx : xs[i * 1]? = some (.int .i64 x)) (hy : ys[i * 1]? = some (.int .i64 y)) (w : World) :
    (Op.eqItems (d + 1) 3 1 xs ys (i :: is)).run Tryz.prog w = if (x == y) = true then (Op.eqItems (d + 1) 3 1 xs ys is).run Tryz.prog w else .ok false w := by
  have p1 := run_part_plain (P := Tryz.prog) (w := w) (e := 3) (by kernel_rfl) hx
  have p2 := run_part_plain (P := Tryz.prog) (w := w) (e := 3) (by kernel_rfl) hy
  have p3 := run_equalIn_int (P := Tryz.prog) w d 3 .i64 .i64 x y Tryz.underlying3
  simp only [Op.eqItems, Sem.run_bind, p1, p2, p3, Result.andThen_ok]
  cases x == y <;> simp
theorem mana_eq (a0 a1 a2 a3 : Int) (w : World) :
    (Op.equalIn 10000 35 (.agg #[.int .i64 a0, .int .i64 a1, .int .i64 a2, .int .i64 a3]) (.agg #[.int .i64 a0, .int .i64 a1, .int .i64 a2, .int .i64 a3])).run Tryz.prog w = .ok true w := by
  obtain ⟨i, hi, _, _, _⟩ := info_parts (show (Tryz.prog.info? 3).map (fun i => (i.zero, i.size, i.bytes)) = some (some (.int .i64 0), 1, 8) by kernel_rfl)
  rw [show (10000 : Nat) = 9999 + 1 from rfl, run_equalIn_array w 9999 _ _ Tryz.underlying35 hi, show Tryz.prog.cellsOf 3 = 1 by kernel_rfl, show List.range 4 = [0, 1, 2, 3] from rfl,
    show (9999 : Nat) = 9998 + 1 from rfl, m_step 9998 _ _ 0 _ a0 a0 rfl rfl, m_step 9998 _ _ 1 _ a1 a1 rfl rfl, m_step 9998 _ _ 2 _ a2 a2 rfl rfl, m_step 9998 _ _ 3 _ a3 a3 rfl rfl]
  simp [Op.eqItems]
theorem fields_ins : (Tryz.prog.fieldsOf 82).toList.map (fun f => (f.type, f.offset)) = [(3, 0), (3, 1), (3, 2)] := by kernel_rfl
theorem und_ins : Tryz.prog.underlying 82 = some (.struct (Tryz.prog.fieldsOf 82)) := by kernel_rfl
theorem held_ins : Tryz.prog.stoodInHeld 82 = false := by kernel_rfl
theorem equal_ins (x y : Ins) (w : World) : (Op.equalIn 10000 82 (.agg #[.int .i64 x.op, .int .i64 x.a, .int .i64 x.b]) (.agg #[.int .i64 y.op, .int .i64 y.a, .int .i64 y.b])).run Tryz.prog w = .ok (decide (x = y)) w := by
  obtain ⟨o, a, b⟩ := x
  obtain ⟨p, c, d⟩ := y
  rw [show (10000 : Nat) = 9999 + 1 from rfl, run_equalIn_struct w 9999 _ _ _ und_ins held_ins]
  have hf := fields_ins
  have hn : ((Tryz.prog.fieldsOf 82).toList.map fun f => f.name != "_") = [true, true, true] := by kernel_rfl
  generalize (Tryz.prog.fieldsOf 82).toList = fs at *
  have hl : fs.length = 3 := by simpa using congrArg List.length hf
  obtain ⟨f0, f1, f2, rfl⟩ : ∃ f0 f1 f2, fs = [f0, f1, f2] := by
    match fs, hl with
    | [f0, f1, f2], _ => exact ⟨f0, f1, f2, rfl⟩
  simp only [List.map_cons, List.map_nil, List.cons.injEq, Prod.mk.injEq, and_true] at hf hn
  obtain ⟨⟨t0, o0⟩, ⟨t1, o1⟩, ⟨t2, o2⟩⟩ := hf
  obtain ⟨n0, n1, n2⟩ := hn
  have m0 : f0.name ≠ "_" := bne_iff_ne.1 n0
  have m1 : f1.name ≠ "_" := bne_iff_ne.1 n1
  have m2 : f2.name ≠ "_" := bne_iff_ne.1 n2
  have p0 := fun (u : Value) (xs : Array Value) (h : xs[0]? = some u) => run_part_plain (P := Tryz.prog) (w := w) (e := 3) (by kernel_rfl) h
  have p1 := fun (u : Value) (xs : Array Value) (h : xs[1]? = some u) => run_part_plain (P := Tryz.prog) (w := w) (e := 3) (by kernel_rfl) h
  have p2 := fun (u : Value) (xs : Array Value) (h : xs[2]? = some u) => run_part_plain (P := Tryz.prog) (w := w) (e := 3) (by kernel_rfl) h
  have q : ∀ a b : Int, (Op.equalIn 9999 3 (.int .i64 a) (.int .i64 b)).run Tryz.prog w = .ok (a == b) w := fun a b => run_equalIn_int (P := Tryz.prog) w 9998 3 .i64 .i64 a b Tryz.underlying3
  simp only [Op.eqFields, m0, m1, m2, t0, t1, t2, o0, o1, o2, Sem.run_bind, Sem.run_ite, ne_eq, not_false_eq_true, if_true,
    p0 (.int .i64 o) #[.int .i64 o, .int .i64 a, .int .i64 b] rfl, p0 (.int .i64 p) #[.int .i64 p, .int .i64 c, .int .i64 d] rfl,
    p1 (.int .i64 a) #[.int .i64 o, .int .i64 a, .int .i64 b] rfl, p1 (.int .i64 c) #[.int .i64 p, .int .i64 c, .int .i64 d] rfl,
    p2 (.int .i64 b) #[.int .i64 o, .int .i64 a, .int .i64 b] rfl, p2 (.int .i64 d) #[.int .i64 p, .int .i64 c, .int .i64 d] rfl, Result.andThen_ok, q]
  by_cases e0 : o = p
  · by_cases e1 : a = c
    · by_cases e2 : b = d
      · subst e0 e1 e2; simp
      · simp [e0, e1, e2]
    · simp [e0, e1]
  · simp [e0]
theorem ins_same (x : Ins) (w : World) : (Op.equalIn 10000 82 (.agg #[.int .i64 x.op, .int .i64 x.a, .int .i64 x.b]) (.agg #[.int .i64 x.op, .int .i64 x.a, .int .i64 x.b])).run Tryz.prog w = .ok true w := by
  rw [equal_ins, decide_eq_true rfl]
theorem bareA_twin {z x : Ab} {T T2 : List Int} {C C2 : List Ins} (h : bareA (z, T2, C2) = bareA (x, T, C)) : T2 = T ∧ C2 = C ∧ z.k = x.k ∧ z.ev = x.ev ∧ z.wh = x.wh ∧ z.c0 = x.c0 ∧ z.c1 = x.c1 ∧ z.c2 = x.c2 ∧ z.c3 = x.c3 ∧ z.tap = x.tap ∧ z.op = x.op ∧ z.a = x.a ∧ z.b = x.b := by
  simp only [bareA, Prod.mk.injEq, Ab.mk.injEq] at h
  obtain ⟨⟨h1, h2, h3, h4, h5, h6, h7, h8, _, _, _, _, _, _, h9, h10, h11⟩, h12, h13⟩ := h
  exact ⟨h12, h13, h1, h2, h3, h4, h5, h6, h7, h8, h9, h10, h11⟩
theorem bareC_twin {z y : Cd} {A B : List AbT} (h : bareC (z, B) = bareC (y, A)) : B.map bareA = A.map bareA ∧ z.nm = y.nm ∧ z.k = y.k ∧ z.c0 = y.c0 ∧ z.c1 = y.c1 ∧ z.c2 = y.c2 ∧ z.c3 = y.c3 ∧ z.col = y.col ∧ z.pow = y.pow ∧ z.tou = y.tou ∧ z.keys = y.keys := by
  simp only [bareC, Prod.mk.injEq, Cd.mk.injEq] at h
  obtain ⟨⟨h1, h2, h3, h4, h5, h6, h7, h8, h9, h10, _, _, _⟩, h11⟩ := h
  exact ⟨h11, h1, h2, h3, h4, h5, h6, h7, h8, h9, h10⟩
theorem twin_at {L M : List CdT} (h : M.map bareC = L.map bareC) (k : Nat) (hk : k < L.length) (hm : k < M.length) : bareC M[k] = bareC L[k] := by
  have e : (M.map bareC)[k]? = (L.map bareC)[k]? := by rw [h]
  simpa [List.getElem?_eq_getElem, hk, hm] using e
theorem twinA_at {L M : List AbT} (h : M.map bareA = L.map bareA) (k : Nat) (hk : k < L.length) (hm : k < M.length) : bareA M[k] = bareA L[k] := by
  have e : (M.map bareA)[k]? = (L.map bareA)[k]? := by rw [h]
  simpa [List.getElem?_eq_getElem, hk, hm] using e
end Go.Proofs.YtbeaaieaffdgeaaGreatDoor
end
/- The document's reader takes a number. -/
section
namespace Go.Proofs.YtbeaaieaffdgeaaGreatDoor
open Go.RowKit
set_option linter.unusedVariables false

/-- What is left of the first byte when k ones are taken off. -/
def offB (c k : Nat) : Nat := c - (256 - 2 ^ (8 - k))
theorem off_step : ∀ c : Fin 256, ∀ n : Fin 9, n.val < lead c.val → (offB c.val n.val / 2 ^ (7 - n.val)) % 2 = 1 ∧ 128 / 2 ^ n.val ≤ offB c.val n.val ∧ offB c.val n.val - 128 / 2 ^ n.val = offB c.val (n.val + 1) := by decide +kernel
theorem off_stop : ∀ c : Fin 256, lead c.val < 8 → (offB c.val (lead c.val) / 2 ^ (7 - lead c.val)) % 2 = 0 := by decide +kernel
theorem off_bit (a m : Nat) : (((a : Nat) : Int) / 2 ^ m).tmod 2 = ((a / 2 ^ m % 2 : Nat) : Int) := by
  have e : ((a : Nat) : Int) / 2 ^ m = ((a / 2 ^ m : Nat) : Int) := by simp
  rw [e]
  generalize a / 2 ^ m = q
  rw [Int.tmod_eq_emod_of_nonneg (by omega)]
  omega
theorem off_yes (c n : Nat) (hc : c < 256) (h : n < lead c) : ((((offB c n : Nat) : Int) / 2 ^ (7 - n)).tmod 2 == 1) = true := by
  have h8 := lead_le c
  have := (off_step ⟨c, hc⟩ ⟨n, by omega⟩ h).1
  simp only at this
  rw [off_bit, this]; rfl
theorem off_no (c : Nat) (hc : c < 256) (h : lead c < 8) : ((((offB c (lead c) : Nat) : Int) / 2 ^ (7 - lead c)).tmod 2 == 1) = false := by
  have := off_stop ⟨c, hc⟩ h
  simp only at this
  rw [off_bit, this]; rfl
theorem off_next (c n : Nat) (hc : c < 256) (h : n < lead c) : wrap64 (((offB c n : Nat) : Int) - 128 / 2 ^ n) = ((offB c (n + 1) : Nat) : Int) := by
  have h8 := lead_le c
  obtain ⟨_, h2, h3⟩ := off_step ⟨c, hc⟩ ⟨n, by omega⟩ h
  simp only at h2 h3
  have e : (128 : Int) / 2 ^ n = ((128 / 2 ^ n : Nat) : Int) := by simp
  have hlt : offB c n < 256 := by unfold offB; omega
  rw [e, ← h3]
  generalize 128 / 2 ^ n = g at *
  unfold wrap64
  omega
theorem roomB_ge (n k : Nat) (h : sortN n ≤ k) (hk : k ≤ 8) : roomB n k = true := by
  have hk : k = 0 ∨ k = 1 ∨ k = 2 ∨ k = 3 ∨ k = 4 ∨ k = 5 ∨ k = 6 ∨ k = 7 ∨ k = 8 := by omega
  unfold sortN at h
  repeat' split at h
  all_goals
    rcases hk with rfl | rfl | rfl | rfl | rfl | rfl | rfl | rfl | rfl
    all_goals (first | omega | (simp [roomB]; done) | (simp [roomB]; omega))
theorem low_c : ∀ c : Fin 256, lead c.val < 8 → (lowB c.val + 1) * 256 ^ (lead c.val) ≤ 2 ^ (7 + 7 * lead c.val) := by decide +kernel
/-- What a first byte with q ones says has room in sort q. -/
theorem sort_le (s : ByteArray) (c : Nat) (hc : c < 256) : sortN (valAt s c (lead c + 1)) ≤ lead c := by
  have h8 := lead_le c
  by_cases h : lead c < 8
  · have h1 := valL_lt ((s.data.toList.drop 1).take (lead c + 1 - 1)) (lowB c)
    have hl : ((s.data.toList.drop 1).take (lead c + 1 - 1)).length ≤ lead c := Nat.le_trans (List.length_take_le _ _) (by omega)
    have hp : 256 ^ ((s.data.toList.drop 1).take (lead c + 1 - 1)).length ≤ 256 ^ (lead c) := Nat.pow_le_pow_right (by omega) hl
    have h2 := low_c ⟨c, hc⟩ h
    have h3 : valAt s c (lead c + 1) < 2 ^ (7 + 7 * lead c) := Nat.lt_of_lt_of_le h1 (Nat.le_trans (Nat.mul_le_mul_left _ hp) h2)
    rcases Nat.lt_or_ge (lead c) (sortN (valAt s c (lead c + 1))) with h4 | h4
    · have := roomB_lt _ _ h4
      simp [roomB] at this
      omega
    · exact h4
  · have := sortN_le (valAt s c (lead c + 1))
    omega
theorem fits_int (n : Nat) (hn : n ≤ 18446744073709551615) (x : Int) (h0 : 0 ≤ x) (h8 : x ≤ 8) (w : World) :
    Calls Tryz.prog 64 #[.int .u64 (n : Int), .int .i64 x] w fun e w' => e = .returned (.bool (roomB n x.toNat)) ∧ w = w' := by
  obtain ⟨k, rfl⟩ := Int.eq_ofNat_of_zero_le h0
  exact fits_at n hn k (by omega) w
theorem isEmpty_no (s : ByteArray) (h : 0 < s.size) : s.toList.isEmpty = false := by
  rw [ByteArray.toList_eq]
  have h1 : s.data.toList.length = s.size := by simp
  cases hq : s.data.toList with
  | nil =>
    rw [hq, List.length_nil] at h1
    omega
  | cons a l => rfl

/-- What Num hands back, and what becomes of the document's reader. -/
def RNumPost (b : Nat) (s : ByteArray) (w : World) (e : Ending) (w' : World) : Prop :=
  w.grownBy w' (some b) ∧ match readN s.data.toList with
    | none => e = .returned (.int .u64 0) ∧ RdT 68 b ByteArray.empty true w'
    | some (n, k) => e = .returned (.int .u64 (n : Int)) ∧ RdT 68 b (s.extract k s.size) false w'
theorem RNumPost.bad {b : Nat} {s : ByteArray} {w w' : World} {e : Ending} (h : readN s.data.toList = none) (g : w.grownBy w' (some b)) (he : e = .returned (.int .u64 0)) (r : RdT 68 b ByteArray.empty true w') : RNumPost b s w e w' := by
  unfold RNumPost; rw [h]; exact ⟨g, he, r⟩
theorem RNumPost.good {b : Nat} {s : ByteArray} {w w' : World} {e : Ending} {n k k' : Nat} (hk : k' = k) (h : readN s.data.toList = some (n, k)) (g : w.grownBy w' (some b)) (he : e = .returned (.int .u64 (n : Int))) (r : RdT 68 b (s.extract k' s.size) false w') : RNumPost b s w e w' := by
  subst hk
  unfold RNumPost; rw [h]; exact ⟨g, he, r⟩
set_option maxHeartbeats 400000 in
theorem rnum_empty (b : Nat) (st : Bool) (w : World) (h : RdT 68 b ByteArray.empty st w) :
    Calls Tryz.prog 56 #[.pointer (some ⟨b, 0, none⟩)] w fun e w' => e = .returned (.int .u64 0) ∧ RdT 68 b ByteArray.empty true w' ∧ w.grownBy w' (some b) := by
  obtain ⟨h0, h1, f0, f1⟩ := h.facts
  have H := Lib.hid h
  clear h
  go_enter Tryz.func56, Tryz.ntmps56
  go_wp2_with (go_at_call 57; refine (rstop_any _ _ _ _ H.out).mono ?_; rintro e w' ⟨rfl, hr, hg⟩)
  go_ret
  exact ⟨rfl, hr, hg⟩

end Go.Proofs.YtbeaaieaffdgeaaGreatDoor
end
/- The document's reader takes a number: a first byte with less than eight ones. -/
section
namespace Go.Proofs.YtbeaaieaffdgeaaGreatDoor
open Go.RowKit
set_option linter.unusedVariables false

set_option maxHeartbeats 4000000 in
theorem rnum_lt8 (b : Nat) (s : ByteArray) (w : World) (h : RdT 68 b s false w) (hz : 0 < s.size) (hs : s.size ≤ 70368744177664) (h8 : lead s[0].toNat < 8) :
    Calls Tryz.prog 56 #[.pointer (some ⟨b, 0, none⟩)] w (RNumPost b s w) := by
  obtain ⟨h0, h1, f0, f1⟩ := h.facts
  have H := Lib.hid h
  clear h
  have hc : s[0].toNat < 256 := s[0].toNat_lt
  have hl8 := lead_le s[0].toNat
  have he := isEmpty_no s hz
  have BS := Lib.hid (readN_short s hz)
  have BD := Lib.hid (readN_sort s hz)
  have GD := Lib.hid (readN_good s hz)
  have SL := Lib.hid (sort_le s _ hc)
  go_enter Tryz.func56, Tryz.ntmps56
  go_wp2_with fail
  go_loop [3, 4] (fun f k => ∃ n : Nat, n ≤ lead s[0].toNat ∧ f = .int .i64 (offB s[0].toNat n : Nat) ∧ k = .int .i64 (n : Int)) (fun _ k => 8 - (intOf k).toNat)
  case atStart => exact ⟨0, Nat.zero_le _, by simp [offB], rfl⟩
  case round =>
    obtain ⟨n, hn, rfl, rfl⟩ := hrel
    have hob : offB s[0].toNat n < 256 := by unfold offB; omega
    by_cases hlt : n < lead s[0].toNat
    · have ht := off_yes s[0].toNat n hc hlt
      have HX := Lib.hid (off_next s[0].toNat n hc hlt)
      go_wp2_with fail
      go_round
      case rel => exact ⟨n + 1, by omega, by rw [HX.out], by go_num⟩
      case measure => simp [intOf]; omega
    · obtain rfl : n = lead s[0].toNat := by omega
      clear hlt
      have hone : 1 ≤ lead s[0].toNat + 1 := by omega
      by_cases hsz : s.size ≤ lead s[0].toNat
      · have HFIN := Lib.hid (BS.out hsz)
        have ht := off_no _ hc h8
        go_wp2_with (go_at_call 57; refine (rstop_any _ _ _ _ H.out).mono ?_; rintro e w' ⟨rfl, hr, hg⟩)
        go_ret
        exact RNumPost.bad HFIN.out hg rfl hr
      · have hge : lead s[0].toNat + 1 ≤ s.size := by omega
        clear hsz
        have ht := off_no _ hc h8
        go_wp2_with fail
        clear ht
        go_loop [5, 6] (fun n i => ∃ k v : Nat, 1 ≤ k ∧ k ≤ lead s[0].toNat + 1 ∧ i = .int .i64 (k : Int) ∧ n = .int .u64 (v : Int) ∧ v = valAt s s[0].toNat k) (fun _ i => 10 - (intOf i).toNat)
        case atStart => exact ⟨1, _, by omega, hone, rfl, rfl, rfl⟩
        case round =>
          obtain ⟨k, v, hk1, hkl, rfl, rfl, hv⟩ := hrel
          by_cases hlt : k ≤ lead s[0].toNat
          · have hks : k < s.size := by omega
            have hvb : v < 72057594037927936 := by rw [hv]; exact valAt_lt s _ k hc hlt
            have hx : s[k].toNat < 256 := s[k].toNat_lt
            have HS := Lib.hid (show v * 256 + s[k].toNat = valAt s s[0].toNat (k + 1) by rw [valAt_succ s _ k hk1 hks, hv])
            clear hv
            go_wp2_with fail
            go_round
            case rel => exact ⟨k + 1, v * 256 + s[k].toNat, by omega, by omega, by go_num, by go_num, HS.out⟩
            case measure => simp [intOf]; omega
          · have HV := Lib.hid (show v = valAt s s[0].toNat (lead s[0].toNat + 1) by rw [hv, show k = lead s[0].toNat + 1 by omega])
            have hvb : v < 18446744073709551616 := by rw [HV.out]; exact valAt_lt' s _ _ hc (by omega)
            have hgt : lead s[0].toNat + 1 ≤ k := by omega
            clear hv
            by_cases hl0 : lead s[0].toNat ≤ 0
            · have HF := Lib.hid (GD.out (by omega) (by have := SL.out; omega))
              go_wp2_with fail
              all_goals
                go_ret
                exact RNumPost.good (Nat.add_comm 1 _) HF.out (grown_set (World.grownBy.refl _ _) _ _) (congrArg (fun q : Nat => Ending.returned (.int .u64 (q : Int))) HV.out) (H.out.set0 _)
            · have hl1 : 0 < lead s[0].toNat := by omega
              by_cases hr : roomB v (lead s[0].toNat - 1) = true
              · have hr' : roomB v ((lead s[0].toNat : Int) - 1).toNat = true := by rw [show ((lead s[0].toNat : Int) - 1).toNat = lead s[0].toNat - 1 by omega]; exact hr
                have HF := Lib.hid (BD.out (by omega) (by
                  rw [← HV.out]
                  intro hq
                  have := roomB_lt v (lead s[0].toNat - 1) (by omega)
                  rw [hr] at this
                  cases this))
                clear hr hl0
                go_wp2_with (first | (go_at_call 64; refine (fits_int v (by omega) _ (by omega) (by omega) _).mono ?_; rw [hr']; rintro e w' ⟨rfl, rfl⟩) | (go_at_call 57; refine (rstop_any _ _ _ _ H.out).mono ?_; rintro e w' ⟨rfl, hr, hg⟩))
                go_ret
                exact RNumPost.bad HF.out hg rfl hr
              · have hr1 : roomB v (lead s[0].toNat - 1) = false := by simpa using hr
                have hr' : roomB v ((lead s[0].toNat : Int) - 1).toNat = false := by rw [show ((lead s[0].toNat : Int) - 1).toNat = lead s[0].toNat - 1 by omega]; exact hr1
                have HF := Lib.hid (GD.out (by omega) (by
                  rw [← HV.out]
                  have h1 := SL.out
                  rw [← HV.out] at h1
                  rcases Nat.lt_or_ge (lead s[0].toNat - 1) (sortN v) with h2 | h2
                  · omega
                  · have := roomB_ge v (lead s[0].toNat - 1) h2 (by omega)
                    rw [hr1] at this
                    cases this))
                clear hr hr1 hl0
                go_wp2_with (go_at_call 64; refine (fits_int v (by omega) _ (by omega) (by omega) _).mono ?_; rw [hr']; rintro e w' ⟨rfl, rfl⟩)
                go_ret
                exact RNumPost.good (Nat.add_comm 1 _) HF.out (grown_set (World.grownBy.refl _ _) _ _) (congrArg (fun q : Nat => Ending.returned (.int .u64 (q : Int))) HV.out) (H.out.set0 _)
end Go.Proofs.YtbeaaieaffdgeaaGreatDoor
end
/- The document's reader takes a number: a first byte with eight ones. -/
section
namespace Go.Proofs.YtbeaaieaffdgeaaGreatDoor
open Go.RowKit
set_option linter.unusedVariables false

set_option maxHeartbeats 4000000 in
theorem rnum_is8 (b : Nat) (s : ByteArray) (w : World) (h : RdT 68 b s false w) (hz : 0 < s.size) (hs : s.size ≤ 70368744177664) (h8 : 8 ≤ lead s[0].toNat) :
    Calls Tryz.prog 56 #[.pointer (some ⟨b, 0, none⟩)] w (RNumPost b s w) := by
  obtain ⟨h0, h1, f0, f1⟩ := h.facts
  have H := Lib.hid h
  clear h
  have hc : s[0].toNat < 256 := s[0].toNat_lt
  have hl8 := lead_le s[0].toNat
  have he := isEmpty_no s hz
  have BS := Lib.hid (readN_short s hz)
  have BD := Lib.hid (readN_sort s hz)
  have GD := Lib.hid (readN_good s hz)
  have SL := Lib.hid (sort_le s _ hc)
  go_enter Tryz.func56, Tryz.ntmps56
  go_wp2_with fail
  go_loop [3, 4] (fun f k => ∃ n : Nat, n ≤ lead s[0].toNat ∧ f = .int .i64 (offB s[0].toNat n : Nat) ∧ k = .int .i64 (n : Int)) (fun _ k => 8 - (intOf k).toNat)
  case atStart => exact ⟨0, Nat.zero_le _, by simp [offB], rfl⟩
  case round =>
    obtain ⟨n, hn, rfl, rfl⟩ := hrel
    have hob : offB s[0].toNat n < 256 := by unfold offB; omega
    by_cases hlt : n < lead s[0].toNat
    · have ht := off_yes s[0].toNat n hc hlt
      have HX := Lib.hid (off_next s[0].toNat n hc hlt)
      go_wp2_with fail
      go_round
      case rel => exact ⟨n + 1, by omega, by rw [HX.out], by go_num⟩
      case measure => simp [intOf]; omega
    · obtain rfl : n = lead s[0].toNat := by omega
      clear hlt
      have hone : 1 ≤ lead s[0].toNat + 1 := by omega
      by_cases hsz : s.size ≤ lead s[0].toNat
      · have HFIN := Lib.hid (BS.out hsz)
        have ht : True := trivial
        go_wp2_with (go_at_call 57; refine (rstop_any _ _ _ _ H.out).mono ?_; rintro e w' ⟨rfl, hr, hg⟩)
        go_ret
        exact RNumPost.bad HFIN.out hg rfl hr
      · have hge : lead s[0].toNat + 1 ≤ s.size := by omega
        clear hsz
        have ht : True := trivial
        go_wp2_with fail
        go_loop [5, 6] (fun n i => ∃ k v : Nat, 1 ≤ k ∧ k ≤ lead s[0].toNat + 1 ∧ i = .int .i64 (k : Int) ∧ n = .int .u64 (v : Int) ∧ v = valAt s s[0].toNat k) (fun _ i => 10 - (intOf i).toNat)
        case atStart => exact ⟨1, _, by omega, hone, rfl, rfl, rfl⟩
        case round =>
          obtain ⟨k, v, hk1, hkl, rfl, rfl, hv⟩ := hrel
          by_cases hlt : k ≤ lead s[0].toNat
          · have hks : k < s.size := by omega
            have hvb : v < 72057594037927936 := by rw [hv]; exact valAt_lt s _ k hc hlt
            have hx : s[k].toNat < 256 := s[k].toNat_lt
            have HS := Lib.hid (show v * 256 + s[k].toNat = valAt s s[0].toNat (k + 1) by rw [valAt_succ s _ k hk1 hks, hv])
            clear hv
            go_wp2_with fail
            go_round
            case rel => exact ⟨k + 1, v * 256 + s[k].toNat, by omega, by omega, by go_num, by go_num, HS.out⟩
            case measure => simp [intOf]; omega
          · have HV := Lib.hid (show v = valAt s s[0].toNat (lead s[0].toNat + 1) by rw [hv, show k = lead s[0].toNat + 1 by omega])
            have hvb : v < 18446744073709551616 := by rw [HV.out]; exact valAt_lt' s _ _ hc (by omega)
            have hgt : lead s[0].toNat + 1 ≤ k := by omega
            clear hv
            by_cases hl0 : lead s[0].toNat ≤ 0
            · have HF := Lib.hid (GD.out (by omega) (by have := SL.out; omega))
              go_wp2_with fail
              all_goals
                go_ret
                exact RNumPost.good (Nat.add_comm 1 _) HF.out (grown_set (World.grownBy.refl _ _) _ _) (congrArg (fun q : Nat => Ending.returned (.int .u64 (q : Int))) HV.out) (H.out.set0 _)
            · have hl1 : 0 < lead s[0].toNat := by omega
              by_cases hr : roomB v (lead s[0].toNat - 1) = true
              · have hr' : roomB v ((lead s[0].toNat : Int) - 1).toNat = true := by rw [show ((lead s[0].toNat : Int) - 1).toNat = lead s[0].toNat - 1 by omega]; exact hr
                have HF := Lib.hid (BD.out (by omega) (by
                  rw [← HV.out]
                  intro hq
                  have := roomB_lt v (lead s[0].toNat - 1) (by omega)
                  rw [hr] at this
                  cases this))
                clear hr hl0
                go_wp2_with (first | (go_at_call 64; refine (fits_int v (by omega) _ (by omega) (by omega) _).mono ?_; rw [hr']; rintro e w' ⟨rfl, rfl⟩) | (go_at_call 57; refine (rstop_any _ _ _ _ H.out).mono ?_; rintro e w' ⟨rfl, hr, hg⟩))
                go_ret
                exact RNumPost.bad HF.out hg rfl hr
              · have hr1 : roomB v (lead s[0].toNat - 1) = false := by simpa using hr
                have hr' : roomB v ((lead s[0].toNat : Int) - 1).toNat = false := by rw [show ((lead s[0].toNat : Int) - 1).toNat = lead s[0].toNat - 1 by omega]; exact hr1
                have HF := Lib.hid (GD.out (by omega) (by
                  rw [← HV.out]
                  have h1 := SL.out
                  rw [← HV.out] at h1
                  rcases Nat.lt_or_ge (lead s[0].toNat - 1) (sortN v) with h2 | h2
                  · omega
                  · have := roomB_ge v (lead s[0].toNat - 1) h2 (by omega)
                    rw [hr1] at this
                    cases this))
                clear hr hr1 hl0
                go_wp2_with (go_at_call 64; refine (fits_int v (by omega) _ (by omega) (by omega) _).mono ?_; rw [hr']; rintro e w' ⟨rfl, rfl⟩)
                go_ret
                exact RNumPost.good (Nat.add_comm 1 _) HF.out (grown_set (World.grownBy.refl _ _) _ _) (congrArg (fun q : Nat => Ending.returned (.int .u64 (q : Int))) HV.out) (H.out.set0 _)
end Go.Proofs.YtbeaaieaffdgeaaGreatDoor
end
/- What the document's reader hands back, whatever it holds. -/
section
namespace Go.Proofs.YtbeaaieaffdgeaaGreatDoor
open Go.RowKit
set_option linter.unusedVariables false

theorem rnum_any (b : Nat) (r : RdS) (w : World) (hr : RdOk r) (h : RdT 68 b r.1 r.2 w) :
    Calls Tryz.prog 56 #[.pointer (some ⟨b, 0, none⟩)] w fun e w' => e = .returned (.int .u64 ((rdNum r).1 : Int)) ∧ RdT 68 b (rdNum r).2.1 (rdNum r).2.2 w' ∧ w.grownBy w' (some b) := by
  obtain ⟨s, st⟩ := r
  cases st with
  | true =>
    have he : s = ByteArray.empty := hr.2 rfl
    subst he
    exact rnum_empty b true w h
  | false =>
    have e0 : rdNum (s, false) = match readN s.data.toList with
      | none => (0, (ByteArray.empty, true))
      | some (n, k) => (n, (s.extract k s.size, false)) := rfl
    by_cases hz : s.size = 0
    · obtain rfl : s = ByteArray.empty := by
        apply ByteArray.ext
        exact Array.eq_empty_of_size_eq_zero hz
      exact rnum_empty b false w h
    · have hm : Calls Tryz.prog 56 #[.pointer (some ⟨b, 0, none⟩)] w (RNumPost b s w) := by
        have h0 : 0 < s.size := by omega
        by_cases h8 : lead s[0].toNat < 8
        · exact rnum_lt8 b s w h h0 hr.1 h8
        · exact rnum_is8 b s w h h0 hr.1 (by omega)
      refine hm.mono ?_
      rintro e w' ⟨hg, hp⟩
      rw [e0]
      split at hp
      · rename_i hq; rw [hq]; exact ⟨hp.1, hp.2, hg⟩
      · rename_i hq; rw [hq]; exact ⟨hp.1, hp.2, hg⟩

set_option maxHeartbeats 400000 in
theorem rint_any (b : Nat) (r : RdS) (w : World) (hr : RdOk r) (h : RdT 68 b r.1 r.2 w) :
    Calls Tryz.prog 58 #[.pointer (some ⟨b, 0, none⟩)] w fun e w' => e = .returned (.int .i64 (rdInt r).1) ∧ RdT 68 b (rdInt r).2.1 (rdInt r).2.2 w' ∧ w.grownBy w' (some b) := by
  have hb := rdNum_lt r
  have hN := rnum_any b r w hr h
  have e0 : rdInt r = (unzig (rdNum r).1, (rdNum r).2) := rfl
  rw [e0]
  generalize rdNum r = q at *
  obtain ⟨n, s1, st1⟩ := q
  have hn : n < 18446744073709551616 := hb
  have HN := Lib.hid hN
  clear hN h hb e0
  by_cases hp : n % 2 = 1
  · have ht : ((n : Int) % 2 == 1) = true := by rw [beq_iff_eq]; omega
    have HU := Lib.hid (show unzig n = -((n / 2 : Nat) : Int) - 1 by unfold unzig; rw [if_neg (by omega)])
    clear hp
    go_enter Tryz.func58, Tryz.ntmps58
    go_wp2_with fail
    refine HN.out.mono ?_
    rintro e w1 ⟨rfl, h1, hg⟩
    go_wp2_with fail
    go_ret
    refine ⟨ret_int ?_, h1, hg⟩
    rw [HU.out]
    first | omega | (simp only [wrap64]; omega)
  · have ht : ((n : Int) % 2 == 1) = false := by rw [beq_eq_false_iff_ne]; omega
    have HU := Lib.hid (show unzig n = ((n / 2 : Nat) : Int) by unfold unzig; rw [if_pos (by omega)])
    clear hp
    go_enter Tryz.func58, Tryz.ntmps58
    go_wp2_with fail
    refine HN.out.mono ?_
    rintro e w1 ⟨rfl, h1, hg⟩
    go_wp2_with fail
    go_ret
    refine ⟨ret_int ?_, h1, hg⟩
    rw [HU.out]
    omega

set_option maxHeartbeats 1000000 in
theorem rtext_any (b : Nat) (r : RdS) (w : World) (hr : RdOk r) (h : RdT 68 b r.1 r.2 w) :
    Calls Tryz.prog 34 #[.pointer (some ⟨b, 0, none⟩)] w fun e w' => e = .returned (.string (rdText r).1) ∧ RdT 68 b (rdText r).2.1 (rdText r).2.2 w' ∧ w.grownBy w' (some b) := by
  have hN := rnum_any b r w hr h
  have hb := rdNum_lt r
  have hk := hr.num
  have e0 : rdText r = if (rdNum r).2.2 then (ByteArray.empty, (rdNum r).2)
  else if (rdNum r).2.1.size < (rdNum r).1 then (ByteArray.empty, (ByteArray.empty, true))
  else ((rdNum r).2.1.extract 0 (rdNum r).1, ((rdNum r).2.1.extract (rdNum r).1 (rdNum r).2.1.size, false)) := rfl
  have E0 := Lib.hid e0
  clear e0
  generalize rdNum r = q at *
  obtain ⟨n, s1, st1⟩ := q
  have HN := Lib.hid hN
  have hs' : s1.size ≤ 70368744177664 := hk.1
  have hb' : n < 18446744073709551616 := hb
  have HK := Lib.hid hk.2
  clear hN h hb hk
  cases st1 with
  | true =>
    go_enter Tryz.func34, Tryz.ntmps34
    go_wp2_with fail
    refine HN.out.mono ?_
    rintro e w1 ⟨rfl, h1, hg⟩
    have H1 := Lib.hid h1
    obtain ⟨c0, c1, d0, d1⟩ := h1.facts
    clear h1
    go_wp2_with fail
    refine (rstop_any _ _ _ _ H1.out).mono ?_
    rintro e w2 ⟨rfl, h2, hg2⟩
    go_wp2_with fail
    go_ret
    have hse : s1 = ByteArray.empty := HK.out (by first | rfl | trivial)
    rw [E0.out]
    simp only [if_true]
    rw [hse]
    exact ⟨rfl, h2, grown_then hg hg2⟩
  | false =>
    by_cases hlt : s1.size < n
    · go_enter Tryz.func34, Tryz.ntmps34
      go_wp2_with fail
      refine HN.out.mono ?_
      rintro e w1 ⟨rfl, h1, hg⟩
      have H1 := Lib.hid h1
      obtain ⟨c0, c1, d0, d1⟩ := h1.facts
      clear h1
      go_wp2_with fail
      refine (rstop_any _ _ _ _ H1.out).mono ?_
      rintro e w2 ⟨rfl, h2, hg2⟩
      go_wp2_with fail
      go_ret
      rw [E0.out, if_neg (by simp), if_pos hlt]
      exact ⟨rfl, h2, grown_then hg hg2⟩
    · have hle : n ≤ s1.size := by omega
      go_enter Tryz.func34, Tryz.ntmps34
      go_wp2_with fail
      refine HN.out.mono ?_
      rintro e w1 ⟨rfl, h1, hg⟩
      have H1 := Lib.hid h1
      obtain ⟨c0, c1, d0, d1⟩ := h1.facts
      clear h1
      go_wp2_with fail
      go_ret
      rw [E0.out, if_neg (by simp), if_neg hlt]
      exact ⟨rfl, H1.out.set0 _, grown_then hg (grown_set (World.grownBy.refl _ _) _ _)⟩
end Go.Proofs.YtbeaaieaffdgeaaGreatDoor
end
/- The document's num, of a reader. -/
section
namespace Go.Proofs.YtbeaaieaffdgeaaGreatDoor
open Go.RowKit
set_option linter.unusedVariables false
set_option linter.unusedSimpArgs false

theorem RdOk.nm {r : RdS} (h : RdOk r) : RdOk (rdNm r).2 := h.num
set_option maxHeartbeats 2000000 in
theorem refNm_any (b : Nat) (r : RdS) (w : World) (hr : RdOk r) (h : RdT 68 b r.1 r.2 w) :
    Calls Tryz.prog 32 #[.pointer (some ⟨b, 0, none⟩)] w fun e w' => e = .returned (.int .i64 (rdNm r).1) ∧ RdT 68 b (rdNm r).2.1 (rdNm r).2.2 w' ∧ w.grownBy w' (some b) := by
  have hlt := rdNum_lt r
  have HC := Lib.hid (rnum_any b r w hr h)
  obtain ⟨m, hm⟩ : ∃ m, (rdNum r).1 = m := ⟨_, rfl⟩
  have HM := Lib.hid hm
  rw [hm] at hlt HC
  clear h hr hm
  go_enter Tryz.func32, Tryz.ntmps32
  go_wp2_with fail
  refine HC.out.mono ?_
  rintro e w1 ⟨rfl, hrd, hg⟩
  have HD := Lib.hid hrd
  have HG := Lib.hid hg
  clear hrd hg
  have HV := Lib.hid (show (rdNm r).1 = ((min m 100000 : Nat) : Int) by unfold rdNm; rw [HM.out])
  go_wp2_with fail
  go_ret
  exact ⟨int_ret (by rw [HV.out]; omega), HD.out, HG.out⟩
end Go.Proofs.YtbeaaieaffdgeaaGreatDoor
end
/- turned: what its walks share. -/
section
namespace Go.Proofs.YtbeaaieaffdgeaaGreatDoor
open Go.RowKit
set_option linter.unusedVariables false
set_option linter.unusedSimpArgs false

theorem BlkAt.set {w : World} {b : Nat} {cs : Array Value} {T : TypeId} (h : BlkAt w b cs T) (i : Nat) (v : Value) : BlkAt (w.setCell ⟨b, i, none⟩ v) b (cs.setIfInBounds i v) T := heap_setCell_same w b i cs T v h
theorem BlkAt.far {w : World} {b : Nat} {cs : Array Value} {T : TypeId} (h : BlkAt w b cs T) (p : Addr) (v : Value) (hp : p.block ≠ b) : BlkAt (w.setCell p v) b cs T :=
  (Below.heap_setCell w p v b (Ne.symm hp)).trans h
theorem IsA.cells {w : World} {a : Option Addr} {c : Nat} {A : List AbT} (h : IsA w a c A) (h0 : A.length ≠ 0) : ∃ b off, a = some ⟨b, off, none⟩ ∧ b < w.heap.size ∧ ∀ (j : Nat) (u : Value), (abRow A)[j]? = some u → w.cell? ((⟨b, off, none⟩ : Addr).add j) = some u := by
  obtain ⟨h1, h2, _, h3 | ⟨b, off, h3, h4, h5⟩⟩ := h
  · exact absurd h3 h0
  · refine ⟨b, off, h3, h4, fun j u hu => ?_⟩
    have hj : j < (abRow A).length := (List.getElem?_eq_some_iff.1 hu).1
    rw [abRow_len] at hj
    have e : j = j / 13 * 13 + j % 13 := by omega
    rw [add_plain, ← hu]
    have hd : j / 13 < A.length := by omega
    have := h5 (j / 13) hd (j % 13) (by omega)
    rw [show off + j / 13 * 13 + j % 13 = off + j by omega] at this
    rw [this]
    have h6 := abRow_at A (j / 13) hd (j % 13) (by omega)
    rw [← e] at h6
    exact h6.symm
theorem own_some {w : World} {base e size : Nat} {v : Value} {n : Nat} {xs : List Value} (h : w.ownsRow base e size v n xs) (hn : n ≠ 0) : ∃ g c, v = .slice (some ⟨g, 0, none⟩) n c ∧ base ≤ g ∧ g < w.heap.size ∧ n ≤ c ∧ c ≤ 9223372036854775807 := by
  rcases h.2 with ⟨_, h2⟩ | ⟨g, c, cur, rfl, hg, hh, hc, hm, _⟩
  · exact absurd h2 hn
  · unfold maxLen at hm
    exact ⟨g, c, rfl, hg, (Array.getElem?_eq_some_iff.1 hh).1, hc, hm⟩
theorem own_empty (w : World) (o1 o2 : Obj) : (((w.alloc o1).alloc o2).alloc (.cells #[] 42)).ownsRow (w.heap.size + 1 + 1) 42 13 (.slice (some ⟨w.heap.size + 1 + 1, 0, none⟩) 0 0) 0 [] := by
  have := World.ownsRow_lit (base := w.heap.size + 1 + 1) (e := 42) (size := 13) ((w.alloc o1).alloc o2) #[] 0 (by simp) (by unfold maxLen; omega) rfl
  simpa using this
theorem own_ne0 (h : Nat) : (Value.slice (some ⟨h + 1 + 1, 0, none⟩) 0 0).ownBlock ≠ some h := by
  intro e
  have : h + 1 + 1 = h := Option.some.inj e
  omega
theorem own_ne1 (h : Nat) : (Value.slice (some ⟨h + 1 + 1, 0, none⟩) 0 0).ownBlock ≠ some (h + 1) := by
  intro e
  have : h + 1 + 1 = h + 1 := Option.some.inj e
  omega
theorem own_ge (h : Nat) (k : Nat) (e : (Value.slice (some ⟨h + 1 + 1, 0, none⟩) 0 0).ownBlock = some k) : h ≤ k := by
  have : h + 1 + 1 = k := Option.some.inj e
  omega
theorem BlkAt.grown {w w' : World} {b : Nat} {cs : Array Value} {T : TypeId} {row : Option Nat} (h : BlkAt w b cs T) (k : w.grownBy w' row) (hr : row ≠ some b) : BlkAt w' b cs T :=
  (k.block b h.lt hr.symm).trans h
theorem blkAt_top (w : World) (cs : Array Value) (T : TypeId) : BlkAt (w.alloc (.cells cs T)).drew w.heap.size cs T := heap_alloc_new w _
/-- What turned tells, without addresses. -/
def lastM (A : List AbT) (g : AbT → AbT) : List AbT := A.dropLast ++ (A.getLast?.map g).toList
theorem lastM_snoc (A : List AbT) (t : AbT) (g : AbT → AbT) : lastM (A ++ [t]) g = A ++ [g t] := by simp [lastM]
def longNm : ByteArray := ⟨#[49, 50, 51, 52, 53, 54, 55, 56, 57, 48, 49, 50, 51, 52, 53, 54, 55]⟩
def turnM (p : Cd × List AbT) (f : Nat) (n : Int) : Cd × List AbT :=
  if p.2.length = 0 then p else
  match f with
  | 0 => ({ p.1 with k := n }, p.2)
  | 1 => ({ p.1 with c0 := n }, p.2)
  | 2 => ({ p.1 with c3 := n }, p.2)
  | 3 => ({ p.1 with col := n }, p.2)
  | 4 => ({ p.1 with pow := n }, p.2)
  | 5 => ({ p.1 with tou := n }, p.2)
  | 6 => ({ p.1 with keys := n }, p.2)
  | 7 => (p.1, lastM p.2 fun t => ({ t.1 with k := n }, t.2))
  | 8 => (p.1, lastM p.2 fun t => ({ t.1 with ev := n }, t.2))
  | 9 => (p.1, lastM p.2 fun t => ({ t.1 with wh := n }, t.2))
  | 10 => (p.1, lastM p.2 fun t => ({ t.1 with c1 := n }, t.2))
  | 11 => (p.1, lastM p.2 fun t => ({ t.1 with op := n }, t.2))
  | 12 => (p.1, lastM p.2 fun t => ({ t.1 with a := n }, t.2))
  | 13 => (p.1, lastM p.2 fun t => ({ t.1 with b := n }, t.2))
  | 14 => (p.1, lastM p.2 fun t => ({ t.1 with tap := !t.1.tap }, t.2))
  | 15 => (p.1, lastM p.2 fun t => ({ t.1 with tn := t.1.tn + 1 }, t.2.1 ++ [n], t.2.2))
  | 16 => (p.1, lastM p.2 fun t => ({ t.1 with tn := 0 }, [], t.2.2))
  | 17 => (p.1, lastM p.2 fun t => ({ t.1 with cn := t.1.cn + 1 }, t.2.1, t.2.2 ++ [⟨n, 0, 0⟩]))
  | 18 => (p.1, lastM p.2 fun t => ({ t.1 with cn := 0 }, t.2.1, []))
  | 19 => ({ p.1 with an := p.1.an - 1 }, p.2.dropLast)
  | 20 => ({ p.1 with an := p.1.an + 1 }, p.2 ++ p.2.head?.toList)
  | 21 => ({ p.1 with nm := ⟨#[]⟩ }, p.2)
  | 22 => ({ p.1 with nm := longNm }, p.2)
  | _ => ({ p.1 with an := 0 }, [])
theorem outC_own {X : Nat → Prop} {w W' : World} {B : Nat} {y : Cd} {A : List AbT} {p : Cd × List AbT} (hb : Below w.heap.size w W') (ho : W'.ownsRow B 42 13 (.slice y.aa y.an y.ac) y.an (abRow A)) (hB : w.heap.size ≤ B) (hX : ∀ g, X g → g < w.heap.size) (hn : A.length = y.an)
    (hr : ∀ W : World, W'.heap.size ≤ W.heap.size → (∀ g o, g < W'.heap.size → ¬ X g → W.cell? ⟨g, o, none⟩ = W'.cell? ⟨g, o, none⟩) → ∀ t ∈ A, AbR W t.1 t.2.1 t.2.2) (hy : CdOk y) (hp : p = (erC y, A.map erT)) :
    OutC X w W' (.returned (.agg #[.string y.nm, .int .i64 y.k, .int .i64 y.c0, .int .i64 y.c1, .int .i64 y.c2, .int .i64 y.c3, .int .i64 y.col, .int .i64 y.pow, .int .i64 y.tou, .int .i64 y.keys, .slice y.aa y.an y.ac])) p := by
  subst hp
  obtain ⟨a, c, hv, hrow⟩ := own_row ho
  obtain ⟨rfl, rfl⟩ : y.aa = a ∧ y.ac = c := by
    injection hv with h1 h2 h3
    exact ⟨h1, h3⟩
  refine ⟨y, A, rfl, fun W hs hc => ⟨hn, isA_row hn (hr W hs hc) (hrow.agree hs hc (fun p hp hx => ?_))⟩, hy, rfl, rfl, hb⟩
  have h1 := (ho.lt p.block (by rw [hp]; rfl)).1
  have h2 := hX _ hx
  omega
/-- A card's abilities, as they read behind the call, whatever becomes of X. -/
theorem CdX.abs {X : Nat → Prop} {w W' : World} {y : Cd} {A : List AbT} (h : CdX X w y A) (hb : Below w.heap.size w W') (W : World) (hs : W'.heap.size ≤ W.heap.size) (hc : ∀ g o, g < W'.heap.size → ¬ X g → W.cell? ⟨g, o, none⟩ = W'.cell? ⟨g, o, none⟩) : ∀ t ∈ A, AbR W t.1 t.2.1 t.2.2 :=
  (h.next hb W hs hc).2.2.2.1
theorem abRow_set (A : List AbT) (t t' : AbT) (i : Nat) (v : Value) (hi : i < 13) (h : (abCells t.1).set i v = abCells t'.1) (j : Nat) (hj : j = A.length * 13 + i) : (abRow (A ++ [t])).set j v = abRow (A ++ [t']) := by
  subst hj
  rw [abRow_append, abRow_append, List.set_append_right _ _ (by rw [abRow_len]; omega), abRow_len, Nat.add_sub_cancel_left]
  simp [abRow, h]
theorem snoc_of (A : List AbT) (h : A.length ≠ 0) : ∃ A0 t, A = A0 ++ [t] := by
  rcases List.eq_nil_or_concat A with rfl | ⟨A0, t, rfl⟩
  · exact absurd rfl h
  · exact ⟨A0, t, by simp⟩
end Go.Proofs.YtbeaaieaffdgeaaGreatDoor
end
/- A reader that is read on, while a struct of the call's own is filled. -/
section
namespace Go.Proofs.YtbeaaieaffdgeaaGreatDoor
open Go.RowKit
set_option linter.unusedVariables false
set_option linter.unusedSimpArgs false

theorem own_kept {w w' : World} {base e size n b : Nat} {v : Value} {xs : List Value} (h : w.ownsRow base e size v n xs) (g : w.grownBy w' (some b)) (hb : b < base) : w'.ownsRow base e size v n xs := by
  refine ⟨h.1, ?_⟩
  rcases h.2 with h2 | ⟨g0, c, cur, hv, hbg, hh, rest⟩
  · exact .inl h2
  · exact .inr ⟨g0, c, cur, hv, hbg, (g.block g0 (Array.getElem?_eq_some_iff.1 hh).1 (fun e => by have : g0 = b := Option.some.inj e; omega)).trans hh, rest⟩
theorem grown_cell {w W : World} {b : Nat} (h : w.grownBy W (some b)) (hs : w.heap.size ≤ W.heap.size) (p : Addr) (v : Value) (hp : w.heap.size ≤ p.block) : w.grownBy (W.setCell p v) (some b) :=
  have k : Below w.heap.size W (W.setCell p v) := (Below.refl _ W).setCell hp v
  ⟨k.os.trans h.os, k.tape.trans h.tape, k.output.trans h.output, Nat.le_trans h.size k.size, fun j hj hne => (k.block j hj).trans (h.block j hj hne)⟩
/-- Block b holds the document's reader in the state r; block x, of the call's own, the cells cs; of what was there before w nothing has changed but b. -/
def RX (b : Nat) (w : World) (r : RdS) (x : Nat) (cs : Array Value) (T : TypeId) (W : World) : Prop :=
  RdT 68 b r.1 r.2 W ∧ RdOk r ∧ w.heap.size ≤ x ∧ BlkAt W x cs T ∧ w.grownBy W (some b)
theorem RX.ne {b : Nat} {w W : World} {r : RdS} {x : Nat} {cs : Array Value} {T : TypeId} (h : RX b w r x cs T W) (hb : b < w.heap.size) : b ≠ x := by have := h.2.2.1; omega
theorem RX.kept {b : Nat} {w W W' : World} {r r' : RdS} {x : Nat} {cs : Array Value} {T : TypeId} (h : RX b w r x cs T W) (hb : b < w.heap.size) (ho : RdOk r') (h1 : RdT 68 b r'.1 r'.2 W') (g : W.grownBy W' (some b)) : RX b w r' x cs T W' :=
  ⟨h1, ho, h.2.2.1, h.2.2.2.1.grown g (fun e => h.ne hb (Option.some.inj e)), grown_then h.2.2.2.2 g⟩
theorem RX.num {b : Nat} {w W : World} {r : RdS} {x : Nat} {cs : Array Value} {T : TypeId} (h : RX b w r x cs T W) (hb : b < w.heap.size) :
    Calls Tryz.prog 32 #[.pointer (some ⟨b, 0, none⟩)] W fun e W' => e = .returned (.int .i64 (rdNm r).1) ∧ RX b w (rdNm r).2 x cs T W' :=
  (refNm_any b r W h.2.1 h.1).mono fun _ _ ⟨h1, h2, h3⟩ => ⟨h1, h.kept hb h.2.1.nm h2 h3⟩
theorem RX.int {b : Nat} {w W : World} {r : RdS} {x : Nat} {cs : Array Value} {T : TypeId} (h : RX b w r x cs T W) (hb : b < w.heap.size) :
    Calls Tryz.prog 58 #[.pointer (some ⟨b, 0, none⟩)] W fun e W' => e = .returned (.int .i64 (rdInt r).1) ∧ RX b w (rdInt r).2 x cs T W' :=
  (rint_any b r W h.2.1 h.1).mono fun _ _ ⟨h1, h2, h3⟩ => ⟨h1, h.kept hb h.2.1.num h2 h3⟩
theorem RX.set {b : Nat} {w W : World} {r : RdS} {x : Nat} {cs : Array Value} {T : TypeId} (h : RX b w r x cs T W) (hb : b < w.heap.size) (i : Nat) (v : Value) : RX b w r x (cs.setIfInBounds i v) T (W.setCell ⟨x, i, none⟩ v) :=
  ⟨h.1.kept (grown_set (World.grownBy.refl W (some x)) i v) (h.ne hb), h.2.1, h.2.2.1, h.2.2.2.1.set i v, grown_cell h.2.2.2.2 (h.2.2.2.2.size) _ _ h.2.2.1⟩
theorem RX.grow {b : Nat} {w W W' : World} {r : RdS} {x : Nat} {cs : Array Value} {T : TypeId} (h : RX b w r x cs T W) (hb : b < w.heap.size) (k : Below W.heap.size W W') : RX b w r x cs T W' :=
  ⟨h.1.below k, h.2.1, h.2.2.1, h.2.2.2.1.next k, grown_then h.2.2.2.2 (grown_below k _)⟩
theorem RX.ok {b : Nat} {w W : World} {r : RdS} {x : Nat} {cs : Array Value} {T : TypeId} (h : RX b w r x cs T W) :
    Calls Tryz.prog 33 #[.pointer (some ⟨b, 0, none⟩)] W fun e W' => e = .returned (.bool (!r.2)) ∧ W = W' := rok_any b r.1 r.2 W h.1
end Go.Proofs.YtbeaaieaffdgeaaGreatDoor
end
/- The document's reader, and what stands beside it. -/
section
namespace Go.Proofs.YtbeaaieaffdgeaaGreatDoor
open Go.RowKit
set_option linter.unusedVariables false
set_option linter.unusedSimpArgs false

/-- What is kept as long as only block b, and new blocks, are written. -/
def Kpt (b : Nat) (X : World → Prop) : Prop := ∀ W W' : World, X W → W.grownBy W' (some b) → X W'
/-- Block b holds the document's reader in the state r; what was there before w stands but for b; and X. -/
def SX (b : Nat) (w : World) (r : RdS) (X : World → Prop) (W : World) : Prop :=
  (RdT 68 b r.1 r.2 W ∧ RdOk r ∧ w.grownBy W (some b)) ∧ X W
theorem SX.lt {b : Nat} {w W : World} {r : RdS} {X : World → Prop} (h : SX b w r X W) : b < W.heap.size := h.1.1.lt
theorem SX.num {b : Nat} {w W : World} {r : RdS} {X : World → Prop} (h : SX b w r X W) (hX : Kpt b X) :
    Calls Tryz.prog 32 #[.pointer (some ⟨b, 0, none⟩)] W fun e W' => e = .returned (.int .i64 (rdNm r).1) ∧ SX b w (rdNm r).2 X W' :=
  (refNm_any b r W h.1.2.1 h.1.1).mono fun _ _ ⟨h1, h2, h3⟩ => ⟨h1, ⟨h2, h.1.2.1.nm, grown_then h.1.2.2 h3⟩, hX _ _ h.2 h3⟩
theorem SX.int {b : Nat} {w W : World} {r : RdS} {X : World → Prop} (h : SX b w r X W) (hX : Kpt b X) :
    Calls Tryz.prog 58 #[.pointer (some ⟨b, 0, none⟩)] W fun e W' => e = .returned (.int .i64 (rdInt r).1) ∧ SX b w (rdInt r).2 X W' :=
  (rint_any b r W h.1.2.1 h.1.1).mono fun _ _ ⟨h1, h2, h3⟩ => ⟨h1, ⟨h2, h.1.2.1.num, grown_then h.1.2.2 h3⟩, hX _ _ h.2 h3⟩
theorem SX.ok {b : Nat} {w W : World} {r : RdS} {X : World → Prop} (h : SX b w r X W) :
    Calls Tryz.prog 33 #[.pointer (some ⟨b, 0, none⟩)] W fun e W' => e = .returned (.bool (!r.2)) ∧ W = W' := rok_any b r.1 r.2 W h.1.1
theorem SX.grow {b : Nat} {w W W' : World} {r : RdS} {X : World → Prop} (h : SX b w r X W) (hX : Kpt b X) (k : Below W.heap.size W W') : SX b w r X W' :=
  ⟨⟨h.1.1.below k, h.1.2.1, grown_then h.1.2.2 (grown_below k _)⟩, hX _ _ h.2 (grown_below k _)⟩
theorem SX.to {b : Nat} {w W : World} {r : RdS} {X X' : World → Prop} (h : SX b w r X W) (hX : X W → X' W) : SX b w r X' W := ⟨h.1, hX h.2⟩
theorem grown_rowb {w W W' : World} {b : Nat} {row : Option Nat} (h : w.grownBy W (some b)) (g : W.grownBy W' row) (hr : ∀ k, row = some k → w.heap.size ≤ k) : w.grownBy W' (some b) :=
  ⟨g.os.trans h.os, g.tape.trans h.tape, g.output.trans h.output, Nat.le_trans h.size g.size, fun k hk hkb => (g.block k (Nat.lt_of_lt_of_le hk h.size) (fun e => by have := hr k e.symm; omega)).trans (h.block k hk hkb)⟩
theorem SX.row {b : Nat} {w W W' : World} {r : RdS} {X X' : World → Prop} {row : Option Nat} (h : SX b w r X W) (g : W.grownBy W' row) (hr : ∀ k, row = some k → w.heap.size ≤ k ∧ k ≠ b) (hX : X' W') : SX b w r X' W' :=
  ⟨⟨(g.block b h.lt (fun e => (hr b e.symm).2 rfl)).trans h.1.1, h.1.2.1, grown_rowb h.1.2.2 g (fun k e => (hr k e).1)⟩, hX⟩
theorem SX.put {b : Nat} {w W : World} {r : RdS} {X X' : World → Prop} {q i : Nat} {v : Value} (h : SX b w r X W) (hq : w.heap.size ≤ q) (hb : q ≠ b) (hX : X' (W.setCell ⟨q, i, none⟩ v)) : SX b w r X' (W.setCell ⟨q, i, none⟩ v) :=
  h.row (row := some q) (grown_set (World.grownBy.refl W (some q)) i v) (fun k e => by injection e with e; subst e; exact ⟨hq, hb⟩) hX
theorem kpt_blk {b x : Nat} {cs : Array Value} {T : TypeId} (h : x ≠ b) : Kpt b (BlkAt · x cs T) := fun _ _ hx g => hx.grown g (fun e => h (Option.some.inj e).symm)
theorem kpt_own {b base e size n : Nat} {v : Value} {xs : List Value} (h : b < base) : Kpt b (fun W => W.ownsRow base e size v n xs) := fun _ _ hx g => own_kept hx g h
theorem kpt_and {b : Nat} {X Y : World → Prop} (h : Kpt b X) (k : Kpt b Y) : Kpt b (fun W => X W ∧ Y W) := fun W W' hx g => ⟨h W W' hx.1 g, k W W' hx.2 g⟩
theorem kpt_kd {b : Nat} {S : List TypeId} {R : World → Prop} : Kpt b (Kd S b R) := fun _ _ hx g => hx.read g
theorem kpt_all {α : Type} {b : Nat} {L : List α} {X : α → World → Prop} (h : ∀ x ∈ L, Kpt b (X x)) : Kpt b (fun W => ∀ x ∈ L, X x W) := fun W W' hx g x hm => h x hm W W' (hx x hm) g
/-- A row stands where one of another type grows. -/
theorem own_other {w w' : World} {base e size n : Nat} {v : Value} {xs : List Value} {row : Option Nat} {E : TypeId} (h : w.ownsRow base e size v n xs) (g : w.grownBy w' row) (hE : E ≠ e) (hr : ∀ k, row = some k → ∃ c fz, w.heap[k]? = some (.cells c E fz)) : w'.ownsRow base e size v n xs := by
  refine ⟨h.1, ?_⟩
  rcases h.2 with h2 | ⟨g0, c, cur, hv, hbg, hh, rest⟩
  · exact .inl h2
  · exact .inr ⟨g0, c, cur, hv, hbg, (g.block g0 (Array.getElem?_eq_some_iff.1 hh).1 (fun e => by
      obtain ⟨c', fz', h'⟩ := hr g0 e.symm
      rw [hh] at h'
      injection h' with h'
      injection h' with _ h'
      exact hE h'.symm)).trans hh, rest⟩
theorem blk_other {w w' : World} {x : Nat} {cs : Array Value} {T E : TypeId} {row : Option Nat} (h : BlkAt w x cs T) (g : w.grownBy w' row) (hE : E ≠ T) (hr : ∀ k, row = some k → ∃ c fz, w.heap[k]? = some (.cells c E fz)) : BlkAt w' x cs T :=
  h.grown g (fun e => by
    obtain ⟨c', fz', h'⟩ := hr x e
    have h2 : w.heap[x]? = some (.cells cs T (0, 0)) := h
    rw [h2] at h'
    injection h' with h'
    injection h' with _ h'
    exact hE h'.symm)
end Go.Proofs.YtbeaaieaffdgeaaGreatDoor
end
/- What stands beside the document's reader while an ability is read. -/
section
namespace Go.Proofs.YtbeaaieaffdgeaaGreatDoor
open Go.RowKit
set_option linter.unusedVariables false
set_option linter.unusedSimpArgs false

abbrev zeroA : Array Value := #[.int .i64 0, .int .i64 0, .int .i64 0, .int .i64 0, .int .i64 0, .int .i64 0, .int .i64 0, .bool false, .slice none 0 0, .slice none 0 0, .int .i64 0, .int .i64 0, .int .i64 0]
/-- The ability that is filled, the one that is told, and the targets. -/
def XA (xb zb : Nat) (cs : Array Value) (sv : Value) (T : List Int) (W : World) : Prop :=
  (BlkAt W xb cs 42 ∧ BlkAt W zb zeroA 42) ∧ W.ownsRow (xb + 1) 3 1 sv T.length (T.map (Value.int .i64))
/-- And the code. -/
def XB (xb zb : Nat) (cs : Array Value) (sv : Value) (T : List Int) (cv : Value) (i : Nat) (C : List Ins) (W : World) : Prop :=
  XA xb zb cs sv T W ∧ W.ownsRow (xb + 1) 82 3 cv i (insCells C)
/-- And an instruction that is filled. -/
def XC (xb zb : Nat) (cs : Array Value) (sv : Value) (T : List Int) (cv : Value) (i : Nat) (C : List Ins) (qb : Nat) (q : Array Value) (W : World) : Prop :=
  XB xb zb cs sv T cv i C W ∧ BlkAt W qb q 82
theorem kpt_XA {b xb zb : Nat} {cs : Array Value} {sv : Value} {T : List Int} (h : b < zb) (hz : zb < xb) : Kpt b (XA xb zb cs sv T) := fun W W' ⟨⟨h1, h2⟩, h3⟩ g =>
  ⟨⟨kpt_blk (by omega) W W' h1 g, kpt_blk (by omega) W W' h2 g⟩, own_kept h3 g (by omega)⟩
theorem kpt_XB {b xb zb i : Nat} {cs : Array Value} {sv cv : Value} {T : List Int} {C : List Ins} (h : b < zb) (hz : zb < xb) : Kpt b (XB xb zb cs sv T cv i C) := fun W W' ⟨h1, h2⟩ g => ⟨kpt_XA h hz W W' h1 g, own_kept h2 g (by omega)⟩
theorem kpt_XC {b xb zb i qb : Nat} {cs q : Array Value} {sv cv : Value} {T : List Int} {C : List Ins} (h : b < zb) (hz : zb < xb) (hq : qb ≠ b) : Kpt b (XC xb zb cs sv T cv i C qb q) := fun W W' ⟨h1, h2⟩ g => ⟨kpt_XB h hz W W' h1 g, kpt_blk hq W W' h2 g⟩
theorem XA.set {xb zb : Nat} {cs : Array Value} {sv : Value} {T : List Int} {W : World} (h : XA xb zb cs sv T W) (hz : zb < xb) (i : Nat) (v : Value) : XA xb zb (cs.setIfInBounds i v) sv T (W.setCell ⟨xb, i, none⟩ v) :=
  ⟨⟨h.1.1.set i v, h.1.2.far _ _ (by show xb ≠ zb; omega)⟩, ownsRow_setCell_below h.2 (a := ⟨xb, i, none⟩) (by show xb < xb + 1; omega) v⟩
theorem XB.set {xb zb i : Nat} {cs : Array Value} {sv cv : Value} {T : List Int} {C : List Ins} {W : World} (h : XB xb zb cs sv T cv i C W) (hz : zb < xb) (j : Nat) (v : Value) : XB xb zb (cs.setIfInBounds j v) sv T cv i C (W.setCell ⟨xb, j, none⟩ v) :=
  ⟨h.1.set hz j v, ownsRow_setCell_below h.2 (a := ⟨xb, j, none⟩) (by show xb < xb + 1; omega) v⟩
/-- A store into the instruction that is filled. -/
theorem XC.put {xb zb i qb : Nat} {cs q : Array Value} {sv cv : Value} {T : List Int} {C : List Ins} {W : World} (h : XC xb zb cs sv T cv i C qb q W) (hz : zb < xb) (hq : xb < qb) (h1 : sv.ownBlock ≠ some qb) (h2 : cv.ownBlock ≠ some qb) (j : Nat) (v : Value) :
    XC xb zb cs sv T cv i C qb (q.setIfInBounds j v) (W.setCell ⟨qb, j, none⟩ v) :=
  ⟨⟨⟨⟨h.1.1.1.1.far _ _ (by show qb ≠ xb; omega), h.1.1.1.2.far _ _ (by show qb ≠ zb; omega)⟩, ownsRow_setCell_other h.1.1.2 (a := ⟨qb, j, none⟩) h1 v⟩, ownsRow_setCell_other h.1.2 (a := ⟨qb, j, none⟩) h2 v⟩, h.2.set j v⟩
/-- The code grows. -/
theorem XB.app {xb zb i n : Nat} {cs : Array Value} {sv cv nv : Value} {T : List Int} {C C' : List Ins} {W W' : World} (h : XB xb zb cs sv T cv i C W) (g : W.grownBy W' cv.ownBlock) (hn : W'.ownsRow (xb + 1) 82 3 nv n (insCells C')) : XB xb zb cs sv T nv n C' W' := by
  have hk := ownsRow_kind h.2
  exact ⟨⟨⟨blk_other h.1.1.1 g (by decide) hk, blk_other h.1.1.2 g (by decide) hk⟩, own_other h.1.2 g (by decide) hk⟩, hn⟩
theorem own_fresh {W : World} {base e size n : Nat} {v : Value} {xs : List Value} (h : W.ownsRow base e size v n xs) (B : Nat) (hB : B = W.heap.size) : v.ownBlock ≠ some B := fun e => by
  have := (h.lt B e).2
  omega
theorem insCells_snoc (C : List Ins) (y : Ins) : insCells (C ++ [y]) = insCells C ++ [.int .i64 y.op, .int .i64 y.a, .int .i64 y.b] := by rw [insCells_append]; rfl
/-- What was read, read. -/
theorem XB.reads {xb zb i : Nat} {b : Nat} {cs : Array Value} {sv cv : Value} {T : List Int} {C : List Ins} {W : World} (h : XB xb zb cs sv T cv i C W) (hb : b < xb + 1) (hi : C.length = i) (x : Ab) (h1 : sv = .slice x.ta x.tn x.tc) (h2 : cv = .slice x.ca x.cn x.cc) :
    Kd [3, 82] b (fun W => AbR W x T C) W ∧ T.length = x.tn ∧ C.length = x.cn := by
  obtain ⟨a1, c1, e1, k1⟩ := own_kd h.1.2 hb
  obtain ⟨a2, c2, e2, k2⟩ := own_kd h.2 hb
  rw [e1] at h1
  rw [e2] at h2
  injection h1 with p1 p2 p3
  injection h2 with s1 s2 s3
  subst hi
  refine ⟨((k1.more (S' := [3, 82]) (fun e he => by simp at he; simp [he])).two (k2.more (S' := [3, 82]) (fun e he => by simp at he; simp [he]))).map fun W hW => ⟨⟨p2, ?_⟩, s2, ?_⟩, p2, s2⟩
  · rw [← p1, ← p3]; exact isL_row rfl hW.1
  · rw [← s1, ← s3]; exact isC_row rfl hW.2
/-- Thirteen stores over an ability. -/
theorem stored13 (w : World) (b : Nat) (T : TypeId) (v0 v1 v2 v3 v4 v5 v6 v7 v8 v9 v10 v11 v12 u0 u1 u2 u3 u4 u5 u6 u7 u8 u9 u10 u11 u12 : Value) (h : BlkAt w b #[v0, v1, v2, v3, v4, v5, v6, v7, v8, v9, v10, v11, v12] T) :
    BlkAt (((((((((((((w.setCell ⟨b, 0, none⟩ u0).setCell ⟨b, 1, none⟩ u1).setCell ⟨b, 2, none⟩ u2).setCell ⟨b, 3, none⟩ u3).setCell ⟨b, 4, none⟩ u4).setCell ⟨b, 5, none⟩ u5).setCell ⟨b, 6, none⟩ u6).setCell ⟨b, 7, none⟩ u7).setCell ⟨b, 8, none⟩ u8).setCell ⟨b, 9, none⟩ u9).setCell ⟨b, 10, none⟩ u10).setCell ⟨b, 11, none⟩ u11).setCell ⟨b, 12, none⟩ u12) b #[u0, u1, u2, u3, u4, u5, u6, u7, u8, u9, u10, u11, u12] T ∧ w.grownBy (((((((((((((w.setCell ⟨b, 0, none⟩ u0).setCell ⟨b, 1, none⟩ u1).setCell ⟨b, 2, none⟩ u2).setCell ⟨b, 3, none⟩ u3).setCell ⟨b, 4, none⟩ u4).setCell ⟨b, 5, none⟩ u5).setCell ⟨b, 6, none⟩ u6).setCell ⟨b, 7, none⟩ u7).setCell ⟨b, 8, none⟩ u8).setCell ⟨b, 9, none⟩ u9).setCell ⟨b, 10, none⟩ u10).setCell ⟨b, 11, none⟩ u11).setCell ⟨b, 12, none⟩ u12) (some b) := by
  have h0 : BlkAt (w.setCell ⟨b, 0, none⟩ u0) b #[u0, v1, v2, v3, v4, v5, v6, v7, v8, v9, v10, v11, v12] T := by simpa using h.set' 0 u0
  have h1 : BlkAt ((w.setCell ⟨b, 0, none⟩ u0).setCell ⟨b, 1, none⟩ u1) b #[u0, u1, v2, v3, v4, v5, v6, v7, v8, v9, v10, v11, v12] T := by simpa using h0.set' 1 u1
  have h2 : BlkAt (((w.setCell ⟨b, 0, none⟩ u0).setCell ⟨b, 1, none⟩ u1).setCell ⟨b, 2, none⟩ u2) b #[u0, u1, u2, v3, v4, v5, v6, v7, v8, v9, v10, v11, v12] T := by simpa using h1.set' 2 u2
  have h3 : BlkAt ((((w.setCell ⟨b, 0, none⟩ u0).setCell ⟨b, 1, none⟩ u1).setCell ⟨b, 2, none⟩ u2).setCell ⟨b, 3, none⟩ u3) b #[u0, u1, u2, u3, v4, v5, v6, v7, v8, v9, v10, v11, v12] T := by simpa using h2.set' 3 u3
  have h4 : BlkAt (((((w.setCell ⟨b, 0, none⟩ u0).setCell ⟨b, 1, none⟩ u1).setCell ⟨b, 2, none⟩ u2).setCell ⟨b, 3, none⟩ u3).setCell ⟨b, 4, none⟩ u4) b #[u0, u1, u2, u3, u4, v5, v6, v7, v8, v9, v10, v11, v12] T := by simpa using h3.set' 4 u4
  have h5 : BlkAt ((((((w.setCell ⟨b, 0, none⟩ u0).setCell ⟨b, 1, none⟩ u1).setCell ⟨b, 2, none⟩ u2).setCell ⟨b, 3, none⟩ u3).setCell ⟨b, 4, none⟩ u4).setCell ⟨b, 5, none⟩ u5) b #[u0, u1, u2, u3, u4, u5, v6, v7, v8, v9, v10, v11, v12] T := by simpa using h4.set' 5 u5
  have h6 : BlkAt (((((((w.setCell ⟨b, 0, none⟩ u0).setCell ⟨b, 1, none⟩ u1).setCell ⟨b, 2, none⟩ u2).setCell ⟨b, 3, none⟩ u3).setCell ⟨b, 4, none⟩ u4).setCell ⟨b, 5, none⟩ u5).setCell ⟨b, 6, none⟩ u6) b #[u0, u1, u2, u3, u4, u5, u6, v7, v8, v9, v10, v11, v12] T := by simpa using h5.set' 6 u6
  have h7 : BlkAt ((((((((w.setCell ⟨b, 0, none⟩ u0).setCell ⟨b, 1, none⟩ u1).setCell ⟨b, 2, none⟩ u2).setCell ⟨b, 3, none⟩ u3).setCell ⟨b, 4, none⟩ u4).setCell ⟨b, 5, none⟩ u5).setCell ⟨b, 6, none⟩ u6).setCell ⟨b, 7, none⟩ u7) b #[u0, u1, u2, u3, u4, u5, u6, u7, v8, v9, v10, v11, v12] T := by simpa using h6.set' 7 u7
  have h8 : BlkAt (((((((((w.setCell ⟨b, 0, none⟩ u0).setCell ⟨b, 1, none⟩ u1).setCell ⟨b, 2, none⟩ u2).setCell ⟨b, 3, none⟩ u3).setCell ⟨b, 4, none⟩ u4).setCell ⟨b, 5, none⟩ u5).setCell ⟨b, 6, none⟩ u6).setCell ⟨b, 7, none⟩ u7).setCell ⟨b, 8, none⟩ u8) b #[u0, u1, u2, u3, u4, u5, u6, u7, u8, v9, v10, v11, v12] T := by simpa using h7.set' 8 u8
  have h9 : BlkAt ((((((((((w.setCell ⟨b, 0, none⟩ u0).setCell ⟨b, 1, none⟩ u1).setCell ⟨b, 2, none⟩ u2).setCell ⟨b, 3, none⟩ u3).setCell ⟨b, 4, none⟩ u4).setCell ⟨b, 5, none⟩ u5).setCell ⟨b, 6, none⟩ u6).setCell ⟨b, 7, none⟩ u7).setCell ⟨b, 8, none⟩ u8).setCell ⟨b, 9, none⟩ u9) b #[u0, u1, u2, u3, u4, u5, u6, u7, u8, u9, v10, v11, v12] T := by simpa using h8.set' 9 u9
  have h10 : BlkAt (((((((((((w.setCell ⟨b, 0, none⟩ u0).setCell ⟨b, 1, none⟩ u1).setCell ⟨b, 2, none⟩ u2).setCell ⟨b, 3, none⟩ u3).setCell ⟨b, 4, none⟩ u4).setCell ⟨b, 5, none⟩ u5).setCell ⟨b, 6, none⟩ u6).setCell ⟨b, 7, none⟩ u7).setCell ⟨b, 8, none⟩ u8).setCell ⟨b, 9, none⟩ u9).setCell ⟨b, 10, none⟩ u10) b #[u0, u1, u2, u3, u4, u5, u6, u7, u8, u9, u10, v11, v12] T := by simpa using h9.set' 10 u10
  have h11 : BlkAt ((((((((((((w.setCell ⟨b, 0, none⟩ u0).setCell ⟨b, 1, none⟩ u1).setCell ⟨b, 2, none⟩ u2).setCell ⟨b, 3, none⟩ u3).setCell ⟨b, 4, none⟩ u4).setCell ⟨b, 5, none⟩ u5).setCell ⟨b, 6, none⟩ u6).setCell ⟨b, 7, none⟩ u7).setCell ⟨b, 8, none⟩ u8).setCell ⟨b, 9, none⟩ u9).setCell ⟨b, 10, none⟩ u10).setCell ⟨b, 11, none⟩ u11) b #[u0, u1, u2, u3, u4, u5, u6, u7, u8, u9, u10, u11, v12] T := by simpa using h10.set' 11 u11
  have h12 : BlkAt (((((((((((((w.setCell ⟨b, 0, none⟩ u0).setCell ⟨b, 1, none⟩ u1).setCell ⟨b, 2, none⟩ u2).setCell ⟨b, 3, none⟩ u3).setCell ⟨b, 4, none⟩ u4).setCell ⟨b, 5, none⟩ u5).setCell ⟨b, 6, none⟩ u6).setCell ⟨b, 7, none⟩ u7).setCell ⟨b, 8, none⟩ u8).setCell ⟨b, 9, none⟩ u9).setCell ⟨b, 10, none⟩ u10).setCell ⟨b, 11, none⟩ u11).setCell ⟨b, 12, none⟩ u12) b #[u0, u1, u2, u3, u4, u5, u6, u7, u8, u9, u10, u11, u12] T := by simpa using h11.set' 12 u12
  exact ⟨h12, grown_set (grown_set (grown_set (grown_set (grown_set (grown_set (grown_set (grown_set (grown_set (grown_set (grown_set (grown_set (grown_set (World.grownBy.refl w (some b)) 0 u0) 1 u1) 2 u2) 3 u3) 4 u4) 5 u5) 6 u6) 7 u7) 8 u8) 9 u9) 10 u10) 11 u11) 12 u12⟩
end Go.Proofs.YtbeaaieaffdgeaaGreatDoor
end
