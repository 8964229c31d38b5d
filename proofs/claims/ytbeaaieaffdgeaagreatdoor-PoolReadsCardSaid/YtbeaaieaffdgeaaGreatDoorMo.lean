/- Texts that belong together: PoolLa, WireL, WireLa, WireLb. -/
import Derived.Test.YtbeaaieaffdgeaaGreatDoorMg
import Derived.ChangeKeysEq
import Derived.Laws.StructEq
import Derived.Laws.IdiomArrays
import Derived.Test.YtbeaaieaffdgeaaGreatDoorMb
/- Equal instructions, equal costs; lists that are one but for their addresses. -/
section
namespace Go.Proofs.YtbeaaieaffdgeaaGreatDoor
open Go.RowKit
set_option linter.unusedVariables false
set_option linter.unusedSimpArgs false

theorem m_step (d : Nat) (xs ys : Array Value) (i : Nat) (is : List Nat) (x y : Int) (hx : xs[i * 1]? = some (.int .i64 x)) (hy : ys[i * 1]? = some (.int .i64 y)) (w : World) :
    (Op.eqItems (d + 1) 3 1 xs ys (i :: is)).run Tryz.prog w = if (x == y) = true then (Op.eqItems (d + 1) 3 1 xs ys is).run Tryz.prog w else .ok false w := by
  have p1 := run_part_plain (P := Tryz.prog) (w := w) (e := 3) (by kernel_rfl) hx
  have p2 := run_part_plain (P := Tryz.prog) (w := w) (e := 3) (by kernel_rfl) hy
  have p3 := run_equalIn_int (P := Tryz.prog) w d 3 .i64 .i64 x y Tryz.underlying3
  simp only [Op.eqItems, Sem.run_bind, p1, p2, p3, Result.andThen_ok]
  cases x == y <;> simp
theorem mana_eq (a0 a1 a2 a3 : Int) (w : World) :
    (Op.equalIn 10000 35 (.agg #[.int .i64 a0, .int .i64 a1, .int .i64 a2, .int .i64 a3]) (.agg #[.int .i64 a0, .int .i64 a1, .int .i64 a2, .int .i64 a3])).run Tryz.prog w = .ok true w := by
  obtain ⟨i, hi, _, _, _⟩ := info_parts (show (Tryz.prog.info? 3).map (fun i => (i.zero, i.size, i.bytes)) = some (some (.int .i64 0), 1, 8) by kernel_rfl)
  rw [show (10000 : Nat) = 9999 + 1 from rfl, run_equalIn_array w 9999 _ _ Tryz.underlying35 hi, show Tryz.prog.cellsOf 3 = 1 by kernel_rfl, show List.range 4 = [0, 1, 2, 3] from rfl,
    show (9999 : Nat) = 9998 + 1 from rfl, m_step 9998 _ _ 0 _ a0 a0 rfl rfl, m_step 9998 _ _ 1 _ a1 a1 rfl rfl, m_step 9998 _ _ 2 _ a2 a2 rfl rfl, m_step 9998 _ _ 3 _ a3 a3 rfl rfl]
  simp [Op.eqItems]
theorem fields_ins : (Tryz.prog.fieldsOf 82).toList.map (fun f => (f.type, f.offset)) = [(3, 0), (3, 1), (3, 2)] := by kernel_rfl
theorem und_ins : Tryz.prog.underlying 82 = some (.struct (Tryz.prog.fieldsOf 82)) := by kernel_rfl
theorem held_ins : Tryz.prog.stoodInHeld 82 = false := by kernel_rfl
theorem equal_ins (x y : Ins) (w : World) : (Op.equalIn 10000 82 (.agg #[.int .i64 x.op, .int .i64 x.a, .int .i64 x.b]) (.agg #[.int .i64 y.op, .int .i64 y.a, .int .i64 y.b])).run Tryz.prog w = .ok (decide (x = y)) w := by
  obtain ⟨o, a, b⟩ := x
  obtain ⟨p, c, d⟩ := y
  rw [show (10000 : Nat) = 9999 + 1 from rfl, run_equalIn_struct w 9999 _ _ _ und_ins held_ins]
  have hf := fields_ins
  have hn : ((Tryz.prog.fieldsOf 82).toList.map fun f => f.name != "_") = [true, true, true] := by kernel_rfl
  generalize (Tryz.prog.fieldsOf 82).toList = fs at *
  have hl : fs.length = 3 := by simpa using congrArg List.length hf
  obtain ⟨f0, f1, f2, rfl⟩ : ∃ f0 f1 f2, fs = [f0, f1, f2] := by
    match fs, hl with
    | [f0, f1, f2], _ => exact ⟨f0, f1, f2, rfl⟩
  simp only [List.map_cons, List.map_nil, List.cons.injEq, Prod.mk.injEq, and_true] at hf hn
  obtain ⟨⟨t0, o0⟩, ⟨t1, o1⟩, ⟨t2, o2⟩⟩ := hf
  obtain ⟨n0, n1, n2⟩ := hn
  have m0 : f0.name ≠ "_" := bne_iff_ne.1 n0
  have m1 : f1.name ≠ "_" := bne_iff_ne.1 n1
  have m2 : f2.name ≠ "_" := bne_iff_ne.1 n2
  have p0 := fun (u : Value) (xs : Array Value) (h : xs[0]? = some u) => run_part_plain (P := Tryz.prog) (w := w) (e := 3) (by kernel_rfl) h
  have p1 := fun (u : Value) (xs : Array Value) (h : xs[1]? = some u) => run_part_plain (P := Tryz.prog) (w := w) (e := 3) (by kernel_rfl) h
  have p2 := fun (u : Value) (xs : Array Value) (h : xs[2]? = some u) => run_part_plain (P := Tryz.prog) (w := w) (e := 3) (by kernel_rfl) h
  have q : ∀ a b : Int, (Op.equalIn 9999 3 (.int .i64 a) (.int .i64 b)).run Tryz.prog w = .ok (a == b) w := fun a b => run_equalIn_int (P := Tryz.prog) w 9998 3 .i64 .i64 a b Tryz.underlying3
  simp only [Op.eqFields, m0, m1, m2, t0, t1, t2, o0, o1, o2, Sem.run_bind, Sem.run_ite, ne_eq, not_false_eq_true, if_true,
    p0 (.int .i64 o) #[.int .i64 o, .int .i64 a, .int .i64 b] rfl, p0 (.int .i64 p) #[.int .i64 p, .int .i64 c, .int .i64 d] rfl,
    p1 (.int .i64 a) #[.int .i64 o, .int .i64 a, .int .i64 b] rfl, p1 (.int .i64 c) #[.int .i64 p, .int .i64 c, .int .i64 d] rfl,
    p2 (.int .i64 b) #[.int .i64 o, .int .i64 a, .int .i64 b] rfl, p2 (.int .i64 d) #[.int .i64 p, .int .i64 c, .int .i64 d] rfl, Result.andThen_ok, q]
  by_cases e0 : o = p
  · by_cases e1 : a = c
    · by_cases e2 : b = d
      · subst e0 e1 e2; simp
      · simp [e0, e1, e2]
    · simp [e0, e1]
  · simp [e0]
theorem ins_same (x : Ins) (w : World) : (Op.equalIn 10000 82 (.agg #[.int .i64 x.op, .int .i64 x.a, .int .i64 x.b]) (.agg #[.int .i64 x.op, .int .i64 x.a, .int .i64 x.b])).run Tryz.prog w = .ok true w := by
  rw [equal_ins, decide_eq_true rfl]
theorem bareA_twin {z x : Ab} {T T2 : List Int} {C C2 : List Ins} (h : bareA (z, T2, C2) = bareA (x, T, C)) : T2 = T ∧ C2 = C ∧ z.k = x.k ∧ z.ev = x.ev ∧ z.wh = x.wh ∧ z.c0 = x.c0 ∧ z.c1 = x.c1 ∧ z.c2 = x.c2 ∧ z.c3 = x.c3 ∧ z.tap = x.tap ∧ z.op = x.op ∧ z.a = x.a ∧ z.b = x.b := by
  simp only [bareA, Prod.mk.injEq, Ab.mk.injEq] at h
  obtain ⟨⟨h1, h2, h3, h4, h5, h6, h7, h8, _, _, _, _, _, _, h9, h10, h11⟩, h12, h13⟩ := h
  exact ⟨h12, h13, h1, h2, h3, h4, h5, h6, h7, h8, h9, h10, h11⟩
theorem bareC_twin {z y : Cd} {A B : List AbT} (h : bareC (z, B) = bareC (y, A)) : B.map bareA = A.map bareA ∧ z.nm = y.nm ∧ z.k = y.k ∧ z.c0 = y.c0 ∧ z.c1 = y.c1 ∧ z.c2 = y.c2 ∧ z.c3 = y.c3 ∧ z.col = y.col ∧ z.pow = y.pow ∧ z.tou = y.tou ∧ z.keys = y.keys := by
  simp only [bareC, Prod.mk.injEq, Cd.mk.injEq] at h
  obtain ⟨⟨h1, h2, h3, h4, h5, h6, h7, h8, h9, h10, _, _, _⟩, h11⟩ := h
  exact ⟨h11, h1, h2, h3, h4, h5, h6, h7, h8, h9, h10⟩
theorem twin_at {L M : List CdT} (h : M.map bareC = L.map bareC) (k : Nat) (hk : k < L.length) (hm : k < M.length) : bareC M[k] = bareC L[k] := by
  have e : (M.map bareC)[k]? = (L.map bareC)[k]? := by rw [h]
  simpa [List.getElem?_eq_getElem, hk, hm] using e
theorem twinA_at {L M : List AbT} (h : M.map bareA = L.map bareA) (k : Nat) (hk : k < L.length) (hm : k < M.length) : bareA M[k] = bareA L[k] := by
  have e : (M.map bareA)[k]? = (L.map bareA)[k]? := by rw [h]
  simpa [List.getElem?_eq_getElem, hk, hm] using e
end Go.Proofs.YtbeaaieaffdgeaaGreatDoor
end
/- The document's reader takes a number. -/
section
namespace Go.Proofs.YtbeaaieaffdgeaaGreatDoor
open Go.RowKit
set_option linter.unusedVariables false

/-- What is left of the first byte when k ones are taken off. -/
def offB (c k : Nat) : Nat := c - (256 - 2 ^ (8 - k))
theorem off_step : ∀ c : Fin 256, ∀ n : Fin 9, n.val < lead c.val → (offB c.val n.val / 2 ^ (7 - n.val)) % 2 = 1 ∧ 128 / 2 ^ n.val ≤ offB c.val n.val ∧ offB c.val n.val - 128 / 2 ^ n.val = offB c.val (n.val + 1) := by decide +kernel
theorem off_stop : ∀ c : Fin 256, lead c.val < 8 → (offB c.val (lead c.val) / 2 ^ (7 - lead c.val)) % 2 = 0 := by decide +kernel
theorem off_bit (a m : Nat) : (((a : Nat) : Int) / 2 ^ m).tmod 2 = ((a / 2 ^ m % 2 : Nat) : Int) := by
  have e : ((a : Nat) : Int) / 2 ^ m = ((a / 2 ^ m : Nat) : Int) := by simp
  rw [e]
  generalize a / 2 ^ m = q
  rw [Int.tmod_eq_emod_of_nonneg (by omega)]
  omega
theorem off_yes (c n : Nat) (hc : c < 256) (h : n < lead c) : ((((offB c n : Nat) : Int) / 2 ^ (7 - n)).tmod 2 == 1) = true := by
  have h8 := lead_le c
  have := (off_step ⟨c, hc⟩ ⟨n, by omega⟩ h).1
  simp only at this
  rw [off_bit, this]; rfl
theorem off_no (c : Nat) (hc : c < 256) (h : lead c < 8) : ((((offB c (lead c) : Nat) : Int) / 2 ^ (7 - lead c)).tmod 2 == 1) = false := by
  have := off_stop ⟨c, hc⟩ h
  simp only at this
  rw [off_bit, this]; rfl
theorem off_next (c n : Nat) (hc : c < 256) (h : n < lead c) : wrap64 (((offB c n : Nat) : Int) - 128 / 2 ^ n) = ((offB c (n + 1) : Nat) : Int) := by
  have h8 := lead_le c
  obtain ⟨_, h2, h3⟩ := off_step ⟨c, hc⟩ ⟨n, by omega⟩ h
  simp only at h2 h3
  have e : (128 : Int) / 2 ^ n = ((128 / 2 ^ n : Nat) : Int) := by simp
  have hlt : offB c n < 256 := by unfold offB; omega
  rw [e, ← h3]
  generalize 128 / 2 ^ n = g at *
  unfold wrap64
  omega
theorem roomB_ge (n k : Nat) (h : sortN n ≤ k) (hk : k ≤ 8) : roomB n k = true := by
  have hk : k = 0 ∨ k = 1 ∨ k = 2 ∨ k = 3 ∨ k = 4 ∨ k = 5 ∨ k = 6 ∨ k = 7 ∨ k = 8 := by omega
  unfold sortN at h
  repeat' split at h
  all_goals
    rcases hk with rfl | rfl | rfl | rfl | rfl | rfl | rfl | rfl | rfl
    all_goals (first | omega | (simp [roomB]; done) | (simp [roomB]; omega))
theorem low_c : ∀ c : Fin 256, lead c.val < 8 → (lowB c.val + 1) * 256 ^ (lead c.val) ≤ 2 ^ (7 + 7 * lead c.val) := by decide +kernel
/-- What a first byte with q ones says has room in sort q. -/
theorem sort_le (s : ByteArray) (c : Nat) (hc : c < 256) : sortN (valAt s c (lead c + 1)) ≤ lead c := by
  have h8 := lead_le c
  by_cases h : lead c < 8
  · have h1 := valL_lt ((s.data.toList.drop 1).take (lead c + 1 - 1)) (lowB c)
    have hl : ((s.data.toList.drop 1).take (lead c + 1 - 1)).length ≤ lead c := Nat.le_trans (List.length_take_le _ _) (by omega)
    have hp : 256 ^ ((s.data.toList.drop 1).take (lead c + 1 - 1)).length ≤ 256 ^ (lead c) := Nat.pow_le_pow_right (by omega) hl
    have h2 := low_c ⟨c, hc⟩ h
    have h3 : valAt s c (lead c + 1) < 2 ^ (7 + 7 * lead c) := Nat.lt_of_lt_of_le h1 (Nat.le_trans (Nat.mul_le_mul_left _ hp) h2)
    rcases Nat.lt_or_ge (lead c) (sortN (valAt s c (lead c + 1))) with h4 | h4
    · have := roomB_lt _ _ h4
      simp [roomB] at this
      omega
    · exact h4
  · have := sortN_le (valAt s c (lead c + 1))
    omega
theorem fits_int (n : Nat) (hn : n ≤ 18446744073709551615) (x : Int) (h0 : 0 ≤ x) (h8 : x ≤ 8) (w : World) :
    Calls Tryz.prog 64 #[.int .u64 (n : Int), .int .i64 x] w fun e w' => e = .returned (.bool (roomB n x.toNat)) ∧ w = w' := by
  obtain ⟨k, rfl⟩ := Int.eq_ofNat_of_zero_le h0
  exact fits_at n hn k (by omega) w
theorem isEmpty_no (s : ByteArray) (h : 0 < s.size) : s.toList.isEmpty = false := by
  rw [ByteArray.toList_eq]
  have h1 : s.data.toList.length = s.size := by simp
  cases hq : s.data.toList with
  | nil =>
    rw [hq, List.length_nil] at h1
    omega
  | cons a l => rfl

/-- What Num hands back, and what becomes of the document's reader. -/
def RNumPost (b : Nat) (s : ByteArray) (w : World) (e : Ending) (w' : World) : Prop :=
  w.grownBy w' (some b) ∧ match readN s.data.toList with
    | none => e = .returned (.int .u64 0) ∧ RdT 68 b ByteArray.empty true w'
    | some (n, k) => e = .returned (.int .u64 (n : Int)) ∧ RdT 68 b (s.extract k s.size) false w'
theorem RNumPost.bad {b : Nat} {s : ByteArray} {w w' : World} {e : Ending} (h : readN s.data.toList = none) (g : w.grownBy w' (some b)) (he : e = .returned (.int .u64 0)) (r : RdT 68 b ByteArray.empty true w') : RNumPost b s w e w' := by
  unfold RNumPost; rw [h]; exact ⟨g, he, r⟩
theorem RNumPost.good {b : Nat} {s : ByteArray} {w w' : World} {e : Ending} {n k k' : Nat} (hk : k' = k) (h : readN s.data.toList = some (n, k)) (g : w.grownBy w' (some b)) (he : e = .returned (.int .u64 (n : Int))) (r : RdT 68 b (s.extract k' s.size) false w') : RNumPost b s w e w' := by
  subst hk
  unfold RNumPost; rw [h]; exact ⟨g, he, r⟩
set_option maxHeartbeats 400000 in
theorem rnum_empty (b : Nat) (st : Bool) (w : World) (h : RdT 68 b ByteArray.empty st w) :
    Calls Tryz.prog 56 #[.pointer (some ⟨b, 0, none⟩)] w fun e w' => e = .returned (.int .u64 0) ∧ RdT 68 b ByteArray.empty true w' ∧ w.grownBy w' (some b) := by
  obtain ⟨h0, h1, f0, f1⟩ := h.facts
  have H := Lib.hid h
  clear h
  go_enter Tryz.func56, Tryz.ntmps56
  go_wp2_with (go_at_call 57; refine (rstop_any _ _ _ _ H.out).mono ?_; rintro e w' ⟨rfl, hr, hg⟩)
  go_ret
  exact ⟨rfl, hr, hg⟩

end Go.Proofs.YtbeaaieaffdgeaaGreatDoor
end
/- The document's reader takes a number: a first byte with less than eight ones. -/
section
namespace Go.Proofs.YtbeaaieaffdgeaaGreatDoor
open Go.RowKit
set_option linter.unusedVariables false

set_option maxHeartbeats 4000000 in
theorem rnum_lt8 (b : Nat) (s : ByteArray) (w : World) (h : RdT 68 b s false w) (hz : 0 < s.size) (hs : s.size ≤ 70368744177664) (h8 : lead s[0].toNat < 8) :
    Calls Tryz.prog 56 #[.pointer (some ⟨b, 0, none⟩)] w (RNumPost b s w) := by
  obtain ⟨h0, h1, f0, f1⟩ := h.facts
  have H := Lib.hid h
  clear h
  have hc : s[0].toNat < 256 := s[0].toNat_lt
  have hl8 := lead_le s[0].toNat
  have he := isEmpty_no s hz
  have BS := Lib.hid (readN_short s hz)
  have BD := Lib.hid (readN_sort s hz)
  have GD := Lib.hid (readN_good s hz)
  have SL := Lib.hid (sort_le s _ hc)
  go_enter Tryz.func56, Tryz.ntmps56
  go_wp2_with fail
  go_loop [3, 4] (fun f k => ∃ n : Nat, n ≤ lead s[0].toNat ∧ f = .int .i64 (offB s[0].toNat n : Nat) ∧ k = .int .i64 (n : Int)) (fun _ k => 8 - (intOf k).toNat)
  case atStart => exact ⟨0, Nat.zero_le _, by simp [offB], rfl⟩
  case round =>
    obtain ⟨n, hn, rfl, rfl⟩ := hrel
    have hob : offB s[0].toNat n < 256 := by unfold offB; omega
    by_cases hlt : n < lead s[0].toNat
    · have ht := off_yes s[0].toNat n hc hlt
      have HX := Lib.hid (off_next s[0].toNat n hc hlt)
      go_wp2_with fail
      go_round
      case rel => exact ⟨n + 1, by omega, by rw [HX.out], by go_num⟩
      case measure => simp [intOf]; omega
    · obtain rfl : n = lead s[0].toNat := by omega
      clear hlt
      have hone : 1 ≤ lead s[0].toNat + 1 := by omega
      by_cases hsz : s.size ≤ lead s[0].toNat
      · have HFIN := Lib.hid (BS.out hsz)
        have ht := off_no _ hc h8
        go_wp2_with (go_at_call 57; refine (rstop_any _ _ _ _ H.out).mono ?_; rintro e w' ⟨rfl, hr, hg⟩)
        go_ret
        exact RNumPost.bad HFIN.out hg rfl hr
      · have hge : lead s[0].toNat + 1 ≤ s.size := by omega
        clear hsz
        have ht := off_no _ hc h8
        go_wp2_with fail
        clear ht
        go_loop [5, 6] (fun n i => ∃ k v : Nat, 1 ≤ k ∧ k ≤ lead s[0].toNat + 1 ∧ i = .int .i64 (k : Int) ∧ n = .int .u64 (v : Int) ∧ v = valAt s s[0].toNat k) (fun _ i => 10 - (intOf i).toNat)
        case atStart => exact ⟨1, _, by omega, hone, rfl, rfl, rfl⟩
        case round =>
          obtain ⟨k, v, hk1, hkl, rfl, rfl, hv⟩ := hrel
          by_cases hlt : k ≤ lead s[0].toNat
          · have hks : k < s.size := by omega
            have hvb : v < 72057594037927936 := by rw [hv]; exact valAt_lt s _ k hc hlt
            have hx : s[k].toNat < 256 := s[k].toNat_lt
            have HS := Lib.hid (show v * 256 + s[k].toNat = valAt s s[0].toNat (k + 1) by rw [valAt_succ s _ k hk1 hks, hv])
            clear hv
            go_wp2_with fail
            go_round
            case rel => exact ⟨k + 1, v * 256 + s[k].toNat, by omega, by omega, by go_num, by go_num, HS.out⟩
            case measure => simp [intOf]; omega
          · have HV := Lib.hid (show v = valAt s s[0].toNat (lead s[0].toNat + 1) by rw [hv, show k = lead s[0].toNat + 1 by omega])
            have hvb : v < 18446744073709551616 := by rw [HV.out]; exact valAt_lt' s _ _ hc (by omega)
            have hgt : lead s[0].toNat + 1 ≤ k := by omega
            clear hv
            by_cases hl0 : lead s[0].toNat ≤ 0
            · have HF := Lib.hid (GD.out (by omega) (by have := SL.out; omega))
              go_wp2_with fail
              all_goals
                go_ret
                exact RNumPost.good (Nat.add_comm 1 _) HF.out (grown_set (World.grownBy.refl _ _) _ _) (congrArg (fun q : Nat => Ending.returned (.int .u64 (q : Int))) HV.out) (H.out.set0 _)
            · have hl1 : 0 < lead s[0].toNat := by omega
              by_cases hr : roomB v (lead s[0].toNat - 1) = true
              · have hr' : roomB v ((lead s[0].toNat : Int) - 1).toNat = true := by rw [show ((lead s[0].toNat : Int) - 1).toNat = lead s[0].toNat - 1 by omega]; exact hr
                have HF := Lib.hid (BD.out (by omega) (by
                  rw [← HV.out]
                  intro hq
                  have := roomB_lt v (lead s[0].toNat - 1) (by omega)
                  rw [hr] at this
                  cases this))
                clear hr hl0
                go_wp2_with (first | (go_at_call 64; refine (fits_int v (by omega) _ (by omega) (by omega) _).mono ?_; rw [hr']; rintro e w' ⟨rfl, rfl⟩) | (go_at_call 57; refine (rstop_any _ _ _ _ H.out).mono ?_; rintro e w' ⟨rfl, hr, hg⟩))
                go_ret
                exact RNumPost.bad HF.out hg rfl hr
              · have hr1 : roomB v (lead s[0].toNat - 1) = false := by simpa using hr
                have hr' : roomB v ((lead s[0].toNat : Int) - 1).toNat = false := by rw [show ((lead s[0].toNat : Int) - 1).toNat = lead s[0].toNat - 1 by omega]; exact hr1
                have HF := Lib.hid (GD.out (by omega) (by
                  rw [← HV.out]
                  have h1 := SL.out
                  rw [← HV.out] at h1
                  rcases Nat.lt_or_ge (lead s[0].toNat - 1) (sortN v) with h2 | h2
                  · omega
                  · have := roomB_ge v (lead s[0].toNat - 1) h2 (by omega)
                    rw [hr1] at this
                    cases this))
                clear hr hr1 hl0
                go_wp2_with (go_at_call 64; refine (fits_int v (by omega) _ (by omega) (by omega) _).mono ?_; rw [hr']; rintro e w' ⟨rfl, rfl⟩)
                go_ret
                exact RNumPost.good (Nat.add_comm 1 _) HF.out (grown_set (World.grownBy.refl _ _) _ _) (congrArg (fun q : Nat => Ending.returned (.int .u64 (q : Int))) HV.out) (H.out.set0 _)
end Go.Proofs.YtbeaaieaffdgeaaGreatDoor
end
/- The document's reader takes a number: a first byte with eight ones. -/
section
namespace Go.Proofs.YtbeaaieaffdgeaaGreatDoor
open Go.RowKit
set_option linter.unusedVariables false

set_option maxHeartbeats 4000000 in
theorem rnum_is8 (b : Nat) (s : ByteArray) (w : World) (h : RdT 68 b s false w) (hz : 0 < s.size) (hs : s.size ≤ 70368744177664) (h8 : 8 ≤ lead s[0].toNat) :
    Calls Tryz.prog 56 #[.pointer (some ⟨b, 0, none⟩)] w (RNumPost b s w) := by
  obtain ⟨h0, h1, f0, f1⟩ := h.facts
  have H := Lib.hid h
  clear h
  have hc : s[0].toNat < 256 := s[0].toNat_lt
  have hl8 := lead_le s[0].toNat
  have he := isEmpty_no s hz
  have BS := Lib.hid (readN_short s hz)
  have BD := Lib.hid (readN_sort s hz)
  have GD := Lib.hid (readN_good s hz)
  have SL := Lib.hid (sort_le s _ hc)
  go_enter Tryz.func56, Tryz.ntmps56
  go_wp2_with fail
  go_loop [3, 4] (fun f k => ∃ n : Nat, n ≤ lead s[0].toNat ∧ f = .int .i64 (offB s[0].toNat n : Nat) ∧ k = .int .i64 (n : Int)) (fun _ k => 8 - (intOf k).toNat)
  case atStart => exact ⟨0, Nat.zero_le _, by simp [offB], rfl⟩
  case round =>
    obtain ⟨n, hn, rfl, rfl⟩ := hrel
    have hob : offB s[0].toNat n < 256 := by unfold offB; omega
    by_cases hlt : n < lead s[0].toNat
    · have ht := off_yes s[0].toNat n hc hlt
      have HX := Lib.hid (off_next s[0].toNat n hc hlt)
      go_wp2_with fail
      go_round
      case rel => exact ⟨n + 1, by omega, by rw [HX.out], by go_num⟩
      case measure => simp [intOf]; omega
    · obtain rfl : n = lead s[0].toNat := by omega
      clear hlt
      have hone : 1 ≤ lead s[0].toNat + 1 := by omega
      by_cases hsz : s.size ≤ lead s[0].toNat
      · have HFIN := Lib.hid (BS.out hsz)
        have ht : True := trivial
        go_wp2_with (go_at_call 57; refine (rstop_any _ _ _ _ H.out).mono ?_; rintro e w' ⟨rfl, hr, hg⟩)
        go_ret
        exact RNumPost.bad HFIN.out hg rfl hr
      · have hge : lead s[0].toNat + 1 ≤ s.size := by omega
        clear hsz
        have ht : True := trivial
        go_wp2_with fail
        go_loop [5, 6] (fun n i => ∃ k v : Nat, 1 ≤ k ∧ k ≤ lead s[0].toNat + 1 ∧ i = .int .i64 (k : Int) ∧ n = .int .u64 (v : Int) ∧ v = valAt s s[0].toNat k) (fun _ i => 10 - (intOf i).toNat)
        case atStart => exact ⟨1, _, by omega, hone, rfl, rfl, rfl⟩
        case round =>
          obtain ⟨k, v, hk1, hkl, rfl, rfl, hv⟩ := hrel
          by_cases hlt : k ≤ lead s[0].toNat
          · have hks : k < s.size := by omega
            have hvb : v < 72057594037927936 := by rw [hv]; exact valAt_lt s _ k hc hlt
            have hx : s[k].toNat < 256 := s[k].toNat_lt
            have HS := Lib.hid (show v * 256 + s[k].toNat = valAt s s[0].toNat (k + 1) by rw [valAt_succ s _ k hk1 hks, hv])
            clear hv
            go_wp2_with fail
            go_round
            case rel => exact ⟨k + 1, v * 256 + s[k].toNat, by omega, by omega, by go_num, by go_num, HS.out⟩
            case measure => simp [intOf]; omega
          · have HV := Lib.hid (show v = valAt s s[0].toNat (lead s[0].toNat + 1) by rw [hv, show k = lead s[0].toNat + 1 by omega])
            have hvb : v < 18446744073709551616 := by rw [HV.out]; exact valAt_lt' s _ _ hc (by omega)
            have hgt : lead s[0].toNat + 1 ≤ k := by omega
            clear hv
            by_cases hl0 : lead s[0].toNat ≤ 0
            · have HF := Lib.hid (GD.out (by omega) (by have := SL.out; omega))
              go_wp2_with fail
              all_goals
                go_ret
                exact RNumPost.good (Nat.add_comm 1 _) HF.out (grown_set (World.grownBy.refl _ _) _ _) (congrArg (fun q : Nat => Ending.returned (.int .u64 (q : Int))) HV.out) (H.out.set0 _)
            · have hl1 : 0 < lead s[0].toNat := by omega
              by_cases hr : roomB v (lead s[0].toNat - 1) = true
              · have hr' : roomB v ((lead s[0].toNat : Int) - 1).toNat = true := by rw [show ((lead s[0].toNat : Int) - 1).toNat = lead s[0].toNat - 1 by omega]; exact hr
                have HF := Lib.hid (BD.out (by omega) (by
                  rw [← HV.out]
                  intro hq
                  have := roomB_lt v (lead s[0].toNat - 1) (by omega)
                  rw [hr] at this
                  cases this))
                clear hr hl0
                go_wp2_with (first | (go_at_call 64; refine (fits_int v (by omega) _ (by omega) (by omega) _).mono ?_; rw [hr']; rintro e w' ⟨rfl, rfl⟩) | (go_at_call 57; refine (rstop_any _ _ _ _ H.out).mono ?_; rintro e w' ⟨rfl, hr, hg⟩))
                go_ret
                exact RNumPost.bad HF.out hg rfl hr
              · have hr1 : roomB v (lead s[0].toNat - 1) = false := by simpa using hr
                have hr' : roomB v ((lead s[0].toNat : Int) - 1).toNat = false := by rw [show ((lead s[0].toNat : Int) - 1).toNat = lead s[0].toNat - 1 by omega]; exact hr1
                have HF := Lib.hid (GD.out (by omega) (by
                  rw [← HV.out]
                  have h1 := SL.out
                  rw [← HV.out] at h1
                  rcases Nat.lt_or_ge (lead s[0].toNat - 1) (sortN v) with h2 | h2
                  · omega
                  · have := roomB_ge v (lead s[0].toNat - 1) h2 (by omega)
                    rw [hr1] at this
                    cases this))
                clear hr hr1 hl0
                go_wp2_with (go_at_call 64; refine (fits_int v (by omega) _ (by omega) (by omega) _).mono ?_; rw [hr']; rintro e w' ⟨rfl, rfl⟩)
                go_ret
                exact RNumPost.good (Nat.add_comm 1 _) HF.out (grown_set (World.grownBy.refl _ _) _ _) (congrArg (fun q : Nat => Ending.returned (.int .u64 (q : Int))) HV.out) (H.out.set0 _)
end Go.Proofs.YtbeaaieaffdgeaaGreatDoor
end
