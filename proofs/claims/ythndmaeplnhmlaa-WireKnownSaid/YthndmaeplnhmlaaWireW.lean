/- WireSkips: the walk. -/
import Derived.Test.YthndmaeplnhmlaaWireTh
import Derived.Test.YthndmaeplnhmlaaWireO
import Derived.Deep.RegionHeld3
namespace Go.Proofs.Ythndmaeplnhmlaa
open Go.RowKit
set_option linter.unusedVariables false

/-- The bytes of the numbers before the k-th. -/
def numsTo : List Nat → Nat → ByteArray
  | _, 0 => ByteArray.empty
  | L, k + 1 => numsTo L k ++ numS (L.getD k 0)
/-- The bytes of the numbers from the k-th on. -/
def numsFrom (L : List Nat) (k : Nat) : ByteArray := (L.drop k).foldr (fun x r => numS x ++ r) ByteArray.empty
theorem numsTo_size (L : List Nat) (k : Nat) : (numsTo L k).size ≤ 9 * k := by
  induction k with
  | zero => simp [numsTo]
  | succ k ih =>
    have h1 := numS_size (L.getD k 0)
    show (numsTo L k ++ numS (L.getD k 0)).size ≤ _
    rw [ByteArray.size_append]; omega
theorem numsFrom_step (L : List Nat) (k : Nat) (h : k < L.length) : numsFrom L k = numS (L.getD k 0) ++ numsFrom L (k + 1) := by
  unfold numsFrom
  rw [List.drop_eq_getElem_cons h, List.foldr_cons]
  have e : L.getD k 0 = L[k] := by simp [List.getD, List.getElem?_eq_getElem h]
  rw [e]
theorem nums_join (L : List Nat) (k : Nat) (h : k ≤ L.length) : numsTo L k ++ numsFrom L k = numsFrom L 0 := by
  induction k with
  | zero => simp [numsTo]
  | succ k ih =>
    rw [← ih (by omega), numsFrom_step L k (by omega)]
    show (numsTo L k ++ numS (L.getD k 0)) ++ numsFrom L (k + 1) = _
    rw [ByteArray.append_assoc]
theorem nums_end (L : List Nat) : numsFrom L L.length = ByteArray.empty := by simp [numsFrom]
theorem nums_all (L : List Nat) : numsTo L L.length = numsFrom L 0 := by
  have h := nums_join L L.length (Nat.le_refl _)
  rw [nums_end, ByteArray.append_empty] at h
  exact h
theorem numsFrom_size (L : List Nat) (k : Nat) (h : k ≤ L.length) : (numsTo L k).size + (numsFrom L k).size = (numsTo L L.length).size := by
  have h1 := congrArg ByteArray.size (nums_join L k h)
  rw [nums_all, ← h1, ByteArray.size_append]
theorem get_mid (a b : ByteArray) (h : a.size < (a ++ b).size) (hb : 0 < b.size) : (a ++ b)[a.size] = b[0] := by
  have e := ByteArray.getElem_append_right (a := a) (b := b) (i := a.size) (h := h) (Nat.le_refl _)
  rw [e]
  simp only [Nat.sub_self]
/-- The first byte of the k-th number, in the row of all. -/
theorem nums_first (L : List Nat) (k : Nat) (h : k < L.length) (hx : L.getD k 0 < 18446744073709551616) (S : ByteArray) (hS : S = numsTo L L.length) (p : Nat) (hp : p = (numsTo L k).size) (hlt : p < S.size) :
    S[p].toNat = firstB (L.getD k 0) := by
  subst hS hp
  have e : numsTo L L.length = numsTo L k ++ (numS (L.getD k 0) ++ numsFrom L (k + 1)) := by
    rw [← numsFrom_step L k h, nums_join L k (by omega), nums_all]
  have hz := numS_size' (L.getD k 0)
  have hf := firstB_facts _ hx
  simp only [e] at hlt ⊢
  rw [get_mid _ _ _ (by rw [ByteArray.size_append]; omega)]
  have e2 : (numS (L.getD k 0) ++ numsFrom L (k + 1))[0]'(by rw [ByteArray.size_append]; omega) = (numS (L.getD k 0))[0]'(by omega) := ByteArray.getElem_append_left (by omega)
  rw [e2]
  show (UInt8.ofNat (firstB (L.getD k 0))).toNat = _
  rw [UInt8.toNat_ofNat']
  omega
/-- Where the numbers begin. -/
def offs (L : List Nat) (k : Nat) : List Value := (List.range k).map fun j => .int .i64 ((numsTo L j).size : Int)
theorem offs_step (L : List Nat) (k : Nat) : offs L k ++ [.int .i64 ((numsTo L k).size : Int)] = offs L (k + 1) := by
  unfold offs
  rw [List.range_succ, List.map_append]
  rfl
theorem offs_get (L : List Nat) (k j : Nat) (h : j < k) : (offs L k)[j]? = some (.int .i64 ((numsTo L j).size : Int)) := by
  unfold offs
  rw [List.getElem?_map, List.getElem?_range h]
  rfl
theorem own_some' {w : World} {B : Nat} {e : TypeId} {v : Value} {n : Nat} {xs : List Value} (h : w.ownsRow B e 1 v n xs) (hne : ¬v = .slice none 0 0) :
    ∃ g c : Nat, v = .slice (some ⟨g, 0, none⟩) n c ∧ B ≤ g ∧ g < w.heap.size ∧ n ≤ c ∧ c ≤ 9223372036854775807 := by
  obtain ⟨_, h2⟩ := h
  rcases h2 with ⟨h2, _⟩ | ⟨g, c, cur, hv, hg, hh, hc, hm, _⟩
  · exact absurd h2 hne
  · unfold maxLen at hm
    exact ⟨g, c, hv, hg, (Array.getElem?_eq_some_iff.1 hh).1, hc, hm⟩
theorem readsN (x : Nat) (t : ByteArray) (hx : x < 18446744073709551616) (ht : t.size ≤ 1000000) (b : Nat) (W : World) (h : RdT 57 b (numS x ++ t) false W) :
    Calls Try.prog 18 #[.pointer (some ⟨b, 0, none⟩)] W fun e w' => e = .returned (.int .u64 (x : Int)) ∧ RdT 57 b t false w' ∧ W.grownBy w' (some b) := by
  have h1 := num_any b (numS x ++ t, false) W ⟨by have := numS_size x; simp only [ByteArray.size_append]; omega, fun h => by cases h⟩ h
  rw [rdNum_put x hx t] at h1
  exact h1
/-- What the walk is told of the numbers: number j is the j-th of L. -/
def NumRow (w : World) (bl off : Nat) (L : List Nat) : Prop := bl < w.heap.size ∧ ∀ j, j < L.length → w.cell? ⟨bl, off + j, none⟩ = some (.int .u64 (L.getD j 0 : Nat)) ∧ L.getD j 0 < 18446744073709551616
theorem intInfo : (Try.prog.info? 3).map (fun i => (i.zero, i.size, i.bytes)) = some (some (.int .i64 0), 1, 8) := by kernel_rfl

set_option maxHeartbeats 4000000 in
theorem skips_row (bl off len cap : Nat) (L : List Nat) (hl0 : 0 < len) (hlc : len ≤ cap) (hcap : cap ≤ 9223372036854775807) (hL : L.length = (min (len : Int) 60).toNat) (fr : Nat) (hfr : fr < 256) (w : World) (hrow : NumRow w bl off L) :
    Calls Try.prog 5 #[.slice (some ⟨bl, off, none⟩) len cap, .int .u8 (fr : Int)] w fun e w' => e = .returned (.bool true) ∧ Below w.heap.size w w' := by
  have HR := Lib.hid hrow
  have HL := Lib.hid hL
  clear hrow hL
  obtain ⟨i0, hi, hz0, hz1, hz2⟩ := info_parts intInfo
  go_enter Try.func5, Try.ntmps5
  go_wp2_with fail
  have hm60 : (min (len : Int) 60).toNat ≤ 60 := by omega
  have hm0 : 0 < (min (len : Int) 60).toNat := by omega
  generalize (min (len : Int) 60).toNat = m at *
  go_loopw [5, 6, 7] (fun sv av i wr => ∃ k : Nat, k ≤ m ∧ i = .int .i64 (k : Int) ∧ sv = .string (numsTo L k) ∧ wr.ownsRow w.heap.size 3 1 av k (offs L k) ∧ (0 < k → ¬av = .slice none 0 0) ∧ Below w.heap.size w wr) (fun _ _ i _ => m + 1 - (intOf i).toNat)
  case atStart => exact ⟨0, Nat.zero_le _, rfl, rfl, World.ownsRow_nil _ _ _ _, by omega, Below.refl _ _⟩
  case round =>
    obtain ⟨k, hk, rfl, rfl, hown, hne, hbel⟩ := hrel
    have hsz := numsTo_size L k
    by_cases hlt : k < m
    · have hkl : k < L.length := by rw [HL.out]; exact hlt
      obtain ⟨x, hxe⟩ : ∃ x, x = L.getD k 0 := ⟨_, rfl⟩
      have hx0 := (HR.out.2 k hkl).1
      have hx1 := (HR.out.2 k hkl).2
      rw [← hxe] at hx0 hx1
      have HX0 := Lib.hid hx0
      have HB := Lib.hid hbel
      have HO := Lib.hid hown
      clear hbel hown hx0 hkl
      go_wp2_with (at_builtin; refine wpList_append_own _ rfl _ _ 41 rfl w.heap.size 3 i0 (.int .i64 0) 1 8 Try.underlying41 hi hz0 hz1 hz2 rfl (by decide) _ _ _ rfl (HO.out.alloc _) ⟨wr.heap.size, 0, none⟩ 1 1 [.int .i64 ((numsTo L k).size : Int)] rfl ?c1 ?c2 ?c3 ?c4 ?c5 ?c6 ?_)
      case c1 => rfl
      case c2 =>
        intro j u hu
        have hj : j < 1 := by
          have := (List.getElem?_eq_some_iff.1 hu).1
          simpa using this
        obtain rfl : j = 0 := by omega
        simp only [List.getElem?_cons_zero, Option.some.injEq] at hu
        subst hu
        simp only [Addr.add]
        go_simp
      case c3 =>
        intro u hu
        simp only [List.mem_cons, List.not_mem_nil, or_false] at hu
        subst hu
        rfl
      case c4 => unfold maxLen; omega
      case c5 => omega
      case c6 => have := HB.out.size; simp; omega
      intro v1 w1 hown1 hgrow hne1
      rw [offs_step] at hown1
      have HB1 := Lib.hid ((HB.out.alloc HB.out.size _).grown hgrow (by have := HB.out.size; simp; omega) (fun k e => (HO.out.lt k e).1))
      have HO1 := Lib.hid hown1
      have hx2 : w1.cell? ⟨bl, off + k, none⟩ = some (.int .u64 (x : Int)) := by
        rw [HB1.out.cell (p := ⟨bl, off + k, none⟩) HR.out.1]
        exact HX0.out
      clear hown1 hgrow
      have HN1 := Lib.hid hne1
      have HT := Lib.hid (show numsTo L k ++ numS x = numsTo L (k + 1) by rw [hxe]; rfl)
      clear hne1 hxe hne
      go_wp2_with fail
      refine (putNum_any _ (by omega) x (by omega) _).mono ?_
      rintro e w2 ⟨rfl, b2⟩
      have HB2 := Lib.hid (below_then HB1.out b2 HB1.out.size)
      have HO2 := Lib.hid (HO1.out.kept (grown_below b2 none) (by cases v1.ownBlock <;> simp))
      clear b2
      go_wp2_with fail
      go_roundw
      case rel => exact ⟨k + 1, by omega, by go_num, by rw [HT.out], HO2.out, fun _ => HN1.out, HB2.out⟩
      case measure => simp [intOf]; omega
    · have hkm : k = m := by omega
      subst hkm
      obtain ⟨g, c, rfl, hg, hgw, hkc, hc⟩ := own_some' hown (hne hm0)
      have HK := Lib.hid (show k = L.length by rw [HL.out])
      obtain ⟨S, hSe⟩ : ∃ S, S = numsTo L k := ⟨_, rfl⟩
      have HS := Lib.hid (show S = numsTo L L.length by rw [hSe, HK.out])
      rw [← hSe] at hsz
      rw [← hSe]
      have HO := Lib.hid hown
      have HB := Lib.hid hbel
      clear hown hbel hne hlt hSe
      go_wp2_with fail
      go_loop [8, 9] (fun kk i => ∃ j p : Nat, j ≤ k ∧ i = .int .i64 (j : Int) ∧ kk = .int .i64 (p : Int) ∧ p = (numsTo L j).size) (fun _ i => k + 1 - (intOf i).toNat)
      case atStart => exact ⟨0, 0, Nat.zero_le _, rfl, rfl, rfl⟩
      case round =>
        obtain ⟨j, p, hj, rfl, rfl, hp⟩ := hrel
        by_cases hjk : j < k
        · have hjl : j < L.length := by rw [← HK.out]; exact hjk
          obtain ⟨x, hxe⟩ : ∃ x, x = L.getD j 0 := ⟨_, rfl⟩
          have hx1 := (HR.out.2 j hjl).2
          rw [← hxe] at hx1
          have hcell : wr.cell? ⟨g, j, none⟩ = some (.int .i64 (p : Int)) := by
            rw [HO.out.cellAt j (by omega), offs_get L k j hjk, hp]
          have hz := numS_size' x
          have hfs := numsFrom_size L j (by omega)
          rw [numsFrom_step L j hjl, ← hxe, ByteArray.size_append, ← HS.out, ← hp] at hfs
          have hps : p < S.size := by omega
          have hs9 := sortN_le x
          have HBT := Lib.hid (fun h => nums_first L j hjl (by rw [← hxe]; exact hx1) S HS.out p hp h)
          have HNX := Lib.hid (show p + 1 + sortN x = (numsTo L (j + 1)).size by
            show _ = (numsTo L j ++ numS (L.getD j 0)).size
            rw [ByteArray.size_append, ← hp, ← hxe]; omega)
          have hb : ∀ (W : World) (y : Int), y = (firstB (L.getD j 0) : Int) → Calls Try.prog 28 #[.int .u8 y] W fun e w' => e = .returned (.int .i64 (sortN x : Nat)) ∧ W = w' := by
            rintro W y rfl
            rw [← hxe]
            have hf := firstB_facts x hx1
            have h := behind_any (firstB x) hf.1 W
            rw [hf.2.1] at h
            exact h
          have HBH := Lib.hid hb
          clear hb hz hfs hxe hjl hp hx1
          go_wp2_with fail
          refine (HBH.out _ _ (congrArg _ (HBT.out hps))).mono ?_
          rintro e w3 ⟨rfl, rfl⟩
          go_wp2_with fail
          go_round
          case rel => exact ⟨j + 1, p + 1 + sortN x, by omega, by go_num, by go_num, HNX.out⟩
          case measure => simp [intOf]; omega
        · have hjk' : j = k := by omega
          have hps : p = S.size := by rw [hp, hjk', HS.out, HK.out]
          have t1 : ((p : Int) != (S.size : Int)) = false := by rw [bne_eq_false_iff_eq, hps]
          have t2 : ((k : Int) == 0) = false := by rw [beq_eq_false_iff_ne]; omega
          have hge : k ≤ j := by omega
          obtain ⟨f, hf⟩ : ∃ f, f = fr % k := ⟨_, rfl⟩
          have hmod : f < k := by rw [hf]; exact Nat.mod_lt _ hm0
          have hfm : (fr : Int) % (k : Int) = (f : Int) := by rw [hf]; simp
          have hcell : wr.cell? ⟨g, f, none⟩ = some (.int .i64 ((numsTo L f).size : Int)) := by
            rw [HO.out.cellAt f (by omega), offs_get L k f hmod]
          have hfs := numsFrom_size L f (by rw [← HK.out]; omega)
          have hle : (numsTo L f).size ≤ S.size := by rw [HS.out]; omega
          have HX := Lib.hid (show S.extract (numsTo L f).size S.size = numsFrom L f by
            rw [HS.out, nums_all, ← nums_join L f (by rw [← HK.out]; omega)]
            exact extract_back _ _ _ rfl)
          clear hp hjk hjk' hps hfs hf
          go_wp2_with fail
          refine (new_rd _ _).mono ?_
          rintro e w2 ⟨rfl, n2, b2⟩
          rw [HX.out] at n2
          have HN2 := Lib.hid n2
          have HB2 := Lib.hid (below_then HB.out b2 HB.out.size)
          have hbs := HB.out.size
          clear n2 b2 t1 t2 hcell hfm
          go_wp2_with fail
          go_loopw [12] (fun i w3 => ∃ j2 : Nat, j2 ≤ k ∧ i = .int .i64 (j2 : Int) ∧ RdT 57 wr.heap.size (numsFrom L j2) false w3 ∧ Below w.heap.size w w3) (fun i _ => k + 1 - (intOf i).toNat)
          case atStart => exact ⟨f, by omega, rfl, HN2.out, HB2.out⟩
          case round =>
            rename World => w4
            obtain ⟨j2, hj2, rfl, hrd, hbel⟩ := hrel
            have HRD := Lib.hid hrd
            have HB4 := Lib.hid hbel
            clear hrd hbel
            by_cases hlt2 : j2 < k
            · have hkl : j2 < L.length := by rw [← HK.out]; exact hlt2
              obtain ⟨x, hxe⟩ : ∃ x, x = L.getD j2 0 := ⟨_, rfl⟩
              have hx : w4.cell? ⟨bl, off + j2, none⟩ = some (.int .u64 (x : Int)) := by
                rw [HB4.out.cell (p := ⟨bl, off + j2, none⟩) HR.out.1, hxe]
                exact (HR.out.2 j2 hkl).1
              have hx1 := (HR.out.2 j2 hkl).2
              rw [← hxe] at hx1
              have hts : (numsFrom L (j2 + 1)).size ≤ 1000000 := by
                have := numsFrom_size L (j2 + 1) (by omega)
                have := numsTo_size L L.length
                have := HK.out
                omega
              have HSX := Lib.hid (show numsFrom L j2 = numS x ++ numsFrom L (j2 + 1) by rw [numsFrom_step L j2 hkl, ← hxe])
              have HXR := Lib.hid (readsN x (numsFrom L (j2 + 1)) hx1 hts)
              have hblw := HR.out.1
              clear hxe hkl hx1
              go_wp2_with fail
              go_region_held3 (fun w' => w'.cell? ⟨bl, off + j2, none⟩ = some (.int .u64 (x : Int))) (first | go_keep | (refine World.grownBy.cell (by assumption) (by assumption) ?_; simp; omega))
                (first | (go_at_call 18; refine (HXR.out _ _ (by rw [← HSX.out]; exact HRD.out)).mono ?_; rintro e w5 ⟨rfl, n5, g5⟩))
              have HB5 := Lib.hid (below_grown (HB4.out.drew) g5 HB4.out.size (by omega))
              have N5 := Lib.hid n5
              clear n5 g5
              go_wp2_with fail
              go_roundw
              case rel => exact ⟨j2 + 1, by omega, by go_num, N5.out, HB5.out⟩
              case measure => simp [intOf]; omega
            · have hN : RdT 57 wr.heap.size ByteArray.empty false w4 := by
                have h := HRD.out
                rw [show j2 = L.length by have := HK.out; omega, nums_end] at h
                exact h
              have HN := Lib.hid hN
              clear hN
              go_wp2_with fail
              refine (endsR _ _ HN.out).mono ?_
              rintro e w6 ⟨rfl, rfl⟩
              go_wp2_with fail
              refine (works_any _).mono ?_
              rintro e w9 ⟨rfl, b9⟩
              go_wp2_with fail
              go_ret
              exact ⟨rfl, below_then HB4.out b9 HB4.out.size⟩
set_option maxHeartbeats 1000000 in
theorem skips_zero (a : Option Addr) (cap : Nat) (hcap : cap ≤ 9223372036854775807) (fr : Nat) (hfr : fr < 256) (w : World) :
    Calls Try.prog 5 #[.slice a 0 cap, .int .u8 (fr : Int)] w fun e w' => e = .returned (.bool true) ∧ Below w.heap.size w w' := by
  have hmin : min (0 : Int) 60 = 0 := by decide
  cases a
  all_goals
    go_enter Try.func5, Try.ntmps5
    go_wp2_with fail
    refine wp_loop_rounds 1 ?_
    rw [rounds_succ]
    go_wp2_with fail
    refine wp_loop_rounds 1 ?_
    rw [rounds_succ]
    go_wp2_with fail
    refine (works_any _).mono ?_
    rintro e w9 ⟨rfl, b9⟩
    go_wp2_with fail
    go_ret
    exact ⟨rfl, b9⟩
theorem walk_WireSkips (a : Option Addr) (len cap : Nat) (fr : Int) (hfr : 0 ≤ fr ∧ fr ≤ 255) (w : World)
    (h : cap ≤ maxLen ∧ (len = 0 ∨ ∃ (b off : Nat) (zs : List Int), a = some ⟨b, off, none⟩ ∧ 0 < len ∧ len ≤ cap ∧ len ≤ zs.length ∧ b < w.heap.size ∧ ∀ j, j < zs.length → w.cell? ⟨b, off + j, none⟩ = some (.int .u64 (zs.getD j 0)) ∧ 0 ≤ zs.getD j 0 ∧ zs.getD j 0 ≤ 18446744073709551615)) :
    Calls Try.prog 5 #[.slice a len cap, .int .u8 fr] w fun e w' => e = .returned (.bool true) ∧ Below w.heap.size w w' := by
  unfold maxLen at h
  obtain ⟨hc, h⟩ := h
  obtain ⟨n, rfl⟩ := Int.eq_ofNat_of_zero_le hfr.1
  rcases h with rfl | ⟨b, off, zs, rfl, h0, hl, hs, hb, hr⟩
  · exact skips_zero a cap hc n (by omega) w
  · refine skips_row b off len cap ((zs.take (min (len : Int) 60).toNat).map Int.toNat) h0 hl hc (by rw [List.length_map, List.length_take]; omega) n (by omega) w ⟨hb, fun j hj => ?_⟩
    rw [List.length_map, List.length_take] at hj
    have e : ((zs.take (min (len : Int) 60).toNat).map Int.toNat).getD j 0 = (zs.getD j 0).toNat := by
      simp only [List.getD]
      rw [List.getElem?_map, List.getElem?_take_of_lt (by omega), List.getElem?_eq_getElem (by omega)]
      rfl
    obtain ⟨h1, h2, h3⟩ := hr j (by omega)
    rw [e, h1]
    refine ⟨?_, by omega⟩
    rw [show (((zs.getD j 0).toNat : Nat) : Int) = zs.getD j 0 by omega]
end Go.Proofs.Ythndmaeplnhmlaa
