/- The program's reader takes a number: the walk. -/
import Derived.Test.YthndmaeplnhmlaaWireG
import Derived.Deep.LoopGhost
namespace Go.Proofs.Ythndmaeplnhmlaa
open Go.RowKit
set_option linter.unusedVariables false

/-- What Num hands back, and what becomes of the reader. -/
def NumPost (b : Nat) (s : ByteArray) (w : World) (e : Ending) (w' : World) : Prop :=
  w.grownBy w' (some b) ∧ match readN s.data.toList with
    | none => e = .returned (.int .u64 0) ∧ RdT 57 b ByteArray.empty true w'
    | some (n, k) => e = .returned (.int .u64 (n : Int)) ∧ RdT 57 b (s.extract k s.size) false w'
theorem NumPost.bad {b : Nat} {s : ByteArray} {w w' : World} {e : Ending} (h : readN s.data.toList = none) (g : w.grownBy w' (some b)) (he : e = .returned (.int .u64 0)) (r : RdT 57 b ByteArray.empty true w') : NumPost b s w e w' := by
  unfold NumPost; rw [h]; exact ⟨g, he, r⟩

set_option maxHeartbeats 1000000 in
theorem num_empty (b : Nat) (s : ByteArray) (w : World) (h : RdT 57 b s false w) (hz : s.size = 0) :
    Calls Try.prog 18 #[.pointer (some ⟨b, 0, none⟩)] w (NumPost b s w) := by
  obtain rfl : s = ByteArray.empty := by
    apply ByteArray.ext
    exact Array.eq_empty_of_size_eq_zero hz
  obtain ⟨h0, h1, f0, f1⟩ := h.facts
  have H := Lib.hid h
  have HZ := Lib.hid hz
  clear h hz
  go_enter Try.func18, Try.ntmps18
  go_wp2
  go_step3
  go_wp2_with (go_at_call 24; refine (ok_any _ _ _ _ H.out).mono ?_; rintro e w' ⟨rfl, rfl⟩)
  go_step3
  go_wp2_with fail
  refine wp_loop_rounds 1 ?_
  rw [rounds_succ]
  go_wp2_with (go_at_call 35; refine (stop_any _ _ _ _ H.out).mono ?_; rintro e w' ⟨rfl, hr, hg⟩)
  rw [Exit.noGoto_ret]
  go_ret
  exact NumPost.bad rfl hg rfl hr

theorem toList_cons (s : ByteArray) (h : 0 < s.size) : s.data.toList = s[0] :: s.data.toList.drop 1 := by
  have hl : 0 < s.data.toList.length := by simpa using h
  have := List.getElem_cons_drop hl
  exact this.symm
theorem readN_short (s : ByteArray) (h : 0 < s.size) (hs : s.size ≤ lead s[0].toNat) : readN s.data.toList = none := by
  rw [toList_cons s h, readN_cons]
  rw [if_pos]
  have : s.data.toList.length = s.size := by simp
  simp; omega
theorem readN_sort (s : ByteArray) (h : 0 < s.size) (hs : lead s[0].toNat < s.size) (hn : sortN (valAt s s[0].toNat (lead s[0].toNat + 1)) ≠ lead s[0].toNat) : readN s.data.toList = none := by
  rw [toList_cons s h, readN_cons]
  have hl : s.data.toList.length = s.size := by simp
  rw [if_neg (by simp; omega), if_neg]
  exact hn
theorem readN_good (s : ByteArray) (h : 0 < s.size) (hs : lead s[0].toNat < s.size) (hn : sortN (valAt s s[0].toNat (lead s[0].toNat + 1)) = lead s[0].toNat) :
    readN s.data.toList = some (valAt s s[0].toNat (lead s[0].toNat + 1), lead s[0].toNat + 1) := by
  rw [toList_cons s h, readN_cons]
  have hl : s.data.toList.length = s.size := by simp
  rw [if_neg (by simp; omega), if_pos]
  · rfl
  · exact hn
theorem xor_255 (a : Nat) (ha : a < 256) : a ^^^ 255 = 255 - a := by
  have h := congrArg BitVec.toNat (BitVec.xor_allOnes (x := BitVec.ofNat 8 a))
  rw [BitVec.toNat_xor, BitVec.toNat_not, BitVec.toNat_ofNat, BitVec.toNat_allOnes, Nat.mod_eq_of_lt ha] at h
  exact h
theorem bits_not (c : Nat) (hc : c < 256) : bits BinOp.xor IntKind.u8 IntKind.u8.max (c : Int) = 255 - (c : Int) := by
  have e : IntKind.u8.max = ((255 : Nat) : Int) := by rfl
  rw [e, u8_xor_nat 255 c (by omega) hc, Nat.xor_comm, xor_255 c hc]
  omega
theorem NumPost.good {b : Nat} {s : ByteArray} {w w' : World} {e : Ending} {n k : Nat} (h : readN s.data.toList = some (n, k)) (g : w.grownBy w' (some b)) (he : e = .returned (.int .u64 (n : Int))) (r : RdT 57 b (s.extract k s.size) false w') : NumPost b s w e w' := by
  unfold NumPost; rw [h]; exact ⟨g, he, r⟩

set_option maxHeartbeats 4000000 in
theorem num_more (b : Nat) (s : ByteArray) (w : World) (h : RdT 57 b s false w) (hz : 0 < s.size) (hs : s.size ≤ 70368744177664) :
    Calls Try.prog 18 #[.pointer (some ⟨b, 0, none⟩)] w (NumPost b s w) := by
  obtain ⟨h0, h1, f0, f1⟩ := h.facts
  have q0 : ∀ n o, ((w.drewN n).alloc o).cell? ⟨b, 0, none⟩ = some (.string s) := fun n o => ((h.draws n).alloc o).facts.1
  have q1 : ∀ n o, ((w.drewN n).alloc o).frozen? ⟨b, 0, none⟩ = false := fun n o => ((h.draws n).alloc o).facts.2.2.1
  have H := Lib.hid h
  clear h
  have hc : s[0].toNat < 256 := s[0].toNat_lt
  have hl8 := lead_le s[0].toNat
  have hlow := bits_low s[0].toNat hc
  have hlb : lowB s[0].toNat ≤ 255 := by unfold lowB; omega
  have hnot : bits BinOp.xor IntKind.u8 IntKind.u8.max (s[0].toNat : Int) = 255 - (s[0].toNat : Int) := bits_not _ hc
  have HNOT := Lib.hid hnot
  clear hnot
  have BS := Lib.hid (readN_short s hz)
  have BD := Lib.hid (readN_sort s hz)
  have GD := Lib.hid (readN_good s hz)
  go_enter Try.func18, Try.ntmps18
  go_wp2
  go_step3
  go_wp2_with (go_at_call 24; refine (ok_any _ _ _ _ H.out).mono ?_; rintro e w' ⟨rfl, rfl⟩)
  go_step3
  go_wp2_with fail
  go_loopw [3, 4, 5] (fun n q i wr => ∃ k : Nat, k ≤ s.size ∧ i = .int .i64 (k : Int) ∧ ((k = 0 ∧ n = .int .u64 0 ∧ q = .int .i64 0 ∧ wr = w) ∨ (1 ≤ k ∧ k ≤ lead s[0].toNat ∧ (∃ v : Nat, n = .int .u64 (v : Int) ∧ v = valAt s s[0].toNat k) ∧ q = .int .i64 (lead s[0].toNat : Int) ∧ ∃ m, wr = w.drewN m)))
    (fun _ _ i _ => s.size + 1 - (intOf i).toNat)
  case atStart => exact ⟨0, Nat.zero_le _, rfl, .inl ⟨rfl, rfl, rfl, rfl⟩⟩
  case round =>
    obtain ⟨k, hk, rfl, hrel⟩ := hrel
    rcases hrel with ⟨rfl, rfl, rfl, rfl⟩ | ⟨hk1, hkl, ⟨v, rfl, hv⟩, rfl, m, rfl⟩
    · have ht : ((0 : Int) == (s.size : Int)) = false := by rw [beq_eq_false_iff_ne]; omega
      by_cases hl : 0 < lead s[0].toNat
      · go_wp2_with (go_at_call 32; refine (lz_any _ s[0].toNat hc HNOT.out _).mono ?_; rintro e w' ⟨rfl, rfl⟩)
        go_quiet ((go_at_call 33; exact Calls.quiet_of_same (ones_at _ hl8 _)))
        go_wp2_with fail
        go_roundw
        case rel => exact ⟨1, by omega, rfl, .inr ⟨by omega, by omega, ⟨_, rfl, rfl⟩, rfl, _, rfl⟩⟩
        case measure => simp [intOf]
      · have hl0 : lead s[0].toNat ≤ 0 := by omega
        have hv1 : valAt s s[0].toNat (lead s[0].toNat + 1) = lowB s[0].toNat := by rw [show lead s[0].toNat = 0 by omega]; rfl
        by_cases hn : sortN (lowB s[0].toNat) = lead s[0].toNat
        · have hn' : (((sortN (lowB s[0].toNat) : Nat) : Int) != ((lead s[0].toNat : Nat) : Int)) = false := by rw [bne_eq_false_iff_eq, hn]
          have hfin := GD.out (by omega) (by rw [hv1]; exact hn)
          rw [hv1] at hfin
          have HFIN := Lib.hid hfin
          clear hfin hv1 hn hl
          go_wp2_with (go_at_call 32; refine (lz_any _ s[0].toNat hc HNOT.out _).mono ?_; rintro e w' ⟨rfl, rfl⟩)
          go_quiet ((go_at_call 33; exact Calls.quiet_of_same (ones_at _ hl8 _)))
          go_wp2_with (go_at_call 34; refine (sortOf_any (lowB s[0].toNat) (by omega) _).mono ?_; rintro e w' ⟨rfl, rfl⟩)
          rw [Exit.noGoto_ret]
          go_ret
          refine NumPost.good HFIN.out ?_ rfl ?_
          · exact grown_set (grown_new (grown_draws (World.grownBy.refl _ _) _) _) _ _
          · exact ((H.out.draws _).alloc _).set0 _
        · have hn' : (((sortN (lowB s[0].toNat) : Nat) : Int) != ((lead s[0].toNat : Nat) : Int)) = true := by rw [bne_iff_ne]; omega
          have hfin := BD.out (by omega) (by rw [hv1]; exact hn)
          have HFIN := Lib.hid hfin
          clear hfin hv1 hn hl
          go_wp2_with (first | (go_at_call 32; refine (lz_any _ s[0].toNat hc HNOT.out _).mono ?_; rintro e w' ⟨rfl, rfl⟩))
          go_quiet ((go_at_call 33; exact Calls.quiet_of_same (ones_at _ hl8 _)))
          go_wp2_with (first | (go_at_call 34; refine (sortOf_any (lowB s[0].toNat) (by omega) _).mono ?_; rintro e w' ⟨rfl, rfl⟩) | (go_at_call 35; refine (stop_any b s false _ ((H.out.draws _).alloc _)).mono ?_; rintro e w' ⟨rfl, hr, hg⟩))
          rw [Exit.noGoto_ret]
          go_ret
          exact NumPost.bad HFIN.out (grown_then (grown_new (grown_draws (World.grownBy.refl _ _) _) _) hg) rfl hr
    · by_cases hend : k = s.size
      · have ht : ((k : Int) == (s.size : Int)) = true := by rw [beq_iff_eq]; omega
        have HFIN := Lib.hid (BS.out (by omega))
        have HR := Lib.hid (H.out.draws m)
        clear hend hv
        go_wp2_with (go_at_call 35; refine (stop_any b s false _ HR.out).mono ?_; rintro e w' ⟨rfl, hr, hg⟩)
        rw [Exit.noGoto_ret]
        go_ret
        exact NumPost.bad HFIN.out (grown_then (grown_draws (World.grownBy.refl _ _) _) hg) rfl hr
      · have hlt : k < s.size := by omega
        have ht : ((k : Int) == (s.size : Int)) = false := by rw [beq_eq_false_iff_ne]; omega
        have ht0 : ((k : Int) == 0) = false := by rw [beq_eq_false_iff_ne]; omega
        have hvb : v < 72057594037927936 := by rw [hv]; exact valAt_lt s _ k hc hkl
        have hx : s[k].toNat < 256 := s[k].toNat_lt
        obtain ⟨v', hv'⟩ : ∃ v' : Nat, v' = v * 256 + s[k].toNat := ⟨_, rfl⟩
        have hor : bits .or .u64 ((v : Int) * 256) (s[k].toNat : Int) = (v' : Int) := by rw [hv']; exact bits_join v _ hvb hx
        have hs' : v' = valAt s s[0].toNat (k + 1) := by rw [valAt_succ s _ k hk1 hlt, hv', hv]
        have hvb' : v' < 18446744073709551616 := by rw [hs']; exact valAt_lt' s _ (k + 1) hc (by omega)
        have HS := Lib.hid hs'
        clear hs' hv' hv hend
        by_cases hl : k < lead s[0].toNat
        · go_wp2_with fail
          go_roundw
          case rel => exact ⟨k + 1, by omega, by go_num, .inr ⟨by omega, by omega, ⟨v', rfl, HS.out⟩, rfl, m, rfl⟩⟩
          case measure => simp [intOf]; omega
        · have HK := Lib.hid (show k = lead s[0].toNat by omega)
          have hge : lead s[0].toNat ≤ k := by omega
          have HV := Lib.hid (show valAt s s[0].toNat (lead s[0].toNat + 1) = v' by rw [← HK.out]; exact HS.out.symm)
          by_cases hn : sortN v' = lead s[0].toNat
          · have hn' : (((sortN v' : Nat) : Int) != ((lead s[0].toNat : Nat) : Int)) = false := by rw [bne_eq_false_iff_eq, hn]
            have hfin := GD.out (by omega) (by rw [HV.out]; exact hn)
            rw [HV.out] at hfin
            have HFIN := Lib.hid hfin
            clear hfin hn hl
            go_wp2_with (go_at_call 34; refine (sortOf_any v' (by omega) _).mono ?_; rintro e w' ⟨rfl, rfl⟩)
            rw [Exit.noGoto_ret]
            go_ret
            refine NumPost.good HFIN.out ?_ rfl ?_
            · exact grown_set (grown_new (grown_draws (World.grownBy.refl _ _) _) _) _ _
            · exact ((H.out.draws _).alloc _).set0 _
          · have hn' : (((sortN v' : Nat) : Int) != ((lead s[0].toNat : Nat) : Int)) = true := by rw [bne_iff_ne]; omega
            have HFIN := Lib.hid (BD.out (by omega) (by rw [HV.out]; exact hn))
            clear hn hl
            go_wp2_with (first | (go_at_call 34; refine (sortOf_any v' (by omega) _).mono ?_; rintro e w' ⟨rfl, rfl⟩) | (go_at_call 35; refine (stop_any b s false _ ((H.out.draws _).alloc _)).mono ?_; rintro e w' ⟨rfl, hr, hg⟩))
            rw [Exit.noGoto_ret]
            go_ret
            exact NumPost.bad HFIN.out (grown_then (grown_new (grown_draws (World.grownBy.refl _ _) _) _) hg) rfl hr
end Go.Proofs.Ythndmaeplnhmlaa
