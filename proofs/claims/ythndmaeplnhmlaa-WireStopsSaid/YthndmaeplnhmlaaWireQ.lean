/- What the document's reader hands back, whatever it holds. -/
import Derived.Test.YthndmaeplnhmlaaWireLa
import Derived.Test.YthndmaeplnhmlaaWireLb
namespace Go.Proofs.Ythndmaeplnhmlaa
open Go.RowKit
set_option linter.unusedVariables false

theorem rnum_any (b : Nat) (r : RdS) (w : World) (hr : RdOk r) (h : RdT 33 b r.1 r.2 w) :
    Calls Try.prog 19 #[.pointer (some ⟨b, 0, none⟩)] w fun e w' => e = .returned (.int .u64 ((rdNum r).1 : Int)) ∧ RdT 33 b (rdNum r).2.1 (rdNum r).2.2 w' ∧ w.grownBy w' (some b) := by
  obtain ⟨s, st⟩ := r
  cases st with
  | true =>
    have he : s = ByteArray.empty := hr.2 rfl
    subst he
    exact rnum_empty b true w h
  | false =>
    have e0 : rdNum (s, false) = match readN s.data.toList with
      | none => (0, (ByteArray.empty, true))
      | some (n, k) => (n, (s.extract k s.size, false)) := rfl
    by_cases hz : s.size = 0
    · obtain rfl : s = ByteArray.empty := by
        apply ByteArray.ext
        exact Array.eq_empty_of_size_eq_zero hz
      exact rnum_empty b false w h
    · have hm : Calls Try.prog 19 #[.pointer (some ⟨b, 0, none⟩)] w (RNumPost b s w) := by
        have h0 : 0 < s.size := by omega
        by_cases h8 : lead s[0].toNat < 8
        · exact rnum_lt8 b s w h h0 hr.1 h8
        · exact rnum_is8 b s w h h0 hr.1 (by omega)
      refine hm.mono ?_
      rintro e w' ⟨hg, hp⟩
      rw [e0]
      split at hp
      · rename_i hq; rw [hq]; exact ⟨hp.1, hp.2, hg⟩
      · rename_i hq; rw [hq]; exact ⟨hp.1, hp.2, hg⟩

set_option maxHeartbeats 400000 in
theorem rint_any (b : Nat) (r : RdS) (w : World) (hr : RdOk r) (h : RdT 33 b r.1 r.2 w) :
    Calls Try.prog 21 #[.pointer (some ⟨b, 0, none⟩)] w fun e w' => e = .returned (.int .i64 (rdInt r).1) ∧ RdT 33 b (rdInt r).2.1 (rdInt r).2.2 w' ∧ w.grownBy w' (some b) := by
  have hb := rdNum_lt r
  have hN := rnum_any b r w hr h
  have e0 : rdInt r = (unzig (rdNum r).1, (rdNum r).2) := rfl
  rw [e0]
  generalize rdNum r = q at *
  obtain ⟨n, s1, st1⟩ := q
  have hn : n < 18446744073709551616 := hb
  have HN := Lib.hid hN
  clear hN h hb e0
  by_cases hp : n % 2 = 1
  · have ht : ((n : Int) % 2 == 1) = true := by rw [beq_iff_eq]; omega
    have HU := Lib.hid (show unzig n = -((n / 2 : Nat) : Int) - 1 by unfold unzig; rw [if_neg (by omega)])
    clear hp
    go_enter Try.func21, Try.ntmps21
    go_wp2_with fail
    refine HN.out.mono ?_
    rintro e w1 ⟨rfl, h1, hg⟩
    go_wp2_with fail
    go_ret
    refine ⟨ret_int ?_, h1, hg⟩
    rw [HU.out]
    first | omega | (simp only [wrap64]; omega)
  · have ht : ((n : Int) % 2 == 1) = false := by rw [beq_eq_false_iff_ne]; omega
    have HU := Lib.hid (show unzig n = ((n / 2 : Nat) : Int) by unfold unzig; rw [if_pos (by omega)])
    clear hp
    go_enter Try.func21, Try.ntmps21
    go_wp2_with fail
    refine HN.out.mono ?_
    rintro e w1 ⟨rfl, h1, hg⟩
    go_wp2_with fail
    go_ret
    refine ⟨ret_int ?_, h1, hg⟩
    rw [HU.out]
    omega

set_option maxHeartbeats 1000000 in
theorem rtext_any (b : Nat) (r : RdS) (w : World) (hr : RdOk r) (h : RdT 33 b r.1 r.2 w) :
    Calls Try.prog 23 #[.pointer (some ⟨b, 0, none⟩)] w fun e w' => e = .returned (.string (rdText r).1) ∧ RdT 33 b (rdText r).2.1 (rdText r).2.2 w' ∧ w.grownBy w' (some b) := by
  have hN := rnum_any b r w hr h
  have hb := rdNum_lt r
  have hk := hr.num
  have e0 : rdText r = if (rdNum r).2.2 then (ByteArray.empty, (rdNum r).2)
  else if (rdNum r).2.1.size < (rdNum r).1 then (ByteArray.empty, (ByteArray.empty, true))
  else ((rdNum r).2.1.extract 0 (rdNum r).1, ((rdNum r).2.1.extract (rdNum r).1 (rdNum r).2.1.size, false)) := rfl
  have E0 := Lib.hid e0
  clear e0
  generalize rdNum r = q at *
  obtain ⟨n, s1, st1⟩ := q
  have HN := Lib.hid hN
  have hs' : s1.size ≤ 70368744177664 := hk.1
  have hb' : n < 18446744073709551616 := hb
  have HK := Lib.hid hk.2
  clear hN h hb hk
  cases st1 with
  | true =>
    go_enter Try.func23, Try.ntmps23
    go_wp2_with fail
    refine HN.out.mono ?_
    rintro e w1 ⟨rfl, h1, hg⟩
    have H1 := Lib.hid h1
    obtain ⟨c0, c1, d0, d1⟩ := h1.facts
    clear h1
    go_wp2_with fail
    refine (rstop_any _ _ _ _ H1.out).mono ?_
    rintro e w2 ⟨rfl, h2, hg2⟩
    go_wp2_with fail
    go_ret
    have hse : s1 = ByteArray.empty := HK.out (by first | rfl | trivial)
    rw [E0.out]
    simp only [if_true]
    rw [hse]
    exact ⟨rfl, h2, grown_then hg hg2⟩
  | false =>
    by_cases hlt : s1.size < n
    · go_enter Try.func23, Try.ntmps23
      go_wp2_with fail
      refine HN.out.mono ?_
      rintro e w1 ⟨rfl, h1, hg⟩
      have H1 := Lib.hid h1
      obtain ⟨c0, c1, d0, d1⟩ := h1.facts
      clear h1
      go_wp2_with fail
      refine (rstop_any _ _ _ _ H1.out).mono ?_
      rintro e w2 ⟨rfl, h2, hg2⟩
      go_wp2_with fail
      go_ret
      rw [E0.out, if_neg (by simp), if_pos hlt]
      exact ⟨rfl, h2, grown_then hg hg2⟩
    · have hle : n ≤ s1.size := by omega
      go_enter Try.func23, Try.ntmps23
      go_wp2_with fail
      refine HN.out.mono ?_
      rintro e w1 ⟨rfl, h1, hg⟩
      have H1 := Lib.hid h1
      obtain ⟨c0, c1, d0, d1⟩ := h1.facts
      clear h1
      go_wp2_with fail
      go_ret
      rw [E0.out, if_neg (by simp), if_neg hlt]
      exact ⟨rfl, H1.out.set0 _, grown_then hg (grown_set (World.grownBy.refl _ _) _ _)⟩
end Go.Proofs.Ythndmaeplnhmlaa
