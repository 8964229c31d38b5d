/- The program's Text; then the document's reader. -/
import Derived.Test.YthndmaeplnhmlaaWireJ
import Derived.Test.YthndmaeplnhmlaaWireD
namespace Go.Proofs.Ythndmaeplnhmlaa
open Go.RowKit
set_option linter.unusedVariables false

set_option maxHeartbeats 1000000 in
theorem text_any (b : Nat) (r : RdS) (w : World) (hr : RdOk r) (h : RdT 57 b r.1 r.2 w) :
    Calls Try.prog 22 #[.pointer (some ⟨b, 0, none⟩)] w fun e w' => e = .returned (.string (rdText r).1) ∧ RdT 57 b (rdText r).2.1 (rdText r).2.2 w' ∧ w.grownBy w' (some b) := by
  have hN := num_any b r w hr h
  have hb := rdNum_lt r
  have hs := hr.num.1
  have e0 : rdText r = if (rdNum r).2.2 then (ByteArray.empty, (rdNum r).2)
  else if (rdNum r).2.1.size < (rdNum r).1 then (ByteArray.empty, (ByteArray.empty, true))
  else ((rdNum r).2.1.extract 0 (rdNum r).1, ((rdNum r).2.1.extract (rdNum r).1 (rdNum r).2.1.size, false)) := rfl
  have E0 := Lib.hid e0
  clear e0
  generalize rdNum r = q at *
  obtain ⟨n, s1, st1⟩ := q
  have HN := Lib.hid hN
  clear hN h
  cases st1 with
  | true =>
    go_enter Try.func22, Try.ntmps22
    go_wp2_with (first | (go_at_call 18; refine HN.out.mono ?_; rintro e w1 ⟨rfl, h1, hg⟩) | (go_at_call 24; refine (ok_any _ _ _ _ h1).mono ?_; rintro e w2 ⟨rfl, rfl⟩))
    go_ret
    rw [E0.out]
    exact ⟨rfl, h1, hg⟩
  | false =>
    have hs' : s1.size ≤ 70368744177664 := hs
    have hb' : n < 18446744073709551616 := hb
    clear hs hb
    by_cases hlt : s1.size < n
    · go_enter Try.func22, Try.ntmps22
      go_wp2_with (first | (go_at_call 18; refine HN.out.mono ?_; rintro e w1 ⟨rfl, h1, hg⟩; have H1 := Lib.hid h1; obtain ⟨c0, c1, d0, d1⟩ := h1.facts; clear h1) | (go_at_call 24; refine (ok_any _ _ _ _ H1.out).mono ?_; rintro e w2 ⟨rfl, rfl⟩) | (go_at_call 35; refine (stop_any _ _ _ _ H1.out).mono ?_; rintro e w2 ⟨rfl, h2, hg2⟩))
      go_ret
      rw [E0.out, if_neg (by simp), if_pos hlt]
      exact ⟨rfl, h2, grown_then hg hg2⟩
    · have hle : n ≤ s1.size := by omega
      go_enter Try.func22, Try.ntmps22
      go_wp2_with (first | (go_at_call 18; refine HN.out.mono ?_; rintro e w1 ⟨rfl, h1, hg⟩; have H1 := Lib.hid h1; obtain ⟨c0, c1, d0, d1⟩ := h1.facts; clear h1) | (go_at_call 24; refine (ok_any _ _ _ _ H1.out).mono ?_; rintro e w2 ⟨rfl, rfl⟩) | (go_at_call 38; refine (clone_any _ _ (by simp only [ByteArray.size_extract]; omega)).mono ?_; rintro e w2 ⟨rfl, hb2⟩; have H2 := Lib.hid (H1.out.below hb2); obtain ⟨c2, c3, d2, d3⟩ := H2.out.facts))
      go_ret
      rw [E0.out, if_neg (by simp), if_neg hlt]
      exact ⟨rfl, H2.out.set0 _, grown_then hg (grown_set (grown_below hb2 _) _ _)⟩

set_option maxHeartbeats 400000 in
theorem rok_any (b : Nat) (s : ByteArray) (st : Bool) (w : World) (h : RdT 33 b s st w) :
    Calls Try.prog 25 #[.pointer (some ⟨b, 0, none⟩)] w fun e w' => e = .returned (.bool (!st)) ∧ w = w' := by
  obtain ⟨h0, h1, _, _⟩ := h.facts
  clear h
  go_enter Try.func25, Try.ntmps25
  go_wp2
  go_ret
  exact ⟨rfl, rfl⟩
set_option maxHeartbeats 400000 in
theorem rend_any (b : Nat) (s : ByteArray) (st : Bool) (w : World) (h : RdT 33 b s st w) :
    Calls Try.prog 27 #[.pointer (some ⟨b, 0, none⟩)] w fun e w' => e = .returned (.bool (!st && s.toList.isEmpty)) ∧ w = w' := by
  obtain ⟨h0, h1, _, _⟩ := h.facts
  clear h
  cases st
  all_goals
    go_enter Try.func27, Try.ntmps27
    go_wp2
    go_ret
    exact ⟨rfl, rfl⟩
set_option maxHeartbeats 400000 in
theorem rstop_any (b : Nat) (s : ByteArray) (st : Bool) (w : World) (h : RdT 33 b s st w) :
    Calls Try.prog 36 #[.pointer (some ⟨b, 0, none⟩)] w fun e w' => e = .returned (.int .u64 0) ∧ RdT 33 b ByteArray.empty true w' ∧ w.grownBy w' (some b) := by
  obtain ⟨h0, h1, f0, f1⟩ := h.facts
  have H := Lib.hid h
  clear h
  go_enter Try.func36, Try.ntmps36
  go_wp2
  go_ret
  exact ⟨rfl, (H.out.set0 _).set1 _, grown_set (grown_set (World.grownBy.refl _ _) _ _) _ _⟩
end Go.Proofs.Ythndmaeplnhmlaa
