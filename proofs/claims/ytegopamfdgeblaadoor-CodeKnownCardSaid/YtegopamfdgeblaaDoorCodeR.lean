/- The walk of CodeTells. -/
import Derived.Test.YtegopamfdgeblaaDoorCodeQ
namespace Go.Proofs.YtegopamfdgeblaaDoor
open Go.RowKit
set_option linter.unusedVariables false
set_option linter.unusedSimpArgs false

theorem ways_at (a : Option Addr) (cap : Nat) (L : List Ins) (n : Nat) (hn : L.length = n) (i : Int) (M : List Int) (hM : waysL L i = M) (m : Nat) (hm : M.length = m) (w : World) (h : IsC w a cap L) :
    Calls Tryd.prog 13 #[.slice a n cap, .int .i64 i] w fun e w' => ∃ p c, e = .returned (.slice p m c) ∧ IsL w' p c M ∧ Below w.heap.size w w' := by
  subst hn hM hm
  exact (ways_any a cap L i w h).mono fun e w' ⟨⟨p, c, he, hi⟩, hb⟩ => ⟨p, c, he, hi, hb⟩
theorem refWays_at (a : Option Addr) (cap : Nat) (L : List Ins) (n : Nat) (hn : L.length = n) (i : Int) (M : List Int) (hM : waysL L i = M) (m : Nat) (hm : M.length = m) (w : World) (h : IsC w a cap L) :
    Calls Tryd.prog 14 #[.slice a n cap, .int .i64 i] w fun e w' => ∃ p c, e = .returned (.slice p m c) ∧ IsL w' p c M ∧ Below w.heap.size w w' := by
  subst hn hM hm
  exact (refWays_any a cap L i w h).mono fun e w' ⟨⟨p, c, he, hi⟩, hb⟩ => ⟨p, c, he, hi, hb⟩
theorem same_at (p q : Option Addr) (c d : Nat) (M : List Int) (m : Nat) (hm : M.length = m) (w : World) (h1 : IsL w p c M) (h2 : IsL w q d M) :
    Calls Tryd.prog 12 #[.slice p m c, .slice q m d] w fun e w' => e = .returned (.bool true) ∧ Below w.heap.size w w' := by
  subst hm
  refine (refSame_any p q c d M M w h1 h2).mono fun e w' ⟨he, hb⟩ => ⟨?_, hb⟩
  rw [he]; simp
theorem text_at (a : Option Addr) (cap : Nat) (L : List Ins) (n : Nat) (hn : L.length = n) (s : ByteArray) (hs : bytesS (textL L) = s) (w : World) (h : IsC w a cap L) (hr : InR L) (hl : L.length ≤ 1000) (hT : Tabs w) :
    Calls Tryd.prog 15 #[.slice a n cap] w fun e w' => e = .returned (.string s) ∧ Below w.heap.size w w' := by
  subst hn hs
  exact text_any a cap L w h hr hl hT
theorem refText_at (a : Option Addr) (cap : Nat) (L : List Ins) (n : Nat) (hn : L.length = n) (s : ByteArray) (hs : bytesS (textL L) = s) (w : World) (h : IsC w a cap L) (hr : InR L) (hl : L.length ≤ 1000) :
    Calls Tryd.prog 16 #[.slice a n cap] w fun e w' => e = .returned (.string s) ∧ Below w.heap.size w w' := by
  subst hn hs
  exact refText_any a cap L w h hr hl
set_option maxRecDepth 100000 in
set_option maxHeartbeats 4000000 in
theorem walk_CodeTells (a : Option Addr) (l cap : Nat) (L : List Ins) (i : Int) (w : World) (h : IsC w a cap L) (hl : L.length = l) (hr : InR L) (hT : Tabs w) :
    Calls Tryd.prog 4 #[.slice a l cap, .int .i64 i] w fun e w' => e = .returned (.bool true) ∧ Below w.heap.size w w' := by
  have hcap := h.1
  have hcm := h.2.1
  have HT := Lib.hid hT
  have HC := Lib.hid (h.take 40)
  have HRR := Lib.hid (hr.take 40)
  obtain ⟨k, hk⟩ : ∃ k, k = min l 40 := ⟨_, rfl⟩
  have HCl := Lib.hid (show (L.take 40).length = k by rw [List.length_take, hk, hl]; omega)
  have hk40 : k ≤ 40 := by omega
  have hmin1 : min (l : Int) 40 = (k : Int) := by omega
  have hkl : k ≤ l := by omega
  have hkc : k ≤ cap := by omega
  obtain ⟨D, hD⟩ : ∃ D, D = L.take 40 := ⟨_, rfl⟩
  rw [← hD] at HC HRR HCl
  have HDL := Lib.hid (show D.length ≤ 1000 by rw [HCl.out]; omega)
  obtain ⟨W, hW⟩ : ∃ W : Int → List Int, ∀ z, waysL D z = W z := ⟨_, fun _ => rfl⟩
  have HW := Lib.hid hW
  obtain ⟨S, hS⟩ : ∃ S, bytesS (textL D) = S := ⟨_, rfl⟩
  have HS := Lib.hid hS
  rw [hl] at hcap
  clear hk hr h hT hl hD hW hS
  go_enter Tryd.func4, Tryd.ntmps4
  go_wp2_with fail
  go_loopw [5] (fun q wr => ∃ z : Int, q = .int .i64 z ∧ -1 ≤ z ∧ z ≤ (k : Int) + 1 ∧ Below w.heap.size w wr) (fun q _ => ((k : Int) + 2 - intOf q).toNat)
  case atStart => exact ⟨-1, rfl, by omega, by omega, Below.refl _ _⟩
  case round =>
    obtain ⟨z, rfl, hz1, hz2, hbw⟩ := hrel
    have HB := Lib.hid hbw
    clear hbw
    by_cases hlt : z ≤ (k : Int)
    · obtain ⟨m, hm⟩ : ∃ m, (W z).length = m := ⟨_, rfl⟩
      have HM := Lib.hid hm
      clear hm
      go_wp2_with fail
      refine (ways_at _ _ _ _ HCl.out _ _ (HW.out z) _ HM.out _ (HC.out.next HB.out)).mono ?_
      rintro e w1 ⟨p1, c1, rfl, i1, b1⟩
      have HB1 := Lib.hid (below_then' HB.out b1 HB.out.size)
      have HI1 := Lib.hid i1
      clear i1 b1
      go_wp2_with fail
      refine (refWays_at _ _ _ _ HCl.out _ _ (HW.out z) _ HM.out _ (HC.out.next HB1.out)).mono ?_
      rintro e w2 ⟨p2, c2, rfl, i2, b2⟩
      have HB2 := Lib.hid (below_then' HB1.out b2 HB1.out.size)
      have HI2 := Lib.hid i2
      have HI1' := Lib.hid (HI1.out.next b2)
      clear i2 b2
      go_wp2_with fail
      refine (same_at _ _ _ _ _ _ HM.out _ HI1'.out HI2.out).mono ?_
      rintro e w3 ⟨rfl, b3⟩
      have HB3 := Lib.hid (below_then' HB2.out b3 HB2.out.size)
      clear b3
      go_wp2_with fail
      go_roundw
      case rel => exact ⟨z + 1, rfl, by omega, by omega, HB3.out⟩
      case measure => simp [intOf]; omega
    · obtain ⟨m, hm⟩ : ∃ m, (W i).length = m := ⟨_, rfl⟩
      have HM := Lib.hid hm
      clear hm
      go_wp2_with fail
      refine (ways_at _ _ _ _ HCl.out _ _ (HW.out i) _ HM.out _ (HC.out.next HB.out)).mono ?_
      rintro e w1 ⟨p1, c1, rfl, i1, b1⟩
      have HB1 := Lib.hid (below_then' HB.out b1 HB.out.size)
      have HI1 := Lib.hid i1
      clear i1 b1
      go_wp2_with fail
      refine (refWays_at _ _ _ _ HCl.out _ _ (HW.out i) _ HM.out _ (HC.out.next HB1.out)).mono ?_
      rintro e w2 ⟨p2, c2, rfl, i2, b2⟩
      have HB2 := Lib.hid (below_then' HB1.out b2 HB1.out.size)
      have HI2 := Lib.hid i2
      have HI1' := Lib.hid (HI1.out.next b2)
      clear i2 b2
      go_wp2_with fail
      refine (same_at _ _ _ _ _ _ HM.out _ HI1'.out HI2.out).mono ?_
      rintro e w3 ⟨rfl, b3⟩
      have HB3 := Lib.hid (below_then' HB2.out b3 HB2.out.size)
      clear b3
      go_wp2_with fail
      refine (text_at _ _ _ _ HCl.out _ HS.out _ (HC.out.next HB3.out) HRR.out HDL.out (HT.out.next HB3.out)).mono ?_
      rintro e w4 ⟨rfl, b4⟩
      have HB4 := Lib.hid (below_then' HB3.out b4 HB3.out.size)
      clear b4
      go_wp2_with fail
      refine (refText_at _ _ _ _ HCl.out _ HS.out _ (HC.out.next HB4.out) HRR.out HDL.out).mono ?_
      rintro e w5 ⟨rfl, b5⟩
      have HB5 := Lib.hid (below_then' HB4.out b5 HB4.out.size)
      clear b5
      go_wp2_with fail
      refine (works_any _ (HT.out.next HB5.out)).mono ?_
      rintro e w6 ⟨rfl, b6⟩
      have HB6 := Lib.hid (below_then' HB5.out b6 HB5.out.size)
      clear b6
      go_wp2_with fail
      go_ret
      exact ⟨rfl, HB6.out⟩
end Go.Proofs.YtegopamfdgeblaaDoor
