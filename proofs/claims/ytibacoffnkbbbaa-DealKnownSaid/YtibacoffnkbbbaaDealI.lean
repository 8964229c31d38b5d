/- Turned, and the document's. -/
import Derived.Test.YtibacoffnkbbbaaDealH
namespace Go.Proofs.Ytibacoffnkbbbaa
open Go.RowKit
set_option linter.unusedVariables false

/-- The list in the order of P. -/
def turnL (L P : List Int) : List Int := P.map fun x => L.getD x.toNat 0
def turnI (L P : List Int) : List Int := if isP P L.length = true then turnL L P else []
theorem turnL_len (L P : List Int) : (turnL L P).length = P.length := by unfold turnL; rw [List.length_map]
theorem turnL_at (L P : List Int) (k : Nat) (hk : k < P.length) : (turnL L P).getD k 0 = L.getD (P.getD k 0).toNat 0 := by
  rw [getD_in _ k (by rw [turnL_len]; exact hk), getD_in P k hk]
  unfold turnL
  rw [List.getElem_map]
/-- The first k of M, the others 0. -/
def fillL (M : List Int) (k : Nat) : List Int := M.take k ++ List.replicate (M.length - k) 0
theorem fillL_zero (M : List Int) : fillL M 0 = List.replicate M.length 0 := by unfold fillL; simp
theorem fillL_full (M : List Int) : fillL M M.length = M := by unfold fillL; simp
theorem fillL_len (M : List Int) (k : Nat) (h : k ≤ M.length) : (fillL M k).length = M.length := by unfold fillL; rw [List.length_append, List.length_take, List.length_replicate]; omega
theorem fillL_step (M : List Int) (k : Nat) (h : k < M.length) : (fillL M k).set k (M.getD k 0) = fillL M (k + 1) := by
  unfold fillL
  have hl : (M.take k).length = k := by rw [List.length_take]; omega
  rw [List.set_append_right _ _ (by omega), hl, Nat.sub_self, take_step M k h, show M.length - k = (M.length - (k + 1)) + 1 by omega, List.replicate_succ, List.set_cons_zero, List.append_assoc]
  rfl
theorem isP_len {P : List Int} {n : Nat} (h : isP P n = true) : P.length = n := by
  unfold isP at h
  rw [Bool.and_eq_true] at h
  exact of_decide_eq_true h.1
theorem isP_range {P : List Int} {n : Nat} (h : isP P n = true) : ∀ x ∈ P, 0 ≤ x ∧ x < (n : Int) := by
  intro x hx
  apply Decidable.byContradiction
  intro hn
  rw [isP_out P n x hx hn] at h
  cases h
theorem isP_at {P : List Int} {n : Nat} (h : isP P n = true) (k : Nat) (hk : k < n) : 0 ≤ P.getD k 0 ∧ P.getD k 0 < (n : Int) := by
  have hl := isP_len h
  exact isP_range h _ (by rw [getD_in P k (by omega)]; exact List.getElem_mem _)
theorem made_zero (n : Nat) (M : List Int) (h : M.length = n) : (madeCells #[Value.int .i64 0] n).toList = (fillL M 0).map (Value.int .i64) := by
  rw [fillL_zero, h]
  exact (toList_madeCells_one _ _).trans (by simp)
theorem made_zero1 (n : Nat) (M : List Int) (h : M.length = n) : (madeCells (Value.int .i64 0).cells (n * 1)).toList = (fillL M 0).map (Value.int .i64) := by
  rw [Nat.mul_one]
  exact made_zero n M h
theorem isPerm_at (a : Option Addr) (c : Nat) (P : List Int) (n m : Nat) (r : Bool) (w : World) (h : IsL w a c P) (hm : P.length = m) (hr : isP P n = r) :
    Calls Try.prog 17 #[.slice a m c, .int .i64 (n : Int)] w fun e w' => e = .returned (.bool r) ∧ Below w.heap.size w w' := by
  subst hm hr
  exact isPerm_any a c P n w h
set_option maxRecDepth 100000 in
set_option maxHeartbeats 1000000 in
theorem turned_any (a b : Option Addr) (c d : Nat) (L P : List Int) (w : World) (hL : IsL w a c L) (hP : IsL w b d P) (hs : L.length ≤ 4096) :
    Calls Try.prog 12 #[.slice a L.length c, .slice b P.length d] w fun e w' => OutL w' e (turnI L P) ∧ Below w.heap.size w w' := by
  have hlc := hL.1
  have hcm := hL.2.1
  have hpd := hP.1
  have hdm := hP.2.1
  obtain ⟨i0, hi, hz0, hz1, hz2⟩ := info_parts intInfo
  have HL := Lib.hid hL
  have HP := Lib.hid hP
  clear hL hP
  obtain ⟨n, hn⟩ : ∃ n, L.length = n := ⟨_, rfl⟩
  obtain ⟨m, hm⟩ : ∃ m, P.length = m := ⟨_, rfl⟩
  cases hok : isP P L.length
  · have HT := Lib.hid (show turnI L P = [] by unfold turnI; rw [hok]; rfl)
    rw [hn] at hs hlc hok
    rw [hm] at hpd
    rw [hn, hm, HT.out]
    have HM := Lib.hid hm
    have HK := Lib.hid hok
    clear hok hn hm
    go_enter Try.func12, Try.ntmps12
    go_wp2_with (go_at_call 17; refine (isPerm_at b d P n m false _ HP.out HM.out HK.out).mono ?_; rintro e w1 ⟨rfl, hb⟩)
    go_ret
    exact ⟨⟨none, 0, rfl, IsL.nil _⟩, hb⟩
  · have hpl := isP_len hok
    have HT := Lib.hid (show turnI L P = turnL L P by unfold turnI; rw [hok]; rfl)
    have hR := isP_at hok
    rw [HT.out]
    obtain ⟨M, hM⟩ : ∃ M, M = turnL L P := ⟨_, rfl⟩
    have hMl : M.length = n := by rw [hM, turnL_len, hpl, hn]
    have hMa : ∀ k, k < n → M.getD k 0 = L.getD (P.getD k 0).toNat 0 := fun k hk => (congrArg (fun q : List Int => q.getD k 0) hM).trans (turnL_at L P k (by omega))
    rw [← hM]
    obtain rfl : m = n := by omega
    rw [hn] at hs hlc hok hR
    rw [hm] at hpd
    rw [hn, hm]
    have HM := Lib.hid hm
    have HK := Lib.hid hok
    have HR := Lib.hid hR
    have HMl := Lib.hid hMl
    have HMa := Lib.hid hMa
    have HN := Lib.hid hn
    clear hM HT hpl hok hn hm hR hMl hMa
    go_enter Try.func12, Try.ntmps12
    go_wp2_with (first
      | (go_at_call 17; refine (isPerm_at b d P m m true _ HP.out HM.out HK.out).mono ?_; rintro e w1 ⟨rfl, hb⟩)
      | (at_make; refine wpList_make_full _ rfl _ _ 22 rfl w1.heap.size 3 i0 (.int .i64 0) 1 Try.underlying22 hi hz0 hz1 .i64 .i64 _ _ m rfl rfl rfl rfl (by rw [hz2]; omega) (by unfold maxLen; omega) (Nat.le_refl _) ?_; intro w2 hown hgrow))
    rw [made_zero1 m M HMl.out] at hown
    have hR : RowI w2 w1.heap.size w1.heap.size m (fillL M 0) := by unfold RowI; rw [fillL_len M 0 (by omega), HMl.out]; exact hown
    have hB0 := hb.size
    have hB : Below w.heap.size w w2 := hb.grown hgrow hb.size (fun k e => by cases e)
    have HRW := Lib.hid hR
    have HB := Lib.hid hB
    clear hown hgrow hb hR hB
    have hg := hB0
    go_wp2_with fail
    go_loopw [18] (fun q wr => ∃ k : Nat, k ≤ m ∧ q = .int .i64 (k : Int) ∧ RowI wr w1.heap.size w1.heap.size m (fillL M k) ∧ Below w.heap.size w wr) (fun q _ => m - (intOf q).toNat)
    case atStart => exact ⟨0, Nat.zero_le _, rfl, HRW.out, HB.out⟩
    case round =>
      obtain ⟨k, hk, rfl, hR, hB⟩ := hrel
      have hfz := hR.free k
      by_cases hlt : k < m
      · have hc := hR.cell k (by rw [fillL_len M k (by rw [HMl.out]; exact hk), HMl.out]; exact hlt)
        obtain ⟨x, hx⟩ : ∃ x, P.getD k 0 = x := ⟨_, rfl⟩
        have hxr := HR.out k hlt
        obtain ⟨bp, op, rfl, hcp⟩ := (HP.out.next hB).at k (by rw [HM.out]; exact hlt)
        rw [hx] at hxr hcp
        obtain ⟨bl, ol, rfl, hcl⟩ := (HL.out.next hB).at x.toNat (by rw [HN.out]; omega)
        obtain ⟨y, hy⟩ : ∃ y, L.getD x.toNat 0 = y := ⟨_, rfl⟩
        rw [hy] at hcl
        have hst := fillL_step M k (by rw [HMl.out]; exact hlt)
        rw [HMa.out k hlt, hx, hy] at hst
        have HR1 := Lib.hid (hst ▸ hR.set k y)
        have HB1 := Lib.hid (hB.setCell (p := ⟨w1.heap.size, k, none⟩) hg (.int .i64 y))
        clear hR hB hx hy hst
        go_wp2_with fail
        go_roundw
        case rel => exact ⟨k + 1, by omega, by go_num, HR1.out, HB1.out⟩
        case measure => simp [intOf]; omega
      · have HR1 := Lib.hid (show RowI _ w1.heap.size w1.heap.size m M by rw [show k = M.length by rw [HMl.out]; omega, fillL_full] at hR; exact hR)
        have HB1 := Lib.hid hB
        clear hR hB hfz
        go_wp2_with fail
        go_ret
        exact ⟨⟨_, m, by rw [HMl.out]; rfl, HR1.out.isL⟩, HB1.out⟩
end Go.Proofs.Ytibacoffnkbbbaa
