/- isPerm. -/
import Derived.Test.YtibacoffnkbbbaaDealG
namespace Go.Proofs.Ytibacoffnkbbbaa
open Go.RowKit Go.Maps
set_option linter.unusedVariables false

theorem run_makeMap_hint {P : Program} {t k e : TypeId} (hu : P.underlying t = some (.map k e)) (q : IntKind) (n : Int) (w : World) : (Instr.makeMap t (some (.int q n))).run P w = .ok (.map (some w.heap.size)) (w.alloc (.map #[] 0)) := by
  simp [Instr.makeMap, run_underlying hu, asInt, asIntOf]
theorem nat_beq (a b : Nat) : ((a : Int) == (b : Int)) = decide (a = b) := by
  apply Bool.eq_iff_iff.2
  rw [beq_iff_eq, decide_eq_true_iff]
  omega
theorem lawInt : Keyed Try.prog 3 := int_keyed Try.underlying3
set_option maxRecDepth 100000 in
set_option maxHeartbeats 1000000 in
theorem isPerm_any (a : Option Addr) (c : Nat) (P : List Int) (n : Nat) (w : World) (h : IsL w a c P) :
    Calls Try.prog 17 #[.slice a P.length c, .int .i64 (n : Int)] w fun e w' => e = .returned (.bool (isP P n)) ∧ Below w.heap.size w w' := by
  have hlc := h.1
  have hcm := h.2.1
  have HL := Lib.hid h
  clear h
  obtain ⟨r, hr⟩ : ∃ r, r = isP P n := ⟨_, rfl⟩
  rw [← hr]
  have HR := Lib.hid hr
  clear hr
  by_cases hl : P.length = n
  · subst hl
    have hmm := run_makeMap_hint Try.underlying37 .i64 (P.length : Int)
    have hmb : Below w.heap.size w (w.alloc (.map #[] 0)) := below_alloc1 w _
    have HMB := Lib.hid hmb
    clear hmb
    go_enter Try.func17, Try.ntmps17
    go_wp2_with fail
    go_loopw [16] (fun q wr => ∃ k : Nat, k ≤ P.length ∧ q = .int .i64 (k : Int) ∧ (∀ x ∈ P.take k, 0 ≤ x ∧ x < (P.length : Int)) ∧ wr.ownsMap Try.prog 3 unitElem w.heap.size k (Sd (H := Unit) P k) ∧ Below w.heap.size w wr) (fun q _ => P.length - (intOf q).toNat)
    case atStart => exact ⟨0, Nat.zero_le _, rfl, fun x hx => by simp at hx, by rw [Sd_zero]; exact World.ownsMap_made _ _ _ _, HMB.out⟩
    case round =>
      obtain ⟨k, hk, rfl, hin, hown, hbw⟩ := hrel
      have HI := Lib.hid hin
      have HO := Lib.hid hown
      have HW := Lib.hid hbw
      clear hin hown hbw
      by_cases hlt : k < P.length
      · obtain ⟨b, off, rfl, hcell⟩ := (HL.out.next HW.out).at k (by omega)
        have hstep := Sd_succ (H := Unit) P k (by omega)
        obtain ⟨x, hx⟩ : ∃ x, P.getD k 0 = x := ⟨_, rfl⟩
        rw [hx] at hcell hstep
        have HX := Lib.hid hx
        have HS := Lib.hid hstep
        clear hx hstep
        have hmem : x ∈ P := by rw [← HX.out, getD_in P k (by omega)]; exact List.getElem_mem _
        by_cases h0 : x < 0
        · have hf : r = false := by rw [HR.out]; exact isP_out P P.length x hmem (by omega)
          clear hmem
          go_wp2_with fail
          go_ret
          exact ⟨by first | rfl | (rw [hf]; rfl), HW.out⟩
        · by_cases h1 : (P.length : Int) ≤ x
          · have hf : r = false := by rw [HR.out]; exact isP_out P P.length x hmem (by omega)
            clear hmem
            go_wp2_with fail
            go_ret
            exact ⟨by first | rfl | (rw [hf]; rfl), HW.out⟩
          · have hkey : keyOf Try.prog 3 (.int .i64 x) = some (.int .i64 x) := keyOf_int_mk Try.underlying3 (WalkArith.wf_i64 (by omega))
            have HI1 := Lib.hid (show ∀ y ∈ P.take (k + 1), 0 ≤ y ∧ y < (P.length : Int) by
              intro y hy
              rw [take_step P k (by omega), List.mem_append] at hy
              rcases hy with hy | hy
              · exact HI.out y hy
              · simp only [List.mem_singleton] at hy; rw [hy, HX.out]; omega)
            clear hmem
            go_wp2_with (at_mapUpdate; refine wpList_mapUpdate_own _ rfl _ _ _ 37 rfl 3 38 lawInt Try.underlying37 (unitElem (H := Unit)) w.heap.size k _ rfl HO.out (by unfold maxLen; omega) _ _ _ rfl rfl hkey _ [] unitElem_mk ?_)
            intro w1 hown1 hgrow1
            have HS1 := Lib.hid (HS.out.symm ▸ hown1)
            have HW1 := Lib.hid (HW.out.grown hgrow1 HW.out.size (fun j hj => by cases hj; exact Nat.le_refl _))
            clear hown1 hgrow1
            go_wp2_with fail
            go_roundw
            case rel => exact ⟨k + 1, by omega, by go_num, HI1.out, HS1.out, HW1.out⟩
            case measure => simp [intOf]; omega
      · have hf : r = decide ((onceI P).length = P.length) := by
          rw [HR.out]
          refine isP_once P P.length rfl (fun x hx => HI.out x ?_)
          rw [List.take_of_length_le (by omega)]
          exact hx
        have hs := Sd_size (H := Unit) P k (by omega)
        have HSZ := Lib.hid hs
        have HF := Lib.hid hf
        clear hs hf
        go_wp2_with (at_len; refine wpList_len_own _ rfl _ 37 rfl 3 38 Try.underlying37 _ w.heap.size k _ rfl HO.out ?_; rw [HSZ.out])
        go_ret
        refine ⟨?_, HW.out⟩
        rw [HF.out]
        exact congrArg (fun b => Ending.returned (.bool b)) (nat_beq _ _)
  · have hf : r = false := by rw [HR.out]; unfold isP; rw [decide_eq_false hl]; rfl
    have hlb : ((P.length : Int) == (n : Int)) = false := by simp; omega
    go_enter Try.func17, Try.ntmps17
    go_wp2_with fail
    go_ret
    exact ⟨by first | rfl | (rw [hf]; rfl), Below.refl _ _⟩
end Go.Proofs.Ytibacoffnkbbbaa
