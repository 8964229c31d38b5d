/- each: the places of a set, one behind the other. -/
import Derived.Test.YtidkakcnhgfpoaaDoorBitsQ
namespace Go.Proofs.YtidkakcnhgfpoaaDoor
open Go.RowKit Go.Shelf
set_option linter.unusedVariables false
attribute [local go_sem] Oper.semAt_some

theorem next_first (N : Nat) (i : Int) : nextN N i = firstI (plcI N) i := by
  unfold nextN firstI plcI
  rw [List.find?_map]
  show (match (plc N).find? (fun j : Nat => decide (i ≤ (j : Int))) with | some j => (j : Int) | none => -1) = match Option.map Int.ofNat ((plc N).find? (fun j : Nat => decide (i ≤ (j : Int)))) with | some x => x | none => -1
  cases (plc N).find? (fun j : Nat => decide (i ≤ (j : Int))) <;> rfl
theorem plcI_rising (N : Nat) : (plcI N).Pairwise (· < ·) := by
  unfold plcI plc
  rw [List.pairwise_map]
  exact (List.pairwise_lt_range.filter _).imp (fun h => by simp only [Int.ofNat_eq_natCast]; omega)
/-- The first of what is left, or -1. -/
def hd : List Int → Int
  | [] => -1
  | x :: _ => x
theorem first_zero (N : Nat) : nextN N 0 = hd (plcI N) := by
  rw [next_first]
  have hm : ∀ x ∈ plcI N, (0 : Int) ≤ x := fun x hx => ((mem_plcI N x).1 hx).1.1
  cases h : plcI N with
  | nil => rfl
  | cons x r =>
    rw [h] at hm
    unfold firstI
    rw [List.find?_cons, decide_eq_true (hm x (by simp))]; rfl
theorem first_behind (pre rest : List Int) (x : Int) (h : (pre ++ x :: rest).Pairwise (· < ·)) : firstI (pre ++ x :: rest) (x + 1) = hd rest := by
  rw [List.pairwise_append] at h
  obtain ⟨_, h2, h3⟩ := h
  have h1 : pre.find? (fun y => decide (x + 1 ≤ y)) = none := List.find?_eq_none.2 fun y hy => by
    have := h3 y hy x (by simp)
    simp; omega
  unfold firstI
  rw [List.find?_append, h1, Option.none_or, List.find?_cons, decide_eq_false (by omega)]
  cases rest with
  | nil => rfl
  | cons y r =>
    have := (List.pairwise_cons.1 h2).1 y (by simp)
    simp only
    rw [List.find?_cons, decide_eq_true (by omega)]; rfl
theorem next_behind (N : Nat) (pre rest : List Int) (x : Int) (h : plcI N = pre ++ x :: rest) : nextN N (x + 1) = hd rest := by
  rw [next_first, h]
  exact first_behind pre rest x (by rw [← h]; exact plcI_rising N)
/-- How much is left to the loop. -/
def leftOf (v : Value) : Nat := if intOf v < 0 then 0 else 257 - (intOf v).toNat
theorem left_num (q : Int) : leftOf (.int .i64 q) = if q < 0 then 0 else 257 - q.toNat := rfl
theorem left_less (x : Int) (rest : List Int) (h0 : 0 ≤ x) (h1 : x < 256) (h : ∀ z ∈ rest, x < z ∧ z < 256) : leftOf (.int .i64 (hd rest)) < leftOf (.int .i64 x) := by
  cases rest with
  | nil => rw [show hd [] = -1 from rfl, left_num, left_num x, if_neg (show ¬ x < 0 by omega), if_pos (by omega)]; omega
  | cons z r =>
    have := h z (by simp)
    rw [show hd (z :: r) = z from rfl, left_num z, left_num x, if_neg (show ¬ z < 0 by omega), if_neg (show ¬ x < 0 by omega)]; omega
theorem tab_next {w w' : World} (h : TabAt 0 Lib.deBruijn64tab w) (k : Below w.heap.size w w') : TabAt 0 Lib.deBruijn64tab w' := fun j hj => keep_cell k (h j hj)
set_option maxRecDepth 100000 in
set_option maxHeartbeats 4000000 in
theorem each_hands (n : Nat) (N : Nat) (n₀ : Nat) (h0 : 0 < n₀) (w : World) (hn₀ : n₀ ≤ w.heap.size) (hT : TabAt 0 Lib.deBruijn64tab w) : HandsOn Fence.wide n Tryd.prog 34 #[sv N] (plcI N) n₀ w := by
  intro l J W hW hJB hY hJ0
  have HB := Lib.hid hJB
  have HT := Lib.hid (tab_next hT hW)
  have HNX := Lib.hid (next_any N)
  have HF := Lib.hid (first_zero N)
  have HG := Lib.hid (fun pre rest x h => next_behind N pre rest x h)
  have HM := Lib.hid (fun x => mem_plcI N x)
  have HPW := Lib.hid (plcI_rising N)
  have hsz := hW.size
  obtain ⟨y, hy⟩ : ∃ y : Int → Int, y = nextN N := ⟨_, rfl⟩
  rw [← hy] at HNX HF HG
  obtain ⟨L, hL⟩ : ∃ L, L = plcI N := ⟨_, rfl⟩
  rw [← hL] at HF HG HM HPW hY ⊢
  clear hy hL hJB hT
  refine callsIn_of_wp Tryd.func34 rfl trivial ?_ rfl
  simp only [Tryd.ntmps34, List.size_toArray, List.length_cons, List.length_nil, Nat.reduceAdd, Nat.reduceSub, Array.replicate_succ, Array.replicate_zero, List.push_toArray, List.append_toArray, List.nil_append, List.cons_append]
  gi_wp2_with fail
  have hT1 := tab_next HT.out (below_alloc1 W (.cells #[.int .u64 (wd N 0 : Int), .int .u64 (wd N 1 : Int), .int .u64 (wd N 2 : Int), .int .u64 (wd N 3 : Int)] 24))
  have hJ1 := HB.out _ _ _ hJ0 (below_alloc1 W (.cells #[.int .u64 (wd N 0 : Int), .int .u64 (wd N 1 : Int), .int .u64 (wd N 2 : Int), .int .u64 (wd N 3 : Int)] 24))
  have hS1 := ArrIn.new 24 (.int .u64 (wd N 0 : Int)) (.int .u64 (wd N 1 : Int)) (.int .u64 (wd N 2 : Int)) (.int .u64 (wd N 3 : Int)) W
  have hz1 : n₀ ≤ (W.alloc (.cells #[.int .u64 (wd N 0 : Int), .int .u64 (wd N 1 : Int), .int .u64 (wd N 2 : Int), .int .u64 (wd N 3 : Int)] 24)).heap.size := by simp; omega
  generalize W.alloc (.cells #[.int .u64 (wd N 0 : Int), .int .u64 (wd N 1 : Int), .int .u64 (wd N 2 : Int), .int .u64 (wd N 3 : Int)] 24) = V at *
  have HT1 := Lib.hid hT1
  have HJ1 := Lib.hid hJ1
  have HS1 := Lib.hid hS1
  clear hT1 hJ1 hS1 hJ0
  refine ⟨trivial, fun h => (by cases h), ?_⟩
  refine (callsIn_wide.2 (HNX.out 0 (by omega) V HT1.out (by omega))).mono ?_
  rintro e w1 ⟨rfl, b1⟩
  have HT2 := Lib.hid (tab_next HT1.out b1)
  have HJ2 := Lib.hid (HB.out _ _ _ HJ1.out b1)
  have HS2 := Lib.hid (HS1.out.next b1)
  have hz2 : n₀ ≤ w1.heap.size := Nat.le_trans hz1 b1.size
  clear HT1 HJ1 HS1 b1
  gi_wp2_with fail
  gi_loopw [4] (fun q wr => ∃ (pre rest : List Int) (qi : Int), q = .int .i64 qi ∧ qi = hd rest ∧ L = pre ++ rest ∧ J pre wr ∧ SetIn 24 W.heap.size N wr ∧ TabAt 0 Lib.deBruijn64tab wr ∧ n₀ ≤ wr.heap.size) (fun q _ => leftOf q)
  case atStart => exact ⟨[], L, y 0, rfl, HF.out, rfl, HJ2.out, HS2.out, HT2.out, hz2⟩
  case round =>
    clear HJ2 HS2 HT2 hz2 hz1
    obtain ⟨pre, rest, qi, rfl, hqi, hL, hJ, hS, hT, hz⟩ := hrel
    cases rest with
    | nil =>
      rw [List.append_nil] at hL
      have HJ := Lib.hid hJ
      have HL := Lib.hid hL
      clear hJ hS hT hL hY
      obtain rfl : qi = -1 := hqi
      gi_wp2_with fail
      refine ⟨fun _ h => (by cases h), ?_⟩
      gi_wp2_with fail
      go_end0
      exact ⟨⟨_, rfl⟩, by rw [HL.out]; exact HJ.out⟩
    | cons x rest =>
      have hx := ((HM.out x).1 (by rw [hL]; simp)).1
      have hx0 : 0 ≤ x := hx.1
      have hx1 : x < 256 := hx.2
      have hrise : leftOf (.int .i64 (hd rest)) < leftOf (.int .i64 x) := by
        refine left_less x rest hx0 hx1 fun z hz => ?_
        have hp := HPW.out
        rw [hL, List.pairwise_append] at hp
        exact ⟨(List.pairwise_cons.1 hp.2.1).1 z hz, ((HM.out z).1 (by rw [hL]; simp [hz])).1.2⟩
      have HR := Lib.hid hrise
      have HLn := Lib.hid (show L = (pre ++ [x]) ++ rest by rw [hL]; simp)
      have HGn := Lib.hid (HG.out pre rest x hL)
      have HT3 := Lib.hid hT
      have HS3 := Lib.hid hS
      obtain ⟨fn, tmps, assign, body, hy, hRd⟩ := hY pre x rest wr hL hJ
      clear hrise hL hJ hS hT hx
      obtain rfl : x = qi := hqi.symm
      clear hqi
      gi_wp2_with fail
      refine ⟨fun h => (by cases h), ?_⟩
      refine hRd.mono ?_
      rintro e W3 ⟨rfl, hJ3, hb3, hk3⟩
      have HJ3 := Lib.hid hJ3
      have HS4 := Lib.hid (show SetIn 24 W.heap.size N W3 from hk3 _ _ _ HS3.out)
      have HT4 := Lib.hid (show TabAt 0 Lib.deBruijn64tab W3 from fun j hj => (hb3.cell h0).trans (HT3.out j hj))
      have hz3 : n₀ ≤ W3.heap.size := Nat.le_trans hz hb3.size
      have hc4 := HS4.out.cells
      clear hJ3 hb3 hk3 HS3 HT3 hy hRd
      gi_wp2_with fail
      refine ⟨trivial, fun h => (by cases h), ?_⟩
      refine (callsIn_wide.2 (HNX.out (x + 1) (by omega) W3 HT4.out (by omega))).mono ?_
      rintro e w4 ⟨rfl, b4⟩
      have HT5 := Lib.hid (tab_next HT4.out b4)
      have HJ5 := Lib.hid (HB.out _ _ _ HJ3.out b4)
      have HS5 := Lib.hid (HS4.out.next b4)
      have hz4 : n₀ ≤ w4.heap.size := Nat.le_trans hz3 b4.size
      clear b4
      gi_wp2_with fail
      exact ⟨⟨pre ++ [x], rest, y (x + 1), rfl, HGn.out, HLn.out, HJ5.out, HS5.out, HT5.out, hz4⟩, by rw [HGn.out]; exact HR.out⟩
end Go.Proofs.YtidkakcnhgfpoaaDoor
