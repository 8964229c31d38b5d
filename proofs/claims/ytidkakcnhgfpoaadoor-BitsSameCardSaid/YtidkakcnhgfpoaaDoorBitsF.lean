/- Next: the least place that is not below a number. Add, Del. -/
import Derived.Test.YtidkakcnhgfpoaaDoorBitsD
import Derived.Test.YtidkakcnhgfpoaaDoorBitsC
import Derived.Test.YtidkakcnhgfpoaaDoorBitsBo
import Derived.Test.YtidkakcnhgfpoaaDoorBitsBl
import Derived.Deep.RegionHeld3
import Derived.Deep.LoopGhost
namespace Go.Proofs.YtidkakcnhgfpoaaDoor
open Go.RowKit
set_option linter.unusedVariables false

set_option maxHeartbeats 2000000 in
theorem add_any (N : Nat) (i : Int) (w : World) : Calls Tryd.prog 11 #[sv N, .int .i64 i] w fun e w' => e = .returned (sv (addN N i)) ∧ Below w.heap.size w w' := by
  have HO := Lib.hid (or_any N (onlyN i))
  have HI := Lib.hid (only_any i)
  unfold addN
  generalize onlyN i = M at *
  generalize N ||| M = NM at *
  go_enter Tryd.func11, Tryd.ntmps11
  go_wp2_with fail
  have b0 := below_alloc2 w (.cells #[.int .u64 (wd N 0 : Int), .int .u64 (wd N 1 : Int), .int .u64 (wd N 2 : Int), .int .u64 (wd N 3 : Int)] 24) (.cells #[.int .u64 0, .int .u64 0, .int .u64 0, .int .u64 0] 24)
  have ha : ArrIn 24 w.heap.size _ _ _ _ ((w.alloc (.cells #[.int .u64 (wd N 0 : Int), .int .u64 (wd N 1 : Int), .int .u64 (wd N 2 : Int), .int .u64 (wd N 3 : Int)] 24)).alloc (.cells #[.int .u64 0, .int .u64 0, .int .u64 0, .int .u64 0] 24)) := (ArrIn.new _ _ _ _ _ _).alloc _
  have hb : ArrIn 24 (w.heap.size + 1) (.int .u64 0) (.int .u64 0) (.int .u64 0) (.int .u64 0) ((w.alloc (.cells #[.int .u64 (wd N 0 : Int), .int .u64 (wd N 1 : Int), .int .u64 (wd N 2 : Int), .int .u64 (wd N 3 : Int)] 24)).alloc (.cells #[.int .u64 0, .int .u64 0, .int .u64 0, .int .u64 0] 24)) := heap_alloc2_new w _ _
  generalize (w.alloc (.cells #[.int .u64 (wd N 0 : Int), .int .u64 (wd N 1 : Int), .int .u64 (wd N 2 : Int), .int .u64 (wd N 3 : Int)] 24)).alloc (.cells #[.int .u64 0, .int .u64 0, .int .u64 0, .int .u64 0] 24) = W at *
  have B0 := Lib.hid b0
  have HB := Lib.hid hb
  have hc := ha.cells
  have hd := hb.cells
  have hf := hb.frozens
  clear b0 ha hb
  go_region_held3 (fun W' => (W'.cell? ⟨w.heap.size, 0, none⟩ = some (.int .u64 (wd N 0 : Int)) ∧ W'.cell? ⟨w.heap.size, 1, none⟩ = some (.int .u64 (wd N 1 : Int)) ∧ W'.cell? ⟨w.heap.size, 2, none⟩ = some (.int .u64 (wd N 2 : Int)) ∧ W'.cell? ⟨w.heap.size, 3, none⟩ = some (.int .u64 (wd N 3 : Int))))
    (first | go_keep | exact keep4 b1 hc | exact keep4 b2 (by assumption))
    (first | (go_at_call 30; refine (HI.out _).mono ?_; rintro e w1 ⟨rfl, b1⟩; have hd1 := keep4 b1 hd; have hf1 := keepf4 b1 hd hf) | (go_at_call 24; refine (HO.out _).mono ?_; rintro e w2 ⟨rfl, b2⟩; have hd2 := keep4 b2 hd1; have hf2 := keepf4 b2 hd1 hf1))
  have H2 := Lib.hid ((ArrIn.next (w := W.drew) HB.out b1).next b2)
  have B2 := Lib.hid (below_then' (below_then' (B0.out.drew) b1 B0.out.size) b2 (Nat.le_trans B0.out.size b1.size))
  clear hc hd hf b1 hd1 hf1 b2 hd2 hf2
  go_wp2_with fail
  refine bodyPost_ret (res_in rfl _ _ _ (w.heap.size + 1) _ _ _ _ rfl (H2.out.set4 _ _ _ _)) rfl ?_
  exact ⟨rfl, below_set4 B2.out (by omega) _ _ _ _⟩
theorem next_find (N : Nat) (i : Int) : (plc N).find? (fun j : Nat => decide (i ≤ (j : Int))) = (List.range 256).find? (fun j : Nat => N.testBit j && decide (i ≤ (j : Int))) := by
  unfold plc
  rw [List.find?_filter]
  congr 1
  funext j
  cases N.testBit j <;> simp
theorem next_is (N p : Nat) (i : Int) (hp : p < 256) (hb : N.testBit p = true) (hi : i ≤ p) (hl : ∀ q : Nat, i ≤ q → q < p → N.testBit q = false) : nextN N i = p := by
  unfold nextN
  rw [next_find, List.find?_range_eq_some.2 ⟨by simp [hb, hi], List.mem_range.2 hp, fun j hj => by
    by_cases h : i ≤ (j : Int)
    · simp [hl j h hj]
    · simp [h]⟩]
theorem next_none (N : Nat) (i : Int) (hl : ∀ q : Nat, i ≤ q → q < 256 → N.testBit q = false) : nextN N i = -1 := by
  unfold nextN
  rw [next_find, List.find?_range_eq_none.2 fun j hj => by
    by_cases h : i ≤ (j : Int)
    · simp [hl j h hj]
    · simp [h]]
theorem next_skip (N : Nat) (i j : Int) (hij : i ≤ j) (hl : ∀ q : Nat, i ≤ q → (q : Int) < j → N.testBit q = false) : nextN N i = nextN N j := by
  unfold nextN
  rw [next_find, next_find]
  congr 2
  funext q
  by_cases h : j ≤ (q : Int)
  · simp [h, show i ≤ (q : Int) by omega]
  · by_cases h2 : i ≤ (q : Int)
    · simp [hl q h2 (by omega)]
    · simp [h, h2]
theorem ctz_bit (x : Nat) (h0 : x ≠ 0) (hx : x < 18446744073709551616) : x.testBit (Lib.ctz 64 x) = true ∧ ∀ s, s < Lib.ctz 64 x → x.testBit s = false := by
  obtain ⟨m, hm, _⟩ := Lib.ctzFrom_spec 64 x (by omega) (by simpa using hx)
  have e : Lib.ctz 64 x = Lib.ctzFrom 64 x := by unfold Lib.ctz; rw [if_neg h0]
  rw [e]
  generalize Lib.ctzFrom 64 x = c at *
  subst hm
  constructor
  · rw [Nat.testBit_two_pow_mul]; simp [Nat.testBit_zero]
  · intro s hs
    rw [Nat.testBit_two_pow_mul]; simp; omega
theorem left_bit (N k r s : Nat) : (wd N k / 2 ^ r).testBit s = (decide (r + s < 64) && N.testBit (64 * k + (r + s))) := by
  rw [Nat.testBit_div_two_pow, Nat.add_comm s r, wd_bit]
theorem left_some (N j k r : Nat) (hj : j = 64 * k + r) (hk : k < 4) (h0 : wd N k / 2 ^ r ≠ 0) : nextN N (j : Int) = (j : Int) + (Lib.ctz 64 (wd N k / 2 ^ r) : Nat) := by
  obtain ⟨h1, h2⟩ := ctz_bit _ h0 (Nat.lt_of_le_of_lt (Nat.div_le_self _ _) (wd_lt N k))
  generalize Lib.ctz 64 (wd N k / 2 ^ r) = c at *
  rw [left_bit, Bool.and_eq_true] at h1
  have h3 := of_decide_eq_true h1.1
  rw [show (j : Int) + (c : Int) = ((64 * k + (r + c) : Nat) : Int) by omega]
  refine next_is N _ _ (by omega) h1.2 (by omega) fun q hq hlt => ?_
  have h4 := h2 (q - j) (by omega)
  rw [left_bit, decide_eq_true (show r + (q - j) < 64 by omega), Bool.true_and] at h4
  rw [← h4]; congr 1; omega
theorem left_none (N j k r : Nat) (hj : j = 64 * k + r) (hr : r < 64) (h0 : wd N k / 2 ^ r = 0) : nextN N (j : Int) = nextN N (((64 * k + 64 : Nat)) : Int) := by
  refine next_skip N _ _ (by omega) fun q h1 h2 => ?_
  have h := left_bit N k r (q - j)
  rw [h0, Nat.zero_testBit, decide_eq_true (show r + (q - j) < 64 by omega), Bool.true_and] at h
  rw [h]; congr 1; omega
theorem next_end (N : Nat) (j : Nat) (h : 256 ≤ j) : nextN N (j : Int) = -1 := next_none N _ fun q h1 h2 => by omega
theorem next_range (N : Nat) (i : Int) : -1 ≤ nextN N i ∧ nextN N i < 256 := by
  unfold nextN
  rw [next_find]
  cases h : (List.range 256).find? (fun j : Nat => N.testBit j && decide (i ≤ (j : Int))) with
  | none => simp
  | some p =>
    have := List.mem_range.1 (List.find?_range_eq_some.1 h).2.1
    simp only; omega

set_option maxRecDepth 100000 in
set_option maxHeartbeats 2000000 in
theorem next_any (N : Nat) (i : Int) (hi : i ≤ 9223372036854775807) (w : World) (hT : TabAt 0 Lib.deBruijn64tab w) (hw : 0 < w.heap.size) :
    Calls Tryd.prog 17 #[sv N, .int .i64 i] w fun e w' => e = .returned (.int .i64 (nextN N i)) ∧ Below w.heap.size w w' := by
  have HT := Lib.hid hT
  have HS := Lib.hid (fun j k r hj hk => left_some N j k r hj hk)
  have HZ := Lib.hid (fun j k r hj hk => left_none N j k r hj hk)
  have HE := Lib.hid (fun j h => next_end N j h)
  have H0 := Lib.hid (show i < 0 → nextN N i = nextN N ((0 : Nat) : Int) from fun h => next_skip N i _ (by omega) fun q h1 h2 => by omega)
  have HR := Lib.hid (next_range N i)
  have HL := Lib.hid (fun k r => (Nat.lt_of_le_of_lt (Nat.div_le_self (wd N k) (2 ^ r)) (wd_lt N k)))
  obtain ⟨x, hx⟩ : ∃ x : Nat → Nat, x = wd N := ⟨_, rfl⟩
  obtain ⟨y, hy⟩ : ∃ y : Int → Int, y = nextN N := ⟨_, rfl⟩
  unfold sv
  rw [← hx] at HS HZ HL ⊢
  rw [← hy] at HS HZ HE H0 HR ⊢
  clear hx hy hT
  by_cases hn : i < 0
  all_goals
    go_enter Tryd.func17, Tryd.ntmps17
    go_wp2_with fail
    go_loop [1] (fun q => ∃ j : Nat, q = .int .i64 (j : Int) ∧ y i = y (j : Int) ∧ j ≤ 9223372036854775807) (fun q => 256 - (intOf q).toNat)
    case atStart => first | exact ⟨0, rfl, H0.out hn, by omega⟩ | exact ⟨i.toNat, by congr 1; omega, by congr 1; omega, by omega⟩
    case round =>
      obtain ⟨j, rfl, hyj, hj⟩ := hrel
      have HY := Lib.hid hyj
      clear hyj
      by_cases hlt : j < 256
      · have hk : j / 64 < 4 := by omega
        have hr : j % 64 < 64 := by omega
        have he : j = 64 * (j / 64) + j % 64 := by omega
        have hq := tdiv_at (j : Int) (j / 64) (j % 64) hr (by omega)
        have hm := tmod_at (j : Int) (j / 64) (j % 64) hr (by omega)
        have HE' := Lib.hid he
        have hs := HS.out j (j / 64) (j % 64) he hk
        have hz := HZ.out j (j / 64) (j % 64) he hr
        have hl := HL.out (j / 64) (j % 64)
        have hp : ((x (j / 64) : Int) / 2 ^ (j % 64)) = ((x (j / 64) / 2 ^ (j % 64) : Nat) : Int) := by simp
        clear he
        generalize j / 64 = k at *
        generalize j % 64 = r at *
        generalize x k / 2 ^ r = left at *
        by_cases h0 : left = 0
        · subst h0
          have hz' := Lib.hid (hz rfl)
          clear hs hz hl
          have hx : k = 0 ∨ k = 1 ∨ k = 2 ∨ k = 3 := by omega
          rcases hx with rfl | rfl | rfl | rfl
          all_goals
            go_wp2_with fail
            have hfin := HE'.out
            exact ⟨⟨_, int_eq (show ((j : Int) + (64 - (r : Int))) = ((j + (64 - r) : Nat) : Int) by omega), (HY.out.trans hz'.out).trans (by congr 2; omega), by omega⟩, by simp [intOf]; omega⟩
        · have hs' := Lib.hid (hs h0)
          have hz0 : ((left : Int) == 0) = false := by simp; omega
          have hcz := (Lib.lowest_bit 64 left h0 (by simpa using hl)).2
          have HC := Lib.hid (fun W h => tz_any left hl h0 W h)
          have HT2 := Lib.hid (show TabAt 0 Lib.deBruijn64tab (w.alloc (.cells #[.int .u64 (x 0 : Int), .int .u64 (x 1 : Int), .int .u64 (x 2 : Int), .int .u64 (x 3 : Int)] 24)) from fun i hi => keep_cell (below_alloc1 _ _) (HT.out i hi))
          clear hs hz hl h0
          have hx : k = 0 ∨ k = 1 ∨ k = 2 ∨ k = 3 := by omega
          rcases hx with rfl | rfl | rfl | rfl
          all_goals
            go_wp2_with fail
            refine (HC.out _ HT2.out).mono ?_
            rintro e w1 ⟨rfl, rfl⟩
            go_wp2_with fail
            go_ret
            exact ⟨by rw [HY.out, hs'.out]; rfl, below_alloc1 _ _⟩
      · have hE := Lib.hid (HE.out j (by omega))
        go_wp2_with fail
        go_ret
        exact ⟨by rw [HY.out, hE.out]; rfl, below_alloc1 _ _⟩
end Go.Proofs.YtidkakcnhgfpoaaDoor
