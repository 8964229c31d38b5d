/- The document's Words: four words of a list of places. -/
import Derived.Test.YtidkakcnhgfpoaaDoorBitsK
import Derived.BigRegion
namespace Go.Proofs.YtidkakcnhgfpoaaDoor
open Go.RowKit
set_option linter.unusedVariables false

theorem ArrIn.put0 {T b : Nat} {x0 x1 x2 x3 : Value} {w : World} (h : ArrIn T b x0 x1 x2 x3 w) (y : Value) : ArrIn T b y x1 x2 x3 (w.setCell ⟨b, 0, none⟩ y) := by
  rw [setCell_eq_setRow w b 0 _ T (0, 0) _ h]; exact setRow_heap w b _ _ T (0, 0) h
theorem ArrIn.put1 {T b : Nat} {x0 x1 x2 x3 : Value} {w : World} (h : ArrIn T b x0 x1 x2 x3 w) (y : Value) : ArrIn T b x0 y x2 x3 (w.setCell ⟨b, 1, none⟩ y) := by
  rw [setCell_eq_setRow w b 1 _ T (0, 0) _ h]; exact setRow_heap w b _ _ T (0, 0) h
theorem ArrIn.put2 {T b : Nat} {x0 x1 x2 x3 : Value} {w : World} (h : ArrIn T b x0 x1 x2 x3 w) (y : Value) : ArrIn T b x0 x1 y x3 (w.setCell ⟨b, 2, none⟩ y) := by
  rw [setCell_eq_setRow w b 2 _ T (0, 0) _ h]; exact setRow_heap w b _ _ T (0, 0) h
theorem ArrIn.put3 {T b : Nat} {x0 x1 x2 x3 : Value} {w : World} (h : ArrIn T b x0 x1 x2 x3 w) (y : Value) : ArrIn T b x0 x1 x2 y (w.setCell ⟨b, 3, none⟩ y) := by
  rw [setCell_eq_setRow w b 3 _ T (0, 0) _ h]; exact setRow_heap w b _ _ T (0, 0) h
theorem ArrIn.other {T b : Nat} {x0 x1 x2 x3 : Value} {w : World} (h : ArrIn T b x0 x1 x2 x3 w) {a : Addr} {y : Value} (hne : b ≠ a.block) : ArrIn T b x0 x1 x2 x3 (w.setCell a y) :=
  (Below.heap_setCell w a y b hne).trans h
/-- Block b holds the words of N. -/
def SetIn (T b N : Nat) (w : World) : Prop := ArrIn T b (.int .u64 (wd N 0 : Int)) (.int .u64 (wd N 1 : Int)) (.int .u64 (wd N 2 : Int)) (.int .u64 (wd N 3 : Int)) w
theorem add_wd (N n k : Nat) (hn : n < 256) : wd (addN N (n : Int)) k = if n / 64 = k then wd N k ||| 2 ^ (n % 64) else wd N k := by
  unfold addN
  rw [wd_or, only_wd n k hn]
  split
  · rfl
  · exact Nat.or_zero _
theorem or_int (a b : Nat) (ha : a < 18446744073709551616) (r : Nat) (hr : r < 64) (hb : b = 2 ^ r) : bits .or .u64 (a : Int) ((2 : Int) ^ r) = ((a ||| b : Nat) : Int) := by
  have h : b < 18446744073709551616 := by
    rw [hb]
    have : 2 ^ r < 2 ^ 64 := Nat.pow_lt_pow_right (by decide) hr
    simpa using this
  have e : ((2 : Int) ^ r) = (b : Int) := by rw [hb]; simp
  rw [e]
  exact u64_or_nat a b ha h
theorem addAll_step (L : List Int) (k : Nat) (hk : k < L.length) : addAll 0 (L.take (k + 1)) = addN (addAll 0 (L.take k)) (L.getD k 0) := by
  unfold addAll
  rw [take_step L k hk, List.foldl_append]; rfl
set_option maxRecDepth 100000 in
set_option maxHeartbeats 2000000 in
theorem refWords_any (a : Option Addr) (c : Nat) (L : List Int) (w : World) (h : IsL w a c L) (hL : L.length ≤ 1000) (hp : ∀ x ∈ L, 0 ≤ x ∧ x < 256) :
    Calls Tryd.prog 12 #[.slice a L.length c] w fun e w' => e = .returned (sv (addAll 0 L)) ∧ Below w.heap.size w w' := by
  have H := Lib.hid h
  have hc := h.1
  have hcm := h.2.1
  have HP := Lib.hid hp
  clear h hp
  go_enter Tryd.func12, Tryd.ntmps12
  go_wp2_with fail
  have b0 := below_alloc2 w (.cells #[.int .u64 0, .int .u64 0, .int .u64 0, .int .u64 0] 23) (.cells #[.int .u64 0, .int .u64 0, .int .u64 0, .int .u64 0] 23)
  have ha : ArrIn 23 w.heap.size (.int .u64 0) (.int .u64 0) (.int .u64 0) (.int .u64 0) ((w.alloc (.cells #[.int .u64 0, .int .u64 0, .int .u64 0, .int .u64 0] 23)).alloc (.cells #[.int .u64 0, .int .u64 0, .int .u64 0, .int .u64 0] 23)) := (ArrIn.new _ _ _ _ _ _).alloc _
  have hb : SetIn 23 (w.heap.size + 1) 0 ((w.alloc (.cells #[.int .u64 0, .int .u64 0, .int .u64 0, .int .u64 0] 23)).alloc (.cells #[.int .u64 0, .int .u64 0, .int .u64 0, .int .u64 0] 23)) := heap_alloc2_new w _ _
  generalize (w.alloc (.cells #[.int .u64 0, .int .u64 0, .int .u64 0, .int .u64 0] 23)).alloc (.cells #[.int .u64 0, .int .u64 0, .int .u64 0, .int .u64 0] 23) = W at *
  have B0 := Lib.hid b0
  have HA := Lib.hid ha
  have HB := Lib.hid hb
  clear b0 ha hb
  go_loopw [4] (fun q wr => ∃ (k N : Nat), q = .int .i64 (k : Int) ∧ k ≤ L.length ∧ N = addAll 0 (L.take k) ∧ ArrIn 23 w.heap.size (.int .u64 0) (.int .u64 0) (.int .u64 0) (.int .u64 0) wr ∧ SetIn 23 (w.heap.size + 1) N wr ∧ Below w.heap.size w wr) (fun q _ => L.length - (intOf q).toNat)
  case atStart => exact ⟨0, 0, rfl, Nat.zero_le _, rfl, HA.out, HB.out, B0.out⟩
  case round =>
    clear HA HB B0
    obtain ⟨k, N, rfl, hk, hN, hA, hS, hbw⟩ := hrel
    have HN := Lib.hid hN
    have HA := Lib.hid hA
    have HS := Lib.hid hS
    have HW := Lib.hid hbw
    clear hN hA hS hbw
    by_cases hlt : k < L.length
    · obtain ⟨b1, off, rfl, hcell⟩ := (H.out.next HW.out).at k hlt
      obtain ⟨n, hn⟩ : ∃ n : Nat, L.getD k 0 = (n : Int) := ⟨(L.getD k 0).toNat, by have := HP.out _ (mem_getD L k hlt); omega⟩
      have hn256 : n < 256 := by have := HP.out _ (mem_getD L k hlt); omega
      have HN1 := Lib.hid (show addN N (n : Int) = addAll 0 (L.take (k + 1)) by rw [addAll_step L k hlt, ← HN.out, hn])
      rw [hn] at hcell
      have hblk : b1 < w.heap.size := by
        obtain ⟨_, _, h0 | ⟨b2, o2, e, hb, _⟩⟩ := H.out
        · omega
        · cases e; exact hb
      have hq := tdiv_at (n : Int) (n / 64) (n % 64) (by omega) (by omega)
      have hm := tmod_at (n : Int) (n / 64) (n % 64) (by omega) (by omega)
      have hw := wrap_two (n % 64) (by omega)
      have hor := or_int (wd N (n / 64)) (2 ^ (n % 64)) (wd_lt _ _) (n % 64) (by omega) rfl
      have HD := Lib.hid (fun j => add_wd N n j hn256)
      have hk4 : n / 64 < 4 := by omega
      have hr64 : n % 64 < 64 := by omega
      have hcs := HS.out.cells
      have hfs := HS.out.frozens
      generalize n / 64 = d at *
      generalize n % 64 = r at *
      generalize 2 ^ r = p at hor HD
      clear hn
      have h4 : d = 0 ∨ d = 1 ∨ d = 2 ∨ d = 3 := by omega
      rcases h4 with rfl | rfl | rfl | rfl
      all_goals
        go_wp2_with fail
        go_region
        go_wp2_with fail
        refine ⟨⟨k + 1, addN N (n : Int), int_eq (by omega), by omega, HN1.out, ?_, ?_, ?_⟩, by simp [intOf]; omega⟩
        · exact ArrIn.other (w := wr) HA.out (by show w.heap.size ≠ w.heap.size + 1; omega)
        · unfold SetIn
          rw [HD.out 0, HD.out 1, HD.out 2, HD.out 3]
          first | exact HS.out.put0 _ | exact HS.out.put1 _ | exact HS.out.put2 _ | exact HS.out.put3 _
        · exact (HW.out.setCell (by show w.heap.size ≤ w.heap.size + 1; omega) _).drew
    · have HV := Lib.hid (show N = addAll 0 L by rw [HN.out, List.take_of_length_le (by omega)])
      have hcs := HS.out.cells
      have hi : (Tryd.prog.info? 23).map (·.size) = some 4 := by kernel_rfl
      go_wp2_with (refine wpList_store_set rfl _ _ _ rfl 23 w.heap.size rfl _ _ _ _ rfl _ _ _ _ HA.out hi ?_)
      refine bodyPost_ret (res_arr rfl _ _ _ w.heap.size _ _ _ _ rfl (HA.out.set _ _ _ _)) rfl ?_
      exact ⟨by rw [← HV.out], below_setRow HW.out (Nat.le_refl _) _⟩
end Go.Proofs.YtidkakcnhgfpoaaDoor
