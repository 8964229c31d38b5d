/- What the law's own rows want, in closed form. -/
import Derived.Test.YtidkakcnhgfpoaaDoorBitsT
namespace Go.Proofs.YtidkakcnhgfpoaaDoor
open Go.RowKit
set_option linter.unusedVariables false

set_option maxHeartbeats 2000000 in
theorem del_any (N : Nat) (i : Int) (w : World) : Calls Tryd.prog 14 #[sv N, .int .i64 i] w fun e w' => e = .returned (sv (delN N i)) ∧ Below w.heap.size w w' := by
  have HO := Lib.hid (less_any N (onlyN i))
  have HI := Lib.hid (only_any i)
  unfold delN
  generalize onlyN i = M at *
  generalize less N M = NM at *
  go_enter Tryd.func14, Tryd.ntmps14
  go_wp2_with fail
  have b0 := below_alloc2 w (.cells #[.int .u64 (wd N 0 : Int), .int .u64 (wd N 1 : Int), .int .u64 (wd N 2 : Int), .int .u64 (wd N 3 : Int)] 24) (.cells #[.int .u64 0, .int .u64 0, .int .u64 0, .int .u64 0] 24)
  have ha : ArrIn 24 w.heap.size _ _ _ _ ((w.alloc (.cells #[.int .u64 (wd N 0 : Int), .int .u64 (wd N 1 : Int), .int .u64 (wd N 2 : Int), .int .u64 (wd N 3 : Int)] 24)).alloc (.cells #[.int .u64 0, .int .u64 0, .int .u64 0, .int .u64 0] 24)) := (ArrIn.new _ _ _ _ _ _).alloc _
  have hb : ArrIn 24 (w.heap.size + 1) (.int .u64 0) (.int .u64 0) (.int .u64 0) (.int .u64 0) ((w.alloc (.cells #[.int .u64 (wd N 0 : Int), .int .u64 (wd N 1 : Int), .int .u64 (wd N 2 : Int), .int .u64 (wd N 3 : Int)] 24)).alloc (.cells #[.int .u64 0, .int .u64 0, .int .u64 0, .int .u64 0] 24)) := heap_alloc2_new w _ _
  generalize (w.alloc (.cells #[.int .u64 (wd N 0 : Int), .int .u64 (wd N 1 : Int), .int .u64 (wd N 2 : Int), .int .u64 (wd N 3 : Int)] 24)).alloc (.cells #[.int .u64 0, .int .u64 0, .int .u64 0, .int .u64 0] 24) = W at *
  have B0 := Lib.hid b0
  have HB := Lib.hid hb
  have hc := ha.cells
  have hd := hb.cells
  have hf := hb.frozens
  clear b0 ha hb
  go_region_held3 (fun W' => (W'.cell? ⟨w.heap.size, 0, none⟩ = some (.int .u64 (wd N 0 : Int)) ∧ W'.cell? ⟨w.heap.size, 1, none⟩ = some (.int .u64 (wd N 1 : Int)) ∧ W'.cell? ⟨w.heap.size, 2, none⟩ = some (.int .u64 (wd N 2 : Int)) ∧ W'.cell? ⟨w.heap.size, 3, none⟩ = some (.int .u64 (wd N 3 : Int))))
    (first | go_keep | exact keep4 b1 hc | exact keep4 b2 (by assumption))
    (first | (go_at_call 30; refine (HI.out _).mono ?_; rintro e w1 ⟨rfl, b1⟩; have hd1 := keep4 b1 hd; have hf1 := keepf4 b1 hd hf) | (go_at_call 26; refine (HO.out _).mono ?_; rintro e w2 ⟨rfl, b2⟩; have hd2 := keep4 b2 hd1; have hf2 := keepf4 b2 hd1 hf1))
  have H2 := Lib.hid ((ArrIn.next (w := W.drew) HB.out b1).next b2)
  have B2 := Lib.hid (below_then' (below_then' (B0.out.drew) b1 B0.out.size) b2 (Nat.le_trans B0.out.size b1.size))
  clear hc hd hf b1 hd1 hf1 b2 hd2 hf2
  go_wp2_with fail
  refine bodyPost_ret (res_in rfl _ _ _ (w.heap.size + 1) _ _ _ _ rfl (H2.out.set4 _ _ _ _)) rfl ?_
  exact ⟨rfl, below_set4 B2.out (by omega) _ _ _ _⟩
/-- Block b holds the set S; the library's table is there; below w0 all is as it was. -/
def Inv (w0 : World) (b S : Nat) (W : World) : Prop := SetIn 24 b S W ∧ TabAt 0 Lib.deBruijn64tab W ∧ 0 < W.heap.size ∧ w0.heap.size ≤ W.heap.size ∧ Below w0.heap.size w0 W
theorem Inv.next {w0 W W' : World} {b S : Nat} (h : Inv w0 b S W) (k : Below W.heap.size W W') : Inv w0 b S W' :=
  ⟨ArrIn.next h.1 k, tab_next h.2.1 k, Nat.lt_of_lt_of_le h.2.2.1 k.size, Nat.le_trans h.2.2.2.1 k.size, below_then' h.2.2.2.2 k h.2.2.2.1⟩
theorem Inv.alloc {w0 W : World} {b S : Nat} (h : Inv w0 b S W) (o : Obj) : Inv w0 b S (W.alloc o) := h.next (below_alloc1 W o)
theorem lit_row (W : World) (L : List Int) (hL : L.length ≤ 9) : IsL (W.alloc (.cells (L.map (Value.int .i64)).toArray 3)) (some ⟨W.heap.size, 0, none⟩) L.length L := by
  refine ⟨Nat.le_refl _, by omega, .inr ⟨W.heap.size, 0, rfl, by simp, fun j hj => ?_⟩⟩
  rw [Nat.zero_add, cell_of_row _ _ _ _ _ _ (heap_alloc_new W _)]
  simp [List.getD, List.getElem?_map, List.getElem?_eq_getElem hj]
theorem lit1 (W : World) (x : Int) : IsL (W.alloc (.cells #[.int .i64 x] 3)) (some ⟨W.heap.size, 0, none⟩) 1 [x] := lit_row W [x] (by simp)
theorem lit2 (W : World) (x y : Int) : IsL (W.alloc (.cells #[.int .i64 x, .int .i64 y] 3)) (some ⟨W.heap.size, 0, none⟩) 2 [x, y] := lit_row W [x, y] (by simp)
theorem lit3 (W : World) (x y z : Int) : IsL (W.alloc (.cells #[.int .i64 x, .int .i64 y, .int .i64 z] 3)) (some ⟨W.heap.size, 0, none⟩) 3 [x, y, z] := lit_row W [x, y, z] (by simp)
theorem of1 (x : Int) (M : Nat) (h : addAll 0 [x] = M) (W : World) : Calls Tryd.prog 28 #[.slice (some ⟨W.heap.size, 0, none⟩) 1 1] (W.alloc (.cells #[.int .i64 x] 3)) fun e w' => e = .returned (sv M) ∧ Below (W.alloc (.cells #[.int .i64 x] 3)).heap.size (W.alloc (.cells #[.int .i64 x] 3)) w' := by
  rw [← h]; exact of_any _ 1 [x] _ (lit1 W x) (by simp)
theorem of2 (x y : Int) (M : Nat) (h : addAll 0 [x, y] = M) (W : World) : Calls Tryd.prog 28 #[.slice (some ⟨W.heap.size, 0, none⟩) 2 2] (W.alloc (.cells #[.int .i64 x, .int .i64 y] 3)) fun e w' => e = .returned (sv M) ∧ Below (W.alloc (.cells #[.int .i64 x, .int .i64 y] 3)).heap.size (W.alloc (.cells #[.int .i64 x, .int .i64 y] 3)) w' := by
  rw [← h]; exact of_any _ 2 [x, y] _ (lit2 W x y) (by simp)
theorem of3 (x y z : Int) (M : Nat) (h : addAll 0 [x, y, z] = M) (W : World) : Calls Tryd.prog 28 #[.slice (some ⟨W.heap.size, 0, none⟩) 3 3] (W.alloc (.cells #[.int .i64 x, .int .i64 y, .int .i64 z] 3)) fun e w' => e = .returned (sv M) ∧ Below (W.alloc (.cells #[.int .i64 x, .int .i64 y, .int .i64 z] 3)).heap.size (W.alloc (.cells #[.int .i64 x, .int .i64 y, .int .i64 z] 3)) w' := by
  rw [← h]; exact of_any _ 3 [x, y, z] _ (lit3 W x y z) (by simp)
theorem ints_two (a : Option Addr) (c : Nat) (A : List Int) (x y : Int) (hA : A = [x, y]) (W : World) (h : IsL W a c A) : Calls Tryd.prog 35 #[.slice a A.length c, .slice (some ⟨W.heap.size, 0, none⟩) 2 2] (W.alloc (.cells #[.int .i64 x, .int .i64 y] 3)) fun e w' => e = .returned (.bool true) ∧ Below (W.alloc (.cells #[.int .i64 x, .int .i64 y] 3)).heap.size (W.alloc (.cells #[.int .i64 x, .int .i64 y] 3)) w' := by
  have hi := ints_any a (some ⟨W.heap.size, 0, none⟩) c 2 A [x, y] (W.alloc (.cells #[.int .i64 x, .int .i64 y] 3)) (h.next (below_alloc1 W _)) (lit2 W x y)
  rw [decide_eq_true hA] at hi
  exact hi
theorem has_is (N : Nat) (i : Int) (r : Bool) (h : hasN N i = r) (w : World) : Calls Tryd.prog 9 #[sv N, .int .i64 i] w fun e w' => e = .returned (.bool r) ∧ Below w.heap.size w w' := by rw [← h]; exact has_any N i w
theorem len_is (N : Nat) (r : Int) (h : ((plc N).length : Int) = r) (w : World) : Calls Tryd.prog 16 #[sv N] w fun e w' => e = .returned (.int .i64 r) ∧ Below w.heap.size w w' := by rw [← h]; exact len_any N w
theorem nextI (N : Nat) (i r : Int) (hi : i ≤ 9223372036854775807) (h : nextN N i = r) (w : World) (hT : TabAt 0 Lib.deBruijn64tab w) (hw : 0 < w.heap.size) : Calls Tryd.prog 17 #[sv N, .int .i64 i] w fun e w' => e = .returned (.int .i64 r) ∧ Below w.heap.size w w' := by rw [← h]; exact next_any N i hi w hT hw
theorem add_is (N M : Nat) (i : Int) (h : addN N i = M) (w : World) : Calls Tryd.prog 11 #[sv N, .int .i64 i] w fun e w' => e = .returned (sv M) ∧ Below w.heap.size w w' := by rw [← h]; exact add_any N i w
theorem del_is (N M : Nat) (i : Int) (h : delN N i = M) (w : World) : Calls Tryd.prog 14 #[sv N, .int .i64 i] w fun e w' => e = .returned (sv M) ∧ Below w.heap.size w w' := by rw [← h]; exact del_any N i w
theorem and_is (N N' M : Nat) (h : N &&& N' = M) (w : World) : Calls Tryd.prog 22 #[sv N, sv N'] w fun e w' => e = .returned (sv M) ∧ Below w.heap.size w w' := by rw [← h]; exact and_any N N' w
theorem or_is (N N' M : Nat) (h : N ||| N' = M) (w : World) : Calls Tryd.prog 24 #[sv N, sv N'] w fun e w' => e = .returned (sv M) ∧ Below w.heap.size w w' := by rw [← h]; exact or_any N N' w
theorem less_is (N N' M : Nat) (h : less N N' = M) (w : World) : Calls Tryd.prog 26 #[sv N, sv N'] w fun e w' => e = .returned (sv M) ∧ Below w.heap.size w w' := by rw [← h]; exact less_any N N' w
theorem equal_same (N : Nat) (hN : fits N) (w : World) : (Op.equalIn 10000 24 (sv N) (sv N)).run Tryd.prog w = .ok true w := by
  rw [equal_set N N hN hN]; simp

/-- 3, 64, 255. -/
def s3 : Nat := 2 ^ 255 + 2 ^ 64 + 2 ^ 3
/-- 3, 255. -/
def s2 : Nat := 2 ^ 255 + 2 ^ 3
/-- 64. -/
def s1 : Nat := 2 ^ 64
theorem k_of3 : addAll 0 [3, 64, 255] = s3 := by decide +kernel
theorem k_of2 : addAll 0 [3, 255] = s2 := by decide +kernel
theorem k_of1 : addAll 0 [64] = s1 := by decide +kernel
theorem k_one : addAll 0 [1] = 2 := by decide +kernel
theorem k_two : addAll 0 [2] = 4 := by decide +kernel
theorem k_len : ((plc s3).length : Int) = 3 := by decide +kernel
theorem k_has : hasN s3 64 = true ∧ hasN s3 65 = false ∧ hasN s3 (-1) = false ∧ hasN s3 320 = false := by decide +kernel
theorem k_next : nextN s3 0 = 3 ∧ nextN s3 4 = 64 ∧ nextN s3 65 = 255 ∧ nextN s3 256 = -1 ∧ nextN s3 (-9) = 3 := by decide +kernel
theorem k_sets : addN s3 3 = s3 ∧ delN s3 64 = s2 ∧ addN s3 256 = s3 ∧ s3 &&& s1 = s1 ∧ less s3 s1 = s2 ∧ 2 ||| 4 = 6 ∧ wd s3 0 = 8 := by decide +kernel
theorem k_all : plcI s2 = [3, 255] ∧ plcI 6 = [1, 2] := by decide +kernel
theorem k_fits : fits s3 ∧ fits s2 ∧ fits s1 := by unfold fits; decide +kernel
end Go.Proofs.YtidkakcnhgfpoaaDoor
