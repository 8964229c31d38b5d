/- WireSign: the walk. -/
import Derived.Test.YthndmaeplnhmlaaWireN
import Derived.Test.YthndmaeplnhmlaaWireM
namespace Go.Proofs.Ythndmaeplnhmlaa
open Go.RowKit
set_option linter.unusedVariables false

theorem bits_not64 (a : Int) (h1 : -9223372036854775808 ≤ a) (h2 : a ≤ 9223372036854775807) : bits BinOp.xor IntKind.i64 (-1) a = -a - 1 := by
  show IntKind.i64.wrap ((BitVec.ofInt 64 (-1) ^^^ BitVec.ofInt 64 a).toNat : Int) = _
  have e3 : (BitVec.ofInt 64 (-1)).toNat = 18446744073709551615 := by decide
  have e4 : (BitVec.ofInt 64 a).toNat = (a % 18446744073709551616).toNat := by rw [BitVec.toNat_ofInt]; rfl
  rw [BitVec.toNat_xor, e3, e4, Nat.xor_comm, xor_ones _ (by omega), IntKind.wrap_i64]
  omega
/-- PutInt behind nothing. -/
def PutsI (i : Int) (x : ByteArray) : Prop := ∀ W : World, Calls Try.prog 12 #[.string ⟨#[]⟩, .int .i64 i] W fun e w' => e = .returned (.string x) ∧ Below W.heap.size W w'
theorem putsI (i : Int) (h1 : -9223372036854775808 ≤ i) (h2 : i ≤ 9223372036854775807) : PutsI i (numS (zig i)) := by
  intro W
  have h := putInt_any ⟨#[]⟩ (by decide) i h1 h2 W
  have e : (⟨#[]⟩ ++ numS (zig i) : ByteArray) = numS (zig i) := ByteArray.empty_append
  rw [e] at h; exact h
/-- A reader that has t is asked for a signed number. -/
def ReadsI (t : ByteArray) (i : Int) (t' : ByteArray) : Prop := ∀ (W : World) (b : Nat), RdT 57 b t false W → Calls Try.prog 20 #[.pointer (some ⟨b, 0, none⟩)] W fun e w' => e = .returned (.int .i64 i) ∧ RdT 57 b t' false w' ∧ W.grownBy w' (some b)
theorem readsI (i : Int) (h1 : -9223372036854775808 ≤ i) (h2 : i ≤ 9223372036854775807) (t : ByteArray) (ht : t.size ≤ 1000000) : ReadsI (numS (zig i) ++ t) i t := by
  intro W b hb
  have h := int_any b (numS (zig i) ++ t, false) W ⟨by have := numS_size (zig i); simp only [ByteArray.size_append]; omega, fun h => by cases h⟩ hb
  rw [rdInt_put i h1 h2 t] at h
  exact h
def EndsR (t : ByteArray) (v : Bool) : Prop := ∀ (W : World) (b : Nat), RdT 57 b t false W → Calls Try.prog 26 #[.pointer (some ⟨b, 0, none⟩)] W fun e w' => e = .returned (.bool v) ∧ W = w'
theorem endsR : EndsR ByteArray.empty true := by
  intro W b hb
  have h := end_any b ByteArray.empty false W hb
  have e : (!false && ByteArray.empty.toList.isEmpty) = true := by rw [ByteArray.toList_eq]; rfl
  rw [e] at h; exact h

set_option maxHeartbeats 1000000 in
theorem sign_core (a b : Int) (x y z : ByteArray) (ha1 : -9223372036854775808 ≤ a) (ha2 : a ≤ 9223372036854775807) (hb1 : -9223372036854775808 ≤ b) (hb2 : b ≤ 9223372036854775807)
    (hx : PutsI a x) (hy : PutsI (-a - 1) y) (hz : PutsI b z) (sx : x.size ≤ 9) (sy : y.size ≤ 9) (sz : z.size ≤ 9)
    (h1 : ((x.size : Int) != (y.size : Int)) = false) (h2 : (x.toList == y.toList) = false)
    (hcmp : (max b (-b - 1) < max a (-a - 1) ∧ z.size ≤ x.size) ∨ (max a (-a - 1) < max b (-b - 1) ∧ x.size ≤ z.size) ∨ (max a (-a - 1) ≤ max b (-b - 1) ∧ max b (-b - 1) ≤ max a (-a - 1)))
    (r1 : ReadsI (x ++ y ++ z) a (y ++ z)) (r2 : ReadsI (y ++ z) (-a - 1) z) (r3 : ReadsI z b ByteArray.empty) (w : World) :
    Calls Try.prog 6 #[.int .i64 a, .int .i64 b] w fun e w' => e = .returned (.bool true) ∧ Below w.heap.size w w' := by
  have na := bits_not64 a ha1 ha2
  have nb := bits_not64 b hb1 hb2
  go_enter Try.func6, Try.ntmps6
  go_wp2_with fail
  refine (hx _).mono ?_
  rintro e w1 ⟨rfl, b1⟩
  go_wp2_with fail
  refine (hy _).mono ?_
  rintro e w2 ⟨rfl, b2⟩
  go_wp2_with fail
  refine (hz _).mono ?_
  rintro e w3 ⟨rfl, b3⟩
  rcases hcmp with ⟨k1, k2⟩ | ⟨k1, k2⟩ | ⟨k1, k2⟩
  all_goals
    go_wp2_with fail
    refine (new_any _ _).mono ?_
    rintro e w4 ⟨rfl, h4⟩
    have N4 : RdT 57 w3.heap.size (x ++ y ++ z) false w4 := by rw [← h4]; exact RdT.new _ _ _ _
    have s1 := below_size b1 (Nat.le_refl _)
    have c2 := below_then b1 b2 s1
    have s2 := below_size c2 (Nat.le_refl _)
    have c3 := below_then c2 b3 s2
    have s3 := below_size c3 (Nat.le_refl _)
    have c4 : Below w.heap.size w w4 := by rw [← h4]; exact c3.alloc s3 _
    have s4 := below_size c4 (Nat.le_refl _)
    clear h4 b1 b2 b3 c2 c3
    go_wp2_with fail
    refine (r1 _ _ N4).mono ?_
    rintro e w5 ⟨rfl, N5, g5⟩
    have c5 := below_grown c4 g5 s4 s3
    have s5 := below_size c5 (Nat.le_refl _)
    go_wp2_with fail
    refine (r2 _ _ N5).mono ?_
    rintro e w6 ⟨rfl, N6, g6⟩
    have c6 := below_grown c5 g6 s5 s3
    have s6 := below_size c6 (Nat.le_refl _)
    go_wp2_with fail
    refine (r3 _ _ N6).mono ?_
    rintro e w7 ⟨rfl, N7, g7⟩
    have c7 := below_grown c6 g7 s6 s3
    have s7 := below_size c7 (Nat.le_refl _)
    go_wp2_with fail
    refine (endsR _ _ N7).mono ?_
    rintro e w8 ⟨rfl, rfl⟩
    go_wp2_with fail
    refine (works_any _).mono ?_
    rintro e w9 ⟨rfl, b9⟩
    go_wp2_with fail
    go_ret
    exact ⟨rfl, below_then c7 b9 s7⟩
theorem walk_WireSign (a b : Int) (ha1 : -9223372036854775808 ≤ a) (ha2 : a ≤ 9223372036854775807) (hb1 : -9223372036854775808 ≤ b) (hb2 : b ≤ 9223372036854775807) (w : World) :
    Calls Try.prog 6 #[.int .i64 a, .int .i64 b] w fun e w' => e = .returned (.bool true) ∧ Below w.heap.size w w' := by
  have za := zig_le a ha1 ha2
  have zb := zig_le b hb1 hb2
  have zc := zig_le (-a - 1) (by omega) (by omega)
  have sa := numS_size' (zig a)
  have sb := numS_size' (zig b)
  have sc := numS_size' (zig (-a - 1))
  have ba := numS_size (zig a)
  have bb := numS_size (zig b)
  have bc := numS_size (zig (-a - 1))
  have he := sort_zig a
  have ua := zig_half a
  have ub := zig_half b
  refine sign_core a b (numS (zig a)) (numS (zig (-a - 1))) (numS (zig b)) ha1 ha2 hb1 hb2 (putsI a ha1 ha2) (putsI _ (by omega) (by omega)) (putsI b hb1 hb2) ba bc bb ?_ ?_ ?_ ?_ ?_ ?_ w
  · rw [bne_eq_false_iff_eq]; omega
  · rw [ByteArray.toList_eq, ByteArray.toList_eq, beq_eq_false_iff_ne]
    intro hq
    refine zig_ne a (numS_inj _ _ (by omega) (by omega) ?_)
    apply ByteArray.ext
    exact Array.ext' hq
  · rcases Int.lt_trichotomy (max a (-a - 1)) (max b (-b - 1)) with h | h | h
    · refine .inr (.inl ⟨h, ?_⟩)
      have := sortN_mono (zig a) (zig b) (by split at ua <;> split at ub <;> omega)
      omega
    · exact .inr (.inr ⟨by omega, by omega⟩)
    · refine .inl ⟨h, ?_⟩
      have := sortN_mono (zig b) (zig a) (by split at ua <;> split at ub <;> omega)
      omega
  · rw [ByteArray.append_assoc]
    exact readsI a ha1 ha2 _ (by simp only [ByteArray.size_append]; omega)
  · exact readsI _ (by omega) (by omega) _ (by omega)
  · have h := readsI b hb1 hb2 ByteArray.empty (by decide)
    rw [ByteArray.append_empty] at h
    exact h
end Go.Proofs.Ythndmaeplnhmlaa
