/- How many ones a word has: the program's library reckons it by sums of neighbours; here: that this is the count. No program. -/
import Derived.Test.YtidkakcnhgfpoaaDoorBitsA
namespace Go.Proofs.YtidkakcnhgfpoaaDoor
open Go.RowKit
set_option linter.unusedVariables false

/-- How many of the n lowest bits are 1. -/
def ones : Nat → Nat → Nat
  | 0, _ => 0
  | n + 1, x => x % 2 + ones n (x / 2)
theorem ones_filter (n : Nat) : ∀ x, ((List.range n).filter x.testBit).length = ones n x := by
  induction n with
  | zero => intro x; rfl
  | succ n ih =>
    intro x
    have e : (x.testBit ∘ Nat.succ) = (x / 2).testBit := by funext i; exact Nat.testBit_succ x i
    rw [List.range_succ_eq_map, List.filter_cons, List.filter_map, e]
    show _ = x % 2 + ones n (x / 2)
    rw [← ih, Nat.testBit_zero]
    by_cases h : x % 2 = 1
    · simp [h]; omega
    · have h0 : x % 2 = 0 := by omega
      simp [h0]
theorem ones_add (a b : Nat) : ∀ x, ones (a + b) x = ones a x + ones b (x / 2 ^ a) := by
  induction a with
  | zero => intro x; simp [ones]
  | succ a ih =>
    intro x
    rw [show a + 1 + b = (a + b) + 1 by omega]
    show x % 2 + ones (a + b) (x / 2) = (x % 2 + ones a (x / 2)) + ones b (x / 2 ^ (a + 1))
    rw [ih, Nat.div_div_eq_div_mul, show 2 * 2 ^ a = 2 ^ (a + 1) by rw [Nat.pow_succ]; omega]
    omega
theorem ones_mod (a : Nat) : ∀ x, ones a (x % 2 ^ a) = ones a x := by
  induction a with
  | zero => intro x; rfl
  | succ a ih =>
    intro x
    show x % 2 ^ (a + 1) % 2 + ones a (x % 2 ^ (a + 1) / 2) = x % 2 + ones a (x / 2)
    have h1 : x % 2 ^ (a + 1) % 2 = x % 2 := Nat.mod_mod_of_dvd x ⟨2 ^ a, by rw [Nat.pow_succ]; omega⟩
    have h2 : x % 2 ^ (a + 1) / 2 = x / 2 % 2 ^ a := by
      rw [Nat.pow_succ, Nat.mul_comm, Nat.mod_mul_right_div_self]
    rw [h1, h2, ih]
theorem ones_words (N : Nat) : (plc N).length = ones 64 (wd N 0) + ones 64 (wd N 1) + ones 64 (wd N 2) + ones 64 (wd N 3) := by
  unfold plc wd
  rw [ones_filter, show (256 : Nat) = 64 + (64 + (64 + 64)) from rfl, ones_add, ones_add, ones_add, ones_mod, ones_mod, ones_mod, ones_mod, Nat.div_div_eq_div_mul, Nat.div_div_eq_div_mul]
  simp only [Nat.reducePow, Nat.reduceMul, Nat.mul_zero, Nat.pow_zero, Nat.div_one]
  omega

theorem and_split (b m x s : Nat) (hb : b < 256) (hm : m < 256) : (b + 256 * x) &&& (m + 256 * s) = (b &&& m) + 256 * (x &&& s) := by
  have h1 := Nat.and_div_two_pow (a := b + 256 * x) (b := m + 256 * s) (n := 8)
  have h2 := Nat.and_mod_two_pow (a := b + 256 * x) (b := m + 256 * s) (n := 8)
  simp only [Nat.reducePow] at h1 h2
  rw [show (b + 256 * x) / 256 = x by omega, show (m + 256 * s) / 256 = s by omega] at h1
  rw [show (b + 256 * x) % 256 = b by omega, show (m + 256 * s) % 256 = m by omega] at h2
  omega
/-- c in each of n bytes. -/
def msk (c : Nat) : Nat → Nat
  | 0 => 0
  | n + 1 => c + 256 * msk c n
def f1 (n x : Nat) : Nat := (x / 2 &&& msk 85 n) + (x &&& msk 85 n)
def f2 (n x : Nat) : Nat := (x / 4 &&& msk 51 n) + (x &&& msk 51 n)
def f3 (n x : Nat) : Nat := (x / 16 + x) &&& msk 15 n
def e1 (b : Nat) : Nat := (b / 2 &&& 85) + (b &&& 85)
def e2 (b : Nat) : Nat := (b / 4 &&& 51) + (b &&& 51)
def e3 (b : Nat) : Nat := (b / 16 + b) &&& 15
theorem cut1 : ∀ b : Fin 256, ∀ t : Fin 2, ((b.val / 2 + 128 * t.val) &&& 85) = (b.val / 2 &&& 85) := by decide +kernel
theorem cut2 : ∀ b : Fin 256, ∀ t : Fin 4, ((b.val / 4 + 64 * t.val) &&& 51) = (b.val / 4 &&& 51) := by decide +kernel
theorem f1_step (n b x : Nat) (hb : b < 256) : f1 (n + 1) (b + 256 * x) = e1 b + 256 * f1 n x := by
  unfold f1 e1
  show ((b + 256 * x) / 2 &&& (85 + 256 * msk 85 n)) + ((b + 256 * x) &&& (85 + 256 * msk 85 n)) = _
  rw [show (b + 256 * x) / 2 = (b / 2 + 128 * (x % 2)) + 256 * (x / 2) by omega, and_split _ _ _ _ (by omega) (by decide), and_split _ _ _ _ hb (by decide)]
  have hc := cut1 ⟨b, hb⟩ ⟨x % 2, by omega⟩
  dsimp only at hc
  omega
theorem f2_step (n b x : Nat) (hb : b < 256) : f2 (n + 1) (b + 256 * x) = e2 b + 256 * f2 n x := by
  unfold f2 e2
  show ((b + 256 * x) / 4 &&& (51 + 256 * msk 51 n)) + ((b + 256 * x) &&& (51 + 256 * msk 51 n)) = _
  rw [show (b + 256 * x) / 4 = (b / 4 + 64 * (x % 4)) + 256 * (x / 4) by omega, and_split _ _ _ _ (by omega) (by decide), and_split _ _ _ _ hb (by decide)]
  have hc := cut2 ⟨b, hb⟩ ⟨x % 4, by omega⟩
  dsimp only at hc
  omega
theorem f3_step (n b x : Nat) (hb : b ≤ 68) (hx : x % 16 ≤ 4) : f3 (n + 1) (b + 256 * x) = e3 b + 256 * f3 n x := by
  unfold f3 e3
  show (((b + 256 * x) / 16 + (b + 256 * x)) &&& (15 + 256 * msk 15 n)) = _
  rw [show (b + 256 * x) / 16 + (b + 256 * x) = (b / 16 + b + 16 * (x % 16)) + 256 * (x / 16 + x) by omega, and_split _ _ _ _ (by omega) (by decide), nat_mask4, nat_mask4]
  omega
theorem byte1 : ∀ b : Fin 256, e1 b.val < 256 ∧ e2 (e1 b.val) ≤ 68 ∧ e2 (e1 b.val) % 16 ≤ 4 ∧ e3 (e2 (e1 b.val)) = ones 8 b.val ∧ ones 8 b.val ≤ 8 := by decide +kernel
/-- The ones of each byte, in that byte's place. -/
def spread : Nat → Nat → Nat
  | 0, _ => 0
  | n + 1, x => ones 8 (x % 256) + 256 * spread n (x / 256)
theorem spread_all (n : Nat) : ∀ x, f3 n (f2 n (f1 n x)) = spread n x ∧ f2 n (f1 n x) % 16 ≤ 4 := by
  induction n with
  | zero => intro x; simp [f1, f2, f3, spread, msk]
  | succ n ih =>
    intro x
    obtain ⟨h1, h2⟩ := ih (x / 256)
    obtain ⟨b1, b2, b3, b4, b5⟩ := byte1 ⟨x % 256, by omega⟩
    dsimp only at b1 b2 b3 b4 b5
    have hx : x = x % 256 + 256 * (x / 256) := by omega
    have e : f2 (n + 1) (f1 (n + 1) x) = e2 (e1 (x % 256)) + 256 * f2 n (f1 n (x / 256)) := by
      conv => lhs; rw [hx]
      rw [f1_step n _ _ (by omega), f2_step n _ _ b1]
    rw [e, f3_step n _ _ b2 h2, b4, h1]
    exact ⟨rfl, by omega⟩
theorem msk85 : msk 85 8 = 6148914691236517205 := by decide
theorem msk51 : msk 51 8 = 3689348814741910323 := by decide
theorem msk15 : msk 15 8 = 1085102592571150095 := by decide
theorem sums (c0 c1 c2 c3 c4 c5 c6 c7 y3 y4 y5 y6 : Nat) (h0 : c0 ≤ 8) (h1 : c1 ≤ 8) (h2 : c2 ≤ 8) (h3 : c3 ≤ 8) (h4 : c4 ≤ 8) (h5 : c5 ≤ 8) (h6 : c6 ≤ 8) (h7 : c7 ≤ 8)
    (e3 : y3 = c0 + 256 * (c1 + 256 * (c2 + 256 * (c3 + 256 * (c4 + 256 * (c5 + 256 * (c6 + 256 * (c7 + 256 * 0))))))))
    (e4 : y4 = y3 + y3 / 256) (e5 : y5 = y4 + y4 / 65536) (e6 : y6 = y5 + y5 / 4294967296) : y6 % 128 = c0 + (c1 + (c2 + (c3 + (c4 + (c5 + (c6 + c7)))))) ∧ y6 < 9223372036854775808 := by
  have dl : ∀ m lo hi : Nat, lo < m → (lo + m * hi) / m = hi := fun m lo hi h => by
    rw [Nat.add_mul_div_left _ _ (by omega), Nat.div_eq_of_lt h, Nat.zero_add]
  have d4 : y3 / 256 = c1 + 256 * (c2 + 256 * (c3 + 256 * (c4 + 256 * (c5 + 256 * (c6 + 256 * (c7 + 256 * 0)))))) := by rw [e3]; exact dl _ _ _ (by omega)
  rw [d4] at e4
  clear d4
  have n4 : y4 = ((c0 + c1) + 256 * (c1 + c2)) + 65536 * ((c2 + c3) + 256 * ((c3 + c4) + 256 * ((c4 + c5) + 256 * ((c5 + c6) + 256 * ((c6 + c7) + 256 * c7))))) := by omega
  clear e4 e3
  have d5 : y4 / 65536 = (c2 + c3) + 256 * ((c3 + c4) + 256 * ((c4 + c5) + 256 * ((c5 + c6) + 256 * ((c6 + c7) + 256 * c7)))) := by rw [n4]; exact dl _ _ _ (by omega)
  rw [d5] at e5
  clear d5
  have n5 : y5 = ((c0 + c1 + c2 + c3) + 256 * ((c1 + c2 + c3 + c4) + 256 * ((c2 + c3 + c4 + c5) + 256 * (c3 + c4 + c5 + c6)))) + 4294967296 * ((c4 + c5 + c6 + c7) + 256 * ((c5 + c6 + c7) + 256 * ((c6 + c7) + 256 * c7))) := by omega
  clear e5 n4
  have d6 : y5 / 4294967296 = (c4 + c5 + c6 + c7) + 256 * ((c5 + c6 + c7) + 256 * ((c6 + c7) + 256 * c7)) := by rw [n5]; exact dl _ _ _ (by omega)
  rw [d6] at e6
  clear d6
  have n6 : y6 = (c0 + c1 + c2 + c3 + c4 + c5 + c6 + c7) + 128 * (2 * ((c1 + c2 + c3 + c4 + c5 + c6 + c7) + 256 * ((c2 + c3 + c4 + c5 + c6 + c7) + 256 * ((c3 + c4 + c5 + c6 + c7) + 256 * ((c4 + c5 + c6 + c7) + 256 * ((c5 + c6 + c7) + 256 * ((c6 + c7) + 256 * c7))))))) := by omega
  clear e6 n5
  constructor
  · rw [n6, Nat.add_mul_mod_self_left, Nat.mod_eq_of_lt (by omega)]; omega
  · omega
theorem ones_bytes (x : Nat) : ones 64 x = ones 8 (x % 256) + (ones 8 (x / 256 % 256) + (ones 8 (x / 256 / 256 % 256) + (ones 8 (x / 256 / 256 / 256 % 256) + (ones 8 (x / 256 / 256 / 256 / 256 % 256) + (ones 8 (x / 256 / 256 / 256 / 256 / 256 % 256) + (ones 8 (x / 256 / 256 / 256 / 256 / 256 / 256 % 256) + ones 8 (x / 256 / 256 / 256 / 256 / 256 / 256 / 256 % 256))))))) := by
  have m : ∀ y, ones 8 (y % 256) = ones 8 y := fun y => ones_mod 8 y
  have a : ∀ n y, ones (8 + n) y = ones 8 y + ones n (y / 256) := fun n y => ones_add 8 n y
  simp only [m]
  rw [show (64 : Nat) = 8 + (8 + (8 + (8 + (8 + (8 + (8 + 8)))))) from rfl, a, a, a, a, a, a, a]
theorem ones_reckoned (x y3 y4 y5 y6 : Nat) (h3 : y3 = f3 8 (f2 8 (f1 8 x))) (h4 : y4 = y3 + y3 / 256) (h5 : y5 = y4 + y4 / 65536) (h6 : y6 = y5 + y5 / 4294967296) :
    y6 % 128 = ones 64 x ∧ y6 < 9223372036854775808 := by
  have hl : ∀ y, ones 8 (y % 256) ≤ 8 := fun y => (byte1 ⟨y % 256, Nat.mod_lt _ (by decide)⟩).2.2.2.2
  have hs := h3.trans (spread_all 8 x).1
  simp only [spread] at hs
  rw [ones_bytes]
  have a0 := hl x
  have a1 := hl (x / 256)
  have a2 := hl (x / 256 / 256)
  have a3 := hl (x / 256 / 256 / 256)
  have a4 := hl (x / 256 / 256 / 256 / 256)
  have a5 := hl (x / 256 / 256 / 256 / 256 / 256)
  have a6 := hl (x / 256 / 256 / 256 / 256 / 256 / 256)
  have a7 := hl (x / 256 / 256 / 256 / 256 / 256 / 256 / 256)
  clear h3 hl
  generalize ones 8 (x % 256) = c0 at *
  generalize ones 8 (x / 256 % 256) = c1 at *
  generalize ones 8 (x / 256 / 256 % 256) = c2 at *
  generalize ones 8 (x / 256 / 256 / 256 % 256) = c3 at *
  generalize ones 8 (x / 256 / 256 / 256 / 256 % 256) = c4 at *
  generalize ones 8 (x / 256 / 256 / 256 / 256 / 256 % 256) = c5 at *
  generalize ones 8 (x / 256 / 256 / 256 / 256 / 256 / 256 % 256) = c6 at *
  generalize ones 8 (x / 256 / 256 / 256 / 256 / 256 / 256 / 256 % 256) = c7 at *
  exact sums c0 c1 c2 c3 c4 c5 c6 c7 y3 y4 y5 y6 a0 a1 a2 a3 a4 a5 a6 a7 hs h4 h5 h6
end Go.Proofs.YtidkakcnhgfpoaaDoor
