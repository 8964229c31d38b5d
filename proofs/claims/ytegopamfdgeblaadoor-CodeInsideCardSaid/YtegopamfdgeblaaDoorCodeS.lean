/- Two codes have one text only if they are one. No program. -/
import Derived.Test.YtegopamfdgeblaaDoorCodeR
namespace Go.Proofs.YtegopamfdgeblaaDoor
open Go.RowKit
set_option linter.unusedVariables false
set_option linter.unusedSimpArgs false

theorem sep_inj {c : UInt8} : ∀ {p q r s : List UInt8}, c ∉ p → c ∉ q → p ++ c :: r = q ++ c :: s → p = q ∧ r = s
  | [], [], r, s, _, _, h => ⟨rfl, by simpa using h⟩
  | [], y :: q, r, s, _, hq, h => by
    simp at h
    exact absurd (by simp [h.1]) hq
  | x :: p, [], r, s, hp, _, h => by
    simp at h
    exact absurd (by simp [h.1]) hp
  | x :: p, y :: q, r, s, hp, hq, h => by
    simp only [List.cons_append, List.cons.injEq] at h
    obtain ⟨rfl, h⟩ := h
    obtain ⟨rfl, rfl⟩ := sep_inj (fun hm => hp (by simp [hm])) (fun hm => hq (by simp [hm])) h
    exact ⟨rfl, rfl⟩
/-- What digits say. -/
def dval (l : List UInt8) : Nat := l.foldl (fun a b => a * 10 + (b.toNat - 48)) 0
theorem dval_dec (m : Nat) : ∀ u, u ≤ m → dval (Lib.decDigits u) = u := by
  induction m with
  | zero => intro u hu; rw [dig_small u (by omega)]; simp [dval]; omega
  | succ m ih =>
    intro u hu
    by_cases h : u < 10
    · rw [dig_small u h]
      have : (UInt8.ofNat (48 + u)).toNat = 48 + u := by rw [UInt8.toNat_ofNat']; omega
      show 0 * 10 + ((UInt8.ofNat (48 + u)).toNat - 48) = u
      rw [this]; omega
    · rw [dig_big u h, dig_small (u % 10) (by omega)]
      have e := ih (u / 10) (by omega)
      unfold dval at *
      rw [List.foldl_append, e]
      have : (UInt8.ofNat (48 + u % 10)).toNat = 48 + u % 10 := by rw [UInt8.toNat_ofNat']; omega
      show u / 10 * 10 + ((UInt8.ofNat (48 + u % 10)).toNat - 48) = u
      rw [this]; omega
theorem dec_range (m : Nat) : ∀ u, u ≤ m → ∀ b ∈ Lib.decDigits u, 48 ≤ b.toNat ∧ b.toNat ≤ 57 := by
  induction m with
  | zero =>
    intro u hu b hb
    rw [dig_small u (by omega)] at hb
    simp only [List.mem_singleton] at hb
    rw [hb, UInt8.toNat_ofNat']; omega
  | succ m ih =>
    intro u hu b hb
    by_cases h : u < 10
    · rw [dig_small u h] at hb
      simp only [List.mem_singleton] at hb
      rw [hb, UInt8.toNat_ofNat']; omega
    · rw [dig_big u h, dig_small (u % 10) (by omega)] at hb
      rcases List.mem_append.1 hb with hb | hb
      · exact ih _ (by omega) b hb
      · simp only [List.mem_singleton] at hb
        rw [hb, UInt8.toNat_ofNat']; omega
theorem dec_inj {u v : Nat} (h : Lib.decDigits u = Lib.decDigits v) : u = v := by
  rw [← dval_dec u u (Nat.le_refl _), ← dval_dec v v (Nat.le_refl _), h]
theorem itoa_chars (n : Int) : ∀ b ∈ Lib.itoa n, b.toNat = 45 ∨ 48 ≤ b.toNat ∧ b.toNat ≤ 57 := by
  intro b hb
  unfold Lib.itoa at hb
  split at hb
  · rcases List.mem_cons.1 hb with rfl | hb
    · left; rfl
    · right; exact dec_range _ _ (Nat.le_refl _) b hb
  · right; exact dec_range _ _ (Nat.le_refl _) b hb
theorem itoa_inj {n m : Int} (h : Lib.itoa n = Lib.itoa m) : n = m := by
  have hno : ∀ u v : Nat, (45 : UInt8) :: Lib.decDigits u ≠ Lib.decDigits v := fun u v e => by
    have := dec_range v v (Nat.le_refl _) 45 (by rw [← e]; simp)
    simp at this
  unfold Lib.itoa at h
  split at h
  · split at h
    · simp only [List.cons.injEq, true_and] at h
      have := dec_inj h
      omega
    · exact absurd h (hno _ _)
  · split at h
    · exact absurd h.symm (hno _ _)
    · have := dec_inj h
      omega
theorem no_blank (n : Int) : (32 : UInt8) ∉ Lib.itoa n := fun h => by
  have := itoa_chars n 32 h
  simp at this
theorem nums_apart : ∀ (M N : List Int) (p q : List UInt8), (32 : UInt8) ∉ p → (32 : UInt8) ∉ q → p ++ nums M = q ++ nums N → p = q ∧ M = N
  | [], [], p, q, _, _, h => ⟨by simpa [nums] using h, rfl⟩
  | [], n :: N, p, q, hp, hq, h => by
    rw [show nums (n :: N) = 32 :: (Lib.itoa n ++ nums N) by simp [nums], show nums [] = [] from rfl, List.append_nil] at h
    exact absurd (by rw [h]; simp) hp
  | m :: M, [], p, q, hp, hq, h => by
    rw [show nums (m :: M) = 32 :: (Lib.itoa m ++ nums M) by simp [nums], show nums [] = [] from rfl, List.append_nil] at h
    exact absurd (by rw [← h]; simp) hq
  | m :: M, n :: N, p, q, hp, hq, h => by
    rw [show nums (m :: M) = 32 :: (Lib.itoa m ++ nums M) by simp [nums], show nums (n :: N) = 32 :: (Lib.itoa n ++ nums N) by simp [nums]] at h
    obtain ⟨rfl, h2⟩ := sep_inj hp hq h
    obtain ⟨h3, rfl⟩ := nums_apart M N _ _ (no_blank m) (no_blank n) h2
    rw [itoa_inj h3]
    exact ⟨rfl, rfl⟩
theorem word_chars : ∀ j : Fin 25, ∀ b ∈ wordTab.getD j.val [], 97 ≤ b.toNat := by decide +kernel
theorem word_inj : ∀ i j : Fin 25, 1 ≤ i.val → 1 ≤ j.val → wordTab.getD i.val [] = wordTab.getD j.val [] → i = j := by decide +kernel
theorem wordL_chars (op : Int) (h : 1 ≤ op ∧ op ≤ 24) : ∀ b ∈ wordL op, 97 ≤ b.toNat := by
  unfold wordL
  rw [if_pos h]
  exact word_chars ⟨op.toNat, by omega⟩
theorem wordL_inj (o p : Int) (h : 1 ≤ o ∧ o ≤ 24) (k : 1 ≤ p ∧ p ≤ 24) (e : wordL o = wordL p) : o = p := by
  unfold wordL at e
  rw [if_pos h, if_pos k] at e
  have := word_inj ⟨o.toNat, by omega⟩ ⟨p.toNat, by omega⟩ (by simp; omega) (by simp; omega) e
  simp at this
  omega
theorem toldL_inj (x y : Ins) (ho : x.op = y.op) (h : toldL x = toldL y) : x = y := by
  obtain ⟨o, a, b⟩ := x
  obtain ⟨p, c, d⟩ := y
  simp only at ho
  subst ho
  unfold toldL at h
  simp only at h
  by_cases hb : b = 0
  · by_cases ha : a = 0
    · by_cases hd : d = 0
      · by_cases hc : c = 0
        · rw [ha, hb, hc, hd]
        · simp [ha, hb, hc, hd] at h
      · simp [ha, hb, hd] at h
    · by_cases hd : d = 0
      · by_cases hc : c = 0
        · simp [ha, hb, hc, hd] at h
        · simp [ha, hb, hc, hd] at h
          rw [h, hb, hd]
      · simp [ha, hb, hd] at h
  · by_cases hd : d = 0
    · by_cases hc : c = 0
      · simp [hb, hc, hd] at h
      · simp [hb, hc, hd] at h
    · simp [hb, hd] at h
      rw [h.1, h.2]
theorem no_lf (x : Ins) (h : 1 ≤ x.op ∧ x.op ≤ 24) : (10 : UInt8) ∉ wordL x.op ++ nums (toldL x) := fun hm => by
  rcases List.mem_append.1 hm with hm | hm
  · have := wordL_chars _ h 10 hm
    simp at this
  · unfold nums at hm
    obtain ⟨n, _, hn⟩ := List.mem_flatMap.1 hm
    rcases List.mem_cons.1 hn with hn | hn
    · simp at hn
    · have := itoa_chars n 10 hn
      simp at this
theorem textL_inj : ∀ (A B : List Ins), (∀ x ∈ A, 1 ≤ x.op ∧ x.op ≤ 24) → (∀ x ∈ B, 1 ≤ x.op ∧ x.op ≤ 24) → textL A = textL B → A = B
  | [], [], _, _, _ => rfl
  | [], y :: B, _, _, h => by simp [textL, lineL] at h
  | x :: A, [], _, _, h => by simp [textL, lineL] at h
  | x :: A, y :: B, hA, hB, h => by
    have hx := hA x (by simp)
    have hy := hB y (by simp)
    rw [show textL (x :: A) = (wordL x.op ++ nums (toldL x)) ++ 10 :: textL A by simp [textL, lineL], show textL (y :: B) = (wordL y.op ++ nums (toldL y)) ++ 10 :: textL B by simp [textL, lineL]] at h
    obtain ⟨h1, h2⟩ := sep_inj (no_lf x hx) (no_lf y hy) h
    obtain ⟨h3, h4⟩ := nums_apart _ _ _ _ (fun hm => by have := wordL_chars _ hx 32 hm; simp at this) (fun hm => by have := wordL_chars _ hy 32 hm; simp at this) h1
    rw [toldL_inj x y (wordL_inj _ _ hx hy h3) h4, textL_inj A B (fun z hz => hA z (by simp [hz])) (fun z hz => hB z (by simp [hz])) h2]
theorem chk_ok {L : List Ins} {t c : Int} (h : chk L t c = 0) : (0 ≤ t ∧ t ≤ 2) ∧ (0 ≤ c ∧ c ≤ 40) ∧ L.length ≤ 32 ∧ ∀ x ∈ L, one L.length t c x = true := by
  unfold chk at h
  split at h
  · rename_i h1
    simp only [btw, Bool.and_eq_true, decide_eq_true_eq] at h1
    split at h
    · cases h
    · split at h
      · rename_i h2 h3
        exact ⟨h1.1, h1.2, by omega, fun x hx => List.all_eq_true.1 h3 x hx⟩
      · cases h
  · cases h
theorem one_op {len t c : Int} {x : Ins} (h : one len t c x = true) : 1 ≤ x.op ∧ x.op ≤ 24 := by
  unfold one at h
  simp only [Bool.and_eq_true] at h
  simpa [btw] using h.1
end Go.Proofs.YtegopamfdgeblaaDoor
