/- A slice of ints as the list that it reads as; the law's own alike; what is left of a draw. -/
import Derived.Test.YtibacoffnkbbbaaDealA
import Derived.BigQuiet
import Derived.Deep.QuietTactic
import Derived.RegionTactic
import Derived.ChangeAlike
import Derived.Maps.OwnSet
namespace Go.Proofs.Ytibacoffnkbbbaa
open Go.RowKit
set_option linter.unusedVariables false

/-- The slice of address a, of L's length and capacity c reads as L. -/
def IsL (w : World) (a : Option Addr) (c : Nat) (L : List Int) : Prop :=
  L.length ≤ c ∧ c ≤ 9223372036854775807 ∧ (L.length = 0 ∨ ∃ b off, a = some ⟨b, off, none⟩ ∧ b < w.heap.size ∧ ∀ j, j < L.length → w.cell? ⟨b, off + j, none⟩ = some (.int .i64 (L.getD j 0)))
theorem IsL.next {w w' : World} {a : Option Addr} {c : Nat} {L : List Int} (h : IsL w a c L) (k : Below w.heap.size w w') : IsL w' a c L := by
  obtain ⟨h1, h2, h3 | ⟨b, off, h3, h4, h5⟩⟩ := h
  · exact ⟨h1, h2, .inl h3⟩
  · exact ⟨h1, h2, .inr ⟨b, off, h3, Nat.lt_of_lt_of_le h4 k.size, fun j hj => (k.cell (p := ⟨b, off + j, none⟩) h4).trans (h5 j hj)⟩⟩
theorem IsL.at {w : World} {a : Option Addr} {c : Nat} {L : List Int} (h : IsL w a c L) (k : Nat) (hk : k < L.length) : ∃ b off, a = some ⟨b, off, none⟩ ∧ w.cell? ⟨b, off + k, none⟩ = some (.int .i64 (L.getD k 0)) := by
  obtain ⟨h1, h2, h3 | ⟨b, off, h3, h4, h5⟩⟩ := h
  · omega
  · exact ⟨b, off, h3, h5 k hk⟩
theorem IsL.nil (w : World) : IsL w none 0 [] := ⟨by simp, by omega, .inl rfl⟩
theorem below_draws {B : Nat} {a w : World} (h : Below B a w) (n : Nat) : Below B a (w.drewN n) := h.trans ⟨rfl, rfl, rfl, Nat.le_refl _, fun _ _ => rfl⟩
/-- The slice that is handed back reads as M. -/
def OutL (w : World) (e : Ending) (M : List Int) : Prop := ∃ a c, e = .returned (.slice a M.length c) ∧ IsL w a c M
theorem own_isL {w : World} {B : Nat} {v : Value} {M : List Int} (h : w.ownsRow B 3 1 v M.length (M.map (Value.int .i64))) : ∃ a c, v = .slice a M.length c ∧ IsL w a c M := by
  have h' := h
  obtain ⟨_, h2⟩ := h
  rcases h2 with ⟨rfl, h2⟩ | ⟨g, c, cur, rfl, hg, hh, hc, hm, _⟩
  · rw [h2]
    exact ⟨none, 0, rfl, by omega, by omega, .inl h2⟩
  · unfold maxLen at hm
    refine ⟨_, c, rfl, hc, hm, .inr ⟨g, 0, rfl, (Array.getElem?_eq_some_iff.1 hh).1, fun j hj => ?_⟩⟩
    rw [Nat.zero_add, h'.cellAt j (by omega)]
    simp [List.getD, List.getElem?_map, List.getElem?_eq_getElem hj]
theorem intInfo : (Try.prog.info? 3).map (fun i => (i.zero, i.size, i.bytes)) = some (some (.int .i64 0), 1, 8) := by kernel_rfl
theorem own_snoc {w : World} {B : Nat} {v : Value} {M : List Int} {x : Int} (h : w.ownsRow B 3 1 v (M.length + 1) (M.map (Value.int .i64) ++ [.int .i64 x])) :
    w.ownsRow B 3 1 v (M ++ [x]).length ((M ++ [x]).map (Value.int .i64)) := by
  rw [List.length_append, List.map_append]; exact h
theorem grown_out {w wr w1 : World} {o : Obj} {v : Value} {n : Nat} {xs : List Value} (h : Below w.heap.size w wr) (ho : wr.ownsRow w.heap.size 3 1 v n xs) (hg : (wr.alloc o).grownBy w1 v.ownBlock) : Below w.heap.size w w1 :=
  (h.alloc h.size o).grown hg (Nat.le_trans h.size (by simp)) (fun k e => (ho.lt k e).1)

theorem below_alloc1 (w : World) (a : Obj) : Below w.heap.size w (w.alloc a) := (Below.refl _ w).alloc (Nat.le_refl _) a
theorem IsL.grown {w w' : World} {a : Option Addr} {c : Nat} {L : List Int} (h : IsL w a c L) {row : Option Nat} (k : w.grownBy w' row) (hr : ∀ p, a = some p → row ≠ some p.block) : IsL w' a c L := by
  obtain ⟨h1, h2, h3 | ⟨b, off, h3, h4, h5⟩⟩ := h
  · exact ⟨h1, h2, .inl h3⟩
  · exact ⟨h1, h2, .inr ⟨b, off, h3, Nat.lt_of_lt_of_le h4 k.size, fun j hj => k.cell (h5 j hj) (fun e => hr _ h3 e.symm)⟩⟩
theorem leftOf_any (d : Int) (n : Nat) (hn : 0 < n) (hm : n ≤ 4096) (w : World) :
    Calls Try.prog 16 #[.int .i64 d, .int .i64 (n : Int)] w fun e w' => e = .returned (.int .i64 ((leftN d n : Nat) : Int)) ∧ w = w' := by
  have h0 := tmod_low d hn
  have hne : (n : Int) ≠ 0 := by omega
  obtain ⟨r, hr⟩ : ∃ r, r = leftN d n := ⟨_, rfl⟩
  rw [← hr]
  by_cases hneg : d.tmod n < 0
  · have h1 := left_down d hn hneg
    rw [← hr] at h1
    clear hr
    generalize hx : d.tmod (n : Int) = x at *
    go_enter Try.func16, Try.ntmps16
    go_wp2
    go_ret
    exact ⟨by rw [← h1]; rfl, rfl⟩
  · have h1 := left_up d hn (by omega)
    rw [← hr] at h1
    clear hr
    generalize hx : d.tmod (n : Int) = x at *
    go_enter Try.func16, Try.ntmps16
    go_wp2
    go_ret
    exact ⟨by rw [← h1]; rfl, rfl⟩
set_option maxRecDepth 100000 in
set_option maxHeartbeats 1000000 in
theorem alike_any (a b : Option Addr) (c d : Nat) (A B : List Int) (w : World) (hA : IsL w a c A) (hB : IsL w b d B) :
    Calls Try.prog 10 #[.slice a A.length c, .slice b B.length d] w fun e w' => e = .returned (.bool (decide (A = B))) ∧ Below w.heap.size w w' := by
  have HA := Lib.hid hA
  have HB := Lib.hid hB
  have hc := hA.1
  have hcm := hA.2.1
  have hd := hB.1
  have hdm := hB.2.1
  clear hA hB
  obtain ⟨r, hr⟩ : ∃ r : Bool, r = decide (A = B) := ⟨_, rfl⟩
  rw [← hr]
  have HR := Lib.hid hr
  clear hr
  by_cases hl : A.length = B.length
  · go_enter Try.func10, Try.ntmps10
    go_wp2_with fail
    go_loopw [5] (fun q wr => ∃ k : Nat, q = .int .i64 (k : Int) ∧ k ≤ B.length ∧ (∀ j, j < k → A.getD j 0 = B.getD j 0) ∧ Below w.heap.size w wr) (fun q _ => B.length - (intOf q).toNat)
    case atStart => exact ⟨0, rfl, Nat.zero_le _, fun j hj => by omega, Below.refl _ _⟩
    case round =>
      obtain ⟨k, rfl, hk, hn, hbw⟩ := hrel
      have HN := Lib.hid hn
      have HW := Lib.hid hbw
      clear hn hbw
      by_cases hlt : k < B.length
      · obtain ⟨b1, off1, rfl, hcell1⟩ := (HA.out.next HW.out).at k (by omega)
        obtain ⟨b2, off2, rfl, hcell2⟩ := (HB.out.next HW.out).at k hlt
        obtain ⟨x, hx⟩ : ∃ x, x = A.getD k 0 := ⟨_, rfl⟩
        obtain ⟨y, hy⟩ : ∃ y, y = B.getD k 0 := ⟨_, rfl⟩
        rw [← hx] at hcell1
        rw [← hy] at hcell2
        have HX := Lib.hid hx
        have HY := Lib.hid hy
        clear hx hy
        by_cases hxy : x = y
        · subst hxy
          go_wp2_with fail
          go_quiet (fail)
          go_wp2_with fail
          go_roundw
          case rel => exact ⟨k + 1, by go_num, by omega, fun j hj => by
            by_cases hjk : j = k
            · rw [hjk, ← HX.out, ← HY.out]
            · exact HN.out j (by omega), below_draws HW.out _⟩
          case measure => simp [intOf]; omega
        · have hxb : (x == y) = false := by simp [hxy]
          have hr : r = false := by rw [HR.out]; exact decide_eq_false (fun e => hxy (by rw [HX.out, HY.out, e]))
          go_wp2_with fail
          go_quiet (fail)
          go_wp2_with fail
          go_ret
          exact ⟨by rw [hr]; rfl, below_draws HW.out _⟩
      · have hr : r = true := by rw [HR.out]; exact decide_eq_true (list_eq A B hl (fun j hj => HN.out j (by omega)))
        go_wp2_with fail
        go_ret
        exact ⟨by rw [hr]; rfl, HW.out⟩
  · have hr : r = false := by rw [HR.out]; exact decide_eq_false (fun e => hl (by rw [e]))
    have hlb : ((A.length : Int) == (B.length : Int)) = false := by simp; omega
    go_enter Try.func10, Try.ntmps10
    go_wp2_with fail
    go_ret
    exact ⟨by rw [hr]; rfl, Below.refl _ _⟩
end Go.Proofs.Ytibacoffnkbbbaa
