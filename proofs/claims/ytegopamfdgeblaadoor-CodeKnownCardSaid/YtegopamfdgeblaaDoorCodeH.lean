/- A slice of ints as the list that it reads as; Same, ints; the document's Ways. -/
import Derived.Test.YtegopamfdgeblaaDoorCodeD
import Derived.BigRegion
import Derived.Deep.LoopGhost
namespace Go.Proofs.YtegopamfdgeblaaDoor
open Go.RowKit
set_option linter.unusedVariables false
set_option linter.unusedSimpArgs false

/-- The slice of address a, of L's length and capacity c reads as L. -/
def IsL (w : World) (a : Option Addr) (c : Nat) (L : List Int) : Prop :=
  L.length ≤ c ∧ c ≤ 9223372036854775807 ∧ (L.length = 0 ∨ ∃ b off, a = some ⟨b, off, none⟩ ∧ b < w.heap.size ∧ ∀ j, j < L.length → w.cell? ⟨b, off + j, none⟩ = some (.int .i64 (L.getD j 0)))
theorem IsL.next {w w' : World} {a : Option Addr} {c : Nat} {L : List Int} (h : IsL w a c L) (k : Below w.heap.size w w') : IsL w' a c L := by
  obtain ⟨h1, h2, h3 | ⟨b, off, h3, h4, h5⟩⟩ := h
  · exact ⟨h1, h2, .inl h3⟩
  · exact ⟨h1, h2, .inr ⟨b, off, h3, Nat.lt_of_lt_of_le h4 k.size, fun j hj => (k.cell (p := ⟨b, off + j, none⟩) h4).trans (h5 j hj)⟩⟩
theorem IsL.at {w : World} {a : Option Addr} {c : Nat} {L : List Int} (h : IsL w a c L) (k : Nat) (hk : k < L.length) : ∃ b off, a = some ⟨b, off, none⟩ ∧ w.cell? ⟨b, off + k, none⟩ = some (.int .i64 (L.getD k 0)) := by
  obtain ⟨h1, h2, h3 | ⟨b, off, h3, h4, h5⟩⟩ := h
  · omega
  · exact ⟨b, off, h3, h5 k hk⟩
theorem IsL.nil (w : World) : IsL w none 0 [] := ⟨by simp, by omega, .inl rfl⟩
theorem list_eq (A B : List Int) (hl : A.length = B.length) (h : ∀ j, j < A.length → A.getD j 0 = B.getD j 0) : A = B := by
  apply List.ext_getElem hl
  intro j h1 h2
  have := h j h1
  rw [List.getD_eq_getElem?_getD, List.getD_eq_getElem?_getD, List.getElem?_eq_getElem h1, List.getElem?_eq_getElem h2] at this
  exact this
set_option maxRecDepth 100000 in
set_option maxHeartbeats 1000000 in
theorem refSame_any (a b : Option Addr) (c d : Nat) (A B : List Int) (w : World) (hA : IsL w a c A) (hB : IsL w b d B) :
    Calls Tryd.prog 12 #[.slice a A.length c, .slice b B.length d] w fun e w' => e = .returned (.bool (decide (A = B))) ∧ Below w.heap.size w w' := by
  have HA := Lib.hid hA
  have HB := Lib.hid hB
  have hc := hA.1
  have hcm := hA.2.1
  have hd := hB.1
  have hdm := hB.2.1
  clear hA hB
  obtain ⟨r, hr⟩ : ∃ r : Bool, r = decide (A = B) := ⟨_, rfl⟩
  rw [← hr]
  have HR := Lib.hid hr
  clear hr
  by_cases hl : A.length = B.length
  · go_enter Tryd.func12, Tryd.ntmps12
    go_wp2_with fail
    go_loopw [5] (fun q wr => ∃ k : Nat, q = .int .i64 (k : Int) ∧ k ≤ B.length ∧ (∀ j, j < k → A.getD j 0 = B.getD j 0) ∧ Below w.heap.size w wr) (fun q _ => B.length - (intOf q).toNat)
    case atStart => exact ⟨0, rfl, Nat.zero_le _, fun j hj => by omega, Below.refl _ _⟩
    case round =>
      obtain ⟨k, rfl, hk, hn, hbw⟩ := hrel
      have HN := Lib.hid hn
      have HW := Lib.hid hbw
      clear hn hbw
      by_cases hlt : k < B.length
      · obtain ⟨b1, off1, rfl, hcell1⟩ := (HA.out.next HW.out).at k (by omega)
        obtain ⟨b2, off2, rfl, hcell2⟩ := (HB.out.next HW.out).at k hlt
        obtain ⟨x, hx⟩ : ∃ x, x = A.getD k 0 := ⟨_, rfl⟩
        obtain ⟨y, hy⟩ : ∃ y, y = B.getD k 0 := ⟨_, rfl⟩
        rw [← hx] at hcell1
        rw [← hy] at hcell2
        have HX := Lib.hid hx
        have HY := Lib.hid hy
        clear hx hy
        by_cases hxy : x = y
        · subst hxy
          go_wp2_with fail
          go_quiet (fail)
          go_wp2_with fail
          go_roundw
          case rel => exact ⟨k + 1, by go_num, by omega, fun j hj => by
            by_cases hjk : j = k
            · rw [hjk, ← HX.out, ← HY.out]
            · exact HN.out j (by omega), below_draws HW.out _⟩
          case measure => simp [intOf]; omega
        · have hxb : (x == y) = false := by simp [hxy]
          have hr : r = false := by rw [HR.out]; exact decide_eq_false (fun e => hxy (by rw [HX.out, HY.out, e]))
          go_wp2_with fail
          go_quiet (fail)
          go_wp2_with fail
          go_ret
          exact ⟨by rw [hr]; rfl, below_draws HW.out _⟩
      · have hr : r = true := by rw [HR.out]; exact decide_eq_true (list_eq A B hl (fun j hj => HN.out j (by omega)))
        go_wp2_with fail
        go_ret
        exact ⟨by rw [hr]; rfl, HW.out⟩
  · have hr : r = false := by rw [HR.out]; exact decide_eq_false (fun e => hl (by rw [e]))
    have hlb : ((A.length : Int) == (B.length : Int)) = false := by simp; omega
    go_enter Tryd.func12, Tryd.ntmps12
    go_wp2_with fail
    go_ret
    exact ⟨by rw [hr]; rfl, Below.refl _ _⟩
set_option maxRecDepth 100000 in
set_option maxHeartbeats 1000000 in
theorem ints_any (a b : Option Addr) (c d : Nat) (A B : List Int) (w : World) (hA : IsL w a c A) (hB : IsL w b d B) :
    Calls Tryd.prog 18 #[.slice a A.length c, .slice b B.length d] w fun e w' => e = .returned (.bool (decide (A = B))) ∧ Below w.heap.size w w' := by
  have HA := Lib.hid hA
  have HB := Lib.hid hB
  have hc := hA.1
  have hcm := hA.2.1
  have hd := hB.1
  have hdm := hB.2.1
  clear hA hB
  obtain ⟨r, hr⟩ : ∃ r : Bool, r = decide (A = B) := ⟨_, rfl⟩
  rw [← hr]
  have HR := Lib.hid hr
  clear hr
  by_cases hl : A.length = B.length
  · go_enter Tryd.func18, Tryd.ntmps18
    go_wp2_with fail
    go_loopw [5] (fun q wr => ∃ k : Nat, q = .int .i64 (k : Int) ∧ k ≤ B.length ∧ (∀ j, j < k → A.getD j 0 = B.getD j 0) ∧ Below w.heap.size w wr) (fun q _ => B.length - (intOf q).toNat)
    case atStart => exact ⟨0, rfl, Nat.zero_le _, fun j hj => by omega, Below.refl _ _⟩
    case round =>
      obtain ⟨k, rfl, hk, hn, hbw⟩ := hrel
      have HN := Lib.hid hn
      have HW := Lib.hid hbw
      clear hn hbw
      by_cases hlt : k < B.length
      · obtain ⟨b1, off1, rfl, hcell1⟩ := (HA.out.next HW.out).at k (by omega)
        obtain ⟨b2, off2, rfl, hcell2⟩ := (HB.out.next HW.out).at k hlt
        obtain ⟨x, hx⟩ : ∃ x, x = A.getD k 0 := ⟨_, rfl⟩
        obtain ⟨y, hy⟩ : ∃ y, y = B.getD k 0 := ⟨_, rfl⟩
        rw [← hx] at hcell1
        rw [← hy] at hcell2
        have HX := Lib.hid hx
        have HY := Lib.hid hy
        clear hx hy
        by_cases hxy : x = y
        · subst hxy
          go_wp2_with fail
          go_quiet (fail)
          go_wp2_with fail
          go_roundw
          case rel => exact ⟨k + 1, by go_num, by omega, fun j hj => by
            by_cases hjk : j = k
            · rw [hjk, ← HX.out, ← HY.out]
            · exact HN.out j (by omega), below_draws HW.out _⟩
          case measure => simp [intOf]; omega
        · have hxb : (x == y) = false := by simp [hxy]
          have hr : r = false := by rw [HR.out]; exact decide_eq_false (fun e => hxy (by rw [HX.out, HY.out, e]))
          go_wp2_with fail
          go_quiet (fail)
          go_wp2_with fail
          go_ret
          exact ⟨by rw [hr]; rfl, below_draws HW.out _⟩
      · have hr : r = true := by rw [HR.out]; exact decide_eq_true (list_eq A B hl (fun j hj => HN.out j (by omega)))
        go_wp2_with fail
        go_ret
        exact ⟨by rw [hr]; rfl, HW.out⟩
  · have hr : r = false := by rw [HR.out]; exact decide_eq_false (fun e => hl (by rw [e]))
    have hlb : ((A.length : Int) == (B.length : Int)) = false := by simp; omega
    go_enter Tryd.func18, Tryd.ntmps18
    go_wp2_with fail
    go_ret
    exact ⟨by rw [hr]; rfl, Below.refl _ _⟩
/-- The slice that is handed back reads as M. -/
def OutL (w : World) (e : Ending) (M : List Int) : Prop := ∃ a c, e = .returned (.slice a M.length c) ∧ IsL w a c M
theorem below_drew' (w : World) (n : Nat) : Below w.heap.size w (w.drewN n) := below_draws (Below.refl _ _) n
theorem isl_one (w : World) (x : Int) : IsL (w.alloc (.cells #[.int .i64 x] 3)) (some ⟨w.heap.size, 0, none⟩) 1 [x] :=
  ⟨by simp, by omega, .inr ⟨w.heap.size, 0, rfl, by simp, fun j hj => by
    obtain rfl : j = 0 := by simpa using hj
    exact World.cell?_alloc_new _ _ _ _⟩⟩
theorem isl_two (w : World) (x y : Int) : IsL (w.alloc (.cells #[.int .i64 x, .int .i64 y] 3)) (some ⟨w.heap.size, 0, none⟩) 2 [x, y] :=
  ⟨by simp, by omega, .inr ⟨w.heap.size, 0, rfl, by simp, fun j hj => by
    have : j = 0 ∨ j = 1 := by simp at hj; omega
    rcases this with rfl | rfl
    all_goals exact World.cell?_alloc_new _ _ _ _⟩⟩
/-- Where it may go on behind x, which stands at i. -/
def wayOf (x : Ins) (i : Int) : List Int :=
  if x.op = 24 then [] else if x.op = 8 then [x.a] else if x.op = 9 then (if x.a = i + 1 then [i + 1] else [min x.a (i + 1), max x.a (i + 1)]) else [i + 1]
def waysL (L : List Ins) (i : Int) : List Int := if h : 0 ≤ i ∧ i.toNat < L.length then wayOf L[i.toNat] i else []
set_option maxRecDepth 100000 in
set_option maxHeartbeats 4000000 in
theorem refWays_any (a : Option Addr) (cap : Nat) (L : List Ins) (i : Int) (w : World) (h : IsC w a cap L) :
    Calls Tryd.prog 14 #[.slice a L.length cap, .int .i64 i] w fun e w' => OutL w' e (waysL L i) ∧ Below w.heap.size w w' := by
  have HL := Lib.hid h
  have hcap := h.1
  have hcm := h.2.1
  clear h
  obtain ⟨M, hM⟩ : ∃ M, M = waysL L i := ⟨_, rfl⟩
  rw [← hM]
  have HM := Lib.hid hM
  clear hM
  by_cases hin : 0 ≤ i ∧ i.toNat < L.length
  · obtain ⟨k, rfl⟩ : ∃ k : Nat, i = (k : Int) := ⟨i.toNat, by omega⟩
    have hk : k < L.length := by omega
    obtain ⟨b, off, x, hx, rfl, x0, x1, x2⟩ := HL.out.at k hk
    have HE := Lib.hid (show M = wayOf x k by rw [HM.out, waysL, dif_pos hin, hx]; rfl)
    clear hx hin
    obtain ⟨op, xa, xb⟩ := x
    by_cases h24 : op = 24
    · subst h24
      have HV := Lib.hid (show M = [] by rw [HE.out]; rfl)
      go_enter Tryd.func14, Tryd.ntmps14
      go_wp2_with fail
      go_ret
      exact ⟨⟨none, 0, by rw [HV.out]; rfl, by rw [HV.out]; exact IsL.nil _⟩, Below.refl _ _⟩
    · by_cases h8 : op = 8
      · subst h8
        have HV := Lib.hid (show M = [xa] by rw [HE.out]; rfl)
        go_enter Tryd.func14, Tryd.ntmps14
        go_wp2_with fail
        go_ret
        exact ⟨⟨_, 1, by rw [HV.out]; rfl, by rw [HV.out]; exact isl_one _ _⟩, below_alloc1 _ _⟩
      · by_cases h9 : op = 9
        · subst h9
          by_cases ha : xa = (k : Int) + 1
          · subst ha
            have HV := Lib.hid (show M = [(k : Int) + 1] by rw [HE.out]; simp [wayOf])
            go_enter Tryd.func14, Tryd.ntmps14
            go_wp2_with fail
            go_ret
            exact ⟨⟨_, 1, by rw [HV.out]; rfl, by rw [HV.out]; exact isl_one _ _⟩, below_alloc1 _ _⟩
          · by_cases hlt : (k : Int) + 1 < xa
            · have hnl : ¬ xa < (k : Int) + 1 := by omega
              have HV := Lib.hid (show M = [(k : Int) + 1, xa] by rw [HE.out]; simp only [wayOf, h24, h8, ha, if_false, if_true, Int.min_def, Int.max_def]; rw [if_neg (by omega), if_neg (by omega)])
              go_enter Tryd.func14, Tryd.ntmps14
              go_wp2_with fail
              go_region
              go_wp2_with fail
              go_ret
              exact ⟨⟨_, 2, by rw [HV.out]; rfl, by rw [HV.out]; exact (isl_two _ _ _).next (below_drew' _ 1)⟩, below_draws (below_alloc1 _ _) 1⟩
            · have hlt2 : xa < (k : Int) + 1 := by omega
              have HV := Lib.hid (show M = [xa, (k : Int) + 1] by rw [HE.out]; simp only [wayOf, h24, h8, ha, if_false, if_true, Int.min_def, Int.max_def]; rw [if_pos (by omega), if_pos (by omega)])
              go_enter Tryd.func14, Tryd.ntmps14
              go_wp2_with fail
              go_region
              go_wp2_with fail
              go_ret
              exact ⟨⟨_, 2, by rw [HV.out]; rfl, by rw [HV.out]; exact (isl_two _ _ _).next (below_drew' _ 1)⟩, below_draws (below_alloc1 _ _) 1⟩
        · have HV := Lib.hid (show M = [(k : Int) + 1] by rw [HE.out]; simp [wayOf, h24, h8, h9])
          go_enter Tryd.func14, Tryd.ntmps14
          go_wp2_with fail
          go_ret
          exact ⟨⟨_, 1, by rw [HV.out]; rfl, by rw [HV.out]; exact isl_one _ _⟩, below_alloc1 _ _⟩
  · have HV := Lib.hid (show M = [] by rw [HM.out, waysL, dif_neg hin])
    by_cases hn : i < 0
    · go_enter Tryd.func14, Tryd.ntmps14
      go_wp2_with fail
      go_ret
      exact ⟨⟨none, 0, by rw [HV.out]; rfl, by rw [HV.out]; exact IsL.nil _⟩, Below.refl _ _⟩
    · have hn2 : (L.length : Int) ≤ i := by omega
      go_enter Tryd.func14, Tryd.ntmps14
      go_wp2_with fail
      go_ret
      exact ⟨⟨none, 0, by rw [HV.out]; rfl, by rw [HV.out]; exact IsL.nil _⟩, Below.refl _ _⟩
end Go.Proofs.YtegopamfdgeblaaDoor
