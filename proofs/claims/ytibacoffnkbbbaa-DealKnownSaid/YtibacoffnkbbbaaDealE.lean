/- Perm. -/
import Derived.Test.YtibacoffnkbbbaaDealD
namespace Go.Proofs.Ytibacoffnkbbbaa
open Go.RowKit
set_option linter.unusedVariables false

theorem cell?_setCell_some {w : World} {p q : Addr} {x v : Value} (h : w.cell? q = some v) : ∃ v', (w.setCell p x).cell? q = some v' := by
  by_cases e : p = q
  · subst e; exact ⟨x, World.cell?_setCell_same w p x h⟩
  · exact ⟨v, (World.cell?_setCell_other w p q x e).trans h⟩
theorem permAt_step (ds : List Int) (i u : Nat) (M : List Int) : permAt ds (i + 1) u M = permAt ds i (nxt ds u) (swp M (i + 1) (leftN (ds.getD u 0) (i + 2))) := rfl
theorem heap_two (w : World) (a b : Obj) : ((w.alloc a).alloc b).heap[w.heap.size + 1]? = some b := by
  have h := heap_alloc_new (w.alloc a) b
  simpa using h
theorem heap_one (w : World) (a b : Obj) : ((w.alloc a).alloc b).heap[w.heap.size]? = some a := (heap_alloc_old (w.alloc a) b (by simp)).trans (heap_alloc_new w a)
theorem below_alloc2 (w : World) (a b : Obj) : Below w.heap.size w ((w.alloc a).alloc b) := ((Below.refl _ w).alloc (Nat.le_refl _) a).alloc (by simp) b
theorem draw_at (bu bd u : Nat) (a : Option Addr) (c : Nat) (L : List Int) (w : World) (d : Int) (hx : L.getD u 0 = d) (hu : w.heap[bu]? = some (.cells #[.int .i64 (u : Int)] 3 (0, 0))) (hd : w.heap[bd]? = some (.cells #[.slice a L.length c] 22 (0, 0)))
    (hL : IsL w a c L) (hb : bu ≠ bd) (ha : ∀ p, a = some p → L.length ≠ 0 → p.block ≠ bu) (hul : u ≤ L.length) :
    Calls Try.prog 14 #[.pointer (some ⟨bu, 0, none⟩), .pointer (some ⟨bd, 0, none⟩)] w fun e w' => e = .returned (.int .i64 d) ∧ w'.heap[bu]? = some (.cells #[.int .i64 ((nxt L u : Nat) : Int)] 3 (0, 0)) ∧ w.grownBy w' (some bu) := by
  subst hx
  exact draw_any bu bd u a c L w hu hd hL hb ha hul
theorem leftOf_at (d : Int) (n j : Nat) (hj : leftN d n = j) (hn : 0 < n) (hm : n ≤ 4096) (w : World) :
    Calls Try.prog 16 #[.int .i64 d, .int .i64 (n : Int)] w fun e w' => e = .returned (.int .i64 (j : Int)) ∧ w = w' := by
  subst hj
  exact leftOf_any d n hn hm w
set_option maxRecDepth 100000 in
theorem perm_none (n : Int) (h : ¬ (1 ≤ n ∧ n ≤ 4096)) (a : Option Addr) (len c : Nat) (w : World) :
    Calls Try.prog 8 #[.int .i64 n, .slice a len c] w fun e w' => e = .returned (.tuple #[.slice none 0 0, .int .i64 0]) ∧ Below w.heap.size w w' := by
  have hB := Lib.hid (below_alloc1 w (.cells #[.slice a len c] 22))
  by_cases h1 : n < 1
  · go_enter Try.func8, Try.ntmps8
    go_wp2
    go_ret2
    exact ⟨rfl, hB.out⟩
  · have h2 : (4096 : Int) < n := by omega
    go_enter Try.func8, Try.ntmps8
    go_wp2
    go_ret2
    exact ⟨rfl, hB.out⟩
set_option maxRecDepth 100000 in
set_option maxHeartbeats 2000000 in
theorem perm_some (n : Nat) (h1 : 1 ≤ n) (h2 : n ≤ 4096) (a : Option Addr) (c : Nat) (L : List Int) (w : World) (hL : IsL w a c L) :
    Calls Try.prog 8 #[.int .i64 (n : Int), .slice a L.length c] w fun e w' => ∃ g c', e = .returned (.tuple #[.slice (some ⟨g, 0, none⟩) n c', .int .i64 (((permN n L).2 : Nat) : Int)]) ∧ RowI w' w.heap.size g c' (permN n L).1 ∧ Below w.heap.size w w' := by
  have hB2 := below_alloc2 w (.cells #[.slice a L.length c] 22) (.cells #[.int .i64 0] 3)
  have hd := heap_one w (.cells #[.slice a L.length c] 22) (.cells #[.int .i64 0] 3)
  have hu := heap_two w (.cells #[.slice a L.length c] 22) (.cells #[.int .i64 0] 3)
  have hal : ∀ p, a = some p → L.length ≠ 0 → p.block < w.heap.size := by
    intro p hp hn
    obtain ⟨_, _, h3 | ⟨b, off, h3, h4, _⟩⟩ := hL
    · exact absurd h3 hn
    · rw [h3] at hp; cases hp; exact h4
  have HB2 := Lib.hid hB2
  have HD := Lib.hid hd
  have HU := Lib.hid hu
  have HL := Lib.hid hL
  have HA := Lib.hid hal
  clear hB2 hd hu hL hal
  go_enter Try.func8, Try.ntmps8
  go_wp2_with fail
  generalize (w.alloc (.cells #[.slice a L.length c] 22)).alloc (.cells #[.int .i64 0] 3) = W at *
  have hsz := HB2.out.size
  go_wp2_with (go_at_call 15; refine (inOrder_any n (by omega) h2 _).mono ?_; rintro e w3 ⟨g, c', rfl, hR, hB⟩)
  have HB3 := Lib.hid (HB2.out.trans (hB.mono HB2.out.size))
  have hWs := HB2.out.size
  have hd3 := (hB.block w.heap.size (Array.getElem?_eq_some_iff.1 HD.out).1).trans HD.out
  have hu3 := (hB.block (w.heap.size + 1) (Array.getElem?_eq_some_iff.1 HU.out).1).trans HU.out
  have hg := hR.lt.1
  have hus := (Array.getElem?_eq_some_iff.1 HU.out).1
  have HR := Lib.hid hR
  have HD3 := Lib.hid hd3
  have HU3 := Lib.hid hu3
  clear hR hB hd3 hu3
  go_wp2_with fail
  go_loopw [9] (fun q wr => ∃ (i u : Nat) (M : List Int), q = .int .i64 (i : Int) ∧ i < n ∧ u ≤ L.length ∧ M.length = n ∧ permAt L i u M = permN n L ∧ RowI wr W.heap.size g c' M ∧ wr.heap[w.heap.size]? = some (.cells #[.slice a L.length c] 22 (0, 0)) ∧ wr.heap[w.heap.size + 1]? = some (.cells #[.int .i64 (u : Int)] 3 (0, 0)) ∧ Below w.heap.size w wr) (fun q _ => (intOf q).toNat)
  case atStart => exact ⟨n - 1, 0, places n, int_eq (by omega), by omega, Nat.zero_le _, places_len n, rfl, HR.out, HD3.out, HU3.out, HB3.out⟩
  case round =>
    obtain ⟨i, u, M, rfl, hi, hu, hM, hp, hR, hd, hu1, hB⟩ := hrel
    have HP := Lib.hid hp
    have HR1 := Lib.hid hR
    have HB1 := Lib.hid hB
    have HD1 := Lib.hid hd
    have HU1 := Lib.hid hu1
    clear hp hR hB hd hu1
    by_cases h0 : i = 0
    · subst h0
      have hu1 := cell_of_one HU1.out
      go_wp2_with fail
      have HE := Lib.hid (show permN n L = (M, u) from HP.out.symm)
      go_region
      all_goals go_wp2
      all_goals go_ret2
      all_goals exact ⟨g, c', by rw [HE.out]; rfl, by rw [HE.out]; exact RowI.drew (HR1.out.mono HB2.out.size) 1, below_draws HB1.out 1⟩
    · obtain ⟨k, rfl⟩ : ∃ k, i = k + 1 := ⟨i - 1, by omega⟩
      obtain ⟨d, hd⟩ : ∃ d, L.getD u 0 = d := ⟨_, rfl⟩
      obtain ⟨j, hj⟩ : ∃ j, leftN d (k + 2) = j := ⟨_, rfl⟩
      have hjl : j < k + 2 := by rw [← hj]; exact leftN_lt d (by omega)
      have hst := permAt_step L k u M
      rw [hd, hj] at hst
      have HST := Lib.hid hst
      have HD := Lib.hid hd
      have HJ := Lib.hid hj
      clear hst hd hj
      go_wp2_with (first
        | (go_at_call 14; refine (draw_at (w.heap.size + 1) w.heap.size u a c L _ d HD.out HU1.out HD1.out (HL.out.next HB1.out) (by omega) (fun p hp hl => by have := HA.out p hp hl; omega) hu).mono ?_; rintro e w4 ⟨rfl, hu4, hg4⟩)
        | (go_at_call 16; refine (leftOf_at d (k + 2) j HJ.out (by omega) (by omega) _).mono ?_; rintro e w5 ⟨rfl, rfl⟩))
      have hR4 := HR1.out.kept hg4 (by intro e; cases e; have := HR1.out.lt.1; omega)
      have hx := hR4.cell (k + 1) (by omega)
      have hy := hR4.cell j (by omega)
      have fx := hR4.free (k + 1)
      have fy := hR4.free j
      have HR5 := Lib.hid ((hR4.set (k + 1) (M.getD j 0)).set j (M.getD (k + 1) 0))
      obtain ⟨x, hxx⟩ : ∃ x, M.getD (k + 1) 0 = x := ⟨_, rfl⟩
      obtain ⟨y, hyy⟩ : ∃ y, M.getD j 0 = y := ⟨_, rfl⟩
      rw [hxx] at hx HR5
      rw [hyy] at hy HR5
      have HX := Lib.hid hxx
      have HY := Lib.hid hyy
      have hgl := HR1.out.lt.1
      have HB4 := Lib.hid (HB1.out.grown hg4 HB1.out.size (fun q e => by cases e; omega))
      have hd4 := (hg4.block w.heap.size (Array.getElem?_eq_some_iff.1 HD1.out).1 (fun e => by have := Option.some.inj e; omega)).trans HD1.out
      have HD4 := Lib.hid hd4
      have HU4 := Lib.hid hu4
      obtain ⟨v', hy'⟩ := cell?_setCell_some (w := w4) (p := ⟨g, k + 1, none⟩) (x := .int .i64 y) (q := ⟨g, j, none⟩) hy
      clear hR4 hxx hyy hd4 hu4 hg4
      go_wp2_with fail
      go_region
      go_wp2_with fail
      go_roundw
      case rel =>
        refine ⟨k, nxt L u, swp M (k + 1) j, int_eq (by omega), by omega, nxt_le _ _ hu, by rw [swp_len]; exact hM, ?_, ?_, ?_, ?_, ?_⟩
        · rw [← HP.out, HST.out]
        · unfold swp; rw [HX.out, HY.out]; exact RowI.drew HR5.out 1
        · exact (Below.heap_setCell _ _ _ _ (show w.heap.size ≠ g by omega)).trans ((Below.heap_setCell _ _ _ _ (show w.heap.size ≠ g by omega)).trans HD4.out)
        · exact (Below.heap_setCell _ _ _ _ (show w.heap.size + 1 ≠ g by omega)).trans ((Below.heap_setCell _ _ _ _ (show w.heap.size + 1 ≠ g by omega)).trans HU4.out)
        · exact below_draws ((HB4.out.setCell (p := ⟨g, k + 1, none⟩) (show w.heap.size ≤ g by omega) _).setCell (p := ⟨g, j, none⟩) (show w.heap.size ≤ g by omega) _) 1
      case measure => simp [intOf]
end Go.Proofs.Ytibacoffnkbbbaa
