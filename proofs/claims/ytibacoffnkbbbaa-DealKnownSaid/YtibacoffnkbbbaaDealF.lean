/- The document's Perm; Perm of any number of places. -/
import Derived.Test.YtibacoffnkbbbaaDealE
namespace Go.Proofs.Ytibacoffnkbbbaa
open Go.RowKit
set_option linter.unusedVariables false

theorem permAt_down (ds : List Int) (i u : Nat) (M : List Int) (hi : 1 ≤ i) : permAt ds i u M = permAt ds (i - 1) (nxt ds u) (swp M i (leftN (ds.getD u 0) (i + 1))) := by
  obtain ⟨k, rfl⟩ : ∃ k, i = k + 1 := ⟨i - 1, by omega⟩
  exact permAt_step ds k u M
set_option maxRecDepth 100000 in
theorem refPerm_none (n : Int) (h : ¬ (1 ≤ n ∧ n ≤ 4096)) (a : Option Addr) (len c : Nat) (w : World) :
    Calls Try.prog 9 #[.int .i64 n, .slice a len c] w fun e w' => e = .returned (.tuple #[.slice none 0 0, .int .i64 0]) ∧ Below w.heap.size w w' := by
  by_cases h1 : n < 1
  · go_enter Try.func9, Try.ntmps9
    go_wp2
    go_ret2
    exact ⟨rfl, Below.refl _ _⟩
  · have h2 : (4096 : Int) < n := by omega
    go_enter Try.func9, Try.ntmps9
    go_wp2
    go_ret2
    exact ⟨rfl, Below.refl _ _⟩
set_option maxRecDepth 100000 in
set_option maxHeartbeats 2000000 in
theorem refPerm_some (n : Nat) (h1 : 1 ≤ n) (h2 : n ≤ 4096) (a : Option Addr) (c : Nat) (L : List Int) (w : World) (hL : IsL w a c L) :
    Calls Try.prog 9 #[.int .i64 (n : Int), .slice a L.length c] w fun e w' => ∃ g c', e = .returned (.tuple #[.slice (some ⟨g, 0, none⟩) n c', .int .i64 (((permN n L).2 : Nat) : Int)]) ∧ RowI w' w.heap.size g c' (permN n L).1 ∧ Below w.heap.size w w' := by
  have hlc := hL.1
  have hcm := hL.2.1
  have HL := Lib.hid hL
  clear hL
  obtain ⟨i0, hi, hz0, hz1, hz2⟩ := info_parts intInfo
  go_enter Try.func9, Try.ntmps9
  go_wp2_with fail
  go_loopw [6, 7] (fun v q wr => ∃ (k : Nat) (M : List Int), q = .int .i64 (k : Int) ∧ k ≤ n ∧ M = places k ∧ M.length = k ∧ wr.ownsRow w.heap.size 3 1 v M.length (M.map (Value.int .i64)) ∧ Below w.heap.size w wr) (fun _ q _ => n - (intOf q).toNat)
  case atStart => exact ⟨0, [], rfl, Nat.zero_le _, rfl, rfl, World.ownsRow_nil _ _ _ _, Below.refl _ _⟩
  case round =>
    obtain ⟨k, M, rfl, hk, hM, hMl, hown, hbw⟩ := hrel
    have HM := Lib.hid hM
    have HO := Lib.hid hown
    have HW := Lib.hid hbw
    clear hM hown hbw
    by_cases hlt : k < n
    · have HN := Lib.hid (show M ++ [(k : Int)] = places (k + 1) by rw [places_succ, HM.out])
      go_wp2_with (at_builtin; refine wpList_append_own _ rfl _ _ 22 rfl w.heap.size 3 i0 (.int .i64 0) 1 8 Try.underlying22 hi hz0 hz1 hz2 rfl (by decide) _ M.length (M.map (Value.int .i64)) rfl (HO.out.alloc _) ⟨wr.heap.size, 0, none⟩ 1 1 [.int .i64 (k : Int)] rfl rfl (cell_one_new _ _ _) (by simp [Value.oneCell']) (by unfold maxLen; omega) (by omega) (by have := HW.out.size; simp; omega) ?_)
      intro v1 w1 hown1 hgrow hne
      have HW1 := Lib.hid (grown_out HW.out HO.out hgrow)
      have HO1 := Lib.hid (own_snoc (M := M) (x := (k : Int)) (by rw [hMl]; exact hown1))
      obtain ⟨g1, cap1, rfl⟩ := own_shape hown1
      clear hown1 hgrow hne
      go_wp2_with fail
      go_roundw
      case rel => exact ⟨k + 1, M ++ [(k : Int)], by go_num, by omega, HN.out, by rw [List.length_append, hMl]; rfl, HO1.out, HW1.out⟩
      case measure => simp [intOf]; omega
    · obtain ⟨g, c', rfl, hR⟩ := RowI.own HO.out (by omega)
      have hkn : k = n := by omega
      have HR := Lib.hid (show RowI wr w.heap.size g c' (places n) by rw [← hkn, ← HM.out]; exact hR)
      have hgl := hR.lt.1
      clear hR
      have HM' : M.length = n := by omega
      clear HM HO
      subst hkn
      generalize M.length = ml at *
      subst HM'
      clear hMl
      go_wp2_with fail
      go_loopw [8, 9] (fun uq q wr => ∃ (i u : Nat) (M : List Int), uq = .int .i64 (u : Int) ∧ q = .int .i64 (i : Int) ∧ i < ml ∧ u ≤ L.length ∧ M.length = ml ∧ permAt L i u M = permN ml L ∧ RowI wr w.heap.size g c' M ∧ Below w.heap.size w wr) (fun _ q _ => (intOf q).toNat)
      case atStart => exact ⟨ml - 1, 0, places ml, rfl, int_eq (by omega), by omega, Nat.zero_le _, places_len ml, rfl, HR.out, HW.out⟩
      case round =>
        obtain ⟨i, u, M, rfl, rfl, hi, hu, hM, hp, hR, hB⟩ := hrel
        have HP := Lib.hid hp
        have HR1 := Lib.hid hR
        have HB1 := Lib.hid hB
        clear hp hR hB
        by_cases h0 : i = 0
        · subst h0
          have HE := Lib.hid (show permN ml L = (M, u) from HP.out.symm)
          go_wp2_with fail
          go_ret2
          exact ⟨g, c', by rw [HE.out]; rfl, by rw [HE.out]; exact HR1.out, HB1.out⟩
        · obtain ⟨d, hd⟩ : ∃ d, L.getD u 0 = d := ⟨_, rfl⟩
          obtain ⟨j, hj⟩ : ∃ j, leftN d (i + 1) = j := ⟨_, rfl⟩
          have hjl : j < i + 1 := by rw [← hj]; exact leftN_lt d (by omega)
          have hst := permAt_down L i u M (by omega)
          rw [hd, hj] at hst
          have HST := Lib.hid (hst.symm.trans HP.out)
          have hlow := tmod_low d (show 0 < i + 1 by omega)
          have hup := left_up d (show 0 < i + 1 by omega)
          have hdn := left_down d (show 0 < i + 1 by omega)
          rw [hj] at hup hdn
          have ecast : ((i + 1 : Nat) : Int) = (i : Int) + 1 := by omega
          rw [ecast] at hlow hup hdn
          obtain ⟨r, hr⟩ : ∃ r, d.tmod ((i : Int) + 1) = r := ⟨_, rfl⟩
          rw [hr] at hlow hup hdn
          have HD := Lib.hid hd
          have hx := HR1.out.cell i (by omega)
          have hy := HR1.out.cell j (by omega)
          have fx := HR1.out.free i
          have fy := HR1.out.free j
          have HR5 := Lib.hid ((HR1.out.set i (M.getD j 0)).set j (M.getD i 0))
          obtain ⟨x, hxx⟩ : ∃ x, M.getD i 0 = x := ⟨_, rfl⟩
          obtain ⟨y, hyy⟩ : ∃ y, M.getD j 0 = y := ⟨_, rfl⟩
          rw [hxx] at hx HR5
          rw [hyy] at hy HR5
          have HS := Lib.hid (show swp M i j = (M.set i y).set j x by unfold swp; rw [hxx, hyy])
          have hgl := HR1.out.lt.1
          obtain ⟨v', hy'⟩ := cell?_setCell_some (w := wr) (p := ⟨g, i, none⟩) (x := .int .i64 y) (q := ⟨g, j, none⟩) hy
          have HB5 := Lib.hid ((HB1.out.setCell (p := ⟨g, i, none⟩) hgl (.int .i64 y)).setCell (p := ⟨g, j, none⟩) hgl (.int .i64 x))
          clear hst hd hj hxx hyy ecast
          by_cases hul : u < L.length
          · obtain ⟨b, off, rfl, hcell⟩ := (HL.out.next HB1.out).at u hul
            rw [HD.out] at hcell
            have HNX := Lib.hid (show nxt L u = u + 1 by unfold nxt; rw [if_pos hul])
            by_cases hneg : r < 0
            · have hrj := hdn hneg
              clear hup hdn
              obtain rfl : j = (r + (i : Int) + 1).toNat := by omega
              clear hrj
              go_wp2_with fail
              go_roundw
              case rel => exact ⟨i - 1, u + 1, (M.set i y).set (r + (i : Int) + 1).toNat x, by go_num, int_eq (by omega), by omega, by omega, by rw [List.length_set, List.length_set]; exact hM, by rw [← HS.out, ← HNX.out]; exact HST.out, HR5.out, HB5.out⟩
              case measure => simp [intOf]; omega
            · have hrj := hup (by omega)
              clear hup hdn
              obtain rfl : j = r.toNat := by omega
              clear hrj
              go_wp2_with fail
              go_roundw
              case rel => exact ⟨i - 1, u + 1, (M.set i y).set r.toNat x, by go_num, int_eq (by omega), by omega, by omega, by rw [List.length_set, List.length_set]; exact hM, by rw [← HS.out, ← HNX.out]; exact HST.out, HR5.out, HB5.out⟩
              case measure => simp [intOf]; omega
          · have hd0 : d = 0 := by rw [← HD.out]; exact getD_out L u (by omega)
            have hr0 : r = 0 := by rw [← hr, hd0]; simp
            have hrj := hup (by omega)
            have hue : u = L.length := by omega
            have HNX := Lib.hid (show nxt L u = u by unfold nxt; rw [if_neg hul])
            clear hup hdn hr
            obtain rfl : j = 0 := by omega
            clear hrj hlow
            subst hd0 hr0
            go_wp2_with fail
            go_roundw
            case rel => exact ⟨i - 1, u, (M.set i y).set 0 x, rfl, int_eq (by omega), by omega, by omega, by rw [List.length_set, List.length_set]; exact hM, by rw [← HS.out]; exact (congrArg (fun q => permAt L (i - 1) q _) HNX.out).symm.trans HST.out, HR5.out, HB5.out⟩
            case measure => simp [intOf]; omega
end Go.Proofs.Ytibacoffnkbbbaa
