/- The walk of CardGreater. -/
import Derived.Test.YtfhmadlobdklbaaDoorCardZo
import Derived.Test.YtfhmadlobdklbaaDoorCardZa
import Derived.StillTailTactics
namespace Go.Proofs.YtfhmadlobdklbaaDoor
open Go.RowKit
set_option linter.unusedVariables false
set_option linter.unusedSimpArgs false

theorem BlkAt.low {w w' : World} {B b : Nat} {cs : Array Value} {T : TypeId} (h : BlkAt w b cs T) (k : Below B w w') (hb : b < B) : BlkAt w' b cs T :=
  (k.block b hb).trans h
theorem chkC_cas (y : Cd) (A : List AbT) (c : Int) : chkC y A c = 0 ∨ chkC y A c = 3 ∨ chkC y A c = 2 ∨ chkC y A c = 10 := by
  unfold chkC
  repeat' split
  all_goals simp
theorem isA_sub {w : World} {b off c j : Nat} {A : List AbT} {t : AbT} (h : IsA w (some ⟨b, off, none⟩) c A) (ht : A[j]? = some t) : IsA w (some ⟨b, off + j * 13, none⟩) (c - j) [t] := by
  obtain ⟨hj, ht⟩ := List.getElem?_eq_some_iff.1 ht
  obtain ⟨h1, h2, h0, h3⟩ := h
  refine ⟨by show 1 ≤ _; omega, by omega, fun u hu => ?_, ?_⟩
  · obtain rfl := List.mem_singleton.1 hu
    exact h0 _ (ht ▸ List.getElem_mem hj)
  · right
    rcases h3 with h3 | ⟨b', off', e, hb, h5⟩
    · omega
    · obtain ⟨rfl, rfl⟩ : b = b' ∧ off = off' := by simpa using e
      refine ⟨b, _, rfl, hb, fun i hi m hm => ?_⟩
      obtain rfl : i = 0 := by simpa using hi
      have := h5 j hj m hm
      rw [ht] at this
      simpa using this
/-- What holds after k turns. -/
def Gr (w : World) (cb : Nat) (F N : Array Value) (k : Nat) (wr : World) : Prop :=
  ∃ y A, BlkAt wr cb #[.string y.nm, .int .i64 y.k, .int .i64 y.c0, .int .i64 y.c1, .int .i64 y.c2, .int .i64 y.c3, .int .i64 y.col, .int .i64 y.pow, .int .i64 y.tou, .int .i64 y.keys, .slice y.aa y.an y.ac] 26 ∧ CdX (fun g => g = cb) wr y A ∧ CdOk y ∧ Bnd (2 + k) A ∧ BlkAt wr w.heap.size F 35 ∧ BlkAt wr (w.heap.size + 1) N 36 ∧ Below w.heap.size w wr
set_option maxRecDepth 100000 in
set_option maxHeartbeats 4000000 in
theorem walk_CardGreater (k f0 f1 f2 : Nat) (hk : k ≤ 255) (hf0 : f0 ≤ 255) (hf1 : f1 ≤ 255) (hf2 : f2 ≤ 255) (n0 n1 n2 : Int) (hn0 : In64 n0) (hn1 : In64 n1) (hn2 : In64 n2) (w : World) (hT : Tabs w) :
    Calls Tryd.prog 5 #[.int .u8 (k : Int), .agg #[.int .u8 (f0 : Int), .int .u8 (f1 : Int), .int .u8 (f2 : Int)], .agg #[.int .i64 n0, .int .i64 n1, .int .i64 n2]] w fun e w' => e = .returned (.bool true) ∧ Below w.heap.size w w' := by
  have HT := Lib.hid hT
  have HF0 := Lib.hid hf0
  have HF1 := Lib.hid hf1
  have HF2 := Lib.hid hf2
  have HN0 := Lib.hid hn0
  have HN1 := Lib.hid hn1
  have HN2 := Lib.hid hn2
  obtain ⟨k4, hk4⟩ : ∃ k4, k4 = 1 + k % 4 := ⟨_, rfl⟩
  have H4 := Lib.hid (show 1 ≤ k4 ∧ k4 ≤ 4 by omega)
  have e1 : 1 + (k : Int) % 4 = (k4 : Int) := by omega
  clear hT hn0 hn1 hn2 hf0 hf1 hf2 hk4
  go_enter Tryd.func5, Tryd.ntmps5
  go_wp2_with fail
  refine (plain_any k4 H4.out.1 H4.out.2 (fun _ => False) _ (fun _ h => h.elim)).mono ?_
  rintro e w1 ⟨y0, A0, rfl, hr, ho, he1, he2, hb⟩
  have hb0 := below_alloc2 w (.cells #[.int .u8 (f0 : Int), .int .u8 (f1 : Int), .int .u8 (f2 : Int)] 35) (.cells #[.int .i64 n0, .int .i64 n1, .int .i64 n2] 36)
  have h1 := blkAt_one w #[.int .u8 (f0 : Int), .int .u8 (f1 : Int), .int .u8 (f2 : Int)] 35 (.cells #[.int .i64 n0, .int .i64 n1, .int .i64 n2] 36)
  have h2 := blkAt_two w #[.int .i64 n0, .int .i64 n1, .int .i64 n2] 36 (.cells #[.int .u8 (f0 : Int), .int .u8 (f1 : Int), .int .u8 (f2 : Int)] 35)
  have hb1 := below_then' hb0 hb hb0.size
  have hs0 := Nat.le_trans hb0.size hb.size
  have h1' := h1.next hb
  have h2' := h2.next hb
  have hz1 : w.heap.size + 1 < w1.heap.size := by have := hb.size; simp at this; omega
  have hb2 := below_alloc1 w1 (.cells #[.string y0.nm, .int .i64 y0.k, .int .i64 y0.c0, .int .i64 y0.c1, .int .i64 y0.c2, .int .i64 y0.c3, .int .i64 y0.col, .int .i64 y0.pow, .int .i64 y0.tou, .int .i64 y0.keys, .slice y0.aa y0.an y0.ac] 26)
  have HG := Lib.hid (show Gr w w1.heap.size #[.int .u8 (f0 : Int), .int .u8 (f1 : Int), .int .u8 (f2 : Int)] #[.int .i64 n0, .int .i64 n1, .int .i64 n2] 0 (w1.alloc (.cells #[.string y0.nm, .int .i64 y0.k, .int .i64 y0.c0, .int .i64 y0.c1, .int .i64 y0.c2, .int .i64 y0.c3, .int .i64 y0.col, .int .i64 y0.pow, .int .i64 y0.tou, .int .i64 y0.keys, .slice y0.aa y0.an y0.ac] 26)) from
    ⟨y0, A0, blkAt_new w1 #[.string y0.nm, .int .i64 y0.k, .int .i64 y0.c0, .int .i64 y0.c1, .int .i64 y0.c2, .int .i64 y0.c3, .int .i64 y0.col, .int .i64 y0.pow, .int .i64 y0.tou, .int .i64 y0.keys, .slice y0.aa y0.an y0.ac] 26, hr.now.old hb2 (X := fun g => g = w1.heap.size) (fun g e => by rw [e]; exact Nat.le_refl _), ho, by rw [← bnd_er, he2]; exact bnd_plain k4 H4.out.1 H4.out.2, h1'.next hb2, h2'.next hb2, below_then' hb1 hb2 hb1.size⟩)
  have HZ := Lib.hid hz1
  clear hr ho he1 he2 hb hb2 hb0 hb1 h1 h2 h1' h2' hz1 hs0
  go_wp2_with fail
  generalize w1.alloc (.cells #[.string y0.nm, .int .i64 y0.k, .int .i64 y0.c0, .int .i64 y0.c1, .int .i64 y0.c2, .int .i64 y0.c3, .int .i64 y0.col, .int .i64 y0.pow, .int .i64 y0.tou, .int .i64 y0.keys, .slice y0.aa y0.an y0.ac] 26) = W at *
  generalize w1.heap.size = cb at *
  go_loopw [8] (fun q wr => (q = .int .i64 0 ∧ Gr w cb #[.int .u8 (f0 : Int), .int .u8 (f1 : Int), .int .u8 (f2 : Int)] #[.int .i64 n0, .int .i64 n1, .int .i64 n2] 0 wr) ∨ (q = .int .i64 1 ∧ Gr w cb #[.int .u8 (f0 : Int), .int .u8 (f1 : Int), .int .u8 (f2 : Int)] #[.int .i64 n0, .int .i64 n1, .int .i64 n2] 1 wr) ∨ (q = .int .i64 2 ∧ Gr w cb #[.int .u8 (f0 : Int), .int .u8 (f1 : Int), .int .u8 (f2 : Int)] #[.int .i64 n0, .int .i64 n1, .int .i64 n2] 2 wr) ∨ (q = .int .i64 3 ∧ Gr w cb #[.int .u8 (f0 : Int), .int .u8 (f1 : Int), .int .u8 (f2 : Int)] #[.int .i64 n0, .int .i64 n1, .int .i64 n2] 3 wr)) (fun q _ => 3 - (intOf q).toNat)
  case atStart => exact .inl ⟨rfl, HG.out⟩
  case round =>
    rcases hrel with ⟨rfl, hg⟩ | ⟨rfl, hg⟩ | ⟨rfl, hg⟩ | ⟨rfl, hg⟩
    · obtain ⟨y, A, hX, hC, hO, hBd, hF, hNn, hW⟩ := hg
      obtain ⟨g, hg⟩ : ∃ g, g = f0 % 30 := ⟨_, rfl⟩
      have e2 : (f0 : Int) % 30 = (g : Int) := by omega
      clear hg
      have q := hF.cell 0
      have qn := hNn.cell 0
      simp at q qn
      by_cases hg : g < 24
      · have HG1 := Lib.hid hg
        have hcz : cb < wr.heap.size := hX.lt
        have HCZ := Lib.hid hcz
        have HX := Lib.hid hX
        have HC := Lib.hid hC
        have HO := Lib.hid hO
        have HBd := Lib.hid hBd
        have HFF := Lib.hid hF
        have HNN := Lib.hid hNn
        have HWW := Lib.hid hW
        obtain ⟨⟨q0, q1, q2, q3, q4, q5, q6, q7, q8, q9, q10⟩, _⟩ := hX.cells11
        clear hX hC hO hBd hF hNn hW hcz
        go_wp2_with fail
        have hdr : Below wr.heap.size wr wr.drew := (Below.refl _ _).drew
        have HDr := Lib.hid hdr
        have HCd := Lib.hid (HC.out.next hdr)
        clear hdr
        go_still_tail 9, (by kernel_rfl)
        change wpList _ _ _ _ _ wr.drew
        generalize wr.drew = wd at *
        go_wp2_with fail
        rw [e2]
        refine (turned_any (fun g => g = cb) y A g (by have := HG1.out; omega) n0 HN0.out _ (fun g e => by rw [e]; exact Nat.lt_of_lt_of_le HCZ.out HDr.out.size) HCd.out HO.out (by have := HBd.out.1; omega) (fun t ht => by have := HBd.out.2 t ht; omega)).mono ?_
        rintro e w3 ⟨z, B, rfl, hr, ho, hz1, hz2, hb⟩
        have HB3 := Lib.hid (below_then' HDr.out hb HDr.out.size)
        have HX1 := Lib.hid (HX.out.next HB3.out)
        have HC3 := Lib.hid hr
        have HO3 := Lib.hid ho
        have HBd3 := Lib.hid (show Bnd (2 + 0 + 1) B by rw [← bnd_er, hz2]; exact bnd_turn _ _ _ (bnd_er.2 HBd.out))
        clear hr ho hb hz1 hz2 q0 q1 q2 q3 q4 q5 q6 q7 q8 q9 q10 q qn
        obtain ⟨⟨q0, q1, q2, q3, q4, q5, q6, q7, q8, q9, q10⟩, f0', f1', f2', f3', f4', f5', f6', f7', f8', f9', f10'⟩ := HX1.out.cells11
        go_wp2_with fail
        have hB4 := stored11_below w3 cb (Nat.le_refl _) (.string z.nm) (.int .i64 z.k) (.int .i64 z.c0) (.int .i64 z.c1) (.int .i64 z.c2) (.int .i64 z.c3) (.int .i64 z.col) (.int .i64 z.pow) (.int .i64 z.tou) (.int .i64 z.keys) (.slice z.aa z.an z.ac) (Below.refl cb w3)
        have HG4 := Lib.hid (show Gr w cb #[.int .u8 (f0 : Int), .int .u8 (f1 : Int), .int .u8 (f2 : Int)] #[.int .i64 n0, .int .i64 n1, .int .i64 n2] 1 _ from
          ⟨z, B, stored11 w3 cb _ _ _ _ _ _ _ _ _ _ _ _ (.string z.nm) (.int .i64 z.k) (.int .i64 z.c0) (.int .i64 z.c1) (.int .i64 z.c2) (.int .i64 z.c3) (.int .i64 z.col) (.int .i64 z.pow) (.int .i64 z.tou) (.int .i64 z.keys) (.slice z.aa z.an z.ac) HX1.out,
            stored11_cdx (X := fun g => g = cb) w3 cb rfl z B (.string z.nm) (.int .i64 z.k) (.int .i64 z.c0) (.int .i64 z.c1) (.int .i64 z.c2) (.int .i64 z.c3) (.int .i64 z.col) (.int .i64 z.pow) (.int .i64 z.tou) (.int .i64 z.keys) (.slice z.aa z.an z.ac) HC3.out, HO3.out, HBd3.out,
            (HFF.out.next HB3.out).low hB4 (by have := HZ.out; omega), (HNN.out.next HB3.out).low hB4 (by have := HZ.out; omega),
            stored11_below w3 cb (by have := HZ.out; omega) (.string z.nm) (.int .i64 z.k) (.int .i64 z.c0) (.int .i64 z.c1) (.int .i64 z.c2) (.int .i64 z.c3) (.int .i64 z.col) (.int .i64 z.pow) (.int .i64 z.tou) (.int .i64 z.keys) (.slice z.aa z.an z.ac) (HWW.out.trans (HB3.out.mono HWW.out.size))⟩)
        clear hB4 f0' f1' f2' f3' f4' f5' f6' f7' f8' f9' f10' q0 q1 q2 q3 q4 q5 q6 q7 q8 q9 q10
        go_roundw
        case rel => exact .inr (.inl ⟨rfl, HG4.out⟩)
        case measure => simp [intOf]
      · have HG4 := Lib.hid (show Gr w cb #[.int .u8 (f0 : Int), .int .u8 (f1 : Int), .int .u8 (f2 : Int)] #[.int .i64 n0, .int .i64 n1, .int .i64 n2] 1 wr from ⟨y, A, hX, hC, hO, hBd.up, hF, hNn, hW⟩)
        go_wp2_with fail
        go_roundw
        case rel => exact .inr (.inl ⟨rfl, HG4.out⟩)
        case measure => simp [intOf]
    · obtain ⟨y, A, hX, hC, hO, hBd, hF, hNn, hW⟩ := hg
      obtain ⟨g, hg⟩ : ∃ g, g = f1 % 30 := ⟨_, rfl⟩
      have e2 : (f1 : Int) % 30 = (g : Int) := by omega
      clear hg
      have q := hF.cell 1
      have qn := hNn.cell 1
      simp at q qn
      by_cases hg : g < 24
      · have HG1 := Lib.hid hg
        have hcz : cb < wr.heap.size := hX.lt
        have HCZ := Lib.hid hcz
        have HX := Lib.hid hX
        have HC := Lib.hid hC
        have HO := Lib.hid hO
        have HBd := Lib.hid hBd
        have HFF := Lib.hid hF
        have HNN := Lib.hid hNn
        have HWW := Lib.hid hW
        obtain ⟨⟨q0, q1, q2, q3, q4, q5, q6, q7, q8, q9, q10⟩, _⟩ := hX.cells11
        clear hX hC hO hBd hF hNn hW hcz
        go_wp2_with fail
        have hdr : Below wr.heap.size wr wr.drew := (Below.refl _ _).drew
        have HDr := Lib.hid hdr
        have HCd := Lib.hid (HC.out.next hdr)
        clear hdr
        go_still_tail 9, (by kernel_rfl)
        change wpList _ _ _ _ _ wr.drew
        generalize wr.drew = wd at *
        go_wp2_with fail
        rw [e2]
        refine (turned_any (fun g => g = cb) y A g (by have := HG1.out; omega) n1 HN1.out _ (fun g e => by rw [e]; exact Nat.lt_of_lt_of_le HCZ.out HDr.out.size) HCd.out HO.out (by have := HBd.out.1; omega) (fun t ht => by have := HBd.out.2 t ht; omega)).mono ?_
        rintro e w3 ⟨z, B, rfl, hr, ho, hz1, hz2, hb⟩
        have HB3 := Lib.hid (below_then' HDr.out hb HDr.out.size)
        have HX1 := Lib.hid (HX.out.next HB3.out)
        have HC3 := Lib.hid hr
        have HO3 := Lib.hid ho
        have HBd3 := Lib.hid (show Bnd (2 + 1 + 1) B by rw [← bnd_er, hz2]; exact bnd_turn _ _ _ (bnd_er.2 HBd.out))
        clear hr ho hb hz1 hz2 q0 q1 q2 q3 q4 q5 q6 q7 q8 q9 q10 q qn
        obtain ⟨⟨q0, q1, q2, q3, q4, q5, q6, q7, q8, q9, q10⟩, f0', f1', f2', f3', f4', f5', f6', f7', f8', f9', f10'⟩ := HX1.out.cells11
        go_wp2_with fail
        have hB4 := stored11_below w3 cb (Nat.le_refl _) (.string z.nm) (.int .i64 z.k) (.int .i64 z.c0) (.int .i64 z.c1) (.int .i64 z.c2) (.int .i64 z.c3) (.int .i64 z.col) (.int .i64 z.pow) (.int .i64 z.tou) (.int .i64 z.keys) (.slice z.aa z.an z.ac) (Below.refl cb w3)
        have HG4 := Lib.hid (show Gr w cb #[.int .u8 (f0 : Int), .int .u8 (f1 : Int), .int .u8 (f2 : Int)] #[.int .i64 n0, .int .i64 n1, .int .i64 n2] 2 _ from
          ⟨z, B, stored11 w3 cb _ _ _ _ _ _ _ _ _ _ _ _ (.string z.nm) (.int .i64 z.k) (.int .i64 z.c0) (.int .i64 z.c1) (.int .i64 z.c2) (.int .i64 z.c3) (.int .i64 z.col) (.int .i64 z.pow) (.int .i64 z.tou) (.int .i64 z.keys) (.slice z.aa z.an z.ac) HX1.out,
            stored11_cdx (X := fun g => g = cb) w3 cb rfl z B (.string z.nm) (.int .i64 z.k) (.int .i64 z.c0) (.int .i64 z.c1) (.int .i64 z.c2) (.int .i64 z.c3) (.int .i64 z.col) (.int .i64 z.pow) (.int .i64 z.tou) (.int .i64 z.keys) (.slice z.aa z.an z.ac) HC3.out, HO3.out, HBd3.out,
            (HFF.out.next HB3.out).low hB4 (by have := HZ.out; omega), (HNN.out.next HB3.out).low hB4 (by have := HZ.out; omega),
            stored11_below w3 cb (by have := HZ.out; omega) (.string z.nm) (.int .i64 z.k) (.int .i64 z.c0) (.int .i64 z.c1) (.int .i64 z.c2) (.int .i64 z.c3) (.int .i64 z.col) (.int .i64 z.pow) (.int .i64 z.tou) (.int .i64 z.keys) (.slice z.aa z.an z.ac) (HWW.out.trans (HB3.out.mono HWW.out.size))⟩)
        clear hB4 f0' f1' f2' f3' f4' f5' f6' f7' f8' f9' f10' q0 q1 q2 q3 q4 q5 q6 q7 q8 q9 q10
        go_roundw
        case rel => exact .inr (.inr (.inl ⟨rfl, HG4.out⟩))
        case measure => simp [intOf]
      · have HG4 := Lib.hid (show Gr w cb #[.int .u8 (f0 : Int), .int .u8 (f1 : Int), .int .u8 (f2 : Int)] #[.int .i64 n0, .int .i64 n1, .int .i64 n2] 2 wr from ⟨y, A, hX, hC, hO, hBd.up, hF, hNn, hW⟩)
        go_wp2_with fail
        go_roundw
        case rel => exact .inr (.inr (.inl ⟨rfl, HG4.out⟩))
        case measure => simp [intOf]
    · obtain ⟨y, A, hX, hC, hO, hBd, hF, hNn, hW⟩ := hg
      obtain ⟨g, hg⟩ : ∃ g, g = f2 % 30 := ⟨_, rfl⟩
      have e2 : (f2 : Int) % 30 = (g : Int) := by omega
      clear hg
      have q := hF.cell 2
      have qn := hNn.cell 2
      simp at q qn
      by_cases hg : g < 24
      · have HG1 := Lib.hid hg
        have hcz : cb < wr.heap.size := hX.lt
        have HCZ := Lib.hid hcz
        have HX := Lib.hid hX
        have HC := Lib.hid hC
        have HO := Lib.hid hO
        have HBd := Lib.hid hBd
        have HFF := Lib.hid hF
        have HNN := Lib.hid hNn
        have HWW := Lib.hid hW
        obtain ⟨⟨q0, q1, q2, q3, q4, q5, q6, q7, q8, q9, q10⟩, _⟩ := hX.cells11
        clear hX hC hO hBd hF hNn hW hcz
        go_wp2_with fail
        have hdr : Below wr.heap.size wr wr.drew := (Below.refl _ _).drew
        have HDr := Lib.hid hdr
        have HCd := Lib.hid (HC.out.next hdr)
        clear hdr
        go_still_tail 9, (by kernel_rfl)
        change wpList _ _ _ _ _ wr.drew
        generalize wr.drew = wd at *
        go_wp2_with fail
        rw [e2]
        refine (turned_any (fun g => g = cb) y A g (by have := HG1.out; omega) n2 HN2.out _ (fun g e => by rw [e]; exact Nat.lt_of_lt_of_le HCZ.out HDr.out.size) HCd.out HO.out (by have := HBd.out.1; omega) (fun t ht => by have := HBd.out.2 t ht; omega)).mono ?_
        rintro e w3 ⟨z, B, rfl, hr, ho, hz1, hz2, hb⟩
        have HB3 := Lib.hid (below_then' HDr.out hb HDr.out.size)
        have HX1 := Lib.hid (HX.out.next HB3.out)
        have HC3 := Lib.hid hr
        have HO3 := Lib.hid ho
        have HBd3 := Lib.hid (show Bnd (2 + 2 + 1) B by rw [← bnd_er, hz2]; exact bnd_turn _ _ _ (bnd_er.2 HBd.out))
        clear hr ho hb hz1 hz2 q0 q1 q2 q3 q4 q5 q6 q7 q8 q9 q10 q qn
        obtain ⟨⟨q0, q1, q2, q3, q4, q5, q6, q7, q8, q9, q10⟩, f0', f1', f2', f3', f4', f5', f6', f7', f8', f9', f10'⟩ := HX1.out.cells11
        go_wp2_with fail
        have hB4 := stored11_below w3 cb (Nat.le_refl _) (.string z.nm) (.int .i64 z.k) (.int .i64 z.c0) (.int .i64 z.c1) (.int .i64 z.c2) (.int .i64 z.c3) (.int .i64 z.col) (.int .i64 z.pow) (.int .i64 z.tou) (.int .i64 z.keys) (.slice z.aa z.an z.ac) (Below.refl cb w3)
        have HG4 := Lib.hid (show Gr w cb #[.int .u8 (f0 : Int), .int .u8 (f1 : Int), .int .u8 (f2 : Int)] #[.int .i64 n0, .int .i64 n1, .int .i64 n2] 3 _ from
          ⟨z, B, stored11 w3 cb _ _ _ _ _ _ _ _ _ _ _ _ (.string z.nm) (.int .i64 z.k) (.int .i64 z.c0) (.int .i64 z.c1) (.int .i64 z.c2) (.int .i64 z.c3) (.int .i64 z.col) (.int .i64 z.pow) (.int .i64 z.tou) (.int .i64 z.keys) (.slice z.aa z.an z.ac) HX1.out,
            stored11_cdx (X := fun g => g = cb) w3 cb rfl z B (.string z.nm) (.int .i64 z.k) (.int .i64 z.c0) (.int .i64 z.c1) (.int .i64 z.c2) (.int .i64 z.c3) (.int .i64 z.col) (.int .i64 z.pow) (.int .i64 z.tou) (.int .i64 z.keys) (.slice z.aa z.an z.ac) HC3.out, HO3.out, HBd3.out,
            (HFF.out.next HB3.out).low hB4 (by have := HZ.out; omega), (HNN.out.next HB3.out).low hB4 (by have := HZ.out; omega),
            stored11_below w3 cb (by have := HZ.out; omega) (.string z.nm) (.int .i64 z.k) (.int .i64 z.c0) (.int .i64 z.c1) (.int .i64 z.c2) (.int .i64 z.c3) (.int .i64 z.col) (.int .i64 z.pow) (.int .i64 z.tou) (.int .i64 z.keys) (.slice z.aa z.an z.ac) (HWW.out.trans (HB3.out.mono HWW.out.size))⟩)
        clear hB4 f0' f1' f2' f3' f4' f5' f6' f7' f8' f9' f10' q0 q1 q2 q3 q4 q5 q6 q7 q8 q9 q10
        go_roundw
        case rel => exact .inr (.inr (.inr ⟨rfl, HG4.out⟩))
        case measure => simp [intOf]
      · have HG4 := Lib.hid (show Gr w cb #[.int .u8 (f0 : Int), .int .u8 (f1 : Int), .int .u8 (f2 : Int)] #[.int .i64 n0, .int .i64 n1, .int .i64 n2] 3 wr from ⟨y, A, hX, hC, hO, hBd.up, hF, hNn, hW⟩)
        go_wp2_with fail
        go_roundw
        case rel => exact .inr (.inr (.inr ⟨rfl, HG4.out⟩))
        case measure => simp [intOf]
    · obtain ⟨y, A, hX, hC, hO, hBd, hF, hNn, hW⟩ := hg
      clear hBd hF hNn
      have HX := Lib.hid hX
      have HC := Lib.hid hC
      have HO := Lib.hid hO
      have HW := Lib.hid hW
      have HTs := Lib.hid (HT.out.next hW)
      obtain ⟨⟨q0, q1, q2, q3, q4, q5, q6, q7, q8, q9, q10⟩, _⟩ := hX.cells11
      clear hX hC hO hW
      obtain ⟨r, hr⟩ : ∃ r, chkC y A 1 = r := ⟨_, rfl⟩
      have HR := Lib.hid hr
      have hcas : r = 0 ∨ r = 3 ∨ r = 2 ∨ r = 10 := by rw [← hr]; exact chkC_cas y A 1
      clear hr
      go_wp2_with fail
      generalize wr = ws at *
      refine (cardCheck_any y A 1 r HR.out _ HC.out.now HO.out HTs.out).mono ?_
      rintro e w2 ⟨rfl, hb⟩
      have HX2 := Lib.hid (HX.out.next hb)
      have HC2 := Lib.hid (HC.out.next hb)
      have HT2 := Lib.hid (HTs.out.next hb)
      have HW2 := Lib.hid (HW.out.trans (hb.mono HW.out.size))
      clear hb
      have hr := HR.out
      clear HR
      rcases hcas with rfl | rfl | rfl | rfl
      · have HR := Lib.hid hr
        clear hr
        go_wp2_with fail
        clear q0 q1 q2 q3 q4 q5 q6 q7 q8 q9 q10
        go_loopw [10] (fun q wr => (q = .int .i64 2 ∨ q = .int .i64 21 ∨ q = .int .i64 40 ∨ q = .int .i64 59) ∧ Below w2.heap.size w2 wr) (fun q _ => 100 - (intOf q).toNat)
        case atStart => exact ⟨.inl rfl, Below.refl _ _⟩
        case round =>
          obtain ⟨hq, hbw⟩ := hrel
          have HB3 := Lib.hid hbw
          clear hbw
          obtain ⟨⟨q0, q1, q2, q3, q4, q5, q6, q7, q8, q9, q10⟩, _⟩ := (HX2.out.next HB3.out).cells11
          rcases hq with rfl | rfl | rfl | rfl
          · go_wp2_with fail
            refine (cardCheck_any y A 2 0 (chkC_more y A 2 (by omega) (by omega) HR.out) _ (HC2.out.next HB3.out).now HO.out (HT2.out.next HB3.out)).mono ?_
            rintro e w3 ⟨rfl, hb⟩
            have HB4 := Lib.hid (below_then' HB3.out hb HB3.out.size)
            clear hb q0 q1 q2 q3 q4 q5 q6 q7 q8 q9 q10
            go_wp2_with fail
            go_roundw
            case rel => exact ⟨.inr (.inl rfl), HB4.out⟩
            case measure => simp [intOf]
          · go_wp2_with fail
            refine (cardCheck_any y A 21 0 (chkC_more y A 21 (by omega) (by omega) HR.out) _ (HC2.out.next HB3.out).now HO.out (HT2.out.next HB3.out)).mono ?_
            rintro e w3 ⟨rfl, hb⟩
            have HB4 := Lib.hid (below_then' HB3.out hb HB3.out.size)
            clear hb q0 q1 q2 q3 q4 q5 q6 q7 q8 q9 q10
            go_wp2_with fail
            go_roundw
            case rel => exact ⟨.inr (.inr (.inl rfl)), HB4.out⟩
            case measure => simp [intOf]
          · go_wp2_with fail
            refine (cardCheck_any y A 40 0 (chkC_more y A 40 (by omega) (by omega) HR.out) _ (HC2.out.next HB3.out).now HO.out (HT2.out.next HB3.out)).mono ?_
            rintro e w3 ⟨rfl, hb⟩
            have HB4 := Lib.hid (below_then' HB3.out hb HB3.out.size)
            clear hb q0 q1 q2 q3 q4 q5 q6 q7 q8 q9 q10
            go_wp2_with fail
            go_roundw
            case rel => exact ⟨.inr (.inr (.inr rfl)), HB4.out⟩
            case measure => simp [intOf]
          · by_cases hk3 : y.k = 3
            · go_wp2_with fail
              refine (works_any _ (HT2.out.next HB3.out)).mono ?_
              rintro e w3 ⟨rfl, hb⟩
              have HB4 := Lib.hid (below_then' HB3.out hb HB3.out.size)
              clear hb
              go_wp2_with fail
              go_ret
              exact ⟨rfl, HW2.out.trans (HB4.out.mono HW2.out.size)⟩
            · have HK := Lib.hid (show (y.k == 3) = false by simpa using hk3)
              go_wp2_with fail
              clear q0 q1 q2 q3 q4 q5 q6 q7 q8 q9 q10 hk3
              have HB5 := Lib.hid (below_alloc1 wr (.cells #[.string y.nm, .int .i64 y.k, .int .i64 y.c0, .int .i64 y.c1, .int .i64 y.c2, .int .i64 y.c3, .int .i64 y.col, .int .i64 y.pow, .int .i64 y.tou, .int .i64 y.keys, .slice none 0 0] 26))
              have HX5 := Lib.hid (blkAt_new wr #[.string y.nm, .int .i64 y.k, .int .i64 y.c0, .int .i64 y.c1, .int .i64 y.c2, .int .i64 y.c3, .int .i64 y.col, .int .i64 y.pow, .int .i64 y.tou, .int .i64 y.keys, .slice none 0 0] 26)
              have HT5 := Lib.hid ((HT2.out.next HB3.out).next HB5.out)
              generalize wr.alloc (.cells #[.string y.nm, .int .i64 y.k, .int .i64 y.c0, .int .i64 y.c1, .int .i64 y.c2, .int .i64 y.c3, .int .i64 y.col, .int .i64 y.pow, .int .i64 y.tou, .int .i64 y.keys, .slice none 0 0] 26) = V at *
              generalize wr = wd at *
              refine (cardCheck_any { y with aa := none, an := 0, ac := 0 } [] 1 0 (chkC_some y A HR.out HK.out [] (by simp) none 0 0 (by omega)) _ ⟨rfl, IsA.nil _⟩ ⟨HO.out.1, HO.out.2⟩ HT5.out).mono ?_
              rintro e w3 ⟨rfl, hb⟩
              have HB6 := Lib.hid (below_then' HB5.out hb HB5.out.size)
              have HX6 := Lib.hid (HX5.out.next hb)
              clear hb
              go_wp2_with fail
              go_loopw [13] (fun q wr => ∃ j : Nat, q = .int .i64 (j : Int) ∧ j ≤ y.an ∧ (∃ v, BlkAt wr wd.heap.size #[.string y.nm, .int .i64 y.k, .int .i64 y.c0, .int .i64 y.c1, .int .i64 y.c2, .int .i64 y.c3, .int .i64 y.col, .int .i64 y.pow, .int .i64 y.tou, .int .i64 y.keys, v] 26) ∧ Below wd.heap.size wd wr) (fun q _ => y.an - (intOf q).toNat)
              case atStart => exact ⟨0, rfl, Nat.zero_le _, ⟨_, HX6.out⟩, HB6.out⟩
              case round =>
                obtain ⟨j, rfl, hj, ⟨v, hX⟩, hbw⟩ := hrel
                have HB7 := Lib.hid (below_then' HB3.out hbw HB3.out.size)
                have HBd := Lib.hid hbw
                have HXd := Lib.hid hX
                clear hbw hX
                obtain ⟨⟨q0, q1, q2, q3, q4, q5, q6, q7, q8, q9, q10⟩, _⟩ := (HX2.out.next HB7.out).cells11
                by_cases hlt : j < y.an
                · have hcd := (HC2.out.next HB7.out).now
                  have hln := hcd.1
                  obtain ⟨b, off, x, T, L, hx, _, hta, hbl, _⟩ := hcd.2.at j (by rw [hln]; exact hlt)
                  have hcap : y.an ≤ y.ac := by rw [← hln]; exact hcd.2.1
                  have hcm := hcd.2.2.1
                  have HCd := Lib.hid hcd
                  have HTA := Lib.hid hta
                  rw [hta] at q10
                  clear hx hta hln hcd
                  obtain ⟨⟨d0, d1, d2, d3, d4, d5, d6, d7, d8, d9, d10⟩, f0', f1', f2', f3', f4', f5', f6', f7', f8', f9', f10'⟩ := HXd.out.cells11
                  go_wp2_with fail
                  have HBs := Lib.hid (HBd.out.setCell (p := ⟨wd.heap.size, 10, none⟩) (Nat.le_refl _) (.slice (some ⟨b, off + j * 13, none⟩) 1 (y.ac - j)))
                  have HXs := Lib.hid (show BlkAt (wr.setCell ⟨wd.heap.size, 10, none⟩ (.slice (some ⟨b, off + j * 13, none⟩) 1 (y.ac - j))) wd.heap.size #[.string y.nm, .int .i64 y.k, .int .i64 y.c0, .int .i64 y.c1, .int .i64 y.c2, .int .i64 y.c3, .int .i64 y.col, .int .i64 y.pow, .int .i64 y.tou, .int .i64 y.keys, .slice (some ⟨b, off + j * 13, none⟩) 1 (y.ac - j)] 26 by simpa using HXd.out.set' 10 (.slice (some ⟨b, off + j * 13, none⟩) 1 (y.ac - j)))
                  have HCs := Lib.hid ((HC2.out.next (below_then' HB3.out HBs.out HB3.out.size)).now)
                  have HT9 := Lib.hid (HT2.out.next (below_then' HB3.out HBs.out HB3.out.size))
                  generalize wr.setCell ⟨wd.heap.size, 10, none⟩ (.slice (some ⟨b, off + j * 13, none⟩) 1 (y.ac - j)) = V3 at *
                  obtain ⟨t, ht⟩ : ∃ t, A[j]? = some t := ⟨A[j]'(by rw [HCs.out.1]; exact hlt), by simp⟩
                  have HA := Lib.hid (isA_sub (HTA.out ▸ HCs.out.2) ht)
                  have HM := Lib.hid (List.mem_of_getElem? ht)
                  clear ht
                  refine (cardCheck_any { y with aa := some ⟨b, off + j * 13, none⟩, an := 1, ac := y.ac - j } [t] 1 0 (chkC_some y A HR.out HK.out [t] (fun u hu => by rw [List.mem_singleton.1 hu]; exact HM.out) _ 1 _ (by omega)) _ ⟨rfl, HA.out⟩ ⟨HO.out.1, HO.out.2⟩ HT9.out).mono ?_
                  rintro e w4 ⟨rfl, hb⟩
                  have HB9 := Lib.hid (below_then' HBs.out hb HBs.out.size)
                  have HX9 := Lib.hid (HXs.out.next hb)
                  clear hb q0 q1 q2 q3 q4 q5 q6 q7 q8 q9 q10 d0 d1 d2 d3 d4 d5 d6 d7 d8 d9 d10 f0' f1' f2' f3' f4' f5' f6' f7' f8' f9' f10'
                  go_wp2_with fail
                  go_roundw
                  case rel => exact ⟨j + 1, by go_num, by omega, ⟨_, HX9.out⟩, HB9.out⟩
                  case measure => simp [intOf]; omega
                · go_wp2_with fail
                  refine (works_any _ (HT2.out.next HB7.out)).mono ?_
                  rintro e w4 ⟨rfl, hb⟩
                  have HB8 := Lib.hid (below_then' HB7.out hb HB7.out.size)
                  clear hb
                  go_wp2_with fail
                  go_ret
                  exact ⟨rfl, HW2.out.trans (HB8.out.mono HW2.out.size)⟩
      · have HR := Lib.hid hr
        clear hr
        go_wp2_with fail
        clear q0 q1 q2 q3 q4 q5 q6 q7 q8 q9 q10
        go_loopw [10] (fun q wr => (q = .int .i64 2 ∨ q = .int .i64 21 ∨ q = .int .i64 40 ∨ q = .int .i64 59) ∧ Below w2.heap.size w2 wr) (fun q _ => 100 - (intOf q).toNat)
        case atStart => exact ⟨.inl rfl, Below.refl _ _⟩
        case round =>
          obtain ⟨hq, hbw⟩ := hrel
          have HB3 := Lib.hid hbw
          clear hbw
          obtain ⟨⟨q0, q1, q2, q3, q4, q5, q6, q7, q8, q9, q10⟩, _⟩ := (HX2.out.next HB3.out).cells11
          rcases hq with rfl | rfl | rfl | rfl
          · go_wp2_with fail
            refine (cardCheck_any y A 2 3 (chkC_long y A 2 (by omega) (by omega) HR.out) _ (HC2.out.next HB3.out).now HO.out (HT2.out.next HB3.out)).mono ?_
            rintro e w3 ⟨rfl, hb⟩
            have HB4 := Lib.hid (below_then' HB3.out hb HB3.out.size)
            clear hb q0 q1 q2 q3 q4 q5 q6 q7 q8 q9 q10
            go_wp2_with fail
            go_roundw
            case rel => exact ⟨.inr (.inl rfl), HB4.out⟩
            case measure => simp [intOf]
          · go_wp2_with fail
            refine (cardCheck_any y A 21 3 (chkC_long y A 21 (by omega) (by omega) HR.out) _ (HC2.out.next HB3.out).now HO.out (HT2.out.next HB3.out)).mono ?_
            rintro e w3 ⟨rfl, hb⟩
            have HB4 := Lib.hid (below_then' HB3.out hb HB3.out.size)
            clear hb q0 q1 q2 q3 q4 q5 q6 q7 q8 q9 q10
            go_wp2_with fail
            go_roundw
            case rel => exact ⟨.inr (.inr (.inl rfl)), HB4.out⟩
            case measure => simp [intOf]
          · go_wp2_with fail
            refine (cardCheck_any y A 40 3 (chkC_long y A 40 (by omega) (by omega) HR.out) _ (HC2.out.next HB3.out).now HO.out (HT2.out.next HB3.out)).mono ?_
            rintro e w3 ⟨rfl, hb⟩
            have HB4 := Lib.hid (below_then' HB3.out hb HB3.out.size)
            clear hb q0 q1 q2 q3 q4 q5 q6 q7 q8 q9 q10
            go_wp2_with fail
            go_roundw
            case rel => exact ⟨.inr (.inr (.inr rfl)), HB4.out⟩
            case measure => simp [intOf]
          · go_wp2_with fail
            refine (works_any _ (HT2.out.next HB3.out)).mono ?_
            rintro e w3 ⟨rfl, hb⟩
            have HB4 := Lib.hid (below_then' HB3.out hb HB3.out.size)
            clear hb
            go_wp2_with fail
            go_ret
            exact ⟨rfl, HW2.out.trans (HB4.out.mono HW2.out.size)⟩
      · have HR := Lib.hid hr
        clear hr
        go_wp2_with fail
        clear q0 q1 q2 q3 q4 q5 q6 q7 q8 q9 q10
        go_loopw [10] (fun q wr => (q = .int .i64 2 ∨ q = .int .i64 21 ∨ q = .int .i64 40 ∨ q = .int .i64 59) ∧ Below w2.heap.size w2 wr) (fun q _ => 100 - (intOf q).toNat)
        case atStart => exact ⟨.inl rfl, Below.refl _ _⟩
        case round =>
          obtain ⟨hq, hbw⟩ := hrel
          have HB3 := Lib.hid hbw
          clear hbw
          obtain ⟨⟨q0, q1, q2, q3, q4, q5, q6, q7, q8, q9, q10⟩, _⟩ := (HX2.out.next HB3.out).cells11
          rcases hq with rfl | rfl | rfl | rfl
          · go_wp2_with fail
            refine (cardCheck_any y A 2 (chkC y A 2) rfl _ (HC2.out.next HB3.out).now HO.out (HT2.out.next HB3.out)).mono ?_
            rintro e w3 ⟨rfl, hb⟩
            have HB4 := Lib.hid (below_then' HB3.out hb HB3.out.size)
            clear hb q0 q1 q2 q3 q4 q5 q6 q7 q8 q9 q10
            generalize chkC y A 2 = r2
            go_wp2_with fail
            go_roundw
            case rel => exact ⟨.inr (.inl rfl), HB4.out⟩
            case measure => simp [intOf]
          · go_wp2_with fail
            refine (cardCheck_any y A 21 (chkC y A 21) rfl _ (HC2.out.next HB3.out).now HO.out (HT2.out.next HB3.out)).mono ?_
            rintro e w3 ⟨rfl, hb⟩
            have HB4 := Lib.hid (below_then' HB3.out hb HB3.out.size)
            clear hb q0 q1 q2 q3 q4 q5 q6 q7 q8 q9 q10
            generalize chkC y A 21 = r2
            go_wp2_with fail
            go_roundw
            case rel => exact ⟨.inr (.inr (.inl rfl)), HB4.out⟩
            case measure => simp [intOf]
          · go_wp2_with fail
            refine (cardCheck_any y A 40 (chkC y A 40) rfl _ (HC2.out.next HB3.out).now HO.out (HT2.out.next HB3.out)).mono ?_
            rintro e w3 ⟨rfl, hb⟩
            have HB4 := Lib.hid (below_then' HB3.out hb HB3.out.size)
            clear hb q0 q1 q2 q3 q4 q5 q6 q7 q8 q9 q10
            generalize chkC y A 40 = r2
            go_wp2_with fail
            go_roundw
            case rel => exact ⟨.inr (.inr (.inr rfl)), HB4.out⟩
            case measure => simp [intOf]
          · go_wp2_with fail
            refine (works_any _ (HT2.out.next HB3.out)).mono ?_
            rintro e w3 ⟨rfl, hb⟩
            have HB4 := Lib.hid (below_then' HB3.out hb HB3.out.size)
            clear hb
            go_wp2_with fail
            go_ret
            exact ⟨rfl, HW2.out.trans (HB4.out.mono HW2.out.size)⟩
      · have HR := Lib.hid hr
        clear hr
        go_wp2_with fail
        clear q0 q1 q2 q3 q4 q5 q6 q7 q8 q9 q10
        go_loopw [10] (fun q wr => (q = .int .i64 2 ∨ q = .int .i64 21 ∨ q = .int .i64 40 ∨ q = .int .i64 59) ∧ Below w2.heap.size w2 wr) (fun q _ => 100 - (intOf q).toNat)
        case atStart => exact ⟨.inl rfl, Below.refl _ _⟩
        case round =>
          obtain ⟨hq, hbw⟩ := hrel
          have HB3 := Lib.hid hbw
          clear hbw
          obtain ⟨⟨q0, q1, q2, q3, q4, q5, q6, q7, q8, q9, q10⟩, _⟩ := (HX2.out.next HB3.out).cells11
          rcases hq with rfl | rfl | rfl | rfl
          · go_wp2_with fail
            refine (cardCheck_any y A 2 (chkC y A 2) rfl _ (HC2.out.next HB3.out).now HO.out (HT2.out.next HB3.out)).mono ?_
            rintro e w3 ⟨rfl, hb⟩
            have HB4 := Lib.hid (below_then' HB3.out hb HB3.out.size)
            clear hb q0 q1 q2 q3 q4 q5 q6 q7 q8 q9 q10
            generalize chkC y A 2 = r2
            go_wp2_with fail
            go_roundw
            case rel => exact ⟨.inr (.inl rfl), HB4.out⟩
            case measure => simp [intOf]
          · go_wp2_with fail
            refine (cardCheck_any y A 21 (chkC y A 21) rfl _ (HC2.out.next HB3.out).now HO.out (HT2.out.next HB3.out)).mono ?_
            rintro e w3 ⟨rfl, hb⟩
            have HB4 := Lib.hid (below_then' HB3.out hb HB3.out.size)
            clear hb q0 q1 q2 q3 q4 q5 q6 q7 q8 q9 q10
            generalize chkC y A 21 = r2
            go_wp2_with fail
            go_roundw
            case rel => exact ⟨.inr (.inr (.inl rfl)), HB4.out⟩
            case measure => simp [intOf]
          · go_wp2_with fail
            refine (cardCheck_any y A 40 (chkC y A 40) rfl _ (HC2.out.next HB3.out).now HO.out (HT2.out.next HB3.out)).mono ?_
            rintro e w3 ⟨rfl, hb⟩
            have HB4 := Lib.hid (below_then' HB3.out hb HB3.out.size)
            clear hb q0 q1 q2 q3 q4 q5 q6 q7 q8 q9 q10
            generalize chkC y A 40 = r2
            go_wp2_with fail
            go_roundw
            case rel => exact ⟨.inr (.inr (.inr rfl)), HB4.out⟩
            case measure => simp [intOf]
          · go_wp2_with fail
            refine (works_any _ (HT2.out.next HB3.out)).mono ?_
            rintro e w3 ⟨rfl, hb⟩
            have HB4 := Lib.hid (below_then' HB3.out hb HB3.out.size)
            clear hb
            go_wp2_with fail
            go_ret
            exact ⟨rfl, HW2.out.trans (HB4.out.mono HW2.out.size)⟩
end Go.Proofs.YtfhmadlobdklbaaDoor
