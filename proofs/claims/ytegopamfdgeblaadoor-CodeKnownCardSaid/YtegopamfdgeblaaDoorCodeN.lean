/- The document's Text. -/
import Derived.Test.YtegopamfdgeblaaDoorCodeM
import Derived.Deep.WholeRow
namespace Go.Proofs.YtegopamfdgeblaaDoor
open Go.RowKit
set_option linter.unusedVariables false
set_option linter.unusedSimpArgs false

/-- The document's own table of words, in block g. -/
def OwnWords (w : World) (g : Nat) : Prop := g < w.heap.size ∧ ∀ j, 1 ≤ j → j ≤ 24 → w.cell? ⟨g, j, none⟩ = some (.string (bytesS (wordTab.getD j [])))
theorem OwnWords.next {w w' : World} {g : Nat} (h : OwnWords w g) (b : Below w.heap.size w w') : OwnWords w' g :=
  ⟨Nat.lt_of_lt_of_le h.1 b.size, fun j h1 h2 => (b.cell (p := ⟨g, j, none⟩) h.1).trans (h.2 j h1 h2)⟩
theorem ownWords_new (w : World) : OwnWords (w.alloc (.cells #[.string ⟨#[63]⟩, .string ⟨#[110, 117, 109]⟩, .string ⟨#[97, 100, 100]⟩, .string ⟨#[115, 117, 98]⟩, .string ⟨#[109, 117, 108]⟩, .string ⟨#[108, 101, 115, 115]⟩, .string ⟨#[99, 111, 117, 110, 116]⟩, .string ⟨#[108, 105, 102, 101]⟩, .string ⟨#[106, 117, 109, 112]⟩, .string ⟨#[122, 101, 114, 111]⟩, .string ⟨#[104, 117, 114, 116]⟩, .string ⟨#[103, 97, 105, 110]⟩, .string ⟨#[100, 114, 97, 119]⟩, .string ⟨#[107, 105, 108, 108]⟩, .string ⟨#[98, 111, 117, 110, 99, 101]⟩, .string ⟨#[98, 97, 110, 105, 115, 104]⟩, .string ⟨#[112, 117, 109, 112]⟩, .string ⟨#[103, 114, 97, 110, 116]⟩, .string ⟨#[116, 97, 112]⟩, .string ⟨#[117, 110, 116, 97, 112]⟩, .string ⟨#[99, 111, 117, 110, 116, 101, 114]⟩, .string ⟨#[116, 111, 107, 101, 110]⟩, .string ⟨#[109, 97, 110, 97]⟩, .string ⟨#[114, 111, 108, 108]⟩, .string ⟨#[101, 110, 100]⟩] 52)) w.heap.size := by
  refine ⟨by simp, fun j h1 h2 => ?_⟩
  rw [World.cell?_alloc_new]
  have : ∀ j : Fin 25, 1 ≤ j.val → (#[.string ⟨#[63]⟩, .string ⟨#[110, 117, 109]⟩, .string ⟨#[97, 100, 100]⟩, .string ⟨#[115, 117, 98]⟩, .string ⟨#[109, 117, 108]⟩, .string ⟨#[108, 101, 115, 115]⟩, .string ⟨#[99, 111, 117, 110, 116]⟩, .string ⟨#[108, 105, 102, 101]⟩, .string ⟨#[106, 117, 109, 112]⟩, .string ⟨#[122, 101, 114, 111]⟩, .string ⟨#[104, 117, 114, 116]⟩, .string ⟨#[103, 97, 105, 110]⟩, .string ⟨#[100, 114, 97, 119]⟩, .string ⟨#[107, 105, 108, 108]⟩, .string ⟨#[98, 111, 117, 110, 99, 101]⟩, .string ⟨#[98, 97, 110, 105, 115, 104]⟩, .string ⟨#[112, 117, 109, 112]⟩, .string ⟨#[103, 114, 97, 110, 116]⟩, .string ⟨#[116, 97, 112]⟩, .string ⟨#[117, 110, 116, 97, 112]⟩, .string ⟨#[99, 111, 117, 110, 116, 101, 114]⟩, .string ⟨#[116, 111, 107, 101, 110]⟩, .string ⟨#[109, 97, 110, 97]⟩, .string ⟨#[114, 111, 108, 108]⟩, .string ⟨#[101, 110, 100]⟩] : Array Value)[j.val]? = some (.string (bytesS (wordTab.getD j.val []))) := by
    intro j hj
    obtain ⟨j, h⟩ := j
    have : j = 1 ∨ j = 2 ∨ j = 3 ∨ j = 4 ∨ j = 5 ∨ j = 6 ∨ j = 7 ∨ j = 8 ∨ j = 9 ∨ j = 10 ∨ j = 11 ∨ j = 12 ∨ j = 13 ∨ j = 14 ∨ j = 15 ∨ j = 16 ∨ j = 17 ∨ j = 18 ∨ j = 19 ∨ j = 20 ∨ j = 21 ∨ j = 22 ∨ j = 23 ∨ j = 24 := by simp at hj; omega
    rcases this with rfl | rfl | rfl | rfl | rfl | rfl | rfl | rfl | rfl | rfl | rfl | rfl | rfl | rfl | rfl | rfl | rfl | rfl | rfl | rfl | rfl | rfl | rfl | rfl <;> rfl
  exact this ⟨j, by omega⟩ h1
theorem keep_cell {w w' : World} {p : Addr} {v : Value} (b : Below w.heap.size w w') (h : w.cell? p = some v) : w'.cell? p = some v := (b.cell (World.block_lt_of_cell? w _ h)).trans h
theorem nums_none (a b : ByteArray) : a ++ bytesS [] ++ b = a ++ b := by
  rw [show bytesS [] = ByteArray.empty from rfl, ByteArray.append_empty]
theorem nums_one (n : Int) : bytesS (nums [n]) = ⟨#[32]⟩ ++ bytesS (Lib.itoa n) := by
  rw [show nums [n] = [32] ++ Lib.itoa n by simp [nums], bytesS_append]; rfl
theorem nums_two (n m : Int) : bytesS (nums [n, m]) = ⟨#[32]⟩ ++ bytesS (Lib.itoa n) ++ ⟨#[32]⟩ ++ bytesS (Lib.itoa m) := by
  rw [show nums [n, m] = [32] ++ Lib.itoa n ++ ([32] ++ Lib.itoa m) by simp [nums], bytesS_append, bytesS_append, bytesS_append]
  simp only [ByteArray.append_assoc]; rfl
set_option maxRecDepth 100000 in
set_option maxHeartbeats 4000000 in
theorem refText_any (a : Option Addr) (cap : Nat) (L : List Ins) (w : World) (h : IsC w a cap L) (hr : InR L) (hn : L.length ≤ 1000) :
    Calls Tryd.prog 16 #[.slice a L.length cap] w fun e w' => e = .returned (.string (bytesS (textL L))) ∧ Below w.heap.size w w' := by
  have b0 := below_alloc1 w (.cells #[.string ⟨#[63]⟩, .string ⟨#[110, 117, 109]⟩, .string ⟨#[97, 100, 100]⟩, .string ⟨#[115, 117, 98]⟩, .string ⟨#[109, 117, 108]⟩, .string ⟨#[108, 101, 115, 115]⟩, .string ⟨#[99, 111, 117, 110, 116]⟩, .string ⟨#[108, 105, 102, 101]⟩, .string ⟨#[106, 117, 109, 112]⟩, .string ⟨#[122, 101, 114, 111]⟩, .string ⟨#[104, 117, 114, 116]⟩, .string ⟨#[103, 97, 105, 110]⟩, .string ⟨#[100, 114, 97, 119]⟩, .string ⟨#[107, 105, 108, 108]⟩, .string ⟨#[98, 111, 117, 110, 99, 101]⟩, .string ⟨#[98, 97, 110, 105, 115, 104]⟩, .string ⟨#[112, 117, 109, 112]⟩, .string ⟨#[103, 114, 97, 110, 116]⟩, .string ⟨#[116, 97, 112]⟩, .string ⟨#[117, 110, 116, 97, 112]⟩, .string ⟨#[99, 111, 117, 110, 116, 101, 114]⟩, .string ⟨#[116, 111, 107, 101, 110]⟩, .string ⟨#[109, 97, 110, 97]⟩, .string ⟨#[114, 111, 108, 108]⟩, .string ⟨#[101, 110, 100]⟩] 52)
  have HL := Lib.hid (h.next b0)
  have HR := Lib.hid hr
  have HW := Lib.hid (ownWords_new w)
  have HB0 := Lib.hid b0
  have HLEN := Lib.hid (fun k => show (textL (L.take k)).length ≤ 60000 by
    have h1 := textL_len (L.take k) (hr.take k)
    have h2 := List.length_take_le k L
    rw [List.length_take] at h1
    omega)
  have HSTEP := Lib.hid (fun k h => textL_step L k h)
  have hcap := h.1
  have hcm := h.2.1
  obtain ⟨F, hF⟩ : ∃ F : Nat → List UInt8, ∀ k, textL (L.take k) = F k := ⟨_, fun _ => rfl⟩
  have HF0 := Lib.hid (show F 0 = [] by rw [← hF]; simp [textL])
  have HFN := Lib.hid (show textL L = F L.length by rw [← hF, List.take_length])
  simp only [hF] at HLEN HSTEP
  clear hF h hr b0
  go_enter Tryd.func16, Tryd.ntmps16
  go_wp2_with (refine wpList_store_row rfl 52 _ _ rfl w.heap.size _ rfl rfl 52 _ (heap_alloc_new _ _) ?hi ?hold ?h1 ?_)
  case hi => kernel_rfl
  case hold => rfl
  case h1 => kernel_rfl
  rw [World.setRow_alloc_new]
  generalize w.alloc (.cells #[.string ⟨#[63]⟩, .string ⟨#[110, 117, 109]⟩, .string ⟨#[97, 100, 100]⟩, .string ⟨#[115, 117, 98]⟩, .string ⟨#[109, 117, 108]⟩, .string ⟨#[108, 101, 115, 115]⟩, .string ⟨#[99, 111, 117, 110, 116]⟩, .string ⟨#[108, 105, 102, 101]⟩, .string ⟨#[106, 117, 109, 112]⟩, .string ⟨#[122, 101, 114, 111]⟩, .string ⟨#[104, 117, 114, 116]⟩, .string ⟨#[103, 97, 105, 110]⟩, .string ⟨#[100, 114, 97, 119]⟩, .string ⟨#[107, 105, 108, 108]⟩, .string ⟨#[98, 111, 117, 110, 99, 101]⟩, .string ⟨#[98, 97, 110, 105, 115, 104]⟩, .string ⟨#[112, 117, 109, 112]⟩, .string ⟨#[103, 114, 97, 110, 116]⟩, .string ⟨#[116, 97, 112]⟩, .string ⟨#[117, 110, 116, 97, 112]⟩, .string ⟨#[99, 111, 117, 110, 116, 101, 114]⟩, .string ⟨#[116, 111, 107, 101, 110]⟩, .string ⟨#[109, 97, 110, 97]⟩, .string ⟨#[114, 111, 108, 108]⟩, .string ⟨#[101, 110, 100]⟩] 52) = W0 at *
  -- THE LOOP
  go_loopw [4, 5] (fun t q wr => ∃ k : Nat, t = .string (bytesS (F k)) ∧ q = .int .i64 (k : Int) ∧ k ≤ L.length ∧ Below W0.heap.size W0 wr) (fun _ q _ => L.length - (intOf q).toNat)
  case atStart => exact ⟨0, by rw [HF0.out]; rfl, rfl, Nat.zero_le _, Below.refl _ _⟩
  case round =>
    obtain ⟨k, rfl, rfl, hk, hbw⟩ := hrel
    have HBW := Lib.hid hbw
    clear hbw
    have hTs : (bytesS (F k)).size ≤ 60000 := by rw [bytesS_size]; exact HLEN.out k
    by_cases hlt : k < L.length
    · obtain ⟨b, off, x, hx, rfl, x0, x1, x2⟩ := (HL.out.next HBW.out).at k hlt
      have HX := Lib.hid hx
      have hxr := HR.out x (by rw [hx]; exact List.getElem_mem hlt)
      have hws := wordL_len x.op
      rw [← bytesS_size] at hws
      have HDA := Lib.hid (fun W => digits_any x.a hxr.1 W)
      have hda : (bytesS (Lib.itoa x.a)).size ≤ 21 := by rw [bytesS_size]; exact Lib.itoa_length_le _ hxr.1.1 hxr.1.2
      have HDB := Lib.hid (fun W => digits_any x.b hxr.2 W)
      have hdb : (bytesS (Lib.itoa x.b)).size ≤ 21 := by rw [bytesS_size]; exact Lib.itoa_length_le _ hxr.2.1 hxr.2.2
      have HN := Lib.hid (show bytesS (F (k + 1)) = bytesS (F k) ++ bytesS (wordL x.op) ++ bytesS (nums (toldL x)) ++ ⟨#[10]⟩ by
        rw [HSTEP.out k hlt, ← hx]; simp only [lineL, bytesS_append]; simp only [ByteArray.append_assoc]; rfl)
      have HTD := Lib.hid (show toldL x = if x.b ≠ 0 then [x.a, x.b] else if x.a ≠ 0 then [x.a] else [] from rfl)
      have HOW := Lib.hid ((HW.out.next HBW.out).2)
      clear hx hxr
      obtain ⟨xo, xa, xb⟩ := x
      by_cases ho : 1 ≤ xo ∧ xo ≤ 24
      · obtain ⟨j, rfl⟩ : ∃ j : Nat, xo = (j : Int) := ⟨xo.toNat, by omega⟩
        have hwj := HOW.out j (by omega) (by omega)
        have HWE := Lib.hid (show wordL (j : Int) = wordTab.getD j [] by rw [wordL, if_pos ho]; rfl)
        rw [show wordL (Ins.op ⟨(j : Int), xa, xb⟩) = wordL (j : Int) from rfl, HWE.out] at HN hws
        obtain ⟨s0, hs0⟩ : ∃ s, s = bytesS (wordTab.getD j []) := ⟨_, rfl⟩
        rw [← hs0] at HN hws hwj
        clear hs0 HWE HOW
        obtain ⟨T, hT⟩ : ∃ T, T = bytesS (F k) := ⟨_, rfl⟩
        obtain ⟨da, hdaE⟩ : ∃ s, s = bytesS (Lib.itoa xa) := ⟨_, rfl⟩
        obtain ⟨db, hdbE⟩ : ∃ s, s = bytesS (Lib.itoa xb) := ⟨_, rfl⟩
        rw [← hT] at HN hTs ⊢
        rw [← hdaE] at HDA hda
        rw [← hdbE] at HDB hdb
        have HDAE := Lib.hid hdaE.symm
        have HDBE := Lib.hid hdbE.symm
        clear hT hdaE hdbE
        by_cases hb : xb = 0
        · by_cases ha : xa = 0
          · have HV := Lib.hid (show bytesS (F (k + 1)) = T ++ s0 ++ ⟨#[10]⟩ by
              rw [HN.out, HTD.out]
              rw [if_neg (by simp [hb]), if_neg (by simp [ha])]; simp only [nums, List.flatMap_nil]; exact nums_none _ _)
            go_wp2_with fail
            go_roundw
            case rel => exact ⟨k + 1, by rw [HV.out], by go_num, by omega, HBW.out⟩
            case measure => simp [intOf]; omega
          · have HV := Lib.hid (show bytesS (F (k + 1)) = T ++ s0 ++ ⟨#[32]⟩ ++ da ++ ⟨#[10]⟩ by
              rw [HN.out, HTD.out]
              rw [if_neg (by simp [hb]), if_pos ha]; simp only [nums_one, HDAE.out, ByteArray.append_assoc])
            go_wp2_with fail
            refine (HDA.out _).mono ?_
            rintro e w1 ⟨rfl, b1⟩
            have HB1 := Lib.hid (below_then' HBW.out b1 HBW.out.size)
            have y0 := keep_cell b1 x0
            have y1 := keep_cell b1 x1
            have y2 := keep_cell b1 x2
            clear b1 HDA x0 x1 x2
            go_wp2_with fail
            go_roundw
            case rel => exact ⟨k + 1, by rw [HV.out], by go_num, by omega, HB1.out⟩
            case measure => simp [intOf]; omega
        · rcases Decidable.em (xa = 0) with rfl | ha
          all_goals
            have HV := Lib.hid (show bytesS (F (k + 1)) = T ++ s0 ++ ⟨#[32]⟩ ++ da ++ ⟨#[32]⟩ ++ db ++ ⟨#[10]⟩ by
              rw [HN.out, HTD.out]
              rw [if_pos hb]; simp only [nums_two, HDAE.out, HDBE.out, ByteArray.append_assoc])
            go_wp2_with fail
            refine (HDA.out _).mono ?_
            rintro e w1 ⟨rfl, b1⟩
            have HB1 := Lib.hid (below_then' HBW.out b1 HBW.out.size)
            have y0 := keep_cell b1 x0
            have y1 := keep_cell b1 x1
            have y2 := keep_cell b1 x2
            clear b1 HDA x0 x1 x2
            go_wp2_with fail
            refine (HDB.out _).mono ?_
            rintro e w2 ⟨rfl, b2⟩
            have HB2 := Lib.hid (below_then' HB1.out b2 HB1.out.size)
            have z0 := keep_cell b2 y0
            have z1 := keep_cell b2 y1
            have z2 := keep_cell b2 y2
            clear b2 HDB HB1 y0 y1 y2
            go_wp2_with fail
            go_roundw
            case rel => exact ⟨k + 1, by rw [HV.out], by go_num, by omega, HB2.out⟩
            case measure => simp [intOf]; omega
      · have HWE := Lib.hid (show bytesS (wordL xo) = ⟨#[63]⟩ by rw [wordL, if_neg ho]; rfl)
        rw [show wordL (Ins.op ⟨xo, xa, xb⟩) = wordL xo from rfl, HWE.out] at HN hws
        clear HWE HOW
        rcases (show xo < 1 ∨ 24 < xo by omega) with hlow | hhigh
        all_goals
          obtain ⟨T, hT⟩ : ∃ T, T = bytesS (F k) := ⟨_, rfl⟩
          obtain ⟨da, hdaE⟩ : ∃ s, s = bytesS (Lib.itoa xa) := ⟨_, rfl⟩
          obtain ⟨db, hdbE⟩ : ∃ s, s = bytesS (Lib.itoa xb) := ⟨_, rfl⟩
          rw [← hT] at HN hTs ⊢
          rw [← hdaE] at HDA hda
          rw [← hdbE] at HDB hdb
          have HDAE := Lib.hid hdaE.symm
          have HDBE := Lib.hid hdbE.symm
          clear hT hdaE hdbE
          by_cases hb : xb = 0
          · by_cases ha : xa = 0
            · have HV := Lib.hid (show bytesS (F (k + 1)) = T ++ ⟨#[63]⟩ ++ ⟨#[10]⟩ by
                rw [HN.out, HTD.out]
                rw [if_neg (by simp [hb]), if_neg (by simp [ha])]; simp only [nums, List.flatMap_nil]; exact nums_none _ _)
              go_wp2_with fail
              go_roundw
              case rel => exact ⟨k + 1, by rw [HV.out], by go_num, by omega, HBW.out⟩
              case measure => simp [intOf]; omega
            · have HV := Lib.hid (show bytesS (F (k + 1)) = T ++ ⟨#[63]⟩ ++ ⟨#[32]⟩ ++ da ++ ⟨#[10]⟩ by
                rw [HN.out, HTD.out]
                rw [if_neg (by simp [hb]), if_pos ha]; simp only [nums_one, HDAE.out, ByteArray.append_assoc])
              go_wp2_with fail
              refine (HDA.out _).mono ?_
              rintro e w1 ⟨rfl, b1⟩
              have HB1 := Lib.hid (below_then' HBW.out b1 HBW.out.size)
              have y0 := keep_cell b1 x0
              have y1 := keep_cell b1 x1
              have y2 := keep_cell b1 x2
              clear b1 HDA x0 x1 x2
              go_wp2_with fail
              go_roundw
              case rel => exact ⟨k + 1, by rw [HV.out], by go_num, by omega, HB1.out⟩
              case measure => simp [intOf]; omega
          · rcases Decidable.em (xa = 0) with rfl | ha
            all_goals
              have HV := Lib.hid (show bytesS (F (k + 1)) = T ++ ⟨#[63]⟩ ++ ⟨#[32]⟩ ++ da ++ ⟨#[32]⟩ ++ db ++ ⟨#[10]⟩ by
                rw [HN.out, HTD.out]
                rw [if_pos hb]; simp only [nums_two, HDAE.out, HDBE.out, ByteArray.append_assoc])
              go_wp2_with fail
              refine (HDA.out _).mono ?_
              rintro e w1 ⟨rfl, b1⟩
              have HB1 := Lib.hid (below_then' HBW.out b1 HBW.out.size)
              have y0 := keep_cell b1 x0
              have y1 := keep_cell b1 x1
              have y2 := keep_cell b1 x2
              clear b1 HDA x0 x1 x2
              go_wp2_with fail
              refine (HDB.out _).mono ?_
              rintro e w2 ⟨rfl, b2⟩
              have HB2 := Lib.hid (below_then' HB1.out b2 HB1.out.size)
              have z0 := keep_cell b2 y0
              have z1 := keep_cell b2 y1
              have z2 := keep_cell b2 y2
              clear b2 HDB HB1 y0 y1 y2
              go_wp2_with fail
              go_roundw
              case rel => exact ⟨k + 1, by rw [HV.out], by go_num, by omega, HB2.out⟩
              case measure => simp [intOf]; omega
    · have HV := Lib.hid (show textL L = F k by rw [HFN.out, show k = L.length by omega])
      go_wp2_with fail
      go_ret
      exact ⟨str_ret (by rw [HV.out]), HB0.out.trans (HBW.out.mono HB0.out.size)⟩
end Go.Proofs.YtegopamfdgeblaaDoor
