/- WireStops: the walk. -/
import Derived.Test.YthndmaeplnhmlaaWireQ
import Derived.Test.YthndmaeplnhmlaaWireM
namespace Go.Proofs.Ythndmaeplnhmlaa
open Go.RowKit
set_option linter.unusedVariables false

theorem plain_add (b off n : Nat) : (⟨b, off, none⟩ : Addr).add n = ⟨b, off + n, none⟩ := by
  unfold Addr.add
  split
  · simp_all
  · rfl
/-- What the walk is told of the questions: question j says What and Often. -/
def AskRow (w : World) (bl off len : Nat) : Prop := bl < w.heap.size ∧ ∀ j, j < len → ∃ q o : Nat, q < 256 ∧ o < 256 ∧ w.cell? ⟨bl, off + j * 2, none⟩ = some (.int .u8 (q : Int)) ∧ w.cell? ⟨bl, off + j * 2 + 1, none⟩ = some (.int .u8 (o : Int))
/-- Both readers hold the same. -/
def Both (ba bb : Nat) (r : RdS) (w : World) : Prop := RdOk r ∧ RdT 57 ba r.1 r.2 w ∧ RdT 33 bb r.1 r.2 w

theorem Both.mid {ba bb : Nat} {r r' : RdS} {w w1 : World} (h : Both ba bb r w) (hne : ba ≠ bb) (g : w.grownBy w1 (some ba)) : RdT 33 bb r.1 r.2 w1 := h.2.2.kept g (fun e => hne e.symm)
theorem Both.mk {ba bb : Nat} {r' : RdS} {w1 w2 : World} (ho : RdOk r') (h1 : RdT 57 ba r'.1 r'.2 w1) (h2 : RdT 33 bb r'.1 r'.2 w2) (hne : ba ≠ bb) (g : w1.grownBy w2 (some bb)) : Both ba bb r' w2 :=
  ⟨ho, h1.kept g hne, h2⟩
set_option maxHeartbeats 4000000 in
theorem stops_row (s : ByteArray) (hs : s.size ≤ 9223372036854775807) (bl off len cap : Nat) (hlc : len ≤ cap) (hcap : cap ≤ 9223372036854775807) (w : World) (hrow : AskRow w bl off len) :
    Calls Try.prog 4 #[.string s, .slice (some ⟨bl, off, none⟩) len cap] w fun e w' => e = .returned (.bool true) ∧ Below w.heap.size w w' := by
  have HR := Lib.hid hrow
  clear hrow
  go_enter Try.func4, Try.ntmps4
  go_wp2_with fail
  have hT : (s.extract 0 (min (s.size : Int) 1500).toNat).size ≤ 1500 := by simp only [ByteArray.size_extract]; omega
  generalize s.extract 0 (min (s.size : Int) 1500).toNat = T at *
  refine (new_any _ _).mono ?_
  rintro e w1 ⟨rfl, h1⟩
  subst h1
  go_wp2_with fail
  go_loopw [7] (fun i wr => ∃ (k : Nat) (r : RdS), k ≤ len ∧ k ≤ 30 ∧ i = .int .i64 (k : Int) ∧ Both w.heap.size (w.heap.size + 1) r wr ∧ Below w.heap.size w wr) (fun i _ => 31 - (intOf i).toNat)
  case atStart =>
    refine ⟨0, (T, false), by omega, by omega, rfl, ⟨⟨by simp only; omega, fun h => by cases h⟩, ?_, ?_⟩, ?_⟩
    · exact (RdT.new _ _ _ _).alloc _
    · have := RdT.new 33 T false (w.alloc (.cells #[.string T, .bool false] 57 (0, 0)))
      simpa using this
    · exact ((Below.refl _ _).alloc (Nat.le_refl _) _).alloc (by simp) _
  case round =>
    obtain ⟨k, r, hk, hk30, rfl, hboth, hbel⟩ := hrel
    have HB := Lib.hid hboth
    have HL := Lib.hid hbel
    clear hboth hbel
    by_cases hlt : k < len ∧ k < 30
    · obtain ⟨hlt, hlt30⟩ := hlt
      have hd : decide ((k : Int) < 30) = true := by simp; omega
      go_wp2_with fail
      clear hd
      obtain ⟨wo, rfl⟩ : ∃ wo : World, wo = wr := ⟨_, rfl⟩
      go_loopw [8] (fun i wr => ∃ (k2 : Nat) (r2 : RdS), k2 ≤ 5 ∧ i = .int .i64 (k2 : Int) ∧ Both w.heap.size (w.heap.size + 1) r2 wr ∧ Below w.heap.size w wr) (fun i _ => 6 - (intOf i).toNat)
      case atStart => exact ⟨0, r, by omega, rfl, HB.out, HL.out⟩
      case round =>
        obtain ⟨k2, r2, hk2, rfl, hboth, hbel⟩ := hrel
        have HB2 := Lib.hid hboth
        have HL2 := Lib.hid hbel
        clear hboth hbel
        obtain ⟨q, o, hq, ho, c0, c1⟩ := HR.out.2 k hlt
        rw [← HL2.out.cell (p := ⟨bl, off + k * 2, none⟩) HR.out.1] at c0
        rw [← HL2.out.cell (p := ⟨bl, off + k * 2 + 1, none⟩) HR.out.1] at c1
        by_cases hin : k2 < 1 + o % 5
        · by_cases q0 : q = 0
          · have t0 : ((q : Int) == 0) = true := by rw [beq_iff_eq]; omega
            clear q0
            go_wp2_with fail
            refine (num_any _ r2 _ HB2.out.1 HB2.out.2.1).mono ?_
            rintro e w1 ⟨rfl, x1, g1⟩
            have X1 := Lib.hid x1
            have Y1 := Lib.hid (HB2.out.mid (r' := r2) (by omega) g1)
            have L1 := Lib.hid (below_grown HL2.out g1 HL2.out.size (Nat.le_refl _))
            clear x1 g1
            go_wp2_with fail
            refine (rnum_any _ r2 _ HB2.out.1 Y1.out).mono ?_
            rintro e w2 ⟨rfl, x2, g2⟩
            have B2 := Lib.hid (Both.mk HB2.out.1.num X1.out x2 (by omega) g2)
            have L2 := Lib.hid (below_grown L1.out g2 L1.out.size (by omega))
            clear x2 g2
            generalize (rdNum r2).2 = r3 at *
            go_wp2_with fail
            refine (ok_any _ _ _ _ B2.out.2.1).mono ?_
            rintro e w3 ⟨rfl, rfl⟩
            go_wp2_with fail
            refine (rok_any _ _ _ _ B2.out.2.2).mono ?_
            rintro e w3 ⟨rfl, rfl⟩
            go_wp2_with fail
            refine (end_any _ _ _ _ B2.out.2.1).mono ?_
            rintro e w3 ⟨rfl, rfl⟩
            go_wp2_with fail
            refine (rend_any _ _ _ _ B2.out.2.2).mono ?_
            rintro e w3 ⟨rfl, rfl⟩
            go_wp2_with fail
            go_roundw
            case rel => exact ⟨k2 + 1, r3, by omega, by go_num, B2.out, L2.out⟩
            case measure => simp [intOf]; omega
          by_cases q1 : q = 1
          · have t0 : ((q : Int) == 0) = false := by rw [beq_eq_false_iff_ne]; omega
            have t1 : ((q : Int) == 1) = true := by rw [beq_iff_eq]; omega
            clear q0 q1
            go_wp2_with fail
            refine (int_any _ r2 _ HB2.out.1 HB2.out.2.1).mono ?_
            rintro e w1 ⟨rfl, x1, g1⟩
            have X1 := Lib.hid x1
            have Y1 := Lib.hid (HB2.out.mid (r' := r2) (by omega) g1)
            have L1 := Lib.hid (below_grown HL2.out g1 HL2.out.size (Nat.le_refl _))
            clear x1 g1
            go_wp2_with fail
            refine (rint_any _ r2 _ HB2.out.1 Y1.out).mono ?_
            rintro e w2 ⟨rfl, x2, g2⟩
            have B2 := Lib.hid (Both.mk (show RdOk (rdInt r2).2 from HB2.out.1.num) X1.out x2 (by omega) g2)
            have L2 := Lib.hid (below_grown L1.out g2 L1.out.size (by omega))
            clear x2 g2
            generalize (rdInt r2).2 = r3 at *
            go_wp2_with fail
            refine (ok_any _ _ _ _ B2.out.2.1).mono ?_
            rintro e w3 ⟨rfl, rfl⟩
            go_wp2_with fail
            refine (rok_any _ _ _ _ B2.out.2.2).mono ?_
            rintro e w3 ⟨rfl, rfl⟩
            go_wp2_with fail
            refine (end_any _ _ _ _ B2.out.2.1).mono ?_
            rintro e w3 ⟨rfl, rfl⟩
            go_wp2_with fail
            refine (rend_any _ _ _ _ B2.out.2.2).mono ?_
            rintro e w3 ⟨rfl, rfl⟩
            go_wp2_with fail
            go_roundw
            case rel => exact ⟨k2 + 1, r3, by omega, by go_num, B2.out, L2.out⟩
            case measure => simp [intOf]; omega
          · have t0 : ((q : Int) == 0) = false := by rw [beq_eq_false_iff_ne]; omega
            have t1 : ((q : Int) == 1) = false := by rw [beq_eq_false_iff_ne]; omega
            clear q0 q1
            go_wp2_with fail
            refine (text_any _ r2 _ HB2.out.1 HB2.out.2.1).mono ?_
            rintro e w1 ⟨rfl, x1, g1⟩
            have X1 := Lib.hid x1
            have Y1 := Lib.hid (HB2.out.mid (r' := r2) (by omega) g1)
            have L1 := Lib.hid (below_grown HL2.out g1 HL2.out.size (Nat.le_refl _))
            clear x1 g1
            go_wp2_with fail
            refine (rtext_any _ r2 _ HB2.out.1 Y1.out).mono ?_
            rintro e w2 ⟨rfl, x2, g2⟩
            have B2 := Lib.hid (Both.mk HB2.out.1.text X1.out x2 (by omega) g2)
            have L2 := Lib.hid (below_grown L1.out g2 L1.out.size (by omega))
            clear x2 g2
            generalize (rdText r2).2 = r3 at *
            go_wp2_with fail
            refine (ok_any _ _ _ _ B2.out.2.1).mono ?_
            rintro e w3 ⟨rfl, rfl⟩
            go_wp2_with fail
            refine (rok_any _ _ _ _ B2.out.2.2).mono ?_
            rintro e w3 ⟨rfl, rfl⟩
            go_wp2_with fail
            refine (end_any _ _ _ _ B2.out.2.1).mono ?_
            rintro e w3 ⟨rfl, rfl⟩
            go_wp2_with fail
            refine (rend_any _ _ _ _ B2.out.2.2).mono ?_
            rintro e w3 ⟨rfl, rfl⟩
            go_wp2_with fail
            go_roundw
            case rel => exact ⟨k2 + 1, r3, by omega, by go_num, B2.out, L2.out⟩
            case measure => simp [intOf]; omega
        · go_wp2_with fail
          go_roundw
          case rel => exact ⟨k + 1, r2, by omega, by omega, by go_num, HB2.out, HL2.out⟩
          case measure => simp [intOf]; omega
    · have hout : (k < len) = False ∨ (k < 30) = False := by
        by_cases h1 : k < len
        · exact .inr (by simp; omega)
        · exact .inl (by simp; omega)
      have HO := Lib.hid hout
      clear hout
      by_cases h1 : k < len
      · have h2 : 30 ≤ k := by have := hlt; omega
        clear hlt
        go_wp2_with fail
        refine (works_any _).mono ?_
        rintro e w9 ⟨rfl, b9⟩
        go_wp2_with fail
        go_ret
        exact ⟨rfl, below_then HL.out b9 HL.out.size⟩
      · have h2 : len ≤ k := by omega
        clear hlt
        go_wp2_with fail
        refine (works_any _).mono ?_
        rintro e w9 ⟨rfl, b9⟩
        go_wp2_with fail
        go_ret
        exact ⟨rfl, below_then HL.out b9 HL.out.size⟩
set_option maxHeartbeats 1000000 in
theorem stops_zero (s : ByteArray) (hs : s.size ≤ 9223372036854775807) (a : Option Addr) (cap : Nat) (w : World) :
    Calls Try.prog 4 #[.string s, .slice a 0 cap] w fun e w' => e = .returned (.bool true) ∧ Below w.heap.size w w' := by
  go_enter Try.func4, Try.ntmps4
  go_wp2_with fail
  refine (new_any _ _).mono ?_
  rintro e w1 ⟨rfl, h1⟩
  subst h1
  go_wp2_with fail
  refine wp_loop_rounds 1 ?_
  rw [rounds_succ]
  go_wp2_with fail
  refine (works_any _).mono ?_
  rintro e w9 ⟨rfl, b9⟩
  go_wp2_with fail
  go_ret
  exact ⟨rfl, below_then (((Below.refl _ _).alloc (Nat.le_refl _) _).alloc (by simp) _) b9 (by simp; omega)⟩
theorem walk_WireStops (s : ByteArray) (hs : s.size ≤ maxLen) (a : Option Addr) (len cap : Nat) (w : World)
    (h : len = 0 ∨ ∃ b off, a = some ⟨b, off, none⟩ ∧ len ≤ cap ∧ cap ≤ maxLen ∧ AskRow w b off len) :
    Calls Try.prog 4 #[.string s, .slice a len cap] w fun e w' => e = .returned (.bool true) ∧ Below w.heap.size w w' := by
  unfold maxLen at hs h
  rcases h with rfl | ⟨b, off, rfl, hl, hm, hr⟩
  · exact stops_zero s hs a cap w
  · exact stops_row s hs b off len cap hl hm w hr
end Go.Proofs.Ythndmaeplnhmlaa
