/- WireKnown: the walk. -/
import Derived.Test.YthndmaeplnhmlaaWireW
namespace Go.Proofs.Ythndmaeplnhmlaa
open Go.RowKit
set_option linter.unusedVariables false

def known1 : List Nat := [0, 127, 128, 300, 16383, 16384, 72057594037927935, 72057594037927936, 18446744073709551615]
def known2 : List Int := [0, -1, 1, -64, 64, -9223372036854775808, 9223372036854775807]
def known3 : List ByteArray := [⟨#[]⟩, ⟨#[128, 127]⟩, ⟨#[128]⟩, ⟨#[192, 0, 5]⟩, ⟨#[192, 63, 255]⟩, ⟨#[254, 1, 255, 255, 255, 255, 255, 255]⟩, ⟨#[255, 0, 255, 255, 255, 255, 255, 255, 255]⟩, ⟨#[255, 1, 0]⟩]
/-- The row of the first loop. -/
def Row1 (w : World) (b : Nat) : Prop := b < w.heap.size ∧ ∀ k, k < 9 → w.cell? ⟨b, k * 2, none⟩ = some (.int .u64 (known1.getD k 0 : Nat)) ∧ w.cell? ⟨b, k * 2 + 1, none⟩ = some (.string (numS (known1.getD k 0)))
theorem known1_lt (k : Nat) : known1.getD k 0 ≤ 18446744073709551615 := by
  by_cases h : k < 9
  · have hk : k = 0 ∨ k = 1 ∨ k = 2 ∨ k = 3 ∨ k = 4 ∨ k = 5 ∨ k = 6 ∨ k = 7 ∨ k = 8 := by omega
    rcases hk with rfl | rfl | rfl | rfl | rfl | rfl | rfl | rfl | rfl
    all_goals simp [known1]
  · have e : known1.getD k 0 = 0 := by
      unfold known1
      simp only [List.getD]
      rw [List.getElem?_eq_none (by simp; omega)]
      rfl
    omega

def lit1 : Array Value := #[.int .u64 0, .string ⟨#[0]⟩, .int .u64 127, .string ⟨#[127]⟩, .int .u64 128, .string ⟨#[128, 128]⟩, .int .u64 300, .string ⟨#[129, 44]⟩, .int .u64 16383, .string ⟨#[191, 255]⟩, .int .u64 16384, .string ⟨#[192, 64, 0]⟩, .int .u64 72057594037927935, .string ⟨#[254, 255, 255, 255, 255, 255, 255, 255]⟩, .int .u64 72057594037927936, .string ⟨#[255, 1, 0, 0, 0, 0, 0, 0, 0]⟩, .int .u64 18446744073709551615, .string ⟨#[255, 255, 255, 255, 255, 255, 255, 255, 255]⟩]
theorem lit1_at : ∀ k, k < 9 → lit1[k * 2]? = some (.int .u64 (known1.getD k 0 : Nat)) ∧ lit1[k * 2 + 1]? = some (.string (numS (known1.getD k 0))) := by
  intro k hk
  have n0 : numS 0 = ⟨#[0]⟩ := by decide +kernel
  have n1 : numS 127 = ⟨#[127]⟩ := by decide +kernel
  have n2 : numS 128 = ⟨#[128, 128]⟩ := by decide +kernel
  have n3 : numS 300 = ⟨#[129, 44]⟩ := by decide +kernel
  have n4 : numS 16383 = ⟨#[191, 255]⟩ := by decide +kernel
  have n5 : numS 16384 = ⟨#[192, 64, 0]⟩ := by decide +kernel
  have n6 : numS 72057594037927935 = ⟨#[254, 255, 255, 255, 255, 255, 255, 255]⟩ := by decide +kernel
  have n7 : numS 72057594037927936 = ⟨#[255, 1, 0, 0, 0, 0, 0, 0, 0]⟩ := by decide +kernel
  have n8 : numS 18446744073709551615 = ⟨#[255, 255, 255, 255, 255, 255, 255, 255, 255]⟩ := by decide +kernel
  have hk : k = 0 ∨ k = 1 ∨ k = 2 ∨ k = 3 ∨ k = 4 ∨ k = 5 ∨ k = 6 ∨ k = 7 ∨ k = 8 := by omega
  rcases hk with rfl | rfl | rfl | rfl | rfl | rfl | rfl | rfl | rfl
  · exact ⟨rfl, by rw [show known1.getD 0 0 = 0 from rfl, n0]; rfl⟩
  · exact ⟨rfl, by rw [show known1.getD 1 0 = 127 from rfl, n1]; rfl⟩
  · exact ⟨rfl, by rw [show known1.getD 2 0 = 128 from rfl, n2]; rfl⟩
  · exact ⟨rfl, by rw [show known1.getD 3 0 = 300 from rfl, n3]; rfl⟩
  · exact ⟨rfl, by rw [show known1.getD 4 0 = 16383 from rfl, n4]; rfl⟩
  · exact ⟨rfl, by rw [show known1.getD 5 0 = 16384 from rfl, n5]; rfl⟩
  · exact ⟨rfl, by rw [show known1.getD 6 0 = 72057594037927935 from rfl, n6]; rfl⟩
  · exact ⟨rfl, by rw [show known1.getD 7 0 = 72057594037927936 from rfl, n7]; rfl⟩
  · exact ⟨rfl, by rw [show known1.getD 8 0 = 18446744073709551615 from rfl, n8]; rfl⟩
theorem cell_new (w : World) (c : Array Value) (t : TypeId) (i : Nat) : (w.alloc (.cells c t (0, 0))).cell? ⟨w.heap.size, i, none⟩ = c[i]? := by
  have h : (w.alloc (.cells c t (0, 0))).heap[w.heap.size]? = some (.cells c t (0, 0)) := by
    show (w.heap.push _)[w.heap.size]? = _
    simp
  simp only [World.cell?, h]
  rfl
/-- PutNum behind a p. -/
theorem putsP (n : Nat) (h : n ≤ 18446744073709551615) (W : World) : Calls Try.prog 10 #[.string ⟨#[112]⟩, .int .u64 (n : Int)] W fun e w' => e = .returned (.string (⟨#[112]⟩ ++ numS n)) ∧ Below W.heap.size W w' :=
  putNum_any ⟨#[112]⟩ (by decide) n h W
theorem readsN1 (n : Nat) (h : n ≤ 18446744073709551615) (b : Nat) (W : World) (hr : RdT 57 b (numS n) false W) :
    Calls Try.prog 18 #[.pointer (some ⟨b, 0, none⟩)] W fun e w' => e = .returned (.int .u64 (n : Int)) ∧ RdT 57 b ByteArray.empty false w' ∧ W.grownBy w' (some b) := by
  have e : numS n ++ ByteArray.empty = numS n := ByteArray.append_empty
  exact readsN n ByteArray.empty (by omega) (by decide) b W (by rw [e]; exact hr)

def lit2 : Array Value := #[.int .i64 0, .string ⟨#[0]⟩, .int .i64 (-1), .string ⟨#[1]⟩, .int .i64 1, .string ⟨#[2]⟩, .int .i64 (-64), .string ⟨#[127]⟩, .int .i64 64, .string ⟨#[128, 128]⟩, .int .i64 (-9223372036854775808), .string ⟨#[255, 255, 255, 255, 255, 255, 255, 255, 255]⟩, .int .i64 9223372036854775807, .string ⟨#[255, 255, 255, 255, 255, 255, 255, 255, 254]⟩]
def lit3 : Array Value := #[.string ⟨#[]⟩, .string ⟨#[128, 127]⟩, .string ⟨#[128]⟩, .string ⟨#[192, 0, 5]⟩, .string ⟨#[192, 63, 255]⟩, .string ⟨#[254, 1, 255, 255, 255, 255, 255, 255]⟩, .string ⟨#[255, 0, 255, 255, 255, 255, 255, 255, 255]⟩, .string ⟨#[255, 1, 0]⟩]
theorem lit2_at : ∀ k, k < 7 → lit2[k * 2]? = some (.int .i64 (known2.getD k 0)) ∧ lit2[k * 2 + 1]? = some (.string (numS (zig (known2.getD k 0)))) := by
  intro k hk
  have n0 : numS (zig 0) = ⟨#[0]⟩ := by decide +kernel
  have n1 : numS (zig (-1)) = ⟨#[1]⟩ := by decide +kernel
  have n2 : numS (zig 1) = ⟨#[2]⟩ := by decide +kernel
  have n3 : numS (zig (-64)) = ⟨#[127]⟩ := by decide +kernel
  have n4 : numS (zig 64) = ⟨#[128, 128]⟩ := by decide +kernel
  have n5 : numS (zig (-9223372036854775808)) = ⟨#[255, 255, 255, 255, 255, 255, 255, 255, 255]⟩ := by decide +kernel
  have n6 : numS (zig 9223372036854775807) = ⟨#[255, 255, 255, 255, 255, 255, 255, 255, 254]⟩ := by decide +kernel
  have hk : k = 0 ∨ k = 1 ∨ k = 2 ∨ k = 3 ∨ k = 4 ∨ k = 5 ∨ k = 6 := by omega
  rcases hk with rfl | rfl | rfl | rfl | rfl | rfl | rfl
  · exact ⟨rfl, by rw [show known2.getD 0 0 = 0 from rfl, n0]; rfl⟩
  · exact ⟨rfl, by rw [show known2.getD 1 0 = (-1) from rfl, n1]; rfl⟩
  · exact ⟨rfl, by rw [show known2.getD 2 0 = 1 from rfl, n2]; rfl⟩
  · exact ⟨rfl, by rw [show known2.getD 3 0 = (-64) from rfl, n3]; rfl⟩
  · exact ⟨rfl, by rw [show known2.getD 4 0 = 64 from rfl, n4]; rfl⟩
  · exact ⟨rfl, by rw [show known2.getD 5 0 = (-9223372036854775808) from rfl, n5]; rfl⟩
  · exact ⟨rfl, by rw [show known2.getD 6 0 = 9223372036854775807 from rfl, n6]; rfl⟩
theorem known2_lt (k : Nat) (h : k < 7) : -9223372036854775808 ≤ known2.getD k 0 ∧ known2.getD k 0 ≤ 9223372036854775807 := by
  have hk : k = 0 ∨ k = 1 ∨ k = 2 ∨ k = 3 ∨ k = 4 ∨ k = 5 ∨ k = 6 := by omega
  rcases hk with rfl | rfl | rfl | rfl | rfl | rfl | rfl
  all_goals simp [known2]
theorem lit3_at : ∀ k, k < 8 → lit3[k]? = some (.string (known3.getD k ByteArray.empty)) := by
  intro k hk
  have hk : k = 0 ∨ k = 1 ∨ k = 2 ∨ k = 3 ∨ k = 4 ∨ k = 5 ∨ k = 6 ∨ k = 7 := by omega
  rcases hk with rfl | rfl | rfl | rfl | rfl | rfl | rfl | rfl
  all_goals rfl
theorem known3_bad (k : Nat) (h : k < 8) : rdNum (known3.getD k ByteArray.empty, false) = (0, (ByteArray.empty, true)) ∧ (known3.getD k ByteArray.empty).size ≤ 9 := by
  have hk : k = 0 ∨ k = 1 ∨ k = 2 ∨ k = 3 ∨ k = 4 ∨ k = 5 ∨ k = 6 ∨ k = 7 := by omega
  rcases hk with rfl | rfl | rfl | rfl | rfl | rfl | rfl | rfl
  all_goals exact ⟨by decide +kernel, by decide +kernel⟩
theorem readsI1 (i : Int) (h1 : -9223372036854775808 ≤ i) (h2 : i ≤ 9223372036854775807) : ReadsI (numS (zig i)) i ByteArray.empty := by
  have h := readsI i h1 h2 ByteArray.empty (by decide)
  rw [ByteArray.append_empty] at h
  exact h
/-- A reader that has stopped. -/
def Stopped (b : Nat) (W : World) : Prop := RdT 57 b ByteArray.empty true W
theorem bad_num (s : ByteArray) (hs : s.size ≤ 1000000) (h : rdNum (s, false) = (0, (ByteArray.empty, true))) (b : Nat) (W : World) (hr : RdT 57 b s false W) :
    Calls Try.prog 18 #[.pointer (some ⟨b, 0, none⟩)] W fun e w' => e = .returned (.int .u64 0) ∧ Stopped b w' ∧ W.grownBy w' (some b) := by
  have h1 := num_any b (s, false) W ⟨by simp only; omega, fun h => by cases h⟩ hr
  rw [h] at h1
  exact h1
theorem stopped_int (b : Nat) (W : World) (hr : Stopped b W) :
    Calls Try.prog 20 #[.pointer (some ⟨b, 0, none⟩)] W fun e w' => e = .returned (.int .i64 0) ∧ Stopped b w' ∧ W.grownBy w' (some b) :=
  int_any b (ByteArray.empty, true) W ⟨by decide, fun _ => rfl⟩ hr
theorem stopped_text (b : Nat) (W : World) (hr : Stopped b W) :
    Calls Try.prog 22 #[.pointer (some ⟨b, 0, none⟩)] W fun e w' => e = .returned (.string ⟨#[]⟩) ∧ Stopped b w' ∧ W.grownBy w' (some b) :=
  text_any b (ByteArray.empty, true) W ⟨by decide, fun _ => rfl⟩ hr
theorem stopped_ok (b : Nat) (W : World) (hr : Stopped b W) :
    Calls Try.prog 24 #[.pointer (some ⟨b, 0, none⟩)] W fun e w' => e = .returned (.bool false) ∧ W = w' := ok_any b ByteArray.empty true W hr
theorem stopped_end (b : Nat) (W : World) (hr : Stopped b W) :
    Calls Try.prog 26 #[.pointer (some ⟨b, 0, none⟩)] W fun e w' => e = .returned (.bool false) ∧ W = w' := end_any b ByteArray.empty true W hr

set_option maxRecDepth 100000 in
set_option maxHeartbeats 4000000 in
theorem walk_WireKnown (w : World) :
    Calls Try.prog 9 #[] w fun e w' => e = .returned (.bool true) ∧ Below w.heap.size w w' := by
  go_enter Try.func9, Try.ntmps9
  go_wp2_with fail
  have hrow : Row1 (w.alloc (.cells lit1 49 (0, 0))) w.heap.size := ⟨by simp, fun k hk => by rw [cell_new, cell_new]; exact lit1_at k hk⟩
  have hbel : Below w.heap.size w (w.alloc (.cells lit1 49 (0, 0))) := (Below.refl _ _).alloc (Nat.le_refl _) _
  unfold lit1 at hrow hbel
  generalize (w.alloc (.cells #[.int .u64 0, .string ⟨#[0]⟩, .int .u64 127, .string ⟨#[127]⟩, .int .u64 128, .string ⟨#[128, 128]⟩, .int .u64 300, .string ⟨#[129, 44]⟩, .int .u64 16383, .string ⟨#[191, 255]⟩, .int .u64 16384, .string ⟨#[192, 64, 0]⟩, .int .u64 72057594037927935, .string ⟨#[254, 255, 255, 255, 255, 255, 255, 255]⟩, .int .u64 72057594037927936, .string ⟨#[255, 1, 0, 0, 0, 0, 0, 0, 0]⟩, .int .u64 18446744073709551615, .string ⟨#[255, 255, 255, 255, 255, 255, 255, 255, 255]⟩] 49 (0, 0))) = w1 at *
  have HR := Lib.hid hrow
  have HB := Lib.hid hbel
  clear hrow hbel
  go_loopw [23] (fun i wr => ∃ k : Nat, k ≤ 9 ∧ i = .int .i64 (k : Int) ∧ Below w1.heap.size w1 wr) (fun i _ => 10 - (intOf i).toNat)
  case atStart => exact ⟨0, by omega, rfl, Below.refl _ _⟩
  case round =>
    obtain ⟨k, hk, rfl, hbl⟩ := hrel
    have HL := Lib.hid hbl
    clear hbl
    by_cases hlt : k < 9
    · have hn := known1_lt k
      have c0 := (HR.out.2 k hlt).1
      have c1 := (HR.out.2 k hlt).2
      rw [← HL.out.cell (p := ⟨w.heap.size, k * 2, none⟩) HR.out.1] at c0
      rw [← HL.out.cell (p := ⟨w.heap.size, k * 2 + 1, none⟩) HR.out.1] at c1
      generalize known1.getD k 0 = n at *
      have HP := Lib.hid (putsP n hn)
      have HN := Lib.hid (readsN1 n hn)
      have hz9 := numS_size n
      generalize numS n = xs at *
      have hcat : ∀ W : World, (Op.stringOp .add ⟨#[112]⟩ xs).run Try.prog W = .ok (.string (⟨#[112]⟩ ++ xs)) W := fun W => run_string_add_sum W _ _ (by show 1 + xs.size ≤ _; omega)
      go_wp2_with fail
      refine (new_rd _ _).mono ?_
      rintro e w2 ⟨rfl, n2, b2⟩
      have N2 := Lib.hid (show RdT 57 (wr.heap.size + 1) xs false w2 by simpa using n2)
      have d0 : w2.cell? ⟨wr.heap.size, 0, none⟩ = some (.int .u64 (n : Int)) := by
        rw [b2.cell (p := ⟨wr.heap.size, 0, none⟩) (by simp), cell_new]; rfl
      have d1 : w2.cell? ⟨wr.heap.size, 1, none⟩ = some (.string xs) := by
        rw [b2.cell (p := ⟨wr.heap.size, 1, none⟩) (by simp), cell_new]; rfl
      have HL2 := Lib.hid (below_then (HL.out.alloc HL.out.size (.cells #[.int .u64 (n : Int), .string xs] 49 (0, 0))) b2 (by have := HL.out.size; simp; omega))
      have hsz := HL.out.size
      clear n2 b2 c0 c1
      go_wp2_with fail
      go_region_held3 (fun w' => w'.cell? ⟨wr.heap.size, 0, none⟩ = some (.int .u64 (n : Int)) ∧ w'.cell? ⟨wr.heap.size, 1, none⟩ = some (.string xs))
        (first | go_keep | (go_split_ands; exact ⟨World.grownBy.cell (by assumption) (by assumption) (by simp), World.grownBy.cell (by assumption) (by assumption) (by simp)⟩))
        (first | (go_at_call 10; refine (HP.out _).mono ?_; rintro e w3 ⟨rfl, b3⟩; have g3 := grown_below b3 none) | (go_at_call 18; refine (HN.out _ _ (RdT.below (by exact N2.out) b3)).mono ?_; rintro e w4 ⟨rfl, n4, g4⟩) | (go_at_call 26; refine (endsR _ _ n4).mono ?_; rintro e w5 ⟨rfl, rfl⟩))
      have HL4 := Lib.hid (below_grown (below_then (HL2.out.drew) b3 HL2.out.size) g4 (Nat.le_trans HL2.out.size b3.size) (by omega))
      clear b3 g3 n4 g4
      go_wp2_with fail
      go_roundw
      case rel => exact ⟨k + 1, by omega, by go_num, HL4.out⟩
      case measure => simp [intOf]; omega
    · go_wp2_with fail
      have hrow2 : wr.heap.size < (wr.alloc (.cells lit2 51 (0, 0))).heap.size ∧ ∀ k, k < 7 → (wr.alloc (.cells lit2 51 (0, 0))).cell? ⟨wr.heap.size, k * 2, none⟩ = some (.int .i64 (known2.getD k 0)) ∧ (wr.alloc (.cells lit2 51 (0, 0))).cell? ⟨wr.heap.size, k * 2 + 1, none⟩ = some (.string (numS (zig (known2.getD k 0)))) :=
        ⟨by simp, fun k hk => by rw [cell_new, cell_new]; exact lit2_at k hk⟩
      have hsz1 := HB.out.size
      have hbel2 : Below w.heap.size w (wr.alloc (.cells lit2 51 (0, 0))) := (below_then HB.out HL.out hsz1).alloc (Nat.le_trans hsz1 HL.out.size) _
      unfold lit2 at hrow2 hbel2
      generalize (wr.alloc (.cells #[.int .i64 0, .string ⟨#[0]⟩, .int .i64 (-1), .string ⟨#[1]⟩, .int .i64 1, .string ⟨#[2]⟩, .int .i64 (-64), .string ⟨#[127]⟩, .int .i64 64, .string ⟨#[128, 128]⟩, .int .i64 (-9223372036854775808), .string ⟨#[255, 255, 255, 255, 255, 255, 255, 255, 255]⟩, .int .i64 9223372036854775807, .string ⟨#[255, 255, 255, 255, 255, 255, 255, 255, 254]⟩] 51 (0, 0))) = v1 at *
      have HR2 := Lib.hid hrow2
      have HB2 := Lib.hid hbel2
      clear hrow2 hbel2
      have hv0 := HB2.out.size
      generalize wr.heap.size = b2 at *
      clear HL HR HB hsz1
      go_loopw [62] (fun i wx => ∃ k2 : Nat, k2 ≤ 7 ∧ i = .int .i64 (k2 : Int) ∧ Below v1.heap.size v1 wx) (fun i _ => 8 - (intOf i).toNat)
      case atStart => exact ⟨0, by omega, rfl, Below.refl _ _⟩
      case round =>
        rename World => wy
        obtain ⟨k2, hk2, rfl, hbl⟩ := hrel
        have HL := Lib.hid hbl
        clear hbl
        by_cases hlt2 : k2 < 7
        · have hn := known2_lt k2 hlt2
          have c0 := (HR2.out.2 k2 hlt2).1
          have c1 := (HR2.out.2 k2 hlt2).2
          rw [← HL.out.cell (p := ⟨b2, k2 * 2, none⟩) HR2.out.1] at c0
          rw [← HL.out.cell (p := ⟨b2, k2 * 2 + 1, none⟩) HR2.out.1] at c1
          generalize known2.getD k2 0 = n at *
          have HP := Lib.hid (putsI n hn.1 hn.2)
          have HN := Lib.hid (readsI1 n hn.1 hn.2)
          have hz9 := numS_size (zig n)
          generalize numS (zig n) = xs at *
          go_wp2_with fail
          refine (new_rd _ _).mono ?_
          rintro e w2 ⟨rfl, n2, bb⟩
          have N2 := Lib.hid (show RdT 57 (wy.heap.size + 1) xs false w2 by simpa using n2)
          have d0 : w2.cell? ⟨wy.heap.size, 0, none⟩ = some (.int .i64 n) := by
            rw [bb.cell (p := ⟨wy.heap.size, 0, none⟩) (by simp), cell_new]; rfl
          have d1 : w2.cell? ⟨wy.heap.size, 1, none⟩ = some (.string xs) := by
            rw [bb.cell (p := ⟨wy.heap.size, 1, none⟩) (by simp), cell_new]; rfl
          have HL2 := Lib.hid (below_then (HL.out.alloc HL.out.size (.cells #[.int .i64 n, .string xs] 51 (0, 0))) bb (by have := HL.out.size; simp; omega))
          have hsz := HL.out.size
          clear n2 bb c0 c1
          go_wp2_with fail
          go_region_held3 (fun w' => w'.cell? ⟨wy.heap.size, 0, none⟩ = some (.int .i64 n) ∧ w'.cell? ⟨wy.heap.size, 1, none⟩ = some (.string xs))
            (first | go_keep | (go_split_ands; exact ⟨World.grownBy.cell (by assumption) (by assumption) (by simp), World.grownBy.cell (by assumption) (by assumption) (by simp)⟩))
            (first | (go_at_call 12; refine (HP.out _).mono ?_; rintro e w3 ⟨rfl, b3⟩; have g3 := grown_below b3 none) | (go_at_call 20; refine (HN.out _ _ (RdT.below (by exact N2.out) b3)).mono ?_; rintro e w4 ⟨rfl, n4, g4⟩) | (go_at_call 26; refine (endsR _ _ n4).mono ?_; rintro e w5 ⟨rfl, rfl⟩))
          have HL4 := Lib.hid (below_grown (below_then (HL2.out.drew) b3 HL2.out.size) g4 (Nat.le_trans HL2.out.size b3.size) (by omega))
          clear b3 g3 n4 g4
          go_wp2_with fail
          go_roundw
          case rel => exact ⟨k2 + 1, by omega, by go_num, HL4.out⟩
          case measure => simp [intOf]; omega
        · go_wp2_with fail
          have hrow3 : wy.heap.size < (wy.alloc (.cells lit3 9 (0, 0))).heap.size ∧ ∀ k, k < 8 → (wy.alloc (.cells lit3 9 (0, 0))).cell? ⟨wy.heap.size, k, none⟩ = some (.string (known3.getD k ByteArray.empty)) :=
            ⟨by simp, fun k hk => by rw [cell_new]; exact lit3_at k hk⟩
          have hbel3 : Below w.heap.size w (wy.alloc (.cells lit3 9 (0, 0))) := (below_then HB2.out HL.out hv0).alloc (Nat.le_trans hv0 HL.out.size) _
          unfold lit3 at hrow3 hbel3
          generalize (wy.alloc (.cells #[.string ⟨#[]⟩, .string ⟨#[128, 127]⟩, .string ⟨#[128]⟩, .string ⟨#[192, 0, 5]⟩, .string ⟨#[192, 63, 255]⟩, .string ⟨#[254, 1, 255, 255, 255, 255, 255, 255]⟩, .string ⟨#[255, 0, 255, 255, 255, 255, 255, 255, 255]⟩, .string ⟨#[255, 1, 0]⟩] 9 (0, 0))) = v2 at *
          have HR3 := Lib.hid hrow3
          have HB3 := Lib.hid hbel3
          have hv2 := hbel3.size
          clear hrow3 hbel3
          generalize wy.heap.size = b3 at *
          clear HL HR2 HB2
          go_loopw [93] (fun i wx => ∃ k3 : Nat, k3 ≤ 8 ∧ i = .int .i64 (k3 : Int) ∧ Below v2.heap.size v2 wx) (fun i _ => 9 - (intOf i).toNat)
          case atStart => exact ⟨0, by omega, rfl, Below.refl _ _⟩
          case round =>
            rename World => wz
            obtain ⟨k3, hk3, rfl, hbl⟩ := hrel
            have HL := Lib.hid hbl
            clear hbl
            by_cases hlt3 : k3 < 8
            · obtain ⟨hbad, hxs⟩ := known3_bad k3 hlt3
              have c0 := HR3.out.2 k3 hlt3
              rw [← HL.out.cell (p := ⟨b3, k3, none⟩) HR3.out.1] at c0
              generalize known3.getD k3 ByteArray.empty = xs at *
              have HN := Lib.hid (bad_num xs (by omega) hbad)
              have hsz := HL.out.size
              clear hbad
              go_wp2_with fail
              refine (new_rd _ _).mono ?_
              rintro e w2 ⟨rfl, n2, bb⟩
              have N2 := Lib.hid n2
              have L2 := Lib.hid (below_then HL.out bb HL.out.size)
              clear n2 bb c0
              go_wp2_with fail
              refine (ok_any _ _ _ _ N2.out).mono ?_
              rintro e w3 ⟨rfl, rfl⟩
              go_wp2_with fail
              refine (HN.out _ _ N2.out).mono ?_
              rintro e w3 ⟨rfl, n3, g3⟩
              have N3 := Lib.hid n3
              have L3 := Lib.hid (below_grown L2.out g3 L2.out.size hsz)
              clear n3 g3
              go_wp2_with fail
              refine (stopped_ok _ _ N3.out).mono ?_
              rintro e w4 ⟨rfl, rfl⟩
              go_wp2_with fail
              refine (stopped_end _ _ N3.out).mono ?_
              rintro e w4 ⟨rfl, rfl⟩
              go_wp2_with fail
              refine (stopped_int _ _ N3.out).mono ?_
              rintro e w4 ⟨rfl, n4, g4⟩
              have N4 := Lib.hid n4
              have L4 := Lib.hid (below_grown L3.out g4 L3.out.size hsz)
              clear n4 g4
              go_wp2_with fail
              refine (stopped_text _ _ N4.out).mono ?_
              rintro e w5 ⟨rfl, n5, g5⟩
              have L5 := Lib.hid (below_grown L4.out g5 L4.out.size hsz)
              clear n5 g5
              go_wp2_with fail
              go_roundw
              case rel => exact ⟨k3 + 1, by omega, by go_num, L5.out⟩
              case measure => simp [intOf]; omega
            · have T1 := Lib.hid (fun (b : Nat) (W : World) (hr : RdT 57 b ⟨#[3, 97, 98]⟩ false W) => text_any b (⟨#[3, 97, 98]⟩, false) W ⟨by decide, fun h => by cases h⟩ hr)
              rw [show rdText (⟨#[3, 97, 98]⟩, false) = (⟨#[]⟩, (ByteArray.empty, true)) by decide +kernel] at T1
              have P1 := Lib.hid (fun W : World => putText_any ⟨#[]⟩ (by decide) ⟨#[97, 98]⟩ (by decide) W)
              rw [show (⟨#[]⟩ ++ textS ⟨#[97, 98]⟩ : ByteArray) = ⟨#[2, 97, 98]⟩ by decide +kernel] at P1
              have B0 := Lib.hid (below_then HB3.out HL.out hv2)
              have hsz := Nat.le_trans hv2 HL.out.size
              go_wp2_with fail
              refine (new_rd _ _).mono ?_
              rintro e w2 ⟨rfl, n2, bb⟩
              have N2 := Lib.hid n2
              have L2 := Lib.hid (below_then B0.out bb B0.out.size)
              clear n2 bb
              go_wp2_with fail
              refine (T1.out _ _ N2.out).mono ?_
              rintro e w3 ⟨rfl, n3, g3⟩
              have N3 := Lib.hid (show Stopped _ w3 from n3)
              have L3 := Lib.hid (below_grown L2.out g3 L2.out.size hsz)
              clear n3 g3
              go_wp2_with fail
              refine (stopped_ok _ _ N3.out).mono ?_
              rintro e w4 ⟨rfl, rfl⟩
              go_wp2_with fail
              refine (P1.out _).mono ?_
              rintro e w4 ⟨rfl, b4⟩
              have L4 := Lib.hid (below_then L3.out b4 L3.out.size)
              clear b4
              go_wp2_with fail
              refine (num_nil _).mono ?_
              rintro e w5 ⟨rfl, rfl⟩
              go_wp2_with fail
              refine (int_nil _).mono ?_
              rintro e w5 ⟨rfl, rfl⟩
              go_wp2_with fail
              refine (text_nil _).mono ?_
              rintro e w5 ⟨rfl, rfl⟩
              go_wp2_with fail
              refine (ok_nil _).mono ?_
              rintro e w5 ⟨rfl, rfl⟩
              go_wp2_with fail
              refine (end_nil _).mono ?_
              rintro e w5 ⟨rfl, rfl⟩
              go_wp2_with fail
              refine (works_any _).mono ?_
              rintro e w9 ⟨rfl, b9⟩
              go_wp2_with fail
              go_ret
              exact ⟨rfl, below_then L4.out b9 L4.out.size⟩
end Go.Proofs.Ythndmaeplnhmlaa
