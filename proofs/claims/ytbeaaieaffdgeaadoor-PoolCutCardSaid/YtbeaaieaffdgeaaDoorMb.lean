/- Texts that belong together: PoolS, WireF, WireG, WireI. -/
import Derived.Test.YtbeaaieaffdgeaaDoorMa
import Derived.Lib.OthersKept
import Derived.Lib.Strings
import Derived.Lib.Builder
import Derived.Lib.AppendStr
import Derived.Lib.UnsafeStr
import Derived.Laws.Externs
import Derived.Laws.Pointers
import Derived.Test.YtbeaaieaffdgeaaDoorShelf
import Derived.Deep.QuietTactic
import Derived.BigQuiet
import Derived.Deep.LoopGhost
/- The program's writer: a strings.Builder in a struct of its own: copyCheck, WriteString, String. -/
section
namespace Go.Proofs.YtbeaaieaffdgeaaDoor
open Go.RowKit
set_option linter.unusedVariables false
set_option linter.unusedSimpArgs false
set_option maxRecDepth 100000

/-- The writer in block b has laid the bytes t. -/
abbrev Wr (B b : Nat) (t : ByteArray) (w : World) : Prop := Lib.IsBuilderF 53 5 B b (Lib.strCells t) w
abbrev WrU (B b : Nat) (t : ByteArray) (w : World) : Prop := Lib.BuilderAtF 53 5 B b (.pointer (some ⟨b, 0, none⟩)) (Lib.strCells t) w
/-- What else there is stands as it stood. -/
abbrev Oth (b : Nat) (w w' : World) : Prop := Lib.OthersKept 5 (some b) w w'
theorem info_bld : ∃ j, Tryd.prog.info? 51 = some j ∧ j.size = 2 := by
  obtain ⟨j, hj⟩ : ∃ j, Tryd.prog.info? 51 = some j := Option.isSome_iff_exists.1 (by kernel_rfl)
  refine ⟨j, hj, ?_⟩
  have : (Tryd.prog.info? 51).map (·.size) = some 2 := by kernel_rfl
  rw [hj] at this
  simpa using this
theorem infoU8 : (Tryd.prog.info? 5).map (fun i => (i.zero, i.size, i.bytes)) = some (some (.int .u8 0), 1, 1) := by kernel_rfl
set_option maxHeartbeats 1000000 in
theorem chk_used (b : Nat) (w : World) (h0 : w.cell? ⟨b, 0, none⟩ = some (.pointer (some ⟨b, 0, none⟩))) :
    Calls Tryd.prog 39 #[.pointer (some ⟨b, 0, none⟩)] w fun e w' => e = .returned (.tuple #[]) ∧ w = w' := by
  obtain ⟨j, hj, _⟩ := info_bld
  go_enter Tryd.func39, Tryd.ntmps39
  go_wp2
  rw [Lib.run_neq_ptr_same w _ Tryd.underlying48 hj]
  go_wp2
  go_end0
  exact ⟨rfl, rfl⟩
set_option maxHeartbeats 1000000 in
theorem chk_fresh (b : Nat) (w : World) (h0 : w.cell? ⟨b, 0, none⟩ = some (.pointer none)) (hsh : w.shape? b = some (53, 2)) (hfz : w.frozen? ⟨b, 0, none⟩ = false) :
    Calls Tryd.prog 39 #[.pointer (some ⟨b, 0, none⟩)] w fun e w' => e = .returned (.tuple #[]) ∧ w' = w.setCell ⟨b, 0, none⟩ (.pointer (some ⟨b, 0, none⟩)) := by
  obtain ⟨j, hj, hjs⟩ := info_bld
  go_enter Tryd.func39, Tryd.ntmps39
  go_wp2
  rw [Lib.run_to_unsafe w ⟨b, 0, none⟩ Tryd.underlying48 Tryd.underlying101 hj (by rw [hjs]; decide) hsh (Nat.zero_lt_succ 1)]
  simp only [Result.andThen]
  rw [Oper.upon_value]
  go_wp2
  rw [run_callFunc_extern Tryd.func53 (by kernel_rfl) (by kernel_rfl) (by kernel_rfl) (e := Extern.AbiNoEscape.same) (by kernel_rfl)]
  rw [Lib.run_noEscape]
  simp only [Result.andThen]
  rw [Oper.upon_value]
  go_wp2
  rw [Lib.run_from_unsafe w ⟨b, 0, none⟩ Tryd.underlying101 Tryd.underlying48 hj hsh (by kernel_rfl)]
  simp only [Result.andThen]
  rw [Oper.upon_value]
  go_wp2
  go_end0
  exact ⟨rfl, rfl⟩
theorem chk_any (B b : Nat) (t : ByteArray) (w : World) (h : Wr B b t w) :
    Calls Tryd.prog 39 #[.pointer (some ⟨b, 0, none⟩)] w fun e w' => e = .returned (.tuple #[]) ∧ WrU B b t w' ∧ Below B w w' ∧ Oth b w w' := by
  rcases h with h | h
  · refine (chk_fresh b w h.cell0 h.shape h.frozen0).mono ?_
    rintro e w' ⟨rfl, rfl⟩
    exact ⟨rfl, h.used _, (Below.refl B w).setCell (p := ⟨b, 0, none⟩) h.1 _, (Lib.OthersKept.refl _ _ w).setCell ⟨b, 0, none⟩ rfl _⟩
  · refine (chk_used b w h.cell0).mono ?_
    rintro e w' ⟨rfl, rfl⟩
    exact ⟨rfl, h, Below.refl B _, Lib.OthersKept.refl _ _ _⟩
theorem strCells_cat (s t : ByteArray) : Lib.strCells (s ++ t) = Lib.strCells s ++ Lib.strCells t := by
  simp [Lib.strCells]
set_option maxHeartbeats 2000000 in
theorem write_any (B b : Nat) (t s : ByteArray) (w : World) (h : Wr B b t w) (hlen : t.size + s.size ≤ 140737488355328) (hBw : B ≤ w.heap.size) :
    Calls Tryd.prog 26 #[.pointer (some ⟨b, 0, none⟩), .string s] w fun e w' => e = .returned (.tuple #[.int .i64 s.size, .nilIface]) ∧ Wr B b (t ++ s) w' ∧ Below B w w' ∧ Oth b w w' := by
  obtain ⟨i0, hi, hz0, hz1, hz2⟩ := info_parts infoU8
  have HC := Lib.hid (chk_any B b t w h)
  have hl : (Lib.strCells t).length = t.size := Lib.strCells_length t
  clear h
  go_enter Tryd.func26, Tryd.ntmps26
  go_wp2_with (go_at_call 39; refine HC.out.mono ?_)
  rintro e w1 ⟨rfl, h1, hb1, hk1⟩
  obtain ⟨hB, v, hbk, hown, hne⟩ := h1
  have c1 : w1.cell? ⟨b, 1, none⟩ = some v := by rw [Lib.cell_of_heap hbk]; rfl
  go_wp2_with (at_builtin; refine Lib.wpList_append_own_stringF _ rfl _ _ 49 9 rfl B 5 i0 Tryd.underlying49 Tryd.underlying9 hi hz0 hz1 hz2 _ _ _ rfl hown s rfl ?c3 ?c4 ?c5 ?_)
  case c3 => unfold maxLen; omega
  case c4 => omega
  case c5 => have := hb1.size; omega
  intro v' w2 hown' hgrow _
  have hlt : b < w1.heap.size := (Array.getElem?_eq_some_iff.1 hbk).1
  have hb2 : w2.heap[b]? = some (.cells #[.pointer (some ⟨b, 0, none⟩), v] 53 (0, 0)) := by
    rw [hgrow.block b hlt (fun e => hne e.symm)]
    exact hbk
  have d1 : w2.cell? ⟨b, 1, none⟩ = some v := by rw [Lib.cell_of_heap hb2]; rfl
  have f1 : w2.frozen? ⟨b, 1, none⟩ = false := Lib.frozen_of_heap hb2 1
  obtain ⟨ao, n', cap, rfl⟩ : ∃ ao n' cap, v' = .slice ao n' cap := by
    rcases hown'.2 with ⟨hv, _⟩ | ⟨g, cap, cur, fz, hv, _⟩
    · exact ⟨_, _, _, hv⟩
    · exact ⟨_, _, _, hv⟩
  go_wp2_with fail
  go_ret2
  refine ⟨rfl, .inr ?_, ?_, (hk1.grown hgrow (Lib.ownsRowF_kind hown)).setCell ⟨b, 1, none⟩ rfl _⟩
  · rw [strCells_cat]
    exact Lib.BuilderAtF.put (T := 53) (e := 5) hB hb2 (bs' := Lib.strCells t ++ Lib.strCells s) (by simpa [Lib.strCells_length] using hown') (by decide)
  · exact (hb1.grown hgrow (by have := hb1.size; omega) (fun k hk => (hown.lt k hk).1)).setCell (p := ⟨b, 1, none⟩) hB _
theorem strCells_list (l : List UInt8) : Lib.strCells ⟨l.toArray⟩ = Lib.byteCells l := by
  simp [Lib.strCells, Lib.byteCells]
set_option maxHeartbeats 1000000 in
theorem string_any (B b : Nat) (t : ByteArray) (w : World) (h : Wr B b t w) (h0 : t.size ≠ 0) :
    Calls Tryd.prog 16 #[.pointer (some ⟨b, 0, none⟩)] w fun e w' => e = .returned (.string t) ∧ Below B w w' := by
  obtain ⟨l, rfl⟩ : ∃ l : List UInt8, t = ⟨l.toArray⟩ := ⟨t.data.toList, by simp⟩
  unfold Wr at h
  rw [strCells_list] at h
  obtain ⟨p, hAt⟩ : ∃ p, Lib.BuilderAtF 53 5 B b p (Lib.byteCells l) w := by
    rcases h with h | h
    · exact ⟨_, h⟩
    · exact ⟨_, h⟩
  obtain ⟨hB, v, hbk, hown, hne⟩ := hAt
  have hl0 : l ≠ [] := fun e => h0 (by rw [e]; rfl)
  have hl1 : l.length ≠ 0 := fun e => hl0 (List.length_eq_zero_iff.1 e)
  rw [Lib.byteCells_length] at hown
  obtain ⟨g, cap, cur, fz, rfl, hbg, hg, hfz, hnc, hcm, hcs, htake⟩ : ∃ g cap cur fz, v = .slice (some ⟨g, 0, none⟩) l.length cap ∧ B ≤ g ∧ w.heap[g]? = some (.cells cur 5 fz) ∧ fz.2 ≤ l.length * 1 ∧ l.length ≤ cap ∧ cap ≤ maxLen ∧ cur.size = cap * 1 ∧ cur.toList.take (l.length * 1) = Lib.byteCells l := by
    rcases hown.2 with ⟨_, hz⟩ | ⟨g, cap, cur, fz, hv, r⟩
    · exact absurd hz hl1
    · exact ⟨g, cap, cur, fz, hv, r⟩
  have c1 : w.drew.cell? ⟨b, 1, none⟩ = some (.slice (some ⟨g, 0, none⟩) l.length cap) := by
    have : w.drew.heap[b]? = some (.cells #[p, .slice (some ⟨g, 0, none⟩) l.length cap] 53 (0, 0)) := hbk
    rw [Lib.cell_of_heap this]; rfl
  have hSD : (Builtin.unsafeSliceData_ #[49] 75 #[.slice (some ⟨g, 0, none⟩) l.length cap]).run Tryd.prog w.drew = .ok (.pointer (some ⟨g, 0, none⟩)) w.drew :=
    Lib.run_unsafeSliceData_row _ _ _ _ _ _ (by omega)
  have hUS : (Builtin.unsafeString_ #[75, 3] 9 #[.pointer (some ⟨g, 0, none⟩), .int .i64 l.length]).run Tryd.prog w.drew = .ok (.string ⟨l.toArray⟩) (w.drew.freeze ⟨g, 0, none⟩ l.length) := by
    refine Lib.run_unsafeString_row w.drew 75 3 9 5 Tryd.underlying75 (by kernel_rfl) g cur.size (by have hg' : w.drew.heap[g]? = some (.cells cur 5 fz) := hg; simp [World.shape?, hg']) l hl0 (by omega) (by unfold maxLen at hcm; omega) ?_
    intro j x hx
    exact hown.cells (g := g) rfl j (.int .u8 x.toNat) (by simp [Lib.byteCells, hx])
  go_enter Tryd.func16, Tryd.ntmps16
  go_wp2
  go_region
  all_goals (go_wp2; go_ret; exact ⟨rfl, Lib.below_freeze (Below.drew (Below.refl B w)) (p := ⟨g, 0, none⟩) hbg _⟩)
end Go.Proofs.YtbeaaieaffdgeaaDoor
end
/- The program's reader: what it holds, OK, End, stop, NewReader; how many ones lead a byte. -/
section
namespace Go.Proofs.YtbeaaieaffdgeaaDoor
open Go.RowKit
set_option linter.unusedVariables false

/-- How many ones lead a byte. -/
def lead (c : Nat) : Nat :=
  if c < 128 then 0 else if c < 192 then 1 else if c < 224 then 2 else if c < 240 then 3 else if c < 248 then 4 else if c < 252 then 5 else if c < 254 then 6 else if c < 255 then 7 else 8
theorem lead_le (c : Nat) : lead c ≤ 8 := by
  unfold lead; repeat' split
  all_goals omega
theorem lead_bitLen : ∀ c : Fin 256, (8 - (Lib.bitLen (255 - c.val) : Int)) = (lead c.val : Int) := by decide +kernel
theorem lz_any (x : Int) (c : Nat) (hc : c < 256) (hx : x = 255 - (c : Int)) (w : World) :
    Calls Tryd.prog 57 #[.int .u8 x] w fun e w' => e = .returned (.int .i64 (lead c : Nat)) ∧ w = w' := by
  refine (Tryd.bits_LeadingZeros8 x w (by omega) (by omega)).mono ?_
  rintro e w' ⟨rfl, rfl⟩
  refine ⟨ret_int ?_, rfl⟩
  rw [← lead_bitLen ⟨c, hc⟩]
  have : x.toNat = 255 - c := by omega
  rw [this]

/-- Block b holds a reader of type T (the program's, the document's): what is left to it, and whether it has stopped. -/
def RdT (T b : Nat) (s : ByteArray) (st : Bool) (w : World) : Prop := w.heap[b]? = some (.cells #[.string s, .bool st] T (0, 0))
theorem RdT.lt {T b : Nat} {s : ByteArray} {st : Bool} {w : World} (h : RdT T b s st w) : b < w.heap.size := by
  unfold RdT at h
  exact (Array.getElem?_eq_some_iff.1 h).1
theorem RdT.facts {T b : Nat} {s : ByteArray} {st : Bool} {w : World} (h : RdT T b s st w) :
    w.cell? ⟨b, 0, none⟩ = some (.string s) ∧ w.cell? ⟨b, 1, none⟩ = some (.bool st) ∧ w.frozen? ⟨b, 0, none⟩ = false ∧ w.frozen? ⟨b, 1, none⟩ = false := by
  unfold RdT at h
  refine ⟨?_, ?_, ?_, ?_⟩
  · simp [World.cell?, h]
  · simp [World.cell?, h]
  · simp [World.frozen?, h]
  · simp [World.frozen?, h]

set_option maxHeartbeats 400000 in
theorem ok_any (b : Nat) (s : ByteArray) (st : Bool) (w : World) (h : RdT 77 b s st w) :
    Calls Tryd.prog 36 #[.pointer (some ⟨b, 0, none⟩)] w fun e w' => e = .returned (.bool (!st)) ∧ w = w' := by
  obtain ⟨h0, h1, _, _⟩ := h.facts
  clear h
  go_enter Tryd.func36, Tryd.ntmps36
  go_wp2
  go_ret
  exact ⟨rfl, rfl⟩
set_option maxHeartbeats 400000 in
theorem ok_nil (w : World) :
    Calls Tryd.prog 36 #[.pointer none] w fun e w' => e = .returned (.bool false) ∧ w = w' := by
  go_enter Tryd.func36, Tryd.ntmps36
  go_wp2
  go_ret
  exact ⟨rfl, rfl⟩
set_option maxHeartbeats 400000 in
theorem end_nil (w : World) :
    Calls Tryd.prog 22 #[.pointer none] w fun e w' => e = .returned (.bool false) ∧ w = w' := by
  go_enter Tryd.func22, Tryd.ntmps22
  go_wp2_with (go_at_call 36; refine (ok_nil _).mono ?_; rintro e w' ⟨rfl, rfl⟩)
  go_ret
  exact ⟨rfl, rfl⟩
set_option maxHeartbeats 400000 in
theorem end_any (b : Nat) (s : ByteArray) (st : Bool) (w : World) (h : RdT 77 b s st w) :
    Calls Tryd.prog 22 #[.pointer (some ⟨b, 0, none⟩)] w fun e w' => e = .returned (.bool (!st && s.toList.isEmpty)) ∧ w = w' := by
  obtain ⟨h0, h1, _, _⟩ := h.facts
  have H := Lib.hid h
  clear h
  cases st
  all_goals
    go_enter Tryd.func22, Tryd.ntmps22
    go_wp2_with (go_at_call 36; refine (ok_any _ _ _ _ H.out).mono ?_; rintro e w' ⟨rfl, rfl⟩)
    go_ret
    exact ⟨rfl, rfl⟩
set_option maxHeartbeats 400000 in
theorem new_any (s : ByteArray) (w : World) :
    Calls Tryd.prog 18 #[.string s] w fun e w' => e = .returned (.pointer (some ⟨w.heap.size, 0, none⟩)) ∧ w.alloc (.cells #[.string s, .bool false] 77 (0, 0)) = w' := by
  go_enter Tryd.func18, Tryd.ntmps18
  go_wp2
  go_ret
  exact ⟨rfl, rfl⟩
theorem grown_set {w w' : World} {b : Nat} (h : w.grownBy w' (some b)) (o : Nat) (u : Value) : w.grownBy (w'.setCell ⟨b, o, none⟩ u) (some b) :=
  ⟨h.os, h.tape, h.output, by simpa [World.setCell] using h.size, fun k hk hne => (Below.heap_setCell w' ⟨b, o, none⟩ u k (fun e => hne (by rw [e]))).trans (h.block k hk hne)⟩
theorem grown_new {w w' : World} {r : Option Nat} (h : w.grownBy w' r) (x : Obj) : w.grownBy (w'.alloc x) r :=
  ⟨h.os, h.tape, h.output, Nat.le_trans h.size (by simp), fun k hk hne => (Below.heap_alloc w' x k (Nat.lt_of_lt_of_le hk h.size)).trans (h.block k hk hne)⟩
theorem grown_draws {w w' : World} {r : Option Nat} (h : w.grownBy w' r) (n : Nat) : w.grownBy (w'.drewN n) r := ⟨h.os, h.tape, h.output, h.size, h.block⟩
theorem grown_then {u v w : World} {r : Option Nat} (h : u.grownBy v r) (k : v.grownBy w r) : u.grownBy w r :=
  ⟨k.os.trans h.os, k.tape.trans h.tape, k.output.trans h.output, Nat.le_trans h.size k.size, fun i hi hne => (k.block i (Nat.lt_of_lt_of_le hi h.size) hne).trans (h.block i hi hne)⟩
theorem grown_below {w w' : World} (h : Below w.heap.size w w') (r : Option Nat) : w.grownBy w' r := ⟨h.os, h.tape, h.output, h.size, fun k hk _ => h.block k hk⟩
theorem RdT.kept {T b c : Nat} {s : ByteArray} {st : Bool} {w w' : World} (h : RdT T b s st w) (g : w.grownBy w' (some c)) (hne : b ≠ c) : RdT T b s st w' :=
  (g.block b h.lt (fun e => hne (by injection e))).trans h
theorem RdT.below {T b : Nat} {s : ByteArray} {st : Bool} {w w' : World} (h : RdT T b s st w) (g : Below w.heap.size w w') : RdT T b s st w' := (g.block b h.lt).trans h
theorem RdT.draws {T b : Nat} {s : ByteArray} {st : Bool} {w : World} (h : RdT T b s st w) (n : Nat) : RdT T b s st (w.drewN n) := h
theorem RdT.set0 {T b : Nat} {s : ByteArray} {st : Bool} {w : World} (h : RdT T b s st w) (t : ByteArray) : RdT T b t st (w.setCell ⟨b, 0, none⟩ (.string t)) := by
  unfold RdT at h ⊢
  show (w.heap.modify b _)[b]? = _
  rw [Array.getElem?_modify, if_pos rfl, h]
  rfl
theorem RdT.set1 {T b : Nat} {s : ByteArray} {st : Bool} {w : World} (h : RdT T b s st w) (t : Bool) : RdT T b s t (w.setCell ⟨b, 1, none⟩ (.bool t)) := by
  unfold RdT at h ⊢
  show (w.heap.modify b _)[b]? = _
  rw [Array.getElem?_modify, if_pos rfl, h]
  rfl
theorem RdT.alloc {T b : Nat} {s : ByteArray} {st : Bool} {w : World} (h : RdT T b s st w) (o : Obj) : RdT T b s st (w.alloc o) :=
  (Below.heap_alloc w o b h.lt).trans h
theorem RdT.new (T : Nat) (s : ByteArray) (st : Bool) (w : World) : RdT T w.heap.size s st (w.alloc (.cells #[.string s, .bool st] T (0, 0))) := by
  unfold RdT
  show (w.heap.push _)[w.heap.size]? = _
  simp

set_option maxHeartbeats 400000 in
theorem stop_any (b : Nat) (s : ByteArray) (st : Bool) (w : World) (h : RdT 77 b s st w) :
    Calls Tryd.prog 58 #[.pointer (some ⟨b, 0, none⟩)] w fun e w' => e = .returned (.tuple #[]) ∧ RdT 77 b ByteArray.empty true w' ∧ w.grownBy w' (some b) := by
  obtain ⟨h0, h1, f0, f1⟩ := h.facts
  have H := Lib.hid h
  clear h
  go_enter Tryd.func58, Tryd.ntmps58
  go_wp2
  go_end0
  exact ⟨rfl, (H.out.set0 _).set1 _, grown_set (grown_set (World.grownBy.refl _ _) _ _) _ _⟩
end Go.Proofs.YtbeaaieaffdgeaaDoor
end
/- The program's reader takes a number. -/
section
namespace Go.Proofs.YtbeaaieaffdgeaaDoor
open Go.RowKit
set_option linter.unusedVariables false

/-- What the lowest bits of a first byte say. -/
def lowB (c : Nat) : Nat := c - (256 - 2 ^ (8 - lead c))
def onesB (k : Nat) : Nat := 256 - 2 ^ (8 - k)
/-- Bytes behind a beginning, as a number. -/
def valL : Nat → List UInt8 → Nat
  | a, [] => a
  | a, b :: r => valL (a * 256 + b.toNat) r
theorem valL_snoc (l : List UInt8) (x : UInt8) : ∀ a, valL a (l ++ [x]) = valL a l * 256 + x.toNat := by
  induction l with
  | nil => intro a; rfl
  | cons b r ih => intro a; exact ih _
theorem valL_lt (l : List UInt8) : ∀ a, valL a l < (a + 1) * 256 ^ l.length := by
  induction l with
  | nil => intro a; simp [valL]
  | cons b r ih =>
    intro a
    have h := ih (a * 256 + b.toNat)
    have hb : b.toNat < 256 := b.toNat_lt
    refine Nat.lt_of_lt_of_le h ?_
    rw [List.length_cons, Nat.pow_succ, Nat.mul_comm (256 ^ r.length) 256, ← Nat.mul_assoc]
    exact Nat.mul_le_mul_right _ (by omega)
/-- The number that bytes begin with, and how many bytes it has. -/
def readN (l : List UInt8) : Option (Nat × Nat) :=
  match l with
  | [] => none
  | c :: r => if r.length < lead c.toNat then none
    else if sortN (valL (lowB c.toNat) (r.take (lead c.toNat))) = lead c.toNat then some (valL (lowB c.toNat) (r.take (lead c.toNat)), lead c.toNat + 1) else none
theorem readN_cons (c : UInt8) (r : List UInt8) : readN (c :: r) = if r.length < lead c.toNat then none
    else if sortN (valL (lowB c.toNat) (r.take (lead c.toNat))) = lead c.toNat then some (valL (lowB c.toNat) (r.take (lead c.toNat)), lead c.toNat + 1) else none := rfl
theorem low_a : ∀ c : Fin 256, (lowB c.val + 1) * 256 ^ (lead c.val - 1) ≤ 72057594037927936 := by decide +kernel
theorem low_b : ∀ c : Fin 256, (lowB c.val + 1) * 256 ^ (lead c.val) ≤ 18446744073709551616 := by decide +kernel
theorem low_and : ∀ c : Fin 256, c.val &&& (255 - onesB (lead c.val)) = lowB c.val := by decide +kernel
theorem ones_lt (k : Nat) (h : k ≤ 8) : onesB k < 256 := by
  unfold onesB
  have h1 : 0 < 2 ^ (8 - k) := Nat.two_pow_pos _
  omega
theorem bits_low (c : Nat) (hc : c < 256) : bits .andNot .u8 (c : Int) (onesB (lead c) : Int) = (lowB c : Int) := by
  rw [u8_andNot_nat c _ hc (ones_lt _ (lead_le c))]
  exact congrArg _ (low_and ⟨c, hc⟩)
/-- What was read of a number when the reader stands at byte k. -/
def valAt (s : ByteArray) (c k : Nat) : Nat := valL (lowB c) ((s.data.toList.drop 1).take (k - 1))
theorem valAt_one (s : ByteArray) (c : Nat) : valAt s c 1 = lowB c := rfl
theorem valAt_lt (s : ByteArray) (c k : Nat) (hc : c < 256) (hk : k ≤ lead c) : valAt s c k < 72057594037927936 := by
  have h := valL_lt ((s.data.toList.drop 1).take (k - 1)) (lowB c)
  have hl : ((s.data.toList.drop 1).take (k - 1)).length ≤ lead c - 1 := Nat.le_trans (List.length_take_le _ _) (by omega)
  have hp : 256 ^ ((s.data.toList.drop 1).take (k - 1)).length ≤ 256 ^ (lead c - 1) := Nat.pow_le_pow_right (by omega) hl
  have := low_a ⟨c, hc⟩
  exact Nat.lt_of_lt_of_le h (Nat.le_trans (Nat.mul_le_mul_left _ hp) this)
theorem valAt_lt' (s : ByteArray) (c k : Nat) (hc : c < 256) (hk : k ≤ lead c + 1) : valAt s c k < 18446744073709551616 := by
  have h := valL_lt ((s.data.toList.drop 1).take (k - 1)) (lowB c)
  have hl : ((s.data.toList.drop 1).take (k - 1)).length ≤ lead c := Nat.le_trans (List.length_take_le _ _) (by omega)
  have hp : 256 ^ ((s.data.toList.drop 1).take (k - 1)).length ≤ 256 ^ (lead c) := Nat.pow_le_pow_right (by omega) hl
  have := low_b ⟨c, hc⟩
  exact Nat.lt_of_lt_of_le h (Nat.le_trans (Nat.mul_le_mul_left _ hp) this)
theorem valAt_succ (s : ByteArray) (c k : Nat) (h1 : 1 ≤ k) (h : k < s.size) : valAt s c (k + 1) = valAt s c k * 256 + s[k].toNat := by
  unfold valAt
  have hl : k - 1 < (s.data.toList.drop 1).length := by
    have : s.data.toList.length = s.size := by simp
    simp; omega
  have e : (s.data.toList.drop 1).take (k + 1 - 1) = (s.data.toList.drop 1).take (k - 1) ++ [s[k]] := by
    rw [show k + 1 - 1 = (k - 1) + 1 by omega, List.take_succ_eq_append_getElem hl]
    congr 2
    rw [List.getElem_drop]
    have : 1 + (k - 1) = k := by omega
    simp only [this]
    rfl
  rw [e, valL_snoc]
theorem bits_join (v x : Nat) (hv : v < 72057594037927936) (hx : x < 256) : bits .or .u64 ((v : Int) * 256) (x : Int) = ((v * 256 + x : Nat) : Int) := by
  have h := u64_or_nat (v * 256) x (by omega) (by omega)
  rw [nat_join 8 (v * 256) x (by omega) (by omega)] at h
  rw [← h]
  congr 1
theorem ones_at (k : Nat) (hk : k ≤ 8) (w : World) :
    Calls Tryd.prog 55 #[.int .i64 (k : Int)] w fun e w' => e = .returned (.int .u8 (onesB k : Int)) ∧ w' = w :=
  (ones_any k hk w).mono fun _ _ h => ⟨h.1, h.2.symm⟩
end Go.Proofs.YtbeaaieaffdgeaaDoor
end
/- The program's reader takes a number: the walk. -/
section
namespace Go.Proofs.YtbeaaieaffdgeaaDoor
open Go.RowKit
set_option linter.unusedVariables false

/-- What Num hands back, and what becomes of the reader. -/
def NumPost (b : Nat) (s : ByteArray) (w : World) (e : Ending) (w' : World) : Prop :=
  w.grownBy w' (some b) ∧ match readN s.data.toList with
    | none => e = .returned (.int .u64 0) ∧ RdT 77 b ByteArray.empty true w'
    | some (n, k) => e = .returned (.int .u64 (n : Int)) ∧ RdT 77 b (s.extract k s.size) false w'
theorem NumPost.bad {b : Nat} {s : ByteArray} {w w' : World} {e : Ending} (h : readN s.data.toList = none) (g : w.grownBy w' (some b)) (he : e = .returned (.int .u64 0)) (r : RdT 77 b ByteArray.empty true w') : NumPost b s w e w' := by
  unfold NumPost; rw [h]; exact ⟨g, he, r⟩

set_option maxHeartbeats 1000000 in
theorem num_empty (b : Nat) (s : ByteArray) (w : World) (h : RdT 77 b s false w) (hz : s.size = 0) :
    Calls Tryd.prog 43 #[.pointer (some ⟨b, 0, none⟩)] w (NumPost b s w) := by
  obtain rfl : s = ByteArray.empty := by
    apply ByteArray.ext
    exact Array.eq_empty_of_size_eq_zero hz
  obtain ⟨h0, h1, f0, f1⟩ := h.facts
  have H := Lib.hid h
  have HZ := Lib.hid hz
  clear h hz
  go_enter Tryd.func43, Tryd.ntmps43
  go_wp2
  go_step3
  go_wp2_with (go_at_call 36; refine (ok_any _ _ _ _ H.out).mono ?_; rintro e w' ⟨rfl, rfl⟩)
  go_step3
  go_wp2_with fail
  refine wp_loop_rounds 1 ?_
  rw [rounds_succ]
  go_wp2_with (go_at_call 58; refine (stop_any _ _ _ _ H.out).mono ?_; rintro e w' ⟨rfl, hr, hg⟩)
  rw [Exit.noGoto_ret]
  go_ret
  exact NumPost.bad rfl hg rfl hr

theorem toList_cons (s : ByteArray) (h : 0 < s.size) : s.data.toList = s[0] :: s.data.toList.drop 1 := by
  have hl : 0 < s.data.toList.length := by simpa using h
  have := List.getElem_cons_drop hl
  exact this.symm
theorem readN_short (s : ByteArray) (h : 0 < s.size) (hs : s.size ≤ lead s[0].toNat) : readN s.data.toList = none := by
  rw [toList_cons s h, readN_cons]
  rw [if_pos]
  have : s.data.toList.length = s.size := by simp
  simp; omega
theorem readN_sort (s : ByteArray) (h : 0 < s.size) (hs : lead s[0].toNat < s.size) (hn : sortN (valAt s s[0].toNat (lead s[0].toNat + 1)) ≠ lead s[0].toNat) : readN s.data.toList = none := by
  rw [toList_cons s h, readN_cons]
  have hl : s.data.toList.length = s.size := by simp
  rw [if_neg (by simp; omega), if_neg]
  exact hn
theorem readN_good (s : ByteArray) (h : 0 < s.size) (hs : lead s[0].toNat < s.size) (hn : sortN (valAt s s[0].toNat (lead s[0].toNat + 1)) = lead s[0].toNat) :
    readN s.data.toList = some (valAt s s[0].toNat (lead s[0].toNat + 1), lead s[0].toNat + 1) := by
  rw [toList_cons s h, readN_cons]
  have hl : s.data.toList.length = s.size := by simp
  rw [if_neg (by simp; omega), if_pos]
  · rfl
  · exact hn
theorem xor_255 (a : Nat) (ha : a < 256) : a ^^^ 255 = 255 - a := by
  have h := congrArg BitVec.toNat (BitVec.xor_allOnes (x := BitVec.ofNat 8 a))
  rw [BitVec.toNat_xor, BitVec.toNat_not, BitVec.toNat_ofNat, BitVec.toNat_allOnes, Nat.mod_eq_of_lt ha] at h
  exact h
theorem bits_not (c : Nat) (hc : c < 256) : bits BinOp.xor IntKind.u8 IntKind.u8.max (c : Int) = 255 - (c : Int) := by
  have e : IntKind.u8.max = ((255 : Nat) : Int) := by rfl
  rw [e, u8_xor_nat 255 c (by omega) hc, Nat.xor_comm, xor_255 c hc]
  omega
theorem NumPost.good {b : Nat} {s : ByteArray} {w w' : World} {e : Ending} {n k : Nat} (h : readN s.data.toList = some (n, k)) (g : w.grownBy w' (some b)) (he : e = .returned (.int .u64 (n : Int))) (r : RdT 77 b (s.extract k s.size) false w') : NumPost b s w e w' := by
  unfold NumPost; rw [h]; exact ⟨g, he, r⟩

set_option maxHeartbeats 4000000 in
theorem num_more (b : Nat) (s : ByteArray) (w : World) (h : RdT 77 b s false w) (hz : 0 < s.size) (hs : s.size ≤ 70368744177664) :
    Calls Tryd.prog 43 #[.pointer (some ⟨b, 0, none⟩)] w (NumPost b s w) := by
  obtain ⟨h0, h1, f0, f1⟩ := h.facts
  have q0 : ∀ n o, ((w.drewN n).alloc o).cell? ⟨b, 0, none⟩ = some (.string s) := fun n o => ((h.draws n).alloc o).facts.1
  have q1 : ∀ n o, ((w.drewN n).alloc o).frozen? ⟨b, 0, none⟩ = false := fun n o => ((h.draws n).alloc o).facts.2.2.1
  have H := Lib.hid h
  clear h
  have hc : s[0].toNat < 256 := s[0].toNat_lt
  have hl8 := lead_le s[0].toNat
  have hlow := bits_low s[0].toNat hc
  have hlb : lowB s[0].toNat ≤ 255 := by unfold lowB; omega
  have hnot : bits BinOp.xor IntKind.u8 IntKind.u8.max (s[0].toNat : Int) = 255 - (s[0].toNat : Int) := bits_not _ hc
  have HNOT := Lib.hid hnot
  clear hnot
  have BS := Lib.hid (readN_short s hz)
  have BD := Lib.hid (readN_sort s hz)
  have GD := Lib.hid (readN_good s hz)
  go_enter Tryd.func43, Tryd.ntmps43
  go_wp2
  go_step3
  go_wp2_with (go_at_call 36; refine (ok_any _ _ _ _ H.out).mono ?_; rintro e w' ⟨rfl, rfl⟩)
  go_step3
  go_wp2_with fail
  go_loopw [3, 4, 5] (fun n q i wr => ∃ k : Nat, k ≤ s.size ∧ i = .int .i64 (k : Int) ∧ ((k = 0 ∧ n = .int .u64 0 ∧ q = .int .i64 0 ∧ wr = w) ∨ (1 ≤ k ∧ k ≤ lead s[0].toNat ∧ (∃ v : Nat, n = .int .u64 (v : Int) ∧ v = valAt s s[0].toNat k) ∧ q = .int .i64 (lead s[0].toNat : Int) ∧ ∃ m, wr = w.drewN m)))
    (fun _ _ i _ => s.size + 1 - (intOf i).toNat)
  case atStart => exact ⟨0, Nat.zero_le _, rfl, .inl ⟨rfl, rfl, rfl, rfl⟩⟩
  case round =>
    obtain ⟨k, hk, rfl, hrel⟩ := hrel
    rcases hrel with ⟨rfl, rfl, rfl, rfl⟩ | ⟨hk1, hkl, ⟨v, rfl, hv⟩, rfl, m, rfl⟩
    · have ht : ((0 : Int) == (s.size : Int)) = false := by rw [beq_eq_false_iff_ne]; omega
      by_cases hl : 0 < lead s[0].toNat
      · go_wp2_with (go_at_call 57; refine (lz_any _ s[0].toNat hc HNOT.out _).mono ?_; rintro e w' ⟨rfl, rfl⟩)
        go_quiet ((go_at_call 55; exact Calls.quiet_of_same (ones_at _ hl8 _)))
        go_wp2_with fail
        go_roundw
        case rel => exact ⟨1, by omega, rfl, .inr ⟨by omega, by omega, ⟨_, rfl, rfl⟩, rfl, _, rfl⟩⟩
        case measure => simp [intOf]
      · have hl0 : lead s[0].toNat ≤ 0 := by omega
        have hv1 : valAt s s[0].toNat (lead s[0].toNat + 1) = lowB s[0].toNat := by rw [show lead s[0].toNat = 0 by omega]; rfl
        by_cases hn : sortN (lowB s[0].toNat) = lead s[0].toNat
        · have hn' : (((sortN (lowB s[0].toNat) : Nat) : Int) != ((lead s[0].toNat : Nat) : Int)) = false := by rw [bne_eq_false_iff_eq, hn]
          have hfin := GD.out (by omega) (by rw [hv1]; exact hn)
          rw [hv1] at hfin
          have HFIN := Lib.hid hfin
          clear hfin hv1 hn hl
          go_wp2_with (go_at_call 57; refine (lz_any _ s[0].toNat hc HNOT.out _).mono ?_; rintro e w' ⟨rfl, rfl⟩)
          go_quiet ((go_at_call 55; exact Calls.quiet_of_same (ones_at _ hl8 _)))
          go_wp2_with (go_at_call 54; refine (sortOf_any (lowB s[0].toNat) (by omega) _).mono ?_; rintro e w' ⟨rfl, rfl⟩)
          rw [Exit.noGoto_ret]
          go_ret
          refine NumPost.good HFIN.out ?_ rfl ?_
          · exact grown_set (grown_new (grown_draws (World.grownBy.refl _ _) _) _) _ _
          · exact ((H.out.draws _).alloc _).set0 _
        · have hn' : (((sortN (lowB s[0].toNat) : Nat) : Int) != ((lead s[0].toNat : Nat) : Int)) = true := by rw [bne_iff_ne]; omega
          have hfin := BD.out (by omega) (by rw [hv1]; exact hn)
          have HFIN := Lib.hid hfin
          clear hfin hv1 hn hl
          go_wp2_with (first | (go_at_call 57; refine (lz_any _ s[0].toNat hc HNOT.out _).mono ?_; rintro e w' ⟨rfl, rfl⟩))
          go_quiet ((go_at_call 55; exact Calls.quiet_of_same (ones_at _ hl8 _)))
          go_wp2_with (first | (go_at_call 54; refine (sortOf_any (lowB s[0].toNat) (by omega) _).mono ?_; rintro e w' ⟨rfl, rfl⟩) | (go_at_call 58; refine (stop_any b s false _ ((H.out.draws _).alloc _)).mono ?_; rintro e w' ⟨rfl, hr, hg⟩))
          rw [Exit.noGoto_ret]
          go_ret
          exact NumPost.bad HFIN.out (grown_then (grown_new (grown_draws (World.grownBy.refl _ _) _) _) hg) rfl hr
    · by_cases hend : k = s.size
      · have ht : ((k : Int) == (s.size : Int)) = true := by rw [beq_iff_eq]; omega
        have HFIN := Lib.hid (BS.out (by omega))
        have HR := Lib.hid (H.out.draws m)
        clear hend hv
        go_wp2_with (go_at_call 58; refine (stop_any b s false _ HR.out).mono ?_; rintro e w' ⟨rfl, hr, hg⟩)
        rw [Exit.noGoto_ret]
        go_ret
        exact NumPost.bad HFIN.out (grown_then (grown_draws (World.grownBy.refl _ _) _) hg) rfl hr
      · have hlt : k < s.size := by omega
        have ht : ((k : Int) == (s.size : Int)) = false := by rw [beq_eq_false_iff_ne]; omega
        have ht0 : ((k : Int) == 0) = false := by rw [beq_eq_false_iff_ne]; omega
        have hvb : v < 72057594037927936 := by rw [hv]; exact valAt_lt s _ k hc hkl
        have hx : s[k].toNat < 256 := s[k].toNat_lt
        obtain ⟨v', hv'⟩ : ∃ v' : Nat, v' = v * 256 + s[k].toNat := ⟨_, rfl⟩
        have hor : bits .or .u64 ((v : Int) * 256) (s[k].toNat : Int) = (v' : Int) := by rw [hv']; exact bits_join v _ hvb hx
        have hs' : v' = valAt s s[0].toNat (k + 1) := by rw [valAt_succ s _ k hk1 hlt, hv', hv]
        have hvb' : v' < 18446744073709551616 := by rw [hs']; exact valAt_lt' s _ (k + 1) hc (by omega)
        have HS := Lib.hid hs'
        clear hs' hv' hv hend
        by_cases hl : k < lead s[0].toNat
        · go_wp2_with fail
          go_roundw
          case rel => exact ⟨k + 1, by omega, by go_num, .inr ⟨by omega, by omega, ⟨v', rfl, HS.out⟩, rfl, m, rfl⟩⟩
          case measure => simp [intOf]; omega
        · have HK := Lib.hid (show k = lead s[0].toNat by omega)
          have hge : lead s[0].toNat ≤ k := by omega
          have HV := Lib.hid (show valAt s s[0].toNat (lead s[0].toNat + 1) = v' by rw [← HK.out]; exact HS.out.symm)
          by_cases hn : sortN v' = lead s[0].toNat
          · have hn' : (((sortN v' : Nat) : Int) != ((lead s[0].toNat : Nat) : Int)) = false := by rw [bne_eq_false_iff_eq, hn]
            have hfin := GD.out (by omega) (by rw [HV.out]; exact hn)
            rw [HV.out] at hfin
            have HFIN := Lib.hid hfin
            clear hfin hn hl
            go_wp2_with (go_at_call 54; refine (sortOf_any v' (by omega) _).mono ?_; rintro e w' ⟨rfl, rfl⟩)
            rw [Exit.noGoto_ret]
            go_ret
            refine NumPost.good HFIN.out ?_ rfl ?_
            · exact grown_set (grown_new (grown_draws (World.grownBy.refl _ _) _) _) _ _
            · exact ((H.out.draws _).alloc _).set0 _
          · have hn' : (((sortN v' : Nat) : Int) != ((lead s[0].toNat : Nat) : Int)) = true := by rw [bne_iff_ne]; omega
            have HFIN := Lib.hid (BD.out (by omega) (by rw [HV.out]; exact hn))
            clear hn hl
            go_wp2_with (first | (go_at_call 54; refine (sortOf_any v' (by omega) _).mono ?_; rintro e w' ⟨rfl, rfl⟩) | (go_at_call 58; refine (stop_any b s false _ ((H.out.draws _).alloc _)).mono ?_; rintro e w' ⟨rfl, hr, hg⟩))
            rw [Exit.noGoto_ret]
            go_ret
            exact NumPost.bad HFIN.out (grown_then (grown_new (grown_draws (World.grownBy.refl _ _) _) _) hg) rfl hr
end Go.Proofs.YtbeaaieaffdgeaaDoor
end
