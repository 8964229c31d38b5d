/- The program's reader: what it holds, OK, End, stop, NewReader; how many ones lead a byte. -/
import Derived.Test.YthndmaeplnhmlaaWireH
import Derived.Test.YthndmaeplnhmlaaShelf
namespace Go.Proofs.Ythndmaeplnhmlaa
open Go.RowKit
set_option linter.unusedVariables false

/-- How many ones lead a byte. -/
def lead (c : Nat) : Nat :=
  if c < 128 then 0 else if c < 192 then 1 else if c < 224 then 2 else if c < 240 then 3 else if c < 248 then 4 else if c < 252 then 5 else if c < 254 then 6 else if c < 255 then 7 else 8
theorem lead_le (c : Nat) : lead c ≤ 8 := by
  unfold lead; repeat' split
  all_goals omega
theorem lead_bitLen : ∀ c : Fin 256, (8 - (Lib.bitLen (255 - c.val) : Int)) = (lead c.val : Int) := by decide +kernel
theorem lz_any (x : Int) (c : Nat) (hc : c < 256) (hx : x = 255 - (c : Int)) (w : World) :
    Calls Try.prog 32 #[.int .u8 x] w fun e w' => e = .returned (.int .i64 (lead c : Nat)) ∧ w = w' := by
  refine (Try.bits_LeadingZeros8 x w (by omega) (by omega)).mono ?_
  rintro e w' ⟨rfl, rfl⟩
  refine ⟨ret_int ?_, rfl⟩
  rw [← lead_bitLen ⟨c, hc⟩]
  have : x.toNat = 255 - c := by omega
  rw [this]

/-- Block b holds a reader of type T (the program's, the document's): what is left to it, and whether it has stopped. -/
def RdT (T b : Nat) (s : ByteArray) (st : Bool) (w : World) : Prop := w.heap[b]? = some (.cells #[.string s, .bool st] T (0, 0))
theorem RdT.lt {T b : Nat} {s : ByteArray} {st : Bool} {w : World} (h : RdT T b s st w) : b < w.heap.size := by
  unfold RdT at h
  exact (Array.getElem?_eq_some_iff.1 h).1
theorem RdT.facts {T b : Nat} {s : ByteArray} {st : Bool} {w : World} (h : RdT T b s st w) :
    w.cell? ⟨b, 0, none⟩ = some (.string s) ∧ w.cell? ⟨b, 1, none⟩ = some (.bool st) ∧ w.frozen? ⟨b, 0, none⟩ = false ∧ w.frozen? ⟨b, 1, none⟩ = false := by
  unfold RdT at h
  refine ⟨?_, ?_, ?_, ?_⟩
  · simp [World.cell?, h]
  · simp [World.cell?, h]
  · simp [World.frozen?, h]
  · simp [World.frozen?, h]

set_option maxHeartbeats 400000 in
theorem ok_any (b : Nat) (s : ByteArray) (st : Bool) (w : World) (h : RdT 57 b s st w) :
    Calls Try.prog 24 #[.pointer (some ⟨b, 0, none⟩)] w fun e w' => e = .returned (.bool (!st)) ∧ w = w' := by
  obtain ⟨h0, h1, _, _⟩ := h.facts
  clear h
  go_enter Try.func24, Try.ntmps24
  go_wp2
  go_ret
  exact ⟨rfl, rfl⟩
set_option maxHeartbeats 400000 in
theorem ok_nil (w : World) :
    Calls Try.prog 24 #[.pointer none] w fun e w' => e = .returned (.bool false) ∧ w = w' := by
  go_enter Try.func24, Try.ntmps24
  go_wp2
  go_ret
  exact ⟨rfl, rfl⟩
set_option maxHeartbeats 400000 in
theorem end_nil (w : World) :
    Calls Try.prog 26 #[.pointer none] w fun e w' => e = .returned (.bool false) ∧ w = w' := by
  go_enter Try.func26, Try.ntmps26
  go_wp2_with (go_at_call 24; refine (ok_nil _).mono ?_; rintro e w' ⟨rfl, rfl⟩)
  go_ret
  exact ⟨rfl, rfl⟩
set_option maxHeartbeats 400000 in
theorem end_any (b : Nat) (s : ByteArray) (st : Bool) (w : World) (h : RdT 57 b s st w) :
    Calls Try.prog 26 #[.pointer (some ⟨b, 0, none⟩)] w fun e w' => e = .returned (.bool (!st && s.toList.isEmpty)) ∧ w = w' := by
  obtain ⟨h0, h1, _, _⟩ := h.facts
  have H := Lib.hid h
  clear h
  cases st
  all_goals
    go_enter Try.func26, Try.ntmps26
    go_wp2_with (go_at_call 24; refine (ok_any _ _ _ _ H.out).mono ?_; rintro e w' ⟨rfl, rfl⟩)
    go_ret
    exact ⟨rfl, rfl⟩
set_option maxHeartbeats 400000 in
theorem new_any (s : ByteArray) (w : World) :
    Calls Try.prog 17 #[.string s] w fun e w' => e = .returned (.pointer (some ⟨w.heap.size, 0, none⟩)) ∧ w.alloc (.cells #[.string s, .bool false] 57 (0, 0)) = w' := by
  go_enter Try.func17, Try.ntmps17
  go_wp2
  go_ret
  exact ⟨rfl, rfl⟩
theorem grown_set {w w' : World} {b : Nat} (h : w.grownBy w' (some b)) (o : Nat) (u : Value) : w.grownBy (w'.setCell ⟨b, o, none⟩ u) (some b) :=
  ⟨h.os, h.tape, h.output, by simpa [World.setCell] using h.size, fun k hk hne => (Below.heap_setCell w' ⟨b, o, none⟩ u k (fun e => hne (by rw [e]))).trans (h.block k hk hne)⟩
theorem grown_new {w w' : World} {r : Option Nat} (h : w.grownBy w' r) (x : Obj) : w.grownBy (w'.alloc x) r :=
  ⟨h.os, h.tape, h.output, Nat.le_trans h.size (by simp), fun k hk hne => (Below.heap_alloc w' x k (Nat.lt_of_lt_of_le hk h.size)).trans (h.block k hk hne)⟩
theorem grown_draws {w w' : World} {r : Option Nat} (h : w.grownBy w' r) (n : Nat) : w.grownBy (w'.drewN n) r := ⟨h.os, h.tape, h.output, h.size, h.block⟩
theorem grown_then {u v w : World} {r : Option Nat} (h : u.grownBy v r) (k : v.grownBy w r) : u.grownBy w r :=
  ⟨k.os.trans h.os, k.tape.trans h.tape, k.output.trans h.output, Nat.le_trans h.size k.size, fun i hi hne => (k.block i (Nat.lt_of_lt_of_le hi h.size) hne).trans (h.block i hi hne)⟩
theorem grown_below {w w' : World} (h : Below w.heap.size w w') (r : Option Nat) : w.grownBy w' r := ⟨h.os, h.tape, h.output, h.size, fun k hk _ => h.block k hk⟩
theorem RdT.kept {T b c : Nat} {s : ByteArray} {st : Bool} {w w' : World} (h : RdT T b s st w) (g : w.grownBy w' (some c)) (hne : b ≠ c) : RdT T b s st w' :=
  (g.block b h.lt (fun e => hne (by injection e))).trans h
theorem RdT.below {T b : Nat} {s : ByteArray} {st : Bool} {w w' : World} (h : RdT T b s st w) (g : Below w.heap.size w w') : RdT T b s st w' := (g.block b h.lt).trans h
theorem RdT.draws {T b : Nat} {s : ByteArray} {st : Bool} {w : World} (h : RdT T b s st w) (n : Nat) : RdT T b s st (w.drewN n) := h
theorem RdT.set0 {T b : Nat} {s : ByteArray} {st : Bool} {w : World} (h : RdT T b s st w) (t : ByteArray) : RdT T b t st (w.setCell ⟨b, 0, none⟩ (.string t)) := by
  unfold RdT at h ⊢
  show (w.heap.modify b _)[b]? = _
  rw [Array.getElem?_modify, if_pos rfl, h]
  rfl
theorem RdT.set1 {T b : Nat} {s : ByteArray} {st : Bool} {w : World} (h : RdT T b s st w) (t : Bool) : RdT T b s t (w.setCell ⟨b, 1, none⟩ (.bool t)) := by
  unfold RdT at h ⊢
  show (w.heap.modify b _)[b]? = _
  rw [Array.getElem?_modify, if_pos rfl, h]
  rfl
theorem RdT.alloc {T b : Nat} {s : ByteArray} {st : Bool} {w : World} (h : RdT T b s st w) (o : Obj) : RdT T b s st (w.alloc o) :=
  (Below.heap_alloc w o b h.lt).trans h
theorem RdT.new (T : Nat) (s : ByteArray) (st : Bool) (w : World) : RdT T w.heap.size s st (w.alloc (.cells #[.string s, .bool st] T (0, 0))) := by
  unfold RdT
  show (w.heap.push _)[w.heap.size]? = _
  simp

set_option maxHeartbeats 400000 in
theorem stop_any (b : Nat) (s : ByteArray) (st : Bool) (w : World) (h : RdT 57 b s st w) :
    Calls Try.prog 35 #[.pointer (some ⟨b, 0, none⟩)] w fun e w' => e = .returned (.tuple #[]) ∧ RdT 57 b ByteArray.empty true w' ∧ w.grownBy w' (some b) := by
  obtain ⟨h0, h1, f0, f1⟩ := h.facts
  have H := Lib.hid h
  clear h
  go_enter Try.func35, Try.ntmps35
  go_wp2
  go_end0
  exact ⟨rfl, (H.out.set0 _).set1 _, grown_set (grown_set (World.grownBy.refl _ _) _ _) _ _⟩
end Go.Proofs.Ythndmaeplnhmlaa
