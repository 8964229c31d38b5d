/- Texts that belong together: WireA, WireB, WireH, WireC, WireE, PoolS, WireF, WireG, WireI. -/
import Derived.Test.YtbeaaieaffdgeaaGreatDoorProg
import Derived.WalkKit
import Derived.WalkSpells
import Derived.WalkLawsBesides
import Derived.Lib.Hide
import Derived.Laws.CopyOwn
import Derived.Handy
import Derived.Lib.OthersKept
import Derived.Lib.Strings
import Derived.Lib.Builder
import Derived.Lib.AppendStr
import Derived.Lib.UnsafeStr
import Derived.Laws.Externs
import Derived.Laws.Pointers
import Derived.Test.YtbeaaieaffdgeaaGreatDoorShelf
import Derived.Deep.QuietTactic
import Derived.BigQuiet
import Derived.Deep.LoopGhost
/- Contracts of the small functions of wire and of the document's own answer: what each hands back, and that the world stays. -/
section
namespace Go.Proofs.YtbeaaieaffdgeaaGreatDoor
open Go.RowKit
set_option linter.unusedVariables false

set_option maxHeartbeats 400000 in
theorem ones_any (k : Nat) (hk : k ≤ 8) (w : World) :
    Calls Tryz.prog 82 #[.int .i64 (k : Int)] w fun e w' => e = .returned (.int .u8 ((256 - 2 ^ (8 - k) : Nat) : Int)) ∧ w = w' := by
  have h : k = 0 ∨ k = 1 ∨ k = 2 ∨ k = 3 ∨ k = 4 ∨ k = 5 ∨ k = 6 ∨ k = 7 ∨ k = 8 := by omega
  rcases h with rfl | rfl | rfl | rfl | rfl | rfl | rfl | rfl | rfl
  all_goals
    go_enter Tryz.func82, Tryz.ntmps82
    go_wp2
    go_ret
    exact ⟨rfl, rfl⟩
end Go.Proofs.YtbeaaieaffdgeaaGreatDoor
end
/- The sort of a number: the closure's answer, and the first sort with room. -/
section
namespace Go.Proofs.YtbeaaieaffdgeaaGreatDoor
open Go.RowKit
set_option linter.unusedVariables false

/-- Is there room for n in sort k? -/
def roomB (n k : Nat) : Bool := decide (k = 8) || decide (n < 2 ^ (7 + 7 * k))
/-- The first sort with room. -/
def sortN (n : Nat) : Nat :=
  if n < 128 then 0 else if n < 16384 then 1 else if n < 2097152 then 2 else if n < 268435456 then 3 else if n < 34359738368 then 4
  else if n < 4398046511104 then 5 else if n < 562949953421312 then 6 else if n < 72057594037927936 then 7 else 8
theorem sortN_le (n : Nat) : sortN n ≤ 8 := by
  unfold sortN; repeat' split
  all_goals omega
theorem roomB_sortN (n : Nat) : roomB n (sortN n) = true := by
  unfold sortN; repeat' split
  all_goals (simp [roomB]; try omega)
theorem roomB_lt (n k : Nat) (h : k < sortN n) : roomB n k = false := by
  have h8 := sortN_le n
  have hk : k = 0 ∨ k = 1 ∨ k = 2 ∨ k = 3 ∨ k = 4 ∨ k = 5 ∨ k = 6 ∨ k = 7 := by omega
  unfold sortN at h
  repeat' split at h
  all_goals
    rcases hk with rfl | rfl | rfl | rfl | rfl | rfl | rfl | rfl
    all_goals (first | omega | (simp [roomB]; omega))

theorem ret_bool {a b : Bool} (h : a = b) : Ending.returned (.bool a) = .returned (.bool b) := by rw [h]
theorem ret_int {k : IntKind} {a b : Int} (h : a = b) : Ending.returned (.int k a) = .returned (.int k b) := by rw [h]

set_option maxHeartbeats 400000 in
theorem room_at (n : Nat) (hn : n ≤ 18446744073709551615) (b : Nat) (k : Nat) (hk : k ≤ 8) (w : World) (hc : w.cell? ⟨b, 0, none⟩ = some (.int .u64 (n : Int))) :
    Calls Tryz.prog 93 #[.int .i64 (k : Int), .pointer (some ⟨b, 0, none⟩)] w fun e w' => e = .returned (.bool (roomB n k)) ∧ w = w' := by
  have h : k = 0 ∨ k = 1 ∨ k = 2 ∨ k = 3 ∨ k = 4 ∨ k = 5 ∨ k = 6 ∨ k = 7 ∨ k = 8 := by omega
  rcases h with rfl | rfl | rfl | rfl | rfl | rfl | rfl | rfl | rfl
  all_goals
    go_enter Tryz.func93, Tryz.ntmps93
    go_wp2
    go_ret
    exact ⟨ret_bool (by rw [Bool.eq_iff_iff]; simp [roomB]; try omega), rfl⟩
theorem room_yes (n : Nat) (hn : n ≤ 18446744073709551615) (b : Nat) (k : Nat) (hk : k ≤ 8) (w : World) (hc : w.cell? ⟨b, 0, none⟩ = some (.int .u64 (n : Int))) (h : roomB n k = true) :
    Calls Tryz.prog 93 #[.int .i64 (k : Int), .pointer (some ⟨b, 0, none⟩)] w fun e w' => e = .returned (.bool true) ∧ w = w' :=
  (room_at n hn b k hk w hc).mono fun _ _ hh => by rw [h] at hh; exact hh
theorem room_no (n : Nat) (hn : n ≤ 18446744073709551615) (b : Nat) (k : Nat) (hk : k ≤ 8) (w : World) (hc : w.cell? ⟨b, 0, none⟩ = some (.int .u64 (n : Int))) (h : roomB n k = false) :
    Calls Tryz.prog 93 #[.int .i64 (k : Int), .pointer (some ⟨b, 0, none⟩)] w fun e w' => e = .returned (.bool false) ∧ w = w' :=
  (room_at n hn b k hk w hc).mono fun _ _ hh => by rw [h] at hh; exact hh

set_option maxHeartbeats 400000 in
theorem sortOf_any (n : Nat) (hn : n ≤ 18446744073709551615) (w : World) :
    Calls Tryz.prog 81 #[.int .u64 (n : Int)] w fun e w' => e = .returned (.int .i64 (sortN n : Nat)) ∧ w.alloc (.cells #[.int .u64 (n : Int)] 78 (0, 0)) = w' := by
  have hs := sortN_le n
  go_enter Tryz.func81, Tryz.ntmps81
  go_wp2
  go_outline
  go_loop [4] (fun s => ∃ k : Nat, k ≤ sortN n ∧ s = .int .i64 k) (fun s => 8 - (intOf s).toNat)
  case atStart => exact ⟨0, Nat.zero_le _, rfl⟩
  case round =>
    obtain ⟨k, hk, rfl⟩ := hrel
    by_cases hlt : k < sortN n
    · have hr := roomB_lt n k hlt
      go_wp2_with (go_at_call 93; refine (room_no n hn _ k (by omega) _ (by simp) hr).mono ?_; rintro e w' ⟨rfl, rfl⟩)
      go_round
      case rel => exact ⟨k + 1, by omega, by go_num⟩
      case measure => simp [intOf]; omega
    · obtain rfl : k = sortN n := by omega
      have hr := roomB_sortN n
      go_wp2_with (go_at_call 93; refine (room_yes n hn _ _ (by omega) _ (by simp) hr).mono ?_; rintro e w' ⟨rfl, rfl⟩)
      go_ret
      exact ⟨rfl, rfl⟩
end Go.Proofs.YtbeaaieaffdgeaaGreatDoor
end
/- Plain words: the bytes of a number; a row of bytes made a string. -/
section
namespace Go.Proofs.YtbeaaieaffdgeaaGreatDoor
open Go.RowKit
set_option linter.unusedVariables false

/-- The s lowest bytes of n, the highest first. -/
def beL : Nat → Nat → List UInt8
  | 0, _ => []
  | s + 1, n => UInt8.ofNat (n / 256 ^ s % 256) :: beL s n
/-- A number's bytes. -/
def numL (n : Nat) : List UInt8 := UInt8.ofNat (256 - 2 ^ (8 - sortN n) + n / 256 ^ sortN n) :: beL (sortN n) n
def numS (n : Nat) : ByteArray := ⟨(numL n).toArray⟩

theorem or_join (x y i : Nat) (hx : x < 256) (hx' : x % 2 ^ i = 0) (hy : y < 2 ^ i) (hi : i ≤ 8) : bits .or .u8 (x : Int) (y : Int) = ((x + y : Nat) : Int) := by
  have h : 2 ^ i ≤ 2 ^ 8 := Nat.pow_le_pow_right (by omega) hi
  rw [u8_or_nat x y hx (by omega), nat_join i x y hx' hy]

theorem foldl_push (ns : List Int) : ∀ s : ByteArray, ns.foldl (fun r n => r.push (UInt8.ofNat n.toNat)) s = ⟨s.data ++ (ns.map fun n => UInt8.ofNat n.toNat).toArray⟩ := by
  induction ns with
  | nil => intro s; simp
  | cons n ns ih =>
    intro s
    rw [List.foldl_cons, ih]
    have h : (s.push (UInt8.ofNat n.toNat)).data = s.data.push (UInt8.ofNat n.toNat) := rfl
    rw [h]
    congr 1
    apply Array.ext'
    simp
theorem conv_bytes {P : Program} (w : World) (src dst e : TypeId) (a : Addr) (l c : Nat) (ns : List Int) (bs : ByteArray)
    (hs : P.underlying src = some (.slice e)) (he : P.underlying e = some (.int .u8)) (hd : P.underlying dst = some .string) (hl : ns.length = l)
    (hc : ∀ j v, (ns.map (Value.int .u8))[j]? = some v → w.cell? (a.add j) = some v) (hb : (ns.map fun n => UInt8.ofNat n.toNat) = bs.data.toList) :
    (convert src dst (.slice (some a) l c)).run P w = .ok (.string bs) w := by
  rw [run_convert_bytes_string w src dst e (some a) l c hs he hd]
  have h := run_loadCells_list (P := P) w a (ns.map (Value.int .u8)) hc
  rw [List.length_map, hl] at h
  rw [run_bytesToString w a l c ns h, foldl_push, hb]
  cases bs
  simp
end Go.Proofs.YtbeaaieaffdgeaaGreatDoor
end
/- The bytes of a number, as the program lays them: sort by sort. -/
section
namespace Go.Proofs.YtbeaaieaffdgeaaGreatDoor
open Go.RowKit
set_option linter.unusedVariables false

set_option maxRecDepth 100000 in
set_option maxHeartbeats 1000000 in
theorem numBytes_0 (n : Nat) (hl : 0 ≤ n) (hh : n ≤ 127) (w : World) :
    Calls Tryz.prog 61 #[.int .u64 (n : Int)] w fun e w' => e = .returned (.string (numS n)) ∧ Below w.heap.size w w' := by
  have hs : sortN n = 0 := by
    unfold sortN; repeat' split
    all_goals omega
  have h3 : ∀ W : World, Calls Tryz.prog 81 #[.int .u64 (n : Int)] W fun e w' => e = .returned (.int .i64 0) ∧ W.alloc (.cells #[.int .u64 (n : Int)] 78 (0, 0)) = w' := by
    intro W
    have := sortOf_any n (by omega) W
    rw [hs] at this
    exact this
  have h4 : ∀ W : World, Calls Tryz.prog 82 #[.int .i64 0] W fun e w' => e = .returned (.int .u8 0) ∧ W = w' := by
    intro W
    have := ones_any 0 (by omega) W
    exact this
  have H3 := Lib.hid h3
  have H4 := Lib.hid h4
  clear h3 h4
  have hor : bits .or .u8 0 ((n : Int)) = 0 + (n : Int) := by
    have e : (n : Int) = ((n / 1 : Nat) : Int) := by omega
    rw [e]
    exact (or_join 0 (n / 1) 7 (by omega) (by omega) (by omega) (by omega))
  have hmk : ∀ W : World, (Instr.makeSlice 44 (.int .i64 1) (.int .i64 1)).run Tryz.prog W = .ok (.slice (some ⟨W.heap.size, 0, none⟩) 1 1) (W.alloc (.cells #[.int .u8 0] 5 (0, 0))) := fun W => by kernel_rfl
  have hfin : numL n = [UInt8.ofNat (0 + n / 1)] := by
    unfold numL; rw [hs]; simp [beL]
  have HF := Lib.hid hfin
  have HS := Lib.hid hs
  clear hs hfin
  go_enter Tryz.func61, Tryz.ntmps61
  go_wp2_with (go_at_call 81; refine (H3.out _).mono ?_; rintro e w' ⟨rfl, rfl⟩)
  refine wp_loop_rounds 1 ?_
  repeat any_goals (rw [rounds_succ]; go_wp2_with (go_at_call 82; refine (H4.out _).mono ?_; rintro e w' ⟨rfl, rfl⟩))
  rw [run_copy_cells _ 44 44 3 5 (w.heap.size + 1 + 1) 0 1 1 ⟨w.heap.size, 0, none⟩ 9 9 [.int .u8 (0 + (n : Int))]
    Tryz.underlying44 (by kernel_rfl) rfl ?c1 ?c2 ?c3 ?c4]
  case c1 =>
    intro j v h
    have hj : j < 1 := by
      have := (List.getElem?_eq_some_iff.1 h).1
      simpa using this
    have hj : j = 0 := by omega
    rcases hj with rfl
    all_goals
      simp only [List.getElem?_cons_zero, Option.some.injEq] at h
      subst h
      simp only [Addr.add]
      go_simp
  case c2 =>
    intro j hj
    have hj : j = 0 := by simp at hj; omega
    rcases hj with rfl
    all_goals go_simp
  case c3 =>
    intro j hj
    go_simp
  case c4 =>
    intro v hv
    simp only [List.mem_cons, List.not_mem_nil, or_false] at hv
    rcases hv with rfl
    all_goals rfl
  simp only [World.setCells]
  go_simp
  go_wp2
  rw [conv_bytes _ 44 9 5 ⟨w.heap.size + 1 + 1, 0, none⟩ 1 1 [0 + (n : Int)] (numS n)
    Tryz.underlying44 Tryz.underlying5 Tryz.underlying9 rfl ?d1 ?d2]
  case d1 =>
    intro j v h
    have hj : j < 1 := by
      have := (List.getElem?_eq_some_iff.1 h).1
      simpa using this
    have hj : j = 0 := by omega
    rcases hj with rfl
    all_goals
      simp only [List.map_cons, List.getElem?_cons_zero, Option.some.injEq] at h
      subst h
      simp only [Addr.add]
      go_simp
  case d2 =>
    unfold numS
    rw [HF.out]
    simp only [List.map_cons, List.map_nil]
    refine congr (congrArg List.cons (congrArg UInt8.ofNat (by omega))) ?_ ; rfl
  go_wp2
  go_ret
  exact ⟨rfl, by go_grown⟩

set_option maxRecDepth 100000 in
set_option maxHeartbeats 1000000 in
theorem numBytes_1 (n : Nat) (hl : 128 ≤ n) (hh : n ≤ 16383) (w : World) :
    Calls Tryz.prog 61 #[.int .u64 (n : Int)] w fun e w' => e = .returned (.string (numS n)) ∧ Below w.heap.size w w' := by
  have hs : sortN n = 1 := by
    unfold sortN; repeat' split
    all_goals omega
  have h3 : ∀ W : World, Calls Tryz.prog 81 #[.int .u64 (n : Int)] W fun e w' => e = .returned (.int .i64 1) ∧ W.alloc (.cells #[.int .u64 (n : Int)] 78 (0, 0)) = w' := by
    intro W
    have := sortOf_any n (by omega) W
    rw [hs] at this
    exact this
  have h4 : ∀ W : World, Calls Tryz.prog 82 #[.int .i64 1] W fun e w' => e = .returned (.int .u8 128) ∧ W = w' := by
    intro W
    have := ones_any 1 (by omega) W
    exact this
  have H3 := Lib.hid h3
  have H4 := Lib.hid h4
  clear h3 h4
  have hor : bits .or .u8 128 ((n : Int) / 256) = 128 + (n : Int) / 256 := by
    have e : (n : Int) / 256 = ((n / 256 : Nat) : Int) := by omega
    rw [e]
    exact (or_join 128 (n / 256) 6 (by omega) (by omega) (by omega) (by omega))
  have hmk : ∀ W : World, (Instr.makeSlice 44 (.int .i64 2) (.int .i64 2)).run Tryz.prog W = .ok (.slice (some ⟨W.heap.size, 0, none⟩) 2 2) (W.alloc (.cells #[.int .u8 0, .int .u8 0] 5 (0, 0))) := fun W => by kernel_rfl
  have hfin : numL n = [UInt8.ofNat (128 + n / 256), UInt8.ofNat (n / 1 % 256)] := by
    unfold numL; rw [hs]; simp [beL]
  have HF := Lib.hid hfin
  have HS := Lib.hid hs
  clear hs hfin
  go_enter Tryz.func61, Tryz.ntmps61
  go_wp2_with (go_at_call 81; refine (H3.out _).mono ?_; rintro e w' ⟨rfl, rfl⟩)
  refine wp_loop_rounds 2 ?_
  repeat any_goals (rw [rounds_succ]; go_wp2_with (go_at_call 82; refine (H4.out _).mono ?_; rintro e w' ⟨rfl, rfl⟩))
  rw [run_copy_cells _ 44 44 3 5 (w.heap.size + 1 + 1) 0 2 2 ⟨w.heap.size, 0, none⟩ 9 9 [.int .u8 (128 + (n : Int) / 256), .int .u8 ((n : Int) % 256)]
    Tryz.underlying44 (by kernel_rfl) rfl ?c1 ?c2 ?c3 ?c4]
  case c1 =>
    intro j v h
    have hj : j < 2 := by
      have := (List.getElem?_eq_some_iff.1 h).1
      simpa using this
    have hj : j = 0 ∨ j = 1 := by omega
    rcases hj with rfl | rfl
    all_goals
      simp only [List.getElem?_cons_zero, List.getElem?_cons_succ, Option.some.injEq] at h
      subst h
      simp only [Addr.add]
      go_simp
  case c2 =>
    intro j hj
    have hj : j = 0 ∨ j = 1 := by simp at hj; omega
    rcases hj with rfl | rfl
    all_goals go_simp
  case c3 =>
    intro j hj
    go_simp
  case c4 =>
    intro v hv
    simp only [List.mem_cons, List.not_mem_nil, or_false] at hv
    rcases hv with rfl | rfl
    all_goals rfl
  simp only [World.setCells]
  go_simp
  go_wp2
  rw [conv_bytes _ 44 9 5 ⟨w.heap.size + 1 + 1, 0, none⟩ 2 2 [128 + (n : Int) / 256, (n : Int) % 256] (numS n)
    Tryz.underlying44 Tryz.underlying5 Tryz.underlying9 rfl ?d1 ?d2]
  case d1 =>
    intro j v h
    have hj : j < 2 := by
      have := (List.getElem?_eq_some_iff.1 h).1
      simpa using this
    have hj : j = 0 ∨ j = 1 := by omega
    rcases hj with rfl | rfl
    all_goals
      simp only [List.map_cons, List.getElem?_cons_zero, List.getElem?_cons_succ, Option.some.injEq] at h
      subst h
      simp only [Addr.add]
      go_simp
  case d2 =>
    unfold numS
    rw [HF.out]
    simp only [List.map_cons, List.map_nil]
    refine congr (congrArg List.cons (congrArg UInt8.ofNat (by omega))) ?_ ;refine congr (congrArg List.cons (congrArg UInt8.ofNat (by omega))) ?_ ; rfl
  go_wp2
  go_ret
  exact ⟨rfl, by go_grown⟩

set_option maxRecDepth 100000 in
set_option maxHeartbeats 1000000 in
theorem numBytes_2 (n : Nat) (hl : 16384 ≤ n) (hh : n ≤ 2097151) (w : World) :
    Calls Tryz.prog 61 #[.int .u64 (n : Int)] w fun e w' => e = .returned (.string (numS n)) ∧ Below w.heap.size w w' := by
  have hs : sortN n = 2 := by
    unfold sortN; repeat' split
    all_goals omega
  have h3 : ∀ W : World, Calls Tryz.prog 81 #[.int .u64 (n : Int)] W fun e w' => e = .returned (.int .i64 2) ∧ W.alloc (.cells #[.int .u64 (n : Int)] 78 (0, 0)) = w' := by
    intro W
    have := sortOf_any n (by omega) W
    rw [hs] at this
    exact this
  have h4 : ∀ W : World, Calls Tryz.prog 82 #[.int .i64 2] W fun e w' => e = .returned (.int .u8 192) ∧ W = w' := by
    intro W
    have := ones_any 2 (by omega) W
    exact this
  have H3 := Lib.hid h3
  have H4 := Lib.hid h4
  clear h3 h4
  have hor : bits .or .u8 192 ((n : Int) / 256 / 256) = 192 + (n : Int) / 256 / 256 := by
    have e : (n : Int) / 256 / 256 = ((n / 65536 : Nat) : Int) := by omega
    rw [e]
    exact (or_join 192 (n / 65536) 5 (by omega) (by omega) (by omega) (by omega))
  have hmk : ∀ W : World, (Instr.makeSlice 44 (.int .i64 3) (.int .i64 3)).run Tryz.prog W = .ok (.slice (some ⟨W.heap.size, 0, none⟩) 3 3) (W.alloc (.cells #[.int .u8 0, .int .u8 0, .int .u8 0] 5 (0, 0))) := fun W => by kernel_rfl
  have hfin : numL n = [UInt8.ofNat (192 + n / 65536), UInt8.ofNat (n / 256 % 256), UInt8.ofNat (n / 1 % 256)] := by
    unfold numL; rw [hs]; simp [beL]
  have HF := Lib.hid hfin
  have HS := Lib.hid hs
  clear hs hfin
  go_enter Tryz.func61, Tryz.ntmps61
  go_wp2_with (go_at_call 81; refine (H3.out _).mono ?_; rintro e w' ⟨rfl, rfl⟩)
  refine wp_loop_rounds 3 ?_
  repeat any_goals (rw [rounds_succ]; go_wp2_with (go_at_call 82; refine (H4.out _).mono ?_; rintro e w' ⟨rfl, rfl⟩))
  rw [run_copy_cells _ 44 44 3 5 (w.heap.size + 1 + 1) 0 3 3 ⟨w.heap.size, 0, none⟩ 9 9 [.int .u8 (192 + (n : Int) / 256 / 256), .int .u8 ((n : Int) / 256 % 256), .int .u8 ((n : Int) % 256)]
    Tryz.underlying44 (by kernel_rfl) rfl ?c1 ?c2 ?c3 ?c4]
  case c1 =>
    intro j v h
    have hj : j < 3 := by
      have := (List.getElem?_eq_some_iff.1 h).1
      simpa using this
    have hj : j = 0 ∨ j = 1 ∨ j = 2 := by omega
    rcases hj with rfl | rfl | rfl
    all_goals
      simp only [List.getElem?_cons_zero, List.getElem?_cons_succ, Option.some.injEq] at h
      subst h
      simp only [Addr.add]
      go_simp
  case c2 =>
    intro j hj
    have hj : j = 0 ∨ j = 1 ∨ j = 2 := by simp at hj; omega
    rcases hj with rfl | rfl | rfl
    all_goals go_simp
  case c3 =>
    intro j hj
    go_simp
  case c4 =>
    intro v hv
    simp only [List.mem_cons, List.not_mem_nil, or_false] at hv
    rcases hv with rfl | rfl | rfl
    all_goals rfl
  simp only [World.setCells]
  go_simp
  go_wp2
  rw [conv_bytes _ 44 9 5 ⟨w.heap.size + 1 + 1, 0, none⟩ 3 3 [192 + (n : Int) / 256 / 256, (n : Int) / 256 % 256, (n : Int) % 256] (numS n)
    Tryz.underlying44 Tryz.underlying5 Tryz.underlying9 rfl ?d1 ?d2]
  case d1 =>
    intro j v h
    have hj : j < 3 := by
      have := (List.getElem?_eq_some_iff.1 h).1
      simpa using this
    have hj : j = 0 ∨ j = 1 ∨ j = 2 := by omega
    rcases hj with rfl | rfl | rfl
    all_goals
      simp only [List.map_cons, List.getElem?_cons_zero, List.getElem?_cons_succ, Option.some.injEq] at h
      subst h
      simp only [Addr.add]
      go_simp
  case d2 =>
    unfold numS
    rw [HF.out]
    simp only [List.map_cons, List.map_nil]
    refine congr (congrArg List.cons (congrArg UInt8.ofNat (by omega))) ?_ ;refine congr (congrArg List.cons (congrArg UInt8.ofNat (by omega))) ?_ ;refine congr (congrArg List.cons (congrArg UInt8.ofNat (by omega))) ?_ ; rfl
  go_wp2
  go_ret
  exact ⟨rfl, by go_grown⟩

set_option maxRecDepth 100000 in
set_option maxHeartbeats 1000000 in
theorem numBytes_3 (n : Nat) (hl : 2097152 ≤ n) (hh : n ≤ 268435455) (w : World) :
    Calls Tryz.prog 61 #[.int .u64 (n : Int)] w fun e w' => e = .returned (.string (numS n)) ∧ Below w.heap.size w w' := by
  have hs : sortN n = 3 := by
    unfold sortN; repeat' split
    all_goals omega
  have h3 : ∀ W : World, Calls Tryz.prog 81 #[.int .u64 (n : Int)] W fun e w' => e = .returned (.int .i64 3) ∧ W.alloc (.cells #[.int .u64 (n : Int)] 78 (0, 0)) = w' := by
    intro W
    have := sortOf_any n (by omega) W
    rw [hs] at this
    exact this
  have h4 : ∀ W : World, Calls Tryz.prog 82 #[.int .i64 3] W fun e w' => e = .returned (.int .u8 224) ∧ W = w' := by
    intro W
    have := ones_any 3 (by omega) W
    exact this
  have H3 := Lib.hid h3
  have H4 := Lib.hid h4
  clear h3 h4
  have hor : bits .or .u8 224 ((n : Int) / 256 / 256 / 256) = 224 + (n : Int) / 256 / 256 / 256 := by
    have e : (n : Int) / 256 / 256 / 256 = ((n / 16777216 : Nat) : Int) := by omega
    rw [e]
    exact (or_join 224 (n / 16777216) 4 (by omega) (by omega) (by omega) (by omega))
  have hmk : ∀ W : World, (Instr.makeSlice 44 (.int .i64 4) (.int .i64 4)).run Tryz.prog W = .ok (.slice (some ⟨W.heap.size, 0, none⟩) 4 4) (W.alloc (.cells #[.int .u8 0, .int .u8 0, .int .u8 0, .int .u8 0] 5 (0, 0))) := fun W => by kernel_rfl
  have hfin : numL n = [UInt8.ofNat (224 + n / 16777216), UInt8.ofNat (n / 65536 % 256), UInt8.ofNat (n / 256 % 256), UInt8.ofNat (n / 1 % 256)] := by
    unfold numL; rw [hs]; simp [beL]
  have HF := Lib.hid hfin
  have HS := Lib.hid hs
  clear hs hfin
  go_enter Tryz.func61, Tryz.ntmps61
  go_wp2_with (go_at_call 81; refine (H3.out _).mono ?_; rintro e w' ⟨rfl, rfl⟩)
  refine wp_loop_rounds 4 ?_
  repeat any_goals (rw [rounds_succ]; go_wp2_with (go_at_call 82; refine (H4.out _).mono ?_; rintro e w' ⟨rfl, rfl⟩))
  rw [run_copy_cells _ 44 44 3 5 (w.heap.size + 1 + 1) 0 4 4 ⟨w.heap.size, 0, none⟩ 9 9 [.int .u8 (224 + (n : Int) / 256 / 256 / 256), .int .u8 ((n : Int) / 256 / 256 % 256), .int .u8 ((n : Int) / 256 % 256), .int .u8 ((n : Int) % 256)]
    Tryz.underlying44 (by kernel_rfl) rfl ?c1 ?c2 ?c3 ?c4]
  case c1 =>
    intro j v h
    have hj : j < 4 := by
      have := (List.getElem?_eq_some_iff.1 h).1
      simpa using this
    have hj : j = 0 ∨ j = 1 ∨ j = 2 ∨ j = 3 := by omega
    rcases hj with rfl | rfl | rfl | rfl
    all_goals
      simp only [List.getElem?_cons_zero, List.getElem?_cons_succ, Option.some.injEq] at h
      subst h
      simp only [Addr.add]
      go_simp
  case c2 =>
    intro j hj
    have hj : j = 0 ∨ j = 1 ∨ j = 2 ∨ j = 3 := by simp at hj; omega
    rcases hj with rfl | rfl | rfl | rfl
    all_goals go_simp
  case c3 =>
    intro j hj
    go_simp
  case c4 =>
    intro v hv
    simp only [List.mem_cons, List.not_mem_nil, or_false] at hv
    rcases hv with rfl | rfl | rfl | rfl
    all_goals rfl
  simp only [World.setCells]
  go_simp
  go_wp2
  rw [conv_bytes _ 44 9 5 ⟨w.heap.size + 1 + 1, 0, none⟩ 4 4 [224 + (n : Int) / 256 / 256 / 256, (n : Int) / 256 / 256 % 256, (n : Int) / 256 % 256, (n : Int) % 256] (numS n)
    Tryz.underlying44 Tryz.underlying5 Tryz.underlying9 rfl ?d1 ?d2]
  case d1 =>
    intro j v h
    have hj : j < 4 := by
      have := (List.getElem?_eq_some_iff.1 h).1
      simpa using this
    have hj : j = 0 ∨ j = 1 ∨ j = 2 ∨ j = 3 := by omega
    rcases hj with rfl | rfl | rfl | rfl
    all_goals
      simp only [List.map_cons, List.getElem?_cons_zero, List.getElem?_cons_succ, Option.some.injEq] at h
      subst h
      simp only [Addr.add]
      go_simp
  case d2 =>
    unfold numS
    rw [HF.out]
    simp only [List.map_cons, List.map_nil]
    refine congr (congrArg List.cons (congrArg UInt8.ofNat (by omega))) ?_ ;refine congr (congrArg List.cons (congrArg UInt8.ofNat (by omega))) ?_ ;refine congr (congrArg List.cons (congrArg UInt8.ofNat (by omega))) ?_ ;refine congr (congrArg List.cons (congrArg UInt8.ofNat (by omega))) ?_ ; rfl
  go_wp2
  go_ret
  exact ⟨rfl, by go_grown⟩

set_option maxRecDepth 100000 in
set_option maxHeartbeats 1000000 in
theorem numBytes_4 (n : Nat) (hl : 268435456 ≤ n) (hh : n ≤ 34359738367) (w : World) :
    Calls Tryz.prog 61 #[.int .u64 (n : Int)] w fun e w' => e = .returned (.string (numS n)) ∧ Below w.heap.size w w' := by
  have hs : sortN n = 4 := by
    unfold sortN; repeat' split
    all_goals omega
  have h3 : ∀ W : World, Calls Tryz.prog 81 #[.int .u64 (n : Int)] W fun e w' => e = .returned (.int .i64 4) ∧ W.alloc (.cells #[.int .u64 (n : Int)] 78 (0, 0)) = w' := by
    intro W
    have := sortOf_any n (by omega) W
    rw [hs] at this
    exact this
  have h4 : ∀ W : World, Calls Tryz.prog 82 #[.int .i64 4] W fun e w' => e = .returned (.int .u8 240) ∧ W = w' := by
    intro W
    have := ones_any 4 (by omega) W
    exact this
  have H3 := Lib.hid h3
  have H4 := Lib.hid h4
  clear h3 h4
  have hor : bits .or .u8 240 ((n : Int) / 256 / 256 / 256 / 256) = 240 + (n : Int) / 256 / 256 / 256 / 256 := by
    have e : (n : Int) / 256 / 256 / 256 / 256 = ((n / 4294967296 : Nat) : Int) := by omega
    rw [e]
    exact (or_join 240 (n / 4294967296) 3 (by omega) (by omega) (by omega) (by omega))
  have hmk : ∀ W : World, (Instr.makeSlice 44 (.int .i64 5) (.int .i64 5)).run Tryz.prog W = .ok (.slice (some ⟨W.heap.size, 0, none⟩) 5 5) (W.alloc (.cells #[.int .u8 0, .int .u8 0, .int .u8 0, .int .u8 0, .int .u8 0] 5 (0, 0))) := fun W => by kernel_rfl
  have hfin : numL n = [UInt8.ofNat (240 + n / 4294967296), UInt8.ofNat (n / 16777216 % 256), UInt8.ofNat (n / 65536 % 256), UInt8.ofNat (n / 256 % 256), UInt8.ofNat (n / 1 % 256)] := by
    unfold numL; rw [hs]; simp [beL]
  have HF := Lib.hid hfin
  have HS := Lib.hid hs
  clear hs hfin
  go_enter Tryz.func61, Tryz.ntmps61
  go_wp2_with (go_at_call 81; refine (H3.out _).mono ?_; rintro e w' ⟨rfl, rfl⟩)
  refine wp_loop_rounds 5 ?_
  repeat any_goals (rw [rounds_succ]; go_wp2_with (go_at_call 82; refine (H4.out _).mono ?_; rintro e w' ⟨rfl, rfl⟩))
  rw [run_copy_cells _ 44 44 3 5 (w.heap.size + 1 + 1) 0 5 5 ⟨w.heap.size, 0, none⟩ 9 9 [.int .u8 (240 + (n : Int) / 256 / 256 / 256 / 256), .int .u8 ((n : Int) / 256 / 256 / 256 % 256), .int .u8 ((n : Int) / 256 / 256 % 256), .int .u8 ((n : Int) / 256 % 256), .int .u8 ((n : Int) % 256)]
    Tryz.underlying44 (by kernel_rfl) rfl ?c1 ?c2 ?c3 ?c4]
  case c1 =>
    intro j v h
    have hj : j < 5 := by
      have := (List.getElem?_eq_some_iff.1 h).1
      simpa using this
    have hj : j = 0 ∨ j = 1 ∨ j = 2 ∨ j = 3 ∨ j = 4 := by omega
    rcases hj with rfl | rfl | rfl | rfl | rfl
    all_goals
      simp only [List.getElem?_cons_zero, List.getElem?_cons_succ, Option.some.injEq] at h
      subst h
      simp only [Addr.add]
      go_simp
  case c2 =>
    intro j hj
    have hj : j = 0 ∨ j = 1 ∨ j = 2 ∨ j = 3 ∨ j = 4 := by simp at hj; omega
    rcases hj with rfl | rfl | rfl | rfl | rfl
    all_goals go_simp
  case c3 =>
    intro j hj
    go_simp
  case c4 =>
    intro v hv
    simp only [List.mem_cons, List.not_mem_nil, or_false] at hv
    rcases hv with rfl | rfl | rfl | rfl | rfl
    all_goals rfl
  simp only [World.setCells]
  go_simp
  go_wp2
  rw [conv_bytes _ 44 9 5 ⟨w.heap.size + 1 + 1, 0, none⟩ 5 5 [240 + (n : Int) / 256 / 256 / 256 / 256, (n : Int) / 256 / 256 / 256 % 256, (n : Int) / 256 / 256 % 256, (n : Int) / 256 % 256, (n : Int) % 256] (numS n)
    Tryz.underlying44 Tryz.underlying5 Tryz.underlying9 rfl ?d1 ?d2]
  case d1 =>
    intro j v h
    have hj : j < 5 := by
      have := (List.getElem?_eq_some_iff.1 h).1
      simpa using this
    have hj : j = 0 ∨ j = 1 ∨ j = 2 ∨ j = 3 ∨ j = 4 := by omega
    rcases hj with rfl | rfl | rfl | rfl | rfl
    all_goals
      simp only [List.map_cons, List.getElem?_cons_zero, List.getElem?_cons_succ, Option.some.injEq] at h
      subst h
      simp only [Addr.add]
      go_simp
  case d2 =>
    unfold numS
    rw [HF.out]
    simp only [List.map_cons, List.map_nil]
    refine congr (congrArg List.cons (congrArg UInt8.ofNat (by omega))) ?_ ;refine congr (congrArg List.cons (congrArg UInt8.ofNat (by omega))) ?_ ;refine congr (congrArg List.cons (congrArg UInt8.ofNat (by omega))) ?_ ;refine congr (congrArg List.cons (congrArg UInt8.ofNat (by omega))) ?_ ;refine congr (congrArg List.cons (congrArg UInt8.ofNat (by omega))) ?_ ; rfl
  go_wp2
  go_ret
  exact ⟨rfl, by go_grown⟩

set_option maxRecDepth 100000 in
set_option maxHeartbeats 1000000 in
theorem numBytes_5 (n : Nat) (hl : 34359738368 ≤ n) (hh : n ≤ 4398046511103) (w : World) :
    Calls Tryz.prog 61 #[.int .u64 (n : Int)] w fun e w' => e = .returned (.string (numS n)) ∧ Below w.heap.size w w' := by
  have hs : sortN n = 5 := by
    unfold sortN; repeat' split
    all_goals omega
  have h3 : ∀ W : World, Calls Tryz.prog 81 #[.int .u64 (n : Int)] W fun e w' => e = .returned (.int .i64 5) ∧ W.alloc (.cells #[.int .u64 (n : Int)] 78 (0, 0)) = w' := by
    intro W
    have := sortOf_any n (by omega) W
    rw [hs] at this
    exact this
  have h4 : ∀ W : World, Calls Tryz.prog 82 #[.int .i64 5] W fun e w' => e = .returned (.int .u8 248) ∧ W = w' := by
    intro W
    have := ones_any 5 (by omega) W
    exact this
  have H3 := Lib.hid h3
  have H4 := Lib.hid h4
  clear h3 h4
  have hor : bits .or .u8 248 ((n : Int) / 256 / 256 / 256 / 256 / 256) = 248 + (n : Int) / 256 / 256 / 256 / 256 / 256 := by
    have e : (n : Int) / 256 / 256 / 256 / 256 / 256 = ((n / 1099511627776 : Nat) : Int) := by omega
    rw [e]
    exact (or_join 248 (n / 1099511627776) 2 (by omega) (by omega) (by omega) (by omega))
  have hmk : ∀ W : World, (Instr.makeSlice 44 (.int .i64 6) (.int .i64 6)).run Tryz.prog W = .ok (.slice (some ⟨W.heap.size, 0, none⟩) 6 6) (W.alloc (.cells #[.int .u8 0, .int .u8 0, .int .u8 0, .int .u8 0, .int .u8 0, .int .u8 0] 5 (0, 0))) := fun W => by kernel_rfl
  have hfin : numL n = [UInt8.ofNat (248 + n / 1099511627776), UInt8.ofNat (n / 4294967296 % 256), UInt8.ofNat (n / 16777216 % 256), UInt8.ofNat (n / 65536 % 256), UInt8.ofNat (n / 256 % 256), UInt8.ofNat (n / 1 % 256)] := by
    unfold numL; rw [hs]; simp [beL]
  have HF := Lib.hid hfin
  have HS := Lib.hid hs
  clear hs hfin
  go_enter Tryz.func61, Tryz.ntmps61
  go_wp2_with (go_at_call 81; refine (H3.out _).mono ?_; rintro e w' ⟨rfl, rfl⟩)
  refine wp_loop_rounds 6 ?_
  repeat any_goals (rw [rounds_succ]; go_wp2_with (go_at_call 82; refine (H4.out _).mono ?_; rintro e w' ⟨rfl, rfl⟩))
  rw [run_copy_cells _ 44 44 3 5 (w.heap.size + 1 + 1) 0 6 6 ⟨w.heap.size, 0, none⟩ 9 9 [.int .u8 (248 + (n : Int) / 256 / 256 / 256 / 256 / 256), .int .u8 ((n : Int) / 256 / 256 / 256 / 256 % 256), .int .u8 ((n : Int) / 256 / 256 / 256 % 256), .int .u8 ((n : Int) / 256 / 256 % 256), .int .u8 ((n : Int) / 256 % 256), .int .u8 ((n : Int) % 256)]
    Tryz.underlying44 (by kernel_rfl) rfl ?c1 ?c2 ?c3 ?c4]
  case c1 =>
    intro j v h
    have hj : j < 6 := by
      have := (List.getElem?_eq_some_iff.1 h).1
      simpa using this
    have hj : j = 0 ∨ j = 1 ∨ j = 2 ∨ j = 3 ∨ j = 4 ∨ j = 5 := by omega
    rcases hj with rfl | rfl | rfl | rfl | rfl | rfl
    all_goals
      simp only [List.getElem?_cons_zero, List.getElem?_cons_succ, Option.some.injEq] at h
      subst h
      simp only [Addr.add]
      go_simp
  case c2 =>
    intro j hj
    have hj : j = 0 ∨ j = 1 ∨ j = 2 ∨ j = 3 ∨ j = 4 ∨ j = 5 := by simp at hj; omega
    rcases hj with rfl | rfl | rfl | rfl | rfl | rfl
    all_goals go_simp
  case c3 =>
    intro j hj
    go_simp
  case c4 =>
    intro v hv
    simp only [List.mem_cons, List.not_mem_nil, or_false] at hv
    rcases hv with rfl | rfl | rfl | rfl | rfl | rfl
    all_goals rfl
  simp only [World.setCells]
  go_simp
  go_wp2
  rw [conv_bytes _ 44 9 5 ⟨w.heap.size + 1 + 1, 0, none⟩ 6 6 [248 + (n : Int) / 256 / 256 / 256 / 256 / 256, (n : Int) / 256 / 256 / 256 / 256 % 256, (n : Int) / 256 / 256 / 256 % 256, (n : Int) / 256 / 256 % 256, (n : Int) / 256 % 256, (n : Int) % 256] (numS n)
    Tryz.underlying44 Tryz.underlying5 Tryz.underlying9 rfl ?d1 ?d2]
  case d1 =>
    intro j v h
    have hj : j < 6 := by
      have := (List.getElem?_eq_some_iff.1 h).1
      simpa using this
    have hj : j = 0 ∨ j = 1 ∨ j = 2 ∨ j = 3 ∨ j = 4 ∨ j = 5 := by omega
    rcases hj with rfl | rfl | rfl | rfl | rfl | rfl
    all_goals
      simp only [List.map_cons, List.getElem?_cons_zero, List.getElem?_cons_succ, Option.some.injEq] at h
      subst h
      simp only [Addr.add]
      go_simp
  case d2 =>
    unfold numS
    rw [HF.out]
    simp only [List.map_cons, List.map_nil]
    refine congr (congrArg List.cons (congrArg UInt8.ofNat (by omega))) ?_ ;refine congr (congrArg List.cons (congrArg UInt8.ofNat (by omega))) ?_ ;refine congr (congrArg List.cons (congrArg UInt8.ofNat (by omega))) ?_ ;refine congr (congrArg List.cons (congrArg UInt8.ofNat (by omega))) ?_ ;refine congr (congrArg List.cons (congrArg UInt8.ofNat (by omega))) ?_ ;refine congr (congrArg List.cons (congrArg UInt8.ofNat (by omega))) ?_ ; rfl
  go_wp2
  go_ret
  exact ⟨rfl, by go_grown⟩

set_option maxRecDepth 100000 in
set_option maxHeartbeats 1000000 in
theorem numBytes_6 (n : Nat) (hl : 4398046511104 ≤ n) (hh : n ≤ 562949953421311) (w : World) :
    Calls Tryz.prog 61 #[.int .u64 (n : Int)] w fun e w' => e = .returned (.string (numS n)) ∧ Below w.heap.size w w' := by
  have hs : sortN n = 6 := by
    unfold sortN; repeat' split
    all_goals omega
  have h3 : ∀ W : World, Calls Tryz.prog 81 #[.int .u64 (n : Int)] W fun e w' => e = .returned (.int .i64 6) ∧ W.alloc (.cells #[.int .u64 (n : Int)] 78 (0, 0)) = w' := by
    intro W
    have := sortOf_any n (by omega) W
    rw [hs] at this
    exact this
  have h4 : ∀ W : World, Calls Tryz.prog 82 #[.int .i64 6] W fun e w' => e = .returned (.int .u8 252) ∧ W = w' := by
    intro W
    have := ones_any 6 (by omega) W
    exact this
  have H3 := Lib.hid h3
  have H4 := Lib.hid h4
  clear h3 h4
  have hor : bits .or .u8 252 ((n : Int) / 256 / 256 / 256 / 256 / 256 / 256) = 252 + (n : Int) / 256 / 256 / 256 / 256 / 256 / 256 := by
    have e : (n : Int) / 256 / 256 / 256 / 256 / 256 / 256 = ((n / 281474976710656 : Nat) : Int) := by omega
    rw [e]
    exact (or_join 252 (n / 281474976710656) 1 (by omega) (by omega) (by omega) (by omega))
  have hmk : ∀ W : World, (Instr.makeSlice 44 (.int .i64 7) (.int .i64 7)).run Tryz.prog W = .ok (.slice (some ⟨W.heap.size, 0, none⟩) 7 7) (W.alloc (.cells #[.int .u8 0, .int .u8 0, .int .u8 0, .int .u8 0, .int .u8 0, .int .u8 0, .int .u8 0] 5 (0, 0))) := fun W => by kernel_rfl
  have hfin : numL n = [UInt8.ofNat (252 + n / 281474976710656), UInt8.ofNat (n / 1099511627776 % 256), UInt8.ofNat (n / 4294967296 % 256), UInt8.ofNat (n / 16777216 % 256), UInt8.ofNat (n / 65536 % 256), UInt8.ofNat (n / 256 % 256), UInt8.ofNat (n / 1 % 256)] := by
    unfold numL; rw [hs]; simp [beL]
  have HF := Lib.hid hfin
  have HS := Lib.hid hs
  clear hs hfin
  go_enter Tryz.func61, Tryz.ntmps61
  go_wp2_with (go_at_call 81; refine (H3.out _).mono ?_; rintro e w' ⟨rfl, rfl⟩)
  refine wp_loop_rounds 7 ?_
  repeat any_goals (rw [rounds_succ]; go_wp2_with (go_at_call 82; refine (H4.out _).mono ?_; rintro e w' ⟨rfl, rfl⟩))
  rw [run_copy_cells _ 44 44 3 5 (w.heap.size + 1 + 1) 0 7 7 ⟨w.heap.size, 0, none⟩ 9 9 [.int .u8 (252 + (n : Int) / 256 / 256 / 256 / 256 / 256 / 256), .int .u8 ((n : Int) / 256 / 256 / 256 / 256 / 256 % 256), .int .u8 ((n : Int) / 256 / 256 / 256 / 256 % 256), .int .u8 ((n : Int) / 256 / 256 / 256 % 256), .int .u8 ((n : Int) / 256 / 256 % 256), .int .u8 ((n : Int) / 256 % 256), .int .u8 ((n : Int) % 256)]
    Tryz.underlying44 (by kernel_rfl) rfl ?c1 ?c2 ?c3 ?c4]
  case c1 =>
    intro j v h
    have hj : j < 7 := by
      have := (List.getElem?_eq_some_iff.1 h).1
      simpa using this
    have hj : j = 0 ∨ j = 1 ∨ j = 2 ∨ j = 3 ∨ j = 4 ∨ j = 5 ∨ j = 6 := by omega
    rcases hj with rfl | rfl | rfl | rfl | rfl | rfl | rfl
    all_goals
      simp only [List.getElem?_cons_zero, List.getElem?_cons_succ, Option.some.injEq] at h
      subst h
      simp only [Addr.add]
      go_simp
  case c2 =>
    intro j hj
    have hj : j = 0 ∨ j = 1 ∨ j = 2 ∨ j = 3 ∨ j = 4 ∨ j = 5 ∨ j = 6 := by simp at hj; omega
    rcases hj with rfl | rfl | rfl | rfl | rfl | rfl | rfl
    all_goals go_simp
  case c3 =>
    intro j hj
    go_simp
  case c4 =>
    intro v hv
    simp only [List.mem_cons, List.not_mem_nil, or_false] at hv
    rcases hv with rfl | rfl | rfl | rfl | rfl | rfl | rfl
    all_goals rfl
  simp only [World.setCells]
  go_simp
  go_wp2
  rw [conv_bytes _ 44 9 5 ⟨w.heap.size + 1 + 1, 0, none⟩ 7 7 [252 + (n : Int) / 256 / 256 / 256 / 256 / 256 / 256, (n : Int) / 256 / 256 / 256 / 256 / 256 % 256, (n : Int) / 256 / 256 / 256 / 256 % 256, (n : Int) / 256 / 256 / 256 % 256, (n : Int) / 256 / 256 % 256, (n : Int) / 256 % 256, (n : Int) % 256] (numS n)
    Tryz.underlying44 Tryz.underlying5 Tryz.underlying9 rfl ?d1 ?d2]
  case d1 =>
    intro j v h
    have hj : j < 7 := by
      have := (List.getElem?_eq_some_iff.1 h).1
      simpa using this
    have hj : j = 0 ∨ j = 1 ∨ j = 2 ∨ j = 3 ∨ j = 4 ∨ j = 5 ∨ j = 6 := by omega
    rcases hj with rfl | rfl | rfl | rfl | rfl | rfl | rfl
    all_goals
      simp only [List.map_cons, List.getElem?_cons_zero, List.getElem?_cons_succ, Option.some.injEq] at h
      subst h
      simp only [Addr.add]
      go_simp
  case d2 =>
    unfold numS
    rw [HF.out]
    simp only [List.map_cons, List.map_nil]
    refine congr (congrArg List.cons (congrArg UInt8.ofNat (by omega))) ?_ ;refine congr (congrArg List.cons (congrArg UInt8.ofNat (by omega))) ?_ ;refine congr (congrArg List.cons (congrArg UInt8.ofNat (by omega))) ?_ ;refine congr (congrArg List.cons (congrArg UInt8.ofNat (by omega))) ?_ ;refine congr (congrArg List.cons (congrArg UInt8.ofNat (by omega))) ?_ ;refine congr (congrArg List.cons (congrArg UInt8.ofNat (by omega))) ?_ ;refine congr (congrArg List.cons (congrArg UInt8.ofNat (by omega))) ?_ ; rfl
  go_wp2
  go_ret
  exact ⟨rfl, by go_grown⟩

set_option maxRecDepth 100000 in
set_option maxHeartbeats 1000000 in
theorem numBytes_7 (n : Nat) (hl : 562949953421312 ≤ n) (hh : n ≤ 72057594037927935) (w : World) :
    Calls Tryz.prog 61 #[.int .u64 (n : Int)] w fun e w' => e = .returned (.string (numS n)) ∧ Below w.heap.size w w' := by
  have hs : sortN n = 7 := by
    unfold sortN; repeat' split
    all_goals omega
  have h3 : ∀ W : World, Calls Tryz.prog 81 #[.int .u64 (n : Int)] W fun e w' => e = .returned (.int .i64 7) ∧ W.alloc (.cells #[.int .u64 (n : Int)] 78 (0, 0)) = w' := by
    intro W
    have := sortOf_any n (by omega) W
    rw [hs] at this
    exact this
  have h4 : ∀ W : World, Calls Tryz.prog 82 #[.int .i64 7] W fun e w' => e = .returned (.int .u8 254) ∧ W = w' := by
    intro W
    have := ones_any 7 (by omega) W
    exact this
  have H3 := Lib.hid h3
  have H4 := Lib.hid h4
  clear h3 h4
  have hor : bits .or .u8 254 ((n : Int) / 256 / 256 / 256 / 256 / 256 / 256 / 256) = 254 + (n : Int) / 256 / 256 / 256 / 256 / 256 / 256 / 256 := by
    have e : (n : Int) / 256 / 256 / 256 / 256 / 256 / 256 / 256 = ((n / 72057594037927936 : Nat) : Int) := by omega
    rw [e]
    exact (or_join 254 (n / 72057594037927936) 0 (by omega) (by omega) (by omega) (by omega))
  have hmk : ∀ W : World, (Instr.makeSlice 44 (.int .i64 8) (.int .i64 8)).run Tryz.prog W = .ok (.slice (some ⟨W.heap.size, 0, none⟩) 8 8) (W.alloc (.cells #[.int .u8 0, .int .u8 0, .int .u8 0, .int .u8 0, .int .u8 0, .int .u8 0, .int .u8 0, .int .u8 0] 5 (0, 0))) := fun W => by kernel_rfl
  have hfin : numL n = [UInt8.ofNat (254 + n / 72057594037927936), UInt8.ofNat (n / 281474976710656 % 256), UInt8.ofNat (n / 1099511627776 % 256), UInt8.ofNat (n / 4294967296 % 256), UInt8.ofNat (n / 16777216 % 256), UInt8.ofNat (n / 65536 % 256), UInt8.ofNat (n / 256 % 256), UInt8.ofNat (n / 1 % 256)] := by
    unfold numL; rw [hs]; simp [beL]
  have HF := Lib.hid hfin
  have HS := Lib.hid hs
  clear hs hfin
  go_enter Tryz.func61, Tryz.ntmps61
  go_wp2_with (go_at_call 81; refine (H3.out _).mono ?_; rintro e w' ⟨rfl, rfl⟩)
  refine wp_loop_rounds 8 ?_
  repeat any_goals (rw [rounds_succ]; go_wp2_with (go_at_call 82; refine (H4.out _).mono ?_; rintro e w' ⟨rfl, rfl⟩))
  rw [run_copy_cells _ 44 44 3 5 (w.heap.size + 1 + 1) 0 8 8 ⟨w.heap.size, 0, none⟩ 9 9 [.int .u8 (254 + (n : Int) / 256 / 256 / 256 / 256 / 256 / 256 / 256), .int .u8 ((n : Int) / 256 / 256 / 256 / 256 / 256 / 256), .int .u8 ((n : Int) / 256 / 256 / 256 / 256 / 256 % 256), .int .u8 ((n : Int) / 256 / 256 / 256 / 256 % 256), .int .u8 ((n : Int) / 256 / 256 / 256 % 256), .int .u8 ((n : Int) / 256 / 256 % 256), .int .u8 ((n : Int) / 256 % 256), .int .u8 ((n : Int) % 256)]
    Tryz.underlying44 (by kernel_rfl) rfl ?c1 ?c2 ?c3 ?c4]
  case c1 =>
    intro j v h
    have hj : j < 8 := by
      have := (List.getElem?_eq_some_iff.1 h).1
      simpa using this
    have hj : j = 0 ∨ j = 1 ∨ j = 2 ∨ j = 3 ∨ j = 4 ∨ j = 5 ∨ j = 6 ∨ j = 7 := by omega
    rcases hj with rfl | rfl | rfl | rfl | rfl | rfl | rfl | rfl
    all_goals
      simp only [List.getElem?_cons_zero, List.getElem?_cons_succ, Option.some.injEq] at h
      subst h
      simp only [Addr.add]
      go_simp
  case c2 =>
    intro j hj
    have hj : j = 0 ∨ j = 1 ∨ j = 2 ∨ j = 3 ∨ j = 4 ∨ j = 5 ∨ j = 6 ∨ j = 7 := by simp at hj; omega
    rcases hj with rfl | rfl | rfl | rfl | rfl | rfl | rfl | rfl
    all_goals go_simp
  case c3 =>
    intro j hj
    go_simp
  case c4 =>
    intro v hv
    simp only [List.mem_cons, List.not_mem_nil, or_false] at hv
    rcases hv with rfl | rfl | rfl | rfl | rfl | rfl | rfl | rfl
    all_goals rfl
  simp only [World.setCells]
  go_simp
  go_wp2
  rw [conv_bytes _ 44 9 5 ⟨w.heap.size + 1 + 1, 0, none⟩ 8 8 [254 + (n : Int) / 256 / 256 / 256 / 256 / 256 / 256 / 256, (n : Int) / 256 / 256 / 256 / 256 / 256 / 256, (n : Int) / 256 / 256 / 256 / 256 / 256 % 256, (n : Int) / 256 / 256 / 256 / 256 % 256, (n : Int) / 256 / 256 / 256 % 256, (n : Int) / 256 / 256 % 256, (n : Int) / 256 % 256, (n : Int) % 256] (numS n)
    Tryz.underlying44 Tryz.underlying5 Tryz.underlying9 rfl ?d1 ?d2]
  case d1 =>
    intro j v h
    have hj : j < 8 := by
      have := (List.getElem?_eq_some_iff.1 h).1
      simpa using this
    have hj : j = 0 ∨ j = 1 ∨ j = 2 ∨ j = 3 ∨ j = 4 ∨ j = 5 ∨ j = 6 ∨ j = 7 := by omega
    rcases hj with rfl | rfl | rfl | rfl | rfl | rfl | rfl | rfl
    all_goals
      simp only [List.map_cons, List.getElem?_cons_zero, List.getElem?_cons_succ, Option.some.injEq] at h
      subst h
      simp only [Addr.add]
      go_simp
  case d2 =>
    unfold numS
    rw [HF.out]
    simp only [List.map_cons, List.map_nil]
    refine congr (congrArg List.cons (congrArg UInt8.ofNat (by omega))) ?_ ;refine congr (congrArg List.cons (congrArg UInt8.ofNat (by omega))) ?_ ;refine congr (congrArg List.cons (congrArg UInt8.ofNat (by omega))) ?_ ;refine congr (congrArg List.cons (congrArg UInt8.ofNat (by omega))) ?_ ;refine congr (congrArg List.cons (congrArg UInt8.ofNat (by omega))) ?_ ;refine congr (congrArg List.cons (congrArg UInt8.ofNat (by omega))) ?_ ;refine congr (congrArg List.cons (congrArg UInt8.ofNat (by omega))) ?_ ;refine congr (congrArg List.cons (congrArg UInt8.ofNat (by omega))) ?_ ; rfl
  go_wp2
  go_ret
  exact ⟨rfl, by go_grown⟩

set_option maxRecDepth 100000 in
set_option maxHeartbeats 1000000 in
theorem numBytes_8 (n : Nat) (hl : 72057594037927936 ≤ n) (hh : n ≤ 18446744073709551615) (w : World) :
    Calls Tryz.prog 61 #[.int .u64 (n : Int)] w fun e w' => e = .returned (.string (numS n)) ∧ Below w.heap.size w w' := by
  have hs : sortN n = 8 := by
    unfold sortN; repeat' split
    all_goals omega
  have h3 : ∀ W : World, Calls Tryz.prog 81 #[.int .u64 (n : Int)] W fun e w' => e = .returned (.int .i64 8) ∧ W.alloc (.cells #[.int .u64 (n : Int)] 78 (0, 0)) = w' := by
    intro W
    have := sortOf_any n (by omega) W
    rw [hs] at this
    exact this
  have h4 : ∀ W : World, Calls Tryz.prog 82 #[.int .i64 8] W fun e w' => e = .returned (.int .u8 255) ∧ W = w' := by
    intro W
    have := ones_any 8 (by omega) W
    exact this
  have H3 := Lib.hid h3
  have H4 := Lib.hid h4
  clear h3 h4
  have hor : bits .or .u8 255 ((n : Int) / 256 / 256 / 256 / 256 / 256 / 256 / 256 / 256) = 255 + (n : Int) / 256 / 256 / 256 / 256 / 256 / 256 / 256 / 256 := by
    have e : (n : Int) / 256 / 256 / 256 / 256 / 256 / 256 / 256 / 256 = ((n / 18446744073709551616 : Nat) : Int) := by omega
    rw [e]
    exact (or_join 255 (n / 18446744073709551616) 0 (by omega) (by omega) (by omega) (by omega))
  have hmk : ∀ W : World, (Instr.makeSlice 44 (.int .i64 9) (.int .i64 9)).run Tryz.prog W = .ok (.slice (some ⟨W.heap.size, 0, none⟩) 9 9) (W.alloc (.cells #[.int .u8 0, .int .u8 0, .int .u8 0, .int .u8 0, .int .u8 0, .int .u8 0, .int .u8 0, .int .u8 0, .int .u8 0] 5 (0, 0))) := fun W => by kernel_rfl
  have hfin : numL n = [UInt8.ofNat (255 + n / 18446744073709551616), UInt8.ofNat (n / 72057594037927936 % 256), UInt8.ofNat (n / 281474976710656 % 256), UInt8.ofNat (n / 1099511627776 % 256), UInt8.ofNat (n / 4294967296 % 256), UInt8.ofNat (n / 16777216 % 256), UInt8.ofNat (n / 65536 % 256), UInt8.ofNat (n / 256 % 256), UInt8.ofNat (n / 1 % 256)] := by
    unfold numL; rw [hs]; simp [beL]
  have HF := Lib.hid hfin
  have HS := Lib.hid hs
  clear hs hfin
  go_enter Tryz.func61, Tryz.ntmps61
  go_wp2_with (go_at_call 81; refine (H3.out _).mono ?_; rintro e w' ⟨rfl, rfl⟩)
  refine wp_loop_rounds 9 ?_
  repeat any_goals (rw [rounds_succ]; go_wp2_with (go_at_call 82; refine (H4.out _).mono ?_; rintro e w' ⟨rfl, rfl⟩))
  rw [run_copy_cells _ 44 44 3 5 (w.heap.size + 1 + 1) 0 9 9 ⟨w.heap.size, 0, none⟩ 9 9 [.int .u8 (255 + (n : Int) / 256 / 256 / 256 / 256 / 256 / 256 / 256 / 256), .int .u8 ((n : Int) / 256 / 256 / 256 / 256 / 256 / 256 / 256), .int .u8 ((n : Int) / 256 / 256 / 256 / 256 / 256 / 256 % 256), .int .u8 ((n : Int) / 256 / 256 / 256 / 256 / 256 % 256), .int .u8 ((n : Int) / 256 / 256 / 256 / 256 % 256), .int .u8 ((n : Int) / 256 / 256 / 256 % 256), .int .u8 ((n : Int) / 256 / 256 % 256), .int .u8 ((n : Int) / 256 % 256), .int .u8 ((n : Int) % 256)]
    Tryz.underlying44 (by kernel_rfl) rfl ?c1 ?c2 ?c3 ?c4]
  case c1 =>
    intro j v h
    have hj : j < 9 := by
      have := (List.getElem?_eq_some_iff.1 h).1
      simpa using this
    have hj : j = 0 ∨ j = 1 ∨ j = 2 ∨ j = 3 ∨ j = 4 ∨ j = 5 ∨ j = 6 ∨ j = 7 ∨ j = 8 := by omega
    rcases hj with rfl | rfl | rfl | rfl | rfl | rfl | rfl | rfl | rfl
    all_goals
      simp only [List.getElem?_cons_zero, List.getElem?_cons_succ, Option.some.injEq] at h
      subst h
      simp only [Addr.add]
      go_simp
  case c2 =>
    intro j hj
    have hj : j = 0 ∨ j = 1 ∨ j = 2 ∨ j = 3 ∨ j = 4 ∨ j = 5 ∨ j = 6 ∨ j = 7 ∨ j = 8 := by simp at hj; omega
    rcases hj with rfl | rfl | rfl | rfl | rfl | rfl | rfl | rfl | rfl
    all_goals go_simp
  case c3 =>
    intro j hj
    go_simp
  case c4 =>
    intro v hv
    simp only [List.mem_cons, List.not_mem_nil, or_false] at hv
    rcases hv with rfl | rfl | rfl | rfl | rfl | rfl | rfl | rfl | rfl
    all_goals rfl
  simp only [World.setCells]
  go_simp
  go_wp2
  rw [conv_bytes _ 44 9 5 ⟨w.heap.size + 1 + 1, 0, none⟩ 9 9 [255 + (n : Int) / 256 / 256 / 256 / 256 / 256 / 256 / 256 / 256, (n : Int) / 256 / 256 / 256 / 256 / 256 / 256 / 256, (n : Int) / 256 / 256 / 256 / 256 / 256 / 256 % 256, (n : Int) / 256 / 256 / 256 / 256 / 256 % 256, (n : Int) / 256 / 256 / 256 / 256 % 256, (n : Int) / 256 / 256 / 256 % 256, (n : Int) / 256 / 256 % 256, (n : Int) / 256 % 256, (n : Int) % 256] (numS n)
    Tryz.underlying44 Tryz.underlying5 Tryz.underlying9 rfl ?d1 ?d2]
  case d1 =>
    intro j v h
    have hj : j < 9 := by
      have := (List.getElem?_eq_some_iff.1 h).1
      simpa using this
    have hj : j = 0 ∨ j = 1 ∨ j = 2 ∨ j = 3 ∨ j = 4 ∨ j = 5 ∨ j = 6 ∨ j = 7 ∨ j = 8 := by omega
    rcases hj with rfl | rfl | rfl | rfl | rfl | rfl | rfl | rfl | rfl
    all_goals
      simp only [List.map_cons, List.getElem?_cons_zero, List.getElem?_cons_succ, Option.some.injEq] at h
      subst h
      simp only [Addr.add]
      go_simp
  case d2 =>
    unfold numS
    rw [HF.out]
    simp only [List.map_cons, List.map_nil]
    refine congr (congrArg List.cons (congrArg UInt8.ofNat (by omega))) ?_ ;refine congr (congrArg List.cons (congrArg UInt8.ofNat (by omega))) ?_ ;refine congr (congrArg List.cons (congrArg UInt8.ofNat (by omega))) ?_ ;refine congr (congrArg List.cons (congrArg UInt8.ofNat (by omega))) ?_ ;refine congr (congrArg List.cons (congrArg UInt8.ofNat (by omega))) ?_ ;refine congr (congrArg List.cons (congrArg UInt8.ofNat (by omega))) ?_ ;refine congr (congrArg List.cons (congrArg UInt8.ofNat (by omega))) ?_ ;refine congr (congrArg List.cons (congrArg UInt8.ofNat (by omega))) ?_ ;refine congr (congrArg List.cons (congrArg UInt8.ofNat (by omega))) ?_ ; rfl
  go_wp2
  go_ret
  exact ⟨rfl, by go_grown⟩

theorem numBytes_any (n : Nat) (hn : n ≤ 18446744073709551615) (w : World) :
    Calls Tryz.prog 61 #[.int .u64 (n : Int)] w fun e w' => e = .returned (.string (numS n)) ∧ Below w.heap.size w w' := by
  by_cases h0 : n ≤ 127
  · exact numBytes_0 n (by omega) h0 w
  by_cases h1 : n ≤ 16383
  · exact numBytes_1 n (by omega) h1 w
  by_cases h2 : n ≤ 2097151
  · exact numBytes_2 n (by omega) h2 w
  by_cases h3 : n ≤ 268435455
  · exact numBytes_3 n (by omega) h3 w
  by_cases h4 : n ≤ 34359738367
  · exact numBytes_4 n (by omega) h4 w
  by_cases h5 : n ≤ 4398046511103
  · exact numBytes_5 n (by omega) h5 w
  by_cases h6 : n ≤ 562949953421311
  · exact numBytes_6 n (by omega) h6 w
  by_cases h7 : n ≤ 72057594037927935
  · exact numBytes_7 n (by omega) h7 w
  · exact numBytes_8 n (by omega) hn w
end Go.Proofs.YtbeaaieaffdgeaaGreatDoor
end
/- What PutNum, PutInt and PutText hand back, the program's and the document's. -/
section
namespace Go.Proofs.YtbeaaieaffdgeaaGreatDoor
open Go.RowKit
set_option linter.unusedVariables false

/-- The number whose bytes a signed one has. -/
def zig (i : Int) : Nat := if 0 ≤ i then (2 * i).toNat else (-2 * i - 1).toNat
theorem zig_le (i : Int) (h1 : -9223372036854775808 ≤ i) (h2 : i ≤ 9223372036854775807) : zig i ≤ 18446744073709551615 := by
  unfold zig; split <;> omega
theorem beL_length (s n : Nat) : (beL s n).length = s := by
  induction s with
  | zero => rfl
  | succ s ih => simp [beL, ih]
theorem numS_size (n : Nat) : (numS n).size ≤ 9 := by
  have h := sortN_le n
  have : (numS n).size = sortN n + 1 := by
    show (numL n).toArray.size = _
    simp [numL, beL_length]
  omega
theorem strA {a b : ByteArray} (h : a = b) : Ending.returned (.string a) = .returned (.string b) := by rw [h]

set_option maxHeartbeats 400000 in
theorem putNum_any (a : ByteArray) (ha : a.size ≤ 70368744177664) (n : Nat) (hn : n ≤ 18446744073709551615) (w : World) :
    Calls Tryz.prog 39 #[.string a, .int .u64 (n : Int)] w fun e w' => e = .returned (.string (a ++ numS n)) ∧ Below w.heap.size w w' := by
  have hz := numS_size n
  go_enter Tryz.func39, Tryz.ntmps39
  go_wp2_with (go_at_call 61; refine (numBytes_any n hn _).mono ?_; rintro e w' ⟨rfl, hb⟩)
  go_ret
  exact ⟨rfl, hb⟩

theorem xor_ones (a : Nat) (ha : a < 18446744073709551616) : a ^^^ 18446744073709551615 = 18446744073709551615 - a := by
  have h := congrArg BitVec.toNat (BitVec.xor_allOnes (x := BitVec.ofNat 64 a))
  rw [BitVec.toNat_xor, BitVec.toNat_not, BitVec.toNat_ofNat, BitVec.toNat_allOnes, Nat.mod_eq_of_lt ha] at h
  exact h
theorem bits_zig (i : Int) (h1 : -9223372036854775808 ≤ i) (h2 : i ≤ 9223372036854775807) :
    bits .xor .u64 (IntKind.u64.wrap (IntKind.u64.wrap i * 2)) (IntKind.u64.wrap (i / 9223372036854775808)) = ((zig i : Nat) : Int) := by
  by_cases h : 0 ≤ i
  · have e1 : IntKind.u64.wrap (IntKind.u64.wrap i * 2) = ((zig i : Nat) : Int) := by
      simp only [IntKind.wrap_u64]; unfold zig; rw [if_pos h]; omega
    have e2 : IntKind.u64.wrap (i / 9223372036854775808) = ((0 : Nat) : Int) := by
      simp only [IntKind.wrap_u64]; omega
    have := zig_le i h1 h2
    rw [e1, e2, u64_xor_nat _ _ (by omega) (by omega), Nat.xor_zero]
  · have e1 : IntKind.u64.wrap (IntKind.u64.wrap i * 2) = ((18446744073709551615 - zig i : Nat) : Int) := by
      simp only [IntKind.wrap_u64]; unfold zig; rw [if_neg h]; omega
    have e2 : IntKind.u64.wrap (i / 9223372036854775808) = ((18446744073709551615 : Nat) : Int) := by
      simp only [IntKind.wrap_u64]; omega
    have := zig_le i h1 h2
    rw [e1, e2, u64_xor_nat _ _ (by omega) (by omega), xor_ones _ (by omega)]
    omega
set_option maxHeartbeats 400000 in
theorem unsigned_any (i : Int) (h1 : -9223372036854775808 ≤ i) (h2 : i ≤ 9223372036854775807) (w : World) :
    Calls Tryz.prog 106 #[.int .i64 i] w fun e w' => e = .returned (.int .u64 (zig i : Nat)) ∧ w = w' := by
  have hz := Lib.hid (bits_zig i h1 h2)
  by_cases h : 0 ≤ i
  · go_enter Tryz.func106, Tryz.ntmps106
    go_wp2
    go_ret
    refine ⟨ret_int ?_, rfl⟩
    rw [← hz.out]
    simp only [IntKind.wrap_u64]
    congr 1 <;> omega
  · go_enter Tryz.func106, Tryz.ntmps106
    go_wp2
    go_ret
    exact ⟨ret_int hz.out, rfl⟩

/-- The signed number that has a number's bytes. -/
def unzig (n : Nat) : Int := if n % 2 = 0 then ((n / 2 : Nat) : Int) else -((n / 2 : Nat) : Int) - 1
theorem bits_unzig (n : Nat) (hn : n ≤ 18446744073709551615) :
    bits .xor .i64 ((n : Int) / 2) (wrap64 (-wrap64 (bits .and .u64 (n : Int) 1))) = unzig n := by
  have h1 : bits .and .u64 (n : Int) 1 = ((n % 2 : Nat) : Int) := by
    rw [show (1 : Int) = ((1 : Nat) : Int) from rfl, u64_and_nat n 1 (by omega) (by omega), Nat.and_one_is_mod]
  rw [h1]
  have hx : (BitVec.ofInt 64 (((n / 2 : Nat) : Int))).toNat = n / 2 := by
    rw [BitVec.ofInt_natCast, BitVec.toNat_ofNat]; exact Nat.mod_eq_of_lt (by omega)
  have e0 : (n : Int) / 2 = ((n / 2 : Nat) : Int) := by omega
  rw [e0]
  by_cases h : n % 2 = 0
  · have e2 : wrap64 (-wrap64 ((n % 2 : Nat) : Int)) = 0 := by unfold wrap64; omega
    rw [e2]
    show IntKind.i64.wrap ((BitVec.ofInt 64 ((n / 2 : Nat) : Int) ^^^ BitVec.ofInt 64 0).toNat : Int) = _
    rw [BitVec.toNat_xor, hx, IntKind.wrap_i64]
    unfold unzig
    simp [h]
    omega
  · have e2 : wrap64 (-wrap64 ((n % 2 : Nat) : Int)) = -1 := by unfold wrap64; omega
    rw [e2]
    show IntKind.i64.wrap ((BitVec.ofInt 64 ((n / 2 : Nat) : Int) ^^^ BitVec.ofInt 64 (-1)).toNat : Int) = _
    have e3 : (BitVec.ofInt 64 (-1)).toNat = 18446744073709551615 := by decide
    rw [BitVec.toNat_xor, hx, e3, xor_ones _ (by omega), IntKind.wrap_i64]
    unfold unzig
    simp [h]
    omega
theorem unzig_zig (i : Int) : unzig (zig i) = i := by
  unfold zig unzig
  repeat' split
  all_goals omega
set_option maxHeartbeats 400000 in
theorem signed_any (n : Nat) (hn : n ≤ 18446744073709551615) (w : World) :
    Calls Tryz.prog 105 #[.int .u64 (n : Int)] w fun e w' => e = .returned (.int .i64 (unzig n)) ∧ w = w' := by
  have hz := Lib.hid (bits_unzig n hn)
  go_enter Tryz.func105, Tryz.ntmps105
  go_wp2
  go_ret
  exact ⟨ret_int hz.out, rfl⟩

set_option maxHeartbeats 400000 in
theorem putInt_any (a : ByteArray) (ha : a.size ≤ 70368744177664) (i : Int) (h1 : -9223372036854775808 ≤ i) (h2 : i ≤ 9223372036854775807) (w : World) :
    Calls Tryz.prog 94 #[.string a, .int .i64 i] w fun e w' => e = .returned (.string (a ++ numS (zig i))) ∧ Below w.heap.size w w' := by
  have hz := numS_size (zig i)
  have hy := zig_le i h1 h2
  go_enter Tryz.func94, Tryz.ntmps94
  go_wp2_with (first | (go_at_call 61; refine (numBytes_any _ hy _).mono ?_; rintro e w' ⟨rfl, hb⟩) | (go_at_call 106; refine (unsigned_any i h1 h2 _).mono ?_; rintro e w' ⟨rfl, rfl⟩))
  go_ret
  exact ⟨rfl, hb⟩

def textS (t : ByteArray) : ByteArray := numS t.size ++ t
set_option maxHeartbeats 400000 in
theorem putText_any (a : ByteArray) (ha : a.size ≤ 70368744177664) (t : ByteArray) (ht : t.size ≤ 70368744177664) (w : World) :
    Calls Tryz.prog 40 #[.string a, .string t] w fun e w' => e = .returned (.string (a ++ textS t)) ∧ Below w.heap.size w w' := by
  have hz := numS_size t.size
  go_enter Tryz.func40, Tryz.ntmps40
  go_wp2_with (go_at_call 61; refine (numBytes_any _ (by omega) _).mono ?_; rintro e w' ⟨rfl, hb⟩)
  go_ret
  exact ⟨strA (ByteArray.append_assoc), hb⟩
end Go.Proofs.YtbeaaieaffdgeaaGreatDoor
end
/- The program's writer: a strings.Builder in a struct of its own: copyCheck, WriteString, String. -/
section
namespace Go.Proofs.YtbeaaieaffdgeaaGreatDoor
open Go.RowKit
set_option linter.unusedVariables false
set_option linter.unusedSimpArgs false
set_option maxRecDepth 100000

/-- The writer in block b has laid the bytes t. -/
abbrev Wr (B b : Nat) (t : ByteArray) (w : World) : Prop := Lib.IsBuilderF 48 5 B b (Lib.strCells t) w
abbrev WrU (B b : Nat) (t : ByteArray) (w : World) : Prop := Lib.BuilderAtF 48 5 B b (.pointer (some ⟨b, 0, none⟩)) (Lib.strCells t) w
/-- What else there is stands as it stood. -/
abbrev Oth (b : Nat) (w w' : World) : Prop := Lib.OthersKept 5 (some b) w w'
theorem info_bld : ∃ j, Tryz.prog.info? 46 = some j ∧ j.size = 2 := by
  obtain ⟨j, hj⟩ : ∃ j, Tryz.prog.info? 46 = some j := Option.isSome_iff_exists.1 (by kernel_rfl)
  refine ⟨j, hj, ?_⟩
  have : (Tryz.prog.info? 46).map (·.size) = some 2 := by kernel_rfl
  rw [hj] at this
  simpa using this
theorem infoU8 : (Tryz.prog.info? 5).map (fun i => (i.zero, i.size, i.bytes)) = some (some (.int .u8 0), 1, 1) := by kernel_rfl
set_option maxHeartbeats 1000000 in
theorem chk_used (b : Nat) (w : World) (h0 : w.cell? ⟨b, 0, none⟩ = some (.pointer (some ⟨b, 0, none⟩))) :
    Calls Tryz.prog 60 #[.pointer (some ⟨b, 0, none⟩)] w fun e w' => e = .returned (.tuple #[]) ∧ w = w' := by
  obtain ⟨j, hj, _⟩ := info_bld
  go_enter Tryz.func60, Tryz.ntmps60
  go_wp2
  rw [Lib.run_neq_ptr_same w _ Tryz.underlying43 hj]
  go_wp2
  go_end0
  exact ⟨rfl, rfl⟩
set_option maxHeartbeats 1000000 in
theorem chk_fresh (b : Nat) (w : World) (h0 : w.cell? ⟨b, 0, none⟩ = some (.pointer none)) (hsh : w.shape? b = some (48, 2)) (hfz : w.frozen? ⟨b, 0, none⟩ = false) :
    Calls Tryz.prog 60 #[.pointer (some ⟨b, 0, none⟩)] w fun e w' => e = .returned (.tuple #[]) ∧ w' = w.setCell ⟨b, 0, none⟩ (.pointer (some ⟨b, 0, none⟩)) := by
  obtain ⟨j, hj, hjs⟩ := info_bld
  go_enter Tryz.func60, Tryz.ntmps60
  go_wp2
  rw [Lib.run_to_unsafe w ⟨b, 0, none⟩ Tryz.underlying43 Tryz.underlying116 hj (by rw [hjs]; decide) hsh (Nat.zero_lt_succ 1)]
  simp only [Result.andThen]
  rw [Oper.upon_value]
  go_wp2
  rw [run_callFunc_extern Tryz.func80 (by kernel_rfl) (by kernel_rfl) (by kernel_rfl) (e := Extern.AbiNoEscape.same) (by kernel_rfl)]
  rw [Lib.run_noEscape]
  simp only [Result.andThen]
  rw [Oper.upon_value]
  go_wp2
  rw [Lib.run_from_unsafe w ⟨b, 0, none⟩ Tryz.underlying116 Tryz.underlying43 hj hsh (by kernel_rfl)]
  simp only [Result.andThen]
  rw [Oper.upon_value]
  go_wp2
  go_end0
  exact ⟨rfl, rfl⟩
theorem chk_any (B b : Nat) (t : ByteArray) (w : World) (h : Wr B b t w) :
    Calls Tryz.prog 60 #[.pointer (some ⟨b, 0, none⟩)] w fun e w' => e = .returned (.tuple #[]) ∧ WrU B b t w' ∧ Below B w w' ∧ Oth b w w' := by
  rcases h with h | h
  · refine (chk_fresh b w h.cell0 h.shape h.frozen0).mono ?_
    rintro e w' ⟨rfl, rfl⟩
    exact ⟨rfl, h.used _, (Below.refl B w).setCell (p := ⟨b, 0, none⟩) h.1 _, (Lib.OthersKept.refl _ _ w).setCell ⟨b, 0, none⟩ rfl _⟩
  · refine (chk_used b w h.cell0).mono ?_
    rintro e w' ⟨rfl, rfl⟩
    exact ⟨rfl, h, Below.refl B _, Lib.OthersKept.refl _ _ _⟩
theorem strCells_cat (s t : ByteArray) : Lib.strCells (s ++ t) = Lib.strCells s ++ Lib.strCells t := by
  simp [Lib.strCells]
set_option maxHeartbeats 2000000 in
theorem write_any (B b : Nat) (t s : ByteArray) (w : World) (h : Wr B b t w) (hlen : t.size + s.size ≤ 140737488355328) (hBw : B ≤ w.heap.size) :
    Calls Tryz.prog 38 #[.pointer (some ⟨b, 0, none⟩), .string s] w fun e w' => e = .returned (.tuple #[.int .i64 s.size, .nilIface]) ∧ Wr B b (t ++ s) w' ∧ Below B w w' ∧ Oth b w w' := by
  obtain ⟨i0, hi, hz0, hz1, hz2⟩ := info_parts infoU8
  have HC := Lib.hid (chk_any B b t w h)
  have hl : (Lib.strCells t).length = t.size := Lib.strCells_length t
  clear h
  go_enter Tryz.func38, Tryz.ntmps38
  go_wp2_with (go_at_call 60; refine HC.out.mono ?_)
  rintro e w1 ⟨rfl, h1, hb1, hk1⟩
  obtain ⟨hB, v, hbk, hown, hne⟩ := h1
  have c1 : w1.cell? ⟨b, 1, none⟩ = some v := by rw [Lib.cell_of_heap hbk]; rfl
  go_wp2_with (at_builtin; refine Lib.wpList_append_own_stringF _ rfl _ _ 44 9 rfl B 5 i0 Tryz.underlying44 Tryz.underlying9 hi hz0 hz1 hz2 _ _ _ rfl hown s rfl ?c3 ?c4 ?c5 ?_)
  case c3 => unfold maxLen; omega
  case c4 => omega
  case c5 => have := hb1.size; omega
  intro v' w2 hown' hgrow _
  have hlt : b < w1.heap.size := (Array.getElem?_eq_some_iff.1 hbk).1
  have hb2 : w2.heap[b]? = some (.cells #[.pointer (some ⟨b, 0, none⟩), v] 48 (0, 0)) := by
    rw [hgrow.block b hlt (fun e => hne e.symm)]
    exact hbk
  have d1 : w2.cell? ⟨b, 1, none⟩ = some v := by rw [Lib.cell_of_heap hb2]; rfl
  have f1 : w2.frozen? ⟨b, 1, none⟩ = false := Lib.frozen_of_heap hb2 1
  obtain ⟨ao, n', cap, rfl⟩ : ∃ ao n' cap, v' = .slice ao n' cap := by
    rcases hown'.2 with ⟨hv, _⟩ | ⟨g, cap, cur, fz, hv, _⟩
    · exact ⟨_, _, _, hv⟩
    · exact ⟨_, _, _, hv⟩
  go_wp2_with fail
  go_ret2
  refine ⟨rfl, .inr ?_, ?_, (hk1.grown hgrow (Lib.ownsRowF_kind hown)).setCell ⟨b, 1, none⟩ rfl _⟩
  · rw [strCells_cat]
    exact Lib.BuilderAtF.put (T := 48) (e := 5) hB hb2 (bs' := Lib.strCells t ++ Lib.strCells s) (by simpa [Lib.strCells_length] using hown') (by decide)
  · exact (hb1.grown hgrow (by have := hb1.size; omega) (fun k hk => (hown.lt k hk).1)).setCell (p := ⟨b, 1, none⟩) hB _
theorem strCells_list (l : List UInt8) : Lib.strCells ⟨l.toArray⟩ = Lib.byteCells l := by
  simp [Lib.strCells, Lib.byteCells]
set_option maxHeartbeats 1000000 in
theorem string_any (B b : Nat) (t : ByteArray) (w : World) (h : Wr B b t w) (h0 : t.size ≠ 0) :
    Calls Tryz.prog 16 #[.pointer (some ⟨b, 0, none⟩)] w fun e w' => e = .returned (.string t) ∧ Below B w w' := by
  obtain ⟨l, rfl⟩ : ∃ l : List UInt8, t = ⟨l.toArray⟩ := ⟨t.data.toList, by simp⟩
  unfold Wr at h
  rw [strCells_list] at h
  obtain ⟨p, hAt⟩ : ∃ p, Lib.BuilderAtF 48 5 B b p (Lib.byteCells l) w := by
    rcases h with h | h
    · exact ⟨_, h⟩
    · exact ⟨_, h⟩
  obtain ⟨hB, v, hbk, hown, hne⟩ := hAt
  have hl0 : l ≠ [] := fun e => h0 (by rw [e]; rfl)
  have hl1 : l.length ≠ 0 := fun e => hl0 (List.length_eq_zero_iff.1 e)
  rw [Lib.byteCells_length] at hown
  obtain ⟨g, cap, cur, fz, rfl, hbg, hg, hfz, hnc, hcm, hcs, htake⟩ : ∃ g cap cur fz, v = .slice (some ⟨g, 0, none⟩) l.length cap ∧ B ≤ g ∧ w.heap[g]? = some (.cells cur 5 fz) ∧ fz.2 ≤ l.length * 1 ∧ l.length ≤ cap ∧ cap ≤ maxLen ∧ cur.size = cap * 1 ∧ cur.toList.take (l.length * 1) = Lib.byteCells l := by
    rcases hown.2 with ⟨_, hz⟩ | ⟨g, cap, cur, fz, hv, r⟩
    · exact absurd hz hl1
    · exact ⟨g, cap, cur, fz, hv, r⟩
  have c1 : w.drew.cell? ⟨b, 1, none⟩ = some (.slice (some ⟨g, 0, none⟩) l.length cap) := by
    have : w.drew.heap[b]? = some (.cells #[p, .slice (some ⟨g, 0, none⟩) l.length cap] 48 (0, 0)) := hbk
    rw [Lib.cell_of_heap this]; rfl
  have hSD : (Builtin.unsafeSliceData_ #[44] 80 #[.slice (some ⟨g, 0, none⟩) l.length cap]).run Tryz.prog w.drew = .ok (.pointer (some ⟨g, 0, none⟩)) w.drew :=
    Lib.run_unsafeSliceData_row _ _ _ _ _ _ (by omega)
  have hUS : (Builtin.unsafeString_ #[80, 3] 9 #[.pointer (some ⟨g, 0, none⟩), .int .i64 l.length]).run Tryz.prog w.drew = .ok (.string ⟨l.toArray⟩) (w.drew.freeze ⟨g, 0, none⟩ l.length) := by
    refine Lib.run_unsafeString_row w.drew 80 3 9 5 Tryz.underlying80 (by kernel_rfl) g cur.size (by have hg' : w.drew.heap[g]? = some (.cells cur 5 fz) := hg; simp [World.shape?, hg']) l hl0 (by omega) (by unfold maxLen at hcm; omega) ?_
    intro j x hx
    exact hown.cells (g := g) rfl j (.int .u8 x.toNat) (by simp [Lib.byteCells, hx])
  go_enter Tryz.func16, Tryz.ntmps16
  go_wp2
  go_region
  all_goals (go_wp2; go_ret; exact ⟨rfl, Lib.below_freeze (Below.drew (Below.refl B w)) (p := ⟨g, 0, none⟩) hbg _⟩)
end Go.Proofs.YtbeaaieaffdgeaaGreatDoor
end
/- The program's reader: what it holds, OK, End, stop, NewReader; how many ones lead a byte. -/
section
namespace Go.Proofs.YtbeaaieaffdgeaaGreatDoor
open Go.RowKit
set_option linter.unusedVariables false

/-- How many ones lead a byte. -/
def lead (c : Nat) : Nat :=
  if c < 128 then 0 else if c < 192 then 1 else if c < 224 then 2 else if c < 240 then 3 else if c < 248 then 4 else if c < 252 then 5 else if c < 254 then 6 else if c < 255 then 7 else 8
theorem lead_le (c : Nat) : lead c ≤ 8 := by
  unfold lead; repeat' split
  all_goals omega
theorem lead_bitLen : ∀ c : Fin 256, (8 - (Lib.bitLen (255 - c.val) : Int)) = (lead c.val : Int) := by decide +kernel
theorem lz_any (x : Int) (c : Nat) (hc : c < 256) (hx : x = 255 - (c : Int)) (w : World) :
    Calls Tryz.prog 89 #[.int .u8 x] w fun e w' => e = .returned (.int .i64 (lead c : Nat)) ∧ w = w' := by
  refine (Tryz.bits_LeadingZeros8 x w (by omega) (by omega)).mono ?_
  rintro e w' ⟨rfl, rfl⟩
  refine ⟨ret_int ?_, rfl⟩
  rw [← lead_bitLen ⟨c, hc⟩]
  have : x.toNat = 255 - c := by omega
  rw [this]

/-- Block b holds a reader of type T (the program's, the document's): what is left to it, and whether it has stopped. -/
def RdT (T b : Nat) (s : ByteArray) (st : Bool) (w : World) : Prop := w.heap[b]? = some (.cells #[.string s, .bool st] T (0, 0))
theorem RdT.lt {T b : Nat} {s : ByteArray} {st : Bool} {w : World} (h : RdT T b s st w) : b < w.heap.size := by
  unfold RdT at h
  exact (Array.getElem?_eq_some_iff.1 h).1
theorem RdT.facts {T b : Nat} {s : ByteArray} {st : Bool} {w : World} (h : RdT T b s st w) :
    w.cell? ⟨b, 0, none⟩ = some (.string s) ∧ w.cell? ⟨b, 1, none⟩ = some (.bool st) ∧ w.frozen? ⟨b, 0, none⟩ = false ∧ w.frozen? ⟨b, 1, none⟩ = false := by
  unfold RdT at h
  refine ⟨?_, ?_, ?_, ?_⟩
  · simp [World.cell?, h]
  · simp [World.cell?, h]
  · simp [World.frozen?, h]
  · simp [World.frozen?, h]

set_option maxHeartbeats 400000 in
theorem ok_any (b : Nat) (s : ByteArray) (st : Bool) (w : World) (h : RdT 91 b s st w) :
    Calls Tryz.prog 55 #[.pointer (some ⟨b, 0, none⟩)] w fun e w' => e = .returned (.bool (!st)) ∧ w = w' := by
  obtain ⟨h0, h1, _, _⟩ := h.facts
  clear h
  go_enter Tryz.func55, Tryz.ntmps55
  go_wp2
  go_ret
  exact ⟨rfl, rfl⟩
set_option maxHeartbeats 400000 in
theorem ok_nil (w : World) :
    Calls Tryz.prog 55 #[.pointer none] w fun e w' => e = .returned (.bool false) ∧ w = w' := by
  go_enter Tryz.func55, Tryz.ntmps55
  go_wp2
  go_ret
  exact ⟨rfl, rfl⟩
set_option maxHeartbeats 400000 in
theorem end_nil (w : World) :
    Calls Tryz.prog 31 #[.pointer none] w fun e w' => e = .returned (.bool false) ∧ w = w' := by
  go_enter Tryz.func31, Tryz.ntmps31
  go_wp2_with (go_at_call 55; refine (ok_nil _).mono ?_; rintro e w' ⟨rfl, rfl⟩)
  go_ret
  exact ⟨rfl, rfl⟩
set_option maxHeartbeats 400000 in
theorem end_any (b : Nat) (s : ByteArray) (st : Bool) (w : World) (h : RdT 91 b s st w) :
    Calls Tryz.prog 31 #[.pointer (some ⟨b, 0, none⟩)] w fun e w' => e = .returned (.bool (!st && s.toList.isEmpty)) ∧ w = w' := by
  obtain ⟨h0, h1, _, _⟩ := h.facts
  have H := Lib.hid h
  clear h
  cases st
  all_goals
    go_enter Tryz.func31, Tryz.ntmps31
    go_wp2_with (go_at_call 55; refine (ok_any _ _ _ _ H.out).mono ?_; rintro e w' ⟨rfl, rfl⟩)
    go_ret
    exact ⟨rfl, rfl⟩
set_option maxHeartbeats 400000 in
theorem new_any (s : ByteArray) (w : World) :
    Calls Tryz.prog 27 #[.string s] w fun e w' => e = .returned (.pointer (some ⟨w.heap.size, 0, none⟩)) ∧ w.alloc (.cells #[.string s, .bool false] 91 (0, 0)) = w' := by
  go_enter Tryz.func27, Tryz.ntmps27
  go_wp2
  go_ret
  exact ⟨rfl, rfl⟩
theorem grown_set {w w' : World} {b : Nat} (h : w.grownBy w' (some b)) (o : Nat) (u : Value) : w.grownBy (w'.setCell ⟨b, o, none⟩ u) (some b) :=
  ⟨h.os, h.tape, h.output, by simpa [World.setCell] using h.size, fun k hk hne => (Below.heap_setCell w' ⟨b, o, none⟩ u k (fun e => hne (by rw [e]))).trans (h.block k hk hne)⟩
theorem grown_new {w w' : World} {r : Option Nat} (h : w.grownBy w' r) (x : Obj) : w.grownBy (w'.alloc x) r :=
  ⟨h.os, h.tape, h.output, Nat.le_trans h.size (by simp), fun k hk hne => (Below.heap_alloc w' x k (Nat.lt_of_lt_of_le hk h.size)).trans (h.block k hk hne)⟩
theorem grown_draws {w w' : World} {r : Option Nat} (h : w.grownBy w' r) (n : Nat) : w.grownBy (w'.drewN n) r := ⟨h.os, h.tape, h.output, h.size, h.block⟩
theorem grown_then {u v w : World} {r : Option Nat} (h : u.grownBy v r) (k : v.grownBy w r) : u.grownBy w r :=
  ⟨k.os.trans h.os, k.tape.trans h.tape, k.output.trans h.output, Nat.le_trans h.size k.size, fun i hi hne => (k.block i (Nat.lt_of_lt_of_le hi h.size) hne).trans (h.block i hi hne)⟩
theorem grown_below {w w' : World} (h : Below w.heap.size w w') (r : Option Nat) : w.grownBy w' r := ⟨h.os, h.tape, h.output, h.size, fun k hk _ => h.block k hk⟩
theorem RdT.kept {T b c : Nat} {s : ByteArray} {st : Bool} {w w' : World} (h : RdT T b s st w) (g : w.grownBy w' (some c)) (hne : b ≠ c) : RdT T b s st w' :=
  (g.block b h.lt (fun e => hne (by injection e))).trans h
theorem RdT.below {T b : Nat} {s : ByteArray} {st : Bool} {w w' : World} (h : RdT T b s st w) (g : Below w.heap.size w w') : RdT T b s st w' := (g.block b h.lt).trans h
theorem RdT.draws {T b : Nat} {s : ByteArray} {st : Bool} {w : World} (h : RdT T b s st w) (n : Nat) : RdT T b s st (w.drewN n) := h
theorem RdT.set0 {T b : Nat} {s : ByteArray} {st : Bool} {w : World} (h : RdT T b s st w) (t : ByteArray) : RdT T b t st (w.setCell ⟨b, 0, none⟩ (.string t)) := by
  unfold RdT at h ⊢
  show (w.heap.modify b _)[b]? = _
  rw [Array.getElem?_modify, if_pos rfl, h]
  rfl
theorem RdT.set1 {T b : Nat} {s : ByteArray} {st : Bool} {w : World} (h : RdT T b s st w) (t : Bool) : RdT T b s t (w.setCell ⟨b, 1, none⟩ (.bool t)) := by
  unfold RdT at h ⊢
  show (w.heap.modify b _)[b]? = _
  rw [Array.getElem?_modify, if_pos rfl, h]
  rfl
theorem RdT.alloc {T b : Nat} {s : ByteArray} {st : Bool} {w : World} (h : RdT T b s st w) (o : Obj) : RdT T b s st (w.alloc o) :=
  (Below.heap_alloc w o b h.lt).trans h
theorem RdT.new (T : Nat) (s : ByteArray) (st : Bool) (w : World) : RdT T w.heap.size s st (w.alloc (.cells #[.string s, .bool st] T (0, 0))) := by
  unfold RdT
  show (w.heap.push _)[w.heap.size]? = _
  simp

set_option maxHeartbeats 400000 in
theorem stop_any (b : Nat) (s : ByteArray) (st : Bool) (w : World) (h : RdT 91 b s st w) :
    Calls Tryz.prog 90 #[.pointer (some ⟨b, 0, none⟩)] w fun e w' => e = .returned (.tuple #[]) ∧ RdT 91 b ByteArray.empty true w' ∧ w.grownBy w' (some b) := by
  obtain ⟨h0, h1, f0, f1⟩ := h.facts
  have H := Lib.hid h
  clear h
  go_enter Tryz.func90, Tryz.ntmps90
  go_wp2
  go_end0
  exact ⟨rfl, (H.out.set0 _).set1 _, grown_set (grown_set (World.grownBy.refl _ _) _ _) _ _⟩
end Go.Proofs.YtbeaaieaffdgeaaGreatDoor
end
/- The program's reader takes a number. -/
section
namespace Go.Proofs.YtbeaaieaffdgeaaGreatDoor
open Go.RowKit
set_option linter.unusedVariables false

/-- What the lowest bits of a first byte say. -/
def lowB (c : Nat) : Nat := c - (256 - 2 ^ (8 - lead c))
def onesB (k : Nat) : Nat := 256 - 2 ^ (8 - k)
/-- Bytes behind a beginning, as a number. -/
def valL : Nat → List UInt8 → Nat
  | a, [] => a
  | a, b :: r => valL (a * 256 + b.toNat) r
theorem valL_snoc (l : List UInt8) (x : UInt8) : ∀ a, valL a (l ++ [x]) = valL a l * 256 + x.toNat := by
  induction l with
  | nil => intro a; rfl
  | cons b r ih => intro a; exact ih _
theorem valL_lt (l : List UInt8) : ∀ a, valL a l < (a + 1) * 256 ^ l.length := by
  induction l with
  | nil => intro a; simp [valL]
  | cons b r ih =>
    intro a
    have h := ih (a * 256 + b.toNat)
    have hb : b.toNat < 256 := b.toNat_lt
    refine Nat.lt_of_lt_of_le h ?_
    rw [List.length_cons, Nat.pow_succ, Nat.mul_comm (256 ^ r.length) 256, ← Nat.mul_assoc]
    exact Nat.mul_le_mul_right _ (by omega)
/-- The number that bytes begin with, and how many bytes it has. -/
def readN (l : List UInt8) : Option (Nat × Nat) :=
  match l with
  | [] => none
  | c :: r => if r.length < lead c.toNat then none
    else if sortN (valL (lowB c.toNat) (r.take (lead c.toNat))) = lead c.toNat then some (valL (lowB c.toNat) (r.take (lead c.toNat)), lead c.toNat + 1) else none
theorem readN_cons (c : UInt8) (r : List UInt8) : readN (c :: r) = if r.length < lead c.toNat then none
    else if sortN (valL (lowB c.toNat) (r.take (lead c.toNat))) = lead c.toNat then some (valL (lowB c.toNat) (r.take (lead c.toNat)), lead c.toNat + 1) else none := rfl
theorem low_a : ∀ c : Fin 256, (lowB c.val + 1) * 256 ^ (lead c.val - 1) ≤ 72057594037927936 := by decide +kernel
theorem low_b : ∀ c : Fin 256, (lowB c.val + 1) * 256 ^ (lead c.val) ≤ 18446744073709551616 := by decide +kernel
theorem low_and : ∀ c : Fin 256, c.val &&& (255 - onesB (lead c.val)) = lowB c.val := by decide +kernel
theorem ones_lt (k : Nat) (h : k ≤ 8) : onesB k < 256 := by
  unfold onesB
  have h1 : 0 < 2 ^ (8 - k) := Nat.two_pow_pos _
  omega
theorem bits_low (c : Nat) (hc : c < 256) : bits .andNot .u8 (c : Int) (onesB (lead c) : Int) = (lowB c : Int) := by
  rw [u8_andNot_nat c _ hc (ones_lt _ (lead_le c))]
  exact congrArg _ (low_and ⟨c, hc⟩)
/-- What was read of a number when the reader stands at byte k. -/
def valAt (s : ByteArray) (c k : Nat) : Nat := valL (lowB c) ((s.data.toList.drop 1).take (k - 1))
theorem valAt_one (s : ByteArray) (c : Nat) : valAt s c 1 = lowB c := rfl
theorem valAt_lt (s : ByteArray) (c k : Nat) (hc : c < 256) (hk : k ≤ lead c) : valAt s c k < 72057594037927936 := by
  have h := valL_lt ((s.data.toList.drop 1).take (k - 1)) (lowB c)
  have hl : ((s.data.toList.drop 1).take (k - 1)).length ≤ lead c - 1 := Nat.le_trans (List.length_take_le _ _) (by omega)
  have hp : 256 ^ ((s.data.toList.drop 1).take (k - 1)).length ≤ 256 ^ (lead c - 1) := Nat.pow_le_pow_right (by omega) hl
  have := low_a ⟨c, hc⟩
  exact Nat.lt_of_lt_of_le h (Nat.le_trans (Nat.mul_le_mul_left _ hp) this)
theorem valAt_lt' (s : ByteArray) (c k : Nat) (hc : c < 256) (hk : k ≤ lead c + 1) : valAt s c k < 18446744073709551616 := by
  have h := valL_lt ((s.data.toList.drop 1).take (k - 1)) (lowB c)
  have hl : ((s.data.toList.drop 1).take (k - 1)).length ≤ lead c := Nat.le_trans (List.length_take_le _ _) (by omega)
  have hp : 256 ^ ((s.data.toList.drop 1).take (k - 1)).length ≤ 256 ^ (lead c) := Nat.pow_le_pow_right (by omega) hl
  have := low_b ⟨c, hc⟩
  exact Nat.lt_of_lt_of_le h (Nat.le_trans (Nat.mul_le_mul_left _ hp) this)
theorem valAt_succ (s : ByteArray) (c k : Nat) (h1 : 1 ≤ k) (h : k < s.size) : valAt s c (k + 1) = valAt s c k * 256 + s[k].toNat := by
  unfold valAt
  have hl : k - 1 < (s.data.toList.drop 1).length := by
    have : s.data.toList.length = s.size := by simp
    simp; omega
  have e : (s.data.toList.drop 1).take (k + 1 - 1) = (s.data.toList.drop 1).take (k - 1) ++ [s[k]] := by
    rw [show k + 1 - 1 = (k - 1) + 1 by omega, List.take_succ_eq_append_getElem hl]
    congr 2
    rw [List.getElem_drop]
    have : 1 + (k - 1) = k := by omega
    simp only [this]
    rfl
  rw [e, valL_snoc]
theorem bits_join (v x : Nat) (hv : v < 72057594037927936) (hx : x < 256) : bits .or .u64 ((v : Int) * 256) (x : Int) = ((v * 256 + x : Nat) : Int) := by
  have h := u64_or_nat (v * 256) x (by omega) (by omega)
  rw [nat_join 8 (v * 256) x (by omega) (by omega)] at h
  rw [← h]
  congr 1
theorem ones_at (k : Nat) (hk : k ≤ 8) (w : World) :
    Calls Tryz.prog 82 #[.int .i64 (k : Int)] w fun e w' => e = .returned (.int .u8 (onesB k : Int)) ∧ w' = w :=
  (ones_any k hk w).mono fun _ _ h => ⟨h.1, h.2.symm⟩
end Go.Proofs.YtbeaaieaffdgeaaGreatDoor
end
/- The program's reader takes a number: the walk. -/
section
namespace Go.Proofs.YtbeaaieaffdgeaaGreatDoor
open Go.RowKit
set_option linter.unusedVariables false

/-- What Num hands back, and what becomes of the reader. -/
def NumPost (b : Nat) (s : ByteArray) (w : World) (e : Ending) (w' : World) : Prop :=
  w.grownBy w' (some b) ∧ match readN s.data.toList with
    | none => e = .returned (.int .u64 0) ∧ RdT 91 b ByteArray.empty true w'
    | some (n, k) => e = .returned (.int .u64 (n : Int)) ∧ RdT 91 b (s.extract k s.size) false w'
theorem NumPost.bad {b : Nat} {s : ByteArray} {w w' : World} {e : Ending} (h : readN s.data.toList = none) (g : w.grownBy w' (some b)) (he : e = .returned (.int .u64 0)) (r : RdT 91 b ByteArray.empty true w') : NumPost b s w e w' := by
  unfold NumPost; rw [h]; exact ⟨g, he, r⟩

set_option maxHeartbeats 1000000 in
theorem num_empty (b : Nat) (s : ByteArray) (w : World) (h : RdT 91 b s false w) (hz : s.size = 0) :
    Calls Tryz.prog 74 #[.pointer (some ⟨b, 0, none⟩)] w (NumPost b s w) := by
  obtain rfl : s = ByteArray.empty := by
    apply ByteArray.ext
    exact Array.eq_empty_of_size_eq_zero hz
  obtain ⟨h0, h1, f0, f1⟩ := h.facts
  have H := Lib.hid h
  have HZ := Lib.hid hz
  clear h hz
  go_enter Tryz.func74, Tryz.ntmps74
  go_wp2
  go_step3
  go_wp2_with (go_at_call 55; refine (ok_any _ _ _ _ H.out).mono ?_; rintro e w' ⟨rfl, rfl⟩)
  go_step3
  go_wp2_with fail
  refine wp_loop_rounds 1 ?_
  rw [rounds_succ]
  go_wp2_with (go_at_call 90; refine (stop_any _ _ _ _ H.out).mono ?_; rintro e w' ⟨rfl, hr, hg⟩)
  rw [Exit.noGoto_ret]
  go_ret
  exact NumPost.bad rfl hg rfl hr

theorem toList_cons (s : ByteArray) (h : 0 < s.size) : s.data.toList = s[0] :: s.data.toList.drop 1 := by
  have hl : 0 < s.data.toList.length := by simpa using h
  have := List.getElem_cons_drop hl
  exact this.symm
theorem readN_short (s : ByteArray) (h : 0 < s.size) (hs : s.size ≤ lead s[0].toNat) : readN s.data.toList = none := by
  rw [toList_cons s h, readN_cons]
  rw [if_pos]
  have : s.data.toList.length = s.size := by simp
  simp; omega
theorem readN_sort (s : ByteArray) (h : 0 < s.size) (hs : lead s[0].toNat < s.size) (hn : sortN (valAt s s[0].toNat (lead s[0].toNat + 1)) ≠ lead s[0].toNat) : readN s.data.toList = none := by
  rw [toList_cons s h, readN_cons]
  have hl : s.data.toList.length = s.size := by simp
  rw [if_neg (by simp; omega), if_neg]
  exact hn
theorem readN_good (s : ByteArray) (h : 0 < s.size) (hs : lead s[0].toNat < s.size) (hn : sortN (valAt s s[0].toNat (lead s[0].toNat + 1)) = lead s[0].toNat) :
    readN s.data.toList = some (valAt s s[0].toNat (lead s[0].toNat + 1), lead s[0].toNat + 1) := by
  rw [toList_cons s h, readN_cons]
  have hl : s.data.toList.length = s.size := by simp
  rw [if_neg (by simp; omega), if_pos]
  · rfl
  · exact hn
theorem xor_255 (a : Nat) (ha : a < 256) : a ^^^ 255 = 255 - a := by
  have h := congrArg BitVec.toNat (BitVec.xor_allOnes (x := BitVec.ofNat 8 a))
  rw [BitVec.toNat_xor, BitVec.toNat_not, BitVec.toNat_ofNat, BitVec.toNat_allOnes, Nat.mod_eq_of_lt ha] at h
  exact h
theorem bits_not (c : Nat) (hc : c < 256) : bits BinOp.xor IntKind.u8 IntKind.u8.max (c : Int) = 255 - (c : Int) := by
  have e : IntKind.u8.max = ((255 : Nat) : Int) := by rfl
  rw [e, u8_xor_nat 255 c (by omega) hc, Nat.xor_comm, xor_255 c hc]
  omega
theorem NumPost.good {b : Nat} {s : ByteArray} {w w' : World} {e : Ending} {n k : Nat} (h : readN s.data.toList = some (n, k)) (g : w.grownBy w' (some b)) (he : e = .returned (.int .u64 (n : Int))) (r : RdT 91 b (s.extract k s.size) false w') : NumPost b s w e w' := by
  unfold NumPost; rw [h]; exact ⟨g, he, r⟩

set_option maxHeartbeats 4000000 in
theorem num_more (b : Nat) (s : ByteArray) (w : World) (h : RdT 91 b s false w) (hz : 0 < s.size) (hs : s.size ≤ 70368744177664) :
    Calls Tryz.prog 74 #[.pointer (some ⟨b, 0, none⟩)] w (NumPost b s w) := by
  obtain ⟨h0, h1, f0, f1⟩ := h.facts
  have q0 : ∀ n o, ((w.drewN n).alloc o).cell? ⟨b, 0, none⟩ = some (.string s) := fun n o => ((h.draws n).alloc o).facts.1
  have q1 : ∀ n o, ((w.drewN n).alloc o).frozen? ⟨b, 0, none⟩ = false := fun n o => ((h.draws n).alloc o).facts.2.2.1
  have H := Lib.hid h
  clear h
  have hc : s[0].toNat < 256 := s[0].toNat_lt
  have hl8 := lead_le s[0].toNat
  have hlow := bits_low s[0].toNat hc
  have hlb : lowB s[0].toNat ≤ 255 := by unfold lowB; omega
  have hnot : bits BinOp.xor IntKind.u8 IntKind.u8.max (s[0].toNat : Int) = 255 - (s[0].toNat : Int) := bits_not _ hc
  have HNOT := Lib.hid hnot
  clear hnot
  have BS := Lib.hid (readN_short s hz)
  have BD := Lib.hid (readN_sort s hz)
  have GD := Lib.hid (readN_good s hz)
  go_enter Tryz.func74, Tryz.ntmps74
  go_wp2
  go_step3
  go_wp2_with (go_at_call 55; refine (ok_any _ _ _ _ H.out).mono ?_; rintro e w' ⟨rfl, rfl⟩)
  go_step3
  go_wp2_with fail
  go_loopw [3, 4, 5] (fun n q i wr => ∃ k : Nat, k ≤ s.size ∧ i = .int .i64 (k : Int) ∧ ((k = 0 ∧ n = .int .u64 0 ∧ q = .int .i64 0 ∧ wr = w) ∨ (1 ≤ k ∧ k ≤ lead s[0].toNat ∧ (∃ v : Nat, n = .int .u64 (v : Int) ∧ v = valAt s s[0].toNat k) ∧ q = .int .i64 (lead s[0].toNat : Int) ∧ ∃ m, wr = w.drewN m)))
    (fun _ _ i _ => s.size + 1 - (intOf i).toNat)
  case atStart => exact ⟨0, Nat.zero_le _, rfl, .inl ⟨rfl, rfl, rfl, rfl⟩⟩
  case round =>
    obtain ⟨k, hk, rfl, hrel⟩ := hrel
    rcases hrel with ⟨rfl, rfl, rfl, rfl⟩ | ⟨hk1, hkl, ⟨v, rfl, hv⟩, rfl, m, rfl⟩
    · have ht : ((0 : Int) == (s.size : Int)) = false := by rw [beq_eq_false_iff_ne]; omega
      by_cases hl : 0 < lead s[0].toNat
      · go_wp2_with (go_at_call 89; refine (lz_any _ s[0].toNat hc HNOT.out _).mono ?_; rintro e w' ⟨rfl, rfl⟩)
        go_quiet ((go_at_call 82; exact Calls.quiet_of_same (ones_at _ hl8 _)))
        go_wp2_with fail
        go_roundw
        case rel => exact ⟨1, by omega, rfl, .inr ⟨by omega, by omega, ⟨_, rfl, rfl⟩, rfl, _, rfl⟩⟩
        case measure => simp [intOf]
      · have hl0 : lead s[0].toNat ≤ 0 := by omega
        have hv1 : valAt s s[0].toNat (lead s[0].toNat + 1) = lowB s[0].toNat := by rw [show lead s[0].toNat = 0 by omega]; rfl
        by_cases hn : sortN (lowB s[0].toNat) = lead s[0].toNat
        · have hn' : (((sortN (lowB s[0].toNat) : Nat) : Int) != ((lead s[0].toNat : Nat) : Int)) = false := by rw [bne_eq_false_iff_eq, hn]
          have hfin := GD.out (by omega) (by rw [hv1]; exact hn)
          rw [hv1] at hfin
          have HFIN := Lib.hid hfin
          clear hfin hv1 hn hl
          go_wp2_with (go_at_call 89; refine (lz_any _ s[0].toNat hc HNOT.out _).mono ?_; rintro e w' ⟨rfl, rfl⟩)
          go_quiet ((go_at_call 82; exact Calls.quiet_of_same (ones_at _ hl8 _)))
          go_wp2_with (go_at_call 81; refine (sortOf_any (lowB s[0].toNat) (by omega) _).mono ?_; rintro e w' ⟨rfl, rfl⟩)
          rw [Exit.noGoto_ret]
          go_ret
          refine NumPost.good HFIN.out ?_ rfl ?_
          · exact grown_set (grown_new (grown_draws (World.grownBy.refl _ _) _) _) _ _
          · exact ((H.out.draws _).alloc _).set0 _
        · have hn' : (((sortN (lowB s[0].toNat) : Nat) : Int) != ((lead s[0].toNat : Nat) : Int)) = true := by rw [bne_iff_ne]; omega
          have hfin := BD.out (by omega) (by rw [hv1]; exact hn)
          have HFIN := Lib.hid hfin
          clear hfin hv1 hn hl
          go_wp2_with (first | (go_at_call 89; refine (lz_any _ s[0].toNat hc HNOT.out _).mono ?_; rintro e w' ⟨rfl, rfl⟩))
          go_quiet ((go_at_call 82; exact Calls.quiet_of_same (ones_at _ hl8 _)))
          go_wp2_with (first | (go_at_call 81; refine (sortOf_any (lowB s[0].toNat) (by omega) _).mono ?_; rintro e w' ⟨rfl, rfl⟩) | (go_at_call 90; refine (stop_any b s false _ ((H.out.draws _).alloc _)).mono ?_; rintro e w' ⟨rfl, hr, hg⟩))
          rw [Exit.noGoto_ret]
          go_ret
          exact NumPost.bad HFIN.out (grown_then (grown_new (grown_draws (World.grownBy.refl _ _) _) _) hg) rfl hr
    · by_cases hend : k = s.size
      · have ht : ((k : Int) == (s.size : Int)) = true := by rw [beq_iff_eq]; omega
        have HFIN := Lib.hid (BS.out (by omega))
        have HR := Lib.hid (H.out.draws m)
        clear hend hv
        go_wp2_with (go_at_call 90; refine (stop_any b s false _ HR.out).mono ?_; rintro e w' ⟨rfl, hr, hg⟩)
        rw [Exit.noGoto_ret]
        go_ret
        exact NumPost.bad HFIN.out (grown_then (grown_draws (World.grownBy.refl _ _) _) hg) rfl hr
      · have hlt : k < s.size := by omega
        have ht : ((k : Int) == (s.size : Int)) = false := by rw [beq_eq_false_iff_ne]; omega
        have ht0 : ((k : Int) == 0) = false := by rw [beq_eq_false_iff_ne]; omega
        have hvb : v < 72057594037927936 := by rw [hv]; exact valAt_lt s _ k hc hkl
        have hx : s[k].toNat < 256 := s[k].toNat_lt
        obtain ⟨v', hv'⟩ : ∃ v' : Nat, v' = v * 256 + s[k].toNat := ⟨_, rfl⟩
        have hor : bits .or .u64 ((v : Int) * 256) (s[k].toNat : Int) = (v' : Int) := by rw [hv']; exact bits_join v _ hvb hx
        have hs' : v' = valAt s s[0].toNat (k + 1) := by rw [valAt_succ s _ k hk1 hlt, hv', hv]
        have hvb' : v' < 18446744073709551616 := by rw [hs']; exact valAt_lt' s _ (k + 1) hc (by omega)
        have HS := Lib.hid hs'
        clear hs' hv' hv hend
        by_cases hl : k < lead s[0].toNat
        · go_wp2_with fail
          go_roundw
          case rel => exact ⟨k + 1, by omega, by go_num, .inr ⟨by omega, by omega, ⟨v', rfl, HS.out⟩, rfl, m, rfl⟩⟩
          case measure => simp [intOf]; omega
        · have HK := Lib.hid (show k = lead s[0].toNat by omega)
          have hge : lead s[0].toNat ≤ k := by omega
          have HV := Lib.hid (show valAt s s[0].toNat (lead s[0].toNat + 1) = v' by rw [← HK.out]; exact HS.out.symm)
          by_cases hn : sortN v' = lead s[0].toNat
          · have hn' : (((sortN v' : Nat) : Int) != ((lead s[0].toNat : Nat) : Int)) = false := by rw [bne_eq_false_iff_eq, hn]
            have hfin := GD.out (by omega) (by rw [HV.out]; exact hn)
            rw [HV.out] at hfin
            have HFIN := Lib.hid hfin
            clear hfin hn hl
            go_wp2_with (go_at_call 81; refine (sortOf_any v' (by omega) _).mono ?_; rintro e w' ⟨rfl, rfl⟩)
            rw [Exit.noGoto_ret]
            go_ret
            refine NumPost.good HFIN.out ?_ rfl ?_
            · exact grown_set (grown_new (grown_draws (World.grownBy.refl _ _) _) _) _ _
            · exact ((H.out.draws _).alloc _).set0 _
          · have hn' : (((sortN v' : Nat) : Int) != ((lead s[0].toNat : Nat) : Int)) = true := by rw [bne_iff_ne]; omega
            have HFIN := Lib.hid (BD.out (by omega) (by rw [HV.out]; exact hn))
            clear hn hl
            go_wp2_with (first | (go_at_call 81; refine (sortOf_any v' (by omega) _).mono ?_; rintro e w' ⟨rfl, rfl⟩) | (go_at_call 90; refine (stop_any b s false _ ((H.out.draws _).alloc _)).mono ?_; rintro e w' ⟨rfl, hr, hg⟩))
            rw [Exit.noGoto_ret]
            go_ret
            exact NumPost.bad HFIN.out (grown_then (grown_new (grown_draws (World.grownBy.refl _ _) _) _) hg) rfl hr
end Go.Proofs.YtbeaaieaffdgeaaGreatDoor
end
