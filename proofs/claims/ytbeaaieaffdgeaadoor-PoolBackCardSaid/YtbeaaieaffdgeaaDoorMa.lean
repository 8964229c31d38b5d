/- Texts that belong together: WireA, WireB, WireH, WireC, WireE. -/
import Derived.Test.YtbeaaieaffdgeaaDoorProg
import Derived.WalkKit
import Derived.WalkSpells
import Derived.WalkLawsBesides
import Derived.Lib.Hide
import Derived.Laws.CopyOwn
import Derived.Handy
/- Contracts of the small functions of wire and of the document's own answer: what each hands back, and that the world stays. -/
section
namespace Go.Proofs.YtbeaaieaffdgeaaDoor
open Go.RowKit
set_option linter.unusedVariables false

set_option maxHeartbeats 400000 in
theorem ones_any (k : Nat) (hk : k ≤ 8) (w : World) :
    Calls Tryd.prog 55 #[.int .i64 (k : Int)] w fun e w' => e = .returned (.int .u8 ((256 - 2 ^ (8 - k) : Nat) : Int)) ∧ w = w' := by
  have h : k = 0 ∨ k = 1 ∨ k = 2 ∨ k = 3 ∨ k = 4 ∨ k = 5 ∨ k = 6 ∨ k = 7 ∨ k = 8 := by omega
  rcases h with rfl | rfl | rfl | rfl | rfl | rfl | rfl | rfl | rfl
  all_goals
    go_enter Tryd.func55, Tryd.ntmps55
    go_wp2
    go_ret
    exact ⟨rfl, rfl⟩
end Go.Proofs.YtbeaaieaffdgeaaDoor
end
/- The sort of a number: the closure's answer, and the first sort with room. -/
section
namespace Go.Proofs.YtbeaaieaffdgeaaDoor
open Go.RowKit
set_option linter.unusedVariables false

/-- Is there room for n in sort k? -/
def roomB (n k : Nat) : Bool := decide (k = 8) || decide (n < 2 ^ (7 + 7 * k))
/-- The first sort with room. -/
def sortN (n : Nat) : Nat :=
  if n < 128 then 0 else if n < 16384 then 1 else if n < 2097152 then 2 else if n < 268435456 then 3 else if n < 34359738368 then 4
  else if n < 4398046511104 then 5 else if n < 562949953421312 then 6 else if n < 72057594037927936 then 7 else 8
theorem sortN_le (n : Nat) : sortN n ≤ 8 := by
  unfold sortN; repeat' split
  all_goals omega
theorem roomB_sortN (n : Nat) : roomB n (sortN n) = true := by
  unfold sortN; repeat' split
  all_goals (simp [roomB]; try omega)
theorem roomB_lt (n k : Nat) (h : k < sortN n) : roomB n k = false := by
  have h8 := sortN_le n
  have hk : k = 0 ∨ k = 1 ∨ k = 2 ∨ k = 3 ∨ k = 4 ∨ k = 5 ∨ k = 6 ∨ k = 7 := by omega
  unfold sortN at h
  repeat' split at h
  all_goals
    rcases hk with rfl | rfl | rfl | rfl | rfl | rfl | rfl | rfl
    all_goals (first | omega | (simp [roomB]; omega))

theorem ret_bool {a b : Bool} (h : a = b) : Ending.returned (.bool a) = .returned (.bool b) := by rw [h]
theorem ret_int {k : IntKind} {a b : Int} (h : a = b) : Ending.returned (.int k a) = .returned (.int k b) := by rw [h]

set_option maxHeartbeats 400000 in
theorem room_at (n : Nat) (hn : n ≤ 18446744073709551615) (b : Nat) (k : Nat) (hk : k ≤ 8) (w : World) (hc : w.cell? ⟨b, 0, none⟩ = some (.int .u64 (n : Int))) :
    Calls Tryd.prog 63 #[.int .i64 (k : Int), .pointer (some ⟨b, 0, none⟩)] w fun e w' => e = .returned (.bool (roomB n k)) ∧ w = w' := by
  have h : k = 0 ∨ k = 1 ∨ k = 2 ∨ k = 3 ∨ k = 4 ∨ k = 5 ∨ k = 6 ∨ k = 7 ∨ k = 8 := by omega
  rcases h with rfl | rfl | rfl | rfl | rfl | rfl | rfl | rfl | rfl
  all_goals
    go_enter Tryd.func63, Tryd.ntmps63
    go_wp2
    go_ret
    exact ⟨ret_bool (by rw [Bool.eq_iff_iff]; simp [roomB]; try omega), rfl⟩
theorem room_yes (n : Nat) (hn : n ≤ 18446744073709551615) (b : Nat) (k : Nat) (hk : k ≤ 8) (w : World) (hc : w.cell? ⟨b, 0, none⟩ = some (.int .u64 (n : Int))) (h : roomB n k = true) :
    Calls Tryd.prog 63 #[.int .i64 (k : Int), .pointer (some ⟨b, 0, none⟩)] w fun e w' => e = .returned (.bool true) ∧ w = w' :=
  (room_at n hn b k hk w hc).mono fun _ _ hh => by rw [h] at hh; exact hh
theorem room_no (n : Nat) (hn : n ≤ 18446744073709551615) (b : Nat) (k : Nat) (hk : k ≤ 8) (w : World) (hc : w.cell? ⟨b, 0, none⟩ = some (.int .u64 (n : Int))) (h : roomB n k = false) :
    Calls Tryd.prog 63 #[.int .i64 (k : Int), .pointer (some ⟨b, 0, none⟩)] w fun e w' => e = .returned (.bool false) ∧ w = w' :=
  (room_at n hn b k hk w hc).mono fun _ _ hh => by rw [h] at hh; exact hh

set_option maxHeartbeats 400000 in
theorem sortOf_any (n : Nat) (hn : n ≤ 18446744073709551615) (w : World) :
    Calls Tryd.prog 54 #[.int .u64 (n : Int)] w fun e w' => e = .returned (.int .i64 (sortN n : Nat)) ∧ w.alloc (.cells #[.int .u64 (n : Int)] 72 (0, 0)) = w' := by
  have hs := sortN_le n
  go_enter Tryd.func54, Tryd.ntmps54
  go_wp2
  go_outline
  go_loop [4] (fun s => ∃ k : Nat, k ≤ sortN n ∧ s = .int .i64 k) (fun s => 8 - (intOf s).toNat)
  case atStart => exact ⟨0, Nat.zero_le _, rfl⟩
  case round =>
    obtain ⟨k, hk, rfl⟩ := hrel
    by_cases hlt : k < sortN n
    · have hr := roomB_lt n k hlt
      go_wp2_with (go_at_call 63; refine (room_no n hn _ k (by omega) _ (by simp) hr).mono ?_; rintro e w' ⟨rfl, rfl⟩)
      go_round
      case rel => exact ⟨k + 1, by omega, by go_num⟩
      case measure => simp [intOf]; omega
    · obtain rfl : k = sortN n := by omega
      have hr := roomB_sortN n
      go_wp2_with (go_at_call 63; refine (room_yes n hn _ _ (by omega) _ (by simp) hr).mono ?_; rintro e w' ⟨rfl, rfl⟩)
      go_ret
      exact ⟨rfl, rfl⟩
end Go.Proofs.YtbeaaieaffdgeaaDoor
end
/- Plain words: the bytes of a number; a row of bytes made a string. -/
section
namespace Go.Proofs.YtbeaaieaffdgeaaDoor
open Go.RowKit
set_option linter.unusedVariables false

/-- The s lowest bytes of n, the highest first. -/
def beL : Nat → Nat → List UInt8
  | 0, _ => []
  | s + 1, n => UInt8.ofNat (n / 256 ^ s % 256) :: beL s n
/-- A number's bytes. -/
def numL (n : Nat) : List UInt8 := UInt8.ofNat (256 - 2 ^ (8 - sortN n) + n / 256 ^ sortN n) :: beL (sortN n) n
def numS (n : Nat) : ByteArray := ⟨(numL n).toArray⟩

theorem or_join (x y i : Nat) (hx : x < 256) (hx' : x % 2 ^ i = 0) (hy : y < 2 ^ i) (hi : i ≤ 8) : bits .or .u8 (x : Int) (y : Int) = ((x + y : Nat) : Int) := by
  have h : 2 ^ i ≤ 2 ^ 8 := Nat.pow_le_pow_right (by omega) hi
  rw [u8_or_nat x y hx (by omega), nat_join i x y hx' hy]

theorem foldl_push (ns : List Int) : ∀ s : ByteArray, ns.foldl (fun r n => r.push (UInt8.ofNat n.toNat)) s = ⟨s.data ++ (ns.map fun n => UInt8.ofNat n.toNat).toArray⟩ := by
  induction ns with
  | nil => intro s; simp
  | cons n ns ih =>
    intro s
    rw [List.foldl_cons, ih]
    have h : (s.push (UInt8.ofNat n.toNat)).data = s.data.push (UInt8.ofNat n.toNat) := rfl
    rw [h]
    congr 1
    apply Array.ext'
    simp
theorem conv_bytes {P : Program} (w : World) (src dst e : TypeId) (a : Addr) (l c : Nat) (ns : List Int) (bs : ByteArray)
    (hs : P.underlying src = some (.slice e)) (he : P.underlying e = some (.int .u8)) (hd : P.underlying dst = some .string) (hl : ns.length = l)
    (hc : ∀ j v, (ns.map (Value.int .u8))[j]? = some v → w.cell? (a.add j) = some v) (hb : (ns.map fun n => UInt8.ofNat n.toNat) = bs.data.toList) :
    (convert src dst (.slice (some a) l c)).run P w = .ok (.string bs) w := by
  rw [run_convert_bytes_string w src dst e (some a) l c hs he hd]
  have h := run_loadCells_list (P := P) w a (ns.map (Value.int .u8)) hc
  rw [List.length_map, hl] at h
  rw [run_bytesToString w a l c ns h, foldl_push, hb]
  cases bs
  simp
end Go.Proofs.YtbeaaieaffdgeaaDoor
end
/- The bytes of a number, as the program lays them: sort by sort. -/
section
namespace Go.Proofs.YtbeaaieaffdgeaaDoor
open Go.RowKit
set_option linter.unusedVariables false

set_option maxRecDepth 100000 in
set_option maxHeartbeats 1000000 in
theorem numBytes_0 (n : Nat) (hl : 0 ≤ n) (hh : n ≤ 127) (w : World) :
    Calls Tryd.prog 40 #[.int .u64 (n : Int)] w fun e w' => e = .returned (.string (numS n)) ∧ Below w.heap.size w w' := by
  have hs : sortN n = 0 := by
    unfold sortN; repeat' split
    all_goals omega
  have h3 : ∀ W : World, Calls Tryd.prog 54 #[.int .u64 (n : Int)] W fun e w' => e = .returned (.int .i64 0) ∧ W.alloc (.cells #[.int .u64 (n : Int)] 72 (0, 0)) = w' := by
    intro W
    have := sortOf_any n (by omega) W
    rw [hs] at this
    exact this
  have h4 : ∀ W : World, Calls Tryd.prog 55 #[.int .i64 0] W fun e w' => e = .returned (.int .u8 0) ∧ W = w' := by
    intro W
    have := ones_any 0 (by omega) W
    exact this
  have H3 := Lib.hid h3
  have H4 := Lib.hid h4
  clear h3 h4
  have hor : bits .or .u8 0 ((n : Int)) = 0 + (n : Int) := by
    have e : (n : Int) = ((n / 1 : Nat) : Int) := by omega
    rw [e]
    exact (or_join 0 (n / 1) 7 (by omega) (by omega) (by omega) (by omega))
  have hmk : ∀ W : World, (Instr.makeSlice 49 (.int .i64 1) (.int .i64 1)).run Tryd.prog W = .ok (.slice (some ⟨W.heap.size, 0, none⟩) 1 1) (W.alloc (.cells #[.int .u8 0] 5 (0, 0))) := fun W => by kernel_rfl
  have hfin : numL n = [UInt8.ofNat (0 + n / 1)] := by
    unfold numL; rw [hs]; simp [beL]
  have HF := Lib.hid hfin
  have HS := Lib.hid hs
  clear hs hfin
  go_enter Tryd.func40, Tryd.ntmps40
  go_wp2_with (go_at_call 54; refine (H3.out _).mono ?_; rintro e w' ⟨rfl, rfl⟩)
  refine wp_loop_rounds 1 ?_
  repeat any_goals (rw [rounds_succ]; go_wp2_with (go_at_call 55; refine (H4.out _).mono ?_; rintro e w' ⟨rfl, rfl⟩))
  rw [run_copy_cells _ 49 49 3 5 (w.heap.size + 1 + 1) 0 1 1 ⟨w.heap.size, 0, none⟩ 9 9 [.int .u8 (0 + (n : Int))]
    Tryd.underlying49 (by kernel_rfl) rfl ?c1 ?c2 ?c3 ?c4]
  case c1 =>
    intro j v h
    have hj : j < 1 := by
      have := (List.getElem?_eq_some_iff.1 h).1
      simpa using this
    have hj : j = 0 := by omega
    rcases hj with rfl
    all_goals
      simp only [List.getElem?_cons_zero, Option.some.injEq] at h
      subst h
      simp only [Addr.add]
      go_simp
  case c2 =>
    intro j hj
    have hj : j = 0 := by simp at hj; omega
    rcases hj with rfl
    all_goals go_simp
  case c3 =>
    intro j hj
    go_simp
  case c4 =>
    intro v hv
    simp only [List.mem_cons, List.not_mem_nil, or_false] at hv
    rcases hv with rfl
    all_goals rfl
  simp only [World.setCells]
  go_simp
  go_wp2
  rw [conv_bytes _ 49 9 5 ⟨w.heap.size + 1 + 1, 0, none⟩ 1 1 [0 + (n : Int)] (numS n)
    Tryd.underlying49 Tryd.underlying5 Tryd.underlying9 rfl ?d1 ?d2]
  case d1 =>
    intro j v h
    have hj : j < 1 := by
      have := (List.getElem?_eq_some_iff.1 h).1
      simpa using this
    have hj : j = 0 := by omega
    rcases hj with rfl
    all_goals
      simp only [List.map_cons, List.getElem?_cons_zero, Option.some.injEq] at h
      subst h
      simp only [Addr.add]
      go_simp
  case d2 =>
    unfold numS
    rw [HF.out]
    simp only [List.map_cons, List.map_nil]
    refine congr (congrArg List.cons (congrArg UInt8.ofNat (by omega))) ?_ ; rfl
  go_wp2
  go_ret
  exact ⟨rfl, by go_grown⟩

set_option maxRecDepth 100000 in
set_option maxHeartbeats 1000000 in
theorem numBytes_1 (n : Nat) (hl : 128 ≤ n) (hh : n ≤ 16383) (w : World) :
    Calls Tryd.prog 40 #[.int .u64 (n : Int)] w fun e w' => e = .returned (.string (numS n)) ∧ Below w.heap.size w w' := by
  have hs : sortN n = 1 := by
    unfold sortN; repeat' split
    all_goals omega
  have h3 : ∀ W : World, Calls Tryd.prog 54 #[.int .u64 (n : Int)] W fun e w' => e = .returned (.int .i64 1) ∧ W.alloc (.cells #[.int .u64 (n : Int)] 72 (0, 0)) = w' := by
    intro W
    have := sortOf_any n (by omega) W
    rw [hs] at this
    exact this
  have h4 : ∀ W : World, Calls Tryd.prog 55 #[.int .i64 1] W fun e w' => e = .returned (.int .u8 128) ∧ W = w' := by
    intro W
    have := ones_any 1 (by omega) W
    exact this
  have H3 := Lib.hid h3
  have H4 := Lib.hid h4
  clear h3 h4
  have hor : bits .or .u8 128 ((n : Int) / 256) = 128 + (n : Int) / 256 := by
    have e : (n : Int) / 256 = ((n / 256 : Nat) : Int) := by omega
    rw [e]
    exact (or_join 128 (n / 256) 6 (by omega) (by omega) (by omega) (by omega))
  have hmk : ∀ W : World, (Instr.makeSlice 49 (.int .i64 2) (.int .i64 2)).run Tryd.prog W = .ok (.slice (some ⟨W.heap.size, 0, none⟩) 2 2) (W.alloc (.cells #[.int .u8 0, .int .u8 0] 5 (0, 0))) := fun W => by kernel_rfl
  have hfin : numL n = [UInt8.ofNat (128 + n / 256), UInt8.ofNat (n / 1 % 256)] := by
    unfold numL; rw [hs]; simp [beL]
  have HF := Lib.hid hfin
  have HS := Lib.hid hs
  clear hs hfin
  go_enter Tryd.func40, Tryd.ntmps40
  go_wp2_with (go_at_call 54; refine (H3.out _).mono ?_; rintro e w' ⟨rfl, rfl⟩)
  refine wp_loop_rounds 2 ?_
  repeat any_goals (rw [rounds_succ]; go_wp2_with (go_at_call 55; refine (H4.out _).mono ?_; rintro e w' ⟨rfl, rfl⟩))
  rw [run_copy_cells _ 49 49 3 5 (w.heap.size + 1 + 1) 0 2 2 ⟨w.heap.size, 0, none⟩ 9 9 [.int .u8 (128 + (n : Int) / 256), .int .u8 ((n : Int) % 256)]
    Tryd.underlying49 (by kernel_rfl) rfl ?c1 ?c2 ?c3 ?c4]
  case c1 =>
    intro j v h
    have hj : j < 2 := by
      have := (List.getElem?_eq_some_iff.1 h).1
      simpa using this
    have hj : j = 0 ∨ j = 1 := by omega
    rcases hj with rfl | rfl
    all_goals
      simp only [List.getElem?_cons_zero, List.getElem?_cons_succ, Option.some.injEq] at h
      subst h
      simp only [Addr.add]
      go_simp
  case c2 =>
    intro j hj
    have hj : j = 0 ∨ j = 1 := by simp at hj; omega
    rcases hj with rfl | rfl
    all_goals go_simp
  case c3 =>
    intro j hj
    go_simp
  case c4 =>
    intro v hv
    simp only [List.mem_cons, List.not_mem_nil, or_false] at hv
    rcases hv with rfl | rfl
    all_goals rfl
  simp only [World.setCells]
  go_simp
  go_wp2
  rw [conv_bytes _ 49 9 5 ⟨w.heap.size + 1 + 1, 0, none⟩ 2 2 [128 + (n : Int) / 256, (n : Int) % 256] (numS n)
    Tryd.underlying49 Tryd.underlying5 Tryd.underlying9 rfl ?d1 ?d2]
  case d1 =>
    intro j v h
    have hj : j < 2 := by
      have := (List.getElem?_eq_some_iff.1 h).1
      simpa using this
    have hj : j = 0 ∨ j = 1 := by omega
    rcases hj with rfl | rfl
    all_goals
      simp only [List.map_cons, List.getElem?_cons_zero, List.getElem?_cons_succ, Option.some.injEq] at h
      subst h
      simp only [Addr.add]
      go_simp
  case d2 =>
    unfold numS
    rw [HF.out]
    simp only [List.map_cons, List.map_nil]
    refine congr (congrArg List.cons (congrArg UInt8.ofNat (by omega))) ?_ ;refine congr (congrArg List.cons (congrArg UInt8.ofNat (by omega))) ?_ ; rfl
  go_wp2
  go_ret
  exact ⟨rfl, by go_grown⟩

set_option maxRecDepth 100000 in
set_option maxHeartbeats 1000000 in
theorem numBytes_2 (n : Nat) (hl : 16384 ≤ n) (hh : n ≤ 2097151) (w : World) :
    Calls Tryd.prog 40 #[.int .u64 (n : Int)] w fun e w' => e = .returned (.string (numS n)) ∧ Below w.heap.size w w' := by
  have hs : sortN n = 2 := by
    unfold sortN; repeat' split
    all_goals omega
  have h3 : ∀ W : World, Calls Tryd.prog 54 #[.int .u64 (n : Int)] W fun e w' => e = .returned (.int .i64 2) ∧ W.alloc (.cells #[.int .u64 (n : Int)] 72 (0, 0)) = w' := by
    intro W
    have := sortOf_any n (by omega) W
    rw [hs] at this
    exact this
  have h4 : ∀ W : World, Calls Tryd.prog 55 #[.int .i64 2] W fun e w' => e = .returned (.int .u8 192) ∧ W = w' := by
    intro W
    have := ones_any 2 (by omega) W
    exact this
  have H3 := Lib.hid h3
  have H4 := Lib.hid h4
  clear h3 h4
  have hor : bits .or .u8 192 ((n : Int) / 256 / 256) = 192 + (n : Int) / 256 / 256 := by
    have e : (n : Int) / 256 / 256 = ((n / 65536 : Nat) : Int) := by omega
    rw [e]
    exact (or_join 192 (n / 65536) 5 (by omega) (by omega) (by omega) (by omega))
  have hmk : ∀ W : World, (Instr.makeSlice 49 (.int .i64 3) (.int .i64 3)).run Tryd.prog W = .ok (.slice (some ⟨W.heap.size, 0, none⟩) 3 3) (W.alloc (.cells #[.int .u8 0, .int .u8 0, .int .u8 0] 5 (0, 0))) := fun W => by kernel_rfl
  have hfin : numL n = [UInt8.ofNat (192 + n / 65536), UInt8.ofNat (n / 256 % 256), UInt8.ofNat (n / 1 % 256)] := by
    unfold numL; rw [hs]; simp [beL]
  have HF := Lib.hid hfin
  have HS := Lib.hid hs
  clear hs hfin
  go_enter Tryd.func40, Tryd.ntmps40
  go_wp2_with (go_at_call 54; refine (H3.out _).mono ?_; rintro e w' ⟨rfl, rfl⟩)
  refine wp_loop_rounds 3 ?_
  repeat any_goals (rw [rounds_succ]; go_wp2_with (go_at_call 55; refine (H4.out _).mono ?_; rintro e w' ⟨rfl, rfl⟩))
  rw [run_copy_cells _ 49 49 3 5 (w.heap.size + 1 + 1) 0 3 3 ⟨w.heap.size, 0, none⟩ 9 9 [.int .u8 (192 + (n : Int) / 256 / 256), .int .u8 ((n : Int) / 256 % 256), .int .u8 ((n : Int) % 256)]
    Tryd.underlying49 (by kernel_rfl) rfl ?c1 ?c2 ?c3 ?c4]
  case c1 =>
    intro j v h
    have hj : j < 3 := by
      have := (List.getElem?_eq_some_iff.1 h).1
      simpa using this
    have hj : j = 0 ∨ j = 1 ∨ j = 2 := by omega
    rcases hj with rfl | rfl | rfl
    all_goals
      simp only [List.getElem?_cons_zero, List.getElem?_cons_succ, Option.some.injEq] at h
      subst h
      simp only [Addr.add]
      go_simp
  case c2 =>
    intro j hj
    have hj : j = 0 ∨ j = 1 ∨ j = 2 := by simp at hj; omega
    rcases hj with rfl | rfl | rfl
    all_goals go_simp
  case c3 =>
    intro j hj
    go_simp
  case c4 =>
    intro v hv
    simp only [List.mem_cons, List.not_mem_nil, or_false] at hv
    rcases hv with rfl | rfl | rfl
    all_goals rfl
  simp only [World.setCells]
  go_simp
  go_wp2
  rw [conv_bytes _ 49 9 5 ⟨w.heap.size + 1 + 1, 0, none⟩ 3 3 [192 + (n : Int) / 256 / 256, (n : Int) / 256 % 256, (n : Int) % 256] (numS n)
    Tryd.underlying49 Tryd.underlying5 Tryd.underlying9 rfl ?d1 ?d2]
  case d1 =>
    intro j v h
    have hj : j < 3 := by
      have := (List.getElem?_eq_some_iff.1 h).1
      simpa using this
    have hj : j = 0 ∨ j = 1 ∨ j = 2 := by omega
    rcases hj with rfl | rfl | rfl
    all_goals
      simp only [List.map_cons, List.getElem?_cons_zero, List.getElem?_cons_succ, Option.some.injEq] at h
      subst h
      simp only [Addr.add]
      go_simp
  case d2 =>
    unfold numS
    rw [HF.out]
    simp only [List.map_cons, List.map_nil]
    refine congr (congrArg List.cons (congrArg UInt8.ofNat (by omega))) ?_ ;refine congr (congrArg List.cons (congrArg UInt8.ofNat (by omega))) ?_ ;refine congr (congrArg List.cons (congrArg UInt8.ofNat (by omega))) ?_ ; rfl
  go_wp2
  go_ret
  exact ⟨rfl, by go_grown⟩

set_option maxRecDepth 100000 in
set_option maxHeartbeats 1000000 in
theorem numBytes_3 (n : Nat) (hl : 2097152 ≤ n) (hh : n ≤ 268435455) (w : World) :
    Calls Tryd.prog 40 #[.int .u64 (n : Int)] w fun e w' => e = .returned (.string (numS n)) ∧ Below w.heap.size w w' := by
  have hs : sortN n = 3 := by
    unfold sortN; repeat' split
    all_goals omega
  have h3 : ∀ W : World, Calls Tryd.prog 54 #[.int .u64 (n : Int)] W fun e w' => e = .returned (.int .i64 3) ∧ W.alloc (.cells #[.int .u64 (n : Int)] 72 (0, 0)) = w' := by
    intro W
    have := sortOf_any n (by omega) W
    rw [hs] at this
    exact this
  have h4 : ∀ W : World, Calls Tryd.prog 55 #[.int .i64 3] W fun e w' => e = .returned (.int .u8 224) ∧ W = w' := by
    intro W
    have := ones_any 3 (by omega) W
    exact this
  have H3 := Lib.hid h3
  have H4 := Lib.hid h4
  clear h3 h4
  have hor : bits .or .u8 224 ((n : Int) / 256 / 256 / 256) = 224 + (n : Int) / 256 / 256 / 256 := by
    have e : (n : Int) / 256 / 256 / 256 = ((n / 16777216 : Nat) : Int) := by omega
    rw [e]
    exact (or_join 224 (n / 16777216) 4 (by omega) (by omega) (by omega) (by omega))
  have hmk : ∀ W : World, (Instr.makeSlice 49 (.int .i64 4) (.int .i64 4)).run Tryd.prog W = .ok (.slice (some ⟨W.heap.size, 0, none⟩) 4 4) (W.alloc (.cells #[.int .u8 0, .int .u8 0, .int .u8 0, .int .u8 0] 5 (0, 0))) := fun W => by kernel_rfl
  have hfin : numL n = [UInt8.ofNat (224 + n / 16777216), UInt8.ofNat (n / 65536 % 256), UInt8.ofNat (n / 256 % 256), UInt8.ofNat (n / 1 % 256)] := by
    unfold numL; rw [hs]; simp [beL]
  have HF := Lib.hid hfin
  have HS := Lib.hid hs
  clear hs hfin
  go_enter Tryd.func40, Tryd.ntmps40
  go_wp2_with (go_at_call 54; refine (H3.out _).mono ?_; rintro e w' ⟨rfl, rfl⟩)
  refine wp_loop_rounds 4 ?_
  repeat any_goals (rw [rounds_succ]; go_wp2_with (go_at_call 55; refine (H4.out _).mono ?_; rintro e w' ⟨rfl, rfl⟩))
  rw [run_copy_cells _ 49 49 3 5 (w.heap.size + 1 + 1) 0 4 4 ⟨w.heap.size, 0, none⟩ 9 9 [.int .u8 (224 + (n : Int) / 256 / 256 / 256), .int .u8 ((n : Int) / 256 / 256 % 256), .int .u8 ((n : Int) / 256 % 256), .int .u8 ((n : Int) % 256)]
    Tryd.underlying49 (by kernel_rfl) rfl ?c1 ?c2 ?c3 ?c4]
  case c1 =>
    intro j v h
    have hj : j < 4 := by
      have := (List.getElem?_eq_some_iff.1 h).1
      simpa using this
    have hj : j = 0 ∨ j = 1 ∨ j = 2 ∨ j = 3 := by omega
    rcases hj with rfl | rfl | rfl | rfl
    all_goals
      simp only [List.getElem?_cons_zero, List.getElem?_cons_succ, Option.some.injEq] at h
      subst h
      simp only [Addr.add]
      go_simp
  case c2 =>
    intro j hj
    have hj : j = 0 ∨ j = 1 ∨ j = 2 ∨ j = 3 := by simp at hj; omega
    rcases hj with rfl | rfl | rfl | rfl
    all_goals go_simp
  case c3 =>
    intro j hj
    go_simp
  case c4 =>
    intro v hv
    simp only [List.mem_cons, List.not_mem_nil, or_false] at hv
    rcases hv with rfl | rfl | rfl | rfl
    all_goals rfl
  simp only [World.setCells]
  go_simp
  go_wp2
  rw [conv_bytes _ 49 9 5 ⟨w.heap.size + 1 + 1, 0, none⟩ 4 4 [224 + (n : Int) / 256 / 256 / 256, (n : Int) / 256 / 256 % 256, (n : Int) / 256 % 256, (n : Int) % 256] (numS n)
    Tryd.underlying49 Tryd.underlying5 Tryd.underlying9 rfl ?d1 ?d2]
  case d1 =>
    intro j v h
    have hj : j < 4 := by
      have := (List.getElem?_eq_some_iff.1 h).1
      simpa using this
    have hj : j = 0 ∨ j = 1 ∨ j = 2 ∨ j = 3 := by omega
    rcases hj with rfl | rfl | rfl | rfl
    all_goals
      simp only [List.map_cons, List.getElem?_cons_zero, List.getElem?_cons_succ, Option.some.injEq] at h
      subst h
      simp only [Addr.add]
      go_simp
  case d2 =>
    unfold numS
    rw [HF.out]
    simp only [List.map_cons, List.map_nil]
    refine congr (congrArg List.cons (congrArg UInt8.ofNat (by omega))) ?_ ;refine congr (congrArg List.cons (congrArg UInt8.ofNat (by omega))) ?_ ;refine congr (congrArg List.cons (congrArg UInt8.ofNat (by omega))) ?_ ;refine congr (congrArg List.cons (congrArg UInt8.ofNat (by omega))) ?_ ; rfl
  go_wp2
  go_ret
  exact ⟨rfl, by go_grown⟩

set_option maxRecDepth 100000 in
set_option maxHeartbeats 1000000 in
theorem numBytes_4 (n : Nat) (hl : 268435456 ≤ n) (hh : n ≤ 34359738367) (w : World) :
    Calls Tryd.prog 40 #[.int .u64 (n : Int)] w fun e w' => e = .returned (.string (numS n)) ∧ Below w.heap.size w w' := by
  have hs : sortN n = 4 := by
    unfold sortN; repeat' split
    all_goals omega
  have h3 : ∀ W : World, Calls Tryd.prog 54 #[.int .u64 (n : Int)] W fun e w' => e = .returned (.int .i64 4) ∧ W.alloc (.cells #[.int .u64 (n : Int)] 72 (0, 0)) = w' := by
    intro W
    have := sortOf_any n (by omega) W
    rw [hs] at this
    exact this
  have h4 : ∀ W : World, Calls Tryd.prog 55 #[.int .i64 4] W fun e w' => e = .returned (.int .u8 240) ∧ W = w' := by
    intro W
    have := ones_any 4 (by omega) W
    exact this
  have H3 := Lib.hid h3
  have H4 := Lib.hid h4
  clear h3 h4
  have hor : bits .or .u8 240 ((n : Int) / 256 / 256 / 256 / 256) = 240 + (n : Int) / 256 / 256 / 256 / 256 := by
    have e : (n : Int) / 256 / 256 / 256 / 256 = ((n / 4294967296 : Nat) : Int) := by omega
    rw [e]
    exact (or_join 240 (n / 4294967296) 3 (by omega) (by omega) (by omega) (by omega))
  have hmk : ∀ W : World, (Instr.makeSlice 49 (.int .i64 5) (.int .i64 5)).run Tryd.prog W = .ok (.slice (some ⟨W.heap.size, 0, none⟩) 5 5) (W.alloc (.cells #[.int .u8 0, .int .u8 0, .int .u8 0, .int .u8 0, .int .u8 0] 5 (0, 0))) := fun W => by kernel_rfl
  have hfin : numL n = [UInt8.ofNat (240 + n / 4294967296), UInt8.ofNat (n / 16777216 % 256), UInt8.ofNat (n / 65536 % 256), UInt8.ofNat (n / 256 % 256), UInt8.ofNat (n / 1 % 256)] := by
    unfold numL; rw [hs]; simp [beL]
  have HF := Lib.hid hfin
  have HS := Lib.hid hs
  clear hs hfin
  go_enter Tryd.func40, Tryd.ntmps40
  go_wp2_with (go_at_call 54; refine (H3.out _).mono ?_; rintro e w' ⟨rfl, rfl⟩)
  refine wp_loop_rounds 5 ?_
  repeat any_goals (rw [rounds_succ]; go_wp2_with (go_at_call 55; refine (H4.out _).mono ?_; rintro e w' ⟨rfl, rfl⟩))
  rw [run_copy_cells _ 49 49 3 5 (w.heap.size + 1 + 1) 0 5 5 ⟨w.heap.size, 0, none⟩ 9 9 [.int .u8 (240 + (n : Int) / 256 / 256 / 256 / 256), .int .u8 ((n : Int) / 256 / 256 / 256 % 256), .int .u8 ((n : Int) / 256 / 256 % 256), .int .u8 ((n : Int) / 256 % 256), .int .u8 ((n : Int) % 256)]
    Tryd.underlying49 (by kernel_rfl) rfl ?c1 ?c2 ?c3 ?c4]
  case c1 =>
    intro j v h
    have hj : j < 5 := by
      have := (List.getElem?_eq_some_iff.1 h).1
      simpa using this
    have hj : j = 0 ∨ j = 1 ∨ j = 2 ∨ j = 3 ∨ j = 4 := by omega
    rcases hj with rfl | rfl | rfl | rfl | rfl
    all_goals
      simp only [List.getElem?_cons_zero, List.getElem?_cons_succ, Option.some.injEq] at h
      subst h
      simp only [Addr.add]
      go_simp
  case c2 =>
    intro j hj
    have hj : j = 0 ∨ j = 1 ∨ j = 2 ∨ j = 3 ∨ j = 4 := by simp at hj; omega
    rcases hj with rfl | rfl | rfl | rfl | rfl
    all_goals go_simp
  case c3 =>
    intro j hj
    go_simp
  case c4 =>
    intro v hv
    simp only [List.mem_cons, List.not_mem_nil, or_false] at hv
    rcases hv with rfl | rfl | rfl | rfl | rfl
    all_goals rfl
  simp only [World.setCells]
  go_simp
  go_wp2
  rw [conv_bytes _ 49 9 5 ⟨w.heap.size + 1 + 1, 0, none⟩ 5 5 [240 + (n : Int) / 256 / 256 / 256 / 256, (n : Int) / 256 / 256 / 256 % 256, (n : Int) / 256 / 256 % 256, (n : Int) / 256 % 256, (n : Int) % 256] (numS n)
    Tryd.underlying49 Tryd.underlying5 Tryd.underlying9 rfl ?d1 ?d2]
  case d1 =>
    intro j v h
    have hj : j < 5 := by
      have := (List.getElem?_eq_some_iff.1 h).1
      simpa using this
    have hj : j = 0 ∨ j = 1 ∨ j = 2 ∨ j = 3 ∨ j = 4 := by omega
    rcases hj with rfl | rfl | rfl | rfl | rfl
    all_goals
      simp only [List.map_cons, List.getElem?_cons_zero, List.getElem?_cons_succ, Option.some.injEq] at h
      subst h
      simp only [Addr.add]
      go_simp
  case d2 =>
    unfold numS
    rw [HF.out]
    simp only [List.map_cons, List.map_nil]
    refine congr (congrArg List.cons (congrArg UInt8.ofNat (by omega))) ?_ ;refine congr (congrArg List.cons (congrArg UInt8.ofNat (by omega))) ?_ ;refine congr (congrArg List.cons (congrArg UInt8.ofNat (by omega))) ?_ ;refine congr (congrArg List.cons (congrArg UInt8.ofNat (by omega))) ?_ ;refine congr (congrArg List.cons (congrArg UInt8.ofNat (by omega))) ?_ ; rfl
  go_wp2
  go_ret
  exact ⟨rfl, by go_grown⟩

set_option maxRecDepth 100000 in
set_option maxHeartbeats 1000000 in
theorem numBytes_5 (n : Nat) (hl : 34359738368 ≤ n) (hh : n ≤ 4398046511103) (w : World) :
    Calls Tryd.prog 40 #[.int .u64 (n : Int)] w fun e w' => e = .returned (.string (numS n)) ∧ Below w.heap.size w w' := by
  have hs : sortN n = 5 := by
    unfold sortN; repeat' split
    all_goals omega
  have h3 : ∀ W : World, Calls Tryd.prog 54 #[.int .u64 (n : Int)] W fun e w' => e = .returned (.int .i64 5) ∧ W.alloc (.cells #[.int .u64 (n : Int)] 72 (0, 0)) = w' := by
    intro W
    have := sortOf_any n (by omega) W
    rw [hs] at this
    exact this
  have h4 : ∀ W : World, Calls Tryd.prog 55 #[.int .i64 5] W fun e w' => e = .returned (.int .u8 248) ∧ W = w' := by
    intro W
    have := ones_any 5 (by omega) W
    exact this
  have H3 := Lib.hid h3
  have H4 := Lib.hid h4
  clear h3 h4
  have hor : bits .or .u8 248 ((n : Int) / 256 / 256 / 256 / 256 / 256) = 248 + (n : Int) / 256 / 256 / 256 / 256 / 256 := by
    have e : (n : Int) / 256 / 256 / 256 / 256 / 256 = ((n / 1099511627776 : Nat) : Int) := by omega
    rw [e]
    exact (or_join 248 (n / 1099511627776) 2 (by omega) (by omega) (by omega) (by omega))
  have hmk : ∀ W : World, (Instr.makeSlice 49 (.int .i64 6) (.int .i64 6)).run Tryd.prog W = .ok (.slice (some ⟨W.heap.size, 0, none⟩) 6 6) (W.alloc (.cells #[.int .u8 0, .int .u8 0, .int .u8 0, .int .u8 0, .int .u8 0, .int .u8 0] 5 (0, 0))) := fun W => by kernel_rfl
  have hfin : numL n = [UInt8.ofNat (248 + n / 1099511627776), UInt8.ofNat (n / 4294967296 % 256), UInt8.ofNat (n / 16777216 % 256), UInt8.ofNat (n / 65536 % 256), UInt8.ofNat (n / 256 % 256), UInt8.ofNat (n / 1 % 256)] := by
    unfold numL; rw [hs]; simp [beL]
  have HF := Lib.hid hfin
  have HS := Lib.hid hs
  clear hs hfin
  go_enter Tryd.func40, Tryd.ntmps40
  go_wp2_with (go_at_call 54; refine (H3.out _).mono ?_; rintro e w' ⟨rfl, rfl⟩)
  refine wp_loop_rounds 6 ?_
  repeat any_goals (rw [rounds_succ]; go_wp2_with (go_at_call 55; refine (H4.out _).mono ?_; rintro e w' ⟨rfl, rfl⟩))
  rw [run_copy_cells _ 49 49 3 5 (w.heap.size + 1 + 1) 0 6 6 ⟨w.heap.size, 0, none⟩ 9 9 [.int .u8 (248 + (n : Int) / 256 / 256 / 256 / 256 / 256), .int .u8 ((n : Int) / 256 / 256 / 256 / 256 % 256), .int .u8 ((n : Int) / 256 / 256 / 256 % 256), .int .u8 ((n : Int) / 256 / 256 % 256), .int .u8 ((n : Int) / 256 % 256), .int .u8 ((n : Int) % 256)]
    Tryd.underlying49 (by kernel_rfl) rfl ?c1 ?c2 ?c3 ?c4]
  case c1 =>
    intro j v h
    have hj : j < 6 := by
      have := (List.getElem?_eq_some_iff.1 h).1
      simpa using this
    have hj : j = 0 ∨ j = 1 ∨ j = 2 ∨ j = 3 ∨ j = 4 ∨ j = 5 := by omega
    rcases hj with rfl | rfl | rfl | rfl | rfl | rfl
    all_goals
      simp only [List.getElem?_cons_zero, List.getElem?_cons_succ, Option.some.injEq] at h
      subst h
      simp only [Addr.add]
      go_simp
  case c2 =>
    intro j hj
    have hj : j = 0 ∨ j = 1 ∨ j = 2 ∨ j = 3 ∨ j = 4 ∨ j = 5 := by simp at hj; omega
    rcases hj with rfl | rfl | rfl | rfl | rfl | rfl
    all_goals go_simp
  case c3 =>
    intro j hj
    go_simp
  case c4 =>
    intro v hv
    simp only [List.mem_cons, List.not_mem_nil, or_false] at hv
    rcases hv with rfl | rfl | rfl | rfl | rfl | rfl
    all_goals rfl
  simp only [World.setCells]
  go_simp
  go_wp2
  rw [conv_bytes _ 49 9 5 ⟨w.heap.size + 1 + 1, 0, none⟩ 6 6 [248 + (n : Int) / 256 / 256 / 256 / 256 / 256, (n : Int) / 256 / 256 / 256 / 256 % 256, (n : Int) / 256 / 256 / 256 % 256, (n : Int) / 256 / 256 % 256, (n : Int) / 256 % 256, (n : Int) % 256] (numS n)
    Tryd.underlying49 Tryd.underlying5 Tryd.underlying9 rfl ?d1 ?d2]
  case d1 =>
    intro j v h
    have hj : j < 6 := by
      have := (List.getElem?_eq_some_iff.1 h).1
      simpa using this
    have hj : j = 0 ∨ j = 1 ∨ j = 2 ∨ j = 3 ∨ j = 4 ∨ j = 5 := by omega
    rcases hj with rfl | rfl | rfl | rfl | rfl | rfl
    all_goals
      simp only [List.map_cons, List.getElem?_cons_zero, List.getElem?_cons_succ, Option.some.injEq] at h
      subst h
      simp only [Addr.add]
      go_simp
  case d2 =>
    unfold numS
    rw [HF.out]
    simp only [List.map_cons, List.map_nil]
    refine congr (congrArg List.cons (congrArg UInt8.ofNat (by omega))) ?_ ;refine congr (congrArg List.cons (congrArg UInt8.ofNat (by omega))) ?_ ;refine congr (congrArg List.cons (congrArg UInt8.ofNat (by omega))) ?_ ;refine congr (congrArg List.cons (congrArg UInt8.ofNat (by omega))) ?_ ;refine congr (congrArg List.cons (congrArg UInt8.ofNat (by omega))) ?_ ;refine congr (congrArg List.cons (congrArg UInt8.ofNat (by omega))) ?_ ; rfl
  go_wp2
  go_ret
  exact ⟨rfl, by go_grown⟩

set_option maxRecDepth 100000 in
set_option maxHeartbeats 1000000 in
theorem numBytes_6 (n : Nat) (hl : 4398046511104 ≤ n) (hh : n ≤ 562949953421311) (w : World) :
    Calls Tryd.prog 40 #[.int .u64 (n : Int)] w fun e w' => e = .returned (.string (numS n)) ∧ Below w.heap.size w w' := by
  have hs : sortN n = 6 := by
    unfold sortN; repeat' split
    all_goals omega
  have h3 : ∀ W : World, Calls Tryd.prog 54 #[.int .u64 (n : Int)] W fun e w' => e = .returned (.int .i64 6) ∧ W.alloc (.cells #[.int .u64 (n : Int)] 72 (0, 0)) = w' := by
    intro W
    have := sortOf_any n (by omega) W
    rw [hs] at this
    exact this
  have h4 : ∀ W : World, Calls Tryd.prog 55 #[.int .i64 6] W fun e w' => e = .returned (.int .u8 252) ∧ W = w' := by
    intro W
    have := ones_any 6 (by omega) W
    exact this
  have H3 := Lib.hid h3
  have H4 := Lib.hid h4
  clear h3 h4
  have hor : bits .or .u8 252 ((n : Int) / 256 / 256 / 256 / 256 / 256 / 256) = 252 + (n : Int) / 256 / 256 / 256 / 256 / 256 / 256 := by
    have e : (n : Int) / 256 / 256 / 256 / 256 / 256 / 256 = ((n / 281474976710656 : Nat) : Int) := by omega
    rw [e]
    exact (or_join 252 (n / 281474976710656) 1 (by omega) (by omega) (by omega) (by omega))
  have hmk : ∀ W : World, (Instr.makeSlice 49 (.int .i64 7) (.int .i64 7)).run Tryd.prog W = .ok (.slice (some ⟨W.heap.size, 0, none⟩) 7 7) (W.alloc (.cells #[.int .u8 0, .int .u8 0, .int .u8 0, .int .u8 0, .int .u8 0, .int .u8 0, .int .u8 0] 5 (0, 0))) := fun W => by kernel_rfl
  have hfin : numL n = [UInt8.ofNat (252 + n / 281474976710656), UInt8.ofNat (n / 1099511627776 % 256), UInt8.ofNat (n / 4294967296 % 256), UInt8.ofNat (n / 16777216 % 256), UInt8.ofNat (n / 65536 % 256), UInt8.ofNat (n / 256 % 256), UInt8.ofNat (n / 1 % 256)] := by
    unfold numL; rw [hs]; simp [beL]
  have HF := Lib.hid hfin
  have HS := Lib.hid hs
  clear hs hfin
  go_enter Tryd.func40, Tryd.ntmps40
  go_wp2_with (go_at_call 54; refine (H3.out _).mono ?_; rintro e w' ⟨rfl, rfl⟩)
  refine wp_loop_rounds 7 ?_
  repeat any_goals (rw [rounds_succ]; go_wp2_with (go_at_call 55; refine (H4.out _).mono ?_; rintro e w' ⟨rfl, rfl⟩))
  rw [run_copy_cells _ 49 49 3 5 (w.heap.size + 1 + 1) 0 7 7 ⟨w.heap.size, 0, none⟩ 9 9 [.int .u8 (252 + (n : Int) / 256 / 256 / 256 / 256 / 256 / 256), .int .u8 ((n : Int) / 256 / 256 / 256 / 256 / 256 % 256), .int .u8 ((n : Int) / 256 / 256 / 256 / 256 % 256), .int .u8 ((n : Int) / 256 / 256 / 256 % 256), .int .u8 ((n : Int) / 256 / 256 % 256), .int .u8 ((n : Int) / 256 % 256), .int .u8 ((n : Int) % 256)]
    Tryd.underlying49 (by kernel_rfl) rfl ?c1 ?c2 ?c3 ?c4]
  case c1 =>
    intro j v h
    have hj : j < 7 := by
      have := (List.getElem?_eq_some_iff.1 h).1
      simpa using this
    have hj : j = 0 ∨ j = 1 ∨ j = 2 ∨ j = 3 ∨ j = 4 ∨ j = 5 ∨ j = 6 := by omega
    rcases hj with rfl | rfl | rfl | rfl | rfl | rfl | rfl
    all_goals
      simp only [List.getElem?_cons_zero, List.getElem?_cons_succ, Option.some.injEq] at h
      subst h
      simp only [Addr.add]
      go_simp
  case c2 =>
    intro j hj
    have hj : j = 0 ∨ j = 1 ∨ j = 2 ∨ j = 3 ∨ j = 4 ∨ j = 5 ∨ j = 6 := by simp at hj; omega
    rcases hj with rfl | rfl | rfl | rfl | rfl | rfl | rfl
    all_goals go_simp
  case c3 =>
    intro j hj
    go_simp
  case c4 =>
    intro v hv
    simp only [List.mem_cons, List.not_mem_nil, or_false] at hv
    rcases hv with rfl | rfl | rfl | rfl | rfl | rfl | rfl
    all_goals rfl
  simp only [World.setCells]
  go_simp
  go_wp2
  rw [conv_bytes _ 49 9 5 ⟨w.heap.size + 1 + 1, 0, none⟩ 7 7 [252 + (n : Int) / 256 / 256 / 256 / 256 / 256 / 256, (n : Int) / 256 / 256 / 256 / 256 / 256 % 256, (n : Int) / 256 / 256 / 256 / 256 % 256, (n : Int) / 256 / 256 / 256 % 256, (n : Int) / 256 / 256 % 256, (n : Int) / 256 % 256, (n : Int) % 256] (numS n)
    Tryd.underlying49 Tryd.underlying5 Tryd.underlying9 rfl ?d1 ?d2]
  case d1 =>
    intro j v h
    have hj : j < 7 := by
      have := (List.getElem?_eq_some_iff.1 h).1
      simpa using this
    have hj : j = 0 ∨ j = 1 ∨ j = 2 ∨ j = 3 ∨ j = 4 ∨ j = 5 ∨ j = 6 := by omega
    rcases hj with rfl | rfl | rfl | rfl | rfl | rfl | rfl
    all_goals
      simp only [List.map_cons, List.getElem?_cons_zero, List.getElem?_cons_succ, Option.some.injEq] at h
      subst h
      simp only [Addr.add]
      go_simp
  case d2 =>
    unfold numS
    rw [HF.out]
    simp only [List.map_cons, List.map_nil]
    refine congr (congrArg List.cons (congrArg UInt8.ofNat (by omega))) ?_ ;refine congr (congrArg List.cons (congrArg UInt8.ofNat (by omega))) ?_ ;refine congr (congrArg List.cons (congrArg UInt8.ofNat (by omega))) ?_ ;refine congr (congrArg List.cons (congrArg UInt8.ofNat (by omega))) ?_ ;refine congr (congrArg List.cons (congrArg UInt8.ofNat (by omega))) ?_ ;refine congr (congrArg List.cons (congrArg UInt8.ofNat (by omega))) ?_ ;refine congr (congrArg List.cons (congrArg UInt8.ofNat (by omega))) ?_ ; rfl
  go_wp2
  go_ret
  exact ⟨rfl, by go_grown⟩

set_option maxRecDepth 100000 in
set_option maxHeartbeats 1000000 in
theorem numBytes_7 (n : Nat) (hl : 562949953421312 ≤ n) (hh : n ≤ 72057594037927935) (w : World) :
    Calls Tryd.prog 40 #[.int .u64 (n : Int)] w fun e w' => e = .returned (.string (numS n)) ∧ Below w.heap.size w w' := by
  have hs : sortN n = 7 := by
    unfold sortN; repeat' split
    all_goals omega
  have h3 : ∀ W : World, Calls Tryd.prog 54 #[.int .u64 (n : Int)] W fun e w' => e = .returned (.int .i64 7) ∧ W.alloc (.cells #[.int .u64 (n : Int)] 72 (0, 0)) = w' := by
    intro W
    have := sortOf_any n (by omega) W
    rw [hs] at this
    exact this
  have h4 : ∀ W : World, Calls Tryd.prog 55 #[.int .i64 7] W fun e w' => e = .returned (.int .u8 254) ∧ W = w' := by
    intro W
    have := ones_any 7 (by omega) W
    exact this
  have H3 := Lib.hid h3
  have H4 := Lib.hid h4
  clear h3 h4
  have hor : bits .or .u8 254 ((n : Int) / 256 / 256 / 256 / 256 / 256 / 256 / 256) = 254 + (n : Int) / 256 / 256 / 256 / 256 / 256 / 256 / 256 := by
    have e : (n : Int) / 256 / 256 / 256 / 256 / 256 / 256 / 256 = ((n / 72057594037927936 : Nat) : Int) := by omega
    rw [e]
    exact (or_join 254 (n / 72057594037927936) 0 (by omega) (by omega) (by omega) (by omega))
  have hmk : ∀ W : World, (Instr.makeSlice 49 (.int .i64 8) (.int .i64 8)).run Tryd.prog W = .ok (.slice (some ⟨W.heap.size, 0, none⟩) 8 8) (W.alloc (.cells #[.int .u8 0, .int .u8 0, .int .u8 0, .int .u8 0, .int .u8 0, .int .u8 0, .int .u8 0, .int .u8 0] 5 (0, 0))) := fun W => by kernel_rfl
  have hfin : numL n = [UInt8.ofNat (254 + n / 72057594037927936), UInt8.ofNat (n / 281474976710656 % 256), UInt8.ofNat (n / 1099511627776 % 256), UInt8.ofNat (n / 4294967296 % 256), UInt8.ofNat (n / 16777216 % 256), UInt8.ofNat (n / 65536 % 256), UInt8.ofNat (n / 256 % 256), UInt8.ofNat (n / 1 % 256)] := by
    unfold numL; rw [hs]; simp [beL]
  have HF := Lib.hid hfin
  have HS := Lib.hid hs
  clear hs hfin
  go_enter Tryd.func40, Tryd.ntmps40
  go_wp2_with (go_at_call 54; refine (H3.out _).mono ?_; rintro e w' ⟨rfl, rfl⟩)
  refine wp_loop_rounds 8 ?_
  repeat any_goals (rw [rounds_succ]; go_wp2_with (go_at_call 55; refine (H4.out _).mono ?_; rintro e w' ⟨rfl, rfl⟩))
  rw [run_copy_cells _ 49 49 3 5 (w.heap.size + 1 + 1) 0 8 8 ⟨w.heap.size, 0, none⟩ 9 9 [.int .u8 (254 + (n : Int) / 256 / 256 / 256 / 256 / 256 / 256 / 256), .int .u8 ((n : Int) / 256 / 256 / 256 / 256 / 256 / 256), .int .u8 ((n : Int) / 256 / 256 / 256 / 256 / 256 % 256), .int .u8 ((n : Int) / 256 / 256 / 256 / 256 % 256), .int .u8 ((n : Int) / 256 / 256 / 256 % 256), .int .u8 ((n : Int) / 256 / 256 % 256), .int .u8 ((n : Int) / 256 % 256), .int .u8 ((n : Int) % 256)]
    Tryd.underlying49 (by kernel_rfl) rfl ?c1 ?c2 ?c3 ?c4]
  case c1 =>
    intro j v h
    have hj : j < 8 := by
      have := (List.getElem?_eq_some_iff.1 h).1
      simpa using this
    have hj : j = 0 ∨ j = 1 ∨ j = 2 ∨ j = 3 ∨ j = 4 ∨ j = 5 ∨ j = 6 ∨ j = 7 := by omega
    rcases hj with rfl | rfl | rfl | rfl | rfl | rfl | rfl | rfl
    all_goals
      simp only [List.getElem?_cons_zero, List.getElem?_cons_succ, Option.some.injEq] at h
      subst h
      simp only [Addr.add]
      go_simp
  case c2 =>
    intro j hj
    have hj : j = 0 ∨ j = 1 ∨ j = 2 ∨ j = 3 ∨ j = 4 ∨ j = 5 ∨ j = 6 ∨ j = 7 := by simp at hj; omega
    rcases hj with rfl | rfl | rfl | rfl | rfl | rfl | rfl | rfl
    all_goals go_simp
  case c3 =>
    intro j hj
    go_simp
  case c4 =>
    intro v hv
    simp only [List.mem_cons, List.not_mem_nil, or_false] at hv
    rcases hv with rfl | rfl | rfl | rfl | rfl | rfl | rfl | rfl
    all_goals rfl
  simp only [World.setCells]
  go_simp
  go_wp2
  rw [conv_bytes _ 49 9 5 ⟨w.heap.size + 1 + 1, 0, none⟩ 8 8 [254 + (n : Int) / 256 / 256 / 256 / 256 / 256 / 256 / 256, (n : Int) / 256 / 256 / 256 / 256 / 256 / 256, (n : Int) / 256 / 256 / 256 / 256 / 256 % 256, (n : Int) / 256 / 256 / 256 / 256 % 256, (n : Int) / 256 / 256 / 256 % 256, (n : Int) / 256 / 256 % 256, (n : Int) / 256 % 256, (n : Int) % 256] (numS n)
    Tryd.underlying49 Tryd.underlying5 Tryd.underlying9 rfl ?d1 ?d2]
  case d1 =>
    intro j v h
    have hj : j < 8 := by
      have := (List.getElem?_eq_some_iff.1 h).1
      simpa using this
    have hj : j = 0 ∨ j = 1 ∨ j = 2 ∨ j = 3 ∨ j = 4 ∨ j = 5 ∨ j = 6 ∨ j = 7 := by omega
    rcases hj with rfl | rfl | rfl | rfl | rfl | rfl | rfl | rfl
    all_goals
      simp only [List.map_cons, List.getElem?_cons_zero, List.getElem?_cons_succ, Option.some.injEq] at h
      subst h
      simp only [Addr.add]
      go_simp
  case d2 =>
    unfold numS
    rw [HF.out]
    simp only [List.map_cons, List.map_nil]
    refine congr (congrArg List.cons (congrArg UInt8.ofNat (by omega))) ?_ ;refine congr (congrArg List.cons (congrArg UInt8.ofNat (by omega))) ?_ ;refine congr (congrArg List.cons (congrArg UInt8.ofNat (by omega))) ?_ ;refine congr (congrArg List.cons (congrArg UInt8.ofNat (by omega))) ?_ ;refine congr (congrArg List.cons (congrArg UInt8.ofNat (by omega))) ?_ ;refine congr (congrArg List.cons (congrArg UInt8.ofNat (by omega))) ?_ ;refine congr (congrArg List.cons (congrArg UInt8.ofNat (by omega))) ?_ ;refine congr (congrArg List.cons (congrArg UInt8.ofNat (by omega))) ?_ ; rfl
  go_wp2
  go_ret
  exact ⟨rfl, by go_grown⟩

set_option maxRecDepth 100000 in
set_option maxHeartbeats 1000000 in
theorem numBytes_8 (n : Nat) (hl : 72057594037927936 ≤ n) (hh : n ≤ 18446744073709551615) (w : World) :
    Calls Tryd.prog 40 #[.int .u64 (n : Int)] w fun e w' => e = .returned (.string (numS n)) ∧ Below w.heap.size w w' := by
  have hs : sortN n = 8 := by
    unfold sortN; repeat' split
    all_goals omega
  have h3 : ∀ W : World, Calls Tryd.prog 54 #[.int .u64 (n : Int)] W fun e w' => e = .returned (.int .i64 8) ∧ W.alloc (.cells #[.int .u64 (n : Int)] 72 (0, 0)) = w' := by
    intro W
    have := sortOf_any n (by omega) W
    rw [hs] at this
    exact this
  have h4 : ∀ W : World, Calls Tryd.prog 55 #[.int .i64 8] W fun e w' => e = .returned (.int .u8 255) ∧ W = w' := by
    intro W
    have := ones_any 8 (by omega) W
    exact this
  have H3 := Lib.hid h3
  have H4 := Lib.hid h4
  clear h3 h4
  have hor : bits .or .u8 255 ((n : Int) / 256 / 256 / 256 / 256 / 256 / 256 / 256 / 256) = 255 + (n : Int) / 256 / 256 / 256 / 256 / 256 / 256 / 256 / 256 := by
    have e : (n : Int) / 256 / 256 / 256 / 256 / 256 / 256 / 256 / 256 = ((n / 18446744073709551616 : Nat) : Int) := by omega
    rw [e]
    exact (or_join 255 (n / 18446744073709551616) 0 (by omega) (by omega) (by omega) (by omega))
  have hmk : ∀ W : World, (Instr.makeSlice 49 (.int .i64 9) (.int .i64 9)).run Tryd.prog W = .ok (.slice (some ⟨W.heap.size, 0, none⟩) 9 9) (W.alloc (.cells #[.int .u8 0, .int .u8 0, .int .u8 0, .int .u8 0, .int .u8 0, .int .u8 0, .int .u8 0, .int .u8 0, .int .u8 0] 5 (0, 0))) := fun W => by kernel_rfl
  have hfin : numL n = [UInt8.ofNat (255 + n / 18446744073709551616), UInt8.ofNat (n / 72057594037927936 % 256), UInt8.ofNat (n / 281474976710656 % 256), UInt8.ofNat (n / 1099511627776 % 256), UInt8.ofNat (n / 4294967296 % 256), UInt8.ofNat (n / 16777216 % 256), UInt8.ofNat (n / 65536 % 256), UInt8.ofNat (n / 256 % 256), UInt8.ofNat (n / 1 % 256)] := by
    unfold numL; rw [hs]; simp [beL]
  have HF := Lib.hid hfin
  have HS := Lib.hid hs
  clear hs hfin
  go_enter Tryd.func40, Tryd.ntmps40
  go_wp2_with (go_at_call 54; refine (H3.out _).mono ?_; rintro e w' ⟨rfl, rfl⟩)
  refine wp_loop_rounds 9 ?_
  repeat any_goals (rw [rounds_succ]; go_wp2_with (go_at_call 55; refine (H4.out _).mono ?_; rintro e w' ⟨rfl, rfl⟩))
  rw [run_copy_cells _ 49 49 3 5 (w.heap.size + 1 + 1) 0 9 9 ⟨w.heap.size, 0, none⟩ 9 9 [.int .u8 (255 + (n : Int) / 256 / 256 / 256 / 256 / 256 / 256 / 256 / 256), .int .u8 ((n : Int) / 256 / 256 / 256 / 256 / 256 / 256 / 256), .int .u8 ((n : Int) / 256 / 256 / 256 / 256 / 256 / 256 % 256), .int .u8 ((n : Int) / 256 / 256 / 256 / 256 / 256 % 256), .int .u8 ((n : Int) / 256 / 256 / 256 / 256 % 256), .int .u8 ((n : Int) / 256 / 256 / 256 % 256), .int .u8 ((n : Int) / 256 / 256 % 256), .int .u8 ((n : Int) / 256 % 256), .int .u8 ((n : Int) % 256)]
    Tryd.underlying49 (by kernel_rfl) rfl ?c1 ?c2 ?c3 ?c4]
  case c1 =>
    intro j v h
    have hj : j < 9 := by
      have := (List.getElem?_eq_some_iff.1 h).1
      simpa using this
    have hj : j = 0 ∨ j = 1 ∨ j = 2 ∨ j = 3 ∨ j = 4 ∨ j = 5 ∨ j = 6 ∨ j = 7 ∨ j = 8 := by omega
    rcases hj with rfl | rfl | rfl | rfl | rfl | rfl | rfl | rfl | rfl
    all_goals
      simp only [List.getElem?_cons_zero, List.getElem?_cons_succ, Option.some.injEq] at h
      subst h
      simp only [Addr.add]
      go_simp
  case c2 =>
    intro j hj
    have hj : j = 0 ∨ j = 1 ∨ j = 2 ∨ j = 3 ∨ j = 4 ∨ j = 5 ∨ j = 6 ∨ j = 7 ∨ j = 8 := by simp at hj; omega
    rcases hj with rfl | rfl | rfl | rfl | rfl | rfl | rfl | rfl | rfl
    all_goals go_simp
  case c3 =>
    intro j hj
    go_simp
  case c4 =>
    intro v hv
    simp only [List.mem_cons, List.not_mem_nil, or_false] at hv
    rcases hv with rfl | rfl | rfl | rfl | rfl | rfl | rfl | rfl | rfl
    all_goals rfl
  simp only [World.setCells]
  go_simp
  go_wp2
  rw [conv_bytes _ 49 9 5 ⟨w.heap.size + 1 + 1, 0, none⟩ 9 9 [255 + (n : Int) / 256 / 256 / 256 / 256 / 256 / 256 / 256 / 256, (n : Int) / 256 / 256 / 256 / 256 / 256 / 256 / 256, (n : Int) / 256 / 256 / 256 / 256 / 256 / 256 % 256, (n : Int) / 256 / 256 / 256 / 256 / 256 % 256, (n : Int) / 256 / 256 / 256 / 256 % 256, (n : Int) / 256 / 256 / 256 % 256, (n : Int) / 256 / 256 % 256, (n : Int) / 256 % 256, (n : Int) % 256] (numS n)
    Tryd.underlying49 Tryd.underlying5 Tryd.underlying9 rfl ?d1 ?d2]
  case d1 =>
    intro j v h
    have hj : j < 9 := by
      have := (List.getElem?_eq_some_iff.1 h).1
      simpa using this
    have hj : j = 0 ∨ j = 1 ∨ j = 2 ∨ j = 3 ∨ j = 4 ∨ j = 5 ∨ j = 6 ∨ j = 7 ∨ j = 8 := by omega
    rcases hj with rfl | rfl | rfl | rfl | rfl | rfl | rfl | rfl | rfl
    all_goals
      simp only [List.map_cons, List.getElem?_cons_zero, List.getElem?_cons_succ, Option.some.injEq] at h
      subst h
      simp only [Addr.add]
      go_simp
  case d2 =>
    unfold numS
    rw [HF.out]
    simp only [List.map_cons, List.map_nil]
    refine congr (congrArg List.cons (congrArg UInt8.ofNat (by omega))) ?_ ;refine congr (congrArg List.cons (congrArg UInt8.ofNat (by omega))) ?_ ;refine congr (congrArg List.cons (congrArg UInt8.ofNat (by omega))) ?_ ;refine congr (congrArg List.cons (congrArg UInt8.ofNat (by omega))) ?_ ;refine congr (congrArg List.cons (congrArg UInt8.ofNat (by omega))) ?_ ;refine congr (congrArg List.cons (congrArg UInt8.ofNat (by omega))) ?_ ;refine congr (congrArg List.cons (congrArg UInt8.ofNat (by omega))) ?_ ;refine congr (congrArg List.cons (congrArg UInt8.ofNat (by omega))) ?_ ;refine congr (congrArg List.cons (congrArg UInt8.ofNat (by omega))) ?_ ; rfl
  go_wp2
  go_ret
  exact ⟨rfl, by go_grown⟩

theorem numBytes_any (n : Nat) (hn : n ≤ 18446744073709551615) (w : World) :
    Calls Tryd.prog 40 #[.int .u64 (n : Int)] w fun e w' => e = .returned (.string (numS n)) ∧ Below w.heap.size w w' := by
  by_cases h0 : n ≤ 127
  · exact numBytes_0 n (by omega) h0 w
  by_cases h1 : n ≤ 16383
  · exact numBytes_1 n (by omega) h1 w
  by_cases h2 : n ≤ 2097151
  · exact numBytes_2 n (by omega) h2 w
  by_cases h3 : n ≤ 268435455
  · exact numBytes_3 n (by omega) h3 w
  by_cases h4 : n ≤ 34359738367
  · exact numBytes_4 n (by omega) h4 w
  by_cases h5 : n ≤ 4398046511103
  · exact numBytes_5 n (by omega) h5 w
  by_cases h6 : n ≤ 562949953421311
  · exact numBytes_6 n (by omega) h6 w
  by_cases h7 : n ≤ 72057594037927935
  · exact numBytes_7 n (by omega) h7 w
  · exact numBytes_8 n (by omega) hn w
end Go.Proofs.YtbeaaieaffdgeaaDoor
end
/- What PutNum, PutInt and PutText hand back, the program's and the document's. -/
section
namespace Go.Proofs.YtbeaaieaffdgeaaDoor
open Go.RowKit
set_option linter.unusedVariables false

/-- The number whose bytes a signed one has. -/
def zig (i : Int) : Nat := if 0 ≤ i then (2 * i).toNat else (-2 * i - 1).toNat
theorem zig_le (i : Int) (h1 : -9223372036854775808 ≤ i) (h2 : i ≤ 9223372036854775807) : zig i ≤ 18446744073709551615 := by
  unfold zig; split <;> omega
theorem beL_length (s n : Nat) : (beL s n).length = s := by
  induction s with
  | zero => rfl
  | succ s ih => simp [beL, ih]
theorem numS_size (n : Nat) : (numS n).size ≤ 9 := by
  have h := sortN_le n
  have : (numS n).size = sortN n + 1 := by
    show (numL n).toArray.size = _
    simp [numL, beL_length]
  omega
theorem strA {a b : ByteArray} (h : a = b) : Ending.returned (.string a) = .returned (.string b) := by rw [h]

set_option maxHeartbeats 400000 in
theorem putNum_any (a : ByteArray) (ha : a.size ≤ 70368744177664) (n : Nat) (hn : n ≤ 18446744073709551615) (w : World) :
    Calls Tryd.prog 27 #[.string a, .int .u64 (n : Int)] w fun e w' => e = .returned (.string (a ++ numS n)) ∧ Below w.heap.size w w' := by
  have hz := numS_size n
  go_enter Tryd.func27, Tryd.ntmps27
  go_wp2_with (go_at_call 40; refine (numBytes_any n hn _).mono ?_; rintro e w' ⟨rfl, hb⟩)
  go_ret
  exact ⟨rfl, hb⟩

theorem xor_ones (a : Nat) (ha : a < 18446744073709551616) : a ^^^ 18446744073709551615 = 18446744073709551615 - a := by
  have h := congrArg BitVec.toNat (BitVec.xor_allOnes (x := BitVec.ofNat 64 a))
  rw [BitVec.toNat_xor, BitVec.toNat_not, BitVec.toNat_ofNat, BitVec.toNat_allOnes, Nat.mod_eq_of_lt ha] at h
  exact h
theorem bits_zig (i : Int) (h1 : -9223372036854775808 ≤ i) (h2 : i ≤ 9223372036854775807) :
    bits .xor .u64 (IntKind.u64.wrap (IntKind.u64.wrap i * 2)) (IntKind.u64.wrap (i / 9223372036854775808)) = ((zig i : Nat) : Int) := by
  by_cases h : 0 ≤ i
  · have e1 : IntKind.u64.wrap (IntKind.u64.wrap i * 2) = ((zig i : Nat) : Int) := by
      simp only [IntKind.wrap_u64]; unfold zig; rw [if_pos h]; omega
    have e2 : IntKind.u64.wrap (i / 9223372036854775808) = ((0 : Nat) : Int) := by
      simp only [IntKind.wrap_u64]; omega
    have := zig_le i h1 h2
    rw [e1, e2, u64_xor_nat _ _ (by omega) (by omega), Nat.xor_zero]
  · have e1 : IntKind.u64.wrap (IntKind.u64.wrap i * 2) = ((18446744073709551615 - zig i : Nat) : Int) := by
      simp only [IntKind.wrap_u64]; unfold zig; rw [if_neg h]; omega
    have e2 : IntKind.u64.wrap (i / 9223372036854775808) = ((18446744073709551615 : Nat) : Int) := by
      simp only [IntKind.wrap_u64]; omega
    have := zig_le i h1 h2
    rw [e1, e2, u64_xor_nat _ _ (by omega) (by omega), xor_ones _ (by omega)]
    omega
set_option maxHeartbeats 400000 in
theorem unsigned_any (i : Int) (h1 : -9223372036854775808 ≤ i) (h2 : i ≤ 9223372036854775807) (w : World) :
    Calls Tryd.prog 73 #[.int .i64 i] w fun e w' => e = .returned (.int .u64 (zig i : Nat)) ∧ w = w' := by
  have hz := Lib.hid (bits_zig i h1 h2)
  by_cases h : 0 ≤ i
  · go_enter Tryd.func73, Tryd.ntmps73
    go_wp2
    go_ret
    refine ⟨ret_int ?_, rfl⟩
    rw [← hz.out]
    simp only [IntKind.wrap_u64]
    congr 1 <;> omega
  · go_enter Tryd.func73, Tryd.ntmps73
    go_wp2
    go_ret
    exact ⟨ret_int hz.out, rfl⟩

/-- The signed number that has a number's bytes. -/
def unzig (n : Nat) : Int := if n % 2 = 0 then ((n / 2 : Nat) : Int) else -((n / 2 : Nat) : Int) - 1
theorem bits_unzig (n : Nat) (hn : n ≤ 18446744073709551615) :
    bits .xor .i64 ((n : Int) / 2) (wrap64 (-wrap64 (bits .and .u64 (n : Int) 1))) = unzig n := by
  have h1 : bits .and .u64 (n : Int) 1 = ((n % 2 : Nat) : Int) := by
    rw [show (1 : Int) = ((1 : Nat) : Int) from rfl, u64_and_nat n 1 (by omega) (by omega), Nat.and_one_is_mod]
  rw [h1]
  have hx : (BitVec.ofInt 64 (((n / 2 : Nat) : Int))).toNat = n / 2 := by
    rw [BitVec.ofInt_natCast, BitVec.toNat_ofNat]; exact Nat.mod_eq_of_lt (by omega)
  have e0 : (n : Int) / 2 = ((n / 2 : Nat) : Int) := by omega
  rw [e0]
  by_cases h : n % 2 = 0
  · have e2 : wrap64 (-wrap64 ((n % 2 : Nat) : Int)) = 0 := by unfold wrap64; omega
    rw [e2]
    show IntKind.i64.wrap ((BitVec.ofInt 64 ((n / 2 : Nat) : Int) ^^^ BitVec.ofInt 64 0).toNat : Int) = _
    rw [BitVec.toNat_xor, hx, IntKind.wrap_i64]
    unfold unzig
    simp [h]
    omega
  · have e2 : wrap64 (-wrap64 ((n % 2 : Nat) : Int)) = -1 := by unfold wrap64; omega
    rw [e2]
    show IntKind.i64.wrap ((BitVec.ofInt 64 ((n / 2 : Nat) : Int) ^^^ BitVec.ofInt 64 (-1)).toNat : Int) = _
    have e3 : (BitVec.ofInt 64 (-1)).toNat = 18446744073709551615 := by decide
    rw [BitVec.toNat_xor, hx, e3, xor_ones _ (by omega), IntKind.wrap_i64]
    unfold unzig
    simp [h]
    omega
theorem unzig_zig (i : Int) : unzig (zig i) = i := by
  unfold zig unzig
  repeat' split
  all_goals omega
set_option maxHeartbeats 400000 in
theorem signed_any (n : Nat) (hn : n ≤ 18446744073709551615) (w : World) :
    Calls Tryd.prog 67 #[.int .u64 (n : Int)] w fun e w' => e = .returned (.int .i64 (unzig n)) ∧ w = w' := by
  have hz := Lib.hid (bits_unzig n hn)
  go_enter Tryd.func67, Tryd.ntmps67
  go_wp2
  go_ret
  exact ⟨ret_int hz.out, rfl⟩

set_option maxHeartbeats 400000 in
theorem putInt_any (a : ByteArray) (ha : a.size ≤ 70368744177664) (i : Int) (h1 : -9223372036854775808 ≤ i) (h2 : i ≤ 9223372036854775807) (w : World) :
    Calls Tryd.prog 64 #[.string a, .int .i64 i] w fun e w' => e = .returned (.string (a ++ numS (zig i))) ∧ Below w.heap.size w w' := by
  have hz := numS_size (zig i)
  have hy := zig_le i h1 h2
  go_enter Tryd.func64, Tryd.ntmps64
  go_wp2_with (first | (go_at_call 40; refine (numBytes_any _ hy _).mono ?_; rintro e w' ⟨rfl, hb⟩) | (go_at_call 73; refine (unsigned_any i h1 h2 _).mono ?_; rintro e w' ⟨rfl, rfl⟩))
  go_ret
  exact ⟨rfl, hb⟩

def textS (t : ByteArray) : ByteArray := numS t.size ++ t
set_option maxHeartbeats 400000 in
theorem putText_any (a : ByteArray) (ha : a.size ≤ 70368744177664) (t : ByteArray) (ht : t.size ≤ 70368744177664) (w : World) :
    Calls Tryd.prog 28 #[.string a, .string t] w fun e w' => e = .returned (.string (a ++ textS t)) ∧ Below w.heap.size w w' := by
  have hz := numS_size t.size
  go_enter Tryd.func28, Tryd.ntmps28
  go_wp2_with (go_at_call 40; refine (numBytes_any _ (by omega) _).mono ?_; rintro e w' ⟨rfl, hb⟩)
  go_ret
  exact ⟨strA (ByteArray.append_assoc), hb⟩
end Go.Proofs.YtbeaaieaffdgeaaDoor
end
