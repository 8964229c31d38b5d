/- The bytes of a number, as the program lays them: sort by sort. -/
import Derived.Test.YthndmaeplnhmlaaWireH
namespace Go.Proofs.Ythndmaeplnhmlaa
open Go.RowKit
set_option linter.unusedVariables false

set_option maxHeartbeats 1000000 in
theorem numBytes_0 (n : Nat) (hl : 0 ≤ n) (hh : n ≤ 127) (w : World) :
    Calls Try.prog 29 #[.int .u64 (n : Int)] w fun e w' => e = .returned (.string (numS n)) ∧ Below w.heap.size w w' := by
  have hs : sortN n = 0 := by
    unfold sortN; repeat' split
    all_goals omega
  have h3 : ∀ W : World, Calls Try.prog 34 #[.int .u64 (n : Int)] W fun e w' => e = .returned (.int .i64 0) ∧ W.alloc (.cells #[.int .u64 (n : Int)] 22 (0, 0)) = w' := by
    intro W
    have := sortOf_any n (by omega) W
    rw [hs] at this
    exact this
  have h4 : ∀ W : World, Calls Try.prog 33 #[.int .i64 0] W fun e w' => e = .returned (.int .u8 0) ∧ W = w' := by
    intro W
    have := ones_any 0 (by omega) W
    exact this
  have H3 := Lib.hid h3
  have H4 := Lib.hid h4
  clear h3 h4
  have hor : bits .or .u8 0 ((n : Int)) = 0 + (n : Int) := by
    have e : (n : Int) = ((n / 1 : Nat) : Int) := by omega
    rw [e]
    exact (or_join 0 (n / 1) 7 (by omega) (by omega) (by omega) (by omega))
  have hmk : ∀ W : World, (Instr.makeSlice 45 (.int .i64 1) (.int .i64 1)).run Try.prog W = .ok (.slice (some ⟨W.heap.size, 0, none⟩) 1 1) (W.alloc (.cells #[.int .u8 0] 5 (0, 0))) := fun W => by kernel_rfl
  have hfin : numL n = [UInt8.ofNat (0 + n / 1)] := by
    unfold numL; rw [hs]; simp [beL]
  have HF := Lib.hid hfin
  have HS := Lib.hid hs
  clear hs hfin
  go_enter Try.func29, Try.ntmps29
  go_wp2_with (go_at_call 34; refine (H3.out _).mono ?_; rintro e w' ⟨rfl, rfl⟩)
  refine wp_loop_rounds 1 ?_
  repeat any_goals (rw [rounds_succ]; go_wp2_with (go_at_call 33; refine (H4.out _).mono ?_; rintro e w' ⟨rfl, rfl⟩))
  rw [run_copy_cells _ 45 45 3 5 (w.heap.size + 1 + 1) 0 1 1 ⟨w.heap.size, 0, none⟩ 9 9 [.int .u8 (0 + (n : Int))]
    Try.underlying45 (by kernel_rfl) rfl ?c1 ?c2 ?c3 ?c4]
  case c1 =>
    intro j v h
    have hj : j < 1 := by
      have := (List.getElem?_eq_some_iff.1 h).1
      simpa using this
    have hj : j = 0 := by omega
    rcases hj with rfl
    all_goals
      simp only [List.getElem?_cons_zero, Option.some.injEq] at h
      subst h
      simp only [Addr.add]
      go_simp
  case c2 =>
    intro j hj
    have hj : j = 0 := by simp at hj; omega
    rcases hj with rfl
    all_goals go_simp
  case c3 =>
    intro j hj
    go_simp
  case c4 =>
    intro v hv
    simp only [List.mem_cons, List.not_mem_nil, or_false] at hv
    rcases hv with rfl
    all_goals rfl
  simp only [World.setCells]
  go_simp
  go_wp2
  rw [conv_bytes _ 45 9 5 ⟨w.heap.size + 1 + 1, 0, none⟩ 1 1 [0 + (n : Int)] (numS n)
    Try.underlying45 Try.underlying5 Try.underlying9 rfl ?d1 ?d2]
  case d1 =>
    intro j v h
    have hj : j < 1 := by
      have := (List.getElem?_eq_some_iff.1 h).1
      simpa using this
    have hj : j = 0 := by omega
    rcases hj with rfl
    all_goals
      simp only [List.map_cons, List.getElem?_cons_zero, Option.some.injEq] at h
      subst h
      simp only [Addr.add]
      go_simp
  case d2 =>
    unfold numS
    rw [HF.out]
    simp only [List.map_cons, List.map_nil]
    refine congr (congrArg List.cons (congrArg UInt8.ofNat (by omega))) ?_ ; rfl
  go_wp2
  go_ret
  exact ⟨rfl, by go_grown⟩

set_option maxHeartbeats 1000000 in
theorem numBytes_1 (n : Nat) (hl : 128 ≤ n) (hh : n ≤ 16383) (w : World) :
    Calls Try.prog 29 #[.int .u64 (n : Int)] w fun e w' => e = .returned (.string (numS n)) ∧ Below w.heap.size w w' := by
  have hs : sortN n = 1 := by
    unfold sortN; repeat' split
    all_goals omega
  have h3 : ∀ W : World, Calls Try.prog 34 #[.int .u64 (n : Int)] W fun e w' => e = .returned (.int .i64 1) ∧ W.alloc (.cells #[.int .u64 (n : Int)] 22 (0, 0)) = w' := by
    intro W
    have := sortOf_any n (by omega) W
    rw [hs] at this
    exact this
  have h4 : ∀ W : World, Calls Try.prog 33 #[.int .i64 1] W fun e w' => e = .returned (.int .u8 128) ∧ W = w' := by
    intro W
    have := ones_any 1 (by omega) W
    exact this
  have H3 := Lib.hid h3
  have H4 := Lib.hid h4
  clear h3 h4
  have hor : bits .or .u8 128 ((n : Int) / 256) = 128 + (n : Int) / 256 := by
    have e : (n : Int) / 256 = ((n / 256 : Nat) : Int) := by omega
    rw [e]
    exact (or_join 128 (n / 256) 6 (by omega) (by omega) (by omega) (by omega))
  have hmk : ∀ W : World, (Instr.makeSlice 45 (.int .i64 2) (.int .i64 2)).run Try.prog W = .ok (.slice (some ⟨W.heap.size, 0, none⟩) 2 2) (W.alloc (.cells #[.int .u8 0, .int .u8 0] 5 (0, 0))) := fun W => by kernel_rfl
  have hfin : numL n = [UInt8.ofNat (128 + n / 256), UInt8.ofNat (n / 1 % 256)] := by
    unfold numL; rw [hs]; simp [beL]
  have HF := Lib.hid hfin
  have HS := Lib.hid hs
  clear hs hfin
  go_enter Try.func29, Try.ntmps29
  go_wp2_with (go_at_call 34; refine (H3.out _).mono ?_; rintro e w' ⟨rfl, rfl⟩)
  refine wp_loop_rounds 2 ?_
  repeat any_goals (rw [rounds_succ]; go_wp2_with (go_at_call 33; refine (H4.out _).mono ?_; rintro e w' ⟨rfl, rfl⟩))
  rw [run_copy_cells _ 45 45 3 5 (w.heap.size + 1 + 1) 0 2 2 ⟨w.heap.size, 0, none⟩ 9 9 [.int .u8 (128 + (n : Int) / 256), .int .u8 ((n : Int) % 256)]
    Try.underlying45 (by kernel_rfl) rfl ?c1 ?c2 ?c3 ?c4]
  case c1 =>
    intro j v h
    have hj : j < 2 := by
      have := (List.getElem?_eq_some_iff.1 h).1
      simpa using this
    have hj : j = 0 ∨ j = 1 := by omega
    rcases hj with rfl | rfl
    all_goals
      simp only [List.getElem?_cons_zero, List.getElem?_cons_succ, Option.some.injEq] at h
      subst h
      simp only [Addr.add]
      go_simp
  case c2 =>
    intro j hj
    have hj : j = 0 ∨ j = 1 := by simp at hj; omega
    rcases hj with rfl | rfl
    all_goals go_simp
  case c3 =>
    intro j hj
    go_simp
  case c4 =>
    intro v hv
    simp only [List.mem_cons, List.not_mem_nil, or_false] at hv
    rcases hv with rfl | rfl
    all_goals rfl
  simp only [World.setCells]
  go_simp
  go_wp2
  rw [conv_bytes _ 45 9 5 ⟨w.heap.size + 1 + 1, 0, none⟩ 2 2 [128 + (n : Int) / 256, (n : Int) % 256] (numS n)
    Try.underlying45 Try.underlying5 Try.underlying9 rfl ?d1 ?d2]
  case d1 =>
    intro j v h
    have hj : j < 2 := by
      have := (List.getElem?_eq_some_iff.1 h).1
      simpa using this
    have hj : j = 0 ∨ j = 1 := by omega
    rcases hj with rfl | rfl
    all_goals
      simp only [List.map_cons, List.getElem?_cons_zero, List.getElem?_cons_succ, Option.some.injEq] at h
      subst h
      simp only [Addr.add]
      go_simp
  case d2 =>
    unfold numS
    rw [HF.out]
    simp only [List.map_cons, List.map_nil]
    refine congr (congrArg List.cons (congrArg UInt8.ofNat (by omega))) ?_ ;refine congr (congrArg List.cons (congrArg UInt8.ofNat (by omega))) ?_ ; rfl
  go_wp2
  go_ret
  exact ⟨rfl, by go_grown⟩

set_option maxHeartbeats 1000000 in
theorem numBytes_2 (n : Nat) (hl : 16384 ≤ n) (hh : n ≤ 2097151) (w : World) :
    Calls Try.prog 29 #[.int .u64 (n : Int)] w fun e w' => e = .returned (.string (numS n)) ∧ Below w.heap.size w w' := by
  have hs : sortN n = 2 := by
    unfold sortN; repeat' split
    all_goals omega
  have h3 : ∀ W : World, Calls Try.prog 34 #[.int .u64 (n : Int)] W fun e w' => e = .returned (.int .i64 2) ∧ W.alloc (.cells #[.int .u64 (n : Int)] 22 (0, 0)) = w' := by
    intro W
    have := sortOf_any n (by omega) W
    rw [hs] at this
    exact this
  have h4 : ∀ W : World, Calls Try.prog 33 #[.int .i64 2] W fun e w' => e = .returned (.int .u8 192) ∧ W = w' := by
    intro W
    have := ones_any 2 (by omega) W
    exact this
  have H3 := Lib.hid h3
  have H4 := Lib.hid h4
  clear h3 h4
  have hor : bits .or .u8 192 ((n : Int) / 256 / 256) = 192 + (n : Int) / 256 / 256 := by
    have e : (n : Int) / 256 / 256 = ((n / 65536 : Nat) : Int) := by omega
    rw [e]
    exact (or_join 192 (n / 65536) 5 (by omega) (by omega) (by omega) (by omega))
  have hmk : ∀ W : World, (Instr.makeSlice 45 (.int .i64 3) (.int .i64 3)).run Try.prog W = .ok (.slice (some ⟨W.heap.size, 0, none⟩) 3 3) (W.alloc (.cells #[.int .u8 0, .int .u8 0, .int .u8 0] 5 (0, 0))) := fun W => by kernel_rfl
  have hfin : numL n = [UInt8.ofNat (192 + n / 65536), UInt8.ofNat (n / 256 % 256), UInt8.ofNat (n / 1 % 256)] := by
    unfold numL; rw [hs]; simp [beL]
  have HF := Lib.hid hfin
  have HS := Lib.hid hs
  clear hs hfin
  go_enter Try.func29, Try.ntmps29
  go_wp2_with (go_at_call 34; refine (H3.out _).mono ?_; rintro e w' ⟨rfl, rfl⟩)
  refine wp_loop_rounds 3 ?_
  repeat any_goals (rw [rounds_succ]; go_wp2_with (go_at_call 33; refine (H4.out _).mono ?_; rintro e w' ⟨rfl, rfl⟩))
  rw [run_copy_cells _ 45 45 3 5 (w.heap.size + 1 + 1) 0 3 3 ⟨w.heap.size, 0, none⟩ 9 9 [.int .u8 (192 + (n : Int) / 256 / 256), .int .u8 ((n : Int) / 256 % 256), .int .u8 ((n : Int) % 256)]
    Try.underlying45 (by kernel_rfl) rfl ?c1 ?c2 ?c3 ?c4]
  case c1 =>
    intro j v h
    have hj : j < 3 := by
      have := (List.getElem?_eq_some_iff.1 h).1
      simpa using this
    have hj : j = 0 ∨ j = 1 ∨ j = 2 := by omega
    rcases hj with rfl | rfl | rfl
    all_goals
      simp only [List.getElem?_cons_zero, List.getElem?_cons_succ, Option.some.injEq] at h
      subst h
      simp only [Addr.add]
      go_simp
  case c2 =>
    intro j hj
    have hj : j = 0 ∨ j = 1 ∨ j = 2 := by simp at hj; omega
    rcases hj with rfl | rfl | rfl
    all_goals go_simp
  case c3 =>
    intro j hj
    go_simp
  case c4 =>
    intro v hv
    simp only [List.mem_cons, List.not_mem_nil, or_false] at hv
    rcases hv with rfl | rfl | rfl
    all_goals rfl
  simp only [World.setCells]
  go_simp
  go_wp2
  rw [conv_bytes _ 45 9 5 ⟨w.heap.size + 1 + 1, 0, none⟩ 3 3 [192 + (n : Int) / 256 / 256, (n : Int) / 256 % 256, (n : Int) % 256] (numS n)
    Try.underlying45 Try.underlying5 Try.underlying9 rfl ?d1 ?d2]
  case d1 =>
    intro j v h
    have hj : j < 3 := by
      have := (List.getElem?_eq_some_iff.1 h).1
      simpa using this
    have hj : j = 0 ∨ j = 1 ∨ j = 2 := by omega
    rcases hj with rfl | rfl | rfl
    all_goals
      simp only [List.map_cons, List.getElem?_cons_zero, List.getElem?_cons_succ, Option.some.injEq] at h
      subst h
      simp only [Addr.add]
      go_simp
  case d2 =>
    unfold numS
    rw [HF.out]
    simp only [List.map_cons, List.map_nil]
    refine congr (congrArg List.cons (congrArg UInt8.ofNat (by omega))) ?_ ;refine congr (congrArg List.cons (congrArg UInt8.ofNat (by omega))) ?_ ;refine congr (congrArg List.cons (congrArg UInt8.ofNat (by omega))) ?_ ; rfl
  go_wp2
  go_ret
  exact ⟨rfl, by go_grown⟩

set_option maxHeartbeats 1000000 in
theorem numBytes_3 (n : Nat) (hl : 2097152 ≤ n) (hh : n ≤ 268435455) (w : World) :
    Calls Try.prog 29 #[.int .u64 (n : Int)] w fun e w' => e = .returned (.string (numS n)) ∧ Below w.heap.size w w' := by
  have hs : sortN n = 3 := by
    unfold sortN; repeat' split
    all_goals omega
  have h3 : ∀ W : World, Calls Try.prog 34 #[.int .u64 (n : Int)] W fun e w' => e = .returned (.int .i64 3) ∧ W.alloc (.cells #[.int .u64 (n : Int)] 22 (0, 0)) = w' := by
    intro W
    have := sortOf_any n (by omega) W
    rw [hs] at this
    exact this
  have h4 : ∀ W : World, Calls Try.prog 33 #[.int .i64 3] W fun e w' => e = .returned (.int .u8 224) ∧ W = w' := by
    intro W
    have := ones_any 3 (by omega) W
    exact this
  have H3 := Lib.hid h3
  have H4 := Lib.hid h4
  clear h3 h4
  have hor : bits .or .u8 224 ((n : Int) / 256 / 256 / 256) = 224 + (n : Int) / 256 / 256 / 256 := by
    have e : (n : Int) / 256 / 256 / 256 = ((n / 16777216 : Nat) : Int) := by omega
    rw [e]
    exact (or_join 224 (n / 16777216) 4 (by omega) (by omega) (by omega) (by omega))
  have hmk : ∀ W : World, (Instr.makeSlice 45 (.int .i64 4) (.int .i64 4)).run Try.prog W = .ok (.slice (some ⟨W.heap.size, 0, none⟩) 4 4) (W.alloc (.cells #[.int .u8 0, .int .u8 0, .int .u8 0, .int .u8 0] 5 (0, 0))) := fun W => by kernel_rfl
  have hfin : numL n = [UInt8.ofNat (224 + n / 16777216), UInt8.ofNat (n / 65536 % 256), UInt8.ofNat (n / 256 % 256), UInt8.ofNat (n / 1 % 256)] := by
    unfold numL; rw [hs]; simp [beL]
  have HF := Lib.hid hfin
  have HS := Lib.hid hs
  clear hs hfin
  go_enter Try.func29, Try.ntmps29
  go_wp2_with (go_at_call 34; refine (H3.out _).mono ?_; rintro e w' ⟨rfl, rfl⟩)
  refine wp_loop_rounds 4 ?_
  repeat any_goals (rw [rounds_succ]; go_wp2_with (go_at_call 33; refine (H4.out _).mono ?_; rintro e w' ⟨rfl, rfl⟩))
  rw [run_copy_cells _ 45 45 3 5 (w.heap.size + 1 + 1) 0 4 4 ⟨w.heap.size, 0, none⟩ 9 9 [.int .u8 (224 + (n : Int) / 256 / 256 / 256), .int .u8 ((n : Int) / 256 / 256 % 256), .int .u8 ((n : Int) / 256 % 256), .int .u8 ((n : Int) % 256)]
    Try.underlying45 (by kernel_rfl) rfl ?c1 ?c2 ?c3 ?c4]
  case c1 =>
    intro j v h
    have hj : j < 4 := by
      have := (List.getElem?_eq_some_iff.1 h).1
      simpa using this
    have hj : j = 0 ∨ j = 1 ∨ j = 2 ∨ j = 3 := by omega
    rcases hj with rfl | rfl | rfl | rfl
    all_goals
      simp only [List.getElem?_cons_zero, List.getElem?_cons_succ, Option.some.injEq] at h
      subst h
      simp only [Addr.add]
      go_simp
  case c2 =>
    intro j hj
    have hj : j = 0 ∨ j = 1 ∨ j = 2 ∨ j = 3 := by simp at hj; omega
    rcases hj with rfl | rfl | rfl | rfl
    all_goals go_simp
  case c3 =>
    intro j hj
    go_simp
  case c4 =>
    intro v hv
    simp only [List.mem_cons, List.not_mem_nil, or_false] at hv
    rcases hv with rfl | rfl | rfl | rfl
    all_goals rfl
  simp only [World.setCells]
  go_simp
  go_wp2
  rw [conv_bytes _ 45 9 5 ⟨w.heap.size + 1 + 1, 0, none⟩ 4 4 [224 + (n : Int) / 256 / 256 / 256, (n : Int) / 256 / 256 % 256, (n : Int) / 256 % 256, (n : Int) % 256] (numS n)
    Try.underlying45 Try.underlying5 Try.underlying9 rfl ?d1 ?d2]
  case d1 =>
    intro j v h
    have hj : j < 4 := by
      have := (List.getElem?_eq_some_iff.1 h).1
      simpa using this
    have hj : j = 0 ∨ j = 1 ∨ j = 2 ∨ j = 3 := by omega
    rcases hj with rfl | rfl | rfl | rfl
    all_goals
      simp only [List.map_cons, List.getElem?_cons_zero, List.getElem?_cons_succ, Option.some.injEq] at h
      subst h
      simp only [Addr.add]
      go_simp
  case d2 =>
    unfold numS
    rw [HF.out]
    simp only [List.map_cons, List.map_nil]
    refine congr (congrArg List.cons (congrArg UInt8.ofNat (by omega))) ?_ ;refine congr (congrArg List.cons (congrArg UInt8.ofNat (by omega))) ?_ ;refine congr (congrArg List.cons (congrArg UInt8.ofNat (by omega))) ?_ ;refine congr (congrArg List.cons (congrArg UInt8.ofNat (by omega))) ?_ ; rfl
  go_wp2
  go_ret
  exact ⟨rfl, by go_grown⟩

set_option maxHeartbeats 1000000 in
theorem numBytes_4 (n : Nat) (hl : 268435456 ≤ n) (hh : n ≤ 34359738367) (w : World) :
    Calls Try.prog 29 #[.int .u64 (n : Int)] w fun e w' => e = .returned (.string (numS n)) ∧ Below w.heap.size w w' := by
  have hs : sortN n = 4 := by
    unfold sortN; repeat' split
    all_goals omega
  have h3 : ∀ W : World, Calls Try.prog 34 #[.int .u64 (n : Int)] W fun e w' => e = .returned (.int .i64 4) ∧ W.alloc (.cells #[.int .u64 (n : Int)] 22 (0, 0)) = w' := by
    intro W
    have := sortOf_any n (by omega) W
    rw [hs] at this
    exact this
  have h4 : ∀ W : World, Calls Try.prog 33 #[.int .i64 4] W fun e w' => e = .returned (.int .u8 240) ∧ W = w' := by
    intro W
    have := ones_any 4 (by omega) W
    exact this
  have H3 := Lib.hid h3
  have H4 := Lib.hid h4
  clear h3 h4
  have hor : bits .or .u8 240 ((n : Int) / 256 / 256 / 256 / 256) = 240 + (n : Int) / 256 / 256 / 256 / 256 := by
    have e : (n : Int) / 256 / 256 / 256 / 256 = ((n / 4294967296 : Nat) : Int) := by omega
    rw [e]
    exact (or_join 240 (n / 4294967296) 3 (by omega) (by omega) (by omega) (by omega))
  have hmk : ∀ W : World, (Instr.makeSlice 45 (.int .i64 5) (.int .i64 5)).run Try.prog W = .ok (.slice (some ⟨W.heap.size, 0, none⟩) 5 5) (W.alloc (.cells #[.int .u8 0, .int .u8 0, .int .u8 0, .int .u8 0, .int .u8 0] 5 (0, 0))) := fun W => by kernel_rfl
  have hfin : numL n = [UInt8.ofNat (240 + n / 4294967296), UInt8.ofNat (n / 16777216 % 256), UInt8.ofNat (n / 65536 % 256), UInt8.ofNat (n / 256 % 256), UInt8.ofNat (n / 1 % 256)] := by
    unfold numL; rw [hs]; simp [beL]
  have HF := Lib.hid hfin
  have HS := Lib.hid hs
  clear hs hfin
  go_enter Try.func29, Try.ntmps29
  go_wp2_with (go_at_call 34; refine (H3.out _).mono ?_; rintro e w' ⟨rfl, rfl⟩)
  refine wp_loop_rounds 5 ?_
  repeat any_goals (rw [rounds_succ]; go_wp2_with (go_at_call 33; refine (H4.out _).mono ?_; rintro e w' ⟨rfl, rfl⟩))
  rw [run_copy_cells _ 45 45 3 5 (w.heap.size + 1 + 1) 0 5 5 ⟨w.heap.size, 0, none⟩ 9 9 [.int .u8 (240 + (n : Int) / 256 / 256 / 256 / 256), .int .u8 ((n : Int) / 256 / 256 / 256 % 256), .int .u8 ((n : Int) / 256 / 256 % 256), .int .u8 ((n : Int) / 256 % 256), .int .u8 ((n : Int) % 256)]
    Try.underlying45 (by kernel_rfl) rfl ?c1 ?c2 ?c3 ?c4]
  case c1 =>
    intro j v h
    have hj : j < 5 := by
      have := (List.getElem?_eq_some_iff.1 h).1
      simpa using this
    have hj : j = 0 ∨ j = 1 ∨ j = 2 ∨ j = 3 ∨ j = 4 := by omega
    rcases hj with rfl | rfl | rfl | rfl | rfl
    all_goals
      simp only [List.getElem?_cons_zero, List.getElem?_cons_succ, Option.some.injEq] at h
      subst h
      simp only [Addr.add]
      go_simp
  case c2 =>
    intro j hj
    have hj : j = 0 ∨ j = 1 ∨ j = 2 ∨ j = 3 ∨ j = 4 := by simp at hj; omega
    rcases hj with rfl | rfl | rfl | rfl | rfl
    all_goals go_simp
  case c3 =>
    intro j hj
    go_simp
  case c4 =>
    intro v hv
    simp only [List.mem_cons, List.not_mem_nil, or_false] at hv
    rcases hv with rfl | rfl | rfl | rfl | rfl
    all_goals rfl
  simp only [World.setCells]
  go_simp
  go_wp2
  rw [conv_bytes _ 45 9 5 ⟨w.heap.size + 1 + 1, 0, none⟩ 5 5 [240 + (n : Int) / 256 / 256 / 256 / 256, (n : Int) / 256 / 256 / 256 % 256, (n : Int) / 256 / 256 % 256, (n : Int) / 256 % 256, (n : Int) % 256] (numS n)
    Try.underlying45 Try.underlying5 Try.underlying9 rfl ?d1 ?d2]
  case d1 =>
    intro j v h
    have hj : j < 5 := by
      have := (List.getElem?_eq_some_iff.1 h).1
      simpa using this
    have hj : j = 0 ∨ j = 1 ∨ j = 2 ∨ j = 3 ∨ j = 4 := by omega
    rcases hj with rfl | rfl | rfl | rfl | rfl
    all_goals
      simp only [List.map_cons, List.getElem?_cons_zero, List.getElem?_cons_succ, Option.some.injEq] at h
      subst h
      simp only [Addr.add]
      go_simp
  case d2 =>
    unfold numS
    rw [HF.out]
    simp only [List.map_cons, List.map_nil]
    refine congr (congrArg List.cons (congrArg UInt8.ofNat (by omega))) ?_ ;refine congr (congrArg List.cons (congrArg UInt8.ofNat (by omega))) ?_ ;refine congr (congrArg List.cons (congrArg UInt8.ofNat (by omega))) ?_ ;refine congr (congrArg List.cons (congrArg UInt8.ofNat (by omega))) ?_ ;refine congr (congrArg List.cons (congrArg UInt8.ofNat (by omega))) ?_ ; rfl
  go_wp2
  go_ret
  exact ⟨rfl, by go_grown⟩

set_option maxHeartbeats 1000000 in
theorem numBytes_5 (n : Nat) (hl : 34359738368 ≤ n) (hh : n ≤ 4398046511103) (w : World) :
    Calls Try.prog 29 #[.int .u64 (n : Int)] w fun e w' => e = .returned (.string (numS n)) ∧ Below w.heap.size w w' := by
  have hs : sortN n = 5 := by
    unfold sortN; repeat' split
    all_goals omega
  have h3 : ∀ W : World, Calls Try.prog 34 #[.int .u64 (n : Int)] W fun e w' => e = .returned (.int .i64 5) ∧ W.alloc (.cells #[.int .u64 (n : Int)] 22 (0, 0)) = w' := by
    intro W
    have := sortOf_any n (by omega) W
    rw [hs] at this
    exact this
  have h4 : ∀ W : World, Calls Try.prog 33 #[.int .i64 5] W fun e w' => e = .returned (.int .u8 248) ∧ W = w' := by
    intro W
    have := ones_any 5 (by omega) W
    exact this
  have H3 := Lib.hid h3
  have H4 := Lib.hid h4
  clear h3 h4
  have hor : bits .or .u8 248 ((n : Int) / 256 / 256 / 256 / 256 / 256) = 248 + (n : Int) / 256 / 256 / 256 / 256 / 256 := by
    have e : (n : Int) / 256 / 256 / 256 / 256 / 256 = ((n / 1099511627776 : Nat) : Int) := by omega
    rw [e]
    exact (or_join 248 (n / 1099511627776) 2 (by omega) (by omega) (by omega) (by omega))
  have hmk : ∀ W : World, (Instr.makeSlice 45 (.int .i64 6) (.int .i64 6)).run Try.prog W = .ok (.slice (some ⟨W.heap.size, 0, none⟩) 6 6) (W.alloc (.cells #[.int .u8 0, .int .u8 0, .int .u8 0, .int .u8 0, .int .u8 0, .int .u8 0] 5 (0, 0))) := fun W => by kernel_rfl
  have hfin : numL n = [UInt8.ofNat (248 + n / 1099511627776), UInt8.ofNat (n / 4294967296 % 256), UInt8.ofNat (n / 16777216 % 256), UInt8.ofNat (n / 65536 % 256), UInt8.ofNat (n / 256 % 256), UInt8.ofNat (n / 1 % 256)] := by
    unfold numL; rw [hs]; simp [beL]
  have HF := Lib.hid hfin
  have HS := Lib.hid hs
  clear hs hfin
  go_enter Try.func29, Try.ntmps29
  go_wp2_with (go_at_call 34; refine (H3.out _).mono ?_; rintro e w' ⟨rfl, rfl⟩)
  refine wp_loop_rounds 6 ?_
  repeat any_goals (rw [rounds_succ]; go_wp2_with (go_at_call 33; refine (H4.out _).mono ?_; rintro e w' ⟨rfl, rfl⟩))
  rw [run_copy_cells _ 45 45 3 5 (w.heap.size + 1 + 1) 0 6 6 ⟨w.heap.size, 0, none⟩ 9 9 [.int .u8 (248 + (n : Int) / 256 / 256 / 256 / 256 / 256), .int .u8 ((n : Int) / 256 / 256 / 256 / 256 % 256), .int .u8 ((n : Int) / 256 / 256 / 256 % 256), .int .u8 ((n : Int) / 256 / 256 % 256), .int .u8 ((n : Int) / 256 % 256), .int .u8 ((n : Int) % 256)]
    Try.underlying45 (by kernel_rfl) rfl ?c1 ?c2 ?c3 ?c4]
  case c1 =>
    intro j v h
    have hj : j < 6 := by
      have := (List.getElem?_eq_some_iff.1 h).1
      simpa using this
    have hj : j = 0 ∨ j = 1 ∨ j = 2 ∨ j = 3 ∨ j = 4 ∨ j = 5 := by omega
    rcases hj with rfl | rfl | rfl | rfl | rfl | rfl
    all_goals
      simp only [List.getElem?_cons_zero, List.getElem?_cons_succ, Option.some.injEq] at h
      subst h
      simp only [Addr.add]
      go_simp
  case c2 =>
    intro j hj
    have hj : j = 0 ∨ j = 1 ∨ j = 2 ∨ j = 3 ∨ j = 4 ∨ j = 5 := by simp at hj; omega
    rcases hj with rfl | rfl | rfl | rfl | rfl | rfl
    all_goals go_simp
  case c3 =>
    intro j hj
    go_simp
  case c4 =>
    intro v hv
    simp only [List.mem_cons, List.not_mem_nil, or_false] at hv
    rcases hv with rfl | rfl | rfl | rfl | rfl | rfl
    all_goals rfl
  simp only [World.setCells]
  go_simp
  go_wp2
  rw [conv_bytes _ 45 9 5 ⟨w.heap.size + 1 + 1, 0, none⟩ 6 6 [248 + (n : Int) / 256 / 256 / 256 / 256 / 256, (n : Int) / 256 / 256 / 256 / 256 % 256, (n : Int) / 256 / 256 / 256 % 256, (n : Int) / 256 / 256 % 256, (n : Int) / 256 % 256, (n : Int) % 256] (numS n)
    Try.underlying45 Try.underlying5 Try.underlying9 rfl ?d1 ?d2]
  case d1 =>
    intro j v h
    have hj : j < 6 := by
      have := (List.getElem?_eq_some_iff.1 h).1
      simpa using this
    have hj : j = 0 ∨ j = 1 ∨ j = 2 ∨ j = 3 ∨ j = 4 ∨ j = 5 := by omega
    rcases hj with rfl | rfl | rfl | rfl | rfl | rfl
    all_goals
      simp only [List.map_cons, List.getElem?_cons_zero, List.getElem?_cons_succ, Option.some.injEq] at h
      subst h
      simp only [Addr.add]
      go_simp
  case d2 =>
    unfold numS
    rw [HF.out]
    simp only [List.map_cons, List.map_nil]
    refine congr (congrArg List.cons (congrArg UInt8.ofNat (by omega))) ?_ ;refine congr (congrArg List.cons (congrArg UInt8.ofNat (by omega))) ?_ ;refine congr (congrArg List.cons (congrArg UInt8.ofNat (by omega))) ?_ ;refine congr (congrArg List.cons (congrArg UInt8.ofNat (by omega))) ?_ ;refine congr (congrArg List.cons (congrArg UInt8.ofNat (by omega))) ?_ ;refine congr (congrArg List.cons (congrArg UInt8.ofNat (by omega))) ?_ ; rfl
  go_wp2
  go_ret
  exact ⟨rfl, by go_grown⟩

set_option maxHeartbeats 1000000 in
theorem numBytes_6 (n : Nat) (hl : 4398046511104 ≤ n) (hh : n ≤ 562949953421311) (w : World) :
    Calls Try.prog 29 #[.int .u64 (n : Int)] w fun e w' => e = .returned (.string (numS n)) ∧ Below w.heap.size w w' := by
  have hs : sortN n = 6 := by
    unfold sortN; repeat' split
    all_goals omega
  have h3 : ∀ W : World, Calls Try.prog 34 #[.int .u64 (n : Int)] W fun e w' => e = .returned (.int .i64 6) ∧ W.alloc (.cells #[.int .u64 (n : Int)] 22 (0, 0)) = w' := by
    intro W
    have := sortOf_any n (by omega) W
    rw [hs] at this
    exact this
  have h4 : ∀ W : World, Calls Try.prog 33 #[.int .i64 6] W fun e w' => e = .returned (.int .u8 252) ∧ W = w' := by
    intro W
    have := ones_any 6 (by omega) W
    exact this
  have H3 := Lib.hid h3
  have H4 := Lib.hid h4
  clear h3 h4
  have hor : bits .or .u8 252 ((n : Int) / 256 / 256 / 256 / 256 / 256 / 256) = 252 + (n : Int) / 256 / 256 / 256 / 256 / 256 / 256 := by
    have e : (n : Int) / 256 / 256 / 256 / 256 / 256 / 256 = ((n / 281474976710656 : Nat) : Int) := by omega
    rw [e]
    exact (or_join 252 (n / 281474976710656) 1 (by omega) (by omega) (by omega) (by omega))
  have hmk : ∀ W : World, (Instr.makeSlice 45 (.int .i64 7) (.int .i64 7)).run Try.prog W = .ok (.slice (some ⟨W.heap.size, 0, none⟩) 7 7) (W.alloc (.cells #[.int .u8 0, .int .u8 0, .int .u8 0, .int .u8 0, .int .u8 0, .int .u8 0, .int .u8 0] 5 (0, 0))) := fun W => by kernel_rfl
  have hfin : numL n = [UInt8.ofNat (252 + n / 281474976710656), UInt8.ofNat (n / 1099511627776 % 256), UInt8.ofNat (n / 4294967296 % 256), UInt8.ofNat (n / 16777216 % 256), UInt8.ofNat (n / 65536 % 256), UInt8.ofNat (n / 256 % 256), UInt8.ofNat (n / 1 % 256)] := by
    unfold numL; rw [hs]; simp [beL]
  have HF := Lib.hid hfin
  have HS := Lib.hid hs
  clear hs hfin
  go_enter Try.func29, Try.ntmps29
  go_wp2_with (go_at_call 34; refine (H3.out _).mono ?_; rintro e w' ⟨rfl, rfl⟩)
  refine wp_loop_rounds 7 ?_
  repeat any_goals (rw [rounds_succ]; go_wp2_with (go_at_call 33; refine (H4.out _).mono ?_; rintro e w' ⟨rfl, rfl⟩))
  rw [run_copy_cells _ 45 45 3 5 (w.heap.size + 1 + 1) 0 7 7 ⟨w.heap.size, 0, none⟩ 9 9 [.int .u8 (252 + (n : Int) / 256 / 256 / 256 / 256 / 256 / 256), .int .u8 ((n : Int) / 256 / 256 / 256 / 256 / 256 % 256), .int .u8 ((n : Int) / 256 / 256 / 256 / 256 % 256), .int .u8 ((n : Int) / 256 / 256 / 256 % 256), .int .u8 ((n : Int) / 256 / 256 % 256), .int .u8 ((n : Int) / 256 % 256), .int .u8 ((n : Int) % 256)]
    Try.underlying45 (by kernel_rfl) rfl ?c1 ?c2 ?c3 ?c4]
  case c1 =>
    intro j v h
    have hj : j < 7 := by
      have := (List.getElem?_eq_some_iff.1 h).1
      simpa using this
    have hj : j = 0 ∨ j = 1 ∨ j = 2 ∨ j = 3 ∨ j = 4 ∨ j = 5 ∨ j = 6 := by omega
    rcases hj with rfl | rfl | rfl | rfl | rfl | rfl | rfl
    all_goals
      simp only [List.getElem?_cons_zero, List.getElem?_cons_succ, Option.some.injEq] at h
      subst h
      simp only [Addr.add]
      go_simp
  case c2 =>
    intro j hj
    have hj : j = 0 ∨ j = 1 ∨ j = 2 ∨ j = 3 ∨ j = 4 ∨ j = 5 ∨ j = 6 := by simp at hj; omega
    rcases hj with rfl | rfl | rfl | rfl | rfl | rfl | rfl
    all_goals go_simp
  case c3 =>
    intro j hj
    go_simp
  case c4 =>
    intro v hv
    simp only [List.mem_cons, List.not_mem_nil, or_false] at hv
    rcases hv with rfl | rfl | rfl | rfl | rfl | rfl | rfl
    all_goals rfl
  simp only [World.setCells]
  go_simp
  go_wp2
  rw [conv_bytes _ 45 9 5 ⟨w.heap.size + 1 + 1, 0, none⟩ 7 7 [252 + (n : Int) / 256 / 256 / 256 / 256 / 256 / 256, (n : Int) / 256 / 256 / 256 / 256 / 256 % 256, (n : Int) / 256 / 256 / 256 / 256 % 256, (n : Int) / 256 / 256 / 256 % 256, (n : Int) / 256 / 256 % 256, (n : Int) / 256 % 256, (n : Int) % 256] (numS n)
    Try.underlying45 Try.underlying5 Try.underlying9 rfl ?d1 ?d2]
  case d1 =>
    intro j v h
    have hj : j < 7 := by
      have := (List.getElem?_eq_some_iff.1 h).1
      simpa using this
    have hj : j = 0 ∨ j = 1 ∨ j = 2 ∨ j = 3 ∨ j = 4 ∨ j = 5 ∨ j = 6 := by omega
    rcases hj with rfl | rfl | rfl | rfl | rfl | rfl | rfl
    all_goals
      simp only [List.map_cons, List.getElem?_cons_zero, List.getElem?_cons_succ, Option.some.injEq] at h
      subst h
      simp only [Addr.add]
      go_simp
  case d2 =>
    unfold numS
    rw [HF.out]
    simp only [List.map_cons, List.map_nil]
    refine congr (congrArg List.cons (congrArg UInt8.ofNat (by omega))) ?_ ;refine congr (congrArg List.cons (congrArg UInt8.ofNat (by omega))) ?_ ;refine congr (congrArg List.cons (congrArg UInt8.ofNat (by omega))) ?_ ;refine congr (congrArg List.cons (congrArg UInt8.ofNat (by omega))) ?_ ;refine congr (congrArg List.cons (congrArg UInt8.ofNat (by omega))) ?_ ;refine congr (congrArg List.cons (congrArg UInt8.ofNat (by omega))) ?_ ;refine congr (congrArg List.cons (congrArg UInt8.ofNat (by omega))) ?_ ; rfl
  go_wp2
  go_ret
  exact ⟨rfl, by go_grown⟩

set_option maxHeartbeats 1000000 in
theorem numBytes_7 (n : Nat) (hl : 562949953421312 ≤ n) (hh : n ≤ 72057594037927935) (w : World) :
    Calls Try.prog 29 #[.int .u64 (n : Int)] w fun e w' => e = .returned (.string (numS n)) ∧ Below w.heap.size w w' := by
  have hs : sortN n = 7 := by
    unfold sortN; repeat' split
    all_goals omega
  have h3 : ∀ W : World, Calls Try.prog 34 #[.int .u64 (n : Int)] W fun e w' => e = .returned (.int .i64 7) ∧ W.alloc (.cells #[.int .u64 (n : Int)] 22 (0, 0)) = w' := by
    intro W
    have := sortOf_any n (by omega) W
    rw [hs] at this
    exact this
  have h4 : ∀ W : World, Calls Try.prog 33 #[.int .i64 7] W fun e w' => e = .returned (.int .u8 254) ∧ W = w' := by
    intro W
    have := ones_any 7 (by omega) W
    exact this
  have H3 := Lib.hid h3
  have H4 := Lib.hid h4
  clear h3 h4
  have hor : bits .or .u8 254 ((n : Int) / 256 / 256 / 256 / 256 / 256 / 256 / 256) = 254 + (n : Int) / 256 / 256 / 256 / 256 / 256 / 256 / 256 := by
    have e : (n : Int) / 256 / 256 / 256 / 256 / 256 / 256 / 256 = ((n / 72057594037927936 : Nat) : Int) := by omega
    rw [e]
    exact (or_join 254 (n / 72057594037927936) 0 (by omega) (by omega) (by omega) (by omega))
  have hmk : ∀ W : World, (Instr.makeSlice 45 (.int .i64 8) (.int .i64 8)).run Try.prog W = .ok (.slice (some ⟨W.heap.size, 0, none⟩) 8 8) (W.alloc (.cells #[.int .u8 0, .int .u8 0, .int .u8 0, .int .u8 0, .int .u8 0, .int .u8 0, .int .u8 0, .int .u8 0] 5 (0, 0))) := fun W => by kernel_rfl
  have hfin : numL n = [UInt8.ofNat (254 + n / 72057594037927936), UInt8.ofNat (n / 281474976710656 % 256), UInt8.ofNat (n / 1099511627776 % 256), UInt8.ofNat (n / 4294967296 % 256), UInt8.ofNat (n / 16777216 % 256), UInt8.ofNat (n / 65536 % 256), UInt8.ofNat (n / 256 % 256), UInt8.ofNat (n / 1 % 256)] := by
    unfold numL; rw [hs]; simp [beL]
  have HF := Lib.hid hfin
  have HS := Lib.hid hs
  clear hs hfin
  go_enter Try.func29, Try.ntmps29
  go_wp2_with (go_at_call 34; refine (H3.out _).mono ?_; rintro e w' ⟨rfl, rfl⟩)
  refine wp_loop_rounds 8 ?_
  repeat any_goals (rw [rounds_succ]; go_wp2_with (go_at_call 33; refine (H4.out _).mono ?_; rintro e w' ⟨rfl, rfl⟩))
  rw [run_copy_cells _ 45 45 3 5 (w.heap.size + 1 + 1) 0 8 8 ⟨w.heap.size, 0, none⟩ 9 9 [.int .u8 (254 + (n : Int) / 256 / 256 / 256 / 256 / 256 / 256 / 256), .int .u8 ((n : Int) / 256 / 256 / 256 / 256 / 256 / 256), .int .u8 ((n : Int) / 256 / 256 / 256 / 256 / 256 % 256), .int .u8 ((n : Int) / 256 / 256 / 256 / 256 % 256), .int .u8 ((n : Int) / 256 / 256 / 256 % 256), .int .u8 ((n : Int) / 256 / 256 % 256), .int .u8 ((n : Int) / 256 % 256), .int .u8 ((n : Int) % 256)]
    Try.underlying45 (by kernel_rfl) rfl ?c1 ?c2 ?c3 ?c4]
  case c1 =>
    intro j v h
    have hj : j < 8 := by
      have := (List.getElem?_eq_some_iff.1 h).1
      simpa using this
    have hj : j = 0 ∨ j = 1 ∨ j = 2 ∨ j = 3 ∨ j = 4 ∨ j = 5 ∨ j = 6 ∨ j = 7 := by omega
    rcases hj with rfl | rfl | rfl | rfl | rfl | rfl | rfl | rfl
    all_goals
      simp only [List.getElem?_cons_zero, List.getElem?_cons_succ, Option.some.injEq] at h
      subst h
      simp only [Addr.add]
      go_simp
  case c2 =>
    intro j hj
    have hj : j = 0 ∨ j = 1 ∨ j = 2 ∨ j = 3 ∨ j = 4 ∨ j = 5 ∨ j = 6 ∨ j = 7 := by simp at hj; omega
    rcases hj with rfl | rfl | rfl | rfl | rfl | rfl | rfl | rfl
    all_goals go_simp
  case c3 =>
    intro j hj
    go_simp
  case c4 =>
    intro v hv
    simp only [List.mem_cons, List.not_mem_nil, or_false] at hv
    rcases hv with rfl | rfl | rfl | rfl | rfl | rfl | rfl | rfl
    all_goals rfl
  simp only [World.setCells]
  go_simp
  go_wp2
  rw [conv_bytes _ 45 9 5 ⟨w.heap.size + 1 + 1, 0, none⟩ 8 8 [254 + (n : Int) / 256 / 256 / 256 / 256 / 256 / 256 / 256, (n : Int) / 256 / 256 / 256 / 256 / 256 / 256, (n : Int) / 256 / 256 / 256 / 256 / 256 % 256, (n : Int) / 256 / 256 / 256 / 256 % 256, (n : Int) / 256 / 256 / 256 % 256, (n : Int) / 256 / 256 % 256, (n : Int) / 256 % 256, (n : Int) % 256] (numS n)
    Try.underlying45 Try.underlying5 Try.underlying9 rfl ?d1 ?d2]
  case d1 =>
    intro j v h
    have hj : j < 8 := by
      have := (List.getElem?_eq_some_iff.1 h).1
      simpa using this
    have hj : j = 0 ∨ j = 1 ∨ j = 2 ∨ j = 3 ∨ j = 4 ∨ j = 5 ∨ j = 6 ∨ j = 7 := by omega
    rcases hj with rfl | rfl | rfl | rfl | rfl | rfl | rfl | rfl
    all_goals
      simp only [List.map_cons, List.getElem?_cons_zero, List.getElem?_cons_succ, Option.some.injEq] at h
      subst h
      simp only [Addr.add]
      go_simp
  case d2 =>
    unfold numS
    rw [HF.out]
    simp only [List.map_cons, List.map_nil]
    refine congr (congrArg List.cons (congrArg UInt8.ofNat (by omega))) ?_ ;refine congr (congrArg List.cons (congrArg UInt8.ofNat (by omega))) ?_ ;refine congr (congrArg List.cons (congrArg UInt8.ofNat (by omega))) ?_ ;refine congr (congrArg List.cons (congrArg UInt8.ofNat (by omega))) ?_ ;refine congr (congrArg List.cons (congrArg UInt8.ofNat (by omega))) ?_ ;refine congr (congrArg List.cons (congrArg UInt8.ofNat (by omega))) ?_ ;refine congr (congrArg List.cons (congrArg UInt8.ofNat (by omega))) ?_ ;refine congr (congrArg List.cons (congrArg UInt8.ofNat (by omega))) ?_ ; rfl
  go_wp2
  go_ret
  exact ⟨rfl, by go_grown⟩

set_option maxHeartbeats 1000000 in
theorem numBytes_8 (n : Nat) (hl : 72057594037927936 ≤ n) (hh : n ≤ 18446744073709551615) (w : World) :
    Calls Try.prog 29 #[.int .u64 (n : Int)] w fun e w' => e = .returned (.string (numS n)) ∧ Below w.heap.size w w' := by
  have hs : sortN n = 8 := by
    unfold sortN; repeat' split
    all_goals omega
  have h3 : ∀ W : World, Calls Try.prog 34 #[.int .u64 (n : Int)] W fun e w' => e = .returned (.int .i64 8) ∧ W.alloc (.cells #[.int .u64 (n : Int)] 22 (0, 0)) = w' := by
    intro W
    have := sortOf_any n (by omega) W
    rw [hs] at this
    exact this
  have h4 : ∀ W : World, Calls Try.prog 33 #[.int .i64 8] W fun e w' => e = .returned (.int .u8 255) ∧ W = w' := by
    intro W
    have := ones_any 8 (by omega) W
    exact this
  have H3 := Lib.hid h3
  have H4 := Lib.hid h4
  clear h3 h4
  have hor : bits .or .u8 255 ((n : Int) / 256 / 256 / 256 / 256 / 256 / 256 / 256 / 256) = 255 + (n : Int) / 256 / 256 / 256 / 256 / 256 / 256 / 256 / 256 := by
    have e : (n : Int) / 256 / 256 / 256 / 256 / 256 / 256 / 256 / 256 = ((n / 18446744073709551616 : Nat) : Int) := by omega
    rw [e]
    exact (or_join 255 (n / 18446744073709551616) 0 (by omega) (by omega) (by omega) (by omega))
  have hmk : ∀ W : World, (Instr.makeSlice 45 (.int .i64 9) (.int .i64 9)).run Try.prog W = .ok (.slice (some ⟨W.heap.size, 0, none⟩) 9 9) (W.alloc (.cells #[.int .u8 0, .int .u8 0, .int .u8 0, .int .u8 0, .int .u8 0, .int .u8 0, .int .u8 0, .int .u8 0, .int .u8 0] 5 (0, 0))) := fun W => by kernel_rfl
  have hfin : numL n = [UInt8.ofNat (255 + n / 18446744073709551616), UInt8.ofNat (n / 72057594037927936 % 256), UInt8.ofNat (n / 281474976710656 % 256), UInt8.ofNat (n / 1099511627776 % 256), UInt8.ofNat (n / 4294967296 % 256), UInt8.ofNat (n / 16777216 % 256), UInt8.ofNat (n / 65536 % 256), UInt8.ofNat (n / 256 % 256), UInt8.ofNat (n / 1 % 256)] := by
    unfold numL; rw [hs]; simp [beL]
  have HF := Lib.hid hfin
  have HS := Lib.hid hs
  clear hs hfin
  go_enter Try.func29, Try.ntmps29
  go_wp2_with (go_at_call 34; refine (H3.out _).mono ?_; rintro e w' ⟨rfl, rfl⟩)
  refine wp_loop_rounds 9 ?_
  repeat any_goals (rw [rounds_succ]; go_wp2_with (go_at_call 33; refine (H4.out _).mono ?_; rintro e w' ⟨rfl, rfl⟩))
  rw [run_copy_cells _ 45 45 3 5 (w.heap.size + 1 + 1) 0 9 9 ⟨w.heap.size, 0, none⟩ 9 9 [.int .u8 (255 + (n : Int) / 256 / 256 / 256 / 256 / 256 / 256 / 256 / 256), .int .u8 ((n : Int) / 256 / 256 / 256 / 256 / 256 / 256 / 256), .int .u8 ((n : Int) / 256 / 256 / 256 / 256 / 256 / 256 % 256), .int .u8 ((n : Int) / 256 / 256 / 256 / 256 / 256 % 256), .int .u8 ((n : Int) / 256 / 256 / 256 / 256 % 256), .int .u8 ((n : Int) / 256 / 256 / 256 % 256), .int .u8 ((n : Int) / 256 / 256 % 256), .int .u8 ((n : Int) / 256 % 256), .int .u8 ((n : Int) % 256)]
    Try.underlying45 (by kernel_rfl) rfl ?c1 ?c2 ?c3 ?c4]
  case c1 =>
    intro j v h
    have hj : j < 9 := by
      have := (List.getElem?_eq_some_iff.1 h).1
      simpa using this
    have hj : j = 0 ∨ j = 1 ∨ j = 2 ∨ j = 3 ∨ j = 4 ∨ j = 5 ∨ j = 6 ∨ j = 7 ∨ j = 8 := by omega
    rcases hj with rfl | rfl | rfl | rfl | rfl | rfl | rfl | rfl | rfl
    all_goals
      simp only [List.getElem?_cons_zero, List.getElem?_cons_succ, Option.some.injEq] at h
      subst h
      simp only [Addr.add]
      go_simp
  case c2 =>
    intro j hj
    have hj : j = 0 ∨ j = 1 ∨ j = 2 ∨ j = 3 ∨ j = 4 ∨ j = 5 ∨ j = 6 ∨ j = 7 ∨ j = 8 := by simp at hj; omega
    rcases hj with rfl | rfl | rfl | rfl | rfl | rfl | rfl | rfl | rfl
    all_goals go_simp
  case c3 =>
    intro j hj
    go_simp
  case c4 =>
    intro v hv
    simp only [List.mem_cons, List.not_mem_nil, or_false] at hv
    rcases hv with rfl | rfl | rfl | rfl | rfl | rfl | rfl | rfl | rfl
    all_goals rfl
  simp only [World.setCells]
  go_simp
  go_wp2
  rw [conv_bytes _ 45 9 5 ⟨w.heap.size + 1 + 1, 0, none⟩ 9 9 [255 + (n : Int) / 256 / 256 / 256 / 256 / 256 / 256 / 256 / 256, (n : Int) / 256 / 256 / 256 / 256 / 256 / 256 / 256, (n : Int) / 256 / 256 / 256 / 256 / 256 / 256 % 256, (n : Int) / 256 / 256 / 256 / 256 / 256 % 256, (n : Int) / 256 / 256 / 256 / 256 % 256, (n : Int) / 256 / 256 / 256 % 256, (n : Int) / 256 / 256 % 256, (n : Int) / 256 % 256, (n : Int) % 256] (numS n)
    Try.underlying45 Try.underlying5 Try.underlying9 rfl ?d1 ?d2]
  case d1 =>
    intro j v h
    have hj : j < 9 := by
      have := (List.getElem?_eq_some_iff.1 h).1
      simpa using this
    have hj : j = 0 ∨ j = 1 ∨ j = 2 ∨ j = 3 ∨ j = 4 ∨ j = 5 ∨ j = 6 ∨ j = 7 ∨ j = 8 := by omega
    rcases hj with rfl | rfl | rfl | rfl | rfl | rfl | rfl | rfl | rfl
    all_goals
      simp only [List.map_cons, List.getElem?_cons_zero, List.getElem?_cons_succ, Option.some.injEq] at h
      subst h
      simp only [Addr.add]
      go_simp
  case d2 =>
    unfold numS
    rw [HF.out]
    simp only [List.map_cons, List.map_nil]
    refine congr (congrArg List.cons (congrArg UInt8.ofNat (by omega))) ?_ ;refine congr (congrArg List.cons (congrArg UInt8.ofNat (by omega))) ?_ ;refine congr (congrArg List.cons (congrArg UInt8.ofNat (by omega))) ?_ ;refine congr (congrArg List.cons (congrArg UInt8.ofNat (by omega))) ?_ ;refine congr (congrArg List.cons (congrArg UInt8.ofNat (by omega))) ?_ ;refine congr (congrArg List.cons (congrArg UInt8.ofNat (by omega))) ?_ ;refine congr (congrArg List.cons (congrArg UInt8.ofNat (by omega))) ?_ ;refine congr (congrArg List.cons (congrArg UInt8.ofNat (by omega))) ?_ ;refine congr (congrArg List.cons (congrArg UInt8.ofNat (by omega))) ?_ ; rfl
  go_wp2
  go_ret
  exact ⟨rfl, by go_grown⟩

theorem numBytes_any (n : Nat) (hn : n ≤ 18446744073709551615) (w : World) :
    Calls Try.prog 29 #[.int .u64 (n : Int)] w fun e w' => e = .returned (.string (numS n)) ∧ Below w.heap.size w w' := by
  by_cases h0 : n ≤ 127
  · exact numBytes_0 n (by omega) h0 w
  by_cases h1 : n ≤ 16383
  · exact numBytes_1 n (by omega) h1 w
  by_cases h2 : n ≤ 2097151
  · exact numBytes_2 n (by omega) h2 w
  by_cases h3 : n ≤ 268435455
  · exact numBytes_3 n (by omega) h3 w
  by_cases h4 : n ≤ 34359738367
  · exact numBytes_4 n (by omega) h4 w
  by_cases h5 : n ≤ 4398046511103
  · exact numBytes_5 n (by omega) h5 w
  by_cases h6 : n ≤ 562949953421311
  · exact numBytes_6 n (by omega) h6 w
  by_cases h7 : n ≤ 72057594037927935
  · exact numBytes_7 n (by omega) h7 w
  · exact numBytes_8 n (by omega) hn w
end Go.Proofs.Ythndmaeplnhmlaa
