/- The sort of a number: the closure's answer, and the first sort with room. -/
import Derived.Test.YthndmaeplnhmlaaWireA
namespace Go.Proofs.Ythndmaeplnhmlaa
open Go.RowKit
set_option linter.unusedVariables false

/-- Is there room for n in sort k? -/
def roomB (n k : Nat) : Bool := decide (k = 8) || decide (n < 2 ^ (7 + 7 * k))
/-- The first sort with room. -/
def sortN (n : Nat) : Nat :=
  if n < 128 then 0 else if n < 16384 then 1 else if n < 2097152 then 2 else if n < 268435456 then 3 else if n < 34359738368 then 4
  else if n < 4398046511104 then 5 else if n < 562949953421312 then 6 else if n < 72057594037927936 then 7 else 8
theorem sortN_le (n : Nat) : sortN n ≤ 8 := by
  unfold sortN; repeat' split
  all_goals omega
theorem roomB_sortN (n : Nat) : roomB n (sortN n) = true := by
  unfold sortN; repeat' split
  all_goals (simp [roomB]; try omega)
theorem roomB_lt (n k : Nat) (h : k < sortN n) : roomB n k = false := by
  have h8 := sortN_le n
  have hk : k = 0 ∨ k = 1 ∨ k = 2 ∨ k = 3 ∨ k = 4 ∨ k = 5 ∨ k = 6 ∨ k = 7 := by omega
  unfold sortN at h
  repeat' split at h
  all_goals
    rcases hk with rfl | rfl | rfl | rfl | rfl | rfl | rfl | rfl
    all_goals (first | omega | (simp [roomB]; omega))

theorem ret_bool {a b : Bool} (h : a = b) : Ending.returned (.bool a) = .returned (.bool b) := by rw [h]
theorem ret_int {k : IntKind} {a b : Int} (h : a = b) : Ending.returned (.int k a) = .returned (.int k b) := by rw [h]

set_option maxHeartbeats 400000 in
theorem room_at (n : Nat) (hn : n ≤ 18446744073709551615) (b : Nat) (k : Nat) (hk : k ≤ 8) (w : World) (hc : w.cell? ⟨b, 0, none⟩ = some (.int .u64 (n : Int))) :
    Calls Try.prog 41 #[.int .i64 (k : Int), .pointer (some ⟨b, 0, none⟩)] w fun e w' => e = .returned (.bool (roomB n k)) ∧ w = w' := by
  have h : k = 0 ∨ k = 1 ∨ k = 2 ∨ k = 3 ∨ k = 4 ∨ k = 5 ∨ k = 6 ∨ k = 7 ∨ k = 8 := by omega
  rcases h with rfl | rfl | rfl | rfl | rfl | rfl | rfl | rfl | rfl
  all_goals
    go_enter Try.func41, Try.ntmps41
    go_wp2
    go_ret
    exact ⟨ret_bool (by rw [Bool.eq_iff_iff]; simp [roomB]; try omega), rfl⟩
theorem room_yes (n : Nat) (hn : n ≤ 18446744073709551615) (b : Nat) (k : Nat) (hk : k ≤ 8) (w : World) (hc : w.cell? ⟨b, 0, none⟩ = some (.int .u64 (n : Int))) (h : roomB n k = true) :
    Calls Try.prog 41 #[.int .i64 (k : Int), .pointer (some ⟨b, 0, none⟩)] w fun e w' => e = .returned (.bool true) ∧ w = w' :=
  (room_at n hn b k hk w hc).mono fun _ _ hh => by rw [h] at hh; exact hh
theorem room_no (n : Nat) (hn : n ≤ 18446744073709551615) (b : Nat) (k : Nat) (hk : k ≤ 8) (w : World) (hc : w.cell? ⟨b, 0, none⟩ = some (.int .u64 (n : Int))) (h : roomB n k = false) :
    Calls Try.prog 41 #[.int .i64 (k : Int), .pointer (some ⟨b, 0, none⟩)] w fun e w' => e = .returned (.bool false) ∧ w = w' :=
  (room_at n hn b k hk w hc).mono fun _ _ hh => by rw [h] at hh; exact hh

set_option maxHeartbeats 400000 in
theorem sortOf_any (n : Nat) (hn : n ≤ 18446744073709551615) (w : World) :
    Calls Try.prog 34 #[.int .u64 (n : Int)] w fun e w' => e = .returned (.int .i64 (sortN n : Nat)) ∧ w.alloc (.cells #[.int .u64 (n : Int)] 22 (0, 0)) = w' := by
  have hs := sortN_le n
  go_enter Try.func34, Try.ntmps34
  go_wp2
  go_outline
  go_loop [4] (fun s => ∃ k : Nat, k ≤ sortN n ∧ s = .int .i64 k) (fun s => 8 - (intOf s).toNat)
  case atStart => exact ⟨0, Nat.zero_le _, rfl⟩
  case round =>
    obtain ⟨k, hk, rfl⟩ := hrel
    by_cases hlt : k < sortN n
    · have hr := roomB_lt n k hlt
      go_wp2_with (go_at_call 41; refine (room_no n hn _ k (by omega) _ (by simp) hr).mono ?_; rintro e w' ⟨rfl, rfl⟩)
      go_round
      case rel => exact ⟨k + 1, by omega, by go_num⟩
      case measure => simp [intOf]; omega
    · obtain rfl : k = sortN n := by omega
      have hr := roomB_sortN n
      go_wp2_with (go_at_call 41; refine (room_yes n hn _ _ (by omega) _ (by simp) hr).mono ?_; rintro e w' ⟨rfl, rfl⟩)
      go_ret
      exact ⟨rfl, rfl⟩
end Go.Proofs.Ythndmaeplnhmlaa
