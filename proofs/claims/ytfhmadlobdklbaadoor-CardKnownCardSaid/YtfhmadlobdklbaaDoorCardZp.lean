/- plain(1), told exactly: the world that it leaves. -/
import Derived.Test.YtfhmadlobdklbaaDoorCardZr
namespace Go.Proofs.YtfhmadlobdklbaaDoor
open Go.RowKit
set_option linter.unusedVariables false
set_option linter.unusedSimpArgs false

/-- The ability that plain(1) makes, its Targets and Code at blocks t and c. -/
def p1Ab (t c : Nat) : Ab := ⟨2, 0, 0, 0, 0, 0, 0, true, some ⟨t, 0, none⟩, 1, 1, some ⟨c, 0, none⟩, 2, 2, 0, 0, 0⟩
/-- The card that plain(1) makes, its abilities at block b. -/
def p1Cd (b : Nat) : Cd := ⟨⟨#[97]⟩, 1, 0, 0, 0, 0, 2, 0, 0, 0, some ⟨b, 0, none⟩, 1, 1⟩
/-- What plain(1) leaves: three blocks known whole: the ability, its Targets, its Code. -/
def P1 (w w' : World) (b t c : Nat) : Prop :=
  w.heap.size ≤ t ∧ w.heap.size ≤ c ∧ w.heap.size ≤ b ∧ t ≠ b ∧ c ≠ b ∧
  BlkAt w' b #[.int .i64 2, .int .i64 0, .int .i64 0, .int .i64 0, .int .i64 0, .int .i64 0, .int .i64 0, .bool true, .slice (some ⟨t, 0, none⟩) 1 1, .slice (some ⟨c, 0, none⟩) 2 2, .int .i64 0, .int .i64 0, .int .i64 0] 41 ∧
  BlkAt w' t #[.int .i64 3] 3 ∧
  BlkAt w' c #[.int .i64 1, .int .i64 1, .int .i64 0, .int .i64 10, .int .i64 0, .int .i64 0] 53 ∧
  Below w.heap.size w w'
set_option maxRecDepth 100000 in
set_option maxHeartbeats 4000000 in
theorem plain_1x (w : World) :
    Calls Tryd.prog 11 #[.int .i64 1] w fun e w' => ∃ b t c, e = .returned (.agg #[.string ⟨#[97]⟩, .int .i64 1, .int .i64 0, .int .i64 0, .int .i64 0, .int .i64 0, .int .i64 2, .int .i64 0, .int .i64 0, .int .i64 0, .slice (some ⟨b, 0, none⟩) 1 1]) ∧ P1 w w' b t c := by
  have HO := Lib.hid (show P1 w (((((w.alloc (.cells #[.string ⟨#[97]⟩, .int .i64 1, .int .i64 0, .int .i64 0, .int .i64 0, .int .i64 0, .int .i64 2, .int .i64 0, .int .i64 0, .int .i64 0, .slice (some ⟨w.heap.size + 1 + 1 + 1 + 1, 0, none⟩) 1 1] 26)).alloc (.cells #[.string ⟨#[97]⟩, .int .i64 1, .int .i64 0, .int .i64 0, .int .i64 0, .int .i64 0, .int .i64 2, .int .i64 0, .int .i64 0, .int .i64 0, .slice (some ⟨w.heap.size + 1 + 1 + 1 + 1, 0, none⟩) 1 1] 26)).alloc (.cells #[.int .i64 3] 3)).alloc (.cells #[.int .i64 1, .int .i64 1, .int .i64 0, .int .i64 10, .int .i64 0, .int .i64 0] 53)).alloc (.cells #[.int .i64 2, .int .i64 0, .int .i64 0, .int .i64 0, .int .i64 0, .int .i64 0, .int .i64 0, .bool true, .slice (some ⟨w.heap.size + 1 + 1, 0, none⟩) 1 1, .slice (some ⟨w.heap.size + 1 + 1 + 1, 0, none⟩) 2 2, .int .i64 0, .int .i64 0, .int .i64 0] 41))
      (w.heap.size + 1 + 1 + 1 + 1) (w.heap.size + 1 + 1) (w.heap.size + 1 + 1 + 1) from
    ⟨by omega, by omega, by omega, by omega, by omega, blkAt_here _ _ _ _ (by simp), ((blkAt_here _ _ _ _ (by simp)).up _).up _, (blkAt_here _ _ _ _ (by simp)).up _, (((((Below.refl _ w).alloc (by simp <;> omega) _).alloc (by simp <;> omega) _).alloc (by simp <;> omega) _).alloc (by simp <;> omega) _).alloc (by simp <;> omega) _⟩)
  go_enter Tryd.func11, Tryd.ntmps11
  go_wp2_with fail
  exact bodyPost_ret (v := .agg #[.string ⟨#[97]⟩, .int .i64 1, .int .i64 0, .int .i64 0, .int .i64 0, .int .i64 0, .int .i64 2, .int .i64 0, .int .i64 0, .int .i64 0, .slice (some ⟨w.heap.size + 1 + 1 + 1 + 1, 0, none⟩) 1 1]) (by simp [results, Tryd.results11, go_sem]) rfl ⟨_, _, _, rfl, HO.out⟩
end Go.Proofs.YtfhmadlobdklbaaDoor
