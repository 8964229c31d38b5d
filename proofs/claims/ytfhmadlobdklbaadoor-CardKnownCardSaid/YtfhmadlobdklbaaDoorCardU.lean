/- works. -/
import Derived.Test.YtfhmadlobdklbaaDoorCardT
namespace Go.Proofs.YtfhmadlobdklbaaDoor
open Go.RowKit
set_option linter.unusedVariables false
set_option linter.unusedSimpArgs false

theorem all_map {α β : Type} (f : β → Bool) (g : α → β) (A : List α) : (A.map g).all f = A.all fun x => f (g x) := by
  induction A with
  | nil => rfl
  | cons a A ih => simp [ih]
theorem any_map {α β : Type} (f : β → Bool) (g : α → β) (A : List α) : (A.map g).any f = A.any fun x => f (g x) := by
  induction A with
  | nil => rfl
  | cons a A ih => simp [ih]
/-- Addresses are not asked. -/
theorem chkC_er (y : Cd) (A : List AbT) (cards : Int) : chkC (erC y) (A.map erT) cards = chkC y A cards := by
  have h1 : longB (erC y) (A.map erT) = longB y A := by rw [longB, any_map]; rfl
  have h3 : canB ((erC y).k == 3) (A.map erT) cards = canB (y.k == 3) A cards := by rw [canB, all_map, List.length_map]; rfl
  rw [chkC, chkC, h1, h3]
  rfl
theorem chk_of {y : Cd} {A : List AbT} {p : Cd × List AbT} (h1 : erC y = p.1) (h2 : A.map erT = p.2) (cards : Int) : chkC y A cards = chkC p.1 p.2 cards := by
  rw [← h1, ← h2, chkC_er]
theorem plain_ok (k : Nat) (h1 : 1 ≤ k) (h4 : k ≤ 4) : chkC (pC k) (pA k) 2 = 0 := by
  obtain rfl | rfl | rfl | rfl : k = 1 ∨ k = 2 ∨ k = 3 ∨ k = 4 := by omega
  all_goals decide +kernel
set_option maxRecDepth 100000 in
set_option maxHeartbeats 2000000 in
theorem works_any (w : World) (hT : Tabs w) :
    Calls Tryd.prog 10 #[] w fun e w' => e = .returned (.bool true) ∧ Below w.heap.size w w' := by
  have HT := Lib.hid hT
  clear hT
  go_enter Tryd.func10, Tryd.ntmps10
  go_wp2_with fail
  go_loopw [1] (fun q wr => ∃ k : Nat, q = .int .i64 (k : Int) ∧ 1 ≤ k ∧ k ≤ 5 ∧ Below w.heap.size w wr) (fun q _ => 5 - (intOf q).toNat)
  case atStart => exact ⟨1, rfl, by omega, by omega, Below.refl _ _⟩
  case round =>
    obtain ⟨k, rfl, hk1, hk5, hbw⟩ := hrel
    have HW := Lib.hid hbw
    clear hbw
    by_cases hlt : k ≤ 4
    · go_wp2_with fail
      refine (plain_any k hk1 hlt (fun _ => False) _ (fun _ h => h.elim)).mono ?_
      rintro e w1 ⟨y, A, rfl, hr, ho, he1, he2, hb⟩
      have HB1 := Lib.hid (below_then' HW.out hb HW.out.size)
      have HC := Lib.hid (cardCheck_any y A 2 0 ((chk_of he1 he2 2).trans (plain_ok k hk1 hlt)) w1 hr.now ho (HT.out.next HB1.out))
      clear hr ho he1 he2 hb
      go_wp2_with fail
      refine HC.out.mono ?_
      rintro e w2 ⟨rfl, hb⟩
      have HB2 := Lib.hid (below_then' HB1.out hb HB1.out.size)
      clear hb
      go_wp2_with fail
      go_roundw
      case rel => exact ⟨k + 1, by go_num, by omega, by omega, HB2.out⟩
      case measure => simp [intOf]; omega
    · have HC := Lib.hid (cardCheck_any ⟨⟨#[]⟩, 0, 0, 0, 0, 0, 0, 0, 0, 0, none, 0, 0⟩ [] 2 10 (by decide +kernel) wr ⟨rfl, IsA.nil _⟩ ⟨by show 0 ≤ maxLen; omega, by show In64 0; unfold In64; omega⟩ (HT.out.next HW.out))
      go_wp2_with fail
      refine HC.out.mono ?_
      rintro e w2 ⟨rfl, hb⟩
      have HB2 := Lib.hid (below_then' HW.out hb HW.out.size)
      clear hb
      go_wp2_with fail
      go_ret
      exact ⟨rfl, HB2.out⟩
end Go.Proofs.YtfhmadlobdklbaaDoor
