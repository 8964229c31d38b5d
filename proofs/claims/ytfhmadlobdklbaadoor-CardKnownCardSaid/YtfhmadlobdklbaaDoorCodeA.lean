/- Functions that ask a number: between, exactly, oneOf and what they hand back. -/
import Derived.Test.YtfhmadlobdklbaaDoorProg
import Derived.WalkKit
import Derived.WalkSpells
import Derived.WalkLawsBesides
import Derived.Lib.Hide
import Derived.BigQuiet
import Derived.Deep.QuietTactic
import Derived.RegionTactic
import Derived.ChangeAlike
import Derived.Maps.OwnSet
namespace Go.Proofs.YtfhmadlobdklbaaDoor
open Go.RowKit
set_option linter.unusedVariables false
set_option linter.unusedSimpArgs false

theorem below_then' {B : Nat} {a b c : World} (h : Below B a b) (k : Below b.heap.size b c) (hb : B ≤ b.heap.size) : Below B a c := h.trans (k.mono hb)
theorem below_draws {B : Nat} {a w : World} (h : Below B a w) (n : Nat) : Below B a (w.drewN n) := h.trans ⟨rfl, rfl, rfl, Nat.le_refl _, fun _ _ => rfl⟩
theorem below_alloc1 (w : World) (a : Obj) : Below w.heap.size w (w.alloc a) := (Below.refl _ w).alloc (Nat.le_refl _) a
theorem below_alloc2 (w : World) (a b : Obj) : Below w.heap.size w ((w.alloc a).alloc b) := ((Below.refl _ w).alloc (Nat.le_refl _) a).alloc (by simp) b
theorem heap_two (w : World) (a b : Obj) : ((w.alloc a).alloc b).heap[w.heap.size + 1]? = some b := by
  have h := heap_alloc_new (w.alloc a) b
  simpa using h
theorem heap_one (w : World) (a b : Obj) : ((w.alloc a).alloc b).heap[w.heap.size]? = some a := (heap_alloc_old (w.alloc a) b (by simp)).trans (heap_alloc_new w a)
theorem bool_ret {a b : Bool} (h : a = b) : Ending.returned (.bool a) = .returned (.bool b) := by rw [h]

/-- From lo to hi. -/
def btw (lo hi n : Int) : Bool := decide (lo ≤ n) && decide (n ≤ hi)
/-- In w, and in whatever grows of it, the function k over cs tells p. -/
def Asks (w : World) (k : Nat) (cs : Array Value) (p : Int → Bool) : Prop :=
  (k = 43 ∨ k = 48) ∧ ∀ W, Below w.heap.size w W → ∀ n : Int, Calls Tryd.prog k (#[.int .i64 n] ++ cs) W fun e W' => e = .returned (.bool (p n)) ∧ W = W'
theorem Asks.next {w w' : World} {k : Nat} {cs : Array Value} {p : Int → Bool} (h : Asks w k cs p) (b : Below w.heap.size w w') : Asks w' k cs p :=
  ⟨h.1, fun W hW n => h.2 W (below_then' b hW b.size) n⟩
theorem btw_any (lo hi n : Int) (b1 b2 : Nat) (w : World) (h1 : w.cell? ⟨b1, 0, none⟩ = some (.int .i64 lo)) (h2 : w.cell? ⟨b2, 0, none⟩ = some (.int .i64 hi)) :
    Calls Tryd.prog 43 #[.int .i64 n, .pointer (some ⟨b1, 0, none⟩), .pointer (some ⟨b2, 0, none⟩)] w fun e w' => e = .returned (.bool (btw lo hi n)) ∧ w = w' := by
  by_cases a : lo ≤ n
  · by_cases b : n ≤ hi
    · go_enter Tryd.func43, Tryd.ntmps43
      go_wp2
      go_ret
      exact ⟨bool_ret (by simp [btw, a, b]), rfl⟩
    · go_enter Tryd.func43, Tryd.ntmps43
      go_wp2
      go_ret
      exact ⟨bool_ret (by simp [btw, a, b]), rfl⟩
  · go_enter Tryd.func43, Tryd.ntmps43
    go_wp2
    go_ret
    exact ⟨bool_ret (by simp [btw]; omega), rfl⟩
theorem between_any (lo hi : Int) (w : World) :
    Calls Tryd.prog 41 #[.int .i64 lo, .int .i64 hi] w fun e w' => ∃ k cs, e = .returned (.func (.func k) #[] cs) ∧ Asks w' k cs (btw lo hi) ∧ Below w.heap.size w w' := by
  have hb := below_alloc2 w (.cells #[.int .i64 lo] 3) (.cells #[.int .i64 hi] 3)
  have h1 := heap_one w (.cells #[.int .i64 lo] 3) (.cells #[.int .i64 hi] 3)
  have h2 := heap_two w (.cells #[.int .i64 lo] 3) (.cells #[.int .i64 hi] 3)
  have HB := Lib.hid hb
  have HA := Lib.hid (show Asks ((w.alloc (.cells #[.int .i64 lo] 3)).alloc (.cells #[.int .i64 hi] 3)) 43 #[.pointer (some ⟨w.heap.size, 0, none⟩), .pointer (some ⟨w.heap.size + 1, 0, none⟩)] (btw lo hi) from
    ⟨.inl rfl, fun W hW n => btw_any lo hi n _ _ W ((hW.cell (p := ⟨w.heap.size, 0, none⟩) (by simp; omega)).trans (cell_of_one h1)) ((hW.cell (p := ⟨w.heap.size + 1, 0, none⟩) (by simp)).trans (cell_of_one h2))⟩)
  clear hb h1 h2
  go_enter Tryd.func41, Tryd.ntmps41
  go_wp2
  go_ret
  exact ⟨_, _, rfl, HA.out, HB.out⟩
theorem exactly_any (n : Int) (w : World) :
    Calls Tryd.prog 44 #[.int .i64 n] w fun e w' => ∃ k cs, e = .returned (.func (.func k) #[] cs) ∧ Asks w' k cs (btw n n) ∧ Below w.heap.size w w' := by
  go_enter Tryd.func44, Tryd.ntmps44
  go_wp2_with (go_at_call 41; refine (between_any _ _ _).mono ?_; rintro e w' ⟨k, cs, rfl, ha, hb⟩)
  go_ret
  exact ⟨_, _, rfl, ha, hb⟩
/-- An ask: its function, over what, and what it tells. -/
abbrev Ask := Nat × Array Value × (Int → Bool)
def askV (q : Ask) : Value := .func (.func q.1) #[] q.2.1
/-- The row of block g, from its first cell on, is these asks. -/
def AskRow (w : World) (g : Nat) (Q : List Ask) : Prop := g < w.heap.size ∧ ∀ j (h : j < Q.length), w.cell? ⟨g, j, none⟩ = some (askV Q[j]) ∧ Asks w Q[j].1 Q[j].2.1 Q[j].2.2
theorem AskRow.next {w w' : World} {g : Nat} {Q : List Ask} (h : AskRow w g Q) (b : Below w.heap.size w w') : AskRow w' g Q :=
  ⟨Nat.lt_of_lt_of_le h.1 b.size, fun j hj => ⟨(b.cell (p := ⟨g, j, none⟩) h.1).trans (h.2 j hj).1, (h.2 j hj).2.next b⟩⟩
def anyOf (Q : List Ask) (n : Int) : Bool := Q.any fun q => q.2.2 n
set_option maxHeartbeats 1000000 in
theorem anyOf_any (n : Int) (Q : List Ask) (g c bx : Nat) (w : World) (hx : w.cell? ⟨bx, 0, none⟩ = some (.slice (some ⟨g, 0, none⟩) Q.length c)) (hQ : AskRow w g Q) (hl : Q.length ≤ 100) :
    Calls Tryd.prog 48 #[.int .i64 n, .pointer (some ⟨bx, 0, none⟩)] w fun e w' => e = .returned (.bool (anyOf Q n)) ∧ w = w' := by
  have HQ := Lib.hid hQ
  clear hQ
  obtain ⟨r, hr⟩ : ∃ r, r = anyOf Q n := ⟨_, rfl⟩
  rw [← hr]
  have HR := Lib.hid hr
  clear hr
  go_enter Tryd.func48, Tryd.ntmps48
  go_wp2_with fail
  go_loop [8] (fun q => ∃ k : Nat, q = .int .i64 (k : Int) ∧ k ≤ Q.length ∧ ∀ j (h : j < Q.length), j < k → Q[j].2.2 n = false) (fun q => Q.length - (intOf q).toNat)
  case atStart => exact ⟨0, rfl, Nat.zero_le _, fun j _ hj => by omega⟩
  case round =>
    obtain ⟨k, rfl, hk, hn⟩ := hrel
    have HN := Lib.hid hn
    clear hn
    by_cases hlt : k < Q.length
    · obtain ⟨hc, ha⟩ := HQ.out.2 k hlt
      obtain ⟨x, hx'⟩ : ∃ x, x = Q[k] := ⟨_, rfl⟩
      rw [← hx'] at hc ha
      have HX := Lib.hid hx'
      clear hx'
      obtain ⟨f, cs, p⟩ := x
      have HC := Lib.hid (fun W hW => ha.2 W hW n)
      unfold askV at hc
      have hf : f = 43 ∨ f = 48 := ha.1
      clear ha
      cases hp : p n
      · rcases hf with rfl | rfl
        all_goals
          go_wp2_with fail
          refine (HC.out _ (Below.refl _ _)).mono ?_
          rintro e w' ⟨rfl, rfl⟩
          go_wp2_with fail
          exact ⟨⟨k + 1, by go_num, by omega, fun j h1 h2 => by
            by_cases hjk : j = k
            · subst hjk; rw [← HX.out]; exact hp
            · exact HN.out j h1 (by omega)⟩, by simp [intOf]; omega⟩
      · rcases hf with rfl | rfl
        all_goals
          go_wp2_with fail
          refine (HC.out _ (Below.refl _ _)).mono ?_
          rintro e w' ⟨rfl, rfl⟩
          go_wp2_with fail
          go_ret
          exact ⟨bool_ret (by rw [HR.out]; unfold anyOf; exact (List.any_eq_true.2 ⟨_, List.getElem_mem hlt, by rw [← HX.out]; exact hp⟩).symm), rfl⟩
    · go_wp2_with fail
      go_ret
      refine ⟨bool_ret ?_, rfl⟩
      rw [HR.out]
      unfold anyOf
      refine (Bool.eq_false_iff.2 fun h => ?_).symm
      obtain ⟨q, hq, ht⟩ := List.any_eq_true.1 h
      obtain ⟨j, hj, rfl⟩ := List.getElem_of_mem hq
      rw [HN.out j hj (by omega)] at ht
      cases ht
theorem oneOf_any (Q : List Ask) (g c : Nat) (w : World) (hQ : AskRow w g Q) (hl : Q.length ≤ 100) :
    Calls Tryd.prog 45 #[.slice (some ⟨g, 0, none⟩) Q.length c] w fun e w' => ∃ k cs, e = .returned (.func (.func k) #[] cs) ∧ Asks w' k cs (anyOf Q) ∧ Below w.heap.size w w' := by
  have hb := below_alloc1 w (.cells #[.slice (some ⟨g, 0, none⟩) Q.length c] 84)
  have h1 := heap_alloc_new w (.cells #[.slice (some ⟨g, 0, none⟩) Q.length c] 84)
  have HB := Lib.hid hb
  have HA := Lib.hid (show Asks (w.alloc (.cells #[.slice (some ⟨g, 0, none⟩) Q.length c] 84)) 48 #[.pointer (some ⟨w.heap.size, 0, none⟩)] (anyOf Q) from
    ⟨.inr rfl, fun W hW n => anyOf_any n Q g c _ W ((hW.cell (p := ⟨w.heap.size, 0, none⟩) (by simp)).trans (cell_of_one h1)) ((hQ.next hb).next hW) hl⟩)
  clear hb h1 hQ
  go_enter Tryd.func45, Tryd.ntmps45
  go_wp2
  go_ret
  exact ⟨_, _, rfl, HA.out, HB.out⟩
theorem Asks.of {w : World} {k : Nat} {cs : Array Value} {p q : Int → Bool} (h : Asks w k cs p) (e : ∀ n, p n = q n) : Asks w k cs q := by rw [← funext e]; exact h
/-- What was made on the way from w0 on, and still tells what it told. -/
def Held (w0 w : World) (L : List Ask) : Prop := Below w0.heap.size w0 w ∧ ∀ q ∈ L, Asks w q.1 q.2.1 q.2.2
theorem Held.nil (w : World) : Held w w [] := ⟨Below.refl _ _, fun q hq => by cases hq⟩
theorem Held.next {w0 w w' : World} {L : List Ask} (h : Held w0 w L) (b : Below w.heap.size w w') : Held w0 w' L := ⟨below_then' h.1 b h.1.size, fun q hq => (h.2 q hq).next b⟩
theorem Held.more {w0 w w' : World} {L : List Ask} (h : Held w0 w L) {k : Nat} {cs : Array Value} {p : Int → Bool} (a : Asks w' k cs p) (b : Below w.heap.size w w') : Held w0 w' ((k, cs, p) :: L) :=
  ⟨(h.next b).1, fun q hq => by
    rcases List.mem_cons.1 hq with rfl | hq
    · exact a
    · exact (h.next b).2 q hq⟩
theorem between_step {w0 w : World} {L : List Ask} (h : Held w0 w L) (lo hi : Int) :
    Calls Tryd.prog 41 #[.int .i64 lo, .int .i64 hi] w fun e w' => ∃ k cs, e = .returned (.func (.func k) #[] cs) ∧ Held w0 w' ((k, cs, btw lo hi) :: L) :=
  (between_any lo hi w).mono fun e w' ⟨k, cs, he, ha, hb⟩ => ⟨k, cs, he, h.more ha hb⟩
theorem exactly_step {w0 w : World} {L : List Ask} (h : Held w0 w L) (n : Int) :
    Calls Tryd.prog 44 #[.int .i64 n] w fun e w' => ∃ k cs, e = .returned (.func (.func k) #[] cs) ∧ Held w0 w' ((k, cs, btw n n) :: L) :=
  (exactly_any n w).mono fun e w' ⟨k, cs, he, ha, hb⟩ => ⟨k, cs, he, h.more ha hb⟩
theorem askRow_new {w0 w : World} {L : List Ask} (h : Held w0 w L) (Q : List Ask) (hQ : ∀ q ∈ Q, q ∈ L) (xs : Array Value) (hx : xs = (Q.map askV).toArray) : AskRow (w.alloc (.cells xs 67)) w.heap.size Q := by
  refine ⟨by simp, fun j hj => ⟨?_, (h.2 _ (hQ _ (List.getElem_mem hj))).next (below_alloc1 _ _)⟩⟩
  rw [World.cell?_alloc_new, hx]
  simp [hj]
theorem oneOf2_step {w0 w : World} {L : List Ask} (h : Held w0 w L) {k1 k2 : Nat} {c1 c2 : Array Value} {p1 p2 : Int → Bool} (h1 : (k1, c1, p1) ∈ L) (h2 : (k2, c2, p2) ∈ L) :
    Calls Tryd.prog 45 #[.slice (some ⟨w.heap.size, 0, none⟩) 2 2] (w.alloc (.cells #[.func (.func k1) #[] c1, .func (.func k2) #[] c2] 67)) fun e w' => ∃ k cs, e = .returned (.func (.func k) #[] cs) ∧ Held w0 w' ((k, cs, fun n => p1 n || p2 n) :: L) :=
  (oneOf_any [(k1, c1, p1), (k2, c2, p2)] w.heap.size 2 _ (askRow_new h _ (by simp [h1, h2]) _ rfl) (by simp)).mono fun e w' ⟨k, cs, he, ha, hb⟩ => ⟨k, cs, he, (h.next (below_alloc1 _ _)).more (ha.of fun n => by simp [anyOf]) hb⟩
theorem oneOf3_step {w0 w : World} {L : List Ask} (h : Held w0 w L) {k1 k2 k3 : Nat} {c1 c2 c3 : Array Value} {p1 p2 p3 : Int → Bool} (h1 : (k1, c1, p1) ∈ L) (h2 : (k2, c2, p2) ∈ L) (h3 : (k3, c3, p3) ∈ L) :
    Calls Tryd.prog 45 #[.slice (some ⟨w.heap.size, 0, none⟩) 3 3] (w.alloc (.cells #[.func (.func k1) #[] c1, .func (.func k2) #[] c2, .func (.func k3) #[] c3] 67)) fun e w' => ∃ k cs, e = .returned (.func (.func k) #[] cs) ∧ Held w0 w' ((k, cs, fun n => p1 n || (p2 n || p3 n)) :: L) :=
  (oneOf_any [(k1, c1, p1), (k2, c2, p2), (k3, c3, p3)] w.heap.size 3 _ (askRow_new h _ (by simp [h1, h2, h3]) _ rfl) (by simp)).mono fun e w' ⟨k, cs, he, ha, hb⟩ => ⟨k, cs, he, (h.next (below_alloc1 _ _)).more (ha.of fun n => by simp [anyOf]) hb⟩
end Go.Proofs.YtfhmadlobdklbaaDoor
