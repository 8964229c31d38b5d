/- The second loop of CardKnown: many's abilities. -/
import Derived.Test.YtfhmadlobdklbaaDoorCardZp
import Derived.Deep.RegionLaw
import Derived.Deep.AppendLies
import Derived.Deep.RegionLawGrows
namespace Go.Proofs.YtfhmadlobdklbaaDoor
open Go.RowKit
set_option linter.unusedVariables false
set_option linter.unusedSimpArgs false

def labT : AbT := (⟨4, 0, 3, 0, 0, 0, 0, false, none, 0, 0, none, 0, 0, 4, 1, 1⟩, [], [])
theorem own_base {w : World} {B B' e size n : Nat} {v : Value} {xs : List Value} (h : w.ownsRow B' e size v n xs) (hB : B ≤ B') : w.ownsRow B e size v n xs := by
  refine ⟨h.1, ?_⟩
  rcases h.2 with h2 | ⟨g, c, cur, hv, hb, hh, rest⟩
  · exact .inl h2
  · exact .inr ⟨g, c, cur, hv, Nat.le_trans hB hb, hh, rest⟩
theorem BlkAt.add {w : World} {b : Nat} {l : List Value} {cs : Array Value} {T : TypeId} (h : BlkAt w b cs T) (hl : cs = l.toArray) (j : Nat) (u : Value) (hj : l[j]? = some u) : w.cell? ((⟨b, 0, none⟩ : Addr).add j) = some u := by
  rw [add_plain, Nat.zero_add, h.cell j, hl]
  simpa using hj
/-- many, after k rounds: its slice is lord's own at first, then a row of the call's. -/
def Mn (w : World) (mb : Nat) (k : Nat) (wq : World) : Prop :=
  St w wq ∧ w.heap.size + 6 < mb ∧ mb < wq.heap.size ∧
  ((k = 0 ∧ BlkAt wq mb #[.string ⟨#[98]⟩, .int .i64 2, .int .i64 0, .int .i64 0, .int .i64 0, .int .i64 0, .int .i64 0, .int .i64 2, .int .i64 2, .int .i64 0, .slice (some ⟨w.heap.size + 1 + 1 + 1 + 1, 0, none⟩) 1 1] 26) ∨
   (1 ≤ k ∧ ∃ g gc, g ≠ mb ∧ BlkAt wq mb #[.string ⟨#[98]⟩, .int .i64 2, .int .i64 0, .int .i64 0, .int .i64 0, .int .i64 0, .int .i64 0, .int .i64 2, .int .i64 2, .int .i64 0, .slice (some ⟨g, 0, none⟩) (k + 1) gc] 26 ∧ wq.ownsRow (mb + 1) 41 13 (.slice (some ⟨g, 0, none⟩) (k + 1) gc) (k + 1) (abRow (List.replicate (k + 1) labT))))
theorem st_app {w V w2 : World} {row : Option Nat} (hT : Tabs w) (s : St w V) (hg : V.grownBy w2 row) (hr : ∀ g, row = some g → w.heap.size + 6 < g) : St w w2 := by
  have hb : Below w.heap.size w w2 := s.2.2.grown hg s.2.2.size (fun g e => by have := hr g e; omega)
  obtain ⟨k0, k1, k2, k3, k4, k5, k6⟩ := s.2.1
  exact ⟨hT.next hb, ⟨k0.grown hg (fun e => by have := hr _ e; omega), k1.grown hg (fun e => by have := hr _ e; omega), k2.grown hg (fun e => by have := hr _ e; omega), k3.grown hg (fun e => by have := hr _ e; omega), k4.grown hg (fun e => by have := hr _ e; omega), k5.grown hg (fun e => by have := hr _ e; omega), k6.grown hg (fun e => by have := hr _ e; omega)⟩, hb⟩
theorem st_set {w W : World} (hT : Tabs w) (s : St w W) (mb i : Nat) (v : Value) (h : w.heap.size + 6 < mb) : St w (W.setCell ⟨mb, i, none⟩ v) := by
  have hb : Below w.heap.size w (W.setCell ⟨mb, i, none⟩ v) := s.2.2.setCell (p := ⟨mb, i, none⟩) (by show w.heap.size ≤ mb; omega) v
  obtain ⟨k0, k1, k2, k3, k4, k5, k6⟩ := s.2.1
  exact ⟨hT.next hb, ⟨k0.far _ v (by show mb ≠ _; omega), k1.far _ v (by show mb ≠ _; omega), k2.far _ v (by show mb ≠ _; omega), k3.far _ v (by show mb ≠ _; omega), k4.far _ v (by show mb ≠ _; omega), k5.far _ v (by show mb ≠ _; omega), k6.far _ v (by show mb ≠ _; omega)⟩, hb⟩
theorem many_reads {w V : World} {mb : Nat} (h : Mn w mb 4 V) : ∃ g gc, St w V ∧ mb < V.heap.size ∧ BlkAt V mb #[.string ⟨#[98]⟩, .int .i64 2, .int .i64 0, .int .i64 0, .int .i64 0, .int .i64 0, .int .i64 0, .int .i64 2, .int .i64 2, .int .i64 0, .slice (some ⟨g, 0, none⟩) 5 gc] 26 ∧ CdR V ⟨⟨#[98]⟩, 2, 0, 0, 0, 0, 0, 2, 2, 0, some ⟨g, 0, none⟩, 5, gc⟩ (List.replicate 5 labT) := by
  obtain ⟨hs, _, hm, ⟨h, _⟩ | ⟨_, g, gc, hg, hX, hO⟩⟩ := h
  · omega
  · obtain ⟨a, c, hv, hrow⟩ := own_row hO
    obtain ⟨rfl, rfl⟩ : some (⟨g, 0, none⟩ : Addr) = a ∧ gc = c := by
      injection hv with h1 h2 h3
      exact ⟨h1, h3⟩
    exact ⟨g, gc, hs, hm, hX, rfl, isA_row rfl (fun t ht => by rw [List.eq_of_mem_replicate ht]; exact ⟨⟨rfl, IsL.nil _⟩, rfl, IsC.nil _⟩) hrow⟩
theorem chk_many {w V : World} {g gc : Nat} (s : St w V) (h : CdR V ⟨⟨#[98]⟩, 2, 0, 0, 0, 0, 0, 2, 2, 0, some ⟨g, 0, none⟩, 5, gc⟩ (List.replicate 5 labT)) :
    Calls Tryd.prog 8 #[.agg #[.string ⟨#[98]⟩, .int .i64 2, .int .i64 0, .int .i64 0, .int .i64 0, .int .i64 0, .int .i64 0, .int .i64 2, .int .i64 2, .int .i64 0, .slice (some ⟨g, 0, none⟩) 5 gc], .int .i64 0] V fun e w' => e = .returned (.int .i64 3) ∧ Below V.heap.size V w' :=
  cardCheck_any ⟨⟨#[98]⟩, 2, 0, 0, 0, 0, 0, 2, 2, 0, some ⟨g, 0, none⟩, 5, gc⟩ (List.replicate 5 labT) 0 3 ((chkC_er _ _ _).symm.trans (by show chkC ⟨⟨#[98]⟩, 2, 0, 0, 0, 0, 0, 2, 2, 0, none, 5, 0⟩ (List.replicate 5 labT) 0 = 3; decide +kernel)) V h ⟨by show 1 ≤ maxLen; unfold maxLen; omega, by show In64 0; unfold In64; omega⟩ s.1
theorem lab_one : ∀ u ∈ ([.int .i64 4, .int .i64 0, .int .i64 3, .int .i64 0, .int .i64 0, .int .i64 0, .int .i64 0, .bool false, .slice none 0 0, .slice none 0 0, .int .i64 4, .int .i64 1, .int .i64 1] : List Value), u.oneCell' = true := by
  intro u hu
  simp only [List.mem_cons, List.not_mem_nil, or_false] at hu
  rcases hu with rfl | rfl | rfl | rfl | rfl | rfl | rfl | rfl | rfl | rfl | rfl | rfl | rfl <;> rfl
end Go.Proofs.YtfhmadlobdklbaaDoor
