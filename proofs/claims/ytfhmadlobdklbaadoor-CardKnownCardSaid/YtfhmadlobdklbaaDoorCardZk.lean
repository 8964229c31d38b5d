/- The walk of CardKnown: the cards that it makes first, and what Check tells of them. -/
import Derived.Test.YtfhmadlobdklbaaDoorCardZo
import Derived.StillTailTactics
namespace Go.Proofs.YtfhmadlobdklbaaDoor
open Go.RowKit
set_option linter.unusedVariables false
set_option linter.unusedSimpArgs false

theorem BlkAt.up {w : World} {b : Nat} {cs : Array Value} {T : TypeId} (h : BlkAt w b cs T) (o : Obj) : BlkAt (w.alloc o) b cs T := h.next (below_alloc1 w o)
theorem blkAt_here (w : World) (cs : Array Value) (T : TypeId) (b : Nat) (hb : b = w.heap.size) : BlkAt (w.alloc (.cells cs T)) b cs T := by
  subst hb
  exact blkAt_new w cs T
theorem BlkAt.lit {w : World} {b : Nat} {cs : Array Value} {T : TypeId} (h : BlkAt w b cs T) (l : List Value) (hl : cs = l.toArray) : LitAt w b l :=
  ⟨h.lt, fun i hi => by rw [h.cell i, hl]; simp⟩

/-- The cards that were made first. -/
def Kn (n : Nat) (W : World) : Prop :=
  BlkAt W (n) #[.string ⟨#[97]⟩, .int .i64 1, .int .i64 0, .int .i64 0, .int .i64 0, .int .i64 0, .int .i64 1, .int .i64 0, .int .i64 0, .int .i64 0, .slice none 0 0] 26 ∧
  BlkAt W (n + 1) #[.string ⟨#[97]⟩, .int .i64 1, .int .i64 0, .int .i64 0, .int .i64 0, .int .i64 1, .int .i64 1, .int .i64 0, .int .i64 0, .int .i64 0, .slice none 0 0] 26 ∧
  BlkAt W (n + 1 + 1) #[.string ⟨#[]⟩, .int .i64 1, .int .i64 0, .int .i64 0, .int .i64 0, .int .i64 0, .int .i64 1, .int .i64 0, .int .i64 0, .int .i64 0, .slice none 0 0] 26 ∧
  BlkAt W (n + 1 + 1 + 1) #[.string ⟨#[49, 50, 51, 52, 53, 54, 55, 56, 57, 48, 49, 50, 51, 52, 53, 54, 55]⟩, .int .i64 1, .int .i64 0, .int .i64 0, .int .i64 0, .int .i64 0, .int .i64 1, .int .i64 0, .int .i64 0, .int .i64 0, .slice none 0 0] 26 ∧
  BlkAt W (n + 1 + 1 + 1 + 1) #[.int .i64 4, .int .i64 0, .int .i64 3, .int .i64 0, .int .i64 0, .int .i64 0, .int .i64 0, .bool false, .slice none 0 0, .slice none 0 0, .int .i64 4, .int .i64 1, .int .i64 1] 41 ∧
  BlkAt W (n + 1 + 1 + 1 + 1 + 1) #[.string ⟨#[98]⟩, .int .i64 2, .int .i64 0, .int .i64 0, .int .i64 0, .int .i64 0, .int .i64 0, .int .i64 2, .int .i64 2, .int .i64 0, .slice (some ⟨n + 1 + 1 + 1 + 1, 0, none⟩) 1 1] 26 ∧
  BlkAt W (n + 1 + 1 + 1 + 1 + 1 + 1) #[.string ⟨#[99]⟩, .int .i64 3, .int .i64 0, .int .i64 0, .int .i64 0, .int .i64 0, .int .i64 0, .int .i64 0, .int .i64 0, .int .i64 0, .slice none 0 0] 26
theorem Kn.next {n : Nat} {w w' : World} (h : Kn n w) (k : Below w.heap.size w w') : Kn n w' :=
  ⟨h.1.next k, h.2.1.next k, h.2.2.1.next k, h.2.2.2.1.next k, h.2.2.2.2.1.next k, h.2.2.2.2.2.1.next k, h.2.2.2.2.2.2.next k⟩
/-- The world with them. -/
abbrev KnW (w : World) : World := (((((((w.alloc (.cells #[.string ⟨#[97]⟩, .int .i64 1, .int .i64 0, .int .i64 0, .int .i64 0, .int .i64 0, .int .i64 1, .int .i64 0, .int .i64 0, .int .i64 0, .slice none 0 0] 26)).alloc (.cells #[.string ⟨#[97]⟩, .int .i64 1, .int .i64 0, .int .i64 0, .int .i64 0, .int .i64 1, .int .i64 1, .int .i64 0, .int .i64 0, .int .i64 0, .slice none 0 0] 26)).alloc (.cells #[.string ⟨#[]⟩, .int .i64 1, .int .i64 0, .int .i64 0, .int .i64 0, .int .i64 0, .int .i64 1, .int .i64 0, .int .i64 0, .int .i64 0, .slice none 0 0] 26)).alloc (.cells #[.string ⟨#[49, 50, 51, 52, 53, 54, 55, 56, 57, 48, 49, 50, 51, 52, 53, 54, 55]⟩, .int .i64 1, .int .i64 0, .int .i64 0, .int .i64 0, .int .i64 0, .int .i64 1, .int .i64 0, .int .i64 0, .int .i64 0, .slice none 0 0] 26)).alloc (.cells #[.int .i64 4, .int .i64 0, .int .i64 3, .int .i64 0, .int .i64 0, .int .i64 0, .int .i64 0, .bool false, .slice none 0 0, .slice none 0 0, .int .i64 4, .int .i64 1, .int .i64 1] 41)).alloc (.cells #[.string ⟨#[98]⟩, .int .i64 2, .int .i64 0, .int .i64 0, .int .i64 0, .int .i64 0, .int .i64 0, .int .i64 2, .int .i64 2, .int .i64 0, .slice (some ⟨w.heap.size + 1 + 1 + 1 + 1, 0, none⟩) 1 1] 26)).alloc (.cells #[.string ⟨#[99]⟩, .int .i64 3, .int .i64 0, .int .i64 0, .int .i64 0, .int .i64 0, .int .i64 0, .int .i64 0, .int .i64 0, .int .i64 0, .slice none 0 0] 26))
theorem kn_new (w : World) : Kn w.heap.size (KnW w) :=
  ⟨((((((blkAt_here _ _ _ _ (by simp)).up _).up _).up _).up _).up _).up _, (((((blkAt_here _ _ _ _ (by simp)).up _).up _).up _).up _).up _, ((((blkAt_here _ _ _ _ (by simp)).up _).up _).up _).up _, (((blkAt_here _ _ _ _ (by simp)).up _).up _).up _, ((blkAt_here _ _ _ _ (by simp)).up _).up _, (blkAt_here _ _ _ _ (by simp)).up _, blkAt_here _ _ _ _ (by simp)⟩
theorem kn_below (w : World) : Below w.heap.size w (KnW w) := by
  unfold KnW
  exact ((((((((Below.refl _ w).alloc (by simp <;> omega) _).alloc (by simp <;> omega) _).alloc (by simp <;> omega) _).alloc (by simp <;> omega) _).alloc (by simp <;> omega) _).alloc (by simp <;> omega) _).alloc (by simp <;> omega) _)
def St (w wi : World) : Prop := Tabs wi ∧ Kn w.heap.size wi ∧ Below w.heap.size w wi
theorem St.next {w wi wj : World} (h : St w wi) (k : Below wi.heap.size wi wj) : St w wj := ⟨h.1.next k, h.2.1.next k, below_then' h.2.2 k h.2.2.size⟩
theorem chk_lit (w wi : World) (y : Cd) (c r : Int) (h : chkC y [] c = r) (hs : y.nm.size ≤ 17) (hk : y.keys = 0) (hn : y.an = 0) (ha : y.aa = none) (hc : y.ac = 0) (s : St w wi) :
    Calls Tryd.prog 8 #[.agg #[.string y.nm, .int .i64 y.k, .int .i64 y.c0, .int .i64 y.c1, .int .i64 y.c2, .int .i64 y.c3, .int .i64 y.col, .int .i64 y.pow, .int .i64 y.tou, .int .i64 y.keys, .slice y.aa y.an y.ac], .int .i64 c] wi fun e w' => e = .returned (.int .i64 r) ∧ St w w' :=
  (cardCheck_any y [] c r h wi ⟨hn.symm, by rw [ha, hc]; exact IsA.nil _⟩ ⟨by unfold maxLen; omega, by rw [hk]; unfold In64; omega⟩ s.1).mono fun _ _ h => ⟨h.1, s.next h.2⟩

theorem lord_reads (w wi : World) (s : St w wi) : CdR wi ⟨⟨#[98]⟩, 2, 0, 0, 0, 0, 0, 2, 2, 0, some ⟨w.heap.size + 1 + 1 + 1 + 1, 0, none⟩, 1, 1⟩ [(⟨4, 0, 3, 0, 0, 0, 0, false, none, 0, 0, none, 0, 0, 4, 1, 1⟩, [], [])] :=
  ⟨rfl, LitAt.isA (A := [(⟨4, 0, 3, 0, 0, 0, 0, false, none, 0, 0, none, 0, 0, 4, 1, 1⟩, [], [])]) (s.2.1.2.2.2.2.1.lit _ rfl) (by
    intro t ht
    simp only [List.mem_cons, List.not_mem_nil, or_false] at ht
    subst ht
    exact ⟨⟨rfl, IsL.nil _⟩, rfl, IsC.nil _⟩) 1 rfl (by omega)⟩
theorem chk_lord (w wi : World) (s : St w wi) :
    Calls Tryd.prog 8 #[.agg #[.string ⟨#[98]⟩, .int .i64 2, .int .i64 0, .int .i64 0, .int .i64 0, .int .i64 0, .int .i64 0, .int .i64 2, .int .i64 2, .int .i64 0, .slice (some ⟨w.heap.size + 1 + 1 + 1 + 1, 0, none⟩) 1 1], .int .i64 0] wi fun e w' => e = .returned (.int .i64 0) ∧ St w w' :=
  (cardCheck_any ⟨⟨#[98]⟩, 2, 0, 0, 0, 0, 0, 2, 2, 0, some ⟨w.heap.size + 1 + 1 + 1 + 1, 0, none⟩, 1, 1⟩ [(⟨4, 0, 3, 0, 0, 0, 0, false, none, 0, 0, none, 0, 0, 4, 1, 1⟩, [], [])] 0 0 ((chkC_er _ _ _).symm.trans (by show chkC ⟨⟨#[98]⟩, 2, 0, 0, 0, 0, 0, 2, 2, 0, none, 1, 0⟩ [(⟨4, 0, 3, 0, 0, 0, 0, false, none, 0, 0, none, 0, 0, 4, 1, 1⟩, [], [])] 0 = 0; decide +kernel)) wi (lord_reads w wi s) ⟨by show 1 ≤ maxLen; unfold maxLen; omega, by show In64 0; unfold In64; omega⟩ s.1).mono fun _ _ h => ⟨h.1, s.next h.2⟩
theorem plain3 (w wi : World) (s : St w wi) :
    Calls Tryd.prog 11 #[.int .i64 3] wi fun e w' => ∃ y A, e = .returned (.agg #[.string y.nm, .int .i64 y.k, .int .i64 y.c0, .int .i64 y.c1, .int .i64 y.c2, .int .i64 y.c3, .int .i64 y.col, .int .i64 y.pow, .int .i64 y.tou, .int .i64 y.keys, .slice y.aa y.an y.ac]) ∧ CdR w' y A ∧ CdOk y ∧ chkC y A 0 = 0 ∧ St w w' :=
  (plain_any 3 (by omega) (by omega) (fun _ => False) wi (fun _ h => h.elim)).mono fun _ _ ⟨y, A, h1, hr, ho, he1, he2, hb⟩ => ⟨y, A, h1, hr.now, ho, (chk_of he1 he2 0).trans (by decide +kernel), s.next hb⟩

end Go.Proofs.YtfhmadlobdklbaaDoor
