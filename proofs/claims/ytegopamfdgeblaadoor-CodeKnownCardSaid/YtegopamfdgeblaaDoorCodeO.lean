/- in, literal codes, and steps of a law's closed part. -/
import Derived.Test.YtegopamfdgeblaaDoorCodeN
namespace Go.Proofs.YtegopamfdgeblaaDoor
open Go.RowKit
set_option linter.unusedVariables false
set_option linter.unusedSimpArgs false

theorem in_any (op a b : Int) (w : World) :
    Calls Tryd.prog 17 #[.int .i64 op, .int .i64 a, .int .i64 b] w fun e w' => e = .returned (.agg #[.int .i64 op, .int .i64 a, .int .i64 b]) ∧ Below w.heap.size w w' := by
  have q0 : (w.alloc (.cells #[.int .i64 op, .int .i64 a, .int .i64 b] 34)).cell? ⟨w.heap.size, 0, none⟩ = some (.int .i64 op) := World.cell?_alloc_new _ _ _ _
  have q1 : (w.alloc (.cells #[.int .i64 op, .int .i64 a, .int .i64 b] 34)).cell? ⟨w.heap.size, 1, none⟩ = some (.int .i64 a) := World.cell?_alloc_new _ _ _ _
  have q2 : (w.alloc (.cells #[.int .i64 op, .int .i64 a, .int .i64 b] 34)).cell? ⟨w.heap.size, 2, none⟩ = some (.int .i64 b) := World.cell?_alloc_new _ _ _ _
  go_enter Tryd.func17, Tryd.ntmps17
  go_wp2_with fail
  refine bodyPost_ret (v := .agg #[.int .i64 op, .int .i64 a, .int .i64 b]) (by simp [results, Tryd.results17, go_sem, q0, q1, q2]) rfl ⟨rfl, below_alloc1 _ _⟩
/-- A literal code's cells. -/
def insCells : List Ins → List Value
  | [] => []
  | x :: L => .int .i64 x.op :: .int .i64 x.a :: .int .i64 x.b :: insCells L
theorem insCells_at : ∀ (L : List Ins) (j : Nat) (h : j < L.length), (insCells L)[j * 3]? = some (.int .i64 L[j].op) ∧ (insCells L)[j * 3 + 1]? = some (.int .i64 L[j].a) ∧ (insCells L)[j * 3 + 2]? = some (.int .i64 L[j].b)
  | [], j, h => by simp at h
  | x :: L, 0, h => ⟨rfl, rfl, rfl⟩
  | x :: L, j + 1, h => by
    have := insCells_at L j (by simpa using h)
    rw [show (j + 1) * 3 = j * 3 + 3 by omega]
    simpa [insCells] using this
theorem isC_new (w : World) (L : List Ins) (cs : Array Value) (hcs : cs = (insCells L).toArray) (hl : L.length ≤ 1000) : IsC (w.alloc (.cells cs 34)) (some ⟨w.heap.size, 0, none⟩) L.length L := by
  refine ⟨Nat.le_refl _, by omega, .inr ⟨w.heap.size, 0, rfl, by simp, fun j hj => ?_⟩⟩
  have := insCells_at L j hj
  rw [World.cell?_alloc_new, World.cell?_alloc_new, World.cell?_alloc_new, hcs, Nat.zero_add]
  simpa using this
abbrev Cod := Option Addr × Nat × List Ins
/-- On the way from w on: these codes stand as they stood. -/
def Kept (w W : World) (Cs : List Cod) : Prop := Below w.heap.size w W ∧ ∀ c ∈ Cs, IsC W c.1 c.2.1 c.2.2
theorem Kept.start (w : World) : Kept w w [] := ⟨Below.refl _ _, fun c hc => by cases hc⟩
theorem Kept.next {w W W' : World} {Cs : List Cod} (h : Kept w W Cs) (b : Below W.heap.size W W') : Kept w W' Cs := ⟨below_then' h.1 b h.1.size, fun c hc => (h.2 c hc).next b⟩
theorem Kept.new {w W : World} {Cs : List Cod} (h : Kept w W Cs) (L : List Ins) (cs : Array Value) (hcs : cs = (insCells L).toArray) (hl : L.length ≤ 1000) : Kept w (W.alloc (.cells cs 34)) ((some ⟨W.heap.size, 0, none⟩, L.length, L) :: Cs) :=
  ⟨(h.next (below_alloc1 _ _)).1, fun c hc => by
    rcases List.mem_cons.1 hc with rfl | hc
    · exact isC_new W L cs hcs hl
    · exact (h.next (below_alloc1 _ _)).2 c hc⟩
theorem Kept.less {w W : World} {c : Cod} {Cs : List Cod} (h : Kept w W (c :: Cs)) : Kept w W Cs := ⟨h.1, fun d hd => h.2 d (List.mem_cons_of_mem _ hd)⟩
theorem in_step {w W : World} {Cs : List Cod} (h : Kept w W Cs) (op a b : Int) :
    Calls Tryd.prog 17 #[.int .i64 op, .int .i64 a, .int .i64 b] W fun e w' => e = .returned (.agg #[.int .i64 op, .int .i64 a, .int .i64 b]) ∧ Kept w w' Cs :=
  (in_any op a b W).mono fun e w' ⟨he, hb⟩ => ⟨he, h.next hb⟩
theorem check_step {w W : World} {Cs : List Cod} (h : Kept w W Cs) (a : Option Addr) (cap : Nat) (L : List Ins) (hm : (a, cap, L) ∈ Cs) (n : Nat) (hn : L.length = n) (t c r : Int) (hr : chk L t c = r) :
    Calls Tryd.prog 9 #[.slice a n cap, .int .i64 t, .int .i64 c] W fun e w' => e = .returned (.int .i64 r) ∧ Kept w w' Cs := by
  subst hn hr
  exact (check_any a cap L t c W (h.2 _ hm)).mono fun e w' ⟨he, hb⟩ => ⟨he, h.next hb⟩
theorem check_new {w W : World} {Cs : List Cod} (h : Kept w W Cs) (L : List Ins) (cs : Array Value) (hcs : cs = (insCells L).toArray) (n : Nat) (hn : L.length = n) (hl : n ≤ 1000) (t c r : Int) (hr : chk L t c = r) :
    Calls Tryd.prog 9 #[.slice (some ⟨W.heap.size, 0, none⟩) n n, .int .i64 t, .int .i64 c] (W.alloc (.cells cs 34)) fun e w' => e = .returned (.int .i64 r) ∧ Kept w w' Cs := by
  subst hn hr
  exact (check_any _ _ L t c _ (isC_new W L cs hcs hl)).mono fun e w' ⟨he, hb⟩ => ⟨he, (h.next (below_alloc1 _ _)).next hb⟩
theorem check_nil {w W : World} {Cs : List Cod} (h : Kept w W Cs) (t c r : Int) (hr : chk [] t c = r) :
    Calls Tryd.prog 9 #[.slice none 0 0, .int .i64 t, .int .i64 c] W fun e w' => e = .returned (.int .i64 r) ∧ Kept w w' Cs := by
  subst hr
  exact (check_any none 0 [] t c W (IsC.nil _)).mono fun e w' ⟨he, hb⟩ => ⟨he, h.next hb⟩
theorem ways_step {w W : World} {Cs : List Cod} (h : Kept w W Cs) (a : Option Addr) (cap : Nat) (L : List Ins) (hm : (a, cap, L) ∈ Cs) (n : Nat) (hn : L.length = n) (i : Int) (M : List Int) (hM : waysL L i = M) (m : Nat) (hm' : M.length = m) :
    Calls Tryd.prog 13 #[.slice a n cap, .int .i64 i] W fun e w' => ∃ p c, e = .returned (.slice p m c) ∧ IsL w' p c M ∧ Kept w w' Cs := by
  subst hn hM hm'
  exact (ways_any a cap L i W (h.2 _ hm)).mono fun e w' ⟨⟨p, c, he, hi⟩, hb⟩ => ⟨p, c, he, hi, h.next hb⟩
theorem ways_new {w W : World} {Cs : List Cod} (h : Kept w W Cs) (L : List Ins) (cs : Array Value) (hcs : cs = (insCells L).toArray) (n : Nat) (hn : L.length = n) (hl : n ≤ 1000) (i : Int) (M : List Int) (hM : waysL L i = M) (m : Nat) (hm' : M.length = m) :
    Calls Tryd.prog 13 #[.slice (some ⟨W.heap.size, 0, none⟩) n n, .int .i64 i] (W.alloc (.cells cs 34)) fun e w' => ∃ p c, e = .returned (.slice p m c) ∧ IsL w' p c M ∧ Kept w w' Cs := by
  subst hn hM hm'
  exact (ways_any _ _ L i _ (isC_new W L cs hcs hl)).mono fun e w' ⟨⟨p, c, he, hi⟩, hb⟩ => ⟨p, c, he, hi, (h.next (below_alloc1 _ _)).next hb⟩
theorem ways_nil {w W : World} {Cs : List Cod} (h : Kept w W Cs) (i : Int) :
    Calls Tryd.prog 13 #[.slice none 0 0, .int .i64 i] W fun e w' => ∃ p c, e = .returned (.slice p 0 c) ∧ IsL w' p c [] ∧ Kept w w' Cs := by
  have hM : waysL [] i = [] := by simp [waysL]
  exact (ways_any none 0 [] i W (IsC.nil _)).mono fun e w' ⟨⟨p, c, he, hi⟩, hb⟩ => ⟨p, c, by rw [he, hM]; rfl, by rw [hM] at hi; exact hi, h.next hb⟩
theorem isL_new (w : World) (M : List Int) (xs : Array Value) (hx : xs = (M.map (Value.int .i64)).toArray) (hl : M.length ≤ 1000) : IsL (w.alloc (.cells xs 3)) (some ⟨w.heap.size, 0, none⟩) M.length M := by
  refine ⟨Nat.le_refl _, by omega, .inr ⟨w.heap.size, 0, rfl, by simp, fun j hj => ?_⟩⟩
  rw [World.cell?_alloc_new, hx]
  simp [hj]
theorem ints_step {w W : World} {Cs : List Cod} (h : Kept w W Cs) {p : Option Addr} {c : Nat} {M : List Int} (hM : IsL W p c M) (xs : Array Value) (hx : xs = (M.map (Value.int .i64)).toArray) (m : Nat) (hm : M.length = m) (hl : m ≤ 1000) :
    Calls Tryd.prog 18 #[.slice p m c, .slice (some ⟨W.heap.size, 0, none⟩) m m] (W.alloc (.cells xs 3)) fun e w' => e = .returned (.bool true) ∧ Kept w w' Cs := by
  subst hm
  refine (ints_any p _ c _ M M _ (hM.next (below_alloc1 _ _)) (isL_new W M xs hx hl)).mono fun e w' ⟨he, hb⟩ => ⟨?_, (h.next (below_alloc1 _ _)).next hb⟩
  rw [he]; simp
theorem ints_nil {w W : World} {Cs : List Cod} (h : Kept w W Cs) {p : Option Addr} {c : Nat} (hM : IsL W p c []) :
    Calls Tryd.prog 18 #[.slice p 0 c, .slice none 0 0] W fun e w' => e = .returned (.bool true) ∧ Kept w w' Cs := by
  refine (ints_any p none c 0 [] [] W hM (IsL.nil _)).mono fun e w' ⟨he, hb⟩ => ⟨?_, h.next hb⟩
  rw [he]; simp
theorem text_new {w W : World} {Cs : List Cod} (h : Kept w W Cs) (hT : Tabs w) (L : List Ins) (cs : Array Value) (hcs : cs = (insCells L).toArray) (n : Nat) (hn : L.length = n) (hl : n ≤ 1000) (hr : InR L) (s : ByteArray) (hs : bytesS (textL L) = s) :
    Calls Tryd.prog 15 #[.slice (some ⟨W.heap.size, 0, none⟩) n n] (W.alloc (.cells cs 34)) fun e w' => e = .returned (.string s) ∧ Kept w w' Cs := by
  subst hn hs
  exact (text_any _ _ L _ (isC_new W L cs hcs hl) hr hl ((hT.next h.1).next (below_alloc1 _ _))).mono fun e w' ⟨he, hb⟩ => ⟨he, (h.next (below_alloc1 _ _)).next hb⟩
theorem text_nil {w W : World} {Cs : List Cod} (h : Kept w W Cs) (hT : Tabs w) :
    Calls Tryd.prog 15 #[.slice none 0 0] W fun e w' => e = .returned (.string ⟨#[]⟩) ∧ Kept w w' Cs := by
  exact (text_any none 0 [] W (IsC.nil _) (fun x hx => by cases hx) (by simp) (hT.next h.1)).mono fun e w' ⟨he, hb⟩ => ⟨he, h.next hb⟩
end Go.Proofs.YtegopamfdgeblaaDoor
