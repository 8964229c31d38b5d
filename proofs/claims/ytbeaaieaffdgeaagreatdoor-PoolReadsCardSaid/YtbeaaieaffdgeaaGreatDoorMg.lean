/- Texts that belong together: PoolB, PoolM, CardT, PoolC, PoolO, PoolOv, RegV, RegVs, RegVx. -/
import Derived.Test.YtbeaaieaffdgeaaGreatDoorMe
import Derived.Test.YtbeaaieaffdgeaaGreatDoorMf
import Derived.Test.YtbeaaieaffdgeaaGreatDoorMb
import Derived.Deep.RegionHeld
import Derived.Test.YtbeaaieaffdgeaaGreatDoorMc
import Derived.Test.YtbeaaieaffdgeaaGreatDoorMd
/- Which pools may be: Check's answer, and what follows of their numbers: no walk. -/
section
namespace Go.Proofs.YtbeaaieaffdgeaaGreatDoor
open Go.RowKit
set_option linter.unusedVariables false
set_option linter.unusedSimpArgs false

theorem chk_ins {L : List Ins} {t c : Int} (h : chk L t c = 0) : t ≤ 2 ∧ L.length ≤ 32 ∧ ∀ x ∈ L, one L.length t c x = true := by
  unfold chk at h
  split at h
  · rename_i h1
    split at h
    · omega
    · split at h
      · rename_i h2 h3
        simp only [Bool.and_eq_true, btw_iff] at h1
        exact ⟨h1.1.2, by omega, List.all_eq_true.1 h3⟩
      · omega
  · omega
theorem only_iff (x y : Ab) : onlyB x y = true ↔ x.ev = y.ev ∧ x.wh = y.wh ∧ (x.c0 = y.c0 ∧ x.c1 = y.c1 ∧ x.c2 = y.c2 ∧ x.c3 = y.c3) ∧ x.tap = y.tap ∧ x.tn = y.tn ∧ x.cn = y.cn ∧ x.op = y.op ∧ x.a = y.a ∧ x.b = y.b := by
  simp only [onlyB, costB, Bool.and_eq_true, beq_iff_eq]
  constructor
  · rintro ⟨h1, h2, h3, h4, h5, h6, h7, h8, h9⟩
    exact ⟨h1, h2, h3, h4, by omega, by omega, h7, h8, h9⟩
  · rintro ⟨h1, h2, h3, h4, h5, h6, h7, h8, h9⟩
    exact ⟨h1, h2, h3, h4, by omega, by omega, h7, h8, h9⟩
theorem flag_nm (b : Bool) : NmOk (flagI b) := by cases b <;> (unfold NmOk flagI; omega)
theorem abOk_of {x : Ab} {T : List Int} {L : List Ins} (hk : NmOk x.k) (h1 : NmOk x.ev) (h2 : NmOk x.wh) (h3 : NmOk x.c0) (h4 : NmOk x.c1) (h5 : NmOk x.c2) (h6 : NmOk x.c3)
    (hT : T.length ≤ 2) (hL : L.length ≤ 32) (hTs : ∀ i ∈ T, NmOk i) (hLs : ∀ i ∈ L, InsOk i) (hop : NmOk x.op) (ha : In64 x.a) (hb : In64 x.b) : AbOk (x, T, L) := by
  refine ⟨?_, by show T.length ≤ 2; omega, by show L.length ≤ 32; omega, hTs, hLs, hop, ha, hb⟩
  have hf := flag_nm x.tap
  have hl : NmOk (T.length : Int) := by unfold NmOk; omega
  simp only [abHead, List.forall_mem_cons]
  exact ⟨hk, h1, h2, h3, h4, h5, h6, hf, hl, fun _ h => by cases h⟩
theorem nm_of {i lo hi : Int} (h : btw lo hi i = true) (h0 : 0 ≤ lo) (h1 : hi ≤ 100000) : NmOk i := by
  rw [btw_iff] at h
  unfold NmOk; omega
theorem nm_zero : NmOk 0 := by unfold NmOk; omega
theorem ins_ok {L : List Ins} {t c : Int} (h : chk L t c = 0) (hi : ∀ i ∈ L, In64 i.a ∧ In64 i.b) : ∀ i ∈ L, InsOk i := by
  intro i m
  have h1 := (chk_ins h).2.2 i m
  simp only [one, Bool.and_eq_true] at h1
  exact ⟨nm_of h1.1 (by omega) (by omega), hi i m⟩
theorem aims_ok {T : List Int} (h : aimsB T = true) : ∀ i ∈ T, NmOk i := fun i m => nm_of (List.all_eq_true.1 h i m) (by omega) (by omega)
theorem abil_ok (x : Ab) (T : List Int) (L : List Ins) (cards : Int) (h : abilB x T L cards = true) (ht : T.length = x.tn) (hc : L.length = x.cn) (ha : In64 x.a) (hb : In64 x.b) (hi : ∀ i ∈ L, In64 i.a ∧ In64 i.b) :
    AbOk (x, T, L) := by
  have z := nm_zero
  unfold abilB at h
  split at h
  · rename_i k1
    simp only [spellB, Bool.and_eq_true, beq_iff_eq, only_iff] at h
    obtain ⟨h1, h2, h3, h4, ⟨h5, h6, h7, h8⟩, _, _, _, h9, _, _⟩ := h
    have q := chk_ins h2
    exact abOk_of (by rw [k1]; unfold NmOk; omega) (by rw [h3]; exact z) (by rw [h4]; exact z) (by rw [h5]; exact z) (by rw [h6]; exact z) (by rw [h7]; exact z) (by rw [h8]; exact z) (by omega) q.2.1 (aims_ok h1) (ins_ok h2 hi) (by rw [h9]; exact z) ha hb
  · split at h
    · rename_i k1
      simp only [actB, wi, costL, List.all_cons, List.all_nil, Bool.and_true, Bool.and_eq_true, beq_iff_eq, only_iff] at h
      obtain ⟨⟨c1, c2, c3, c4⟩, h1, h2, h3, h4, _, _, _, _, h9, _, _⟩ := h
      have q := chk_ins h2
      exact abOk_of (by rw [k1]; unfold NmOk; omega) (by rw [h3]; exact z) (by rw [h4]; exact z) (nm_of c1 (by omega) (by omega)) (nm_of c2 (by omega) (by omega)) (nm_of c3 (by omega) (by omega)) (nm_of c4 (by omega) (by omega)) (by omega) q.2.1 (aims_ok h1) (ins_ok h2 hi) (by rw [h9]; exact z) ha hb
    · split at h
      · rename_i k1
        simp only [trigB, wi_two, Bool.and_eq_true, beq_iff_eq, only_iff] at h
        obtain ⟨⟨e1, e2⟩, h2, _, _, ⟨h5, h6, h7, h8⟩, _, h9, _, h10, _, _⟩ := h
        have q := chk_ins h2
        obtain rfl : T = [] := List.eq_nil_of_length_eq_zero (by omega)
        exact abOk_of (by rw [k1]; unfold NmOk; omega) (nm_of e1 (by omega) (by omega)) (nm_of e2 (by omega) (by omega)) (by rw [h5]; exact z) (by rw [h6]; exact z) (by rw [h7]; exact z) (by rw [h8]; exact z) (by omega) q.2.1 (fun i m => by cases m) (ins_ok h2 hi) (by rw [h10]; exact z) ha hb
      · split at h
        · rename_i k1
          simp only [staticB, wi_two, Bool.and_eq_true, beq_iff_eq, only_iff] at h
          obtain ⟨⟨e1, e2⟩, _, h3, _, ⟨h5, h6, h7, h8⟩, _, h9, h11, _⟩ := h
          obtain rfl : T = [] := List.eq_nil_of_length_eq_zero (by omega)
          obtain rfl : L = [] := List.eq_nil_of_length_eq_zero (by omega)
          exact abOk_of (by rw [k1]; unfold NmOk; omega) (by rw [h3]; exact z) (nm_of e2 (by omega) (by omega)) (by rw [h5]; exact z) (by rw [h6]; exact z) (by rw [h7]; exact z) (by rw [h8]; exact z) (by simp) (by simp) (fun i m => by cases m) (fun i m => by cases m) (nm_of e1 (by omega) (by omega)) ha hb
        · split at h
          · rename_i k1
            simp only [replB, wi_one, wi_two, Bool.and_eq_true, beq_iff_eq, only_iff] at h
            obtain ⟨e1, ⟨e2, _⟩, _, _, ⟨h5, h6, h7, h8⟩, _, h9, h11, h10, _⟩ := h
            obtain rfl : T = [] := List.eq_nil_of_length_eq_zero (by omega)
            obtain rfl : L = [] := List.eq_nil_of_length_eq_zero (by omega)
            have e3 : NmOk x.wh := by
              rw [btw_iff] at e1
              have e4 : x.ev.toNat = 1 ∨ x.ev.toNat = 2 ∨ x.ev.toNat = 3 ∨ x.ev.toNat = 4 := by omega
              rcases e4 with e4 | e4 | e4 | e4 <;> rw [e4] at e2 <;> exact nm_of e2 (by decide) (by decide)
            exact abOk_of (by rw [k1]; unfold NmOk; omega) (nm_of e1 (by omega) (by omega)) e3 (by rw [h5]; exact z) (by rw [h6]; exact z) (by rw [h7]; exact z) (by rw [h8]; exact z) (by simp) (by simp) (fun i m => by cases m) (fun i m => by cases m) (by rw [h10]; exact z) ha hb
          · cases h
/-- A card's numbers are of 64 bits, and its lists as long as they say. -/
def CdT64 (c : CdT) : Prop := c.2.length = c.1.an ∧ ∀ t ∈ c.2, t.2.1.length = t.1.tn ∧ t.2.2.length = t.1.cn ∧ In64 t.1.a ∧ In64 t.1.b ∧ ∀ i ∈ t.2.2, In64 i.a ∧ In64 i.b
theorem card_ok (c : CdT) (cards : Int) (h : chkC c.1 c.2 cards = 0) (h64 : CdT64 c) : CdTOk c := by
  obtain ⟨y, A⟩ := c
  obtain ⟨hn, hA⟩ := h64
  simp only [chkC] at h hn hA
  split at h
  · split at h
    · omega
    · rename_i h1 h2
      split at h
      · rename_i h3
        simp only [longB, Bool.or_eq_true, not_or, decide_eq_true_eq] at h2
        simp only [mayB, canB, wi, costL, List.all_cons, List.all_nil, Bool.and_true, Bool.and_eq_true, btw_iff] at h3
        obtain ⟨⟨_, k1, ⟨c1, c2, c3, c4⟩, ke, g1, g2, g3⟩, _, hf⟩ := h3
        refine ⟨by show y.nm.size ≤ 1000; omega, ?_, by show A.length ≤ 4; omega, fun t m => ?_⟩
        · simp only [cdHead, List.forall_mem_cons]
          have u : ∀ b : Bool, (if b = true then (0 : Int) else 20) ≤ 20 := fun b => by cases b <;> simp
          have k : NmOk y.keys := by
            unfold keysB at ke
            split at ke
            · rw [beq_iff_eq] at ke; rw [ke]; exact nm_zero
            · split at ke
              · exact nm_of ke (by omega) (by omega)
              · simp only [Bool.or_eq_true, beq_iff_eq] at ke
                rcases ke with ke | ke <;> (rw [ke]; unfold NmOk; omega)
          have a1 : (if y.k = 1 then (0 : Int) else 20) ≤ 20 := by split <;> omega
          have a2 : (if y.k = 1 then (3 : Int) else 0) ≤ 3 := by split <;> omega
          have a3 : (if y.k = 2 then (15 : Int) else 0) ≤ 15 := by split <;> omega
          have l : NmOk (A.length : Int) := by unfold NmOk; omega
          unfold NmOk at *
          exact ⟨by omega, by omega, by omega, by omega, by omega, by omega, by omega, by omega, by omega, by omega, fun _ h => by cases h⟩
        · have := List.all_eq_true.1 hf t m
          simp only [fitB, Bool.and_eq_true] at this
          obtain ⟨q1, q2, q3, q4, q5⟩ := hA t m
          exact abil_ok t.1 t.2.1 t.2.2 cards this.2 q1 q2 q3 q4 q5
      · omega
  · omega
/-- Are the tokens that a code names beasts? -/
def tokB (L : List CdT) (C : List Ins) : Bool := C.all fun x => !(x.op == 21) || ((L[x.b.toNat]?.map fun c => c.1.k == 2).getD true)
/-- May this one be, in a pool of these? -/
def inB (L : List CdT) (c : CdT) : Bool := (chkC c.1 c.2 L.length == 0) && c.2.all fun t => tokB L t.2.2
/-- Have two the same name? -/
def twiceB : List CdT → Bool
  | [] => false
  | c :: L => L.any (fun d => decide (d.1.nm = c.1.nm)) || twiceB L
/-- What Check tells of a pool. -/
def chkP (L : List CdT) : Int := if L.length = 0 then 2 else if 40 < L.length then 3 else if L.all (inB L) then (if twiceB L then 11 else 0) else 10
theorem pool_ok (L : List CdT) (h : chkP L = 0) (h64 : ∀ c ∈ L, CdT64 c) : 1 ≤ L.length ∧ L.length ≤ 40 ∧ PlOk L := by
  unfold chkP at h
  split at h
  · omega
  · split at h
    · omega
    · split at h
      · rename_i h1 h2 h3
        refine ⟨by omega, by omega, by omega, fun c m => ?_⟩
        have := List.all_eq_true.1 h3 c m
        simp only [inB, Bool.and_eq_true, beq_iff_eq] at this
        exact card_ok c _ this.1 (h64 c m)
      · omega
end Go.Proofs.YtbeaaieaffdgeaaGreatDoor
end
/- How the program reads a pool: a number is taken just if it is no more than the most, a list just if it is no longer. What is taken is the row that it is laid in; and what is laid is taken. No walk. -/
section
namespace Go.Proofs.YtbeaaieaffdgeaaGreatDoor
open Go.RowKit
set_option linter.unusedVariables false
set_option linter.unusedSimpArgs false

def pIns : Tk Ins := pNum.then fun o => pInt.then fun a => pInt.then fun b => Tk.give ⟨o, a, b⟩
/-- The four of a cost. -/
abbrev Mn := Int × Int × Int × Int
def pMan : Tk Mn := pNum.then fun a => pNum.then fun b => pNum.then fun c => pNum.then fun d => Tk.give (a, b, c, d)
def mkAb (k ev wh : Int) (c : Mn) (tp : Int) (T : List Int) (C : List Ins) (op a b : Int) : AbT :=
  (⟨k, ev, wh, c.1, c.2.1, c.2.2.1, c.2.2.2, tp == 1, none, T.length, 0, none, C.length, 0, op, a, b⟩, T, C)
def pAb : Tk AbT := pNum.then fun k => pNum.then fun ev => pNum.then fun wh => pMan.then fun c => (pUp 1).then fun tp => (pList 2 pNum).then fun T => (pList 32 pIns).then fun C => pNum.then fun op => pInt.then fun a => pInt.then fun b => Tk.give (mkAb k ev wh c tp T C op a b)
def mkCd (x : ByteArray) (k : Int) (c : Mn) (co p t ke : Int) (A : List AbT) : CdT :=
  (⟨x, k, c.1, c.2.1, c.2.2.1, c.2.2.2, co, p, t, ke, none, A.length, 0⟩, A)
def pCd : Tk CdT := pTxt.then fun x => pNum.then fun k => pMan.then fun c => pNum.then fun co => pNum.then fun p => pNum.then fun t => pNum.then fun ke => (pList 4 pAb).then fun A => Tk.give (mkCd x k c co p t ke A)
def pPool : Tk (List CdT) := pList 40 pCd

/-- What is taken is the row that it is laid in, and is as Q says. -/
def Row1 {α : Type} (f : Tk α) (e : α → ByteArray → ByteArray) (Q : α → Prop) : Prop := ∀ s x t, f s = some (x, t) → s = e x t ∧ Q x
theorem rdNum_row (s : ByteArray) (h : (rdNum (s, false)).2.2 = false) : s = numS (rdNum (s, false)).1 ++ (rdNum (s, false)).2.1 := by
  have e0 : rdNum (s, false) = match readN s.data.toList with
    | none => (0, (ByteArray.empty, true))
    | some (n, k) => (n, (s.extract k s.size, false)) := rfl
  rw [e0] at h ⊢
  cases hq : readN s.data.toList with
  | none => rw [hq] at h; cases h
  | some p =>
    obtain ⟨m, k⟩ := p
    obtain ⟨r1, r2, r3⟩ := readN_row _ m k hq
    apply ByteArray.ext
    simp only [ByteArray.data_append, ByteArray.data_extract]
    have a1 : (numS m).data = (s.data.toList.take k).toArray := by rw [r1]; rfl
    rw [a1]
    apply Array.ext'
    have e3 : s.size = s.data.size := rfl
    simp only [Array.toList_append, Array.toList_extract, List.extract_eq_take_drop, e3]
    rw [List.take_of_length_le (l := s.data.toList.drop k) (by simp)]
    exact (List.take_append_drop k s.data.toList).symm
theorem row_up (m : Nat) : Row1 (pUp m) nB (fun i => 0 ≤ i ∧ i ≤ m) := by
  intro s x t h
  unfold pUp at h
  split at h
  · cases h
  · split at h
    · rename_i h1 h2
      simp only [Option.some.injEq, Prod.mk.injEq] at h
      obtain ⟨rfl, rfl⟩ := h
      refine ⟨?_, by omega, by omega⟩
      have := rdNum_row s (by simpa using h1)
      unfold nB
      rw [Int.toNat_natCast]
      exact this
    · cases h
theorem zig_unzig (n : Nat) : zig (unzig n) = n := by
  unfold zig unzig
  repeat' split
  all_goals omega
theorem row_int : Row1 pInt sB In64 := by
  intro s x t h
  unfold pInt at h
  split at h
  · cases h
  · rename_i h1
    simp only [Option.some.injEq, Prod.mk.injEq] at h
    obtain ⟨rfl, rfl⟩ := h
    have := rdNum_row s (by simpa [rdInt] using h1)
    have hl := rdNum_lt (s, false)
    refine ⟨?_, ?_⟩
    · unfold sB rdInt
      simp only [zig_unzig]
      exact this
    · unfold In64 rdInt unzig
      simp only
      split <;> omega
theorem row_txt : Row1 pTxt xB (fun _ => True) := by
  intro s x t h
  unfold pTxt at h
  split at h
  · cases h
  · rename_i h1
    simp only [Option.some.injEq, Prod.mk.injEq] at h
    obtain ⟨rfl, rfl⟩ := h
    refine ⟨?_, trivial⟩
    unfold rdText at h1 ⊢
    split at h1
    · rename_i h2; exact absurd h2 h1
    · split at h1
      · simp at h1
      · rename_i h2 h3
        have h4 := rdNum_row s (by simpa using h2)
        rw [if_neg h2, if_neg h3]
        unfold xB textS
        simp only
        generalize hr : rdNum (s, false) = r at *
        obtain ⟨n, u, st⟩ := r
        simp only at *
        have h5 : (u.extract 0 n).size = n := by simp only [ByteArray.size_extract]; omega
        have h6 : u.extract 0 n ++ u.extract n u.size = u := by
          apply ByteArray.ext
          simp only [ByteArray.data_append, ByteArray.data_extract]
          apply Array.ext'
          have e3 : u.size = u.data.size := rfl
          simp only [Array.toList_append, Array.toList_extract, List.extract_eq_take_drop, e3, List.drop_zero, Nat.sub_zero]
          rw [List.take_of_length_le (l := u.data.toList.drop n) (by simp)]
          exact List.take_append_drop n u.data.toList
        rw [h5, ByteArray.append_assoc, h6]
        exact h4
theorem row_then {α β : Type} {f : Tk α} {e : α → ByteArray → ByteArray} {Q : α → Prop} {g : α → Tk β} (hf : Row1 f e Q) {s t : ByteArray} {y : β} (h : f.then g s = some (y, t)) : ∃ x u, s = e x u ∧ Q x ∧ g x u = some (y, t) := by
  obtain ⟨x, u, h1, h2⟩ := then_some h
  obtain ⟨h3, h4⟩ := hf _ _ _ h1
  exact ⟨x, u, h3, h4, h2⟩
theorem row_rep {α : Type} {f : Tk α} {e : α → ByteArray → ByteArray} {Q : α → Prop} (hf : Row1 f e Q) (k : Nat) : Row1 (pRep f k) (many e) (fun l => l.length = k ∧ ∀ x ∈ l, Q x) := by
  induction k with
  | zero =>
    intro s x t h
    obtain ⟨rfl, rfl⟩ := give_some h
    exact ⟨rfl, rfl, fun x h => by cases h⟩
  | succ k ih =>
    intro s y t h
    obtain ⟨x, u, rfl, hq, h⟩ := row_then hf h
    obtain ⟨l, v, rfl, hl, h⟩ := row_then ih h
    obtain ⟨rfl, rfl⟩ := give_some h
    refine ⟨rfl, by simp [hl.1], fun z hz => ?_⟩
    rcases List.mem_cons.1 hz with rfl | hz
    · exact hq
    · exact hl.2 z hz
theorem row_list {α : Type} {f : Tk α} {e : α → ByteArray → ByteArray} {Q : α → Prop} (m : Nat) (hf : Row1 f e Q) : Row1 (pList m f) (fun l t => nB l.length (many e l t)) (fun l => l.length ≤ m ∧ ∀ x ∈ l, Q x) := by
  intro s l t h
  obtain ⟨n, u, rfl, hn, h⟩ := row_then (row_up m) h
  obtain ⟨h1, h2, h3⟩ := row_rep hf n.toNat _ _ _ h
  subst h1
  refine ⟨?_, by omega, h3⟩
  show nB n (many e l t) = nB (l.length : Int) (many e l t)
  rw [h2, Int.toNat_of_nonneg hn.1]
theorem row_num : Row1 pNum nB (fun i => 0 ≤ i ∧ i ≤ 9223372036854775807) := row_up _
theorem row_ins : Row1 pIns insB (fun x => In64 x.a ∧ In64 x.b) := by
  intro s y t h
  obtain ⟨o, u, rfl, h1, h⟩ := row_then row_num h
  obtain ⟨a, v, rfl, h2, h⟩ := row_then row_int h
  obtain ⟨b, x, rfl, h3, h⟩ := row_then row_int h
  obtain ⟨rfl, rfl⟩ := give_some h
  exact ⟨rfl, h2, h3⟩
def mnB (c : Mn) (t : ByteArray) : ByteArray := nB c.1 (nB c.2.1 (nB c.2.2.1 (nB c.2.2.2 t)))
theorem row_man : Row1 pMan mnB (fun _ => True) := by
  intro s y t h
  obtain ⟨a, u, rfl, _, h⟩ := row_then row_num h
  obtain ⟨b, v, rfl, _, h⟩ := row_then row_num h
  obtain ⟨c, x, rfl, _, h⟩ := row_then row_num h
  obtain ⟨d, z, rfl, _, h⟩ := row_then row_num h
  obtain ⟨rfl, rfl⟩ := give_some h
  exact ⟨rfl, trivial⟩
/-- What an ability is that was read. -/
def AbQ (x : AbT) : Prop := x.2.1.length = x.1.tn ∧ x.2.2.length = x.1.cn ∧ In64 x.1.a ∧ In64 x.1.b ∧ (∀ i ∈ x.2.2, In64 i.a ∧ In64 i.b) ∧ bareA x = x
theorem row_ab : Row1 pAb abB AbQ := by
  intro s y t h
  obtain ⟨k, u1, rfl, _, h⟩ := row_then row_num h
  obtain ⟨ev, u2, rfl, _, h⟩ := row_then row_num h
  obtain ⟨wh, u3, rfl, _, h⟩ := row_then row_num h
  obtain ⟨c, u4, rfl, _, h⟩ := row_then row_man h
  obtain ⟨tp, u5, rfl, htp, h⟩ := row_then (row_up 1) h
  obtain ⟨T, u6, rfl, hT, h⟩ := row_then (row_list 2 row_num) h
  obtain ⟨C, u7, rfl, hC, h⟩ := row_then (row_list 32 row_ins) h
  obtain ⟨op, u8, rfl, _, h⟩ := row_then row_num h
  obtain ⟨a, u9, rfl, ha, h⟩ := row_then row_int h
  obtain ⟨b, v, rfl, hb, h⟩ := row_then row_int h
  obtain ⟨rfl, rfl⟩ := give_some h
  have e1 : flagI (tp == 1) = tp := by
    rcases (by omega : tp = 0 ∨ tp = 1) with rfl | rfl <;> rfl
  refine ⟨?_, rfl, rfl, ha, hb, hC.2, rfl⟩
  simp only [abB, abHead, mkAb, many_cons, many_nil, e1, mnB]
theorem row_cd : Row1 pCd cdB (fun c => CdT64 c ∧ bareC c = c) := by
  intro s y t h
  obtain ⟨x, u0, rfl, _, h⟩ := row_then row_txt h
  obtain ⟨k, u1, rfl, _, h⟩ := row_then row_num h
  obtain ⟨c, u2, rfl, _, h⟩ := row_then row_man h
  obtain ⟨co, u3, rfl, _, h⟩ := row_then row_num h
  obtain ⟨p, u4, rfl, _, h⟩ := row_then row_num h
  obtain ⟨to, u5, rfl, _, h⟩ := row_then row_num h
  obtain ⟨ke, u6, rfl, _, h⟩ := row_then row_num h
  obtain ⟨A, u7, rfl, hA, h⟩ := row_then (row_list 4 row_ab) h
  obtain ⟨rfl, rfl⟩ := give_some h
  refine ⟨?_, ⟨rfl, fun t ht => ?_⟩, ?_⟩
  · simp only [cdB, cdHead, mkCd, many_cons, many_nil, mnB]
  · obtain ⟨q1, q2, q3, q4, q5, _⟩ := hA.2 t ht
    exact ⟨q1, q2, q3, q4, q5⟩
  · have : A.map bareA = A := by
      rw [List.map_congr_left (g := id) (fun t ht => (hA.2 t ht).2.2.2.2.2), List.map_id]
    simp only [bareC, mkCd, this]
/-- WHAT IS TAKEN IS THE ROW THAT IT IS LAID IN. -/
theorem pPool_row (s : ByteArray) (L : List CdT) (t : ByteArray) (h : pPool s = some (L, t)) : s = poolB L t ∧ L.length ≤ 40 ∧ ∀ c ∈ L, CdT64 c ∧ bareC c = c :=
  row_list 40 row_cd s L t h

/-! ### What is laid is taken -/
theorem pUp_put (m : Nat) (i : Int) (h0 : 0 ≤ i) (h1 : i ≤ m) (h2 : i ≤ 9223372036854775807) (t : ByteArray) : pUp m (nB i t) = some (i, t) := by
  unfold pUp nB
  rw [rdNum_put _ (by omega)]
  rw [if_neg (by simp), if_pos (by simp only; omega)]
  simp only [Option.some.injEq, Prod.mk.injEq, and_true]
  omega
theorem pNum_put (i : Int) (h : NmOk i) (t : ByteArray) : pNum (nB i t) = some (i, t) := by
  obtain ⟨h0, h1⟩ := h
  exact pUp_put _ i h0 (by omega) (by omega) t
theorem pInt_put (i : Int) (h : In64 i) (t : ByteArray) : pInt (sB i t) = some (i, t) := by
  unfold pInt
  rw [rdInt_put' i h t]
  rw [if_neg (by simp)]
theorem pTxt_put (x t : ByteArray) (h : x.size ≤ 1000) : pTxt (xB x t) = some (x, t) := by
  unfold pTxt
  rw [rdText_put' x t h]
  rw [if_neg (by simp)]
theorem pRep_put {α : Type} {f : Tk α} {e : α → ByteArray → ByteArray} {g : α → α} (l : List α) (h : ∀ x ∈ l, ∀ t, f (e x t) = some (g x, t)) (t : ByteArray) :
    pRep f l.length (many e l t) = some (l.map g, t) := by
  induction l with
  | nil => rfl
  | cons x l ih =>
    have h1 := h x (by simp) (many e l t)
    have h2 := ih (fun y hy => h y (by simp [hy]))
    simp only [List.length_cons, pRep, many_cons, List.map_cons]
    rw [then_of h1, then_of h2]
    rfl
theorem pList_put {α : Type} {f : Tk α} {e : α → ByteArray → ByteArray} {g : α → α} (m : Nat) (l : List α) (hm : l.length ≤ m) (hm2 : m ≤ 1000) (h : ∀ x ∈ l, ∀ t, f (e x t) = some (g x, t)) (t : ByteArray) :
    pList m f (nB l.length (many e l t)) = some (l.map g, t) := by
  unfold pList
  rw [then_of (pUp_put m l.length (by omega) (by omega) (by omega) _), Int.toNat_natCast, pRep_put l h t]
theorem pIns_put (x : Ins) (h : InsOk x) (t : ByteArray) : pIns (insB x t) = some (x, t) := by
  obtain ⟨h1, h2, h3⟩ := h
  unfold pIns insB
  rw [then_of (pNum_put _ h1 _), then_of (pInt_put _ h2 _), then_of (pInt_put _ h3 _)]
  rfl
theorem pMan_put (c : Mn) (h : NmOk c.1 ∧ NmOk c.2.1 ∧ NmOk c.2.2.1 ∧ NmOk c.2.2.2) (t : ByteArray) : pMan (mnB c t) = some (c, t) := by
  obtain ⟨h1, h2, h3, h4⟩ := h
  unfold pMan mnB
  rw [then_of (pNum_put _ h1 _), then_of (pNum_put _ h2 _), then_of (pNum_put _ h3 _), then_of (pNum_put _ h4 _)]
  rfl
theorem pAb_put (x : AbT) (h : AbOk x) (t : ByteArray) : pAb (abB x t) = some (bareA x, t) := by
  obtain ⟨hh, h1, h2, h3, h4, h5, h6, h7⟩ := h
  simp only [abHead, List.forall_mem_cons] at hh
  obtain ⟨a1, a2, a3, a4, a5, a6, a7, a8, a9, _⟩ := hh
  have b1 : ∀ t, pList 2 pNum (nB x.2.1.length (many nB x.2.1 t)) = some (x.2.1, t) := fun t => by
    have := pList_put (g := id) 2 x.2.1 h1 (by omega) (fun i hi t => pNum_put i (h3 i hi) t) t
    simpa using this
  have b2 : ∀ t, pList 32 pIns (nB x.2.2.length (many insB x.2.2 t)) = some (x.2.2, t) := fun t => by
    have := pList_put (g := id) 32 x.2.2 h2 (by omega) (fun i hi t => pIns_put i (h4 i hi) t) t
    simpa using this
  have b3 : ∀ t, pMan (nB x.1.c0 (nB x.1.c1 (nB x.1.c2 (nB x.1.c3 t)))) = some ((x.1.c0, x.1.c1, x.1.c2, x.1.c3), t) := fun t => pMan_put (x.1.c0, x.1.c1, x.1.c2, x.1.c3) ⟨a4, a5, a6, a7⟩ t
  have b4 : ∀ t, pUp 1 (nB (flagI x.1.tap) t) = some (flagI x.1.tap, t) := fun t => pUp_put 1 _ a8.1 (by cases x.1.tap <;> decide) (by have := a8.2; omega) t
  unfold pAb abB abHead
  simp only [many_cons, many_nil]
  rw [then_of (pNum_put _ a1 _), then_of (pNum_put _ a2 _), then_of (pNum_put _ a3 _), then_of (b3 _), then_of (b4 _), then_of (b1 _), then_of (b2 _), then_of (pNum_put _ h5 _), then_of (pInt_put _ h6 _), then_of (pInt_put _ h7 _)]
  simp only [Tk.give, mkAb, flag_ok, bareA]
theorem pCd_put (c : CdT) (h : CdTOk c) (t : ByteArray) : pCd (cdB c t) = some (bareC c, t) := by
  obtain ⟨h0, hh, h1, h2⟩ := h
  simp only [cdHead, List.forall_mem_cons] at hh
  obtain ⟨a1, a2, a3, a4, a5, a6, a7, a8, a9, a10, _⟩ := hh
  have b1 : ∀ t, pList 4 pAb (nB c.2.length (many abB c.2 t)) = some (c.2.map bareA, t) := fun t => pList_put 4 c.2 h1 (by omega) (fun i hi t => pAb_put i (h2 i hi) t) t
  have b3 : ∀ t, pMan (nB c.1.c0 (nB c.1.c1 (nB c.1.c2 (nB c.1.c3 t)))) = some ((c.1.c0, c.1.c1, c.1.c2, c.1.c3), t) := fun t => pMan_put (c.1.c0, c.1.c1, c.1.c2, c.1.c3) ⟨a2, a3, a4, a5⟩ t
  unfold pCd cdB cdHead
  simp only [many_cons, many_nil]
  rw [then_of (pTxt_put _ _ h0), then_of (pNum_put _ a1 _), then_of (b3 _), then_of (pNum_put _ a6 _), then_of (pNum_put _ a7 _), then_of (pNum_put _ a8 _), then_of (pNum_put _ a9 _), then_of (b1 _)]
  simp only [Tk.give, mkCd, bareC, List.length_map]
/-- WHAT IS LAID IS TAKEN. -/
theorem pPool_put (L : List CdT) (h : PlOk L) (t : ByteArray) : pPool (poolB L t) = some (L.map bareC, t) := by
  obtain ⟨h1, h2⟩ := h
  exact pList_put 40 L h1 (by omega) (fun c hc t => pCd_put c (h2 c hc) t) t
end Go.Proofs.YtbeaaieaffdgeaaGreatDoor
end
/- plain. (Written by gen5t.py.) -/
section
namespace Go.Proofs.YtbeaaieaffdgeaaGreatDoor
open Go.RowKit
set_option linter.unusedVariables false
set_option linter.unusedSimpArgs false

/-- An ability's row, one behind the other. -/
def abRow (A : List AbT) : List Value := A.flatMap fun t => abCells t.1
theorem abCells_len (x : Ab) : (abCells x).length = 13 := rfl
theorem abRow_len : ∀ A : List AbT, (abRow A).length = A.length * 13
  | [] => rfl
  | t :: A => by
    have := abRow_len A
    simp only [abRow, List.flatMap_cons, List.length_append, abCells_len, List.length_cons] at *
    omega
theorem abRow_at : ∀ (A : List AbT) (j : Nat) (h : j < A.length) (i : Nat), i < 13 → (abRow A)[j * 13 + i]? = (abCells A[j].1)[i]?
  | [], j, h, i, hi => by simp at h
  | t :: A, 0, h, i, hi => by
    simp only [abRow, List.flatMap_cons]
    rw [List.getElem?_append_left (by rw [abCells_len]; omega)]
    simp
  | t :: A, j + 1, h, i, hi => by
    have := abRow_at A j (by simpa using h) i hi
    simp only [abRow, List.flatMap_cons] at *
    rw [List.getElem?_append_right (by rw [abCells_len]; omega), abCells_len, show (j + 1) * 13 + i - 13 = j * 13 + i by omega, this]
    simp
theorem isA_row {w : World} {a : Option Addr} {c n : Nat} {A : List AbT} (hn : A.length = n) (hr : ∀ t ∈ A, AbR w t.1 t.2.1 t.2.2) (h : Row w a c 13 n (abRow A)) : IsA w a c A := by
  subst hn
  obtain ⟨h1, h2, h3 | ⟨b, off, h3, h4, h5⟩⟩ := h
  · exact ⟨h1, h2, hr, .inl h3⟩
  · exact ⟨h1, h2, hr, .inr ⟨b, off, h3, h4, fun j hj i hi => by
      have := h5 (j * 13 + i) (by omega)
      rw [← Nat.add_assoc] at this
      rw [this, abRow_at A j hj i hi]⟩⟩
theorem LitAt.row {w : World} {b : Nat} {cs : List Value} (h : LitAt w b cs) (size n : Nat) (hn : n ≤ 9223372036854775807) (hs : n * size ≤ cs.length) : Row w (some ⟨b, 0, none⟩) n size n cs :=
  ⟨Nat.le_refl _, hn, .inr ⟨b, 0, rfl, h.1, fun i hi => by rw [Nat.zero_add]; exact h.2 i (by omega)⟩⟩
theorem LitAt.isL {w : World} {b : Nat} {T : List Int} (h : LitAt w b (T.map (Value.int .i64))) (n : Nat) (hn : T.length = n) (hm : n ≤ 1000) : IsL w (some ⟨b, 0, none⟩) n T :=
  isL_row hn (h.row 1 n (by omega) (by simp [hn]))
theorem LitAt.isC {w : World} {b : Nat} {L : List Ins} (h : LitAt w b (insCells L)) (n : Nat) (hn : L.length = n) (hm : n ≤ 1000) : IsC w (some ⟨b, 0, none⟩) n L :=
  isC_row hn (h.row 3 n (by omega) (by rw [insCells_len, hn]; exact Nat.le_refl _))
theorem LitAt.isA {w : World} {b : Nat} {A : List AbT} (h : LitAt w b (abRow A)) (hr : ∀ t ∈ A, AbR w t.1 t.2.1 t.2.2) (n : Nat) (hn : A.length = n) (hm : n ≤ 1000) : IsA w (some ⟨b, 0, none⟩) n A :=
  isA_row hn hr (h.row 13 n (by omega) (by rw [abRow_len, hn]; exact Nat.le_refl _))
theorem LitAt.up {w : World} {b : Nat} {cs : List Value} (h : LitAt w b cs) (o : Obj) : LitAt (w.alloc o) b cs := h.next (below_alloc1 _ _)
theorem litAt_top (w : World) (cs : List Value) (T : TypeId) (b : Nat) (hb : b = w.heap.size) : LitAt (w.alloc (.cells cs.toArray T)) b cs := by
  subst hb
  exact litAt_new w cs T
/-- Without its addresses. -/
def erA (x : Ab) : Ab := { x with ta := none, tc := 0, ca := none, cc := 0 }
def erT (t : AbT) : AbT := (erA t.1, t.2)
def erC (y : Cd) : Cd := { y with aa := none, ac := 0 }
/-- What plain tells, without addresses. -/
def pC : Nat → Cd
  | 1 => ⟨⟨#[97]⟩, 1, 0, 0, 0, 0, 2, 0, 0, 0, none, 1, 0⟩
  | 2 => ⟨⟨#[97]⟩, 2, 1, 0, 0, 2, 0, 2, 3, 3, none, 2, 0⟩
  | 3 => ⟨⟨#[97]⟩, 3, 1, 0, 0, 2, 0, 0, 0, 0, none, 1, 0⟩
  | _ => ⟨⟨#[97]⟩, 4, 1, 0, 0, 2, 0, 0, 0, 64, none, 2, 0⟩
def pA : Nat → List AbT
  | 1 => [(⟨2, 0, 0, 0, 0, 0, 0, true, none, 1, 0, none, 2, 0, 0, 0, 0⟩, [3], [⟨1, 1, 0⟩, ⟨10, 0, 0⟩])]
  | 2 => [(⟨3, 1, 1, 0, 0, 0, 0, false, none, 0, 0, none, 2, 0, 0, 0, 0⟩, [], [⟨1, 1, 0⟩, ⟨12, 3, 0⟩]), (⟨5, 2, 0, 0, 0, 0, 0, false, none, 0, 0, none, 0, 0, 0, 0, 0⟩, [], [])]
  | 3 => [(⟨1, 0, 0, 0, 0, 0, 0, false, none, 1, 0, none, 2, 0, 0, 0, 0⟩, [1], [⟨1, 2, 0⟩, ⟨10, 0, 0⟩])]
  | _ => [(⟨4, 0, 1, 0, 0, 0, 0, false, none, 0, 0, none, 0, 0, 4, 1, -1⟩, [], []), (⟨5, 1, 0, 0, 0, 0, 0, false, none, 0, 0, none, 0, 0, 0, 1, 0⟩, [], [])]
/-- It reads so, whatever becomes of the blocks X. -/
def CdX (X : Nat → Prop) (w : World) (y : Cd) (A : List AbT) : Prop :=
  ∀ W : World, w.heap.size ≤ W.heap.size → (∀ g o, g < w.heap.size → ¬ X g → W.cell? ⟨g, o, none⟩ = w.cell? ⟨g, o, none⟩) → CdR W y A
theorem CdX.now {X : Nat → Prop} {w : World} {y : Cd} {A : List AbT} (h : CdX X w y A) : CdR w y A := h w (Nat.le_refl _) fun _ _ _ _ => rfl
theorem CdX.next {X : Nat → Prop} {w w' : World} {y : Cd} {A : List AbT} (h : CdX X w y A) (k : Below w.heap.size w w') : CdX X w' y A :=
  fun W hs hc => h W (Nat.le_trans k.size hs) fun g o hg hx => (hc g o (Nat.lt_of_lt_of_le hg k.size) hx).trans (k.cell (p := ⟨g, o, none⟩) hg)
theorem CdX.set {X : Nat → Prop} {w : World} {y : Cd} {A : List AbT} (h : CdX X w y A) (b i : Nat) (hb : X b) (v : Value) : CdX X (w.setCell ⟨b, i, none⟩ v) y A :=
  fun W hs hc => h W (by simpa [World.setCell] using hs) fun g o hg hx => (hc g o (by simpa [World.setCell] using hg) hx).trans (World.cell?_setCell_far w ⟨b, i, none⟩ ⟨g, o, none⟩ v (fun e => hx (by rw [← (show b = g from e)]; exact hb)))
theorem CdX.less {X Y : Nat → Prop} {w : World} {y : Cd} {A : List AbT} (h : CdX X w y A) (hy : ∀ g, Y g → X g) : CdX Y w y A :=
  fun W hs hc => h W hs fun g o hg hx => hc g o hg (fun e => hx (hy g e))
theorem IsL.agree {w W : World} {a : Option Addr} {c : Nat} {L : List Int} (h : IsL w a c L) (hs : w.heap.size ≤ W.heap.size) (hc : ∀ g o, g < w.heap.size → W.cell? ⟨g, o, none⟩ = w.cell? ⟨g, o, none⟩) : IsL W a c L := by
  obtain ⟨h1, h2, h3 | ⟨b, off, h3, h4, h5⟩⟩ := h
  · exact ⟨h1, h2, .inl h3⟩
  · exact ⟨h1, h2, .inr ⟨b, off, h3, Nat.lt_of_lt_of_le h4 hs, fun j hj => (hc _ _ h4).trans (h5 j hj)⟩⟩
theorem IsC.agree {w W : World} {a : Option Addr} {c : Nat} {L : List Ins} (h : IsC w a c L) (hs : w.heap.size ≤ W.heap.size) (hc : ∀ g o, g < w.heap.size → W.cell? ⟨g, o, none⟩ = w.cell? ⟨g, o, none⟩) : IsC W a c L := by
  obtain ⟨h1, h2, h3 | ⟨b, off, h3, h4, h5⟩⟩ := h
  · exact ⟨h1, h2, .inl h3⟩
  · exact ⟨h1, h2, .inr ⟨b, off, h3, Nat.lt_of_lt_of_le h4 hs, fun j hj => ⟨(hc _ _ h4).trans (h5 j hj).1, (hc _ _ h4).trans (h5 j hj).2.1, (hc _ _ h4).trans (h5 j hj).2.2⟩⟩⟩
theorem AbR.agree {w W : World} {x : Ab} {T : List Int} {L : List Ins} (h : AbR w x T L) (hs : w.heap.size ≤ W.heap.size) (hc : ∀ g o, g < w.heap.size → W.cell? ⟨g, o, none⟩ = w.cell? ⟨g, o, none⟩) : AbR W x T L :=
  ⟨⟨h.1.1, h.1.2.agree hs hc⟩, h.2.1, h.2.2.agree hs hc⟩
theorem IsA.agree {w W : World} {a : Option Addr} {c : Nat} {A : List AbT} (h : IsA w a c A) (hs : w.heap.size ≤ W.heap.size) (hc : ∀ g o, g < w.heap.size → W.cell? ⟨g, o, none⟩ = w.cell? ⟨g, o, none⟩) : IsA W a c A := by
  obtain ⟨h1, h2, h0, h3⟩ := h
  refine ⟨h1, h2, fun t ht => (h0 t ht).agree hs hc, ?_⟩
  rcases h3 with h3 | ⟨b, off, h3, h4, h5⟩
  · exact .inl h3
  · exact .inr ⟨b, off, h3, Nat.lt_of_lt_of_le h4 hs, fun j hj i hi => (hc _ _ h4).trans (h5 j hj i hi)⟩
/-- What reads so in w reads so whatever becomes of blocks that w has not. -/
theorem CdR.old {X : Nat → Prop} {w w' : World} {y : Cd} {A : List AbT} (h : CdR w y A) (k : Below w.heap.size w w') (hX : ∀ g, X g → w.heap.size ≤ g) : CdX X w' y A :=
  fun W hs hc => ⟨h.1, h.2.agree (Nat.le_trans k.size hs) fun g o hg => (hc g o (Nat.lt_of_lt_of_le hg k.size) (fun e => by have := hX g e; omega)).trans (k.cell (p := ⟨g, o, none⟩) hg)⟩
theorem LitAt.agree {X : Nat → Prop} {w W : World} {b : Nat} {cs : List Value} (h : LitAt w b cs) (hs : w.heap.size ≤ W.heap.size) (hc : ∀ g o, g < w.heap.size → ¬ X g → W.cell? ⟨g, o, none⟩ = w.cell? ⟨g, o, none⟩) (hb : ¬ X b) : LitAt W b cs :=
  ⟨Nat.lt_of_lt_of_le h.1 hs, fun i hi => (hc b i h.1 hb).trans (h.2 i hi)⟩
/-- A card comes back that reads so, whatever becomes of the blocks X. -/
def OutC (X : Nat → Prop) (w w' : World) (e : Ending) (p : Cd × List AbT) : Prop :=
  ∃ y A, e = .returned (.agg #[.string y.nm, .int .i64 y.k, .int .i64 y.c0, .int .i64 y.c1, .int .i64 y.c2, .int .i64 y.c3, .int .i64 y.col, .int .i64 y.pow, .int .i64 y.tou, .int .i64 y.keys, .slice y.aa y.an y.ac]) ∧ CdX X w' y A ∧ CdOk y ∧ erC y = p.1 ∧ A.map erT = p.2 ∧ Below w.heap.size w w'
end Go.Proofs.YtbeaaieaffdgeaaGreatDoor
end
/- A pool in memory. -/
section
namespace Go.Proofs.YtbeaaieaffdgeaaGreatDoor
open Go.RowKit
set_option linter.unusedVariables false
set_option linter.unusedSimpArgs false

theorem cdCells_len (y : Cd) : (cdCells y).length = 11 := rfl
def cdRow (L : List CdT) : List Value := L.flatMap fun c => cdCells c.1
theorem cdRow_len : ∀ L : List CdT, (cdRow L).length = L.length * 11
  | [] => rfl
  | t :: A => by
    have := cdRow_len A
    simp only [cdRow, List.flatMap_cons, List.length_append, cdCells_len, List.length_cons] at *
    omega
theorem cdRow_at : ∀ (A : List CdT) (j : Nat) (h : j < A.length) (i : Nat), i < 11 → (cdRow A)[j * 11 + i]? = (cdCells A[j].1)[i]?
  | [], j, h, i, hi => by simp at h
  | t :: A, 0, h, i, hi => by
    simp only [cdRow, List.flatMap_cons]
    rw [List.getElem?_append_left (by rw [cdCells_len]; omega)]
    simp
  | t :: A, j + 1, h, i, hi => by
    have := cdRow_at A j (by simpa using h) i hi
    simp only [cdRow, List.flatMap_cons] at *
    rw [List.getElem?_append_right (by rw [cdCells_len]; omega), cdCells_len, show (j + 1) * 11 + i - 11 = j * 11 + i by omega, this]
    simp
/-- The slice of address a and capacity c reads as these cards. -/
def IsP (w : World) (a : Option Addr) (c : Nat) (L : List CdT) : Prop :=
  L.length ≤ c ∧ c ≤ 9223372036854775807 ∧ (∀ t ∈ L, CdR w t.1 t.2) ∧
  (L.length = 0 ∨ ∃ b off, a = some ⟨b, off, none⟩ ∧ b < w.heap.size ∧ ∀ j (h : j < L.length) i, i < 11 → w.cell? ⟨b, off + j * 11 + i, none⟩ = (cdCells L[j].1)[i]?)
theorem IsP.next {w w' : World} {a : Option Addr} {c : Nat} {L : List CdT} (h : IsP w a c L) (k : Below w.heap.size w w') : IsP w' a c L := by
  obtain ⟨h1, h2, h0, h3⟩ := h
  refine ⟨h1, h2, fun t ht => (h0 t ht).next k, ?_⟩
  rcases h3 with h3 | ⟨b, off, h3, h4, h5⟩
  · exact .inl h3
  · exact .inr ⟨b, off, h3, Nat.lt_of_lt_of_le h4 k.size, fun j hj i hi => (k.cell (p := ⟨b, off + j * 11 + i, none⟩) h4).trans (h5 j hj i hi)⟩
theorem IsP.nil (w : World) : IsP w none 0 [] := ⟨by simp, by omega, (fun t ht => by cases ht), .inl rfl⟩
theorem IsP.at {w : World} {a : Option Addr} {c : Nat} {L : List CdT} (h : IsP w a c L) (k : Nat) (hk : k < L.length) : ∃ b off y A, (y, A) = L[k] ∧ CdR w y A ∧ a = some ⟨b, off, none⟩ ∧ b < w.heap.size ∧
    (w.cell? ⟨b, off + k * 11, none⟩ = some (.string y.nm) ∧
    w.cell? ⟨b, off + k * 11 + 1, none⟩ = some (.int .i64 y.k) ∧
    w.cell? ⟨b, off + k * 11 + 2, none⟩ = some (.int .i64 y.c0) ∧
    w.cell? ⟨b, off + k * 11 + 3, none⟩ = some (.int .i64 y.c1) ∧
    w.cell? ⟨b, off + k * 11 + 4, none⟩ = some (.int .i64 y.c2) ∧
    w.cell? ⟨b, off + k * 11 + 5, none⟩ = some (.int .i64 y.c3) ∧
    w.cell? ⟨b, off + k * 11 + 6, none⟩ = some (.int .i64 y.col) ∧
    w.cell? ⟨b, off + k * 11 + 7, none⟩ = some (.int .i64 y.pow) ∧
    w.cell? ⟨b, off + k * 11 + 8, none⟩ = some (.int .i64 y.tou) ∧
    w.cell? ⟨b, off + k * 11 + 9, none⟩ = some (.int .i64 y.keys) ∧
    w.cell? ⟨b, off + k * 11 + 10, none⟩ = some (.slice y.aa y.an y.ac)) := by
  obtain ⟨h1, h2, h0, h3 | ⟨b, off, h3, h4, h5⟩⟩ := h
  · omega
  · have h6 := h5 k hk
    exact ⟨b, off, L[k].1, L[k].2, rfl, h0 _ (List.getElem_mem hk), h3, h4, h6 0 (by omega), h6 1 (by omega), h6 2 (by omega), h6 3 (by omega), h6 4 (by omega), h6 5 (by omega), h6 6 (by omega), h6 7 (by omega), h6 8 (by omega), h6 9 (by omega), h6 10 (by omega)⟩
theorem isP_row {w : World} {a : Option Addr} {c n : Nat} {L : List CdT} (hn : L.length = n) (hr : ∀ t ∈ L, CdR w t.1 t.2) (h : Row w a c 11 n (cdRow L)) : IsP w a c L := by
  subst hn
  obtain ⟨h1, h2, h3 | ⟨b, off, h3, h4, h5⟩⟩ := h
  · exact ⟨h1, h2, hr, .inl h3⟩
  · exact ⟨h1, h2, hr, .inr ⟨b, off, h3, h4, fun j hj i hi => by
      have := h5 (j * 11 + i) (by omega)
      rw [← Nat.add_assoc] at this
      rw [this, cdRow_at L j hj i hi]⟩⟩
end Go.Proofs.YtbeaaieaffdgeaaGreatDoor
end
/- What reads so as long as rows of some types stand, whatever becomes of the reader; lists that are read one by one. -/
section
namespace Go.Proofs.YtbeaaieaffdgeaaGreatDoor
open Go.RowKit
set_option linter.unusedVariables false
set_option linter.unusedSimpArgs false

def Kd (S : List TypeId) (rb : Nat) (R : World → Prop) (w : World) : Prop :=
  ∀ W : World, w.heap.size ≤ W.heap.size → (∀ k c e fz, w.heap[k]? = some (.cells c e fz) → S.contains e = true → k ≠ rb → W.heap[k]? = w.heap[k]?) → R W
theorem Kd.now {S : List TypeId} {rb : Nat} {R : World → Prop} {w : World} (h : Kd S rb R w) : R w := h w (Nat.le_refl _) fun _ _ _ _ _ _ _ => rfl
theorem Kd.next {S : List TypeId} {rb : Nat} {R : World → Prop} {w w' : World} (h : Kd S rb R w) (hs : w.heap.size ≤ w'.heap.size) (hk : ∀ k c e fz, w.heap[k]? = some (.cells c e fz) → S.contains e = true → k ≠ rb → w'.heap[k]? = w.heap[k]?) : Kd S rb R w' :=
  fun W h1 h2 => h W (Nat.le_trans hs h1) fun k c e fz hc he hne => (h2 k c e fz ((hk k c e fz hc he hne).trans hc) he hne).trans (hk k c e fz hc he hne)
theorem Kd.read {S : List TypeId} {rb : Nat} {R : World → Prop} {w w' : World} (h : Kd S rb R w) (g : w.grownBy w' (some rb)) : Kd S rb R w' :=
  h.next g.size fun k c e fz hc he hne => g.block k (Array.getElem?_eq_some_iff.1 hc).1 (fun q => hne (Option.some.inj q))
theorem Kd.below {S : List TypeId} {rb : Nat} {R : World → Prop} {w w' : World} (h : Kd S rb R w) (g : Below w.heap.size w w') : Kd S rb R w' :=
  h.next g.size fun k c e fz hc he hne => g.block k (Array.getElem?_eq_some_iff.1 hc).1
/-- A row of another type is written. -/
theorem Kd.row {S : List TypeId} {rb : Nat} {R : World → Prop} {w w' : World} {row : Option Nat} {E : TypeId} (h : Kd S rb R w) (g : w.grownBy w' row) (hE : S.contains E = false) (hr : ∀ k, row = some k → ∃ c fz, w.heap[k]? = some (.cells c E fz)) : Kd S rb R w' :=
  h.next g.size fun k c e fz hc he hne => g.block k (Array.getElem?_eq_some_iff.1 hc).1 (fun q => by
    obtain ⟨c', fz', h'⟩ := hr k q.symm
    rw [hc] at h'
    injection h' with h'
    injection h' with _ h2 _
    rw [h2, hE] at he
    cases he)
theorem Kd.more {S S' : List TypeId} {rb : Nat} {R : World → Prop} {w : World} (h : Kd S rb R w) (hS : ∀ e, S.contains e = true → S'.contains e = true) : Kd S' rb R w :=
  fun W h1 h2 => h W h1 fun k c e fz hc he hne => h2 k c e fz hc (hS e he) hne
theorem Kd.map {S : List TypeId} {rb : Nat} {R R' : World → Prop} {w : World} (h : Kd S rb R w) (hR : ∀ W, R W → R' W) : Kd S rb R' w := fun W h1 h2 => hR W (h W h1 h2)
theorem Kd.two {S : List TypeId} {rb : Nat} {R R' : World → Prop} {w : World} (h : Kd S rb R w) (k : Kd S rb R' w) : Kd S rb (fun W => R W ∧ R' W) w := fun W h1 h2 => ⟨h W h1 h2, k W h1 h2⟩
theorem Kd.triv (S : List TypeId) (rb : Nat) (w : World) : Kd S rb (fun _ => True) w := fun _ _ _ => trivial
theorem ownsRow_kind {w : World} {B e size : Nat} {v : Value} {n : Nat} {xs : List Value} (h : w.ownsRow B e size v n xs) : ∀ g, v.ownBlock = some g → ∃ c fz, w.heap[g]? = some (.cells c e fz) := by
  intro g hg
  rcases h.2 with ⟨rfl, _⟩ | ⟨g', cap, cur, rfl, _, hgg, _⟩
  · simp [Value.ownBlock] at hg
  · simp [Value.ownBlock] at hg
    subst hg
    exact ⟨cur, _, hgg⟩
/-- An owned row is a slice that reads so. -/
theorem own_kd {w : World} {B e size : Nat} {v : Value} {n : Nat} {xs : List Value} {rb : Nat} (h : w.ownsRow B e size v n xs) (hB : rb < B) : ∃ a c, v = .slice a n c ∧ Kd [e] rb (fun W => Row W a c size n xs) w := by
  have h' := h
  obtain ⟨h1, h2⟩ := h
  rcases h2 with ⟨rfl, h2⟩ | ⟨g, c, cur, rfl, hg, hh, hc, hm, _⟩
  · rw [h2]
    exact ⟨none, 0, rfl, fun W _ _ => ⟨by omega, by omega, .inl rfl⟩⟩
  · unfold maxLen at hm
    refine ⟨_, c, rfl, fun W hs hk => ⟨hc, hm, .inr ⟨g, 0, rfl, Nat.lt_of_lt_of_le (Array.getElem?_eq_some_iff.1 hh).1 hs, fun i hi => ?_⟩⟩⟩
    rw [Nat.zero_add, World.cell?_of_block (w := w) (hk g _ _ _ hh (by simp) (by omega)), h'.cellAt i (by omega)]
theorem own_read {w w' : World} {base e size n b : Nat} {v : Value} {xs : List Value} (h : w.ownsRow base e size v n xs) (g : w.grownBy w' (some b)) (hb : b < base) : w'.ownsRow base e size v n xs := by
  refine h.kept g ?_
  rcases h.2 with ⟨rfl, _⟩ | ⟨g', cap, cur, rfl, hg, _⟩
  · exact .inl rfl
  · exact .inr (fun e => by have : g' = b := Option.some.inj e; omega)
/-- What a value is that was read: an element that reads so, told without its addresses. -/
def VV {α : Type} (g : α → α) (val : α → Value) (C : α → Prop) (S : List TypeId) (R : α → World → Prop) (rb : Nat) (x : α) (v : Value) (w : World) : Prop := ∃ y, g y = x ∧ v = val y ∧ C y ∧ Kd S rb (R y) w
/-- So many are read; so many are left to be read. -/
def Part {α : Type} (f : Tk α) (n : Nat) (s0 : ByteArray) (i : Nat) (l : List α) (s : ByteArray) : Prop :=
  (pRep f (n - i) s = none → pRep f n s0 = none) ∧ ∀ r t, pRep f (n - i) s = some (r, t) → pRep f n s0 = some (l ++ r, t)
theorem Part.start {α : Type} (f : Tk α) (n : Nat) (s : ByteArray) : Part f n s 0 [] s := ⟨fun h => h, fun r t h => h⟩
theorem pRep_none {α : Type} {f : Tk α} {s : ByteArray} (h : f s = none) (k : Nat) : pRep f (k + 1) s = none := then_none h
theorem pRep_some {α : Type} {f : Tk α} {s t : ByteArray} {x : α} (h : f s = some (x, t)) (k : Nat) : pRep f (k + 1) s = (pRep f k t).map fun p => (x :: p.1, p.2) := by
  show (f.then fun x => (pRep f k).then fun l => Tk.give (x :: l)) s = _
  rw [then_of h]
  show ((pRep f k).then fun l => Tk.give (x :: l)) t = _
  cases hq : pRep f k t with
  | none => rw [then_none hq]; rfl
  | some p =>
    obtain ⟨l, u⟩ := p
    rw [then_of hq]
    rfl
theorem Part.fails {α : Type} {f : Tk α} {n : Nat} {s0 s : ByteArray} {i : Nat} {l : List α} (h : Part f n s0 i l s) (hi : i < n) (hf : f s = none) : pRep f n s0 = none :=
  h.1 (by rw [show n - i = (n - (i + 1)) + 1 by omega]; exact pRep_none hf _)
theorem Part.step {α : Type} {f : Tk α} {n : Nat} {s0 s t : ByteArray} {i : Nat} {l : List α} {x : α} (h : Part f n s0 i l s) (hi : i < n) (hf : f s = some (x, t)) : Part f n s0 (i + 1) (l ++ [x]) t := by
  have e : pRep f (n - i) s = (pRep f (n - (i + 1)) t).map fun p => (x :: p.1, p.2) := by
    rw [show n - i = (n - (i + 1)) + 1 by omega]; exact pRep_some hf _
  refine ⟨fun hn => h.1 (by rw [e, hn]; rfl), fun r u hr => ?_⟩
  rw [h.2 (x :: r) u (by rw [e, hr]; rfl)]
  simp
theorem Part.ends {α : Type} {f : Tk α} {n : Nat} {s0 s : ByteArray} {l : List α} (h : Part f n s0 n l s) : pRep f n s0 = some (l, s) := by
  have := h.2 [] s (by rw [Nat.sub_self]; rfl)
  simpa using this
theorem pList_of {α : Type} {m : Nat} {f : Tk α} {s t : ByteArray} {n : Int} (h : pUp m s = some (n, t)) : pList m f s = pRep f n.toNat t := then_of h
theorem pUp_nat {m : Nat} {s t : ByteArray} {i : Int} (h : pUp m s = some (i, t)) : ∃ n : Nat, i = (n : Int) ∧ n ≤ m := by
  obtain ⟨_, h0, h1⟩ := row_up m s i t h
  exact ⟨i.toNat, by omega, by omega⟩
theorem grown_own {w w4 w5 : World} {o : Obj} {sv : Value} {rb e size n : Nat} {xs : List Value} (h : w.grownBy w4 (some rb)) (hown : (w4.alloc o).ownsRow w.heap.size e size sv n xs) (hg : (w4.alloc o).grownBy w5 sv.ownBlock) : w.grownBy w5 (some rb) :=
  have h4 := grown_new h o
  ⟨hg.os.trans h4.os, hg.tape.trans h4.tape, hg.output.trans h4.output, Nat.le_trans h4.size hg.size, fun k hk hne => (hg.block k (Nat.lt_of_lt_of_le hk h4.size) (fun q => by have := (hown.lt k q.symm).1; omega)).trans (h4.block k hk hne)⟩
theorem rd_own {w4 w5 : World} {o : Obj} {sv : Value} {B rb e size n : Nat} {xs : List Value} {u : ByteArray} (h : Rd1 rb u w4) (hown : (w4.alloc o).ownsRow B e size sv n xs) (hg : (w4.alloc o).grownBy w5 sv.ownBlock) (hrb : rb < B) : Rd1 rb u w5 :=
  (hg.block rb (h.alloc o).lt (fun q => by have := (hown.lt rb q.symm).1; omega)).trans (h.alloc o)
theorem kd_own {w4 w5 : World} {o : Obj} {sv : Value} {S : List TypeId} {R : World → Prop} {B rb e size n : Nat} {xs : List Value} (h : Kd S rb R w4) (hown : (w4.alloc o).ownsRow B e size sv n xs) (hg : (w4.alloc o).grownBy w5 sv.ownBlock) (hE : S.contains e = false) : Kd S rb R w5 :=
  (h.below (below_alloc1 w4 o)).row hg hE (ownsRow_kind hown)
end Go.Proofs.YtbeaaieaffdgeaaGreatDoor
end
/- The kinds of what is read in lists. -/
section
namespace Go.Proofs.YtbeaaieaffdgeaaGreatDoor
open Go.RowKit
set_option linter.unusedVariables false
set_option linter.unusedSimpArgs false

/-- A kind of element: told without its addresses; as a value; what it keeps; the types of the rows on which it hangs; what it reads as. -/
structure Kind (α : Type) where
  g : α → α
  val : α → Value
  C : α → Prop
  S : List TypeId
  R : α → World → Prop
abbrev vI : Kind Int := ⟨id, .int .i64, fun _ => True, [], fun _ _ => True⟩
abbrev vN : Kind Ins := ⟨id, fun y => .agg #[.int .i64 y.op, .int .i64 y.a, .int .i64 y.b], fun _ => True, [], fun _ _ => True⟩
abbrev vA : Kind AbT := ⟨bareA, fun y => .agg #[.int .i64 y.1.k, .int .i64 y.1.ev, .int .i64 y.1.wh, .int .i64 y.1.c0, .int .i64 y.1.c1, .int .i64 y.1.c2, .int .i64 y.1.c3, .bool y.1.tap, .slice y.1.ta y.1.tn y.1.tc, .slice y.1.ca y.1.cn y.1.cc, .int .i64 y.1.op, .int .i64 y.1.a, .int .i64 y.1.b], fun _ => True, [3, 82], fun y W => AbR W y.1 y.2.1 y.2.2⟩
abbrev vC : Kind CdT := ⟨bareC, fun y => .agg #[.string y.1.nm, .int .i64 y.1.k, .int .i64 y.1.c0, .int .i64 y.1.c1, .int .i64 y.1.c2, .int .i64 y.1.c3, .int .i64 y.1.col, .int .i64 y.1.pow, .int .i64 y.1.tou, .int .i64 y.1.keys, .slice y.1.aa y.1.an y.1.ac], fun y => CdOk y.1, [3, 82, 42], fun y W => CdR W y.1 y.2⟩
theorem infoI : (Tryz.prog.info? 3).map (fun i => (i.zero, i.size, i.bytes)) = some (some (.int .i64 0), 1, 8) := by kernel_rfl
theorem infoN : (Tryz.prog.info? 82).map (fun i => (i.zero, i.size, i.bytes)) = some (some (.agg #[.int .i64 0, .int .i64 0, .int .i64 0]), 3, 24) := by kernel_rfl
theorem infoA : (Tryz.prog.info? 42).map (fun i => (i.zero, i.size, i.bytes)) = some (some (.agg #[.int .i64 0, .int .i64 0, .int .i64 0, .int .i64 0, .int .i64 0, .int .i64 0, .int .i64 0, .bool false, .slice none 0 0, .slice none 0 0, .int .i64 0, .int .i64 0, .int .i64 0]), 13, 136) := by kernel_rfl
theorem infoC : (Tryz.prog.info? 38).map (fun i => (i.zero, i.size, i.bytes)) = some (some (.agg #[.string ⟨#[]⟩, .int .i64 0, .int .i64 0, .int .i64 0, .int .i64 0, .int .i64 0, .int .i64 0, .int .i64 0, .int .i64 0, .int .i64 0, .slice none 0 0]), 11, 112) := by kernel_rfl
theorem abRow_snoc (A : List AbT) (t : AbT) : abRow (A ++ [t]) = abRow A ++ abCells t.1 := by simp [abRow]
theorem cdRow_snoc (A : List CdT) (t : CdT) : cdRow (A ++ [t]) = cdRow A ++ cdCells t.1 := by simp [cdRow]
/-- A list that was read. -/
def VL {α : Type} (V : Kind α) (e : TypeId) (size : Nat) (rw : List α → List Value) (rb : Nat) (l : List α) (v : Value) (w : World) : Prop :=
  ∃ M a c, M.map V.g = l ∧ v = .slice a M.length c ∧ (∀ y ∈ M, V.C y) ∧ Kd (e :: V.S) rb (fun W => Row W a c size M.length (rw M) ∧ ∀ y ∈ M, V.R y W) w
theorem VL.of {α : Type} {V : Kind α} {e size rb : Nat} {rw : List α → List Value} {w : World} {B : Nat} {v : Value} {M : List α} (h : w.ownsRow B e size v M.length (rw M)) (hB : rb < B) (hM : ∀ y ∈ M, V.C y ∧ Kd V.S rb (V.R y) w) : VL V e size rw rb (M.map V.g) v w := by
  obtain ⟨a, c, e1, hk⟩ := own_kd h hB
  refine ⟨M, a, c, rfl, e1, fun y hy => (hM y hy).1, ?_⟩
  refine (hk.more (S' := e :: V.S) (fun e' he' => ?_)).two (fun W h1 h2 y hy => (hM y hy).2 W h1 (fun k c e' fz hc he' hne => h2 k c e' fz hc ?_ hne))
  · rw [List.contains_cons, Bool.or_eq_true]
    left
    simpa using he'
  · rw [List.contains_cons, he', Bool.or_true]
end Go.Proofs.YtbeaaieaffdgeaaGreatDoor
end
/- A region that draws its order, proved by what each slot holds once its operation is done: whatever the order, each operation is met once. No program. -/
section
namespace Go.Proofs.YtbeaaieaffdgeaaGreatDoor
open Go.RowKit
set_option linter.unusedVariables false

theorem range_split (i m : Nat) : List.range (i + (1 + m)) = List.range i ++ i :: (List.range m).map (fun j => i + (1 + j)) := by
  rw [List.range_add, List.range_add, List.map_append, List.map_map]
  simp [List.range_succ]
/-- What is known of a slot: its value; that it is a slice that reads as a list; nothing. -/
inductive Cl where
  | val (v : Value)
  | lst (L : List Int)
  | any
def Cl.ok (c : Cl) (v : Value) (w : World) : Prop :=
  match c with
  | .val u => v = u
  | .lst L => ∃ a k, v = .slice a L.length k ∧ IsL w a k L
  | .any => True
theorem Cl.ok.next {c : Cl} {v : Value} {w w' : World} (h : c.ok v w) (k : Below w.heap.size w w') : c.ok v w' := by
  cases c with
  | val u => exact h
  | lst L => obtain ⟨a, n, e, hl⟩ := h; exact ⟨a, n, e, hl.next k⟩
  | any => trivial

/-- How many operations are not done. -/
def undone (n : Nat) (listed : Array Bool) : Nat := ((List.range n).filter fun i => !listed.getD i true).length
theorem getD_set (listed : Array Bool) (i j : Nat) (b : Bool) (hij : j ≠ i) : (listed.setIfInBounds i true).getD j b = listed.getD j b := by
  simp only [Array.getD_eq_getD_getElem?, Array.getElem?_setIfInBounds]
  rw [if_neg (fun e => hij e.symm)]
theorem getD_set_same (listed : Array Bool) (i : Nat) (b : Bool) (hi : i < listed.size) : (listed.setIfInBounds i true).getD i b = true := by
  simp only [Array.getD_eq_getD_getElem?, Array.getElem?_setIfInBounds, if_pos hi, if_true]
  rfl
theorem undone_set (n i : Nat) (listed : Array Bool) (hn : i < n) (hs : listed.size = n) (h : listed.getD i true = false) : undone n (listed.setIfInBounds i true) < undone n listed := by
  unfold undone
  obtain ⟨m, rfl⟩ : ∃ m, n = i + (1 + m) := ⟨n - i - 1, by omega⟩
  have e1 : ((List.range i).filter fun j => !(listed.setIfInBounds i true).getD j true) = (List.range i).filter fun j => !listed.getD j true := List.filter_congr fun j hj => by
    rw [getD_set _ _ _ _ (by have := List.mem_range.1 hj; omega)]
  have e2 : (((List.range m).map (fun j => i + (1 + j))).filter fun j => !(listed.setIfInBounds i true).getD j true) = ((List.range m).map (fun j => i + (1 + j))).filter fun j => !listed.getD j true := List.filter_congr fun j hj => by
    obtain ⟨k, _, rfl⟩ := List.mem_map.1 hj
    rw [getD_set _ _ _ _ (by omega)]
  rw [range_split, List.filter_append, List.filter_append, List.filter_cons, List.filter_cons, e1, e2, h, getD_set_same _ _ _ (by omega)]
  simp

section
variable {P : Program} {ops : Array Oper} {Q : Exit → Act → World → Prop}

/-- What is asked of one operation that is ready: that it leads to where it is done. -/
theorem ready_spec {listed : Array Bool} {i : Nat} (h : i ∈ Region.ready .any ops listed) : i < ops.size ∧ listed.getD i true = false ∧ ∀ o : Oper, ops[i]? = some o → ∀ e ∈ o.after.toList, Region.binds .any e = true → listed.getD e.on false = true := by
  unfold Region.ready at h
  rw [List.mem_filter, List.mem_range] at h
  obtain ⟨h1, h2⟩ := h
  rw [Bool.and_eq_true] at h2
  refine ⟨h1, by simpa using h2.1, fun o ho e he hb => ?_⟩
  have h3 := h2.2
  rw [ho] at h3
  simp only [Option.map_some, Option.getD_some, Array.all_eq_true_iff_forall_mem] at h3
  have := h3 e (by simpa using he)
  simpa [hb] using this
theorem any_inv (A : Array Bool → Act → World → Prop) (hsz : ∀ l a w, A l a w → l.size = ops.size)
    (step : ∀ l a w i, A l a w → i ∈ Region.ready .any ops l → wpOp P ops Q i (A (l.setIfInBounds i true)) a w)
    (fin : ∀ l a w, A l a w → Region.ready .any ops l = [] → Q .normal a w) :
    ∀ (fuel : Nat) (l : Array Bool) (a : Act) (w : World), undone ops.size l ≤ fuel → A l a w → wpAny P .any ops Q fuel l a w := by
  intro fuel
  induction fuel with
  | zero =>
    intro l a w hu hA
    have h0 : Region.ready .any ops l = [] := by
      unfold Region.ready
      rw [List.filter_eq_nil_iff]
      intro i hi hh
      have : ((List.range ops.size).filter fun i => !l.getD i true) = [] := List.length_eq_zero_iff.1 (Nat.le_zero.1 hu)
      rw [List.filter_eq_nil_iff] at this
      rw [Bool.and_eq_true] at hh
      exact this i hi hh.1
    exact ⟨h0, fin l a w hA h0⟩
  | succ fuel ih =>
    intro l a w hu hA
    refine ⟨fun h0 => fin l a w hA h0, fun i hi => ?_⟩
    have hr := ready_spec hi
    exact wpOp_mono (fun a' w' hA' => ih _ _ _ (by have := undone_set _ i l hr.1 (hsz l a w hA) hr.2.1; omega) hA') (step l a w i hA hi)
/-- If none is ready all are done: each waits for earlier ones alone. -/
theorem all_done (hlt : ∀ (i : Nat) (o : Oper), ops[i]? = some o → ∀ e ∈ o.after.toList, e.on < i) {l : Array Bool} (h0 : Region.ready .any ops l = []) (hs : l.size = ops.size) : ∀ i, i < ops.size → l.getD i false = true := by
  intro i
  induction i using Nat.strongRecOn with
  | ind i ih =>
    intro hi
    cases hb : l.getD i true with
    | true => 
      simp only [Array.getD_eq_getD_getElem?] at hb ⊢
      rw [Array.getElem?_eq_getElem (by omega)] at hb ⊢
      exact hb
    | false =>
      have : i ∈ Region.ready .any ops l := by
        unfold Region.ready
        rw [List.mem_filter, List.mem_range]
        refine ⟨hi, ?_⟩
        rw [hb, Array.getElem?_eq_getElem hi]
        simp only [Bool.not_false, Bool.true_and, Option.map_some, Option.getD_some, Array.all_eq_true_iff_forall_mem]
        intro e he
        have h1 := hlt i ops[i] (Array.getElem?_eq_getElem hi) e (by simpa using he)
        rw [ih e.on h1 (by omega), Bool.or_true]
      rw [h0] at this
      cases this
/-- Where the operations of l are done: each one's slot is as the table says; the fixed slots are as they were; H holds. -/
structure At (ops : Array Oper) (n : Nat) (tab : Array Cl) (base : Nat → Option Value) (H : World → Prop) (l : Array Bool) (a : Act) (w : World) : Prop where
  sz : l.size = ops.size
  tmps : a.tmps.size = n
  defers : a.defers = []
  hold : H w
  fixed : ∀ s v, base s = some v → a.tmps.getD s undef = v
  done : ∀ i d, l.getD i false = true → (ops[i]?).bind (·.dst) = some d → (tab.getD i .any).ok (a.tmps.getD d undef) w
variable {n : Nat} {tab : Array Cl} {base : Nat → Option Value} {H : World → Prop} {l : Array Bool} {a : Act} {w : World}
/-- Each operation has a slot of its own, which is not fixed. -/
def ownSlots (ops : Array Oper) (n : Nat) (base : Nat → Option Value) : Prop :=
  ∀ (i : Nat) (o : Oper), ops[i]? = some o → ∃ d, o.dst = some d ∧ d < n ∧ base d = none ∧ ∀ (j : Nat) (o' : Oper), ops[j]? = some o' → o'.dst = some d → j = i
theorem At.put (h : At ops n tab base H l a w) (hown : ownSlots ops n base) (hH : ∀ w w', H w → Below w.heap.size w w' → H w') {i : Nat} {o : Oper} (ho : ops[i]? = some o) {v : Value} {w' : World} (hb : Below w.heap.size w w')
    (hv : (tab.getD i .any).ok v w') : At ops n tab base H (l.setIfInBounds i true) (a.put o.dst v) w' := by
  obtain ⟨d, hd, hdn, hdb, huniq⟩ := hown i o ho
  have hi : i < ops.size := (Array.getElem?_eq_some_iff.1 ho).1
  rw [hd]
  refine ⟨by rw [Array.size_setIfInBounds]; exact h.sz, by show (a.tmps.setIfInBounds d v).size = n; rw [Array.size_setIfInBounds]; exact h.tmps, h.defers, hH _ _ h.hold hb, fun s u hs => ?_, fun j d' hj hd' => ?_⟩
  · show (a.tmps.setIfInBounds d v).getD s undef = u
    have hne : d ≠ s := fun e => by rw [← e, hdb] at hs; cases hs
    have := h.fixed s u hs
    simp only [Array.getD_eq_getD_getElem?, Array.getElem?_setIfInBounds, if_neg hne] at this ⊢
    exact this
  · show (tab.getD j .any).ok ((a.tmps.setIfInBounds d v).getD d' undef) w'
    by_cases hji : j = i
    · subst hji
      rw [ho] at hd'
      have e : d' = d := by simpa [hd] using hd'.symm
      subst e
      have ev : (a.tmps.setIfInBounds d' v).getD d' undef = v := by
        simp only [Array.getD_eq_getD_getElem?, Array.getElem?_setIfInBounds, h.tmps, if_pos hdn, if_true]
        rfl
      rw [ev]
      exact hv
    · have hne : d ≠ d' := fun e => by
        subst e
        cases hoj : ops[j]? with
        | none => rw [hoj] at hd'; cases hd'
        | some oj =>
          rw [hoj] at hd'
          exact hji (huniq j oj hoj (by simpa using hd'))
      rw [getD_set _ _ _ _ hji] at hj
      have := (h.done j d' hj hd').next hb
      simp only [Array.getD_eq_getD_getElem?, Array.getElem?_setIfInBounds, if_neg hne] at this ⊢
      exact this
/-- The guard's operation is done, and says what the guard asks. -/
def guardOk (ops : Array Oper) (a : Act) (o : Oper) : Prop := Region.wanted o (yielded ops a.tmps) = true
theorem At.guard (h : At ops n tab base H l a w) (hown : ownSlots ops n base) {o : Oper} {g : Nat} {b : Bool} (hg : o.guard = some (g, b)) (hl : l.getD g false = true) (ht : tab.getD g .any = .val (.bool b)) (hgs : g < ops.size) : guardOk ops a o := by
  obtain ⟨d, hd, hdn, _, _⟩ := hown g _ (Array.getElem?_eq_getElem hgs)
  have hv := h.done g d hl (by rw [Array.getElem?_eq_getElem hgs]; exact hd)
  rw [ht] at hv
  have hv' : a.tmps.getD d undef = .bool b := hv
  have hdt : d < a.tmps.size := by rw [h.tmps]; exact hdn
  simp only [Array.getD_eq_getD_getElem?, Array.getElem?_eq_getElem hdt, Option.getD_some] at hv'
  unfold guardOk Region.wanted yielded
  rw [hg]
  simp only [Array.getElem?_eq_getElem hgs, Option.bind_some, hd, Array.getElem?_eq_getElem hdt, hv']
  simp
theorem guard_none {o : Oper} (hg : o.guard = none) : guardOk ops a o := by unfold guardOk Region.wanted; rw [hg]
/-- An operation that yields a value. -/
theorem At.yields (h : At ops n tab base H l a w) (hown : ownSlots ops n base) (hH : ∀ w w', H w → Below w.heap.size w w' → H w') {i : Nat} {o : Oper} (ho : ops[i]? = some o) (hg : guardOk ops a o) {v : Value} {w' : World}
    (hrun : (execOp a.eval o).run P w = .ok (.value v) w') (hb : Below w.heap.size w w') (hv : (tab.getD i .any).ok v w') : wpOp P ops Q i (At ops n tab base H (l.setIfInBounds i true)) a w := by
  unfold wpOp
  rw [ho]
  simp only
  rw [if_pos (show Region.wanted o (yielded ops a.tmps) = true from hg)]
  left
  unfold Oper.wp
  rw [hrun]
  exact h.put hown hH ho hb hv
/-- An operation that calls. -/
theorem At.calls (h : At ops n tab base H l a w) (hown : ownSlots ops n base) (hH : ∀ w w', H w → Below w.heap.size w w' → H w') {i : Nat} {o : Oper} (ho : ops[i]? = some o) (hg : guardOk ops a o) {f : FuncId} {args : Array Value}
    (hrun : (execOp a.eval o).run P w = .ok (.enter f args) w) (hc : Calls P f args w fun e w' => ∃ v, e = .returned v ∧ Below w.heap.size w w' ∧ (tab.getD i .any).ok v w') :
    wpOp P ops Q i (At ops n tab base H (l.setIfInBounds i true)) a w := by
  unfold wpOp
  rw [ho]
  simp only
  rw [if_pos (show Region.wanted o (yielded ops a.tmps) = true from hg)]
  left
  unfold Oper.wp
  rw [hrun]
  refine Calls.mono hc ?_
  rintro e w' ⟨v, rfl, hb, hv⟩
  exact h.put hown hH ho hb hv
/-- The whole region. -/
theorem region_inv {id : Nat} (hm : P.follows .mixedOrders = true) (hlt : ∀ (i : Nat) (o : Oper), ops[i]? = some o → ∀ e ∈ o.after.toList, e.on < i)
    (start : At ops n tab base H (Array.replicate ops.size false) a w.drew)
    (step : ∀ l a w i, At ops n tab base H l a w → i < ops.size → (∀ o : Oper, ops[i]? = some o → ∀ e ∈ o.after.toList, Region.binds .any e = true → l.getD e.on false = true) → wpOp P ops Q i (At ops n tab base H (l.setIfInBounds i true)) a w)
    (fin : ∀ l a w, At ops n tab base H l a w → (∀ i, i < ops.size → l.getD i false = true) → Q .normal a w) : (Code.region id ops true).wp P Q a w := by
  refine wp_region_any hm ?_
  refine any_inv (At ops n tab base H) (fun l a w h => h.sz) (fun l a w i h hi => ?_) (fun l a w h h0 => fin l a w h (all_done hlt h0 h.sz)) _ _ _ _ ?_ start
  · have hr := ready_spec hi
    exact step l a w i h hr.1 hr.2.2
  · exact Nat.le_trans (List.length_filter_le _ _) (by simp)
end
section
variable {ops : Array Oper}
/-- The two closed checks, and what they give. -/
def ownB (ops : Array Oper) (n : Nat) (bs : List Nat) : Bool :=
  (List.range ops.size).all fun i => match (ops[i]?).bind (·.dst) with
    | some d => decide (d < n) && !bs.contains d && (List.range ops.size).all fun j => j == i || (ops[j]?).bind (·.dst) != some d
    | none => false
theorem own_of {n : Nat} {bs : List Nat} {base : Nat → Option Value} (h : ownB ops n bs = true) (hb : ∀ d, bs.contains d = false → base d = none) : ownSlots ops n base := by
  intro i o ho
  have hi : i < ops.size := (Array.getElem?_eq_some_iff.1 ho).1
  unfold ownB at h
  rw [List.all_eq_true] at h
  have h1 := h i (List.mem_range.2 hi)
  rw [ho] at h1
  cases hd : o.dst with
  | none => simp [hd] at h1
  | some d =>
    simp only [Option.bind_some, hd, Bool.and_eq_true, decide_eq_true_eq, List.all_eq_true] at h1
    refine ⟨d, rfl, h1.1.1, hb d (by simpa using h1.1.2), fun j o' ho' hd' => ?_⟩
    have h2 := h1.2 j (List.mem_range.2 (Array.getElem?_eq_some_iff.1 ho').1)
    rw [ho'] at h2
    simp only [Option.bind_some, hd', bne_self_eq_false, Bool.or_false] at h2
    simpa using h2
def earlierB (ops : Array Oper) : Bool := (List.range ops.size).all fun i => ((ops[i]?).map fun o => o.after.toList.all fun e => decide (e.on < i)).getD true
theorem earlier_of (h : earlierB ops = true) : ∀ (i : Nat) (o : Oper), ops[i]? = some o → ∀ e ∈ o.after.toList, e.on < i := by
  intro i o ho e he
  unfold earlierB at h
  rw [List.all_eq_true] at h
  have h1 := h i (List.mem_range.2 (Array.getElem?_eq_some_iff.1 ho).1)
  rw [ho] at h1
  simp only [Option.map_some, Option.getD_some, List.all_eq_true, decide_eq_true_eq] at h1
  exact h1 e he
def depOn (ops : Array Oper) (i j : Nat) : Bool := ((ops[i]?).map fun o => o.after.toList.any fun e => e.on == j && Region.binds .any e).getD false
theorem dep {i : Nat} {l : Array Bool} (hd : ∀ o : Oper, ops[i]? = some o → ∀ e ∈ o.after.toList, Region.binds .any e = true → l.getD e.on false = true) (j : Nat) (h : depOn ops i j = true) : l.getD j false = true := by
  unfold depOn at h
  cases ho : ops[i]? with
  | none => rw [ho] at h; cases h
  | some o =>
    rw [ho] at h
    simp only [Option.map_some, Option.getD_some, List.any_eq_true, Bool.and_eq_true, beq_iff_eq] at h
    obtain ⟨e, he, h1, h2⟩ := h
    rw [← h1]; exact hd o ho e he h2
theorem op_of {i : Nat} {o : Oper} (ho : ops[i]? = some o) {p : Op} (h : (ops[i]?).map (·.op) = some p) : o.op = p := by rw [ho] at h; simpa using h
theorem guard_of {i : Nat} {o : Oper} (ho : ops[i]? = some o) {g : Option (Nat × Bool)} (h : (ops[i]?).map (·.guard) = some g) : o.guard = g := by rw [ho] at h; simpa using h
theorem exec_call {P : Program} {k : FuncId} (eg : ∀ args w, (callFunc k args).run P w = .ok (.enter k args) w) {o : Oper} {args : Array Operand} {ts : Array TypeId} (hop : o.op = Op.call { callee := Callee.value (Operand.func k), args := args, argTypes := ts })
    (a : Act) (w : World) : (execOp a.eval o).run P w = .ok (.enter k (args.map a.eval)) w := by
  simp only [execOp, hop, resolve]
  simp [go_sem, Act.eval, invoke, eg]
end
/-- The operations of region k of a code. -/
def regionOps (k : Nat) : Code → Option (Array Oper)
  | .region id ops _ => if id = k then some ops else none
  | .seq a b => (regionOps k a).or (regionOps k b)
  | .cond _ a b => (regionOps k a).or (regionOps k b)
  | .block _ b => regionOps k b
  | .loop b => regionOps k b
  | .rangeFunc _ _ a b => (regionOps k a).or (regionOps k b)
  | .scope b => regionOps k b
  | _ => none
end Go.Proofs.YtbeaaieaffdgeaaGreatDoor
end
/- The same for a region in the text's order. No program. -/
section
namespace Go.Proofs.YtbeaaieaffdgeaaGreatDoor
open Go.RowKit
set_option linter.unusedVariables false

variable {P : Program} {ops : Array Oper} {Q : Exit → Act → World → Prop} {n : Nat} {tab : Array Cl} {base : Nat → Option Value} {H : World → Prop} {a : Act} {w : World}
theorem region_seq {id : Nat} (hlt : ∀ (i : Nat) (o : Oper), ops[i]? = some o → ∀ e ∈ o.after.toList, e.on < i)
    (start : At ops n tab base H (Array.replicate ops.size false) a w)
    (step : ∀ l a w i, At ops n tab base H l a w → i < ops.size → (∀ o : Oper, ops[i]? = some o → ∀ e ∈ o.after.toList, Region.binds .any e = true → l.getD e.on false = true) → wpOp P ops Q i (At ops n tab base H (l.setIfInBounds i true)) a w)
    (fin : ∀ l a w, At ops n tab base H l a w → (∀ i, i < ops.size → l.getD i false = true) → Q .normal a w) : (Code.region id ops false).wp P Q a w := by
  refine wp_region ?_
  have key : ∀ (m k : Nat) (l : Array Bool) (a : Act) (w : World), k + m = ops.size → At ops n tab base H l a w → (∀ j, j < k → l.getD j false = true) → wpOps P ops Q (List.range' k m) a w := by
    intro m
    induction m with
    | zero => intro k l a w hk h hl; exact fin l a w h (fun i hi => hl i (by omega))
    | succ m ih =>
      intro k l a w hk h hl
      rw [List.range'_succ, wpOps_cons]
      refine wpOp_mono (fun a' w' h' => ih (k + 1) _ a' w' (by omega) h' (fun j hj => ?_)) (step l a w k h (by omega) (fun o ho e he _ => hl _ (hlt k o ho e he)))
      by_cases hjk : j = k
      · rw [hjk]; exact getD_set_same _ _ _ (by rw [h.sz]; omega)
      · rw [getD_set _ _ _ _ hjk]; exact hl j (by omega)
  rw [List.range_eq_range']
  exact key ops.size 0 _ a w (by omega) start (fun j hj => by omega)
/-- The beginning: nothing is done. -/
theorem At.begins (h1 : a.tmps.size = n) (h2 : a.defers = []) (h3 : H w) (h4 : ∀ s v, base s = some v → a.tmps.getD s undef = v) : At ops n tab base H (Array.replicate ops.size false) a w :=
  ⟨by simp, h1, h2, h3, h4, fun i d hl => by
    rw [Array.getD_eq_getD_getElem?] at hl
    by_cases hi : i < ops.size
    · rw [Array.getElem?_replicate, if_pos hi] at hl; cases hl
    · rw [Array.getElem?_replicate, if_neg hi] at hl; cases hl⟩
/-- A row of slots, slot by slot. -/
theorem slots_of (a : Array Value) (n : Nat) (h : a.size = n) : a = ((List.range n).map fun s => a.getD s undef).toArray := by
  apply Array.ext
  · simp [h]
  · intro i hi hj
    simp [Array.getD_eq_getD_getElem?, hi]
/-- What a region leaves: the slots that it does not write as they were, the others as they are. -/
theorem slots_free (a : Array Value) (n : Nat) (h : a.size = n) (free : List Nat) (t u : Nat → Value) (hf : ∀ s, free.contains s = true → a.getD s undef = t s) (hu : ∀ s, a.getD s undef = u s) :
    a = ((List.range n).map fun s => if free.contains s then t s else u s).toArray := by
  refine (slots_of a n h).trans ?_
  congr 1
  apply List.map_congr_left
  intro s _
  cases e : free.contains s with
  | true => simp only [if_true]; exact hf s e
  | false => simp only [Bool.false_eq_true, if_false]; exact hu s
end Go.Proofs.YtbeaaieaffdgeaaGreatDoor
end
/- A region that draws its order, whose values are kept in new blocks at its end: the engine with a further condition on slots and world, where only some operations have slots of their own. No program. -/
section
namespace Go.Proofs.YtbeaaieaffdgeaaGreatDoor
open Go.RowKit
set_option linter.unusedVariables false

variable {P : Program} {ops : Array Oper} {Q : Exit → Act → World → Prop} {n : Nat} {tab : Array Cl} {base : Nat → Option Value} {H : World → Prop} {l : Array Bool} {a : Act} {w : World}
/-- Operation i has a slot of its own, which is not fixed. -/
def ownAt (ops : Array Oper) (n : Nat) (base : Nat → Option Value) (i d : Nat) : Prop :=
  (ops[i]?).bind (·.dst) = some d ∧ d < n ∧ base d = none ∧ ∀ (j : Nat) (o' : Oper), ops[j]? = some o' → o'.dst = some d → j = i
def ownAtB (ops : Array Oper) (n : Nat) (i d : Nat) : Bool := ((ops[i]?).bind (·.dst) == some d) && decide (d < n) && (List.range ops.size).all fun j => j == i || (ops[j]?).bind (·.dst) != some d
theorem ownAt_of {i d : Nat} (h : ownAtB ops n i d = true) (hb : base d = none) : ownAt ops n base i d := by
  unfold ownAtB at h
  simp only [Bool.and_eq_true, decide_eq_true_eq, List.all_eq_true, beq_iff_eq] at h
  refine ⟨h.1.1, h.1.2, hb, fun j o' ho' hd' => ?_⟩
  have h2 := h.2 j (List.mem_range.2 (Array.getElem?_eq_some_iff.1 ho').1)
  rw [ho'] at h2
  simp only [Option.bind_some, hd', bne_self_eq_false, Bool.or_false] at h2
  simpa using h2
theorem At.put1 (h : At ops n tab base H l a w) (hH : ∀ w w', H w → Below w.heap.size w w' → H w') {i d : Nat} {o : Oper} (ho : ops[i]? = some o) (hown : ownAt ops n base i d) {v : Value} {w' : World} (hb : Below w.heap.size w w')
    (hv : (tab.getD i .any).ok v w') : At ops n tab base H (l.setIfInBounds i true) (a.put o.dst v) w' := by
  obtain ⟨hd, hdn, hdb, huniq⟩ := hown
  rw [ho] at hd
  simp only [Option.bind_some] at hd
  have hi : i < ops.size := (Array.getElem?_eq_some_iff.1 ho).1
  rw [hd]
  refine ⟨by rw [Array.size_setIfInBounds]; exact h.sz, by show (a.tmps.setIfInBounds d v).size = n; rw [Array.size_setIfInBounds]; exact h.tmps, h.defers, hH _ _ h.hold hb, fun s u hs => ?_, fun j d' hj hd' => ?_⟩
  · show (a.tmps.setIfInBounds d v).getD s undef = u
    have hne : d ≠ s := fun e => by rw [← e, hdb] at hs; cases hs
    have := h.fixed s u hs
    simp only [Array.getD_eq_getD_getElem?, Array.getElem?_setIfInBounds, if_neg hne] at this ⊢
    exact this
  · show (tab.getD j .any).ok ((a.tmps.setIfInBounds d v).getD d' undef) w'
    by_cases hji : j = i
    · subst hji
      rw [ho] at hd'
      have e : d' = d := by simpa [hd] using hd'.symm
      subst e
      have ev : (a.tmps.setIfInBounds d' v).getD d' undef = v := by
        simp only [Array.getD_eq_getD_getElem?, Array.getElem?_setIfInBounds, h.tmps, if_pos hdn, if_true]
        rfl
      rw [ev]
      exact hv
    · have hne : d ≠ d' := fun e => by
        subst e
        cases hoj : ops[j]? with
        | none => rw [hoj] at hd'; cases hd'
        | some oj =>
          rw [hoj] at hd'
          exact hji (huniq j oj hoj (by simpa using hd'))
      rw [getD_set _ _ _ _ hji] at hj
      have := (h.done j d' hj hd').next hb
      simp only [Array.getD_eq_getD_getElem?, Array.getElem?_setIfInBounds, if_neg hne] at this ⊢
      exact this
theorem put_other (a : Act) (d s : Nat) (v : Value) (h : d ≠ s) : (a.put (some d) v).tmps.getD s undef = a.tmps.getD s undef := by
  show (a.tmps.setIfInBounds d v).getD s undef = _
  simp only [Array.getD_eq_getD_getElem?, Array.getElem?_setIfInBounds, if_neg h]
theorem put_same (a : Act) (d : Nat) (v : Value) (h : d < a.tmps.size) : (a.put (some d) v).tmps.getD d undef = v := by
  show (a.tmps.setIfInBounds d v).getD d undef = _
  simp only [Array.getD_eq_getD_getElem?, Array.getElem?_setIfInBounds, if_pos h, if_true]
  rfl
/-- An operation that yields a value; one that calls. -/
theorem At.yieldsX {X : Array Bool → Act → World → Prop} (h : At ops n tab base H l a w) (hH : ∀ w w', H w → Below w.heap.size w w' → H w') {i d : Nat} {o : Oper} (ho : ops[i]? = some o) (hown : ownAt ops n base i d) (hg : o.guard = none) {v : Value} {w' : World}
    (hrun : (execOp a.eval o).run P w = .ok (.value v) w') (hb : Below w.heap.size w w') (hv : (tab.getD i .any).ok v w') (hx : X (l.setIfInBounds i true) (a.put (some d) v) w') :
    wpOp P ops Q i (fun a w => At ops n tab base H (l.setIfInBounds i true) a w ∧ X (l.setIfInBounds i true) a w) a w := by
  have hd : o.dst = some d := by have := hown.1; rw [ho] at this; simpa using this
  unfold wpOp
  rw [ho]
  simp only
  rw [if_pos (show Region.wanted o (yielded ops a.tmps) = true from guard_none hg)]
  left
  unfold Oper.wp
  rw [hrun]
  exact ⟨h.put1 hH ho hown hb hv, by rw [hd]; exact hx⟩
theorem At.callsX {X : Array Bool → Act → World → Prop} (h : At ops n tab base H l a w) (hH : ∀ w w', H w → Below w.heap.size w w' → H w') {i d : Nat} {o : Oper} (ho : ops[i]? = some o) (hown : ownAt ops n base i d) (hg : o.guard = none) {f : FuncId} {args : Array Value}
    (hrun : (execOp a.eval o).run P w = .ok (.enter f args) w) (hx : ∀ v w', Below w.heap.size w w' → X (l.setIfInBounds i true) (a.put (some d) v) w') (hc : Calls P f args w fun e w' => ∃ v, e = .returned v ∧ Below w.heap.size w w' ∧ (tab.getD i .any).ok v w') :
    wpOp P ops Q i (fun a w => At ops n tab base H (l.setIfInBounds i true) a w ∧ X (l.setIfInBounds i true) a w) a w := by
  have hd : o.dst = some d := by have := hown.1; rw [ho] at this; simpa using this
  unfold wpOp
  rw [ho]
  simp only
  rw [if_pos (show Region.wanted o (yielded ops a.tmps) = true from guard_none hg)]
  left
  unfold Oper.wp
  rw [hrun]
  refine Calls.mono hc ?_
  rintro e w' ⟨v, rfl, hb, hv⟩
  exact ⟨h.put1 hH ho hown hb hv, by rw [hd]; exact hx v w' hb⟩
theorem At.guard1 (h : At ops n tab base H l a w) {o : Oper} {g d : Nat} {b : Bool} (hown : ownAt ops n base g d) (hg : o.guard = some (g, b)) (hl : l.getD g false = true) (ht : tab.getD g .any = .val (.bool b)) : guardOk ops a o := by
  obtain ⟨hd, hdn, _, _⟩ := hown
  have hv := h.done g d hl hd
  rw [ht] at hv
  have hv' : a.tmps.getD d undef = .bool b := hv
  have hdt : d < a.tmps.size := by rw [h.tmps]; exact hdn
  simp only [Array.getD_eq_getD_getElem?, Array.getElem?_eq_getElem hdt, Option.getD_some] at hv'
  unfold guardOk Region.wanted yielded
  rw [hg]
  simp only [hd, Array.getElem?_eq_getElem hdt, Option.bind_some, hv']
  simp
theorem At.yields1 (h : At ops n tab base H l a w) (hH : ∀ w w', H w → Below w.heap.size w w' → H w') {i d : Nat} {o : Oper} (ho : ops[i]? = some o) (hown : ownAt ops n base i d) (hg : guardOk ops a o) {v : Value} {w' : World}
    (hrun : (execOp a.eval o).run P w = .ok (.value v) w') (hb : Below w.heap.size w w') (hv : (tab.getD i .any).ok v w') : wpOp P ops Q i (At ops n tab base H (l.setIfInBounds i true)) a w := by
  unfold wpOp
  rw [ho]
  simp only
  rw [if_pos (show Region.wanted o (yielded ops a.tmps) = true from hg)]
  left
  unfold Oper.wp
  rw [hrun]
  exact h.put1 hH ho hown hb hv
theorem At.calls1 (h : At ops n tab base H l a w) (hH : ∀ w w', H w → Below w.heap.size w w' → H w') {i d : Nat} {o : Oper} (ho : ops[i]? = some o) (hown : ownAt ops n base i d) (hg : guardOk ops a o) {f : FuncId} {args : Array Value}
    (hrun : (execOp a.eval o).run P w = .ok (.enter f args) w) (hc : Calls P f args w fun e w' => ∃ v, e = .returned v ∧ Below w.heap.size w w' ∧ (tab.getD i .any).ok v w') :
    wpOp P ops Q i (At ops n tab base H (l.setIfInBounds i true)) a w := by
  unfold wpOp
  rw [ho]
  simp only
  rw [if_pos (show Region.wanted o (yielded ops a.tmps) = true from hg)]
  left
  unfold Oper.wp
  rw [hrun]
  refine Calls.mono hc ?_
  rintro e w' ⟨v, rfl, hb, hv⟩
  exact h.put1 hH ho hown hb hv
theorem not_done {i : Nat} (h : l.getD i true = false) (h' : l.getD i false = true) (hs : i < l.size) : False := by
  simp only [Array.getD_eq_getD_getElem?, Array.getElem?_eq_getElem hs, Option.getD_some] at h h'
  rw [h] at h'; cases h'
/-- The whole region, by any family. -/
theorem region_fam {id : Nat} (hm : P.follows .mixedOrders = true) (hlt : ∀ (i : Nat) (o : Oper), ops[i]? = some o → ∀ e ∈ o.after.toList, e.on < i) (A : Array Bool → Act → World → Prop) (hsz : ∀ l a w, A l a w → l.size = ops.size)
    (start : A (Array.replicate ops.size false) a w.drew)
    (step : ∀ l a w i, A l a w → i < ops.size → l.getD i true = false → (∀ o : Oper, ops[i]? = some o → ∀ e ∈ o.after.toList, Region.binds .any e = true → l.getD e.on false = true) → wpOp P ops Q i (A (l.setIfInBounds i true)) a w)
    (fin : ∀ l a w, A l a w → (∀ i, i < ops.size → l.getD i false = true) → Q .normal a w) : (Code.region id ops true).wp P Q a w := by
  refine wp_region_any hm ?_
  refine any_inv A hsz (fun l a w i h hi => ?_) (fun l a w h h0 => fin l a w h (all_done hlt h0 (hsz _ _ _ h))) _ _ _ _ ?_ start
  · have hr := ready_spec hi
    exact step l a w i h hr.1 hr.2.1 hr.2.2
  · exact Nat.le_trans (List.length_filter_le _ _) (by simp)
theorem wpOp_value {i : Nat} {o : Oper} (ho : ops[i]? = some o) (hg : o.guard = none) {v : Value} {w' : World} (hrun : (execOp a.eval o).run P w = .ok (.value v) w') {R : Act → World → Prop} (hr : R (a.put o.dst v) w') : wpOp P ops Q i R a w := by
  unfold wpOp
  rw [ho]
  simp only
  rw [if_pos (show Region.wanted o (yielded ops a.tmps) = true from guard_none hg)]
  left
  unfold Oper.wp
  rw [hrun]
  exact hr
/-- A region whose last operation waits for all the others and writes a slot that they read. -/
theorem region_last {id m : Nat} (hm : P.follows .mixedOrders = true) (hlt : ∀ (i : Nat) (o : Oper), ops[i]? = some o → ∀ e ∈ o.after.toList, e.on < i) (hsz : ops.size = m + 1) (hdeps : ∀ j, j < m → depOn ops m j = true)
    (start : At ops n tab base H (Array.replicate ops.size false) a w.drew)
    (step : ∀ l a w i, At ops n tab base H l a w → i < m → (∀ o : Oper, ops[i]? = some o → ∀ e ∈ o.after.toList, Region.binds .any e = true → l.getD e.on false = true) → wpOp P ops Q i (At ops n tab base H (l.setIfInBounds i true)) a w)
    (last : ∀ l a w, At ops n tab base H l a w → (∀ j, j < m → l.getD j false = true) → wpOp P ops Q m (fun a w => Q .normal a w) a w) : (Code.region id ops true).wp P Q a w := by
  refine region_fam hm hlt (fun l a w => (l.getD m false = false ∧ At ops n tab base H l a w) ∨ (l.size = ops.size ∧ (∀ j, j < m + 1 → l.getD j false = true) ∧ Q .normal a w)) ?_ ?_ ?_ ?_
  · rintro l a w (h | h)
    · exact h.2.sz
    · exact h.1
  · refine .inl ⟨?_, start⟩
    rw [Array.getD_eq_getD_getElem?]
    by_cases hi : m < ops.size
    · rw [Array.getElem?_replicate, if_pos hi]; rfl
    · rw [Array.getElem?_replicate, if_neg hi]; rfl
  · rintro l a w i (⟨hl, h⟩ | ⟨h1, h2, h3⟩) hi hu hd
    · by_cases him : i = m
      · subst him
        have hall : ∀ j, j < i → l.getD j false = true := fun j hj => dep hd j (hdeps j hj)
        refine wpOp_mono (fun a' w' h' => .inr ⟨by rw [Array.size_setIfInBounds]; exact h.sz, fun j hj => ?_, h'⟩) (last l a w h hall)
        by_cases hji : j = i
        · rw [hji]; exact getD_set_same _ _ _ (by rw [h.sz]; omega)
        · rw [getD_set _ _ _ _ hji]; exact hall j (by omega)
      · refine wpOp_mono (fun a' w' h' => .inl ⟨?_, h'⟩) (step l a w i h (by omega) hd)
        rw [getD_set _ _ _ _ (fun e => him e.symm)]; exact hl
    · exact (not_done hu (h2 i (by omega)) (by omega)).elim
  · rintro l a w (⟨hl, h⟩ | ⟨h1, h2, h3⟩) hall
    · rw [hall m (by omega)] at hl; cases hl
    · exact h3
end Go.Proofs.YtbeaaieaffdgeaaGreatDoor
end
