/- The closure that draws. -/
import Derived.Test.YtibacoffnkbbbaaDealC
namespace Go.Proofs.Ytibacoffnkbbbaa
open Go.RowKit
set_option linter.unusedVariables false

/-- How many are drawn behind one draw more. -/
def nxt (ds : List Int) (u : Nat) : Nat := if u < ds.length then u + 1 else u
theorem nxt_le (ds : List Int) (u : Nat) (h : u ≤ ds.length) : nxt ds u ≤ ds.length := by unfold nxt; split <;> omega
set_option maxRecDepth 100000 in
theorem draw_any (bu bd u : Nat) (a : Option Addr) (c : Nat) (L : List Int) (w : World) (hu : w.heap[bu]? = some (.cells #[.int .i64 (u : Int)] 3 (0, 0))) (hd : w.heap[bd]? = some (.cells #[.slice a L.length c] 22 (0, 0)))
    (hL : IsL w a c L) (hb : bu ≠ bd) (ha : ∀ p, a = some p → L.length ≠ 0 → p.block ≠ bu) (hul : u ≤ L.length) :
    Calls Try.prog 14 #[.pointer (some ⟨bu, 0, none⟩), .pointer (some ⟨bd, 0, none⟩)] w fun e w' => e = .returned (.int .i64 (L.getD u 0)) ∧ w'.heap[bu]? = some (.cells #[.int .i64 ((nxt L u : Nat) : Int)] 3 (0, 0)) ∧ w.grownBy w' (some bu) := by
  have c0 := cell_of_one hu
  have c1 := cell_of_one hd
  have f0 := free_of_one hu
  have hm := hL.1
  have hmm := hL.2.1
  by_cases hlt : u < L.length
  · obtain ⟨b, off, rfl, hc⟩ := hL.at u hlt
    have hne : b ≠ bu := ha _ rfl (by omega)
    have e1 : nxt L u = u + 1 := by unfold nxt; rw [if_pos hlt]
    have hS := one_setCell (u := .int .i64 ((u : Int) + 1)) hu
    have hS0 := cell_of_one hS
    have hS1 : (w.setCell ⟨bu, 0, none⟩ (.int .i64 ((u : Int) + 1))).cell? ⟨bd, 0, none⟩ = some (.slice (some ⟨b, off, none⟩) L.length c) := (World.cell?_of_block (Below.heap_setCell _ _ _ _ (fun e => hb e.symm))).trans c1
    have hS2 : (w.setCell ⟨bu, 0, none⟩ (.int .i64 ((u : Int) + 1))).cell? ⟨b, off + u, none⟩ = some (.int .i64 (L.getD u 0)) := (World.cell?_of_block (Below.heap_setCell _ _ _ _ hne)).trans hc
    obtain ⟨x, hx⟩ : ∃ x, x = L.getD u 0 := ⟨_, rfl⟩
    rw [← hx] at hS2 hc ⊢
    rw [e1]
    have HS := Lib.hid hS
    clear hx e1 hL hS
    go_enter Try.func14, Try.ntmps14
    go_wp2
    go_ret
    exact ⟨rfl, HS.out, ⟨rfl, rfl, rfl, by simp, fun k hk hn => Below.heap_setCell _ _ _ _ (fun e => hn (by rw [e]))⟩⟩
  · have e1 : nxt L u = u := by unfold nxt; rw [if_neg hlt]
    have e2 : L.getD u 0 = 0 := getD_out L u (by omega)
    have he : u = L.length := by omega
    rw [e1, e2]
    have HU := Lib.hid hu
    clear e1 e2 hu hd hL hul
    subst he
    go_enter Try.func14, Try.ntmps14
    go_wp2
    go_ret
    exact ⟨rfl, HU.out, ⟨rfl, rfl, rfl, Nat.le_refl _, fun k hk hn => rfl⟩⟩
end Go.Proofs.Ytibacoffnkbbbaa
