/- Texts that belong together: CodeC, CodeD, CodeE, CodeF, CodeG, CardA, CardB, PoolN. -/
import Derived.Test.YtbeaaieaffdgeaaGreatDoorMb
import Derived.Maps.AppendAt
import Derived.WalkLawsBesides
/- The closure over the rows: may an instruction be; Check. -/
section
namespace Go.Proofs.YtbeaaieaffdgeaaGreatDoor
open Go.RowKit
set_option linter.unusedVariables false
set_option linter.unusedSimpArgs false

/-- An instruction. -/
structure Ins where
  op : Int
  a : Int
  b : Int
  deriving DecidableEq
def insV (x : Ins) : Value := .agg #[.int .i64 x.op, .int .i64 x.a, .int .i64 x.b]
/-- May it be? -/
def one (len t c : Int) (x : Ins) : Bool := btw 1 24 x.op && (aOk len t x.op.toNat x.a && bOk c x.op.toNat x.b)
theorem quiet_same {P : Program} {f : FuncId} {args : Array Value} {w : World} {n : Nat} {v : Value}
    (h : Calls P f args (w.drewN n) fun e w' => e = .returned v ∧ w.drewN n = w') : Calls P f args (w.drewN n) fun e w'' => e = .returned v ∧ ∃ m, w'' = w.drewN m :=
  h.mono fun _ _ ⟨he, hm⟩ => ⟨he, n, hm.symm⟩
theorem below_drew (w : World) (n : Nat) : Below w.heap.size w (w.drewN n) := below_draws (Below.refl _ _) n
theorem isOp_at (n : Int) (r : Bool) (hr : btw 1 24 n = r) (w : World) :
    Calls Tryz.prog 117 #[.int .i64 n] w fun e w' => e = .returned (.bool r) ∧ w = w' := by
  subst hr
  by_cases a : 1 ≤ n
  · by_cases b : n ≤ 24
    · go_enter Tryz.func117, Tryz.ntmps117
      go_wp2
      go_ret
      exact ⟨bool_ret (by simp [btw]; omega), rfl⟩
    · go_enter Tryz.func117, Tryz.ntmps117
      go_wp2
      go_ret
      exact ⟨bool_ret (by simp [btw]; omega), rfl⟩
  · go_enter Tryz.func117, Tryz.ntmps117
    go_wp2
    go_ret
    exact ⟨bool_ret (by simp [btw]; omega), rfl⟩
theorem Asks.at {w : World} {k : Nat} {cs : Array Value} {p : Int → Bool} (h : Asks w k cs p) (n : Int) (r : Bool) (hr : p n = r) (m : Nat) :
    Calls Tryz.prog k (#[.int .i64 n] ++ cs) (w.drewN m) fun e w' => e = .returned (.bool r) ∧ ∃ m', w' = w.drewN m' := by
  subst hr
  exact quiet_same (h.2 _ (below_drew w m) n)
set_option maxRecDepth 100000 in
set_option maxHeartbeats 2000000 in
theorem ask_any (x : Ins) (g : Nat) (len t c : Int) (w : World) (h : RowsAt w g len t c) :
    Calls Tryz.prog 116 #[.agg #[.int .i64 x.op, .int .i64 x.a, .int .i64 x.b], .pointer (some ⟨g, 0, none⟩)] w fun e w' => e = .returned (.bool (one len t c x)) ∧ Below w.heap.size w w' := by
  obtain ⟨op, a, b⟩ := x
  have b0 := below_alloc1 w (.cells #[.int .i64 op, .int .i64 a, .int .i64 b] 82)
  have hR := h.next b0
  have hc0 : (w.alloc (.cells #[.int .i64 op, .int .i64 a, .int .i64 b] 82)).cell? ⟨w.heap.size, 0, none⟩ = some (.int .i64 op) := World.cell?_alloc_new _ _ _ _
  have hc1 : (w.alloc (.cells #[.int .i64 op, .int .i64 a, .int .i64 b] 82)).cell? ⟨w.heap.size, 1, none⟩ = some (.int .i64 a) := World.cell?_alloc_new _ _ _ _
  have hc2 : (w.alloc (.cells #[.int .i64 op, .int .i64 a, .int .i64 b] 82)).cell? ⟨w.heap.size, 2, none⟩ = some (.int .i64 b) := World.cell?_alloc_new _ _ _ _
  have B0 := Lib.hid b0
  clear b0 h
  obtain ⟨r, hr⟩ : ∃ r, r = one len t c ⟨op, a, b⟩ := ⟨_, rfl⟩
  rw [← hr]
  have HR := Lib.hid hr
  clear hr
  by_cases h24 : 1 ≤ op ∧ op ≤ 24
  · obtain ⟨j, rfl⟩ : ∃ j : Nat, op = (j : Int) := ⟨op.toNat, by omega⟩
    obtain ⟨⟨f1, cs1, p1⟩, ⟨f2, cs2, p2⟩, x1, x2, a1, a2⟩ := hR.2 j (by omega) (by omega)
    have HO := Lib.hid (isOp_at (j : Int) true (by simp [btw]; omega))
    unfold askV at x1 x2
    have hf1 : f1 = 113 ∨ f1 = 118 := a1.1
    have hf2 : f2 = 113 ∨ f2 = 118 := a2.1
    have h24' : 1 ≤ j ∧ j ≤ 24 := by omega
    clear hR
    cases ha : aOk len t j a
    · have HA := Lib.hid (a1.at a false ha)
      have HV := Lib.hid (show r = false by rw [HR.out]; simp [one, ha])
      clear a1 a2 hf2
      go_enter Tryz.func116, Tryz.ntmps116
      go_wp2_with fail
      generalize w.alloc (.cells #[.int .i64 (j : Int), .int .i64 a, .int .i64 b] 82) = W at *
      rcases hf1 with rfl | rfl
      · go_quiet (first | (go_at_call 117; refine quiet_same (HO.out _)) | (go_at_call 113; refine HA.out _))
        go_wp2_with fail
        go_ret
        exact ⟨bool_ret HV.out.symm, below_draws B0.out _⟩
      · go_quiet (first | (go_at_call 117; refine quiet_same (HO.out _)) | (go_at_call 118; refine HA.out _))
        go_wp2_with fail
        go_ret
        exact ⟨bool_ret HV.out.symm, below_draws B0.out _⟩
    · obtain ⟨s, hb⟩ : ∃ s, bOk c j b = s := ⟨_, rfl⟩
      have HA := Lib.hid (a1.at a true ha)
      have HC := Lib.hid (a2.at b s hb)
      have HV := Lib.hid (show r = s by rw [HR.out]; simp [one, ha, hb, btw]; omega)
      clear a1 a2
      go_enter Tryz.func116, Tryz.ntmps116
      go_wp2_with fail
      generalize w.alloc (.cells #[.int .i64 (j : Int), .int .i64 a, .int .i64 b] 82) = W at *
      rcases hf1 with rfl | rfl
      all_goals rcases hf2 with rfl | rfl
      · go_quiet (first | (go_at_call 117; refine quiet_same (HO.out _)) | (go_at_call 113; first | refine HA.out _ | refine HC.out _))
        go_wp2_with fail
        go_ret
        exact ⟨bool_ret HV.out.symm, below_draws B0.out _⟩
      · go_quiet (first | (go_at_call 117; refine quiet_same (HO.out _)) | (go_at_call 113; refine HA.out _) | (go_at_call 118; refine HC.out _))
        go_wp2_with fail
        go_ret
        exact ⟨bool_ret HV.out.symm, below_draws B0.out _⟩
      · go_quiet (first | (go_at_call 117; refine quiet_same (HO.out _)) | (go_at_call 113; refine HC.out _) | (go_at_call 118; refine HA.out _))
        go_wp2_with fail
        go_ret
        exact ⟨bool_ret HV.out.symm, below_draws B0.out _⟩
      · go_quiet (first | (go_at_call 117; refine quiet_same (HO.out _)) | (go_at_call 118; first | refine HA.out _ | refine HC.out _))
        go_wp2_with fail
        go_ret
        exact ⟨bool_ret HV.out.symm, below_draws B0.out _⟩
  · have HO := Lib.hid (isOp_at op false (by simp [btw]; omega))
    have HV := Lib.hid (show r = false by rw [HR.out]; simp [one, btw]; omega)
    clear hR
    go_enter Tryz.func116, Tryz.ntmps116
    go_wp2_with fail
    generalize w.alloc (.cells #[.int .i64 op, .int .i64 a, .int .i64 b] 82) = W at *
    go_quiet (first | (go_at_call 117; refine quiet_same (HO.out _)))
    go_wp2_with fail
    go_ret
    exact ⟨bool_ret HV.out.symm, below_draws B0.out _⟩
end Go.Proofs.YtbeaaieaffdgeaaGreatDoor
end
/- Check. -/
section
namespace Go.Proofs.YtbeaaieaffdgeaaGreatDoor
open Go.RowKit
set_option linter.unusedVariables false
set_option linter.unusedSimpArgs false

/-- The slice of address a and capacity c reads as the code L. -/
def IsC (w : World) (a : Option Addr) (c : Nat) (L : List Ins) : Prop :=
  L.length ≤ c ∧ c ≤ 9223372036854775807 ∧ (L.length = 0 ∨ ∃ b off, a = some ⟨b, off, none⟩ ∧ b < w.heap.size ∧ ∀ j (h : j < L.length),
    w.cell? ⟨b, off + j * 3, none⟩ = some (.int .i64 L[j].op) ∧ w.cell? ⟨b, off + j * 3 + 1, none⟩ = some (.int .i64 L[j].a) ∧ w.cell? ⟨b, off + j * 3 + 2, none⟩ = some (.int .i64 L[j].b))
theorem IsC.next {w w' : World} {a : Option Addr} {c : Nat} {L : List Ins} (h : IsC w a c L) (k : Below w.heap.size w w') : IsC w' a c L := by
  obtain ⟨h1, h2, h3 | ⟨b, off, h3, h4, h5⟩⟩ := h
  · exact ⟨h1, h2, .inl h3⟩
  · exact ⟨h1, h2, .inr ⟨b, off, h3, Nat.lt_of_lt_of_le h4 k.size, fun j hj => ⟨(k.cell (p := ⟨b, off + j * 3, none⟩) h4).trans (h5 j hj).1, (k.cell (p := ⟨b, off + j * 3 + 1, none⟩) h4).trans (h5 j hj).2.1, (k.cell (p := ⟨b, off + j * 3 + 2, none⟩) h4).trans (h5 j hj).2.2⟩⟩⟩
theorem IsC.at {w : World} {a : Option Addr} {c : Nat} {L : List Ins} (h : IsC w a c L) (k : Nat) (hk : k < L.length) : ∃ b off x, x = L[k] ∧ a = some ⟨b, off, none⟩ ∧
    w.cell? ⟨b, off + k * 3, none⟩ = some (.int .i64 x.op) ∧ w.cell? ⟨b, off + k * 3 + 1, none⟩ = some (.int .i64 x.a) ∧ w.cell? ⟨b, off + k * 3 + 2, none⟩ = some (.int .i64 x.b) := by
  obtain ⟨h1, h2, h3 | ⟨b, off, h3, h4, h5⟩⟩ := h
  · omega
  · exact ⟨b, off, _, rfl, h3, h5 k hk⟩
theorem IsC.nil (w : World) : IsC w none 0 [] := ⟨by simp, by omega, .inl rfl⟩
/-- What Check tells. -/
def chk (L : List Ins) (t c : Int) : Int :=
  if btw 0 2 t && btw 0 40 c then (if 32 < L.length then 3 else if L.all (one L.length t c) then 0 else 9) else 2
theorem Asks.now {w : World} {k : Nat} {cs : Array Value} {p : Int → Bool} (h : Asks w k cs p) (n : Int) (r : Bool) (hr : p n = r) :
    Calls Tryz.prog k (#[.int .i64 n] ++ cs) w fun e w' => e = .returned (.bool r) ∧ w = w' := by
  subst hr
  exact h.2 _ (Below.refl _ _) n
theorem int_eq {k : IntKind} {a b : Int} (h : a = b) : Value.int k a = .int k b := by rw [h]
theorem int_ret {k : IntKind} {a b : Int} (h : a = b) : Ending.returned (.int k a) = .returned (.int k b) := by rw [h]
theorem between_is (lo hi : Int) (w : World) :
    Calls Tryz.prog 111 #[.int .i64 lo, .int .i64 hi] w fun e w' => ∃ cs, e = .returned (.func (.func 113) #[] cs) ∧ Asks w' 113 cs (btw lo hi) ∧ Below w.heap.size w w' := by
  have hb := below_alloc2 w (.cells #[.int .i64 lo] 3) (.cells #[.int .i64 hi] 3)
  have h1 := heap_one w (.cells #[.int .i64 lo] 3) (.cells #[.int .i64 hi] 3)
  have h2 := heap_two w (.cells #[.int .i64 lo] 3) (.cells #[.int .i64 hi] 3)
  have HB := Lib.hid hb
  have HA := Lib.hid (show Asks ((w.alloc (.cells #[.int .i64 lo] 3)).alloc (.cells #[.int .i64 hi] 3)) 113 #[.pointer (some ⟨w.heap.size, 0, none⟩), .pointer (some ⟨w.heap.size + 1, 0, none⟩)] (btw lo hi) from
    ⟨.inl rfl, fun W hW n => btw_any lo hi n _ _ W ((hW.cell (p := ⟨w.heap.size, 0, none⟩) (by simp; omega)).trans (cell_of_one h1)) ((hW.cell (p := ⟨w.heap.size + 1, 0, none⟩) (by simp)).trans (cell_of_one h2))⟩)
  clear hb h1 h2
  go_enter Tryz.func111, Tryz.ntmps111
  go_wp2
  go_ret
  exact ⟨_, rfl, HA.out, HB.out⟩
set_option maxRecDepth 100000 in
set_option maxHeartbeats 4000000 in
theorem check_any (a : Option Addr) (cap : Nat) (L : List Ins) (t c : Int) (w : World) (h : IsC w a cap L) :
    Calls Tryz.prog 110 #[.slice a L.length cap, .int .i64 t, .int .i64 c] w fun e w' => e = .returned (.int .i64 (chk L t c)) ∧ Below w.heap.size w w' := by
  have HL := Lib.hid h
  have hcap := h.1
  have hcm := h.2.1
  clear h
  obtain ⟨r, hr⟩ : ∃ r, r = chk L t c := ⟨_, rfl⟩
  rw [← hr]
  have HR := Lib.hid hr
  clear hr
  cases ht : btw 0 2 t
  · have HV := Lib.hid (show r = 2 by rw [HR.out]; simp [chk, ht])
    go_enter Tryz.func110, Tryz.ntmps110
    go_wp2_with fail
    refine (between_is _ _ _).mono ?_
    rintro e w1 ⟨cs, rfl, ha, hb⟩
    have HA := Lib.hid (ha.now t false ht)
    clear ha
    go_wp2_with fail
    refine HA.out.mono ?_
    rintro e w2 ⟨rfl, rfl⟩
    go_wp2_with fail
    go_ret
    exact ⟨int_ret HV.out.symm, hb⟩
  · cases hc : btw 0 40 c
    · have HV := Lib.hid (show r = 2 by rw [HR.out]; simp [chk, hc])
      go_enter Tryz.func110, Tryz.ntmps110
      go_wp2_with fail
      refine (between_is _ _ _).mono ?_
      rintro e w1 ⟨cs, rfl, ha, hb⟩
      have HA := Lib.hid (ha.now t true ht)
      have HB := Lib.hid hb
      clear ha hb
      go_wp2_with fail
      refine HA.out.mono ?_
      rintro e w2 ⟨rfl, rfl⟩
      go_wp2_with fail
      refine (between_is _ _ _).mono ?_
      rintro e w2 ⟨cs2, rfl, ha, hb⟩
      have HA2 := Lib.hid (ha.now c false hc)
      have HB2 := Lib.hid (below_then' HB.out hb HB.out.size)
      clear ha hb
      go_wp2_with fail
      refine HA2.out.mono ?_
      rintro e w2 ⟨rfl, rfl⟩
      go_wp2_with fail
      go_ret
      exact ⟨int_ret HV.out.symm, HB2.out⟩
    · have ht' : 0 ≤ t ∧ t ≤ 2 := by simpa [btw] using ht
      have hc' : 0 ≤ c ∧ c ≤ 40 := by simpa [btw] using hc
      have HE := Lib.hid (show r = if 32 < L.length then 3 else if L.all (one L.length t c) then 0 else 9 by rw [HR.out]; simp [chk, ht, hc])
      by_cases hl : 32 < L.length
      · have HV := Lib.hid (show r = 3 by rw [HE.out, if_pos hl])
        go_enter Tryz.func110, Tryz.ntmps110
        go_wp2_with fail
        refine (between_is _ _ _).mono ?_
        rintro e w1 ⟨cs, rfl, ha, hb⟩
        have HA := Lib.hid (ha.now t true ht)
        have HB := Lib.hid hb
        clear ha hb
        go_wp2_with fail
        refine HA.out.mono ?_
        rintro e w2 ⟨rfl, rfl⟩
        go_wp2_with fail
        refine (between_is _ _ _).mono ?_
        rintro e w2 ⟨cs2, rfl, ha, hb⟩
        have HA2 := Lib.hid (ha.now c true hc)
        have HB2 := Lib.hid (below_then' HB.out hb HB.out.size)
        clear ha hb
        go_wp2_with fail
        refine HA2.out.mono ?_
        rintro e w2 ⟨rfl, rfl⟩
        go_wp2_with fail
        go_ret
        exact ⟨int_ret HV.out.symm, HB2.out⟩
      · go_enter Tryz.func110, Tryz.ntmps110
        go_wp2_with fail
        refine (between_is _ _ _).mono ?_
        rintro e w1 ⟨cs, rfl, ha, hb⟩
        have HA := Lib.hid (ha.now t true ht)
        have HB := Lib.hid hb
        clear ha hb
        go_wp2_with fail
        refine HA.out.mono ?_
        rintro e w2 ⟨rfl, rfl⟩
        go_wp2_with fail
        refine (between_is _ _ _).mono ?_
        rintro e w2 ⟨cs2, rfl, ha, hb⟩
        have HA2 := Lib.hid (ha.now c true hc)
        have HB2 := Lib.hid (below_then' HB.out hb HB.out.size)
        clear ha hb
        go_wp2_with fail
        refine HA2.out.mono ?_
        rintro e w2 ⟨rfl, rfl⟩
        go_wp2_with fail
        refine (asker_any L.length (by omega) t c ht' hc' _).mono ?_
        rintro e w3 ⟨g, rfl, hg, hb⟩
        have HG := Lib.hid hg
        have HB3 := Lib.hid (below_then' HB2.out hb HB2.out.size)
        clear hg hb HA HA2 HB HB2
        go_wp2_with fail
        go_loopw [30] (fun q wr => ∃ k : Nat, q = .int .i64 (k : Int) ∧ k ≤ L.length ∧ (∀ j (h : j < L.length), j < k → one L.length t c L[j] = true) ∧ Below w3.heap.size w3 wr) (fun q _ => L.length - (intOf q).toNat)
        case atStart => exact ⟨0, rfl, Nat.zero_le _, fun j _ hj => by omega, Below.refl _ _⟩
        case round =>
          obtain ⟨k, rfl, hk, hn, hbw⟩ := hrel
          have HN := Lib.hid hn
          have HW := Lib.hid hbw
          clear hn hbw
          by_cases hlt : k < L.length
          · obtain ⟨b, off, x, hx, rfl, x0, x1, x2⟩ := (HL.out.next ((HB3.out.trans (HW.out.mono HB3.out.size)))).at k hlt
            have HX := Lib.hid hx
            clear hx
            have HG2 := Lib.hid ((HG.out.next HW.out).next (below_alloc1 wr (.cells #[.int .i64 x.op, .int .i64 x.a, .int .i64 x.b] 82)))
            have HW2 := Lib.hid (HW.out.alloc HW.out.size (.cells #[.int .i64 x.op, .int .i64 x.a, .int .i64 x.b] 82))
            cases hone : one L.length t c x
            · have HV := Lib.hid (show r = 9 by
                rw [HE.out, if_neg hl, if_neg]
                intro hall
                have := List.all_eq_true.1 hall _ (List.getElem_mem hlt)
                rw [← HX.out, hone] at this
                cases this)
              go_wp2_with fail
              refine (ask_any x g _ _ _ _ HG2.out).mono ?_
              rintro e w4 ⟨rfl, hb⟩
              rw [hone]
              have HW3 := Lib.hid (below_then' HW2.out hb HW2.out.size)
              clear hb
              go_wp2_with fail
              go_ret
              exact ⟨int_ret HV.out.symm, HB3.out.trans (HW3.out.mono HB3.out.size)⟩
            · go_wp2_with fail
              refine (ask_any x g _ _ _ _ HG2.out).mono ?_
              rintro e w4 ⟨rfl, hb⟩
              rw [hone]
              have HW3 := Lib.hid (below_then' HW2.out hb HW2.out.size)
              clear hb
              go_wp2_with fail
              go_roundw
              case rel => exact ⟨k + 1, by go_num, by omega, fun j h1 h2 => by
                by_cases hjk : j = k
                · subst hjk; rw [← HX.out]; exact hone
                · exact HN.out j h1 (by omega), HW3.out⟩
              case measure => simp [intOf]; omega
          · have HV := Lib.hid (show r = 0 by
              rw [HE.out, if_neg hl, if_pos]
              refine List.all_eq_true.2 fun x hx => ?_
              obtain ⟨j, hj, rfl⟩ := List.getElem_of_mem hx
              exact HN.out j hj (by omega))
            go_wp2_with fail
            go_ret
            exact ⟨int_ret HV.out.symm, HB3.out.trans (HW.out.mono HB3.out.size)⟩
end Go.Proofs.YtbeaaieaffdgeaaGreatDoor
end
/- The document's answer: target, players, beasts, One. -/
section
namespace Go.Proofs.YtbeaaieaffdgeaaGreatDoor
open Go.RowKit
set_option linter.unusedVariables false
set_option linter.unusedSimpArgs false

theorem refTarget_any (a t : Int) (w : World) :
    Calls Tryz.prog 100 #[.int .i64 a, .int .i64 t] w fun e w' => e = .returned (.bool (tgt t a)) ∧ w = w' := by
  by_cases h1 : 0 ≤ a
  · by_cases h2 : a < t
    · go_enter Tryz.func100, Tryz.ntmps100
      go_wp2
      go_ret
      exact ⟨bool_ret (by simp [tgt, btw]; omega), rfl⟩
    · go_enter Tryz.func100, Tryz.ntmps100
      go_wp2
      go_ret
      exact ⟨bool_ret (by simp [tgt, btw]; omega), rfl⟩
  · go_enter Tryz.func100, Tryz.ntmps100
    go_wp2
    go_ret
    exact ⟨bool_ret (by simp [tgt, btw]; omega), rfl⟩
def plr (t a : Int) : Bool := tgt t a || (btw 3 3 a || btw 4 4 a)
def bst (t a : Int) : Bool := tgt t a || (btw 2 2 a || btw 5 7 a)
set_option maxHeartbeats 1000000 in
theorem refPlayers_any (a t : Int) (w : World) :
    Calls Tryz.prog 101 #[.int .i64 a, .int .i64 t] w fun e w' => e = .returned (.bool (plr t a)) ∧ w = w' := by
  have HT := Lib.hid (refTarget_any a t)
  obtain ⟨r, hr⟩ : ∃ r, r = plr t a := ⟨_, rfl⟩
  rw [← hr]
  unfold plr at hr
  generalize tgt t a = s at *
  have HR := Lib.hid hr
  clear hr
  cases s
  · by_cases h0 : a = 3 ∨ a = 4
    · rcases h0 with rfl | rfl
      all_goals
        go_enter Tryz.func101, Tryz.ntmps101
        go_wp2_with fail
        refine (HT.out _).mono ?_
        rintro e w' ⟨rfl, rfl⟩
        go_wp2_with fail
        go_ret
        exact ⟨bool_ret (by rw [HR.out]; simp [btw]), rfl⟩
    · have n3 : ¬ a = 3 := by omega
      have n4 : ¬ a = 4 := by omega
      go_enter Tryz.func101, Tryz.ntmps101
      go_wp2_with fail
      refine (HT.out _).mono ?_
      rintro e w' ⟨rfl, rfl⟩
      go_wp2_with fail
      go_ret
      exact ⟨bool_ret (by rw [HR.out, show btw 3 3 a = false by simp [btw]; omega, show btw 4 4 a = false by simp [btw]; omega]; simp [n3, n4]), rfl⟩
  · go_enter Tryz.func101, Tryz.ntmps101
    go_wp2_with fail
    refine (HT.out _).mono ?_
    rintro e w' ⟨rfl, rfl⟩
    go_wp2_with fail
    go_ret
    exact ⟨bool_ret (by rw [HR.out]; simp), rfl⟩
set_option maxHeartbeats 1000000 in
theorem refBeasts_any (a t : Int) (w : World) :
    Calls Tryz.prog 102 #[.int .i64 a, .int .i64 t] w fun e w' => e = .returned (.bool (bst t a)) ∧ w = w' := by
  have HT := Lib.hid (refTarget_any a t)
  obtain ⟨r, hr⟩ : ∃ r, r = bst t a := ⟨_, rfl⟩
  rw [← hr]
  unfold bst at hr
  generalize tgt t a = s at *
  have HR := Lib.hid hr
  clear hr
  cases s
  · by_cases h0 : a = 2 ∨ a = 5 ∨ a = 6 ∨ a = 7
    · rcases h0 with rfl | rfl | rfl | rfl
      all_goals
        go_enter Tryz.func102, Tryz.ntmps102
        go_wp2_with fail
        refine (HT.out _).mono ?_
        rintro e w' ⟨rfl, rfl⟩
        go_wp2_with fail
        go_ret
        exact ⟨bool_ret (by rw [HR.out]; simp [btw]), rfl⟩
    · have n2 : ¬ a = 2 := by omega
      have n5 : ¬ a = 5 := by omega
      have n6 : ¬ a = 6 := by omega
      have n7 : ¬ a = 7 := by omega
      go_enter Tryz.func102, Tryz.ntmps102
      go_wp2_with fail
      refine (HT.out _).mono ?_
      rintro e w' ⟨rfl, rfl⟩
      go_wp2_with fail
      go_ret
      exact ⟨bool_ret (by rw [HR.out, show btw 2 2 a = false by simp [btw]; omega, show btw 5 7 a = false by simp [btw]; omega]; simp [n2, n5, n6, n7]), rfl⟩
  · go_enter Tryz.func102, Tryz.ntmps102
    go_wp2_with fail
    refine (HT.out _).mono ?_
    rintro e w' ⟨rfl, rfl⟩
    go_wp2_with fail
    go_ret
    exact ⟨bool_ret (by rw [HR.out]; simp), rfl⟩
end Go.Proofs.YtbeaaieaffdgeaaGreatDoor
end
/- The document's answer: One. -/
section
namespace Go.Proofs.YtbeaaieaffdgeaaGreatDoor
open Go.RowKit
set_option linter.unusedVariables false
set_option linter.unusedSimpArgs false

set_option maxRecDepth 100000 in
set_option maxHeartbeats 2000000 in
theorem refOne_1 (a b len t c : Int) (w : World) :
    Calls Tryz.prog 87 #[.agg #[.int .i64 1, .int .i64 a, .int .i64 b], .int .i64 len, .int .i64 t, .int .i64 c] w fun e w' => e = .returned (.bool (one len t c ⟨1, a, b⟩)) ∧ Below w.heap.size w w' := by
  have b0 := below_alloc1 w (.cells #[.int .i64 1, .int .i64 a, .int .i64 b] 82)
  have hc0 : (w.alloc (.cells #[.int .i64 1, .int .i64 a, .int .i64 b] 82)).cell? ⟨w.heap.size, 0, none⟩ = some (.int .i64 1) := World.cell?_alloc_new _ _ _ _
  have hc1 : (w.alloc (.cells #[.int .i64 1, .int .i64 a, .int .i64 b] 82)).cell? ⟨w.heap.size, 1, none⟩ = some (.int .i64 a) := World.cell?_alloc_new _ _ _ _
  have hc2 : (w.alloc (.cells #[.int .i64 1, .int .i64 a, .int .i64 b] 82)).cell? ⟨w.heap.size, 2, none⟩ = some (.int .i64 b) := World.cell?_alloc_new _ _ _ _
  have B0 := Lib.hid b0
  clear b0
  go_enter Tryz.func87, Tryz.ntmps87
  go_wp2_with (first | (go_at_call 100; refine (refTarget_any a t _).mono ?_; rintro e w1 ⟨rfl, rfl⟩) | (go_at_call 101; refine (refPlayers_any a t _).mono ?_; rintro e w1 ⟨rfl, rfl⟩) | (go_at_call 102; refine (refBeasts_any a t _).mono ?_; rintro e w1 ⟨rfl, rfl⟩))
  all_goals go_ret
  all_goals
    refine ⟨bool_ret ?_, B0.out⟩
    clear hc0 hc1 hc2 B0
    rw [Bool.eq_iff_iff]
    simp [one, aOk, bOk, btw, tgt, plr, bst] at *
    try omega

set_option maxRecDepth 100000 in
set_option maxHeartbeats 2000000 in
theorem refOne_2 (a b len t c : Int) (w : World) :
    Calls Tryz.prog 87 #[.agg #[.int .i64 2, .int .i64 a, .int .i64 b], .int .i64 len, .int .i64 t, .int .i64 c] w fun e w' => e = .returned (.bool (one len t c ⟨2, a, b⟩)) ∧ Below w.heap.size w w' := by
  have b0 := below_alloc1 w (.cells #[.int .i64 2, .int .i64 a, .int .i64 b] 82)
  have hc0 : (w.alloc (.cells #[.int .i64 2, .int .i64 a, .int .i64 b] 82)).cell? ⟨w.heap.size, 0, none⟩ = some (.int .i64 2) := World.cell?_alloc_new _ _ _ _
  have hc1 : (w.alloc (.cells #[.int .i64 2, .int .i64 a, .int .i64 b] 82)).cell? ⟨w.heap.size, 1, none⟩ = some (.int .i64 a) := World.cell?_alloc_new _ _ _ _
  have hc2 : (w.alloc (.cells #[.int .i64 2, .int .i64 a, .int .i64 b] 82)).cell? ⟨w.heap.size, 2, none⟩ = some (.int .i64 b) := World.cell?_alloc_new _ _ _ _
  have B0 := Lib.hid b0
  clear b0
  go_enter Tryz.func87, Tryz.ntmps87
  go_wp2_with (first | (go_at_call 100; refine (refTarget_any a t _).mono ?_; rintro e w1 ⟨rfl, rfl⟩) | (go_at_call 101; refine (refPlayers_any a t _).mono ?_; rintro e w1 ⟨rfl, rfl⟩) | (go_at_call 102; refine (refBeasts_any a t _).mono ?_; rintro e w1 ⟨rfl, rfl⟩))
  all_goals go_ret
  all_goals
    refine ⟨bool_ret ?_, B0.out⟩
    clear hc0 hc1 hc2 B0
    rw [Bool.eq_iff_iff]
    simp [one, aOk, bOk, btw, tgt, plr, bst] at *
    try omega

set_option maxRecDepth 100000 in
set_option maxHeartbeats 2000000 in
theorem refOne_3 (a b len t c : Int) (w : World) :
    Calls Tryz.prog 87 #[.agg #[.int .i64 3, .int .i64 a, .int .i64 b], .int .i64 len, .int .i64 t, .int .i64 c] w fun e w' => e = .returned (.bool (one len t c ⟨3, a, b⟩)) ∧ Below w.heap.size w w' := by
  have b0 := below_alloc1 w (.cells #[.int .i64 3, .int .i64 a, .int .i64 b] 82)
  have hc0 : (w.alloc (.cells #[.int .i64 3, .int .i64 a, .int .i64 b] 82)).cell? ⟨w.heap.size, 0, none⟩ = some (.int .i64 3) := World.cell?_alloc_new _ _ _ _
  have hc1 : (w.alloc (.cells #[.int .i64 3, .int .i64 a, .int .i64 b] 82)).cell? ⟨w.heap.size, 1, none⟩ = some (.int .i64 a) := World.cell?_alloc_new _ _ _ _
  have hc2 : (w.alloc (.cells #[.int .i64 3, .int .i64 a, .int .i64 b] 82)).cell? ⟨w.heap.size, 2, none⟩ = some (.int .i64 b) := World.cell?_alloc_new _ _ _ _
  have B0 := Lib.hid b0
  clear b0
  go_enter Tryz.func87, Tryz.ntmps87
  go_wp2_with (first | (go_at_call 100; refine (refTarget_any a t _).mono ?_; rintro e w1 ⟨rfl, rfl⟩) | (go_at_call 101; refine (refPlayers_any a t _).mono ?_; rintro e w1 ⟨rfl, rfl⟩) | (go_at_call 102; refine (refBeasts_any a t _).mono ?_; rintro e w1 ⟨rfl, rfl⟩))
  all_goals go_ret
  all_goals
    refine ⟨bool_ret ?_, B0.out⟩
    clear hc0 hc1 hc2 B0
    rw [Bool.eq_iff_iff]
    simp [one, aOk, bOk, btw, tgt, plr, bst] at *
    try omega

set_option maxRecDepth 100000 in
set_option maxHeartbeats 2000000 in
theorem refOne_4 (a b len t c : Int) (w : World) :
    Calls Tryz.prog 87 #[.agg #[.int .i64 4, .int .i64 a, .int .i64 b], .int .i64 len, .int .i64 t, .int .i64 c] w fun e w' => e = .returned (.bool (one len t c ⟨4, a, b⟩)) ∧ Below w.heap.size w w' := by
  have b0 := below_alloc1 w (.cells #[.int .i64 4, .int .i64 a, .int .i64 b] 82)
  have hc0 : (w.alloc (.cells #[.int .i64 4, .int .i64 a, .int .i64 b] 82)).cell? ⟨w.heap.size, 0, none⟩ = some (.int .i64 4) := World.cell?_alloc_new _ _ _ _
  have hc1 : (w.alloc (.cells #[.int .i64 4, .int .i64 a, .int .i64 b] 82)).cell? ⟨w.heap.size, 1, none⟩ = some (.int .i64 a) := World.cell?_alloc_new _ _ _ _
  have hc2 : (w.alloc (.cells #[.int .i64 4, .int .i64 a, .int .i64 b] 82)).cell? ⟨w.heap.size, 2, none⟩ = some (.int .i64 b) := World.cell?_alloc_new _ _ _ _
  have B0 := Lib.hid b0
  clear b0
  go_enter Tryz.func87, Tryz.ntmps87
  go_wp2_with (first | (go_at_call 100; refine (refTarget_any a t _).mono ?_; rintro e w1 ⟨rfl, rfl⟩) | (go_at_call 101; refine (refPlayers_any a t _).mono ?_; rintro e w1 ⟨rfl, rfl⟩) | (go_at_call 102; refine (refBeasts_any a t _).mono ?_; rintro e w1 ⟨rfl, rfl⟩))
  all_goals go_ret
  all_goals
    refine ⟨bool_ret ?_, B0.out⟩
    clear hc0 hc1 hc2 B0
    rw [Bool.eq_iff_iff]
    simp [one, aOk, bOk, btw, tgt, plr, bst] at *
    try omega

set_option maxRecDepth 100000 in
set_option maxHeartbeats 2000000 in
theorem refOne_5 (a b len t c : Int) (w : World) :
    Calls Tryz.prog 87 #[.agg #[.int .i64 5, .int .i64 a, .int .i64 b], .int .i64 len, .int .i64 t, .int .i64 c] w fun e w' => e = .returned (.bool (one len t c ⟨5, a, b⟩)) ∧ Below w.heap.size w w' := by
  have b0 := below_alloc1 w (.cells #[.int .i64 5, .int .i64 a, .int .i64 b] 82)
  have hc0 : (w.alloc (.cells #[.int .i64 5, .int .i64 a, .int .i64 b] 82)).cell? ⟨w.heap.size, 0, none⟩ = some (.int .i64 5) := World.cell?_alloc_new _ _ _ _
  have hc1 : (w.alloc (.cells #[.int .i64 5, .int .i64 a, .int .i64 b] 82)).cell? ⟨w.heap.size, 1, none⟩ = some (.int .i64 a) := World.cell?_alloc_new _ _ _ _
  have hc2 : (w.alloc (.cells #[.int .i64 5, .int .i64 a, .int .i64 b] 82)).cell? ⟨w.heap.size, 2, none⟩ = some (.int .i64 b) := World.cell?_alloc_new _ _ _ _
  have B0 := Lib.hid b0
  clear b0
  go_enter Tryz.func87, Tryz.ntmps87
  go_wp2_with (first | (go_at_call 100; refine (refTarget_any a t _).mono ?_; rintro e w1 ⟨rfl, rfl⟩) | (go_at_call 101; refine (refPlayers_any a t _).mono ?_; rintro e w1 ⟨rfl, rfl⟩) | (go_at_call 102; refine (refBeasts_any a t _).mono ?_; rintro e w1 ⟨rfl, rfl⟩))
  all_goals go_ret
  all_goals
    refine ⟨bool_ret ?_, B0.out⟩
    clear hc0 hc1 hc2 B0
    rw [Bool.eq_iff_iff]
    simp [one, aOk, bOk, btw, tgt, plr, bst] at *
    try omega

set_option maxRecDepth 100000 in
set_option maxHeartbeats 2000000 in
theorem refOne_6 (a b len t c : Int) (w : World) :
    Calls Tryz.prog 87 #[.agg #[.int .i64 6, .int .i64 a, .int .i64 b], .int .i64 len, .int .i64 t, .int .i64 c] w fun e w' => e = .returned (.bool (one len t c ⟨6, a, b⟩)) ∧ Below w.heap.size w w' := by
  have b0 := below_alloc1 w (.cells #[.int .i64 6, .int .i64 a, .int .i64 b] 82)
  have hc0 : (w.alloc (.cells #[.int .i64 6, .int .i64 a, .int .i64 b] 82)).cell? ⟨w.heap.size, 0, none⟩ = some (.int .i64 6) := World.cell?_alloc_new _ _ _ _
  have hc1 : (w.alloc (.cells #[.int .i64 6, .int .i64 a, .int .i64 b] 82)).cell? ⟨w.heap.size, 1, none⟩ = some (.int .i64 a) := World.cell?_alloc_new _ _ _ _
  have hc2 : (w.alloc (.cells #[.int .i64 6, .int .i64 a, .int .i64 b] 82)).cell? ⟨w.heap.size, 2, none⟩ = some (.int .i64 b) := World.cell?_alloc_new _ _ _ _
  have B0 := Lib.hid b0
  clear b0
  go_enter Tryz.func87, Tryz.ntmps87
  go_wp2_with (first | (go_at_call 100; refine (refTarget_any a t _).mono ?_; rintro e w1 ⟨rfl, rfl⟩) | (go_at_call 101; refine (refPlayers_any a t _).mono ?_; rintro e w1 ⟨rfl, rfl⟩) | (go_at_call 102; refine (refBeasts_any a t _).mono ?_; rintro e w1 ⟨rfl, rfl⟩))
  all_goals go_ret
  all_goals
    refine ⟨bool_ret ?_, B0.out⟩
    clear hc0 hc1 hc2 B0
    rw [Bool.eq_iff_iff]
    simp [one, aOk, bOk, btw, tgt, plr, bst] at *
    try omega

set_option maxRecDepth 100000 in
set_option maxHeartbeats 2000000 in
theorem refOne_7 (a b len t c : Int) (w : World) :
    Calls Tryz.prog 87 #[.agg #[.int .i64 7, .int .i64 a, .int .i64 b], .int .i64 len, .int .i64 t, .int .i64 c] w fun e w' => e = .returned (.bool (one len t c ⟨7, a, b⟩)) ∧ Below w.heap.size w w' := by
  have b0 := below_alloc1 w (.cells #[.int .i64 7, .int .i64 a, .int .i64 b] 82)
  have hc0 : (w.alloc (.cells #[.int .i64 7, .int .i64 a, .int .i64 b] 82)).cell? ⟨w.heap.size, 0, none⟩ = some (.int .i64 7) := World.cell?_alloc_new _ _ _ _
  have hc1 : (w.alloc (.cells #[.int .i64 7, .int .i64 a, .int .i64 b] 82)).cell? ⟨w.heap.size, 1, none⟩ = some (.int .i64 a) := World.cell?_alloc_new _ _ _ _
  have hc2 : (w.alloc (.cells #[.int .i64 7, .int .i64 a, .int .i64 b] 82)).cell? ⟨w.heap.size, 2, none⟩ = some (.int .i64 b) := World.cell?_alloc_new _ _ _ _
  have B0 := Lib.hid b0
  clear b0
  go_enter Tryz.func87, Tryz.ntmps87
  go_wp2_with (first | (go_at_call 100; refine (refTarget_any a t _).mono ?_; rintro e w1 ⟨rfl, rfl⟩) | (go_at_call 101; refine (refPlayers_any a t _).mono ?_; rintro e w1 ⟨rfl, rfl⟩) | (go_at_call 102; refine (refBeasts_any a t _).mono ?_; rintro e w1 ⟨rfl, rfl⟩))
  all_goals go_ret
  all_goals
    refine ⟨bool_ret ?_, B0.out⟩
    clear hc0 hc1 hc2 B0
    rw [Bool.eq_iff_iff]
    simp [one, aOk, bOk, btw, tgt, plr, bst] at *
    try omega

set_option maxRecDepth 100000 in
set_option maxHeartbeats 2000000 in
theorem refOne_8 (a b len t c : Int) (w : World) :
    Calls Tryz.prog 87 #[.agg #[.int .i64 8, .int .i64 a, .int .i64 b], .int .i64 len, .int .i64 t, .int .i64 c] w fun e w' => e = .returned (.bool (one len t c ⟨8, a, b⟩)) ∧ Below w.heap.size w w' := by
  have b0 := below_alloc1 w (.cells #[.int .i64 8, .int .i64 a, .int .i64 b] 82)
  have hc0 : (w.alloc (.cells #[.int .i64 8, .int .i64 a, .int .i64 b] 82)).cell? ⟨w.heap.size, 0, none⟩ = some (.int .i64 8) := World.cell?_alloc_new _ _ _ _
  have hc1 : (w.alloc (.cells #[.int .i64 8, .int .i64 a, .int .i64 b] 82)).cell? ⟨w.heap.size, 1, none⟩ = some (.int .i64 a) := World.cell?_alloc_new _ _ _ _
  have hc2 : (w.alloc (.cells #[.int .i64 8, .int .i64 a, .int .i64 b] 82)).cell? ⟨w.heap.size, 2, none⟩ = some (.int .i64 b) := World.cell?_alloc_new _ _ _ _
  have B0 := Lib.hid b0
  clear b0
  go_enter Tryz.func87, Tryz.ntmps87
  go_wp2_with (first | (go_at_call 100; refine (refTarget_any a t _).mono ?_; rintro e w1 ⟨rfl, rfl⟩) | (go_at_call 101; refine (refPlayers_any a t _).mono ?_; rintro e w1 ⟨rfl, rfl⟩) | (go_at_call 102; refine (refBeasts_any a t _).mono ?_; rintro e w1 ⟨rfl, rfl⟩))
  all_goals go_ret
  all_goals
    refine ⟨bool_ret ?_, B0.out⟩
    clear hc0 hc1 hc2 B0
    rw [Bool.eq_iff_iff]
    simp [one, aOk, bOk, btw, tgt, plr, bst] at *
    try omega

set_option maxRecDepth 100000 in
set_option maxHeartbeats 2000000 in
theorem refOne_9 (a b len t c : Int) (w : World) :
    Calls Tryz.prog 87 #[.agg #[.int .i64 9, .int .i64 a, .int .i64 b], .int .i64 len, .int .i64 t, .int .i64 c] w fun e w' => e = .returned (.bool (one len t c ⟨9, a, b⟩)) ∧ Below w.heap.size w w' := by
  have b0 := below_alloc1 w (.cells #[.int .i64 9, .int .i64 a, .int .i64 b] 82)
  have hc0 : (w.alloc (.cells #[.int .i64 9, .int .i64 a, .int .i64 b] 82)).cell? ⟨w.heap.size, 0, none⟩ = some (.int .i64 9) := World.cell?_alloc_new _ _ _ _
  have hc1 : (w.alloc (.cells #[.int .i64 9, .int .i64 a, .int .i64 b] 82)).cell? ⟨w.heap.size, 1, none⟩ = some (.int .i64 a) := World.cell?_alloc_new _ _ _ _
  have hc2 : (w.alloc (.cells #[.int .i64 9, .int .i64 a, .int .i64 b] 82)).cell? ⟨w.heap.size, 2, none⟩ = some (.int .i64 b) := World.cell?_alloc_new _ _ _ _
  have B0 := Lib.hid b0
  clear b0
  go_enter Tryz.func87, Tryz.ntmps87
  go_wp2_with (first | (go_at_call 100; refine (refTarget_any a t _).mono ?_; rintro e w1 ⟨rfl, rfl⟩) | (go_at_call 101; refine (refPlayers_any a t _).mono ?_; rintro e w1 ⟨rfl, rfl⟩) | (go_at_call 102; refine (refBeasts_any a t _).mono ?_; rintro e w1 ⟨rfl, rfl⟩))
  all_goals go_ret
  all_goals
    refine ⟨bool_ret ?_, B0.out⟩
    clear hc0 hc1 hc2 B0
    rw [Bool.eq_iff_iff]
    simp [one, aOk, bOk, btw, tgt, plr, bst] at *
    try omega

set_option maxRecDepth 100000 in
set_option maxHeartbeats 2000000 in
theorem refOne_10 (a b len t c : Int) (w : World) :
    Calls Tryz.prog 87 #[.agg #[.int .i64 10, .int .i64 a, .int .i64 b], .int .i64 len, .int .i64 t, .int .i64 c] w fun e w' => e = .returned (.bool (one len t c ⟨10, a, b⟩)) ∧ Below w.heap.size w w' := by
  have b0 := below_alloc1 w (.cells #[.int .i64 10, .int .i64 a, .int .i64 b] 82)
  have hc0 : (w.alloc (.cells #[.int .i64 10, .int .i64 a, .int .i64 b] 82)).cell? ⟨w.heap.size, 0, none⟩ = some (.int .i64 10) := World.cell?_alloc_new _ _ _ _
  have hc1 : (w.alloc (.cells #[.int .i64 10, .int .i64 a, .int .i64 b] 82)).cell? ⟨w.heap.size, 1, none⟩ = some (.int .i64 a) := World.cell?_alloc_new _ _ _ _
  have hc2 : (w.alloc (.cells #[.int .i64 10, .int .i64 a, .int .i64 b] 82)).cell? ⟨w.heap.size, 2, none⟩ = some (.int .i64 b) := World.cell?_alloc_new _ _ _ _
  have B0 := Lib.hid b0
  clear b0
  go_enter Tryz.func87, Tryz.ntmps87
  go_wp2_with (first | (go_at_call 100; refine (refTarget_any a t _).mono ?_; rintro e w1 ⟨rfl, rfl⟩) | (go_at_call 101; refine (refPlayers_any a t _).mono ?_; rintro e w1 ⟨rfl, rfl⟩) | (go_at_call 102; refine (refBeasts_any a t _).mono ?_; rintro e w1 ⟨rfl, rfl⟩))
  all_goals go_ret
  all_goals
    refine ⟨bool_ret ?_, B0.out⟩
    clear hc0 hc1 hc2 B0
    rw [Bool.eq_iff_iff]
    simp [one, aOk, bOk, btw, tgt, plr, bst] at *
    try omega

set_option maxRecDepth 100000 in
set_option maxHeartbeats 2000000 in
theorem refOne_11 (a b len t c : Int) (w : World) :
    Calls Tryz.prog 87 #[.agg #[.int .i64 11, .int .i64 a, .int .i64 b], .int .i64 len, .int .i64 t, .int .i64 c] w fun e w' => e = .returned (.bool (one len t c ⟨11, a, b⟩)) ∧ Below w.heap.size w w' := by
  have b0 := below_alloc1 w (.cells #[.int .i64 11, .int .i64 a, .int .i64 b] 82)
  have hc0 : (w.alloc (.cells #[.int .i64 11, .int .i64 a, .int .i64 b] 82)).cell? ⟨w.heap.size, 0, none⟩ = some (.int .i64 11) := World.cell?_alloc_new _ _ _ _
  have hc1 : (w.alloc (.cells #[.int .i64 11, .int .i64 a, .int .i64 b] 82)).cell? ⟨w.heap.size, 1, none⟩ = some (.int .i64 a) := World.cell?_alloc_new _ _ _ _
  have hc2 : (w.alloc (.cells #[.int .i64 11, .int .i64 a, .int .i64 b] 82)).cell? ⟨w.heap.size, 2, none⟩ = some (.int .i64 b) := World.cell?_alloc_new _ _ _ _
  have B0 := Lib.hid b0
  clear b0
  go_enter Tryz.func87, Tryz.ntmps87
  go_wp2_with (first | (go_at_call 100; refine (refTarget_any a t _).mono ?_; rintro e w1 ⟨rfl, rfl⟩) | (go_at_call 101; refine (refPlayers_any a t _).mono ?_; rintro e w1 ⟨rfl, rfl⟩) | (go_at_call 102; refine (refBeasts_any a t _).mono ?_; rintro e w1 ⟨rfl, rfl⟩))
  all_goals go_ret
  all_goals
    refine ⟨bool_ret ?_, B0.out⟩
    clear hc0 hc1 hc2 B0
    rw [Bool.eq_iff_iff]
    simp [one, aOk, bOk, btw, tgt, plr, bst] at *
    try omega

set_option maxRecDepth 100000 in
set_option maxHeartbeats 2000000 in
theorem refOne_12 (a b len t c : Int) (w : World) :
    Calls Tryz.prog 87 #[.agg #[.int .i64 12, .int .i64 a, .int .i64 b], .int .i64 len, .int .i64 t, .int .i64 c] w fun e w' => e = .returned (.bool (one len t c ⟨12, a, b⟩)) ∧ Below w.heap.size w w' := by
  have b0 := below_alloc1 w (.cells #[.int .i64 12, .int .i64 a, .int .i64 b] 82)
  have hc0 : (w.alloc (.cells #[.int .i64 12, .int .i64 a, .int .i64 b] 82)).cell? ⟨w.heap.size, 0, none⟩ = some (.int .i64 12) := World.cell?_alloc_new _ _ _ _
  have hc1 : (w.alloc (.cells #[.int .i64 12, .int .i64 a, .int .i64 b] 82)).cell? ⟨w.heap.size, 1, none⟩ = some (.int .i64 a) := World.cell?_alloc_new _ _ _ _
  have hc2 : (w.alloc (.cells #[.int .i64 12, .int .i64 a, .int .i64 b] 82)).cell? ⟨w.heap.size, 2, none⟩ = some (.int .i64 b) := World.cell?_alloc_new _ _ _ _
  have B0 := Lib.hid b0
  clear b0
  go_enter Tryz.func87, Tryz.ntmps87
  go_wp2_with (first | (go_at_call 100; refine (refTarget_any a t _).mono ?_; rintro e w1 ⟨rfl, rfl⟩) | (go_at_call 101; refine (refPlayers_any a t _).mono ?_; rintro e w1 ⟨rfl, rfl⟩) | (go_at_call 102; refine (refBeasts_any a t _).mono ?_; rintro e w1 ⟨rfl, rfl⟩))
  all_goals go_ret
  all_goals
    refine ⟨bool_ret ?_, B0.out⟩
    clear hc0 hc1 hc2 B0
    rw [Bool.eq_iff_iff]
    simp [one, aOk, bOk, btw, tgt, plr, bst] at *
    try omega

set_option maxRecDepth 100000 in
set_option maxHeartbeats 2000000 in
theorem refOne_13 (a b len t c : Int) (w : World) :
    Calls Tryz.prog 87 #[.agg #[.int .i64 13, .int .i64 a, .int .i64 b], .int .i64 len, .int .i64 t, .int .i64 c] w fun e w' => e = .returned (.bool (one len t c ⟨13, a, b⟩)) ∧ Below w.heap.size w w' := by
  have b0 := below_alloc1 w (.cells #[.int .i64 13, .int .i64 a, .int .i64 b] 82)
  have hc0 : (w.alloc (.cells #[.int .i64 13, .int .i64 a, .int .i64 b] 82)).cell? ⟨w.heap.size, 0, none⟩ = some (.int .i64 13) := World.cell?_alloc_new _ _ _ _
  have hc1 : (w.alloc (.cells #[.int .i64 13, .int .i64 a, .int .i64 b] 82)).cell? ⟨w.heap.size, 1, none⟩ = some (.int .i64 a) := World.cell?_alloc_new _ _ _ _
  have hc2 : (w.alloc (.cells #[.int .i64 13, .int .i64 a, .int .i64 b] 82)).cell? ⟨w.heap.size, 2, none⟩ = some (.int .i64 b) := World.cell?_alloc_new _ _ _ _
  have B0 := Lib.hid b0
  clear b0
  go_enter Tryz.func87, Tryz.ntmps87
  go_wp2_with (first | (go_at_call 100; refine (refTarget_any a t _).mono ?_; rintro e w1 ⟨rfl, rfl⟩) | (go_at_call 101; refine (refPlayers_any a t _).mono ?_; rintro e w1 ⟨rfl, rfl⟩) | (go_at_call 102; refine (refBeasts_any a t _).mono ?_; rintro e w1 ⟨rfl, rfl⟩))
  all_goals go_ret
  all_goals
    refine ⟨bool_ret ?_, B0.out⟩
    clear hc0 hc1 hc2 B0
    rw [Bool.eq_iff_iff]
    simp [one, aOk, bOk, btw, tgt, plr, bst] at *
    try omega

set_option maxRecDepth 100000 in
set_option maxHeartbeats 2000000 in
theorem refOne_14 (a b len t c : Int) (w : World) :
    Calls Tryz.prog 87 #[.agg #[.int .i64 14, .int .i64 a, .int .i64 b], .int .i64 len, .int .i64 t, .int .i64 c] w fun e w' => e = .returned (.bool (one len t c ⟨14, a, b⟩)) ∧ Below w.heap.size w w' := by
  have b0 := below_alloc1 w (.cells #[.int .i64 14, .int .i64 a, .int .i64 b] 82)
  have hc0 : (w.alloc (.cells #[.int .i64 14, .int .i64 a, .int .i64 b] 82)).cell? ⟨w.heap.size, 0, none⟩ = some (.int .i64 14) := World.cell?_alloc_new _ _ _ _
  have hc1 : (w.alloc (.cells #[.int .i64 14, .int .i64 a, .int .i64 b] 82)).cell? ⟨w.heap.size, 1, none⟩ = some (.int .i64 a) := World.cell?_alloc_new _ _ _ _
  have hc2 : (w.alloc (.cells #[.int .i64 14, .int .i64 a, .int .i64 b] 82)).cell? ⟨w.heap.size, 2, none⟩ = some (.int .i64 b) := World.cell?_alloc_new _ _ _ _
  have B0 := Lib.hid b0
  clear b0
  go_enter Tryz.func87, Tryz.ntmps87
  go_wp2_with (first | (go_at_call 100; refine (refTarget_any a t _).mono ?_; rintro e w1 ⟨rfl, rfl⟩) | (go_at_call 101; refine (refPlayers_any a t _).mono ?_; rintro e w1 ⟨rfl, rfl⟩) | (go_at_call 102; refine (refBeasts_any a t _).mono ?_; rintro e w1 ⟨rfl, rfl⟩))
  all_goals go_ret
  all_goals
    refine ⟨bool_ret ?_, B0.out⟩
    clear hc0 hc1 hc2 B0
    rw [Bool.eq_iff_iff]
    simp [one, aOk, bOk, btw, tgt, plr, bst] at *
    try omega

set_option maxRecDepth 100000 in
set_option maxHeartbeats 2000000 in
theorem refOne_15 (a b len t c : Int) (w : World) :
    Calls Tryz.prog 87 #[.agg #[.int .i64 15, .int .i64 a, .int .i64 b], .int .i64 len, .int .i64 t, .int .i64 c] w fun e w' => e = .returned (.bool (one len t c ⟨15, a, b⟩)) ∧ Below w.heap.size w w' := by
  have b0 := below_alloc1 w (.cells #[.int .i64 15, .int .i64 a, .int .i64 b] 82)
  have hc0 : (w.alloc (.cells #[.int .i64 15, .int .i64 a, .int .i64 b] 82)).cell? ⟨w.heap.size, 0, none⟩ = some (.int .i64 15) := World.cell?_alloc_new _ _ _ _
  have hc1 : (w.alloc (.cells #[.int .i64 15, .int .i64 a, .int .i64 b] 82)).cell? ⟨w.heap.size, 1, none⟩ = some (.int .i64 a) := World.cell?_alloc_new _ _ _ _
  have hc2 : (w.alloc (.cells #[.int .i64 15, .int .i64 a, .int .i64 b] 82)).cell? ⟨w.heap.size, 2, none⟩ = some (.int .i64 b) := World.cell?_alloc_new _ _ _ _
  have B0 := Lib.hid b0
  clear b0
  go_enter Tryz.func87, Tryz.ntmps87
  go_wp2_with (first | (go_at_call 100; refine (refTarget_any a t _).mono ?_; rintro e w1 ⟨rfl, rfl⟩) | (go_at_call 101; refine (refPlayers_any a t _).mono ?_; rintro e w1 ⟨rfl, rfl⟩) | (go_at_call 102; refine (refBeasts_any a t _).mono ?_; rintro e w1 ⟨rfl, rfl⟩))
  all_goals go_ret
  all_goals
    refine ⟨bool_ret ?_, B0.out⟩
    clear hc0 hc1 hc2 B0
    rw [Bool.eq_iff_iff]
    simp [one, aOk, bOk, btw, tgt, plr, bst] at *
    try omega

set_option maxRecDepth 100000 in
set_option maxHeartbeats 2000000 in
theorem refOne_16 (a b len t c : Int) (w : World) :
    Calls Tryz.prog 87 #[.agg #[.int .i64 16, .int .i64 a, .int .i64 b], .int .i64 len, .int .i64 t, .int .i64 c] w fun e w' => e = .returned (.bool (one len t c ⟨16, a, b⟩)) ∧ Below w.heap.size w w' := by
  have b0 := below_alloc1 w (.cells #[.int .i64 16, .int .i64 a, .int .i64 b] 82)
  have hc0 : (w.alloc (.cells #[.int .i64 16, .int .i64 a, .int .i64 b] 82)).cell? ⟨w.heap.size, 0, none⟩ = some (.int .i64 16) := World.cell?_alloc_new _ _ _ _
  have hc1 : (w.alloc (.cells #[.int .i64 16, .int .i64 a, .int .i64 b] 82)).cell? ⟨w.heap.size, 1, none⟩ = some (.int .i64 a) := World.cell?_alloc_new _ _ _ _
  have hc2 : (w.alloc (.cells #[.int .i64 16, .int .i64 a, .int .i64 b] 82)).cell? ⟨w.heap.size, 2, none⟩ = some (.int .i64 b) := World.cell?_alloc_new _ _ _ _
  have B0 := Lib.hid b0
  clear b0
  go_enter Tryz.func87, Tryz.ntmps87
  go_wp2_with (first | (go_at_call 100; refine (refTarget_any a t _).mono ?_; rintro e w1 ⟨rfl, rfl⟩) | (go_at_call 101; refine (refPlayers_any a t _).mono ?_; rintro e w1 ⟨rfl, rfl⟩) | (go_at_call 102; refine (refBeasts_any a t _).mono ?_; rintro e w1 ⟨rfl, rfl⟩))
  all_goals go_ret
  all_goals
    refine ⟨bool_ret ?_, B0.out⟩
    clear hc0 hc1 hc2 B0
    rw [Bool.eq_iff_iff]
    simp [one, aOk, bOk, btw, tgt, plr, bst] at *
    try omega

set_option maxRecDepth 100000 in
set_option maxHeartbeats 2000000 in
theorem refOne_17 (a b len t c : Int) (w : World) :
    Calls Tryz.prog 87 #[.agg #[.int .i64 17, .int .i64 a, .int .i64 b], .int .i64 len, .int .i64 t, .int .i64 c] w fun e w' => e = .returned (.bool (one len t c ⟨17, a, b⟩)) ∧ Below w.heap.size w w' := by
  have b0 := below_alloc1 w (.cells #[.int .i64 17, .int .i64 a, .int .i64 b] 82)
  have hc0 : (w.alloc (.cells #[.int .i64 17, .int .i64 a, .int .i64 b] 82)).cell? ⟨w.heap.size, 0, none⟩ = some (.int .i64 17) := World.cell?_alloc_new _ _ _ _
  have hc1 : (w.alloc (.cells #[.int .i64 17, .int .i64 a, .int .i64 b] 82)).cell? ⟨w.heap.size, 1, none⟩ = some (.int .i64 a) := World.cell?_alloc_new _ _ _ _
  have hc2 : (w.alloc (.cells #[.int .i64 17, .int .i64 a, .int .i64 b] 82)).cell? ⟨w.heap.size, 2, none⟩ = some (.int .i64 b) := World.cell?_alloc_new _ _ _ _
  have B0 := Lib.hid b0
  clear b0
  go_enter Tryz.func87, Tryz.ntmps87
  go_wp2_with (first | (go_at_call 100; refine (refTarget_any a t _).mono ?_; rintro e w1 ⟨rfl, rfl⟩) | (go_at_call 101; refine (refPlayers_any a t _).mono ?_; rintro e w1 ⟨rfl, rfl⟩) | (go_at_call 102; refine (refBeasts_any a t _).mono ?_; rintro e w1 ⟨rfl, rfl⟩))
  all_goals go_ret
  all_goals
    refine ⟨bool_ret ?_, B0.out⟩
    clear hc0 hc1 hc2 B0
    rw [Bool.eq_iff_iff]
    simp [one, aOk, bOk, btw, tgt, plr, bst] at *
    try omega

set_option maxRecDepth 100000 in
set_option maxHeartbeats 2000000 in
theorem refOne_18 (a b len t c : Int) (w : World) :
    Calls Tryz.prog 87 #[.agg #[.int .i64 18, .int .i64 a, .int .i64 b], .int .i64 len, .int .i64 t, .int .i64 c] w fun e w' => e = .returned (.bool (one len t c ⟨18, a, b⟩)) ∧ Below w.heap.size w w' := by
  have b0 := below_alloc1 w (.cells #[.int .i64 18, .int .i64 a, .int .i64 b] 82)
  have hc0 : (w.alloc (.cells #[.int .i64 18, .int .i64 a, .int .i64 b] 82)).cell? ⟨w.heap.size, 0, none⟩ = some (.int .i64 18) := World.cell?_alloc_new _ _ _ _
  have hc1 : (w.alloc (.cells #[.int .i64 18, .int .i64 a, .int .i64 b] 82)).cell? ⟨w.heap.size, 1, none⟩ = some (.int .i64 a) := World.cell?_alloc_new _ _ _ _
  have hc2 : (w.alloc (.cells #[.int .i64 18, .int .i64 a, .int .i64 b] 82)).cell? ⟨w.heap.size, 2, none⟩ = some (.int .i64 b) := World.cell?_alloc_new _ _ _ _
  have B0 := Lib.hid b0
  clear b0
  go_enter Tryz.func87, Tryz.ntmps87
  go_wp2_with (first | (go_at_call 100; refine (refTarget_any a t _).mono ?_; rintro e w1 ⟨rfl, rfl⟩) | (go_at_call 101; refine (refPlayers_any a t _).mono ?_; rintro e w1 ⟨rfl, rfl⟩) | (go_at_call 102; refine (refBeasts_any a t _).mono ?_; rintro e w1 ⟨rfl, rfl⟩))
  all_goals go_ret
  all_goals
    refine ⟨bool_ret ?_, B0.out⟩
    clear hc0 hc1 hc2 B0
    rw [Bool.eq_iff_iff]
    simp [one, aOk, bOk, btw, tgt, plr, bst] at *
    try omega

set_option maxRecDepth 100000 in
set_option maxHeartbeats 2000000 in
theorem refOne_19 (a b len t c : Int) (w : World) :
    Calls Tryz.prog 87 #[.agg #[.int .i64 19, .int .i64 a, .int .i64 b], .int .i64 len, .int .i64 t, .int .i64 c] w fun e w' => e = .returned (.bool (one len t c ⟨19, a, b⟩)) ∧ Below w.heap.size w w' := by
  have b0 := below_alloc1 w (.cells #[.int .i64 19, .int .i64 a, .int .i64 b] 82)
  have hc0 : (w.alloc (.cells #[.int .i64 19, .int .i64 a, .int .i64 b] 82)).cell? ⟨w.heap.size, 0, none⟩ = some (.int .i64 19) := World.cell?_alloc_new _ _ _ _
  have hc1 : (w.alloc (.cells #[.int .i64 19, .int .i64 a, .int .i64 b] 82)).cell? ⟨w.heap.size, 1, none⟩ = some (.int .i64 a) := World.cell?_alloc_new _ _ _ _
  have hc2 : (w.alloc (.cells #[.int .i64 19, .int .i64 a, .int .i64 b] 82)).cell? ⟨w.heap.size, 2, none⟩ = some (.int .i64 b) := World.cell?_alloc_new _ _ _ _
  have B0 := Lib.hid b0
  clear b0
  go_enter Tryz.func87, Tryz.ntmps87
  go_wp2_with (first | (go_at_call 100; refine (refTarget_any a t _).mono ?_; rintro e w1 ⟨rfl, rfl⟩) | (go_at_call 101; refine (refPlayers_any a t _).mono ?_; rintro e w1 ⟨rfl, rfl⟩) | (go_at_call 102; refine (refBeasts_any a t _).mono ?_; rintro e w1 ⟨rfl, rfl⟩))
  all_goals go_ret
  all_goals
    refine ⟨bool_ret ?_, B0.out⟩
    clear hc0 hc1 hc2 B0
    rw [Bool.eq_iff_iff]
    simp [one, aOk, bOk, btw, tgt, plr, bst] at *
    try omega

set_option maxRecDepth 100000 in
set_option maxHeartbeats 2000000 in
theorem refOne_20 (a b len t c : Int) (w : World) :
    Calls Tryz.prog 87 #[.agg #[.int .i64 20, .int .i64 a, .int .i64 b], .int .i64 len, .int .i64 t, .int .i64 c] w fun e w' => e = .returned (.bool (one len t c ⟨20, a, b⟩)) ∧ Below w.heap.size w w' := by
  have b0 := below_alloc1 w (.cells #[.int .i64 20, .int .i64 a, .int .i64 b] 82)
  have hc0 : (w.alloc (.cells #[.int .i64 20, .int .i64 a, .int .i64 b] 82)).cell? ⟨w.heap.size, 0, none⟩ = some (.int .i64 20) := World.cell?_alloc_new _ _ _ _
  have hc1 : (w.alloc (.cells #[.int .i64 20, .int .i64 a, .int .i64 b] 82)).cell? ⟨w.heap.size, 1, none⟩ = some (.int .i64 a) := World.cell?_alloc_new _ _ _ _
  have hc2 : (w.alloc (.cells #[.int .i64 20, .int .i64 a, .int .i64 b] 82)).cell? ⟨w.heap.size, 2, none⟩ = some (.int .i64 b) := World.cell?_alloc_new _ _ _ _
  have B0 := Lib.hid b0
  clear b0
  go_enter Tryz.func87, Tryz.ntmps87
  go_wp2_with (first | (go_at_call 100; refine (refTarget_any a t _).mono ?_; rintro e w1 ⟨rfl, rfl⟩) | (go_at_call 101; refine (refPlayers_any a t _).mono ?_; rintro e w1 ⟨rfl, rfl⟩) | (go_at_call 102; refine (refBeasts_any a t _).mono ?_; rintro e w1 ⟨rfl, rfl⟩))
  all_goals go_ret
  all_goals
    refine ⟨bool_ret ?_, B0.out⟩
    clear hc0 hc1 hc2 B0
    rw [Bool.eq_iff_iff]
    simp [one, aOk, bOk, btw, tgt, plr, bst] at *
    try omega

set_option maxRecDepth 100000 in
set_option maxHeartbeats 2000000 in
theorem refOne_21 (a b len t c : Int) (w : World) :
    Calls Tryz.prog 87 #[.agg #[.int .i64 21, .int .i64 a, .int .i64 b], .int .i64 len, .int .i64 t, .int .i64 c] w fun e w' => e = .returned (.bool (one len t c ⟨21, a, b⟩)) ∧ Below w.heap.size w w' := by
  have b0 := below_alloc1 w (.cells #[.int .i64 21, .int .i64 a, .int .i64 b] 82)
  have hc0 : (w.alloc (.cells #[.int .i64 21, .int .i64 a, .int .i64 b] 82)).cell? ⟨w.heap.size, 0, none⟩ = some (.int .i64 21) := World.cell?_alloc_new _ _ _ _
  have hc1 : (w.alloc (.cells #[.int .i64 21, .int .i64 a, .int .i64 b] 82)).cell? ⟨w.heap.size, 1, none⟩ = some (.int .i64 a) := World.cell?_alloc_new _ _ _ _
  have hc2 : (w.alloc (.cells #[.int .i64 21, .int .i64 a, .int .i64 b] 82)).cell? ⟨w.heap.size, 2, none⟩ = some (.int .i64 b) := World.cell?_alloc_new _ _ _ _
  have B0 := Lib.hid b0
  clear b0
  go_enter Tryz.func87, Tryz.ntmps87
  go_wp2_with (first | (go_at_call 100; refine (refTarget_any a t _).mono ?_; rintro e w1 ⟨rfl, rfl⟩) | (go_at_call 101; refine (refPlayers_any a t _).mono ?_; rintro e w1 ⟨rfl, rfl⟩) | (go_at_call 102; refine (refBeasts_any a t _).mono ?_; rintro e w1 ⟨rfl, rfl⟩))
  all_goals go_ret
  all_goals
    refine ⟨bool_ret ?_, B0.out⟩
    clear hc0 hc1 hc2 B0
    rw [Bool.eq_iff_iff]
    simp [one, aOk, bOk, btw, tgt, plr, bst] at *
    try omega

set_option maxRecDepth 100000 in
set_option maxHeartbeats 2000000 in
theorem refOne_22 (a b len t c : Int) (w : World) :
    Calls Tryz.prog 87 #[.agg #[.int .i64 22, .int .i64 a, .int .i64 b], .int .i64 len, .int .i64 t, .int .i64 c] w fun e w' => e = .returned (.bool (one len t c ⟨22, a, b⟩)) ∧ Below w.heap.size w w' := by
  have b0 := below_alloc1 w (.cells #[.int .i64 22, .int .i64 a, .int .i64 b] 82)
  have hc0 : (w.alloc (.cells #[.int .i64 22, .int .i64 a, .int .i64 b] 82)).cell? ⟨w.heap.size, 0, none⟩ = some (.int .i64 22) := World.cell?_alloc_new _ _ _ _
  have hc1 : (w.alloc (.cells #[.int .i64 22, .int .i64 a, .int .i64 b] 82)).cell? ⟨w.heap.size, 1, none⟩ = some (.int .i64 a) := World.cell?_alloc_new _ _ _ _
  have hc2 : (w.alloc (.cells #[.int .i64 22, .int .i64 a, .int .i64 b] 82)).cell? ⟨w.heap.size, 2, none⟩ = some (.int .i64 b) := World.cell?_alloc_new _ _ _ _
  have B0 := Lib.hid b0
  clear b0
  go_enter Tryz.func87, Tryz.ntmps87
  go_wp2_with (first | (go_at_call 100; refine (refTarget_any a t _).mono ?_; rintro e w1 ⟨rfl, rfl⟩) | (go_at_call 101; refine (refPlayers_any a t _).mono ?_; rintro e w1 ⟨rfl, rfl⟩) | (go_at_call 102; refine (refBeasts_any a t _).mono ?_; rintro e w1 ⟨rfl, rfl⟩))
  all_goals go_ret
  all_goals
    refine ⟨bool_ret ?_, B0.out⟩
    clear hc0 hc1 hc2 B0
    rw [Bool.eq_iff_iff]
    simp [one, aOk, bOk, btw, tgt, plr, bst] at *
    try omega

set_option maxRecDepth 100000 in
set_option maxHeartbeats 2000000 in
theorem refOne_23 (a b len t c : Int) (w : World) :
    Calls Tryz.prog 87 #[.agg #[.int .i64 23, .int .i64 a, .int .i64 b], .int .i64 len, .int .i64 t, .int .i64 c] w fun e w' => e = .returned (.bool (one len t c ⟨23, a, b⟩)) ∧ Below w.heap.size w w' := by
  have b0 := below_alloc1 w (.cells #[.int .i64 23, .int .i64 a, .int .i64 b] 82)
  have hc0 : (w.alloc (.cells #[.int .i64 23, .int .i64 a, .int .i64 b] 82)).cell? ⟨w.heap.size, 0, none⟩ = some (.int .i64 23) := World.cell?_alloc_new _ _ _ _
  have hc1 : (w.alloc (.cells #[.int .i64 23, .int .i64 a, .int .i64 b] 82)).cell? ⟨w.heap.size, 1, none⟩ = some (.int .i64 a) := World.cell?_alloc_new _ _ _ _
  have hc2 : (w.alloc (.cells #[.int .i64 23, .int .i64 a, .int .i64 b] 82)).cell? ⟨w.heap.size, 2, none⟩ = some (.int .i64 b) := World.cell?_alloc_new _ _ _ _
  have B0 := Lib.hid b0
  clear b0
  go_enter Tryz.func87, Tryz.ntmps87
  go_wp2_with (first | (go_at_call 100; refine (refTarget_any a t _).mono ?_; rintro e w1 ⟨rfl, rfl⟩) | (go_at_call 101; refine (refPlayers_any a t _).mono ?_; rintro e w1 ⟨rfl, rfl⟩) | (go_at_call 102; refine (refBeasts_any a t _).mono ?_; rintro e w1 ⟨rfl, rfl⟩))
  all_goals go_ret
  all_goals
    refine ⟨bool_ret ?_, B0.out⟩
    clear hc0 hc1 hc2 B0
    rw [Bool.eq_iff_iff]
    simp [one, aOk, bOk, btw, tgt, plr, bst] at *
    try omega

set_option maxRecDepth 100000 in
set_option maxHeartbeats 2000000 in
theorem refOne_24 (a b len t c : Int) (w : World) :
    Calls Tryz.prog 87 #[.agg #[.int .i64 24, .int .i64 a, .int .i64 b], .int .i64 len, .int .i64 t, .int .i64 c] w fun e w' => e = .returned (.bool (one len t c ⟨24, a, b⟩)) ∧ Below w.heap.size w w' := by
  have b0 := below_alloc1 w (.cells #[.int .i64 24, .int .i64 a, .int .i64 b] 82)
  have hc0 : (w.alloc (.cells #[.int .i64 24, .int .i64 a, .int .i64 b] 82)).cell? ⟨w.heap.size, 0, none⟩ = some (.int .i64 24) := World.cell?_alloc_new _ _ _ _
  have hc1 : (w.alloc (.cells #[.int .i64 24, .int .i64 a, .int .i64 b] 82)).cell? ⟨w.heap.size, 1, none⟩ = some (.int .i64 a) := World.cell?_alloc_new _ _ _ _
  have hc2 : (w.alloc (.cells #[.int .i64 24, .int .i64 a, .int .i64 b] 82)).cell? ⟨w.heap.size, 2, none⟩ = some (.int .i64 b) := World.cell?_alloc_new _ _ _ _
  have B0 := Lib.hid b0
  clear b0
  go_enter Tryz.func87, Tryz.ntmps87
  go_wp2_with (first | (go_at_call 100; refine (refTarget_any a t _).mono ?_; rintro e w1 ⟨rfl, rfl⟩) | (go_at_call 101; refine (refPlayers_any a t _).mono ?_; rintro e w1 ⟨rfl, rfl⟩) | (go_at_call 102; refine (refBeasts_any a t _).mono ?_; rintro e w1 ⟨rfl, rfl⟩))
  all_goals go_ret
  all_goals
    refine ⟨bool_ret ?_, B0.out⟩
    clear hc0 hc1 hc2 B0
    rw [Bool.eq_iff_iff]
    simp [one, aOk, bOk, btw, tgt, plr, bst] at *
    try omega

set_option maxRecDepth 100000 in
set_option maxHeartbeats 2000000 in
theorem refOne_other (op : Int) (a b len t c : Int) (w : World) (ho : ¬ (1 ≤ op ∧ op ≤ 24)) (n1 : ¬ op = 1) (n2 : ¬ op = 2) (n3 : ¬ op = 3) (n4 : ¬ op = 4) (n5 : ¬ op = 5) (n6 : ¬ op = 6) (n7 : ¬ op = 7) (n8 : ¬ op = 8) (n9 : ¬ op = 9) (n10 : ¬ op = 10) (n11 : ¬ op = 11) (n12 : ¬ op = 12) (n13 : ¬ op = 13) (n14 : ¬ op = 14) (n15 : ¬ op = 15) (n16 : ¬ op = 16) (n17 : ¬ op = 17) (n18 : ¬ op = 18) (n19 : ¬ op = 19) (n20 : ¬ op = 20) (n21 : ¬ op = 21) (n22 : ¬ op = 22) (n23 : ¬ op = 23) (n24 : ¬ op = 24) :
    Calls Tryz.prog 87 #[.agg #[.int .i64 op, .int .i64 a, .int .i64 b], .int .i64 len, .int .i64 t, .int .i64 c] w fun e w' => e = .returned (.bool (one len t c ⟨op, a, b⟩)) ∧ Below w.heap.size w w' := by
  have b0 := below_alloc1 w (.cells #[.int .i64 op, .int .i64 a, .int .i64 b] 82)
  have hc0 : (w.alloc (.cells #[.int .i64 op, .int .i64 a, .int .i64 b] 82)).cell? ⟨w.heap.size, 0, none⟩ = some (.int .i64 op) := World.cell?_alloc_new _ _ _ _
  have hc1 : (w.alloc (.cells #[.int .i64 op, .int .i64 a, .int .i64 b] 82)).cell? ⟨w.heap.size, 1, none⟩ = some (.int .i64 a) := World.cell?_alloc_new _ _ _ _
  have hc2 : (w.alloc (.cells #[.int .i64 op, .int .i64 a, .int .i64 b] 82)).cell? ⟨w.heap.size, 2, none⟩ = some (.int .i64 b) := World.cell?_alloc_new _ _ _ _
  have B0 := Lib.hid b0
  clear b0
  go_enter Tryz.func87, Tryz.ntmps87
  go_wp2_with (first | (go_at_call 100; refine (refTarget_any a t _).mono ?_; rintro e w1 ⟨rfl, rfl⟩) | (go_at_call 101; refine (refPlayers_any a t _).mono ?_; rintro e w1 ⟨rfl, rfl⟩) | (go_at_call 102; refine (refBeasts_any a t _).mono ?_; rintro e w1 ⟨rfl, rfl⟩))
  all_goals go_ret
  all_goals exact ⟨bool_ret (by simp [one, show btw 1 24 op = false by simp [btw]; omega]), B0.out⟩

theorem refOne_any (x : Ins) (len t c : Int) (w : World) :
    Calls Tryz.prog 87 #[.agg #[.int .i64 x.op, .int .i64 x.a, .int .i64 x.b], .int .i64 len, .int .i64 t, .int .i64 c] w fun e w' => e = .returned (.bool (one len t c x)) ∧ Below w.heap.size w w' := by
  obtain ⟨op, a, b⟩ := x
  by_cases ho : 1 ≤ op ∧ op ≤ 24
  · obtain rfl | rfl | rfl | rfl | rfl | rfl | rfl | rfl | rfl | rfl | rfl | rfl | rfl | rfl | rfl | rfl | rfl | rfl | rfl | rfl | rfl | rfl | rfl | rfl : op = 1 ∨ op = 2 ∨ op = 3 ∨ op = 4 ∨ op = 5 ∨ op = 6 ∨ op = 7 ∨ op = 8 ∨ op = 9 ∨ op = 10 ∨ op = 11 ∨ op = 12 ∨ op = 13 ∨ op = 14 ∨ op = 15 ∨ op = 16 ∨ op = 17 ∨ op = 18 ∨ op = 19 ∨ op = 20 ∨ op = 21 ∨ op = 22 ∨ op = 23 ∨ op = 24 := by omega
    · exact refOne_1 a b len t c w
    · exact refOne_2 a b len t c w
    · exact refOne_3 a b len t c w
    · exact refOne_4 a b len t c w
    · exact refOne_5 a b len t c w
    · exact refOne_6 a b len t c w
    · exact refOne_7 a b len t c w
    · exact refOne_8 a b len t c w
    · exact refOne_9 a b len t c w
    · exact refOne_10 a b len t c w
    · exact refOne_11 a b len t c w
    · exact refOne_12 a b len t c w
    · exact refOne_13 a b len t c w
    · exact refOne_14 a b len t c w
    · exact refOne_15 a b len t c w
    · exact refOne_16 a b len t c w
    · exact refOne_17 a b len t c w
    · exact refOne_18 a b len t c w
    · exact refOne_19 a b len t c w
    · exact refOne_20 a b len t c w
    · exact refOne_21 a b len t c w
    · exact refOne_22 a b len t c w
    · exact refOne_23 a b len t c w
    · exact refOne_24 a b len t c w
  · exact refOne_other op a b len t c w ho (by omega) (by omega) (by omega) (by omega) (by omega) (by omega) (by omega) (by omega) (by omega) (by omega) (by omega) (by omega) (by omega) (by omega) (by omega) (by omega) (by omega) (by omega) (by omega) (by omega) (by omega) (by omega) (by omega) (by omega)
end Go.Proofs.YtbeaaieaffdgeaaGreatDoor
end
/- The document's answer: Check. -/
section
namespace Go.Proofs.YtbeaaieaffdgeaaGreatDoor
open Go.RowKit
set_option linter.unusedVariables false
set_option linter.unusedSimpArgs false

set_option maxRecDepth 100000 in
set_option maxHeartbeats 4000000 in
theorem refCheck_any (a : Option Addr) (cap : Nat) (L : List Ins) (t c : Int) (w : World) (h : IsC w a cap L) :
    Calls Tryz.prog 70 #[.slice a L.length cap, .int .i64 t, .int .i64 c] w fun e w' => e = .returned (.int .i64 (chk L t c)) ∧ Below w.heap.size w w' := by
  have HL := Lib.hid h
  have hcap := h.1
  have hcm := h.2.1
  clear h
  obtain ⟨r, hr⟩ : ∃ r, r = chk L t c := ⟨_, rfl⟩
  rw [← hr]
  have HR := Lib.hid hr
  clear hr
  by_cases hok : (0 ≤ t ∧ t ≤ 2) ∧ (0 ≤ c ∧ c ≤ 40)
  · obtain ⟨⟨t1, t2⟩, c1, c2⟩ := hok
    have HE := Lib.hid (show r = if 32 < L.length then 3 else if L.all (one L.length t c) then 0 else 9 by rw [HR.out]; simp [chk, btw, t1, t2, c1, c2])
    by_cases hl : 32 < L.length
    · have HV := Lib.hid (show r = 3 by rw [HE.out, if_pos hl])
      go_enter Tryz.func70, Tryz.ntmps70
      go_wp2_with fail
      go_ret
      exact ⟨int_ret HV.out.symm, Below.refl _ _⟩
    · go_enter Tryz.func70, Tryz.ntmps70
      go_wp2_with fail
      go_loopw [7] (fun q wr => ∃ k : Nat, q = .int .i64 (k : Int) ∧ k ≤ L.length ∧ (∀ j (h : j < L.length), j < k → one L.length t c L[j] = true) ∧ Below w.heap.size w wr) (fun q _ => L.length - (intOf q).toNat)
      case atStart => exact ⟨0, rfl, Nat.zero_le _, fun j _ hj => by omega, Below.refl _ _⟩
      case round =>
        obtain ⟨k, rfl, hk, hn, hbw⟩ := hrel
        have HN := Lib.hid hn
        have HW := Lib.hid hbw
        clear hn hbw
        by_cases hlt : k < L.length
        · obtain ⟨b, off, x, hx, rfl, x0, x1, x2⟩ := (HL.out.next HW.out).at k hlt
          have HX := Lib.hid hx
          clear hx
          cases hone : one L.length t c x
          · have HV := Lib.hid (show r = 9 by
              rw [HE.out, if_neg hl, if_neg]
              intro hall
              have := List.all_eq_true.1 hall _ (List.getElem_mem hlt)
              rw [← HX.out, hone] at this
              cases this)
            go_wp2_with fail
            refine (refOne_any x _ _ _ _).mono ?_
            rintro e w4 ⟨rfl, hb⟩
            rw [hone]
            have HW3 := Lib.hid (below_then' HW.out hb HW.out.size)
            clear hb
            go_wp2_with fail
            go_ret
            exact ⟨int_ret HV.out.symm, HW3.out⟩
          · go_wp2_with fail
            refine (refOne_any x _ _ _ _).mono ?_
            rintro e w4 ⟨rfl, hb⟩
            rw [hone]
            have HW3 := Lib.hid (below_then' HW.out hb HW.out.size)
            clear hb
            go_wp2_with fail
            go_roundw
            case rel => exact ⟨k + 1, by go_num, by omega, fun j h1 h2 => by
              by_cases hjk : j = k
              · subst hjk; rw [← HX.out]; exact hone
              · exact HN.out j h1 (by omega), HW3.out⟩
            case measure => simp [intOf]; omega
        · have HV := Lib.hid (show r = 0 by
            rw [HE.out, if_neg hl, if_pos]
            refine List.all_eq_true.2 fun x hx => ?_
            obtain ⟨j, hj, rfl⟩ := List.getElem_of_mem hx
            exact HN.out j hj (by omega))
          go_wp2_with fail
          go_ret
          exact ⟨int_ret HV.out.symm, HW.out⟩
  · have HV := Lib.hid (show r = 2 by rw [HR.out]; simp [chk, btw]; omega)
    by_cases t1 : t < 0
    · go_enter Tryz.func70, Tryz.ntmps70
      go_wp2_with fail
      go_ret
      exact ⟨int_ret HV.out.symm, Below.refl _ _⟩
    · by_cases t2 : 2 < t
      · go_enter Tryz.func70, Tryz.ntmps70
        go_wp2_with fail
        go_ret
        exact ⟨int_ret HV.out.symm, Below.refl _ _⟩
      · by_cases c1 : c < 0
        · go_enter Tryz.func70, Tryz.ntmps70
          go_wp2_with fail
          go_ret
          exact ⟨int_ret HV.out.symm, Below.refl _ _⟩
        · have c2 : 40 < c := by omega
          go_enter Tryz.func70, Tryz.ntmps70
          go_wp2_with fail
          go_ret
          exact ⟨int_ret HV.out.symm, Below.refl _ _⟩
end Go.Proofs.YtbeaaieaffdgeaaGreatDoor
end
/- within. -/
section
namespace Go.Proofs.YtbeaaieaffdgeaaGreatDoor
open Go.RowKit
set_option linter.unusedVariables false
set_option linter.unusedSimpArgs false

/-- Is each number where it must be? (op: the number; a, b: from where to where.) -/
def wi (L : List Ins) : Bool := L.all fun x => btw x.a x.b x.op
set_option maxRecDepth 100000 in
set_option maxHeartbeats 2000000 in
theorem within_any (a : Option Addr) (cap : Nat) (L : List Ins) (n : Nat) (hn : L.length = n) (r : Bool) (hr : wi L = r) (w : World) (h : IsC w a cap L) :
    Calls Tryz.prog 65 #[.slice a n cap] w fun e w' => e = .returned (.bool r) ∧ Below w.heap.size w w' := by
  subst hn
  have HL := Lib.hid h
  have hcap := h.1
  have hcm := h.2.1
  clear h
  have HR := Lib.hid hr
  clear hr
  go_enter Tryz.func65, Tryz.ntmps65
  go_wp2_with fail
  go_loopw [7] (fun q wr => ∃ k : Nat, q = .int .i64 (k : Int) ∧ k ≤ L.length ∧ (∀ j (h : j < L.length), j < k → btw L[j].a L[j].b L[j].op = true) ∧ Below w.heap.size w wr) (fun q _ => L.length - (intOf q).toNat)
  case atStart => exact ⟨0, rfl, Nat.zero_le _, fun j _ hj => by omega, Below.refl _ _⟩
  case round =>
    obtain ⟨k, rfl, hk, hn, hbw⟩ := hrel
    have HN := Lib.hid hn
    have HW := Lib.hid hbw
    clear hn hbw
    by_cases hlt : k < L.length
    · obtain ⟨b, off, x, hx, rfl, x0, x1, x2⟩ := (HL.out.next HW.out).at k hlt
      have HX := Lib.hid hx
      clear hx
      have HW2 := Lib.hid (HW.out.alloc HW.out.size (.cells #[.int .i64 x.op, .int .i64 x.a, .int .i64 x.b] 107))
      by_cases c1 : x.op < x.a
      · have HV := Lib.hid (show r = false by
          rw [← HR.out]
          refine Bool.eq_false_iff.2 fun hall => ?_
          have := List.all_eq_true.1 hall _ (List.getElem_mem hlt)
          rw [← HX.out] at this
          simp [btw] at this
          omega)
        go_wp2_with fail
        go_ret
        exact ⟨bool_ret HV.out.symm, HW2.out⟩
      · by_cases c2 : x.b < x.op
        · have HV := Lib.hid (show r = false by
            rw [← HR.out]
            refine Bool.eq_false_iff.2 fun hall => ?_
            have := List.all_eq_true.1 hall _ (List.getElem_mem hlt)
            rw [← HX.out] at this
            simp [btw] at this
            omega)
          go_wp2_with fail
          go_ret
          exact ⟨bool_ret HV.out.symm, HW2.out⟩
        · go_wp2_with fail
          go_roundw
          case rel => exact ⟨k + 1, by go_num, by omega, fun j h1 h2 => by
            by_cases hjk : j = k
            · subst hjk; rw [← HX.out]; simp [btw]; omega
            · exact HN.out j h1 (by omega), HW2.out⟩
          case measure => simp [intOf]; omega
    · have HV := Lib.hid (show r = true by
        rw [← HR.out]
        refine List.all_eq_true.2 fun x hx => ?_
        obtain ⟨j, hj, rfl⟩ := List.getElem_of_mem hx
        exact HN.out j hj (by omega))
      go_wp2_with fail
      go_ret
      exact ⟨bool_ret HV.out.symm, HW.out⟩
end Go.Proofs.YtbeaaieaffdgeaaGreatDoor
end
/- isCost. -/
section
namespace Go.Proofs.YtbeaaieaffdgeaaGreatDoor
open Go.RowKit
set_option linter.unusedVariables false
set_option linter.unusedSimpArgs false

theorem add_plain (b off n : Nat) : (⟨b, off, none⟩ : Addr).add n = ⟨b, off + n, none⟩ := by
  unfold Addr.add
  split
  · simp_all
  · rfl
/-- A literal row's cells. -/
def insCells : List Ins → List Value
  | [] => []
  | x :: L => .int .i64 x.op :: .int .i64 x.a :: .int .i64 x.b :: insCells L
theorem insCells_len : ∀ L : List Ins, (insCells L).length = L.length * 3
  | [] => rfl
  | x :: L => by simp [insCells, insCells_len L]; omega
theorem insCells_at : ∀ (L : List Ins) (j : Nat) (h : j < L.length), (insCells L)[j * 3]? = some (.int .i64 L[j].op) ∧ (insCells L)[j * 3 + 1]? = some (.int .i64 L[j].a) ∧ (insCells L)[j * 3 + 2]? = some (.int .i64 L[j].b)
  | [], j, h => by simp at h
  | x :: L, 0, h => ⟨rfl, rfl, rfl⟩
  | x :: L, j + 1, h => by
    have := insCells_at L j (by simpa using h)
    rw [show (j + 1) * 3 = j * 3 + 3 by omega]
    simpa [insCells] using this
theorem insCells_append : ∀ L M : List Ins, insCells (L ++ M) = insCells L ++ insCells M
  | [], M => rfl
  | x :: L, M => by simp [insCells, insCells_append L M]
theorem insCells_one : ∀ (L : List Ins) (u : Value), u ∈ insCells L → u.oneCell' = true
  | [], u, h => by cases h
  | x :: L, u, h => by
    simp only [insCells, List.mem_cons] at h
    rcases h with rfl | rfl | rfl | h
    · rfl
    · rfl
    · rfl
    · exact insCells_one L u h
/-- What a slice reads: n elements of so many cells. -/
def Row (w : World) (a : Option Addr) (c size n : Nat) (xs : List Value) : Prop :=
  n ≤ c ∧ c ≤ 9223372036854775807 ∧ (n = 0 ∨ ∃ b off, a = some ⟨b, off, none⟩ ∧ b < w.heap.size ∧ ∀ i, i < n * size → w.cell? ⟨b, off + i, none⟩ = xs[i]?)
theorem row_new (w : World) (cs : Array Value) (T : TypeId) (size n : Nat) (hn : n ≤ 9223372036854775807) : Row (w.alloc (.cells cs T)) (some ⟨w.heap.size, 0, none⟩) n size n cs.toList :=
  ⟨Nat.le_refl _, hn, .inr ⟨w.heap.size, 0, rfl, by simp, fun i hi => by rw [World.cell?_alloc_new, Nat.zero_add]; simp⟩⟩
theorem own_row {w : World} {B e size : Nat} {v : Value} {n : Nat} {xs : List Value} (h : w.ownsRow B e size v n xs) : ∃ a c, v = .slice a n c ∧ Row w a c size n xs := by
  have h' := h
  obtain ⟨h1, h2⟩ := h
  rcases h2 with ⟨rfl, h2⟩ | ⟨g, c, cur, rfl, hg, hh, hc, hm, _⟩
  · rw [h2]
    exact ⟨none, 0, rfl, by omega, by omega, .inl rfl⟩
  · unfold maxLen at hm
    refine ⟨_, c, rfl, hc, hm, .inr ⟨g, 0, rfl, (Array.getElem?_eq_some_iff.1 hh).1, fun i hi => ?_⟩⟩
    rw [Nat.zero_add, h'.cellAt i (by omega)]
theorem isC_row {w : World} {a : Option Addr} {c n : Nat} {L : List Ins} (hn : L.length = n) (h : Row w a c 3 n (insCells L)) : IsC w a c L := by
  subst hn
  obtain ⟨h1, h2, h3 | ⟨b, off, h3, h4, h5⟩⟩ := h
  · exact ⟨h1, h2, .inl h3⟩
  · refine ⟨h1, h2, .inr ⟨b, off, h3, h4, fun j hj => ?_⟩⟩
    obtain ⟨a0, a1, a2⟩ := insCells_at L j hj
    exact ⟨(h5 _ (by omega)).trans a0, (h5 _ (by omega)).trans a1, (h5 _ (by omega)).trans a2⟩
theorem isC_new (w : World) (L : List Ins) (cs : Array Value) (T : TypeId) (hcs : cs = (insCells L).toArray) (n : Nat) (hn : L.length = n) (hl : n ≤ 1000) : IsC (w.alloc (.cells cs T)) (some ⟨w.heap.size, 0, none⟩) n L := by
  subst hcs
  exact isC_row hn (by simpa using row_new w (insCells L).toArray T 3 n (by omega))
theorem new_cells (w : World) (cs : Array Value) (T : TypeId) (j : Nat) (u : Value) (h : cs.toList[j]? = some u) : (w.alloc (.cells cs T)).cell? ((⟨w.heap.size, 0, none⟩ : Addr).add j) = some u := by
  rw [add_plain, Nat.zero_add, World.cell?_alloc_new]
  simpa using h
theorem askedInfo : (Tryz.prog.info? 107).map (fun i => (i.zero, i.size, i.bytes)) = some (some (.agg #[.int .i64 0, .int .i64 0, .int .i64 0]), 3, 24) := by kernel_rfl
/-- May the cost be, each number up to most? -/
def costL (most c0 c1 c2 c3 : Int) : List Ins := [⟨c0, 0, most⟩, ⟨c1, 0, most⟩, ⟨c2, 0, most⟩, ⟨c3, 0, most⟩]
theorem costL_get (most c0 c1 c2 c3 : Int) : (costL most c0 c1 c2 c3).take 0 = [] := rfl
theorem cost_snoc {w : World} {B : Nat} {v : Value} {L : List Ins} {x : Ins} {k : Nat} (h : w.ownsRow B 107 3 v (k + 1) (insCells L ++ [.int .i64 x.op, .int .i64 x.a, .int .i64 x.b])) :
    w.ownsRow B 107 3 v (k + 1) (insCells (L ++ [x])) := by
  rw [insCells_append]; exact h
theorem grown_asked {w wr w1 : World} {o : Obj} {v : Value} {n : Nat} {xs : List Value} (h : Below w.heap.size w wr) (ho : wr.ownsRow w.heap.size 107 3 v n xs) (hg : (wr.alloc o).grownBy w1 v.ownBlock) : Below w.heap.size w w1 :=
  (h.alloc h.size o).grown hg (Nat.le_trans h.size (by simp)) (fun k e => (ho.lt k e).1)
set_option maxRecDepth 100000 in
set_option maxHeartbeats 2000000 in
theorem isCost_any (c0 c1 c2 c3 most : Int) (r : Bool) (hr : wi (costL most c0 c1 c2 c3) = r) (w : World) :
    Calls Tryz.prog 85 #[.agg #[.int .i64 c0, .int .i64 c1, .int .i64 c2, .int .i64 c3], .int .i64 most] w fun e w' => e = .returned (.bool r) ∧ Below w.heap.size w w' := by
  obtain ⟨i0, hi, hz0, hz1, hz2⟩ := info_parts askedInfo
  have HR := Lib.hid hr
  clear hr
  have hb0 := below_alloc1 w (.cells #[.int .i64 c0, .int .i64 c1, .int .i64 c2, .int .i64 c3] 35)
  have HB0 := Lib.hid hb0
  clear hb0
  have ix0 : ∀ W : World, (Instr.index 35 (.agg #[.int .i64 c0, .int .i64 c1, .int .i64 c2, .int .i64 c3]) (.int .i64 0)).run Tryz.prog W = .ok (.int .i64 c0) W := fun _ => by kernel_rfl
  have ix1 : ∀ W : World, (Instr.index 35 (.agg #[.int .i64 c0, .int .i64 c1, .int .i64 c2, .int .i64 c3]) (.int .i64 1)).run Tryz.prog W = .ok (.int .i64 c1) W := fun _ => by kernel_rfl
  have ix2 : ∀ W : World, (Instr.index 35 (.agg #[.int .i64 c0, .int .i64 c1, .int .i64 c2, .int .i64 c3]) (.int .i64 2)).run Tryz.prog W = .ok (.int .i64 c2) W := fun _ => by kernel_rfl
  have ix3 : ∀ W : World, (Instr.index 35 (.agg #[.int .i64 c0, .int .i64 c1, .int .i64 c2, .int .i64 c3]) (.int .i64 3)).run Tryz.prog W = .ok (.int .i64 c3) W := fun _ => by kernel_rfl
  go_enter Tryz.func85, Tryz.ntmps85
  go_wp2_with fail
  go_loopw [5, 9] (fun v q wr => ∃ k : Nat, q = .int .i64 (k : Int) ∧ k ≤ 4 ∧ wr.ownsRow w.heap.size 107 3 v k (insCells ((costL most c0 c1 c2 c3).take k)) ∧ Below w.heap.size w wr) (fun _ q _ => 4 - (intOf q).toNat)
  case atStart => exact ⟨0, rfl, Nat.zero_le _, World.ownsRow_nil _ _ _ _, HB0.out⟩
  case round =>
    obtain ⟨k, rfl, hk, hown, hbw⟩ := hrel
    have HO := Lib.hid hown
    have HW := Lib.hid hbw
    clear hown hbw
    have h4 : k = 0 ∨ k = 1 ∨ k = 2 ∨ k = 3 ∨ k = 4 := by omega
    rcases h4 with rfl | rfl | rfl | rfl | rfl
    · go_wp2_with (at_builtin; refine wpList_append_own _ rfl _ _ 122 rfl w.heap.size 107 i0 (.agg #[.int .i64 0, .int .i64 0, .int .i64 0]) 3 24 Tryz.underlying122 hi hz0 hz1 hz2 rfl (by decide) _ _ _ rfl (HO.out.alloc _) ⟨wr.heap.size, 0, none⟩ 1 1 [.int .i64 c0, .int .i64 0, .int .i64 most] rfl rfl (new_cells _ #[.int .i64 c0, .int .i64 0, .int .i64 most] _) (insCells_one [⟨c0, 0, most⟩]) (by unfold maxLen; omega) (by omega) (by have := HW.out.size; simp; omega) ?_; intro v' w1 hown' hgrow _; have HO2 := Lib.hid hown'; have HG := Lib.hid hgrow; clear hown' hgrow)
      have HB2 := Lib.hid (grown_asked HW.out HO.out HG.out)
      go_roundw
      case rel => exact ⟨1, by go_num, by omega, HO2.out, HB2.out⟩
      case measure => simp [intOf]
    · go_wp2_with (at_builtin; refine wpList_append_own _ rfl _ _ 122 rfl w.heap.size 107 i0 (.agg #[.int .i64 0, .int .i64 0, .int .i64 0]) 3 24 Tryz.underlying122 hi hz0 hz1 hz2 rfl (by decide) _ _ _ rfl (HO.out.alloc _) ⟨wr.heap.size, 0, none⟩ 1 1 [.int .i64 c1, .int .i64 0, .int .i64 most] rfl rfl (new_cells _ #[.int .i64 c1, .int .i64 0, .int .i64 most] _) (insCells_one [⟨c1, 0, most⟩]) (by unfold maxLen; omega) (by omega) (by have := HW.out.size; simp; omega) ?_; intro v' w1 hown' hgrow _; have HO2 := Lib.hid hown'; have HG := Lib.hid hgrow; clear hown' hgrow)
      have HB2 := Lib.hid (grown_asked HW.out HO.out HG.out)
      go_roundw
      case rel => exact ⟨2, by go_num, by omega, HO2.out, HB2.out⟩
      case measure => simp [intOf]
    · go_wp2_with (at_builtin; refine wpList_append_own _ rfl _ _ 122 rfl w.heap.size 107 i0 (.agg #[.int .i64 0, .int .i64 0, .int .i64 0]) 3 24 Tryz.underlying122 hi hz0 hz1 hz2 rfl (by decide) _ _ _ rfl (HO.out.alloc _) ⟨wr.heap.size, 0, none⟩ 1 1 [.int .i64 c2, .int .i64 0, .int .i64 most] rfl rfl (new_cells _ #[.int .i64 c2, .int .i64 0, .int .i64 most] _) (insCells_one [⟨c2, 0, most⟩]) (by unfold maxLen; omega) (by omega) (by have := HW.out.size; simp; omega) ?_; intro v' w1 hown' hgrow _; have HO2 := Lib.hid hown'; have HG := Lib.hid hgrow; clear hown' hgrow)
      have HB2 := Lib.hid (grown_asked HW.out HO.out HG.out)
      go_roundw
      case rel => exact ⟨3, by go_num, by omega, HO2.out, HB2.out⟩
      case measure => simp [intOf]
    · go_wp2_with (at_builtin; refine wpList_append_own _ rfl _ _ 122 rfl w.heap.size 107 i0 (.agg #[.int .i64 0, .int .i64 0, .int .i64 0]) 3 24 Tryz.underlying122 hi hz0 hz1 hz2 rfl (by decide) _ _ _ rfl (HO.out.alloc _) ⟨wr.heap.size, 0, none⟩ 1 1 [.int .i64 c3, .int .i64 0, .int .i64 most] rfl rfl (new_cells _ #[.int .i64 c3, .int .i64 0, .int .i64 most] _) (insCells_one [⟨c3, 0, most⟩]) (by unfold maxLen; omega) (by omega) (by have := HW.out.size; simp; omega) ?_; intro v' w1 hown' hgrow _; have HO2 := Lib.hid hown'; have HG := Lib.hid hgrow; clear hown' hgrow)
      have HB2 := Lib.hid (grown_asked HW.out HO.out HG.out)
      go_roundw
      case rel => exact ⟨4, by go_num, by omega, HO2.out, HB2.out⟩
      case measure => simp [intOf]
    · obtain ⟨a, c, rfl, hrow⟩ := own_row HO.out
      have HI := Lib.hid (isC_row (L := costL most c0 c1 c2 c3) rfl hrow)
      clear hrow
      go_wp2_with fail
      refine (within_any _ _ _ 4 rfl r HR.out _ HI.out).mono ?_
      rintro e w2 ⟨rfl, hb⟩
      have HB2 := Lib.hid (below_then' HW.out hb HW.out.size)
      clear hb
      go_wp2_with fail
      go_ret
      exact ⟨rfl, HB2.out⟩
end Go.Proofs.YtbeaaieaffdgeaaGreatDoor
end
/- The program's reader of a pool: must, a number up to the most, a number, a signed one, a text. -/
section
namespace Go.Proofs.YtbeaaieaffdgeaaGreatDoor
open Go.RowKit
set_option linter.unusedVariables false
set_option linter.unusedSimpArgs false

/-- Reading is given up. -/
abbrev Gone : Ending := .panicked [{ v := .iface 24 (.int .i64 4), recovered := false }]
theorem must_true (w : World) : Calls Tryz.prog 30 #[.bool true] w fun e w' => e = .returned (.tuple #[]) ∧ w = w' := by
  go_enter Tryz.func30, Tryz.ntmps30
  go_wp2
  go_end0
  exact ⟨rfl, rfl⟩
theorem must_false (w : World) : Calls Tryz.prog 30 #[.bool false] w fun e w' => e = .panicked [{ v := .iface 24 (.int .i64 4), recovered := false }] ∧ w = w' := by
  go_enter Tryz.func30, Tryz.ntmps30
  go_wp2
  exact ⟨rfl, rfl, rfl⟩
/-- The reader stands in block b, and goes on. -/
abbrev Rd1 (b : Nat) (s : ByteArray) (w : World) : Prop := RdT 91 b s false w
/-- WHAT A READING TELLS: what it takes, as V says of the value and the world behind; or it is given up. -/
def Reads {α : Type} (f : Tk α) (k : FuncId) (args : Nat → Array Value) (V : Nat → α → Value → World → Prop) : Prop :=
  ∀ (rb : Nat) (s : ByteArray) (w : World), s.size ≤ 70368744177664 → Rd1 rb s w → Calls Tryz.prog k (args rb) w fun e w' =>
    w.grownBy w' (some rb) ∧ ((f s = none ∧ e = Gone) ∨ ∃ x t v, f s = some (x, t) ∧ t.size ≤ s.size ∧ e = .returned v ∧ Rd1 rb t w' ∧ V rb x v w')
/-- The struct that holds the reader. -/
abbrev rdV (rb : Nat) : Value := .agg #[.pointer (some ⟨rb, 0, none⟩)]
def asInt (rb : Nat) (i : Int) (v : Value) (w : World) : Prop := v = .int .i64 i
theorem rdNum_less (s : ByteArray) : (rdNum (s, false)).2.1.size ≤ s.size := by
  unfold rdNum
  simp only [Bool.false_eq_true, if_false]
  split
  · simp
  · simp only [ByteArray.size_extract]; omega
theorem rdText_less (s : ByteArray) : (rdText (s, false)).2.1.size ≤ s.size := by
  have := rdNum_less s
  unfold rdText
  split
  · exact this
  · split
    · simp
    · simp only [ByteArray.size_extract]; omega
theorem pUp_bad {m : Nat} {s : ByteArray} (h : (rdNum (s, false)).2.2 = true) : pUp m s = none := by unfold pUp; rw [if_pos h]
theorem pUp_much {m : Nat} {s : ByteArray} (h : ¬ (rdNum (s, false)).1 ≤ m) : pUp m s = none := by
  unfold pUp
  split
  · rfl
  · first | rfl | rw [if_neg h]
theorem pUp_good {m : Nat} {s : ByteArray} (h : (rdNum (s, false)).2.2 = false) (k : (rdNum (s, false)).1 ≤ m) : pUp m s = some (((rdNum (s, false)).1 : Int), (rdNum (s, false)).2.1) := by
  unfold pUp; rw [if_neg (by simp [h]), if_pos k]
set_option maxHeartbeats 1000000 in
theorem upTo_any (m : Nat) (hm : m ≤ 9223372036854775807) : Reads (pUp m) 49 (fun rb => #[rdV rb, .int .i64 (m : Int)]) asInt := by
  intro rb s w hs hr
  have hb := num_any rb (s, false)
  have hlt := rdNum_lt (s, false)
  have hbad := @pUp_bad m s
  have hmuch := @pUp_much m s
  have hgood := @pUp_good m s
  have hless := rdNum_less s
  generalize hq : rdNum (s, false) = q at hb hlt hbad hmuch hgood hless
  obtain ⟨n, u, st⟩ := q
  simp only at hb hlt hbad hmuch hgood hless
  have hrb := hr.lt
  have HR := Lib.hid (hr.below (below_alloc1 w (.cells #[.pointer (some ⟨rb, 0, none⟩)] 62)))
  have HB := Lib.hid hb
  have HG0 := Lib.hid (grown_new (World.grownBy.refl w (some rb)) (.cells #[.pointer (some ⟨rb, 0, none⟩)] 62))
  have c0 : (w.alloc (.cells #[.pointer (some ⟨rb, 0, none⟩)] 62)).cell? ⟨w.heap.size, 0, none⟩ = some (.pointer (some ⟨rb, 0, none⟩)) := by rw [World.cell?_alloc_new]; rfl
  have hz : w.heap.size < (w.alloc (.cells #[.pointer (some ⟨rb, 0, none⟩)] 62)).heap.size := by simp
  have HL := Lib.hid hless
  clear hb hq hr hless
  go_enter Tryz.func49, Tryz.ntmps49
  go_wp2_with fail
  generalize w.alloc (.cells #[.pointer (some ⟨rb, 0, none⟩)] 62) = w1 at *
  have hne : w.heap.size ≠ rb := by omega
  refine (HB.out w1 ⟨hs, fun h => by cases h⟩ HR.out).mono ?_
  rintro e w2 ⟨rfl, h2, g2⟩
  have c2 : w2.cell? ⟨w.heap.size, 0, none⟩ = some (.pointer (some ⟨rb, 0, none⟩)) := (World.cell?_of_block (g2.block _ hz (by simpa using hne))).trans c0
  have HR2 := Lib.hid h2
  have HG := Lib.hid (grown_then HG0.out g2)
  clear h2 g2 c0
  cases st
  · by_cases hle : n ≤ m
    · have HQ := Lib.hid (hgood rfl hle)
      have hcmp : decide ((n : Int) ≤ (m : Int)) = true := by simpa using hle
      clear hbad hmuch hgood
      go_wp2_with (first | (go_at_call 55; refine (ok_any _ _ _ _ HR2.out).mono ?_; rintro e w3 ⟨rfl, rfl⟩) | (go_at_call 30; refine (must_true _).mono ?_; rintro e w3 ⟨rfl, rfl⟩))
      go_ret
      exact ⟨HG.out, .inr ⟨_, _, _, HQ.out, HL.out, rfl, HR2.out, rfl⟩⟩
    · have HQ := Lib.hid (hmuch hle)
      have hcmp : decide ((n : Int) ≤ (m : Int)) = false := by simpa using hle
      clear hbad hmuch hgood
      go_wp2_with (first | (go_at_call 55; refine (ok_any _ _ _ _ HR2.out).mono ?_; rintro e w3 ⟨rfl, rfl⟩) | (go_at_call 30; refine (must_false _).mono ?_; rintro e w3 ⟨rfl, rfl⟩))
      exact ⟨rfl, HG.out, .inl ⟨HQ.out, rfl⟩⟩
  · have HQ := Lib.hid (hbad rfl)
    clear hbad hmuch hgood
    go_wp2_with (first | (go_at_call 55; refine (ok_any _ _ _ _ HR2.out).mono ?_; rintro e w3 ⟨rfl, rfl⟩) | (go_at_call 30; refine (must_false _).mono ?_; rintro e w3 ⟨rfl, rfl⟩))
    exact ⟨rfl, HG.out, .inl ⟨HQ.out, rfl⟩⟩
set_option maxHeartbeats 1000000 in
theorem num1_any : Reads pNum 51 (fun rb => #[rdV rb]) asInt := by
  intro rb s w hs hr
  have HR := Lib.hid (hr.below (below_alloc1 w (.cells #[.pointer (some ⟨rb, 0, none⟩)] 62)))
  have HG0 := Lib.hid (grown_new (World.grownBy.refl w (some rb)) (.cells #[.pointer (some ⟨rb, 0, none⟩)] 62))
  have HU := Lib.hid (upTo_any 9223372036854775807 (by omega))
  have HS := Lib.hid hs
  clear hr hs
  go_enter Tryz.func51, Tryz.ntmps51
  go_wp2_with fail
  generalize w.alloc (.cells #[.pointer (some ⟨rb, 0, none⟩)] 62) = w1 at *
  refine (HU.out rb s w1 HS.out HR.out).mono ?_
  rintro e w2 ⟨g2, ⟨hn, rfl⟩ | ⟨x, t, v, hx, ht, rfl, h2, rfl⟩⟩
  · exact ⟨rfl, grown_then HG0.out g2, .inl ⟨hn, rfl⟩⟩
  · have HF := Lib.hid (⟨grown_then HG0.out g2, .inr ⟨_, _, _, hx, ht, rfl, h2, rfl⟩⟩ : w.grownBy w2 (some rb) ∧ ((pNum s = none ∧ (Ending.returned (.int .i64 x)) = Gone) ∨ ∃ x' t v, pNum s = some (x', t) ∧ t.size ≤ s.size ∧ Ending.returned (.int .i64 x) = .returned v ∧ Rd1 rb t w2 ∧ asInt rb x' v w2))
    clear g2 hx ht h2
    go_wp2_with fail
    go_ret
    exact HF.out
theorem pInt_bad {s : ByteArray} (h : (rdNum (s, false)).2.2 = true) : pInt s = none := by unfold pInt; rw [if_pos (by exact h)]
theorem pInt_good {s : ByteArray} (h : (rdNum (s, false)).2.2 = false) : pInt s = some (unzig (rdNum (s, false)).1, (rdNum (s, false)).2.1) := by
  unfold pInt
  rw [if_neg (by show ¬ (rdNum (s, false)).2.2 = true; simp [h])]
  rfl
set_option maxHeartbeats 1000000 in
theorem int1_any : Reads pInt 79 (fun rb => #[rdV rb]) asInt := by
  intro rb s w hs hr
  have hb := int_any rb (s, false)
  have hbad := @pInt_bad s
  have hgood := @pInt_good s
  have hless := rdNum_less s
  have hrb := hr.lt
  unfold rdInt at hb
  generalize hq : rdNum (s, false) = q at hb hbad hgood hless
  obtain ⟨n, u, st⟩ := q
  simp only at hb hbad hgood hless
  have HR := Lib.hid (hr.below (below_alloc1 w (.cells #[.pointer (some ⟨rb, 0, none⟩)] 62)))
  have HB := Lib.hid hb
  have HG0 := Lib.hid (grown_new (World.grownBy.refl w (some rb)) (.cells #[.pointer (some ⟨rb, 0, none⟩)] 62))
  have c0 : (w.alloc (.cells #[.pointer (some ⟨rb, 0, none⟩)] 62)).cell? ⟨w.heap.size, 0, none⟩ = some (.pointer (some ⟨rb, 0, none⟩)) := by rw [World.cell?_alloc_new]; rfl
  have hz : w.heap.size < (w.alloc (.cells #[.pointer (some ⟨rb, 0, none⟩)] 62)).heap.size := by simp
  have HL := Lib.hid hless
  clear hb hq hr hless
  go_enter Tryz.func79, Tryz.ntmps79
  go_wp2_with fail
  generalize w.alloc (.cells #[.pointer (some ⟨rb, 0, none⟩)] 62) = w1 at *
  have hne : w.heap.size ≠ rb := by omega
  refine (HB.out w1 ⟨hs, fun h => by cases h⟩ HR.out).mono ?_
  rintro e w2 ⟨rfl, h2, g2⟩
  have c2 : w2.cell? ⟨w.heap.size, 0, none⟩ = some (.pointer (some ⟨rb, 0, none⟩)) := (World.cell?_of_block (g2.block _ hz (by simpa using hne))).trans c0
  have HR2 := Lib.hid h2
  have HG := Lib.hid (grown_then HG0.out g2)
  clear h2 g2 c0
  cases st
  · have HQ := Lib.hid (hgood rfl)
    clear hbad hgood
    generalize unzig n = z at *
    go_wp2_with (first | (go_at_call 55; refine (ok_any _ _ _ _ HR2.out).mono ?_; rintro e w3 ⟨rfl, rfl⟩) | (go_at_call 30; refine (must_true _).mono ?_; rintro e w3 ⟨rfl, rfl⟩))
    go_ret
    exact ⟨HG.out, .inr ⟨_, _, _, HQ.out, HL.out, rfl, HR2.out, rfl⟩⟩
  · have HQ := Lib.hid (hbad rfl)
    clear hbad hgood
    go_wp2_with (first | (go_at_call 55; refine (ok_any _ _ _ _ HR2.out).mono ?_; rintro e w3 ⟨rfl, rfl⟩) | (go_at_call 30; refine (must_false _).mono ?_; rintro e w3 ⟨rfl, rfl⟩))
    exact ⟨rfl, HG.out, .inl ⟨HQ.out, rfl⟩⟩
def asText (rb : Nat) (x : ByteArray) (v : Value) (w : World) : Prop := v = .string x ∧ x.size ≤ 70368744177664
theorem pTxt_bad {s : ByteArray} (h : (rdText (s, false)).2.2 = true) : pTxt s = none := by unfold pTxt; rw [if_pos h]
theorem pTxt_good {s : ByteArray} (h : (rdText (s, false)).2.2 = false) : pTxt s = some ((rdText (s, false)).1, (rdText (s, false)).2.1) := by
  unfold pTxt
  rw [if_neg (by simp [h])]
theorem rdText_size (s : ByteArray) : (rdText (s, false)).1.size ≤ s.size := by
  have := rdNum_less s
  unfold rdText
  split
  · simp
  · split
    · simp
    · simp only [ByteArray.size_extract]; omega
set_option maxHeartbeats 1000000 in
theorem text1_any : Reads pTxt 50 (fun rb => #[rdV rb]) asText := by
  intro rb s w hs hr
  have hb := text_any rb (s, false)
  have hbad := @pTxt_bad s
  have hgood := @pTxt_good s
  have hless := rdText_less s
  have hsize := rdText_size s
  have hrb := hr.lt
  generalize hq : rdText (s, false) = q at hb hbad hgood hless hsize
  obtain ⟨x, u, st⟩ := q
  simp only at hb hbad hgood hless hsize
  have HR := Lib.hid (hr.below (below_alloc1 w (.cells #[.pointer (some ⟨rb, 0, none⟩)] 62)))
  have HB := Lib.hid hb
  have HG0 := Lib.hid (grown_new (World.grownBy.refl w (some rb)) (.cells #[.pointer (some ⟨rb, 0, none⟩)] 62))
  have c0 : (w.alloc (.cells #[.pointer (some ⟨rb, 0, none⟩)] 62)).cell? ⟨w.heap.size, 0, none⟩ = some (.pointer (some ⟨rb, 0, none⟩)) := by rw [World.cell?_alloc_new]; rfl
  have hz : w.heap.size < (w.alloc (.cells #[.pointer (some ⟨rb, 0, none⟩)] 62)).heap.size := by simp
  have HL := Lib.hid hless
  have HX := Lib.hid (show x.size ≤ 70368744177664 by omega)
  clear hb hq hr hless hsize
  go_enter Tryz.func50, Tryz.ntmps50
  go_wp2_with fail
  generalize w.alloc (.cells #[.pointer (some ⟨rb, 0, none⟩)] 62) = w1 at *
  have hne : w.heap.size ≠ rb := by omega
  refine (HB.out w1 ⟨hs, fun h => by cases h⟩ HR.out).mono ?_
  rintro e w2 ⟨rfl, h2, g2⟩
  have c2 : w2.cell? ⟨w.heap.size, 0, none⟩ = some (.pointer (some ⟨rb, 0, none⟩)) := (World.cell?_of_block (g2.block _ hz (by simpa using hne))).trans c0
  have HR2 := Lib.hid h2
  have HG := Lib.hid (grown_then HG0.out g2)
  clear h2 g2 c0
  cases st
  · have HQ := Lib.hid (hgood rfl)
    clear hbad hgood
    go_wp2_with (first | (go_at_call 55; refine (ok_any _ _ _ _ HR2.out).mono ?_; rintro e w3 ⟨rfl, rfl⟩) | (go_at_call 30; refine (must_true _).mono ?_; rintro e w3 ⟨rfl, rfl⟩))
    go_ret
    exact ⟨HG.out, .inr ⟨_, _, _, HQ.out, HL.out, rfl, HR2.out, rfl, HX.out⟩⟩
  · have HQ := Lib.hid (hbad rfl)
    clear hbad hgood
    go_wp2_with (first | (go_at_call 55; refine (ok_any _ _ _ _ HR2.out).mono ?_; rintro e w3 ⟨rfl, rfl⟩) | (go_at_call 30; refine (must_false _).mono ?_; rintro e w3 ⟨rfl, rfl⟩))
    exact ⟨rfl, HG.out, .inl ⟨HQ.out, rfl⟩⟩
end Go.Proofs.YtbeaaieaffdgeaaGreatDoor
end
