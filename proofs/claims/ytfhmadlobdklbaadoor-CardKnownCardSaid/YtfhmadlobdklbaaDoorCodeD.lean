/- Check. -/
import Derived.Test.YtfhmadlobdklbaaDoorCodeC
namespace Go.Proofs.YtfhmadlobdklbaaDoor
open Go.RowKit
set_option linter.unusedVariables false
set_option linter.unusedSimpArgs false

/-- The slice of address a and capacity c reads as the code L. -/
def IsC (w : World) (a : Option Addr) (c : Nat) (L : List Ins) : Prop :=
  L.length ≤ c ∧ c ≤ 9223372036854775807 ∧ (L.length = 0 ∨ ∃ b off, a = some ⟨b, off, none⟩ ∧ b < w.heap.size ∧ ∀ j (h : j < L.length),
    w.cell? ⟨b, off + j * 3, none⟩ = some (.int .i64 L[j].op) ∧ w.cell? ⟨b, off + j * 3 + 1, none⟩ = some (.int .i64 L[j].a) ∧ w.cell? ⟨b, off + j * 3 + 2, none⟩ = some (.int .i64 L[j].b))
theorem IsC.next {w w' : World} {a : Option Addr} {c : Nat} {L : List Ins} (h : IsC w a c L) (k : Below w.heap.size w w') : IsC w' a c L := by
  obtain ⟨h1, h2, h3 | ⟨b, off, h3, h4, h5⟩⟩ := h
  · exact ⟨h1, h2, .inl h3⟩
  · exact ⟨h1, h2, .inr ⟨b, off, h3, Nat.lt_of_lt_of_le h4 k.size, fun j hj => ⟨(k.cell (p := ⟨b, off + j * 3, none⟩) h4).trans (h5 j hj).1, (k.cell (p := ⟨b, off + j * 3 + 1, none⟩) h4).trans (h5 j hj).2.1, (k.cell (p := ⟨b, off + j * 3 + 2, none⟩) h4).trans (h5 j hj).2.2⟩⟩⟩
theorem IsC.at {w : World} {a : Option Addr} {c : Nat} {L : List Ins} (h : IsC w a c L) (k : Nat) (hk : k < L.length) : ∃ b off x, x = L[k] ∧ a = some ⟨b, off, none⟩ ∧
    w.cell? ⟨b, off + k * 3, none⟩ = some (.int .i64 x.op) ∧ w.cell? ⟨b, off + k * 3 + 1, none⟩ = some (.int .i64 x.a) ∧ w.cell? ⟨b, off + k * 3 + 2, none⟩ = some (.int .i64 x.b) := by
  obtain ⟨h1, h2, h3 | ⟨b, off, h3, h4, h5⟩⟩ := h
  · omega
  · exact ⟨b, off, _, rfl, h3, h5 k hk⟩
theorem IsC.nil (w : World) : IsC w none 0 [] := ⟨by simp, by omega, .inl rfl⟩
/-- What Check tells. -/
def chk (L : List Ins) (t c : Int) : Int :=
  if btw 0 2 t && btw 0 40 c then (if 32 < L.length then 3 else if L.all (one L.length t c) then 0 else 9) else 2
theorem Asks.now {w : World} {k : Nat} {cs : Array Value} {p : Int → Bool} (h : Asks w k cs p) (n : Int) (r : Bool) (hr : p n = r) :
    Calls Tryd.prog k (#[.int .i64 n] ++ cs) w fun e w' => e = .returned (.bool r) ∧ w = w' := by
  subst hr
  exact h.2 _ (Below.refl _ _) n
theorem int_eq {k : IntKind} {a b : Int} (h : a = b) : Value.int k a = .int k b := by rw [h]
theorem int_ret {k : IntKind} {a b : Int} (h : a = b) : Ending.returned (.int k a) = .returned (.int k b) := by rw [h]
theorem between_is (lo hi : Int) (w : World) :
    Calls Tryd.prog 41 #[.int .i64 lo, .int .i64 hi] w fun e w' => ∃ cs, e = .returned (.func (.func 43) #[] cs) ∧ Asks w' 43 cs (btw lo hi) ∧ Below w.heap.size w w' := by
  have hb := below_alloc2 w (.cells #[.int .i64 lo] 3) (.cells #[.int .i64 hi] 3)
  have h1 := heap_one w (.cells #[.int .i64 lo] 3) (.cells #[.int .i64 hi] 3)
  have h2 := heap_two w (.cells #[.int .i64 lo] 3) (.cells #[.int .i64 hi] 3)
  have HB := Lib.hid hb
  have HA := Lib.hid (show Asks ((w.alloc (.cells #[.int .i64 lo] 3)).alloc (.cells #[.int .i64 hi] 3)) 43 #[.pointer (some ⟨w.heap.size, 0, none⟩), .pointer (some ⟨w.heap.size + 1, 0, none⟩)] (btw lo hi) from
    ⟨.inl rfl, fun W hW n => btw_any lo hi n _ _ W ((hW.cell (p := ⟨w.heap.size, 0, none⟩) (by simp; omega)).trans (cell_of_one h1)) ((hW.cell (p := ⟨w.heap.size + 1, 0, none⟩) (by simp)).trans (cell_of_one h2))⟩)
  clear hb h1 h2
  go_enter Tryd.func41, Tryd.ntmps41
  go_wp2
  go_ret
  exact ⟨_, rfl, HA.out, HB.out⟩
set_option maxRecDepth 100000 in
set_option maxHeartbeats 4000000 in
theorem check_any (a : Option Addr) (cap : Nat) (L : List Ins) (t c : Int) (w : World) (h : IsC w a cap L) :
    Calls Tryd.prog 40 #[.slice a L.length cap, .int .i64 t, .int .i64 c] w fun e w' => e = .returned (.int .i64 (chk L t c)) ∧ Below w.heap.size w w' := by
  have HL := Lib.hid h
  have hcap := h.1
  have hcm := h.2.1
  clear h
  obtain ⟨r, hr⟩ : ∃ r, r = chk L t c := ⟨_, rfl⟩
  rw [← hr]
  have HR := Lib.hid hr
  clear hr
  cases ht : btw 0 2 t
  · have HV := Lib.hid (show r = 2 by rw [HR.out]; simp [chk, ht])
    go_enter Tryd.func40, Tryd.ntmps40
    go_wp2_with fail
    refine (between_is _ _ _).mono ?_
    rintro e w1 ⟨cs, rfl, ha, hb⟩
    have HA := Lib.hid (ha.now t false ht)
    clear ha
    go_wp2_with fail
    refine HA.out.mono ?_
    rintro e w2 ⟨rfl, rfl⟩
    go_wp2_with fail
    go_ret
    exact ⟨int_ret HV.out.symm, hb⟩
  · cases hc : btw 0 40 c
    · have HV := Lib.hid (show r = 2 by rw [HR.out]; simp [chk, hc])
      go_enter Tryd.func40, Tryd.ntmps40
      go_wp2_with fail
      refine (between_is _ _ _).mono ?_
      rintro e w1 ⟨cs, rfl, ha, hb⟩
      have HA := Lib.hid (ha.now t true ht)
      have HB := Lib.hid hb
      clear ha hb
      go_wp2_with fail
      refine HA.out.mono ?_
      rintro e w2 ⟨rfl, rfl⟩
      go_wp2_with fail
      refine (between_is _ _ _).mono ?_
      rintro e w2 ⟨cs2, rfl, ha, hb⟩
      have HA2 := Lib.hid (ha.now c false hc)
      have HB2 := Lib.hid (below_then' HB.out hb HB.out.size)
      clear ha hb
      go_wp2_with fail
      refine HA2.out.mono ?_
      rintro e w2 ⟨rfl, rfl⟩
      go_wp2_with fail
      go_ret
      exact ⟨int_ret HV.out.symm, HB2.out⟩
    · have ht' : 0 ≤ t ∧ t ≤ 2 := by simpa [btw] using ht
      have hc' : 0 ≤ c ∧ c ≤ 40 := by simpa [btw] using hc
      have HE := Lib.hid (show r = if 32 < L.length then 3 else if L.all (one L.length t c) then 0 else 9 by rw [HR.out]; simp [chk, ht, hc])
      by_cases hl : 32 < L.length
      · have HV := Lib.hid (show r = 3 by rw [HE.out, if_pos hl])
        go_enter Tryd.func40, Tryd.ntmps40
        go_wp2_with fail
        refine (between_is _ _ _).mono ?_
        rintro e w1 ⟨cs, rfl, ha, hb⟩
        have HA := Lib.hid (ha.now t true ht)
        have HB := Lib.hid hb
        clear ha hb
        go_wp2_with fail
        refine HA.out.mono ?_
        rintro e w2 ⟨rfl, rfl⟩
        go_wp2_with fail
        refine (between_is _ _ _).mono ?_
        rintro e w2 ⟨cs2, rfl, ha, hb⟩
        have HA2 := Lib.hid (ha.now c true hc)
        have HB2 := Lib.hid (below_then' HB.out hb HB.out.size)
        clear ha hb
        go_wp2_with fail
        refine HA2.out.mono ?_
        rintro e w2 ⟨rfl, rfl⟩
        go_wp2_with fail
        go_ret
        exact ⟨int_ret HV.out.symm, HB2.out⟩
      · go_enter Tryd.func40, Tryd.ntmps40
        go_wp2_with fail
        refine (between_is _ _ _).mono ?_
        rintro e w1 ⟨cs, rfl, ha, hb⟩
        have HA := Lib.hid (ha.now t true ht)
        have HB := Lib.hid hb
        clear ha hb
        go_wp2_with fail
        refine HA.out.mono ?_
        rintro e w2 ⟨rfl, rfl⟩
        go_wp2_with fail
        refine (between_is _ _ _).mono ?_
        rintro e w2 ⟨cs2, rfl, ha, hb⟩
        have HA2 := Lib.hid (ha.now c true hc)
        have HB2 := Lib.hid (below_then' HB.out hb HB.out.size)
        clear ha hb
        go_wp2_with fail
        refine HA2.out.mono ?_
        rintro e w2 ⟨rfl, rfl⟩
        go_wp2_with fail
        refine (asker_any L.length (by omega) t c ht' hc' _).mono ?_
        rintro e w3 ⟨g, rfl, hg, hb⟩
        have HG := Lib.hid hg
        have HB3 := Lib.hid (below_then' HB2.out hb HB2.out.size)
        clear hg hb HA HA2 HB HB2
        go_wp2_with fail
        go_loopw [30] (fun q wr => ∃ k : Nat, q = .int .i64 (k : Int) ∧ k ≤ L.length ∧ (∀ j (h : j < L.length), j < k → one L.length t c L[j] = true) ∧ Below w3.heap.size w3 wr) (fun q _ => L.length - (intOf q).toNat)
        case atStart => exact ⟨0, rfl, Nat.zero_le _, fun j _ hj => by omega, Below.refl _ _⟩
        case round =>
          obtain ⟨k, rfl, hk, hn, hbw⟩ := hrel
          have HN := Lib.hid hn
          have HW := Lib.hid hbw
          clear hn hbw
          by_cases hlt : k < L.length
          · obtain ⟨b, off, x, hx, rfl, x0, x1, x2⟩ := (HL.out.next ((HB3.out.trans (HW.out.mono HB3.out.size)))).at k hlt
            have HX := Lib.hid hx
            clear hx
            have HG2 := Lib.hid ((HG.out.next HW.out).next (below_alloc1 wr (.cells #[.int .i64 x.op, .int .i64 x.a, .int .i64 x.b] 53)))
            have HW2 := Lib.hid (HW.out.alloc HW.out.size (.cells #[.int .i64 x.op, .int .i64 x.a, .int .i64 x.b] 53))
            cases hone : one L.length t c x
            · have HV := Lib.hid (show r = 9 by
                rw [HE.out, if_neg hl, if_neg]
                intro hall
                have := List.all_eq_true.1 hall _ (List.getElem_mem hlt)
                rw [← HX.out, hone] at this
                cases this)
              go_wp2_with fail
              refine (ask_any x g _ _ _ _ HG2.out).mono ?_
              rintro e w4 ⟨rfl, hb⟩
              rw [hone]
              have HW3 := Lib.hid (below_then' HW2.out hb HW2.out.size)
              clear hb
              go_wp2_with fail
              go_ret
              exact ⟨int_ret HV.out.symm, HB3.out.trans (HW3.out.mono HB3.out.size)⟩
            · go_wp2_with fail
              refine (ask_any x g _ _ _ _ HG2.out).mono ?_
              rintro e w4 ⟨rfl, hb⟩
              rw [hone]
              have HW3 := Lib.hid (below_then' HW2.out hb HW2.out.size)
              clear hb
              go_wp2_with fail
              go_roundw
              case rel => exact ⟨k + 1, by go_num, by omega, fun j h1 h2 => by
                by_cases hjk : j = k
                · subst hjk; rw [← HX.out]; exact hone
                · exact HN.out j h1 (by omega), HW3.out⟩
              case measure => simp [intOf]; omega
          · have HV := Lib.hid (show r = 0 by
              rw [HE.out, if_neg hl, if_pos]
              refine List.all_eq_true.2 fun x hx => ?_
              obtain ⟨j, hj, rfl⟩ := List.getElem_of_mem hx
              exact HN.out j hj (by omega))
            go_wp2_with fail
            go_ret
            exact ⟨int_ret HV.out.symm, HB3.out.trans (HW.out.mono HB3.out.size)⟩
end Go.Proofs.YtfhmadlobdklbaaDoor
