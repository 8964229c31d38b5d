/- Text. -/
import Derived.Test.YtegopamfdgeblaaDoorCodeK
import Derived.Test.YtegopamfdgeblaaDoorCodeJ
import Derived.Test.YtegopamfdgeblaaDoorShelf
import Derived.Lib.AppendStr
import Derived.Lib.OthersKept
import Derived.Lib.AppendIntMem
import Derived.Laws.IdiomStrings
import Derived.Maps.AppendAt
namespace Go.Proofs.YtegopamfdgeblaaDoor
open Go.RowKit
set_option linter.unusedVariables false
set_option linter.unusedSimpArgs false

theorem byteInfo : (Tryd.prog.info? 5).map (fun i => (i.zero, i.size, i.bytes)) = some (some (.int .u8 0), 1, 1) := by kernel_rfl
/-- An instruction's line, and a code's text. -/
def nums (M : List Int) : List UInt8 := M.flatMap fun n => 32 :: Lib.itoa n
def lineL (x : Ins) : List UInt8 := wordL x.op ++ nums (toldL x) ++ [10]
def textL (L : List Ins) : List UInt8 := L.flatMap lineL
theorem textL_step (L : List Ins) (k : Nat) (h : k < L.length) : textL (L.take (k + 1)) = textL (L.take k) ++ lineL L[k] := by
  unfold textL
  rw [List.take_add_one, List.getElem?_eq_getElem h, List.flatMap_append]; simp
theorem nums_step (M : List Int) (k : Nat) (h : k < M.length) : nums (M.take (k + 1)) = nums (M.take k) ++ 32 :: Lib.itoa M[k] := by
  unfold nums
  rw [List.take_add_one, List.getElem?_eq_getElem h, List.flatMap_append]; simp
/-- A and B are numbers of 64 bits. -/
def In64 (n : Int) : Prop := -9223372036854775808 ≤ n ∧ n ≤ 9223372036854775807
def InR (L : List Ins) : Prop := ∀ x ∈ L, In64 x.a ∧ In64 x.b
theorem wordL_len (op : Int) : (wordL op).length ≤ 7 := by
  unfold wordL
  split
  · rename_i h
    obtain ⟨j, rfl⟩ : ∃ j : Nat, op = (j : Int) := ⟨op.toNat, by omega⟩
    have : ∀ j : Fin 25, (wordTab.getD j.val []).length ≤ 7 := by decide +kernel
    exact this ⟨(j : Int).toNat, by omega⟩
  · simp
theorem toldL_len (x : Ins) : (toldL x).length ≤ 2 := by unfold toldL; repeat' split
                                                         all_goals simp
theorem toldL_in (x : Ins) (ha : In64 x.a) (hb : In64 x.b) : ∀ n ∈ toldL x, In64 n := by
  unfold toldL
  intro n hn
  repeat' split at hn
  all_goals simp at hn
  · rcases hn with rfl | rfl <;> assumption
  · subst hn; assumption
theorem nums_len (M : List Int) (h : ∀ n ∈ M, In64 n) : (nums M).length ≤ 22 * M.length := by
  induction M with
  | nil => simp [nums]
  | cons n M ih =>
    have h1 := Lib.itoa_length_le n (h n (by simp)).1 (h n (by simp)).2
    have h2 := ih fun m hm => h m (by simp [hm])
    unfold nums at *
    rw [List.flatMap_cons, List.length_append, List.length_cons, List.length_cons]
    omega
theorem lineL_len (x : Ins) (ha : In64 x.a) (hb : In64 x.b) : (lineL x).length ≤ 60 := by
  have h1 := wordL_len x.op
  have h2 := nums_len (toldL x) (toldL_in x ha hb)
  have h3 := toldL_len x
  unfold lineL
  simp only [List.length_append, List.length_cons, List.length_nil]
  omega
theorem textL_len (L : List Ins) (h : InR L) : (textL L).length ≤ 60 * L.length := by
  induction L with
  | nil => simp [textL]
  | cons x L ih =>
    have h1 := lineL_len x (h x (by simp)).1 (h x (by simp)).2
    have h2 := ih fun m hm => h m (by simp [hm])
    unfold textL at *
    rw [List.flatMap_cons, List.length_append, List.length_cons]
    omega
theorem InR.take {L : List Ins} (h : InR L) (k : Nat) : InR (L.take k) := fun x hx => h x (List.mem_of_mem_take hx)

/-- Each variable of type T is as it was. -/
def KeepsT (T : Nat) (W W' : World) : Prop := ∀ (k : Nat) (cs : Array Value) (fr : Nat × Nat), W.heap[k]? = some (Obj.cells cs T fr) → W'.heap[k]? = some (Obj.cells cs T fr)
theorem KeepsT.trans {T : Nat} {A B C : World} (h : KeepsT T A B) (k : KeepsT T B C) : KeepsT T A C := fun i cs fr hi => k i cs fr (h i cs fr hi)
theorem KeepsT.of_below {T : Nat} {W W' : World} (h : Below W.heap.size W W') : KeepsT T W W' := fun k cs fr hk => (h.block k (Array.getElem?_eq_some_iff.1 hk).1).trans hk
theorem KeepsT.row {T B n : Nat} {v : Value} {xs : List Value} {W W' : World} (hrow : W.ownsRow B 5 1 v n xs) (hg : W.grownBy W' v.ownBlock) (hT : T ≠ 5) : KeepsT T W W' := fun k cs fr hk => by
  refine (hg.block k (Array.getElem?_eq_some_iff.1 hk).1 fun e => ?_).trans hk
  rcases hrow.2 with ⟨rfl, _⟩ | ⟨g, cap, cur, rfl, _, hgb, _⟩
  · simp [Value.ownBlock] at e
  · obtain rfl : k = g := by simpa [Value.ownBlock] using e
    rw [hgb] at hk
    simp at hk
    exact hT hk.2.1.symm
theorem KeepsT.others {T : Nat} {W W' : World} (h : Lib.OthersKept 5 none W W') (hT : T ≠ 5) : KeepsT T W W' := fun k cs fr hk =>
  h k _ hk (by simp) (fun c fz e => by simp at e; exact hT e.2.1)
theorem IntsAt.keeps {w w' : World} {p : Option Addr} {M : List Int} (h : IntsAt w p M) (k : KeepsT 3 w w') : IntsAt w' p M := by
  rcases h with h | ⟨g, h1, h2⟩
  · exact .inl h
  · exact .inr ⟨g, h1, k _ _ _ h2⟩
theorem IntsAt.at {w : World} {p : Option Addr} {M : List Int} (h : IntsAt w p M) (j : Nat) (hj : j < M.length) : ∃ g n, n = M[j] ∧ p = some ⟨g, 0, none⟩ ∧ w.cell? ⟨g, j, none⟩ = some (.int .i64 n) := by
  rcases h with rfl | ⟨g, h1, h2⟩
  · simp at hj
  · exact ⟨g, _, rfl, h1, by simp [World.cell?, h2, hj]⟩
/-- The tables that the text wants. -/
def Tabs (w : World) : Prop := WordsAt w ∧ Lib.TabIs Tryd.prog w "internal/strconv.uint64pow10" .u64 Lib.pow10Tab
theorem Tabs.next {w w' : World} (h : Tabs w) (b : Below w.heap.size w w') : Tabs w' := ⟨h.1.next b, Lib.tabBelow_of_tabIs h.2 w' b⟩
/-- The row of bytes T, and what lies below B. -/
def St (w wr : World) (v : Value) (T : List UInt8) : Prop := wr.ownsRow w.heap.size 5 1 v T.length (Lib.byteCells T) ∧ Below w.heap.size w wr
theorem St.next {w a b : World} {v : Value} {T : List UInt8} (h : St w a v T) (k : Below a.heap.size a b) : St w b v T :=
  ⟨h.1.kept (grown_of k) (none_or _), below_then' h.2 k h.2.size⟩
theorem St.grown {w a b : World} {v v' : Value} {T S : List UInt8} (h : St w a v T) (hg : a.grownBy b v.ownBlock) (ho : b.ownsRow w.heap.size 5 1 v' (T.length + S.length) (Lib.byteCells T ++ Lib.byteCells S)) : St w b v' (T ++ S) :=
  ⟨by rw [List.length_append, Lib.byteCells_append]; exact ho, h.2.grown hg h.2.size (fun k e => (h.1.lt k e).1)⟩
theorem St.nil (w : World) : St w w (.slice none 0 0) [] := ⟨World.ownsRow_nil _ _ _ _, Below.refl _ _⟩
theorem St.cast {w a : World} {v : Value} {T S : List UInt8} (h : St w a v T) (e : T = S) : St w a v S := e ▸ h
set_option maxRecDepth 100000 in
set_option maxHeartbeats 4000000 in
theorem text_any (a : Option Addr) (cap : Nat) (L : List Ins) (w : World) (h : IsC w a cap L) (hr : InR L) (hn : L.length ≤ 1000) (hT : Tabs w) :
    Calls Tryd.prog 15 #[.slice a L.length cap] w fun e w' => e = .returned (.string (bytesS (textL L))) ∧ Below w.heap.size w w' := by
  have HL := Lib.hid h
  have HR := Lib.hid hr
  have HT := Lib.hid hT
  have HLEN := Lib.hid (fun k => show (textL (L.take k)).length ≤ 60000 by
    have h1 := textL_len (L.take k) (hr.take k)
    have h2 := List.length_take_le k L
    rw [List.length_take] at h1
    omega)
  have HSTEP := Lib.hid (fun k h => textL_step L k h)
  have hcap := h.1
  have hcm := h.2.1
  obtain ⟨F, hF⟩ : ∃ F : Nat → List UInt8, ∀ k, textL (L.take k) = F k := ⟨_, fun _ => rfl⟩
  have HF0 := Lib.hid (show F 0 = [] by rw [← hF]; simp [textL])
  have HFN := Lib.hid (show textL L = F L.length by rw [← hF, List.take_length])
  simp only [hF] at HLEN HSTEP
  clear hF h hr hT
  obtain ⟨i0, hi, hz0, hz1, hz2⟩ := info_parts byteInfo
  go_enter Tryd.func15, Tryd.ntmps15
  go_wp2_with fail
  go_loopw [3, 10] (fun v q wr => ∃ k : Nat, q = .int .i64 (k : Int) ∧ k ≤ L.length ∧ St w wr v (F k)) (fun _ q _ => L.length - (intOf q).toNat)
  case atStart => exact ⟨0, rfl, Nat.zero_le _, by rw [HF0.out]; exact St.nil w⟩
  case round =>
    obtain ⟨k, rfl, hk, hst⟩ := hrel
    have HS := Lib.hid hst
    clear hst
    by_cases hlt : k < L.length
    · obtain ⟨b, off, x, hx, rfl, x0, x1, x2⟩ := (HL.out.next HS.out.2).at k hlt
      have HX := Lib.hid hx
      clear hx
      have hxr := HR.out x (by rw [HX.out]; exact List.getElem_mem hlt)
      have hF := HLEN.out k
      have hS1 := HS.out.next (below_alloc1 wr (.cells #[.int .i64 x.op, .int .i64 x.a, .int .i64 x.b] 34))
      have hbx : (wr.alloc (.cells #[.int .i64 x.op, .int .i64 x.a, .int .i64 x.b] 34)).heap[wr.heap.size]? = some (.cells #[.int .i64 x.op, .int .i64 x.a, .int .i64 x.b] 34) := heap_alloc_new _ _
      have hT1 := (HT.out.next HS.out.2).next (below_alloc1 wr (.cells #[.int .i64 x.op, .int .i64 x.a, .int .i64 x.b] 34))
      have HN := Lib.hid (HSTEP.out k hlt)
      rw [← HX.out] at HN
      have hwl := wordL_len x.op
      have HWD := Lib.hid (word_any x.op)
      have htl := toldL_len x
      have HTI := Lib.hid (toldL_in x hxr.1 hxr.2)
      have HTD := Lib.hid (fun W => told_any x W)
      have HEQ := Lib.hid (show lineL x = wordL x.op ++ nums (toldL x) ++ [10] from rfl)
      rw [HEQ.out] at HN
      obtain ⟨M, hM⟩ : ∃ M, M = toldL x := ⟨_, rfl⟩
      rw [← hM] at htl HTI HTD HN
      obtain ⟨S, hS⟩ : ∃ S, S = wordL x.op := ⟨_, rfl⟩
      rw [← hS] at hwl HWD HN
      clear hM hS HEQ hxr
      go_wp2_with fail
      generalize (wr.alloc (.cells #[.int .i64 x.op, .int .i64 x.a, .int .i64 x.b] 34)) = W1 at *
      have HS1 := Lib.hid hS1
      have HT1 := Lib.hid hT1
      have HBX := Lib.hid hbx
      clear hS1 hT1 hbx
      refine (HWD.out _ HT1.out.1).mono ?_
      rintro e w' ⟨rfl, rfl⟩
      have hsz := bytesS_size S
      go_wp2_with (at_builtin; refine Lib.wpList_append_own_string _ rfl _ _ 48 9 rfl w.heap.size 5 i0 Tryd.underlying48 Tryd.underlying9 hi hz0 hz1 hz2 _ _ _ rfl HS1.out.1 (bytesS S) rfl ?c3 ?c4 ?c5 ?_)
      case c3 => unfold maxLen; omega
      case c4 => omega
      case c5 => exact HS1.out.2.size
      intro v2 w2 hown2 hgrow hne
      have hS2 : St w w2 v2 (F k ++ S) := HS1.out.grown hgrow (by rw [Lib.strCells_eq] at hown2; simpa [bytesS] using hown2)
      have hbx2 := KeepsT.row HS1.out.1 hgrow (T := 34) (by decide) _ _ _ HBX.out
      have hc0 : w2.cell? ⟨wr.heap.size, 0, none⟩ = some (.int .i64 x.op) := by simp [World.cell?, hbx2]
      have hc1 : w2.cell? ⟨wr.heap.size, 1, none⟩ = some (.int .i64 x.a) := by simp [World.cell?, hbx2]
      have hc2 : w2.cell? ⟨wr.heap.size, 2, none⟩ = some (.int .i64 x.b) := by simp [World.cell?, hbx2]
      have HS2 := Lib.hid hS2
      clear hown2 hgrow hne hS2 hbx2 HS1 HBX HT1 HWD HS x0 x1 x2
      go_wp2_with fail
      refine (HTD.out _).mono ?_
      rintro e w3 ⟨p, c, rfl, hcc, hc2', hM3, hb3⟩
      have HS3 := Lib.hid (HS2.out.next hb3)
      have HM3 := Lib.hid hM3
      obtain ⟨G, hG⟩ : ∃ G : Nat → List UInt8, ∀ j, nums (M.take j) = G j := ⟨_, fun _ => rfl⟩
      have HG0 := Lib.hid (show G 0 = [] by rw [← hG]; simp [nums])
      have HGS := Lib.hid (fun j h => nums_step M j h)
      have HGN := Lib.hid (show nums M = G M.length by rw [← hG, List.take_length])
      have HGL := Lib.hid (fun j => show (nums (M.take j)).length ≤ 60 by
        have h1 := nums_len (M.take j) (fun n hn => HTI.out n (List.mem_of_mem_take hn))
        rw [List.length_take] at h1
        omega)
      simp only [hG] at HGS HGL
      rw [HGN.out] at HN
      clear hG hM3 hb3 HS2 HTD hc0 hc1 hc2
      generalize wr = ws at *
      go_wp2_with fail
      go_loopw [3, 22] (fun v q wq => ∃ j : Nat, q = .int .i64 (j : Int) ∧ j ≤ M.length ∧ St w wq v (F k ++ S ++ G j) ∧ IntsAt wq p M) (fun _ q _ => M.length - (intOf q).toNat)
      case atStart => exact ⟨0, rfl, Nat.zero_le _, by rw [HG0.out, List.append_nil]; exact HS3.out, HM3.out⟩
      case round =>
        clear HS3 HM3
        obtain ⟨j, rfl, hj, hst, hm⟩ := hrel
        have HS := Lib.hid hst
        have HM := Lib.hid hm
        clear hst hm
        by_cases hjl : j < M.length
        · obtain ⟨g, n, hnn, rfl, hcell⟩ := HM.out.at j hjl
          have HNN := Lib.hid hnn
          have hgl := HGL.out j
          clear hnn
          have hn64 := HTI.out n (by rw [HNN.out]; exact List.getElem_mem hjl)
          have hSA := HS.out.next (below_alloc1 wr (.cells #[.int .u8 32] 5))
          have HSA := Lib.hid hSA
          have HMA := Lib.hid (HM.out.keeps (KeepsT.of_below (below_alloc1 wr (.cells #[.int .u8 32] 5))))
          have hlen : (F k ++ S ++ G j).length ≤ 60067 := by simp only [List.length_append]; omega
          have hgs := HGS.out j hjl
          rw [← HNN.out] at hgs
          have HG1 := Lib.hid hgs
          clear hSA hgs
          obtain ⟨T, hT⟩ : ∃ T, T = F k ++ S ++ G j := ⟨_, rfl⟩
          rw [← hT] at HSA hlen
          have HTT := Lib.hid hT
          clear hT
          go_wp2_with (at_builtin; refine wpList_append_own _ rfl _ _ 48 rfl w.heap.size 5 i0 (.int .u8 0) 1 1 Tryd.underlying48 hi hz0 hz1 hz2 rfl (by decide) _ _ _ rfl HSA.out.1 ⟨wr.heap.size, 0, none⟩ 1 1 [.int .u8 32] rfl rfl (cell_one_new _ _ _) (by simp [Value.oneCell']) ?c1 ?c2 ?c3 ?_)
          case c1 => unfold maxLen; omega
          case c2 => omega
          case c3 => exact HSA.out.2.size
          intro v4 w4 hown4 hgrow4 hne4
          have HS4 := Lib.hid (show St w w4 v4 (T ++ [32]) from HSA.out.grown hgrow4 hown4)
          have HM4 := Lib.hid (HMA.out.keeps (KeepsT.row HSA.out.1 hgrow4 (by decide)))
          clear hown4 hgrow4 hne4
          go_wp2_with fail
          have hit := Lib.itoa_length_le n hn64.1 hn64.2
          refine (Tryd.strconv_AppendInt_10 w.heap.size _ n hn64.1 hn64.2 v4 _ w4 HS4.out.1 HS4.out.2.size ?lim ((Lib.tabBelow_of_tabIs HT.out.2).on HS4.out.2)).mono ?_
          case lim => simp only [List.length_append, List.length_cons, List.length_nil]; omega
          rintro e w5 ⟨v5, rfl, hown5, hb5, hok5⟩
          have HS5 := Lib.hid (show St w w5 v5 (T ++ [32] ++ Lib.itoa n) from ⟨by rw [List.length_append, Lib.byteCells_append]; exact hown5, HS4.out.2.trans hb5⟩)
          have HM5 := Lib.hid (HM4.out.keeps (KeepsT.others hok5 (by decide)))
          clear hown5 hb5 hok5 hit hn64
          go_wp2_with fail
          go_roundw
          case rel => exact ⟨j + 1, by go_num, by omega, HS5.out.cast (by rw [HG1.out, HTT.out]; simp), HM5.out⟩
          case measure => simp [intOf]; omega
        · have HGE := Lib.hid (show F k ++ S ++ G j = F k ++ S ++ G M.length by rw [show j = M.length by omega])
          have HSA := Lib.hid ((HS.out.cast HGE.out).next (below_alloc1 wr (.cells #[.int .u8 10] 5)))
          have hgl := HGL.out M.length
          have hlen : (F k ++ S ++ G M.length).length ≤ 60067 := by simp only [List.length_append]; omega
          obtain ⟨T, hT⟩ : ∃ T, T = F k ++ S ++ G M.length := ⟨_, rfl⟩
          rw [← hT] at HSA hlen
          have HTT := Lib.hid hT
          clear hT HS HM HGE
          go_wp2_with (at_builtin; refine wpList_append_own _ rfl _ _ 48 rfl w.heap.size 5 i0 (.int .u8 0) 1 1 Tryd.underlying48 hi hz0 hz1 hz2 rfl (by decide) _ _ _ rfl HSA.out.1 ⟨wr.heap.size, 0, none⟩ 1 1 [.int .u8 10] rfl rfl (cell_one_new _ _ _) (by simp [Value.oneCell']) ?c1 ?c2 ?c3 ?_)
          case c1 => unfold maxLen; omega
          case c2 => omega
          case c3 => exact HSA.out.2.size
          intro v4 w4 hown4 hgrow4 hne4
          have HS4 := Lib.hid (show St w w4 v4 (T ++ [10]) from HSA.out.grown hgrow4 hown4)
          clear hown4 hgrow4 hne4 HSA
          go_wp2_with fail
          go_roundw
          case rel => exact ⟨k + 1, by go_num, by omega, HS4.out.cast (by rw [HN.out, HTT.out]; simp)⟩
          case measure => simp [intOf]; omega
    · have hkl : k = L.length := by omega
      have HV := Lib.hid (show textL L = F k by rw [HFN.out, hkl])
      obtain ⟨T, hT⟩ : ∃ T, T = F k := ⟨_, rfl⟩
      rw [← hT] at HV HS
      clear hT hkl
      rcases HS.out.1.2 with ⟨hv, h0⟩ | ⟨g, c, cur, hv, _⟩
      · have HV0 := Lib.hid (show textL L = [] by rw [HV.out]; exact List.length_eq_zero_iff.1 h0)
        subst hv
        clear h0
        have hcv : (convert 48 9 (.slice none 0 0)).run Tryd.prog wr = .ok (.string ⟨#[]⟩) wr := by
          rw [run_convert_bytes_string wr 48 9 5 none 0 0 Tryd.underlying48 Tryd.underlying5 Tryd.underlying9]; rfl
        go_wp2_with fail
        go_ret
        exact ⟨str_ret (by rw [HV0.out]; rfl), HS.out.2⟩
      · subst hv
        have hcv := run_convert_bytes_back (P := Tryd.prog) wr 48 9 5 ⟨g, 0, none⟩ c T Tryd.underlying48 Tryd.underlying5 Tryd.underlying9 (fun j hj => HS.out.1.cells (g := g) rfl j _ (by simp [Lib.byteCells, hj]))
        go_wp2_with fail
        go_ret
        exact ⟨str_ret (by rw [HV.out]; rfl), HS.out.2⟩
end Go.Proofs.YtegopamfdgeblaaDoor
