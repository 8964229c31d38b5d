/- The cards wide and deep of CardKnown. -/
import Derived.Test.YtfhmadlobdklbaaDoorCardZp
namespace Go.Proofs.YtfhmadlobdklbaaDoor
open Go.RowKit
set_option linter.unusedVariables false
set_option linter.unusedSimpArgs false

def wideT (t c : Nat) : AbT := (⟨2, 0, 0, 0, 0, 0, 0, true, some ⟨t, 0, none⟩, 3, 3, some ⟨c, 0, none⟩, 2, 2, 0, 0, 0⟩, [1, 1, 1], [⟨1, 1, 0⟩, ⟨10, 0, 0⟩])
def deepT (t c : Nat) : AbT := (⟨2, 0, 0, 0, 0, 0, 0, true, some ⟨t, 0, none⟩, 1, 1, some ⟨c, 0, none⟩, 33, 33, 0, 0, 0⟩, [3], List.replicate 33 ⟨0, 0, 0⟩)
/-- Thirty-three instructions that nobody wrote. -/
def zeros33 : List Value := insCells (List.replicate 33 ⟨0, 0, 0⟩)
theorem wide_reads {W : World} {b t c : Nat}
    (h1 : BlkAt W b #[.int .i64 2, .int .i64 0, .int .i64 0, .int .i64 0, .int .i64 0, .int .i64 0, .int .i64 0, .bool true, .slice (some ⟨t, 0, none⟩) 3 3, .slice (some ⟨c, 0, none⟩) 2 2, .int .i64 0, .int .i64 0, .int .i64 0] 41)
    (h2 : BlkAt W t #[.int .i64 1, .int .i64 1, .int .i64 1] 3)
    (h3 : BlkAt W c #[.int .i64 1, .int .i64 1, .int .i64 0, .int .i64 10, .int .i64 0, .int .i64 0] 53) : CdR W (p1Cd b) [wideT t c] :=
  ⟨rfl, LitAt.isA (A := [wideT t c]) (h1.lit _ rfl) (by
    intro u hu
    obtain rfl := List.mem_singleton.1 hu
    exact ⟨⟨rfl, LitAt.isL (T := [1, 1, 1]) (h2.lit _ rfl) 3 rfl (by omega)⟩, rfl, LitAt.isC (L := [⟨1, 1, 0⟩, ⟨10, 0, 0⟩]) (h3.lit _ rfl) 2 rfl (by omega)⟩) 1 rfl (by omega)⟩
theorem deep_reads {W : World} {b t c : Nat}
    (h1 : BlkAt W b #[.int .i64 2, .int .i64 0, .int .i64 0, .int .i64 0, .int .i64 0, .int .i64 0, .int .i64 0, .bool true, .slice (some ⟨t, 0, none⟩) 1 1, .slice (some ⟨c, 0, none⟩) 33 33, .int .i64 0, .int .i64 0, .int .i64 0] 41)
    (h2 : BlkAt W t #[.int .i64 3] 3)
    (h3 : BlkAt W c zeros33.toArray 53) : CdR W (p1Cd b) [deepT t c] :=
  ⟨rfl, LitAt.isA (A := [deepT t c]) (h1.lit _ rfl) (by
    intro u hu
    obtain rfl := List.mem_singleton.1 hu
    exact ⟨⟨rfl, LitAt.isL (T := [3]) (h2.lit _ rfl) 1 rfl (by omega)⟩, rfl, LitAt.isC (L := List.replicate 33 ⟨0, 0, 0⟩) (h3.lit _ rfl) 33 rfl (by omega)⟩) 1 rfl (by omega)⟩
theorem chk_wide {W : World} {b t c : Nat} (hT : Tabs W) (h : CdR W (p1Cd b) [wideT t c]) :
    Calls Tryd.prog 8 #[.agg #[.string ⟨#[97]⟩, .int .i64 1, .int .i64 0, .int .i64 0, .int .i64 0, .int .i64 0, .int .i64 2, .int .i64 0, .int .i64 0, .int .i64 0, .slice (some ⟨b, 0, none⟩) 1 1], .int .i64 0] W fun e w' => e = .returned (.int .i64 3) ∧ Below W.heap.size W w' :=
  cardCheck_any (p1Cd b) [wideT t c] 0 3 ((chkC_er _ _ _).symm.trans (by show chkC (erC (p1Cd 0)) ([wideT 0 0].map erT) 0 = 3; decide +kernel)) W h ⟨by show 1 ≤ maxLen; unfold maxLen; omega, by show In64 0; unfold In64; omega⟩ hT
theorem chk_deep {W : World} {b t c : Nat} (hT : Tabs W) (h : CdR W (p1Cd b) [deepT t c]) :
    Calls Tryd.prog 8 #[.agg #[.string ⟨#[97]⟩, .int .i64 1, .int .i64 0, .int .i64 0, .int .i64 0, .int .i64 0, .int .i64 2, .int .i64 0, .int .i64 0, .int .i64 0, .slice (some ⟨b, 0, none⟩) 1 1], .int .i64 0] W fun e w' => e = .returned (.int .i64 3) ∧ Below W.heap.size W w' :=
  cardCheck_any (p1Cd b) [deepT t c] 0 3 ((chkC_er _ _ _).symm.trans (by show chkC (erC (p1Cd 0)) ([deepT 0 0].map erT) 0 = 3; decide +kernel)) W h ⟨by show 1 ≤ maxLen; unfold maxLen; omega, by show In64 0; unfold In64; omega⟩ hT
end Go.Proofs.YtfhmadlobdklbaaDoor
