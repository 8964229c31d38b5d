/-
  NARROWER THAN 'FOR EVERY INPUT', by the rows' own cells (each row's printed sentence says how): CardChecks: laid · CardOnes: laid · CardGreater: laid · CardKnown: laid.
  DERIVED. THE GIVEN ROWS OF THIS SEAT. 4 by the template 'for every input the law returns true; each argument reads behind the call as it read before'; 0 by the template 'total and deterministic' (their statements: YtfhmadlobdklbaaDoorTotals.lean).
  GIVEN WITH THE SEED: the statements are not yours to turn. If you find one false, say at which input.
  Laid BY PROGRAM, IN A SANDBOX (cutbox-rows.mjs): the forced cells as the released guide's own fill.sh prints them over the translation 1c4ce9f9df5bdab8… (all of the seat's roots in one cut). By AI agents, Wed Nov 11 2026. No macro, syntax, notation, axiom, sorry.
-/
import Derived.Test.YtfhmadlobdklbaaDoorChecked
import GoSem.Claim
import GoSem.ClaimJoined
import GoSem.ClaimMapViews
import Derived.JoinedTies
import Derived.KernelRfl
namespace Go.Proofs.YtfhmadlobdklbaaDoor
/- THE CELL 'sum', in the pinned program and in every row, IS THE sha256 OF THE DUMP (.gsa) THAT YtfhmadlobdklbaaDoorProg.lean LOADS. Nothing in Lean hashes anything: it is a label: what it is worth is what the hold of that sum in a sandbox is worth. -/
noncomputable def Tryd.pinned : Pinned := { name := "ytfhmadlobdklbaadoor", sum := "1c4ce9f9df5bdab89ca0dee69b4e9353c1c1c5561cc6d305d42080dbd8401a4d", checked := Tryd.checked }
namespace Rows
def none {H : Type} : Left H := { results := [], args := [] }

/- WHAT THE LISTED PACKAGE-LEVEL VARIABLES READ AS WHEN THE CALL BEGINS. Each datum BY PROGRAM (the guide's laid-datum.mjs) off the statement by which the dump's own 'gosem.cut.vars' lays the variable. In a bare row this is a premise. The card (YtfhmadlobdklbaaDoorCards.lean) ties it to the program's text. -/
def laid_trefoil_card_kinds {H : Type} : DataW H := .agg [.agg [.lit (.int .i64 0), .lit (.int .i64 0), .lit (.int .i64 0), .lit (.int .i64 0)], .agg [.lit (.int .i64 0), .lit (.int .i64 3), .lit (.int .i64 0), .lit (.int .i64 0)], .agg [.lit (.int .i64 20), .lit (.int .i64 0), .lit (.int .i64 15), .lit (.int .i64 127)], .agg [.lit (.int .i64 20), .lit (.int .i64 0), .lit (.int .i64 0), .lit (.int .i64 64)], .agg [.lit (.int .i64 20), .lit (.int .i64 0), .lit (.int .i64 0), .lit (.int .i64 64)]]
def laid_trefoil_card_layers {H : Type} : DataW H := .agg [.agg [.agg [.lit (.int .i64 0), .lit (.int .i64 0)], .agg [.lit (.int .i64 0), .lit (.int .i64 0)]], .agg [.agg [.lit (.int .i64 1), .lit (.int .i64 127)], .agg [.lit (.int .i64 0), .lit (.int .i64 0)]], .agg [.agg [.lit (.int .i64 1), .lit (.int .i64 127)], .agg [.lit (.int .i64 0), .lit (.int .i64 0)]], .agg [.agg [.lit (.int .i64 0), .lit (.int .i64 15)], .agg [.lit (.int .i64 0), .lit (.int .i64 15)]], .agg [.agg [.lit (.int .i64 (-15)), .lit (.int .i64 15)], .agg [.lit (.int .i64 (-15)), .lit (.int .i64 15)]]]
def laid_trefoil_card_instead {H : Type} : DataW H := .agg [.agg [.agg [.lit (.int .i64 0), .lit (.int .i64 0)], .agg [.lit (.int .i64 0), .lit (.int .i64 0)]], .agg [.agg [.lit (.int .i64 0), .lit (.int .i64 0)], .agg [.lit (.int .i64 1), .lit (.int .i64 999)]], .agg [.agg [.lit (.int .i64 0), .lit (.int .i64 1)], .agg [.lit (.int .i64 0), .lit (.int .i64 0)]], .agg [.agg [.lit (.int .i64 0), .lit (.int .i64 0)], .agg [.lit (.int .i64 0), .lit (.int .i64 999)]], .agg [.agg [.lit (.int .i64 0), .lit (.int .i64 1)], .agg [.lit (.int .i64 0), .lit (.int .i64 0)]]]

/-- 'trefoillaw05.CardChecks': WHATEVER THE INPUT: true; the input reads as it did. -/
def cardChecksSpec : ChangeSpec := { name := "cardChecks", fn := fun _ => fun
  | [d1, d2] => { results := [.lit (.bool true)], args := [d1, d2] }
  | _ => none }
def cardChecksRow : OpenClaim := { program := "ytfhmadlobdklbaadoor", sum := "1c4ce9f9df5bdab89ca0dee69b4e9353c1c1c5561cc6d305d42080dbd8401a4d", func := "trefoil/trefoillaw05.CardChecks", spec := "cardChecks", unfollowed := true, recurses := true, named := ["trefoil/card.kinds", "trefoil/card.layers", "trefoil/card.instead"], apart := false, laid := [("trefoil/card.kinds", laid_trefoil_card_kinds), ("trefoil/card.layers", laid_trefoil_card_layers), ("trefoil/card.instead", laid_trefoil_card_instead)] }
def CardChecksSaid : Prop := cardChecksRow.holds Tryd.pinned (OpenSpec.ofChange cardChecksSpec)

/-- ITS FALSE NEIGHBOUR: 'it returns false'. Refute it at one input. -/
def cardChecksWrong : ChangeSpec := { name := "cardChecks", fn := fun _ => fun
  | [d1, d2] => { results := [.lit (.bool false)], args := [d1, d2] }
  | _ => none }
def CardChecksWrongFalsely : Prop := cardChecksRow.holds Tryd.pinned (OpenSpec.ofChange cardChecksWrong)

/-- 'trefoillaw05.CardOnes': WHATEVER THE INPUT: true; the input reads as it did. -/
def cardOnesSpec : ChangeSpec := { name := "cardOnes", fn := fun _ => fun
  | [d1, d2, d3] => { results := [.lit (.bool true)], args := [d1, d2, d3] }
  | _ => none }
def cardOnesRow : OpenClaim := { program := "ytfhmadlobdklbaadoor", sum := "1c4ce9f9df5bdab89ca0dee69b4e9353c1c1c5561cc6d305d42080dbd8401a4d", func := "trefoil/trefoillaw05.CardOnes", spec := "cardOnes", unfollowed := true, recurses := true, named := ["trefoil/card.kinds", "trefoil/card.layers", "trefoil/card.instead"], apart := false, laid := [("trefoil/card.kinds", laid_trefoil_card_kinds), ("trefoil/card.layers", laid_trefoil_card_layers), ("trefoil/card.instead", laid_trefoil_card_instead)] }
def CardOnesSaid : Prop := cardOnesRow.holds Tryd.pinned (OpenSpec.ofChange cardOnesSpec)

/-- ITS FALSE NEIGHBOUR: 'it returns false'. Refute it at one input. -/
def cardOnesWrong : ChangeSpec := { name := "cardOnes", fn := fun _ => fun
  | [d1, d2, d3] => { results := [.lit (.bool false)], args := [d1, d2, d3] }
  | _ => none }
def CardOnesWrongFalsely : Prop := cardOnesRow.holds Tryd.pinned (OpenSpec.ofChange cardOnesWrong)

/-- 'trefoillaw05.CardGreater': WHATEVER THE INPUT: true; the input reads as it did. -/
def cardGreaterSpec : ChangeSpec := { name := "cardGreater", fn := fun _ => fun
  | [d1, d2, d3] => { results := [.lit (.bool true)], args := [d1, d2, d3] }
  | _ => none }
def cardGreaterRow : OpenClaim := { program := "ytfhmadlobdklbaadoor", sum := "1c4ce9f9df5bdab89ca0dee69b4e9353c1c1c5561cc6d305d42080dbd8401a4d", func := "trefoil/trefoillaw05.CardGreater", spec := "cardGreater", unfollowed := true, recurses := true, named := ["trefoil/card.kinds", "trefoil/card.layers", "trefoil/card.instead"], apart := false, laid := [("trefoil/card.kinds", laid_trefoil_card_kinds), ("trefoil/card.layers", laid_trefoil_card_layers), ("trefoil/card.instead", laid_trefoil_card_instead)] }
def CardGreaterSaid : Prop := cardGreaterRow.holds Tryd.pinned (OpenSpec.ofChange cardGreaterSpec)

/-- ITS FALSE NEIGHBOUR: 'it returns false'. Refute it at one input. -/
def cardGreaterWrong : ChangeSpec := { name := "cardGreater", fn := fun _ => fun
  | [d1, d2, d3] => { results := [.lit (.bool false)], args := [d1, d2, d3] }
  | _ => none }
def CardGreaterWrongFalsely : Prop := cardGreaterRow.holds Tryd.pinned (OpenSpec.ofChange cardGreaterWrong)

/-- 'trefoillaw05.CardKnown': WHATEVER THE INPUT: true; the input reads as it did. -/
def cardKnownSpec : ChangeSpec := { name := "cardKnown", fn := fun _ => fun
  | [] => { results := [.lit (.bool true)], args := [] }
  | _ => none }
def cardKnownRow : OpenClaim := { program := "ytfhmadlobdklbaadoor", sum := "1c4ce9f9df5bdab89ca0dee69b4e9353c1c1c5561cc6d305d42080dbd8401a4d", func := "trefoil/trefoillaw05.CardKnown", spec := "cardKnown", unfollowed := true, recurses := true, named := ["trefoil/card.kinds", "trefoil/card.layers", "trefoil/card.instead"], apart := false, laid := [("trefoil/card.kinds", laid_trefoil_card_kinds), ("trefoil/card.layers", laid_trefoil_card_layers), ("trefoil/card.instead", laid_trefoil_card_instead)] }
def CardKnownSaid : Prop := cardKnownRow.holds Tryd.pinned (OpenSpec.ofChange cardKnownSpec)

/-- ITS FALSE NEIGHBOUR: 'it returns false'. Refute it at one input. -/
def cardKnownWrong : ChangeSpec := { name := "cardKnown", fn := fun _ => fun
  | [] => { results := [.lit (.bool false)], args := [] }
  | _ => none }
def CardKnownWrongFalsely : Prop := cardKnownRow.holds Tryd.pinned (OpenSpec.ofChange cardKnownWrong)

/- THE SECOND FORM. 'bulk': how many values and letters a reading holds, each counted each time it is reached (what is shared counts as often as it is met; a slice's spare places count too). A statement '..UptoSaid' is the law's where the arguments, and the package variables that the reading takes, are together of bulk at most 1048576: NARROWER than '..Said'. Prove '..Said' where nothing that the law and all that it calls make is longer than what came in: it says more and counts as full. Else prove '..UptoSaid'. A law counts once. -/
mutual
def uptoBulk {H : Type} : DataW H → Nat
  | .lit (.string bytes) => bytes.length + 1
  | .lit _ => 1
  | .nil => 1
  | .ptr d => uptoBulk d + 1
  | .slice elems spare => uptoBulkAll elems + uptoBulkAll spare + 1
  | .agg parts => uptoBulkAll parts + 1
  | .iface _ d => uptoBulk d + 1
  | .map entries => uptoBulkEntries entries + 1
  | .held _ => 1
def uptoBulkAll {H : Type} : List (DataW H) → Nat
  | [] => 0
  | d :: r => uptoBulk d + uptoBulkAll r
def uptoBulkEntries {H : Type} : List (Lit × DataW H) → Nat
  | [] => 0
  | x :: r => uptoBulkEntry x + uptoBulkEntries r
def uptoBulkEntry {H : Type} : Lit × DataW H → Nat
  | (.string bytes, d) => bytes.length + uptoBulk d + 1
  | (_, d) => uptoBulk d + 1
 end
def uptoSmall : (H : Type) → List (DataW H) → Bool := fun _ ds => decide (uptoBulkAll ds ≤ 1048576)
def OpenSpec.upto (s : _root_.Go.ChangeSpec) : _root_.Go.OpenSpec := { _root_.Go.OpenSpec.ofChange s with cond := some uptoSmall }

/-- 'trefoillaw05.CardChecks', WHERE WHAT IT READS IS OF BULK AT MOST 1048576: true; the input reads as it did. -/
def cardChecksUptoRow : OpenClaim := { program := "ytfhmadlobdklbaadoor", sum := "1c4ce9f9df5bdab89ca0dee69b4e9353c1c1c5561cc6d305d42080dbd8401a4d", func := "trefoil/trefoillaw05.CardChecks", spec := "cardChecks", unfollowed := true, recurses := true, named := ["trefoil/card.kinds", "trefoil/card.layers", "trefoil/card.instead"], apart := false, laid := [("trefoil/card.kinds", laid_trefoil_card_kinds), ("trefoil/card.layers", laid_trefoil_card_layers), ("trefoil/card.instead", laid_trefoil_card_instead)], narrowed := true }
def CardChecksUptoSaid : Prop := cardChecksUptoRow.holds Tryd.pinned (OpenSpec.upto cardChecksSpec)

/-- 'trefoillaw05.CardOnes', WHERE WHAT IT READS IS OF BULK AT MOST 1048576: true; the input reads as it did. -/
def cardOnesUptoRow : OpenClaim := { program := "ytfhmadlobdklbaadoor", sum := "1c4ce9f9df5bdab89ca0dee69b4e9353c1c1c5561cc6d305d42080dbd8401a4d", func := "trefoil/trefoillaw05.CardOnes", spec := "cardOnes", unfollowed := true, recurses := true, named := ["trefoil/card.kinds", "trefoil/card.layers", "trefoil/card.instead"], apart := false, laid := [("trefoil/card.kinds", laid_trefoil_card_kinds), ("trefoil/card.layers", laid_trefoil_card_layers), ("trefoil/card.instead", laid_trefoil_card_instead)], narrowed := true }
def CardOnesUptoSaid : Prop := cardOnesUptoRow.holds Tryd.pinned (OpenSpec.upto cardOnesSpec)

/-- 'trefoillaw05.CardGreater', WHERE WHAT IT READS IS OF BULK AT MOST 1048576: true; the input reads as it did. -/
def cardGreaterUptoRow : OpenClaim := { program := "ytfhmadlobdklbaadoor", sum := "1c4ce9f9df5bdab89ca0dee69b4e9353c1c1c5561cc6d305d42080dbd8401a4d", func := "trefoil/trefoillaw05.CardGreater", spec := "cardGreater", unfollowed := true, recurses := true, named := ["trefoil/card.kinds", "trefoil/card.layers", "trefoil/card.instead"], apart := false, laid := [("trefoil/card.kinds", laid_trefoil_card_kinds), ("trefoil/card.layers", laid_trefoil_card_layers), ("trefoil/card.instead", laid_trefoil_card_instead)], narrowed := true }
def CardGreaterUptoSaid : Prop := cardGreaterUptoRow.holds Tryd.pinned (OpenSpec.upto cardGreaterSpec)

/-- 'trefoillaw05.CardKnown', WHERE WHAT IT READS IS OF BULK AT MOST 1048576: true; the input reads as it did. -/
def cardKnownUptoRow : OpenClaim := { program := "ytfhmadlobdklbaadoor", sum := "1c4ce9f9df5bdab89ca0dee69b4e9353c1c1c5561cc6d305d42080dbd8401a4d", func := "trefoil/trefoillaw05.CardKnown", spec := "cardKnown", unfollowed := true, recurses := true, named := ["trefoil/card.kinds", "trefoil/card.layers", "trefoil/card.instead"], apart := false, laid := [("trefoil/card.kinds", laid_trefoil_card_kinds), ("trefoil/card.layers", laid_trefoil_card_layers), ("trefoil/card.instead", laid_trefoil_card_instead)], narrowed := true }
def CardKnownUptoSaid : Prop := cardKnownUptoRow.holds Tryd.pinned (OpenSpec.upto cardKnownSpec)

end Rows
end Go.Proofs.YtfhmadlobdklbaaDoor
