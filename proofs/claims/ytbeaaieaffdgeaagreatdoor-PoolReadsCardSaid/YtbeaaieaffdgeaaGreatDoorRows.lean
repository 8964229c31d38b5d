/-
  NARROWER THAN 'FOR EVERY INPUT', by the rows' own cells (each row's printed sentence says how): PoolLays: laid · PoolReads: laid.
  DERIVED. THE GIVEN ROWS OF THIS SEAT. 2 by the template 'for every input the law returns true; each argument reads behind the call as it read before'; 0 by the template 'total and deterministic' (their statements: YtbeaaieaffdgeaaGreatDoorTotals.lean).
  GIVEN WITH THE SEED: the statements are not yours to turn. If you find one false, say at which input.
  Laid BY PROGRAM, IN A SANDBOX (cutbox-rows.mjs): the forced cells as the released guide's own fill.sh prints them over the translation cb6c4bb848fed7c2… (all of the seat's roots in one cut). By AI agents, Wed Nov 11 2026. No macro, syntax, notation, axiom, sorry.
-/
import Derived.Test.YtbeaaieaffdgeaaGreatDoorChecked
import GoSem.Claim
import GoSem.ClaimJoined
import GoSem.ClaimMapViews
import Derived.JoinedTies
import Derived.KernelRfl
namespace Go.Proofs.YtbeaaieaffdgeaaGreatDoor
/- THE CELL 'sum', in the pinned program and in every row, IS THE sha256 OF THE DUMP (.gsa) THAT YtbeaaieaffdgeaaGreatDoorProg.lean LOADS. Nothing in Lean hashes anything: it is a label: what it is worth is what the hold of that sum in a sandbox is worth. -/
noncomputable def Tryz.pinned : Pinned := { name := "ytbeaaieaffdgeaagreatdoor", sum := "cb6c4bb848fed7c25a3a71abf15e5c0f58054f8b19befca6277f6484f0e083b5", checked := Tryz.checked }
namespace Rows
def none {H : Type} : Left H := { results := [], args := [] }

/- WHAT THE LISTED PACKAGE-LEVEL VARIABLES READ AS WHEN THE CALL BEGINS. Each datum BY PROGRAM (the guide's laid-datum.mjs) off the statement by which the dump's own 'gosem.cut.vars' lays the variable. In a bare row this is a premise. The card (YtbeaaieaffdgeaaGreatDoorCards.lean) ties it to the program's text. -/
def laid_trefoil_card_kinds {H : Type} : DataW H := .agg [.agg [.lit (.int .i64 0), .lit (.int .i64 0), .lit (.int .i64 0), .lit (.int .i64 0)], .agg [.lit (.int .i64 0), .lit (.int .i64 3), .lit (.int .i64 0), .lit (.int .i64 0)], .agg [.lit (.int .i64 20), .lit (.int .i64 0), .lit (.int .i64 15), .lit (.int .i64 127)], .agg [.lit (.int .i64 20), .lit (.int .i64 0), .lit (.int .i64 0), .lit (.int .i64 64)], .agg [.lit (.int .i64 20), .lit (.int .i64 0), .lit (.int .i64 0), .lit (.int .i64 64)]]
def laid_trefoil_card_layers {H : Type} : DataW H := .agg [.agg [.agg [.lit (.int .i64 0), .lit (.int .i64 0)], .agg [.lit (.int .i64 0), .lit (.int .i64 0)]], .agg [.agg [.lit (.int .i64 1), .lit (.int .i64 127)], .agg [.lit (.int .i64 0), .lit (.int .i64 0)]], .agg [.agg [.lit (.int .i64 1), .lit (.int .i64 127)], .agg [.lit (.int .i64 0), .lit (.int .i64 0)]], .agg [.agg [.lit (.int .i64 0), .lit (.int .i64 15)], .agg [.lit (.int .i64 0), .lit (.int .i64 15)]], .agg [.agg [.lit (.int .i64 (-15)), .lit (.int .i64 15)], .agg [.lit (.int .i64 (-15)), .lit (.int .i64 15)]]]
def laid_trefoil_card_instead {H : Type} : DataW H := .agg [.agg [.agg [.lit (.int .i64 0), .lit (.int .i64 0)], .agg [.lit (.int .i64 0), .lit (.int .i64 0)]], .agg [.agg [.lit (.int .i64 0), .lit (.int .i64 0)], .agg [.lit (.int .i64 1), .lit (.int .i64 999)]], .agg [.agg [.lit (.int .i64 0), .lit (.int .i64 1)], .agg [.lit (.int .i64 0), .lit (.int .i64 0)]], .agg [.agg [.lit (.int .i64 0), .lit (.int .i64 0)], .agg [.lit (.int .i64 0), .lit (.int .i64 999)]], .agg [.agg [.lit (.int .i64 0), .lit (.int .i64 1)], .agg [.lit (.int .i64 0), .lit (.int .i64 0)]]]

/-- 'trefoillaw06.PoolLays': WHATEVER THE INPUT: true; the input reads as it did. -/
def poolLaysSpec : ChangeSpec := { name := "poolLays", fn := fun _ => fun
  | [d] => { results := [.lit (.bool true)], args := [d] }
  | _ => none }
def poolLaysRow : OpenClaim := { program := "ytbeaaieaffdgeaagreatdoor", sum := "cb6c4bb848fed7c25a3a71abf15e5c0f58054f8b19befca6277f6484f0e083b5", func := "trefoil/trefoillaw06.PoolLays", spec := "poolLays", inPlace := ["internal/abi.NoEscape"], unfollowed := true, recurses := true, named := ["trefoil/card.kinds", "trefoil/card.layers", "trefoil/card.instead"], apart := false, laid := [("trefoil/card.kinds", laid_trefoil_card_kinds), ("trefoil/card.layers", laid_trefoil_card_layers), ("trefoil/card.instead", laid_trefoil_card_instead)] }
def PoolLaysSaid : Prop := poolLaysRow.holds Tryz.pinned (OpenSpec.ofChange poolLaysSpec)

/-- ITS FALSE NEIGHBOUR: 'it returns false'. Refute it at one input. -/
def poolLaysWrong : ChangeSpec := { name := "poolLays", fn := fun _ => fun
  | [d] => { results := [.lit (.bool false)], args := [d] }
  | _ => none }
def PoolLaysWrongFalsely : Prop := poolLaysRow.holds Tryz.pinned (OpenSpec.ofChange poolLaysWrong)

/-- 'trefoillaw06.PoolReads': WHATEVER THE INPUT: true; the input reads as it did. -/
def poolReadsSpec : ChangeSpec := { name := "poolReads", fn := fun _ => fun
  | [d] => { results := [.lit (.bool true)], args := [d] }
  | _ => none }
def poolReadsRow : OpenClaim := { program := "ytbeaaieaffdgeaagreatdoor", sum := "cb6c4bb848fed7c25a3a71abf15e5c0f58054f8b19befca6277f6484f0e083b5", func := "trefoil/trefoillaw06.PoolReads", spec := "poolReads", inPlace := ["internal/abi.NoEscape"], unfollowed := true, recurses := true, named := ["trefoil/card.kinds", "trefoil/card.layers", "trefoil/card.instead"], apart := false, laid := [("trefoil/card.kinds", laid_trefoil_card_kinds), ("trefoil/card.layers", laid_trefoil_card_layers), ("trefoil/card.instead", laid_trefoil_card_instead)] }
def PoolReadsSaid : Prop := poolReadsRow.holds Tryz.pinned (OpenSpec.ofChange poolReadsSpec)

/-- ITS FALSE NEIGHBOUR: 'it returns false'. Refute it at one input. -/
def poolReadsWrong : ChangeSpec := { name := "poolReads", fn := fun _ => fun
  | [d] => { results := [.lit (.bool false)], args := [d] }
  | _ => none }
def PoolReadsWrongFalsely : Prop := poolReadsRow.holds Tryz.pinned (OpenSpec.ofChange poolReadsWrong)

/- THE SECOND FORM. 'bulk': how many values and letters a reading holds, each counted each time it is reached (what is shared counts as often as it is met; a slice's spare places count too). A statement '..UptoSaid' is the law's where the arguments, and the package variables that the reading takes, are together of bulk at most 1048576: NARROWER than '..Said'. Prove '..Said' where nothing that the law and all that it calls make is longer than what came in: it says more and counts as full. Else prove '..UptoSaid'. A law counts once. -/
mutual
def uptoBulk {H : Type} : DataW H → Nat
  | .lit (.string bytes) => bytes.length + 1
  | .lit _ => 1
  | .nil => 1
  | .ptr d => uptoBulk d + 1
  | .slice elems spare => uptoBulkAll elems + uptoBulkAll spare + 1
  | .agg parts => uptoBulkAll parts + 1
  | .iface _ d => uptoBulk d + 1
  | .map entries => uptoBulkEntries entries + 1
  | .held _ => 1
def uptoBulkAll {H : Type} : List (DataW H) → Nat
  | [] => 0
  | d :: r => uptoBulk d + uptoBulkAll r
def uptoBulkEntries {H : Type} : List (Lit × DataW H) → Nat
  | [] => 0
  | x :: r => uptoBulkEntry x + uptoBulkEntries r
def uptoBulkEntry {H : Type} : Lit × DataW H → Nat
  | (.string bytes, d) => bytes.length + uptoBulk d + 1
  | (_, d) => uptoBulk d + 1
 end
def uptoSmall : (H : Type) → List (DataW H) → Bool := fun _ ds => decide (uptoBulkAll ds ≤ 1048576)
def OpenSpec.upto (s : _root_.Go.ChangeSpec) : _root_.Go.OpenSpec := { _root_.Go.OpenSpec.ofChange s with cond := some uptoSmall }

/-- 'trefoillaw06.PoolLays', WHERE WHAT IT READS IS OF BULK AT MOST 1048576: true; the input reads as it did. -/
def poolLaysUptoRow : OpenClaim := { program := "ytbeaaieaffdgeaagreatdoor", sum := "cb6c4bb848fed7c25a3a71abf15e5c0f58054f8b19befca6277f6484f0e083b5", func := "trefoil/trefoillaw06.PoolLays", spec := "poolLays", inPlace := ["internal/abi.NoEscape"], unfollowed := true, recurses := true, named := ["trefoil/card.kinds", "trefoil/card.layers", "trefoil/card.instead"], apart := false, laid := [("trefoil/card.kinds", laid_trefoil_card_kinds), ("trefoil/card.layers", laid_trefoil_card_layers), ("trefoil/card.instead", laid_trefoil_card_instead)], narrowed := true }
def PoolLaysUptoSaid : Prop := poolLaysUptoRow.holds Tryz.pinned (OpenSpec.upto poolLaysSpec)

/-- 'trefoillaw06.PoolReads', WHERE WHAT IT READS IS OF BULK AT MOST 1048576: true; the input reads as it did. -/
def poolReadsUptoRow : OpenClaim := { program := "ytbeaaieaffdgeaagreatdoor", sum := "cb6c4bb848fed7c25a3a71abf15e5c0f58054f8b19befca6277f6484f0e083b5", func := "trefoil/trefoillaw06.PoolReads", spec := "poolReads", inPlace := ["internal/abi.NoEscape"], unfollowed := true, recurses := true, named := ["trefoil/card.kinds", "trefoil/card.layers", "trefoil/card.instead"], apart := false, laid := [("trefoil/card.kinds", laid_trefoil_card_kinds), ("trefoil/card.layers", laid_trefoil_card_layers), ("trefoil/card.instead", laid_trefoil_card_instead)], narrowed := true }
def PoolReadsUptoSaid : Prop := poolReadsUptoRow.holds Tryz.pinned (OpenSpec.upto poolReadsSpec)

end Rows
end Go.Proofs.YtbeaaieaffdgeaaGreatDoor
