/-
  DERIVED. GIVEN WITH THE SEED: THE CARDS: each row of YtbeaaieaffdgeaaDoorRows.lean that lists a variable, with what it lists TIED to the program's text (the seventh form; the later family's looks); each row that meets fmt, with fmt's text TOLD by the authors' own Lean function (tested against real Go, not proved from fmt's source: count such statements apart). THE CARD IS WHAT COUNTS. Prove the row's statement (the work); the ties are given (YtbeaaieaffdgeaaDoorTie.lean); close each card by the builder's one call (the guide's Derived/Test/ToyasCard.lean, 'card_holds'). Laid BY PROGRAM, IN A SANDBOX (cutbox-door.mjs). By AI agents, Wed Nov 11 2026. No macro, syntax, notation, axiom, sorry.
-/
import Derived.Test.YtbeaaieaffdgeaaDoorRows
import GoSem.ClaimSeven
namespace Go.Proofs.YtbeaaieaffdgeaaDoor
namespace Rows

/-- THE TIED CARD OF 'trefoillaw06.PoolBack'. -/
def poolBackCard : Claim7 := { stood := { row := poolBackRow, standIns := [], harness := (true, "f21b2739424f25b9f5ddd8edd2534103729ca67971713fd644a5cf83a9a59762"), looks := false }, kinds := [], alts := [], laidByText := true, laidKinds := [.data, .data, .data], laidTests := true, laidLooks := .later }
def PoolBackCardSaid : Prop := Claim7.holds Tryd.pinned (.plain (OpenSpec.ofChange poolBackSpec)) poolBackCard

/-- THE TIED CARD OF 'trefoillaw06.PoolCut'. -/
def poolCutCard : Claim7 := { stood := { row := poolCutRow, standIns := [], harness := (true, "f21b2739424f25b9f5ddd8edd2534103729ca67971713fd644a5cf83a9a59762"), looks := false }, kinds := [], alts := [], laidByText := true, laidKinds := [.data, .data, .data], laidTests := true, laidLooks := .later }
def PoolCutCardSaid : Prop := Claim7.holds Tryd.pinned (.plain (OpenSpec.ofChange poolCutSpec)) poolCutCard

/-- THE TIED CARD OF 'trefoillaw06.PoolKnown'. -/
def poolKnownCard : Claim7 := { stood := { row := poolKnownRow, standIns := [], harness := (true, "f21b2739424f25b9f5ddd8edd2534103729ca67971713fd644a5cf83a9a59762"), looks := false }, kinds := [], alts := [], laidByText := true, laidKinds := [.data, .data, .data], laidTests := true, laidLooks := .later }
def PoolKnownCardSaid : Prop := Claim7.holds Tryd.pinned (.plain (OpenSpec.ofChange poolKnownSpec)) poolKnownCard

/-- THE SECOND FORM's CARD OF 'trefoillaw06.PoolBack'. -/
def poolBackUptoCard : Claim7 := { stood := { row := poolBackUptoRow, standIns := [], harness := (true, "f21b2739424f25b9f5ddd8edd2534103729ca67971713fd644a5cf83a9a59762"), looks := false }, kinds := [], alts := [], laidByText := true, laidKinds := [.data, .data, .data], laidTests := true, laidLooks := .later }
def PoolBackUptoCardSaid : Prop := Claim7.holds Tryd.pinned (.plain (OpenSpec.upto poolBackSpec)) poolBackUptoCard

/-- THE SECOND FORM's CARD OF 'trefoillaw06.PoolCut'. -/
def poolCutUptoCard : Claim7 := { stood := { row := poolCutUptoRow, standIns := [], harness := (true, "f21b2739424f25b9f5ddd8edd2534103729ca67971713fd644a5cf83a9a59762"), looks := false }, kinds := [], alts := [], laidByText := true, laidKinds := [.data, .data, .data], laidTests := true, laidLooks := .later }
def PoolCutUptoCardSaid : Prop := Claim7.holds Tryd.pinned (.plain (OpenSpec.upto poolCutSpec)) poolCutUptoCard

/-- THE SECOND FORM's CARD OF 'trefoillaw06.PoolKnown'. -/
def poolKnownUptoCard : Claim7 := { stood := { row := poolKnownUptoRow, standIns := [], harness := (true, "f21b2739424f25b9f5ddd8edd2534103729ca67971713fd644a5cf83a9a59762"), looks := false }, kinds := [], alts := [], laidByText := true, laidKinds := [.data, .data, .data], laidTests := true, laidLooks := .later }
def PoolKnownUptoCardSaid : Prop := Claim7.holds Tryd.pinned (.plain (OpenSpec.upto poolKnownSpec)) poolKnownUptoCard
end Rows
end Go.Proofs.YtbeaaieaffdgeaaDoor
