/-
  DERIVED. GIVEN WITH THE SEED: THE CARDS: each row of YtbeaaieaffdgeaaGreatDoorRows.lean that lists a variable, with what it lists TIED to the program's text (the seventh form; the later family's looks); each row that meets fmt, with fmt's text TOLD by the authors' own Lean function (tested against real Go, not proved from fmt's source: count such statements apart). THE CARD IS WHAT COUNTS. Prove the row's statement (the work); the ties are given (YtbeaaieaffdgeaaGreatDoorTie.lean); close each card by the builder's one call (the guide's Derived/Test/ToyasCard.lean, 'card_holds'). Laid BY PROGRAM, IN A SANDBOX (cutbox-door.mjs). By AI agents, Wed Nov 11 2026. No macro, syntax, notation, axiom, sorry.
-/
import Derived.Test.YtbeaaieaffdgeaaGreatDoorRows
import GoSem.ClaimSeven
namespace Go.Proofs.YtbeaaieaffdgeaaGreatDoor
namespace Rows

/-- THE TIED CARD OF 'trefoillaw06.PoolLays'. -/
def poolLaysCard : Claim7 := { stood := { row := poolLaysRow, standIns := [], harness := (true, "7ac8babdff77830b3d1a5e62c0f78f67e3b438a940962b13847562ab74f0eeed"), looks := false }, kinds := [], alts := [], laidByText := true, laidKinds := [.data, .data, .data], laidTests := true, laidLooks := .later }
def PoolLaysCardSaid : Prop := Claim7.holds Tryz.pinned (.plain (OpenSpec.ofChange poolLaysSpec)) poolLaysCard

/-- THE TIED CARD OF 'trefoillaw06.PoolReads'. -/
def poolReadsCard : Claim7 := { stood := { row := poolReadsRow, standIns := [], harness := (true, "7ac8babdff77830b3d1a5e62c0f78f67e3b438a940962b13847562ab74f0eeed"), looks := false }, kinds := [], alts := [], laidByText := true, laidKinds := [.data, .data, .data], laidTests := true, laidLooks := .later }
def PoolReadsCardSaid : Prop := Claim7.holds Tryz.pinned (.plain (OpenSpec.ofChange poolReadsSpec)) poolReadsCard

/-- THE SECOND FORM's CARD OF 'trefoillaw06.PoolLays'. -/
def poolLaysUptoCard : Claim7 := { stood := { row := poolLaysUptoRow, standIns := [], harness := (true, "7ac8babdff77830b3d1a5e62c0f78f67e3b438a940962b13847562ab74f0eeed"), looks := false }, kinds := [], alts := [], laidByText := true, laidKinds := [.data, .data, .data], laidTests := true, laidLooks := .later }
def PoolLaysUptoCardSaid : Prop := Claim7.holds Tryz.pinned (.plain (OpenSpec.upto poolLaysSpec)) poolLaysUptoCard

/-- THE SECOND FORM's CARD OF 'trefoillaw06.PoolReads'. -/
def poolReadsUptoCard : Claim7 := { stood := { row := poolReadsUptoRow, standIns := [], harness := (true, "7ac8babdff77830b3d1a5e62c0f78f67e3b438a940962b13847562ab74f0eeed"), looks := false }, kinds := [], alts := [], laidByText := true, laidKinds := [.data, .data, .data], laidTests := true, laidLooks := .later }
def PoolReadsUptoCardSaid : Prop := Claim7.holds Tryz.pinned (.plain (OpenSpec.upto poolReadsSpec)) poolReadsUptoCard
end Rows
end Go.Proofs.YtbeaaieaffdgeaaGreatDoor
