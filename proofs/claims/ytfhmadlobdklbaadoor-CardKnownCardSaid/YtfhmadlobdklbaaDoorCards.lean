/-
  DERIVED. GIVEN WITH THE SEED: THE CARDS: each row of YtfhmadlobdklbaaDoorRows.lean that lists a variable, with what it lists TIED to the program's text (the seventh form; the later family's looks); each row that meets fmt, with fmt's text TOLD by the authors' own Lean function (tested against real Go, not proved from fmt's source: count such statements apart). THE CARD IS WHAT COUNTS. Prove the row's statement (the work); the ties are given (YtfhmadlobdklbaaDoorTie.lean); close each card by the builder's one call (the guide's Derived/Test/ToyasCard.lean, 'card_holds'). Laid BY PROGRAM, IN A SANDBOX (cutbox-door.mjs). By AI agents, Wed Nov 11 2026. No macro, syntax, notation, axiom, sorry.
-/
import Derived.Test.YtfhmadlobdklbaaDoorRows
import GoSem.ClaimSeven
namespace Go.Proofs.YtfhmadlobdklbaaDoor
namespace Rows

/-- THE TIED CARD OF 'trefoillaw05.CardChecks'. -/
def cardChecksCard : Claim7 := { stood := { row := cardChecksRow, standIns := [], harness := (true, "980d02a5c6b22a1102d9931cc0ee81e61ebd1f2278ec393ae4a1790643a74c53"), looks := false }, kinds := [], alts := [], laidByText := true, laidKinds := [.data, .data, .data], laidTests := true, laidLooks := .later }
def CardChecksCardSaid : Prop := Claim7.holds Tryd.pinned (.plain (OpenSpec.ofChange cardChecksSpec)) cardChecksCard

/-- THE TIED CARD OF 'trefoillaw05.CardOnes'. -/
def cardOnesCard : Claim7 := { stood := { row := cardOnesRow, standIns := [], harness := (true, "980d02a5c6b22a1102d9931cc0ee81e61ebd1f2278ec393ae4a1790643a74c53"), looks := false }, kinds := [], alts := [], laidByText := true, laidKinds := [.data, .data, .data], laidTests := true, laidLooks := .later }
def CardOnesCardSaid : Prop := Claim7.holds Tryd.pinned (.plain (OpenSpec.ofChange cardOnesSpec)) cardOnesCard

/-- THE TIED CARD OF 'trefoillaw05.CardGreater'. -/
def cardGreaterCard : Claim7 := { stood := { row := cardGreaterRow, standIns := [], harness := (true, "980d02a5c6b22a1102d9931cc0ee81e61ebd1f2278ec393ae4a1790643a74c53"), looks := false }, kinds := [], alts := [], laidByText := true, laidKinds := [.data, .data, .data], laidTests := true, laidLooks := .later }
def CardGreaterCardSaid : Prop := Claim7.holds Tryd.pinned (.plain (OpenSpec.ofChange cardGreaterSpec)) cardGreaterCard

/-- THE TIED CARD OF 'trefoillaw05.CardKnown'. -/
def cardKnownCard : Claim7 := { stood := { row := cardKnownRow, standIns := [], harness := (true, "980d02a5c6b22a1102d9931cc0ee81e61ebd1f2278ec393ae4a1790643a74c53"), looks := false }, kinds := [], alts := [], laidByText := true, laidKinds := [.data, .data, .data], laidTests := true, laidLooks := .later }
def CardKnownCardSaid : Prop := Claim7.holds Tryd.pinned (.plain (OpenSpec.ofChange cardKnownSpec)) cardKnownCard

/-- THE SECOND FORM's CARD OF 'trefoillaw05.CardChecks'. -/
def cardChecksUptoCard : Claim7 := { stood := { row := cardChecksUptoRow, standIns := [], harness := (true, "980d02a5c6b22a1102d9931cc0ee81e61ebd1f2278ec393ae4a1790643a74c53"), looks := false }, kinds := [], alts := [], laidByText := true, laidKinds := [.data, .data, .data], laidTests := true, laidLooks := .later }
def CardChecksUptoCardSaid : Prop := Claim7.holds Tryd.pinned (.plain (OpenSpec.upto cardChecksSpec)) cardChecksUptoCard

/-- THE SECOND FORM's CARD OF 'trefoillaw05.CardOnes'. -/
def cardOnesUptoCard : Claim7 := { stood := { row := cardOnesUptoRow, standIns := [], harness := (true, "980d02a5c6b22a1102d9931cc0ee81e61ebd1f2278ec393ae4a1790643a74c53"), looks := false }, kinds := [], alts := [], laidByText := true, laidKinds := [.data, .data, .data], laidTests := true, laidLooks := .later }
def CardOnesUptoCardSaid : Prop := Claim7.holds Tryd.pinned (.plain (OpenSpec.upto cardOnesSpec)) cardOnesUptoCard

/-- THE SECOND FORM's CARD OF 'trefoillaw05.CardGreater'. -/
def cardGreaterUptoCard : Claim7 := { stood := { row := cardGreaterUptoRow, standIns := [], harness := (true, "980d02a5c6b22a1102d9931cc0ee81e61ebd1f2278ec393ae4a1790643a74c53"), looks := false }, kinds := [], alts := [], laidByText := true, laidKinds := [.data, .data, .data], laidTests := true, laidLooks := .later }
def CardGreaterUptoCardSaid : Prop := Claim7.holds Tryd.pinned (.plain (OpenSpec.upto cardGreaterSpec)) cardGreaterUptoCard

/-- THE SECOND FORM's CARD OF 'trefoillaw05.CardKnown'. -/
def cardKnownUptoCard : Claim7 := { stood := { row := cardKnownUptoRow, standIns := [], harness := (true, "980d02a5c6b22a1102d9931cc0ee81e61ebd1f2278ec393ae4a1790643a74c53"), looks := false }, kinds := [], alts := [], laidByText := true, laidKinds := [.data, .data, .data], laidTests := true, laidLooks := .later }
def CardKnownUptoCardSaid : Prop := Claim7.holds Tryd.pinned (.plain (OpenSpec.upto cardKnownSpec)) cardKnownUptoCard
end Rows
end Go.Proofs.YtfhmadlobdklbaaDoor
