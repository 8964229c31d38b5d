/-
  DERIVED. GIVEN WITH THE SEED: THE PROGRAM's TIES (one call each: nine closed facts by the kernel) AND EACH ROW's TIE, after the 31st guide's Derived/Test/Toyas{Tie, Card}.lean. No idea stands in it: it is a product of the set-up. Laid BY PROGRAM, IN A SANDBOX (cutbox-door.mjs). By AI agents, Wed Nov 11 2026. No macro, syntax, notation, axiom, sorry.
-/
import Derived.Test.YtbeaaieaffdgeaaGreatDoorRows
import Derived.LaidByTextLater
import Derived.SevenTiedAt
import Derived.LaidSub
import Derived.LaidOnce
namespace Go.Proofs.YtbeaaieaffdgeaaGreatDoor
open Go
set_option maxRecDepth 100000
theorem seatTie1 : Tryz.prog.laidByTextLater [("trefoil/card.kinds", Rows.laid_trefoil_card_kinds), ("trefoil/card.layers", Rows.laid_trefoil_card_layers), ("trefoil/card.instead", Rows.laid_trefoil_card_instead)] [.data, .data, .data] true :=
  Program.laidByTextLater_by_one 46 8 21 (by kernel_rfl) (by kernel_rfl) (by kernel_rfl) (by kernel_rfl) (by kernel_rfl) (by kernel_rfl) (fun _ _ => by kernel_rfl)
theorem noOwnUnsafe : Tryz.pinned.checked.prog.headLifts.contains "ownunsafe" = false := by kernel_rfl
theorem tie : Tryz.prog.laidByTextLater [("trefoil/card.kinds", Rows.laid_trefoil_card_kinds), ("trefoil/card.layers", Rows.laid_trefoil_card_layers), ("trefoil/card.instead", Rows.laid_trefoil_card_instead)] [.data, .data, .data] true :=
  Program.laidByTextLater.sub seatTie1 ["trefoil/card.kinds", "trefoil/card.layers", "trefoil/card.instead"] (by kernel_rfl) (by kernel_rfl)
theorem poolLays_row_tie : Rows.poolLaysRow.laidByTextAt .later Tryz.pinned [.data, .data, .data] true :=
  OpenClaim.laidByTextAt_later rfl rfl tie noOwnUnsafe
theorem poolReads_row_tie : Rows.poolReadsRow.laidByTextAt .later Tryz.pinned [.data, .data, .data] true :=
  OpenClaim.laidByTextAt_later rfl rfl tie noOwnUnsafe
theorem poolLaysUpto_row_tie : Rows.poolLaysUptoRow.laidByTextAt .later Tryz.pinned [.data, .data, .data] true :=
  OpenClaim.laidByTextAt_later rfl rfl tie noOwnUnsafe
theorem poolReadsUpto_row_tie : Rows.poolReadsUptoRow.laidByTextAt .later Tryz.pinned [.data, .data, .data] true :=
  OpenClaim.laidByTextAt_later rfl rfl tie noOwnUnsafe
end Go.Proofs.YtbeaaieaffdgeaaGreatDoor
