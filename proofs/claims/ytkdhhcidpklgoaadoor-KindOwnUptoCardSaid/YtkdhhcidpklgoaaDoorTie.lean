/-
  DERIVED. GIVEN WITH THE SEED: THE PROGRAM's TIES (one call each: nine closed facts by the kernel) AND EACH ROW's TIE, after the 31st guide's Derived/Test/Toyas{Tie, Card}.lean. No idea stands in it: it is a product of the set-up. Laid BY PROGRAM, IN A SANDBOX (cutbox-door.mjs). By AI agents, Wed Nov 11 2026. No macro, syntax, notation, axiom, sorry.
-/
import Derived.Test.YtkdhhcidpklgoaaDoorRows
import Derived.LaidByTextLater
import Derived.SevenTiedAt
import Derived.LaidSub
import Derived.LaidOnce
namespace Go.Proofs.YtkdhhcidpklgoaaDoor
open Go
set_option maxRecDepth 100000
theorem seatTie1 : Tryd.prog.laidByTextLater [("chiasmus/prim.signs", Rows.laid_chiasmus_prim_signs), ("chiasmus/node.shapes", Rows.laid_chiasmus_node_shapes), ("chiasmus/kind.rules", Rows.laid_chiasmus_kind_rules)] [.data, .widerDeep, .data] true :=
  Program.laidByTextLater_by_one 61 8 76 (by kernel_rfl) (by kernel_rfl) (by kernel_rfl) (by kernel_rfl) (by kernel_rfl) (by kernel_rfl) (fun _ _ => by kernel_rfl)
theorem noOwnUnsafe : Tryd.pinned.checked.prog.headLifts.contains "ownunsafe" = false := by kernel_rfl
theorem tie : Tryd.prog.laidByTextLater [("chiasmus/prim.signs", Rows.laid_chiasmus_prim_signs), ("chiasmus/node.shapes", Rows.laid_chiasmus_node_shapes), ("chiasmus/kind.rules", Rows.laid_chiasmus_kind_rules)] [.data, .widerDeep, .data] true :=
  Program.laidByTextLater.sub seatTie1 ["chiasmus/prim.signs", "chiasmus/node.shapes", "chiasmus/kind.rules"] (by kernel_rfl) (by kernel_rfl)
theorem kindOwn_row_tie : Rows.kindOwnRow.laidByTextAt .later Tryd.pinned [.data, .widerDeep, .data] true :=
  OpenClaim.laidByTextAt_later rfl rfl tie noOwnUnsafe
theorem kindOwnUpto_row_tie : Rows.kindOwnUptoRow.laidByTextAt .later Tryd.pinned [.data, .widerDeep, .data] true :=
  OpenClaim.laidByTextAt_later rfl rfl tie noOwnUnsafe
end Go.Proofs.YtkdhhcidpklgoaaDoor
