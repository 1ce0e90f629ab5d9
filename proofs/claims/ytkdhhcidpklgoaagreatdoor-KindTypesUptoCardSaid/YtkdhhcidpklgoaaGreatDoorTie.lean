/-
  DERIVED. GIVEN WITH THE SEED: THE PROGRAM's TIES (one call each: nine closed facts by the kernel) AND EACH ROW's TIE, after the 31st guide's Derived/Test/Toyas{Tie, Card}.lean. No idea stands in it: it is a product of the set-up. Laid BY PROGRAM, IN A SANDBOX (cutbox-door.mjs). By AI agents, Wed Nov 11 2026. No macro, syntax, notation, axiom, sorry.
-/
import Derived.Test.YtkdhhcidpklgoaaGreatDoorRows
import Derived.LaidByTextLater
import Derived.SevenTiedAt
import Derived.LaidSub
import Derived.LaidOnce
namespace Go.Proofs.YtkdhhcidpklgoaaGreatDoor
open Go
set_option maxRecDepth 100000
theorem seatTie1 : Tryz.prog.laidByTextLater [("chiasmus/prim.signs", Rows.laid_chiasmus_prim_signs), ("chiasmus/node.shapes", Rows.laid_chiasmus_node_shapes), ("chiasmus/kind.rules", Rows.laid_chiasmus_kind_rules)] [.data, .widerDeep, .data] true :=
  Program.laidByTextLater_by_one 61 8 76 (by kernel_rfl) (by kernel_rfl) (by kernel_rfl) (by kernel_rfl) (by kernel_rfl) (by kernel_rfl) (fun _ _ => by kernel_rfl)
theorem noOwnUnsafe : Tryz.pinned.checked.prog.headLifts.contains "ownunsafe" = false := by kernel_rfl
theorem tie : Tryz.prog.laidByTextLater [("chiasmus/prim.signs", Rows.laid_chiasmus_prim_signs), ("chiasmus/node.shapes", Rows.laid_chiasmus_node_shapes), ("chiasmus/kind.rules", Rows.laid_chiasmus_kind_rules)] [.data, .widerDeep, .data] true :=
  Program.laidByTextLater.sub seatTie1 ["chiasmus/prim.signs", "chiasmus/node.shapes", "chiasmus/kind.rules"] (by kernel_rfl) (by kernel_rfl)
theorem kindForms_row_tie : Rows.kindFormsRow.laidByTextAt .later Tryz.pinned [.data, .widerDeep, .data] true :=
  OpenClaim.laidByTextAt_later rfl rfl tie noOwnUnsafe
theorem kindTypes_row_tie : Rows.kindTypesRow.laidByTextAt .later Tryz.pinned [.data, .widerDeep, .data] true :=
  OpenClaim.laidByTextAt_later rfl rfl tie noOwnUnsafe
theorem kindSubst_row_tie : Rows.kindSubstRow.laidByTextAt .later Tryz.pinned [.data, .widerDeep, .data] true :=
  OpenClaim.laidByTextAt_later rfl rfl tie noOwnUnsafe
theorem kindFormsUpto_row_tie : Rows.kindFormsUptoRow.laidByTextAt .later Tryz.pinned [.data, .widerDeep, .data] true :=
  OpenClaim.laidByTextAt_later rfl rfl tie noOwnUnsafe
theorem kindTypesUpto_row_tie : Rows.kindTypesUptoRow.laidByTextAt .later Tryz.pinned [.data, .widerDeep, .data] true :=
  OpenClaim.laidByTextAt_later rfl rfl tie noOwnUnsafe
theorem kindSubstUpto_row_tie : Rows.kindSubstUptoRow.laidByTextAt .later Tryz.pinned [.data, .widerDeep, .data] true :=
  OpenClaim.laidByTextAt_later rfl rfl tie noOwnUnsafe
end Go.Proofs.YtkdhhcidpklgoaaGreatDoor
