/-
  DERIVED. GIVEN WITH THE SEED: THE CARDS: each row of YtkdhhcidpklgoaaGreatDoorRows.lean that lists a variable, with what it lists TIED to the program's text (the seventh form; the later family's looks); each row that meets fmt, with fmt's text TOLD by the authors' own Lean function (tested against real Go, not proved from fmt's source: count such statements apart). THE CARD IS WHAT COUNTS. Prove the row's statement (the work); the ties are given (YtkdhhcidpklgoaaGreatDoorTie.lean); close each card by the builder's one call (the guide's Derived/Test/ToyasCard.lean, 'card_holds'). Laid BY PROGRAM, IN A SANDBOX (cutbox-door.mjs). By AI agents, Wed Nov 11 2026. No macro, syntax, notation, axiom, sorry.
-/
import Derived.Test.YtkdhhcidpklgoaaGreatDoorRows
import GoSem.ClaimSeven
namespace Go.Proofs.YtkdhhcidpklgoaaGreatDoor
namespace Rows

/-- THE TIED CARD OF 'chiasmuslaw07.KindForms'. -/
def kindFormsCard : Claim7 := { stood := { row := kindFormsRow, standIns := [], harness := (true, "0b242d9efd4224283f211d1005d8dca5c2f7b74d66cc964854c56891b8665c37"), looks := false }, kinds := [], alts := [], laidByText := true, laidKinds := [.data, .widerDeep, .data], laidTests := true, laidLooks := .later }
def KindFormsCardSaid : Prop := Claim7.holds Tryz.pinned (.plain (OpenSpec.ofChange kindFormsSpec)) kindFormsCard

/-- THE TIED CARD OF 'chiasmuslaw07.KindTypes'. -/
def kindTypesCard : Claim7 := { stood := { row := kindTypesRow, standIns := [], harness := (true, "0b242d9efd4224283f211d1005d8dca5c2f7b74d66cc964854c56891b8665c37"), looks := false }, kinds := [], alts := [], laidByText := true, laidKinds := [.data, .widerDeep, .data], laidTests := true, laidLooks := .later }
def KindTypesCardSaid : Prop := Claim7.holds Tryz.pinned (.plain (OpenSpec.ofChange kindTypesSpec)) kindTypesCard

/-- THE TIED CARD OF 'chiasmuslaw07.KindSubst'. -/
def kindSubstCard : Claim7 := { stood := { row := kindSubstRow, standIns := [], harness := (true, "0b242d9efd4224283f211d1005d8dca5c2f7b74d66cc964854c56891b8665c37"), looks := false }, kinds := [], alts := [], laidByText := true, laidKinds := [.data, .widerDeep, .data], laidTests := true, laidLooks := .later }
def KindSubstCardSaid : Prop := Claim7.holds Tryz.pinned (.plain (OpenSpec.ofChange kindSubstSpec)) kindSubstCard

/-- THE SECOND FORM's CARD OF 'chiasmuslaw07.KindForms'. -/
def kindFormsUptoCard : Claim7 := { stood := { row := kindFormsUptoRow, standIns := [], harness := (true, "0b242d9efd4224283f211d1005d8dca5c2f7b74d66cc964854c56891b8665c37"), looks := false }, kinds := [], alts := [], laidByText := true, laidKinds := [.data, .widerDeep, .data], laidTests := true, laidLooks := .later }
def KindFormsUptoCardSaid : Prop := Claim7.holds Tryz.pinned (.plain (OpenSpec.upto kindFormsSpec)) kindFormsUptoCard

/-- THE SECOND FORM's CARD OF 'chiasmuslaw07.KindTypes'. -/
def kindTypesUptoCard : Claim7 := { stood := { row := kindTypesUptoRow, standIns := [], harness := (true, "0b242d9efd4224283f211d1005d8dca5c2f7b74d66cc964854c56891b8665c37"), looks := false }, kinds := [], alts := [], laidByText := true, laidKinds := [.data, .widerDeep, .data], laidTests := true, laidLooks := .later }
def KindTypesUptoCardSaid : Prop := Claim7.holds Tryz.pinned (.plain (OpenSpec.upto kindTypesSpec)) kindTypesUptoCard

/-- THE SECOND FORM's CARD OF 'chiasmuslaw07.KindSubst'. -/
def kindSubstUptoCard : Claim7 := { stood := { row := kindSubstUptoRow, standIns := [], harness := (true, "0b242d9efd4224283f211d1005d8dca5c2f7b74d66cc964854c56891b8665c37"), looks := false }, kinds := [], alts := [], laidByText := true, laidKinds := [.data, .widerDeep, .data], laidTests := true, laidLooks := .later }
def KindSubstUptoCardSaid : Prop := Claim7.holds Tryz.pinned (.plain (OpenSpec.upto kindSubstSpec)) kindSubstUptoCard
end Rows
end Go.Proofs.YtkdhhcidpklgoaaGreatDoor
