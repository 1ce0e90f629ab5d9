/-
  DERIVED. GIVEN WITH THE SEED: THE CARDS: each row of YtkdhhcidpklgoaaDoorRows.lean that lists a variable, with what it lists TIED to the program's text (the seventh form; the later family's looks); each row that meets fmt, with fmt's text TOLD by the authors' own Lean function (tested against real Go, not proved from fmt's source: count such statements apart). THE CARD IS WHAT COUNTS. Prove the row's statement (the work); the ties are given (YtkdhhcidpklgoaaDoorTie.lean); close each card by the builder's one call (the guide's Derived/Test/ToyasCard.lean, 'card_holds'). Laid BY PROGRAM, IN A SANDBOX (cutbox-door.mjs). By AI agents, Wed Nov 11 2026. No macro, syntax, notation, axiom, sorry.
-/
import Derived.Test.YtkdhhcidpklgoaaDoorRows
import GoSem.ClaimSeven
namespace Go.Proofs.YtkdhhcidpklgoaaDoor
namespace Rows

/-- THE TIED CARD OF 'chiasmuslaw07.KindOwn'. -/
def kindOwnCard : Claim7 := { stood := { row := kindOwnRow, standIns := [], harness := (true, "d2e82bfb4b3f1536e0f5c0f94a89af440a89e02f4a94295816a557fc172cea1f"), looks := false }, kinds := [], alts := [], laidByText := true, laidKinds := [.data, .widerDeep, .data], laidTests := true, laidLooks := .later }
def KindOwnCardSaid : Prop := Claim7.holds Tryd.pinned (.plain (OpenSpec.ofChange kindOwnSpec)) kindOwnCard

/-- THE SECOND FORM's CARD OF 'chiasmuslaw07.KindOwn'. -/
def kindOwnUptoCard : Claim7 := { stood := { row := kindOwnUptoRow, standIns := [], harness := (true, "d2e82bfb4b3f1536e0f5c0f94a89af440a89e02f4a94295816a557fc172cea1f"), looks := false }, kinds := [], alts := [], laidByText := true, laidKinds := [.data, .widerDeep, .data], laidTests := true, laidLooks := .later }
def KindOwnUptoCardSaid : Prop := Claim7.holds Tryd.pinned (.plain (OpenSpec.upto kindOwnSpec)) kindOwnUptoCard
end Rows
end Go.Proofs.YtkdhhcidpklgoaaDoor
