/-
  DERIVED. GIVEN WITH THE SEED: THE CARDS: each row of YtkdglplfcpindaaGreatDoorRows.lean that lists a variable, with what it lists TIED to the program's text (the seventh form; the later family's looks); each row that meets fmt, with fmt's text TOLD by the authors' own Lean function (tested against real Go, not proved from fmt's source: count such statements apart). THE CARD IS WHAT COUNTS. Prove the row's statement (the work); the ties are given (YtkdglplfcpindaaGreatDoorTie.lean); close each card by the builder's one call (the guide's Derived/Test/ToyasCard.lean, 'card_holds'). Laid BY PROGRAM, IN A SANDBOX (cutbox-door.mjs). By AI agents, Wed Nov 11 2026. No macro, syntax, notation, axiom, sorry.
-/
import Derived.Test.YtkdglplfcpindaaGreatDoorRows
import GoSem.ClaimSeven
namespace Go.Proofs.YtkdglplfcpindaaGreatDoor
namespace Rows

/-- THE TIED CARD OF 'chiasmuslaw05.DirectRuns'. -/
def directRunsCard : Claim7 := { stood := { row := directRunsRow, standIns := [], harness := (true, "300c0e14ab55dffab924c2f59f3ff473f2be5c0cb935e82e9308491bb60f9c81"), looks := true }, kinds := [], alts := [], laidByText := true, laidKinds := [.data, .data, .data], laidTests := true, laidLooks := .later }
def DirectRunsCardSaid : Prop := Claim7.holds Tryz.pinned (.plain (OpenSpec.ofChange directRunsSpec)) directRunsCard

/-- THE TIED CARD OF 'chiasmuslaw05.DirectTyped'. -/
def directTypedCard : Claim7 := { stood := { row := directTypedRow, standIns := [], harness := (true, "300c0e14ab55dffab924c2f59f3ff473f2be5c0cb935e82e9308491bb60f9c81"), looks := true }, kinds := [], alts := [], laidByText := true, laidKinds := [.data, .data, .data], laidTests := true, laidLooks := .later }
def DirectTypedCardSaid : Prop := Claim7.holds Tryz.pinned (.plain (OpenSpec.ofChange directTypedSpec)) directTypedCard

/-- THE TIED CARD OF 'chiasmuslaw05.DirectFuel'. -/
def directFuelCard : Claim7 := { stood := { row := directFuelRow, standIns := [], harness := (true, "300c0e14ab55dffab924c2f59f3ff473f2be5c0cb935e82e9308491bb60f9c81"), looks := true }, kinds := [], alts := [], laidByText := true, laidKinds := [.data, .data, .data], laidTests := true, laidLooks := .later }
def DirectFuelCardSaid : Prop := Claim7.holds Tryz.pinned (.plain (OpenSpec.ofChange directFuelSpec)) directFuelCard

/-- THE TIED CARD OF 'chiasmuslaw05.DirectOwn'. -/
def directOwnCard : Claim7 := { stood := { row := directOwnRow, standIns := [], harness := (true, "300c0e14ab55dffab924c2f59f3ff473f2be5c0cb935e82e9308491bb60f9c81"), looks := true }, kinds := [], alts := [], laidByText := true, laidKinds := [.data, .data, .data], laidTests := true, laidLooks := .later }
def DirectOwnCardSaid : Prop := Claim7.holds Tryz.pinned (.plain (OpenSpec.ofChange directOwnSpec)) directOwnCard

/-- THE SECOND FORM's CARD OF 'chiasmuslaw05.DirectRuns'. -/
def directRunsUptoCard : Claim7 := { stood := { row := directRunsUptoRow, standIns := [], harness := (true, "300c0e14ab55dffab924c2f59f3ff473f2be5c0cb935e82e9308491bb60f9c81"), looks := true }, kinds := [], alts := [], laidByText := true, laidKinds := [.data, .data, .data], laidTests := true, laidLooks := .later }
def DirectRunsUptoCardSaid : Prop := Claim7.holds Tryz.pinned (.plain (OpenSpec.upto directRunsSpec)) directRunsUptoCard

/-- THE SECOND FORM's CARD OF 'chiasmuslaw05.DirectTyped'. -/
def directTypedUptoCard : Claim7 := { stood := { row := directTypedUptoRow, standIns := [], harness := (true, "300c0e14ab55dffab924c2f59f3ff473f2be5c0cb935e82e9308491bb60f9c81"), looks := true }, kinds := [], alts := [], laidByText := true, laidKinds := [.data, .data, .data], laidTests := true, laidLooks := .later }
def DirectTypedUptoCardSaid : Prop := Claim7.holds Tryz.pinned (.plain (OpenSpec.upto directTypedSpec)) directTypedUptoCard

/-- THE SECOND FORM's CARD OF 'chiasmuslaw05.DirectFuel'. -/
def directFuelUptoCard : Claim7 := { stood := { row := directFuelUptoRow, standIns := [], harness := (true, "300c0e14ab55dffab924c2f59f3ff473f2be5c0cb935e82e9308491bb60f9c81"), looks := true }, kinds := [], alts := [], laidByText := true, laidKinds := [.data, .data, .data], laidTests := true, laidLooks := .later }
def DirectFuelUptoCardSaid : Prop := Claim7.holds Tryz.pinned (.plain (OpenSpec.upto directFuelSpec)) directFuelUptoCard

/-- THE SECOND FORM's CARD OF 'chiasmuslaw05.DirectOwn'. -/
def directOwnUptoCard : Claim7 := { stood := { row := directOwnUptoRow, standIns := [], harness := (true, "300c0e14ab55dffab924c2f59f3ff473f2be5c0cb935e82e9308491bb60f9c81"), looks := true }, kinds := [], alts := [], laidByText := true, laidKinds := [.data, .data, .data], laidTests := true, laidLooks := .later }
def DirectOwnUptoCardSaid : Prop := Claim7.holds Tryz.pinned (.plain (OpenSpec.upto directOwnSpec)) directOwnUptoCard
end Rows
end Go.Proofs.YtkdglplfcpindaaGreatDoor
