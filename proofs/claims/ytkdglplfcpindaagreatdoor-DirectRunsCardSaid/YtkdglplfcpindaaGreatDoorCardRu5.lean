/- chiasmuslaw05.DirectRuns: the tied card. -/
import Derived.Test.YtkdglplfcpindaaGreatDoorQ41
import Derived.Test.YtkdglplfcpindaaGreatDoorTie
import Derived.Test.YtkdglplfcpindaaGreatDoorCards
import Derived.SevenTiedAt
set_option maxRecDepth 100000
namespace Go.Proofs.YtkdglplfcpindaaGreatDoor.directRunsDone
open Go
theorem card : Rows.DirectRunsCardSaid :=
  Claim7.holds_tied_plain_at .later [] [.data, .data, .data] true (true, "300c0e14ab55dffab924c2f59f3ff473f2be5c0cb935e82e9308491bb60f9c81") true
    over (fun _ h => by cases h) (by kernel_rfl) (fun _ h => by cases h) directRuns_row_tie rfl ⟨rfl, rfl⟩ (by kernel_rfl) rfl
    (fun f fn hf hfn => by
      obtain rfl : f = 3 := Option.some.inj ((show Tryz.prog.funcNamed "chiasmus/chiasmuslaw05.DirectRuns" = some 3 by kernel_rfl).symm.trans hf) |>.symm
      obtain rfl : fn = Tryz.f3 := (Option.some.inj (Tryz.func3.symm.trans hfn)).symm
      exact ⟨by kernel_rfl, fun j t ht => by
        rw [Tryz.params3] at ht
        have hm : t ∈ [25, 3, 26] := by
          have h := Array.mem_of_getElem? ht
          simp at h
          simp
          omega
        have hall : ([25, 3, 26].all fun u => !Tryz.prog.wantsStandIn u) = true := by kernel_rfl
        exact (show Tryz.prog.wantsStandIn t = false by simpa using List.all_eq_true.1 hall t hm)⟩)
    (by kernel_rfl)
#print axioms card
end Go.Proofs.YtkdglplfcpindaaGreatDoor.directRunsDone
