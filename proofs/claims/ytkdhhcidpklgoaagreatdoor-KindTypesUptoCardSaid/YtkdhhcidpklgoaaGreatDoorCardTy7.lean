/- chiasmuslaw07.KindTypes: the tied card. -/
import Derived.Test.YtkdhhcidpklgoaaGreatDoorQ39
import Derived.Test.YtkdhhcidpklgoaaGreatDoorTie
import Derived.Test.YtkdhhcidpklgoaaGreatDoorCards
import Derived.SevenTiedAt
namespace Go.Proofs.YtkdhhcidpklgoaaGreatDoor.kindTypesDone
open Go

set_option maxRecDepth 100000 in
theorem card : Rows.KindTypesUptoCardSaid :=
  Claim7.holds_tied_plain_at .later [] [.data, .widerDeep, .data] true (true, "0b242d9efd4224283f211d1005d8dca5c2f7b74d66cc964854c56891b8665c37") false
    over (fun _ h => by cases h) (by kernel_rfl) (fun _ h => by cases h) kindTypesUpto_row_tie rfl ⟨rfl, rfl⟩ (by kernel_rfl) rfl
    (fun f fn hf hfn => by
      obtain rfl : f = 4 := Option.some.inj ((show Tryz.prog.funcNamed "chiasmus/chiasmuslaw07.KindTypes" = some 4 by kernel_rfl).symm.trans hf) |>.symm
      obtain rfl : fn = Tryz.f4 := (Option.some.inj (Tryz.func4.symm.trans hfn)).symm
      exact ⟨by kernel_rfl, fun j t ht => by
        rw [Tryz.params4] at ht
        have hm : t ∈ [25, 31, 31, 32, 36] := by
          have h := Array.mem_of_getElem? ht
          simp at h
          simp
          omega
        have hall : ([25, 31, 31, 32, 36].all fun u => !Tryz.prog.wantsStandIn u) = true := by kernel_rfl
        exact (show Tryz.prog.wantsStandIn t = false by simpa using List.all_eq_true.1 hall t hm)⟩)
    (by kernel_rfl)
#print axioms card
end Go.Proofs.YtkdhhcidpklgoaaGreatDoor.kindTypesDone
