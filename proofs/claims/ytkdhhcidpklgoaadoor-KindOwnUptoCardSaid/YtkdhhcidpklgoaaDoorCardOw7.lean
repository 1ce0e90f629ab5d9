/- chiasmuslaw07.KindOwn: the tied card. -/
import Derived.Test.YtkdhhcidpklgoaaDoorQ28
import Derived.Test.YtkdhhcidpklgoaaDoorTie
import Derived.Test.YtkdhhcidpklgoaaDoorCards
import Derived.SevenTiedAt
namespace Go.Proofs.YtkdhhcidpklgoaaDoor.kindOwnDone
open Go

set_option maxRecDepth 100000 in
theorem card : Rows.KindOwnUptoCardSaid :=
  Claim7.holds_tied_plain_at .later [] [.data, .widerDeep, .data] true (true, "d2e82bfb4b3f1536e0f5c0f94a89af440a89e02f4a94295816a557fc172cea1f") false
    over (fun _ h => by cases h) (by kernel_rfl) (fun _ h => by cases h) kindOwnUpto_row_tie rfl ⟨rfl, rfl⟩ (by kernel_rfl) rfl
    (fun f fn hf hfn => by
      obtain rfl : f = 3 := Option.some.inj ((show Tryd.prog.funcNamed "chiasmus/chiasmuslaw07.KindOwn" = some 3 by kernel_rfl).symm.trans hf) |>.symm
      obtain rfl : fn = Tryd.f3 := (Option.some.inj (Tryd.func3.symm.trans hfn)).symm
      exact ⟨by kernel_rfl, fun j t ht => by
        rw [Tryd.params3] at ht
        have hm : t ∈ [25, 26, 26, 27, 31] := by
          have h := Array.mem_of_getElem? ht
          simp at h
          simp
          omega
        have hall : ([25, 26, 26, 27, 31].all fun u => !Tryd.prog.wantsStandIn u) = true := by kernel_rfl
        exact (show Tryd.prog.wantsStandIn t = false by simpa using List.all_eq_true.1 hall t hm)⟩)
    (by kernel_rfl)
#print axioms card
end Go.Proofs.YtkdhhcidpklgoaaDoor.kindOwnDone
