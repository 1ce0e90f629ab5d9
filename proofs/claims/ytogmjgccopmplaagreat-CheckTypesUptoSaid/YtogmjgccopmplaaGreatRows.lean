/-
  NARROWER THAN 'FOR EVERY INPUT', by the rows' own cells (each row's printed sentence says how): CheckForms: loops · CheckTypes: loops · CheckOne: loops · CheckOwn: loops.
  DERIVED. THE GIVEN ROWS OF THIS SEAT. 4 by the template 'for every input the law returns true; each argument reads behind the call as it read before'; 0 by the template 'total and deterministic' (their statements: YtogmjgccopmplaaGreatTotals.lean).
  GIVEN WITH THE SEED: the statements are not yours to turn. If you find one false, say at which input.
  Laid BY PROGRAM, IN A SANDBOX (cutbox-rows.mjs): the forced cells as the released guide's own fill.sh prints them over the translation 502c1251217a0130… (all of the seat's roots in one cut). By AI agents, Wed Nov 11 2026. No macro, syntax, notation, axiom, sorry.
-/
import Derived.Test.YtogmjgccopmplaaGreatChecked
import GoSem.Claim
import GoSem.ClaimJoined
import GoSem.ClaimMapViews
import Derived.JoinedTies
import Derived.KernelRfl
namespace Go.Proofs.YtogmjgccopmplaaGreat
/- THE CELL 'sum', in the pinned program and in every row, IS THE sha256 OF THE DUMP (.gsa) THAT YtogmjgccopmplaaGreatProg.lean LOADS. Nothing in Lean hashes anything: it is a label: what it is worth is what the hold of that sum in a sandbox is worth. -/
noncomputable def Tryz.pinned : Pinned := { name := "ytogmjgccopmplaagreat", sum := "502c1251217a01301f85e7c4d00460da259cb770eaa120aaf88c941fcbf196e3", checked := Tryz.checked }
namespace Rows
def none {H : Type} : Left H := { results := [], args := [] }

/-- 'chiasmuslaw04.CheckForms': WHATEVER THE INPUT: true; the input reads as it did. -/
def checkFormsSpec : ChangeSpec := { name := "checkForms", fn := fun _ => fun
  | [d] => { results := [.lit (.bool true)], args := [d] }
  | _ => none }
def checkFormsRow : OpenClaim := { program := "ytogmjgccopmplaagreat", sum := "502c1251217a01301f85e7c4d00460da259cb770eaa120aaf88c941fcbf196e3", func := "chiasmus/chiasmuslaw04.CheckForms", spec := "checkForms", unfollowed := true, recurses := true, loops := true, apart := false }
def CheckFormsSaid : Prop := checkFormsRow.holds Tryz.pinned (OpenSpec.ofChange checkFormsSpec)

/-- ITS FALSE NEIGHBOUR: 'it returns false'. Refute it at one input. -/
def checkFormsWrong : ChangeSpec := { name := "checkForms", fn := fun _ => fun
  | [d] => { results := [.lit (.bool false)], args := [d] }
  | _ => none }
def CheckFormsWrongFalsely : Prop := checkFormsRow.holds Tryz.pinned (OpenSpec.ofChange checkFormsWrong)

/-- 'chiasmuslaw04.CheckTypes': WHATEVER THE INPUT: true; the input reads as it did. -/
def checkTypesSpec : ChangeSpec := { name := "checkTypes", fn := fun _ => fun
  | [d1, d2, d3, d4] => { results := [.lit (.bool true)], args := [d1, d2, d3, d4] }
  | _ => none }
def checkTypesRow : OpenClaim := { program := "ytogmjgccopmplaagreat", sum := "502c1251217a01301f85e7c4d00460da259cb770eaa120aaf88c941fcbf196e3", func := "chiasmus/chiasmuslaw04.CheckTypes", spec := "checkTypes", unfollowed := true, recurses := true, loops := true, apart := false }
def CheckTypesSaid : Prop := checkTypesRow.holds Tryz.pinned (OpenSpec.ofChange checkTypesSpec)

/-- ITS FALSE NEIGHBOUR: 'it returns false'. Refute it at one input. -/
def checkTypesWrong : ChangeSpec := { name := "checkTypes", fn := fun _ => fun
  | [d1, d2, d3, d4] => { results := [.lit (.bool false)], args := [d1, d2, d3, d4] }
  | _ => none }
def CheckTypesWrongFalsely : Prop := checkTypesRow.holds Tryz.pinned (OpenSpec.ofChange checkTypesWrong)

/-- 'chiasmuslaw04.CheckOne': WHATEVER THE INPUT: true; the input reads as it did. -/
def checkOneSpec : ChangeSpec := { name := "checkOne", fn := fun _ => fun
  | [d1, d2, d3, d4, d5] => { results := [.lit (.bool true)], args := [d1, d2, d3, d4, d5] }
  | _ => none }
def checkOneRow : OpenClaim := { program := "ytogmjgccopmplaagreat", sum := "502c1251217a01301f85e7c4d00460da259cb770eaa120aaf88c941fcbf196e3", func := "chiasmus/chiasmuslaw04.CheckOne", spec := "checkOne", unfollowed := true, recurses := true, loops := true, apart := false }
def CheckOneSaid : Prop := checkOneRow.holds Tryz.pinned (OpenSpec.ofChange checkOneSpec)

/-- ITS FALSE NEIGHBOUR: 'it returns false'. Refute it at one input. -/
def checkOneWrong : ChangeSpec := { name := "checkOne", fn := fun _ => fun
  | [d1, d2, d3, d4, d5] => { results := [.lit (.bool false)], args := [d1, d2, d3, d4, d5] }
  | _ => none }
def CheckOneWrongFalsely : Prop := checkOneRow.holds Tryz.pinned (OpenSpec.ofChange checkOneWrong)

/-- 'chiasmuslaw04.CheckOwn': WHATEVER THE INPUT: true; the input reads as it did. -/
def checkOwnSpec : ChangeSpec := { name := "checkOwn", fn := fun _ => fun
  | [d1, d2, d3, d4] => { results := [.lit (.bool true)], args := [d1, d2, d3, d4] }
  | _ => none }
def checkOwnRow : OpenClaim := { program := "ytogmjgccopmplaagreat", sum := "502c1251217a01301f85e7c4d00460da259cb770eaa120aaf88c941fcbf196e3", func := "chiasmus/chiasmuslaw04.CheckOwn", spec := "checkOwn", unfollowed := true, recurses := true, loops := true, apart := false }
def CheckOwnSaid : Prop := checkOwnRow.holds Tryz.pinned (OpenSpec.ofChange checkOwnSpec)

/-- ITS FALSE NEIGHBOUR: 'it returns false'. Refute it at one input. -/
def checkOwnWrong : ChangeSpec := { name := "checkOwn", fn := fun _ => fun
  | [d1, d2, d3, d4] => { results := [.lit (.bool false)], args := [d1, d2, d3, d4] }
  | _ => none }
def CheckOwnWrongFalsely : Prop := checkOwnRow.holds Tryz.pinned (OpenSpec.ofChange checkOwnWrong)

/- THE SECOND FORM. 'bulk': how many values and letters a reading holds, each counted each time it is reached (what is shared counts as often as it is met; a slice's spare places count too). A statement '..UptoSaid' is the law's where the arguments, and the package variables that the reading takes, are together of bulk at most 1048576: NARROWER than '..Said'. Prove '..Said' where nothing that the law and all that it calls make is longer than what came in: it says more and counts as full. Else prove '..UptoSaid'. A law counts once. -/
mutual
def uptoBulk {H : Type} : DataW H → Nat
  | .lit (.string bytes) => bytes.length + 1
  | .lit _ => 1
  | .nil => 1
  | .ptr d => uptoBulk d + 1
  | .slice elems spare => uptoBulkAll elems + uptoBulkAll spare + 1
  | .agg parts => uptoBulkAll parts + 1
  | .iface _ d => uptoBulk d + 1
  | .map entries => uptoBulkEntries entries + 1
  | .held _ => 1
def uptoBulkAll {H : Type} : List (DataW H) → Nat
  | [] => 0
  | d :: r => uptoBulk d + uptoBulkAll r
def uptoBulkEntries {H : Type} : List (Lit × DataW H) → Nat
  | [] => 0
  | x :: r => uptoBulkEntry x + uptoBulkEntries r
def uptoBulkEntry {H : Type} : Lit × DataW H → Nat
  | (.string bytes, d) => bytes.length + uptoBulk d + 1
  | (_, d) => uptoBulk d + 1
 end
def uptoSmall : (H : Type) → List (DataW H) → Bool := fun _ ds => decide (uptoBulkAll ds ≤ 1048576)
def OpenSpec.upto (s : _root_.Go.ChangeSpec) : _root_.Go.OpenSpec := { _root_.Go.OpenSpec.ofChange s with cond := some uptoSmall }

/-- 'chiasmuslaw04.CheckForms', WHERE WHAT IT READS IS OF BULK AT MOST 1048576: true; the input reads as it did. -/
def checkFormsUptoRow : OpenClaim := { program := "ytogmjgccopmplaagreat", sum := "502c1251217a01301f85e7c4d00460da259cb770eaa120aaf88c941fcbf196e3", func := "chiasmus/chiasmuslaw04.CheckForms", spec := "checkForms", unfollowed := true, recurses := true, loops := true, apart := false, narrowed := true }
def CheckFormsUptoSaid : Prop := checkFormsUptoRow.holds Tryz.pinned (OpenSpec.upto checkFormsSpec)

/-- 'chiasmuslaw04.CheckTypes', WHERE WHAT IT READS IS OF BULK AT MOST 1048576: true; the input reads as it did. -/
def checkTypesUptoRow : OpenClaim := { program := "ytogmjgccopmplaagreat", sum := "502c1251217a01301f85e7c4d00460da259cb770eaa120aaf88c941fcbf196e3", func := "chiasmus/chiasmuslaw04.CheckTypes", spec := "checkTypes", unfollowed := true, recurses := true, loops := true, apart := false, narrowed := true }
def CheckTypesUptoSaid : Prop := checkTypesUptoRow.holds Tryz.pinned (OpenSpec.upto checkTypesSpec)

/-- 'chiasmuslaw04.CheckOne', WHERE WHAT IT READS IS OF BULK AT MOST 1048576: true; the input reads as it did. -/
def checkOneUptoRow : OpenClaim := { program := "ytogmjgccopmplaagreat", sum := "502c1251217a01301f85e7c4d00460da259cb770eaa120aaf88c941fcbf196e3", func := "chiasmus/chiasmuslaw04.CheckOne", spec := "checkOne", unfollowed := true, recurses := true, loops := true, apart := false, narrowed := true }
def CheckOneUptoSaid : Prop := checkOneUptoRow.holds Tryz.pinned (OpenSpec.upto checkOneSpec)

/-- 'chiasmuslaw04.CheckOwn', WHERE WHAT IT READS IS OF BULK AT MOST 1048576: true; the input reads as it did. -/
def checkOwnUptoRow : OpenClaim := { program := "ytogmjgccopmplaagreat", sum := "502c1251217a01301f85e7c4d00460da259cb770eaa120aaf88c941fcbf196e3", func := "chiasmus/chiasmuslaw04.CheckOwn", spec := "checkOwn", unfollowed := true, recurses := true, loops := true, apart := false, narrowed := true }
def CheckOwnUptoSaid : Prop := checkOwnUptoRow.holds Tryz.pinned (OpenSpec.upto checkOwnSpec)

end Rows
end Go.Proofs.YtogmjgccopmplaaGreat
