/-
  No cell of these rows narrows 'for every input' (looked for: loops, veiled, ifaces, maps, wideKeys, modest, calm, conditions, laid).
  DERIVED. THE GIVEN ROWS OF THIS SEAT. 5 by the template 'for every input the law returns true; each argument reads behind the call as it read before'; 0 by the template 'total and deterministic' (their statements: YtoopngnmdgcklaaTotals.lean).
  GIVEN WITH THE SEED: the statements are not yours to turn. If you find one false, say at which input.
  Laid BY PROGRAM, IN A SANDBOX (cutbox-rows.mjs): the forced cells as the released guide's own fill.sh prints them over the translation 80918e7af5b73b70… (all of the seat's roots in one cut). By AI agents, Wed Nov 11 2026. No macro, syntax, notation, axiom, sorry.
-/
import Derived.Test.YtoopngnmdgcklaaChecked
import GoSem.Claim
import GoSem.ClaimJoined
import GoSem.ClaimMapViews
import Derived.JoinedTies
import Derived.KernelRfl
namespace Go.Proofs.Ytoopngnmdgcklaa
/- THE CELL 'sum', in the pinned program and in every row, IS THE sha256 OF THE DUMP (.gsa) THAT YtoopngnmdgcklaaProg.lean LOADS. Nothing in Lean hashes anything: it is a label: what it is worth is what the hold of that sum in a sandbox is worth. -/
noncomputable def Try.pinned : Pinned := { name := "ytoopngnmdgcklaa", sum := "80918e7af5b73b7081b4846d4205af19fa4bb1eda91b40a722766ae0bfafa28b", checked := Try.checked }
namespace Rows
def none {H : Type} : Left H := { results := [], args := [] }

/-- 'chiasmuslaw01.DeclForms': WHATEVER THE INPUT: true; the input reads as it did. -/
def declFormsSpec : ChangeSpec := { name := "declForms", fn := fun _ => fun
  | [d] => { results := [.lit (.bool true)], args := [d] }
  | _ => none }
def declFormsRow : OpenClaim := { program := "ytoopngnmdgcklaa", sum := "80918e7af5b73b7081b4846d4205af19fa4bb1eda91b40a722766ae0bfafa28b", func := "chiasmus/chiasmuslaw01.DeclForms", spec := "declForms", inPlace := ["internal/abi.NoEscape"], unfollowed := true, recurses := true, apart := false }
def DeclFormsSaid : Prop := declFormsRow.holds Try.pinned (OpenSpec.ofChange declFormsSpec)

/-- ITS FALSE NEIGHBOUR: 'it returns false'. Refute it at one input. -/
def declFormsWrong : ChangeSpec := { name := "declForms", fn := fun _ => fun
  | [d] => { results := [.lit (.bool false)], args := [d] }
  | _ => none }
def DeclFormsWrongFalsely : Prop := declFormsRow.holds Try.pinned (OpenSpec.ofChange declFormsWrong)

/-- 'chiasmuslaw01.DeclTypes': WHATEVER THE INPUT: true; the input reads as it did. -/
def declTypesSpec : ChangeSpec := { name := "declTypes", fn := fun _ => fun
  | [d1, d2, d3] => { results := [.lit (.bool true)], args := [d1, d2, d3] }
  | _ => none }
def declTypesRow : OpenClaim := { program := "ytoopngnmdgcklaa", sum := "80918e7af5b73b7081b4846d4205af19fa4bb1eda91b40a722766ae0bfafa28b", func := "chiasmus/chiasmuslaw01.DeclTypes", spec := "declTypes", inPlace := ["internal/abi.NoEscape"], unfollowed := true, recurses := true, apart := false }
def DeclTypesSaid : Prop := declTypesRow.holds Try.pinned (OpenSpec.ofChange declTypesSpec)

/-- ITS FALSE NEIGHBOUR: 'it returns false'. Refute it at one input. -/
def declTypesWrong : ChangeSpec := { name := "declTypes", fn := fun _ => fun
  | [d1, d2, d3] => { results := [.lit (.bool false)], args := [d1, d2, d3] }
  | _ => none }
def DeclTypesWrongFalsely : Prop := declTypesRow.holds Try.pinned (OpenSpec.ofChange declTypesWrong)

/-- 'chiasmuslaw01.DeclFinds': WHATEVER THE INPUT: true; the input reads as it did. -/
def declFindsSpec : ChangeSpec := { name := "declFinds", fn := fun _ => fun
  | [d1, d2] => { results := [.lit (.bool true)], args := [d1, d2] }
  | _ => none }
def declFindsRow : OpenClaim := { program := "ytoopngnmdgcklaa", sum := "80918e7af5b73b7081b4846d4205af19fa4bb1eda91b40a722766ae0bfafa28b", func := "chiasmus/chiasmuslaw01.DeclFinds", spec := "declFinds", inPlace := ["internal/abi.NoEscape"], unfollowed := true, recurses := true, apart := false }
def DeclFindsSaid : Prop := declFindsRow.holds Try.pinned (OpenSpec.ofChange declFindsSpec)

/-- ITS FALSE NEIGHBOUR: 'it returns false'. Refute it at one input. -/
def declFindsWrong : ChangeSpec := { name := "declFinds", fn := fun _ => fun
  | [d1, d2] => { results := [.lit (.bool false)], args := [d1, d2] }
  | _ => none }
def DeclFindsWrongFalsely : Prop := declFindsRow.holds Try.pinned (OpenSpec.ofChange declFindsWrong)

/-- 'chiasmuslaw01.DeclMore': WHATEVER THE INPUT: true; the input reads as it did. -/
def declMoreSpec : ChangeSpec := { name := "declMore", fn := fun _ => fun
  | [d1, d2] => { results := [.lit (.bool true)], args := [d1, d2] }
  | _ => none }
def declMoreRow : OpenClaim := { program := "ytoopngnmdgcklaa", sum := "80918e7af5b73b7081b4846d4205af19fa4bb1eda91b40a722766ae0bfafa28b", func := "chiasmus/chiasmuslaw01.DeclMore", spec := "declMore", inPlace := ["internal/abi.NoEscape"], unfollowed := true, recurses := true, apart := false }
def DeclMoreSaid : Prop := declMoreRow.holds Try.pinned (OpenSpec.ofChange declMoreSpec)

/-- ITS FALSE NEIGHBOUR: 'it returns false'. Refute it at one input. -/
def declMoreWrong : ChangeSpec := { name := "declMore", fn := fun _ => fun
  | [d1, d2] => { results := [.lit (.bool false)], args := [d1, d2] }
  | _ => none }
def DeclMoreWrongFalsely : Prop := declMoreRow.holds Try.pinned (OpenSpec.ofChange declMoreWrong)

/-- 'chiasmuslaw01.DeclOwn': WHATEVER THE INPUT: true; the input reads as it did. -/
def declOwnSpec : ChangeSpec := { name := "declOwn", fn := fun _ => fun
  | [d1, d2, d3, d4] => { results := [.lit (.bool true)], args := [d1, d2, d3, d4] }
  | _ => none }
def declOwnRow : OpenClaim := { program := "ytoopngnmdgcklaa", sum := "80918e7af5b73b7081b4846d4205af19fa4bb1eda91b40a722766ae0bfafa28b", func := "chiasmus/chiasmuslaw01.DeclOwn", spec := "declOwn", inPlace := ["internal/abi.NoEscape"], unfollowed := true, recurses := true, apart := false }
def DeclOwnSaid : Prop := declOwnRow.holds Try.pinned (OpenSpec.ofChange declOwnSpec)

/-- ITS FALSE NEIGHBOUR: 'it returns false'. Refute it at one input. -/
def declOwnWrong : ChangeSpec := { name := "declOwn", fn := fun _ => fun
  | [d1, d2, d3, d4] => { results := [.lit (.bool false)], args := [d1, d2, d3, d4] }
  | _ => none }
def DeclOwnWrongFalsely : Prop := declOwnRow.holds Try.pinned (OpenSpec.ofChange declOwnWrong)

/- THE SECOND FORM. 'bulk': how many values and letters a reading holds, each counted each time it is reached (what is shared counts as often as it is met; a slice's spare places count too). A statement '..UptoSaid' is the law's where the arguments, and the package variables that the reading takes, are together of bulk at most 1048576: NARROWER than '..Said'. Prove '..Said' where nothing that the law and all that it calls make is longer than what came in: it says more and counts as full. Else prove '..UptoSaid'. A law counts once. -/
mutual
def uptoBulk {H : Type} : DataW H → Nat
  | .lit (.string bytes) => bytes.length + 1
  | .lit _ => 1
  | .nil => 1
  | .ptr d => uptoBulk d + 1
  | .slice elems spare => uptoBulkAll elems + uptoBulkAll spare + 1
  | .agg parts => uptoBulkAll parts + 1
  | .iface _ d => uptoBulk d + 1
  | .map entries => uptoBulkEntries entries + 1
  | .held _ => 1
def uptoBulkAll {H : Type} : List (DataW H) → Nat
  | [] => 0
  | d :: r => uptoBulk d + uptoBulkAll r
def uptoBulkEntries {H : Type} : List (Lit × DataW H) → Nat
  | [] => 0
  | x :: r => uptoBulkEntry x + uptoBulkEntries r
def uptoBulkEntry {H : Type} : Lit × DataW H → Nat
  | (.string bytes, d) => bytes.length + uptoBulk d + 1
  | (_, d) => uptoBulk d + 1
 end
def uptoSmall : (H : Type) → List (DataW H) → Bool := fun _ ds => decide (uptoBulkAll ds ≤ 1048576)
def OpenSpec.upto (s : _root_.Go.ChangeSpec) : _root_.Go.OpenSpec := { _root_.Go.OpenSpec.ofChange s with cond := some uptoSmall }

/-- 'chiasmuslaw01.DeclForms', WHERE WHAT IT READS IS OF BULK AT MOST 1048576: true; the input reads as it did. -/
def declFormsUptoRow : OpenClaim := { program := "ytoopngnmdgcklaa", sum := "80918e7af5b73b7081b4846d4205af19fa4bb1eda91b40a722766ae0bfafa28b", func := "chiasmus/chiasmuslaw01.DeclForms", spec := "declForms", inPlace := ["internal/abi.NoEscape"], unfollowed := true, recurses := true, apart := false, narrowed := true }
def DeclFormsUptoSaid : Prop := declFormsUptoRow.holds Try.pinned (OpenSpec.upto declFormsSpec)

/-- 'chiasmuslaw01.DeclTypes', WHERE WHAT IT READS IS OF BULK AT MOST 1048576: true; the input reads as it did. -/
def declTypesUptoRow : OpenClaim := { program := "ytoopngnmdgcklaa", sum := "80918e7af5b73b7081b4846d4205af19fa4bb1eda91b40a722766ae0bfafa28b", func := "chiasmus/chiasmuslaw01.DeclTypes", spec := "declTypes", inPlace := ["internal/abi.NoEscape"], unfollowed := true, recurses := true, apart := false, narrowed := true }
def DeclTypesUptoSaid : Prop := declTypesUptoRow.holds Try.pinned (OpenSpec.upto declTypesSpec)

/-- 'chiasmuslaw01.DeclFinds', WHERE WHAT IT READS IS OF BULK AT MOST 1048576: true; the input reads as it did. -/
def declFindsUptoRow : OpenClaim := { program := "ytoopngnmdgcklaa", sum := "80918e7af5b73b7081b4846d4205af19fa4bb1eda91b40a722766ae0bfafa28b", func := "chiasmus/chiasmuslaw01.DeclFinds", spec := "declFinds", inPlace := ["internal/abi.NoEscape"], unfollowed := true, recurses := true, apart := false, narrowed := true }
def DeclFindsUptoSaid : Prop := declFindsUptoRow.holds Try.pinned (OpenSpec.upto declFindsSpec)

/-- 'chiasmuslaw01.DeclMore', WHERE WHAT IT READS IS OF BULK AT MOST 1048576: true; the input reads as it did. -/
def declMoreUptoRow : OpenClaim := { program := "ytoopngnmdgcklaa", sum := "80918e7af5b73b7081b4846d4205af19fa4bb1eda91b40a722766ae0bfafa28b", func := "chiasmus/chiasmuslaw01.DeclMore", spec := "declMore", inPlace := ["internal/abi.NoEscape"], unfollowed := true, recurses := true, apart := false, narrowed := true }
def DeclMoreUptoSaid : Prop := declMoreUptoRow.holds Try.pinned (OpenSpec.upto declMoreSpec)

/-- 'chiasmuslaw01.DeclOwn', WHERE WHAT IT READS IS OF BULK AT MOST 1048576: true; the input reads as it did. -/
def declOwnUptoRow : OpenClaim := { program := "ytoopngnmdgcklaa", sum := "80918e7af5b73b7081b4846d4205af19fa4bb1eda91b40a722766ae0bfafa28b", func := "chiasmus/chiasmuslaw01.DeclOwn", spec := "declOwn", inPlace := ["internal/abi.NoEscape"], unfollowed := true, recurses := true, apart := false, narrowed := true }
def DeclOwnUptoSaid : Prop := declOwnUptoRow.holds Try.pinned (OpenSpec.upto declOwnSpec)

end Rows
end Go.Proofs.Ytoopngnmdgcklaa
