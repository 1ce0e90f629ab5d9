/-
  NARROWER THAN 'FOR EVERY INPUT', by the rows' own cells (each row's printed sentence says how): KindForms: loops, laid · KindTypes: loops, laid · KindSubst: loops, laid.
  DERIVED. THE GIVEN ROWS OF THIS SEAT. 3 by the template 'for every input the law returns true; each argument reads behind the call as it read before'; 0 by the template 'total and deterministic' (their statements: YtkdhhcidpklgoaaGreatDoorTotals.lean).
  GIVEN WITH THE SEED: the statements are not yours to turn. If you find one false, say at which input.
  Laid BY PROGRAM, IN A SANDBOX (cutbox-rows.mjs): the forced cells as the released guide's own fill.sh prints them over the translation f5026b81b875afa2… (all of the seat's roots in one cut). By AI agents, Wed Nov 11 2026. No macro, syntax, notation, axiom, sorry.
-/
import Derived.Test.YtkdhhcidpklgoaaGreatDoorChecked
import GoSem.Claim
import GoSem.ClaimJoined
import GoSem.ClaimMapViews
import Derived.JoinedTies
import Derived.KernelRfl
namespace Go.Proofs.YtkdhhcidpklgoaaGreatDoor
/- THE CELL 'sum', in the pinned program and in every row, IS THE sha256 OF THE DUMP (.gsa) THAT YtkdhhcidpklgoaaGreatDoorProg.lean LOADS. Nothing in Lean hashes anything: it is a label: what it is worth is what the hold of that sum in a sandbox is worth. -/
noncomputable def Tryz.pinned : Pinned := { name := "ytkdhhcidpklgoaagreatdoor", sum := "f5026b81b875afa255fb3ede6a5f33deca9b6df1ed7d196d59f3bdc92ba27833", checked := Tryz.checked }
namespace Rows
def none {H : Type} : Left H := { results := [], args := [] }

/- WHAT THE LISTED PACKAGE-LEVEL VARIABLES READ AS WHEN THE CALL BEGINS. Each datum BY PROGRAM (the guide's laid-datum.mjs) off the statement by which the dump's own 'gosem.cut.vars' lays the variable. In a bare row this is a premise. The card (YtkdhhcidpklgoaaGreatDoorCards.lean) ties it to the program's text. -/
def laid_chiasmus_prim_signs {H : Type} : DataW H := .agg [.lit (.string [43]), .lit (.string [45]), .lit (.string [42]), .lit (.string [47]), .lit (.string [37]), .lit (.string [61, 61]), .lit (.string [60])]
def laid_chiasmus_node_shapes {H : Type} : DataW H := .agg [.agg [.lit (.int .i64 0), .lit (.bool true), .lit (.bool false), .lit (.bool false), .nil], .agg [.lit (.int .i64 0), .lit (.bool true), .lit (.bool false), .lit (.bool false), .nil], .agg [.lit (.int .i64 0), .lit (.bool true), .lit (.bool true), .lit (.bool false), .nil], .agg [.lit (.int .i64 0), .lit (.bool true), .lit (.bool true), .lit (.bool false), .slice [.lit (.int .i64 2)] []], .agg [.lit (.int .i64 0), .lit (.bool false), .lit (.bool true), .lit (.bool true), .nil], .agg [.lit (.int .i64 1), .lit (.bool true), .lit (.bool false), .lit (.bool false), .nil], .agg [.lit (.int .i64 1), .lit (.bool true), .lit (.bool true), .lit (.bool false), .nil], .agg [.lit (.int .i64 1), .lit (.bool true), .lit (.bool true), .lit (.bool false), .slice [.lit (.int .i64 2)] []], .agg [.lit (.int .i64 1), .lit (.bool false), .lit (.bool true), .lit (.bool true), .nil], .agg [.lit (.int .i64 2), .lit (.bool false), .lit (.bool true), .lit (.bool false), .slice [.lit (.int .i64 0), .lit (.int .i64 1)] []], .agg [.lit (.int .i64 2), .lit (.bool true), .lit (.bool false), .lit (.bool false), .slice [.lit (.int .i64 0), .lit (.int .i64 0), .lit (.int .i64 1)] []], .agg [.lit (.int .i64 2), .lit (.bool false), .lit (.bool false), .lit (.bool false), .slice [.lit (.int .i64 0), .lit (.int .i64 2), .lit (.int .i64 2)] []], .agg [.lit (.int .i64 2), .lit (.bool false), .lit (.bool false), .lit (.bool false), .slice [.lit (.int .i64 0), .lit (.int .i64 2)] []], .agg [.lit (.int .i64 2), .lit (.bool true), .lit (.bool false), .lit (.bool false), .nil], .agg [.lit (.int .i64 2), .lit (.bool false), .lit (.bool false), .lit (.bool false), .slice [.lit (.int .i64 0)] []]]
def laid_chiasmus_kind_rules {H : Type} : DataW H := .agg [.agg [.lit (.int .i64 2), .lit (.int .i64 0)], .agg [.lit (.int .i64 0), .lit (.int .i64 0)], .agg [.lit (.int .i64 1), .lit (.int .i64 3)], .agg [.lit (.int .i64 1), .lit (.int .i64 0)], .agg [.lit (.int .i64 1), .lit (.int .i64 0)], .agg [.lit (.int .i64 2), .lit (.int .i64 0)], .agg [.lit (.int .i64 1), .lit (.int .i64 3)], .agg [.lit (.int .i64 1), .lit (.int .i64 0)], .agg [.lit (.int .i64 1), .lit (.int .i64 0)], .agg [.lit (.int .i64 0), .lit (.int .i64 1)], .agg [.lit (.int .i64 0), .lit (.int .i64 0)], .agg [.lit (.int .i64 0), .lit (.int .i64 0)], .agg [.lit (.int .i64 0), .lit (.int .i64 0)], .agg [.lit (.int .i64 0), .lit (.int .i64 3)], .agg [.lit (.int .i64 0), .lit (.int .i64 0)]]

/-- 'chiasmuslaw07.KindForms': WHATEVER THE INPUT: true; the input reads as it did. -/
def kindFormsSpec : ChangeSpec := { name := "kindForms", fn := fun _ => fun
  | [d] => { results := [.lit (.bool true)], args := [d] }
  | _ => none }
def kindFormsRow : OpenClaim := { program := "ytkdhhcidpklgoaagreatdoor", sum := "f5026b81b875afa255fb3ede6a5f33deca9b6df1ed7d196d59f3bdc92ba27833", func := "chiasmus/chiasmuslaw07.KindForms", spec := "kindForms", unfollowed := true, recurses := true, named := ["chiasmus/node.shapes", "chiasmus/prim.signs", "chiasmus/kind.rules"], loops := true, plainKeys := false, apart := false, laid := [("chiasmus/prim.signs", laid_chiasmus_prim_signs), ("chiasmus/node.shapes", laid_chiasmus_node_shapes), ("chiasmus/kind.rules", laid_chiasmus_kind_rules)] }
def KindFormsSaid : Prop := kindFormsRow.holds Tryz.pinned (OpenSpec.ofChange kindFormsSpec)

/-- ITS FALSE NEIGHBOUR: 'it returns false'. Refute it at one input. -/
def kindFormsWrong : ChangeSpec := { name := "kindForms", fn := fun _ => fun
  | [d] => { results := [.lit (.bool false)], args := [d] }
  | _ => none }
def KindFormsWrongFalsely : Prop := kindFormsRow.holds Tryz.pinned (OpenSpec.ofChange kindFormsWrong)

/-- 'chiasmuslaw07.KindTypes': WHATEVER THE INPUT: true; the input reads as it did. -/
def kindTypesSpec : ChangeSpec := { name := "kindTypes", fn := fun _ => fun
  | [d1, d2, d3, d4, d5] => { results := [.lit (.bool true)], args := [d1, d2, d3, d4, d5] }
  | _ => none }
def kindTypesRow : OpenClaim := { program := "ytkdhhcidpklgoaagreatdoor", sum := "f5026b81b875afa255fb3ede6a5f33deca9b6df1ed7d196d59f3bdc92ba27833", func := "chiasmus/chiasmuslaw07.KindTypes", spec := "kindTypes", unfollowed := true, recurses := true, named := ["chiasmus/node.shapes", "chiasmus/prim.signs", "chiasmus/kind.rules"], loops := true, plainKeys := false, apart := false, laid := [("chiasmus/prim.signs", laid_chiasmus_prim_signs), ("chiasmus/node.shapes", laid_chiasmus_node_shapes), ("chiasmus/kind.rules", laid_chiasmus_kind_rules)] }
def KindTypesSaid : Prop := kindTypesRow.holds Tryz.pinned (OpenSpec.ofChange kindTypesSpec)

/-- ITS FALSE NEIGHBOUR: 'it returns false'. Refute it at one input. -/
def kindTypesWrong : ChangeSpec := { name := "kindTypes", fn := fun _ => fun
  | [d1, d2, d3, d4, d5] => { results := [.lit (.bool false)], args := [d1, d2, d3, d4, d5] }
  | _ => none }
def KindTypesWrongFalsely : Prop := kindTypesRow.holds Tryz.pinned (OpenSpec.ofChange kindTypesWrong)

/-- 'chiasmuslaw07.KindSubst': WHATEVER THE INPUT: true; the input reads as it did. -/
def kindSubstSpec : ChangeSpec := { name := "kindSubst", fn := fun _ => fun
  | [d1, d2, d3, d4, d5, d6, d7] => { results := [.lit (.bool true)], args := [d1, d2, d3, d4, d5, d6, d7] }
  | _ => none }
def kindSubstRow : OpenClaim := { program := "ytkdhhcidpklgoaagreatdoor", sum := "f5026b81b875afa255fb3ede6a5f33deca9b6df1ed7d196d59f3bdc92ba27833", func := "chiasmus/chiasmuslaw07.KindSubst", spec := "kindSubst", unfollowed := true, recurses := true, named := ["chiasmus/node.shapes", "chiasmus/prim.signs", "chiasmus/kind.rules"], loops := true, plainKeys := false, apart := false, laid := [("chiasmus/prim.signs", laid_chiasmus_prim_signs), ("chiasmus/node.shapes", laid_chiasmus_node_shapes), ("chiasmus/kind.rules", laid_chiasmus_kind_rules)] }
def KindSubstSaid : Prop := kindSubstRow.holds Tryz.pinned (OpenSpec.ofChange kindSubstSpec)

/-- ITS FALSE NEIGHBOUR: 'it returns false'. Refute it at one input. -/
def kindSubstWrong : ChangeSpec := { name := "kindSubst", fn := fun _ => fun
  | [d1, d2, d3, d4, d5, d6, d7] => { results := [.lit (.bool false)], args := [d1, d2, d3, d4, d5, d6, d7] }
  | _ => none }
def KindSubstWrongFalsely : Prop := kindSubstRow.holds Tryz.pinned (OpenSpec.ofChange kindSubstWrong)

/- THE SECOND FORM. 'bulk': how many values and letters a reading holds, each counted each time it is reached (what is shared counts as often as it is met; a slice's spare places count too). A statement '..UptoSaid' is the law's where the arguments, and the package variables that the reading takes, are together of bulk at most 1048576: NARROWER than '..Said'. Prove '..Said' where nothing that the law and all that it calls make is longer than what came in: it says more and counts as full. Else prove '..UptoSaid'. A law counts once. -/
mutual
def uptoBulk {H : Type} : DataW H → Nat
  | .lit (.string bytes) => bytes.length + 1
  | .lit _ => 1
  | .nil => 1
  | .ptr d => uptoBulk d + 1
  | .slice elems spare => uptoBulkAll elems + uptoBulkAll spare + 1
  | .agg parts => uptoBulkAll parts + 1
  | .iface _ d => uptoBulk d + 1
  | .map entries => uptoBulkEntries entries + 1
  | .held _ => 1
def uptoBulkAll {H : Type} : List (DataW H) → Nat
  | [] => 0
  | d :: r => uptoBulk d + uptoBulkAll r
def uptoBulkEntries {H : Type} : List (Lit × DataW H) → Nat
  | [] => 0
  | x :: r => uptoBulkEntry x + uptoBulkEntries r
def uptoBulkEntry {H : Type} : Lit × DataW H → Nat
  | (.string bytes, d) => bytes.length + uptoBulk d + 1
  | (_, d) => uptoBulk d + 1
 end
def uptoSmall : (H : Type) → List (DataW H) → Bool := fun _ ds => decide (uptoBulkAll ds ≤ 1048576)
def OpenSpec.upto (s : _root_.Go.ChangeSpec) : _root_.Go.OpenSpec := { _root_.Go.OpenSpec.ofChange s with cond := some uptoSmall }

/-- 'chiasmuslaw07.KindForms', WHERE WHAT IT READS IS OF BULK AT MOST 1048576: true; the input reads as it did. -/
def kindFormsUptoRow : OpenClaim := { program := "ytkdhhcidpklgoaagreatdoor", sum := "f5026b81b875afa255fb3ede6a5f33deca9b6df1ed7d196d59f3bdc92ba27833", func := "chiasmus/chiasmuslaw07.KindForms", spec := "kindForms", unfollowed := true, recurses := true, named := ["chiasmus/node.shapes", "chiasmus/prim.signs", "chiasmus/kind.rules"], loops := true, plainKeys := false, apart := false, laid := [("chiasmus/prim.signs", laid_chiasmus_prim_signs), ("chiasmus/node.shapes", laid_chiasmus_node_shapes), ("chiasmus/kind.rules", laid_chiasmus_kind_rules)], narrowed := true }
def KindFormsUptoSaid : Prop := kindFormsUptoRow.holds Tryz.pinned (OpenSpec.upto kindFormsSpec)

/-- 'chiasmuslaw07.KindTypes', WHERE WHAT IT READS IS OF BULK AT MOST 1048576: true; the input reads as it did. -/
def kindTypesUptoRow : OpenClaim := { program := "ytkdhhcidpklgoaagreatdoor", sum := "f5026b81b875afa255fb3ede6a5f33deca9b6df1ed7d196d59f3bdc92ba27833", func := "chiasmus/chiasmuslaw07.KindTypes", spec := "kindTypes", unfollowed := true, recurses := true, named := ["chiasmus/node.shapes", "chiasmus/prim.signs", "chiasmus/kind.rules"], loops := true, plainKeys := false, apart := false, laid := [("chiasmus/prim.signs", laid_chiasmus_prim_signs), ("chiasmus/node.shapes", laid_chiasmus_node_shapes), ("chiasmus/kind.rules", laid_chiasmus_kind_rules)], narrowed := true }
def KindTypesUptoSaid : Prop := kindTypesUptoRow.holds Tryz.pinned (OpenSpec.upto kindTypesSpec)

/-- 'chiasmuslaw07.KindSubst', WHERE WHAT IT READS IS OF BULK AT MOST 1048576: true; the input reads as it did. -/
def kindSubstUptoRow : OpenClaim := { program := "ytkdhhcidpklgoaagreatdoor", sum := "f5026b81b875afa255fb3ede6a5f33deca9b6df1ed7d196d59f3bdc92ba27833", func := "chiasmus/chiasmuslaw07.KindSubst", spec := "kindSubst", unfollowed := true, recurses := true, named := ["chiasmus/node.shapes", "chiasmus/prim.signs", "chiasmus/kind.rules"], loops := true, plainKeys := false, apart := false, laid := [("chiasmus/prim.signs", laid_chiasmus_prim_signs), ("chiasmus/node.shapes", laid_chiasmus_node_shapes), ("chiasmus/kind.rules", laid_chiasmus_kind_rules)], narrowed := true }
def KindSubstUptoSaid : Prop := kindSubstUptoRow.holds Tryz.pinned (OpenSpec.upto kindSubstSpec)

end Rows
end Go.Proofs.YtkdhhcidpklgoaaGreatDoor
