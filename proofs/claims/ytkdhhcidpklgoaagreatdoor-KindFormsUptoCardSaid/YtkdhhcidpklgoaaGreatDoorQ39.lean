/- chiasmuslaw07.KindForms returns true for every input, and its argument reads as it read before. Condition: what the argument holds, counted as the given row counts it, is at most 1048576. -/
import Derived.Test.YtkdhhcidpklgoaaGreatDoorQ38
import Derived.OpenShut
import Derived.ChangeSame
import Derived.ChangeVars
import Derived.LaidLaws
import Derived.JoinedCond
import Derived.Deep.DeepHandedRow
import Derived.Deep.DeepWitnessRowRef
import Derived.Lib.LaidTab
namespace Go.Proofs.YtkdhhcidpklgoaaGreatDoor.kindFormsDone
open Go.ChangeShapes Go.WideShapes Go.ChangeAt Go.RowKit
open Go.ChangeMaps (open_string shut_string)

theorem own : ownKnob Tryz.prog.godebug = none := by kernel_rfl
theorem laidOut : laidOutB Tryz.prog = true := by kernel_rfl
def tab0 : Array Value := #[.int .i64 2, .int .i64 0, .int .i64 0, .int .i64 0, .int .i64 1, .int .i64 3, .int .i64 1, .int .i64 0, .int .i64 1, .int .i64 0, .int .i64 2, .int .i64 0, .int .i64 1, .int .i64 3, .int .i64 1, .int .i64 0, .int .i64 1, .int .i64 0, .int .i64 0, .int .i64 1, .int .i64 0, .int .i64 0, .int .i64 0, .int .i64 0, .int .i64 0, .int .i64 0, .int .i64 0, .int .i64 3, .int .i64 0, .int .i64 0]
def tab1 : Array Value := #[.int .i64 0, .bool true, .bool false, .bool false, .slice none 0 0, .int .i64 0, .bool true, .bool false, .bool false, .slice none 0 0, .int .i64 0, .bool true, .bool true, .bool false, .slice none 0 0, .int .i64 0, .bool true, .bool true, .bool false, .slice (some ⟨8, 0, none⟩) 1 1, .int .i64 0, .bool false, .bool true, .bool true, .slice none 0 0, .int .i64 1, .bool true, .bool false, .bool false, .slice none 0 0, .int .i64 1, .bool true, .bool true, .bool false, .slice none 0 0, .int .i64 1, .bool true, .bool true, .bool false, .slice (some ⟨9, 0, none⟩) 1 1, .int .i64 1, .bool false, .bool true, .bool true, .slice none 0 0, .int .i64 2, .bool false, .bool true, .bool false, .slice (some ⟨10, 0, none⟩) 2 2, .int .i64 2, .bool true, .bool false, .bool false, .slice (some ⟨11, 0, none⟩) 3 3, .int .i64 2, .bool false, .bool false, .bool false, .slice (some ⟨12, 0, none⟩) 3 3, .int .i64 2, .bool false, .bool false, .bool false, .slice (some ⟨13, 0, none⟩) 2 2, .int .i64 2, .bool true, .bool false, .bool false, .slice none 0 0, .int .i64 2, .bool false, .bool false, .bool false, .slice (some ⟨14, 0, none⟩) 1 1]
def tab2 : Array Value := #[.string ⟨#[43]⟩, .string ⟨#[45]⟩, .string ⟨#[42]⟩, .string ⟨#[47]⟩, .string ⟨#[37]⟩, .string ⟨#[61, 61]⟩, .string ⟨#[60]⟩]
def lay (cs : Array Value) (o : Obj) : Obj := match o with
  | .cells _ t frozen => .cells cs t frozen
  | o => o
noncomputable def laidWorld (os : Os) : World :=
  { World.holding Tryz.prog os ⟨#[], #[], []⟩ with heap := ((((World.holding Tryz.prog os ⟨#[], #[], []⟩).heap.modify 0 (lay tab0)).modify 1 (lay tab1)).modify 2 (lay tab2)) ++ #[.cells #[.int .i64 2] 78 (0, 0), .cells #[.int .i64 2] 78 (0, 0), .cells #[.int .i64 0, .int .i64 1] 78 (0, 0), .cells #[.int .i64 0, .int .i64 0, .int .i64 1] 78 (0, 0), .cells #[.int .i64 0, .int .i64 2, .int .i64 2] 78 (0, 0), .cells #[.int .i64 0, .int .i64 2] 78 (0, 0), .cells #[.int .i64 0] 78 (0, 0)] }
set_option maxRecDepth 100000 in
theorem laid_met (os : Os) (args : Array Value) : laidMet Tryz.prog Rows.kindFormsUptoRow.laid ((laidWorld os).forCall (fun _ _ => 0) ⟨#[], args, []⟩).memory :=
  laidMet_of_run' 8 (by kernel_rfl) (by kernel_rfl)
/-- What the row's list gives: the tables. -/
theorem tables {W : World} (h : laidMetH Tryz.prog Rows.kindFormsUptoRow.laid W) : Tabs W := by
  obtain ⟨ps, ⟨g1, t1, c1, f1, p1, q1, hg1, ht1, hv1, hd1, ⟨g2, t2, c2, f2, p2, q2, hg2, ht2, hv2, hd2, ⟨g3, t3, c3, f3, p3, q3, hg3, ht3, hv3, hd3, -, -⟩, -⟩, -⟩, -⟩ := h
  obtain rfl := Option.some.inj (Tryz.gSigns.symm.trans hg1)
  obtain rfl := Option.some.inj (Tryz.tSigns.symm.trans ht1)
  obtain rfl := Option.some.inj (Tryz.gShapes.symm.trans hg2)
  obtain rfl := Option.some.inj (Tryz.tShapes.symm.trans ht2)
  obtain rfl := Option.some.inj (Tryz.gRules.symm.trans hg3)
  obtain rfl := Option.some.inj (Tryz.tRules.symm.trans ht3)
  refine ⟨fun i hi => ?_, fun i hi => ?_, fun i hi => ?_⟩
  · obtain ⟨vs, h0, h1, h2, h3, h4, h5⟩ := shapes_cells hd2 i hi
    exact ⟨vs, var_at Tryz.gShapes hv2 _ _ h0, var_at Tryz.gShapes hv2 _ _ h1, var_at Tryz.gShapes hv2 _ _ h2, var_at Tryz.gShapes hv2 _ _ h3, var_at Tryz.gShapes hv2 _ _ h4, h5⟩
  · obtain ⟨s, h0, h1⟩ := signs_cells hd1 i hi
    exact ⟨s, var_at Tryz.gSigns hv1 _ _ h0, h1⟩
  · obtain ⟨h0, h1⟩ := rules_cells hd3 i hi
    exact ⟨var_at Tryz.gRules hv3 _ _ h0, var_at Tryz.gRules hv3 _ _ h1⟩

theorem reads (os : Os) {H : Type} (enc : TypeId × Value → H) : ∃ places, DataW.whole enc Tryz.prog ((laidWorld os).forCall (fun _ _ => 0) ⟨#[], #[.agg #[.slice none 0 0, .slice none 0 0]], []⟩).memory Tryz.f3.params.toList Rows.kindFormsSpec.vars false (#[.agg #[.slice none 0 0, .slice none 0 0]] : Array Value).toList 8 = some ([.agg [.nil, .nil]], [], places) :=
  ⟨[], by kernel_rfl⟩
set_option maxRecDepth 100000 in
theorem lifted (os : Os) (started : os.Started) (H : Type) (enc : TypeId × Value → H) (F : Stop.Interp) :
    ReturnsInHanded {} Tryz.checked os 3 .any ((Rows.OpenSpec.upto Rows.kindFormsSpec).preRow enc Tryz.prog Tryz.f3 Rows.kindFormsUptoRow.domain false Rows.kindFormsUptoRow.laid) (((Rows.OpenSpec.upto Rows.kindFormsSpec).at F).post enc Tryz.prog Tryz.f3 false true false false) := by
  obtain ⟨places, hx⟩ := reads os enc
  refine returnsInHanded_of_row (C := Tryz.checked) (s := Rows.OpenSpec.upto Rows.kindFormsSpec) own started (by kernel_rfl) Tryz.func3
    (witness_row_atRef (enc := enc) (C := Tryz.checked) false (laidWorld os) #[.agg #[.slice none 0 0, .slice none 0 0]] rfl (by kernel_rfl) (by kernel_rfl) (by kernel_rfl)
      (OpenSpec.preRow_of_cond 8 hx (by kernel_rfl) (fun k hk => by cases hk; kernel_rfl) (by kernel_rfl) (laid_met os _))) ?_
  intro W base args ds gs before hval0 hW _ hcond _ hL _ _
  have hval : ∀ (j : Nat) t v, Tryz.f3.params[j]? = some t → args[j]? = some v → Value.okWide Tryz.prog W .any base t v := hval0
  have hW' := hW
  obtain ⟨p, q, hA0, hV, rfl, hfz, hnd⟩ := hW
  have hA : DataW.TrodAll enc Tryz.prog W 0 (fun _ => true) true Tryz.f3.params.toList args.toList ds p := hA0
  rw [Tryz.params3] at hA hval
  obtain ⟨v0, vs0, d0, ds0, p0, q0, hargs, rfl, rfl, h0, r0⟩ := trodAll_cons hA
  obtain ⟨rfl, rfl, rfl⟩ := trodAll_nil r0
  obtain rfl : args = #[v0] := by cases args; simp_all
  obtain ⟨rfl, rfl⟩ := trodVars_none hV
  have k0 := h0
  have lt0 : ∀ x ∈ p0, x.block < W.heap.size := by obtain ⟨m, hm⟩ := k0; exact DataW.trod_lt m _ _ _ hm
  have hsmall := hcond _ rfl
  have hb0 : Rows.uptoBulk d0 ≤ 1048576 := by
    have h1 : Rows.uptoBulkAll (d0 :: ([] ++ [])) ≤ 1048576 := of_decide_eq_true hsmall
    simp only [Rows.uptoBulkAll, List.append_nil] at h1
    omega
  obtain ⟨C, vd, vf, hv0, hC, hS⟩ : ∃ (C : Cg) (vd vf : Value), v0 = cV vd vf ∧ RCg W vd vf C ∧ ShX C := by
    obtain ⟨cs, rfl⟩ := okWide_shape Tryz.shapeC (hval 0 25 v0 rfl rfl)
    obtain ⟨fuel, hf⟩ := h0
    obtain ⟨C, vd, vf, hcs, hC, bd, bf⟩ := open_core (x := (d0, p0)) hf
    have hcs' : cs.toList = [vd, vf] := hcs
    refine ⟨C, vd, vf, ?_, hC, shx_of bd bf hb0⟩
    obtain ⟨l⟩ := cs
    simp only at hcs'
    rw [hcs']
  subst hv0
  clear hA0 hval0
  refine (kindForms_any vd vf C W hC hS.c (tables hL) (fun f hf => (hS.b f hf).bn)).mono fun e W' ⟨he, bel⟩ => ?_
  subst he
  exact ⟨_, rfl, _, _, _, [], _, [], hW', trodAll_mk1 (shut_bool Tryz.u4 _), (trodAll_cons_mk (Below.trod laidOut (by kernel_rfl) (of_decide_eq_true (by kernel_rfl)) k0 bel lt0) (trodAll_mk0)), rfl, bel.frame _, fun h => by cases h⟩

theorem over : Rows.kindFormsUptoRow.holds Tryz.pinned (Rows.OpenSpec.upto Rows.kindFormsSpec) :=
  OpenClaim.holds_of_cond 3 Tryz.f3 rfl rfl rfl rfl rfl rfl rfl ⟨rfl, rfl, rfl, rfl, rfl⟩ rfl rfl rfl rfl rfl (by kernel_rfl) Tryz.func3 (by kernel_rfl)
    (of_decide_eq_true (by kernel_rfl)) (by unfold Func.isWrapper; first | (rw [if_pos (by decide +kernel)]; kernel_rfl) | (rw [if_neg (by decide +kernel)]; exact ⟨rfl, rfl⟩))
    (fun os started H enc _ F => by rw [OpenClaim.pre_eq_preRow]; exact lifted os started H enc F)

theorem proved : Rows.KindFormsUptoSaid := over
#print axioms proved
end Go.Proofs.YtkdhhcidpklgoaaGreatDoor.kindFormsDone
