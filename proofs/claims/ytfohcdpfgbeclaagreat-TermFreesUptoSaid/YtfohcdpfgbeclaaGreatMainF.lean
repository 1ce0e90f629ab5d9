/- chiasmuslaw02.TermFrees returns true for every input, and its argument reads as it read before. Condition: what the argument holds, counted as the given row counts it, is at most 1048576. -/
import Derived.Test.YtfohcdpfgbeclaaGreatQ16
import Derived.OpenShut
import Derived.JoinedCond
namespace Go.Proofs.YtfohcdpfgbeclaaGreat.termFreesDone
open Go.ChangeShapes Go.WideShapes Go.ChangeAt Go.RowKit
open Go.ChangeMaps (open_string shut_string)

theorem own : ownKnob Tryz.prog.godebug = none := by kernel_rfl
theorem laidOut : laidOutB Tryz.prog = true := by kernel_rfl

set_option maxRecDepth 100000 in
theorem lifted (os : Os) (started : os.Started) (H : Type) (enc : TypeId × Value → H) (F : Stop.Interp) :
    ReturnsInHanded {} Tryz.checked os 5 .any ((Rows.OpenSpec.upto Rows.termFreesSpec).pre6 enc Tryz.prog Tryz.f5 Rows.termFreesUptoRow.domain false) (((Rows.OpenSpec.upto Rows.termFreesSpec).at F).post enc Tryz.prog Tryz.f5 false true false false) := by
  refine returnsInHanded_of_cond (C := Tryz.checked) (k := Rows.uptoSmall) rfl own started (by kernel_rfl) Tryz.func5
    (OpenSpec.witness (enc := enc) (C := Tryz.checked) (s := Rows.OpenSpec.upto Rows.termFreesSpec) (k := Rows.uptoSmall) (x := ([.agg [.lit (.int .i64 0), .lit (.int .i64 0), .lit (.string []), .lit (.int .i64 0), .nil, .nil]], [], [])) rfl false ⟨#[], #[.agg #[.int .i64 0, .int .i64 0, .string ⟨#[]⟩, .int .i64 0, .slice none 0 0, .slice none 0 0]], []⟩ 8 (by kernel_rfl) (by kernel_rfl) (by kernel_rfl) (by kernel_rfl) (by kernel_rfl) (by kernel_rfl)) ?_
  intro W base args ds gs before hval0 hW hcnd hsmall _
  have hval : ∀ (j : Nat) t v, Tryz.f5.params[j]? = some t → args[j]? = some v → Value.okWide Tryz.prog W .any base t v := hval0
  have hW' := hW
  obtain ⟨p, q, hA0, hV, rfl, hfz, hnd⟩ := hW
  have hA : DataW.TrodAll enc Tryz.prog W 0 (fun _ => true) true Tryz.f5.params.toList args.toList ds p := hA0
  rw [Tryz.params5] at hA hval
  obtain ⟨v0, vs0, d0, ds0, p0, q0, hargs, rfl, rfl, h0, r0⟩ := trodAll_cons hA
  obtain ⟨rfl, rfl, rfl⟩ := trodAll_nil r0
  obtain rfl : args = #[v0] := by cases args; simp_all
  obtain ⟨rfl, rfl⟩ := trodVars_none hV
  have k0 := h0
  have lt0 : ∀ x ∈ p0, x.block < W.heap.size := by obtain ⟨m, hm⟩ := k0; exact DataW.trod_lt m _ _ _ hm
  have hbulk : Rows.uptoBulk d0 ≤ 1048576 := by
    have h1 : Rows.uptoBulkAll (d0 :: ([] ++ [])) ≤ 1048576 := of_decide_eq_true hsmall
    rw [Rows.uptoBulkAll] at h1
    omega
  obtain ⟨t, va, vc, hv, ht, hu⟩ : ∃ t va vc, v0 = tV t va vc ∧ RT W 1048576 t va vc ∧ uT t ≤ 50000000 := by
    obtain ⟨cs, rfl⟩ := okWide_shape Tryz.shape43 (hval 0 43 v0 rfl rfl)
    obtain ⟨fuel, hf⟩ := h0
    obtain ⟨t, va, vc, hcs, ht, hu⟩ := open_term 1048576 fuel _ (d0, p0) hbulk hf
    have hcs' : cs.toList = [.int .i64 t.op, .int .i64 t.n, .string t.nm, .int .i64 t.ty, va, vc] := hcs
    refine ⟨t, va, vc, ?_, ht, ?_⟩
    · obtain ⟨l⟩ := cs
      simp only at hcs'
      rw [hcs']
    · have h9 : Rows.uptoBulk (d0, p0).1 ≤ 1048576 := hbulk
      omega
  subst hv
  clear hA0 hval0
  refine (termFrees_any _ t va vc W ht hu).mono fun e W' ⟨he, bel⟩ => ?_
  subst he
  exact ⟨_, rfl, _, _, _, [], _, [], hW', trodAll_mk1 (shut_bool Tryz.u4 _), (trodAll_cons_mk (Below.trod laidOut (by kernel_rfl) (of_decide_eq_true (by kernel_rfl)) k0 bel lt0) trodAll_mk0), rfl, bel.frame _, fun h => by cases h⟩

theorem over : Rows.termFreesUptoRow.holds Tryz.pinned (Rows.OpenSpec.upto Rows.termFreesSpec) :=
  OpenClaim.holds_of_cond 5 Tryz.f5 rfl rfl rfl rfl rfl rfl rfl ⟨rfl, rfl, rfl, rfl, rfl⟩ rfl rfl rfl rfl rfl (by kernel_rfl) Tryz.func5 (by kernel_rfl)
    (of_decide_eq_true (by kernel_rfl)) (by unfold Func.isWrapper; first | (rw [if_pos (by decide +kernel)]; kernel_rfl) | (rw [if_neg (by decide +kernel)]; exact ⟨rfl, rfl⟩))
    (fun os started H enc _ F => lifted os started H enc F)

theorem proved : Rows.TermFreesUptoSaid := over
#print axioms proved
end Go.Proofs.YtfohcdpfgbeclaaGreat.termFreesDone
