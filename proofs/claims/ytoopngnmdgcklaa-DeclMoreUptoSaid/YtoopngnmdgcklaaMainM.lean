/- chiasmuslaw01.DeclMore returns true for every input, and its arguments read as they read before. Condition: what the arguments hold, counted as the given row counts it, is at most 1048576. -/
import Derived.Test.YtoopngnmdgcklaaOpen
import Derived.Test.YtoopngnmdgcklaaLawM
import Derived.OpenShut
import Derived.JoinedCond
namespace Go.Proofs.Ytoopngnmdgcklaa.declMoreDone
open Go.ChangeShapes Go.WideShapes Go.ChangeAt Go.RowKit
open Go.ChangeMaps (open_string shut_string)

theorem own : ownKnob Try.prog.godebug = none := by kernel_rfl
theorem laidOut : laidOutB Try.prog = true := by kernel_rfl

set_option maxRecDepth 100000 in
theorem lifted (os : Os) (started : os.Started) (H : Type) (enc : TypeId × Value → H) (F : Stop.Interp) :
    ReturnsInHanded {} Try.checked os 6 .any ((Rows.OpenSpec.upto Rows.declMoreSpec).pre6 enc Try.prog Try.f6 Rows.declMoreUptoRow.domain false) (((Rows.OpenSpec.upto Rows.declMoreSpec).at F).post enc Try.prog Try.f6 false true false false) := by
  refine returnsInHanded_of_cond (C := Try.checked) (k := Rows.uptoSmall) rfl own started (by kernel_rfl) Try.func6
    (OpenSpec.witness (enc := enc) (C := Try.checked) (s := Rows.OpenSpec.upto Rows.declMoreSpec) (k := Rows.uptoSmall) (x := ([.nil, .nil], [], [])) rfl false ⟨#[], #[.slice none 0 0, .slice none 0 0], []⟩ 8 (by kernel_rfl) (by kernel_rfl) (by kernel_rfl) (by kernel_rfl) (by kernel_rfl) (by kernel_rfl)) ?_
  intro W base args ds gs before hval0 hW hcnd hsmall _
  have hval : ∀ (j : Nat) t v, Try.f6.params[j]? = some t → args[j]? = some v → Value.okWide Try.prog W .any base t v := hval0
  have hW' := hW
  obtain ⟨p, q, hA0, hV, rfl, hfz, hnd⟩ := hW
  have hA : DataW.TrodAll enc Try.prog W 0 (fun _ => true) true Try.f6.params.toList args.toList ds p := hA0
  rw [Try.params6] at hA hval
  obtain ⟨v0, vs0, d0, ds0, p0, q0, hargs, rfl, rfl, h0, r0⟩ := trodAll_cons hA
  obtain ⟨v1, vs1, d1, ds1, p1, q1, rfl, rfl, rfl, h1, r1⟩ := trodAll_cons r0
  obtain ⟨rfl, rfl, rfl⟩ := trodAll_nil r1
  obtain rfl : args = #[v0, v1] := by cases args; simp_all
  obtain ⟨rfl, rfl⟩ := trodVars_none hV
  have k0 := h0
  have lt0 : ∀ x ∈ p0, x.block < W.heap.size := by obtain ⟨m, hm⟩ := k0; exact DataW.trod_lt m _ _ _ hm
  have k1 := h1
  have lt1 : ∀ x ∈ p1, x.block < W.heap.size := by obtain ⟨m, hm⟩ := k1; exact DataW.trod_lt m _ _ _ hm
  have hbulk : Rows.uptoBulk d1 ≤ 1048576 := by
    have h1 : Rows.uptoBulkAll (d0 :: ([d1] ++ [])) ≤ 1048576 := of_decide_eq_true hsmall
    rw [Rows.uptoBulkAll] at h1
    have h2 : Rows.uptoBulkAll ([d1] ++ []) = Rows.uptoBulk d1 + 0 := rfl
    omega
  obtain ⟨a0, len0, cap0, rfl⟩ := okWide_slice Try.u22 (hval 0 22 v0 rfl rfl)
  obtain ⟨l, hl, _⟩ : ∃ l, RDecls W (.slice a0 len0 cap0) l ∧ BD (Rows.uptoBulk d0) l := by
    obtain ⟨fuel, hf⟩ := h0
    exact open_decls (x' := (d0, p0)) (by simpa [Value.cells] using hf)
  obtain ⟨a1, len1, cap1, rfl⟩ := okWide_slice Try.u22 (hval 1 22 v1 rfl rfl)
  obtain ⟨m, hl1, hb1⟩ : ∃ l, RDecls W (.slice a1 len1 cap1) l ∧ BD (Rows.uptoBulk d1) l := by
    obtain ⟨fuel, hf⟩ := h1
    exact open_decls (x' := (d1, p1)) (by simpa [Value.cells] using hf)
  clear hA0 hval0
  refine (declMore_any _ _ l m W hl hl1 (Nat.le_trans hb1.1 hbulk)).mono fun e W' ⟨he, bel⟩ => ?_
  subst he
  exact ⟨_, rfl, _, _, _, [], _, [], hW', trodAll_mk1 (shut_bool Try.u4 _), (trodAll_cons_mk (Below.trod laidOut (by kernel_rfl) (of_decide_eq_true (by kernel_rfl)) k0 bel lt0) (trodAll_cons_mk (Below.trod laidOut (by kernel_rfl) (of_decide_eq_true (by kernel_rfl)) k1 bel lt1) trodAll_mk0)), rfl, bel.frame _, fun h => by cases h⟩

theorem over : Rows.declMoreUptoRow.holds Try.pinned (Rows.OpenSpec.upto Rows.declMoreSpec) :=
  OpenClaim.holds_of_cond 6 Try.f6 rfl rfl rfl rfl rfl rfl rfl ⟨rfl, rfl, rfl, rfl, rfl⟩ rfl rfl rfl rfl rfl (by kernel_rfl) Try.func6 (by kernel_rfl)
    (of_decide_eq_true (by kernel_rfl)) (by unfold Func.isWrapper; first | (rw [if_pos (by decide +kernel)]; kernel_rfl) | (rw [if_neg (by decide +kernel)]; exact ⟨rfl, rfl⟩))
    (fun os started H enc _ F => lifted os started H enc F)

theorem proved : Rows.DeclMoreUptoSaid := over
#print axioms proved
end Go.Proofs.Ytoopngnmdgcklaa.declMoreDone
