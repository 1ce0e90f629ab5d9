/- chiasmuslaw04.CheckTypes returns true for every input, and its arguments read as they read before. Condition: what the arguments hold, counted as the given row counts them, is at most 1048576. -/
import Derived.Test.YtogmjgccopmplaaGreatQ38
import Derived.OpenShut
import Derived.JoinedCond
namespace Go.Proofs.YtogmjgccopmplaaGreat.checkTypesDone
open Go.ChangeShapes Go.WideShapes Go.ChangeAt Go.RowKit
open Go.ChangeMaps (open_string shut_string)

theorem own : ownKnob Tryz.prog.godebug = none := by kernel_rfl
theorem laidOut : laidOutB Tryz.prog = true := by kernel_rfl

set_option maxRecDepth 100000 in
theorem lifted (os : Os) (started : os.Started) (H : Type) (enc : TypeId × Value → H) (F : Stop.Interp) :
    ReturnsInHanded {} Tryz.checked os 4 .any ((Rows.OpenSpec.upto Rows.checkTypesSpec).pre6 enc Tryz.prog Tryz.f4 Rows.checkTypesUptoRow.domain false) (((Rows.OpenSpec.upto Rows.checkTypesSpec).at F).post enc Tryz.prog Tryz.f4 false true false false) := by
  refine returnsInHanded_of_cond (C := Tryz.checked) (k := Rows.uptoSmall) rfl own started (by kernel_rfl) Tryz.func4
    (OpenSpec.witness (enc := enc) (C := Tryz.checked) (s := Rows.OpenSpec.upto Rows.checkTypesSpec) (k := Rows.uptoSmall) (x := ([.agg [.nil, .nil], .nil, .nil, .agg [.lit (.int .i64 0), .lit (.int .i64 0), .lit (.string []), .lit (.int .i64 0), .nil, .nil]], [], [])) rfl false ⟨#[], #[.agg #[.slice none 0 0, .slice none 0 0], .slice none 0 0, .slice none 0 0, .agg #[.int .i64 0, .int .i64 0, .string ⟨#[]⟩, .int .i64 0, .slice none 0 0, .slice none 0 0]], []⟩ 8 (by kernel_rfl) (by kernel_rfl) (by kernel_rfl) (by kernel_rfl) (by kernel_rfl) (by kernel_rfl)) ?_
  intro W base args ds gs before hval0 hW hcnd hsmall _
  have hval : ∀ (j : Nat) t v, Tryz.f4.params[j]? = some t → args[j]? = some v → Value.okWide Tryz.prog W .any base t v := hval0
  have hW' := hW
  obtain ⟨p, q, hA0, hV, rfl, hfz, hnd⟩ := hW
  have hA : DataW.TrodAll enc Tryz.prog W 0 (fun _ => true) true Tryz.f4.params.toList args.toList ds p := hA0
  rw [Tryz.params4] at hA hval
  obtain ⟨v0, vs0, d0, ds0, p0, q0, hargs, rfl, rfl, h0, r0⟩ := trodAll_cons hA
  obtain ⟨v1, vs1, d1, ds1, p1, q1, rfl, rfl, rfl, h1, r1⟩ := trodAll_cons r0
  obtain ⟨v2, vs2, d2, ds2, p2, q2, rfl, rfl, rfl, h2, r2⟩ := trodAll_cons r1
  obtain ⟨v3, vs3, d3, ds3, p3, q3, rfl, rfl, rfl, h3, r3⟩ := trodAll_cons r2
  obtain ⟨rfl, rfl, rfl⟩ := trodAll_nil r3
  obtain rfl : args = #[v0, v1, v2, v3] := by cases args; simp_all
  obtain ⟨rfl, rfl⟩ := trodVars_none hV
  have k0 := h0
  have k1 := h1
  have k2 := h2
  have k3 := h3
  have lt0 : ∀ x ∈ p0, x.block < W.heap.size := by obtain ⟨m, hm⟩ := k0; exact DataW.trod_lt m _ _ _ hm
  have lt1 : ∀ x ∈ p1, x.block < W.heap.size := by obtain ⟨m, hm⟩ := k1; exact DataW.trod_lt m _ _ _ hm
  have lt2 : ∀ x ∈ p2, x.block < W.heap.size := by obtain ⟨m, hm⟩ := k2; exact DataW.trod_lt m _ _ _ hm
  have lt3 : ∀ x ∈ p3, x.block < W.heap.size := by obtain ⟨m, hm⟩ := k3; exact DataW.trod_lt m _ _ _ hm
  have hbulk : Rows.uptoBulk d0 ≤ 1048576 ∧ Rows.uptoBulk d1 ≤ 1048576 ∧ Rows.uptoBulk d2 ≤ 1048576 ∧ Rows.uptoBulk d3 ≤ 1048576 := by
    have h1 : Rows.uptoBulkAll (d0 :: ([d1, d2, d3] ++ [])) ≤ 1048576 := of_decide_eq_true hsmall
    simp only [Rows.uptoBulkAll, List.append_nil] at h1
    omega
  obtain ⟨g0, g1, g2, g3⟩ := hbulk
  obtain ⟨t, va, vc, hv3, ht, hu⟩ : ∃ t va vc, v3 = tV t va vc ∧ RT W 1048576 t va vc ∧ uT t ≤ 40000000 := by
    obtain ⟨cs, rfl⟩ := okWide_shape Tryz.shape43 (hval 3 41 v3 rfl rfl)
    obtain ⟨fuel, hf⟩ := h3
    obtain ⟨t, va, vc, hcs, ht, hu⟩ := open_term 1048576 fuel _ (d3, p3) g3 hf
    have hcs' : cs.toList = [.int .i64 t.op, .int .i64 t.n, .string t.nm, .int .i64 t.ty, va, vc] := hcs
    refine ⟨t, va, vc, ?_, ht, ?_⟩
    · obtain ⟨l⟩ := cs
      simp only at hcs'
      rw [hcs']
    · have h9 : Rows.uptoBulk (d3, p3).1 ≤ 1048576 := g3
      omega
  obtain ⟨P, vd, vf, hv0, hd, hf, hfine, hmod, hfl, hfs⟩ : ∃ (P : Pg) (vd vf : Value), v0 = pV vd vf ∧ RDecls W vd P.decls ∧ RFns W vf P.funs ∧ FinePg P ∧ Modest P.decls ∧ P.funs.length ≤ 50000000 ∧ ∀ f ∈ P.funs, f.ps.length ≤ 50000000 ∧ uT f.body ≤ 50000000 := by
    obtain ⟨cs, rfl⟩ := okWide_shape Tryz.shape25 (hval 0 25 v0 rfl rfl)
    obtain ⟨fuel, hf⟩ := h0
    obtain ⟨P, vd, vf, hcs, hd, hf, bd, bf⟩ := open_prog (x := (d0, p0)) hf
    have hcs' : cs.toList = [vd, vf] := hcs
    have h9 : Rows.uptoBulk (d0, p0).1 ≤ 1048576 := g0
    refine ⟨P, vd, vf, ?_, hd, hf, fun f hf => (fine_of ?_).toF P, ⟨?_, fun d hd => ?_, fun d hd x hx => ?_⟩, ?_, fun f hf => ⟨?_, ?_⟩⟩
    · obtain ⟨l⟩ := cs
      simp only at hcs'
      rw [hcs']
    · have := (bf.2 f hf).2
      omega
    · exact Nat.le_trans bd.1 h9
    · exact Nat.le_trans (bd.2 d hd).1 h9
    · exact Nat.le_trans ((bd.2 d hd).2 x hx) h9
    · have := bf.1
      omega
    · have := (bf.2 f hf).1
      omega
    · have := (bf.2 f hf).2
      omega
  obtain ⟨a1, len1, cap1, rfl⟩ := okWide_slice Tryz.u60' (hval 1 37 v1 rfl rfl)
  obtain ⟨a2, len2, cap2, rfl⟩ := okWide_slice Tryz.u60' (hval 2 37 v2 rfl rfl)
  obtain ⟨l1, hl1, n1⟩ : ∃ l, RPrms W (.slice a1 len1 cap1) l ∧ l.length ≤ Rows.uptoBulk d1 := by
    obtain ⟨fuel, hf⟩ := h1
    exact open_prms (x := (d1, p1)) (by simpa [Value.cells] using hf)
  obtain ⟨l2, hl2, n2⟩ : ∃ l, RPrms W (.slice a2 len2 cap2) l ∧ l.length ≤ Rows.uptoBulk d2 := by
    obtain ⟨fuel, hf⟩ := h2
    exact open_prms (x := (d2, p2)) (by simpa [Value.cells] using hf)
  subst hv0 hv3
  clear hA0 hval0
  refine (checkTypes_any P vd vf _ _ l1 l2 _ t va vc W hd hf hfine hl1 hl2 ht hu (Nat.le_trans n1 (Nat.le_trans g1 (by decide))) (Nat.le_trans n2 (Nat.le_trans g2 (by decide)))).mono fun e W' ⟨he, bel⟩ => ?_
  subst he
  exact ⟨_, rfl, _, _, _, [], _, [], hW', trodAll_mk1 (shut_bool Tryz.u4 _), (trodAll_cons_mk (Below.trod laidOut (by kernel_rfl) (of_decide_eq_true (by kernel_rfl)) k0 bel lt0) (trodAll_cons_mk (Below.trod laidOut (by kernel_rfl) (of_decide_eq_true (by kernel_rfl)) k1 bel lt1) (trodAll_cons_mk (Below.trod laidOut (by kernel_rfl) (of_decide_eq_true (by kernel_rfl)) k2 bel lt2) (trodAll_cons_mk (Below.trod laidOut (by kernel_rfl) (of_decide_eq_true (by kernel_rfl)) k3 bel lt3) trodAll_mk0)))), rfl, bel.frame _, fun h => by cases h⟩

theorem over : Rows.checkTypesUptoRow.holds Tryz.pinned (Rows.OpenSpec.upto Rows.checkTypesSpec) :=
  OpenClaim.holds_of_cond 4 Tryz.f4 rfl rfl rfl rfl rfl rfl rfl ⟨rfl, rfl, rfl, rfl, rfl⟩ rfl rfl rfl rfl rfl (by kernel_rfl) Tryz.func4 (by kernel_rfl)
    (of_decide_eq_true (by kernel_rfl)) (by unfold Func.isWrapper; first | (rw [if_pos (by decide +kernel)]; kernel_rfl) | (rw [if_neg (by decide +kernel)]; exact ⟨rfl, rfl⟩))
    (fun os started H enc _ F => lifted os started H enc F)

theorem proved : Rows.CheckTypesUptoSaid := over
#print axioms proved
end Go.Proofs.YtogmjgccopmplaaGreat.checkTypesDone
