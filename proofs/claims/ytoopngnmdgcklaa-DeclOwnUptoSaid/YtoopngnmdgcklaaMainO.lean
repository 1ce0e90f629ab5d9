/- chiasmuslaw01.DeclOwn returns true for every input, and its arguments read as they read before. Condition: what the arguments hold, counted as the given row counts it, is at most 1048576. -/
import Derived.Test.YtoopngnmdgcklaaOpen
import Derived.Test.YtoopngnmdgcklaaLawO
import Derived.OpenShut
import Derived.JoinedCond
namespace Go.Proofs.Ytoopngnmdgcklaa.declOwnDone
open Go.ChangeShapes Go.WideShapes Go.ChangeAt Go.RowKit
open Go.ChangeMaps (open_string shut_string)

theorem own : ownKnob Try.prog.godebug = none := by kernel_rfl
theorem laidOut : laidOutB Try.prog = true := by kernel_rfl
theorem modest_of {l : List Decl} (h : BD 1048576 l) : Modest l := ⟨h.1, fun d hd => (h.2 d hd).1, fun d hd x hx => (h.2 d hd).2 x hx⟩
theorem BD.mono {n m : Nat} {l : List Decl} (h : BD n l) (k : n ≤ m) : BD m l := ⟨Nat.le_trans h.1 k, fun d hd => (h.2 d hd).mono k⟩

set_option maxRecDepth 100000 in
theorem lifted (os : Os) (started : os.Started) (H : Type) (enc : TypeId × Value → H) (F : Stop.Interp) :
    ReturnsInHanded {} Try.checked os 7 .any ((Rows.OpenSpec.upto Rows.declOwnSpec).pre6 enc Try.prog Try.f7 Rows.declOwnUptoRow.domain false) (((Rows.OpenSpec.upto Rows.declOwnSpec).at F).post enc Try.prog Try.f7 false true false false) := by
  refine returnsInHanded_of_cond (C := Try.checked) (k := Rows.uptoSmall) rfl own started (by kernel_rfl) Try.func7
    (OpenSpec.witness (enc := enc) (C := Try.checked) (s := Rows.OpenSpec.upto Rows.declOwnSpec) (k := Rows.uptoSmall) (x := ([.nil, .lit (.int .i64 0), .lit (.int .i64 0), .lit (.string [])], [], [])) rfl false ⟨#[], #[.slice none 0 0, .int .i64 0, .int .i64 0, .string ⟨#[]⟩], []⟩ 8 (by kernel_rfl) (by kernel_rfl) (by kernel_rfl) (by kernel_rfl) (by kernel_rfl) (by kernel_rfl)) ?_
  intro W base args ds gs before hval0 hW hcnd hsmall _
  have hval : ∀ (j : Nat) t v, Try.f7.params[j]? = some t → args[j]? = some v → Value.okWide Try.prog W .any base t v := hval0
  have hW' := hW
  obtain ⟨p, q, hA0, hV, rfl, hfz, hnd⟩ := hW
  have hA : DataW.TrodAll enc Try.prog W 0 (fun _ => true) true Try.f7.params.toList args.toList ds p := hA0
  rw [Try.params7] at hA hval
  obtain ⟨v0, vs0, d0, ds0, p0, q0, hargs, rfl, rfl, h0, r0⟩ := trodAll_cons hA
  obtain ⟨v1, vs1, d1, ds1, p1, q1, rfl, rfl, rfl, h1, r1⟩ := trodAll_cons r0
  obtain ⟨v2, vs2, d2, ds2, p2, q2, rfl, rfl, rfl, h2, r2⟩ := trodAll_cons r1
  obtain ⟨v3, vs3, d3, ds3, p3, q3, rfl, rfl, rfl, h3, r3⟩ := trodAll_cons r2
  obtain ⟨rfl, rfl, rfl⟩ := trodAll_nil r3
  obtain rfl : args = #[v0, v1, v2, v3] := by cases args; simp_all
  obtain ⟨rfl, rfl⟩ := trodVars_none hV
  have k0 := h0
  have lt0 : ∀ x ∈ p0, x.block < W.heap.size := by obtain ⟨m, hm⟩ := k0; exact DataW.trod_lt m _ _ _ hm
  have hbulk : Rows.uptoBulk d0 ≤ 1048576 := by
    have h1 : Rows.uptoBulkAll (d0 :: ([d1, d2, d3] ++ [])) ≤ 1048576 := of_decide_eq_true hsmall
    rw [Rows.uptoBulkAll] at h1
    omega
  obtain ⟨a0, len0, cap0, rfl⟩ := okWide_slice Try.u22 (hval 0 22 v0 rfl rfl)
  obtain ⟨l, hl, hb⟩ : ∃ l, RDecls W (.slice a0 len0 cap0) l ∧ BD (Rows.uptoBulk d0) l := by
    obtain ⟨fuel, hf⟩ := h0
    exact open_decls (x' := (d0, p0)) (by simpa [Value.cells] using hf)
  obtain ⟨a1, rfl, rfl, rfl, w1⟩ := open_int Try.u3 (hval 1 3 v1 rfl rfl) h1
  obtain ⟨a2, rfl, rfl, rfl, w2⟩ := open_int Try.u3 (hval 2 3 v2 rfl rfl) h2
  obtain ⟨a3, rfl, rfl, rfl, w3⟩ := open_string Try.u9 (hval 3 9 v3 rfl rfl) h3
  clear hA0 hval0
  refine (declOwn_any _ l a1 a2 a3 W hl (modest_of (BD.mono hb hbulk))).mono fun e W' ⟨he, bel⟩ => ?_
  subst he
  exact ⟨_, rfl, _, _, _, [], _, [], hW', trodAll_mk1 (shut_bool Try.u4 _), (trodAll_cons_mk (Below.trod laidOut (by kernel_rfl) (of_decide_eq_true (by kernel_rfl)) k0 bel lt0) (trodAll_cons_mk (shut_int Try.u3 w1) (trodAll_cons_mk (shut_int Try.u3 w2) (trodAll_cons_mk (shut_string Try.u9 w3) trodAll_mk0)))), rfl, bel.frame _, fun h => by cases h⟩

theorem over : Rows.declOwnUptoRow.holds Try.pinned (Rows.OpenSpec.upto Rows.declOwnSpec) :=
  OpenClaim.holds_of_cond 7 Try.f7 rfl rfl rfl rfl rfl rfl rfl ⟨rfl, rfl, rfl, rfl, rfl⟩ rfl rfl rfl rfl rfl (by kernel_rfl) Try.func7 (by kernel_rfl)
    (of_decide_eq_true (by kernel_rfl)) (by unfold Func.isWrapper; first | (rw [if_pos (by decide +kernel)]; kernel_rfl) | (rw [if_neg (by decide +kernel)]; exact ⟨rfl, rfl⟩))
    (fun os started H enc _ F => lifted os started H enc F)

theorem proved : Rows.DeclOwnUptoSaid := over
#print axioms proved
end Go.Proofs.Ytoopngnmdgcklaa.declOwnDone
