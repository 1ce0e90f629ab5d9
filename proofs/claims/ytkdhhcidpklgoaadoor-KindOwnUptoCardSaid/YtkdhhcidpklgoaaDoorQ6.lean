/- node: shapeOf, refers. -/
import Derived.Test.YtkdhhcidpklgoaaDoorQ5
namespace Go.Proofs.YtkdhhcidpklgoaaDoor
open Go.RowKit

set_option maxHeartbeats 2000000 in
set_option maxRecDepth 100000 in
theorem shapeOf_any (op : Int) (w : World) (h : Tabs w) :
    ∃ vs, RInts w vs (argsS op) ∧ ∀ w', Ext w w' → Calls Tryd.prog 71 #[.int .i64 op] w' fun e w'' => e = .returned (.agg #[.int .i64 (sortOp op), .bool (usesN op), .bool (usesT op), .bool (usesB op), vs]) ∧ Ext w' w'' := by
  by_cases h0 : op < 0
  · refine ⟨.slice none 0 0, ?_, fun w' hx => ?_⟩
    · have : argsS op = [] := by unfold argsS; repeat' (rw [if_neg (by omega)])
      rw [this]; exact ⟨none, 0, rfl, Nat.le_refl _, Nat.zero_le _, fun i s h => by simp at h⟩
    · have e1 : sortOp op = 3 := by unfold sortOp; rw [if_pos h0]
      have e2 : usesN op = false := by unfold usesN; exact decide_eq_false (by omega)
      have e3 : usesT op = false := by unfold usesT; exact decide_eq_false (by omega)
      have e4 : usesB op = false := by unfold usesB; exact decide_eq_false (by omega)
      rw [e1, e2, e3, e4]
      clear e1 e2 e3 e4 hx h
      go_enter Tryd.func71, Tryd.ntmps71
      go_wp2
      exact bodyPost_ret (v := .agg #[.int .i64 3, .bool false, .bool false, .bool false, .slice none 0 0]) (by simp [results, Tryd.results71, go_sem]) rfl ⟨rfl, Ext.al _ _⟩
  · by_cases h15 : 15 ≤ op
    · refine ⟨.slice none 0 0, ?_, fun w' hx => ?_⟩
      · have : argsS op = [] := by unfold argsS; repeat' (rw [if_neg (by omega)])
        rw [this]; exact ⟨none, 0, rfl, Nat.le_refl _, Nat.zero_le _, fun i s h => by simp at h⟩
      · have e1 : sortOp op = 3 := by unfold sortOp; repeat' (rw [if_neg (by omega)])
        have e2 : usesN op = false := by unfold usesN; exact decide_eq_false (by omega)
        have e3 : usesT op = false := by unfold usesT; exact decide_eq_false (by omega)
        have e4 : usesB op = false := by unfold usesB; exact decide_eq_false (by omega)
        rw [e1, e2, e3, e4]
        clear e1 e2 e3 e4 hx h
        go_enter Tryd.func71, Tryd.ntmps71
        go_wp2
        exact bodyPost_ret (v := .agg #[.int .i64 3, .bool false, .bool false, .bool false, .slice none 0 0]) (by simp [results, Tryd.results71, go_sem]) rfl ⟨rfl, Ext.al _ _⟩
    · obtain ⟨k, rfl⟩ : ∃ k : Nat, op = k := ⟨op.toNat, by omega⟩
      have hk : k < 15 := by omega
      obtain ⟨vs, c0, c1, c2, c3, c4, c5⟩ := h.sh k hk
      refine ⟨vs, c5, fun w' hx => ?_⟩
      have HX := Lib.hid (Ext.al w' (.cells #[.int .i64 0, .bool false, .bool false, .bool false, .slice none 0 0] 143))
      have c0 := HX.out.keep (hx.keep c0)
      have c1 := HX.out.keep (hx.keep c1)
      have c2 := HX.out.keep (hx.keep c2)
      have c3 := HX.out.keep (hx.keep c3)
      have c4 := HX.out.keep (hx.keep c4)
      obtain ⟨A, c, rfl, -, -⟩ := c5.form
      clear h c5 hx
      generalize sortOp (k : Int) = so at *
      generalize usesN (k : Int) = un at *
      generalize usesT (k : Int) = ut at *
      generalize usesB (k : Int) = ub at *
      generalize (argsS (k : Int)).length = la at *
      go_enter Tryd.func71, Tryd.ntmps71
      go_wp2
      exact bodyPost_ret (v := .agg #[.int .i64 so, .bool un, .bool ut, .bool ub, .slice A la c]) (by simp [results, Tryd.results71, go_sem]) rfl ⟨rfl, Ext.al _ _⟩

/-- What is folded of a node. -/
abbrev fdV (op n ty : Int) (va vb by_ ow fa fb : Value) : Value := .agg #[.int .i64 op, .int .i64 n, .int .i64 ty, va, vb, by_, ow, fa, fb]
theorem ref_0 {C : Cg} {q : Bool} {op n ty : Int} (h : op = 0 ∨ op = 5) : refersB C q op n ty = (isNumB n && q) := by unfold refersB; rw [if_pos h]
theorem ref_2 {C : Cg} {q : Bool} {n ty : Int} : refersB C q 2 n ty = (declsC C ty false && isIdxC n (xtorsC C ty).length) := by unfold refersB; rw [if_neg (by decide), if_pos rfl]
theorem ref_6 {C : Cg} {q : Bool} {n ty : Int} : refersB C q 6 n ty = (declsC C ty true && isIdxC n (xtorsC C ty).length) := by unfold refersB; rw [if_neg (by decide), if_neg (by decide), if_pos rfl]
theorem ref_3 {C : Cg} {q : Bool} {op n ty : Int} (h : op = 3 ∨ op = 7) : refersB C q op n ty = (isNumB n && isTypeC C ty) := by unfold refersB; rw [if_neg (by omega), if_neg (by omega), if_neg (by omega), if_pos h]
theorem ref_4 {C : Cg} {q : Bool} {n ty : Int} : refersB C q 4 n ty = declsC C ty true := rfl
theorem ref_8 {C : Cg} {q : Bool} {n ty : Int} : refersB C q 8 n ty = declsC C ty false := rfl
theorem ref_9 {C : Cg} {q : Bool} {n ty : Int} : refersB C q 9 n ty = isTypeC C ty := rfl
theorem ref_10 {C : Cg} {q : Bool} {n ty : Int} : refersB C q 10 n ty = (decide (0 ≤ n) && decide (n < 7)) := rfl
theorem ref_13 {C : Cg} {q : Bool} {n ty : Int} : refersB C q 13 n ty = isIdxC n C.funs.length := rfl
theorem ref_no {C : Cg} {q : Bool} {op n ty : Int} (h : op ≠ 0 ∧ op ≠ 5 ∧ op ≠ 2 ∧ op ≠ 6 ∧ op ≠ 3 ∧ op ≠ 7 ∧ op ≠ 4 ∧ op ≠ 8 ∧ op ≠ 9 ∧ op ≠ 10 ∧ op ≠ 13) : refersB C q op n ty = true := by
  unfold refersB
  repeat' (rw [if_neg (by omega)])
theorem decls_bnd {C : Cg} {ty : Int} {co : Bool} (h : declsC C ty co = true) : 1 ≤ ty ∧ ty ≤ C.decls.length := by
  unfold declsC isIdxC at h
  simp only [Bool.and_eq_true, decide_eq_true_eq] at h
  omega
theorem declares_is (vd vf : Value) (C : Cg) (ty : Int) (hty : ok64 ty) (co q : Bool) (hq : declsC C ty co = q) (w : World) (h : RDecls w vd C.decls) :
    Calls Tryd.prog 82 #[.agg #[vd, vf], .int .i64 ty, .bool co] w fun e w' => e = .returned (.bool q) ∧ Ext w w' := by
  subst hq; exact declares_any vd vf C ty hty co w h

set_option maxHeartbeats 4000000 in
set_option maxRecDepth 100000 in
theorem refers_con2 (vd vf : Value) (C : Cg) (n ty : Int) (va vb ow fa fb by_ : Value) (w : World) (hC : RCg w vd vf C) (hty : ok64 ty) :
    Calls Tryd.prog 72 #[.agg #[vd, vf], fdV 2 n ty va vb by_ ow fa fb] w fun e w' => e = .returned (.bool (declsC C ty false && isIdxC n (xtorsC C ty).length)) ∧ Ext w w' := by
  have HD := Lib.hid hC.d
  have HTY := Lib.hid hty
  obtain ⟨A, c, rfl, -, -⟩ := hC.d.form
  obtain ⟨Af, cf, rfl, -, -⟩ := hC.f.form
  clear hC hty
  have hmx : Tryd.prog.follows .mixedOrders = true := by kernel_rfl
  have HE := Lib.hid (Ext.al2 w (.cells #[.slice A C.decls.length c, .slice Af C.funs.length cf] 117) (.cells #[.int .i64 2, .int .i64 n, .int .i64 ty, va, vb, by_, ow, fa, fb] 137))
  have hb1 := Ext.lt (Ext.al (w.alloc (.cells #[.slice A C.decls.length c, .slice Af C.funs.length cf] 117)) (.cells #[.int .i64 2, .int .i64 n, .int .i64 ty, va, vb, by_, ow, fa, fb] 137)) (heapNew w (.cells #[.slice A C.decls.length c, .slice Af C.funs.length cf] 117))
  have hb2 := heapNew2 w (.cells #[.slice A C.decls.length c, .slice Af C.funs.length cf] 117) (.cells #[.int .i64 2, .int .i64 n, .int .i64 ty, va, vb, by_, ow, fa, fb] 137)
  have k0 := fun (p : ExtOf ((w.alloc (.cells #[.slice A C.decls.length c, .slice Af C.funs.length cf] 117)).alloc (.cells #[.int .i64 2, .int .i64 n, .int .i64 ty, va, vb, by_, ow, fa, fb] 137))) => p.ext.keep (cellAt hb1 0)
  have k1 := fun (p : ExtOf ((w.alloc (.cells #[.slice A C.decls.length c, .slice Af C.funs.length cf] 117)).alloc (.cells #[.int .i64 2, .int .i64 n, .int .i64 ty, va, vb, by_, ow, fa, fb] 137))) => p.ext.keep (cellAt hb1 1)
  have m1 := fun (p : ExtOf ((w.alloc (.cells #[.slice A C.decls.length c, .slice Af C.funs.length cf] 117)).alloc (.cells #[.int .i64 2, .int .i64 n, .int .i64 ty, va, vb, by_, ow, fa, fb] 137))) => p.ext.keep (cellAt hb2 1)
  have m2 := fun (p : ExtOf ((w.alloc (.cells #[.slice A C.decls.length c, .slice Af C.funs.length cf] 117)).alloc (.cells #[.int .i64 2, .int .i64 n, .int .i64 ty, va, vb, by_, ow, fa, fb] 137))) => p.ext.keep (cellAt hb2 2)
  clear hb1 hb2
  cases hq : declsC C ty false
  · have HQ := Lib.hid hq
    clear hq
    go_enter Tryd.func72, Tryd.ntmps72
    go_wp2
    generalize (w.alloc _).alloc _ = w1 at *
    refine wp_region_ext (w0 := w1) hmx (by kernel_rfl) (Ext.rf _) ?_
    repeat (first | go_big_quiet_step ((go_at_call 82; with_reducible exact Calls.ext_of (declares_is _ _ C ty HTY.out false false HQ.out _ (HD.out.below (HE.out.tr (ExtOf.ext _)))))) | quiet_step ((go_at_call 82; with_reducible exact Calls.ext_of (declares_is _ _ C ty HTY.out false false HQ.out _ (HD.out.below (HE.out.tr (ExtOf.ext _)))))))
    refine wpQuiet_nil ?_
    rintro _ ⟨⟨w9, hx⟩, rfl⟩
    have HX9 := Lib.hid hx
    clear hx
    go_wp2
    go_ret
    exact ⟨rfl, HE.out.tr HX9.out⟩
  · have HQ := Lib.hid hq
    obtain ⟨hl1, hl2⟩ := decls_bnd hq
    clear hq
    obtain ⟨vx, hvx, HXT'⟩ := xtors_any _ (.slice Af C.funs.length cf) C ty w HD.out hl1 hl2
    have HXT := Lib.hid HXT'
    obtain ⟨Ax, cx, rfl, -, -⟩ := hvx.form
    clear HXT' hl1 hl2 hvx
    have HI := Lib.hid (isIndex_any n (xtorsC C ty).length (isIdxC n (xtorsC C ty).length) rfl)
    generalize isIdxC n (xtorsC C ty).length = q at *
    generalize (xtorsC C ty).length = nx at *
    go_enter Tryd.func72, Tryd.ntmps72
    go_wp2
    generalize (w.alloc _).alloc _ = w1 at *
    refine wp_region_ext (w0 := w1) hmx (by kernel_rfl) (Ext.rf _) ?_
    repeat (first | go_big_quiet_step ((first
        | (go_at_call 82; with_reducible exact Calls.ext_of (declares_is _ _ C ty HTY.out false true HQ.out _ (HD.out.below (HE.out.tr (ExtOf.ext _)))))
        | (go_at_call 84; with_reducible exact Calls.ext_of (HXT.out _ (HE.out.tr (ExtOf.ext _))))
        | (go_at_call 83; with_reducible exact Calls.ext_same (HI.out _)))) | quiet_step ((first
        | (go_at_call 82; with_reducible exact Calls.ext_of (declares_is _ _ C ty HTY.out false true HQ.out _ (HD.out.below (HE.out.tr (ExtOf.ext _)))))
        | (go_at_call 84; with_reducible exact Calls.ext_of (HXT.out _ (HE.out.tr (ExtOf.ext _))))
        | (go_at_call 83; with_reducible exact Calls.ext_same (HI.out _)))))
    refine wpQuiet_nil ?_
    rintro _ ⟨⟨w9, hx⟩, rfl⟩
    have HX9 := Lib.hid hx
    clear hx
    go_wp2
    go_ret
    exact ⟨rfl, HE.out.tr HX9.out⟩
set_option maxHeartbeats 4000000 in
set_option maxRecDepth 100000 in
theorem refers_con6 (vd vf : Value) (C : Cg) (n ty : Int) (va vb ow fa fb by_ : Value) (w : World) (hC : RCg w vd vf C) (hty : ok64 ty) :
    Calls Tryd.prog 72 #[.agg #[vd, vf], fdV 6 n ty va vb by_ ow fa fb] w fun e w' => e = .returned (.bool (declsC C ty true && isIdxC n (xtorsC C ty).length)) ∧ Ext w w' := by
  have HD := Lib.hid hC.d
  have HTY := Lib.hid hty
  obtain ⟨A, c, rfl, -, -⟩ := hC.d.form
  obtain ⟨Af, cf, rfl, -, -⟩ := hC.f.form
  clear hC hty
  have hmx : Tryd.prog.follows .mixedOrders = true := by kernel_rfl
  have HE := Lib.hid (Ext.al2 w (.cells #[.slice A C.decls.length c, .slice Af C.funs.length cf] 117) (.cells #[.int .i64 6, .int .i64 n, .int .i64 ty, va, vb, by_, ow, fa, fb] 137))
  have hb1 := Ext.lt (Ext.al (w.alloc (.cells #[.slice A C.decls.length c, .slice Af C.funs.length cf] 117)) (.cells #[.int .i64 6, .int .i64 n, .int .i64 ty, va, vb, by_, ow, fa, fb] 137)) (heapNew w (.cells #[.slice A C.decls.length c, .slice Af C.funs.length cf] 117))
  have hb2 := heapNew2 w (.cells #[.slice A C.decls.length c, .slice Af C.funs.length cf] 117) (.cells #[.int .i64 6, .int .i64 n, .int .i64 ty, va, vb, by_, ow, fa, fb] 137)
  have k0 := fun (p : ExtOf ((w.alloc (.cells #[.slice A C.decls.length c, .slice Af C.funs.length cf] 117)).alloc (.cells #[.int .i64 6, .int .i64 n, .int .i64 ty, va, vb, by_, ow, fa, fb] 137))) => p.ext.keep (cellAt hb1 0)
  have k1 := fun (p : ExtOf ((w.alloc (.cells #[.slice A C.decls.length c, .slice Af C.funs.length cf] 117)).alloc (.cells #[.int .i64 6, .int .i64 n, .int .i64 ty, va, vb, by_, ow, fa, fb] 137))) => p.ext.keep (cellAt hb1 1)
  have m1 := fun (p : ExtOf ((w.alloc (.cells #[.slice A C.decls.length c, .slice Af C.funs.length cf] 117)).alloc (.cells #[.int .i64 6, .int .i64 n, .int .i64 ty, va, vb, by_, ow, fa, fb] 137))) => p.ext.keep (cellAt hb2 1)
  have m2 := fun (p : ExtOf ((w.alloc (.cells #[.slice A C.decls.length c, .slice Af C.funs.length cf] 117)).alloc (.cells #[.int .i64 6, .int .i64 n, .int .i64 ty, va, vb, by_, ow, fa, fb] 137))) => p.ext.keep (cellAt hb2 2)
  clear hb1 hb2
  cases hq : declsC C ty true
  · have HQ := Lib.hid hq
    clear hq
    go_enter Tryd.func72, Tryd.ntmps72
    go_wp2
    generalize (w.alloc _).alloc _ = w1 at *
    refine wp_region_ext (w0 := w1) hmx (by kernel_rfl) (Ext.rf _) ?_
    repeat (first | go_big_quiet_step ((go_at_call 82; with_reducible exact Calls.ext_of (declares_is _ _ C ty HTY.out true false HQ.out _ (HD.out.below (HE.out.tr (ExtOf.ext _)))))) | quiet_step ((go_at_call 82; with_reducible exact Calls.ext_of (declares_is _ _ C ty HTY.out true false HQ.out _ (HD.out.below (HE.out.tr (ExtOf.ext _)))))))
    refine wpQuiet_nil ?_
    rintro _ ⟨⟨w9, hx⟩, rfl⟩
    have HX9 := Lib.hid hx
    clear hx
    go_wp2
    go_ret
    exact ⟨rfl, HE.out.tr HX9.out⟩
  · have HQ := Lib.hid hq
    obtain ⟨hl1, hl2⟩ := decls_bnd hq
    clear hq
    obtain ⟨vx, hvx, HXT'⟩ := xtors_any _ (.slice Af C.funs.length cf) C ty w HD.out hl1 hl2
    have HXT := Lib.hid HXT'
    obtain ⟨Ax, cx, rfl, -, -⟩ := hvx.form
    clear HXT' hl1 hl2 hvx
    have HI := Lib.hid (isIndex_any n (xtorsC C ty).length (isIdxC n (xtorsC C ty).length) rfl)
    generalize isIdxC n (xtorsC C ty).length = q at *
    generalize (xtorsC C ty).length = nx at *
    go_enter Tryd.func72, Tryd.ntmps72
    go_wp2
    generalize (w.alloc _).alloc _ = w1 at *
    refine wp_region_ext (w0 := w1) hmx (by kernel_rfl) (Ext.rf _) ?_
    repeat (first | go_big_quiet_step ((first
        | (go_at_call 82; with_reducible exact Calls.ext_of (declares_is _ _ C ty HTY.out true true HQ.out _ (HD.out.below (HE.out.tr (ExtOf.ext _)))))
        | (go_at_call 84; with_reducible exact Calls.ext_of (HXT.out _ (HE.out.tr (ExtOf.ext _))))
        | (go_at_call 83; with_reducible exact Calls.ext_same (HI.out _)))) | quiet_step ((first
        | (go_at_call 82; with_reducible exact Calls.ext_of (declares_is _ _ C ty HTY.out true true HQ.out _ (HD.out.below (HE.out.tr (ExtOf.ext _)))))
        | (go_at_call 84; with_reducible exact Calls.ext_of (HXT.out _ (HE.out.tr (ExtOf.ext _))))
        | (go_at_call 83; with_reducible exact Calls.ext_same (HI.out _)))))
    refine wpQuiet_nil ?_
    rintro _ ⟨⟨w9, hx⟩, rfl⟩
    have HX9 := Lib.hid hx
    clear hx
    go_wp2
    go_ret
    exact ⟨rfl, HE.out.tr HX9.out⟩
end Go.Proofs.YtkdhhcidpklgoaaDoor

/- node: refers, of all operators. -/
namespace Go.Proofs.YtkdhhcidpklgoaaDoor
open Go.RowKit

def ptrB : Value → Bool
  | .pointer (some _) => true
  | _ => false
set_option maxHeartbeats 4000000 in
set_option maxRecDepth 100000 in
theorem refers_0p (vd vf : Value) (C : Cg) (n ty : Int) (va vb ow fa fb by_ : Value) (w : World) (hC : RCg w vd vf C) (hn : ok64 n) (hty : ok64 ty) (htab : Tabs w) (pa : Addr) :
    Calls Tryd.prog 72 #[.agg #[vd, vf], fdV 0 n ty va vb (.pointer (some pa)) ow fa fb] w fun e w' => e = .returned (.bool (isNumB n && true)) ∧ Ext w w' := by
  have HD := Lib.hid hC.d
  have HTY := Lib.hid hty
  have HTAB := Lib.hid htab
  obtain ⟨A, c, rfl, -, -⟩ := hC.d.form
  obtain ⟨Af, cf, rfl, hcf, hmf⟩ := hC.f.form
  unfold maxLen at hmf
  clear hC hty hn htab
  have HE := Lib.hid (Ext.al2 w (.cells #[.slice A C.decls.length c, .slice Af C.funs.length cf] 117) (.cells #[.int .i64 0, .int .i64 n, .int .i64 ty, va, vb, (.pointer (some pa)), ow, fa, fb] 137))
  cases hq : isNumB n
  all_goals
    have HQ := Lib.hid hq
    clear hq
    go_enter Tryd.func72, Tryd.ntmps72
    go_wp2_with (go_at_call 80; (with_reducible refine (isNumber_any n _ HQ.out _).mono ?_); rintro e w2 ⟨rfl, rfl⟩)
    go_ret
    exact ⟨rfl, HE.out⟩
set_option maxHeartbeats 4000000 in
set_option maxRecDepth 100000 in
theorem refers_0n (vd vf : Value) (C : Cg) (n ty : Int) (va vb ow fa fb by_ : Value) (w : World) (hC : RCg w vd vf C) (hn : ok64 n) (hty : ok64 ty) (htab : Tabs w) :
    Calls Tryd.prog 72 #[.agg #[vd, vf], fdV 0 n ty va vb (.pointer none) ow fa fb] w fun e w' => e = .returned (.bool (isNumB n && false)) ∧ Ext w w' := by
  have HD := Lib.hid hC.d
  have HTY := Lib.hid hty
  have HTAB := Lib.hid htab
  obtain ⟨A, c, rfl, -, -⟩ := hC.d.form
  obtain ⟨Af, cf, rfl, hcf, hmf⟩ := hC.f.form
  unfold maxLen at hmf
  clear hC hty hn htab
  have HE := Lib.hid (Ext.al2 w (.cells #[.slice A C.decls.length c, .slice Af C.funs.length cf] 117) (.cells #[.int .i64 0, .int .i64 n, .int .i64 ty, va, vb, (.pointer none), ow, fa, fb] 137))
  cases hq : isNumB n
  all_goals
    have HQ := Lib.hid hq
    clear hq
    go_enter Tryd.func72, Tryd.ntmps72
    go_wp2_with (go_at_call 80; (with_reducible refine (isNumber_any n _ HQ.out _).mono ?_); rintro e w2 ⟨rfl, rfl⟩)
    go_ret
    exact ⟨rfl, HE.out⟩
set_option maxHeartbeats 4000000 in
set_option maxRecDepth 100000 in
theorem refers_5p (vd vf : Value) (C : Cg) (n ty : Int) (va vb ow fa fb by_ : Value) (w : World) (hC : RCg w vd vf C) (hn : ok64 n) (hty : ok64 ty) (htab : Tabs w) (pa : Addr) :
    Calls Tryd.prog 72 #[.agg #[vd, vf], fdV 5 n ty va vb (.pointer (some pa)) ow fa fb] w fun e w' => e = .returned (.bool (isNumB n && true)) ∧ Ext w w' := by
  have HD := Lib.hid hC.d
  have HTY := Lib.hid hty
  have HTAB := Lib.hid htab
  obtain ⟨A, c, rfl, -, -⟩ := hC.d.form
  obtain ⟨Af, cf, rfl, hcf, hmf⟩ := hC.f.form
  unfold maxLen at hmf
  clear hC hty hn htab
  have HE := Lib.hid (Ext.al2 w (.cells #[.slice A C.decls.length c, .slice Af C.funs.length cf] 117) (.cells #[.int .i64 5, .int .i64 n, .int .i64 ty, va, vb, (.pointer (some pa)), ow, fa, fb] 137))
  cases hq : isNumB n
  all_goals
    have HQ := Lib.hid hq
    clear hq
    go_enter Tryd.func72, Tryd.ntmps72
    go_wp2_with (go_at_call 80; (with_reducible refine (isNumber_any n _ HQ.out _).mono ?_); rintro e w2 ⟨rfl, rfl⟩)
    go_ret
    exact ⟨rfl, HE.out⟩
set_option maxHeartbeats 4000000 in
set_option maxRecDepth 100000 in
theorem refers_5n (vd vf : Value) (C : Cg) (n ty : Int) (va vb ow fa fb by_ : Value) (w : World) (hC : RCg w vd vf C) (hn : ok64 n) (hty : ok64 ty) (htab : Tabs w) :
    Calls Tryd.prog 72 #[.agg #[vd, vf], fdV 5 n ty va vb (.pointer none) ow fa fb] w fun e w' => e = .returned (.bool (isNumB n && false)) ∧ Ext w w' := by
  have HD := Lib.hid hC.d
  have HTY := Lib.hid hty
  have HTAB := Lib.hid htab
  obtain ⟨A, c, rfl, -, -⟩ := hC.d.form
  obtain ⟨Af, cf, rfl, hcf, hmf⟩ := hC.f.form
  unfold maxLen at hmf
  clear hC hty hn htab
  have HE := Lib.hid (Ext.al2 w (.cells #[.slice A C.decls.length c, .slice Af C.funs.length cf] 117) (.cells #[.int .i64 5, .int .i64 n, .int .i64 ty, va, vb, (.pointer none), ow, fa, fb] 137))
  cases hq : isNumB n
  all_goals
    have HQ := Lib.hid hq
    clear hq
    go_enter Tryd.func72, Tryd.ntmps72
    go_wp2_with (go_at_call 80; (with_reducible refine (isNumber_any n _ HQ.out _).mono ?_); rintro e w2 ⟨rfl, rfl⟩)
    go_ret
    exact ⟨rfl, HE.out⟩
set_option maxHeartbeats 4000000 in
set_option maxRecDepth 100000 in
theorem refers_3 (vd vf : Value) (C : Cg) (n ty : Int) (va vb ow fa fb by_ : Value) (w : World) (hC : RCg w vd vf C) (hn : ok64 n) (hty : ok64 ty) (htab : Tabs w) :
    Calls Tryd.prog 72 #[.agg #[vd, vf], fdV 3 n ty va vb by_ ow fa fb] w fun e w' => e = .returned (.bool (isNumB n && isTypeC C ty)) ∧ Ext w w' := by
  have HD := Lib.hid hC.d
  have HTY := Lib.hid hty
  have HTAB := Lib.hid htab
  obtain ⟨A, c, rfl, -, -⟩ := hC.d.form
  obtain ⟨Af, cf, rfl, hcf, hmf⟩ := hC.f.form
  unfold maxLen at hmf
  clear hC hty hn htab
  have HE := Lib.hid (Ext.al2 w (.cells #[.slice A C.decls.length c, .slice Af C.funs.length cf] 117) (.cells #[.int .i64 3, .int .i64 n, .int .i64 ty, va, vb, by_, ow, fa, fb] 137))
  cases hq : isNumB n
  · have HQ := Lib.hid hq
    clear hq
    go_enter Tryd.func72, Tryd.ntmps72
    go_wp2_with (go_at_call 80; (with_reducible refine (isNumber_any n _ HQ.out _).mono ?_); rintro e w2 ⟨rfl, rfl⟩)
    go_ret
    exact ⟨rfl, HE.out⟩
  · have HQ := Lib.hid hq
    clear hq
    go_enter Tryd.func72, Tryd.ntmps72
    go_wp2_with (first
      | (go_at_call 80; (with_reducible refine (isNumber_any n _ HQ.out _).mono ?_); rintro e w2 ⟨rfl, rfl⟩)
      | (go_at_call 36; (with_reducible refine (isType_any _ _ C ty _ (HD.out.below HE.out)).mono ?_); rintro e w2 ⟨rfl, hx⟩; have HX := Lib.hid (HE.out.tr hx); clear hx))
    go_ret
    exact ⟨rfl, HX.out⟩
set_option maxHeartbeats 4000000 in
set_option maxRecDepth 100000 in
theorem refers_7 (vd vf : Value) (C : Cg) (n ty : Int) (va vb ow fa fb by_ : Value) (w : World) (hC : RCg w vd vf C) (hn : ok64 n) (hty : ok64 ty) (htab : Tabs w) :
    Calls Tryd.prog 72 #[.agg #[vd, vf], fdV 7 n ty va vb by_ ow fa fb] w fun e w' => e = .returned (.bool (isNumB n && isTypeC C ty)) ∧ Ext w w' := by
  have HD := Lib.hid hC.d
  have HTY := Lib.hid hty
  have HTAB := Lib.hid htab
  obtain ⟨A, c, rfl, -, -⟩ := hC.d.form
  obtain ⟨Af, cf, rfl, hcf, hmf⟩ := hC.f.form
  unfold maxLen at hmf
  clear hC hty hn htab
  have HE := Lib.hid (Ext.al2 w (.cells #[.slice A C.decls.length c, .slice Af C.funs.length cf] 117) (.cells #[.int .i64 7, .int .i64 n, .int .i64 ty, va, vb, by_, ow, fa, fb] 137))
  cases hq : isNumB n
  · have HQ := Lib.hid hq
    clear hq
    go_enter Tryd.func72, Tryd.ntmps72
    go_wp2_with (go_at_call 80; (with_reducible refine (isNumber_any n _ HQ.out _).mono ?_); rintro e w2 ⟨rfl, rfl⟩)
    go_ret
    exact ⟨rfl, HE.out⟩
  · have HQ := Lib.hid hq
    clear hq
    go_enter Tryd.func72, Tryd.ntmps72
    go_wp2_with (first
      | (go_at_call 80; (with_reducible refine (isNumber_any n _ HQ.out _).mono ?_); rintro e w2 ⟨rfl, rfl⟩)
      | (go_at_call 36; (with_reducible refine (isType_any _ _ C ty _ (HD.out.below HE.out)).mono ?_); rintro e w2 ⟨rfl, hx⟩; have HX := Lib.hid (HE.out.tr hx); clear hx))
    go_ret
    exact ⟨rfl, HX.out⟩
set_option maxHeartbeats 4000000 in
set_option maxRecDepth 100000 in
theorem refers_4 (vd vf : Value) (C : Cg) (n ty : Int) (va vb ow fa fb by_ : Value) (w : World) (hC : RCg w vd vf C) (hn : ok64 n) (hty : ok64 ty) (htab : Tabs w) :
    Calls Tryd.prog 72 #[.agg #[vd, vf], fdV 4 n ty va vb by_ ow fa fb] w fun e w' => e = .returned (.bool (declsC C ty true)) ∧ Ext w w' := by
  have HD := Lib.hid hC.d
  have HTY := Lib.hid hty
  have HTAB := Lib.hid htab
  obtain ⟨A, c, rfl, -, -⟩ := hC.d.form
  obtain ⟨Af, cf, rfl, hcf, hmf⟩ := hC.f.form
  unfold maxLen at hmf
  clear hC hty hn htab
  have HE := Lib.hid (Ext.al2 w (.cells #[.slice A C.decls.length c, .slice Af C.funs.length cf] 117) (.cells #[.int .i64 4, .int .i64 n, .int .i64 ty, va, vb, by_, ow, fa, fb] 137))
  go_enter Tryd.func72, Tryd.ntmps72
  go_wp2_with (go_at_call 82; (with_reducible refine (declares_any _ _ C ty HTY.out _ _ (HD.out.below HE.out)).mono ?_); rintro e w2 ⟨rfl, hx⟩; have HX := Lib.hid (HE.out.tr hx); clear hx)
  go_ret
  exact ⟨rfl, HX.out⟩
set_option maxHeartbeats 4000000 in
set_option maxRecDepth 100000 in
theorem refers_8 (vd vf : Value) (C : Cg) (n ty : Int) (va vb ow fa fb by_ : Value) (w : World) (hC : RCg w vd vf C) (hn : ok64 n) (hty : ok64 ty) (htab : Tabs w) :
    Calls Tryd.prog 72 #[.agg #[vd, vf], fdV 8 n ty va vb by_ ow fa fb] w fun e w' => e = .returned (.bool (declsC C ty false)) ∧ Ext w w' := by
  have HD := Lib.hid hC.d
  have HTY := Lib.hid hty
  have HTAB := Lib.hid htab
  obtain ⟨A, c, rfl, -, -⟩ := hC.d.form
  obtain ⟨Af, cf, rfl, hcf, hmf⟩ := hC.f.form
  unfold maxLen at hmf
  clear hC hty hn htab
  have HE := Lib.hid (Ext.al2 w (.cells #[.slice A C.decls.length c, .slice Af C.funs.length cf] 117) (.cells #[.int .i64 8, .int .i64 n, .int .i64 ty, va, vb, by_, ow, fa, fb] 137))
  go_enter Tryd.func72, Tryd.ntmps72
  go_wp2_with (go_at_call 82; (with_reducible refine (declares_any _ _ C ty HTY.out _ _ (HD.out.below HE.out)).mono ?_); rintro e w2 ⟨rfl, hx⟩; have HX := Lib.hid (HE.out.tr hx); clear hx)
  go_ret
  exact ⟨rfl, HX.out⟩
set_option maxHeartbeats 4000000 in
set_option maxRecDepth 100000 in
theorem refers_9 (vd vf : Value) (C : Cg) (n ty : Int) (va vb ow fa fb by_ : Value) (w : World) (hC : RCg w vd vf C) (hn : ok64 n) (hty : ok64 ty) (htab : Tabs w) :
    Calls Tryd.prog 72 #[.agg #[vd, vf], fdV 9 n ty va vb by_ ow fa fb] w fun e w' => e = .returned (.bool (isTypeC C ty)) ∧ Ext w w' := by
  have HD := Lib.hid hC.d
  have HTY := Lib.hid hty
  have HTAB := Lib.hid htab
  obtain ⟨A, c, rfl, -, -⟩ := hC.d.form
  obtain ⟨Af, cf, rfl, hcf, hmf⟩ := hC.f.form
  unfold maxLen at hmf
  clear hC hty hn htab
  have HE := Lib.hid (Ext.al2 w (.cells #[.slice A C.decls.length c, .slice Af C.funs.length cf] 117) (.cells #[.int .i64 9, .int .i64 n, .int .i64 ty, va, vb, by_, ow, fa, fb] 137))
  go_enter Tryd.func72, Tryd.ntmps72
  go_wp2_with (go_at_call 36; (with_reducible refine (isType_any _ _ C ty _ (HD.out.below HE.out)).mono ?_); rintro e w2 ⟨rfl, hx⟩; have HX := Lib.hid (HE.out.tr hx); clear hx)
  go_ret
  exact ⟨rfl, HX.out⟩
set_option maxHeartbeats 4000000 in
set_option maxRecDepth 100000 in
theorem refers_10 (vd vf : Value) (C : Cg) (n ty : Int) (va vb ow fa fb by_ : Value) (w : World) (hC : RCg w vd vf C) (hn : ok64 n) (hty : ok64 ty) (htab : Tabs w) :
    Calls Tryd.prog 72 #[.agg #[vd, vf], fdV 10 n ty va vb by_ ow fa fb] w fun e w' => e = .returned (.bool (decide (0 ≤ n) && decide (n < 7))) ∧ Ext w w' := by
  have HD := Lib.hid hC.d
  have HTY := Lib.hid hty
  have HTAB := Lib.hid htab
  obtain ⟨A, c, rfl, -, -⟩ := hC.d.form
  obtain ⟨Af, cf, rfl, hcf, hmf⟩ := hC.f.form
  unfold maxLen at hmf
  clear hC hty hn htab
  have HE := Lib.hid (Ext.al2 w (.cells #[.slice A C.decls.length c, .slice Af C.funs.length cf] 117) (.cells #[.int .i64 10, .int .i64 n, .int .i64 ty, va, vb, by_, ow, fa, fb] 137))
  generalize hr : (decide (0 ≤ n) && decide (n < 7)) = r
  have HR := Lib.hid hr
  clear hr
  go_enter Tryd.func72, Tryd.ntmps72
  go_wp2_with (go_at_call 85; (with_reducible refine (sign_any n _ (HTAB.out.ext HE.out)).mono ?_); rintro e w2 ⟨⟨s, rfl, hs⟩, rfl⟩; rw [HR.out] at hs; have HS := Lib.hid hs; clear hs)
  go_ret
  refine ⟨ret_bool ?_, HE.out⟩
  have h := HS.out
  unfold emS at h
  simp [h]
set_option maxHeartbeats 4000000 in
set_option maxRecDepth 100000 in
theorem refers_13 (vd vf : Value) (C : Cg) (n ty : Int) (va vb ow fa fb by_ : Value) (w : World) (hC : RCg w vd vf C) (hn : ok64 n) (hty : ok64 ty) (htab : Tabs w) :
    Calls Tryd.prog 72 #[.agg #[vd, vf], fdV 13 n ty va vb by_ ow fa fb] w fun e w' => e = .returned (.bool (isIdxC n C.funs.length)) ∧ Ext w w' := by
  have HD := Lib.hid hC.d
  have HTY := Lib.hid hty
  have HTAB := Lib.hid htab
  obtain ⟨A, c, rfl, -, -⟩ := hC.d.form
  obtain ⟨Af, cf, rfl, hcf, hmf⟩ := hC.f.form
  unfold maxLen at hmf
  clear hC hty hn htab
  have HE := Lib.hid (Ext.al2 w (.cells #[.slice A C.decls.length c, .slice Af C.funs.length cf] 117) (.cells #[.int .i64 13, .int .i64 n, .int .i64 ty, va, vb, by_, ow, fa, fb] 137))
  go_enter Tryd.func72, Tryd.ntmps72
  go_wp2_with (go_at_call 83; (with_reducible refine (isIndex_any _ _ _ rfl _).mono ?_); rintro e w2 ⟨rfl, rfl⟩)
  go_ret
  exact ⟨rfl, HE.out⟩
set_option maxHeartbeats 4000000 in
set_option maxRecDepth 100000 in
theorem refers_no (vd vf : Value) (C : Cg) (op n ty : Int) (va vb ow fa fb by_ : Value) (w : World) (hC : RCg w vd vf C) (hn : ok64 n) (hty : ok64 ty) (htab : Tabs w) (hop : op ≠ 0 ∧ op ≠ 5 ∧ op ≠ 2 ∧ op ≠ 6 ∧ op ≠ 3 ∧ op ≠ 7 ∧ op ≠ 4 ∧ op ≠ 8 ∧ op ≠ 9 ∧ op ≠ 10 ∧ op ≠ 13) :
    Calls Tryd.prog 72 #[.agg #[vd, vf], fdV op n ty va vb by_ ow fa fb] w fun e w' => e = .returned (.bool (true)) ∧ Ext w w' := by
  have HD := Lib.hid hC.d
  have HTY := Lib.hid hty
  have HTAB := Lib.hid htab
  obtain ⟨A, c, rfl, -, -⟩ := hC.d.form
  obtain ⟨Af, cf, rfl, hcf, hmf⟩ := hC.f.form
  unfold maxLen at hmf
  clear hC hty hn htab
  have HE := Lib.hid (Ext.al2 w (.cells #[.slice A C.decls.length c, .slice Af C.funs.length cf] 117) (.cells #[.int .i64 op, .int .i64 n, .int .i64 ty, va, vb, by_, ow, fa, fb] 137))
  obtain ⟨h0, h5, h2, h6, h3, h7, h4, h8, h9, h10, h13⟩ := hop
  go_enter Tryd.func72, Tryd.ntmps72
  go_wp2
  go_ret
  exact ⟨rfl, HE.out⟩
end Go.Proofs.YtkdhhcidpklgoaaDoor

/- node: fits. -/
namespace Go.Proofs.YtkdhhcidpklgoaaDoor
open Go.RowKit

/-- The sorts that were folded, and what was folded of the branches. -/
def RFbs (w : World) (v : Value) (l : List Int) : Prop :=
  ∃ A c, v = .slice A l.length c ∧ l.length ≤ c ∧ c ≤ maxLen ∧
    ∀ i a, l[i]? = some a → ∃ b o, A = some ⟨b, o, none⟩ ∧ b < w.heap.size ∧ w.cell? ⟨b, o + i * 2 + 1, none⟩ = some (.int .i64 a)
theorem RFbs.below {w w' : World} {v : Value} {l : List Int} (h : RFbs w v l) (hb : Ext w w') : RFbs w' v l := by
  obtain ⟨A, c, rfl, h1, h2, h3⟩ := h
  refine ⟨A, c, rfl, h1, h2, fun i a hi => ?_⟩
  obtain ⟨b, o, rfl, hlt, h4⟩ := h3 i a hi
  exact ⟨b, o, rfl, Nat.lt_of_lt_of_le hlt hb.size, hb.keep h4⟩
theorem RFbs.form {w : World} {v : Value} {l : List Int} (h : RFbs w v l) : ∃ A c, v = .slice A l.length c ∧ l.length ≤ c ∧ c ≤ maxLen := by
  obtain ⟨A, c, h1, h2, h3, _⟩ := h; exact ⟨A, c, h1, h2, h3⟩
theorem RFbs.at_ {w : World} {l : List Int} {A : Option Addr} {c : Nat} (h : RFbs w (.slice A l.length c) l) {k : Nat} (hk : k < l.length) :
    ∃ b o, A = some ⟨b, o, none⟩ ∧ b < w.heap.size ∧ w.cell? ⟨b, o + k * 2 + 1, none⟩ = some (.int .i64 l[k]) := by
  obtain ⟨A', c', he, h1, h2, h3⟩ := h
  cases he
  exact h3 k _ (List.getElem?_eq_getElem hk)
theorem RXtors.nil (w : World) : RXtors w (.slice none 0 0) [] := ⟨none, 0, rfl, Nat.le_refl _, Nat.zero_le _, fun i s h => by simp at h⟩
/-- The branches of a node. -/
def RBrs (w : World) (v : Value) (k : Nat) (l : List Br) : Prop :=
  ∃ B c, v = .slice B l.length c ∧ l.length ≤ c ∧ c ≤ maxLen ∧
      ∀ i x, l[i]? = some x → ∃ b o vv vc xa xb, B = some ⟨b, o, none⟩ ∧ b < w.heap.size ∧ w.cell? ⟨b, o + i * 7, none⟩ = some vv ∧ RInts w vv x.1 ∧ w.cell? ⟨b, o + i * 7 + 1, none⟩ = some vc ∧ RBools w vc x.2.1 ∧ N5 w b (o + i * 7 + 2) x.2.2 xa xb ∧ RNd w k x.2.2 xa xb
/-- The list of what a node binds in its branches is short. -/
def shortB (l : List Br) : Prop := ∀ x ∈ l, x.1.length ≤ 1048576
theorem fitBr_drop {xs : List Xtor} {bs : List Br} {ss : List Int} {k : Nat} (h1 : k < xs.length) (h2 : k < bs.length) (h3 : k < ss.length) :
    fitBr (xs.drop k) (bs.drop k) (ss.drop k) = ((bindsB bs[k].1 bs[k].2.1 xs[k].args && decide (ss[k] = 2)) && fitBr (xs.drop (k + 1)) (bs.drop (k + 1)) (ss.drop (k + 1))) := by
  rw [drop_step h1, drop_step h2, drop_step h3]; rfl
end Go.Proofs.YtkdhhcidpklgoaaDoor
