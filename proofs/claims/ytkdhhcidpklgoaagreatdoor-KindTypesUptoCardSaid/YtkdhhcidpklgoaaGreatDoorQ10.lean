/- node: sort. -/
import Derived.Test.YtkdhhcidpklgoaaGreatDoorQ9
namespace Go.Proofs.YtkdhhcidpklgoaaGreatDoor
open Go.RowKit

def BYp (by_ : Value) (q : Bool) : Prop := (q = true ∧ ∃ a, by_ = .pointer (some a)) ∨ (q = false ∧ by_ = .pointer none)
theorem refers_all (vd vf : Value) (C : Cg) (q : Bool) (op n ty : Int) (va vb ow fa fb by_ : Value) (w : World) (hC : RCg w vd vf C) (hn : ok64 n) (hty : ok64 ty) (htab : Tabs w) (hby : BYp by_ q) :
    Calls Tryz.prog 122 #[.agg #[vd, vf], fdV op n ty va vb by_ ow fa fb] w fun e w' => e = .returned (.bool (refersB C q op n ty)) ∧ Ext w w' := by
  by_cases h0 : op = 0
  · subst h0
    rw [ref_0 (.inl rfl)]
    rcases hby with ⟨rfl, a, rfl⟩ | ⟨rfl, rfl⟩
    · exact refers_0p vd vf C n ty va vb ow fa fb (.bool true) w hC hn hty htab a
    · exact refers_0n vd vf C n ty va vb ow fa fb (.bool true) w hC hn hty htab
  by_cases h5 : op = 5
  · subst h5
    rw [ref_0 (.inr rfl)]
    rcases hby with ⟨rfl, a, rfl⟩ | ⟨rfl, rfl⟩
    · exact refers_5p vd vf C n ty va vb ow fa fb (.bool true) w hC hn hty htab a
    · exact refers_5n vd vf C n ty va vb ow fa fb (.bool true) w hC hn hty htab
  by_cases h2 : op = 2
  · subst h2; rw [ref_2]; exact refers_con2 vd vf C n ty va vb ow fa fb by_ w hC hty
  by_cases h6 : op = 6
  · subst h6; rw [ref_6]; exact refers_con6 vd vf C n ty va vb ow fa fb by_ w hC hty
  by_cases h3 : op = 3
  · subst h3; rw [ref_3 (.inl rfl)]; exact refers_3 vd vf C n ty va vb ow fa fb by_ w hC hn hty htab
  by_cases h7 : op = 7
  · subst h7; rw [ref_3 (.inr rfl)]; exact refers_7 vd vf C n ty va vb ow fa fb by_ w hC hn hty htab
  by_cases h4 : op = 4
  · subst h4; rw [ref_4]; exact refers_4 vd vf C n ty va vb ow fa fb by_ w hC hn hty htab
  by_cases h8 : op = 8
  · subst h8; rw [ref_8]; exact refers_8 vd vf C n ty va vb ow fa fb by_ w hC hn hty htab
  by_cases h9 : op = 9
  · subst h9; rw [ref_9]; exact refers_9 vd vf C n ty va vb ow fa fb by_ w hC hn hty htab
  by_cases h10 : op = 10
  · subst h10; rw [ref_10]; exact refers_10 vd vf C n ty va vb ow fa fb by_ w hC hn hty htab
  by_cases h13 : op = 13
  · subst h13; rw [ref_13]; exact refers_13 vd vf C n ty va vb ow fa fb by_ w hC hn hty htab
  have hop : op ≠ 0 ∧ op ≠ 5 ∧ op ≠ 2 ∧ op ≠ 6 ∧ op ≠ 3 ∧ op ≠ 7 ∧ op ≠ 4 ∧ op ≠ 8 ∧ op ≠ 9 ∧ op ≠ 10 ∧ op ≠ 13 := ⟨h0, h5, h2, h6, h3, h7, h4, h8, h9, h10, h13⟩
  rw [ref_no hop]
  exact refers_no vd vf C op n ty va vb ow fa fb by_ w hC hn hty htab hop

/-- The lists of a program are short, and its numbers are integers. -/
structure ShC (C : Cg) : Prop where
  dl : C.decls.length ≤ 1048576
  fl : C.funs.length ≤ 1048576
  xt : ∀ d ∈ C.decls, d.xtors.length ≤ 1048576 ∧ ∀ x ∈ d.xtors, x.args.length ≤ 1048576 ∧ ∀ a ∈ x.args, ok64 a.ty
  fn : ∀ f ∈ C.funs, f.ps.length ≤ 1048576 ∧ f.vars.length ≤ 1048576 ∧ (∀ a ∈ f.ps, ok64 a.ty)
theorem ShC.xtors {C : Cg} (h : ShC C) (ty : Int) : (xtorsC C ty).length ≤ 1048576 := by
  unfold xtorsC declC
  rw [List.getD_eq_getElem?_getD]
  cases hd : C.decls[(ty - 1).toNat]? with
  | none => simp [noDecl]
  | some d => exact (h.xt d (List.mem_of_getElem? hd)).1
theorem ShC.hd {C : Cg} (h : ShC C) (op n ty : Int) : (hdArgs C op n ty).length ≤ 1048576 ∧ ∀ a ∈ hdArgs C op n ty, ok64 a.ty := by
  unfold hdArgs
  split
  · unfold xtorsC declC
    rw [List.getD_eq_getElem?_getD, List.getD_eq_getElem?_getD]
    cases hd : C.decls[(ty - 1).toNat]? with
    | none => simp [noDecl, noXtor]
    | some d =>
      simp only [Option.getD_some]
      cases hx : d.xtors[n.toNat]? with
      | none => simp [noXtor]
      | some x => exact (h.xt d (List.mem_of_getElem? hd)).2 x (List.mem_of_getElem? hx)
  · split
    · rw [List.getD_eq_getElem?_getD]
      cases hf : C.funs[n.toNat]? with
      | none => simp [noCF]
      | some f => exact ⟨(h.fn f (List.mem_of_getElem? hf)).1, (h.fn f (List.mem_of_getElem? hf)).2.2⟩
    · simp
theorem app_of {C : Cg} {q : Bool} {op n ty : Int} (h : refersB C q op n ty = true) : appB C op n ty := by
  constructor
  · rintro (rfl | rfl)
    · rw [ref_2, Bool.and_eq_true] at h
      have h2 := h.2
      unfold isIdxC at h2
      simp only [Bool.and_eq_true, decide_eq_true_eq] at h2
      exact ⟨(decls_bnd h.1).1, (decls_bnd h.1).2, h2.1, h2.2⟩
    · rw [ref_6, Bool.and_eq_true] at h
      have h2 := h.2
      unfold isIdxC at h2
      simp only [Bool.and_eq_true, decide_eq_true_eq] at h2
      exact ⟨(decls_bnd h.1).1, (decls_bnd h.1).2, h2.1, h2.2⟩
  · rintro rfl
    rw [ref_13] at h
    unfold isIdxC at h
    simp only [Bool.and_eq_true, decide_eq_true_eq] at h
    exact h
def fitsQ (C : Cg) (op n ty : Int) (na : Nat) (brs : List Br) (la lb : List Int) : Bool :=
  decide (na = (wantS C op n ty).length) && decide (la = wantS C op n ty) && decide (brs.length = (if usesB op then xtorsC C ty else []).length) && fitBr (if usesB op then xtorsC C ty else []) brs lb
theorem fits_all (vd vf : Value) (C : Cg) (q : Bool) (op n ty : Int) (k : Nat) (vb by_ ow fa fb vs : Value) (A : Option Addr) (na ca : Nat) (brs : List Br) (la lb : List Int) (w : World) (hC : RCg w vd vf C) (hS : ShC C) (hna : na ≤ 1048576) (hvb : RBrs w vb k brs) (hfa : RInts w fa la) (hfb : RFbs w fb lb) (hsh : RInts w vs (argsS op))
    (href : refersB C q op n ty = true) (hshort : shortB brs) (hlb : leafB op = false → lb.length = brs.length) (r : Bool) (hr : fitsQ C op n ty na brs la lb = r) :
    Calls Tryz.prog 123 #[.agg #[vd, vf], fdV op n ty (.slice A na ca) vb by_ ow fa fb, .agg #[.int .i64 (sortOp op), .bool (usesN op), .bool (usesT op), .bool (usesB op), vs]] w fun e w' => e = .returned (.bool r) ∧ Ext w w' := by
  subst hr
  have happ := app_of href
  by_cases h2 : op = 2
  · subst h2; exact fits_2 vd vf C n ty k vb by_ ow fa fb vs A na ca brs la lb w hC hna hvb hfa hfb hsh happ (hS.hd _ _ _).1
  by_cases h6 : op = 6
  · subst h6; exact fits_6 vd vf C n ty k vb by_ ow fa fb vs A na ca brs la lb w hC hna hvb hfa hfb hsh happ (hS.hd _ _ _).1
  by_cases h13 : op = 13
  · subst h13; exact fits_13 vd vf C n ty k vb by_ ow fa fb vs A na ca brs la lb w hC hna hvb hfa hfb hsh happ (hS.hd _ _ _).1
  by_cases h4 : op = 4
  · subst h4; rw [ref_4] at href
    exact fits_4 vd vf C n ty k vb by_ ow fa fb vs A na ca brs la lb w hC hna hvb hfa hfb hsh (decls_bnd href).1 (decls_bnd href).2 hshort (hlb rfl) (hS.xtors _)
  by_cases h8 : op = 8
  · subst h8; rw [ref_8] at href
    exact fits_8 vd vf C n ty k vb by_ ow fa fb vs A na ca brs la lb w hC hna hvb hfa hfb hsh (decls_bnd href).1 (decls_bnd href).2 hshort (hlb rfl) (hS.xtors _)
  exact fits_other vd vf C op n ty k vb by_ ow fa fb vs A na ca brs la lb w hC hna hvb hfa hfb hsh ⟨h2, h6, h13, h4, h8⟩
theorem refers_is (vd vf : Value) (C : Cg) (q : Bool) (op n ty : Int) (va vb ow fa fb by_ : Value) (w : World) (hC : RCg w vd vf C) (hn : ok64 n) (hty : ok64 ty) (htab : Tabs w) (hby : BYp by_ q) (r : Bool) (hr : refersB C q op n ty = r) :
    Calls Tryz.prog 122 #[.agg #[vd, vf], fdV op n ty va vb by_ ow fa fb] w fun e w' => e = .returned (.bool r) ∧ Ext w w' := by
  subst hr; exact refers_all vd vf C q op n ty va vb ow fa fb by_ w hC hn hty htab hby
set_option maxHeartbeats 8000000 in
set_option maxRecDepth 100000 in
theorem sort_any (vd vf : Value) (C : Cg) (q : Bool) (op n ty : Int) (k : Nat) (va vb by_ ow fa fb : Value) (na : Nat) (brs : List Br) (la lb : List Int) (w : World) (hC : RCg w vd vf C) (hS : ShC C) (hn : ok64 n) (hty : ok64 ty) (htab : Tabs w) (hva : ∃ A ca, va = .slice A na ca) (hna : na ≤ 1048576) (hvb : RBrs w vb k brs) (hfa : RInts w fa la) (hfb : RFbs w fb lb)
    (hby : BYp by_ q) (hshort : shortB brs) (hlb : leafB op = false → lb.length = brs.length) :
    Calls Tryz.prog 94 #[.agg #[vd, vf], fdV op n ty va vb by_ ow fa fb] w fun e w' => e = .returned (.int .i64 (upN C q op n ty na brs la lb)) ∧ Ext w w' := by
  have HC := Lib.hid hC; have HS := Lib.hid hS; have HVB := Lib.hid hvb; have HFA := Lib.hid hfa; have HFB := Lib.hid hfb; have HN := Lib.hid hn; have HTY := Lib.hid hty; have HTAB := Lib.hid htab; have HBY := Lib.hid hby; have HSH := Lib.hid hshort; have HLB := Lib.hid hlb; have HNA := Lib.hid hna
  obtain ⟨A, ca, rfl⟩ := hva
  obtain ⟨vs, hvs, hcall⟩ := shapeOf_any op w htab
  have HVS := Lib.hid hvs; have HCALL := Lib.hid hcall
  obtain ⟨Ad, cd, rfl, -, -⟩ := hC.d.form
  obtain ⟨Af, cf, rfl, -, -⟩ := hC.f.form
  obtain ⟨As, cs, rfl, -, -⟩ := hvs.form
  obtain ⟨Ab, cb, rfl, -, -⟩ := hvb
  obtain ⟨Ala, cla, rfl, -, -⟩ := hfa.form
  obtain ⟨Alb, clb, rfl, -, -⟩ := hfb.form
  clear hC hS hn hty htab hna hfa hfb hby hshort hlb hvs hcall
  have HE := Lib.hid (Ext.al2 w (.cells #[.slice Ad C.decls.length cd, .slice Af C.funs.length cf] 171) (.cells #[.int .i64 op, .int .i64 n, .int .i64 ty, .slice A na ca, .slice Ab brs.length cb, by_, ow, .slice Ala la.length cla, .slice Alb lb.length clb] 208))
  have HB1 := Lib.hid (Ext.lt (Ext.al (w.alloc (.cells #[.slice Ad C.decls.length cd, .slice Af C.funs.length cf] 171)) (.cells #[.int .i64 op, .int .i64 n, .int .i64 ty, .slice A na ca, .slice Ab brs.length cb, by_, ow, .slice Ala la.length cla, .slice Alb lb.length clb] 208)) (heapNew w _))
  have HB2 := Lib.hid (heapNew2 w (.cells #[.slice Ad C.decls.length cd, .slice Af C.funs.length cf] 171) (.cells #[.int .i64 op, .int .i64 n, .int .i64 ty, .slice A na ca, .slice Ab brs.length cb, by_, ow, .slice Ala la.length cla, .slice Alb lb.length clb] 208))
  have HREF : Hid (∀ (r : Bool) (w' : World), refersB C q op n ty = r → Ext w w' → Calls Tryz.prog 122 #[.agg #[.slice Ad C.decls.length cd, .slice Af C.funs.length cf], fdV op n ty (.slice A na ca) (.slice Ab brs.length cb) by_ ow (.slice Ala la.length cla) (.slice Alb lb.length clb)] w' fun e w'' => e = .returned (.bool r) ∧ Ext w' w'') :=
    fun r w' h hx => refers_is _ _ C q op n ty _ _ ow _ _ by_ w' (HC.out.below hx) HN.out HTY.out (HTAB.out.ext hx) HBY.out r h
  have HFIT : Hid (∀ (r : Bool) (w' : World), refersB C q op n ty = true → fitsQ C op n ty na brs la lb = r → Ext w w' → Calls Tryz.prog 123 #[.agg #[.slice Ad C.decls.length cd, .slice Af C.funs.length cf], fdV op n ty (.slice A na ca) (.slice Ab brs.length cb) by_ ow (.slice Ala la.length cla) (.slice Alb lb.length clb), .agg #[.int .i64 (sortOp op), .bool (usesN op), .bool (usesT op), .bool (usesB op), .slice As (argsS op).length cs]] w' fun e w'' => e = .returned (.bool r) ∧ Ext w' w'') :=
    fun r w' h h2 hx => fits_all _ _ C q op n ty k _ by_ ow _ _ _ A na ca brs la lb w' (HC.out.below hx) HS.out HNA.out (by obtain ⟨B', c', e', p1, p2, p3⟩ := HVB.out; exact ⟨B', c', e', p1, p2, fun i x hi => by obtain ⟨b, o, vv, vc, xa, xb, e, hlt, hn, hs, hn2, hs2, hc, hr⟩ := p3 i x hi; exact ⟨b, o, vv, vc, xa, xb, e, Nat.lt_of_lt_of_le hlt hx.size, hx.keep hn, hs.below hx, hx.keep hn2, hs2.below hx, hc.below hx, hr.below hx⟩⟩) (HFA.out.below hx) (HFB.out.below hx) (HVS.out.below hx) h HSH.out HLB.out r h2
  have HU : Hid (upN C q op n ty na brs la lb = if ((usesN op || decide (n = 0)) && (usesT op || decide (ty = 0)) && refersB C q op n ty && fitsQ C op n ty na brs la lb) then sortOp op else 3) := rfl
  generalize upN C q op n ty na brs la lb = R at *
  clear HC HS HVB HFA HFB HN HTY HTAB HBY HSH HLB HNA HVS
  generalize (argsS op).length = nsh at *
  generalize sortOp op = so at *
  generalize usesN op = un at *
  generalize usesT op = ut at *
  generalize usesB op = ub at *
  generalize refersB C q op n ty = rf at *
  generalize fitsQ C op n ty na brs la lb = ft at *
  cases un
  · by_cases hn0 : n = 0
    · subst hn0
      cases ut
      · by_cases ht0 : ty = 0
        · subst ht0
          cases rf
          · skip
            go_enter Tryz.func94, Tryz.ntmps94
            go_wp2_with (first
              | (go_at_call 121; (with_reducible refine (HCALL.out _ HE.out).mono ?_); rintro e w3 ⟨rfl, hx⟩; have HX3 := Lib.hid hx; have hb1 := hx.lt HB1.out; have hb2 := hx.lt HB2.out; have b0 := cellAt hb1 0; have b1 := cellAt hb1 1; have f0 := cellAt hb2 0; have f1 := cellAt hb2 1; have f2 := cellAt hb2 2; have f3 := cellAt hb2 3; have f4 := cellAt hb2 4; have f5 := cellAt hb2 5; have f6 := cellAt hb2 6; have f7 := cellAt hb2 7; have f8 := cellAt hb2 8; have HB1x := Lib.hid hb1; have HB2x := Lib.hid hb2; have hz3 : w.heap.size + 1 < w3.heap.size := heap_lt hb2; have hz3b : w.heap.size < w3.heap.size := heap_lt hb1; clear hx hb1 hb2)
              | (go_at_call 122; (with_reducible refine (HREF.out _ _ rfl ((HE.out.tr HX3.out).tr (Ext.al _ _))).mono ?_); rintro e w4 ⟨rfl, hx⟩; have HX4 := Lib.hid ((HX3.out.tr (Ext.al _ _)).tr hx); have hb3 := hx.lt (heapNew w3 (.cells #[.int .i64 so, .bool false, .bool false, .bool ub, .slice As nsh cs] 214)); have hb1 := HX4.out.lt HB1.out; have hb2 := HX4.out.lt HB2.out; clear b0 b1 f0 f1 f2 f3 f4 f5 f6 f7 f8; have b0 := cellAt hb1 0; have b1 := cellAt hb1 1; have f0 := cellAt hb2 0; have f1 := cellAt hb2 1; have f2 := cellAt hb2 2; have f3 := cellAt hb2 3; have f4 := cellAt hb2 4; have f5 := cellAt hb2 5; have f6 := cellAt hb2 6; have f7 := cellAt hb2 7; have f8 := cellAt hb2 8; have s0 := cellAt hb3 0; have s1 := cellAt hb3 1; have s2 := cellAt hb3 2; have s3 := cellAt hb3 3; have s4 := cellAt hb3 4; have HB3 := Lib.hid hb3; clear hx hb1 hb2 hb3))
            go_ret
            exact ⟨ret_int (HU.out.symm), HE.out.tr HX4.out⟩
          · cases ft
            · skip
              go_enter Tryz.func94, Tryz.ntmps94
              go_wp2_with (first
                | (go_at_call 121; (with_reducible refine (HCALL.out _ HE.out).mono ?_); rintro e w3 ⟨rfl, hx⟩; have HX3 := Lib.hid hx; have hb1 := hx.lt HB1.out; have hb2 := hx.lt HB2.out; have b0 := cellAt hb1 0; have b1 := cellAt hb1 1; have f0 := cellAt hb2 0; have f1 := cellAt hb2 1; have f2 := cellAt hb2 2; have f3 := cellAt hb2 3; have f4 := cellAt hb2 4; have f5 := cellAt hb2 5; have f6 := cellAt hb2 6; have f7 := cellAt hb2 7; have f8 := cellAt hb2 8; have HB1x := Lib.hid hb1; have HB2x := Lib.hid hb2; have hz3 : w.heap.size + 1 < w3.heap.size := heap_lt hb2; have hz3b : w.heap.size < w3.heap.size := heap_lt hb1; clear hx hb1 hb2)
                | (go_at_call 122; (with_reducible refine (HREF.out _ _ rfl ((HE.out.tr HX3.out).tr (Ext.al _ _))).mono ?_); rintro e w4 ⟨rfl, hx⟩; have HX4 := Lib.hid ((HX3.out.tr (Ext.al _ _)).tr hx); have hb3 := hx.lt (heapNew w3 (.cells #[.int .i64 so, .bool false, .bool false, .bool ub, .slice As nsh cs] 214)); have hb1 := HX4.out.lt HB1.out; have hb2 := HX4.out.lt HB2.out; clear b0 b1 f0 f1 f2 f3 f4 f5 f6 f7 f8; have b0 := cellAt hb1 0; have b1 := cellAt hb1 1; have f0 := cellAt hb2 0; have f1 := cellAt hb2 1; have f2 := cellAt hb2 2; have f3 := cellAt hb2 3; have f4 := cellAt hb2 4; have f5 := cellAt hb2 5; have f6 := cellAt hb2 6; have f7 := cellAt hb2 7; have f8 := cellAt hb2 8; have s0 := cellAt hb3 0; have s1 := cellAt hb3 1; have s2 := cellAt hb3 2; have s3 := cellAt hb3 3; have s4 := cellAt hb3 4; have HB3 := Lib.hid hb3; clear hx hb1 hb2 hb3)
                | (go_at_call 123; (with_reducible refine (HFIT.out _ _ (by trivial) rfl (HE.out.tr HX4.out)).mono ?_); rintro e w5 ⟨rfl, hx⟩; have HX5 := Lib.hid (HX4.out.tr hx); have hb3 := hx.lt HB3.out; clear s0 s1 s2 s3 s4; have s0 := cellAt hb3 0; clear hx hb3))
              go_ret
              exact ⟨ret_int (HU.out.symm), HE.out.tr HX5.out⟩
            · skip
              go_enter Tryz.func94, Tryz.ntmps94
              go_wp2_with (first
                | (go_at_call 121; (with_reducible refine (HCALL.out _ HE.out).mono ?_); rintro e w3 ⟨rfl, hx⟩; have HX3 := Lib.hid hx; have hb1 := hx.lt HB1.out; have hb2 := hx.lt HB2.out; have b0 := cellAt hb1 0; have b1 := cellAt hb1 1; have f0 := cellAt hb2 0; have f1 := cellAt hb2 1; have f2 := cellAt hb2 2; have f3 := cellAt hb2 3; have f4 := cellAt hb2 4; have f5 := cellAt hb2 5; have f6 := cellAt hb2 6; have f7 := cellAt hb2 7; have f8 := cellAt hb2 8; have HB1x := Lib.hid hb1; have HB2x := Lib.hid hb2; have hz3 : w.heap.size + 1 < w3.heap.size := heap_lt hb2; have hz3b : w.heap.size < w3.heap.size := heap_lt hb1; clear hx hb1 hb2)
                | (go_at_call 122; (with_reducible refine (HREF.out _ _ rfl ((HE.out.tr HX3.out).tr (Ext.al _ _))).mono ?_); rintro e w4 ⟨rfl, hx⟩; have HX4 := Lib.hid ((HX3.out.tr (Ext.al _ _)).tr hx); have hb3 := hx.lt (heapNew w3 (.cells #[.int .i64 so, .bool false, .bool false, .bool ub, .slice As nsh cs] 214)); have hb1 := HX4.out.lt HB1.out; have hb2 := HX4.out.lt HB2.out; clear b0 b1 f0 f1 f2 f3 f4 f5 f6 f7 f8; have b0 := cellAt hb1 0; have b1 := cellAt hb1 1; have f0 := cellAt hb2 0; have f1 := cellAt hb2 1; have f2 := cellAt hb2 2; have f3 := cellAt hb2 3; have f4 := cellAt hb2 4; have f5 := cellAt hb2 5; have f6 := cellAt hb2 6; have f7 := cellAt hb2 7; have f8 := cellAt hb2 8; have s0 := cellAt hb3 0; have s1 := cellAt hb3 1; have s2 := cellAt hb3 2; have s3 := cellAt hb3 3; have s4 := cellAt hb3 4; have HB3 := Lib.hid hb3; clear hx hb1 hb2 hb3)
                | (go_at_call 123; (with_reducible refine (HFIT.out _ _ (by trivial) rfl (HE.out.tr HX4.out)).mono ?_); rintro e w5 ⟨rfl, hx⟩; have HX5 := Lib.hid (HX4.out.tr hx); have hb3 := hx.lt HB3.out; clear s0 s1 s2 s3 s4; have s0 := cellAt hb3 0; clear hx hb3))
              go_ret
              exact ⟨ret_int (HU.out.symm), HE.out.tr HX5.out⟩
        · have e1 : (ty != 0) = true := bne_iff_ne.2 ht0
          have e2 : (ty == 0) = false := beq_eq_false_iff_ne.2 ht0
          rw [decide_eq_false ht0] at HU
          have HUF : Hid (R = 3) := by show R = 3; rw [HU.out]; simp
          go_enter Tryz.func94, Tryz.ntmps94
          go_wp2_with (first
            | (go_at_call 121; (with_reducible refine (HCALL.out _ HE.out).mono ?_); rintro e w3 ⟨rfl, hx⟩; have HX3 := Lib.hid hx; have hb1 := hx.lt HB1.out; have hb2 := hx.lt HB2.out; have b0 := cellAt hb1 0; have b1 := cellAt hb1 1; have f0 := cellAt hb2 0; have f1 := cellAt hb2 1; have f2 := cellAt hb2 2; have f3 := cellAt hb2 3; have f4 := cellAt hb2 4; have f5 := cellAt hb2 5; have f6 := cellAt hb2 6; have f7 := cellAt hb2 7; have f8 := cellAt hb2 8; have HB1x := Lib.hid hb1; have HB2x := Lib.hid hb2; have hz3 : w.heap.size + 1 < w3.heap.size := heap_lt hb2; have hz3b : w.heap.size < w3.heap.size := heap_lt hb1; clear hx hb1 hb2))
          go_ret
          exact ⟨ret_int (HUF.out.symm), HE.out.tr (HX3.out.tr (Ext.al _ _))⟩
      · skip
        cases rf
        · skip
          go_enter Tryz.func94, Tryz.ntmps94
          go_wp2_with (first
            | (go_at_call 121; (with_reducible refine (HCALL.out _ HE.out).mono ?_); rintro e w3 ⟨rfl, hx⟩; have HX3 := Lib.hid hx; have hb1 := hx.lt HB1.out; have hb2 := hx.lt HB2.out; have b0 := cellAt hb1 0; have b1 := cellAt hb1 1; have f0 := cellAt hb2 0; have f1 := cellAt hb2 1; have f2 := cellAt hb2 2; have f3 := cellAt hb2 3; have f4 := cellAt hb2 4; have f5 := cellAt hb2 5; have f6 := cellAt hb2 6; have f7 := cellAt hb2 7; have f8 := cellAt hb2 8; have HB1x := Lib.hid hb1; have HB2x := Lib.hid hb2; have hz3 : w.heap.size + 1 < w3.heap.size := heap_lt hb2; have hz3b : w.heap.size < w3.heap.size := heap_lt hb1; clear hx hb1 hb2)
            | (go_at_call 122; (with_reducible refine (HREF.out _ _ rfl ((HE.out.tr HX3.out).tr (Ext.al _ _))).mono ?_); rintro e w4 ⟨rfl, hx⟩; have HX4 := Lib.hid ((HX3.out.tr (Ext.al _ _)).tr hx); have hb3 := hx.lt (heapNew w3 (.cells #[.int .i64 so, .bool false, .bool true, .bool ub, .slice As nsh cs] 214)); have hb1 := HX4.out.lt HB1.out; have hb2 := HX4.out.lt HB2.out; clear b0 b1 f0 f1 f2 f3 f4 f5 f6 f7 f8; have b0 := cellAt hb1 0; have b1 := cellAt hb1 1; have f0 := cellAt hb2 0; have f1 := cellAt hb2 1; have f2 := cellAt hb2 2; have f3 := cellAt hb2 3; have f4 := cellAt hb2 4; have f5 := cellAt hb2 5; have f6 := cellAt hb2 6; have f7 := cellAt hb2 7; have f8 := cellAt hb2 8; have s0 := cellAt hb3 0; have s1 := cellAt hb3 1; have s2 := cellAt hb3 2; have s3 := cellAt hb3 3; have s4 := cellAt hb3 4; have HB3 := Lib.hid hb3; clear hx hb1 hb2 hb3))
          go_ret
          exact ⟨ret_int (HU.out.symm), HE.out.tr HX4.out⟩
        · cases ft
          · skip
            go_enter Tryz.func94, Tryz.ntmps94
            go_wp2_with (first
              | (go_at_call 121; (with_reducible refine (HCALL.out _ HE.out).mono ?_); rintro e w3 ⟨rfl, hx⟩; have HX3 := Lib.hid hx; have hb1 := hx.lt HB1.out; have hb2 := hx.lt HB2.out; have b0 := cellAt hb1 0; have b1 := cellAt hb1 1; have f0 := cellAt hb2 0; have f1 := cellAt hb2 1; have f2 := cellAt hb2 2; have f3 := cellAt hb2 3; have f4 := cellAt hb2 4; have f5 := cellAt hb2 5; have f6 := cellAt hb2 6; have f7 := cellAt hb2 7; have f8 := cellAt hb2 8; have HB1x := Lib.hid hb1; have HB2x := Lib.hid hb2; have hz3 : w.heap.size + 1 < w3.heap.size := heap_lt hb2; have hz3b : w.heap.size < w3.heap.size := heap_lt hb1; clear hx hb1 hb2)
              | (go_at_call 122; (with_reducible refine (HREF.out _ _ rfl ((HE.out.tr HX3.out).tr (Ext.al _ _))).mono ?_); rintro e w4 ⟨rfl, hx⟩; have HX4 := Lib.hid ((HX3.out.tr (Ext.al _ _)).tr hx); have hb3 := hx.lt (heapNew w3 (.cells #[.int .i64 so, .bool false, .bool true, .bool ub, .slice As nsh cs] 214)); have hb1 := HX4.out.lt HB1.out; have hb2 := HX4.out.lt HB2.out; clear b0 b1 f0 f1 f2 f3 f4 f5 f6 f7 f8; have b0 := cellAt hb1 0; have b1 := cellAt hb1 1; have f0 := cellAt hb2 0; have f1 := cellAt hb2 1; have f2 := cellAt hb2 2; have f3 := cellAt hb2 3; have f4 := cellAt hb2 4; have f5 := cellAt hb2 5; have f6 := cellAt hb2 6; have f7 := cellAt hb2 7; have f8 := cellAt hb2 8; have s0 := cellAt hb3 0; have s1 := cellAt hb3 1; have s2 := cellAt hb3 2; have s3 := cellAt hb3 3; have s4 := cellAt hb3 4; have HB3 := Lib.hid hb3; clear hx hb1 hb2 hb3)
              | (go_at_call 123; (with_reducible refine (HFIT.out _ _ (by trivial) rfl (HE.out.tr HX4.out)).mono ?_); rintro e w5 ⟨rfl, hx⟩; have HX5 := Lib.hid (HX4.out.tr hx); have hb3 := hx.lt HB3.out; clear s0 s1 s2 s3 s4; have s0 := cellAt hb3 0; clear hx hb3))
            go_ret
            exact ⟨ret_int (HU.out.symm), HE.out.tr HX5.out⟩
          · skip
            go_enter Tryz.func94, Tryz.ntmps94
            go_wp2_with (first
              | (go_at_call 121; (with_reducible refine (HCALL.out _ HE.out).mono ?_); rintro e w3 ⟨rfl, hx⟩; have HX3 := Lib.hid hx; have hb1 := hx.lt HB1.out; have hb2 := hx.lt HB2.out; have b0 := cellAt hb1 0; have b1 := cellAt hb1 1; have f0 := cellAt hb2 0; have f1 := cellAt hb2 1; have f2 := cellAt hb2 2; have f3 := cellAt hb2 3; have f4 := cellAt hb2 4; have f5 := cellAt hb2 5; have f6 := cellAt hb2 6; have f7 := cellAt hb2 7; have f8 := cellAt hb2 8; have HB1x := Lib.hid hb1; have HB2x := Lib.hid hb2; have hz3 : w.heap.size + 1 < w3.heap.size := heap_lt hb2; have hz3b : w.heap.size < w3.heap.size := heap_lt hb1; clear hx hb1 hb2)
              | (go_at_call 122; (with_reducible refine (HREF.out _ _ rfl ((HE.out.tr HX3.out).tr (Ext.al _ _))).mono ?_); rintro e w4 ⟨rfl, hx⟩; have HX4 := Lib.hid ((HX3.out.tr (Ext.al _ _)).tr hx); have hb3 := hx.lt (heapNew w3 (.cells #[.int .i64 so, .bool false, .bool true, .bool ub, .slice As nsh cs] 214)); have hb1 := HX4.out.lt HB1.out; have hb2 := HX4.out.lt HB2.out; clear b0 b1 f0 f1 f2 f3 f4 f5 f6 f7 f8; have b0 := cellAt hb1 0; have b1 := cellAt hb1 1; have f0 := cellAt hb2 0; have f1 := cellAt hb2 1; have f2 := cellAt hb2 2; have f3 := cellAt hb2 3; have f4 := cellAt hb2 4; have f5 := cellAt hb2 5; have f6 := cellAt hb2 6; have f7 := cellAt hb2 7; have f8 := cellAt hb2 8; have s0 := cellAt hb3 0; have s1 := cellAt hb3 1; have s2 := cellAt hb3 2; have s3 := cellAt hb3 3; have s4 := cellAt hb3 4; have HB3 := Lib.hid hb3; clear hx hb1 hb2 hb3)
              | (go_at_call 123; (with_reducible refine (HFIT.out _ _ (by trivial) rfl (HE.out.tr HX4.out)).mono ?_); rintro e w5 ⟨rfl, hx⟩; have HX5 := Lib.hid (HX4.out.tr hx); have hb3 := hx.lt HB3.out; clear s0 s1 s2 s3 s4; have s0 := cellAt hb3 0; clear hx hb3))
            go_ret
            exact ⟨ret_int (HU.out.symm), HE.out.tr HX5.out⟩
    · have e1 : (n != 0) = true := bne_iff_ne.2 hn0
      have e2 : (n == 0) = false := beq_eq_false_iff_ne.2 hn0
      rw [decide_eq_false hn0] at HU
      have HUF : Hid (R = 3) := by show R = 3; rw [HU.out]; simp
      go_enter Tryz.func94, Tryz.ntmps94
      go_wp2_with (first
        | (go_at_call 121; (with_reducible refine (HCALL.out _ HE.out).mono ?_); rintro e w3 ⟨rfl, hx⟩; have HX3 := Lib.hid hx; have hb1 := hx.lt HB1.out; have hb2 := hx.lt HB2.out; have b0 := cellAt hb1 0; have b1 := cellAt hb1 1; have f0 := cellAt hb2 0; have f1 := cellAt hb2 1; have f2 := cellAt hb2 2; have f3 := cellAt hb2 3; have f4 := cellAt hb2 4; have f5 := cellAt hb2 5; have f6 := cellAt hb2 6; have f7 := cellAt hb2 7; have f8 := cellAt hb2 8; have HB1x := Lib.hid hb1; have HB2x := Lib.hid hb2; have hz3 : w.heap.size + 1 < w3.heap.size := heap_lt hb2; have hz3b : w.heap.size < w3.heap.size := heap_lt hb1; clear hx hb1 hb2))
      go_ret
      exact ⟨ret_int (HUF.out.symm), HE.out.tr (HX3.out.tr (Ext.al _ _))⟩
  · skip
    cases ut
    · by_cases ht0 : ty = 0
      · subst ht0
        cases rf
        · skip
          go_enter Tryz.func94, Tryz.ntmps94
          go_wp2_with (first
            | (go_at_call 121; (with_reducible refine (HCALL.out _ HE.out).mono ?_); rintro e w3 ⟨rfl, hx⟩; have HX3 := Lib.hid hx; have hb1 := hx.lt HB1.out; have hb2 := hx.lt HB2.out; have b0 := cellAt hb1 0; have b1 := cellAt hb1 1; have f0 := cellAt hb2 0; have f1 := cellAt hb2 1; have f2 := cellAt hb2 2; have f3 := cellAt hb2 3; have f4 := cellAt hb2 4; have f5 := cellAt hb2 5; have f6 := cellAt hb2 6; have f7 := cellAt hb2 7; have f8 := cellAt hb2 8; have HB1x := Lib.hid hb1; have HB2x := Lib.hid hb2; have hz3 : w.heap.size + 1 < w3.heap.size := heap_lt hb2; have hz3b : w.heap.size < w3.heap.size := heap_lt hb1; clear hx hb1 hb2)
            | (go_at_call 122; (with_reducible refine (HREF.out _ _ rfl ((HE.out.tr HX3.out).tr (Ext.al _ _))).mono ?_); rintro e w4 ⟨rfl, hx⟩; have HX4 := Lib.hid ((HX3.out.tr (Ext.al _ _)).tr hx); have hb3 := hx.lt (heapNew w3 (.cells #[.int .i64 so, .bool true, .bool false, .bool ub, .slice As nsh cs] 214)); have hb1 := HX4.out.lt HB1.out; have hb2 := HX4.out.lt HB2.out; clear b0 b1 f0 f1 f2 f3 f4 f5 f6 f7 f8; have b0 := cellAt hb1 0; have b1 := cellAt hb1 1; have f0 := cellAt hb2 0; have f1 := cellAt hb2 1; have f2 := cellAt hb2 2; have f3 := cellAt hb2 3; have f4 := cellAt hb2 4; have f5 := cellAt hb2 5; have f6 := cellAt hb2 6; have f7 := cellAt hb2 7; have f8 := cellAt hb2 8; have s0 := cellAt hb3 0; have s1 := cellAt hb3 1; have s2 := cellAt hb3 2; have s3 := cellAt hb3 3; have s4 := cellAt hb3 4; have HB3 := Lib.hid hb3; clear hx hb1 hb2 hb3))
          go_ret
          exact ⟨ret_int (HU.out.symm), HE.out.tr HX4.out⟩
        · cases ft
          · skip
            go_enter Tryz.func94, Tryz.ntmps94
            go_wp2_with (first
              | (go_at_call 121; (with_reducible refine (HCALL.out _ HE.out).mono ?_); rintro e w3 ⟨rfl, hx⟩; have HX3 := Lib.hid hx; have hb1 := hx.lt HB1.out; have hb2 := hx.lt HB2.out; have b0 := cellAt hb1 0; have b1 := cellAt hb1 1; have f0 := cellAt hb2 0; have f1 := cellAt hb2 1; have f2 := cellAt hb2 2; have f3 := cellAt hb2 3; have f4 := cellAt hb2 4; have f5 := cellAt hb2 5; have f6 := cellAt hb2 6; have f7 := cellAt hb2 7; have f8 := cellAt hb2 8; have HB1x := Lib.hid hb1; have HB2x := Lib.hid hb2; have hz3 : w.heap.size + 1 < w3.heap.size := heap_lt hb2; have hz3b : w.heap.size < w3.heap.size := heap_lt hb1; clear hx hb1 hb2)
              | (go_at_call 122; (with_reducible refine (HREF.out _ _ rfl ((HE.out.tr HX3.out).tr (Ext.al _ _))).mono ?_); rintro e w4 ⟨rfl, hx⟩; have HX4 := Lib.hid ((HX3.out.tr (Ext.al _ _)).tr hx); have hb3 := hx.lt (heapNew w3 (.cells #[.int .i64 so, .bool true, .bool false, .bool ub, .slice As nsh cs] 214)); have hb1 := HX4.out.lt HB1.out; have hb2 := HX4.out.lt HB2.out; clear b0 b1 f0 f1 f2 f3 f4 f5 f6 f7 f8; have b0 := cellAt hb1 0; have b1 := cellAt hb1 1; have f0 := cellAt hb2 0; have f1 := cellAt hb2 1; have f2 := cellAt hb2 2; have f3 := cellAt hb2 3; have f4 := cellAt hb2 4; have f5 := cellAt hb2 5; have f6 := cellAt hb2 6; have f7 := cellAt hb2 7; have f8 := cellAt hb2 8; have s0 := cellAt hb3 0; have s1 := cellAt hb3 1; have s2 := cellAt hb3 2; have s3 := cellAt hb3 3; have s4 := cellAt hb3 4; have HB3 := Lib.hid hb3; clear hx hb1 hb2 hb3)
              | (go_at_call 123; (with_reducible refine (HFIT.out _ _ (by trivial) rfl (HE.out.tr HX4.out)).mono ?_); rintro e w5 ⟨rfl, hx⟩; have HX5 := Lib.hid (HX4.out.tr hx); have hb3 := hx.lt HB3.out; clear s0 s1 s2 s3 s4; have s0 := cellAt hb3 0; clear hx hb3))
            go_ret
            exact ⟨ret_int (HU.out.symm), HE.out.tr HX5.out⟩
          · skip
            go_enter Tryz.func94, Tryz.ntmps94
            go_wp2_with (first
              | (go_at_call 121; (with_reducible refine (HCALL.out _ HE.out).mono ?_); rintro e w3 ⟨rfl, hx⟩; have HX3 := Lib.hid hx; have hb1 := hx.lt HB1.out; have hb2 := hx.lt HB2.out; have b0 := cellAt hb1 0; have b1 := cellAt hb1 1; have f0 := cellAt hb2 0; have f1 := cellAt hb2 1; have f2 := cellAt hb2 2; have f3 := cellAt hb2 3; have f4 := cellAt hb2 4; have f5 := cellAt hb2 5; have f6 := cellAt hb2 6; have f7 := cellAt hb2 7; have f8 := cellAt hb2 8; have HB1x := Lib.hid hb1; have HB2x := Lib.hid hb2; have hz3 : w.heap.size + 1 < w3.heap.size := heap_lt hb2; have hz3b : w.heap.size < w3.heap.size := heap_lt hb1; clear hx hb1 hb2)
              | (go_at_call 122; (with_reducible refine (HREF.out _ _ rfl ((HE.out.tr HX3.out).tr (Ext.al _ _))).mono ?_); rintro e w4 ⟨rfl, hx⟩; have HX4 := Lib.hid ((HX3.out.tr (Ext.al _ _)).tr hx); have hb3 := hx.lt (heapNew w3 (.cells #[.int .i64 so, .bool true, .bool false, .bool ub, .slice As nsh cs] 214)); have hb1 := HX4.out.lt HB1.out; have hb2 := HX4.out.lt HB2.out; clear b0 b1 f0 f1 f2 f3 f4 f5 f6 f7 f8; have b0 := cellAt hb1 0; have b1 := cellAt hb1 1; have f0 := cellAt hb2 0; have f1 := cellAt hb2 1; have f2 := cellAt hb2 2; have f3 := cellAt hb2 3; have f4 := cellAt hb2 4; have f5 := cellAt hb2 5; have f6 := cellAt hb2 6; have f7 := cellAt hb2 7; have f8 := cellAt hb2 8; have s0 := cellAt hb3 0; have s1 := cellAt hb3 1; have s2 := cellAt hb3 2; have s3 := cellAt hb3 3; have s4 := cellAt hb3 4; have HB3 := Lib.hid hb3; clear hx hb1 hb2 hb3)
              | (go_at_call 123; (with_reducible refine (HFIT.out _ _ (by trivial) rfl (HE.out.tr HX4.out)).mono ?_); rintro e w5 ⟨rfl, hx⟩; have HX5 := Lib.hid (HX4.out.tr hx); have hb3 := hx.lt HB3.out; clear s0 s1 s2 s3 s4; have s0 := cellAt hb3 0; clear hx hb3))
            go_ret
            exact ⟨ret_int (HU.out.symm), HE.out.tr HX5.out⟩
      · have e1 : (ty != 0) = true := bne_iff_ne.2 ht0
        have e2 : (ty == 0) = false := beq_eq_false_iff_ne.2 ht0
        rw [decide_eq_false ht0] at HU
        have HUF : Hid (R = 3) := by show R = 3; rw [HU.out]; simp
        go_enter Tryz.func94, Tryz.ntmps94
        go_wp2_with (first
          | (go_at_call 121; (with_reducible refine (HCALL.out _ HE.out).mono ?_); rintro e w3 ⟨rfl, hx⟩; have HX3 := Lib.hid hx; have hb1 := hx.lt HB1.out; have hb2 := hx.lt HB2.out; have b0 := cellAt hb1 0; have b1 := cellAt hb1 1; have f0 := cellAt hb2 0; have f1 := cellAt hb2 1; have f2 := cellAt hb2 2; have f3 := cellAt hb2 3; have f4 := cellAt hb2 4; have f5 := cellAt hb2 5; have f6 := cellAt hb2 6; have f7 := cellAt hb2 7; have f8 := cellAt hb2 8; have HB1x := Lib.hid hb1; have HB2x := Lib.hid hb2; have hz3 : w.heap.size + 1 < w3.heap.size := heap_lt hb2; have hz3b : w.heap.size < w3.heap.size := heap_lt hb1; clear hx hb1 hb2))
        go_ret
        exact ⟨ret_int (HUF.out.symm), HE.out.tr (HX3.out.tr (Ext.al _ _))⟩
    · skip
      cases rf
      · skip
        go_enter Tryz.func94, Tryz.ntmps94
        go_wp2_with (first
          | (go_at_call 121; (with_reducible refine (HCALL.out _ HE.out).mono ?_); rintro e w3 ⟨rfl, hx⟩; have HX3 := Lib.hid hx; have hb1 := hx.lt HB1.out; have hb2 := hx.lt HB2.out; have b0 := cellAt hb1 0; have b1 := cellAt hb1 1; have f0 := cellAt hb2 0; have f1 := cellAt hb2 1; have f2 := cellAt hb2 2; have f3 := cellAt hb2 3; have f4 := cellAt hb2 4; have f5 := cellAt hb2 5; have f6 := cellAt hb2 6; have f7 := cellAt hb2 7; have f8 := cellAt hb2 8; have HB1x := Lib.hid hb1; have HB2x := Lib.hid hb2; have hz3 : w.heap.size + 1 < w3.heap.size := heap_lt hb2; have hz3b : w.heap.size < w3.heap.size := heap_lt hb1; clear hx hb1 hb2)
          | (go_at_call 122; (with_reducible refine (HREF.out _ _ rfl ((HE.out.tr HX3.out).tr (Ext.al _ _))).mono ?_); rintro e w4 ⟨rfl, hx⟩; have HX4 := Lib.hid ((HX3.out.tr (Ext.al _ _)).tr hx); have hb3 := hx.lt (heapNew w3 (.cells #[.int .i64 so, .bool true, .bool true, .bool ub, .slice As nsh cs] 214)); have hb1 := HX4.out.lt HB1.out; have hb2 := HX4.out.lt HB2.out; clear b0 b1 f0 f1 f2 f3 f4 f5 f6 f7 f8; have b0 := cellAt hb1 0; have b1 := cellAt hb1 1; have f0 := cellAt hb2 0; have f1 := cellAt hb2 1; have f2 := cellAt hb2 2; have f3 := cellAt hb2 3; have f4 := cellAt hb2 4; have f5 := cellAt hb2 5; have f6 := cellAt hb2 6; have f7 := cellAt hb2 7; have f8 := cellAt hb2 8; have s0 := cellAt hb3 0; have s1 := cellAt hb3 1; have s2 := cellAt hb3 2; have s3 := cellAt hb3 3; have s4 := cellAt hb3 4; have HB3 := Lib.hid hb3; clear hx hb1 hb2 hb3))
        go_ret
        exact ⟨ret_int (HU.out.symm), HE.out.tr HX4.out⟩
      · cases ft
        · skip
          go_enter Tryz.func94, Tryz.ntmps94
          go_wp2_with (first
            | (go_at_call 121; (with_reducible refine (HCALL.out _ HE.out).mono ?_); rintro e w3 ⟨rfl, hx⟩; have HX3 := Lib.hid hx; have hb1 := hx.lt HB1.out; have hb2 := hx.lt HB2.out; have b0 := cellAt hb1 0; have b1 := cellAt hb1 1; have f0 := cellAt hb2 0; have f1 := cellAt hb2 1; have f2 := cellAt hb2 2; have f3 := cellAt hb2 3; have f4 := cellAt hb2 4; have f5 := cellAt hb2 5; have f6 := cellAt hb2 6; have f7 := cellAt hb2 7; have f8 := cellAt hb2 8; have HB1x := Lib.hid hb1; have HB2x := Lib.hid hb2; have hz3 : w.heap.size + 1 < w3.heap.size := heap_lt hb2; have hz3b : w.heap.size < w3.heap.size := heap_lt hb1; clear hx hb1 hb2)
            | (go_at_call 122; (with_reducible refine (HREF.out _ _ rfl ((HE.out.tr HX3.out).tr (Ext.al _ _))).mono ?_); rintro e w4 ⟨rfl, hx⟩; have HX4 := Lib.hid ((HX3.out.tr (Ext.al _ _)).tr hx); have hb3 := hx.lt (heapNew w3 (.cells #[.int .i64 so, .bool true, .bool true, .bool ub, .slice As nsh cs] 214)); have hb1 := HX4.out.lt HB1.out; have hb2 := HX4.out.lt HB2.out; clear b0 b1 f0 f1 f2 f3 f4 f5 f6 f7 f8; have b0 := cellAt hb1 0; have b1 := cellAt hb1 1; have f0 := cellAt hb2 0; have f1 := cellAt hb2 1; have f2 := cellAt hb2 2; have f3 := cellAt hb2 3; have f4 := cellAt hb2 4; have f5 := cellAt hb2 5; have f6 := cellAt hb2 6; have f7 := cellAt hb2 7; have f8 := cellAt hb2 8; have s0 := cellAt hb3 0; have s1 := cellAt hb3 1; have s2 := cellAt hb3 2; have s3 := cellAt hb3 3; have s4 := cellAt hb3 4; have HB3 := Lib.hid hb3; clear hx hb1 hb2 hb3)
            | (go_at_call 123; (with_reducible refine (HFIT.out _ _ (by trivial) rfl (HE.out.tr HX4.out)).mono ?_); rintro e w5 ⟨rfl, hx⟩; have HX5 := Lib.hid (HX4.out.tr hx); have hb3 := hx.lt HB3.out; clear s0 s1 s2 s3 s4; have s0 := cellAt hb3 0; clear hx hb3))
          go_ret
          exact ⟨ret_int (HU.out.symm), HE.out.tr HX5.out⟩
        · skip
          go_enter Tryz.func94, Tryz.ntmps94
          go_wp2_with (first
            | (go_at_call 121; (with_reducible refine (HCALL.out _ HE.out).mono ?_); rintro e w3 ⟨rfl, hx⟩; have HX3 := Lib.hid hx; have hb1 := hx.lt HB1.out; have hb2 := hx.lt HB2.out; have b0 := cellAt hb1 0; have b1 := cellAt hb1 1; have f0 := cellAt hb2 0; have f1 := cellAt hb2 1; have f2 := cellAt hb2 2; have f3 := cellAt hb2 3; have f4 := cellAt hb2 4; have f5 := cellAt hb2 5; have f6 := cellAt hb2 6; have f7 := cellAt hb2 7; have f8 := cellAt hb2 8; have HB1x := Lib.hid hb1; have HB2x := Lib.hid hb2; have hz3 : w.heap.size + 1 < w3.heap.size := heap_lt hb2; have hz3b : w.heap.size < w3.heap.size := heap_lt hb1; clear hx hb1 hb2)
            | (go_at_call 122; (with_reducible refine (HREF.out _ _ rfl ((HE.out.tr HX3.out).tr (Ext.al _ _))).mono ?_); rintro e w4 ⟨rfl, hx⟩; have HX4 := Lib.hid ((HX3.out.tr (Ext.al _ _)).tr hx); have hb3 := hx.lt (heapNew w3 (.cells #[.int .i64 so, .bool true, .bool true, .bool ub, .slice As nsh cs] 214)); have hb1 := HX4.out.lt HB1.out; have hb2 := HX4.out.lt HB2.out; clear b0 b1 f0 f1 f2 f3 f4 f5 f6 f7 f8; have b0 := cellAt hb1 0; have b1 := cellAt hb1 1; have f0 := cellAt hb2 0; have f1 := cellAt hb2 1; have f2 := cellAt hb2 2; have f3 := cellAt hb2 3; have f4 := cellAt hb2 4; have f5 := cellAt hb2 5; have f6 := cellAt hb2 6; have f7 := cellAt hb2 7; have f8 := cellAt hb2 8; have s0 := cellAt hb3 0; have s1 := cellAt hb3 1; have s2 := cellAt hb3 2; have s3 := cellAt hb3 3; have s4 := cellAt hb3 4; have HB3 := Lib.hid hb3; clear hx hb1 hb2 hb3)
            | (go_at_call 123; (with_reducible refine (HFIT.out _ _ (by trivial) rfl (HE.out.tr HX4.out)).mono ?_); rintro e w5 ⟨rfl, hx⟩; have HX5 := Lib.hid (HX4.out.tr hx); have hb3 := hx.lt HB3.out; clear s0 s1 s2 s3 s4; have s0 := cellAt hb3 0; clear hx hb3))
          go_ret
          exact ⟨ret_int (HU.out.symm), HE.out.tr HX5.out⟩
end Go.Proofs.YtkdhhcidpklgoaaGreatDoor
