/- node: fits, of a match. -/
import Derived.Test.YtkdhhcidpklgoaaGreatDoorQ8
namespace Go.Proofs.YtkdhhcidpklgoaaGreatDoor
open Go.RowKit

set_option maxHeartbeats 8000000 in
set_option maxRecDepth 100000 in
theorem fits_4 (vd vf : Value) (C : Cg) (n ty : Int) (k : Nat) (vb by_ ow fa fb vs : Value) (A : Option Addr) (na ca : Nat) (brs : List Br) (la lb : List Int) (w : World) (hC : RCg w vd vf C) (hna : na ≤ 1048576) (hvb : RBrs w vb k brs) (hfa : RInts w fa la) (hfb : RFbs w fb lb) (hsh : RInts w vs (argsS 4)) (hty1 : 1 ≤ ty) (hty2 : ty ≤ C.decls.length) (hshort : shortB brs) (hlb : lb.length = brs.length) (hxs : (xtorsC C ty).length ≤ 1048576) :
    Calls Tryz.prog 123 #[.agg #[vd, vf], fdV 4 n ty (.slice A na ca) vb by_ ow fa fb, .agg #[.int .i64 (sortOp 4), .bool (usesN 4), .bool (usesT 4), .bool (usesB 4), vs]] w fun e w' => e = .returned (.bool (decide (na = (wantS C 4 n ty).length) && decide (la = wantS C 4 n ty) && decide (brs.length = (if usesB 4 then xtorsC C ty else []).length) && fitBr (if usesB 4 then xtorsC C ty else []) brs lb)) ∧ Ext w w' := by
  have HC := Lib.hid hC
  have HVB := Lib.hid hvb; have HFA := Lib.hid hfa; have HFB := Lib.hid hfb; have HSH := Lib.hid hsh
  obtain ⟨Ad, cd, rfl, -, -⟩ := hC.d.form
  obtain ⟨Af, cf, rfl, -, -⟩ := hC.f.form
  obtain ⟨Ab, cb, rfl, hcb, hmb, HVB'⟩ := hvb
  obtain ⟨Ala, cla, rfl, -, -⟩ := hfa.form
  obtain ⟨Alb, clb, rfl, -, hlbm⟩ := hfb.form
  obtain ⟨As, cs, rfl, -, -⟩ := hsh.form
  clear hC hfa hfb hsh
  unfold maxLen at hmb hlbm
  have HE := Lib.hid (Ext.al3 w (.cells #[.slice Ad C.decls.length cd, .slice Af C.funs.length cf] 171) (.cells #[.int .i64 4, .int .i64 n, .int .i64 ty, .slice A na ca, .slice Ab brs.length cb, by_, ow, .slice Ala la.length cla, .slice Alb lb.length clb] 208) (.cells #[.int .i64 (sortOp 4), .bool (usesN 4), .bool (usesT 4), .bool (usesB 4), .slice As (argsS 4).length cs] 214))
  have HB1 := Lib.hid (Ext.lt (Ext.al2 (w.alloc (.cells #[.slice Ad C.decls.length cd, .slice Af C.funs.length cf] 171)) (.cells #[.int .i64 4, .int .i64 n, .int .i64 ty, .slice A na ca, .slice Ab brs.length cb, by_, ow, .slice Ala la.length cla, .slice Alb lb.length clb] 208) (.cells #[.int .i64 (sortOp 4), .bool (usesN 4), .bool (usesT 4), .bool (usesB 4), .slice As (argsS 4).length cs] 214)) (heapNew w _))
  have HB2 := Lib.hid (Ext.lt (Ext.al ((w.alloc (.cells #[.slice Ad C.decls.length cd, .slice Af C.funs.length cf] 171)).alloc (.cells #[.int .i64 4, .int .i64 n, .int .i64 ty, .slice A na ca, .slice Ab brs.length cb, by_, ow, .slice Ala la.length cla, .slice Alb lb.length clb] 208)) (.cells #[.int .i64 (sortOp 4), .bool (usesN 4), .bool (usesT 4), .bool (usesB 4), .slice As (argsS 4).length cs] 214)) (heapNew2 w _ _))
  obtain ⟨vx, hvx, hcall⟩ := xtors_any (.slice Ad C.decls.length cd) (.slice Af C.funs.length cf) C ty w HC.out.d hty1 hty2
  have HVX := Lib.hid hvx; have HCALL := Lib.hid hcall
  obtain ⟨Ax, cx, rfl, hcx, hmx'⟩ := hvx.form
  unfold maxLen at hmx'
  have hw : wantS C 4 n ty = argsS 4 := rfl
  rw [show usesB 4 = true from rfl] at *
  simp only [if_true]
  rw [hw]
  have HSHORT := Lib.hid hshort; have HLB := Lib.hid hlb; have HHS := Lib.hid hxs
  clear hvx hcall hw hty1 hty2 hshort hlb hxs HC
  generalize argsS 4 = W at *
  generalize sortOp 4 = so at *
  generalize usesN 4 = un at *
  generalize usesT 4 = ut at *
  generalize xtorsC C ty = X at *
  generalize hR : (decide (na = W.length) && decide (la = W) && decide (brs.length = X.length) && fitBr X brs lb) = R
  have HR := Lib.hid hR
  clear hR
  have s3 := cellAt (heapNew3 w (.cells #[.slice Ad C.decls.length cd, .slice Af C.funs.length cf] 171) (.cells #[.int .i64 4, .int .i64 n, .int .i64 ty, .slice A na ca, .slice Ab brs.length cb, by_, ow, .slice Ala la.length cla, .slice Alb lb.length clb] 208) (.cells #[.int .i64 so, .bool un, .bool ut, .bool true, .slice As W.length cs] 214)) 3
  clear s3
  go_enter Tryz.func123, Tryz.ntmps123
  go_upto_region 10 with (go_at_call 137; (with_reducible refine (HCALL.out _ HE.out).mono ?_); rintro e w5 ⟨rfl, hx⟩; have HX5 := Lib.hid hx; have hb1 := HX5.out.lt HB1.out; have hb2 := HX5.out.lt HB2.out; have HB2' := Lib.hid hb2; have b0 := cellAt hb1 0; have b1 := cellAt hb1 1; have f0 := cellAt hb2 0; have f1 := cellAt hb2 1; have f2 := cellAt hb2 2; have f3 := cellAt hb2 3; have f4 := cellAt hb2 4; have f7 := cellAt hb2 7; have f8 := cellAt hb2 8; clear hx hb1 hb2)
  clear HB1 HB2
  by_cases h1 : na = W.length
  · subst h1
    by_cases h2 : la = W
    · have HQ : Hid (decide (la = W) = true) := decide_eq_true h2
      by_cases h3 : brs.length = X.length
      · have HN : Hid (R = fitBr X brs lb) := by show R = _; rw [← HR.out, HQ.out, decide_eq_true h3]; simp
        have HL3 := Lib.hid h3
        have g1 : ((brs.length : Int) != X.length) = false := by rw [h3]; simp
        have g2 : ((brs.length : Int) == X.length) = true := by rw [h3]; simp
        clear h2 h3
        go_wp2_with (go_at_call 140; (with_reducible refine (eqSorts_is _ _ la W true HQ.out _ (HFA.out.below (HE.out.tr HX5.out)) (HSH.out.below (HE.out.tr HX5.out))).mono ?_); rintro e w6 ⟨rfl, hx⟩; have HX6 := Lib.hid (HX5.out.tr hx); have hb2 := hx.lt HB2'.out; have HB2x := Lib.hid hb2; clear f0 f1 f2 f3 f4 f7 f8 b0 b1; have f4 := cellAt hb2 4; have f8 := cellAt hb2 8; clear hb2 hx)
        go_loopw [58] (fun i wr => ∃ k : Nat, k ≤ X.length ∧ i = .int .i64 k ∧ fitBr X brs lb = fitBr (X.drop k) (brs.drop k) (lb.drop k) ∧ Ext w6 wr) (fun i _ => X.length - (intOf i).toNat)
        case atStart => exact ⟨0, Nat.zero_le _, rfl, by simp, Ext.rf _⟩
        case round =>
          obtain ⟨k, hk, rfl, hst, hb⟩ := hrel
          have HST := Lib.hid hst; have HB := Lib.hid hb
          have HW : Hid (Ext w wr) := HE.out.tr (HX6.out.tr hb)
          clear hst hb
          by_cases hlt : k < X.length
          · have HK2 : Hid (k < brs.length) := by show k < brs.length; rw [HL3.out]; exact hlt
            have HK3 : Hid (k < lb.length) := by show k < lb.length; rw [HLB.out, HL3.out]; exact hlt
            have hki2 : (k : Int) < brs.length := by have := HK2.out; omega
            have hki3 : (k : Int) < lb.length := by have := HK3.out; omega
            have hki : (k : Int) < X.length := by omega
            obtain ⟨bx, ox, vx2, rfl, hbx, x0, x1, x2, x3⟩ := HVX.out.at_ hlt
            obtain ⟨bb, ob, vv, vc, xa, xb, ebb, hbb, y0, y1, y2, y3, y4, y5⟩ := HVB' k _ (List.getElem?_eq_getElem HK2.out)
            subst ebb
            obtain ⟨bl, ol, rfl, hbl, l1⟩ := HFB.out.at_ HK3.out
            have x0 := HW.out.keep x0
            have x1 := HW.out.keep x1
            have y0 := HW.out.keep y0
            have y2 := HW.out.keep y2
            obtain ⟨q0, q1, q2, q3, q4⟩ := y4.below HW.out
            have l1 := HW.out.keep l1
            have HBI : Hid (∀ w', Ext w w' → Calls Tryz.prog 111 #[brV vv vc (brs[k]'HK2.out).2.2 xa xb, vx2] w' fun e w'' => e = .returned (.bool (bindsB (brs[k]'HK2.out).1 (brs[k]'HK2.out).2.1 (X[k]).args)) ∧ Ext w' w'') := fun w' hx => binds_any vv vc vx2 xa xb _ _ _ _ w' (y1.below hx) (y3.below hx) (x2.below hx) (HSHORT.out _ (List.getElem_mem HK2.out))
            have HSTEP := Lib.hid (fitBr_drop hlt HK2.out HK3.out)
            obtain ⟨⟨Av, cv, rfl, -, -⟩, ⟨Ac, cc, rfl, -, -⟩⟩ := And.intro y1.form y3.form
            obtain ⟨-, ⟨Axa, cxa, rfl, -, -⟩, ⟨Axb, cxb, rfl, -, -⟩⟩ := y5.form
            obtain ⟨Ava, cva, rfl, -, -⟩ := x2.form
            clear y1 y3 y4 y5 x2 x3
            have hbr := HB.out.lt HB2x.out
            have f4 := cellAt hbr 4
            have f8 := cellAt hbr 8
            clear hbr
            generalize bindsB (brs[k]'HK2.out).1 (brs[k]'HK2.out).2.1 (X[k]).args = q at *
            generalize (brs[k]'HK2.out) = br at *
            generalize X[k] = xt at *
            generalize (lb[k]'HK3.out) = lk at *
            have HXA := Lib.hid (Ext.al wr (.cells #[.string xt.name, .slice Ava xt.args.length cva] 55))
            have hnb := heapNew wr (.cells #[.string xt.name, .slice Ava xt.args.length cva] 55)
            have hmx : Tryz.prog.follows .mixedOrders = true := by kernel_rfl
            have f4 := HXA.out.keep f4
            have f8 := HXA.out.keep f8
            have y0 := HXA.out.keep y0
            have y2 := HXA.out.keep y2
            have q0 := HXA.out.keep q0
            have q1 := HXA.out.keep q1
            have q2 := HXA.out.keep q2
            have q3 := HXA.out.keep q3
            have q4 := HXA.out.keep q4
            have l1 := HXA.out.keep l1
            have n1 := cellAt hnb 1
            cases q
            · have HFF : Hid (R = false) := by show R = false; rw [HN.out, HST.out, HSTEP.out]; rfl
              go_wp2
              generalize wr.alloc _ = w8 at *
              have k0 := ExtOf.cell f4
              have k1 := ExtOf.cell f8
              have k2 := ExtOf.cell y0
              have k3 := ExtOf.cell y2
              have k4 := ExtOf.cell q0
              have k5 := ExtOf.cell q1
              have k6 := ExtOf.cell q2
              have k7 := ExtOf.cell q3
              have k8 := ExtOf.cell q4
              have k9 := ExtOf.cell l1
              have k10 := ExtOf.cell n1
              clear f4 f8 y0 y2 q0 q1 q2 q3 q4 l1 n1 x0 x1 hnb
              refine wp_region_ext (w0 := w8) hmx (by kernel_rfl) (Ext.rf _) ?_
              repeat (first | go_big_quiet_step ((go_at_call 111; with_reducible exact Calls.ext_of (HBI.out _ ((HW.out.tr HXA.out).tr (ExtOf.ext _))))) | quiet_step ((go_at_call 111; with_reducible exact Calls.ext_of (HBI.out _ ((HW.out.tr HXA.out).tr (ExtOf.ext _))))))
              refine wpQuiet_nil ?_
              rintro w9 ⟨⟨_, hx⟩, rfl⟩
              have HX9 := Lib.hid hx
              clear hx k0 k1 k2 k3 k4 k5 k6 k7 k8 k9 k10
              go_wp2
              go_ret
              exact ⟨ret_bool HFF.out.symm, HW.out.tr (HXA.out.tr HX9.out)⟩
            · by_cases hlk : lk = 2
              · have HSN : Hid (fitBr X brs lb = fitBr (X.drop (k + 1)) (brs.drop (k + 1)) (lb.drop (k + 1))) := by show _ = _; rw [HST.out, HSTEP.out, hlk]; rfl
                have e1 : (lk != 2) = false := by rw [hlk]; rfl
                have e2 : (lk == 2) = true := by rw [hlk]; rfl
                clear hlk
                go_wp2
                generalize wr.alloc _ = w8 at *
                have k0 := ExtOf.cell f4
                have k1 := ExtOf.cell f8
                have k2 := ExtOf.cell y0
                have k3 := ExtOf.cell y2
                have k4 := ExtOf.cell q0
                have k5 := ExtOf.cell q1
                have k6 := ExtOf.cell q2
                have k7 := ExtOf.cell q3
                have k8 := ExtOf.cell q4
                have k9 := ExtOf.cell l1
                have k10 := ExtOf.cell n1
                clear f4 f8 y0 y2 q0 q1 q2 q3 q4 l1 n1 x0 x1 hnb
                refine wp_region_ext (w0 := w8) hmx (by kernel_rfl) (Ext.rf _) ?_
                repeat (first | go_big_quiet_step ((go_at_call 111; with_reducible exact Calls.ext_of (HBI.out _ ((HW.out.tr HXA.out).tr (ExtOf.ext _))))) | quiet_step ((go_at_call 111; with_reducible exact Calls.ext_of (HBI.out _ ((HW.out.tr HXA.out).tr (ExtOf.ext _))))))
                refine wpQuiet_nil ?_
                rintro w9 ⟨⟨_, hx⟩, rfl⟩
                have HX9 := Lib.hid hx
                clear hx k0 k1 k2 k3 k4 k5 k6 k7 k8 k9 k10
                go_wp2
                exact ⟨⟨k + 1, by omega, by go_num, HSN.out, HB.out.tr (HXA.out.tr HX9.out)⟩, by simp [intOf]; omega⟩
              · have HFF : Hid (R = false) := by show R = false; rw [HN.out, HST.out, HSTEP.out, decide_eq_false hlk]; rfl
                have e1 : (lk != 2) = true := bne_iff_ne.2 hlk
                have e2 : (lk == 2) = false := beq_eq_false_iff_ne.2 hlk
                clear hlk
                go_wp2
                generalize wr.alloc _ = w8 at *
                have k0 := ExtOf.cell f4
                have k1 := ExtOf.cell f8
                have k2 := ExtOf.cell y0
                have k3 := ExtOf.cell y2
                have k4 := ExtOf.cell q0
                have k5 := ExtOf.cell q1
                have k6 := ExtOf.cell q2
                have k7 := ExtOf.cell q3
                have k8 := ExtOf.cell q4
                have k9 := ExtOf.cell l1
                have k10 := ExtOf.cell n1
                clear f4 f8 y0 y2 q0 q1 q2 q3 q4 l1 n1 x0 x1 hnb
                refine wp_region_ext (w0 := w8) hmx (by kernel_rfl) (Ext.rf _) ?_
                repeat (first | go_big_quiet_step ((go_at_call 111; with_reducible exact Calls.ext_of (HBI.out _ ((HW.out.tr HXA.out).tr (ExtOf.ext _))))) | quiet_step ((go_at_call 111; with_reducible exact Calls.ext_of (HBI.out _ ((HW.out.tr HXA.out).tr (ExtOf.ext _))))))
                refine wpQuiet_nil ?_
                rintro w9 ⟨⟨_, hx⟩, rfl⟩
                have HX9 := Lib.hid hx
                clear hx k0 k1 k2 k3 k4 k5 k6 k7 k8 k9 k10
                go_wp2
                go_ret
                exact ⟨ret_bool HFF.out.symm, HW.out.tr (HXA.out.tr HX9.out)⟩
          · have HTT : Hid (R = true) := by show R = true; rw [HN.out, HST.out, drop_end (l := X) (by omega)]; rfl
            have hkl : k = X.length := by omega
            subst hkl
            go_wp2
            go_ret
            exact ⟨ret_bool HTT.out.symm, HW.out⟩
      · have HN : Hid (R = false) := by show R = false; rw [← HR.out, decide_eq_false h3]; simp
        have g1 : ((brs.length : Int) != X.length) = true := bne_iff_ne.2 (by omega)
        have g2 : ((brs.length : Int) == X.length) = false := beq_eq_false_iff_ne.2 (by omega)
        clear h2
        go_wp2_with (go_at_call 140; (with_reducible refine (eqSorts_is _ _ la W true HQ.out _ (HFA.out.below (HE.out.tr HX5.out)) (HSH.out.below (HE.out.tr HX5.out))).mono ?_); rintro e w6 ⟨rfl, hx⟩; have HX6 := Lib.hid (HX5.out.tr hx); have hb2 := hx.lt HB2'.out; have HB2x := Lib.hid hb2; clear f0 f1 f2 f3 f4 f7 f8 b0 b1; have f4 := cellAt hb2 4; have f8 := cellAt hb2 8; clear hb2 hx)
        go_ret
        exact ⟨ret_bool HN.out.symm, HE.out.tr HX6.out⟩
    · have HQ : Hid (decide (la = W) = false) := decide_eq_false h2
      have HN : Hid (R = false) := by show R = false; rw [← HR.out, HQ.out]; simp
      clear h2
      go_wp2_with (go_at_call 140; (with_reducible refine (eqSorts_is _ _ la W false HQ.out _ (HFA.out.below (HE.out.tr HX5.out)) (HSH.out.below (HE.out.tr HX5.out))).mono ?_); rintro e w6 ⟨rfl, hx⟩; have HX6 := Lib.hid (HX5.out.tr hx); have hb2 := hx.lt HB2'.out; have HB2x := Lib.hid hb2; clear f0 f1 f2 f3 f4 f7 f8 b0 b1; have f4 := cellAt hb2 4; have f8 := cellAt hb2 8; clear hb2 hx)
      go_ret
      exact ⟨ret_bool HN.out.symm, HE.out.tr HX6.out⟩
  · have HN : Hid (R = false) := by show R = false; rw [← HR.out, decide_eq_false h1]; rfl
    go_wp2
    go_ret
    exact ⟨ret_bool HN.out.symm, HE.out.tr HX5.out⟩
set_option maxHeartbeats 8000000 in
set_option maxRecDepth 100000 in
theorem fits_8 (vd vf : Value) (C : Cg) (n ty : Int) (k : Nat) (vb by_ ow fa fb vs : Value) (A : Option Addr) (na ca : Nat) (brs : List Br) (la lb : List Int) (w : World) (hC : RCg w vd vf C) (hna : na ≤ 1048576) (hvb : RBrs w vb k brs) (hfa : RInts w fa la) (hfb : RFbs w fb lb) (hsh : RInts w vs (argsS 8)) (hty1 : 1 ≤ ty) (hty2 : ty ≤ C.decls.length) (hshort : shortB brs) (hlb : lb.length = brs.length) (hxs : (xtorsC C ty).length ≤ 1048576) :
    Calls Tryz.prog 123 #[.agg #[vd, vf], fdV 8 n ty (.slice A na ca) vb by_ ow fa fb, .agg #[.int .i64 (sortOp 8), .bool (usesN 8), .bool (usesT 8), .bool (usesB 8), vs]] w fun e w' => e = .returned (.bool (decide (na = (wantS C 8 n ty).length) && decide (la = wantS C 8 n ty) && decide (brs.length = (if usesB 8 then xtorsC C ty else []).length) && fitBr (if usesB 8 then xtorsC C ty else []) brs lb)) ∧ Ext w w' := by
  have HC := Lib.hid hC
  have HVB := Lib.hid hvb; have HFA := Lib.hid hfa; have HFB := Lib.hid hfb; have HSH := Lib.hid hsh
  obtain ⟨Ad, cd, rfl, -, -⟩ := hC.d.form
  obtain ⟨Af, cf, rfl, -, -⟩ := hC.f.form
  obtain ⟨Ab, cb, rfl, hcb, hmb, HVB'⟩ := hvb
  obtain ⟨Ala, cla, rfl, -, -⟩ := hfa.form
  obtain ⟨Alb, clb, rfl, -, hlbm⟩ := hfb.form
  obtain ⟨As, cs, rfl, -, -⟩ := hsh.form
  clear hC hfa hfb hsh
  unfold maxLen at hmb hlbm
  have HE := Lib.hid (Ext.al3 w (.cells #[.slice Ad C.decls.length cd, .slice Af C.funs.length cf] 171) (.cells #[.int .i64 8, .int .i64 n, .int .i64 ty, .slice A na ca, .slice Ab brs.length cb, by_, ow, .slice Ala la.length cla, .slice Alb lb.length clb] 208) (.cells #[.int .i64 (sortOp 8), .bool (usesN 8), .bool (usesT 8), .bool (usesB 8), .slice As (argsS 8).length cs] 214))
  have HB1 := Lib.hid (Ext.lt (Ext.al2 (w.alloc (.cells #[.slice Ad C.decls.length cd, .slice Af C.funs.length cf] 171)) (.cells #[.int .i64 8, .int .i64 n, .int .i64 ty, .slice A na ca, .slice Ab brs.length cb, by_, ow, .slice Ala la.length cla, .slice Alb lb.length clb] 208) (.cells #[.int .i64 (sortOp 8), .bool (usesN 8), .bool (usesT 8), .bool (usesB 8), .slice As (argsS 8).length cs] 214)) (heapNew w _))
  have HB2 := Lib.hid (Ext.lt (Ext.al ((w.alloc (.cells #[.slice Ad C.decls.length cd, .slice Af C.funs.length cf] 171)).alloc (.cells #[.int .i64 8, .int .i64 n, .int .i64 ty, .slice A na ca, .slice Ab brs.length cb, by_, ow, .slice Ala la.length cla, .slice Alb lb.length clb] 208)) (.cells #[.int .i64 (sortOp 8), .bool (usesN 8), .bool (usesT 8), .bool (usesB 8), .slice As (argsS 8).length cs] 214)) (heapNew2 w _ _))
  obtain ⟨vx, hvx, hcall⟩ := xtors_any (.slice Ad C.decls.length cd) (.slice Af C.funs.length cf) C ty w HC.out.d hty1 hty2
  have HVX := Lib.hid hvx; have HCALL := Lib.hid hcall
  obtain ⟨Ax, cx, rfl, hcx, hmx'⟩ := hvx.form
  unfold maxLen at hmx'
  have hw : wantS C 8 n ty = argsS 8 := rfl
  rw [show usesB 8 = true from rfl] at *
  simp only [if_true]
  rw [hw]
  have HSHORT := Lib.hid hshort; have HLB := Lib.hid hlb; have HHS := Lib.hid hxs
  clear hvx hcall hw hty1 hty2 hshort hlb hxs HC
  generalize argsS 8 = W at *
  generalize sortOp 8 = so at *
  generalize usesN 8 = un at *
  generalize usesT 8 = ut at *
  generalize xtorsC C ty = X at *
  generalize hR : (decide (na = W.length) && decide (la = W) && decide (brs.length = X.length) && fitBr X brs lb) = R
  have HR := Lib.hid hR
  clear hR
  have s3 := cellAt (heapNew3 w (.cells #[.slice Ad C.decls.length cd, .slice Af C.funs.length cf] 171) (.cells #[.int .i64 8, .int .i64 n, .int .i64 ty, .slice A na ca, .slice Ab brs.length cb, by_, ow, .slice Ala la.length cla, .slice Alb lb.length clb] 208) (.cells #[.int .i64 so, .bool un, .bool ut, .bool true, .slice As W.length cs] 214)) 3
  clear s3
  go_enter Tryz.func123, Tryz.ntmps123
  go_upto_region 10 with (go_at_call 137; (with_reducible refine (HCALL.out _ HE.out).mono ?_); rintro e w5 ⟨rfl, hx⟩; have HX5 := Lib.hid hx; have hb1 := HX5.out.lt HB1.out; have hb2 := HX5.out.lt HB2.out; have HB2' := Lib.hid hb2; have b0 := cellAt hb1 0; have b1 := cellAt hb1 1; have f0 := cellAt hb2 0; have f1 := cellAt hb2 1; have f2 := cellAt hb2 2; have f3 := cellAt hb2 3; have f4 := cellAt hb2 4; have f7 := cellAt hb2 7; have f8 := cellAt hb2 8; clear hx hb1 hb2)
  clear HB1 HB2
  by_cases h1 : na = W.length
  · subst h1
    by_cases h2 : la = W
    · have HQ : Hid (decide (la = W) = true) := decide_eq_true h2
      by_cases h3 : brs.length = X.length
      · have HN : Hid (R = fitBr X brs lb) := by show R = _; rw [← HR.out, HQ.out, decide_eq_true h3]; simp
        have HL3 := Lib.hid h3
        have g1 : ((brs.length : Int) != X.length) = false := by rw [h3]; simp
        have g2 : ((brs.length : Int) == X.length) = true := by rw [h3]; simp
        clear h2 h3
        go_wp2_with (go_at_call 140; (with_reducible refine (eqSorts_is _ _ la W true HQ.out _ (HFA.out.below (HE.out.tr HX5.out)) (HSH.out.below (HE.out.tr HX5.out))).mono ?_); rintro e w6 ⟨rfl, hx⟩; have HX6 := Lib.hid (HX5.out.tr hx); have hb2 := hx.lt HB2'.out; have HB2x := Lib.hid hb2; clear f0 f1 f2 f3 f4 f7 f8 b0 b1; have f4 := cellAt hb2 4; have f8 := cellAt hb2 8; clear hb2 hx)
        go_loopw [58] (fun i wr => ∃ k : Nat, k ≤ X.length ∧ i = .int .i64 k ∧ fitBr X brs lb = fitBr (X.drop k) (brs.drop k) (lb.drop k) ∧ Ext w6 wr) (fun i _ => X.length - (intOf i).toNat)
        case atStart => exact ⟨0, Nat.zero_le _, rfl, by simp, Ext.rf _⟩
        case round =>
          obtain ⟨k, hk, rfl, hst, hb⟩ := hrel
          have HST := Lib.hid hst; have HB := Lib.hid hb
          have HW : Hid (Ext w wr) := HE.out.tr (HX6.out.tr hb)
          clear hst hb
          by_cases hlt : k < X.length
          · have HK2 : Hid (k < brs.length) := by show k < brs.length; rw [HL3.out]; exact hlt
            have HK3 : Hid (k < lb.length) := by show k < lb.length; rw [HLB.out, HL3.out]; exact hlt
            have hki2 : (k : Int) < brs.length := by have := HK2.out; omega
            have hki3 : (k : Int) < lb.length := by have := HK3.out; omega
            have hki : (k : Int) < X.length := by omega
            obtain ⟨bx, ox, vx2, rfl, hbx, x0, x1, x2, x3⟩ := HVX.out.at_ hlt
            obtain ⟨bb, ob, vv, vc, xa, xb, ebb, hbb, y0, y1, y2, y3, y4, y5⟩ := HVB' k _ (List.getElem?_eq_getElem HK2.out)
            subst ebb
            obtain ⟨bl, ol, rfl, hbl, l1⟩ := HFB.out.at_ HK3.out
            have x0 := HW.out.keep x0
            have x1 := HW.out.keep x1
            have y0 := HW.out.keep y0
            have y2 := HW.out.keep y2
            obtain ⟨q0, q1, q2, q3, q4⟩ := y4.below HW.out
            have l1 := HW.out.keep l1
            have HBI : Hid (∀ w', Ext w w' → Calls Tryz.prog 111 #[brV vv vc (brs[k]'HK2.out).2.2 xa xb, vx2] w' fun e w'' => e = .returned (.bool (bindsB (brs[k]'HK2.out).1 (brs[k]'HK2.out).2.1 (X[k]).args)) ∧ Ext w' w'') := fun w' hx => binds_any vv vc vx2 xa xb _ _ _ _ w' (y1.below hx) (y3.below hx) (x2.below hx) (HSHORT.out _ (List.getElem_mem HK2.out))
            have HSTEP := Lib.hid (fitBr_drop hlt HK2.out HK3.out)
            obtain ⟨⟨Av, cv, rfl, -, -⟩, ⟨Ac, cc, rfl, -, -⟩⟩ := And.intro y1.form y3.form
            obtain ⟨-, ⟨Axa, cxa, rfl, -, -⟩, ⟨Axb, cxb, rfl, -, -⟩⟩ := y5.form
            obtain ⟨Ava, cva, rfl, -, -⟩ := x2.form
            clear y1 y3 y4 y5 x2 x3
            have hbr := HB.out.lt HB2x.out
            have f4 := cellAt hbr 4
            have f8 := cellAt hbr 8
            clear hbr
            generalize bindsB (brs[k]'HK2.out).1 (brs[k]'HK2.out).2.1 (X[k]).args = q at *
            generalize (brs[k]'HK2.out) = br at *
            generalize X[k] = xt at *
            generalize (lb[k]'HK3.out) = lk at *
            have HXA := Lib.hid (Ext.al wr (.cells #[.string xt.name, .slice Ava xt.args.length cva] 55))
            have hnb := heapNew wr (.cells #[.string xt.name, .slice Ava xt.args.length cva] 55)
            have hmx : Tryz.prog.follows .mixedOrders = true := by kernel_rfl
            have f4 := HXA.out.keep f4
            have f8 := HXA.out.keep f8
            have y0 := HXA.out.keep y0
            have y2 := HXA.out.keep y2
            have q0 := HXA.out.keep q0
            have q1 := HXA.out.keep q1
            have q2 := HXA.out.keep q2
            have q3 := HXA.out.keep q3
            have q4 := HXA.out.keep q4
            have l1 := HXA.out.keep l1
            have n1 := cellAt hnb 1
            cases q
            · have HFF : Hid (R = false) := by show R = false; rw [HN.out, HST.out, HSTEP.out]; rfl
              go_wp2
              generalize wr.alloc _ = w8 at *
              have k0 := ExtOf.cell f4
              have k1 := ExtOf.cell f8
              have k2 := ExtOf.cell y0
              have k3 := ExtOf.cell y2
              have k4 := ExtOf.cell q0
              have k5 := ExtOf.cell q1
              have k6 := ExtOf.cell q2
              have k7 := ExtOf.cell q3
              have k8 := ExtOf.cell q4
              have k9 := ExtOf.cell l1
              have k10 := ExtOf.cell n1
              clear f4 f8 y0 y2 q0 q1 q2 q3 q4 l1 n1 x0 x1 hnb
              refine wp_region_ext (w0 := w8) hmx (by kernel_rfl) (Ext.rf _) ?_
              repeat (first | go_big_quiet_step ((go_at_call 111; with_reducible exact Calls.ext_of (HBI.out _ ((HW.out.tr HXA.out).tr (ExtOf.ext _))))) | quiet_step ((go_at_call 111; with_reducible exact Calls.ext_of (HBI.out _ ((HW.out.tr HXA.out).tr (ExtOf.ext _))))))
              refine wpQuiet_nil ?_
              rintro w9 ⟨⟨_, hx⟩, rfl⟩
              have HX9 := Lib.hid hx
              clear hx k0 k1 k2 k3 k4 k5 k6 k7 k8 k9 k10
              go_wp2
              go_ret
              exact ⟨ret_bool HFF.out.symm, HW.out.tr (HXA.out.tr HX9.out)⟩
            · by_cases hlk : lk = 2
              · have HSN : Hid (fitBr X brs lb = fitBr (X.drop (k + 1)) (brs.drop (k + 1)) (lb.drop (k + 1))) := by show _ = _; rw [HST.out, HSTEP.out, hlk]; rfl
                have e1 : (lk != 2) = false := by rw [hlk]; rfl
                have e2 : (lk == 2) = true := by rw [hlk]; rfl
                clear hlk
                go_wp2
                generalize wr.alloc _ = w8 at *
                have k0 := ExtOf.cell f4
                have k1 := ExtOf.cell f8
                have k2 := ExtOf.cell y0
                have k3 := ExtOf.cell y2
                have k4 := ExtOf.cell q0
                have k5 := ExtOf.cell q1
                have k6 := ExtOf.cell q2
                have k7 := ExtOf.cell q3
                have k8 := ExtOf.cell q4
                have k9 := ExtOf.cell l1
                have k10 := ExtOf.cell n1
                clear f4 f8 y0 y2 q0 q1 q2 q3 q4 l1 n1 x0 x1 hnb
                refine wp_region_ext (w0 := w8) hmx (by kernel_rfl) (Ext.rf _) ?_
                repeat (first | go_big_quiet_step ((go_at_call 111; with_reducible exact Calls.ext_of (HBI.out _ ((HW.out.tr HXA.out).tr (ExtOf.ext _))))) | quiet_step ((go_at_call 111; with_reducible exact Calls.ext_of (HBI.out _ ((HW.out.tr HXA.out).tr (ExtOf.ext _))))))
                refine wpQuiet_nil ?_
                rintro w9 ⟨⟨_, hx⟩, rfl⟩
                have HX9 := Lib.hid hx
                clear hx k0 k1 k2 k3 k4 k5 k6 k7 k8 k9 k10
                go_wp2
                exact ⟨⟨k + 1, by omega, by go_num, HSN.out, HB.out.tr (HXA.out.tr HX9.out)⟩, by simp [intOf]; omega⟩
              · have HFF : Hid (R = false) := by show R = false; rw [HN.out, HST.out, HSTEP.out, decide_eq_false hlk]; rfl
                have e1 : (lk != 2) = true := bne_iff_ne.2 hlk
                have e2 : (lk == 2) = false := beq_eq_false_iff_ne.2 hlk
                clear hlk
                go_wp2
                generalize wr.alloc _ = w8 at *
                have k0 := ExtOf.cell f4
                have k1 := ExtOf.cell f8
                have k2 := ExtOf.cell y0
                have k3 := ExtOf.cell y2
                have k4 := ExtOf.cell q0
                have k5 := ExtOf.cell q1
                have k6 := ExtOf.cell q2
                have k7 := ExtOf.cell q3
                have k8 := ExtOf.cell q4
                have k9 := ExtOf.cell l1
                have k10 := ExtOf.cell n1
                clear f4 f8 y0 y2 q0 q1 q2 q3 q4 l1 n1 x0 x1 hnb
                refine wp_region_ext (w0 := w8) hmx (by kernel_rfl) (Ext.rf _) ?_
                repeat (first | go_big_quiet_step ((go_at_call 111; with_reducible exact Calls.ext_of (HBI.out _ ((HW.out.tr HXA.out).tr (ExtOf.ext _))))) | quiet_step ((go_at_call 111; with_reducible exact Calls.ext_of (HBI.out _ ((HW.out.tr HXA.out).tr (ExtOf.ext _))))))
                refine wpQuiet_nil ?_
                rintro w9 ⟨⟨_, hx⟩, rfl⟩
                have HX9 := Lib.hid hx
                clear hx k0 k1 k2 k3 k4 k5 k6 k7 k8 k9 k10
                go_wp2
                go_ret
                exact ⟨ret_bool HFF.out.symm, HW.out.tr (HXA.out.tr HX9.out)⟩
          · have HTT : Hid (R = true) := by show R = true; rw [HN.out, HST.out, drop_end (l := X) (by omega)]; rfl
            have hkl : k = X.length := by omega
            subst hkl
            go_wp2
            go_ret
            exact ⟨ret_bool HTT.out.symm, HW.out⟩
      · have HN : Hid (R = false) := by show R = false; rw [← HR.out, decide_eq_false h3]; simp
        have g1 : ((brs.length : Int) != X.length) = true := bne_iff_ne.2 (by omega)
        have g2 : ((brs.length : Int) == X.length) = false := beq_eq_false_iff_ne.2 (by omega)
        clear h2
        go_wp2_with (go_at_call 140; (with_reducible refine (eqSorts_is _ _ la W true HQ.out _ (HFA.out.below (HE.out.tr HX5.out)) (HSH.out.below (HE.out.tr HX5.out))).mono ?_); rintro e w6 ⟨rfl, hx⟩; have HX6 := Lib.hid (HX5.out.tr hx); have hb2 := hx.lt HB2'.out; have HB2x := Lib.hid hb2; clear f0 f1 f2 f3 f4 f7 f8 b0 b1; have f4 := cellAt hb2 4; have f8 := cellAt hb2 8; clear hb2 hx)
        go_ret
        exact ⟨ret_bool HN.out.symm, HE.out.tr HX6.out⟩
    · have HQ : Hid (decide (la = W) = false) := decide_eq_false h2
      have HN : Hid (R = false) := by show R = false; rw [← HR.out, HQ.out]; simp
      clear h2
      go_wp2_with (go_at_call 140; (with_reducible refine (eqSorts_is _ _ la W false HQ.out _ (HFA.out.below (HE.out.tr HX5.out)) (HSH.out.below (HE.out.tr HX5.out))).mono ?_); rintro e w6 ⟨rfl, hx⟩; have HX6 := Lib.hid (HX5.out.tr hx); have hb2 := hx.lt HB2'.out; have HB2x := Lib.hid hb2; clear f0 f1 f2 f3 f4 f7 f8 b0 b1; have f4 := cellAt hb2 4; have f8 := cellAt hb2 8; clear hb2 hx)
      go_ret
      exact ⟨ret_bool HN.out.symm, HE.out.tr HX6.out⟩
  · have HN : Hid (R = false) := by show R = false; rw [← HR.out, decide_eq_false h1]; rfl
    go_wp2
    go_ret
    exact ⟨ret_bool HN.out.symm, HE.out.tr HX5.out⟩
end Go.Proofs.YtkdhhcidpklgoaaGreatDoor
