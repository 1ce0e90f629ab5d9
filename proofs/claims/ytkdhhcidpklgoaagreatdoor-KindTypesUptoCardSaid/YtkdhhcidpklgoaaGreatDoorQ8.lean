/- node: fits, operator by operator. -/
import Derived.Test.YtkdhhcidpklgoaaGreatDoorQ7
namespace Go.Proofs.YtkdhhcidpklgoaaGreatDoor
open Go.RowKit

theorem hargs_v (vd vf : Value) (C : Cg) (op n ty : Int) (va vb : Value) (w : World) (h : RCg w vd vf C) (ha : appB C op n ty) :
    ∃ v, RArgs w v (hdArgs C op n ty) ∧ ∀ w', Ext w w' → Calls Tryz.prog 124 #[cV vd vf, .agg #[.int .i64 op, .int .i64 n, .int .i64 ty, va, vb]] w' fun e w'' => e = .returned v ∧ Ext w' w'' :=
  hargs_any vd vf C (.mk op n ty [] []) va vb w h ha
theorem eqSorts_is (v1 v2 : Value) (l1 l2 : List Int) (q : Bool) (hq : decide (l1 = l2) = q) (w : World) (h1 : RInts w v1 l1) (h2 : RInts w v2 l2) :
    Calls Tryz.prog 140 #[v1, v2] w fun e w' => e = .returned (.bool q) ∧ Ext w w' := by
  subst hq; exact eqSorts_any v1 v2 l1 l2 w h1 h2
set_option maxHeartbeats 8000000 in
set_option maxRecDepth 100000 in
theorem fits_2 (vd vf : Value) (C : Cg) (n ty : Int) (k : Nat) (vb by_ ow fa fb vs : Value) (A : Option Addr) (na ca : Nat) (brs : List Br) (la lb : List Int) (w : World) (hC : RCg w vd vf C) (hna : na ≤ 1048576) (hvb : RBrs w vb k brs) (hfa : RInts w fa la) (hfb : RFbs w fb lb) (hsh : RInts w vs (argsS 2)) (happ : appB C 2 n ty) (hhl : (hdArgs C 2 n ty).length ≤ 1048576) :
    Calls Tryz.prog 123 #[.agg #[vd, vf], fdV 2 n ty (.slice A na ca) vb by_ ow fa fb, .agg #[.int .i64 (sortOp 2), .bool (usesN 2), .bool (usesT 2), .bool (usesB 2), vs]] w fun e w' => e = .returned (.bool (decide (na = (wantS C 2 n ty).length) && decide (la = wantS C 2 n ty) && decide (brs.length = (if usesB 2 then xtorsC C ty else []).length) && fitBr (if usesB 2 then xtorsC C ty else []) brs lb)) ∧ Ext w w' := by
  have HC := Lib.hid hC
  have HVB := Lib.hid hvb; have HFA := Lib.hid hfa; have HFB := Lib.hid hfb; have HSH := Lib.hid hsh
  obtain ⟨Ad, cd, rfl, -, -⟩ := hC.d.form
  obtain ⟨Af, cf, rfl, -, -⟩ := hC.f.form
  obtain ⟨Ab, cb, rfl, hcb, hmb, -⟩ := hvb
  obtain ⟨Ala, cla, rfl, -, -⟩ := hfa.form
  obtain ⟨Alb, clb, rfl, -, hlbm⟩ := hfb.form
  obtain ⟨As, cs, rfl, -, -⟩ := hsh.form
  clear hC hfa hfb hsh
  unfold maxLen at hmb hlbm
  have HE := Lib.hid (Ext.al3 w (.cells #[.slice Ad C.decls.length cd, .slice Af C.funs.length cf] 171) (.cells #[.int .i64 2, .int .i64 n, .int .i64 ty, .slice A na ca, .slice Ab brs.length cb, by_, ow, .slice Ala la.length cla, .slice Alb lb.length clb] 208) (.cells #[.int .i64 (sortOp 2), .bool (usesN 2), .bool (usesT 2), .bool (usesB 2), .slice As (argsS 2).length cs] 214))
  have HB1 := Lib.hid (Ext.lt (Ext.al2 (w.alloc (.cells #[.slice Ad C.decls.length cd, .slice Af C.funs.length cf] 171)) (.cells #[.int .i64 2, .int .i64 n, .int .i64 ty, .slice A na ca, .slice Ab brs.length cb, by_, ow, .slice Ala la.length cla, .slice Alb lb.length clb] 208) (.cells #[.int .i64 (sortOp 2), .bool (usesN 2), .bool (usesT 2), .bool (usesB 2), .slice As (argsS 2).length cs] 214)) (heapNew w _))
  have HB2 := Lib.hid (Ext.lt (Ext.al ((w.alloc (.cells #[.slice Ad C.decls.length cd, .slice Af C.funs.length cf] 171)).alloc (.cells #[.int .i64 2, .int .i64 n, .int .i64 ty, .slice A na ca, .slice Ab brs.length cb, by_, ow, .slice Ala la.length cla, .slice Alb lb.length clb] 208)) (.cells #[.int .i64 (sortOp 2), .bool (usesN 2), .bool (usesT 2), .bool (usesB 2), .slice As (argsS 2).length cs] 214)) (heapNew2 w _ _))
  obtain ⟨va, hva, hcall⟩ := hargs_v (.slice Ad C.decls.length cd) (.slice Af C.funs.length cf) C 2 n ty (.slice A na ca) (.slice Ab brs.length cb) w HC.out happ
  have HVA := Lib.hid hva; have HCALL := Lib.hid hcall
  obtain ⟨Ava, cva, rfl, -, -⟩ := hva.form
  have HWANT : Hid (wantS C 2 n ty = (hdArgs C 2 n ty).map fun a => coI a.co) := rfl
  have HHL := Lib.hid hhl
  clear hva hcall happ hhl
  rw [show usesB 2 = false from rfl] at *
  simp only [Bool.false_eq_true, if_false]
  rw [HWANT.out, List.length_map]
  clear HWANT
  generalize hdArgs C 2 n ty = hd at *
  generalize hR : (decide (na = hd.length) && decide (la = hd.map fun a => coI a.co) && decide (brs.length = ([] : List Xtor).length) && fitBr [] brs lb) = R
  have HR := Lib.hid hR
  clear hR
  go_enter Tryz.func123, Tryz.ntmps123
  go_upto_region 10 with (first
    | (go_at_call 124; (with_reducible refine (HCALL.out _ HE.out).mono ?_); rintro e w4 ⟨rfl, hx⟩; have HX4 := Lib.hid hx; clear hx)
    | (go_at_call 139; (with_reducible refine (sortsOf_any _ _ _ (HVA.out.below (HE.out.tr HX4.out)) HHL.out).mono ?_); rintro e w5 ⟨⟨u, rfl, hu⟩, hx⟩; obtain ⟨Aw, cw, rfl, -, -⟩ := hu.form; rw [List.length_map] at hu; have HU := Lib.hid hu; have HX5 := Lib.hid (HX4.out.tr hx); have hb1 := HX5.out.lt HB1.out; have hb2 := HX5.out.lt HB2.out; have HB2' := Lib.hid hb2; have b0 := cellAt hb1 0; have b1 := cellAt hb1 1; have f0 := cellAt hb2 0; have f1 := cellAt hb2 1; have f2 := cellAt hb2 2; have f3 := cellAt hb2 3; have f4 := cellAt hb2 4; have f7 := cellAt hb2 7; have f8 := cellAt hb2 8; have s3 := HX5.out.keep (cellAt (heapNew3 w (.cells #[.slice Ad C.decls.length cd, .slice Af C.funs.length cf] 171) (.cells #[.int .i64 2, .int .i64 n, .int .i64 ty, .slice A na ca, .slice Ab brs.length cb, by_, ow, .slice Ala la.length cla, .slice Alb lb.length clb] 208) (.cells #[.int .i64 (sortOp 2), .bool (usesN 2), .bool (usesT 2), .bool false, .slice As (argsS 2).length cs] 214)) 3); clear hx hu hb1 hb2))
  have HHL2 := HHL.out
  clear HB1 HB2
  by_cases h1 : na = hd.length
  · subst h1
    by_cases h2 : la = hd.map fun a => coI a.co
    · have HQ : Hid (decide (la = hd.map fun a => coI a.co) = true) := decide_eq_true h2
      by_cases h3 : brs.length = 0
      · have HN : Hid (R = true) := by show R = true; rw [← HR.out, HQ.out, decide_eq_true (show brs.length = ([] : List Xtor).length from h3)]; simp; rfl
        have g1 : ((brs.length : Int) != 0) = false := by rw [h3]; rfl
        have g2 : ((brs.length : Int) == 0) = true := by rw [h3]; rfl
        clear h2 h3
        go_wp2_with (go_at_call 140; (with_reducible refine (eqSorts_is _ _ la (hd.map fun a => coI a.co) true HQ.out _ (HFA.out.below (HE.out.tr HX5.out)) HU.out).mono ?_); rintro e w6 ⟨rfl, hx⟩; have HX6 := Lib.hid (HX5.out.tr hx); have hb2 := hx.lt HB2'.out; clear f0 f1 f2 f3 f4 f7 f8 b0 b1 s3; have f4 := cellAt hb2 4; have f8 := cellAt hb2 8; clear hb2 hx)
        go_loopw [58] (fun i wr => i = .int .i64 0 ∧ Ext w6 wr) (fun i _ => 0)
        case atStart => exact ⟨rfl, Ext.rf _⟩
        case round =>
          obtain ⟨rfl, hb⟩ := hrel
          have HB := Lib.hid hb
          clear hb
          go_wp2
          go_ret
          exact ⟨ret_bool HN.out.symm, HE.out.tr (HX6.out.tr HB.out)⟩
      · have HN : Hid (R = false) := by show R = false; rw [← HR.out, decide_eq_false (show ¬ brs.length = ([] : List Xtor).length from h3)]; simp
        have g1 : ((brs.length : Int) != 0) = true := bne_iff_ne.2 (by omega)
        have g2 : ((brs.length : Int) == 0) = false := beq_eq_false_iff_ne.2 (by omega)
        clear h2
        go_wp2_with (go_at_call 140; (with_reducible refine (eqSorts_is _ _ la (hd.map fun a => coI a.co) true HQ.out _ (HFA.out.below (HE.out.tr HX5.out)) HU.out).mono ?_); rintro e w6 ⟨rfl, hx⟩; have HX6 := Lib.hid (HX5.out.tr hx); have hb2 := hx.lt HB2'.out; clear f0 f1 f2 f3 f4 f7 f8 b0 b1 s3; have f4 := cellAt hb2 4; have f8 := cellAt hb2 8; clear hb2 hx)
        go_ret
        exact ⟨ret_bool HN.out.symm, HE.out.tr HX6.out⟩
    · have HQ : Hid (decide (la = hd.map fun a => coI a.co) = false) := decide_eq_false h2
      have HN : Hid (R = false) := by show R = false; rw [← HR.out, HQ.out]; simp
      clear h2
      go_wp2_with (go_at_call 140; (with_reducible refine (eqSorts_is _ _ la (hd.map fun a => coI a.co) false HQ.out _ (HFA.out.below (HE.out.tr HX5.out)) HU.out).mono ?_); rintro e w6 ⟨rfl, hx⟩; have HX6 := Lib.hid (HX5.out.tr hx); have hb2 := hx.lt HB2'.out; clear f0 f1 f2 f3 f4 f7 f8 b0 b1 s3; have f4 := cellAt hb2 4; have f8 := cellAt hb2 8; clear hb2 hx)
      go_ret
      exact ⟨ret_bool HN.out.symm, HE.out.tr HX6.out⟩
  · have HN : Hid (R = false) := by show R = false; rw [← HR.out, decide_eq_false h1]; rfl
    go_wp2
    go_ret
    exact ⟨ret_bool HN.out.symm, HE.out.tr HX5.out⟩
set_option maxHeartbeats 8000000 in
set_option maxRecDepth 100000 in
theorem fits_6 (vd vf : Value) (C : Cg) (n ty : Int) (k : Nat) (vb by_ ow fa fb vs : Value) (A : Option Addr) (na ca : Nat) (brs : List Br) (la lb : List Int) (w : World) (hC : RCg w vd vf C) (hna : na ≤ 1048576) (hvb : RBrs w vb k brs) (hfa : RInts w fa la) (hfb : RFbs w fb lb) (hsh : RInts w vs (argsS 6)) (happ : appB C 6 n ty) (hhl : (hdArgs C 6 n ty).length ≤ 1048576) :
    Calls Tryz.prog 123 #[.agg #[vd, vf], fdV 6 n ty (.slice A na ca) vb by_ ow fa fb, .agg #[.int .i64 (sortOp 6), .bool (usesN 6), .bool (usesT 6), .bool (usesB 6), vs]] w fun e w' => e = .returned (.bool (decide (na = (wantS C 6 n ty).length) && decide (la = wantS C 6 n ty) && decide (brs.length = (if usesB 6 then xtorsC C ty else []).length) && fitBr (if usesB 6 then xtorsC C ty else []) brs lb)) ∧ Ext w w' := by
  have HC := Lib.hid hC
  have HVB := Lib.hid hvb; have HFA := Lib.hid hfa; have HFB := Lib.hid hfb; have HSH := Lib.hid hsh
  obtain ⟨Ad, cd, rfl, -, -⟩ := hC.d.form
  obtain ⟨Af, cf, rfl, -, -⟩ := hC.f.form
  obtain ⟨Ab, cb, rfl, hcb, hmb, -⟩ := hvb
  obtain ⟨Ala, cla, rfl, -, -⟩ := hfa.form
  obtain ⟨Alb, clb, rfl, -, hlbm⟩ := hfb.form
  obtain ⟨As, cs, rfl, -, -⟩ := hsh.form
  clear hC hfa hfb hsh
  unfold maxLen at hmb hlbm
  have HE := Lib.hid (Ext.al3 w (.cells #[.slice Ad C.decls.length cd, .slice Af C.funs.length cf] 171) (.cells #[.int .i64 6, .int .i64 n, .int .i64 ty, .slice A na ca, .slice Ab brs.length cb, by_, ow, .slice Ala la.length cla, .slice Alb lb.length clb] 208) (.cells #[.int .i64 (sortOp 6), .bool (usesN 6), .bool (usesT 6), .bool (usesB 6), .slice As (argsS 6).length cs] 214))
  have HB1 := Lib.hid (Ext.lt (Ext.al2 (w.alloc (.cells #[.slice Ad C.decls.length cd, .slice Af C.funs.length cf] 171)) (.cells #[.int .i64 6, .int .i64 n, .int .i64 ty, .slice A na ca, .slice Ab brs.length cb, by_, ow, .slice Ala la.length cla, .slice Alb lb.length clb] 208) (.cells #[.int .i64 (sortOp 6), .bool (usesN 6), .bool (usesT 6), .bool (usesB 6), .slice As (argsS 6).length cs] 214)) (heapNew w _))
  have HB2 := Lib.hid (Ext.lt (Ext.al ((w.alloc (.cells #[.slice Ad C.decls.length cd, .slice Af C.funs.length cf] 171)).alloc (.cells #[.int .i64 6, .int .i64 n, .int .i64 ty, .slice A na ca, .slice Ab brs.length cb, by_, ow, .slice Ala la.length cla, .slice Alb lb.length clb] 208)) (.cells #[.int .i64 (sortOp 6), .bool (usesN 6), .bool (usesT 6), .bool (usesB 6), .slice As (argsS 6).length cs] 214)) (heapNew2 w _ _))
  obtain ⟨va, hva, hcall⟩ := hargs_v (.slice Ad C.decls.length cd) (.slice Af C.funs.length cf) C 6 n ty (.slice A na ca) (.slice Ab brs.length cb) w HC.out happ
  have HVA := Lib.hid hva; have HCALL := Lib.hid hcall
  obtain ⟨Ava, cva, rfl, -, -⟩ := hva.form
  have HWANT : Hid (wantS C 6 n ty = (hdArgs C 6 n ty).map fun a => coI a.co) := rfl
  have HHL := Lib.hid hhl
  clear hva hcall happ hhl
  rw [show usesB 6 = false from rfl] at *
  simp only [Bool.false_eq_true, if_false]
  rw [HWANT.out, List.length_map]
  clear HWANT
  generalize hdArgs C 6 n ty = hd at *
  generalize hR : (decide (na = hd.length) && decide (la = hd.map fun a => coI a.co) && decide (brs.length = ([] : List Xtor).length) && fitBr [] brs lb) = R
  have HR := Lib.hid hR
  clear hR
  go_enter Tryz.func123, Tryz.ntmps123
  go_upto_region 10 with (first
    | (go_at_call 124; (with_reducible refine (HCALL.out _ HE.out).mono ?_); rintro e w4 ⟨rfl, hx⟩; have HX4 := Lib.hid hx; clear hx)
    | (go_at_call 139; (with_reducible refine (sortsOf_any _ _ _ (HVA.out.below (HE.out.tr HX4.out)) HHL.out).mono ?_); rintro e w5 ⟨⟨u, rfl, hu⟩, hx⟩; obtain ⟨Aw, cw, rfl, -, -⟩ := hu.form; rw [List.length_map] at hu; have HU := Lib.hid hu; have HX5 := Lib.hid (HX4.out.tr hx); have hb1 := HX5.out.lt HB1.out; have hb2 := HX5.out.lt HB2.out; have HB2' := Lib.hid hb2; have b0 := cellAt hb1 0; have b1 := cellAt hb1 1; have f0 := cellAt hb2 0; have f1 := cellAt hb2 1; have f2 := cellAt hb2 2; have f3 := cellAt hb2 3; have f4 := cellAt hb2 4; have f7 := cellAt hb2 7; have f8 := cellAt hb2 8; have s3 := HX5.out.keep (cellAt (heapNew3 w (.cells #[.slice Ad C.decls.length cd, .slice Af C.funs.length cf] 171) (.cells #[.int .i64 6, .int .i64 n, .int .i64 ty, .slice A na ca, .slice Ab brs.length cb, by_, ow, .slice Ala la.length cla, .slice Alb lb.length clb] 208) (.cells #[.int .i64 (sortOp 6), .bool (usesN 6), .bool (usesT 6), .bool false, .slice As (argsS 6).length cs] 214)) 3); clear hx hu hb1 hb2))
  have HHL2 := HHL.out
  clear HB1 HB2
  by_cases h1 : na = hd.length
  · subst h1
    by_cases h2 : la = hd.map fun a => coI a.co
    · have HQ : Hid (decide (la = hd.map fun a => coI a.co) = true) := decide_eq_true h2
      by_cases h3 : brs.length = 0
      · have HN : Hid (R = true) := by show R = true; rw [← HR.out, HQ.out, decide_eq_true (show brs.length = ([] : List Xtor).length from h3)]; simp; rfl
        have g1 : ((brs.length : Int) != 0) = false := by rw [h3]; rfl
        have g2 : ((brs.length : Int) == 0) = true := by rw [h3]; rfl
        clear h2 h3
        go_wp2_with (go_at_call 140; (with_reducible refine (eqSorts_is _ _ la (hd.map fun a => coI a.co) true HQ.out _ (HFA.out.below (HE.out.tr HX5.out)) HU.out).mono ?_); rintro e w6 ⟨rfl, hx⟩; have HX6 := Lib.hid (HX5.out.tr hx); have hb2 := hx.lt HB2'.out; clear f0 f1 f2 f3 f4 f7 f8 b0 b1 s3; have f4 := cellAt hb2 4; have f8 := cellAt hb2 8; clear hb2 hx)
        go_loopw [58] (fun i wr => i = .int .i64 0 ∧ Ext w6 wr) (fun i _ => 0)
        case atStart => exact ⟨rfl, Ext.rf _⟩
        case round =>
          obtain ⟨rfl, hb⟩ := hrel
          have HB := Lib.hid hb
          clear hb
          go_wp2
          go_ret
          exact ⟨ret_bool HN.out.symm, HE.out.tr (HX6.out.tr HB.out)⟩
      · have HN : Hid (R = false) := by show R = false; rw [← HR.out, decide_eq_false (show ¬ brs.length = ([] : List Xtor).length from h3)]; simp
        have g1 : ((brs.length : Int) != 0) = true := bne_iff_ne.2 (by omega)
        have g2 : ((brs.length : Int) == 0) = false := beq_eq_false_iff_ne.2 (by omega)
        clear h2
        go_wp2_with (go_at_call 140; (with_reducible refine (eqSorts_is _ _ la (hd.map fun a => coI a.co) true HQ.out _ (HFA.out.below (HE.out.tr HX5.out)) HU.out).mono ?_); rintro e w6 ⟨rfl, hx⟩; have HX6 := Lib.hid (HX5.out.tr hx); have hb2 := hx.lt HB2'.out; clear f0 f1 f2 f3 f4 f7 f8 b0 b1 s3; have f4 := cellAt hb2 4; have f8 := cellAt hb2 8; clear hb2 hx)
        go_ret
        exact ⟨ret_bool HN.out.symm, HE.out.tr HX6.out⟩
    · have HQ : Hid (decide (la = hd.map fun a => coI a.co) = false) := decide_eq_false h2
      have HN : Hid (R = false) := by show R = false; rw [← HR.out, HQ.out]; simp
      clear h2
      go_wp2_with (go_at_call 140; (with_reducible refine (eqSorts_is _ _ la (hd.map fun a => coI a.co) false HQ.out _ (HFA.out.below (HE.out.tr HX5.out)) HU.out).mono ?_); rintro e w6 ⟨rfl, hx⟩; have HX6 := Lib.hid (HX5.out.tr hx); have hb2 := hx.lt HB2'.out; clear f0 f1 f2 f3 f4 f7 f8 b0 b1 s3; have f4 := cellAt hb2 4; have f8 := cellAt hb2 8; clear hb2 hx)
      go_ret
      exact ⟨ret_bool HN.out.symm, HE.out.tr HX6.out⟩
  · have HN : Hid (R = false) := by show R = false; rw [← HR.out, decide_eq_false h1]; rfl
    go_wp2
    go_ret
    exact ⟨ret_bool HN.out.symm, HE.out.tr HX5.out⟩
set_option maxHeartbeats 8000000 in
set_option maxRecDepth 100000 in
theorem fits_13 (vd vf : Value) (C : Cg) (n ty : Int) (k : Nat) (vb by_ ow fa fb vs : Value) (A : Option Addr) (na ca : Nat) (brs : List Br) (la lb : List Int) (w : World) (hC : RCg w vd vf C) (hna : na ≤ 1048576) (hvb : RBrs w vb k brs) (hfa : RInts w fa la) (hfb : RFbs w fb lb) (hsh : RInts w vs (argsS 13)) (happ : appB C 13 n ty) (hhl : (hdArgs C 13 n ty).length ≤ 1048576) :
    Calls Tryz.prog 123 #[.agg #[vd, vf], fdV 13 n ty (.slice A na ca) vb by_ ow fa fb, .agg #[.int .i64 (sortOp 13), .bool (usesN 13), .bool (usesT 13), .bool (usesB 13), vs]] w fun e w' => e = .returned (.bool (decide (na = (wantS C 13 n ty).length) && decide (la = wantS C 13 n ty) && decide (brs.length = (if usesB 13 then xtorsC C ty else []).length) && fitBr (if usesB 13 then xtorsC C ty else []) brs lb)) ∧ Ext w w' := by
  have HC := Lib.hid hC
  have HVB := Lib.hid hvb; have HFA := Lib.hid hfa; have HFB := Lib.hid hfb; have HSH := Lib.hid hsh
  obtain ⟨Ad, cd, rfl, -, -⟩ := hC.d.form
  obtain ⟨Af, cf, rfl, -, -⟩ := hC.f.form
  obtain ⟨Ab, cb, rfl, hcb, hmb, -⟩ := hvb
  obtain ⟨Ala, cla, rfl, -, -⟩ := hfa.form
  obtain ⟨Alb, clb, rfl, -, hlbm⟩ := hfb.form
  obtain ⟨As, cs, rfl, -, -⟩ := hsh.form
  clear hC hfa hfb hsh
  unfold maxLen at hmb hlbm
  have HE := Lib.hid (Ext.al3 w (.cells #[.slice Ad C.decls.length cd, .slice Af C.funs.length cf] 171) (.cells #[.int .i64 13, .int .i64 n, .int .i64 ty, .slice A na ca, .slice Ab brs.length cb, by_, ow, .slice Ala la.length cla, .slice Alb lb.length clb] 208) (.cells #[.int .i64 (sortOp 13), .bool (usesN 13), .bool (usesT 13), .bool (usesB 13), .slice As (argsS 13).length cs] 214))
  have HB1 := Lib.hid (Ext.lt (Ext.al2 (w.alloc (.cells #[.slice Ad C.decls.length cd, .slice Af C.funs.length cf] 171)) (.cells #[.int .i64 13, .int .i64 n, .int .i64 ty, .slice A na ca, .slice Ab brs.length cb, by_, ow, .slice Ala la.length cla, .slice Alb lb.length clb] 208) (.cells #[.int .i64 (sortOp 13), .bool (usesN 13), .bool (usesT 13), .bool (usesB 13), .slice As (argsS 13).length cs] 214)) (heapNew w _))
  have HB2 := Lib.hid (Ext.lt (Ext.al ((w.alloc (.cells #[.slice Ad C.decls.length cd, .slice Af C.funs.length cf] 171)).alloc (.cells #[.int .i64 13, .int .i64 n, .int .i64 ty, .slice A na ca, .slice Ab brs.length cb, by_, ow, .slice Ala la.length cla, .slice Alb lb.length clb] 208)) (.cells #[.int .i64 (sortOp 13), .bool (usesN 13), .bool (usesT 13), .bool (usesB 13), .slice As (argsS 13).length cs] 214)) (heapNew2 w _ _))
  obtain ⟨va, hva, hcall⟩ := hargs_v (.slice Ad C.decls.length cd) (.slice Af C.funs.length cf) C 13 n ty (.slice A na ca) (.slice Ab brs.length cb) w HC.out happ
  have HVA := Lib.hid hva; have HCALL := Lib.hid hcall
  obtain ⟨Ava, cva, rfl, -, -⟩ := hva.form
  have HWANT : Hid (wantS C 13 n ty = (hdArgs C 13 n ty).map fun a => coI a.co) := rfl
  have HHL := Lib.hid hhl
  clear hva hcall happ hhl
  rw [show usesB 13 = false from rfl] at *
  simp only [Bool.false_eq_true, if_false]
  rw [HWANT.out, List.length_map]
  clear HWANT
  generalize hdArgs C 13 n ty = hd at *
  generalize hR : (decide (na = hd.length) && decide (la = hd.map fun a => coI a.co) && decide (brs.length = ([] : List Xtor).length) && fitBr [] brs lb) = R
  have HR := Lib.hid hR
  clear hR
  go_enter Tryz.func123, Tryz.ntmps123
  go_upto_region 10 with (first
    | (go_at_call 124; (with_reducible refine (HCALL.out _ HE.out).mono ?_); rintro e w4 ⟨rfl, hx⟩; have HX4 := Lib.hid hx; clear hx)
    | (go_at_call 139; (with_reducible refine (sortsOf_any _ _ _ (HVA.out.below (HE.out.tr HX4.out)) HHL.out).mono ?_); rintro e w5 ⟨⟨u, rfl, hu⟩, hx⟩; obtain ⟨Aw, cw, rfl, -, -⟩ := hu.form; rw [List.length_map] at hu; have HU := Lib.hid hu; have HX5 := Lib.hid (HX4.out.tr hx); have hb1 := HX5.out.lt HB1.out; have hb2 := HX5.out.lt HB2.out; have HB2' := Lib.hid hb2; have b0 := cellAt hb1 0; have b1 := cellAt hb1 1; have f0 := cellAt hb2 0; have f1 := cellAt hb2 1; have f2 := cellAt hb2 2; have f3 := cellAt hb2 3; have f4 := cellAt hb2 4; have f7 := cellAt hb2 7; have f8 := cellAt hb2 8; have s3 := HX5.out.keep (cellAt (heapNew3 w (.cells #[.slice Ad C.decls.length cd, .slice Af C.funs.length cf] 171) (.cells #[.int .i64 13, .int .i64 n, .int .i64 ty, .slice A na ca, .slice Ab brs.length cb, by_, ow, .slice Ala la.length cla, .slice Alb lb.length clb] 208) (.cells #[.int .i64 (sortOp 13), .bool (usesN 13), .bool (usesT 13), .bool false, .slice As (argsS 13).length cs] 214)) 3); clear hx hu hb1 hb2))
  have HHL2 := HHL.out
  clear HB1 HB2
  by_cases h1 : na = hd.length
  · subst h1
    by_cases h2 : la = hd.map fun a => coI a.co
    · have HQ : Hid (decide (la = hd.map fun a => coI a.co) = true) := decide_eq_true h2
      by_cases h3 : brs.length = 0
      · have HN : Hid (R = true) := by show R = true; rw [← HR.out, HQ.out, decide_eq_true (show brs.length = ([] : List Xtor).length from h3)]; simp; rfl
        have g1 : ((brs.length : Int) != 0) = false := by rw [h3]; rfl
        have g2 : ((brs.length : Int) == 0) = true := by rw [h3]; rfl
        clear h2 h3
        go_wp2_with (go_at_call 140; (with_reducible refine (eqSorts_is _ _ la (hd.map fun a => coI a.co) true HQ.out _ (HFA.out.below (HE.out.tr HX5.out)) HU.out).mono ?_); rintro e w6 ⟨rfl, hx⟩; have HX6 := Lib.hid (HX5.out.tr hx); have hb2 := hx.lt HB2'.out; clear f0 f1 f2 f3 f4 f7 f8 b0 b1 s3; have f4 := cellAt hb2 4; have f8 := cellAt hb2 8; clear hb2 hx)
        go_loopw [58] (fun i wr => i = .int .i64 0 ∧ Ext w6 wr) (fun i _ => 0)
        case atStart => exact ⟨rfl, Ext.rf _⟩
        case round =>
          obtain ⟨rfl, hb⟩ := hrel
          have HB := Lib.hid hb
          clear hb
          go_wp2
          go_ret
          exact ⟨ret_bool HN.out.symm, HE.out.tr (HX6.out.tr HB.out)⟩
      · have HN : Hid (R = false) := by show R = false; rw [← HR.out, decide_eq_false (show ¬ brs.length = ([] : List Xtor).length from h3)]; simp
        have g1 : ((brs.length : Int) != 0) = true := bne_iff_ne.2 (by omega)
        have g2 : ((brs.length : Int) == 0) = false := beq_eq_false_iff_ne.2 (by omega)
        clear h2
        go_wp2_with (go_at_call 140; (with_reducible refine (eqSorts_is _ _ la (hd.map fun a => coI a.co) true HQ.out _ (HFA.out.below (HE.out.tr HX5.out)) HU.out).mono ?_); rintro e w6 ⟨rfl, hx⟩; have HX6 := Lib.hid (HX5.out.tr hx); have hb2 := hx.lt HB2'.out; clear f0 f1 f2 f3 f4 f7 f8 b0 b1 s3; have f4 := cellAt hb2 4; have f8 := cellAt hb2 8; clear hb2 hx)
        go_ret
        exact ⟨ret_bool HN.out.symm, HE.out.tr HX6.out⟩
    · have HQ : Hid (decide (la = hd.map fun a => coI a.co) = false) := decide_eq_false h2
      have HN : Hid (R = false) := by show R = false; rw [← HR.out, HQ.out]; simp
      clear h2
      go_wp2_with (go_at_call 140; (with_reducible refine (eqSorts_is _ _ la (hd.map fun a => coI a.co) false HQ.out _ (HFA.out.below (HE.out.tr HX5.out)) HU.out).mono ?_); rintro e w6 ⟨rfl, hx⟩; have HX6 := Lib.hid (HX5.out.tr hx); have hb2 := hx.lt HB2'.out; clear f0 f1 f2 f3 f4 f7 f8 b0 b1 s3; have f4 := cellAt hb2 4; have f8 := cellAt hb2 8; clear hb2 hx)
      go_ret
      exact ⟨ret_bool HN.out.symm, HE.out.tr HX6.out⟩
  · have HN : Hid (R = false) := by show R = false; rw [← HR.out, decide_eq_false h1]; rfl
    go_wp2
    go_ret
    exact ⟨ret_bool HN.out.symm, HE.out.tr HX5.out⟩
set_option maxHeartbeats 8000000 in
set_option maxRecDepth 100000 in
theorem fits_other (vd vf : Value) (C : Cg) (op n ty : Int) (k : Nat) (vb by_ ow fa fb vs : Value) (A : Option Addr) (na ca : Nat) (brs : List Br) (la lb : List Int) (w : World) (hC : RCg w vd vf C) (hna : na ≤ 1048576) (hvb : RBrs w vb k brs) (hfa : RInts w fa la) (hfb : RFbs w fb lb) (hsh : RInts w vs (argsS op)) (hop : op ≠ 2 ∧ op ≠ 6 ∧ op ≠ 13 ∧ op ≠ 4 ∧ op ≠ 8) :
    Calls Tryz.prog 123 #[.agg #[vd, vf], fdV op n ty (.slice A na ca) vb by_ ow fa fb, .agg #[.int .i64 (sortOp op), .bool (usesN op), .bool (usesT op), .bool (usesB op), vs]] w fun e w' => e = .returned (.bool (decide (na = (wantS C op n ty).length) && decide (la = wantS C op n ty) && decide (brs.length = (if usesB op then xtorsC C ty else []).length) && fitBr (if usesB op then xtorsC C ty else []) brs lb)) ∧ Ext w w' := by
  have HC := Lib.hid hC
  have HVB := Lib.hid hvb; have HFA := Lib.hid hfa; have HFB := Lib.hid hfb; have HSH := Lib.hid hsh
  obtain ⟨Ad, cd, rfl, -, -⟩ := hC.d.form
  obtain ⟨Af, cf, rfl, -, -⟩ := hC.f.form
  obtain ⟨Ab, cb, rfl, hcb, hmb, -⟩ := hvb
  obtain ⟨Ala, cla, rfl, -, -⟩ := hfa.form
  obtain ⟨Alb, clb, rfl, -, hlbm⟩ := hfb.form
  obtain ⟨As, cs, rfl, -, -⟩ := hsh.form
  clear hC hfa hfb hsh
  unfold maxLen at hmb hlbm
  have HE := Lib.hid (Ext.al3 w (.cells #[.slice Ad C.decls.length cd, .slice Af C.funs.length cf] 171) (.cells #[.int .i64 op, .int .i64 n, .int .i64 ty, .slice A na ca, .slice Ab brs.length cb, by_, ow, .slice Ala la.length cla, .slice Alb lb.length clb] 208) (.cells #[.int .i64 (sortOp op), .bool (usesN op), .bool (usesT op), .bool (usesB op), .slice As (argsS op).length cs] 214))
  have HB1 := Lib.hid (Ext.lt (Ext.al2 (w.alloc (.cells #[.slice Ad C.decls.length cd, .slice Af C.funs.length cf] 171)) (.cells #[.int .i64 op, .int .i64 n, .int .i64 ty, .slice A na ca, .slice Ab brs.length cb, by_, ow, .slice Ala la.length cla, .slice Alb lb.length clb] 208) (.cells #[.int .i64 (sortOp op), .bool (usesN op), .bool (usesT op), .bool (usesB op), .slice As (argsS op).length cs] 214)) (heapNew w _))
  have HB2 := Lib.hid (Ext.lt (Ext.al ((w.alloc (.cells #[.slice Ad C.decls.length cd, .slice Af C.funs.length cf] 171)).alloc (.cells #[.int .i64 op, .int .i64 n, .int .i64 ty, .slice A na ca, .slice Ab brs.length cb, by_, ow, .slice Ala la.length cla, .slice Alb lb.length clb] 208)) (.cells #[.int .i64 (sortOp op), .bool (usesN op), .bool (usesT op), .bool (usesB op), .slice As (argsS op).length cs] 214)) (heapNew2 w _ _))
  have hub : usesB op = false := by unfold usesB; exact decide_eq_false (by omega)
  have hw : wantS C op n ty = argsS op := by unfold wantS; rw [if_neg (by omega)]
  generalize usesB op = ub at *
  subst hub
  simp only [Bool.false_eq_true, if_false]
  rw [hw]
  clear hw
  obtain ⟨g1', g2', g3', g4', g5'⟩ := hop
  generalize argsS op = W at *
  generalize sortOp op = so at *
  generalize usesN op = un at *
  generalize usesT op = ut at *
  generalize hR : (decide (na = W.length) && decide (la = W) && decide (brs.length = ([] : List Xtor).length) && fitBr [] brs lb) = R
  have HR := Lib.hid hR
  clear hR
  have s3 := cellAt (heapNew3 w (.cells #[.slice Ad C.decls.length cd, .slice Af C.funs.length cf] 171) (.cells #[.int .i64 op, .int .i64 n, .int .i64 ty, .slice A na ca, .slice Ab brs.length cb, by_, ow, .slice Ala la.length cla, .slice Alb lb.length clb] 208) (.cells #[.int .i64 so, .bool un, .bool ut, .bool false, .slice As W.length cs] 214)) 3
  have b0 := cellAt HB1.out 0; have b1 := cellAt HB1.out 1
  have HB2' := Lib.hid HB2.out
  have f0 := cellAt HB2.out 0; have f1 := cellAt HB2.out 1; have f2 := cellAt HB2.out 2; have f3 := cellAt HB2.out 3; have f4 := cellAt HB2.out 4; have f7 := cellAt HB2.out 7; have f8 := cellAt HB2.out 8
  go_enter Tryz.func123, Tryz.ntmps123
  go_upto_region 10 with fail
  generalize ((w.alloc _).alloc _).alloc _ = w5 at *
  have HX5 := Lib.hid (Ext.rf w5)
  clear HB1 HB2
  by_cases h1 : na = W.length
  · subst h1
    by_cases h2 : la = W
    · have HQ : Hid (decide (la = W) = true) := decide_eq_true h2
      by_cases h3 : brs.length = 0
      · have HN : Hid (R = true) := by show R = true; rw [← HR.out, HQ.out, decide_eq_true (show brs.length = ([] : List Xtor).length from h3)]; simp; rfl
        have g1 : ((brs.length : Int) != 0) = false := by rw [h3]; rfl
        have g2 : ((brs.length : Int) == 0) = true := by rw [h3]; rfl
        clear h2 h3
        go_wp2_with (go_at_call 140; (with_reducible refine (eqSorts_is _ _ la W true HQ.out _ (HFA.out.below (HE.out.tr HX5.out)) (HSH.out.below (HE.out.tr HX5.out))).mono ?_); rintro e w6 ⟨rfl, hx⟩; have HX6 := Lib.hid (HX5.out.tr hx); have hb2 := hx.lt HB2'.out; clear f0 f1 f2 f3 f4 f7 f8 b0 b1 s3; have f4 := cellAt hb2 4; have f8 := cellAt hb2 8; clear hb2 hx)
        go_loopw [58] (fun i wr => i = .int .i64 0 ∧ Ext w6 wr) (fun i _ => 0)
        case atStart => exact ⟨rfl, Ext.rf _⟩
        case round =>
          obtain ⟨rfl, hb⟩ := hrel
          have HB := Lib.hid hb
          clear hb
          go_wp2
          go_ret
          exact ⟨ret_bool HN.out.symm, HE.out.tr (HX6.out.tr HB.out)⟩
      · have HN : Hid (R = false) := by show R = false; rw [← HR.out, decide_eq_false (show ¬ brs.length = ([] : List Xtor).length from h3)]; simp
        have g1 : ((brs.length : Int) != 0) = true := bne_iff_ne.2 (by omega)
        have g2 : ((brs.length : Int) == 0) = false := beq_eq_false_iff_ne.2 (by omega)
        clear h2
        go_wp2_with (go_at_call 140; (with_reducible refine (eqSorts_is _ _ la W true HQ.out _ (HFA.out.below (HE.out.tr HX5.out)) (HSH.out.below (HE.out.tr HX5.out))).mono ?_); rintro e w6 ⟨rfl, hx⟩; have HX6 := Lib.hid (HX5.out.tr hx); have hb2 := hx.lt HB2'.out; clear f0 f1 f2 f3 f4 f7 f8 b0 b1 s3; have f4 := cellAt hb2 4; have f8 := cellAt hb2 8; clear hb2 hx)
        go_ret
        exact ⟨ret_bool HN.out.symm, HE.out.tr HX6.out⟩
    · have HQ : Hid (decide (la = W) = false) := decide_eq_false h2
      have HN : Hid (R = false) := by show R = false; rw [← HR.out, HQ.out]; simp
      clear h2
      go_wp2_with (go_at_call 140; (with_reducible refine (eqSorts_is _ _ la W false HQ.out _ (HFA.out.below (HE.out.tr HX5.out)) (HSH.out.below (HE.out.tr HX5.out))).mono ?_); rintro e w6 ⟨rfl, hx⟩; have HX6 := Lib.hid (HX5.out.tr hx); have hb2 := hx.lt HB2'.out; clear f0 f1 f2 f3 f4 f7 f8 b0 b1 s3; have f4 := cellAt hb2 4; have f8 := cellAt hb2 8; clear hb2 hx)
      go_ret
      exact ⟨ret_bool HN.out.symm, HE.out.tr HX6.out⟩
  · have HN : Hid (R = false) := by show R = false; rw [← HR.out, decide_eq_false h1]; rfl
    go_wp2
    go_ret
    exact ⟨ret_bool HN.out.symm, HE.out.tr HX5.out⟩
end Go.Proofs.YtkdhhcidpklgoaaGreatDoor
