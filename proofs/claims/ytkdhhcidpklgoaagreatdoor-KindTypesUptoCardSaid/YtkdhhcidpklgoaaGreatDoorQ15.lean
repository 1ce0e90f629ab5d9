/- core: a function, a program. -/
import Derived.Test.YtkdhhcidpklgoaaGreatDoorQ14
import Derived.Deep.RegionHeld3
namespace Go.Proofs.YtkdhhcidpklgoaaGreatDoor
open Go.RowKit Go.Shelf
attribute [local go_sem] Oper.semAt_some

theorem headFirst {l : List CF} (h : 0 < l.length) : l.headD noCF = l[0] := by
  cases l with
  | nil => simp at h
  | cons a r => rfl
theorem funC_long {C : Cg} {f : CF} (h : ¬ f.ps.length ≤ 6) : funC C f = false := by unfold funC; rw [decide_eq_false h]; rfl
theorem funC_is {C : Cg} {f : CF} (h : f.ps.length ≤ 6) : funC C f = ((f.ps.all fun a => isTypeC C a.ty) && (bindsB f.vars (f.ps.map Arg.co) f.ps && decide (sortN C (addS (fun _ => false) (zipCo f.vars (f.ps.map Arg.co))) f.body = 2))) := by
  unfold funC; rw [decide_eq_true h]; rfl
set_option maxHeartbeats 16000000 in
set_option maxRecDepth 100000 in
theorem validFun_any (vd vf : Value) (C : Cg) (f : CF) (vp vv xa xb : Value) (k : Nat) (w : World) (hC : RCg w vd vf C) (hS : ShC C) (htab : Tabs w) (h : RArgs w vp f.ps) (hv : RInts w vv f.vars) (hl : f.ps.length ≤ 1048576) (hvl : f.vars.length ≤ 1048576) (hk : RNd w k f.body xa xb) (hb : BN f.body) :
    Calls Tryz.prog 80 #[cV vd vf, fV f vp vv xa xb] w fun e w' => e = .returned (.bool (funC C f)) ∧ Ext w w' := by
  have HC := Lib.hid hC; have HS := Lib.hid hS; have HT := Lib.hid htab; have H := Lib.hid h; have HV := Lib.hid hv; have HK := Lib.hid hk; have HB := Lib.hid hb
  have HLONG := Lib.hid (@funC_long C f); have HIS := Lib.hid (@funC_is C f)
  obtain ⟨-, ⟨Ax, cx, rfl, -, -⟩, ⟨Bx, dx, rfl, -, -⟩⟩ := hk.form
  obtain ⟨Ap, cp, rfl, -, hmp⟩ := h.form
  obtain ⟨Av, cv, rfl, -, -⟩ := hv.form
  obtain ⟨Ad, cd, rfl, -, -⟩ := hC.d.form
  obtain ⟨Af, cf, rfl, -, -⟩ := hC.f.form
  clear hC hS htab h hv hk hb
  obtain ⟨w2, hw2⟩ : ∃ w2, w2 = (w.alloc (.cells #[.slice Ad C.decls.length cd, .slice Af C.funs.length cf] 25)).alloc (.cells #[.string f.nm, .slice Ap f.ps.length cp, .slice Av f.vars.length cv, .int .i64 f.body.op, .int .i64 f.body.n, .int .i64 f.body.ty, .slice Ax f.body.args.length cx, .slice Bx f.body.brs.length dx] 53) := ⟨_, rfl⟩
  have HE2 : Hid (Ext w w2) := by show Ext w w2; rw [hw2]; exact Ext.al2 _ _ _
  have HP2 : Hid (w2.heap[w.heap.size]? = some (.cells #[.slice Ad C.decls.length cd, .slice Af C.funs.length cf] 25 (0, 0))) := by
    show _ = _; rw [hw2]; exact Ext.lt (Ext.al _ _) (heapNew w _)
  have HF2 : Hid (w2.heap[w.heap.size + 1]? = some (.cells #[.string f.nm, .slice Ap f.ps.length cp, .slice Av f.vars.length cv, .int .i64 f.body.op, .int .i64 f.body.n, .int .i64 f.body.ty, .slice Ax f.body.args.length cx, .slice Bx f.body.brs.length dx] 53 (0, 0))) := by
    show _ = _; rw [hw2]; exact heapNew2 w _ _
  by_cases h6 : f.ps.length ≤ 6
  · have HISS := Lib.hid (HIS.out h6)
    go_enter Tryz.func80, Tryz.ntmps80
    go_wp2
    rw [← hw2]
    clear hw2
    go_loopw [15] (fun i wr => ∃ k : Nat, k ≤ f.ps.length ∧ i = .int .i64 k ∧ (f.ps.all fun a => isTypeC C a.ty) = ((f.ps.drop k).all fun a => isTypeC C a.ty) ∧ Ext w2 wr) (fun i _ => f.ps.length - (intOf i).toNat)
    case atStart => exact ⟨0, Nat.zero_le _, rfl, rfl, Ext.rf _⟩
    case round =>
      obtain ⟨k, hk, rfl, hd, hx⟩ := hrel
      have HD := Lib.hid hd; have HX2 := Lib.hid hx
      have HX := Lib.hid (HE2.out.tr hx)
      have hp2 := hx.lt HP2.out
      have HPR := Lib.hid hp2
      have p0 := cellAt hp2 0
      have p1 := cellAt hp2 1
      clear hd hx hp2
      by_cases hlt : k < f.ps.length
      · obtain ⟨b, o, rfl, hbl, y0, y1⟩ := H.out.at_ hlt
        have y0 := HX.out.keep y0
        have y1 := HX.out.keep y1
        have HST := Lib.hid (all_drop (p := fun a => isTypeC C a.ty) hlt)
        generalize f.ps[k] = x at *
        have HPX := Lib.hid (Ext.lt (Ext.al wr (.cells #[.int .i64 x.ty, .bool x.co] 114)) HPR.out)
        have q0 := cellAt HPX.out 0
        have q1 := cellAt HPX.out 1
        have HIT : Hid (∀ w', Ext w w' → Calls Tryz.prog 64 #[.agg #[.slice Ad C.decls.length cd, .slice Af C.funs.length cf], .int .i64 x.ty] w' fun e w'' => e = .returned (.bool (isTypeC C x.ty)) ∧ Ext w' w'') := fun w' h => isType_any _ (.slice Af C.funs.length cf) C x.ty w' (HC.out.d.below h)
        have HEX := Lib.hid (HX.out.tr (Ext.al wr (.cells #[.int .i64 x.ty, .bool x.co] 114)))
        have HE2X := Lib.hid (HX2.out.tr (Ext.al wr (.cells #[.int .i64 x.ty, .bool x.co] 114)))
        cases hq : isTypeC C x.ty
        · have HQ : Hid (funC C f = false) := by show _ = _; rw [HISS.out, HD.out, HST.out]; simp only [hq]; rfl
          rw [hq] at HIT
          go_wp2_with (go_at_call 64; (with_reducible refine (HIT.out _ HEX.out).mono ?_); rintro e w5 ⟨rfl, hx5⟩)
          go_ret
          exact ⟨ret_bool HQ.out.symm, HEX.out.tr hx5⟩
        · rw [hq] at HIT
          have HQ : Hid ((f.ps.all fun a => isTypeC C a.ty) = ((f.ps.drop (k + 1)).all fun a => isTypeC C a.ty)) := by show _ = _; rw [HD.out, HST.out]; simp only [hq]; rfl
          go_wp2_with (go_at_call 64; (with_reducible refine (HIT.out _ HEX.out).mono ?_); rintro e w5 ⟨rfl, hx5⟩)
          exact ⟨⟨k + 1, by omega, by go_num, HQ.out, HE2X.out.tr hx5⟩, by simp [intOf]; omega⟩
      · have hkl : k = f.ps.length := by omega
        have HALL : Hid ((f.ps.all fun a => isTypeC C a.ty) = true) := by show _ = _; rw [HD.out, hkl, List.drop_length]; rfl
        have HFR := Lib.hid (HX2.out.lt HF2.out)
        have f0 := cellAt HFR.out 0
        have f1 := cellAt HFR.out 1
        have f2 := cellAt HFR.out 2
        have f3 := cellAt HFR.out 3
        have f4 := cellAt HFR.out 4
        have f5 := cellAt HFR.out 5
        have f6 := cellAt HFR.out 6
        have f7 := cellAt HFR.out 7
        have HAS := Lib.hid (asBranch_any f _ _ _ _ wr (H.out.below HX.out) (HV.out.below HX.out) hl ⟨_, HK.out.below HX.out⟩)
        go_wp2_with (go_at_call 51; (with_reducible refine (HAS.out).mono ?_); rintro e w5 ⟨⟨vc, rfl, hvc⟩, hx5⟩; obtain ⟨Ac, cc, rfl, -, -⟩ := hvc.form; have HVC := Lib.hid hvc; have HX5 := Lib.hid hx5; clear hvc hx5 hkl)
        have HLC : Hid ((f.ps.map Arg.co).length = f.ps.length) := List.length_map _
        have HNB := Lib.hid (heapNew w5 (.cells #[.slice Av f.vars.length cv, .slice Ac f.ps.length cc, .int .i64 f.body.op, .int .i64 f.body.n, .int .i64 f.body.ty, .slice Ax f.body.args.length cx, .slice Bx f.body.brs.length dx] 97))
        have HE6 := Lib.hid ((HX.out.tr HX5.out).tr (Ext.al w5 (.cells #[.slice Av f.vars.length cv, .slice Ac f.ps.length cc, .int .i64 f.body.op, .int .i64 f.body.n, .int .i64 f.body.ty, .slice Ax f.body.args.length cx, .slice Bx f.body.brs.length dx] 97)))
        have HP6 := Lib.hid (Ext.lt (HX5.out.tr (Ext.al w5 (.cells #[.slice Av f.vars.length cv, .slice Ac f.ps.length cc, .int .i64 f.body.op, .int .i64 f.body.n, .int .i64 f.body.ty, .slice Ax f.body.args.length cx, .slice Bx f.body.brs.length dx] 97))) HPR.out)
        have HF6 := Lib.hid (Ext.lt (HX5.out.tr (Ext.al w5 (.cells #[.slice Av f.vars.length cv, .slice Ac f.ps.length cc, .int .i64 f.body.op, .int .i64 f.body.n, .int .i64 f.body.ty, .slice Ax f.body.args.length cx, .slice Bx f.body.brs.length dx] 97))) HFR.out)
        have HVC6 : Hid (RBools (w5.alloc (.cells #[.slice Av f.vars.length cv, .slice Ac f.ps.length cc, .int .i64 f.body.op, .int .i64 f.body.n, .int .i64 f.body.ty, .slice Ax f.body.args.length cx, .slice Bx f.body.brs.length dx] 97)) (.slice Ac f.ps.length cc) (f.ps.map Arg.co)) := by have := HVC.out.below (Ext.al w5 (.cells #[.slice Av f.vars.length cv, .slice Ac f.ps.length cc, .int .i64 f.body.op, .int .i64 f.body.n, .int .i64 f.body.ty, .slice Ax f.body.args.length cx, .slice Bx f.body.brs.length dx] 97)); rw [HLC.out] at this; exact this
        generalize w5.alloc _ = w6 at *
        clear f0 f1 f2 f3 f4 f5 f6 f7
        obtain ⟨inS, hin⟩ : ∃ s, sortN C (addS (fun _ => false) (zipCo f.vars (f.ps.map Arg.co))) f.body = s := ⟨_, rfl⟩
        obtain ⟨q, hq⟩ : ∃ q, bindsB f.vars (f.ps.map Arg.co) f.ps = q := ⟨_, rfl⟩
        have HBI : Hid (∀ W, Ext w6 W → Calls Tryz.prog 111 #[brV (.slice Av f.vars.length cv) (.slice Ac f.ps.length cc) f.body (.slice Ax f.body.args.length cx) (.slice Bx f.body.brs.length dx), .slice Ap f.ps.length cp] W fun e w' => e = .returned (.bool q) ∧ Ext w6 w') := fun W hW => by
          rw [← hq]
          refine (binds_any _ _ _ _ _ f.vars (f.ps.map Arg.co) f.ps f.body W ((HV.out.below HE6.out).below hW) (HVC6.out.below hW) ((H.out.below HE6.out).below hW) hvl).mono ?_
          rintro e w' ⟨rfl, h⟩
          exact ⟨rfl, hW.tr h⟩
        have HBO : Hid (∀ W, Ext w6 W → Calls Tryz.prog 81 #[brV (.slice Av f.vars.length cv) (.slice Ac f.ps.length cc) f.body (.slice Ax f.body.args.length cx) (.slice Bx f.body.brs.length dx)] W fun e w' => (∃ u, e = .returned u ∧ RVrs w' u (zipCo f.vars (f.ps.map Arg.co))) ∧ Ext w6 w') := fun W hW => by
          refine (boundIn_any _ _ f.vars (f.ps.map Arg.co) f.body _ _ W ((HV.out.below HE6.out).below hW) (HVC6.out.below hW) hvl).mono ?_
          rintro e w' ⟨⟨u, rfl, h1⟩, h⟩
          exact ⟨⟨u, rfl, h1⟩, hW.tr h⟩
        have HIN : Hid (∀ W u, Ext w6 W → RVrs W u (zipCo f.vars (f.ps.map Arg.co)) → Calls Tryz.prog 66 #[cV (.slice Ad C.decls.length cd) (.slice Af C.funs.length cf), u, nV f.body (.slice Ax f.body.args.length cx) (.slice Bx f.body.brs.length dx)] W fun e w' => e = .returned (.int .i64 inS) ∧ Ext w6 w') := fun W u hW hu => by
          rw [← hin]
          refine (in_any _ _ C W ((HC.out.below HE6.out).below hW) HS.out ((HT.out.ext HE6.out).ext hW) _ f.body _ _ ((HK.out.below HE6.out).below hW) HB.out u _ hu (by rw [zipCo_length]; exact hvl)).mono ?_
          rintro e w' ⟨rfl, h⟩
          exact ⟨rfl, hW.tr h⟩
        have HR : Hid (funC C f = (q && decide (inS = 2))) := by show _ = _; rw [HISS.out, HALL.out, hq, hin]; rfl
        have HCE : Hid (∀ W, Ext w6 W → W.cell? ⟨w.heap.size, 0, none⟩ = some (.slice Ad C.decls.length cd) ∧ W.cell? ⟨w.heap.size, 1, none⟩ = some (.slice Af C.funs.length cf) ∧ W.cell? ⟨w.heap.size + 1, 1, none⟩ = some (.slice Ap f.ps.length cp) ∧ W.cell? ⟨w.heap.size + 1, 3, none⟩ = some (.int .i64 f.body.op) ∧ W.cell? ⟨w.heap.size + 1, 4, none⟩ = some (.int .i64 f.body.n) ∧ W.cell? ⟨w.heap.size + 1, 5, none⟩ = some (.int .i64 f.body.ty) ∧ W.cell? ⟨w.heap.size + 1, 6, none⟩ = some (.slice Ax f.body.args.length cx) ∧ W.cell? ⟨w.heap.size + 1, 7, none⟩ = some (.slice Bx f.body.brs.length dx) ∧ W.cell? ⟨w5.heap.size, 0, none⟩ = some (.slice Av f.vars.length cv) ∧ W.cell? ⟨w5.heap.size, 1, none⟩ = some (.slice Ac f.ps.length cc) ∧ W.cell? ⟨w5.heap.size, 2, none⟩ = some (.int .i64 f.body.op) ∧ W.cell? ⟨w5.heap.size, 3, none⟩ = some (.int .i64 f.body.n) ∧ W.cell? ⟨w5.heap.size, 4, none⟩ = some (.int .i64 f.body.ty) ∧ W.cell? ⟨w5.heap.size, 5, none⟩ = some (.slice Ax f.body.args.length cx) ∧ W.cell? ⟨w5.heap.size, 6, none⟩ = some (.slice Bx f.body.brs.length dx)) := fun W hW => by
          have e1 := hW.lt HP6.out
          have e2 := hW.lt HF6.out
          have e3 := hW.lt HNB.out
          exact ⟨cellAt e1 0, cellAt e1 1, cellAt e2 1, cellAt e2 3, cellAt e2 4, cellAt e2 5, cellAt e2 6, cellAt e2 7, cellAt e3 0, cellAt e3 1, cellAt e3 2, cellAt e3 3, cellAt e3 4, cellAt e3 5, cellAt e3 6⟩
        have HQQ := Lib.hid hq
        clear hin hq p0 p1
        obtain ⟨a0, a1, b1, b3, b4, b5, b6, b7, c0, c1, c2, c3, c4, c5, c6⟩ := HCE.out w6 (Ext.rf _)
        cases q
        · have hmx : Tryz.prog.follows .mixedOrders = true := by kernel_rfl
          have HBI2 : Hid (∀ W, Ext w6 W → Calls Tryz.prog 111 #[brV (.slice Av f.vars.length cv) (.slice Ac f.ps.length cc) f.body (.slice Ax f.body.args.length cx) (.slice Bx f.body.brs.length dx), .slice Ap f.ps.length cp] W fun e w' => e = .returned (.bool false) ∧ Ext W w') := fun W hW => by
            have := binds_any (.slice Av f.vars.length cv) (.slice Ac f.ps.length cc) (.slice Ap f.ps.length cp) (.slice Ax f.body.args.length cx) (.slice Bx f.body.brs.length dx) f.vars (f.ps.map Arg.co) f.ps f.body W ((HV.out.below HE6.out).below hW) (HVC6.out.below hW) ((H.out.below HE6.out).below hW) hvl
            rw [HQQ.out] at this
            exact this
          have k0 := ExtOf.cell c0
          have k1 := ExtOf.cell c1
          have k2 := ExtOf.cell c2
          have k3 := ExtOf.cell c3
          have k4 := ExtOf.cell c4
          have k5 := ExtOf.cell c5
          have k6 := ExtOf.cell c6
          have k7 := ExtOf.cell b1
          clear a0 a1 b1 b3 b4 b5 b6 b7 c0 c1 c2 c3 c4 c5 c6
          refine wp_region_ext (w0 := w6) hmx (by kernel_rfl) (Ext.rf _) ?_
          repeat (first | go_big_quiet_step ((go_at_call 111; with_reducible exact Calls.ext_of (HBI2.out _ (ExtOf.ext _)))) | quiet_step ((go_at_call 111; with_reducible exact Calls.ext_of (HBI2.out _ (ExtOf.ext _)))))
          refine wpQuiet_nil ?_
          rintro w9 ⟨⟨_, hx⟩, rfl⟩
          have HX9 := Lib.hid hx
          go_wp2
          go_ret
          exact ⟨ret_bool HR.out.symm, HE6.out.tr HX9.out⟩
        · go_region_held3 (fun w' => w'.cell? ⟨w.heap.size, 0, none⟩ = some (.slice Ad C.decls.length cd) ∧ w'.cell? ⟨w.heap.size, 1, none⟩ = some (.slice Af C.funs.length cf) ∧ w'.cell? ⟨w.heap.size + 1, 1, none⟩ = some (.slice Ap f.ps.length cp) ∧ w'.cell? ⟨w.heap.size + 1, 3, none⟩ = some (.int .i64 f.body.op) ∧ w'.cell? ⟨w.heap.size + 1, 4, none⟩ = some (.int .i64 f.body.n) ∧ w'.cell? ⟨w.heap.size + 1, 5, none⟩ = some (.int .i64 f.body.ty) ∧ w'.cell? ⟨w.heap.size + 1, 6, none⟩ = some (.slice Ax f.body.args.length cx) ∧ w'.cell? ⟨w.heap.size + 1, 7, none⟩ = some (.slice Bx f.body.brs.length dx) ∧ w'.cell? ⟨w5.heap.size, 0, none⟩ = some (.slice Av f.vars.length cv) ∧ w'.cell? ⟨w5.heap.size, 1, none⟩ = some (.slice Ac f.ps.length cc) ∧ w'.cell? ⟨w5.heap.size, 2, none⟩ = some (.int .i64 f.body.op) ∧ w'.cell? ⟨w5.heap.size, 3, none⟩ = some (.int .i64 f.body.n) ∧ w'.cell? ⟨w5.heap.size, 4, none⟩ = some (.int .i64 f.body.ty) ∧ w'.cell? ⟨w5.heap.size, 5, none⟩ = some (.slice Ax f.body.args.length cx) ∧ w'.cell? ⟨w5.heap.size, 6, none⟩ = some (.slice Bx f.body.brs.length dx))
            (first | exact HCE.out _ (Ext.rf _).drew | exact HCE.out _ HX7.out | exact HCE.out _ HX8.out | exact HCE.out _ HX9.out)
            (first
              | (go_at_call 111; (with_reducible refine (HBI.out _ (by first | exact (Ext.rf _).drew | exact Ext.rf _)).mono ?_); rintro e w7 ⟨rfl, hx7⟩; have HX7 := Lib.hid hx7; clear hx7)
              | (go_at_call 81; (with_reducible refine (HBO.out _ HX7.out).mono ?_); rintro e w8 ⟨⟨u, rfl, hu⟩, hx8⟩; obtain ⟨Au, cu, rfl, -, -⟩ := hu.form; have HU := Lib.hid hu; have HX8 := Lib.hid hx8; clear hu hx8)
              | (go_at_call 66; (with_reducible refine (HIN.out _ _ HX8.out HU.out).mono ?_); rintro e w9 ⟨rfl, hx9⟩; have HX9 := Lib.hid hx9; clear hx9))
          all_goals
            go_wp2
            go_ret
            exact ⟨ret_bool (by rw [HR.out]; by_cases h : inS = 2 <;> simp [h]), HE6.out.tr HX9.out⟩
  · have HQ := Lib.hid (HLONG.out h6)
    clear hw2
    go_enter Tryz.func80, Tryz.ntmps80
    go_wp2
    go_ret
    exact ⟨ret_bool HQ.out.symm, Ext.al2 _ _ _⟩
set_option maxHeartbeats 16000000 in
set_option maxRecDepth 100000 in
theorem core_valid_any (vd vf : Value) (C : Cg) (w : World) (hC : RCg w vd vf C) (hS : ShC C) (htab : Tabs w) (hB : ∀ f ∈ C.funs, BN f.body) :
    Calls Tryz.prog 48 #[cV vd vf] w fun e w' => e = .returned (.bool (coreB C)) ∧ Ext w w' := by
  have HC := Lib.hid hC; have HS := Lib.hid hS; have HT := Lib.hid htab; have HB := Lib.hid hB
  have hfl := hS.fl
  obtain ⟨Ad, cd, rfl, -, -⟩ := hC.d.form
  obtain ⟨Af, cf, rfl, -, -⟩ := hC.f.form
  have HDC : Hid (∀ w', Ext w w' → Calls Tryz.prog 76 #[.slice Ad C.decls.length cd] w' fun e w'' => e = .returned (.int .i64 (if validB C.decls then 0 else 10)) ∧ Ext w' w'') := fun w' h => declCheck_any _ _ w' (hC.d.below h)
  have HDI : Hid (∀ w', Ext w w' → Calls Tryz.prog 77 #[.slice Af C.funs.length cf] w' fun e w'' => e = .returned (.bool (distCF (fun _ => false) C.funs)) ∧ Ext w' w'') := fun w' h => distinct_any _ _ w' (hC.f.below h) hfl
  have HSZ : Hid (∀ w', Ext w w' → Calls Tryz.prog 79 #[.slice Af C.funs.length cf] w' fun e w'' => e = .returned (.bool (sizesC 30000 C.funs)) ∧ Ext w' w'') := fun w' h => validSize_any _ _ w' (hC.f.below h) hfl hB
  have HCO : Hid (coreB C = (validB C.decls && (decide (1 ≤ C.funs.length) && decide (C.funs.length ≤ 12) && distCF (fun _ => false) C.funs) && (mainC (C.funs.headD noCF) && sizesC 30000 C.funs) && C.funs.all (funC C))) := rfl
  generalize coreB C = R at *
  have HX1 := Lib.hid (Ext.al w (.cells #[.slice Ad C.decls.length cd, .slice Af C.funs.length cf] 25))
  have HP1 := Lib.hid (heapNew w (.cells #[.slice Ad C.decls.length cd, .slice Af C.funs.length cf] 25))
  clear hC hS htab hB
  cases hvd : validB C.decls
  · rw [hvd] at HDC HCO
    go_enter Tryz.func48, Tryz.ntmps48
    go_wp2_with (go_at_call 76; (with_reducible refine (HDC.out _ HX1.out).mono ?_); rintro e w5 ⟨rfl, hx5⟩)
    go_ret
    exact ⟨ret_bool (by rw [HCO.out]; rfl), HX1.out.tr hx5⟩
  · rw [hvd] at HDC HCO
    by_cases h1 : 1 ≤ C.funs.length
    · by_cases h2 : C.funs.length ≤ 12
      · have hi1 : ¬ ((C.funs.length : Int) < 1) := by omega
        have hi2 : ¬ ((12 : Int) < C.funs.length) := by omega
        rw [decide_eq_true h1, decide_eq_true h2] at HCO
        cases hdi : distCF (fun _ => false) C.funs
        · rw [hdi] at HDI HCO
          go_enter Tryz.func48, Tryz.ntmps48
          go_wp2_with (first | (go_at_call 76; (with_reducible refine (HDC.out _ HX1.out).mono ?_); rintro e w5 ⟨rfl, hx5⟩; have HX5 := Lib.hid (HX1.out.tr hx5); have hp5 := hx5.lt HP1.out; have HP5 := Lib.hid hp5; have p0 := cellAt hp5 0; have p1 := cellAt hp5 1; clear hx5 hp5) | (go_at_call 77; (with_reducible refine (HDI.out _ HX5.out).mono ?_); rintro e w6 ⟨rfl, hx6⟩; have HX6 := Lib.hid (HX5.out.tr hx6); clear hx6))
          go_ret
          exact ⟨ret_bool (by rw [HCO.out]; rfl), HX6.out⟩
        · rw [hdi] at HDI HCO
          have h0 : 0 < C.funs.length := by omega
          obtain ⟨b, o, vp, vv, xa, xb, kk, rfl, hbl, y0, y1, y2, yn, hnm, hps, hvs, hbody⟩ := HC.out.f.at_ h0
          have hhd : C.funs.headD noCF = C.funs[0] := headFirst h0
          rw [hhd] at HCO
          have HMA : Hid (∀ w', Ext w w' → Calls Tryz.prog 78 #[fV C.funs[0] vp vv xa xb] w' fun e w'' => e = .returned (.bool (mainC C.funs[0])) ∧ Ext w' w'') := fun w' h => isMain_any _ vp vv xa xb w' (hps.below h) (hvs.below h) (HS.out.fn _ (List.getElem_mem h0)).1 ⟨kk, hbody.below h⟩
          obtain ⟨-, ⟨Ax, cx, rfl, -, -⟩, ⟨Bx, dx, rfl, -, -⟩⟩ := hbody.form
          obtain ⟨Ap, cp, rfl, -, -⟩ := hps.form
          obtain ⟨Av, cv, rfl, -, -⟩ := hvs.form
          clear hps hvs hbody hhd hnm
          generalize C.funs[0] = x at *
          have HCEL : Hid (∀ W, Ext w W → W.cell? ⟨b, o, none⟩ = some (.string x.nm) ∧ W.cell? ⟨b, o + 1, none⟩ = some (.slice Ap x.ps.length cp) ∧ W.cell? ⟨b, o + 2, none⟩ = some (.slice Av x.vars.length cv) ∧ W.cell? ⟨b, o + 3, none⟩ = some (.int .i64 x.body.op) ∧ W.cell? ⟨b, o + 4, none⟩ = some (.int .i64 x.body.n) ∧ W.cell? ⟨b, o + 5, none⟩ = some (.int .i64 x.body.ty) ∧ W.cell? ⟨b, o + 6, none⟩ = some (.slice Ax x.body.args.length cx) ∧ W.cell? ⟨b, o + 7, none⟩ = some (.slice Bx x.body.brs.length dx)) := fun W hW => by
            rw [Nat.zero_mul, Nat.add_zero] at y0 y1 y2 yn
            obtain ⟨c0, c1, c2, c3, c4⟩ := yn.below hW
            exact ⟨hW.keep y0, hW.keep y1, hW.keep y2, c0, c1, c2, c3, c4⟩
          clear y0 y1 y2 yn
          cases hma : mainC x
          · rw [hma] at HMA HCO
            go_enter Tryz.func48, Tryz.ntmps48
            go_wp2_with (first | (go_at_call 76; (with_reducible refine (HDC.out _ HX1.out).mono ?_); rintro e w5 ⟨rfl, hx5⟩; have HX5 := Lib.hid (HX1.out.tr hx5); have hp5 := hx5.lt HP1.out; have HP5 := Lib.hid hp5; have p0 := cellAt hp5 0; have p1 := cellAt hp5 1; clear hx5 hp5) | (go_at_call 77; (with_reducible refine (HDI.out _ HX5.out).mono ?_); rintro e w6 ⟨rfl, hx6⟩; have HX6 := Lib.hid (HX5.out.tr hx6); have hp6 := hx6.lt HP5.out; have HP6 := Lib.hid hp6; have p60 := cellAt hp6 0; have p61 := cellAt hp6 1; obtain ⟨u0, u1, u2, u3, u4, u5, u6, u7⟩ := HCEL.out _ HX6.out; clear hx6 hp6) | (go_at_call 78; (with_reducible refine (HMA.out _ HX6.out).mono ?_); rintro e w7 ⟨rfl, hx7⟩; have HX7 := Lib.hid (HX6.out.tr hx7); have hp7 := hx7.lt HP6.out; have HP7 := Lib.hid hp7; have p70 := cellAt hp7 0; have p71 := cellAt hp7 1; clear hx7 hp7))
            go_ret
            exact ⟨ret_bool (by rw [HCO.out]; rfl), HX7.out⟩
          · rw [hma] at HMA HCO
            cases hsz : sizesC 30000 C.funs
            · rw [hsz] at HSZ HCO
              go_enter Tryz.func48, Tryz.ntmps48
              go_wp2_with (first | (go_at_call 76; (with_reducible refine (HDC.out _ HX1.out).mono ?_); rintro e w5 ⟨rfl, hx5⟩; have HX5 := Lib.hid (HX1.out.tr hx5); have hp5 := hx5.lt HP1.out; have HP5 := Lib.hid hp5; have p0 := cellAt hp5 0; have p1 := cellAt hp5 1; clear hx5 hp5) | (go_at_call 77; (with_reducible refine (HDI.out _ HX5.out).mono ?_); rintro e w6 ⟨rfl, hx6⟩; have HX6 := Lib.hid (HX5.out.tr hx6); have hp6 := hx6.lt HP5.out; have HP6 := Lib.hid hp6; have p60 := cellAt hp6 0; have p61 := cellAt hp6 1; obtain ⟨u0, u1, u2, u3, u4, u5, u6, u7⟩ := HCEL.out _ HX6.out; clear hx6 hp6) | (go_at_call 78; (with_reducible refine (HMA.out _ HX6.out).mono ?_); rintro e w7 ⟨rfl, hx7⟩; have HX7 := Lib.hid (HX6.out.tr hx7); have hp7 := hx7.lt HP6.out; have HP7 := Lib.hid hp7; have p70 := cellAt hp7 0; have p71 := cellAt hp7 1; clear hx7 hp7) | (go_at_call 79; (with_reducible refine (HSZ.out _ HX7.out).mono ?_); rintro e w8 ⟨rfl, hx8⟩; have HX8 := Lib.hid (HX7.out.tr hx8); have hp8 := hx8.lt HP7.out; have HP8 := Lib.hid hp8; have p80 := cellAt hp8 0; have p81 := cellAt hp8 1; clear hx8 hp8))
              go_ret
              exact ⟨ret_bool (by rw [HCO.out]; rfl), HX8.out⟩
            · rw [hsz] at HSZ HCO
              go_enter Tryz.func48, Tryz.ntmps48
              go_wp2_with (first | (go_at_call 76; (with_reducible refine (HDC.out _ HX1.out).mono ?_); rintro e w5 ⟨rfl, hx5⟩; have HX5 := Lib.hid (HX1.out.tr hx5); have hp5 := hx5.lt HP1.out; have HP5 := Lib.hid hp5; have p0 := cellAt hp5 0; have p1 := cellAt hp5 1; clear hx5 hp5) | (go_at_call 77; (with_reducible refine (HDI.out _ HX5.out).mono ?_); rintro e w6 ⟨rfl, hx6⟩; have HX6 := Lib.hid (HX5.out.tr hx6); have hp6 := hx6.lt HP5.out; have HP6 := Lib.hid hp6; have p60 := cellAt hp6 0; have p61 := cellAt hp6 1; obtain ⟨u0, u1, u2, u3, u4, u5, u6, u7⟩ := HCEL.out _ HX6.out; clear hx6 hp6) | (go_at_call 78; (with_reducible refine (HMA.out _ HX6.out).mono ?_); rintro e w7 ⟨rfl, hx7⟩; have HX7 := Lib.hid (HX6.out.tr hx7); have hp7 := hx7.lt HP6.out; have HP7 := Lib.hid hp7; have p70 := cellAt hp7 0; have p71 := cellAt hp7 1; clear hx7 hp7) | (go_at_call 79; (with_reducible refine (HSZ.out _ HX7.out).mono ?_); rintro e w8 ⟨rfl, hx8⟩; have HX8 := Lib.hid (HX7.out.tr hx8); have hp8 := hx8.lt HP7.out; have HP8 := Lib.hid hp8; have p80 := cellAt hp8 0; have p81 := cellAt hp8 1; clear hx8 hp8))
              go_loopw [40] (fun i wr => ∃ k : Nat, k ≤ C.funs.length ∧ i = .int .i64 k ∧ C.funs.all (funC C) = (C.funs.drop k).all (funC C) ∧ Ext w8 wr) (fun i _ => C.funs.length - (intOf i).toNat)
              case atStart => exact ⟨0, Nat.zero_le _, rfl, rfl, Ext.rf _⟩
              case round =>
                obtain ⟨k, hk, rfl, hd, hx⟩ := hrel
                have HD := Lib.hid hd
                have HX := Lib.hid (HX8.out.tr hx)
                have HX8r := Lib.hid hx
                have hpr := hx.lt HP8.out
                have HPR := Lib.hid hpr
                clear hd hx p80 p81 hpr
                by_cases hlt : k < C.funs.length
                · obtain ⟨b', o', vp, vv, xa, xb, kk, e', hbl, y0, y1, y2, yn, hnm, hps, hvs, hbody⟩ := HC.out.f.at_ hlt
                  cases e'
                  have hfn := HS.out.fn _ (List.getElem_mem hlt)
                  have HVF : Hid (∀ w', Ext w w' → Calls Tryz.prog 80 #[cV (.slice Ad C.decls.length cd) (.slice (some ⟨b, o, none⟩) C.funs.length cf), fV C.funs[k] vp vv xa xb] w' fun e w'' => e = .returned (.bool (funC C C.funs[k])) ∧ Ext w' w'') := fun w' h => validFun_any _ _ C C.funs[k] vp vv xa xb kk w' (HC.out.below h) HS.out (HT.out.ext h) (hps.below h) (hvs.below h) hfn.1 hfn.2.1 (hbody.below h) (HB.out _ (List.getElem_mem hlt))
                  have y0 := HX.out.keep y0
                  have y1 := HX.out.keep y1
                  have y2 := HX.out.keep y2
                  obtain ⟨c0, c1, c2, c3, c4⟩ := yn.below HX.out
                  obtain ⟨-, ⟨By, cy, rfl, -, -⟩, ⟨Bz, dy, rfl, -, -⟩⟩ := hbody.form
                  obtain ⟨Bp, cp', rfl, -, -⟩ := hps.form
                  obtain ⟨Bv, cv', rfl, -, -⟩ := hvs.form
                  have HST : Hid ((C.funs.drop k).all (funC C) = (funC C C.funs[k] && (C.funs.drop (k + 1)).all (funC C))) := by show _ = _; rw [drop_step hlt]; rfl
                  clear hps hvs hbody yn hnm hfn
                  generalize C.funs[k] = y at *
                  have HEX := Lib.hid (HX.out.tr (Ext.al wr (.cells #[.string y.nm, .slice Bp y.ps.length cp', .slice Bv y.vars.length cv', .int .i64 y.body.op, .int .i64 y.body.n, .int .i64 y.body.ty, .slice By y.body.args.length cy, .slice Bz y.body.brs.length dy] 53)))
                  have HE8 := Lib.hid (HX8r.out.tr (Ext.al wr (.cells #[.string y.nm, .slice Bp y.ps.length cp', .slice Bv y.vars.length cv', .int .i64 y.body.op, .int .i64 y.body.n, .int .i64 y.body.ty, .slice By y.body.args.length cy, .slice Bz y.body.brs.length dy] 53)))
                  have hpx := Ext.lt (Ext.al wr (.cells #[.string y.nm, .slice Bp y.ps.length cp', .slice Bv y.vars.length cv', .int .i64 y.body.op, .int .i64 y.body.n, .int .i64 y.body.ty, .slice By y.body.args.length cy, .slice Bz y.body.brs.length dy] 53)) HPR.out
                  have q0 := cellAt hpx 0
                  have q1 := cellAt hpx 1
                  clear hpx
                  cases hq : funC C y
                  · rw [hq] at HVF HST
                    have HALL : Hid (C.funs.all (funC C) = false) := by show _ = _; rw [HD.out, HST.out]; rfl
                    go_wp2_with (go_at_call 80; (with_reducible refine (HVF.out _ HEX.out).mono ?_); rintro e w9 ⟨rfl, hx9⟩)
                    go_ret
                    exact ⟨ret_bool (by rw [HCO.out, HALL.out]; rfl), HEX.out.tr hx9⟩
                  · rw [hq] at HVF HST
                    go_wp2_with (go_at_call 80; (with_reducible refine (HVF.out _ HEX.out).mono ?_); rintro e w9 ⟨rfl, hx9⟩)
                    exact ⟨⟨k + 1, by omega, by go_num, by rw [HD.out, HST.out]; rfl, HE8.out.tr hx9⟩, by simp [intOf]; omega⟩
                · have hkl : k = C.funs.length := by omega
                  subst hkl
                  have HALL : Hid (C.funs.all (funC C) = true) := by show _ = _; rw [HD.out, List.drop_length]; rfl
                  go_wp2
                  go_ret
                  exact ⟨ret_bool (by rw [HCO.out, HALL.out]; rfl), HX.out⟩
      · have hi1 : ¬ ((C.funs.length : Int) < 1) := by omega
        have hi2 : (12 : Int) < C.funs.length := by omega
        rw [decide_eq_false h2] at HCO
        go_enter Tryz.func48, Tryz.ntmps48
        go_wp2_with (go_at_call 76; (with_reducible refine (HDC.out _ HX1.out).mono ?_); rintro e w5 ⟨rfl, hx5⟩; have HX5 := Lib.hid (HX1.out.tr hx5); have hp5 := hx5.lt HP1.out; have HP5 := Lib.hid hp5; have p0 := cellAt hp5 0; have p1 := cellAt hp5 1; clear hx5 hp5)
        go_ret
        exact ⟨ret_bool (by rw [HCO.out]; simp), HX5.out⟩
    · have hi1 : (C.funs.length : Int) < 1 := by omega
      rw [decide_eq_false h1] at HCO
      go_enter Tryz.func48, Tryz.ntmps48
      go_wp2_with (go_at_call 76; (with_reducible refine (HDC.out _ HX1.out).mono ?_); rintro e w5 ⟨rfl, hx5⟩; have HX5 := Lib.hid (HX1.out.tr hx5); have hp5 := hx5.lt HP1.out; have HP5 := Lib.hid hp5; have p0 := cellAt hp5 0; have p1 := cellAt hp5 1; clear hx5 hp5)
      go_ret
      exact ⟨ret_bool (by rw [HCO.out]; rfl), HX5.out⟩
set_option maxRecDepth 100000 in
theorem coreCheck_any (vd vf : Value) (C : Cg) (w : World) (hC : RCg w vd vf C) (hS : ShC C) (htab : Tabs w) (hB : ∀ f ∈ C.funs, BN f.body) :
    Calls Tryz.prog 20 #[cV vd vf] w fun e w' => e = .returned (.int .i64 (chkC C)) ∧ Ext w w' := by
  have HV := Lib.hid (fun w' (h : Ext w w') => core_valid_any vd vf C w' (hC.below h) hS (htab.ext h) hB)
  obtain ⟨Ad, cd, rfl, -, -⟩ := hC.d.form
  obtain ⟨Af, cf, rfl, -, -⟩ := hC.f.form
  have HCK : Hid (chkC C = if coreB C then 0 else 60) := rfl
  clear hC hS htab hB
  generalize coreB C = q at *
  generalize chkC C = r at *
  cases q
  all_goals
    go_enter Tryz.func20, Tryz.ntmps20
    go_wp2_with (go_at_call 48; (with_reducible refine (HV.out _ (Ext.al _ _)).mono ?_); rintro e w9 ⟨rfl, hx9⟩)
    go_ret
    exact ⟨ret_int HCK.out.symm, (Ext.al _ _).tr hx9⟩
end Go.Proofs.YtkdhhcidpklgoaaGreatDoor

/- kind: the scopes of types: maps of rows. -/
namespace Go.Proofs.YtkdhhcidpklgoaaGreatDoor
open Go.RowKit Go.Shelf Go.Maps
attribute [local go_sem] Oper.semAt_some

/-- Integers as keys. -/
def intT : KeyT Tryz.prog 3 Int where
  law := int_keyed Tryz.underlying3
  val := fun x => .int .i64 x
  ok := fun x => ok64 x
  lit := fun x => .int .i64 x
  is := fun x h => keyOf_int_mk Tryz.underlying3 h
  inj := fun x y h => by injection h
abbrev nilS : Value := .slice none 0 0
abbrev Gv := Vr → Value
def rowsOf (g : Gv) (j : Nat) : Prop := ∃ v, (g v).ownBlock = some j
/-- The scopes of types: two maps whose elements are rows of the call's own, no two of which lie in one block. -/
structure SCX (w : World) (base mx mc n : Nat) (g : Gv) (E : Ev) : Prop where
  mp : MapZ intT nilS w mx n (fun k => g (0, k))
  mq : MapZ intT nilS w mc n (fun k => g (1, k))
  ne : mx ≠ mc
  own : ∀ v, w.ownsRow base 3 1 (g v) (E v).length ((E v).map (Value.int .i64))
  dis : ∀ u v b, u ≠ v → (g u).ownBlock = some b → (g v).ownBlock ≠ some b
/-- What a call may turn that works on the scopes. -/
structure Tr (mx mc : Nat) (g g' : Gv) (w w' : World) : Prop where
  only : Only (fun j => j = mx ∨ j = mc ∨ rowsOf g j) w w'
  rows : ∀ j, rowsOf g' j → rowsOf g j ∨ w.heap.size ≤ j
theorem Tr.rf (mx mc : Nat) (g : Gv) (w : World) : Tr mx mc g g w w := ⟨Only.rf _ _, fun _ h => .inl h⟩
theorem Tr.of_ext {mx mc : Nat} {g : Gv} {w w' : World} (h : Ext w w') : Tr mx mc g g w w' := ⟨Only.of_ext h, fun _ h => .inl h⟩
theorem Tr.tr {mx mc : Nat} {g g1 g2 : Gv} {w w1 w2 : World} (h : Tr mx mc g g1 w w1) (k : Tr mx mc g1 g2 w1 w2) : Tr mx mc g g2 w w2 :=
  ⟨⟨k.only.os.trans h.only.os, k.only.tape.trans h.only.tape, k.only.output.trans h.only.output, Nat.le_trans h.only.size k.only.size, fun j hj hn =>
    (k.only.block j (Nat.lt_of_lt_of_le hj h.only.size) (fun hc => by
      rcases hc with hc | hc | hc
      · exact hn (.inl hc)
      · exact hn (.inr (.inl hc))
      · rcases h.rows j hc with hc | hc
        · exact hn (.inr (.inr hc))
        · omega)).trans (h.only.block j hj hn)⟩,
   fun j hj => by
    rcases k.rows j hj with hj | hj
    · exact h.rows j hj
    · exact .inr (Nat.le_trans h.only.size hj)⟩
theorem SCX.lt {w : World} {base mx mc n : Nat} {g : Gv} {E : Ev} (h : SCX w base mx mc n g E) {j : Nat} (hj : rowsOf g j) : base ≤ j ∧ j < w.heap.size := by
  obtain ⟨v, hv⟩ := hj
  obtain ⟨_, _, _, h2⟩ := own_shape (h.own v)
  exact h2 j hv
theorem SCX.ext {w w' : World} {base mx mc n : Nat} {g : Gv} {E : Ev} (h : SCX w base mx mc n g E) (hx : Ext w w') : SCX w' base mx mc n g E :=
  ⟨h.mp.ext hx, h.mq.ext hx, h.ne, fun v => own_below (h.own v) hx, h.dis⟩
theorem SCX.mono {w : World} {base mx mc n m : Nat} {g : Gv} {E : Ev} (h : SCX w base mx mc n g E) (hm : n ≤ m) : SCX w base mx mc m g E :=
  ⟨h.mp.mono hm, h.mq.mono hm, h.ne, h.own, h.dis⟩
/-- A call below that turns neither the maps nor a row. -/
theorem SCX.only {w w' : World} {base mx mc n : Nat} {g : Gv} {E : Ev} (h : SCX w base mx mc n g E) {C : Nat → Prop} (ho : Only C w w') (h1 : ¬ C mx) (h2 : ¬ C mc) (h3 : ∀ j, rowsOf g j → ¬ C j) : SCX w' base mx mc n g E :=
  ⟨h.mp.block (ho.block _ h.mp.lt h1), h.mq.block (ho.block _ h.mq.lt h2), h.ne, fun v => own_only (h.own v) ho (fun b hb => h3 b ⟨v, hb⟩), h.dis⟩
theorem pushE_nil (E : Ev) (ts : List Int) : pushE E [] ts = E := by cases ts <;> rfl
theorem pushE_cons (E : Ev) (x : Vr) (r : List Vr) (t : Int) (ts : List Int) : pushE E (x :: r) (t :: ts) = pushE (fun y => if y = x then E y ++ [t] else E y) r ts := rfl
/-- The rows without the last entries that these variables have brought. -/
def popE : Ev → List Vr → Ev
  | E, [] => E
  | E, x :: r => popE (fun y => if y = x then (E y).dropLast else E y) r
/-- How many entries of each variable stand at the end. -/
def cntV (l : List Vr) (x : Vr) : Nat := l.countP (fun y => decide (y = x))
theorem popE_take : ∀ (l : List Vr) (E : Ev), popE E l = fun x => (E x).take ((E x).length - cntV l x)
  | [], E => by funext x; simp [popE, cntV]
  | y :: r, E => by
    funext x
    show popE _ r x = _
    rw [popE_take r]
    unfold cntV
    rw [List.countP_cons]
    by_cases h : x = y
    · subst h
      simp only [if_true, decide_true]
      rw [List.dropLast_eq_take, List.take_take, List.length_take]
      congr 1
      omega
    · have h2 : decide (y = x) = false := decide_eq_false (fun e => h e.symm)
      simp only [if_neg h, h2]
      simp
theorem pushE_app : ∀ (l : List Vr) (ts : List Int) (E : Ev), l.length ≤ ts.length → ∀ x, ∃ zs, pushE E l ts x = E x ++ zs ∧ zs.length = cntV l x
  | [], ts, E, _, x => ⟨[], by rw [pushE_nil]; simp, rfl⟩
  | y :: r, [], E, h, x => by simp at h
  | y :: r, t :: ts, E, h, x => by
    obtain ⟨zs, h1, h2⟩ := pushE_app r ts (fun z => if z = y then E z ++ [t] else E z) (by simpa using h) x
    rw [pushE_cons, h1]
    by_cases e : x = y
    · refine ⟨t :: zs, by rw [if_pos e]; simp, ?_⟩
      simp [cntV, h2, e]
    · refine ⟨zs, by rw [if_neg e], ?_⟩
      have h3 : decide (y = x) = false := decide_eq_false (fun q => e q.symm)
      simp [cntV, h2, h3]
/-- What has been brought is taken back. -/
theorem pop_push {l : List Vr} {ts : List Int} {E : Ev} (h : l.length ≤ ts.length) : popE (pushE E l ts) l = E := by
  rw [popE_take]
  funext x
  obtain ⟨zs, h1, h2⟩ := pushE_app l ts E h x
  rw [h1, List.length_append, h2]
  simp
end Go.Proofs.YtkdhhcidpklgoaaGreatDoor

/- kind: a scope looked up, and turned. -/
namespace Go.Proofs.YtkdhhcidpklgoaaGreatDoor
open Go.RowKit Go.Shelf Go.Maps
attribute [local go_sem] Oper.semAt_some

/-- The map of a sort. -/
def mbS (mx mc : Nat) (s : Int) : Nat := if s = 0 then mx else mc
theorem row_cells {w : World} {B e k : Nat} {v : Value} {n : Nat} {xs : List Value} (h : w.ownsRow B e k v n xs) {b : Nat} (hb : v.ownBlock = some b) : ∃ cs T, w.heap[b]? = some (.cells cs T (0, 0)) := by
  rcases h.2 with ⟨rfl, -⟩ | ⟨g, cap, cur, rfl, hg, h3, -⟩
  · cases hb
  · cases hb; exact ⟨_, _, h3⟩
theorem own_shrink {w : World} {B e : Nat} {A : Option Addr} {c n : Nat} {xs : List Value} (h : w.ownsRow B e 1 (.slice A (n + 1) c) (n + 1) xs) : w.ownsRow B e 1 (.slice A n c) n xs.dropLast := by
  have hl := h.1
  rcases h.2 with ⟨_, h0⟩ | ⟨g, cap, cur, hv, hg, h3, h4, h5, h6, h7⟩
  · omega
  · cases hv
    refine ⟨by rw [List.length_dropLast]; omega, .inr ⟨g, _, cur, rfl, hg, h3, by omega, h5, h6, ?_⟩⟩
    rw [List.dropLast_eq_take, hl, ← h7, List.take_take]
    congr 1
    omega
section
variable {w w' : World} {base mx mc n : Nat} {g : Gv} {E : Ev}
theorem SCX.row_map (h : SCX w base mx mc n g E) {j : Nat} (hj : rowsOf g j) : j ≠ mx ∧ j ≠ mc := by
  obtain ⟨v, hv⟩ := hj
  obtain ⟨cs, T, hc⟩ := row_cells (h.own v) hv
  obtain ⟨_, _, h1⟩ := h.mp.is
  obtain ⟨_, _, h2⟩ := h.mq.is
  exact ⟨fun e => (by rw [e, h1] at hc; have q := Option.some.inj hc; cases q), fun e => (by rw [e, h2] at hc; have q := Option.some.inj hc; cases q)⟩
theorem SCX.look (h : SCX w base mx mc n g E) (x : Vr) (hs : x.1 = 0 ∨ x.1 = 1) (hk : ok64 x.2) :
    (Instr.lookup 60 (.map (some (mbS mx mc x.1))) (.int .i64 x.2) false).run Tryz.prog w = .ok (g x) w := by
  obtain ⟨s, k⟩ := x
  rcases hs with hs | hs
  · dsimp only at hs; subst hs
    exact run_lookupZ (T := intT) (t := 60) (e := 31) Tryz.underlying60 h.mp (by kernel_rfl) k hk
  · dsimp only at hs; subst hs
    exact run_lookupZ (T := intT) (t := 60) (e := 31) Tryz.underlying60 h.mq (by kernel_rfl) k hk
/-- The scopes, but the row of x. -/
structure SCXo (w : World) (base mx mc n : Nat) (g : Gv) (E : Ev) (x : Vr) : Prop where
  mp : MapZ intT nilS w mx n (fun k => g (0, k))
  mq : MapZ intT nilS w mc n (fun k => g (1, k))
  ne : mx ≠ mc
  own : ∀ v, v ≠ x → w.ownsRow base 3 1 (g v) (E v).length ((E v).map (Value.int .i64))
  dis : ∀ u v b, u ≠ v → (g u).ownBlock = some b → (g v).ownBlock ≠ some b
theorem SCX.but (h : SCX w base mx mc n g E) (x : Vr) : SCXo w base mx mc n g E x := ⟨h.mp, h.mq, h.ne, fun v _ => h.own v, h.dis⟩
theorem SCX.grow (h : SCX w base mx mc n g E) (x : Vr) (hg : w.grownBy w' (g x).ownBlock) : SCXo w' base mx mc n g E x := by
  have hne : ∀ j, rowsOf g j → j ≠ mx ∧ j ≠ mc := fun j hj => h.row_map hj
  refine ⟨h.mp.block (hg.block _ h.mp.lt (fun e => (hne mx ⟨x, e.symm⟩).1 rfl)), h.mq.block (hg.block _ h.mq.lt (fun e => (hne mc ⟨x, e.symm⟩).2 rfl)), h.ne, fun v hv => ?_, h.dis⟩
  rcases (h.own v).2 with h1 | ⟨b, cap, cur, h1, h2, h3, h4⟩
  · exact ⟨(h.own v).1, .inl h1⟩
  · refine ⟨(h.own v).1, .inr ⟨b, cap, cur, h1, h2, (hg.block b (heap_lt h3) (fun e => ?_)).trans h3, h4⟩⟩
    exact h.dis v x b hv (by rw [h1]; rfl) e.symm
theorem SCXo.put {x : Vr} (h : SCXo w base mx mc n g E x) (hs : x.1 = 0 ∨ x.1 = 1) (hk : ok64 x.2) (hn : n < maxLen) (v' : Value) (l' : List Int) (hown : w.ownsRow base 3 1 v' l'.length (l'.map (Value.int .i64)))
    (hd : ∀ b, v'.ownBlock = some b → (g x).ownBlock = some b ∨ ¬ rowsOf g b) :
    ∃ w', (Instr.mapUpdate 60 (.map (some (mbS mx mc x.1))) (.int .i64 x.2) v').run Tryz.prog w = .ok () w' ∧ SCX w' base mx mc (n + 1) (putZ g x v') (fun y => if y = x then l' else E y) ∧ Only (fun j => j = mbS mx mc x.1) w w' := by
  have hdis : ∀ u v b, u ≠ v → (putZ g x v' u).ownBlock = some b → (putZ g x v' v).ownBlock ≠ some b := fun u v b huv h1 h2 => by
    by_cases e1 : u = x
    · subst e1
      rw [putZ_same] at h1
      rw [putZ_other _ _ (Ne.symm huv)] at h2
      rcases hd b h1 with h3 | h3
      · exact h.dis u v b huv h3 h2
      · exact h3 ⟨v, h2⟩
    · rw [putZ_other _ _ e1] at h1
      by_cases e2 : v = x
      · subst e2
        rw [putZ_same] at h2
        rcases hd b h2 with h3 | h3
        · exact h.dis u v b huv h1 h3
        · exact h3 ⟨u, h1⟩
      · rw [putZ_other _ _ e2] at h2
        exact h.dis u v b huv h1 h2
  have hrows : ∀ (m : Nat), (∃ es clock, w.heap[m]? = some (.map es clock)) → ∀ w', Only (fun j => j = m) w w' → ∀ v, w'.ownsRow base 3 1 (putZ g x v' v) (if v = x then l' else E v).length ((if v = x then l' else E v).map (Value.int .i64)) := fun m hm w' ho v => by
    have key : ∀ u k (xs : List Value), w.ownsRow base 3 1 u k xs → w'.ownsRow base 3 1 u k xs := fun u k xs hu => own_only hu ho (fun b hb e => by
      obtain ⟨cs, T, hc⟩ := row_cells hu hb
      obtain ⟨_, _, h1⟩ := hm
      rw [e, h1] at hc; have q := Option.some.inj hc; cases q)
    by_cases e : v = x
    · subst e; rw [putZ_same, if_pos rfl]; exact key _ _ _ hown
    · rw [putZ_other _ _ e, if_neg e]; exact key _ _ _ (h.own v e)
  obtain ⟨s, k⟩ := x
  rcases hs with hs | hs
  · dsimp only at hs hk; subst hs
    obtain ⟨w', hu, hm, hg, -⟩ := run_updateZ (T := intT) (t := 60) (e := 31) Tryz.underlying60 h.mp hn k hk v'
    have ho := Only.grown hg
    refine ⟨w', hu, ⟨hm.congr (fun y _ => ?_), (h.mq.block (ho.block _ h.mq.lt (Ne.symm h.ne))).mono (Nat.le_succ _) |>.congr (fun y _ => ?_), h.ne, hrows mx h.mp.is w' ho, hdis⟩, ho⟩
    · unfold putZ; simp
    · unfold putZ; simp
  · dsimp only at hs hk; subst hs
    obtain ⟨w', hu, hm, hg, -⟩ := run_updateZ (T := intT) (t := 60) (e := 31) Tryz.underlying60 h.mq hn k hk v'
    have ho := Only.grown hg
    refine ⟨w', hu, ⟨(h.mp.block (ho.block _ h.mp.lt h.ne)).mono (Nat.le_succ _) |>.congr (fun y _ => ?_), hm.congr (fun y _ => ?_), h.ne, hrows mc h.mq.is w' ho, hdis⟩, ho⟩
    · unfold putZ; simp
    · unfold putZ; simp
end
end Go.Proofs.YtkdhhcidpklgoaaGreatDoor
