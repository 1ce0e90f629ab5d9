/- ref06: Is. -/
import Derived.Test.YtkdhhcidpklgoaaGreatDoorQ29
import Derived.Deep.RegionHeld3
import Derived.BigQuiet
namespace Go.Proofs.YtkdhhcidpklgoaaGreatDoor
open Go.RowKit Go.Shelf Go.Maps
attribute [local go_sem] Oper.semAt_some

theorem CnS.none : CnS (fun _ => 0) (fun _ => false) 0 := ⟨fun _ => Int.le_refl _, fun _ => Int.le_refl _, fun _ => rfl⟩
/-- Valid in a scope that the call itself has made. -/
theorem valid_new (vd vf : Value) (C : Cg) (w0 w : World) (p mx ma n : Nat) (l : List Vr) (S : Sc) (k : Nat) (t : Nd) (va vb : Value) (hC : RCg w0 vd vf C) (hS : ShC C) (ht : RNd w0 k t va vb) (hb : BN t) (hx : Ext w0 w) (h1 : w0.heap.size ≤ mx) (h2 : w0.heap.size ≤ ma)
    (hrc : RC w p mx ma n (addC (fun _ => 0) l 1)) (hl : l.length ≤ 100000000) (hn : n ≤ 100000000) (hSl : addS (fun _ => false) l = S) :
    Calls Tryz.prog 25 #[cV vd vf, .pointer (some ⟨p, 0, none⟩), nV t va vb] w fun e w' => e = .returned (.bool (vN C S t)) ∧ Ext w0 w' := by
  subst hSl
  have hbb := hb.b
  refine (valid_all vd vf C w0 p mx ma hC hS h1 h2 k t va vb ht hb w n _ _ _ hx hrc (CnS.none.add l) (by omega) (by omega)).mono ?_
  rintro e w' ⟨rfl, -, h4⟩
  exact ⟨rfl, h4.below hx h1 h2⟩
theorem scF_eq {f : CF} (h : f.vars.length = f.ps.length) : addS (fun _ => false) (varsOf 0 (parV false f.vars f.ps) ++ varsOf 1 (parV true f.vars f.ps)) = scF f := by
  funext x
  unfold scF addS
  rw [scF_par _ _ h]
theorem headsB_len {C : Cg} (h : headsB C = true) {f : CF} (hf : f ∈ C.funs) : f.vars.length = f.ps.length := by
  unfold headsB at h
  rw [Bool.and_eq_true] at h
  have h2 := hdFs_eq C C.funs [] rfl
  rw [show ([] : List CF).length = 0 from rfl] at h2
  rw [h2] at h
  simp only [Bool.and_eq_true, List.all_eq_true] at h
  have h3 := h.2.1.2 f hf
  unfold okF at h3
  simp only [Bool.and_eq_true, decide_eq_true_eq] at h3
  exact h3.1.2.1
set_option maxHeartbeats 16000000 in
set_option maxRecDepth 100000 in
theorem is6_any (vd vf : Value) (C : Cg) (w : World) (hC : RCg w vd vf C) (hS : ShC C) (hB : ∀ f ∈ C.funs, BN f.body) :
    Calls Tryz.prog 9 #[cV vd vf] w fun e w' => e = .returned (.bool (coreB C)) ∧ Ext w w' := by
  rw [← isR_eq]
  have HC := Lib.hid hC; have HS := Lib.hid hS; have HB := Lib.hid hB
  have HR : Hid (isR C = (validB C.decls && headsB C && isL C 0 C.funs)) := rfl
  have HLN := Lib.hid (@headsB_len C)
  have hl12 : headsB C = true → C.funs.length ≤ 12 := fun h => by
    unfold headsB at h
    simp only [Bool.and_eq_true, decide_eq_true_eq] at h
    exact h.1.2
  obtain ⟨Ad, cd, rfl, -, hmd⟩ := hC.d.form
  obtain ⟨Af, cf, rfl, hcf, hmf⟩ := hC.f.form
  unfold maxLen at hmd hmf
  have HE1 := Lib.hid (Ext.al w (.cells #[.slice Ad C.decls.length cd, .slice Af C.funs.length cf] 25))
  have HB1 := Lib.hid (heapNew w (.cells #[.slice Ad C.decls.length cd, .slice Af C.funs.length cf] 25))
  have HIS : Hid (∀ W, Ext w W → Calls Tryz.prog 23 #[.slice Ad C.decls.length cd] W fun e w' => e = .returned (.bool (validB C.decls)) ∧ Ext W w') := fun W hW => by
    rw [valid_is]; exact Is_any _ _ W (hC.d.below hW)
  have HHE : Hid (∀ W, Ext w W → Calls Tryz.prog 24 #[cV (.slice Ad C.decls.length cd) (.slice Af C.funs.length cf)] W fun e w' => e = .returned (.bool (headsB C)) ∧ Ext W w') := fun W hW => heads6_any _ _ C W (hC.below hW) hS
  generalize isR C = R at *
  clear hC hS hB
  cases hv : validB C.decls
  · rw [hv] at HIS HR
    have HRF : Hid (R = false) := by show _ = _; rw [HR.out]; rfl
    clear hv
    go_enter Tryz.func9, Tryz.ntmps9
    go_wp2_with (first
      | (go_at_call 23; (with_reducible refine (HIS.out _ HE1.out).mono ?_); rintro e w5 ⟨rfl, hx5⟩)
      | fail "none")
    go_ret
    exact ⟨ret_bool HRF.out.symm, HE1.out.tr hx5⟩
  rw [hv] at HIS HR
  clear hv
  cases hh : headsB C
  · rw [hh] at HHE HR
    have HRF : Hid (R = false) := by show _ = _; rw [HR.out]; rfl
    clear hh hl12
    go_enter Tryz.func9, Tryz.ntmps9
    go_wp2_with (first
      | (go_at_call 23; (with_reducible refine (HIS.out _ HE1.out).mono ?_); rintro e w5 ⟨rfl, hx5⟩; have HX5 := Lib.hid (HE1.out.tr hx5); have hb5 := hx5.lt HB1.out; have p0 := cellAt hb5 0; have p1 := cellAt hb5 1; clear hx5 hb5)
      | (go_at_call 24; (with_reducible refine (HHE.out _ HX5.out).mono ?_); rintro e w6 ⟨rfl, hx6⟩)
      | fail "none")
    go_ret
    exact ⟨ret_bool HRF.out.symm, HX5.out.tr hx6⟩
  have hlen := hl12 hh
  have HLN2 : Hid (∀ f ∈ C.funs, f.vars.length = f.ps.length) := fun f hf => HLN.out hh hf
  rw [hh] at HHE HR
  clear hh hl12 HLN
  go_enter Tryz.func9, Tryz.ntmps9
  go_wp2_with (first
    | (go_at_call 23; (with_reducible refine (HIS.out _ HE1.out).mono ?_); rintro e w5 ⟨rfl, hx5⟩; have HX5 := Lib.hid (HE1.out.tr hx5); have hb5 := hx5.lt HB1.out; have HB5 := Lib.hid hb5; have p0 := cellAt hb5 0; have p1 := cellAt hb5 1; clear hx5 hb5)
    | (go_at_call 24; (with_reducible refine (HHE.out _ HX5.out).mono ?_); rintro e w6 ⟨rfl, hx6⟩; have HX6 := Lib.hid (HX5.out.tr hx6); have hb6 := hx6.lt HB5.out; have HB6 := Lib.hid hb6; clear p0 p1; have p0 := cellAt hb6 0; have p1 := cellAt hb6 1; clear hx6 hb6)
    | fail "none")
  clear p0 p1 HIS HHE
  go_loopw [3, 20] (fun s i wr => ∃ j m : Nat, j ≤ C.funs.length ∧ i = .int .i64 j ∧ s = .int .i64 m ∧ m ≤ 30000 * j ∧ isL C 0 C.funs = isL C m (C.funs.drop j) ∧ Ext w6 wr) (fun _ i _ => C.funs.length - (intOf i).toNat)
  case atStart => exact ⟨0, 0, Nat.zero_le _, rfl, rfl, Nat.le_refl _, rfl, Ext.rf _⟩
  case round =>
    obtain ⟨j, m, hj, rfl, rfl, hmj, hd, hx⟩ := hrel
    have HD := Lib.hid hd; have HXR := Lib.hid hx
    have HX := Lib.hid (HX6.out.tr hx)
    have HBR := Lib.hid (hx.lt HB6.out)
    clear hd hx
    by_cases hlt : j < C.funs.length
    · obtain ⟨b, o, vp, vv, xa, xb, kk, rfl, hbl, y0, y1, y2, yn, hnm, hps, hvs, hbody⟩ := HC.out.f.at_ hlt
      have y0 := HX.out.keep y0
      have y1 := HX.out.keep y1
      have y2 := HX.out.keep y2
      obtain ⟨c0, c1, c2, c3, c4⟩ := yn.below HX.out
      obtain ⟨hfp, hfv, hfo⟩ := HS.out.fn _ (List.getElem_mem hlt)
      have HST := Lib.hid (isL_step (C := C) (m := (m : Int)) hlt)
      have HPS := Lib.hid hps; have HVS := Lib.hid hvs; have HBO := Lib.hid hbody
      have HBN := Lib.hid (HB.out _ (List.getElem_mem hlt))
      have HVL := Lib.hid (HLN2.out _ (List.getElem_mem hlt))
      obtain ⟨_, ⟨Ax, cx, rfl, -, -⟩, ⟨Bx, dx, rfl, -, -⟩⟩ := hbody.form
      obtain ⟨Ap, cp, rfl, -, hmp⟩ := hps.form
      obtain ⟨Av, cv, rfl, -, -⟩ := hvs.form
      clear yn hnm hps hvs hbody hfo
      have hjl : (j : Int) < C.funs.length := by omega
      generalize C.funs[j] = f at *
      have HEX := Lib.hid (Ext.al wr (.cells #[.string f.nm, .slice Ap f.ps.length cp, .slice Av f.vars.length cv, .int .i64 f.body.op, .int .i64 f.body.n, .int .i64 f.body.ty, .slice Ax f.body.args.length cx, .slice Bx f.body.brs.length dx] 53))
      have HNX := Lib.hid (heapNew wr (.cells #[.string f.nm, .slice Ap f.ps.length cp, .slice Av f.vars.length cv, .int .i64 f.body.op, .int .i64 f.body.n, .int .i64 f.body.ty, .slice Ax f.body.args.length cx, .slice Bx f.body.brs.length dx] 53))
      have HX3 : Hid (Ext w (wr.alloc (.cells #[.string f.nm, .slice Ap f.ps.length cp, .slice Av f.vars.length cv, .int .i64 f.body.op, .int .i64 f.body.n, .int .i64 f.body.ty, .slice Ax f.body.args.length cx, .slice Bx f.body.brs.length dx] 53))) := HX.out.tr HEX.out
      have HFI : Hid (∀ W, Ext w W → Calls Tryz.prog 11 #[nV f.body (.slice Ax f.body.args.length cx) (.slice Bx f.body.brs.length dx), .int .i64 30000] W fun e w' => e = .returned (.bool (decide ((cntN f.body : Int) ≤ 30000))) ∧ Ext W w') := fun W hW =>
        fits6_any kk f.body _ _ 30000 W (HBO.out.below hW) HBN.out (by decide) (by decide)
      have HSI : Hid (∀ W, Ext w W → Calls Tryz.prog 18 #[nV f.body (.slice Ax f.body.args.length cx) (.slice Bx f.body.brs.length dx)] W fun e w' => e = .returned (.tuple #[.int .i64 (szN f.body), .int .i64 (dpN f.body)]) ∧ Ext W w') := fun W hW => size6_any kk f.body _ _ W (HBO.out.below hW) HBN.out
      have hszd := szdp_cnt f.body
      have n0 := cellAt HNX.out 0
      have n1 := cellAt HNX.out 1
      have n2 := cellAt HNX.out 2
      have n3 := cellAt HNX.out 3
      have n4 := cellAt HNX.out 4
      have n5 := cellAt HNX.out 5
      have n6 := cellAt HNX.out 6
      have n7 := cellAt HNX.out 7
      by_cases hfit : (cntN f.body : Int) ≤ 30000
      rotate_left
      · have HRF : Hid (R = false) := by show _ = _; rw [HR.out, HD.out, HST.out, decide_eq_false hfit]; rfl
        rw [decide_eq_false hfit] at HFI
        clear hfit
        go_wp2_with (first
          | (go_at_call 11; (with_reducible refine (HFI.out _ HX3.out).mono ?_); rintro e w7 ⟨rfl, hx7⟩)
          | fail "none")
        go_ret
        exact ⟨ret_bool HRF.out.symm, HX3.out.tr hx7⟩
      rw [decide_eq_true hfit] at HFI HST
      have HBK : Hid (bodyK C f = (decide (dpN f.body ≤ 4000) && (decide (kindI f.body.op = 3) && vN C (scF f) f.body))) := rfl
      have HBW := Lib.hid (HEX.out.lt HBR.out)
      have HX38 := Lib.hid (HXR.out.tr HEX.out)
      have hw1 : IntKind.wrap .i64 ((m : Int) + (szN f.body : Int)) = (m : Int) + (szN f.body : Int) := IntWalk.i64_in _ (by omega)
      have hms : m + szN f.body ≤ 30000 * (j + 1) := by omega
      have HST2 : Hid (isL C 0 C.funs = (bodyK C f && isL C ((m + szN f.body : Nat) : Int) (C.funs.drop (j + 1)))) := by
        show _ = _
        rw [HD.out, HST.out, Int.natCast_add]; rfl
      clear HST hfit
      generalize szN f.body = sz at *
      obtain ⟨dp, hdp⟩ : ∃ dp, dpN f.body = dp := ⟨_, rfl⟩
      rw [hdp] at HSI HBK
      clear hdp hszd
      go_wp2_with (first
        | (go_at_call 11; (with_reducible refine (HFI.out _ HX3.out).mono ?_); rintro e w7 ⟨rfl, hx7⟩; have HX7 := Lib.hid (HX3.out.tr hx7); have HX17 := Lib.hid (HX38.out.tr hx7); have hn7 := hx7.lt HNX.out; have HN7 := Lib.hid hn7; have HB7 := Lib.hid (hx7.lt HBW.out); clear n0 n1 n2 n3 n4 n5 n6 n7; have n3 := cellAt hn7 3; have n4 := cellAt hn7 4; have n5 := cellAt hn7 5; have n6 := cellAt hn7 6; have n7 := cellAt hn7 7; clear hn7 hx7)
        | (go_at_call 18; (with_reducible refine (HSI.out _ HX7.out).mono ?_); rintro e w8 ⟨rfl, hx8⟩; have HX8 := Lib.hid (HX7.out.tr hx8); have HX18 := Lib.hid (HX17.out.tr hx8); have HN8 := Lib.hid (hx8.lt HN7.out); have HB8 := Lib.hid (hx8.lt HB7.out); clear n3 n4 n5 n6 n7; clear hx8)
        | fail "none")
      have HCX : Hid (∀ W, Ext w8 W → W.cell? ⟨w.heap.size, 0, none⟩ = some (.slice Ad C.decls.length cd) ∧ W.cell? ⟨w.heap.size, 1, none⟩ = some (.slice (some ⟨b, o, none⟩) C.funs.length cf) ∧ W.cell? ⟨wr.heap.size, 0, none⟩ = some (.string f.nm) ∧ W.cell? ⟨wr.heap.size, 1, none⟩ = some (.slice Ap f.ps.length cp) ∧ W.cell? ⟨wr.heap.size, 2, none⟩ = some (.slice Av f.vars.length cv) ∧ W.cell? ⟨wr.heap.size, 3, none⟩ = some (.int .i64 f.body.op) ∧ W.cell? ⟨wr.heap.size, 4, none⟩ = some (.int .i64 f.body.n) ∧ W.cell? ⟨wr.heap.size, 5, none⟩ = some (.int .i64 f.body.ty) ∧ W.cell? ⟨wr.heap.size, 6, none⟩ = some (.slice Ax f.body.args.length cx) ∧ W.cell? ⟨wr.heap.size, 7, none⟩ = some (.slice Bx f.body.brs.length dx)) := fun W h =>
        ⟨cellAt (h.lt HB8.out) 0, cellAt (h.lt HB8.out) 1, cellAt (h.lt HN8.out) 0, cellAt (h.lt HN8.out) 1, cellAt (h.lt HN8.out) 2, cellAt (h.lt HN8.out) 3, cellAt (h.lt HN8.out) 4, cellAt (h.lt HN8.out) 5, cellAt (h.lt HN8.out) 6, cellAt (h.lt HN8.out) 7⟩
      obtain ⟨p0, p1, n0, n1, n2, n3, n4, n5, n6, n7⟩ := HCX.out w8 (Ext.rf _)
      by_cases hd4 : dp ≤ 4000
      rotate_left
      · have HRF : Hid (R = false) := by show _ = _; rw [HR.out, HST2.out, HBK.out, decide_eq_false hd4]; rfl
        have cb : decide ((4000 : Int) < (dp : Int)) = true := decide_eq_true (by omega)
        have cb' : (4000 : Int) < (dp : Int) := by omega
        go_quiet (fail)
        go_wp2
        go_ret
        exact ⟨ret_bool HRF.out.symm, HX8.out.drewN _⟩
      have cb : decide ((4000 : Int) < (dp : Int)) = false := decide_eq_false (by omega)
      have cb' : ¬ (4000 : Int) < (dp : Int) := by omega
      rw [decide_eq_true hd4] at HBK
      obtain ⟨ki, hki⟩ : ∃ ki, kindI f.body.op = ki := ⟨_, rfl⟩
      have HKI : Hid (∀ W, Calls Tryz.prog 16 #[.int .i64 f.body.op] W fun e w' => e = .returned (.int .i64 ki) ∧ w' = W) := fun W => by have := kind6_any f.body.op W; rw [hki] at this; exact this.mono (fun _ _ h => ⟨h.1, h.2.symm⟩)
      rw [hki] at HBK
      clear hki
      by_cases hk3 : ki = 3
      rotate_left
      · have HRF : Hid (R = false) := by show _ = _; rw [HR.out, HST2.out, HBK.out, decide_eq_false hk3]; rfl
        have e1 : (ki == 3) = false := by simpa using hk3
        have e2 : (ki != 3) = true := by rw [bne, e1]; rfl
        go_quiet ((go_at_call 16; exact Calls.quiet_of_same (HKI.out _)))
        go_wp2
        go_ret
        exact ⟨ret_bool HRF.out.symm, HX8.out.drewN _⟩
      subst hk3
      have HPA : Hid (∀ W, Ext w8 W → Calls Tryz.prog 27 #[fV f (.slice Ap f.ps.length cp) (.slice Av f.vars.length cv) (.slice Ax f.body.args.length cx) (.slice Bx f.body.brs.length dx)] W fun e w' => (∃ u z, e = .returned (.tuple #[u, z]) ∧ RInts w' u (parV false f.vars f.ps) ∧ RInts w' z (parV true f.vars f.ps)) ∧ Ext w8 w') := fun W hW => by
        refine (params6_any f _ _ _ _ W ((HPS.out.below HX8.out).below hW) ((HVS.out.below HX8.out).below hW) HVL.out hfp ⟨kk, (HBO.out.below HX8.out).below hW⟩).mono ?_
        rintro e w' ⟨h1, h2⟩
        exact ⟨h1, hW.tr h2⟩
      have hpl1 : (parV false f.vars f.ps).length ≤ 1048576 := Nat.le_trans (parV_len _ _ _) hfv
      have hpl2 : (parV true f.vars f.ps).length ≤ 1048576 := Nat.le_trans (parV_len _ _ _) hfv
      have HSC := Lib.hid (scF_eq HVL.out)
      have HVA : Hid (∀ W0 W p mx ma, Ext w8 W0 → Ext W0 W → W0.heap.size ≤ mx → W0.heap.size ≤ ma → RC W p mx ma ((parV false f.vars f.ps).length + (parV true f.vars f.ps).length) (addC (fun _ => 0) (varsOf 0 (parV false f.vars f.ps) ++ varsOf 1 (parV true f.vars f.ps)) 1) → Calls Tryz.prog 25 #[cV (.slice Ad C.decls.length cd) (.slice (some ⟨b, o, none⟩) C.funs.length cf), .pointer (some ⟨p, 0, none⟩), nV f.body (.slice Ax f.body.args.length cx) (.slice Bx f.body.brs.length dx)] W fun e w' => e = .returned (.bool (vN C (scF f) f.body)) ∧ Ext w8 w') := fun W0 W p mx ma h0 hW h1 h2 hr => by
        refine (valid_new _ _ C W0 W p mx ma _ _ (scF f) kk f.body _ _ ((HC.out.below HX8.out).below h0) HS.out ((HBO.out.below HX8.out).below h0) HBN.out hW h1 h2 hr (by unfold varsOf; simp; omega) (by omega) HSC.out).mono ?_
        rintro e w' ⟨rfl, h⟩
        exact ⟨rfl, h0.tr h⟩
      have HNS : Hid (∀ W u z, RInts W u (parV false f.vars f.ps) → RInts W z (parV true f.vars f.ps) → Calls Tryz.prog 26 #[u, z] W _) := fun W u z h1 h2 => newScope6_any u z _ _ W h1 h2 hpl1 hpl2
      obtain ⟨r, hr⟩ : ∃ r, vN C (scF f) f.body = r := ⟨_, rfl⟩
      rw [hr] at HVA HBK
      clear hr
      go_region_held3 (fun W => W.cell? ⟨w.heap.size, 0, none⟩ = some (.slice Ad C.decls.length cd) ∧ W.cell? ⟨w.heap.size, 1, none⟩ = some (.slice (some ⟨b, o, none⟩) C.funs.length cf) ∧ W.cell? ⟨wr.heap.size, 0, none⟩ = some (.string f.nm) ∧ W.cell? ⟨wr.heap.size, 1, none⟩ = some (.slice Ap f.ps.length cp) ∧ W.cell? ⟨wr.heap.size, 2, none⟩ = some (.slice Av f.vars.length cv) ∧ W.cell? ⟨wr.heap.size, 3, none⟩ = some (.int .i64 f.body.op) ∧ W.cell? ⟨wr.heap.size, 4, none⟩ = some (.int .i64 f.body.n) ∧ W.cell? ⟨wr.heap.size, 5, none⟩ = some (.int .i64 f.body.ty) ∧ W.cell? ⟨wr.heap.size, 6, none⟩ = some (.slice Ax f.body.args.length cx) ∧ W.cell? ⟨wr.heap.size, 7, none⟩ = some (.slice Bx f.body.brs.length dx))
        (first | exact HCX.out _ (Ext.rf _).drew | exact HCX.out _ HX9.out | exact HCX.out _ HX10.out | exact HCX.out _ HX11.out | fail "KEEP")
        (first
          | (go_at_call 16; (with_reducible refine (HKI.out _).mono ?_); rintro e w7 ⟨rfl, rfl⟩)
          | (go_at_call 27; (with_reducible refine (HPA.out _ (by first | exact (Ext.rf _).drew | exact Ext.rf _)).mono ?_); rintro e w9 ⟨⟨u, z, rfl, hu, hz⟩, hx9⟩; have HU := Lib.hid hu; have HZ := Lib.hid hz; have HX9 := Lib.hid hx9; clear hu hz hx9)
          | (go_at_call 26; (with_reducible refine (HNS.out _ _ _ HU.out HZ.out).mono ?_); rintro e w10 ⟨⟨p, mx, ma, rfl, hp1, hp2, hp3, hrc⟩, hx10⟩; have HXV := Lib.hid hx10; have HRC := Lib.hid hrc; have HX10 := Lib.hid (HX9.out.tr hx10); clear hrc hx10)
          | (go_at_call 25; (with_reducible refine (HVA.out _ _ _ _ _ HX9.out HXV.out hp2 hp3 HRC.out).mono ?_); rintro e w11 ⟨rfl, hx11⟩; have HX11 := Lib.hid hx11; clear hx11)
          | fail "ARM")
      cases r
      · have HRF : Hid (R = false) := by show _ = _; rw [HR.out, HST2.out, HBK.out]; rfl
        go_wp2
        go_ret
        exact ⟨ret_bool HRF.out.symm, HX8.out.tr HX11.out⟩
      · have HG : Hid (isL C 0 C.funs = isL C ((m + sz : Nat) : Int) (C.funs.drop (j + 1))) := by show _ = _; rw [HST2.out, HBK.out]; rfl
        go_wp2
        exact ⟨⟨j + 1, m + sz, by omega, by go_num, by go_num, by omega, HG.out, HX18.out.tr HX11.out⟩, by simp [intOf]; omega⟩
    · have hje : j = C.funs.length := by omega
      have HRE : Hid (R = decide ((m : Int) ≤ 30000)) := by show _ = _; rw [HR.out, HD.out, isL_end (by omega)]; rfl
      by_cases hm3 : m ≤ 30000
      · have hmi : (m : Int) ≤ 30000 := by omega
        rw [decide_eq_true hmi] at HRE
        go_wp2
        go_ret
        exact ⟨ret_bool HRE.out.symm, HX.out⟩
      · have hmi : ¬ (m : Int) ≤ 30000 := by omega
        rw [decide_eq_false hmi] at HRE
        go_wp2
        go_ret
        exact ⟨ret_bool HRE.out.symm, HX.out⟩
end Go.Proofs.YtkdhhcidpklgoaaGreatDoor

/- ref07: the scope of types: two maps; bind and restore. -/
namespace Go.Proofs.YtkdhhcidpklgoaaGreatDoor
open Go.RowKit Go.Shelf Go.Maps
attribute [local go_sem] Oper.semAt_some

abbrev Fv := Vr → Int
def lastE (E : Ev) : Fv := fun x => ((E x).getLast?).getD 0
def setV (f : Fv) (x : Vr) (t : Int) : Fv := fun y => if y = x then t else f y
theorem setV_same (f : Fv) (x : Vr) (t : Int) : setV f x t x = t := if_pos rfl
theorem setV_other (f : Fv) {x y : Vr} (t : Int) (h : y ≠ x) : setV f x t y = f y := if_neg h
theorem setV_back (f : Fv) (x : Vr) (t : Int) : setV (setV f x t) x (f x) = f := by
  funext y
  by_cases h : y = x
  · rw [h, setV_same]
  · rw [setV_other _ _ h, setV_other _ _ h]
theorem lastE_push (E : Ev) (x : Vr) (t : Int) : lastE (fun y => if y = x then E y ++ [t] else E y) = setV (lastE E) x t := by
  funext y
  unfold lastE setV
  by_cases h : y = x
  · simp [h]
  · simp [h]
/-- Bound one after another. -/
def setVs : Fv → List Vr → List Int → Fv
  | f, [], _ => f
  | f, _, [] => f
  | f, x :: r, t :: ts => setVs (setV f x t) r ts
theorem setVs_push : ∀ (l : List Vr) (ts : List Int) (E : Ev), lastE (pushE E l ts) = setVs (lastE E) l ts
  | [], ts, E => by rw [pushE_nil]; cases ts <;> rfl
  | x :: r, [], E => rfl
  | x :: r, t :: ts, E => by
    rw [pushE_cons, setVs_push r ts, lastE_push]; rfl
/-- The scope of types lies at p. -/
structure RS (w : World) (p mx ma n : Nat) (f : Fv) : Prop where
  box : w.heap[p]? = some (.cells #[.map (some mx), .map (some ma)] 89 (0, 0))
  mp : MapZ intT zI w mx n (fun k => .int .i64 (f (0, k)))
  mq : MapZ intT zI w ma n (fun k => .int .i64 (f (1, k)))
  ne : mx ≠ ma
section
variable {w w' : World} {p mx ma n : Nat} {f : Fv}
theorem RS.apart (h : RS w p mx ma n f) : p ≠ mx ∧ p ≠ ma := by
  obtain ⟨_, _, h1⟩ := h.mp.is
  obtain ⟨_, _, h2⟩ := h.mq.is
  have hb := h.box
  exact ⟨fun e => (by rw [e, h1] at hb; have q := Option.some.inj hb; cases q), fun e => (by rw [e, h2] at hb; have q := Option.some.inj hb; cases q)⟩
theorem RS.ext (h : RS w p mx ma n f) (hx : Ext w w') : RS w' p mx ma n f := ⟨hx.lt h.box, h.mp.ext hx, h.mq.ext hx, h.ne⟩
theorem RS.mono (h : RS w p mx ma n f) {m : Nat} (hm : n ≤ m) : RS w p mx ma m f := ⟨h.box, h.mp.mono hm, h.mq.mono hm, h.ne⟩
theorem RS.only {C : Nat → Prop} (h : RS w p mx ma n f) (ho : Only C w w') (h1 : ¬ C p) (h2 : ¬ C mx) (h3 : ¬ C ma) : RS w' p mx ma n f :=
  ⟨ho.lt h.box h1, h.mp.block (ho.block _ h.mp.lt h2), h.mq.block (ho.block _ h.mq.lt h3), h.ne⟩
theorem RS.maps (h : RS w p mx ma n f) : ∀ j, (j = mx ∨ j = ma) → ∃ es clock, w.heap[j]? = some (.map es clock) := fun j hj => by
  rcases hj with rfl | rfl
  · exact h.mp.is
  · exact h.mq.is
theorem RS.lookx (h : RS w p mx ma n f) {k : Int} (hk : ok64 k) : (Instr.lookup 87 (.map (some mx)) (.int .i64 k) false).run Tryz.prog w = .ok (.int .i64 (f (0, k))) w :=
  run_lookupZ (T := intT) (t := 87) (e := 3) Tryz.underlying87 h.mp (by kernel_rfl) k hk
theorem RS.looka (h : RS w p mx ma n f) {k : Int} (hk : ok64 k) : (Instr.lookup 87 (.map (some ma)) (.int .i64 k) false).run Tryz.prog w = .ok (.int .i64 (f (1, k))) w :=
  run_lookupZ (T := intT) (t := 87) (e := 3) Tryz.underlying87 h.mq (by kernel_rfl) k hk
theorem zI_inj {a : Int} (h : (Value.int .i64 a) = zI) : a = 0 := by injection h
theorem RS.lookxOk (h : RS w p mx ma n f) {k : Int} (hk : ok64 k) : ∃ q : Bool, (Instr.lookup 87 (.map (some mx)) (.int .i64 k) true).run Tryz.prog w = .ok (.tuple #[.int .i64 (f (0, k)), .bool q]) w ∧ (q = false → f (0, k) = 0) := by
  obtain ⟨q, h1, h2⟩ := run_lookup_okZ (T := intT) (t := 87) (e := 3) Tryz.underlying87 h.mp (by kernel_rfl) k hk
  exact ⟨q, h1, fun e => zI_inj (h2 e)⟩
theorem RS.lookaOk (h : RS w p mx ma n f) {k : Int} (hk : ok64 k) : ∃ q : Bool, (Instr.lookup 87 (.map (some ma)) (.int .i64 k) true).run Tryz.prog w = .ok (.tuple #[.int .i64 (f (1, k)), .bool q]) w ∧ (q = false → f (1, k) = 0) := by
  obtain ⟨q, h1, h2⟩ := run_lookup_okZ (T := intT) (t := 87) (e := 3) Tryz.underlying87 h.mq (by kernel_rfl) k hk
  exact ⟨q, h1, fun e => zI_inj (h2 e)⟩
theorem RS.putx (h : RS w p mx ma n f) {k : Int} (hk : ok64 k) (hn : n < maxLen) (t : Int) :
    ∃ w', (Instr.mapUpdate 87 (.map (some mx)) (.int .i64 k) (.int .i64 t)).run Tryz.prog w = .ok () w' ∧ RS w' p mx ma (n + 1) (setV f (0, k) t) ∧ TrC mx ma w w' := by
  obtain ⟨w', hrun, hm, hg, hsz⟩ := run_updateZ (T := intT) (t := 87) (e := 3) Tryz.underlying87 h.mp hn k hk (.int .i64 t)
  obtain ⟨a1, a2⟩ := h.apart
  refine ⟨w', hrun, ⟨(hg.block _ (heap_lt h.box) (by simpa using a1)).trans h.box, hm.congr (fun x hx => ?_), (h.mq.mono (Nat.le_succ n)).block (hg.block _ h.mq.lt (by simpa using Ne.symm h.ne)) |>.congr (fun x hx => ?_), h.ne⟩, ?_⟩
  · by_cases e : x = k
    · subst e; rw [putZ_same, setV_same]
    · rw [putZ_other _ _ e, setV_other _ _ (by simpa using e)]
  · rw [setV_other _ _ (by simp)]
  · exact ⟨hg.os, hg.tape, hg.output, by omega, fun j hj hc => hg.block j hj (by simpa using fun e => hc (.inl e))⟩
theorem RS.puta (h : RS w p mx ma n f) {k : Int} (hk : ok64 k) (hn : n < maxLen) (t : Int) :
    ∃ w', (Instr.mapUpdate 87 (.map (some ma)) (.int .i64 k) (.int .i64 t)).run Tryz.prog w = .ok () w' ∧ RS w' p mx ma (n + 1) (setV f (1, k) t) ∧ TrC mx ma w w' := by
  obtain ⟨w', hrun, hm, hg, hsz⟩ := run_updateZ (T := intT) (t := 87) (e := 3) Tryz.underlying87 h.mq hn k hk (.int .i64 t)
  obtain ⟨a1, a2⟩ := h.apart
  refine ⟨w', hrun, ⟨(hg.block _ (heap_lt h.box) (by simpa using a2)).trans h.box, (h.mp.mono (Nat.le_succ n)).block (hg.block _ h.mp.lt (by simpa using h.ne)) |>.congr (fun x hx => ?_), hm.congr (fun x hx => ?_), h.ne⟩, ?_⟩
  · rw [setV_other _ _ (by simp)]
  · by_cases e : x = k
    · subst e; rw [putZ_same, setV_same]
    · rw [putZ_other _ _ e, setV_other _ _ (by simpa using e)]
  · exact ⟨hg.os, hg.tape, hg.output, by omega, fun j hj hc => hg.block j hj (by simpa using fun e => hc (.inr e))⟩
theorem RS.delx (h : RS w p mx ma n f) {k : Int} (hk : ok64 k) (ty : TypeId) :
    ∃ w', (Builtin.delete_ #[87, 3] ty #[.map (some mx), .int .i64 k]).run Tryz.prog w = .ok (.tuple #[]) w' ∧ RS w' p mx ma n (setV f (0, k) 0) ∧ TrC mx ma w w' := by
  obtain ⟨w', hrun, hm, hg, hsz⟩ := run_deleteZ (T := intT) (t := 87) (e := 3) (ty := ty) Tryz.underlying87 h.mp k hk
  obtain ⟨a1, a2⟩ := h.apart
  refine ⟨w', hrun, ⟨(hg.block _ (heap_lt h.box) (by simpa using a1)).trans h.box, hm.congr (fun x hx => ?_), h.mq.block (hg.block _ h.mq.lt (by simpa using Ne.symm h.ne)) |>.congr (fun x hx => ?_), h.ne⟩, ?_⟩
  · by_cases e : x = k
    · subst e; rw [putZ_same, setV_same]
    · rw [putZ_other _ _ e, setV_other _ _ (by simpa using e)]
  · rw [setV_other _ _ (by simp)]
  · exact ⟨hg.os, hg.tape, hg.output, by omega, fun j hj hc => hg.block j hj (by simpa using fun e => hc (.inl e))⟩
theorem RS.dela (h : RS w p mx ma n f) {k : Int} (hk : ok64 k) (ty : TypeId) :
    ∃ w', (Builtin.delete_ #[87, 3] ty #[.map (some ma), .int .i64 k]).run Tryz.prog w = .ok (.tuple #[]) w' ∧ RS w' p mx ma n (setV f (1, k) 0) ∧ TrC mx ma w w' := by
  obtain ⟨w', hrun, hm, hg, hsz⟩ := run_deleteZ (T := intT) (t := 87) (e := 3) (ty := ty) Tryz.underlying87 h.mq k hk
  obtain ⟨a1, a2⟩ := h.apart
  refine ⟨w', hrun, ⟨(hg.block _ (heap_lt h.box) (by simpa using a2)).trans h.box, h.mp.block (hg.block _ h.mp.lt (by simpa using h.ne)) |>.congr (fun x hx => ?_), hm.congr (fun x hx => ?_), h.ne⟩, ?_⟩
  · rw [setV_other _ _ (by simp)]
  · by_cases e : x = k
    · subst e; rw [putZ_same, setV_same]
    · rw [putZ_other _ _ e, setV_other _ _ (by simpa using e)]
  · exact ⟨hg.os, hg.tape, hg.output, by omega, fun j hj hc => hg.block j hj (by simpa using fun e => hc (.inr e))⟩
theorem RS.cells {cs : Array Value} {T : TypeId} {z : Nat × Nat} {j : Nat} (hr : RS w p mx ma n f) (h : TrC mx ma w w') (hj : w.heap[j]? = some (.cells cs T z)) : w'.heap[j]? = some (.cells cs T z) :=
  h.lt hj (fun hc => by obtain ⟨es, cl, e⟩ := hr.maps j hc; rw [hj] at e; cases e)
end
theorem box4_set {w : World} {r T : Nat} {a b c d : Value} (h : w.heap[r]? = some (.cells #[a, b, c, d] T (0, 0))) (a' b' c' d' : Value) :
    ((((w.setCell ⟨r, 0, none⟩ a').setCell ⟨r, 1, none⟩ b').setCell ⟨r, 2, none⟩ c').setCell ⟨r, 3, none⟩ d').heap[r]? = some (.cells #[a', b', c', d'] T (0, 0)) := by
  simp [World.setCell, Array.getElem?_modify, h]
theorem only4_set (w : World) (r : Nat) (a' b' c' d' : Value) :
    Only (fun j => j = r) w ((((w.setCell ⟨r, 0, none⟩ a').setCell ⟨r, 1, none⟩ b').setCell ⟨r, 2, none⟩ c').setCell ⟨r, 3, none⟩ d') :=
  (((Only.setCell (C := fun j => j = r) (p := ⟨r, 0, none⟩) rfl w a').tr (Only.setCell (C := fun j => j = r) (p := ⟨r, 1, none⟩) rfl _ b')).tr (Only.setCell (C := fun j => j = r) (p := ⟨r, 2, none⟩) rfl _ c')).tr (Only.setCell (C := fun j => j = r) (p := ⟨r, 3, none⟩) rfl _ d')
abbrev savV (x : Vr) (co : Bool) (t : Int) (q : Bool) : Value := .agg #[.bool co, .int .i64 x.2, .int .i64 t, .bool q]
set_option maxHeartbeats 4000000 in
set_option maxRecDepth 100000 in
theorem bind7_any (w : World) (p mx ma n : Nat) (f : Fv) (co : Bool) (k t : Int) (h : RS w p mx ma n f) (hk : ok64 k) (hn : n < maxLen) :
    Calls Tryz.prog 40 #[.pointer (some ⟨p, 0, none⟩), .bool co, .int .i64 k, .int .i64 t] w fun e w' => (∃ q : Bool, e = .returned (savV (coI co, k) co (f (coI co, k)) q) ∧ (q = false → f (coI co, k) = 0)) ∧ RS w' p mx ma (n + 1) (setV f (coI co, k) t) ∧ TrC mx ma w w' := by
  have hpl := heap_lt h.box
  have hml := h.mp.lt
  have hql := h.mq.lt
  have hx1 := Ext.al w (.cells #[.bool false, .int .i64 0, .int .i64 0, .bool false] 92)
  have hN1 := heapNew w (.cells #[.bool false, .int .i64 0, .int .i64 0, .bool false] 92)
  have h1 := h.ext hx1
  have hb := h1.box
  have p0 := cellAt hb 0
  have p1 := cellAt hb 1
  cases co
  · obtain ⟨q, hlk, hqz⟩ := h1.lookxOk hk
    obtain ⟨w2, hu, h2, ht⟩ := h1.putx hk hn t
    have HN2 := Lib.hid (h1.cells ht hN1)
    have H2 := Lib.hid h2; have HT := Lib.hid ht; have HX1 := Lib.hid hx1; have HQ := Lib.hid hqz
    clear h2 ht h hb hx1 h1 hqz hN1
    have n0 := frozenAt HN2.out 0
    have n1 := frozenAt HN2.out 1
    have n2 := frozenAt HN2.out 2
    have n3 := frozenAt HN2.out 3
    have m0 := cellAt HN2.out 0
    have m1 := cellAt HN2.out 1
    have m2 := cellAt HN2.out 2
    have m3 := cellAt HN2.out 3
    go_enter Tryz.func40, Tryz.ntmps40
    go_wp2
    have hfin := box4_set HN2.out (.bool false) (.int .i64 k) (.int .i64 (f (0, k))) (.bool q)
    have hon := only4_set w2 w.heap.size (.bool false) (.int .i64 k) (.int .i64 (f (0, k))) (.bool q)
    clear m0 m1 m2 m3 n0 n1 n2 n3
    generalize (((w2.setCell _ _).setCell _ _).setCell _ _).setCell _ _ = w9 at *
    have k0 := cellAt hfin 0
    have k1 := cellAt hfin 1
    have k2 := cellAt hfin 2
    have k3 := cellAt hfin 3
    have hrs := H2.out.only hon (show ¬ p = w.heap.size by omega) (show ¬ mx = w.heap.size by omega) (show ¬ ma = w.heap.size by omega)
    have htr : TrC mx ma w w9 := by
      have h5 := TrC.tr (TrC.ext HX1.out) HT.out
      exact ⟨hon.os.trans h5.os, hon.tape.trans h5.tape, hon.output.trans h5.output, Nat.le_trans h5.size hon.size, fun j hj hc => (hon.block j (Nat.lt_of_lt_of_le hj h5.size) (show ¬ j = w.heap.size by omega)).trans (h5.block j hj hc)⟩
    exact bodyPost_ret (v := savV (coI false, k) false (f (0, k)) q) (by simp [results, Tryz.results40, go_sem, k0, k1, k2, k3]) rfl ⟨⟨q, rfl, HQ.out⟩, hrs, htr⟩
  · obtain ⟨q, hlk, hqz⟩ := h1.lookaOk hk
    obtain ⟨w2, hu, h2, ht⟩ := h1.puta hk hn t
    have HN2 := Lib.hid (h1.cells ht hN1)
    have H2 := Lib.hid h2; have HT := Lib.hid ht; have HX1 := Lib.hid hx1; have HQ := Lib.hid hqz
    clear h2 ht h hb hx1 h1 hqz hN1
    have n0 := frozenAt HN2.out 0
    have n1 := frozenAt HN2.out 1
    have n2 := frozenAt HN2.out 2
    have n3 := frozenAt HN2.out 3
    have m0 := cellAt HN2.out 0
    have m1 := cellAt HN2.out 1
    have m2 := cellAt HN2.out 2
    have m3 := cellAt HN2.out 3
    go_enter Tryz.func40, Tryz.ntmps40
    go_wp2
    have hfin := box4_set HN2.out (.bool true) (.int .i64 k) (.int .i64 (f (1, k))) (.bool q)
    have hon := only4_set w2 w.heap.size (.bool true) (.int .i64 k) (.int .i64 (f (1, k))) (.bool q)
    clear m0 m1 m2 m3 n0 n1 n2 n3
    generalize (((w2.setCell _ _).setCell _ _).setCell _ _).setCell _ _ = w9 at *
    have k0 := cellAt hfin 0
    have k1 := cellAt hfin 1
    have k2 := cellAt hfin 2
    have k3 := cellAt hfin 3
    have hrs := H2.out.only hon (show ¬ p = w.heap.size by omega) (show ¬ mx = w.heap.size by omega) (show ¬ ma = w.heap.size by omega)
    have htr : TrC mx ma w w9 := by
      have h5 := TrC.tr (TrC.ext HX1.out) HT.out
      exact ⟨hon.os.trans h5.os, hon.tape.trans h5.tape, hon.output.trans h5.output, Nat.le_trans h5.size hon.size, fun j hj hc => (hon.block j (Nat.lt_of_lt_of_le hj h5.size) (show ¬ j = w.heap.size by omega)).trans (h5.block j hj hc)⟩
    exact bodyPost_ret (v := savV (coI true, k) true (f (1, k)) q) (by simp [results, Tryz.results40, go_sem, k0, k1, k2, k3]) rfl ⟨⟨q, rfl, HQ.out⟩, hrs, htr⟩
set_option maxHeartbeats 4000000 in
set_option maxRecDepth 100000 in
theorem restore7_any (w : World) (p mx ma n : Nat) (g : Fv) (co : Bool) (k old : Int) (q : Bool) (h : RS w p mx ma n g) (hk : ok64 k) (hn : n < maxLen) (ho : q = false → old = 0) :
    Calls Tryz.prog 41 #[.pointer (some ⟨p, 0, none⟩), savV (coI co, k) co old q] w fun e w' => e = .returned (.tuple #[]) ∧ RS w' p mx ma (n + 1) (setV g (coI co, k) old) ∧ TrC mx ma w w' := by
  have hx1 := Ext.al w (.cells #[.bool co, .int .i64 k, .int .i64 old, .bool q] 92)
  have hN1 := heapNew w (.cells #[.bool co, .int .i64 k, .int .i64 old, .bool q] 92)
  have h1 := h.ext hx1
  have hb := h1.box
  have p0 := cellAt hb 0
  have p1 := cellAt hb 1
  have n0 := cellAt hN1 0
  have n1 := cellAt hN1 1
  have n2 := cellAt hN1 2
  have n3 := cellAt hN1 3
  cases co
  · cases q
    · have ho0 := ho rfl
      subst ho0
      obtain ⟨w2, hu, h2, ht⟩ := h1.delx hk 0
      have H2 := Lib.hid h2; have HT := Lib.hid ht; have HX1 := Lib.hid hx1
      clear h2 ht h hb hx1 h1 hN1 ho
      go_enter Tryz.func41, Tryz.ntmps41
      go_wp2
      refine bodyPost_end (v := .tuple #[]) (by simp [results, go_sem]) rfl ?_
      exact ⟨rfl, H2.out.mono (by omega), TrC.tr (TrC.ext HX1.out) HT.out⟩
    · obtain ⟨w2, hu, h2, ht⟩ := h1.putx hk hn old
      have H2 := Lib.hid h2; have HT := Lib.hid ht; have HX1 := Lib.hid hx1
      clear h2 ht h hb hx1 h1 hN1
      go_enter Tryz.func41, Tryz.ntmps41
      go_wp2
      refine bodyPost_end (v := .tuple #[]) (by simp [results, go_sem]) rfl ?_
      exact ⟨rfl, H2.out, TrC.tr (TrC.ext HX1.out) HT.out⟩
  · cases q
    · have ho0 := ho rfl
      subst ho0
      obtain ⟨w2, hu, h2, ht⟩ := h1.dela hk 0
      have H2 := Lib.hid h2; have HT := Lib.hid ht; have HX1 := Lib.hid hx1
      clear h2 ht h hb hx1 h1 hN1 ho
      go_enter Tryz.func41, Tryz.ntmps41
      go_wp2
      refine bodyPost_end (v := .tuple #[]) (by simp [results, go_sem]) rfl ?_
      exact ⟨rfl, H2.out.mono (by omega), TrC.tr (TrC.ext HX1.out) HT.out⟩
    · obtain ⟨w2, hu, h2, ht⟩ := h1.puta hk hn old
      have H2 := Lib.hid h2; have HT := Lib.hid ht; have HX1 := Lib.hid hx1
      clear h2 ht h hb hx1 h1 hN1
      go_enter Tryz.func41, Tryz.ntmps41
      go_wp2
      refine bodyPost_end (v := .tuple #[]) (by simp [results, go_sem]) rfl ?_
      exact ⟨rfl, H2.out, TrC.tr (TrC.ext HX1.out) HT.out⟩
end Go.Proofs.YtkdhhcidpklgoaaGreatDoor
