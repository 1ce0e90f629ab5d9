/- The reference of layer 4: Type and Fault. -/
import Derived.Test.YtogmjgccopmplaaGreatQ36
namespace Go.Proofs.YtogmjgccopmplaaGreat
open Go.RowKit

theorem found_link (ps : List Prm) : Found (linkL ps) (hasS (ps.map Prm.nm)) := by
  have e : boundL (ps.map Prm.nm) (ps.map Prm.ty) = ps := by
    induction ps with
    | nil => rfl
    | cons a r ih =>
      unfold boundL at ih ⊢
      simp only [List.map_cons, List.zip_cons_cons]
      rw [ih]
  have h := found_bind (ps.map Prm.nm) (ps.map Prm.ty) [] (fun _ => false) (by simp) (fun k hk => by cases hk)
  rw [← link_bound, e] at h
  intro k hk
  exact h k (by show (hasS _ k || false) = true; rw [hk]; rfl)
theorem prog_scope {P : Pg} (h : progB P = true) {f : Fn} (hf : f ∈ P.funs) : VldS P (linkL f.ps) (linkL []) f.body := by
  unfold progB at h
  simp only [Bool.and_eq_true, List.all_eq_true] at h
  have := h.2 f hf
  unfold funB at this
  simp only [Bool.and_eq_true] at this
  exact ⟨_, _, this.2.2, found_link f.ps, fun k hk => by cases hk⟩
def RTyR (r : TyR) (e : Ending) : Prop := match r with
  | .inr y => e = .returned (.tuple #[.int .i64 y, .bool true])
  | .inl _ => ∃ y, e = .returned (.tuple #[.int .i64 y, .bool false])
def FaultS (B : Nat) (w' : World) (r : Option (Nat × List Int)) (e : Ending) : Prop := match r with
  | none => e = .returned (.tuple #[.int .i64 0, .slice none 0 0, .bool false])
  | some (i, p) => ∃ v, e = .returned (.tuple #[.int .i64 i, v, .bool true]) ∧ OwnL w' B v p

set_option maxHeartbeats 8000000 in
set_option maxRecDepth 100000 in
theorem refFault_any (P : Pg) (hB : PB P) (hX : PX P) (hS : ∀ t, fitsT P t = true → t.args.length + t.cls.length ≤ 1000000) (hC : ∀ t, fitsT P t = true → ∀ c ∈ t.cls, c.1.length ≤ 1000) (hPB : progB P = true) (vd vf : Value) (w : World) (hd : RDecls w vd P.decls) (hf : RFns w vf P.funs) :
    Calls Tryz.prog 12 #[pV vd vf] w fun e w' => FaultS w.heap.size w' (faultF P 0 P.funs) e ∧ Ext w w' := by
  have HBP := Lib.hid hB; have HPX := Lib.hid hX; have HSP := Lib.hid hS; have HCP := Lib.hid hC; have HPB := Lib.hid hPB
  have HD := Lib.hid hd; have HF := Lib.hid hf
  obtain ⟨Ad, cd, rfl, -, -⟩ := hd.form
  obtain ⟨Af, cf, rfl, hcf, hmf⟩ := hf.form
  unfold maxLen at hmf
  clear hd hf hB hX hS hC hPB
  have HE := Lib.hid (Ext.al w (.cells #[.slice Ad P.decls.length cd, .slice Af P.funs.length cf] 25))
  have HB := Lib.hid (heapNew w (.cells #[.slice Ad P.decls.length cd, .slice Af P.funs.length cf] 25))
  obtain ⟨fr, hfr⟩ : ∃ r, faultF P 0 P.funs = r := ⟨_, rfl⟩
  have HFR := Lib.hid hfr
  rw [hfr]
  clear hfr
  have p1 := cellAt HB.out 1
  go_enter Tryz.func12, Tryz.ntmps12
  go_wp2
  generalize w.alloc _ = w1 at *
  clear p1
  go_loopw [13] (fun i wr => ∃ j : Nat, j ≤ P.funs.length ∧ i = .int .i64 j ∧ fr = faultF P j (P.funs.drop j) ∧ Ext w1 wr) (fun i _ => P.funs.length - (intOf i).toNat)
  case atStart => exact ⟨0, Nat.zero_le _, rfl, HFR.out.symm, Ext.rf _⟩
  case round =>
    obtain ⟨j, hj, rfl, hr, hb⟩ := hrel
    have HR := Lib.hid hr; have HX := Lib.hid hb; have HXW := Lib.hid (HE.out.tr hb)
    clear hr hb
    by_cases hlt : j < P.funs.length
    · obtain ⟨b, o, vp, xa, xc, kf, rfl, hbl, y0, y1, y2, yc, y3, y4, y5⟩ := HF.out.at_ hlt
      have hmem : P.funs[j] ∈ P.funs := List.getElem_mem hlt
      obtain ⟨-, hdep⟩ := prog_fun HPB.out hmem
      have HVL := Lib.hid (prog_scope HPB.out hmem)
      have HPL := Lib.hid ((prog_funs HPB.out).2 _ hmem)
      have HRT := Lib.hid ((RT.small 23 kf _ _ _ 1 y5 hdep).below HXW.out)
      have HRP := Lib.hid (y4.below HXW.out)
      obtain ⟨Ap, cp, rfl, -, -⟩ := y4.form
      obtain ⟨_, ⟨Aa, ca, rfl, -, -⟩, ⟨Bb, cb, rfl, -, -⟩⟩ := y5.form
      have HSTP : Hid (faultF P j (P.funs.drop j) = match tyT P (linkL (P.funs[j]).ps) (linkL []) (P.funs[j]).body with
          | .inl p => some (j, p)
          | .inr y => if y = (P.funs[j]).res then faultF P (j + 1) (P.funs.drop (j + 1)) else some (j, [])) := by
        show _ = _
        rw [List.drop_eq_getElem_cons hlt, faultF]; rfl
      have y0 := HXW.out.keep y0
      have y1 := HXW.out.keep y1
      have y2 := HXW.out.keep y2
      have c0 := HXW.out.keep yc.c0
      have c1 := HXW.out.keep yc.c1
      have c2 := HXW.out.keep yc.c2
      have c3 := HXW.out.keep yc.c3
      have c4 := HXW.out.keep yc.c4
      have c5 := HXW.out.keep yc.c5
      clear yc y4 y5 hdep hmem
      generalize P.funs[j] = f at *
      go_upto_region 4 with fail
      have HE8 := Lib.hid (Ext.al wr (.cells #[.string f.nm, .slice Ap f.ps.length cp, .int .i64 f.res, .int .i64 f.body.op, .int .i64 f.body.n, .string f.body.nm, .int .i64 f.body.ty, .slice Aa f.body.args.length ca, .slice Bb f.body.cls.length cb] 64))
      have HB8 := Lib.hid (heapNew wr (.cells #[.string f.nm, .slice Ap f.ps.length cp, .int .i64 f.res, .int .i64 f.body.op, .int .i64 f.body.n, .string f.body.nm, .int .i64 f.body.ty, .slice Aa f.body.args.length ca, .slice Bb f.body.cls.length cb] 64))
      clear y0 y1 y2 c0 c1 c2 c3 c4 c5
      generalize hg8 : wr.heap.size = g8 at *
      clear hg8
      generalize World.alloc wr _ = w8 at *
      obtain ⟨rx, hrx⟩ : ∃ r, tyT P (linkL f.ps) (linkL []) f.body = r := ⟨_, rfl⟩
      have HRX := Lib.hid hrx
      have HSTP : Hid (faultF P j (P.funs.drop j) = match (generalizing := false) rx with
          | .inl p => some (j, p)
          | .inr y => if y = f.res then faultF P (j + 1) (P.funs.drop (j + 1)) else some (j, [])) := by
        show _ = _
        rw [HSTP.out, hrx]
      clear hrx
      have k1 := cellAt HB8.out 1
      have k3 := cellAt HB8.out 3
      have k4 := cellAt HB8.out 4
      have k5 := cellAt HB8.out 5
      have k6 := cellAt HB8.out 6
      have k7 := cellAt HB8.out 7
      have k8 := cellAt HB8.out 8
      have p0 := (HX.out.tr HE8.out).keep (cellAt HB.out 0)
      have p1 := (HX.out.tr HE8.out).keep (cellAt HB.out 1)
      have HW8 := Lib.hid (HXW.out.tr HE8.out)
      go_wp2_with fail
      clear k1 k3 k4 k5 k6 k7 k8 p0 p1
      (with_reducible refine (typeOf_any P HBP.out HPX.out HSP.out HCP.out 24 _ _ _ _ f.ps [] f.body _ _ w8 (by decide) (by have := HPL.out; omega) (by decide) (HD.out.below HW8.out) (HF.out.below HW8.out) (HRP.out.below HE8.out) (RPrms.nil w8) (HRT.out.below HE8.out) HVL.out).mono ?_)
      rw [HRX.out]
      rintro e w9 ⟨hv, hb⟩
      have HXE := Lib.hid ((HX.out.tr HE8.out).tr hb)
      have HXF := Lib.hid (HW8.out.tr hb)
      have k2 := hb.keep (cellAt HB8.out 2)
      have hs8 := HW8.out.size
      clear hb
      cases rx with
      | inl p =>
        obtain ⟨-, y, vq, rfl, hown⟩ := hv
        have hown := own_base hown hs8
        have HOP := Lib.hid hown
        obtain ⟨Ao, co, rfl⟩ := own_shapeL hown
        have hfn : fr = some (j, p) := by rw [HR.out, HSTP.out]
        have HFN := Lib.hid hfn
        clear hfn hown
        go_wp2
        go_ret3
        rw [HFN.out]
        exact ⟨⟨_, rfl, HOP.out⟩, HXF.out⟩
      | inr y =>
        have hv : e = .returned (.tuple #[.int .i64 y, .slice none 0 0, .bool true]) := hv
        subst hv
        by_cases hy : y = f.res
        · have hq : (y != f.res) = false := by simp [hy]
          have hfn : fr = faultF P (j + 1) (P.funs.drop (j + 1)) := by rw [HR.out, HSTP.out]; simp [hy]
          have HFN := Lib.hid hfn
          clear hfn hy
          go_wp2
          exact ⟨⟨j + 1, by omega, by go_num, HFN.out, HXE.out⟩, by simp [intOf]; omega⟩
        · have hq : (y != f.res) = true := by simp [hy]
          have hfn : fr = some (j, []) := by rw [HR.out, HSTP.out]; simp [hy]
          have HFN := Lib.hid hfn
          clear hfn hy
          go_wp2
          go_ret3
          rw [HFN.out]
          exact ⟨⟨_, rfl, ⟨by simp, .inl ⟨rfl, by simp⟩⟩⟩, HXF.out⟩
    · have hfn : fr = none := by rw [HR.out, List.drop_eq_nil_of_le (by omega)]; rfl
      have HFN := Lib.hid hfn
      clear hfn
      go_wp2
      go_ret3
      rw [HFN.out]
      exact ⟨rfl, HXW.out⟩
end Go.Proofs.YtogmjgccopmplaaGreat

/- law.go: CheckForms. -/
namespace Go.Proofs.YtogmjgccopmplaaGreat
open Go.RowKit

theorem PX.of {P : Pg} (h : progB P = true) : PX P := by
  have hfi := Fine.of (prog_decls h).1
  refine ⟨fun u d x hd hx => by have := hfi.args d (List.mem_of_getElem? hd) x hx; omega, fun u d x hd hc hx => ?_⟩
  have hs := (prog_decls h).2
  unfold srcB at hs
  rw [List.all_eq_true] at hs
  have h1 := hs d (List.mem_of_getElem? hd)
  unfold srcD at h1
  rw [List.all_eq_true] at h1
  have h2 := h1 x hx
  unfold srcX at h2
  rw [if_pos hc] at h2
  cases hx2 : x.args with
  | nil => rw [hx2] at h2; simp [endsB, lastCo] at h2
  | cons a r => simp
theorem fits_short {P : Pg} (h : progB P = true) {t : Tm} (hf : fitsT P t = true) : ∀ c ∈ t.cls, c.1.length ≤ 1000 := fun c hc => by
  have := fits_names (prog_decls h).1 hf c hc
  omega
theorem nil_ints (w : World) : RInts w (.slice none 0 0) [] := own_ints (B := 0) ⟨rfl, .inl ⟨rfl, rfl⟩⟩
theorem eqL_same (p : List Int) : eqL p p = true := (eqL_iff p p).2 rfl

set_option maxHeartbeats 8000000 in
set_option maxRecDepth 100000 in
theorem checkForms_any (P : Pg) (vd vf : Value) (w : World) (hd : RDecls w vd P.decls) (hf : RFns w vf P.funs) :
    Calls Tryz.prog 3 #[pV vd vf] w fun e w' => e = .returned (.bool true) ∧ Ext w w' := by
  have HD := Lib.hid hd; have HF := Lib.hid hf
  obtain ⟨Ad, cd, rfl, hcd, hmd⟩ := hd.form
  obtain ⟨Af, cf, rfl, hcf, hmf⟩ := hf.form
  clear hd hf
  have HE := Lib.hid (Ext.al w (.cells #[.slice Ad P.decls.length cd, .slice Af P.funs.length cf] 25))
  have HBP := Lib.hid (heapNew w (.cells #[.slice Ad P.decls.length cd, .slice Af P.funs.length cf] 25))
  have p0 := cellAt HBP.out 0
  have p1 := cellAt HBP.out 1
  go_enter Tryz.func3, Tryz.ntmps3
  go_wp2_with fail
  generalize w.alloc _ = w1 at *
  clear p0 p1
  (with_reducible refine (FewX_any P _ _ 700 _ (HD.out.below HE.out) (HF.out.below HE.out) (by omega) (by omega)).mono ?_)
  rintro e w2 ⟨rfl, hb⟩
  have HX2 := Lib.hid (HE.out.tr hb)
  have HBP := Lib.hid (((hb).block _ (heap_lt HBP.out)).trans HBP.out)
  clear hb
  have p0 := cellAt HBP.out 0
  have p1 := cellAt HBP.out 1
  cases hq : fewB P 700
  · clear hq
    go_wp2_with fail
    (with_reducible refine (awake_any _).mono ?_)
    rintro e wz ⟨rfl, hb⟩
    have HZ := Lib.hid (HX2.out.tr hb)
    clear hb
    go_wp2
    go_ret
    exact ⟨rfl, HZ.out⟩
  · have HNN : Hid (P.funs.length ≤ 40 ∧ ∀ f ∈ P.funs, nT f.body ≤ 1000000) := by
      unfold fewB at hq
      simp only [Bool.and_eq_true, decide_eq_true_eq, List.all_eq_true] at hq
      exact ⟨hq.1.2, fun f hf => by have := hq.2 f hf; omega⟩
    have HFI : Hid (FinePg P) := fun f hf => fineF_of (HNN.out.2 f hf)
    clear hq
    go_wp2_with fail
    (with_reducible refine (Checkc_any P _ _ _ (HD.out.below HX2.out) (HF.out.below HX2.out) HFI.out).mono ?_)
    rintro e w3 ⟨rfl, hb⟩
    have HX3 := Lib.hid (HX2.out.tr hb)
    have HBP := Lib.hid (((hb).block _ (heap_lt HBP.out)).trans HBP.out)
    clear hb p0 p1
    have p0 := cellAt HBP.out 0
    have p1 := cellAt HBP.out 1
    have HC : Hid (checkR P = if progB P = true then (match faultF P 0 P.funs with | some _ => 40 | none => 0) else 20) := rfl
    have HRF := Lib.hid (refIs_prog P)
    generalize checkR P = cc at *
    go_wp2_with fail
    (with_reducible refine (Fault_any P _ _ _ (HD.out.below HX3.out) (HF.out.below HX3.out) HFI.out).mono ?_)
    rintro e w4 ⟨hr, hb⟩
    have HX4 := Lib.hid (HX3.out.tr hb)
    have HBP := Lib.hid (((hb).block _ (heap_lt HBP.out)).trans HBP.out)
    clear hb p0 p1
    have p0 := cellAt HBP.out 0
    have p1 := cellAt HBP.out 1
    cases hpb : progB P
    · have hcc : cc = 20 := by rw [HC.out, hpb]; rfl
      have hrf : refIs P = false := by rw [HRF.out]; exact hpb
      rw [hpb] at hr
      have hr : e = .returned (.tuple #[.int .i64 0, .slice none 0 0, .bool false, .int .i64 20]) := hr
      subst hr hcc
      have HRI := Lib.hid hrf
      clear hrf hpb
      go_wp2_with fail
      (with_reducible refine (RIs_any P _ _ _ (HD.out.below HX4.out) (HF.out.below HX4.out)).mono ?_)
      rw [HRI.out]
      rintro e w5 ⟨rfl, hb⟩
      have HX5 := Lib.hid (HX4.out.tr hb)
      clear hb p0 p1
      go_wp2_with fail
      (with_reducible refine (awake_any _).mono ?_)
      rintro e wz ⟨rfl, hb⟩
      have HZ := Lib.hid (HX5.out.tr hb)
      clear hb
      go_wp2
      go_ret
      exact ⟨rfl, HZ.out⟩
    · have hrf : refIs P = true := by rw [HRF.out]; exact hpb
      have HRI := Lib.hid hrf
      have HPB := Lib.hid hpb
      rw [hpb, if_pos rfl] at hr
      have HCC : Hid (cc = match faultF P 0 P.funs with | some _ => 40 | none => 0) := by show _ = _; rw [HC.out, if_pos hpb]
      clear hrf hpb HC
      have HBB := Lib.hid (PB.of HPB.out)
      have HPX := Lib.hid (PX.of HPB.out)
      cases hfr : faultF P 0 P.funs with
      | none =>
        rw [hfr] at hr
        have hr : e = .returned (.tuple #[.int .i64 0, .slice none 0 0, .bool false, .int .i64 0]) := hr
        have hcc : cc = 0 := by rw [HCC.out, hfr]
        subst hr hcc
        have HFR := Lib.hid hfr
        clear hfr HCC
        go_wp2_with fail
        (with_reducible refine (RIs_any P _ _ _ (HD.out.below HX4.out) (HF.out.below HX4.out)).mono ?_)
        rw [HRI.out]
        rintro e w5 ⟨rfl, hb⟩
        have HX5 := Lib.hid (HX4.out.tr hb)
        have HBP := Lib.hid (((hb).block _ (heap_lt HBP.out)).trans HBP.out)
        clear hb p0 p1
        have p0 := cellAt HBP.out 0
        have p1 := cellAt HBP.out 1
        go_wp2_with fail
        (with_reducible refine (refFault_any P HBB.out HPX.out (fun t ht => fits_few HPB.out ht) (fun t ht => fits_short HPB.out ht) HPB.out _ _ _ (HD.out.below HX5.out) (HF.out.below HX5.out)).mono ?_)
        rw [HFR.out]
        rintro e w6 ⟨hs, hb⟩
        have hs : e = .returned (.tuple #[.int .i64 0, .slice none 0 0, .bool false]) := hs
        subst hs
        have HX6 := Lib.hid (HX5.out.tr hb)
        clear hb p0 p1
        go_wp2_with fail
        (with_reducible refine (same_ints_any _ _ [] [] _ (nil_ints _) (nil_ints _)).mono ?_)
        rw [eqL_same]
        rintro e w7 ⟨rfl, hb⟩
        have HX7 := Lib.hid (HX6.out.tr hb)
        clear hb
        go_wp2_with fail
        (with_reducible refine (awake_any _).mono ?_)
        rintro e wz ⟨rfl, hb⟩
        have HZ := Lib.hid (HX7.out.tr hb)
        clear hb
        go_wp2
        go_ret
        exact ⟨rfl, HZ.out⟩
      | some ip =>
        obtain ⟨i, p⟩ := ip
        rw [hfr] at hr
        obtain ⟨v, rfl, hv⟩ := hr
        have hcc : cc = 40 := by rw [HCC.out, hfr]
        subst hcc
        have HFR := Lib.hid hfr
        have HV := Lib.hid (own_ints hv)
        obtain ⟨Av, cv, rfl⟩ := own_shapeL hv
        clear hfr HCC hv
        go_wp2_with fail
        (with_reducible refine (RIs_any P _ _ _ (HD.out.below HX4.out) (HF.out.below HX4.out)).mono ?_)
        rw [HRI.out]
        rintro e w5 ⟨rfl, hb⟩
        have HX5 := Lib.hid (HX4.out.tr hb)
        have HV5 := Lib.hid (HV.out.below hb)
        have HBP := Lib.hid (((hb).block _ (heap_lt HBP.out)).trans HBP.out)
        clear hb p0 p1
        have p0 := cellAt HBP.out 0
        have p1 := cellAt HBP.out 1
        go_wp2_with fail
        (with_reducible refine (refFault_any P HBB.out HPX.out (fun t ht => fits_few HPB.out ht) (fun t ht => fits_short HPB.out ht) HPB.out _ _ _ (HD.out.below HX5.out) (HF.out.below HX5.out)).mono ?_)
        rw [HFR.out]
        rintro e w6 ⟨hs, hb⟩
        obtain ⟨v2, rfl, hv2⟩ := hs
        have HV6 := Lib.hid (HV5.out.below hb)
        have HV2 := Lib.hid (own_ints hv2)
        obtain ⟨Au, cu, rfl⟩ := own_shapeL hv2
        have HX6 := Lib.hid (HX5.out.tr hb)
        clear hb p0 p1 hv2
        go_wp2_with fail
        (with_reducible refine (same_ints_any _ _ p p _ HV6.out HV2.out).mono ?_)
        rw [eqL_same]
        rintro e w7 ⟨rfl, hb⟩
        have HX7 := Lib.hid (HX6.out.tr hb)
        clear hb
        go_wp2_with fail
        (with_reducible refine (awake_any _).mono ?_)
        rintro e wz ⟨rfl, hb⟩
        have HZ := Lib.hid (HX7.out.tr hb)
        clear hb
        go_wp2
        go_ret
        exact ⟨rfl, HZ.out⟩
end Go.Proofs.YtogmjgccopmplaaGreat
