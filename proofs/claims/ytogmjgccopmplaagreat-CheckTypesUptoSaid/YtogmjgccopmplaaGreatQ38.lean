/- law.go: CheckTypes. -/
import Derived.Test.YtogmjgccopmplaaGreatQ37
namespace Go.Proofs.YtogmjgccopmplaaGreat
open Go.RowKit
def FYT (vals : Nat → Value) (l1 l2 : List Str) (W : World) (j : Nat) (v : Value) : Prop := (j ≠ 18 ∧ j ≠ 20 → v = vals j) ∧ (j = 18 → RStrs W v l1) ∧ (j = 20 → RStrs W v l2)
theorem FYT.ext {vals : Nat → Value} {l1 l2 : List Str} (W W' : World) (j : Nat) (v : Value) (h : FYT vals l1 l2 W j v) (hb : Ext W W') : FYT vals l1 l2 W' j v := ⟨h.1, fun e => (h.2.1 e).below hb, fun e => (h.2.2 e).below hb⟩
theorem small_nT' {t : Tm} (h : (sizeR t).2 = true) : nT t ≤ 600 := by
  rw [size_small] at h
  simp only [Bool.and_eq_true, decide_eq_true_eq] at h
  omega
set_option pp.deepTerms true in
set_option maxHeartbeats 16000000 in
set_option maxRecDepth 100000 in
theorem checkTypes_any (P : Pg) (vd vf v1 v2 : Value) (l1 l2 : List Prm) (k : Nat) (t : Tm) (va vc : Value) (w : World) (hd : RDecls w vd P.decls) (hf : RFns w vf P.funs) (hfine : FinePg P) (h1 : RPrms w v1 l1) (h2 : RPrms w v2 l2) (ht : RT w k t va vc)
    (hu : uT t ≤ 40000000) (n1 : l1.length ≤ 1050000) (n2 : l2.length ≤ 1050000) :
    Calls Tryz.prog 4 #[pV vd vf, v1, v2, tV t va vc] w fun e w' => e = .returned (.bool true) ∧ Ext w w' := by
  have HD := Lib.hid hd; have HF := Lib.hid hf; have HFI := Lib.hid hfine; have H1 := Lib.hid h1; have H2 := Lib.hid h2; have HT := Lib.hid ht; have HU := Lib.hid hu
  have HFT := Lib.hid (fine_of (Nat.le_trans hu (by decide)))
  have HWT : Hid (wT t ≤ 50000000) := Nat.le_trans (Nat.le_trans (wT_le _ t (Nat.le_refl _)) hu) (by decide)
  have N1 := Lib.hid n1; have N2 := Lib.hid n2
  obtain ⟨Ad, cd, rfl, -, -⟩ := hd.form
  obtain ⟨Af, cf, rfl, -, -⟩ := hf.form
  obtain ⟨A1, c1, rfl, -, -⟩ := h1.form
  obtain ⟨A2, c2, rfl, -, -⟩ := h2.form
  obtain ⟨_, ⟨Aa, ca, rfl, -, -⟩, ⟨Bb, cb, rfl, -, -⟩⟩ := ht.form
  clear hd hf hfine h1 h2 ht hu n1 n2
  have HE0 := Lib.hid (Ext.al w (.cells #[.slice Ad P.decls.length cd, .slice Af P.funs.length cf] 25))
  have HE1 := Lib.hid (Ext.al (w.alloc (.cells #[.slice Ad P.decls.length cd, .slice Af P.funs.length cf] 25)) (.cells #[.int .i64 t.op, .int .i64 t.n, .string t.nm, .int .i64 t.ty, .slice Aa t.args.length ca, .slice Bb t.cls.length cb] 41))
  have HBP0 := Lib.hid (heapNew w (.cells #[.slice Ad P.decls.length cd, .slice Af P.funs.length cf] 25))
  have HBP := Lib.hid ((HE1.out.block _ (heap_lt HBP0.out)).trans HBP0.out)
  have HBT := Lib.hid (box6b w (.cells #[.slice Ad P.decls.length cd, .slice Af P.funs.length cf] 25) (.int .i64 t.op) (.int .i64 t.n) (.string t.nm) (.int .i64 t.ty) (.slice Aa t.args.length ca) (.slice Bb t.cls.length cb))
  have HE : Hid (Ext w _) := Lib.hid (HE0.out.tr HE1.out)
  clear HBP0 HE0 HE1
  have p0 := cellAt HBP.out 0
  have p1 := cellAt HBP.out 1
  have hmx : Tryz.prog.follows .mixedOrders = true := by kernel_rfl
  go_enter Tryz.func4, Tryz.ntmps4
  go_wp2_with fail
  generalize World.alloc (World.alloc w _) _ = w1 at *
  clear p0 p1
  (with_reducible refine (Few_any P _ _ 700 _ (HD.out.below HE.out) (HF.out.below HE.out) (by omega) (by omega)).mono ?_)
  rintro e w2 ⟨q, rfl, hb⟩
  have HX2 := Lib.hid (HE.out.tr hb)
  have HBP := Lib.hid (((hb).block _ (heap_lt HBP.out)).trans HBP.out)
  have HBT := Lib.hid (((hb).block _ (heap_lt HBT.out)).trans HBT.out)
  clear hb
  obtain ⟨t0, t1, t2, t3, t4, t5⟩ := cells6 HBT.out
  cases q
  · go_wp2_with fail
    (with_reducible refine (awake_any _).mono ?_)
    rintro e wz ⟨rfl, hb⟩
    have HZ := Lib.hid (HX2.out.tr hb)
    clear hb
    go_wp2
    go_ret
    exact ⟨rfl, HZ.out⟩
  go_wp2_with fail
  (with_reducible refine (Fits_any k t _ _ 700 _ (HT.out.below HX2.out) (by omega) (by omega)).mono ?_)
  rintro e w3 ⟨q, rfl, hb⟩
  have HX3 := Lib.hid (HX2.out.tr hb)
  have HBP := Lib.hid (((hb).block _ (heap_lt HBP.out)).trans HBP.out)
  have HBT := Lib.hid (((hb).block _ (heap_lt HBT.out)).trans HBT.out)
  clear hb
  clear t0 t1 t2 t3 t4 t5
  cases q
  · go_wp2_with fail
    (with_reducible refine (awake_any _).mono ?_)
    rintro e wz ⟨rfl, hb⟩
    have HZ := Lib.hid (HX3.out.tr hb)
    clear hb
    go_wp2
    go_ret
    exact ⟨rfl, HZ.out⟩
  obtain ⟨t0, t1, t2, t3, t4, t5⟩ := cells6 HBT.out
  have p0 := cellAt HBP.out 0
  have p1 := cellAt HBP.out 1
  go_wp2_with fail
  clear t0 t1 t2 t3 t4 t5 p0 p1
  (with_reducible refine (Typec_any P _ _ _ _ l1 l2 k t _ _ _ (HD.out.below HX3.out) (HF.out.below HX3.out) HFI.out (H1.out.below HX3.out) (H2.out.below HX3.out) (by have := N1.out; omega) (by have := N2.out; omega) (HT.out.below HX3.out) HFT.out (by have := N1.out; have := N2.out; have := HWT.out; unfold maxLen; omega) (by have := HU.out; omega)).mono ?_)
  rintro e w4 ⟨hty, hb⟩
  have HX4 := Lib.hid (HX3.out.tr hb)
  have HBP := Lib.hid (((hb).block _ (heap_lt HBP.out)).trans HBP.out)
  have HBT := Lib.hid (((hb).block _ (heap_lt HBT.out)).trans HBT.out)
  clear hb
  have HTY := Lib.hid hty
  obtain ⟨t0, t1, t2, t3, t4, t5⟩ := cells6 HBT.out
  have p0 := cellAt HBP.out 0
  have p1 := cellAt HBP.out 1
  cases hpb : progB P
  · have hty := HTY.out
    unfold TypeR at hty
    rw [if_pos hpb] at hty
    subst hty
    have HRI : Hid (refIs P = false) := (refIs_prog P).trans hpb
    clear hpb
    go_wp2_with fail
    (with_reducible refine (RIs_any P _ _ _ (HD.out.below HX4.out) (HF.out.below HX4.out)).mono ?_)
    rw [HRI.out]
    rintro e w5 ⟨rfl, hb⟩
    have HX5 := Lib.hid (HX4.out.tr hb)
    clear hb p0 p1
    go_wp2_with fail
    (with_reducible refine (awake_any _).mono ?_)
    rintro e wz ⟨rfl, hb⟩
    have HZ := Lib.hid (HX5.out.tr hb)
    clear hb
    go_wp2
    go_ret
    exact ⟨rfl, HZ.out⟩
  have HPB := Lib.hid hpb
  have HRI : Hid (refIs P = true) := (refIs_prog P).trans hpb
  clear hpb
  by_cases hgq : GoodQ P l1 l2 t
  · have hty2 := hty.link hgq
    obtain ⟨rx, hrx⟩ : ∃ r, tyT P (linkL l1) (linkL l2) t = r := ⟨_, rfl⟩
    rw [hrx] at hty2
    have HRX := Lib.hid hrx
    have HGQ := Lib.hid hgq
    have HG1 : Hid (haveL P l1 = true) := hgq.hv
    have HG2 : Hid (haveL P l2 = true) := hgq.hl
    have HG3 : Hid ((sizeR t).2 = true) := hgq.size
    have HG4 : Hid (validT P (hasS (l1.map Prm.nm)) (hasS (l2.map Prm.nm)) t = true) := hgq.valid
    have HNT := Lib.hid (small_nT' hgq.size)
    have HR24 := Lib.hid (RT.small 23 k _ _ _ 1 HT.out (size_depth hgq.size))
    clear hgq hrx
    cases rx with
    | inr y =>
      have hty2 : e = .returned (.tuple #[.int .i64 y, .int .i64 0]) := hty2
      subst hty2
      go_wp2_with fail
      (with_reducible refine (RIs_any P _ _ _ (HD.out.below HX4.out) (HF.out.below HX4.out)).mono ?_)
      rw [HRI.out]
      rintro e w5 ⟨rfl, hb⟩
      have HX5 := Lib.hid (HX4.out.tr hb)
      have HBP := Lib.hid (((hb).block _ (heap_lt HBP.out)).trans HBP.out)
      have HBT := Lib.hid (((hb).block _ (heap_lt HBT.out)).trans HBT.out)
      clear hb p0 p1 t0 t1 t2 t3 t4 t5
      go_upto_region 6 with fail
      obtain ⟨vals, hvals⟩ : ∃ vals : Nat → Value, vals = fun kk => if kk = 0 then pV (.slice Ad P.decls.length cd) (.slice Af P.funs.length cf) else if kk = 1 then .slice A1 l1.length c1 else if kk = 2 then .bool true else if kk = 3 then .bool false else if kk = 4 then .bool false else if kk = 5 then pV (.slice Ad P.decls.length cd) (.slice Af P.funs.length cf) else if kk = 6 then .slice A2 l2.length c2 else if kk = 7 then .bool true else if kk = 8 then .bool false else if kk = 9 then .bool false else if kk = 10 then .bool false else if kk = 11 then tV t (.slice Aa t.args.length ca) (.slice Bb t.cls.length cb) else if kk = 12 then .bool true else if kk = 13 then .bool false else if kk = 14 then .bool false else if kk = 15 then .bool false else if kk = 16 then pV (.slice Ad P.decls.length cd) (.slice Af P.funs.length cf) else if kk = 17 then .slice A1 l1.length c1 else if kk = 19 then .slice A2 l2.length c2 else if kk = 21 then tV t (.slice Aa t.args.length ca) (.slice Bb t.cls.length cb) else if kk = 22 then .bool true else if kk = 23 then .bool false else if kk = 24 then .bool false else undef := ⟨_, rfl⟩
      have HV0 : Hid (vals 0 = pV (.slice Ad P.decls.length cd) (.slice Af P.funs.length cf)) := by show _ = _; rw [hvals]; rfl
      have HV1 : Hid (vals 1 = .slice A1 l1.length c1) := by show _ = _; rw [hvals]; rfl
      have HV2 : Hid (vals 2 = .bool true) := by show _ = _; rw [hvals]; rfl
      have HV3 : Hid (vals 3 = .bool false) := by show _ = _; rw [hvals]; rfl
      have HV4 : Hid (vals 4 = .bool false) := by show _ = _; rw [hvals]; rfl
      have HV5 : Hid (vals 5 = pV (.slice Ad P.decls.length cd) (.slice Af P.funs.length cf)) := by show _ = _; rw [hvals]; rfl
      have HV6 : Hid (vals 6 = .slice A2 l2.length c2) := by show _ = _; rw [hvals]; rfl
      have HV7 : Hid (vals 7 = .bool true) := by show _ = _; rw [hvals]; rfl
      have HV8 : Hid (vals 8 = .bool false) := by show _ = _; rw [hvals]; rfl
      have HV9 : Hid (vals 9 = .bool false) := by show _ = _; rw [hvals]; rfl
      have HV10 : Hid (vals 10 = .bool false) := by show _ = _; rw [hvals]; rfl
      have HV11 : Hid (vals 11 = tV t (.slice Aa t.args.length ca) (.slice Bb t.cls.length cb)) := by show _ = _; rw [hvals]; rfl
      have HV12 : Hid (vals 12 = .bool true) := by show _ = _; rw [hvals]; rfl
      have HV13 : Hid (vals 13 = .bool false) := by show _ = _; rw [hvals]; rfl
      have HV14 : Hid (vals 14 = .bool false) := by show _ = _; rw [hvals]; rfl
      have HV15 : Hid (vals 15 = .bool false) := by show _ = _; rw [hvals]; rfl
      have HV16 : Hid (vals 16 = pV (.slice Ad P.decls.length cd) (.slice Af P.funs.length cf)) := by show _ = _; rw [hvals]; rfl
      have HV17 : Hid (vals 17 = .slice A1 l1.length c1) := by show _ = _; rw [hvals]; rfl
      have HV19 : Hid (vals 19 = .slice A2 l2.length c2) := by show _ = _; rw [hvals]; rfl
      have HV21 : Hid (vals 21 = tV t (.slice Aa t.args.length ca) (.slice Bb t.cls.length cb)) := by show _ = _; rw [hvals]; rfl
      have HV22 : Hid (vals 22 = .bool true) := by show _ = _; rw [hvals]; rfl
      have HV23 : Hid (vals 23 = .bool false) := by show _ = _; rw [hvals]; rfl
      have HV24 : Hid (vals 24 = .bool false) := by show _ = _; rw [hvals]; rfl
      clear hvals
      refine wp_region_invCE hmx (by kernel_rfl) (fun Ls a W => ∃ vv : Nat → Value, a = { tmps := #[pV (.slice Ad P.decls.length cd) (.slice Af P.funs.length cf), .slice A1 l1.length c1, .slice A2 l2.length c2, tV t (.slice Aa t.args.length ca) (.slice Bb t.cls.length cb), .pointer (some ⟨w.heap.size, 0, none⟩), undef, undef, .pointer (some ⟨w.heap.size + 1, 0, none⟩), .bool false, .int .i64 y, .int .i64 0, undef, undef, .agg #[.slice Ad P.decls.length cd, .slice Af P.funs.length cf], .bool true, .bool false, .bool false, .agg #[.int .i64 t.op, .int .i64 t.n, .string t.nm, .int .i64 t.ty, .slice Aa t.args.length ca, .slice Bb t.cls.length cb], .bool true, .bool false, .bool false, undef, .tuple #[.int .i64 y, .int .i64 0], .agg #[.slice Ad P.decls.length cd, .slice Af P.funs.length cf], .slice A1 l1.length c1, .slice A2 l2.length c2, .agg #[.int .i64 t.op, .int .i64 t.n, .string t.nm, .int .i64 t.ty, .slice Aa t.args.length ca, .slice Bb t.cls.length cb], .tuple #[.int .i64 y, .int .i64 0], .int .i64 y, .int .i64 0, .agg #[.slice Ad P.decls.length cd, .slice Af P.funs.length cf], .bool true, .bool false, undef, undef, undef, undef, undef, undef, undef, undef, undef, vv 0, vv 1, vv 2, vv 3, vv 4, vv 5, vv 6, vv 7, vv 8, vv 9, vv 10, vv 11, vv 12, vv 13, vv 14, vv 15, vv 16, vv 17, vv 18, vv 19, vv 20, vv 21, vv 22, vv 23, vv 24, undef, undef, undef, undef, undef, undef, undef, undef, undef, undef, undef, undef, undef, undef, undef, undef, undef, undef, undef, undef, undef, undef, undef, undef, undef, undef, undef, undef, undef, undef, undef, undef, undef, undef, undef, undef, undef, undef], defers := [] } ∧ PhA w5 (FYT vals (l1.map Prm.nm) (l2.map Prm.nm)) 25 Ls W vv) ?_ ?_ ?_
      · exact ⟨fun _ => undef, rfl, PhA.zero _ _ _ _⟩
      · intro Ls a W i op ho hpre hl hc hI Kk HKk
        have hi : i < 25 := (Array.getElem?_eq_some_iff.1 ho).1
        obtain ⟨vv, rfl, hI⟩ := hI
        have HPA := Lib.hid hI
        have hcs : i = 0 ∨ i = 1 ∨ i = 2 ∨ i = 3 ∨ i = 4 ∨ i = 5 ∨ i = 6 ∨ i = 7 ∨ i = 8 ∨ i = 9 ∨ i = 10 ∨ i = 11 ∨ i = 12 ∨ i = 13 ∨ i = 14 ∨ i = 15 ∨ i = 16 ∨ i = 17 ∨ i = 18 ∨ i = 19 ∨ i = 20 ∨ i = 21 ∨ i = 22 ∨ i = 23 ∨ i = 24 := by omega
        rcases hcs with rfl | rfl | rfl | rfl | rfl | rfl | rfl | rfl | rfl | rfl | rfl | rfl | rfl | rfl | rfl | rfl | rfl | rfl | rfl | rfl | rfl | rfl | rfl | rfl | rfl
        all_goals
          obtain rfl := Option.some.inj ho
          clear ho hi hI hc
        · clear hpre
          have p0 := HPA.out.ext.keep (cellAt HBP.out 0)
          have p1 := HPA.out.ext.keep (cellAt HBP.out 1)
          go_simp
          exact HKk.out _ _ ⟨_, rfl, HPA.out.put (v := pV (.slice Ad P.decls.length cd) (.slice Af P.funs.length cf)) FYT.ext (by decide) (Ext.rf _) ⟨fun _ => HV0.out.symm, fun h => absurd h (by decide), fun h => absurd h (by decide)⟩⟩
        · clear hpre
          go_simp
          exact HKk.out _ _ ⟨_, rfl, HPA.out.put (v := .slice A1 l1.length c1) FYT.ext (by decide) (Ext.rf _) ⟨fun _ => HV1.out.symm, fun h => absurd h (by decide), fun h => absurd h (by decide)⟩⟩
        · simp [Region.binds] at hpre
          have e0 : vv 0 = _ := (HPA.out.facts 0 (by decide) (by simp [hpre])).1 (by decide)
          rw [HV0.out] at e0
          have e1 : vv 1 = _ := (HPA.out.facts 1 (by decide) (by simp [hpre])).1 (by decide)
          rw [HV1.out] at e1
          go_simp
          (refine (law_have_any P _ _ _ l1 W (HD.out.below (HX5.out.tr HPA.out.ext)) ⟨_, _, _, rfl⟩ (H1.out.below (HX5.out.tr HPA.out.ext))).mono ?_)
          rw [HG1.out]
          rintro e W' ⟨rfl, hb⟩
          exact HKk.out _ _ ⟨_, by simp [e0, e1], HPA.out.put (v := .bool true) FYT.ext (by decide) hb ⟨fun _ => HV2.out.symm, fun h => absurd h (by decide), fun h => absurd h (by decide)⟩⟩
        · simp [Region.binds] at hpre
          have e2 : vv 2 = _ := (HPA.out.facts 2 (by decide) (by simp [hpre])).1 (by decide)
          rw [HV2.out] at e2
          go_simp
          exact HKk.out _ _ ⟨_, by simp [e2], HPA.out.put (v := .bool false) FYT.ext (by decide) (Ext.rf _) ⟨fun _ => HV3.out.symm, fun h => absurd h (by decide), fun h => absurd h (by decide)⟩⟩
        · simp [Region.binds] at hpre
          have e3 : vv 3 = _ := (HPA.out.facts 3 (by decide) (by simp [hpre])).1 (by decide)
          rw [HV3.out] at e3
          go_simp
          exact HKk.out _ _ ⟨_, by simp [e3], HPA.out.put (v := .bool false) FYT.ext (by decide) (Ext.rf _) ⟨fun _ => HV4.out.symm, fun h => absurd h (by decide), fun h => absurd h (by decide)⟩⟩
        · simp [Region.binds] at hpre
          have e4 : vv 4 = _ := (HPA.out.facts 4 (by decide) (by simp [hpre])).1 (by decide)
          rw [HV4.out] at e4
          have p0 := HPA.out.ext.keep (cellAt HBP.out 0)
          have p1 := HPA.out.ext.keep (cellAt HBP.out 1)
          go_simp
          exact HKk.out _ _ ⟨_, by simp [e4], HPA.out.put (v := pV (.slice Ad P.decls.length cd) (.slice Af P.funs.length cf)) FYT.ext (by decide) (Ext.rf _) ⟨fun _ => HV5.out.symm, fun h => absurd h (by decide), fun h => absurd h (by decide)⟩⟩
        · simp [Region.binds] at hpre
          have e4 : vv 4 = _ := (HPA.out.facts 4 (by decide) (by simp [hpre])).1 (by decide)
          rw [HV4.out] at e4
          go_simp
          exact HKk.out _ _ ⟨_, by simp [e4], HPA.out.put (v := .slice A2 l2.length c2) FYT.ext (by decide) (Ext.rf _) ⟨fun _ => HV6.out.symm, fun h => absurd h (by decide), fun h => absurd h (by decide)⟩⟩
        · simp [Region.binds] at hpre
          have e5 : vv 5 = _ := (HPA.out.facts 5 (by decide) (by simp [hpre])).1 (by decide)
          rw [HV5.out] at e5
          have e6 : vv 6 = _ := (HPA.out.facts 6 (by decide) (by simp [hpre])).1 (by decide)
          rw [HV6.out] at e6
          have e4 : vv 4 = _ := (HPA.out.facts 4 (by decide) (by simp [hpre])).1 (by decide)
          rw [HV4.out] at e4
          go_simp
          (refine (law_have_any P _ _ _ l2 W (HD.out.below (HX5.out.tr HPA.out.ext)) ⟨_, _, _, rfl⟩ (H2.out.below (HX5.out.tr HPA.out.ext))).mono ?_)
          rw [HG2.out]
          rintro e W' ⟨rfl, hb⟩
          exact HKk.out _ _ ⟨_, by simp [e5, e6, e4], HPA.out.put (v := .bool true) FYT.ext (by decide) hb ⟨fun _ => HV7.out.symm, fun h => absurd h (by decide), fun h => absurd h (by decide)⟩⟩
        · simp [Region.binds] at hpre
          have e7 : vv 7 = _ := (HPA.out.facts 7 (by decide) (by simp [hpre])).1 (by decide)
          rw [HV7.out] at e7
          have e4 : vv 4 = _ := (HPA.out.facts 4 (by decide) (by simp [hpre])).1 (by decide)
          rw [HV4.out] at e4
          go_simp
          exact HKk.out _ _ ⟨_, by simp [e7, e4], HPA.out.put (v := .bool false) FYT.ext (by decide) (Ext.rf _) ⟨fun _ => HV8.out.symm, fun h => absurd h (by decide), fun h => absurd h (by decide)⟩⟩
        · simp [Region.binds] at hpre
          have e4 : vv 4 = _ := (HPA.out.facts 4 (by decide) (by simp [hpre])).1 (by decide)
          rw [HV4.out] at e4
          have e8 : vv 8 = _ := (HPA.out.facts 8 (by decide) (by simp [hpre])).1 (by decide)
          rw [HV8.out] at e8
          go_simp
          exact HKk.out _ _ ⟨_, by simp [e4, e8], HPA.out.put (v := .bool false) FYT.ext (by decide) (Ext.rf _) ⟨fun _ => HV9.out.symm, fun h => absurd h (by decide), fun h => absurd h (by decide)⟩⟩
        · simp [Region.binds] at hpre
          have e9 : vv 9 = _ := (HPA.out.facts 9 (by decide) (by simp [hpre])).1 (by decide)
          rw [HV9.out] at e9
          go_simp
          exact HKk.out _ _ ⟨_, by simp [e9], HPA.out.put (v := .bool false) FYT.ext (by decide) (Ext.rf _) ⟨fun _ => HV10.out.symm, fun h => absurd h (by decide), fun h => absurd h (by decide)⟩⟩
        · simp [Region.binds] at hpre
          have e10 : vv 10 = _ := (HPA.out.facts 10 (by decide) (by simp [hpre])).1 (by decide)
          rw [HV10.out] at e10
          have t0 := HPA.out.ext.keep (cellAt HBT.out 0)
          have t1 := HPA.out.ext.keep (cellAt HBT.out 1)
          have t2 := HPA.out.ext.keep (cellAt HBT.out 2)
          have t3 := HPA.out.ext.keep (cellAt HBT.out 3)
          have t4 := HPA.out.ext.keep (cellAt HBT.out 4)
          have t5 := HPA.out.ext.keep (cellAt HBT.out 5)
          go_simp
          exact HKk.out _ _ ⟨_, by simp [e10], HPA.out.put (v := tV t (.slice Aa t.args.length ca) (.slice Bb t.cls.length cb)) FYT.ext (by decide) (Ext.rf _) ⟨fun _ => HV11.out.symm, fun h => absurd h (by decide), fun h => absurd h (by decide)⟩⟩
        · simp [Region.binds] at hpre
          have e11 : vv 11 = _ := (HPA.out.facts 11 (by decide) (by simp [hpre])).1 (by decide)
          rw [HV11.out] at e11
          have e10 : vv 10 = _ := (HPA.out.facts 10 (by decide) (by simp [hpre])).1 (by decide)
          rw [HV10.out] at e10
          go_simp
          (refine (RSmall_any k t _ _ W (HT.out.below (HX5.out.tr HPA.out.ext))).mono ?_)
          rw [HG3.out]
          rintro e W' ⟨rfl, hb⟩
          exact HKk.out _ _ ⟨_, by simp [e11, e10], HPA.out.put (v := .bool true) FYT.ext (by decide) hb ⟨fun _ => HV12.out.symm, fun h => absurd h (by decide), fun h => absurd h (by decide)⟩⟩
        · simp [Region.binds] at hpre
          have e12 : vv 12 = _ := (HPA.out.facts 12 (by decide) (by simp [hpre])).1 (by decide)
          rw [HV12.out] at e12
          have e10 : vv 10 = _ := (HPA.out.facts 10 (by decide) (by simp [hpre])).1 (by decide)
          rw [HV10.out] at e10
          go_simp
          exact HKk.out _ _ ⟨_, by simp [e12, e10], HPA.out.put (v := .bool false) FYT.ext (by decide) (Ext.rf _) ⟨fun _ => HV13.out.symm, fun h => absurd h (by decide), fun h => absurd h (by decide)⟩⟩
        · simp [Region.binds] at hpre
          have e10 : vv 10 = _ := (HPA.out.facts 10 (by decide) (by simp [hpre])).1 (by decide)
          rw [HV10.out] at e10
          have e13 : vv 13 = _ := (HPA.out.facts 13 (by decide) (by simp [hpre])).1 (by decide)
          rw [HV13.out] at e13
          go_simp
          exact HKk.out _ _ ⟨_, by simp [e10, e13], HPA.out.put (v := .bool false) FYT.ext (by decide) (Ext.rf _) ⟨fun _ => HV14.out.symm, fun h => absurd h (by decide), fun h => absurd h (by decide)⟩⟩
        · simp [Region.binds] at hpre
          have e14 : vv 14 = _ := (HPA.out.facts 14 (by decide) (by simp [hpre])).1 (by decide)
          rw [HV14.out] at e14
          go_simp
          exact HKk.out _ _ ⟨_, by simp [e14], HPA.out.put (v := .bool false) FYT.ext (by decide) (Ext.rf _) ⟨fun _ => HV15.out.symm, fun h => absurd h (by decide), fun h => absurd h (by decide)⟩⟩
        · simp [Region.binds] at hpre
          have e15 : vv 15 = _ := (HPA.out.facts 15 (by decide) (by simp [hpre])).1 (by decide)
          rw [HV15.out] at e15
          have p0 := HPA.out.ext.keep (cellAt HBP.out 0)
          have p1 := HPA.out.ext.keep (cellAt HBP.out 1)
          go_simp
          exact HKk.out _ _ ⟨_, by simp [e15], HPA.out.put (v := pV (.slice Ad P.decls.length cd) (.slice Af P.funs.length cf)) FYT.ext (by decide) (Ext.rf _) ⟨fun _ => HV16.out.symm, fun h => absurd h (by decide), fun h => absurd h (by decide)⟩⟩
        · simp [Region.binds] at hpre
          have e15 : vv 15 = _ := (HPA.out.facts 15 (by decide) (by simp [hpre])).1 (by decide)
          rw [HV15.out] at e15
          go_simp
          exact HKk.out _ _ ⟨_, by simp [e15], HPA.out.put (v := .slice A1 l1.length c1) FYT.ext (by decide) (Ext.rf _) ⟨fun _ => HV17.out.symm, fun h => absurd h (by decide), fun h => absurd h (by decide)⟩⟩
        · simp [Region.binds] at hpre
          have e17 : vv 17 = _ := (HPA.out.facts 17 (by decide) (by simp [hpre])).1 (by decide)
          rw [HV17.out] at e17
          have e15 : vv 15 = _ := (HPA.out.facts 15 (by decide) (by simp [hpre])).1 (by decide)
          rw [HV15.out] at e15
          go_simp
          (refine (ParamsB_any _ l1 W (H1.out.below (HX5.out.tr HPA.out.ext)) (by have := N1.out; omega)).mono ?_)
          rintro e W' ⟨v', rfl, hs, hb⟩
          exact HKk.out _ _ ⟨_, by simp [e17, e15], HPA.out.put (v := v') FYT.ext (by decide) hb ⟨fun h => absurd h (by decide), fun _ => hs, fun h => absurd h (by decide)⟩⟩
        · simp [Region.binds] at hpre
          have e15 : vv 15 = _ := (HPA.out.facts 15 (by decide) (by simp [hpre])).1 (by decide)
          rw [HV15.out] at e15
          go_simp
          exact HKk.out _ _ ⟨_, by simp [e15], HPA.out.put (v := .slice A2 l2.length c2) FYT.ext (by decide) (Ext.rf _) ⟨fun _ => HV19.out.symm, fun h => absurd h (by decide), fun h => absurd h (by decide)⟩⟩
        · simp [Region.binds] at hpre
          have e19 : vv 19 = _ := (HPA.out.facts 19 (by decide) (by simp [hpre])).1 (by decide)
          rw [HV19.out] at e19
          have e15 : vv 15 = _ := (HPA.out.facts 15 (by decide) (by simp [hpre])).1 (by decide)
          rw [HV15.out] at e15
          go_simp
          (refine (ParamsB_any _ l2 W (H2.out.below (HX5.out.tr HPA.out.ext)) (by have := N2.out; omega)).mono ?_)
          rintro e W' ⟨v', rfl, hs, hb⟩
          exact HKk.out _ _ ⟨_, by simp [e19, e15], HPA.out.put (v := v') FYT.ext (by decide) hb ⟨fun h => absurd h (by decide), fun h => absurd h (by decide), fun _ => hs⟩⟩
        · simp [Region.binds] at hpre
          have e15 : vv 15 = _ := (HPA.out.facts 15 (by decide) (by simp [hpre])).1 (by decide)
          rw [HV15.out] at e15
          have t0 := HPA.out.ext.keep (cellAt HBT.out 0)
          have t1 := HPA.out.ext.keep (cellAt HBT.out 1)
          have t2 := HPA.out.ext.keep (cellAt HBT.out 2)
          have t3 := HPA.out.ext.keep (cellAt HBT.out 3)
          have t4 := HPA.out.ext.keep (cellAt HBT.out 4)
          have t5 := HPA.out.ext.keep (cellAt HBT.out 5)
          go_simp
          exact HKk.out _ _ ⟨_, by simp [e15], HPA.out.put (v := tV t (.slice Aa t.args.length ca) (.slice Bb t.cls.length cb)) FYT.ext (by decide) (Ext.rf _) ⟨fun _ => HV21.out.symm, fun h => absurd h (by decide), fun h => absurd h (by decide)⟩⟩
        · simp [Region.binds] at hpre
          have e16 : vv 16 = _ := (HPA.out.facts 16 (by decide) (by simp [hpre])).1 (by decide)
          rw [HV16.out] at e16
          have e21 : vv 21 = _ := (HPA.out.facts 21 (by decide) (by simp [hpre])).1 (by decide)
          rw [HV21.out] at e21
          have e15 : vv 15 = _ := (HPA.out.facts 15 (by decide) (by simp [hpre])).1 (by decide)
          rw [HV15.out] at e15
          go_simp
          have s18 := (HPA.out.facts 18 (by decide) (by simp [hpre])).2.1 rfl
          have s20 := (HPA.out.facts 20 (by decide) (by simp [hpre])).2.2 rfl
          (refine (RValid_any P _ _ (prog_decls HPB.out).1 (prog_decls HPB.out).2 k t _ _ _ _ (l1.map Prm.nm) (l2.map Prm.nm) W (HD.out.below (HX5.out.tr HPA.out.ext)) (HF.out.below (HX5.out.tr HPA.out.ext)) s18 s20 (HT.out.below (HX5.out.tr HPA.out.ext)) (by rw [List.length_map]; have := N1.out; have := HNT.out; omega) (by rw [List.length_map]; have := N2.out; have := HNT.out; omega)).mono ?_)
          rw [HG4.out]
          rintro e W' ⟨rfl, hb⟩
          exact HKk.out _ _ ⟨_, by simp [e16, e21, e15], HPA.out.put (v := .bool true) FYT.ext (by decide) hb ⟨fun _ => HV22.out.symm, fun h => absurd h (by decide), fun h => absurd h (by decide)⟩⟩
        · simp [Region.binds] at hpre
          have e22 : vv 22 = _ := (HPA.out.facts 22 (by decide) (by simp [hpre])).1 (by decide)
          rw [HV22.out] at e22
          have e15 : vv 15 = _ := (HPA.out.facts 15 (by decide) (by simp [hpre])).1 (by decide)
          rw [HV15.out] at e15
          go_simp
          exact HKk.out _ _ ⟨_, by simp [e22, e15], HPA.out.put (v := .bool false) FYT.ext (by decide) (Ext.rf _) ⟨fun _ => HV23.out.symm, fun h => absurd h (by decide), fun h => absurd h (by decide)⟩⟩
        · simp [Region.binds] at hpre
          have e15 : vv 15 = _ := (HPA.out.facts 15 (by decide) (by simp [hpre])).1 (by decide)
          rw [HV15.out] at e15
          have e23 : vv 23 = _ := (HPA.out.facts 23 (by decide) (by simp [hpre])).1 (by decide)
          rw [HV23.out] at e23
          go_simp
          exact HKk.out _ _ ⟨_, by simp [e15, e23], HPA.out.put (v := .bool false) FYT.ext (by decide) (Ext.rf _) ⟨fun _ => HV24.out.symm, fun h => absurd h (by decide), fun h => absurd h (by decide)⟩⟩
      · intro Ls a W hall hI
        obtain ⟨vv, rfl, hI⟩ := hI
        have e24 : vv 24 = _ := (hI.facts 24 (by decide) (hall 24 (by decide))).1 (by decide)
        rw [HV24.out] at e24
        have HX9 := Lib.hid (HX5.out.tr hI.ext)
        have HXB := Lib.hid hI.ext
        clear hI hall
        generalize vv 0 = x0 at *
        generalize vv 1 = x1 at *
        generalize vv 2 = x2 at *
        generalize vv 3 = x3 at *
        generalize vv 4 = x4 at *
        generalize vv 5 = x5 at *
        generalize vv 6 = x6 at *
        generalize vv 7 = x7 at *
        generalize vv 8 = x8 at *
        generalize vv 9 = x9 at *
        generalize vv 10 = x10 at *
        generalize vv 11 = x11 at *
        generalize vv 12 = x12 at *
        generalize vv 13 = x13 at *
        generalize vv 14 = x14 at *
        generalize vv 15 = x15 at *
        generalize vv 16 = x16 at *
        generalize vv 17 = x17 at *
        generalize vv 18 = x18 at *
        generalize vv 19 = x19 at *
        generalize vv 20 = x20 at *
        generalize vv 21 = x21 at *
        generalize vv 22 = x22 at *
        generalize vv 23 = x23 at *
        generalize vv 24 = x24 at *
        subst e24
        have t0 := HXB.out.keep (cellAt HBT.out 0)
        have t1 := HXB.out.keep (cellAt HBT.out 1)
        have t2 := HXB.out.keep (cellAt HBT.out 2)
        have t3 := HXB.out.keep (cellAt HBT.out 3)
        have t4 := HXB.out.keep (cellAt HBT.out 4)
        have t5 := HXB.out.keep (cellAt HBT.out 5)
        have p0 := HXB.out.keep (cellAt HBP.out 0)
        have p1 := HXB.out.keep (cellAt HBP.out 1)
        go_wp2_with fail
        (with_reducible refine (refType_any P (PB.of HPB.out) (PX.of HPB.out) (fun t ht => fits_few HPB.out ht) (fun t ht => fits_short HPB.out ht) 24 _ _ _ _ l1 l2 t _ _ W (by decide) (by have := N1.out; omega) (by have := N2.out; omega) (HD.out.below HX9.out) (HF.out.below HX9.out) (H1.out.below HX9.out) (H2.out.below HX9.out) (HR24.out.below HX9.out) HGQ.out.scope).mono ?_)
        rw [HRX.out]
        rintro e w6 ⟨hr, hb⟩
        have hr : e = .returned (.tuple #[.int .i64 y, .bool true]) := hr
        subst hr
        have HX9 := Lib.hid (HX9.out.tr hb)
        clear hb t0 t1 t2 t3 t4 t5 p0 p1
        go_wp2_with fail
        (with_reducible refine (awake_any _).mono ?_)
        rintro e wz ⟨rfl, hb⟩
        have HZ := Lib.hid (HX9.out.tr hb)
        clear hb
        go_wp2
        go_ret
        exact ⟨rfl, HZ.out⟩
    | inl p =>
      have hty2 : e = .returned (.tuple #[.int .i64 0, .int .i64 40]) := hty2
      subst hty2
      go_wp2_with fail
      (with_reducible refine (RIs_any P _ _ _ (HD.out.below HX4.out) (HF.out.below HX4.out)).mono ?_)
      rw [HRI.out]
      rintro e w5 ⟨rfl, hb⟩
      have HX5 := Lib.hid (HX4.out.tr hb)
      have HBP := Lib.hid (((hb).block _ (heap_lt HBP.out)).trans HBP.out)
      have HBT := Lib.hid (((hb).block _ (heap_lt HBT.out)).trans HBT.out)
      clear hb p0 p1 t0 t1 t2 t3 t4 t5
      go_upto_region 6 with fail
      obtain ⟨vals, hvals⟩ : ∃ vals : Nat → Value, vals = fun kk => if kk = 0 then pV (.slice Ad P.decls.length cd) (.slice Af P.funs.length cf) else if kk = 1 then .slice A1 l1.length c1 else if kk = 2 then .bool true else if kk = 3 then .bool false else if kk = 4 then .bool false else if kk = 5 then pV (.slice Ad P.decls.length cd) (.slice Af P.funs.length cf) else if kk = 6 then .slice A2 l2.length c2 else if kk = 7 then .bool true else if kk = 8 then .bool false else if kk = 9 then .bool false else if kk = 10 then .bool false else if kk = 11 then tV t (.slice Aa t.args.length ca) (.slice Bb t.cls.length cb) else if kk = 12 then .bool true else if kk = 13 then .bool false else if kk = 14 then .bool false else if kk = 15 then .bool false else if kk = 16 then pV (.slice Ad P.decls.length cd) (.slice Af P.funs.length cf) else if kk = 17 then .slice A1 l1.length c1 else if kk = 19 then .slice A2 l2.length c2 else if kk = 21 then tV t (.slice Aa t.args.length ca) (.slice Bb t.cls.length cb) else if kk = 22 then .bool true else if kk = 23 then .bool false else if kk = 24 then .bool false else undef := ⟨_, rfl⟩
      have HV0 : Hid (vals 0 = pV (.slice Ad P.decls.length cd) (.slice Af P.funs.length cf)) := by show _ = _; rw [hvals]; rfl
      have HV1 : Hid (vals 1 = .slice A1 l1.length c1) := by show _ = _; rw [hvals]; rfl
      have HV2 : Hid (vals 2 = .bool true) := by show _ = _; rw [hvals]; rfl
      have HV3 : Hid (vals 3 = .bool false) := by show _ = _; rw [hvals]; rfl
      have HV4 : Hid (vals 4 = .bool false) := by show _ = _; rw [hvals]; rfl
      have HV5 : Hid (vals 5 = pV (.slice Ad P.decls.length cd) (.slice Af P.funs.length cf)) := by show _ = _; rw [hvals]; rfl
      have HV6 : Hid (vals 6 = .slice A2 l2.length c2) := by show _ = _; rw [hvals]; rfl
      have HV7 : Hid (vals 7 = .bool true) := by show _ = _; rw [hvals]; rfl
      have HV8 : Hid (vals 8 = .bool false) := by show _ = _; rw [hvals]; rfl
      have HV9 : Hid (vals 9 = .bool false) := by show _ = _; rw [hvals]; rfl
      have HV10 : Hid (vals 10 = .bool false) := by show _ = _; rw [hvals]; rfl
      have HV11 : Hid (vals 11 = tV t (.slice Aa t.args.length ca) (.slice Bb t.cls.length cb)) := by show _ = _; rw [hvals]; rfl
      have HV12 : Hid (vals 12 = .bool true) := by show _ = _; rw [hvals]; rfl
      have HV13 : Hid (vals 13 = .bool false) := by show _ = _; rw [hvals]; rfl
      have HV14 : Hid (vals 14 = .bool false) := by show _ = _; rw [hvals]; rfl
      have HV15 : Hid (vals 15 = .bool false) := by show _ = _; rw [hvals]; rfl
      have HV16 : Hid (vals 16 = pV (.slice Ad P.decls.length cd) (.slice Af P.funs.length cf)) := by show _ = _; rw [hvals]; rfl
      have HV17 : Hid (vals 17 = .slice A1 l1.length c1) := by show _ = _; rw [hvals]; rfl
      have HV19 : Hid (vals 19 = .slice A2 l2.length c2) := by show _ = _; rw [hvals]; rfl
      have HV21 : Hid (vals 21 = tV t (.slice Aa t.args.length ca) (.slice Bb t.cls.length cb)) := by show _ = _; rw [hvals]; rfl
      have HV22 : Hid (vals 22 = .bool true) := by show _ = _; rw [hvals]; rfl
      have HV23 : Hid (vals 23 = .bool false) := by show _ = _; rw [hvals]; rfl
      have HV24 : Hid (vals 24 = .bool false) := by show _ = _; rw [hvals]; rfl
      clear hvals
      refine wp_region_invCE hmx (by kernel_rfl) (fun Ls a W => ∃ vv : Nat → Value, a = { tmps := #[pV (.slice Ad P.decls.length cd) (.slice Af P.funs.length cf), .slice A1 l1.length c1, .slice A2 l2.length c2, tV t (.slice Aa t.args.length ca) (.slice Bb t.cls.length cb), .pointer (some ⟨w.heap.size, 0, none⟩), undef, undef, .pointer (some ⟨w.heap.size + 1, 0, none⟩), .bool false, .int .i64 0, .int .i64 40, undef, undef, .agg #[.slice Ad P.decls.length cd, .slice Af P.funs.length cf], .bool true, .bool false, .bool false, .agg #[.int .i64 t.op, .int .i64 t.n, .string t.nm, .int .i64 t.ty, .slice Aa t.args.length ca, .slice Bb t.cls.length cb], .bool true, .bool false, .bool false, undef, .tuple #[.int .i64 0, .int .i64 40], .agg #[.slice Ad P.decls.length cd, .slice Af P.funs.length cf], .slice A1 l1.length c1, .slice A2 l2.length c2, .agg #[.int .i64 t.op, .int .i64 t.n, .string t.nm, .int .i64 t.ty, .slice Aa t.args.length ca, .slice Bb t.cls.length cb], .tuple #[.int .i64 0, .int .i64 40], .int .i64 0, .int .i64 40, .agg #[.slice Ad P.decls.length cd, .slice Af P.funs.length cf], .bool true, .bool false, undef, undef, undef, undef, undef, undef, undef, undef, undef, vv 0, vv 1, vv 2, vv 3, vv 4, vv 5, vv 6, vv 7, vv 8, vv 9, vv 10, vv 11, vv 12, vv 13, vv 14, vv 15, vv 16, vv 17, vv 18, vv 19, vv 20, vv 21, vv 22, vv 23, vv 24, undef, undef, undef, undef, undef, undef, undef, undef, undef, undef, undef, undef, undef, undef, undef, undef, undef, undef, undef, undef, undef, undef, undef, undef, undef, undef, undef, undef, undef, undef, undef, undef, undef, undef, undef, undef, undef, undef], defers := [] } ∧ PhA w5 (FYT vals (l1.map Prm.nm) (l2.map Prm.nm)) 25 Ls W vv) ?_ ?_ ?_
      · exact ⟨fun _ => undef, rfl, PhA.zero _ _ _ _⟩
      · intro Ls a W i op ho hpre hl hc hI Kk HKk
        have hi : i < 25 := (Array.getElem?_eq_some_iff.1 ho).1
        obtain ⟨vv, rfl, hI⟩ := hI
        have HPA := Lib.hid hI
        have hcs : i = 0 ∨ i = 1 ∨ i = 2 ∨ i = 3 ∨ i = 4 ∨ i = 5 ∨ i = 6 ∨ i = 7 ∨ i = 8 ∨ i = 9 ∨ i = 10 ∨ i = 11 ∨ i = 12 ∨ i = 13 ∨ i = 14 ∨ i = 15 ∨ i = 16 ∨ i = 17 ∨ i = 18 ∨ i = 19 ∨ i = 20 ∨ i = 21 ∨ i = 22 ∨ i = 23 ∨ i = 24 := by omega
        rcases hcs with rfl | rfl | rfl | rfl | rfl | rfl | rfl | rfl | rfl | rfl | rfl | rfl | rfl | rfl | rfl | rfl | rfl | rfl | rfl | rfl | rfl | rfl | rfl | rfl | rfl
        all_goals
          obtain rfl := Option.some.inj ho
          clear ho hi hI hc
        · clear hpre
          have p0 := HPA.out.ext.keep (cellAt HBP.out 0)
          have p1 := HPA.out.ext.keep (cellAt HBP.out 1)
          go_simp
          exact HKk.out _ _ ⟨_, rfl, HPA.out.put (v := pV (.slice Ad P.decls.length cd) (.slice Af P.funs.length cf)) FYT.ext (by decide) (Ext.rf _) ⟨fun _ => HV0.out.symm, fun h => absurd h (by decide), fun h => absurd h (by decide)⟩⟩
        · clear hpre
          go_simp
          exact HKk.out _ _ ⟨_, rfl, HPA.out.put (v := .slice A1 l1.length c1) FYT.ext (by decide) (Ext.rf _) ⟨fun _ => HV1.out.symm, fun h => absurd h (by decide), fun h => absurd h (by decide)⟩⟩
        · simp [Region.binds] at hpre
          have e0 : vv 0 = _ := (HPA.out.facts 0 (by decide) (by simp [hpre])).1 (by decide)
          rw [HV0.out] at e0
          have e1 : vv 1 = _ := (HPA.out.facts 1 (by decide) (by simp [hpre])).1 (by decide)
          rw [HV1.out] at e1
          go_simp
          (refine (law_have_any P _ _ _ l1 W (HD.out.below (HX5.out.tr HPA.out.ext)) ⟨_, _, _, rfl⟩ (H1.out.below (HX5.out.tr HPA.out.ext))).mono ?_)
          rw [HG1.out]
          rintro e W' ⟨rfl, hb⟩
          exact HKk.out _ _ ⟨_, by simp [e0, e1], HPA.out.put (v := .bool true) FYT.ext (by decide) hb ⟨fun _ => HV2.out.symm, fun h => absurd h (by decide), fun h => absurd h (by decide)⟩⟩
        · simp [Region.binds] at hpre
          have e2 : vv 2 = _ := (HPA.out.facts 2 (by decide) (by simp [hpre])).1 (by decide)
          rw [HV2.out] at e2
          go_simp
          exact HKk.out _ _ ⟨_, by simp [e2], HPA.out.put (v := .bool false) FYT.ext (by decide) (Ext.rf _) ⟨fun _ => HV3.out.symm, fun h => absurd h (by decide), fun h => absurd h (by decide)⟩⟩
        · simp [Region.binds] at hpre
          have e3 : vv 3 = _ := (HPA.out.facts 3 (by decide) (by simp [hpre])).1 (by decide)
          rw [HV3.out] at e3
          go_simp
          exact HKk.out _ _ ⟨_, by simp [e3], HPA.out.put (v := .bool false) FYT.ext (by decide) (Ext.rf _) ⟨fun _ => HV4.out.symm, fun h => absurd h (by decide), fun h => absurd h (by decide)⟩⟩
        · simp [Region.binds] at hpre
          have e4 : vv 4 = _ := (HPA.out.facts 4 (by decide) (by simp [hpre])).1 (by decide)
          rw [HV4.out] at e4
          have p0 := HPA.out.ext.keep (cellAt HBP.out 0)
          have p1 := HPA.out.ext.keep (cellAt HBP.out 1)
          go_simp
          exact HKk.out _ _ ⟨_, by simp [e4], HPA.out.put (v := pV (.slice Ad P.decls.length cd) (.slice Af P.funs.length cf)) FYT.ext (by decide) (Ext.rf _) ⟨fun _ => HV5.out.symm, fun h => absurd h (by decide), fun h => absurd h (by decide)⟩⟩
        · simp [Region.binds] at hpre
          have e4 : vv 4 = _ := (HPA.out.facts 4 (by decide) (by simp [hpre])).1 (by decide)
          rw [HV4.out] at e4
          go_simp
          exact HKk.out _ _ ⟨_, by simp [e4], HPA.out.put (v := .slice A2 l2.length c2) FYT.ext (by decide) (Ext.rf _) ⟨fun _ => HV6.out.symm, fun h => absurd h (by decide), fun h => absurd h (by decide)⟩⟩
        · simp [Region.binds] at hpre
          have e5 : vv 5 = _ := (HPA.out.facts 5 (by decide) (by simp [hpre])).1 (by decide)
          rw [HV5.out] at e5
          have e6 : vv 6 = _ := (HPA.out.facts 6 (by decide) (by simp [hpre])).1 (by decide)
          rw [HV6.out] at e6
          have e4 : vv 4 = _ := (HPA.out.facts 4 (by decide) (by simp [hpre])).1 (by decide)
          rw [HV4.out] at e4
          go_simp
          (refine (law_have_any P _ _ _ l2 W (HD.out.below (HX5.out.tr HPA.out.ext)) ⟨_, _, _, rfl⟩ (H2.out.below (HX5.out.tr HPA.out.ext))).mono ?_)
          rw [HG2.out]
          rintro e W' ⟨rfl, hb⟩
          exact HKk.out _ _ ⟨_, by simp [e5, e6, e4], HPA.out.put (v := .bool true) FYT.ext (by decide) hb ⟨fun _ => HV7.out.symm, fun h => absurd h (by decide), fun h => absurd h (by decide)⟩⟩
        · simp [Region.binds] at hpre
          have e7 : vv 7 = _ := (HPA.out.facts 7 (by decide) (by simp [hpre])).1 (by decide)
          rw [HV7.out] at e7
          have e4 : vv 4 = _ := (HPA.out.facts 4 (by decide) (by simp [hpre])).1 (by decide)
          rw [HV4.out] at e4
          go_simp
          exact HKk.out _ _ ⟨_, by simp [e7, e4], HPA.out.put (v := .bool false) FYT.ext (by decide) (Ext.rf _) ⟨fun _ => HV8.out.symm, fun h => absurd h (by decide), fun h => absurd h (by decide)⟩⟩
        · simp [Region.binds] at hpre
          have e4 : vv 4 = _ := (HPA.out.facts 4 (by decide) (by simp [hpre])).1 (by decide)
          rw [HV4.out] at e4
          have e8 : vv 8 = _ := (HPA.out.facts 8 (by decide) (by simp [hpre])).1 (by decide)
          rw [HV8.out] at e8
          go_simp
          exact HKk.out _ _ ⟨_, by simp [e4, e8], HPA.out.put (v := .bool false) FYT.ext (by decide) (Ext.rf _) ⟨fun _ => HV9.out.symm, fun h => absurd h (by decide), fun h => absurd h (by decide)⟩⟩
        · simp [Region.binds] at hpre
          have e9 : vv 9 = _ := (HPA.out.facts 9 (by decide) (by simp [hpre])).1 (by decide)
          rw [HV9.out] at e9
          go_simp
          exact HKk.out _ _ ⟨_, by simp [e9], HPA.out.put (v := .bool false) FYT.ext (by decide) (Ext.rf _) ⟨fun _ => HV10.out.symm, fun h => absurd h (by decide), fun h => absurd h (by decide)⟩⟩
        · simp [Region.binds] at hpre
          have e10 : vv 10 = _ := (HPA.out.facts 10 (by decide) (by simp [hpre])).1 (by decide)
          rw [HV10.out] at e10
          have t0 := HPA.out.ext.keep (cellAt HBT.out 0)
          have t1 := HPA.out.ext.keep (cellAt HBT.out 1)
          have t2 := HPA.out.ext.keep (cellAt HBT.out 2)
          have t3 := HPA.out.ext.keep (cellAt HBT.out 3)
          have t4 := HPA.out.ext.keep (cellAt HBT.out 4)
          have t5 := HPA.out.ext.keep (cellAt HBT.out 5)
          go_simp
          exact HKk.out _ _ ⟨_, by simp [e10], HPA.out.put (v := tV t (.slice Aa t.args.length ca) (.slice Bb t.cls.length cb)) FYT.ext (by decide) (Ext.rf _) ⟨fun _ => HV11.out.symm, fun h => absurd h (by decide), fun h => absurd h (by decide)⟩⟩
        · simp [Region.binds] at hpre
          have e11 : vv 11 = _ := (HPA.out.facts 11 (by decide) (by simp [hpre])).1 (by decide)
          rw [HV11.out] at e11
          have e10 : vv 10 = _ := (HPA.out.facts 10 (by decide) (by simp [hpre])).1 (by decide)
          rw [HV10.out] at e10
          go_simp
          (refine (RSmall_any k t _ _ W (HT.out.below (HX5.out.tr HPA.out.ext))).mono ?_)
          rw [HG3.out]
          rintro e W' ⟨rfl, hb⟩
          exact HKk.out _ _ ⟨_, by simp [e11, e10], HPA.out.put (v := .bool true) FYT.ext (by decide) hb ⟨fun _ => HV12.out.symm, fun h => absurd h (by decide), fun h => absurd h (by decide)⟩⟩
        · simp [Region.binds] at hpre
          have e12 : vv 12 = _ := (HPA.out.facts 12 (by decide) (by simp [hpre])).1 (by decide)
          rw [HV12.out] at e12
          have e10 : vv 10 = _ := (HPA.out.facts 10 (by decide) (by simp [hpre])).1 (by decide)
          rw [HV10.out] at e10
          go_simp
          exact HKk.out _ _ ⟨_, by simp [e12, e10], HPA.out.put (v := .bool false) FYT.ext (by decide) (Ext.rf _) ⟨fun _ => HV13.out.symm, fun h => absurd h (by decide), fun h => absurd h (by decide)⟩⟩
        · simp [Region.binds] at hpre
          have e10 : vv 10 = _ := (HPA.out.facts 10 (by decide) (by simp [hpre])).1 (by decide)
          rw [HV10.out] at e10
          have e13 : vv 13 = _ := (HPA.out.facts 13 (by decide) (by simp [hpre])).1 (by decide)
          rw [HV13.out] at e13
          go_simp
          exact HKk.out _ _ ⟨_, by simp [e10, e13], HPA.out.put (v := .bool false) FYT.ext (by decide) (Ext.rf _) ⟨fun _ => HV14.out.symm, fun h => absurd h (by decide), fun h => absurd h (by decide)⟩⟩
        · simp [Region.binds] at hpre
          have e14 : vv 14 = _ := (HPA.out.facts 14 (by decide) (by simp [hpre])).1 (by decide)
          rw [HV14.out] at e14
          go_simp
          exact HKk.out _ _ ⟨_, by simp [e14], HPA.out.put (v := .bool false) FYT.ext (by decide) (Ext.rf _) ⟨fun _ => HV15.out.symm, fun h => absurd h (by decide), fun h => absurd h (by decide)⟩⟩
        · simp [Region.binds] at hpre
          have e15 : vv 15 = _ := (HPA.out.facts 15 (by decide) (by simp [hpre])).1 (by decide)
          rw [HV15.out] at e15
          have p0 := HPA.out.ext.keep (cellAt HBP.out 0)
          have p1 := HPA.out.ext.keep (cellAt HBP.out 1)
          go_simp
          exact HKk.out _ _ ⟨_, by simp [e15], HPA.out.put (v := pV (.slice Ad P.decls.length cd) (.slice Af P.funs.length cf)) FYT.ext (by decide) (Ext.rf _) ⟨fun _ => HV16.out.symm, fun h => absurd h (by decide), fun h => absurd h (by decide)⟩⟩
        · simp [Region.binds] at hpre
          have e15 : vv 15 = _ := (HPA.out.facts 15 (by decide) (by simp [hpre])).1 (by decide)
          rw [HV15.out] at e15
          go_simp
          exact HKk.out _ _ ⟨_, by simp [e15], HPA.out.put (v := .slice A1 l1.length c1) FYT.ext (by decide) (Ext.rf _) ⟨fun _ => HV17.out.symm, fun h => absurd h (by decide), fun h => absurd h (by decide)⟩⟩
        · simp [Region.binds] at hpre
          have e17 : vv 17 = _ := (HPA.out.facts 17 (by decide) (by simp [hpre])).1 (by decide)
          rw [HV17.out] at e17
          have e15 : vv 15 = _ := (HPA.out.facts 15 (by decide) (by simp [hpre])).1 (by decide)
          rw [HV15.out] at e15
          go_simp
          (refine (ParamsB_any _ l1 W (H1.out.below (HX5.out.tr HPA.out.ext)) (by have := N1.out; omega)).mono ?_)
          rintro e W' ⟨v', rfl, hs, hb⟩
          exact HKk.out _ _ ⟨_, by simp [e17, e15], HPA.out.put (v := v') FYT.ext (by decide) hb ⟨fun h => absurd h (by decide), fun _ => hs, fun h => absurd h (by decide)⟩⟩
        · simp [Region.binds] at hpre
          have e15 : vv 15 = _ := (HPA.out.facts 15 (by decide) (by simp [hpre])).1 (by decide)
          rw [HV15.out] at e15
          go_simp
          exact HKk.out _ _ ⟨_, by simp [e15], HPA.out.put (v := .slice A2 l2.length c2) FYT.ext (by decide) (Ext.rf _) ⟨fun _ => HV19.out.symm, fun h => absurd h (by decide), fun h => absurd h (by decide)⟩⟩
        · simp [Region.binds] at hpre
          have e19 : vv 19 = _ := (HPA.out.facts 19 (by decide) (by simp [hpre])).1 (by decide)
          rw [HV19.out] at e19
          have e15 : vv 15 = _ := (HPA.out.facts 15 (by decide) (by simp [hpre])).1 (by decide)
          rw [HV15.out] at e15
          go_simp
          (refine (ParamsB_any _ l2 W (H2.out.below (HX5.out.tr HPA.out.ext)) (by have := N2.out; omega)).mono ?_)
          rintro e W' ⟨v', rfl, hs, hb⟩
          exact HKk.out _ _ ⟨_, by simp [e19, e15], HPA.out.put (v := v') FYT.ext (by decide) hb ⟨fun h => absurd h (by decide), fun h => absurd h (by decide), fun _ => hs⟩⟩
        · simp [Region.binds] at hpre
          have e15 : vv 15 = _ := (HPA.out.facts 15 (by decide) (by simp [hpre])).1 (by decide)
          rw [HV15.out] at e15
          have t0 := HPA.out.ext.keep (cellAt HBT.out 0)
          have t1 := HPA.out.ext.keep (cellAt HBT.out 1)
          have t2 := HPA.out.ext.keep (cellAt HBT.out 2)
          have t3 := HPA.out.ext.keep (cellAt HBT.out 3)
          have t4 := HPA.out.ext.keep (cellAt HBT.out 4)
          have t5 := HPA.out.ext.keep (cellAt HBT.out 5)
          go_simp
          exact HKk.out _ _ ⟨_, by simp [e15], HPA.out.put (v := tV t (.slice Aa t.args.length ca) (.slice Bb t.cls.length cb)) FYT.ext (by decide) (Ext.rf _) ⟨fun _ => HV21.out.symm, fun h => absurd h (by decide), fun h => absurd h (by decide)⟩⟩
        · simp [Region.binds] at hpre
          have e16 : vv 16 = _ := (HPA.out.facts 16 (by decide) (by simp [hpre])).1 (by decide)
          rw [HV16.out] at e16
          have e21 : vv 21 = _ := (HPA.out.facts 21 (by decide) (by simp [hpre])).1 (by decide)
          rw [HV21.out] at e21
          have e15 : vv 15 = _ := (HPA.out.facts 15 (by decide) (by simp [hpre])).1 (by decide)
          rw [HV15.out] at e15
          go_simp
          have s18 := (HPA.out.facts 18 (by decide) (by simp [hpre])).2.1 rfl
          have s20 := (HPA.out.facts 20 (by decide) (by simp [hpre])).2.2 rfl
          (refine (RValid_any P _ _ (prog_decls HPB.out).1 (prog_decls HPB.out).2 k t _ _ _ _ (l1.map Prm.nm) (l2.map Prm.nm) W (HD.out.below (HX5.out.tr HPA.out.ext)) (HF.out.below (HX5.out.tr HPA.out.ext)) s18 s20 (HT.out.below (HX5.out.tr HPA.out.ext)) (by rw [List.length_map]; have := N1.out; have := HNT.out; omega) (by rw [List.length_map]; have := N2.out; have := HNT.out; omega)).mono ?_)
          rw [HG4.out]
          rintro e W' ⟨rfl, hb⟩
          exact HKk.out _ _ ⟨_, by simp [e16, e21, e15], HPA.out.put (v := .bool true) FYT.ext (by decide) hb ⟨fun _ => HV22.out.symm, fun h => absurd h (by decide), fun h => absurd h (by decide)⟩⟩
        · simp [Region.binds] at hpre
          have e22 : vv 22 = _ := (HPA.out.facts 22 (by decide) (by simp [hpre])).1 (by decide)
          rw [HV22.out] at e22
          have e15 : vv 15 = _ := (HPA.out.facts 15 (by decide) (by simp [hpre])).1 (by decide)
          rw [HV15.out] at e15
          go_simp
          exact HKk.out _ _ ⟨_, by simp [e22, e15], HPA.out.put (v := .bool false) FYT.ext (by decide) (Ext.rf _) ⟨fun _ => HV23.out.symm, fun h => absurd h (by decide), fun h => absurd h (by decide)⟩⟩
        · simp [Region.binds] at hpre
          have e15 : vv 15 = _ := (HPA.out.facts 15 (by decide) (by simp [hpre])).1 (by decide)
          rw [HV15.out] at e15
          have e23 : vv 23 = _ := (HPA.out.facts 23 (by decide) (by simp [hpre])).1 (by decide)
          rw [HV23.out] at e23
          go_simp
          exact HKk.out _ _ ⟨_, by simp [e15, e23], HPA.out.put (v := .bool false) FYT.ext (by decide) (Ext.rf _) ⟨fun _ => HV24.out.symm, fun h => absurd h (by decide), fun h => absurd h (by decide)⟩⟩
      · intro Ls a W hall hI
        obtain ⟨vv, rfl, hI⟩ := hI
        have e24 : vv 24 = _ := (hI.facts 24 (by decide) (hall 24 (by decide))).1 (by decide)
        rw [HV24.out] at e24
        have HX9 := Lib.hid (HX5.out.tr hI.ext)
        have HXB := Lib.hid hI.ext
        clear hI hall
        generalize vv 0 = x0 at *
        generalize vv 1 = x1 at *
        generalize vv 2 = x2 at *
        generalize vv 3 = x3 at *
        generalize vv 4 = x4 at *
        generalize vv 5 = x5 at *
        generalize vv 6 = x6 at *
        generalize vv 7 = x7 at *
        generalize vv 8 = x8 at *
        generalize vv 9 = x9 at *
        generalize vv 10 = x10 at *
        generalize vv 11 = x11 at *
        generalize vv 12 = x12 at *
        generalize vv 13 = x13 at *
        generalize vv 14 = x14 at *
        generalize vv 15 = x15 at *
        generalize vv 16 = x16 at *
        generalize vv 17 = x17 at *
        generalize vv 18 = x18 at *
        generalize vv 19 = x19 at *
        generalize vv 20 = x20 at *
        generalize vv 21 = x21 at *
        generalize vv 22 = x22 at *
        generalize vv 23 = x23 at *
        generalize vv 24 = x24 at *
        subst e24
        have t0 := HXB.out.keep (cellAt HBT.out 0)
        have t1 := HXB.out.keep (cellAt HBT.out 1)
        have t2 := HXB.out.keep (cellAt HBT.out 2)
        have t3 := HXB.out.keep (cellAt HBT.out 3)
        have t4 := HXB.out.keep (cellAt HBT.out 4)
        have t5 := HXB.out.keep (cellAt HBT.out 5)
        have p0 := HXB.out.keep (cellAt HBP.out 0)
        have p1 := HXB.out.keep (cellAt HBP.out 1)
        go_wp2_with fail
        (with_reducible refine (refType_any P (PB.of HPB.out) (PX.of HPB.out) (fun t ht => fits_few HPB.out ht) (fun t ht => fits_short HPB.out ht) 24 _ _ _ _ l1 l2 t _ _ W (by decide) (by have := N1.out; omega) (by have := N2.out; omega) (HD.out.below HX9.out) (HF.out.below HX9.out) (H1.out.below HX9.out) (H2.out.below HX9.out) (HR24.out.below HX9.out) HGQ.out.scope).mono ?_)
        rw [HRX.out]
        rintro e w6 ⟨hr, hb⟩
        obtain ⟨z, rfl⟩ := hr
        have HX9 := Lib.hid (HX9.out.tr hb)
        clear hb t0 t1 t2 t3 t4 t5 p0 p1
        go_wp2_with fail
        (with_reducible refine (awake_any _).mono ?_)
        rintro e wz ⟨rfl, hb⟩
        have HZ := Lib.hid (HX9.out.tr hb)
        clear hb
        go_wp2
        go_ret
        exact ⟨rfl, HZ.out⟩
  · have hty2 := TypeR.bad hty HPB.out hgq
    subst hty2
    have HGQ := Lib.hid hgq
    clear hgq
    go_wp2_with fail
    (with_reducible refine (RIs_any P _ _ _ (HD.out.below HX4.out) (HF.out.below HX4.out)).mono ?_)
    rw [HRI.out]
    rintro e w5 ⟨rfl, hb⟩
    have HX5 := Lib.hid (HX4.out.tr hb)
    have HBP := Lib.hid (((hb).block _ (heap_lt HBP.out)).trans HBP.out)
    have HBT := Lib.hid (((hb).block _ (heap_lt HBT.out)).trans HBT.out)
    clear hb p0 p1 t0 t1 t2 t3 t4 t5
    go_upto_region 6 with fail
    have t0 := ExtOf.cell (cellAt HBT.out 0)
    have t1 := ExtOf.cell (cellAt HBT.out 1)
    have t2 := ExtOf.cell (cellAt HBT.out 2)
    have t3 := ExtOf.cell (cellAt HBT.out 3)
    have t4 := ExtOf.cell (cellAt HBT.out 4)
    have t5 := ExtOf.cell (cellAt HBT.out 5)
    have p0 := ExtOf.cell (cellAt HBP.out 0)
    have p1 := ExtOf.cell (cellAt HBP.out 1)
    cases hg1 : haveL P l1
    · have HC1 : ∀ W, Ext w5 W → Calls Tryz.prog 16 #[pV (.slice Ad P.decls.length cd) (.slice Af P.funs.length cf), .slice A1 l1.length c1] W fun e w' => e = .returned (.bool false) ∧ Ext W w' := fun W hb => (law_have_any P _ _ _ l1 W (HD.out.below (HX5.out.tr hb)) ⟨_, _, _, rfl⟩ (H1.out.below (HX5.out.tr hb))).mono (fun e w' h => by rw [hg1] at h; exact h)
      refine wp_region_ext (w0 := w5) hmx (by kernel_rfl) (Ext.rf _) ?_
      repeat (first | go_big_quiet_step ((go_at_call 16; with_reducible exact Calls.ext_of (HC1 _ (ExtOf.ext _)))) | quiet_step ((go_at_call 16; with_reducible exact Calls.ext_of (HC1 _ (ExtOf.ext _)))))
      refine wpQuiet_nil ?_
      rintro _ ⟨⟨w9, hx⟩, rfl⟩
      have HX9 := Lib.hid (HX5.out.tr hx)
      clear hx t0 t1 t2 t3 t4 t5 p0 p1
      go_wp2_with fail
      (with_reducible refine (awake_any _).mono ?_)
      rintro e wz ⟨rfl, hb⟩
      have HZ := Lib.hid (HX9.out.tr hb)
      clear hb
      go_wp2
      go_ret
      exact ⟨rfl, HZ.out⟩
    cases hg2 : haveL P l2
    · have HC1 : ∀ W, Ext w5 W → Calls Tryz.prog 16 #[pV (.slice Ad P.decls.length cd) (.slice Af P.funs.length cf), .slice A1 l1.length c1] W fun e w' => e = .returned (.bool true) ∧ Ext W w' := fun W hb => (law_have_any P _ _ _ l1 W (HD.out.below (HX5.out.tr hb)) ⟨_, _, _, rfl⟩ (H1.out.below (HX5.out.tr hb))).mono (fun e w' h => by rw [hg1] at h; exact h)
      have HC2 : ∀ W, Ext w5 W → Calls Tryz.prog 16 #[pV (.slice Ad P.decls.length cd) (.slice Af P.funs.length cf), .slice A2 l2.length c2] W fun e w' => e = .returned (.bool false) ∧ Ext W w' := fun W hb => (law_have_any P _ _ _ l2 W (HD.out.below (HX5.out.tr hb)) ⟨_, _, _, rfl⟩ (H2.out.below (HX5.out.tr hb))).mono (fun e w' h => by rw [hg2] at h; exact h)
      refine wp_region_ext (w0 := w5) hmx (by kernel_rfl) (Ext.rf _) ?_
      repeat (first | go_big_quiet_step ((first | (go_at_call 16; with_reducible exact Calls.ext_of (HC1 _ (ExtOf.ext _))) | (go_at_call 16; with_reducible exact Calls.ext_of (HC2 _ (ExtOf.ext _))))) | quiet_step ((first | (go_at_call 16; with_reducible exact Calls.ext_of (HC1 _ (ExtOf.ext _))) | (go_at_call 16; with_reducible exact Calls.ext_of (HC2 _ (ExtOf.ext _))))))
      refine wpQuiet_nil ?_
      rintro _ ⟨⟨w9, hx⟩, rfl⟩
      have HX9 := Lib.hid (HX5.out.tr hx)
      clear hx t0 t1 t2 t3 t4 t5 p0 p1
      go_wp2_with fail
      (with_reducible refine (awake_any _).mono ?_)
      rintro e wz ⟨rfl, hb⟩
      have HZ := Lib.hid (HX9.out.tr hb)
      clear hb
      go_wp2
      go_ret
      exact ⟨rfl, HZ.out⟩
    cases hg3 : (sizeR t).2
    · have HC1 : ∀ W, Ext w5 W → Calls Tryz.prog 16 #[pV (.slice Ad P.decls.length cd) (.slice Af P.funs.length cf), .slice A1 l1.length c1] W fun e w' => e = .returned (.bool true) ∧ Ext W w' := fun W hb => (law_have_any P _ _ _ l1 W (HD.out.below (HX5.out.tr hb)) ⟨_, _, _, rfl⟩ (H1.out.below (HX5.out.tr hb))).mono (fun e w' h => by rw [hg1] at h; exact h)
      have HC2 : ∀ W, Ext w5 W → Calls Tryz.prog 16 #[pV (.slice Ad P.decls.length cd) (.slice Af P.funs.length cf), .slice A2 l2.length c2] W fun e w' => e = .returned (.bool true) ∧ Ext W w' := fun W hb => (law_have_any P _ _ _ l2 W (HD.out.below (HX5.out.tr hb)) ⟨_, _, _, rfl⟩ (H2.out.below (HX5.out.tr hb))).mono (fun e w' h => by rw [hg2] at h; exact h)
      have HC3 : ∀ W, Ext w5 W → Calls Tryz.prog 17 #[tV t (.slice Aa t.args.length ca) (.slice Bb t.cls.length cb)] W fun e w' => e = .returned (.bool false) ∧ Ext W w' := fun W hb => (RSmall_any k t _ _ W (HT.out.below (HX5.out.tr hb))).mono (fun e w' h => by rw [hg3] at h; exact h)
      refine wp_region_ext (w0 := w5) hmx (by kernel_rfl) (Ext.rf _) ?_
      repeat (first | go_big_quiet_step ((first | (go_at_call 16; with_reducible exact Calls.ext_of (HC1 _ (ExtOf.ext _))) | (go_at_call 16; with_reducible exact Calls.ext_of (HC2 _ (ExtOf.ext _))) | (go_at_call 17; with_reducible exact Calls.ext_of (HC3 _ (ExtOf.ext _))))) | quiet_step ((first | (go_at_call 16; with_reducible exact Calls.ext_of (HC1 _ (ExtOf.ext _))) | (go_at_call 16; with_reducible exact Calls.ext_of (HC2 _ (ExtOf.ext _))) | (go_at_call 17; with_reducible exact Calls.ext_of (HC3 _ (ExtOf.ext _))))))
      refine wpQuiet_nil ?_
      rintro _ ⟨⟨w9, hx⟩, rfl⟩
      have HX9 := Lib.hid (HX5.out.tr hx)
      clear hx t0 t1 t2 t3 t4 t5 p0 p1
      go_wp2_with fail
      (with_reducible refine (awake_any _).mono ?_)
      rintro e wz ⟨rfl, hb⟩
      have HZ := Lib.hid (HX9.out.tr hb)
      clear hb
      go_wp2
      go_ret
      exact ⟨rfl, HZ.out⟩
    have HG1 : Hid (haveL P l1 = true) := hg1
    have HG2 : Hid (haveL P l2 = true) := hg2
    have HG3 : Hid ((sizeR t).2 = true) := hg3
    have HNT := Lib.hid (small_nT' hg3)
    have HG4 : Hid (validT P (hasS (l1.map Prm.nm)) (hasS (l2.map Prm.nm)) t = false) := Bool.eq_false_iff.2 fun h => HGQ.out ⟨HPB.out, HG3.out, h, HG1.out, HG2.out⟩
    clear hg1 hg2 hg3
    clear t0 t1 t2 t3 t4 t5 p0 p1
    obtain ⟨vals, hvals⟩ : ∃ vals : Nat → Value, vals = fun kk => if kk = 0 then pV (.slice Ad P.decls.length cd) (.slice Af P.funs.length cf) else if kk = 1 then .slice A1 l1.length c1 else if kk = 2 then .bool true else if kk = 3 then .bool false else if kk = 4 then .bool false else if kk = 5 then pV (.slice Ad P.decls.length cd) (.slice Af P.funs.length cf) else if kk = 6 then .slice A2 l2.length c2 else if kk = 7 then .bool true else if kk = 8 then .bool false else if kk = 9 then .bool false else if kk = 10 then .bool false else if kk = 11 then tV t (.slice Aa t.args.length ca) (.slice Bb t.cls.length cb) else if kk = 12 then .bool true else if kk = 13 then .bool false else if kk = 14 then .bool false else if kk = 15 then .bool false else if kk = 16 then pV (.slice Ad P.decls.length cd) (.slice Af P.funs.length cf) else if kk = 17 then .slice A1 l1.length c1 else if kk = 19 then .slice A2 l2.length c2 else if kk = 21 then tV t (.slice Aa t.args.length ca) (.slice Bb t.cls.length cb) else if kk = 22 then .bool false else if kk = 23 then .bool true else if kk = 24 then .bool true else undef := ⟨_, rfl⟩
    have HV0 : Hid (vals 0 = pV (.slice Ad P.decls.length cd) (.slice Af P.funs.length cf)) := by show _ = _; rw [hvals]; rfl
    have HV1 : Hid (vals 1 = .slice A1 l1.length c1) := by show _ = _; rw [hvals]; rfl
    have HV2 : Hid (vals 2 = .bool true) := by show _ = _; rw [hvals]; rfl
    have HV3 : Hid (vals 3 = .bool false) := by show _ = _; rw [hvals]; rfl
    have HV4 : Hid (vals 4 = .bool false) := by show _ = _; rw [hvals]; rfl
    have HV5 : Hid (vals 5 = pV (.slice Ad P.decls.length cd) (.slice Af P.funs.length cf)) := by show _ = _; rw [hvals]; rfl
    have HV6 : Hid (vals 6 = .slice A2 l2.length c2) := by show _ = _; rw [hvals]; rfl
    have HV7 : Hid (vals 7 = .bool true) := by show _ = _; rw [hvals]; rfl
    have HV8 : Hid (vals 8 = .bool false) := by show _ = _; rw [hvals]; rfl
    have HV9 : Hid (vals 9 = .bool false) := by show _ = _; rw [hvals]; rfl
    have HV10 : Hid (vals 10 = .bool false) := by show _ = _; rw [hvals]; rfl
    have HV11 : Hid (vals 11 = tV t (.slice Aa t.args.length ca) (.slice Bb t.cls.length cb)) := by show _ = _; rw [hvals]; rfl
    have HV12 : Hid (vals 12 = .bool true) := by show _ = _; rw [hvals]; rfl
    have HV13 : Hid (vals 13 = .bool false) := by show _ = _; rw [hvals]; rfl
    have HV14 : Hid (vals 14 = .bool false) := by show _ = _; rw [hvals]; rfl
    have HV15 : Hid (vals 15 = .bool false) := by show _ = _; rw [hvals]; rfl
    have HV16 : Hid (vals 16 = pV (.slice Ad P.decls.length cd) (.slice Af P.funs.length cf)) := by show _ = _; rw [hvals]; rfl
    have HV17 : Hid (vals 17 = .slice A1 l1.length c1) := by show _ = _; rw [hvals]; rfl
    have HV19 : Hid (vals 19 = .slice A2 l2.length c2) := by show _ = _; rw [hvals]; rfl
    have HV21 : Hid (vals 21 = tV t (.slice Aa t.args.length ca) (.slice Bb t.cls.length cb)) := by show _ = _; rw [hvals]; rfl
    have HV22 : Hid (vals 22 = .bool false) := by show _ = _; rw [hvals]; rfl
    have HV23 : Hid (vals 23 = .bool true) := by show _ = _; rw [hvals]; rfl
    have HV24 : Hid (vals 24 = .bool true) := by show _ = _; rw [hvals]; rfl
    clear hvals
    refine wp_region_invCE hmx (by kernel_rfl) (fun Ls a W => ∃ vv : Nat → Value, a = { tmps := #[pV (.slice Ad P.decls.length cd) (.slice Af P.funs.length cf), .slice A1 l1.length c1, .slice A2 l2.length c2, tV t (.slice Aa t.args.length ca) (.slice Bb t.cls.length cb), .pointer (some ⟨w.heap.size, 0, none⟩), undef, undef, .pointer (some ⟨w.heap.size + 1, 0, none⟩), .bool false, .int .i64 0, .int .i64 1, undef, undef, .agg #[.slice Ad P.decls.length cd, .slice Af P.funs.length cf], .bool true, .bool false, .bool false, .agg #[.int .i64 t.op, .int .i64 t.n, .string t.nm, .int .i64 t.ty, .slice Aa t.args.length ca, .slice Bb t.cls.length cb], .bool true, .bool false, .bool false, undef, .tuple #[.int .i64 0, .int .i64 1], .agg #[.slice Ad P.decls.length cd, .slice Af P.funs.length cf], .slice A1 l1.length c1, .slice A2 l2.length c2, .agg #[.int .i64 t.op, .int .i64 t.n, .string t.nm, .int .i64 t.ty, .slice Aa t.args.length ca, .slice Bb t.cls.length cb], .tuple #[.int .i64 0, .int .i64 1], .int .i64 0, .int .i64 1, .agg #[.slice Ad P.decls.length cd, .slice Af P.funs.length cf], .bool true, .bool false, undef, undef, undef, undef, undef, undef, undef, undef, undef, vv 0, vv 1, vv 2, vv 3, vv 4, vv 5, vv 6, vv 7, vv 8, vv 9, vv 10, vv 11, vv 12, vv 13, vv 14, vv 15, vv 16, vv 17, vv 18, vv 19, vv 20, vv 21, vv 22, vv 23, vv 24, undef, undef, undef, undef, undef, undef, undef, undef, undef, undef, undef, undef, undef, undef, undef, undef, undef, undef, undef, undef, undef, undef, undef, undef, undef, undef, undef, undef, undef, undef, undef, undef, undef, undef, undef, undef, undef, undef], defers := [] } ∧ PhA w5 (FYT vals (l1.map Prm.nm) (l2.map Prm.nm)) 25 Ls W vv) ?_ ?_ ?_
    · exact ⟨fun _ => undef, rfl, PhA.zero _ _ _ _⟩
    · intro Ls a W i op ho hpre hl hc hI Kk HKk
      have hi : i < 25 := (Array.getElem?_eq_some_iff.1 ho).1
      obtain ⟨vv, rfl, hI⟩ := hI
      have HPA := Lib.hid hI
      have hcs : i = 0 ∨ i = 1 ∨ i = 2 ∨ i = 3 ∨ i = 4 ∨ i = 5 ∨ i = 6 ∨ i = 7 ∨ i = 8 ∨ i = 9 ∨ i = 10 ∨ i = 11 ∨ i = 12 ∨ i = 13 ∨ i = 14 ∨ i = 15 ∨ i = 16 ∨ i = 17 ∨ i = 18 ∨ i = 19 ∨ i = 20 ∨ i = 21 ∨ i = 22 ∨ i = 23 ∨ i = 24 := by omega
      rcases hcs with rfl | rfl | rfl | rfl | rfl | rfl | rfl | rfl | rfl | rfl | rfl | rfl | rfl | rfl | rfl | rfl | rfl | rfl | rfl | rfl | rfl | rfl | rfl | rfl | rfl
      all_goals
        obtain rfl := Option.some.inj ho
        clear ho hi hI hc
      · clear hpre
        have p0 := HPA.out.ext.keep (cellAt HBP.out 0)
        have p1 := HPA.out.ext.keep (cellAt HBP.out 1)
        go_simp
        exact HKk.out _ _ ⟨_, rfl, HPA.out.put (v := pV (.slice Ad P.decls.length cd) (.slice Af P.funs.length cf)) FYT.ext (by decide) (Ext.rf _) ⟨fun _ => HV0.out.symm, fun h => absurd h (by decide), fun h => absurd h (by decide)⟩⟩
      · clear hpre
        go_simp
        exact HKk.out _ _ ⟨_, rfl, HPA.out.put (v := .slice A1 l1.length c1) FYT.ext (by decide) (Ext.rf _) ⟨fun _ => HV1.out.symm, fun h => absurd h (by decide), fun h => absurd h (by decide)⟩⟩
      · simp [Region.binds] at hpre
        have e0 : vv 0 = _ := (HPA.out.facts 0 (by decide) (by simp [hpre])).1 (by decide)
        rw [HV0.out] at e0
        have e1 : vv 1 = _ := (HPA.out.facts 1 (by decide) (by simp [hpre])).1 (by decide)
        rw [HV1.out] at e1
        go_simp
        (refine (law_have_any P _ _ _ l1 W (HD.out.below (HX5.out.tr HPA.out.ext)) ⟨_, _, _, rfl⟩ (H1.out.below (HX5.out.tr HPA.out.ext))).mono ?_)
        rw [HG1.out]
        rintro e W' ⟨rfl, hb⟩
        exact HKk.out _ _ ⟨_, by simp [e0, e1], HPA.out.put (v := .bool true) FYT.ext (by decide) hb ⟨fun _ => HV2.out.symm, fun h => absurd h (by decide), fun h => absurd h (by decide)⟩⟩
      · simp [Region.binds] at hpre
        have e2 : vv 2 = _ := (HPA.out.facts 2 (by decide) (by simp [hpre])).1 (by decide)
        rw [HV2.out] at e2
        go_simp
        exact HKk.out _ _ ⟨_, by simp [e2], HPA.out.put (v := .bool false) FYT.ext (by decide) (Ext.rf _) ⟨fun _ => HV3.out.symm, fun h => absurd h (by decide), fun h => absurd h (by decide)⟩⟩
      · simp [Region.binds] at hpre
        have e3 : vv 3 = _ := (HPA.out.facts 3 (by decide) (by simp [hpre])).1 (by decide)
        rw [HV3.out] at e3
        go_simp
        exact HKk.out _ _ ⟨_, by simp [e3], HPA.out.put (v := .bool false) FYT.ext (by decide) (Ext.rf _) ⟨fun _ => HV4.out.symm, fun h => absurd h (by decide), fun h => absurd h (by decide)⟩⟩
      · simp [Region.binds] at hpre
        have e4 : vv 4 = _ := (HPA.out.facts 4 (by decide) (by simp [hpre])).1 (by decide)
        rw [HV4.out] at e4
        have p0 := HPA.out.ext.keep (cellAt HBP.out 0)
        have p1 := HPA.out.ext.keep (cellAt HBP.out 1)
        go_simp
        exact HKk.out _ _ ⟨_, by simp [e4], HPA.out.put (v := pV (.slice Ad P.decls.length cd) (.slice Af P.funs.length cf)) FYT.ext (by decide) (Ext.rf _) ⟨fun _ => HV5.out.symm, fun h => absurd h (by decide), fun h => absurd h (by decide)⟩⟩
      · simp [Region.binds] at hpre
        have e4 : vv 4 = _ := (HPA.out.facts 4 (by decide) (by simp [hpre])).1 (by decide)
        rw [HV4.out] at e4
        go_simp
        exact HKk.out _ _ ⟨_, by simp [e4], HPA.out.put (v := .slice A2 l2.length c2) FYT.ext (by decide) (Ext.rf _) ⟨fun _ => HV6.out.symm, fun h => absurd h (by decide), fun h => absurd h (by decide)⟩⟩
      · simp [Region.binds] at hpre
        have e5 : vv 5 = _ := (HPA.out.facts 5 (by decide) (by simp [hpre])).1 (by decide)
        rw [HV5.out] at e5
        have e6 : vv 6 = _ := (HPA.out.facts 6 (by decide) (by simp [hpre])).1 (by decide)
        rw [HV6.out] at e6
        have e4 : vv 4 = _ := (HPA.out.facts 4 (by decide) (by simp [hpre])).1 (by decide)
        rw [HV4.out] at e4
        go_simp
        (refine (law_have_any P _ _ _ l2 W (HD.out.below (HX5.out.tr HPA.out.ext)) ⟨_, _, _, rfl⟩ (H2.out.below (HX5.out.tr HPA.out.ext))).mono ?_)
        rw [HG2.out]
        rintro e W' ⟨rfl, hb⟩
        exact HKk.out _ _ ⟨_, by simp [e5, e6, e4], HPA.out.put (v := .bool true) FYT.ext (by decide) hb ⟨fun _ => HV7.out.symm, fun h => absurd h (by decide), fun h => absurd h (by decide)⟩⟩
      · simp [Region.binds] at hpre
        have e7 : vv 7 = _ := (HPA.out.facts 7 (by decide) (by simp [hpre])).1 (by decide)
        rw [HV7.out] at e7
        have e4 : vv 4 = _ := (HPA.out.facts 4 (by decide) (by simp [hpre])).1 (by decide)
        rw [HV4.out] at e4
        go_simp
        exact HKk.out _ _ ⟨_, by simp [e7, e4], HPA.out.put (v := .bool false) FYT.ext (by decide) (Ext.rf _) ⟨fun _ => HV8.out.symm, fun h => absurd h (by decide), fun h => absurd h (by decide)⟩⟩
      · simp [Region.binds] at hpre
        have e4 : vv 4 = _ := (HPA.out.facts 4 (by decide) (by simp [hpre])).1 (by decide)
        rw [HV4.out] at e4
        have e8 : vv 8 = _ := (HPA.out.facts 8 (by decide) (by simp [hpre])).1 (by decide)
        rw [HV8.out] at e8
        go_simp
        exact HKk.out _ _ ⟨_, by simp [e4, e8], HPA.out.put (v := .bool false) FYT.ext (by decide) (Ext.rf _) ⟨fun _ => HV9.out.symm, fun h => absurd h (by decide), fun h => absurd h (by decide)⟩⟩
      · simp [Region.binds] at hpre
        have e9 : vv 9 = _ := (HPA.out.facts 9 (by decide) (by simp [hpre])).1 (by decide)
        rw [HV9.out] at e9
        go_simp
        exact HKk.out _ _ ⟨_, by simp [e9], HPA.out.put (v := .bool false) FYT.ext (by decide) (Ext.rf _) ⟨fun _ => HV10.out.symm, fun h => absurd h (by decide), fun h => absurd h (by decide)⟩⟩
      · simp [Region.binds] at hpre
        have e10 : vv 10 = _ := (HPA.out.facts 10 (by decide) (by simp [hpre])).1 (by decide)
        rw [HV10.out] at e10
        have t0 := HPA.out.ext.keep (cellAt HBT.out 0)
        have t1 := HPA.out.ext.keep (cellAt HBT.out 1)
        have t2 := HPA.out.ext.keep (cellAt HBT.out 2)
        have t3 := HPA.out.ext.keep (cellAt HBT.out 3)
        have t4 := HPA.out.ext.keep (cellAt HBT.out 4)
        have t5 := HPA.out.ext.keep (cellAt HBT.out 5)
        go_simp
        exact HKk.out _ _ ⟨_, by simp [e10], HPA.out.put (v := tV t (.slice Aa t.args.length ca) (.slice Bb t.cls.length cb)) FYT.ext (by decide) (Ext.rf _) ⟨fun _ => HV11.out.symm, fun h => absurd h (by decide), fun h => absurd h (by decide)⟩⟩
      · simp [Region.binds] at hpre
        have e11 : vv 11 = _ := (HPA.out.facts 11 (by decide) (by simp [hpre])).1 (by decide)
        rw [HV11.out] at e11
        have e10 : vv 10 = _ := (HPA.out.facts 10 (by decide) (by simp [hpre])).1 (by decide)
        rw [HV10.out] at e10
        go_simp
        (refine (RSmall_any k t _ _ W (HT.out.below (HX5.out.tr HPA.out.ext))).mono ?_)
        rw [HG3.out]
        rintro e W' ⟨rfl, hb⟩
        exact HKk.out _ _ ⟨_, by simp [e11, e10], HPA.out.put (v := .bool true) FYT.ext (by decide) hb ⟨fun _ => HV12.out.symm, fun h => absurd h (by decide), fun h => absurd h (by decide)⟩⟩
      · simp [Region.binds] at hpre
        have e12 : vv 12 = _ := (HPA.out.facts 12 (by decide) (by simp [hpre])).1 (by decide)
        rw [HV12.out] at e12
        have e10 : vv 10 = _ := (HPA.out.facts 10 (by decide) (by simp [hpre])).1 (by decide)
        rw [HV10.out] at e10
        go_simp
        exact HKk.out _ _ ⟨_, by simp [e12, e10], HPA.out.put (v := .bool false) FYT.ext (by decide) (Ext.rf _) ⟨fun _ => HV13.out.symm, fun h => absurd h (by decide), fun h => absurd h (by decide)⟩⟩
      · simp [Region.binds] at hpre
        have e10 : vv 10 = _ := (HPA.out.facts 10 (by decide) (by simp [hpre])).1 (by decide)
        rw [HV10.out] at e10
        have e13 : vv 13 = _ := (HPA.out.facts 13 (by decide) (by simp [hpre])).1 (by decide)
        rw [HV13.out] at e13
        go_simp
        exact HKk.out _ _ ⟨_, by simp [e10, e13], HPA.out.put (v := .bool false) FYT.ext (by decide) (Ext.rf _) ⟨fun _ => HV14.out.symm, fun h => absurd h (by decide), fun h => absurd h (by decide)⟩⟩
      · simp [Region.binds] at hpre
        have e14 : vv 14 = _ := (HPA.out.facts 14 (by decide) (by simp [hpre])).1 (by decide)
        rw [HV14.out] at e14
        go_simp
        exact HKk.out _ _ ⟨_, by simp [e14], HPA.out.put (v := .bool false) FYT.ext (by decide) (Ext.rf _) ⟨fun _ => HV15.out.symm, fun h => absurd h (by decide), fun h => absurd h (by decide)⟩⟩
      · simp [Region.binds] at hpre
        have e15 : vv 15 = _ := (HPA.out.facts 15 (by decide) (by simp [hpre])).1 (by decide)
        rw [HV15.out] at e15
        have p0 := HPA.out.ext.keep (cellAt HBP.out 0)
        have p1 := HPA.out.ext.keep (cellAt HBP.out 1)
        go_simp
        exact HKk.out _ _ ⟨_, by simp [e15], HPA.out.put (v := pV (.slice Ad P.decls.length cd) (.slice Af P.funs.length cf)) FYT.ext (by decide) (Ext.rf _) ⟨fun _ => HV16.out.symm, fun h => absurd h (by decide), fun h => absurd h (by decide)⟩⟩
      · simp [Region.binds] at hpre
        have e15 : vv 15 = _ := (HPA.out.facts 15 (by decide) (by simp [hpre])).1 (by decide)
        rw [HV15.out] at e15
        go_simp
        exact HKk.out _ _ ⟨_, by simp [e15], HPA.out.put (v := .slice A1 l1.length c1) FYT.ext (by decide) (Ext.rf _) ⟨fun _ => HV17.out.symm, fun h => absurd h (by decide), fun h => absurd h (by decide)⟩⟩
      · simp [Region.binds] at hpre
        have e17 : vv 17 = _ := (HPA.out.facts 17 (by decide) (by simp [hpre])).1 (by decide)
        rw [HV17.out] at e17
        have e15 : vv 15 = _ := (HPA.out.facts 15 (by decide) (by simp [hpre])).1 (by decide)
        rw [HV15.out] at e15
        go_simp
        (refine (ParamsB_any _ l1 W (H1.out.below (HX5.out.tr HPA.out.ext)) (by have := N1.out; omega)).mono ?_)
        rintro e W' ⟨v', rfl, hs, hb⟩
        exact HKk.out _ _ ⟨_, by simp [e17, e15], HPA.out.put (v := v') FYT.ext (by decide) hb ⟨fun h => absurd h (by decide), fun _ => hs, fun h => absurd h (by decide)⟩⟩
      · simp [Region.binds] at hpre
        have e15 : vv 15 = _ := (HPA.out.facts 15 (by decide) (by simp [hpre])).1 (by decide)
        rw [HV15.out] at e15
        go_simp
        exact HKk.out _ _ ⟨_, by simp [e15], HPA.out.put (v := .slice A2 l2.length c2) FYT.ext (by decide) (Ext.rf _) ⟨fun _ => HV19.out.symm, fun h => absurd h (by decide), fun h => absurd h (by decide)⟩⟩
      · simp [Region.binds] at hpre
        have e19 : vv 19 = _ := (HPA.out.facts 19 (by decide) (by simp [hpre])).1 (by decide)
        rw [HV19.out] at e19
        have e15 : vv 15 = _ := (HPA.out.facts 15 (by decide) (by simp [hpre])).1 (by decide)
        rw [HV15.out] at e15
        go_simp
        (refine (ParamsB_any _ l2 W (H2.out.below (HX5.out.tr HPA.out.ext)) (by have := N2.out; omega)).mono ?_)
        rintro e W' ⟨v', rfl, hs, hb⟩
        exact HKk.out _ _ ⟨_, by simp [e19, e15], HPA.out.put (v := v') FYT.ext (by decide) hb ⟨fun h => absurd h (by decide), fun h => absurd h (by decide), fun _ => hs⟩⟩
      · simp [Region.binds] at hpre
        have e15 : vv 15 = _ := (HPA.out.facts 15 (by decide) (by simp [hpre])).1 (by decide)
        rw [HV15.out] at e15
        have t0 := HPA.out.ext.keep (cellAt HBT.out 0)
        have t1 := HPA.out.ext.keep (cellAt HBT.out 1)
        have t2 := HPA.out.ext.keep (cellAt HBT.out 2)
        have t3 := HPA.out.ext.keep (cellAt HBT.out 3)
        have t4 := HPA.out.ext.keep (cellAt HBT.out 4)
        have t5 := HPA.out.ext.keep (cellAt HBT.out 5)
        go_simp
        exact HKk.out _ _ ⟨_, by simp [e15], HPA.out.put (v := tV t (.slice Aa t.args.length ca) (.slice Bb t.cls.length cb)) FYT.ext (by decide) (Ext.rf _) ⟨fun _ => HV21.out.symm, fun h => absurd h (by decide), fun h => absurd h (by decide)⟩⟩
      · simp [Region.binds] at hpre
        have e16 : vv 16 = _ := (HPA.out.facts 16 (by decide) (by simp [hpre])).1 (by decide)
        rw [HV16.out] at e16
        have e21 : vv 21 = _ := (HPA.out.facts 21 (by decide) (by simp [hpre])).1 (by decide)
        rw [HV21.out] at e21
        have e15 : vv 15 = _ := (HPA.out.facts 15 (by decide) (by simp [hpre])).1 (by decide)
        rw [HV15.out] at e15
        go_simp
        have s18 := (HPA.out.facts 18 (by decide) (by simp [hpre])).2.1 rfl
        have s20 := (HPA.out.facts 20 (by decide) (by simp [hpre])).2.2 rfl
        (refine (RValid_any P _ _ (prog_decls HPB.out).1 (prog_decls HPB.out).2 k t _ _ _ _ (l1.map Prm.nm) (l2.map Prm.nm) W (HD.out.below (HX5.out.tr HPA.out.ext)) (HF.out.below (HX5.out.tr HPA.out.ext)) s18 s20 (HT.out.below (HX5.out.tr HPA.out.ext)) (by rw [List.length_map]; have := N1.out; have := HNT.out; omega) (by rw [List.length_map]; have := N2.out; have := HNT.out; omega)).mono ?_)
        rw [HG4.out]
        rintro e W' ⟨rfl, hb⟩
        exact HKk.out _ _ ⟨_, by simp [e16, e21, e15], HPA.out.put (v := .bool false) FYT.ext (by decide) hb ⟨fun _ => HV22.out.symm, fun h => absurd h (by decide), fun h => absurd h (by decide)⟩⟩
      · simp [Region.binds] at hpre
        have e22 : vv 22 = _ := (HPA.out.facts 22 (by decide) (by simp [hpre])).1 (by decide)
        rw [HV22.out] at e22
        have e15 : vv 15 = _ := (HPA.out.facts 15 (by decide) (by simp [hpre])).1 (by decide)
        rw [HV15.out] at e15
        go_simp
        exact HKk.out _ _ ⟨_, by simp [e22, e15], HPA.out.put (v := .bool true) FYT.ext (by decide) (Ext.rf _) ⟨fun _ => HV23.out.symm, fun h => absurd h (by decide), fun h => absurd h (by decide)⟩⟩
      · simp [Region.binds] at hpre
        have e15 : vv 15 = _ := (HPA.out.facts 15 (by decide) (by simp [hpre])).1 (by decide)
        rw [HV15.out] at e15
        have e23 : vv 23 = _ := (HPA.out.facts 23 (by decide) (by simp [hpre])).1 (by decide)
        rw [HV23.out] at e23
        go_simp
        exact HKk.out _ _ ⟨_, by simp [e15, e23], HPA.out.put (v := .bool true) FYT.ext (by decide) (Ext.rf _) ⟨fun _ => HV24.out.symm, fun h => absurd h (by decide), fun h => absurd h (by decide)⟩⟩
    · intro Ls a W hall hI
      obtain ⟨vv, rfl, hI⟩ := hI
      have e24 : vv 24 = _ := (hI.facts 24 (by decide) (hall 24 (by decide))).1 (by decide)
      rw [HV24.out] at e24
      have HX9 := Lib.hid (HX5.out.tr hI.ext)
      have HXB := Lib.hid hI.ext
      clear hI hall
      generalize vv 0 = x0 at *
      generalize vv 1 = x1 at *
      generalize vv 2 = x2 at *
      generalize vv 3 = x3 at *
      generalize vv 4 = x4 at *
      generalize vv 5 = x5 at *
      generalize vv 6 = x6 at *
      generalize vv 7 = x7 at *
      generalize vv 8 = x8 at *
      generalize vv 9 = x9 at *
      generalize vv 10 = x10 at *
      generalize vv 11 = x11 at *
      generalize vv 12 = x12 at *
      generalize vv 13 = x13 at *
      generalize vv 14 = x14 at *
      generalize vv 15 = x15 at *
      generalize vv 16 = x16 at *
      generalize vv 17 = x17 at *
      generalize vv 18 = x18 at *
      generalize vv 19 = x19 at *
      generalize vv 20 = x20 at *
      generalize vv 21 = x21 at *
      generalize vv 22 = x22 at *
      generalize vv 23 = x23 at *
      generalize vv 24 = x24 at *
      subst e24
      go_wp2_with fail
      (with_reducible refine (awake_any _).mono ?_)
      rintro e wz ⟨rfl, hb⟩
      have HZ := Lib.hid (HX9.out.tr hb)
      clear hb
      go_wp2
      go_ret
      exact ⟨rfl, HZ.out⟩
end Go.Proofs.YtogmjgccopmplaaGreat
