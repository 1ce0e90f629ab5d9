/- law.go: CheckOne. -/
import Derived.Test.YtogmjgccopmplaaGreatQ33
import Derived.Deep.Cut
import Derived.Deep.DeepCutAuto
namespace Go.Proofs.YtogmjgccopmplaaGreat
open Go.RowKit

set_option pp.deepTerms true in
set_option maxHeartbeats 16000000 in
set_option maxRecDepth 100000 in
theorem checkOne_any (P : Pg) (vd vf v1 v2 v3 : Value) (l1 l2 l3 : List Prm) (k : Nat) (t : Tm) (va vc : Value) (w : World) (hd : RDecls w vd P.decls) (hf : RFns w vf P.funs) (hfine : FinePg P) (h1 : RPrms w v1 l1) (h2 : RPrms w v2 l2) (h3 : RPrms w v3 l3) (ht : RT w k t va vc)
    (hu : uT t ≤ 40000000) (n1 : l1.length ≤ 1050000) (n2 : l2.length ≤ 1050000) (n3 : l3.length ≤ 1050000) :
    Calls Tryz.prog 5 #[pV vd vf, v1, v2, v3, tV t va vc] w fun e w' => e = .returned (.bool true) ∧ Ext w w' := by
  have HD := Lib.hid hd; have HF := Lib.hid hf; have HFI := Lib.hid hfine; have H1 := Lib.hid h1; have H2 := Lib.hid h2; have H3 := Lib.hid h3; have HT := Lib.hid ht; have HU := Lib.hid hu
  have HFT := Lib.hid (fine_of (Nat.le_trans hu (by decide)))
  have HWT : Hid (wT t ≤ 50000000) := Nat.le_trans (Nat.le_trans (wT_le _ t (Nat.le_refl _)) hu) (by decide)
  have N1 := Lib.hid n1; have N2 := Lib.hid n2; have N3 := Lib.hid n3
  obtain ⟨Ad, cd, rfl, -, -⟩ := hd.form
  obtain ⟨Af, cf, rfl, -, -⟩ := hf.form
  obtain ⟨A1, c1, rfl, -, -⟩ := h1.form
  obtain ⟨A2, c2, rfl, -, -⟩ := h2.form
  obtain ⟨A3, c3, rfl, -, -⟩ := h3.form
  obtain ⟨_, ⟨Aa, ca, rfl, -, -⟩, ⟨Bb, cb, rfl, -, -⟩⟩ := ht.form
  clear hd hf hfine h1 h2 h3 ht hu n1 n2 n3
  have HE0 := Lib.hid (Ext.al w (.cells #[.slice Ad P.decls.length cd, .slice Af P.funs.length cf] 25))
  have HE1 := Lib.hid (Ext.al (w.alloc (.cells #[.slice Ad P.decls.length cd, .slice Af P.funs.length cf] 25)) (.cells #[.int .i64 t.op, .int .i64 t.n, .string t.nm, .int .i64 t.ty, .slice Aa t.args.length ca, .slice Bb t.cls.length cb] 41))
  have HBP0 := Lib.hid (heapNew w (.cells #[.slice Ad P.decls.length cd, .slice Af P.funs.length cf] 25))
  have HBP := Lib.hid ((HE1.out.block _ (heap_lt HBP0.out)).trans HBP0.out)
  have HBT := Lib.hid (box6b w (.cells #[.slice Ad P.decls.length cd, .slice Af P.funs.length cf] 25) (.int .i64 t.op) (.int .i64 t.n) (.string t.nm) (.int .i64 t.ty) (.slice Aa t.args.length ca) (.slice Bb t.cls.length cb))
  have HE : Hid (Ext w _) := Lib.hid (HE0.out.tr HE1.out)
  clear HBP0 HE0 HE1
  have p0 := cellAt HBP.out 0
  have p1 := cellAt HBP.out 1
  have hmx : Tryz.prog.follows .mixedOrders = true := by kernel_rfl
  go_enter Tryz.func5, Tryz.ntmps5
  go_wp2_with fail
  generalize World.alloc (World.alloc w _) _ = w1 at *
  clear p0 p1
  (with_reducible refine (Few_any P _ _ 700 _ (HD.out.below HE.out) (HF.out.below HE.out) (by omega) (by omega)).mono ?_)
  rintro e w2 ⟨q, rfl, hb⟩
  have HX2 := Lib.hid (HE.out.tr hb)
  have HBP := Lib.hid (((hb).block _ (heap_lt HBP.out)).trans HBP.out)
  have HBT := Lib.hid (((hb).block _ (heap_lt HBT.out)).trans HBT.out)
  clear hb
  obtain ⟨t0, t1, t2, t3, t4, t5⟩ := cells6 HBT.out
  cases q
  · go_wp2_with fail
    (with_reducible refine (awake_any _).mono ?_)
    rintro e wz ⟨rfl, hb⟩
    have HZ := Lib.hid (HX2.out.tr hb)
    clear hb
    go_wp2
    go_ret
    exact ⟨rfl, HZ.out⟩
  go_wp2_with fail
  (with_reducible refine (Fits_any k t _ _ 700 _ (HT.out.below HX2.out) (by omega) (by omega)).mono ?_)
  rintro e w3 ⟨q, rfl, hb⟩
  have HX3 := Lib.hid (HX2.out.tr hb)
  have HBP := Lib.hid (((hb).block _ (heap_lt HBP.out)).trans HBP.out)
  have HBT := Lib.hid (((hb).block _ (heap_lt HBT.out)).trans HBT.out)
  clear hb t0 t1 t2 t3 t4 t5
  cases q
  · go_wp2_with fail
    (with_reducible refine (awake_any _).mono ?_)
    rintro e wz ⟨rfl, hb⟩
    have HZ := Lib.hid (HX3.out.tr hb)
    clear hb
    go_wp2
    go_ret
    exact ⟨rfl, HZ.out⟩
  obtain ⟨t0, t1, t2, t3, t4, t5⟩ := cells6 HBT.out
  have p0 := cellAt HBP.out 0
  have p1 := cellAt HBP.out 1
  go_wp2_with fail
  (with_reducible refine (Typec_any P _ _ _ _ l1 l2 k t _ _ _ (HD.out.below HX3.out) (HF.out.below HX3.out) HFI.out (H1.out.below HX3.out) (H2.out.below HX3.out) (by have := N1.out; omega) (by have := N2.out; omega) (HT.out.below HX3.out) HFT.out (by have := N1.out; have := N2.out; have := HWT.out; unfold maxLen; omega) (by have := HU.out; omega)).mono ?_)
  rintro e w4 ⟨he, hb⟩
  have HX4 := Lib.hid (HX3.out.tr hb)
  have HBP := Lib.hid (((hb).block _ (heap_lt HBP.out)).trans HBP.out)
  have HBT := Lib.hid (((hb).block _ (heap_lt HBT.out)).trans HBT.out)
  clear hb t0 t1 t2 t3 t4 t5 p0 p1
  rcases he.cases with ⟨c, hc1, hc2, rfl⟩ | ⟨hg, fv, fl, hfv, rfl⟩
  · clear he
    have hd1 : ((c : Int) != 0) = true := by simp [hc1]
    have hd2 : ((c : Int) != 40) = true := by simp [hc2]
    have hd3 : ((c : Int) == 0) = false := by simp [hc1]
    have hd4 : ((c : Int) == 40) = false := by simp [hc2]
    clear hc1 hc2
    go_wp2_with fail
    (with_reducible refine (awake_any _).mono ?_)
    rintro e wz ⟨rfl, hb⟩
    have HZ := Lib.hid (HX4.out.tr hb)
    clear hb
    go_wp2
    go_ret
    exact ⟨rfl, HZ.out⟩
  have HG := Lib.hid hg; have HFV := Lib.hid hfv
  clear hg hfv he
  obtain ⟨ty, hty⟩ : ∃ y, (typP P l1 l2 fv fl t).1 = y := ⟨_, rfl⟩
  obtain ⟨er, her⟩ : ∃ y, (typP P l1 l2 fv fl t).2 = y := ⟨_, rfl⟩
  have h2w := typP_two P l1 l2 fv fl t
  rw [hty, her] at h2w
  rw [hty, her]
  have HTY := Lib.hid hty; have HER := Lib.hid her; have H2W := Lib.hid h2w
  clear hty her h2w
  rcases H2W.out with h | ⟨h, h'⟩
  all_goals (first | subst h h' | subst h)
  all_goals clear H2W
  · have HT0 := Lib.hid (cells6 HBT.out)
    obtain ⟨t0, t1, t2, t3, t4, t5⟩ := HT0.out
    go_wp2_with fail
    (with_reducible refine (refFree_any k t _ _ _ (HT.out.below HX4.out) (by have := HU.out; omega)).mono ?_)
    rintro e w5 ⟨r1, r2, m1, m2, rfl, hr, hb⟩
    have hfm : FVs t m1 m2 := ⟨fun s => by rw [hr.m1 s]; simp [hasS], hr.o1, fun s => by rw [hr.m2 s]; simp [hasS], hr.o2⟩
    obtain ⟨rfl, rfl⟩ := HFV.out.uniq hfm
    obtain ⟨B1, d1, rfl, -, -⟩ := hr.s1.form
    obtain ⟨B2, d2, rfl, -, -⟩ := hr.s2.form
    have HR1 := Lib.hid hr.s1; have HR2 := Lib.hid hr.s2
    have HX5 := Lib.hid (HX4.out.tr hb)
    have HBP5 := Lib.hid ((hb.block _ (heap_lt HBP.out)).trans HBP.out)
    have HBT5 := Lib.hid ((hb.block _ (heap_lt HBT.out)).trans HBT.out)
    clear hb hr hfm t0 t1 t2 t3 t4 t5 HT0
    go_upto_region 7 with fail
    have hgo := HG.out.only HFV.out
    have HGO := Lib.hid hgo.1
    have HGT : Hid (typP P (onlyL l1 m1) (onlyL l2 m2) m1 m2 t = (ty, (0 : Int))) := by show _ = _; rw [hgo.2]; exact Prod.ext HTY.out HER.out
    have HON1 : Hid ((onlyL l1 m1).length ≤ 2200000) := by show _ ≤ _; unfold onlyL; have := List.length_filter_le (fun a : Prm => hasS m1 a.nm) l1; have := N1.out; omega
    have HON2 : Hid ((onlyL l2 m2).length ≤ 2200000) := by show _ ≤ _; unfold onlyL; have := List.length_filter_le (fun a : Prm => hasS m2 a.nm) l2; have := N2.out; omega
    clear hgo
    go_cut [15, 16] from 52 to 153 (fun v15 v16 W => v15 = .int .i64 ty ∧ v16 = .int .i64 (0 : Int) ∧ Ext w5 W)
    case first =>
      obtain ⟨vals, hvals⟩ : ∃ vals : Nat → Value, vals = fun j => if j = 0 then pV (.slice Ad P.decls.length cd) (.slice Af P.funs.length cf) else if j = 1 then .slice A1 l1.length c1 else if j = 2 then .slice B1 m1.length d1 else if j = 4 then .slice A2 l2.length c2 else if j = 5 then .slice B2 m2.length d2 else if j = 7 then tV t (.slice Aa t.args.length ca) (.slice Bb t.cls.length cb) else if j = 8 then .tuple #[.int .i64 ty, .int .i64 (0 : Int)] else if j = 9 then .tuple #[.int .i64 ty, .int .i64 (0 : Int)] else if j = 10 then .int .i64 ty else if j = 11 then .int .i64 (0 : Int) else if j = 12 then .int .i64 ty else if j = 13 then .int .i64 (0 : Int) else undef := ⟨_, rfl⟩
      have HV0 : Hid (vals 0 = pV (.slice Ad P.decls.length cd) (.slice Af P.funs.length cf)) := by show _ = _; rw [hvals]; rfl
      have HV1 : Hid (vals 1 = .slice A1 l1.length c1) := by show _ = _; rw [hvals]; rfl
      have HV2 : Hid (vals 2 = .slice B1 m1.length d1) := by show _ = _; rw [hvals]; rfl
      have HV4 : Hid (vals 4 = .slice A2 l2.length c2) := by show _ = _; rw [hvals]; rfl
      have HV5 : Hid (vals 5 = .slice B2 m2.length d2) := by show _ = _; rw [hvals]; rfl
      have HV7 : Hid (vals 7 = tV t (.slice Aa t.args.length ca) (.slice Bb t.cls.length cb)) := by show _ = _; rw [hvals]; rfl
      have HV8 : Hid (vals 8 = .tuple #[.int .i64 ty, .int .i64 (0 : Int)]) := by show _ = _; rw [hvals]; rfl
      have HV9 : Hid (vals 9 = .tuple #[.int .i64 ty, .int .i64 (0 : Int)]) := by show _ = _; rw [hvals]; rfl
      have HV10 : Hid (vals 10 = .int .i64 ty) := by show _ = _; rw [hvals]; rfl
      have HV11 : Hid (vals 11 = .int .i64 (0 : Int)) := by show _ = _; rw [hvals]; rfl
      have HV12 : Hid (vals 12 = .int .i64 ty) := by show _ = _; rw [hvals]; rfl
      have HV13 : Hid (vals 13 = .int .i64 (0 : Int)) := by show _ = _; rw [hvals]; rfl
      clear hvals
      refine wp_region_invCE hmx (by kernel_rfl) (fun Ls a W => ∃ vv : Nat → Value, a = { tmps := #[pV (.slice Ad P.decls.length cd) (.slice Af P.funs.length cf), .slice A1 l1.length c1, .slice A2 l2.length c2, .slice A3 l3.length c3, tV t (.slice Aa t.args.length ca) (.slice Bb t.cls.length cb), .pointer (some ⟨w.heap.size, 0, none⟩), undef, undef, undef, .pointer (some ⟨w.heap.size + 1, 0, none⟩), .bool false, .int .i64 ty, .int .i64 (0 : Int), .slice B1 m1.length d1, .slice B2 m2.length d2, vv 12, vv 13, undef, undef, pV (.slice Ad P.decls.length cd) (.slice Af P.funs.length cf), .bool true, .bool false, .bool false, tV t (.slice Aa t.args.length ca) (.slice Bb t.cls.length cb), .bool true, .bool false, .bool false, undef, .tuple #[.int .i64 ty, .int .i64 (0 : Int)], pV (.slice Ad P.decls.length cd) (.slice Af P.funs.length cf), .slice A1 l1.length c1, .slice A2 l2.length c2, tV t (.slice Aa t.args.length ca) (.slice Bb t.cls.length cb), .tuple #[.int .i64 ty, .int .i64 (0 : Int)], .int .i64 ty, .int .i64 (0 : Int), .int .i64 (0 : Int), .bool false, .bool false, undef, undef, .bool false, undef, undef, undef, undef, undef, .tuple #[.slice B1 m1.length d1, .slice B2 m2.length d2], tV t (.slice Aa t.args.length ca) (.slice Bb t.cls.length cb), .tuple #[.slice B1 m1.length d1, .slice B2 m2.length d2], .slice B1 m1.length d1, .slice B2 m2.length d2, vv 9, vv 0, vv 1, vv 2, vv 3, vv 4, vv 5, vv 6, vv 7, vv 8, vv 10, vv 11, undef, undef, undef, undef, undef, undef, undef, undef, undef, undef, undef, undef, undef, undef, undef, undef, undef, undef, undef, undef, undef, undef, undef, undef, undef, undef, undef, undef, undef, undef, undef, undef, undef, undef, undef, undef, undef, undef, undef, undef, undef, undef, undef, undef, undef, undef, undef, undef, undef, undef, undef, undef, undef, undef, undef, undef, undef, undef, undef, undef, undef, undef, undef, undef, undef, undef, undef, undef, undef, undef, undef, undef, undef, undef, undef, undef, undef, undef, undef, undef, undef, undef, undef, undef, undef, undef, undef, undef, undef, undef], defers := [] } ∧ PhA w5 (FO vals (onlyL l1 m1) (onlyL l2 m2)) 14 Ls W vv) ?_ ?_ ?_
      · exact ⟨fun _ => undef, rfl, PhA.zero _ _ _ _⟩
      · intro Ls a W i op ho hpre hl hc hI Kk HKk
        have hi : i < 14 := (Array.getElem?_eq_some_iff.1 ho).1
        obtain ⟨vv, rfl, hI⟩ := hI
        have HPA := Lib.hid hI
        have hcs : i = 0 ∨ i = 1 ∨ i = 2 ∨ i = 3 ∨ i = 4 ∨ i = 5 ∨ i = 6 ∨ i = 7 ∨ i = 8 ∨ i = 9 ∨ i = 10 ∨ i = 11 ∨ i = 12 ∨ i = 13 := by omega
        rcases hcs with rfl | rfl | rfl | rfl | rfl | rfl | rfl | rfl | rfl | rfl | rfl | rfl | rfl | rfl
        all_goals
          obtain rfl := Option.some.inj ho
          clear ho hi hI
        · clear hpre
          have c0 := HPA.out.ext.keep (cellAt HBP5.out 0)
          have c1 := HPA.out.ext.keep (cellAt HBP5.out 1)
          go_simp
          exact HKk.out _ _ ⟨_, rfl, HPA.out.put (v := pV (.slice Ad P.decls.length cd) (.slice Af P.funs.length cf)) FO.ext (by decide) (Ext.rf _) ⟨fun _ => HV0.out.symm, fun h => absurd h (by decide), fun h => absurd h (by decide)⟩⟩
        · clear hpre
          go_simp
          exact HKk.out _ _ ⟨_, rfl, HPA.out.put (v := .slice A1 l1.length c1) FO.ext (by decide) (Ext.rf _) ⟨fun _ => HV1.out.symm, fun h => absurd h (by decide), fun h => absurd h (by decide)⟩⟩
        · clear hpre
          go_simp
          exact HKk.out _ _ ⟨_, rfl, HPA.out.put (v := .slice B1 m1.length d1) FO.ext (by decide) (Ext.rf _) ⟨fun _ => HV2.out.symm, fun h => absurd h (by decide), fun h => absurd h (by decide)⟩⟩
        · simp [Region.binds] at hpre
          have e1 : vv 1 = _ := (HPA.out.facts 1 (by decide) (by simp [hpre])).1 (by decide)
          rw [HV1.out] at e1
          have e2 : vv 2 = _ := (HPA.out.facts 2 (by decide) (by simp [hpre])).1 (by decide)
          rw [HV2.out] at e2
          go_simp
          (refine (only_any _ _ l1 m1 W (H1.out.below (HX5.out.tr HPA.out.ext)) (HR1.out.below HPA.out.ext) (by have := N1.out; have := N2.out; omega)).mono ?_)
          rintro e W' ⟨⟨v, rfl, hr⟩, hb⟩
          obtain ⟨C1, g1, rfl, -, -⟩ := hr.form
          exact HKk.out _ _ ⟨_, by simp [e1, e2], HPA.out.put (v := .slice C1 (onlyL l1 m1).length g1) FO.ext (by decide) hb ⟨fun h => absurd h (by decide), fun _ => hr, fun h => absurd h (by decide)⟩⟩
        · clear hpre
          go_simp
          exact HKk.out _ _ ⟨_, rfl, HPA.out.put (v := .slice A2 l2.length c2) FO.ext (by decide) (Ext.rf _) ⟨fun _ => HV4.out.symm, fun h => absurd h (by decide), fun h => absurd h (by decide)⟩⟩
        · clear hpre
          go_simp
          exact HKk.out _ _ ⟨_, rfl, HPA.out.put (v := .slice B2 m2.length d2) FO.ext (by decide) (Ext.rf _) ⟨fun _ => HV5.out.symm, fun h => absurd h (by decide), fun h => absurd h (by decide)⟩⟩
        · simp [Region.binds] at hpre
          have e4 : vv 4 = _ := (HPA.out.facts 4 (by decide) (by simp [hpre])).1 (by decide)
          rw [HV4.out] at e4
          have e5 : vv 5 = _ := (HPA.out.facts 5 (by decide) (by simp [hpre])).1 (by decide)
          rw [HV5.out] at e5
          go_simp
          (refine (only_any _ _ l2 m2 W (H2.out.below (HX5.out.tr HPA.out.ext)) (HR2.out.below HPA.out.ext) (by have := N1.out; have := N2.out; omega)).mono ?_)
          rintro e W' ⟨⟨v, rfl, hr⟩, hb⟩
          obtain ⟨C1, g1, rfl, -, -⟩ := hr.form
          exact HKk.out _ _ ⟨_, by simp [e4, e5], HPA.out.put (v := .slice C1 (onlyL l2 m2).length g1) FO.ext (by decide) hb ⟨fun h => absurd h (by decide), fun h => absurd h (by decide), fun _ => hr⟩⟩
        · clear hpre
          have c0 := HPA.out.ext.keep (cellAt HBT5.out 0)
          have c1 := HPA.out.ext.keep (cellAt HBT5.out 1)
          have c2 := HPA.out.ext.keep (cellAt HBT5.out 2)
          have c3 := HPA.out.ext.keep (cellAt HBT5.out 3)
          have c4 := HPA.out.ext.keep (cellAt HBT5.out 4)
          have c5 := HPA.out.ext.keep (cellAt HBT5.out 5)
          go_simp
          exact HKk.out _ _ ⟨_, rfl, HPA.out.put (v := tV t (.slice Aa t.args.length ca) (.slice Bb t.cls.length cb)) FO.ext (by decide) (Ext.rf _) ⟨fun _ => HV7.out.symm, fun h => absurd h (by decide), fun h => absurd h (by decide)⟩⟩
        · simp [Region.binds] at hpre
          have e0 : vv 0 = _ := (HPA.out.facts 0 (by decide) (by simp [hpre])).1 (by decide)
          rw [HV0.out] at e0
          have e7 : vv 7 = _ := (HPA.out.facts 7 (by decide) (by simp [hpre])).1 (by decide)
          rw [HV7.out] at e7
          have s3 := (HPA.out.facts 3 (by decide) (by simp [hpre])).2.1 rfl
          have s6 := (HPA.out.facts 6 (by decide) (by simp [hpre])).2.2 rfl
          go_simp
          (refine (Typec_any P _ _ _ _ (onlyL l1 m1) (onlyL l2 m2) k t _ _ W (HD.out.below (HX5.out.tr HPA.out.ext)) (HF.out.below (HX5.out.tr HPA.out.ext)) HFI.out s3 s6 HON1.out HON2.out (HT.out.below (HX5.out.tr HPA.out.ext)) HFT.out (by have := HON1.out; have := HON2.out; have := HWT.out; unfold maxLen; omega) (by have := HU.out; omega)).mono ?_)
          rintro e W' ⟨he, hb⟩
          have he2 := he.good HGO.out HFV.out
          rw [HGT.out] at he2
          subst he2
          clear he
          exact HKk.out _ _ ⟨_, by simp [e0, e7], HPA.out.put (v := .tuple #[.int .i64 ty, .int .i64 (0 : Int)]) FO.ext (by decide) hb ⟨fun _ => HV8.out.symm, fun h => absurd h (by decide), fun h => absurd h (by decide)⟩⟩
        · simp [Region.binds] at hpre
          have e8 : vv 8 = _ := (HPA.out.facts 8 (by decide) (by simp [hpre])).1 (by decide)
          rw [HV8.out] at e8
          go_simp
          exact HKk.out _ _ ⟨_, by simp [e8], HPA.out.put (v := .tuple #[.int .i64 ty, .int .i64 (0 : Int)]) FO.ext (by decide) (Ext.rf _) ⟨fun _ => HV9.out.symm, fun h => absurd h (by decide), fun h => absurd h (by decide)⟩⟩
        · simp [Region.binds] at hpre
          have e9 : vv 9 = _ := (HPA.out.facts 9 (by decide) (by simp [hpre])).1 (by decide)
          rw [HV9.out] at e9
          go_simp
          exact HKk.out _ _ ⟨_, by simp [e9], HPA.out.put (v := .int .i64 ty) FO.ext (by decide) (Ext.rf _) ⟨fun _ => HV10.out.symm, fun h => absurd h (by decide), fun h => absurd h (by decide)⟩⟩
        · simp [Region.binds] at hpre
          have e9 : vv 9 = _ := (HPA.out.facts 9 (by decide) (by simp [hpre])).1 (by decide)
          rw [HV9.out] at e9
          go_simp
          exact HKk.out _ _ ⟨_, by simp [e9], HPA.out.put (v := .int .i64 (0 : Int)) FO.ext (by decide) (Ext.rf _) ⟨fun _ => HV11.out.symm, fun h => absurd h (by decide), fun h => absurd h (by decide)⟩⟩
        · simp [Region.binds] at hpre
          have e10 : vv 10 = _ := (HPA.out.facts 10 (by decide) (by simp [hpre])).1 (by decide)
          rw [HV10.out] at e10
          go_simp
          exact HKk.out _ _ ⟨_, by simp [e10], HPA.out.put (v := .int .i64 ty) FO.ext (by decide) (Ext.rf _) ⟨fun _ => HV12.out.symm, fun h => absurd h (by decide), fun h => absurd h (by decide)⟩⟩
        · simp [Region.binds] at hpre
          have e11 : vv 11 = _ := (HPA.out.facts 11 (by decide) (by simp [hpre])).1 (by decide)
          rw [HV11.out] at e11
          go_simp
          exact HKk.out _ _ ⟨_, by simp [e11], HPA.out.put (v := .int .i64 (0 : Int)) FO.ext (by decide) (Ext.rf _) ⟨fun _ => HV13.out.symm, fun h => absurd h (by decide), fun h => absurd h (by decide)⟩⟩
      · intro Ls a W hall hI
        obtain ⟨vv, rfl, hI⟩ := hI
        have e12 : vv 12 = _ := (hI.facts 12 (by decide) (hall 12 (by decide))).1 (by decide)
        have e13 : vv 13 = _ := (hI.facts 13 (by decide) (hall 13 (by decide))).1 (by decide)
        rw [HV12.out] at e12
        rw [HV13.out] at e13
        have HX := Lib.hid hI.ext
        clear hI hall
        rw [e12, e13]
        go_wp2
        go_meet
        exact ⟨rfl, rfl, HX.out⟩
    case rest =>
    obtain ⟨rfl, rfl, hb⟩ := hcut
    have HX6 := Lib.hid (HX5.out.tr hb)
    have HBP6 := Lib.hid ((hb.block _ (heap_lt HBP5.out)).trans HBP5.out)
    have HBT6 := Lib.hid ((hb.block _ (heap_lt HBT5.out)).trans HBT5.out)
    clear hb
    generalize wc = w6 at *
    have p0 := cellAt HBP6.out 0
    have p1 := cellAt HBP6.out 1
    go_wp2_with fail
    (with_reducible refine (law_have_any P _ _ _ l3 _ (HD.out.below HX6.out) ⟨_, _, _, rfl⟩ (H3.out.below HX6.out)).mono ?_)
    rintro e w7 ⟨rfl, hb⟩
    have HX7 := Lib.hid (HX6.out.tr hb)
    have HBP7 := Lib.hid ((hb.block _ (heap_lt HBP6.out)).trans HBP6.out)
    have HBT7 := Lib.hid ((hb.block _ (heap_lt HBT6.out)).trans HBT6.out)
    clear hb p0 p1
    obtain ⟨q, hq⟩ : ∃ q, haveL P l3 = q := ⟨_, rfl⟩
    rw [hq]
    have HQ := Lib.hid hq
    clear hq
    go_upto_if 74 with fail
    go_cut [15, 16] from 75 to 153 (fun v15 v16 W => v15 = .int .i64 ty ∧ v16 = .int .i64 (0 : Int) ∧ Ext w7 W)
    case first =>
      cases q
      · go_wp2
        go_meet
        exact ⟨rfl, rfl, Ext.rf _⟩
      have hgm := HG.out.add HFV.out HQ.out
      have HGM := Lib.hid hgm.1
      have HGN : Hid (typP P (l3 ++ l1) (l3 ++ l2) m1 m2 t = (ty, (0 : Int))) := by show _ = _; rw [hgm.2]; exact Prod.ext HTY.out HER.out
      clear hgm
      go_upto_region 11 with fail
      obtain ⟨vals, hvals⟩ : ∃ vals : Nat → Value, vals = fun j => if j = 0 then pV (.slice Ad P.decls.length cd) (.slice Af P.funs.length cf) else if j = 1 then .slice A3 l3.length c3 else if j = 3 then .slice A1 l1.length c1 else if j = 5 then .slice A3 l3.length c3 else if j = 7 then .slice A2 l2.length c2 else if j = 9 then tV t (.slice Aa t.args.length ca) (.slice Bb t.cls.length cb) else if j = 10 then .tuple #[.int .i64 ty, .int .i64 (0 : Int)] else if j = 11 then .tuple #[.int .i64 ty, .int .i64 (0 : Int)] else if j = 12 then .int .i64 ty else if j = 13 then .int .i64 (0 : Int) else if j = 14 then .int .i64 ty else if j = 15 then .int .i64 (0 : Int) else undef := ⟨_, rfl⟩
      have HV0 : Hid (vals 0 = pV (.slice Ad P.decls.length cd) (.slice Af P.funs.length cf)) := by show _ = _; rw [hvals]; rfl
      have HV1 : Hid (vals 1 = .slice A3 l3.length c3) := by show _ = _; rw [hvals]; rfl
      have HV3 : Hid (vals 3 = .slice A1 l1.length c1) := by show _ = _; rw [hvals]; rfl
      have HV5 : Hid (vals 5 = .slice A3 l3.length c3) := by show _ = _; rw [hvals]; rfl
      have HV7 : Hid (vals 7 = .slice A2 l2.length c2) := by show _ = _; rw [hvals]; rfl
      have HV9 : Hid (vals 9 = tV t (.slice Aa t.args.length ca) (.slice Bb t.cls.length cb)) := by show _ = _; rw [hvals]; rfl
      have HV10 : Hid (vals 10 = .tuple #[.int .i64 ty, .int .i64 (0 : Int)]) := by show _ = _; rw [hvals]; rfl
      have HV11 : Hid (vals 11 = .tuple #[.int .i64 ty, .int .i64 (0 : Int)]) := by show _ = _; rw [hvals]; rfl
      have HV12 : Hid (vals 12 = .int .i64 ty) := by show _ = _; rw [hvals]; rfl
      have HV13 : Hid (vals 13 = .int .i64 (0 : Int)) := by show _ = _; rw [hvals]; rfl
      have HV14 : Hid (vals 14 = .int .i64 ty) := by show _ = _; rw [hvals]; rfl
      have HV15 : Hid (vals 15 = .int .i64 (0 : Int)) := by show _ = _; rw [hvals]; rfl
      clear hvals
      refine wp_region_invCE hmx (by kernel_rfl) (fun Ls a W => ∃ vv : Nat → Value, a = { tmps := #[pV (.slice Ad P.decls.length cd) (.slice Af P.funs.length cf), .slice A1 l1.length c1, .slice A2 l2.length c2, .slice A3 l3.length c3, tV t (.slice Aa t.args.length ca) (.slice Bb t.cls.length cb), .pointer (some ⟨w.heap.size, 0, none⟩), undef, undef, undef, .pointer (some ⟨w.heap.size + 1, 0, none⟩), .bool false, .int .i64 ty, .int .i64 (0 : Int), .slice B1 m1.length d1, .slice B2 m2.length d2, vv 14, vv 15, undef, undef, pV (.slice Ad P.decls.length cd) (.slice Af P.funs.length cf), .bool true, .bool false, .bool false, tV t (.slice Aa t.args.length ca) (.slice Bb t.cls.length cb), .bool true, .bool false, .bool false, undef, .tuple #[.int .i64 ty, .int .i64 (0 : Int)], pV (.slice Ad P.decls.length cd) (.slice Af P.funs.length cf), .slice A1 l1.length c1, .slice A2 l2.length c2, tV t (.slice Aa t.args.length ca) (.slice Bb t.cls.length cb), .tuple #[.int .i64 ty, .int .i64 (0 : Int)], .int .i64 ty, .int .i64 (0 : Int), .int .i64 (0 : Int), .bool false, .bool false, undef, undef, .bool false, undef, undef, undef, undef, undef, .tuple #[.slice B1 m1.length d1, .slice B2 m2.length d2], tV t (.slice Aa t.args.length ca) (.slice Bb t.cls.length cb), .tuple #[.slice B1 m1.length d1, .slice B2 m2.length d2], .slice B1 m1.length d1, .slice B2 m2.length d2, u52, u53, u54, u55, u56, u57, u58, u59, u60, u61, u62, u63, .int .i64 ty, .int .i64 ty, .bool false, .bool false, .int .i64 (0 : Int), .int .i64 (0 : Int), .bool false, .bool false, pV (.slice Ad P.decls.length cd) (.slice Af P.funs.length cf), .slice A3 l3.length c3, .bool true, vv 11, vv 0, vv 1, vv 2, vv 3, vv 4, vv 5, vv 6, vv 7, vv 8, vv 9, vv 10, vv 12, vv 13, u89, u90, u91, u92, u93, u94, u95, u96, u97, u98, u99, u100, u101, u102, u103, u104, u105, u106, u107, u108, u109, u110, u111, u112, u113, u114, u115, u116, u117, u118, u119, u120, u121, u122, u123, u124, u125, u126, u127, u128, u129, u130, u131, u132, u133, u134, u135, u136, u137, u138, u139, u140, u141, u142, u143, u144, u145, u146, u147, u148, u149, u150, u151, u152, u153], defers := [] } ∧ R11 vals l1 l2 l3 w7 Ls W vv) ?_ ?_ ?_
      · exact ⟨fun j => if j = 0 then u76 else if j = 1 then u77 else if j = 2 then u78 else if j = 3 then u79 else if j = 4 then u80 else if j = 5 then u81 else if j = 6 then u82 else if j = 7 then u83 else if j = 8 then u84 else if j = 9 then u85 else if j = 10 then u86 else if j = 11 then u75 else if j = 12 then u87 else if j = 13 then u88 else if j = 14 then .int .i64 ty else if j = 15 then .int .i64 (0 : Int) else undef, rfl, R11.zero _ _ _ _ _ _⟩
      · intro Ls a W i op ho hpre hl hc hI Kk HKk
        have hi : i < 16 := (Array.getElem?_eq_some_iff.1 ho).1
        obtain ⟨vv, rfl, hI⟩ := hI
        have HPA := Lib.hid hI
        have hcs : i = 0 ∨ i = 1 ∨ i = 2 ∨ i = 3 ∨ i = 4 ∨ i = 5 ∨ i = 6 ∨ i = 7 ∨ i = 8 ∨ i = 9 ∨ i = 10 ∨ i = 11 ∨ i = 12 ∨ i = 13 ∨ i = 14 ∨ i = 15 := by omega
        rcases hcs with rfl | rfl | rfl | rfl | rfl | rfl | rfl | rfl | rfl | rfl | rfl | rfl | rfl | rfl | rfl | rfl
        all_goals
          obtain rfl := Option.some.inj ho
          clear ho hi hI
        · clear hpre
          have c0 := HPA.out.ext.keep (cellAt HBP7.out 0)
          have c1 := HPA.out.ext.keep (cellAt HBP7.out 1)
          go_simp
          exact HKk.out _ _ ⟨_, rfl, HPA.out.put (i := 0) (v := pV (.slice Ad P.decls.length cd) (.slice Af P.funs.length cf)) (by decide) (Ext.rf _) HV0.out.symm⟩
        · clear hpre
          go_simp
          exact HKk.out _ _ ⟨_, rfl, HPA.out.put (i := 1) (v := .slice A3 l3.length c3) (by decide) (Ext.rf _) HV1.out.symm⟩
        · have e1 : vv 1 = _ := HPA.out.facts 1 (by decide) (by decide) (hpre ⟨1, .data⟩ (by simp) rfl)
          rw [HV1.out] at e1
          have hno : Ls 4 = false := by
            cases hq : Ls 4
            · rfl
            · have := hc 4 _ rfl hq ⟨2, .data⟩ (by simp) rfl
              rw [hl] at this; cases this
          split
          · refine app_row (t := 37) (e := 74) (size := 2) (bytes := 24) Tryz.undPrm Tryz.infoPrm (by decide) (by decide) (.const (.slice none 0 0)) (.tmp 77) rfl w7.heap.size (.slice none 0 0) 0 [] rfl ⟨rfl, .inl ⟨rfl, rfl⟩⟩ A3 l3.length c3 (prmCells l3) e1 (H3.out.below (HX7.out.tr HPA.out.ext)).src (prmCells_one l3) (by have := N3.out; unfold maxLen; omega) (by have := N3.out; omega) HPA.out.ext.size (fun v' W' ho hg hat => ?_)
            rw [Nat.zero_add, List.nil_append] at ho
            exact HKk.out _ _ ⟨fun j => if j = 2 then v' else vv j, rfl, HPA.out.put2 hl hno hg ho hat⟩
          · rename_i hw
            exact absurd (by rfl) hw
        · clear hpre
          go_simp
          exact HKk.out _ _ ⟨_, rfl, HPA.out.put (i := 3) (v := .slice A1 l1.length c1) (by decide) (Ext.rf _) HV3.out.symm⟩
        · have e3 : vv 3 = _ := HPA.out.facts 3 (by decide) (by decide) (hpre ⟨3, .data⟩ (by simp) rfl)
          rw [HV3.out] at e3
          have h2 := hpre ⟨2, .data⟩ (by simp) rfl
          have ho0 := HPA.out.a2 h2 hl
          split
          · refine app_row (t := 37) (e := 74) (size := 2) (bytes := 24) Tryz.undPrm Tryz.infoPrm (by decide) (by decide) (.tmp 78) (.tmp 79) rfl w7.heap.size (vv 2) l3.length (prmCells l3) rfl ho0 A1 l1.length c1 (prmCells l1) e3 (H1.out.below (HX7.out.tr HPA.out.ext)).src (prmCells_one l1) (by have := N1.out; have := N2.out; have := N3.out; unfold maxLen; omega) (by have := N1.out; have := N2.out; have := N3.out; omega) HPA.out.ext.size (fun v' W' ho hg hat => ?_)
            have ho : OwnP W' w7.heap.size v' (l3 ++ l1) := by
              unfold OwnP
              rw [List.length_append, prmCells_app]; exact ho
            exact HKk.out _ _ ⟨fun j => if j = 4 then v' else vv j, rfl, HPA.out.put4 h2 hl hg ho hat⟩
          · rename_i hw
            exact absurd (by rfl) hw
        · clear hpre
          go_simp
          exact HKk.out _ _ ⟨_, rfl, HPA.out.put (i := 5) (v := .slice A3 l3.length c3) (by decide) (Ext.rf _) HV5.out.symm⟩
        · have e5 : vv 5 = _ := HPA.out.facts 5 (by decide) (by decide) (hpre ⟨5, .data⟩ (by simp) rfl)
          rw [HV5.out] at e5
          have hno : Ls 8 = false := by
            cases hq : Ls 8
            · rfl
            · have := hc 8 _ rfl hq ⟨6, .data⟩ (by simp) rfl
              rw [hl] at this; cases this
          split
          · refine app_row (t := 37) (e := 74) (size := 2) (bytes := 24) Tryz.undPrm Tryz.infoPrm (by decide) (by decide) (.const (.slice none 0 0)) (.tmp 81) rfl w7.heap.size (.slice none 0 0) 0 [] rfl ⟨rfl, .inl ⟨rfl, rfl⟩⟩ A3 l3.length c3 (prmCells l3) e5 (H3.out.below (HX7.out.tr HPA.out.ext)).src (prmCells_one l3) (by have := N3.out; unfold maxLen; omega) (by have := N3.out; omega) HPA.out.ext.size (fun v' W' ho hg hat => ?_)
            rw [Nat.zero_add, List.nil_append] at ho
            exact HKk.out _ _ ⟨fun j => if j = 6 then v' else vv j, rfl, HPA.out.put6 hl hno hg ho hat⟩
          · rename_i hw
            exact absurd (by rfl) hw
        · clear hpre
          go_simp
          exact HKk.out _ _ ⟨_, rfl, HPA.out.put (i := 7) (v := .slice A2 l2.length c2) (by decide) (Ext.rf _) HV7.out.symm⟩
        · have e7 : vv 7 = _ := HPA.out.facts 7 (by decide) (by decide) (hpre ⟨7, .data⟩ (by simp) rfl)
          rw [HV7.out] at e7
          have h6 := hpre ⟨6, .data⟩ (by simp) rfl
          have ho0 := HPA.out.b6 h6 hl
          split
          · refine app_row (t := 37) (e := 74) (size := 2) (bytes := 24) Tryz.undPrm Tryz.infoPrm (by decide) (by decide) (.tmp 82) (.tmp 83) rfl w7.heap.size (vv 6) l3.length (prmCells l3) rfl ho0 A2 l2.length c2 (prmCells l2) e7 (H2.out.below (HX7.out.tr HPA.out.ext)).src (prmCells_one l2) (by have := N1.out; have := N2.out; have := N3.out; unfold maxLen; omega) (by have := N1.out; have := N2.out; have := N3.out; omega) HPA.out.ext.size (fun v' W' ho hg hat => ?_)
            have ho : OwnP W' w7.heap.size v' (l3 ++ l2) := by
              unfold OwnP
              rw [List.length_append, prmCells_app]; exact ho
            exact HKk.out _ _ ⟨fun j => if j = 8 then v' else vv j, rfl, HPA.out.put8 h6 hl hg ho hat⟩
          · rename_i hw
            exact absurd (by rfl) hw
        · clear hpre
          have c0 := HPA.out.ext.keep (cellAt HBT7.out 0)
          have c1 := HPA.out.ext.keep (cellAt HBT7.out 1)
          have c2 := HPA.out.ext.keep (cellAt HBT7.out 2)
          have c3 := HPA.out.ext.keep (cellAt HBT7.out 3)
          have c4 := HPA.out.ext.keep (cellAt HBT7.out 4)
          have c5 := HPA.out.ext.keep (cellAt HBT7.out 5)
          go_simp
          exact HKk.out _ _ ⟨_, rfl, HPA.out.put (i := 9) (v := tV t (.slice Aa t.args.length ca) (.slice Bb t.cls.length cb)) (by decide) (Ext.rf _) HV9.out.symm⟩
        · simp [Region.binds] at hpre
          have e0 : vv 0 = _ := HPA.out.facts 0 (by decide) (by decide) (by simp [hpre])
          rw [HV0.out] at e0
          have e9 : vv 9 = _ := HPA.out.facts 9 (by decide) (by decide) (by simp [hpre])
          rw [HV9.out] at e9
          have s4 := HPA.out.a4 (by simp [hpre])
          have s8 := HPA.out.b8 (by simp [hpre])
          have s4 : RPrms W (vv 4) (l3 ++ l1) := own_prms s4 (fun a ha => by rcases List.mem_append.1 ha with ha | ha; exact sizes_p H3.out a ha; exact sizes_p H1.out a ha)
          have s8 : RPrms W (vv 8) (l3 ++ l2) := own_prms s8 (fun a ha => by rcases List.mem_append.1 ha with ha | ha; exact sizes_p H3.out a ha; exact sizes_p H2.out a ha)
          go_simp
          (refine (Typec_any P _ _ _ _ (l3 ++ l1) (l3 ++ l2) k t _ _ W (HD.out.below (HX7.out.tr HPA.out.ext)) (HF.out.below (HX7.out.tr HPA.out.ext)) HFI.out s4 s8 (by rw [List.length_append]; have := N1.out; have := N3.out; omega) (by rw [List.length_append]; have := N2.out; have := N3.out; omega) (HT.out.below (HX7.out.tr HPA.out.ext)) HFT.out (by rw [List.length_append, List.length_append]; have := N1.out; have := N2.out; have := N3.out; have := HWT.out; unfold maxLen; omega) (by have := HU.out; omega)).mono ?_)
          rintro e W' ⟨he, hb⟩
          have he2 := he.good HGM.out HFV.out
          rw [HGN.out] at he2
          subst he2
          clear he
          exact HKk.out _ _ ⟨_, by simp [e0, e9], HPA.out.put (i := 10) (v := .tuple #[.int .i64 ty, .int .i64 (0 : Int)]) (by decide) hb HV10.out.symm⟩
        · simp [Region.binds] at hpre
          have e10 : vv 10 = _ := HPA.out.facts 10 (by decide) (by decide) (by simp [hpre])
          rw [HV10.out] at e10
          go_simp
          exact HKk.out _ _ ⟨_, by simp [e10], HPA.out.put (i := 11) (v := .tuple #[.int .i64 ty, .int .i64 (0 : Int)]) (by decide) (Ext.rf _) HV11.out.symm⟩
        · simp [Region.binds] at hpre
          have e11 : vv 11 = _ := HPA.out.facts 11 (by decide) (by decide) (by simp [hpre])
          rw [HV11.out] at e11
          go_simp
          exact HKk.out _ _ ⟨_, by simp [e11], HPA.out.put (i := 12) (v := .int .i64 ty) (by decide) (Ext.rf _) HV12.out.symm⟩
        · simp [Region.binds] at hpre
          have e11 : vv 11 = _ := HPA.out.facts 11 (by decide) (by decide) (by simp [hpre])
          rw [HV11.out] at e11
          go_simp
          exact HKk.out _ _ ⟨_, by simp [e11], HPA.out.put (i := 13) (v := .int .i64 (0 : Int)) (by decide) (Ext.rf _) HV13.out.symm⟩
        · simp [Region.binds] at hpre
          have e12 : vv 12 = _ := HPA.out.facts 12 (by decide) (by decide) (by simp [hpre])
          rw [HV12.out] at e12
          go_simp
          exact HKk.out _ _ ⟨_, by simp [e12], HPA.out.put (i := 14) (v := .int .i64 ty) (by decide) (Ext.rf _) HV14.out.symm⟩
        · simp [Region.binds] at hpre
          have e13 : vv 13 = _ := HPA.out.facts 13 (by decide) (by decide) (by simp [hpre])
          rw [HV13.out] at e13
          go_simp
          exact HKk.out _ _ ⟨_, by simp [e13], HPA.out.put (i := 15) (v := .int .i64 (0 : Int)) (by decide) (Ext.rf _) HV15.out.symm⟩
      · intro Ls a W hall hI
        obtain ⟨vv, rfl, hI⟩ := hI
        have e14 : vv 14 = _ := hI.facts 14 (by decide) (by decide) (hall 14 (by decide))
        have e15 : vv 15 = _ := hI.facts 15 (by decide) (by decide) (hall 15 (by decide))
        rw [HV14.out] at e14
        rw [HV15.out] at e15
        have HX := Lib.hid hI.ext
        clear hI hall
        rw [e14, e15]
        go_wp2
        go_meet
        exact ⟨rfl, rfl, HX.out⟩
    case rest =>
    obtain ⟨rfl, rfl, hb⟩ := hcut
    have HX8 := Lib.hid (HX7.out.tr hb)
    have HBP8 := Lib.hid ((hb.block _ (heap_lt HBP7.out)).trans HBP7.out)
    have HBT8 := Lib.hid ((hb.block _ (heap_lt HBT7.out)).trans HBT7.out)
    clear hb HBP HBT HBP5 HBT5 HBP6 HBT6 HBP7 HBT7
    generalize wc = w8 at *
    have HN6 : Hid (nT t ≤ 600) := by
      show _ ≤ _
      have h := HG.out.size
      unfold sizeR at h
      cases hs : sizeOK (nodesL 1 t)
      · rw [hs] at h; simp at h
      · unfold sizeOK at hs
        rw [Bool.and_eq_true, decide_eq_true_eq] at hs
        exact hs.1
    obtain ⟨t0, t1, t2, t3, t4, t5⟩ := cells6 HBT8.out
    go_wp2_with fail
    (with_reducible refine (Depth_any k t _ _ _ (HT.out.below HX8.out) (by have := HN6.out; omega)).mono ?_)
    rintro e w9 ⟨rfl, hdn, hb⟩
    have HX9 := Lib.hid (HX8.out.tr hb)
    have HBP9 := Lib.hid ((hb.block _ (heap_lt HBP8.out)).trans HBP8.out)
    have HBT9 := Lib.hid ((hb.block _ (heap_lt HBT8.out)).trans HBT8.out)
    clear hb t0 t1 t2 t3 t4 t5 hdn HBP8 HBT8
    obtain ⟨dd, hdd⟩ : ∃ d, dT t = d := ⟨_, rfl⟩
    rw [hdd]
    have HDD := Lib.hid hdd
    clear hdd
    by_cases h24 : (24 : Int) ≤ dd
    · go_wp2_with fail
      (with_reducible refine (awake_any _).mono ?_)
      rintro e wz ⟨rfl, hb⟩
      have HZ := Lib.hid (HX9.out.tr hb)
      clear hb
      go_wp2
      go_ret
      exact ⟨rfl, HZ.out⟩
    have hd23 : dd ≤ 23 := by omega
    obtain ⟨t0, t1, t2, t3, t4, t5⟩ := cells6 HBT9.out
    go_wp2_with fail
    (with_reducible refine (Nodes39_any k t _ _ _ (HT.out.below HX9.out) (by have := HN6.out; omega)).mono ?_)
    rintro e w10 ⟨rfl, hb⟩
    have HXA := Lib.hid (HX9.out.tr hb)
    have HBPA := Lib.hid ((hb.block _ (heap_lt HBP9.out)).trans HBP9.out)
    have HBTA := Lib.hid ((hb.block _ (heap_lt HBT9.out)).trans HBT9.out)
    clear hb t0 t1 t2 t3 t4 t5 HBP9 HBT9
    obtain ⟨nn, hnn⟩ : ∃ n, nT t = n := ⟨_, rfl⟩
    rw [hnn]
    have HNN := Lib.hid hnn
    clear hnn
    by_cases h598 : (598 : Int) < (nn : Int)
    · go_wp2_with fail
      (with_reducible refine (awake_any _).mono ?_)
      rintro e wz ⟨rfl, hb⟩
      have HZ := Lib.hid (HXA.out.tr hb)
      clear hb
      go_wp2
      go_ret
      exact ⟨rfl, HZ.out⟩
    have HLN : Hid (nT t ≤ 598) := by show _ ≤ _; rw [HNN.out]; omega
    have HLD : Hid (dT t ≤ 23) := by show _ ≤ _; rw [HDD.out]; exact hd23
    have hdl := (PB.of HG.out.prog).dl
    clear hd23
    go_wp2_with fail
    go_loopw [17] (fun i wr => ∃ u : Nat, u ≤ P.decls.length + 1 ∧ i = .int .i64 u ∧ Ext w10 wr) (fun i _ => P.decls.length + 1 - (intOf i).toNat)
    case atStart => exact ⟨0, Nat.zero_le _, rfl, Ext.rf _⟩
    case round =>
      obtain ⟨u, hu, rfl, hE⟩ := hrel
      have HEU := Lib.hid hE
      have HXU := Lib.hid (HXA.out.tr hE)
      clear hE
      have p0 := HEU.out.keep (cellAt HBPA.out 0)
      have p1 := HEU.out.keep (cellAt HBPA.out 1)
      by_cases hlt : u ≤ P.decls.length
      · have hlt' : (u : Int) ≤ (P.decls.length : Int) := by omega
        have t0 := HEU.out.keep (cellAt HBTA.out 0)
        have t1 := HEU.out.keep (cellAt HBTA.out 1)
        have t2 := HEU.out.keep (cellAt HBTA.out 2)
        have t3 := HEU.out.keep (cellAt HBTA.out 3)
        have t4 := HEU.out.keep (cellAt HBTA.out 4)
        have t5 := HEU.out.keep (cellAt HBTA.out 5)
        have HUT : Hid (isTypeB P (u : Int) = true) := by show _ = _; unfold isTypeB; simp; omega
        go_upto_region 20 with fail
        have hx2 := Ext.al2 wr (.cells #[.int .i64 t.op, .int .i64 t.n, .string t.nm, .int .i64 t.ty, .slice Aa t.args.length ca, .slice Bb t.cls.length cb, .int .i64 0, .int .i64 0, .string ⟨#[122, 122]⟩, .int .i64 0, .slice none 0 0, .slice none 0 0] 41) (.cells #[.int .i64 8, .int .i64 0, .string ⟨#[122, 122]⟩, .int .i64 (u : Int), .slice (some ⟨wr.heap.size, 0, none⟩) 2 2, .slice none 0 0] 41)
        obtain ⟨hrow, hbox, hsz⟩ := bx_two wr (.cells #[.int .i64 t.op, .int .i64 t.n, .string t.nm, .int .i64 t.ty, .slice Aa t.args.length ca, .slice Bb t.cls.length cb, .int .i64 0, .int .i64 0, .string ⟨#[122, 122]⟩, .int .i64 0, .slice none 0 0, .slice none 0 0] 41) (.cells #[.int .i64 8, .int .i64 0, .string ⟨#[122, 122]⟩, .int .i64 (u : Int), .slice (some ⟨wr.heap.size, 0, none⟩) 2 2, .slice none 0 0] 41)
        generalize World.alloc (World.alloc wr _) _ = w11 at *
        have HRT : Hid (RT w11 (k + 1 + 1) (letZ (u : Int) t) (.slice (some ⟨wr.heap.size, 0, none⟩) 2 2) (.slice none 0 0)) :=
          RT.two (by decide) (by unfold ok64; decide) (wf64 (by omega) (by omega)) hrow (RT.mono (Nat.le_succ k) (HT.out.below (HXU.out.tr hx2))) (RT.leaf _ _ _ _ _ _ (by decide) (by unfold ok64; decide) (by unfold ok64; decide))
        have HX11 := Lib.hid (HXU.out.tr hx2)
        have HE11 := Lib.hid (HEU.out.tr hx2)
        clear t0 t1 t2 t3 t4 t5 p0 p1 hrow hsz hx2
        have p0 := HE11.out.keep (cellAt HBPA.out 0)
        have p1 := HE11.out.keep (cellAt HBPA.out 1)
        obtain ⟨t0, t1, t2, t3, t4, t5⟩ := cells6 hbox
        clear hbox
        go_wp2_with fail
        (refine (Typec_any P _ _ _ _ l1 l2 (k + 1 + 1) (letZ (u : Int) t) _ _ w11 (HD.out.below HX11.out) (HF.out.below HX11.out) HFI.out (H1.out.below HX11.out) (H2.out.below HX11.out) (by have := N1.out; omega) (by have := N2.out; omega) HRT.out (fine_of (by have := letZ_uT (u : Int) t; have := HU.out; omega)) (by have := wT_le _ (letZ (u : Int) t) (Nat.le_refl _); have := letZ_uT (u : Int) t; have := HU.out; have := N1.out; have := N2.out; unfold maxLen; omega) (by have := letZ_uT (u : Int) t; have := HU.out; omega)).mono ?_)
        rintro e w12 ⟨he, hb⟩
        have hlz := HG.out.letz (fv := m1) (fl := m2) HUT.out HLN.out HLD.out
        have he2 := he.good hlz.1 (letZ_FVs (u : Int) HFV.out)
        rw [hlz.2, HTY.out, HER.out] at he2
        have HE12 := Lib.hid (HE11.out.tr hb)
        clear hlz he hb t0 t1 t2 t3 t4 t5 p0 p1 HX11 HE11 HRT
        by_cases hty : ty = (u : Int)
        · rw [if_pos ⟨rfl, hty⟩] at he2
          subst he2
          have HTU := Lib.hid hty
          subst hty
          go_wp2
          exact ⟨⟨u + 1, by omega, by go_num, HE12.out⟩, by simp [intOf]; omega⟩
        · rw [if_neg (fun h => hty h.2)] at he2
          subst he2
          have hne : ((u : Int) == ty) = false := by simp; omega
          clear hty
          go_wp2
          exact ⟨⟨u + 1, by omega, by go_num, HE12.out⟩, by simp [intOf]; omega⟩
      · have hlt' : (P.decls.length : Int) < (u : Int) := by omega
        go_wp2_with fail
        (with_reducible refine (awake_any _).mono ?_)
        rintro e wz ⟨rfl, hb⟩
        have HZ := Lib.hid (HXU.out.tr hb)
        clear hb
        go_wp2
        go_ret
        exact ⟨rfl, HZ.out⟩
  · have HT0 := Lib.hid (cells6 HBT.out)
    obtain ⟨t0, t1, t2, t3, t4, t5⟩ := HT0.out
    go_wp2_with fail
    (with_reducible refine (refFree_any k t _ _ _ (HT.out.below HX4.out) (by have := HU.out; omega)).mono ?_)
    rintro e w5 ⟨r1, r2, m1, m2, rfl, hr, hb⟩
    have hfm : FVs t m1 m2 := ⟨fun s => by rw [hr.m1 s]; simp [hasS], hr.o1, fun s => by rw [hr.m2 s]; simp [hasS], hr.o2⟩
    obtain ⟨rfl, rfl⟩ := HFV.out.uniq hfm
    obtain ⟨B1, d1, rfl, -, -⟩ := hr.s1.form
    obtain ⟨B2, d2, rfl, -, -⟩ := hr.s2.form
    have HR1 := Lib.hid hr.s1; have HR2 := Lib.hid hr.s2
    have HX5 := Lib.hid (HX4.out.tr hb)
    have HBP5 := Lib.hid ((hb.block _ (heap_lt HBP.out)).trans HBP.out)
    have HBT5 := Lib.hid ((hb.block _ (heap_lt HBT.out)).trans HBT.out)
    clear hb hr hfm t0 t1 t2 t3 t4 t5 HT0
    go_upto_region 7 with fail
    have hgo := HG.out.only HFV.out
    have HGO := Lib.hid hgo.1
    have HGT : Hid (typP P (onlyL l1 m1) (onlyL l2 m2) m1 m2 t = ((0 : Int), (40 : Int))) := by show _ = _; rw [hgo.2]; exact Prod.ext HTY.out HER.out
    have HON1 : Hid ((onlyL l1 m1).length ≤ 2200000) := by show _ ≤ _; unfold onlyL; have := List.length_filter_le (fun a : Prm => hasS m1 a.nm) l1; have := N1.out; omega
    have HON2 : Hid ((onlyL l2 m2).length ≤ 2200000) := by show _ ≤ _; unfold onlyL; have := List.length_filter_le (fun a : Prm => hasS m2 a.nm) l2; have := N2.out; omega
    clear hgo
    go_cut [15, 16] from 52 to 153 (fun v15 v16 W => v15 = .int .i64 (0 : Int) ∧ v16 = .int .i64 (40 : Int) ∧ Ext w5 W)
    case first =>
      obtain ⟨vals, hvals⟩ : ∃ vals : Nat → Value, vals = fun j => if j = 0 then pV (.slice Ad P.decls.length cd) (.slice Af P.funs.length cf) else if j = 1 then .slice A1 l1.length c1 else if j = 2 then .slice B1 m1.length d1 else if j = 4 then .slice A2 l2.length c2 else if j = 5 then .slice B2 m2.length d2 else if j = 7 then tV t (.slice Aa t.args.length ca) (.slice Bb t.cls.length cb) else if j = 8 then .tuple #[.int .i64 (0 : Int), .int .i64 (40 : Int)] else if j = 9 then .tuple #[.int .i64 (0 : Int), .int .i64 (40 : Int)] else if j = 10 then .int .i64 (0 : Int) else if j = 11 then .int .i64 (40 : Int) else if j = 12 then .int .i64 (0 : Int) else if j = 13 then .int .i64 (40 : Int) else undef := ⟨_, rfl⟩
      have HV0 : Hid (vals 0 = pV (.slice Ad P.decls.length cd) (.slice Af P.funs.length cf)) := by show _ = _; rw [hvals]; rfl
      have HV1 : Hid (vals 1 = .slice A1 l1.length c1) := by show _ = _; rw [hvals]; rfl
      have HV2 : Hid (vals 2 = .slice B1 m1.length d1) := by show _ = _; rw [hvals]; rfl
      have HV4 : Hid (vals 4 = .slice A2 l2.length c2) := by show _ = _; rw [hvals]; rfl
      have HV5 : Hid (vals 5 = .slice B2 m2.length d2) := by show _ = _; rw [hvals]; rfl
      have HV7 : Hid (vals 7 = tV t (.slice Aa t.args.length ca) (.slice Bb t.cls.length cb)) := by show _ = _; rw [hvals]; rfl
      have HV8 : Hid (vals 8 = .tuple #[.int .i64 (0 : Int), .int .i64 (40 : Int)]) := by show _ = _; rw [hvals]; rfl
      have HV9 : Hid (vals 9 = .tuple #[.int .i64 (0 : Int), .int .i64 (40 : Int)]) := by show _ = _; rw [hvals]; rfl
      have HV10 : Hid (vals 10 = .int .i64 (0 : Int)) := by show _ = _; rw [hvals]; rfl
      have HV11 : Hid (vals 11 = .int .i64 (40 : Int)) := by show _ = _; rw [hvals]; rfl
      have HV12 : Hid (vals 12 = .int .i64 (0 : Int)) := by show _ = _; rw [hvals]; rfl
      have HV13 : Hid (vals 13 = .int .i64 (40 : Int)) := by show _ = _; rw [hvals]; rfl
      clear hvals
      refine wp_region_invCE hmx (by kernel_rfl) (fun Ls a W => ∃ vv : Nat → Value, a = { tmps := #[pV (.slice Ad P.decls.length cd) (.slice Af P.funs.length cf), .slice A1 l1.length c1, .slice A2 l2.length c2, .slice A3 l3.length c3, tV t (.slice Aa t.args.length ca) (.slice Bb t.cls.length cb), .pointer (some ⟨w.heap.size, 0, none⟩), undef, undef, undef, .pointer (some ⟨w.heap.size + 1, 0, none⟩), .bool false, .int .i64 (0 : Int), .int .i64 (40 : Int), .slice B1 m1.length d1, .slice B2 m2.length d2, vv 12, vv 13, undef, undef, pV (.slice Ad P.decls.length cd) (.slice Af P.funs.length cf), .bool true, .bool false, .bool false, tV t (.slice Aa t.args.length ca) (.slice Bb t.cls.length cb), .bool true, .bool false, .bool false, undef, .tuple #[.int .i64 (0 : Int), .int .i64 (40 : Int)], pV (.slice Ad P.decls.length cd) (.slice Af P.funs.length cf), .slice A1 l1.length c1, .slice A2 l2.length c2, tV t (.slice Aa t.args.length ca) (.slice Bb t.cls.length cb), .tuple #[.int .i64 (0 : Int), .int .i64 (40 : Int)], .int .i64 (0 : Int), .int .i64 (40 : Int), .int .i64 (40 : Int), .bool true, .bool true, .int .i64 40, .bool false, .bool false, undef, undef, undef, undef, undef, .tuple #[.slice B1 m1.length d1, .slice B2 m2.length d2], tV t (.slice Aa t.args.length ca) (.slice Bb t.cls.length cb), .tuple #[.slice B1 m1.length d1, .slice B2 m2.length d2], .slice B1 m1.length d1, .slice B2 m2.length d2, vv 9, vv 0, vv 1, vv 2, vv 3, vv 4, vv 5, vv 6, vv 7, vv 8, vv 10, vv 11, undef, undef, undef, undef, undef, undef, undef, undef, undef, undef, undef, undef, undef, undef, undef, undef, undef, undef, undef, undef, undef, undef, undef, undef, undef, undef, undef, undef, undef, undef, undef, undef, undef, undef, undef, undef, undef, undef, undef, undef, undef, undef, undef, undef, undef, undef, undef, undef, undef, undef, undef, undef, undef, undef, undef, undef, undef, undef, undef, undef, undef, undef, undef, undef, undef, undef, undef, undef, undef, undef, undef, undef, undef, undef, undef, undef, undef, undef, undef, undef, undef, undef, undef, undef, undef, undef, undef, undef, undef, undef], defers := [] } ∧ PhA w5 (FO vals (onlyL l1 m1) (onlyL l2 m2)) 14 Ls W vv) ?_ ?_ ?_
      · exact ⟨fun _ => undef, rfl, PhA.zero _ _ _ _⟩
      · intro Ls a W i op ho hpre hl hc hI Kk HKk
        have hi : i < 14 := (Array.getElem?_eq_some_iff.1 ho).1
        obtain ⟨vv, rfl, hI⟩ := hI
        have HPA := Lib.hid hI
        have hcs : i = 0 ∨ i = 1 ∨ i = 2 ∨ i = 3 ∨ i = 4 ∨ i = 5 ∨ i = 6 ∨ i = 7 ∨ i = 8 ∨ i = 9 ∨ i = 10 ∨ i = 11 ∨ i = 12 ∨ i = 13 := by omega
        rcases hcs with rfl | rfl | rfl | rfl | rfl | rfl | rfl | rfl | rfl | rfl | rfl | rfl | rfl | rfl
        all_goals
          obtain rfl := Option.some.inj ho
          clear ho hi hI
        · clear hpre
          have c0 := HPA.out.ext.keep (cellAt HBP5.out 0)
          have c1 := HPA.out.ext.keep (cellAt HBP5.out 1)
          go_simp
          exact HKk.out _ _ ⟨_, rfl, HPA.out.put (v := pV (.slice Ad P.decls.length cd) (.slice Af P.funs.length cf)) FO.ext (by decide) (Ext.rf _) ⟨fun _ => HV0.out.symm, fun h => absurd h (by decide), fun h => absurd h (by decide)⟩⟩
        · clear hpre
          go_simp
          exact HKk.out _ _ ⟨_, rfl, HPA.out.put (v := .slice A1 l1.length c1) FO.ext (by decide) (Ext.rf _) ⟨fun _ => HV1.out.symm, fun h => absurd h (by decide), fun h => absurd h (by decide)⟩⟩
        · clear hpre
          go_simp
          exact HKk.out _ _ ⟨_, rfl, HPA.out.put (v := .slice B1 m1.length d1) FO.ext (by decide) (Ext.rf _) ⟨fun _ => HV2.out.symm, fun h => absurd h (by decide), fun h => absurd h (by decide)⟩⟩
        · simp [Region.binds] at hpre
          have e1 : vv 1 = _ := (HPA.out.facts 1 (by decide) (by simp [hpre])).1 (by decide)
          rw [HV1.out] at e1
          have e2 : vv 2 = _ := (HPA.out.facts 2 (by decide) (by simp [hpre])).1 (by decide)
          rw [HV2.out] at e2
          go_simp
          (refine (only_any _ _ l1 m1 W (H1.out.below (HX5.out.tr HPA.out.ext)) (HR1.out.below HPA.out.ext) (by have := N1.out; have := N2.out; omega)).mono ?_)
          rintro e W' ⟨⟨v, rfl, hr⟩, hb⟩
          obtain ⟨C1, g1, rfl, -, -⟩ := hr.form
          exact HKk.out _ _ ⟨_, by simp [e1, e2], HPA.out.put (v := .slice C1 (onlyL l1 m1).length g1) FO.ext (by decide) hb ⟨fun h => absurd h (by decide), fun _ => hr, fun h => absurd h (by decide)⟩⟩
        · clear hpre
          go_simp
          exact HKk.out _ _ ⟨_, rfl, HPA.out.put (v := .slice A2 l2.length c2) FO.ext (by decide) (Ext.rf _) ⟨fun _ => HV4.out.symm, fun h => absurd h (by decide), fun h => absurd h (by decide)⟩⟩
        · clear hpre
          go_simp
          exact HKk.out _ _ ⟨_, rfl, HPA.out.put (v := .slice B2 m2.length d2) FO.ext (by decide) (Ext.rf _) ⟨fun _ => HV5.out.symm, fun h => absurd h (by decide), fun h => absurd h (by decide)⟩⟩
        · simp [Region.binds] at hpre
          have e4 : vv 4 = _ := (HPA.out.facts 4 (by decide) (by simp [hpre])).1 (by decide)
          rw [HV4.out] at e4
          have e5 : vv 5 = _ := (HPA.out.facts 5 (by decide) (by simp [hpre])).1 (by decide)
          rw [HV5.out] at e5
          go_simp
          (refine (only_any _ _ l2 m2 W (H2.out.below (HX5.out.tr HPA.out.ext)) (HR2.out.below HPA.out.ext) (by have := N1.out; have := N2.out; omega)).mono ?_)
          rintro e W' ⟨⟨v, rfl, hr⟩, hb⟩
          obtain ⟨C1, g1, rfl, -, -⟩ := hr.form
          exact HKk.out _ _ ⟨_, by simp [e4, e5], HPA.out.put (v := .slice C1 (onlyL l2 m2).length g1) FO.ext (by decide) hb ⟨fun h => absurd h (by decide), fun h => absurd h (by decide), fun _ => hr⟩⟩
        · clear hpre
          have c0 := HPA.out.ext.keep (cellAt HBT5.out 0)
          have c1 := HPA.out.ext.keep (cellAt HBT5.out 1)
          have c2 := HPA.out.ext.keep (cellAt HBT5.out 2)
          have c3 := HPA.out.ext.keep (cellAt HBT5.out 3)
          have c4 := HPA.out.ext.keep (cellAt HBT5.out 4)
          have c5 := HPA.out.ext.keep (cellAt HBT5.out 5)
          go_simp
          exact HKk.out _ _ ⟨_, rfl, HPA.out.put (v := tV t (.slice Aa t.args.length ca) (.slice Bb t.cls.length cb)) FO.ext (by decide) (Ext.rf _) ⟨fun _ => HV7.out.symm, fun h => absurd h (by decide), fun h => absurd h (by decide)⟩⟩
        · simp [Region.binds] at hpre
          have e0 : vv 0 = _ := (HPA.out.facts 0 (by decide) (by simp [hpre])).1 (by decide)
          rw [HV0.out] at e0
          have e7 : vv 7 = _ := (HPA.out.facts 7 (by decide) (by simp [hpre])).1 (by decide)
          rw [HV7.out] at e7
          have s3 := (HPA.out.facts 3 (by decide) (by simp [hpre])).2.1 rfl
          have s6 := (HPA.out.facts 6 (by decide) (by simp [hpre])).2.2 rfl
          go_simp
          (refine (Typec_any P _ _ _ _ (onlyL l1 m1) (onlyL l2 m2) k t _ _ W (HD.out.below (HX5.out.tr HPA.out.ext)) (HF.out.below (HX5.out.tr HPA.out.ext)) HFI.out s3 s6 HON1.out HON2.out (HT.out.below (HX5.out.tr HPA.out.ext)) HFT.out (by have := HON1.out; have := HON2.out; have := HWT.out; unfold maxLen; omega) (by have := HU.out; omega)).mono ?_)
          rintro e W' ⟨he, hb⟩
          have he2 := he.good HGO.out HFV.out
          rw [HGT.out] at he2
          subst he2
          clear he
          exact HKk.out _ _ ⟨_, by simp [e0, e7], HPA.out.put (v := .tuple #[.int .i64 (0 : Int), .int .i64 (40 : Int)]) FO.ext (by decide) hb ⟨fun _ => HV8.out.symm, fun h => absurd h (by decide), fun h => absurd h (by decide)⟩⟩
        · simp [Region.binds] at hpre
          have e8 : vv 8 = _ := (HPA.out.facts 8 (by decide) (by simp [hpre])).1 (by decide)
          rw [HV8.out] at e8
          go_simp
          exact HKk.out _ _ ⟨_, by simp [e8], HPA.out.put (v := .tuple #[.int .i64 (0 : Int), .int .i64 (40 : Int)]) FO.ext (by decide) (Ext.rf _) ⟨fun _ => HV9.out.symm, fun h => absurd h (by decide), fun h => absurd h (by decide)⟩⟩
        · simp [Region.binds] at hpre
          have e9 : vv 9 = _ := (HPA.out.facts 9 (by decide) (by simp [hpre])).1 (by decide)
          rw [HV9.out] at e9
          go_simp
          exact HKk.out _ _ ⟨_, by simp [e9], HPA.out.put (v := .int .i64 (0 : Int)) FO.ext (by decide) (Ext.rf _) ⟨fun _ => HV10.out.symm, fun h => absurd h (by decide), fun h => absurd h (by decide)⟩⟩
        · simp [Region.binds] at hpre
          have e9 : vv 9 = _ := (HPA.out.facts 9 (by decide) (by simp [hpre])).1 (by decide)
          rw [HV9.out] at e9
          go_simp
          exact HKk.out _ _ ⟨_, by simp [e9], HPA.out.put (v := .int .i64 (40 : Int)) FO.ext (by decide) (Ext.rf _) ⟨fun _ => HV11.out.symm, fun h => absurd h (by decide), fun h => absurd h (by decide)⟩⟩
        · simp [Region.binds] at hpre
          have e10 : vv 10 = _ := (HPA.out.facts 10 (by decide) (by simp [hpre])).1 (by decide)
          rw [HV10.out] at e10
          go_simp
          exact HKk.out _ _ ⟨_, by simp [e10], HPA.out.put (v := .int .i64 (0 : Int)) FO.ext (by decide) (Ext.rf _) ⟨fun _ => HV12.out.symm, fun h => absurd h (by decide), fun h => absurd h (by decide)⟩⟩
        · simp [Region.binds] at hpre
          have e11 : vv 11 = _ := (HPA.out.facts 11 (by decide) (by simp [hpre])).1 (by decide)
          rw [HV11.out] at e11
          go_simp
          exact HKk.out _ _ ⟨_, by simp [e11], HPA.out.put (v := .int .i64 (40 : Int)) FO.ext (by decide) (Ext.rf _) ⟨fun _ => HV13.out.symm, fun h => absurd h (by decide), fun h => absurd h (by decide)⟩⟩
      · intro Ls a W hall hI
        obtain ⟨vv, rfl, hI⟩ := hI
        have e12 : vv 12 = _ := (hI.facts 12 (by decide) (hall 12 (by decide))).1 (by decide)
        have e13 : vv 13 = _ := (hI.facts 13 (by decide) (hall 13 (by decide))).1 (by decide)
        rw [HV12.out] at e12
        rw [HV13.out] at e13
        have HX := Lib.hid hI.ext
        clear hI hall
        rw [e12, e13]
        go_wp2
        go_meet
        exact ⟨rfl, rfl, HX.out⟩
    case rest =>
    obtain ⟨rfl, rfl, hb⟩ := hcut
    have HX6 := Lib.hid (HX5.out.tr hb)
    have HBP6 := Lib.hid ((hb.block _ (heap_lt HBP5.out)).trans HBP5.out)
    have HBT6 := Lib.hid ((hb.block _ (heap_lt HBT5.out)).trans HBT5.out)
    clear hb
    generalize wc = w6 at *
    have p0 := cellAt HBP6.out 0
    have p1 := cellAt HBP6.out 1
    go_wp2_with fail
    (with_reducible refine (law_have_any P _ _ _ l3 _ (HD.out.below HX6.out) ⟨_, _, _, rfl⟩ (H3.out.below HX6.out)).mono ?_)
    rintro e w7 ⟨rfl, hb⟩
    have HX7 := Lib.hid (HX6.out.tr hb)
    have HBP7 := Lib.hid ((hb.block _ (heap_lt HBP6.out)).trans HBP6.out)
    have HBT7 := Lib.hid ((hb.block _ (heap_lt HBT6.out)).trans HBT6.out)
    clear hb p0 p1
    obtain ⟨q, hq⟩ : ∃ q, haveL P l3 = q := ⟨_, rfl⟩
    rw [hq]
    have HQ := Lib.hid hq
    clear hq
    go_upto_if 74 with fail
    go_cut [15, 16] from 75 to 153 (fun v15 v16 W => v15 = .int .i64 (0 : Int) ∧ v16 = .int .i64 (40 : Int) ∧ Ext w7 W)
    case first =>
      cases q
      · go_wp2
        go_meet
        exact ⟨rfl, rfl, Ext.rf _⟩
      have hgm := HG.out.add HFV.out HQ.out
      have HGM := Lib.hid hgm.1
      have HGN : Hid (typP P (l3 ++ l1) (l3 ++ l2) m1 m2 t = ((0 : Int), (40 : Int))) := by show _ = _; rw [hgm.2]; exact Prod.ext HTY.out HER.out
      clear hgm
      go_upto_region 11 with fail
      obtain ⟨vals, hvals⟩ : ∃ vals : Nat → Value, vals = fun j => if j = 0 then pV (.slice Ad P.decls.length cd) (.slice Af P.funs.length cf) else if j = 1 then .slice A3 l3.length c3 else if j = 3 then .slice A1 l1.length c1 else if j = 5 then .slice A3 l3.length c3 else if j = 7 then .slice A2 l2.length c2 else if j = 9 then tV t (.slice Aa t.args.length ca) (.slice Bb t.cls.length cb) else if j = 10 then .tuple #[.int .i64 (0 : Int), .int .i64 (40 : Int)] else if j = 11 then .tuple #[.int .i64 (0 : Int), .int .i64 (40 : Int)] else if j = 12 then .int .i64 (0 : Int) else if j = 13 then .int .i64 (40 : Int) else if j = 14 then .int .i64 (0 : Int) else if j = 15 then .int .i64 (40 : Int) else undef := ⟨_, rfl⟩
      have HV0 : Hid (vals 0 = pV (.slice Ad P.decls.length cd) (.slice Af P.funs.length cf)) := by show _ = _; rw [hvals]; rfl
      have HV1 : Hid (vals 1 = .slice A3 l3.length c3) := by show _ = _; rw [hvals]; rfl
      have HV3 : Hid (vals 3 = .slice A1 l1.length c1) := by show _ = _; rw [hvals]; rfl
      have HV5 : Hid (vals 5 = .slice A3 l3.length c3) := by show _ = _; rw [hvals]; rfl
      have HV7 : Hid (vals 7 = .slice A2 l2.length c2) := by show _ = _; rw [hvals]; rfl
      have HV9 : Hid (vals 9 = tV t (.slice Aa t.args.length ca) (.slice Bb t.cls.length cb)) := by show _ = _; rw [hvals]; rfl
      have HV10 : Hid (vals 10 = .tuple #[.int .i64 (0 : Int), .int .i64 (40 : Int)]) := by show _ = _; rw [hvals]; rfl
      have HV11 : Hid (vals 11 = .tuple #[.int .i64 (0 : Int), .int .i64 (40 : Int)]) := by show _ = _; rw [hvals]; rfl
      have HV12 : Hid (vals 12 = .int .i64 (0 : Int)) := by show _ = _; rw [hvals]; rfl
      have HV13 : Hid (vals 13 = .int .i64 (40 : Int)) := by show _ = _; rw [hvals]; rfl
      have HV14 : Hid (vals 14 = .int .i64 (0 : Int)) := by show _ = _; rw [hvals]; rfl
      have HV15 : Hid (vals 15 = .int .i64 (40 : Int)) := by show _ = _; rw [hvals]; rfl
      clear hvals
      refine wp_region_invCE hmx (by kernel_rfl) (fun Ls a W => ∃ vv : Nat → Value, a = { tmps := #[pV (.slice Ad P.decls.length cd) (.slice Af P.funs.length cf), .slice A1 l1.length c1, .slice A2 l2.length c2, .slice A3 l3.length c3, tV t (.slice Aa t.args.length ca) (.slice Bb t.cls.length cb), .pointer (some ⟨w.heap.size, 0, none⟩), undef, undef, undef, .pointer (some ⟨w.heap.size + 1, 0, none⟩), .bool false, .int .i64 (0 : Int), .int .i64 (40 : Int), .slice B1 m1.length d1, .slice B2 m2.length d2, vv 14, vv 15, undef, undef, pV (.slice Ad P.decls.length cd) (.slice Af P.funs.length cf), .bool true, .bool false, .bool false, tV t (.slice Aa t.args.length ca) (.slice Bb t.cls.length cb), .bool true, .bool false, .bool false, undef, .tuple #[.int .i64 (0 : Int), .int .i64 (40 : Int)], pV (.slice Ad P.decls.length cd) (.slice Af P.funs.length cf), .slice A1 l1.length c1, .slice A2 l2.length c2, tV t (.slice Aa t.args.length ca) (.slice Bb t.cls.length cb), .tuple #[.int .i64 (0 : Int), .int .i64 (40 : Int)], .int .i64 (0 : Int), .int .i64 (40 : Int), .int .i64 (40 : Int), .bool true, .bool true, .int .i64 40, .bool false, .bool false, undef, undef, undef, undef, undef, .tuple #[.slice B1 m1.length d1, .slice B2 m2.length d2], tV t (.slice Aa t.args.length ca) (.slice Bb t.cls.length cb), .tuple #[.slice B1 m1.length d1, .slice B2 m2.length d2], .slice B1 m1.length d1, .slice B2 m2.length d2, u52, u53, u54, u55, u56, u57, u58, u59, u60, u61, u62, u63, .int .i64 (0 : Int), .int .i64 (0 : Int), .bool false, .bool false, .int .i64 (40 : Int), .int .i64 (40 : Int), .bool false, .bool false, pV (.slice Ad P.decls.length cd) (.slice Af P.funs.length cf), .slice A3 l3.length c3, .bool true, vv 11, vv 0, vv 1, vv 2, vv 3, vv 4, vv 5, vv 6, vv 7, vv 8, vv 9, vv 10, vv 12, vv 13, u89, u90, u91, u92, u93, u94, u95, u96, u97, u98, u99, u100, u101, u102, u103, u104, u105, u106, u107, u108, u109, u110, u111, u112, u113, u114, u115, u116, u117, u118, u119, u120, u121, u122, u123, u124, u125, u126, u127, u128, u129, u130, u131, u132, u133, u134, u135, u136, u137, u138, u139, u140, u141, u142, u143, u144, u145, u146, u147, u148, u149, u150, u151, u152, u153], defers := [] } ∧ R11 vals l1 l2 l3 w7 Ls W vv) ?_ ?_ ?_
      · exact ⟨fun j => if j = 0 then u76 else if j = 1 then u77 else if j = 2 then u78 else if j = 3 then u79 else if j = 4 then u80 else if j = 5 then u81 else if j = 6 then u82 else if j = 7 then u83 else if j = 8 then u84 else if j = 9 then u85 else if j = 10 then u86 else if j = 11 then u75 else if j = 12 then u87 else if j = 13 then u88 else if j = 14 then .int .i64 (0 : Int) else if j = 15 then .int .i64 (40 : Int) else undef, rfl, R11.zero _ _ _ _ _ _⟩
      · intro Ls a W i op ho hpre hl hc hI Kk HKk
        have hi : i < 16 := (Array.getElem?_eq_some_iff.1 ho).1
        obtain ⟨vv, rfl, hI⟩ := hI
        have HPA := Lib.hid hI
        have hcs : i = 0 ∨ i = 1 ∨ i = 2 ∨ i = 3 ∨ i = 4 ∨ i = 5 ∨ i = 6 ∨ i = 7 ∨ i = 8 ∨ i = 9 ∨ i = 10 ∨ i = 11 ∨ i = 12 ∨ i = 13 ∨ i = 14 ∨ i = 15 := by omega
        rcases hcs with rfl | rfl | rfl | rfl | rfl | rfl | rfl | rfl | rfl | rfl | rfl | rfl | rfl | rfl | rfl | rfl
        all_goals
          obtain rfl := Option.some.inj ho
          clear ho hi hI
        · clear hpre
          have c0 := HPA.out.ext.keep (cellAt HBP7.out 0)
          have c1 := HPA.out.ext.keep (cellAt HBP7.out 1)
          go_simp
          exact HKk.out _ _ ⟨_, rfl, HPA.out.put (i := 0) (v := pV (.slice Ad P.decls.length cd) (.slice Af P.funs.length cf)) (by decide) (Ext.rf _) HV0.out.symm⟩
        · clear hpre
          go_simp
          exact HKk.out _ _ ⟨_, rfl, HPA.out.put (i := 1) (v := .slice A3 l3.length c3) (by decide) (Ext.rf _) HV1.out.symm⟩
        · have e1 : vv 1 = _ := HPA.out.facts 1 (by decide) (by decide) (hpre ⟨1, .data⟩ (by simp) rfl)
          rw [HV1.out] at e1
          have hno : Ls 4 = false := by
            cases hq : Ls 4
            · rfl
            · have := hc 4 _ rfl hq ⟨2, .data⟩ (by simp) rfl
              rw [hl] at this; cases this
          split
          · refine app_row (t := 37) (e := 74) (size := 2) (bytes := 24) Tryz.undPrm Tryz.infoPrm (by decide) (by decide) (.const (.slice none 0 0)) (.tmp 77) rfl w7.heap.size (.slice none 0 0) 0 [] rfl ⟨rfl, .inl ⟨rfl, rfl⟩⟩ A3 l3.length c3 (prmCells l3) e1 (H3.out.below (HX7.out.tr HPA.out.ext)).src (prmCells_one l3) (by have := N3.out; unfold maxLen; omega) (by have := N3.out; omega) HPA.out.ext.size (fun v' W' ho hg hat => ?_)
            rw [Nat.zero_add, List.nil_append] at ho
            exact HKk.out _ _ ⟨fun j => if j = 2 then v' else vv j, rfl, HPA.out.put2 hl hno hg ho hat⟩
          · rename_i hw
            exact absurd (by rfl) hw
        · clear hpre
          go_simp
          exact HKk.out _ _ ⟨_, rfl, HPA.out.put (i := 3) (v := .slice A1 l1.length c1) (by decide) (Ext.rf _) HV3.out.symm⟩
        · have e3 : vv 3 = _ := HPA.out.facts 3 (by decide) (by decide) (hpre ⟨3, .data⟩ (by simp) rfl)
          rw [HV3.out] at e3
          have h2 := hpre ⟨2, .data⟩ (by simp) rfl
          have ho0 := HPA.out.a2 h2 hl
          split
          · refine app_row (t := 37) (e := 74) (size := 2) (bytes := 24) Tryz.undPrm Tryz.infoPrm (by decide) (by decide) (.tmp 78) (.tmp 79) rfl w7.heap.size (vv 2) l3.length (prmCells l3) rfl ho0 A1 l1.length c1 (prmCells l1) e3 (H1.out.below (HX7.out.tr HPA.out.ext)).src (prmCells_one l1) (by have := N1.out; have := N2.out; have := N3.out; unfold maxLen; omega) (by have := N1.out; have := N2.out; have := N3.out; omega) HPA.out.ext.size (fun v' W' ho hg hat => ?_)
            have ho : OwnP W' w7.heap.size v' (l3 ++ l1) := by
              unfold OwnP
              rw [List.length_append, prmCells_app]; exact ho
            exact HKk.out _ _ ⟨fun j => if j = 4 then v' else vv j, rfl, HPA.out.put4 h2 hl hg ho hat⟩
          · rename_i hw
            exact absurd (by rfl) hw
        · clear hpre
          go_simp
          exact HKk.out _ _ ⟨_, rfl, HPA.out.put (i := 5) (v := .slice A3 l3.length c3) (by decide) (Ext.rf _) HV5.out.symm⟩
        · have e5 : vv 5 = _ := HPA.out.facts 5 (by decide) (by decide) (hpre ⟨5, .data⟩ (by simp) rfl)
          rw [HV5.out] at e5
          have hno : Ls 8 = false := by
            cases hq : Ls 8
            · rfl
            · have := hc 8 _ rfl hq ⟨6, .data⟩ (by simp) rfl
              rw [hl] at this; cases this
          split
          · refine app_row (t := 37) (e := 74) (size := 2) (bytes := 24) Tryz.undPrm Tryz.infoPrm (by decide) (by decide) (.const (.slice none 0 0)) (.tmp 81) rfl w7.heap.size (.slice none 0 0) 0 [] rfl ⟨rfl, .inl ⟨rfl, rfl⟩⟩ A3 l3.length c3 (prmCells l3) e5 (H3.out.below (HX7.out.tr HPA.out.ext)).src (prmCells_one l3) (by have := N3.out; unfold maxLen; omega) (by have := N3.out; omega) HPA.out.ext.size (fun v' W' ho hg hat => ?_)
            rw [Nat.zero_add, List.nil_append] at ho
            exact HKk.out _ _ ⟨fun j => if j = 6 then v' else vv j, rfl, HPA.out.put6 hl hno hg ho hat⟩
          · rename_i hw
            exact absurd (by rfl) hw
        · clear hpre
          go_simp
          exact HKk.out _ _ ⟨_, rfl, HPA.out.put (i := 7) (v := .slice A2 l2.length c2) (by decide) (Ext.rf _) HV7.out.symm⟩
        · have e7 : vv 7 = _ := HPA.out.facts 7 (by decide) (by decide) (hpre ⟨7, .data⟩ (by simp) rfl)
          rw [HV7.out] at e7
          have h6 := hpre ⟨6, .data⟩ (by simp) rfl
          have ho0 := HPA.out.b6 h6 hl
          split
          · refine app_row (t := 37) (e := 74) (size := 2) (bytes := 24) Tryz.undPrm Tryz.infoPrm (by decide) (by decide) (.tmp 82) (.tmp 83) rfl w7.heap.size (vv 6) l3.length (prmCells l3) rfl ho0 A2 l2.length c2 (prmCells l2) e7 (H2.out.below (HX7.out.tr HPA.out.ext)).src (prmCells_one l2) (by have := N1.out; have := N2.out; have := N3.out; unfold maxLen; omega) (by have := N1.out; have := N2.out; have := N3.out; omega) HPA.out.ext.size (fun v' W' ho hg hat => ?_)
            have ho : OwnP W' w7.heap.size v' (l3 ++ l2) := by
              unfold OwnP
              rw [List.length_append, prmCells_app]; exact ho
            exact HKk.out _ _ ⟨fun j => if j = 8 then v' else vv j, rfl, HPA.out.put8 h6 hl hg ho hat⟩
          · rename_i hw
            exact absurd (by rfl) hw
        · clear hpre
          have c0 := HPA.out.ext.keep (cellAt HBT7.out 0)
          have c1 := HPA.out.ext.keep (cellAt HBT7.out 1)
          have c2 := HPA.out.ext.keep (cellAt HBT7.out 2)
          have c3 := HPA.out.ext.keep (cellAt HBT7.out 3)
          have c4 := HPA.out.ext.keep (cellAt HBT7.out 4)
          have c5 := HPA.out.ext.keep (cellAt HBT7.out 5)
          go_simp
          exact HKk.out _ _ ⟨_, rfl, HPA.out.put (i := 9) (v := tV t (.slice Aa t.args.length ca) (.slice Bb t.cls.length cb)) (by decide) (Ext.rf _) HV9.out.symm⟩
        · simp [Region.binds] at hpre
          have e0 : vv 0 = _ := HPA.out.facts 0 (by decide) (by decide) (by simp [hpre])
          rw [HV0.out] at e0
          have e9 : vv 9 = _ := HPA.out.facts 9 (by decide) (by decide) (by simp [hpre])
          rw [HV9.out] at e9
          have s4 := HPA.out.a4 (by simp [hpre])
          have s8 := HPA.out.b8 (by simp [hpre])
          have s4 : RPrms W (vv 4) (l3 ++ l1) := own_prms s4 (fun a ha => by rcases List.mem_append.1 ha with ha | ha; exact sizes_p H3.out a ha; exact sizes_p H1.out a ha)
          have s8 : RPrms W (vv 8) (l3 ++ l2) := own_prms s8 (fun a ha => by rcases List.mem_append.1 ha with ha | ha; exact sizes_p H3.out a ha; exact sizes_p H2.out a ha)
          go_simp
          (refine (Typec_any P _ _ _ _ (l3 ++ l1) (l3 ++ l2) k t _ _ W (HD.out.below (HX7.out.tr HPA.out.ext)) (HF.out.below (HX7.out.tr HPA.out.ext)) HFI.out s4 s8 (by rw [List.length_append]; have := N1.out; have := N3.out; omega) (by rw [List.length_append]; have := N2.out; have := N3.out; omega) (HT.out.below (HX7.out.tr HPA.out.ext)) HFT.out (by rw [List.length_append, List.length_append]; have := N1.out; have := N2.out; have := N3.out; have := HWT.out; unfold maxLen; omega) (by have := HU.out; omega)).mono ?_)
          rintro e W' ⟨he, hb⟩
          have he2 := he.good HGM.out HFV.out
          rw [HGN.out] at he2
          subst he2
          clear he
          exact HKk.out _ _ ⟨_, by simp [e0, e9], HPA.out.put (i := 10) (v := .tuple #[.int .i64 (0 : Int), .int .i64 (40 : Int)]) (by decide) hb HV10.out.symm⟩
        · simp [Region.binds] at hpre
          have e10 : vv 10 = _ := HPA.out.facts 10 (by decide) (by decide) (by simp [hpre])
          rw [HV10.out] at e10
          go_simp
          exact HKk.out _ _ ⟨_, by simp [e10], HPA.out.put (i := 11) (v := .tuple #[.int .i64 (0 : Int), .int .i64 (40 : Int)]) (by decide) (Ext.rf _) HV11.out.symm⟩
        · simp [Region.binds] at hpre
          have e11 : vv 11 = _ := HPA.out.facts 11 (by decide) (by decide) (by simp [hpre])
          rw [HV11.out] at e11
          go_simp
          exact HKk.out _ _ ⟨_, by simp [e11], HPA.out.put (i := 12) (v := .int .i64 (0 : Int)) (by decide) (Ext.rf _) HV12.out.symm⟩
        · simp [Region.binds] at hpre
          have e11 : vv 11 = _ := HPA.out.facts 11 (by decide) (by decide) (by simp [hpre])
          rw [HV11.out] at e11
          go_simp
          exact HKk.out _ _ ⟨_, by simp [e11], HPA.out.put (i := 13) (v := .int .i64 (40 : Int)) (by decide) (Ext.rf _) HV13.out.symm⟩
        · simp [Region.binds] at hpre
          have e12 : vv 12 = _ := HPA.out.facts 12 (by decide) (by decide) (by simp [hpre])
          rw [HV12.out] at e12
          go_simp
          exact HKk.out _ _ ⟨_, by simp [e12], HPA.out.put (i := 14) (v := .int .i64 (0 : Int)) (by decide) (Ext.rf _) HV14.out.symm⟩
        · simp [Region.binds] at hpre
          have e13 : vv 13 = _ := HPA.out.facts 13 (by decide) (by decide) (by simp [hpre])
          rw [HV13.out] at e13
          go_simp
          exact HKk.out _ _ ⟨_, by simp [e13], HPA.out.put (i := 15) (v := .int .i64 (40 : Int)) (by decide) (Ext.rf _) HV15.out.symm⟩
      · intro Ls a W hall hI
        obtain ⟨vv, rfl, hI⟩ := hI
        have e14 : vv 14 = _ := hI.facts 14 (by decide) (by decide) (hall 14 (by decide))
        have e15 : vv 15 = _ := hI.facts 15 (by decide) (by decide) (hall 15 (by decide))
        rw [HV14.out] at e14
        rw [HV15.out] at e15
        have HX := Lib.hid hI.ext
        clear hI hall
        rw [e14, e15]
        go_wp2
        go_meet
        exact ⟨rfl, rfl, HX.out⟩
    case rest =>
    obtain ⟨rfl, rfl, hb⟩ := hcut
    have HX8 := Lib.hid (HX7.out.tr hb)
    have HBP8 := Lib.hid ((hb.block _ (heap_lt HBP7.out)).trans HBP7.out)
    have HBT8 := Lib.hid ((hb.block _ (heap_lt HBT7.out)).trans HBT7.out)
    clear hb HBP HBT HBP5 HBT5 HBP6 HBT6 HBP7 HBT7
    generalize wc = w8 at *
    have HN6 : Hid (nT t ≤ 600) := by
      show _ ≤ _
      have h := HG.out.size
      unfold sizeR at h
      cases hs : sizeOK (nodesL 1 t)
      · rw [hs] at h; simp at h
      · unfold sizeOK at hs
        rw [Bool.and_eq_true, decide_eq_true_eq] at hs
        exact hs.1
    obtain ⟨t0, t1, t2, t3, t4, t5⟩ := cells6 HBT8.out
    go_wp2_with fail
    (with_reducible refine (Depth_any k t _ _ _ (HT.out.below HX8.out) (by have := HN6.out; omega)).mono ?_)
    rintro e w9 ⟨rfl, hdn, hb⟩
    have HX9 := Lib.hid (HX8.out.tr hb)
    have HBP9 := Lib.hid ((hb.block _ (heap_lt HBP8.out)).trans HBP8.out)
    have HBT9 := Lib.hid ((hb.block _ (heap_lt HBT8.out)).trans HBT8.out)
    clear hb t0 t1 t2 t3 t4 t5 hdn HBP8 HBT8
    obtain ⟨dd, hdd⟩ : ∃ d, dT t = d := ⟨_, rfl⟩
    rw [hdd]
    have HDD := Lib.hid hdd
    clear hdd
    by_cases h24 : (24 : Int) ≤ dd
    · go_wp2_with fail
      (with_reducible refine (awake_any _).mono ?_)
      rintro e wz ⟨rfl, hb⟩
      have HZ := Lib.hid (HX9.out.tr hb)
      clear hb
      go_wp2
      go_ret
      exact ⟨rfl, HZ.out⟩
    have hd23 : dd ≤ 23 := by omega
    obtain ⟨t0, t1, t2, t3, t4, t5⟩ := cells6 HBT9.out
    go_wp2_with fail
    (with_reducible refine (Nodes39_any k t _ _ _ (HT.out.below HX9.out) (by have := HN6.out; omega)).mono ?_)
    rintro e w10 ⟨rfl, hb⟩
    have HXA := Lib.hid (HX9.out.tr hb)
    have HBPA := Lib.hid ((hb.block _ (heap_lt HBP9.out)).trans HBP9.out)
    have HBTA := Lib.hid ((hb.block _ (heap_lt HBT9.out)).trans HBT9.out)
    clear hb t0 t1 t2 t3 t4 t5 HBP9 HBT9
    obtain ⟨nn, hnn⟩ : ∃ n, nT t = n := ⟨_, rfl⟩
    rw [hnn]
    have HNN := Lib.hid hnn
    clear hnn
    by_cases h598 : (598 : Int) < (nn : Int)
    · go_wp2_with fail
      (with_reducible refine (awake_any _).mono ?_)
      rintro e wz ⟨rfl, hb⟩
      have HZ := Lib.hid (HXA.out.tr hb)
      clear hb
      go_wp2
      go_ret
      exact ⟨rfl, HZ.out⟩
    have HLN : Hid (nT t ≤ 598) := by show _ ≤ _; rw [HNN.out]; omega
    have HLD : Hid (dT t ≤ 23) := by show _ ≤ _; rw [HDD.out]; exact hd23
    have hdl := (PB.of HG.out.prog).dl
    clear hd23
    go_wp2_with fail
    go_loopw [17] (fun i wr => ∃ u : Nat, u ≤ P.decls.length + 1 ∧ i = .int .i64 u ∧ Ext w10 wr) (fun i _ => P.decls.length + 1 - (intOf i).toNat)
    case atStart => exact ⟨0, Nat.zero_le _, rfl, Ext.rf _⟩
    case round =>
      obtain ⟨u, hu, rfl, hE⟩ := hrel
      have HEU := Lib.hid hE
      have HXU := Lib.hid (HXA.out.tr hE)
      clear hE
      have p0 := HEU.out.keep (cellAt HBPA.out 0)
      have p1 := HEU.out.keep (cellAt HBPA.out 1)
      by_cases hlt : u ≤ P.decls.length
      · have hlt' : (u : Int) ≤ (P.decls.length : Int) := by omega
        have t0 := HEU.out.keep (cellAt HBTA.out 0)
        have t1 := HEU.out.keep (cellAt HBTA.out 1)
        have t2 := HEU.out.keep (cellAt HBTA.out 2)
        have t3 := HEU.out.keep (cellAt HBTA.out 3)
        have t4 := HEU.out.keep (cellAt HBTA.out 4)
        have t5 := HEU.out.keep (cellAt HBTA.out 5)
        have HUT : Hid (isTypeB P (u : Int) = true) := by show _ = _; unfold isTypeB; simp; omega
        go_upto_region 20 with fail
        have hx2 := Ext.al2 wr (.cells #[.int .i64 t.op, .int .i64 t.n, .string t.nm, .int .i64 t.ty, .slice Aa t.args.length ca, .slice Bb t.cls.length cb, .int .i64 0, .int .i64 0, .string ⟨#[122, 122]⟩, .int .i64 0, .slice none 0 0, .slice none 0 0] 41) (.cells #[.int .i64 8, .int .i64 0, .string ⟨#[122, 122]⟩, .int .i64 (u : Int), .slice (some ⟨wr.heap.size, 0, none⟩) 2 2, .slice none 0 0] 41)
        obtain ⟨hrow, hbox, hsz⟩ := bx_two wr (.cells #[.int .i64 t.op, .int .i64 t.n, .string t.nm, .int .i64 t.ty, .slice Aa t.args.length ca, .slice Bb t.cls.length cb, .int .i64 0, .int .i64 0, .string ⟨#[122, 122]⟩, .int .i64 0, .slice none 0 0, .slice none 0 0] 41) (.cells #[.int .i64 8, .int .i64 0, .string ⟨#[122, 122]⟩, .int .i64 (u : Int), .slice (some ⟨wr.heap.size, 0, none⟩) 2 2, .slice none 0 0] 41)
        generalize World.alloc (World.alloc wr _) _ = w11 at *
        have HRT : Hid (RT w11 (k + 1 + 1) (letZ (u : Int) t) (.slice (some ⟨wr.heap.size, 0, none⟩) 2 2) (.slice none 0 0)) :=
          RT.two (by decide) (by unfold ok64; decide) (wf64 (by omega) (by omega)) hrow (RT.mono (Nat.le_succ k) (HT.out.below (HXU.out.tr hx2))) (RT.leaf _ _ _ _ _ _ (by decide) (by unfold ok64; decide) (by unfold ok64; decide))
        have HX11 := Lib.hid (HXU.out.tr hx2)
        have HE11 := Lib.hid (HEU.out.tr hx2)
        clear t0 t1 t2 t3 t4 t5 p0 p1 hrow hsz hx2
        have p0 := HE11.out.keep (cellAt HBPA.out 0)
        have p1 := HE11.out.keep (cellAt HBPA.out 1)
        obtain ⟨t0, t1, t2, t3, t4, t5⟩ := cells6 hbox
        clear hbox
        go_wp2_with fail
        (refine (Typec_any P _ _ _ _ l1 l2 (k + 1 + 1) (letZ (u : Int) t) _ _ w11 (HD.out.below HX11.out) (HF.out.below HX11.out) HFI.out (H1.out.below HX11.out) (H2.out.below HX11.out) (by have := N1.out; omega) (by have := N2.out; omega) HRT.out (fine_of (by have := letZ_uT (u : Int) t; have := HU.out; omega)) (by have := wT_le _ (letZ (u : Int) t) (Nat.le_refl _); have := letZ_uT (u : Int) t; have := HU.out; have := N1.out; have := N2.out; unfold maxLen; omega) (by have := letZ_uT (u : Int) t; have := HU.out; omega)).mono ?_)
        rintro e w12 ⟨he, hb⟩
        have hlz := HG.out.letz (fv := m1) (fl := m2) HUT.out HLN.out HLD.out
        have he2 := he.good hlz.1 (letZ_FVs (u : Int) HFV.out)
        rw [hlz.2, HTY.out, HER.out] at he2
        have HE12 := Lib.hid (HE11.out.tr hb)
        clear hlz he hb t0 t1 t2 t3 t4 t5 p0 p1 HX11 HE11 HRT
        rw [if_neg (fun h => absurd h.1 (by decide))] at he2
        subst he2
        go_wp2
        exact ⟨⟨u + 1, by omega, by go_num, HE12.out⟩, by simp [intOf]; omega⟩
      · have hlt' : (P.decls.length : Int) < (u : Int) := by omega
        go_wp2_with fail
        (with_reducible refine (awake_any _).mono ?_)
        rintro e wz ⟨rfl, hb⟩
        have HZ := Lib.hid (HXU.out.tr hb)
        clear hb
        go_wp2
        go_ret
        exact ⟨rfl, HZ.out⟩
end Go.Proofs.YtogmjgccopmplaaGreat
