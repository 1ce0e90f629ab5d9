/- law.go: CheckOwn. -/
import Derived.Test.YtogmjgccopmplaaGreatQ32
import Derived.Deep.Cut
import Derived.Deep.DeepCutAuto
namespace Go.Proofs.YtogmjgccopmplaaGreat
open Go.RowKit

set_option maxHeartbeats 4000000 in
set_option maxRecDepth 100000 in
theorem checkOwn_any (P : Pg) (vd vf v1 v2 : Value) (l1 l2 : List Prm) (k : Nat) (t : Tm) (va vc : Value) (w : World) (hd : RDecls w vd P.decls) (hf : RFns w vf P.funs) (hfine : FinePg P) (h1 : RPrms w v1 l1) (h2 : RPrms w v2 l2) (ht : RT w k t va vc)
    (hu : uT t ≤ 50000000) (hM : Modest P.decls) (hl : P.funs.length ≤ 50000000) (hF : ∀ f ∈ P.funs, f.ps.length ≤ 50000000 ∧ uT f.body ≤ 50000000) :
    Calls Tryz.prog 6 #[pV vd vf, v1, v2, tV t va vc] w fun e w' => e = .returned (.bool true) ∧ Ext w w' := by
  have HD := Lib.hid hd; have HF := Lib.hid hf; have HFI := Lib.hid hfine; have H1 := Lib.hid h1; have H2 := Lib.hid h2; have HT := Lib.hid ht; have HU := Lib.hid hu
  have HFT := Lib.hid (fine_of hu)
  have HWT : Hid (wT t ≤ 50000000) := Nat.le_trans (wT_le _ t (Nat.le_refl _)) hu
  have HM := Lib.hid hM; have HL := Lib.hid hl; have HFF := Lib.hid hF
  obtain ⟨Ad, cd, rfl, hcd, hmd⟩ := hd.form
  obtain ⟨Af, cf, rfl, hcf, hmf⟩ := hf.form
  obtain ⟨A1, c1, rfl, hc1, hm1⟩ := h1.form
  obtain ⟨A2, c2, rfl, hc2, hm2⟩ := h2.form
  obtain ⟨_, ⟨Aa, ca, rfl, -, -⟩, ⟨Bb, cb, rfl, -, -⟩⟩ := ht.form
  clear hd hf hfine h1 h2 ht hu hM hl hF
  unfold maxLen at hm1 hm2
  have HE0 := Lib.hid (Ext.al w (.cells #[.slice Ad P.decls.length cd, .slice Af P.funs.length cf] 25))
  have HE1 := Lib.hid (Ext.al (w.alloc (.cells #[.slice Ad P.decls.length cd, .slice Af P.funs.length cf] 25)) (.cells #[.int .i64 t.op, .int .i64 t.n, .string t.nm, .int .i64 t.ty, .slice Aa t.args.length ca, .slice Bb t.cls.length cb] 41))
  have HBP0 := Lib.hid (heapNew w (.cells #[.slice Ad P.decls.length cd, .slice Af P.funs.length cf] 25))
  have HBP := Lib.hid ((HE1.out.block _ (heap_lt HBP0.out)).trans HBP0.out)
  have HBT := Lib.hid (box6b w (.cells #[.slice Ad P.decls.length cd, .slice Af P.funs.length cf] 25) (.int .i64 t.op) (.int .i64 t.n) (.string t.nm) (.int .i64 t.ty) (.slice Aa t.args.length ca) (.slice Bb t.cls.length cb))
  have HE : Hid (Ext w _) := Lib.hid (HE0.out.tr HE1.out)
  clear HBP0 HE0 HE1
  have p0 := cellAt HBP.out 0
  have p1 := cellAt HBP.out 1
  have hmx : Tryz.prog.follows .mixedOrders = true := by kernel_rfl
  go_enter Tryz.func6, Tryz.ntmps6
  go_wp2_with fail
  generalize World.alloc (World.alloc w _) _ = w1 at *
  clear p0 p1
  (with_reducible refine (Few_any P _ _ 700 _ (HD.out.below HE.out) (HF.out.below HE.out) (by omega) (by omega)).mono ?_)
  rintro e w2 ⟨q, rfl, hb⟩
  have HX2 := Lib.hid (HE.out.tr hb)
  have HBP := Lib.hid (((hb).block _ (heap_lt HBP.out)).trans HBP.out)
  have HBT := Lib.hid (((hb).block _ (heap_lt HBT.out)).trans HBT.out)
  clear hb
  obtain ⟨t0, t1, t2, t3, t4, t5⟩ := cells6 HBT.out
  cases q
  · go_wp2_with fail
    (with_reducible refine (awake_any _).mono ?_)
    rintro e wz ⟨rfl, hb⟩
    have HZ := Lib.hid (HX2.out.tr hb)
    clear hb
    go_wp2
    go_ret
    exact ⟨rfl, HZ.out⟩
  · go_wp2_with fail
    (with_reducible refine (Fits_any k t _ _ 700 _ (HT.out.below HX2.out) (by omega) (by omega)).mono ?_)
    rintro e w3 ⟨q, rfl, hb⟩
    have HX3 := Lib.hid (HX2.out.tr hb)
    have HBP := Lib.hid (((hb).block _ (heap_lt HBP.out)).trans HBP.out)
    have HBT := Lib.hid (((hb).block _ (heap_lt HBT.out)).trans HBT.out)
    clear hb
    clear t0 t1 t2 t3 t4 t5
    cases q
    · go_wp2_with fail
      (with_reducible refine (awake_any _).mono ?_)
      rintro e wz ⟨rfl, hb⟩
      have HZ := Lib.hid (HX3.out.tr hb)
      clear hb
      go_wp2
      go_ret
      exact ⟨rfl, HZ.out⟩
    · by_cases h99 : (99 : Int) < l1.length
      · go_wp2_with fail
        (with_reducible refine (awake_any _).mono ?_)
        rintro e wz ⟨rfl, hb⟩
        have HZ := Lib.hid (HX3.out.tr hb)
        clear hb
        go_wp2
        go_ret
        exact ⟨rfl, HZ.out⟩
      by_cases h98 : (99 : Int) < l2.length
      · go_wp2_with fail
        (with_reducible refine (awake_any _).mono ?_)
        rintro e wz ⟨rfl, hb⟩
        have HZ := Lib.hid (HX3.out.tr hb)
        clear hb
        go_wp2
        go_ret
        exact ⟨rfl, HZ.out⟩
      go_upto_region 3 with fail
      go_cut [9, 10] from 24 to 110 (fun v9 v10 W => ∃ b b' ud uf xa xc, v9 = .pointer (some ⟨b, 0, none⟩) ∧ v10 = .pointer (some ⟨b', 0, none⟩) ∧ R3c P t w3 W b b' ud uf xa xc)
      case first =>
        refine wp_region_invC hmx (by kernel_rfl) (fun Ls a W => ∃ vv : Nat → Value, a = { tmps := #[pV (Value.slice Ad P.decls.length cd) (Value.slice Af P.funs.length cf), Value.slice A1 l1.length c1, Value.slice A2 l2.length c2, tV t (Value.slice Aa t.args.length ca) (Value.slice Bb t.cls.length cb), Value.pointer (some { block := w.heap.size, off := 0 }), undef, undef, Value.pointer (some { block := w.heap.size + 1, off := 0 }), Value.bool false, vv 4, vv 5, undef, undef, undef, undef, undef, undef, undef, undef, undef, undef, undef, undef, undef, Value.agg #[Value.slice Ad P.decls.length cd, Value.slice Af P.funs.length cf], Value.bool true, Value.bool false, Value.bool false, Value.agg #[Value.int IntKind.i64 t.op, Value.int IntKind.i64 t.n, Value.string t.nm, Value.int IntKind.i64 t.ty, Value.slice Aa t.args.length ca, Value.slice Bb t.cls.length cb], Value.bool true, Value.bool false, Value.bool false, Value.bool false, Value.slice A1 l1.length c1, Value.int IntKind.i64 (l1.length : Int), Value.bool (decide ((99 : Int) < l1.length)), Value.bool (decide ((99 : Int) < l1.length)), Value.bool (decide ((99 : Int) < l1.length)), Value.slice A2 l2.length c2, Value.int IntKind.i64 (l2.length : Int), Value.bool (decide ((99 : Int) < l2.length)), Value.bool (decide ((99 : Int) < l1.length) || decide ((99 : Int) < l2.length)), undef, vv 0, vv 1, vv 2, vv 3, undef, undef, undef, undef, undef, undef, undef, undef, undef, undef, undef, undef, undef, undef, undef, undef, undef, undef, undef, undef, undef, undef, undef, undef, undef, undef, undef, undef, undef, undef, undef, undef, undef, undef, undef, undef, undef, undef, undef, undef, undef, undef, undef, undef, undef, undef, undef, undef, undef, undef, undef, undef, undef, undef, undef, undef, undef, undef, undef, undef, undef, undef, undef, undef], defers := [] } ∧
          ((Ls 6 = false ∧ ∃ g g', R3 P t (pV (.slice Ad P.decls.length cd) (.slice Af P.funs.length cf)) (tV t (.slice Aa t.args.length ca) (.slice Bb t.cls.length cb)) w3 Ls W vv g g') ∨
            (Ls 6 = true ∧ Ls 7 = false ∧ ∃ b b' ud uf xa xc, R3b P t w3 W vv b b' ud uf xa xc) ∨
            ((∀ i, i < 8 → Ls i = true) ∧ ∃ b b' ud uf xa xc, vv 4 = .pointer (some ⟨b, 0, none⟩) ∧ vv 5 = .pointer (some ⟨b', 0, none⟩) ∧ R3c P t w3 W b b' ud uf xa xc))) ?_ ?_ ?_
        · refine ⟨fun _ => undef, rfl, .inl ⟨rfl, none, none, (Ext.rf _).drew, fun _ => rfl, (fun h => by cases h), fun _ => rfl, (fun h => by cases h), (fun h => by cases h), (fun h => by cases h), (fun h => by cases h), (fun h => by cases h)⟩⟩
        · intro Ls a W i op ho hpre hl hc hI Kk HKk
          have hi : i < 8 := (Array.getElem?_eq_some_iff.1 ho).1
          obtain ⟨vv, rfl, ⟨h6, g, g', hR⟩ | ⟨h6, h7, b, b', ud, uf, xa, xc, hR⟩ | hI⟩ := hI
          · have HR := Lib.hid hR
            have H6 : Hid (∀ i, i < 6 → (fun j => decide (j = i) || Ls j) 6 = false) := fun i hi => by
              show (decide (6 = i) || Ls 6) = false
              rw [h6, decide_eq_false (by omega)]; rfl
            have H60 := Lib.hid h6
            have hcs : i = 0 ∨ i = 1 ∨ i = 2 ∨ i = 3 ∨ i = 4 ∨ i = 5 ∨ i = 6 ∨ i = 7 := by omega
            rcases hcs with rfl | rfl | rfl | rfl | rfl | rfl | rfl | rfl
            all_goals
              obtain rfl := Option.some.inj ho
              clear ho hi h6
            · clear hpre hR
              have c0 := HR.out.ext.keep (cellAt HBP.out 0)
              have c1 := HR.out.ext.keep (cellAt HBP.out 1)
              go_simp
              exact HKk.out _ _ ⟨_, rfl, .inl ⟨H6.out 0 (by decide), g, g', HR.out.step (i := 0) (by decide) (Ext.rf _) _ (fun _ => rfl) (fun h => absurd h (by decide)) (fun h => absurd h (by decide)) (fun h => absurd h (by decide))⟩⟩
            · simp [Region.binds] at hpre
              have e0 : vv 0 = _ := hR.f0 (by simp [hpre])
              clear hR
              go_simp
              (refine (CopyProg_any P _ _ W (HD.out.below (HX3.out.tr HR.out.ext)) (HF.out.below (HX3.out.tr HR.out.ext)) HM.out HL.out HFF.out).mono ?_)
              rintro e W' ⟨⟨ud, uf, vxs, B, rfl, hk, hf⟩, hb⟩
              exact HKk.out _ _ ⟨_, by simp [e0], .inl ⟨H6.out 1 (by decide), g, g', HR.out.step (i := 1) (by decide) hb _ (fun h => absurd h (by decide)) (fun _ => ⟨ud, uf, vxs, B, rfl, hk, hf⟩) (fun h => absurd h (by decide)) (fun h => absurd h (by decide))⟩⟩
            · clear hpre hR
              have c0 := HR.out.ext.keep (cellAt HBT.out 0)
              have c1 := HR.out.ext.keep (cellAt HBT.out 1)
              have c2 := HR.out.ext.keep (cellAt HBT.out 2)
              have c3 := HR.out.ext.keep (cellAt HBT.out 3)
              have c4 := HR.out.ext.keep (cellAt HBT.out 4)
              have c5 := HR.out.ext.keep (cellAt HBT.out 5)
              go_simp
              exact HKk.out _ _ ⟨_, rfl, .inl ⟨H6.out 2 (by decide), g, g', HR.out.step (i := 2) (by decide) (Ext.rf _) _ (fun h => absurd h (by decide)) (fun h => absurd h (by decide)) (fun _ => rfl) (fun h => absurd h (by decide))⟩⟩
            · simp [Region.binds] at hpre
              have e2 : vv 2 = _ := hR.f2 (by simp [hpre])
              clear hR
              go_simp
              (refine (RCopy_any k t _ _ W (HT.out.below (HX3.out.tr HR.out.ext)) HU.out).mono ?_)
              rintro e W' ⟨⟨ya, yc, rfl, hr⟩, hb⟩
              exact HKk.out _ _ ⟨_, by simp [e2], .inl ⟨H6.out 3 (by decide), g, g', HR.out.step (i := 3) (by decide) hb _ (fun h => absurd h (by decide)) (fun h => absurd h (by decide)) (fun h => absurd h (by decide)) (fun _ => ⟨ya, yc, k, rfl, hr⟩)⟩⟩
            · clear hpre hR
              go_simp
              exact HKk.out _ _ ⟨_, rfl, .inl ⟨H6.out 4 (by decide), _, _, HR.out.alloc4 hl⟩⟩
            · clear hpre hR
              go_simp
              exact HKk.out _ _ ⟨_, rfl, .inl ⟨H6.out 5 (by decide), _, _, HR.out.alloc5 hl⟩⟩
            · have h4 := hpre ⟨4, .data⟩ (by simp) rfl
              have h1 := hpre ⟨1, .data⟩ (by simp) rfl
              have h3 := hpre ⟨3, .chain⟩ (by simp) rfl
              have h5 := hpre ⟨5, .phase⟩ (by simp) rfl
              have h7 : Ls 7 = false := by
                cases h7 : Ls 7
                · rfl
                · have := hc 7 _ rfl h7 ⟨6, .phase⟩ (by simp) rfl
                  rw [H60.out] at this; cases this
              obtain ⟨b, b', ud, uf, xa, xc, e4, e1, hbx, ⟨Au, cu, Av, cv, nu, nv, rfl, rfl⟩, hB⟩ := hR.store h4 h5 h1 h3
              have HBB := Lib.hid hB
              have c0 := cellAt hbx 0
              have c1 := cellAt hbx 1
              have f0 := frozenAt hbx 0
              have f1 := frozenAt hbx 1
              clear hpre hR hB h1 h3 h4 h5
              go_simp
              exact HKk.out _ _ ⟨vv, by simp [e4, e1], .inr (.inl ⟨by simp, by show (decide (7 = 6) || Ls 7) = false; rw [h7]; rfl, b, b', _, _, xa, xc, HBB.out⟩)⟩
            · exfalso
              have := hpre ⟨6, .phase⟩ (by simp) rfl
              rw [H60.out] at this; cases this
          · have HR := Lib.hid hR
            have hall : ∀ i, i < 7 → Ls i = true := by
              have h4 := hc 6 _ rfl h6 ⟨4, .data⟩ (by simp) rfl
              have h1 := hc 6 _ rfl h6 ⟨1, .data⟩ (by simp) rfl
              have h3 := hc 6 _ rfl h6 ⟨3, .chain⟩ (by simp) rfl
              have h5 := hc 6 _ rfl h6 ⟨5, .phase⟩ (by simp) rfl
              have h0 := hc 6 _ rfl h6 ⟨0, .phase⟩ (by simp) rfl
              have h2 := hc 3 _ rfl h3 ⟨2, .data⟩ (by simp) rfl
              intro i hi
              rcases (show i = 0 ∨ i = 1 ∨ i = 2 ∨ i = 3 ∨ i = 4 ∨ i = 5 ∨ i = 6 by omega) with rfl | rfl | rfl | rfl | rfl | rfl | rfl <;> assumption
            have hcs : i < 7 ∨ i = 7 := by omega
            rcases hcs with hi6 | rfl
            · rw [hall i hi6] at hl; cases hl
            · obtain rfl := Option.some.inj ho
              have e5 := hR.p5
              have e3 := hR.v3
              have e4 := hR.p4
              obtain ⟨kb, hkb⟩ := hR.body
              obtain ⟨-, ⟨Ay, cy, rfl, -, -⟩, ⟨By, dy, rfl, -, -⟩⟩ := hkb.form
              have HCC := Lib.hid hR.store
              obtain ⟨c0, c1, c2, c3, c4, c5⟩ := cells6 hR.box'
              have f0 := frozenAt hR.box' 0
              have f1 := frozenAt hR.box' 1
              have f2 := frozenAt hR.box' 2
              have f3 := frozenAt hR.box' 3
              have f4 := frozenAt hR.box' 4
              have f5 := frozenAt hR.box' 5
              clear ho hi hR hpre hkb
              go_simp
              refine HKk.out _ _ ⟨vv, by simp [e5, e3, e4], .inr (.inr ⟨fun i hi => ?_, b, b', ud, uf, _, _, e4, e5, HCC.out⟩)⟩
              show (decide (i = 7) || Ls i) = true
              rcases (show i < 7 ∨ i = 7 by omega) with h | rfl
              · rw [hall i h, Bool.or_true]
              · rfl
          · exfalso
            rw [hI.1 i hi] at hl; cases hl
        · intro Ls a W hall hI
          obtain ⟨vv, rfl, ⟨h6, -⟩ | ⟨-, h7, -⟩ | ⟨-, b, b', ud, uf, xa, xc, e4, e5, h3c⟩⟩ := hI
          · have := hall 6 (by decide); rw [h6] at this; cases this
          · have := hall 7 (by decide); rw [h7] at this; cases this
          · rw [e4, e5]
            go_wp2
            go_meet
            exact ⟨b, b', ud, uf, xa, xc, rfl, rfl, h3c⟩
      case rest =>
        obtain ⟨b, b', ud, uf, xa, xc, rfl, rfl, h3c⟩ := hcut
        have HC := Lib.hid h3c
        have HXC := Lib.hid (HX3.out.tr h3c.ext)
        have HP := Lib.hid ((h3c.ext.block _ (heap_lt HBP.out)).trans HBP.out)
        have HTT := Lib.hid ((h3c.ext.block _ (heap_lt HBT.out)).trans HBT.out)
        have N1 : Hid (l1.length ≤ 99) := by show _ ≤ _; omega
        have N2 : Hid (l2.length ≤ 99) := by show _ ≤ _; omega
        clear h3c h99 h98 hm1 hm2 hc1 hc2 hcd hmd hcf hmf
        go_wp2_with (at_builtin; refine app_vals Tryz.undPrm Tryz.infoPrm (by decide) (by decide) (by decide) rfl _ _ rfl wc.heap.size (.slice none 0 0) 0 [] rfl ⟨rfl, .inl ⟨rfl, rfl⟩⟩ A1 l1.length c1 (prmCells l1) rfl (H1.out.below HXC.out).src (prmCells_one l1) (by have := N1.out; omega) (Nat.le_refl _) ?_)
        intro V1 w5 ho hg
        have HY5 : Hid (Ext wc w5) := Below.grown (Below.refl _ _) hg (Nat.le_refl _) (fun j e => by simp [Value.ownBlock] at e)
        have HV1 := Lib.hid (own_prms ho (sizes_p H1.out))
        obtain ⟨Av1, cv1, rfl⟩ := own_shapeL ho
        clear ho hg
        go_wp2_with (at_builtin; refine app_vals Tryz.undPrm Tryz.infoPrm (by decide) (by decide) (by decide) rfl _ _ rfl w5.heap.size (.slice none 0 0) 0 [] rfl ⟨rfl, .inl ⟨rfl, rfl⟩⟩ A2 l2.length c2 (prmCells l2) rfl (H2.out.below (HXC.out.tr HY5.out)).src (prmCells_one l2) (by have := N2.out; omega) (Nat.le_refl _) ?_)
        intro V2 w6 ho hg
        have HX56 : Hid (Ext w5 w6) := Below.grown (Below.refl _ _) hg (Nat.le_refl _) (fun j e => by simp [Value.ownBlock] at e)
        have HV2 := Lib.hid (own_prms ho (sizes_p H2.out))
        obtain ⟨Av2, cv2, rfl⟩ := own_shapeL ho
        have HY6 := Lib.hid (HY5.out.tr HX56.out)
        have HV1 := Lib.hid (HV1.out.below HX56.out)
        clear ho hg HY5 HX56
        have p0 := HY6.out.keep (cellAt HP.out 0)
        have p1 := HY6.out.keep (cellAt HP.out 1)
        go_wp2_with fail
        (with_reducible refine (Checkc_any P _ _ _ (HD.out.below (HXC.out.tr HY6.out)) (HF.out.below (HXC.out.tr HY6.out)) HFI.out).mono ?_)
        generalize checkR P = cc
        rintro e w7 ⟨rfl, hb⟩
        have HX67 := Lib.hid hb
        have HY7 := Lib.hid (HY6.out.tr hb)
        clear hb p0 p1
        have p0 := HY7.out.keep (cellAt HP.out 0)
        have p1 := HY7.out.keep (cellAt HP.out 1)
        have t0 := HY7.out.keep (cellAt HTT.out 0)
        have t1 := HY7.out.keep (cellAt HTT.out 1)
        have t2 := HY7.out.keep (cellAt HTT.out 2)
        have t3 := HY7.out.keep (cellAt HTT.out 3)
        have t4 := HY7.out.keep (cellAt HTT.out 4)
        have t5 := HY7.out.keep (cellAt HTT.out 5)
        go_wp2_with fail
        (with_reducible refine (TypeX_any P _ _ _ _ l1 l2 k t _ _ _ (HD.out.below (HXC.out.tr HY7.out)) (HF.out.below (HXC.out.tr HY7.out)) HFI.out (H1.out.below (HXC.out.tr HY7.out)) (H2.out.below (HXC.out.tr HY7.out)) (by have := N1.out; omega) (by have := N2.out; omega) (HT.out.below (HXC.out.tr HY7.out)) HFT.out (by have := N1.out; have := N2.out; have := HWT.out; unfold maxLen; omega) (by have := HU.out; omega)).mono ?_)
        rintro e w8 ⟨⟨tp1, tp2, rfl⟩, hb⟩
        have HX68 := Lib.hid (HX67.out.tr hb)
        have HY8 := Lib.hid (HY7.out.tr hb)
        clear hb p0 p1 t0 t1 t2 t3 t4 t5
        have p0 := HY8.out.keep (cellAt HP.out 0)
        have p1 := HY8.out.keep (cellAt HP.out 1)
        go_wp2_with fail
        (with_reducible refine (FaultX_any P _ _ _ (HD.out.below (HXC.out.tr HY8.out)) (HF.out.below (HXC.out.tr HY8.out)) HFI.out).mono ?_)
        rintro e w9 ⟨⟨fi, fe, fv, fp, fd, rfl, hfo, hfp⟩, hb⟩
        have HWA := Lib.hid (WRow.of_own hfo)
        have HZ8 : Hid (w6.heap.size ≤ w8.heap.size) := HX68.out.size
        obtain ⟨Aa1, ca1, rfl, hna, hma⟩ := HWA.out.form
        unfold maxLen at hma
        have HY9 : Hid (Ext w6 w9) := HX68.out.tr hb
        clear hb hfo hfp p0 p1
        generalize fp.length = na at *
        go_wp2_with fail
        go_loopw [67] (fun i wr => ∃ j : Nat, j ≤ na ∧ i = .int .i64 j ∧ WRow wr w8.heap.size (.slice Aa1 na ca1) na ∧ Ext w6 wr) (fun i _ => na - (intOf i).toNat)
        case atStart => exact ⟨0, Nat.zero_le _, rfl, HWA.out, HY9.out⟩
        case round =>
          obtain ⟨j, hj, rfl, ha, hE⟩ := hrel
          by_cases hlt : j < na
          · obtain ⟨g, u, rfl, hg, hcl, hz⟩ := ha.at_ hlt
            have HA := Lib.hid (ha.set g j (.int .i64 (-1)))
            have HEE := Lib.hid (Below.setNew hE (Nat.le_trans HZ8.out hg) (i := j) (.int .i64 (-1)))
            clear ha hE
            go_wp2
            exact ⟨⟨j + 1, by omega, by go_num, HA.out, HEE.out⟩, by simp [intOf]; omega⟩
          · have HE10 := Lib.hid hE
            clear ha hE HWA HY9
            generalize wr = wl1 at *
            have HY10 := Lib.hid (HY6.out.tr HE10.out)
            have p0 := HY10.out.keep (cellAt HP.out 0)
            have p1 := HY10.out.keep (cellAt HP.out 1)
            go_wp2_with fail
            (with_reducible refine (FaultX_any P _ _ _ (HD.out.below (HXC.out.tr HY10.out)) (HF.out.below (HXC.out.tr HY10.out)) HFI.out).mono ?_)
            rintro e w11 ⟨⟨fi2, fe2, fv2, fp2, fd2, rfl, hfo, hfp⟩, hb⟩
            have HRI := Lib.hid (own_ints hfo)
            have HPOS : Hid (∀ (i : Nat) (x : Int), fp2[i]? = some x → 0 ≤ x) := fun i x hx => hfp x (List.mem_of_getElem? hx)
            obtain ⟨Ab1, cb1, rfl, hnb, hmb⟩ := HRI.out.form
            unfold maxLen at hmb
            have HY11 : Hid (Ext w6 w11) := HE10.out.tr hb
            clear hb hfo hfp p0 p1
            go_wp2_with fail
            go_loopw [83] (fun i wr => ∃ j : Nat, j ≤ fp2.length ∧ i = .int .i64 j ∧ Ext w11 wr) (fun i _ => fp2.length - (intOf i).toNat)
            case atStart => exact ⟨0, Nat.zero_le _, rfl, Ext.rf _⟩
            case round =>
              obtain ⟨j2, hj2, rfl, hE⟩ := hrel
              have HE12 := Lib.hid hE
              clear hE
              by_cases hlt2 : j2 < fp2.length
              · obtain ⟨g, o, rfl, hbl, hcl⟩ := HRI.out.at_ hlt2
                have hcl := HE12.out.keep hcl
                have hx := HPOS.out j2 _ (List.getElem?_eq_getElem hlt2)
                generalize fp2[j2] = x at *
                have hd : decide (x < 0) = false := decide_eq_false (by omega)
                go_wp2
                exact ⟨⟨j2 + 1, by omega, by go_num, HE12.out⟩, by simp [intOf]; omega⟩
              · generalize wr = wl2 at *
                have HE13 := Lib.hid (HY11.out.tr HE12.out)
                have HY13 := Lib.hid (HY6.out.tr HE13.out)
                have p0 := HY13.out.keep (cellAt HP.out 0)
                have p1 := HY13.out.keep (cellAt HP.out 1)
                have q0 := HY13.out.keep (cellAt HC.out.box 0)
                have q1 := HY13.out.keep (cellAt HC.out.box 1)
                obtain ⟨Bk, vxs, hkd⟩ := HC.out.decls
                have HKD := Lib.hid ((hkd.reads (sizes_d HD.out)).below HY13.out)
                have HKF := Lib.hid (HC.out.funs.below HY13.out)
                clear hkd
                obtain ⟨Aud, cud, rfl, -, -⟩ := HKD.out.form
                obtain ⟨Auf, cuf, rfl, -, -⟩ := HKF.out.form
                go_wp2_with fail
                (with_reducible refine (SameProg_any P _ _ _ _ _ HKD.out HKF.out (HD.out.below (HXC.out.tr HY13.out)) (HF.out.below (HXC.out.tr HY13.out))).mono ?_)
                rintro e w20 ⟨rfl, hb⟩
                have HE20 := Lib.hid (HE13.out.tr hb)
                have HY20 := Lib.hid (HY13.out.tr hb)
                clear hb p0 p1 q0 q1
                obtain ⟨kb, hkb⟩ := HC.out.body
                obtain ⟨-, ⟨Ay, cy, rfl, -, -⟩, ⟨By, dy, rfl, -, -⟩⟩ := hkb.form
                have HKB := Lib.hid (RT.mono (Nat.le_max_right k kb) (hkb.below HY20.out))
                have HKT := Lib.hid (RT.mono (Nat.le_max_left k kb) (HT.out.below (HXC.out.tr HY20.out)))
                clear hkb
                have t0 := HY20.out.keep (cellAt HTT.out 0)
                have t1 := HY20.out.keep (cellAt HTT.out 1)
                have t2 := HY20.out.keep (cellAt HTT.out 2)
                have t3 := HY20.out.keep (cellAt HTT.out 3)
                have t4 := HY20.out.keep (cellAt HTT.out 4)
                have t5 := HY20.out.keep (cellAt HTT.out 5)
                have q0 := HY20.out.keep (cellAt HC.out.box' 0)
                have q1 := HY20.out.keep (cellAt HC.out.box' 1)
                have q2 := HY20.out.keep (cellAt HC.out.box' 2)
                have q3 := HY20.out.keep (cellAt HC.out.box' 3)
                have q4 := HY20.out.keep (cellAt HC.out.box' 4)
                have q5 := HY20.out.keep (cellAt HC.out.box' 5)
                go_wp2_with fail
                (with_reducible refine (RSame_any _ t _ _ _ _ _ HKB.out HKT.out).mono ?_)
                rintro e w21 ⟨rfl, hb⟩
                have HE21 := Lib.hid (HE20.out.tr hb)
                have HY21 := Lib.hid (HY20.out.tr hb)
                clear hb t0 t1 t2 t3 t4 t5 q0 q1 q2 q3 q4 q5
                go_wp2_with fail
                (with_reducible refine (SameParams_any _ _ l1 _ (HV1.out.below HE21.out) (H1.out.below (HXC.out.tr HY21.out))).mono ?_)
                rintro e w22 ⟨rfl, hb⟩
                have HE22 := Lib.hid (HE21.out.tr hb)
                have HY22 := Lib.hid (HY21.out.tr hb)
                clear hb
                go_wp2_with fail
                (with_reducible refine (SameParams_any _ _ l2 _ (HV2.out.below HE22.out) (H2.out.below (HXC.out.tr HY22.out))).mono ?_)
                rintro e w23 ⟨rfl, hb⟩
                have HY23 := Lib.hid (HY22.out.tr hb)
                clear hb
                go_wp2_with fail
                (with_reducible refine (awake_any _).mono ?_)
                rintro e wz ⟨rfl, hb⟩
                have HZ := Lib.hid (HXC.out.tr (HY23.out.tr hb))
                clear hb
                go_wp2
                go_ret
                exact ⟨rfl, HZ.out⟩
end Go.Proofs.YtogmjgccopmplaaGreat
