/- law.go: KindOwn. -/
import Derived.Test.YtkdhhcidpklgoaaDoorQ27
import Derived.Deep.RegionHeld3
import Derived.Deep.CutRange
import Derived.OpenShut
import Derived.ChangeSame
import Derived.ChangeVars
import Derived.LaidLaws
import Derived.JoinedCond
import Derived.Deep.DeepHandedRow
import Derived.Deep.DeepWitnessRowRef
import Derived.Lib.LaidTab
namespace Go.Proofs.YtkdhhcidpklgoaaDoor
open Go.RowKit Go.Shelf
attribute [local go_sem] Oper.semAt_some

theorem app_nil_ext {w w' : World} (hg : w.grownBy w' (Value.slice none 0 0).ownBlock) : Ext w w' := ⟨hg.os, hg.tape, hg.output, hg.size, fun k hk => hg.block k hk (by simp [Value.ownBlock])⟩
set_option maxHeartbeats 16000000 in
set_option maxRecDepth 100000 in
theorem kindOwn_any (vd vf vx va vt vu xa xb : Value) (C : Cg) (xs ys tx ta : List Int) (t : Nd) (k : Nat) (w : World) (hC : RCg w vd vf C) (hS : ShX C) (htab : Tabs w) (hx : RInts w vx xs) (ha : RInts w va ys) (ht : RInts w vt tx) (hu : RInts w vu ta) (hn : RNd w k t xa xb) (hb : BC t) (hl1 : xs.length + ys.length ≤ 1048576) (hl2 : tx.length + ta.length ≤ 1048576) :
    Calls Tryd.prog 3 #[cV vd vf, vx, va, tysV vt vu, nV t xa xb] w fun e w' => e = .returned (.bool true) ∧ Ext w w' := by
  have hB : ∀ f ∈ C.funs, BN f.body := fun f hf => (hS.b f hf).bn
  have HFE := Lib.hid (fun W (hW : Ext w W) => few6_any vd vf C 3000 W (hC.below hW) hB (by decide) (by decide))
  have HFI := Lib.hid (fun W (hW : Ext w W) => fits6_any k t xa xb 3000 W (hn.below hW) hb.bn (by decide) (by decide))
  have HAW := Lib.hid (fun W (hW : Ext w W) => awake_any W (htab.ext hW))
  have HCC := Lib.hid (fun W (hW : Ext w W) => copyCore_any vd vf C W (hC.below hW) hS)
  have HCN := Lib.hid (fun W (hW : Ext w W) => RCopy_any _ t xa xb W (hn.cnt.below hW) hb)
  have HCK := Lib.hid (fun W (hW : Ext w W) => kindCheck_any vd vf C W (hC.below hW) hS.c (htab.ext hW) hB)
  have HTY := Lib.hid (fun W (hW : Ext w W) => kindType_any vd vf vx va vt vu xa xb C xs ys tx ta t k W (hC.below hW) hS.c (htab.ext hW) hB (hx.below hW) (ha.below hW) (ht.below hW) (hu.below hW) (hn.below hW) hb.bn hl1 hl2)
  have HEC := Lib.hid (fun W (hW : Ext w W) xd xf (h : RCg W xd xf C) => exactCore_any xd xf vd vf C W h (hC.below hW) hS.c hB)
  have HEX := Lib.hid (fun W (hW : Ext w W) ya yb (h : RNd W (cntN t) t ya yb) => exact_any (cntN t) t ya yb xa xb W h (hn.cnt.below hW) hb.bn)
  have HSI := Lib.hid (fun W (l : List Int) u v (h : RInts W u l) (h' : RInts W v l) => SameInts_any u v l l W h h')
  have HSZ := Lib.hid (sizes_d hC.d)
  have HRX := Lib.hid hx; have HRA := Lib.hid ha; have HRT := Lib.hid ht; have HRU := Lib.hid hu
  obtain ⟨Ad, cd, rfl, -, -⟩ := hC.d.form
  obtain ⟨Af, cf, rfl, -, -⟩ := hC.f.form
  obtain ⟨-, ⟨Ax, cx, rfl, -, -⟩, ⟨Bx, dx, rfl, -, -⟩⟩ := hn.form
  obtain ⟨A1, c1, rfl, -, -⟩ := hx.form
  obtain ⟨A2, c2, rfl, -, -⟩ := ha.form
  obtain ⟨A3, c3, rfl, -, -⟩ := ht.form
  obtain ⟨A4, c4, rfl, -, -⟩ := hu.form
  obtain ⟨w3, hw3⟩ : ∃ w3, w3 = ((w.alloc (.cells #[.slice Ad C.decls.length cd, .slice Af C.funs.length cf] 25)).alloc (.cells #[.slice A3 tx.length c3, .slice A4 ta.length c4] 27)).alloc (.cells #[.int .i64 t.op, .int .i64 t.n, .int .i64 t.ty, .slice Ax t.args.length cx, .slice Bx t.brs.length dx] 31) := ⟨_, rfl⟩
  have HE3 : Hid (Ext w w3) := by show Ext w w3; rw [hw3]; exact ((Ext.al _ _).tr (Ext.al _ _)).tr (Ext.al _ _)
  have hb3 := box_three w (.cells #[.slice Ad C.decls.length cd, .slice Af C.funs.length cf] 25) (.cells #[.slice A3 tx.length c3, .slice A4 ta.length c4] 27) (.cells #[.int .i64 t.op, .int .i64 t.n, .int .i64 t.ty, .slice Ax t.args.length cx, .slice Bx t.brs.length dx] 31)
  rw [← hw3] at hb3
  have HB1 := Lib.hid hb3.1; have HB2 := Lib.hid hb3.2.1; have HB3 := Lib.hid hb3.2.2
  clear hC hS htab hx ha ht hu hn hb hB hb3
  have HCE : Hid (∀ W, Ext w3 W → W.cell? ⟨w.heap.size, 0, none⟩ = some (.slice Ad C.decls.length cd) ∧ W.cell? ⟨w.heap.size, 1, none⟩ = some (.slice Af C.funs.length cf) ∧ W.cell? ⟨w.heap.size + 1 + 1, 0, none⟩ = some (.int .i64 t.op) ∧ W.cell? ⟨w.heap.size + 1 + 1, 1, none⟩ = some (.int .i64 t.n) ∧ W.cell? ⟨w.heap.size + 1 + 1, 2, none⟩ = some (.int .i64 t.ty) ∧ W.cell? ⟨w.heap.size + 1 + 1, 3, none⟩ = some (.slice Ax t.args.length cx) ∧ W.cell? ⟨w.heap.size + 1 + 1, 4, none⟩ = some (.slice Bx t.brs.length dx)) := fun W h => by
    have h1 := h.lt HB1.out
    have h2 := h.lt HB3.out
    exact ⟨cellAt h1 0, cellAt h1 1, cellAt h2 0, cellAt h2 1, cellAt h2 2, cellAt h2 3, cellAt h2 4⟩
  have HCT : Hid (∀ W, Ext w3 W → W.cell? ⟨w.heap.size + 1, 0, none⟩ = some (.slice A3 tx.length c3) ∧ W.cell? ⟨w.heap.size + 1, 1, none⟩ = some (.slice A4 ta.length c4)) := fun W h => ⟨cellAt (h.lt HB2.out) 0, cellAt (h.lt HB2.out) 1⟩
  obtain ⟨q1, hq1⟩ : ∃ q, fewN 3000 C = q := ⟨_, rfl⟩
  obtain ⟨q2, hq2⟩ : ∃ q, fitsN 3000 t = q := ⟨_, rfl⟩
  rw [hq1] at HFE
  rw [hq2] at HFI
  clear hq1 hq2
  have hs1 : IntKind.wrap .i64 ((xs.length : Int) + ys.length) = (xs.length : Int) + ys.length := IntWalk.i64_in _ (by omega)
  have hs2 : IntKind.wrap .i64 ((xs.length : Int) + ys.length + tx.length) = (xs.length : Int) + ys.length + tx.length := IntWalk.i64_in _ (by omega)
  have hs3 : IntKind.wrap .i64 ((xs.length : Int) + ys.length + tx.length + ta.length) = (xs.length : Int) + ys.length + tx.length + ta.length := IntWalk.i64_in _ (by omega)
  go_enter Tryd.func3, Tryd.ntmps3
  go_wp2_with fail
  rw [← hw3]
  clear hw3
  refine (HFE.out _ HE3.out).mono ?_
  rintro e w4 ⟨rfl, hx4⟩
  have HX4 := Lib.hid hx4
  obtain ⟨-, -, n0, n1, n2, n3, n4⟩ := HCE.out _ hx4
  obtain ⟨z0, z1⟩ := HCT.out _ hx4
  clear hx4
  cases q1
  · go_wp2_with (go_at_call 6; (with_reducible refine (HAW.out _ (HE3.out.tr HX4.out)).mono ?_); rintro e w5 ⟨rfl, hx5⟩)
    go_ret
    exact ⟨rfl, HE3.out.tr (HX4.out.tr hx5)⟩
  · go_wp2_with fail
    refine (HFI.out _ (HE3.out.tr HX4.out)).mono ?_
    rintro e w5 ⟨rfl, hx5⟩
    have HX5 := Lib.hid (HX4.out.tr hx5)
    clear n0 n1 n2 n3 n4 z0 z1
    obtain ⟨z0, z1⟩ := HCT.out _ HX5.out
    clear hx5
    cases q2
    · go_wp2_with (go_at_call 6; (with_reducible refine (HAW.out _ (HE3.out.tr HX5.out)).mono ?_); rintro e w6 ⟨rfl, hx6⟩)
      go_ret
      exact ⟨rfl, HE3.out.tr (HX5.out.tr hx6)⟩
    · by_cases hsum : (3000 : Int) < (xs.length : Int) + ys.length + tx.length + ta.length
      · go_wp2_with (go_at_call 6; (with_reducible refine (HAW.out _ (HE3.out.tr HX5.out)).mono ?_); rintro e w6 ⟨rfl, hx6⟩)
        go_ret
        exact ⟨rfl, HE3.out.tr (HX5.out.tr hx6)⟩
      · clear hs1 hs2 hs3
        have HQ1 := Lib.hid (HX5.out.lt HB1.out)
        have HQ3 := Lib.hid (HX5.out.lt HB3.out)
        have HX35 : Hid (Ext w w5) := HE3.out.tr HX5.out
        have hmx : Tryd.prog.follows .mixedOrders = true := by kernel_rfl
        go_upto_region 3 with fail
        go_cut [11, 12] from 43 to 101 (fun v11 v12 W => ∃ b b' ud uf xa xc, v11 = .pointer (some ⟨b, 0, none⟩) ∧ v12 = .pointer (some ⟨b', 0, none⟩) ∧ R3c C t w5 W b b' ud uf xa xc)
        case first =>
          refine wp_region_invC hmx (by kernel_rfl) (fun Ls a W => ∃ vv : Nat → Value, a = { tmps := #[cV (.slice Ad C.decls.length cd) (.slice Af C.funs.length cf), .slice A1 xs.length c1, .slice A2 ys.length c2, tysV (.slice A3 tx.length c3) (.slice A4 ta.length c4), nV t (.slice Ax t.args.length cx) (.slice Bx t.brs.length dx), .pointer (some ⟨w.heap.size, 0, none⟩), undef, undef, .pointer (some ⟨w.heap.size + 1, 0, none⟩), .pointer (some ⟨w.heap.size + 1 + 1, 0, none⟩), .bool false, vv 4, vv 5, undef, undef, undef, undef, undef, .agg #[.slice Ad C.decls.length cd, .slice Af C.funs.length cf], .bool true, .bool false, .bool false, .agg #[.int .i64 t.op, .int .i64 t.n, .int .i64 t.ty, .slice Ax t.args.length cx, .slice Bx t.brs.length dx], .bool true, .bool false, .bool false, .bool false, .slice A1 xs.length c1, .int .i64 xs.length, .slice A2 ys.length c2, .int .i64 ys.length, .int .i64 ((xs.length : Int) + ys.length), .pointer (some ⟨w.heap.size + 1, 0, none⟩), .slice A3 tx.length c3, .int .i64 tx.length, .int .i64 ((xs.length : Int) + ys.length + tx.length), .pointer (some ⟨w.heap.size + 1, 1, none⟩), .slice A4 ta.length c4, .int .i64 ta.length, .int .i64 ((xs.length : Int) + ys.length + tx.length + ta.length), .bool (decide ((3000 : Int) < (xs.length : Int) + ys.length + tx.length + ta.length)), .bool (decide ((3000 : Int) < (xs.length : Int) + ys.length + tx.length + ta.length)), undef, vv 0, vv 1, vv 2, vv 3, undef, undef, undef, undef, undef, undef, undef, undef, undef, undef, undef, undef, undef, undef, undef, undef, undef, undef, undef, undef, undef, undef, undef, undef, undef, undef, undef, undef, undef, undef, undef, undef, undef, undef, undef, undef, undef, undef, undef, undef, undef, undef, undef, undef, undef, undef, undef, undef, undef, undef, undef, undef, undef, undef, undef], defers := [] } ∧
            ((Ls 6 = false ∧ ∃ g g', R3 C t (cV (.slice Ad C.decls.length cd) (.slice Af C.funs.length cf)) (nV t (.slice Ax t.args.length cx) (.slice Bx t.brs.length dx)) w5 Ls W vv g g') ∨
              (Ls 6 = true ∧ Ls 7 = false ∧ ∃ b b' ud uf xa xc, R3b C t w5 W vv b b' ud uf xa xc) ∨
              ((∀ i, i < 8 → Ls i = true) ∧ ∃ b b' ud uf xa xc, vv 4 = .pointer (some ⟨b, 0, none⟩) ∧ vv 5 = .pointer (some ⟨b', 0, none⟩) ∧ R3c C t w5 W b b' ud uf xa xc))) ?_ ?_ ?_
          · refine ⟨fun _ => undef, rfl, .inl ⟨rfl, none, none, (Ext.rf _).drew, fun _ => rfl, (fun h => by cases h), fun _ => rfl, (fun h => by cases h), (fun h => by cases h), (fun h => by cases h), (fun h => by cases h), (fun h => by cases h)⟩⟩
          · intro Ls a W i op ho hpre hl hc hI Kk HKk
            have hi : i < 8 := (Array.getElem?_eq_some_iff.1 ho).1
            obtain ⟨vv, rfl, ⟨h6, g, g', hR⟩ | ⟨h6, h7, b, b', ud, uf, xa, xc, hR⟩ | hI⟩ := hI
            · have HR := Lib.hid hR
              have H6 : Hid (∀ i, i < 6 → (fun j => decide (j = i) || Ls j) 6 = false) := fun i hi => by
                show (decide (6 = i) || Ls 6) = false
                rw [h6, decide_eq_false (by omega)]; rfl
              have H60 := Lib.hid h6
              have hcs : i = 0 ∨ i = 1 ∨ i = 2 ∨ i = 3 ∨ i = 4 ∨ i = 5 ∨ i = 6 ∨ i = 7 := by omega
              rcases hcs with rfl | rfl | rfl | rfl | rfl | rfl | rfl | rfl
              all_goals
                obtain rfl := Option.some.inj ho
                clear ho hi h6
              · clear hpre hR
                have c0 := HR.out.ext.keep (cellAt HQ1.out 0)
                have c1 := HR.out.ext.keep (cellAt HQ1.out 1)
                go_simp
                exact HKk.out _ _ ⟨_, rfl, .inl ⟨H6.out 0 (by decide), g, g', HR.out.step (i := 0) (by decide) (Ext.rf _) _ (fun _ => rfl) (fun h => absurd h (by decide)) (fun h => absurd h (by decide)) (fun h => absurd h (by decide))⟩⟩
              · simp [Region.binds] at hpre
                have e0 : vv 0 = _ := hR.f0 (by simp [hpre])
                clear hR
                go_simp
                (refine (HCC.out W (HX35.out.tr HR.out.ext)).mono ?_)
                rintro e W' ⟨⟨ud, uf, vxs, B, rfl, hk, hf⟩, hb⟩
                exact HKk.out _ _ ⟨_, by simp [e0], .inl ⟨H6.out 1 (by decide), g, g', HR.out.step (i := 1) (by decide) hb _ (fun h => absurd h (by decide)) (fun _ => ⟨ud, uf, vxs, B, rfl, hk, hf⟩) (fun h => absurd h (by decide)) (fun h => absurd h (by decide))⟩⟩
              · clear hpre hR
                have c0 := HR.out.ext.keep (cellAt HQ3.out 0)
                have c1 := HR.out.ext.keep (cellAt HQ3.out 1)
                have c2 := HR.out.ext.keep (cellAt HQ3.out 2)
                have c3 := HR.out.ext.keep (cellAt HQ3.out 3)
                have c4 := HR.out.ext.keep (cellAt HQ3.out 4)
                go_simp
                exact HKk.out _ _ ⟨_, rfl, .inl ⟨H6.out 2 (by decide), g, g', HR.out.step (i := 2) (by decide) (Ext.rf _) _ (fun h => absurd h (by decide)) (fun h => absurd h (by decide)) (fun _ => rfl) (fun h => absurd h (by decide))⟩⟩
              · simp [Region.binds] at hpre
                have e2 : vv 2 = _ := hR.f2 (by simp [hpre])
                clear hR
                go_simp
                (refine (HCN.out W (HX35.out.tr HR.out.ext)).mono ?_)
                rintro e W' ⟨⟨ya, yc, rfl, hr⟩, hb⟩
                exact HKk.out _ _ ⟨_, by simp [e2], .inl ⟨H6.out 3 (by decide), g, g', HR.out.step (i := 3) (by decide) hb _ (fun h => absurd h (by decide)) (fun h => absurd h (by decide)) (fun h => absurd h (by decide)) (fun _ => ⟨ya, yc, _, rfl, hr⟩)⟩⟩
              · clear hpre hR
                go_simp
                exact HKk.out _ _ ⟨_, rfl, .inl ⟨H6.out 4 (by decide), _, _, HR.out.alloc4 hl⟩⟩
              · clear hpre hR
                go_simp
                exact HKk.out _ _ ⟨_, rfl, .inl ⟨H6.out 5 (by decide), _, _, HR.out.alloc5 hl⟩⟩
              · have h4 := hpre ⟨4, .data⟩ (by simp) rfl
                have h1 := hpre ⟨1, .data⟩ (by simp) rfl
                have h3 := hpre ⟨3, .chain⟩ (by simp) rfl
                have h5 := hpre ⟨5, .phase⟩ (by simp) rfl
                have h7 : Ls 7 = false := by
                  cases h7 : Ls 7
                  · rfl
                  · have := hc 7 _ rfl h7 ⟨6, .phase⟩ (by simp) rfl
                    rw [H60.out] at this; cases this
                obtain ⟨b, b', ud, uf, xa, xc, e4, e1, hbx, ⟨Au, cu, Av, cv, nu, nv, rfl, rfl⟩, hB⟩ := hR.store h4 h5 h1 h3
                have HBB := Lib.hid hB
                have c0 := cellAt hbx 0
                have c1 := cellAt hbx 1
                have f0 := frozenAt hbx 0
                have f1 := frozenAt hbx 1
                clear hpre hR hB h1 h3 h4 h5
                go_simp
                exact HKk.out _ _ ⟨vv, by simp [e4, e1], .inr (.inl ⟨by simp, by show (decide (7 = 6) || Ls 7) = false; rw [h7]; rfl, b, b', _, _, xa, xc, HBB.out⟩)⟩
              · exfalso
                have := hpre ⟨6, .phase⟩ (by simp) rfl
                rw [H60.out] at this; cases this
            · have HR := Lib.hid hR
              have hall : ∀ i, i < 7 → Ls i = true := by
                have h4 := hc 6 _ rfl h6 ⟨4, .data⟩ (by simp) rfl
                have h1 := hc 6 _ rfl h6 ⟨1, .data⟩ (by simp) rfl
                have h3 := hc 6 _ rfl h6 ⟨3, .chain⟩ (by simp) rfl
                have h5 := hc 6 _ rfl h6 ⟨5, .phase⟩ (by simp) rfl
                have h0 := hc 6 _ rfl h6 ⟨0, .phase⟩ (by simp) rfl
                have h2 := hc 3 _ rfl h3 ⟨2, .data⟩ (by simp) rfl
                intro i hi
                rcases (show i = 0 ∨ i = 1 ∨ i = 2 ∨ i = 3 ∨ i = 4 ∨ i = 5 ∨ i = 6 by omega) with rfl | rfl | rfl | rfl | rfl | rfl | rfl <;> assumption
              have hcs : i < 7 ∨ i = 7 := by omega
              rcases hcs with hi6 | rfl
              · rw [hall i hi6] at hl; cases hl
              · obtain rfl := Option.some.inj ho
                have e5 := hR.p5
                have e3 := hR.v3
                have e4 := hR.p4
                obtain ⟨kb, hkb⟩ := hR.body
                obtain ⟨-, ⟨Ay, cy, rfl, -, -⟩, ⟨By, dy, rfl, -, -⟩⟩ := hkb.form
                have HCC := Lib.hid hR.store
                obtain ⟨c0, c1, c2, c3, c4⟩ := cells5 hR.box'
                have f0 := frozenAt hR.box' 0
                have f1 := frozenAt hR.box' 1
                have f2 := frozenAt hR.box' 2
                have f3 := frozenAt hR.box' 3
                have f4 := frozenAt hR.box' 4
                clear ho hi hR hpre hkb
                go_simp
                refine HKk.out _ _ ⟨vv, by simp [e5, e3, e4], .inr (.inr ⟨fun i hi => ?_, b, b', ud, uf, _, _, e4, e5, HCC.out⟩)⟩
                show (decide (i = 7) || Ls i) = true
                rcases (show i < 7 ∨ i = 7 by omega) with h | rfl
                · rw [hall i h, Bool.or_true]
                · rfl
            · exfalso
              rw [hI.1 i hi] at hl; cases hl
          · intro Ls a W hall hI
            obtain ⟨vv, rfl, ⟨h6, -⟩ | ⟨-, h7, -⟩ | ⟨-, b, b', ud, uf, xa, xc, e4, e5, h3c⟩⟩ := hI
            · have := hall 6 (by decide); rw [h6] at this; cases this
            · have := hall 7 (by decide); rw [h7] at this; cases this
            · rw [e4, e5]
              go_wp2
              go_meet
              exact ⟨b, b', ud, uf, xa, xc, rfl, rfl, h3c⟩
        case rest =>
          obtain ⟨b, b', ud, uf, xa, xc, rfl, rfl, h3c⟩ := hcut
          have HC := Lib.hid h3c
          have HXC := Lib.hid (HX35.out.tr h3c.ext)
          clear h3c
          have HRC : Hid (RCg wc ud uf C) := ⟨HC.out.decls.elim fun B h => h.elim fun vxs h => h.reads HSZ.out, HC.out.funs⟩
          obtain ⟨kb, hkb⟩ := HC.out.body
          have HRN := Lib.hid hkb.cnt
          obtain ⟨Adx, cdx, rfl, -, -⟩ := HRC.out.d.form
          obtain ⟨Afx, cfx, rfl, -, -⟩ := HRC.out.f.form
          obtain ⟨-, ⟨Ay, cy, rfl, -, -⟩, ⟨By, dy, rfl, -, -⟩⟩ := hkb.form
          have HXK : Hid (Ext w3 wc) := HX5.out.tr HC.out.ext
          have HBB := Lib.hid HC.out.box
          have HBD := Lib.hid HC.out.box'
          clear hkb HC
          have HSX := Lib.hid ((HRX.out.below HXC.out).src)
          have HSA := Lib.hid (fun W (hW : Ext wc W) => (HRA.out.below (HXC.out.tr hW)).src)
          go_wp2_with (first
            | (at_builtin; refine wpl_app (t := 26) (e := 3) (size := 1) (bytes := 8) Tryd.underlying26 Tryd.iInt rfl (by decide) (by decide) rfl (.const (.slice none 0 0)) (.tmp 47) rfl 0 (.slice none 0 0) 0 [] rfl ⟨by simp, .inl ⟨rfl, rfl⟩⟩ A1 xs.length c1 (xs.map (Value.int .i64)) rfl HSX.out (ints_one xs) (by omega) (Nat.zero_le _) ?_; rintro v1 w6 ho1 hg1 -; rw [Nat.zero_add, List.nil_append] at ho1; have HX6 := Lib.hid (app_nil_ext hg1); have HV1 := Lib.hid (own_ints HRX.out.ok ho1); obtain ⟨B1, e1, rfl, -, -⟩ := HV1.out.form; clear ho1 hg1)
            | (at_builtin; refine wpl_app (t := 26) (e := 3) (size := 1) (bytes := 8) Tryd.underlying26 Tryd.iInt rfl (by decide) (by decide) rfl (.const (.slice none 0 0)) (.tmp 49) rfl 0 (.slice none 0 0) 0 [] rfl ⟨by simp, .inl ⟨rfl, rfl⟩⟩ A2 ys.length c2 (ys.map (Value.int .i64)) rfl (HSA.out _ HX6.out) (ints_one ys) (by omega) (Nat.zero_le _) ?_; rintro v2 w7 ho2 hg2 -; rw [Nat.zero_add, List.nil_append] at ho2; have HX67 := Lib.hid (app_nil_ext hg2); have HX7 := Lib.hid (HX6.out.tr HX67.out); have HV2 := Lib.hid (own_ints HRA.out.ok ho2); obtain ⟨B2, e2, rfl, -, -⟩ := HV2.out.form; clear ho2 hg2))
          have HST := Lib.hid (fun W (hW : Ext w7 W) => (HRT.out.below (HXC.out.tr (HX7.out.tr hW))).src)
          have HSU := Lib.hid (fun W (hW : Ext w7 W) => (HRU.out.below (HXC.out.tr (HX7.out.tr hW))).src)
          obtain ⟨z0, z1⟩ := HCT.out w7 (HXK.out.tr HX7.out)
          have HKT : Hid (∀ W, Ext w7 W → W.cell? ⟨w.heap.size + 1, 0, none⟩ = some (.slice A3 tx.length c3) ∧ W.cell? ⟨w.heap.size + 1, 1, none⟩ = some (.slice A4 ta.length c4)) := fun W hW => HCT.out W (HXK.out.tr (HX7.out.tr hW))
          go_region_held3 (fun W => W.cell? ⟨w.heap.size + 1, 0, none⟩ = some (.slice A3 tx.length c3) ∧ W.cell? ⟨w.heap.size + 1, 1, none⟩ = some (.slice A4 ta.length c4))
            (first | exact HKT.out _ (Ext.rf _).drew | exact HKT.out _ HX8.out | exact HKT.out _ HX9.out | fail "KEEP")
            (first
              | (refine app_row Tryd.underlying26 Tryd.iInt rfl (by decide) (.const (.slice none 0 0)) (.tmp 52) rfl 0 (.slice none 0 0) 0 [] rfl ⟨by simp, .inl ⟨rfl, rfl⟩⟩ A3 tx.length c3 (tx.map (Value.int .i64)) rfl (HST.out _ (by first | exact (Ext.rf _).drew | exact Ext.rf _ | fail "A3")) (ints_one tx) (by unfold maxLen; omega) (by omega) (Nat.zero_le _) ?_
                 intro v3 w8 ho3 hg3 hat3
                 rw [Nat.zero_add, List.nil_append] at ho3
                 have HX8 : Hid (Ext w7 w8) := Ext.tr (b := w7.drew) (Ext.rf w7).drew (app_nil_ext hg3)
                 have HV3 := Lib.hid (own_ints HRT.out.ok ho3)
                 obtain ⟨B3, e3, rfl, -, -⟩ := HV3.out.form
                 clear ho3 hg3 hat3)
              | (refine app_row Tryd.underlying26 Tryd.iInt rfl (by decide) (.const (.slice none 0 0)) (.tmp 55) rfl 0 (.slice none 0 0) 0 [] rfl ⟨by simp, .inl ⟨rfl, rfl⟩⟩ A4 ta.length c4 (ta.map (Value.int .i64)) rfl (HSU.out _ HX8.out) (ints_one ta) (by unfold maxLen; omega) (by omega) (Nat.zero_le _) ?_
                 intro v4 w9 ho4 hg4 hat4
                 rw [Nat.zero_add, List.nil_append] at ho4
                 have HX89 : Hid (Ext w8 w9) := app_nil_ext hg4
                 have HX9 := Lib.hid (HX8.out.tr HX89.out)
                 have HV4 := Lib.hid (own_ints HRU.out.ok ho4)
                 obtain ⟨B4, e4, rfl, -, -⟩ := HV4.out.form
                 clear ho4 hg4 hat4)
              | fail "ARM")
          all_goals
            have HXC9 : Hid (Ext wc w9) := HX7.out.tr HX9.out
            have HX39 : Hid (Ext w3 w9) := HXK.out.tr HXC9.out
            have HXW9 : Hid (Ext w w9) := HXC.out.tr HXC9.out
            have HW1 := Lib.hid ((HV1.out.below HX67.out).below HX9.out)
            have HW2 := Lib.hid (HV2.out.below HX9.out)
            have HW3 := Lib.hid (HV3.out.below HX89.out)
            have HW4 := HV4
            have HALL : Hid (∀ W, Ext w9 W → (W.cell? ⟨w.heap.size, 0, none⟩ = some (.slice Ad C.decls.length cd) ∧ W.cell? ⟨w.heap.size, 1, none⟩ = some (.slice Af C.funs.length cf) ∧ W.cell? ⟨w.heap.size + 1 + 1, 0, none⟩ = some (.int .i64 t.op) ∧ W.cell? ⟨w.heap.size + 1 + 1, 1, none⟩ = some (.int .i64 t.n) ∧ W.cell? ⟨w.heap.size + 1 + 1, 2, none⟩ = some (.int .i64 t.ty) ∧ W.cell? ⟨w.heap.size + 1 + 1, 3, none⟩ = some (.slice Ax t.args.length cx) ∧ W.cell? ⟨w.heap.size + 1 + 1, 4, none⟩ = some (.slice Bx t.brs.length dx)) ∧ (W.cell? ⟨w.heap.size + 1, 0, none⟩ = some (.slice A3 tx.length c3) ∧ W.cell? ⟨w.heap.size + 1, 1, none⟩ = some (.slice A4 ta.length c4)) ∧ W.cell? ⟨b, 0, none⟩ = some (.slice Adx C.decls.length cdx) ∧ W.cell? ⟨b, 1, none⟩ = some (.slice Afx C.funs.length cfx) ∧ W.cell? ⟨b', 0, none⟩ = some (.int .i64 t.op) ∧ W.cell? ⟨b', 1, none⟩ = some (.int .i64 t.n) ∧ W.cell? ⟨b', 2, none⟩ = some (.int .i64 t.ty) ∧ W.cell? ⟨b', 3, none⟩ = some (.slice Ay t.args.length cy) ∧ W.cell? ⟨b', 4, none⟩ = some (.slice By t.brs.length dy)) := fun W hW => ⟨HCE.out W (HX39.out.tr hW), HCT.out W (HX39.out.tr hW), cellAt ((HXC9.out.tr hW).lt HBB.out) 0, cellAt ((HXC9.out.tr hW).lt HBB.out) 1, cellAt ((HXC9.out.tr hW).lt HBD.out) 0, cellAt ((HXC9.out.tr hW).lt HBD.out) 1, cellAt ((HXC9.out.tr hW).lt HBD.out) 2, cellAt ((HXC9.out.tr hW).lt HBD.out) 3, cellAt ((HXC9.out.tr hW).lt HBD.out) 4⟩
            have HSI2 : Hid (∀ W, Ext w9 W → (∀ (l : List Int) u v, RInts w9 u l → RInts w9 v l → Calls Tryd.prog 11 #[u, v] W fun e w' => e = .returned (.bool true) ∧ Ext W w')) := fun W hW l u v h h' => by
              have h1 := HSI.out W l u v (h.below hW) (h'.below hW)
              rw [eqI_refl] at h1
              exact h1
            have HY1 := Lib.hid (HRX.out.below HXW9.out)
            have HY2 := Lib.hid (HRA.out.below HXW9.out)
            have HY3 := Lib.hid (HRT.out.below HXW9.out)
            have HY4 := Lib.hid (HRU.out.below HXW9.out)
            obtain ⟨⟨p0, p1, n0, n1, n2, n3, n4⟩, ⟨y0, y1⟩, m0, m1, l0, l1, l2, l3, l4⟩ := HALL.out w9 (Ext.rf _)
            clear z0 z1
            go_wp2_with (first
              | (go_at_call 9; (with_reducible refine (HCK.out _ HXW9.out).mono ?_); rintro e w10 ⟨rfl, hx10⟩; have HX10 := Lib.hid hx10; clear p0 p1 n0 n1 n2 n3 n4 y0 y1 m0 m1 l0 l1 l2 l3 l4 hx10; obtain ⟨⟨p0, p1, n0, n1, n2, n3, n4⟩, ⟨y0, y1⟩, m0, m1, l0, l1, l2, l3, l4⟩ := HALL.out w10 HX10.out)
              | (go_at_call 10; (with_reducible refine (HTY.out _ (HXW9.out.tr HX10.out)).mono ?_); rintro e w11 ⟨rfl, hx11⟩; have HX11 := Lib.hid (HX10.out.tr hx11); clear p0 p1 n0 n1 n2 n3 n4 y0 y1 m0 m1 l0 l1 l2 l3 l4 hx11; obtain ⟨⟨p0, p1, n0, n1, n2, n3, n4⟩, ⟨y0, y1⟩, m0, m1, l0, l1, l2, l3, l4⟩ := HALL.out w11 HX11.out)
              | (go_at_call 12; (with_reducible refine (HEC.out _ (HXW9.out.tr HX11.out) _ _ (HRC.out.below (HXC9.out.tr HX11.out))).mono ?_); rintro e w12 ⟨rfl, hx12⟩; have HX12 := Lib.hid (HX11.out.tr hx12); clear p0 p1 n0 n1 n2 n3 n4 y0 y1 m0 m1 l0 l1 l2 l3 l4 hx12; obtain ⟨⟨p0, p1, n0, n1, n2, n3, n4⟩, ⟨y0, y1⟩, m0, m1, l0, l1, l2, l3, l4⟩ := HALL.out w12 HX12.out)
              | (go_at_call 13; (with_reducible refine (HEX.out _ (HXW9.out.tr HX12.out) _ _ (HRN.out.below (HXC9.out.tr HX12.out))).mono ?_); rintro e w13 ⟨rfl, hx13⟩; have HX13 := Lib.hid (HX12.out.tr hx13); clear p0 p1 n0 n1 n2 n3 n4 y0 y1 m0 m1 l0 l1 l2 l3 l4 hx13; obtain ⟨⟨p0, p1, n0, n1, n2, n3, n4⟩, ⟨y0, y1⟩, m0, m1, l0, l1, l2, l3, l4⟩ := HALL.out w13 HX13.out)
              | (go_at_call 11; (with_reducible refine (HSI2.out _ HX13.out _ _ _ HW1.out HY1.out).mono ?_); rintro e w14 ⟨rfl, hx14⟩; have HX14 := Lib.hid (HX13.out.tr hx14); clear p0 p1 n0 n1 n2 n3 n4 y0 y1 m0 m1 l0 l1 l2 l3 l4 hx14; obtain ⟨⟨p0, p1, n0, n1, n2, n3, n4⟩, ⟨y0, y1⟩, m0, m1, l0, l1, l2, l3, l4⟩ := HALL.out w14 HX14.out)
              | (go_at_call 11; (with_reducible refine (HSI2.out _ HX14.out _ _ _ HW2.out HY2.out).mono ?_); rintro e w15 ⟨rfl, hx15⟩; have HX15 := Lib.hid (HX14.out.tr hx15); clear p0 p1 n0 n1 n2 n3 n4 y0 y1 m0 m1 l0 l1 l2 l3 l4 hx15; obtain ⟨⟨p0, p1, n0, n1, n2, n3, n4⟩, ⟨y0, y1⟩, m0, m1, l0, l1, l2, l3, l4⟩ := HALL.out w15 HX15.out)
              | (go_at_call 11; (with_reducible refine (HSI2.out _ HX15.out _ _ _ HW3.out HY3.out).mono ?_); rintro e w16 ⟨rfl, hx16⟩; have HX16 := Lib.hid (HX15.out.tr hx16); clear p0 p1 n0 n1 n2 n3 n4 y0 y1 m0 m1 l0 l1 l2 l3 l4 hx16; obtain ⟨⟨p0, p1, n0, n1, n2, n3, n4⟩, ⟨y0, y1⟩, m0, m1, l0, l1, l2, l3, l4⟩ := HALL.out w16 HX16.out)
              | (go_at_call 11; (with_reducible refine (HSI2.out _ HX16.out _ _ _ HW4.out HY4.out).mono ?_); rintro e w17 ⟨rfl, hx17⟩; have HX17 := Lib.hid (HX16.out.tr hx17); clear hx17)
              | (go_at_call 6; (with_reducible refine (HAW.out _ (HXW9.out.tr HX17.out)).mono ?_); rintro e w18 ⟨rfl, hx18⟩))
            go_ret
            exact ⟨rfl, HXW9.out.tr (HX17.out.tr hx18)⟩
end Go.Proofs.YtkdhhcidpklgoaaDoor

/- chiasmuslaw07.KindOwn returns true for every input, and its arguments read as they read before. Condition: what the arguments hold, counted as the given row counts them, is at most 1048576. -/
namespace Go.Proofs.YtkdhhcidpklgoaaDoor.kindOwnDone
open Go.ChangeShapes Go.WideShapes Go.ChangeAt Go.RowKit
open Go.ChangeMaps (open_string shut_string)

theorem own : ownKnob Tryd.prog.godebug = none := by kernel_rfl
theorem laidOut : laidOutB Tryd.prog = true := by kernel_rfl
def tab0 : Array Value := #[.int .i64 2, .int .i64 0, .int .i64 0, .int .i64 0, .int .i64 1, .int .i64 3, .int .i64 1, .int .i64 0, .int .i64 1, .int .i64 0, .int .i64 2, .int .i64 0, .int .i64 1, .int .i64 3, .int .i64 1, .int .i64 0, .int .i64 1, .int .i64 0, .int .i64 0, .int .i64 1, .int .i64 0, .int .i64 0, .int .i64 0, .int .i64 0, .int .i64 0, .int .i64 0, .int .i64 0, .int .i64 3, .int .i64 0, .int .i64 0]
def tab1 : Array Value := #[.int .i64 0, .bool true, .bool false, .bool false, .slice none 0 0, .int .i64 0, .bool true, .bool false, .bool false, .slice none 0 0, .int .i64 0, .bool true, .bool true, .bool false, .slice none 0 0, .int .i64 0, .bool true, .bool true, .bool false, .slice (some ⟨8, 0, none⟩) 1 1, .int .i64 0, .bool false, .bool true, .bool true, .slice none 0 0, .int .i64 1, .bool true, .bool false, .bool false, .slice none 0 0, .int .i64 1, .bool true, .bool true, .bool false, .slice none 0 0, .int .i64 1, .bool true, .bool true, .bool false, .slice (some ⟨9, 0, none⟩) 1 1, .int .i64 1, .bool false, .bool true, .bool true, .slice none 0 0, .int .i64 2, .bool false, .bool true, .bool false, .slice (some ⟨10, 0, none⟩) 2 2, .int .i64 2, .bool true, .bool false, .bool false, .slice (some ⟨11, 0, none⟩) 3 3, .int .i64 2, .bool false, .bool false, .bool false, .slice (some ⟨12, 0, none⟩) 3 3, .int .i64 2, .bool false, .bool false, .bool false, .slice (some ⟨13, 0, none⟩) 2 2, .int .i64 2, .bool true, .bool false, .bool false, .slice none 0 0, .int .i64 2, .bool false, .bool false, .bool false, .slice (some ⟨14, 0, none⟩) 1 1]
def tab2 : Array Value := #[.string ⟨#[43]⟩, .string ⟨#[45]⟩, .string ⟨#[42]⟩, .string ⟨#[47]⟩, .string ⟨#[37]⟩, .string ⟨#[61, 61]⟩, .string ⟨#[60]⟩]
def lay (cs : Array Value) (o : Obj) : Obj := match o with
  | .cells _ t frozen => .cells cs t frozen
  | o => o
noncomputable def laidWorld (os : Os) : World :=
  { World.holding Tryd.prog os ⟨#[], #[], []⟩ with heap := ((((World.holding Tryd.prog os ⟨#[], #[], []⟩).heap.modify 0 (lay tab0)).modify 1 (lay tab1)).modify 2 (lay tab2)) ++ #[.cells #[.int .i64 2] 68 (0, 0), .cells #[.int .i64 2] 68 (0, 0), .cells #[.int .i64 0, .int .i64 1] 68 (0, 0), .cells #[.int .i64 0, .int .i64 0, .int .i64 1] 68 (0, 0), .cells #[.int .i64 0, .int .i64 2, .int .i64 2] 68 (0, 0), .cells #[.int .i64 0, .int .i64 2] 68 (0, 0), .cells #[.int .i64 0] 68 (0, 0)] }
set_option maxRecDepth 100000 in
theorem laid_met (os : Os) (args : Array Value) : laidMet Tryd.prog Rows.kindOwnUptoRow.laid ((laidWorld os).forCall (fun _ _ => 0) ⟨#[], args, []⟩).memory :=
  laidMet_of_run' 8 (by kernel_rfl) (by kernel_rfl)
/-- What the row's list gives: the tables. -/
theorem tables {W : World} (h : laidMetH Tryd.prog Rows.kindOwnUptoRow.laid W) : Tabs W := by
  obtain ⟨ps, ⟨g1, t1, c1, f1, p1, q1, hg1, ht1, hv1, hd1, ⟨g2, t2, c2, f2, p2, q2, hg2, ht2, hv2, hd2, ⟨g3, t3, c3, f3, p3, q3, hg3, ht3, hv3, hd3, -, -⟩, -⟩, -⟩, -⟩ := h
  obtain rfl := Option.some.inj (Tryd.gSigns.symm.trans hg1)
  obtain rfl := Option.some.inj (Tryd.tSigns.symm.trans ht1)
  obtain rfl := Option.some.inj (Tryd.gShapes.symm.trans hg2)
  obtain rfl := Option.some.inj (Tryd.tShapes.symm.trans ht2)
  obtain rfl := Option.some.inj (Tryd.gRules.symm.trans hg3)
  obtain rfl := Option.some.inj (Tryd.tRules.symm.trans ht3)
  refine ⟨fun i hi => ?_, fun i hi => ?_, fun i hi => ?_⟩
  · obtain ⟨vs, h0, h1, h2, h3, h4, h5⟩ := shapes_cells hd2 i hi
    exact ⟨vs, var_at Tryd.gShapes hv2 _ _ h0, var_at Tryd.gShapes hv2 _ _ h1, var_at Tryd.gShapes hv2 _ _ h2, var_at Tryd.gShapes hv2 _ _ h3, var_at Tryd.gShapes hv2 _ _ h4, h5⟩
  · obtain ⟨s, h0, h1⟩ := signs_cells hd1 i hi
    exact ⟨s, var_at Tryd.gSigns hv1 _ _ h0, h1⟩
  · obtain ⟨h0, h1⟩ := rules_cells hd3 i hi
    exact ⟨var_at Tryd.gRules hv3 _ _ h0, var_at Tryd.gRules hv3 _ _ h1⟩

theorem reads (os : Os) {H : Type} (enc : TypeId × Value → H) : ∃ places, DataW.whole enc Tryd.prog ((laidWorld os).forCall (fun _ _ => 0) ⟨#[], #[.agg #[.slice none 0 0, .slice none 0 0], .slice none 0 0, .slice none 0 0, .agg #[.slice none 0 0, .slice none 0 0], .agg #[.int .i64 0, .int .i64 0, .int .i64 0, .slice none 0 0, .slice none 0 0]], []⟩).memory Tryd.f3.params.toList Rows.kindOwnSpec.vars false (#[.agg #[.slice none 0 0, .slice none 0 0], .slice none 0 0, .slice none 0 0, .agg #[.slice none 0 0, .slice none 0 0], .agg #[.int .i64 0, .int .i64 0, .int .i64 0, .slice none 0 0, .slice none 0 0]] : Array Value).toList 8 = some ([.agg [.nil, .nil], .nil, .nil, .agg [.nil, .nil], .agg [.lit (.int .i64 0), .lit (.int .i64 0), .lit (.int .i64 0), .nil, .nil]], [], places) :=
  ⟨[], by kernel_rfl⟩
set_option maxRecDepth 100000 in
theorem lifted (os : Os) (started : os.Started) (H : Type) (enc : TypeId × Value → H) (F : Stop.Interp) :
    ReturnsInHanded {} Tryd.checked os 3 .any ((Rows.OpenSpec.upto Rows.kindOwnSpec).preRow enc Tryd.prog Tryd.f3 Rows.kindOwnUptoRow.domain false Rows.kindOwnUptoRow.laid) (((Rows.OpenSpec.upto Rows.kindOwnSpec).at F).post enc Tryd.prog Tryd.f3 false true false false) := by
  obtain ⟨places, hx⟩ := reads os enc
  refine returnsInHanded_of_row (C := Tryd.checked) (s := Rows.OpenSpec.upto Rows.kindOwnSpec) own started (by kernel_rfl) Tryd.func3
    (witness_row_atRef (enc := enc) (C := Tryd.checked) false (laidWorld os) #[.agg #[.slice none 0 0, .slice none 0 0], .slice none 0 0, .slice none 0 0, .agg #[.slice none 0 0, .slice none 0 0], .agg #[.int .i64 0, .int .i64 0, .int .i64 0, .slice none 0 0, .slice none 0 0]] rfl (by kernel_rfl) (by kernel_rfl) (by kernel_rfl)
      (OpenSpec.preRow_of_cond 8 hx (by kernel_rfl) (fun k hk => by cases hk; kernel_rfl) (by kernel_rfl) (laid_met os _))) ?_
  intro W base args ds gs before hval0 hW _ hcond _ hL _ _
  have hval : ∀ (j : Nat) t v, Tryd.f3.params[j]? = some t → args[j]? = some v → Value.okWide Tryd.prog W .any base t v := hval0
  have hW' := hW
  obtain ⟨p, q, hA0, hV, rfl, hfz, hnd⟩ := hW
  have hA : DataW.TrodAll enc Tryd.prog W 0 (fun _ => true) true Tryd.f3.params.toList args.toList ds p := hA0
  rw [Tryd.params3] at hA hval
  obtain ⟨v0, vs0, d0, ds0, p0, q0, hargs, rfl, rfl, h0, r0⟩ := trodAll_cons hA
  obtain ⟨v1, vs1, d1, ds1, p1, q1, rfl, rfl, rfl, h1, r1⟩ := trodAll_cons r0
  obtain ⟨v2, vs2, d2, ds2, p2, q2, rfl, rfl, rfl, h2, r2⟩ := trodAll_cons r1
  obtain ⟨v3, vs3, d3, ds3, p3, q3, rfl, rfl, rfl, h3, r3⟩ := trodAll_cons r2
  obtain ⟨v4, vs4, d4, ds4, p4, q4, rfl, rfl, rfl, h4, r4⟩ := trodAll_cons r3
  obtain ⟨rfl, rfl, rfl⟩ := trodAll_nil r4
  obtain rfl : args = #[v0, v1, v2, v3, v4] := by cases args; simp_all
  obtain ⟨rfl, rfl⟩ := trodVars_none hV
  have k0 := h0
  have k1 := h1
  have k2 := h2
  have k3 := h3
  have k4 := h4
  have lt0 : ∀ x ∈ p0, x.block < W.heap.size := by obtain ⟨m, hm⟩ := k0; exact DataW.trod_lt m _ _ _ hm
  have lt1 : ∀ x ∈ p1, x.block < W.heap.size := by obtain ⟨m, hm⟩ := k1; exact DataW.trod_lt m _ _ _ hm
  have lt2 : ∀ x ∈ p2, x.block < W.heap.size := by obtain ⟨m, hm⟩ := k2; exact DataW.trod_lt m _ _ _ hm
  have lt3 : ∀ x ∈ p3, x.block < W.heap.size := by obtain ⟨m, hm⟩ := k3; exact DataW.trod_lt m _ _ _ hm
  have lt4 : ∀ x ∈ p4, x.block < W.heap.size := by obtain ⟨m, hm⟩ := k4; exact DataW.trod_lt m _ _ _ hm
  have hsmall := hcond _ rfl
  have hbulk : Rows.uptoBulk d0 ≤ 1048576 ∧ Rows.uptoBulk d1 + Rows.uptoBulk d2 ≤ 1048576 ∧ Rows.uptoBulk d3 ≤ 1048576 ∧ Rows.uptoBulk d4 ≤ 1048576 := by
    have h1 : Rows.uptoBulkAll (d0 :: ([d1, d2, d3, d4] ++ [])) ≤ 1048576 := of_decide_eq_true hsmall
    simp only [Rows.uptoBulkAll, List.append_nil] at h1
    omega
  obtain ⟨hb0, hb12, hb3, hb4⟩ := hbulk
  obtain ⟨xs, hxs, lx⟩ : ∃ l, RInts W v1 l ∧ l.length + 1 ≤ Rows.uptoBulk d1 := by
    obtain ⟨A, n, c, rfl⟩ := okWide_slice Tryd.uLI (hval 1 26 v1 rfl rfl)
    obtain ⟨fuel, hf⟩ := h1
    exact open_ints (x := (d1, p1)) hf
  obtain ⟨ys, hys, ly⟩ : ∃ l, RInts W v2 l ∧ l.length + 1 ≤ Rows.uptoBulk d2 := by
    obtain ⟨A, n, c, rfl⟩ := okWide_slice Tryd.uLI (hval 2 26 v2 rfl rfl)
    obtain ⟨fuel, hf⟩ := h2
    exact open_ints (x := (d2, p2)) hf
  obtain ⟨C, vd, vf, hv0, hC, hS⟩ : ∃ (C : Cg) (vd vf : Value), v0 = cV vd vf ∧ RCg W vd vf C ∧ ShX C := by
    obtain ⟨cs, rfl⟩ := okWide_shape Tryd.shapeC (hval 0 25 v0 rfl rfl)
    obtain ⟨fuel, hf⟩ := h0
    obtain ⟨C, vd, vf, hcs, hC, bd, bf⟩ := open_core (x := (d0, p0)) hf
    have hcs' : cs.toList = [vd, vf] := hcs
    refine ⟨C, vd, vf, ?_, hC, shx_of bd bf hb0⟩
    obtain ⟨l⟩ := cs
    simp only at hcs'
    rw [hcs']
  obtain ⟨t, xa, xb, hv4, hT, hBC⟩ : ∃ (t : Nd) (xa xb : Value), v4 = nV t xa xb ∧ RNd W (Rows.uptoBulk d4) t xa xb ∧ BC t := by
    obtain ⟨cs, rfl⟩ := okWide_shape Tryd.shapeN (hval 4 31 v4 rfl rfl)
    obtain ⟨fuel, hf⟩ := h4
    obtain ⟨t, xa, xb, hcs, hr, hu⟩ := open_node _ _ _ (d4, p4) (Nat.le_refl _) hf
    have hcs' : cs.toList = [.int .i64 t.op, .int .i64 t.n, .int .i64 t.ty, xa, xb] := hcs
    refine ⟨t, xa, xb, ?_, hr, bc_of hu hb4⟩
    obtain ⟨l⟩ := cs
    simp only at hcs'
    rw [hcs']
  obtain ⟨vt, vu, tx, ta, hv3, htx, hta, lt⟩ : ∃ (vt vu : Value) (tx ta : List Int), v3 = tysV vt vu ∧ RInts W vt tx ∧ RInts W vu ta ∧ tx.length + ta.length ≤ Rows.uptoBulk d3 := by
    obtain ⟨cs, rfl⟩ := okWide_arr Tryd.uA2 (hval 3 27 v3 rfl rfl)
    obtain ⟨fuel, hf⟩ := h3
    obtain ⟨vt, vu, tx, ta, hcs, h5, h6, h7⟩ := open_two (x := (d3, p3)) hf
    have hcs' : cs.toList = [vt, vu] := hcs
    refine ⟨vt, vu, tx, ta, ?_, h5, h6, h7⟩
    obtain ⟨l⟩ := cs
    simp only at hcs'
    rw [hcs']
  subst hv0; subst hv3; subst hv4
  clear hA0 hval0
  refine (kindOwn_any vd vf v1 v2 vt vu xa xb C xs ys tx ta t _ W hC hS (tables hL) hxs hys htx hta hT hBC (by omega) (by omega)).mono fun e W' ⟨he, bel⟩ => ?_
  subst he
  exact ⟨_, rfl, _, _, _, [], _, [], hW', trodAll_mk1 (shut_bool Tryd.u4 _), (trodAll_cons_mk (Below.trod laidOut (by kernel_rfl) (of_decide_eq_true (by kernel_rfl)) k0 bel lt0) (trodAll_cons_mk (Below.trod laidOut (by kernel_rfl) (of_decide_eq_true (by kernel_rfl)) k1 bel lt1) (trodAll_cons_mk (Below.trod laidOut (by kernel_rfl) (of_decide_eq_true (by kernel_rfl)) k2 bel lt2) (trodAll_cons_mk (Below.trod laidOut (by kernel_rfl) (of_decide_eq_true (by kernel_rfl)) k3 bel lt3) (trodAll_cons_mk (Below.trod laidOut (by kernel_rfl) (of_decide_eq_true (by kernel_rfl)) k4 bel lt4) (trodAll_mk0)))))), rfl, bel.frame _, fun h => by cases h⟩

theorem over : Rows.kindOwnUptoRow.holds Tryd.pinned (Rows.OpenSpec.upto Rows.kindOwnSpec) :=
  OpenClaim.holds_of_cond 3 Tryd.f3 rfl rfl rfl rfl rfl rfl rfl ⟨rfl, rfl, rfl, rfl, rfl⟩ rfl rfl rfl rfl rfl (by kernel_rfl) Tryd.func3 (by kernel_rfl)
    (of_decide_eq_true (by kernel_rfl)) (by unfold Func.isWrapper; first | (rw [if_pos (by decide +kernel)]; kernel_rfl) | (rw [if_neg (by decide +kernel)]; exact ⟨rfl, rfl⟩))
    (fun os started H enc _ F => by rw [OpenClaim.pre_eq_preRow]; exact lifted os started H enc F)

theorem proved : Rows.KindOwnUptoSaid := over
#print axioms proved
end Go.Proofs.YtkdhhcidpklgoaaDoor.kindOwnDone
