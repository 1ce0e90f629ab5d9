/- law.go: KindTypes. -/
import Derived.Test.YtkdhhcidpklgoaaGreatDoorQ38
import Derived.OpenShut
import Derived.ChangeSame
import Derived.ChangeVars
import Derived.LaidLaws
import Derived.JoinedCond
import Derived.Deep.DeepHandedRow
import Derived.Deep.DeepWitnessRowRef
import Derived.Lib.LaidTab
namespace Go.Proofs.YtkdhhcidpklgoaaGreatDoor
open Go.RowKit Go.Shelf Go.Maps
attribute [local go_sem] Oper.semAt_some

/-- Type in a scope that the call itself has made. -/
theorem type_new (vd vf : Value) (C : Cg) (w0 w : World) (p mx ma n : Nat) (E : Ev) (S : Sc) (k : Nat) (t : Nd) (va vb : Value) (hC : RCg w0 vd vf C) (hS : ShC C) (ht : RNd w0 k t va vb) (hb : BN t) (hx : Ext w0 w) (h1 : w0.heap.size ≤ mx) (h2 : w0.heap.size ≤ ma)
    (hr : RS w p mx ma n (lastE E)) (hs : sortN C S t ≠ 3) (hn : n ≤ 100000000) :
    Calls Tryz.prog 15 #[.pointer (some ⟨p, 0, none⟩), cV vd vf, nV t va vb] w fun e w' => e = .returned (.tuple #[.int .i64 (uR E t.op t.n t.ty (typN C E t).isSome), .bool (typN C E t).isSome]) ∧ Ext w0 w' := by
  have hbb := hb.b
  refine (type7_all vd vf C w0 p mx ma hC hS h1 h2 k t va vb ht hb w n E S hx hr hs (by omega)).mono ?_
  rintro e w' ⟨rfl, -, h4⟩
  exact ⟨rfl, h4.below hx h1 h2⟩
theorem typC_no {C : Cg} {xs ar tx ta : List Int} {t : Nd} (h : coreB C = false) : typC C xs ar tx ta t = (0, 60) := by unfold typC; rw [h]; rfl
theorem typC_bad {C : Cg} {xs ar tx ta : List Int} {t : Nd} (h : coreB C = true) (h2 : askC C xs ar tx ta t = false) : typC C xs ar tx ta t = (0, 1) := by unfold typC; rw [h, h2]; rfl
def evV (xs ar tx ta : List Int) : Ev := pushE (fun _ => []) (varsOf 0 xs ++ varsOf 1 ar) (tx ++ ta)
theorem typC_none {C : Cg} {xs ar tx ta : List Int} {t : Nd} (h : coreB C = true) (h2 : askC C xs ar tx ta t = true) (h3 : typN C (evV xs ar tx ta) t = none) : typC C xs ar tx ta t = (0, 70) := by
  unfold evV at h3
  unfold typC; rw [h, h2, h3]; rfl
theorem typC_some {C : Cg} {xs ar tx ta : List Int} {t : Nd} {T : Int} (h : coreB C = true) (h2 : askC C xs ar tx ta t = true) (h3 : typN C (evV xs ar tx ta) t = some T) : typC C xs ar tx ta t = (T, 0) := by
  unfold evV at h3
  unfold typC; rw [h, h2, h3]; rfl
theorem ask_parts {C : Cg} {xs ar tx ta : List Int} {t : Nd} (h : askC C xs ar tx ta t = true) : xs.length = tx.length ∧ ar.length = ta.length ∧ sortN C (scV xs ar) t ≠ 3 := by
  rw [askC_ref] at h
  simp only [Bool.and_eq_true, decide_eq_true_eq] at h
  refine ⟨h.1, h.2.1, fun e => ?_⟩
  have h5 := h.2.2.2.2.2.2
  unfold vN at h5
  rw [e] at h5; cases h5
set_option maxHeartbeats 16000000 in
set_option maxRecDepth 100000 in
theorem kindTypes_any (vd vf vx va vt vu xa xb : Value) (C : Cg) (xs ys tx ta : List Int) (t : Nd) (k : Nat) (w : World) (hC : RCg w vd vf C) (hS : ShC C) (htab : Tabs w) (hB : ∀ f ∈ C.funs, BN f.body) (hx : RInts w vx xs) (ha : RInts w va ys) (ht : RInts w vt tx) (hu : RInts w vu ta) (hn : RNd w k t xa xb) (hb : BN t) (hl1 : xs.length + ys.length ≤ 1048576) (hl2 : tx.length + ta.length ≤ 1048576) :
    Calls Tryz.prog 4 #[cV vd vf, vx, va, tysV vt vu, nV t xa xb] w fun e w' => e = .returned (.bool true) ∧ Ext w w' := by
  have HFE := Lib.hid (fun W (hW : Ext w W) => few6_any vd vf C 3000 W (hC.below hW) hB (by decide) (by decide))
  have HFI := Lib.hid (fun W (hW : Ext w W) => fits6_any k t xa xb 3000 W (hn.below hW) hb (by decide) (by decide))
  have HAW := Lib.hid (fun W (hW : Ext w W) => awake_any W (htab.ext hW))
  have HTY := Lib.hid (fun W (hW : Ext w W) => kindType_any vd vf vx va vt vu xa xb C xs ys tx ta t k W (hC.below hW) hS (htab.ext hW) hB (hx.below hW) (ha.below hW) (ht.below hW) (hu.below hW) (hn.below hW) hb hl1 hl2)
  have HIS := Lib.hid (fun W (hW : Ext w W) => is6_any vd vf C W (hC.below hW) hS hB)
  have HAS := Lib.hid (fun W (hW : Ext w W) => asked_any vd vf vx va vt vu xa xb C xs ys tx ta t k W (hC.below hW) hS (hx.below hW) (ha.below hW) (ht.below hW) (hu.below hW) (hn.below hW) hb hl1 hl2)
  have HNS := Lib.hid (fun (e1 : xs.length = tx.length) (e2 : ys.length = ta.length) W (hW : Ext w W) => newScope7_any vx vt va vu xs tx ys ta W (hx.below hW) (ht.below hW) (ha.below hW) (hu.below hW) e1 e2 (by omega) (by omega))
  have HTN : Hid (∀ (hs : sortN C (scV xs ys) t ≠ 3) W0 W p mx ma, Ext w W0 → Ext W0 W → W0.heap.size ≤ mx → W0.heap.size ≤ ma → RS W p mx ma (xs.length + ys.length) (lastE (evV xs ys tx ta)) → Calls Tryz.prog 15 #[.pointer (some ⟨p, 0, none⟩), cV vd vf, nV t xa xb] W fun e w' => e = .returned (.tuple #[.int .i64 (uR (evV xs ys tx ta) t.op t.n t.ty (typN C (evV xs ys tx ta) t).isSome), .bool (typN C (evV xs ys tx ta) t).isSome]) ∧ Ext W0 w') := fun hs W0 W p mx ma h0 hW h1 h2 hr =>
    type_new vd vf C W0 W p mx ma _ _ (scV xs ys) k t xa xb (hC.below h0) hS (hn.below h0) hb hW h1 h2 hr hs (by omega)
  have HC0 := Lib.hid (@typC_no C xs ys tx ta t)
  have HC1 := Lib.hid (@typC_bad C xs ys tx ta t)
  have HC2 := Lib.hid (@typC_none C xs ys tx ta t)
  have HC3 := Lib.hid (fun T => @typC_some C xs ys tx ta t T)
  have HPT := Lib.hid (@ask_parts C xs ys tx ta t)
  have HUR := Lib.hid (fun T => @uR_some C (evV xs ys tx ta) t T)
  obtain ⟨Ad, cd, rfl, -, -⟩ := hC.d.form
  obtain ⟨Af, cf, rfl, -, -⟩ := hC.f.form
  obtain ⟨-, ⟨Ax, cx, rfl, -, -⟩, ⟨Bx, dx, rfl, -, -⟩⟩ := hn.form
  obtain ⟨A1, c1, rfl, -, -⟩ := hx.form
  obtain ⟨A2, c2, rfl, -, -⟩ := ha.form
  obtain ⟨A3, c3, rfl, -, -⟩ := ht.form
  obtain ⟨A4, c4, rfl, -, -⟩ := hu.form
  obtain ⟨w3, hw3⟩ : ∃ w3, w3 = ((w.alloc (.cells #[.slice Ad C.decls.length cd, .slice Af C.funs.length cf] 25)).alloc (.cells #[.slice A3 tx.length c3, .slice A4 ta.length c4] 32)).alloc (.cells #[.int .i64 t.op, .int .i64 t.n, .int .i64 t.ty, .slice Ax t.args.length cx, .slice Bx t.brs.length dx] 36) := ⟨_, rfl⟩
  have HE3 : Hid (Ext w w3) := by show Ext w w3; rw [hw3]; exact ((Ext.al _ _).tr (Ext.al _ _)).tr (Ext.al _ _)
  have hb3 := box_three w (.cells #[.slice Ad C.decls.length cd, .slice Af C.funs.length cf] 25) (.cells #[.slice A3 tx.length c3, .slice A4 ta.length c4] 32) (.cells #[.int .i64 t.op, .int .i64 t.n, .int .i64 t.ty, .slice Ax t.args.length cx, .slice Bx t.brs.length dx] 36)
  rw [← hw3] at hb3
  have HB1 := Lib.hid hb3.1; have HB2 := Lib.hid hb3.2.1; have HB3 := Lib.hid hb3.2.2
  clear hC hS hB hx ha ht hu hn hb hb3 htab
  have HCE : Hid (∀ W, Ext w3 W → W.cell? ⟨w.heap.size, 0, none⟩ = some (.slice Ad C.decls.length cd) ∧ W.cell? ⟨w.heap.size, 1, none⟩ = some (.slice Af C.funs.length cf) ∧ W.cell? ⟨w.heap.size + 1, 0, none⟩ = some (.slice A3 tx.length c3) ∧ W.cell? ⟨w.heap.size + 1, 1, none⟩ = some (.slice A4 ta.length c4) ∧ W.cell? ⟨w.heap.size + 1 + 1, 0, none⟩ = some (.int .i64 t.op) ∧ W.cell? ⟨w.heap.size + 1 + 1, 1, none⟩ = some (.int .i64 t.n) ∧ W.cell? ⟨w.heap.size + 1 + 1, 2, none⟩ = some (.int .i64 t.ty) ∧ W.cell? ⟨w.heap.size + 1 + 1, 3, none⟩ = some (.slice Ax t.args.length cx) ∧ W.cell? ⟨w.heap.size + 1 + 1, 4, none⟩ = some (.slice Bx t.brs.length dx)) := fun W h => by
    have h1 := h.lt HB1.out
    have h2 := h.lt HB2.out
    have h3 := h.lt HB3.out
    exact ⟨cellAt h1 0, cellAt h1 1, cellAt h2 0, cellAt h2 1, cellAt h3 0, cellAt h3 1, cellAt h3 2, cellAt h3 3, cellAt h3 4⟩
  obtain ⟨p0, p1, t0, t1, n0, n1, n2, n3, n4⟩ := HCE.out w3 (Ext.rf _)
  have hz0 : (0 : Int) < 2 := by decide
  have hz1 : (1 : Int) < 2 := by decide
  obtain ⟨q1, hq1⟩ : ∃ q, fewN 3000 C = q := ⟨_, rfl⟩
  obtain ⟨q2, hq2⟩ : ∃ q, fitsN 3000 t = q := ⟨_, rfl⟩
  rw [hq1] at HFE
  rw [hq2] at HFI
  clear hq1 hq2
  cases q1
  · go_enter Tryz.func4, Tryz.ntmps4
    go_wp2_with fail
    rw [← hw3]
    go_wp2_with (first
      | (go_at_call 6; (with_reducible refine (HFE.out _ HE3.out).mono ?_); rintro e w4 ⟨rfl, hx4⟩; have HX4 := Lib.hid hx4; clear p0 p1 t0 t1 n0 n1 n2 n3 n4; obtain ⟨p0, p1, t0, t1, n0, n1, n2, n3, n4⟩ := HCE.out _ HX4.out; clear hx4)
      | (go_at_call 7; (with_reducible refine (HAW.out _ (HE3.out.tr HX4.out)).mono ?_); rintro e w20 ⟨rfl, hx20⟩)
      | fail "none")
    go_ret
    exact ⟨rfl, HE3.out.tr (HX4.out.tr hx20)⟩
  cases q2
  · go_enter Tryz.func4, Tryz.ntmps4
    go_wp2_with fail
    rw [← hw3]
    go_wp2_with (first
      | (go_at_call 6; (with_reducible refine (HFE.out _ HE3.out).mono ?_); rintro e w4 ⟨rfl, hx4⟩; have HX4 := Lib.hid hx4; clear p0 p1 t0 t1 n0 n1 n2 n3 n4; obtain ⟨p0, p1, t0, t1, n0, n1, n2, n3, n4⟩ := HCE.out _ HX4.out; clear hx4)
      | (go_at_call 11; (with_reducible refine (HFI.out _ (HE3.out.tr HX4.out)).mono ?_); rintro e w5 ⟨rfl, hx5⟩; have HX5 := Lib.hid (HX4.out.tr hx5); clear p0 p1 t0 t1 n0 n1 n2 n3 n4; obtain ⟨p0, p1, t0, t1, n0, n1, n2, n3, n4⟩ := HCE.out _ HX5.out; clear hx5)
      | (go_at_call 7; (with_reducible refine (HAW.out _ (HE3.out.tr HX5.out)).mono ?_); rintro e w20 ⟨rfl, hx20⟩)
      | fail "none")
    go_ret
    exact ⟨rfl, HE3.out.tr (HX5.out.tr hx20)⟩
  cases hco : coreB C
  · rw [hco] at HIS
    rw [HC0.out hco] at HTY
    clear hco
    go_enter Tryz.func4, Tryz.ntmps4
    go_wp2_with fail
    rw [← hw3]
    go_wp2_with (first
      | (go_at_call 6; (with_reducible refine (HFE.out _ HE3.out).mono ?_); rintro e w4 ⟨rfl, hx4⟩; have HX4 := Lib.hid hx4; clear p0 p1 t0 t1 n0 n1 n2 n3 n4; obtain ⟨p0, p1, t0, t1, n0, n1, n2, n3, n4⟩ := HCE.out _ HX4.out; clear hx4)
      | (go_at_call 11; (with_reducible refine (HFI.out _ (HE3.out.tr HX4.out)).mono ?_); rintro e w5 ⟨rfl, hx5⟩; have HX5 := Lib.hid (HX4.out.tr hx5); clear p0 p1 t0 t1 n0 n1 n2 n3 n4; obtain ⟨p0, p1, t0, t1, n0, n1, n2, n3, n4⟩ := HCE.out _ HX5.out; clear hx5)
      | (go_at_call 12; (with_reducible refine (HTY.out _ (HE3.out.tr HX5.out)).mono ?_); rintro e w6 ⟨rfl, hx6⟩; have HX6 := Lib.hid (HX5.out.tr hx6); clear p0 p1 t0 t1 n0 n1 n2 n3 n4; obtain ⟨p0, p1, t0, t1, n0, n1, n2, n3, n4⟩ := HCE.out _ HX6.out; clear hx6)
      | (go_at_call 9; (with_reducible refine (HIS.out _ (HE3.out.tr HX6.out)).mono ?_); rintro e w7 ⟨rfl, hx7⟩; have HX7 := Lib.hid (HX6.out.tr hx7); clear p0 p1 t0 t1 n0 n1 n2 n3 n4; obtain ⟨p0, p1, t0, t1, n0, n1, n2, n3, n4⟩ := HCE.out _ HX7.out; clear hx7)
      | (go_at_call 7; (with_reducible refine (HAW.out _ (HE3.out.tr HX7.out)).mono ?_); rintro e w20 ⟨rfl, hx20⟩)
      | fail "none")
    go_ret
    exact ⟨rfl, HE3.out.tr (HX7.out.tr hx20)⟩
  rw [hco] at HIS
  cases has : askC C xs ys tx ta t
  · rw [has] at HAS
    rw [HC1.out hco has] at HTY
    clear hco has
    go_enter Tryz.func4, Tryz.ntmps4
    go_wp2_with fail
    rw [← hw3]
    go_wp2_with (first
      | (go_at_call 6; (with_reducible refine (HFE.out _ HE3.out).mono ?_); rintro e w4 ⟨rfl, hx4⟩; have HX4 := Lib.hid hx4; clear p0 p1 t0 t1 n0 n1 n2 n3 n4; obtain ⟨p0, p1, t0, t1, n0, n1, n2, n3, n4⟩ := HCE.out _ HX4.out; clear hx4)
      | (go_at_call 11; (with_reducible refine (HFI.out _ (HE3.out.tr HX4.out)).mono ?_); rintro e w5 ⟨rfl, hx5⟩; have HX5 := Lib.hid (HX4.out.tr hx5); clear p0 p1 t0 t1 n0 n1 n2 n3 n4; obtain ⟨p0, p1, t0, t1, n0, n1, n2, n3, n4⟩ := HCE.out _ HX5.out; clear hx5)
      | (go_at_call 12; (with_reducible refine (HTY.out _ (HE3.out.tr HX5.out)).mono ?_); rintro e w6 ⟨rfl, hx6⟩; have HX6 := Lib.hid (HX5.out.tr hx6); clear p0 p1 t0 t1 n0 n1 n2 n3 n4; obtain ⟨p0, p1, t0, t1, n0, n1, n2, n3, n4⟩ := HCE.out _ HX6.out; clear hx6)
      | (go_at_call 9; (with_reducible refine (HIS.out _ (HE3.out.tr HX6.out)).mono ?_); rintro e w7 ⟨rfl, hx7⟩; have HX7 := Lib.hid (HX6.out.tr hx7); clear p0 p1 t0 t1 n0 n1 n2 n3 n4; obtain ⟨p0, p1, t0, t1, n0, n1, n2, n3, n4⟩ := HCE.out _ HX7.out; clear hx7)
      | (go_at_call 13; (with_reducible refine (HAS.out _ (HE3.out.tr HX7.out)).mono ?_); rintro e w8 ⟨rfl, hx8⟩; have HX8 := Lib.hid (HX7.out.tr hx8); clear p0 p1 t0 t1 n0 n1 n2 n3 n4; obtain ⟨p0, p1, t0, t1, n0, n1, n2, n3, n4⟩ := HCE.out _ HX8.out; clear hx8)
      | (go_at_call 7; (with_reducible refine (HAW.out _ (HE3.out.tr HX8.out)).mono ?_); rintro e w20 ⟨rfl, hx20⟩)
      | fail "none")
    go_ret
    exact ⟨rfl, HE3.out.tr (HX8.out.tr hx20)⟩
  rw [has] at HAS
  obtain ⟨hp1, hp2, hp3⟩ := HPT.out has
  have HNS2 := Lib.hid (HNS.out hp1 hp2)
  have HTN2 := Lib.hid (HTN.out hp3)
  have hz9 := hz0
  clear hp1 hp2 hp3 HNS HTN HPT
  cases ho : typN C (evV xs ys tx ta) t with
  | none =>
    rw [HC2.out hco has ho] at HTY
    rw [ho] at HTN2
    clear hco has ho HC0 HC1 HC2 HC3 HUR
    generalize uR (evV xs ys tx ta) t.op t.n t.ty _ = u at *
    go_enter Tryz.func4, Tryz.ntmps4
    go_wp2_with fail
    rw [← hw3]
    go_wp2_with (first
      | (go_at_call 6; (with_reducible refine (HFE.out _ HE3.out).mono ?_); rintro e w4 ⟨rfl, hx4⟩; have HX4 := Lib.hid hx4; clear p0 p1 t0 t1 n0 n1 n2 n3 n4; obtain ⟨p0, p1, t0, t1, n0, n1, n2, n3, n4⟩ := HCE.out _ HX4.out; clear hx4)
      | (go_at_call 11; (with_reducible refine (HFI.out _ (HE3.out.tr HX4.out)).mono ?_); rintro e w5 ⟨rfl, hx5⟩; have HX5 := Lib.hid (HX4.out.tr hx5); clear p0 p1 t0 t1 n0 n1 n2 n3 n4; obtain ⟨p0, p1, t0, t1, n0, n1, n2, n3, n4⟩ := HCE.out _ HX5.out; clear hx5)
      | (go_at_call 12; (with_reducible refine (HTY.out _ (HE3.out.tr HX5.out)).mono ?_); rintro e w6 ⟨rfl, hx6⟩; have HX6 := Lib.hid (HX5.out.tr hx6); clear p0 p1 t0 t1 n0 n1 n2 n3 n4; obtain ⟨p0, p1, t0, t1, n0, n1, n2, n3, n4⟩ := HCE.out _ HX6.out; clear hx6)
      | (go_at_call 9; (with_reducible refine (HIS.out _ (HE3.out.tr HX6.out)).mono ?_); rintro e w7 ⟨rfl, hx7⟩; have HX7 := Lib.hid (HX6.out.tr hx7); clear p0 p1 t0 t1 n0 n1 n2 n3 n4; obtain ⟨p0, p1, t0, t1, n0, n1, n2, n3, n4⟩ := HCE.out _ HX7.out; clear hx7)
      | (go_at_call 13; (with_reducible refine (HAS.out _ (HE3.out.tr HX7.out)).mono ?_); rintro e w8 ⟨rfl, hx8⟩; have HX8 := Lib.hid (HX7.out.tr hx8); clear p0 p1 t0 t1 n0 n1 n2 n3 n4; obtain ⟨p0, p1, t0, t1, n0, n1, n2, n3, n4⟩ := HCE.out _ HX8.out; clear hx8)
      | fail "none")
    have HNS8 : Hid (∀ W, Ext w8 W → Calls Tryz.prog 14 #[.slice A1 xs.length c1, .slice A3 tx.length c3, .slice A2 ys.length c2, .slice A4 ta.length c4] W _) := fun W hW => HNS2.out W (HE3.out.tr (HX8.out.tr hW))
    have HCE8 : Hid (∀ W, Ext w8 W → _) := fun W hW => HCE.out W (HX8.out.tr hW)
    go_region_held3 (fun W => W.cell? ⟨w.heap.size, 0, none⟩ = some (.slice Ad C.decls.length cd) ∧ W.cell? ⟨w.heap.size, 1, none⟩ = some (.slice Af C.funs.length cf) ∧ W.cell? ⟨w.heap.size + 1, 0, none⟩ = some (.slice A3 tx.length c3) ∧ W.cell? ⟨w.heap.size + 1, 1, none⟩ = some (.slice A4 ta.length c4) ∧ W.cell? ⟨w.heap.size + 1 + 1, 0, none⟩ = some (.int .i64 t.op) ∧ W.cell? ⟨w.heap.size + 1 + 1, 1, none⟩ = some (.int .i64 t.n) ∧ W.cell? ⟨w.heap.size + 1 + 1, 2, none⟩ = some (.int .i64 t.ty) ∧ W.cell? ⟨w.heap.size + 1 + 1, 3, none⟩ = some (.slice Ax t.args.length cx) ∧ W.cell? ⟨w.heap.size + 1 + 1, 4, none⟩ = some (.slice Bx t.brs.length dx))
      (first | exact HCE8.out _ (Ext.rf _).drew | exact HCE8.out _ HX10.out | exact HCE8.out _ HX11.out | fail "KEEP")
      (first
        | (go_at_call 14; (with_reducible refine (HNS8.out _ (by first | exact (Ext.rf _).drew | exact Ext.rf _)).mono ?_); rintro e w10 ⟨⟨p, mx, ma, rfl, hq1, hq2, hq3, hrc⟩, hx10⟩; have HXV := Lib.hid hx10; have HRC := Lib.hid hrc; have HX10 : Hid (Ext w8 w10) := Ext.tr (Ext.rf w8).drew hx10; clear hrc hx10)
        | (go_at_call 15; (with_reducible refine (HTN2.out w8.drew _ _ _ _ (HE3.out.tr (HX8.out.tr (Ext.rf w8).drew)) HXV.out hq2 hq3 HRC.out).mono ?_); rintro e w11 ⟨rfl, hx11⟩; have HX11 : Hid (Ext w8 w11) := Ext.tr (Ext.rf w8).drew hx11; clear hx11)
        | fail "ARM")
    all_goals
      go_wp2_with (first
        | (go_at_call 7; (with_reducible refine (HAW.out _ (HE3.out.tr (HX8.out.tr HX11.out))).mono ?_); rintro e w20 ⟨rfl, hx20⟩)
        | fail "none")
      go_ret
      exact ⟨rfl, HE3.out.tr (HX8.out.tr (HX11.out.tr hx20))⟩
  | some T =>
    rw [HC3.out _ hco has ho] at HTY
    have hu : uR (evV xs ys tx ta) t.op t.n t.ty (some T).isSome = T := HUR.out _ ho
    rw [ho, hu] at HTN2
    clear hco has ho HC0 HC1 HC2 HC3 HUR hu
    go_enter Tryz.func4, Tryz.ntmps4
    go_wp2_with fail
    rw [← hw3]
    go_wp2_with (first
      | (go_at_call 6; (with_reducible refine (HFE.out _ HE3.out).mono ?_); rintro e w4 ⟨rfl, hx4⟩; have HX4 := Lib.hid hx4; clear p0 p1 t0 t1 n0 n1 n2 n3 n4; obtain ⟨p0, p1, t0, t1, n0, n1, n2, n3, n4⟩ := HCE.out _ HX4.out; clear hx4)
      | (go_at_call 11; (with_reducible refine (HFI.out _ (HE3.out.tr HX4.out)).mono ?_); rintro e w5 ⟨rfl, hx5⟩; have HX5 := Lib.hid (HX4.out.tr hx5); clear p0 p1 t0 t1 n0 n1 n2 n3 n4; obtain ⟨p0, p1, t0, t1, n0, n1, n2, n3, n4⟩ := HCE.out _ HX5.out; clear hx5)
      | (go_at_call 12; (with_reducible refine (HTY.out _ (HE3.out.tr HX5.out)).mono ?_); rintro e w6 ⟨rfl, hx6⟩; have HX6 := Lib.hid (HX5.out.tr hx6); clear p0 p1 t0 t1 n0 n1 n2 n3 n4; obtain ⟨p0, p1, t0, t1, n0, n1, n2, n3, n4⟩ := HCE.out _ HX6.out; clear hx6)
      | (go_at_call 9; (with_reducible refine (HIS.out _ (HE3.out.tr HX6.out)).mono ?_); rintro e w7 ⟨rfl, hx7⟩; have HX7 := Lib.hid (HX6.out.tr hx7); clear p0 p1 t0 t1 n0 n1 n2 n3 n4; obtain ⟨p0, p1, t0, t1, n0, n1, n2, n3, n4⟩ := HCE.out _ HX7.out; clear hx7)
      | (go_at_call 13; (with_reducible refine (HAS.out _ (HE3.out.tr HX7.out)).mono ?_); rintro e w8 ⟨rfl, hx8⟩; have HX8 := Lib.hid (HX7.out.tr hx8); clear p0 p1 t0 t1 n0 n1 n2 n3 n4; obtain ⟨p0, p1, t0, t1, n0, n1, n2, n3, n4⟩ := HCE.out _ HX8.out; clear hx8)
      | fail "none")
    have HNS8 : Hid (∀ W, Ext w8 W → Calls Tryz.prog 14 #[.slice A1 xs.length c1, .slice A3 tx.length c3, .slice A2 ys.length c2, .slice A4 ta.length c4] W _) := fun W hW => HNS2.out W (HE3.out.tr (HX8.out.tr hW))
    have HCE8 : Hid (∀ W, Ext w8 W → _) := fun W hW => HCE.out W (HX8.out.tr hW)
    go_region_held3 (fun W => W.cell? ⟨w.heap.size, 0, none⟩ = some (.slice Ad C.decls.length cd) ∧ W.cell? ⟨w.heap.size, 1, none⟩ = some (.slice Af C.funs.length cf) ∧ W.cell? ⟨w.heap.size + 1, 0, none⟩ = some (.slice A3 tx.length c3) ∧ W.cell? ⟨w.heap.size + 1, 1, none⟩ = some (.slice A4 ta.length c4) ∧ W.cell? ⟨w.heap.size + 1 + 1, 0, none⟩ = some (.int .i64 t.op) ∧ W.cell? ⟨w.heap.size + 1 + 1, 1, none⟩ = some (.int .i64 t.n) ∧ W.cell? ⟨w.heap.size + 1 + 1, 2, none⟩ = some (.int .i64 t.ty) ∧ W.cell? ⟨w.heap.size + 1 + 1, 3, none⟩ = some (.slice Ax t.args.length cx) ∧ W.cell? ⟨w.heap.size + 1 + 1, 4, none⟩ = some (.slice Bx t.brs.length dx))
      (first | exact HCE8.out _ (Ext.rf _).drew | exact HCE8.out _ HX10.out | exact HCE8.out _ HX11.out | fail "KEEP")
      (first
        | (go_at_call 14; (with_reducible refine (HNS8.out _ (by first | exact (Ext.rf _).drew | exact Ext.rf _)).mono ?_); rintro e w10 ⟨⟨p, mx, ma, rfl, hq1, hq2, hq3, hrc⟩, hx10⟩; have HXV := Lib.hid hx10; have HRC := Lib.hid hrc; have HX10 : Hid (Ext w8 w10) := Ext.tr (Ext.rf w8).drew hx10; clear hrc hx10)
        | (go_at_call 15; (with_reducible refine (HTN2.out w8.drew _ _ _ _ (HE3.out.tr (HX8.out.tr (Ext.rf w8).drew)) HXV.out hq2 hq3 HRC.out).mono ?_); rintro e w11 ⟨rfl, hx11⟩; have HX11 : Hid (Ext w8 w11) := Ext.tr (Ext.rf w8).drew hx11; clear hx11)
        | fail "ARM")
    all_goals
      go_wp2_with (first
        | (go_at_call 7; (with_reducible refine (HAW.out _ (HE3.out.tr (HX8.out.tr HX11.out))).mono ?_); rintro e w20 ⟨rfl, hx20⟩)
        | fail "none")
      go_ret
      exact ⟨rfl, HE3.out.tr (HX8.out.tr (HX11.out.tr hx20))⟩
end Go.Proofs.YtkdhhcidpklgoaaGreatDoor

/- chiasmuslaw07.KindTypes returns true for every input, and its arguments read as they read before. Condition: what the arguments hold, counted as the given row counts them, is at most 1048576. -/
namespace Go.Proofs.YtkdhhcidpklgoaaGreatDoor.kindTypesDone
open Go.ChangeShapes Go.WideShapes Go.ChangeAt Go.RowKit
open Go.ChangeMaps (open_string shut_string)

theorem own : ownKnob Tryz.prog.godebug = none := by kernel_rfl
theorem laidOut : laidOutB Tryz.prog = true := by kernel_rfl
def tab0 : Array Value := #[.int .i64 2, .int .i64 0, .int .i64 0, .int .i64 0, .int .i64 1, .int .i64 3, .int .i64 1, .int .i64 0, .int .i64 1, .int .i64 0, .int .i64 2, .int .i64 0, .int .i64 1, .int .i64 3, .int .i64 1, .int .i64 0, .int .i64 1, .int .i64 0, .int .i64 0, .int .i64 1, .int .i64 0, .int .i64 0, .int .i64 0, .int .i64 0, .int .i64 0, .int .i64 0, .int .i64 0, .int .i64 3, .int .i64 0, .int .i64 0]
def tab1 : Array Value := #[.int .i64 0, .bool true, .bool false, .bool false, .slice none 0 0, .int .i64 0, .bool true, .bool false, .bool false, .slice none 0 0, .int .i64 0, .bool true, .bool true, .bool false, .slice none 0 0, .int .i64 0, .bool true, .bool true, .bool false, .slice (some ⟨8, 0, none⟩) 1 1, .int .i64 0, .bool false, .bool true, .bool true, .slice none 0 0, .int .i64 1, .bool true, .bool false, .bool false, .slice none 0 0, .int .i64 1, .bool true, .bool true, .bool false, .slice none 0 0, .int .i64 1, .bool true, .bool true, .bool false, .slice (some ⟨9, 0, none⟩) 1 1, .int .i64 1, .bool false, .bool true, .bool true, .slice none 0 0, .int .i64 2, .bool false, .bool true, .bool false, .slice (some ⟨10, 0, none⟩) 2 2, .int .i64 2, .bool true, .bool false, .bool false, .slice (some ⟨11, 0, none⟩) 3 3, .int .i64 2, .bool false, .bool false, .bool false, .slice (some ⟨12, 0, none⟩) 3 3, .int .i64 2, .bool false, .bool false, .bool false, .slice (some ⟨13, 0, none⟩) 2 2, .int .i64 2, .bool true, .bool false, .bool false, .slice none 0 0, .int .i64 2, .bool false, .bool false, .bool false, .slice (some ⟨14, 0, none⟩) 1 1]
def tab2 : Array Value := #[.string ⟨#[43]⟩, .string ⟨#[45]⟩, .string ⟨#[42]⟩, .string ⟨#[47]⟩, .string ⟨#[37]⟩, .string ⟨#[61, 61]⟩, .string ⟨#[60]⟩]
def lay (cs : Array Value) (o : Obj) : Obj := match o with
  | .cells _ t frozen => .cells cs t frozen
  | o => o
noncomputable def laidWorld (os : Os) : World :=
  { World.holding Tryz.prog os ⟨#[], #[], []⟩ with heap := ((((World.holding Tryz.prog os ⟨#[], #[], []⟩).heap.modify 0 (lay tab0)).modify 1 (lay tab1)).modify 2 (lay tab2)) ++ #[.cells #[.int .i64 2] 78 (0, 0), .cells #[.int .i64 2] 78 (0, 0), .cells #[.int .i64 0, .int .i64 1] 78 (0, 0), .cells #[.int .i64 0, .int .i64 0, .int .i64 1] 78 (0, 0), .cells #[.int .i64 0, .int .i64 2, .int .i64 2] 78 (0, 0), .cells #[.int .i64 0, .int .i64 2] 78 (0, 0), .cells #[.int .i64 0] 78 (0, 0)] }
set_option maxRecDepth 100000 in
theorem laid_met (os : Os) (args : Array Value) : laidMet Tryz.prog Rows.kindTypesUptoRow.laid ((laidWorld os).forCall (fun _ _ => 0) ⟨#[], args, []⟩).memory :=
  laidMet_of_run' 8 (by kernel_rfl) (by kernel_rfl)
/-- What the row's list gives: the tables. -/
theorem tables {W : World} (h : laidMetH Tryz.prog Rows.kindTypesUptoRow.laid W) : Tabs W := by
  obtain ⟨ps, ⟨g1, t1, c1, f1, p1, q1, hg1, ht1, hv1, hd1, ⟨g2, t2, c2, f2, p2, q2, hg2, ht2, hv2, hd2, ⟨g3, t3, c3, f3, p3, q3, hg3, ht3, hv3, hd3, -, -⟩, -⟩, -⟩, -⟩ := h
  obtain rfl := Option.some.inj (Tryz.gSigns.symm.trans hg1)
  obtain rfl := Option.some.inj (Tryz.tSigns.symm.trans ht1)
  obtain rfl := Option.some.inj (Tryz.gShapes.symm.trans hg2)
  obtain rfl := Option.some.inj (Tryz.tShapes.symm.trans ht2)
  obtain rfl := Option.some.inj (Tryz.gRules.symm.trans hg3)
  obtain rfl := Option.some.inj (Tryz.tRules.symm.trans ht3)
  refine ⟨fun i hi => ?_, fun i hi => ?_, fun i hi => ?_⟩
  · obtain ⟨vs, h0, h1, h2, h3, h4, h5⟩ := shapes_cells hd2 i hi
    exact ⟨vs, var_at Tryz.gShapes hv2 _ _ h0, var_at Tryz.gShapes hv2 _ _ h1, var_at Tryz.gShapes hv2 _ _ h2, var_at Tryz.gShapes hv2 _ _ h3, var_at Tryz.gShapes hv2 _ _ h4, h5⟩
  · obtain ⟨s, h0, h1⟩ := signs_cells hd1 i hi
    exact ⟨s, var_at Tryz.gSigns hv1 _ _ h0, h1⟩
  · obtain ⟨h0, h1⟩ := rules_cells hd3 i hi
    exact ⟨var_at Tryz.gRules hv3 _ _ h0, var_at Tryz.gRules hv3 _ _ h1⟩

theorem reads (os : Os) {H : Type} (enc : TypeId × Value → H) : ∃ places, DataW.whole enc Tryz.prog ((laidWorld os).forCall (fun _ _ => 0) ⟨#[], #[.agg #[.slice none 0 0, .slice none 0 0], .slice none 0 0, .slice none 0 0, .agg #[.slice none 0 0, .slice none 0 0], .agg #[.int .i64 0, .int .i64 0, .int .i64 0, .slice none 0 0, .slice none 0 0]], []⟩).memory Tryz.f4.params.toList Rows.kindTypesSpec.vars false (#[.agg #[.slice none 0 0, .slice none 0 0], .slice none 0 0, .slice none 0 0, .agg #[.slice none 0 0, .slice none 0 0], .agg #[.int .i64 0, .int .i64 0, .int .i64 0, .slice none 0 0, .slice none 0 0]] : Array Value).toList 8 = some ([.agg [.nil, .nil], .nil, .nil, .agg [.nil, .nil], .agg [.lit (.int .i64 0), .lit (.int .i64 0), .lit (.int .i64 0), .nil, .nil]], [], places) :=
  ⟨[], by kernel_rfl⟩
set_option maxRecDepth 100000 in
theorem lifted (os : Os) (started : os.Started) (H : Type) (enc : TypeId × Value → H) (F : Stop.Interp) :
    ReturnsInHanded {} Tryz.checked os 4 .any ((Rows.OpenSpec.upto Rows.kindTypesSpec).preRow enc Tryz.prog Tryz.f4 Rows.kindTypesUptoRow.domain false Rows.kindTypesUptoRow.laid) (((Rows.OpenSpec.upto Rows.kindTypesSpec).at F).post enc Tryz.prog Tryz.f4 false true false false) := by
  obtain ⟨places, hx⟩ := reads os enc
  refine returnsInHanded_of_row (C := Tryz.checked) (s := Rows.OpenSpec.upto Rows.kindTypesSpec) own started (by kernel_rfl) Tryz.func4
    (witness_row_atRef (enc := enc) (C := Tryz.checked) false (laidWorld os) #[.agg #[.slice none 0 0, .slice none 0 0], .slice none 0 0, .slice none 0 0, .agg #[.slice none 0 0, .slice none 0 0], .agg #[.int .i64 0, .int .i64 0, .int .i64 0, .slice none 0 0, .slice none 0 0]] rfl (by kernel_rfl) (by kernel_rfl) (by kernel_rfl)
      (OpenSpec.preRow_of_cond 8 hx (by kernel_rfl) (fun k hk => by cases hk; kernel_rfl) (by kernel_rfl) (laid_met os _))) ?_
  intro W base args ds gs before hval0 hW _ hcond _ hL _ _
  have hval : ∀ (j : Nat) t v, Tryz.f4.params[j]? = some t → args[j]? = some v → Value.okWide Tryz.prog W .any base t v := hval0
  have hW' := hW
  obtain ⟨p, q, hA0, hV, rfl, hfz, hnd⟩ := hW
  have hA : DataW.TrodAll enc Tryz.prog W 0 (fun _ => true) true Tryz.f4.params.toList args.toList ds p := hA0
  rw [Tryz.params4] at hA hval
  obtain ⟨v0, vs0, d0, ds0, p0, q0, hargs, rfl, rfl, h0, r0⟩ := trodAll_cons hA
  obtain ⟨v1, vs1, d1, ds1, p1, q1, rfl, rfl, rfl, h1, r1⟩ := trodAll_cons r0
  obtain ⟨v2, vs2, d2, ds2, p2, q2, rfl, rfl, rfl, h2, r2⟩ := trodAll_cons r1
  obtain ⟨v3, vs3, d3, ds3, p3, q3, rfl, rfl, rfl, h3, r3⟩ := trodAll_cons r2
  obtain ⟨v4, vs4, d4, ds4, p4, q4, rfl, rfl, rfl, h4, r4⟩ := trodAll_cons r3
  obtain ⟨rfl, rfl, rfl⟩ := trodAll_nil r4
  obtain rfl : args = #[v0, v1, v2, v3, v4] := by cases args; simp_all
  obtain ⟨rfl, rfl⟩ := trodVars_none hV
  have k0 := h0
  have k1 := h1
  have k2 := h2
  have k3 := h3
  have k4 := h4
  have lt0 : ∀ x ∈ p0, x.block < W.heap.size := by obtain ⟨m, hm⟩ := k0; exact DataW.trod_lt m _ _ _ hm
  have lt1 : ∀ x ∈ p1, x.block < W.heap.size := by obtain ⟨m, hm⟩ := k1; exact DataW.trod_lt m _ _ _ hm
  have lt2 : ∀ x ∈ p2, x.block < W.heap.size := by obtain ⟨m, hm⟩ := k2; exact DataW.trod_lt m _ _ _ hm
  have lt3 : ∀ x ∈ p3, x.block < W.heap.size := by obtain ⟨m, hm⟩ := k3; exact DataW.trod_lt m _ _ _ hm
  have lt4 : ∀ x ∈ p4, x.block < W.heap.size := by obtain ⟨m, hm⟩ := k4; exact DataW.trod_lt m _ _ _ hm
  have hsmall := hcond _ rfl
  have hbulk : Rows.uptoBulk d0 ≤ 1048576 ∧ Rows.uptoBulk d1 + Rows.uptoBulk d2 ≤ 1048576 ∧ Rows.uptoBulk d3 ≤ 1048576 ∧ Rows.uptoBulk d4 ≤ 1048576 := by
    have h1 : Rows.uptoBulkAll (d0 :: ([d1, d2, d3, d4] ++ [])) ≤ 1048576 := of_decide_eq_true hsmall
    simp only [Rows.uptoBulkAll, List.append_nil] at h1
    omega
  obtain ⟨hb0, hb12, hb3, hb4⟩ := hbulk
  obtain ⟨xs, hxs, lx⟩ : ∃ l, RInts W v1 l ∧ l.length + 1 ≤ Rows.uptoBulk d1 := by
    obtain ⟨A, n, c, rfl⟩ := okWide_slice Tryz.uLI (hval 1 31 v1 rfl rfl)
    obtain ⟨fuel, hf⟩ := h1
    exact open_ints (x := (d1, p1)) hf
  obtain ⟨ys, hys, ly⟩ : ∃ l, RInts W v2 l ∧ l.length + 1 ≤ Rows.uptoBulk d2 := by
    obtain ⟨A, n, c, rfl⟩ := okWide_slice Tryz.uLI (hval 2 31 v2 rfl rfl)
    obtain ⟨fuel, hf⟩ := h2
    exact open_ints (x := (d2, p2)) hf
  obtain ⟨C, vd, vf, hv0, hC, hS⟩ : ∃ (C : Cg) (vd vf : Value), v0 = cV vd vf ∧ RCg W vd vf C ∧ ShX C := by
    obtain ⟨cs, rfl⟩ := okWide_shape Tryz.shapeC (hval 0 25 v0 rfl rfl)
    obtain ⟨fuel, hf⟩ := h0
    obtain ⟨C, vd, vf, hcs, hC, bd, bf⟩ := open_core (x := (d0, p0)) hf
    have hcs' : cs.toList = [vd, vf] := hcs
    refine ⟨C, vd, vf, ?_, hC, shx_of bd bf hb0⟩
    obtain ⟨l⟩ := cs
    simp only at hcs'
    rw [hcs']
  obtain ⟨t, xa, xb, hv4, hT, hBC⟩ : ∃ (t : Nd) (xa xb : Value), v4 = nV t xa xb ∧ RNd W (Rows.uptoBulk d4) t xa xb ∧ BC t := by
    obtain ⟨cs, rfl⟩ := okWide_shape Tryz.shapeN (hval 4 36 v4 rfl rfl)
    obtain ⟨fuel, hf⟩ := h4
    obtain ⟨t, xa, xb, hcs, hr, hu⟩ := open_node _ _ _ (d4, p4) (Nat.le_refl _) hf
    have hcs' : cs.toList = [.int .i64 t.op, .int .i64 t.n, .int .i64 t.ty, xa, xb] := hcs
    refine ⟨t, xa, xb, ?_, hr, bc_of hu hb4⟩
    obtain ⟨l⟩ := cs
    simp only at hcs'
    rw [hcs']
  obtain ⟨vt, vu, tx, ta, hv3, htx, hta, lt⟩ : ∃ (vt vu : Value) (tx ta : List Int), v3 = tysV vt vu ∧ RInts W vt tx ∧ RInts W vu ta ∧ tx.length + ta.length ≤ Rows.uptoBulk d3 := by
    obtain ⟨cs, rfl⟩ := okWide_arr Tryz.uA2 (hval 3 32 v3 rfl rfl)
    obtain ⟨fuel, hf⟩ := h3
    obtain ⟨vt, vu, tx, ta, hcs, h5, h6, h7⟩ := open_two (x := (d3, p3)) hf
    have hcs' : cs.toList = [vt, vu] := hcs
    refine ⟨vt, vu, tx, ta, ?_, h5, h6, h7⟩
    obtain ⟨l⟩ := cs
    simp only at hcs'
    rw [hcs']
  subst hv0; subst hv4; subst hv3
  clear hA0 hval0
  refine (kindTypes_any vd vf v1 v2 vt vu xa xb C xs ys tx ta t _ W hC hS.c (tables hL) (fun f hf => (hS.b f hf).bn) hxs hys htx hta hT hBC.bn (by omega) (by omega)).mono fun e W' ⟨he, bel⟩ => ?_
  subst he
  exact ⟨_, rfl, _, _, _, [], _, [], hW', trodAll_mk1 (shut_bool Tryz.u4 _), (trodAll_cons_mk (Below.trod laidOut (by kernel_rfl) (of_decide_eq_true (by kernel_rfl)) k0 bel lt0) (trodAll_cons_mk (Below.trod laidOut (by kernel_rfl) (of_decide_eq_true (by kernel_rfl)) k1 bel lt1) (trodAll_cons_mk (Below.trod laidOut (by kernel_rfl) (of_decide_eq_true (by kernel_rfl)) k2 bel lt2) (trodAll_cons_mk (Below.trod laidOut (by kernel_rfl) (of_decide_eq_true (by kernel_rfl)) k3 bel lt3) (trodAll_cons_mk (Below.trod laidOut (by kernel_rfl) (of_decide_eq_true (by kernel_rfl)) k4 bel lt4) (trodAll_mk0)))))), rfl, bel.frame _, fun h => by cases h⟩

theorem over : Rows.kindTypesUptoRow.holds Tryz.pinned (Rows.OpenSpec.upto Rows.kindTypesSpec) :=
  OpenClaim.holds_of_cond 4 Tryz.f4 rfl rfl rfl rfl rfl rfl rfl ⟨rfl, rfl, rfl, rfl, rfl⟩ rfl rfl rfl rfl rfl (by kernel_rfl) Tryz.func4 (by kernel_rfl)
    (of_decide_eq_true (by kernel_rfl)) (by unfold Func.isWrapper; first | (rw [if_pos (by decide +kernel)]; kernel_rfl) | (rw [if_neg (by decide +kernel)]; exact ⟨rfl, rfl⟩))
    (fun os started H enc _ F => by rw [OpenClaim.pre_eq_preRow]; exact lifted os started H enc F)

theorem proved : Rows.KindTypesUptoSaid := over
#print axioms proved
end Go.Proofs.YtkdhhcidpklgoaaGreatDoor.kindTypesDone
