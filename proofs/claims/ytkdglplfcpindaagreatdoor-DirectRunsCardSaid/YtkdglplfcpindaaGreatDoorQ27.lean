import Derived.Test.YtkdglplfcpindaaGreatDoorQ26
import Derived.Deep.RegionWith
set_option maxRecDepth 100000
namespace Go.Proofs.YtkdglplfcpindaaGreatDoor
open Go.RowKit
structure Shp where
  a : Bool
  b : Bool
  c : Bool
  m : Int
  k : Int
def shp0 : Shp := ⟨false, false, false, 0, 0⟩
abbrev hV (s : Shp) : Value := .agg #[.bool s.a, .bool s.b, .bool s.c, .int .i64 s.m, .int .i64 s.k]
def xtorRef (P : Pg) (ty n : Int) : Xtor := (declAt P ty).xtors.getD n.toNat noXtor
def shapeR (P : Pg) (op n ty : Int) : Shp × Bool :=
  if op = 0 then (⟨true, false, false, 0, 0⟩, true)
  else if op = 1 then (⟨false, false, true, 0, 0⟩, true)
  else if op = 2 then (⟨false, false, true, 2, 0⟩, decide (0 <= n) && decide (n <= 6))
  else if op = 3 then (⟨false, false, false, 3, 0⟩, true)
  else if op = 4 then (if isDeclB P ty false && hasI P.decls ty n then (⟨false, true, true, (xtorRef P ty n).args.length, 0⟩, true) else (shp0, false))
  else if op = 5 then (if isDeclB P ty false then (⟨false, true, false, 1, (declAt P ty).xtors.length⟩, true) else (shp0, false))
  else if op = 6 then (if isDeclB P ty true && hasI P.decls ty n then (⟨false, true, true, 1 + prodC (xtorRef P ty n).args, 0⟩, true) else (shp0, false))
  else if op = 7 then (if isDeclB P ty true then (⟨false, true, false, 0, (declAt P ty).xtors.length⟩, true) else (shp0, false))
  else if op = 8 then (⟨true, true, false, 2, 0⟩, true)
  else if op = 9 then (if isIdxB n P.funs.length then (⟨false, false, true, (P.funs.getD n.toNat noFn).ps.length, 0⟩, true) else (shp0, false))
  else if op = 10 then (⟨false, false, false, 2, 0⟩, true)
  else if op = 11 ∨ op = 12 then (⟨true, true, false, 1, 0⟩, true)
  else (shp0, false)
theorem isDecl_range {P : Pg} {ty : Int} {co : Bool} (h : isDeclB P ty co = true) : ∃ u : Nat, ty = u + 1 /\ u < P.decls.length := by
  unfold isDeclB at h
  simp only [Bool.and_eq_true, decide_eq_true_eq] at h
  exact ⟨(ty - 1).toNat, by omega, by omega⟩
theorem box5_set {w : World} {r T : Nat} {a b c d e : Value} (h : w.heap[r]? = some (.cells #[a, b, c, d, e] T (0, 0))) (a' b' c' d' e' : Value) :
    (((((w.setCell ⟨r, 0, none⟩ a').setCell ⟨r, 1, none⟩ b').setCell ⟨r, 2, none⟩ c').setCell ⟨r, 3, none⟩ d').setCell ⟨r, 4, none⟩ e').heap[r]? = some (.cells #[a', b', c', d', e'] T (0, 0)) := by
  simp [World.setCell, Array.getElem?_modify, h]
theorem al3_at (w : World) (l1 l2 l3 : Array Value) (T1 T2 T3 : Nat) : (((w.alloc (.cells l1 T1)).alloc (.cells l2 T2)).alloc (.cells l3 T3)).heap[w.heap.size]? = some (.cells l1 T1 (0, 0)) ∧
    (((w.alloc (.cells l1 T1)).alloc (.cells l2 T2)).alloc (.cells l3 T3)).heap[w.heap.size + 1]? = some (.cells l2 T2 (0, 0)) /\ (((w.alloc (.cells l1 T1)).alloc (.cells l2 T2)).alloc (.cells l3 T3)).heap[w.heap.size + 1 + 1]? = some (.cells l3 T3 (0, 0)) := by
  have h1 := hNw w (.cells l1 T1)
  have h2 := hNw (w.alloc (.cells l1 T1)) (.cells l2 T2)
  have h3 := hNw ((w.alloc (.cells l1 T1)).alloc (.cells l2 T2)) (.cells l3 T3)
  rw [World.size_alloc] at h2
  rw [World.size_alloc, World.size_alloc] at h3
  exact ⟨((Ext.al2 _ _ _).block _ (hLt h1)).trans h1, ((Ext.al _ _).block _ (hLt h2)).trans h2, h3⟩
set_option maxHeartbeats 4000000 in
theorem shapeOf_any (P : Pg) (vd vf : Value) (k : Nat) (t : Tm) (va vc : Value) (w : World) (hd : RDecls w vd P.decls) (hf : RFns w vf P.funs) (ht : RT w k t va vc) (hv : validB P.decls = true) :
    Calls Tryz.prog 116 #[pV vd vf, tV t va vc] w fun e w' => e = .returned (.tuple #[hV (shapeR P t.op t.n t.ty).1, .bool (shapeR P t.op t.n t.ty).2]) /\ Ext w w' := by
  have HD := LH hd; have HF := LH hf
  obtain ⟨Ad, cd, rfl, hcd, hmd⟩ := hd.form
  obtain ⟨Af, cf, rfl, hcf, hmf⟩ := hf.form
  obtain ⟨_, ⟨Aa, ca, rfl, -, -⟩, ⟨Bb, cb, rfl, -, -⟩⟩ := ht.form
  have HVB := LH hv
  clear hd hf ht hv
  unfold maxLen at hmd hmf
  obtain ⟨op, n, nm, ty, al', cl'⟩ := t
  simp only [tV, Tm.op, Tm.n, Tm.nm, Tm.ty, Tm.args, Tm.cls] at *
  generalize al'.length = la at *
  generalize cl'.length = lc at *
  clear al' cl'
  have HR : Hid (shapeR P op n ty = shapeR P op n ty) := rfl
  generalize hrr : shapeR P op n ty = rr at *
  clear HR
  by_cases h0 : op = 0
  . subst h0
    have HR : Hid (rr = (⟨true, false, false, 0, 0⟩, true)) := hrr.symm
    clear hrr
    go_enter Tryz.func116, Tryz.ntmps116
    go_wp2
    first | go_ret2 | go_ret | (unfold bodyPost; simp [results, go_sem])
    refine ⟨?_, Ext.al3 _ _ _ _⟩
    rw [HR.out]; simp
  by_cases h1 : op = 1
  . subst h1
    have HR : Hid (rr = (⟨false, false, true, 0, 0⟩, true)) := hrr.symm
    clear hrr
    go_enter Tryz.func116, Tryz.ntmps116
    go_wp2
    first | go_ret2 | go_ret | (unfold bodyPost; simp [results, go_sem])
    refine ⟨?_, Ext.al3 _ _ _ _⟩
    rw [HR.out]; simp
  by_cases h2 : op = 2
  . subst h2
    have HR : Hid (rr = (⟨false, false, true, 2, 0⟩, decide (0 <= n) && decide (n <= 6))) := hrr.symm
    clear hrr
    rcases Int.lt_or_le n 0 with hn | hn
    rotate_left
    . go_enter Tryz.func116, Tryz.ntmps116
      go_wp2
      go_region
      all_goals
        go_wp2
        first | go_ret2 | go_ret | (unfold bodyPost; simp [results, go_sem])
        refine ⟨?_, (Ext.al3 _ _ _ _).drew⟩
        rw [HR.out, decide_eq_true hn]; simp
    . have hb : decide (0 <= n) = false := decide_eq_false (by omega)
      have hb2 : ¬ 0 <= n := by omega
      obtain ⟨m, rfl⟩ : ∃ m : Nat, n = Int.negSucc m := ⟨(-n - 1).toNat, by omega⟩
      go_enter Tryz.func116, Tryz.ntmps116
      go_wp2
      go_region
      all_goals
        go_wp2
        first | go_ret2 | go_ret | (unfold bodyPost; simp [results, go_sem])
        refine ⟨?_, (Ext.al3 _ _ _ _).drew⟩
        rw [HR.out, decide_eq_false (by omega)]; simp
  by_cases h3 : op = 3
  . subst h3
    have HR : Hid (rr = (⟨false, false, false, 3, 0⟩, true)) := hrr.symm
    clear hrr
    go_enter Tryz.func116, Tryz.ntmps116
    go_wp2
    first | go_ret2 | go_ret | (unfold bodyPost; simp [results, go_sem])
    refine ⟨?_, Ext.al3 _ _ _ _⟩
    rw [HR.out]; simp
  by_cases h4 : op = 4
  . subst h4
    have HR : Hid (rr = (if isDeclB P ty false && hasI P.decls ty n then (⟨false, true, true, (xtorRef P ty n).args.length, 0⟩, true) else (shp0, false))) := hrr.symm
    clear hrr
    cases hq : isDeclB P ty false
    . have HQ := LH hq
      have HX3 : Hid (Ext w (((w.alloc (.cells #[.slice Ad P.decls.length cd, .slice Af P.funs.length cf] 25)).alloc (.cells #[.int .i64 4, .int .i64 n, .string nm, .int .i64 ty, .slice Aa la ca, .slice Bb lc cb] 50)).alloc (.cells #[.bool false, .bool false, .bool false, .int .i64 0, .int .i64 0] 204))) := Ext.al3 _ _ _ _
      go_enter Tryz.func116, Tryz.ntmps116
      go_wp2_with fail
      (with_reducible refine (RData_any P _ ty _ (HD.out.below HX3.out)).mono ?_)
      rw [hq]
      rintro e wd ⟨rfl, rfl⟩
      clear hq
      go_wp2
      first | go_ret2 | go_ret | (unfold bodyPost; simp [results, go_sem])
      refine ⟨?_, HX3.out⟩
      rw [HR.out, HQ.out]; simp [shp0]
    . obtain ⟨u, rfl, hul⟩ := isDecl_range hq
      have HQ := LH hq
      have HX3 : Hid (Ext w (((w.alloc (.cells #[.slice Ad P.decls.length cd, .slice Af P.funs.length cf] 25)).alloc (.cells #[.int .i64 4, .int .i64 n, .string nm, .int .i64 (u + 1), .slice Aa la ca, .slice Bb lc cb] 50)).alloc (.cells #[.bool false, .bool false, .bool false, .int .i64 0, .int .i64 0] 204))) := Ext.al3 _ _ _ _
      have HUL := LH hul
      clear hul
      go_enter Tryz.func116, Tryz.ntmps116
      go_wp2_with fail
      (with_reducible refine (RData_any P _ (u + 1) _ (HD.out.below HX3.out)).mono ?_)
      rw [hq]
      rintro e wd ⟨rfl, rfl⟩
      clear hq
      cases hq2 : hasI P.decls (u + 1) n
      . have HQ2 := LH hq2
        go_wp2_with fail
        (with_reducible refine (RHas_any _ P.decls (u + 1) n _ (HD.out.below HX3.out)).mono ?_)
        rw [hq2]
        rintro e wd ⟨rfl, rfl⟩
        clear hq2
        go_wp2
        first | go_ret2 | go_ret | (unfold bodyPost; simp [results, go_sem])
        refine ⟨?_, HX3.out⟩
        rw [HR.out, HQ.out, HQ2.out]; simp [shp0]
      . have HQ2 := LH hq2
        obtain ⟨m, rfl⟩ : ∃ m : Nat, n = m := ⟨n.toNat, by
          have h0 : 0 <= n := by
            rcases Int.lt_or_le n 0 with h | h
            . rw [hasI_neg (by omega)] at hq2; cases hq2
            . exact h
          omega⟩
        have HML : Hid (m < (P.decls[u]'HUL.out).xtors.length) := by
          have h := hq2
          rw [hasI_in HUL.out (by omega), decide_eq_true_eq] at h
          show m < _
          omega
        go_wp2_with fail
        (with_reducible refine (RHas_any _ P.decls (u + 1) m _ (HD.out.below HX3.out)).mono ?_)
        rw [hq2]
        rintro e wd ⟨rfl, rfl⟩
        clear hq2
        have hul := HUL.out
        obtain ⟨b, o, vx, rfl, hbl, e0, e1, e2, hxt, -⟩ := HD.out.at_ hul
        have HXA : Hid (xtorRef P (u + 1) m = (P.decls[u]'hul).xtors[m]'HML.out) := by
          show _ = _
          unfold xtorRef
          rw [declAt_in hul]
          have h := HML.out
          simp [h]
        have hml := HML.out
        obtain ⟨Bx, bx, rfl, hbx, hmx⟩ := hxt.form
        obtain ⟨b2, o2, va2, rfl, hb2, f0, f1, hargs, -⟩ := hxt.at_ hml
        obtain ⟨Ar, cr, rfl, hcr, hmr⟩ := hargs.form
        have HARG := LH hargs
        generalize P.decls[u] = d at *
        generalize d.xtors[m] = x at *
        clear hargs hxt
        unfold maxLen at hmx hmr
        have e0 := HX3.out.keep e0
        have e1 := HX3.out.keep e1
        have e2 := HX3.out.keep e2
        have f0 := HX3.out.keep f0
        have f1 := HX3.out.keep f1
        go_wp2
        go_region
        all_goals
          go_wp2
          first | go_ret2 | go_ret | (unfold bodyPost; simp [results, go_sem])
          refine ⟨?_, (Ext.al3 _ _ _ _).drew⟩
          rw [HR.out, HQ.out, HQ2.out, HXA.out]; simp
  by_cases h5 : op = 5
  . subst h5
    have HR : Hid (rr = (if isDeclB P ty false then (⟨false, true, false, 1, (declAt P ty).xtors.length⟩, true) else (shp0, false))) := hrr.symm
    clear hrr
    cases hq : isDeclB P ty false
    . have HQ := LH hq
      have HX3 : Hid (Ext w (((w.alloc (.cells #[.slice Ad P.decls.length cd, .slice Af P.funs.length cf] 25)).alloc (.cells #[.int .i64 5, .int .i64 n, .string nm, .int .i64 ty, .slice Aa la ca, .slice Bb lc cb] 50)).alloc (.cells #[.bool false, .bool false, .bool false, .int .i64 0, .int .i64 0] 204))) := Ext.al3 _ _ _ _
      go_enter Tryz.func116, Tryz.ntmps116
      go_wp2_with fail
      (with_reducible refine (RData_any P _ ty _ (HD.out.below HX3.out)).mono ?_)
      rw [hq]
      rintro e wd ⟨rfl, rfl⟩
      clear hq
      go_wp2
      first | go_ret2 | go_ret | (unfold bodyPost; simp [results, go_sem])
      refine ⟨?_, HX3.out⟩
      rw [HR.out, HQ.out]; simp [shp0]
    . obtain ⟨u, rfl, hul⟩ := isDecl_range hq
      have HQ := LH hq
      have HX3 : Hid (Ext w (((w.alloc (.cells #[.slice Ad P.decls.length cd, .slice Af P.funs.length cf] 25)).alloc (.cells #[.int .i64 5, .int .i64 n, .string nm, .int .i64 (u + 1), .slice Aa la ca, .slice Bb lc cb] 50)).alloc (.cells #[.bool false, .bool false, .bool false, .int .i64 0, .int .i64 0] 204))) := Ext.al3 _ _ _ _
      have HUL := LH hul
      clear hul
      go_enter Tryz.func116, Tryz.ntmps116
      go_wp2_with fail
      (with_reducible refine (RData_any P _ (u + 1) _ (HD.out.below HX3.out)).mono ?_)
      rw [hq]
      rintro e wd ⟨rfl, rfl⟩
      clear hq
      have hul := HUL.out
      obtain ⟨b, o, vx, rfl, hbl, e0, e1, e2, hxt, -⟩ := HD.out.at_ hul
      have HXA : Hid (declAt P (u + 1) = P.decls[u]'hul) := declAt_in hul
      obtain ⟨Bx, bx, rfl, hbx, hmx⟩ := hxt.form
      generalize P.decls[u] = d at *
      clear hxt
      unfold maxLen at hmx
      have e0 := HX3.out.keep e0
      have e1 := HX3.out.keep e1
      have e2 := HX3.out.keep e2
      go_wp2
      first | go_ret2 | go_ret | (unfold bodyPost; simp [results, go_sem])
      refine ⟨?_, Ext.al3 _ _ _ _⟩
      rw [HR.out, HQ.out, HXA.out]; simp
  by_cases h7 : op = 7
  . subst h7
    have HR : Hid (rr = (if isDeclB P ty true then (⟨false, true, false, 0, (declAt P ty).xtors.length⟩, true) else (shp0, false))) := hrr.symm
    clear hrr
    cases hq : isDeclB P ty true
    . have HQ := LH hq
      have HX3 : Hid (Ext w (((w.alloc (.cells #[.slice Ad P.decls.length cd, .slice Af P.funs.length cf] 25)).alloc (.cells #[.int .i64 7, .int .i64 n, .string nm, .int .i64 ty, .slice Aa la ca, .slice Bb lc cb] 50)).alloc (.cells #[.bool false, .bool false, .bool false, .int .i64 0, .int .i64 0] 204))) := Ext.al3 _ _ _ _
      go_enter Tryz.func116, Tryz.ntmps116
      go_wp2_with fail
      (with_reducible refine (RCodata_any _ P.decls ty _ (HD.out.below HX3.out)).mono ?_)
      rw [codB_decl, hq]
      rintro e wd ⟨rfl, rfl⟩
      clear hq
      go_wp2
      first | go_ret2 | go_ret | (unfold bodyPost; simp [results, go_sem])
      refine ⟨?_, HX3.out⟩
      rw [HR.out, HQ.out]; simp [shp0]
    . obtain ⟨u, rfl, hul⟩ := isDecl_range hq
      have HQ := LH hq
      have HX3 : Hid (Ext w (((w.alloc (.cells #[.slice Ad P.decls.length cd, .slice Af P.funs.length cf] 25)).alloc (.cells #[.int .i64 7, .int .i64 n, .string nm, .int .i64 (u + 1), .slice Aa la ca, .slice Bb lc cb] 50)).alloc (.cells #[.bool false, .bool false, .bool false, .int .i64 0, .int .i64 0] 204))) := Ext.al3 _ _ _ _
      have HUL := LH hul
      clear hul
      go_enter Tryz.func116, Tryz.ntmps116
      go_wp2_with fail
      (with_reducible refine (RCodata_any _ P.decls (u + 1) _ (HD.out.below HX3.out)).mono ?_)
      rw [codB_decl, hq]
      rintro e wd ⟨rfl, rfl⟩
      clear hq
      have hul := HUL.out
      obtain ⟨b, o, vx, rfl, hbl, e0, e1, e2, hxt, -⟩ := HD.out.at_ hul
      have HXA : Hid (declAt P (u + 1) = P.decls[u]'hul) := declAt_in hul
      obtain ⟨Bx, bx, rfl, hbx, hmx⟩ := hxt.form
      generalize P.decls[u] = d at *
      clear hxt
      unfold maxLen at hmx
      have e0 := HX3.out.keep e0
      have e1 := HX3.out.keep e1
      have e2 := HX3.out.keep e2
      go_wp2
      first | go_ret2 | go_ret | (unfold bodyPost; simp [results, go_sem])
      refine ⟨?_, Ext.al3 _ _ _ _⟩
      rw [HR.out, HQ.out, HXA.out]; simp
  by_cases h6 : op = 6
  . subst h6
    have HR : Hid (rr = (if isDeclB P ty true && hasI P.decls ty n then (⟨false, true, true, 1 + prodC (xtorRef P ty n).args, 0⟩, true) else (shp0, false))) := hrr.symm
    clear hrr
    cases hq : isDeclB P ty true
    . have HQ := LH hq
      have HX3 : Hid (Ext w (((w.alloc (.cells #[.slice Ad P.decls.length cd, .slice Af P.funs.length cf] 25)).alloc (.cells #[.int .i64 6, .int .i64 n, .string nm, .int .i64 ty, .slice Aa la ca, .slice Bb lc cb] 50)).alloc (.cells #[.bool false, .bool false, .bool false, .int .i64 0, .int .i64 0] 204))) := Ext.al3 _ _ _ _
      go_enter Tryz.func116, Tryz.ntmps116
      go_wp2_with fail
      (with_reducible refine (RCodata_any _ P.decls ty _ (HD.out.below HX3.out)).mono ?_)
      rw [codB_decl, hq]
      rintro e wd ⟨rfl, rfl⟩
      clear hq
      go_wp2
      first | go_ret2 | go_ret | (unfold bodyPost; simp [results, go_sem])
      refine ⟨?_, HX3.out⟩
      rw [HR.out, HQ.out]; simp [shp0]
    . obtain ⟨u, rfl, hul⟩ := isDecl_range hq
      have HQ := LH hq
      have HX3 : Hid (Ext w (((w.alloc (.cells #[.slice Ad P.decls.length cd, .slice Af P.funs.length cf] 25)).alloc (.cells #[.int .i64 6, .int .i64 n, .string nm, .int .i64 (u + 1), .slice Aa la ca, .slice Bb lc cb] 50)).alloc (.cells #[.bool false, .bool false, .bool false, .int .i64 0, .int .i64 0] 204))) := Ext.al3 _ _ _ _
      have HUL := LH hul
      clear hul
      go_enter Tryz.func116, Tryz.ntmps116
      go_wp2_with fail
      (with_reducible refine (RCodata_any _ P.decls (u + 1) _ (HD.out.below HX3.out)).mono ?_)
      rw [codB_decl, hq]
      rintro e wd ⟨rfl, rfl⟩
      clear hq
      cases hq2 : hasI P.decls (u + 1) n
      . have HQ2 := LH hq2
        go_wp2_with fail
        (with_reducible refine (RHas_any _ P.decls (u + 1) n _ (HD.out.below HX3.out)).mono ?_)
        rw [hq2]
        rintro e wd ⟨rfl, rfl⟩
        clear hq2
        go_wp2
        first | go_ret2 | go_ret | (unfold bodyPost; simp [results, go_sem])
        refine ⟨?_, HX3.out⟩
        rw [HR.out, HQ.out, HQ2.out]; simp [shp0]
      . have HQ2 := LH hq2
        obtain ⟨m, rfl⟩ : ∃ m : Nat, n = m := ⟨n.toNat, by
          have h0 : 0 <= n := by
            rcases Int.lt_or_le n 0 with h | h
            . rw [hasI_neg (by omega)] at hq2; cases hq2
            . exact h
          omega⟩
        have HML : Hid (m < (P.decls[u]'HUL.out).xtors.length) := by
          have h := hq2
          rw [hasI_in HUL.out (by omega), decide_eq_true_eq] at h
          show m < _
          omega
        go_wp2_with fail
        (with_reducible refine (RHas_any _ P.decls (u + 1) m _ (HD.out.below HX3.out)).mono ?_)
        rw [hq2]
        rintro e wd ⟨rfl, rfl⟩
        clear hq2
        have hul := HUL.out
        obtain ⟨b, o, vx, rfl, hbl, e0, e1, e2, hxt, -⟩ := HD.out.at_ hul
        have HXA : Hid (xtorRef P (u + 1) m = (P.decls[u]'hul).xtors[m]'HML.out) := by
          show _ = _
          unfold xtorRef
          rw [declAt_in hul]
          have h := HML.out
          simp [h]
        have hml := HML.out
        have HAL : Hid (((P.decls[u]'hul).xtors[m]'hml).args.length <= 1000) := Nat.le_trans ((Fine.of HVB.out).args _ (List.getElem_mem _) _ (List.getElem_mem _)) (by decide)
        obtain ⟨Bx, bx, rfl, hbx, hmx⟩ := hxt.form
        obtain ⟨b2, o2, va2, rfl, hb2, f0, f1, hargs, -⟩ := hxt.at_ hml
        obtain ⟨Ar, cr, rfl, hcr, hmr⟩ := hargs.form
        have HARG := LH hargs
        generalize P.decls[u] = d at *
        generalize d.xtors[m] = x at *
        clear hargs hxt
        unfold maxLen at hmx hmr
        have e0 := HX3.out.keep e0
        have e1 := HX3.out.keep e1
        have e2 := HX3.out.keep e2
        have f0 := HX3.out.keep f0
        have f1 := HX3.out.keep f1
        have HN9 : Hid (x.args.length <= 1000) := HAL.out
        have HP9 : Hid (prodC x.args <= 1000) := by
          show _ <= _
          have := prodC_le x.args x.args.length
          rw [List.take_length] at this
          have := HN9.out
          omega
        obtain ⟨hb1, hb2', hb3⟩ := al3_at w #[.slice (some ⟨b, o, none⟩) P.decls.length cd, .slice Af P.funs.length cf] #[.int .i64 6, .int .i64 m, .string nm, .int .i64 (u + 1), .slice Aa la ca, .slice Bb lc cb] #[.bool false, .bool false, .bool false, .int .i64 0, .int .i64 0] 25 50 204
        go_wp2
        generalize World.alloc (World.alloc (World.alloc w _) _) _ = w3 at *
        have HS3 := LH hb3
        have ew : IntKind.wrap .i64 (u : Int) = u := by have := HUL.out; simp (disch := omega) only [Go.IntWalk.i64_in]
        have em : IntKind.wrap .i64 (m : Int) = m := by have := HML.out; simp (disch := omega) only [Go.IntWalk.i64_in]
        have ep : IntKind.wrap .i64 (1 + (prodC x.args : Int)) = 1 + prodC x.args := by have := HP9.out; simp (disch := omega) only [Go.IntWalk.i64_in]
        have hui : (u : Int) < P.decls.length := by have := HUL.out; omega
        have hmi : (m : Int) < d.xtors.length := by omega
        have q0 := cA hb1 0
        have q1 := cA hb1 1
        obtain ⟨z0, z1, z2, z3, z4, z5⟩ := cells6 hb2'
        clear hb1 hb2' hb3
        go_region_with (go_at_call 117; (with_reducible refine (Producers_any x.name _ x.args _ (HARG.out.below HX3.out.drew) HN9.out).mono ?_); rintro e w9 ⟨⟨A9, c9, rfl⟩, hb9⟩; have HX9 : Hid (Ext w3 w9) := Ext.tr (b := w3.drew) (Ext.rf w3).drew hb9; have hs9 := (HX9.out.block _ (hLt HS3.out)).trans HS3.out; have s0 := cA hs9 0; have s1 := cA hs9 1; have s2 := cA hs9 2; have s3 := cA hs9 3; have s4 := cA hs9 4; have i0 := fA hs9 0; have i1 := fA hs9 1; have i2 := fA hs9 2; have i3 := fA hs9 3; have i4 := fA hs9 4; have HS9 := LH hs9; clear hb9 hs9 q0 q1 z0 z1 z2 z3 z4 z5 e0 e1 e2 f0 f1)
        all_goals
          have HS10 := LH (box5_set HS9.out (.bool false) (.bool true) (.bool true) (.int .i64 (1 + prodC x.args)) (.int .i64 0))
          have HX10 : Hid (Ext w (((((w9.setCell ⟨w.heap.size + 1 + 1, 0, none⟩ (.bool false)).setCell ⟨w.heap.size + 1 + 1, 1, none⟩ (.bool true)).setCell ⟨w.heap.size + 1 + 1, 2, none⟩ (.bool true)).setCell ⟨w.heap.size + 1 + 1, 3, none⟩ (.int .i64 (1 + prodC x.args))).setCell ⟨w.heap.size + 1 + 1, 4, none⟩ (.int .i64 0))) :=
            Below.setNew (Below.setNew (Below.setNew (Below.setNew (Below.setNew (HX3.out.tr HX9.out) (by omega) _) (by omega) _) (by omega) _) (by omega) _) (by omega) _
          clear s0 s1 s2 s3 s4 i0 i1 i2 i3 i4
          generalize World.setCell (World.setCell (World.setCell (World.setCell (World.setCell w9 _ _) _ _) _ _) _ _) _ _ = w10 at *
          have r0 := cA HS10.out 0
          have r1 := cA HS10.out 1
          have r2 := cA HS10.out 2
          have r3 := cA HS10.out 3
          have r4 := cA HS10.out 4
          go_wp2
          unfold bodyPost
          simp [results, go_sem, r0, r1, r2, r3, r4]
          refine ⟨?_, HX10.out⟩
          rw [HR.out, HQ.out, HQ2.out, HXA.out]; simp
  by_cases h8 : op = 8
  . subst h8
    have HR : Hid (rr = (⟨true, true, false, 2, 0⟩, true)) := hrr.symm
    clear hrr
    go_enter Tryz.func116, Tryz.ntmps116
    go_wp2
    first | go_ret2 | go_ret | (unfold bodyPost; simp [results, go_sem])
    refine ⟨?_, Ext.al3 _ _ _ _⟩
    rw [HR.out]; simp
  by_cases h9 : op = 9
  . subst h9
    have HR : Hid (rr = (if isIdxB n P.funs.length then (⟨false, false, true, (P.funs.getD n.toNat noFn).ps.length, 0⟩, true) else (shp0, false))) := hrr.symm
    clear hrr
    rcases Int.lt_or_le n 0 with hn | hn
    . go_enter Tryz.func116, Tryz.ntmps116
      go_wp2
      first | go_ret2 | go_ret | (unfold bodyPost; simp [results, go_sem])
      refine ⟨?_, Ext.al3 _ _ _ _⟩
      rw [HR.out, show isIdxB n P.funs.length = false by unfold isIdxB; rw [decide_eq_false (by omega), Bool.false_and]]; simp [shp0]
    . by_cases hlt : n < P.funs.length
      . obtain ⟨m, rfl⟩ : ∃ m : Nat, n = m := ⟨n.toNat, by omega⟩
        have hml : m < P.funs.length := by omega
        obtain ⟨b, o, vp, xa, xc, kf, rfl, hbl, y0, y1, y2, yc, y3, y4, y5⟩ := HF.out.at_ hml
        have HG : Hid (P.funs.getD (m : Int).toNat noFn = P.funs[m]) := by show _ = _; simp [hml]
        obtain ⟨Ap, cp, rfl, hcp, hmp⟩ := y4.form
        unfold maxLen at hmp
        generalize P.funs[m] = f at *
        clear y4 y5 yc y2 y3
        have HX3 : Hid (Ext w (((w.alloc (.cells #[.slice Ad P.decls.length cd, .slice (some ⟨b, o, none⟩) P.funs.length cf] 25)).alloc (.cells #[.int .i64 9, .int .i64 m, .string nm, .int .i64 ty, .slice Aa la ca, .slice Bb lc cb] 50)).alloc (.cells #[.bool false, .bool false, .bool false, .int .i64 0, .int .i64 0] 204))) := Ext.al3 _ _ _ _
        have y0 := HX3.out.keep y0
        have y1 := HX3.out.keep y1
        go_enter Tryz.func116, Tryz.ntmps116
        go_wp2
        first | go_ret2 | go_ret | (unfold bodyPost; simp [results, go_sem])
        refine ⟨?_, Ext.al3 _ _ _ _⟩
        rw [HR.out, show isIdxB m P.funs.length = true by unfold isIdxB; rw [decide_eq_true (by omega), decide_eq_true (by omega)]; rfl, HG.out]; simp
      . go_enter Tryz.func116, Tryz.ntmps116
        go_wp2
        first | go_ret2 | go_ret | (unfold bodyPost; simp [results, go_sem])
        refine ⟨?_, Ext.al3 _ _ _ _⟩
        rw [HR.out, show isIdxB n P.funs.length = false by unfold isIdxB; rw [decide_eq_false (by omega : ¬ n < _), Bool.and_false]]; simp [shp0]
  by_cases h10 : op = 10
  . subst h10
    have HR : Hid (rr = (⟨false, false, false, 2, 0⟩, true)) := hrr.symm
    clear hrr
    go_enter Tryz.func116, Tryz.ntmps116
    go_wp2
    first | go_ret2 | go_ret | (unfold bodyPost; simp [results, go_sem])
    refine ⟨?_, Ext.al3 _ _ _ _⟩
    rw [HR.out]; simp
  by_cases h11 : op = 11
  . subst h11
    have HR : Hid (rr = (⟨true, true, false, 1, 0⟩, true)) := hrr.symm
    clear hrr
    go_enter Tryz.func116, Tryz.ntmps116
    go_wp2
    first | go_ret2 | go_ret | (unfold bodyPost; simp [results, go_sem])
    refine ⟨?_, Ext.al3 _ _ _ _⟩
    rw [HR.out]; simp
  by_cases h12 : op = 12
  . subst h12
    have HR : Hid (rr = (⟨true, true, false, 1, 0⟩, true)) := hrr.symm
    clear hrr
    go_enter Tryz.func116, Tryz.ntmps116
    go_wp2
    first | go_ret2 | go_ret | (unfold bodyPost; simp [results, go_sem])
    refine ⟨?_, Ext.al3 _ _ _ _⟩
    rw [HR.out]; simp
  have HR : Hid (rr = (shp0, false)) := by show _ = _; rw [← hrr]; unfold shapeR; rw [if_neg h0, if_neg h1, if_neg h2, if_neg h3, if_neg h4, if_neg h5, if_neg h6, if_neg h7, if_neg h8, if_neg h9, if_neg h10, if_neg (by omega)]
  clear hrr
  have g0 : (op == 0) = false := by simpa using h0
  have g1 : (op == 1) = false := by simpa using h1
  have g2 : (op == 2) = false := by simpa using h2
  have g3 : (op == 3) = false := by simpa using h3
  have g4 : (op == 4) = false := by simpa using h4
  have g5 : (op == 5) = false := by simpa using h5
  have g6 : (op == 6) = false := by simpa using h6
  have g7 : (op == 7) = false := by simpa using h7
  have g8 : (op == 8) = false := by simpa using h8
  have g9 : (op == 9) = false := by simpa using h9
  have g10 : (op == 10) = false := by simpa using h10
  have g11 : (op == 11) = false := by simpa using h11
  have g12 : (op == 12) = false := by simpa using h12
  clear h0 h1 h2 h3 h4 h5 h6 h7 h8 h9 h10 h11 h12
  go_enter Tryz.func116, Tryz.ntmps116
  go_wp2
  first | go_ret2 | go_ret | (unfold bodyPost; simp [results, go_sem])
  refine ⟨?_, Ext.al3 _ _ _ _⟩
  rw [HR.out]; simp [shp0]
end Go.Proofs.YtkdglplfcpindaaGreatDoor
