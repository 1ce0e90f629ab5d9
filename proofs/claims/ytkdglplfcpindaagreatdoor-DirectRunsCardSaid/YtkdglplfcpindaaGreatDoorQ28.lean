import Derived.Test.YtkdglplfcpindaaGreatDoorQ27
import Derived.Deep.CutRange
import Derived.Deep.DeepCutAuto
set_option maxRecDepth 100000
namespace Go.Proofs.YtkdglplfcpindaaGreatDoor
open Go.RowKit
def clsOK : List Xtor -> List (List Str × Tm) -> Bool
  | _, [] => true
  | xs, c :: r => (distB c.1 && decide ((c.1.length : Int) = prodC (xs.headD noXtor).args)) && clsOK xs.tail r
def tailR (V L : Scp) (t : Tm) : Bool := if t.op = 0 then V t.nm else if t.op = 12 then L t.nm else if t.op = 8 ∨ t.op = 11 then nameB t.nm else true
def fitR (s : Shp) (ok : Bool) (t : Tm) : Bool := ok && (s.a || emptyB t.nm) && (s.b || decide (t.ty = 0)) && (s.c || decide (t.n = 0)) && decide ((t.args.length : Int) = s.m) && decide ((t.cls.length : Int) = s.k)
def rangeR (P : Pg) (b : Bool) (ty : Int) : Bool := b && (decide (ty < 0) || decide ((P.decls.length : Int) < ty))
def nodeR (P : Pg) (V L : Scp) (t : Tm) : Bool :=
  fitR (shapeR P t.op t.n t.ty).1 (shapeR P t.op t.n t.ty).2 t && !rangeR P (shapeR P t.op t.n t.ty).1.b t.ty && clsOK (declAt P t.ty).xtors t.cls && tailR V L t
theorem shape_cls {P : Pg} {op n ty : Int} (h2 : (shapeR P op n ty).2 = true) (hk : 0 < (shapeR P op n ty).1.k) : ∃ u : Nat, ty = u + 1 /\ u < P.decls.length /\ (shapeR P op n ty).1.k = (declAt P ty).xtors.length /\ (shapeR P op n ty).1.b = true /\ (op = 5 ∨ op = 7) := by
  by_cases h5 : op = 5
  . subst h5
    have e : shapeR P 5 n ty = if isDeclB P ty false then (⟨false, true, false, 1, (declAt P ty).xtors.length⟩, true) else (shp0, false) := rfl
    cases hq : isDeclB P ty false
    . rw [e, hq] at h2; cases h2
    . obtain ⟨u, h, h'⟩ := isDecl_range hq
      exact ⟨u, h, h', by rw [e, hq]; rfl, by rw [e, hq]; rfl, by omega⟩
  by_cases h7 : op = 7
  . subst h7
    have e : shapeR P 7 n ty = if isDeclB P ty true then (⟨false, true, false, 0, (declAt P ty).xtors.length⟩, true) else (shp0, false) := rfl
    cases hq : isDeclB P ty true
    . rw [e, hq] at h2; cases h2
    . obtain ⟨u, h, h'⟩ := isDecl_range hq
      exact ⟨u, h, h', by rw [e, hq]; rfl, by rw [e, hq]; rfl, by omega⟩
  exfalso
  have e : (shapeR P op n ty).1.k = 0 := by
    unfold shapeR
    rw [if_neg h5, if_neg h7]
    repeat' split
    all_goals rfl
  omega
theorem box6c (w : World) (o1 : Obj) (a b c d e f : Value) :
    ((w.alloc o1).alloc (.cells #[a, b, c, d, e, f] 50)).heap[w.heap.size + 1]? = some (.cells #[a, b, c, d, e, f] 50 (0, 0)) := by
  have := hNw (w.alloc o1) (.cells #[a, b, c, d, e, f] 50)
  simpa using this
set_option maxHeartbeats 4000000 in
theorem node_any (P : Pg) (vd vf v1 v2 : Value) (l1 l2 : List Str) (k : Nat) (t : Tm) (va vc : Value) (w : World) (hd : RDecls w vd P.decls) (hf : RFns w vf P.funs) (h1 : RStrs w v1 l1) (h2 : RStrs w v2 l2) (ht : RT w (k + 1) t va vc) (hv : validB P.decls = true) :
    Calls Tryz.prog 80 #[pV vd vf, v1, v2, tV t va vc] w fun e w' => e = .returned (.bool (nodeR P (hasS l1) (hasS l2) t)) /\ Ext w w' := by
  have HD := LH hd; have HF := LH hf; have H1 := LH h1; have H2 := LH h2; have HT := LH ht; have HVB := LH hv
  obtain ⟨Ad, cd, rfl, hcd, hmd⟩ := hd.form
  obtain ⟨Af, cf, rfl, hcf, hmf⟩ := hf.form
  obtain ⟨⟨hnm, -⟩, ⟨Aa, ca, rfl, hca, hma⟩, ⟨Bb, cb, rfl, hcb, hmb⟩⟩ := ht.form
  have HNM := LH hnm
  clear hd hf h1 h2 ht hv hnm
  unfold maxLen at hmd hmf hma hmb
  have HR : Hid (nodeR P (hasS l1) (hasS l2) t = (fitR (shapeR P t.op t.n t.ty).1 (shapeR P t.op t.n t.ty).2 t && !rangeR P (shapeR P t.op t.n t.ty).1.b t.ty && clsOK (declAt P t.ty).xtors t.cls && tailR (hasS l1) (hasS l2) t)) := rfl
  have HC : Hid ((shapeR P t.op t.n t.ty).2 = true -> 0 < (shapeR P t.op t.n t.ty).1.k -> ∃ u : Nat, t.ty = u + 1 /\ u < P.decls.length /\ (shapeR P t.op t.n t.ty).1.k = (declAt P t.ty).xtors.length /\ (shapeR P t.op t.n t.ty).1.b = true /\ (t.op = 5 ∨ t.op = 7)) := shape_cls
  generalize nodeR P (hasS l1) (hasS l2) t = rr at *
  have HX2 := LH (Ext.al2 w (.cells #[.slice Ad P.decls.length cd, .slice Af P.funs.length cf] 25) (.cells #[.int .i64 t.op, .int .i64 t.n, .string t.nm, .int .i64 t.ty, .slice Aa t.args.length ca, .slice Bb t.cls.length cb] 50))
  have hbp0 := hNw w (.cells #[.slice Ad P.decls.length cd, .slice Af P.funs.length cf] 25)
  have HBP := LH (((Ext.al (w.alloc (.cells #[.slice Ad P.decls.length cd, .slice Af P.funs.length cf] 25)) (.cells #[.int .i64 t.op, .int .i64 t.n, .string t.nm, .int .i64 t.ty, .slice Aa t.args.length ca, .slice Bb t.cls.length cb] 50)).block _ (hLt hbp0)).trans hbp0)
  have HBT := LH (box6c w (.cells #[.slice Ad P.decls.length cd, .slice Af P.funs.length cf] 25) (.int .i64 t.op) (.int .i64 t.n) (.string t.nm) (.int .i64 t.ty) (.slice Aa t.args.length ca) (.slice Bb t.cls.length cb))
  clear hbp0
  have p0 := cA HBP.out 0
  have p1 := cA HBP.out 1
  go_enter Tryz.func80, Tryz.ntmps80
  go_wp2_with fail
  generalize World.alloc (World.alloc w _) _ = w2 at *
  clear p0 p1
  (with_reducible refine (shapeOf_any P _ _ (k + 1) t _ _ w2 (HD.out.below HX2.out) (HF.out.below HX2.out) (HT.out.below HX2.out) HVB.out).mono ?_)
  rintro e w3 ⟨rfl, hb⟩
  generalize shapeR P t.op t.n t.ty = sh at *
  obtain ⟨⟨a, b, c, m, kk⟩, ok⟩ := sh
  dsimp only at *
  have HX3 : Hid (Ext w (w3.alloc (.cells #[.bool a, .bool b, .bool c, .int .i64 m, .int .i64 kk] 204))) := (HX2.out.tr hb).tr (Ext.al _ _)
  have HBP3 := LH (((hb.tr (Ext.al w3 (.cells #[.bool a, .bool b, .bool c, .int .i64 m, .int .i64 kk] 204))).block _ (hLt HBP.out)).trans HBP.out)
  have HBT3 := LH (((hb.tr (Ext.al w3 (.cells #[.bool a, .bool b, .bool c, .int .i64 m, .int .i64 kk] 204))).block _ (hLt HBT.out)).trans HBT.out)
  have HBS3 := LH (hNw w3 (.cells #[.bool a, .bool b, .bool c, .int .i64 m, .int .i64 kk] 204))
  clear hb HBP HBT HX2
  have p0 := cA HBP3.out 0
  have p1 := cA HBP3.out 1
  obtain ⟨t0, t1, t2, t3, t4, t5⟩ := cells6 HBT3.out
  go_upto_region 2 with fail
  generalize hw5 : w3.alloc _ = w5 at *
  clear hw5
  have s0 := cA HBS3.out 0
  have s1 := cA HBS3.out 1
  have s2 := cA HBS3.out 2
  have s3 := cA HBS3.out 3
  have s4 := cA HBS3.out 4
  obtain ⟨nok, hnok⟩ : ∃ q : Bool, q = fitR ⟨a, b, c, m, kk⟩ ok t := ⟨_, rfl⟩
  have HOK : Hid (nok = (ok && (a || emptyB t.nm) && (b || decide (t.ty = 0)) && (c || decide (t.n = 0)) && decide ((t.args.length : Int) = m) && decide ((t.cls.length : Int) = kk))) := hnok
  have HFIT : Hid (fitR ⟨a, b, c, m, kk⟩ ok t = nok) := hnok.symm
  clear hnok
  go_cut [10, 66] from 13 to 66 (fun v10 v W => v10 = .bool ok /\ v = .bool (!nok) /\ W = w5)
  case first =>
    go_wp2_with fail
    all_goals go_meet
    all_goals
      refine ⟨by simp [*], ?_, rfl⟩
      rw [HOK.out]
      simp [emptyB, *]
      try (apply Bool.eq_iff_iff.2; simp)
  case rest =>
    obtain ⟨rfl, rfl, rfl⟩ := hcut
    cases nok
    . go_wp2
      go_ret
      exact ⟨rB (by rw [HR.out, HFIT.out]; rfl), HX3.out⟩
    . have hh := HOK.out.symm
      simp only [Bool.and_eq_true, decide_eq_true_eq] at hh
      obtain ⟨⟨⟨⟨⟨hok, -⟩, -⟩, -⟩, -⟩, hkk⟩ := hh
      subst hok
      have HCC : Hid (0 < kk -> ∃ u : Nat, t.ty = u + 1 /\ u < P.decls.length /\ kk = (declAt P t.ty).xtors.length /\ b = true /\ (t.op = 5 ∨ t.op = 7)) := HC.out rfl
      clear HC HOK
      by_cases hk : 0 < kk
      . obtain ⟨u, hty, hul, hkx, rfl, hop⟩ := HCC.out hk
        have HDA : Hid (declAt P t.ty = P.decls[u]) := by show _ = _; rw [hty, declAt_in hul]
        have HQ : Hid (rangeR P true t.ty = false) := by
          show _ = _
          unfold rangeR
          rw [decide_eq_false (by omega), decide_eq_false (by omega)]; rfl
        have HTL : Hid (tailR (hasS l1) (hasS l2) t = true) := by
          show _ = _
          unfold tailR
          rw [if_neg (by omega), if_neg (by omega), if_neg (by omega)]
        rw [HDA.out] at hkx
        have hlen : t.cls.length = (P.decls[u]).xtors.length := by omega
        have HRR : Hid (rr = clsOK (P.decls[u]).xtors t.cls) := by show _ = _; rw [HR.out, HFIT.out, HQ.out, HTL.out, HDA.out]; simp
        have HAL : Hid (∀ x ∈ (P.decls[u]).xtors, x.args.length <= 1000) := fun x hx => Nat.le_trans ((Fine.of HVB.out).args _ (List.getElem_mem _) _ hx) (by decide)
        clear HR HFIT HQ HTL HDA HCC
        obtain ⟨bd, od, vx, rfl, hbl, e0, e1, e2, hxt, -⟩ := HD.out.at_ hul
        obtain ⟨Bx, bx, rfl, hbx, hmx⟩ := hxt.form
        unfold maxLen at hmx
        have HXT := LH hxt
        have g0 : (t.op == 0) = false := by rcases hop with h | h <;> simp [h]
        have g12 : (t.op == 12) = false := by rcases hop with h | h <;> simp [h]
        have g8 : (t.op == 8) = false := by rcases hop with h | h <;> simp [h]
        have g11 : (t.op == 11) = false := by rcases hop with h | h <;> simp [h]
        have HU := LH hul
        clear hxt hop hk hkk hkx
        generalize P.decls[u] = d at *
        have E2 := LH e2
        clear e0 e1 e2
        have hr1 : ¬ (u : Int) + 1 < 0 := by omega
        have hr2 : ¬ (P.decls.length : Int) < (u : Int) + 1 := by omega
        have hui : (u : Int) < P.decls.length := by omega
        go_wp2
        clear hr1 hr2 s0 s1 s2 s3 s4 p0 p1 t0 t1 t2 t3 t4 t5
        go_loopw [85] (fun i wr => ∃ j : Nat, j <= t.cls.length /\ i = .int .i64 j /\ clsOK d.xtors t.cls = clsOK (d.xtors.drop j) (t.cls.drop j) /\ Ext wc wr) (fun i _ => t.cls.length - (intOf i).toNat)
        case atStart => exact ⟨0, Nat.zero_le _, rfl, rfl, Ext.rf _⟩
        case round =>
          obtain ⟨j, hj, rfl, hcl, hb⟩ := hrel
          have HCL := LH hcl
          have HXR := LH hb
          clear hcl hb
          by_cases hlt : j < t.cls.length
          . have hjx : j < d.xtors.length := by omega
            obtain ⟨b', o', vn', xa', xc', rfl, hbl', yn', ys', y6, yt'⟩ := HT.out.clause hlt
            obtain ⟨b2, o2, va2, rfl, hb2, f0, f1, hargs, -⟩ := HXT.out.at_ hjx
            have HST : Hid (clsOK (d.xtors.drop j) (t.cls.drop j) = ((distB (t.cls[j]).1 && decide (((t.cls[j]).1.length : Int) = prodC (d.xtors[j]).args)) && clsOK (d.xtors.drop (j + 1)) (t.cls.drop (j + 1)))) := by
              show _ = _
              rw [List.drop_eq_getElem_cons hlt, List.drop_eq_getElem_cons hjx]; rfl
            have HAX : Hid ((d.xtors[j]).args.length <= 1000) := HAL.out _ (List.getElem_mem _)
            generalize t.cls[j] = cl at *
            obtain ⟨ns, y⟩ := cl
            dsimp only at *
            obtain ⟨-, ⟨Ax, cx, rfl, -, -⟩, ⟨Bx2, dx, rfl, -, -⟩⟩ := yt'.form
            obtain ⟨An, cn, rfl, -, -⟩ := ys'.form
            obtain ⟨Ar, cr, rfl, hcr, hmr⟩ := hargs.form
            generalize d.xtors[j] = x at *
            have hX := HX3.out.tr HXR.out
            have HARG := LH (RArgs.below hargs hX)
            have HNS := LH (ys'.below hX)
            have y6 := y6.below hX
            have c0 := hX.keep yn'
            have c1 := y6.c0
            have c2 := y6.c1
            have c3 := y6.c2
            have c4 := y6.c3
            have c5 := y6.c4
            have c6 := y6.c5
            have f0 := hX.keep f0
            have f1 := hX.keep f1
            have F0 := LH f0
            have F1 := LH f1
            have E2R := LH (hX.keep E2.out)
            clear y6 yt' yn' ys' hargs f0 f1
            have HE8 := LH (Ext.al wr (.cells #[.slice An ns.length cn, .int .i64 y.op, .int .i64 y.n, .string y.nm, .int .i64 y.ty, .slice Ax y.args.length cx, .slice Bx2 y.cls.length dx] 123))
            have HN8 := LH (hNw wr (.cells #[.slice An ns.length cn, .int .i64 y.op, .int .i64 y.n, .string y.nm, .int .i64 y.ty, .slice Ax y.args.length cx, .slice Bx2 y.cls.length dx] 123))
            have hP := (HXR.out.block _ (hLt HBP3.out)).trans HBP3.out
            have hTT := (HXR.out.block _ (hLt HBT3.out)).trans HBT3.out
            have HP8 := LH ((HE8.out.block _ (hLt hP)).trans hP)
            have HT8 := LH ((HE8.out.block _ (hLt hTT)).trans hTT)
            clear hP hTT hX
            generalize hqq : (distB ns && decide ((ns.length : Int) = prodC x.args)) = q at *
            have HQQ : Hid ((distB ns && decide ((ns.length : Int) = prodC x.args)) = q) := hqq
            clear hqq
            go_wp2
            generalize wr.alloc _ = w8 at *
            clear c0 c1 c2 c3 c4 c5 c6
            have q0 := cA HN8.out 0
            have p0 := cA HP8.out 0
            have p1 := cA HP8.out 1
            have t3 := cA HT8.out 3
            have e2 := HE8.out.keep E2R.out
            have f0 := HE8.out.keep F0.out
            have f1 := HE8.out.keep F1.out
            have ew : IntKind.wrap .i64 (u : Int) = u := by simp (disch := omega) only [Go.IntWalk.i64_in]
            have em : IntKind.wrap .i64 (j : Int) = j := by simp (disch := omega) only [Go.IntWalk.i64_in]
            have hmi : (j : Int) < d.xtors.length := by omega
            go_region_with (first
              | (go_at_call 117; (with_reducible refine (Producers_any x.name _ x.args _ (HARG.out.below (HE8.out.drew)) HAX.out).mono ?_); rintro e w9 ⟨⟨A9, c9, rfl⟩, hb9⟩; have HX9 : Hid (Ext w8 w9) := Ext.tr (b := w8.drew) (Ext.rf w8).drew hb9; clear hb9 q0 p0 p1 t3 e2 f0 f1; have q0 := HX9.out.keep (cA HN8.out 0))
              | (go_at_call 78; (with_reducible refine (names_any _ ns (prodC x.args) w9 ((HNS.out.below HE8.out).below HX9.out)).mono ?_); rintro e w10 ⟨rfl, hb10⟩; have HX10 : Hid (Ext wr w10) := HE8.out.tr (HX9.out.tr hb10); clear hb10 q0; rw [HQQ.out]))
            all_goals
              cases q
              . go_wp2
                go_ret
                exact ⟨rB (by rw [HRR.out, HCL.out, HST.out]; rfl), HX3.out.tr (HXR.out.tr HX10.out)⟩
              . have HXF : Hid (Ext wc w10) := HXR.out.tr HX10.out
                have HCF : Hid (clsOK d.xtors t.cls = clsOK (d.xtors.drop (j + 1)) (t.cls.drop (j + 1))) := by show _ = _; rw [HCL.out, HST.out]; rfl
                go_wp2
                exact ⟨⟨j + 1, by omega, by go_num, HCF.out, HXF.out⟩, by simp [intOf]; omega⟩
          . have HCF : Hid (rr = true) := by show _ = _; rw [HRR.out, HCL.out, List.drop_eq_nil_of_le (by omega : t.cls.length <= j)]; cases (d.xtors.drop j) <;> rfl
            have hT := (HXR.out.block _ (hLt HBT3.out)).trans HBT3.out
            have t0 := cA hT 0
            have t2 := cA hT 2
            clear hT
            go_wp2
            go_ret
            exact ⟨rB HCF.out.symm, HX3.out.tr HXR.out⟩
      . have hl0 : t.cls.length = 0 := by omega
        have HCN : Hid (clsOK (declAt P t.ty).xtors t.cls = true) := by rw [List.eq_nil_of_length_eq_zero hl0]; rfl
        have HLZ := LH hl0
        clear hk hkk HCC
        have HRG : Hid (rangeR P b t.ty = (b && (decide (t.ty < 0) || decide ((P.decls.length : Int) < t.ty)))) := rfl
        have hrg : (b = false ∨ b = true /\ 0 <= t.ty /\ t.ty <= P.decls.length) ∨ (b = true /\ (t.ty < 0 ∨ 0 <= t.ty /\ (P.decls.length : Int) < t.ty)) := by
          cases b <;> simp <;> omega
        rcases hrg with hrg | ⟨rfl, hrg | ⟨hr1, hr2⟩⟩
        rotate_left
        . have HQ : Hid (rangeR P true t.ty = true) := by show _ = _; rw [HRG.out, decide_eq_true hrg]; rfl
          go_wp2
          go_ret
          exact ⟨rB (by rw [HR.out, HFIT.out, HQ.out]; rfl), HX3.out⟩
        . have HQ : Hid (rangeR P true t.ty = true) := by show _ = _; rw [HRG.out, decide_eq_true hr2, Bool.or_true]; rfl
          go_wp2
          go_ret
          exact ⟨rB (by rw [HR.out, HFIT.out, HQ.out]; rfl), HX3.out⟩
        have HQ : Hid (rangeR P b t.ty = false) := by
          show _ = _
          rw [HRG.out]
          rcases hrg with rfl | ⟨rfl, h1, h2⟩
          . rfl
          . rw [decide_eq_false (by omega), decide_eq_false (by omega)]; rfl
        have HRR : Hid (rr = tailR (hasS l1) (hasS l2) t) := by show _ = _; rw [HR.out, HFIT.out, HQ.out, HCN.out]; rfl
        clear HRG HQ HFIT HR HCN
        have hop : ((t.op == 0) = true /\ (t.op == 12) = false /\ (t.op == 8) = false /\ (t.op == 11) = false) ∨ ((t.op == 0) = false /\ (t.op == 12) = true /\ (t.op == 8) = false /\ (t.op == 11) = false) ∨ ((t.op == 0) = false /\ (t.op == 12) = false /\ (t.op == 8) = true /\ (t.op == 11) = false) ∨ ((t.op == 0) = false /\ (t.op == 12) = false /\ (t.op == 8) = false /\ (t.op == 11) = true) ∨ ((t.op == 0) = false /\ (t.op == 12) = false /\ (t.op == 8) = false /\ (t.op == 11) = false) := by
          by_cases e0 : t.op = 0 <;> by_cases e1 : t.op = 12 <;> by_cases e2 : t.op = 8 <;> by_cases e3 : t.op = 11 <;> simp [e0, e1, e2, e3] <;> omega
        have HOP := LH hop
        clear hop
        rcases hrg with rfl | ⟨rfl, hr1, hr2⟩
        all_goals
          go_wp2
          try rw [hl0]
          go_loopw [85] (fun i wr => i = .int .i64 0 /\ wc = wr) (fun i _ => 1)
          case atStart => exact ⟨rfl, rfl⟩
          case round =>
            obtain ⟨rfl, rfl⟩ := hrel
            rcases HOP.out with ⟨g0, g12, g8, g11⟩ | ⟨g0, g12, g8, g11⟩ | ⟨g0, g12, g8, g11⟩ | ⟨g0, g12, g8, g11⟩ | ⟨g0, g12, g8, g11⟩
            focus
              have HO : Hid (t.op = 0) := by show _ = _; simpa using g0
              have HT2 : Hid (rr = hasS l1 t.nm) := by show _ = _; rw [HRR.out]; unfold tailR; rw [if_pos HO.out]
              go_wp2_with fail
              (with_reducible refine (In_any v1 l1 t.nm wc (H1.out.below HX3.out)).mono ?_)
              rintro e w6 ⟨rfl, rfl⟩
              go_wp2
              go_ret
              exact ⟨rB HT2.out.symm, HX3.out⟩
            focus
              have HO : Hid (t.op = 12) := by show _ = _; simpa using g12
              have HT2 : Hid (rr = hasS l2 t.nm) := by show _ = _; rw [HRR.out]; unfold tailR; rw [if_neg (by rw [HO.out]; decide), if_pos HO.out]
              go_wp2_with fail
              (with_reducible refine (In_any v2 l2 t.nm wc (H2.out.below HX3.out)).mono ?_)
              rintro e w6 ⟨rfl, rfl⟩
              go_wp2
              go_ret
              exact ⟨rB HT2.out.symm, HX3.out⟩
            focus
              have HO : Hid (t.op = 8) := by show _ = _; simpa using g8
              have HT2 : Hid (rr = nameB t.nm) := by show _ = _; rw [HRR.out]; unfold tailR; rw [if_neg (by rw [HO.out]; decide), if_neg (by rw [HO.out]; decide), if_pos (.inl HO.out)]
              go_wp2_with fail
              (with_reducible refine (Name_any t.nm _ HNM.out).mono ?_)
              rintro e w6 ⟨rfl, hb⟩
              have HX6 := LH (HX3.out.tr hb)
              clear hb
              go_wp2
              go_ret
              exact ⟨rB HT2.out.symm, HX6.out⟩
            focus
              have HO : Hid (t.op = 11) := by show _ = _; simpa using g11
              have HT2 : Hid (rr = nameB t.nm) := by show _ = _; rw [HRR.out]; unfold tailR; rw [if_neg (by rw [HO.out]; decide), if_neg (by rw [HO.out]; decide), if_pos (.inr HO.out)]
              go_wp2_with fail
              (with_reducible refine (Name_any t.nm _ HNM.out).mono ?_)
              rintro e w6 ⟨rfl, hb⟩
              have HX6 := LH (HX3.out.tr hb)
              clear hb
              go_wp2
              go_ret
              exact ⟨rB HT2.out.symm, HX6.out⟩
            focus
              have HO : Hid (¬ t.op = 0 /\ ¬ t.op = 12 /\ ¬ (t.op = 8 ∨ t.op = 11)) := by show _ /\ _ /\ _; simp at g0 g12 g8 g11; omega
              have HT2 : Hid (rr = true) := by show _ = _; rw [HRR.out]; unfold tailR; rw [if_neg HO.out.1, if_neg HO.out.2.1, if_neg HO.out.2.2]
              go_wp2
              go_ret
              exact ⟨rB HT2.out.symm, HX3.out⟩
end Go.Proofs.YtkdglplfcpindaaGreatDoor

namespace Go.Proofs.YtkdglplfcpindaaGreatDoor
theorem fitR_has (s : Shp) (ok : Bool) (t : Tm) : fitR s ok t = (ok && hasF t s.c s.a s.b s.m s.k) := by
  unfold fitR hasF
  cases ok <;> cases (s.a || emptyB t.nm) <;> cases (s.b || decide (t.ty = 0)) <;> cases (s.c || decide (t.n = 0)) <;> simp
theorem hasF_lens {t : Tm} {c a b : Bool} {m k : Int} (h : hasF t c a b m k = true) : (t.args.length : Int) = m /\ (t.cls.length : Int) = k := by
  unfold hasF at h
  simp only [Bool.and_eq_true, decide_eq_true_eq] at h
  exact ⟨h.1.2, h.2⟩
theorem isType_range (P : Pg) (ty : Int) : (!rangeR P true ty) = isTypeB P ty := by
  unfold rangeR isTypeB
  by_cases h1 : ty < 0
  . rw [decide_eq_true h1, decide_eq_false (by omega : ¬ 0 <= ty)]; rfl
  . by_cases h2 : (P.decls.length : Int) < ty
    . rw [decide_eq_true h2, decide_eq_false (by omega : ¬ ty <= P.decls.length)]; simp
    . rw [decide_eq_false h1, decide_eq_false h2, decide_eq_true (by omega : 0 <= ty), decide_eq_true (by omega : ty <= P.decls.length)]; rfl
theorem range_decl {P : Pg} {ty : Int} {co : Bool} (h : isDeclB P ty co = true) (b : Bool) : rangeR P b ty = false := by
  obtain ⟨u, rfl, hu⟩ := isDecl_range h
  unfold rangeR
  rw [decide_eq_false (by omega), decide_eq_false (by omega)]
  cases b <;> rfl
theorem range_false (P : Pg) (ty : Int) : rangeR P false ty = false := rfl
theorem has_idx {P : Pg} {ty n : Int} {co : Bool} (h : isDeclB P ty co = true) : hasI P.decls ty n = isIdxB n (declAt P ty).xtors.length := by
  obtain ⟨u, rfl, hu⟩ := isDecl_range h
  rw [declAt_in hu]
  unfold isIdxB
  by_cases hn : 0 <= n
  . rw [hasI_in hu hn, decide_eq_true hn, Bool.true_and]
  . rw [hasI_neg hn, decide_eq_false hn]; rfl
theorem clsOK_cls : ∀ (xs : List Xtor) (l : List (List Str × Tm)), clsOK xs l = (clsB xs l && l.all fun c => distB c.1)
  | xs, [] => by simp [clsOK, clsB]
  | xs, c :: r => by
    rw [clsOK, clsB, clsOK_cls xs.tail r, List.all_cons]
    have e : prodI (xs.headD noXtor) = (prodC (xs.headD noXtor).args : Int) := rfl
    rw [e]
    cases distB c.1 <;> cases decide ((c.1.length : Int) = prodC (xs.headD noXtor).args) <;> cases clsB xs.tail r <;> cases (r.all fun c => distB c.1) <;> rfl
theorem ends_prod {l : List Arg} (h : endsB l = true) : l.length = prodC l + 1 := by
  unfold endsB at h
  rw [Bool.and_eq_true, Bool.not_eq_true'] at h
  obtain ⟨h1, h2⟩ := h
  rcases List.eq_nil_or_concat l with rfl | ⟨p, a, rfl⟩
  . cases h1
  . have ha : a.co = true := by simpa [lastCo] using h1
    have hp : ∀ x ∈ p, x.co = false := by
      unfold hasCo at h2
      simp at h2
      exact h2
    unfold prodC
    rw [List.concat_eq_append, List.filter_append, List.length_append, List.length_append, List.filter_eq_self.2 (fun x hx => by rw [hp x hx]; rfl)]
    simp [ha]
theorem kids_dist (t : Tm) : ((kids t).all fun x => distB x.1.1) = (((kidsFrom t.op t.nm 0 t.args).all fun x => distB x.1.1) && t.cls.all fun c => distB c.1) := by
  unfold kids
  rw [List.all_append, List.all_map]; rfl
theorem dist_plain {op : Int} (nm : Str) (h8 : op ≠ 8) (h11 : op ≠ 11) : ∀ (l : List Tm) (i : Nat), ((kidsFrom op nm i l).all fun x => distB x.1.1) = true
  | [], _ => rfl
  | a :: r, i => by
    rw [kidsFrom, List.all_cons, dist_plain nm h8 h11 r (i + 1)]
    unfold bndAt
    rw [if_neg (by omega), if_neg (by omega)]; rfl
theorem distB_one (s : Str) : distB [s] = nameB s := by simp [distB, distF]
theorem dist_let (nm : Str) {l : List Tm} (h : (l.length : Int) = 2) : ((kidsFrom 8 nm 0 l).all fun x => distB x.1.1) = nameB nm := by
  match l, h with
  | [a, b], _ =>
    have e : ((kidsFrom 8 nm 0 [a, b]).all fun x => distB x.1.1) = (distB [] && (distB [nm] && true)) := rfl
    rw [e, distB_one]; simp [distB, distF]
  | [], h => simp at h
  | [_], h => simp at h
  | _ :: _ :: _ :: r, h => simp at h; omega
theorem dist_label (nm : Str) {l : List Tm} (h : (l.length : Int) = 1) : ((kidsFrom 11 nm 0 l).all fun x => distB x.1.1) = nameB nm := by
  match l, h with
  | [a], _ =>
    have e : ((kidsFrom 11 nm 0 [a]).all fun x => distB x.1.1) = (distB [nm] && true) := rfl
    rw [e, distB_one]; simp
  | [], h => simp at h
  | _ :: _ :: r, h => simp at h; omega
theorem cls_nil {t : Tm} (h : (t.cls.length : Int) = 0) : t.cls = [] := List.eq_nil_of_length_eq_zero (by omega)
theorem node_eq {P : Pg} (hs : srcB P.decls = true) (V L : Scp) (t : Tm) : nodeR P V L t = (fitsT P t && refB V L t && (kids t).all fun x => distB x.1.1) := by
  rw [kids_dist]
  unfold nodeR
  rw [fitR_has, clsOK_cls]
  obtain ⟨op, n, nm, ty, args, cls⟩ := t
  generalize ht : Tm.mk op n nm ty args cls = t
  have e0 : t.op = op := by rw [← ht]; rfl
  have e1 : t.n = n := by rw [← ht]; rfl
  have e2 : t.ty = ty := by rw [← ht]; rfl
  have e3 : t.nm = nm := by rw [← ht]; rfl
  rw [e0, e1, e2, e3]
  unfold fitsT refB tailR
  rw [e0, e1, e2, e3]
  unfold shapeR
  clear ht
  by_cases h0 : op = 0
  . subst h0
    simp only [if_true]
    cases hh : hasF t false true false 0 0
    . simp
    . have hc := cls_nil (hasF_lens hh).2
      rw [hc, dist_plain nm (by decide) (by decide), range_false]; simp [clsB]
  by_cases h1 : op = 1
  . subst h1
    simp (decide := true) only [if_true, if_false]
    cases hh : hasF t true false false 0 0
    . simp
    . have hc := cls_nil (hasF_lens hh).2
      rw [hc, dist_plain nm (by decide) (by decide), range_false]; simp [clsB]
  by_cases h2 : op = 2
  . subst h2
    simp (decide := true) only [if_true, if_false]
    cases hh : hasF t true false false 2 0
    . simp
    . have hc := cls_nil (hasF_lens hh).2
      rw [hc, dist_plain nm (by decide) (by decide), range_false]; simp [clsB]
  by_cases h3 : op = 3
  . subst h3
    simp (decide := true) only [if_true, if_false]
    cases hh : hasF t false false false 3 0
    . simp
    . have hc := cls_nil (hasF_lens hh).2
      rw [hc, dist_plain nm (by decide) (by decide), range_false]; simp [clsB]
  by_cases h4 : op = 4
  . subst h4
    simp (decide := true) only [if_true, if_false]
    cases hd : isDeclB P ty false
    . simp
    . rw [has_idx hd]
      unfold fitsXB
      rw [e1, e2]
      cases hi : isIdxB n (declAt P ty).xtors.length
      . simp
      . simp only [Bool.and_self, if_true, Bool.true_and]
        rw [range_decl hd]
        have ex : (xtorRef P ty n) = (declAt P ty).xtors.getD n.toNat noXtor := rfl
        rw [ex]
        cases hh : hasF t true false true ((declAt P ty).xtors.getD n.toNat noXtor).args.length 0
        . simp
        . have hc := cls_nil (hasF_lens hh).2
          rw [hc, dist_plain nm (by decide) (by decide)]; simp [clsB]
  by_cases h5 : op = 5
  . subst h5
    simp (decide := true) only [if_true, if_false]
    cases hd : isDeclB P ty false
    . simp
    . simp only [if_true, Bool.true_and]
      unfold fitsCB
      rw [e2, range_decl hd, dist_plain nm (by decide) (by decide)]
      cases hasF t false false true 1 (declAt P ty).xtors.length <;> cases clsB (declAt P ty).xtors t.cls <;> cases (t.cls.all fun c => distB c.1) <;> rfl
  by_cases h6 : op = 6
  . subst h6
    simp (decide := true) only [if_true, if_false]
    cases hd : isDeclB P ty true
    . simp
    . rw [has_idx hd]
      unfold fitsXB
      rw [e1, e2]
      cases hi : isIdxB n (declAt P ty).xtors.length
      . simp
      . simp only [Bool.and_self, if_true, Bool.true_and]
        rw [range_decl hd]
        have ex : (xtorRef P ty n) = (declAt P ty).xtors.getD n.toNat noXtor := rfl
        rw [ex]
        have el : (1 + prodC ((declAt P ty).xtors.getD n.toNat noXtor).args : Int) = (((declAt P ty).xtors.getD n.toNat noXtor).args.length : Int) := by
          obtain ⟨u, rfl, hu⟩ := isDecl_range hd
          have hi' := hi
          unfold isIdxB at hi'
          rw [declAt_in hu] at hi' ⊢
          simp only [Bool.and_eq_true, decide_eq_true_eq] at hi'
          have hm : n.toNat < (P.decls[u]).xtors.length := by omega
          have hco : (P.decls[u]).codata = true := by
            have h := hd
            unfold isDeclB at h
            rw [declAt_in hu, Bool.and_eq_true] at h
            simpa using h.2
          have hx : srcX (P.decls[u]).codata ((P.decls[u]).xtors[n.toNat]) = true := by
            have h := List.all_eq_true.1 hs _ (List.getElem_mem hu)
            exact List.all_eq_true.1 h _ (List.getElem_mem hm)
          rw [hco] at hx
          have he : endsB ((P.decls[u]).xtors[n.toNat]).args = true := hx
          have hg : (P.decls[u]).xtors.getD n.toNat noXtor = (P.decls[u]).xtors[n.toNat] := by simp [hm]
          rw [hg, ends_prod he]
          omega
        rw [el]
        cases hh : hasF t true false true ((declAt P ty).xtors.getD n.toNat noXtor).args.length 0
        . simp
        . have hc := cls_nil (hasF_lens hh).2
          rw [hc, dist_plain nm (by decide) (by decide)]; simp [clsB]
  by_cases h7 : op = 7
  . subst h7
    simp (decide := true) only [if_true, if_false]
    cases hd : isDeclB P ty true
    . simp
    . simp only [if_true, Bool.true_and]
      unfold fitsCB
      rw [e2, range_decl hd, dist_plain nm (by decide) (by decide)]
      cases hasF t false false true 0 (declAt P ty).xtors.length <;> cases clsB (declAt P ty).xtors t.cls <;> cases (t.cls.all fun c => distB c.1) <;> rfl
  by_cases h8 : op = 8
  . subst h8
    simp (decide := true) only [if_true, if_false]
    rw [isType_range]
    cases hh : hasF t false true true 2 0
    . simp
    . have hc := cls_nil (hasF_lens hh).2
      rw [hc, dist_let nm (hasF_lens hh).1]; simp [clsB]
  by_cases h9 : op = 9
  . subst h9
    simp (decide := true) only [if_true, if_false]
    cases hi : isIdxB n P.funs.length
    . simp
    . simp only [if_true, Bool.true_and]
      cases hh : hasF t true false false (P.funs.getD n.toNat noFn).ps.length 0
      . simp
      . have hc := cls_nil (hasF_lens hh).2
        rw [hc, dist_plain nm (by decide) (by decide), range_false]; simp [clsB]
  by_cases h10 : op = 10
  . subst h10
    simp (decide := true) only [if_true, if_false]
    cases hh : hasF t false false false 2 0
    . simp
    . have hc := cls_nil (hasF_lens hh).2
      rw [hc, dist_plain nm (by decide) (by decide), range_false]; simp [clsB]
  by_cases h11 : op = 11
  . subst h11
    simp (decide := true) only [if_true, if_false]
    rw [isType_range]
    cases hh : hasF t false true true 1 0
    . simp
    . have hc := cls_nil (hasF_lens hh).2
      rw [hc, dist_label nm (hasF_lens hh).1]; simp [clsB]
  by_cases h12 : op = 12
  . subst h12
    simp (decide := true) only [if_true, if_false]
    rw [isType_range]
    cases hh : hasF t false true true 1 0
    . simp
    . have hc := cls_nil (hasF_lens hh).2
      rw [hc, dist_plain nm (by decide) (by decide)]; simp [clsB]
  simp only [h0, h1, h2, h3, h4, h5, h6, h7, h8, h9, h10, h11, h12, if_false, or_self]
  simp
theorem valid_ref {P : Pg} (hs : srcB P.decls = true) (V L : Scp) (t : Tm) : validT P V L t = (nodeR P V L t && (kids t).all fun x => validT P (addV V x.1) (addL L x.1) x.2) := by
  have h : ∀ l : List (Bnd × Tm), l.all (validK P V L) = ((l.all fun x => distB x.1.1) && l.all fun x => validT P (addV V x.1) (addL L x.1) x.2) := by
    intro l
    induction l with
    | nil => rfl
    | cons x r ih =>
      rw [List.all_cons, List.all_cons, List.all_cons, ih]
      unfold validK
      cases distB x.1.1 <;> cases validT P (addV V x.1) (addL L x.1) x.2 <;> cases (r.all fun x => distB x.1.1) <;> simp
  rw [validT_kids, node_eq hs, h]
  cases fitsT P t <;> cases refB V L t <;> simp
end Go.Proofs.YtkdglplfcpindaaGreatDoor

namespace Go.Proofs.YtkdglplfcpindaaGreatDoor
open Go.RowKit
end Go.Proofs.YtkdglplfcpindaaGreatDoor

namespace Go.Proofs.YtkdglplfcpindaaGreatDoor
open Go.RowKit
theorem vn_len (b : Bnd) : (vnames b).length <= b.1.length := by unfold vnames; split <;> simp
theorem ln_len (b : Bnd) : (lnames b).length <= b.1.length := by unfold lnames; split <;> simp
theorem vn_8 {op : Int} {nm : Str} {i : Nat} (h : op = 8) (hi : i = 1) : vnames (bndAt op nm i) = [nm] /\ lnames (bndAt op nm i) = [] := by rw [bnd_8 h hi]; exact ⟨rfl, rfl⟩
theorem vn_11 {op : Int} {nm : Str} {i : Nat} (h : op = 11) (hi : i = 0) : vnames (bndAt op nm i) = [] /\ lnames (bndAt op nm i) = [nm] := by rw [bnd_11 h hi]; exact ⟨rfl, rfl⟩
theorem vn_no {op : Int} {nm : Str} {i : Nat} (h1 : ¬ (op = 8 /\ i = 1)) (h2 : ¬ (op = 11 /\ i = 0)) : vnames (bndAt op nm i) = [] /\ lnames (bndAt op nm i) = [] := by rw [bnd_no h1 h2]; exact ⟨rfl, rfl⟩
end Go.Proofs.YtkdglplfcpindaaGreatDoor
