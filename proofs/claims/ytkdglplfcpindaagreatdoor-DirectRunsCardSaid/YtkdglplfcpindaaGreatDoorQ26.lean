import Derived.Test.YtkdglplfcpindaaGreatDoorQ25
import Derived.Deep.RegionWith
import Derived.BigQuiet
import Derived.Deep.CutRange
import Derived.Deep.DeepCutAuto
set_option maxRecDepth 100000
namespace Go.Proofs.YtkdglplfcpindaaGreatDoor
open Go.RowKit
def okPrm (n : Nat) (i : Nat) (x : Prm) : Bool := !(decide (x.ty < 0) || decide ((n : Int) < x.ty) || (decide (i = 0) && !decide (x.ty = 0)))
def headF (n : Nat) (prev : List Fn) (i : Nat) (f : Fn) : Bool :=
  nameB f.nm && !decide (f.res < 0) && !decide ((n : Int) < f.res) && decide (f.ps.length <= 6) && distB (f.ps.map Prm.nm) && !(prev.any fun g => eqS f.nm g.nm) && f.ps.all (okPrm n i) && !(decide (i = 0) && !decide (f.res = 0))
def headsFrom (n : Nat) (all : List Fn) : Nat -> List Fn -> Bool
  | _, [] => true
  | i, f :: r => headF n (all.take i) i f && headsFrom n all (i + 1) r
def headsB (P : Pg) : Bool := decide (1 <= P.funs.length) && decide (P.funs.length <= 12) && headsFrom P.decls.length P.funs 0 P.funs
theorem Name_is (s : Str) (q : Bool) (w : World) (hs : s.size <= maxLen) (h : nameB s = q) : Calls Tryz.prog 74 #[.string s] w fun e w' => e = .returned (.bool q) /\ Ext w w' := by
  subst h; exact Name_any s w hs
set_option maxHeartbeats 8000000 in
theorem heads_any (P : Pg) (vd vf : Value) (w : World) (hd : RDecls w vd P.decls) (hf : RFns w vf P.funs) :
    Calls Tryz.prog 49 #[pV vd vf] w fun e w' => e = .returned (.bool (headsB P)) /\ Ext w w' := by
  have HF := LH hf
  obtain ⟨Ad, cd, rfl, hcd, hmd⟩ := hd.form
  obtain ⟨Af, cf, rfl, hcf, hmf⟩ := hf.form
  clear hd hf
  unfold maxLen at hmf hmd
  have HR : Hid (headsB P = (decide (1 <= P.funs.length) && decide (P.funs.length <= 12) && headsFrom P.decls.length P.funs 0 P.funs)) := rfl
  generalize headsB P = rr at *
  generalize hnd : P.decls.length = nd at *
  generalize hall : P.funs = fs at *
  clear hnd hall
  have HE := LH (Ext.al w (.cells #[.slice Ad nd cd, .slice Af fs.length cf] 25))
  have HB := LH (hNw w (.cells #[.slice Ad nd cd, .slice Af fs.length cf] 25))
  have c0 := cA HB.out 0
  have c1 := cA HB.out 1
  go_enter Tryz.func49, Tryz.ntmps49
  by_cases hf1 : fs.length < 1
  . have HRR : Hid (rr = false) := by show _ = _; rw [HR.out, decide_eq_false (by omega)]; rfl
    go_wp2
    go_ret
    exact ⟨rB HRR.out.symm, HE.out⟩
  by_cases hf2 : 12 < fs.length
  . have HRR : Hid (rr = false) := by show _ = _; rw [HR.out, decide_eq_false (by omega : ¬ fs.length <= 12), Bool.and_false]; rfl
    go_wp2
    go_ret
    exact ⟨rB HRR.out.symm, HE.out⟩
  have HRR : Hid (rr = headsFrom nd fs 0 fs) := by show _ = _; rw [HR.out, decide_eq_true (by omega), decide_eq_true (by omega)]; rfl
  clear HR
  go_wp2
  generalize w.alloc _ = w1 at *
  clear c0 c1
  go_loopw [22] (fun i wr => ∃ j : Nat, j <= fs.length /\ i = .int .i64 j /\ rr = headsFrom nd fs j (fs.drop j) /\ Ext w1 wr) (fun i _ => fs.length - (intOf i).toNat)
  case atStart => exact ⟨0, Nat.zero_le _, rfl, by rw [List.drop_zero]; exact HRR.out, Ext.rf _⟩
  case round =>
    obtain ⟨j, hj, rfl, hrr, hb⟩ := hrel
    have HA := LH hrr
    have HX := LH hb
    have b0 := (hb.block _ (hLt HB.out)).trans HB.out
    have HBB := LH b0
    clear hrr hb b0
    by_cases hlt : j < fs.length
    . obtain ⟨b, o, vp, xa, xc, kf, rfl, hbl, y0, y1, y2, yc, y3, y4, y5⟩ := HF.out.at_ hlt
      have HST : Hid (rr = (headF nd (fs.take j) j fs[j] && headsFrom nd fs (j + 1) (fs.drop (j + 1)))) := by show _ = _; rw [HA.out, List.drop_eq_getElem_cons hlt]; rfl
      have hX := HE.out.tr HX.out
      have y0 := hX.keep y0
      have y1 := hX.keep y1
      have y2 := hX.keep y2
      have yc := yc.below hX
      obtain ⟨Ap, cp, rfl, hcp, hmp⟩ := y4.form
      obtain ⟨_, ⟨Aa, ca, rfl, -, -⟩, ⟨Bb, cb, rfl, -, -⟩⟩ := y5.form
      unfold maxLen at hmp
      have HPR := LH (y4.below hX)
      have HNM := LH y3
      have HPM := LH y4
      have c30 := yc.c0
      have c31 := yc.c1
      have c32 := yc.c2
      have c33 := yc.c3
      have c34 := yc.c4
      have c35 := yc.c5
      generalize fs[j] = f at *
      clear y3 y4 y5 yc
      have HE8 := LH (Ext.al wr (.cells #[.string f.nm, .slice Ap f.ps.length cp, .int .i64 f.res, .int .i64 f.body.op, .int .i64 f.body.n, .string f.body.nm, .int .i64 f.body.ty, .slice Aa f.body.args.length ca, .slice Bb f.body.cls.length cb] 52))
      have HN8 := LH (hNw wr (.cells #[.string f.nm, .slice Ap f.ps.length cp, .int .i64 f.res, .int .i64 f.body.op, .int .i64 f.body.n, .string f.body.nm, .int .i64 f.body.ty, .slice Aa f.body.args.length ca, .slice Bb f.body.cls.length cb] 52))
      have HP8 := LH ((HE8.out.block _ (hLt HBB.out)).trans HBB.out)
      have HX8 : Hid (Ext w (wr.alloc (.cells #[.string f.nm, .slice Ap f.ps.length cp, .int .i64 f.res, .int .i64 f.body.op, .int .i64 f.body.n, .string f.body.nm, .int .i64 f.body.ty, .slice Aa f.body.args.length ca, .slice Bb f.body.cls.length cb] 52))) := hX.tr HE8.out
      have HX18 : Hid (Ext w1 (wr.alloc (.cells #[.string f.nm, .slice Ap f.ps.length cp, .int .i64 f.res, .int .i64 f.body.op, .int .i64 f.body.n, .string f.body.nm, .int .i64 f.body.ty, .slice Aa f.body.args.length ca, .slice Bb f.body.cls.length cb] 52))) := HX.out.tr HE8.out
      clear hX
      go_wp2
      generalize wr.alloc _ = w8 at *
      clear y0 y1 y2 c30 c31 c32 c33 c34 c35
      have HW8 := HE8
      have q0 := cA HN8.out 0
      have q1 := cA HN8.out 1
      have q2 := cA HN8.out 2
      have p0 := cA HP8.out 0
      have p1 := cA HP8.out 1
      have hmx : Tryz.prog.follows .mixedOrders = true := by kernel_rfl
      cases hq1 : nameB f.nm
      . have HQ1 := LH hq1
        clear hq1
        have HFF : Hid (rr = false) := by show _ = _; rw [HST.out]; unfold headF; rw [HQ1.out]; rfl
        have k0 := ExtOf.cell (show w8.cell? ⟨wr.heap.size, 0, none⟩ = some (.string f.nm) from q0)
        have k1 := ExtOf.cell (show w8.cell? ⟨wr.heap.size, 1, none⟩ = some (.slice Ap f.ps.length cp) from q1)
        have k2 := ExtOf.cell (show w8.cell? ⟨wr.heap.size, 2, none⟩ = some (.int .i64 f.res) from q2)
        have k3 := ExtOf.cell (show w8.cell? ⟨w.heap.size, 0, none⟩ = some (.slice Ad nd cd) from p0)
        clear q0 q1 q2 p0 p1
        refine wRE (w0 := w8) hmx (by kernel_rfl) (Ext.rf _) ?_
        repeat (first | go_big_quiet_step ((go_at_call 74; with_reducible exact Calls.ext_of (Name_is f.nm false _ HNM.out HQ1.out))) | quiet_step ((go_at_call 74; with_reducible exact Calls.ext_of (Name_is f.nm false _ HNM.out HQ1.out))))
        refine wpQuiet_nil ?_
        rintro _ ⟨⟨w9, hx⟩, rfl⟩
        have HX9 := LH hx
        clear hx
        go_wp2
        go_ret
        exact ⟨rB HFF.out.symm, HX8.out.tr HX9.out⟩
      . have HQ1 := LH hq1
        clear hq1
        have hdec : (f.res < 0) ∨ (0 <= f.res /\ (nd : Int) < f.res) ∨ (0 <= f.res /\ f.res <= nd /\ (6 : Int) < f.ps.length) ∨ (0 <= f.res /\ f.res <= nd /\ (f.ps.length : Int) <= 6) := by omega
        rcases hdec with hr | ⟨hr0, hr⟩ | ⟨hr0, hr1, hr⟩ | ⟨hr0, hr1, hr⟩
        . have HFF : Hid (rr = false) := by show _ = _; rw [HST.out]; unfold headF; rw [HQ1.out, decide_eq_true hr]; rfl
          have hd1 : decide (f.res < 0) = true := decide_eq_true hr
          have k0 := ExtOf.cell (show w8.cell? ⟨wr.heap.size, 0, none⟩ = some (.string f.nm) from q0)
          have k1 := ExtOf.cell (show w8.cell? ⟨wr.heap.size, 1, none⟩ = some (.slice Ap f.ps.length cp) from q1)
          have k2 := ExtOf.cell (show w8.cell? ⟨wr.heap.size, 2, none⟩ = some (.int .i64 f.res) from q2)
          have k3 := ExtOf.cell (show w8.cell? ⟨w.heap.size, 0, none⟩ = some (.slice Ad nd cd) from p0)
          clear q0 q1 q2 p0 p1
          refine wRE (w0 := w8) hmx (by kernel_rfl) (Ext.rf _) ?_
          repeat (first | go_big_quiet_step ((go_at_call 74; with_reducible exact Calls.ext_of (Name_is f.nm true _ HNM.out HQ1.out))) | quiet_step ((go_at_call 74; with_reducible exact Calls.ext_of (Name_is f.nm true _ HNM.out HQ1.out))))
          refine wpQuiet_nil ?_
          rintro _ ⟨⟨w9, hx⟩, rfl⟩
          have HX9 := LH hx
          clear hx
          go_wp2
          go_ret
          exact ⟨rB HFF.out.symm, HX8.out.tr HX9.out⟩
        . have HFF : Hid (rr = false) := by show _ = _; rw [HST.out]; unfold headF; rw [HQ1.out, decide_eq_false (by omega : ¬ f.res < 0), decide_eq_true hr]; rfl
          have hd1 : decide (f.res < 0) = false := decide_eq_false (by omega)
          have hd2 : decide ((nd : Int) < f.res) = true := decide_eq_true hr
          have k0 := ExtOf.cell (show w8.cell? ⟨wr.heap.size, 0, none⟩ = some (.string f.nm) from q0)
          have k1 := ExtOf.cell (show w8.cell? ⟨wr.heap.size, 1, none⟩ = some (.slice Ap f.ps.length cp) from q1)
          have k2 := ExtOf.cell (show w8.cell? ⟨wr.heap.size, 2, none⟩ = some (.int .i64 f.res) from q2)
          have k3 := ExtOf.cell (show w8.cell? ⟨w.heap.size, 0, none⟩ = some (.slice Ad nd cd) from p0)
          clear q0 q1 q2 p0 p1
          refine wRE (w0 := w8) hmx (by kernel_rfl) (Ext.rf _) ?_
          repeat (first | go_big_quiet_step ((go_at_call 74; with_reducible exact Calls.ext_of (Name_is f.nm true _ HNM.out HQ1.out))) | quiet_step ((go_at_call 74; with_reducible exact Calls.ext_of (Name_is f.nm true _ HNM.out HQ1.out))))
          refine wpQuiet_nil ?_
          rintro _ ⟨⟨w9, hx⟩, rfl⟩
          have HX9 := LH hx
          clear hx
          go_wp2
          go_ret
          exact ⟨rB HFF.out.symm, HX8.out.tr HX9.out⟩
        . have HFF : Hid (rr = false) := by show _ = _; rw [HST.out]; unfold headF; rw [HQ1.out, decide_eq_false (by omega : ¬ f.res < 0), decide_eq_false (by omega : ¬ (nd : Int) < f.res), decide_eq_false (by omega : ¬ f.ps.length <= 6)]; rfl
          have hd1 : decide (f.res < 0) = false := decide_eq_false (by omega)
          have hd2 : decide ((nd : Int) < f.res) = false := decide_eq_false (by omega)
          have hd3 : decide ((6 : Int) < f.ps.length) = true := decide_eq_true hr
          have k0 := ExtOf.cell (show w8.cell? ⟨wr.heap.size, 0, none⟩ = some (.string f.nm) from q0)
          have k1 := ExtOf.cell (show w8.cell? ⟨wr.heap.size, 1, none⟩ = some (.slice Ap f.ps.length cp) from q1)
          have k2 := ExtOf.cell (show w8.cell? ⟨wr.heap.size, 2, none⟩ = some (.int .i64 f.res) from q2)
          have k3 := ExtOf.cell (show w8.cell? ⟨w.heap.size, 0, none⟩ = some (.slice Ad nd cd) from p0)
          clear q0 q1 q2 p0 p1
          refine wRE (w0 := w8) hmx (by kernel_rfl) (Ext.rf _) ?_
          repeat (first | go_big_quiet_step ((go_at_call 74; with_reducible exact Calls.ext_of (Name_is f.nm true _ HNM.out HQ1.out))) | quiet_step ((go_at_call 74; with_reducible exact Calls.ext_of (Name_is f.nm true _ HNM.out HQ1.out))))
          refine wpQuiet_nil ?_
          rintro _ ⟨⟨w9, hx⟩, rfl⟩
          have HX9 := LH hx
          clear hx
          go_wp2
          go_ret
          exact ⟨rB HFF.out.symm, HX8.out.tr HX9.out⟩
        . generalize hqd : distB (f.ps.map Prm.nm) = qd at *
          have HQD : Hid (distB (f.ps.map Prm.nm) = qd) := hqd
          clear hqd
          have hd1 : decide (f.res < 0) = false := decide_eq_false (by omega)
          have hd2 : decide ((nd : Int) < f.res) = false := decide_eq_false (by omega)
          have hd3 : decide ((6 : Int) < f.ps.length) = false := decide_eq_false (by omega)
          go_cut [22, 59] from 22 to 110 (fun v22 v W => v22 = .int .i64 j /\ v = .bool (!qd) /\ Ext w8 W)
          case first =>
            go_region_with (first
              | (go_at_call 74; (with_reducible refine (Name_any f.nm _ HNM.out).mono ?_); rw [HQ1.out]; rintro e w9 ⟨rfl, hb9⟩; have HX9 : Hid (Ext w8 w9) := Ext.tr (b := w8.drew) (Ext.rf w8).drew hb9; clear hb9 q0 q1 q2 p0 p1; have q1 := HX9.out.keep (cA HN8.out 1); have q2 := HX9.out.keep (cA HN8.out 2); have p0 := HX9.out.keep (cA HP8.out 0))
              | (go_at_call 52; (with_reducible refine (Params_any _ f.ps w9 ((HPR.out.below HE8.out).below HX9.out) (by omega)).mono ?_); rintro e w10 ⟨V, rfl, hr10, hb10⟩; have HX10 : Hid (Ext w8 w10) := HX9.out.tr hb10; have HV := LH hr10; clear hr10 hb10 q1 q2 p0; have q1 := HX10.out.keep (cA HN8.out 1); have q2 := HX10.out.keep (cA HN8.out 2); have p0 := HX10.out.keep (cA HP8.out 0))
              | (go_at_call 78; (with_reducible refine (names_any _ (f.ps.map Prm.nm) _ w10 HV.out).mono ?_); rintro e w11 ⟨rfl, hb11⟩; have HX11 : Hid (Ext w8 w11) := HX10.out.tr hb11; clear hb11 q1 q2 p0; rw [HQD.out]))
            all_goals
              go_wp2_with fail
              go_meet
              refine ⟨rfl, ?_, HX11.out⟩
              try (cases qd <;> simp)
          case rest =>
            obtain ⟨rfl, rfl, hxc⟩ := hcut
            have HXC := LH hxc
            clear hxc q0 q1 q2 p0 p1 hd1 hd2 hd3 hmx
            have HFQ : Hid (headF nd (fs.take j) j f = (qd && !((fs.take j).any fun g => eqS f.nm g.nm) && f.ps.all (okPrm nd j) && !(decide (j = 0) && !decide (f.res = 0)))) := by
              show _ = _
              unfold headF
              rw [HQ1.out, decide_eq_false (by omega : ¬ f.res < 0), decide_eq_false (by omega : ¬ (nd : Int) < f.res), decide_eq_true (by omega : f.ps.length <= 6), HQD.out]
              rfl
            cases qd
            . have HFF : Hid (rr = false) := by show _ = _; rw [HST.out, HFQ.out]; rfl
              go_wp2
              go_ret
              exact ⟨rB HFF.out.symm, HX8.out.tr HXC.out⟩
            . have hNC := (HXC.out.block _ (hLt HN8.out)).trans HN8.out
              have hPC := (HXC.out.block _ (hLt HP8.out)).trans HP8.out
              have HNC := LH hNC
              have HPC := LH hPC
              have p1 := cA hPC 1
              clear hNC hPC
              have HXW : Hid (Ext w wc) := HX8.out.tr HXC.out
              have HXW1 : Hid (Ext w1 wc) := HX18.out.tr HXC.out
              generalize wr.heap.size = gb at *
              clear HN8 HP8 HX8 HX18 HXC HE8 HW8 HX HBB HPR HNM HQ1 HQD HA
              go_wp2
              clear p1
              go_loopw [65] (fun i wq => ∃ j2 : Nat, j2 <= j /\ i = .int .i64 j2 /\ ((fs.take j).any fun g => eqS f.nm g.nm) = (((fs.take j).drop j2).any fun g => eqS f.nm g.nm) /\ Ext wc wq) (fun i _ => j - (intOf i).toNat)
              case atStart => exact ⟨0, Nat.zero_le _, rfl, rfl, Ext.rf _⟩
              case round =>
                obtain ⟨j2, hj2, rfl, hany, hb⟩ := hrel
                have HAN := LH hany
                have HXR := LH hb
                have hn := (hb.block _ (hLt HNC.out)).trans HNC.out
                have hp := (hb.block _ (hLt HPC.out)).trans HPC.out
                have HNR := LH hn
                have HPR := LH hp
                clear hany hb hn hp
                by_cases hlt2 : j2 < j
                . have hl2 : j2 < fs.length := by omega
                  have HSG : Hid ((((fs.take j).drop j2).any fun g => eqS f.nm g.nm) = (eqS f.nm (fs[j2]'hl2).nm || (((fs.take j).drop (j2 + 1)).any fun g => eqS f.nm g.nm))) := by
                    show _ = _
                    rw [List.drop_eq_getElem_cons (by simp; omega), List.any_cons]
                    congr 2
                    simp
                  obtain ⟨b2, o2, vp2, xa2, xc2, kf2, he2, hbl2, y0, y1, y2, yc, y3, y4, y5⟩ := HF.out.at_ hl2
                  cases he2
                  have hX := HXW.out.tr HXR.out
                  have y0 := hX.keep y0
                  have y1 := hX.keep y1
                  have y2 := hX.keep y2
                  have yc := yc.below hX
                  obtain ⟨Ap2, cp2, rfl, -, -⟩ := y4.form
                  obtain ⟨_, ⟨Aa2, ca2, rfl, -, -⟩, ⟨Bb2, cb2, rfl, -, -⟩⟩ := y5.form
                  have c30 := yc.c0
                  have c31 := yc.c1
                  have c32 := yc.c2
                  have c33 := yc.c3
                  have c34 := yc.c4
                  have c35 := yc.c5
                  generalize fs[j2] = g at *
                  clear y3 y4 y5 yc hX
                  have hE9 := Ext.al wr (.cells #[.string g.nm, .slice Ap2 g.ps.length cp2, .int .i64 g.res, .int .i64 g.body.op, .int .i64 g.body.n, .string g.body.nm, .int .i64 g.body.ty, .slice Aa2 g.body.args.length ca2, .slice Bb2 g.body.cls.length cb2] 52)
                  have q0 := hE9.keep (cA HNR.out 0)
                  have HE9 := LH hE9
                  clear hE9
                  go_wp2
                  . have hq : eqS f.nm g.nm = true := by assumption
                    have HFF : Hid (rr = false) := by show _ = _; rw [HST.out, HFQ.out, HAN.out, HSG.out, hq]; rfl
                    go_ret
                    exact ⟨rB HFF.out.symm, HXW.out.tr (HXR.out.tr HE9.out)⟩
                  . have hq : eqS f.nm g.nm = false := by assumption
                    have HAF : Hid (((fs.take j).any fun g => eqS f.nm g.nm) = (((fs.take j).drop (j2 + 1)).any fun g => eqS f.nm g.nm)) := by show _ = _; rw [HAN.out, HSG.out, hq, Bool.false_or]
                    exact ⟨⟨j2 + 1, by omega, by go_num, HAF.out, HXR.out.tr HE9.out⟩, by simp [intOf]; omega⟩
                . have HNA : Hid (((fs.take j).any fun g => eqS f.nm g.nm) = false) := by show _ = _; rw [HAN.out, List.drop_eq_nil_of_le (by simp; omega)]; rfl
                  have HFR : Hid (headF nd (fs.take j) j f = (f.ps.all (okPrm nd j) && !(decide (j = 0) && !decide (f.res = 0)))) := by show _ = _; rw [HFQ.out, HNA.out]; rfl
                  have q1 := cA HNR.out 1
                  clear HAN HNA HFQ
                  have HXV : Hid (Ext w wr) := HXW.out.tr HXR.out
                  have HXV1 : Hid (Ext w1 wr) := HXW1.out.tr HXR.out
                  go_wp2
                  clear q1
                  generalize wr = wl at *
                  go_loopw [78] (fun i wq => ∃ j3 : Nat, j3 <= f.ps.length /\ i = .int .i64 j3 /\ f.ps.all (okPrm nd j) = (f.ps.drop j3).all (okPrm nd j) /\ Ext wl wq) (fun i _ => f.ps.length - (intOf i).toNat)
                  case atStart => exact ⟨0, Nat.zero_le _, rfl, rfl, Ext.rf _⟩
                  case round =>
                    obtain ⟨j3, hj3, rfl, hal, hb⟩ := hrel
                    have HAL := LH hal
                    have HXS := LH hb
                    have hn := (hb.block _ (hLt HNR.out)).trans HNR.out
                    have hp := (hb.block _ (hLt HPR.out)).trans HPR.out
                    have HNS := LH hn
                    have HPS := LH hp
                    clear hal hb hn hp
                    by_cases hlt3 : j3 < f.ps.length
                    . have HSP : Hid ((f.ps.drop j3).all (okPrm nd j) = (okPrm nd j f.ps[j3] && (f.ps.drop (j3 + 1)).all (okPrm nd j))) := by show _ = _; rw [List.drop_eq_getElem_cons hlt3, List.all_cons]
                      obtain ⟨b3, o3, he3, hbl3, z0, z1, -⟩ := HPM.out.at_ hlt3
                      cases he3
                      have z0 := HXS.out.keep (HXV.out.keep z0)
                      have z1 := HXS.out.keep (HXV.out.keep z1)
                      generalize f.ps[j3] = x at *
                      obtain ⟨xnm, xty⟩ := x
                      dsimp only at *
                      have hE9 := Ext.al wr (.cells #[.string xnm, .int .i64 xty] 69)
                      have p0 := hE9.keep (cA HPS.out 0)
                      have HE9 := LH hE9
                      clear hE9
                      have HXE : Hid (Ext w (wr.alloc (.cells #[.string xnm, .int .i64 xty] 69))) := HXV.out.tr (HXS.out.tr HE9.out)
                      have hdec : (xty < 0) ∨ (0 <= xty /\ (nd : Int) < xty) ∨ (0 <= xty /\ xty <= nd /\ j = 0 /\ ¬ xty = 0) ∨ (0 <= xty /\ xty <= nd /\ (j = 0 -> xty = 0)) := by omega
                      rcases hdec with hx | ⟨hx0, hx⟩ | ⟨hx0, hx1, hx2, hx3⟩ | ⟨hx0, hx1, hx2⟩
                      . have HOK : Hid (okPrm nd j ⟨xnm, xty⟩ = false) := by show _ = _; unfold okPrm; rw [decide_eq_true hx]; rfl
                        have HFF : Hid (rr = false) := by show _ = _; rw [HST.out, HFR.out, HAL.out, HSP.out, HOK.out]; rfl
                        go_wp2
                        go_ret
                        exact ⟨rB HFF.out.symm, HXE.out⟩
                      . have HOK : Hid (okPrm nd j ⟨xnm, xty⟩ = false) := by show _ = _; unfold okPrm; rw [decide_eq_true hx]; simp
                        have HFF : Hid (rr = false) := by show _ = _; rw [HST.out, HFR.out, HAL.out, HSP.out, HOK.out]; rfl
                        go_wp2
                        go_ret
                        exact ⟨rB HFF.out.symm, HXE.out⟩
                      . have HOK : Hid (okPrm nd j ⟨xnm, xty⟩ = false) := by show _ = _; unfold okPrm; rw [decide_eq_true hx2, decide_eq_false hx3]; simp
                        have HFF : Hid (rr = false) := by show _ = _; rw [HST.out, HFR.out, HAL.out, HSP.out, HOK.out]; rfl
                        have g1 : ((j : Int) == 0) = true := by rw [hx2]; rfl
                        have g2 : (xty == 0) = false := by simpa using hx3
                        have g3 : (xty != 0) = true := by simpa using hx3
                        clear hx2 hx3
                        go_wp2
                        go_ret
                        exact ⟨rB HFF.out.symm, HXE.out⟩
                      . have HOK : Hid (okPrm nd j ⟨xnm, xty⟩ = true) := by
                          show _ = _
                          unfold okPrm
                          rw [decide_eq_false (by omega : ¬ xty < 0), decide_eq_false (by omega : ¬ (nd : Int) < xty)]
                          by_cases hj0 : j = 0
                          . rw [decide_eq_true (hx2 hj0)]; simp
                          . rw [decide_eq_false hj0]; rfl
                        have HAF : Hid (f.ps.all (okPrm nd j) = (f.ps.drop (j3 + 1)).all (okPrm nd j)) := by show _ = _; rw [HAL.out, HSP.out, HOK.out, Bool.true_and]
                        by_cases hj0 : j = 0
                        . have hx4 := hx2 hj0
                          have g1 : ((j : Int) == 0) = true := by rw [hj0]; rfl
                          have g2 : (xty != 0) = false := by rw [hx4]; rfl
                          clear hx2 hj0 hx4
                          go_wp2
                          go_roundw
                          case rel => first | exact ⟨j3 + 1, by omega, by go_num, HAF.out, HXS.out.tr HE9.out⟩ | ((repeat apply Exists.intro); exact ⟨⟨j3 + 1, by omega, by go_num, HAF.out, HXS.out.tr HE9.out⟩, rfl⟩)
                          case measure => simp [intOf]; omega
                        . have g1 : ((j : Int) == 0) = false := by simp; omega
                          clear hx2 hj0
                          go_wp2
                          go_roundw
                          case rel => first | exact ⟨j3 + 1, by omega, by go_num, HAF.out, HXS.out.tr HE9.out⟩ | ((repeat apply Exists.intro); exact ⟨⟨j3 + 1, by omega, by go_num, HAF.out, HXS.out.tr HE9.out⟩, rfl⟩)
                          case measure => simp [intOf]; omega
                    . have HAF : Hid (f.ps.all (okPrm nd j) = true) := by show _ = _; rw [HAL.out, List.drop_eq_nil_of_le (by omega)]; rfl
                      have HFS : Hid (headF nd (fs.take j) j f = !(decide (j = 0) && !decide (f.res = 0))) := by show _ = _; rw [HFR.out, HAF.out]; rfl
                      have q2 := cA HNS.out 2
                      have HXT1 : Hid (Ext w1 wr) := HXV1.out.tr HXS.out
                      by_cases hbad : j = 0 /\ ¬ f.res = 0
                      . have HFF : Hid (rr = false) := by show _ = _; rw [HST.out, HFS.out, decide_eq_true hbad.1, decide_eq_false hbad.2]; rfl
                        have g1 : ((j : Int) == 0) = true := by rw [hbad.1]; rfl
                        have g3 : (f.res != 0) = true := by simpa using hbad.2
                        clear hbad
                        go_wp2
                        go_ret
                        exact ⟨rB HFF.out.symm, HXV.out.tr HXS.out⟩
                      . have HGO : Hid (rr = headsFrom nd fs (j + 1) (fs.drop (j + 1))) := by
                          show _ = _
                          rw [HST.out, HFS.out]
                          by_cases hj0 : j = 0
                          . rw [decide_eq_true (by omega : f.res = 0)]; simp
                          . rw [decide_eq_false hj0]; rfl
                        by_cases hj0 : j = 0
                        . have g1 : ((j : Int) == 0) = true := by rw [hj0]; rfl
                          have g3 : (f.res != 0) = false := by have : f.res = 0 := (by omega); rw [this]; rfl
                          clear hbad hj0
                          go_wp2
                          go_roundw
                          case rel => first | exact ⟨j + 1, by omega, by go_num, HGO.out, HXT1.out⟩ | ((repeat apply Exists.intro); exact ⟨⟨j + 1, by omega, by go_num, HGO.out, HXT1.out⟩, rfl⟩)
                          case measure => simp [intOf]; omega
                        . have g1 : ((j : Int) == 0) = false := by simp; omega
                          clear hbad hj0
                          go_wp2
                          go_roundw
                          case rel => first | exact ⟨j + 1, by omega, by go_num, HGO.out, HXT1.out⟩ | ((repeat apply Exists.intro); exact ⟨⟨j + 1, by omega, by go_num, HGO.out, HXT1.out⟩, rfl⟩)
                          case measure => simp [intOf]; omega
    . have HFF : Hid (rr = true) := by show _ = _; rw [HA.out, List.drop_eq_nil_of_le (by omega)]; rfl
      go_wp2
      go_ret
      exact ⟨rB HFF.out.symm, HE.out.tr HX.out⟩
end Go.Proofs.YtkdglplfcpindaaGreatDoor
