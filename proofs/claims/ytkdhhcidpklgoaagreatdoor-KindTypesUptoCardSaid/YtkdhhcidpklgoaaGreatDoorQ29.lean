/- ref06: Valid, whatever the node. -/
import Derived.Test.YtkdhhcidpklgoaaGreatDoorQ28
namespace Go.Proofs.YtkdhhcidpklgoaaGreatDoor
open Go.RowKit Go.Shelf Go.Maps

theorem valid_all (vd vf : Value) (C : Cg) (wA : World) (p mx ma : Nat) (hC : RCg wA vd vf C) (hS : ShC C) (hm1 : wA.heap.size ≤ mx) (hm2 : wA.heap.size ≤ ma) : ∀ (k : Nat) (t : Nd) (va vb : Value), RNd wA k t va vb → BN t → ValS C vd vf wA p mx ma t va vb := by
  intro k
  induction k with
  | zero => intro t va vb h; exact h.elim
  | succ k ih =>
    intro t va vb ht hb
    exact valid6 vd vf C wA p mx ma k t va vb hC hS ht hb (children6 vd vf C wA p mx ma k t va vb hC ht hb (fun i x hi xa xb hx => ih x xa xb hx (hb.arg (List.mem_of_getElem? hi))) hm1 hm2) (fun i x hi xa xb hx => ih _ xa xb hx (hb.br (List.mem_of_getElem? hi))) hm1 hm2
end Go.Proofs.YtkdhhcidpklgoaaGreatDoor

/- ref06: heads. -/
namespace Go.Proofs.YtkdhhcidpklgoaaGreatDoor
open Go.RowKit Go.Shelf
attribute [local go_sem] Oper.semAt_some

/-- What the reference asks of a parameter. -/
def parK (C : Cg) (i : Nat) (a : Arg) : Bool := (decide (0 ≤ a.ty) && decide (a.ty ≤ C.decls.length)) && !(decide (i = 0) && (a.co || !decide (a.ty = 0)))
def hd1 (f : CF) : Bool := nameB f.nm && decide (f.ps.length ≤ 6) && decide (f.vars.length = f.ps.length) && distR f.vars (f.ps.map Arg.co)
def newNm (l : List CF) (s : ByteArray) : Bool := l.all fun g => !(s.toList == g.nm.toList)
def hdF (C : Cg) (i : Nat) (f : CF) : Bool := hd1 f && (newNm (C.funs.take i) f.nm && f.ps.all (parK C i))
def hdFs (C : Cg) : Nat → List CF → Bool
  | _, [] => true
  | i, f :: r => hdF C i f && hdFs C (i + 1) r
def headsB (C : Cg) : Bool := decide (1 ≤ C.funs.length) && decide (C.funs.length ≤ 12) && hdFs C 0 C.funs
theorem hdFs_step {C : Cg} {l : List CF} {i k : Nat} (h : k < l.length) : hdFs C i (l.drop k) = (hdF C i l[k] && hdFs C (i + 1) (l.drop (k + 1))) := by
  rw [List.drop_eq_getElem_cons h, hdFs]
theorem hdFs_end {C : Cg} {l : List CF} {i k : Nat} (h : l.length ≤ k) : hdFs C i (l.drop k) = true := by
  rw [List.drop_eq_nil_of_le h, hdFs]
set_option maxHeartbeats 16000000 in
set_option maxRecDepth 100000 in
theorem heads6_any (vd vf : Value) (C : Cg) (w : World) (hC : RCg w vd vf C) (hS : ShC C) :
    Calls Tryz.prog 24 #[cV vd vf] w fun e w' => e = .returned (.bool (headsB C)) ∧ Ext w w' := by
  have HC := Lib.hid hC; have HS := Lib.hid hS
  obtain ⟨Ad, cd, rfl, -, hmd⟩ := hC.d.form
  obtain ⟨Af, cf, rfl, hcf, hmf⟩ := hC.f.form
  unfold maxLen at hmd hmf
  have hdl := hS.dl
  have HE1 := Lib.hid (Ext.al w (.cells #[.slice Ad C.decls.length cd, .slice Af C.funs.length cf] 25))
  have HB1 := Lib.hid (heapNew w (.cells #[.slice Ad C.decls.length cd, .slice Af C.funs.length cf] 25))
  have HR : Hid (headsB C = (decide (1 ≤ C.funs.length) && decide (C.funs.length ≤ 12) && hdFs C 0 C.funs)) := rfl
  generalize headsB C = R at *
  clear hC hS
  by_cases h1 : 1 ≤ C.funs.length
  rotate_left
  · have HRF : Hid (R = false) := by show _ = _; rw [HR.out, decide_eq_false h1]; rfl
    have h0 : (C.funs.length : Int) < 1 := by omega
    go_enter Tryz.func24, Tryz.ntmps24
    go_wp2
    go_ret
    exact ⟨ret_bool HRF.out.symm, HE1.out⟩
  have hi1 : ¬ ((C.funs.length : Int) < 1) := by omega
  by_cases h2 : C.funs.length ≤ 12
  rotate_left
  · have HRF : Hid (R = false) := by show _ = _; rw [HR.out, decide_eq_false h2]; simp
    have h0 : (12 : Int) < C.funs.length := by omega
    go_enter Tryz.func24, Tryz.ntmps24
    go_wp2
    go_ret
    exact ⟨ret_bool HRF.out.symm, HE1.out⟩
  have hi2 : ¬ ((12 : Int) < C.funs.length) := by omega
  rw [decide_eq_true h1, decide_eq_true h2] at HR
  go_enter Tryz.func24, Tryz.ntmps24
  go_wp2
  generalize w.alloc _ = w1 at *
  go_loopw [22] (fun i wr => ∃ j : Nat, j ≤ C.funs.length ∧ i = .int .i64 j ∧ hdFs C 0 C.funs = hdFs C j (C.funs.drop j) ∧ Ext w1 wr) (fun i _ => C.funs.length - (intOf i).toNat)
  case atStart => exact ⟨0, Nat.zero_le _, rfl, rfl, Ext.rf _⟩
  case round =>
    obtain ⟨j, hj, rfl, hd, hx⟩ := hrel
    have HD := Lib.hid hd; have HX2 := Lib.hid hx
    have HX := Lib.hid (HE1.out.tr hx)
    have hp2 := hx.lt HB1.out
    have HPR := Lib.hid hp2
    have p0 := cellAt hp2 0
    have p1 := cellAt hp2 1
    clear hd hx hp2
    by_cases hlt : j < C.funs.length
    · obtain ⟨b, o, vp, vv, xa, xb, kk, rfl, hbl, y0, y1, y2, yn, hnm, hps, hvs, hbody⟩ := HC.out.f.at_ hlt
      have y0 := HX.out.keep y0
      have y1 := HX.out.keep y1
      have y2 := HX.out.keep y2
      obtain ⟨c0, c1, c2, c3, c4⟩ := yn.below HX.out
      obtain ⟨hfp, hfv, hfo⟩ := HS.out.fn _ (List.getElem_mem hlt)
      have HST := Lib.hid (hdFs_step (C := C) (i := j) hlt)
      have HPS := Lib.hid hps; have HVS := Lib.hid hvs; have HNM := Lib.hid hnm; have HFO := Lib.hid hfo
      obtain ⟨_, ⟨Ax, cx, rfl, -, -⟩, ⟨Bx, dx, rfl, -, -⟩⟩ := hbody.form
      obtain ⟨Ap, cp, rfl, -, hmp⟩ := hps.form
      obtain ⟨Av, cv, rfl, -, -⟩ := hvs.form
      clear yn hnm hps hvs hbody hfo
      unfold maxLen at hmp
      have hjl : (j : Int) < C.funs.length := by omega
      have HFJ : Hid (∃ f, C.funs[j] = f) := ⟨_, rfl⟩
      generalize C.funs[j] = f at *
      have HEX := Lib.hid (Ext.al wr (.cells #[.string f.nm, .slice Ap f.ps.length cp, .slice Av f.vars.length cv, .int .i64 f.body.op, .int .i64 f.body.n, .int .i64 f.body.ty, .slice Ax f.body.args.length cx, .slice Bx f.body.brs.length dx] 53))
      have HNX := Lib.hid (heapNew wr (.cells #[.string f.nm, .slice Ap f.ps.length cp, .slice Av f.vars.length cv, .int .i64 f.body.op, .int .i64 f.body.n, .int .i64 f.body.ty, .slice Ax f.body.args.length cx, .slice Bx f.body.brs.length dx] 53))
      go_wp2
      have HX3 : Hid (Ext w (wr.alloc (.cells #[.string f.nm, .slice Ap f.ps.length cp, .slice Av f.vars.length cv, .int .i64 f.body.op, .int .i64 f.body.n, .int .i64 f.body.ty, .slice Ax f.body.args.length cx, .slice Bx f.body.brs.length dx] 53))) := HX.out.tr HEX.out
      have HB3 := Lib.hid (HEX.out.lt HPR.out)
      have HX13 : Hid (Ext w1 (wr.alloc (.cells #[.string f.nm, .slice Ap f.ps.length cp, .slice Av f.vars.length cv, .int .i64 f.body.op, .int .i64 f.body.n, .int .i64 f.body.ty, .slice Ax f.body.args.length cx, .slice Bx f.body.brs.length dx] 53))) := HX2.out.tr HEX.out
      generalize wr.alloc _ = w3 at *
      clear p0 p1 y0 y1 y2 c0 c1 c2 c3 c4
      have HCX : Hid (∀ W, Ext w3 W → W.cell? ⟨wr.heap.size, 0, none⟩ = some (.string f.nm) ∧ W.cell? ⟨wr.heap.size, 1, none⟩ = some (.slice Ap f.ps.length cp) ∧ W.cell? ⟨wr.heap.size, 2, none⟩ = some (.slice Av f.vars.length cv)) := fun W h => ⟨cellAt (h.lt HNX.out) 0, cellAt (h.lt HNX.out) 1, cellAt (h.lt HNX.out) 2⟩
      obtain ⟨f0, f1, f2⟩ := HCX.out w3 (Ext.rf _)
      have HNA : Hid (∀ W, Calls Tryz.prog 52 #[.string f.nm] W fun e w' => e = .returned (.bool (nameB f.nm)) ∧ Ext W w') := fun W => Name_any f.nm W HNM.out
      have HH1 : Hid (hd1 f = (nameB f.nm && decide (f.ps.length ≤ 6) && decide (f.vars.length = f.ps.length) && distR f.vars (f.ps.map Arg.co))) := rfl
      have HHF : Hid (hdF C j f = (hd1 f && (newNm (C.funs.take j) f.nm && f.ps.all (parK C j)))) := rfl
      have hmx : Tryz.prog.follows .mixedOrders = true := by kernel_rfl
      cases hna : nameB f.nm
      · rw [hna] at HNA HH1
        have HRF : Hid (R = false) := by show _ = _; rw [HR.out, HD.out, HST.out, HHF.out, HH1.out]; rfl
        have k0 := ExtOf.cell f0
        have k1 := ExtOf.cell f1
        have k2 := ExtOf.cell f2
        clear f0 f1 f2 hna
        refine wp_region_ext (w0 := w3) hmx (by kernel_rfl) (Ext.rf _) ?_
        repeat (first | go_big_quiet_step ((go_at_call 52; with_reducible exact Calls.ext_of (HNA.out _))) | quiet_step ((go_at_call 52; with_reducible exact Calls.ext_of (HNA.out _))))
        refine wpQuiet_nil ?_
        rintro w9 ⟨⟨_, hx⟩, rfl⟩
        have HX9 := Lib.hid hx
        go_wp2
        go_ret
        exact ⟨ret_bool HRF.out.symm, HX3.out.tr HX9.out⟩
      rw [hna] at HNA HH1
      have HNE : Hid (∀ W, Ext w3 W → Calls Tryz.prog 52 #[.string f.nm] W fun e w' => e = .returned (.bool true) ∧ Ext w3 w') := fun W hW => (HNA.out W).mono (fun _ _ h => ⟨h.1, hW.tr h.2⟩)
      clear hna
      by_cases h6 : f.ps.length ≤ 6
      rotate_left
      · have HRF : Hid (R = false) := by show _ = _; rw [HR.out, HD.out, HST.out, HHF.out, HH1.out, decide_eq_false h6]; rfl
        have c6 : decide ((6 : Int) < (f.ps.length : Int)) = true := decide_eq_true (by omega)
        have k0 := ExtOf.cell f0
        have k1 := ExtOf.cell f1
        have k2 := ExtOf.cell f2
        clear f0 f1 f2
        refine wp_region_ext (w0 := w3) hmx (by kernel_rfl) (Ext.rf _) ?_
        repeat (first | go_big_quiet_step ((go_at_call 52; with_reducible exact Calls.ext_of (HNA.out _))) | quiet_step ((go_at_call 52; with_reducible exact Calls.ext_of (HNA.out _))))
        refine wpQuiet_nil ?_
        rintro w9 ⟨⟨_, hx⟩, rfl⟩
        have HX9 := Lib.hid hx
        go_wp2
        go_ret
        exact ⟨ret_bool HRF.out.symm, HX3.out.tr HX9.out⟩
      have c6 : decide ((6 : Int) < (f.ps.length : Int)) = false := decide_eq_false (by omega)
      have h6i : ¬ ((6 : Int) < (f.ps.length : Int)) := by omega
      rw [decide_eq_true h6] at HH1
      by_cases hlv : f.vars.length = f.ps.length
      rotate_left
      · have HRF : Hid (R = false) := by show _ = _; rw [HR.out, HD.out, HST.out, HHF.out, HH1.out, decide_eq_false hlv]; rfl
        have e1 : ((f.vars.length : Int) == (f.ps.length : Int)) = false := by simpa using fun e => hlv (by omega)
        have e2 : ((f.vars.length : Int) != (f.ps.length : Int)) = true := by rw [bne, e1]; rfl
        have k0 := ExtOf.cell f0
        have k1 := ExtOf.cell f1
        have k2 := ExtOf.cell f2
        clear f0 f1 f2 hlv
        refine wp_region_ext (w0 := w3) hmx (by kernel_rfl) (Ext.rf _) ?_
        repeat (first | go_big_quiet_step ((go_at_call 52; with_reducible exact Calls.ext_of (HNA.out _))) | quiet_step ((go_at_call 52; with_reducible exact Calls.ext_of (HNA.out _))))
        refine wpQuiet_nil ?_
        rintro w9 ⟨⟨_, hx⟩, rfl⟩
        have HX9 := Lib.hid hx
        go_wp2
        go_ret
        exact ⟨ret_bool HRF.out.symm, HX3.out.tr HX9.out⟩
      rw [decide_eq_true hlv] at HH1
      obtain ⟨qs, hqs⟩ : ∃ qs, f.ps.map Arg.co = qs := ⟨_, rfl⟩
      obtain ⟨q, hq⟩ : ∃ q, distR f.vars qs = q := ⟨_, rfl⟩
      rw [hqs, hq] at HH1
      have HCO : Hid (∀ W, Ext w3 W → Calls Tryz.prog 55 #[.slice Ap f.ps.length cp] W fun e w' => (∃ u, e = .returned u ∧ RBools w' u qs) ∧ Ext w3 w') := fun W hW => by
        refine (cos6_any (.slice Ap f.ps.length cp) f.ps W ((HPS.out.below HX3.out).below hW) hfp).mono ?_
        rintro e w' ⟨⟨u, rfl, h1⟩, h2⟩
        rw [hqs] at h1
        exact ⟨⟨u, rfl, h1⟩, hW.tr h2⟩
      have HDI : Hid (∀ W u, Ext w3 W → RBools W u qs → Calls Tryz.prog 54 #[.slice Av f.ps.length cv, u] W fun e w' => e = .returned (.bool q) ∧ Ext w3 w') := fun W u hW hu => by
        rw [← hlv, ← hq]
        refine (distinct6_any (.slice Av f.vars.length cv) u f.vars qs W ((HVS.out.below HX3.out).below hW) hu (by rw [← hqs, List.length_map]; omega)).mono ?_
        rintro e w' ⟨rfl, h2⟩
        exact ⟨rfl, hW.tr h2⟩
      rw [hlv] at HCX f2
      clear hlv hqs hq
      go_region_held3 (fun W => W.cell? ⟨wr.heap.size, 0, none⟩ = some (.string f.nm) ∧ W.cell? ⟨wr.heap.size, 1, none⟩ = some (.slice Ap f.ps.length cp) ∧ W.cell? ⟨wr.heap.size, 2, none⟩ = some (.slice Av f.ps.length cv))
        (first | exact HCX.out _ (Ext.rf _).drew | exact HCX.out _ HX7.out | exact HCX.out _ HX8.out | exact HCX.out _ HX9.out | fail "KEEP")
        (first
          | (go_at_call 52; (with_reducible refine (HNE.out _ (by first | exact (Ext.rf _).drew | exact Ext.rf _)).mono ?_); rintro e w7 ⟨rfl, hx7⟩; have HX7 := Lib.hid hx7; clear hx7)
          | (go_at_call 55; (with_reducible refine (HCO.out _ HX7.out).mono ?_); rintro e w8 ⟨⟨u, rfl, hu⟩, hx8⟩; have HU := Lib.hid hu; have HX8 := Lib.hid hx8; clear hu hx8)
          | (go_at_call 54; (with_reducible refine (HDI.out _ _ HX8.out HU.out).mono ?_); rintro e w9 ⟨rfl, hx9⟩; have HX9 := Lib.hid hx9; clear hx9)
          | fail "ARM")
      cases q
      · have HRF : Hid (R = false) := by show _ = _; rw [HR.out, HD.out, HST.out, HHF.out, HH1.out]; rfl
        go_wp2
        go_ret
        exact ⟨ret_bool HRF.out.symm, HX3.out.tr HX9.out⟩
      have HHF2 : Hid (hdF C j f = (newNm (C.funs.take j) f.nm && f.ps.all (parK C j))) := by show _ = _; rw [HHF.out, HH1.out]; rfl
      have HB9 := Lib.hid (HX9.out.lt HB3.out)
      have HN9 := Lib.hid (HX9.out.lt HNX.out)
      have HX39 := Lib.hid (HX3.out.tr HX9.out)
      have HX19 := Lib.hid (HX13.out.tr HX9.out)
      clear HNE HNA HCO HDI HCX f0 f1 f2 HHF HH1
      have p1 := cellAt HB9.out 1
      have hj0 : (0 : Int) ≤ j := by omega
      have hjc : (j : Int) ≤ cf := by omega
      go_wp2
      clear p1
      go_loopw [60] (fun i wr => ∃ k : Nat, k ≤ j ∧ i = .int .i64 k ∧ newNm (C.funs.take j) f.nm = newNm ((C.funs.take j).drop k) f.nm ∧ Ext w9 wr) (fun i _ => j - (intOf i).toNat)
      case atStart => exact ⟨0, Nat.zero_le _, rfl, rfl, Ext.rf _⟩
      case round =>
        obtain ⟨k, hk, rfl, hd, hx⟩ := hrel
        have HDK := Lib.hid hd; have HXK := Lib.hid hx
        have HFK := Lib.hid (hx.lt HN9.out)
        have HBK := Lib.hid (hx.lt HB9.out)
        have HXW := Lib.hid (HX39.out.tr hx)
        have f0 := cellAt HFK.out 0
        have f1 := cellAt HFK.out 1
        clear hd hx
        by_cases hkj : k < j
        · have hkl : k < C.funs.length := by omega
          obtain ⟨b2, o2, vp2, vv2, xa2, xb2, kk2, hbe, hbl2, z0, z1, z2, zn, -, hps2, hvs2, hbody2⟩ := HC.out.f.at_ hkl
          cases hbe
          have z0 := HXW.out.keep z0
          have z1 := HXW.out.keep z1
          have z2 := HXW.out.keep z2
          obtain ⟨d0, d1, d2, d3, d4⟩ := zn.below HXW.out
          obtain ⟨_, ⟨Ax2, cx2, rfl, -, -⟩, ⟨Bx2, dx2, rfl, -, -⟩⟩ := hbody2.form
          obtain ⟨Ap2, cp2, rfl, -, -⟩ := hps2.form
          obtain ⟨Av2, cv2, rfl, -, -⟩ := hvs2.form
          have HSK : Hid (newNm ((C.funs.take j).drop k) f.nm = (!(f.nm.toList == (C.funs[k]).nm.toList) && newNm ((C.funs.take j).drop (k + 1)) f.nm)) := by
            show _ = _
            unfold newNm
            rw [List.drop_eq_getElem_cons (by rw [List.length_take]; omega), List.all_cons, List.getElem_take]
          clear zn hps2 hvs2 hbody2
          generalize C.funs[k] = g at *
          have HEK := Lib.hid (Ext.al wr (.cells #[.string g.nm, .slice Ap2 g.ps.length cp2, .slice Av2 g.vars.length cv2, .int .i64 g.body.op, .int .i64 g.body.n, .int .i64 g.body.ty, .slice Ax2 g.body.args.length cx2, .slice Bx2 g.body.brs.length dx2] 53))
          have g0 := cellAt (heapNew wr (.cells #[.string g.nm, .slice Ap2 g.ps.length cp2, .slice Av2 g.vars.length cv2, .int .i64 g.body.op, .int .i64 g.body.n, .int .i64 g.body.ty, .slice Ax2 g.body.args.length cx2, .slice Bx2 g.body.brs.length dx2] 53)) 0
          have f0' := HEK.out.keep f0
          have hkji : (k : Int) < j := by omega
          cases hqq : (f.nm.toList == g.nm.toList)
          · rw [hqq] at HSK
            go_wp2
            exact ⟨⟨k + 1, by omega, by go_num, by rw [HDK.out, HSK.out]; rfl, HXK.out.tr HEK.out⟩, by simp [intOf]; omega⟩
          · rw [hqq] at HSK
            have HRF : Hid (R = false) := by show _ = _; rw [HR.out, HD.out, HST.out, HHF2.out, HDK.out, HSK.out]; rfl
            go_wp2
            go_ret
            exact ⟨ret_bool HRF.out.symm, HXW.out.tr HEK.out⟩
        · have hke : k = j := by omega
          subst hke
          have HNN : Hid (newNm (C.funs.take k) f.nm = true) := by
            show _ = _
            rw [HDK.out, List.drop_eq_nil_of_le (by rw [List.length_take]; omega)]; rfl
          have HHF3 : Hid (hdF C k f = f.ps.all (parK C k)) := by show _ = _; rw [HHF2.out, HNN.out]; rfl
          go_wp2
          generalize wr = wz at *
          clear f0 f1
          go_loopw [73] (fun i wr => ∃ m : Nat, m ≤ f.ps.length ∧ i = .int .i64 m ∧ f.ps.all (parK C k) = (f.ps.drop m).all (parK C k) ∧ Ext wz wr) (fun i _ => f.ps.length - (intOf i).toNat)
          case atStart => exact ⟨0, Nat.zero_le _, rfl, rfl, Ext.rf _⟩
          case round =>
            obtain ⟨m, hm, rfl, hd, hx⟩ := hrel
            have HDM := Lib.hid hd
            have HXZ := Lib.hid hx
            have HXM := Lib.hid (HXK.out.tr hx)
            have HXW2 := Lib.hid (HXW.out.tr hx)
            have HBM := Lib.hid (hx.lt HBK.out)
            have HFM := Lib.hid (hx.lt HFK.out)
            have p0 := cellAt HBM.out 0
            have f1 := cellAt HFM.out 1
            clear hd hx
            by_cases hml : m < f.ps.length
            · obtain ⟨b3, o3, rfl, hbl3, z0, z1⟩ := HPS.out.at_ hml
              have z0 := HXW2.out.keep z0
              have z1 := HXW2.out.keep z1
              have HSM := Lib.hid (all_drop (p := parK C k) hml)
              generalize f.ps[m] = x at *
              have HEM := Lib.hid (Ext.al wr (.cells #[.int .i64 x.ty, .bool x.co] 114))
              have HNM2 := heapNew wr (.cells #[.int .i64 x.ty, .bool x.co] 114)
              have q0 := cellAt HNM2 0
              have q1 := cellAt HNM2 1
              have p0' := HEM.out.keep p0
              clear HNM2
              have hmi : (m : Int) < f.ps.length := by omega
              have HPK : Hid (parK C k x = ((decide (0 ≤ x.ty) && decide (x.ty ≤ C.decls.length)) && !(decide (k = 0) && (x.co || !decide (x.ty = 0))))) := rfl
              have HBAD : Hid (parK C k x = false → R = false) := fun h => by rw [HR.out, HD.out, HST.out, HHF3.out, HDM.out, HSM.out, h]; rfl
              have HGOOD : Hid (parK C k x = true → f.ps.all (parK C k) = (f.ps.drop (m + 1)).all (parK C k)) := fun h => by rw [HDM.out, HSM.out, h]; rfl
              by_cases g0 : 0 ≤ x.ty
              rotate_left
              · have HRF : Hid (R = false) := HBAD.out (by rw [HPK.out, decide_eq_false g0]; rfl)
                have g0' : x.ty < 0 := by omega
                go_wp2
                go_ret
                exact ⟨ret_bool HRF.out.symm, HXW2.out.tr HEM.out⟩
              have g0' : ¬ x.ty < 0 := by omega
              by_cases g1 : x.ty ≤ C.decls.length
              rotate_left
              · have HRF : Hid (R = false) := HBAD.out (by rw [HPK.out, decide_eq_false g1, decide_eq_true g0]; rfl)
                have g1' : (C.decls.length : Int) < x.ty := by omega
                go_wp2
                go_ret
                exact ⟨ret_bool HRF.out.symm, HXW2.out.tr HEM.out⟩
              have g1' : ¬ (C.decls.length : Int) < x.ty := by omega
              rw [decide_eq_true g0, decide_eq_true g1] at HPK
              by_cases gj : k = 0
              rotate_left
              · have HG := Lib.hid (HGOOD.out (by rw [HPK.out, decide_eq_false gj]; rfl))
                have gj' : ((k : Int) == 0) = false := by simp; omega
                go_wp2
                exact ⟨⟨m + 1, by omega, by go_num, HG.out, HXZ.out.tr HEM.out⟩, by simp [intOf]; omega⟩
              rw [decide_eq_true gj] at HPK
              have gj' : ((k : Int) == 0) = true := by simp [gj]
              have gk : (k : Int) = 0 := by omega
              clear gj
              cases hco : x.co
              rotate_left
              · rw [hco] at HPK q1
                have HRF : Hid (R = false) := HBAD.out (by rw [HPK.out]; rfl)
                rw [hco] at z1
                rw [hco] at HEM p0' q0
                clear hco
                go_wp2
                go_ret
                exact ⟨ret_bool HRF.out.symm, HXW2.out.tr HEM.out⟩
              rw [hco] at HPK q1 z1 HEM p0' q0
              clear hco
              by_cases gt : x.ty = 0
              rotate_left
              · have HRF : Hid (R = false) := HBAD.out (by rw [HPK.out, decide_eq_false gt]; rfl)
                have gt1 : (x.ty == 0) = false := by simpa using gt
                have gt2 : (x.ty != 0) = true := by rw [bne, gt1]; rfl
                go_wp2
                go_ret
                exact ⟨ret_bool HRF.out.symm, HXW2.out.tr HEM.out⟩
              · have HG := Lib.hid (HGOOD.out (by rw [HPK.out, decide_eq_true gt]; rfl))
                have gt1 : (x.ty == 0) = true := by simpa using gt
                have gt2 : (x.ty != 0) = false := by rw [bne, gt1]; rfl
                clear gt
                go_wp2
                exact ⟨⟨m + 1, by omega, by go_num, HG.out, HXZ.out.tr HEM.out⟩, by simp [intOf]; omega⟩
            · have HG : Hid (hdFs C 0 C.funs = hdFs C (k + 1) (C.funs.drop (k + 1))) := by
                show _ = _
                rw [HD.out, HST.out, HHF3.out, HDM.out, List.drop_eq_nil_of_le (by omega)]; rfl
              go_wp2
              exact ⟨⟨k + 1, by omega, by go_num, HG.out, (HX19.out.tr HXM.out)⟩, by simp [intOf]; omega⟩
    · have hje : j = C.funs.length := by omega
      have HRT : Hid (R = true) := by show _ = _; rw [HR.out, HD.out, hdFs_end (by omega)]; rfl
      go_wp2
      go_ret
      exact ⟨ret_bool HRT.out.symm, HX.out⟩
end Go.Proofs.YtkdhhcidpklgoaaGreatDoor

/- ref06: what the reference asks of a program is what the package asks. -/
namespace Go.Proofs.YtkdhhcidpklgoaaGreatDoor
open Go.RowKit

mutual
/-- In a valid node every node counts. -/
theorem cnt_sz (C : Cg) : ∀ (t : Nd) (S : Sc), sortN C S t ≠ 3 → cntN t = szN t
  | .mk op n ty args brs, S, h => by
    have hA : ∀ x ∈ args, sortN C (addS S (muV op n)) x ≠ 3 := fun x hx => by
      obtain ⟨i, hi, rfl⟩ := List.getElem_of_mem hx
      exact sort_arg h (i := i) (List.getElem?_eq_getElem hi)
    have hB : ∀ b ∈ brs, sortN C (addS S (zipCo b.1 b.2.1)) b.2.2 ≠ 3 := fun b hb => by
      obtain ⟨i, hi, rfl⟩ := List.getElem_of_mem hb
      obtain ⟨_, _, _, _, h4⟩ := sort_br h (i := i) (List.getElem?_eq_getElem hi)
      rw [h4]; decide
    have h1 := cnt_szA C args _ hA
    have h2 := cnt_szB C brs S hB
    rw [cntN, szN]
    cases hl : leafB op
    · rw [h1, h2]; rfl
    · obtain ⟨e1, e2⟩ := leaf_lists h hl
      have e1 : args = [] := e1
      have e2 : brs = [] := e2
      rw [e1, e2]; rfl
theorem cnt_szA (C : Cg) : ∀ (l : List Nd) (S : Sc), (∀ x ∈ l, sortN C S x ≠ 3) → cntA l = szA l
  | [], _, _ => rfl
  | a :: r, S, h => by
    have h1 := cnt_sz C a S (h a (List.mem_cons_self ..))
    have h2 := cnt_szA C r S (fun x hx => h x (List.mem_cons_of_mem _ hx))
    rw [cntA, szA, h1, h2]
theorem cnt_szB (C : Cg) : ∀ (l : List Br) (S : Sc), (∀ b ∈ l, sortN C (addS S (zipCo b.1 b.2.1)) b.2.2 ≠ 3) → cntB l = szB l
  | [], _, _ => rfl
  | (v, c, t) :: r, S, h => by
    have h1 := cnt_sz C t _ (h (v, c, t) (List.mem_cons_self ..))
    have h2 := cnt_szB C r S (fun x hx => h x (List.mem_cons_of_mem _ hx))
    rw [cntB, szB, h1, h2]
end
/-- The scope of a function. -/
def scF (f : CF) : Sc := addS (fun _ => false) (zipCo f.vars (f.ps.map Arg.co))
def bodyK (C : Cg) (f : CF) : Bool := decide (dpN f.body ≤ 4000) && (decide (kindI f.body.op = 3) && vN C (scF f) f.body)
def isL (C : Cg) : Int → List CF → Bool
  | total, [] => decide (total ≤ 30000)
  | total, f :: r => (decide ((cntN f.body : Int) ≤ 30000) && bodyK C f) && isL C (total + szN f.body) r
/-- What the reference asks of a program. -/
def isR (C : Cg) : Bool := validB C.decls && headsB C && isL C 0 C.funs
theorem isL_step {C : Cg} {l : List CF} {m : Int} {k : Nat} (h : k < l.length) : isL C m (l.drop k) = ((decide ((cntN (l[k]).body : Int) ≤ 30000) && bodyK C l[k]) && isL C (m + szN (l[k]).body) (l.drop (k + 1))) := by
  rw [List.drop_eq_getElem_cons h, isL]
theorem isL_end {C : Cg} {l : List CF} {m : Int} {k : Nat} (h : l.length ≤ k) : isL C m (l.drop k) = decide (m ≤ 30000) := by
  rw [List.drop_eq_nil_of_le h, isL]
def sumS : List CF → Nat
  | [] => 0
  | f :: r => szN f.body + sumS r
theorem isL_iff (C : Cg) : ∀ (l : List CF) (m : Int), isL C m l = true ↔ (∀ f ∈ l, (cntN f.body : Int) ≤ 30000 ∧ bodyK C f = true) ∧ m + sumS l ≤ 30000
  | [], m => by simp [isL, sumS]
  | f :: r, m => by
    have ih := isL_iff C r (m + szN f.body)
    rw [isL]
    simp only [Bool.and_eq_true, decide_eq_true_eq, ih, List.mem_cons, sumS, Int.natCast_add]
    constructor
    · rintro ⟨⟨h1, h2⟩, h3, h4⟩
      exact ⟨fun g hg => by rcases hg with rfl | hg; exact ⟨h1, h2⟩; exact h3 g hg, by omega⟩
    · rintro ⟨h1, h2⟩
      exact ⟨h1 f (.inl rfl), fun g hg => h1 g (.inr hg), by omega⟩
theorem sizesC_iff : ∀ (l : List CF) (m : Int), 0 ≤ m → (sizesC m l = true ↔ (∀ f ∈ l, dpN f.body ≤ 4000) ∧ (sumS l : Int) ≤ m)
  | [], m, h => by simp [sizesC, sumS]; omega
  | f :: r, m, h => by
    rw [sizesC, sizeC_sz]
    by_cases hq : (szN f.body : Int) ≤ m ∧ (dpN f.body : Int) ≤ 4000
    · rw [if_pos hq]
      have ih := sizesC_iff r (m - szN f.body) (by omega)
      simp only [Bool.true_and, ih, List.mem_cons, sumS, Int.natCast_add]
      constructor
      · rintro ⟨h1, h2⟩
        exact ⟨fun g hg => by rcases hg with rfl | hg; omega; exact h1 g hg, by omega⟩
      · rintro ⟨h1, h2⟩
        exact ⟨fun g hg => h1 g (.inr hg), by omega⟩
    · rw [if_neg hq]
      simp only [Bool.false_and, Bool.false_eq_true, false_iff, List.mem_cons, sumS, Int.natCast_add]
      rintro ⟨h1, h2⟩
      have := h1 f (.inl rfl)
      exact hq ⟨by omega, by omega⟩
/-- What is asked of a function's head, apart from its name and from what is asked of main. -/
def okF (C : Cg) (f : CF) : Bool := decide (f.ps.length ≤ 6) && (decide (f.vars.length = f.ps.length) && distR f.vars (f.ps.map Arg.co)) && f.ps.all (fun a => isTypeC C a.ty)
def preF (l : List CF) (x : ByteArray) : Bool := l.any fun g => x.toList == g.nm.toList
theorem newNm_pre (l : List CF) (s : ByteArray) : newNm l s = !preF l s := by
  unfold newNm preF
  rw [List.all_eq_not_any_not]
  simp
theorem all_and {α : Type} (p q : α → Bool) : ∀ l : List α, (l.all fun a => p a && q a) = (l.all p && l.all q)
  | [] => rfl
  | a :: r => by
    simp only [List.all_cons, all_and p q r]
    cases p a <;> cases q a <;> cases r.all p <;> rfl
theorem parK_all (C : Cg) (i : Nat) (f : CF) : f.ps.all (parK C i) = (f.ps.all (fun a => isTypeC C a.ty) && (!decide (i = 0) || mainC f)) := by
  unfold mainC
  by_cases hi : i = 0
  · subst hi
    have : ∀ a, parK C 0 a = (isTypeC C a.ty && (decide (a.ty = 0) && !a.co)) := fun a => by
      unfold parK isTypeC
      cases a.co <;> by_cases h : a.ty = 0 <;> simp [h]
    rw [show f.ps.all (parK C 0) = f.ps.all (fun a => isTypeC C a.ty && (decide (a.ty = 0) && !a.co)) from by congr 1; funext a; exact this a, all_and]
    simp
  · have : ∀ a, parK C i a = isTypeC C a.ty := fun a => by
      unfold parK isTypeC
      rw [decide_eq_false hi]; simp
    rw [show f.ps.all (parK C i) = f.ps.all (fun a => isTypeC C a.ty) from by congr 1; funext a; exact this a, decide_eq_false hi]
    simp
theorem hdFs_eq (C : Cg) : ∀ (l pre : List CF), C.funs = pre ++ l → hdFs C pre.length l = (distCF (preF pre) l && l.all (okF C) && (!decide (pre.length = 0) || mainC (l.headD noCF)))
  | [], pre, h => by
    rw [hdFs]
    have : mainC (([] : List CF).headD noCF) = true := rfl
    rw [this]; simp [distCF]
  | f :: r, pre, h => by
    have ih := hdFs_eq C r (pre ++ [f]) (by rw [h]; simp)
    rw [List.length_append, List.length_singleton] at ih
    rw [hdFs, ih]
    have ht : C.funs.take pre.length = pre := by rw [h]; simp
    have hp : preF (pre ++ [f]) = fun x => (x.toList == f.nm.toList) || preF pre x := by
      funext x; unfold preF; rw [List.any_append, Bool.or_comm]; simp
    rw [hp, distCF, List.all_cons]
    unfold hdF hd1
    rw [ht, newNm_pre, parK_all]
    have hz : decide (pre.length + 1 = 0) = false := decide_eq_false (by omega)
    rw [hz]
    show _ = (nameB f.nm && !preF pre f.nm && distCF (fun x => (x.toList == f.nm.toList) || preF pre x) r && ((okF C f) && r.all (okF C)) && (!decide (pre.length = 0) || mainC f))
    unfold okF
    generalize distCF _ r = D
    generalize r.all _ = A
    generalize (!decide (pre.length = 0) || mainC f) = M
    generalize f.ps.all _ = T
    generalize distR _ _ = R
    generalize nameB _ = N
    generalize preF pre _ = P
    generalize decide (f.ps.length ≤ 6) = a
    generalize decide (f.vars.length = f.ps.length) = b
    cases D <;> cases A <;> cases M <;> cases T <;> cases R <;> cases N <;> cases P <;> cases a <;> cases b <;> rfl
theorem funC_eq (C : Cg) (f : CF) : funC C f = (okF C f && (decide (kindI f.body.op = 3) && vN C (scF f) f.body)) := by
  unfold funC okF
  rw [bindsB_ref, sort_is (S := addS (fun _ => false) (zipCo f.vars (f.ps.map Arg.co))) (by decide) (by decide), eqB_refl, Bool.and_true]
  unfold scF
  generalize distR _ _ = R
  generalize f.ps.all _ = T
  generalize vN C _ _ = V
  generalize decide (f.ps.length ≤ 6) = a
  generalize decide (f.vars.length = f.ps.length) = b
  have e : decide (kindI f.body.op = 2 + 1) = decide (kindI f.body.op = 3) := rfl
  rw [e]
  generalize decide (kindI f.body.op = 3) = k
  cases R <;> cases T <;> cases V <;> cases a <;> cases b <;> cases k <;> rfl
theorem isR_eq (C : Cg) : isR C = coreB C := by
  unfold isR coreB headsB
  have hh := hdFs_eq C C.funs [] rfl
  have hp : preF [] = fun _ => false := rfl
  rw [hp] at hh
  rw [show ([] : List CF).length = 0 from rfl] at hh
  rw [hh]
  rw [Bool.eq_iff_iff]
  simp only [Bool.and_eq_true, isL_iff, sizesC_iff C.funs 30000 (by decide), List.all_eq_true, funC_eq, decide_eq_true_eq, Bool.or_eq_true, Bool.not_eq_true', decide_eq_false_iff_not]
  constructor
  · rintro ⟨⟨h1, ⟨h2, h3⟩, ⟨h4, h5⟩, h6⟩, h7, h8⟩
    have h6 : mainC (C.funs.headD noCF) = true := by
      rcases h6 with h6 | h6
      · exact absurd trivial h6
      · exact h6
    refine ⟨⟨⟨h1, ⟨h2, h3⟩, h4⟩, h6, fun f hf => ?_, by omega⟩, fun f hf => ⟨h5 f hf, ?_⟩⟩
    · have := (h7 f hf).2
      unfold bodyK at this
      simp only [Bool.and_eq_true, decide_eq_true_eq] at this
      exact this.1
    · have := (h7 f hf).2
      unfold bodyK at this
      simp only [Bool.and_eq_true, decide_eq_true_eq] at this
      exact this.2
  · rintro ⟨⟨⟨h1, ⟨h2, h3⟩, h4⟩, h6, h7, h8⟩, h9⟩
    refine ⟨⟨h1, ⟨h2, h3⟩, ⟨h4, fun f hf => (h9 f hf).1⟩, .inr h6⟩, fun f hf => ⟨?_, ?_⟩, by omega⟩
    · have hv := (h9 f hf).2.2
      have hs : sortN C (scF f) f.body ≠ 3 := by
        intro e
        unfold vN at hv
        rw [e] at hv; cases hv
      rw [cnt_sz C _ _ hs]
      have hle : ∀ l : List CF, ∀ f ∈ l, szN f.body ≤ sumS l := by
        intro l
        induction l with
        | nil => intro f hf; cases hf
        | cons g r ih =>
          intro f hf
          rcases List.mem_cons.1 hf with rfl | hf
          · simp only [sumS]; omega
          · have := ih f hf
            simp only [sumS]; omega
      have := hle C.funs f hf
      omega
    · unfold bodyK
      rw [decide_eq_true (h7 f hf), decide_eq_true (h9 f hf).2.1, (h9 f hf).2.2]; rfl
/-- The reference's scope of a function is the package's. -/
theorem scF_par : ∀ (vs : List Int) (l : List Arg), vs.length = l.length → ∀ x : Vr, (varsOf 0 (parV false vs l) ++ varsOf 1 (parV true vs l)).any (fun y => x == y) = (zipCo vs (l.map Arg.co)).any (fun y => x == y)
  | [], [], _, x => rfl
  | v :: r, a :: l, h, x => by
    have ih := scF_par r l (by simpa using h) x
    have e1 : ∀ q, parV q (v :: r) (a :: l) = if a.co = q then v :: parV q r l else parV q r l := fun _ => rfl
    rw [e1, e1]
    generalize parV false r l = P at *
    generalize parV true r l = Q at *
    show _ = ((x == (coI a.co, v)) || (zipCo r (l.map Arg.co)).any fun y => x == y)
    rw [← ih]
    unfold varsOf
    cases a.co
    · simp [coI, Bool.or_assoc]
    · simp [coI]
      cases x == (1, v) <;> simp
  | [], _ :: _, h, _ => by simp at h
  | _ :: _, [], h, _ => by simp at h
end Go.Proofs.YtkdhhcidpklgoaaGreatDoor
