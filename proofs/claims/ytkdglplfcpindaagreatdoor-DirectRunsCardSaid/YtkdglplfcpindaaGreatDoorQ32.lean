import Derived.Test.YtkdglplfcpindaaGreatDoorQ31
import Derived.Deep.RegionLaw
set_option maxRecDepth 100000
namespace Go.Proofs.YtkdglplfcpindaaGreatDoor
open Go.RowKit
structure CR (P : Pg) (w0 w : World) (bad : Nat -> Prop) (mb : Nat) (vd vf : Value) : Prop where
  prog : progB P = true
  ext : Ext w0 w
  nb : NB bad w
  lo : w0.heap.size <= mb
  tu : bad mb
  ds : RDecls w0 vd P.decls
  fs : RFns w0 vf P.funs
def MA (w : World) (mb : Nat) (vd vf : Value) (fu en vl : Int) (ov : Value) (st : Int) (over : Value) : Prop :=
  ∃ tm t0 t1 t2 t3 t4 t5 ev v0 v1 v2 v3 v4 v5 kv, MZ w mb vd vf fu en vl ov st tm t0 t1 t2 t3 t4 t5 ev v0 v1 v2 v3 v4 v5 kv over
def RQ (P : Pg) (w0 w : World) (bad : Nat -> Prop) (mb : Nat) (vd vf : Value) (fu en vl : Int) (ov : Value) (st : Int) : Tk -> Prop
  | .ev t e k => ∃ va vc ev v0 v1 v2 v3 v4 v5 kv, MZ w mb vd vf fu en vl ov st (.bool true) (.int .i64 t.op) (.int .i64 t.n) (.string t.nm) (.int .i64 t.ty) va vc ev v0 v1 v2 v3 v4 v5 kv (.bool false) /\ RTx w0 t va vc /\ DR P w0 w bad (.e ev e.vs e.ls) /\ DR P w0 w bad (.k kv k)
  | .pass v k => ∃ t0 t1 t2 t3 t4 t5 ev v0 v1 v2 v3 v4 v5 kv, MZ w mb vd vf fu en vl ov st (.bool false) t0 t1 t2 t3 t4 t5 ev v0 v1 v2 v3 v4 v5 kv (.bool false) /\ DR P w0 w bad (.v #[v0, v1, v2, v3, v4, v5] v) /\ DR P w0 w bad (.k kv k)
section
variable {P : Pg} {w0 w w' : World} {bad : Nat -> Prop} {mb : Nat} {vd vf ov over : Value} {fu en vl st : Int}
theorem CR.ext' (h : CR P w0 w bad mb vd vf) (hx : Ext w w') : CR P w0 w' bad mb vd vf := ⟨h.prog, h.ext.tr hx, h.nb.ext hx, h.lo, h.tu, h.ds, h.fs⟩
theorem CR.only (h : CR P w0 w bad mb vd vf) (ho : Only (fun b => b = mb) w w') : CR P w0 w' bad mb vd vf :=
  ⟨h.prog, h.ext.trans (ho.below h.ext.size (fun b hb => hb ▸ h.lo)), fun b k => Nat.lt_of_lt_of_le (h.nb b k) ho.size, h.lo, h.tu, h.ds, h.fs⟩
theorem CR.kp (h : CR P w0 w bad mb vd vf) (ho : Only (fun b => b = mb) w w') : Kp bad bad w w' := Kp.of_only ho (fun _ hb => hb ▸ h.tu)
theorem MA.ext' (h : MA w mb vd vf fu en vl ov st over) (hx : Ext w w') : MA w' mb vd vf fu en vl ov st over := by
  obtain ⟨tm, t0, t1, t2, t3, t4, t5, ev, v0, v1, v2, v3, v4, v5, kv, h⟩ := h
  exact ⟨tm, t0, t1, t2, t3, t4, t5, ev, v0, v1, v2, v3, v4, v5, kv, h.ext hx⟩
theorem MA.cells (h : MA w mb vd vf fu en vl ov st over) : w.cell? ⟨mb, 0, none⟩ = some vd /\ w.cell? ⟨mb, 1, none⟩ = some vf /\ w.cell? ⟨mb, 2, none⟩ = some (.int .i64 fu) /\ w.cell? ⟨mb, 3, none⟩ = some (.int .i64 en) /\ w.cell? ⟨mb, 4, none⟩ = some (.int .i64 vl) /\ w.cell? ⟨mb, 5, none⟩ = some ov /\ w.cell? ⟨mb, 6, none⟩ = some (.int .i64 st) /\ w.cell? ⟨mb, 22, none⟩ = some over := by
  obtain ⟨tm, t0, t1, t2, t3, t4, t5, ev, v0, v1, v2, v3, v4, v5, kv, h⟩ := h
  exact ⟨cA h 0, cA h 1, cA h 2, cA h 3, cA h 4, cA h 5, cA h 6, cA h 22⟩
theorem RQ.ma {q : Tk} (h : RQ P w0 w bad mb vd vf fu en vl ov st q) : MA w mb vd vf fu en vl ov st (.bool false) := by
  cases q with
  | ev t e k => obtain ⟨va, vc, ev, v0, v1, v2, v3, v4, v5, kv, h, -⟩ := h; exact ⟨_, _, _, _, _, _, _, _, _, _, _, _, _, _, _, h⟩
  | pass v k => obtain ⟨t0, t1, t2, t3, t4, t5, ev, v0, v1, v2, v3, v4, v5, kv, h, -⟩ := h; exact ⟨_, _, _, _, _, _, _, _, _, _, _, _, _, _, _, h⟩
end
theorem evalQ (P : Pg) (w0 w : World) (bad : Nat -> Prop) (mb : Nat) (vd vf ov : Value) (fu en vl st : Int) (t : Tm) (e : En) (k : Kt) (va vc ev kv : Value) (hC : CR P w0 w bad mb vd vf) (hm : MA w mb vd vf fu en vl ov st (.bool false)) (ht : RTx w0 t va vc) (he : DR P w0 w bad (.e ev e.vs e.ls)) (hk : DR P w0 w bad (.k kv k)) :
    Calls Tryz.prog 27 #[.pointer (some ⟨mb, 0, none⟩), tV t va vc, ev, kv] w fun x w' => (x = .returned (.tuple #[]) /\ RQ P w0 w' bad mb vd vf fu en vl ov st (.ev t e k)) /\ Only (fun b => b = mb) w w' := by
  obtain ⟨A, n, c, B, m, d, rfl, rfl⟩ := ht.slices
  obtain ⟨p, rfl⟩ := he.e_form
  obtain ⟨b, rfl⟩ := hk.k_form
  obtain ⟨tm, t0, t1, t2, t3, t4, t5, ev, v0, v1, v2, v3, v4, v5, kv, hz⟩ := hm
  refine (eval_any w mb vd vf ov tm t0 t1 t2 t3 t4 t5 ev v0 v1 v2 v3 v4 v5 kv _ fu en vl st t A B n m c d p (some ⟨b, 0, none⟩) hz).mono ?_
  rintro x w' ⟨⟨rfl, h⟩, ho⟩
  exact ⟨⟨rfl, _, _, _, _, _, _, _, _, _, _, h, ht, he.kp (hC.kp ho), hk.kp (hC.kp ho)⟩, ho⟩
theorem passQ (P : Pg) (w0 w : World) (bad : Nat -> Prop) (mb : Nat) (vd vf ov : Value) (fu en vl st : Int) (v : Vl) (k : Kt) (a : Array Value) (kv : Value) (hC : CR P w0 w bad mb vd vf) (hm : MA w mb vd vf fu en vl ov st (.bool false)) (hv : DR P w0 w bad (.v a v)) (hk : DR P w0 w bad (.k kv k)) :
    Calls Tryz.prog 55 #[.pointer (some ⟨mb, 0, none⟩), .agg a, kv] w fun x w' => (x = .returned (.tuple #[]) /\ RQ P w0 w' bad mb vd vf fu en vl ov st (.pass v k)) /\ Only (fun b => b = mb) w w' := by
  obtain ⟨i, n, y, A1, n1, m1, A2, n2, m2, p, rfl⟩ := hv.v_form
  obtain ⟨b, rfl⟩ := hk.k_form
  obtain ⟨tm, t0, t1, t2, t3, t4, t5, ev, v0, v1, v2, v3, v4, v5, kv, hz⟩ := hm
  refine (passR_any w mb vd vf ov tm t0 t1 t2 t3 t4 t5 ev v0 v1 v2 v3 v4 v5 kv _ fu en vl st i n y A1 A2 n1 n2 m1 m2 p (some ⟨b, 0, none⟩) hz).mono ?_
  rintro x w' ⟨⟨rfl, h⟩, ho⟩
  exact ⟨⟨rfl, _, _, _, _, _, _, _, _, _, _, _, _, _, _, h, hv.kp (hC.kp ho), hk.kp (hC.kp ho)⟩, ho⟩
set_option maxHeartbeats 2000000 in
theorem typesX_any (P : Pg) (w0 w : World) (mb : Nat) (vd vf ov over : Value) (fu en vl st : Int) (t : Tm) (va vc : Value) (co : Bool) (hx : Ext w0 w) (hd : RDecls w0 vd P.decls) (hm : MA w mb vd vf fu en vl ov st over) (ht : RTx w0 t va vc) (h0 : t.op = 4 ∨ t.op = 6) (hty : isDeclB P t.ty co = true) (hn : isIdxB t.n (declAt P t.ty).xtors.length = true) (hl : (xtorAt P t.ty t.n).args.length <= 1000) :
    Calls Tryz.prog 83 #[.pointer (some ⟨mb, 0, none⟩), tV t va vc] w fun e w' => (∃ v, e = .returned v /\ OwnL w' w.heap.size v (prodL (xtorAt P t.ty t.n))) /\ Ext w w' := by
  obtain ⟨u, d, hu, hdu, hda, -⟩ := decl_in5 hty
  obtain ⟨m, hm1, hm2⟩ := idx_in5 hn
  rw [hda] at hm2
  obtain ⟨Ad, cd, rfl, hcd, hmd⟩ := hd.form
  obtain ⟨⟨Aa, ca, rfl, -, -⟩, ⟨Ab, cb, rfl, -, -⟩⟩ := ht.form
  have hul : u < P.decls.length := (List.getElem?_eq_some_iff.1 hdu).1
  obtain ⟨bd, od, vx, rfl, -, -, -, d2, hxs, -⟩ := hd.at_ hul
  have hdd : P.decls[u] = d := (List.getElem?_eq_some_iff.1 hdu).2
  rw [hdd] at hxs
  obtain ⟨Ax, cx, rfl, hcx, hmx⟩ := hxs.form
  obtain ⟨bx', ox, va', rfl, -, x0, x1, hra, -⟩ := hxs.at_ hm2
  have hxa : xtorAt P t.ty t.n = d.xtors[m] := by unfold xtorAt; rw [hda, hm1, List.getD_eq_getElem?_getD, show ((m : Int)).toNat = m by omega, List.getElem?_eq_getElem hm2]; rfl
  rw [hxa] at hl ⊢
  generalize d.xtors[m] = x at *
  obtain ⟨Ar, cr, rfl, hcr, hmr⟩ := hra.form
  have hu2 : t.ty = (u : Int) + 1 := by rw [hu]; simp
  unfold tV
  rw [hu2, hm1]
  have hw1 : IntKind.wrap .i64 (u : Int) = (u : Int) := IntWalk.i64_in _ (by unfold maxLen at hmd; omega)
  have hul2 : (u : Int) < P.decls.length := by omega
  have hml2 : (m : Int) < d.xtors.length := by omega
  have HR := LH (hra.below hx)
  have HXX := LH hx
  have HM := LH hm
  have HD2 := LH d2
  have HX0 := LH x0
  have HX1 := LH x1
  unfold maxLen at hmd hmx
  clear hx hd hm ht hty hn hxa hdu hdd hda hxs hra hu hu2 hm1 d2 x0 x1
  rcases h0 with ho | ho
  all_goals
    rw [ho]
    have HE := LH (Ext.al w (.cells #[.int .i64 t.op, .int .i64 (m : Int), .string t.nm, .int .i64 ((u : Int) + 1), .slice Aa t.args.length ca, .slice Ab t.cls.length cb] 50))
    have HBX := LH (hNw w (.cells #[.int .i64 t.op, .int .i64 (m : Int), .string t.nm, .int .i64 ((u : Int) + 1), .slice Aa t.args.length ca, .slice Ab t.cls.length cb] 50))
    rw [ho] at HE HBX
    clear ho
    obtain ⟨c0, c1, c2, c3, c4, c5⟩ := cells6 HBX.out
    have HX := LH (HXX.out.tr HE.out)
    obtain ⟨m0, -⟩ := (HM.out.ext' HE.out).cells
    have d2 := HX.out.keep HD2.out
    have x0 := HX.out.keep HX0.out
    have x1 := HX.out.keep HX1.out
    go_enter Tryz.func83, Tryz.ntmps83
    go_wp2
    generalize w.alloc _ = w1 at *
    go_still_tail 15, (by kernel_rfl)
    go_wp2_with fail
    (with_reducible refine (ref_prods_any x.name _ x.args _ ((HR.out.below HE.out).below (Ext.rf _).drew) hl).mono ?_)
    rintro e w4 ⟨⟨v, rfl, ho⟩, hb⟩
    have HO4 := LH ho
    have HX4 : Hid (Ext w1 w4) := Ext.tr (b := w1.drew) (Ext.rf w1).drew hb
    obtain ⟨Av, cv, rfl⟩ := oSL ho
    clear ho hb
    go_wp2
    go_ret
    exact ⟨⟨_, rfl, own_base HO4.out HE.out.size⟩, HE.out.tr HX4.out⟩
end Go.Proofs.YtkdglplfcpindaaGreatDoor

namespace Go.Proofs.YtkdglplfcpindaaGreatDoor
open Go.RowKit
theorem fnAt_in {P : Pg} {m : Nat} (hm : m < P.funs.length) : fnAt P (m : Int) = P.funs[m] := by
  unfold fnAt; rw [List.getD_eq_getElem?_getD, show ((m : Int)).toNat = m by omega, List.getElem?_eq_getElem hm]; rfl
theorem srcI1 {w : World} {b : Nat} {y : Int} {T : Nat} (h : w.heap[b]? = some (.cells #[.int .i64 y] T (0, 0))) : SrcN w (some ⟨b, 0, none⟩) 1 1 [.int .i64 y] := .inr ⟨_, rfl, rfl, fun i u hu => by
  have hi : i < 1 := (List.getElem?_eq_some_iff.1 hu).1
  match i, hi with
  | 0, _ => rw [add_at]; exact cA h 0 hu⟩
set_option maxHeartbeats 4000000 in
theorem typesF_any (P : Pg) (w0 w : World) (mb : Nat) (vd vf ov over : Value) (fu en vl st : Int) (t : Tm) (va vc : Value) (hx : Ext w0 w) (hf : RFns w0 vf P.funs) (hm : MA w mb vd vf fu en vl ov st over) (ht : RTx w0 t va vc) (h0 : t.op = 9) (hn : isIdxB t.n P.funs.length = true) (hl : (fnAt P t.n).ps.length <= 1000) :
    Calls Tryz.prog 83 #[.pointer (some ⟨mb, 0, none⟩), tV t va vc] w fun e w' => (∃ v, e = .returned v /\ OwnL w' w.heap.size v ((fnAt P t.n).ps.map Prm.ty)) /\ Ext w w' := by
  obtain ⟨m, hm1, hm2⟩ := idx_in5 hn
  obtain ⟨Af, cf, rfl, -, -⟩ := hf.form
  obtain ⟨bf, of_, vp, xa, xc, rfl, -, hcf1, hcf2, f0, f1, f2, f3, hfn⟩ := hf.fn hx hm2
  obtain ⟨-, hps, -⟩ := hfn
  rw [hm1, fnAt_in hm2] at hl ⊢
  generalize P.funs[m] = f at *
  obtain ⟨⟨Aa, ca, rfl, -, -⟩, ⟨Ab, cb, rfl, -, -⟩⟩ := ht.form
  obtain ⟨Ap, cp, rfl, -, hmp⟩ := hps.form
  unfold maxLen at hcf2 hmp
  have hml2 : (m : Int) < P.funs.length := by omega
  have HE := LH (Ext.al w (.cells #[.int .i64 9, .int .i64 (m : Int), .string t.nm, .int .i64 t.ty, .slice Aa t.args.length ca, .slice Ab t.cls.length cb] 50))
  have HBX := LH (hNw w (.cells #[.int .i64 9, .int .i64 (m : Int), .string t.nm, .int .i64 t.ty, .slice Aa t.args.length ca, .slice Ab t.cls.length cb] 50))
  have HPS := LH (hps.below hx)
  obtain ⟨c0, c1, c2, c3, c4, c5⟩ := cells6 HBX.out
  obtain ⟨-, m1, -⟩ := (hm.ext' HE.out).cells
  have f1 := HE.out.keep f1
  unfold tV
  rw [hm1, h0]
  clear hx hf hm ht h0 hn hm1 f0 f2 f3 hps
  go_enter Tryz.func83, Tryz.ntmps83
  go_wp2
  generalize w.alloc _ = w1 at *
  go_upto_region 8 with fail
  go_region
  clear c0 c1 c2 c3 c4 c5 m1 f1
  have HE2 : Hid (Ext w w1.drew) := LH (HE.out.tr (Ext.rf w1).drew)
  generalize w1.drew = w2 at *
  go_wp2
  go_loopw [5, 45] (fun s i wr => ∃ (j : Nat), j <= f.ps.length /\ i = .int .i64 j /\ OwnL wr w.heap.size s ((f.ps.take j).map Prm.ty) /\ Ext w wr) (fun _ i _ => f.ps.length - (intOf i).toNat)
  case atStart => exact ⟨0, Nat.zero_le _, rfl, ⟨by simp, .inl ⟨rfl, by simp⟩⟩, HE2.out⟩
  case round =>
    obtain ⟨j, hj, rfl, ho, hb⟩ := hrel
    have HX := LH hb
    have hlen : (List.map Prm.ty (List.take j f.ps)).length = j := by rw [List.length_map, List.length_take]; omega
    have ho : wr.ownsRow w.heap.size 3 1 u5 j ((List.map Prm.ty (List.take j f.ps)).map (Value.int .i64)) := by
      have h1 : wr.ownsRow w.heap.size 3 1 u5 (List.map Prm.ty (List.take j f.ps)).length ((List.map Prm.ty (List.take j f.ps)).map (Value.int .i64)) := ho
      rw [hlen] at h1; exact h1
    have HO := LH ho
    clear ho hb
    by_cases hlt : j < f.ps.length
    . obtain ⟨b, o, rfl, hbl, y0, y1, -⟩ := HPS.out.at_ hlt
      have y0 := HX.out.keep y0
      have y1 := HX.out.keep y1
      have HPT : Hid ((f.ps.take (j + 1)).map Prm.ty = (f.ps.take j).map Prm.ty ++ [(f.ps[j]).ty]) := by
        show _ = _
        rw [List.take_succ_eq_append_getElem hlt, List.map_append]; rfl
      generalize f.ps[j] = a at *
      have HE8 := LH (Ext.al2 wr (.cells #[.string a.nm, .int .i64 a.ty] 69) (.cells #[.int .i64 a.ty] 3))
      have hn8 := hNw (wr.alloc (.cells #[.string a.nm, .int .i64 a.ty] 69)) (.cells #[.int .i64 a.ty] 3)
      rw [World.size_alloc] at hn8
      have HSO : Hid (SrcN _ (some ⟨wr.heap.size + 1, 0, none⟩) 1 1 [.int .i64 a.ty]) := .inr ⟨_, rfl, rfl, fun i u hu => by
        have hi : i < 1 := (List.getElem?_eq_some_iff.1 hu).1
        match i, hi with
        | 0, _ => rw [add_at]; exact cA hn8 0 hu⟩
      clear hn8
      obtain ⟨L0, hL0⟩ : ∃ L0, (List.map Prm.ty (List.take j f.ps)).map (Value.int .i64) = L0 := ⟨_, rfl⟩
      rw [hL0] at HO
      have HL0 := LH hL0
      have HLN := LH hlen
      clear hL0 hlen
      go_wp2_with (at_builtin; refine app_vals Tryz.u57 Tryz.info3 rfl (by decide) (by decide) rfl _ _ rfl w.heap.size _ j L0 rfl (oB HO.out HE8.out) (some ⟨wr.heap.size + 1, 0, none⟩) 1 1 [.int .i64 a.ty] rfl HSO.out (fun u hu => by rw [List.mem_singleton.1 hu]; rfl) (by omega) (Nat.le_trans HX.out.size HE8.out.size) ?_)
      intro v9 w9 ho9 hg9
      have HX9 : Hid (Ext w w9) := (HX.out.tr HE8.out).trans (grown_ext' hg9 (oB HO.out HE8.out) (Nat.le_trans HX.out.size HE8.out.size))
      have HO9 : Hid (OwnL w9 w.heap.size v9 ((f.ps.take (j + 1)).map Prm.ty)) := by
        show World.ownsRow _ _ _ _ _ _ _
        rw [HPT.out, List.length_append, List.map_append, HLN.out, HL0.out]
        exact ho9
      clear ho9 hg9 y0 y1
      go_wp2
      exact ⟨⟨j + 1, by omega, by go_num, HO9.out, HX9.out⟩, by simp [intOf]; omega⟩
    . have HV : Hid (OwnL wr w.heap.size u5 (f.ps.map Prm.ty)) := by
        have h1 := HO.out
        rw [List.take_of_length_le (by omega)] at h1
        show World.ownsRow _ _ _ _ _ _ _
        rw [List.length_map, show f.ps.length = j by omega]
        exact h1
      obtain ⟨A', c', hv⟩ := oSL HV.out
      subst hv
      clear hlen
      go_wp2
      go_ret
      exact ⟨⟨_, rfl, HV.out⟩, HX.out⟩
set_option maxHeartbeats 2000000 in
theorem typesL_any (w : World) (mb : Nat) (t : Tm) (va vc : Value) (hs : ∃ A n c B m d, va = .slice A n c /\ vc = .slice B m d) (h0 : t.op = 8) :
    Calls Tryz.prog 83 #[.pointer (some ⟨mb, 0, none⟩), tV t va vc] w fun e w' => (∃ v, e = .returned v /\ OwnL w' w.heap.size v [t.ty]) /\ Ext w w' := by
  obtain ⟨Aa, na, ca, Ab, nb, cb, rfl, rfl⟩ := hs
  have HE := LH (Ext.al2 w (.cells #[.int .i64 8, .int .i64 t.n, .string t.nm, .int .i64 t.ty, .slice Aa na ca, .slice Ab nb cb] 50) (.cells #[.int .i64 t.ty] 3))
  have HBX := hNw w (.cells #[.int .i64 8, .int .i64 t.n, .string t.nm, .int .i64 t.ty, .slice Aa na ca, .slice Ab nb cb] 50)
  have hn8 := hNw (w.alloc (.cells #[.int .i64 8, .int .i64 t.n, .string t.nm, .int .i64 t.ty, .slice Aa na ca, .slice Ab nb cb] 50)) (.cells #[.int .i64 t.ty] 3)
  rw [World.size_alloc] at hn8
  have HN := LH hn8
  obtain ⟨c0, c1, c2, c3, c4, c5⟩ := cells6 HBX
  unfold tV
  rw [h0]
  clear h0 hn8 HBX
  go_enter Tryz.func83, Tryz.ntmps83
  go_wp2
  go_ret
  exact ⟨⟨_, rfl, by simp, .inr ⟨w.heap.size + 1, 1, _, rfl, Nat.le_succ _, HN.out, by simp, by simp [maxLen], by simp, by simp⟩⟩, HE.out⟩
theorem typesOf_any (P : Pg) (w0 w : World) (bad : Nat -> Prop) (mb : Nat) (vd vf ov over : Value) (fu en vl st : Int) (t : Tm) (va vc : Value) (hC : CR P w0 w bad mb vd vf) (hm : MA w mb vd vf fu en vl ov st over) (ht : RTx w0 t va vc) (hfit : fitsT P t = true) (h0 : t.op = 4 ∨ t.op = 6 ∨ t.op = 8 ∨ t.op = 9) :
    Calls Tryz.prog 83 #[.pointer (some ⟨mb, 0, none⟩), tV t va vc] w fun e w' => (∃ v, e = .returned v /\ OwnL w' w.heap.size v (typesOf P t)) /\ Ext w w' := by
  have hrg := (types_range hC.prog hfit h0).2
  rcases h0 with ho | ho | ho | ho
  . obtain ⟨h1, h2, h3, -⟩ := fit4 hfit ho
    have e : typesOf P t = prodL (xtorAt P t.ty t.n) := by unfold typesOf; rw [if_neg (by omega), if_neg (by omega)]
    rw [e]
    exact typesX_any P w0 w mb vd vf ov over fu en vl st t va vc false hC.ext hC.ds hm ht (.inl ho) h1 h2 (by rw [e] at hrg; have := prod_data (xtor_src hC.prog h1 h2); omega)
  . obtain ⟨h1, h2, h3, -⟩ := fit6 hfit ho
    have e : typesOf P t = prodL (xtorAt P t.ty t.n) := by unfold typesOf; rw [if_neg (by omega), if_neg (by omega)]
    rw [e]
    exact typesX_any P w0 w mb vd vf ov over fu en vl st t va vc true hC.ext hC.ds hm ht (.inr ho) h1 h2 (by rw [e] at hrg; have := prod_codata (xtor_src hC.prog h1 h2); omega)
  . have e : typesOf P t = [t.ty] := by unfold typesOf; rw [if_pos ho]
    rw [e]
    exact typesL_any w mb t va vc ht.slices ho
  . have e : typesOf P t = (fnAt P t.n).ps.map Prm.ty := by unfold typesOf; rw [if_neg (by omega), if_pos ho]
    rw [e]
    exact typesF_any P w0 w mb vd vf ov over fu en vl st t va vc hC.ext hC.fs hm ht ho (fit9 hfit ho).1 (by rw [e, List.length_map] at hrg; omega)
end Go.Proofs.YtkdglplfcpindaaGreatDoor

namespace Go.Proofs.YtkdglplfcpindaaGreatDoor
open Go.RowKit
def flat14 (a : Nat -> Array Value) : Nat -> List Value
  | 0 => []
  | n + 1 => flat14 a n ++ (a n).toList
theorem flat14_len (a : Nat -> Array Value) : ∀ n, (∀ i, i < n -> (a i).size = 14) -> (flat14 a n).length = n * 14
  | 0, _ => rfl
  | n + 1, h => by
    rw [flat14, List.length_append, flat14_len a n (fun i hi => h i (by omega)), Array.length_toList, h n (by omega)]; omega
theorem flat14_at (a : Nat -> Array Value) : ∀ n, (∀ i, i < n -> (a i).size = 14) -> ∀ i, i < n -> ∀ j u, (a i)[j]? = some u -> (flat14 a n)[i * 14 + j]? = some u
  | 0, _, i, hi, _, _, _ => by omega
  | n + 1, h, i, hi, j, u, hj => by
    have hl := flat14_len a n (fun i hi => h i (by omega))
    have hj2 : j < 14 := by have := (Array.getElem?_eq_some_iff.1 hj).1; rw [h i hi] at this; exact this
    rw [flat14, List.getElem?_append]
    by_cases hn : i < n
    . rw [if_pos (by omega)]
      exact flat14_at a n (fun i hi => h i (by omega)) i hn j u hj
    . obtain rfl : i = n := by omega
      rw [if_neg (by omega), hl, show i * 14 + j - i * 14 = j by omega, Array.getElem?_toList]
      exact hj
theorem flat14_get (a : Nat -> Array Value) : ∀ n, (∀ i, i < n -> (a i).size = 14) -> ∀ k u, (flat14 a n)[k]? = some u -> ∃ i j, k = i * 14 + j /\ i < n /\ (a i)[j]? = some u
  | 0, _, k, u, h => by simp [flat14] at h
  | n + 1, h, k, u, hk => by
    have hl := flat14_len a n (fun i hi => h i (by omega))
    rw [flat14, List.getElem?_append] at hk
    split at hk
    . obtain ⟨i, j, h1, h2, h3⟩ := flat14_get a n (fun i hi => h i (by omega)) k u hk
      exact ⟨i, j, h1, by omega, h3⟩
    . rename_i hq
      rw [hl, Array.getElem?_toList] at hk
      exact ⟨n, k - n * 14, by omega, by omega, hk⟩
section
variable {P : Pg} {w0 w w' : World} {bad : Nat -> Prop}
theorem DR.b_one {a : Array Value} {x : It} (h : DR P w0 w bad (.b a x)) : ∀ (j : Nat) (u : Value), a[j]? = some u -> u.oneCell' = true := by
  obtain ⟨th, i0, n0, y0, B1, k1, m1, B2, k2, m2, p2, i3, n3, s3, y3, B3, k3, m3, B4, k4, m4, p4, rfl⟩ := h.b_form
  intro j u hj
  have hl : j < 14 := (Array.getElem?_eq_some_iff.1 hj).1
  match j, hl with
  | 0, _ => cases hj; rfl
  | 1, _ => cases hj; rfl
  | 2, _ => cases hj; rfl
  | 3, _ => cases hj; rfl
  | 4, _ => cases hj; rfl
  | 5, _ => cases hj; rfl
  | 6, _ => cases hj; rfl
  | 7, _ => cases hj; rfl
  | 8, _ => cases hj; rfl
  | 9, _ => cases hj; rfl
  | 10, _ => cases hj; rfl
  | 11, _ => cases hj; rfl
  | 12, _ => cases hj; rfl
  | 13, _ => cases hj; rfl
def BRow (P : Pg) (w0 w : World) (bad : Nat -> Prop) (xs : List Value) (l : List It) : Prop :=
  xs.length = l.length * 14 /\ (∀ u ∈ xs, u.oneCell' = true) /\ ∀ i x, l[i]? = some x -> ∃ a : Array Value, DR P w0 w bad (.b a x) /\ ∀ (j : Nat) (u : Value), a[j]? = some u -> xs[i * 14 + j]? = some u
theorem BRow.ext {xs : List Value} {l : List It} (h : BRow P w0 w bad xs l) (hb : Ext w w') : BRow P w0 w' bad xs l :=
  ⟨h.1, h.2.1, fun i x hi => (h.2.2 i x hi).elim fun a ⟨h1, h2⟩ => ⟨a, h1.ext hb, h2⟩⟩
theorem BRow.nil : BRow P w0 w bad [] [] := ⟨rfl, (fun _ h => nomatch h), fun i x hi => by simp at hi⟩
theorem BRow.snoc {xs : List Value} {l : List It} (h : BRow P w0 w bad xs l) {a : Array Value} {x : It} (ha : DR P w0 w bad (.b a x)) : BRow P w0 w bad (xs ++ a.toList) (l ++ [x]) := by
  have hz : a.size = 14 := ha.sized
  refine ⟨by simp [h.1, hz]; omega, fun u hu => ?_, fun i y hi => ?_⟩
  . rcases List.mem_append.1 hu with hu | hu
    . exact h.2.1 u hu
    . obtain ⟨j, hj⟩ := List.mem_iff_getElem?.1 hu
      rw [Array.getElem?_toList] at hj
      exact ha.b_one j u hj
  . rw [List.getElem?_append] at hi
    split at hi
    . rename_i hq
      obtain ⟨b, h1, h2⟩ := h.2.2 i y hi
      refine ⟨b, h1, fun j u hj => ?_⟩
      have hj2 : j < 14 := by have := (Array.getElem?_eq_some_iff.1 hj).1; have hb : b.size = 14 := h1.sized; omega
      rw [List.getElem?_append, if_pos (by rw [h.1]; omega)]
      exact h2 j u hj
    . rename_i hq
      have hi1 := (List.getElem?_eq_some_iff.1 hi).1
      simp at hi1
      obtain rfl : i = l.length := by omega
      simp at hi
      subst hi
      refine ⟨a, ha, fun j u hj => ?_⟩
      rw [List.getElem?_append, if_neg (by rw [h.1]; omega), h.1, show l.length * 14 + j - l.length * 14 = j by omega, Array.getElem?_toList]
      exact hj
theorem DR.cells {v : Value} {l : List It} (h : DR P w0 w bad (.is v l)) : ∃ A c xs, v = .slice A l.length c /\ SrcN w A l.length 14 xs /\ BRow P w0 w bad xs l := by
  cases h with
  | inil => exact ⟨none, 0, [], rfl, .inl ⟨rfl, rfl, rfl⟩, BRow.nil⟩
  | icons b o c a _ h0 h1 h2 h3 h4 =>
    have hz : ∀ i, i < l.length -> (a i).size = 14 := fun i hi => (h4 i _ (List.getElem?_eq_getElem hi)).sized
    refine ⟨_, c, flat14 a l.length, rfl, .inr ⟨_, rfl, flat14_len a _ hz, fun k u hk => ?_⟩, flat14_len a _ hz, fun u hu => ?_, fun i x hi => ⟨a i, h4 i x hi, fun j u hj => flat14_at a _ hz i (List.getElem?_eq_some_iff.1 hi).1 j u hj⟩⟩
    . obtain ⟨i, j, rfl, hi, hj⟩ := flat14_get a _ hz k u hk
      have e : (⟨b, o, none⟩ : Addr).add (i * 14 + j) = ⟨b, o + i * 14 + j, none⟩ := by rw [show o + i * 14 + j = o + (i * 14 + j) by omega]; unfold Addr.add; split <;> simp_all
      rw [e]
      exact h3 i hi j u hj
    . obtain ⟨k, hk⟩ := List.mem_iff_getElem?.1 hu
      obtain ⟨i, j, rfl, hi, hj⟩ := flat14_get a _ hz k u hk
      exact (h4 i _ (List.getElem?_eq_getElem hi)).b_one j u hj
theorem DR.of_row {B e : Nat} {v : Value} {xs : List Value} {l : List It} (h : w.ownsRow B e 14 v l.length xs) (hB : ∀ b, B <= b -> ¬ bad b) (hv : BRow P w0 w bad xs l) : DR P w0 w bad (.is v l) := by
  have hc := @World.ownsRow.cells w B e 14 v l.length xs h
  rcases h.2 with ⟨rfl, h0⟩ | ⟨g, cap, cur, rfl, hg, hh, hn, hm, -⟩
  . obtain rfl : l = [] := List.eq_nil_of_length_eq_zero h0
    exact .inil
  . have hx : ∀ i, ∃ a : Array Value, ∀ x, l[i]? = some x -> DR P w0 w bad (.b a x) /\ ∀ j u, a[j]? = some u -> xs[i * 14 + j]? = some u := fun i => by
      cases hq : l[i]? with
      | none => exact ⟨#[], fun x hx => by cases hx⟩
      | some x =>
        obtain ⟨a, h1, h2⟩ := hv.2.2 i x hq
        exact ⟨a, fun y hy => by cases hy; exact ⟨h1, h2⟩⟩
    refine .icons g 0 cap (fun i => (hx i).choose) l hn hm (fun _ => hB g hg) (fun i hi j u hj => ?_) (fun i x hi => ((hx i).choose_spec x hi).1)
    have h2 := ((hx i).choose_spec _ (List.getElem?_eq_getElem hi)).2 j u hj
    have := hc rfl _ _ h2
    have e : (⟨g, 0, none⟩ : Addr).add (i * 14 + j) = ⟨g, 0 + i * 14 + j, none⟩ := by rw [show 0 + i * 14 + j = 0 + (i * 14 + j) by omega]; unfold Addr.add; split <;> simp_all
    rw [e] at this
    exact this
end
theorem Tryz.undBd : Tryz.prog.underlying 61 = some (.slice 71) := by kernel_rfl
theorem Tryz.infoBd : (Tryz.prog.info? 71).map (fun i => (i.zero, i.size, i.bytes)) = some (some (.agg #[.bool false, zi, zi, zi, zs, zs, zp, zi, zi, ze, zi, zs, zs, zp]), 14, 184) := by kernel_rfl
end Go.Proofs.YtkdglplfcpindaaGreatDoor

namespace Go.Proofs.YtkdglplfcpindaaGreatDoor
open Go.RowKit
theorem lazy_posR {P : Pg} {y : Int} (h : ∃ u : Nat, y = u /\ u <= P.decls.length) : (!codB P.decls y) = !lazyB P y := by
  obtain ⟨u, rfl, hu⟩ := h
  unfold lazyB
  cases u with
  | zero => rw [codB_out (by omega)]; rfl
  | succ u =>
    have hl : u < P.decls.length := by omega
    rw [show ((u + 1 : Nat) : Int) = (u : Int) + 1 by omega, codB_in hl, decide_eq_false (by omega)]
    unfold declAt
    rw [show ((u : Int) + 1 - 1).toNat = u by omega, List.getD_eq_getElem?_getD, List.getElem?_eq_getElem hl]
    simp
theorem resS_step {P : Pg} {t : Tm} {e : En} {k : Kt} {l : List It} {j : Nat} (h1 : j < (termsOf t).length) (h2 : j < (typesOf P t).length) :
    resS P t e k ((termsOf t).drop j) ((typesOf P t).drop j) l = if lazyB P ((typesOf P t).getD j 0) then resS P t e k ((termsOf t).drop (j + 1)) ((typesOf P t).drop (j + 1)) (l ++ [.thunk (t.args.getD j noTm) e]) else .ev (t.args.getD j noTm) e (.bind ((termsOf t).drop j) ((typesOf P t).drop j) l t e :: k) := by
  obtain ⟨h3, h4, h5⟩ := term_get h1
  have h6 : (typesOf P t).getD j 0 = (typesOf P t)[j] := by rw [List.getD_eq_getElem?_getD, List.getElem?_eq_getElem h2]; rfl
  rw [h6, List.drop_eq_getElem_cons h1, List.drop_eq_getElem_cons h2, resS, h3]
theorem resS_end {P : Pg} {t : Tm} {e : En} {k : Kt} {l : List It} {j : Nat} (h1 : (termsOf t).length <= j) : resS P t e k ((termsOf t).drop j) ((typesOf P t).drop j) l = afterS P t e k l := by
  rw [List.drop_of_length_le h1]
  unfold resS; rfl
theorem SrcN.ext {w w' : World} {A : Option Addr} {m k : Nat} {xs : List Value} (h : SrcN w A m k xs) (hb : Ext w w') : SrcN w' A m k xs := by
  rcases h with h | ⟨ad, h1, h2, h3⟩
  . exact .inl h
  . exact .inr ⟨ad, h1, h2, fun j u hu => hb.keep (h3 j u hu)⟩
theorem src14 {W : World} {b T : Nat} {a0 a1 a2 a3 a4 a5 a6 a7 a8 a9 a10 a11 a12 a13 : Value} (h : W.heap[b]? = some (.cells #[a0, a1, a2, a3, a4, a5, a6, a7, a8, a9, a10, a11, a12, a13] T (0, 0))) : SrcN W (some ⟨b, 0, none⟩) 1 14 [a0, a1, a2, a3, a4, a5, a6, a7, a8, a9, a10, a11, a12, a13] :=
  .inr ⟨_, rfl, rfl, fun j u hu => by rw [add_at, Nat.zero_add]; exact cA h j (by simpa using hu)⟩
def AllB (P : Pg) : Prop := ∀ (w0 w : World) (bad : Nat -> Prop) (mb : Nat) (vd vf ov : Value) (fu en vl st : Int) (t : Tm) (e : En) (k : Kt) (l : List It) (va vc ev dv kv : Value), CR P w0 w bad mb vd vf -> MA w mb vd vf fu en vl ov st (.bool false) -> RTx w0 t va vc -> fitsT P t = true -> (t.op = 4 ∨ t.op = 6 ∨ t.op = 8 ∨ t.op = 9) -> DR P w0 w bad (.e ev e.vs e.ls) -> DR P w0 w bad (.k kv k) -> DR P w0 w bad (.is dv l) -> l.length = (typesOf P t).length →
  Calls Tryz.prog 85 #[.pointer (some ⟨mb, 0, none⟩), tV t va vc, ev, dv, kv] w fun x w' => (x = .returned (.tuple #[]) /\ RQ P w0 w' bad mb vd vf fu en vl ov st (afterS P t e k l)) /\ Only (fun b => b = mb) w w'
set_option maxHeartbeats 4000000 in
theorem bindMore_of (P : Pg) (hA : AllB P) (w0 w : World) (bad : Nat -> Prop) (mb : Nat) (vd vf ov : Value) (fu en vl st : Int) (t : Tm) (e : En) (k : Kt) (l : List It) (va vc ev dv kv : Value) (hC : CR P w0 w bad mb vd vf) (hm : MA w mb vd vf fu en vl ov st (.bool false)) (ht : RTx w0 t va vc) (hfit : fitsT P t = true) (h0 : t.op = 4 ∨ t.op = 6 ∨ t.op = 8 ∨ t.op = 9)
    (he : DR P w0 w bad (.e ev e.vs e.ls)) (hk : DR P w0 w bad (.k kv k)) (hl : DR P w0 w bad (.is dv l)) (hll : l.length <= (typesOf P t).length) :
    Calls Tryz.prog 54 #[.pointer (some ⟨mb, 0, none⟩), tV t va vc, ev, dv, kv] w fun x w' => (x = .returned (.tuple #[]) /\ RQ P w0 w' bad mb vd vf fu en vl ov st (resS P t e k ((termsOf t).drop l.length) ((typesOf P t).drop l.length) l)) /\ Only (fun b => b = mb) w w' := by
  have HA := LH hA
  have HLN := LH (terms_len hC.prog hfit h0)
  have HRG := LH (types_range hC.prog hfit h0)
  have HC := LH hC
  have HM := LH hm
  have HT := LH ht
  have HE := LH he
  have HK := LH hk
  have HL := LH hl
  have HF := LH hfit
  have HO := LH h0
  have HLL := LH hll
  obtain ⟨⟨Aa, ca, rfl, hca, hma⟩, ⟨Ab, cb, rfl, -, -⟩⟩ := ht.form
  obtain ⟨p, rfl⟩ := he.e_form
  obtain ⟨bk, rfl⟩ := hk.k_form
  obtain ⟨Ad, cd, rfl, -, -⟩ := hl.is_form
  clear hA hC hm ht he hk hl hfit h0 hll
  unfold maxLen at hma
  obtain ⟨q, hq⟩ : ∃ q, resS P t e k ((termsOf t).drop l.length) ((typesOf P t).drop l.length) l = q := ⟨_, rfl⟩
  have HQ := LH hq
  rw [hq]
  clear hq
  have HEX := LH (Ext.al w (.cells #[.int .i64 t.op, .int .i64 t.n, .string t.nm, .int .i64 t.ty, .slice Aa t.args.length ca, .slice Ab t.cls.length cb] 50))
  have HBX := LH (hNw w (.cells #[.int .i64 t.op, .int .i64 t.n, .string t.nm, .int .i64 t.ty, .slice Aa t.args.length ca, .slice Ab t.cls.length cb] 50))
  obtain ⟨c0, c1, c2, c3, c4, c5⟩ := cells6 HBX.out
  go_enter Tryz.func54, Tryz.ntmps54
  go_wp2_with fail
  generalize w.alloc _ = w1 at *
  (with_reducible refine (typesOf_any P w0 w1 bad mb vd vf ov _ fu en vl st t _ _ (HC.out.ext' HEX.out) (HM.out.ext' HEX.out) HT.out HF.out HO.out).mono ?_)
  rintro x w2 ⟨⟨vt, rfl, ho⟩, hb⟩
  have HTY := LH (own_ints ho)
  obtain ⟨At, ct, rfl, hct, hmt⟩ := HTY.out.form
  have HX2 := LH (HEX.out.tr hb)
  have HB2 := LH ((hb.block _ (hLt HBX.out)).trans HBX.out)
  clear ho hb c0 c1 c2 c3 c4 c5
  unfold maxLen at hmt
  go_wp2
  go_loopg [3] (typesOf P t).length (fun n d wr => ∃ (r : List It), r.length <= (typesOf P t).length /\ (typesOf P t).length - r.length <= n /\ DR P w0 wr bad (.is d r) /\ resS P t e k ((termsOf t).drop r.length) ((typesOf P t).drop r.length) r = q /\ Ext w2 wr)
  case atStart => exact ⟨l, HLL.out, Nat.sub_le _ _, HL.out.ext HX2.out, HQ.out, Ext.rf _⟩
  case round =>
    obtain ⟨r, hr1, hr2, hd, hres, hx⟩ := hrel
    have HD := LH hd
    have HR := LH hres
    have HX := LH (HX2.out.tr hx)
    have HXX := LH hx
    obtain ⟨Ar, cr, rfl, hcr, hmr⟩ := hd.is_form
    clear hd hres hx
    unfold maxLen at hmr
    have hb3 := (HXX.out.block _ (hLt HB2.out)).trans HB2.out
    have HB3 := LH hb3
    obtain ⟨c0, c1, c2, c3, c4, c5⟩ := cells6 hb3
    clear hb3
    by_cases hlt : r.length < (typesOf P t).length
    . have HJT : Hid (r.length < (termsOf t).length) := by show _ < _; rw [HLN.out.1]; exact hlt
      have hja := (term_get HJT.out).2.1
      have HSTEP := LH (resS_step (e := e) (k := k) (l := r) HJT.out hlt)
      have HYR := LH (HRG.out.1 _ (List.getElem_mem hlt))
      have HYG : Hid ((typesOf P t).getD r.length 0 = (typesOf P t)[r.length]) := by show _ = _; rw [List.getD_eq_getElem?_getD, List.getElem?_eq_getElem hlt]; rfl
      obtain ⟨A', c', e1, -, -, hs⟩ := HT.out.args
      obtain ⟨ba, oa, xa, xc, e2, -, hx6, hxt⟩ := hs r.length (t.args[r.length]) (List.getElem?_eq_getElem hja)
      have HAG : Hid (t.args.getD r.length noTm = t.args[r.length]) := by show _ = _; rw [List.getD_eq_getElem?_getD, List.getElem?_eq_getElem hja]; rfl
      simp only [Value.slice.injEq] at e1
      obtain ⟨e3, -, e4⟩ := e1
      subst e2 e4
      subst e3
      have HXT := LH hxt
      obtain ⟨⟨Ax, cx, rfl, -, -⟩, ⟨Ay, cy, rfl, -, -⟩⟩ := hxt.form
      obtain ⟨a0, a1, a2, a3, a4, a5⟩ := hx6.below (HC.out.ext.tr HX.out)
      obtain ⟨bt, ot, e5, hbt, hty⟩ := HTY.out.at_ hlt
      have hty := HXX.out.keep hty
      subst e5
      clear hs hxt hx6
      generalize t.args[r.length] = a at *
      generalize hyy : (typesOf P t)[r.length] = y at *
      have hjt : (r.length : Int) < (typesOf P t).length := by omega
      have hjr : (r.length : Int) < t.args.length := by omega
      clear hyy
      have HEN := LH (Ext.al wr (.cells #[.int .i64 a.op, .int .i64 a.n, .string a.nm, .int .i64 a.ty, .slice Ax a.args.length cx, .slice Ay a.cls.length cy] 50))
      have HBN := LH (hNw wr (.cells #[.int .i64 a.op, .int .i64 a.n, .string a.nm, .int .i64 a.ty, .slice Ax a.args.length cx, .slice Ay a.cls.length cy] 50))
      have hty := HEN.out.keep hty
      go_wp2_with fail
      generalize wr.alloc _ = w3 at *
      clear c0 c1 c2 c3 c4 c5 a0 a1 a2 a3 a4 a5
      have HX3 := LH (HX.out.tr HEN.out)
      obtain ⟨tm, t0, t1, t2, t3, t4, t5, ev', v0, v1, v2, v3, v4, v5, kv', hz⟩ := HM.out.ext' HX3.out
      (with_reducible refine (positive_any P w3 mb vd vf ov tm t0 t1 t2 t3 t4 t5 ev' v0 v1 v2 v3 v4 v5 kv' _ fu en vl st y (HC.out.ds.below (HC.out.ext.tr HX3.out)) hz).mono ?_)
      rintro x w4 ⟨rfl, rfl⟩
      rw [lazy_posR HYR.out]
      have hb4 := (HEN.out.block _ (hLt HB3.out)).trans HB3.out
      have HB4 := LH hb4
      obtain ⟨c0, c1, c2, c3, c4, c5⟩ := cells6 hb4
      obtain ⟨a0, a1, a2, a3, a4, a5⟩ := cells6 HBN.out
      obtain ⟨lz, hlz⟩ : ∃ b, lazyB P y = b := ⟨_, rfl⟩
      have HLZ := LH hlz
      rw [hlz]
      clear hz hb4 hlz hty
      cases lz
      . have HF3 := LH (Ext.al w3 (.cells (frV 1 t (.slice (some ⟨ba, oa, none⟩) t.args.length ca) (.slice Ab t.cls.length cb) (.pointer p) (.slice Ar r.length cr) 0 (.pointer (some ⟨bk, 0, none⟩))) 75))
        have HFB := LH (hNw w3 (.cells (frV 1 t (.slice (some ⟨ba, oa, none⟩) t.args.length ca) (.slice Ab t.cls.length cb) (.pointer p) (.slice Ar r.length cr) 0 (.pointer (some ⟨bk, 0, none⟩))) 75))
        have HKK : Hid (DR P w0 _ bad (.k (.pointer (some ⟨w3.heap.size, 0, none⟩)) (.bind ((termsOf t).drop r.length) ((typesOf P t).drop r.length) r t e :: k))) :=
          .bind w3.heap.size t e _ _ _ _ _ _ _ _ _ (HC.out.ext' HX3.out).nb.new HFB.out HT.out ((HE.out.ext HX3.out).ext HF3.out) ((HD.out.ext HEN.out).ext HF3.out) ((HK.out.ext HX3.out).ext HF3.out) rfl rfl
        have HRES := HR.out
        rw [HSTEP.out, HYG.out, HLZ.out, if_neg (by decide), HAG.out] at HRES
        have HRES := LH HRES
        go_wp2_with fail
        (with_reducible refine (evalQ P w0 _ bad mb vd vf ov fu en vl st a e _ _ _ _ _ ((HC.out.ext' HX3.out).ext' HF3.out) ((HM.out.ext' HX3.out).ext' HF3.out) HXT.out ((HE.out.ext HX3.out).ext HF3.out) HKK.out).mono ?_)
        rintro x w5 ⟨⟨rfl, hrq⟩, ho⟩
        rw [HRES.out] at hrq
        have HRQ := LH hrq
        have HON := LH ((only_x (b := mb) (HX3.out.tr HF3.out)).tr ho)
        clear hrq ho
        go_wp2
        exact bodyPost_ret (v := .tuple #[]) (by simp [results, Tryz.results54, go_sem]) rfl ⟨⟨rfl, HRQ.out⟩, HON.out⟩
      . obtain ⟨Ar', cr', xs, e6, hsrc, hbr⟩ := (HD.out.ext HEN.out).cells
        simp only [Value.slice.injEq] at e6
        obtain ⟨e7, -, e8⟩ := e6
        subst e7 e8
        have HSX : Hid (∀ W, Ext w3 W -> SrcN W Ar r.length 14 xs) := fun W hW => hsrc.ext hW
        have HBR := LH hbr
        have HDN : Hid (DR P w0 w3 bad (.b #[.bool true, zi, zi, zi, zs, zs, zp, .int .i64 a.op, .int .i64 a.n, .string a.nm, .int .i64 a.ty, .slice Ax a.args.length cx, .slice Ay a.cls.length cy, .pointer p] (.thunk a e))) := .thunk a e _ _ _ HXT.out (HE.out.ext HX3.out)
        have HL6 : Hid (r.length <= 6) := by show _ <= _; have := HRG.out.2; omega
        have HBN1 : Hid (∀ W : World, (W.alloc (.cells #[.bool true, zi, zi, zi, zs, zs, zp, .int .i64 a.op, .int .i64 a.n, .string a.nm, .int .i64 a.ty, .slice Ax a.args.length cx, .slice Ay a.cls.length cy, .pointer p] 71)).heap[W.heap.size]? = some (.cells #[.bool true, zi, zi, zi, zs, zs, zp, .int .i64 a.op, .int .i64 a.n, .string a.nm, .int .i64 a.ty, .slice Ax a.args.length cx, .slice Ay a.cls.length cy, .pointer p] 71 (0, 0))) := fun W => hNw W _
        clear hsrc hbr hmr
        go_upto_region 6 with fail
        have HNONE : Hid (∀ u ∈ ([.bool true, zi, zi, zi, zs, zs, zp, .int .i64 a.op, .int .i64 a.n, .string a.nm, .int .i64 a.ty, .slice Ax a.args.length cx, .slice Ay a.cls.length cy, .pointer p] : List Value), u.oneCell' = true) := fun u hu => by
          obtain ⟨j, hj⟩ := List.mem_iff_getElem?.1 hu
          exact HDN.out.b_one j u (by simpa using hj)
        have HSRC1 : Hid (∀ (W : World) (b : Nat), W.heap[b]? = some (.cells #[.bool true, zi, zi, zi, zs, zs, zp, .int .i64 a.op, .int .i64 a.n, .string a.nm, .int .i64 a.ty, .slice Ax a.args.length cx, .slice Ay a.cls.length cy, .pointer p] 71 (0, 0)) -> SrcN W (some ⟨b, 0, none⟩) 1 14 [.bool true, zi, zi, zi, zs, zs, zp, .int .i64 a.op, .int .i64 a.n, .string a.nm, .int .i64 a.ty, .slice Ax a.args.length cx, .slice Ay a.cls.length cy, .pointer p]) := fun W b hb => src14 hb
        go_region_law (first
          | ((refine app_row Tryz.undBd Tryz.infoBd (by decide) (by decide) (.const (.slice none 0 0)) (.tmp 43) rfl w3.heap.size (.slice none 0 0) 0 [] rfl ⟨rfl, .inl ⟨rfl, rfl⟩⟩ Ar r.length cr xs rfl (HSX.out _ (by first | exact Ext.rf _ | exact (Ext.rf _).drew | exact Ext.al _ _ | exact (Ext.al _ _).drew | exact Ext.tr (b := w3.drew) (Ext.rf _).drew (Ext.al _ _))) HBR.out.2.1 (by have := HL6.out; unfold maxLen; omega) (by have := HL6.out; omega) (by first | exact Nat.le_refl _ | exact ((Ext.al w3 _).drew).size | exact (Ext.al w3 _).size) ?_; intro v1 w5 ho1 hg1 hat1; rw [Nat.zero_add, List.nil_append] at ho1; have HO1 := LH ho1; have hgx := Below.grown (Below.refl _ _) hg1 (Nat.le_refl _) (fun j e => by simp [Value.ownBlock] at e); have HG1 : Hid (Ext w3 w5) := LH (Ext.tr (by first | exact Ext.rf _ | exact (Ext.rf _).drew | exact Ext.al _ _ | exact (Ext.al _ _).drew | exact Ext.tr (b := w3.drew) (Ext.rf _).drew (Ext.al _ _)) hgx); obtain ⟨Av1, cv1, rfl⟩ := oSL ho1; obtain ⟨a0, a1, a2, a3, a4, a5⟩ := cells6 ((HG1.out.block _ (hLt HBN.out)).trans HBN.out); clear ho1 hg1 hat1))
          | ((refine app_row Tryz.undBd Tryz.infoBd (by decide) (by decide) (.tmp 44) (.tmp 48) rfl w3.heap.size (.slice Av1 r.length cv1) r.length xs rfl (oB HO1.out (Ext.al _ _)) (some ⟨w5.heap.size, 0, none⟩) 1 1 [.bool true, zi, zi, zi, zs, zs, zp, .int .i64 a.op, .int .i64 a.n, .string a.nm, .int .i64 a.ty, .slice Ax a.args.length cx, .slice Ay a.cls.length cy, .pointer p] rfl (HSRC1.out _ _ (hNw _ _)) HNONE.out (by have := HL6.out; unfold maxLen; omega) (by have := HL6.out; omega) (Nat.le_trans HG1.out.size (Ext.al _ _).size) ?_; intro v2 w6 ho2 hg2 hat2; have HO2 := LH ho2; have hgy := Below.grown (Below.refl w3.heap.size _) hg2 (Nat.le_trans HG1.out.size (Ext.al _ _).size) (fun j e => (HO1.out.lt j e).1); have HG2 : Hid (Ext w3 w6) := LH (Below.trans (HG1.out.tr (Ext.al _ _)) hgy); obtain ⟨Av2, cv2, rfl⟩ := oSL ho2; clear ho2 hg2 hat2 hgy))
          | (refine app_row Tryz.undBd Tryz.infoBd (by decide) (by decide) (.tmp 44) (.tmp 48) rfl w3.heap.size (.slice Av1 r.length cv1) r.length xs rfl (HO1.out) (some ⟨w3.heap.size, 0, none⟩) 1 1 [.bool true, zi, zi, zi, zs, zs, zp, .int .i64 a.op, .int .i64 a.n, .string a.nm, .int .i64 a.ty, .slice Ax a.args.length cx, .slice Ay a.cls.length cy, .pointer p] rfl (HSRC1.out _ _ ((hgx.block w3.heap.size (hLt (HBN1.out w3))).trans (HBN1.out w3))) HNONE.out (by have := HL6.out; unfold maxLen; omega) (by have := HL6.out; omega) (HG1.out.size) ?_; intro v2 w6 ho2 hg2 hat2; have HO2 := LH ho2; have hgy := Below.grown (Below.refl w3.heap.size _) hg2 (HG1.out.size) (fun j e => (HO1.out.lt j e).1); have HG2 : Hid (Ext w3 w6) := LH (Below.trans (HG1.out) hgy); obtain ⟨Av2, cv2, rfl⟩ := oSL ho2; clear ho2 hg2 hat2 hgy))
        all_goals
          have HRES := HR.out
          rw [HSTEP.out, HYG.out, HLZ.out, if_pos rfl, HAG.out] at HRES
          have HRES := LH HRES
          have HLE : Hid ((r ++ [It.thunk a e]).length = r.length + 1) := by show _ = _; rw [List.length_append]; rfl
          have HDV : Hid (DR P w0 w6 bad (.is (.slice Av2 (r.length + 1) cv2) (r ++ [.thunk a e]))) := DR.of_row (B := w3.heap.size) (e := 71) (by rw [HLE.out]; exact HO2.out) (fun b hb hn => Nat.lt_irrefl _ (Nat.lt_of_lt_of_le ((HC.out.ext' HX3.out).nb b hn) hb)) ((HBR.out.snoc HDN.out).ext HG2.out)
          go_wp2
          go_roundg ((typesOf P t).length - (r.length + 1))
          case measure => omega
          case rel => exact ⟨r ++ [.thunk a e], by rw [HLE.out]; omega, by rw [HLE.out]; exact Nat.le_refl _, HDV.out, by rw [HLE.out]; exact HRES.out, (HXX.out.tr HEN.out).tr HG2.out⟩
    . have hje : r.length = (typesOf P t).length := by omega
      have HRES := HR.out
      rw [resS_end (by rw [HLN.out.1]; omega)] at HRES
      have HRES := LH HRES
      have HAL := LH (HA.out w0 wr bad mb vd vf ov fu en vl st t e k r _ _ _ _ _ (HC.out.ext' HX.out) (HM.out.ext' HX.out) HT.out HF.out HO.out (HE.out.ext HX.out) (HK.out.ext HX.out) HD.out hje)
      clear hje
      go_wp2_with fail
      (with_reducible refine (HAL.out).mono ?_)
      rintro x w5 ⟨⟨rfl, hrq⟩, ho⟩
      rw [HRES.out] at hrq
      have HRQ := LH hrq
      have HON := LH ((only_x (b := mb) HX.out).tr ho)
      clear hrq ho
      go_wp2
      go_end0
      exact ⟨⟨rfl, HRQ.out⟩, HON.out⟩
end Go.Proofs.YtkdglplfcpindaaGreatDoor
