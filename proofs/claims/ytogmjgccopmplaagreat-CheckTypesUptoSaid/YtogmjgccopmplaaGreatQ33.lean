/- The reference of layer 4: rule, calls. -/
import Derived.Test.YtogmjgccopmplaaGreatQ32
namespace Go.Proofs.YtogmjgccopmplaaGreat
open Go.RowKit
set_option maxHeartbeats 8000000 in
set_option maxRecDepth 100000 in
theorem rr_call (P : Pg) (vd vf vv vl vp : Value) (vs ls : List Prm) (k : Nat) (t : Tm) (xa xc : Value) (ps : List Int) (w : World) (m : Nat) (f : Fn) (hvd : ∃ A n c, vd = .slice A n c) (hf : RFns w vf P.funs) (h1 : RPrms w vv vs) (h2 : RPrms w vl ls) (ht : RT w k t xa xc) (hp : RInts w vp ps) (ho : t.op = 9) (hn : t.n = (m : Int)) (hfm : P.funs[m]? = some f) (hps : ps.length = f.ps.length) :
    Calls Tryz.prog 75 #[pV vd vf, .agg #[vv, vl], tV t xa xc, vp] w fun e w' => e = .returned (.tuple #[.int .i64 (if eqL ps (f.ps.map Prm.ty) = true then f.res else 0), .bool (eqL ps (f.ps.map Prm.ty))]) ∧ Ext w w' := by
  have HF := Lib.hid hf; have HP := Lib.hid hp
  have hmx : Tryz.prog.follows .mixedOrders = true := by kernel_rfl
  obtain ⟨Ad, nd, cd, rfl⟩ := hvd
  obtain ⟨Af, cf, rfl, hcf, hmf⟩ := hf.form
  obtain ⟨Av, cv, rfl, -, -⟩ := h1.form
  obtain ⟨Al, cl, rfl, -, -⟩ := h2.form
  obtain ⟨-, ⟨Aa, ca, rfl, -, -⟩, ⟨Bb, cb, rfl, -, -⟩⟩ := ht.form
  obtain ⟨Ap, cp, rfl, -, -⟩ := hp.form
  clear h1 h2 ht hp hf
  unfold maxLen at hmf
  have hml : m < P.funs.length := (List.getElem?_eq_some_iff.1 hfm).1
  obtain ⟨b, o, vq, ya, yc, kf, rfl, hbl, y0, y1, y2, yb, -, y4, y5⟩ := HF.out.at_ hml
  rw [(List.getElem?_eq_some_iff.1 hfm).2] at y0 y2 yb y4 y5
  obtain ⟨Aq, cq, rfl, hcq, hmq⟩ := y4.form
  unfold maxLen at hmq
  obtain ⟨-, ⟨Ax, cx, rfl, -, -⟩, ⟨Bx, dx, rfl, -, -⟩⟩ := y5.form
  have HQ4 := Lib.hid y4
  unfold tV
  rw [ho, hn]
  clear ho hn y5 y4
  have HE := Lib.hid (Ext.al3 w (.cells #[.slice Ad nd cd, .slice (some ⟨b, o, none⟩) P.funs.length cf] 25) (.cells #[.slice Av vs.length cv, .slice Al ls.length cl] 85) (.cells #[.int .i64 9, .int .i64 (m : Int), .string t.nm, .int .i64 t.ty, .slice Aa t.args.length ca, .slice Bb t.cls.length cb] 41))
  obtain ⟨g1, g2, g3, g4⟩ := bx_three w (.cells #[.slice Ad nd cd, .slice (some ⟨b, o, none⟩) P.funs.length cf] 25) (.cells #[.slice Av vs.length cv, .slice Al ls.length cl] 85) (.cells #[.int .i64 9, .int .i64 (m : Int), .string t.nm, .int .i64 t.ty, .slice Aa t.args.length ca, .slice Bb t.cls.length cb] 41)
  have HBP := Lib.hid g1; have HBS := Lib.hid g2; have HBT := Lib.hid g3; have HS1 := Lib.hid g4
  clear g1 g2 g3 g4
  have y0 := HE.out.keep y0
  have y1 := HE.out.keep y1
  have y2 := HE.out.keep y2
  have x0 := HE.out.keep yb.c0
  have x1 := HE.out.keep yb.c1
  have x2 := HE.out.keep yb.c2
  have x3 := HE.out.keep yb.c3
  have x4 := HE.out.keep yb.c4
  have x5 := HE.out.keep yb.c5
  clear yb
  obtain ⟨rs, hrs⟩ : ∃ rs, f.ps.map Prm.ty = rs := ⟨_, rfl⟩
  have HRS := Lib.hid hrs
  have HRL : Hid (rs.length = f.ps.length) := by show _ = _; rw [← hrs, List.length_map]
  rw [hrs]
  clear hrs
  obtain ⟨ra, hra⟩ : ∃ ra, eqL ps rs = ra := ⟨_, rfl⟩
  have HRA := Lib.hid hra
  rw [hra]
  clear hra
  obtain ⟨yv, hyv⟩ : ∃ yv : Int, (if ra = true then f.res else 0) = yv := ⟨_, rfl⟩
  have HY := Lib.hid hyv
  rw [hyv]
  clear hyv
  have HPS := Lib.hid hps
  clear hps
  go_enter Tryz.func75, Tryz.ntmps75
  obtain ⟨c0, c1, c2', c3, c4, c5⟩ := cells6 HBT.out
  have k1 := cellAt HBP.out 1
  go_upto_region 35 with fail
  clear c0 c1 c2' c3 c4 c5 k1 y0 y1 y2 x0 x1 x2 x3 x4 x5
  generalize World.alloc (World.alloc (World.alloc w _) _) _ = w1 at *
  have HEF := Lib.hid (Ext.al w1 (.cells #[.string f.nm, .slice Aq f.ps.length cq, .int .i64 f.res, .int .i64 f.body.op, .int .i64 f.body.n, .string f.body.nm, .int .i64 f.body.ty, .slice Ax f.body.args.length cx, .slice Bx f.body.cls.length dx] 64))
  have hbf := heapNew w1 (.cells #[.string f.nm, .slice Aq f.ps.length cq, .int .i64 f.res, .int .i64 f.body.op, .int .i64 f.body.n, .string f.body.nm, .int .i64 f.body.ty, .slice Ax f.body.args.length cx, .slice Bx f.body.cls.length dx] 64)
  rw [HS1.out] at hbf
  have HBF := Lib.hid hbf
  clear hbf
  generalize hw2 : World.alloc w1 _ = w2 at *
  clear hw2
  have HWE := Lib.hid (HE.out.tr HEF.out)
  have n1 := cellAt HBF.out 1
  go_wp2
  clear n1
  go_loopw [181] (fun i wr => ∃ j : Nat, j ≤ f.ps.length ∧ i = .int .i64 j ∧ ra = eqL (ps.drop j) (rs.drop j) ∧ Ext w2 wr) (fun i _ => f.ps.length - (intOf i).toNat)
  case atStart => exact ⟨0, Nat.zero_le _, rfl, HRA.out.symm, Ext.rf _⟩
  case round =>
    obtain ⟨j, hj, rfl, hr, hb⟩ := hrel
    have HR := Lib.hid hr; have HX3 := Lib.hid hb; have HX := Lib.hid (HWE.out.tr hb)
    clear hr hb
    by_cases hlt : j < f.ps.length
    · have hltp : j < ps.length := by rw [HPS.out]; exact hlt
      have hltr : j < rs.length := by rw [HRL.out]; exact hlt
      obtain ⟨bq, oq, hA, -, f2⟩ := (HP.out.below HX.out).at_ hltp
      cases hA
      obtain ⟨bx, ox, hA2, -, z0, z1, -⟩ := (HQ4.out.below HX.out).at_ hlt
      cases hA2
      have HD1 := Lib.hid (drop_step hltp)
      have HD2 := Lib.hid (drop_step hltr)
      have HZ : Hid (rs[j] = (f.ps[j]).ty) := by
        show _ = _
        have h9 := HRS.out
        subst h9
        exact List.getElem_map ..
      generalize rs[j] = z at *
      generalize f.ps[j] = q at *
      have hz : z = q.ty := HZ.out
      subst hz
      generalize ps[j] = p at *
      have HF2 := Lib.hid f2
      clear f2
      go_upto_region 38 with fail
      have HEX := Lib.hid (Ext.al wr (.cells #[.string q.nm, .int .i64 q.ty] 74))
      have HBX := Lib.hid (heapNew wr (.cells #[.string q.nm, .int .i64 q.ty] 74))
      generalize World.alloc wr _ = w3 at *
      clear z0 z1
      have d2 := ExtOf.cell (HEX.out.keep HF2.out)
      have d3 := ExtOf.cell (cellAt HBX.out 1)
      cases hq : decide (p = q.ty)
      · have hq' : (p != q.ty) = true := by simpa using hq
        have HQ := Lib.hid hq
        clear hq
        refine wp_region_ext (w0 := w3) hmx (by kernel_rfl) (Ext.rf _) ?_
        repeat (first | go_big_quiet_step (fail) | quiet_step (fail))
        refine wpQuiet_nil ?_
        rintro _ ⟨⟨w9, hx⟩, rfl⟩
        have HX9 := Lib.hid (HX.out.tr (HEX.out.tr hx))
        clear hx
        go_wp2
        go_ret2
        have hrf : ra = false := by rw [HR.out, HD1.out, HD2.out, eqL_cons, HQ.out]; rfl
        exact ⟨by rw [← HY.out, hrf]; rfl, HX9.out⟩
      · have hq' : (p != q.ty) = false := by simpa using hq
        have HQ := Lib.hid hq
        clear hq
        refine wp_region_ext (w0 := w3) hmx (by kernel_rfl) (Ext.rf _) ?_
        repeat (first | go_big_quiet_step (fail) | quiet_step (fail))
        refine wpQuiet_nil ?_
        rintro _ ⟨⟨w9, hx⟩, rfl⟩
        have HX9 := Lib.hid (HX3.out.tr (HEX.out.tr hx))
        clear hx
        go_wp2
        exact ⟨⟨j + 1, by omega, by go_num, by rw [HR.out, HD1.out, HD2.out, eqL_cons, HQ.out]; rfl, HX9.out⟩, by simp [intOf]; omega⟩
    · have HR1 : Hid (ra = true) := by
        show ra = true
        rw [HR.out, drop_end (by rw [HPS.out]; exact hlt), drop_end (by rw [HRL.out]; exact hlt)]; rfl
      have n3 := HX3.out.keep (cellAt HBF.out 2)
      go_wp2
      go_ret2
      exact ⟨by rw [← HY.out, HR1.out]; rfl, HX.out⟩
end Go.Proofs.YtogmjgccopmplaaGreat

/- The reference of layer 4: rule, whichever operator. -/
namespace Go.Proofs.YtogmjgccopmplaaGreat
open Go.RowKit
/-- Sizes of a valid program's constructors. -/
structure PX (P : Pg) : Prop where
  al : ∀ (u : Nat) (d : Decl) (x : Xtor), P.decls[u]? = some d → x ∈ d.xtors → x.args.length ≤ 1000
  el : ∀ (u : Nat) (d : Decl) (x : Xtor), P.decls[u]? = some d → d.codata = true → x ∈ d.xtors → 1 ≤ x.args.length
theorem findE_link {l : List Prm} {s : Str} {y : Int} (h : findE (linkL l) s = some y) : refFindL l s = y := by
  unfold refFindL; rw [h]; rfl
set_option maxHeartbeats 2000000 in
theorem refRule_any (P : Pg) (hB : PB P) (hX : PX P) (vd vf vv vl vp : Value) (vs ls : List Prm) (k : Nat) (t : Tm) (xa xc : Value) (ps : List Int) (w : World) (hd : RDecls w vd P.decls) (hv : RFns w vf P.funs) (h1 : RPrms w vv vs) (h2 : RPrms w vl ls) (ht : RT w k t xa xc) (hp : RInts w vp ps)
    (hf : fitsT P t = true) (hlen : ps.length = t.args.length + t.cls.length) (hs0 : t.op = 0 → ∃ y, findE (linkL vs) t.nm = some y) (hs1 : t.op = 12 → ∃ y, findE (linkL ls) t.nm = some y) :
    ∃ y b, Agree (ruleS P (linkL vs) (linkL ls) t.op t.n t.nm t.ty ps) y b ∧ ∀ w', Ext w w' → Calls Tryz.prog 75 #[pV vd vf, .agg #[vv, vl], tV t xa xc, vp] w' fun e w'' => e = .returned (.tuple #[.int .i64 y, .bool b]) ∧ Ext w' w'' := by
  obtain ⟨o, ho, ho2⟩ := fits_op hf
  have hvd : ∃ A n c, vd = .slice A n c := by obtain ⟨A, c, rfl, -, -⟩ := hd.form; exact ⟨_, _, _, rfl⟩
  have hvf : ∃ A n c, vf = .slice A n c := by obtain ⟨A, c, rfl, -, -⟩ := hv.form; exact ⟨_, _, _, rfl⟩
  unfold fitsT at hf
  unfold ruleS
  rw [ho] at hf ⊢
  match o, ho2 with
  | 0, _ =>
    obtain ⟨y, hy⟩ := hs0 ho
    refine ⟨y, true, by simp [hy, Agree], fun w' hx => ?_⟩
    have := rr_var vd vf vv vl vp vs ls k t xa xc ps w' hvd hvf (h1.below hx) (h2.below hx) (ht.below hx) (hp.below hx) ho
    rw [findE_link hy] at this; exact this
  | 1, _ => exact ⟨0, true, by simp [Agree], fun w' hx => rr_int vd vf vv vl vp vs ls k t xa xc ps w' hvd hvf (h1.below hx) (h2.below hx) (ht.below hx) (hp.below hx) ho⟩
  | 2, _ =>
    simp at hf
    obtain ⟨q1, q2⟩ := hasF_len hf.1.1
    obtain ⟨a, b, l, rfl, hl⟩ := two_int (n := 0) (ps := ps) (by omega)
    obtain rfl := List.eq_nil_of_length_eq_zero hl
    refine ⟨0, _, ?_, fun w' hx => rr_prim vd vf vv vl vp vs ls k t xa xc [a, b] w' hvd hvf (h1.below hx) (h2.below hx) (ht.below hx) (hp.below hx) ho⟩
    simp [eqL, agree_ok]
  | 3, _ =>
    simp at hf
    obtain ⟨q1, q2⟩ := hasF_len hf
    obtain ⟨a, b, l, rfl, hl⟩ := two_int (n := 1) (ps := ps) (by omega)
    obtain ⟨c, l, rfl, hl⟩ := one_int (n := 0) hl
    refine ⟨b, _, ?_, fun w' hx => rr_ifz vd vf vv vl vp vs ls k t xa xc a b c l w' hvd hvf (h1.below hx) (h2.below hx) (ht.below hx) (hp.below hx) ho⟩
    simp [agree_ok]
  | 4, _ =>
    simp at hf
    obtain ⟨u, d, hty, hdu, hda, hco⟩ := decl_in hf.1
    have hx1 := hf.2
    unfold fitsXB at hx1
    rw [hda] at hx1
    simp only [Bool.and_eq_true] at hx1
    obtain ⟨m, hn, hm⟩ := idx_in hx1.1
    obtain ⟨x, hxm⟩ : ∃ x, d.xtors[m]? = some x := ⟨_, List.getElem?_eq_getElem hm⟩
    have hty2 : t.ty = (u : Int) + 1 := by omega
    refine ⟨(u : Int) + 1, eqL ps (prodA x.args), ?_, fun w' hx => rr_con P vd vf vv vl vp vs ls k t xa xc ps w' u m d x (hd.below hx) hvf (h1.below hx) (h2.below hx) (ht.below hx) (hp.below hx) ho hty2 hn hdu hxm (hX.al u d x hdu (List.mem_of_getElem? hxm))⟩
    have e1 : xtorAt P t.ty t.n = x := by
      unfold xtorAt; rw [hda, hn, Int.toNat_natCast, List.getD_eq_getElem?_getD, hxm]; rfl
    have hag : Agree (okR (eqL ps (prodL x)) t.ty) ((u : Int) + 1) (eqL ps (prodA x.args)) := by rw [← hty2]; exact agree_ok
    simpa [e1] using hag
  | 5, _ =>
    simp at hf
    obtain ⟨u, d, hty, hdu, hda, hco⟩ := decl_in hf.1
    have hx1 := hf.2
    unfold fitsCB at hx1
    rw [hda] at hx1
    simp only [Bool.and_eq_true] at hx1
    obtain ⟨q1, q2⟩ := hasF_len hx1.1
    have hx2 := hB.xl u d hdu
    obtain ⟨a, b, l, rfl, hl⟩ := two_int (n := d.xtors.length - 1) (ps := ps) (by omega)
    refine ⟨_, _, ?_, fun w' hx => rr_case vd vf vv vl vp vs ls k t xa xc a b l w' hvd hvf (h1.below hx) (h2.below hx) (ht.below hx) (hp.below hx) ho⟩
    simp
    refine Agree.ok0 fun h => ?_
    simp at h
    rw [if_pos (by simpa using h.1)]
  | 6, _ =>
    simp at hf
    obtain ⟨u, d, hty, hdu, hda, hco⟩ := decl_in hf.1
    have hx1 := hf.2
    unfold fitsXB at hx1
    rw [hda] at hx1
    simp only [Bool.and_eq_true] at hx1
    obtain ⟨m, hn, hm⟩ := idx_in hx1.1
    obtain ⟨x, hxm⟩ : ∃ x, d.xtors[m]? = some x := ⟨_, List.getElem?_eq_getElem hm⟩
    have hty2 : t.ty = (u : Int) + 1 := by omega
    have hxi := List.mem_of_getElem? hxm
    have hx9 := hX.el u d x hdu hco hxi
    refine ⟨lastT x, eqL ps (prodA x.args ++ [(u : Int) + 1]), ?_, fun w' hx => rr_dtor P vd vf vv vl vp vs ls k t xa xc ps w' u m d x (hd.below hx) hvf (h1.below hx) (h2.below hx) (ht.below hx) (hp.below hx) ho hty2 hn hdu hxm (hX.al u d x hdu hxi) (x.args.length - 1) (by omega)⟩
    have e1 : xtorAt P t.ty t.n = x := by
      unfold xtorAt; rw [hda, hn, Int.toNat_natCast, List.getD_eq_getElem?_getD, hxm]; rfl
    have hag : Agree (okR (eqL ps (prodL x ++ [t.ty])) (lastT x)) (lastT x) (eqL ps (prodA x.args ++ [(u : Int) + 1])) := by rw [← hty2]; exact agree_ok
    simpa [e1] using hag
  | 7, _ =>
    simp at hf
    obtain ⟨u, d, hty, hdu, hda, hco⟩ := decl_in hf.1
    have hx1 := hf.2
    unfold fitsCB at hx1
    rw [hda] at hx1
    simp only [Bool.and_eq_true] at hx1
    obtain ⟨q1, q2⟩ := hasF_len hx1.1
    have hty2 : t.ty = (u : Int) + 1 := by omega
    refine ⟨_, _, ?_, fun w' hx => rr_cocase P vd vf vv vl vp vs ls k t xa xc ps w' u d (hd.below hx) hvf (h1.below hx) (h2.below hx) (ht.below hx) (hp.below hx) ho hty2 hdu (by omega) (fun x hxi => hX.el u d x hdu hco hxi)⟩
    rw [hda]
    simp
    exact Agree.ok0 fun h => by rw [if_pos h, hty2]
  | 8, _ =>
    simp at hf
    obtain ⟨q1, q2⟩ := hasF_len hf.1
    obtain ⟨a, b, l, rfl, hl⟩ := two_int (n := 0) (ps := ps) (by omega)
    refine ⟨b, _, ?_, fun w' hx => rr_let vd vf vv vl vp vs ls k t xa xc a b l w' hvd hvf (h1.below hx) (h2.below hx) (ht.below hx) (hp.below hx) ho⟩
    simp [agree_ok]
  | 9, _ =>
    simp at hf
    obtain ⟨m, hn, hm⟩ := idx_in hf.1
    obtain ⟨f, hxm⟩ : ∃ f, P.funs[m]? = some f := ⟨_, List.getElem?_eq_getElem hm⟩
    have e1 : fnAt P t.n = f := by
      unfold fnAt; rw [hn, Int.toNat_natCast, List.getD_eq_getElem?_getD, hxm]; rfl
    obtain ⟨q1, q2⟩ := hasF_len hf.2
    rw [hn, Int.toNat_natCast] at q1
    rw [hxm] at q1
    refine ⟨_, _, ?_, fun w' hx => rr_call P vd vf vv vl vp vs ls k t xa xc ps w' m f hvd (hv.below hx) (h1.below hx) (h2.below hx) (ht.below hx) (hp.below hx) ho hn hxm (by simp at q1; omega)⟩
    simp [e1]
    exact Agree.ok0 fun h => by rw [if_pos h]
  | 10, _ =>
    simp at hf
    obtain ⟨q1, q2⟩ := hasF_len hf
    obtain ⟨a, b, l, rfl, hl⟩ := two_int (n := 0) (ps := ps) (by omega)
    refine ⟨b, _, ?_, fun w' hx => rr_emit vd vf vv vl vp vs ls k t xa xc a b l w' hvd hvf (h1.below hx) (h2.below hx) (ht.below hx) (hp.below hx) ho⟩
    simp [agree_ok]
  | 11, _ =>
    simp at hf
    obtain ⟨q1, q2⟩ := hasF_len hf.1
    obtain ⟨a, l, rfl, hl⟩ := one_int (n := 0) (ps := ps) (by omega)
    refine ⟨t.ty, _, ?_, fun w' hx => rr_label vd vf vv vl vp vs ls k t xa xc a l w' hvd hvf (h1.below hx) (h2.below hx) (ht.below hx) (hp.below hx) ho⟩
    simp [agree_ok]
  | 12, _ =>
    simp at hf
    obtain ⟨q1, q2⟩ := hasF_len hf.1
    obtain ⟨a, l, rfl, hl⟩ := one_int (n := 0) (ps := ps) (by omega)
    obtain ⟨y, hy⟩ := hs1 ho
    refine ⟨t.ty, _, ?_, fun w' hx => rr_jump vd vf vv vl vp vs ls k t xa xc a l w' hvd hvf (h1.below hx) (h2.below hx) (ht.below hx) (hp.below hx) ho⟩
    rw [findE_link hy]
    simp [hy, agree_ok]
end Go.Proofs.YtogmjgccopmplaaGreat

/- law.go of layer 4: only. -/
namespace Go.Proofs.YtogmjgccopmplaaGreat
open Go.RowKit
def onlyL (l : List Prm) (us : List Str) : List Prm := l.filter fun a => hasS us a.nm
theorem prmCells_snoc (a : Prm) : ∀ l : List Prm, prmCells (l ++ [a]) = prmCells l ++ [.string a.nm, .int .i64 a.ty]
  | [] => rfl
  | b :: r => by rw [List.cons_append, prmCells, prmCells, prmCells_snoc a r]; rfl
theorem Tryz.undPrm : Tryz.prog.underlying 37 = some (.slice 74) := by kernel_rfl
theorem Tryz.infoPrm : (Tryz.prog.info? 74).map (fun i => (i.zero, i.size, i.bytes)) = some (some (.agg #[.string ⟨#[]⟩, .int .i64 0]), 2, 24) := by kernel_rfl
end Go.Proofs.YtogmjgccopmplaaGreat

/- The reference of layer 4: with. -/
namespace Go.Proofs.YtogmjgccopmplaaGreat
open Go.RowKit
theorem prmCells_appd : ∀ l m : List Prm, prmCells (l ++ m) = prmCells l ++ prmCells m
  | [], _ => rfl
  | a :: r, m => by rw [List.cons_append, prmCells, prmCells_appd r m]; rfl
end Go.Proofs.YtogmjgccopmplaaGreat

/- The reference of layer 4: bound. -/
namespace Go.Proofs.YtogmjgccopmplaaGreat
open Go.RowKit
def boundL (ns : List Str) (ts : List Int) : List Prm := (ns.zip ts).map fun p => ⟨p.1, p.2⟩
theorem boundL_step {ns : List Str} {ts : List Int} {j : Nat} (h : j < ts.length) (hn : j < ns.length) : boundL (ns.take (j + 1)) (ts.take (j + 1)) = boundL (ns.take j) (ts.take j) ++ [⟨ns[j], ts[j]⟩] := by
  unfold boundL
  rw [List.take_succ_eq_append_getElem h, List.take_succ_eq_append_getElem hn, List.zip_append (by simp; omega), List.map_append]; rfl
theorem boundL_len (ns : List Str) (ts : List Int) (j : Nat) : (boundL (ns.take j) (ts.take j)).length ≤ j := by
  unfold boundL
  simp; omega
theorem boundL_nm {ns : List Str} {ts : List Int} {a : Prm} (h : a ∈ boundL ns ts) : a.nm ∈ ns := by
  unfold boundL at h
  obtain ⟨p, hp, rfl⟩ := List.mem_map.1 h
  exact (List.of_mem_zip hp).1
set_option maxHeartbeats 4000000 in
set_option maxRecDepth 100000 in
theorem bound_any (x : Xtor) (va vn : Value) (ns : List Str) (w : World) (h : RArgs w va x.args) (hn : RStrs w vn ns) (hl : (prodA x.args).length = ns.length) (hx : x.args.length ≤ 1000) :
    Calls Tryz.prog 101 #[.agg #[.string x.name, va], vn] w fun e w' => (∃ v, e = .returned v ∧ RPrms w' v (boundL ns (prodA x.args))) ∧ Ext w w' := by
  have H := Lib.hid h; have HN := Lib.hid hn
  obtain ⟨A, c, rfl, hc, hm⟩ := h.form
  obtain ⟨A2, c2, rfl, hc2, hm2⟩ := hn.form
  have HSZ := Lib.hid hn.sizes
  clear h hn
  unfold maxLen at hm hm2
  have HE := Lib.hid (Ext.al w (.cells #[.string x.name, .slice A x.args.length c] 67))
  have HB := Lib.hid (heapNew w (.cells #[.string x.name, .slice A x.args.length c] 67))
  have c0 := cellAt HB.out 0
  have c1 := cellAt HB.out 1
  go_enter Tryz.func101, Tryz.ntmps101
  go_wp2_with fail
  generalize w.alloc _ = w1 at *
  clear c0 c1
  (with_reducible refine (ref_prods_any x.name _ x.args _ (H.out.below HE.out) hx).mono ?_)
  rintro e w3 ⟨⟨vp, rfl, ho⟩, hb⟩
  have HT := Lib.hid (own_ints ho)
  have HX3 := Lib.hid (HE.out.tr hb)
  have hpl : (prodA x.args).length ≤ 1000 := by
    have := prodA_le x.args x.args.length
    rw [List.take_length] at this
    omega
  obtain ⟨Ap, cp, rfl⟩ := own_shapeL ho
  clear ho hb
  obtain ⟨ts, hts⟩ : ∃ l, prodA x.args = l := ⟨_, rfl⟩
  rw [hts] at hl hpl HT
  rw [hts]
  have HTS := Lib.hid hts
  clear hts
  have hln : ts.length ≤ ns.length := by omega
  have hln2 : ns.length ≤ ts.length := by omega
  clear hl
  go_wp2
  go_loopw [5, 11] (fun s i wr => ∃ j : Nat, j ≤ ts.length ∧ i = .int .i64 j ∧ wr.ownsRow w3.heap.size 74 2 s (boundL (ns.take j) (ts.take j)).length (prmCells (boundL (ns.take j) (ts.take j))) ∧ Ext w3 wr) (fun _ i _ => ts.length - (intOf i).toNat)
  case atStart => exact ⟨0, Nat.zero_le _, rfl, ⟨by simp [boundL, prmCells], .inl ⟨rfl, by simp [boundL]⟩⟩, Ext.rf _⟩
  case round =>
    obtain ⟨j, hj, rfl, ho, hb⟩ := hrel
    have HO := Lib.hid ho; have HX4 := Lib.hid hb; have HX := Lib.hid (HX3.out.tr hb)
    clear ho hb
    by_cases hlt : j < ts.length
    · have hlt2 : j < ns.length := by omega
      obtain ⟨b, o, rfl, hbl, y0⟩ := HT.out.at_ hlt
      obtain ⟨b2, o2, rfl, -, z0, -⟩ := (HN.out.below HX.out).at_ hlt2
      have y0 := HX4.out.keep y0
      have HLS := Lib.hid (boundL_step hlt hlt2)
      have HLE := Lib.hid (boundL_len ns ts j)
      generalize ts[j] = y at *
      generalize ns[j] = s at *
      have HE9 := Lib.hid (Ext.al wr (.cells #[.string s, .int .i64 y] 74))
      have hn9 := heapNew wr (.cells #[.string s, .int .i64 y] 74)
      have HSO : Hid (SrcN _ (some ⟨wr.heap.size, 0, none⟩) 1 2 [.string s, .int .i64 y]) := .inr ⟨_, rfl, rfl, fun i u hu => by
        have hi : i < 2 := (List.getElem?_eq_some_iff.1 hu).1
        rw [add_at, Nat.zero_add]
        match i, hi with
        | 0, _ => exact (cellAt hn9 0).trans hu
        | 1, _ => exact (cellAt hn9 1).trans hu⟩
      clear hn9
      obtain ⟨nl, hnl⟩ : ∃ nl, (boundL (ns.take j) (ts.take j)).length = nl := ⟨_, rfl⟩
      obtain ⟨cl, hcl⟩ : ∃ cl, prmCells (boundL (ns.take j) (ts.take j)) = cl := ⟨_, rfl⟩
      have HNL := Lib.hid hnl; have HCL := Lib.hid hcl
      have HO9 : Hid (World.ownsRow (wr.alloc (.cells #[.string s, .int .i64 y] 74)) w3.heap.size 74 2 u5 nl cl) := by
        rw [← hnl, ← hcl]; exact own_below HO.out HE9.out
      have hle : nl ≤ j := by rw [← hnl]; exact HLE.out
      clear hnl hcl
      go_wp2_with (at_builtin; refine app_vals Tryz.undPrm Tryz.infoPrm (by decide) (by decide) (by decide) rfl _ _ rfl w3.heap.size _ nl cl rfl HO9.out (some ⟨wr.heap.size, 0, none⟩) 1 1 [.string s, .int .i64 y] rfl HSO.out (fun u hu => by simp at hu; rcases hu with rfl | rfl <;> rfl) (by omega) (HX4.out.tr HE9.out).size ?_)
      intro v9 w9 ho9 hg9
      have HX9 : Hid (Ext w3 w9) := (HX4.out.tr HE9.out).trans (grown_ext' hg9 HO9.out (HX4.out.tr HE9.out).size)
      have HOJ : Hid (World.ownsRow w9 w3.heap.size 74 2 v9 (boundL (ns.take (j + 1)) (ts.take (j + 1))).length (prmCells (boundL (ns.take (j + 1)) (ts.take (j + 1))))) := by
        show World.ownsRow _ _ _ _ _ _ _
        rw [HLS.out]
        rw [List.length_append, HNL.out]
        have h1 : prmCells (boundL (ns.take j) (ts.take j) ++ [⟨s, y⟩]) = cl ++ [.string s, .int .i64 y] := by
          rw [← HCL.out, prmCells_snoc]
        rw [h1]
        exact ho9
      clear ho9 hg9 y0 z0
      go_wp2
      exact ⟨⟨j + 1, by omega, by go_num, HOJ.out, HX9.out⟩, by simp [intOf]; omega⟩
    · have HP : Hid (RPrms wr u5 (boundL ns ts)) := by
        have h1 := HO.out
        rw [List.take_of_length_le (by omega), List.take_of_length_le (by omega)] at h1
        exact own_prms h1 (fun a ha => HSZ.out _ (boundL_nm ha))
      obtain ⟨A', c', hv, -⟩ := HP.out.form
      subst hv
      go_wp2
      go_ret
      exact ⟨⟨.slice A' (boundL ns ts).length c', rfl, by rw [HTS.out]; exact HP.out⟩, HX.out⟩
end Go.Proofs.YtogmjgccopmplaaGreat

/- law.go: CheckOwn: rows that are written to; paths are not negative. -/
namespace Go.Proofs.YtogmjgccopmplaaGreat
open Go.RowKit
/-- A row of single cells that may be written to, in a block from B on. -/
def WRow (W : World) (B : Nat) (v : Value) (n : Nat) : Prop :=
  ∃ A c, v = .slice A n c ∧ n ≤ c ∧ c ≤ maxLen ∧ (n = 0 ∨ ∃ g cur e, A = some ⟨g, 0, none⟩ ∧ B ≤ g ∧ W.heap[g]? = some (.cells cur e (0, 0)) ∧ n ≤ cur.size)
theorem WRow.set {W : World} {B n : Nat} {v : Value} (h : WRow W B v n) (q i : Nat) (u : Value) : WRow (W.setCell ⟨q, i, none⟩ u) B v n := by
  obtain ⟨A, c, rfl, h1, h2, h3⟩ := h
  refine ⟨A, c, rfl, h1, h2, ?_⟩
  rcases h3 with h3 | ⟨g, cur, e, rfl, h4, h5, h6⟩
  · exact .inl h3
  · refine .inr ?_
    by_cases hq : q = g
    · subst hq
      exact ⟨q, cur.setIfInBounds i u, e, rfl, h4, by simp [World.setCell, Array.getElem?_modify, h5], by simpa using h6⟩
    · exact ⟨g, cur, e, rfl, h4, (Below.heap_setCell _ _ _ _ (by show g ≠ q; omega)).trans h5, h6⟩
theorem WRow.at_ {W : World} {B n c : Nat} {A : Option Addr} (h : WRow W B (.slice A n c) n) {i : Nat} (hi : i < n) : ∃ g u, A = some ⟨g, 0, none⟩ ∧ B ≤ g ∧ W.cell? ⟨g, i, none⟩ = some u ∧ W.frozen? ⟨g, i, none⟩ = false := by
  obtain ⟨A', c', he, h1, h2, h3⟩ := h
  cases he
  rcases h3 with h3 | ⟨g, cur, e, rfl, h4, h5, h6⟩
  · omega
  · have hl : i < cur.size := by omega
    exact ⟨g, cur[i], rfl, h4, cellAt h5 i (Array.getElem?_eq_getElem hl), frozenAt h5 i⟩
theorem WRow.form {W : World} {B n : Nat} {v : Value} (h : WRow W B v n) : ∃ A c, v = .slice A n c ∧ n ≤ c ∧ c ≤ maxLen := by
  obtain ⟨A, c, h1, h2, h3, _⟩ := h
  exact ⟨A, c, h1, h2, h3⟩
end Go.Proofs.YtogmjgccopmplaaGreat

/- law.go: CheckOne: what types depend on; a let. -/
namespace Go.Proofs.YtogmjgccopmplaaGreat
open Go.RowKit
theorem lastL_fold (x : Str) : ∀ (l : List Prm) (f g : Str → Int), (∃ a ∈ l, eqS x a.nm = true) → (l.foldl (fun f a => fun x => if eqS x a.nm then a.ty else f x) f) x = (l.foldl (fun f a => fun x => if eqS x a.nm then a.ty else f x) g) x
  | [], _, _, ⟨a, h, _⟩ => by cases h
  | a :: r, f, g, h => by
    rw [List.foldl_cons, List.foldl_cons]
    by_cases hr : ∃ b ∈ r, eqS x b.nm = true
    · exact lastL_fold x r _ _ hr
    · have ha : eqS x a.nm = true := by
        obtain ⟨b, hb, e⟩ := h
        rcases List.mem_cons.1 hb with rfl | hb
        · exact e
        · exact absurd ⟨b, hb, e⟩ hr
      have hno : ∀ (r : List Prm) (f : Str → Int), (¬ ∃ b ∈ r, eqS x b.nm = true) → (r.foldl (fun f a => fun x => if eqS x a.nm then a.ty else f x) f) x = f x := by
        intro r
        induction r with
        | nil => intro f _; rfl
        | cons b s ih =>
          intro f h
          rw [List.foldl_cons, ih _ (fun ⟨c, hc, e⟩ => h ⟨c, List.mem_cons_of_mem _ hc, e⟩)]
          have : eqS x b.nm = false := by
            cases hb : eqS x b.nm
            · rfl
            · exact absurd ⟨b, List.mem_cons_self .., hb⟩ h
          simp [this]
      rw [hno r _ hr, hno r _ hr]
      simp [ha]
theorem lastL_none (x : Str) : ∀ (r : List Prm) (f : Str → Int), (¬ ∃ b ∈ r, eqS x b.nm = true) → (r.foldl (fun f a => fun x => if eqS x a.nm then a.ty else f x) f) x = f x
  | [], _, _ => rfl
  | b :: s, f, h => by
    rw [List.foldl_cons, lastL_none x s _ (fun ⟨c, hc, e⟩ => h ⟨c, List.mem_cons_of_mem _ hc, e⟩)]
    have : eqS x b.nm = false := by
      cases hb : eqS x b.nm
      · rfl
      · exact absurd ⟨b, List.mem_cons_self .., hb⟩ h
    simp [this]
theorem lastL_app {x : Str} {m l : List Prm} (h : ∃ a ∈ l, eqS x a.nm = true) : lastL (m ++ l) x = lastL l x := by
  unfold lastL
  rw [List.foldl_append]
  exact lastL_fold x l _ _ h
theorem lastL_filter (x : Str) (q : Prm → Bool) (hq : ∀ a, eqS x a.nm = true → q a = true) : ∀ (l : List Prm) (f : Str → Int), ((l.filter q).foldl (fun f a => fun x => if eqS x a.nm then a.ty else f x) f) x = (l.foldl (fun f a => fun x => if eqS x a.nm then a.ty else f x) f) x
  | [], _ => rfl
  | a :: r, f => by
    rw [List.foldl_cons]
    cases h : q a
    · rw [List.filter_cons_of_neg (by rw [h]; simp), lastL_filter x q hq r]
      have ha : eqS x a.nm = false := by
        cases hb : eqS x a.nm
        · rfl
        · rw [hq a hb] at h; cases h
      by_cases hr : ∃ b ∈ r, eqS x b.nm = true
      · exact lastL_fold x r _ _ hr
      · rw [lastL_none x r _ hr, lastL_none x r _ hr]
        simp [ha]
    · rw [List.filter_cons_of_pos h, List.foldl_cons, lastL_filter x q hq r]
theorem givenL_congr {l m : List Prm} : ∀ (us : List Str), (∀ s ∈ us, lastL l s = lastL m s) → givenL l us = givenL m us := by
  intro us h
  unfold givenL
  have : ∀ (us : List Str) (E : Env), (∀ s ∈ us, lastL l s = lastL m s) → us.foldl (fun E s => (s, lastL l s) :: E) E = us.foldl (fun E s => (s, lastL m s) :: E) E := by
    intro us
    induction us with
    | nil => intro E _; rfl
    | cons s r ih =>
      intro E h
      rw [List.foldl_cons, List.foldl_cons, h s (List.mem_cons_self ..)]
      exact ih _ (fun s hs => h s (List.mem_cons_of_mem _ hs))
  exact this us [] h
def typP (P : Pg) (vs ls : List Prm) (fv fl : List Str) (t : Tm) : Int × Int := match tyT P (givenL vs fv) (givenL ls fl) t with | .inr y => (y, 0) | .inl _ => (0, 40)
structure GoodQ (P : Pg) (vs ls : List Prm) (t : Tm) : Prop where
  prog : progB P = true
  size : (sizeR t).2 = true
  valid : validT P (hasS (vs.map Prm.nm)) (hasS (ls.map Prm.nm)) t = true
  hv : haveL P vs = true
  hl : haveL P ls = true
structure FVs (t : Tm) (fv fl : List Str) : Prop where
  m1 : ∀ k, k ∈ fv ↔ fvT t k = true
  o1 : SortedS fv
  m2 : ∀ k, k ∈ fl ↔ flT t k = true
  o2 : SortedS fl
section
variable {P : Pg} {vs ls more : List Prm} {fv fl : List Str} {t : Tm} {e : Ending}
theorem GoodQ.term (h : GoodQ P vs ls t) : (termP P (hasS (vs.map Prm.nm)) (hasS (ls.map Prm.nm)) t).1 = true := by
  unfold termP
  rw [if_pos h.prog, h.size, h.valid]; rfl
theorem GoodQ.of (h1 : progB P = true) (h2 : (termP P (hasS (vs.map Prm.nm)) (hasS (ls.map Prm.nm)) t).1 = true) (h3 : haveL P vs = true) (h4 : haveL P ls = true) : GoodQ P vs ls t := by
  unfold termP at h2
  rw [if_pos h1] at h2
  have h2 : ((sizeR t).2 && validT P (hasS (vs.map Prm.nm)) (hasS (ls.map Prm.nm)) t) = true := h2
  rw [Bool.and_eq_true] at h2
  exact ⟨h1, h2.1, h2.2, h3, h4⟩
theorem hasS_prm {l : List Prm} {k : Str} : hasS (l.map Prm.nm) k = true ↔ ∃ a ∈ l, eqS k a.nm = true := by
  rw [hasS_mem, List.mem_map]
  constructor
  · rintro ⟨a, ha, rfl⟩; exact ⟨a, ha, eqS_iff.2 rfl⟩
  · rintro ⟨a, ha, h⟩; exact ⟨a, ha, (eqS_iff.1 h).symm⟩
theorem have_sub {l m : List Prm} (h : haveL P m = true) (hs : ∀ a ∈ l, a ∈ m) : haveL P l = true := by
  unfold haveL at h ⊢
  rw [List.all_eq_true] at h ⊢
  exact fun a ha => h a (hs a ha)
theorem only_has {l : List Prm} {us : List Str} {k : Str} (h : hasS (l.map Prm.nm) k = true) (hk : k ∈ us) : hasS ((onlyL l us).map Prm.nm) k = true := by
  obtain ⟨a, ha, he⟩ := hasS_prm.1 h
  refine hasS_prm.2 ⟨a, ?_, he⟩
  unfold onlyL
  rw [List.mem_filter]
  exact ⟨ha, hasS_mem.2 (eqS_iff.1 he ▸ hk)⟩
theorem only_last {l : List Prm} {us : List Str} {k : Str} (hk : k ∈ us) : lastL (onlyL l us) k = lastL l k :=
  lastL_filter k _ (fun a h => hasS_mem.2 (eqS_iff.1 h ▸ hk)) l _
theorem GoodQ.only (h : GoodQ P vs ls t) (hf : FVs t fv fl) : GoodQ P (onlyL vs fv) (onlyL ls fl) t ∧ typP P (onlyL vs fv) (onlyL ls fl) fv fl t = typP P vs ls fv fl t := by
  have hfree := valid_free P _ t _ _ (Nat.le_refl _) h.valid
  refine ⟨⟨h.prog, h.size, valid_scope P _ t _ _ _ _ (Nat.le_refl _) h.valid (fun k hk => only_has (hfree.1 k hk) ((hf.m1 k).2 hk)) (fun k hk => only_has (hfree.2 k hk) ((hf.m2 k).2 hk)), have_sub h.hv (fun a ha => (List.mem_filter.1 ha).1), have_sub h.hl (fun a ha => (List.mem_filter.1 ha).1)⟩, ?_⟩
  unfold typP
  rw [givenL_congr (l := onlyL vs fv) (m := vs) fv (fun s hs => only_last hs), givenL_congr (l := onlyL ls fl) (m := ls) fl (fun s hs => only_last hs)]
theorem more_has {l : List Prm} {k : Str} (h : hasS (l.map Prm.nm) k = true) : hasS ((more ++ l).map Prm.nm) k = true := by
  obtain ⟨a, ha, he⟩ := hasS_prm.1 h
  exact hasS_prm.2 ⟨a, List.mem_append_right _ ha, he⟩
theorem have_more {l : List Prm} (h : haveL P more = true) (h2 : haveL P l = true) : haveL P (more ++ l) = true := by
  unfold haveL at h h2 ⊢
  rw [List.all_append, h, h2]; rfl
theorem GoodQ.add (h : GoodQ P vs ls t) (hf : FVs t fv fl) (hm : haveL P more = true) : GoodQ P (more ++ vs) (more ++ ls) t ∧ typP P (more ++ vs) (more ++ ls) fv fl t = typP P vs ls fv fl t := by
  have hfree := valid_free P _ t _ _ (Nat.le_refl _) h.valid
  refine ⟨⟨h.prog, h.size, valid_scope P _ t _ _ _ _ (Nat.le_refl _) h.valid (fun k hk => more_has (hfree.1 k hk)) (fun k hk => more_has (hfree.2 k hk)), have_more hm h.hv, have_more hm h.hl⟩, ?_⟩
  unfold typP
  rw [givenL_congr (l := more ++ vs) (m := vs) fv (fun s hs => lastL_app (hasS_prm.1 (hfree.1 s ((hf.m1 s).1 hs)))), givenL_congr (l := more ++ ls) (m := ls) fl (fun s hs => lastL_app (hasS_prm.1 (hfree.2 s ((hf.m2 s).1 hs))))]
end
def zzS : Str := ⟨#[122, 122]⟩
def letZ (u : Int) (t : Tm) : Tm := .mk 8 0 zzS u [t, varT zzS] []
end Go.Proofs.YtogmjgccopmplaaGreat

/- law.go: CheckOne: two rows that grow, one beside the other. -/
namespace Go.Proofs.YtogmjgccopmplaaGreat
open Go.RowKit
def OwnP (W : World) (B : Nat) (v : Value) (l : List Prm) : Prop := W.ownsRow B 74 2 v l.length (prmCells l)
theorem own_other {W W' : World} {B e k n : Nat} {v s : Value} {xs : List Value} (h : W.ownsRow B e k v n xs) (hg : W.grownBy W' s.ownBlock) (hne : ∀ g, v.ownBlock = some g → s.ownBlock ≠ some g) : W'.ownsRow B e k v n xs := by
  refine ⟨h.1, ?_⟩
  rcases h.2 with h0 | ⟨g, cap, cur, rfl, e2, e3, e4⟩
  · exact .inl h0
  · exact .inr ⟨g, cap, cur, rfl, e2, (hg.block g (heap_lt e3) (fun e => hne g (by simp [Value.ownBlock]) e.symm)).trans e3, e4⟩
/-- Two rows of the call's own, each in a block of its own. -/
structure Two (W : World) (B : Nat) (a b : Option (Value × List Prm)) : Prop where
  oa : ∀ x, a = some x → OwnP W B x.1 x.2
  ob : ∀ x, b = some x → OwnP W B x.1 x.2
  ne : ∀ x y g, a = some x → b = some y → x.1.ownBlock = some g → y.1.ownBlock ≠ some g
section
variable {W W' : World} {B : Nat} {a b : Option (Value × List Prm)}
theorem Two.ext (h : Two W B a b) (hb : Ext W W') : Two W' B a b :=
  ⟨fun x hx => own_below (h.oa x hx) hb, fun x hx => own_below (h.ob x hx) hb, h.ne⟩
end
def curOf (a b : Bool) (x y : Value) (l m : List Prm) : Option (Value × List Prm) := if b then some (y, m) else if a then some (x, l) else none
/-- The second drawn region. -/
structure R11 (vals : Nat → Value) (l1 l2 l3 : List Prm) (w7 : World) (Ls : Nat → Bool) (W : World) (vv : Nat → Value) : Prop where
  ext : Ext w7 W
  facts : ∀ i, i < 16 → i ≠ 2 ∧ i ≠ 4 ∧ i ≠ 6 ∧ i ≠ 8 → Ls i = true → vv i = vals i
  two : Two W w7.heap.size (curOf (Ls 2) (Ls 4) (vv 2) (vv 4) l3 (l3 ++ l1)) (curOf (Ls 6) (Ls 8) (vv 6) (vv 8) l3 (l3 ++ l2))
section
variable {vals : Nat → Value} {l1 l2 l3 : List Prm} {w7 W W' : World} {Ls : Nat → Bool} {vv : Nat → Value} {v : Value} {i : Nat}
theorem R11.zero (vals : Nat → Value) (l1 l2 l3 : List Prm) (w7 : World) (vv : Nat → Value) : R11 vals l1 l2 l3 w7 (fun _ => false) w7.drew vv :=
  ⟨(Ext.rf _).drew, (fun _ _ _ h => by cases h), ⟨fun x h => by simp [curOf] at h, fun x h => by simp [curOf] at h, fun x y g h => by simp [curOf] at h⟩⟩
theorem R11.put (h : R11 vals l1 l2 l3 w7 Ls W vv) (hi : i ≠ 2 ∧ i ≠ 4 ∧ i ≠ 6 ∧ i ≠ 8) (hb : Ext W W') (hv : v = vals i) : R11 vals l1 l2 l3 w7 (fun j => decide (j = i) || Ls j) W' (fun j => if j = i then v else vv j) := by
  refine ⟨h.ext.tr hb, fun j hj hn hl => ?_, ?_⟩
  · by_cases hji : j = i
    · subst hji; simpa using hv
    · have h2 : (decide (j = i) || Ls j) = true := hl
      rw [decide_eq_false hji, Bool.false_or] at h2
      simp only [if_neg hji]
      exact h.facts j hj hn h2
  · have e : ∀ j, j ≠ i → (decide (j = i) || Ls j) = Ls j := fun j hj => by rw [decide_eq_false hj, Bool.false_or]
    show Two W' w7.heap.size (curOf (decide (2 = i) || Ls 2) (decide (4 = i) || Ls 4) (if 2 = i then v else vv 2) (if 4 = i then v else vv 4) l3 (l3 ++ l1)) (curOf (decide (6 = i) || Ls 6) (decide (8 = i) || Ls 8) (if 6 = i then v else vv 6) (if 8 = i then v else vv 8) l3 (l3 ++ l2))
    rw [e 2 (by omega), e 4 (by omega), e 6 (by omega), e 8 (by omega), if_neg (by omega), if_neg (by omega), if_neg (by omega), if_neg (by omega)]
    exact h.two.ext hb
theorem R11.grown (h : R11 vals l1 l2 l3 w7 Ls W vv) {s : Value} (hg : W.grownBy W' s.ownBlock) (hB : ∀ g, s.ownBlock = some g → w7.heap.size ≤ g) : Ext w7 W' :=
  h.ext.trans (Below.grown (Below.refl _ _) hg h.ext.size hB)
theorem R11.a2 (h : R11 vals l1 l2 l3 w7 Ls W vv) (h2 : Ls 2 = true) (h4 : Ls 4 = false) : OwnP W w7.heap.size (vv 2) l3 := h.two.oa (vv 2, l3) (by simp [curOf, h2, h4])
end
/-- What the operations of the first drawn region yield. -/
def FO (vals : Nat → Value) (m1 m2 : List Prm) (W : World) (j : Nat) (v : Value) : Prop :=
  (j ≠ 3 ∧ j ≠ 6 → v = vals j) ∧ (j = 3 → RPrms W v m1) ∧ (j = 6 → RPrms W v m2)
theorem FO.ext {vals : Nat → Value} {m1 m2 : List Prm} (W W' : World) (j : Nat) (v : Value) (h : FO vals m1 m2 W j v) (hb : Ext W W') : FO vals m1 m2 W' j v :=
  ⟨h.1, fun e => (h.2.1 e).below hb, fun e => (h.2.2 e).below hb⟩
end Go.Proofs.YtogmjgccopmplaaGreat
