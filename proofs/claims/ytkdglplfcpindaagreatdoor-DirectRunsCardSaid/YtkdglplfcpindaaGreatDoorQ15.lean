import Derived.Test.YtkdglplfcpindaaGreatDoorQ14
set_option maxRecDepth 100000
namespace Go.Proofs.YtkdglplfcpindaaGreatDoor
open Go.RowKit
def RLz (P : Pg) (w : World) (bad : Nat -> Prop) (lz : Value) : Prop :=
  ∃ b c, lz = .slice (some ⟨b, 0, none⟩) (P.decls.length + 1) c /\ P.decls.length + 1 <= c /\ c <= maxLen /\ ¬ bad b /\ ∀ i, i <= P.decls.length -> w.cell? ⟨b, i, none⟩ = some (.bool (lazyB P (i : Int)))
theorem RLz.kp {P : Pg} {w w' : World} {bad bad' : Nat -> Prop} {lz : Value} (h : RLz P w bad lz) (hk : Kp bad bad' w w') : RLz P w' bad' lz := by
  obtain ⟨b, c, e, h1, h2, h3, h4⟩ := h
  exact ⟨b, c, e, h1, h2, (hk.cell h3 (h4 0 (Nat.zero_le _))).1, fun i hi => (hk.cell h3 (h4 i hi)).2⟩
theorem RTs.head {w0 w : World} (hx : Ext w0 w) {A : Option Addr} {n c : Nat} {a : Tm} {r : List Tm} (h : RTs w0 (.slice A n c) (a :: r)) : ∃ b o xa xc, A = some ⟨b, o, none⟩ /\ n = r.length + 1 /\ n <= c /\ c <= maxLen /\ C6 w b o a xa xc /\ RTx w0 a xa xc := by
  obtain ⟨A', c', e, h1, h2, h3⟩ := h
  simp only [Value.slice.injEq] at e
  obtain ⟨rfl, rfl, rfl⟩ := e
  obtain ⟨b, o, xa, xc, e2, -, h5, h6⟩ := h3 0 a rfl
  exact ⟨b, o, xa, xc, e2, by simp, h1, h2, by simpa using h5.below hx, h6⟩
theorem RIs.head {w : World} {bad : Nat -> Prop} {A : Option Addr} {n c : Nat} {y : Int} {q : List Int} (h : RIs w bad (.slice A n c) (y :: q)) : ∃ b o, A = some ⟨b, o, none⟩ /\ n = q.length + 1 /\ n <= c /\ c <= maxLen /\ ¬ bad b /\ w.cell? ⟨b, o, none⟩ = some (.int .i64 y) := by
  obtain ⟨A', c', e, h1, h2, h3⟩ := h
  simp only [Value.slice.injEq] at e
  obtain ⟨rfl, rfl, rfl⟩ := e
  obtain ⟨b, o, e2, h5, h6⟩ := h3 0 y rfl
  exact ⟨b, o, e2, by simp, h1, h2, h5, by simpa using h6⟩
theorem ThV.form {P : Pg} {w0 w : World} {bad : Nat -> Prop} {mb : Nat} {ev : Array Value} {t : Tm} {v : Value} (h : ThV P w0 w bad mb ev t v) : ∃ n c, v = .func (.func n) #[] c := by
  cases h <;> exact ⟨_, _, rfl⟩
theorem RTk.form {P : Pg} {w0 w : World} {bad : Nat -> Prop} {mb : Nat} {q : Tk} {v : Value} (h : RTk P w0 w bad mb q v) : ∃ t u, v = .iface t u := by
  cases q with
  | ev t e k => obtain ⟨_, _, _, _, _, e, -⟩ := h; exact ⟨_, _, e⟩
  | pass x k => obtain ⟨_, _, e, -⟩ := h; exact ⟨_, _, e⟩
theorem Kp.same {bad : Nat -> Prop} {lo hi : Nat} {w w1 : World} (h : Only (fun b => lo <= b /\ b < hi) w w1) : Kp (bx bad lo hi) (bx bad lo hi) w w1 :=
  ⟨h.size, fun b hb hn => ⟨hn, h.block b hb (fun k => hn (.inr k))⟩⟩
theorem NB.extO {bad C : Nat -> Prop} {w w' : World} (h : NB bad w) (hb : Only C w w') : NB bad w' := fun b k => Nat.lt_of_lt_of_le (h b k) hb.size
set_option maxHeartbeats 8000000 in
theorem resume_any (P : Pg) (w0 w : World) (bad : Nat -> Prop) (mb : Nat) (vd vf lz ov : Value) (fuel en0 vl st : Int) (t : Tm) (en : En) (k : Kt) (va vc pv pl kv : Value) (ts : List Tm) (ys : List Int) (l : List It) (vt vy a fv : Value)
    (hP : progB P = true) (hx : Ext w0 w) (hB : NB bad w) (hm : MB w mb vd vf lz ov fuel en0 vl st) (hlz : RLz P w bad lz) (hE : Ev5 P w0 w bad mb t en k va vc pv pl kv) (h1 : RTs w0 vt ts) (h2 : RIs w bad vy ys) (h3 : D5 P w0 w bad mb (.is a l)) (hth : ThV P w0 w bad mb (evV t va vc pv pl kv) t fv)
    (hop : t.op = 4 ∨ t.op = 6 ∨ t.op = 8 ∨ t.op = 9) (hfit : fitsT P t = true) (hlen : ts.length = ys.length) (hN : l.length + ys.length = (typesOf P t).length) (hyr : ∀ y ∈ ys, ∃ u : Nat, y = u /\ u <= P.decls.length) (hsm : (typesOf P t).length <= 1000) :
    Calls Tryz.prog 207 #[.agg #[vt, vy, pv, pl, a, fv], .pointer (some ⟨mb, 0, none⟩)] w fun e w' => (∃ v, e = .returned v /\ RTk P w0 w' bad mb (resS P t en k ts ys l) v) /\ Ext w w' := by
  have HX0 := LH hx
  have HB := LH hB
  have HM := LH hm
  have HLZ := LH hlz
  have HE := LH hE
  have H1 := LH h1
  have H2 := LH h2
  have H3 := LH h3
  have HTH := LH hth
  have HYR := LH hyr
  have HLEN := LH hlen
  have HNN := LH hN
  obtain ⟨At, ct, rfl, -, -⟩ := h1.form
  obtain ⟨Ay, cy, rfl, -, -⟩ := h2.form
  obtain ⟨A, c, rfl, -, -⟩ := h3.is_form
  obtain ⟨p, rfl⟩ := hE.vs.vs_form
  obtain ⟨q, rfl⟩ := hE.ls.ls_form
  obtain ⟨fn, fc, rfl⟩ := hth.form
  have HE1 := LH (Ext.al w (.cells #[.slice At ts.length ct, .slice Ay ys.length cy, .pointer p, .pointer q, .slice A l.length c, .func (.func fn) #[] fc] 307))
  have HBX := LH (hNw w (.cells #[.slice At ts.length ct, .slice Ay ys.length cy, .pointer p, .pointer q, .slice A l.length c, .func (.func fn) #[] fc] 307))
  have HZ1 : Hid ((w.alloc (.cells #[.slice At ts.length ct, .slice Ay ys.length cy, .pointer p, .pointer q, .slice A l.length c, .func (.func fn) #[] fc] 307)).heap.size = w.heap.size + 1) := World.size_alloc ..
  clear hx hB hm hlz hE h1 h2 h3 hth hyr hlen hN
  go_enter Tryz.func207, Tryz.ntmps207
  go_wp2
  generalize w.alloc _ = w1 at *
  have HK1 : Hid (Kp bad (bx bad w.heap.size (w.heap.size + 1)) w w1) := Kp.into HE1.out _
  have HNB1 : Hid (NB (bx bad w.heap.size (w.heap.size + 1)) w1) := HB.out.into HE1.out (Nat.le_of_eq HZ1.out.symm)
  go_loopg [4] ts.length (fun m r wr => r = .nilIface /\ ∃ (ts' : List Tm) (ys' : List Int) (l' : List It) (vt' vy' a' : Value), ts'.length <= m /\ ts'.length = ys'.length /\ l'.length + ys'.length = (typesOf P t).length /\ wr.heap[w.heap.size]? = some (.cells #[vt', vy', .pointer p, .pointer q, a', .func (.func fn) #[] fc] 307 (0, 0)) ∧
    RTs w0 vt' ts' /\ RIs wr (bx bad w.heap.size (w.heap.size + 1)) vy' ys' /\ D5 P w0 wr (bx bad w.heap.size (w.heap.size + 1)) mb (.is a' l') /\ Only (fun b => w.heap.size <= b /\ b < w.heap.size + 1) w1 wr /\ resS P t en k ts ys l = resS P t en k ts' ys' l' /\ (∀ y ∈ ys', ∃ u : Nat, y = u /\ u <= P.decls.length))
  case atStart => exact ⟨rfl, ts, ys, l, _, _, _, Nat.le_refl _, HLEN.out, HNN.out, HBX.out, H1.out, RIs.kp HK1.out H2.out, H3.out.kp HK1.out, Only.rf _ _, rfl, HYR.out⟩
  case round =>
    obtain ⟨rfl, ts', ys', l', vt', vy', a', hm', hlen', hN', hbx, h1', h2', h3', ho, hres, hyr'⟩ := hrel
    have HBXr := LH hbx
    have HLr := LH hlen'
    have HNr := LH hN'
    clear hN'
    have H1r := LH h1'
    have H2r := LH h2'
    have H3r := LH h3'
    have HO := LH ho
    have HRES := LH hres
    have HXr : Hid (Ext w wr) := Only.belowX HE1.out ho (Nat.le_refl _)
    have HKr : Hid (Kp bad (bx bad w.heap.size (w.heap.size + 1)) w wr) := Kp.into HXr.out _
    obtain ⟨Atr, ctr, rfl, hct1, hct2⟩ := h1'.form
    obtain ⟨Ayr, cyr, rfl, hcy1, hcy2⟩ := h2'.form
    obtain ⟨Ar, cr, rfl, -, -⟩ := h3'.is_form
    obtain ⟨m0, m1, m2, m3, m4, m5, m6, m7⟩ := (HM.out.ext HXr.out).cells
    cases ts' with
    | nil =>
      have hys : ys' = [] := List.eq_nil_of_length_eq_zero (by simpa using hlen'.symm)
      subst hys
      clear hlen'
      obtain ⟨c0, c1, c2, c3, c4, c5⟩ := cells5_6 hbx
      clear hbx h1' h2' h3' ho hres hyr' m0 m1 m2 m3 m4 m5 m6 m7
      have HRES2 : Hid (resS P t en k ts ys l = afterS P t en k l') := by show _ = _; rw [HRES.out]; rfl
      have HA : Hid (D5 P w0 wr bad mb (.is (.slice Ar l'.length cr) l')) := H3r.out.kp (Kp.outof (Only.rf _ _))
      have HEr := LH (HE.out.ext HXr.out)
      have HLN : Hid (l'.length = (typesOf P t).length) := by show _ = _; have := HNr.out; simpa using this
      have HX0r := LH (HX0.out.tr HXr.out)
      have HBr := LH (HB.out.ext HXr.out)
      cases HTH.out with
      | con be g0 g1 g2 =>
        have HG : Hid (wr.heap[be]? = _) := (HXr.out.block _ (hLt g2)).trans g2
        have HG0 := LH g0
        clear g2 g0
        go_wp2_with fail
        (with_reducible refine (thenCon_any P w0 _ bad mb be t en k _ _ _ _ _ _ l' HEr.out HG.out HA.out HG0.out).mono ?_)
        rintro e w2 ⟨⟨v, rfl, hr⟩, hx2⟩
        obtain ⟨tv, uv, rfl⟩ := hr.form
        have HR := LH hr
        have HX2 := LH hx2
        clear hr hx2
        go_wp2
        go_ret
        exact ⟨⟨_, rfl, by rw [HRES2.out]; exact HR.out⟩, HXr.out.tr HX2.out⟩
      | obs be bl g0 g1 g2 g3 g4 =>
        have HG : Hid (wr.heap[be]? = _) := (HXr.out.block _ (hLt g2)).trans g2
        have HG4 : Hid (wr.heap[bl]? = _) := (HXr.out.block _ (hLt g4)).trans g4
        have HAL : Hid (1 <= t.args.length) := by show _ <= _; have := (terms_len hP hfit hop).2 g0; omega
        have HG0 := LH g0
        clear g2 g4 g0
        go_wp2_with fail
        (with_reducible refine (thenObs_any P w0 _ bad mb be bl t en k _ _ _ _ _ _ l' HX0r.out HEr.out HG.out HG4.out HA.out HG0.out HAL.out).mono ?_)
        rintro e w2 ⟨⟨v, rfl, hr⟩, hx2⟩
        obtain ⟨tv, uv, rfl⟩ := hr.form
        have HR := LH hr
        have HX2 := LH hx2
        clear hr hx2
        go_wp2
        go_ret
        exact ⟨⟨_, rfl, by rw [HRES2.out]; exact HR.out⟩, HXr.out.tr HX2.out⟩
      | lt be g0 g1 g2 =>
        have HG : Hid (wr.heap[be]? = _) := (HXr.out.block _ (hLt g2)).trans g2
        have HAL : Hid (t.args.length = 2) := (fit8 hfit g0).1
        have HL1 : Hid (∃ y, l' = [y]) := by
          have h1 : (typesOf P t).length = 1 := by unfold typesOf; rw [if_pos g0]; rfl
          have h2 := HLN.out
          show ∃ y, l' = [y]
          match l', h2.trans h1 with
          | [y], _ => exact ⟨y, rfl⟩
        have HG0 := LH g0
        clear g2 g0
        obtain ⟨z, rfl⟩ := HL1.out
        have HA1 : Hid (D5 P w0 wr bad mb (.is (.slice Ar 1 cr) [z])) := HA.out
        go_wp2_with fail
        (with_reducible refine (thenLet_any P w0 _ bad mb be t en k _ _ _ _ _ _ z HX0r.out HEr.out HG.out HA1.out HG0.out HAL.out HBr.out).mono ?_)
        rintro e w2 ⟨⟨v, rfl, hr⟩, hx2⟩
        obtain ⟨tv, uv, rfl⟩ := hr.form
        have HR := LH hr
        have HX2 := LH hx2
        clear hr hx2
        go_wp2
        go_ret
        exact ⟨⟨_, rfl, by rw [HRES2.out]; exact HR.out⟩, HXr.out.tr HX2.out⟩
      | call bm bf be vp xa xc g0 g1 g2 g3 g4 g5 g6 g7 =>
        have HG : Hid (wr.heap[be]? = _) := (HXr.out.block _ (hLt g2)).trans g2
        have HG4 : Hid (wr.heap[bm]? = _) := (HXr.out.block _ (hLt g4)).trans g4
        have HG6 : Hid (wr.heap[bf]? = _) := (HXr.out.block _ (hLt g6)).trans g6
        have HTL : Hid ((typesOf P t).length = (fnAt P t.n).ps.length) := by show _ = _; unfold typesOf; rw [if_neg (by omega), if_pos g0, List.length_map]
        have HPL : Hid ((fnAt P t.n).ps.length <= l'.length) := by show _ <= _; have := HLN.out; have := HTL.out; omega
        have HPS : Hid ((fnAt P t.n).ps.length <= 1000) := by show _ <= _; have := HTL.out; omega
        have HG0 := LH g0
        have HG7 := LH g7
        clear g2 g4 g6 g0 g7
        go_wp2_with fail
        (with_reducible refine (thenCall_any P w0 _ bad mb be bm bf t en k _ _ _ _ _ _ vp xa xc l' HX0r.out HEr.out HG.out HG4.out HG6.out HG7.out HA.out HG0.out HPL.out HPS.out HBr.out).mono ?_)
        rintro e w2 ⟨⟨v, rfl, hr⟩, hx2⟩
        obtain ⟨tv, uv, rfl⟩ := hr.form
        have HR := LH hr
        have HX2 := LH hx2
        clear hr hx2
        go_wp2
        go_ret
        exact ⟨⟨_, rfl, by rw [HRES2.out]; exact HR.out⟩, HXr.out.tr HX2.out⟩
    | cons x r =>
      cases ys' with
      | nil => simp at hlen'
      | cons y s =>
        obtain ⟨c0, c1, c2, c3, c4, c5⟩ := cells5_6 hbx
        obtain ⟨u, rfl, hu⟩ := hyr' y (by simp)
        have HYRr : Hid (∀ y ∈ s, ∃ u : Nat, y = u /\ u <= P.decls.length) := fun z hz => hyr' z (by simp [hz])
        obtain ⟨b, o, xa, xc, rfl, -, -, -, h6, h7⟩ := h1'.head (HX0.out.tr HXr.out)
        obtain ⟨b2, o2, rfl, -, -, -, -, hcy⟩ := h2'.head
        obtain ⟨lb, lc, rfl, hlc1, hlc2, -, hlcell⟩ := HLZ.out.kp (Kp.of_ext HXr.out)
        have hlu := hlcell u hu
        obtain ⟨y0, y1, y2, y3, y4, y5⟩ := h6
        obtain ⟨⟨Ax, cx, rfl, -, -⟩, ⟨Ay, cy, rfl, -, -⟩⟩ := h7.form
        have H7 := LH h7
        unfold maxLen at hct2 hcy2 hlc2
        clear hbx h1' h2' h3' ho hres hyr' h7 hlcell hlen'
        have HEA := LH (Ext.al wr (.cells #[.int .i64 0, .int .i64 0, .string ⟨#[]⟩, .int .i64 0, .slice none 0 0, .slice none 0 0, .pointer none, .pointer none] 159))
        have c0a := HEA.out.keep c0
        have c2a := HEA.out.keep c2
        have c3a := HEA.out.keep c3
        have y0a := HEA.out.keep y0
        have y1a := HEA.out.keep y1
        have y2a := HEA.out.keep y2
        have y3a := HEA.out.keep y3
        have y4a := HEA.out.keep y4
        have y5a := HEA.out.keep y5
        simp only [List.length_cons] at *
        go_wp2
        go_region
        have HEF := LH (Ext.al wr (.cells #[.int .i64 x.op, .int .i64 x.n, .string x.nm, .int .i64 x.ty, .slice Ax x.args.length cx, .slice Ay x.cls.length cy, .pointer p, .pointer q] 159))
        have HFB := LH (hNw wr (.cells #[.int .i64 x.op, .int .i64 x.n, .string x.nm, .int .i64 x.ty, .slice Ax x.args.length cx, .slice Ay x.cls.length cy, .pointer p, .pointer q] 159))
        clear c0a c2a c3a y0 y1 y2 y3 y4 y5 y0a y1a y2a y3a y4a y5a
        have c0 := HEF.out.keep c0
        have c1 := HEF.out.keep c1
        have c2 := HEF.out.keep c2
        have c3 := HEF.out.keep c3
        have c4 := HEF.out.keep c4
        have c5 := HEF.out.keep c5
        have m2 := HEF.out.keep m2
        have hcy := HEF.out.keep hcy
        have hlu := HEF.out.keep hlu
        obtain ⟨d0, d1, d2, d3, d4, d5, d6, d7⟩ := cells5_8 HFB.out
        have HBXa := LH ((HEF.out.block _ (hLt HBXr.out)).trans HBXr.out)
        clear HEA
        have hu1 : (u : Int) < P.decls.length + 1 := by omega
        have hu2 : (0 : Int) <= u := by omega
        have HLB : Hid (resS P t en k (x :: r) ((u : Int) :: s) l' = if lazyB P (u : Int) then resS P t en k r s (l' ++ [.thunk x en]) else .ev x en (.bind (x :: r) ((u : Int) :: s) l' t en :: k)) := by show _ = _; rw [resS]
        generalize lazyB P (u : Int) = bz at *
        have HT1 : Hid (RTs w0 (.slice (some ⟨b, o, none⟩) (r.length + 1) ctr) (x :: r)) := H1r.out
        have HY1 : Hid (RIs wr (bx bad w.heap.size (w.heap.size + 1)) (.slice (some ⟨b2, o2, none⟩) (s.length + 1) cyr) ((u : Int) :: s)) := H2r.out
        cases bz
        . go_wp2
          go_quiet (fail)
          go_wp2
          go_ret
          have hW : Ext wr _ := HEF.out.drewNx (1 + nq)
          have hk : Kp (bx bad w.heap.size (w.heap.size + 1)) bad wr _ := (Kp.of_ext hW).tr (Kp.outof (Only.rf _ _))
          have hE := HE.out.ext (HXr.out.tr hW)
          exact ⟨⟨_, rfl, by rw [HRES.out, HLB.out]; exact ⟨_, _, _, _, _, rfl, H7.out, hE.vs, hE.ls, .bind t en _ _ _ _ _ _ _ _ _ _ _ _ k hE.t hE.vs hE.ls hE.k (H3r.out.kp hk) HT1.out (RIs.kp hk HY1.out) (ThV.kp (Kp.of_ext (HXr.out.tr hW)) HTH.out)⟩⟩, HXr.out.tr hW⟩
        . go_wp2
          go_quiet (fail)
          go_wp2_with fail
          have HW : Hid (Ext wr _) := HEF.out.drewNx (1 + nq)
          have HKW : Hid (Kp (bx bad w.heap.size (w.heap.size + 1)) (bx bad w.heap.size (w.heap.size + 1)) wr _) := Kp.of_ext HW.out
          have HL1 : Hid (l'.length <= 1000) := by show _ <= _; have := HNr.out; omega
          have HIT : Hid (D5 P w0 _ (bx bad w.heap.size (w.heap.size + 1)) mb (.i (.iface 309 (.agg (clV x (.slice Ax x.args.length cx) (.slice Ay x.cls.length cy) (.pointer p) (.pointer q)))) (.thunk x en))) := .thunk x en _ _ _ _ H7.out ((HE.out.vs.kp HKr.out).kp HKW.out) ((HE.out.ls.kp HKr.out).kp HKW.out)
          (with_reducible refine (bwith5_any P w0 _ (bx bad w.heap.size (w.heap.size + 1)) mb (x :: r) ((u : Int) :: s) l' (.thunk x en) _ _ _ _ _ p q HT1.out (RIs.kp HKW.out HY1.out) (H3r.out.kp HKW.out) HIT.out ⟨_, _, rfl⟩ (Nat.le_add_left _ _) (Nat.le_add_left _ _) HL1.out ((HNB1.out.extO HO.out).ext HW.out)).mono ?_)
          rintro e w2 ⟨⟨vt2, vy2, a2, rfl, h1n, h2n, h3n⟩, hx2⟩
          have HX2 := LH (HW.out.tr hx2)
          obtain ⟨At2, ct2, rfl, -, -⟩ := h1n.form
          obtain ⟨Ay2, cy2, rfl, -, -⟩ := h2n.form
          obtain ⟨A2, c2', rfl, -, -⟩ := h3n.is_form
          have H1n := LH h1n
          have H2n := LH h2n
          have H3n := LH h3n
          clear h1n h2n h3n hx2 c0 c1 c2 c3 c4 c5 m0 m1 m2 m3 m4 m5 m6 m7 hcy hlu d0 d1 d2 d3 d4 d5 d6 d7
          have HB2 := LH ((HX2.out.block _ (hLt HBXr.out)).trans HBXr.out)
          obtain ⟨c0, c1, c2, c3, c4, c5⟩ := cells5_6 HB2.out
          have f0 := fA HB2.out 0
          have f1 := fA HB2.out 1
          have f2 := fA HB2.out 2
          have f3 := fA HB2.out 3
          have f4 := fA HB2.out 4
          have f5 := fA HB2.out 5
          have HZZ := LH (box6_all HB2.out (.slice At2 r.length ct2) (.slice Ay2 s.length cy2) (.pointer p) (.pointer q) (.slice A2 (l'.length + 1) c2') (.func (.func fn) #[] fc))
          have HOZ := LH (only6_in (lo := w.heap.size) (hi := w.heap.size + 1) w2 (r := w.heap.size) ⟨Nat.le_refl _, by omega⟩ (.slice At2 r.length ct2) (.slice Ay2 s.length cy2) (.pointer p) (.pointer q) (.slice A2 (l'.length + 1) c2') (.func (.func fn) #[] fc))
          simp only [List.tail_cons, List.length_append, List.length_cons, List.length_nil, Nat.zero_add] at *
          go_wp2
          go_roundg r.length
          case measure => omega
          case rel => exact ⟨rfl, r, s, l' ++ [.thunk x en], _, _, _, Nat.le_refl _, by have := HLr.out; simp at this; exact this, by have := HNr.out; simp at this ⊢; omega, HZZ.out, H1n.out, RIs.kp (Kp.same HOZ.out) H2n.out, by have := H3n.out.kp (Kp.same HOZ.out); simpa using this, (HO.out.tr (Only.of_ext HX2.out)).tr HOZ.out, by rw [HRES.out, HLB.out]; rfl, HYRr.out⟩
end Go.Proofs.YtkdglplfcpindaaGreatDoor

namespace Go.Proofs.YtkdglplfcpindaaGreatDoor
open Go.RowKit
structure MC (P : Pg) (w0 w : World) (bad : Nat -> Prop) (mb : Nat) (vd vf lz ov : Value) (fuel en0 vl st : Int) : Prop where
  prog : progB P = true
  ext : Ext w0 w
  nb : NB bad w
  lo : w0.heap.size <= mb
  tu : bad mb
  mb : MB w mb vd vf lz ov fuel en0 vl st
  lz : RLz P w bad lz
  ds : RDecls w0 vd P.decls
  fs : RFns w0 vf P.funs
theorem MC.ext' {P : Pg} {w0 w w' : World} {bad : Nat -> Prop} {mb : Nat} {vd vf lz ov : Value} {fuel en0 vl st : Int} (h : MC P w0 w bad mb vd vf lz ov fuel en0 vl st) (hx : Ext w w') : MC P w0 w' bad mb vd vf lz ov fuel en0 vl st :=
  ⟨h.prog, h.ext.tr hx, h.nb.ext hx, h.lo, h.tu, h.mb.ext hx, h.lz.kp (Kp.of_ext hx), h.ds, h.fs⟩
theorem Kp.of_only {bad C : Nat -> Prop} {w w' : World} (h : Only C w w') (hC : ∀ b, C b -> bad b) : Kp bad bad w w' := ⟨h.size, fun b hb hn => ⟨hn, h.block b hb (fun k => hn (hC b k))⟩⟩
theorem MC.only {P : Pg} {w0 w w' : World} {bad : Nat -> Prop} {mb : Nat} {vd vf lz ov : Value} {fuel en0 vl st fuel' en' vl' st' : Int} (h : MC P w0 w bad mb vd vf lz ov fuel en0 vl st) (ho : Only (fun b => b = mb) w w') (hm : MB w' mb vd vf lz ov fuel' en' vl' st') : MC P w0 w' bad mb vd vf lz ov fuel' en' vl' st' :=
  ⟨h.prog, h.ext.trans (ho.below h.ext.size (fun b hb => hb ▸ h.lo)), fun b k => Nat.lt_of_lt_of_le (h.nb b k) ho.size, h.lo, h.tu, hm, h.lz.kp (Kp.of_only ho (fun b hb => hb ▸ h.tu)), h.ds, h.fs⟩
set_option maxHeartbeats 2000000 in
theorem mbind_any (P : Pg) (w0 w : World) (bad : Nat -> Prop) (mb : Nat) (vd vf lz ov : Value) (fuel en0 vl st : Int) (t : Tm) (en : En) (k : Kt) (va vc pv pl kv : Value) (ts : List Tm) (ys : List Int) (vt vy fv : Value)
    (hC : MC P w0 w bad mb vd vf lz ov fuel en0 vl st) (hE : Ev5 P w0 w bad mb t en k va vc pv pl kv) (h1 : RTs w0 vt ts) (h2 : RIs w bad vy ys) (hth : ThV P w0 w bad mb (evV t va vc pv pl kv) t fv)
    (hop : t.op = 4 ∨ t.op = 6 ∨ t.op = 8 ∨ t.op = 9) (hfit : fitsT P t = true) (hlen : ts.length = ys.length) (hN : ys.length = (typesOf P t).length) (hyr : ∀ y ∈ ys, ∃ u : Nat, y = u /\ u <= P.decls.length) (hsm : (typesOf P t).length <= 1000) :
    Calls Tryz.prog 201 #[.pointer (some ⟨mb, 0, none⟩), vt, vy, .agg #[pv, pl], fv] w fun e w' => (∃ v, e = .returned v /\ RTk P w0 w' bad mb (resS P t en k ts ys []) v) /\ Ext w w' := by
  have HC := LH hC
  have HE := LH hE
  have H1 := LH h1
  have H2 := LH h2
  have HTH := LH hth
  have HYR := LH hyr
  have HLEN := LH hlen
  have HNN : Hid (([] : List It).length + ys.length = (typesOf P t).length) := by show _ = _; rw [← hN]; simp
  obtain ⟨At, ct, rfl, -, -⟩ := h1.form
  obtain ⟨Ay, cy, rfl, -, -⟩ := h2.form
  obtain ⟨p, rfl⟩ := hE.vs.vs_form
  obtain ⟨q, rfl⟩ := hE.ls.ls_form
  obtain ⟨fn, fc, rfl⟩ := hth.form
  have HE1 := LH (Ext.al w (.cells #[.pointer p, .pointer q] 156))
  have c0 := cA (hNw w (.cells #[.pointer p, .pointer q] 156)) 0
  have c1 := cA (hNw w (.cells #[.pointer p, .pointer q] 156)) 1
  clear hC hE h1 h2 hth hyr hlen hN
  go_enter Tryz.func201, Tryz.ntmps201
  go_wp2_with fail
  generalize w.alloc _ = w1 at *
  have HK : Hid (Kp bad bad w w1) := Kp.of_ext HE1.out
  have HC1 := LH (HC.out.ext' HE1.out)
  (with_reducible refine (resume_any P w0 _ bad mb vd vf lz ov fuel en0 vl st t en k _ _ _ _ _ ts ys [] _ _ _ _ HC1.out.prog HC1.out.ext HC1.out.nb HC1.out.mb HC1.out.lz (HE.out.ext HE1.out) H1.out (RIs.kp HK.out H2.out) .inil (ThV.kp HK.out HTH.out) hop hfit HLEN.out HNN.out HYR.out hsm).mono ?_)
  rintro e w2 ⟨⟨v, rfl, hr⟩, hx2⟩
  obtain ⟨tv, uv, rfl⟩ := hr.form
  have HR := LH hr
  have HX2 := LH (HE1.out.tr hx2)
  clear hr hx2
  go_wp2
  go_ret
  exact ⟨⟨_, rfl, HR.out⟩, HX2.out⟩
end Go.Proofs.YtkdglplfcpindaaGreatDoor

namespace Go.Proofs.YtkdglplfcpindaaGreatDoor
open Go.RowKit
theorem xtor_mem {P : Pg} {ty n : Int} {co : Bool} (hd : isDeclB P ty co = true) (hn : isIdxB n (declAt P ty).xtors.length = true) : ∃ d ∈ P.decls, xtorAt P ty n ∈ d.xtors := by
  obtain ⟨u, d, rfl, hdd, hda, rfl⟩ := decl_in5 hd
  obtain ⟨k, rfl, hk⟩ := idx_in5 hn
  rw [hda] at hk
  refine ⟨d, List.mem_of_getElem? hdd, ?_⟩
  unfold xtorAt
  rw [hda, List.getD_eq_getElem?_getD, show ((k : Int)).toNat = k by omega, List.getElem?_eq_getElem hk]
  exact List.getElem_mem hk
theorem prod_range {P : Pg} (hP : progB P = true) {ty n : Int} {co : Bool} (hd : isDeclB P ty co = true) (hn : isIdxB n (declAt P ty).xtors.length = true) : (∀ y ∈ prodL (xtorAt P ty n), ∃ u : Nat, y = u /\ u <= P.decls.length) /\ (xtorAt P ty n).args.length <= 6 := by
  have hf := Fine.of (prog_decls5 hP).1
  obtain ⟨d, hdm, hx⟩ := xtor_mem hd hn
  refine ⟨fun y hy => ?_, hf.args d hdm _ hx⟩
  unfold prodL at hy
  obtain ⟨a, ha, rfl⟩ := List.mem_map.1 hy
  have := hf.tys d hdm _ hx a (List.mem_filter.1 ha).1
  exact ⟨a.ty.toNat, by omega, by omega⟩
theorem prog_fn {P : Pg} (hP : progB P = true) {f : Fn} (hf : f ∈ P.funs) : f.ps.length <= 6 /\ ∀ y ∈ f.ps.map Prm.ty, ∃ u : Nat, y = u /\ u <= P.decls.length := by
  unfold progB at hP
  simp only [Bool.and_eq_true, List.all_eq_true] at hP
  have h1 := hP.2 f hf
  unfold funB at h1
  simp only [Bool.and_eq_true, decide_eq_true_eq, List.all_eq_true] at h1
  refine ⟨h1.1.1.1, fun y hy => ?_⟩
  obtain ⟨a, ha, rfl⟩ := List.mem_map.1 hy
  have := h1.1.2 a ha
  unfold isTypeB at this
  simp only [Bool.and_eq_true, decide_eq_true_eq] at this
  exact ⟨a.ty.toNat, by omega, by omega⟩
theorem types_range {P : Pg} (hP : progB P = true) {t : Tm} (hf : fitsT P t = true) (h0 : t.op = 4 ∨ t.op = 6 ∨ t.op = 8 ∨ t.op = 9) : (∀ y ∈ typesOf P t, ∃ u : Nat, y = u /\ u <= P.decls.length) /\ (typesOf P t).length <= 6 := by
  have hp : ∀ x : Xtor, (prodL x).length <= x.args.length := fun x => by unfold prodL; rw [List.length_map]; exact List.length_filter_le _ _
  unfold typesOf
  rcases h0 with ho | ho | ho | ho
  . rw [if_neg (by omega), if_neg (by omega)]
    obtain ⟨h1, h2, -⟩ := fit4 hf ho
    obtain ⟨h3, h4⟩ := prod_range hP h1 h2
    exact ⟨h3, Nat.le_trans (hp _) h4⟩
  . rw [if_neg (by omega), if_neg (by omega)]
    obtain ⟨h1, h2, -⟩ := fit6 hf ho
    obtain ⟨h3, h4⟩ := prod_range hP h1 h2
    exact ⟨h3, Nat.le_trans (hp _) h4⟩
  . rw [if_pos ho]
    refine ⟨fun y hy => ?_, by simp⟩
    rw [List.mem_singleton.1 hy]
    simp [fitsT, ho, hasF, isTypeB] at hf
    exact ⟨t.ty.toNat, by omega, by omega⟩
  . rw [if_neg (by omega), if_pos ho]
    obtain ⟨h1, -⟩ := fit9 hf ho
    obtain ⟨h3, h4⟩ := prog_fn hP (fn_in h1)
    exact ⟨h4, by rw [List.length_map]; exact h3⟩
theorem RTx.args {w0 : World} {t : Tm} {va vc : Value} (h : RTx w0 t va vc) : RTs w0 va t.args := by
  obtain ⟨k, h⟩ := h
  cases k with
  | zero => exact h.elim
  | succ k =>
    obtain ⟨-, ⟨A, c, e1, h1, h2, h3⟩, -⟩ := h
    refine ⟨A, c, e1, h1, h2, fun i x hi => ?_⟩
    obtain ⟨b, o, xa, xc, e, h4, h5, h6⟩ := h3 i x hi
    exact ⟨b, o, xa, xc, e, h4, h5, k, h6⟩
theorem RTs.take {w0 : World} {A : Option Addr} {n c : Nat} {l : List Tm} (h : RTs w0 (.slice A n c) l) {m : Nat} (hm : m <= l.length) : RTs w0 (.slice A m c) (l.take m) := by
  obtain ⟨A', c', e, h1, h2, h3⟩ := h
  simp only [Value.slice.injEq] at e
  obtain ⟨rfl, rfl, rfl⟩ := e
  refine ⟨A, c, by rw [List.length_take, Nat.min_eq_left hm], by rw [List.length_take]; omega, h2, fun i x hi => ?_⟩
  refine h3 i x ?_
  rw [List.getElem?_take] at hi
  split at hi
  . exact hi
  . cases hi
theorem RIs.of_own {w : World} {bad : Nat -> Prop} {B : Nat} {v : Value} {l : List Int} (h : OwnL w B v l) (hB : ∀ b, B <= b -> ¬ bad b) : RIs w bad v l := by
  have hc := @World.ownsRow.cells w B 3 1 v l.length (l.map (Value.int .i64)) h
  rcases h.2 with ⟨rfl, h0⟩ | ⟨g, cap, cur, rfl, hg, hh, hn, hm, -⟩
  . have : l = [] := List.eq_nil_of_length_eq_zero h0
    subst this
    exact ⟨none, 0, rfl, Nat.le_refl _, Nat.zero_le _, fun i x hi => by simp at hi⟩
  . refine ⟨_, cap, rfl, hn, hm, fun i x hi => ⟨g, 0, rfl, hB g hg, ?_⟩⟩
    have := hc rfl i (.int .i64 x) (by rw [List.getElem?_map, hi]; rfl)
    have e : (⟨g, 0, none⟩ : Addr).add i = ⟨g, 0 + i, none⟩ := by unfold Addr.add; split <;> simp_all
    rw [e] at this
    exact this
end Go.Proofs.YtkdglplfcpindaaGreatDoor

namespace Go.Proofs.YtkdglplfcpindaaGreatDoor
open Go.RowKit
theorem cells5_10 {w : World} {b T : Nat} {a0 a1 a2 a3 a4 a5 a6 a7 a8 : Value} (h : w.heap[b]? = some (.cells #[a0, a1, a2, a3, a4, a5, a6, a7, a8] T (0, 0))) :
    w.cell? ⟨b, 0, none⟩ = some a0 /\ w.cell? ⟨b, 1, none⟩ = some a1 /\ w.cell? ⟨b, 2, none⟩ = some a2 /\ w.cell? ⟨b, 3, none⟩ = some a3 /\ w.cell? ⟨b, 4, none⟩ = some a4 /\ w.cell? ⟨b, 5, none⟩ = some a5 /\ w.cell? ⟨b, 6, none⟩ = some a6 /\ w.cell? ⟨b, 7, none⟩ = some a7 :=
  ⟨cA h 0, cA h 1, cA h 2, cA h 3, cA h 4, cA h 5, cA h 6, cA h 7⟩
set_option maxHeartbeats 4000000 in
theorem construct_any (P : Pg) (w0 w : World) (bad : Nat -> Prop) (mb : Nat) (vd vf lz ov : Value) (fuel en0 vl st : Int) (t : Tm) (en : En) (k : Kt) (va vc pv pl kv : Value)
    (hC : MC P w0 w bad mb vd vf lz ov fuel en0 vl st) (hE : Ev5 P w0 w bad mb t en k va vc pv pl kv) (hop : t.op = 4) (hfit : fitsT P t = true) :
    Calls Tryz.prog 198 #[.agg (evV t va vc pv pl kv), .pointer (some ⟨mb, 0, none⟩)] w fun e w' => (∃ v, e = .returned v /\ RTk P w0 w' bad mb (resS P t en k (termsOf t) (typesOf P t) []) v) /\ Ext w w' := by
  have HC := LH hC
  have HE := LH hE
  have HOP := LH hop
  have HFIT := LH hfit
  have HARG := LH hE.t.args
  obtain ⟨hty, hn, hal, -⟩ := fit4 hfit hop
  have HTY := LH hty
  have HN := LH hn
  have HTE : Hid (typesOf P t = prodL (xtorAt P t.ty t.n)) := by show _ = _; unfold typesOf; rw [if_neg (by omega), if_neg (by omega)]
  have HTM : Hid (termsOf t = t.args) := by show _ = _; unfold termsOf; rw [if_neg (by omega), if_neg (by omega)]
  have HLN := LH (terms_len hC.prog hfit (.inl hop)).1
  have HRG := LH (types_range hC.prog hfit (.inl hop))
  have HSM : Hid ((xtorAt P t.ty t.n).args.length <= 1000) := by show _ <= _; have := (prod_range hC.prog hty hn).2; omega
  have HL1 : Hid (t.args.length = (prodL (xtorAt P t.ty t.n)).length) := by show _ = _; rw [← HTE.out, ← HTM.out]; exact HLN.out
  have HL2 : Hid ((prodL (xtorAt P t.ty t.n)).length = (typesOf P t).length) := by show _ = _; rw [HTE.out]
  have HL3 : Hid (∀ y ∈ prodL (xtorAt P t.ty t.n), ∃ u : Nat, y = u /\ u <= P.decls.length) := by show ∀ y ∈ prodL (xtorAt P t.ty t.n), _; rw [← HTE.out]; exact HRG.out.1
  have HL4 : Hid ((typesOf P t).length <= 1000) := by show _ <= _; have := HRG.out.2; omega
  obtain ⟨Aa, ca, Ab, cb, p, q, tk, uk, rfl, hla, hma, rfl, -, -, rfl, rfl, rfl⟩ := hE.form
  have HE1 := LH (Ext.al w (.cells (evV t (.slice Aa t.args.length ca) (.slice Ab t.cls.length cb) (.pointer p) (.pointer q) (.iface tk uk)) 161))
  have HBX := LH (hNw w (.cells (evV t (.slice Aa t.args.length ca) (.slice Ab t.cls.length cb) (.pointer p) (.pointer q) (.iface tk uk)) 161))
  obtain ⟨c0, c1, c2, c3, c4, c5, c6, c7, c8⟩ := c59 HBX.out
  clear hC hE hop hfit hty hn hal c8
  go_enter Tryz.func198, Tryz.ntmps198
  go_wp2
  generalize w.alloc _ = w1 at *
  have HC1 := LH ((HC.out.ext' HE1.out).ext' (Ext.rf w1).drew)
  go_region_held3 (fun w' => w'.cell? ⟨w.heap.size, 0, none⟩ = some (.int .i64 t.op) /\ w'.cell? ⟨w.heap.size, 1, none⟩ = some (.int .i64 t.n) /\ w'.cell? ⟨w.heap.size, 2, none⟩ = some (.string t.nm) /\ w'.cell? ⟨w.heap.size, 3, none⟩ = some (.int .i64 t.ty) /\ w'.cell? ⟨w.heap.size, 4, none⟩ = some (.slice Aa t.args.length ca) /\ w'.cell? ⟨w.heap.size, 5, none⟩ = some (.slice Ab t.cls.length cb) /\ w'.cell? ⟨w.heap.size, 6, none⟩ = some (.pointer p) /\ w'.cell? ⟨w.heap.size, 7, none⟩ = some (.pointer q))
    (first | exact cells5_10 HB5.out | exact cells5_10 HB4.out | go_keep)
    ((first
      | (go_at_call 203; (with_reducible refine (argTypes_any P w0 _ mb vd vf lz ov fuel en0 vl st t _ _ false HC1.out.ext HC1.out.ds HC1.out.mb HE.out.t HTY.out HN.out HSM.out).mono ?_); rintro e w4 ⟨⟨vy, rfl, ho⟩, hb⟩; obtain ⟨Ay, cy, rfl⟩ := oSL ho; have HX4 : Hid (Ext w1 w4) := Ext.tr (b := w1.drew) (Ext.rf w1).drew hb; have HB4 := LH ((HX4.out.block _ (hLt HBX.out)).trans HBX.out); have HRI : Hid (RIs w4 bad (.slice Ay (prodL (xtorAt P t.ty t.n)).length cy) (prodL (xtorAt P t.ty t.n))) := RIs.of_own ho (fun b hbb hn => Nat.lt_irrefl _ (Nat.lt_of_lt_of_le (HC1.out.nb b hn) hbb)); have HC4 := LH (HC.out.ext' (HE1.out.tr HX4.out)); have HE4 := LH (HE.out.ext (HE1.out.tr HX4.out)); have HTH : Hid (ThV P w0 w4 bad mb (evV t (.slice Aa t.args.length ca) (.slice Ab t.cls.length cb) (.pointer p) (.pointer q) (.iface tk uk)) t (.func (.func 204) #[] #[.pointer (some ⟨w.heap.size, 0, none⟩)])) := .con w.heap.size HOP.out HC.out.nb.new HB4.out; clear ho hb)
      | (go_at_call 201; (with_reducible refine (mbind_any P w0 _ bad mb vd vf lz ov fuel en0 vl st t en k _ _ _ _ _ t.args (prodL (xtorAt P t.ty t.n)) _ _ _ HC4.out HE4.out HARG.out HRI.out HTH.out (.inl HOP.out) HFIT.out HL1.out HL2.out HL3.out HL4.out).mono ?_); rintro e w5 ⟨⟨v, rfl, hr⟩, hx5⟩; obtain ⟨tv, uv, rfl⟩ := hr.form; have HR := LH hr; have HX5 := LH ((HE1.out.tr HX4.out).tr hx5); have HB5 := LH ((hx5.block _ (hLt HB4.out)).trans HB4.out); clear hr hx5)))
  all_goals
    go_wp2
    go_ret
    exact ⟨⟨_, rfl, by rw [HTM.out, HTE.out]; exact HR.out⟩, HX5.out⟩
end Go.Proofs.YtkdglplfcpindaaGreatDoor

namespace Go.Proofs.YtkdglplfcpindaaGreatDoor
open Go.RowKit
theorem run_init47 (A : Option Addr) (n c : Nat) (h1 : 1 <= n) (h2 : n <= c) (h3 : c <= maxLen) (W : World) : (Instr.slice 47 (.slice A n c) none (some (.int .i64 ((n : Int) - 1))) none).run Tryz.prog W = .ok (.slice A (n - 1) c) W := by
  unfold maxLen at h3
  have hu : (underlying 47).run Tryz.prog W = .ok (.slice 50) W := by kernel_rfl
  have hz : (sizeOf 50).run Tryz.prog W = .ok 6 W := by kernel_rfl
  have e1 : 0 <= (n : Int) - 1 /\ (n : Int) - 1 <= (c : Int) := by omega
  have e2 : ((n : Int) - 1).toNat = n - 1 := by omega
  unfold Instr.slice Instr.sliceBounds Instr.sliceBound
  simp [go_sem, hu, hz, e1, e2]
  intro h; omega
theorem cells5_11 {w : World} {b T b2 : Nat} {a0 a1 a2 a3 a4 a5 a6 a7 a8 v : Value} (h : w.heap[b]? = some (.cells #[a0, a1, a2, a3, a4, a5, a6, a7, a8] T (0, 0))) (h2 : w.cell? ⟨b2, 0, none⟩ = some v) :
    w.cell? ⟨b, 0, none⟩ = some a0 /\ w.cell? ⟨b, 1, none⟩ = some a1 /\ w.cell? ⟨b, 2, none⟩ = some a2 /\ w.cell? ⟨b, 3, none⟩ = some a3 /\ w.cell? ⟨b, 4, none⟩ = some a4 /\ w.cell? ⟨b, 5, none⟩ = some a5 /\ w.cell? ⟨b, 6, none⟩ = some a6 /\ w.cell? ⟨b, 7, none⟩ = some a7 /\ w.cell? ⟨b2, 0, none⟩ = some v :=
  ⟨cA h 0, cA h 1, cA h 2, cA h 3, cA h 4, cA h 5, cA h 6, cA h 7, h2⟩
set_option maxHeartbeats 4000000 in
theorem observe_any (P : Pg) (w0 w : World) (bad : Nat -> Prop) (mb : Nat) (vd vf lz ov : Value) (fuel en0 vl st : Int) (t : Tm) (en : En) (k : Kt) (va vc pv pl kv : Value)
    (hC : MC P w0 w bad mb vd vf lz ov fuel en0 vl st) (hE : Ev5 P w0 w bad mb t en k va vc pv pl kv) (hop : t.op = 6) (hfit : fitsT P t = true) :
    Calls Tryz.prog 199 #[.agg (evV t va vc pv pl kv), .pointer (some ⟨mb, 0, none⟩)] w fun e w' => (∃ v, e = .returned v /\ RTk P w0 w' bad mb (resS P t en k (termsOf t) (typesOf P t) []) v) /\ Ext w w' := by
  have HC := LH hC
  have HE := LH hE
  have HOP := LH hop
  have HFIT := LH hfit
  have HARG := LH hE.t.args
  obtain ⟨hty, hn, hal, -⟩ := fit6 hfit hop
  have HTY := LH hty
  have HN := LH hn
  have HTE : Hid (typesOf P t = prodL (xtorAt P t.ty t.n)) := by show _ = _; unfold typesOf; rw [if_neg (by omega), if_neg (by omega)]
  have HTM : Hid (termsOf t = t.args.take (t.args.length - 1)) := by show _ = _; unfold termsOf; rw [if_pos hop]
  have HLN := LH (terms_len hC.prog hfit (.inr (.inl hop))).1
  have HRG := LH (types_range hC.prog hfit (.inr (.inl hop)))
  have HSM : Hid ((xtorAt P t.ty t.n).args.length <= 1000) := by show _ <= _; have := (prod_range hC.prog hty hn).2; omega
  have HL1 : Hid ((t.args.take (t.args.length - 1)).length = (prodL (xtorAt P t.ty t.n)).length) := by show _ = _; rw [← HTE.out, ← HTM.out]; exact HLN.out
  have hal1 : 1 <= t.args.length := by have := (terms_len hC.prog hfit (.inr (.inl hop))).2 hop; omega
  have HL2 : Hid ((prodL (xtorAt P t.ty t.n)).length = (typesOf P t).length) := by show _ = _; rw [HTE.out]
  have HL3 : Hid (∀ y ∈ prodL (xtorAt P t.ty t.n), ∃ u : Nat, y = u /\ u <= P.decls.length) := by show ∀ y ∈ prodL (xtorAt P t.ty t.n), _; rw [← HTE.out]; exact HRG.out.1
  have HL4 : Hid ((typesOf P t).length <= 1000) := by show _ <= _; have := HRG.out.2; omega
  obtain ⟨Aa, ca, Ab, cb, p, q, tk, uk, rfl, hla, hma, rfl, -, -, rfl, rfl, rfl⟩ := hE.form
  obtain ⟨g1, g2, g3, g4⟩ := bx5_two w (.cells (evV t (.slice Aa t.args.length ca) (.slice Ab t.cls.length cb) (.pointer p) (.pointer q) (.iface tk uk)) 161) (.cells #[.int .i64 ((t.args.length : Int) - 1)] 3)
  have hb0 := hNw w (.cells (evV t (.slice Aa t.args.length ca) (.slice Ab t.cls.length cb) (.pointer p) (.pointer q) (.iface tk uk)) 161)
  have c4' := cA hb0 4
  have HBX := LH g1
  have HBL := LH g2
  have HE1 := LH g4
  obtain ⟨c0, c1, c2, c3, c4, c5, c6, c7, c8⟩ := c59 g1
  have l0 := cA g2 0
  have hsl := run_init47 Aa t.args.length ca hal1 hla hma
  have HARG2 : Hid (RTs w0 (.slice Aa (t.args.length - 1) ca) (t.args.take (t.args.length - 1))) := HARG.out.take (Nat.sub_le _ _)
  have hlen64 : (t.args.length : Int) <= 9223372036854775807 := by unfold maxLen at hma; omega
  clear hC hE hop hfit hty hn hal c8 g1 g2 g3 g4 hb0
  go_enter Tryz.func199, Tryz.ntmps199
  go_wp2
  clear c4'
  generalize World.alloc (World.alloc w _) _ = w1 at *
  have HC1 := LH ((HC.out.ext' HE1.out).ext' (Ext.rf w1).drew)
  go_region_held3 (fun w' => w'.cell? ⟨w.heap.size, 0, none⟩ = some (.int .i64 t.op) /\ w'.cell? ⟨w.heap.size, 1, none⟩ = some (.int .i64 t.n) /\ w'.cell? ⟨w.heap.size, 2, none⟩ = some (.string t.nm) /\ w'.cell? ⟨w.heap.size, 3, none⟩ = some (.int .i64 t.ty) /\ w'.cell? ⟨w.heap.size, 4, none⟩ = some (.slice Aa t.args.length ca) /\ w'.cell? ⟨w.heap.size, 5, none⟩ = some (.slice Ab t.cls.length cb) /\ w'.cell? ⟨w.heap.size, 6, none⟩ = some (.pointer p) /\ w'.cell? ⟨w.heap.size, 7, none⟩ = some (.pointer q) /\ w'.cell? ⟨w.heap.size + 1, 0, none⟩ = some (.int .i64 ((t.args.length : Int) - 1)))
    (first | exact cells5_11 HB5.out (cA HL5.out 0) | exact cells5_11 HB4.out (cA HLB4.out 0) | go_keep)
    ((first
      | (go_at_call 203; (with_reducible refine (argTypes_any P w0 _ mb vd vf lz ov fuel en0 vl st t _ _ true HC1.out.ext HC1.out.ds HC1.out.mb HE.out.t HTY.out HN.out HSM.out).mono ?_); rintro e w4 ⟨⟨vy, rfl, ho⟩, hb⟩; obtain ⟨Ay, cy, rfl⟩ := oSL ho; have HX4 : Hid (Ext w1 w4) := Ext.tr (b := w1.drew) (Ext.rf w1).drew hb; have HB4 := LH ((HX4.out.block _ (hLt HBX.out)).trans HBX.out); have HLB4 := LH ((HX4.out.block _ (hLt HBL.out)).trans HBL.out); have HRI : Hid (RIs w4 bad (.slice Ay (prodL (xtorAt P t.ty t.n)).length cy) (prodL (xtorAt P t.ty t.n))) := RIs.of_own ho (fun b hbb hn => Nat.lt_irrefl _ (Nat.lt_of_lt_of_le (HC1.out.nb b hn) hbb)); have HC4 := LH (HC.out.ext' (HE1.out.tr HX4.out)); have HE4 := LH (HE.out.ext (HE1.out.tr HX4.out)); have HTH : Hid (ThV P w0 w4 bad mb (evV t (.slice Aa t.args.length ca) (.slice Ab t.cls.length cb) (.pointer p) (.pointer q) (.iface tk uk)) t (.func (.func 205) #[] #[.pointer (some ⟨w.heap.size, 0, none⟩), .pointer (some ⟨w.heap.size + 1, 0, none⟩)])) := .obs w.heap.size (w.heap.size + 1) HOP.out HC.out.nb.new HB4.out (fun hn => by have := HC.out.nb _ hn; omega) (by have := HLB4.out; rw [show (t.args.length : Int) - 1 = ((t.args.length - 1 : Nat) : Int) by omega] at this; exact this); clear ho hb)
      | (go_at_call 201; (with_reducible refine (mbind_any P w0 _ bad mb vd vf lz ov fuel en0 vl st t en k _ _ _ _ _ (t.args.take (t.args.length - 1)) (prodL (xtorAt P t.ty t.n)) _ _ _ HC4.out HE4.out HARG2.out HRI.out HTH.out (.inr (.inl HOP.out)) HFIT.out HL1.out HL2.out HL3.out HL4.out).mono ?_); rintro e w5 ⟨⟨v, rfl, hr⟩, hx5⟩; obtain ⟨tv, uv, rfl⟩ := hr.form; have HR := LH hr; have HX5 := LH ((HE1.out.tr HX4.out).tr hx5); have HB5 := LH ((hx5.block _ (hLt HB4.out)).trans HB4.out); have HL5 := LH ((hx5.block _ (hLt HLB4.out)).trans HLB4.out); clear hr hx5)))
  all_goals
    go_wp2
    go_ret
    exact ⟨⟨_, rfl, by rw [HTM.out, HTE.out]; exact HR.out⟩, HX5.out⟩
end Go.Proofs.YtkdglplfcpindaaGreatDoor
