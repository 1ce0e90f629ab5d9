/- fits.go: clauses. -/
import Derived.Test.YtkdglplfcpindaaGreatDoorQ2
namespace Go.Proofs.YtkdglplfcpindaaGreatDoor
open Go.RowKit

theorem fitsC_in {P : Pg} {t : Tm} {na : Int} (h : t.ty.toNat - 1 < P.decls.length) : fitsCB P t na = (hasF t false false true na (P.decls[t.ty.toNat - 1]).xtors.length && clsB (P.decls[t.ty.toNat - 1]).xtors t.cls) := by
  unfold fitsCB; rw [declAt_at h]
theorem hasF_cls {t : Tm} {a b c : Bool} {na nc : Int} (h : hasF t a b c na nc = true) : (t.cls.length : Int) = nc := by
  unfold hasF at h
  simp at h
  exact h.2
theorem clsB_cons (xs : List Xtor) (c : List Str × Tm) (r : List (List Str × Tm)) : clsB xs (c :: r) = (decide ((c.1.length : Int) = prodI (xs.headD noXtor)) && clsB xs.tail r) := rfl
theorem clsB_drop {xs : List Xtor} {cs : List (List Str × Tm)} {j : Nat} (h1 : j < xs.length) (h2 : j < cs.length) :
    clsB (xs.drop j) (cs.drop j) = (decide ((cs[j].1.length : Int) = prodI xs[j]) && clsB (xs.drop (j + 1)) (cs.drop (j + 1))) := by
  rw [drop_step h1, drop_step h2, clsB_cons]; rfl
theorem newCell (w : World) (l : Array Value) (T : TypeId) (i : Nat) {v : Value} (h : l[i]? = some v) : (w.alloc (.cells l T)).cell? ⟨w.heap.size, i, none⟩ = some v := by
  rw [World.cell?_alloc_at _ _ _ _ rfl]; exact h

set_option maxHeartbeats 2000000 in
set_option maxRecDepth 100000 in
theorem fitsClauses_any (vd vf : Value) (P : Pg) (k : Nat) (t : Tm) (va vc : Value) (na : Int) (w : World) (h : RDecls w vd P.decls) (ht : RT w k t va vc) (hty : 1 ≤ t.ty ∧ t.ty ≤ P.decls.length) :
    Calls Tryz.prog 152 #[pV vd vf, tV t va vc, .int .i64 na] w fun e w' => e = .returned (.bool (fitsCB P t na)) ∧ Ext w w' := by
  have HR := Lib.hid h
  obtain ⟨A, c, rfl, hc, hm⟩ := h.form
  clear h
  unfold maxLen at hm
  obtain ⟨hty1, hty2⟩ := hty
  have hul : t.ty.toNat - 1 < P.decls.length := by omega
  have HI := Lib.hid (fitsC_in (na := na) hul)
  have HT := Lib.hid ht
  obtain ⟨_, ⟨Aa, ca, rfl, hca, hma⟩, ⟨Bb, cb, rfl, hcb, hmb⟩⟩ := ht.form
  clear ht
  obtain ⟨b, o, vx, rfl, hbl, h0, h1, h2, h3, h4⟩ := HR.out.at_ hul
  have HE : Hid (Ext w ((w.alloc (.cells #[.slice (some ⟨b, o, none⟩) P.decls.length c, vf] 25)).alloc (.cells #[.int .i64 t.op, .int .i64 t.n, .string t.nm, .int .i64 t.ty, .slice Aa t.args.length ca, .slice Bb t.cls.length cb] 50))) := (Ext.al _ _).tr (Ext.al _ _)
  clear h0 h1 h4
  obtain ⟨Ax, cx, rfl, hcx, hmx⟩ := h3.form
  have HX := Lib.hid (h3.below HE.out)
  have HT2 := Lib.hid (HT.out.below HE.out)
  clear h3 HT
  unfold maxLen at *
  generalize P.decls[t.ty.toNat - 1] = d at *
  obtain ⟨dn, co, xs⟩ := d
  dsimp only at *
  go_enter Tryz.func152, Tryz.ntmps152
  go_wp2_with fail
  have x1 := box6 w (.cells #[.slice (some ⟨b, o, none⟩) P.decls.length c, vf] 25) t.op t.n t.ty t.nm (.slice Aa t.args.length ca) (.slice Bb t.cls.length cb)
  generalize (w.alloc _).alloc _ = w1 at *
  have X5 := Lib.hid x1.2.2.2.2.2
  clear x1
  (with_reducible refine (has_any k t _ _ false false true na xs.length _ HT2.out).mono ?_)
  rintro e w2 ⟨rfl, hb2⟩
  have HE2 := Lib.hid (HE.out.tr hb2)
  have x5 := hb2.keep X5.out
  have HX2 := Lib.hid (HX.out.below hb2)
  have HT3 := Lib.hid (HT2.out.below hb2)
  clear hb2 X5 HX HT2 HE
  cases hq : hasF t false false true na xs.length
  · rw [hq] at HI
    clear hq
    go_wp2
    go_ret
    exact ⟨ret_bool (by rw [HI.out]; rfl), HE2.out⟩
  · have hcl := hasF_cls hq
    rw [hq, Bool.true_and] at HI
    have hcl' : t.cls.length = xs.length := by omega
    have HCL := Lib.hid hcl'
    have hcl1 : t.cls.length ≤ xs.length := by omega
    clear hq hcl hcl'
    go_wp2
    go_loopw [28] (fun i wr => ∃ j : Nat, j ≤ t.cls.length ∧ i = .int .i64 j ∧ Ext w2 wr ∧ clsB xs t.cls = clsB (xs.drop j) (t.cls.drop j)) (fun i _ => t.cls.length - (intOf i).toNat)
    case atStart => exact ⟨0, Nat.zero_le _, rfl, Ext.rf _, by simp⟩
    case round =>
      obtain ⟨j, hj, rfl, hb3, hno⟩ := hrel
      have HB3 := Lib.hid hb3; have HN := Lib.hid hno; clear hb3 hno
      by_cases hlt : j < t.cls.length
      · have hjx : j < xs.length := by omega
        obtain ⟨bx, ox, vy, hax, hbx, y0, y1, y2, y3⟩ := HX2.out.at_ hjx
        have HD := Lib.hid (clsB_drop hjx hlt)
        cases k with
        | zero => exact HT3.out.elim
        | succ k =>
          obtain ⟨bc, oc, vn, xa, xc, hac, hbc, z0, zs, zc, zt⟩ := HT3.out.clause hlt
          obtain ⟨An, cn, rfl, hcn, hmn⟩ := zs.form
          obtain ⟨Ay, cy, rfl, hcy, hmy⟩ := y2.form
          obtain ⟨_, ⟨Ac, cca, rfl, -, -⟩, ⟨Bc, ccb, rfl, -, -⟩⟩ := zt.form
          obtain rfl := hax
          obtain rfl := hac
          have HY := Lib.hid y2; clear y2 zs zt
          have z0 := HB3.out.keep z0
          have c0 := HB3.out.keep zc.c0
          have c1 := HB3.out.keep zc.c1
          have c2 := HB3.out.keep zc.c2
          have c3 := HB3.out.keep zc.c3
          have c4 := HB3.out.keep zc.c4
          have c5 := HB3.out.keep zc.c5
          clear zc
          have y0 := HB3.out.keep y0
          have y1 := HB3.out.keep y1
          have HY := Lib.hid (HY.out.below HB3.out)
          unfold maxLen at *
          generalize t.cls[j] = cl at *
          obtain ⟨ns, ct⟩ := cl
          generalize xs[j] = x at *
          dsimp only at *
          go_wp2
          have hE4 := Ext.al wr (Obj.cells #[Value.slice An ns.length cn, Value.int .i64 ct.op, Value.int .i64 ct.n, Value.string ct.nm, Value.int .i64 ct.ty, .slice Ac ct.args.length cca, .slice Bc ct.cls.length ccb] 123)
          have n0 := newCell wr #[Value.slice An ns.length cn, Value.int .i64 ct.op, Value.int .i64 ct.n, Value.string ct.nm, Value.int .i64 ct.ty, .slice Ac ct.args.length cca, .slice Bc ct.cls.length ccb] 123 0 rfl
          generalize wr.alloc _ = w4 at *
          have HE4 := Lib.hid hE4
          have HY4 := Lib.hid (HY.out.below hE4)
          have y0 := ExtOf.cell (hE4.keep y0)
          have y1 := ExtOf.cell (hE4.keep y1)
          have n0 := ExtOf.cell n0
          clear hE4 c0 c1 c2 c3 c4 c5
          refine wp_region_ext (w0 := w4) (by kernel_rfl) (by kernel_rfl) (Ext.rf _) ?_
          repeat (first | go_big_quiet_step ((go_at_call 167; with_reducible exact Calls.ext_of (producers_any _ x _ (HY4.out.below (ExtOf.ext _))))) | quiet_step ((go_at_call 167; with_reducible exact Calls.ext_of (producers_any _ x _ (HY4.out.below (ExtOf.ext _))))))
          refine wpQuiet_nil ?_
          rintro _ ⟨⟨w5, hx⟩, rfl⟩
          have HX5 := Lib.hid (HB3.out.tr (HE4.out.tr hx))
          clear hx
          go_wp2
          · have q : ((ns.length : Int) != prodI x) = true := by assumption
            go_ret
            exact ⟨ret_bool (by rw [HI.out, HN.out, HD.out]; simp at q; simp [q]), HE2.out.tr HX5.out⟩
          · have q : ((ns.length : Int) != prodI x) = false := by assumption
            go_roundw
            case rel => exact ⟨j + 1, by omega, by go_num, HX5.out, by rw [HN.out, HD.out]; simp at q; simp [q]⟩
            case measure => simp [intOf]; omega
      · go_wp2
        go_ret
        refine ⟨ret_bool ?_, HE2.out.tr HB3.out⟩
        rw [HI.out, HN.out, drop_end hlt]
        rw [drop_end (by rw [← HCL.out]; exact hlt)]; rfl
end Go.Proofs.YtkdglplfcpindaaGreatDoor

/- fits.go: the whole node. -/
namespace Go.Proofs.YtkdglplfcpindaaGreatDoor
open Go.RowKit

theorem box6' (w : World) (o1 : Obj) (op n ty : Int) (nm : Str) (va vc : Value) (i : Nat) {v : Value} (h : (#[.int .i64 op, .int .i64 n, .string nm, .int .i64 ty, va, vc] : Array Value)[i]? = some v) :
    ((w.alloc o1).alloc (.cells #[.int .i64 op, .int .i64 n, .string nm, .int .i64 ty, va, vc] 50)).cell? ⟨w.heap.size + 1, i, none⟩ = some v := by
  rw [World.cell?_alloc_at _ _ _ _ (by simp)]; exact h
theorem box2' (w : World) (vd vf : Value) (o2 : Obj) (i : Nat) {v : Value} (h : (#[vd, vf] : Array Value)[i]? = some v) :
    ((w.alloc (.cells #[vd, vf] 25)).alloc o2).cell? ⟨w.heap.size, i, none⟩ = some v :=
  (Ext.al _ o2).keep (newCell w #[vd, vf] 25 i h)
theorem has_op {o : Int} (k : Nat) (t : Tm) (va vc : Value) (hop : t.op = o) (a b c : Bool) (n m : Int) (w : World) (h : RT w k t va vc) :
    Calls Tryz.prog 149 #[.agg #[.int .i64 o, .int .i64 t.n, .string t.nm, .int .i64 t.ty, va, vc], fldV a b c n m] w fun e w' => e = .returned (.bool (hasF t a b c n m)) ∧ Ext w w' := by
  subst hop; exact has_any k t va vc a b c n m w h
theorem fitsXtor_op {o : Int} (vd vf : Value) (P : Pg) (k : Nat) (t : Tm) (va vc : Value) (hop : t.op = o) (w : World) (h : RDecls w vd P.decls) (ht : RT w k t va vc) (hty : 1 ≤ t.ty ∧ t.ty ≤ P.decls.length) :
    Calls Tryz.prog 151 #[pV vd vf, .agg #[.int .i64 o, .int .i64 t.n, .string t.nm, .int .i64 t.ty, va, vc]] w fun e w' => e = .returned (.bool (fitsXB P t)) ∧ Ext w w' := by
  subst hop; exact fitsXtor_any vd vf P k t va vc w h ht hty
theorem fitsClauses_op {o : Int} (vd vf : Value) (P : Pg) (k : Nat) (t : Tm) (va vc : Value) (hop : t.op = o) (na : Int) (w : World) (h : RDecls w vd P.decls) (ht : RT w k t va vc) (hty : 1 ≤ t.ty ∧ t.ty ≤ P.decls.length) :
    Calls Tryz.prog 152 #[pV vd vf, .agg #[.int .i64 o, .int .i64 t.n, .string t.nm, .int .i64 t.ty, va, vc], .int .i64 na] w fun e w' => e = .returned (.bool (fitsCB P t na)) ∧ Ext w w' := by
  subst hop; exact fitsClauses_any vd vf P k t va vc na w h ht hty
theorem isDecl_ok {P : Pg} {ty : Int} {co : Bool} (h : isDeclB P ty co = true) : 1 ≤ ty ∧ ty ≤ P.decls.length := by
  unfold isDeclB at h
  simp at h
  exact ⟨h.1.1, h.1.2⟩

set_option maxHeartbeats 4000000 in
set_option maxRecDepth 100000 in
theorem fits_0 (vd vf : Value) (P : Pg) (k : Nat) (t : Tm) (va vc : Value) (w : World) (hd : RDecls w vd P.decls) (ht : RT w k t va vc) (hop : t.op = 0) :
    Calls Tryz.prog 131 #[pV vd vf, tV t va vc] w fun e w' => e = .returned (.bool (hasF t false true false 0 0)) ∧ Ext w w' := by
  have HT := Lib.hid ht
  have HD := Lib.hid hd
  obtain ⟨_, ⟨Aa, ca, rfl, hca, hma⟩, ⟨Bb, cb, rfl, hcb, hmb⟩⟩ := ht.form
  clear ht hd
  have HE : Hid (Ext w ((w.alloc (.cells #[vd, vf] 25)).alloc (.cells #[.int .i64 t.op, .int .i64 t.n, .string t.nm, .int .i64 t.ty, .slice Aa t.args.length ca, .slice Bb t.cls.length cb] 50))) := (Ext.al _ _).tr (Ext.al _ _)
  have HT2 := Lib.hid (HT.out.below HE.out)
  have HD2 := Lib.hid (HD.out.below HE.out)
  have HOP := Lib.hid hop
  rw [hop] at HE HT2 HD2
  go_enter Tryz.func131, Tryz.ntmps131
  go_wp2_with fail
  (with_reducible refine (has_op k t _ _ HOP.out false true false 0 0 _ HT2.out).mono ?_)
  rintro e w2 ⟨rfl, hb2⟩
  have HE2 := Lib.hid (HE.out.tr hb2)
  clear hb2
  go_wp2
  go_ret
  exact ⟨rfl, HE2.out⟩

set_option maxHeartbeats 4000000 in
set_option maxRecDepth 100000 in
theorem fits_1 (vd vf : Value) (P : Pg) (k : Nat) (t : Tm) (va vc : Value) (w : World) (hd : RDecls w vd P.decls) (ht : RT w k t va vc) (hop : t.op = 1) :
    Calls Tryz.prog 131 #[pV vd vf, tV t va vc] w fun e w' => e = .returned (.bool (hasF t true false false 0 0)) ∧ Ext w w' := by
  have HT := Lib.hid ht
  have HD := Lib.hid hd
  obtain ⟨_, ⟨Aa, ca, rfl, hca, hma⟩, ⟨Bb, cb, rfl, hcb, hmb⟩⟩ := ht.form
  clear ht hd
  have HE : Hid (Ext w ((w.alloc (.cells #[vd, vf] 25)).alloc (.cells #[.int .i64 t.op, .int .i64 t.n, .string t.nm, .int .i64 t.ty, .slice Aa t.args.length ca, .slice Bb t.cls.length cb] 50))) := (Ext.al _ _).tr (Ext.al _ _)
  have HT2 := Lib.hid (HT.out.below HE.out)
  have HD2 := Lib.hid (HD.out.below HE.out)
  have HOP := Lib.hid hop
  rw [hop] at HE HT2 HD2
  go_enter Tryz.func131, Tryz.ntmps131
  go_wp2_with fail
  (with_reducible refine (has_op k t _ _ HOP.out true false false 0 0 _ HT2.out).mono ?_)
  rintro e w2 ⟨rfl, hb2⟩
  have HE2 := Lib.hid (HE.out.tr hb2)
  clear hb2
  go_wp2
  go_ret
  exact ⟨rfl, HE2.out⟩

set_option maxHeartbeats 4000000 in
set_option maxRecDepth 100000 in
theorem fits_3 (vd vf : Value) (P : Pg) (k : Nat) (t : Tm) (va vc : Value) (w : World) (hd : RDecls w vd P.decls) (ht : RT w k t va vc) (hop : t.op = 3) :
    Calls Tryz.prog 131 #[pV vd vf, tV t va vc] w fun e w' => e = .returned (.bool (hasF t false false false 3 0)) ∧ Ext w w' := by
  have HT := Lib.hid ht
  have HD := Lib.hid hd
  obtain ⟨_, ⟨Aa, ca, rfl, hca, hma⟩, ⟨Bb, cb, rfl, hcb, hmb⟩⟩ := ht.form
  clear ht hd
  have HE : Hid (Ext w ((w.alloc (.cells #[vd, vf] 25)).alloc (.cells #[.int .i64 t.op, .int .i64 t.n, .string t.nm, .int .i64 t.ty, .slice Aa t.args.length ca, .slice Bb t.cls.length cb] 50))) := (Ext.al _ _).tr (Ext.al _ _)
  have HT2 := Lib.hid (HT.out.below HE.out)
  have HD2 := Lib.hid (HD.out.below HE.out)
  have HOP := Lib.hid hop
  rw [hop] at HE HT2 HD2
  go_enter Tryz.func131, Tryz.ntmps131
  go_wp2_with fail
  (with_reducible refine (has_op k t _ _ HOP.out false false false 3 0 _ HT2.out).mono ?_)
  rintro e w2 ⟨rfl, hb2⟩
  have HE2 := Lib.hid (HE.out.tr hb2)
  clear hb2
  go_wp2
  go_ret
  exact ⟨rfl, HE2.out⟩

set_option maxHeartbeats 4000000 in
set_option maxRecDepth 100000 in
theorem fits_10 (vd vf : Value) (P : Pg) (k : Nat) (t : Tm) (va vc : Value) (w : World) (hd : RDecls w vd P.decls) (ht : RT w k t va vc) (hop : t.op = 10) :
    Calls Tryz.prog 131 #[pV vd vf, tV t va vc] w fun e w' => e = .returned (.bool (hasF t false false false 2 0)) ∧ Ext w w' := by
  have HT := Lib.hid ht
  have HD := Lib.hid hd
  obtain ⟨_, ⟨Aa, ca, rfl, hca, hma⟩, ⟨Bb, cb, rfl, hcb, hmb⟩⟩ := ht.form
  clear ht hd
  have HE : Hid (Ext w ((w.alloc (.cells #[vd, vf] 25)).alloc (.cells #[.int .i64 t.op, .int .i64 t.n, .string t.nm, .int .i64 t.ty, .slice Aa t.args.length ca, .slice Bb t.cls.length cb] 50))) := (Ext.al _ _).tr (Ext.al _ _)
  have HT2 := Lib.hid (HT.out.below HE.out)
  have HD2 := Lib.hid (HD.out.below HE.out)
  have HOP := Lib.hid hop
  rw [hop] at HE HT2 HD2
  go_enter Tryz.func131, Tryz.ntmps131
  go_wp2_with fail
  (with_reducible refine (has_op k t _ _ HOP.out false false false 2 0 _ HT2.out).mono ?_)
  rintro e w2 ⟨rfl, hb2⟩
  have HE2 := Lib.hid (HE.out.tr hb2)
  clear hb2
  go_wp2
  go_ret
  exact ⟨rfl, HE2.out⟩

set_option maxHeartbeats 4000000 in
set_option maxRecDepth 100000 in
theorem fits_2 (vd vf : Value) (P : Pg) (k : Nat) (t : Tm) (va vc : Value) (w : World) (hd : RDecls w vd P.decls) (ht : RT w k t va vc) (hop : t.op = 2) :
    Calls Tryz.prog 131 #[pV vd vf, tV t va vc] w fun e w' => e = .returned (.bool (hasF t true false false 2 0 && decide (0 ≤ t.n) && decide (t.n ≤ 6))) ∧ Ext w w' := by
  have HT := Lib.hid ht
  have HD := Lib.hid hd
  obtain ⟨_, ⟨Aa, ca, rfl, hca, hma⟩, ⟨Bb, cb, rfl, hcb, hmb⟩⟩ := ht.form
  clear ht hd
  have HE : Hid (Ext w ((w.alloc (.cells #[vd, vf] 25)).alloc (.cells #[.int .i64 t.op, .int .i64 t.n, .string t.nm, .int .i64 t.ty, .slice Aa t.args.length ca, .slice Bb t.cls.length cb] 50))) := (Ext.al _ _).tr (Ext.al _ _)
  have HT2 := Lib.hid (HT.out.below HE.out)
  have HD2 := Lib.hid (HD.out.below HE.out)
  have HOP := Lib.hid hop
  rw [hop] at HE HT2 HD2
  have n1 := box6' w (.cells #[vd, vf] 25) 2 t.n t.ty t.nm (.slice Aa t.args.length ca) (.slice Bb t.cls.length cb) 1 rfl
  go_enter Tryz.func131, Tryz.ntmps131
  go_wp2_with fail
  generalize (w.alloc _).alloc _ = w1 at *
  (with_reducible refine (has_op k t _ _ HOP.out true false false 2 0 _ HT2.out).mono ?_)
  rintro e w2 ⟨rfl, hb2⟩
  have n1 := hb2.keep n1
  have HE2 := Lib.hid (HE.out.tr hb2)
  clear hb2 hop
  cases hq : hasF t true false false 2 0
  · have HQ := Lib.hid hq
    clear hq
    go_wp2
    go_ret
    exact ⟨ret_bool (by first | rfl | rw [HQ.out]; rfl), HE2.out⟩
  · have HQ := Lib.hid hq
    clear hq
    cases q0 : decide (0 ≤ t.n)
    all_goals
      go_wp2
      go_ret
      exact ⟨ret_bool (by first | rfl | (rw [HQ.out]; simp [q0]) | (rw [HQ.out, q0]; simp)), HE2.out⟩

set_option maxHeartbeats 4000000 in
set_option maxRecDepth 100000 in
theorem fits_4 (vd vf : Value) (P : Pg) (k : Nat) (t : Tm) (va vc : Value) (w : World) (hd : RDecls w vd P.decls) (ht : RT w k t va vc) (hop : t.op = 4) :
    Calls Tryz.prog 131 #[pV vd vf, tV t va vc] w fun e w' => e = .returned (.bool (isDeclB P t.ty false && fitsXB P t)) ∧ Ext w w' := by
  have HT := Lib.hid ht
  have HD := Lib.hid hd
  obtain ⟨_, ⟨Aa, ca, rfl, hca, hma⟩, ⟨Bb, cb, rfl, hcb, hmb⟩⟩ := ht.form
  clear ht hd
  have HE : Hid (Ext w ((w.alloc (.cells #[vd, vf] 25)).alloc (.cells #[.int .i64 t.op, .int .i64 t.n, .string t.nm, .int .i64 t.ty, .slice Aa t.args.length ca, .slice Bb t.cls.length cb] 50))) := (Ext.al _ _).tr (Ext.al _ _)
  have HT2 := Lib.hid (HT.out.below HE.out)
  have HD2 := Lib.hid (HD.out.below HE.out)
  have HOP := Lib.hid hop
  rw [hop] at HE HT2 HD2
  have n0 := box6' w (.cells #[vd, vf] 25) 4 t.n t.ty t.nm (.slice Aa t.args.length ca) (.slice Bb t.cls.length cb) 0 rfl
  have n1 := box6' w (.cells #[vd, vf] 25) 4 t.n t.ty t.nm (.slice Aa t.args.length ca) (.slice Bb t.cls.length cb) 1 rfl
  have n2 := box6' w (.cells #[vd, vf] 25) 4 t.n t.ty t.nm (.slice Aa t.args.length ca) (.slice Bb t.cls.length cb) 2 rfl
  have n3 := box6' w (.cells #[vd, vf] 25) 4 t.n t.ty t.nm (.slice Aa t.args.length ca) (.slice Bb t.cls.length cb) 3 rfl
  have n4 := box6' w (.cells #[vd, vf] 25) 4 t.n t.ty t.nm (.slice Aa t.args.length ca) (.slice Bb t.cls.length cb) 4 rfl
  have n5 := box6' w (.cells #[vd, vf] 25) 4 t.n t.ty t.nm (.slice Aa t.args.length ca) (.slice Bb t.cls.length cb) 5 rfl
  have p0 := box2' w vd vf (.cells #[.int .i64 4, .int .i64 t.n, .string t.nm, .int .i64 t.ty, .slice Aa t.args.length ca, .slice Bb t.cls.length cb] 50) 0 rfl
  have p1 := box2' w vd vf (.cells #[.int .i64 4, .int .i64 t.n, .string t.nm, .int .i64 t.ty, .slice Aa t.args.length ca, .slice Bb t.cls.length cb] 50) 1 rfl
  go_enter Tryz.func131, Tryz.ntmps131
  go_wp2_with fail
  generalize (w.alloc _).alloc _ = w1 at *
  (with_reducible refine (isDeclared_any vd vf P t.ty false _ HD2.out).mono ?_)
  rintro e w2 ⟨rfl, hb2⟩
  have n0 := hb2.keep n0
  have n1 := hb2.keep n1
  have n2 := hb2.keep n2
  have n3 := hb2.keep n3
  have n4 := hb2.keep n4
  have n5 := hb2.keep n5
  have p0 := hb2.keep p0
  have p1 := hb2.keep p1
  have HE2 := Lib.hid (HE.out.tr hb2)
  have HT3 := Lib.hid (HT2.out.below hb2)
  have HD3 := Lib.hid (HD2.out.below hb2)
  clear hb2 hop
  cases hq : isDeclB P t.ty false
  · have HQ0 := Lib.hid hq
    clear hq
    go_wp2
    go_ret
    exact ⟨ret_bool (by first | rfl | (rw [HQ0.out]; rfl)), HE2.out⟩
  · have HQ := Lib.hid (isDecl_ok hq)
    have HQ0 := Lib.hid hq
    clear hq
    go_wp2_with fail
    (with_reducible refine (fitsXtor_op vd vf P k t _ _ HOP.out _ HD3.out HT3.out HQ.out).mono ?_)
    rintro e w3 ⟨rfl, hb3⟩
    have HE3 := Lib.hid (HE2.out.tr hb3)
    clear hb3
    go_wp2
    go_ret
    exact ⟨ret_bool (by first | rfl | (rw [HQ0.out]; rfl)), HE3.out⟩

set_option maxHeartbeats 4000000 in
set_option maxRecDepth 100000 in
theorem fits_6 (vd vf : Value) (P : Pg) (k : Nat) (t : Tm) (va vc : Value) (w : World) (hd : RDecls w vd P.decls) (ht : RT w k t va vc) (hop : t.op = 6) :
    Calls Tryz.prog 131 #[pV vd vf, tV t va vc] w fun e w' => e = .returned (.bool (isDeclB P t.ty true && fitsXB P t)) ∧ Ext w w' := by
  have HT := Lib.hid ht
  have HD := Lib.hid hd
  obtain ⟨_, ⟨Aa, ca, rfl, hca, hma⟩, ⟨Bb, cb, rfl, hcb, hmb⟩⟩ := ht.form
  clear ht hd
  have HE : Hid (Ext w ((w.alloc (.cells #[vd, vf] 25)).alloc (.cells #[.int .i64 t.op, .int .i64 t.n, .string t.nm, .int .i64 t.ty, .slice Aa t.args.length ca, .slice Bb t.cls.length cb] 50))) := (Ext.al _ _).tr (Ext.al _ _)
  have HT2 := Lib.hid (HT.out.below HE.out)
  have HD2 := Lib.hid (HD.out.below HE.out)
  have HOP := Lib.hid hop
  rw [hop] at HE HT2 HD2
  have n0 := box6' w (.cells #[vd, vf] 25) 6 t.n t.ty t.nm (.slice Aa t.args.length ca) (.slice Bb t.cls.length cb) 0 rfl
  have n1 := box6' w (.cells #[vd, vf] 25) 6 t.n t.ty t.nm (.slice Aa t.args.length ca) (.slice Bb t.cls.length cb) 1 rfl
  have n2 := box6' w (.cells #[vd, vf] 25) 6 t.n t.ty t.nm (.slice Aa t.args.length ca) (.slice Bb t.cls.length cb) 2 rfl
  have n3 := box6' w (.cells #[vd, vf] 25) 6 t.n t.ty t.nm (.slice Aa t.args.length ca) (.slice Bb t.cls.length cb) 3 rfl
  have n4 := box6' w (.cells #[vd, vf] 25) 6 t.n t.ty t.nm (.slice Aa t.args.length ca) (.slice Bb t.cls.length cb) 4 rfl
  have n5 := box6' w (.cells #[vd, vf] 25) 6 t.n t.ty t.nm (.slice Aa t.args.length ca) (.slice Bb t.cls.length cb) 5 rfl
  have p0 := box2' w vd vf (.cells #[.int .i64 6, .int .i64 t.n, .string t.nm, .int .i64 t.ty, .slice Aa t.args.length ca, .slice Bb t.cls.length cb] 50) 0 rfl
  have p1 := box2' w vd vf (.cells #[.int .i64 6, .int .i64 t.n, .string t.nm, .int .i64 t.ty, .slice Aa t.args.length ca, .slice Bb t.cls.length cb] 50) 1 rfl
  go_enter Tryz.func131, Tryz.ntmps131
  go_wp2_with fail
  generalize (w.alloc _).alloc _ = w1 at *
  (with_reducible refine (isDeclared_any vd vf P t.ty true _ HD2.out).mono ?_)
  rintro e w2 ⟨rfl, hb2⟩
  have n0 := hb2.keep n0
  have n1 := hb2.keep n1
  have n2 := hb2.keep n2
  have n3 := hb2.keep n3
  have n4 := hb2.keep n4
  have n5 := hb2.keep n5
  have p0 := hb2.keep p0
  have p1 := hb2.keep p1
  have HE2 := Lib.hid (HE.out.tr hb2)
  have HT3 := Lib.hid (HT2.out.below hb2)
  have HD3 := Lib.hid (HD2.out.below hb2)
  clear hb2 hop
  cases hq : isDeclB P t.ty true
  · have HQ0 := Lib.hid hq
    clear hq
    go_wp2
    go_ret
    exact ⟨ret_bool (by first | rfl | (rw [HQ0.out]; rfl)), HE2.out⟩
  · have HQ := Lib.hid (isDecl_ok hq)
    have HQ0 := Lib.hid hq
    clear hq
    go_wp2_with fail
    (with_reducible refine (fitsXtor_op vd vf P k t _ _ HOP.out _ HD3.out HT3.out HQ.out).mono ?_)
    rintro e w3 ⟨rfl, hb3⟩
    have HE3 := Lib.hid (HE2.out.tr hb3)
    clear hb3
    go_wp2
    go_ret
    exact ⟨ret_bool (by first | rfl | (rw [HQ0.out]; rfl)), HE3.out⟩

set_option maxHeartbeats 4000000 in
set_option maxRecDepth 100000 in
theorem fits_5 (vd vf : Value) (P : Pg) (k : Nat) (t : Tm) (va vc : Value) (w : World) (hd : RDecls w vd P.decls) (ht : RT w k t va vc) (hop : t.op = 5) :
    Calls Tryz.prog 131 #[pV vd vf, tV t va vc] w fun e w' => e = .returned (.bool (isDeclB P t.ty false && fitsCB P t 1)) ∧ Ext w w' := by
  have HT := Lib.hid ht
  have HD := Lib.hid hd
  obtain ⟨_, ⟨Aa, ca, rfl, hca, hma⟩, ⟨Bb, cb, rfl, hcb, hmb⟩⟩ := ht.form
  clear ht hd
  have HE : Hid (Ext w ((w.alloc (.cells #[vd, vf] 25)).alloc (.cells #[.int .i64 t.op, .int .i64 t.n, .string t.nm, .int .i64 t.ty, .slice Aa t.args.length ca, .slice Bb t.cls.length cb] 50))) := (Ext.al _ _).tr (Ext.al _ _)
  have HT2 := Lib.hid (HT.out.below HE.out)
  have HD2 := Lib.hid (HD.out.below HE.out)
  have HOP := Lib.hid hop
  rw [hop] at HE HT2 HD2
  have n0 := box6' w (.cells #[vd, vf] 25) 5 t.n t.ty t.nm (.slice Aa t.args.length ca) (.slice Bb t.cls.length cb) 0 rfl
  have n1 := box6' w (.cells #[vd, vf] 25) 5 t.n t.ty t.nm (.slice Aa t.args.length ca) (.slice Bb t.cls.length cb) 1 rfl
  have n2 := box6' w (.cells #[vd, vf] 25) 5 t.n t.ty t.nm (.slice Aa t.args.length ca) (.slice Bb t.cls.length cb) 2 rfl
  have n3 := box6' w (.cells #[vd, vf] 25) 5 t.n t.ty t.nm (.slice Aa t.args.length ca) (.slice Bb t.cls.length cb) 3 rfl
  have n4 := box6' w (.cells #[vd, vf] 25) 5 t.n t.ty t.nm (.slice Aa t.args.length ca) (.slice Bb t.cls.length cb) 4 rfl
  have n5 := box6' w (.cells #[vd, vf] 25) 5 t.n t.ty t.nm (.slice Aa t.args.length ca) (.slice Bb t.cls.length cb) 5 rfl
  have p0 := box2' w vd vf (.cells #[.int .i64 5, .int .i64 t.n, .string t.nm, .int .i64 t.ty, .slice Aa t.args.length ca, .slice Bb t.cls.length cb] 50) 0 rfl
  have p1 := box2' w vd vf (.cells #[.int .i64 5, .int .i64 t.n, .string t.nm, .int .i64 t.ty, .slice Aa t.args.length ca, .slice Bb t.cls.length cb] 50) 1 rfl
  go_enter Tryz.func131, Tryz.ntmps131
  go_wp2_with fail
  generalize (w.alloc _).alloc _ = w1 at *
  (with_reducible refine (isDeclared_any vd vf P t.ty false _ HD2.out).mono ?_)
  rintro e w2 ⟨rfl, hb2⟩
  have n0 := hb2.keep n0
  have n1 := hb2.keep n1
  have n2 := hb2.keep n2
  have n3 := hb2.keep n3
  have n4 := hb2.keep n4
  have n5 := hb2.keep n5
  have p0 := hb2.keep p0
  have p1 := hb2.keep p1
  have HE2 := Lib.hid (HE.out.tr hb2)
  have HT3 := Lib.hid (HT2.out.below hb2)
  have HD3 := Lib.hid (HD2.out.below hb2)
  clear hb2 hop
  cases hq : isDeclB P t.ty false
  · have HQ0 := Lib.hid hq
    clear hq
    go_wp2
    go_ret
    exact ⟨ret_bool (by first | rfl | (rw [HQ0.out]; rfl)), HE2.out⟩
  · have HQ := Lib.hid (isDecl_ok hq)
    have HQ0 := Lib.hid hq
    clear hq
    go_wp2_with fail
    (with_reducible refine (fitsClauses_op vd vf P k t _ _ HOP.out 1 _ HD3.out HT3.out HQ.out).mono ?_)
    rintro e w3 ⟨rfl, hb3⟩
    have HE3 := Lib.hid (HE2.out.tr hb3)
    clear hb3
    go_wp2
    go_ret
    exact ⟨ret_bool (by first | rfl | (rw [HQ0.out]; rfl)), HE3.out⟩

set_option maxHeartbeats 4000000 in
set_option maxRecDepth 100000 in
theorem fits_7 (vd vf : Value) (P : Pg) (k : Nat) (t : Tm) (va vc : Value) (w : World) (hd : RDecls w vd P.decls) (ht : RT w k t va vc) (hop : t.op = 7) :
    Calls Tryz.prog 131 #[pV vd vf, tV t va vc] w fun e w' => e = .returned (.bool (isDeclB P t.ty true && fitsCB P t 0)) ∧ Ext w w' := by
  have HT := Lib.hid ht
  have HD := Lib.hid hd
  obtain ⟨_, ⟨Aa, ca, rfl, hca, hma⟩, ⟨Bb, cb, rfl, hcb, hmb⟩⟩ := ht.form
  clear ht hd
  have HE : Hid (Ext w ((w.alloc (.cells #[vd, vf] 25)).alloc (.cells #[.int .i64 t.op, .int .i64 t.n, .string t.nm, .int .i64 t.ty, .slice Aa t.args.length ca, .slice Bb t.cls.length cb] 50))) := (Ext.al _ _).tr (Ext.al _ _)
  have HT2 := Lib.hid (HT.out.below HE.out)
  have HD2 := Lib.hid (HD.out.below HE.out)
  have HOP := Lib.hid hop
  rw [hop] at HE HT2 HD2
  have n0 := box6' w (.cells #[vd, vf] 25) 7 t.n t.ty t.nm (.slice Aa t.args.length ca) (.slice Bb t.cls.length cb) 0 rfl
  have n1 := box6' w (.cells #[vd, vf] 25) 7 t.n t.ty t.nm (.slice Aa t.args.length ca) (.slice Bb t.cls.length cb) 1 rfl
  have n2 := box6' w (.cells #[vd, vf] 25) 7 t.n t.ty t.nm (.slice Aa t.args.length ca) (.slice Bb t.cls.length cb) 2 rfl
  have n3 := box6' w (.cells #[vd, vf] 25) 7 t.n t.ty t.nm (.slice Aa t.args.length ca) (.slice Bb t.cls.length cb) 3 rfl
  have n4 := box6' w (.cells #[vd, vf] 25) 7 t.n t.ty t.nm (.slice Aa t.args.length ca) (.slice Bb t.cls.length cb) 4 rfl
  have n5 := box6' w (.cells #[vd, vf] 25) 7 t.n t.ty t.nm (.slice Aa t.args.length ca) (.slice Bb t.cls.length cb) 5 rfl
  have p0 := box2' w vd vf (.cells #[.int .i64 7, .int .i64 t.n, .string t.nm, .int .i64 t.ty, .slice Aa t.args.length ca, .slice Bb t.cls.length cb] 50) 0 rfl
  have p1 := box2' w vd vf (.cells #[.int .i64 7, .int .i64 t.n, .string t.nm, .int .i64 t.ty, .slice Aa t.args.length ca, .slice Bb t.cls.length cb] 50) 1 rfl
  go_enter Tryz.func131, Tryz.ntmps131
  go_wp2_with fail
  generalize (w.alloc _).alloc _ = w1 at *
  (with_reducible refine (isDeclared_any vd vf P t.ty true _ HD2.out).mono ?_)
  rintro e w2 ⟨rfl, hb2⟩
  have n0 := hb2.keep n0
  have n1 := hb2.keep n1
  have n2 := hb2.keep n2
  have n3 := hb2.keep n3
  have n4 := hb2.keep n4
  have n5 := hb2.keep n5
  have p0 := hb2.keep p0
  have p1 := hb2.keep p1
  have HE2 := Lib.hid (HE.out.tr hb2)
  have HT3 := Lib.hid (HT2.out.below hb2)
  have HD3 := Lib.hid (HD2.out.below hb2)
  clear hb2 hop
  cases hq : isDeclB P t.ty true
  · have HQ0 := Lib.hid hq
    clear hq
    go_wp2
    go_ret
    exact ⟨ret_bool (by first | rfl | (rw [HQ0.out]; rfl)), HE2.out⟩
  · have HQ := Lib.hid (isDecl_ok hq)
    have HQ0 := Lib.hid hq
    clear hq
    go_wp2_with fail
    (with_reducible refine (fitsClauses_op vd vf P k t _ _ HOP.out 0 _ HD3.out HT3.out HQ.out).mono ?_)
    rintro e w3 ⟨rfl, hb3⟩
    have HE3 := Lib.hid (HE2.out.tr hb3)
    clear hb3
    go_wp2
    go_ret
    exact ⟨ret_bool (by first | rfl | (rw [HQ0.out]; rfl)), HE3.out⟩

set_option maxHeartbeats 4000000 in
set_option maxRecDepth 100000 in
theorem fits_8 (vd vf : Value) (P : Pg) (k : Nat) (t : Tm) (va vc : Value) (w : World) (hd : RDecls w vd P.decls) (ht : RT w k t va vc) (hop : t.op = 8) :
    Calls Tryz.prog 131 #[pV vd vf, tV t va vc] w fun e w' => e = .returned (.bool (hasF t false true true 2 0 && isTypeB P t.ty)) ∧ Ext w w' := by
  have HT := Lib.hid ht
  have HD := Lib.hid hd
  obtain ⟨_, ⟨Aa, ca, rfl, hca, hma⟩, ⟨Bb, cb, rfl, hcb, hmb⟩⟩ := ht.form
  clear ht hd
  have HE : Hid (Ext w ((w.alloc (.cells #[vd, vf] 25)).alloc (.cells #[.int .i64 t.op, .int .i64 t.n, .string t.nm, .int .i64 t.ty, .slice Aa t.args.length ca, .slice Bb t.cls.length cb] 50))) := (Ext.al _ _).tr (Ext.al _ _)
  have HT2 := Lib.hid (HT.out.below HE.out)
  have HD2 := Lib.hid (HD.out.below HE.out)
  have HOP := Lib.hid hop
  rw [hop] at HE HT2 HD2
  have n3 := box6' w (.cells #[vd, vf] 25) 8 t.n t.ty t.nm (.slice Aa t.args.length ca) (.slice Bb t.cls.length cb) 3 rfl
  have p0 := box2' w vd vf (.cells #[.int .i64 8, .int .i64 t.n, .string t.nm, .int .i64 t.ty, .slice Aa t.args.length ca, .slice Bb t.cls.length cb] 50) 0 rfl
  have p1 := box2' w vd vf (.cells #[.int .i64 8, .int .i64 t.n, .string t.nm, .int .i64 t.ty, .slice Aa t.args.length ca, .slice Bb t.cls.length cb] 50) 1 rfl
  go_enter Tryz.func131, Tryz.ntmps131
  go_wp2_with fail
  generalize (w.alloc _).alloc _ = w1 at *
  (with_reducible refine (has_op k t _ _ HOP.out false true true 2 0 _ HT2.out).mono ?_)
  rintro e w2 ⟨rfl, hb2⟩
  have n3 := hb2.keep n3
  have p0 := hb2.keep p0
  have p1 := hb2.keep p1
  have HE2 := Lib.hid (HE.out.tr hb2)
  have HD3 := Lib.hid (HD2.out.below hb2)
  clear hb2 hop
  cases hq : hasF t false true true 2 0
  · have HQ0 := Lib.hid hq
    clear hq
    go_wp2
    go_ret
    exact ⟨ret_bool (by first | rfl | (rw [HQ0.out]; rfl)), HE2.out⟩
  · have HQ0 := Lib.hid hq
    clear hq
    go_wp2_with fail
    (with_reducible refine (isType_any vd vf P t.ty _ HD3.out).mono ?_)
    rintro e w3 ⟨rfl, hb3⟩
    have HE3 := Lib.hid (HE2.out.tr hb3)
    clear hb3
    go_wp2
    go_ret
    exact ⟨ret_bool (by first | rfl | (rw [HQ0.out]; rfl)), HE3.out⟩

set_option maxHeartbeats 4000000 in
set_option maxRecDepth 100000 in
theorem fits_11 (vd vf : Value) (P : Pg) (k : Nat) (t : Tm) (va vc : Value) (w : World) (hd : RDecls w vd P.decls) (ht : RT w k t va vc) (hop : t.op = 11) :
    Calls Tryz.prog 131 #[pV vd vf, tV t va vc] w fun e w' => e = .returned (.bool (hasF t false true true 1 0 && isTypeB P t.ty)) ∧ Ext w w' := by
  have HT := Lib.hid ht
  have HD := Lib.hid hd
  obtain ⟨_, ⟨Aa, ca, rfl, hca, hma⟩, ⟨Bb, cb, rfl, hcb, hmb⟩⟩ := ht.form
  clear ht hd
  have HE : Hid (Ext w ((w.alloc (.cells #[vd, vf] 25)).alloc (.cells #[.int .i64 t.op, .int .i64 t.n, .string t.nm, .int .i64 t.ty, .slice Aa t.args.length ca, .slice Bb t.cls.length cb] 50))) := (Ext.al _ _).tr (Ext.al _ _)
  have HT2 := Lib.hid (HT.out.below HE.out)
  have HD2 := Lib.hid (HD.out.below HE.out)
  have HOP := Lib.hid hop
  rw [hop] at HE HT2 HD2
  have n3 := box6' w (.cells #[vd, vf] 25) 11 t.n t.ty t.nm (.slice Aa t.args.length ca) (.slice Bb t.cls.length cb) 3 rfl
  have p0 := box2' w vd vf (.cells #[.int .i64 11, .int .i64 t.n, .string t.nm, .int .i64 t.ty, .slice Aa t.args.length ca, .slice Bb t.cls.length cb] 50) 0 rfl
  have p1 := box2' w vd vf (.cells #[.int .i64 11, .int .i64 t.n, .string t.nm, .int .i64 t.ty, .slice Aa t.args.length ca, .slice Bb t.cls.length cb] 50) 1 rfl
  go_enter Tryz.func131, Tryz.ntmps131
  go_wp2_with fail
  generalize (w.alloc _).alloc _ = w1 at *
  (with_reducible refine (has_op k t _ _ HOP.out false true true 1 0 _ HT2.out).mono ?_)
  rintro e w2 ⟨rfl, hb2⟩
  have n3 := hb2.keep n3
  have p0 := hb2.keep p0
  have p1 := hb2.keep p1
  have HE2 := Lib.hid (HE.out.tr hb2)
  have HD3 := Lib.hid (HD2.out.below hb2)
  clear hb2 hop
  cases hq : hasF t false true true 1 0
  · have HQ0 := Lib.hid hq
    clear hq
    go_wp2
    go_ret
    exact ⟨ret_bool (by first | rfl | (rw [HQ0.out]; rfl)), HE2.out⟩
  · have HQ0 := Lib.hid hq
    clear hq
    go_wp2_with fail
    (with_reducible refine (isType_any vd vf P t.ty _ HD3.out).mono ?_)
    rintro e w3 ⟨rfl, hb3⟩
    have HE3 := Lib.hid (HE2.out.tr hb3)
    clear hb3
    go_wp2
    go_ret
    exact ⟨ret_bool (by first | rfl | (rw [HQ0.out]; rfl)), HE3.out⟩

set_option maxHeartbeats 4000000 in
set_option maxRecDepth 100000 in
theorem fits_12 (vd vf : Value) (P : Pg) (k : Nat) (t : Tm) (va vc : Value) (w : World) (hd : RDecls w vd P.decls) (ht : RT w k t va vc) (hop : t.op = 12) :
    Calls Tryz.prog 131 #[pV vd vf, tV t va vc] w fun e w' => e = .returned (.bool (hasF t false true true 1 0 && isTypeB P t.ty)) ∧ Ext w w' := by
  have HT := Lib.hid ht
  have HD := Lib.hid hd
  obtain ⟨_, ⟨Aa, ca, rfl, hca, hma⟩, ⟨Bb, cb, rfl, hcb, hmb⟩⟩ := ht.form
  clear ht hd
  have HE : Hid (Ext w ((w.alloc (.cells #[vd, vf] 25)).alloc (.cells #[.int .i64 t.op, .int .i64 t.n, .string t.nm, .int .i64 t.ty, .slice Aa t.args.length ca, .slice Bb t.cls.length cb] 50))) := (Ext.al _ _).tr (Ext.al _ _)
  have HT2 := Lib.hid (HT.out.below HE.out)
  have HD2 := Lib.hid (HD.out.below HE.out)
  have HOP := Lib.hid hop
  rw [hop] at HE HT2 HD2
  have n3 := box6' w (.cells #[vd, vf] 25) 12 t.n t.ty t.nm (.slice Aa t.args.length ca) (.slice Bb t.cls.length cb) 3 rfl
  have p0 := box2' w vd vf (.cells #[.int .i64 12, .int .i64 t.n, .string t.nm, .int .i64 t.ty, .slice Aa t.args.length ca, .slice Bb t.cls.length cb] 50) 0 rfl
  have p1 := box2' w vd vf (.cells #[.int .i64 12, .int .i64 t.n, .string t.nm, .int .i64 t.ty, .slice Aa t.args.length ca, .slice Bb t.cls.length cb] 50) 1 rfl
  go_enter Tryz.func131, Tryz.ntmps131
  go_wp2_with fail
  generalize (w.alloc _).alloc _ = w1 at *
  (with_reducible refine (has_op k t _ _ HOP.out false true true 1 0 _ HT2.out).mono ?_)
  rintro e w2 ⟨rfl, hb2⟩
  have n3 := hb2.keep n3
  have p0 := hb2.keep p0
  have p1 := hb2.keep p1
  have HE2 := Lib.hid (HE.out.tr hb2)
  have HD3 := Lib.hid (HD2.out.below hb2)
  clear hb2 hop
  cases hq : hasF t false true true 1 0
  · have HQ0 := Lib.hid hq
    clear hq
    go_wp2
    go_ret
    exact ⟨ret_bool (by first | rfl | (rw [HQ0.out]; rfl)), HE2.out⟩
  · have HQ0 := Lib.hid hq
    clear hq
    go_wp2_with fail
    (with_reducible refine (isType_any vd vf P t.ty _ HD3.out).mono ?_)
    rintro e w3 ⟨rfl, hb3⟩
    have HE3 := Lib.hid (HE2.out.tr hb3)
    clear hb3
    go_wp2
    go_ret
    exact ⟨ret_bool (by first | rfl | (rw [HQ0.out]; rfl)), HE3.out⟩
end Go.Proofs.YtkdglplfcpindaaGreatDoor

/- fits.go: a call; all nodes. -/
namespace Go.Proofs.YtkdglplfcpindaaGreatDoor
open Go.RowKit

set_option maxHeartbeats 4000000 in
set_option maxRecDepth 100000 in
theorem fits_9 (vd vf : Value) (P : Pg) (k : Nat) (t : Tm) (va vc : Value) (w : World) (hf : RFns w vf P.funs) (ht : RT w k t va vc) (hop : t.op = 9) :
    Calls Tryz.prog 131 #[pV vd vf, tV t va vc] w fun e w' => e = .returned (.bool (isIdxB t.n P.funs.length && hasF t true false false (P.funs.getD t.n.toNat noFn).ps.length 0)) ∧ Ext w w' := by
  have HT := Lib.hid ht
  have HF := Lib.hid hf
  obtain ⟨_, ⟨Aa, ca, rfl, hca, hma⟩, ⟨Bb, cb, rfl, hcb, hmb⟩⟩ := ht.form
  obtain ⟨Af, cf, rfl, hcf, hmf⟩ := hf.form
  clear ht hf
  have HE : Hid (Ext w ((w.alloc (.cells #[vd, .slice Af P.funs.length cf] 25)).alloc (.cells #[.int .i64 t.op, .int .i64 t.n, .string t.nm, .int .i64 t.ty, .slice Aa t.args.length ca, .slice Bb t.cls.length cb] 50))) := (Ext.al _ _).tr (Ext.al _ _)
  have HT2 := Lib.hid (HT.out.below HE.out)
  have HF2 := Lib.hid (HF.out.below HE.out)
  have HOP := Lib.hid hop
  rw [hop] at HE HT2 HF2
  have n0 := box6' w (.cells #[vd, .slice Af P.funs.length cf] 25) 9 t.n t.ty t.nm (.slice Aa t.args.length ca) (.slice Bb t.cls.length cb) 0 rfl
  have n1 := box6' w (.cells #[vd, .slice Af P.funs.length cf] 25) 9 t.n t.ty t.nm (.slice Aa t.args.length ca) (.slice Bb t.cls.length cb) 1 rfl
  have n2 := box6' w (.cells #[vd, .slice Af P.funs.length cf] 25) 9 t.n t.ty t.nm (.slice Aa t.args.length ca) (.slice Bb t.cls.length cb) 2 rfl
  have n3 := box6' w (.cells #[vd, .slice Af P.funs.length cf] 25) 9 t.n t.ty t.nm (.slice Aa t.args.length ca) (.slice Bb t.cls.length cb) 3 rfl
  have n4 := box6' w (.cells #[vd, .slice Af P.funs.length cf] 25) 9 t.n t.ty t.nm (.slice Aa t.args.length ca) (.slice Bb t.cls.length cb) 4 rfl
  have n5 := box6' w (.cells #[vd, .slice Af P.funs.length cf] 25) 9 t.n t.ty t.nm (.slice Aa t.args.length ca) (.slice Bb t.cls.length cb) 5 rfl
  have p1 := box2' w vd (.slice Af P.funs.length cf) (.cells #[.int .i64 9, .int .i64 t.n, .string t.nm, .int .i64 t.ty, .slice Aa t.args.length ca, .slice Bb t.cls.length cb] 50) 1 rfl
  unfold maxLen at *
  cases hq : isIdxB t.n P.funs.length
  · have HQ := Lib.hid hq
    clear hq
    go_enter Tryz.func131, Tryz.ntmps131
    go_wp2
    generalize (w.alloc _).alloc _ = w1 at *
    have n1 := ExtOf.cell n1
    have p1 := ExtOf.cell p1
    clear n0 n2 n3 n4 n5 hop
    refine wp_region_ext (w0 := w1) (by kernel_rfl) (by kernel_rfl) (Ext.rf _) ?_
    repeat (first | go_big_quiet_step ((go_at_call 153; with_reducible exact Calls.ext_same (isIndex_is _ _ _ HQ.out _))) | quiet_step ((go_at_call 153; with_reducible exact Calls.ext_same (isIndex_is _ _ _ HQ.out _))))
    refine wpQuiet_nil ?_
    rintro _ ⟨⟨w2, hx⟩, rfl⟩
    have HX := Lib.hid hx; clear hx
    go_wp2
    go_ret
    exact ⟨ret_bool (by first | rfl | (rw [HQ.out]; rfl)), HE.out.tr HX.out⟩
  · obtain ⟨hj0, hj1, hjl⟩ := isIdx_in hq
    have HQ := Lib.hid hq
    have HG := Lib.hid (getD_at noFn hjl)
    clear hq
    obtain ⟨bf, of_, vp, xa, xc, kf, rfl, hbf, y0, y1, y2, yc, y3, y4, y5⟩ := HF2.out.at_ hjl
    obtain ⟨Ap, cp, rfl, hcp, hmp⟩ := y4.form
    clear y0 y2 y3 y4 y5 yc
    unfold maxLen at *
    generalize P.funs[t.n.toNat] = f at *
    go_enter Tryz.func131, Tryz.ntmps131
    go_wp2
    generalize (w.alloc _).alloc _ = w1 at *
    have n0 := ExtOf.cell n0
    have n1 := ExtOf.cell n1
    have n2 := ExtOf.cell n2
    have n3 := ExtOf.cell n3
    have n4 := ExtOf.cell n4
    have n5 := ExtOf.cell n5
    have p1 := ExtOf.cell p1
    have y1 := ExtOf.cell y1
    clear hop
    refine wp_region_ext (w0 := w1) (by kernel_rfl) (by kernel_rfl) (Ext.rf _) ?_
    repeat (first | go_big_quiet_step ((first | (go_at_call 153; with_reducible exact Calls.ext_same (isIndex_is _ _ _ HQ.out _)) | (go_at_call 149; with_reducible exact Calls.ext_of (has_op k t _ _ HOP.out true false false f.ps.length 0 _ (HT2.out.below (ExtOf.ext _)))))) | quiet_step ((first | (go_at_call 153; with_reducible exact Calls.ext_same (isIndex_is _ _ _ HQ.out _)) | (go_at_call 149; with_reducible exact Calls.ext_of (has_op k t _ _ HOP.out true false false f.ps.length 0 _ (HT2.out.below (ExtOf.ext _)))))))
    refine wpQuiet_nil ?_
    rintro _ ⟨⟨w2, hx⟩, rfl⟩
    have HX := Lib.hid hx; clear hx
    go_wp2
    go_ret
    exact ⟨ret_bool (by first | rfl | (rw [HQ.out, HG.out]; rfl) | (rw [HG.out]; rfl)), HE.out.tr HX.out⟩

set_option maxHeartbeats 4000000 in
set_option maxRecDepth 100000 in
theorem fits_no (vd vf : Value) (_P : Pg) (_k : Nat) (t : Tm) (va vc : Value) (w : World) (h : t.op < 0 ∨ 12 < t.op) :
    Calls Tryz.prog 131 #[pV vd vf, tV t va vc] w fun e w' => e = .returned (.bool false) ∧ Ext w w' := by
  have h0 : decide (t.op = 0) = false := decide_eq_false (by omega)
  have h1 : decide (t.op = 1) = false := decide_eq_false (by omega)
  have h2 : decide (t.op = 2) = false := decide_eq_false (by omega)
  have h3 : decide (t.op = 3) = false := decide_eq_false (by omega)
  have h4 : decide (t.op = 4) = false := decide_eq_false (by omega)
  have h5 : decide (t.op = 5) = false := decide_eq_false (by omega)
  have h6 : decide (t.op = 6) = false := decide_eq_false (by omega)
  have h7 : decide (t.op = 7) = false := decide_eq_false (by omega)
  have h8 : decide (t.op = 8) = false := decide_eq_false (by omega)
  have h9 : decide (t.op = 9) = false := decide_eq_false (by omega)
  have h10 : decide (t.op = 10) = false := decide_eq_false (by omega)
  have h11 : decide (t.op = 11) = false := decide_eq_false (by omega)
  have h12 : decide (t.op = 12) = false := decide_eq_false (by omega)
  simp only [decide_eq_false_iff_not] at h0 h1 h2 h3 h4 h5 h6 h7 h8 h9 h10 h11 h12
  clear h
  go_enter Tryz.func131, Tryz.ntmps131
  go_wp2
  go_ret
  exact ⟨rfl, (Ext.al _ _).tr (Ext.al _ _)⟩

theorem tfits_any (vd vf : Value) (P : Pg) (k : Nat) (t : Tm) (va vc : Value) (w : World) (hd : RDecls w vd P.decls) (hf : RFns w vf P.funs) (ht : RT w k t va vc) :
    Calls Tryz.prog 131 #[pV vd vf, tV t va vc] w fun e w' => e = .returned (.bool (fitsT P t)) ∧ Ext w w' := by
  unfold fitsT
  by_cases h0 : t.op = 0
  · rw [if_pos h0]; exact fits_0 vd vf P k t va vc w hd ht h0
  rw [if_neg h0]
  by_cases h1 : t.op = 1
  · rw [if_pos h1]; exact fits_1 vd vf P k t va vc w hd ht h1
  rw [if_neg h1]
  by_cases h2 : t.op = 2
  · rw [if_pos h2]; exact fits_2 vd vf P k t va vc w hd ht h2
  rw [if_neg h2]
  by_cases h3 : t.op = 3
  · rw [if_pos h3]; exact fits_3 vd vf P k t va vc w hd ht h3
  rw [if_neg h3]
  by_cases h4 : t.op = 4
  · rw [if_pos h4]; exact fits_4 vd vf P k t va vc w hd ht h4
  rw [if_neg h4]
  by_cases h5 : t.op = 5
  · rw [if_pos h5]; exact fits_5 vd vf P k t va vc w hd ht h5
  rw [if_neg h5]
  by_cases h6 : t.op = 6
  · rw [if_pos h6]; exact fits_6 vd vf P k t va vc w hd ht h6
  rw [if_neg h6]
  by_cases h7 : t.op = 7
  · rw [if_pos h7]; exact fits_7 vd vf P k t va vc w hd ht h7
  rw [if_neg h7]
  by_cases h8 : t.op = 8
  · rw [if_pos h8]; exact fits_8 vd vf P k t va vc w hd ht h8
  rw [if_neg h8]
  by_cases h9 : t.op = 9
  · rw [if_pos h9]; exact fits_9 vd vf P k t va vc w hf ht h9
  rw [if_neg h9]
  by_cases h10 : t.op = 10
  · rw [if_pos h10]; exact fits_10 vd vf P k t va vc w hd ht h10
  rw [if_neg h10]
  by_cases h11 : t.op = 11
  · rw [if_pos (.inl h11)]; exact fits_11 vd vf P k t va vc w hd ht h11
  by_cases h12 : t.op = 12
  · rw [if_pos (.inr h12)]; exact fits_12 vd vf P k t va vc w hd ht h12
  rw [if_neg (by rintro (h | h) <;> contradiction)]
  exact fits_no vd vf P k t va vc w (by omega)
end Go.Proofs.YtkdglplfcpindaaGreatDoor
