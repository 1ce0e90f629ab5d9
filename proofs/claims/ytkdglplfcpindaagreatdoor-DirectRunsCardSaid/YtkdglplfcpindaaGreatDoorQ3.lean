import Derived.Test.YtkdglplfcpindaaGreatDoorQ2
set_option maxRecDepth 100000
namespace Go.Proofs.YtkdglplfcpindaaGreatDoor
open Go.RowKit
theorem ret_int {k : IntKind} {a b : Int} (h : a = b) : Ending.returned (.int k a) = .returned (.int k b) := by rw [h]
theorem isIndex_is (i n : Int) (q : Bool) (h : isIdxB i n = q) (w : World) : Calls Tryz.prog 153 #[.int .i64 i, .int .i64 n] w fun e w' => e = .returned (.bool q) /\ w = w' := by
  subst h; exact isIndex_any i n w
theorem declAt_in {P : Pg} {u : Nat} (h : u < P.decls.length) : declAt P ((u : Int) + 1) = P.decls[u] := by
  unfold declAt
  have e : ((u : Int) + 1 - 1).toNat = u := by omega
  rw [e, List.getD_eq_getElem?_getD, List.getElem?_eq_getElem h]; rfl
theorem isDeclB_out {P : Pg} {ty : Int} {co : Bool} (h : ¬ (1 <= ty /\ ty <= P.decls.length)) : isDeclB P ty co = false := by
  unfold isDeclB
  by_cases h1 : 1 <= ty
  . rw [decide_eq_false (show ¬ ty <= P.decls.length by omega)]; simp
  . rw [decide_eq_false h1]; simp
theorem isDeclB_in {P : Pg} {u : Nat} {co : Bool} (h : u < P.decls.length) : isDeclB P ((u : Int) + 1) co = ((P.decls[u]).codata == co) := by
  unfold isDeclB
  rw [declAt_in h, decide_eq_true (by omega), decide_eq_true (by omega)]; rfl
set_option maxHeartbeats 1000000 in
theorem isDeclared_any (vd vf : Value) (P : Pg) (ty : Int) (co : Bool) (w : World) (h : RDecls w vd P.decls) :
    Calls Tryz.prog 150 #[pV vd vf, .int .i64 ty, .bool co] w fun e w' => e = .returned (.bool (isDeclB P ty co)) /\ Ext w w' := by
  have HR := LH h
  obtain ⟨A, c, rfl, hc, hm⟩ := h.form
  clear h
  unfold maxLen at hm
  have HE : Hid (Ext w (w.alloc (.cells #[.slice A P.decls.length c, vf] 25))) := Ext.al _ _
  by_cases hr : 1 <= ty /\ ty <= P.decls.length
  . obtain ⟨u, hu⟩ : ∃ u : Nat, ty = u + 1 := ⟨(ty - 1).toNat, by omega⟩
    subst hu
    have hul : u < P.decls.length := by omega
    have HI := LH (isDeclB_in (co := co) hul)
    clear hr
    obtain ⟨b, o, vx, rfl, hbl, h0, h1, h2, h3, h4⟩ := HR.out.at_ hul
    have h1 := HE.out.keep h1
    clear h0 h2 h3 h4
    generalize P.decls[u] = d at *
    go_enter Tryz.func150, Tryz.ntmps150
    go_wp2
    go_ret
    exact ⟨rB (by rw [HI.out]), HE.out⟩
  . have HI := LH (isDeclB_out (co := co) hr)
    by_cases h1 : 1 <= ty
    all_goals
      have hn1 : ty < 1 ∨ (P.decls.length : Int) < ty := by omega
      clear hr
      go_enter Tryz.func150, Tryz.ntmps150
      go_wp2
      go_ret
      exact ⟨rB HI.out.symm, HE.out⟩
def prodN (l : List Arg) : Nat := (l.filter fun a => !a.co).length
theorem prodN_le (l : List Arg) : prodN l <= l.length := List.length_filter_le _ _
theorem prodN_snoc (l : List Arg) (x : Arg) : prodN (l ++ [x]) = prodN l + if x.co then 0 else 1 := by
  cases h : x.co <;> simp [prodN, List.filter_append, h]
set_option maxHeartbeats 1000000 in
theorem producers_any (va : Value) (x : Xtor) (w : World) (h : RArgs w va x.args) :
    Calls Tryz.prog 167 #[.agg #[.string x.name, va]] w fun e w' => e = .returned (.int .i64 (prodI x)) /\ Ext w w' := by
  have HP : Hid (prodI x = (prodN x.args : Int)) := rfl
  generalize x.args = l at *
  have HR := LH h
  obtain ⟨A, c, rfl, hc, hm⟩ := h.form
  clear h
  unfold maxLen at hm
  go_enter Tryz.func167, Tryz.ntmps167
  go_wp2
  have HE : Hid (Ext w (w.alloc (.cells #[.string x.name, .slice A l.length c] 140))) := Ext.al _ _
  generalize w.alloc _ = w1 at *
  go_loopw [3, 9] (fun s i wr => ∃ k : Nat, k <= l.length /\ i = .int .i64 k /\ s = .int .i64 (prodN (l.take k)) /\ Ext w wr) (fun _ i _ => l.length - (intOf i).toNat)
  case atStart => exact ⟨0, Nat.zero_le _, rfl, rfl, HE.out⟩
  case round =>
    obtain ⟨k, hk, rfl, rfl, hb⟩ := hrel
    have HB := LH hb; clear hb
    have hpl := prodN_le (l.take k)
    have htl : (l.take k).length <= k := List.length_take_le _ _
    by_cases hlt : k < l.length
    . obtain ⟨b, o, rfl, hbl, h0, h1⟩ := HR.out.at_ hlt
      have h0 := HB.out.keep h0
      have h1 := HB.out.keep h1
      have HS : Hid (prodN (l.take (k + 1)) = prodN (l.take k) + if (l[k]).co then 0 else 1) := by rw [List.take_succ_eq_append_getElem hlt]; exact prodN_snoc _ _
      generalize l[k] = a at *
      have HE2 := LH (HB.out.tr (Ext.al wr (Obj.cells #[.int .i64 a.ty, .bool a.co] 165)))
      cases hco : a.co
      all_goals
        have HCO := LH hco
        rw [hco] at h1 HE2
        clear hco
        go_wp2
        go_roundw
        case rel => exact ⟨k + 1, by omega, by go_num, by rw [HS.out, HCO.out]; simp, HE2.out⟩
        case measure => simp [intOf]; omega
    . go_wp2
      go_ret
      exact ⟨ret_int (by rw [HP.out, List.take_of_length_le (by omega)]), HB.out⟩
theorem declAt_at {P : Pg} {ty : Int} (h : ty.toNat - 1 < P.decls.length) : declAt P ty = P.decls[ty.toNat - 1] := by
  unfold declAt
  have e : (ty - 1).toNat = ty.toNat - 1 := by omega
  rw [e, List.getD_eq_getElem?_getD, List.getElem?_eq_getElem h]; rfl
theorem fitsX_in {P : Pg} {t : Tm} (h : t.ty.toNat - 1 < P.decls.length) : fitsXB P t = (isIdxB t.n (P.decls[t.ty.toNat - 1]).xtors.length && hasF t true false true ((P.decls[t.ty.toNat - 1]).xtors.getD t.n.toNat noXtor).args.length 0) := by
  unfold fitsXB; rw [declAt_at h]
theorem isIdx_in {i : Int} {n : Nat} (h : isIdxB i n = true) : 0 <= i /\ i < n /\ i.toNat < n := by
  unfold isIdxB at h
  simp at h
  exact ⟨by omega, by omega, by omega⟩
theorem getD_at {α : Type} {l : List α} {j : Nat} (d : α) (h : j < l.length) : l.getD j d = l[j] := by
  rw [List.getD_eq_getElem?_getD, List.getElem?_eq_getElem h]; rfl
theorem box6 (w : World) (o1 : Obj) (op n ty : Int) (nm : Str) (va vc : Value) :
    ((w.alloc o1).alloc (.cells #[.int .i64 op, .int .i64 n, .string nm, .int .i64 ty, va, vc] 50)).cell? ⟨w.heap.size + 1, 0, none⟩ = some (.int .i64 op) ∧
    ((w.alloc o1).alloc (.cells #[.int .i64 op, .int .i64 n, .string nm, .int .i64 ty, va, vc] 50)).cell? ⟨w.heap.size + 1, 1, none⟩ = some (.int .i64 n) ∧
    ((w.alloc o1).alloc (.cells #[.int .i64 op, .int .i64 n, .string nm, .int .i64 ty, va, vc] 50)).cell? ⟨w.heap.size + 1, 2, none⟩ = some (.string nm) ∧
    ((w.alloc o1).alloc (.cells #[.int .i64 op, .int .i64 n, .string nm, .int .i64 ty, va, vc] 50)).cell? ⟨w.heap.size + 1, 3, none⟩ = some (.int .i64 ty) ∧
    ((w.alloc o1).alloc (.cells #[.int .i64 op, .int .i64 n, .string nm, .int .i64 ty, va, vc] 50)).cell? ⟨w.heap.size + 1, 4, none⟩ = some va ∧
    ((w.alloc o1).alloc (.cells #[.int .i64 op, .int .i64 n, .string nm, .int .i64 ty, va, vc] 50)).cell? ⟨w.heap.size + 1, 5, none⟩ = some vc := by
  have h : ∀ i, ((w.alloc o1).alloc (.cells #[.int .i64 op, .int .i64 n, .string nm, .int .i64 ty, va, vc] 50)).cell? ⟨w.heap.size + 1, i, none⟩ = (#[.int .i64 op, .int .i64 n, .string nm, .int .i64 ty, va, vc] : Array Value)[i]? := fun i => by
    rw [World.cell?_alloc_at _ _ _ _ (by simp)]
  exact ⟨h 0, h 1, h 2, h 3, h 4, h 5⟩
set_option maxHeartbeats 2000000 in
theorem fitsXtor_any (vd vf : Value) (P : Pg) (k : Nat) (t : Tm) (va vc : Value) (w : World) (h : RDecls w vd P.decls) (ht : RT w k t va vc) (hty : 1 <= t.ty /\ t.ty <= P.decls.length) :
    Calls Tryz.prog 151 #[pV vd vf, tV t va vc] w fun e w' => e = .returned (.bool (fitsXB P t)) /\ Ext w w' := by
  have HR := LH h
  obtain ⟨A, c, rfl, hc, hm⟩ := h.form
  clear h
  unfold maxLen at hm
  obtain ⟨hty1, hty2⟩ := hty
  have hul : t.ty.toNat - 1 < P.decls.length := by omega
  have HI := LH (fitsX_in hul)
  have HT := LH ht
  obtain ⟨_, ⟨Aa, ca, rfl, hca, hma⟩, ⟨Bb, cb, rfl, hcb, hmb⟩⟩ := ht.form
  clear ht
  obtain ⟨b, o, vx, rfl, hbl, h0, h1, h2, h3, h4⟩ := HR.out.at_ hul
  have HE : Hid (Ext w ((w.alloc (.cells #[.slice (some ⟨b, o, none⟩) P.decls.length c, vf] 25)).alloc (.cells #[.int .i64 t.op, .int .i64 t.n, .string t.nm, .int .i64 t.ty, .slice Aa t.args.length ca, .slice Bb t.cls.length cb] 50))) := (Ext.al _ _).tr (Ext.al _ _)
  clear h0 h1 h4
  obtain ⟨Ax, cx, rfl, hcx, hmx⟩ := h3.form
  have HX := LH (h3.below HE.out)
  have HT2 := LH (HT.out.below HE.out)
  clear h3 HT
  unfold maxLen at *
  generalize P.decls[t.ty.toNat - 1] = d at *
  obtain ⟨dn, co, xs⟩ := d
  dsimp only at *
  cases hq : isIdxB t.n xs.length
  . have HQ := LH hq
    rw [hq] at HI
    clear hq
    go_enter Tryz.func151, Tryz.ntmps151
    go_wp2
    have x1 := box6 w (.cells #[.slice (some ⟨b, o, none⟩) P.decls.length c, vf] 25) t.op t.n t.ty t.nm (.slice Aa t.args.length ca) (.slice Bb t.cls.length cb)
    generalize (w.alloc _).alloc _ = w1 at *
    have y1 := ExtOf.cell x1.2.1
    refine wRE (w0 := w1) (by kernel_rfl) (by kernel_rfl) (Ext.rf _) ?_
    repeat (first | go_big_quiet_step ((go_at_call 153; with_reducible exact Calls.ext_same (isIndex_is _ _ _ HQ.out _))) | quiet_step ((go_at_call 153; with_reducible exact Calls.ext_same (isIndex_is _ _ _ HQ.out _))))
    refine wpQuiet_nil ?_
    rintro _ ⟨⟨w2, hx⟩, rfl⟩
    go_wp2
    go_ret
    exact ⟨rB (by rw [HI.out]; rfl), HE.out.tr hx⟩
  . obtain ⟨hj0, hj1, hjl⟩ := isIdx_in hq
    have HQ := LH hq
    rw [hq, getD_at _ hjl] at HI
    clear hq
    obtain ⟨bx, ox, vy, rfl, hbx, y0, y1, y2, y3⟩ := HX.out.at_ hjl
    obtain ⟨Ay, cy, rfl, hcy, hmy⟩ := y2.form
    clear y0 y2 y3
    unfold maxLen at hmy
    generalize xs[t.n.toNat] = x at *
    obtain ⟨xn, xa⟩ := x
    dsimp only at *
    go_enter Tryz.func151, Tryz.ntmps151
    go_wp2
    have x1 := box6 w (.cells #[.slice (some ⟨b, o, none⟩) P.decls.length c, vf] 25) t.op t.n t.ty t.nm (.slice Aa t.args.length ca) (.slice Bb t.cls.length cb)
    generalize (w.alloc _).alloc _ = w1 at *
    have y1 := ExtOf.cell y1
    have z0 := ExtOf.cell x1.1
    have z1 := ExtOf.cell x1.2.1
    have z2 := ExtOf.cell x1.2.2.1
    have z3 := ExtOf.cell x1.2.2.2.1
    have z4 := ExtOf.cell x1.2.2.2.2.1
    have z5 := ExtOf.cell x1.2.2.2.2.2
    have X1 := LH x1; clear x1
    refine wRE (w0 := w1) (by kernel_rfl) (by kernel_rfl) (Ext.rf _) ?_
    repeat (first | go_big_quiet_step ((first | (go_at_call 153; with_reducible exact Calls.ext_same (isIndex_is _ _ _ HQ.out _)) | (go_at_call 149; with_reducible exact Calls.ext_of (has_any k t _ _ true false true _ 0 _ (HT2.out.below (ExtOf.ext _)))))) | quiet_step ((first | (go_at_call 153; with_reducible exact Calls.ext_same (isIndex_is _ _ _ HQ.out _)) | (go_at_call 149; with_reducible exact Calls.ext_of (has_any k t _ _ true false true _ 0 _ (HT2.out.below (ExtOf.ext _)))))))
    refine wpQuiet_nil ?_
    rintro _ ⟨⟨w2, hx⟩, rfl⟩
    go_wp2
    go_ret
    exact ⟨rB (by rw [HI.out]; rfl), HE.out.tr hx⟩
end Go.Proofs.YtkdglplfcpindaaGreatDoor

namespace Go.Proofs.YtkdglplfcpindaaGreatDoor
open Go.RowKit
theorem fitsC_in {P : Pg} {t : Tm} {na : Int} (h : t.ty.toNat - 1 < P.decls.length) : fitsCB P t na = (hasF t false false true na (P.decls[t.ty.toNat - 1]).xtors.length && clsB (P.decls[t.ty.toNat - 1]).xtors t.cls) := by
  unfold fitsCB; rw [declAt_at h]
theorem hasF_cls {t : Tm} {a b c : Bool} {na nc : Int} (h : hasF t a b c na nc = true) : (t.cls.length : Int) = nc := by
  unfold hasF at h
  simp at h
  exact h.2
theorem clsB_cons (xs : List Xtor) (c : List Str × Tm) (r : List (List Str × Tm)) : clsB xs (c :: r) = (decide ((c.1.length : Int) = prodI (xs.headD noXtor)) && clsB xs.tail r) := rfl
theorem clsB_drop {xs : List Xtor} {cs : List (List Str × Tm)} {j : Nat} (h1 : j < xs.length) (h2 : j < cs.length) :
    clsB (xs.drop j) (cs.drop j) = (decide ((cs[j].1.length : Int) = prodI xs[j]) && clsB (xs.drop (j + 1)) (cs.drop (j + 1))) := by
  rw [dS h1, dS h2, clsB_cons]; rfl
theorem newCell (w : World) (l : Array Value) (T : TypeId) (i : Nat) {v : Value} (h : l[i]? = some v) : (w.alloc (.cells l T)).cell? ⟨w.heap.size, i, none⟩ = some v := by
  rw [World.cell?_alloc_at _ _ _ _ rfl]; exact h
set_option maxHeartbeats 2000000 in
theorem fitsClauses_any (vd vf : Value) (P : Pg) (k : Nat) (t : Tm) (va vc : Value) (na : Int) (w : World) (h : RDecls w vd P.decls) (ht : RT w k t va vc) (hty : 1 <= t.ty /\ t.ty <= P.decls.length) :
    Calls Tryz.prog 152 #[pV vd vf, tV t va vc, .int .i64 na] w fun e w' => e = .returned (.bool (fitsCB P t na)) /\ Ext w w' := by
  have HR := LH h
  obtain ⟨A, c, rfl, hc, hm⟩ := h.form
  clear h
  unfold maxLen at hm
  obtain ⟨hty1, hty2⟩ := hty
  have hul : t.ty.toNat - 1 < P.decls.length := by omega
  have HI := LH (fitsC_in (na := na) hul)
  have HT := LH ht
  obtain ⟨_, ⟨Aa, ca, rfl, hca, hma⟩, ⟨Bb, cb, rfl, hcb, hmb⟩⟩ := ht.form
  clear ht
  obtain ⟨b, o, vx, rfl, hbl, h0, h1, h2, h3, h4⟩ := HR.out.at_ hul
  have HE : Hid (Ext w ((w.alloc (.cells #[.slice (some ⟨b, o, none⟩) P.decls.length c, vf] 25)).alloc (.cells #[.int .i64 t.op, .int .i64 t.n, .string t.nm, .int .i64 t.ty, .slice Aa t.args.length ca, .slice Bb t.cls.length cb] 50))) := (Ext.al _ _).tr (Ext.al _ _)
  clear h0 h1 h4
  obtain ⟨Ax, cx, rfl, hcx, hmx⟩ := h3.form
  have HX := LH (h3.below HE.out)
  have HT2 := LH (HT.out.below HE.out)
  clear h3 HT
  unfold maxLen at *
  generalize P.decls[t.ty.toNat - 1] = d at *
  obtain ⟨dn, co, xs⟩ := d
  dsimp only at *
  go_enter Tryz.func152, Tryz.ntmps152
  go_wp2_with fail
  have x1 := box6 w (.cells #[.slice (some ⟨b, o, none⟩) P.decls.length c, vf] 25) t.op t.n t.ty t.nm (.slice Aa t.args.length ca) (.slice Bb t.cls.length cb)
  generalize (w.alloc _).alloc _ = w1 at *
  have X5 := LH x1.2.2.2.2.2
  clear x1
  (with_reducible refine (has_any k t _ _ false false true na xs.length _ HT2.out).mono ?_)
  rintro e w2 ⟨rfl, hb2⟩
  have HE2 := LH (HE.out.tr hb2)
  have x5 := hb2.keep X5.out
  have HX2 := LH (HX.out.below hb2)
  have HT3 := LH (HT2.out.below hb2)
  clear hb2 X5 HX HT2 HE
  cases hq : hasF t false false true na xs.length
  . rw [hq] at HI
    clear hq
    go_wp2
    go_ret
    exact ⟨rB (by rw [HI.out]; rfl), HE2.out⟩
  . have hcl := hasF_cls hq
    rw [hq, Bool.true_and] at HI
    have hcl' : t.cls.length = xs.length := by omega
    have HCL := LH hcl'
    have hcl1 : t.cls.length <= xs.length := by omega
    clear hq hcl hcl'
    go_wp2
    go_loopw [28] (fun i wr => ∃ j : Nat, j <= t.cls.length /\ i = .int .i64 j /\ Ext w2 wr /\ clsB xs t.cls = clsB (xs.drop j) (t.cls.drop j)) (fun i _ => t.cls.length - (intOf i).toNat)
    case atStart => exact ⟨0, Nat.zero_le _, rfl, Ext.rf _, by simp⟩
    case round =>
      obtain ⟨j, hj, rfl, hb3, hno⟩ := hrel
      have HB3 := LH hb3; have HN := LH hno; clear hb3 hno
      by_cases hlt : j < t.cls.length
      . have hjx : j < xs.length := by omega
        obtain ⟨bx, ox, vy, hax, hbx, y0, y1, y2, y3⟩ := HX2.out.at_ hjx
        have HD := LH (clsB_drop hjx hlt)
        cases k with
        | zero => exact HT3.out.elim
        | succ k =>
          obtain ⟨bc, oc, vn, xa, xc, hac, hbc, z0, zs, zc, zt⟩ := HT3.out.clause hlt
          obtain ⟨An, cn, rfl, hcn, hmn⟩ := zs.form
          obtain ⟨Ay, cy, rfl, hcy, hmy⟩ := y2.form
          obtain ⟨_, ⟨Ac, cca, rfl, -, -⟩, ⟨Bc, ccb, rfl, -, -⟩⟩ := zt.form
          obtain rfl := hax
          obtain rfl := hac
          have HY := LH y2; clear y2 zs zt
          have z0 := HB3.out.keep z0
          have c0 := HB3.out.keep zc.c0
          have c1 := HB3.out.keep zc.c1
          have c2 := HB3.out.keep zc.c2
          have c3 := HB3.out.keep zc.c3
          have c4 := HB3.out.keep zc.c4
          have c5 := HB3.out.keep zc.c5
          clear zc
          have y0 := HB3.out.keep y0
          have y1 := HB3.out.keep y1
          have HY := LH (HY.out.below HB3.out)
          unfold maxLen at *
          generalize t.cls[j] = cl at *
          obtain ⟨ns, ct⟩ := cl
          generalize xs[j] = x at *
          dsimp only at *
          go_wp2
          have hE4 := Ext.al wr (Obj.cells #[Value.slice An ns.length cn, Value.int .i64 ct.op, Value.int .i64 ct.n, Value.string ct.nm, Value.int .i64 ct.ty, .slice Ac ct.args.length cca, .slice Bc ct.cls.length ccb] 123)
          have n0 := newCell wr #[Value.slice An ns.length cn, Value.int .i64 ct.op, Value.int .i64 ct.n, Value.string ct.nm, Value.int .i64 ct.ty, .slice Ac ct.args.length cca, .slice Bc ct.cls.length ccb] 123 0 rfl
          generalize wr.alloc _ = w4 at *
          have HE4 := LH hE4
          have HY4 := LH (HY.out.below hE4)
          have y0 := ExtOf.cell (hE4.keep y0)
          have y1 := ExtOf.cell (hE4.keep y1)
          have n0 := ExtOf.cell n0
          clear hE4 c0 c1 c2 c3 c4 c5
          refine wRE (w0 := w4) (by kernel_rfl) (by kernel_rfl) (Ext.rf _) ?_
          repeat (first | go_big_quiet_step ((go_at_call 167; with_reducible exact Calls.ext_of (producers_any _ x _ (HY4.out.below (ExtOf.ext _))))) | quiet_step ((go_at_call 167; with_reducible exact Calls.ext_of (producers_any _ x _ (HY4.out.below (ExtOf.ext _))))))
          refine wpQuiet_nil ?_
          rintro _ ⟨⟨w5, hx⟩, rfl⟩
          have HX5 := LH (HB3.out.tr (HE4.out.tr hx))
          clear hx
          go_wp2
          . have q : ((ns.length : Int) != prodI x) = true := by assumption
            go_ret
            exact ⟨rB (by rw [HI.out, HN.out, HD.out]; simp at q; simp [q]), HE2.out.tr HX5.out⟩
          . have q : ((ns.length : Int) != prodI x) = false := by assumption
            go_roundw
            case rel => exact ⟨j + 1, by omega, by go_num, HX5.out, by rw [HN.out, HD.out]; simp at q; simp [q]⟩
            case measure => simp [intOf]; omega
      . go_wp2
        go_ret
        refine ⟨rB ?_, HE2.out.tr HB3.out⟩
        rw [HI.out, HN.out, drop_end hlt]
        rw [drop_end (by rw [← HCL.out]; exact hlt)]; rfl
end Go.Proofs.YtkdglplfcpindaaGreatDoor
