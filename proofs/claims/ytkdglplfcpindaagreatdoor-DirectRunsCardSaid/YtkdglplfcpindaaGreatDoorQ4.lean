import Derived.Test.YtkdglplfcpindaaGreatDoorQ3
set_option maxRecDepth 100000
namespace Go.Proofs.YtkdglplfcpindaaGreatDoor
open Go.RowKit
theorem box6' (w : World) (o1 : Obj) (op n ty : Int) (nm : Str) (va vc : Value) (i : Nat) {v : Value} (h : (#[.int .i64 op, .int .i64 n, .string nm, .int .i64 ty, va, vc] : Array Value)[i]? = some v) :
    ((w.alloc o1).alloc (.cells #[.int .i64 op, .int .i64 n, .string nm, .int .i64 ty, va, vc] 50)).cell? ⟨w.heap.size + 1, i, none⟩ = some v := by
  rw [World.cell?_alloc_at _ _ _ _ (by simp)]; exact h
theorem box2' (w : World) (vd vf : Value) (o2 : Obj) (i : Nat) {v : Value} (h : (#[vd, vf] : Array Value)[i]? = some v) :
    ((w.alloc (.cells #[vd, vf] 25)).alloc o2).cell? ⟨w.heap.size, i, none⟩ = some v :=
  (Ext.al _ o2).keep (newCell w #[vd, vf] 25 i h)
theorem has_op {o : Int} (k : Nat) (t : Tm) (va vc : Value) (hop : t.op = o) (a b c : Bool) (n m : Int) (w : World) (h : RT w k t va vc) :
    Calls Tryz.prog 149 #[.agg #[.int .i64 o, .int .i64 t.n, .string t.nm, .int .i64 t.ty, va, vc], fldV a b c n m] w fun e w' => e = .returned (.bool (hasF t a b c n m)) /\ Ext w w' := by
  subst hop; exact has_any k t va vc a b c n m w h
theorem fitsXtor_op {o : Int} (vd vf : Value) (P : Pg) (k : Nat) (t : Tm) (va vc : Value) (hop : t.op = o) (w : World) (h : RDecls w vd P.decls) (ht : RT w k t va vc) (hty : 1 <= t.ty /\ t.ty <= P.decls.length) :
    Calls Tryz.prog 151 #[pV vd vf, .agg #[.int .i64 o, .int .i64 t.n, .string t.nm, .int .i64 t.ty, va, vc]] w fun e w' => e = .returned (.bool (fitsXB P t)) /\ Ext w w' := by
  subst hop; exact fitsXtor_any vd vf P k t va vc w h ht hty
theorem fitsClauses_op {o : Int} (vd vf : Value) (P : Pg) (k : Nat) (t : Tm) (va vc : Value) (hop : t.op = o) (na : Int) (w : World) (h : RDecls w vd P.decls) (ht : RT w k t va vc) (hty : 1 <= t.ty /\ t.ty <= P.decls.length) :
    Calls Tryz.prog 152 #[pV vd vf, .agg #[.int .i64 o, .int .i64 t.n, .string t.nm, .int .i64 t.ty, va, vc], .int .i64 na] w fun e w' => e = .returned (.bool (fitsCB P t na)) /\ Ext w w' := by
  subst hop; exact fitsClauses_any vd vf P k t va vc na w h ht hty
theorem isDecl_ok {P : Pg} {ty : Int} {co : Bool} (h : isDeclB P ty co = true) : 1 <= ty /\ ty <= P.decls.length := by
  unfold isDeclB at h
  simp at h
  exact ⟨h.1.1, h.1.2⟩
set_option maxHeartbeats 4000000 in
theorem fits_0 (vd vf : Value) (P : Pg) (k : Nat) (t : Tm) (va vc : Value) (w : World) (hd : RDecls w vd P.decls) (ht : RT w k t va vc) (hop : t.op = 0) :
    Calls Tryz.prog 131 #[pV vd vf, tV t va vc] w fun e w' => e = .returned (.bool (hasF t false true false 0 0)) /\ Ext w w' := by
  have HT := LH ht
  have HD := LH hd
  obtain ⟨_, ⟨Aa, ca, rfl, hca, hma⟩, ⟨Bb, cb, rfl, hcb, hmb⟩⟩ := ht.form
  clear ht hd
  have HE : Hid (Ext w ((w.alloc (.cells #[vd, vf] 25)).alloc (.cells #[.int .i64 t.op, .int .i64 t.n, .string t.nm, .int .i64 t.ty, .slice Aa t.args.length ca, .slice Bb t.cls.length cb] 50))) := (Ext.al _ _).tr (Ext.al _ _)
  have HT2 := LH (HT.out.below HE.out)
  have HD2 := LH (HD.out.below HE.out)
  have HOP := LH hop
  rw [hop] at HE HT2 HD2
  go_enter Tryz.func131, Tryz.ntmps131
  go_wp2_with fail
  (with_reducible refine (has_op k t _ _ HOP.out false true false 0 0 _ HT2.out).mono ?_)
  rintro e w2 ⟨rfl, hb2⟩
  have HE2 := LH (HE.out.tr hb2)
  clear hb2
  go_wp2
  go_ret
  exact ⟨rfl, HE2.out⟩
set_option maxHeartbeats 4000000 in
theorem fits_1 (vd vf : Value) (P : Pg) (k : Nat) (t : Tm) (va vc : Value) (w : World) (hd : RDecls w vd P.decls) (ht : RT w k t va vc) (hop : t.op = 1) :
    Calls Tryz.prog 131 #[pV vd vf, tV t va vc] w fun e w' => e = .returned (.bool (hasF t true false false 0 0)) /\ Ext w w' := by
  have HT := LH ht
  have HD := LH hd
  obtain ⟨_, ⟨Aa, ca, rfl, hca, hma⟩, ⟨Bb, cb, rfl, hcb, hmb⟩⟩ := ht.form
  clear ht hd
  have HE : Hid (Ext w ((w.alloc (.cells #[vd, vf] 25)).alloc (.cells #[.int .i64 t.op, .int .i64 t.n, .string t.nm, .int .i64 t.ty, .slice Aa t.args.length ca, .slice Bb t.cls.length cb] 50))) := (Ext.al _ _).tr (Ext.al _ _)
  have HT2 := LH (HT.out.below HE.out)
  have HD2 := LH (HD.out.below HE.out)
  have HOP := LH hop
  rw [hop] at HE HT2 HD2
  go_enter Tryz.func131, Tryz.ntmps131
  go_wp2_with fail
  (with_reducible refine (has_op k t _ _ HOP.out true false false 0 0 _ HT2.out).mono ?_)
  rintro e w2 ⟨rfl, hb2⟩
  have HE2 := LH (HE.out.tr hb2)
  clear hb2
  go_wp2
  go_ret
  exact ⟨rfl, HE2.out⟩
set_option maxHeartbeats 4000000 in
theorem fits_3 (vd vf : Value) (P : Pg) (k : Nat) (t : Tm) (va vc : Value) (w : World) (hd : RDecls w vd P.decls) (ht : RT w k t va vc) (hop : t.op = 3) :
    Calls Tryz.prog 131 #[pV vd vf, tV t va vc] w fun e w' => e = .returned (.bool (hasF t false false false 3 0)) /\ Ext w w' := by
  have HT := LH ht
  have HD := LH hd
  obtain ⟨_, ⟨Aa, ca, rfl, hca, hma⟩, ⟨Bb, cb, rfl, hcb, hmb⟩⟩ := ht.form
  clear ht hd
  have HE : Hid (Ext w ((w.alloc (.cells #[vd, vf] 25)).alloc (.cells #[.int .i64 t.op, .int .i64 t.n, .string t.nm, .int .i64 t.ty, .slice Aa t.args.length ca, .slice Bb t.cls.length cb] 50))) := (Ext.al _ _).tr (Ext.al _ _)
  have HT2 := LH (HT.out.below HE.out)
  have HD2 := LH (HD.out.below HE.out)
  have HOP := LH hop
  rw [hop] at HE HT2 HD2
  go_enter Tryz.func131, Tryz.ntmps131
  go_wp2_with fail
  (with_reducible refine (has_op k t _ _ HOP.out false false false 3 0 _ HT2.out).mono ?_)
  rintro e w2 ⟨rfl, hb2⟩
  have HE2 := LH (HE.out.tr hb2)
  clear hb2
  go_wp2
  go_ret
  exact ⟨rfl, HE2.out⟩
set_option maxHeartbeats 4000000 in
theorem fits_10 (vd vf : Value) (P : Pg) (k : Nat) (t : Tm) (va vc : Value) (w : World) (hd : RDecls w vd P.decls) (ht : RT w k t va vc) (hop : t.op = 10) :
    Calls Tryz.prog 131 #[pV vd vf, tV t va vc] w fun e w' => e = .returned (.bool (hasF t false false false 2 0)) /\ Ext w w' := by
  have HT := LH ht
  have HD := LH hd
  obtain ⟨_, ⟨Aa, ca, rfl, hca, hma⟩, ⟨Bb, cb, rfl, hcb, hmb⟩⟩ := ht.form
  clear ht hd
  have HE : Hid (Ext w ((w.alloc (.cells #[vd, vf] 25)).alloc (.cells #[.int .i64 t.op, .int .i64 t.n, .string t.nm, .int .i64 t.ty, .slice Aa t.args.length ca, .slice Bb t.cls.length cb] 50))) := (Ext.al _ _).tr (Ext.al _ _)
  have HT2 := LH (HT.out.below HE.out)
  have HD2 := LH (HD.out.below HE.out)
  have HOP := LH hop
  rw [hop] at HE HT2 HD2
  go_enter Tryz.func131, Tryz.ntmps131
  go_wp2_with fail
  (with_reducible refine (has_op k t _ _ HOP.out false false false 2 0 _ HT2.out).mono ?_)
  rintro e w2 ⟨rfl, hb2⟩
  have HE2 := LH (HE.out.tr hb2)
  clear hb2
  go_wp2
  go_ret
  exact ⟨rfl, HE2.out⟩
set_option maxHeartbeats 4000000 in
theorem fits_2 (vd vf : Value) (P : Pg) (k : Nat) (t : Tm) (va vc : Value) (w : World) (hd : RDecls w vd P.decls) (ht : RT w k t va vc) (hop : t.op = 2) :
    Calls Tryz.prog 131 #[pV vd vf, tV t va vc] w fun e w' => e = .returned (.bool (hasF t true false false 2 0 && decide (0 <= t.n) && decide (t.n <= 6))) /\ Ext w w' := by
  have HT := LH ht
  have HD := LH hd
  obtain ⟨_, ⟨Aa, ca, rfl, hca, hma⟩, ⟨Bb, cb, rfl, hcb, hmb⟩⟩ := ht.form
  clear ht hd
  have HE : Hid (Ext w ((w.alloc (.cells #[vd, vf] 25)).alloc (.cells #[.int .i64 t.op, .int .i64 t.n, .string t.nm, .int .i64 t.ty, .slice Aa t.args.length ca, .slice Bb t.cls.length cb] 50))) := (Ext.al _ _).tr (Ext.al _ _)
  have HT2 := LH (HT.out.below HE.out)
  have HD2 := LH (HD.out.below HE.out)
  have HOP := LH hop
  rw [hop] at HE HT2 HD2
  have n1 := box6' w (.cells #[vd, vf] 25) 2 t.n t.ty t.nm (.slice Aa t.args.length ca) (.slice Bb t.cls.length cb) 1 rfl
  go_enter Tryz.func131, Tryz.ntmps131
  go_wp2_with fail
  generalize (w.alloc _).alloc _ = w1 at *
  (with_reducible refine (has_op k t _ _ HOP.out true false false 2 0 _ HT2.out).mono ?_)
  rintro e w2 ⟨rfl, hb2⟩
  have n1 := hb2.keep n1
  have HE2 := LH (HE.out.tr hb2)
  clear hb2 hop
  cases hq : hasF t true false false 2 0
  . have HQ := LH hq
    clear hq
    go_wp2
    go_ret
    exact ⟨rB (by first | rfl | rw [HQ.out]; rfl), HE2.out⟩
  . have HQ := LH hq
    clear hq
    cases q0 : decide (0 <= t.n)
    all_goals
      go_wp2
      go_ret
      exact ⟨rB (by first | rfl | (rw [HQ.out]; simp [q0]) | (rw [HQ.out, q0]; simp)), HE2.out⟩
set_option maxHeartbeats 4000000 in
theorem fits_4 (vd vf : Value) (P : Pg) (k : Nat) (t : Tm) (va vc : Value) (w : World) (hd : RDecls w vd P.decls) (ht : RT w k t va vc) (hop : t.op = 4) :
    Calls Tryz.prog 131 #[pV vd vf, tV t va vc] w fun e w' => e = .returned (.bool (isDeclB P t.ty false && fitsXB P t)) /\ Ext w w' := by
  have HT := LH ht
  have HD := LH hd
  obtain ⟨_, ⟨Aa, ca, rfl, hca, hma⟩, ⟨Bb, cb, rfl, hcb, hmb⟩⟩ := ht.form
  clear ht hd
  have HE : Hid (Ext w ((w.alloc (.cells #[vd, vf] 25)).alloc (.cells #[.int .i64 t.op, .int .i64 t.n, .string t.nm, .int .i64 t.ty, .slice Aa t.args.length ca, .slice Bb t.cls.length cb] 50))) := (Ext.al _ _).tr (Ext.al _ _)
  have HT2 := LH (HT.out.below HE.out)
  have HD2 := LH (HD.out.below HE.out)
  have HOP := LH hop
  rw [hop] at HE HT2 HD2
  have n0 := box6' w (.cells #[vd, vf] 25) 4 t.n t.ty t.nm (.slice Aa t.args.length ca) (.slice Bb t.cls.length cb) 0 rfl
  have n1 := box6' w (.cells #[vd, vf] 25) 4 t.n t.ty t.nm (.slice Aa t.args.length ca) (.slice Bb t.cls.length cb) 1 rfl
  have n2 := box6' w (.cells #[vd, vf] 25) 4 t.n t.ty t.nm (.slice Aa t.args.length ca) (.slice Bb t.cls.length cb) 2 rfl
  have n3 := box6' w (.cells #[vd, vf] 25) 4 t.n t.ty t.nm (.slice Aa t.args.length ca) (.slice Bb t.cls.length cb) 3 rfl
  have n4 := box6' w (.cells #[vd, vf] 25) 4 t.n t.ty t.nm (.slice Aa t.args.length ca) (.slice Bb t.cls.length cb) 4 rfl
  have n5 := box6' w (.cells #[vd, vf] 25) 4 t.n t.ty t.nm (.slice Aa t.args.length ca) (.slice Bb t.cls.length cb) 5 rfl
  have p0 := box2' w vd vf (.cells #[.int .i64 4, .int .i64 t.n, .string t.nm, .int .i64 t.ty, .slice Aa t.args.length ca, .slice Bb t.cls.length cb] 50) 0 rfl
  have p1 := box2' w vd vf (.cells #[.int .i64 4, .int .i64 t.n, .string t.nm, .int .i64 t.ty, .slice Aa t.args.length ca, .slice Bb t.cls.length cb] 50) 1 rfl
  go_enter Tryz.func131, Tryz.ntmps131
  go_wp2_with fail
  generalize (w.alloc _).alloc _ = w1 at *
  (with_reducible refine (isDeclared_any vd vf P t.ty false _ HD2.out).mono ?_)
  rintro e w2 ⟨rfl, hb2⟩
  have n0 := hb2.keep n0
  have n1 := hb2.keep n1
  have n2 := hb2.keep n2
  have n3 := hb2.keep n3
  have n4 := hb2.keep n4
  have n5 := hb2.keep n5
  have p0 := hb2.keep p0
  have p1 := hb2.keep p1
  have HE2 := LH (HE.out.tr hb2)
  have HT3 := LH (HT2.out.below hb2)
  have HD3 := LH (HD2.out.below hb2)
  clear hb2 hop
  cases hq : isDeclB P t.ty false
  . have HQ0 := LH hq
    clear hq
    go_wp2
    go_ret
    exact ⟨rB (by first | rfl | (rw [HQ0.out]; rfl)), HE2.out⟩
  . have HQ := LH (isDecl_ok hq)
    have HQ0 := LH hq
    clear hq
    go_wp2_with fail
    (with_reducible refine (fitsXtor_op vd vf P k t _ _ HOP.out _ HD3.out HT3.out HQ.out).mono ?_)
    rintro e w3 ⟨rfl, hb3⟩
    have HE3 := LH (HE2.out.tr hb3)
    clear hb3
    go_wp2
    go_ret
    exact ⟨rB (by first | rfl | (rw [HQ0.out]; rfl)), HE3.out⟩
set_option maxHeartbeats 4000000 in
theorem fits_6 (vd vf : Value) (P : Pg) (k : Nat) (t : Tm) (va vc : Value) (w : World) (hd : RDecls w vd P.decls) (ht : RT w k t va vc) (hop : t.op = 6) :
    Calls Tryz.prog 131 #[pV vd vf, tV t va vc] w fun e w' => e = .returned (.bool (isDeclB P t.ty true && fitsXB P t)) /\ Ext w w' := by
  have HT := LH ht
  have HD := LH hd
  obtain ⟨_, ⟨Aa, ca, rfl, hca, hma⟩, ⟨Bb, cb, rfl, hcb, hmb⟩⟩ := ht.form
  clear ht hd
  have HE : Hid (Ext w ((w.alloc (.cells #[vd, vf] 25)).alloc (.cells #[.int .i64 t.op, .int .i64 t.n, .string t.nm, .int .i64 t.ty, .slice Aa t.args.length ca, .slice Bb t.cls.length cb] 50))) := (Ext.al _ _).tr (Ext.al _ _)
  have HT2 := LH (HT.out.below HE.out)
  have HD2 := LH (HD.out.below HE.out)
  have HOP := LH hop
  rw [hop] at HE HT2 HD2
  have n0 := box6' w (.cells #[vd, vf] 25) 6 t.n t.ty t.nm (.slice Aa t.args.length ca) (.slice Bb t.cls.length cb) 0 rfl
  have n1 := box6' w (.cells #[vd, vf] 25) 6 t.n t.ty t.nm (.slice Aa t.args.length ca) (.slice Bb t.cls.length cb) 1 rfl
  have n2 := box6' w (.cells #[vd, vf] 25) 6 t.n t.ty t.nm (.slice Aa t.args.length ca) (.slice Bb t.cls.length cb) 2 rfl
  have n3 := box6' w (.cells #[vd, vf] 25) 6 t.n t.ty t.nm (.slice Aa t.args.length ca) (.slice Bb t.cls.length cb) 3 rfl
  have n4 := box6' w (.cells #[vd, vf] 25) 6 t.n t.ty t.nm (.slice Aa t.args.length ca) (.slice Bb t.cls.length cb) 4 rfl
  have n5 := box6' w (.cells #[vd, vf] 25) 6 t.n t.ty t.nm (.slice Aa t.args.length ca) (.slice Bb t.cls.length cb) 5 rfl
  have p0 := box2' w vd vf (.cells #[.int .i64 6, .int .i64 t.n, .string t.nm, .int .i64 t.ty, .slice Aa t.args.length ca, .slice Bb t.cls.length cb] 50) 0 rfl
  have p1 := box2' w vd vf (.cells #[.int .i64 6, .int .i64 t.n, .string t.nm, .int .i64 t.ty, .slice Aa t.args.length ca, .slice Bb t.cls.length cb] 50) 1 rfl
  go_enter Tryz.func131, Tryz.ntmps131
  go_wp2_with fail
  generalize (w.alloc _).alloc _ = w1 at *
  (with_reducible refine (isDeclared_any vd vf P t.ty true _ HD2.out).mono ?_)
  rintro e w2 ⟨rfl, hb2⟩
  have n0 := hb2.keep n0
  have n1 := hb2.keep n1
  have n2 := hb2.keep n2
  have n3 := hb2.keep n3
  have n4 := hb2.keep n4
  have n5 := hb2.keep n5
  have p0 := hb2.keep p0
  have p1 := hb2.keep p1
  have HE2 := LH (HE.out.tr hb2)
  have HT3 := LH (HT2.out.below hb2)
  have HD3 := LH (HD2.out.below hb2)
  clear hb2 hop
  cases hq : isDeclB P t.ty true
  . have HQ0 := LH hq
    clear hq
    go_wp2
    go_ret
    exact ⟨rB (by first | rfl | (rw [HQ0.out]; rfl)), HE2.out⟩
  . have HQ := LH (isDecl_ok hq)
    have HQ0 := LH hq
    clear hq
    go_wp2_with fail
    (with_reducible refine (fitsXtor_op vd vf P k t _ _ HOP.out _ HD3.out HT3.out HQ.out).mono ?_)
    rintro e w3 ⟨rfl, hb3⟩
    have HE3 := LH (HE2.out.tr hb3)
    clear hb3
    go_wp2
    go_ret
    exact ⟨rB (by first | rfl | (rw [HQ0.out]; rfl)), HE3.out⟩
set_option maxHeartbeats 4000000 in
theorem fits_5 (vd vf : Value) (P : Pg) (k : Nat) (t : Tm) (va vc : Value) (w : World) (hd : RDecls w vd P.decls) (ht : RT w k t va vc) (hop : t.op = 5) :
    Calls Tryz.prog 131 #[pV vd vf, tV t va vc] w fun e w' => e = .returned (.bool (isDeclB P t.ty false && fitsCB P t 1)) /\ Ext w w' := by
  have HT := LH ht
  have HD := LH hd
  obtain ⟨_, ⟨Aa, ca, rfl, hca, hma⟩, ⟨Bb, cb, rfl, hcb, hmb⟩⟩ := ht.form
  clear ht hd
  have HE : Hid (Ext w ((w.alloc (.cells #[vd, vf] 25)).alloc (.cells #[.int .i64 t.op, .int .i64 t.n, .string t.nm, .int .i64 t.ty, .slice Aa t.args.length ca, .slice Bb t.cls.length cb] 50))) := (Ext.al _ _).tr (Ext.al _ _)
  have HT2 := LH (HT.out.below HE.out)
  have HD2 := LH (HD.out.below HE.out)
  have HOP := LH hop
  rw [hop] at HE HT2 HD2
  have n0 := box6' w (.cells #[vd, vf] 25) 5 t.n t.ty t.nm (.slice Aa t.args.length ca) (.slice Bb t.cls.length cb) 0 rfl
  have n1 := box6' w (.cells #[vd, vf] 25) 5 t.n t.ty t.nm (.slice Aa t.args.length ca) (.slice Bb t.cls.length cb) 1 rfl
  have n2 := box6' w (.cells #[vd, vf] 25) 5 t.n t.ty t.nm (.slice Aa t.args.length ca) (.slice Bb t.cls.length cb) 2 rfl
  have n3 := box6' w (.cells #[vd, vf] 25) 5 t.n t.ty t.nm (.slice Aa t.args.length ca) (.slice Bb t.cls.length cb) 3 rfl
  have n4 := box6' w (.cells #[vd, vf] 25) 5 t.n t.ty t.nm (.slice Aa t.args.length ca) (.slice Bb t.cls.length cb) 4 rfl
  have n5 := box6' w (.cells #[vd, vf] 25) 5 t.n t.ty t.nm (.slice Aa t.args.length ca) (.slice Bb t.cls.length cb) 5 rfl
  have p0 := box2' w vd vf (.cells #[.int .i64 5, .int .i64 t.n, .string t.nm, .int .i64 t.ty, .slice Aa t.args.length ca, .slice Bb t.cls.length cb] 50) 0 rfl
  have p1 := box2' w vd vf (.cells #[.int .i64 5, .int .i64 t.n, .string t.nm, .int .i64 t.ty, .slice Aa t.args.length ca, .slice Bb t.cls.length cb] 50) 1 rfl
  go_enter Tryz.func131, Tryz.ntmps131
  go_wp2_with fail
  generalize (w.alloc _).alloc _ = w1 at *
  (with_reducible refine (isDeclared_any vd vf P t.ty false _ HD2.out).mono ?_)
  rintro e w2 ⟨rfl, hb2⟩
  have n0 := hb2.keep n0
  have n1 := hb2.keep n1
  have n2 := hb2.keep n2
  have n3 := hb2.keep n3
  have n4 := hb2.keep n4
  have n5 := hb2.keep n5
  have p0 := hb2.keep p0
  have p1 := hb2.keep p1
  have HE2 := LH (HE.out.tr hb2)
  have HT3 := LH (HT2.out.below hb2)
  have HD3 := LH (HD2.out.below hb2)
  clear hb2 hop
  cases hq : isDeclB P t.ty false
  . have HQ0 := LH hq
    clear hq
    go_wp2
    go_ret
    exact ⟨rB (by first | rfl | (rw [HQ0.out]; rfl)), HE2.out⟩
  . have HQ := LH (isDecl_ok hq)
    have HQ0 := LH hq
    clear hq
    go_wp2_with fail
    (with_reducible refine (fitsClauses_op vd vf P k t _ _ HOP.out 1 _ HD3.out HT3.out HQ.out).mono ?_)
    rintro e w3 ⟨rfl, hb3⟩
    have HE3 := LH (HE2.out.tr hb3)
    clear hb3
    go_wp2
    go_ret
    exact ⟨rB (by first | rfl | (rw [HQ0.out]; rfl)), HE3.out⟩
set_option maxHeartbeats 4000000 in
theorem fits_7 (vd vf : Value) (P : Pg) (k : Nat) (t : Tm) (va vc : Value) (w : World) (hd : RDecls w vd P.decls) (ht : RT w k t va vc) (hop : t.op = 7) :
    Calls Tryz.prog 131 #[pV vd vf, tV t va vc] w fun e w' => e = .returned (.bool (isDeclB P t.ty true && fitsCB P t 0)) /\ Ext w w' := by
  have HT := LH ht
  have HD := LH hd
  obtain ⟨_, ⟨Aa, ca, rfl, hca, hma⟩, ⟨Bb, cb, rfl, hcb, hmb⟩⟩ := ht.form
  clear ht hd
  have HE : Hid (Ext w ((w.alloc (.cells #[vd, vf] 25)).alloc (.cells #[.int .i64 t.op, .int .i64 t.n, .string t.nm, .int .i64 t.ty, .slice Aa t.args.length ca, .slice Bb t.cls.length cb] 50))) := (Ext.al _ _).tr (Ext.al _ _)
  have HT2 := LH (HT.out.below HE.out)
  have HD2 := LH (HD.out.below HE.out)
  have HOP := LH hop
  rw [hop] at HE HT2 HD2
  have n0 := box6' w (.cells #[vd, vf] 25) 7 t.n t.ty t.nm (.slice Aa t.args.length ca) (.slice Bb t.cls.length cb) 0 rfl
  have n1 := box6' w (.cells #[vd, vf] 25) 7 t.n t.ty t.nm (.slice Aa t.args.length ca) (.slice Bb t.cls.length cb) 1 rfl
  have n2 := box6' w (.cells #[vd, vf] 25) 7 t.n t.ty t.nm (.slice Aa t.args.length ca) (.slice Bb t.cls.length cb) 2 rfl
  have n3 := box6' w (.cells #[vd, vf] 25) 7 t.n t.ty t.nm (.slice Aa t.args.length ca) (.slice Bb t.cls.length cb) 3 rfl
  have n4 := box6' w (.cells #[vd, vf] 25) 7 t.n t.ty t.nm (.slice Aa t.args.length ca) (.slice Bb t.cls.length cb) 4 rfl
  have n5 := box6' w (.cells #[vd, vf] 25) 7 t.n t.ty t.nm (.slice Aa t.args.length ca) (.slice Bb t.cls.length cb) 5 rfl
  have p0 := box2' w vd vf (.cells #[.int .i64 7, .int .i64 t.n, .string t.nm, .int .i64 t.ty, .slice Aa t.args.length ca, .slice Bb t.cls.length cb] 50) 0 rfl
  have p1 := box2' w vd vf (.cells #[.int .i64 7, .int .i64 t.n, .string t.nm, .int .i64 t.ty, .slice Aa t.args.length ca, .slice Bb t.cls.length cb] 50) 1 rfl
  go_enter Tryz.func131, Tryz.ntmps131
  go_wp2_with fail
  generalize (w.alloc _).alloc _ = w1 at *
  (with_reducible refine (isDeclared_any vd vf P t.ty true _ HD2.out).mono ?_)
  rintro e w2 ⟨rfl, hb2⟩
  have n0 := hb2.keep n0
  have n1 := hb2.keep n1
  have n2 := hb2.keep n2
  have n3 := hb2.keep n3
  have n4 := hb2.keep n4
  have n5 := hb2.keep n5
  have p0 := hb2.keep p0
  have p1 := hb2.keep p1
  have HE2 := LH (HE.out.tr hb2)
  have HT3 := LH (HT2.out.below hb2)
  have HD3 := LH (HD2.out.below hb2)
  clear hb2 hop
  cases hq : isDeclB P t.ty true
  . have HQ0 := LH hq
    clear hq
    go_wp2
    go_ret
    exact ⟨rB (by first | rfl | (rw [HQ0.out]; rfl)), HE2.out⟩
  . have HQ := LH (isDecl_ok hq)
    have HQ0 := LH hq
    clear hq
    go_wp2_with fail
    (with_reducible refine (fitsClauses_op vd vf P k t _ _ HOP.out 0 _ HD3.out HT3.out HQ.out).mono ?_)
    rintro e w3 ⟨rfl, hb3⟩
    have HE3 := LH (HE2.out.tr hb3)
    clear hb3
    go_wp2
    go_ret
    exact ⟨rB (by first | rfl | (rw [HQ0.out]; rfl)), HE3.out⟩
set_option maxHeartbeats 4000000 in
theorem fits_8 (vd vf : Value) (P : Pg) (k : Nat) (t : Tm) (va vc : Value) (w : World) (hd : RDecls w vd P.decls) (ht : RT w k t va vc) (hop : t.op = 8) :
    Calls Tryz.prog 131 #[pV vd vf, tV t va vc] w fun e w' => e = .returned (.bool (hasF t false true true 2 0 && isTypeB P t.ty)) /\ Ext w w' := by
  have HT := LH ht
  have HD := LH hd
  obtain ⟨_, ⟨Aa, ca, rfl, hca, hma⟩, ⟨Bb, cb, rfl, hcb, hmb⟩⟩ := ht.form
  clear ht hd
  have HE : Hid (Ext w ((w.alloc (.cells #[vd, vf] 25)).alloc (.cells #[.int .i64 t.op, .int .i64 t.n, .string t.nm, .int .i64 t.ty, .slice Aa t.args.length ca, .slice Bb t.cls.length cb] 50))) := (Ext.al _ _).tr (Ext.al _ _)
  have HT2 := LH (HT.out.below HE.out)
  have HD2 := LH (HD.out.below HE.out)
  have HOP := LH hop
  rw [hop] at HE HT2 HD2
  have n3 := box6' w (.cells #[vd, vf] 25) 8 t.n t.ty t.nm (.slice Aa t.args.length ca) (.slice Bb t.cls.length cb) 3 rfl
  have p0 := box2' w vd vf (.cells #[.int .i64 8, .int .i64 t.n, .string t.nm, .int .i64 t.ty, .slice Aa t.args.length ca, .slice Bb t.cls.length cb] 50) 0 rfl
  have p1 := box2' w vd vf (.cells #[.int .i64 8, .int .i64 t.n, .string t.nm, .int .i64 t.ty, .slice Aa t.args.length ca, .slice Bb t.cls.length cb] 50) 1 rfl
  go_enter Tryz.func131, Tryz.ntmps131
  go_wp2_with fail
  generalize (w.alloc _).alloc _ = w1 at *
  (with_reducible refine (has_op k t _ _ HOP.out false true true 2 0 _ HT2.out).mono ?_)
  rintro e w2 ⟨rfl, hb2⟩
  have n3 := hb2.keep n3
  have p0 := hb2.keep p0
  have p1 := hb2.keep p1
  have HE2 := LH (HE.out.tr hb2)
  have HD3 := LH (HD2.out.below hb2)
  clear hb2 hop
  cases hq : hasF t false true true 2 0
  . have HQ0 := LH hq
    clear hq
    go_wp2
    go_ret
    exact ⟨rB (by first | rfl | (rw [HQ0.out]; rfl)), HE2.out⟩
  . have HQ0 := LH hq
    clear hq
    go_wp2_with fail
    (with_reducible refine (isType_any vd vf P t.ty _ HD3.out).mono ?_)
    rintro e w3 ⟨rfl, hb3⟩
    have HE3 := LH (HE2.out.tr hb3)
    clear hb3
    go_wp2
    go_ret
    exact ⟨rB (by first | rfl | (rw [HQ0.out]; rfl)), HE3.out⟩
set_option maxHeartbeats 4000000 in
theorem fits_11 (vd vf : Value) (P : Pg) (k : Nat) (t : Tm) (va vc : Value) (w : World) (hd : RDecls w vd P.decls) (ht : RT w k t va vc) (hop : t.op = 11) :
    Calls Tryz.prog 131 #[pV vd vf, tV t va vc] w fun e w' => e = .returned (.bool (hasF t false true true 1 0 && isTypeB P t.ty)) /\ Ext w w' := by
  have HT := LH ht
  have HD := LH hd
  obtain ⟨_, ⟨Aa, ca, rfl, hca, hma⟩, ⟨Bb, cb, rfl, hcb, hmb⟩⟩ := ht.form
  clear ht hd
  have HE : Hid (Ext w ((w.alloc (.cells #[vd, vf] 25)).alloc (.cells #[.int .i64 t.op, .int .i64 t.n, .string t.nm, .int .i64 t.ty, .slice Aa t.args.length ca, .slice Bb t.cls.length cb] 50))) := (Ext.al _ _).tr (Ext.al _ _)
  have HT2 := LH (HT.out.below HE.out)
  have HD2 := LH (HD.out.below HE.out)
  have HOP := LH hop
  rw [hop] at HE HT2 HD2
  have n3 := box6' w (.cells #[vd, vf] 25) 11 t.n t.ty t.nm (.slice Aa t.args.length ca) (.slice Bb t.cls.length cb) 3 rfl
  have p0 := box2' w vd vf (.cells #[.int .i64 11, .int .i64 t.n, .string t.nm, .int .i64 t.ty, .slice Aa t.args.length ca, .slice Bb t.cls.length cb] 50) 0 rfl
  have p1 := box2' w vd vf (.cells #[.int .i64 11, .int .i64 t.n, .string t.nm, .int .i64 t.ty, .slice Aa t.args.length ca, .slice Bb t.cls.length cb] 50) 1 rfl
  go_enter Tryz.func131, Tryz.ntmps131
  go_wp2_with fail
  generalize (w.alloc _).alloc _ = w1 at *
  (with_reducible refine (has_op k t _ _ HOP.out false true true 1 0 _ HT2.out).mono ?_)
  rintro e w2 ⟨rfl, hb2⟩
  have n3 := hb2.keep n3
  have p0 := hb2.keep p0
  have p1 := hb2.keep p1
  have HE2 := LH (HE.out.tr hb2)
  have HD3 := LH (HD2.out.below hb2)
  clear hb2 hop
  cases hq : hasF t false true true 1 0
  . have HQ0 := LH hq
    clear hq
    go_wp2
    go_ret
    exact ⟨rB (by first | rfl | (rw [HQ0.out]; rfl)), HE2.out⟩
  . have HQ0 := LH hq
    clear hq
    go_wp2_with fail
    (with_reducible refine (isType_any vd vf P t.ty _ HD3.out).mono ?_)
    rintro e w3 ⟨rfl, hb3⟩
    have HE3 := LH (HE2.out.tr hb3)
    clear hb3
    go_wp2
    go_ret
    exact ⟨rB (by first | rfl | (rw [HQ0.out]; rfl)), HE3.out⟩
set_option maxHeartbeats 4000000 in
theorem fits_12 (vd vf : Value) (P : Pg) (k : Nat) (t : Tm) (va vc : Value) (w : World) (hd : RDecls w vd P.decls) (ht : RT w k t va vc) (hop : t.op = 12) :
    Calls Tryz.prog 131 #[pV vd vf, tV t va vc] w fun e w' => e = .returned (.bool (hasF t false true true 1 0 && isTypeB P t.ty)) /\ Ext w w' := by
  have HT := LH ht
  have HD := LH hd
  obtain ⟨_, ⟨Aa, ca, rfl, hca, hma⟩, ⟨Bb, cb, rfl, hcb, hmb⟩⟩ := ht.form
  clear ht hd
  have HE : Hid (Ext w ((w.alloc (.cells #[vd, vf] 25)).alloc (.cells #[.int .i64 t.op, .int .i64 t.n, .string t.nm, .int .i64 t.ty, .slice Aa t.args.length ca, .slice Bb t.cls.length cb] 50))) := (Ext.al _ _).tr (Ext.al _ _)
  have HT2 := LH (HT.out.below HE.out)
  have HD2 := LH (HD.out.below HE.out)
  have HOP := LH hop
  rw [hop] at HE HT2 HD2
  have n3 := box6' w (.cells #[vd, vf] 25) 12 t.n t.ty t.nm (.slice Aa t.args.length ca) (.slice Bb t.cls.length cb) 3 rfl
  have p0 := box2' w vd vf (.cells #[.int .i64 12, .int .i64 t.n, .string t.nm, .int .i64 t.ty, .slice Aa t.args.length ca, .slice Bb t.cls.length cb] 50) 0 rfl
  have p1 := box2' w vd vf (.cells #[.int .i64 12, .int .i64 t.n, .string t.nm, .int .i64 t.ty, .slice Aa t.args.length ca, .slice Bb t.cls.length cb] 50) 1 rfl
  go_enter Tryz.func131, Tryz.ntmps131
  go_wp2_with fail
  generalize (w.alloc _).alloc _ = w1 at *
  (with_reducible refine (has_op k t _ _ HOP.out false true true 1 0 _ HT2.out).mono ?_)
  rintro e w2 ⟨rfl, hb2⟩
  have n3 := hb2.keep n3
  have p0 := hb2.keep p0
  have p1 := hb2.keep p1
  have HE2 := LH (HE.out.tr hb2)
  have HD3 := LH (HD2.out.below hb2)
  clear hb2 hop
  cases hq : hasF t false true true 1 0
  . have HQ0 := LH hq
    clear hq
    go_wp2
    go_ret
    exact ⟨rB (by first | rfl | (rw [HQ0.out]; rfl)), HE2.out⟩
  . have HQ0 := LH hq
    clear hq
    go_wp2_with fail
    (with_reducible refine (isType_any vd vf P t.ty _ HD3.out).mono ?_)
    rintro e w3 ⟨rfl, hb3⟩
    have HE3 := LH (HE2.out.tr hb3)
    clear hb3
    go_wp2
    go_ret
    exact ⟨rB (by first | rfl | (rw [HQ0.out]; rfl)), HE3.out⟩
end Go.Proofs.YtkdglplfcpindaaGreatDoor

namespace Go.Proofs.YtkdglplfcpindaaGreatDoor
open Go.RowKit
set_option maxHeartbeats 4000000 in
theorem fits_9 (vd vf : Value) (P : Pg) (k : Nat) (t : Tm) (va vc : Value) (w : World) (hf : RFns w vf P.funs) (ht : RT w k t va vc) (hop : t.op = 9) :
    Calls Tryz.prog 131 #[pV vd vf, tV t va vc] w fun e w' => e = .returned (.bool (isIdxB t.n P.funs.length && hasF t true false false (P.funs.getD t.n.toNat noFn).ps.length 0)) /\ Ext w w' := by
  have HT := LH ht
  have HF := LH hf
  obtain ⟨_, ⟨Aa, ca, rfl, hca, hma⟩, ⟨Bb, cb, rfl, hcb, hmb⟩⟩ := ht.form
  obtain ⟨Af, cf, rfl, hcf, hmf⟩ := hf.form
  clear ht hf
  have HE : Hid (Ext w ((w.alloc (.cells #[vd, .slice Af P.funs.length cf] 25)).alloc (.cells #[.int .i64 t.op, .int .i64 t.n, .string t.nm, .int .i64 t.ty, .slice Aa t.args.length ca, .slice Bb t.cls.length cb] 50))) := (Ext.al _ _).tr (Ext.al _ _)
  have HT2 := LH (HT.out.below HE.out)
  have HF2 := LH (HF.out.below HE.out)
  have HOP := LH hop
  rw [hop] at HE HT2 HF2
  have n0 := box6' w (.cells #[vd, .slice Af P.funs.length cf] 25) 9 t.n t.ty t.nm (.slice Aa t.args.length ca) (.slice Bb t.cls.length cb) 0 rfl
  have n1 := box6' w (.cells #[vd, .slice Af P.funs.length cf] 25) 9 t.n t.ty t.nm (.slice Aa t.args.length ca) (.slice Bb t.cls.length cb) 1 rfl
  have n2 := box6' w (.cells #[vd, .slice Af P.funs.length cf] 25) 9 t.n t.ty t.nm (.slice Aa t.args.length ca) (.slice Bb t.cls.length cb) 2 rfl
  have n3 := box6' w (.cells #[vd, .slice Af P.funs.length cf] 25) 9 t.n t.ty t.nm (.slice Aa t.args.length ca) (.slice Bb t.cls.length cb) 3 rfl
  have n4 := box6' w (.cells #[vd, .slice Af P.funs.length cf] 25) 9 t.n t.ty t.nm (.slice Aa t.args.length ca) (.slice Bb t.cls.length cb) 4 rfl
  have n5 := box6' w (.cells #[vd, .slice Af P.funs.length cf] 25) 9 t.n t.ty t.nm (.slice Aa t.args.length ca) (.slice Bb t.cls.length cb) 5 rfl
  have p1 := box2' w vd (.slice Af P.funs.length cf) (.cells #[.int .i64 9, .int .i64 t.n, .string t.nm, .int .i64 t.ty, .slice Aa t.args.length ca, .slice Bb t.cls.length cb] 50) 1 rfl
  unfold maxLen at *
  cases hq : isIdxB t.n P.funs.length
  . have HQ := LH hq
    clear hq
    go_enter Tryz.func131, Tryz.ntmps131
    go_wp2
    generalize (w.alloc _).alloc _ = w1 at *
    have n1 := ExtOf.cell n1
    have p1 := ExtOf.cell p1
    clear n0 n2 n3 n4 n5 hop
    refine wRE (w0 := w1) (by kernel_rfl) (by kernel_rfl) (Ext.rf _) ?_
    repeat (first | go_big_quiet_step ((go_at_call 153; with_reducible exact Calls.ext_same (isIndex_is _ _ _ HQ.out _))) | quiet_step ((go_at_call 153; with_reducible exact Calls.ext_same (isIndex_is _ _ _ HQ.out _))))
    refine wpQuiet_nil ?_
    rintro _ ⟨⟨w2, hx⟩, rfl⟩
    have HX := LH hx; clear hx
    go_wp2
    go_ret
    exact ⟨rB (by first | rfl | (rw [HQ.out]; rfl)), HE.out.tr HX.out⟩
  . obtain ⟨hj0, hj1, hjl⟩ := isIdx_in hq
    have HQ := LH hq
    have HG := LH (getD_at noFn hjl)
    clear hq
    obtain ⟨bf, of_, vp, xa, xc, kf, rfl, hbf, y0, y1, y2, yc, y3, y4, y5⟩ := HF2.out.at_ hjl
    obtain ⟨Ap, cp, rfl, hcp, hmp⟩ := y4.form
    clear y0 y2 y3 y4 y5 yc
    unfold maxLen at *
    generalize P.funs[t.n.toNat] = f at *
    go_enter Tryz.func131, Tryz.ntmps131
    go_wp2
    generalize (w.alloc _).alloc _ = w1 at *
    have n0 := ExtOf.cell n0
    have n1 := ExtOf.cell n1
    have n2 := ExtOf.cell n2
    have n3 := ExtOf.cell n3
    have n4 := ExtOf.cell n4
    have n5 := ExtOf.cell n5
    have p1 := ExtOf.cell p1
    have y1 := ExtOf.cell y1
    clear hop
    refine wRE (w0 := w1) (by kernel_rfl) (by kernel_rfl) (Ext.rf _) ?_
    repeat (first | go_big_quiet_step ((first | (go_at_call 153; with_reducible exact Calls.ext_same (isIndex_is _ _ _ HQ.out _)) | (go_at_call 149; with_reducible exact Calls.ext_of (has_op k t _ _ HOP.out true false false f.ps.length 0 _ (HT2.out.below (ExtOf.ext _)))))) | quiet_step ((first | (go_at_call 153; with_reducible exact Calls.ext_same (isIndex_is _ _ _ HQ.out _)) | (go_at_call 149; with_reducible exact Calls.ext_of (has_op k t _ _ HOP.out true false false f.ps.length 0 _ (HT2.out.below (ExtOf.ext _)))))))
    refine wpQuiet_nil ?_
    rintro _ ⟨⟨w2, hx⟩, rfl⟩
    have HX := LH hx; clear hx
    go_wp2
    go_ret
    exact ⟨rB (by first | rfl | (rw [HQ.out, HG.out]; rfl) | (rw [HG.out]; rfl)), HE.out.tr HX.out⟩
set_option maxHeartbeats 4000000 in
theorem fits_no (vd vf : Value) (_P : Pg) (_k : Nat) (t : Tm) (va vc : Value) (w : World) (h : t.op < 0 ∨ 12 < t.op) :
    Calls Tryz.prog 131 #[pV vd vf, tV t va vc] w fun e w' => e = .returned (.bool false) /\ Ext w w' := by
  have h0 : decide (t.op = 0) = false := decide_eq_false (by omega)
  have h1 : decide (t.op = 1) = false := decide_eq_false (by omega)
  have h2 : decide (t.op = 2) = false := decide_eq_false (by omega)
  have h3 : decide (t.op = 3) = false := decide_eq_false (by omega)
  have h4 : decide (t.op = 4) = false := decide_eq_false (by omega)
  have h5 : decide (t.op = 5) = false := decide_eq_false (by omega)
  have h6 : decide (t.op = 6) = false := decide_eq_false (by omega)
  have h7 : decide (t.op = 7) = false := decide_eq_false (by omega)
  have h8 : decide (t.op = 8) = false := decide_eq_false (by omega)
  have h9 : decide (t.op = 9) = false := decide_eq_false (by omega)
  have h10 : decide (t.op = 10) = false := decide_eq_false (by omega)
  have h11 : decide (t.op = 11) = false := decide_eq_false (by omega)
  have h12 : decide (t.op = 12) = false := decide_eq_false (by omega)
  simp only [decide_eq_false_iff_not] at h0 h1 h2 h3 h4 h5 h6 h7 h8 h9 h10 h11 h12
  clear h
  go_enter Tryz.func131, Tryz.ntmps131
  go_wp2
  go_ret
  exact ⟨rfl, (Ext.al _ _).tr (Ext.al _ _)⟩
theorem tfits_any (vd vf : Value) (P : Pg) (k : Nat) (t : Tm) (va vc : Value) (w : World) (hd : RDecls w vd P.decls) (hf : RFns w vf P.funs) (ht : RT w k t va vc) :
    Calls Tryz.prog 131 #[pV vd vf, tV t va vc] w fun e w' => e = .returned (.bool (fitsT P t)) /\ Ext w w' := by
  unfold fitsT
  by_cases h0 : t.op = 0
  . rw [if_pos h0]; exact fits_0 vd vf P k t va vc w hd ht h0
  rw [if_neg h0]
  by_cases h1 : t.op = 1
  . rw [if_pos h1]; exact fits_1 vd vf P k t va vc w hd ht h1
  rw [if_neg h1]
  by_cases h2 : t.op = 2
  . rw [if_pos h2]; exact fits_2 vd vf P k t va vc w hd ht h2
  rw [if_neg h2]
  by_cases h3 : t.op = 3
  . rw [if_pos h3]; exact fits_3 vd vf P k t va vc w hd ht h3
  rw [if_neg h3]
  by_cases h4 : t.op = 4
  . rw [if_pos h4]; exact fits_4 vd vf P k t va vc w hd ht h4
  rw [if_neg h4]
  by_cases h5 : t.op = 5
  . rw [if_pos h5]; exact fits_5 vd vf P k t va vc w hd ht h5
  rw [if_neg h5]
  by_cases h6 : t.op = 6
  . rw [if_pos h6]; exact fits_6 vd vf P k t va vc w hd ht h6
  rw [if_neg h6]
  by_cases h7 : t.op = 7
  . rw [if_pos h7]; exact fits_7 vd vf P k t va vc w hd ht h7
  rw [if_neg h7]
  by_cases h8 : t.op = 8
  . rw [if_pos h8]; exact fits_8 vd vf P k t va vc w hd ht h8
  rw [if_neg h8]
  by_cases h9 : t.op = 9
  . rw [if_pos h9]; exact fits_9 vd vf P k t va vc w hf ht h9
  rw [if_neg h9]
  by_cases h10 : t.op = 10
  . rw [if_pos h10]; exact fits_10 vd vf P k t va vc w hd ht h10
  rw [if_neg h10]
  by_cases h11 : t.op = 11
  . rw [if_pos (.inl h11)]; exact fits_11 vd vf P k t va vc w hd ht h11
  by_cases h12 : t.op = 12
  . rw [if_pos (.inr h12)]; exact fits_12 vd vf P k t va vc w hd ht h12
  rw [if_neg (by rintro (h | h) <;> contradiction)]
  exact fits_no vd vf P k t va vc w (by omega)
end Go.Proofs.YtkdglplfcpindaaGreatDoor
