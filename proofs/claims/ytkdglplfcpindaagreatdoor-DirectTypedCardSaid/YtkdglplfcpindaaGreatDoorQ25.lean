/- rules.go: the checker in memory; apply. -/
import Derived.Test.YtkdglplfcpindaaGreatDoorQ24
namespace Go.Proofs.YtkdglplfcpindaaGreatDoor
open Go.RowKit

structure Sg where
  args : List Int
  res : Int
def sgF (f : Fn) : Sg := ⟨f.ps.map Prm.ty, f.res⟩
def sgX (d : Decl) (ty : Int) (x : Xtor) : Sg := if d.codata then ⟨prodL x ++ [ty], lastT x⟩ else ⟨prodL x, ty⟩
def RSgs (w : World) (v : Value) (l : List Sg) : Prop :=
  ∃ A c, v = .slice A l.length c ∧ l.length ≤ c ∧ c ≤ maxLen ∧
    ∀ i g, l[i]? = some g → ∃ b o va, A = some ⟨b, o, none⟩ ∧ w.cell? ⟨b, o + i * 2, none⟩ = some va ∧ w.cell? ⟨b, o + i * 2 + 1, none⟩ = some (.int .i64 g.res) ∧ RInts w va g.args
def RSgL (w : World) (v : Value) (l : List (List Sg)) : Prop :=
  ∃ A c, v = .slice A l.length c ∧ l.length ≤ c ∧ c ≤ maxLen ∧
    ∀ i g, l[i]? = some g → ∃ b o va, A = some ⟨b, o, none⟩ ∧ w.cell? ⟨b, o + i, none⟩ = some va ∧ RSgs w va g
section
variable {w w' : World} {v : Value}
theorem RSgs.below {l : List Sg} (h : RSgs w v l) (hb : Ext w w') : RSgs w' v l := by
  obtain ⟨A, c, rfl, h1, h2, h3⟩ := h
  refine ⟨A, c, rfl, h1, h2, fun i g hi => ?_⟩
  obtain ⟨b, o, va, e, c0, c1, hr⟩ := h3 i g hi
  exact ⟨b, o, va, e, hb.keep c0, hb.keep c1, hr.below hb⟩
theorem RSgL.below {l : List (List Sg)} (h : RSgL w v l) (hb : Ext w w') : RSgL w' v l := by
  obtain ⟨A, c, rfl, h1, h2, h3⟩ := h
  refine ⟨A, c, rfl, h1, h2, fun i g hi => ?_⟩
  obtain ⟨b, o, va, e, c0, hr⟩ := h3 i g hi
  exact ⟨b, o, va, e, hb.keep c0, hr.below hb⟩
theorem RSgs.form {l : List Sg} (h : RSgs w v l) : ∃ A c, v = .slice A l.length c ∧ l.length ≤ c ∧ c ≤ maxLen := by
  obtain ⟨A, c, h1, h2, h3, _⟩ := h; exact ⟨A, c, h1, h2, h3⟩
theorem RSgL.form {l : List (List Sg)} (h : RSgL w v l) : ∃ A c, v = .slice A l.length c ∧ l.length ≤ c ∧ c ≤ maxLen := by
  obtain ⟨A, c, h1, h2, h3, _⟩ := h; exact ⟨A, c, h1, h2, h3⟩
theorem RSgs.at_ {l : List Sg} {A : Option Addr} {n c : Nat} (h : RSgs w (.slice A n c) l) {i : Nat} {g : Sg} (hi : l[i]? = some g) :
    ∃ b o va, A = some ⟨b, o, none⟩ ∧ w.cell? ⟨b, o + i * 2, none⟩ = some va ∧ w.cell? ⟨b, o + i * 2 + 1, none⟩ = some (.int .i64 g.res) ∧ RInts w va g.args := by
  obtain ⟨A', c', he, h1, h2, h3⟩ := h
  cases he
  exact h3 i g hi
theorem RSgL.at_ {l : List (List Sg)} {A : Option Addr} {n c : Nat} (h : RSgL w (.slice A n c) l) {i : Nat} {g : List Sg} (hi : l[i]? = some g) :
    ∃ b o va, A = some ⟨b, o, none⟩ ∧ w.cell? ⟨b, o + i, none⟩ = some va ∧ RSgs w va g := by
  obtain ⟨A', c', he, h1, h2, h3⟩ := h
  cases he
  exact h3 i g hi
end
def xsFrom : Nat → List Decl → List (List Sg)
  | _, [] => []
  | u, d :: r => d.xtors.map (sgX d (u + 1)) :: xsFrom (u + 1) r
def xsP (P : Pg) : List (List Sg) := [] :: xsFrom 0 P.decls
theorem xsFrom_at : ∀ (l : List Decl) (u i : Nat) (d : Decl), l[i]? = some d → (xsFrom u l)[i]? = some (d.xtors.map (sgX d ((u + i : Nat) + 1)))
  | [], _, _, _, h => by simp at h
  | e :: r, u, 0, d, h => by simp at h; subst h; simp [xsFrom]
  | e :: r, u, i + 1, d, h => by
    simp only [List.getElem?_cons_succ] at h
    rw [xsFrom, List.getElem?_cons_succ, xsFrom_at r (u + 1) i d h, show u + 1 + i = u + (i + 1) by omega]
theorem xsFrom_len : ∀ (l : List Decl) (u : Nat), (xsFrom u l).length = l.length
  | [], _ => rfl
  | _ :: r, u => by simp [xsFrom, xsFrom_len r]
theorem xsP_len (P : Pg) : (xsP P).length = P.decls.length + 1 := by simp [xsP, xsFrom_len]
theorem xsP_at {P : Pg} {u : Nat} {d : Decl} (h : P.decls[u]? = some d) : (xsP P)[u + 1]? = some (d.xtors.map (sgX d (u + 1))) := by
  have := xsFrom_at P.decls 0 u d h
  rw [Nat.zero_add] at this
  exact this
/-- The checker, without its rules. -/
structure RCk (w : World) (g : Nat) (P : Pg) : Prop where
  funs : ∃ vf, w.cell? ⟨g, 0, none⟩ = some vf ∧ RSgs w vf (P.funs.map sgF)
  xtors : ∃ vx, w.cell? ⟨g, 1, none⟩ = some vx ∧ RSgL w vx (xsP P)
theorem RCk.below {w w' : World} {g : Nat} {P : Pg} (h : RCk w g P) (hb : Ext w w') : RCk w' g P :=
  ⟨h.funs.elim fun vf ⟨h1, h2⟩ => ⟨vf, hb.keep h1, h2.below hb⟩, h.xtors.elim fun vf ⟨h1, h2⟩ => ⟨vf, hb.keep h1, h2.below hb⟩⟩

set_option maxHeartbeats 2000000 in
set_option maxRecDepth 100000 in
theorem apply_any (va vp : Value) (g : Sg) (ps : List Int) (w : World) (h : RInts w va g.args) (hp : RInts w vp ps) :
    Calls Tryz.prog 123 #[.agg #[va, .int .i64 g.res], vp] w fun e w' => e = .returned (.tuple #[.int .i64 g.res, .bool (eqL ps g.args)]) ∧ Ext w w' := by
  have H := Lib.hid h; have HP := Lib.hid hp
  have hmx : Tryz.prog.follows .mixedOrders = true := by kernel_rfl
  obtain ⟨A, c, rfl, -, -⟩ := h.form
  obtain ⟨A', c', rfl, -, -⟩ := hp.form
  clear h hp
  have HE := Lib.hid (Ext.al w (.cells #[.slice A g.args.length c, .int .i64 g.res] 181))
  have HB := Lib.hid (heapNew w (.cells #[.slice A g.args.length c, .int .i64 g.res] 181))
  go_enter Tryz.func123, Tryz.ntmps123
  go_upto_region 1 with fail
  generalize World.alloc w _ = w1 at *
  have k0 := ExtOf.cell (cellAt HB.out 0)
  have k1 := ExtOf.cell (cellAt HB.out 1)
  refine wp_region_ext (w0 := w1) hmx (by kernel_rfl) (Ext.rf _) ?_
  repeat (first | go_big_quiet_step ((go_at_call 145; with_reducible exact Calls.ext_of (equal_ints_any _ _ ps g.args _ ((HP.out.below HE.out).below (ExtOf.ext _)) ((H.out.below HE.out).below (ExtOf.ext _))))) | quiet_step ((go_at_call 145; with_reducible exact Calls.ext_of (equal_ints_any _ _ ps g.args _ ((HP.out.below HE.out).below (ExtOf.ext _)) ((H.out.below HE.out).below (ExtOf.ext _))))))
  refine wpQuiet_nil ?_
  rintro _ ⟨⟨w9, hx⟩, rfl⟩
  have HX9 := Lib.hid (HE.out.tr hx)
  clear hx k0 k1
  go_wp2
  go_ret2
  exact ⟨rfl, HX9.out⟩
end Go.Proofs.YtkdglplfcpindaaGreatDoor

/- rules.go: the rules of the operators, continued. -/
namespace Go.Proofs.YtkdglplfcpindaaGreatDoor
open Go.RowKit

def jmpV (o : Option Int) (p : Int) : Bool := match o with | some y => decide (p = y) | none => false
def jmpR (o : Option Int) (p ty : Int) : TyR := match o with | some y => okR (decide (p = y)) ty | none => .inl []
set_option maxHeartbeats 2000000 in
set_option maxRecDepth 100000 in
theorem r_zero (c : Value) (V L : Env) (pv pl : Value) (k : Nat) (t : Tm) (ux uc : Value) (vp : Value) (p0 p1 p2 : Int) (l : List Int) (w : World) (hV : RB w V pv) (hL : RB w L pl) (ht : RT w k t ux uc) (hp : RInts w vp (p0 :: p1 :: p2 :: l)) :
    Calls Tryz.prog 91 #[c, scV pv pl, tV t ux uc, vp] w fun e w' => e = .returned (.tuple #[.int .i64 p1, .bool (decide (p0 = 0) && decide (p1 = p2))]) ∧ Ext w w' := by
  have HV := Lib.hid hV; have HL := Lib.hid hL
  have hmx : Tryz.prog.follows .mixedOrders = true := by kernel_rfl
  obtain ⟨qv, rfl⟩ := hV.form
  obtain ⟨ql, rfl⟩ := hL.form
  obtain ⟨_, ⟨Aa, ca, rfl, -, -⟩, ⟨Bb, cb, rfl, -, -⟩⟩ := ht.form
  clear hV hL ht
  have HE := Lib.hid (Ext.al2 w (.cells #[.pointer qv, .pointer ql] 134) (.cells #[.int .i64 t.op, .int .i64 t.n, .string t.nm, .int .i64 t.ty, .slice Aa t.args.length ca, .slice Bb t.cls.length cb] 50))
  obtain ⟨hb1, hb2⟩ := box_st w (.pointer qv) (.pointer ql) (.int .i64 t.op) (.int .i64 t.n) (.string t.nm) (.int .i64 t.ty) (.slice Aa t.args.length ca) (.slice Bb t.cls.length cb)
  have HB1 := Lib.hid hb1; have HB2 := Lib.hid hb2
  clear hb1 hb2
  have HP := Lib.hid hp
  obtain ⟨Ap, cp, rfl, -, -⟩ := hp.form
  obtain ⟨bp, op, rfl, -, f0⟩ := hp.at_ (k := 0) (by simp)
  obtain ⟨bq1, oq1, e1, -, f1⟩ := hp.at_ (k := 1) (by simp)
  cases e1
  obtain ⟨bq2, oq2, e2, -, f2⟩ := hp.at_ (k := 2) (by simp)
  cases e2
  simp only [Nat.add_zero, List.getElem_cons_zero, List.getElem_cons_succ] at f0 f1 f2
  have HF0 := Lib.hid (HE.out.keep f0)
  have HF1 := Lib.hid (HE.out.keep f1)
  have HF2 := Lib.hid (HE.out.keep f2)
  clear hp f0 f1 f2
  have hl0 : 0 < (p0 :: p1 :: p2 :: l).length := by simp
  have hl1 : 1 < (p0 :: p1 :: p2 :: l).length := by simp
  have hl2 : 2 < (p0 :: p1 :: p2 :: l).length := by simp
  generalize (p0 :: p1 :: p2 :: l).length = n at *
  go_enter Tryz.func91, Tryz.ntmps91
  cases h0 : decide (p0 = 0)
  · have q0 : (p0 == 0) = false := by simpa using h0
    have H0 := Lib.hid h0
    clear h0
    go_upto_region 1 with fail
    generalize World.alloc (World.alloc w _) _ = w1 at *
    have c0 := ExtOf.cell HF0.out
    have c1 := ExtOf.cell HF1.out
    have c2 := ExtOf.cell HF2.out
    refine wp_region_ext (w0 := w1) hmx (by kernel_rfl) (Ext.rf _) ?_
    repeat (first | go_big_quiet_step (fail) | quiet_step (fail))
    refine wpQuiet_nil ?_
    rintro _ ⟨⟨w9, hx⟩, rfl⟩
    have HX9 := Lib.hid (HE.out.tr hx)
    clear hx
    go_wp2
    go_ret2
    exact ⟨rfl, HX9.out⟩
  · have q0 : (p0 == 0) = true := by simpa using h0
    have H0 := Lib.hid h0
    clear h0
    cases h1 : decide (p1 = p2)
    · have q1 : (p1 == p2) = false := by simpa using h1
      have H1 := Lib.hid h1
      clear h1
      go_upto_region 1 with fail
      generalize World.alloc (World.alloc w _) _ = w1 at *
      have c0 := ExtOf.cell HF0.out
      have c1 := ExtOf.cell HF1.out
      have c2 := ExtOf.cell HF2.out
      refine wp_region_ext (w0 := w1) hmx (by kernel_rfl) (Ext.rf _) ?_
      repeat (first | go_big_quiet_step (fail) | quiet_step (fail))
      refine wpQuiet_nil ?_
      rintro _ ⟨⟨w9, hx⟩, rfl⟩
      have HX9 := Lib.hid (HE.out.tr hx)
      clear hx
      go_wp2
      go_ret2
      exact ⟨rfl, HX9.out⟩
    · have q1 : (p1 == p2) = true := by simpa using h1
      have H1 := Lib.hid h1
      clear h1
      go_upto_region 1 with fail
      generalize World.alloc (World.alloc w _) _ = w1 at *
      have c0 := ExtOf.cell HF0.out
      have c1 := ExtOf.cell HF1.out
      have c2 := ExtOf.cell HF2.out
      refine wp_region_ext (w0 := w1) hmx (by kernel_rfl) (Ext.rf _) ?_
      repeat (first | go_big_quiet_step (fail) | quiet_step (fail))
      refine wpQuiet_nil ?_
      rintro _ ⟨⟨w9, hx⟩, rfl⟩
      have HX9 := Lib.hid (HE.out.tr hx)
      clear hx
      go_wp2
      go_ret2
      exact ⟨rfl, HX9.out⟩

set_option maxHeartbeats 2000000 in
set_option maxRecDepth 100000 in
theorem r_emit (c : Value) (V L : Env) (pv pl : Value) (k : Nat) (t : Tm) (ux uc : Value) (vp : Value) (p0 p1 : Int) (l : List Int) (w : World) (hV : RB w V pv) (hL : RB w L pl) (ht : RT w k t ux uc) (hp : RInts w vp (p0 :: p1 :: l)) :
    Calls Tryz.prog 97 #[c, scV pv pl, tV t ux uc, vp] w fun e w' => e = .returned (.tuple #[.int .i64 p1, .bool (decide (p0 = 0))]) ∧ Ext w w' := by
  have HV := Lib.hid hV; have HL := Lib.hid hL
  have hmx : Tryz.prog.follows .mixedOrders = true := by kernel_rfl
  obtain ⟨qv, rfl⟩ := hV.form
  obtain ⟨ql, rfl⟩ := hL.form
  obtain ⟨_, ⟨Aa, ca, rfl, -, -⟩, ⟨Bb, cb, rfl, -, -⟩⟩ := ht.form
  clear hV hL ht
  have HE := Lib.hid (Ext.al2 w (.cells #[.pointer qv, .pointer ql] 134) (.cells #[.int .i64 t.op, .int .i64 t.n, .string t.nm, .int .i64 t.ty, .slice Aa t.args.length ca, .slice Bb t.cls.length cb] 50))
  obtain ⟨hb1, hb2⟩ := box_st w (.pointer qv) (.pointer ql) (.int .i64 t.op) (.int .i64 t.n) (.string t.nm) (.int .i64 t.ty) (.slice Aa t.args.length ca) (.slice Bb t.cls.length cb)
  have HB1 := Lib.hid hb1; have HB2 := Lib.hid hb2
  clear hb1 hb2
  have HP := Lib.hid hp
  obtain ⟨Ap, cp, rfl, -, -⟩ := hp.form
  obtain ⟨bp, op, rfl, -, f0⟩ := hp.at_ (k := 0) (by simp)
  obtain ⟨bq1, oq1, e1, -, f1⟩ := hp.at_ (k := 1) (by simp)
  cases e1
  simp only [Nat.add_zero, List.getElem_cons_zero, List.getElem_cons_succ] at f0 f1
  have HF0 := Lib.hid (HE.out.keep f0)
  have HF1 := Lib.hid (HE.out.keep f1)
  clear hp f0 f1
  have hl0 : 0 < (p0 :: p1 :: l).length := by simp
  have hl1 : 1 < (p0 :: p1 :: l).length := by simp
  generalize (p0 :: p1 :: l).length = n at *
  go_enter Tryz.func97, Tryz.ntmps97
  go_upto_region 1 with fail
  generalize World.alloc (World.alloc w _) _ = w1 at *
  have c0 := ExtOf.cell HF0.out
  have c1 := ExtOf.cell HF1.out
  refine wp_region_ext (w0 := w1) hmx (by kernel_rfl) (Ext.rf _) ?_
  repeat (first | go_big_quiet_step (fail) | quiet_step (fail))
  refine wpQuiet_nil ?_
  rintro _ ⟨⟨w9, hx⟩, rfl⟩
  have HX9 := Lib.hid (HE.out.tr hx)
  clear hx
  go_wp2
  go_ret2
  exact ⟨rfl, HX9.out⟩

set_option maxHeartbeats 2000000 in
set_option maxRecDepth 100000 in
theorem r_let (c : Value) (V L : Env) (pv pl : Value) (k : Nat) (t : Tm) (ux uc : Value) (vp : Value) (p0 p1 : Int) (l : List Int) (w : World) (hV : RB w V pv) (hL : RB w L pl) (ht : RT w k t ux uc) (hp : RInts w vp (p0 :: p1 :: l)) :
    Calls Tryz.prog 95 #[c, scV pv pl, tV t ux uc, vp] w fun e w' => e = .returned (.tuple #[.int .i64 p1, .bool (decide (p0 = t.ty))]) ∧ Ext w w' := by
  have HV := Lib.hid hV; have HL := Lib.hid hL
  have hmx : Tryz.prog.follows .mixedOrders = true := by kernel_rfl
  obtain ⟨qv, rfl⟩ := hV.form
  obtain ⟨ql, rfl⟩ := hL.form
  obtain ⟨_, ⟨Aa, ca, rfl, -, -⟩, ⟨Bb, cb, rfl, -, -⟩⟩ := ht.form
  clear hV hL ht
  have HE := Lib.hid (Ext.al2 w (.cells #[.pointer qv, .pointer ql] 134) (.cells #[.int .i64 t.op, .int .i64 t.n, .string t.nm, .int .i64 t.ty, .slice Aa t.args.length ca, .slice Bb t.cls.length cb] 50))
  obtain ⟨hb1, hb2⟩ := box_st w (.pointer qv) (.pointer ql) (.int .i64 t.op) (.int .i64 t.n) (.string t.nm) (.int .i64 t.ty) (.slice Aa t.args.length ca) (.slice Bb t.cls.length cb)
  have HB1 := Lib.hid hb1; have HB2 := Lib.hid hb2
  clear hb1 hb2
  have HP := Lib.hid hp
  obtain ⟨Ap, cp, rfl, -, -⟩ := hp.form
  obtain ⟨bp, op, rfl, -, f0⟩ := hp.at_ (k := 0) (by simp)
  obtain ⟨bq1, oq1, e1, -, f1⟩ := hp.at_ (k := 1) (by simp)
  cases e1
  simp only [Nat.add_zero, List.getElem_cons_zero, List.getElem_cons_succ] at f0 f1
  have HF0 := Lib.hid (HE.out.keep f0)
  have HF1 := Lib.hid (HE.out.keep f1)
  clear hp f0 f1
  have hl0 : 0 < (p0 :: p1 :: l).length := by simp
  have hl1 : 1 < (p0 :: p1 :: l).length := by simp
  generalize (p0 :: p1 :: l).length = n at *
  go_enter Tryz.func95, Tryz.ntmps95
  go_upto_region 1 with fail
  generalize World.alloc (World.alloc w _) _ = w1 at *
  have c0 := ExtOf.cell HF0.out
  have c1 := ExtOf.cell HF1.out
  have n3 := ExtOf.cell (cellAt HB2.out 3)
  refine wp_region_ext (w0 := w1) hmx (by kernel_rfl) (Ext.rf _) ?_
  repeat (first | go_big_quiet_step (fail) | quiet_step (fail))
  refine wpQuiet_nil ?_
  rintro _ ⟨⟨w9, hx⟩, rfl⟩
  have HX9 := Lib.hid (HE.out.tr hx)
  clear hx
  go_wp2
  go_ret2
  exact ⟨rfl, HX9.out⟩

set_option maxHeartbeats 2000000 in
set_option maxRecDepth 100000 in
theorem r_label (c : Value) (V L : Env) (pv pl : Value) (k : Nat) (t : Tm) (ux uc : Value) (vp : Value) (p0 : Int) (l : List Int) (w : World) (hV : RB w V pv) (hL : RB w L pl) (ht : RT w k t ux uc) (hp : RInts w vp (p0 :: l)) :
    Calls Tryz.prog 98 #[c, scV pv pl, tV t ux uc, vp] w fun e w' => e = .returned (.tuple #[.int .i64 t.ty, .bool (decide (p0 = t.ty))]) ∧ Ext w w' := by
  have HV := Lib.hid hV; have HL := Lib.hid hL
  have hmx : Tryz.prog.follows .mixedOrders = true := by kernel_rfl
  obtain ⟨qv, rfl⟩ := hV.form
  obtain ⟨ql, rfl⟩ := hL.form
  obtain ⟨_, ⟨Aa, ca, rfl, -, -⟩, ⟨Bb, cb, rfl, -, -⟩⟩ := ht.form
  clear hV hL ht
  have HE := Lib.hid (Ext.al2 w (.cells #[.pointer qv, .pointer ql] 134) (.cells #[.int .i64 t.op, .int .i64 t.n, .string t.nm, .int .i64 t.ty, .slice Aa t.args.length ca, .slice Bb t.cls.length cb] 50))
  obtain ⟨hb1, hb2⟩ := box_st w (.pointer qv) (.pointer ql) (.int .i64 t.op) (.int .i64 t.n) (.string t.nm) (.int .i64 t.ty) (.slice Aa t.args.length ca) (.slice Bb t.cls.length cb)
  have HB1 := Lib.hid hb1; have HB2 := Lib.hid hb2
  clear hb1 hb2
  have HP := Lib.hid hp
  obtain ⟨Ap, cp, rfl, -, -⟩ := hp.form
  obtain ⟨bp, op, rfl, -, f0⟩ := hp.at_ (k := 0) (by simp)
  simp only [Nat.add_zero, List.getElem_cons_zero, List.getElem_cons_succ] at f0
  have HF0 := Lib.hid (HE.out.keep f0)
  clear hp f0
  have hl0 : 0 < (p0 :: l).length := by simp
  generalize (p0 :: l).length = n at *
  go_enter Tryz.func98, Tryz.ntmps98
  go_upto_region 1 with fail
  generalize World.alloc (World.alloc w _) _ = w1 at *
  have c0 := ExtOf.cell HF0.out
  have n3 := ExtOf.cell (cellAt HB2.out 3)
  refine wp_region_ext (w0 := w1) hmx (by kernel_rfl) (Ext.rf _) ?_
  repeat (first | go_big_quiet_step (fail) | quiet_step (fail))
  refine wpQuiet_nil ?_
  rintro _ ⟨⟨w9, hx⟩, rfl⟩
  have HX9 := Lib.hid (HE.out.tr hx)
  clear hx
  go_wp2
  go_ret2
  exact ⟨rfl, HX9.out⟩

set_option maxHeartbeats 2000000 in
set_option maxRecDepth 100000 in
theorem r_jump (c : Value) (V L : Env) (pv pl : Value) (k : Nat) (t : Tm) (ux uc : Value) (vp : Value) (p0 : Int) (l : List Int) (w : World) (hV : RB w V pv) (hL : RB w L pl) (ht : RT w k t ux uc) (hp : RInts w vp (p0 :: l)) :
    Calls Tryz.prog 99 #[c, scV pv pl, tV t ux uc, vp] w fun e w' => e = .returned (.tuple #[.int .i64 t.ty, .bool (jmpV (findE L t.nm) p0)]) ∧ Ext w w' := by
  have HV := Lib.hid hV; have HL := Lib.hid hL
  have hmx : Tryz.prog.follows .mixedOrders = true := by kernel_rfl
  obtain ⟨qv, rfl⟩ := hV.form
  obtain ⟨ql, rfl⟩ := hL.form
  obtain ⟨_, ⟨Aa, ca, rfl, -, -⟩, ⟨Bb, cb, rfl, -, -⟩⟩ := ht.form
  clear hV hL ht
  have HE := Lib.hid (Ext.al2 w (.cells #[.pointer qv, .pointer ql] 134) (.cells #[.int .i64 t.op, .int .i64 t.n, .string t.nm, .int .i64 t.ty, .slice Aa t.args.length ca, .slice Bb t.cls.length cb] 50))
  obtain ⟨hb1, hb2⟩ := box_st w (.pointer qv) (.pointer ql) (.int .i64 t.op) (.int .i64 t.n) (.string t.nm) (.int .i64 t.ty) (.slice Aa t.args.length ca) (.slice Bb t.cls.length cb)
  have HB1 := Lib.hid hb1; have HB2 := Lib.hid hb2
  clear hb1 hb2
  obtain ⟨fo, hfo⟩ : ∃ fo, findE L t.nm = fo := ⟨_, rfl⟩
  rw [hfo]
  have HFO := Lib.hid hfo
  clear hfo
  have HP := Lib.hid hp
  obtain ⟨Ap, cp, rfl, -, -⟩ := hp.form
  obtain ⟨bp, op, rfl, -, f0⟩ := hp.at_ (k := 0) (by simp)
  simp only [Nat.add_zero, List.getElem_cons_zero, List.getElem_cons_succ] at f0
  have HF0 := Lib.hid (HE.out.keep f0)
  clear hp f0
  have hl0 : 0 < (p0 :: l).length := by simp
  generalize (p0 :: l).length = n at *
  have d1 := cellAt HB1.out 1
  have n2 := cellAt HB2.out 2
  go_enter Tryz.func99, Tryz.ntmps99
  go_wp2_with fail
  generalize World.alloc (World.alloc w _) _ = w1 at *
  clear d1 n2
  (with_reducible refine (bfind_any L _ t.nm _ (HL.out.below HE.out)).mono ?_)
  rw [HFO.out]
  rintro e w2 ⟨rfl, rfl⟩
  cases fo with
  | none =>
    rw [show foundR none = .tuple #[.int .i64 0, .bool false] from rfl]
    go_upto_region 2 with fail
    have c0 := ExtOf.cell HF0.out
    have n3 := ExtOf.cell (cellAt HB2.out 3)
    refine wp_region_ext (w0 := w1) hmx (by kernel_rfl) (Ext.rf _) ?_
    repeat (first | go_big_quiet_step (fail) | quiet_step (fail))
    refine wpQuiet_nil ?_
    rintro _ ⟨⟨w9, hx⟩, rfl⟩
    have HX9 := Lib.hid (HE.out.tr hx)
    clear hx
    go_wp2
    go_ret2
    exact ⟨rfl, HX9.out⟩
  | some y =>
    rw [show foundR (some y) = .tuple #[.int .i64 y, .bool true] from rfl]
    go_upto_region 2 with fail
    have c0 := ExtOf.cell HF0.out
    have n3 := ExtOf.cell (cellAt HB2.out 3)
    refine wp_region_ext (w0 := w1) hmx (by kernel_rfl) (Ext.rf _) ?_
    repeat (first | go_big_quiet_step (fail) | quiet_step (fail))
    refine wpQuiet_nil ?_
    rintro _ ⟨⟨w9, hx⟩, rfl⟩
    have HX9 := Lib.hid (HE.out.tr hx)
    clear hx
    go_wp2
    go_ret2
    exact ⟨rfl, HX9.out⟩

set_option maxHeartbeats 2000000 in
set_option maxRecDepth 100000 in
theorem r_call (c : Value) (V L : Env) (pv pl : Value) (k : Nat) (t : Tm) (ux uc : Value) (vp : Value) (gc : Nat) (P : Pg) (u : Nat) (f : Fn) (ps : List Int) (w : World) (hV : RB w V pv) (hL : RB w L pl) (ht : RT w k t ux uc) (hc : c = .pointer (some ⟨gc, 0, none⟩)) (hk : RCk w gc P) (hn : t.n = (u : Int)) (hf : P.funs[u]? = some f) (hfl : P.funs.length ≤ 1000000) (hp : RInts w vp ps) :
    Calls Tryz.prog 96 #[c, scV pv pl, tV t ux uc, vp] w fun e w' => e = .returned (.tuple #[.int .i64 f.res, .bool (eqL ps (f.ps.map Prm.ty))]) ∧ Ext w w' := by
  have HV := Lib.hid hV; have HL := Lib.hid hL
  have hmx : Tryz.prog.follows .mixedOrders = true := by kernel_rfl
  obtain ⟨qv, rfl⟩ := hV.form
  obtain ⟨ql, rfl⟩ := hL.form
  obtain ⟨_, ⟨Aa, ca, rfl, -, -⟩, ⟨Bb, cb, rfl, -, -⟩⟩ := ht.form
  clear hV hL ht
  have HE := Lib.hid (Ext.al2 w (.cells #[.pointer qv, .pointer ql] 134) (.cells #[.int .i64 t.op, .int .i64 t.n, .string t.nm, .int .i64 t.ty, .slice Aa t.args.length ca, .slice Bb t.cls.length cb] 50))
  obtain ⟨hb1, hb2⟩ := box_st w (.pointer qv) (.pointer ql) (.int .i64 t.op) (.int .i64 t.n) (.string t.nm) (.int .i64 t.ty) (.slice Aa t.args.length ca) (.slice Bb t.cls.length cb)
  have HB1 := Lib.hid hb1; have HB2 := Lib.hid hb2
  clear hb1 hb2
  subst hc
  have HP := Lib.hid hp
  obtain ⟨Ap, cp, rfl, -, -⟩ := hp.form
  clear hp
  obtain ⟨sg, hsg⟩ : ∃ sg, sgF f = sg := ⟨_, rfl⟩
  have hfs : (P.funs.map sgF)[u]? = some sg := by rw [List.getElem?_map, hf, ← hsg]; rfl
  have HSG : Hid (f.res = sg.res ∧ f.ps.map Prm.ty = sg.args) := by rw [← hsg]; exact ⟨rfl, rfl⟩
  have hul : u < (P.funs.map sgF).length := (List.getElem?_eq_some_iff.1 hfs).1
  have hml : (P.funs.map sgF).length ≤ 1000000 := by rw [List.length_map]; exact hfl
  obtain ⟨⟨vf, g0, hrs⟩, -⟩ := hk.below HE.out
  obtain ⟨Af, cf, rfl, -, -⟩ := hrs.form
  obtain ⟨bs, os, vs, rfl, s0, s1, hsa⟩ := hrs.at_ hfs
  obtain ⟨As, cs, rfl, -, -⟩ := hsa.form
  have HSA := Lib.hid hsa
  have HG0 := Lib.hid g0; have HS0 := Lib.hid s0; have HS1 := Lib.hid s1
  clear hrs hsa hk hf hsg hfs g0 s0 s1
  generalize (P.funs.map sgF).length = nf at *
  have HNN := Lib.hid hn
  clear hn
  go_enter Tryz.func96, Tryz.ntmps96
  go_upto_region 1 with fail
  generalize World.alloc (World.alloc w _) _ = w1 at *
  have g0 := ExtOf.cell HG0.out
  have s0 := ExtOf.cell HS0.out
  have s1 := ExtOf.cell HS1.out
  have n1 : w1.cell? ⟨w.heap.size + 1, 1, none⟩ = some (.int .i64 t.n) := cellAt HB2.out 1
  rw [HNN.out] at n1
  have n1 := ExtOf.cell n1
  refine wp_region_ext (w0 := w1) hmx (by kernel_rfl) (Ext.rf _) ?_
  repeat (first | go_big_quiet_step ((go_at_call 123; with_reducible exact Calls.ext_of (apply_any _ _ sg ps _ (HSA.out.below (ExtOf.ext _)) ((HP.out.below HE.out).below (ExtOf.ext _))))) | quiet_step ((go_at_call 123; with_reducible exact Calls.ext_of (apply_any _ _ sg ps _ (HSA.out.below (ExtOf.ext _)) ((HP.out.below HE.out).below (ExtOf.ext _))))))
  refine wpQuiet_nil ?_
  rintro _ ⟨⟨w9, hx⟩, rfl⟩
  have HX9 := Lib.hid (HE.out.tr hx)
  clear hx
  go_wp2
  go_ret2
  exact ⟨by rw [HSG.out.1, HSG.out.2]; rfl, HX9.out⟩

set_option maxHeartbeats 2000000 in
set_option maxRecDepth 100000 in
theorem r_xtor (c : Value) (V L : Env) (pv pl : Value) (k : Nat) (t : Tm) (ux uc : Value) (vp : Value) (gc : Nat) (P : Pg) (u m : Nat) (d : Decl) (x : Xtor) (ps : List Int) (w : World) (hV : RB w V pv) (hL : RB w L pl) (ht : RT w k t ux uc) (hc : c = .pointer (some ⟨gc, 0, none⟩)) (hk : RCk w gc P) (hn : t.n = (m : Int)) (hty : t.ty = ((u + 1 : Nat) : Int)) (hf : P.decls[u]? = some d) (hx : d.xtors[m]? = some x) (hdl : P.decls.length ≤ 1000000) (hxl : d.xtors.length ≤ 1000000) (hp : RInts w vp ps) :
    Calls Tryz.prog 92 #[c, scV pv pl, tV t ux uc, vp] w fun e w' => e = .returned (.tuple #[.int .i64 (sgX d (u + 1) x).res, .bool (eqL ps (sgX d (u + 1) x).args)]) ∧ Ext w w' := by
  have HV := Lib.hid hV; have HL := Lib.hid hL
  have hmx : Tryz.prog.follows .mixedOrders = true := by kernel_rfl
  obtain ⟨qv, rfl⟩ := hV.form
  obtain ⟨ql, rfl⟩ := hL.form
  obtain ⟨_, ⟨Aa, ca, rfl, -, -⟩, ⟨Bb, cb, rfl, -, -⟩⟩ := ht.form
  clear hV hL ht
  have HE := Lib.hid (Ext.al2 w (.cells #[.pointer qv, .pointer ql] 134) (.cells #[.int .i64 t.op, .int .i64 t.n, .string t.nm, .int .i64 t.ty, .slice Aa t.args.length ca, .slice Bb t.cls.length cb] 50))
  obtain ⟨hb1, hb2⟩ := box_st w (.pointer qv) (.pointer ql) (.int .i64 t.op) (.int .i64 t.n) (.string t.nm) (.int .i64 t.ty) (.slice Aa t.args.length ca) (.slice Bb t.cls.length cb)
  have HB1 := Lib.hid hb1; have HB2 := Lib.hid hb2
  clear hb1 hb2
  subst hc
  have HP := Lib.hid hp
  obtain ⟨Ap, cp, rfl, -, -⟩ := hp.form
  clear hp
  obtain ⟨sg, hsg⟩ : ∃ sg, sgX d (u + 1) x = sg := ⟨_, rfl⟩
  have hfs : (d.xtors.map (sgX d (u + 1)))[m]? = some sg := by rw [List.getElem?_map, hx, ← hsg]; rfl
  have HSG := Lib.hid hsg
  have hml : m < (d.xtors.map (sgX d (u + 1))).length := (List.getElem?_eq_some_iff.1 hfs).1
  have hmx2 : (d.xtors.map (sgX d (u + 1))).length ≤ 1000000 := by rw [List.length_map]; exact hxl
  have hxs := xsP_at hf
  have hul : u + 1 < (xsP P).length := (List.getElem?_eq_some_iff.1 hxs).1
  have hulm : (xsP P).length ≤ 1000001 := by rw [xsP_len]; omega
  obtain ⟨-, ⟨vx, g1, hrs⟩⟩ := hk.below HE.out
  obtain ⟨Ax, cx, rfl, -, -⟩ := hrs.form
  obtain ⟨bx, ox, vr, rfl, r0, hrow⟩ := hrs.at_ hxs
  obtain ⟨Ar, cr, rfl, -, -⟩ := hrow.form
  obtain ⟨bs, os, vs, rfl, s0, s1, hsa⟩ := hrow.at_ hfs
  obtain ⟨As, cs, rfl, -, -⟩ := hsa.form
  have HSA := Lib.hid hsa
  have HG1 := Lib.hid g1; have HR0 := Lib.hid r0; have HS0 := Lib.hid s0; have HS1 := Lib.hid s1
  clear hrs hsa hk hf hsg hfs hrow hxs hx g1 r0 s0 s1
  generalize (xsP P).length = nx at *
  generalize (d.xtors.map (sgX d (u + 1))).length = nr at *
  have HNN := Lib.hid hn
  have HTY := Lib.hid hty
  clear hn hty
  go_enter Tryz.func92, Tryz.ntmps92
  go_upto_region 1 with fail
  generalize World.alloc (World.alloc w _) _ = w1 at *
  have g1 := ExtOf.cell HG1.out
  have r0 := ExtOf.cell HR0.out
  have s0 := ExtOf.cell HS0.out
  have s1 := ExtOf.cell HS1.out
  have n1 : w1.cell? ⟨w.heap.size + 1, 1, none⟩ = some (.int .i64 t.n) := cellAt HB2.out 1
  rw [HNN.out] at n1
  have n1 := ExtOf.cell n1
  have n3 : w1.cell? ⟨w.heap.size + 1, 3, none⟩ = some (.int .i64 t.ty) := cellAt HB2.out 3
  rw [HTY.out] at n3
  have n3 := ExtOf.cell n3
  refine wp_region_ext (w0 := w1) hmx (by kernel_rfl) (Ext.rf _) ?_
  repeat (first | go_big_quiet_step ((go_at_call 123; with_reducible exact Calls.ext_of (apply_any _ _ sg ps _ (HSA.out.below (ExtOf.ext _)) ((HP.out.below HE.out).below (ExtOf.ext _))))) | quiet_step ((go_at_call 123; with_reducible exact Calls.ext_of (apply_any _ _ sg ps _ (HSA.out.below (ExtOf.ext _)) ((HP.out.below HE.out).below (ExtOf.ext _))))))
  refine wpQuiet_nil ?_
  rintro _ ⟨⟨w9, hx⟩, rfl⟩
  have HX9 := Lib.hid (HE.out.tr hx)
  clear hx
  go_wp2
  go_ret2
  exact ⟨by rw [HSG.out]; rfl, HX9.out⟩
end Go.Proofs.YtkdglplfcpindaaGreatDoor

/- rules.go: analysis, object. -/
namespace Go.Proofs.YtkdglplfcpindaaGreatDoor
open Go.RowKit

theorem all_cons (p : Int) (x : Int) (l : List Int) : (x :: l).all (fun y => decide (y = p)) = (decide (x = p) && l.all (fun y => decide (y = p))) := rfl

set_option maxHeartbeats 2000000 in
set_option maxRecDepth 100000 in
theorem r_analysis (c : Value) (V L : Env) (pv pl : Value) (k : Nat) (t : Tm) (ux uc : Value) (vp : Value) (p0 p1 : Int) (l : List Int) (w : World) (hV : RB w V pv) (hL : RB w L pl) (ht : RT w k t ux uc) (hp : RInts w vp (p0 :: p1 :: l)) (hl : l.length ≤ 1000000) :
    Calls Tryz.prog 93 #[c, scV pv pl, tV t ux uc, vp] w fun e w' => e = .returned (.tuple #[.int .i64 (if l.all (fun y => decide (y = p1)) then p1 else 0), .bool (l.all (fun y => decide (y = p1)) && decide (p0 = t.ty))]) ∧ Ext w w' := by
  have HV := Lib.hid hV; have HL := Lib.hid hL
  have hmx : Tryz.prog.follows .mixedOrders = true := by kernel_rfl
  obtain ⟨qv, rfl⟩ := hV.form
  obtain ⟨ql, rfl⟩ := hL.form
  obtain ⟨_, ⟨Aa, ca, rfl, -, -⟩, ⟨Bb, cb, rfl, -, -⟩⟩ := ht.form
  clear hV hL ht
  have HE := Lib.hid (Ext.al2 w (.cells #[.pointer qv, .pointer ql] 134) (.cells #[.int .i64 t.op, .int .i64 t.n, .string t.nm, .int .i64 t.ty, .slice Aa t.args.length ca, .slice Bb t.cls.length cb] 50))
  obtain ⟨hb1, hb2⟩ := box_st w (.pointer qv) (.pointer ql) (.int .i64 t.op) (.int .i64 t.n) (.string t.nm) (.int .i64 t.ty) (.slice Aa t.args.length ca) (.slice Bb t.cls.length cb)
  have HB1 := Lib.hid hb1; have HB2 := Lib.hid hb2
  clear hb1 hb2
  have HP := Lib.hid hp
  obtain ⟨Ap, cp, rfl, hpc, hpm⟩ := hp.form
  obtain ⟨bp, op, rfl, -, f0⟩ := hp.at_ (k := 0) (by simp)
  obtain ⟨bq1, oq1, e1, -, f1⟩ := hp.at_ (k := 1) (by simp)
  cases e1
  simp only [Nat.add_zero, List.getElem_cons_zero, List.getElem_cons_succ] at f0 f1
  have HFW0 := Lib.hid f0
  have HF0 := Lib.hid (HE.out.keep f0)
  have HF1 := Lib.hid (HE.out.keep f1)
  have HLE : Hid (∀ j y, l[j]? = some y → w.cell? ⟨bp, op + (j + 2), none⟩ = some (.int .i64 y)) := fun j y hj => by
    obtain ⟨A', c', he, -, -, h3⟩ := hp
    cases he
    obtain ⟨b, o, e, _, hc⟩ := h3 (j + 2) y (by simpa using hj)
    cases e
    exact hc
  clear hp f0 f1
  have hl0 : 0 < (p0 :: p1 :: l).length := by simp
  have hl1 : 1 < (p0 :: p1 :: l).length := by simp
  have hl2 : (p0 :: p1 :: l).length = l.length + 2 := by simp
  unfold maxLen at hpm
  generalize (p0 :: p1 :: l).length = n at *
  subst hl2
  have HAL : Hid (l.all (fun y => decide (y = p1)) = l.all (fun y => decide (y = p1))) := rfl
  obtain ⟨ra, hra⟩ : ∃ ra, l.all (fun y => decide (y = p1)) = ra := ⟨_, rfl⟩
  have HRA := Lib.hid hra
  rw [hra]
  clear hra HAL
  obtain ⟨yv, hyv⟩ : ∃ yv : Int, (if ra = true then p1 else 0) = yv := ⟨_, rfl⟩
  have HY := Lib.hid hyv
  rw [hyv]
  clear hyv
  go_enter Tryz.func93, Tryz.ntmps93
  by_cases hcap : cp = 2
  · have hl0' : l.length = 0 := by omega
    subst hcap
    go_upto_region 1 with fail
    generalize World.alloc (World.alloc w _) _ = w1 at *
    have c0 := ExtOf.cell HF0.out
    have c1 := ExtOf.cell HF1.out
    refine wp_region_ext (w0 := w1) hmx (by kernel_rfl) (Ext.rf _) ?_
    repeat (first | go_big_quiet_step (fail) | quiet_step (fail))
    refine wpQuiet_nil ?_
    rintro _ ⟨⟨w2, hx⟩, rfl⟩
    have HX2 := Lib.hid hx
    have HW2 := Lib.hid (HE.out.tr hx)
    clear hx
    clear c0 c1
    go_wp2
    go_loopw [21] (fun i wr => ∃ j : Nat, j ≤ l.length ∧ i = .int .i64 j ∧ ra = (l.drop j).all (fun y => decide (y = p1)) ∧ Ext w1 wr) (fun i _ => l.length - (intOf i).toNat)
    case atStart => exact ⟨0, Nat.zero_le _, rfl, HRA.out.symm, HX2.out⟩
    case round =>
      obtain ⟨j, hj, rfl, hr, hb⟩ := hrel
      have HR := Lib.hid hr; have HX3 := Lib.hid hb; have HX := Lib.hid (HE.out.tr hb)
      clear hr hb
      by_cases hlt : j < l.length
      · exfalso; omega
      · have HR1 : Hid (ra = true) := by show ra = true; rw [HR.out, drop_end hlt]; rfl
        generalize wr = wl at *
        go_upto_region 8 with fail
        have hk0 : wl.cell? ⟨bp, op, none⟩ = some (.int .i64 p0) := HX.out.keep HFW0.out
        have c0 := ExtOf.cell hk0
        have n3 := ExtOf.cell (HX3.out.keep (cellAt HB2.out 3))
        refine wp_region_ext (w0 := wl) hmx (by kernel_rfl) (Ext.rf _) ?_
        repeat (first | go_big_quiet_step (fail) | quiet_step (fail))
        refine wpQuiet_nil ?_
        rintro _ ⟨⟨w9, hx⟩, rfl⟩
        have HX9 := Lib.hid (HX.out.tr hx)
        clear hx
        go_wp2
        go_ret2
        exact ⟨by rw [← HY.out, HR1.out]; rfl, HX9.out⟩
  · have hcap2 : ¬ cp - 2 = 0 := by omega
    go_upto_region 1 with fail
    generalize World.alloc (World.alloc w _) _ = w1 at *
    have c0 := ExtOf.cell HF0.out
    have c1 := ExtOf.cell HF1.out
    refine wp_region_ext (w0 := w1) hmx (by kernel_rfl) (Ext.rf _) ?_
    repeat (first | go_big_quiet_step (fail) | quiet_step (fail))
    refine wpQuiet_nil ?_
    rintro _ ⟨⟨w2, hx⟩, rfl⟩
    have HX2 := Lib.hid hx
    have HW2 := Lib.hid (HE.out.tr hx)
    clear hx
    clear c0 c1
    go_wp2
    go_loopw [21] (fun i wr => ∃ j : Nat, j ≤ l.length ∧ i = .int .i64 j ∧ ra = (l.drop j).all (fun y => decide (y = p1)) ∧ Ext w1 wr) (fun i _ => l.length - (intOf i).toNat)
    case atStart => exact ⟨0, Nat.zero_le _, rfl, HRA.out.symm, HX2.out⟩
    case round =>
      obtain ⟨j, hj, rfl, hr, hb⟩ := hrel
      have HR := Lib.hid hr; have HX3 := Lib.hid hb; have HX := Lib.hid (HE.out.tr hb)
      clear hr hb
      by_cases hlt : j < l.length
      · have c2 := HX.out.keep (HLE.out j _ (List.getElem?_eq_getElem hlt))
        have HD := Lib.hid (drop_step hlt)
        generalize l[j] = x at *
        rw [show op + (j + 2) = op + 2 + j by omega] at c2
        cases hq : decide (x = p1)
        · have hq' : (x != p1) = true := by simpa using hq
          have HQ := Lib.hid hq
          clear hq
          go_wp2
          go_ret2
          have hrf : ra = false := by rw [HR.out, HD.out, all_cons, HQ.out]; rfl
          exact ⟨by rw [← HY.out, hrf]; rfl, HX.out⟩
        · have hq' : (x != p1) = false := by simpa using hq
          have HQ := Lib.hid hq
          clear hq
          go_wp2
          exact ⟨⟨j + 1, by omega, by go_num, by rw [HR.out, HD.out, all_cons, HQ.out]; rfl, HX3.out⟩, by simp [intOf]; omega⟩
      · have HR1 : Hid (ra = true) := by show ra = true; rw [HR.out, drop_end hlt]; rfl
        generalize wr = wl at *
        go_upto_region 8 with fail
        have hk0 : wl.cell? ⟨bp, op, none⟩ = some (.int .i64 p0) := HX.out.keep HFW0.out
        have c0 := ExtOf.cell hk0
        have n3 := ExtOf.cell (HX3.out.keep (cellAt HB2.out 3))
        refine wp_region_ext (w0 := wl) hmx (by kernel_rfl) (Ext.rf _) ?_
        repeat (first | go_big_quiet_step (fail) | quiet_step (fail))
        refine wpQuiet_nil ?_
        rintro _ ⟨⟨w9, hx⟩, rfl⟩
        have HX9 := Lib.hid (HX.out.tr hx)
        clear hx
        go_wp2
        go_ret2
        exact ⟨by rw [← HY.out, HR1.out]; rfl, HX9.out⟩

def resAll (rs : List Int) (ps : List Int) : Bool := eqL ps rs

set_option maxHeartbeats 2000000 in
set_option maxRecDepth 100000 in
theorem r_object (c : Value) (V L : Env) (pv pl : Value) (k : Nat) (t : Tm) (ux uc : Value) (vp : Value) (gc : Nat) (P : Pg) (u : Nat) (d : Decl) (ps : List Int) (w : World) (hV : RB w V pv) (hL : RB w L pl) (ht : RT w k t ux uc) (hc : c = .pointer (some ⟨gc, 0, none⟩)) (hk : RCk w gc P) (hty : t.ty = ((u + 1 : Nat) : Int)) (hf : P.decls[u]? = some d) (hdl : P.decls.length ≤ 1000000) (hxl : d.xtors.length ≤ 1000000) (hps : ps.length = d.xtors.length) (hp : RInts w vp ps) :
    Calls Tryz.prog 94 #[c, scV pv pl, tV t ux uc, vp] w fun e w' => e = .returned (.tuple #[.int .i64 (if eqL ps ((d.xtors.map (sgX d (u + 1))).map Sg.res) then t.ty else 0), .bool (eqL ps ((d.xtors.map (sgX d (u + 1))).map Sg.res))]) ∧ Ext w w' := by
  have HV := Lib.hid hV; have HL := Lib.hid hL
  have hmx : Tryz.prog.follows .mixedOrders = true := by kernel_rfl
  obtain ⟨qv, rfl⟩ := hV.form
  obtain ⟨ql, rfl⟩ := hL.form
  obtain ⟨_, ⟨Aa, ca, rfl, -, -⟩, ⟨Bb, cb, rfl, -, -⟩⟩ := ht.form
  clear hV hL ht
  have HE := Lib.hid (Ext.al2 w (.cells #[.pointer qv, .pointer ql] 134) (.cells #[.int .i64 t.op, .int .i64 t.n, .string t.nm, .int .i64 t.ty, .slice Aa t.args.length ca, .slice Bb t.cls.length cb] 50))
  obtain ⟨hb1, hb2⟩ := box_st w (.pointer qv) (.pointer ql) (.int .i64 t.op) (.int .i64 t.n) (.string t.nm) (.int .i64 t.ty) (.slice Aa t.args.length ca) (.slice Bb t.cls.length cb)
  have HB1 := Lib.hid hb1; have HB2 := Lib.hid hb2
  clear hb1 hb2
  subst hc
  have HP := Lib.hid hp
  obtain ⟨Ap, cp, rfl, -, -⟩ := hp.form
  clear hp
  have HXS := Lib.hid (xsP_at hf)
  obtain ⟨rs, hrs'⟩ : ∃ rs, d.xtors.map (sgX d (u + 1)) = rs := ⟨_, rfl⟩
  have HRS := Lib.hid hrs'
  rw [hrs'] at HXS ⊢
  have hrl : ps.length = rs.length := by rw [← hrs', List.length_map]; exact hps
  have hrm : rs.length ≤ 1000000 := by omega
  have hul : u + 1 < (xsP P).length := (List.getElem?_eq_some_iff.1 HXS.out).1
  have hulm : (xsP P).length ≤ 1000001 := by rw [xsP_len]; omega
  obtain ⟨-, ⟨vx, g1, hrs⟩⟩ := hk.below HE.out
  obtain ⟨Ax, cx, rfl, -, -⟩ := hrs.form
  obtain ⟨bx, ox, vr, rfl, r0, hrow⟩ := hrs.at_ HXS.out
  obtain ⟨Ar, cr, rfl, -, -⟩ := hrow.form
  have HROW := Lib.hid hrow
  have HG1 := Lib.hid g1; have HR0 := Lib.hid r0
  clear hrs hk hf hrow g1 r0 hrs' HXS hps hxl hdl
  generalize (xsP P).length = nx at *
  have HTY := Lib.hid hty
  clear hty
  obtain ⟨ra, hra⟩ : ∃ ra, eqL ps (rs.map Sg.res) = ra := ⟨_, rfl⟩
  have HRA := Lib.hid hra
  rw [hra]
  clear hra
  obtain ⟨yv, hyv⟩ : ∃ yv : Int, (if ra = true then t.ty else 0) = yv := ⟨_, rfl⟩
  have HY := Lib.hid hyv
  rw [hyv]
  clear hyv
  go_enter Tryz.func94, Tryz.ntmps94
  go_wp2
  generalize World.alloc (World.alloc w _) _ = w1 at *
  go_loopw [14] (fun i wr => ∃ j : Nat, j ≤ ps.length ∧ i = .int .i64 j ∧ ra = eqL (ps.drop j) ((rs.map Sg.res).drop j) ∧ Ext w1 wr) (fun i _ => ps.length - (intOf i).toNat)
  case atStart => exact ⟨0, Nat.zero_le _, rfl, HRA.out.symm, Ext.rf _⟩
  case round =>
    obtain ⟨j, hj, rfl, hr, hb⟩ := hrel
    have HR := Lib.hid hr; have HX3 := Lib.hid hb; have HX := Lib.hid (HE.out.tr hb)
    clear hr hb
    by_cases hlt : j < ps.length
    · have hltr : j < rs.length := by omega
      have hltm : j < (rs.map Sg.res).length := by rw [List.length_map]; exact hltr
      obtain ⟨bq, oq, hA, -, c2⟩ := (HP.out.below HX.out).at_ hlt
      obtain ⟨bs, os, vs, hAr, s0, s1, hsa⟩ := (HROW.out.below HX3.out).at_ (List.getElem?_eq_getElem hltr)
      cases hA; cases hAr
      have HD := Lib.hid (drop_step hlt)
      have HD2 := Lib.hid (drop_step hltm)
      have hgm : (rs.map Sg.res)[j] = (rs[j]).res := List.getElem_map ..
      have HGM := Lib.hid hgm
      obtain ⟨As, cs, rfl, -, -⟩ := hsa.form
      clear hsa hgm
      generalize (rs.map Sg.res)[j] = z at *
      generalize ps[j] = x at *
      generalize rs[j] = sg at *
      have HZ : Hid (z = sg.res) := HGM.out
      have n3 : wr.cell? ⟨w.heap.size + 1, 3, none⟩ = some (.int .i64 t.ty) := HX3.out.keep (cellAt HB2.out 3)
      rw [HTY.out] at n3
      have HN3 := Lib.hid n3
      have HS0 := Lib.hid s0; have HS1 := Lib.hid s1
      clear n3 s0 s1
      go_upto_region 4 with fail
      have n3 := ExtOf.cell HN3.out
      have s0 := ExtOf.cell HS0.out
      have s1 := ExtOf.cell HS1.out
      have g1 := ExtOf.cell (HX3.out.keep HG1.out)
      have r0 := ExtOf.cell (HX3.out.keep HR0.out)
      cases hq : decide (x = sg.res)
      · have hq' : (x != sg.res) = true := by simpa using hq
        have HQ := Lib.hid hq
        clear hq
        refine wp_region_ext (w0 := wr) hmx (by kernel_rfl) (Ext.rf _) ?_
        repeat (first | go_big_quiet_step (fail) | quiet_step (fail))
        refine wpQuiet_nil ?_
        rintro _ ⟨⟨w9, hx⟩, rfl⟩
        have HX9 := Lib.hid (HX.out.tr hx)
        clear hx
        go_wp2
        go_ret2
        have hrf : ra = false := by rw [HR.out, HD.out, HD2.out, HZ.out, eqL_cons, HQ.out]; rfl
        exact ⟨by rw [← HY.out, hrf]; rfl, HX9.out⟩
      · have hq' : (x != sg.res) = false := by simpa using hq
        have HQ := Lib.hid hq
        clear hq
        refine wp_region_ext (w0 := wr) hmx (by kernel_rfl) (Ext.rf _) ?_
        repeat (first | go_big_quiet_step (fail) | quiet_step (fail))
        refine wpQuiet_nil ?_
        rintro _ ⟨⟨w9, hx⟩, rfl⟩
        have HX9 := Lib.hid (HX3.out.tr hx)
        clear hx
        go_wp2
        exact ⟨⟨j + 1, by omega, by go_num, by rw [HR.out, HD.out, HD2.out, HZ.out, eqL_cons, HQ.out]; rfl, HX9.out⟩, by simp [intOf]; omega⟩
    · have HR1 : Hid (ra = true) := by
        show ra = true
        rw [HR.out, drop_end hlt, drop_end (by rw [List.length_map]; omega)]; rfl
      have n3 := HX3.out.keep (cellAt HB2.out 3)
      go_wp2
      go_ret2
      exact ⟨by rw [← HY.out, HR1.out]; rfl, HX.out⟩
end Go.Proofs.YtkdglplfcpindaaGreatDoor
