/- ref06: ExactCore, of equal programs. -/
import Derived.Test.YtkdhhcidpklgoaaDoorQ26
namespace Go.Proofs.YtkdhhcidpklgoaaDoor
open Go.RowKit Go.Shelf
attribute [local go_sem] Oper.semAt_some

set_option maxHeartbeats 8000000 in
set_option maxRecDepth 100000 in
theorem exactCore_any (vd vf vd' vf' : Value) (C : Cg) (w : World) (hC : RCg w vd vf C) (hD : RCg w vd' vf' C) (hS : ShC C) (hB : ∀ f ∈ C.funs, BN f.body) :
    Calls Tryd.prog 12 #[cV vd vf, cV vd' vf'] w fun e w' => e = .returned (.bool true) ∧ Ext w w' := by
  have HSD := Lib.hid (fun W (hW : Ext w W) => RSameD_any vd vd' C.decls C.decls W (hC.d.below hW) (hD.d.below hW))
  rw [eqDs_refl] at HSD
  have HC := Lib.hid hC; have HD := Lib.hid hD; have HB := Lib.hid hB
  have hfl := hS.fl
  obtain ⟨Ad, cd, rfl, -, -⟩ := hC.d.form
  obtain ⟨Af, cf, rfl, -, hmf⟩ := hC.f.form
  obtain ⟨Ad', cd', rfl, -, -⟩ := hD.d.form
  obtain ⟨Af', cf', rfl, -, -⟩ := hD.f.form
  clear hC hD hB hS
  have HE2 := Lib.hid (Ext.al2 w (.cells #[.slice Ad C.decls.length cd, .slice Af C.funs.length cf] 25) (.cells #[.slice Ad' C.decls.length cd', .slice Af' C.funs.length cf'] 25))
  have HB1 := Lib.hid (Ext.lt (Ext.al (w.alloc (.cells #[.slice Ad C.decls.length cd, .slice Af C.funs.length cf] 25)) (.cells #[.slice Ad' C.decls.length cd', .slice Af' C.funs.length cf'] 25)) (heapNew w (.cells #[.slice Ad C.decls.length cd, .slice Af C.funs.length cf] 25)))
  have HB2 := Lib.hid (heapNew2 w (.cells #[.slice Ad C.decls.length cd, .slice Af C.funs.length cf] 25) (.cells #[.slice Ad' C.decls.length cd', .slice Af' C.funs.length cf'] 25))
  go_enter Tryd.func12, Tryd.ntmps12
  go_wp2_with fail
  generalize (w.alloc _).alloc _ = w2 at *
  have a0 := cellAt HB1.out 0
  have e0 := cellAt HB2.out 0
  go_wp2_with (go_at_call 27; (with_reducible refine (HSD.out _ HE2.out).mono ?_); rintro e w3 ⟨rfl, hx3⟩; have HX3 := Lib.hid hx3; have a1 := cellAt (hx3.lt HB1.out) 1; have e1 := cellAt (hx3.lt HB2.out) 1; clear hx3)
  clear a0 e0 a1 e1
  go_loopw [26] (fun i wr => ∃ j : Nat, j ≤ C.funs.length ∧ i = .int .i64 j ∧ Ext w2 wr) (fun i _ => C.funs.length - (intOf i).toNat)
  case atStart => exact ⟨0, Nat.zero_le _, rfl, HX3.out⟩
  case round =>
    obtain ⟨j, hj, rfl, hx⟩ := hrel
    have HX2 := Lib.hid hx
    have HXV : Hid (Ext w wr) := HE2.out.tr hx
    clear hx
    by_cases hlt : j < C.funs.length
    · obtain ⟨b, o, vp, vv, xa, xb, k, rfl, hbl, y0, y1, y2, yc, -, y4, y5, yt⟩ := HC.out.f.at_ hlt
      obtain ⟨b', o', vp', vv', xa', xb', k', rfl, hbl', y0', y1', y2', yc', -, y4', y5', yt'⟩ := HD.out.f.at_ hlt
      have HCALL := Lib.hid (fun W (hW : Ext w W) => exact_any (cntN (C.funs[j]).body) (C.funs[j]).body xa xb xa' xb' W (yt.cnt.below hW) (yt'.cnt.below hW) (HB.out _ (List.getElem_mem hlt)))
      have HCI := Lib.hid (fun W (hW : Ext w W) => SameInts_any vv vv' (C.funs[j]).vars (C.funs[j]).vars W (y5.below hW) (y5'.below hW))
      have HCA := Lib.hid (fun W (hW : Ext w W) => SameArgs_any vp vp' (C.funs[j]).ps (C.funs[j]).ps W (y4.below hW) (y4'.below hW))
      rw [eqI_refl] at HCI
      rw [eqAs_refl] at HCA
      obtain ⟨-, ⟨Ax, cx, rfl, -, -⟩, ⟨Bx, dx, rfl, -, -⟩⟩ := yt.form
      obtain ⟨-, ⟨Ax', cx', rfl, -, -⟩, ⟨Bx', dx', rfl, -, -⟩⟩ := yt'.form
      obtain ⟨Ap, cp, rfl, -, -⟩ := y4.form
      obtain ⟨Ap', cp', rfl, -, -⟩ := y4'.form
      obtain ⟨Av, cv, rfl, -, -⟩ := y5.form
      obtain ⟨Av', cv', rfl, -, -⟩ := y5'.form
      have y0 := HXV.out.keep y0
      have y1 := HXV.out.keep y1
      have y2 := HXV.out.keep y2
      obtain ⟨k0, k1, k2, k3, k4⟩ := yc.below HXV.out
      have HY0 := Lib.hid (fun W (hW : Ext w W) => hW.keep y0')
      have HY1 := Lib.hid (fun W (hW : Ext w W) => hW.keep y1')
      have HY2 := Lib.hid (fun W (hW : Ext w W) => hW.keep y2')
      have HYC := Lib.hid (fun W (hW : Ext w W) => yc'.below hW)
      generalize C.funs[j] = f at *
      have h2 := HX2.out.lt HB2.out
      have h1 := HX2.out.lt HB1.out
      have HE5 := Lib.hid (Ext.al wr (.cells #[.string f.nm, .slice Ap f.ps.length cp, .slice Av f.vars.length cv, .int .i64 f.body.op, .int .i64 f.body.n, .int .i64 f.body.ty, .slice Ax f.body.args.length cx, .slice Bx f.body.brs.length dx] 47))
      have e1 := cellAt (HE5.out.lt h2) 1
      have y0' := HY0.out _ (HXV.out.tr HE5.out)
      have y1' := HY1.out _ (HXV.out.tr HE5.out)
      have y2' := HY2.out _ (HXV.out.tr HE5.out)
      obtain ⟨l0, l1, l2, l3, l4⟩ := HYC.out _ (HXV.out.tr HE5.out)
      have HE6 := Lib.hid (Ext.al2 wr (.cells #[.string f.nm, .slice Ap f.ps.length cp, .slice Av f.vars.length cv, .int .i64 f.body.op, .int .i64 f.body.n, .int .i64 f.body.ty, .slice Ax f.body.args.length cx, .slice Bx f.body.brs.length dx] 47) (.cells #[.string f.nm, .slice Ap' f.ps.length cp', .slice Av' f.vars.length cv', .int .i64 f.body.op, .int .i64 f.body.n, .int .i64 f.body.ty, .slice Ax' f.body.args.length cx', .slice Bx' f.body.brs.length dx'] 47))
      have HM5 := Lib.hid (Ext.lt (Ext.al (wr.alloc (.cells #[.string f.nm, .slice Ap f.ps.length cp, .slice Av f.vars.length cv, .int .i64 f.body.op, .int .i64 f.body.n, .int .i64 f.body.ty, .slice Ax f.body.args.length cx, .slice Bx f.body.brs.length dx] 47)) (.cells #[.string f.nm, .slice Ap' f.ps.length cp', .slice Av' f.vars.length cv', .int .i64 f.body.op, .int .i64 f.body.n, .int .i64 f.body.ty, .slice Ax' f.body.args.length cx', .slice Bx' f.body.brs.length dx'] 47)) (heapNew wr (.cells #[.string f.nm, .slice Ap f.ps.length cp, .slice Av f.vars.length cv, .int .i64 f.body.op, .int .i64 f.body.n, .int .i64 f.body.ty, .slice Ax f.body.args.length cx, .slice Bx f.body.brs.length dx] 47)))
      have HM6 := Lib.hid (heapNew2 wr (.cells #[.string f.nm, .slice Ap f.ps.length cp, .slice Av f.vars.length cv, .int .i64 f.body.op, .int .i64 f.body.n, .int .i64 f.body.ty, .slice Ax f.body.args.length cx, .slice Bx f.body.brs.length dx] 47) (.cells #[.string f.nm, .slice Ap' f.ps.length cp', .slice Av' f.vars.length cv', .int .i64 f.body.op, .int .i64 f.body.n, .int .i64 f.body.ty, .slice Ax' f.body.args.length cx', .slice Bx' f.body.brs.length dx'] 47))
      have hz5 : (wr.alloc (.cells #[.string f.nm, .slice Ap f.ps.length cp, .slice Av f.vars.length cv, .int .i64 f.body.op, .int .i64 f.body.n, .int .i64 f.body.ty, .slice Ax f.body.args.length cx, .slice Bx f.body.brs.length dx] 47)).heap.size = wr.heap.size + 1 := by simp
      have hjl : (j : Int) < C.funs.length := by omega
      have HCELL : Hid (∀ W, Ext ((wr.alloc (.cells #[.string f.nm, .slice Ap f.ps.length cp, .slice Av f.vars.length cv, .int .i64 f.body.op, .int .i64 f.body.n, .int .i64 f.body.ty, .slice Ax f.body.args.length cx, .slice Bx f.body.brs.length dx] 47)).alloc (.cells #[.string f.nm, .slice Ap' f.ps.length cp', .slice Av' f.vars.length cv', .int .i64 f.body.op, .int .i64 f.body.n, .int .i64 f.body.ty, .slice Ax' f.body.args.length cx', .slice Bx' f.body.brs.length dx'] 47)) W → W.cell? ⟨wr.heap.size, 0, none⟩ = some (.string f.nm) ∧ W.cell? ⟨wr.heap.size, 1, none⟩ = some (.slice Ap f.ps.length cp) ∧ W.cell? ⟨wr.heap.size, 2, none⟩ = some (.slice Av f.vars.length cv) ∧ W.cell? ⟨wr.heap.size, 3, none⟩ = some (.int .i64 f.body.op) ∧ W.cell? ⟨wr.heap.size, 4, none⟩ = some (.int .i64 f.body.n) ∧ W.cell? ⟨wr.heap.size, 5, none⟩ = some (.int .i64 f.body.ty) ∧ W.cell? ⟨wr.heap.size, 6, none⟩ = some (.slice Ax f.body.args.length cx) ∧ W.cell? ⟨wr.heap.size, 7, none⟩ = some (.slice Bx f.body.brs.length dx) ∧ W.cell? ⟨wr.heap.size + 1, 0, none⟩ = some (.string f.nm) ∧ W.cell? ⟨wr.heap.size + 1, 1, none⟩ = some (.slice Ap' f.ps.length cp') ∧ W.cell? ⟨wr.heap.size + 1, 2, none⟩ = some (.slice Av' f.vars.length cv') ∧ W.cell? ⟨wr.heap.size + 1, 3, none⟩ = some (.int .i64 f.body.op) ∧ W.cell? ⟨wr.heap.size + 1, 4, none⟩ = some (.int .i64 f.body.n) ∧ W.cell? ⟨wr.heap.size + 1, 5, none⟩ = some (.int .i64 f.body.ty) ∧ W.cell? ⟨wr.heap.size + 1, 6, none⟩ = some (.slice Ax' f.body.args.length cx') ∧ W.cell? ⟨wr.heap.size + 1, 7, none⟩ = some (.slice Bx' f.body.brs.length dx')) := fun W hW => by
        have h5 := hW.lt HM5.out
        have h6 := hW.lt HM6.out
        exact ⟨cellAt h5 0, cellAt h5 1, cellAt h5 2, cellAt h5 3, cellAt h5 4, cellAt h5 5, cellAt h5 6, cellAt h5 7, cellAt h6 0, cellAt h6 1, cellAt h6 2, cellAt h6 3, cellAt h6 4, cellAt h6 5, cellAt h6 6, cellAt h6 7⟩
      obtain ⟨m0, m1, m2, m3, m4, m5, m6, m7, p0, p1, p2, p3, p4, p5, p6, p7⟩ := HCELL.out _ (Ext.rf _)
      clear yc yt yc' yt' y4 y5 y4' y5' hbl hbl' h2 h1
      go_wp2_with (first
        | (go_at_call 28; (with_reducible refine (HCA.out _ (HXV.out.tr HE6.out)).mono ?_); rintro e w5 ⟨rfl, n5, hn5⟩; have hx5 : Ext ((wr.alloc (.cells #[.string f.nm, .slice Ap f.ps.length cp, .slice Av f.vars.length cv, .int .i64 f.body.op, .int .i64 f.body.n, .int .i64 f.body.ty, .slice Ax f.body.args.length cx, .slice Bx f.body.brs.length dx] 47)).alloc (.cells #[.string f.nm, .slice Ap' f.ps.length cp', .slice Av' f.vars.length cv', .int .i64 f.body.op, .int .i64 f.body.n, .int .i64 f.body.ty, .slice Ax' f.body.args.length cx', .slice Bx' f.body.brs.length dx'] 47)) w5 := (by rw [hn5]; exact Ext.drewN (Ext.rf _) n5); have HX5 := Lib.hid (HE6.out.tr hx5); obtain ⟨m0, m1, m2, m3, m4, m5, m6, m7, p0, p1, p2, p3, p4, p5, p6, p7⟩ := HCELL.out _ hx5; have HXQ5 := Lib.hid hx5; clear hx5 hn5)
        | (go_at_call 11; (with_reducible refine (HCI.out _ (HXV.out.tr HX5.out)).mono ?_); rintro e w6 ⟨rfl, hx6⟩; have HX6 := Lib.hid (HX5.out.tr hx6); obtain ⟨m0, m1, m2, m3, m4, m5, m6, m7, p0, p1, p2, p3, p4, p5, p6, p7⟩ := HCELL.out _ (HXQ5.out.tr hx6); clear hx6)
        | (go_at_call 13; (with_reducible refine (HCALL.out _ (HXV.out.tr HX6.out)).mono ?_); rintro e w8 ⟨rfl, hx8⟩))
      exact ⟨⟨j + 1, by omega, by go_num, HX2.out.tr (HX6.out.tr hx8)⟩, by simp [intOf]; omega⟩
    · go_wp2
      go_ret
      exact ⟨rfl, HXV.out⟩
end Go.Proofs.YtkdhhcidpklgoaaDoor

/- law.go: the fixed examples of layer 7, as data and in memory. -/
namespace Go.Proofs.YtkdhhcidpklgoaaDoor
open Go.RowKit Go.Shelf
attribute [local go_sem] Oper.semAt_some

def sMain : ByteArray := ⟨#[109, 97, 105, 110]⟩
def sList : ByteArray := ⟨#[108, 105, 115, 116]⟩
def sNil : ByteArray := ⟨#[78, 105, 108]⟩
def exD : List Decl := [⟨sList, false, [⟨sNil, []⟩]⟩]
def exVar : Nd := .mk 0 0 0 [] []
def exDone : Nd := .mk 14 0 0 [exVar] []
def exMu : Nd := .mk 7 0 0 [exDone] []
def exCut (p : Nd) : Nd := .mk 9 0 0 [p, exMu] []
def exC (p : Nd) : Cg := ⟨exD, [⟨sMain, [], [], exCut p⟩]⟩
def exInt : Nd := .mk 1 3 0 [] []
def exNil : Nd := .mk 2 0 1 [] []
def exX : Nd := .mk 0 4 0 [] []
set_option maxRecDepth 100000
theorem ex_k1 : kindC (exC exInt) = 0 := by kernel_rfl
theorem ex_k2 : kindC (exC exNil) = 70 := by kernel_rfl
theorem ex_t1 : typC (exC exInt) [4, 4] [] [0, 1] [] exX = (1, 0) := by kernel_rfl
theorem ok64_lit {x : Int} (h : (Lit.int .i64 x).wf = true) : ok64 x := h
theorem RNd.leaf (w : World) (k : Nat) (op n ty : Int) (h1 : ok64 op) (h2 : ok64 n) (h3 : ok64 ty) : RNd w (k + 1) (.mk op n ty [] []) (.slice none 0 0) (.slice none 0 0) :=
  ⟨⟨h1, h2, h3⟩, ⟨none, 0, rfl, Nat.le_refl _, Nat.zero_le _, fun i x h => by cases h⟩, ⟨none, 0, rfl, Nat.le_refl _, Nat.zero_le _, fun i x h => by cases h⟩⟩
theorem RNd.one {w : World} {g k : Nat} {op n ty : Int} {a : Nd} {xa xb : Value} (h1 : ok64 op) (h2 : ok64 n) (h3 : ok64 ty)
    (hg : w.heap[g]? = some (.cells #[.int .i64 a.op, .int .i64 a.n, .int .i64 a.ty, xa, xb] 31 (0, 0))) (ha : RNd w k a xa xb) : RNd w (k + 1) (.mk op n ty [a] []) (.slice (some ⟨g, 0, none⟩) 1 1) (.slice none 0 0) :=
  ⟨⟨h1, h2, h3⟩, ⟨some ⟨g, 0, none⟩, 1, rfl, Nat.le_refl _, by decide, fun i x hi => by
    match i, hi with
    | 0, hi => obtain rfl := Option.some.inj hi; exact ⟨g, 0, xa, xb, rfl, heap_lt hg, ⟨cellAt hg 0, cellAt hg 1, cellAt hg 2, cellAt hg 3, cellAt hg 4⟩, ha⟩⟩,
    ⟨none, 0, rfl, Nat.le_refl _, Nat.zero_le _, fun i x h => by cases h⟩⟩
theorem RNd.two {w : World} {g k : Nat} {op n ty : Int} {a b : Nd} {xa xb ya yb : Value} (h1 : ok64 op) (h2 : ok64 n) (h3 : ok64 ty)
    (hg : w.heap[g]? = some (.cells #[.int .i64 a.op, .int .i64 a.n, .int .i64 a.ty, xa, xb, .int .i64 b.op, .int .i64 b.n, .int .i64 b.ty, ya, yb] 31 (0, 0))) (ha : RNd w k a xa xb) (hb : RNd w k b ya yb) :
    RNd w (k + 1) (.mk op n ty [a, b] []) (.slice (some ⟨g, 0, none⟩) 2 2) (.slice none 0 0) :=
  ⟨⟨h1, h2, h3⟩, ⟨some ⟨g, 0, none⟩, 2, rfl, Nat.le_refl _, by decide, fun i x hi => by
    match i, hi with
    | 0, hi => obtain rfl := Option.some.inj hi; exact ⟨g, 0, xa, xb, rfl, heap_lt hg, ⟨cellAt hg 0, cellAt hg 1, cellAt hg 2, cellAt hg 3, cellAt hg 4⟩, ha⟩
    | 1, hi => obtain rfl := Option.some.inj hi; exact ⟨g, 0, ya, yb, rfl, heap_lt hg, ⟨cellAt hg 5, cellAt hg 6, cellAt hg 7, cellAt hg 8, cellAt hg 9⟩, hb⟩⟩,
    ⟨none, 0, rfl, Nat.le_refl _, Nat.zero_le _, fun i x h => by cases h⟩⟩
theorem args_nil (w : World) : RArgs w (.slice none 0 0) [] := ⟨none, 0, rfl, Nat.le_refl _, Nat.zero_le _, fun i x h => by cases h⟩
theorem ex_fun {w : World} {g k : Nat} {t : Nd} {va vb : Value} (hg : w.heap[g]? = some (.cells #[.string sMain, .slice none 0 0, .slice none 0 0, .int .i64 t.op, .int .i64 t.n, .int .i64 t.ty, va, vb] 47 (0, 0))) (ht : RNd w k t va vb) : RCFs w (.slice (some ⟨g, 0, none⟩) 1 1) [⟨sMain, [], [], t⟩] :=
  ⟨_, 1, rfl, Nat.le_refl _, by decide, fun i f hi => by
    match i, hi with
    | 0, hi =>
      obtain rfl := Option.some.inj hi
      exact ⟨_, 0, _, _, _, _, k, rfl, heap_lt hg, cellAt hg 0, cellAt hg 1, cellAt hg 2, ⟨cellAt hg 3, cellAt hg 4, cellAt hg 5, cellAt hg 6, cellAt hg 7⟩, by show sMain.size ≤ maxLen; decide, args_nil _, RInts.nil _, ht⟩⟩
theorem ex_decl {w : World} {g h : Nat} (hg : w.heap[g]? = some (.cells #[.string sNil, .slice none 0 0] 50 (0, 0))) (hh : w.heap[h]? = some (.cells #[.string sList, .bool false, .slice (some ⟨g, 0, none⟩) 1 1] 53 (0, 0))) : RDecls w (.slice (some ⟨h, 0, none⟩) 1 1) exD :=
  ⟨_, 1, rfl, Nat.le_refl _, by decide, fun i f hi => by
    match i, hi with
    | 0, hi =>
      obtain rfl := Option.some.inj hi
      exact ⟨_, 0, _, rfl, heap_lt hh, cellAt hh 0, cellAt hh 1, cellAt hh 2, ⟨_, 1, rfl, Nat.le_refl _, by decide, fun i f hi => by
        match i, hi with
        | 0, hi =>
          obtain rfl := Option.some.inj hi
          exact ⟨_, 0, _, rfl, heap_lt hg, cellAt hg 0, cellAt hg 1, args_nil _, by show sNil.size ≤ maxLen; decide⟩⟩, by show sList.size ≤ maxLen; decide⟩⟩
theorem ex_sh (p : Nd) : ShC (exC p) where
  dl := by show 1 ≤ 1048576; decide
  fl := by show 1 ≤ 1048576; decide
  xt := fun d hd => by
    have : d = ⟨sList, false, [⟨sNil, []⟩]⟩ := by simpa [exC, exD] using hd
    subst this
    refine ⟨by decide, fun x hx => ?_⟩
    have : x = ⟨sNil, []⟩ := by simpa using hx
    subst this
    exact ⟨by decide, fun a ha => by cases ha⟩
  fn := fun f hf => by
    have : f = ⟨sMain, [], [], exCut p⟩ := by simpa [exC] using hf
    subst this
    exact ⟨Nat.zero_le _, Nat.zero_le _, fun a ha => by cases ha⟩
theorem ex_bn (p : Nd) (h : bndN p ≤ 10 ∧ cntN p ≤ 10) : ∀ f ∈ (exC p).funs, BN f.body := fun f hf => by
  have : f = ⟨sMain, [], [], exCut p⟩ := by simpa [exC] using hf
  subst this
  refine ⟨?_, ?_⟩
  · show bndN (exCut p) ≤ _
    have : bndN (exCut p) = 1 + (bndN p + 3) := by simp [exCut, exMu, exDone, exVar, bndN, bndA, bndB]
    omega
  · show cntN (exCut p) ≤ _
    have : cntN (exCut p) = 1 + (cntN p + 3) := by simp [exCut, exMu, exDone, exVar, cntN, cntA, cntB]
    omega
theorem box_four (w : World) (a b c d : Obj) : ((((w.alloc a).alloc b).alloc c).alloc d).heap[w.heap.size]? = some a ∧ ((((w.alloc a).alloc b).alloc c).alloc d).heap[w.heap.size + 1]? = some b ∧ ((((w.alloc a).alloc b).alloc c).alloc d).heap[w.heap.size + 2]? = some c ∧ ((((w.alloc a).alloc b).alloc c).alloc d).heap[w.heap.size + 2 + 1]? = some d ∧ Ext w ((((w.alloc a).alloc b).alloc c).alloc d) := by
  obtain ⟨h1, h2, h3⟩ := box_three w a b c
  have h4 := heapNew (((w.alloc a).alloc b).alloc c) d
  simp only [World.size_alloc] at h4
  have e : Ext (((w.alloc a).alloc b).alloc c) ((((w.alloc a).alloc b).alloc c).alloc d) := Ext.al _ _
  exact ⟨e.lt h1, e.lt h2, e.lt h3, h4, ((Ext.al2 _ _ _).tr (Ext.al _ _)).tr e⟩
set_option maxHeartbeats 4000000 in
theorem cut_any (p : Nd) (va vb : Value) (w : World) (k : Nat) (bl bd hl ga gd : Nat) (h : RNd w k p va vb) (hd : RNd w k exMu (.slice (some ⟨gd, 0, none⟩) 1 1) (.slice none 0 0)) (hL : RDecls w (.slice (some ⟨hl, 0, none⟩) 1 1) exD)
    (h1 : w.heap[bl]? = some (.cells #[.slice (some ⟨hl, 0, none⟩) 1 1] 22 (0, 0))) (h2 : w.heap[bd]? = some (.cells #[.int .i64 7, .int .i64 0, .int .i64 0, .slice (some ⟨gd, 0, none⟩) 1 1, .slice none 0 0] 31 (0, 0))) :
    Calls Tryd.prog 15 #[nV p va vb, .pointer (some ⟨bl, 0, none⟩), .pointer (some ⟨bd, 0, none⟩)] w fun e w' => ∃ g, e = .returned (cV (.slice (some ⟨hl, 0, none⟩) 1 1) (.slice (some ⟨g, 0, none⟩) 1 1)) ∧ RCg w' (.slice (some ⟨hl, 0, none⟩) 1 1) (.slice (some ⟨g, 0, none⟩) 1 1) (exC p) ∧ Ext w w' := by
  have H := Lib.hid h; have HD := Lib.hid hd; have HL := Lib.hid hL
  obtain ⟨-, ⟨Ax, cx, rfl, -, -⟩, ⟨Bx, dx, rfl, -, -⟩⟩ := h.form
  have HE2 := Lib.hid (Ext.al2 w (.cells #[.int .i64 p.op, .int .i64 p.n, .int .i64 p.ty, .slice Ax p.args.length cx, .slice Bx p.brs.length dx] 31) (.cells #[.slice none 0 0, .slice none 0 0] 25))
  have HB1 := Lib.hid (Ext.lt (Ext.al (w.alloc (.cells #[.int .i64 p.op, .int .i64 p.n, .int .i64 p.ty, .slice Ax p.args.length cx, .slice Bx p.brs.length dx] 31)) (.cells #[.slice none 0 0, .slice none 0 0] 25)) (heapNew w (.cells #[.int .i64 p.op, .int .i64 p.n, .int .i64 p.ty, .slice Ax p.args.length cx, .slice Bx p.brs.length dx] 31)))
  have HB2 := Lib.hid (heapNew2 w (.cells #[.int .i64 p.op, .int .i64 p.n, .int .i64 p.ty, .slice Ax p.args.length cx, .slice Bx p.brs.length dx] 31) (.cells #[.slice none 0 0, .slice none 0 0] 25))
  have hz2 : ((w.alloc (.cells #[.int .i64 p.op, .int .i64 p.n, .int .i64 p.ty, .slice Ax p.args.length cx, .slice Bx p.brs.length dx] 31)).alloc (.cells #[.slice none 0 0, .slice none 0 0] 25)).heap.size = w.heap.size + 2 := by simp
  have H1 := Lib.hid (HE2.out.lt h1); have H2 := Lib.hid (HE2.out.lt h2)
  clear h hd hL h1 h2
  have c0 := cellAt H1.out 0
  have d0 := cellAt H2.out 0
  have d1 := cellAt H2.out 1
  have d2 := cellAt H2.out 2
  have d3 := cellAt H2.out 3
  have d4 := cellAt H2.out 4
  have p0 := cellAt HB1.out 0
  have p1 := cellAt HB1.out 1
  have p2 := cellAt HB1.out 2
  have p3 := cellAt HB1.out 3
  have p4 := cellAt HB1.out 4
  go_enter Tryd.func15, Tryd.ntmps15
  go_wp2
  obtain ⟨-, g2, g3, g4, g5⟩ := box_four w (.cells #[.int .i64 p.op, .int .i64 p.n, .int .i64 p.ty, .slice Ax p.args.length cx, .slice Bx p.brs.length dx] 31) (.cells #[.slice (some ⟨hl, 0, none⟩) 1 1, .slice (some ⟨w.heap.size + 2 + 1, 0, none⟩) 1 1] 25) (.cells #[.int .i64 p.op, .int .i64 p.n, .int .i64 p.ty, .slice Ax p.args.length cx, .slice Bx p.brs.length dx, .int .i64 7, .int .i64 0, .int .i64 0, .slice (some ⟨gd, 0, none⟩) 1 1, .slice none 0 0] 31) (.cells #[.string ⟨#[109, 97, 105, 110]⟩, .slice none 0 0, .slice none 0 0, .int .i64 9, .int .i64 0, .int .i64 0, .slice (some ⟨w.heap.size + 2, 0, none⟩) 2 2, .slice none 0 0] 47)
  clear hz2 HE2 HB1 HB2 H1 H2 c0 d0 d1 d2 d3 d4 p0 p1 p2 p3 p4
  generalize World.alloc (World.alloc (World.alloc (World.alloc w _) _) _) _ = w4 at *
  have q0 := cellAt g2 0
  have q1 := cellAt g2 1
  exact bodyPost_ret (v := cV (.slice (some ⟨hl, 0, none⟩) 1 1) (.slice (some ⟨w.heap.size + 2 + 1, 0, none⟩) 1 1)) (by simp [results, Tryd.results15, go_sem, q0, q1]) rfl ⟨_, rfl, ⟨HL.out.below g5, ex_fun (t := exCut p) g4 (RNd.two (ok64_lit (by decide)) (ok64_lit (by decide)) (ok64_lit (by decide)) (a := p) (b := exMu) g3 (H.out.below g5) (HD.out.below g5))⟩, g5⟩
end Go.Proofs.YtkdhhcidpklgoaaDoor

/- law.go: awake. -/
namespace Go.Proofs.YtkdhhcidpklgoaaDoor
open Go.RowKit Go.Shelf
attribute [local go_sem] Oper.semAt_some

theorem box_six (w : World) (a b c d e f : Obj) : ∃ W, W = (((((w.alloc a).alloc b).alloc c).alloc d).alloc e).alloc f ∧ W.heap[w.heap.size]? = some a ∧ W.heap[w.heap.size + 1]? = some b ∧ W.heap[w.heap.size + 1 + 1]? = some c ∧ W.heap[w.heap.size + 1 + 1 + 1]? = some d ∧ W.heap[w.heap.size + 1 + 1 + 1 + 1]? = some e ∧ W.heap[w.heap.size + 1 + 1 + 1 + 1 + 1]? = some f ∧ Ext w W := by
  obtain ⟨h1, h2, h3⟩ := box_three w a b c
  obtain ⟨h4, h5, h6⟩ := box_three (((w.alloc a).alloc b).alloc c) d e f
  simp only [World.size_alloc] at h4 h5 h6
  have x : Ext (((w.alloc a).alloc b).alloc c) ((((((w.alloc a).alloc b).alloc c).alloc d).alloc e).alloc f) := (Ext.al2 _ _ _).tr (Ext.al _ _)
  exact ⟨_, rfl, x.lt h1, x.lt h2, x.lt h3, h4, h5, h6, ((Ext.al2 _ _ _).tr (Ext.al _ _)).tr x⟩
theorem RInts.two {w : World} {b : Nat} {x y : Int} {T : Nat} (h : w.heap[b]? = some (.cells #[.int .i64 x, .int .i64 y] T (0, 0))) (h1 : ok64 x) (h2 : ok64 y) : RInts w (.slice (some ⟨b, 0, none⟩) 2 2) [x, y] :=
  ⟨_, 2, rfl, Nat.le_refl _, by decide, fun i a hi => by
    match i, hi with
    | 0, hi => obtain rfl := Option.some.inj hi; exact ⟨_, _, rfl, heap_lt h, cellAt h 0, h1⟩
    | 1, hi => obtain rfl := Option.some.inj hi; exact ⟨_, _, rfl, heap_lt h, cellAt h 1, h2⟩⟩
theorem bn_leaf (op n ty : Int) : BN (.mk op n ty [] []) := ⟨by rw [bndN_eq]; simp [Nd.args, Nd.brs, bndA, bndB], by rw [cntN_eq]; simp [Nd.args, Nd.brs, cntA, cntB]⟩
set_option maxHeartbeats 8000000 in
set_option maxRecDepth 100000 in
theorem awake_any (w : World) (htab : Tabs w) : Calls Tryd.prog 6 #[] w fun e w' => e = .returned (.bool true) ∧ Ext w w' := by
  have hmf : ∀ (fn : Fn) (first cap : Array Value) (w : World), (Instr.makeFunc fn first cap).run Tryd.prog w = .ok (.func fn first cap) w := fun _ _ _ _ => rfl
  have HTAB := Lib.hid htab
  have HP := Lib.hid (box_six w (.cells #[.string ⟨#[78, 105, 108]⟩, .slice none 0 0] 50) (.cells #[.string ⟨#[108, 105, 115, 116]⟩, .bool false, .slice (some ⟨w.heap.size, 0, none⟩) 1 1] 53) (.cells #[.slice (some ⟨w.heap.size + 1, 0, none⟩) 1 1] 22) (.cells #[.int .i64 0, .int .i64 0, .int .i64 0, .slice none 0 0, .slice none 0 0] 31) (.cells #[.int .i64 14, .int .i64 0, .int .i64 0, .slice (some ⟨w.heap.size + 1 + 1 + 1, 0, none⟩) 1 1, .slice none 0 0] 31) (.cells #[.int .i64 7, .int .i64 0, .int .i64 0, .slice (some ⟨w.heap.size + 1 + 1 + 1 + 1, 0, none⟩) 1 1, .slice none 0 0] 31))
  clear htab
  obtain ⟨w6, hw6, b0, b1, b2, b3, b4, b5, hx6⟩ := HP.out
  have H2 := Lib.hid b2; have H5 := Lib.hid b5; have HX6 := Lib.hid hx6
  have HD := Lib.hid (ex_decl b0 b1)
  have HMU : Hid (RNd w6 3 exMu (.slice (some ⟨w.heap.size + 1 + 1 + 1 + 1, 0, none⟩) 1 1) (.slice none 0 0)) := RNd.one (a := exDone) (ok64_lit (by decide)) (ok64_lit (by decide)) (ok64_lit (by decide)) b4 (RNd.one (a := exVar) (ok64_lit (by decide)) (ok64_lit (by decide)) (ok64_lit (by decide)) b3 (RNd.leaf _ _ _ _ _ (ok64_lit (by decide)) (ok64_lit (by decide)) (ok64_lit (by decide))))
  clear b0 b1 b2 b3 b4 b5 hx6 HP
  have HCUT : Hid (∀ (p : Nd) W, Ext w6 W → RNd W 3 p (.slice none 0 0) (.slice none 0 0) → Calls Tryd.prog 15 #[nV p (.slice none 0 0) (.slice none 0 0), .pointer (some ⟨w.heap.size + 1 + 1, 0, none⟩), .pointer (some ⟨w.heap.size + 1 + 1 + 1 + 1 + 1, 0, none⟩)] W fun e w' => ∃ g, e = .returned (cV (.slice (some ⟨w.heap.size + 1, 0, none⟩) 1 1) (.slice (some ⟨g, 0, none⟩) 1 1)) ∧ RCg w' (.slice (some ⟨w.heap.size + 1, 0, none⟩) 1 1) (.slice (some ⟨g, 0, none⟩) 1 1) (exC p) ∧ Ext W w') := fun p W hW hp =>
    cut_any p _ _ W 3 _ _ _ 0 _ hp (HMU.out.below hW) (HD.out.below hW) (hW.lt H2.out) (hW.lt H5.out)
  go_enter Tryd.func6, Tryd.ntmps6
  go_wp2_with fail
  rw [← hw6]
  clear hw6
  refine (HCUT.out exInt w6 (Ext.rf _) (RNd.leaf _ _ _ _ _ (ok64_lit (by decide)) (ok64_lit (by decide)) (ok64_lit (by decide)))).mono ?_
  rintro e w7 ⟨g, rfl, hc7, hx7⟩
  have HC7 := Lib.hid hc7; have HX7 := Lib.hid hx7
  clear hc7 hx7
  obtain ⟨h1, h2, h3⟩ := box_three w7 (.cells #[.slice (some ⟨w.heap.size + 1, 0, none⟩) 1 1, .slice (some ⟨g, 0, none⟩) 1 1] 25) (.cells #[.int .i64 4, .int .i64 4] 3) (.cells #[.int .i64 0, .int .i64 1] 3)
  have h0 := heapNew w7 (.cells #[.slice (some ⟨w.heap.size + 1, 0, none⟩) 1 1, .slice (some ⟨g, 0, none⟩) 1 1] 25)
  have p0 := cellAt h0 0
  have p1 := cellAt h0 1
  have HB1 := Lib.hid h1
  have HX8 := Lib.hid ((Ext.al2 w7 (.cells #[.slice (some ⟨w.heap.size + 1, 0, none⟩) 1 1, .slice (some ⟨g, 0, none⟩) 1 1] 25) (.cells #[.int .i64 4, .int .i64 4] 3)).tr (Ext.al _ (.cells #[.int .i64 0, .int .i64 1] 3)))
  have HI1 := Lib.hid (RInts.two h2 (ok64_lit (by decide)) (ok64_lit (by decide)))
  have HI2 := Lib.hid (RInts.two h3 (ok64_lit (by decide)) (ok64_lit (by decide)))
  have HXT : Hid (Ext w _) := (HX6.out.tr HX7.out).tr HX8.out
  have HTY := Lib.hid (kindType_any _ _ _ _ _ _ _ _ (exC exInt) [4, 4] [] [0, 1] [] exX 1 _ (HC7.out.below HX8.out) (ex_sh exInt) (HTAB.out.ext HXT.out) (ex_bn exInt (by decide)) HI1.out (RInts.nil _) HI2.out (RInts.nil _) (RNd.leaf _ 0 0 4 0 (ok64_lit (by decide)) (ok64_lit (by decide)) (ok64_lit (by decide))) (bn_leaf 0 4 0) (by decide) (by decide))
  rw [ex_t1] at HTY
  clear h1 h2 h3 h0
  go_wp2_with fail
  refine (HTY.out).mono ?_
  rintro e w9 ⟨rfl, hx9⟩
  have HB9 := Lib.hid (hx9.lt HB1.out)
  have HX79 : Hid (Ext w7 w9) := HX8.out.tr hx9
  have HX9 : Hid (Ext w w9) := HXT.out.tr hx9
  clear hx9 p0 p1
  have p0 := cellAt HB9.out 0
  have p1 := cellAt HB9.out 1
  have HCK := Lib.hid (kindCheck_any _ _ (exC exInt) w9 (HC7.out.below HX79.out) (ex_sh exInt) (HTAB.out.ext HX9.out) (ex_bn exInt (by decide)))
  rw [ex_k1] at HCK
  go_wp2_with fail
  refine (HCK.out).mono ?_
  rintro e w10 ⟨rfl, hx10⟩
  have HX10 := Lib.hid (HX9.out.tr hx10)
  have HX610 := Lib.hid ((HX7.out.tr HX79.out).tr hx10)
  clear hx10 p0 p1
  go_wp2_with fail
  refine (HCUT.out exNil w10 HX610.out (RNd.leaf _ _ _ _ _ (ok64_lit (by decide)) (ok64_lit (by decide)) (ok64_lit (by decide)))).mono ?_
  rintro e w11 ⟨g', rfl, hc11, hx11⟩
  have HX11 := Lib.hid (HX10.out.tr hx11)
  have HC2 := Lib.hid (kindCheck_any _ _ (exC exNil) w11 hc11 (ex_sh exNil) (HTAB.out.ext HX11.out) (ex_bn exNil (by decide)))
  rw [ex_k2] at HC2
  clear hc11 hx11
  go_wp2_with fail
  refine (HC2.out).mono ?_
  rintro e w12 ⟨rfl, hx12⟩
  go_wp2
  go_ret
  exact ⟨rfl, HX11.out.tr hx12⟩
end Go.Proofs.YtkdhhcidpklgoaaDoor

/- law.go: KindOwn: two copies into two boxes, in any order. -/
namespace Go.Proofs.YtkdhhcidpklgoaaDoor
open Go.RowKit

theorem only2_set (w : World) (r : Nat) (a' b' : Value) : Only (fun j => j = r) w ((w.setCell ⟨r, 0, none⟩ a').setCell ⟨r, 1, none⟩ b') :=
  have h : ∀ (W : World) (i : Nat) (u : Value), Only (fun j => j = r) W (W.setCell ⟨r, i, none⟩ u) := fun W i u => Only.setCell (C := fun j => j = r) (p := ⟨r, i, none⟩) rfl W u
  (h _ _ _).tr (h _ _ _)
theorem box2_both {w : World} {r T : Nat} {a b : Value} (h : w.heap[r]? = some (.cells #[a, b] T (0, 0))) (a' b' : Value) : ((w.setCell ⟨r, 0, none⟩ a').setCell ⟨r, 1, none⟩ b').heap[r]? = some (.cells #[a', b'] T (0, 0)) := by
  simp [World.setCell, Array.getElem?_modify, h]
def pmask (p : Nat → Bool) (w : World) : World := { w with heap := w.heap.mapIdx fun i o => if p i then o else .cells #[] 0 (0, 0) }
theorem pm_size (p : Nat → Bool) (w : World) : (pmask p w).heap.size = w.heap.size := Array.size_mapIdx ..
theorem pm_in {p : Nat → Bool} {w : World} {k : Nat} (h : p k = true) : (pmask p w).heap[k]? = w.heap[k]? := by
  show (w.heap.mapIdx _)[k]? = _
  rw [Array.getElem?_mapIdx]
  simp only [h, if_true]
  cases w.heap[k]? <;> rfl
theorem pm_cell {p : Nat → Bool} {w : World} {q : Addr} {v : Value} (h : (pmask p w).cell? q = some v) : p q.block = true ∧ w.cell? q = some v := by
  cases hk : p q.block
  · exfalso
    unfold World.cell? at h
    have e : (pmask p w).heap[q.block]? = w.heap[q.block]?.map fun _ => .cells #[] 0 (0, 0) := by
      show (w.heap.mapIdx _)[q.block]? = _
      rw [Array.getElem?_mapIdx]
      simp only [hk, Bool.false_eq_true, if_false]
    rw [e] at h
    cases hw : w.heap[q.block]? with
    | none => rw [hw] at h; cases h
    | some o => rw [hw] at h; simp at h
  · exact ⟨rfl, by rw [← World.cell?_of_block (pm_in hk)]; exact h⟩
/-- Nothing but two boxes is hidden. -/
def hh (g g' : Option Nat) (k : Nat) : Bool := decide (some k ≠ g) && decide (some k ≠ g')
def HH (g g' : Option Nat) (W : World) : World := pmask (hh g g') W
theorem hh_iff {g g' : Option Nat} {k : Nat} : hh g g' k = true ↔ some k ≠ g ∧ some k ≠ g' := by unfold hh; simp
theorem HH.cell {g g' : Option Nat} {W : World} {p : Addr} {v : Value} (h : (HH g g' W).cell? p = some v) : (some p.block ≠ g ∧ some p.block ≠ g') ∧ W.cell? p = some v := by
  obtain ⟨h1, h2⟩ := pm_cell h
  exact ⟨hh_iff.1 h1, h2⟩
theorem HH.un (g g' : Option Nat) (W : World) : Sub (HH g g' W) W := ⟨Nat.le_of_eq (pm_size _ _), fun _ _ h => (HH.cell h).2⟩
theorem Sub.hh {X W' : World} {g g' : Option Nat} (hs : X.heap.size ≤ W'.heap.size) (h : ∀ p v, X.cell? p = some v → (some p.block ≠ g ∧ some p.block ≠ g') ∧ W'.cell? p = some v) : Sub X (HH g g' W') := by
  refine ⟨by unfold HH; rw [pm_size]; exact hs, fun p v e => ?_⟩
  obtain ⟨h1, h2⟩ := h p v e
  exact (World.cell?_of_block (pm_in (hh_iff.2 h1))).trans h2
theorem HH.ext {g g' : Option Nat} {W W' : World} (hb : Ext W W') : Sub (HH g g' W) (HH g g' W') :=
  Sub.hh (by unfold HH; rw [pm_size]; exact hb.size) fun p v e => ⟨(HH.cell e).1, hb.keep (HH.cell e).2⟩
theorem HH.new1 (g' : Option Nat) (W : World) (o : Obj) : Sub (HH none g' W) (HH (some W.heap.size) g' (W.alloc o)) :=
  Sub.hh (by unfold HH; rw [pm_size]; exact (Ext.al W o).size) fun p v e => ⟨⟨fun h => by
    have := cell_lt (HH.cell e).2
    injection h with h; omega, (HH.cell e).1.2⟩, (Ext.al W o).keep (HH.cell e).2⟩
theorem HH.new2 (g : Option Nat) (W : World) (o : Obj) : Sub (HH g none W) (HH g (some W.heap.size) (W.alloc o)) :=
  Sub.hh (by unfold HH; rw [pm_size]; exact (Ext.al W o).size) fun p v e => ⟨⟨(HH.cell e).1.1, fun h => by
    have := cell_lt (HH.cell e).2
    injection h with h; omega⟩, (Ext.al W o).keep (HH.cell e).2⟩
theorem HH.of_mask {B : Nat} {g g' : Option Nat} {W : World} (h1 : ∀ k, g = some k → k < B) (h2 : ∀ k, g' = some k → k < B) : Sub (mask B none W) (HH g g' W) :=
  Sub.hh (by rw [mask_size]; exact Nat.le_refl _) fun p v e => by
    obtain ⟨⟨h3, -⟩, h4⟩ := mask_cell e
    exact ⟨⟨fun h => by have := h1 _ h.symm; omega, fun h => by have := h2 _ h.symm; omega⟩, h4⟩
/-- Behind stores into the first box. -/
theorem HH.only1 {b : Nat} {g' : Option Nat} {W W' : World} (h : Only (fun j => j = b) W W') : Sub (HH (some b) g' W) (HH (some b) g' W') :=
  Sub.hh (by unfold HH; rw [pm_size]; exact h.size) fun p v e => by
    obtain ⟨h1, h2⟩ := HH.cell e
    exact ⟨h1, (World.cell?_of_block (h.block _ (cell_lt h2) (fun e => h1.1 (by rw [e])))).trans h2⟩
theorem HH.only2 {b : Nat} {g : Option Nat} {W W' : World} (h : Only (fun j => j = b) W W') : Sub (HH g (some b) W) (HH g (some b) W') :=
  Sub.hh (by unfold HH; rw [pm_size]; exact h.size) fun p v e => by
    obtain ⟨h1, h2⟩ := HH.cell e
    exact ⟨h1, (World.cell?_of_block (h.block _ (cell_lt h2) (fun e => h1.2 (by rw [e])))).trans h2⟩
theorem row_turn43 {w w' : World} {B e size n g : Nat} {v : Value} {xs : List Value} {c : Array Value} (h : w.ownsRow B e size v n xs) (hg : w.heap[g]? = some (.cells c 31 (0, 0))) (ho : Only (fun j => j = g) w w') (he : e ≠ 31) : w'.ownsRow B e size v n xs :=
  row_at h fun q cur _ hc => ho.block q (heap_lt hc) (fun e2 => by
    subst e2
    rw [hc] at hg
    injection hg with hg
    injection hg with _ ht
    exact he ht)
theorem KD.turn43 {w w' : World} {B g : Nat} {v : Value} {l : List Decl} {vxs : List Value} {c : Array Value} (h : KD w B v l vxs) (hg : w.heap[g]? = some (.cells c 31 (0, 0))) (ho : Only (fun j => j = g) w w') : KD w' B v l vxs :=
  ⟨h.len, row_turn43 h.row hg ho (by decide), fun i vx d a b => by
    obtain ⟨vas, hx⟩ := h.xtors i vx d a b
    exact ⟨vas, hx.len, row_turn43 hx.row hg ho (by decide), fun i va x a b => row_turn43 (hx.args i va x a b) hg ho (by decide)⟩⟩

abbrev zero43 : Array Value := #[.int .i64 0, .int .i64 0, .int .i64 0, .slice none 0 0, .slice none 0 0]
/-- Ahead of the two stores. -/
structure R3 (C : Cg) (t : Nd) (vp vt : Value) (w1 : World) (Ls : Nat → Bool) (W : World) (vv : Nat → Value) (g g' : Option Nat) : Prop where
  ext : Ext w1 W
  z4 : Ls 4 = false → g = none
  o4 : Ls 4 = true → ∃ b, g = some b ∧ w1.heap.size ≤ b ∧ vv 4 = .pointer (some ⟨b, 0, none⟩) ∧ W.heap[b]? = some (.cells #[.slice none 0 0, .slice none 0 0] 25 (0, 0))
  z5 : Ls 5 = false → g' = none
  o5 : Ls 5 = true → ∃ b, g' = some b ∧ w1.heap.size ≤ b ∧ vv 5 = .pointer (some ⟨b, 0, none⟩) ∧ W.heap[b]? = some (.cells zero43 31 (0, 0))
  f0 : Ls 0 = true → vv 0 = vp
  f1 : Ls 1 = true → ∃ ud uf vxs B, vv 1 = cV ud uf ∧ KD W B ud C.decls vxs ∧ RCFs (HH g g' W) uf C.funs
  f2 : Ls 2 = true → vv 2 = vt
  f3 : Ls 3 = true → ∃ xa xc k, vv 3 = nV t xa xc ∧ RNd (HH g g' W) k t xa xc
section
variable {C : Cg} {t : Nd} {vp vt : Value} {w1 W W' : World} {Ls : Nat → Bool} {vv : Nat → Value} {g g' : Option Nat} {v : Value}
theorem set_ne {Ls : Nat → Bool} {i j : Nat} {b : Bool} (h : (decide (j = i) || Ls j) = b) (hn : j ≠ i) : Ls j = b := by
  rw [decide_eq_false hn, Bool.false_or] at h; exact h
theorem R3.lt1 (h : R3 C t vp vt w1 Ls W vv g g') : ∀ k, g = some k → k < W.heap.size := fun k hk => by
  cases h4 : Ls 4
  · rw [h.z4 h4] at hk; cases hk
  · obtain ⟨b, e, -, -, hb⟩ := h.o4 h4
    rw [e] at hk; cases hk
    exact heap_lt hb
theorem R3.lt2 (h : R3 C t vp vt w1 Ls W vv g g') : ∀ k, g' = some k → k < W.heap.size := fun k hk => by
  cases h4 : Ls 5
  · rw [h.z5 h4] at hk; cases hk
  · obtain ⟨b, e, -, -, hb⟩ := h.o5 h4
    rw [e] at hk; cases hk
    exact heap_lt hb
theorem R3.step {i : Nat} (h : R3 C t vp vt w1 Ls W vv g g') (hi : i < 4) (hb : Ext W W') (v : Value) (h0 : i = 0 → v = vp)
    (h1 : i = 1 → ∃ ud uf vxs B, v = cV ud uf ∧ KD W' B ud C.decls vxs ∧ RCFs (mask W.heap.size none W') uf C.funs) (h2 : i = 2 → v = vt)
    (h3 : i = 3 → ∃ xa xc k, v = nV t xa xc ∧ RNd (mask W.heap.size none W') k t xa xc) : R3 C t vp vt w1 (fun j => decide (j = i) || Ls j) W' (fun j => if j = i then v else vv j) g g' where
  ext := h.ext.tr hb
  z4 := fun e => h.z4 (set_ne e (by omega))
  o4 := fun e => by
    obtain ⟨b, e1, e2, e3, e4⟩ := h.o4 (set_ne e (by omega))
    exact ⟨b, e1, e2, by simp only [if_neg (show ¬ 4 = i by omega)]; exact e3, (hb.block _ (heap_lt e4)).trans e4⟩
  z5 := fun e => h.z5 (set_ne e (by omega))
  o5 := fun e => by
    obtain ⟨b, e1, e2, e3, e4⟩ := h.o5 (set_ne e (by omega))
    exact ⟨b, e1, e2, by simp only [if_neg (show ¬ 5 = i by omega)]; exact e3, (hb.block _ (heap_lt e4)).trans e4⟩
  f0 := fun e => by
    by_cases hj : 0 = i
    · simp only [if_pos hj]; exact h0 hj.symm
    · simp only [if_neg hj]; exact h.f0 (set_ne e hj)
  f1 := fun e => by
    by_cases hj : 1 = i
    · simp only [if_pos hj]
      obtain ⟨ud, uf, vxs, B, e1, e2, e3⟩ := h1 hj.symm
      exact ⟨ud, uf, vxs, B, e1, e2, e3.sub (HH.of_mask h.lt1 h.lt2)⟩
    · simp only [if_neg hj]
      obtain ⟨ud, uf, vxs, B, e1, e2, e3⟩ := h.f1 (set_ne e hj)
      exact ⟨ud, uf, vxs, B, e1, e2.ext hb, e3.sub (HH.ext hb)⟩
  f2 := fun e => by
    by_cases hj : 2 = i
    · simp only [if_pos hj]; exact h2 hj.symm
    · simp only [if_neg hj]; exact h.f2 (set_ne e hj)
  f3 := fun e => by
    by_cases hj : 3 = i
    · simp only [if_pos hj]
      obtain ⟨xa, xc, k, e1, e2⟩ := h3 hj.symm
      exact ⟨xa, xc, k, e1, RNd.sub (HH.of_mask h.lt1 h.lt2) e2⟩
    · simp only [if_neg hj]
      obtain ⟨xa, xc, k, e1, e2⟩ := h.f3 (set_ne e hj)
      exact ⟨xa, xc, k, e1, RNd.sub (HH.ext hb) e2⟩
theorem R3.alloc4 (h : R3 C t vp vt w1 Ls W vv g g') (hl : Ls 4 = false) : R3 C t vp vt w1 (fun j => decide (j = 4) || Ls j) (W.alloc (.cells #[.slice none 0 0, .slice none 0 0] 25)) (fun j => if j = 4 then .pointer (some ⟨W.heap.size, 0, none⟩) else vv j) (some W.heap.size) g' := by
  have hg := h.z4 hl
  subst hg
  have hb := Ext.al W (.cells #[.slice none 0 0, .slice none 0 0] 25)
  refine ⟨h.ext.tr hb, fun e => by simp at e, fun _ => ⟨_, rfl, h.ext.size, by simp, heapNew _ _⟩, fun e => h.z5 (set_ne e (by omega)), fun e => ?_, fun e => h.f0 (set_ne e (by omega)), fun e => ?_, fun e => h.f2 (set_ne e (by omega)), fun e => ?_⟩
  · obtain ⟨b, e1, e2, e3, e4⟩ := h.o5 (set_ne e (by omega))
    exact ⟨b, e1, e2, e3, (hb.block _ (heap_lt e4)).trans e4⟩
  · obtain ⟨ud, uf, vxs, B, e1, e2, e3⟩ := h.f1 (set_ne e (by omega))
    exact ⟨ud, uf, vxs, B, e1, e2.ext hb, e3.sub (HH.new1 _ _ _)⟩
  · obtain ⟨xa, xc, k, e1, e2⟩ := h.f3 (set_ne e (by omega))
    exact ⟨xa, xc, k, e1, RNd.sub (HH.new1 _ _ _) e2⟩
theorem R3.alloc5 (h : R3 C t vp vt w1 Ls W vv g g') (hl : Ls 5 = false) : R3 C t vp vt w1 (fun j => decide (j = 5) || Ls j) (W.alloc (.cells zero43 31)) (fun j => if j = 5 then .pointer (some ⟨W.heap.size, 0, none⟩) else vv j) g (some W.heap.size) := by
  have hg := h.z5 hl
  subst hg
  have hb := Ext.al W (.cells zero43 31)
  refine ⟨h.ext.tr hb, fun e => h.z4 (set_ne e (by omega)), fun e => ?_, fun e => by simp at e, fun _ => ⟨_, rfl, h.ext.size, by simp, heapNew _ _⟩, fun e => h.f0 (set_ne e (by omega)), fun e => ?_, fun e => h.f2 (set_ne e (by omega)), fun e => ?_⟩
  · obtain ⟨b, e1, e2, e3, e4⟩ := h.o4 (set_ne e (by omega))
    exact ⟨b, e1, e2, e3, (hb.block _ (heap_lt e4)).trans e4⟩
  · obtain ⟨ud, uf, vxs, B, e1, e2, e3⟩ := h.f1 (set_ne e (by omega))
    exact ⟨ud, uf, vxs, B, e1, e2.ext hb, e3.sub (HH.new2 _ _ _)⟩
  · obtain ⟨xa, xc, k, e1, e2⟩ := h.f3 (set_ne e (by omega))
    exact ⟨xa, xc, k, e1, RNd.sub (HH.new2 _ _ _) e2⟩
end
/-- Between the two stores. -/
structure R3b (C : Cg) (t : Nd) (w1 W : World) (vv : Nat → Value) (b b' : Nat) (ud uf xa xc : Value) : Prop where
  ext : Ext w1 W
  lo : w1.heap.size ≤ b ∧ w1.heap.size ≤ b'
  ne : b ≠ b'
  p4 : vv 4 = .pointer (some ⟨b, 0, none⟩)
  p5 : vv 5 = .pointer (some ⟨b', 0, none⟩)
  v3 : vv 3 = nV t xa xc
  box : W.heap[b]? = some (.cells #[ud, uf] 25 (0, 0))
  box' : W.heap[b']? = some (.cells zero43 31 (0, 0))
  decls : ∃ B vxs, KD W B ud C.decls vxs
  funs : RCFs (HH (some b) (some b') W) uf C.funs
  body : ∃ k, RNd (HH (some b) (some b') W) k t xa xc
/-- Behind both. -/
structure R3c (C : Cg) (t : Nd) (w1 W : World) (b b' : Nat) (ud uf xa xc : Value) : Prop where
  ext : Ext w1 W
  box : W.heap[b]? = some (.cells #[ud, uf] 25 (0, 0))
  box' : W.heap[b']? = some (.cells #[.int .i64 t.op, .int .i64 t.n, .int .i64 t.ty, xa, xc] 31 (0, 0))
  decls : ∃ B vxs, KD W B ud C.decls vxs
  funs : RCFs W uf C.funs
  body : ∃ k, RNd W k t xa xc
theorem R3.store {C : Cg} {t : Nd} {vp vt : Value} {w1 W : World} {Ls : Nat → Bool} {vv : Nat → Value} {g g' : Option Nat} (h : R3 C t vp vt w1 Ls W vv g g') (h4 : Ls 4 = true) (h5 : Ls 5 = true) (h1 : Ls 1 = true) (h3 : Ls 3 = true) :
    ∃ b b' ud uf xa xc, vv 4 = .pointer (some ⟨b, 0, none⟩) ∧ vv 1 = cV ud uf ∧ W.heap[b]? = some (.cells #[.slice none 0 0, .slice none 0 0] 25 (0, 0)) ∧ (∃ A c A' c' n n', ud = .slice A n c ∧ uf = .slice A' n' c') ∧ R3b C t w1 ((W.setCell ⟨b, 0, none⟩ ud).setCell ⟨b, 1, none⟩ uf) vv b b' ud uf xa xc := by
  obtain ⟨b, rfl, l4, e4, hb⟩ := h.o4 h4
  obtain ⟨b', rfl, l5, e5, hb'⟩ := h.o5 h5
  obtain ⟨ud, uf, vxs, B, e1, hk, hf⟩ := h.f1 h1
  obtain ⟨xa, xc, k, e3, hr⟩ := h.f3 h3
  have hne : b ≠ b' := fun e => by
    subst e
    rw [hb] at hb'
    injection hb' with hb'
    injection hb' with _ ht
    exact absurd ht (by decide)
  have ho := only2_set W b ud uf
  obtain ⟨A, c, hud, -⟩ := own_shape hk.row
  obtain ⟨A', c', huf, -⟩ := hf.form
  refine ⟨b, b', ud, uf, xa, xc, e4, e1, hb, ⟨A, c, A', c', _, _, hud, huf⟩, Below.setNew (Below.setNew h.ext l4 _) l4 _, ⟨l4, l5⟩, hne, e4, e5, e3, box2_both hb _ _, ?_, ⟨B, vxs, hk.turnC hb ho⟩, hf.sub (HH.only1 ho), ⟨k, RNd.sub (HH.only1 ho) hr⟩⟩
  exact (ho.block _ (heap_lt hb') (fun e => hne e.symm)).trans hb'
theorem R3b.store {C : Cg} {t : Nd} {w1 W : World} {vv : Nat → Value} {b b' : Nat} {ud uf xa xc : Value} (h : R3b C t w1 W vv b b' ud uf xa xc) :
    R3c C t w1 (((((W.setCell ⟨b', 0, none⟩ (.int .i64 t.op)).setCell ⟨b', 1, none⟩ (.int .i64 t.n)).setCell ⟨b', 2, none⟩ (.int .i64 t.ty)).setCell ⟨b', 3, none⟩ xa).setCell ⟨b', 4, none⟩ xc) b b' ud uf xa xc := by
  have ho := only5_set W b' (.int .i64 t.op) (.int .i64 t.n) (.int .i64 t.ty) xa xc
  obtain ⟨B, vxs, hk⟩ := h.decls
  obtain ⟨k, hr⟩ := h.body
  refine ⟨?_, (ho.block _ (heap_lt h.box) h.ne).trans h.box, box5_set h.box' _ _ _ _ _, ⟨B, vxs, hk.turn43 h.box' ho⟩, h.funs.sub ((HH.only2 ho).tr (HH.un _ _ _)), ⟨k, RNd.sub ((HH.only2 ho).tr (HH.un _ _ _)) hr⟩⟩
  exact h.ext.trans (ho.below h.ext.size (fun k e => by rw [e]; exact h.lo.2))
end Go.Proofs.YtkdhhcidpklgoaaDoor
