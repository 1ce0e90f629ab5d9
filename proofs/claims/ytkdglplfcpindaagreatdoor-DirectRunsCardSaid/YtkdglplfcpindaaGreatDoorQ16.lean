import Derived.Test.YtkdglplfcpindaaGreatDoorQ15
set_option maxRecDepth 100000
namespace Go.Proofs.YtkdglplfcpindaaGreatDoor
open Go.RowKit
theorem run_one47 (A : Option Addr) (n c : Nat) (h1 : 1 <= n) (h2 : n <= c) (h3 : c <= maxLen) (W : World) : (Instr.slice 47 (.slice A n c) none (some (.int .i64 1)) none).run Tryz.prog W = .ok (.slice A 1 c) W := by
  unfold maxLen at h3
  have hu : (underlying 47).run Tryz.prog W = .ok (.slice 50) W := by kernel_rfl
  have hz : (sizeOf 50).run Tryz.prog W = .ok 6 W := by kernel_rfl
  have e1 : (1 : Int) <= (c : Int) := by omega
  unfold Instr.slice Instr.sliceBounds Instr.sliceBound
  simp [go_sem, hu, hz, e1]
theorem RIs.one {w : World} {bad : Nat -> Prop} {b T : Nat} {y : Int} (h : w.heap[b]? = some (.cells #[.int .i64 y] T (0, 0))) (hb : ¬ bad b) : RIs w bad (.slice (some ⟨b, 0, none⟩) 1 1) [y] :=
  ⟨_, 1, rfl, Nat.le_refl _, by unfold maxLen; decide, fun i x hi => by
    have : i = 0 := by have := (List.getElem?_eq_some_iff.1 hi).1; simp at this; omega
    subst this
    simp at hi
    subst hi
    exact ⟨b, 0, rfl, hb, cA h 0⟩⟩
set_option maxHeartbeats 4000000 in
theorem elet_any (P : Pg) (w0 w : World) (bad : Nat -> Prop) (mb : Nat) (vd vf lz ov : Value) (fuel en0 vl st : Int) (t : Tm) (en : En) (k : Kt) (va vc pv pl kv : Value)
    (hC : MC P w0 w bad mb vd vf lz ov fuel en0 vl st) (hE : Ev5 P w0 w bad mb t en k va vc pv pl kv) (hop : t.op = 8) (hfit : fitsT P t = true) :
    Calls Tryz.prog 200 #[.agg (evV t va vc pv pl kv), .pointer (some ⟨mb, 0, none⟩)] w fun e w' => (∃ v, e = .returned v /\ RTk P w0 w' bad mb (resS P t en k (termsOf t) (typesOf P t) []) v) /\ Ext w w' := by
  have HC := LH hC
  have HE := LH hE
  have HOP := LH hop
  have HFIT := LH hfit
  have HARG := LH hE.t.args
  have hal := (fit8 hfit hop).1
  have HTE : Hid (typesOf P t = [t.ty]) := by show _ = _; unfold typesOf; rw [if_pos hop]
  have HTM : Hid (termsOf t = t.args.take 1) := by show _ = _; unfold termsOf; rw [if_neg (by omega), if_pos hop]
  have HLN := LH (terms_len hC.prog hfit (.inr (.inr (.inl hop)))).1
  have HRG := LH (types_range hC.prog hfit (.inr (.inr (.inl hop))))
  have HL1 : Hid ((t.args.take 1).length = [t.ty].length) := by show _ = _; rw [← HTE.out, ← HTM.out]; exact HLN.out
  have HL2 : Hid ([t.ty].length = (typesOf P t).length) := by show _ = _; rw [HTE.out]
  have HL3 : Hid (∀ y ∈ [t.ty], ∃ u : Nat, y = u /\ u <= P.decls.length) := by show ∀ y ∈ [t.ty], _; rw [← HTE.out]; exact HRG.out.1
  have HL4 : Hid ((typesOf P t).length <= 1000) := by show _ <= _; have := HRG.out.2; omega
  obtain ⟨Aa, ca, Ab, cb, p, q, tk, uk, rfl, hla, hma, rfl, -, -, rfl, rfl, rfl⟩ := hE.form
  have HE1 := LH (Ext.al w (.cells (evV t (.slice Aa t.args.length ca) (.slice Ab t.cls.length cb) (.pointer p) (.pointer q) (.iface tk uk)) 161))
  have HBX := LH (hNw w (.cells (evV t (.slice Aa t.args.length ca) (.slice Ab t.cls.length cb) (.pointer p) (.pointer q) (.iface tk uk)) 161))
  obtain ⟨c0, c1, c2, c3, c4, c5, c6, c7, c8⟩ := c59 HBX.out
  have hal1 : 1 <= t.args.length := by omega
  have hsl := run_one47 Aa t.args.length ca hal1 hla hma
  have HARG2 : Hid (RTs w0 (.slice Aa 1 ca) (t.args.take 1)) := HARG.out.take hal1
  have HZ1 : Hid ((w.alloc (.cells (evV t (.slice Aa t.args.length ca) (.slice Ab t.cls.length cb) (.pointer p) (.pointer q) (.iface tk uk)) 161)).heap.size = w.heap.size + 1) := World.size_alloc ..
  clear hC hE hop hfit hal c8
  go_enter Tryz.func200, Tryz.ntmps200
  go_wp2
  generalize w.alloc _ = w1 at *
  have HEA := LH (Ext.al w1 (.cells #[.int .i64 t.ty] 3))
  have HBA := LH (hNw w1 (.cells #[.int .i64 t.ty] 3))
  have hz1 := HZ1.out
  have HBX2 := LH ((HEA.out.block _ (hLt HBX.out)).trans HBX.out)
  have HRI : Hid (RIs (w1.alloc (.cells #[.int .i64 t.ty] 3)).drew bad (.slice (some ⟨w1.heap.size, 0, none⟩) 1 1) [t.ty]) := RIs.one (by exact HBA.out) (HC.out.ext' HE1.out).nb.new
  have HC4 := LH ((HC.out.ext' (HE1.out.tr HEA.out)).ext' (Ext.rf _).drew)
  have HE4 := LH ((HE.out.ext (HE1.out.tr HEA.out)).ext (Ext.rf _).drew)
  have HTH : Hid (ThV P w0 (w1.alloc (.cells #[.int .i64 t.ty] 3)).drew bad mb (evV t (.slice Aa t.args.length ca) (.slice Ab t.cls.length cb) (.pointer p) (.pointer q) (.iface tk uk)) t (.func (.func 206) #[] #[.pointer (some ⟨w.heap.size, 0, none⟩)])) := .lt w.heap.size HOP.out HC.out.nb.new (by exact HBX2.out)
  have lbe := hLt HBX.out
  clear hz1
  go_region_held3 (fun w' => w'.cell? ⟨w.heap.size, 0, none⟩ = some (.int .i64 t.op) /\ w'.cell? ⟨w.heap.size, 1, none⟩ = some (.int .i64 t.n) /\ w'.cell? ⟨w.heap.size, 2, none⟩ = some (.string t.nm) /\ w'.cell? ⟨w.heap.size, 3, none⟩ = some (.int .i64 t.ty) /\ w'.cell? ⟨w.heap.size, 4, none⟩ = some (.slice Aa t.args.length ca) /\ w'.cell? ⟨w.heap.size, 5, none⟩ = some (.slice Ab t.cls.length cb) /\ w'.cell? ⟨w.heap.size, 6, none⟩ = some (.pointer p) /\ w'.cell? ⟨w.heap.size, 7, none⟩ = some (.pointer q))
    (first | exact cells5_10 HB5.out | go_keep)
    ((go_at_call 201; (with_reducible refine (mbind_any P w0 _ bad mb vd vf lz ov fuel en0 vl st t en k _ _ _ _ _ (t.args.take 1) [t.ty] _ _ _ HC4.out HE4.out HARG2.out HRI.out HTH.out (.inr (.inr (.inl HOP.out))) HFIT.out HL1.out HL2.out HL3.out HL4.out).mono ?_); rintro e w5 ⟨⟨v, rfl, hr⟩, hx5⟩; obtain ⟨tv, uv, rfl⟩ := hr.form; have HR := LH hr; have HX5 : Hid (Ext w w5) := (HE1.out.tr HEA.out).tr (Ext.tr (b := (w1.alloc (.cells #[.int .i64 t.ty] 3)).drew) (Ext.rf _).drew hx5); have HB5 := LH ((hx5.block _ (hLt HBX2.out)).trans HBX2.out); clear hr hx5))
  all_goals
    go_wp2
    go_ret
    exact ⟨⟨_, rfl, by rw [HTM.out, HTE.out]; exact HR.out⟩, HX5.out⟩
end Go.Proofs.YtkdglplfcpindaaGreatDoor

namespace Go.Proofs.YtkdglplfcpindaaGreatDoor
open Go.RowKit
theorem RFns.fn {w0 w : World} (hx : Ext w0 w) {A : Option Addr} {n c : Nat} {l : List Fn} (h : RFns w0 (.slice A n c) l) {m : Nat} (hm : m < l.length) : ∃ b o vp xa xc, A = some ⟨b, o, none⟩ /\ n = l.length /\ n <= c /\ c <= maxLen /\ w.cell? ⟨b, o + m * 9, none⟩ = some (.string l[m].nm) /\ w.cell? ⟨b, o + m * 9 + 1, none⟩ = some vp /\ w.cell? ⟨b, o + m * 9 + 2, none⟩ = some (.int .i64 l[m].res) ∧
    C6 w b (o + m * 9 + 3) l[m].body xa xc /\ FnAt w0 l[m] vp xa xc := by
  obtain ⟨A', c', e, h1, h2, h3⟩ := h
  simp only [Value.slice.injEq] at e
  obtain ⟨rfl, rfl, rfl⟩ := e
  obtain ⟨b, o, vp, xa, xc, k, e, -, h4, h5, h6, h7, h8, h9, h10⟩ := h3 m l[m] (List.getElem?_eq_getElem hm)
  exact ⟨b, o, vp, xa, xc, e, rfl, h1, h2, hx.keep h4, hx.keep h5, hx.keep h6, h7.below hx, h8, h9, k, h10⟩
theorem bx5_three (w : World) (a b c : Obj) : (((w.alloc a).alloc b).alloc c).heap[w.heap.size]? = some a /\ (((w.alloc a).alloc b).alloc c).heap[w.heap.size + 1]? = some b /\ (((w.alloc a).alloc b).alloc c).heap[w.heap.size + 1 + 1]? = some c /\ (((w.alloc a).alloc b).alloc c).heap.size = w.heap.size + 3 /\ Ext w (((w.alloc a).alloc b).alloc c) := by
  have h : ∀ (w : World) (o : Obj), (w.alloc o).heap.size = w.heap.size + 1 := fun w o => World.size_alloc ..
  have k : ∀ (w : World) (o o' : Obj) (n : Nat), w.heap[n]? = some o' -> (w.alloc o).heap[n]? = some o' := fun w o o' n hn => ((Ext.al w o).block _ (hLt hn)).trans hn
  have e : ∀ (w : World) (o : Obj) (n : Nat), n = w.heap.size -> (w.alloc o).heap[n]? = some o := fun w o n hn => hn ▸ hNw w o
  exact ⟨k _ _ _ _ (k _ _ _ _ (e _ _ _ rfl)), k _ _ _ _ (e _ _ _ (by rw [h])), e _ _ _ (by rw [h, h]), by rw [h, h, h], ((Ext.al _ _).tr (Ext.al _ _)).tr (Ext.al _ _)⟩
set_option maxHeartbeats 4000000 in
theorem ecall_any (P : Pg) (w0 w : World) (bad : Nat -> Prop) (mb : Nat) (vd vf lz ov : Value) (fuel en0 vl st : Int) (t : Tm) (en : En) (k : Kt) (va vc pv pl kv : Value)
    (hC : MC P w0 w bad mb vd vf lz ov fuel en0 vl st) (hE : Ev5 P w0 w bad mb t en k va vc pv pl kv) (hop : t.op = 9) (hfit : fitsT P t = true) :
    Calls Tryz.prog 195 #[.agg (evV t va vc pv pl kv), .pointer (some ⟨mb, 0, none⟩)] w fun e w' => (∃ v, e = .returned v /\ RTk P w0 w' bad mb (resS P t en k (termsOf t) (typesOf P t) []) v) /\ Ext w w' := by
  have HC := LH hC
  have HE := LH hE
  have HOP := LH hop
  have HFIT := LH hfit
  have HARG := LH hE.t.args
  obtain ⟨hidx, hal, -⟩ := fit9 hfit hop
  obtain ⟨m, hm1, hm2⟩ := idx_in5 hidx
  have HFA : Hid (fnAt P t.n = P.funs[m]) := by show _ = _; unfold fnAt; rw [hm1, List.getD_eq_getElem?_getD, show ((m : Int)).toNat = m by omega, List.getElem?_eq_getElem hm2]; rfl
  have HTE : Hid (typesOf P t = (P.funs[m]).ps.map Prm.ty) := by show _ = _; unfold typesOf; rw [if_neg (by omega), if_pos hop, HFA.out]
  have HTM : Hid (termsOf t = t.args) := by show _ = _; unfold termsOf; rw [if_neg (by omega), if_neg (by omega)]
  have HLN := LH (terms_len hC.prog hfit (.inr (.inr (.inr hop)))).1
  have HRG := LH (types_range hC.prog hfit (.inr (.inr (.inr hop))))
  have HL1 : Hid (t.args.length = ((P.funs[m]).ps.map Prm.ty).length) := by show _ = _; rw [← HTE.out, ← HTM.out]; exact HLN.out
  have HL2 : Hid (((P.funs[m]).ps.map Prm.ty).length = (typesOf P t).length) := by show _ = _; rw [HTE.out]
  have HL3 : Hid (∀ y ∈ (P.funs[m]).ps.map Prm.ty, ∃ u : Nat, y = u /\ u <= P.decls.length) := by show ∀ y ∈ (P.funs[m]).ps.map Prm.ty, _; rw [← HTE.out]; exact HRG.out.1
  have HL4 : Hid ((typesOf P t).length <= 1000) := by show _ <= _; have := HRG.out.2; omega
  have HPS : Hid ((P.funs[m]).ps.length <= 1000000) := by show _ <= _; have := HRG.out.2; have h2 := HL2.out; rw [List.length_map] at h2; omega
  obtain ⟨Aa, ca, Ab, cb, p, q, tk, uk, rfl, hla, hma, rfl, -, -, rfl, rfl, rfl⟩ := hE.form
  obtain ⟨Af, cf, rfl, -, -⟩ := hC.fs.form
  obtain ⟨bf, of_, vp, xa, xc, rfl, -, hcf1, hcf2, f0, f1, f2, f3, hfn⟩ := hC.fs.fn hC.ext hm2
  have HFN := LH hfn
  obtain ⟨-, hps, hbody⟩ := hfn
  have HPR := LH hps
  obtain ⟨Ap, cp, rfl, -, -⟩ := hps.form
  obtain ⟨⟨Ax, cx, rfl, -, -⟩, ⟨Ay, cy, rfl, -, -⟩⟩ := hbody.form
  have HFF : Hid (fnAt P t.n = P.funs[m]) := HFA.out
  have hml : m < P.funs.length := hm2
  generalize P.funs[m] = f at *
  obtain ⟨fobj, hfobj⟩ : ∃ o : Obj, o = .cells #[.string f.nm, .slice Ap f.ps.length cp, .int .i64 f.res, .int .i64 f.body.op, .int .i64 f.body.n, .string f.body.nm, .int .i64 f.body.ty, .slice Ax f.body.args.length cx, .slice Ay f.body.cls.length cy] 52 := ⟨_, rfl⟩
  have HEV : Hid (#[.int .i64 t.op, .int .i64 (m : Int), .string t.nm, .int .i64 t.ty, .slice Aa t.args.length ca, .slice Ab t.cls.length cb, .pointer p, .pointer q, .iface tk uk] = evV t (.slice Aa t.args.length ca) (.slice Ab t.cls.length cb) (.pointer p) (.pointer q) (.iface tk uk)) := by show _ = _; unfold evV; rw [hm1]
  obtain ⟨g1, g2, g3, g4⟩ := bx5_two w (.cells #[.int .i64 t.op, .int .i64 (m : Int), .string t.nm, .int .i64 t.ty, .slice Aa t.args.length ca, .slice Ab t.cls.length cb, .pointer p, .pointer q, .iface tk uk] 161) (.cells #[.pointer (some ⟨mb, 0, none⟩)] 55)
  have HBX := LH g1
  have HBM := LH g2
  have HZ := LH g3
  have HE1 := LH g4
  obtain ⟨c0, c1, c2, c3, c4, c5, c6, c7, c8⟩ := c59 g1
  have d0 := cA g2 0
  have f0 := g4.keep f0
  have f1 := g4.keep f1
  have f2 := g4.keep f2
  obtain ⟨f3, f4, f5, f6, f7, f8⟩ := f3.below g4
  obtain ⟨-, m1, -⟩ := (hC.mb.ext g4).cells
  unfold maxLen at hcf2
  have hml2 : (m : Int) < P.funs.length := by omega
  unfold evV
  rw [hm1]
  clear hC hE hop hfit hidx hal c8 g1 g2 g3 g4 hps hbody hm1 hm2
  go_enter Tryz.func195, Tryz.ntmps195
  go_wp2
  generalize World.alloc (World.alloc w _) _ = w1 at *
  have lbe := hLt HBX.out
  have lbm := hLt HBM.out
  have lf : bf < w1.heap.size := cL f0
  have lm : mb < w1.heap.size := cL m1
  have HEA := LH (Ext.al w1 fobj)
  have HBA := LH (hNw w1 fobj)
  rw [hfobj] at HEA HBA
  go_region_held3 (fun w' => w'.cell? ⟨w.heap.size + 1, 0, none⟩ = some (.pointer (some ⟨mb, 0, none⟩)) /\ w'.cell? ⟨mb, 1, none⟩ = some (.slice (some ⟨bf, of_, none⟩) P.funs.length cf) /\ w'.cell? ⟨w.heap.size, 1, none⟩ = some (.int .i64 (m : Int)) /\ w'.cell? ⟨bf, of_ + m * 9, none⟩ = some (.string f.nm) /\ w'.cell? ⟨bf, of_ + m * 9 + 1, none⟩ = some (.slice Ap f.ps.length cp) /\ w'.cell? ⟨bf, of_ + m * 9 + 2, none⟩ = some (.int .i64 f.res) ∧
      w'.cell? ⟨bf, of_ + m * 9 + 3, none⟩ = some (.int .i64 f.body.op) /\ w'.cell? ⟨bf, of_ + m * 9 + 3 + 1, none⟩ = some (.int .i64 f.body.n) /\ w'.cell? ⟨bf, of_ + m * 9 + 3 + 2, none⟩ = some (.string f.body.nm) /\ w'.cell? ⟨bf, of_ + m * 9 + 3 + 3, none⟩ = some (.int .i64 f.body.ty) /\ w'.cell? ⟨bf, of_ + m * 9 + 3 + 4, none⟩ = some (.slice Ax f.body.args.length cx) /\ w'.cell? ⟨bf, of_ + m * 9 + 3 + 5, none⟩ = some (.slice Ay f.body.cls.length cy))
    (go_keep)
    (fail)
  have HEA2 : Hid (Ext w1 (w1.alloc (.cells #[.string f.nm, .slice Ap f.ps.length cp, .int .i64 f.res, .int .i64 f.body.op, .int .i64 f.body.n, .string f.body.nm, .int .i64 f.body.ty, .slice Ax f.body.args.length cx, .slice Ay f.body.cls.length cy] 52)).drew) := HEA.out.drew
  have HBA2 : Hid ((w1.alloc (.cells #[.string f.nm, .slice Ap f.ps.length cp, .int .i64 f.res, .int .i64 f.body.op, .int .i64 f.body.n, .string f.body.nm, .int .i64 f.body.ty, .slice Ax f.body.args.length cx, .slice Ay f.body.cls.length cy] 52)).drew.heap[w1.heap.size]? = some (.cells #[.string f.nm, .slice Ap f.ps.length cp, .int .i64 f.res, .int .i64 f.body.op, .int .i64 f.body.n, .string f.body.nm, .int .i64 f.body.ty, .slice Ax f.body.args.length cx, .slice Ay f.body.cls.length cy] 52 (0, 0))) := HBA.out
  clear HEA HBA c0 c1 c2 c3 c4 c5 c6 c7 d0 f0 f1 f2 f3 f4 f5 f6 f7 f8 m1 hml2
  generalize (w1.alloc _).drew = w2 at *
  have HX2 := LH (HE1.out.tr HEA2.out)
  have HBX2 := LH ((HEA2.out.block _ (hLt HBX.out)).trans HBX.out)
  have HBM2 := LH ((HEA2.out.block _ (hLt HBM.out)).trans HBM.out)
  obtain ⟨c0, c1, c2, c3, c4, c5, c6, c7, c8⟩ := c59 HBX2.out
  have d0 := cA HBM2.out 0
  obtain ⟨f0, f1, f2, f3, f4, f5, f6, f7, f8⟩ := c59 HBA2.out
  clear c0 c1 c2 c3 c5 c8
  have HPR2 := LH ((HPR.out.below (HC.out.ext.tr HX2.out)).below (Ext.rf w2).drew)
  go_wp2
  go_region_held3 (fun w' => w'.cell? ⟨w.heap.size, 4, none⟩ = some (.slice Aa t.args.length ca) /\ w'.cell? ⟨w.heap.size, 6, none⟩ = some (.pointer p) /\ w'.cell? ⟨w.heap.size, 7, none⟩ = some (.pointer q) /\ w'.cell? ⟨w.heap.size + 1, 0, none⟩ = some (.pointer (some ⟨mb, 0, none⟩)) /\ w'.cell? ⟨w1.heap.size, 0, none⟩ = some (.string f.nm) /\ w'.cell? ⟨w1.heap.size, 1, none⟩ = some (.slice Ap f.ps.length cp) /\ w'.cell? ⟨w1.heap.size, 2, none⟩ = some (.int .i64 f.res) /\ w'.cell? ⟨w1.heap.size, 3, none⟩ = some (.int .i64 f.body.op) /\ w'.cell? ⟨w1.heap.size, 4, none⟩ = some (.int .i64 f.body.n) /\ w'.cell? ⟨w1.heap.size, 5, none⟩ = some (.string f.body.nm) ∧
      w'.cell? ⟨w1.heap.size, 6, none⟩ = some (.int .i64 f.body.ty) /\ w'.cell? ⟨w1.heap.size, 7, none⟩ = some (.slice Ax f.body.args.length cx) /\ w'.cell? ⟨w1.heap.size, 8, none⟩ = some (.slice Ay f.body.cls.length cy))
    (first | exact ⟨cA HB5.out 4, cA HB5.out 6, cA HB5.out 7, cA HM5.out 0, c59 HF5.out⟩ | exact ⟨cA HB4.out 4, cA HB4.out 6, cA HB4.out 7, cA HM4.out 0, c59 HF4.out⟩ | go_keep)
    ((first
      | (go_at_call 119; (with_reducible refine (hparams_any f _ _ _ _ HPR2.out HPS.out ⟨_, _, _, rfl⟩ ⟨_, _, _, rfl⟩).mono ?_); rintro e w4 ⟨⟨vy, rfl, ho⟩, hb⟩; have HX4 : Hid (Ext w2 w4) := Ext.tr (b := w2.drew) (Ext.rf w2).drew hb; have HB4 := LH ((HX4.out.block _ (hLt HBX2.out)).trans HBX2.out); have HM4 := LH ((HX4.out.block _ (hLt HBM2.out)).trans HBM2.out); have HF4 := LH ((HX4.out.block _ (hLt HBA2.out)).trans HBA2.out); have HXW := LH (HX2.out.tr HX4.out); have HC4 := LH (HC.out.ext' HXW.out); have HRI0 : RIs w4 bad vy (f.ps.map Prm.ty) := RIs.of_own ho (fun b hbb hn => Nat.lt_irrefl _ (Nat.lt_of_lt_of_le ((HC.out.nb.ext HX2.out) b hn) (show w2.heap.size <= b from hbb))); obtain ⟨Ay, cy', rfl⟩ := oSL ho; have HRI : Hid (RIs w4 bad (.slice Ay f.ps.length cy') (f.ps.map Prm.ty)) := (congrArg (fun n => RIs w4 bad (.slice Ay n cy') (f.ps.map Prm.ty)) (show (f.ps.map Prm.ty).length = f.ps.length by simp)).mp HRI0; have HE4 := LH (HE.out.ext HXW.out); have HTH : Hid (ThV P w0 w4 bad mb (evV t (.slice Aa t.args.length ca) (.slice Ab t.cls.length cb) (.pointer p) (.pointer q) (.iface tk uk)) t (.func (.func 202) #[] #[.pointer (some ⟨w.heap.size + 1, 0, none⟩), .pointer (some ⟨w1.heap.size, 0, none⟩), .pointer (some ⟨w.heap.size, 0, none⟩)])) := .call (w.heap.size + 1) w1.heap.size w.heap.size _ _ _ HOP.out HC.out.nb.new (HEV.out ▸ HB4.out) (fun hn => by have := HC.out.nb _ hn; omega) HM4.out (fun hn => by have := HC.out.nb _ hn; have := HE1.out.size; omega) (by rw [HFF.out]; exact HF4.out) (by rw [HFF.out]; exact HFN.out); clear ho hb HRI0)
      | (go_at_call 201; (with_reducible refine (mbind_any P w0 _ bad mb vd _ lz ov fuel en0 vl st t en k _ _ _ _ _ t.args (f.ps.map Prm.ty) _ _ _ HC4.out HE4.out HARG.out HRI.out HTH.out (.inr (.inr (.inr HOP.out))) HFIT.out HL1.out HL2.out HL3.out HL4.out).mono ?_); rintro e w5 ⟨⟨v, rfl, hr⟩, hx5⟩; obtain ⟨tv, uv, rfl⟩ := hr.form; have HR := LH hr; have HX5 := LH (HXW.out.tr hx5); have HB5 := LH ((hx5.block _ (hLt HB4.out)).trans HB4.out); have HM5 := LH ((hx5.block _ (hLt HM4.out)).trans HM4.out); have HF5 := LH ((hx5.block _ (hLt HF4.out)).trans HF4.out); clear hr hx5)))
  all_goals
    go_wp2
    go_ret
    exact ⟨⟨_, rfl, by rw [HTM.out, HTE.out]; exact HR.out⟩, HX5.out⟩
end Go.Proofs.YtkdglplfcpindaaGreatDoor

namespace Go.Proofs.YtkdglplfcpindaaGreatDoor
open Go.RowKit
theorem pre_do {P : Pg} {w0 w : World} {bad : Nat -> Prop} {mb : Nat} {vd vf lz ov : Value} {fuel en0 vl st : Int} (hC : MC P w0 w bad mb vd vf lz ov fuel en0 vl st) (ev : Array Value) (T n : Nat) (v : Int) :
    (((w.alloc (.cells ev T)).drewN n).setCell ⟨mb, 7, none⟩ (.int .i64 v)).heap[w.heap.size]? = some (.cells ev T (0, 0)) /\ MC P w0 (((w.alloc (.cells ev T)).drewN n).setCell ⟨mb, 7, none⟩ (.int .i64 v)) bad mb vd vf lz ov fuel en0 vl v /\ Only (fun b => b = mb) w (((w.alloc (.cells ev T)).drewN n).setCell ⟨mb, 7, none⟩ (.int .i64 v)) := by
  have hlt := hLt hC.mb
  have hE : Ext w ((w.alloc (.cells ev T)).drewN n) := (Ext.al w (.cells ev T)).drewNx n
  have hO : Only (fun b => b = mb) w (((w.alloc (.cells ev T)).drewN n).setCell ⟨mb, 7, none⟩ (.int .i64 v)) := (Only.of_ext hE).tr (o5s _ mb 7 _)
  refine ⟨s5o (w := (w.alloc (.cells ev T)).drewN n) (hNw w _) (by omega) 7 _, hC.only hO (set8_steps (hC.mb.ext hE) _), hO⟩
theorem meth_held (ta : TypeId) (ua : Value) (w : World) : (method 417 96 (.agg #[.iface ta ua]) "chiasmus/direct.force").run Tryz.prog w = .ok (188, .agg #[.iface ta ua]) w := by kernel_rfl
theorem meth_thunk (a b : Int) (c : ByteArray) (d : Int) (e f g h : Value) (w : World) : (method 417 309 (.agg #[.int .i64 a, .int .i64 b, .string c, .int .i64 d, e, f, g, h]) "chiasmus/direct.force").run Tryz.prog w = .ok (220, .agg #[.int .i64 a, .int .i64 b, .string c, .int .i64 d, e, f, g, h]) w := by kernel_rfl
theorem D5.held_form {P : Pg} {w0 w : World} {bad : Nat -> Prop} {mb : Nat} {a : Value} {x : Vl} (h : D5 P w0 w bad mb (.i a (.held x))) : ∃ v, a = .iface 96 (.agg #[v]) /\ D5 P w0 w bad mb (.v v x) := by
  cases h with
  | held v _ h => exact ⟨v, rfl, h⟩
theorem D5.thunk_form {P : Pg} {w0 w : World} {bad : Nat -> Prop} {mb : Nat} {a : Value} {t : Tm} {e : En} (h : D5 P w0 w bad mb (.i a (.thunk t e))) : ∃ va vc pv pl, a = .iface 309 (.agg (clV t va vc pv pl)) /\ RTx w0 t va vc /\ D5 P w0 w bad mb (.vs pv e.vs) /\ D5 P w0 w bad mb (.ls pl e.ls) := by
  cases h with
  | thunk _ _ va vc pv pl h1 h2 h3 => exact ⟨va, vc, pv, pl, rfl, h1, h2, h3⟩
end Go.Proofs.YtkdglplfcpindaaGreatDoor

namespace Go.Proofs.YtkdglplfcpindaaGreatDoor
open Go.RowKit
set_option maxHeartbeats 4000000 in
theorem do1_any (P : Pg) (w0 w : World) (bad : Nat -> Prop) (mb : Nat) (vd vf lz ov : Value) (fuel en0 vl st : Int) (t : Tm) (en : En) (k : Kt) (va vc pv pl kv : Value)
    (hC : MC P w0 w bad mb vd vf lz ov fuel en0 vl st) (hE : Ev5 P w0 w bad mb t en k va vc pv pl kv) (hop : t.op = 1) (hT : TS false P (.ev t en k)) (hs0 : 0 <= st) (hs1 : st < fuel) (hs2 : fuel <= 20000) :
    Calls Tryz.prog 196 #[.agg (evV t va vc pv pl kv), .pointer (some ⟨mb, 0, none⟩)] w fun e w' => (∃ q v, evS P t en k = .go q /\ e = .returned v /\ RTk P w0 w' bad mb q v /\ MB w' mb vd vf lz ov fuel en0 vl (st + 1)) /\ Only (fun b => b = mb) w w' := by
  have HC := LH hC
  have HE := LH hE
  have HOP := LH hop
  have hne : (st == fuel) = false := by simp; omega
  have hfit : fitsT P t = true := by obtain ⟨E, F, z, h1, -⟩ := hT; exact h1.vld.fits
  have HFIT := LH hfit
  have HTT := LH hT
  have HQ : Hid (evS P t en k = .go (.pass (.int t.n) k)) := by show _ = _; unfold evS; rw [if_neg (by omega), if_pos hop]
  obtain ⟨Aa, ca, Ab, cb, p, q, tk, uk, rfl, hla, hma, rfl, -, -, rfl, rfl, rfl⟩ := hE.form
  have HPRE := LH (fun n => pre_do hC (evV t (.slice Aa t.args.length ca) (.slice Ab t.cls.length cb) (.pointer p) (.pointer q) (.iface tk uk)) 161 n (st + 1))
  have HE1 := LH (Ext.al w (.cells (evV t (.slice Aa t.args.length ca) (.slice Ab t.cls.length cb) (.pointer p) (.pointer q) (.iface tk uk)) 161))
  have hm1 := hC.mb.ext HE1.out
  obtain ⟨-, -, -, m3, -, -, -, m7⟩ := hm1.cells
  have f7 := fA hm1 7
  have HEV : Hid ((evV t (.slice Aa t.args.length ca) (.slice Ab t.cls.length cb) (.pointer p) (.pointer q) (.iface tk uk)) = #[.int .i64 1, .int .i64 t.n, .string t.nm, .int .i64 t.ty, .slice Aa t.args.length ca, .slice Ab t.cls.length cb, .pointer p, .pointer q, .iface tk uk]) := by show _ = _; unfold evV; rw [hop]
  have hs3 : st <= 20000 := by omega
  clear hC hE hm1 hs1 hs2 hop hfit hT
  go_enter Tryz.func196, Tryz.ntmps196
  go_wp2
  go_quiet (fail)
  go_upto_region 4 with fail
  obtain ⟨hb, hc, ho⟩ := HPRE.out nq
  have HB0 := LH hb
  have HC2 := LH hc
  have HO := LH ho
  clear hb hc ho m3 m7 f7 HPRE
  generalize ((w.alloc (.cells (evV t (.slice Aa t.args.length ca) (.slice Ab t.cls.length cb) (.pointer p) (.pointer q) (.iface tk uk)) 161)).drewN nq).setCell ⟨mb, 7, none⟩ (.int .i64 (st + 1)) = w2 at *
  have hb := HB0.out
  rw [HEV.out] at hb
  have HB := LH hb
  clear hb
  obtain ⟨c0, c1, c2, c3, c4, c5, c6, c7, c8⟩ := c59 HB.out
  have HE2 := LH (HE.out.kp (Kp.of_only HO.out (fun b hb => hb ▸ HC.out.tu)))
  go_wp2
  go_ret
  exact ⟨⟨_, _, HQ.out, rfl, ⟨_, _, rfl, .int t.n HE2.out.t.oks.2.1, HE2.out.k⟩, HC2.out.mb⟩, HO.out⟩
end Go.Proofs.YtkdglplfcpindaaGreatDoor

namespace Go.Proofs.YtkdglplfcpindaaGreatDoor
open Go.RowKit
set_option maxHeartbeats 4000000 in
theorem do7_any (P : Pg) (w0 w : World) (bad : Nat -> Prop) (mb : Nat) (vd vf lz ov : Value) (fuel en0 vl st : Int) (t : Tm) (en : En) (k : Kt) (va vc pv pl kv : Value)
    (hC : MC P w0 w bad mb vd vf lz ov fuel en0 vl st) (hE : Ev5 P w0 w bad mb t en k va vc pv pl kv) (hop : t.op = 7) (hT : TS false P (.ev t en k)) (hs0 : 0 <= st) (hs1 : st < fuel) (hs2 : fuel <= 20000) :
    Calls Tryz.prog 196 #[.agg (evV t va vc pv pl kv), .pointer (some ⟨mb, 0, none⟩)] w fun e w' => (∃ q v, evS P t en k = .go q /\ e = .returned v /\ RTk P w0 w' bad mb q v /\ MB w' mb vd vf lz ov fuel en0 vl (st + 1)) /\ Only (fun b => b = mb) w w' := by
  have HC := LH hC
  have HE := LH hE
  have HOP := LH hop
  have hne : (st == fuel) = false := by simp; omega
  have hfit : fitsT P t = true := by obtain ⟨E, F, z, h1, -⟩ := hT; exact h1.vld.fits
  have HFIT := LH hfit
  have HTT := LH hT
  have HQ : Hid (evS P t en k = .go (.pass (.obj t en) k)) := by show _ = _; unfold evS; rw [if_neg (by omega), if_neg (by omega), if_neg (by omega), if_neg (by omega), if_neg (by omega), if_pos hop]
  obtain ⟨Aa, ca, Ab, cb, p, q, tk, uk, rfl, hla, hma, rfl, -, -, rfl, rfl, rfl⟩ := hE.form
  have HPRE := LH (fun n => pre_do hC (evV t (.slice Aa t.args.length ca) (.slice Ab t.cls.length cb) (.pointer p) (.pointer q) (.iface tk uk)) 161 n (st + 1))
  have HE1 := LH (Ext.al w (.cells (evV t (.slice Aa t.args.length ca) (.slice Ab t.cls.length cb) (.pointer p) (.pointer q) (.iface tk uk)) 161))
  have hm1 := hC.mb.ext HE1.out
  obtain ⟨-, -, -, m3, -, -, -, m7⟩ := hm1.cells
  have f7 := fA hm1 7
  have HEV : Hid ((evV t (.slice Aa t.args.length ca) (.slice Ab t.cls.length cb) (.pointer p) (.pointer q) (.iface tk uk)) = #[.int .i64 7, .int .i64 t.n, .string t.nm, .int .i64 t.ty, .slice Aa t.args.length ca, .slice Ab t.cls.length cb, .pointer p, .pointer q, .iface tk uk]) := by show _ = _; unfold evV; rw [hop]
  have hs3 : st <= 20000 := by omega
  clear hC hE hm1 hs1 hs2 hop hfit hT
  go_enter Tryz.func196, Tryz.ntmps196
  go_wp2
  go_quiet (fail)
  go_upto_region 4 with fail
  obtain ⟨hb, hc, ho⟩ := HPRE.out nq
  have HB0 := LH hb
  have HC2 := LH hc
  have HO := LH ho
  clear hb hc ho m3 m7 f7 HPRE
  generalize ((w.alloc (.cells (evV t (.slice Aa t.args.length ca) (.slice Ab t.cls.length cb) (.pointer p) (.pointer q) (.iface tk uk)) 161)).drewN nq).setCell ⟨mb, 7, none⟩ (.int .i64 (st + 1)) = w2 at *
  have hb := HB0.out
  rw [HEV.out] at hb
  have HB := LH hb
  clear hb
  obtain ⟨c0, c1, c2, c3, c4, c5, c6, c7, c8⟩ := c59 HB.out
  have HE2 := LH (HE.out.kp (Kp.of_only HO.out (fun b hb => hb ▸ HC.out.tu)))
  go_wp2
  go_ret
  have HOB : D5 P w0 w2 bad mb (.v (.iface 297 (.agg (clV t (.slice Aa t.args.length ca) (.slice Ab t.cls.length cb) (.pointer p) (.pointer q)))) (.obj t en)) := .obj t en _ _ _ _ HE2.out.t HE2.out.vs HE2.out.ls
  unfold clV at HOB
  rw [HOP.out] at HOB
  exact ⟨⟨_, _, HQ.out, rfl, ⟨_, _, rfl, HOB, HE2.out.k⟩, HC2.out.mb⟩, HO.out⟩
end Go.Proofs.YtkdglplfcpindaaGreatDoor

namespace Go.Proofs.YtkdglplfcpindaaGreatDoor
open Go.RowKit
set_option maxHeartbeats 4000000 in
theorem do2_any (P : Pg) (w0 w : World) (bad : Nat -> Prop) (mb : Nat) (vd vf lz ov : Value) (fuel en0 vl st : Int) (t : Tm) (en : En) (k : Kt) (va vc pv pl kv : Value)
    (hC : MC P w0 w bad mb vd vf lz ov fuel en0 vl st) (hE : Ev5 P w0 w bad mb t en k va vc pv pl kv) (hop : t.op = 2) (hT : TS false P (.ev t en k)) (hs0 : 0 <= st) (hs1 : st < fuel) (hs2 : fuel <= 20000) :
    Calls Tryz.prog 196 #[.agg (evV t va vc pv pl kv), .pointer (some ⟨mb, 0, none⟩)] w fun e w' => (∃ q v, evS P t en k = .go q /\ e = .returned v /\ RTk P w0 w' bad mb q v /\ MB w' mb vd vf lz ov fuel en0 vl (st + 1)) /\ Only (fun b => b = mb) w w' := by
  have HC := LH hC
  have HE := LH hE
  have HOP := LH hop
  have hne : (st == fuel) = false := by simp; omega
  have hfit : fitsT P t = true := by obtain ⟨E, F, z, h1, -⟩ := hT; exact h1.vld.fits
  have HFIT := LH hfit
  have HTT := LH hT
  have HQ : Hid (evS P t en k = .go (.ev (t.args.getD 0 noTm) en (.left t en :: k))) := by show _ = _; unfold evS; rw [if_neg (by omega), if_neg (by omega), if_pos hop]
  have HAL : Hid (0 < t.args.length) := by show _ < _; have := (fit2 hfit hop).1; omega
  obtain ⟨Aa, ca, Ab, cb, p, q, tk, uk, rfl, hla, hma, rfl, -, -, rfl, rfl, rfl⟩ := hE.form
  have HPRE := LH (fun n => pre_do hC (evV t (.slice Aa t.args.length ca) (.slice Ab t.cls.length cb) (.pointer p) (.pointer q) (.iface tk uk)) 161 n (st + 1))
  have HE1 := LH (Ext.al w (.cells (evV t (.slice Aa t.args.length ca) (.slice Ab t.cls.length cb) (.pointer p) (.pointer q) (.iface tk uk)) 161))
  have hm1 := hC.mb.ext HE1.out
  obtain ⟨-, -, -, m3, -, -, -, m7⟩ := hm1.cells
  have f7 := fA hm1 7
  have HEV : Hid ((evV t (.slice Aa t.args.length ca) (.slice Ab t.cls.length cb) (.pointer p) (.pointer q) (.iface tk uk)) = #[.int .i64 2, .int .i64 t.n, .string t.nm, .int .i64 t.ty, .slice Aa t.args.length ca, .slice Ab t.cls.length cb, .pointer p, .pointer q, .iface tk uk]) := by show _ = _; unfold evV; rw [hop]
  have hs3 : st <= 20000 := by omega
  clear hC hE hm1 hs1 hs2 hop hfit hT
  go_enter Tryz.func196, Tryz.ntmps196
  go_wp2
  go_quiet (fail)
  go_upto_region 4 with fail
  obtain ⟨hb, hc, ho⟩ := HPRE.out nq
  have HB0 := LH hb
  have HC2 := LH hc
  have HO := LH ho
  clear hb hc ho m3 m7 f7 HPRE
  generalize ((w.alloc (.cells (evV t (.slice Aa t.args.length ca) (.slice Ab t.cls.length cb) (.pointer p) (.pointer q) (.iface tk uk)) 161)).drewN nq).setCell ⟨mb, 7, none⟩ (.int .i64 (st + 1)) = w2 at *
  have hb := HB0.out
  rw [HEV.out] at hb
  have HB := LH hb
  clear hb
  obtain ⟨c0, c1, c2, c3, c4, c5, c6, c7, c8⟩ := c59 HB.out
  have HE2 := LH (HE.out.kp (Kp.of_only HO.out (fun b hb => hb ▸ HC.out.tu)))
  have HCA : Hid (Calls Tryz.prog 197 #[.agg #[.int .i64 2, .int .i64 t.n, .string t.nm, .int .i64 t.ty, .slice Aa t.args.length ca, .slice Ab t.cls.length cb, .pointer p, .pointer q, .iface tk uk], .int .i64 0, .iface 293 (.agg #[.int .i64 2, .int .i64 t.n, .string t.nm, .int .i64 t.ty, .slice Aa t.args.length ca, .slice Ab t.cls.length cb, .pointer p, .pointer q, .iface tk uk])] w2 fun e w' => (∃ v, e = .returned v /\ RTk P w0 w' bad mb (.ev (t.args.getD 0 noTm) en (.left t en :: k)) v) /\ Ext w2 w') := by
    have := earg_any P w0 w2 bad mb t en (.left t en :: k) k _ _ _ _ _ _ 0 HC2.out.ext HE2.out.t HE2.out.vs HE2.out.ls HE2.out.k (.left t en _ _ _ _ _ k HE2.out.t HE2.out.vs HE2.out.ls HE2.out.k) HAL.out
    rw [HEV.out] at this
    exact this
  go_wp2_with fail
  (with_reducible refine HCA.out.mono ?_)
  rintro e w3 ⟨⟨v, rfl, hr⟩, hx⟩
  obtain ⟨tv, uv, rfl⟩ := hr.form
  have HR := LH hr
  have HX := LH hx
  clear hr hx
  go_wp2
  go_ret
  exact ⟨⟨_, _, HQ.out, rfl, HR.out, HC2.out.mb.ext HX.out⟩, HO.out.tr (Only.of_ext HX.out)⟩
end Go.Proofs.YtkdglplfcpindaaGreatDoor

namespace Go.Proofs.YtkdglplfcpindaaGreatDoor
open Go.RowKit
set_option maxHeartbeats 4000000 in
theorem do3_any (P : Pg) (w0 w : World) (bad : Nat -> Prop) (mb : Nat) (vd vf lz ov : Value) (fuel en0 vl st : Int) (t : Tm) (en : En) (k : Kt) (va vc pv pl kv : Value)
    (hC : MC P w0 w bad mb vd vf lz ov fuel en0 vl st) (hE : Ev5 P w0 w bad mb t en k va vc pv pl kv) (hop : t.op = 3) (hT : TS false P (.ev t en k)) (hs0 : 0 <= st) (hs1 : st < fuel) (hs2 : fuel <= 20000) :
    Calls Tryz.prog 196 #[.agg (evV t va vc pv pl kv), .pointer (some ⟨mb, 0, none⟩)] w fun e w' => (∃ q v, evS P t en k = .go q /\ e = .returned v /\ RTk P w0 w' bad mb q v /\ MB w' mb vd vf lz ov fuel en0 vl (st + 1)) /\ Only (fun b => b = mb) w w' := by
  have HC := LH hC
  have HE := LH hE
  have HOP := LH hop
  have hne : (st == fuel) = false := by simp; omega
  have hfit : fitsT P t = true := by obtain ⟨E, F, z, h1, -⟩ := hT; exact h1.vld.fits
  have HFIT := LH hfit
  have HTT := LH hT
  have HQ : Hid (evS P t en k = .go (.ev (t.args.getD 0 noTm) en (.zero t en :: k))) := by show _ = _; unfold evS; rw [if_neg (by omega), if_neg (by omega), if_neg (by omega), if_pos hop]
  have HAL : Hid (0 < t.args.length) := by show _ < _; have := (fit3 hfit hop).1; omega
  obtain ⟨Aa, ca, Ab, cb, p, q, tk, uk, rfl, hla, hma, rfl, -, -, rfl, rfl, rfl⟩ := hE.form
  have HPRE := LH (fun n => pre_do hC (evV t (.slice Aa t.args.length ca) (.slice Ab t.cls.length cb) (.pointer p) (.pointer q) (.iface tk uk)) 161 n (st + 1))
  have HE1 := LH (Ext.al w (.cells (evV t (.slice Aa t.args.length ca) (.slice Ab t.cls.length cb) (.pointer p) (.pointer q) (.iface tk uk)) 161))
  have hm1 := hC.mb.ext HE1.out
  obtain ⟨-, -, -, m3, -, -, -, m7⟩ := hm1.cells
  have f7 := fA hm1 7
  have HEV : Hid ((evV t (.slice Aa t.args.length ca) (.slice Ab t.cls.length cb) (.pointer p) (.pointer q) (.iface tk uk)) = #[.int .i64 3, .int .i64 t.n, .string t.nm, .int .i64 t.ty, .slice Aa t.args.length ca, .slice Ab t.cls.length cb, .pointer p, .pointer q, .iface tk uk]) := by show _ = _; unfold evV; rw [hop]
  have hs3 : st <= 20000 := by omega
  clear hC hE hm1 hs1 hs2 hop hfit hT
  go_enter Tryz.func196, Tryz.ntmps196
  go_wp2
  go_quiet (fail)
  go_upto_region 4 with fail
  obtain ⟨hb, hc, ho⟩ := HPRE.out nq
  have HB0 := LH hb
  have HC2 := LH hc
  have HO := LH ho
  clear hb hc ho m3 m7 f7 HPRE
  generalize ((w.alloc (.cells (evV t (.slice Aa t.args.length ca) (.slice Ab t.cls.length cb) (.pointer p) (.pointer q) (.iface tk uk)) 161)).drewN nq).setCell ⟨mb, 7, none⟩ (.int .i64 (st + 1)) = w2 at *
  have hb := HB0.out
  rw [HEV.out] at hb
  have HB := LH hb
  clear hb
  obtain ⟨c0, c1, c2, c3, c4, c5, c6, c7, c8⟩ := c59 HB.out
  have HE2 := LH (HE.out.kp (Kp.of_only HO.out (fun b hb => hb ▸ HC.out.tu)))
  have HCA : Hid (Calls Tryz.prog 197 #[.agg #[.int .i64 3, .int .i64 t.n, .string t.nm, .int .i64 t.ty, .slice Aa t.args.length ca, .slice Ab t.cls.length cb, .pointer p, .pointer q, .iface tk uk], .int .i64 0, .iface 294 (.agg #[.int .i64 3, .int .i64 t.n, .string t.nm, .int .i64 t.ty, .slice Aa t.args.length ca, .slice Ab t.cls.length cb, .pointer p, .pointer q, .iface tk uk])] w2 fun e w' => (∃ v, e = .returned v /\ RTk P w0 w' bad mb (.ev (t.args.getD 0 noTm) en (.zero t en :: k)) v) /\ Ext w2 w') := by
    have := earg_any P w0 w2 bad mb t en (.zero t en :: k) k _ _ _ _ _ _ 0 HC2.out.ext HE2.out.t HE2.out.vs HE2.out.ls HE2.out.k (.zero t en _ _ _ _ _ k HE2.out.t HE2.out.vs HE2.out.ls HE2.out.k) HAL.out
    rw [HEV.out] at this
    exact this
  go_wp2_with fail
  (with_reducible refine HCA.out.mono ?_)
  rintro e w3 ⟨⟨v, rfl, hr⟩, hx⟩
  obtain ⟨tv, uv, rfl⟩ := hr.form
  have HR := LH hr
  have HX := LH hx
  clear hr hx
  go_wp2
  go_ret
  exact ⟨⟨_, _, HQ.out, rfl, HR.out, HC2.out.mb.ext HX.out⟩, HO.out.tr (Only.of_ext HX.out)⟩
end Go.Proofs.YtkdglplfcpindaaGreatDoor

namespace Go.Proofs.YtkdglplfcpindaaGreatDoor
open Go.RowKit
set_option maxHeartbeats 4000000 in
theorem do5_any (P : Pg) (w0 w : World) (bad : Nat -> Prop) (mb : Nat) (vd vf lz ov : Value) (fuel en0 vl st : Int) (t : Tm) (en : En) (k : Kt) (va vc pv pl kv : Value)
    (hC : MC P w0 w bad mb vd vf lz ov fuel en0 vl st) (hE : Ev5 P w0 w bad mb t en k va vc pv pl kv) (hop : t.op = 5) (hT : TS false P (.ev t en k)) (hs0 : 0 <= st) (hs1 : st < fuel) (hs2 : fuel <= 20000) :
    Calls Tryz.prog 196 #[.agg (evV t va vc pv pl kv), .pointer (some ⟨mb, 0, none⟩)] w fun e w' => (∃ q v, evS P t en k = .go q /\ e = .returned v /\ RTk P w0 w' bad mb q v /\ MB w' mb vd vf lz ov fuel en0 vl (st + 1)) /\ Only (fun b => b = mb) w w' := by
  have HC := LH hC
  have HE := LH hE
  have HOP := LH hop
  have hne : (st == fuel) = false := by simp; omega
  have hfit : fitsT P t = true := by obtain ⟨E, F, z, h1, -⟩ := hT; exact h1.vld.fits
  have HFIT := LH hfit
  have HTT := LH hT
  have HQ : Hid (evS P t en k = .go (.ev (t.args.getD 0 noTm) en (.ana t en :: k))) := by show _ = _; unfold evS; rw [if_neg (by omega), if_neg (by omega), if_neg (by omega), if_neg (by omega), if_pos hop]
  have HAL : Hid (0 < t.args.length) := by show _ < _; have := (fit5 hfit hop).2.1; omega
  obtain ⟨Aa, ca, Ab, cb, p, q, tk, uk, rfl, hla, hma, rfl, -, -, rfl, rfl, rfl⟩ := hE.form
  have HPRE := LH (fun n => pre_do hC (evV t (.slice Aa t.args.length ca) (.slice Ab t.cls.length cb) (.pointer p) (.pointer q) (.iface tk uk)) 161 n (st + 1))
  have HE1 := LH (Ext.al w (.cells (evV t (.slice Aa t.args.length ca) (.slice Ab t.cls.length cb) (.pointer p) (.pointer q) (.iface tk uk)) 161))
  have hm1 := hC.mb.ext HE1.out
  obtain ⟨-, -, -, m3, -, -, -, m7⟩ := hm1.cells
  have f7 := fA hm1 7
  have HEV : Hid ((evV t (.slice Aa t.args.length ca) (.slice Ab t.cls.length cb) (.pointer p) (.pointer q) (.iface tk uk)) = #[.int .i64 5, .int .i64 t.n, .string t.nm, .int .i64 t.ty, .slice Aa t.args.length ca, .slice Ab t.cls.length cb, .pointer p, .pointer q, .iface tk uk]) := by show _ = _; unfold evV; rw [hop]
  have hs3 : st <= 20000 := by omega
  clear hC hE hm1 hs1 hs2 hop hfit hT
  go_enter Tryz.func196, Tryz.ntmps196
  go_wp2
  go_quiet (fail)
  go_upto_region 4 with fail
  obtain ⟨hb, hc, ho⟩ := HPRE.out nq
  have HB0 := LH hb
  have HC2 := LH hc
  have HO := LH ho
  clear hb hc ho m3 m7 f7 HPRE
  generalize ((w.alloc (.cells (evV t (.slice Aa t.args.length ca) (.slice Ab t.cls.length cb) (.pointer p) (.pointer q) (.iface tk uk)) 161)).drewN nq).setCell ⟨mb, 7, none⟩ (.int .i64 (st + 1)) = w2 at *
  have hb := HB0.out
  rw [HEV.out] at hb
  have HB := LH hb
  clear hb
  obtain ⟨c0, c1, c2, c3, c4, c5, c6, c7, c8⟩ := c59 HB.out
  have HE2 := LH (HE.out.kp (Kp.of_only HO.out (fun b hb => hb ▸ HC.out.tu)))
  have HCA : Hid (Calls Tryz.prog 197 #[.agg #[.int .i64 5, .int .i64 t.n, .string t.nm, .int .i64 t.ty, .slice Aa t.args.length ca, .slice Ab t.cls.length cb, .pointer p, .pointer q, .iface tk uk], .int .i64 0, .iface 295 (.agg #[.int .i64 5, .int .i64 t.n, .string t.nm, .int .i64 t.ty, .slice Aa t.args.length ca, .slice Ab t.cls.length cb, .pointer p, .pointer q, .iface tk uk])] w2 fun e w' => (∃ v, e = .returned v /\ RTk P w0 w' bad mb (.ev (t.args.getD 0 noTm) en (.ana t en :: k)) v) /\ Ext w2 w') := by
    have := earg_any P w0 w2 bad mb t en (.ana t en :: k) k _ _ _ _ _ _ 0 HC2.out.ext HE2.out.t HE2.out.vs HE2.out.ls HE2.out.k (.ana t en _ _ _ _ _ k HE2.out.t HE2.out.vs HE2.out.ls HE2.out.k) HAL.out
    rw [HEV.out] at this
    exact this
  go_wp2_with fail
  (with_reducible refine HCA.out.mono ?_)
  rintro e w3 ⟨⟨v, rfl, hr⟩, hx⟩
  obtain ⟨tv, uv, rfl⟩ := hr.form
  have HR := LH hr
  have HX := LH hx
  clear hr hx
  go_wp2
  go_ret
  exact ⟨⟨_, _, HQ.out, rfl, HR.out, HC2.out.mb.ext HX.out⟩, HO.out.tr (Only.of_ext HX.out)⟩
end Go.Proofs.YtkdglplfcpindaaGreatDoor

namespace Go.Proofs.YtkdglplfcpindaaGreatDoor
open Go.RowKit
set_option maxHeartbeats 4000000 in
theorem do10_any (P : Pg) (w0 w : World) (bad : Nat -> Prop) (mb : Nat) (vd vf lz ov : Value) (fuel en0 vl st : Int) (t : Tm) (en : En) (k : Kt) (va vc pv pl kv : Value)
    (hC : MC P w0 w bad mb vd vf lz ov fuel en0 vl st) (hE : Ev5 P w0 w bad mb t en k va vc pv pl kv) (hop : t.op = 10) (hT : TS false P (.ev t en k)) (hs0 : 0 <= st) (hs1 : st < fuel) (hs2 : fuel <= 20000) :
    Calls Tryz.prog 196 #[.agg (evV t va vc pv pl kv), .pointer (some ⟨mb, 0, none⟩)] w fun e w' => (∃ q v, evS P t en k = .go q /\ e = .returned v /\ RTk P w0 w' bad mb q v /\ MB w' mb vd vf lz ov fuel en0 vl (st + 1)) /\ Only (fun b => b = mb) w w' := by
  have HC := LH hC
  have HE := LH hE
  have HOP := LH hop
  have hne : (st == fuel) = false := by simp; omega
  have hfit : fitsT P t = true := by obtain ⟨E, F, z, h1, -⟩ := hT; exact h1.vld.fits
  have HFIT := LH hfit
  have HTT := LH hT
  have HQ : Hid (evS P t en k = .go (.ev (t.args.getD 0 noTm) en (.emit t en :: k))) := by show _ = _; unfold evS; rw [if_neg (by omega), if_neg (by omega), if_neg (by omega), if_neg (by omega), if_neg (by omega), if_neg (by omega), if_pos hop]
  have HAL : Hid (0 < t.args.length) := by show _ < _; have := (fit10 hfit hop).1; omega
  obtain ⟨Aa, ca, Ab, cb, p, q, tk, uk, rfl, hla, hma, rfl, -, -, rfl, rfl, rfl⟩ := hE.form
  have HPRE := LH (fun n => pre_do hC (evV t (.slice Aa t.args.length ca) (.slice Ab t.cls.length cb) (.pointer p) (.pointer q) (.iface tk uk)) 161 n (st + 1))
  have HE1 := LH (Ext.al w (.cells (evV t (.slice Aa t.args.length ca) (.slice Ab t.cls.length cb) (.pointer p) (.pointer q) (.iface tk uk)) 161))
  have hm1 := hC.mb.ext HE1.out
  obtain ⟨-, -, -, m3, -, -, -, m7⟩ := hm1.cells
  have f7 := fA hm1 7
  have HEV : Hid ((evV t (.slice Aa t.args.length ca) (.slice Ab t.cls.length cb) (.pointer p) (.pointer q) (.iface tk uk)) = #[.int .i64 10, .int .i64 t.n, .string t.nm, .int .i64 t.ty, .slice Aa t.args.length ca, .slice Ab t.cls.length cb, .pointer p, .pointer q, .iface tk uk]) := by show _ = _; unfold evV; rw [hop]
  have hs3 : st <= 20000 := by omega
  clear hC hE hm1 hs1 hs2 hop hfit hT
  go_enter Tryz.func196, Tryz.ntmps196
  go_wp2
  go_quiet (fail)
  go_upto_region 4 with fail
  obtain ⟨hb, hc, ho⟩ := HPRE.out nq
  have HB0 := LH hb
  have HC2 := LH hc
  have HO := LH ho
  clear hb hc ho m3 m7 f7 HPRE
  generalize ((w.alloc (.cells (evV t (.slice Aa t.args.length ca) (.slice Ab t.cls.length cb) (.pointer p) (.pointer q) (.iface tk uk)) 161)).drewN nq).setCell ⟨mb, 7, none⟩ (.int .i64 (st + 1)) = w2 at *
  have hb := HB0.out
  rw [HEV.out] at hb
  have HB := LH hb
  clear hb
  obtain ⟨c0, c1, c2, c3, c4, c5, c6, c7, c8⟩ := c59 HB.out
  have HE2 := LH (HE.out.kp (Kp.of_only HO.out (fun b hb => hb ▸ HC.out.tu)))
  have HCA : Hid (Calls Tryz.prog 197 #[.agg #[.int .i64 10, .int .i64 t.n, .string t.nm, .int .i64 t.ty, .slice Aa t.args.length ca, .slice Ab t.cls.length cb, .pointer p, .pointer q, .iface tk uk], .int .i64 0, .iface 298 (.agg #[.int .i64 10, .int .i64 t.n, .string t.nm, .int .i64 t.ty, .slice Aa t.args.length ca, .slice Ab t.cls.length cb, .pointer p, .pointer q, .iface tk uk])] w2 fun e w' => (∃ v, e = .returned v /\ RTk P w0 w' bad mb (.ev (t.args.getD 0 noTm) en (.emit t en :: k)) v) /\ Ext w2 w') := by
    have := earg_any P w0 w2 bad mb t en (.emit t en :: k) k _ _ _ _ _ _ 0 HC2.out.ext HE2.out.t HE2.out.vs HE2.out.ls HE2.out.k (.emit t en _ _ _ _ _ k HE2.out.t HE2.out.vs HE2.out.ls HE2.out.k) HAL.out
    rw [HEV.out] at this
    exact this
  go_wp2_with fail
  (with_reducible refine HCA.out.mono ?_)
  rintro e w3 ⟨⟨v, rfl, hr⟩, hx⟩
  obtain ⟨tv, uv, rfl⟩ := hr.form
  have HR := LH hr
  have HX := LH hx
  clear hr hx
  go_wp2
  go_ret
  exact ⟨⟨_, _, HQ.out, rfl, HR.out, HC2.out.mb.ext HX.out⟩, HO.out.tr (Only.of_ext HX.out)⟩
end Go.Proofs.YtkdglplfcpindaaGreatDoor
