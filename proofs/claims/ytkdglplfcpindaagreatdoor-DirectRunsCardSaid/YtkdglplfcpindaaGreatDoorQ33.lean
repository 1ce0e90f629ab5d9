import Derived.Test.YtkdglplfcpindaaGreatDoorQ32
set_option maxRecDepth 100000
namespace Go.Proofs.YtkdglplfcpindaaGreatDoor
open Go.RowKit
theorem heapNewD (w : World) (c : Array Value) (T : Nat) : (w.alloc (.cells c T)).drew.heap[w.heap.size]? = some (.cells c T (0, 0)) := hNw w _
theorem heapDNew (w : World) (c : Array Value) (T : Nat) : (w.drew.alloc (.cells c T)).heap[w.heap.size]? = some (.cells c T (0, 0)) := hNw w.drew _
set_option maxHeartbeats 4000000 in
theorem allC_any (P : Pg) (w0 w : World) (bad : Nat -> Prop) (mb : Nat) (vd vf ov : Value) (fu en vl st : Int) (t : Tm) (e : En) (k : Kt) (l : List It) (va vc ev dv kv : Value) (hC : CR P w0 w bad mb vd vf) (hm : MA w mb vd vf fu en vl ov st (.bool false)) (ht : RTx w0 t va vc) (h0 : t.op = 4) (he : DR P w0 w bad (.e ev e.vs e.ls)) (hk : DR P w0 w bad (.k kv k)) (hl : DR P w0 w bad (.is dv l)) :
  Calls Tryz.prog 85 #[.pointer (some ⟨mb, 0, none⟩), tV t va vc, ev, dv, kv] w fun x w' => (x = .returned (.tuple #[]) /\ RQ P w0 w' bad mb vd vf fu en vl ov st (.pass (.con t.ty t.n l) k)) /\ Only (fun b => b = mb) w w' := by
  have HEX := LH (Ext.al w (.cells (match tV t va vc with | .agg a => a | _ => #[]) 50))
  have HV : Hid (DR P w0 w bad (.v #[.int .i64 1, .int .i64 t.n, .int .i64 t.ty, dv, zs, zp] (.con t.ty t.n l))) := .con _ _ _ _ ht.oks.2.2 ht.oks.2.1 hl
  have HC := LH hC
  have HM := LH hm
  have HK := LH hk
  obtain ⟨⟨Aa, ca, rfl, -, -⟩, ⟨Ab, cb, rfl, -, -⟩⟩ := ht.form
  obtain ⟨p, rfl⟩ := he.e_form
  obtain ⟨bk, rfl⟩ := hk.k_form
  obtain ⟨Ad, cd, rfl, -, -⟩ := hl.is_form
  have HBX := LH (hNw w (.cells #[.int .i64 t.op, .int .i64 t.n, .string t.nm, .int .i64 t.ty, .slice Aa t.args.length ca, .slice Ab t.cls.length cb] 50))
  clear hC hm ht he hk hl
  dsimp only [tV] at HEX
  unfold tV
  rw [h0] at HEX HBX ⊢
  obtain ⟨c0, c1, c2, c3, c4, c5⟩ := cells6 HBX.out
  clear h0
  go_enter Tryz.func85, Tryz.ntmps85
  go_wp2_with fail
  generalize w.alloc _ = w1 at *
  (with_reducible refine (passQ P w0 w1 bad mb vd vf ov fu en vl st _ k _ _ (HC.out.ext' HEX.out) (HM.out.ext' HEX.out) (HV.out.ext HEX.out) (HK.out.ext HEX.out)).mono ?_)
  rintro x w5 ⟨⟨rfl, hrq⟩, ho⟩
  have HRQ := LH hrq
  have HON := LH ((only_x (b := mb) HEX.out).tr ho)
  clear hrq ho
  go_wp2
  go_end0
  exact ⟨⟨rfl, HRQ.out⟩, HON.out⟩
set_option maxHeartbeats 4000000 in
theorem allD_any (P : Pg) (w0 w : World) (bad : Nat -> Prop) (mb : Nat) (vd vf ov : Value) (fu en vl st : Int) (t : Tm) (e : En) (k : Kt) (l : List It) (va vc ev dv kv : Value) (hC : CR P w0 w bad mb vd vf) (hm : MA w mb vd vf fu en vl ov st (.bool false)) (ht : RTx w0 t va vc) (h0 : t.op = 6) (hla : 1 <= t.args.length) (he : DR P w0 w bad (.e ev e.vs e.ls)) (hk : DR P w0 w bad (.k kv k)) (hl : DR P w0 w bad (.is dv l)) :
  Calls Tryz.prog 85 #[.pointer (some ⟨mb, 0, none⟩), tV t va vc, ev, dv, kv] w fun x w' => (x = .returned (.tuple #[]) /\ RQ P w0 w' bad mb vd vf fu en vl ov st (.ev (t.args.getD (t.args.length - 1) noTm) e (.obs t e l :: k))) /\ Only (fun b => b = mb) w w' := by
  have HEX := LH (Ext.al w (.cells (match tV t va vc with | .agg a => a | _ => #[]) 50))
  have HC := LH hC
  have HM := LH hm
  have HK := LH hk
  have HE := LH he
  have HT := LH ht
  have HL := LH hl
  have hja : t.args.length - 1 < t.args.length := by omega
  obtain ⟨A', c', e1, hc1, hc2, hs⟩ := ht.args
  obtain ⟨ba, oa, xa, xc, e2, -, hx6, hxt⟩ := hs (t.args.length - 1) (t.args[t.args.length - 1]) (List.getElem?_eq_getElem hja)
  have HAG : Hid (t.args.getD (t.args.length - 1) noTm = t.args[t.args.length - 1]) := by show _ = _; rw [List.getD_eq_getElem?_getD, List.getElem?_eq_getElem hja]; rfl
  rw [HAG.out]
  obtain ⟨⟨Aa, ca, rfl, -, -⟩, ⟨Ab, cb, rfl, -, -⟩⟩ := ht.form
  simp only [Value.slice.injEq] at e1
  obtain ⟨e3, -, e4⟩ := e1
  subst e2 e4
  subst e3
  have HXT := LH hxt
  obtain ⟨⟨Ax, cx, rfl, -, -⟩, ⟨Ay, cy, rfl, -, -⟩⟩ := hxt.form
  obtain ⟨p, rfl⟩ := he.e_form
  obtain ⟨bk, rfl⟩ := hk.k_form
  obtain ⟨Ad, cd, rfl, -, -⟩ := hl.is_form
  have HBX := LH (hNw w (.cells #[.int .i64 t.op, .int .i64 t.n, .string t.nm, .int .i64 t.ty, .slice (some ⟨ba, oa, none⟩) t.args.length ca, .slice Ab t.cls.length cb] 50))
  obtain ⟨a0, a1, a2, a3, a4, a5⟩ := hx6.below (hC.ext.tr (Ext.al w (.cells #[.int .i64 t.op, .int .i64 t.n, .string t.nm, .int .i64 t.ty, .slice (some ⟨ba, oa, none⟩) t.args.length ca, .slice Ab t.cls.length cb] 50)))
  generalize t.args[t.args.length - 1] = a at *
  unfold maxLen at hc2
  obtain ⟨j, hj⟩ : ∃ j, t.args.length = j + 1 := ⟨t.args.length - 1, by omega⟩
  rw [show t.args.length - 1 = j by omega] at a0 a1 a2 a3 a4 a5
  rw [hj] at HEX HBX HT a0 a1 a2 a3 a4 a5 ⊢
  have hw1 : IntKind.wrap .i64 (j : Int) = (j : Int) := IntWalk.i64_in _ (by omega)
  have hjl : (j : Int) < (j : Int) + 1 := by omega
  clear hC hm ht he hk hl hx6 hxt hs hja hla hc1
  have HH0 := LH h0
  dsimp only [tV] at HEX
  unfold tV
  rw [h0] at HEX HBX a0 a1 a2 a3 a4 a5 ⊢
  obtain ⟨c0, c1, c2, c3, c4, c5⟩ := cells6 HBX.out
  clear h0
  go_enter Tryz.func85, Tryz.ntmps85
  go_upto_region 5 with fail
  generalize w.alloc _ = w1 at *
  have lbx := hLt HBX.out
  have lba : ba < w1.heap.size := cL a0
  have HGEN : Hid (∀ W : World, Ext w1 W -> W.heap[w1.heap.size]? = some (.cells #[.int .i64 6, .int .i64 6, .int .i64 t.n, .string t.nm, .int .i64 t.ty, .slice (some ⟨ba, oa, none⟩) (j + 1) ca, .slice Ab t.cls.length cb, zp, .slice Ad l.length cd, .int .i64 0, .pointer (some ⟨bk, 0, none⟩)] 75 (0, 0)) -> Calls Tryz.prog 27 #[.pointer (some ⟨mb, 0, none⟩), tV a (.slice Ax a.args.length cx) (.slice Ay a.cls.length cy), .pointer p, .pointer (some ⟨w1.heap.size, 0, none⟩)] W fun x w' => (x = .returned (.tuple #[]) /\ RQ P w0 w' bad mb vd vf fu en vl ov st (.ev a e (.obs t e l :: k))) /\ Only (fun b => b = mb) w w') := fun W hW hb => by
    have hkk : DR P w0 W bad (.k (.pointer (some ⟨w1.heap.size, 0, none⟩)) (.obs t e l :: k)) :=
      .obs w1.heap.size t e _ _ _ _ _ _ (HC.out.ext' HEX.out).nb.new (by dsimp only [frV]; rw [HH0.out]; exact hb) HT.out ((HL.out.ext HEX.out).ext hW) ((HK.out.ext HEX.out).ext hW)
    refine (evalQ P w0 W bad mb vd vf ov fu en vl st a e _ _ _ _ _ ((HC.out.ext' HEX.out).ext' hW) ((HM.out.ext' HEX.out).ext' hW) HXT.out ((HE.out.ext HEX.out).ext hW) hkk).mono ?_
    rintro x w5 ⟨⟨rfl, hrq⟩, ho⟩
    exact ⟨⟨rfl, hrq⟩, (only_x (b := mb) (HEX.out.tr hW)).tr ho⟩
  go_region_with (go_at_call 27; (with_reducible refine (HGEN.out _ (by first | exact (Ext.al _ _).drew | exact Ext.tr (b := w1.drew) (Ext.rf w1).drew (Ext.al _ _) | exact Ext.al _ _) (by first | exact heapNewD _ _ _ | exact heapDNew _ _ _ | exact hNw _ _)).mono ?_); rintro x w5 ⟨⟨rfl, hrq⟩, ho⟩; have HRQ := LH hrq; have HON := LH ho; clear hrq ho)
  all_goals
    go_wp2
    go_end0
    exact ⟨⟨rfl, HRQ.out⟩, HON.out⟩
end Go.Proofs.YtkdglplfcpindaaGreatDoor

namespace Go.Proofs.YtkdglplfcpindaaGreatDoor
open Go.RowKit
theorem oC {w w' : World} {mb b i : Nat} {v : Value} (h : Only (fun b => b = mb) w w') (hb : b ≠ mb) (hc : w.cell? ⟨b, i, none⟩ = some v) : w'.cell? ⟨b, i, none⟩ = some v :=
  (World.cell?_of_block (w := w) (h.block b (cL hc) hb)).trans hc
theorem C6.only {w w' : World} {mb b i : Nat} {t : Tm} {va vc : Value} (hx : C6 w b i t va vc) (h : Only (fun b => b = mb) w w') (hb : b ≠ mb) : C6 w' b i t va vc :=
  ⟨oC h hb hx.c0, oC h hb hx.c1, oC h hb hx.c2, oC h hb hx.c3, oC h hb hx.c4, oC h hb hx.c5⟩
set_option maxHeartbeats 4000000 in
theorem allL_any (P : Pg) (w0 w : World) (bad : Nat -> Prop) (mb : Nat) (vd vf ov : Value) (fu en vl st : Int) (t : Tm) (e : En) (k : Kt) (l : List It) (va vc ev dv kv : Value) (hC : CR P w0 w bad mb vd vf) (hm : MA w mb vd vf fu en vl ov st (.bool false)) (ht : RTx w0 t va vc) (h0 : t.op = 8) (hla : t.args.length = 2) (hll : l.length = 1) (he : DR P w0 w bad (.e ev e.vs e.ls)) (hk : DR P w0 w bad (.k kv k)) (hl : DR P w0 w bad (.is dv l)) :
  Calls Tryz.prog 85 #[.pointer (some ⟨mb, 0, none⟩), tV t va vc, ev, dv, kv] w fun x w' => (x = .returned (.tuple #[]) /\ RQ P w0 w' bad mb vd vf fu en vl ov st (.ev (t.args.getD 1 noTm) (bindV e [t.nm] l) k)) /\ Only (fun b => b = mb) w w' := by
  have HC := LH hC
  have HM := LH hm
  have HK := LH hk
  have HE := LH he
  have HL := LH hl
  have HLL : Hid ([t.nm].length = l.length) := by show _ = _; rw [hll]; rfl
  have HNM := LH ht.oks.1
  obtain ⟨⟨Aa, ca, rfl, hca, hma⟩, ⟨Ab, cb, rfl, -, -⟩⟩ := ht.form
  obtain ⟨A', c', e1, -, -, hs⟩ := ht.args
  obtain ⟨ba, oa, xa, xc, e2, hbl, hx6, hxt⟩ := hs 1 (t.args.getD 1 noTm) (by rw [List.getD_eq_getElem?_getD, List.getElem?_eq_getElem (by omega)]; rfl)
  have hx6 := hx6.below hC.ext
  rw [Nat.one_mul] at hx6
  simp only [Value.slice.injEq, true_and] at e1
  obtain ⟨e3, -⟩ := e1
  subst e2
  subst e3
  have HNB : Hid (ba ≠ mb) := by show _ ≠ _; have := hC.lo; omega
  have HNW : Hid (w.heap.size ≠ mb) := by show _ ≠ _; have := hC.nb _ hC.tu; omega
  obtain ⟨⟨Ax, cx, rfl, -, -⟩, ⟨Ay, cy, rfl, -, -⟩⟩ := hxt.form
  have HX6 := LH hx6
  have HXT := LH hxt
  generalize t.args.getD 1 noTm = y at *
  obtain ⟨p, rfl⟩ := he.e_form
  obtain ⟨bk, rfl⟩ := hk.k_form
  obtain ⟨Ad, cd, rfl, -, -⟩ := hl.is_form
  have HEX := LH (Ext.al w (.cells #[.int .i64 t.op, .int .i64 t.n, .string t.nm, .int .i64 t.ty, .slice (some ⟨ba, oa, none⟩) t.args.length ca, .slice Ab t.cls.length cb] 50))
  have HBX := LH (hNw w (.cells #[.int .i64 t.op, .int .i64 t.n, .string t.nm, .int .i64 t.ty, .slice (some ⟨ba, oa, none⟩) t.args.length ca, .slice Ab t.cls.length cb] 50))
  unfold maxLen at hma
  unfold tV
  rw [hla, h0] at HEX HBX
  rw [h0]
  rw [show (Value.slice (some ⟨ba, oa, none⟩) t.args.length ca) = .slice (some ⟨ba, oa, none⟩) 2 ca by rw [hla]]
  obtain ⟨y0, y1, y2, y3, y4, y5⟩ := hx6.below HEX.out
  obtain ⟨c0, c1, c2, c3, c4, c5⟩ := cells6 HBX.out
  clear hC hm ht he hk hl hx6 hxt h0 hla hll
  go_enter Tryz.func85, Tryz.ntmps85
  go_upto_region 7 with fail
  generalize w.alloc _ = w1 at *
  have lbx := hLt HBX.out
  have lba : ba < w1.heap.size := cL y0
  have HEA := LH (Ext.al w1 (.cells #[.string t.nm] 9))
  have HRS : Hid (RStrs (w1.alloc (.cells #[.string t.nm] 9)).drew (.slice (some ⟨w1.heap.size, 0, none⟩) 1 1) [t.nm]) := (strs5_one (hNw w1 (.cells #[.string t.nm] 9)) HNM.out).below (Ext.rf _).drew
  have HXD : Hid (Ext w (w1.alloc (.cells #[.string t.nm] 9)).drew) := HEX.out.tr (HEA.out.drew)
  go_region_held3 (fun w' => w'.cell? ⟨w.heap.size, 2, none⟩ = some (.string t.nm) /\ w'.cell? ⟨w.heap.size, 4, none⟩ = some (.slice (some ⟨ba, oa, none⟩) 2 ca) ∧
      w'.cell? ⟨ba, oa + 6, none⟩ = some (.int .i64 y.op) /\ w'.cell? ⟨ba, oa + 6 + 1, none⟩ = some (.int .i64 y.n) /\ w'.cell? ⟨ba, oa + 6 + 2, none⟩ = some (.string y.nm) /\ w'.cell? ⟨ba, oa + 6 + 3, none⟩ = some (.int .i64 y.ty) /\ w'.cell? ⟨ba, oa + 6 + 4, none⟩ = some (.slice Ax y.args.length cx) /\ w'.cell? ⟨ba, oa + 6 + 5, none⟩ = some (.slice Ay y.cls.length cy))
    (first | exact ⟨HCD.out.1, HCD.out.2, HYD.out.c0, HYD.out.c1, HYD.out.c2, HYD.out.c3, HYD.out.c4, HYD.out.c5⟩ | exact ⟨HCB.out.1, HCB.out.2, HY.out.c0, HY.out.c1, HY.out.c2, HY.out.c3, HY.out.c4, HY.out.c5⟩ | go_keep)
    ((first
      | (go_at_call 28; (with_reducible refine (extend_any P w0 _ bad [t.nm] l e.vs e.ls _ _ _ (HE.out.ext HXD.out) HRS.out (HL.out.ext HXD.out) HLL.out (HC.out.nb.ext HXD.out)).mono ?_); rintro x w4 ⟨⟨a, rfl, hr⟩, hb⟩; obtain ⟨pa, rfl⟩ := hr.e_form; have HX4 : Hid (Ext w w4) := HXD.out.tr hb; have HR4 := LH hr; have HX14 : Hid (Ext w1 w4) := Ext.tr (b := (w1.alloc (.cells #[.string t.nm] 9)).drew) HEA.out.drew hb; have HCB : Hid (w4.cell? ⟨w.heap.size, 2, none⟩ = some (.string t.nm) /\ w4.cell? ⟨w.heap.size, 4, none⟩ = some (.slice (some ⟨ba, oa, none⟩) 2 ca)) := ⟨HX14.out.keep (cA HBX.out 2), HX14.out.keep (cA HBX.out 4)⟩; have HY := LH (HX6.out.below HX4.out); clear hr hb)
      | (go_at_call 27; (with_reducible refine (evalQ P w0 _ bad mb vd vf ov fu en vl st y (bindV e [t.nm] l) k _ _ _ _ (HC.out.ext' HX4.out) (HM.out.ext' HX4.out) HXT.out HR4.out (HK.out.ext HX4.out)).mono ?_); rintro x w5 ⟨⟨rfl, hrq⟩, ho⟩; have HRQ := LH hrq; have HYD := LH (HY.out.only ho HNB.out); have HCD : Hid (w5.cell? ⟨w.heap.size, 2, none⟩ = some (.string t.nm) /\ w5.cell? ⟨w.heap.size, 4, none⟩ = some (.slice (some ⟨ba, oa, none⟩) 2 ca)) := ⟨oC ho HNW.out HCB.out.1, oC ho HNW.out HCB.out.2⟩; have HON := LH ((only_x (b := mb) HX4.out).tr ho); clear hrq ho)))
  all_goals
    go_wp2
    go_end0
    exact ⟨⟨rfl, HRQ.out⟩, HON.out⟩
end Go.Proofs.YtkdglplfcpindaaGreatDoor

namespace Go.Proofs.YtkdglplfcpindaaGreatDoor
open Go.RowKit
theorem cells5_38 {w : World} {b T : Nat} {a0 a1 a2 a3 a4 a5 a6 a7 a8 : Value} (h : w.heap[b]? = some (.cells #[a0, a1, a2, a3, a4, a5, a6, a7, a8] T (0, 0))) :
    w.cell? ⟨b, 3, none⟩ = some a3 /\ w.cell? ⟨b, 4, none⟩ = some a4 /\ w.cell? ⟨b, 5, none⟩ = some a5 /\ w.cell? ⟨b, 6, none⟩ = some a6 /\ w.cell? ⟨b, 7, none⟩ = some a7 /\ w.cell? ⟨b, 8, none⟩ = some a8 :=
  ⟨cA h 3, cA h 4, cA h 5, cA h 6, cA h 7, cA h 8⟩
theorem only_six {w w' : World} {mb b : Nat} {a3 a4 a5 a6 a7 a8 : Value} (h : Only (fun b => b = mb) w w') (hb : b ≠ mb) (hc : w.cell? ⟨b, 3, none⟩ = some a3 /\ w.cell? ⟨b, 4, none⟩ = some a4 /\ w.cell? ⟨b, 5, none⟩ = some a5 /\ w.cell? ⟨b, 6, none⟩ = some a6 /\ w.cell? ⟨b, 7, none⟩ = some a7 /\ w.cell? ⟨b, 8, none⟩ = some a8) :
    w'.cell? ⟨b, 3, none⟩ = some a3 /\ w'.cell? ⟨b, 4, none⟩ = some a4 /\ w'.cell? ⟨b, 5, none⟩ = some a5 /\ w'.cell? ⟨b, 6, none⟩ = some a6 /\ w'.cell? ⟨b, 7, none⟩ = some a7 /\ w'.cell? ⟨b, 8, none⟩ = some a8 :=
  ⟨oC h hb hc.1, oC h hb hc.2.1, oC h hb hc.2.2.1, oC h hb hc.2.2.2.1, oC h hb hc.2.2.2.2.1, oC h hb hc.2.2.2.2.2⟩
set_option maxHeartbeats 8000000 in
theorem allF_any (P : Pg) (w0 w : World) (bad : Nat -> Prop) (mb : Nat) (vd vf ov : Value) (fu en vl st : Int) (t : Tm) (e : En) (k : Kt) (l : List It) (va vc ev dv kv : Value) (hC : CR P w0 w bad mb vd vf) (hm : MA w mb vd vf fu en vl ov st (.bool false)) (ht : RTx w0 t va vc) (h0 : t.op = 9) (hn : isIdxB t.n P.funs.length = true) (hll : l.length = (fnAt P t.n).ps.length) (hsm : l.length <= 1000) (he : DR P w0 w bad (.e ev e.vs e.ls)) (hk : DR P w0 w bad (.k kv k)) (hl : DR P w0 w bad (.is dv l)) :
  Calls Tryz.prog 85 #[.pointer (some ⟨mb, 0, none⟩), tV t va vc, ev, dv, kv] w fun x w' => (x = .returned (.tuple #[]) /\ RQ P w0 w' bad mb vd vf fu en vl ov st (bodyS (fnAt P t.n) l k)) /\ Only (fun b => b = mb) w w' := by
  have HC := LH hC
  have HM := LH hm
  have HK := LH hk
  have HL := LH hl
  obtain ⟨m, hm1, hm2⟩ := idx_in5 hn
  obtain ⟨Af, cf, rfl, -, -⟩ := hC.fs.form
  obtain ⟨bf, of_, vp, xa, xc, rfl, -, hcf1, hcf2, f0, f1, f2, f3, hfn⟩ := hC.fs.fn hC.ext hm2
  obtain ⟨-, hps, hbody⟩ := hfn
  rw [hm1, fnAt_in hm2] at hll ⊢
  generalize P.funs[m] = f at *
  have HBD := LH hbody
  have HLL : Hid ((f.ps.map Prm.nm).length = l.length) := by show _ = _; rw [List.length_map, hll]
  have hpl : f.ps.length <= 1000 := by omega
  obtain ⟨⟨Aa, ca, rfl, -, -⟩, ⟨Ab, cb, rfl, -, -⟩⟩ := ht.form
  obtain ⟨Ap, cp, rfl, -, hmp⟩ := hps.form
  obtain ⟨⟨Ax, cx, rfl, -, -⟩, ⟨Ay, cy, rfl, -, -⟩⟩ := hbody.form
  obtain ⟨p, rfl⟩ := he.e_form
  obtain ⟨bk, rfl⟩ := hk.k_form
  obtain ⟨Ad, cd, rfl, -, -⟩ := hl.is_form
  unfold maxLen at hcf2 hmp
  have hml2 : (m : Int) < P.funs.length := by omega
  have HEX := LH (Ext.al w (.cells #[.int .i64 9, .int .i64 (m : Int), .string t.nm, .int .i64 t.ty, .slice Aa t.args.length ca, .slice Ab t.cls.length cb] 50))
  have HBX := LH (hNw w (.cells #[.int .i64 9, .int .i64 (m : Int), .string t.nm, .int .i64 t.ty, .slice Aa t.args.length ca, .slice Ab t.cls.length cb] 50))
  have HPS := LH (hps.below hC.ext)
  obtain ⟨c0, c1, c2, c3, c4, c5⟩ := cells6 HBX.out
  obtain ⟨-, m1, -⟩ := (hm.ext' HEX.out).cells
  have f0 := HEX.out.keep f0
  have f1 := HEX.out.keep f1
  have f2 := HEX.out.keep f2
  obtain ⟨f3, f4, f5, f6, f7, f8⟩ := f3.below HEX.out
  unfold tV
  rw [hm1, h0]
  clear hC hm ht h0 hn hm1 hps hbody he hk hl hm2 hll hsm
  go_enter Tryz.func85, Tryz.ntmps85
  go_upto_region 9 with fail
  generalize w.alloc _ = w1 at *
  have lbx := hLt HBX.out
  have lbf : bf < w1.heap.size := cL f0
  have lbm : mb < w1.heap.size := cL m1
  have HEA := LH (Ext.al w1 (.cells #[.string f.nm, .slice Ap f.ps.length cp, .int .i64 f.res, .int .i64 f.body.op, .int .i64 f.body.n, .string f.body.nm, .int .i64 f.body.ty, .slice Ax f.body.args.length cx, .slice Ay f.body.cls.length cy] 52))
  have HBA := LH (hNw w1 (.cells #[.string f.nm, .slice Ap f.ps.length cp, .int .i64 f.res, .int .i64 f.body.op, .int .i64 f.body.n, .string f.body.nm, .int .i64 f.body.ty, .slice Ax f.body.args.length cx, .slice Ay f.body.cls.length cy] 52))
  go_region_held3 (fun w' => w'.cell? ⟨mb, 1, none⟩ = some (.slice (some ⟨bf, of_, none⟩) P.funs.length cf) /\ w'.cell? ⟨w.heap.size, 1, none⟩ = some (.int .i64 (m : Int)) /\ w'.cell? ⟨bf, of_ + m * 9, none⟩ = some (.string f.nm) /\ w'.cell? ⟨bf, of_ + m * 9 + 1, none⟩ = some (.slice Ap f.ps.length cp) /\ w'.cell? ⟨bf, of_ + m * 9 + 2, none⟩ = some (.int .i64 f.res) ∧
      w'.cell? ⟨bf, of_ + m * 9 + 3, none⟩ = some (.int .i64 f.body.op) /\ w'.cell? ⟨bf, of_ + m * 9 + 3 + 1, none⟩ = some (.int .i64 f.body.n) /\ w'.cell? ⟨bf, of_ + m * 9 + 3 + 2, none⟩ = some (.string f.body.nm) /\ w'.cell? ⟨bf, of_ + m * 9 + 3 + 3, none⟩ = some (.int .i64 f.body.ty) /\ w'.cell? ⟨bf, of_ + m * 9 + 3 + 4, none⟩ = some (.slice Ax f.body.args.length cx) /\ w'.cell? ⟨bf, of_ + m * 9 + 3 + 5, none⟩ = some (.slice Ay f.body.cls.length cy))
    (go_keep)
    (fail)
  have HEA2 : Hid (Ext w (w1.alloc (.cells #[.string f.nm, .slice Ap f.ps.length cp, .int .i64 f.res, .int .i64 f.body.op, .int .i64 f.body.n, .string f.body.nm, .int .i64 f.body.ty, .slice Ax f.body.args.length cx, .slice Ay f.body.cls.length cy] 52)).drew) := HEX.out.tr HEA.out.drew
  have HBA2 : Hid ((w1.alloc (.cells #[.string f.nm, .slice Ap f.ps.length cp, .int .i64 f.res, .int .i64 f.body.op, .int .i64 f.body.n, .string f.body.nm, .int .i64 f.body.ty, .slice Ax f.body.args.length cx, .slice Ay f.body.cls.length cy] 52)).drew.heap[w1.heap.size]? = some (.cells #[.string f.nm, .slice Ap f.ps.length cp, .int .i64 f.res, .int .i64 f.body.op, .int .i64 f.body.n, .string f.body.nm, .int .i64 f.body.ty, .slice Ax f.body.args.length cx, .slice Ay f.body.cls.length cy] 52 (0, 0))) := HBA.out
  clear HEA HBA c0 c1 c2 c3 c4 c5 f0 f1 f2 f3 f4 f5 f6 f7 f8 m1 hml2
  generalize (w1.alloc _).drew = w2 at *
  have g1 := cA HBA2.out 1
  go_wp2
  clear g1
  go_loopw [11, 74] (fun s i wr => ∃ (j : Nat), j <= f.ps.length /\ i = .int .i64 j /\ wr.ownsRow w2.heap.size 9 1 s (f.ps.take j).length (((f.ps.take j).map Prm.nm).map Value.string) /\ Ext w2 wr) (fun _ i _ => f.ps.length - (intOf i).toNat)
  case atStart => exact ⟨0, Nat.zero_le _, rfl, ⟨by simp, .inl ⟨rfl, by simp⟩⟩, Ext.rf _⟩
  case round =>
    obtain ⟨j, hj, rfl, ho, hb⟩ := hrel
    have HO := LH ho
    have HX := LH hb
    have HXW := LH (HEA2.out.tr hb)
    clear ho hb
    by_cases hlt : j < f.ps.length
    . obtain ⟨b, o, rfl, hbl, y0, y1, hs⟩ := HPS.out.at_ hlt
      have y0 := HXW.out.keep y0
      have y1 := HXW.out.keep y1
      have HTK : Hid (f.ps.take (j + 1) = f.ps.take j ++ [f.ps[j]]) := List.take_succ_eq_append_getElem hlt
      generalize f.ps[j] = x at *
      obtain ⟨nm, ty⟩ := x
      dsimp only at *
      have HE8 := LH (Ext.al2 wr (.cells #[.string nm, .int .i64 ty] 69) (.cells #[.string nm] 9))
      have hn8 := hNw (wr.alloc (.cells #[.string nm, .int .i64 ty] 69)) (.cells #[.string nm] 9)
      rw [World.size_alloc] at hn8
      have HSO : Hid (SrcN _ (some ⟨wr.heap.size + 1, 0, none⟩) 1 1 [.string nm]) := .inr ⟨_, rfl, rfl, fun i u hu => by
        have hi : i < 1 := (List.getElem?_eq_some_iff.1 hu).1
        match i, hi with
        | 0, _ => rw [add_at]; exact cA hn8 0 hu⟩
      clear hn8
      go_wp2_with (at_builtin; refine app_vals Tryz.underlying67 Tryz.info9 rfl (by decide) (by decide) rfl _ _ rfl w2.heap.size _ (f.ps.take j).length (((f.ps.take j).map Prm.nm).map Value.string) rfl (oB HO.out HE8.out) (some ⟨wr.heap.size + 1, 0, none⟩) 1 1 [.string nm] rfl HSO.out (fun u hu => by rw [List.mem_singleton.1 hu]; rfl) (by simp; omega) (Nat.le_trans HX.out.size HE8.out.size) ?_)
      intro v9 w9 ho9 hg9
      have HX9 : Hid (Ext w2 w9) := (HX.out.tr HE8.out).trans (grown_ext' hg9 (oB HO.out HE8.out) (Nat.le_trans HX.out.size HE8.out.size))
      have HO9 : Hid (w9.ownsRow w2.heap.size 9 1 v9 (f.ps.take (j + 1)).length (((f.ps.take (j + 1)).map Prm.nm).map Value.string)) := by
        show World.ownsRow _ _ _ _ _ _ _
        have e1 : (f.ps.take (j + 1)).length = j + 1 := by simp; omega
        have e2 : ((f.ps.take (j + 1)).map Prm.nm).map Value.string = List.take j (List.map (Value.string ∘ Prm.nm) f.ps) ++ [.string nm] := by rw [HTK.out]; simp [List.map_take]
        rw [e1, e2]; exact ho9
      clear ho9 hg9 y0 y1
      go_wp2
      exact ⟨⟨j + 1, by omega, by go_num, HO9.out, HX9.out⟩, by simp [intOf]; omega⟩
    . have HV : Hid (RStrs wr u11 (f.ps.map Prm.nm)) := by
        have h1 := HO.out
        rw [List.take_of_length_le (by omega)] at h1
        rw [← List.length_map (f := Prm.nm)] at h1
        exact own_strs h1 (fun s hs => by
          obtain ⟨x, hx, rfl⟩ := List.mem_map.1 hs
          obtain ⟨i, hi, rfl⟩ := List.getElem_of_mem hx
          obtain ⟨_, _, _, _, _, _, q⟩ := HPS.out.at_ hi
          exact q)
      obtain ⟨An, cn, e1, -, -⟩ := HV.out.form
      rw [List.length_map] at e1
      subst e1
      generalize wr = w3 at *
      have HBK := LH ((HX.out.block _ (hLt HBA2.out)).trans HBA2.out)
      obtain ⟨g0, g1, g2, g3, g4, g5, g6, g7, g8⟩ := c59 HBK.out
      have lbk := hLt HBK.out
      have HNF : Hid (w1.heap.size ≠ mb) := by show _ ≠ _; omega
      have HXD : Hid (Ext w w3.drew) := HXW.out.tr (Ext.rf _).drew
      have HNB := LH (HC.out.nb.ext HXW.out)
      clear g0 g1 g2
      go_upto_region 16 with fail
      go_region_held3 (fun w' => w'.cell? ⟨w1.heap.size, 3, none⟩ = some (.int .i64 f.body.op) /\ w'.cell? ⟨w1.heap.size, 4, none⟩ = some (.int .i64 f.body.n) /\ w'.cell? ⟨w1.heap.size, 5, none⟩ = some (.string f.body.nm) /\ w'.cell? ⟨w1.heap.size, 6, none⟩ = some (.int .i64 f.body.ty) /\ w'.cell? ⟨w1.heap.size, 7, none⟩ = some (.slice Ax f.body.args.length cx) /\ w'.cell? ⟨w1.heap.size, 8, none⟩ = some (.slice Ay f.body.cls.length cy))
        (first | exact HCD.out | exact HCB.out | go_keep)
        ((first
          | (go_at_call 28; (with_reducible refine (extend_any P w0 _ bad (f.ps.map Prm.nm) l [] [] _ _ _ .enil (HV.out.below (Ext.rf _).drew) (HL.out.ext HXD.out) HLL.out (HNB.out.ext (Ext.rf _).drew)).mono ?_); rintro x w4 ⟨⟨a, rfl, hr⟩, hb⟩; obtain ⟨pa, rfl⟩ := hr.e_form; have HX4 : Hid (Ext w w4) := HXD.out.tr hb; have HR4 := LH hr; have HX14 : Hid (Ext w3 w4) := Ext.tr (b := w3.drew) (Ext.rf _).drew hb; have HCB := LH (cells5_38 ((HX14.out.block _ (hLt HBK.out)).trans HBK.out)); clear hr hb)
          | (go_at_call 27; (with_reducible refine (evalQ P w0 _ bad mb vd _ ov fu en vl st f.body (.mk (withA (f.ps.map Prm.nm) l []) []) k _ _ _ _ (HC.out.ext' HX4.out) (HM.out.ext' HX4.out) HBD.out HR4.out (HK.out.ext HX4.out)).mono ?_); rintro x w5 ⟨⟨rfl, hrq⟩, ho⟩; have HRQ := LH hrq; have HCD := LH (only_six ho HNF.out HCB.out); have HON := LH ((only_x (b := mb) HX4.out).tr ho); clear hrq ho)))
      all_goals
        go_wp2
        go_end0
        exact ⟨⟨rfl, HRQ.out⟩, HON.out⟩
theorem allBound_any (P : Pg) : AllB P := by
  intro w0 w bad mb vd vf ov fu en vl st t e k l va vc ev dv kv hC hm ht hfit h0 he hk hl hll
  have hrg := (types_range hC.prog hfit h0).2
  rcases h0 with ho | ho | ho | ho
  . rw [show afterS P t e k l = .pass (.con t.ty t.n l) k by unfold afterS; rw [if_pos ho]]
    exact allC_any P w0 w bad mb vd vf ov fu en vl st t e k l va vc ev dv kv hC hm ht ho he hk hl
  . rw [show afterS P t e k l = .ev (t.args.getD (t.args.length - 1) noTm) e (.obs t e l :: k) by unfold afterS; rw [if_neg (by omega), if_pos ho]]
    obtain ⟨h1, h2, h3, -⟩ := fit6 hfit ho
    exact allD_any P w0 w bad mb vd vf ov fu en vl st t e k l va vc ev dv kv hC hm ht ho (by have := prod_codata (xtor_src hC.prog h1 h2); omega) he hk hl
  . rw [show afterS P t e k l = .ev (t.args.getD 1 noTm) (bindV e [t.nm] l) k by unfold afterS; rw [if_neg (by omega), if_neg (by omega), if_pos ho]]
    exact allL_any P w0 w bad mb vd vf ov fu en vl st t e k l va vc ev dv kv hC hm ht ho (fit8 hfit ho).1 (by rw [hll]; unfold typesOf; rw [if_pos ho]; rfl) he hk hl
  . rw [show afterS P t e k l = bodyS (fnAt P t.n) l k by unfold afterS; rw [if_neg (by omega), if_neg (by omega), if_neg (by omega)]]
    exact allF_any P w0 w bad mb vd vf ov fu en vl st t e k l va vc ev dv kv hC hm ht ho (fit9 hfit ho).1 (by rw [hll]; unfold typesOf; rw [if_neg (by omega), if_pos ho, List.length_map]) (by omega) he hk hl
end Go.Proofs.YtkdglplfcpindaaGreatDoor
