import Derived.Test.YtkdglplfcpindaaGreatDoorQ18
set_option maxRecDepth 100000
namespace Go.Proofs.YtkdglplfcpindaaGreatDoor
open Go.RowKit
theorem ta_int_con (u : Value) (w : World) : (Instr.typeAssert (.iface 303 u) 94 92 true).run Tryz.prog w = .ok (.tuple #[.int .i64 0, .bool false]) w := by kernel_rfl
theorem ta_int_obj (u : Value) (w : World) : (Instr.typeAssert (.iface 297 u) 94 92 true).run Tryz.prog w = .ok (.tuple #[.int .i64 0, .bool false]) w := by kernel_rfl
theorem ta_int (u : Value) (w : World) : (Instr.typeAssert (.iface 92 u) 94 92 true).run Tryz.prog w = .ok (.tuple #[u, .bool true]) w := by kernel_rfl
theorem ta_con_int (u : Value) (w : World) : (Instr.typeAssert (.iface 92 u) 94 303 true).run Tryz.prog w = .ok (.tuple #[.agg #[.int .i64 0, .int .i64 0, .slice none 0 0], .bool false]) w := by kernel_rfl
theorem ta_con_obj (u : Value) (w : World) : (Instr.typeAssert (.iface 297 u) 94 303 true).run Tryz.prog w = .ok (.tuple #[.agg #[.int .i64 0, .int .i64 0, .slice none 0 0], .bool false]) w := by kernel_rfl
theorem ta_con (u : Value) (w : World) : (Instr.typeAssert (.iface 303 u) 94 303 true).run Tryz.prog w = .ok (.tuple #[u, .bool true]) w := by kernel_rfl
theorem ta_obj_int (u : Value) (w : World) : (Instr.typeAssert (.iface 92 u) 94 297 true).run Tryz.prog w = .ok (.tuple #[.agg #[.int .i64 0, .int .i64 0, .string ⟨#[]⟩, .int .i64 0, .slice none 0 0, .slice none 0 0, .pointer none, .pointer none], .bool false]) w := by kernel_rfl
theorem ta_obj_con (u : Value) (w : World) : (Instr.typeAssert (.iface 303 u) 94 297 true).run Tryz.prog w = .ok (.tuple #[.agg #[.int .i64 0, .int .i64 0, .string ⟨#[]⟩, .int .i64 0, .slice none 0 0, .slice none 0 0, .pointer none, .pointer none], .bool false]) w := by kernel_rfl
theorem ta_obj (u : Value) (w : World) : (Instr.typeAssert (.iface 297 u) 94 297 true).run Tryz.prog w = .ok (.tuple #[u, .bool true]) w := by kernel_rfl
theorem earg1_any (P : Pg) (w0 w : World) (bad : Nat -> Prop) (mb : Nat) (t : Tm) (en : En) (k k0 : Kt) (va vc pv pl kv kv0 : Value) (hx : Ext w0 w) (ht : RTx w0 t va vc) (h2 : D5 P w0 w bad mb (.vs pv en.vs)) (h3 : D5 P w0 w bad mb (.ls pl en.ls)) (h40 : D5 P w0 w bad mb (.k kv0 k0)) (h4 : D5 P w0 w bad mb (.k kv k)) (hi : 1 < t.args.length) :
    Calls Tryz.prog 197 #[.agg (evV t va vc pv pl kv0), .int .i64 1, kv] w fun e w' => (∃ v, e = .returned v /\ RTk P w0 w' bad mb (.ev (t.args.getD 1 noTm) en k) v) /\ Ext w w' :=
  earg_any P w0 w bad mb t en k k0 va vc pv pl kv kv0 1 hx ht h2 h3 h40 h4 hi
theorem earg2_any (P : Pg) (w0 w : World) (bad : Nat -> Prop) (mb : Nat) (t : Tm) (en : En) (k k0 : Kt) (va vc pv pl kv kv0 : Value) (hx : Ext w0 w) (ht : RTx w0 t va vc) (h2 : D5 P w0 w bad mb (.vs pv en.vs)) (h3 : D5 P w0 w bad mb (.ls pl en.ls)) (h40 : D5 P w0 w bad mb (.k kv0 k0)) (h4 : D5 P w0 w bad mb (.k kv k)) (hi : 2 < t.args.length) :
    Calls Tryz.prog 197 #[.agg (evV t va vc pv pl kv0), .int .i64 2, kv] w fun e w' => (∃ v, e = .returned v /\ RTk P w0 w' bad mb (.ev (t.args.getD 2 noTm) en k) v) /\ Ext w w' :=
  earg_any P w0 w bad mb t en k k0 va vc pv pl kv kv0 2 hx ht h2 h3 h40 h4 hi
set_option maxHeartbeats 2000000 in
theorem left_not_construct (P : Pg) (w0 w : World) (bad : Nat -> Prop) (mb : Nat) (vd vf lz ov : Value) (fuel en0 vl st : Int) (t : Tm) (en : En) (k : Kt) (va vc pv pl kv : Value)
    (hC : MC P w0 w bad mb vd vf lz ov fuel en0 vl st) (hE : Ev5 P w0 w bad mb t en k va vc pv pl kv) (u : Value) :
    Calls Tryz.prog 212 #[.agg (evV t va vc pv pl kv), .pointer (some ⟨mb, 0, none⟩), .iface 303 u] w fun e w' => (e = .returned .nilIface /\ MB w' mb vd vf lz ov fuel 2 vl st) /\ Only (fun b => b = mb) w w' := by
  obtain ⟨Aa, ca, Ab, cb, p, q, tk, uk, rfl, hla, hma, rfl, -, -, rfl, rfl, rfl⟩ := hE.form
  have HE1 := LH (Ext.al w (.cells (evV t (.slice Aa t.args.length ca) (.slice Ab t.cls.length cb) (.pointer p) (.pointer q) (.iface tk uk)) 293))
  have HM := LH (hC.mb.ext HE1.out)
  have h1 := ta_int_con
  have h2 := ta_int_obj
  clear hC hE
  go_enter Tryz.func212, Tryz.ntmps212
  go_wp2_with fail
  (with_reducible refine (mend_any _ mb vd vf lz ov fuel en0 vl st 2 HM.out).mono ?_)
  rintro e w2 ⟨⟨rfl, hm⟩, ho⟩
  have HM2 := LH hm
  have HO2 : Hid (Only (fun b => b = mb) w w2) := (Only.of_ext HE1.out).tr ho
  clear hm ho
  go_wp2
  go_ret
  exact ⟨⟨rfl, HM2.out⟩, HO2.out⟩
set_option maxHeartbeats 2000000 in
theorem left_not_object (P : Pg) (w0 w : World) (bad : Nat -> Prop) (mb : Nat) (vd vf lz ov : Value) (fuel en0 vl st : Int) (t : Tm) (en : En) (k : Kt) (va vc pv pl kv : Value)
    (hC : MC P w0 w bad mb vd vf lz ov fuel en0 vl st) (hE : Ev5 P w0 w bad mb t en k va vc pv pl kv) (u : Value) :
    Calls Tryz.prog 212 #[.agg (evV t va vc pv pl kv), .pointer (some ⟨mb, 0, none⟩), .iface 297 u] w fun e w' => (e = .returned .nilIface /\ MB w' mb vd vf lz ov fuel 2 vl st) /\ Only (fun b => b = mb) w w' := by
  obtain ⟨Aa, ca, Ab, cb, p, q, tk, uk, rfl, hla, hma, rfl, -, -, rfl, rfl, rfl⟩ := hE.form
  have HE1 := LH (Ext.al w (.cells (evV t (.slice Aa t.args.length ca) (.slice Ab t.cls.length cb) (.pointer p) (.pointer q) (.iface tk uk)) 293))
  have HM := LH (hC.mb.ext HE1.out)
  have h1 := ta_int_con
  have h2 := ta_int_obj
  clear hC hE
  go_enter Tryz.func212, Tryz.ntmps212
  go_wp2_with fail
  (with_reducible refine (mend_any _ mb vd vf lz ov fuel en0 vl st 2 HM.out).mono ?_)
  rintro e w2 ⟨⟨rfl, hm⟩, ho⟩
  have HM2 := LH hm
  have HO2 : Hid (Only (fun b => b = mb) w w2) := (Only.of_ext HE1.out).tr ho
  clear hm ho
  go_wp2
  go_ret
  exact ⟨⟨rfl, HM2.out⟩, HO2.out⟩
set_option maxHeartbeats 2000000 in
theorem zero_not_construct (P : Pg) (w0 w : World) (bad : Nat -> Prop) (mb : Nat) (vd vf lz ov : Value) (fuel en0 vl st : Int) (t : Tm) (en : En) (k : Kt) (va vc pv pl kv : Value)
    (hC : MC P w0 w bad mb vd vf lz ov fuel en0 vl st) (hE : Ev5 P w0 w bad mb t en k va vc pv pl kv) (u : Value) :
    Calls Tryz.prog 213 #[.agg (evV t va vc pv pl kv), .pointer (some ⟨mb, 0, none⟩), .iface 303 u] w fun e w' => (e = .returned .nilIface /\ MB w' mb vd vf lz ov fuel 2 vl st) /\ Only (fun b => b = mb) w w' := by
  obtain ⟨Aa, ca, Ab, cb, p, q, tk, uk, rfl, hla, hma, rfl, -, -, rfl, rfl, rfl⟩ := hE.form
  have HE1 := LH (Ext.al w (.cells (evV t (.slice Aa t.args.length ca) (.slice Ab t.cls.length cb) (.pointer p) (.pointer q) (.iface tk uk)) 294))
  have HM := LH (hC.mb.ext HE1.out)
  have h1 := ta_int_con
  have h2 := ta_int_obj
  clear hC hE
  go_enter Tryz.func213, Tryz.ntmps213
  go_wp2_with fail
  (with_reducible refine (mend_any _ mb vd vf lz ov fuel en0 vl st 2 HM.out).mono ?_)
  rintro e w2 ⟨⟨rfl, hm⟩, ho⟩
  have HM2 := LH hm
  have HO2 : Hid (Only (fun b => b = mb) w w2) := (Only.of_ext HE1.out).tr ho
  clear hm ho
  go_wp2
  go_ret
  exact ⟨⟨rfl, HM2.out⟩, HO2.out⟩
set_option maxHeartbeats 2000000 in
theorem zero_not_object (P : Pg) (w0 w : World) (bad : Nat -> Prop) (mb : Nat) (vd vf lz ov : Value) (fuel en0 vl st : Int) (t : Tm) (en : En) (k : Kt) (va vc pv pl kv : Value)
    (hC : MC P w0 w bad mb vd vf lz ov fuel en0 vl st) (hE : Ev5 P w0 w bad mb t en k va vc pv pl kv) (u : Value) :
    Calls Tryz.prog 213 #[.agg (evV t va vc pv pl kv), .pointer (some ⟨mb, 0, none⟩), .iface 297 u] w fun e w' => (e = .returned .nilIface /\ MB w' mb vd vf lz ov fuel 2 vl st) /\ Only (fun b => b = mb) w w' := by
  obtain ⟨Aa, ca, Ab, cb, p, q, tk, uk, rfl, hla, hma, rfl, -, -, rfl, rfl, rfl⟩ := hE.form
  have HE1 := LH (Ext.al w (.cells (evV t (.slice Aa t.args.length ca) (.slice Ab t.cls.length cb) (.pointer p) (.pointer q) (.iface tk uk)) 294))
  have HM := LH (hC.mb.ext HE1.out)
  have h1 := ta_int_con
  have h2 := ta_int_obj
  clear hC hE
  go_enter Tryz.func213, Tryz.ntmps213
  go_wp2_with fail
  (with_reducible refine (mend_any _ mb vd vf lz ov fuel en0 vl st 2 HM.out).mono ?_)
  rintro e w2 ⟨⟨rfl, hm⟩, ho⟩
  have HM2 := LH hm
  have HO2 : Hid (Only (fun b => b = mb) w w2) := (Only.of_ext HE1.out).tr ho
  clear hm ho
  go_wp2
  go_ret
  exact ⟨⟨rfl, HM2.out⟩, HO2.out⟩
set_option maxHeartbeats 2000000 in
theorem emit_not_construct (P : Pg) (w0 w : World) (bad : Nat -> Prop) (mb : Nat) (vd vf lz ov : Value) (fuel en0 vl st : Int) (t : Tm) (en : En) (k : Kt) (va vc pv pl kv : Value)
    (hC : MC P w0 w bad mb vd vf lz ov fuel en0 vl st) (hE : Ev5 P w0 w bad mb t en k va vc pv pl kv) (u : Value) :
    Calls Tryz.prog 216 #[.agg (evV t va vc pv pl kv), .pointer (some ⟨mb, 0, none⟩), .iface 303 u] w fun e w' => (e = .returned .nilIface /\ MB w' mb vd vf lz ov fuel 2 vl st) /\ Only (fun b => b = mb) w w' := by
  obtain ⟨Aa, ca, Ab, cb, p, q, tk, uk, rfl, hla, hma, rfl, -, -, rfl, rfl, rfl⟩ := hE.form
  have HE1 := LH (Ext.al w (.cells (evV t (.slice Aa t.args.length ca) (.slice Ab t.cls.length cb) (.pointer p) (.pointer q) (.iface tk uk)) 298))
  have HM := LH (hC.mb.ext HE1.out)
  have h1 := ta_int_con
  have h2 := ta_int_obj
  clear hC hE
  go_enter Tryz.func216, Tryz.ntmps216
  go_wp2_with fail
  (with_reducible refine (mend_any _ mb vd vf lz ov fuel en0 vl st 2 HM.out).mono ?_)
  rintro e w2 ⟨⟨rfl, hm⟩, ho⟩
  have HM2 := LH hm
  have HO2 : Hid (Only (fun b => b = mb) w w2) := (Only.of_ext HE1.out).tr ho
  clear hm ho
  go_wp2
  go_ret
  exact ⟨⟨rfl, HM2.out⟩, HO2.out⟩
set_option maxHeartbeats 2000000 in
theorem emit_not_object (P : Pg) (w0 w : World) (bad : Nat -> Prop) (mb : Nat) (vd vf lz ov : Value) (fuel en0 vl st : Int) (t : Tm) (en : En) (k : Kt) (va vc pv pl kv : Value)
    (hC : MC P w0 w bad mb vd vf lz ov fuel en0 vl st) (hE : Ev5 P w0 w bad mb t en k va vc pv pl kv) (u : Value) :
    Calls Tryz.prog 216 #[.agg (evV t va vc pv pl kv), .pointer (some ⟨mb, 0, none⟩), .iface 297 u] w fun e w' => (e = .returned .nilIface /\ MB w' mb vd vf lz ov fuel 2 vl st) /\ Only (fun b => b = mb) w w' := by
  obtain ⟨Aa, ca, Ab, cb, p, q, tk, uk, rfl, hla, hma, rfl, -, -, rfl, rfl, rfl⟩ := hE.form
  have HE1 := LH (Ext.al w (.cells (evV t (.slice Aa t.args.length ca) (.slice Ab t.cls.length cb) (.pointer p) (.pointer q) (.iface tk uk)) 298))
  have HM := LH (hC.mb.ext HE1.out)
  have h1 := ta_int_con
  have h2 := ta_int_obj
  clear hC hE
  go_enter Tryz.func216, Tryz.ntmps216
  go_wp2_with fail
  (with_reducible refine (mend_any _ mb vd vf lz ov fuel en0 vl st 2 HM.out).mono ?_)
  rintro e w2 ⟨⟨rfl, hm⟩, ho⟩
  have HM2 := LH hm
  have HO2 : Hid (Only (fun b => b = mb) w w2) := (Only.of_ext HE1.out).tr ho
  clear hm ho
  go_wp2
  go_ret
  exact ⟨⟨rfl, HM2.out⟩, HO2.out⟩
set_option maxHeartbeats 2000000 in
theorem right_not_construct (P : Pg) (w0 w : World) (bad : Nat -> Prop) (mb : Nat) (vd vf lz ov : Value) (fuel en0 vl st : Int) (t : Tm) (en : En) (k : Kt) (va vc pv pl kv : Value)
    (hC : MC P w0 w bad mb vd vf lz ov fuel en0 vl st) (hE : Ev5 P w0 w bad mb t en k va vc pv pl kv) (a : Int) (u : Value) :
    Calls Tryz.prog 221 #[.agg (evW t va vc pv pl kv (.int .i64 a)), .pointer (some ⟨mb, 0, none⟩), .iface 303 u] w fun e w' => (e = .returned .nilIface /\ MB w' mb vd vf lz ov fuel 2 vl st) /\ Only (fun b => b = mb) w w' := by
  obtain ⟨Aa, ca, Ab, cb, p, q, tk, uk, rfl, hla, hma, rfl, -, -, rfl, rfl, rfl⟩ := hE.form
  have HE1 := LH (Ext.al w (.cells (evW t (.slice Aa t.args.length ca) (.slice Ab t.cls.length cb) (.pointer p) (.pointer q) (.iface tk uk) (.int .i64 a)) 313))
  have HM := LH (hC.mb.ext HE1.out)
  have h1 := ta_int_con
  have h2 := ta_int_obj
  clear hC hE
  go_enter Tryz.func221, Tryz.ntmps221
  go_wp2_with fail
  (with_reducible refine (mend_any _ mb vd vf lz ov fuel en0 vl st 2 HM.out).mono ?_)
  rintro e w2 ⟨⟨rfl, hm⟩, ho⟩
  have HM2 := LH hm
  have HO2 : Hid (Only (fun b => b = mb) w w2) := (Only.of_ext HE1.out).tr ho
  clear hm ho
  go_wp2
  go_ret
  exact ⟨⟨rfl, HM2.out⟩, HO2.out⟩
set_option maxHeartbeats 2000000 in
theorem right_not_object (P : Pg) (w0 w : World) (bad : Nat -> Prop) (mb : Nat) (vd vf lz ov : Value) (fuel en0 vl st : Int) (t : Tm) (en : En) (k : Kt) (va vc pv pl kv : Value)
    (hC : MC P w0 w bad mb vd vf lz ov fuel en0 vl st) (hE : Ev5 P w0 w bad mb t en k va vc pv pl kv) (a : Int) (u : Value) :
    Calls Tryz.prog 221 #[.agg (evW t va vc pv pl kv (.int .i64 a)), .pointer (some ⟨mb, 0, none⟩), .iface 297 u] w fun e w' => (e = .returned .nilIface /\ MB w' mb vd vf lz ov fuel 2 vl st) /\ Only (fun b => b = mb) w w' := by
  obtain ⟨Aa, ca, Ab, cb, p, q, tk, uk, rfl, hla, hma, rfl, -, -, rfl, rfl, rfl⟩ := hE.form
  have HE1 := LH (Ext.al w (.cells (evW t (.slice Aa t.args.length ca) (.slice Ab t.cls.length cb) (.pointer p) (.pointer q) (.iface tk uk) (.int .i64 a)) 313))
  have HM := LH (hC.mb.ext HE1.out)
  have h1 := ta_int_con
  have h2 := ta_int_obj
  clear hC hE
  go_enter Tryz.func221, Tryz.ntmps221
  go_wp2_with fail
  (with_reducible refine (mend_any _ mb vd vf lz ov fuel en0 vl st 2 HM.out).mono ?_)
  rintro e w2 ⟨⟨rfl, hm⟩, ho⟩
  have HM2 := LH hm
  have HO2 : Hid (Only (fun b => b = mb) w w2) := (Only.of_ext HE1.out).tr ho
  clear hm ho
  go_wp2
  go_ret
  exact ⟨⟨rfl, HM2.out⟩, HO2.out⟩
set_option maxHeartbeats 2000000 in
theorem left_int (P : Pg) (w0 w : World) (bad : Nat -> Prop) (mb : Nat) (vd vf lz ov : Value) (fuel en0 vl st : Int) (t : Tm) (en : En) (k : Kt) (va vc pv pl kv : Value)
    (hC : MC P w0 w bad mb vd vf lz ov fuel en0 vl st) (hE : Ev5 P w0 w bad mb t en k va vc pv pl kv) (n : Int) (hn : ok64 n) (hal : t.args.length = 2) :
    Calls Tryz.prog 212 #[.agg (evV t va vc pv pl kv), .pointer (some ⟨mb, 0, none⟩), .iface 92 (.int .i64 n)] w fun e w' => (∃ v, e = .returned v /\ RTk P w0 w' bad mb (.ev (t.args.getD 1 noTm) en (.right t en n :: k)) v) /\ Ext w w' := by
  have HC := LH hC
  have HE := LH hE
  have HAL : Hid (1 < t.args.length) := by show _ < _; omega
  obtain ⟨Aa, ca, Ab, cb, p, q, tk, uk, rfl, hla, hma, rfl, -, -, rfl, rfl, rfl⟩ := hE.form
  have HE1 := LH (Ext.al w (.cells (evV t (.slice Aa t.args.length ca) (.slice Ab t.cls.length cb) (.pointer p) (.pointer q) (.iface tk uk)) 293))
  obtain ⟨c0, c1, c2, c3, c4, c5, c6, c7, c8⟩ := c59 (hNw w (.cells (evV t (.slice Aa t.args.length ca) (.slice Ab t.cls.length cb) (.pointer p) (.pointer q) (.iface tk uk)) 293))
  have HN := LH hn
  have h3 := ta_int
  clear hC hE hn hal
  go_enter Tryz.func212, Tryz.ntmps212
  go_wp2_with fail
  generalize w.alloc _ = w1 at *
  have HE2 := LH (HE.out.ext HE1.out)
  (with_reducible refine (earg1_any P w0 _ bad mb t en (.right t en n :: k) k _ _ _ _ _ _ (HC.out.ext.tr HE1.out) HE2.out.t HE2.out.vs HE2.out.ls HE2.out.k (.right t en n _ _ _ _ _ k HN.out HE2.out.t HE2.out.vs HE2.out.ls HE2.out.k) HAL.out).mono ?_)
  rintro e w2 ⟨⟨v, rfl, hr⟩, hx⟩
  obtain ⟨tv, uv, rfl⟩ := hr.form
  have HR := LH hr
  have HX := LH (HE1.out.tr hx)
  clear hr hx
  go_wp2
  go_ret
  exact ⟨⟨_, rfl, HR.out⟩, HX.out⟩
theorem cells5_t {w : World} {b T : Nat} {a0 a1 a2 a3 a4 a5 a6 a7 a8 a9 : Value} (h : w.heap[b]? = some (.cells #[a0, a1, a2, a3, a4, a5, a6, a7, a8, a9] T (0, 0))) :
    w.cell? ⟨b, 0, none⟩ = some a0 /\ w.cell? ⟨b, 1, none⟩ = some a1 /\ w.cell? ⟨b, 2, none⟩ = some a2 /\ w.cell? ⟨b, 3, none⟩ = some a3 /\ w.cell? ⟨b, 4, none⟩ = some a4 /\ w.cell? ⟨b, 5, none⟩ = some a5 /\ w.cell? ⟨b, 6, none⟩ = some a6 /\ w.cell? ⟨b, 7, none⟩ = some a7 /\ w.cell? ⟨b, 8, none⟩ = some a8 /\ w.cell? ⟨b, 9, none⟩ = some a9 :=
  ⟨cA h 0, cA h 1, cA h 2, cA h 3, cA h 4, cA h 5, cA h 6, cA h 7, cA h 8, cA h 9⟩
theorem ok_wr (e : Int) : ok64 (wr64 e) := WalkArith.wf_i64 (by unfold wr64; omega)
theorem primR_ok (n a b : Int) (hn : 0 <= n /\ n <= 6) : ok64 (primR n a b) := by
  have h0 : ok64 0 := WalkArith.wf_i64 (by omega)
  have h1 : ok64 1 := WalkArith.wf_i64 (by omega)
  have hq : ok64 (quotP a b) := by unfold quotP; split; exact h0; exact ok_wr _
  unfold primR
  repeat' split
  all_goals first | exact ok_wr _ | exact hq | exact h0 | exact h1
set_option maxHeartbeats 2000000 in
theorem right_int (P : Pg) (w0 w : World) (bad : Nat -> Prop) (mb : Nat) (vd vf lz ov : Value) (fuel en0 vl st : Int) (t : Tm) (en : En) (k : Kt) (va vc pv pl kv : Value)
    (hC : MC P w0 w bad mb vd vf lz ov fuel en0 vl st) (hE : Ev5 P w0 w bad mb t en k va vc pv pl kv) (a : Int) (n : Int) (hn : ok64 n) (hop : 0 <= t.n /\ t.n <= 6) :
    Calls Tryz.prog 221 #[.agg (evW t va vc pv pl kv (.int .i64 a)), .pointer (some ⟨mb, 0, none⟩), .iface 92 (.int .i64 n)] w fun e w' => (∃ v, e = .returned v /\ RTk P w0 w' bad mb (.pass (.int (primR t.n a n)) k) v) /\ Ext w w' := by
  have HC := LH hC
  have HE := LH hE
  obtain ⟨Aa, ca, Ab, cb, p, q, tk, uk, rfl, hla, hma, rfl, -, -, rfl, rfl, rfl⟩ := hE.form
  have HE1 := LH (Ext.al w (.cells (evW t (.slice Aa t.args.length ca) (.slice Ab t.cls.length cb) (.pointer p) (.pointer q) (.iface tk uk) (.int .i64 a)) 313))
  obtain ⟨c0, c1, c2, c3, c4, c5, c6, c7, c8, c9⟩ := cells5_t (hNw w (.cells (evW t (.slice Aa t.args.length ca) (.slice Ab t.cls.length cb) (.pointer p) (.pointer q) (.iface tk uk) (.int .i64 a)) 313))
  have HN := LH hn
  have h3 := ta_int
  clear hC hE hn
  go_enter Tryz.func221, Tryz.ntmps221
  go_wp2_with fail
  generalize w.alloc _ = w1 at *
  (with_reducible refine (prim_any t.n a n _ hop).mono ?_)
  rintro e w2 ⟨rfl, rfl⟩
  have HPR := LH (primR_ok t.n a n hop)
  go_wp2
  go_ret
  exact ⟨⟨_, rfl, _, _, rfl, .int _ HPR.out, HE.out.k.ext HE1.out⟩, HE1.out⟩
set_option maxHeartbeats 2000000 in
theorem zero_int1 (P : Pg) (w0 w : World) (bad : Nat -> Prop) (mb : Nat) (vd vf lz ov : Value) (fuel en0 vl st : Int) (t : Tm) (en : En) (k : Kt) (va vc pv pl kv : Value)
    (hC : MC P w0 w bad mb vd vf lz ov fuel en0 vl st) (hE : Ev5 P w0 w bad mb t en k va vc pv pl kv) (n : Int) (hn : ok64 n) (hz : (n == 0) = true) (hal : t.args.length = 3) :
    Calls Tryz.prog 213 #[.agg (evV t va vc pv pl kv), .pointer (some ⟨mb, 0, none⟩), .iface 92 (.int .i64 n)] w fun e w' => (∃ v, e = .returned v /\ RTk P w0 w' bad mb (.ev (t.args.getD 1 noTm) en k) v) /\ Ext w w' := by
  have HC := LH hC
  have HE := LH hE
  have HAL : Hid (1 < t.args.length) := by show _ < _; omega
  obtain ⟨Aa, ca, Ab, cb, p, q, tk, uk, rfl, hla, hma, rfl, -, -, rfl, rfl, rfl⟩ := hE.form
  have HE1 := LH (Ext.al w (.cells (evV t (.slice Aa t.args.length ca) (.slice Ab t.cls.length cb) (.pointer p) (.pointer q) (.iface tk uk)) 294))
  obtain ⟨c0, c1, c2, c3, c4, c5, c6, c7, c8⟩ := c59 (hNw w (.cells (evV t (.slice Aa t.args.length ca) (.slice Ab t.cls.length cb) (.pointer p) (.pointer q) (.iface tk uk)) 294))
  have HN := LH hn
  have h3 := ta_int
  clear hC hE hn hal
  go_enter Tryz.func213, Tryz.ntmps213
  go_wp2_with fail
  generalize w.alloc _ = w1 at *
  have HE2 := LH (HE.out.ext HE1.out)
  (with_reducible refine (earg1_any P w0 _ bad mb t en k k _ _ _ _ _ _ (HC.out.ext.tr HE1.out) HE2.out.t HE2.out.vs HE2.out.ls HE2.out.k HE2.out.k HAL.out).mono ?_)
  rintro e w2 ⟨⟨v, rfl, hr⟩, hx⟩
  obtain ⟨tv, uv, rfl⟩ := hr.form
  have HR := LH hr
  have HX := LH (HE1.out.tr hx)
  clear hr hx
  go_wp2
  go_ret
  exact ⟨⟨_, rfl, HR.out⟩, HX.out⟩
set_option maxHeartbeats 2000000 in
theorem zero_int2 (P : Pg) (w0 w : World) (bad : Nat -> Prop) (mb : Nat) (vd vf lz ov : Value) (fuel en0 vl st : Int) (t : Tm) (en : En) (k : Kt) (va vc pv pl kv : Value)
    (hC : MC P w0 w bad mb vd vf lz ov fuel en0 vl st) (hE : Ev5 P w0 w bad mb t en k va vc pv pl kv) (n : Int) (hn : ok64 n) (hz : (n == 0) = false) (hal : t.args.length = 3) :
    Calls Tryz.prog 213 #[.agg (evV t va vc pv pl kv), .pointer (some ⟨mb, 0, none⟩), .iface 92 (.int .i64 n)] w fun e w' => (∃ v, e = .returned v /\ RTk P w0 w' bad mb (.ev (t.args.getD 2 noTm) en k) v) /\ Ext w w' := by
  have HC := LH hC
  have HE := LH hE
  have HAL : Hid (2 < t.args.length) := by show _ < _; omega
  obtain ⟨Aa, ca, Ab, cb, p, q, tk, uk, rfl, hla, hma, rfl, -, -, rfl, rfl, rfl⟩ := hE.form
  have HE1 := LH (Ext.al w (.cells (evV t (.slice Aa t.args.length ca) (.slice Ab t.cls.length cb) (.pointer p) (.pointer q) (.iface tk uk)) 294))
  obtain ⟨c0, c1, c2, c3, c4, c5, c6, c7, c8⟩ := c59 (hNw w (.cells (evV t (.slice Aa t.args.length ca) (.slice Ab t.cls.length cb) (.pointer p) (.pointer q) (.iface tk uk)) 294))
  have HN := LH hn
  have h3 := ta_int
  clear hC hE hn hal
  go_enter Tryz.func213, Tryz.ntmps213
  go_wp2_with fail
  generalize w.alloc _ = w1 at *
  have HE2 := LH (HE.out.ext HE1.out)
  (with_reducible refine (earg2_any P w0 _ bad mb t en k k _ _ _ _ _ _ (HC.out.ext.tr HE1.out) HE2.out.t HE2.out.vs HE2.out.ls HE2.out.k HE2.out.k HAL.out).mono ?_)
  rintro e w2 ⟨⟨v, rfl, hr⟩, hx⟩
  obtain ⟨tv, uv, rfl⟩ := hr.form
  have HR := LH hr
  have HX := LH (HE1.out.tr hx)
  clear hr hx
  go_wp2
  go_ret
  exact ⟨⟨_, rfl, HR.out⟩, HX.out⟩
set_option maxHeartbeats 2000000 in
theorem fin_int (w : World) (mb : Nat) (vd vf lz ov : Value) (fuel en0 vl st n : Int) (hM : MB w mb vd vf lz ov fuel en0 vl st) :
    Calls Tryz.prog 189 #[.agg #[], .pointer (some ⟨mb, 0, none⟩), .iface 92 (.int .i64 n)] w fun e w' => (e = .returned .nilIface /\ MB w' mb vd vf lz ov fuel 0 n st) /\ Only (fun b => b = mb) w w' := by
  have HE1 := LH (Ext.al w (.cells #[] 103))
  have HM := LH (hM.ext HE1.out)
  have h3 := ta_int
  have c5 := cA HM.out 5
  have f5 := fA HM.out 5
  have HM1 : Hid (MB ((w.alloc (.cells #[] 103)).setCell ⟨mb, 5, none⟩ (.int .i64 n)) mb vd vf lz ov fuel en0 n st) := set8_val HM.out _
  have HO1 := LH (o5s (w.alloc (.cells #[] 103)) mb 5 (.int .i64 n))
  clear hM
  go_enter Tryz.func189, Tryz.ntmps189
  go_wp2_with fail
  (with_reducible refine (mend_any _ mb vd vf lz ov fuel en0 n st 0 HM1.out).mono ?_)
  rintro e w2 ⟨⟨rfl, hm⟩, ho⟩
  have HM2 := LH hm
  have HO2 : Hid (Only (fun b => b = mb) w w2) := ((Only.of_ext HE1.out).tr HO1.out).tr ho
  clear hm ho
  go_wp2
  go_ret
  exact ⟨⟨rfl, HM2.out⟩, HO2.out⟩
set_option maxHeartbeats 2000000 in
theorem fin_not_construct (w : World) (mb : Nat) (vd vf lz ov : Value) (fuel en0 vl st : Int) (u : Value) (hM : MB w mb vd vf lz ov fuel en0 vl st) :
    Calls Tryz.prog 189 #[.agg #[], .pointer (some ⟨mb, 0, none⟩), .iface 303 u] w fun e w' => (e = .returned .nilIface /\ MB w' mb vd vf lz ov fuel 2 vl st) /\ Only (fun b => b = mb) w w' := by
  have HE1 := LH (Ext.al w (.cells #[] 103))
  have HM := LH (hM.ext HE1.out)
  have h1 := ta_int_con
  have h2 := ta_int_obj
  clear hM
  go_enter Tryz.func189, Tryz.ntmps189
  go_wp2_with fail
  (with_reducible refine (mend_any _ mb vd vf lz ov fuel en0 vl st 2 HM.out).mono ?_)
  rintro e w2 ⟨⟨rfl, hm⟩, ho⟩
  have HM2 := LH hm
  have HO2 : Hid (Only (fun b => b = mb) w w2) := (Only.of_ext HE1.out).tr ho
  clear hm ho
  go_wp2
  go_ret
  exact ⟨⟨rfl, HM2.out⟩, HO2.out⟩
set_option maxHeartbeats 2000000 in
theorem fin_not_object (w : World) (mb : Nat) (vd vf lz ov : Value) (fuel en0 vl st : Int) (u : Value) (hM : MB w mb vd vf lz ov fuel en0 vl st) :
    Calls Tryz.prog 189 #[.agg #[], .pointer (some ⟨mb, 0, none⟩), .iface 297 u] w fun e w' => (e = .returned .nilIface /\ MB w' mb vd vf lz ov fuel 2 vl st) /\ Only (fun b => b = mb) w w' := by
  have HE1 := LH (Ext.al w (.cells #[] 103))
  have HM := LH (hM.ext HE1.out)
  have h1 := ta_int_con
  have h2 := ta_int_obj
  clear hM
  go_enter Tryz.func189, Tryz.ntmps189
  go_wp2_with fail
  (with_reducible refine (mend_any _ mb vd vf lz ov fuel en0 vl st 2 HM.out).mono ?_)
  rintro e w2 ⟨⟨rfl, hm⟩, ho⟩
  have HM2 := LH hm
  have HO2 : Hid (Only (fun b => b = mb) w w2) := (Only.of_ext HE1.out).tr ho
  clear hm ho
  go_wp2
  go_ret
  exact ⟨⟨rfl, HM2.out⟩, HO2.out⟩
end Go.Proofs.YtkdglplfcpindaaGreatDoor

namespace Go.Proofs.YtkdglplfcpindaaGreatDoor
open Go.RowKit
set_option maxHeartbeats 4000000 in
theorem bind_rcv (P : Pg) (w0 w : World) (bad : Nat -> Prop) (mb : Nat) (vd vf lz ov : Value) (fuel en0 vl st : Int) (t : Tm) (en : En) (k : Kt) (va vc pv pl kv : Value) (ts : List Tm) (ys : List Int) (l : List It) (vt vy a fv xv : Value) (x : Vl)
    (hC : MC P w0 w bad mb vd vf lz ov fuel en0 vl st) (hE : Ev5 P w0 w bad mb t en k va vc pv pl kv) (h1 : RTs w0 vt ts) (h2 : RIs w bad vy ys) (h3 : D5 P w0 w bad mb (.is a l)) (h4 : D5 P w0 w bad mb (.v xv x)) (hth : ThV P w0 w bad mb (evV t va vc pv pl kv) t fv)
    (hop : t.op = 4 ∨ t.op = 6 ∨ t.op = 8 ∨ t.op = 9) (hfit : fitsT P t = true) (ht1 : 1 <= ts.length) (hlen : ts.length = ys.length) (hN : l.length + ys.length = (typesOf P t).length) (hyr : ∀ y ∈ ys, ∃ u : Nat, y = u /\ u <= P.decls.length) (hsm : (typesOf P t).length <= 1000) :
    Calls Tryz.prog 219 #[.agg #[vt, vy, pv, pl, a, fv], .pointer (some ⟨mb, 0, none⟩), xv] w fun e w' => (∃ v, e = .returned v /\ RTk P w0 w' bad mb (resS P t en k ts.tail ys.tail (l ++ [.held x])) v) /\ Ext w w' := by
  have HC := LH hC
  have HE := LH hE
  have H1 := LH h1
  have H2 := LH h2
  have H3 := LH h3
  have H4 := LH h4
  have HTH := LH hth
  have HYR : Hid (∀ y ∈ ys.tail, ∃ u : Nat, y = u /\ u <= P.decls.length) := fun y hy => hyr y (List.mem_of_mem_tail hy)
  have HLEN : Hid (ts.tail.length = ys.tail.length) := by show _ = _; rw [List.length_tail, List.length_tail]; omega
  have HNN : Hid ((l ++ [It.held x]).length + ys.tail.length = (typesOf P t).length) := by show _ = _; rw [List.length_append, List.length_tail, List.length_singleton]; omega
  have HY1 : Hid (1 <= ys.length) := by show _ <= _; omega
  have HL1 : Hid (l.length <= 1000) := by show _ <= _; omega
  have HT1 := LH ht1
  obtain ⟨At, ct, rfl, -, -⟩ := h1.form
  obtain ⟨Ay, cy, rfl, -, -⟩ := h2.form
  obtain ⟨A, c, rfl, -, -⟩ := h3.is_form
  obtain ⟨p, rfl⟩ := hE.vs.vs_form
  obtain ⟨q, rfl⟩ := hE.ls.ls_form
  obtain ⟨fn, fc, rfl⟩ := hth.form
  obtain ⟨tv, uv, rfl⟩ := h4.v_form
  have HE1 := LH (Ext.al w (.cells #[.slice At ts.length ct, .slice Ay ys.length cy, .pointer p, .pointer q, .slice A l.length c, .func (.func fn) #[] fc] 307))
  obtain ⟨c0, c1, c2, c3, c4, c5⟩ := cells5_6 (hNw w (.cells #[.slice At ts.length ct, .slice Ay ys.length cy, .pointer p, .pointer q, .slice A l.length c, .func (.func fn) #[] fc] 307))
  clear hC hE h1 h2 h3 h4 hth hyr hlen hN ht1
  go_enter Tryz.func219, Tryz.ntmps219
  go_wp2_with fail
  generalize w.alloc _ = w1 at *
  have HK : Hid (Kp bad bad w w1) := Kp.of_ext HE1.out
  have HC1 := LH (HC.out.ext' HE1.out)
  (with_reducible refine (bwith5_any P w0 _ bad mb ts ys l (.held x) _ _ _ _ _ p q H1.out (RIs.kp HK.out H2.out) (H3.out.kp HK.out) (.held _ x (H4.out.kp HK.out)) ⟨_, _, rfl⟩ HT1.out HY1.out HL1.out HC1.out.nb).mono ?_)
  rintro e w2 ⟨⟨vt2, vy2, a2, rfl, h1n, h2n, h3n⟩, hx2⟩
  obtain ⟨At2, ct2, rfl, -, -⟩ := h1n.form
  obtain ⟨Ay2, cy2, rfl, -, -⟩ := h2n.form
  obtain ⟨A2, c2', rfl, -, -⟩ := h3n.is_form
  have H1n := LH h1n
  have H2n := LH h2n
  have H3n := LH h3n
  have HX2 := LH (HE1.out.tr hx2)
  have HC2 := LH (HC1.out.ext' hx2)
  clear h1n h2n h3n hx2 c0 c1 c2 c3 c4 c5
  go_wp2_with fail
  have HR0 := LH (resume_any P w0 w2 bad mb vd vf lz ov fuel en0 vl st t en k _ _ _ _ _ ts.tail ys.tail (l ++ [.held x]) _ _ _ _ HC2.out.prog HC2.out.ext HC2.out.nb HC2.out.mb HC2.out.lz (HE.out.ext HX2.out) H1n.out H2n.out H3n.out (ThV.kp (Kp.of_ext HX2.out) HTH.out) hop hfit HLEN.out HNN.out HYR.out hsm)
  (first | (with_reducible refine HR0.out.mono ?_) | (simp only [List.length_tail, List.length_append, List.length_cons, List.length_nil, Nat.zero_add] at HR0; with_reducible refine HR0.out.mono ?_))
  rintro e w3 ⟨⟨v, rfl, hr⟩, hx3⟩
  obtain ⟨tv, uv, rfl⟩ := hr.form
  have HR := LH hr
  have HX3 := LH (HX2.out.tr hx3)
  clear hr hx3
  go_wp2
  go_ret
  exact ⟨⟨_, rfl, HR.out⟩, HX3.out⟩
end Go.Proofs.YtkdglplfcpindaaGreatDoor

namespace Go.Proofs.YtkdglplfcpindaaGreatDoor
open Go.RowKit
theorem RTx.clause {w0 w : World} (hx : Ext w0 w) {t : Tm} {B : Option Addr} {n c : Nat} {va : Value} (h : RTx w0 t va (.slice B n c)) {i : Nat} (hi : i < t.cls.length) : ∃ b o vn xa xc, B = some ⟨b, o, none⟩ /\ w.cell? ⟨b, o + i * 7, none⟩ = some vn /\ RStrs w0 vn (t.cls.getD i ([], noTm)).1 /\ C6 w b (o + i * 7 + 1) (t.cls.getD i ([], noTm)).2 xa xc /\ RTx w0 (t.cls.getD i ([], noTm)).2 xa xc := by
  obtain ⟨k, h⟩ := h
  cases k with
  | zero => exact h.elim
  | succ k =>
    obtain ⟨-, -, ⟨A', c', e1, -, -, h3⟩⟩ := h
    simp only [Value.slice.injEq] at e1
    obtain ⟨rfl, -, -⟩ := e1
    obtain ⟨b, o, vn, xa, xc, e, -, h4, h5, h6, h7⟩ := h3 i t.cls[i] (List.getElem?_eq_getElem hi)
    have : t.cls.getD i ([], noTm) = t.cls[i] := by rw [List.getD_eq_getElem?_getD, List.getElem?_eq_getElem hi]; rfl
    rw [this]
    exact ⟨b, o, vn, xa, xc, e, hx.keep h4, h5, h6.below hx, k, h7⟩
theorem cells5_3 {w : World} {b T : Nat} {a0 a1 a2 : Value} (h : w.heap[b]? = some (.cells #[a0, a1, a2] T (0, 0))) : w.cell? ⟨b, 0, none⟩ = some a0 /\ w.cell? ⟨b, 1, none⟩ = some a1 /\ w.cell? ⟨b, 2, none⟩ = some a2 := ⟨cA h 0, cA h 1, cA h 2⟩
theorem cells5_7 {w : World} {b T : Nat} {a0 a1 a2 a3 a4 a5 a6 : Value} (h : w.heap[b]? = some (.cells #[a0, a1, a2, a3, a4, a5, a6] T (0, 0))) : w.cell? ⟨b, 0, none⟩ = some a0 /\ w.cell? ⟨b, 1, none⟩ = some a1 /\ w.cell? ⟨b, 2, none⟩ = some a2 /\ w.cell? ⟨b, 3, none⟩ = some a3 /\ w.cell? ⟨b, 4, none⟩ = some a4 /\ w.cell? ⟨b, 5, none⟩ = some a5 /\ w.cell? ⟨b, 6, none⟩ = some a6 :=
  ⟨cA h 0, cA h 1, cA h 2, cA h 3, cA h 4, cA h 5, cA h 6⟩
set_option maxHeartbeats 4000000 in
theorem ana_con (P : Pg) (w0 w : World) (bad : Nat -> Prop) (mb : Nat) (vd vf lz ov : Value) (fuel en0 vl st : Int) (t : Tm) (en : En) (k : Kt) (va vc pv pl kv a : Value) (m : Nat) (l : List It)
    (hC : MC P w0 w bad mb vd vf lz ov fuel en0 vl st) (hE : Ev5 P w0 w bad mb t en k va vc pv pl kv) (ha : D5 P w0 w bad mb (.is a l)) (hm : m < t.cls.length) (hnl : (t.cls.getD m ([], noTm)).1.length <= l.length) :
    Calls Tryz.prog 214 #[.agg (evV t va vc pv pl kv), .pointer (some ⟨mb, 0, none⟩), .iface 303 (.agg #[.int .i64 t.ty, .int .i64 (m : Int), a])] w fun e w' => (∃ v, e = .returned v /\ RTk P w0 w' bad mb (.ev (t.cls.getD m ([], noTm)).2 (bindV en (t.cls.getD m ([], noTm)).1 l) k) v) /\ Ext w w' := by
  have HC := LH hC
  have HE := LH hE
  have HA := LH ha
  have HNL := LH hnl
  obtain ⟨Aa, ca, Ab, cb, p, q, tk, uk, rfl, hla, hma, rfl, hlb, hmb, rfl, rfl, rfl⟩ := hE.form
  obtain ⟨A, c, rfl, -, -⟩ := ha.is_form
  obtain ⟨b, o, vn, xa, xc, rfl, hvn, hrs, h6, h7⟩ := hE.t.clause hC.ext hm
  obtain ⟨An, cn, rfl, -, -⟩ := hrs.form
  obtain ⟨⟨Ax, cx, rfl, -, -⟩, ⟨Ay, cy, rfl, -, -⟩⟩ := h7.form
  have HRS := LH hrs
  have H7 := LH h7
  have hml : (m : Int) < t.cls.length := by omega
  unfold maxLen at hmb
  generalize t.cls.getD m ([], noTm) = y at *
  obtain ⟨ns, y⟩ := y
  simp only at *
  obtain ⟨g1, g2, g3, g4⟩ := bx5_two w (.cells (evV t (.slice Aa t.args.length ca) (.slice (some ⟨b, o, none⟩) t.cls.length cb) (.pointer p) (.pointer q) (.iface tk uk)) 295) (.cells #[.int .i64 t.ty, .int .i64 (m : Int), .slice A l.length c] 303)
  obtain ⟨k1, k2, k3, k4, k5⟩ := bx5_three w (.cells (evV t (.slice Aa t.args.length ca) (.slice (some ⟨b, o, none⟩) t.cls.length cb) (.pointer p) (.pointer q) (.iface tk uk)) 295) (.cells #[.int .i64 t.ty, .int .i64 (m : Int), .slice A l.length c] 303) (.cells #[.slice An ns.length cn, .int .i64 y.op, .int .i64 y.n, .string y.nm, .int .i64 y.ty, .slice Ax y.args.length cx, .slice Ay y.cls.length cy] 123)
  have HB1 := LH k1
  have HB2 := LH k2
  have HB3 := LH k3
  have HE3 := LH k5
  obtain ⟨c0, c1, c2, c3, c4, c5, c6, c7, c8⟩ := c59 g1
  obtain ⟨d0, d1, d2⟩ := cells5_3 g2
  have hvn := g4.keep hvn
  obtain ⟨y0, y1, y2, y3, y4, y5⟩ := h6.below g4
  have h3 := ta_con
  clear hC hE ha hrs h7 hm hnl g1 g2 g3 g4 k1 k2 k3 k4 k5 h6
  go_enter Tryz.func214, Tryz.ntmps214
  go_wp2
  clear c0 c1 c2 c3 c4 c5 c6 c7 c8 d0 d1 d2 hvn y0 y1 y2 y3 y4 y5 h3
  generalize World.alloc (World.alloc (World.alloc w _) _) _ = w1 at *
  obtain ⟨c0, c1, c2, c3, c4, c5, c6, c7, c8⟩ := c59 HB1.out
  have d2 := cA HB2.out 2
  obtain ⟨y0, y1, y2, y3, y4, y5, y6⟩ := cells5_7 HB3.out
  clear c0 c1 c2 c3 c4 c5
  have HX1 := LH ((HE3.out).tr (Ext.rf w1).drew)
  have HED := LH (HE.out.ext HX1.out)
  have HAD := LH (HA.out.ext HX1.out)
  have HND := LH (HC.out.nb.ext HX1.out)
  have HRD := LH (HRS.out.below (HC.out.ext.tr HX1.out))
  go_region_held3 (fun w' => w'.cell? ⟨w.heap.size, 6, none⟩ = some (.pointer p) /\ w'.cell? ⟨w.heap.size, 7, none⟩ = some (.pointer q) /\ w'.cell? ⟨w.heap.size, 8, none⟩ = some (.iface tk uk) /\ w'.cell? ⟨w.heap.size + 1, 2, none⟩ = some (.slice A l.length c) /\ w'.cell? ⟨w.heap.size + 1 + 1, 0, none⟩ = some (.slice An ns.length cn) /\ w'.cell? ⟨w.heap.size + 1 + 1, 1, none⟩ = some (.int .i64 y.op) /\ w'.cell? ⟨w.heap.size + 1 + 1, 2, none⟩ = some (.int .i64 y.n) /\ w'.cell? ⟨w.heap.size + 1 + 1, 3, none⟩ = some (.string y.nm) /\ w'.cell? ⟨w.heap.size + 1 + 1, 4, none⟩ = some (.int .i64 y.ty) /\ w'.cell? ⟨w.heap.size + 1 + 1, 5, none⟩ = some (.slice Ax y.args.length cx) /\ w'.cell? ⟨w.heap.size + 1 + 1, 6, none⟩ = some (.slice Ay y.cls.length cy))
    (first | exact ⟨cA HB5.out 6, cA HB5.out 7, cA HB5.out 8, cA HV5.out 2, cells5_7 HY5.out⟩ | go_keep)
    ((go_at_call 71; (with_reducible refine (ebind_any P w0 _ bad mb ns l en.vs en.ls _ _ _ _ HED.out.vs HED.out.ls HRD.out HAD.out HNL.out HND.out).mono ?_); rintro e w5 ⟨⟨a, rfl, hr⟩, hx⟩; obtain ⟨pa, rfl⟩ := hr.vs_form; have HR := LH hr; have HX : Hid (Ext w1 w5) := Ext.tr (b := w1.drew) (Ext.rf w1).drew hx; have HB5 := LH ((HX.out.block _ (hLt HB1.out)).trans HB1.out); have HV5 := LH ((HX.out.block _ (hLt HB2.out)).trans HB2.out); have HY5 := LH ((HX.out.block _ (hLt HB3.out)).trans HB3.out); clear hr hx))
  all_goals
    go_wp2
    go_ret
    exact ⟨⟨_, rfl, ⟨_, _, _, _, _, rfl, H7.out, HR.out, HE.out.ls.ext (HE3.out.tr HX.out), HE.out.k.ext (HE3.out.tr HX.out)⟩⟩, HE3.out.tr HX.out⟩
end Go.Proofs.YtkdglplfcpindaaGreatDoor

namespace Go.Proofs.YtkdglplfcpindaaGreatDoor
open Go.RowKit
set_option maxHeartbeats 4000000 in
theorem obs_obj (P : Pg) (w0 w : World) (bad : Nat -> Prop) (mb : Nat) (vd vf lz ov : Value) (fuel en0 vl st : Int) (t : Tm) (en : En) (k : Kt) (va vc pv pl kv a : Value) (m : Nat) (l : List It) (u : Tm) (eu : En) (ua uc qv ql : Value)
    (hC : MC P w0 w bad mb vd vf lz ov fuel en0 vl st) (hE : Ev5 P w0 w bad mb t en k va vc pv pl kv) (ha : D5 P w0 w bad mb (.is a l)) (hu : RTx w0 u ua uc) (huv : D5 P w0 w bad mb (.vs qv eu.vs)) (hul : D5 P w0 w bad mb (.ls ql eu.ls)) (hty : u.ty = t.ty) (htn : t.n = (m : Int)) (hm : m < u.cls.length) (hnl : (u.cls.getD m ([], noTm)).1.length <= l.length) :
    Calls Tryz.prog 218 #[.agg (evW t va vc pv pl kv a), .pointer (some ⟨mb, 0, none⟩), .iface 297 (.agg (clV u ua uc qv ql))] w fun e w' => (∃ v, e = .returned v /\ RTk P w0 w' bad mb (.ev (u.cls.getD m ([], noTm)).2 (bindV eu (u.cls.getD m ([], noTm)).1 l) k) v) /\ Ext w w' := by
  have HC := LH hC
  have HE := LH hE
  have HA := LH ha
  have HUV := LH huv
  have HUL := LH hul
  have HNL := LH hnl
  obtain ⟨Aa, ca, Ab, cb, p, q, tk, uk, rfl, hla, hma, rfl, hlb, hmb, rfl, rfl, rfl⟩ := hE.form
  obtain ⟨A, c, rfl, -, -⟩ := ha.is_form
  obtain ⟨⟨Ua, uca, rfl, -, -⟩, ⟨Uc, ucc, rfl, hlu, hmu⟩⟩ := hu.form
  obtain ⟨q1, rfl⟩ := huv.vs_form
  obtain ⟨q2, rfl⟩ := hul.ls_form
  obtain ⟨b, o, vn, xa, xc, rfl, hvn, hrs, h6, h7⟩ := hu.clause hC.ext hm
  obtain ⟨An, cn, rfl, -, -⟩ := hrs.form
  obtain ⟨⟨Ax, cx, rfl, -, -⟩, ⟨Ay, cy, rfl, -, -⟩⟩ := h7.form
  have HRS := LH hrs
  have H7 := LH h7
  have hml : (m : Int) < u.cls.length := by omega
  unfold maxLen at hmu
  generalize u.cls.getD m ([], noTm) = y at *
  obtain ⟨ns, y⟩ := y
  simp only at *
  unfold evW clV
  rw [htn, hty]
  obtain ⟨g1, g2, g3, g4⟩ := bx5_two w (.cells #[.int .i64 t.op, .int .i64 (m : Int), .string t.nm, .int .i64 t.ty, .slice Aa t.args.length ca, .slice Ab t.cls.length cb, .pointer p, .pointer q, .iface tk uk, .slice A l.length c] 305) (.cells #[.int .i64 u.op, .int .i64 u.n, .string u.nm, .int .i64 t.ty, .slice Ua u.args.length uca, .slice (some ⟨b, o, none⟩) u.cls.length ucc, .pointer q1, .pointer q2] 297)
  obtain ⟨k1, k2, k3, k4, k5⟩ := bx5_three w (.cells #[.int .i64 t.op, .int .i64 (m : Int), .string t.nm, .int .i64 t.ty, .slice Aa t.args.length ca, .slice Ab t.cls.length cb, .pointer p, .pointer q, .iface tk uk, .slice A l.length c] 305) (.cells #[.int .i64 u.op, .int .i64 u.n, .string u.nm, .int .i64 t.ty, .slice Ua u.args.length uca, .slice (some ⟨b, o, none⟩) u.cls.length ucc, .pointer q1, .pointer q2] 297) (.cells #[.slice An ns.length cn, .int .i64 y.op, .int .i64 y.n, .string y.nm, .int .i64 y.ty, .slice Ax y.args.length cx, .slice Ay y.cls.length cy] 123)
  have HB1 := LH k1
  have HB2 := LH k2
  have HB3 := LH k3
  have HE3 := LH k5
  obtain ⟨c0, c1, c2, c3, c4, c5, c6, c7, c8, c9⟩ := cells5_t g1
  obtain ⟨d0, d1, d2, d3, d4, d5, d6, d7⟩ := cells5_8 g2
  have hvn := g4.keep hvn
  obtain ⟨y0, y1, y2, y3, y4, y5⟩ := h6.below g4
  have h3 := ta_obj
  clear hC hE ha hrs h7 hm hnl g1 g2 g3 g4 k1 k2 k3 k4 k5 h6 hu huv hul hty htn
  go_enter Tryz.func218, Tryz.ntmps218
  go_wp2
  clear c0 c1 c2 c3 c4 c5 c6 c7 c8 c9 d0 d1 d2 d3 d4 d5 d6 d7 hvn y0 y1 y2 y3 y4 y5 h3
  generalize World.alloc (World.alloc (World.alloc w _) _) _ = w1 at *
  obtain ⟨c0, c1, c2, c3, c4, c5, c6, c7, c8, c9⟩ := cells5_t HB1.out
  have d6 := cA HB2.out 6
  have d7 := cA HB2.out 7
  obtain ⟨y0, y1, y2, y3, y4, y5, y6⟩ := cells5_7 HB3.out
  clear c0 c1 c2 c3 c4 c5 c6 c7
  have HX1 := LH ((HE3.out).tr (Ext.rf w1).drew)
  have HUVD := LH (HUV.out.ext HX1.out)
  have HULD := LH (HUL.out.ext HX1.out)
  have HAD := LH (HA.out.ext HX1.out)
  have HND := LH (HC.out.nb.ext HX1.out)
  have HRD := LH (HRS.out.below (HC.out.ext.tr HX1.out))
  go_region_held3 (fun w' => w'.cell? ⟨w.heap.size, 8, none⟩ = some (.iface tk uk) /\ w'.cell? ⟨w.heap.size, 9, none⟩ = some (.slice A l.length c) /\ w'.cell? ⟨w.heap.size + 1, 6, none⟩ = some (.pointer q1) /\ w'.cell? ⟨w.heap.size + 1, 7, none⟩ = some (.pointer q2) /\ w'.cell? ⟨w.heap.size + 1 + 1, 0, none⟩ = some (.slice An ns.length cn) /\ w'.cell? ⟨w.heap.size + 1 + 1, 1, none⟩ = some (.int .i64 y.op) /\ w'.cell? ⟨w.heap.size + 1 + 1, 2, none⟩ = some (.int .i64 y.n) /\ w'.cell? ⟨w.heap.size + 1 + 1, 3, none⟩ = some (.string y.nm) /\ w'.cell? ⟨w.heap.size + 1 + 1, 4, none⟩ = some (.int .i64 y.ty) /\ w'.cell? ⟨w.heap.size + 1 + 1, 5, none⟩ = some (.slice Ax y.args.length cx) /\ w'.cell? ⟨w.heap.size + 1 + 1, 6, none⟩ = some (.slice Ay y.cls.length cy))
    (first | exact ⟨cA HB5.out 8, cA HB5.out 9, cA HV5.out 6, cA HV5.out 7, cells5_7 HY5.out⟩ | go_keep)
    ((go_at_call 71; (with_reducible refine (ebind_any P w0 _ bad mb ns l eu.vs eu.ls _ _ _ _ HUVD.out HULD.out HRD.out HAD.out HNL.out HND.out).mono ?_); rintro e w5 ⟨⟨a, rfl, hr⟩, hx⟩; obtain ⟨pa, rfl⟩ := hr.vs_form; have HR := LH hr; have HX : Hid (Ext w1 w5) := Ext.tr (b := w1.drew) (Ext.rf w1).drew hx; have HB5 := LH ((HX.out.block _ (hLt HB1.out)).trans HB1.out); have HV5 := LH ((HX.out.block _ (hLt HB2.out)).trans HB2.out); have HY5 := LH ((HX.out.block _ (hLt HB3.out)).trans HB3.out); clear hr hx))
  all_goals
    go_wp2
    go_ret
    exact ⟨⟨_, rfl, ⟨_, _, _, _, _, rfl, H7.out, HR.out, HUL.out.ext (HE3.out.tr HX.out), HE.out.k.ext (HE3.out.tr HX.out)⟩⟩, HE3.out.tr HX.out⟩
end Go.Proofs.YtkdglplfcpindaaGreatDoor
