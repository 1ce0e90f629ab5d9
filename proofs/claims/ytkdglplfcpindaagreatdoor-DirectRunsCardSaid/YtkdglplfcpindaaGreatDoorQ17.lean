import Derived.Test.YtkdglplfcpindaaGreatDoorQ16
import Derived.Deep.RegionHeld3
set_option maxRecDepth 100000
namespace Go.Proofs.YtkdglplfcpindaaGreatDoor
open Go.RowKit
set_option maxHeartbeats 4000000 in
theorem do4_any (P : Pg) (w0 w : World) (bad : Nat -> Prop) (mb : Nat) (vd vf lz ov : Value) (fuel en0 vl st : Int) (t : Tm) (en : En) (k : Kt) (va vc pv pl kv : Value)
    (hC : MC P w0 w bad mb vd vf lz ov fuel en0 vl st) (hE : Ev5 P w0 w bad mb t en k va vc pv pl kv) (hop : t.op = 4) (hT : TS false P (.ev t en k)) (hs0 : 0 <= st) (hs1 : st < fuel) (hs2 : fuel <= 20000) :
    Calls Tryz.prog 196 #[.agg (evV t va vc pv pl kv), .pointer (some ⟨mb, 0, none⟩)] w fun e w' => (∃ q v, evS P t en k = .go q /\ e = .returned v /\ RTk P w0 w' bad mb q v /\ MB w' mb vd vf lz ov fuel en0 vl (st + 1)) /\ Only (fun b => b = mb) w w' := by
  have HC := LH hC
  have HE := LH hE
  have HOP := LH hop
  have hne : (st == fuel) = false := by simp; omega
  have hfit : fitsT P t = true := by obtain ⟨E, F, z, h1, -⟩ := hT; exact h1.vld.fits
  have HFIT := LH hfit
  have HTT := LH hT
  have HQ : Hid (evS P t en k = .go (resS P t en k (termsOf t) (typesOf P t) [])) := by show _ = _; unfold evS; rw [if_neg (by omega), if_neg (by omega), if_neg (by omega), if_neg (by omega), if_neg (by omega), if_neg (by omega), if_neg (by omega), if_neg (by omega), if_neg (by omega)]
  obtain ⟨Aa, ca, Ab, cb, p, q, tk, uk, rfl, hla, hma, rfl, -, -, rfl, rfl, rfl⟩ := hE.form
  have HPRE := LH (fun n => pre_do hC (evV t (.slice Aa t.args.length ca) (.slice Ab t.cls.length cb) (.pointer p) (.pointer q) (.iface tk uk)) 161 n (st + 1))
  have HE1 := LH (Ext.al w (.cells (evV t (.slice Aa t.args.length ca) (.slice Ab t.cls.length cb) (.pointer p) (.pointer q) (.iface tk uk)) 161))
  have hm1 := hC.mb.ext HE1.out
  obtain ⟨-, -, -, m3, -, -, -, m7⟩ := hm1.cells
  have f7 := fA hm1 7
  have HEV : Hid ((evV t (.slice Aa t.args.length ca) (.slice Ab t.cls.length cb) (.pointer p) (.pointer q) (.iface tk uk)) = #[.int .i64 4, .int .i64 t.n, .string t.nm, .int .i64 t.ty, .slice Aa t.args.length ca, .slice Ab t.cls.length cb, .pointer p, .pointer q, .iface tk uk]) := by show _ = _; unfold evV; rw [hop]
  have hs3 : st <= 20000 := by omega
  clear hC hE hm1 hs1 hs2 hop hfit hT
  go_enter Tryz.func196, Tryz.ntmps196
  go_wp2
  go_quiet (fail)
  go_upto_region 4 with fail
  obtain ⟨hb, hc, ho⟩ := HPRE.out nq
  have HB0 := LH hb
  have HC2 := LH hc
  have HO := LH ho
  clear hb hc ho m3 m7 f7 HPRE
  generalize ((w.alloc (.cells (evV t (.slice Aa t.args.length ca) (.slice Ab t.cls.length cb) (.pointer p) (.pointer q) (.iface tk uk)) 161)).drewN nq).setCell ⟨mb, 7, none⟩ (.int .i64 (st + 1)) = w2 at *
  have hb := HB0.out
  rw [HEV.out] at hb
  have HB := LH hb
  clear hb
  obtain ⟨c0, c1, c2, c3, c4, c5, c6, c7, c8⟩ := c59 HB.out
  have HE2 := LH (HE.out.kp (Kp.of_only HO.out (fun b hb => hb ▸ HC.out.tu)))
  have HCA : Hid (Calls Tryz.prog 198 #[.agg #[.int .i64 4, .int .i64 t.n, .string t.nm, .int .i64 t.ty, .slice Aa t.args.length ca, .slice Ab t.cls.length cb, .pointer p, .pointer q, .iface tk uk], .pointer (some ⟨mb, 0, none⟩)] w2 fun e w' => (∃ v, e = .returned v /\ RTk P w0 w' bad mb (resS P t en k (termsOf t) (typesOf P t) []) v) /\ Ext w2 w') := by
    have := construct_any P w0 w2 bad mb vd vf lz ov fuel en0 vl (st + 1) t en k _ _ _ _ _ HC2.out HE2.out HOP.out HFIT.out
    rw [HEV.out] at this
    exact this
  go_wp2_with fail
  (with_reducible refine HCA.out.mono ?_)
  rintro e w3 ⟨⟨v, rfl, hr⟩, hx⟩
  obtain ⟨tv, uv, rfl⟩ := hr.form
  have HR := LH hr
  have HX := LH hx
  clear hr hx
  go_wp2
  go_ret
  exact ⟨⟨_, _, HQ.out, rfl, HR.out, HC2.out.mb.ext HX.out⟩, HO.out.tr (Only.of_ext HX.out)⟩
end Go.Proofs.YtkdglplfcpindaaGreatDoor

namespace Go.Proofs.YtkdglplfcpindaaGreatDoor
open Go.RowKit
set_option maxHeartbeats 4000000 in
theorem do6_any (P : Pg) (w0 w : World) (bad : Nat -> Prop) (mb : Nat) (vd vf lz ov : Value) (fuel en0 vl st : Int) (t : Tm) (en : En) (k : Kt) (va vc pv pl kv : Value)
    (hC : MC P w0 w bad mb vd vf lz ov fuel en0 vl st) (hE : Ev5 P w0 w bad mb t en k va vc pv pl kv) (hop : t.op = 6) (hT : TS false P (.ev t en k)) (hs0 : 0 <= st) (hs1 : st < fuel) (hs2 : fuel <= 20000) :
    Calls Tryz.prog 196 #[.agg (evV t va vc pv pl kv), .pointer (some ⟨mb, 0, none⟩)] w fun e w' => (∃ q v, evS P t en k = .go q /\ e = .returned v /\ RTk P w0 w' bad mb q v /\ MB w' mb vd vf lz ov fuel en0 vl (st + 1)) /\ Only (fun b => b = mb) w w' := by
  have HC := LH hC
  have HE := LH hE
  have HOP := LH hop
  have hne : (st == fuel) = false := by simp; omega
  have hfit : fitsT P t = true := by obtain ⟨E, F, z, h1, -⟩ := hT; exact h1.vld.fits
  have HFIT := LH hfit
  have HTT := LH hT
  have HQ : Hid (evS P t en k = .go (resS P t en k (termsOf t) (typesOf P t) [])) := by show _ = _; unfold evS; rw [if_neg (by omega), if_neg (by omega), if_neg (by omega), if_neg (by omega), if_neg (by omega), if_neg (by omega), if_neg (by omega), if_neg (by omega), if_neg (by omega)]
  obtain ⟨Aa, ca, Ab, cb, p, q, tk, uk, rfl, hla, hma, rfl, -, -, rfl, rfl, rfl⟩ := hE.form
  have HPRE := LH (fun n => pre_do hC (evV t (.slice Aa t.args.length ca) (.slice Ab t.cls.length cb) (.pointer p) (.pointer q) (.iface tk uk)) 161 n (st + 1))
  have HE1 := LH (Ext.al w (.cells (evV t (.slice Aa t.args.length ca) (.slice Ab t.cls.length cb) (.pointer p) (.pointer q) (.iface tk uk)) 161))
  have hm1 := hC.mb.ext HE1.out
  obtain ⟨-, -, -, m3, -, -, -, m7⟩ := hm1.cells
  have f7 := fA hm1 7
  have HEV : Hid ((evV t (.slice Aa t.args.length ca) (.slice Ab t.cls.length cb) (.pointer p) (.pointer q) (.iface tk uk)) = #[.int .i64 6, .int .i64 t.n, .string t.nm, .int .i64 t.ty, .slice Aa t.args.length ca, .slice Ab t.cls.length cb, .pointer p, .pointer q, .iface tk uk]) := by show _ = _; unfold evV; rw [hop]
  have hs3 : st <= 20000 := by omega
  clear hC hE hm1 hs1 hs2 hop hfit hT
  go_enter Tryz.func196, Tryz.ntmps196
  go_wp2
  go_quiet (fail)
  go_upto_region 4 with fail
  obtain ⟨hb, hc, ho⟩ := HPRE.out nq
  have HB0 := LH hb
  have HC2 := LH hc
  have HO := LH ho
  clear hb hc ho m3 m7 f7 HPRE
  generalize ((w.alloc (.cells (evV t (.slice Aa t.args.length ca) (.slice Ab t.cls.length cb) (.pointer p) (.pointer q) (.iface tk uk)) 161)).drewN nq).setCell ⟨mb, 7, none⟩ (.int .i64 (st + 1)) = w2 at *
  have hb := HB0.out
  rw [HEV.out] at hb
  have HB := LH hb
  clear hb
  obtain ⟨c0, c1, c2, c3, c4, c5, c6, c7, c8⟩ := c59 HB.out
  have HE2 := LH (HE.out.kp (Kp.of_only HO.out (fun b hb => hb ▸ HC.out.tu)))
  have HCA : Hid (Calls Tryz.prog 199 #[.agg #[.int .i64 6, .int .i64 t.n, .string t.nm, .int .i64 t.ty, .slice Aa t.args.length ca, .slice Ab t.cls.length cb, .pointer p, .pointer q, .iface tk uk], .pointer (some ⟨mb, 0, none⟩)] w2 fun e w' => (∃ v, e = .returned v /\ RTk P w0 w' bad mb (resS P t en k (termsOf t) (typesOf P t) []) v) /\ Ext w2 w') := by
    have := observe_any P w0 w2 bad mb vd vf lz ov fuel en0 vl (st + 1) t en k _ _ _ _ _ HC2.out HE2.out HOP.out HFIT.out
    rw [HEV.out] at this
    exact this
  go_wp2_with fail
  (with_reducible refine HCA.out.mono ?_)
  rintro e w3 ⟨⟨v, rfl, hr⟩, hx⟩
  obtain ⟨tv, uv, rfl⟩ := hr.form
  have HR := LH hr
  have HX := LH hx
  clear hr hx
  go_wp2
  go_ret
  exact ⟨⟨_, _, HQ.out, rfl, HR.out, HC2.out.mb.ext HX.out⟩, HO.out.tr (Only.of_ext HX.out)⟩
end Go.Proofs.YtkdglplfcpindaaGreatDoor

namespace Go.Proofs.YtkdglplfcpindaaGreatDoor
open Go.RowKit
set_option maxHeartbeats 4000000 in
theorem do8_any (P : Pg) (w0 w : World) (bad : Nat -> Prop) (mb : Nat) (vd vf lz ov : Value) (fuel en0 vl st : Int) (t : Tm) (en : En) (k : Kt) (va vc pv pl kv : Value)
    (hC : MC P w0 w bad mb vd vf lz ov fuel en0 vl st) (hE : Ev5 P w0 w bad mb t en k va vc pv pl kv) (hop : t.op = 8) (hT : TS false P (.ev t en k)) (hs0 : 0 <= st) (hs1 : st < fuel) (hs2 : fuel <= 20000) :
    Calls Tryz.prog 196 #[.agg (evV t va vc pv pl kv), .pointer (some ⟨mb, 0, none⟩)] w fun e w' => (∃ q v, evS P t en k = .go q /\ e = .returned v /\ RTk P w0 w' bad mb q v /\ MB w' mb vd vf lz ov fuel en0 vl (st + 1)) /\ Only (fun b => b = mb) w w' := by
  have HC := LH hC
  have HE := LH hE
  have HOP := LH hop
  have hne : (st == fuel) = false := by simp; omega
  have hfit : fitsT P t = true := by obtain ⟨E, F, z, h1, -⟩ := hT; exact h1.vld.fits
  have HFIT := LH hfit
  have HTT := LH hT
  have HQ : Hid (evS P t en k = .go (resS P t en k (termsOf t) (typesOf P t) [])) := by show _ = _; unfold evS; rw [if_neg (by omega), if_neg (by omega), if_neg (by omega), if_neg (by omega), if_neg (by omega), if_neg (by omega), if_neg (by omega), if_neg (by omega), if_neg (by omega)]
  obtain ⟨Aa, ca, Ab, cb, p, q, tk, uk, rfl, hla, hma, rfl, -, -, rfl, rfl, rfl⟩ := hE.form
  have HPRE := LH (fun n => pre_do hC (evV t (.slice Aa t.args.length ca) (.slice Ab t.cls.length cb) (.pointer p) (.pointer q) (.iface tk uk)) 161 n (st + 1))
  have HE1 := LH (Ext.al w (.cells (evV t (.slice Aa t.args.length ca) (.slice Ab t.cls.length cb) (.pointer p) (.pointer q) (.iface tk uk)) 161))
  have hm1 := hC.mb.ext HE1.out
  obtain ⟨-, -, -, m3, -, -, -, m7⟩ := hm1.cells
  have f7 := fA hm1 7
  have HEV : Hid ((evV t (.slice Aa t.args.length ca) (.slice Ab t.cls.length cb) (.pointer p) (.pointer q) (.iface tk uk)) = #[.int .i64 8, .int .i64 t.n, .string t.nm, .int .i64 t.ty, .slice Aa t.args.length ca, .slice Ab t.cls.length cb, .pointer p, .pointer q, .iface tk uk]) := by show _ = _; unfold evV; rw [hop]
  have hs3 : st <= 20000 := by omega
  clear hC hE hm1 hs1 hs2 hop hfit hT
  go_enter Tryz.func196, Tryz.ntmps196
  go_wp2
  go_quiet (fail)
  go_upto_region 4 with fail
  obtain ⟨hb, hc, ho⟩ := HPRE.out nq
  have HB0 := LH hb
  have HC2 := LH hc
  have HO := LH ho
  clear hb hc ho m3 m7 f7 HPRE
  generalize ((w.alloc (.cells (evV t (.slice Aa t.args.length ca) (.slice Ab t.cls.length cb) (.pointer p) (.pointer q) (.iface tk uk)) 161)).drewN nq).setCell ⟨mb, 7, none⟩ (.int .i64 (st + 1)) = w2 at *
  have hb := HB0.out
  rw [HEV.out] at hb
  have HB := LH hb
  clear hb
  obtain ⟨c0, c1, c2, c3, c4, c5, c6, c7, c8⟩ := c59 HB.out
  have HE2 := LH (HE.out.kp (Kp.of_only HO.out (fun b hb => hb ▸ HC.out.tu)))
  have HCA : Hid (Calls Tryz.prog 200 #[.agg #[.int .i64 8, .int .i64 t.n, .string t.nm, .int .i64 t.ty, .slice Aa t.args.length ca, .slice Ab t.cls.length cb, .pointer p, .pointer q, .iface tk uk], .pointer (some ⟨mb, 0, none⟩)] w2 fun e w' => (∃ v, e = .returned v /\ RTk P w0 w' bad mb (resS P t en k (termsOf t) (typesOf P t) []) v) /\ Ext w2 w') := by
    have := elet_any P w0 w2 bad mb vd vf lz ov fuel en0 vl (st + 1) t en k _ _ _ _ _ HC2.out HE2.out HOP.out HFIT.out
    rw [HEV.out] at this
    exact this
  go_wp2_with fail
  (with_reducible refine HCA.out.mono ?_)
  rintro e w3 ⟨⟨v, rfl, hr⟩, hx⟩
  obtain ⟨tv, uv, rfl⟩ := hr.form
  have HR := LH hr
  have HX := LH hx
  clear hr hx
  go_wp2
  go_ret
  exact ⟨⟨_, _, HQ.out, rfl, HR.out, HC2.out.mb.ext HX.out⟩, HO.out.tr (Only.of_ext HX.out)⟩
end Go.Proofs.YtkdglplfcpindaaGreatDoor

namespace Go.Proofs.YtkdglplfcpindaaGreatDoor
open Go.RowKit
set_option maxHeartbeats 4000000 in
theorem do9_any (P : Pg) (w0 w : World) (bad : Nat -> Prop) (mb : Nat) (vd vf lz ov : Value) (fuel en0 vl st : Int) (t : Tm) (en : En) (k : Kt) (va vc pv pl kv : Value)
    (hC : MC P w0 w bad mb vd vf lz ov fuel en0 vl st) (hE : Ev5 P w0 w bad mb t en k va vc pv pl kv) (hop : t.op = 9) (hT : TS false P (.ev t en k)) (hs0 : 0 <= st) (hs1 : st < fuel) (hs2 : fuel <= 20000) :
    Calls Tryz.prog 196 #[.agg (evV t va vc pv pl kv), .pointer (some ⟨mb, 0, none⟩)] w fun e w' => (∃ q v, evS P t en k = .go q /\ e = .returned v /\ RTk P w0 w' bad mb q v /\ MB w' mb vd vf lz ov fuel en0 vl (st + 1)) /\ Only (fun b => b = mb) w w' := by
  have HC := LH hC
  have HE := LH hE
  have HOP := LH hop
  have hne : (st == fuel) = false := by simp; omega
  have hfit : fitsT P t = true := by obtain ⟨E, F, z, h1, -⟩ := hT; exact h1.vld.fits
  have HFIT := LH hfit
  have HTT := LH hT
  have HQ : Hid (evS P t en k = .go (resS P t en k (termsOf t) (typesOf P t) [])) := by show _ = _; unfold evS; rw [if_neg (by omega), if_neg (by omega), if_neg (by omega), if_neg (by omega), if_neg (by omega), if_neg (by omega), if_neg (by omega), if_neg (by omega), if_neg (by omega)]
  obtain ⟨Aa, ca, Ab, cb, p, q, tk, uk, rfl, hla, hma, rfl, -, -, rfl, rfl, rfl⟩ := hE.form
  have HPRE := LH (fun n => pre_do hC (evV t (.slice Aa t.args.length ca) (.slice Ab t.cls.length cb) (.pointer p) (.pointer q) (.iface tk uk)) 161 n (st + 1))
  have HE1 := LH (Ext.al w (.cells (evV t (.slice Aa t.args.length ca) (.slice Ab t.cls.length cb) (.pointer p) (.pointer q) (.iface tk uk)) 161))
  have hm1 := hC.mb.ext HE1.out
  obtain ⟨-, -, -, m3, -, -, -, m7⟩ := hm1.cells
  have f7 := fA hm1 7
  have HEV : Hid ((evV t (.slice Aa t.args.length ca) (.slice Ab t.cls.length cb) (.pointer p) (.pointer q) (.iface tk uk)) = #[.int .i64 9, .int .i64 t.n, .string t.nm, .int .i64 t.ty, .slice Aa t.args.length ca, .slice Ab t.cls.length cb, .pointer p, .pointer q, .iface tk uk]) := by show _ = _; unfold evV; rw [hop]
  have hs3 : st <= 20000 := by omega
  clear hC hE hm1 hs1 hs2 hop hfit hT
  go_enter Tryz.func196, Tryz.ntmps196
  go_wp2
  go_quiet (fail)
  go_upto_region 4 with fail
  obtain ⟨hb, hc, ho⟩ := HPRE.out nq
  have HB0 := LH hb
  have HC2 := LH hc
  have HO := LH ho
  clear hb hc ho m3 m7 f7 HPRE
  generalize ((w.alloc (.cells (evV t (.slice Aa t.args.length ca) (.slice Ab t.cls.length cb) (.pointer p) (.pointer q) (.iface tk uk)) 161)).drewN nq).setCell ⟨mb, 7, none⟩ (.int .i64 (st + 1)) = w2 at *
  have hb := HB0.out
  rw [HEV.out] at hb
  have HB := LH hb
  clear hb
  obtain ⟨c0, c1, c2, c3, c4, c5, c6, c7, c8⟩ := c59 HB.out
  have HE2 := LH (HE.out.kp (Kp.of_only HO.out (fun b hb => hb ▸ HC.out.tu)))
  have HCA : Hid (Calls Tryz.prog 195 #[.agg #[.int .i64 9, .int .i64 t.n, .string t.nm, .int .i64 t.ty, .slice Aa t.args.length ca, .slice Ab t.cls.length cb, .pointer p, .pointer q, .iface tk uk], .pointer (some ⟨mb, 0, none⟩)] w2 fun e w' => (∃ v, e = .returned v /\ RTk P w0 w' bad mb (resS P t en k (termsOf t) (typesOf P t) []) v) /\ Ext w2 w') := by
    have := ecall_any P w0 w2 bad mb vd vf lz ov fuel en0 vl (st + 1) t en k _ _ _ _ _ HC2.out HE2.out HOP.out HFIT.out
    rw [HEV.out] at this
    exact this
  go_wp2_with fail
  (with_reducible refine HCA.out.mono ?_)
  rintro e w3 ⟨⟨v, rfl, hr⟩, hx⟩
  obtain ⟨tv, uv, rfl⟩ := hr.form
  have HR := LH hr
  have HX := LH hx
  clear hr hx
  go_wp2
  go_ret
  exact ⟨⟨_, _, HQ.out, rfl, HR.out, HC2.out.mb.ext HX.out⟩, HO.out.tr (Only.of_ext HX.out)⟩
end Go.Proofs.YtkdglplfcpindaaGreatDoor

namespace Go.Proofs.YtkdglplfcpindaaGreatDoor
open Go.RowKit
set_option maxHeartbeats 4000000 in
theorem do0_held (P : Pg) (w0 w : World) (bad : Nat -> Prop) (mb : Nat) (vd vf lz ov : Value) (fuel en0 vl st : Int) (t : Tm) (en : En) (k : Kt) (va vc pv pl kv : Value)
    (hC : MC P w0 w bad mb vd vf lz ov fuel en0 vl st) (hE : Ev5 P w0 w bad mb t en k va vc pv pl kv) (hop : t.op = 0) (hT : TS false P (.ev t en k)) (x : Vl) (hxx : findA en.vs t.nm = some (.held x)) (hs0 : 0 <= st) (hs1 : st < fuel) (hs2 : fuel <= 20000) :
    Calls Tryz.prog 196 #[.agg (evV t va vc pv pl kv), .pointer (some ⟨mb, 0, none⟩)] w fun e w' => (∃ q v, evS P t en k = .go q /\ e = .returned v /\ RTk P w0 w' bad mb q v /\ MB w' mb vd vf lz ov fuel en0 vl (st + 1)) /\ Only (fun b => b = mb) w w' := by
  have HC := LH hC
  have HE := LH hE
  have HOP := LH hop
  have hne : (st == fuel) = false := by simp; omega
  have hfit : fitsT P t = true := by obtain ⟨E, F, z, h1, -⟩ := hT; exact h1.vld.fits
  have HFIT := LH hfit
  have HTT := LH hT
  have HQ : Hid (evS P t en k = .go (.pass x k)) := by show _ = _; unfold evS; rw [if_pos hop, hxx]; rfl
  have HXX := LH hxx
  clear hxx
  obtain ⟨Aa, ca, Ab, cb, p, q, tk, uk, rfl, hla, hma, rfl, -, -, rfl, rfl, rfl⟩ := hE.form
  have HPRE := LH (fun n => pre_do hC (evV t (.slice Aa t.args.length ca) (.slice Ab t.cls.length cb) (.pointer p) (.pointer q) (.iface tk uk)) 161 n (st + 1))
  have HE1 := LH (Ext.al w (.cells (evV t (.slice Aa t.args.length ca) (.slice Ab t.cls.length cb) (.pointer p) (.pointer q) (.iface tk uk)) 161))
  have hm1 := hC.mb.ext HE1.out
  obtain ⟨-, -, -, m3, -, -, -, m7⟩ := hm1.cells
  have f7 := fA hm1 7
  have HEV : Hid ((evV t (.slice Aa t.args.length ca) (.slice Ab t.cls.length cb) (.pointer p) (.pointer q) (.iface tk uk)) = #[.int .i64 0, .int .i64 t.n, .string t.nm, .int .i64 t.ty, .slice Aa t.args.length ca, .slice Ab t.cls.length cb, .pointer p, .pointer q, .iface tk uk]) := by show _ = _; unfold evV; rw [hop]
  have hs3 : st <= 20000 := by omega
  clear hC hE hm1 hs1 hs2 hop hfit hT
  go_enter Tryz.func196, Tryz.ntmps196
  go_wp2
  go_quiet (fail)
  go_upto_region 4 with fail
  obtain ⟨hb, hc, ho⟩ := HPRE.out nq
  have HB0 := LH hb
  have HC2 := LH hc
  have HO := LH ho
  clear hb hc ho m3 m7 f7 HPRE
  generalize ((w.alloc (.cells (evV t (.slice Aa t.args.length ca) (.slice Ab t.cls.length cb) (.pointer p) (.pointer q) (.iface tk uk)) 161)).drewN nq).setCell ⟨mb, 7, none⟩ (.int .i64 (st + 1)) = w2 at *
  have hb := HB0.out
  rw [HEV.out] at hb
  have HB := LH hb
  clear hb
  obtain ⟨c0, c1, c2, c3, c4, c5, c6, c7, c8⟩ := c59 HB.out
  have HE2 := LH (HE.out.kp (Kp.of_only HO.out (fun b hb => hb ▸ HC.out.tu)))
  have HVS := LH (HE2.out.vs.ext (Ext.rf w2).drew)
  have HK2 := LH (HE2.out.k.ext (Ext.rf w2).drew)
  have hme := meth_held
  go_wp2
  go_region_held3 (fun w' => w'.cell? ⟨w.heap.size, 2, none⟩ = some (.string t.nm) /\ w'.cell? ⟨w.heap.size, 6, none⟩ = some (.pointer p) /\ w'.cell? ⟨w.heap.size, 8, none⟩ = some (.iface tk uk)) (first | exact ⟨cA HB5.out 2, cA HB5.out 6, cA HB5.out 8⟩ | go_keep)
    ((first
      | (go_at_call 191; (with_reducible refine (findI_any P w0 _ bad mb en.vs _ t.nm (.held x) HVS.out HXX.out).mono ?_); rintro e w4 ⟨⟨a, rfl, hr⟩, rfl⟩; obtain ⟨av, rfl, hv⟩ := hr.held_form; obtain ⟨ta, ua, rfl⟩ := hv.v_form; have HV := LH hv; clear hr hv)
      | (go_at_call 188; (with_reducible refine (fheld_any P w0 _ bad mb x k _ _ HV.out HK2.out).mono ?_); rintro e w5 ⟨⟨v, rfl, hr⟩, hx⟩; obtain ⟨tv, uv, rfl⟩ := hr.form; have HR := LH hr; have HX : Hid (Ext w2 w5) := Ext.tr (b := w2.drew) (Ext.rf w2).drew hx; have HB5 := LH ((HX.out.block _ (hLt HB.out)).trans HB.out); clear hr hx)))
  all_goals
    go_wp2
    go_ret
    exact ⟨⟨_, _, HQ.out, rfl, HR.out, HC2.out.mb.ext HX.out⟩, HO.out.tr (Only.of_ext HX.out)⟩
end Go.Proofs.YtkdglplfcpindaaGreatDoor

namespace Go.Proofs.YtkdglplfcpindaaGreatDoor
open Go.RowKit
set_option maxHeartbeats 4000000 in
theorem do0_thunk (P : Pg) (w0 w : World) (bad : Nat -> Prop) (mb : Nat) (vd vf lz ov : Value) (fuel en0 vl st : Int) (t : Tm) (en : En) (k : Kt) (va vc pv pl kv : Value)
    (hC : MC P w0 w bad mb vd vf lz ov fuel en0 vl st) (hE : Ev5 P w0 w bad mb t en k va vc pv pl kv) (hop : t.op = 0) (hT : TS false P (.ev t en k)) (u : Tm) (eu : En) (hxx : findA en.vs t.nm = some (.thunk u eu)) (hs0 : 0 <= st) (hs1 : st < fuel) (hs2 : fuel <= 20000) :
    Calls Tryz.prog 196 #[.agg (evV t va vc pv pl kv), .pointer (some ⟨mb, 0, none⟩)] w fun e w' => (∃ q v, evS P t en k = .go q /\ e = .returned v /\ RTk P w0 w' bad mb q v /\ MB w' mb vd vf lz ov fuel en0 vl (st + 1)) /\ Only (fun b => b = mb) w w' := by
  have HC := LH hC
  have HE := LH hE
  have HOP := LH hop
  have hne : (st == fuel) = false := by simp; omega
  have hfit : fitsT P t = true := by obtain ⟨E, F, z, h1, -⟩ := hT; exact h1.vld.fits
  have HFIT := LH hfit
  have HTT := LH hT
  have HQ : Hid (evS P t en k = .go (.ev u eu k)) := by show _ = _; unfold evS; rw [if_pos hop, hxx]; rfl
  have HXX := LH hxx
  clear hxx
  obtain ⟨Aa, ca, Ab, cb, p, q, tk, uk, rfl, hla, hma, rfl, -, -, rfl, rfl, rfl⟩ := hE.form
  have HPRE := LH (fun n => pre_do hC (evV t (.slice Aa t.args.length ca) (.slice Ab t.cls.length cb) (.pointer p) (.pointer q) (.iface tk uk)) 161 n (st + 1))
  have HE1 := LH (Ext.al w (.cells (evV t (.slice Aa t.args.length ca) (.slice Ab t.cls.length cb) (.pointer p) (.pointer q) (.iface tk uk)) 161))
  have hm1 := hC.mb.ext HE1.out
  obtain ⟨-, -, -, m3, -, -, -, m7⟩ := hm1.cells
  have f7 := fA hm1 7
  have HEV : Hid ((evV t (.slice Aa t.args.length ca) (.slice Ab t.cls.length cb) (.pointer p) (.pointer q) (.iface tk uk)) = #[.int .i64 0, .int .i64 t.n, .string t.nm, .int .i64 t.ty, .slice Aa t.args.length ca, .slice Ab t.cls.length cb, .pointer p, .pointer q, .iface tk uk]) := by show _ = _; unfold evV; rw [hop]
  have hs3 : st <= 20000 := by omega
  clear hC hE hm1 hs1 hs2 hop hfit hT
  go_enter Tryz.func196, Tryz.ntmps196
  go_wp2
  go_quiet (fail)
  go_upto_region 4 with fail
  obtain ⟨hb, hc, ho⟩ := HPRE.out nq
  have HB0 := LH hb
  have HC2 := LH hc
  have HO := LH ho
  clear hb hc ho m3 m7 f7 HPRE
  generalize ((w.alloc (.cells (evV t (.slice Aa t.args.length ca) (.slice Ab t.cls.length cb) (.pointer p) (.pointer q) (.iface tk uk)) 161)).drewN nq).setCell ⟨mb, 7, none⟩ (.int .i64 (st + 1)) = w2 at *
  have hb := HB0.out
  rw [HEV.out] at hb
  have HB := LH hb
  clear hb
  obtain ⟨c0, c1, c2, c3, c4, c5, c6, c7, c8⟩ := c59 HB.out
  have HE2 := LH (HE.out.kp (Kp.of_only HO.out (fun b hb => hb ▸ HC.out.tu)))
  have HVS := LH (HE2.out.vs.ext (Ext.rf w2).drew)
  have HK2 := LH (HE2.out.k.ext (Ext.rf w2).drew)
  have hme := meth_thunk
  go_wp2
  go_region_held3 (fun w' => w'.cell? ⟨w.heap.size, 2, none⟩ = some (.string t.nm) /\ w'.cell? ⟨w.heap.size, 6, none⟩ = some (.pointer p) /\ w'.cell? ⟨w.heap.size, 8, none⟩ = some (.iface tk uk)) (first | exact ⟨cA HB5.out 2, cA HB5.out 6, cA HB5.out 8⟩ | go_keep)
    ((first
      | (go_at_call 191; (with_reducible refine (findI_any P w0 _ bad mb en.vs _ t.nm (.thunk u eu) HVS.out HXX.out).mono ?_); rintro e w4 ⟨⟨a, rfl, hr⟩, rfl⟩; obtain ⟨xa, xc, qv, ql, rfl, ht, hv, hl⟩ := hr.thunk_form; have HTX := LH ht; have HV := LH hv; have HL := LH hl; clear hr hv hl ht)
      | (go_at_call 220; (with_reducible refine (fthunk_any P w0 _ bad mb u eu k _ _ _ _ _ HTX.out HV.out HL.out HK2.out).mono ?_); rintro e w5 ⟨⟨v, rfl, hr⟩, hx⟩; obtain ⟨tv, uv, rfl⟩ := hr.form; have HR := LH hr; have HX : Hid (Ext w2 w5) := Ext.tr (b := w2.drew) (Ext.rf w2).drew hx; have HB5 := LH ((HX.out.block _ (hLt HB.out)).trans HB.out); clear hr hx)))
  all_goals
    go_wp2
    go_ret
    exact ⟨⟨_, _, HQ.out, rfl, HR.out, HC2.out.mb.ext HX.out⟩, HO.out.tr (Only.of_ext HX.out)⟩
end Go.Proofs.YtkdglplfcpindaaGreatDoor

namespace Go.Proofs.YtkdglplfcpindaaGreatDoor
open Go.RowKit
set_option maxHeartbeats 4000000 in
theorem do12_any (P : Pg) (w0 w : World) (bad : Nat -> Prop) (mb : Nat) (vd vf lz ov : Value) (fuel en0 vl st : Int) (t : Tm) (en : En) (k : Kt) (va vc pv pl kv : Value)
    (hC : MC P w0 w bad mb vd vf lz ov fuel en0 vl st) (hE : Ev5 P w0 w bad mb t en k va vc pv pl kv) (hop : t.op = 12) (hT : TS false P (.ev t en k)) (k' : Kt) (hxx : findA en.ls t.nm = some k') (hs0 : 0 <= st) (hs1 : st < fuel) (hs2 : fuel <= 20000) :
    Calls Tryz.prog 196 #[.agg (evV t va vc pv pl kv), .pointer (some ⟨mb, 0, none⟩)] w fun e w' => (∃ q v, evS P t en k = .go q /\ e = .returned v /\ RTk P w0 w' bad mb q v /\ MB w' mb vd vf lz ov fuel en0 vl (st + 1)) /\ Only (fun b => b = mb) w w' := by
  have HC := LH hC
  have HE := LH hE
  have HOP := LH hop
  have hne : (st == fuel) = false := by simp; omega
  have hfit : fitsT P t = true := by obtain ⟨E, F, z, h1, -⟩ := hT; exact h1.vld.fits
  have HFIT := LH hfit
  have HTT := LH hT
  have HQ : Hid (evS P t en k = .go (.ev (t.args.getD 0 noTm) en k')) := by show _ = _; unfold evS; rw [if_neg (by omega), if_neg (by omega), if_neg (by omega), if_neg (by omega), if_neg (by omega), if_neg (by omega), if_neg (by omega), if_neg (by omega), if_pos hop, hxx]
  have HXX := LH hxx
  have HAL : Hid (0 < t.args.length) := by show _ < _; have := (fit11 hfit (.inr hop)).1; omega
  clear hxx
  obtain ⟨Aa, ca, Ab, cb, p, q, tk, uk, rfl, hla, hma, rfl, -, -, rfl, rfl, rfl⟩ := hE.form
  have HPRE := LH (fun n => pre_do hC (evV t (.slice Aa t.args.length ca) (.slice Ab t.cls.length cb) (.pointer p) (.pointer q) (.iface tk uk)) 161 n (st + 1))
  have HE1 := LH (Ext.al w (.cells (evV t (.slice Aa t.args.length ca) (.slice Ab t.cls.length cb) (.pointer p) (.pointer q) (.iface tk uk)) 161))
  have hm1 := hC.mb.ext HE1.out
  obtain ⟨-, -, -, m3, -, -, -, m7⟩ := hm1.cells
  have f7 := fA hm1 7
  have HEV : Hid ((evV t (.slice Aa t.args.length ca) (.slice Ab t.cls.length cb) (.pointer p) (.pointer q) (.iface tk uk)) = #[.int .i64 12, .int .i64 t.n, .string t.nm, .int .i64 t.ty, .slice Aa t.args.length ca, .slice Ab t.cls.length cb, .pointer p, .pointer q, .iface tk uk]) := by show _ = _; unfold evV; rw [hop]
  have hs3 : st <= 20000 := by omega
  clear hC hE hm1 hs1 hs2 hop hfit hT
  go_enter Tryz.func196, Tryz.ntmps196
  go_wp2
  go_quiet (fail)
  go_upto_region 4 with fail
  obtain ⟨hb, hc, ho⟩ := HPRE.out nq
  have HB0 := LH hb
  have HC2 := LH hc
  have HO := LH ho
  clear hb hc ho m3 m7 f7 HPRE
  generalize ((w.alloc (.cells (evV t (.slice Aa t.args.length ca) (.slice Ab t.cls.length cb) (.pointer p) (.pointer q) (.iface tk uk)) 161)).drewN nq).setCell ⟨mb, 7, none⟩ (.int .i64 (st + 1)) = w2 at *
  have hb := HB0.out
  rw [HEV.out] at hb
  have HB := LH hb
  clear hb
  obtain ⟨c0, c1, c2, c3, c4, c5, c6, c7, c8⟩ := c59 HB.out
  have HE2 := LH (HE.out.kp (Kp.of_only HO.out (fun b hb => hb ▸ HC.out.tu)))
  have HLS := LH (HE2.out.ls.ext (Ext.rf w2).drew)
  have HED := LH (HE2.out.ext (Ext.rf w2).drew)
  have HXD := LH (HC2.out.ext.tr (Ext.rf w2).drew)
  go_wp2
  go_region_held3 (fun w' => w'.cell? ⟨w.heap.size, 0, none⟩ = some (.int .i64 12) /\ w'.cell? ⟨w.heap.size, 1, none⟩ = some (.int .i64 t.n) /\ w'.cell? ⟨w.heap.size, 2, none⟩ = some (.string t.nm) /\ w'.cell? ⟨w.heap.size, 3, none⟩ = some (.int .i64 t.ty) /\ w'.cell? ⟨w.heap.size, 4, none⟩ = some (.slice Aa t.args.length ca) /\ w'.cell? ⟨w.heap.size, 5, none⟩ = some (.slice Ab t.cls.length cb) /\ w'.cell? ⟨w.heap.size, 6, none⟩ = some (.pointer p) /\ w'.cell? ⟨w.heap.size, 7, none⟩ = some (.pointer q) /\ w'.cell? ⟨w.heap.size, 8, none⟩ = some (.iface tk uk)) (first | exact c59 HB5.out | go_keep)
    ((first
      | (go_at_call 192; (with_reducible refine (findL_any P w0 _ bad mb en.ls _ t.nm k' HLS.out HXX.out).mono ?_); rintro e w4 ⟨⟨a, rfl, hr⟩, rfl⟩; obtain ⟨ta, ua, rfl⟩ := hr.k_form; have hca := earg_any P w0 w2.drew bad mb t en k' k _ _ _ _ _ _ 0 HXD.out HED.out.t HED.out.vs HED.out.ls HED.out.k hr HAL.out; rw [HEV.out, show (((0 : Nat) : Int)) = 0 from rfl] at hca; have HCA := LH hca; clear hca hr)
      | (go_at_call 197; (with_reducible refine HCA.out.mono ?_); rintro e w5 ⟨⟨v, rfl, hr⟩, hx⟩; obtain ⟨tv, uv, rfl⟩ := hr.form; have HR := LH hr; have HX : Hid (Ext w2 w5) := Ext.tr (b := w2.drew) (Ext.rf w2).drew hx; have HB5 := LH ((HX.out.block _ (hLt HB.out)).trans HB.out); clear hr hx)))
  all_goals
    go_wp2
    go_ret
    exact ⟨⟨_, _, HQ.out, rfl, HR.out, HC2.out.mb.ext HX.out⟩, HO.out.tr (Only.of_ext HX.out)⟩
end Go.Proofs.YtkdglplfcpindaaGreatDoor

namespace Go.Proofs.YtkdglplfcpindaaGreatDoor
open Go.RowKit
set_option maxHeartbeats 4000000 in
theorem do11_any (P : Pg) (w0 w : World) (bad : Nat -> Prop) (mb : Nat) (vd vf lz ov : Value) (fuel en0 vl st : Int) (t : Tm) (en : En) (k : Kt) (va vc pv pl kv : Value)
    (hC : MC P w0 w bad mb vd vf lz ov fuel en0 vl st) (hE : Ev5 P w0 w bad mb t en k va vc pv pl kv) (hop : t.op = 11) (hT : TS false P (.ev t en k)) (hs0 : 0 <= st) (hs1 : st < fuel) (hs2 : fuel <= 20000) :
    Calls Tryz.prog 196 #[.agg (evV t va vc pv pl kv), .pointer (some ⟨mb, 0, none⟩)] w fun e w' => (∃ q v, evS P t en k = .go q /\ e = .returned v /\ RTk P w0 w' bad mb q v /\ MB w' mb vd vf lz ov fuel en0 vl (st + 1)) /\ Only (fun b => b = mb) w w' := by
  have HC := LH hC
  have HE := LH hE
  have HOP := LH hop
  have hne : (st == fuel) = false := by simp; omega
  have hfit : fitsT P t = true := by obtain ⟨E, F, z, h1, -⟩ := hT; exact h1.vld.fits
  have HFIT := LH hfit
  have HTT := LH hT
  have HQ : Hid (evS P t en k = .go (.ev (t.args.getD 0 noTm) (.mk en.vs ((t.nm, k) :: en.ls)) k)) := by show _ = _; unfold evS markL; rw [if_neg (by omega), if_neg (by omega), if_neg (by omega), if_neg (by omega), if_neg (by omega), if_neg (by omega), if_neg (by omega), if_pos hop]
  have HAL : Hid (0 < t.args.length) := by show _ < _; have := (fit11 hfit (.inl hop)).1; omega
  have HL1 : Hid (t.args.length = 1) := (fit11 hfit (.inl hop)).1
  have HNM := LH hE.t.oks.1
  obtain ⟨Aa, ca, Ab, cb, p, q, tk, uk, rfl, hla, hma, rfl, -, -, rfl, rfl, rfl⟩ := hE.form
  have HPRE := LH (fun n => pre_do hC (evV t (.slice Aa t.args.length ca) (.slice Ab t.cls.length cb) (.pointer p) (.pointer q) (.iface tk uk)) 161 n (st + 1))
  have HE1 := LH (Ext.al w (.cells (evV t (.slice Aa t.args.length ca) (.slice Ab t.cls.length cb) (.pointer p) (.pointer q) (.iface tk uk)) 161))
  have hm1 := hC.mb.ext HE1.out
  obtain ⟨-, -, -, m3, -, -, -, m7⟩ := hm1.cells
  have f7 := fA hm1 7
  have HEV : Hid ((evV t (.slice Aa t.args.length ca) (.slice Ab t.cls.length cb) (.pointer p) (.pointer q) (.iface tk uk)) = #[.int .i64 11, .int .i64 t.n, .string t.nm, .int .i64 t.ty, .slice Aa t.args.length ca, .slice Ab t.cls.length cb, .pointer p, .pointer q, .iface tk uk]) := by show _ = _; unfold evV; rw [hop]
  have hs3 : st <= 20000 := by omega
  clear hC hE hm1 hs1 hs2 hop hfit hT
  go_enter Tryz.func196, Tryz.ntmps196
  go_wp2
  go_quiet (fail)
  go_upto_region 4 with fail
  obtain ⟨hb, hc, ho⟩ := HPRE.out nq
  have HB0 := LH hb
  have HC2 := LH hc
  have HO := LH ho
  clear hb hc ho m3 m7 f7 HPRE
  generalize ((w.alloc (.cells (evV t (.slice Aa t.args.length ca) (.slice Ab t.cls.length cb) (.pointer p) (.pointer q) (.iface tk uk)) 161)).drewN nq).setCell ⟨mb, 7, none⟩ (.int .i64 (st + 1)) = w2 at *
  have hb := HB0.out
  rw [HEV.out] at hb
  have HB := LH hb
  clear hb
  obtain ⟨c0, c1, c2, c3, c4, c5, c6, c7, c8⟩ := c59 HB.out
  have HE2 := LH (HE.out.kp (Kp.of_only HO.out (fun b hb => hb ▸ HC.out.tu)))
  obtain ⟨b, o, xa, xc, e0, h6, h7⟩ := HE2.out.t.arg HC2.out.ext (i := 0) HAL.out
  subst e0
  obtain ⟨⟨Ax, cx, rfl, -, -⟩, ⟨Ay, cy, rfl, -, -⟩⟩ := h7.form
  rw [Nat.zero_mul, Nat.add_zero] at h6
  have H6 := LH h6
  have H7 := LH h7
  have hb1 := HB.out
  rw [HL1.out] at hb1
  have HB1 := LH hb1
  clear hb1 c0 c1 c2 c3 c4 c5 c6 c7 c8
  obtain ⟨c0, c1, c2, c3, c4, c5, c6, c7, c8⟩ := c59 HB1.out
  generalize t.args.getD 0 noTm = y at *
  obtain ⟨y0, y1, y2, y3, y4, y5⟩ := h6
  clear h7
  have HED := LH (HE2.out.ext (Ext.rf w2).drew)
  have HND := LH (HC2.out.nb.ext (Ext.rf w2).drew)
  go_wp2
  go_region_held3 (fun w' => w'.cell? ⟨w.heap.size, 2, none⟩ = some (.string t.nm) /\ w'.cell? ⟨w.heap.size, 4, none⟩ = some (.slice (some ⟨b, o, none⟩) 1 ca) /\ w'.cell? ⟨w.heap.size, 6, none⟩ = some (.pointer p) /\ w'.cell? ⟨w.heap.size, 7, none⟩ = some (.pointer q) /\ w'.cell? ⟨w.heap.size, 8, none⟩ = some (.iface tk uk) ∧
      w'.cell? ⟨b, o, none⟩ = some (.int .i64 y.op) /\ w'.cell? ⟨b, o + 1, none⟩ = some (.int .i64 y.n) /\ w'.cell? ⟨b, o + 2, none⟩ = some (.string y.nm) /\ w'.cell? ⟨b, o + 3, none⟩ = some (.int .i64 y.ty) /\ w'.cell? ⟨b, o + 4, none⟩ = some (.slice Ax y.args.length cx) /\ w'.cell? ⟨b, o + 5, none⟩ = some (.slice Ay y.cls.length cy))
    (first | exact ⟨HC5.out.1, HC5.out.2.1, HC5.out.2.2.1, HC5.out.2.2.2.1, HC5.out.2.2.2.2, HY.out.c0, HY.out.c1, HY.out.c2, HY.out.c3, HY.out.c4, HY.out.c5⟩ | go_keep)
    ((go_at_call 194; (with_reducible refine (emark_any P w0 _ bad mb t.nm k en.vs en.ls _ _ _ HED.out.vs HED.out.ls HED.out.k HNM.out HND.out).mono ?_); rintro e w5 ⟨⟨a, rfl, hr⟩, hx⟩; obtain ⟨pa, rfl⟩ := hr.ls_form; have HR := LH hr; have HX : Hid (Ext w2 w5) := Ext.tr (b := w2.drew) (Ext.rf w2).drew hx; have HC5 := LH (cells5_five ((HX.out.block _ (hLt HB1.out)).trans HB1.out)); have HY := LH (H6.out.below HX.out); clear hr hx))
  all_goals
    go_wp2
    go_ret
    exact ⟨⟨_, _, HQ.out, rfl, ⟨_, _, _, _, _, rfl, H7.out, HE2.out.vs.ext HX.out, HR.out, HE2.out.k.ext HX.out⟩, HC2.out.mb.ext HX.out⟩, HO.out.tr (Only.of_ext HX.out)⟩
end Go.Proofs.YtkdglplfcpindaaGreatDoor
