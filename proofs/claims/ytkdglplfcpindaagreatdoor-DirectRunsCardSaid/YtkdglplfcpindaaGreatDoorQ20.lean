import Derived.Test.YtkdglplfcpindaaGreatDoorQ19
set_option maxRecDepth 100000
namespace Go.Proofs.YtkdglplfcpindaaGreatDoor
open Go.RowKit
set_option maxHeartbeats 2000000 in
theorem ana_not_integer (P : Pg) (w0 w : World) (bad : Nat -> Prop) (mb : Nat) (vd vf lz ov : Value) (fuel en0 vl st : Int) (t : Tm) (en : En) (k : Kt) (va vc pv pl kv : Value)
    (hC : MC P w0 w bad mb vd vf lz ov fuel en0 vl st) (hE : Ev5 P w0 w bad mb t en k va vc pv pl kv) (u : Value) :
    Calls Tryz.prog 214 #[.agg (evV t va vc pv pl kv), .pointer (some ⟨mb, 0, none⟩), .iface 92 u] w fun e w' => (e = .returned .nilIface /\ MB w' mb vd vf lz ov fuel 2 vl st) /\ Only (fun b => b = mb) w w' := by
  obtain ⟨Aa, ca, Ab, cb, p, q, tk, uk, rfl, hla, hma, rfl, -, -, rfl, rfl, rfl⟩ := hE.form
  have HE1 := LH (Ext.al2 w (.cells (evV t (.slice Aa t.args.length ca) (.slice Ab t.cls.length cb) (.pointer p) (.pointer q) (.iface tk uk)) 295) (.cells #[.int .i64 0, .int .i64 0, .slice none 0 0] 303))
  have HM := LH (hC.mb.ext HE1.out)
  have h1 := ta_con_int
  clear hC hE
  go_enter Tryz.func214, Tryz.ntmps214
  go_wp2_with fail
  (with_reducible refine (mend_any _ mb vd vf lz ov fuel en0 vl st 2 HM.out).mono ?_)
  rintro e w2 ⟨⟨rfl, hm⟩, ho⟩
  have HM2 := LH hm
  have HO2 : Hid (Only (fun b => b = mb) w w2) := (Only.of_ext HE1.out).tr ho
  clear hm ho
  go_wp2
  go_ret
  exact ⟨⟨rfl, HM2.out⟩, HO2.out⟩
set_option maxHeartbeats 2000000 in
theorem ana_not_object (P : Pg) (w0 w : World) (bad : Nat -> Prop) (mb : Nat) (vd vf lz ov : Value) (fuel en0 vl st : Int) (t : Tm) (en : En) (k : Kt) (va vc pv pl kv : Value)
    (hC : MC P w0 w bad mb vd vf lz ov fuel en0 vl st) (hE : Ev5 P w0 w bad mb t en k va vc pv pl kv) (u : Value) :
    Calls Tryz.prog 214 #[.agg (evV t va vc pv pl kv), .pointer (some ⟨mb, 0, none⟩), .iface 297 u] w fun e w' => (e = .returned .nilIface /\ MB w' mb vd vf lz ov fuel 2 vl st) /\ Only (fun b => b = mb) w w' := by
  obtain ⟨Aa, ca, Ab, cb, p, q, tk, uk, rfl, hla, hma, rfl, -, -, rfl, rfl, rfl⟩ := hE.form
  have HE1 := LH (Ext.al2 w (.cells (evV t (.slice Aa t.args.length ca) (.slice Ab t.cls.length cb) (.pointer p) (.pointer q) (.iface tk uk)) 295) (.cells #[.int .i64 0, .int .i64 0, .slice none 0 0] 303))
  have HM := LH (hC.mb.ext HE1.out)
  have h1 := ta_con_obj
  clear hC hE
  go_enter Tryz.func214, Tryz.ntmps214
  go_wp2_with fail
  (with_reducible refine (mend_any _ mb vd vf lz ov fuel en0 vl st 2 HM.out).mono ?_)
  rintro e w2 ⟨⟨rfl, hm⟩, ho⟩
  have HM2 := LH hm
  have HO2 : Hid (Only (fun b => b = mb) w w2) := (Only.of_ext HE1.out).tr ho
  clear hm ho
  go_wp2
  go_ret
  exact ⟨⟨rfl, HM2.out⟩, HO2.out⟩
set_option maxHeartbeats 2000000 in
theorem obs_not_integer (P : Pg) (w0 w : World) (bad : Nat -> Prop) (mb : Nat) (vd vf lz ov : Value) (fuel en0 vl st : Int) (t : Tm) (en : En) (k : Kt) (va vc pv pl kv : Value)
    (hC : MC P w0 w bad mb vd vf lz ov fuel en0 vl st) (hE : Ev5 P w0 w bad mb t en k va vc pv pl kv) (a : Value) (l : List It) (ha : D5 P w0 w bad mb (.is a l)) (u : Value) :
    Calls Tryz.prog 218 #[.agg (evW t va vc pv pl kv a), .pointer (some ⟨mb, 0, none⟩), .iface 92 u] w fun e w' => (e = .returned .nilIface /\ MB w' mb vd vf lz ov fuel 2 vl st) /\ Only (fun b => b = mb) w w' := by
  obtain ⟨Aa, ca, Ab, cb, p, q, tk, uk, rfl, hla, hma, rfl, -, -, rfl, rfl, rfl⟩ := hE.form
  obtain ⟨A, c, rfl, -, -⟩ := ha.is_form
  have HE1 := LH (Ext.al2 w (.cells (evW t (.slice Aa t.args.length ca) (.slice Ab t.cls.length cb) (.pointer p) (.pointer q) (.iface tk uk) (.slice A l.length c)) 305) (.cells #[.int .i64 0, .int .i64 0, .string ⟨#[]⟩, .int .i64 0, .slice none 0 0, .slice none 0 0, .pointer none, .pointer none] 297))
  have HM := LH (hC.mb.ext HE1.out)
  have h1 := ta_obj_int
  clear hC hE
  go_enter Tryz.func218, Tryz.ntmps218
  go_wp2_with fail
  (with_reducible refine (mend_any _ mb vd vf lz ov fuel en0 vl st 2 HM.out).mono ?_)
  rintro e w2 ⟨⟨rfl, hm⟩, ho⟩
  have HM2 := LH hm
  have HO2 : Hid (Only (fun b => b = mb) w w2) := (Only.of_ext HE1.out).tr ho
  clear hm ho
  go_wp2
  go_ret
  exact ⟨⟨rfl, HM2.out⟩, HO2.out⟩
set_option maxHeartbeats 2000000 in
theorem obs_not_construct (P : Pg) (w0 w : World) (bad : Nat -> Prop) (mb : Nat) (vd vf lz ov : Value) (fuel en0 vl st : Int) (t : Tm) (en : En) (k : Kt) (va vc pv pl kv : Value)
    (hC : MC P w0 w bad mb vd vf lz ov fuel en0 vl st) (hE : Ev5 P w0 w bad mb t en k va vc pv pl kv) (a : Value) (l : List It) (ha : D5 P w0 w bad mb (.is a l)) (u : Value) :
    Calls Tryz.prog 218 #[.agg (evW t va vc pv pl kv a), .pointer (some ⟨mb, 0, none⟩), .iface 303 u] w fun e w' => (e = .returned .nilIface /\ MB w' mb vd vf lz ov fuel 2 vl st) /\ Only (fun b => b = mb) w w' := by
  obtain ⟨Aa, ca, Ab, cb, p, q, tk, uk, rfl, hla, hma, rfl, -, -, rfl, rfl, rfl⟩ := hE.form
  obtain ⟨A, c, rfl, -, -⟩ := ha.is_form
  have HE1 := LH (Ext.al2 w (.cells (evW t (.slice Aa t.args.length ca) (.slice Ab t.cls.length cb) (.pointer p) (.pointer q) (.iface tk uk) (.slice A l.length c)) 305) (.cells #[.int .i64 0, .int .i64 0, .string ⟨#[]⟩, .int .i64 0, .slice none 0 0, .slice none 0 0, .pointer none, .pointer none] 297))
  have HM := LH (hC.mb.ext HE1.out)
  have h1 := ta_obj_con
  clear hC hE
  go_enter Tryz.func218, Tryz.ntmps218
  go_wp2_with fail
  (with_reducible refine (mend_any _ mb vd vf lz ov fuel en0 vl st 2 HM.out).mono ?_)
  rintro e w2 ⟨⟨rfl, hm⟩, ho⟩
  have HM2 := LH hm
  have HO2 : Hid (Only (fun b => b = mb) w w2) := (Only.of_ext HE1.out).tr ho
  clear hm ho
  go_wp2
  go_ret
  exact ⟨⟨rfl, HM2.out⟩, HO2.out⟩
set_option maxHeartbeats 2000000 in
theorem ana_other (P : Pg) (w0 w : World) (bad : Nat -> Prop) (mb : Nat) (vd vf lz ov : Value) (fuel en0 vl st : Int) (t : Tm) (en : En) (k : Kt) (va vc pv pl kv : Value)
    (hC : MC P w0 w bad mb vd vf lz ov fuel en0 vl st) (hE : Ev5 P w0 w bad mb t en k va vc pv pl kv) (d n : Int) (a : Value) (l : List It) (ha : D5 P w0 w bad mb (.is a l)) (hd : (d == t.ty) = false) :
    Calls Tryz.prog 214 #[.agg (evV t va vc pv pl kv), .pointer (some ⟨mb, 0, none⟩), .iface 303 (.agg #[.int .i64 d, .int .i64 n, a])] w fun e w' => (e = .returned .nilIface /\ MB w' mb vd vf lz ov fuel 2 vl st) /\ Only (fun b => b = mb) w w' := by
  obtain ⟨Aa, ca, Ab, cb, p, q, tk, uk, rfl, hla, hma, rfl, -, -, rfl, rfl, rfl⟩ := hE.form
  obtain ⟨A, c, rfl, -, -⟩ := ha.is_form
  obtain ⟨g1, g2, g3, g4⟩ := bx5_two w (.cells (evV t (.slice Aa t.args.length ca) (.slice Ab t.cls.length cb) (.pointer p) (.pointer q) (.iface tk uk)) 295) (.cells #[.int .i64 d, .int .i64 n, .slice A l.length c] 303)
  have HE1 := LH g4
  have HM := LH (hC.mb.ext HE1.out)
  obtain ⟨c0, c1, c2, c3, c4, c5, c6, c7, c8⟩ := c59 g1
  obtain ⟨d0, d1, d2⟩ := cells5_3 g2
  have h1 := ta_con
  have hd2 : (d != t.ty) = true := by simp at hd ⊢; exact hd
  clear hC hE ha g1 g2 g3 g4
  go_enter Tryz.func214, Tryz.ntmps214
  go_wp2_with fail
  (with_reducible refine (mend_any _ mb vd vf lz ov fuel en0 vl st 2 HM.out).mono ?_)
  rintro e w2 ⟨⟨rfl, hm⟩, ho⟩
  have HM2 := LH hm
  have HO2 : Hid (Only (fun b => b = mb) w w2) := (Only.of_ext HE1.out).tr ho
  clear hm ho
  go_wp2
  go_ret
  exact ⟨⟨rfl, HM2.out⟩, HO2.out⟩
set_option maxHeartbeats 2000000 in
theorem obs_other (P : Pg) (w0 w : World) (bad : Nat -> Prop) (mb : Nat) (vd vf lz ov : Value) (fuel en0 vl st : Int) (t : Tm) (en : En) (k : Kt) (va vc pv pl kv : Value)
    (hC : MC P w0 w bad mb vd vf lz ov fuel en0 vl st) (hE : Ev5 P w0 w bad mb t en k va vc pv pl kv) (a : Value) (l : List It) (ha : D5 P w0 w bad mb (.is a l)) (u : Tm) (eu : En) (ua uc qv ql : Value) (hu : RTx w0 u ua uc) (huv : D5 P w0 w bad mb (.vs qv eu.vs)) (hul : D5 P w0 w bad mb (.ls ql eu.ls)) (hd : (u.ty == t.ty) = false) :
    Calls Tryz.prog 218 #[.agg (evW t va vc pv pl kv a), .pointer (some ⟨mb, 0, none⟩), .iface 297 (.agg (clV u ua uc qv ql))] w fun e w' => (e = .returned .nilIface /\ MB w' mb vd vf lz ov fuel 2 vl st) /\ Only (fun b => b = mb) w w' := by
  obtain ⟨Aa, ca, Ab, cb, p, q, tk, uk, rfl, hla, hma, rfl, -, -, rfl, rfl, rfl⟩ := hE.form
  obtain ⟨A, c, rfl, -, -⟩ := ha.is_form
  obtain ⟨⟨Ua, uca, rfl, -, -⟩, ⟨Uc, ucc, rfl, -, -⟩⟩ := hu.form
  obtain ⟨q1, rfl⟩ := huv.vs_form
  obtain ⟨q2, rfl⟩ := hul.ls_form
  obtain ⟨g1, g2, g3, g4⟩ := bx5_two w (.cells (evW t (.slice Aa t.args.length ca) (.slice Ab t.cls.length cb) (.pointer p) (.pointer q) (.iface tk uk) (.slice A l.length c)) 305) (.cells (clV u (.slice Ua u.args.length uca) (.slice Uc u.cls.length ucc) (.pointer q1) (.pointer q2)) 297)
  have HE1 := LH g4
  have HM := LH (hC.mb.ext HE1.out)
  obtain ⟨c0, c1, c2, c3, c4, c5, c6, c7, c8, c9⟩ := cells5_t g1
  obtain ⟨d0, d1, d2, d3, d4, d5, d6, d7⟩ := cells5_8 g2
  have h1 := ta_obj
  have hd2 : (u.ty != t.ty) = true := by simp at hd ⊢; exact hd
  clear hC hE ha g1 g2 g3 g4 hu huv hul
  go_enter Tryz.func218, Tryz.ntmps218
  go_wp2_with fail
  (with_reducible refine (mend_any _ mb vd vf lz ov fuel en0 vl st 2 HM.out).mono ?_)
  rintro e w2 ⟨⟨rfl, hm⟩, ho⟩
  have HM2 := LH hm
  have HO2 : Hid (Only (fun b => b = mb) w w2) := (Only.of_ext HE1.out).tr ho
  clear hm ho
  go_wp2
  go_ret
  exact ⟨⟨rfl, HM2.out⟩, HO2.out⟩
end Go.Proofs.YtkdglplfcpindaaGreatDoor

namespace Go.Proofs.YtkdglplfcpindaaGreatDoor
open Go.RowKit
theorem app_vals3 {w : World} {ops : Array Oper} {rest : List Oper} {o : Oper} {a : Act} {Q : Exit -> Act -> World -> Prop} {t e size bytes : Nat} {z : Value} (hu : Tryz.prog.underlying t = some (.slice e)) (hinf : (Tryz.prog.info? e).map (fun i => (i.zero, i.size, i.bytes)) = some (some z, size, bytes)) (hzs : z.cells.size = size) (hsz : 0 < size) (hby : bytes <= 1000)
    (hgd : o.guard = none) (s x : Operand)
    (ho : o.op = .call { callee := .builtin .append, args := #[s, x], argTypes := #[t, t] }) (B : Nat) (v : Value) (n : Nat) (xs : List Value) (hs : a.eval s = v) (hown : w.ownsRow B e size v n xs)
    (A : Option Addr) (m c : Nat) (news : List Value) (hx : a.eval x = .slice A m c) (hsrc : SrcN w A m size news) (h1 : ∀ u ∈ news, u.oneCell' = true) (hn : n + m <= 1000000000) (hB : B <= w.heap.size)
    (h : ∀ v' w', w'.ownsRow B e size v' (n + m) (xs ++ news) -> w.grownBy w' v.ownBlock -> (v'.ownBlock = v.ownBlock ∨ v'.ownBlock = some w.heap.size) -> wpList Tryz.prog ops Q rest (a.put o.dst v') w') : wpList Tryz.prog ops Q (o :: rest) a w := by
  have hb : (n + m) * bytes <= 1000000000 * 1000 := Nat.mul_le_mul hn hby
  exact wpList_plain hgd fun K hK => app_row hu hinf hzs hsz s x ho B v n xs hs hown A m c news hx hsrc h1 (by unfold maxLen; omega) (by omega) hB (fun v' w' h1 h2 h3 => hK _ _ (h v' w' h1 h2 h3))
theorem row5_at {w w' : World} {B e size n : Nat} {v : Value} {xs : List Value} (h : w.ownsRow B e size v n xs) (hk : ∀ g cur, v.ownBlock = some g -> w.heap[g]? = some (.cells cur e (0, 0)) -> w'.heap[g]? = w.heap[g]?) : w'.ownsRow B e size v n xs := by
  obtain ⟨h1, h2⟩ := h
  refine ⟨h1, ?_⟩
  rcases h2 with h2 | ⟨g, cap, cur, rfl, e2, e3, e4⟩
  . exact .inl h2
  . exact .inr ⟨g, cap, cur, rfl, e2, (hk g cur rfl e3).trans e3, e4⟩
def turns (mb : Nat) (ov : Value) (b : Nat) : Prop := b = mb ∨ ov.ownBlock = some b
theorem own_lt {w : World} {B : Nat} {ov : Value} {l : List Int} (h : OwnL w B ov l) {b : Nat} (hb : ov.ownBlock = some b) : B <= b /\ b < w.heap.size /\ ∃ cur, w.heap[b]? = some (.cells cur 3 (0, 0)) := by
  rcases h.2 with ⟨rfl, -⟩ | ⟨g, cap, cur, rfl, hg, hh, -⟩
  . simp [Value.ownBlock] at hb
  . have : g = b := by simpa [Value.ownBlock] using hb
    subst this
    exact ⟨hg, hLt hh, cur, hh⟩
theorem own_mb {w : World} {B mb : Nat} {vd vf lz ov ov' : Value} {fuel en0 vl st : Int} {l : List Int} (h : OwnL w B ov l) (hm : MB w mb vd vf lz ov' fuel en0 vl st) : ov.ownBlock ≠ some mb := by
  intro hb
  obtain ⟨-, -, cur, hc⟩ := own_lt h hb
  unfold MB at hm
  rw [hm] at hc
  simp at hc
theorem own_only {w w' : World} {B mb : Nat} {vd vf lz ov ov' : Value} {fuel en0 vl st : Int} {l : List Int} (h : OwnL w B ov l) (hm : MB w mb vd vf lz ov' fuel en0 vl st) (ho : Only (fun b => b = mb) w w') : OwnL w' B ov l :=
  row5_at h fun g cur hg hc => ho.block g (hLt hc) (fun e => own_mb h hm (e ▸ hg))
set_option maxHeartbeats 4000000 in
theorem emit_int (P : Pg) (w0 w : World) (mb : Nat) (vd vf lz ov : Value) (fuel en0 vl st : Int) (t : Tm) (en : En) (k : Kt) (va vc pv pl kv : Value) (outs : List Int) (n : Int)
    (hC : MC P w0 w (turns mb ov) mb vd vf lz ov fuel en0 vl st) (hE : Ev5 P w0 w (turns mb ov) mb t en k va vc pv pl kv) (hO : OwnL w w0.heap.size ov outs) (hol : outs.length <= 100000) (hal : t.args.length = 2) :
    Calls Tryz.prog 216 #[.agg (evV t va vc pv pl kv), .pointer (some ⟨mb, 0, none⟩), .iface 92 (.int .i64 n)] w fun e w' => ∃ v ov', e = .returned v /\ RTk P w0 w' (turns mb ov') mb (.ev (t.args.getD 1 noTm) en k) v /\ MC P w0 w' (turns mb ov') mb vd vf lz ov' fuel en0 vl st /\ OwnL w' w0.heap.size ov' (outs ++ [n]) /\ Kp (turns mb ov) (turns mb ov') w w' := by
  have HC := LH hC
  have HE := LH hE
  have HO := LH hO
  have HAL : Hid (1 < t.args.length) := by show _ < _; omega
  obtain ⟨Ao, co, rfl⟩ := oSL hO
  obtain ⟨Aa, ca, Ab, cb, p, q, tk, uk, rfl, hla, hma, rfl, -, -, rfl, rfl, rfl⟩ := hE.form
  have HE1 := LH (Ext.al w (.cells (evV t (.slice Aa t.args.length ca) (.slice Ab t.cls.length cb) (.pointer p) (.pointer q) (.iface tk uk)) 298))
  have HBX := LH (hNw w (.cells (evV t (.slice Aa t.args.length ca) (.slice Ab t.cls.length cb) (.pointer p) (.pointer q) (.iface tk uk)) 298))
  have HM1 := LH (hC.mb.ext HE1.out)
  obtain ⟨-, -, -, -, -, -, m6, -⟩ := HM1.out.cells
  have h3 := ta_int
  clear hC hE hO hal
  go_enter Tryz.func216, Tryz.ntmps216
  go_upto_region 4 with fail
  generalize hw1 : w.alloc _ = w1 at *
  have HW1 : Hid (w1.heap.size = w.heap.size + 1) := by show _ = _; rw [← hw1]; exact World.size_alloc ..
  clear hw1
  have HE8 := LH (Ext.al w1 (.cells #[.int .i64 n] 3))
  have HSO : Hid (SrcN (w1.alloc (.cells #[.int .i64 n] 3)) (some ⟨w1.heap.size, 0, none⟩) 1 1 [.int .i64 n]) := .inr ⟨_, rfl, rfl, fun i u hu => by
    match i, hu with
    | 0, hu =>
      have : Value.int .i64 n = u := by simpa using hu
      subst this
      exact cA (hNw w1 _) 0
    | i + 1, hu => simp at hu⟩
  have HOW : Hid (OwnL (w1.alloc (.cells #[.int .i64 n] 3)) w0.heap.size (.slice Ao outs.length co) outs) := oB (oB HO.out HE1.out) HE8.out
  go_wp2_with (at_builtin; refine app_vals3 Tryz.u57 Tryz.info3 rfl (by decide) (by decide) rfl _ _ rfl w0.heap.size _ outs.length (outs.map (Value.int .i64)) rfl HOW.out (some ⟨w1.heap.size, 0, none⟩) 1 1 [.int .i64 n] rfl HSO.out (fun u hu => by rw [List.mem_singleton.1 hu]; rfl) (by omega) (Nat.le_trans HC.out.ext.size (HE1.out.tr HE8.out).size) ?_)
  intro v4 w4 hown hgr hthird
  obtain ⟨A4, c4', rfl⟩ := oSL hown
  have HOL : Hid (OwnL w4 w0.heap.size (.slice A4 (outs.length + 1) c4') (outs ++ [n])) := by
    have e : (outs ++ [n]).map (Value.int .i64) = outs.map (Value.int .i64) ++ [.int .i64 n] := by simp
    show w4.ownsRow w0.heap.size 3 1 _ (outs ++ [n]).length ((outs ++ [n]).map (Value.int .i64))
    rw [e, List.length_append, List.length_singleton]
    exact hown
  have HMA := LH (HM1.out.ext HE8.out)
  have hmo := own_mb HOW.out HMA.out
  have HM4 : Hid (MB w4 mb vd vf lz (.slice Ao outs.length co) fuel en0 vl st) := (hgr.block mb (hLt HMA.out) (Ne.symm hmo)).trans HMA.out
  have HBA := LH ((HE8.out.block _ (hLt HBX.out)).trans HBX.out)
  have HB4 : Hid (w4.heap[w.heap.size]? = some (.cells (evV t (.slice Aa t.args.length ca) (.slice Ab t.cls.length cb) (.pointer p) (.pointer q) (.iface tk uk)) 298 (0, 0))) := (hgr.block _ (hLt HBA.out) (fun e => Nat.lt_irrefl _ (own_lt HO.out e.symm).2.1)).trans HBA.out
  have HG : Hid (Below w0.heap.size (w1.alloc (.cells #[.int .i64 n] 3)) w4) := grown_ext' hgr HOW.out (Nat.le_trans HC.out.ext.size (HE1.out.tr HE8.out).size)
  have HK4 : Hid (Kp (turns mb (.slice Ao outs.length co)) (turns mb (.slice A4 (outs.length + 1) c4')) (w1.alloc (.cells #[.int .i64 n] 3)) w4) := ⟨HG.out.size, fun b hb hn => ⟨fun k => k.elim (fun k => hn (.inl k)) (fun k => by
      rcases hthird with h | h
      . exact hn (.inr (h ▸ k))
      . rw [h] at k
        have : (w1.alloc (.cells #[.int .i64 n] 3)).heap.size = b := by simpa using k
        omega), hgr.block b hb (fun k => hn (.inr k.symm))⟩⟩
  have c6 := cA HM4.out 6
  have f6 := fA HM4.out 6
  have HM5 : Hid (MB (w4.setCell ⟨mb, 6, none⟩ (.slice A4 (outs.length + 1) c4')) mb vd vf lz (.slice A4 (outs.length + 1) c4') fuel en0 vl st) := set8_outs HM4.out _
  have HO5 := LH (o5s w4 mb 6 (.slice A4 (outs.length + 1) c4'))
  have HOL5 := LH (own_only HOL.out HM4.out HO5.out)
  have HKT : Hid (Kp (turns mb (.slice Ao outs.length co)) (turns mb (.slice A4 (outs.length + 1) c4')) w (w4.setCell ⟨mb, 6, none⟩ (.slice A4 (outs.length + 1) c4'))) := ((Kp.of_ext (HE1.out.tr HE8.out)).tr HK4.out).tr (Kp.of_only HO5.out (fun b hb => .inl hb))
  have HC5 : Hid (MC P w0 (w4.setCell ⟨mb, 6, none⟩ (.slice A4 (outs.length + 1) c4')) (turns mb (.slice A4 (outs.length + 1) c4')) mb vd vf lz (.slice A4 (outs.length + 1) c4') fuel en0 vl st) :=
    ⟨HC.out.prog, ((HC.out.ext.tr (HE1.out.tr HE8.out)).trans HG.out).trans (HO5.out.below (Nat.le_trans (HC.out.ext.tr (HE1.out.tr HE8.out)).size HG.out.size) (fun b hb => hb ▸ HC.out.lo)), fun b k => k.elim (fun k => by rw [k]; exact hLt HM5.out) (fun k => (own_lt HOL5.out k).2.1), HC.out.lo, .inl rfl, HM5.out, HC.out.lz.kp HKT.out, HC.out.ds, HC.out.fs⟩
  have HB5 : Hid ((w4.setCell ⟨mb, 6, none⟩ (.slice A4 (outs.length + 1) c4')).heap[w.heap.size]? = some (.cells (evV t (.slice Aa t.args.length ca) (.slice Ab t.cls.length cb) (.pointer p) (.pointer q) (.iface tk uk)) 298 (0, 0))) := s5o HB4.out (by have := HC.out.nb mb (.inl rfl); omega) 6 _
  clear hown hgr hthird hmo m6 h3
  go_upto_region 5 with fail
  generalize World.setCell w4 _ _ = w5 at *
  clear c6 f6
  obtain ⟨c0, c1, c2, c3, c4, c5, c6, c7, c8⟩ := c59 HB5.out
  have HE5 := LH (HE.out.kp HKT.out)
  go_wp2_with fail
  (with_reducible refine (earg1_any P w0 _ (turns mb (.slice A4 (outs.length + 1) c4')) mb t en k k _ _ _ _ _ _ HC5.out.ext HE5.out.t HE5.out.vs HE5.out.ls HE5.out.k HE5.out.k HAL.out).mono ?_)
  rintro e w6 ⟨⟨v, rfl, hr⟩, hx⟩
  obtain ⟨tv, uv, rfl⟩ := hr.form
  have HR := LH hr
  have HC6 := LH (HC5.out.ext' hx)
  have HO6 := LH (oB HOL5.out hx)
  have HK6 := LH (HKT.out.tr (Kp.of_ext hx))
  clear hr hx
  go_wp2
  go_ret
  exact ⟨_, _, rfl, HR.out, HC6.out, HO6.out, HK6.out⟩
end Go.Proofs.YtkdglplfcpindaaGreatDoor

namespace Go.Proofs.YtkdglplfcpindaaGreatDoor
open Go.RowKit
theorem meth_finish (V : Value) (w : World) : (method 417 103 V "chiasmus/direct.receive").run Tryz.prog w = .ok (189, V) w := by kernel_rfl
set_option maxHeartbeats 1000000 in
theorem pass_finish (w : World) (mb : Nat) (V : Value) (t : TypeId) (u : Value) (Q : Ending -> World -> Prop) (h : Calls Tryz.prog 189 #[V, .pointer (some ⟨mb, 0, none⟩), .iface t u] (w.alloc (.cells #[.iface t u, .iface 103 V] 290)) Q)
    (hQ : ∀ e w', Q e w' -> e = .returned .nilIface ∨ ∃ t u, e = .returned (.iface t u)) :
    Calls Tryz.prog 211 #[.agg #[.iface t u, .iface 103 V], .pointer (some ⟨mb, 0, none⟩)] w Q := by
  have H := LH h
  have HQ := LH hQ
  have hb := hNw w (.cells #[.iface t u, .iface 103 V] 290)
  have c0 := cA hb 0
  have c1 := cA hb 1
  have hm := meth_finish
  clear h hQ hb
  go_enter Tryz.func211, Tryz.ntmps211
  go_wp2_with fail
  (with_reducible refine H.out.mono ?_)
  intro e w2 hq
  have HQ2 := LH hq
  rcases HQ.out e w2 hq with rfl | ⟨t2, u2, rfl⟩
  . clear hq
    go_wp2
    exact HQ2.out
  . clear hq
    go_wp2
    exact HQ2.out
theorem meth_leftOperand (V : Value) (w : World) : (method 417 293 V "chiasmus/direct.receive").run Tryz.prog w = .ok (212, V) w := by kernel_rfl
set_option maxHeartbeats 1000000 in
theorem pass_leftOperand (w : World) (mb : Nat) (V : Value) (t : TypeId) (u : Value) (Q : Ending -> World -> Prop) (h : Calls Tryz.prog 212 #[V, .pointer (some ⟨mb, 0, none⟩), .iface t u] (w.alloc (.cells #[.iface t u, .iface 293 V] 290)) Q)
    (hQ : ∀ e w', Q e w' -> e = .returned .nilIface ∨ ∃ t u, e = .returned (.iface t u)) :
    Calls Tryz.prog 211 #[.agg #[.iface t u, .iface 293 V], .pointer (some ⟨mb, 0, none⟩)] w Q := by
  have H := LH h
  have HQ := LH hQ
  have hb := hNw w (.cells #[.iface t u, .iface 293 V] 290)
  have c0 := cA hb 0
  have c1 := cA hb 1
  have hm := meth_leftOperand
  clear h hQ hb
  go_enter Tryz.func211, Tryz.ntmps211
  go_wp2_with fail
  (with_reducible refine H.out.mono ?_)
  intro e w2 hq
  have HQ2 := LH hq
  rcases HQ.out e w2 hq with rfl | ⟨t2, u2, rfl⟩
  . clear hq
    go_wp2
    exact HQ2.out
  . clear hq
    go_wp2
    exact HQ2.out
theorem meth_rightOperand (V : Value) (w : World) : (method 417 313 V "chiasmus/direct.receive").run Tryz.prog w = .ok (221, V) w := by kernel_rfl
set_option maxHeartbeats 1000000 in
theorem pass_rightOperand (w : World) (mb : Nat) (V : Value) (t : TypeId) (u : Value) (Q : Ending -> World -> Prop) (h : Calls Tryz.prog 221 #[V, .pointer (some ⟨mb, 0, none⟩), .iface t u] (w.alloc (.cells #[.iface t u, .iface 313 V] 290)) Q)
    (hQ : ∀ e w', Q e w' -> e = .returned .nilIface ∨ ∃ t u, e = .returned (.iface t u)) :
    Calls Tryz.prog 211 #[.agg #[.iface t u, .iface 313 V], .pointer (some ⟨mb, 0, none⟩)] w Q := by
  have H := LH h
  have HQ := LH hQ
  have hb := hNw w (.cells #[.iface t u, .iface 313 V] 290)
  have c0 := cA hb 0
  have c1 := cA hb 1
  have hm := meth_rightOperand
  clear h hQ hb
  go_enter Tryz.func211, Tryz.ntmps211
  go_wp2_with fail
  (with_reducible refine H.out.mono ?_)
  intro e w2 hq
  have HQ2 := LH hq
  rcases HQ.out e w2 hq with rfl | ⟨t2, u2, rfl⟩
  . clear hq
    go_wp2
    exact HQ2.out
  . clear hq
    go_wp2
    exact HQ2.out
theorem meth_zeroTest (V : Value) (w : World) : (method 417 294 V "chiasmus/direct.receive").run Tryz.prog w = .ok (213, V) w := by kernel_rfl
set_option maxHeartbeats 1000000 in
theorem pass_zeroTest (w : World) (mb : Nat) (V : Value) (t : TypeId) (u : Value) (Q : Ending -> World -> Prop) (h : Calls Tryz.prog 213 #[V, .pointer (some ⟨mb, 0, none⟩), .iface t u] (w.alloc (.cells #[.iface t u, .iface 294 V] 290)) Q)
    (hQ : ∀ e w', Q e w' -> e = .returned .nilIface ∨ ∃ t u, e = .returned (.iface t u)) :
    Calls Tryz.prog 211 #[.agg #[.iface t u, .iface 294 V], .pointer (some ⟨mb, 0, none⟩)] w Q := by
  have H := LH h
  have HQ := LH hQ
  have hb := hNw w (.cells #[.iface t u, .iface 294 V] 290)
  have c0 := cA hb 0
  have c1 := cA hb 1
  have hm := meth_zeroTest
  clear h hQ hb
  go_enter Tryz.func211, Tryz.ntmps211
  go_wp2_with fail
  (with_reducible refine H.out.mono ?_)
  intro e w2 hq
  have HQ2 := LH hq
  rcases HQ.out e w2 hq with rfl | ⟨t2, u2, rfl⟩
  . clear hq
    go_wp2
    exact HQ2.out
  . clear hq
    go_wp2
    exact HQ2.out
theorem meth_emission (V : Value) (w : World) : (method 417 298 V "chiasmus/direct.receive").run Tryz.prog w = .ok (216, V) w := by kernel_rfl
set_option maxHeartbeats 1000000 in
theorem pass_emission (w : World) (mb : Nat) (V : Value) (t : TypeId) (u : Value) (Q : Ending -> World -> Prop) (h : Calls Tryz.prog 216 #[V, .pointer (some ⟨mb, 0, none⟩), .iface t u] (w.alloc (.cells #[.iface t u, .iface 298 V] 290)) Q)
    (hQ : ∀ e w', Q e w' -> e = .returned .nilIface ∨ ∃ t u, e = .returned (.iface t u)) :
    Calls Tryz.prog 211 #[.agg #[.iface t u, .iface 298 V], .pointer (some ⟨mb, 0, none⟩)] w Q := by
  have H := LH h
  have HQ := LH hQ
  have hb := hNw w (.cells #[.iface t u, .iface 298 V] 290)
  have c0 := cA hb 0
  have c1 := cA hb 1
  have hm := meth_emission
  clear h hQ hb
  go_enter Tryz.func211, Tryz.ntmps211
  go_wp2_with fail
  (with_reducible refine H.out.mono ?_)
  intro e w2 hq
  have HQ2 := LH hq
  rcases HQ.out e w2 hq with rfl | ⟨t2, u2, rfl⟩
  . clear hq
    go_wp2
    exact HQ2.out
  . clear hq
    go_wp2
    exact HQ2.out
theorem meth_analysis (V : Value) (w : World) : (method 417 295 V "chiasmus/direct.receive").run Tryz.prog w = .ok (214, V) w := by kernel_rfl
set_option maxHeartbeats 1000000 in
theorem pass_analysis (w : World) (mb : Nat) (V : Value) (t : TypeId) (u : Value) (Q : Ending -> World -> Prop) (h : Calls Tryz.prog 214 #[V, .pointer (some ⟨mb, 0, none⟩), .iface t u] (w.alloc (.cells #[.iface t u, .iface 295 V] 290)) Q)
    (hQ : ∀ e w', Q e w' -> e = .returned .nilIface ∨ ∃ t u, e = .returned (.iface t u)) :
    Calls Tryz.prog 211 #[.agg #[.iface t u, .iface 295 V], .pointer (some ⟨mb, 0, none⟩)] w Q := by
  have H := LH h
  have HQ := LH hQ
  have hb := hNw w (.cells #[.iface t u, .iface 295 V] 290)
  have c0 := cA hb 0
  have c1 := cA hb 1
  have hm := meth_analysis
  clear h hQ hb
  go_enter Tryz.func211, Tryz.ntmps211
  go_wp2_with fail
  (with_reducible refine H.out.mono ?_)
  intro e w2 hq
  have HQ2 := LH hq
  rcases HQ.out e w2 hq with rfl | ⟨t2, u2, rfl⟩
  . clear hq
    go_wp2
    exact HQ2.out
  . clear hq
    go_wp2
    exact HQ2.out
theorem meth_observation (V : Value) (w : World) : (method 417 305 V "chiasmus/direct.receive").run Tryz.prog w = .ok (218, V) w := by kernel_rfl
set_option maxHeartbeats 1000000 in
theorem pass_observation (w : World) (mb : Nat) (V : Value) (t : TypeId) (u : Value) (Q : Ending -> World -> Prop) (h : Calls Tryz.prog 218 #[V, .pointer (some ⟨mb, 0, none⟩), .iface t u] (w.alloc (.cells #[.iface t u, .iface 305 V] 290)) Q)
    (hQ : ∀ e w', Q e w' -> e = .returned .nilIface ∨ ∃ t u, e = .returned (.iface t u)) :
    Calls Tryz.prog 211 #[.agg #[.iface t u, .iface 305 V], .pointer (some ⟨mb, 0, none⟩)] w Q := by
  have H := LH h
  have HQ := LH hQ
  have hb := hNw w (.cells #[.iface t u, .iface 305 V] 290)
  have c0 := cA hb 0
  have c1 := cA hb 1
  have hm := meth_observation
  clear h hQ hb
  go_enter Tryz.func211, Tryz.ntmps211
  go_wp2_with fail
  (with_reducible refine H.out.mono ?_)
  intro e w2 hq
  have HQ2 := LH hq
  rcases HQ.out e w2 hq with rfl | ⟨t2, u2, rfl⟩
  . clear hq
    go_wp2
    exact HQ2.out
  . clear hq
    go_wp2
    exact HQ2.out
theorem meth_binding (V : Value) (w : World) : (method 417 307 V "chiasmus/direct.receive").run Tryz.prog w = .ok (219, V) w := by kernel_rfl
set_option maxHeartbeats 1000000 in
theorem pass_binding (w : World) (mb : Nat) (V : Value) (t : TypeId) (u : Value) (Q : Ending -> World -> Prop) (h : Calls Tryz.prog 219 #[V, .pointer (some ⟨mb, 0, none⟩), .iface t u] (w.alloc (.cells #[.iface t u, .iface 307 V] 290)) Q)
    (hQ : ∀ e w', Q e w' -> e = .returned .nilIface ∨ ∃ t u, e = .returned (.iface t u)) :
    Calls Tryz.prog 211 #[.agg #[.iface t u, .iface 307 V], .pointer (some ⟨mb, 0, none⟩)] w Q := by
  have H := LH h
  have HQ := LH hQ
  have hb := hNw w (.cells #[.iface t u, .iface 307 V] 290)
  have c0 := cA hb 0
  have c1 := cA hb 1
  have hm := meth_binding
  clear h hQ hb
  go_enter Tryz.func211, Tryz.ntmps211
  go_wp2_with fail
  (with_reducible refine H.out.mono ?_)
  intro e w2 hq
  have HQ2 := LH hq
  rcases HQ.out e w2 hq with rfl | ⟨t2, u2, rfl⟩
  . clear hq
    go_wp2
    exact HQ2.out
  . clear hq
    go_wp2
    exact HQ2.out
end Go.Proofs.YtkdglplfcpindaaGreatDoor

namespace Go.Proofs.YtkdglplfcpindaaGreatDoor
theorem decl_pos {P : Pg} {ty : Int} {co : Bool} (h : isDeclB P ty co = true) : 1 <= ty := by
  obtain ⟨u, d, rfl, -⟩ := decl_in5 h
  omega
theorem int_of {P : Pg} {v : Vl} (h : TY true P (.v v 0)) : ∃ n, v = .int n := by
  cases h with
  | int n _ _ => exact ⟨n, rfl⟩
  | con d n _ l h0 h1 h2 h3 => have := decl_pos h0; have := h2 rfl; omega
  | obj t e _ E F h0 h1 h2 h3 h4 =>
    obtain ⟨ps, -, -, -, -, -, -, -, -, hr, -⟩ := rule_of (h2 rfl)
    have := (hr h0).2
    have := decl_pos (fit7 h1.vld.fits h0).1
    omega
theorem con_of {P : Pg} {v : Vl} {y : Int} (h : TY true P (.v v y)) (hd : isDeclB P y false = true) : ∃ n l, v = .con y n l := by
  cases h with
  | int n _ h => have := decl_pos hd; have := h rfl; omega
  | con d n _ l h0 h1 h2 h3 => rw [h2 rfl]; exact ⟨n, l, rfl⟩
  | obj t e _ E F h0 h1 h2 h3 h4 =>
    obtain ⟨ps, -, -, -, -, -, -, -, -, hr, -⟩ := rule_of (h2 rfl)
    have e1 := (hr h0).2
    obtain ⟨u, d, e2, -, e3, e4⟩ := decl_in5 (fit7 h1.vld.fits h0).1
    obtain ⟨u', d', -, -, e5, e6⟩ := decl_in5 hd
    rw [e1, e3] at e5
    rw [e5] at e4
    rw [e6] at e4; cases e4
theorem obj_of {P : Pg} {v : Vl} {y : Int} (h : TY true P (.v v y)) (hd : isDeclB P y true = true) : ∃ t e, v = .obj t e /\ t.ty = y := by
  cases h with
  | int n _ h => have := decl_pos hd; have := h rfl; omega
  | con d n _ l h0 h1 h2 h3 =>
    rw [h2 rfl] at hd
    obtain ⟨u, d, e2, -, e3, e4⟩ := decl_in5 h0
    obtain ⟨u', d', -, -, e5, e6⟩ := decl_in5 hd
    rw [e3] at e5
    rw [e5] at e4
    rw [e6] at e4; cases e4
  | obj t e _ E F h0 h1 h2 h3 h4 =>
    obtain ⟨ps, -, -, -, -, -, -, -, -, hr, -⟩ := rule_of (h2 rfl)
    exact ⟨t, e, rfl, (hr h0).2.symm⟩
theorem clause_ok {b : Bool} {P : Pg} {t : Tm} {e : En} {E F : Env} {n : Int} {l : List It} (h1 : VldS5 P E F t) (h3 : TY b P (.vs e.vs E)) (h4 : TY b P (.ls e.ls F)) (hc : t.cls.length = (declAt P t.ty).xtors.length) (hn : isIdxB n (declAt P t.ty).xtors.length = true)
    (hl : TY b P (.is l (prodL (xtorAt P t.ty n)))) {k : Kt} {z y : Int} (hk : TY b P (.k k z)) (hy : b = true -> tyT P E F t = .inr y)
    (hz : b = true -> ∀ ps : List Int, ps.length = t.args.length + t.cls.length -> (∀ j, j < t.args.length + t.cls.length -> tyT P (kidE P E F t j).1 (kidE P E F t j).2 (kidT t j) = .inr (ps.getD j 0)) -> tyT P E F t = .inr y -> ps.getD (t.args.length + n.toNat) 0 = z) :
    TS b P (.ev (t.cls.getD n.toNat ([], noTm)).2 (bindV e (t.cls.getD n.toNat ([], noTm)).1 l) k) := by
  obtain ⟨m, rfl, hm⟩ := idx_in5 hn
  have hm2 : m < t.cls.length := by omega
  simp only [Int.toNat_natCast] at hz ⊢
  have hk1 := h1.kid (i := t.args.length + m) (by omega)
  have e1 : kidE P E F t (t.args.length + m) = (bindE (t.cls.getD m ([], noTm)).1 (prodL (xtorAt P t.ty m)) E, F) := by
    unfold kidE; rw [if_neg (by omega), Nat.add_sub_cancel_left]; rfl
  have e2 : kidT t (t.args.length + m) = (t.cls.getD m ([], noTm)).2 := by unfold kidT; rw [if_neg (by omega), Nat.add_sub_cancel_left]; rfl
  rw [e1, e2] at hk1
  refine ⟨_, F, z, hk1, fun hb => ?_, TY.with _ _ l e.vs E hl h3, h4, hk⟩
  obtain ⟨ps, hpl, hpk, -⟩ := rule_of (hy hb)
  have := hpk (t.args.length + m) (by omega)
  rw [e1, e2] at this
  rw [this, hz hb ps hpl hpk (hy hb)]
theorem recS_ok {b : Bool} {P : Pg} (hP : WFP b P) {v : Vl} {k : Kt} (h : TS b P (.pass v k)) : (∀ q o, recS P v k = (.go q, o) -> TS b P q) /\ (∀ how val o, recS P v k = (.stop how val, o) -> b = true -> how = 0) := by
  obtain ⟨y, hv, hk⟩ := h
  cases hk with
  | fin _ hy =>
    refine ⟨fun q o h => by cases v <;> simp [recS] at h, fun how val o h hb => ?_⟩
    subst hb
    rw [hy rfl] at hv
    obtain ⟨n, rfl⟩ := int_of hv
    simp [recS] at h; omega
  | left t e _ z E F k h0 h1 h2 h3 h4 h5 =>
    have hl := fit2 h1.vld.fits h0
    refine ⟨fun q o h => ?_, fun how val o h hb => ?_⟩
    . obtain ⟨n, rfl⟩ : ∃ n, v = .int n := by cases v <;> first | exact ⟨_, rfl⟩ | simp [recS] at h
      simp only [recS, Prod.mk.injEq, Nx.go.injEq] at h
      obtain ⟨rfl, -⟩ := h
      refine ⟨E, F, 0, arg_ok h1 (by omega) (by omega) (by omega), fun hb => ?_, h3, h4, .right t e _ 0 z E F k h0 h1 (fun hb => ⟨(h2 hb).1, rfl⟩) h3 h4 h5⟩
      obtain ⟨ps, -, hk, -, -, hr, -⟩ := rule_of (h2 hb).1
      rw [arg_ty hk (by omega) (by omega) (by omega), (hr h0).2.1]
    . subst hb
      rw [(h2 rfl).2] at hv
      obtain ⟨n, rfl⟩ := int_of hv
      simp [recS] at h
  | right t e a _ z E F k h0 h1 h2 h3 h4 h5 =>
    refine ⟨fun q o h => ?_, fun how val o h hb => ?_⟩
    . cases v <;> simp [recS] at h
      obtain ⟨rfl, -⟩ := h
      refine ⟨z, .int _ z (fun hb => ?_), h5⟩
      obtain ⟨ps, -, hk, -, -, hr, -⟩ := rule_of (h2 hb).1
      exact (hr h0).2.2
    . subst hb
      rw [(h2 rfl).2] at hv
      obtain ⟨n, rfl⟩ := int_of hv
      simp [recS] at h
  | zero t e _ z E F k h0 h1 h2 h3 h4 h5 =>
    have hl := fit3 h1.vld.fits h0
    refine ⟨fun q o h => ?_, fun how val o h hb => ?_⟩
    . cases v with
      | con _ _ _ => simp [recS] at h
      | obj _ _ => simp [recS] at h
      | int n =>
        simp only [recS, Prod.mk.injEq, Nx.go.injEq] at h
        obtain ⟨rfl, -⟩ := h
        by_cases hn : n = 0
        . rw [if_pos hn]
          refine ⟨E, F, z, arg_ok h1 (by omega) (by omega) (by omega), fun hb => ?_, h3, h4, h5⟩
          obtain ⟨ps, -, hk, -, -, -, hr, -⟩ := rule_of (h2 hb).1
          rw [arg_ty hk (by omega) (by omega) (by omega), (hr h0).2.1]
        . rw [if_neg hn]
          refine ⟨E, F, z, arg_ok h1 (by omega) (by omega) (by omega), fun hb => ?_, h3, h4, h5⟩
          obtain ⟨ps, -, hk, -, -, -, hr, -⟩ := rule_of (h2 hb).1
          rw [arg_ty hk (by omega) (by omega) (by omega), (hr h0).2.2]
    . subst hb
      rw [(h2 rfl).2] at hv
      obtain ⟨n, rfl⟩ := int_of hv
      simp [recS] at h
  | emit t e _ z E F k h0 h1 h2 h3 h4 h5 =>
    have hl := fit10 h1.vld.fits h0
    refine ⟨fun q o h => ?_, fun how val o h hb => ?_⟩
    . obtain ⟨n, rfl⟩ : ∃ n, v = .int n := by cases v <;> first | exact ⟨_, rfl⟩ | simp [recS] at h
      simp only [recS, Prod.mk.injEq, Nx.go.injEq] at h
      obtain ⟨rfl, -⟩ := h
      refine ⟨E, F, z, arg_ok h1 (by omega) (by omega) (by omega), fun hb => ?_, h3, h4, h5⟩
      obtain ⟨ps, -, hk, -, -, -, -, -, -, -, hr, -⟩ := rule_of (h2 hb).1
      rw [arg_ty hk (by omega) (by omega) (by omega), (hr h0).2]
    . subst hb
      rw [(h2 rfl).2] at hv
      obtain ⟨n, rfl⟩ := int_of hv
      simp [recS] at h
  | ana t e _ z E F k h0 h1 h2 h3 h4 h5 =>
    have hl := fit5 h1.vld.fits h0
    refine ⟨fun q o h => ?_, fun how val o h hb => ?_⟩
    . cases v with
      | int _ => simp [recS] at h
      | obj _ _ => simp [recS] at h
      | con d n l =>
        simp only [recS] at h
        split at h
        . rename_i hd
          subst hd
          simp only [Prod.mk.injEq, Nx.go.injEq] at h
          obtain ⟨rfl, -⟩ := h
          cases hv with
          | con _ _ _ _ g0 g1 g2 g3 =>
            refine clause_ok h1 h3 h4 hl.2.2.1 g1 g3 h5 (fun hb => (h2 hb).1) (fun hb ps hpl hpk hpt => ?_)
            obtain ⟨ps', hpl', hpk', -, -, -, -, hr, -⟩ := rule_of hpt
            have e : ps = ps' := by
              refine List.ext_getElem (by omega) (fun i hi hi' => ?_)
              have a1 := hpk i (by omega)
              have a2 := hpk' i (by omega)
              rw [a1] at a2
              have := Sum.inr.inj a2
              rw [List.getD_eq_getElem?_getD, List.getD_eq_getElem?_getD, List.getElem?_eq_getElem hi, List.getElem?_eq_getElem hi'] at this
              exact this
            subst e
            obtain ⟨m, rfl, hm⟩ := idx_in5 g1
            exact (hr h0).1 _ (by omega) (by simp; omega)
        . simp at h
    . subst hb
      rw [(h2 rfl).2] at hv
      obtain ⟨n, l, rfl⟩ := con_of hv hl.1
      simp [recS] at h
  | obs t e l _ z E F k h0 h1 h2 h3 h4 h5 h6 =>
    have hl := fit6 h1.vld.fits h0
    refine ⟨fun q o h => ?_, fun how val o h hb => ?_⟩
    . cases v with
      | int _ => simp [recS] at h
      | con _ _ _ => simp [recS] at h
      | obj u eu =>
        simp only [recS] at h
        split at h
        . rename_i hd
          simp only [Prod.mk.injEq, Nx.go.injEq] at h
          obtain ⟨rfl, -⟩ := h
          cases hv with
          | obj _ _ y E' F' g0 g1 g2 g3 g4 =>
            have hl7 := fit7 g1.vld.fits g0
            refine clause_ok g1 g3 g4 hl7.2.2.1 (by rw [hd]; exact hl.2.1) (by rw [hd]; exact h6) h5 g2 (fun hb ps hpl hpk hpt => ?_)
            obtain ⟨ps', hpl', hpk', -, -, -, -, -, -, hr, -⟩ := rule_of hpt
            have e : ps = ps' := by
              refine List.ext_getElem (by omega) (fun i hi hi' => ?_)
              have a1 := hpk i (by omega)
              have a2 := hpk' i (by omega)
              rw [a1] at a2
              have := Sum.inr.inj a2
              rw [List.getD_eq_getElem?_getD, List.getD_eq_getElem?_getD, List.getElem?_eq_getElem hi, List.getElem?_eq_getElem hi'] at this
              exact this
            subst e
            obtain ⟨qs, -, -, -, -, -, -, -, hq, -⟩ := rule_of (h2 hb).1
            have hx := hl.2.1
            obtain ⟨m, hm1, hm⟩ := idx_in5 hx
            rw [hq h0, (hr g0).1, hd, hl7.2.1, Nat.zero_add, hm1, Int.toNat_natCast, List.getD_eq_getElem?_getD, List.getElem?_map, List.getElem?_eq_getElem hm]
            unfold xtorAt
            rw [Int.toNat_natCast, List.getD_eq_getElem?_getD, List.getElem?_eq_getElem hm]
            rfl
        . simp at h
    . subst hb
      rw [(h2 rfl).2] at hv
      obtain ⟨u, eu, rfl, hu⟩ := obj_of hv hl.1
      simp [recS, hu] at h
  | bind t e l j _ z E F k h0 h1 h2 h3 h4 h5 hj h6 =>
    refine ⟨fun q o h => ?_, fun how val o h hb => by simp [recS] at h⟩
    simp only [recS, Prod.mk.injEq, Nx.go.injEq] at h
    obtain ⟨rfl, -⟩ := h
    rw [List.tail_drop, List.tail_drop]
    refine resS_ok hP h0 h1 (fun hb => (h2 hb).1) h3 h4 h5 _ (j + 1) _ (Nat.le_refl _) (by omega) ?_
    rw [List.take_succ_eq_append_getElem hj]
    refine TY.snoc h6 (.held v _ (hv.reV (fun hb => ?_)))
    rw [(h2 hb).2, List.getD_eq_getElem?_getD, List.getElem?_eq_getElem hj]; rfl
theorem doS_ok {b : Bool} {P : Pg} (hP : WFP b P) {fuel : Nat} {s : St} (h : TS b P s.task) : (∀ s', doS P fuel s = .inr s' -> TS b P s'.task) /\ (∀ r, doS P fuel s = .inl r -> b = true -> r.stop = 0 ∨ r.stop = 1) := by
  obtain ⟨st, o, tk⟩ := s
  cases tk with
  | ev t e k =>
    obtain ⟨q, hq, hT⟩ := evS_ok hP h
    refine ⟨fun s' h => ?_, fun r h hb => ?_⟩ <;> simp only [doS, hq] at h <;> split at h <;> cases h
    . exact hT
    . exact .inr rfl
  | pass v k =>
    obtain ⟨h1, h2⟩ := recS_ok hP h
    cases hz : recS P v k with
    | mk a c =>
      cases a with
      | go q =>
        refine ⟨fun s' h => ?_, fun r h hb => ?_⟩ <;> simp only [doS, hz] at h <;> cases h
        exact h1 q c hz
      | stop how val =>
        refine ⟨fun s' h => ?_, fun r h hb => ?_⟩ <;> simp only [doS, hz] at h <;> cases h
        exact .inl (h2 how val c hz hb)
theorem ints_ok {b : Bool} {P : Pg} : ∀ (inputs : List Int) (ys : List Int), inputs.length = ys.length -> (∀ y ∈ ys, y = 0) -> TY b P (.is (inputs.map fun n => It.held (.int n)) ys)
  | [], [], _, _ => .inil
  | n :: r, y :: q, h, hy => .icons _ y _ q (.held _ y (.int n y (fun _ => hy y (by simp)))) (ints_ok r q (by simpa using h) (fun z hz => hy z (by simp [hz])))
theorem main_ok {P : Pg} (h : progB P = true) : fnAt P 0 ∈ P.funs /\ (∀ y ∈ (fnAt P 0).ps.map Prm.ty, y = 0) /\ (fnAt P 0).res = 0 := by
  unfold progB at h
  simp only [Bool.and_eq_true] at h
  have hl : 1 <= P.funs.length := by simpa using h.1.1.2.1.1
  have hm := h.1.2.1
  have e : fnAt P 0 = P.funs.headD noFn := by
    unfold fnAt
    cases P.funs <;> rfl
  rw [e]
  unfold mainB at hm
  simp only [Bool.and_eq_true, List.all_eq_true, decide_eq_true_eq] at hm
  refine ⟨?_, ?_, hm.2⟩
  . cases hf : P.funs with
    | nil => rw [hf] at hl; simp at hl
    | cons a r => simp
  . intro y hy
    obtain ⟨a, ha, rfl⟩ := List.mem_map.1 hy
    exact hm.1 a ha
theorem startS_ok {b : Bool} {P : Pg} (hP : WFP b P) {inputs : List Int} (hi : inputs.length = (fnAt P 0).ps.length) : TS b P (startS P inputs).task := by
  obtain ⟨h1, h2, h3⟩ := main_ok hP.prog
  refine ⟨paramE (fnAt P 0), [], 0, body_vld hP.prog h1, fun hb => by rw [hP.typed hb _ h1, h3], TY.with _ _ _ [] [] (ints_ok inputs _ (by simpa using hi) h2) .vnil, .lnil, .fin 0 (fun _ => rfl)⟩
end Go.Proofs.YtkdglplfcpindaaGreatDoor
