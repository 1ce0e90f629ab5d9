/- ref07: good, has, args. -/
import Derived.Test.YtkdhhcidpklgoaaGreatDoorQ30
namespace Go.Proofs.YtkdhhcidpklgoaaGreatDoor
open Go.RowKit Go.Shelf Go.Maps
attribute [local go_sem] Oper.semAt_some

/-- The number that Type answers beside its verdict. -/
def uR (E : Ev) (op n ty : Int) (q : Bool) : Int := if (op = 4 ∨ op = 8) ∧ q = false then 0 else ownT E op n ty
theorem uR_some {C : Cg} {E : Ev} {t : Nd} {T : Int} (h : typN C E t = some T) : uR E t.op t.n t.ty true = T := by
  rw [typN_eq] at h
  split at h
  · unfold uR
    rw [if_neg (by simp)]
    exact Option.some.inj h
  · cases h
theorem RS.box' {w w' : World} {p mx ma n : Nat} {f : Fv} (hr : RS w p mx ma n f) (h : TrC mx ma w w') {p' : Addr} {v : Value} (hv : w.cell? p' = some v) : w'.cell? p' = some v := cell_only h hr.maps hv
section
variable (C : Cg) (vd vf : Value) (wA : World) (p mx ma : Nat)
/-- What Type does. -/
def TyS (t : Nd) (va vb : Value) : Prop :=
  ∀ (w : World) (n : Nat) (E : Ev) (S : Sc), Ext wA w → RS w p mx ma n (lastE E) → sortN C S t ≠ 3 → n + 2 * bndN t ≤ 1000000000 →
    Calls Tryz.prog 15 #[.pointer (some ⟨p, 0, none⟩), cV vd vf, nV t va vb] w fun e w' => e = .returned (.tuple #[.int .i64 (uR E t.op t.n t.ty (typN C E t).isSome), .bool (typN C E t).isSome]) ∧ RS w' p mx ma (n + 2 * bndN t) (lastE E) ∧ TrC mx ma w w'
/-- What good does. -/
def GoS (t : Nd) (va vb : Value) : Prop :=
  ∀ (w : World) (n : Nat) (E : Ev) (S : Sc), Ext wA w → RS w p mx ma n (lastE E) → sortN C S t ≠ 3 → n + 2 * bndN t ≤ 1000000000 →
    Calls Tryz.prog 29 #[.pointer (some ⟨p, 0, none⟩), cV vd vf, nV t va vb] w fun e w' => e = .returned (.bool (typN C E t).isSome) ∧ RS w' p mx ma (n + 2 * bndN t) (lastE E) ∧ TrC mx ma w w'
/-- What has does. -/
def HaS (t : Nd) (va vb : Value) : Prop :=
  ∀ (w : World) (n : Nat) (E : Ev) (S : Sc) (ty : Int), Ext wA w → RS w p mx ma n (lastE E) → sortN C S t ≠ 3 → n + 2 * bndN t ≤ 1000000000 →
    Calls Tryz.prog 43 #[.pointer (some ⟨p, 0, none⟩), cV vd vf, nV t va vb, .int .i64 ty] w fun e w' => e = .returned (.bool (decide (typN C E t = some ty))) ∧ RS w' p mx ma (n + 2 * bndN t) (lastE E) ∧ TrC mx ma w w'
/-- What args does. -/
def ArS (t : Nd) (va vb : Value) : Prop :=
  ∀ (w : World) (n : Nat) (E : Ev) (S : Sc) (v : Value), (t.op = 2 ∨ t.op = 6 ∨ t.op = 13) → Ext wA w → RS w p mx ma n (lastE E) → sortN C S t ≠ 3 → n + 2 * bndA t.args ≤ 1000000000 → RArgs wA v (hdArgs C t.op t.n t.ty) →
    Calls Tryz.prog 39 #[.pointer (some ⟨p, 0, none⟩), cV vd vf, nV t va vb, v] w fun e w' => e = .returned (.bool (typA C E t.op t.n t.ty 0 t.args)) ∧ RS w' p mx ma (n + 2 * bndA t.args) (lastE E) ∧ TrC mx ma w w'
end
section
variable {C : Cg} {vd vf : Value} {wA : World} {p mx ma : Nat} {t : Nd} {va vb : Value}
set_option maxHeartbeats 4000000 in
set_option maxRecDepth 100000 in
theorem good7 (hC : RCg wA vd vf C) (ht : ∃ k, RNd wA k t va vb) (hT : TyS C vd vf wA p mx ma t va vb) : GoS C vd vf wA p mx ma t va vb := by
  intro w n E S hx hr hs hn
  obtain ⟨k, ht⟩ := ht
  obtain ⟨Ad, cd, rfl, -, -⟩ := hC.d.form
  obtain ⟨Af, cf, rfl, -, -⟩ := hC.f.form
  obtain ⟨-, ⟨A, ca, rfl, -, -⟩, ⟨B, d, rfl, -, -⟩⟩ := ht.form
  have HX2 := Lib.hid (Ext.al2 w (.cells #[.slice Ad C.decls.length cd, .slice Af C.funs.length cf] 25) (.cells #[.int .i64 t.op, .int .i64 t.n, .int .i64 t.ty, .slice A t.args.length ca, .slice B t.brs.length d] 36))
  have HTY := Lib.hid (hT _ n E S (hx.tr HX2.out) (hr.ext HX2.out) hs hn)
  clear hT hx hr hs ht hC
  generalize (typN C E t).isSome = q at *
  generalize uR E t.op t.n t.ty q = u at *
  go_enter Tryz.func29, Tryz.ntmps29
  go_wp2_with (first
    | (go_at_call 15; (with_reducible refine (HTY.out).mono ?_); rintro e w3 ⟨rfl, hr3, ht3⟩)
    | fail "none")
  go_ret
  exact ⟨rfl, hr3, TrC.tr (TrC.ext HX2.out) ht3⟩
set_option maxHeartbeats 4000000 in
set_option maxRecDepth 100000 in
theorem has7 (hC : RCg wA vd vf C) (ht : ∃ k, RNd wA k t va vb) (hT : TyS C vd vf wA p mx ma t va vb) : HaS C vd vf wA p mx ma t va vb := by
  intro w n E S ty hx hr hs hn
  obtain ⟨k, ht⟩ := ht
  obtain ⟨Ad, cd, rfl, -, -⟩ := hC.d.form
  obtain ⟨Af, cf, rfl, -, -⟩ := hC.f.form
  obtain ⟨-, ⟨A, ca, rfl, -, -⟩, ⟨B, d, rfl, -, -⟩⟩ := ht.form
  have HX2 := Lib.hid (Ext.al2 w (.cells #[.slice Ad C.decls.length cd, .slice Af C.funs.length cf] 25) (.cells #[.int .i64 t.op, .int .i64 t.n, .int .i64 t.ty, .slice A t.args.length ca, .slice B t.brs.length d] 36))
  have hty := hT _ n E S (hx.tr HX2.out) (hr.ext HX2.out) hs hn
  have hus := fun T => @uR_some C E t T
  clear hT hx hr hs ht hC
  cases ho : typN C E t with
  | none =>
    rw [ho] at hty
    have HTY := Lib.hid hty
    clear hty ho hus
    have HD : Hid (decide ((none : Option Int) = some ty) = false) := rfl
    generalize decide ((none : Option Int) = some ty) = r at *
    generalize uR E t.op t.n t.ty _ = u at *
    go_enter Tryz.func43, Tryz.ntmps43
    go_wp2_with (first
      | (go_at_call 15; (with_reducible refine (HTY.out).mono ?_); rintro e w3 ⟨rfl, hr3, ht3⟩)
      | fail "none")
    go_ret
    exact ⟨ret_bool HD.out.symm, hr3, TrC.tr (TrC.ext HX2.out) ht3⟩
  | some T =>
    rw [ho] at hty
    have hu : uR E t.op t.n t.ty (some T).isSome = T := hus T ho
    rw [hu] at hty
    have HTY := Lib.hid hty
    clear hty ho hus hu
    by_cases hTt : T = ty
    · subst hTt
      have HD : Hid (decide (some T = some T) = true) := decide_eq_true rfl
      generalize decide (some T = some T) = r at *
      go_enter Tryz.func43, Tryz.ntmps43
      go_wp2_with (first
        | (go_at_call 15; (with_reducible refine (HTY.out).mono ?_); rintro e w3 ⟨rfl, hr3, ht3⟩)
        | fail "none")
      go_ret
      exact ⟨ret_bool HD.out.symm, hr3, TrC.tr (TrC.ext HX2.out) ht3⟩
    · have HD : Hid (decide (some T = some ty) = false) := decide_eq_false (fun e => hTt (Option.some.inj e))
      generalize decide (some T = some ty) = r at *
      have e1 : (T == ty) = false := by simpa using hTt
      go_enter Tryz.func43, Tryz.ntmps43
      go_wp2_with (first
        | (go_at_call 15; (with_reducible refine (HTY.out).mono ?_); rintro e w3 ⟨rfl, hr3, ht3⟩)
        | fail "none")
      go_ret
      exact ⟨ret_bool HD.out.symm, hr3, TrC.tr (TrC.ext HX2.out) ht3⟩
theorem hdA_len {S : Sc} (hs : sortN C S t ≠ 3) (h : t.op = 2 ∨ t.op = 6 ∨ t.op = 13) : t.args.length = (hdArgs C t.op t.n t.ty).length := by
  have h1 := (sort_parts hs).1.na
  have h2 : wantS C t.op t.n t.ty = (hdArgs C t.op t.n t.ty).map fun a => coI a.co := by unfold wantS; rw [if_pos h]
  rw [h2, List.length_map] at h1
  exact h1
theorem app_sort {S : Sc} (hs : sortN C S t ≠ 3) (h : t.op = 2 ∨ t.op = 6 ∨ t.op = 13) {i : Nat} {x : Nd} (hi : t.args[i]? = some x) : sortN C S x ≠ 3 := by
  have h1 := sort_arg hs hi
  have h2 : muV t.op t.n = [] := by unfold muV; rw [if_neg (by omega), if_neg (by omega)]
  rw [h2] at h1
  exact h1
set_option maxHeartbeats 16000000 in
set_option maxRecDepth 100000 in
theorem args7 (k : Nat) (hC : RCg wA vd vf C) (ht : RNd wA (k + 1) t va vb) (hb : BN t)
    (hA : ∀ (i : Nat) x, t.args[i]? = some x → ∀ xa xb, RNd wA k x xa xb → HaS C vd vf wA p mx ma x xa xb) (hm1 : wA.heap.size ≤ mx) (hm2 : wA.heap.size ≤ ma) : ArS C vd vf wA p mx ma t va vb := by
  intro w n E S v hop hx hrc hso hnb hv
  have hna := hb.na
  have HL := Lib.hid (hdA_len hso hop)
  have HWT := Lib.hid (fun i => wantT_app (C := C) (n := t.n) (ty := t.ty) (i := i) hop)
  have HSO := Lib.hid (fun i x (hi : t.args[i]? = some x) => app_sort hso hop hi)
  obtain ⟨Ad, cd, rfl, -, -⟩ := hC.d.form
  obtain ⟨Af, cf, rfl, -, -⟩ := hC.f.form
  obtain ⟨-, ⟨A, ca, rfl, -, hma⟩, ⟨B, d, rfl, -, hmb2⟩⟩ := ht.form
  unfold maxLen at hma
  obtain ⟨l, hl⟩ : ∃ l, hdArgs C t.op t.n t.ty = l := ⟨_, rfl⟩
  rw [hl] at HL HWT hv
  obtain ⟨Av, cv, rfl, -, hmv⟩ := hv.form
  unfold maxLen at hmv
  have HX2 := Lib.hid (Ext.al2 w (.cells #[.slice Ad C.decls.length cd, .slice Af C.funs.length cf] 25) (.cells #[.int .i64 t.op, .int .i64 t.n, .int .i64 t.ty, .slice A t.args.length ca, .slice B t.brs.length d] 36))
  have HB1 : Hid (((w.alloc (.cells #[.slice Ad C.decls.length cd, .slice Af C.funs.length cf] 25)).alloc (.cells #[.int .i64 t.op, .int .i64 t.n, .int .i64 t.ty, .slice A t.args.length ca, .slice B t.brs.length d] 36)).heap[w.heap.size]? = some (.cells #[.slice Ad C.decls.length cd, .slice Af C.funs.length cf] 25 (0, 0))) := Ext.lt (Ext.al _ _) (heapNew w _)
  have HB2 := Lib.hid (heapNew2 w (.cells #[.slice Ad C.decls.length cd, .slice Af C.funs.length cf] 25) (.cells #[.int .i64 t.op, .int .i64 t.n, .int .i64 t.ty, .slice A t.args.length ca, .slice B t.brs.length d] 36))
  have HX := Lib.hid hx; have HRC := Lib.hid hrc; have HT := Lib.hid ht; have HA := Lib.hid hA; have HV := Lib.hid hv
  clear hC ht hb hA hx hrc hv hop hso hl
  go_enter Tryz.func39, Tryz.ntmps39
  go_wp2_with fail
  generalize (w.alloc _).alloc _ = w2 at *
  have HX22 : Hid (Ext wA w2) := HX.out.tr HX2.out
  have HRC2 : Hid (RS w2 p mx ma n (lastE E)) := HRC.out.ext HX2.out
  go_loopw [13] (fun i wr => ∃ (j : Nat), j ≤ l.length ∧ i = .int .i64 j ∧ RS wr p mx ma (n + 2 * bndA (t.args.take j)) (lastE E) ∧ TrC mx ma w2 wr ∧ typA C E t.op t.n t.ty 0 t.args = typA C E t.op t.n t.ty j (t.args.drop j)) (fun i _ => l.length - (intOf i).toNat)
  case atStart => exact ⟨0, Nat.zero_le _, rfl, by simpa [bndA] using HRC2.out, Only.rf _ _, rfl⟩
  case round =>
    obtain ⟨j, hj, rfl, hs, htr, hty⟩ := hrel
    have HS := Lib.hid hs; have HTR := Lib.hid htr; have HTY := Lib.hid hty
    have HXR : Hid (Ext wA wr) := htr.below HX22.out hm1 hm2
    have HBR1 := Lib.hid (HRC2.out.cells htr HB1.out)
    have HBR2 := Lib.hid (HRC2.out.cells htr HB2.out)
    clear hs htr hty
    by_cases hlt : j < l.length
    · have hlt2 : j < t.args.length := by have := HL.out; omega
      obtain ⟨b, o, xa, xb, rfl, hbl, yc, yt⟩ := HT.out.arg hlt2
      obtain ⟨b2, o2, rfl, hbl2, z0, z1⟩ := HV.out.at_ hlt
      have z0 := HXR.out.keep z0
      have z1 := HXR.out.keep z1
      have HXS := Lib.hid (HA.out j _ (List.getElem?_eq_getElem hlt2) xa xb yt)
      have hsx := HSO.out j _ (List.getElem?_eq_getElem hlt2)
      have HST := Lib.hid (typA_step (C := C) (E := E) (op := t.op) (n := t.n) (ty := t.ty) hlt2)
      have HBT := Lib.hid (bndA_take hlt2)
      have hwt := HWT.out j
      rw [List.getD_eq_getElem?_getD, List.getElem?_eq_getElem hlt, show ((some l[j]).getD (⟨0, false⟩ : Arg)) = l[j] from rfl] at hwt
      rw [hwt] at HST
      obtain ⟨_, ⟨Ax, cx, rfl, -, -⟩, ⟨Bx, dx, rfl, -, -⟩⟩ := yt.form
      have hyc := yc.below HXR.out
      clear yc yt hwt
      generalize t.args[j] = x at *
      generalize l[j] = a at *
      have hbt := HBT.out
      have HEX := Lib.hid (Ext.al wr (.cells #[.int .i64 a.ty, .bool a.co] 114))
      have HNX := Lib.hid (heapNew wr (.cells #[.int .i64 a.ty, .bool a.co] 114))
      have HYC := Lib.hid hyc
      clear hyc
      have hjl : (j : Int) < l.length := by omega
      have hjl2 : (j : Int) < t.args.length := by omega
      have hj0 : (0 : Int) ≤ j := by omega
      go_wp2
      have HCE : Hid (∀ W : World, W.heap[w.heap.size]? = some (.cells #[.slice Ad C.decls.length cd, .slice Af C.funs.length cf] 25 (0, 0)) → W.heap[w.heap.size + 1]? = some (.cells #[.int .i64 t.op, .int .i64 t.n, .int .i64 t.ty, .slice (some ⟨b, o, none⟩) t.args.length ca, .slice B t.brs.length d] 36 (0, 0)) → W.heap[wr.heap.size]? = some (.cells #[.int .i64 a.ty, .bool a.co] 114 (0, 0)) → N5 W b (o + j * 5) x (.slice Ax x.args.length cx) (.slice Bx x.brs.length dx) → W.cell? ⟨w.heap.size, 0, none⟩ = some (.slice Ad C.decls.length cd) ∧ W.cell? ⟨w.heap.size, 1, none⟩ = some (.slice Af C.funs.length cf) ∧ W.cell? ⟨w.heap.size + 1, 3, none⟩ = some (.slice (some ⟨b, o, none⟩) t.args.length ca) ∧ W.cell? ⟨wr.heap.size, 0, none⟩ = some (.int .i64 a.ty) ∧ W.cell? ⟨b, o + j * 5, none⟩ = some (.int .i64 x.op) ∧ W.cell? ⟨b, o + j * 5 + 1, none⟩ = some (.int .i64 x.n) ∧ W.cell? ⟨b, o + j * 5 + 2, none⟩ = some (.int .i64 x.ty) ∧ W.cell? ⟨b, o + j * 5 + 3, none⟩ = some (.slice Ax x.args.length cx) ∧ W.cell? ⟨b, o + j * 5 + 4, none⟩ = some (.slice Bx x.brs.length dx)) := fun W h0 h1 h2 h3 =>
        ⟨cellAt h0 0, cellAt h0 1, cellAt h1 3, cellAt h2 0, h3.c0, h3.c1, h3.c2, h3.c3, h3.c4⟩
      have HCX : Hid (∀ W, Ext (wr.alloc (.cells #[.int .i64 a.ty, .bool a.co] 114)) W → W.cell? ⟨w.heap.size, 0, none⟩ = some (.slice Ad C.decls.length cd) ∧ W.cell? ⟨w.heap.size, 1, none⟩ = some (.slice Af C.funs.length cf) ∧ W.cell? ⟨w.heap.size + 1, 3, none⟩ = some (.slice (some ⟨b, o, none⟩) t.args.length ca) ∧ W.cell? ⟨wr.heap.size, 0, none⟩ = some (.int .i64 a.ty) ∧ W.cell? ⟨b, o + j * 5, none⟩ = some (.int .i64 x.op) ∧ W.cell? ⟨b, o + j * 5 + 1, none⟩ = some (.int .i64 x.n) ∧ W.cell? ⟨b, o + j * 5 + 2, none⟩ = some (.int .i64 x.ty) ∧ W.cell? ⟨b, o + j * 5 + 3, none⟩ = some (.slice Ax x.args.length cx) ∧ W.cell? ⟨b, o + j * 5 + 4, none⟩ = some (.slice Bx x.brs.length dx)) := fun W hW => HCE.out W ((HEX.out.tr hW).lt HBR1.out) ((HEX.out.tr hW).lt HBR2.out) (hW.lt HNX.out) (HYC.out.below (HEX.out.tr hW))
      have HHA : Hid (∀ W, Ext (wr.alloc (.cells #[.int .i64 a.ty, .bool a.co] 114)) W → Calls Tryz.prog 43 #[.pointer (some ⟨p, 0, none⟩), cV (.slice Ad C.decls.length cd) (.slice Af C.funs.length cf), nV x (.slice Ax x.args.length cx) (.slice Bx x.brs.length dx), .int .i64 a.ty] W fun e w' => e = .returned (.bool (decide (typN C E x = some a.ty))) ∧ (RS w' p mx ma (n + 2 * bndA (t.args.take j) + 2 * bndN x) (lastE E) ∧ TrC mx ma w2 w') ∧ (w'.cell? ⟨w.heap.size, 0, none⟩ = some (.slice Ad C.decls.length cd) ∧ w'.cell? ⟨w.heap.size, 1, none⟩ = some (.slice Af C.funs.length cf) ∧ w'.cell? ⟨w.heap.size + 1, 3, none⟩ = some (.slice (some ⟨b, o, none⟩) t.args.length ca) ∧ w'.cell? ⟨wr.heap.size, 0, none⟩ = some (.int .i64 a.ty) ∧ w'.cell? ⟨b, o + j * 5, none⟩ = some (.int .i64 x.op) ∧ w'.cell? ⟨b, o + j * 5 + 1, none⟩ = some (.int .i64 x.n) ∧ w'.cell? ⟨b, o + j * 5 + 2, none⟩ = some (.int .i64 x.ty) ∧ w'.cell? ⟨b, o + j * 5 + 3, none⟩ = some (.slice Ax x.args.length cx) ∧ w'.cell? ⟨b, o + j * 5 + 4, none⟩ = some (.slice Bx x.brs.length dx))) := fun W hW => by
        have hrW := HS.out.ext (HEX.out.tr hW)
        refine (HXS.out W (n + 2 * bndA (t.args.take j)) E S a.ty (HXR.out.tr (HEX.out.tr hW)) hrW hsx (by omega)).mono ?_
        rintro e w' ⟨rfl, h1, h2⟩
        have h3 := TrC.tr HTR.out (TrC.tr (TrC.ext (HEX.out.tr hW)) h2)
        have hc := HCX.out W hW
        exact ⟨rfl, ⟨h1, h3⟩, hrW.box' h2 hc.1, hrW.box' h2 hc.2.1, hrW.box' h2 hc.2.2.1, hrW.box' h2 hc.2.2.2.1, hrW.box' h2 hc.2.2.2.2.1, hrW.box' h2 hc.2.2.2.2.2.1, hrW.box' h2 hc.2.2.2.2.2.2.1, hrW.box' h2 hc.2.2.2.2.2.2.2.1, hrW.box' h2 hc.2.2.2.2.2.2.2.2⟩
      obtain ⟨r, hr⟩ : ∃ r, decide (typN C E x = some a.ty) = r := ⟨_, rfl⟩
      rw [hr] at HHA HST
      clear z0 z1 hr
      have HRT : Hid (typA C E t.op t.n t.ty 0 t.args = (r && typA C E t.op t.n t.ty (j + 1) (t.args.drop (j + 1)))) := by show _ = _; rw [HTY.out, HST.out]
      generalize wr.alloc _ = w1 at *
      obtain ⟨k0, k1, l3, a0, x0, x1, x2, x3, x4⟩ := HCX.out w1 (Ext.rf _)
      go_region_held3 (fun w' => w'.cell? ⟨w.heap.size, 0, none⟩ = some (.slice Ad C.decls.length cd) ∧ w'.cell? ⟨w.heap.size, 1, none⟩ = some (.slice Af C.funs.length cf) ∧ w'.cell? ⟨w.heap.size + 1, 3, none⟩ = some (.slice (some ⟨b, o, none⟩) t.args.length ca) ∧ w'.cell? ⟨wr.heap.size, 0, none⟩ = some (.int .i64 a.ty) ∧ w'.cell? ⟨b, o + j * 5, none⟩ = some (.int .i64 x.op) ∧ w'.cell? ⟨b, o + j * 5 + 1, none⟩ = some (.int .i64 x.n) ∧ w'.cell? ⟨b, o + j * 5 + 2, none⟩ = some (.int .i64 x.ty) ∧ w'.cell? ⟨b, o + j * 5 + 3, none⟩ = some (.slice Ax x.args.length cx) ∧ w'.cell? ⟨b, o + j * 5 + 4, none⟩ = some (.slice Bx x.brs.length dx))
        (first | exact HCX.out _ (Ext.rf _).drew | exact HC8.out | exact HCX.out _ (Ext.rf _) | fail "KEEP")
        (first
          | (go_at_call 43; (with_reducible refine (HHA.out _ (by first | exact (Ext.rf _).drew | exact Ext.rf _ | fail "CALL")).mono ?_); rintro e w8 ⟨rfl, ⟨hs8, ht8⟩, hc8⟩; have HS8 := Lib.hid hs8; have HT8 := Lib.hid ht8; have HC8 := Lib.hid hc8; clear hs8 ht8 hc8)
          | fail "ARM")
      all_goals
        cases r
        · go_wp2
          go_ret
          exact ⟨ret_bool (by rw [HRT.out]; rfl), HS8.out.mono (by omega), TrC.tr (TrC.ext HX2.out) HT8.out⟩
        · go_wp2
          exact ⟨⟨j + 1, by omega, by go_num, by rw [HBT.out.1]; exact HS8.out.mono (by omega), HT8.out, by rw [HRT.out]; rfl⟩, by simp [intOf]; omega⟩
    · have hje : j = l.length := by omega
      have hje2 : t.args.length ≤ j := by have := HL.out; omega
      have HR : Hid (typA C E t.op t.n t.ty 0 t.args = true) := by show _ = _; rw [HTY.out, List.drop_eq_nil_of_le hje2]; rfl
      have HSr : Hid (RS wr p mx ma (n + 2 * bndA t.args) (lastE E)) := by have := HS.out; rw [List.take_of_length_le hje2] at this; exact this
      clear hje2
      go_wp2
      go_ret
      exact ⟨ret_bool HR.out.symm, HSr.out, TrC.tr (TrC.ext HX2.out) HTR.out⟩
end
end Go.Proofs.YtkdhhcidpklgoaaGreatDoor

/- ref07: body. -/
namespace Go.Proofs.YtkdhhcidpklgoaaGreatDoor
open Go.RowKit Go.Shelf Go.Maps
attribute [local go_sem] Oper.semAt_some

theorem setVs_take : ∀ (xs : List Vr) (ts : List Int) (f : Fv) (k : Nat) (h1 : k < xs.length) (h2 : k < ts.length), setVs f (xs.take (k + 1)) (ts.take (k + 1)) = setV (setVs f (xs.take k) (ts.take k)) xs[k] ts[k]
  | x :: r, t :: ts, f, 0, _, _ => by simp [setVs]
  | x :: r, t :: ts, f, k + 1, h1, h2 => by
    have := setVs_take r ts (setV f x t) k (by simpa using h1) (by simpa using h2)
    simpa [setVs] using this
  | [], _, _, _, h1, _ => by simp at h1
  | _ :: _, [], _, _, _, h2 => by simp at h2
/-- What the map answers before the k-th variable is bound. -/
def fI (f : Fv) (xs : List Vr) (ts : List Int) (k : Nat) : Fv := setVs f (xs.take k) (ts.take k)
theorem fI_succ (f : Fv) {xs : List Vr} {ts : List Int} {k : Nat} (h1 : k < xs.length) (h2 : k < ts.length) : fI f xs ts (k + 1) = setV (fI f xs ts k) xs[k] ts[k] := setVs_take xs ts f k h1 h2
theorem fI_end (f : Fv) {xs : List Vr} {ts : List Int} {k : Nat} (h1 : xs.length ≤ k) (h2 : ts.length ≤ k) : fI f xs ts k = setVs f xs ts := by unfold fI; rw [List.take_of_length_le h1, List.take_of_length_le h2]
/-- The cells of what has been saved. -/
def savC (f : Fv) (xs : List Vr) (ts : List Int) (cs : List Bool) (q : Nat → Bool) (i : Nat) : List Value := [.bool (cs.getD i false), .int .i64 (xs.getD i (0, 0)).2, .int .i64 (fI f xs ts i (xs.getD i (0, 0))), .bool (q i)]
def savL (f : Fv) (xs : List Vr) (ts : List Int) (cs : List Bool) (q : Nat → Bool) (k : Nat) : List Value := (List.range k).flatMap (savC f xs ts cs q)
theorem savL_succ (f : Fv) (xs : List Vr) (ts : List Int) (cs : List Bool) (q : Nat → Bool) (k : Nat) (b : Bool) : savL f xs ts cs (fun i => if i = k then b else q i) (k + 1) = savL f xs ts cs q k ++ savC f xs ts cs (fun _ => b) k := by
  unfold savL
  rw [List.range_succ, List.flatMap_append]
  congr 1
  · rw [List.flatMap_def, List.flatMap_def]
    congr 1
    refine List.map_congr_left fun i hi => ?_
    have : i < k := List.mem_range.1 hi
    unfold savC
    simp only [if_neg (show ¬ i = k by omega)]
  · simp [savC]
theorem savL_len (f : Fv) (xs : List Vr) (ts : List Int) (cs : List Bool) (q : Nat → Bool) : ∀ k, (savL f xs ts cs q k).length = 4 * k
  | 0 => rfl
  | k + 1 => by
    have := savL_len f xs ts cs q k
    unfold savL at *
    rw [List.range_succ, List.flatMap_append, List.length_append, this]
    simp [savC]; omega
theorem savL_get (f : Fv) (xs : List Vr) (ts : List Int) (cs : List Bool) (q : Nat → Bool) {i : Nat} : ∀ {k : Nat}, i < k → ∀ {c : Nat}, c < 4 → (savL f xs ts cs q k)[4 * i + c]? = (savC f xs ts cs q i)[c]?
  | k + 1, h, c, hc => by
    have hl := savL_len f xs ts cs q k
    have hs : savL f xs ts cs q (k + 1) = savL f xs ts cs q k ++ savC f xs ts cs q k := by
      unfold savL
      rw [List.range_succ, List.flatMap_append]; simp
    rw [hs, List.getElem?_append]
    by_cases hk : i < k
    · rw [if_pos (by omega)]
      exact savL_get f xs ts cs q hk hc
    · have : i = k := by omega
      subst this
      rw [if_neg (by omega)]
      congr 1; omega
theorem Tryz.iSaved : (Tryz.prog.info? 92).map (fun i => (i.zero, i.size, i.bytes)) = some (some (.agg #[.bool false, .int .i64 0, .int .i64 0, .bool false]), 4, 32) := by kernel_rfl
theorem four_mem {a b c d : Value} (h1 : a.oneCell' = true) (h2 : b.oneCell' = true) (h3 : c.oneCell' = true) (h4 : d.oneCell' = true) : ∀ x ∈ [a, b, c, d], x.oneCell' = true := by
  intro x hx
  simp only [List.mem_cons, List.not_mem_nil, or_false] at hx
  rcases hx with rfl | rfl | rfl | rfl <;> assumption
theorem src_four {w : World} {g T : Nat} {a b c d : Value} (h : w.heap[g]? = some (.cells #[a, b, c, d] T (0, 0))) : SrcN w (some ⟨g, 0, none⟩) 1 4 [a, b, c, d] :=
  .inr ⟨_, rfl, rfl, fun j x hj => by
    match j, hj with
    | 0, hj => obtain rfl := Option.some.inj hj; rw [add_at]; exact cellAt h 0
    | 1, hj => obtain rfl := Option.some.inj hj; rw [add_at]; exact cellAt h 1
    | 2, hj => obtain rfl := Option.some.inj hj; rw [add_at]; exact cellAt h 2
    | 3, hj => obtain rfl := Option.some.inj hj; rw [add_at]; exact cellAt h 3⟩
theorem RS.grow {w w' : World} {p mx ma n B : Nat} {f : Fv} (h : RS w p mx ma n f) {row : Option Nat} (hg : w.grownBy w' row) (hr : ∀ g, row = some g → B ≤ g) (h1 : p < B) (h2 : mx < B) (h3 : ma < B) : RS w' p mx ma n f :=
  ⟨(hg.block _ (heap_lt h.box) (fun e => by have := hr _ e.symm; omega)).trans h.box, h.mp.block (hg.block _ h.mp.lt (fun e => by have := hr _ e.symm; omega)), h.mq.block (hg.block _ h.mq.lt (fun e => by have := hr _ e.symm; omega)), h.ne⟩
theorem cell_grow {w w' : World} {row : Option Nat} (hg : w.grownBy w' row) {p : Addr} {v : Value} (h : w.cell? p = some v) (hr : ∀ g, row = some g → g ≠ p.block) : w'.cell? p = some v := by
  rw [World.cell?_of_block (hg.block _ (cell_lt h) (fun e => by exact hr _ (by first | exact e | exact e.symm) rfl))]; exact h
theorem binds_co {v : List Int} {co : List Bool} {l : List Arg} (h : bindsB v co l = true) : co = l.map Arg.co := by
  rw [bindsB_ref] at h
  simp only [Bool.and_eq_true] at h
  exact eq_of_beq h.1.2
section
variable (C : Cg) (vd vf : Value) (wA : World) (p mx ma : Nat)
/-- What body does. -/
def BoS (vs : List Int) (cs : List Bool) (t : Nd) (vv vc xa xb : Value) : Prop :=
  ∀ (w : World) (n : Nat) (E : Ev) (S : Sc) (v : Value) (l : List Arg), Ext wA w → RS w p mx ma n (lastE E) → vs.length = l.length → cs = l.map Arg.co → sortN C S t ≠ 3 → n + 2 * (vs.length + bndN t) ≤ 1000000000 → RArgs wA v l →
    Calls Tryz.prog 42 #[.pointer (some ⟨p, 0, none⟩), cV vd vf, brV vv vc t xa xb, v] w fun e w' => e = .returned (.bool (typN C (pushE E (zipCo vs cs) (l.map Arg.ty)) t).isSome) ∧ RS w' p mx ma (n + 2 * (vs.length + bndN t)) (lastE E) ∧ TrC mx ma w w'
end
section
variable {C : Cg} {vd vf : Value} {wA : World} {p mx ma : Nat}
set_option maxHeartbeats 16000000 in
set_option maxRecDepth 100000 in
theorem body7 (vs : List Int) (cs : List Bool) (t : Nd) (vv vc xa xb : Value) (hC : RCg wA vd vf C) (ht : ∃ k, RNd wA k t xa xb) (hv : RInts wA vv vs) (hc : RBools wA vc cs) (hG : GoS C vd vf wA p mx ma t xa xb) (hl : vs.length ≤ 1048576) (hm1 : wA.heap.size ≤ mx) (hm2 : wA.heap.size ≤ ma) : BoS C vd vf wA p mx ma vs cs t vv vc xa xb := by
  intro w n E S va l hx hrc hlen hco hso hn hra
  obtain ⟨k, ht⟩ := ht
  obtain ⟨Ad, cd, rfl, -, -⟩ := hC.d.form
  obtain ⟨Af, cf, rfl, -, -⟩ := hC.f.form
  obtain ⟨-, ⟨Ax, cx, rfl, -, -⟩, ⟨Bx, dx, rfl, -, -⟩⟩ := ht.form
  obtain ⟨Av, cv, rfl, -, hmv⟩ := hv.form
  obtain ⟨Ac, cc, rfl, -, -⟩ := hc.form
  obtain ⟨Aa, caa, rfl, -, hma⟩ := hra.form
  unfold maxLen at hma hmv
  obtain ⟨xs, hxs⟩ : ∃ xs, zipCo vs cs = xs := ⟨_, rfl⟩
  obtain ⟨ts, hts⟩ : ∃ ts, l.map Arg.ty = ts := ⟨_, rfl⟩
  have hxl : xs.length = l.length := by rw [← hxs, zipCo_length, hlen]
  have htl : ts.length = l.length := by rw [← hts, List.length_map]
  have HXI : Hid (∀ (j : Nat) a v, l[j]? = some a → vs[j]? = some v → xs[j]? = some (coI a.co, v) ∧ ts[j]? = some a.ty ∧ cs[j]? = some a.co) := fun j a v h1 h2 => by
    have h3 : (l.map Arg.co)[j]? = some a.co := by rw [List.getElem?_map, h1]; rfl
    refine ⟨?_, ?_, ?_⟩
    · rw [← hxs, zipCo_get, h2, hco, List.getD_eq_getElem?_getD, h3]; rfl
    · rw [← hts, List.getElem?_map, h1]; rfl
    · rw [hco, h3]
  have HGO : Hid (∀ W, Ext wA W → RS W p mx ma (n + l.length) (fI (lastE E) xs ts l.length) → Calls Tryz.prog 29 #[.pointer (some ⟨p, 0, none⟩), cV (.slice Ad C.decls.length cd) (.slice Af C.funs.length cf), nV t (.slice Ax t.args.length cx) (.slice Bx t.brs.length dx)] W fun e w' => e = .returned (.bool (typN C (pushE E xs ts) t).isSome) ∧ RS w' p mx ma (n + l.length + 2 * bndN t) (fI (lastE E) xs ts l.length) ∧ TrC mx ma W w') := fun W hW hr => by
    have hf : fI (lastE E) xs ts l.length = lastE (pushE E xs ts) := by rw [setVs_push, fI_end _ (by omega) (by omega)]
    rw [hf] at hr ⊢
    exact hG W (n + l.length) (pushE E xs ts) S hW hr hso (by omega)
  have HX2 := Lib.hid (Ext.al2 w (.cells #[.slice Ad C.decls.length cd, .slice Af C.funs.length cf] 25) (.cells #[.slice Av vs.length cv, .slice Ac cs.length cc, .int .i64 t.op, .int .i64 t.n, .int .i64 t.ty, .slice Ax t.args.length cx, .slice Bx t.brs.length dx] 97))
  have HB1 : Hid (((w.alloc (.cells #[.slice Ad C.decls.length cd, .slice Af C.funs.length cf] 25)).alloc (.cells #[.slice Av vs.length cv, .slice Ac cs.length cc, .int .i64 t.op, .int .i64 t.n, .int .i64 t.ty, .slice Ax t.args.length cx, .slice Bx t.brs.length dx] 97)).heap[w.heap.size]? = some (.cells #[.slice Ad C.decls.length cd, .slice Af C.funs.length cf] 25 (0, 0))) := Ext.lt (Ext.al _ _) (heapNew w _)
  have HB2 := Lib.hid (heapNew2 w (.cells #[.slice Ad C.decls.length cd, .slice Af C.funs.length cf] 25) (.cells #[.slice Av vs.length cv, .slice Ac cs.length cc, .int .i64 t.op, .int .i64 t.n, .int .i64 t.ty, .slice Ax t.args.length cx, .slice Bx t.brs.length dx] 97))
  have HX := Lib.hid hx; have HRC := Lib.hid hrc; have HV := Lib.hid hv; have HRA := Lib.hid hra
  have HLEN := Lib.hid hlen
  have HXL := Lib.hid hxl; have HTL := Lib.hid htl
  have hll : l.length ≤ 1048576 := by omega
  have hnl : n + 2 * (l.length + bndN t) ≤ 1000000000 := by omega
  have HPP := Lib.hid hrc.box
  have hp1 := heap_lt hrc.box
  have hp2 := hrc.mp.lt
  have hp3 := hrc.mq.lt
  rw [hxs, hts]
  obtain ⟨r, hr⟩ : ∃ r, (typN C (pushE E xs ts) t).isSome = r := ⟨_, rfl⟩
  rw [hr] at HGO ⊢
  have HN : Hid (n + l.length + 2 * bndN t + l.length = n + 2 * (vs.length + bndN t)) := by show _ = _; omega
  clear hC ht hv hc hG hx hrc hlen hco hso hn hra hxs hts hxl htl hr
  go_enter Tryz.func42, Tryz.ntmps42
  go_wp2_with fail
  generalize (w.alloc _).alloc _ = w2 at *
  have hz2 := HX2.out.size
  have hz22 := heap_lt HB2.out
  have HX22 : Hid (Ext wA w2) := HX.out.tr HX2.out
  have HRC2 : Hid (RS w2 p mx ma n (lastE E)) := HRC.out.ext HX2.out
  go_loopw [9, 16] (fun u i wr => ∃ (j : Nat) (q : Nat → Bool), j ≤ l.length ∧ i = .int .i64 j ∧ wr.ownsRow w2.heap.size 92 4 u j (savL (lastE E) xs ts cs q j) ∧ (∀ i, i < j → q i = false → fI (lastE E) xs ts i (xs.getD i (0, 0)) = 0) ∧ RS wr p mx ma (n + j) (fI (lastE E) xs ts j) ∧ TrC mx ma w2 wr) (fun _ i _ => l.length - (intOf i).toNat)
  case atStart => exact ⟨0, fun _ => false, Nat.zero_le _, rfl, own_nil', fun i h => by omega, HRC2.out, Only.rf _ _⟩
  case round =>
    obtain ⟨j, q, hj, rfl, how, hqz, hs, htr⟩ := hrel
    have HOW := Lib.hid how; have HQZ := Lib.hid hqz; have HS := Lib.hid hs; have HTR := Lib.hid htr
    have HXR : Hid (Ext wA wr) := htr.below HX22.out hm1 hm2
    have HBR1 := Lib.hid (HRC2.out.cells htr HB1.out)
    have HBR2 := Lib.hid (HRC2.out.cells htr HB2.out)
    have hzr := htr.size
    obtain ⟨Au, cu, rfl, hou⟩ := own_shape how
    have HOU := Lib.hid hou
    clear how hqz hs htr hou
    by_cases hlt : j < l.length
    · obtain ⟨b2, o2, rfl, hbl2, z0, z1⟩ := HRA.out.at_ hlt
      have z0 := HXR.out.keep z0
      have z1 := HXR.out.keep z1
      have hlv : j < vs.length := by have := HLEN.out; omega
      obtain ⟨b3, o3, rfl, hbl3, y0, hok⟩ := HV.out.at_ hlv
      have y0 := HXR.out.keep y0
      obtain ⟨hx1, hx2, hx3⟩ := HXI.out j _ _ (List.getElem?_eq_getElem hlt) (List.getElem?_eq_getElem hlv)
      have HFS : Hid (fI (lastE E) xs ts (j + 1) = setV (fI (lastE E) xs ts j) (coI l[j].co, vs[j]) l[j].ty) := by
        have h1 : j < xs.length := by have := HXL.out; omega
        have h2 : j < ts.length := by have := HTL.out; omega
        show _ = _
        rw [fI_succ _ h1 h2, (List.getElem?_eq_some_iff.1 hx1).2, (List.getElem?_eq_some_iff.1 hx2).2]
      have HGX : Hid (xs.getD j (0, 0) = (coI l[j].co, vs[j])) := by show _ = _; rw [List.getD_eq_getElem?_getD, hx1]; rfl
      have HGC : Hid (cs.getD j false = l[j].co) := by show _ = _; rw [List.getD_eq_getElem?_getD, hx3]; rfl
      clear hx1 hx2 hx3
      generalize l[j] = a at *
      generalize vs[j] = v at *
      have HEX := Lib.hid (Ext.al wr (.cells #[.int .i64 a.ty, .bool a.co] 114))
      have HNX := Lib.hid (heapNew wr (.cells #[.int .i64 a.ty, .bool a.co] 114))
      have hjl : (j : Int) < l.length := by omega
      have hjl2 : (j : Int) < vs.length := by omega
      have hj0 : (0 : Int) ≤ j := by omega
      go_wp2
      have HCX : Hid (∀ W, Ext (wr.alloc (.cells #[.int .i64 a.ty, .bool a.co] 114)) W → W.cell? ⟨w.heap.size + 1, 0, none⟩ = some (.slice (some ⟨b3, o3, none⟩) vs.length cv) ∧ W.cell? ⟨wr.heap.size, 0, none⟩ = some (.int .i64 a.ty) ∧ W.cell? ⟨wr.heap.size, 1, none⟩ = some (.bool a.co) ∧ W.cell? ⟨b3, o3 + j, none⟩ = some (.int .i64 v)) := fun W hW => ⟨cellAt ((HEX.out.tr hW).lt HBR2.out) 0, cellAt (hW.lt HNX.out) 0, cellAt (hW.lt HNX.out) 1, (HEX.out.tr hW).keep y0⟩
      obtain ⟨FJ, hFJ⟩ : ∃ F, fI (lastE E) xs ts j = F := ⟨_, rfl⟩
      have HFJ := Lib.hid hFJ
      rw [hFJ] at HS HFS
      clear hFJ
      have HBI : Hid (∀ W, Ext (wr.alloc (.cells #[.int .i64 a.ty, .bool a.co] 114)) W → Calls Tryz.prog 40 #[.pointer (some ⟨p, 0, none⟩), .bool a.co, .int .i64 v, .int .i64 a.ty] W fun e w' => (∃ q : Bool, e = .returned (savV (coI a.co, v) a.co (FJ (coI a.co, v)) q) ∧ (q = false → FJ (coI a.co, v) = 0)) ∧ (RS w' p mx ma (n + (j + 1)) (setV FJ (coI a.co, v) a.ty) ∧ TrC mx ma w2 w' ∧ w'.ownsRow w2.heap.size 92 4 (.slice Au j cu) j (savL (lastE E) xs ts cs q j)) ∧ (w'.cell? ⟨w.heap.size + 1, 0, none⟩ = some (.slice (some ⟨b3, o3, none⟩) vs.length cv) ∧ w'.cell? ⟨wr.heap.size, 0, none⟩ = some (.int .i64 a.ty) ∧ w'.cell? ⟨wr.heap.size, 1, none⟩ = some (.bool a.co) ∧ w'.cell? ⟨b3, o3 + j, none⟩ = some (.int .i64 v))) := fun W hW => by
        have hrW := HS.out.ext (HEX.out.tr hW)
        refine (bind7_any W p mx ma (n + j) FJ a.co v a.ty hrW hok (by unfold maxLen; omega)).mono ?_
        rintro e w' ⟨h1, h2, h3⟩
        have hc := HCX.out W hW
        refine ⟨h1, ⟨h2, TrC.tr HTR.out (TrC.tr (TrC.ext (HEX.out.tr hW)) h3), own_only (own_below HOW.out (HEX.out.tr hW)) h3 (fun g hg => by have := HOU.out g hg; omega)⟩, hrW.box' h3 hc.1, hrW.box' h3 hc.2.1, hrW.box' h3 hc.2.2.1, hrW.box' h3 hc.2.2.2⟩
      clear z0 z1
      have hjw : j < 1048577 := by omega
      generalize wr.alloc _ = w1 at *
      obtain ⟨k0, a0, a1, y0⟩ := HCX.out w1 (Ext.rf _)
      have HSP : Hid (∀ b, savC (lastE E) xs ts cs (fun _ => b) j = [.bool a.co, .int .i64 v, .int .i64 (FJ (coI a.co, v)), .bool b]) := fun b => by
        show _ = _
        unfold savC
        rw [HGX.out, HGC.out, HFJ.out]
      go_region_held3 (fun W => W.cell? ⟨w.heap.size + 1, 0, none⟩ = some (.slice (some ⟨b3, o3, none⟩) vs.length cv) ∧ W.cell? ⟨wr.heap.size, 0, none⟩ = some (.int .i64 a.ty) ∧ W.cell? ⟨wr.heap.size, 1, none⟩ = some (.bool a.co) ∧ W.cell? ⟨b3, o3 + j, none⟩ = some (.int .i64 v))
        (first | exact HCX.out _ (Ext.rf _).drew | exact HC8.out | exact HC9.out | exact HCX.out _ (Ext.rf _) | exact HC10.out | fail "KEEP")
        (first
          | (go_at_call 40; (with_reducible refine (HBI.out _ (by first | exact (Ext.rf _).drew | exact Ext.rf _ | fail "CALL")).mono ?_); rintro e w8 ⟨⟨qn, rfl, hqn⟩, ⟨hs8, ht8, ho8⟩, hc8⟩; have HQN := Lib.hid hqn; have HS8 := Lib.hid hs8; have HT8 := Lib.hid ht8; have HO8 := Lib.hid ho8; have HC8 := Lib.hid hc8; have hz8 := ht8.size; have HE9 := Lib.hid (Ext.al w8 (.cells #[.bool a.co, .int .i64 v, .int .i64 (FJ (coI a.co, v)), .bool qn] 92)); have HC9 : Hid ((w8.alloc (.cells #[.bool a.co, .int .i64 v, .int .i64 (FJ (coI a.co, v)), .bool qn] 92)).cell? ⟨w.heap.size + 1, 0, none⟩ = some (.slice (some ⟨b3, o3, none⟩) vs.length cv) ∧ (w8.alloc (.cells #[.bool a.co, .int .i64 v, .int .i64 (FJ (coI a.co, v)), .bool qn] 92)).cell? ⟨wr.heap.size, 0, none⟩ = some (.int .i64 a.ty) ∧ (w8.alloc (.cells #[.bool a.co, .int .i64 v, .int .i64 (FJ (coI a.co, v)), .bool qn] 92)).cell? ⟨wr.heap.size, 1, none⟩ = some (.bool a.co) ∧ (w8.alloc (.cells #[.bool a.co, .int .i64 v, .int .i64 (FJ (coI a.co, v)), .bool qn] 92)).cell? ⟨b3, o3 + j, none⟩ = some (.int .i64 v)) := ⟨HE9.out.keep HC8.out.1, HE9.out.keep HC8.out.2.1, HE9.out.keep HC8.out.2.2.1, HE9.out.keep HC8.out.2.2.2⟩; clear hqn hs8 ht8 ho8 hc8)
          | (rw [if_pos (by rfl)]
             refine app_row Tryz.underlying140 Tryz.iSaved rfl (by decide) (.tmp 21) (.tmp 33) rfl w2.heap.size (.slice Au j cu) j _ rfl (own_below HO8.out HE9.out) (some ⟨w8.heap.size, 0, none⟩) 1 1 [.bool a.co, .int .i64 v, .int .i64 (FJ (coI a.co, v)), .bool qn] rfl (src_four (heapNew _ _)) (four_mem rfl rfl rfl rfl) (by unfold maxLen; omega) (by omega) (by simp only [World.size_alloc]; omega) ?_
             intro v9 w9 hown hgr hthird
             obtain ⟨A9, c9, rfl, hg9⟩ := own_shape hown
             have HGR := Lib.hid hgr; have HOWN := Lib.hid hown
             have HC10 : Hid (w9.cell? ⟨w.heap.size + 1, 0, none⟩ = some (.slice (some ⟨b3, o3, none⟩) vs.length cv) ∧ w9.cell? ⟨wr.heap.size, 0, none⟩ = some (.int .i64 a.ty) ∧ w9.cell? ⟨wr.heap.size, 1, none⟩ = some (.bool a.co) ∧ w9.cell? ⟨b3, o3 + j, none⟩ = some (.int .i64 v)) := by
               obtain ⟨e1, e2, e3, e4⟩ := HC9.out
               exact ⟨cell_grow hgr e1 (fun g h => by have := HOU.out g h; show g ≠ w.heap.size + 1; omega), cell_grow hgr e2 (fun g h => by have := HOU.out g h; show g ≠ wr.heap.size; omega), cell_grow hgr e3 (fun g h => by have := HOU.out g h; show g ≠ wr.heap.size; omega), cell_grow hgr e4 (fun g h => by have := HOU.out g h; show g ≠ b3; omega)⟩
             clear hgr hown hthird)
          | fail "ARM")
      all_goals
        have HS9 : Hid (RS w9 p mx ma (n + (j + 1)) (setV FJ (coI a.co, v) a.ty)) := (HS8.out.ext HE9.out).grow HGR.out (fun g h => (HOU.out g h).1) (by omega) (by omega) (by omega)
        have HT9 : Hid (TrC mx ma w2 w9) := Only.grow (TrC.tr HT8.out (TrC.ext HE9.out)) HGR.out (fun g h => (HOU.out g h).1)
        go_wp2
        refine ⟨⟨j + 1, fun i => if i = j then qn else q i, by omega, by go_num, ?_, fun i hi hqi => ?_, by rw [HFS.out]; exact HS9.out, HT9.out⟩, by simp [intOf]; omega⟩
        · rw [savL_succ, HSP.out]; exact HOWN.out
        · by_cases hij : i = j
          · subst hij
            rw [HFJ.out, HGX.out]
            exact HQN.out (by simpa using hqi)
          · exact HQZ.out i (by omega) (by simpa [hij] using hqi)
    · have hje : j = l.length := by omega
      subst hje
      have n0 := cellAt HBR1.out 0
      have n1 := cellAt HBR1.out 1
      have n2 := cellAt HBR2.out 2
      have n3 := cellAt HBR2.out 3
      have n4 := cellAt HBR2.out 4
      have n5 := cellAt HBR2.out 5
      have n6 := cellAt HBR2.out 6
      have HGG := Lib.hid (HGO.out wr HXR.out HS.out)
      have hw1 : IntKind.wrap .i64 ((l.length : Int) - 1) = (l.length : Int) - 1 := IntWalk.i64_in _ (by omega)
      clear HGO
      go_wp2_with (first
        | (go_at_call 29; (with_reducible refine (HGG.out).mono ?_); rintro e w5 ⟨rfl, hr5, ht5⟩; have HR5 := Lib.hid hr5; have HT5 : Hid (TrC mx ma w2 w5) := TrC.tr HTR.out ht5; have HO5 := Lib.hid (own_only HOW.out ht5 (fun g hg => by have := HOU.out g hg; omega)); have hz5 := ht5.size; clear hr5 ht5)
        | fail "none")
      clear n0 n1 n2 n3 n4 n5 n6
      obtain ⟨A5, c5, hsl, hc5, hm5, hrow⟩ := own_formI HO5.out
      cases hsl
      have HROW := Lib.hid hrow
      unfold maxLen at hm5
      clear hrow
      obtain ⟨N, hN⟩ : ∃ N, n + l.length + 2 * bndN t = N := ⟨_, rfl⟩
      rw [hN] at HR5 HN
      have hNb : N + l.length ≤ 1000000000 := by omega
      clear hN
      go_loopw [13] (fun i wr => ∃ (k : Nat), k ≤ l.length ∧ i = .int .i64 ((k : Int) - 1) ∧ RS wr p mx ma (N + (l.length - k)) (fI (lastE E) xs ts k) ∧ TrC mx ma w5 wr) (fun i _ => (intOf i + 1).toNat)
      case atStart => exact ⟨l.length, Nat.le_refl _, rfl, HR5.out.mono (by omega), Only.rf _ _⟩
      case round =>
        obtain ⟨k, hk, rfl, hs, htr⟩ := hrel
        have HSk := Lib.hid hs; have HTk := Lib.hid htr
        have hzk := htr.size
        clear hs htr
        by_cases hk0 : 0 < k
        · obtain ⟨i, rfl⟩ : ∃ i, k = i + 1 := ⟨k - 1, by omega⟩
          have hil : i < l.length := by omega
          have hlv : i < vs.length := by have := HLEN.out; omega
          have hok : ok64 vs[i] := by obtain ⟨b9, o9, hAv, -, -, hok⟩ := HV.out.at_ hlv; exact hok
          obtain ⟨hx1, hx2, hx3⟩ := HXI.out i _ _ (List.getElem?_eq_getElem hil) (List.getElem?_eq_getElem hlv)
          have HFS : Hid (fI (lastE E) xs ts (i + 1) = setV (fI (lastE E) xs ts i) (coI l[i].co, vs[i]) l[i].ty) := by
            have h1 : i < xs.length := by have := HXL.out; omega
            have h2 : i < ts.length := by have := HTL.out; omega
            show _ = _
            rw [fI_succ _ h1 h2, (List.getElem?_eq_some_iff.1 hx1).2, (List.getElem?_eq_some_iff.1 hx2).2]
          have HGX : Hid (xs.getD i (0, 0) = (coI l[i].co, vs[i])) := by show _ = _; rw [List.getD_eq_getElem?_getD, hx1]; rfl
          have HGC : Hid (cs.getD i false = l[i].co) := by show _ = _; rw [List.getD_eq_getElem?_getD, hx3]; rfl
          have HQI := Lib.hid (HQZ.out i hil)
          have hcell : ∀ (c : Nat) (u : Value), c < 4 → (savC (lastE E) xs ts cs q i)[c]? = some u → ∃ g, Au = some ⟨g, 0, none⟩ ∧ g < w5.heap.size ∧ w2.heap.size ≤ g ∧ w5.cell? ⟨g, i * 4 + c, none⟩ = some u := fun c u hc hu =>
            HROW.out (i * 4 + c) u (by rw [Nat.mul_comm, savL_get _ _ _ _ _ hil hc]; exact hu)
          have hsc : savC (lastE E) xs ts cs q i = [.bool l[i].co, .int .i64 vs[i], .int .i64 (fI (lastE E) xs ts i (coI l[i].co, vs[i])), .bool (q i)] := by unfold savC; rw [HGX.out, HGC.out]
          rw [hsc] at hcell
          rw [HGX.out] at HQI
          clear hx1 hx2 hx3 hsc
          generalize l[i] = a at *
          generalize vs[i] = v at *
          obtain ⟨old, hold⟩ : ∃ old, fI (lastE E) xs ts i (coI a.co, v) = old := ⟨_, rfl⟩
          have HOLD := Lib.hid hold
          rw [hold] at hcell HQI
          generalize q i = qi at *
          obtain ⟨g, hA5, hg1, hg2, s0⟩ := hcell 0 _ (by decide) rfl
          subst hA5
          obtain ⟨g', hA', -, -, s1⟩ := hcell 1 _ (by decide) rfl
          cases hA'
          obtain ⟨g', hA', -, -, s2⟩ := hcell 2 _ (by decide) rfl
          cases hA'
          obtain ⟨g', hA', -, -, s3⟩ := hcell 3 _ (by decide) rfl
          cases hA'
          rw [Nat.add_zero] at s0
          have s0 := HR5.out.box' HTk.out s0
          have s1 := HR5.out.box' HTk.out s1
          have s2 := HR5.out.box' HTk.out s2
          have s3 := HR5.out.box' HTk.out s3
          have HRES : Hid (∀ W, Ext wr W → Calls Tryz.prog 41 #[.pointer (some ⟨p, 0, none⟩), savV (coI a.co, v) a.co old qi] W fun e w' => e = .returned (.tuple #[]) ∧ RS w' p mx ma (N + (l.length - i)) (fI (lastE E) xs ts i) ∧ TrC mx ma W w') := fun W hW => by
            refine (restore7_any W p mx ma _ _ a.co v old qi (HSk.out.ext hW) hok (by unfold maxLen; omega) HQI.out).mono ?_
            rintro e w' ⟨rfl, h1, h2⟩
            rw [HFS.out, ← HOLD.out, setV_back] at h1
            exact ⟨rfl, h1.mono (by omega), h2⟩
          have e1 : (((i + 1 : Nat) : Int) - 1) = (i : Int) := by omega
          rw [e1]
          clear hcell hold hok e1
          have hi0 : (0 : Int) ≤ i := by omega
          have hil2 : (i : Int) < l.length := by omega
          have hwi : IntKind.wrap .i64 ((i : Int) - 1) = (i : Int) - 1 := IntWalk.i64_in _ (by omega)
          go_wp2_with (first
            | (go_at_call 41; (with_reducible refine (HRES.out _ (Ext.rf _)).mono ?_); rintro e w7 ⟨rfl, hr7, ht7⟩)
            | fail "none")
          exact ⟨⟨i, by omega, rfl, hr7, TrC.tr HTk.out ht7⟩, by simp [intOf] <;> omega⟩
        · have hke : k = 0 := by omega
          subst hke
          have e1 : (((0 : Nat) : Int) - 1) = -1 := rfl
          rw [e1]
          go_wp2
          go_ret
          exact ⟨rfl, by rw [← HN.out]; exact HSk.out, TrC.tr (TrC.ext HX2.out) (TrC.tr HT5.out HTk.out)⟩
end
end Go.Proofs.YtkdhhcidpklgoaaGreatDoor
