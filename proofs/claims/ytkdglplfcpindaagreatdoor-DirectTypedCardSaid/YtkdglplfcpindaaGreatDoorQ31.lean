/- check.go: Fault. -/
import Derived.Test.YtkdglplfcpindaaGreatDoorQ30
namespace Go.Proofs.YtkdglplfcpindaaGreatDoor
open Go.RowKit

theorem nodesA_mem {d : Int} {y : Int × Tm} : ∀ {l : List Tm} {x : Tm}, x ∈ l → y ∈ nodesL d x → y ∈ nodesA d l
  | a :: r, x, h, hy => by
    rw [nodesA, List.mem_append]
    rcases List.mem_cons.1 h with rfl | h
    · exact .inl hy
    · exact .inr (nodesA_mem h hy)
theorem nodesC_mem {d : Int} {y : Int × Tm} : ∀ {l : List (List Str × Tm)} {c : List Str × Tm}, c ∈ l → y ∈ nodesL d c.2 → y ∈ nodesC d l
  | (ns, a) :: r, c, h, hy => by
    rw [nodesC, List.mem_append]
    rcases List.mem_cons.1 h with rfl | h
    · exact .inl hy
    · exact .inr (nodesC_mem h hy)
theorem nodesL_self (d : Int) (t : Tm) : (d, t) ∈ nodesL d t := by
  cases t; rw [nodesL]; exact List.mem_cons_self ..
theorem nodesL_arg {d : Int} {t x : Tm} {y : Int × Tm} (h : x ∈ t.args) (hy : y ∈ nodesL (d + 1) x) : y ∈ nodesL d t := by
  cases t with
  | mk op n nm ty args cls =>
    rw [nodesL]
    exact List.mem_cons_of_mem _ (List.mem_append_left _ (nodesA_mem h hy))
theorem nodesL_cls {d : Int} {t : Tm} {c : List Str × Tm} {y : Int × Tm} (h : c ∈ t.cls) (hy : y ∈ nodesL (d + 1) c.2) : y ∈ nodesL d t := by
  cases t with
  | mk op n nm ty args cls =>
    rw [nodesL]
    exact List.mem_cons_of_mem _ (List.mem_append_right _ (nodesC_mem h hy))
theorem RT.small {w : World} : ∀ (m k : Nat) (t : Tm) (va vc : Value) (d : Int), RT w k t va vc → (∀ x ∈ nodesL d t, x.1 ≤ d + m) → RT w (m + 1) t va vc
  | _, 0, _, _, _, _, h, _ => h.elim
  | 0, k + 1, t, va, vc, d, h, hd => by
    obtain ⟨h0, ⟨A, c, e1, h1, h2, h3⟩, ⟨B, c', e2, h4, h5, h6⟩⟩ := h
    refine ⟨h0, ⟨A, c, e1, h1, h2, fun i x hi => ?_⟩, ⟨B, c', e2, h4, h5, fun i x hi => ?_⟩⟩
    · have := hd _ (nodesL_arg (List.mem_of_getElem? hi) (nodesL_self (d + 1) x))
      simp at this; omega
    · have := hd _ (nodesL_cls (List.mem_of_getElem? hi) (nodesL_self (d + 1) x.2))
      simp at this; omega
  | m + 1, k + 1, t, va, vc, d, h, hd => by
    obtain ⟨h0, ⟨A, c, e1, h1, h2, h3⟩, ⟨B, c', e2, h4, h5, h6⟩⟩ := h
    refine ⟨h0, ⟨A, c, e1, h1, h2, fun i x hi => ?_⟩, ⟨B, c', e2, h4, h5, fun i x hi => ?_⟩⟩
    · obtain ⟨b, o, xa, xc, q1, q2, q3, q4⟩ := h3 i x hi
      exact ⟨b, o, xa, xc, q1, q2, q3, RT.small m k x xa xc (d + 1) q4 (fun y hy => by have := hd y (nodesL_arg (List.mem_of_getElem? hi) hy); omega)⟩
    · obtain ⟨b, o, vn, xa, xc, q1, q2, q3, q5, q6, q4⟩ := h6 i x hi
      exact ⟨b, o, vn, xa, xc, q1, q2, q3, q5, q6, RT.small m k x.2 xa xc (d + 1) q4 (fun y hy => by have := hd y (nodesL_cls (List.mem_of_getElem? hi) hy); omega)⟩

/-- The first function whose body does not have its result type. -/
def faultF (P : Pg) : Nat → List Fn → Option (Nat × List Int)
  | _, [] => none
  | i, f :: r => match tyT P (linkL f.ps) [] f.body with
    | .inl p => some (i, p)
    | .inr y => if y = f.res then faultF P (i + 1) r else some (i, [])
def FaultR (P : Pg) (B : Nat) (w' : World) (r : Option (Nat × List Int)) (e : Ending) : Prop := match r with
  | none => e = .returned (.tuple #[.int .i64 0, .slice none 0 0, .bool false, .int .i64 0])
  | some (i, p) => ∃ v, e = .returned (.tuple #[.int .i64 i, v, .bool true, .int .i64 0]) ∧ OwnL w' B v p
def NewOK (P : Pg) : Prop := progB P = true → ∀ (vd vf : Value) (w : World), RDecls w vd P.decls → RFns w vf P.funs →
  Calls Tryz.prog 58 #[pV vd vf] w fun e w' => (∃ g, e = .returned (.pointer (some ⟨g, 0, none⟩)) ∧ RCkR w' g P) ∧ Ext w w'
theorem sizesB_all : ∀ (l : List Fn) (n : Int), sizesB n l = true → ∀ f ∈ l, (sizeR f.body).2 = true
  | [], _, _, f, h => by cases h
  | g :: r, n, h, f, hf => by
    simp only [sizesB, Bool.and_eq_true] at h
    rcases List.mem_cons.1 hf with rfl | hf
    · exact h.1
    · exact sizesB_all r _ h.2 f hf
theorem prog_fun {P : Pg} (h : progB P = true) {f : Fn} (hf : f ∈ P.funs) : Vld P f.body ∧ ∀ x ∈ nodesL 1 f.body, x.1 ≤ 1 + (23 : Nat) := by
  unfold progB at h
  simp only [Bool.and_eq_true, List.all_eq_true] at h
  constructor
  · have := h.2 f hf
    unfold funB at this
    simp only [Bool.and_eq_true] at this
    exact ⟨_, _, this.2.2⟩
  · have := sizesB_all _ _ h.1.2.2 f hf
    unfold sizeR at this
    cases hs : sizeOK (nodesL 1 f.body)
    · rw [hs] at this; simp at this
    · unfold sizeOK at hs
      simp only [Bool.and_eq_true, List.all_eq_true, decide_eq_true_eq] at hs
      intro x hx
      have := hs.2 x hx
      omega

def ResV (r : TyR) (B : Nat) (W : World) (v : Value) : Prop := match r with
  | .inr y => v = .tuple #[.int .i64 y, .slice none 0 0, .bool true]
  | .inl p => ∃ y vp, v = .tuple #[.int .i64 y, vp, .bool false] ∧ OwnL W B vp p
def FstV (r : TyR) (v : Value) : Prop := match r with
  | .inr y => v = .int .i64 y
  | .inl _ => ∃ y, v = .int .i64 y
def SndV (r : TyR) (B : Nat) (W : World) (v : Value) : Prop := match r with
  | .inr _ => v = .slice none 0 0
  | .inl p => OwnL W B v p
def okV (r : TyR) : Bool := match r with | .inr _ => true | .inl _ => false
theorem ResV.ext {r : TyR} {B : Nat} {W W' : World} {v : Value} (h : ResV r B W v) (hb : Ext W W') : ResV r B W' v := by
  cases r with
  | inr y => exact h
  | inl p => obtain ⟨y, vp, e, h⟩ := h; exact ⟨y, vp, e, own_below h hb⟩
theorem SndV.ext {r : TyR} {B : Nat} {W W' : World} {v : Value} (h : SndV r B W v) (hb : Ext W W') : SndV r B W' v := by
  cases r with
  | inr y => exact h
  | inl p => exact own_below h hb
theorem ResV.form {r : TyR} {B : Nat} {W : World} {v : Value} (h : ResV r B W v) : ∃ y vp, v = .tuple #[.int .i64 y, vp, .bool (okV r)] ∧ FstV r (.int .i64 y) ∧ SndV r B W vp := by
  cases r with
  | inr y => exact ⟨y, _, h, rfl, rfl⟩
  | inl p => obtain ⟨y, vp, e, h⟩ := h; exact ⟨y, vp, e, ⟨y, rfl⟩, h⟩
theorem VisR.res {r : TyR} {B B' k : Nat} {W : World} {e : Ending} (h : VisR B W k r e) (hB : B' ≤ B) : ∃ v, e = .returned v ∧ ResV r B' W v := by
  cases r with
  | inr y => exact ⟨_, h, rfl⟩
  | inl p => obtain ⟨_, y, vp, e, h⟩ := h; exact ⟨_, e, y, vp, rfl, own_base h hB⟩
def FFa (vals : Nat → Value) (E : Env) (r : TyR) (B : Nat) (W : World) (j : Nat) (v : Value) : Prop :=
  (j < 7 ∧ j ≠ 3 ∧ j ≠ 4 → v = vals j) ∧ (j = 3 → ∃ q, v = .pointer q ∧ RB W E (.pointer q)) ∧ (j = 4 → ∃ q, v = scV (.pointer q) (.pointer none) ∧ RB W E (.pointer q)) ∧
  (j = 7 ∨ j = 8 → ResV r B W v) ∧ (j = 9 ∨ j = 12 → FstV r v) ∧ (j = 10 ∨ j = 13 → SndV r B W v) ∧ (j = 11 ∨ j = 14 → v = .bool (okV r))
theorem FFa.ext {vals : Nat → Value} {E : Env} {r : TyR} {B : Nat} (W W' : World) (j : Nat) (v : Value) (h : FFa vals E r B W j v) (hb : Ext W W') : FFa vals E r B W' j v :=
  ⟨h.1, fun e => (h.2.1 e).elim fun q ⟨a, b⟩ => ⟨q, a, b.below hb⟩, fun e => (h.2.2.1 e).elim fun q ⟨a, b⟩ => ⟨q, a, b.below hb⟩, fun e => (h.2.2.2.1 e).ext hb, h.2.2.2.2.1, fun e => (h.2.2.2.2.2.1 e).ext hb, h.2.2.2.2.2.2⟩

set_option pp.deepTerms true in
set_option maxHeartbeats 8000000 in
set_option maxRecDepth 100000 in
theorem Fault_of (P : Pg) (hB : progB P = true → PB P) (hS : progB P = true → ∀ t, fitsT P t = true → t.args.length + t.cls.length ≤ 1000000) (hN : NewOK P) (vd vf : Value) (w : World) (hd : RDecls w vd P.decls) (hf : RFns w vf P.funs) (hfine : FinePg P) :
    Calls Tryz.prog 33 #[pV vd vf] w fun e w' => (if progB P = true then FaultR P w.heap.size w' (faultF P 0 P.funs) e else e = .returned (.tuple #[.int .i64 0, .slice none 0 0, .bool false, .int .i64 20])) ∧ Ext w w' := by
  have HD := Lib.hid hd; have HF := Lib.hid hf
  obtain ⟨Ad, cd, rfl, hcd, hmd⟩ := hd.form
  obtain ⟨Af, cf, rfl, hcf, hmf⟩ := hf.form
  have HBP := Lib.hid hB; have HSP := Lib.hid hS; have HNW := Lib.hid hN; have HFI := Lib.hid hfine
  clear hd hf hB hS hN hfine
  have hmx : Tryz.prog.follows .mixedOrders = true := by kernel_rfl
  unfold maxLen at hmd hmf
  have HE := Lib.hid (Ext.al w (.cells #[.slice Ad P.decls.length cd, .slice Af P.funs.length cf] 25))
  have HB := Lib.hid (heapNew w (.cells #[.slice Ad P.decls.length cd, .slice Af P.funs.length cf] 25))
  obtain ⟨pb, hpb⟩ : ∃ b, progB P = b := ⟨_, rfl⟩
  have HPB := Lib.hid hpb
  rw [hpb]
  have hchk : chkP P = if pb then 0 else 20 := by unfold chkP; rw [hpb]
  obtain ⟨fr, hfr⟩ : ∃ r, faultF P 0 P.funs = r := ⟨_, rfl⟩
  have HFR := Lib.hid hfr
  rw [hfr]
  clear hpb hfr
  have HCHK := Lib.hid hchk
  clear hchk
  have p0 := cellAt HB.out 0
  have p1 := cellAt HB.out 1
  go_enter Tryz.func33, Tryz.ntmps33
  go_wp2_with fail
  generalize w.alloc _ = w1 at *
  (with_reducible refine (Check_any P _ _ _ (HD.out.below HE.out) (HF.out.below HE.out) HFI.out).mono ?_)
  rw [HCHK.out]
  rintro e w2 ⟨rfl, hb⟩
  have HX2 := Lib.hid hb
  have HW2 := Lib.hid (HE.out.tr hb)
  clear hb p0 p1
  cases pb
  · have e20 : (if false = true then (0 : Int) else 20) = 20 := rfl
    rw [e20]
    go_wp2
    exact bodyPost_ret (v := .tuple #[.int .i64 0, .slice none 0 0, .bool false, .int .i64 20]) (by simp [results, Tryz.results33, go_sem]) rfl ⟨rfl, HW2.out⟩
  · have e0 : (if true = true then (0 : Int) else 20) = 0 := rfl
    rw [e0]
    have p0 := HX2.out.keep (cellAt HB.out 0)
    have p1 := HX2.out.keep (cellAt HB.out 1)
    go_wp2_with fail
    have hnw := HNW.out HPB.out
    unfold NewOK at hnw
    (with_reducible refine (hnw _ _ _ (HD.out.below HW2.out) (HF.out.below HW2.out)).mono ?_)
    rintro e w3 ⟨⟨gc, rfl, hck⟩, hb⟩
    clear hnw
    have HCK := Lib.hid hck
    have HX3 := Lib.hid (HX2.out.tr hb)
    have HW3 := Lib.hid (HW2.out.tr hb)
    clear hb hck p0 p1
    have p1 := HX3.out.keep (cellAt HB.out 1)
    go_wp2
    clear p1
    go_loopw [23] (fun i wr => ∃ j : Nat, j ≤ P.funs.length ∧ i = .int .i64 j ∧ fr = faultF P j (P.funs.drop j) ∧ Ext w3 wr) (fun i _ => P.funs.length - (intOf i).toNat)
    case atStart => exact ⟨0, Nat.zero_le _, rfl, HFR.out.symm, Ext.rf _⟩
    case round =>
      obtain ⟨j, hj, rfl, hr, hb⟩ := hrel
      have HR := Lib.hid hr; have HX := Lib.hid hb; have HXW := Lib.hid (HW3.out.tr hb)
      clear hr hb
      by_cases hlt : j < P.funs.length
      · obtain ⟨b, o, vp, xa, xc, kf, rfl, hbl, y0, y1, y2, yc, y3, y4, y5⟩ := HF.out.at_ hlt
        have hmem : P.funs[j] ∈ P.funs := List.getElem_mem hlt
        obtain ⟨hvld, hdep⟩ := prog_fun HPB.out hmem
        have HVL := Lib.hid hvld
        have HRT := Lib.hid ((RT.small 23 kf _ _ _ 1 y5 hdep).below HXW.out)
        have HRP := Lib.hid (y4.below HXW.out)
        obtain ⟨Ap, cp, rfl, -, -⟩ := y4.form
        obtain ⟨_, ⟨Aa, ca, rfl, -, -⟩, ⟨Bb, cb, rfl, -, -⟩⟩ := y5.form
        have HSTP : Hid (faultF P j (P.funs.drop j) = match tyT P (linkL (P.funs[j]).ps) [] (P.funs[j]).body with
            | .inl p => some (j, p)
            | .inr y => if y = (P.funs[j]).res then faultF P (j + 1) (P.funs.drop (j + 1)) else some (j, [])) := by
          show _ = _
          rw [List.drop_eq_getElem_cons hlt, faultF]
        have y0 := HXW.out.keep y0
        have y1 := HXW.out.keep y1
        have y2 := HXW.out.keep y2
        have c0 := HXW.out.keep yc.c0
        have c1 := HXW.out.keep yc.c1
        have c2 := HXW.out.keep yc.c2
        have c3 := HXW.out.keep yc.c3
        have c4 := HXW.out.keep yc.c4
        have c5 := HXW.out.keep yc.c5
        clear yc y4 y5 hvld hdep hmem
        generalize P.funs[j] = f at *
        go_upto_region 8 with fail
        obtain ⟨vals, hvals⟩ : ∃ vals : Nat → Value, vals = fun j => if j = 0 then .pointer (some ⟨gc, 0, none⟩) else if j = 1 then .pointer (some ⟨wr.heap.size, 1, none⟩) else if j = 2 then .slice Ap f.ps.length cp else if j = 5 then .pointer (some ⟨wr.heap.size, 3, none⟩) else if j = 6 then tV f.body (.slice Aa f.body.args.length ca) (.slice Bb f.body.cls.length cb) else undef := ⟨_, rfl⟩
        have HV0 : Hid (vals 0 = .pointer (some ⟨gc, 0, none⟩)) := by show _ = _; rw [hvals]; rfl
        have HV1 : Hid (vals 1 = .pointer (some ⟨wr.heap.size, 1, none⟩)) := by show _ = _; rw [hvals]; rfl
        have HV2 : Hid (vals 2 = .slice Ap f.ps.length cp) := by show _ = _; rw [hvals]; rfl
        have HV5 : Hid (vals 5 = .pointer (some ⟨wr.heap.size, 3, none⟩)) := by show _ = _; rw [hvals]; rfl
        have HV6 : Hid (vals 6 = tV f.body (.slice Aa f.body.args.length ca) (.slice Bb f.body.cls.length cb)) := by show _ = _; rw [hvals]; rfl
        clear hvals
        have HB8 := Lib.hid (heapNew wr (.cells #[.string f.nm, .slice Ap f.ps.length cp, .int .i64 f.res, .int .i64 f.body.op, .int .i64 f.body.n, .string f.body.nm, .int .i64 f.body.ty, .slice Aa f.body.args.length ca, .slice Bb f.body.cls.length cb] 52))
        have HE8 := Lib.hid (Ext.al wr (.cells #[.string f.nm, .slice Ap f.ps.length cp, .int .i64 f.res, .int .i64 f.body.op, .int .i64 f.body.n, .string f.body.nm, .int .i64 f.body.ty, .slice Aa f.body.args.length ca, .slice Bb f.body.cls.length cb] 52))
        generalize World.alloc wr _ = w8 at *
        clear y0 y1 y2 c0 c1 c2 c3 c4 c5
        obtain ⟨rx, hrx⟩ : ∃ r, tyT P (linkL f.ps) [] f.body = r := ⟨_, rfl⟩
        have HRX := Lib.hid hrx
        rw [hrx] at HSTP
        clear hrx
        refine wp_region_invCE hmx (by kernel_rfl) (fun Ls a W => ∃ vv : Nat → Value, a = { tmps := #[pV (Value.slice Ad P.decls.length cd) (Value.slice (some ⟨b, o, none⟩) P.funs.length cf), Value.pointer (some { block := w.heap.size, off := 0 }), u2, u3, u4, u5, Value.int IntKind.i64 0, Value.pointer (some { block := gc, off := 0 }), Value.int IntKind.i64 (j : Int), Value.pointer (some { block := wr.heap.size, off := 0 }), vv 12, vv 13, vv 14, Value.agg #[Value.slice Ad P.decls.length cd, Value.slice (some ⟨b, o, none⟩) P.funs.length cf], Value.int IntKind.i64 0, Value.int IntKind.i64 0, Value.bool false, undef, Value.agg #[Value.slice Ad P.decls.length cd, Value.slice (some ⟨b, o, none⟩) P.funs.length cf], Value.pointer (some { block := gc, off := 0 }), Value.pointer (some { block := w.heap.size, off := 1 }), Value.slice (some ⟨b, o, none⟩) P.funs.length cf, Value.int IntKind.i64 (P.funs.length : Int), Value.int IntKind.i64 (j : Int), Value.bool true, Value.int IntKind.i64 (j : Int), Value.pointer (some { block := b, off := o + j * 9 }), fV f (Value.slice Ap f.ps.length cp) (Value.slice Aa f.body.args.length ca) (Value.slice Bb f.body.cls.length cb), vv 8, vv 0, vv 1, vv 2, vv 3, vv 4, vv 5, vv 6, vv 7, vv 9, vv 10, vv 11, u40, u41, u42, u43, u44, u45, u46, u47, u48, u49, u50], defers := [] } ∧ PhA w8 (FFa vals (linkL f.ps) rx w.heap.size) 15 Ls W vv) ?_ ?_ ?_
        · exact ⟨fun k => if k = 0 then u29 else if k = 1 then u30 else if k = 2 then u31 else if k = 3 then u32 else if k = 4 then u33 else if k = 5 then u34 else if k = 6 then u35 else if k = 7 then u36 else if k = 8 then u28 else if k = 9 then u37 else if k = 10 then u38 else if k = 11 then u39 else if k = 12 then u10 else if k = 13 then u11 else u12, rfl, PhA.zero _ _ _ _⟩
        · intro Ls a W i op ho hpre hl hc hI Kk HKk
          have hi : i < 15 := (Array.getElem?_eq_some_iff.1 ho).1
          obtain ⟨vv, rfl, hI⟩ := hI
          have HPA := Lib.hid hI
          have hcs : i = 0 ∨ i = 1 ∨ i = 2 ∨ i = 3 ∨ i = 4 ∨ i = 5 ∨ i = 6 ∨ i = 7 ∨ i = 8 ∨ i = 9 ∨ i = 10 ∨ i = 11 ∨ i = 12 ∨ i = 13 ∨ i = 14 := by omega
          rcases hcs with rfl | rfl | rfl | rfl | rfl | rfl | rfl | rfl | rfl | rfl | rfl | rfl | rfl | rfl | rfl
          all_goals
            obtain rfl := Option.some.inj ho
            clear ho hi hI hc
          · clear hpre
            go_simp
            exact HKk.out _ _ ⟨_, rfl, HPA.out.put (v := .pointer (some ⟨gc, 0, none⟩)) FFa.ext (by decide) (Ext.rf _) ⟨fun _ => HV0.out.symm, fun h => absurd h (by decide), fun h => absurd h (by decide), fun h => absurd h (by decide), fun h => absurd h (by decide), fun h => absurd h (by decide), fun h => absurd h (by decide)⟩⟩
          · clear hpre
            go_simp
            exact HKk.out _ _ ⟨_, rfl, HPA.out.put (v := .pointer (some ⟨wr.heap.size, 1, none⟩)) FFa.ext (by decide) (Ext.rf _) ⟨fun _ => HV1.out.symm, fun h => absurd h (by decide), fun h => absurd h (by decide), fun h => absurd h (by decide), fun h => absurd h (by decide), fun h => absurd h (by decide), fun h => absurd h (by decide)⟩⟩
          · simp [Region.binds] at hpre
            have e1 : vv 1 = _ := (HPA.out.facts 1 (by decide) (by simp [hpre])).1 (by decide)
            rw [HV1.out] at e1
            have c1 := HPA.out.ext.keep (cellAt HB8.out 1)
            go_simp
            exact HKk.out _ _ ⟨_, by simp [e1], HPA.out.put (v := .slice Ap f.ps.length cp) FFa.ext (by decide) (Ext.rf _) ⟨fun _ => HV2.out.symm, fun h => absurd h (by decide), fun h => absurd h (by decide), fun h => absurd h (by decide), fun h => absurd h (by decide), fun h => absurd h (by decide), fun h => absurd h (by decide)⟩⟩
          · simp [Region.binds] at hpre
            have e2 : vv 2 = _ := (HPA.out.facts 2 (by decide) (by simp [hpre])).1 (by decide)
            rw [HV2.out] at e2
            go_simp
            (refine (linked_any _ f.ps W (HRP.out.below (HE8.out.tr HPA.out.ext))).mono ?_)
            rintro e W' ⟨⟨uu, rfl, hu⟩, hb⟩
            obtain ⟨q, rfl⟩ := hu.form
            exact HKk.out _ _ ⟨_, by simp [e2], HPA.out.put (v := .pointer q) FFa.ext (by decide) hb ⟨fun h => absurd h (by decide), fun _ => ⟨q, rfl, hu⟩, fun h => absurd h (by decide), fun h => absurd h (by decide), fun h => absurd h (by decide), fun h => absurd h (by decide), fun h => absurd h (by decide)⟩⟩
          · simp [Region.binds] at hpre
            obtain ⟨q, e3, hq⟩ := (HPA.out.facts 3 (by decide) (by simp [hpre])).2.1 rfl
            go_simp
            exact HKk.out _ _ ⟨_, by simp [e3], HPA.out.put (v := scV (.pointer q) (.pointer none)) FFa.ext (by decide) (Ext.rf _) ⟨fun h => absurd h (by decide), fun h => absurd h (by decide), fun _ => ⟨q, rfl, hq⟩, fun h => absurd h (by decide), fun h => absurd h (by decide), fun h => absurd h (by decide), fun h => absurd h (by decide)⟩⟩
          · clear hpre
            go_simp
            exact HKk.out _ _ ⟨_, rfl, HPA.out.put (v := .pointer (some ⟨wr.heap.size, 3, none⟩)) FFa.ext (by decide) (Ext.rf _) ⟨fun _ => HV5.out.symm, fun h => absurd h (by decide), fun h => absurd h (by decide), fun h => absurd h (by decide), fun h => absurd h (by decide), fun h => absurd h (by decide), fun h => absurd h (by decide)⟩⟩
          · simp [Region.binds] at hpre
            have e5 : vv 5 = _ := (HPA.out.facts 5 (by decide) (by simp [hpre])).1 (by decide)
            rw [HV5.out] at e5
            have c3 := HPA.out.ext.keep (cellAt HB8.out 3)
            have c4 := HPA.out.ext.keep (cellAt HB8.out 4)
            have c5 := HPA.out.ext.keep (cellAt HB8.out 5)
            have c6 := HPA.out.ext.keep (cellAt HB8.out 6)
            have c7 := HPA.out.ext.keep (cellAt HB8.out 7)
            have c8 := HPA.out.ext.keep (cellAt HB8.out 8)
            go_simp
            exact HKk.out _ _ ⟨_, by simp [e5], HPA.out.put (v := tV f.body (.slice Aa f.body.args.length ca) (.slice Bb f.body.cls.length cb)) FFa.ext (by decide) (Ext.rf _) ⟨fun _ => HV6.out.symm, fun h => absurd h (by decide), fun h => absurd h (by decide), fun h => absurd h (by decide), fun h => absurd h (by decide), fun h => absurd h (by decide), fun h => absurd h (by decide)⟩⟩
          · simp [Region.binds] at hpre
            have e0 : vv 0 = _ := (HPA.out.facts 0 (by decide) (by simp [hpre])).1 (by decide)
            rw [HV0.out] at e0
            have e6 : vv 6 = _ := (HPA.out.facts 6 (by decide) (by simp [hpre])).1 (by decide)
            rw [HV6.out] at e6
            obtain ⟨q, e4, hq⟩ := (HPA.out.facts 4 (by decide) (by simp [hpre])).2.2.1 rfl
            go_simp
            (refine (visit4_any gc P (HBP.out HPB.out) (HSP.out HPB.out) 24 (linkL f.ps) [] (.pointer q) (.pointer none) f.body _ _ W (by decide) hq rfl (HRT.out.below (HE8.out.tr HPA.out.ext)) (HCK.out.below ((HX.out.tr HE8.out).tr HPA.out.ext)) HVL.out).mono ?_)
            rw [HRX.out]
            rintro e W' ⟨hr, hb⟩
            obtain ⟨vr, rfl, hres⟩ := hr.res (B' := w.heap.size) ((HXW.out.tr HE8.out).tr HPA.out.ext).size
            exact HKk.out _ _ ⟨_, by simp [e0, e4, e6], HPA.out.put (v := vr) FFa.ext (by decide) hb ⟨fun h => absurd h (by decide), fun h => absurd h (by decide), fun h => absurd h (by decide), fun _ => hres, fun h => absurd h (by decide), fun h => absurd h (by decide), fun h => absurd h (by decide)⟩⟩
          · simp [Region.binds] at hpre
            have r7 := (HPA.out.facts 7 (by decide) (by simp [hpre])).2.2.2.1 (by decide)
            go_simp
            exact HKk.out _ _ ⟨_, rfl, HPA.out.put (v := vv 7) FFa.ext (by decide) (Ext.rf _) ⟨fun h => absurd h (by decide), fun h => absurd h (by decide), fun h => absurd h (by decide), fun _ => r7, fun h => absurd h (by decide), fun h => absurd h (by decide), fun h => absurd h (by decide)⟩⟩
          · simp [Region.binds] at hpre
            obtain ⟨y, vp', e8, hf1, hf2⟩ := ((HPA.out.facts 8 (by decide) (by simp [hpre])).2.2.2.1 (by decide)).form
            go_simp
            exact HKk.out _ _ ⟨_, by simp [e8], HPA.out.put (v := .int .i64 y) FFa.ext (by decide) (Ext.rf _) ⟨fun h => absurd h (by decide), fun h => absurd h (by decide), fun h => absurd h (by decide), fun h => absurd h (by decide), fun _ => hf1, fun h => absurd h (by decide), fun h => absurd h (by decide)⟩⟩
          · simp [Region.binds] at hpre
            obtain ⟨y, vp', e8, hf1, hf2⟩ := ((HPA.out.facts 8 (by decide) (by simp [hpre])).2.2.2.1 (by decide)).form
            go_simp
            exact HKk.out _ _ ⟨_, by simp [e8], HPA.out.put (v := vp') FFa.ext (by decide) (Ext.rf _) ⟨fun h => absurd h (by decide), fun h => absurd h (by decide), fun h => absurd h (by decide), fun h => absurd h (by decide), fun h => absurd h (by decide), fun _ => hf2, fun h => absurd h (by decide)⟩⟩
          · simp [Region.binds] at hpre
            obtain ⟨y, vp', e8, hf1, hf2⟩ := ((HPA.out.facts 8 (by decide) (by simp [hpre])).2.2.2.1 (by decide)).form
            go_simp
            exact HKk.out _ _ ⟨_, by simp [e8], HPA.out.put (v := .bool (okV rx)) FFa.ext (by decide) (Ext.rf _) ⟨fun h => absurd h (by decide), fun h => absurd h (by decide), fun h => absurd h (by decide), fun h => absurd h (by decide), fun h => absurd h (by decide), fun h => absurd h (by decide), fun _ => rfl⟩⟩
          · simp [Region.binds] at hpre
            have r9 := (HPA.out.facts 9 (by decide) (by simp [hpre])).2.2.2.2.1 (by decide)
            go_simp
            exact HKk.out _ _ ⟨_, rfl, HPA.out.put (v := vv 9) FFa.ext (by decide) (Ext.rf _) ⟨fun h => absurd h (by decide), fun h => absurd h (by decide), fun h => absurd h (by decide), fun h => absurd h (by decide), fun _ => r9, fun h => absurd h (by decide), fun h => absurd h (by decide)⟩⟩
          · simp [Region.binds] at hpre
            have r10 := (HPA.out.facts 10 (by decide) (by simp [hpre])).2.2.2.2.2.1 (by decide)
            go_simp
            exact HKk.out _ _ ⟨_, rfl, HPA.out.put (v := vv 10) FFa.ext (by decide) (Ext.rf _) ⟨fun h => absurd h (by decide), fun h => absurd h (by decide), fun h => absurd h (by decide), fun h => absurd h (by decide), fun h => absurd h (by decide), fun _ => r10, fun h => absurd h (by decide)⟩⟩
          · simp [Region.binds] at hpre
            have r11 := (HPA.out.facts 11 (by decide) (by simp [hpre])).2.2.2.2.2.2 (by decide)
            go_simp
            exact HKk.out _ _ ⟨_, by simp [r11], HPA.out.put (v := .bool (okV rx)) FFa.ext (by decide) (Ext.rf _) ⟨fun h => absurd h (by decide), fun h => absurd h (by decide), fun h => absurd h (by decide), fun h => absurd h (by decide), fun h => absurd h (by decide), fun h => absurd h (by decide), fun _ => rfl⟩⟩
        · intro Ls a W hall hI
          obtain ⟨vv, rfl, hI⟩ := hI
          have h12 := (hI.facts 12 (by decide) (hall 12 (by decide))).2.2.2.2.1 (by decide)
          have h13 := (hI.facts 13 (by decide) (hall 13 (by decide))).2.2.2.2.2.1 (by decide)
          have h14 := (hI.facts 14 (by decide) (hall 14 (by decide))).2.2.2.2.2.2 (by decide)
          have HXE := Lib.hid ((HX.out.tr HE8.out).tr hI.ext)
          have HXF := Lib.hid ((HXW.out.tr HE8.out).tr hI.ext)
          have k2 := hI.ext.keep (cellAt HB8.out 2)
          clear hI hall
          generalize vv 12 = v12 at *
          generalize vv 13 = v13 at *
          generalize vv 14 = v14 at *
          subst h14
          cases rx with
          | inl p =>
            obtain ⟨y, rfl⟩ := h12
            have HOP := Lib.hid h13
            obtain ⟨Ao, co, rfl⟩ := own_shapeL h13
            clear h13
            have hfn : fr = some (j, p) := by rw [HR.out, HSTP.out]
            have HFN := Lib.hid hfn
            clear hfn
            rw [show okV (.inl p) = false from rfl]
            go_wp2
            rw [HFN.out]
            exact bodyPost_ret (v := .tuple #[.int .i64 j, .slice Ao p.length co, .bool true, .int .i64 0]) (by simp [results, Tryz.results33, go_sem]) rfl ⟨⟨_, rfl, HOP.out⟩, HXF.out⟩
          | inr y =>
            have h12 : v12 = .int .i64 y := h12
            have h13 : v13 = .slice none 0 0 := h13
            subst h12 h13
            rw [show okV (.inr y) = true from rfl]
            by_cases hy : y = f.res
            · have hq : (y != f.res) = false := by simp [hy]
              have hfn : fr = faultF P (j + 1) (P.funs.drop (j + 1)) := by rw [HR.out, HSTP.out]; simp [hy]
              have HFN := Lib.hid hfn
              clear hfn hy
              go_wp2
              exact ⟨⟨j + 1, by omega, by go_num, HFN.out, HXE.out⟩, by simp [intOf]; omega⟩
            · have hq : (y != f.res) = true := by simp [hy]
              have hfn : fr = some (j, []) := by rw [HR.out, HSTP.out]; simp [hy]
              have HFN := Lib.hid hfn
              clear hfn hy
              go_wp2
              rw [HFN.out]
              exact bodyPost_ret (v := .tuple #[.int .i64 j, .slice none 0 0, .bool true, .int .i64 0]) (by simp [results, Tryz.results33, go_sem]) rfl ⟨⟨_, rfl, ⟨by simp, .inl ⟨rfl, by simp⟩⟩⟩, HXF.out⟩
      · have hfn : fr = none := by rw [HR.out, List.drop_eq_nil_of_le (by omega)]; rfl
        have HFN := Lib.hid hfn
        clear hfn
        go_wp2
        rw [HFN.out]
        exact bodyPost_ret (v := .tuple #[.int .i64 0, .slice none 0 0, .bool false, .int .i64 0]) (by simp [results, Tryz.results33, go_sem]) rfl ⟨rfl, HXW.out⟩
end Go.Proofs.YtkdglplfcpindaaGreatDoor

/- check.go: Check. -/
namespace Go.Proofs.YtkdglplfcpindaaGreatDoor
open Go.RowKit

def checkR (P : Pg) : Int := if progB P = true then (match faultF P 0 P.funs with | some _ => 40 | none => 0) else 20

set_option maxHeartbeats 4000000 in
set_option maxRecDepth 100000 in
theorem CheckC_of (P : Pg) (hB : progB P = true → PB P) (hS : progB P = true → ∀ t, fitsT P t = true → t.args.length + t.cls.length ≤ 1000000) (hN : NewOK P) (vd vf : Value) (w : World) (hd : RDecls w vd P.decls) (hf : RFns w vf P.funs) (hfine : FinePg P) :
    Calls Tryz.prog 15 #[pV vd vf] w fun e w' => e = .returned (.int .i64 (checkR P)) ∧ Ext w w' := by
  have HF := Lib.hid (fun w1 (hd : RDecls w1 vd P.decls) (hf : RFns w1 vf P.funs) => Fault_of P hB hS hN vd vf w1 hd hf hfine)
  have HD := Lib.hid hd; have HFN := Lib.hid hf
  obtain ⟨Ad, cd, rfl, -, -⟩ := hd.form
  obtain ⟨Af, cf, rfl, -, -⟩ := hf.form
  clear hd hf hB hS hN hfine
  have HE := Lib.hid (Ext.al w (.cells #[.slice Ad P.decls.length cd, .slice Af P.funs.length cf] 25))
  have HB := Lib.hid (heapNew w (.cells #[.slice Ad P.decls.length cd, .slice Af P.funs.length cf] 25))
  obtain ⟨cr, hcr⟩ : ∃ r, checkR P = r := ⟨_, rfl⟩
  rw [hcr]
  unfold checkR at hcr
  obtain ⟨pb, hpb⟩ : ∃ b, progB P = b := ⟨_, rfl⟩
  obtain ⟨fr, hfr⟩ : ∃ r, faultF P 0 P.funs = r := ⟨_, rfl⟩
  rw [hpb, hfr] at HF
  rw [hpb, hfr] at hcr
  have HCR := Lib.hid hcr
  clear hcr hpb hfr
  have p0 := cellAt HB.out 0
  have p1 := cellAt HB.out 1
  go_enter Tryz.func15, Tryz.ntmps15
  go_wp2_with fail
  generalize w.alloc _ = w1 at *
  clear p0 p1
  (with_reducible refine (HF.out _ (HD.out.below HE.out) (HFN.out.below HE.out)).mono ?_)
  rintro e w2 ⟨hr, hb⟩
  have HX := Lib.hid (HE.out.tr hb)
  clear hb
  cases pb
  · have hr : e = .returned (.tuple #[.int .i64 0, .slice none 0 0, .bool false, .int .i64 20]) := by simpa using hr
    subst hr
    have hc : cr = 20 := by rw [← HCR.out]; rfl
    subst hc
    go_wp2
    go_ret
    exact ⟨rfl, HX.out⟩
  · have hr : FaultR P w1.heap.size w2 fr e := by simpa using hr
    cases fr with
    | none =>
      have hr : e = .returned (.tuple #[.int .i64 0, .slice none 0 0, .bool false, .int .i64 0]) := hr
      subst hr
      have hc : cr = 0 := by rw [← HCR.out]; rfl
      subst hc
      go_wp2
      go_ret
      exact ⟨rfl, HX.out⟩
    | some ip =>
      obtain ⟨i, p⟩ := ip
      obtain ⟨v, rfl, ho⟩ := hr
      obtain ⟨A, c, rfl⟩ := own_shapeL ho
      clear ho
      have hc : cr = 40 := by rw [← HCR.out]; rfl
      subst hc
      go_wp2
      go_ret
      exact ⟨rfl, HX.out⟩
end Go.Proofs.YtkdglplfcpindaaGreatDoor

/- What a valid program's sizes are. -/
namespace Go.Proofs.YtkdglplfcpindaaGreatDoor
open Go.RowKit

theorem prog_decls {P : Pg} (h : progB P = true) : validB P.decls = true ∧ srcB P.decls = true := by
  unfold progB at h
  simp only [Bool.and_eq_true] at h
  exact h.1.1.1
theorem prog_funs {P : Pg} (h : progB P = true) : P.funs.length ≤ 12 ∧ ∀ f ∈ P.funs, f.ps.length ≤ 6 := by
  unfold progB at h
  simp only [Bool.and_eq_true, decide_eq_true_eq, List.all_eq_true] at h
  refine ⟨h.1.1.2.1.2, fun f hf => ?_⟩
  have := h.2 f hf
  unfold funB at this
  simp only [Bool.and_eq_true, decide_eq_true_eq] at this
  exact this.1.1.1
theorem okDs_one {t : Nat} : ∀ {l : List Decl} {S : List ByteArray}, okDs t S l = true → ∀ d ∈ l, 1 ≤ d.xtors.length
  | [], _, _, d, hd => by simp at hd
  | e :: r, S, h, d, hd => by
    have h2 : (okD t S e && okDs t (addD S e) r) = true := h
    rw [Bool.and_eq_true] at h2
    rcases List.mem_cons.1 hd with rfl | hd
    · have h3 := h2.1
      unfold okD at h3
      simp only [Bool.and_eq_true, decide_eq_true_eq] at h3
      omega
    · exact okDs_one h2.2 d hd
theorem PB.of {P : Pg} (h : progB P = true) : PB P := by
  have hv := (prog_decls h).1
  have hf := Fine.of hv
  refine ⟨by have := hf.few; omega, by have := (prog_funs h).1; omega, fun u d hd => ⟨?_, ?_⟩⟩
  · have := hf.xtors d (List.mem_of_getElem? hd); omega
  · unfold validB at hv
    rw [Bool.and_eq_true] at hv
    exact okDs_one hv.2 d (List.mem_of_getElem? hd)
/-- The result of an observation. -/
theorem res_last {P : Pg} (h : progB P = true) {u n : Nat} {d : Decl} {x : Xtor} (hd : P.decls[u]? = some d) (hx : d.xtors[n]? = some x) (hc : d.codata = true) : (resI P.decls ((u : Int) + 1) n).1 = lastT x := by
  obtain ⟨hv, hs⟩ := prog_decls h
  obtain ⟨hu, rfl⟩ := List.getElem?_eq_some_iff.1 hd
  obtain ⟨hn, rfl⟩ := List.getElem?_eq_some_iff.1 hx
  unfold srcB at hs
  rw [List.all_eq_true] at hs
  have h1 := hs _ (List.getElem_mem hu)
  unfold srcD at h1
  rw [List.all_eq_true] at h1
  have h2 := h1 _ (List.getElem_mem hn)
  unfold srcX at h2
  rw [if_pos hc] at h2
  rw [resI_end hv hu hn hc h2, lastT_eq]
theorem fits_few {P : Pg} (h : progB P = true) {t : Tm} (hf : fitsT P t = true) : t.args.length + t.cls.length ≤ 1000000 := by
  have hfi := Fine.of (prog_decls h).1
  have hxt : ∀ ty : Int, (declAt P ty).xtors.length ≤ 6 := fun ty => by
    unfold declAt
    by_cases hu : (ty - 1).toNat < P.decls.length
    · rw [List.getD_eq_getElem?_getD, List.getElem?_eq_getElem hu]
      exact hfi.xtors _ (List.getElem_mem hu)
    · rw [List.getD_eq_getElem?_getD, List.getElem?_eq_none (by omega)]
      exact Nat.zero_le _
  have hxa : ∀ (ty : Int) (n : Nat), ((declAt P ty).xtors.getD n noXtor).args.length ≤ 6 := fun ty n => by
    rw [List.getD_eq_getElem?_getD]
    cases hq : (declAt P ty).xtors[n]? with
    | none => exact Nat.zero_le _
    | some x =>
      have hm := List.mem_of_getElem? hq
      unfold declAt at hm
      by_cases hu : (ty - 1).toNat < P.decls.length
      · rw [List.getD_eq_getElem?_getD, List.getElem?_eq_getElem hu] at hm
        exact hfi.args _ (List.getElem_mem hu) x hm
      · rw [List.getD_eq_getElem?_getD, List.getElem?_eq_none (by omega)] at hm
        cases hm
  have hfp : ∀ n : Nat, (P.funs.getD n noFn).ps.length ≤ 6 := fun n => by
    rw [List.getD_eq_getElem?_getD]
    cases hq : P.funs[n]? with
    | none => exact Nat.zero_le _
    | some f => exact (prog_funs h).2 f (List.mem_of_getElem? hq)
  obtain ⟨o, ho, ho2⟩ := fits_op hf
  unfold fitsT at hf
  rw [ho] at hf
  match o, ho2 with
  | 0, _ => simp at hf; have := hasF_len hf; omega
  | 1, _ => simp at hf; have := hasF_len hf; omega
  | 2, _ => simp at hf; have := hasF_len hf.1.1; omega
  | 3, _ => simp at hf; have := hasF_len hf; omega
  | 4, _ =>
    simp at hf
    have h := hf.2
    unfold fitsXB at h
    simp only [Bool.and_eq_true] at h
    have := hasF_len h.2; have := hxa t.ty t.n.toNat; omega
  | 5, _ =>
    simp at hf
    have h := hf.2
    unfold fitsCB at h
    simp only [Bool.and_eq_true] at h
    have := hasF_len h.1; have := hxt t.ty; omega
  | 6, _ =>
    simp at hf
    have h := hf.2
    unfold fitsXB at h
    simp only [Bool.and_eq_true] at h
    have := hasF_len h.2; have := hxa t.ty t.n.toNat; omega
  | 7, _ =>
    simp at hf
    have h := hf.2
    unfold fitsCB at h
    simp only [Bool.and_eq_true] at h
    have := hasF_len h.1; have := hxt t.ty; omega
  | 8, _ => simp at hf; have := hasF_len hf.1; omega
  | 9, _ => simp at hf; have := hasF_len hf.2; have := hfp t.n.toNat; rw [List.getD_eq_getElem?_getD] at this; omega
  | 10, _ => simp at hf; have := hasF_len hf; omega
  | 11, _ => simp at hf; have := hasF_len hf.1; omega
  | 12, _ => simp at hf; have := hasF_len hf.1; omega
end Go.Proofs.YtkdglplfcpindaaGreatDoor

/- newChecker's contract for a valid program; Check, Fault, Type without conditions on the checker. -/
namespace Go.Proofs.YtkdglplfcpindaaGreatDoor
open Go.RowKit

theorem newOK (P : Pg) : NewOK P := fun h vd vf w hd hf =>
  newChecker_any P vd vf w hd hf (PB.of h).dl (by have := (prog_funs h).1; omega) (fun f hf => by have := (prog_funs h).2 f hf; omega)
    (fun u n d x hd hx hc => res_last h hd hx hc)
    (fun u d hd => by
      have hfi := Fine.of (prog_decls h).1
      have hm := List.mem_of_getElem? hd
      exact ⟨by have := hfi.xtors d hm; omega, fun x hx => by have := hfi.args d hm x hx; omega⟩)
theorem Checkc_any (P : Pg) (vd vf : Value) (w : World) (hd : RDecls w vd P.decls) (hf : RFns w vf P.funs) (hfine : FinePg P) :
    Calls Tryz.prog 15 #[pV vd vf] w fun e w' => e = .returned (.int .i64 (checkR P)) ∧ Ext w w' :=
  CheckC_of P (fun h => PB.of h) (fun h t ht => fits_few h ht) (newOK P) vd vf w hd hf hfine
end Go.Proofs.YtkdglplfcpindaaGreatDoor

/- law.go: DirectFuel. -/
namespace Go.Proofs.YtkdglplfcpindaaGreatDoor
open Go.RowKit

/-- Whatever Run answers: a run and a code. -/
theorem RunR.form {P : Pg} {w w' : World} {fuel : Int} {inputs : List Int} {e : Ending} (h : RunR P w fuel inputs e w') : ∃ (r : Rn) (A : Option Addr) (c : Nat), e = .returned (.tuple #[.agg #[.int .i64 r.stop, .int .i64 r.val, .slice A r.outs.length c, .int .i64 r.steps], .int .i64 (runE P fuel inputs.length)]) ∧ RInts w' (.slice A r.outs.length c) r.outs ∧ Ext w w' ∧ (runE P fuel inputs.length = 0 → RunsTo P fuel.toNat (startS P inputs) r) := by
  unfold RunR at h
  by_cases hq : runE P fuel inputs.length = 0
  · rw [if_pos hq] at h
    obtain ⟨q, ov, h1, h2, h3, h4⟩ := h
    obtain ⟨A, c, rfl⟩ := own_shapeL h3
    exact ⟨q, A, c, by rw [hq]; exact h2, own_ints h3, h4, fun _ => h1⟩
  · rw [if_neg hq] at h
    exact ⟨⟨0, 0, [], 0⟩, none, 0, h.1, no_ints _, h.2, fun k => absurd k hq⟩

end Go.Proofs.YtkdglplfcpindaaGreatDoor

/- law.go: DirectTyped. -/
namespace Go.Proofs.YtkdglplfcpindaaGreatDoor
open Go.RowKit

theorem link_bind : ∀ (l : List Prm) (E : Env), l.foldl (fun E a => (a.nm, a.ty) :: E) E = bindE (l.map Prm.nm) (l.map Prm.ty) E
  | [], E => by simp [bindE]
  | a :: r, E => by
    rw [List.foldl_cons, link_bind r, List.map_cons, List.map_cons, bindE]
theorem faultF_none {P : Pg} : ∀ (l : List Fn) (i : Nat), faultF P i l = none → ∀ f ∈ l, tyT P (linkL f.ps) [] f.body = .inr f.res
  | [], _, _, f, hf => by cases hf
  | g :: r, i, h, f, hf => by
    rw [faultF] at h
    cases hy : tyT P (linkL g.ps) [] g.body with
    | inl p => rw [hy] at h; cases h
    | inr y =>
      rw [hy] at h
      have h : (if y = g.res then faultF P (i + 1) r else some (i, [])) = none := h
      by_cases hq : y = g.res
      · rw [if_pos hq] at h
        rcases List.mem_cons.1 hf with rfl | hf
        · rw [hy, hq]
        · exact faultF_none r (i + 1) h f hf
      · rw [if_neg hq] at h; cases h
theorem checkR_typed {P : Pg} (h : checkR P = 0) : WFP true P := by
  unfold checkR at h
  by_cases hp : progB P = true
  · rw [if_pos hp] at h
    refine ⟨hp, fun _ f hf => ?_⟩
    cases hF : faultF P 0 P.funs with
    | none =>
      have := faultF_none P.funs 0 hF f hf
      unfold linkL at this
      rw [link_bind] at this
      exact this
    | some x => rw [hF] at h; simp at h
  · rw [if_neg hp] at h; cases h
theorem runE_len {P : Pg} {fuel : Int} {n : Nat} (h : runE P fuel n = 0) : n = (fnAt P 0).ps.length := by
  unfold runE at h
  split at h
  · split at h
    · cases h
    · rename_i hq
      by_cases k : n = (fnAt P 0).ps.length
      · exact k
      · exact absurd (.inr (.inr k)) hq
  · cases h

set_option maxHeartbeats 8000000 in
set_option maxRecDepth 100000 in
theorem directTyped_any (P : Pg) (vd vf vi : Value) (fuel : Int) (inputs : List Int) (w : World) (hd : RDecls w vd P.decls) (hf : RFns w vf P.funs) (hI : RInts w vi inputs) (h64 : ∀ n ∈ inputs, ok64 n) :
    Calls Tryz.prog 4 #[pV vd vf, .int .i64 fuel, vi] w fun e w' => e = .returned (.bool true) ∧ Ext w w' := by
  have HD := Lib.hid hd
  have HF := Lib.hid hf
  have HI := Lib.hid hI
  have H64 := Lib.hid h64
  obtain ⟨Ad, cd, rfl, hcd, hmd⟩ := hd.form
  obtain ⟨Af, cf, rfl, hcf, hmf⟩ := hf.form
  obtain ⟨Ai, ci, rfl, hci, hmi⟩ := hI.form
  clear hd hf hI h64
  have HE := Lib.hid (Ext.al w (.cells #[.slice Ad P.decls.length cd, .slice Af P.funs.length cf] 25))
  have HBP := Lib.hid (heapNew w (.cells #[.slice Ad P.decls.length cd, .slice Af P.funs.length cf] 25))
  have p0 := cellAt HBP.out 0
  have p1 := cellAt HBP.out 1
  go_enter Tryz.func4, Tryz.ntmps4
  go_wp2_with fail
  generalize w.alloc _ = w1 at *
  clear p0 p1
  (with_reducible refine (FewX_any P _ _ 700 _ (HD.out.below HE.out) (HF.out.below HE.out) (by omega) (by omega)).mono ?_)
  rintro e w2 ⟨rfl, hb⟩
  have HX2 := Lib.hid (HE.out.tr hb)
  have HBP2 := Lib.hid ((hb.block _ (heap_lt HBP.out)).trans HBP.out)
  clear hb
  have p0 := cellAt HBP2.out 0
  have p1 := cellAt HBP2.out 1
  by_cases hq : fewB P 700 = true
  · have HFI : Hid (FinePg P) := fun f hf => fineF_of (by
      unfold fewB at hq
      simp only [Bool.and_eq_true, decide_eq_true_eq, List.all_eq_true] at hq
      have := hq.2 f hf
      omega)
    rw [hq]
    clear hq
    go_wp2_with fail
    (with_reducible refine (Checkc_any P _ _ w2 (HD.out.below HX2.out) (HF.out.below HX2.out) HFI.out).mono ?_)
    rintro e w3 ⟨rfl, hb⟩
    have HX3 := Lib.hid (HX2.out.tr hb)
    have HBP3 := Lib.hid ((hb.block _ (heap_lt HBP2.out)).trans HBP2.out)
    clear hb p0 p1
    have p0 := cellAt HBP3.out 0
    have p1 := cellAt HBP3.out 1
    obtain ⟨cr, hcr⟩ : ∃ r, checkR P = r := ⟨_, rfl⟩
    have HCR := Lib.hid hcr
    rw [hcr]
    clear hcr
    by_cases hz : cr = 0
    · subst hz
      have HW := Lib.hid (checkR_typed HCR.out)
      go_wp2_with fail
      (with_reducible refine (run_any P w3 _ _ _ fuel inputs (HD.out.below HX3.out) (HF.out.below HX3.out) HFI.out (HI.out.below HX3.out) H64.out).mono ?_)
      intro e w4 hr
      obtain ⟨r, Ar, cr, rfl, hri, hx, hto⟩ := hr.form
      have HX4 := Lib.hid (HX3.out.tr hx)
      have HTO := Lib.hid hto
      have HBP4 := Lib.hid ((hx.block _ (heap_lt HBP3.out)).trans HBP3.out)
      clear hr hri hx hto p0 p1
      have HX5 := Lib.hid (Ext.al w4 (.cells #[.int .i64 r.stop, .int .i64 r.val, .slice Ar r.outs.length cr, .int .i64 r.steps] 30))
      have HBR := Lib.hid (heapNew w4 (.cells #[.int .i64 r.stop, .int .i64 r.val, .slice Ar r.outs.length cr, .int .i64 r.steps] 30))
      have r0 := cellAt HBR.out 0
      have r1 := cellAt HBR.out 1
      have r2 := cellAt HBR.out 2
      have r3 := cellAt HBR.out 3
      obtain ⟨code, hcode⟩ : ∃ c, runE P fuel inputs.length = c := ⟨_, rfl⟩
      have HCO := Lib.hid hcode
      rw [hcode]
      clear hcode
      by_cases hz : code = 0
      · subst hz
        have HS := Lib.hid (never_stuck HW.out (runE_len HCO.out) (HTO.out HCO.out))
        rcases HS.out with hs | hs
        · rw [hs] at r0
          rw [hs]
          have hx5 := HX5.out
          rw [hs] at hx5
          have HX5 := Lib.hid hx5
          clear hs hx5
          go_wp2_with fail
          (with_reducible refine (awake5_any _).mono ?_)
          rintro e wz ⟨rfl, hb⟩
          have HZ := Lib.hid ((HX4.out.tr HX5.out).tr hb)
          clear hb
          go_wp2
          go_ret
          exact ⟨rfl, HZ.out⟩
        · rw [hs] at r0
          rw [hs]
          have hx5 := HX5.out
          rw [hs] at hx5
          have HX5 := Lib.hid hx5
          clear hs hx5
          go_wp2_with fail
          (with_reducible refine (awake5_any _).mono ?_)
          rintro e wz ⟨rfl, hb⟩
          have HZ := Lib.hid ((HX4.out.tr HX5.out).tr hb)
          clear hb
          go_wp2
          go_ret
          exact ⟨rfl, HZ.out⟩
      · have hne : (code == 0) = false := by simpa using hz
        have hne2 : (code != 0) = true := by simpa using hz
        go_wp2_with fail
        (with_reducible refine (awake5_any _).mono ?_)
        rintro e wz ⟨rfl, hb⟩
        have HZ := Lib.hid ((HX4.out.tr HX5.out).tr hb)
        clear hb
        go_wp2
        go_ret
        exact ⟨rfl, HZ.out⟩
    · have hne : (cr == 0) = false := by simpa using hz
      have hne2 : (cr != 0) = true := by simpa using hz
      go_wp2_with fail
      (with_reducible refine (awake5_any _).mono ?_)
      rintro e wz ⟨rfl, hb⟩
      have HZ := Lib.hid (HX3.out.tr hb)
      clear hb
      go_wp2
      go_ret
      exact ⟨rfl, HZ.out⟩
  · have hq : fewB P 700 = false := by simpa using hq
    rw [hq]
    clear hq
    go_wp2_with fail
    (with_reducible refine (awake5_any _).mono ?_)
    rintro e wz ⟨rfl, hb⟩
    have HZ := Lib.hid (HX2.out.tr hb)
    clear hb
    go_wp2
    go_ret
    exact ⟨rfl, HZ.out⟩
end Go.Proofs.YtkdglplfcpindaaGreatDoor
