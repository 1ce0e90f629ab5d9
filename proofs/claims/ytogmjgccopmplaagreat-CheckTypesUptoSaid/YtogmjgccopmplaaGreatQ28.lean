/- check.go: Type. -/
import Derived.Test.YtogmjgccopmplaaGreatQ27
namespace Go.Proofs.YtogmjgccopmplaaGreat
open Go.RowKit
theorem prm_names {w : World} {v : Value} {l : List Prm} (h : RPrms w v l) : ∀ s ∈ l.map Prm.nm, s.size ≤ maxLen := by
  intro s hs
  obtain ⟨a, ha, rfl⟩ := List.mem_map.1 hs
  obtain ⟨i, hi, rfl⟩ := List.getElem_of_mem ha
  obtain ⟨A, c, rfl, -, -⟩ := h.form
  obtain ⟨_, _, _, _, _, _, h3⟩ := h.at_ hi
  exact h3
theorem have_wf {P : Pg} (hd : P.decls.length ≤ 1000000) {l : List Prm} (h : haveL P l = true) : ∀ a ∈ l, (Lit.int .i64 a.ty).wf = true := by
  intro a ha
  unfold haveL at h
  rw [List.all_eq_true] at h
  have := h a ha
  unfold isTypeB at this
  simp only [Bool.and_eq_true, decide_eq_true_eq] at this
  exact wf64 (by omega) (by omega)
theorem size_depth {t : Tm} (h : (sizeR t).2 = true) : ∀ x ∈ nodesL 1 t, x.1 ≤ 1 + (23 : Nat) := by
  unfold sizeR at h
  cases hs : sizeOK (nodesL 1 t)
  · rw [hs] at h; simp at h
  · unfold sizeOK at hs
    simp only [Bool.and_eq_true, List.all_eq_true, decide_eq_true_eq] at hs
    intro x hx
    have := hs.2 x hx
    omega
/-- What Type returns. -/
def TypeR (P : Pg) (vs ls : List Prm) (t : Tm) (e : Ending) : Prop :=
  if progB P = false then e = .returned (.tuple #[.int .i64 0, .int .i64 20])
  else if (termP P (hasS (vs.map Prm.nm)) (hasS (ls.map Prm.nm)) t).1 = true ∧ haveL P vs = true ∧ haveL P ls = true then
    ∃ fv fl : List Str, (∀ k, k ∈ fv ↔ fvT t k = true) ∧ SortedS fv ∧ (∀ k, k ∈ fl ↔ flT t k = true) ∧ SortedS fl ∧
      e = .returned (match tyT P (givenL vs fv) (givenL ls fl) t with | .inr y => .tuple #[.int .i64 y, .int .i64 0] | .inl _ => .tuple #[.int .i64 0, .int .i64 40])
  else e = .returned (.tuple #[.int .i64 0, .int .i64 1])
def FT1 (vals : Nat → Value) (l1 l2 : List Str) (W : World) (j : Nat) (v : Value) : Prop := (j ≠ 2 ∧ j ≠ 4 → v = vals j) ∧ (j = 2 → RStrs W v l1) ∧ (j = 4 → RStrs W v l2)
theorem FT1.ext {vals : Nat → Value} {l1 l2 : List Str} (W W' : World) (j : Nat) (v : Value) (h : FT1 vals l1 l2 W j v) (hb : Ext W W') : FT1 vals l1 l2 W' j v := ⟨h.1, fun e => (h.2.1 e).below hb, fun e => (h.2.2 e).below hb⟩
def FT2 (vals : Nat → Value) (P : Pg) (r : TyR) (B : Nat) (W : World) (j : Nat) (v : Value) : Prop :=
  (j = 0 ∨ j = 2 ∨ j = 3 → v = vals j) ∧ (j = 1 → ∃ g, v = .pointer (some ⟨g, 0, none⟩) ∧ RCkR W g P) ∧ (j = 4 ∨ j = 5 → ResV r B W v) ∧ (j = 6 ∨ j = 9 → FstV r v) ∧ (j = 8 ∨ j = 11 → v = .bool (okV r))
theorem FT2.ext {vals : Nat → Value} {P : Pg} {r : TyR} {B : Nat} (W W' : World) (j : Nat) (v : Value) (h : FT2 vals P r B W j v) (hb : Ext W W') : FT2 vals P r B W' j v :=
  ⟨h.1, fun e => (h.2.1 e).elim fun q ⟨a, b⟩ => ⟨q, a, b.below hb⟩, fun e => (h.2.2.1 e).ext hb, h.2.2.2.1, h.2.2.2.2⟩
set_option pp.deepTerms true in
set_option maxHeartbeats 8000000 in
set_option maxRecDepth 100000 in
theorem TypeC_of (P : Pg) (hB : progB P = true → PB P) (hS : progB P = true → ∀ t, fitsT P t = true → t.args.length + t.cls.length ≤ 1000000) (hN : NewOK P) (vd vf v1 v2 : Value) (vs ls : List Prm) (k : Nat) (t : Tm) (va vc : Value) (w : World) (hd : RDecls w vd P.decls) (hf : RFns w vf P.funs) (hfine : FinePg P)
    (h1 : RPrms w v1 vs) (h2 : RPrms w v2 ls) (hl1 : vs.length ≤ 2200000) (hl2 : ls.length ≤ 2200000) (ht : RT w k t va vc) (hft : FineT t) (hw : vs.length + ls.length + wT t ≤ maxLen) (hu : uT t ≤ 1000000000) :
    Calls Tryz.prog 15 #[pV vd vf, v1, v2, tV t va vc] w fun e w' => TypeR P vs ls t e ∧ Ext w w' := by
  have HBP := Lib.hid hB; have HSP := Lib.hid hS; have HNW := Lib.hid hN; have HFI := Lib.hid hfine
  have HD := Lib.hid hd; have HF := Lib.hid hf; have H1 := Lib.hid h1; have H2 := Lib.hid h2; have HT := Lib.hid ht; have HFT := Lib.hid hft; have HW := Lib.hid hw; have HU := Lib.hid hu
  obtain ⟨Ad, cd, rfl, -, -⟩ := hd.form
  obtain ⟨Af, cf, rfl, -, -⟩ := hf.form
  obtain ⟨A1, c1, rfl, -, -⟩ := h1.form
  obtain ⟨A2, c2, rfl, -, -⟩ := h2.form
  obtain ⟨_, ⟨Aa, ca, rfl, -, -⟩, ⟨Bb, cb, rfl, -, -⟩⟩ := ht.form
  have HZvs := Lib.hid (prm_names h1); have HZls := Lib.hid (prm_names h2)
  clear hd hf h1 h2 ht hft hw hu hB hS hN hfine
  have hmx : Tryz.prog.follows .mixedOrders = true := by kernel_rfl
  have HE := Lib.hid (Ext.al2 w (.cells #[.slice Ad P.decls.length cd, .slice Af P.funs.length cf] 25) (.cells #[.int .i64 t.op, .int .i64 t.n, .string t.nm, .int .i64 t.ty, .slice Aa t.args.length ca, .slice Bb t.cls.length cb] 41))
  have hb1 := heapNew w (.cells #[.slice Ad P.decls.length cd, .slice Af P.funs.length cf] 25)
  have hb2 := heapNew (w.alloc (.cells #[.slice Ad P.decls.length cd, .slice Af P.funs.length cf] 25)) (.cells #[.int .i64 t.op, .int .i64 t.n, .string t.nm, .int .i64 t.ty, .slice Aa t.args.length ca, .slice Bb t.cls.length cb] 41)
  rw [World.size_alloc] at hb2
  have hb1 := ((Ext.al (w.alloc (.cells #[.slice Ad P.decls.length cd, .slice Af P.funs.length cf] 25)) (.cells #[.int .i64 t.op, .int .i64 t.n, .string t.nm, .int .i64 t.ty, .slice Aa t.args.length ca, .slice Bb t.cls.length cb] 41)).block _ (heap_lt hb1)).trans hb1
  have HB1 := Lib.hid hb1; have HB2 := Lib.hid hb2
  clear hb1 hb2
  obtain ⟨rr, hrr⟩ : ∃ r, termP P (hasS (vs.map Prm.nm)) (hasS (ls.map Prm.nm)) t = r := ⟨_, rfl⟩
  have HRR := Lib.hid hrr
  clear hrr
  go_enter Tryz.func15, Tryz.ntmps15
  go_upto_region 1 with fail
  generalize World.alloc (World.alloc w _) _ = w1 at *
  obtain ⟨vals, hvals⟩ : ∃ vals : Nat → Value, vals = fun j => if j = 0 then pV (.slice Ad P.decls.length cd) (.slice Af P.funs.length cf) else if j = 1 then .slice A1 vs.length c1 else if j = 3 then .slice A2 ls.length c2 else if j = 5 then tV t (.slice Aa t.args.length ca) (.slice Bb t.cls.length cb) else if j = 6 then .tuple #[.bool rr.1, .int .i64 rr.2] else if j = 7 then .tuple #[.bool rr.1, .int .i64 rr.2] else if j = 8 then .bool rr.1 else if j = 9 then .int .i64 rr.2 else if j = 10 then .bool rr.1 else if j = 11 then .int .i64 rr.2 else undef := ⟨_, rfl⟩
  have HV0 : Hid (vals 0 = pV (.slice Ad P.decls.length cd) (.slice Af P.funs.length cf)) := by show _ = _; rw [hvals]; rfl
  have HV1 : Hid (vals 1 = .slice A1 vs.length c1) := by show _ = _; rw [hvals]; rfl
  have HV3 : Hid (vals 3 = .slice A2 ls.length c2) := by show _ = _; rw [hvals]; rfl
  have HV5 : Hid (vals 5 = tV t (.slice Aa t.args.length ca) (.slice Bb t.cls.length cb)) := by show _ = _; rw [hvals]; rfl
  have HV6 : Hid (vals 6 = .tuple #[.bool rr.1, .int .i64 rr.2]) := by show _ = _; rw [hvals]; rfl
  have HV7 : Hid (vals 7 = .tuple #[.bool rr.1, .int .i64 rr.2]) := by show _ = _; rw [hvals]; rfl
  have HV8 : Hid (vals 8 = .bool rr.1) := by show _ = _; rw [hvals]; rfl
  have HV9 : Hid (vals 9 = .int .i64 rr.2) := by show _ = _; rw [hvals]; rfl
  have HV10 : Hid (vals 10 = .bool rr.1) := by show _ = _; rw [hvals]; rfl
  have HV11 : Hid (vals 11 = .int .i64 rr.2) := by show _ = _; rw [hvals]; rfl
  clear hvals
  refine wp_region_invCE hmx (by kernel_rfl) (fun Ls a W => ∃ vv : Nat → Value, a = { tmps := #[pV (.slice Ad P.decls.length cd) (.slice Af P.funs.length cf), .slice A1 vs.length c1, .slice A2 ls.length c2, tV t (.slice Aa t.args.length ca) (.slice Bb t.cls.length cb), .pointer (some ⟨w.heap.size, 0, none⟩), undef, undef, .pointer (some ⟨w.heap.size + 1, 0, none⟩), .int .i64 0, .int .i64 0, vv 10, vv 11, undef, undef, undef, undef, undef, undef, vv 7, vv 0, vv 1, vv 2, vv 3, vv 4, vv 5, vv 6, vv 8, vv 9, undef, undef, undef, undef, undef, undef, undef, undef, undef, undef, undef, undef, undef, undef, undef, undef, undef, undef, undef, undef, undef, undef, undef, undef, undef, undef, undef, undef, undef, undef, undef, undef, undef, undef, undef, undef, undef, undef, undef, undef, undef], defers := [] } ∧ PhA w1 (FT1 vals (vs.map Prm.nm) (ls.map Prm.nm)) 12 Ls W vv) ?_ ?_ ?_
  · exact ⟨fun _ => undef, rfl, PhA.zero _ _ _ _⟩
  · intro Ls a W i op ho hpre hl hc hI Kk HKk
    have hi : i < 12 := (Array.getElem?_eq_some_iff.1 ho).1
    obtain ⟨vv, rfl, hI⟩ := hI
    have HPA := Lib.hid hI
    have hcs : i = 0 ∨ i = 1 ∨ i = 2 ∨ i = 3 ∨ i = 4 ∨ i = 5 ∨ i = 6 ∨ i = 7 ∨ i = 8 ∨ i = 9 ∨ i = 10 ∨ i = 11 := by omega
    rcases hcs with rfl | rfl | rfl | rfl | rfl | rfl | rfl | rfl | rfl | rfl | rfl | rfl
    all_goals
      obtain rfl := Option.some.inj ho
      clear ho hi hI hc
    · clear hpre
      have c0 := HPA.out.ext.keep (cellAt HB1.out 0)
      have c1 := HPA.out.ext.keep (cellAt HB1.out 1)
      go_simp
      exact HKk.out _ _ ⟨_, rfl, HPA.out.put (v := pV (.slice Ad P.decls.length cd) (.slice Af P.funs.length cf)) FT1.ext (by decide) (Ext.rf _) ⟨fun _ => HV0.out.symm, fun h => absurd h (by decide), fun h => absurd h (by decide)⟩⟩
    · clear hpre
      go_simp
      exact HKk.out _ _ ⟨_, rfl, HPA.out.put (v := .slice A1 vs.length c1) FT1.ext (by decide) (Ext.rf _) ⟨fun _ => HV1.out.symm, fun h => absurd h (by decide), fun h => absurd h (by decide)⟩⟩
    · simp [Region.binds] at hpre
      have e1 : vv 1 = _ := (HPA.out.facts 1 (by decide) (by simp [hpre])).1 (by decide)
      rw [HV1.out] at e1
      go_simp
      (refine (namesOf_any _ vs W (H1.out.below (HE.out.tr HPA.out.ext)) (by assumption)).mono ?_)
      rintro e W' ⟨rfl, hs, hb⟩
      exact HKk.out _ _ ⟨_, by simp [e1], HPA.out.put (v := .slice (some ⟨W.heap.size, 0, none⟩) vs.length vs.length) FT1.ext (by decide) hb ⟨fun h => absurd h (by decide), fun _ => by have h9 := hs.reads (by rw [List.length_map]; unfold maxLen; omega) HZvs.out; rw [List.length_map] at h9; exact h9, fun h => absurd h (by decide)⟩⟩
    · clear hpre
      go_simp
      exact HKk.out _ _ ⟨_, rfl, HPA.out.put (v := .slice A2 ls.length c2) FT1.ext (by decide) (Ext.rf _) ⟨fun _ => HV3.out.symm, fun h => absurd h (by decide), fun h => absurd h (by decide)⟩⟩
    · simp [Region.binds] at hpre
      have e3 : vv 3 = _ := (HPA.out.facts 3 (by decide) (by simp [hpre])).1 (by decide)
      rw [HV3.out] at e3
      go_simp
      (refine (namesOf_any _ ls W (H2.out.below (HE.out.tr HPA.out.ext)) (by assumption)).mono ?_)
      rintro e W' ⟨rfl, hs, hb⟩
      exact HKk.out _ _ ⟨_, by simp [e3], HPA.out.put (v := .slice (some ⟨W.heap.size, 0, none⟩) ls.length ls.length) FT1.ext (by decide) hb ⟨fun h => absurd h (by decide), fun h => absurd h (by decide), fun _ => by have h9 := hs.reads (by rw [List.length_map]; unfold maxLen; omega) HZls.out; rw [List.length_map] at h9; exact h9⟩⟩
    · clear hpre
      have c0 := HPA.out.ext.keep (cellAt HB2.out 0)
      have c1 := HPA.out.ext.keep (cellAt HB2.out 1)
      have c2 := HPA.out.ext.keep (cellAt HB2.out 2)
      have c3 := HPA.out.ext.keep (cellAt HB2.out 3)
      have c4 := HPA.out.ext.keep (cellAt HB2.out 4)
      have c5 := HPA.out.ext.keep (cellAt HB2.out 5)
      go_simp
      exact HKk.out _ _ ⟨_, rfl, HPA.out.put (v := tV t (.slice Aa t.args.length ca) (.slice Bb t.cls.length cb)) FT1.ext (by decide) (Ext.rf _) ⟨fun _ => HV5.out.symm, fun h => absurd h (by decide), fun h => absurd h (by decide)⟩⟩
    · simp [Region.binds] at hpre
      have e0 : vv 0 = _ := (HPA.out.facts 0 (by decide) (by simp [hpre])).1 (by decide)
      rw [HV0.out] at e0
      have e5 : vv 5 = _ := (HPA.out.facts 5 (by decide) (by simp [hpre])).1 (by decide)
      rw [HV5.out] at e5
      have s2 := (HPA.out.facts 2 (by decide) (by simp [hpre])).2.1 rfl
      have s4 := (HPA.out.facts 4 (by decide) (by simp [hpre])).2.2 rfl
      go_simp
      (refine (Term_any P _ _ _ _ (vs.map Prm.nm) (ls.map Prm.nm) k t _ _ W (HD.out.below (HE.out.tr HPA.out.ext)) (HF.out.below (HE.out.tr HPA.out.ext)) HFI.out s2 s4 (HT.out.below (HE.out.tr HPA.out.ext)) HFT.out (by simpa using HW.out)).mono ?_)
      rw [HRR.out]
      rintro e W' ⟨rfl, hb⟩
      exact HKk.out _ _ ⟨_, by simp [e0, e5], HPA.out.put (v := .tuple #[.bool rr.1, .int .i64 rr.2]) FT1.ext (by decide) hb ⟨fun _ => HV6.out.symm, fun h => absurd h (by decide), fun h => absurd h (by decide)⟩⟩
    · simp [Region.binds] at hpre
      have e6 : vv 6 = _ := (HPA.out.facts 6 (by decide) (by simp [hpre])).1 (by decide)
      rw [HV6.out] at e6
      go_simp
      exact HKk.out _ _ ⟨_, by simp [e6], HPA.out.put (v := .tuple #[.bool rr.1, .int .i64 rr.2]) FT1.ext (by decide) (Ext.rf _) ⟨fun _ => HV7.out.symm, fun h => absurd h (by decide), fun h => absurd h (by decide)⟩⟩
    · simp [Region.binds] at hpre
      have e7 : vv 7 = _ := (HPA.out.facts 7 (by decide) (by simp [hpre])).1 (by decide)
      rw [HV7.out] at e7
      go_simp
      exact HKk.out _ _ ⟨_, by simp [e7], HPA.out.put (v := .bool rr.1) FT1.ext (by decide) (Ext.rf _) ⟨fun _ => HV8.out.symm, fun h => absurd h (by decide), fun h => absurd h (by decide)⟩⟩
    · simp [Region.binds] at hpre
      have e7 : vv 7 = _ := (HPA.out.facts 7 (by decide) (by simp [hpre])).1 (by decide)
      rw [HV7.out] at e7
      go_simp
      exact HKk.out _ _ ⟨_, by simp [e7], HPA.out.put (v := .int .i64 rr.2) FT1.ext (by decide) (Ext.rf _) ⟨fun _ => HV9.out.symm, fun h => absurd h (by decide), fun h => absurd h (by decide)⟩⟩
    · simp [Region.binds] at hpre
      have e8 : vv 8 = _ := (HPA.out.facts 8 (by decide) (by simp [hpre])).1 (by decide)
      rw [HV8.out] at e8
      go_simp
      exact HKk.out _ _ ⟨_, by simp [e8], HPA.out.put (v := .bool rr.1) FT1.ext (by decide) (Ext.rf _) ⟨fun _ => HV10.out.symm, fun h => absurd h (by decide), fun h => absurd h (by decide)⟩⟩
    · simp [Region.binds] at hpre
      have e9 : vv 9 = _ := (HPA.out.facts 9 (by decide) (by simp [hpre])).1 (by decide)
      rw [HV9.out] at e9
      go_simp
      exact HKk.out _ _ ⟨_, by simp [e9], HPA.out.put (v := .int .i64 rr.2) FT1.ext (by decide) (Ext.rf _) ⟨fun _ => HV11.out.symm, fun h => absurd h (by decide), fun h => absurd h (by decide)⟩⟩
  · intro Ls a W hall hI
    obtain ⟨vv, rfl, hI⟩ := hI
    have e10 : vv 10 = _ := (hI.facts 10 (by decide) (hall 10 (by decide))).1 (by decide)
    have e11 : vv 11 = _ := (hI.facts 11 (by decide) (hall 11 (by decide))).1 (by decide)
    rw [HV10.out] at e10
    rw [HV11.out] at e11
    have HX := Lib.hid hI.ext
    have HXW := Lib.hid (HE.out.tr hI.ext)
    clear hI hall
    have HTP : Hid (rr = if progB P then ((sizeR t).2 && validT P (hasS (vs.map Prm.nm)) (hasS (ls.map Prm.nm)) t, 0) else (false, 20)) := HRR.out.symm
    generalize vv 0 = x0 at *
    generalize vv 1 = x1 at *
    generalize vv 2 = x2 at *
    generalize vv 3 = x3 at *
    generalize vv 4 = x4 at *
    generalize vv 5 = x5 at *
    generalize vv 6 = x6 at *
    generalize vv 7 = x7 at *
    generalize vv 8 = x8 at *
    generalize vv 9 = x9 at *
    generalize vv 10 = x10 at *
    generalize vv 11 = x11 at *
    subst e10 e11
    cases hpb : progB P
    · have hr : rr = (false, 20) := by rw [HTP.out, hpb]; rfl
      subst hr
      have HPB := Lib.hid hpb
      clear hpb
      go_wp2
      go_ret2
      unfold TypeR
      rw [if_pos HPB.out]
      exact ⟨rfl, HXW.out⟩
    · have hr2 : rr.2 = 0 := by rw [HTP.out, hpb]; rfl
      have HPB := Lib.hid hpb
      obtain ⟨ok, hok⟩ : ∃ b, rr.1 = b := ⟨_, rfl⟩
      rw [hr2, hok]
      have HOK := Lib.hid hok
      have HRR1 : Hid ((termP P (hasS (vs.map Prm.nm)) (hasS (ls.map Prm.nm)) t).1 = ok) := by show _ = _; rw [HRR.out, hok]
      clear hr2 hok hpb
      obtain ⟨p0, p1⟩ : W.cell? ⟨w.heap.size, 0, none⟩ = _ ∧ W.cell? ⟨w.heap.size, 1, none⟩ = _ := ⟨HX.out.keep (cellAt HB1.out 0), HX.out.keep (cellAt HB1.out 1)⟩
      cases ok
      · go_wp2
        go_ret2
        unfold TypeR
        rw [if_neg (by rw [HPB.out]; simp), if_neg (by rw [HRR1.out]; simp)]
        exact ⟨rfl, HXW.out⟩
      · go_wp2_with fail
        (with_reducible refine (prog_have_any P _ _ _ vs _ (HD.out.below HXW.out) ⟨_, _, _, rfl⟩ (H1.out.below HXW.out)).mono ?_)
        rintro e w3 ⟨rfl, hb⟩
        have HX3 := Lib.hid (HX.out.tr hb)
        have HW3 := Lib.hid (HXW.out.tr hb)
        clear hb p0 p1
        obtain ⟨p0, p1⟩ : w3.cell? ⟨w.heap.size, 0, none⟩ = _ ∧ w3.cell? ⟨w.heap.size, 1, none⟩ = _ := ⟨HX3.out.keep (cellAt HB1.out 0), HX3.out.keep (cellAt HB1.out 1)⟩
        cases hq1 : haveL P vs
        · have HQ1 := Lib.hid hq1
          clear hq1
          go_wp2
          go_ret2
          unfold TypeR
          rw [if_neg (by rw [HPB.out]; simp), if_neg (by rw [HQ1.out]; simp)]
          exact ⟨rfl, HW3.out⟩
        · have HQ1 := Lib.hid hq1
          clear hq1
          go_wp2_with fail
          (with_reducible refine (prog_have_any P _ _ _ ls _ (HD.out.below HW3.out) ⟨_, _, _, rfl⟩ (H2.out.below HW3.out)).mono ?_)
          rintro e w4 ⟨rfl, hb⟩
          have HX4 := Lib.hid (HX3.out.tr hb)
          have HW4 := Lib.hid (HW3.out.tr hb)
          clear hb p0 p1
          cases hq2 : haveL P ls
          · have HQ2 := Lib.hid hq2
            clear hq2
            go_wp2
            go_ret2
            unfold TypeR
            rw [if_neg (by rw [HPB.out]; simp), if_neg (by rw [HQ2.out]; simp)]
            exact ⟨rfl, HW4.out⟩
          · have HQ2 := Lib.hid hq2
            clear hq2
            have m0 := HX4.out.keep (cellAt HB2.out 0)
            have m1 := HX4.out.keep (cellAt HB2.out 1)
            have m2 := HX4.out.keep (cellAt HB2.out 2)
            have m3 := HX4.out.keep (cellAt HB2.out 3)
            have m4 := HX4.out.keep (cellAt HB2.out 4)
            have m5 := HX4.out.keep (cellAt HB2.out 5)
            go_wp2_with fail
            (with_reducible refine (Free_any k t _ _ _ (HT.out.below HW4.out) HU.out).mono ?_)
            rintro e w5 ⟨f1, f2, l1, l2, rfl, ho1, ho2, hb⟩
            have HO1 := Lib.hid ho1; have HO2 := Lib.hid ho2
            have HX5 := Lib.hid (HX4.out.tr hb)
            have HW5 := Lib.hid (HW4.out.tr hb)
            obtain ⟨F1, d1, rfl⟩ := own_shapeL ho1.own
            obtain ⟨F2, d2, rfl⟩ := own_shapeL ho2.own
            clear hb ho1 ho2 m0 m1 m2 m3 m4 m5
            have HTY1 : Hid (∀ a ∈ vs, (Lit.int .i64 a.ty).wf = true) := have_wf (HBP.out HPB.out).dl HQ1.out
            have HTY2 : Hid (∀ a ∈ ls, (Lit.int .i64 a.ty).wf = true) := have_wf (HBP.out HPB.out).dl HQ2.out
            go_wp2_with fail
            (with_reducible refine (given_any _ _ vs l1 _ (H1.out.below HW5.out) HO1.out.strs HTY1.out (by omega)).mono ?_)
            rintro e w6 ⟨⟨u1, rfl, hu1⟩, hb⟩
            obtain ⟨q1, rfl⟩ := hu1.form
            have HU1 := Lib.hid hu1
            have HX6 := Lib.hid (HX5.out.tr hb)
            have HW6 := Lib.hid (HW5.out.tr hb)
            have HO2b := Lib.hid (HO2.out.strs.below hb)
            clear hb hu1
            go_wp2_with fail
            (with_reducible refine (given_any _ _ ls l2 _ (H2.out.below HW6.out) HO2b.out HTY2.out (by omega)).mono ?_)
            rintro e w7 ⟨⟨u2, rfl, hu2⟩, hb⟩
            obtain ⟨q2, rfl⟩ := hu2.form
            have HU1b := Lib.hid (HU1.out.below hb)
            have HU2 := Lib.hid hu2
            have HX7 := Lib.hid (HX6.out.tr hb)
            have HW7 := Lib.hid (HW6.out.tr hb)
            clear hb hu2
            go_upto_region 8 with fail
            have HB8 := Lib.hid (heapNew w7 (.cells #[.pointer q1, .pointer q2] 81))
            have HE8 := Lib.hid (Ext.al w7 (.cells #[.pointer q1, .pointer q2] 81))
            have hvt : (sizeR t).2 = true ∧ Vld P t := by
              have h1 := HRR1.out
              unfold termP at h1
              rw [if_pos HPB.out] at h1
              simp only [Bool.and_eq_true] at h1
              exact ⟨h1.1, _, _, h1.2⟩
            have HVL := Lib.hid hvt.2
            have HT24 := Lib.hid (RT.small 23 k _ _ _ 1 HT.out (size_depth hvt.1))
            clear hvt
            generalize World.alloc w7 _ = w8 at *
            obtain ⟨rx, hrx⟩ : ∃ r, tyT P (givenL vs l1) (givenL ls l2) t = r := ⟨_, rfl⟩
            have HRX := Lib.hid hrx
            clear hrx
            obtain ⟨vals, hvals⟩ : ∃ vals : Nat → Value, vals = fun j => if j = 0 then pV (.slice Ad P.decls.length cd) (.slice Af P.funs.length cf) else if j = 2 then scV (.pointer q1) (.pointer q2) else if j = 3 then tV t (.slice Aa t.args.length ca) (.slice Bb t.cls.length cb) else undef := ⟨_, rfl⟩
            have HV0 : Hid (vals 0 = pV (.slice Ad P.decls.length cd) (.slice Af P.funs.length cf)) := by show _ = _; rw [hvals]; rfl
            have HV2 : Hid (vals 2 = scV (.pointer q1) (.pointer q2)) := by show _ = _; rw [hvals]; rfl
            have HV3 : Hid (vals 3 = tV t (.slice Aa t.args.length ca) (.slice Bb t.cls.length cb)) := by show _ = _; rw [hvals]; rfl
            clear hvals
            refine wp_region_invCE hmx (by kernel_rfl) (fun Ls a W => ∃ vv : Nat → Value, a = { tmps := #[pV (.slice Ad P.decls.length cd) (.slice Af P.funs.length cf), .slice A1 vs.length c1, .slice A2 ls.length c2, tV t (.slice Aa t.args.length ca) (.slice Bb t.cls.length cb), .pointer (some ⟨w.heap.size, 0, none⟩), undef, undef, .pointer (some ⟨w.heap.size + 1, 0, none⟩), .int .i64 0, .int .i64 0, .bool true, .int .i64 0, .slice F1 l1.length d1, .slice F2 l2.length d2, .pointer (some ⟨w7.heap.size, 0, none⟩), vv 9, vv 10, vv 11, x7, x0, x1, x2, x3, x4, x5, x6, x8, x9, .int .i64 0, .bool false, undef, .bool true, .bool false, .bool false, .agg #[.slice Ad P.decls.length cd, .slice Af P.funs.length cf], .slice A1 vs.length c1, .bool true, .bool false, .bool false, .bool false, .agg #[.slice Ad P.decls.length cd, .slice Af P.funs.length cf], .slice A2 ls.length c2, .bool true, .bool false, .bool false, .tuple #[.slice F1 l1.length d1, .slice F2 l2.length d2], .agg #[.int .i64 t.op, .int .i64 t.n, .string t.nm, .int .i64 t.ty, .slice Aa t.args.length ca, .slice Bb t.cls.length cb], .tuple #[.slice F1 l1.length d1, .slice F2 l2.length d2], .slice F1 l1.length d1, .slice F2 l2.length d2, .slice A1 vs.length c1, .slice F1 l1.length d1, .pointer q1, .slice A2 ls.length c2, .slice F2 l2.length d2, .pointer q2, .agg #[.pointer q1, .pointer q2], vv 5, vv 0, vv 1, vv 2, vv 3, vv 4, vv 6, vv 7, vv 8, undef, undef, undef], defers := [] } ∧ PhA w8 (FT2 vals P rx w.heap.size) 12 Ls W vv) ?_ ?_ ?_
            · exact ⟨fun _ => undef, rfl, PhA.zero _ _ _ _⟩
            · intro Ls a W i op ho hpre hl hc hI Kk HKk
              have hi : i < 12 := (Array.getElem?_eq_some_iff.1 ho).1
              obtain ⟨vv, rfl, hI⟩ := hI
              have HPA := Lib.hid hI
              have hcs : i = 0 ∨ i = 1 ∨ i = 2 ∨ i = 3 ∨ i = 4 ∨ i = 5 ∨ i = 6 ∨ i = 7 ∨ i = 8 ∨ i = 9 ∨ i = 10 ∨ i = 11 := by omega
              rcases hcs with rfl | rfl | rfl | rfl | rfl | rfl | rfl | rfl | rfl | rfl | rfl | rfl
              all_goals
                obtain rfl := Option.some.inj ho
                clear ho hi hI hc
              · clear hpre
                have c0 := (HX7.out.tr (HE8.out.tr HPA.out.ext)).keep (cellAt HB1.out 0)
                have c1 := (HX7.out.tr (HE8.out.tr HPA.out.ext)).keep (cellAt HB1.out 1)
                go_simp
                exact HKk.out _ _ ⟨_, rfl, HPA.out.put (v := pV (.slice Ad P.decls.length cd) (.slice Af P.funs.length cf)) FT2.ext (by decide) (Ext.rf _) ⟨fun _ => HV0.out.symm, fun h => absurd h (by decide), fun h => absurd h (by decide), fun h => absurd h (by decide), fun h => absurd h (by decide)⟩⟩
              · simp [Region.binds] at hpre
                have e0 : vv 0 = _ := (HPA.out.facts 0 (by decide) (by simp [hpre])).1 (by decide)
                rw [HV0.out] at e0
                go_simp
                have hnw := HNW.out HPB.out
                unfold NewOK at hnw
                (refine (hnw _ _ W (HD.out.below (HW7.out.tr (HE8.out.tr HPA.out.ext))) (HF.out.below (HW7.out.tr (HE8.out.tr HPA.out.ext)))).mono ?_)
                rintro e W' ⟨⟨g, rfl, hck⟩, hb⟩
                exact HKk.out _ _ ⟨_, by simp [e0], HPA.out.put (v := .pointer (some ⟨g, 0, none⟩)) FT2.ext (by decide) hb ⟨fun h => absurd h (by decide), fun _ => ⟨g, rfl, hck⟩, fun h => absurd h (by decide), fun h => absurd h (by decide), fun h => absurd h (by decide)⟩⟩
              · clear hpre
                have c0 := HPA.out.ext.keep (cellAt HB8.out 0)
                have c1 := HPA.out.ext.keep (cellAt HB8.out 1)
                go_simp
                exact HKk.out _ _ ⟨_, rfl, HPA.out.put (v := scV (.pointer q1) (.pointer q2)) FT2.ext (by decide) (Ext.rf _) ⟨fun _ => HV2.out.symm, fun h => absurd h (by decide), fun h => absurd h (by decide), fun h => absurd h (by decide), fun h => absurd h (by decide)⟩⟩
              · clear hpre
                have c0 := (HX7.out.tr (HE8.out.tr HPA.out.ext)).keep (cellAt HB2.out 0)
                have c1 := (HX7.out.tr (HE8.out.tr HPA.out.ext)).keep (cellAt HB2.out 1)
                have c2 := (HX7.out.tr (HE8.out.tr HPA.out.ext)).keep (cellAt HB2.out 2)
                have c3 := (HX7.out.tr (HE8.out.tr HPA.out.ext)).keep (cellAt HB2.out 3)
                have c4 := (HX7.out.tr (HE8.out.tr HPA.out.ext)).keep (cellAt HB2.out 4)
                have c5 := (HX7.out.tr (HE8.out.tr HPA.out.ext)).keep (cellAt HB2.out 5)
                go_simp
                exact HKk.out _ _ ⟨_, rfl, HPA.out.put (v := tV t (.slice Aa t.args.length ca) (.slice Bb t.cls.length cb)) FT2.ext (by decide) (Ext.rf _) ⟨fun _ => HV3.out.symm, fun h => absurd h (by decide), fun h => absurd h (by decide), fun h => absurd h (by decide), fun h => absurd h (by decide)⟩⟩
              · simp [Region.binds] at hpre
                have e2 : vv 2 = _ := (HPA.out.facts 2 (by decide) (by simp [hpre])).1 (by decide)
                rw [HV2.out] at e2
                have e3 : vv 3 = _ := (HPA.out.facts 3 (by decide) (by simp [hpre])).1 (by decide)
                rw [HV3.out] at e3
                obtain ⟨g, e1, hck⟩ := (HPA.out.facts 1 (by decide) (by simp [hpre])).2.1 rfl
                go_simp
                (refine (visit4_any g P (HBP.out HPB.out) (HSP.out HPB.out) 24 (givenL vs l1) (givenL ls l2) (.pointer q1) (.pointer q2) t _ _ W (by decide) (HU1b.out.below (HE8.out.tr HPA.out.ext)) (HU2.out.below (HE8.out.tr HPA.out.ext)) (HT24.out.below (HW7.out.tr (HE8.out.tr HPA.out.ext))) hck HVL.out).mono ?_)
                rw [HRX.out]
                rintro e W' ⟨hr, hb⟩
                obtain ⟨vr, rfl, hres⟩ := hr.res (B' := w.heap.size) (HW7.out.tr (HE8.out.tr HPA.out.ext)).size
                exact HKk.out _ _ ⟨_, by simp [e1, e2, e3], HPA.out.put (v := vr) FT2.ext (by decide) hb ⟨fun h => absurd h (by decide), fun h => absurd h (by decide), fun _ => hres, fun h => absurd h (by decide), fun h => absurd h (by decide)⟩⟩
              · simp [Region.binds] at hpre
                have r4 := (HPA.out.facts 4 (by decide) (by simp [hpre])).2.2.1 (by decide)
                go_simp
                exact HKk.out _ _ ⟨_, rfl, HPA.out.put (v := vv 4) FT2.ext (by decide) (Ext.rf _) ⟨fun h => absurd h (by decide), fun h => absurd h (by decide), fun _ => r4, fun h => absurd h (by decide), fun h => absurd h (by decide)⟩⟩
              · simp [Region.binds] at hpre
                obtain ⟨y, vp', e5, hf1, hf2⟩ := ((HPA.out.facts 5 (by decide) (by simp [hpre])).2.2.1 (by decide)).form
                go_simp
                exact HKk.out _ _ ⟨_, by simp [e5], HPA.out.put (v := .int .i64 y) FT2.ext (by decide) (Ext.rf _) ⟨fun h => absurd h (by decide), fun h => absurd h (by decide), fun h => absurd h (by decide), fun _ => hf1, fun h => absurd h (by decide)⟩⟩
              · simp [Region.binds] at hpre
                obtain ⟨y, vp', e5, hf1, hf2⟩ := ((HPA.out.facts 5 (by decide) (by simp [hpre])).2.2.1 (by decide)).form
                go_simp
                exact HKk.out _ _ ⟨_, by simp [e5], HPA.out.put (v := vp') FT2.ext (by decide) (Ext.rf _) ⟨fun h => absurd h (by decide), fun h => absurd h (by decide), fun h => absurd h (by decide), fun h => absurd h (by decide), fun h => absurd h (by decide)⟩⟩
              · simp [Region.binds] at hpre
                obtain ⟨y, vp', e5, hf1, hf2⟩ := ((HPA.out.facts 5 (by decide) (by simp [hpre])).2.2.1 (by decide)).form
                go_simp
                exact HKk.out _ _ ⟨_, by simp [e5], HPA.out.put (v := .bool (okV rx)) FT2.ext (by decide) (Ext.rf _) ⟨fun h => absurd h (by decide), fun h => absurd h (by decide), fun h => absurd h (by decide), fun h => absurd h (by decide), fun _ => rfl⟩⟩
              · simp [Region.binds] at hpre
                have r6 := (HPA.out.facts 6 (by decide) (by simp [hpre])).2.2.2.1 (by decide)
                go_simp
                exact HKk.out _ _ ⟨_, rfl, HPA.out.put (v := vv 6) FT2.ext (by decide) (Ext.rf _) ⟨fun h => absurd h (by decide), fun h => absurd h (by decide), fun h => absurd h (by decide), fun _ => r6, fun h => absurd h (by decide)⟩⟩
              · clear hpre
                go_simp
                exact HKk.out _ _ ⟨_, rfl, HPA.out.put (v := vv 7) FT2.ext (by decide) (Ext.rf _) ⟨fun h => absurd h (by decide), fun h => absurd h (by decide), fun h => absurd h (by decide), fun h => absurd h (by decide), fun h => absurd h (by decide)⟩⟩
              · simp [Region.binds] at hpre
                have r8 := (HPA.out.facts 8 (by decide) (by simp [hpre])).2.2.2.2 (by decide)
                go_simp
                exact HKk.out _ _ ⟨_, by simp [r8], HPA.out.put (v := .bool (okV rx)) FT2.ext (by decide) (Ext.rf _) ⟨fun h => absurd h (by decide), fun h => absurd h (by decide), fun h => absurd h (by decide), fun h => absurd h (by decide), fun _ => rfl⟩⟩
            · intro Ls a W hall hI
              obtain ⟨vv, rfl, hI⟩ := hI
              have h9 := (hI.facts 9 (by decide) (hall 9 (by decide))).2.2.2.1 (by decide)
              have h11 := (hI.facts 11 (by decide) (hall 11 (by decide))).2.2.2.2 (by decide)
              have HXF := Lib.hid (HW7.out.tr (HE8.out.tr hI.ext))
              clear hI hall
              generalize vv 9 = v9 at *
              generalize vv 11 = v11 at *
              subst h11
              cases rx with
              | inl p =>
                obtain ⟨y, rfl⟩ := h9
                rw [show okV (.inl p) = false from rfl]
                go_wp2
                go_ret2
                unfold TypeR
                rw [if_neg (by rw [HPB.out]; simp), if_pos ⟨HRR1.out, HQ1.out, HQ2.out⟩]
                refine ⟨⟨l1, l2, HO1.out.mem, HO1.out.sorted, HO2.out.mem, HO2.out.sorted, ?_⟩, HXF.out⟩
                rw [HRX.out]
                rfl
              | inr y =>
                have h9 : v9 = .int .i64 y := h9
                subst h9
                rw [show okV (.inr y) = true from rfl]
                go_wp2
                go_ret2
                unfold TypeR
                rw [if_neg (by rw [HPB.out]; simp), if_pos ⟨HRR1.out, HQ1.out, HQ2.out⟩]
                refine ⟨⟨l1, l2, HO1.out.mem, HO1.out.sorted, HO2.out.mem, HO2.out.sorted, ?_⟩, HXF.out⟩
                rw [HRX.out]
                rfl
end Go.Proofs.YtogmjgccopmplaaGreat

/- What a valid program's sizes are. -/
namespace Go.Proofs.YtogmjgccopmplaaGreat
open Go.RowKit
theorem prog_decls {P : Pg} (h : progB P = true) : validB P.decls = true ∧ srcB P.decls = true := by
  unfold progB at h
  simp only [Bool.and_eq_true] at h
  exact h.1.1.1
theorem prog_funs {P : Pg} (h : progB P = true) : P.funs.length ≤ 12 ∧ ∀ f ∈ P.funs, f.ps.length ≤ 6 := by
  unfold progB at h
  simp only [Bool.and_eq_true, decide_eq_true_eq, List.all_eq_true] at h
  refine ⟨h.1.1.2.1.2, fun f hf => ?_⟩
  have := h.2 f hf
  unfold funB at this
  simp only [Bool.and_eq_true, decide_eq_true_eq] at this
  exact this.1.1.1
theorem okDs_one {t : Nat} : ∀ {l : List Decl} {S : List ByteArray}, okDs t S l = true → ∀ d ∈ l, 1 ≤ d.xtors.length
  | [], _, _, d, hd => by simp at hd
  | e :: r, S, h, d, hd => by
    have h2 : (okD t S e && okDs t (addD S e) r) = true := h
    rw [Bool.and_eq_true] at h2
    rcases List.mem_cons.1 hd with rfl | hd
    · have h3 := h2.1
      unfold okD at h3
      simp only [Bool.and_eq_true, decide_eq_true_eq] at h3
      omega
    · exact okDs_one h2.2 d hd
theorem PB.of {P : Pg} (h : progB P = true) : PB P := by
  have hv := (prog_decls h).1
  have hf := Fine.of hv
  refine ⟨by have := hf.few; omega, by have := (prog_funs h).1; omega, fun u d hd => ⟨?_, ?_⟩⟩
  · have := hf.xtors d (List.mem_of_getElem? hd); omega
  · unfold validB at hv
    rw [Bool.and_eq_true] at hv
    exact okDs_one hv.2 d (List.mem_of_getElem? hd)
/-- The result of an observation. -/
theorem res_last {P : Pg} (h : progB P = true) {u n : Nat} {d : Decl} {x : Xtor} (hd : P.decls[u]? = some d) (hx : d.xtors[n]? = some x) (hc : d.codata = true) : (resI P.decls ((u : Int) + 1) n).1 = lastT x := by
  obtain ⟨hv, hs⟩ := prog_decls h
  obtain ⟨hu, rfl⟩ := List.getElem?_eq_some_iff.1 hd
  obtain ⟨hn, rfl⟩ := List.getElem?_eq_some_iff.1 hx
  unfold srcB at hs
  rw [List.all_eq_true] at hs
  have h1 := hs _ (List.getElem_mem hu)
  unfold srcD at h1
  rw [List.all_eq_true] at h1
  have h2 := h1 _ (List.getElem_mem hn)
  unfold srcX at h2
  rw [if_pos hc] at h2
  rw [resI_end hv hu hn hc h2, lastT_eq]
theorem fits_few {P : Pg} (h : progB P = true) {t : Tm} (hf : fitsT P t = true) : t.args.length + t.cls.length ≤ 1000000 := by
  have hfi := Fine.of (prog_decls h).1
  have hxt : ∀ ty : Int, (declAt P ty).xtors.length ≤ 6 := fun ty => by
    unfold declAt
    by_cases hu : (ty - 1).toNat < P.decls.length
    · rw [List.getD_eq_getElem?_getD, List.getElem?_eq_getElem hu]
      exact hfi.xtors _ (List.getElem_mem hu)
    · rw [List.getD_eq_getElem?_getD, List.getElem?_eq_none (by omega)]
      exact Nat.zero_le _
  have hxa : ∀ (ty : Int) (n : Nat), ((declAt P ty).xtors.getD n noXtor).args.length ≤ 6 := fun ty n => by
    rw [List.getD_eq_getElem?_getD]
    cases hq : (declAt P ty).xtors[n]? with
    | none => exact Nat.zero_le _
    | some x =>
      have hm := List.mem_of_getElem? hq
      unfold declAt at hm
      by_cases hu : (ty - 1).toNat < P.decls.length
      · rw [List.getD_eq_getElem?_getD, List.getElem?_eq_getElem hu] at hm
        exact hfi.args _ (List.getElem_mem hu) x hm
      · rw [List.getD_eq_getElem?_getD, List.getElem?_eq_none (by omega)] at hm
        cases hm
  have hfp : ∀ n : Nat, (P.funs.getD n noFn).ps.length ≤ 6 := fun n => by
    rw [List.getD_eq_getElem?_getD]
    cases hq : P.funs[n]? with
    | none => exact Nat.zero_le _
    | some f => exact (prog_funs h).2 f (List.mem_of_getElem? hq)
  obtain ⟨o, ho, ho2⟩ := fits_op hf
  unfold fitsT at hf
  rw [ho] at hf
  match o, ho2 with
  | 0, _ => simp at hf; have := hasF_len hf; omega
  | 1, _ => simp at hf; have := hasF_len hf; omega
  | 2, _ => simp at hf; have := hasF_len hf.1.1; omega
  | 3, _ => simp at hf; have := hasF_len hf; omega
  | 4, _ =>
    simp at hf
    have h := hf.2
    unfold fitsXB at h
    simp only [Bool.and_eq_true] at h
    have := hasF_len h.2; have := hxa t.ty t.n.toNat; omega
  | 5, _ =>
    simp at hf
    have h := hf.2
    unfold fitsCB at h
    simp only [Bool.and_eq_true] at h
    have := hasF_len h.1; have := hxt t.ty; omega
  | 6, _ =>
    simp at hf
    have h := hf.2
    unfold fitsXB at h
    simp only [Bool.and_eq_true] at h
    have := hasF_len h.2; have := hxa t.ty t.n.toNat; omega
  | 7, _ =>
    simp at hf
    have h := hf.2
    unfold fitsCB at h
    simp only [Bool.and_eq_true] at h
    have := hasF_len h.1; have := hxt t.ty; omega
  | 8, _ => simp at hf; have := hasF_len hf.1; omega
  | 9, _ => simp at hf; have := hasF_len hf.2; have := hfp t.n.toNat; rw [List.getD_eq_getElem?_getD] at this; omega
  | 10, _ => simp at hf; have := hasF_len hf; omega
  | 11, _ => simp at hf; have := hasF_len hf.1; omega
  | 12, _ => simp at hf; have := hasF_len hf.1; omega
end Go.Proofs.YtogmjgccopmplaaGreat

/- newChecker's contract for a valid program; Check, Fault, Type without conditions on the checker. -/
namespace Go.Proofs.YtogmjgccopmplaaGreat
open Go.RowKit
theorem newOK (P : Pg) : NewOK P := fun h vd vf w hd hf =>
  newChecker_any P vd vf w hd hf (PB.of h).dl (by have := (prog_funs h).1; omega) (fun f hf => by have := (prog_funs h).2 f hf; omega)
    (fun u n d x hd hx hc => res_last h hd hx hc)
    (fun u d hd => by
      have hfi := Fine.of (prog_decls h).1
      have hm := List.mem_of_getElem? hd
      exact ⟨by have := hfi.xtors d hm; omega, fun x hx => by have := hfi.args d hm x hx; omega⟩)
theorem Fault_any (P : Pg) (vd vf : Value) (w : World) (hd : RDecls w vd P.decls) (hf : RFns w vf P.funs) (hfine : FinePg P) :
    Calls Tryz.prog 10 #[pV vd vf] w fun e w' => (if progB P = true then FaultR P w.heap.size w' (faultF P 0 P.funs) e else e = .returned (.tuple #[.int .i64 0, .slice none 0 0, .bool false, .int .i64 20])) ∧ Ext w w' :=
  Fault_of P (fun h => PB.of h) (fun h t ht => fits_few h ht) (newOK P) vd vf w hd hf hfine
theorem Checkc_any (P : Pg) (vd vf : Value) (w : World) (hd : RDecls w vd P.decls) (hf : RFns w vf P.funs) (hfine : FinePg P) :
    Calls Tryz.prog 9 #[pV vd vf] w fun e w' => e = .returned (.int .i64 (checkR P)) ∧ Ext w w' :=
  CheckC_of P (fun h => PB.of h) (fun h t ht => fits_few h ht) (newOK P) vd vf w hd hf hfine
theorem Typec_any (P : Pg) (vd vf v1 v2 : Value) (vs ls : List Prm) (k : Nat) (t : Tm) (va vc : Value) (w : World) (hd : RDecls w vd P.decls) (hf : RFns w vf P.funs) (hfine : FinePg P)
    (h1 : RPrms w v1 vs) (h2 : RPrms w v2 ls) (hl1 : vs.length ≤ 2200000) (hl2 : ls.length ≤ 2200000) (ht : RT w k t va vc) (hft : FineT t) (hw : vs.length + ls.length + wT t ≤ maxLen) (hu : uT t ≤ 1000000000) :
    Calls Tryz.prog 15 #[pV vd vf, v1, v2, tV t va vc] w fun e w' => TypeR P vs ls t e ∧ Ext w w' :=
  TypeC_of P (fun h => PB.of h) (fun h t ht => fits_few h ht) (newOK P) vd vf v1 v2 vs ls k t va vc w hd hf hfine h1 h2 hl1 hl2 ht hft hw hu
end Go.Proofs.YtogmjgccopmplaaGreat

/- The reference of layer 4: find. -/
namespace Go.Proofs.YtogmjgccopmplaaGreat
open Go.RowKit
def refFindL (l : List Prm) (s : Str) : Int := (findE (linkL l) s).getD (-1)
theorem refFindL_step {l : List Prm} {s : Str} {j : Nat} (h : j < l.length) : refFindL (l.take (j + 1)) s = if (l[j]).nm.toList == s.toList then (l[j]).ty else refFindL (l.take j) s := by
  unfold refFindL
  rw [linkL_step h, findE]
  cases hq : ((l[j]).nm.toList == s.toList) <;> rfl
set_option maxHeartbeats 2000000 in
set_option maxRecDepth 100000 in
theorem refFind_any (v : Value) (l : List Prm) (s : Str) (w : World) (h : RPrms w v l) :
    Calls Tryz.prog 102 #[v, .string s] w fun e w' => e = .returned (.int .i64 (refFindL l s)) ∧ Ext w w' := by
  have H := Lib.hid h
  obtain ⟨A, c, rfl, hc, hm⟩ := h.form
  clear h
  unfold maxLen at hm
  obtain ⟨rr, hrr⟩ : ∃ r, refFindL l s = r := ⟨_, rfl⟩
  have HRR := Lib.hid hrr
  rw [hrr]
  clear hrr
  go_enter Tryz.func102, Tryz.ntmps102
  go_wp2
  go_loopw [5] (fun i wr => ∃ k : Nat, k ≤ l.length ∧ i = .int .i64 ((k : Int) - 1) ∧ rr = refFindL (l.take k) s ∧ Ext w wr) (fun i _ => (intOf i + 1).toNat)
  case atStart => exact ⟨l.length, Nat.le_refl _, rfl, by rw [List.take_length]; exact HRR.out.symm, Ext.rf _⟩
  case round =>
    obtain ⟨k, hk, rfl, hr, hb⟩ := hrel
    have HR := Lib.hid hr; have HX := Lib.hid hb
    clear hr hb
    cases k with
    | zero =>
      have hrv : rr = -1 := HR.out
      subst hrv
      go_wp2
      go_ret
      exact ⟨rfl, HX.out⟩
    | succ j =>
      have hlt : j < l.length := by omega
      have e1 : (((j + 1 : Nat) : Int) - 1) = j := by omega
      rw [e1]
      obtain ⟨b, o, rfl, hbl, y0, y1, -⟩ := H.out.at_ hlt
      have y0 := HX.out.keep y0
      have y1 := HX.out.keep y1
      have HST := Lib.hid (refFindL_step (s := s) hlt)
      generalize l[j] = a at *
      cases hq : (a.nm.toList == s.toList)
      · have HQ := Lib.hid hq
        go_wp2
        exact ⟨⟨j, by omega, by go_num, by rw [HR.out, HST.out, HQ.out]; rfl, HX.out⟩, by simp [intOf]⟩
      · have HQ := Lib.hid hq
        have hrv : rr = a.ty := by rw [HR.out, HST.out, HQ.out]; rfl
        subst hrv
        go_wp2
        go_ret
        exact ⟨rfl, HX.out⟩
end Go.Proofs.YtogmjgccopmplaaGreat

/- The reference of layer 4: all. -/
namespace Go.Proofs.YtogmjgccopmplaaGreat
open Go.RowKit
set_option maxHeartbeats 2000000 in
set_option maxRecDepth 100000 in
theorem refAll_any (v1 v2 : Value) (l1 l2 : List Int) (w : World) (h1 : RInts w v1 l1) (h2 : RInts w v2 l2) :
    Calls Tryz.prog 103 #[v1, v2] w fun e w' => e = .returned (.bool (eqL l1 l2)) ∧ Ext w w' := by
  have H1 := Lib.hid h1; have H2 := Lib.hid h2
  clear h1 h2
  go_enter Tryz.func103, Tryz.ntmps103
  go_wp2_with fail
  (with_reducible refine (same_ints_any _ _ l1 l2 _ H1.out H2.out).mono ?_)
  rintro e w2 ⟨rfl, hb⟩
  have HX := Lib.hid hb
  clear hb
  go_wp2
  go_ret
  exact ⟨rfl, HX.out⟩
end Go.Proofs.YtogmjgccopmplaaGreat

/- ref.go: Copy of terms. -/
namespace Go.Proofs.YtogmjgccopmplaaGreat
open Go.RowKit
def OkT (k : Nat) (w : World) (x : Trm) : Prop := RT w k x.1 x.2.1 x.2.2
def OkC' (k : Nat) (w : World) (x : Trc) : Prop := OkC w k x
def FA (n2 : Nat) (s ux : Value) (x : Tm) (B k : Nat) (W : World) : Nat → Value → Prop
  | 0, v => v = .pointer (some ⟨n2, 4, none⟩)
  | 1, v => v = s
  | 2, v => v = ux
  | 3, v => ∃ ya yc, v = tV x ya yc ∧ RT (mask B none W) k x ya yc
  | 4, v => ∃ ya yc g, v = .slice (some ⟨g, 0, none⟩) 1 1 ∧ W.heap[g]? = some (.cells #[.int .i64 x.op, .int .i64 x.n, .string x.nm, .int .i64 x.ty, ya, yc] 41 (0, 0)) ∧ RT (mask B none W) k x ya yc
  | _, _ => True
theorem FA.ext {n2 : Nat} {s ux : Value} {x : Tm} {B k : Nat} (W W' : World) (j : Nat) (v : Value) (h : FA n2 s ux x B k W j v) (hb : Ext W W') : FA n2 s ux x B k W' j v := by
  match j, h with
  | 0, h => exact h
  | 1, h => exact h
  | 2, h => exact h
  | 3, ⟨ya, yc, h1, h2⟩ => exact ⟨ya, yc, h1, RT.sub (mask_ext hb) h2⟩
  | 4, ⟨ya, yc, g, h1, h2, h3⟩ => exact ⟨ya, yc, g, h1, (hb.block _ (heap_lt h2)).trans h2, RT.sub (mask_ext hb) h3⟩
  | _ + 5, _ => exact trivial
def FC (n2 n7 : Nat) (s un ux : Value) (ns : List Str) (x : Tm) (B k : Nat) (W : World) : Nat → Value → Prop
  | 0, v => v = .pointer (some ⟨n2, 5, none⟩)
  | 1, v => v = s
  | 2, v => v = .pointer (some ⟨n7, 0, none⟩)
  | 3, v => v = un
  | 4, v => RStrs (mask B none W) v ns
  | 5, v => v = .pointer (some ⟨n7, 1, none⟩)
  | 6, v => v = ux
  | 7, v => ∃ ya yc, v = tV x ya yc ∧ RT (mask B none W) k x ya yc
  | 8, v => ∃ vn ya yc, v = .agg #[vn, .int .i64 x.op, .int .i64 x.n, .string x.nm, .int .i64 x.ty, ya, yc] ∧ OkC (mask B none W) k ((ns, x), vn, ya, yc)
  | 9, v => ∃ vn ya yc g, v = .slice (some ⟨g, 0, none⟩) 1 1 ∧ W.heap[g]? = some (.cells #[vn, .int .i64 x.op, .int .i64 x.n, .string x.nm, .int .i64 x.ty, ya, yc] 92 (0, 0)) ∧ OkC (mask B none W) k ((ns, x), vn, ya, yc)
  | _, _ => True
theorem FC.ext {n2 n7 : Nat} {s un ux : Value} {ns : List Str} {x : Tm} {B k : Nat} (W W' : World) (j : Nat) (v : Value) (h : FC n2 n7 s un ux ns x B k W j v) (hb : Ext W W') : FC n2 n7 s un ux ns x B k W' j v := by
  match j, h with
  | 0, h => exact h
  | 1, h => exact h
  | 2, h => exact h
  | 3, h => exact h
  | 4, h => exact RStrs.sub h (mask_ext hb)
  | 5, h => exact h
  | 6, h => exact h
  | 7, ⟨ya, yc, h1, h2⟩ => exact ⟨ya, yc, h1, RT.sub (mask_ext hb) h2⟩
  | 8, ⟨vn, ya, yc, h1, h2⟩ => exact ⟨vn, ya, yc, h1, h2.sub (mask_ext hb)⟩
  | 9, ⟨vn, ya, yc, g, h1, h2, h3⟩ => exact ⟨vn, ya, yc, g, h1, (hb.block _ (heap_lt h2)).trans h2, h3.sub (mask_ext hb)⟩
  | _ + 10, _ => exact trivial
end Go.Proofs.YtogmjgccopmplaaGreat
