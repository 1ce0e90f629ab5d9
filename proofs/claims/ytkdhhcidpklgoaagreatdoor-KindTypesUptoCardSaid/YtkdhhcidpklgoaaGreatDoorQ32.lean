/- ref07: Type at a variable and at an integer. -/
import Derived.Test.YtkdhhcidpklgoaaGreatDoorQ31
import Derived.RegionTactic
namespace Go.Proofs.YtkdhhcidpklgoaaGreatDoor
open Go.RowKit Go.Shelf Go.Maps
attribute [local go_sem] Oper.semAt_some

section
variable {C : Cg} {vd vf : Value} {wA : World} {p mx ma : Nat}
/-- What Type does at a node, its operator written out. -/
def TyO (C : Cg) (vd vf : Value) (wA : World) (p mx ma : Nat) (op n ty : Int) (args : List Nd) (brs : List Br) (va vb : Value) : Prop :=
  ∀ (w : World) (n0 : Nat) (E : Ev) (S : Sc), Ext wA w → RS w p mx ma n0 (lastE E) → sortN C S (.mk op n ty args brs) ≠ 3 → n0 + 2 * bndN (.mk op n ty args brs) ≤ 1000000000 →
    Calls Tryz.prog 15 #[.pointer (some ⟨p, 0, none⟩), cV vd vf, .agg #[.int .i64 op, .int .i64 n, .int .i64 ty, va, vb]] w fun e w' => e = .returned (.tuple #[.int .i64 (uR E op n ty (typN C E (.mk op n ty args brs)).isSome), .bool (typN C E (.mk op n ty args brs)).isSome]) ∧ RS w' p mx ma (n0 + 2 * bndN (.mk op n ty args brs)) (lastE E) ∧ TrC mx ma w w'
theorem leaf_typ {E : Ev} {S : Sc} {op n ty : Int} {args : List Nd} {brs : List Br} (hs : sortN C S (.mk op n ty args brs) ≠ 3) (hl : leafB op = true) : typN C E (.mk op n ty args brs) = some (ownT E op n ty) := by
  obtain ⟨h1, h2⟩ := leaf_lists hs hl
  have h1 : args = [] := h1
  have h2 : brs = [] := h2
  rw [typN_eq, h1, h2]; rfl
set_option maxHeartbeats 4000000 in
set_option maxRecDepth 100000 in
theorem ty7_0 (n ty : Int) (args : List Nd) (brs : List Br) (va vb : Value) (hC : RCg wA vd vf C) (hk : ok64 n) : TyO C vd vf wA p mx ma 0 n ty args brs va vb := by
  intro w n0 E S hx hr hs hn
  rw [leaf_typ hs rfl]
  obtain ⟨Ad, cd, rfl, -, -⟩ := hC.d.form
  obtain ⟨Af, cf, rfl, -, -⟩ := hC.f.form
  have HU : Hid (uR E 0 n ty (some (ownT E 0 n ty)).isSome = lastE E (0, n)) := rfl
  generalize uR E 0 n ty (some (ownT E 0 n ty)).isSome = u at *
  have HX2 := Lib.hid (Ext.al2 w (.cells #[.slice Ad C.decls.length cd, .slice Af C.funs.length cf] 25) (.cells #[.int .i64 0, .int .i64 n, .int .i64 ty, va, vb] 36))
  have hB2 := heapNew2 w (.cells #[.slice Ad C.decls.length cd, .slice Af C.funs.length cf] 25) (.cells #[.int .i64 0, .int .i64 n, .int .i64 ty, va, vb] 36)
  have hr2 := hr.ext HX2.out
  have HR2 := Lib.hid hr2
  go_enter Tryz.func15, Tryz.ntmps15
  go_wp2_with fail
  generalize (w.alloc _).alloc _ = w2 at *
  have hb := hr2.box
  have p0 := cellAt hb 0
  have p1 := cellAt hb 1
  have n0' := cellAt hB2 0
  have n1' := cellAt hB2 1
  have hlk := hr2.lookx hk
  have hlk2 := (hr2.ext (Ext.rf _).drew).lookx hk
  clear hr hr2 hb hB2 hx hs hn hC
  go_wp2
  all_goals (try (go_region; all_goals go_wp2))
  all_goals
    refine bodyPost_ret (results_tmp2 rfl _ _ _) rfl ?_
    first | exact ⟨by rw [HU.out]; rfl, (HR2.out.ext (Ext.rf _)).mono (Nat.le_add_right _ _), TrC.ext (HX2.out.tr (Ext.rf _))⟩ | exact ⟨by rw [HU.out]; rfl, (HR2.out.ext (Ext.rf _).drew).mono (Nat.le_add_right _ _), TrC.ext (HX2.out.tr (Ext.rf _).drew)⟩ | exact ⟨by rw [HU.out]; rfl, (HR2.out.ext ((Ext.rf _).drewN _)).mono (Nat.le_add_right _ _), TrC.ext (HX2.out.tr ((Ext.rf _).drewN _))⟩
set_option maxHeartbeats 4000000 in
set_option maxRecDepth 100000 in
theorem ty7_5 (n ty : Int) (args : List Nd) (brs : List Br) (va vb : Value) (hC : RCg wA vd vf C) (hk : ok64 n) : TyO C vd vf wA p mx ma 5 n ty args brs va vb := by
  intro w n0 E S hx hr hs hn
  rw [leaf_typ hs rfl]
  obtain ⟨Ad, cd, rfl, -, -⟩ := hC.d.form
  obtain ⟨Af, cf, rfl, -, -⟩ := hC.f.form
  have HU : Hid (uR E 5 n ty (some (ownT E 5 n ty)).isSome = lastE E (1, n)) := rfl
  generalize uR E 5 n ty (some (ownT E 5 n ty)).isSome = u at *
  have HX2 := Lib.hid (Ext.al2 w (.cells #[.slice Ad C.decls.length cd, .slice Af C.funs.length cf] 25) (.cells #[.int .i64 5, .int .i64 n, .int .i64 ty, va, vb] 36))
  have hB2 := heapNew2 w (.cells #[.slice Ad C.decls.length cd, .slice Af C.funs.length cf] 25) (.cells #[.int .i64 5, .int .i64 n, .int .i64 ty, va, vb] 36)
  have hr2 := hr.ext HX2.out
  have HR2 := Lib.hid hr2
  go_enter Tryz.func15, Tryz.ntmps15
  go_wp2_with fail
  generalize (w.alloc _).alloc _ = w2 at *
  have hb := hr2.box
  have p0 := cellAt hb 0
  have p1 := cellAt hb 1
  have n0' := cellAt hB2 0
  have n1' := cellAt hB2 1
  have hlk := hr2.looka hk
  have hlk2 := (hr2.ext (Ext.rf _).drew).looka hk
  clear hr hr2 hb hB2 hx hs hn hC
  go_wp2
  all_goals (try (go_region; all_goals go_wp2))
  all_goals
    refine bodyPost_ret (results_tmp2 rfl _ _ _) rfl ?_
    first | exact ⟨by rw [HU.out]; rfl, (HR2.out.ext (Ext.rf _)).mono (Nat.le_add_right _ _), TrC.ext (HX2.out.tr (Ext.rf _))⟩ | exact ⟨by rw [HU.out]; rfl, (HR2.out.ext (Ext.rf _).drew).mono (Nat.le_add_right _ _), TrC.ext (HX2.out.tr (Ext.rf _).drew)⟩ | exact ⟨by rw [HU.out]; rfl, (HR2.out.ext ((Ext.rf _).drewN _)).mono (Nat.le_add_right _ _), TrC.ext (HX2.out.tr ((Ext.rf _).drewN _))⟩
set_option maxHeartbeats 4000000 in
set_option maxRecDepth 100000 in
theorem ty7_1 (n ty : Int) (args : List Nd) (brs : List Br) (va vb : Value) (hC : RCg wA vd vf C) (hk : ok64 n) : TyO C vd vf wA p mx ma 1 n ty args brs va vb := by
  intro w n0 E S hx hr hs hn
  rw [leaf_typ hs rfl]
  obtain ⟨Ad, cd, rfl, -, -⟩ := hC.d.form
  obtain ⟨Af, cf, rfl, -, -⟩ := hC.f.form
  have HU : Hid (uR E 1 n ty (some (ownT E 1 n ty)).isSome = 0) := rfl
  generalize uR E 1 n ty (some (ownT E 1 n ty)).isSome = u at *
  have HX2 := Lib.hid (Ext.al2 w (.cells #[.slice Ad C.decls.length cd, .slice Af C.funs.length cf] 25) (.cells #[.int .i64 1, .int .i64 n, .int .i64 ty, va, vb] 36))
  have hB2 := heapNew2 w (.cells #[.slice Ad C.decls.length cd, .slice Af C.funs.length cf] 25) (.cells #[.int .i64 1, .int .i64 n, .int .i64 ty, va, vb] 36)
  have hr2 := hr.ext HX2.out
  have HR2 := Lib.hid hr2
  go_enter Tryz.func15, Tryz.ntmps15
  go_wp2_with fail
  generalize (w.alloc _).alloc _ = w2 at *
  have hb := hr2.box
  have p0 := cellAt hb 0
  have p1 := cellAt hb 1
  have n0' := cellAt hB2 0
  have n1' := cellAt hB2 1
  clear hr hr2 hb hB2 hx hs hn hC
  go_wp2
  all_goals (try (go_region; all_goals go_wp2))
  all_goals
    refine bodyPost_ret (results_tmp2 rfl _ _ _) rfl ?_
    first | exact ⟨by rw [HU.out]; rfl, (HR2.out.ext (Ext.rf _)).mono (Nat.le_add_right _ _), TrC.ext (HX2.out.tr (Ext.rf _))⟩ | exact ⟨by rw [HU.out]; rfl, (HR2.out.ext (Ext.rf _).drew).mono (Nat.le_add_right _ _), TrC.ext (HX2.out.tr (Ext.rf _).drew)⟩ | exact ⟨by rw [HU.out]; rfl, (HR2.out.ext ((Ext.rf _).drewN _)).mono (Nat.le_add_right _ _), TrC.ext (HX2.out.tr ((Ext.rf _).drewN _))⟩
end
end Go.Proofs.YtkdhhcidpklgoaaGreatDoor

/- ref07: Type at an xtor and at a call. -/
namespace Go.Proofs.YtkdhhcidpklgoaaGreatDoor
open Go.RowKit Go.Shelf Go.Maps
attribute [local go_sem] Oper.semAt_some

section
variable {C : Cg} {vd vf : Value} {wA : World} {p mx ma : Nat}
theorem no_brs {S : Sc} {op n ty : Int} {args : List Nd} {brs : List Br} (hs : sortN C S (.mk op n ty args brs) ≠ 3) (hu : usesB op = false) : brs = [] := by
  have h := (sort_parts hs).1.bl
  have h : brs.length = (if usesB op then xtorsC C ty else []).length := h
  rw [hu] at h
  exact List.eq_nil_of_length_eq_zero h
theorem no_brs_typ {E : Ev} {S : Sc} {op n ty : Int} {args : List Nd} {brs : List Br} (hs : sortN C S (.mk op n ty args brs) ≠ 3) (hu : usesB op = false) : typN C E (.mk op n ty args brs) = if typA C (pushE E (muV op n) [ty]) op n ty 0 args then some (ownT E op n ty) else none := by
  rw [typN_eq]
  have := no_brs hs hu
  subst this
  show (if (typA C (pushE E (muV op n) [ty]) op n ty 0 args && typB C E ty 0 []) = true then some (ownT E op n ty) else none) = _
  rw [typB, Bool.and_true]
theorem if_some {q : Bool} {a : Int} : (if q then some a else none).isSome = q := by cases q <;> rfl
theorem app_typ {E : Ev} {S : Sc} {op n ty : Int} {args : List Nd} {brs : List Br} (hs : sortN C S (.mk op n ty args brs) ≠ 3) (h : op = 2 ∨ op = 6 ∨ op = 13) : (typN C E (.mk op n ty args brs)).isSome = typA C E op n ty 0 args := by
  have hu : usesB op = false := by rcases h with rfl | rfl | rfl <;> rfl
  have hm : muV op n = [] := by rcases h with rfl | rfl | rfl <;> rfl
  rw [no_brs_typ hs hu, if_some, hm, pushE_nil]
theorem bndN_args (op n ty : Int) (args : List Nd) (brs : List Br) : bndA args ≤ bndN (.mk op n ty args brs) := by
  have h : bndN (.mk op n ty args brs) = 1 + (bndA args + bndB brs) := bndN_eq _
  omega
theorem idxC_nat {i : Int} {k : Nat} (h : isIdxC i k = true) : ∃ u : Nat, i = u ∧ u < k := by
  unfold isIdxC at h
  simp only [Bool.and_eq_true, decide_eq_true_eq] at h
  exact ⟨i.toNat, by omega, by omega⟩
set_option maxHeartbeats 8000000 in
set_option maxRecDepth 100000 in
theorem ty7_2 (n ty : Int) (args : List Nd) (brs : List Br) (va vb : Value) (hC : RCg wA vd vf C) (hS : ShC C) (ht : ∃ k, RNd wA k (.mk 2 n ty args brs) va vb) (hA : ArS C vd vf wA p mx ma (.mk 2 n ty args brs) va vb) : TyO C vd vf wA p mx ma 2 n ty args brs va vb := by
  intro w n0 E S hx hr hs hn
  have hdl := hS.dl
  have hfl := hS.fl
  have hxl := hS.xtors ty
  obtain ⟨k, ht⟩ := ht
  obtain ⟨Ad, cd, rfl, -, -⟩ := hC.d.form
  obtain ⟨Af, cf, rfl, -, -⟩ := hC.f.form
  obtain ⟨A, ca, rfl, -, -⟩ : ∃ A ca, va = .slice A args.length ca ∧ _ := ht.form.2.1
  obtain ⟨B, d, rfl, -, -⟩ : ∃ B d, vb = .slice B brs.length d ∧ _ := ht.form.2.2
  have HX2 := Lib.hid (Ext.al2 w (.cells #[.slice Ad C.decls.length cd, .slice Af C.funs.length cf] 25) (.cells #[.int .i64 2, .int .i64 n, .int .i64 ty, .slice A args.length ca, .slice B brs.length d] 36))
  have hrf : (declsC C ty false && isIdxC n (xtorsC C ty).length) = true := (sort_parts hs).1.rf
  rw [Bool.and_eq_true] at hrf
  obtain ⟨ht1, ht2⟩ := decls_bnd hrf.1
  obtain ⟨i, rfl, hil⟩ := idxC_nat hrf.2
  have hxi : (xtorsC C ty)[i]? = some (xtorsC C ty)[i] := List.getElem?_eq_getElem hil
  obtain ⟨u, bd, od, bx, ox, cx0, vaa, e1, hu1, rfl, d1, hc1, hc2, d2, d3⟩ := xtor_cells hC.d ht1 ht2 hxi
  have hhd : hdArgs C 2 (i : Nat) ty = ((xtorsC C ty)[i]).args := by
    unfold hdArgs
    rw [if_pos (by decide), List.getD_eq_getElem?_getD, Int.toNat_natCast, hxi]; rfl
  rw [← hhd] at d3
  obtain ⟨Aa, caa, rfl, -, -⟩ := d3.form
  have HD := Lib.hid d3
  have d1 := (hx.tr HX2.out).keep d1
  have d2 := (hx.tr HX2.out).keep d2
  unfold maxLen at hc2
  have hii : (i : Int) < (xtorsC C ty).length := by omega
  have hi0 : (0 : Int) ≤ i := by omega
  have hju : (u : Int) < C.decls.length := by omega
  have hu0 : (0 : Int) ≤ u := by omega
  have hw1 : IntKind.wrap .i64 (ty - 1) = (u : Int) := by rw [e1]; exact IntWalk.i64_in _ (by omega)
  have hw2 : IntKind.wrap .i64 (u : Int) = (u : Int) := IntWalk.i64_in _ (by omega)
  clear d3 hhd hrf hxi
  rw [app_typ hs (by decide)]
  have HB1 : Hid (((w.alloc (.cells #[.slice (some ⟨bd, od, none⟩) C.decls.length cd, .slice Af C.funs.length cf] 25)).alloc (.cells #[.int .i64 2, .int .i64 (i : Nat), .int .i64 ty, .slice A args.length ca, .slice B brs.length d] 36)).heap[w.heap.size]? = some (.cells #[.slice (some ⟨bd, od, none⟩) C.decls.length cd, .slice Af C.funs.length cf] 25 (0, 0))) := Ext.lt (Ext.al _ _) (heapNew w _)
  have HB2 := Lib.hid (heapNew2 w (.cells #[.slice (some ⟨bd, od, none⟩) C.decls.length cd, .slice Af C.funs.length cf] 25) (.cells #[.int .i64 2, .int .i64 (i : Nat), .int .i64 ty, .slice A args.length ca, .slice B brs.length d] 36))
  have hba := bndN_args 2 (i : Nat) ty args brs
  obtain ⟨q, hq⟩ : ∃ q, typA C E 2 (i : Nat) ty 0 args = q := ⟨_, rfl⟩
  have HU : Hid (uR E 2 (i : Nat) ty q = ty) := rfl
  have HAR : Hid (∀ W, Ext wA W → RS W p mx ma n0 (lastE E) → Calls Tryz.prog 39 #[.pointer (some ⟨p, 0, none⟩), cV (.slice (some ⟨bd, od, none⟩) C.decls.length cd) (.slice Af C.funs.length cf), .agg #[.int .i64 2, .int .i64 (i : Nat), .int .i64 ty, .slice A args.length ca, .slice B brs.length d], .slice Aa (hdArgs C 2 (i : Nat) ty).length caa] W fun e w' => e = .returned (.bool q) ∧ RS w' p mx ma (n0 + 2 * bndN (.mk 2 (i : Nat) ty args brs)) (lastE E) ∧ TrC mx ma W w') := fun W hW h => by
    rw [← hq]
    refine (hA W n0 E S _ (show ((2 : Int) = 2 ∨ (2 : Int) = 6 ∨ (2 : Int) = 13) by decide) hW h hs (by show n0 + 2 * bndA args ≤ _; omega) HD.out).mono ?_
    rintro e w' ⟨rfl, h1, h2⟩
    have h1 : RS w' p mx ma (n0 + 2 * bndA args) (lastE E) := h1
    exact ⟨rfl, h1.mono (by omega), h2⟩
  rw [hq]
  generalize uR E 2 (i : Nat) ty q = u9 at *
  generalize n0 + 2 * bndN (.mk 2 (i : Nat) ty args brs) = M at *
  have HX := Lib.hid hx; have HR := Lib.hid hr
  clear hA hx hr hs hn ht hq hC hS
  go_enter Tryz.func15, Tryz.ntmps15
  go_wp2_with fail
  generalize (w.alloc _).alloc _ = w2 at *
  have hr2 := HR.out.ext HX2.out
  have HR2 := Lib.hid hr2
  have HX22 : Hid (Ext wA w2) := HX.out.tr HX2.out
  have HCX : Hid (∀ W, Ext w2 W → W.cell? ⟨w.heap.size, 0, none⟩ = some (.slice (some ⟨bd, od, none⟩) C.decls.length cd) ∧ W.cell? ⟨w.heap.size, 1, none⟩ = some (.slice Af C.funs.length cf) ∧ W.cell? ⟨w.heap.size + 1, 0, none⟩ = some (.int .i64 2) ∧ W.cell? ⟨w.heap.size + 1, 1, none⟩ = some (.int .i64 (i : Nat)) ∧ W.cell? ⟨w.heap.size + 1, 2, none⟩ = some (.int .i64 ty) ∧ W.cell? ⟨w.heap.size + 1, 3, none⟩ = some (.slice A args.length ca) ∧ W.cell? ⟨w.heap.size + 1, 4, none⟩ = some (.slice B brs.length d) ∧ W.cell? ⟨bd, od + u * 3 + 2, none⟩ = some (.slice (some ⟨bx, ox, none⟩) (xtorsC C ty).length cx0) ∧ W.cell? ⟨bx, ox + i * 2 + 1, none⟩ = some (.slice Aa (hdArgs C 2 (i : Nat) ty).length caa)) := fun W hW => ⟨cellAt (hW.lt HB1.out) 0, cellAt (hW.lt HB1.out) 1, cellAt (hW.lt HB2.out) 0, cellAt (hW.lt HB2.out) 1, cellAt (hW.lt HB2.out) 2, cellAt (hW.lt HB2.out) 3, cellAt (hW.lt HB2.out) 4, hW.keep d1, hW.keep d2⟩
  have HCALL : Hid (∀ W, Ext w2 W → Calls Tryz.prog 39 #[.pointer (some ⟨p, 0, none⟩), cV (.slice (some ⟨bd, od, none⟩) C.decls.length cd) (.slice Af C.funs.length cf), .agg #[.int .i64 2, .int .i64 (i : Nat), .int .i64 ty, .slice A args.length ca, .slice B brs.length d], .slice Aa (hdArgs C 2 (i : Nat) ty).length caa] W fun e w' => e = .returned (.bool q) ∧ (RS w' p mx ma M (lastE E) ∧ TrC mx ma w2 w') ∧ (w'.cell? ⟨w.heap.size, 0, none⟩ = some (.slice (some ⟨bd, od, none⟩) C.decls.length cd) ∧ w'.cell? ⟨w.heap.size, 1, none⟩ = some (.slice Af C.funs.length cf) ∧ w'.cell? ⟨w.heap.size + 1, 0, none⟩ = some (.int .i64 2) ∧ w'.cell? ⟨w.heap.size + 1, 1, none⟩ = some (.int .i64 (i : Nat)) ∧ w'.cell? ⟨w.heap.size + 1, 2, none⟩ = some (.int .i64 ty) ∧ w'.cell? ⟨w.heap.size + 1, 3, none⟩ = some (.slice A args.length ca) ∧ w'.cell? ⟨w.heap.size + 1, 4, none⟩ = some (.slice B brs.length d) ∧ w'.cell? ⟨bd, od + u * 3 + 2, none⟩ = some (.slice (some ⟨bx, ox, none⟩) (xtorsC C ty).length cx0) ∧ w'.cell? ⟨bx, ox + i * 2 + 1, none⟩ = some (.slice Aa (hdArgs C 2 (i : Nat) ty).length caa))) := fun W hW => by
    have hrW := HR2.out.ext hW
    refine (HAR.out W (HX22.out.tr hW) hrW).mono ?_
    rintro e w' ⟨rfl, h1, h2⟩
    have hc := HCX.out W hW
    exact ⟨rfl, ⟨h1, TrC.tr (TrC.ext hW) h2⟩, hrW.box' h2 hc.1, hrW.box' h2 hc.2.1, hrW.box' h2 hc.2.2.1, hrW.box' h2 hc.2.2.2.1, hrW.box' h2 hc.2.2.2.2.1, hrW.box' h2 hc.2.2.2.2.2.1, hrW.box' h2 hc.2.2.2.2.2.2.1, hrW.box' h2 hc.2.2.2.2.2.2.2.1, hrW.box' h2 hc.2.2.2.2.2.2.2.2⟩
  clear hr2 d1 d2
  obtain ⟨k0, k1, m0, m1, m2, m3, m4, d1, d2⟩ := HCX.out w2 (Ext.rf _)
  go_wp2_with fail
  go_region_held3 (fun W => W.cell? ⟨w.heap.size, 0, none⟩ = some (.slice (some ⟨bd, od, none⟩) C.decls.length cd) ∧ W.cell? ⟨w.heap.size, 1, none⟩ = some (.slice Af C.funs.length cf) ∧ W.cell? ⟨w.heap.size + 1, 0, none⟩ = some (.int .i64 2) ∧ W.cell? ⟨w.heap.size + 1, 1, none⟩ = some (.int .i64 (i : Nat)) ∧ W.cell? ⟨w.heap.size + 1, 2, none⟩ = some (.int .i64 ty) ∧ W.cell? ⟨w.heap.size + 1, 3, none⟩ = some (.slice A args.length ca) ∧ W.cell? ⟨w.heap.size + 1, 4, none⟩ = some (.slice B brs.length d) ∧ W.cell? ⟨bd, od + u * 3 + 2, none⟩ = some (.slice (some ⟨bx, ox, none⟩) (xtorsC C ty).length cx0) ∧ W.cell? ⟨bx, ox + i * 2 + 1, none⟩ = some (.slice Aa (hdArgs C 2 (i : Nat) ty).length caa))
    (first | exact HCX.out _ (Ext.rf _).drew | exact HC8.out | exact HCX.out _ (Ext.rf _) | fail "KEEP")
    (first
      | (go_at_call 39; (with_reducible refine (HCALL.out _ (by first | exact (Ext.rf _).drew | exact Ext.rf _ | fail "CALL")).mono ?_); rintro e w8 ⟨rfl, ⟨hs8, ht8⟩, hc8⟩; have HS8 := Lib.hid hs8; have HT8 := Lib.hid ht8; have HC8 := Lib.hid hc8; clear hs8 ht8 hc8)
      | fail "ARM")
  all_goals
    go_wp2
    refine bodyPost_ret (results_tmp2 rfl _ _ _) rfl ?_
    exact ⟨by rw [HU.out]; rfl, HS8.out, TrC.tr (TrC.ext HX2.out) HT8.out⟩
set_option maxHeartbeats 8000000 in
set_option maxRecDepth 100000 in
theorem ty7_6 (n ty : Int) (args : List Nd) (brs : List Br) (va vb : Value) (hC : RCg wA vd vf C) (hS : ShC C) (ht : ∃ k, RNd wA k (.mk 6 n ty args brs) va vb) (hA : ArS C vd vf wA p mx ma (.mk 6 n ty args brs) va vb) : TyO C vd vf wA p mx ma 6 n ty args brs va vb := by
  intro w n0 E S hx hr hs hn
  have hdl := hS.dl
  have hfl := hS.fl
  have hxl := hS.xtors ty
  obtain ⟨k, ht⟩ := ht
  obtain ⟨Ad, cd, rfl, -, -⟩ := hC.d.form
  obtain ⟨Af, cf, rfl, -, -⟩ := hC.f.form
  obtain ⟨A, ca, rfl, -, -⟩ : ∃ A ca, va = .slice A args.length ca ∧ _ := ht.form.2.1
  obtain ⟨B, d, rfl, -, -⟩ : ∃ B d, vb = .slice B brs.length d ∧ _ := ht.form.2.2
  have HX2 := Lib.hid (Ext.al2 w (.cells #[.slice Ad C.decls.length cd, .slice Af C.funs.length cf] 25) (.cells #[.int .i64 6, .int .i64 n, .int .i64 ty, .slice A args.length ca, .slice B brs.length d] 36))
  have hrf : (declsC C ty true && isIdxC n (xtorsC C ty).length) = true := (sort_parts hs).1.rf
  rw [Bool.and_eq_true] at hrf
  obtain ⟨ht1, ht2⟩ := decls_bnd hrf.1
  obtain ⟨i, rfl, hil⟩ := idxC_nat hrf.2
  have hxi : (xtorsC C ty)[i]? = some (xtorsC C ty)[i] := List.getElem?_eq_getElem hil
  obtain ⟨u, bd, od, bx, ox, cx0, vaa, e1, hu1, rfl, d1, hc1, hc2, d2, d3⟩ := xtor_cells hC.d ht1 ht2 hxi
  have hhd : hdArgs C 6 (i : Nat) ty = ((xtorsC C ty)[i]).args := by
    unfold hdArgs
    rw [if_pos (by decide), List.getD_eq_getElem?_getD, Int.toNat_natCast, hxi]; rfl
  rw [← hhd] at d3
  obtain ⟨Aa, caa, rfl, -, -⟩ := d3.form
  have HD := Lib.hid d3
  have d1 := (hx.tr HX2.out).keep d1
  have d2 := (hx.tr HX2.out).keep d2
  unfold maxLen at hc2
  have hii : (i : Int) < (xtorsC C ty).length := by omega
  have hi0 : (0 : Int) ≤ i := by omega
  have hju : (u : Int) < C.decls.length := by omega
  have hu0 : (0 : Int) ≤ u := by omega
  have hw1 : IntKind.wrap .i64 (ty - 1) = (u : Int) := by rw [e1]; exact IntWalk.i64_in _ (by omega)
  have hw2 : IntKind.wrap .i64 (u : Int) = (u : Int) := IntWalk.i64_in _ (by omega)
  clear d3 hhd hrf hxi
  rw [app_typ hs (by decide)]
  have HB1 : Hid (((w.alloc (.cells #[.slice (some ⟨bd, od, none⟩) C.decls.length cd, .slice Af C.funs.length cf] 25)).alloc (.cells #[.int .i64 6, .int .i64 (i : Nat), .int .i64 ty, .slice A args.length ca, .slice B brs.length d] 36)).heap[w.heap.size]? = some (.cells #[.slice (some ⟨bd, od, none⟩) C.decls.length cd, .slice Af C.funs.length cf] 25 (0, 0))) := Ext.lt (Ext.al _ _) (heapNew w _)
  have HB2 := Lib.hid (heapNew2 w (.cells #[.slice (some ⟨bd, od, none⟩) C.decls.length cd, .slice Af C.funs.length cf] 25) (.cells #[.int .i64 6, .int .i64 (i : Nat), .int .i64 ty, .slice A args.length ca, .slice B brs.length d] 36))
  have hba := bndN_args 6 (i : Nat) ty args brs
  obtain ⟨q, hq⟩ : ∃ q, typA C E 6 (i : Nat) ty 0 args = q := ⟨_, rfl⟩
  have HU : Hid (uR E 6 (i : Nat) ty q = ty) := rfl
  have HAR : Hid (∀ W, Ext wA W → RS W p mx ma n0 (lastE E) → Calls Tryz.prog 39 #[.pointer (some ⟨p, 0, none⟩), cV (.slice (some ⟨bd, od, none⟩) C.decls.length cd) (.slice Af C.funs.length cf), .agg #[.int .i64 6, .int .i64 (i : Nat), .int .i64 ty, .slice A args.length ca, .slice B brs.length d], .slice Aa (hdArgs C 6 (i : Nat) ty).length caa] W fun e w' => e = .returned (.bool q) ∧ RS w' p mx ma (n0 + 2 * bndN (.mk 6 (i : Nat) ty args brs)) (lastE E) ∧ TrC mx ma W w') := fun W hW h => by
    rw [← hq]
    refine (hA W n0 E S _ (show ((6 : Int) = 2 ∨ (6 : Int) = 6 ∨ (6 : Int) = 13) by decide) hW h hs (by show n0 + 2 * bndA args ≤ _; omega) HD.out).mono ?_
    rintro e w' ⟨rfl, h1, h2⟩
    have h1 : RS w' p mx ma (n0 + 2 * bndA args) (lastE E) := h1
    exact ⟨rfl, h1.mono (by omega), h2⟩
  rw [hq]
  generalize uR E 6 (i : Nat) ty q = u9 at *
  generalize n0 + 2 * bndN (.mk 6 (i : Nat) ty args brs) = M at *
  have HX := Lib.hid hx; have HR := Lib.hid hr
  clear hA hx hr hs hn ht hq hC hS
  go_enter Tryz.func15, Tryz.ntmps15
  go_wp2_with fail
  generalize (w.alloc _).alloc _ = w2 at *
  have hr2 := HR.out.ext HX2.out
  have HR2 := Lib.hid hr2
  have HX22 : Hid (Ext wA w2) := HX.out.tr HX2.out
  have HCX : Hid (∀ W, Ext w2 W → W.cell? ⟨w.heap.size, 0, none⟩ = some (.slice (some ⟨bd, od, none⟩) C.decls.length cd) ∧ W.cell? ⟨w.heap.size, 1, none⟩ = some (.slice Af C.funs.length cf) ∧ W.cell? ⟨w.heap.size + 1, 0, none⟩ = some (.int .i64 6) ∧ W.cell? ⟨w.heap.size + 1, 1, none⟩ = some (.int .i64 (i : Nat)) ∧ W.cell? ⟨w.heap.size + 1, 2, none⟩ = some (.int .i64 ty) ∧ W.cell? ⟨w.heap.size + 1, 3, none⟩ = some (.slice A args.length ca) ∧ W.cell? ⟨w.heap.size + 1, 4, none⟩ = some (.slice B brs.length d) ∧ W.cell? ⟨bd, od + u * 3 + 2, none⟩ = some (.slice (some ⟨bx, ox, none⟩) (xtorsC C ty).length cx0) ∧ W.cell? ⟨bx, ox + i * 2 + 1, none⟩ = some (.slice Aa (hdArgs C 6 (i : Nat) ty).length caa)) := fun W hW => ⟨cellAt (hW.lt HB1.out) 0, cellAt (hW.lt HB1.out) 1, cellAt (hW.lt HB2.out) 0, cellAt (hW.lt HB2.out) 1, cellAt (hW.lt HB2.out) 2, cellAt (hW.lt HB2.out) 3, cellAt (hW.lt HB2.out) 4, hW.keep d1, hW.keep d2⟩
  have HCALL : Hid (∀ W, Ext w2 W → Calls Tryz.prog 39 #[.pointer (some ⟨p, 0, none⟩), cV (.slice (some ⟨bd, od, none⟩) C.decls.length cd) (.slice Af C.funs.length cf), .agg #[.int .i64 6, .int .i64 (i : Nat), .int .i64 ty, .slice A args.length ca, .slice B brs.length d], .slice Aa (hdArgs C 6 (i : Nat) ty).length caa] W fun e w' => e = .returned (.bool q) ∧ (RS w' p mx ma M (lastE E) ∧ TrC mx ma w2 w') ∧ (w'.cell? ⟨w.heap.size, 0, none⟩ = some (.slice (some ⟨bd, od, none⟩) C.decls.length cd) ∧ w'.cell? ⟨w.heap.size, 1, none⟩ = some (.slice Af C.funs.length cf) ∧ w'.cell? ⟨w.heap.size + 1, 0, none⟩ = some (.int .i64 6) ∧ w'.cell? ⟨w.heap.size + 1, 1, none⟩ = some (.int .i64 (i : Nat)) ∧ w'.cell? ⟨w.heap.size + 1, 2, none⟩ = some (.int .i64 ty) ∧ w'.cell? ⟨w.heap.size + 1, 3, none⟩ = some (.slice A args.length ca) ∧ w'.cell? ⟨w.heap.size + 1, 4, none⟩ = some (.slice B brs.length d) ∧ w'.cell? ⟨bd, od + u * 3 + 2, none⟩ = some (.slice (some ⟨bx, ox, none⟩) (xtorsC C ty).length cx0) ∧ w'.cell? ⟨bx, ox + i * 2 + 1, none⟩ = some (.slice Aa (hdArgs C 6 (i : Nat) ty).length caa))) := fun W hW => by
    have hrW := HR2.out.ext hW
    refine (HAR.out W (HX22.out.tr hW) hrW).mono ?_
    rintro e w' ⟨rfl, h1, h2⟩
    have hc := HCX.out W hW
    exact ⟨rfl, ⟨h1, TrC.tr (TrC.ext hW) h2⟩, hrW.box' h2 hc.1, hrW.box' h2 hc.2.1, hrW.box' h2 hc.2.2.1, hrW.box' h2 hc.2.2.2.1, hrW.box' h2 hc.2.2.2.2.1, hrW.box' h2 hc.2.2.2.2.2.1, hrW.box' h2 hc.2.2.2.2.2.2.1, hrW.box' h2 hc.2.2.2.2.2.2.2.1, hrW.box' h2 hc.2.2.2.2.2.2.2.2⟩
  clear hr2 d1 d2
  obtain ⟨k0, k1, m0, m1, m2, m3, m4, d1, d2⟩ := HCX.out w2 (Ext.rf _)
  go_wp2_with fail
  go_region_held3 (fun W => W.cell? ⟨w.heap.size, 0, none⟩ = some (.slice (some ⟨bd, od, none⟩) C.decls.length cd) ∧ W.cell? ⟨w.heap.size, 1, none⟩ = some (.slice Af C.funs.length cf) ∧ W.cell? ⟨w.heap.size + 1, 0, none⟩ = some (.int .i64 6) ∧ W.cell? ⟨w.heap.size + 1, 1, none⟩ = some (.int .i64 (i : Nat)) ∧ W.cell? ⟨w.heap.size + 1, 2, none⟩ = some (.int .i64 ty) ∧ W.cell? ⟨w.heap.size + 1, 3, none⟩ = some (.slice A args.length ca) ∧ W.cell? ⟨w.heap.size + 1, 4, none⟩ = some (.slice B brs.length d) ∧ W.cell? ⟨bd, od + u * 3 + 2, none⟩ = some (.slice (some ⟨bx, ox, none⟩) (xtorsC C ty).length cx0) ∧ W.cell? ⟨bx, ox + i * 2 + 1, none⟩ = some (.slice Aa (hdArgs C 6 (i : Nat) ty).length caa))
    (first | exact HCX.out _ (Ext.rf _).drew | exact HC8.out | exact HCX.out _ (Ext.rf _) | fail "KEEP")
    (first
      | (go_at_call 39; (with_reducible refine (HCALL.out _ (by first | exact (Ext.rf _).drew | exact Ext.rf _ | fail "CALL")).mono ?_); rintro e w8 ⟨rfl, ⟨hs8, ht8⟩, hc8⟩; have HS8 := Lib.hid hs8; have HT8 := Lib.hid ht8; have HC8 := Lib.hid hc8; clear hs8 ht8 hc8)
      | fail "ARM")
  all_goals
    go_wp2
    refine bodyPost_ret (results_tmp2 rfl _ _ _) rfl ?_
    exact ⟨by rw [HU.out]; rfl, HS8.out, TrC.tr (TrC.ext HX2.out) HT8.out⟩
set_option maxHeartbeats 8000000 in
set_option maxRecDepth 100000 in
theorem ty7_13 (n ty : Int) (args : List Nd) (brs : List Br) (va vb : Value) (hC : RCg wA vd vf C) (hS : ShC C) (ht : ∃ k, RNd wA k (.mk 13 n ty args brs) va vb) (hA : ArS C vd vf wA p mx ma (.mk 13 n ty args brs) va vb) : TyO C vd vf wA p mx ma 13 n ty args brs va vb := by
  intro w n0 E S hx hr hs hn
  have hdl := hS.dl
  have hfl := hS.fl
  have hxl := hS.xtors ty
  obtain ⟨k, ht⟩ := ht
  obtain ⟨Ad, cd, rfl, -, -⟩ := hC.d.form
  obtain ⟨Af, cf, rfl, -, -⟩ := hC.f.form
  obtain ⟨A, ca, rfl, -, -⟩ : ∃ A ca, va = .slice A args.length ca ∧ _ := ht.form.2.1
  obtain ⟨B, d, rfl, -, -⟩ : ∃ B d, vb = .slice B brs.length d ∧ _ := ht.form.2.2
  have HX2 := Lib.hid (Ext.al2 w (.cells #[.slice Ad C.decls.length cd, .slice Af C.funs.length cf] 25) (.cells #[.int .i64 13, .int .i64 n, .int .i64 ty, .slice A args.length ca, .slice B brs.length d] 36))
  have hrf : isIdxC n C.funs.length = true := (sort_parts hs).1.rf
  obtain ⟨i, rfl, hil⟩ := idxC_nat hrf
  obtain ⟨b, o, vp, vv, xa, xb, kk, rfl, hbl, y0, y1, y2, yn, hnm, hps, hvs, hbody⟩ := hC.f.at_ hil
  have hhd : hdArgs C 13 (i : Nat) ty = C.funs[i].ps := by
    unfold hdArgs
    rw [if_neg (by decide), if_pos rfl, List.getD_eq_getElem?_getD, Int.toNat_natCast, List.getElem?_eq_getElem hil]; rfl
  rw [← hhd] at hps
  obtain ⟨Aa, caa, rfl, -, -⟩ := hps.form
  have HD := Lib.hid hps
  have d1 := (hx.tr HX2.out).keep y1
  have hii : (i : Int) < C.funs.length := by omega
  have hi0 : (0 : Int) ≤ i := by omega
  clear y0 y1 y2 yn hnm hps hvs hbody hhd hrf
  rw [app_typ hs (by decide)]
  have HB1 : Hid (((w.alloc (.cells #[.slice Ad C.decls.length cd, .slice (some ⟨b, o, none⟩) C.funs.length cf] 25)).alloc (.cells #[.int .i64 13, .int .i64 (i : Nat), .int .i64 ty, .slice A args.length ca, .slice B brs.length d] 36)).heap[w.heap.size]? = some (.cells #[.slice Ad C.decls.length cd, .slice (some ⟨b, o, none⟩) C.funs.length cf] 25 (0, 0))) := Ext.lt (Ext.al _ _) (heapNew w _)
  have HB2 := Lib.hid (heapNew2 w (.cells #[.slice Ad C.decls.length cd, .slice (some ⟨b, o, none⟩) C.funs.length cf] 25) (.cells #[.int .i64 13, .int .i64 (i : Nat), .int .i64 ty, .slice A args.length ca, .slice B brs.length d] 36))
  have hba := bndN_args 13 (i : Nat) ty args brs
  obtain ⟨q, hq⟩ : ∃ q, typA C E 13 (i : Nat) ty 0 args = q := ⟨_, rfl⟩
  have HU : Hid (uR E 13 (i : Nat) ty q = 0) := rfl
  have HAR : Hid (∀ W, Ext wA W → RS W p mx ma n0 (lastE E) → Calls Tryz.prog 39 #[.pointer (some ⟨p, 0, none⟩), cV (.slice Ad C.decls.length cd) (.slice (some ⟨b, o, none⟩) C.funs.length cf), .agg #[.int .i64 13, .int .i64 (i : Nat), .int .i64 ty, .slice A args.length ca, .slice B brs.length d], .slice Aa (hdArgs C 13 (i : Nat) ty).length caa] W fun e w' => e = .returned (.bool q) ∧ RS w' p mx ma (n0 + 2 * bndN (.mk 13 (i : Nat) ty args brs)) (lastE E) ∧ TrC mx ma W w') := fun W hW h => by
    rw [← hq]
    refine (hA W n0 E S _ (show ((13 : Int) = 2 ∨ (13 : Int) = 6 ∨ (13 : Int) = 13) by decide) hW h hs (by show n0 + 2 * bndA args ≤ _; omega) HD.out).mono ?_
    rintro e w' ⟨rfl, h1, h2⟩
    have h1 : RS w' p mx ma (n0 + 2 * bndA args) (lastE E) := h1
    exact ⟨rfl, h1.mono (by omega), h2⟩
  rw [hq]
  generalize uR E 13 (i : Nat) ty q = u9 at *
  generalize n0 + 2 * bndN (.mk 13 (i : Nat) ty args brs) = M at *
  have HX := Lib.hid hx; have HR := Lib.hid hr
  clear hA hx hr hs hn ht hq hC hS
  go_enter Tryz.func15, Tryz.ntmps15
  go_wp2_with fail
  generalize (w.alloc _).alloc _ = w2 at *
  have hr2 := HR.out.ext HX2.out
  have HR2 := Lib.hid hr2
  have HX22 : Hid (Ext wA w2) := HX.out.tr HX2.out
  have HCX : Hid (∀ W, Ext w2 W → W.cell? ⟨w.heap.size, 0, none⟩ = some (.slice Ad C.decls.length cd) ∧ W.cell? ⟨w.heap.size, 1, none⟩ = some (.slice (some ⟨b, o, none⟩) C.funs.length cf) ∧ W.cell? ⟨w.heap.size + 1, 0, none⟩ = some (.int .i64 13) ∧ W.cell? ⟨w.heap.size + 1, 1, none⟩ = some (.int .i64 (i : Nat)) ∧ W.cell? ⟨w.heap.size + 1, 2, none⟩ = some (.int .i64 ty) ∧ W.cell? ⟨w.heap.size + 1, 3, none⟩ = some (.slice A args.length ca) ∧ W.cell? ⟨w.heap.size + 1, 4, none⟩ = some (.slice B brs.length d) ∧ W.cell? ⟨b, o + i * 8 + 1, none⟩ = some (.slice Aa (hdArgs C 13 (i : Nat) ty).length caa)) := fun W hW => ⟨cellAt (hW.lt HB1.out) 0, cellAt (hW.lt HB1.out) 1, cellAt (hW.lt HB2.out) 0, cellAt (hW.lt HB2.out) 1, cellAt (hW.lt HB2.out) 2, cellAt (hW.lt HB2.out) 3, cellAt (hW.lt HB2.out) 4, hW.keep d1⟩
  have HCALL : Hid (∀ W, Ext w2 W → Calls Tryz.prog 39 #[.pointer (some ⟨p, 0, none⟩), cV (.slice Ad C.decls.length cd) (.slice (some ⟨b, o, none⟩) C.funs.length cf), .agg #[.int .i64 13, .int .i64 (i : Nat), .int .i64 ty, .slice A args.length ca, .slice B brs.length d], .slice Aa (hdArgs C 13 (i : Nat) ty).length caa] W fun e w' => e = .returned (.bool q) ∧ (RS w' p mx ma M (lastE E) ∧ TrC mx ma w2 w') ∧ (w'.cell? ⟨w.heap.size, 0, none⟩ = some (.slice Ad C.decls.length cd) ∧ w'.cell? ⟨w.heap.size, 1, none⟩ = some (.slice (some ⟨b, o, none⟩) C.funs.length cf) ∧ w'.cell? ⟨w.heap.size + 1, 0, none⟩ = some (.int .i64 13) ∧ w'.cell? ⟨w.heap.size + 1, 1, none⟩ = some (.int .i64 (i : Nat)) ∧ w'.cell? ⟨w.heap.size + 1, 2, none⟩ = some (.int .i64 ty) ∧ w'.cell? ⟨w.heap.size + 1, 3, none⟩ = some (.slice A args.length ca) ∧ w'.cell? ⟨w.heap.size + 1, 4, none⟩ = some (.slice B brs.length d) ∧ w'.cell? ⟨b, o + i * 8 + 1, none⟩ = some (.slice Aa (hdArgs C 13 (i : Nat) ty).length caa))) := fun W hW => by
    have hrW := HR2.out.ext hW
    refine (HAR.out W (HX22.out.tr hW) hrW).mono ?_
    rintro e w' ⟨rfl, h1, h2⟩
    have hc := HCX.out W hW
    exact ⟨rfl, ⟨h1, TrC.tr (TrC.ext hW) h2⟩, hrW.box' h2 hc.1, hrW.box' h2 hc.2.1, hrW.box' h2 hc.2.2.1, hrW.box' h2 hc.2.2.2.1, hrW.box' h2 hc.2.2.2.2.1, hrW.box' h2 hc.2.2.2.2.2.1, hrW.box' h2 hc.2.2.2.2.2.2.1, hrW.box' h2 hc.2.2.2.2.2.2.2⟩
  clear hr2 d1
  obtain ⟨k0, k1, m0, m1, m2, m3, m4, d1⟩ := HCX.out w2 (Ext.rf _)
  go_wp2_with fail
  go_region_held3 (fun W => W.cell? ⟨w.heap.size, 0, none⟩ = some (.slice Ad C.decls.length cd) ∧ W.cell? ⟨w.heap.size, 1, none⟩ = some (.slice (some ⟨b, o, none⟩) C.funs.length cf) ∧ W.cell? ⟨w.heap.size + 1, 0, none⟩ = some (.int .i64 13) ∧ W.cell? ⟨w.heap.size + 1, 1, none⟩ = some (.int .i64 (i : Nat)) ∧ W.cell? ⟨w.heap.size + 1, 2, none⟩ = some (.int .i64 ty) ∧ W.cell? ⟨w.heap.size + 1, 3, none⟩ = some (.slice A args.length ca) ∧ W.cell? ⟨w.heap.size + 1, 4, none⟩ = some (.slice B brs.length d) ∧ W.cell? ⟨b, o + i * 8 + 1, none⟩ = some (.slice Aa (hdArgs C 13 (i : Nat) ty).length caa))
    (first | exact HCX.out _ (Ext.rf _).drew | exact HC8.out | exact HCX.out _ (Ext.rf _) | fail "KEEP")
    (first
      | (go_at_call 39; (with_reducible refine (HCALL.out _ (by first | exact (Ext.rf _).drew | exact Ext.rf _ | fail "CALL")).mono ?_); rintro e w8 ⟨rfl, ⟨hs8, ht8⟩, hc8⟩; have HS8 := Lib.hid hs8; have HT8 := Lib.hid ht8; have HC8 := Lib.hid hc8; clear hs8 ht8 hc8)
      | fail "ARM")
  all_goals
    go_wp2
    refine bodyPost_ret (results_tmp2 rfl _ _ _) rfl ?_
    exact ⟨by rw [HU.out]; rfl, HS8.out, TrC.tr (TrC.ext HX2.out) HT8.out⟩
end
end Go.Proofs.YtkdhhcidpklgoaaGreatDoor
