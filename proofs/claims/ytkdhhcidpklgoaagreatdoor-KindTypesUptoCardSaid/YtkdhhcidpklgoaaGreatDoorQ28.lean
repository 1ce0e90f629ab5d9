/- ref06: Valid. -/
import Derived.Test.YtkdhhcidpklgoaaGreatDoorQ27
namespace Go.Proofs.YtkdhhcidpklgoaaGreatDoor
open Go.RowKit Go.Shelf Go.Maps
attribute [local go_sem] Oper.semAt_some

theorem CnS.b1 {c : Cn} {S : Sc} {m : Int} (h : CnS c S m) : ∀ x, -2000000000 ≤ c x := fun x => by have := h.pos x; omega
theorem CnS.b2 {c : Cn} {S : Sc} {m : Int} (h : CnS c S m) (hm : m ≤ 2000000000) : ∀ x, c x ≤ 2000000000 := fun x => by have := h.le x; omega
theorem brsN_uses {C : Cg} {op ty : Int} {k : Nat} (h : ((k : Nat) : Int) = brsN C op ty) (hk : 0 < k) : usesB op = true ∧ (xtorsC C ty).length = k := by
  unfold brsN at h
  cases hu : usesB op
  · rw [hu] at h; simp at h; omega
  · rw [hu] at h; simp at h; exact ⟨rfl, by omega⟩
theorem okA_refers {C : Cg} {op n ty : Int} (h : okA C op n ty = true) : refersB C true op n ty = true := by
  unfold okA at h
  simp only [Bool.and_eq_true] at h
  exact h.1.2
theorem vN_no1 {C : Cg} {S : Sc} {t : Nd} (h : okA C t.op t.n t.ty = false) : vN C S t = false := by rw [vN_eq, h]; rfl
theorem vN_no2 {C : Cg} {S : Sc} {t : Nd} (h : ¬ t.args.length = ((wantS C t.op t.n t.ty).map (· + 1)).length) : vN C S t = false := by rw [vN_eq, decide_eq_false h]; simp
theorem vN_no3 {C : Cg} {S : Sc} {t : Nd} (h : ¬ (t.brs.length : Int) = brsN C t.op t.ty) : vN C S t = false := by rw [vN_eq, decide_eq_false h]; simp
theorem vN_var {C : Cg} {S : Sc} {t : Nd} (h1 : okA C t.op t.n t.ty = true) (h2 : t.args.length = ((wantS C t.op t.n t.ty).map (· + 1)).length) (h3 : (t.brs.length : Int) = brsN C t.op t.ty) (h : t.op = 0 ∨ t.op = 5) : vN C S t = inN S t.op t.n := by
  rw [vN_eq, h1, decide_eq_true h2, decide_eq_true h3, if_pos h]; rfl
theorem vN_node {C : Cg} {S : Sc} {t : Nd} (h1 : okA C t.op t.n t.ty = true) (h2 : t.args.length = ((wantS C t.op t.n t.ty).map (· + 1)).length) (h3 : (t.brs.length : Int) = brsN C t.op t.ty) (h : ¬ (t.op = 0 ∨ t.op = 5)) :
    vN C S t = (chB C (addS S (muV t.op t.n)) t.args ((wantS C t.op t.n t.ty).map (· + 1)) && brB C S (xtorsC C t.ty) t.brs) := by
  rw [vN_eq, h1, decide_eq_true h2, decide_eq_true h3, if_neg h]; rfl





set_option maxHeartbeats 16000000 in
set_option maxRecDepth 100000 in
theorem valid6 (vd vf : Value) (C : Cg) (wA : World) (p mx ma : Nat) (k : Nat) (t : Nd) (va vb : Value) (hC : RCg wA vd vf C) (hS : ShC C) (ht : RNd wA (k + 1) t va vb) (hb : BN t)
    (hA : ChiS C vd vf wA p mx ma t va vb)
    (hB : ∀ (i : Nat) (x : Br), t.brs[i]? = some x → ∀ xa xb, RNd wA k x.2.2 xa xb → ValS C vd vf wA p mx ma x.2.2 xa xb) (hm1 : wA.heap.size ≤ mx) (hm2 : wA.heap.size ≤ ma) : ValS C vd vf wA p mx ma t va vb := by
  intro w n c S m hx hrc hcn hmb hnb
  have hna := hb.na
  have hnb' := hb.nb
  have hbe := bndN_eq t
  have hml := muV_len t.op t.n
  have HAR0 := Lib.hid (fun W (hW : Ext wA W) => args6_any vd vf C t.op t.n t.ty va vb W (hC.below hW) (fun d hd x hx => ((hS.xt d hd).2 x hx).1) (fun f hf => (hS.fn f hf).1))
  have HMU0 := Lib.hid (fun W c n d h hn1 hn2 hd hnn => mu6_any W p mx ma n c t va vb d h ht.form.1.2.1 hn1 hn2 hd hnn)
  have HXA : Hid (∀ (i : Nat) x, (xtorsC C t.ty)[i]? = some x → 1 ≤ t.ty → t.ty ≤ C.decls.length → x.args.length ≤ 1048576) := fun i x hi h1 h2 => by
    have h6 := hS.xt (declC C t.ty) (by
      unfold declC
      obtain ⟨u, hu⟩ : ∃ u : Nat, t.ty = u + 1 := ⟨(t.ty - 1).toNat, by omega⟩
      rw [List.getD_eq_getElem?_getD, hu, show ((u : Int) + 1 - 1).toNat = u by omega, List.getElem?_eq_getElem (show u < C.decls.length by omega)]
      exact List.getElem_mem _)
    exact (h6.2 x (List.mem_of_getElem? hi)).1
  have hdl := hS.dl
  have hxl := hS.xtors t.ty
  obtain ⟨Ad, cd, rfl, -, hmd⟩ := hC.d.form
  obtain ⟨Af, cf, rfl, -, -⟩ := hC.f.form
  obtain ⟨-, ⟨A, ca, rfl, -, hma⟩, ⟨B, d, rfl, -, hmb2⟩⟩ := ht.form
  unfold maxLen at hma hmb2 hmd
  have HXC := Lib.hid (fun (i : Nat) (x : Xtor) (h1 : 1 ≤ t.ty) (h2 : t.ty ≤ C.decls.length) (hi : (xtorsC C t.ty)[i]? = some x) => xtor_cells hC.d h1 h2 hi)
  have HX2 := Lib.hid (Ext.al2 w (.cells #[.slice Ad C.decls.length cd, .slice Af C.funs.length cf] 25) (.cells #[.int .i64 t.op, .int .i64 t.n, .int .i64 t.ty, .slice A t.args.length ca, .slice B t.brs.length d] 36))
  have HB1 : Hid (((w.alloc (.cells #[.slice Ad C.decls.length cd, .slice Af C.funs.length cf] 25)).alloc (.cells #[.int .i64 t.op, .int .i64 t.n, .int .i64 t.ty, .slice A t.args.length ca, .slice B t.brs.length d] 36)).heap[w.heap.size]? = some (.cells #[.slice Ad C.decls.length cd, .slice Af C.funs.length cf] 25 (0, 0))) := Ext.lt (Ext.al _ _) (heapNew w _)
  have HB2 := Lib.hid (heapNew2 w (.cells #[.slice Ad C.decls.length cd, .slice Af C.funs.length cf] 25) (.cells #[.int .i64 t.op, .int .i64 t.n, .int .i64 t.ty, .slice A t.args.length ca, .slice B t.brs.length d] 36))
  have HX := Lib.hid hx; have HRC := Lib.hid hrc; have HCN := Lib.hid hcn; have HT := Lib.hid ht; have HA := Lib.hid hA; have HB := Lib.hid hB; have HSH := Lib.hid hb.short
  have HBE := Lib.hid hbe
  clear hC ht hb hA hB hx hrc hcn hS hbe
  go_enter Tryz.func25, Tryz.ntmps25
  go_wp2_with fail
  generalize (w.alloc _).alloc _ = w2 at *
  have HX22 : Hid (Ext wA w2) := HX.out.tr HX2.out
  have HRC2 : Hid (RC w2 p mx ma n c) := HRC.out.ext HX2.out
  have HAR : Hid (Calls Tryz.prog 56 #[cV (.slice Ad C.decls.length cd) (.slice Af C.funs.length cf), nV t (.slice A t.args.length ca) (.slice B t.brs.length d)] w2 fun e w' => (∃ u br, e = .returned (.tuple #[u, .int .i64 br, .bool (okA C t.op t.n t.ty)]) ∧ (okA C t.op t.n t.ty = true → RInts w' u ((wantS C t.op t.n t.ty).map (· + 1)) ∧ br = brsN C t.op t.ty)) ∧ Ext w2 w') := HAR0.out w2 HX22.out
  have HCE : Hid (∀ W : World, W.heap[w.heap.size]? = some (.cells #[.slice Ad C.decls.length cd, .slice Af C.funs.length cf] 25 (0, 0)) → W.heap[w.heap.size + 1]? = some (.cells #[.int .i64 t.op, .int .i64 t.n, .int .i64 t.ty, .slice A t.args.length ca, .slice B t.brs.length d] 36 (0, 0)) → W.cell? ⟨w.heap.size, 0, none⟩ = some (.slice Ad C.decls.length cd) ∧ W.cell? ⟨w.heap.size, 1, none⟩ = some (.slice Af C.funs.length cf) ∧ W.cell? ⟨w.heap.size + 1, 0, none⟩ = some (.int .i64 t.op) ∧ W.cell? ⟨w.heap.size + 1, 1, none⟩ = some (.int .i64 t.n) ∧ W.cell? ⟨w.heap.size + 1, 2, none⟩ = some (.int .i64 t.ty) ∧ W.cell? ⟨w.heap.size + 1, 3, none⟩ = some (.slice A t.args.length ca) ∧ W.cell? ⟨w.heap.size + 1, 4, none⟩ = some (.slice B t.brs.length d)) := fun W h0 h1 =>
    ⟨cellAt h0 0, cellAt h0 1, cellAt h1 0, cellAt h1 1, cellAt h1 2, cellAt h1 3, cellAt h1 4⟩
  have HCX : Hid (∀ W : World, TrC mx ma w2 W → W.cell? ⟨w.heap.size, 0, none⟩ = some (.slice Ad C.decls.length cd) ∧ W.cell? ⟨w.heap.size, 1, none⟩ = some (.slice Af C.funs.length cf) ∧ W.cell? ⟨w.heap.size + 1, 0, none⟩ = some (.int .i64 t.op) ∧ W.cell? ⟨w.heap.size + 1, 1, none⟩ = some (.int .i64 t.n) ∧ W.cell? ⟨w.heap.size + 1, 2, none⟩ = some (.int .i64 t.ty) ∧ W.cell? ⟨w.heap.size + 1, 3, none⟩ = some (.slice A t.args.length ca) ∧ W.cell? ⟨w.heap.size + 1, 4, none⟩ = some (.slice B t.brs.length d)) := fun W h => HCE.out W (h.cells HRC2.out HB1.out) (h.cells HRC2.out HB2.out)
  obtain ⟨p0, p1, n0, n1, n2, n3, n4⟩ := HCX.out w2 (Only.rf _ _)
  have HSUB := Lib.hid (fun (h : okA C t.op t.n t.ty = false) => vN_no1 (S := S) h)
  have HNO2 := Lib.hid (@vN_no2 C S t)
  have HNO3 := Lib.hid (@vN_no3 C S t)
  have HVAR := Lib.hid (@vN_var C S t)
  have HNOD := Lib.hid (@vN_node C S t)
  have HREF := Lib.hid (@okA_refers C t.op t.n t.ty)
  clear HAR0
  cases hq : okA C t.op t.n t.ty
  · rw [hq] at HAR
    have HR := Lib.hid (HSUB.out hq)
    clear hq
    go_wp2_with (first
      | (go_at_call 56; (with_reducible refine (HAR.out).mono ?_); rintro e w3 ⟨⟨u, br, rfl, hu⟩, hx3⟩)
      | fail "none")
    go_ret
    exact ⟨ret_bool HR.out.symm, (HRC2.out.ext hx3).mono (by omega), TrC.ext (HX2.out.tr hx3)⟩
  · rw [hq] at HAR
    have HQ := Lib.hid hq
    obtain ⟨ks, hks⟩ : ∃ ks, (wantS C t.op t.n t.ty).map (· + 1) = ks := ⟨_, rfl⟩
    obtain ⟨bb, hbb⟩ : ∃ bb, brsN C t.op t.ty = bb := ⟨_, rfl⟩
    have HAR2 : Hid (Calls Tryz.prog 56 #[cV (.slice Ad C.decls.length cd) (.slice Af C.funs.length cf), nV t (.slice A t.args.length ca) (.slice B t.brs.length d)] w2 fun e w' => (∃ u, e = .returned (.tuple #[u, .int .i64 bb, .bool true]) ∧ RInts w' u ks) ∧ Ext w2 w') := by
      refine (HAR.out).mono ?_
      rintro e w' ⟨⟨u, br, rfl, hu⟩, hx⟩
      obtain ⟨h1, rfl⟩ := hu rfl
      exact ⟨⟨u, by rw [hbb], by rw [← hks]; exact h1⟩, hx⟩
    rw [hks] at HNO2 HVAR HNOD
    rw [hbb] at HNO3 HVAR HNOD
    have HBB := Lib.hid hbb
    clear hq hks hbb HAR
    by_cases ha : t.args.length = ks.length
    rotate_left
    · have HR := Lib.hid (HNO2.out ha)
      have e1 : ((t.args.length : Int) == (ks.length : Int)) = false := by simpa using fun e => ha (by omega)
      have e2 : ((t.args.length : Int) != (ks.length : Int)) = true := by rw [bne, e1]; rfl
      clear ha
      go_wp2_with (first
        | (go_at_call 56; (with_reducible refine (HAR2.out).mono ?_); rintro e w3 ⟨⟨u, rfl, hu⟩, hx3⟩; obtain ⟨Au, cu, rfl, -, -⟩ := hu.form; clear p0 p1 n0 n1 n2 n3 n4; obtain ⟨p0, p1, n0, n1, n2, n3, n4⟩ := HCX.out w3 (TrC.ext hx3))
        | fail "none")
      go_ret
      exact ⟨ret_bool HR.out.symm, (HRC2.out.ext hx3).mono (by omega), TrC.ext (HX2.out.tr hx3)⟩
    have HLA := Lib.hid ha
    by_cases hb2 : (t.brs.length : Int) = bb
    rotate_left
    · have HR := Lib.hid (HNO3.out hb2)
      have e1 : ((t.brs.length : Int) == bb) = false := by simpa using hb2
      have e2 : ((t.brs.length : Int) != bb) = true := by rw [bne, e1]; rfl
      clear hb2 ha
      go_wp2_with (first
        | (go_at_call 56; (with_reducible refine (HAR2.out).mono ?_); rintro e w3 ⟨⟨u, rfl, hu⟩, hx3⟩; obtain ⟨Au, cu, huf, -, -⟩ := hu.form; rw [← HLA.out] at huf; subst huf; clear p0 p1 n0 n1 n2 n3 n4; obtain ⟨p0, p1, n0, n1, n2, n3, n4⟩ := HCX.out w3 (TrC.ext hx3))
        | fail "none")
      go_ret
      exact ⟨ret_bool HR.out.symm, (HRC2.out.ext hx3).mono (by omega), TrC.ext (HX2.out.tr hx3)⟩
    subst hb2
    by_cases hv : t.op = 0 ∨ t.op = 5
    · have HR := Lib.hid (HVAR.out HQ.out HLA.out rfl hv)
      clear ha
      rcases hv with hv | hv
      · have e0 : (t.op == 0) = true := by simpa using hv
        have e5 : (t.op == 5) = false := by simp [hv]
        obtain ⟨q, hq0⟩ : ∃ q, decide (0 < c (0, t.n)) = q := ⟨_, rfl⟩
        have HR2 : Hid (vN C S t = q) := by
          show _ = _; rw [HR.out, hv, ← hq0, ← HCN.out.eq]; rfl
        have HHA0 : Hid (∀ W, Ext w2 W → Calls Tryz.prog 57 #[.pointer (some ⟨p, 0, none⟩), .bool false, .int .i64 t.n] W fun e w' => e = .returned (.bool q) ∧ W = w') := fun W hW => by
          have h := has6_any W p mx ma n c false t.n (HRC2.out.ext hW) HT.out.form.1.2.1
          rw [← hq0]; exact h
        clear hv hq0 HVAR HNO2 HNO3 HNOD
        go_wp2_with (first
          | (go_at_call 56; (with_reducible refine (HAR2.out).mono ?_); rintro e w3 ⟨⟨u, rfl, hu⟩, hx3⟩; obtain ⟨Au, cu, huf, -, -⟩ := hu.form; rw [← HLA.out] at huf; subst huf; clear p0 p1 n0 n1 n2 n3 n4; obtain ⟨p0, p1, n0, n1, n2, n3, n4⟩ := HCX.out w3 (TrC.ext hx3))
          | (go_at_call 57; (with_reducible refine (HHA0.out _ hx3).mono ?_); rintro e w4 ⟨rfl, rfl⟩)
          | fail "none")
        go_ret
        exact ⟨ret_bool HR2.out.symm, (HRC2.out.ext hx3).mono (by omega), TrC.ext (HX2.out.tr hx3)⟩
      · have e0 : (t.op == 0) = false := by simp [hv]
        have e5 : (t.op == 5) = true := by simpa using hv
        obtain ⟨q, hq0⟩ : ∃ q, decide (0 < c (1, t.n)) = q := ⟨_, rfl⟩
        have HR2 : Hid (vN C S t = q) := by
          show _ = _; rw [HR.out, hv, ← hq0, ← HCN.out.eq]; rfl
        have HHA0 : Hid (∀ W, Ext w2 W → Calls Tryz.prog 57 #[.pointer (some ⟨p, 0, none⟩), .bool true, .int .i64 t.n] W fun e w' => e = .returned (.bool q) ∧ W = w') := fun W hW => by
          have h := has6_any W p mx ma n c true t.n (HRC2.out.ext hW) HT.out.form.1.2.1
          rw [← hq0]; exact h
        clear hv hq0 HVAR HNO2 HNO3 HNOD
        go_wp2_with (first
          | (go_at_call 56; (with_reducible refine (HAR2.out).mono ?_); rintro e w3 ⟨⟨u, rfl, hu⟩, hx3⟩; obtain ⟨Au, cu, huf, -, -⟩ := hu.form; rw [← HLA.out] at huf; subst huf; clear p0 p1 n0 n1 n2 n3 n4; obtain ⟨p0, p1, n0, n1, n2, n3, n4⟩ := HCX.out w3 (TrC.ext hx3))
          | (go_at_call 57; (with_reducible refine (HHA0.out _ hx3).mono ?_); rintro e w4 ⟨rfl, rfl⟩)
          | fail "none")
        go_ret
        exact ⟨ret_bool HR2.out.symm, (HRC2.out.ext hx3).mono (by omega), TrC.ext (HX2.out.tr hx3)⟩
    · have HR := Lib.hid (HNOD.out HQ.out HLA.out rfl hv)
      have e0 : (t.op == 0) = false := by simp; omega
      have e5 : (t.op == 5) = false := by simp; omega
      obtain ⟨L, hL⟩ : ∃ L, muV t.op t.n = L := ⟨_, rfl⟩
      rw [hL] at HR HMU0 hml
      obtain ⟨rch, hrch⟩ : ∃ r, chB C (addS S L) t.args ks = r := ⟨_, rfl⟩
      rw [hrch] at HR
      have HMU1 : Hid (∀ W, Ext w2 W → Calls Tryz.prog 58 #[.pointer (some ⟨p, 0, none⟩), nV t (.slice A t.args.length ca) (.slice B t.brs.length d), .int .i64 1] W fun e w' => e = .returned (.tuple #[]) ∧ RC w' p mx ma (n + 1) (addC c L 1) ∧ TrC mx ma W w') := fun W hW =>
        HMU0.out W c n 1 (HRC2.out.ext hW) (fun x => by have := HCN.out.b1 x; omega) (fun x => by have := HCN.out.b2 (by omega) x; omega) (.inl rfl) (by unfold maxLen; omega)
      have HCH : Hid (∀ W u, Ext wA W → RC W p mx ma (n + 1) (addC c L 1) → RInts W u ks → Calls Tryz.prog 59 #[cV (.slice Ad C.decls.length cd) (.slice Af C.funs.length cf), .pointer (some ⟨p, 0, none⟩), nV t (.slice A t.args.length ca) (.slice B t.brs.length d), u] W fun e w' => e = .returned (.bool rch) ∧ RC w' p mx ma (n + 1 + 2 * bndA t.args) (addC c L 1) ∧ TrC mx ma W w') := fun W u hW hr hu => by
        have h := HA.out W (n + 1) (addC c L 1) (addS S L) (m + L.length) u ks hW hr (HCN.out.add L) (by have := HBE.out; omega) (by have := HBE.out; omega) hu HLA.out
        rw [hrch] at h; exact h
      have HMU2 : Hid (∀ W, RC W p mx ma (n + 1 + 2 * bndA t.args) (addC c L 1) → Calls Tryz.prog 58 #[.pointer (some ⟨p, 0, none⟩), nV t (.slice A t.args.length ca) (.slice B t.brs.length d), .int .i64 (-1)] W fun e w' => e = .returned (.tuple #[]) ∧ RC w' p mx ma (n + 2 + 2 * bndA t.args) c ∧ TrC mx ma W w') := fun W hr => by
        refine (HMU0.out W (addC c L 1) (n + 1 + 2 * bndA t.args) (-1) hr (fun x => by have := (HCN.out.add L).b1 x; omega) (fun x => by have := (HCN.out.add L).b2 (by omega) x; omega) (.inr rfl) (by unfold maxLen; have := HBE.out; omega)).mono ?_
        rintro e w' ⟨rfl, h1, h2⟩
        rw [addC_back] at h1
        exact ⟨rfl, h1.mono (by omega), h2⟩
      clear hv hL hrch ha HMU0 HVAR HNO2 HNO3 HNOD HSUB HA
      cases rch
      · have HR2 : Hid (vN C S t = false) := by show _ = _; rw [HR.out]; rfl
        go_wp2_with (first
          | (go_at_call 56; (with_reducible refine (HAR2.out).mono ?_); rintro e w3 ⟨⟨u, rfl, hu⟩, hx3⟩; have HU3 := Lib.hid hu; obtain ⟨Au, cu, huf, -, -⟩ := hu.form; rw [← HLA.out] at huf; subst huf; have HX3 := Lib.hid hx3; clear p0 p1 n0 n1 n2 n3 n4; obtain ⟨p0, p1, n0, n1, n2, n3, n4⟩ := HCX.out w3 (TrC.ext hx3); clear hu hx3)
          | (go_at_call 58; (with_reducible refine (HMU2.out _ HR5.out).mono ?_); rintro e w6 ⟨rfl, hr6, ht6⟩; have HR6 := Lib.hid hr6; have HT6 : Hid (TrC mx ma w2 w6) := TrC.tr HT5.out ht6; clear p0 p1 n0 n1 n2 n3 n4; obtain ⟨p0, p1, n0, n1, n2, n3, n4⟩ := HCX.out w6 HT6.out; clear hr6 ht6)
          | (go_at_call 58; (with_reducible refine (HMU1.out _ HX3.out).mono ?_); rintro e w4 ⟨rfl, hr4, ht4⟩; have HR4 := Lib.hid hr4; have HT4 : Hid (TrC mx ma w2 w4) := TrC.tr (TrC.ext HX3.out) ht4; have HU4 := Lib.hid (HU3.out.trc (HRC2.out.ext HX3.out) ht4); clear p0 p1 n0 n1 n2 n3 n4; obtain ⟨p0, p1, n0, n1, n2, n3, n4⟩ := HCX.out w4 HT4.out; clear hr4 ht4)
          | (go_at_call 59; (with_reducible refine (HCH.out _ _ (HT4.out.below HX22.out hm1 hm2) HR4.out HU4.out).mono ?_); rintro e w5 ⟨rfl, hr5, ht5⟩; have HR5 := Lib.hid hr5; have HT5 : Hid (TrC mx ma w2 w5) := TrC.tr HT4.out ht5; clear p0 p1 n0 n1 n2 n3 n4; obtain ⟨p0, p1, n0, n1, n2, n3, n4⟩ := HCX.out w5 HT5.out; clear hr5 ht5)
          | fail "none")
        go_ret
        exact ⟨ret_bool HR2.out.symm, HR6.out.mono (by have := HBE.out; omega), TrC.tr (TrC.ext HX2.out) HT6.out⟩
      · have HR2 : Hid (vN C S t = brB C S (xtorsC C t.ty) t.brs) := by show _ = _; rw [HR.out]; exact Bool.true_and _
        go_wp2_with (first
          | (go_at_call 56; (with_reducible refine (HAR2.out).mono ?_); rintro e w3 ⟨⟨u, rfl, hu⟩, hx3⟩; have HU3 := Lib.hid hu; obtain ⟨Au, cu, huf, -, -⟩ := hu.form; rw [← HLA.out] at huf; subst huf; have HX3 := Lib.hid hx3; clear p0 p1 n0 n1 n2 n3 n4; obtain ⟨p0, p1, n0, n1, n2, n3, n4⟩ := HCX.out w3 (TrC.ext hx3); clear hu hx3)
          | (go_at_call 58; (with_reducible refine (HMU2.out _ HR5.out).mono ?_); rintro e w6 ⟨rfl, hr6, ht6⟩; have HR6 := Lib.hid hr6; have HT6 : Hid (TrC mx ma w2 w6) := TrC.tr HT5.out ht6; clear p0 p1 n0 n1 n2 n3 n4; obtain ⟨p0, p1, n0, n1, n2, n3, n4⟩ := HCX.out w6 HT6.out; clear hr6 ht6)
          | (go_at_call 58; (with_reducible refine (HMU1.out _ HX3.out).mono ?_); rintro e w4 ⟨rfl, hr4, ht4⟩; have HR4 := Lib.hid hr4; have HT4 : Hid (TrC mx ma w2 w4) := TrC.tr (TrC.ext HX3.out) ht4; have HU4 := Lib.hid (HU3.out.trc (HRC2.out.ext HX3.out) ht4); clear p0 p1 n0 n1 n2 n3 n4; obtain ⟨p0, p1, n0, n1, n2, n3, n4⟩ := HCX.out w4 HT4.out; clear hr4 ht4)
          | (go_at_call 59; (with_reducible refine (HCH.out _ _ (HT4.out.below HX22.out hm1 hm2) HR4.out HU4.out).mono ?_); rintro e w5 ⟨rfl, hr5, ht5⟩; have HR5 := Lib.hid hr5; have HT5 : Hid (TrC mx ma w2 w5) := TrC.tr HT4.out ht5; clear p0 p1 n0 n1 n2 n3 n4; obtain ⟨p0, p1, n0, n1, n2, n3, n4⟩ := HCX.out w5 HT5.out; clear hr5 ht5)
          | fail "none")
        clear HR HMU1 HMU2 HCH HAR2 HR4 HR5 HU3 HU4
        clear p0 p1 n0 n1 n2 n3 n4
        obtain ⟨N, hN⟩ : ∃ N, n + 2 + 2 * bndA t.args = N := ⟨_, rfl⟩
        rw [hN] at HR6
        have HNB : Hid (N + 2 * bndB t.brs = n + 2 * bndN t) := by show _ = _; have := HBE.out; omega
        have hNb : N + 2 * bndB t.brs ≤ 1000000000 := by have := HBE.out; omega
        have hmB : m + 2 * bndB t.brs ≤ 1000000000 := by have := HBE.out; omega
        clear hN
        go_loopw [69] (fun i wr => ∃ (j : Nat), j ≤ t.brs.length ∧ i = .int .i64 j ∧ RC wr p mx ma (N + 2 * bndB (t.brs.take j)) c ∧ TrC mx ma w2 wr ∧ brB C S (xtorsC C t.ty) t.brs = brB C S ((xtorsC C t.ty).drop j) (t.brs.drop j)) (fun i _ => t.brs.length - (intOf i).toNat)
        case atStart => exact ⟨0, Nat.zero_le _, rfl, by simpa [bndB] using HR6.out, HT6.out, rfl⟩
        case round =>
          obtain ⟨j, hj, rfl, hs, htr, hty⟩ := hrel
          have HS := Lib.hid hs; have HTR := Lib.hid htr; have HTY := Lib.hid hty
          have HXR : Hid (Ext wA wr) := htr.below HX22.out hm1 hm2
          have HBR1 := Lib.hid (htr.cells HRC2.out HB1.out)
          have HBR2 := Lib.hid (htr.cells HRC2.out HB2.out)
          clear hs htr hty
          by_cases hlt : j < t.brs.length
          · obtain ⟨b, o, vv, vc, xa, xb, rfl, hbl, y0, y1, y2, y3, yc, yt⟩ := HT.out.br hlt
            obtain ⟨hub, hxn⟩ := brsN_uses HBB.out.symm (show 0 < t.brs.length by omega)
            obtain ⟨ht1, ht2⟩ := uses_decl (HREF.out HQ.out) hub
            have hjx : j < (xtorsC C t.ty).length := by omega
            have hxi : (xtorsC C t.ty)[j]? = some (xtorsC C t.ty)[j] := List.getElem?_eq_getElem hjx
            have hxa := HXA.out j _ hxi ht1 ht2
            obtain ⟨u, bd, od, bx, ox, cx0, vaa, e1, hu1, rfl, d1, hc1, hc2, d2, d3⟩ := HXC.out j _ ht1 ht2 hxi
            have HXS := Lib.hid (HB.out j _ (List.getElem?_eq_getElem hlt) xa xb yt)
            have hsl := HSH.out _ (List.getElem_mem hlt)
            have HBT := Lib.hid (bndB_take hlt)
            have HST := Lib.hid (brB_step (C := C) (S := S) hlt hjx)
            have y0 := HXR.out.keep y0
            have y2 := HXR.out.keep y2
            obtain ⟨c0, c1, c2, c3, c4⟩ := yc.below HXR.out
            obtain ⟨_, ⟨Ax, cx, rfl, -, -⟩, ⟨Bx, dx, rfl, -, -⟩⟩ := yt.form
            obtain ⟨Av, cv, rfl, -, -⟩ := y1.form
            obtain ⟨Ac, cc, rfl, -, -⟩ := y3.form
            obtain ⟨Aa, caa, rfl, -, -⟩ := d3.form
            have HY1 := Lib.hid y1; have HY3 := Lib.hid y3; have HD3 := Lib.hid d3
            have d1 := HXR.out.keep d1
            have d2 := HXR.out.keep d2
            clear y1 y3 yc yt hxi d3
            generalize t.brs[j] = br at *
            obtain ⟨vs, cs, x2⟩ := br
            generalize (xtorsC C t.ty)[j] = xx at *
            dsimp only at *
            have hbt := HBT.out
            unfold maxLen at hc2
            have HEX := Lib.hid (Ext.al wr (.cells #[.slice Av vs.length cv, .slice Ac cs.length cc, .int .i64 x2.op, .int .i64 x2.n, .int .i64 x2.ty, .slice Ax x2.args.length cx, .slice Bx x2.brs.length dx] 97))
            have HNX := Lib.hid (heapNew wr (.cells #[.slice Av vs.length cv, .slice Ac cs.length cc, .int .i64 x2.op, .int .i64 x2.n, .int .i64 x2.ty, .slice Ax x2.args.length cx, .slice Bx x2.brs.length dx] 97))
            obtain ⟨qs, hqs⟩ : ∃ qs, xx.args.map Arg.co = qs := ⟨_, rfl⟩
            have hqn : xx.args.length = qs.length := by rw [← hqs, List.length_map]
            have HBH : Hid (brH xx.args (vs, cs, x2) = (decide (vs.length = qs.length) && eqB cs qs && distR vs qs)) := by show _ = _; unfold brH; rw [hqs, hqn]
            have HCO : Hid (∀ W, Ext wr W → Calls Tryz.prog 55 #[.slice Aa xx.args.length caa] W fun e w' => (∃ u, e = .returned u ∧ RBools w' u qs) ∧ Ext W w') := fun W hW => by
              have := cos6_any (.slice Aa xx.args.length caa) xx.args W ((HD3.out.below HXR.out).below hW) hxa
              rw [hqs] at this; exact this
            have HBK : Hid (brK C S (vs, cs, x2) = (decide (kindI x2.op = 3) && vN C (addS S (zipCo vs cs)) x2)) := rfl
            obtain ⟨ki, hki⟩ : ∃ ki, kindI x2.op = ki := ⟨_, rfl⟩
            have HKI : Hid (∀ W, Calls Tryz.prog 16 #[.int .i64 x2.op] W fun e w' => e = .returned (.int .i64 ki) ∧ W = w') := fun W => by have := kind6_any x2.op W; rw [hki] at this; exact this
            obtain ⟨r, hr⟩ : ∃ r, vN C (addS S (zipCo vs cs)) x2 = r := ⟨_, rfl⟩
            rw [hki, hr] at HBK
            have hz := zipCo_length vs cs
            obtain ⟨L2, hL2⟩ : ∃ L2, zipCo vs cs = L2 := ⟨_, rfl⟩
            rw [hL2] at hz hr
            have HB1' : Hid (∀ W, Ext wA W → RC W p mx ma (N + 2 * bndB (t.brs.take j)) c → Calls Tryz.prog 61 #[.pointer (some ⟨p, 0, none⟩), brV (.slice Av vs.length cv) (.slice Ac cs.length cc) x2 (.slice Ax x2.args.length cx) (.slice Bx x2.brs.length dx), .int .i64 1] W fun e w' => e = .returned (.tuple #[]) ∧ RC w' p mx ma (N + 2 * bndB (t.brs.take j) + vs.length) (addC c L2 1) ∧ TrC mx ma W w') := fun W hW h => by
              have := branch6_any wA W p mx ma _ c _ _ vs cs x2 (.slice Ax x2.args.length cx) (.slice Bx x2.brs.length dx) 1 hW hm1 hm2 h HY1.out HY3.out hsl HCN.out.b1 (HCN.out.b2 (by omega)) (.inl rfl) (by omega)
              rw [hL2] at this; exact this
            have HB2' : Hid (∀ W, Ext wA W → RC W p mx ma (N + 2 * bndB (t.brs.take j) + vs.length + 2 * bndN x2) (addC c L2 1) → Calls Tryz.prog 61 #[.pointer (some ⟨p, 0, none⟩), brV (.slice Av vs.length cv) (.slice Ac cs.length cc) x2 (.slice Ax x2.args.length cx) (.slice Bx x2.brs.length dx), .int .i64 (-1)] W fun e w' => e = .returned (.tuple #[]) ∧ RC w' p mx ma (N + 2 * bndB (t.brs.take j) + 2 * (vs.length + bndN x2)) c ∧ TrC mx ma W w') := fun W hW h => by
              refine (branch6_any wA W p mx ma _ _ _ _ vs cs x2 (.slice Ax x2.args.length cx) (.slice Bx x2.brs.length dx) (-1) hW hm1 hm2 h HY1.out HY3.out hsl (HCN.out.add L2).b1 ((HCN.out.add L2).b2 (by omega)) (.inr rfl) (by omega)).mono ?_
              rintro e w' ⟨rfl, h1, h2⟩
              rw [hL2, addC_back] at h1
              exact ⟨rfl, h1.mono (by omega), h2⟩
            have HVA : Hid (∀ W, Ext wA W → RC W p mx ma (N + 2 * bndB (t.brs.take j) + vs.length) (addC c L2 1) → Calls Tryz.prog 25 #[cV (.slice (some ⟨bd, od, none⟩) C.decls.length cd) (.slice Af C.funs.length cf), .pointer (some ⟨p, 0, none⟩), nV x2 (.slice Ax x2.args.length cx) (.slice Bx x2.brs.length dx)] W fun e w' => e = .returned (.bool r) ∧ RC w' p mx ma (N + 2 * bndB (t.brs.take j) + vs.length + 2 * bndN x2) (addC c L2 1) ∧ TrC mx ma W w') := fun W hW h => by
              have := HXS.out W _ _ _ _ hW h (HCN.out.add L2) (by omega) (by omega)
              rw [hr] at this; exact this
            clear HXS hki hr hL2 hqs
            have hju : (u : Int) < C.decls.length := by omega
            have hjx2 : (j : Int) < (xtorsC C t.ty).length := by omega
            have hw1 : IntKind.wrap .i64 (t.ty - 1) = (u : Int) := by rw [e1]; exact IntWalk.i64_in _ (by omega)
            have hw2 : IntKind.wrap .i64 (u : Int) = (u : Int) := IntWalk.i64_in _ (by omega)
            have hu0 : (0 : Int) ≤ u := by omega
            have hj0 : (0 : Int) ≤ j := by omega
            have hjl : (j : Int) < t.brs.length := by omega
            have HS1 : Hid (RC (wr.alloc (.cells #[.slice Av vs.length cv, .slice Ac cs.length cc, .int .i64 x2.op, .int .i64 x2.n, .int .i64 x2.ty, .slice Ax x2.args.length cx, .slice Bx x2.brs.length dx] 97)) p mx ma (N + 2 * bndB (t.brs.take j)) c) := HS.out.ext HEX.out
            have HC3 : Hid (∀ W : World, TrC mx ma (wr.alloc (.cells #[.slice Av vs.length cv, .slice Ac cs.length cc, .int .i64 x2.op, .int .i64 x2.n, .int .i64 x2.ty, .slice Ax x2.args.length cx, .slice Bx x2.brs.length dx] 97)) W → W.cell? ⟨w.heap.size, 0, none⟩ = some (.slice (some ⟨bd, od, none⟩) C.decls.length cd) ∧ W.cell? ⟨w.heap.size, 1, none⟩ = some (.slice Af C.funs.length cf) ∧ W.cell? ⟨w.heap.size + 1, 0, none⟩ = some (.int .i64 t.op) ∧ W.cell? ⟨w.heap.size + 1, 1, none⟩ = some (.int .i64 t.n) ∧ W.cell? ⟨w.heap.size + 1, 2, none⟩ = some (.int .i64 t.ty) ∧ W.cell? ⟨w.heap.size + 1, 3, none⟩ = some (.slice A t.args.length ca) ∧ W.cell? ⟨w.heap.size + 1, 4, none⟩ = some (.slice (some ⟨b, o, none⟩) t.brs.length d) ∧ W.cell? ⟨wr.heap.size, 0, none⟩ = some (.slice Av vs.length cv) ∧ W.cell? ⟨wr.heap.size, 1, none⟩ = some (.slice Ac cs.length cc) ∧ W.cell? ⟨wr.heap.size, 2, none⟩ = some (.int .i64 x2.op) ∧ W.cell? ⟨wr.heap.size, 3, none⟩ = some (.int .i64 x2.n) ∧ W.cell? ⟨wr.heap.size, 4, none⟩ = some (.int .i64 x2.ty) ∧ W.cell? ⟨wr.heap.size, 5, none⟩ = some (.slice Ax x2.args.length cx) ∧ W.cell? ⟨wr.heap.size, 6, none⟩ = some (.slice Bx x2.brs.length dx)) := fun W h => by
              have h0 := h.cells HS1.out (HEX.out.lt HBR1.out)
              have h1 := h.cells HS1.out (HEX.out.lt HBR2.out)
              have h2 := h.cells HS1.out HNX.out
              exact ⟨cellAt h0 0, cellAt h0 1, cellAt h1 0, cellAt h1 1, cellAt h1 2, cellAt h1 3, cellAt h1 4, cellAt h2 0, cellAt h2 1, cellAt h2 2, cellAt h2 3, cellAt h2 4, cellAt h2 5, cellAt h2 6⟩
            obtain ⟨p0, p1, n0, n1, n2, n3, n4, b0, b1, b2, b3, b4, b5, b6⟩ := HC3.out (wr.alloc (.cells #[.slice Av vs.length cv, .slice Ac cs.length cc, .int .i64 x2.op, .int .i64 x2.n, .int .i64 x2.ty, .slice Ax x2.args.length cx, .slice Bx x2.brs.length dx] 97)) (Only.rf _ _)
            have d1 := HEX.out.keep d1
            have d2 := HEX.out.keep d2
            have HSB : Hid (∀ W u, Ext wA W → RBools W u qs → Calls Tryz.prog 60 #[.slice Ac cs.length cc, u] W fun e w' => e = .returned (.bool (eqB cs qs)) ∧ Ext W w') := fun W u hW hu => SameBools_any _ _ _ _ W (HY3.out.below hW) hu
            by_cases hlq : vs.length = qs.length
            rotate_left
            · have HRF : Hid (vN C S t = false) := by show _ = _; rw [HR2.out, HTY.out, HST.out, HBH.out, decide_eq_false hlq]; simp
              have e1 : ((vs.length : Int) == (qs.length : Int)) = false := by simpa using fun e => hlq (by omega)
              have e2 : ((vs.length : Int) != (qs.length : Int)) = true := by rw [bne, e1]; rfl
              clear hlq hz hqn
              go_wp2_with (first
                | (go_at_call 55; (with_reducible refine (HCO.out _ HEX.out).mono ?_); rintro e w10 ⟨⟨u2, rfl, hu⟩, hx10⟩; obtain ⟨Aq, cq, hqf, -, -⟩ := hu.form; subst hqf; have HU := Lib.hid hu; have HT10 : Hid (TrC mx ma (wr.alloc (.cells #[.slice Av vs.length cv, .slice Ac cs.length cc, .int .i64 x2.op, .int .i64 x2.n, .int .i64 x2.ty, .slice Ax x2.args.length cx, .slice Bx x2.brs.length dx] 97)) w10) := TrC.ext hx10; have HS10 := Lib.hid (HS1.out.ext hx10); have HX10 : Hid (Ext wA w10) := HT10.out.below (HXR.out.tr HEX.out) hm1 hm2; clear p0 p1 n0 n1 n2 n3 n4 b0 b1 b2 b3 b4 b5 b6; obtain ⟨p0, p1, n0, n1, n2, n3, n4, b0, b1, b2, b3, b4, b5, b6⟩ := HC3.out w10 HT10.out; clear hu hx10)
                | fail "none")
              go_ret
              exact ⟨ret_bool HRF.out.symm, (HS10.out).mono (by have := HNB.out; omega), TrC.tr (TrC.ext HX2.out) (TrC.tr HTR.out (TrC.tr (TrC.ext HEX.out) HT10.out))⟩
            have HDI : Hid (∀ W u, Ext wA W → RBools W u qs → Calls Tryz.prog 54 #[.slice Av vs.length cv, u] W fun e w' => e = .returned (.bool (distR vs qs)) ∧ Ext W w') := fun W u hW hu => distinct6_any _ _ vs qs W (HY1.out.below hW) hu (by omega)
            have HLQ := Lib.hid hlq
            rw [decide_eq_true hlq] at HBH
            clear hlq hz hqn
            cases heq : eqB cs qs
            · have HRF : Hid (vN C S t = false) := by show _ = _; rw [HR2.out, HTY.out, HST.out, HBH.out, heq]; simp
              rw [heq] at HSB
              clear heq
              go_wp2_with (first
                | (go_at_call 55; (with_reducible refine (HCO.out _ HEX.out).mono ?_); rintro e w10 ⟨⟨u2, rfl, hu⟩, hx10⟩; obtain ⟨Aq, cq, hqf, -, -⟩ := hu.form; rw [← HLQ.out] at hqf; subst hqf; have HU := Lib.hid hu; have HT10 : Hid (TrC mx ma (wr.alloc (.cells #[.slice Av vs.length cv, .slice Ac cs.length cc, .int .i64 x2.op, .int .i64 x2.n, .int .i64 x2.ty, .slice Ax x2.args.length cx, .slice Bx x2.brs.length dx] 97)) w10) := TrC.ext hx10; have HS10 := Lib.hid (HS1.out.ext hx10); have HX10 : Hid (Ext wA w10) := HT10.out.below (HXR.out.tr HEX.out) hm1 hm2; clear p0 p1 n0 n1 n2 n3 n4 b0 b1 b2 b3 b4 b5 b6; obtain ⟨p0, p1, n0, n1, n2, n3, n4, b0, b1, b2, b3, b4, b5, b6⟩ := HC3.out w10 HT10.out; clear hu hx10)
                | (go_at_call 60; (with_reducible refine (HSB.out _ _ HX10.out HU.out).mono ?_); rintro e w11 ⟨rfl, hx11⟩; have HU11 := Lib.hid (HU.out.below hx11); have HT11 : Hid (TrC mx ma (wr.alloc (.cells #[.slice Av vs.length cv, .slice Ac cs.length cc, .int .i64 x2.op, .int .i64 x2.n, .int .i64 x2.ty, .slice Ax x2.args.length cx, .slice Bx x2.brs.length dx] 97)) w11) := TrC.tr HT10.out (TrC.ext hx11); have HS11 := Lib.hid (HS10.out.ext hx11); have HX11 : Hid (Ext wA w11) := HX10.out.tr hx11; clear p0 p1 n0 n1 n2 n3 n4 b0 b1 b2 b3 b4 b5 b6; obtain ⟨p0, p1, n0, n1, n2, n3, n4, b0, b1, b2, b3, b4, b5, b6⟩ := HC3.out w11 HT11.out; clear hx11)
                | fail "none")
              go_ret
              exact ⟨ret_bool HRF.out.symm, (HS11.out).mono (by have := HNB.out; omega), TrC.tr (TrC.ext HX2.out) (TrC.tr HTR.out (TrC.tr (TrC.ext HEX.out) HT11.out))⟩
            rw [heq] at HSB HBH
            clear heq
            cases hdi : distR vs qs
            · have HRF : Hid (vN C S t = false) := by show _ = _; rw [HR2.out, HTY.out, HST.out, HBH.out, hdi]; simp
              rw [hdi] at HDI
              clear hdi
              go_wp2_with (first
                | (go_at_call 55; (with_reducible refine (HCO.out _ HEX.out).mono ?_); rintro e w10 ⟨⟨u2, rfl, hu⟩, hx10⟩; obtain ⟨Aq, cq, hqf, -, -⟩ := hu.form; rw [← HLQ.out] at hqf; subst hqf; have HU := Lib.hid hu; have HT10 : Hid (TrC mx ma (wr.alloc (.cells #[.slice Av vs.length cv, .slice Ac cs.length cc, .int .i64 x2.op, .int .i64 x2.n, .int .i64 x2.ty, .slice Ax x2.args.length cx, .slice Bx x2.brs.length dx] 97)) w10) := TrC.ext hx10; have HS10 := Lib.hid (HS1.out.ext hx10); have HX10 : Hid (Ext wA w10) := HT10.out.below (HXR.out.tr HEX.out) hm1 hm2; clear p0 p1 n0 n1 n2 n3 n4 b0 b1 b2 b3 b4 b5 b6; obtain ⟨p0, p1, n0, n1, n2, n3, n4, b0, b1, b2, b3, b4, b5, b6⟩ := HC3.out w10 HT10.out; clear hu hx10)
                | (go_at_call 60; (with_reducible refine (HSB.out _ _ HX10.out HU.out).mono ?_); rintro e w11 ⟨rfl, hx11⟩; have HU11 := Lib.hid (HU.out.below hx11); have HT11 : Hid (TrC mx ma (wr.alloc (.cells #[.slice Av vs.length cv, .slice Ac cs.length cc, .int .i64 x2.op, .int .i64 x2.n, .int .i64 x2.ty, .slice Ax x2.args.length cx, .slice Bx x2.brs.length dx] 97)) w11) := TrC.tr HT10.out (TrC.ext hx11); have HS11 := Lib.hid (HS10.out.ext hx11); have HX11 : Hid (Ext wA w11) := HX10.out.tr hx11; clear p0 p1 n0 n1 n2 n3 n4 b0 b1 b2 b3 b4 b5 b6; obtain ⟨p0, p1, n0, n1, n2, n3, n4, b0, b1, b2, b3, b4, b5, b6⟩ := HC3.out w11 HT11.out; clear hx11)
                | (go_at_call 54; (with_reducible refine (HDI.out _ _ HX11.out HU11.out).mono ?_); rintro e w12 ⟨rfl, hx12⟩; have HT12 : Hid (TrC mx ma (wr.alloc (.cells #[.slice Av vs.length cv, .slice Ac cs.length cc, .int .i64 x2.op, .int .i64 x2.n, .int .i64 x2.ty, .slice Ax x2.args.length cx, .slice Bx x2.brs.length dx] 97)) w12) := TrC.tr HT11.out (TrC.ext hx12); have HS12 := Lib.hid (HS11.out.ext hx12); have HX12 : Hid (Ext wA w12) := HX11.out.tr hx12; clear p0 p1 n0 n1 n2 n3 n4 b0 b1 b2 b3 b4 b5 b6; obtain ⟨p0, p1, n0, n1, n2, n3, n4, b0, b1, b2, b3, b4, b5, b6⟩ := HC3.out w12 HT12.out; clear hx12)
                | fail "none")
              go_ret
              exact ⟨ret_bool HRF.out.symm, (HS12.out).mono (by have := HNB.out; omega), TrC.tr (TrC.ext HX2.out) (TrC.tr HTR.out (TrC.tr (TrC.ext HEX.out) HT12.out))⟩
            rw [hdi] at HDI HBH
            clear hdi
            have HST2 : Hid (brB C S ((xtorsC C t.ty).drop j) (t.brs.drop j) = ((decide (ki = 3) && r) && brB C S ((xtorsC C t.ty).drop (j + 1)) (t.brs.drop (j + 1)))) := by show _ = _; rw [HST.out, HBH.out, HBK.out]; rfl
            by_cases hk3 : ki = 3
            rotate_left
            · have HRF : Hid (vN C S t = false) := by show _ = _; rw [HR2.out, HTY.out, HST2.out, decide_eq_false hk3]; simp
              have e1 : (ki == 3) = false := by simpa using hk3
              go_wp2_with (first
                | (go_at_call 55; (with_reducible refine (HCO.out _ HEX.out).mono ?_); rintro e w10 ⟨⟨u2, rfl, hu⟩, hx10⟩; obtain ⟨Aq, cq, hqf, -, -⟩ := hu.form; rw [← HLQ.out] at hqf; subst hqf; have HU := Lib.hid hu; have HT10 : Hid (TrC mx ma (wr.alloc (.cells #[.slice Av vs.length cv, .slice Ac cs.length cc, .int .i64 x2.op, .int .i64 x2.n, .int .i64 x2.ty, .slice Ax x2.args.length cx, .slice Bx x2.brs.length dx] 97)) w10) := TrC.ext hx10; have HS10 := Lib.hid (HS1.out.ext hx10); have HX10 : Hid (Ext wA w10) := HT10.out.below (HXR.out.tr HEX.out) hm1 hm2; clear p0 p1 n0 n1 n2 n3 n4 b0 b1 b2 b3 b4 b5 b6; obtain ⟨p0, p1, n0, n1, n2, n3, n4, b0, b1, b2, b3, b4, b5, b6⟩ := HC3.out w10 HT10.out; clear hu hx10)
                | (go_at_call 60; (with_reducible refine (HSB.out _ _ HX10.out HU.out).mono ?_); rintro e w11 ⟨rfl, hx11⟩; have HU11 := Lib.hid (HU.out.below hx11); have HT11 : Hid (TrC mx ma (wr.alloc (.cells #[.slice Av vs.length cv, .slice Ac cs.length cc, .int .i64 x2.op, .int .i64 x2.n, .int .i64 x2.ty, .slice Ax x2.args.length cx, .slice Bx x2.brs.length dx] 97)) w11) := TrC.tr HT10.out (TrC.ext hx11); have HS11 := Lib.hid (HS10.out.ext hx11); have HX11 : Hid (Ext wA w11) := HX10.out.tr hx11; clear p0 p1 n0 n1 n2 n3 n4 b0 b1 b2 b3 b4 b5 b6; obtain ⟨p0, p1, n0, n1, n2, n3, n4, b0, b1, b2, b3, b4, b5, b6⟩ := HC3.out w11 HT11.out; clear hx11)
                | (go_at_call 54; (with_reducible refine (HDI.out _ _ HX11.out HU11.out).mono ?_); rintro e w12 ⟨rfl, hx12⟩; have HT12 : Hid (TrC mx ma (wr.alloc (.cells #[.slice Av vs.length cv, .slice Ac cs.length cc, .int .i64 x2.op, .int .i64 x2.n, .int .i64 x2.ty, .slice Ax x2.args.length cx, .slice Bx x2.brs.length dx] 97)) w12) := TrC.tr HT11.out (TrC.ext hx12); have HS12 := Lib.hid (HS11.out.ext hx12); have HX12 : Hid (Ext wA w12) := HX11.out.tr hx12; clear p0 p1 n0 n1 n2 n3 n4 b0 b1 b2 b3 b4 b5 b6; obtain ⟨p0, p1, n0, n1, n2, n3, n4, b0, b1, b2, b3, b4, b5, b6⟩ := HC3.out w12 HT12.out; clear hx12)
                | (go_at_call 16; (with_reducible refine (HKI.out _).mono ?_); rintro e w14 ⟨rfl, rfl⟩)
                | (go_at_call 61; (with_reducible refine (HB2'.out _ HX13.out (HR13.out.mono (by omega))).mono ?_); rintro e w16 ⟨rfl, hr16, ht16⟩; have HR16 := Lib.hid hr16; have HT16 : Hid (TrC mx ma (wr.alloc (.cells #[.slice Av vs.length cv, .slice Ac cs.length cc, .int .i64 x2.op, .int .i64 x2.n, .int .i64 x2.ty, .slice Ax x2.args.length cx, .slice Bx x2.brs.length dx] 97)) w16) := TrC.tr HT13.out ht16; clear p0 p1 n0 n1 n2 n3 n4 b0 b1 b2 b3 b4 b5 b6; obtain ⟨p0, p1, n0, n1, n2, n3, n4, b0, b1, b2, b3, b4, b5, b6⟩ := HC3.out w16 HT16.out; clear hr16 ht16)
                | (go_at_call 61; (with_reducible refine (HB1'.out _ HX12.out HS12.out).mono ?_); rintro e w13 ⟨rfl, hr13, ht13⟩; have HR13 := Lib.hid hr13; have HT13 : Hid (TrC mx ma (wr.alloc (.cells #[.slice Av vs.length cv, .slice Ac cs.length cc, .int .i64 x2.op, .int .i64 x2.n, .int .i64 x2.ty, .slice Ax x2.args.length cx, .slice Bx x2.brs.length dx] 97)) w13) := TrC.tr HT12.out ht13; have HX13 : Hid (Ext wA w13) := HT13.out.below (HXR.out.tr HEX.out) hm1 hm2; clear p0 p1 n0 n1 n2 n3 n4 b0 b1 b2 b3 b4 b5 b6; obtain ⟨p0, p1, n0, n1, n2, n3, n4, b0, b1, b2, b3, b4, b5, b6⟩ := HC3.out w13 HT13.out; clear hr13 ht13)
                | fail "none")
              go_ret
              exact ⟨ret_bool HRF.out.symm, (HR16.out).mono (by have := HNB.out; omega), TrC.tr (TrC.ext HX2.out) (TrC.tr HTR.out (TrC.tr (TrC.ext HEX.out) HT16.out))⟩
            subst hk3
            cases r
            · have HRF : Hid (vN C S t = false) := by show _ = _; rw [HR2.out, HTY.out, HST2.out]; rfl
              go_wp2_with (first
                | (go_at_call 55; (with_reducible refine (HCO.out _ HEX.out).mono ?_); rintro e w10 ⟨⟨u2, rfl, hu⟩, hx10⟩; obtain ⟨Aq, cq, hqf, -, -⟩ := hu.form; rw [← HLQ.out] at hqf; subst hqf; have HU := Lib.hid hu; have HT10 : Hid (TrC mx ma (wr.alloc (.cells #[.slice Av vs.length cv, .slice Ac cs.length cc, .int .i64 x2.op, .int .i64 x2.n, .int .i64 x2.ty, .slice Ax x2.args.length cx, .slice Bx x2.brs.length dx] 97)) w10) := TrC.ext hx10; have HS10 := Lib.hid (HS1.out.ext hx10); have HX10 : Hid (Ext wA w10) := HT10.out.below (HXR.out.tr HEX.out) hm1 hm2; clear p0 p1 n0 n1 n2 n3 n4 b0 b1 b2 b3 b4 b5 b6; obtain ⟨p0, p1, n0, n1, n2, n3, n4, b0, b1, b2, b3, b4, b5, b6⟩ := HC3.out w10 HT10.out; clear hu hx10)
                | (go_at_call 60; (with_reducible refine (HSB.out _ _ HX10.out HU.out).mono ?_); rintro e w11 ⟨rfl, hx11⟩; have HU11 := Lib.hid (HU.out.below hx11); have HT11 : Hid (TrC mx ma (wr.alloc (.cells #[.slice Av vs.length cv, .slice Ac cs.length cc, .int .i64 x2.op, .int .i64 x2.n, .int .i64 x2.ty, .slice Ax x2.args.length cx, .slice Bx x2.brs.length dx] 97)) w11) := TrC.tr HT10.out (TrC.ext hx11); have HS11 := Lib.hid (HS10.out.ext hx11); have HX11 : Hid (Ext wA w11) := HX10.out.tr hx11; clear p0 p1 n0 n1 n2 n3 n4 b0 b1 b2 b3 b4 b5 b6; obtain ⟨p0, p1, n0, n1, n2, n3, n4, b0, b1, b2, b3, b4, b5, b6⟩ := HC3.out w11 HT11.out; clear hx11)
                | (go_at_call 54; (with_reducible refine (HDI.out _ _ HX11.out HU11.out).mono ?_); rintro e w12 ⟨rfl, hx12⟩; have HT12 : Hid (TrC mx ma (wr.alloc (.cells #[.slice Av vs.length cv, .slice Ac cs.length cc, .int .i64 x2.op, .int .i64 x2.n, .int .i64 x2.ty, .slice Ax x2.args.length cx, .slice Bx x2.brs.length dx] 97)) w12) := TrC.tr HT11.out (TrC.ext hx12); have HS12 := Lib.hid (HS11.out.ext hx12); have HX12 : Hid (Ext wA w12) := HX11.out.tr hx12; clear p0 p1 n0 n1 n2 n3 n4 b0 b1 b2 b3 b4 b5 b6; obtain ⟨p0, p1, n0, n1, n2, n3, n4, b0, b1, b2, b3, b4, b5, b6⟩ := HC3.out w12 HT12.out; clear hx12)
                | (go_at_call 16; (with_reducible refine (HKI.out _).mono ?_); rintro e w14 ⟨rfl, rfl⟩)
                | (go_at_call 25; (with_reducible refine (HVA.out _ HX13.out HR13.out).mono ?_); rintro e w15 ⟨rfl, hr15, ht15⟩; have HR15 := Lib.hid hr15; have HT15 : Hid (TrC mx ma (wr.alloc (.cells #[.slice Av vs.length cv, .slice Ac cs.length cc, .int .i64 x2.op, .int .i64 x2.n, .int .i64 x2.ty, .slice Ax x2.args.length cx, .slice Bx x2.brs.length dx] 97)) w15) := TrC.tr HT13.out ht15; have HX15 : Hid (Ext wA w15) := HT15.out.below (HXR.out.tr HEX.out) hm1 hm2; clear p0 p1 n0 n1 n2 n3 n4 b0 b1 b2 b3 b4 b5 b6; obtain ⟨p0, p1, n0, n1, n2, n3, n4, b0, b1, b2, b3, b4, b5, b6⟩ := HC3.out w15 HT15.out; clear hr15 ht15)
                | (go_at_call 61; (with_reducible refine (HB2'.out _ HX15.out HR15.out).mono ?_); rintro e w16 ⟨rfl, hr16, ht16⟩; have HR16 := Lib.hid hr16; have HT16 : Hid (TrC mx ma (wr.alloc (.cells #[.slice Av vs.length cv, .slice Ac cs.length cc, .int .i64 x2.op, .int .i64 x2.n, .int .i64 x2.ty, .slice Ax x2.args.length cx, .slice Bx x2.brs.length dx] 97)) w16) := TrC.tr HT15.out ht16; clear p0 p1 n0 n1 n2 n3 n4 b0 b1 b2 b3 b4 b5 b6; obtain ⟨p0, p1, n0, n1, n2, n3, n4, b0, b1, b2, b3, b4, b5, b6⟩ := HC3.out w16 HT16.out; clear hr16 ht16)
                | (go_at_call 61; (with_reducible refine (HB1'.out _ HX12.out HS12.out).mono ?_); rintro e w13 ⟨rfl, hr13, ht13⟩; have HR13 := Lib.hid hr13; have HT13 : Hid (TrC mx ma (wr.alloc (.cells #[.slice Av vs.length cv, .slice Ac cs.length cc, .int .i64 x2.op, .int .i64 x2.n, .int .i64 x2.ty, .slice Ax x2.args.length cx, .slice Bx x2.brs.length dx] 97)) w13) := TrC.tr HT12.out ht13; have HX13 : Hid (Ext wA w13) := HT13.out.below (HXR.out.tr HEX.out) hm1 hm2; clear p0 p1 n0 n1 n2 n3 n4 b0 b1 b2 b3 b4 b5 b6; obtain ⟨p0, p1, n0, n1, n2, n3, n4, b0, b1, b2, b3, b4, b5, b6⟩ := HC3.out w13 HT13.out; clear hr13 ht13)
                | fail "none")
              go_ret
              exact ⟨ret_bool HRF.out.symm, (HR16.out).mono (by have := HNB.out; omega), TrC.tr (TrC.ext HX2.out) (TrC.tr HTR.out (TrC.tr (TrC.ext HEX.out) HT16.out))⟩
            · have HRT : Hid (brB C S (xtorsC C t.ty) t.brs = brB C S ((xtorsC C t.ty).drop (j + 1)) (t.brs.drop (j + 1))) := by show _ = _; rw [HTY.out, HST2.out]; rfl
              go_wp2_with (first
                | (go_at_call 55; (with_reducible refine (HCO.out _ HEX.out).mono ?_); rintro e w10 ⟨⟨u2, rfl, hu⟩, hx10⟩; obtain ⟨Aq, cq, hqf, -, -⟩ := hu.form; rw [← HLQ.out] at hqf; subst hqf; have HU := Lib.hid hu; have HT10 : Hid (TrC mx ma (wr.alloc (.cells #[.slice Av vs.length cv, .slice Ac cs.length cc, .int .i64 x2.op, .int .i64 x2.n, .int .i64 x2.ty, .slice Ax x2.args.length cx, .slice Bx x2.brs.length dx] 97)) w10) := TrC.ext hx10; have HS10 := Lib.hid (HS1.out.ext hx10); have HX10 : Hid (Ext wA w10) := HT10.out.below (HXR.out.tr HEX.out) hm1 hm2; clear p0 p1 n0 n1 n2 n3 n4 b0 b1 b2 b3 b4 b5 b6; obtain ⟨p0, p1, n0, n1, n2, n3, n4, b0, b1, b2, b3, b4, b5, b6⟩ := HC3.out w10 HT10.out; clear hu hx10)
                | (go_at_call 60; (with_reducible refine (HSB.out _ _ HX10.out HU.out).mono ?_); rintro e w11 ⟨rfl, hx11⟩; have HU11 := Lib.hid (HU.out.below hx11); have HT11 : Hid (TrC mx ma (wr.alloc (.cells #[.slice Av vs.length cv, .slice Ac cs.length cc, .int .i64 x2.op, .int .i64 x2.n, .int .i64 x2.ty, .slice Ax x2.args.length cx, .slice Bx x2.brs.length dx] 97)) w11) := TrC.tr HT10.out (TrC.ext hx11); have HS11 := Lib.hid (HS10.out.ext hx11); have HX11 : Hid (Ext wA w11) := HX10.out.tr hx11; clear p0 p1 n0 n1 n2 n3 n4 b0 b1 b2 b3 b4 b5 b6; obtain ⟨p0, p1, n0, n1, n2, n3, n4, b0, b1, b2, b3, b4, b5, b6⟩ := HC3.out w11 HT11.out; clear hx11)
                | (go_at_call 54; (with_reducible refine (HDI.out _ _ HX11.out HU11.out).mono ?_); rintro e w12 ⟨rfl, hx12⟩; have HT12 : Hid (TrC mx ma (wr.alloc (.cells #[.slice Av vs.length cv, .slice Ac cs.length cc, .int .i64 x2.op, .int .i64 x2.n, .int .i64 x2.ty, .slice Ax x2.args.length cx, .slice Bx x2.brs.length dx] 97)) w12) := TrC.tr HT11.out (TrC.ext hx12); have HS12 := Lib.hid (HS11.out.ext hx12); have HX12 : Hid (Ext wA w12) := HX11.out.tr hx12; clear p0 p1 n0 n1 n2 n3 n4 b0 b1 b2 b3 b4 b5 b6; obtain ⟨p0, p1, n0, n1, n2, n3, n4, b0, b1, b2, b3, b4, b5, b6⟩ := HC3.out w12 HT12.out; clear hx12)
                | (go_at_call 16; (with_reducible refine (HKI.out _).mono ?_); rintro e w14 ⟨rfl, rfl⟩)
                | (go_at_call 25; (with_reducible refine (HVA.out _ HX13.out HR13.out).mono ?_); rintro e w15 ⟨rfl, hr15, ht15⟩; have HR15 := Lib.hid hr15; have HT15 : Hid (TrC mx ma (wr.alloc (.cells #[.slice Av vs.length cv, .slice Ac cs.length cc, .int .i64 x2.op, .int .i64 x2.n, .int .i64 x2.ty, .slice Ax x2.args.length cx, .slice Bx x2.brs.length dx] 97)) w15) := TrC.tr HT13.out ht15; have HX15 : Hid (Ext wA w15) := HT15.out.below (HXR.out.tr HEX.out) hm1 hm2; clear p0 p1 n0 n1 n2 n3 n4 b0 b1 b2 b3 b4 b5 b6; obtain ⟨p0, p1, n0, n1, n2, n3, n4, b0, b1, b2, b3, b4, b5, b6⟩ := HC3.out w15 HT15.out; clear hr15 ht15)
                | (go_at_call 61; (with_reducible refine (HB2'.out _ HX15.out HR15.out).mono ?_); rintro e w16 ⟨rfl, hr16, ht16⟩; have HR16 := Lib.hid hr16; have HT16 : Hid (TrC mx ma (wr.alloc (.cells #[.slice Av vs.length cv, .slice Ac cs.length cc, .int .i64 x2.op, .int .i64 x2.n, .int .i64 x2.ty, .slice Ax x2.args.length cx, .slice Bx x2.brs.length dx] 97)) w16) := TrC.tr HT15.out ht16; clear p0 p1 n0 n1 n2 n3 n4 b0 b1 b2 b3 b4 b5 b6; obtain ⟨p0, p1, n0, n1, n2, n3, n4, b0, b1, b2, b3, b4, b5, b6⟩ := HC3.out w16 HT16.out; clear hr16 ht16)
                | (go_at_call 61; (with_reducible refine (HB1'.out _ HX12.out HS12.out).mono ?_); rintro e w13 ⟨rfl, hr13, ht13⟩; have HR13 := Lib.hid hr13; have HT13 : Hid (TrC mx ma (wr.alloc (.cells #[.slice Av vs.length cv, .slice Ac cs.length cc, .int .i64 x2.op, .int .i64 x2.n, .int .i64 x2.ty, .slice Ax x2.args.length cx, .slice Bx x2.brs.length dx] 97)) w13) := TrC.tr HT12.out ht13; have HX13 : Hid (Ext wA w13) := HT13.out.below (HXR.out.tr HEX.out) hm1 hm2; clear p0 p1 n0 n1 n2 n3 n4 b0 b1 b2 b3 b4 b5 b6; obtain ⟨p0, p1, n0, n1, n2, n3, n4, b0, b1, b2, b3, b4, b5, b6⟩ := HC3.out w13 HT13.out; clear hr13 ht13)
                | fail "none")
              exact ⟨⟨j + 1, by omega, by go_num, by rw [HBT.out.1]; exact HR16.out.mono (by omega), TrC.tr HTR.out (TrC.tr (TrC.ext HEX.out) HT16.out), HRT.out⟩, by simp [intOf]; omega⟩
          · have hjl : j = t.brs.length := by omega
            have HRe : Hid (vN C S t = true) := by show _ = _; rw [HR2.out, HTY.out, brB_end (by omega)]
            have HSr : Hid (RC wr p mx ma (N + 2 * bndB t.brs) c) := by have := HS.out; rw [List.take_of_length_le (by omega)] at this; exact this
            go_wp2
            go_ret
            exact ⟨ret_bool HRe.out.symm, by rw [← HNB.out]; exact HSr.out, TrC.tr (TrC.ext HX2.out) HTR.out⟩
end Go.Proofs.YtkdhhcidpklgoaaGreatDoor
