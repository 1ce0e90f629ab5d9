/- ref07: Type at a command, operator 14. -/
import Derived.Test.YtkdhhcidpklgoaaGreatDoorQ36
import Derived.Deep.RegionHeld3
namespace Go.Proofs.YtkdhhcidpklgoaaGreatDoor
open Go.RowKit Go.Shelf Go.Maps
attribute [local go_sem] Oper.semAt_some

section
variable {C : Cg} {vd vf : Value} {wA : World} {p mx ma : Nat}
set_option maxHeartbeats 16000000 in
set_option maxRecDepth 100000 in
theorem ty7_14 (k : Nat) (n ty : Int) (args : List Nd) (brs : List Br) (va vb : Value) (hC : RCg wA vd vf C) (ht : RNd wA (k + 1) (.mk 14 n ty args brs) va vb)
    (hA : ∀ (i : Nat) x, args[i]? = some x → ∀ xa xb, RNd wA k x xa xb → HaS C vd vf wA p mx ma x xa xb ∧ GoS C vd vf wA p mx ma x xa xb) (hm1 : wA.heap.size ≤ mx) (hm2 : wA.heap.size ≤ ma) : TyO C vd vf wA p mx ma 14 n ty args brs va vb := by
  intro w n0 E S hx hr hs hn
  obtain ⟨x, rfl⟩ := list1 (args_len hs)
  have hfa := fa_is hs rfl
  have hmv : addS S (muV 14 n) = S := rfl
  rw [hmv] at hfa
  have hfa : [sortN C S x] = [(0 : Int)] := hfa
  have hsx : sortN C S x = 0 := (List.cons.inj hfa).1
  have hbm := bnd_mk 14 n ty [x] brs
  have hbx : bndA [x] = bndN x := by simp [bndA] <;> omega
  obtain ⟨rx, hrx⟩ : ∃ r, decide (typN C E x = some 0) = r := ⟨_, rfl⟩
  have htyp : (typN C E (.mk 14 n ty [x] brs)).isSome = (rx) := by
    rw [no_brs_typ hs rfl, if_some]
    show (decide (typN C E x = some 0) && true) = _
    rw [hrx, Bool.and_true]
  rw [htyp]
  obtain ⟨Ad, cd, rfl, -, -⟩ := hC.d.form
  obtain ⟨Af, cf, rfl, -, -⟩ := hC.f.form
  obtain ⟨A, ca, rfl, -, -⟩ : ∃ A ca, va = .slice A 1 ca ∧ _ := ht.form.2.1
  obtain ⟨B, d, rfl, -, -⟩ : ∃ B d, vb = .slice B brs.length d ∧ _ := ht.form.2.2
  obtain ⟨b, o, xax, xbx, rfl, -, ycx, ytx⟩ : ∃ b o xa xb, A = some ⟨b, o, none⟩ ∧ b < wA.heap.size ∧ N5 wA b (o + 0 * 5) x xa xb ∧ RNd wA k x xa xb := RNd.arg (t := .mk 14 n ty [x] brs) ht (i := 0) (show (0 : Nat) < 1 by decide)
  have hhx := hA 0 x rfl xax xbx ytx
  obtain ⟨_, ⟨Ax, cx, rfl, -, -⟩, ⟨Bx, dx, rfl, -, -⟩⟩ := ytx.form
  have HYx := Lib.hid ycx
  have HH00 : Hid (∀ W, Ext wA W → RS W p mx ma (n0) (lastE E) → Calls Tryz.prog 43 #[.pointer (some ⟨p, 0, none⟩), cV (.slice Ad C.decls.length cd) (.slice Af C.funs.length cf), nV x (.slice Ax x.args.length cx) (.slice Bx x.brs.length dx), .int .i64 0] W fun e w' => e = .returned (.bool rx) ∧ RS w' p mx ma (n0 + 2 * bndN x) (lastE E) ∧ TrC mx ma W w') := fun W hW h => by rw [← hrx]; exact hhx.1 W _ E S 0 hW h (by rw [hsx]; decide) (by omega)
  have HM : Hid (n0 + 2 * bndN x ≤ n0 + 2 * bndN (.mk 14 n ty [x] brs)) := by show _ ≤ _; omega
  have HM0 : Hid (n0 + 2 * bndN x ≤ n0 + 2 * bndN (.mk 14 n ty [x] brs)) := by show _ ≤ _; omega
  have HU : Hid (∀ q, uR E 14 n ty q = 0) := fun q => rfl
  obtain ⟨u9, hu9⟩ : ∃ u, uR E 14 n ty (rx) = u := ⟨_, rfl⟩
  have HU9 : Hid (u9 = 0) := by show _ = _; rw [← hu9]; rfl
  rw [hu9]
  generalize n0 + 2 * bndN (.mk 14 n ty [x] brs) = M at *
  have HX2 := Lib.hid (Ext.al2 w (.cells #[.slice Ad C.decls.length cd, .slice Af C.funs.length cf] 25) (.cells #[.int .i64 14, .int .i64 n, .int .i64 ty, .slice (some ⟨b, o, none⟩) 1 ca, .slice B brs.length d] 36))
  have HB1 : Hid (((w.alloc (.cells #[.slice Ad C.decls.length cd, .slice Af C.funs.length cf] 25)).alloc (.cells #[.int .i64 14, .int .i64 n, .int .i64 ty, .slice (some ⟨b, o, none⟩) 1 ca, .slice B brs.length d] 36)).heap[w.heap.size]? = some (.cells #[.slice Ad C.decls.length cd, .slice Af C.funs.length cf] 25 (0, 0))) := Ext.lt (Ext.al _ _) (heapNew w _)
  have HB2 := Lib.hid (heapNew2 w (.cells #[.slice Ad C.decls.length cd, .slice Af C.funs.length cf] 25) (.cells #[.int .i64 14, .int .i64 n, .int .i64 ty, .slice (some ⟨b, o, none⟩) 1 ca, .slice B brs.length d] 36))
  have HX := Lib.hid hx; have HR := Lib.hid hr
  clear hA hx hr hs hn ht hC htyp hfa hmv hbm hbx hu9 HU hsx ycx ytx hhx hrx
  go_enter Tryz.func15, Tryz.ntmps15
  go_wp2_with fail
  generalize (w.alloc _).alloc _ = w2 at *
  have HR2 := Lib.hid (HR.out.ext HX2.out)
  have HX22 : Hid (Ext wA w2) := HX.out.tr HX2.out
  have HCE : Hid (∀ W, TrC mx ma w2 W → W.cell? ⟨w.heap.size, 0, none⟩ = some (.slice Ad C.decls.length cd) ∧ W.cell? ⟨w.heap.size, 1, none⟩ = some (.slice Af C.funs.length cf) ∧ W.cell? ⟨w.heap.size + 1, 2, none⟩ = some (.int .i64 ty) ∧ W.cell? ⟨w.heap.size + 1, 3, none⟩ = some (.slice (some ⟨b, o, none⟩) 1 ca) ∧ W.cell? ⟨b, o, none⟩ = some (.int .i64 x.op) ∧ W.cell? ⟨b, o + 1, none⟩ = some (.int .i64 x.n) ∧ W.cell? ⟨b, o + 2, none⟩ = some (.int .i64 x.ty) ∧ W.cell? ⟨b, o + 3, none⟩ = some (.slice Ax x.args.length cx) ∧ W.cell? ⟨b, o + 4, none⟩ = some (.slice Bx x.brs.length dx)) := fun W h => by
    have h0 := HR2.out.cells h HB1.out
    have h1 := HR2.out.cells h HB2.out
    have hxx := h.below HX22.out hm1 hm2
    have gx := HYx.out.below hxx
    have gx := gx.at0
    exact ⟨cellAt h0 0, cellAt h0 1, cellAt h1 2, cellAt h1 3, gx.c0, gx.c1, gx.c2, gx.c3, gx.c4⟩
  have HH0 : Hid (∀ W, TrC mx ma w2 W → RS W p mx ma (n0) (lastE E) → Calls Tryz.prog 43 #[.pointer (some ⟨p, 0, none⟩), cV (.slice Ad C.decls.length cd) (.slice Af C.funs.length cf), nV x (.slice Ax x.args.length cx) (.slice Bx x.brs.length dx), .int .i64 0] W fun e w' => e = .returned (.bool rx) ∧ RS w' p mx ma (n0 + 2 * bndN x) (lastE E) ∧ TrC mx ma w2 w') := fun W hW h => by
    refine (HH00.out W (hW.below HX22.out hm1 hm2) h).mono ?_
    rintro e w' ⟨rfl, h1, h2⟩
    exact ⟨rfl, h1, TrC.tr hW h2⟩
  clear HH00
  obtain ⟨k0, k1, k2, k3, k4, k5, k6, k7, k8⟩ := HCE.out w2 (Only.rf _ _)
  go_wp2_with fail
  go_region_held3 (fun W => W.cell? ⟨w.heap.size, 0, none⟩ = some (.slice Ad C.decls.length cd) ∧ W.cell? ⟨w.heap.size, 1, none⟩ = some (.slice Af C.funs.length cf) ∧ W.cell? ⟨w.heap.size + 1, 2, none⟩ = some (.int .i64 ty) ∧ W.cell? ⟨w.heap.size + 1, 3, none⟩ = some (.slice (some ⟨b, o, none⟩) 1 ca) ∧ W.cell? ⟨b, o, none⟩ = some (.int .i64 x.op) ∧ W.cell? ⟨b, o + 1, none⟩ = some (.int .i64 x.n) ∧ W.cell? ⟨b, o + 2, none⟩ = some (.int .i64 x.ty) ∧ W.cell? ⟨b, o + 3, none⟩ = some (.slice Ax x.args.length cx) ∧ W.cell? ⟨b, o + 4, none⟩ = some (.slice Bx x.brs.length dx))
    (first | exact HCE.out _ HT0.out | exact HCE.out _ (TrC.ext (Ext.rf _).drew) | exact HCE.out _ (TrC.ext (Ext.rf _)) | fail "KEEP")
    (first
      | (go_at_call 43; (with_reducible refine (HH0.out _ (TrC.ext (by first | exact (Ext.rf _).drew | exact Ext.rf _)) (HR2.out.ext (by first | exact (Ext.rf _).drew | exact Ext.rf _))).mono ?_); rintro e v0 ⟨rfl, hr0, ht0⟩; have HR0' := Lib.hid hr0; have HT0 := Lib.hid ht0; clear hr0 ht0)
      | fail "ARM")
  all_goals
    go_wp2
    refine bodyPost_ret (results_tmp2 rfl _ _ _) rfl ?_
    exact ⟨by rw [HU9.out]; (try simp only [Bool.false_and, Bool.true_and, Bool.and_false, Bool.and_true]); rfl, HR0'.out.mono HM0.out, TrC.tr (TrC.ext HX2.out) HT0.out⟩
end
end Go.Proofs.YtkdhhcidpklgoaaGreatDoor

/- ref07: Type at a match. -/
namespace Go.Proofs.YtkdhhcidpklgoaaGreatDoor
open Go.RowKit Go.Shelf Go.Maps
attribute [local go_sem] Oper.semAt_some

section
variable {C : Cg} {vd vf : Value} {wA : World} {p mx ma : Nat}
theorem match_typ {E : Ev} {S : Sc} {op n ty : Int} {args : List Nd} {brs : List Br} (hs : sortN C S (.mk op n ty args brs) ≠ 3) (h : op = 4 ∨ op = 8) : typN C E (.mk op n ty args brs) = if typB C E ty 0 brs then some ty else none := by
  have hw : wantS C op n ty = [] := by rcases h with rfl | rfl <;> rfl
  have hl := args_len hs
  rw [hw] at hl
  have := List.eq_nil_of_length_eq_zero hl
  subst this
  have ho : ownT E op n ty = ty := by rcases h with rfl | rfl <;> rfl
  have hm : muV op n = [] := by rcases h with rfl | rfl <;> rfl
  rw [typN_eq]
  show (if (typA C (pushE E (muV op n) [ty]) op n ty 0 [] && typB C E ty 0 brs) = true then some (ownT E op n ty) else none) = _
  rw [typA, Bool.true_and, ho]
theorem bndN_brs (op n ty : Int) (args : List Nd) (brs : List Br) : bndB brs ≤ bndN (.mk op n ty args brs) := by
  have h : bndN (.mk op n ty args brs) = 1 + (bndA args + bndB brs) := bndN_eq _
  omega
set_option maxHeartbeats 16000000 in
set_option maxRecDepth 100000 in
theorem ty7_4 (k : Nat) (n ty : Int) (args : List Nd) (brs : List Br) (va vb : Value) (hC : RCg wA vd vf C) (hS : ShC C) (ht : RNd wA (k + 1) (.mk 4 n ty args brs) va vb) (hb : BN (.mk 4 n ty args brs))
    (hB : ∀ (i : Nat) (x : Br), brs[i]? = some x → ∀ vv vc xa xb, RInts wA vv x.1 → RBools wA vc x.2.1 → RNd wA k x.2.2 xa xb → BoS C vd vf wA p mx ma x.1 x.2.1 x.2.2 vv vc xa xb) (hm1 : wA.heap.size ≤ mx) (hm2 : wA.heap.size ≤ ma) : TyO C vd vf wA p mx ma 4 n ty args brs va vb := by
  intro w n0 E S hx hr hs hn
  rw [match_typ hs (by decide)]
  have hnb : brs.length ≤ 1048576 := hb.nb
  have hbn := bndN_brs 4 n ty args brs
  have hdl := hS.dl
  have hxl := hS.xtors ty
  have HSB := Lib.hid (fun (i : Nat) (b : Br) (hi : brs[i]? = some b) => (sort_br hs hi : ∃ x, (xtorsC C ty)[i]? = some x ∧ _))
  have HRF : Hid (brs ≠ [] → 1 ≤ ty ∧ ty ≤ C.decls.length) := fun _ => uses_decl (sort_parts hs).1.rf rfl
  have hlen : brs.length = (xtorsC C ty).length := (sort_parts hs).1.bl
  obtain ⟨q, hq⟩ : ∃ q, typB C E ty 0 brs = q := ⟨_, rfl⟩
  have HQ := Lib.hid hq
  rw [hq, if_some]
  have HU1 : Hid (uR E 4 n ty true = ty) := rfl
  have HU0 : Hid (uR E 4 n ty false = 0) := rfl
  obtain ⟨Ad, cd, rfl, -, hmd⟩ := hC.d.form
  obtain ⟨Af, cf, rfl, -, -⟩ := hC.f.form
  obtain ⟨A, ca, rfl, -, -⟩ : ∃ A ca, va = .slice A args.length ca ∧ _ := ht.form.2.1
  obtain ⟨B, d, rfl, -, hmb⟩ : ∃ B d, vb = .slice B brs.length d ∧ brs.length ≤ d ∧ d ≤ maxLen := ht.form.2.2
  unfold maxLen at hmd hmb
  have HXC := Lib.hid (fun (i : Nat) (x : Xtor) (h1 : 1 ≤ ty) (h2 : ty ≤ C.decls.length) (hi : (xtorsC C ty)[i]? = some x) => xtor_cells hC.d h1 h2 hi)
  have HBRR : Hid (∀ (i : Nat) (hi : i < brs.length), ∃ b o vv vc xa xb, B = some ⟨b, o, none⟩ ∧ b < wA.heap.size ∧ wA.cell? ⟨b, o + i * 7, none⟩ = some vv ∧ RInts wA vv brs[i].1 ∧ wA.cell? ⟨b, o + i * 7 + 1, none⟩ = some vc ∧ RBools wA vc brs[i].2.1 ∧ N5 wA b (o + i * 7 + 2) brs[i].2.2 xa xb ∧ RNd wA k brs[i].2.2 xa xb) := fun i hi => RNd.br (t := .mk 4 n ty args brs) ht hi
  have hmn : n0 + 2 * bndB brs ≤ 1000000000 := by omega
  have HM : Hid (n0 + 2 * bndB brs ≤ n0 + 2 * bndN (.mk 4 n ty args brs)) := by show _ ≤ _; omega
  generalize n0 + 2 * bndN (.mk 4 n ty args brs) = M at *
  have HX2 := Lib.hid (Ext.al2 w (.cells #[.slice Ad C.decls.length cd, .slice Af C.funs.length cf] 25) (.cells #[.int .i64 4, .int .i64 n, .int .i64 ty, .slice A args.length ca, .slice B brs.length d] 36))
  have HB1 : Hid (((w.alloc (.cells #[.slice Ad C.decls.length cd, .slice Af C.funs.length cf] 25)).alloc (.cells #[.int .i64 4, .int .i64 n, .int .i64 ty, .slice A args.length ca, .slice B brs.length d] 36)).heap[w.heap.size]? = some (.cells #[.slice Ad C.decls.length cd, .slice Af C.funs.length cf] 25 (0, 0))) := Ext.lt (Ext.al _ _) (heapNew w _)
  have HB2 := Lib.hid (heapNew2 w (.cells #[.slice Ad C.decls.length cd, .slice Af C.funs.length cf] 25) (.cells #[.int .i64 4, .int .i64 n, .int .i64 ty, .slice A args.length ca, .slice B brs.length d] 36))
  have HX := Lib.hid hx; have HR := Lib.hid hr; have HB := Lib.hid hB; have HLN := Lib.hid hlen
  clear hB hx hr hs hn ht hC hS hb hq hlen hbn
  go_enter Tryz.func15, Tryz.ntmps15
  go_wp2_with fail
  generalize (w.alloc _).alloc _ = w2 at *
  have HR2 := Lib.hid (HR.out.ext HX2.out)
  have HX22 : Hid (Ext wA w2) := HX.out.tr HX2.out
  have m0 := cellAt HB2.out 0
  have m4 := cellAt HB2.out 4
  go_wp2
  clear m0 m4
  go_loopw [87] (fun i wr => ∃ (j : Nat), j ≤ brs.length ∧ i = .int .i64 j ∧ RS wr p mx ma (n0 + 2 * bndB (brs.take j)) (lastE E) ∧ TrC mx ma w2 wr ∧ typB C E ty 0 brs = typB C E ty j (brs.drop j)) (fun i _ => brs.length - (intOf i).toNat)
  case atStart => exact ⟨0, Nat.zero_le _, rfl, by simpa [bndB] using HR2.out, Only.rf _ _, rfl⟩
  case round =>
    obtain ⟨j, hj, rfl, hs, htr, hty⟩ := hrel
    have HS := Lib.hid hs; have HTR := Lib.hid htr; have HTY := Lib.hid hty
    have HXR : Hid (Ext wA wr) := htr.below HX22.out hm1 hm2
    have HBR1 := Lib.hid (HR2.out.cells htr HB1.out)
    have HBR2 := Lib.hid (HR2.out.cells htr HB2.out)
    clear hs htr hty
    by_cases hlt : j < brs.length
    · obtain ⟨b, o, vv, vc, xa, xb, rfl, hbl, y0, y1, y2, y3, yc, yt⟩ := HBRR.out j hlt
      obtain ⟨xx, hxi, -, hbd, hso⟩ := HSB.out j _ (List.getElem?_eq_getElem hlt)
      have hxi : (xtorsC C ty)[j]? = some xx := hxi
      obtain ⟨ht1, ht2⟩ := HRF.out (by intro e; rw [e] at hlt; simp at hlt)
      obtain ⟨u, bd, od, bx, ox, cx0, vaa, e1, hu1, rfl, d1, hc1, hc2, d2, d3⟩ := HXC.out j _ ht1 ht2 hxi
      have HXS := Lib.hid (HB.out j _ (List.getElem?_eq_getElem hlt) vv vc xa xb y1 y3 yt)
      have hvl := (binds_lens hbd).1
      have hco := binds_co hbd
      have HBT := Lib.hid (bndB_take hlt)
      have HST := Lib.hid (typB_step (C := C) (E := E) (ty := ty) hlt)
      have HGX : Hid ((xtorsC C ty).getD j noXtor = xx) := by show _ = _; rw [List.getD_eq_getElem?_getD, hxi]; rfl
      have hjx0 : j < (xtorsC C ty).length := (List.getElem?_eq_some_iff.1 hxi).1
      have y0 := HXR.out.keep y0
      have y2 := HXR.out.keep y2
      obtain ⟨c0, c1, c2, c3, c4⟩ := yc.below HXR.out
      obtain ⟨_, ⟨Ax, cx, rfl, -, -⟩, ⟨Bx, dx, rfl, -, -⟩⟩ := yt.form
      obtain ⟨Av, cv, rfl, -, -⟩ := y1.form
      obtain ⟨Ac, cc, rfl, -, -⟩ := y3.form
      obtain ⟨Aa, caa, rfl, -, -⟩ := d3.form
      have HD3 := Lib.hid d3
      have HVL := Lib.hid hvl; have HCO := Lib.hid hco
      clear y1 y3 yc yt hxi d3 hbd hvl hco
      generalize brs[j] = br at *
      obtain ⟨vs, cs, x2⟩ := br
      dsimp only at *
      have hbt := HBT.out
      unfold maxLen at hc2
      have HEX := Lib.hid (Ext.al wr (.cells #[.slice Av vs.length cv, .slice Ac cs.length cc, .int .i64 x2.op, .int .i64 x2.n, .int .i64 x2.ty, .slice Ax x2.args.length cx, .slice Bx x2.brs.length dx] 97))
      have HNX := Lib.hid (heapNew wr (.cells #[.slice Av vs.length cv, .slice Ac cs.length cc, .int .i64 x2.op, .int .i64 x2.n, .int .i64 x2.ty, .slice Ax x2.args.length cx, .slice Bx x2.brs.length dx] 97))
      have HCX : Hid (∀ W, Ext wA W → W.heap[w.heap.size]? = some (.cells #[.slice (some ⟨bd, od, none⟩) C.decls.length cd, .slice Af C.funs.length cf] 25 (0, 0)) → W.heap[w.heap.size + 1]? = some (.cells #[.int .i64 4, .int .i64 n, .int .i64 ty, .slice A args.length ca, .slice (some ⟨b, o, none⟩) brs.length d] 36 (0, 0)) → W.heap[wr.heap.size]? = some (.cells #[.slice Av vs.length cv, .slice Ac cs.length cc, .int .i64 x2.op, .int .i64 x2.n, .int .i64 x2.ty, .slice Ax x2.args.length cx, .slice Bx x2.brs.length dx] 97 (0, 0)) → W.cell? ⟨w.heap.size, 0, none⟩ = some (.slice (some ⟨bd, od, none⟩) C.decls.length cd) ∧ W.cell? ⟨w.heap.size, 1, none⟩ = some (.slice Af C.funs.length cf) ∧ W.cell? ⟨w.heap.size + 1, 2, none⟩ = some (.int .i64 ty) ∧ W.cell? ⟨wr.heap.size, 0, none⟩ = some (.slice Av vs.length cv) ∧ W.cell? ⟨wr.heap.size, 1, none⟩ = some (.slice Ac cs.length cc) ∧ W.cell? ⟨wr.heap.size, 2, none⟩ = some (.int .i64 x2.op) ∧ W.cell? ⟨wr.heap.size, 3, none⟩ = some (.int .i64 x2.n) ∧ W.cell? ⟨wr.heap.size, 4, none⟩ = some (.int .i64 x2.ty) ∧ W.cell? ⟨wr.heap.size, 5, none⟩ = some (.slice Ax x2.args.length cx) ∧ W.cell? ⟨wr.heap.size, 6, none⟩ = some (.slice Bx x2.brs.length dx) ∧ W.cell? ⟨bd, od + u * 3 + 2, none⟩ = some (.slice (some ⟨bx, ox, none⟩) (xtorsC C ty).length cx0) ∧ W.cell? ⟨bx, ox + j * 2 + 1, none⟩ = some (.slice Aa xx.args.length caa)) := fun W hW h0 h1 h2 =>
        ⟨cellAt h0 0, cellAt h0 1, cellAt h1 2, cellAt h2 0, cellAt h2 1, cellAt h2 2, cellAt h2 3, cellAt h2 4, cellAt h2 5, cellAt h2 6, hW.keep d1, hW.keep d2⟩
      have HCY : Hid (∀ W, Ext (wr.alloc (.cells #[.slice Av vs.length cv, .slice Ac cs.length cc, .int .i64 x2.op, .int .i64 x2.n, .int .i64 x2.ty, .slice Ax x2.args.length cx, .slice Bx x2.brs.length dx] 97)) W → W.cell? ⟨w.heap.size, 0, none⟩ = some (.slice (some ⟨bd, od, none⟩) C.decls.length cd) ∧ W.cell? ⟨w.heap.size, 1, none⟩ = some (.slice Af C.funs.length cf) ∧ W.cell? ⟨w.heap.size + 1, 2, none⟩ = some (.int .i64 ty) ∧ W.cell? ⟨wr.heap.size, 0, none⟩ = some (.slice Av vs.length cv) ∧ W.cell? ⟨wr.heap.size, 1, none⟩ = some (.slice Ac cs.length cc) ∧ W.cell? ⟨wr.heap.size, 2, none⟩ = some (.int .i64 x2.op) ∧ W.cell? ⟨wr.heap.size, 3, none⟩ = some (.int .i64 x2.n) ∧ W.cell? ⟨wr.heap.size, 4, none⟩ = some (.int .i64 x2.ty) ∧ W.cell? ⟨wr.heap.size, 5, none⟩ = some (.slice Ax x2.args.length cx) ∧ W.cell? ⟨wr.heap.size, 6, none⟩ = some (.slice Bx x2.brs.length dx) ∧ W.cell? ⟨bd, od + u * 3 + 2, none⟩ = some (.slice (some ⟨bx, ox, none⟩) (xtorsC C ty).length cx0) ∧ W.cell? ⟨bx, ox + j * 2 + 1, none⟩ = some (.slice Aa xx.args.length caa)) := fun W hW => HCX.out W (HXR.out.tr (HEX.out.tr hW)) ((HEX.out.tr hW).lt HBR1.out) ((HEX.out.tr hW).lt HBR2.out) (hW.lt HNX.out)
      have HCALL : Hid (∀ W, Ext (wr.alloc (.cells #[.slice Av vs.length cv, .slice Ac cs.length cc, .int .i64 x2.op, .int .i64 x2.n, .int .i64 x2.ty, .slice Ax x2.args.length cx, .slice Bx x2.brs.length dx] 97)) W → Calls Tryz.prog 42 #[.pointer (some ⟨p, 0, none⟩), cV (.slice (some ⟨bd, od, none⟩) C.decls.length cd) (.slice Af C.funs.length cf), brV (.slice Av vs.length cv) (.slice Ac cs.length cc) x2 (.slice Ax x2.args.length cx) (.slice Bx x2.brs.length dx), .slice Aa xx.args.length caa] W fun e w' => e = .returned (.bool (typN C (pushE E (zipCo vs cs) (xx.args.map Arg.ty)) x2).isSome) ∧ (RS w' p mx ma (n0 + 2 * bndB (brs.take j) + 2 * (vs.length + bndN x2)) (lastE E) ∧ TrC mx ma w2 w') ∧ (w'.cell? ⟨w.heap.size, 0, none⟩ = some (.slice (some ⟨bd, od, none⟩) C.decls.length cd) ∧ w'.cell? ⟨w.heap.size, 1, none⟩ = some (.slice Af C.funs.length cf) ∧ w'.cell? ⟨w.heap.size + 1, 2, none⟩ = some (.int .i64 ty) ∧ w'.cell? ⟨wr.heap.size, 0, none⟩ = some (.slice Av vs.length cv) ∧ w'.cell? ⟨wr.heap.size, 1, none⟩ = some (.slice Ac cs.length cc) ∧ w'.cell? ⟨wr.heap.size, 2, none⟩ = some (.int .i64 x2.op) ∧ w'.cell? ⟨wr.heap.size, 3, none⟩ = some (.int .i64 x2.n) ∧ w'.cell? ⟨wr.heap.size, 4, none⟩ = some (.int .i64 x2.ty) ∧ w'.cell? ⟨wr.heap.size, 5, none⟩ = some (.slice Ax x2.args.length cx) ∧ w'.cell? ⟨wr.heap.size, 6, none⟩ = some (.slice Bx x2.brs.length dx) ∧ w'.cell? ⟨bd, od + u * 3 + 2, none⟩ = some (.slice (some ⟨bx, ox, none⟩) (xtorsC C ty).length cx0) ∧ w'.cell? ⟨bx, ox + j * 2 + 1, none⟩ = some (.slice Aa xx.args.length caa))) := fun W hW => by
        have hrW := HS.out.ext (HEX.out.tr hW)
        refine (HXS.out W (n0 + 2 * bndB (brs.take j)) E _ (.slice Aa xx.args.length caa) xx.args (HXR.out.tr (HEX.out.tr hW)) hrW HVL.out HCO.out (by rw [hso]; decide) (by omega) HD3.out).mono ?_
        rintro e w' ⟨rfl, h1, h2⟩
        have h3 := TrC.tr HTR.out (TrC.tr (TrC.ext (HEX.out.tr hW)) h2)
        exact ⟨rfl, ⟨h1, h3⟩, HCX.out w' (h3.below HX22.out hm1 hm2) (HR2.out.cells h3 HB1.out) (HR2.out.cells h3 HB2.out) (hrW.cells h2 (hW.lt HNX.out))⟩
      have d1' := HXR.out.keep d1
      have d2' := HXR.out.keep d2
      have hju : (u : Int) < C.decls.length := by omega
      have hjx : (j : Int) < (xtorsC C ty).length := by omega
      go_wp2
      generalize wr.alloc _ = w1 at *
      clear d1' d2' d1 d2 c0 c1 c2 c3 c4 y0 y2 hso
      obtain ⟨k0, k1, k2, l0, l1, l2, l3, l4, l5, l6, z0, z1⟩ := HCY.out w1 (Ext.rf _)
      obtain ⟨r, hr⟩ : ∃ r, (typN C (pushE E (zipCo vs cs) (xx.args.map Arg.ty)) x2).isSome = r := ⟨_, rfl⟩
      rw [hr] at HCALL
      have HRT : Hid (q = (r && typB C E ty (j + 1) (brs.drop (j + 1)))) := by show _ = _; rw [← HQ.out, HTY.out, HST.out, HGX.out, hr]
      clear hr
      have hw1 : IntKind.wrap .i64 (ty - 1) = (u : Int) := by rw [e1]; exact IntWalk.i64_in _ (by omega)
      have hw2 : IntKind.wrap .i64 (u : Int) = (u : Int) := IntWalk.i64_in _ (by omega)
      have hu0 : (0 : Int) ≤ u := by omega
      have hj0 : (0 : Int) ≤ j := by omega
      go_region_held3 (fun W => W.cell? ⟨w.heap.size, 0, none⟩ = some (.slice (some ⟨bd, od, none⟩) C.decls.length cd) ∧ W.cell? ⟨w.heap.size, 1, none⟩ = some (.slice Af C.funs.length cf) ∧ W.cell? ⟨w.heap.size + 1, 2, none⟩ = some (.int .i64 ty) ∧ W.cell? ⟨wr.heap.size, 0, none⟩ = some (.slice Av vs.length cv) ∧ W.cell? ⟨wr.heap.size, 1, none⟩ = some (.slice Ac cs.length cc) ∧ W.cell? ⟨wr.heap.size, 2, none⟩ = some (.int .i64 x2.op) ∧ W.cell? ⟨wr.heap.size, 3, none⟩ = some (.int .i64 x2.n) ∧ W.cell? ⟨wr.heap.size, 4, none⟩ = some (.int .i64 x2.ty) ∧ W.cell? ⟨wr.heap.size, 5, none⟩ = some (.slice Ax x2.args.length cx) ∧ W.cell? ⟨wr.heap.size, 6, none⟩ = some (.slice Bx x2.brs.length dx) ∧ W.cell? ⟨bd, od + u * 3 + 2, none⟩ = some (.slice (some ⟨bx, ox, none⟩) (xtorsC C ty).length cx0) ∧ W.cell? ⟨bx, ox + j * 2 + 1, none⟩ = some (.slice Aa xx.args.length caa))
        (first | exact HCY.out _ (Ext.rf _).drew | exact HC8.out | exact HCY.out _ (Ext.rf _) | fail "KEEP")
        (first
          | (go_at_call 42; (with_reducible refine (HCALL.out _ (by first | exact (Ext.rf _).drew | exact Ext.rf _ | fail "CALL")).mono ?_); rintro e w8 ⟨rfl, ⟨hs8, ht8⟩, hc8⟩; have HS8 := Lib.hid hs8; have HT8 := Lib.hid ht8; have HC8 := Lib.hid hc8; clear hs8 ht8 hc8)
          | fail "ARM")
      all_goals
        cases r
        · have HQF : Hid (q = false) := by show _ = _; rw [HRT.out]; rfl
          go_wp2
          refine bodyPost_ret (results_tmp2 rfl _ _ _) rfl ?_
          exact ⟨by rw [HQF.out, HU0.out]; rfl, HS8.out.mono (by have := HM.out; omega), TrC.tr (TrC.ext HX2.out) HT8.out⟩
        · have HQT : Hid (typB C E ty 0 brs = typB C E ty (j + 1) (brs.drop (j + 1))) := by show _ = _; rw [HQ.out, HRT.out]; rfl
          go_wp2
          exact ⟨⟨j + 1, by omega, by go_num, by rw [HBT.out.1]; exact HS8.out.mono (by omega), HT8.out, HQT.out⟩, by simp [intOf]; omega⟩
    · have hjl : j = brs.length := by omega
      have HQT : Hid (q = true) := by show _ = _; rw [← HQ.out, HTY.out, List.drop_eq_nil_of_le (by omega)]; rfl
      have HSr : Hid (RS wr p mx ma (n0 + 2 * bndB brs) (lastE E)) := by have := HS.out; rw [List.take_of_length_le (by omega)] at this; exact this
      have m2 := cellAt HBR2.out 2
      go_wp2
      refine bodyPost_ret (results_tmp2 rfl _ _ _) rfl ?_
      exact ⟨by rw [HQT.out, HU1.out]; rfl, HSr.out.mono HM.out, TrC.tr (TrC.ext HX2.out) HTR.out⟩
set_option maxHeartbeats 16000000 in
set_option maxRecDepth 100000 in
theorem ty7_8 (k : Nat) (n ty : Int) (args : List Nd) (brs : List Br) (va vb : Value) (hC : RCg wA vd vf C) (hS : ShC C) (ht : RNd wA (k + 1) (.mk 8 n ty args brs) va vb) (hb : BN (.mk 8 n ty args brs))
    (hB : ∀ (i : Nat) (x : Br), brs[i]? = some x → ∀ vv vc xa xb, RInts wA vv x.1 → RBools wA vc x.2.1 → RNd wA k x.2.2 xa xb → BoS C vd vf wA p mx ma x.1 x.2.1 x.2.2 vv vc xa xb) (hm1 : wA.heap.size ≤ mx) (hm2 : wA.heap.size ≤ ma) : TyO C vd vf wA p mx ma 8 n ty args brs va vb := by
  intro w n0 E S hx hr hs hn
  rw [match_typ hs (by decide)]
  have hnb : brs.length ≤ 1048576 := hb.nb
  have hbn := bndN_brs 8 n ty args brs
  have hdl := hS.dl
  have hxl := hS.xtors ty
  have HSB := Lib.hid (fun (i : Nat) (b : Br) (hi : brs[i]? = some b) => (sort_br hs hi : ∃ x, (xtorsC C ty)[i]? = some x ∧ _))
  have HRF : Hid (brs ≠ [] → 1 ≤ ty ∧ ty ≤ C.decls.length) := fun _ => uses_decl (sort_parts hs).1.rf rfl
  have hlen : brs.length = (xtorsC C ty).length := (sort_parts hs).1.bl
  obtain ⟨q, hq⟩ : ∃ q, typB C E ty 0 brs = q := ⟨_, rfl⟩
  have HQ := Lib.hid hq
  rw [hq, if_some]
  have HU1 : Hid (uR E 8 n ty true = ty) := rfl
  have HU0 : Hid (uR E 8 n ty false = 0) := rfl
  obtain ⟨Ad, cd, rfl, -, hmd⟩ := hC.d.form
  obtain ⟨Af, cf, rfl, -, -⟩ := hC.f.form
  obtain ⟨A, ca, rfl, -, -⟩ : ∃ A ca, va = .slice A args.length ca ∧ _ := ht.form.2.1
  obtain ⟨B, d, rfl, -, hmb⟩ : ∃ B d, vb = .slice B brs.length d ∧ brs.length ≤ d ∧ d ≤ maxLen := ht.form.2.2
  unfold maxLen at hmd hmb
  have HXC := Lib.hid (fun (i : Nat) (x : Xtor) (h1 : 1 ≤ ty) (h2 : ty ≤ C.decls.length) (hi : (xtorsC C ty)[i]? = some x) => xtor_cells hC.d h1 h2 hi)
  have HBRR : Hid (∀ (i : Nat) (hi : i < brs.length), ∃ b o vv vc xa xb, B = some ⟨b, o, none⟩ ∧ b < wA.heap.size ∧ wA.cell? ⟨b, o + i * 7, none⟩ = some vv ∧ RInts wA vv brs[i].1 ∧ wA.cell? ⟨b, o + i * 7 + 1, none⟩ = some vc ∧ RBools wA vc brs[i].2.1 ∧ N5 wA b (o + i * 7 + 2) brs[i].2.2 xa xb ∧ RNd wA k brs[i].2.2 xa xb) := fun i hi => RNd.br (t := .mk 8 n ty args brs) ht hi
  have hmn : n0 + 2 * bndB brs ≤ 1000000000 := by omega
  have HM : Hid (n0 + 2 * bndB brs ≤ n0 + 2 * bndN (.mk 8 n ty args brs)) := by show _ ≤ _; omega
  generalize n0 + 2 * bndN (.mk 8 n ty args brs) = M at *
  have HX2 := Lib.hid (Ext.al2 w (.cells #[.slice Ad C.decls.length cd, .slice Af C.funs.length cf] 25) (.cells #[.int .i64 8, .int .i64 n, .int .i64 ty, .slice A args.length ca, .slice B brs.length d] 36))
  have HB1 : Hid (((w.alloc (.cells #[.slice Ad C.decls.length cd, .slice Af C.funs.length cf] 25)).alloc (.cells #[.int .i64 8, .int .i64 n, .int .i64 ty, .slice A args.length ca, .slice B brs.length d] 36)).heap[w.heap.size]? = some (.cells #[.slice Ad C.decls.length cd, .slice Af C.funs.length cf] 25 (0, 0))) := Ext.lt (Ext.al _ _) (heapNew w _)
  have HB2 := Lib.hid (heapNew2 w (.cells #[.slice Ad C.decls.length cd, .slice Af C.funs.length cf] 25) (.cells #[.int .i64 8, .int .i64 n, .int .i64 ty, .slice A args.length ca, .slice B brs.length d] 36))
  have HX := Lib.hid hx; have HR := Lib.hid hr; have HB := Lib.hid hB; have HLN := Lib.hid hlen
  clear hB hx hr hs hn ht hC hS hb hq hlen hbn
  go_enter Tryz.func15, Tryz.ntmps15
  go_wp2_with fail
  generalize (w.alloc _).alloc _ = w2 at *
  have HR2 := Lib.hid (HR.out.ext HX2.out)
  have HX22 : Hid (Ext wA w2) := HX.out.tr HX2.out
  have m0 := cellAt HB2.out 0
  have m4 := cellAt HB2.out 4
  go_wp2
  clear m0 m4
  go_loopw [87] (fun i wr => ∃ (j : Nat), j ≤ brs.length ∧ i = .int .i64 j ∧ RS wr p mx ma (n0 + 2 * bndB (brs.take j)) (lastE E) ∧ TrC mx ma w2 wr ∧ typB C E ty 0 brs = typB C E ty j (brs.drop j)) (fun i _ => brs.length - (intOf i).toNat)
  case atStart => exact ⟨0, Nat.zero_le _, rfl, by simpa [bndB] using HR2.out, Only.rf _ _, rfl⟩
  case round =>
    obtain ⟨j, hj, rfl, hs, htr, hty⟩ := hrel
    have HS := Lib.hid hs; have HTR := Lib.hid htr; have HTY := Lib.hid hty
    have HXR : Hid (Ext wA wr) := htr.below HX22.out hm1 hm2
    have HBR1 := Lib.hid (HR2.out.cells htr HB1.out)
    have HBR2 := Lib.hid (HR2.out.cells htr HB2.out)
    clear hs htr hty
    by_cases hlt : j < brs.length
    · obtain ⟨b, o, vv, vc, xa, xb, rfl, hbl, y0, y1, y2, y3, yc, yt⟩ := HBRR.out j hlt
      obtain ⟨xx, hxi, -, hbd, hso⟩ := HSB.out j _ (List.getElem?_eq_getElem hlt)
      have hxi : (xtorsC C ty)[j]? = some xx := hxi
      obtain ⟨ht1, ht2⟩ := HRF.out (by intro e; rw [e] at hlt; simp at hlt)
      obtain ⟨u, bd, od, bx, ox, cx0, vaa, e1, hu1, rfl, d1, hc1, hc2, d2, d3⟩ := HXC.out j _ ht1 ht2 hxi
      have HXS := Lib.hid (HB.out j _ (List.getElem?_eq_getElem hlt) vv vc xa xb y1 y3 yt)
      have hvl := (binds_lens hbd).1
      have hco := binds_co hbd
      have HBT := Lib.hid (bndB_take hlt)
      have HST := Lib.hid (typB_step (C := C) (E := E) (ty := ty) hlt)
      have HGX : Hid ((xtorsC C ty).getD j noXtor = xx) := by show _ = _; rw [List.getD_eq_getElem?_getD, hxi]; rfl
      have hjx0 : j < (xtorsC C ty).length := (List.getElem?_eq_some_iff.1 hxi).1
      have y0 := HXR.out.keep y0
      have y2 := HXR.out.keep y2
      obtain ⟨c0, c1, c2, c3, c4⟩ := yc.below HXR.out
      obtain ⟨_, ⟨Ax, cx, rfl, -, -⟩, ⟨Bx, dx, rfl, -, -⟩⟩ := yt.form
      obtain ⟨Av, cv, rfl, -, -⟩ := y1.form
      obtain ⟨Ac, cc, rfl, -, -⟩ := y3.form
      obtain ⟨Aa, caa, rfl, -, -⟩ := d3.form
      have HD3 := Lib.hid d3
      have HVL := Lib.hid hvl; have HCO := Lib.hid hco
      clear y1 y3 yc yt hxi d3 hbd hvl hco
      generalize brs[j] = br at *
      obtain ⟨vs, cs, x2⟩ := br
      dsimp only at *
      have hbt := HBT.out
      unfold maxLen at hc2
      have HEX := Lib.hid (Ext.al wr (.cells #[.slice Av vs.length cv, .slice Ac cs.length cc, .int .i64 x2.op, .int .i64 x2.n, .int .i64 x2.ty, .slice Ax x2.args.length cx, .slice Bx x2.brs.length dx] 97))
      have HNX := Lib.hid (heapNew wr (.cells #[.slice Av vs.length cv, .slice Ac cs.length cc, .int .i64 x2.op, .int .i64 x2.n, .int .i64 x2.ty, .slice Ax x2.args.length cx, .slice Bx x2.brs.length dx] 97))
      have HCX : Hid (∀ W, Ext wA W → W.heap[w.heap.size]? = some (.cells #[.slice (some ⟨bd, od, none⟩) C.decls.length cd, .slice Af C.funs.length cf] 25 (0, 0)) → W.heap[w.heap.size + 1]? = some (.cells #[.int .i64 8, .int .i64 n, .int .i64 ty, .slice A args.length ca, .slice (some ⟨b, o, none⟩) brs.length d] 36 (0, 0)) → W.heap[wr.heap.size]? = some (.cells #[.slice Av vs.length cv, .slice Ac cs.length cc, .int .i64 x2.op, .int .i64 x2.n, .int .i64 x2.ty, .slice Ax x2.args.length cx, .slice Bx x2.brs.length dx] 97 (0, 0)) → W.cell? ⟨w.heap.size, 0, none⟩ = some (.slice (some ⟨bd, od, none⟩) C.decls.length cd) ∧ W.cell? ⟨w.heap.size, 1, none⟩ = some (.slice Af C.funs.length cf) ∧ W.cell? ⟨w.heap.size + 1, 2, none⟩ = some (.int .i64 ty) ∧ W.cell? ⟨wr.heap.size, 0, none⟩ = some (.slice Av vs.length cv) ∧ W.cell? ⟨wr.heap.size, 1, none⟩ = some (.slice Ac cs.length cc) ∧ W.cell? ⟨wr.heap.size, 2, none⟩ = some (.int .i64 x2.op) ∧ W.cell? ⟨wr.heap.size, 3, none⟩ = some (.int .i64 x2.n) ∧ W.cell? ⟨wr.heap.size, 4, none⟩ = some (.int .i64 x2.ty) ∧ W.cell? ⟨wr.heap.size, 5, none⟩ = some (.slice Ax x2.args.length cx) ∧ W.cell? ⟨wr.heap.size, 6, none⟩ = some (.slice Bx x2.brs.length dx) ∧ W.cell? ⟨bd, od + u * 3 + 2, none⟩ = some (.slice (some ⟨bx, ox, none⟩) (xtorsC C ty).length cx0) ∧ W.cell? ⟨bx, ox + j * 2 + 1, none⟩ = some (.slice Aa xx.args.length caa)) := fun W hW h0 h1 h2 =>
        ⟨cellAt h0 0, cellAt h0 1, cellAt h1 2, cellAt h2 0, cellAt h2 1, cellAt h2 2, cellAt h2 3, cellAt h2 4, cellAt h2 5, cellAt h2 6, hW.keep d1, hW.keep d2⟩
      have HCY : Hid (∀ W, Ext (wr.alloc (.cells #[.slice Av vs.length cv, .slice Ac cs.length cc, .int .i64 x2.op, .int .i64 x2.n, .int .i64 x2.ty, .slice Ax x2.args.length cx, .slice Bx x2.brs.length dx] 97)) W → W.cell? ⟨w.heap.size, 0, none⟩ = some (.slice (some ⟨bd, od, none⟩) C.decls.length cd) ∧ W.cell? ⟨w.heap.size, 1, none⟩ = some (.slice Af C.funs.length cf) ∧ W.cell? ⟨w.heap.size + 1, 2, none⟩ = some (.int .i64 ty) ∧ W.cell? ⟨wr.heap.size, 0, none⟩ = some (.slice Av vs.length cv) ∧ W.cell? ⟨wr.heap.size, 1, none⟩ = some (.slice Ac cs.length cc) ∧ W.cell? ⟨wr.heap.size, 2, none⟩ = some (.int .i64 x2.op) ∧ W.cell? ⟨wr.heap.size, 3, none⟩ = some (.int .i64 x2.n) ∧ W.cell? ⟨wr.heap.size, 4, none⟩ = some (.int .i64 x2.ty) ∧ W.cell? ⟨wr.heap.size, 5, none⟩ = some (.slice Ax x2.args.length cx) ∧ W.cell? ⟨wr.heap.size, 6, none⟩ = some (.slice Bx x2.brs.length dx) ∧ W.cell? ⟨bd, od + u * 3 + 2, none⟩ = some (.slice (some ⟨bx, ox, none⟩) (xtorsC C ty).length cx0) ∧ W.cell? ⟨bx, ox + j * 2 + 1, none⟩ = some (.slice Aa xx.args.length caa)) := fun W hW => HCX.out W (HXR.out.tr (HEX.out.tr hW)) ((HEX.out.tr hW).lt HBR1.out) ((HEX.out.tr hW).lt HBR2.out) (hW.lt HNX.out)
      have HCALL : Hid (∀ W, Ext (wr.alloc (.cells #[.slice Av vs.length cv, .slice Ac cs.length cc, .int .i64 x2.op, .int .i64 x2.n, .int .i64 x2.ty, .slice Ax x2.args.length cx, .slice Bx x2.brs.length dx] 97)) W → Calls Tryz.prog 42 #[.pointer (some ⟨p, 0, none⟩), cV (.slice (some ⟨bd, od, none⟩) C.decls.length cd) (.slice Af C.funs.length cf), brV (.slice Av vs.length cv) (.slice Ac cs.length cc) x2 (.slice Ax x2.args.length cx) (.slice Bx x2.brs.length dx), .slice Aa xx.args.length caa] W fun e w' => e = .returned (.bool (typN C (pushE E (zipCo vs cs) (xx.args.map Arg.ty)) x2).isSome) ∧ (RS w' p mx ma (n0 + 2 * bndB (brs.take j) + 2 * (vs.length + bndN x2)) (lastE E) ∧ TrC mx ma w2 w') ∧ (w'.cell? ⟨w.heap.size, 0, none⟩ = some (.slice (some ⟨bd, od, none⟩) C.decls.length cd) ∧ w'.cell? ⟨w.heap.size, 1, none⟩ = some (.slice Af C.funs.length cf) ∧ w'.cell? ⟨w.heap.size + 1, 2, none⟩ = some (.int .i64 ty) ∧ w'.cell? ⟨wr.heap.size, 0, none⟩ = some (.slice Av vs.length cv) ∧ w'.cell? ⟨wr.heap.size, 1, none⟩ = some (.slice Ac cs.length cc) ∧ w'.cell? ⟨wr.heap.size, 2, none⟩ = some (.int .i64 x2.op) ∧ w'.cell? ⟨wr.heap.size, 3, none⟩ = some (.int .i64 x2.n) ∧ w'.cell? ⟨wr.heap.size, 4, none⟩ = some (.int .i64 x2.ty) ∧ w'.cell? ⟨wr.heap.size, 5, none⟩ = some (.slice Ax x2.args.length cx) ∧ w'.cell? ⟨wr.heap.size, 6, none⟩ = some (.slice Bx x2.brs.length dx) ∧ w'.cell? ⟨bd, od + u * 3 + 2, none⟩ = some (.slice (some ⟨bx, ox, none⟩) (xtorsC C ty).length cx0) ∧ w'.cell? ⟨bx, ox + j * 2 + 1, none⟩ = some (.slice Aa xx.args.length caa))) := fun W hW => by
        have hrW := HS.out.ext (HEX.out.tr hW)
        refine (HXS.out W (n0 + 2 * bndB (brs.take j)) E _ (.slice Aa xx.args.length caa) xx.args (HXR.out.tr (HEX.out.tr hW)) hrW HVL.out HCO.out (by rw [hso]; decide) (by omega) HD3.out).mono ?_
        rintro e w' ⟨rfl, h1, h2⟩
        have h3 := TrC.tr HTR.out (TrC.tr (TrC.ext (HEX.out.tr hW)) h2)
        exact ⟨rfl, ⟨h1, h3⟩, HCX.out w' (h3.below HX22.out hm1 hm2) (HR2.out.cells h3 HB1.out) (HR2.out.cells h3 HB2.out) (hrW.cells h2 (hW.lt HNX.out))⟩
      have d1' := HXR.out.keep d1
      have d2' := HXR.out.keep d2
      have hju : (u : Int) < C.decls.length := by omega
      have hjx : (j : Int) < (xtorsC C ty).length := by omega
      go_wp2
      generalize wr.alloc _ = w1 at *
      clear d1' d2' d1 d2 c0 c1 c2 c3 c4 y0 y2 hso
      obtain ⟨k0, k1, k2, l0, l1, l2, l3, l4, l5, l6, z0, z1⟩ := HCY.out w1 (Ext.rf _)
      obtain ⟨r, hr⟩ : ∃ r, (typN C (pushE E (zipCo vs cs) (xx.args.map Arg.ty)) x2).isSome = r := ⟨_, rfl⟩
      rw [hr] at HCALL
      have HRT : Hid (q = (r && typB C E ty (j + 1) (brs.drop (j + 1)))) := by show _ = _; rw [← HQ.out, HTY.out, HST.out, HGX.out, hr]
      clear hr
      have hw1 : IntKind.wrap .i64 (ty - 1) = (u : Int) := by rw [e1]; exact IntWalk.i64_in _ (by omega)
      have hw2 : IntKind.wrap .i64 (u : Int) = (u : Int) := IntWalk.i64_in _ (by omega)
      have hu0 : (0 : Int) ≤ u := by omega
      have hj0 : (0 : Int) ≤ j := by omega
      go_region_held3 (fun W => W.cell? ⟨w.heap.size, 0, none⟩ = some (.slice (some ⟨bd, od, none⟩) C.decls.length cd) ∧ W.cell? ⟨w.heap.size, 1, none⟩ = some (.slice Af C.funs.length cf) ∧ W.cell? ⟨w.heap.size + 1, 2, none⟩ = some (.int .i64 ty) ∧ W.cell? ⟨wr.heap.size, 0, none⟩ = some (.slice Av vs.length cv) ∧ W.cell? ⟨wr.heap.size, 1, none⟩ = some (.slice Ac cs.length cc) ∧ W.cell? ⟨wr.heap.size, 2, none⟩ = some (.int .i64 x2.op) ∧ W.cell? ⟨wr.heap.size, 3, none⟩ = some (.int .i64 x2.n) ∧ W.cell? ⟨wr.heap.size, 4, none⟩ = some (.int .i64 x2.ty) ∧ W.cell? ⟨wr.heap.size, 5, none⟩ = some (.slice Ax x2.args.length cx) ∧ W.cell? ⟨wr.heap.size, 6, none⟩ = some (.slice Bx x2.brs.length dx) ∧ W.cell? ⟨bd, od + u * 3 + 2, none⟩ = some (.slice (some ⟨bx, ox, none⟩) (xtorsC C ty).length cx0) ∧ W.cell? ⟨bx, ox + j * 2 + 1, none⟩ = some (.slice Aa xx.args.length caa))
        (first | exact HCY.out _ (Ext.rf _).drew | exact HC8.out | exact HCY.out _ (Ext.rf _) | fail "KEEP")
        (first
          | (go_at_call 42; (with_reducible refine (HCALL.out _ (by first | exact (Ext.rf _).drew | exact Ext.rf _ | fail "CALL")).mono ?_); rintro e w8 ⟨rfl, ⟨hs8, ht8⟩, hc8⟩; have HS8 := Lib.hid hs8; have HT8 := Lib.hid ht8; have HC8 := Lib.hid hc8; clear hs8 ht8 hc8)
          | fail "ARM")
      all_goals
        cases r
        · have HQF : Hid (q = false) := by show _ = _; rw [HRT.out]; rfl
          go_wp2
          refine bodyPost_ret (results_tmp2 rfl _ _ _) rfl ?_
          exact ⟨by rw [HQF.out, HU0.out]; rfl, HS8.out.mono (by have := HM.out; omega), TrC.tr (TrC.ext HX2.out) HT8.out⟩
        · have HQT : Hid (typB C E ty 0 brs = typB C E ty (j + 1) (brs.drop (j + 1))) := by show _ = _; rw [HQ.out, HRT.out]; rfl
          go_wp2
          exact ⟨⟨j + 1, by omega, by go_num, by rw [HBT.out.1]; exact HS8.out.mono (by omega), HT8.out, HQT.out⟩, by simp [intOf]; omega⟩
    · have hjl : j = brs.length := by omega
      have HQT : Hid (q = true) := by show _ = _; rw [← HQ.out, HTY.out, List.drop_eq_nil_of_le (by omega)]; rfl
      have HSr : Hid (RS wr p mx ma (n0 + 2 * bndB brs) (lastE E)) := by have := HS.out; rw [List.take_of_length_le (by omega)] at this; exact this
      have m2 := cellAt HBR2.out 2
      go_wp2
      refine bodyPost_ret (results_tmp2 rfl _ _ _) rfl ?_
      exact ⟨by rw [HQT.out, HU1.out]; rfl, HSr.out.mono HM.out, TrC.tr (TrC.ext HX2.out) HTR.out⟩
end
end Go.Proofs.YtkdhhcidpklgoaaGreatDoor

/- ref07: Type, whatever the node. -/
namespace Go.Proofs.YtkdhhcidpklgoaaGreatDoor
open Go.RowKit Go.Shelf Go.Maps

theorem type7_all (vd vf : Value) (C : Cg) (wA : World) (p mx ma : Nat) (hC : RCg wA vd vf C) (hS : ShC C) (hm1 : wA.heap.size ≤ mx) (hm2 : wA.heap.size ≤ ma) : ∀ (k : Nat) (t : Nd) (va vb : Value), RNd wA k t va vb → BN t → TyS C vd vf wA p mx ma t va vb := by
  intro k
  induction k with
  | zero => intro t va vb h; exact h.elim
  | succ k ih =>
    intro t va vb ht hb
    have hT : ∀ (i : Nat) x, t.args[i]? = some x → ∀ xa xb, RNd wA k x xa xb → TyS C vd vf wA p mx ma x xa xb := fun i x hi xa xb hx => ih x xa xb hx (hb.arg (List.mem_of_getElem? hi))
    have hH : ∀ (i : Nat) x, t.args[i]? = some x → ∀ xa xb, RNd wA k x xa xb → HaS C vd vf wA p mx ma x xa xb := fun i x hi xa xb hx => has7 hC ⟨k, hx⟩ (hT i x hi xa xb hx)
    have hG : ∀ (i : Nat) x, t.args[i]? = some x → ∀ xa xb, RNd wA k x xa xb → GoS C vd vf wA p mx ma x xa xb := fun i x hi xa xb hx => good7 hC ⟨k, hx⟩ (hT i x hi xa xb hx)
    have hAr := args7 k hC ht hb hH hm1 hm2
    have hBo : ∀ (i : Nat) (x : Br), t.brs[i]? = some x → ∀ vv vc xa xb, RInts wA vv x.1 → RBools wA vc x.2.1 → RNd wA k x.2.2 xa xb → BoS C vd vf wA p mx ma x.1 x.2.1 x.2.2 vv vc xa xb := fun i x hi vv vc xa xb h1 h2 h3 =>
      body7 x.1 x.2.1 x.2.2 vv vc xa xb hC ⟨k, h3⟩ h1 h2 (good7 hC ⟨k, h3⟩ (ih _ xa xb h3 (hb.br (List.mem_of_getElem? hi)))) (hb.short x (List.mem_of_getElem? hi)) hm1 hm2
    intro w n E S hx hr hs hn
    obtain ⟨-, ho1, ho2⟩ := sort_parts hs
    have hk := ht.form.1.2.1
    obtain ⟨op, n', ty, args, brs⟩ := t
    have ho1 : 0 ≤ op := ho1
    have ho2 : op ≤ 14 := ho2
    have hop : op = 0 ∨ op = 1 ∨ op = 2 ∨ op = 3 ∨ op = 4 ∨ op = 5 ∨ op = 6 ∨ op = 7 ∨ op = 8 ∨ op = 9 ∨ op = 10 ∨ op = 11 ∨ op = 12 ∨ op = 13 ∨ op = 14 := by omega
    rcases hop with rfl | rfl | rfl | rfl | rfl | rfl | rfl | rfl | rfl | rfl | rfl | rfl | rfl | rfl | rfl
    · exact ty7_0 n' ty args brs va vb hC hk w n E S hx hr hs hn
    · exact ty7_1 n' ty args brs va vb hC hk w n E S hx hr hs hn
    · exact ty7_2 n' ty args brs va vb hC hS ⟨_, ht⟩ hAr w n E S hx hr hs hn
    · exact ty7_3 k n' ty args brs va vb hC ht hG hm1 hm2 w n E S hx hr hs hn
    · exact ty7_4 k n' ty args brs va vb hC hS ht hb hBo hm1 hm2 w n E S hx hr hs hn
    · exact ty7_5 n' ty args brs va vb hC hk w n E S hx hr hs hn
    · exact ty7_6 n' ty args brs va vb hC hS ⟨_, ht⟩ hAr w n E S hx hr hs hn
    · exact ty7_7 k n' ty args brs va vb hC ht hG hm1 hm2 w n E S hx hr hs hn
    · exact ty7_8 k n' ty args brs va vb hC hS ht hb hBo hm1 hm2 w n E S hx hr hs hn
    · exact ty7_9 k n' ty args brs va vb hC ht (fun i x hi xa xb hx => ⟨hH i x hi xa xb hx, hG i x hi xa xb hx⟩) hm1 hm2 w n E S hx hr hs hn
    · exact ty7_10 k n' ty args brs va vb hC ht (fun i x hi xa xb hx => ⟨hH i x hi xa xb hx, hG i x hi xa xb hx⟩) hm1 hm2 w n E S hx hr hs hn
    · exact ty7_11 k n' ty args brs va vb hC ht (fun i x hi xa xb hx => ⟨hH i x hi xa xb hx, hG i x hi xa xb hx⟩) hm1 hm2 w n E S hx hr hs hn
    · exact ty7_12 k n' ty args brs va vb hC ht (fun i x hi xa xb hx => ⟨hH i x hi xa xb hx, hG i x hi xa xb hx⟩) hm1 hm2 w n E S hx hr hs hn
    · exact ty7_13 n' ty args brs va vb hC hS ⟨_, ht⟩ hAr w n E S hx hr hs hn
    · exact ty7_14 k n' ty args brs va vb hC ht (fun i x hi xa xb hx => ⟨hH i x hi xa xb hx, hG i x hi xa xb hx⟩) hm1 hm2 w n E S hx hr hs hn
end Go.Proofs.YtkdhhcidpklgoaaGreatDoor
