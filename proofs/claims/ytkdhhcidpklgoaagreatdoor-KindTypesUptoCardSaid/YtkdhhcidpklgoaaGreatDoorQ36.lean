/- ref07: Type at a command, operator 11. -/
import Derived.Test.YtkdhhcidpklgoaaGreatDoorQ35
import Derived.Deep.RegionHeld3
namespace Go.Proofs.YtkdhhcidpklgoaaGreatDoor
open Go.RowKit Go.Shelf Go.Maps
attribute [local go_sem] Oper.semAt_some

section
variable {C : Cg} {vd vf : Value} {wA : World} {p mx ma : Nat}
set_option maxHeartbeats 16000000 in
set_option maxRecDepth 100000 in
theorem ty7_11 (k : Nat) (n ty : Int) (args : List Nd) (brs : List Br) (va vb : Value) (hC : RCg wA vd vf C) (ht : RNd wA (k + 1) (.mk 11 n ty args brs) va vb)
    (hA : ∀ (i : Nat) x, args[i]? = some x → ∀ xa xb, RNd wA k x xa xb → HaS C vd vf wA p mx ma x xa xb ∧ GoS C vd vf wA p mx ma x xa xb) (hm1 : wA.heap.size ≤ mx) (hm2 : wA.heap.size ≤ ma) : TyO C vd vf wA p mx ma 11 n ty args brs va vb := by
  intro w n0 E S hx hr hs hn
  obtain ⟨x, y, z, rfl⟩ := list3 (args_len hs)
  have hfa := fa_is hs rfl
  have hmv : addS S (muV 11 n) = S := rfl
  rw [hmv] at hfa
  have hfa : [sortN C S x, sortN C S y, sortN C S z] = [(0 : Int), (2 : Int), (2 : Int)] := hfa
  have hsx : sortN C S x = 0 := (List.cons.inj hfa).1
  have hf0 := (List.cons.inj hfa).2
  have hsy : sortN C S y = 2 := (List.cons.inj hf0).1
  have hf1 := (List.cons.inj hf0).2
  have hsz : sortN C S z = 2 := (List.cons.inj hf1).1
  have hbm := bnd_mk 11 n ty [x, y, z] brs
  have hbx : bndA [x, y, z] = bndN x + bndN y + bndN z := by simp [bndA] <;> omega
  obtain ⟨rx, hrx⟩ : ∃ r, decide (typN C E x = some 0) = r := ⟨_, rfl⟩
  obtain ⟨ry, hry⟩ : ∃ r, decide (typN C E y = some 0) = r := ⟨_, rfl⟩
  obtain ⟨rz, hrz⟩ : ∃ r, decide (typN C E z = some 0) = r := ⟨_, rfl⟩
  have htyp : (typN C E (.mk 11 n ty [x, y, z] brs)).isSome = (rx && (ry && (rz))) := by
    rw [no_brs_typ hs rfl, if_some]
    show (decide (typN C E x = some 0) && (decide (typN C E y = some 0) && (decide (typN C E z = some 0) && true))) = _
    rw [hrx, hry, hrz, Bool.and_true]
  rw [htyp]
  obtain ⟨Ad, cd, rfl, -, -⟩ := hC.d.form
  obtain ⟨Af, cf, rfl, -, -⟩ := hC.f.form
  obtain ⟨A, ca, rfl, -, -⟩ : ∃ A ca, va = .slice A 3 ca ∧ _ := ht.form.2.1
  obtain ⟨B, d, rfl, -, -⟩ : ∃ B d, vb = .slice B brs.length d ∧ _ := ht.form.2.2
  obtain ⟨b, o, xax, xbx, rfl, -, ycx, ytx⟩ : ∃ bq oq xa xb, A = some ⟨bq, oq, none⟩ ∧ bq < wA.heap.size ∧ N5 wA bq (oq + 0 * 5) x xa xb ∧ RNd wA k x xa xb := RNd.arg (t := .mk 11 n ty [x, y, z] brs) ht (i := 0) (show (0 : Nat) < 3 by decide)
  have hhx := hA 0 x rfl xax xbx ytx
  obtain ⟨_, ⟨Ax, cx, rfl, -, -⟩, ⟨Bx, dx, rfl, -, -⟩⟩ := ytx.form
  have HYx := Lib.hid ycx
  obtain ⟨b', o', xay, xby, hbo, -, ycy, yty⟩ : ∃ bq oq xa xb, (some ⟨b, o, none⟩ : Option Addr) = some ⟨bq, oq, none⟩ ∧ bq < wA.heap.size ∧ N5 wA bq (oq + 1 * 5) y xa xb ∧ RNd wA k y xa xb := RNd.arg (t := .mk 11 n ty [x, y, z] brs) ht (i := 1) (show (1 : Nat) < 3 by decide)
  cases hbo
  have hhy := hA 1 y rfl xay xby yty
  obtain ⟨_, ⟨Ay, cy, rfl, -, -⟩, ⟨By, dy, rfl, -, -⟩⟩ := yty.form
  have HYy := Lib.hid ycy
  obtain ⟨b', o', xaz, xbz, hbo, -, ycz, ytz⟩ : ∃ bq oq xa xb, (some ⟨b, o, none⟩ : Option Addr) = some ⟨bq, oq, none⟩ ∧ bq < wA.heap.size ∧ N5 wA bq (oq + 2 * 5) z xa xb ∧ RNd wA k z xa xb := RNd.arg (t := .mk 11 n ty [x, y, z] brs) ht (i := 2) (show (2 : Nat) < 3 by decide)
  cases hbo
  have hhz := hA 2 z rfl xaz xbz ytz
  obtain ⟨_, ⟨Az, cz, rfl, -, -⟩, ⟨Bz, dz, rfl, -, -⟩⟩ := ytz.form
  have HYz := Lib.hid ycz
  have HH00 : Hid (∀ W, Ext wA W → RS W p mx ma (n0) (lastE E) → Calls Tryz.prog 43 #[.pointer (some ⟨p, 0, none⟩), cV (.slice Ad C.decls.length cd) (.slice Af C.funs.length cf), nV x (.slice Ax x.args.length cx) (.slice Bx x.brs.length dx), .int .i64 0] W fun e w' => e = .returned (.bool rx) ∧ RS w' p mx ma (n0 + 2 * bndN x) (lastE E) ∧ TrC mx ma W w') := fun W hW h => by rw [← hrx]; exact hhx.1 W _ E S 0 hW h (by rw [hsx]; decide) (by omega)
  have HH10 : Hid (∀ W, Ext wA W → RS W p mx ma (n0 + 2 * bndN x) (lastE E) → Calls Tryz.prog 29 #[.pointer (some ⟨p, 0, none⟩), cV (.slice Ad C.decls.length cd) (.slice Af C.funs.length cf), nV y (.slice Ay y.args.length cy) (.slice By y.brs.length dy)] W fun e w' => e = .returned (.bool ry) ∧ RS w' p mx ma (n0 + 2 * bndN x + 2 * bndN y) (lastE E) ∧ TrC mx ma W w') := fun W hW h => by rw [← hry, cmd_typ hsy]; exact hhy.2 W _ E S hW h (by rw [hsy]; decide) (by omega)
  have HH20 : Hid (∀ W, Ext wA W → RS W p mx ma (n0 + 2 * bndN x + 2 * bndN y) (lastE E) → Calls Tryz.prog 29 #[.pointer (some ⟨p, 0, none⟩), cV (.slice Ad C.decls.length cd) (.slice Af C.funs.length cf), nV z (.slice Az z.args.length cz) (.slice Bz z.brs.length dz)] W fun e w' => e = .returned (.bool rz) ∧ RS w' p mx ma (n0 + 2 * bndN x + 2 * bndN y + 2 * bndN z) (lastE E) ∧ TrC mx ma W w') := fun W hW h => by rw [← hrz, cmd_typ hsz]; exact hhz.2 W _ E S hW h (by rw [hsz]; decide) (by omega)
  have HM : Hid (n0 + 2 * bndN x + 2 * bndN y + 2 * bndN z ≤ n0 + 2 * bndN (.mk 11 n ty [x, y, z] brs)) := by show _ ≤ _; omega
  have HM0 : Hid (n0 + 2 * bndN x ≤ n0 + 2 * bndN (.mk 11 n ty [x, y, z] brs)) := by show _ ≤ _; omega
  have HM1 : Hid (n0 + 2 * bndN x + 2 * bndN y ≤ n0 + 2 * bndN (.mk 11 n ty [x, y, z] brs)) := by show _ ≤ _; omega
  have HM2 : Hid (n0 + 2 * bndN x + 2 * bndN y + 2 * bndN z ≤ n0 + 2 * bndN (.mk 11 n ty [x, y, z] brs)) := by show _ ≤ _; omega
  have HU : Hid (∀ q, uR E 11 n ty q = 0) := fun q => rfl
  obtain ⟨u9, hu9⟩ : ∃ u, uR E 11 n ty (rx && (ry && (rz))) = u := ⟨_, rfl⟩
  have HU9 : Hid (u9 = 0) := by show _ = _; rw [← hu9]; rfl
  rw [hu9]
  generalize n0 + 2 * bndN (.mk 11 n ty [x, y, z] brs) = M at *
  have HX2 := Lib.hid (Ext.al2 w (.cells #[.slice Ad C.decls.length cd, .slice Af C.funs.length cf] 25) (.cells #[.int .i64 11, .int .i64 n, .int .i64 ty, .slice (some ⟨b, o, none⟩) 3 ca, .slice B brs.length d] 36))
  have HB1 : Hid (((w.alloc (.cells #[.slice Ad C.decls.length cd, .slice Af C.funs.length cf] 25)).alloc (.cells #[.int .i64 11, .int .i64 n, .int .i64 ty, .slice (some ⟨b, o, none⟩) 3 ca, .slice B brs.length d] 36)).heap[w.heap.size]? = some (.cells #[.slice Ad C.decls.length cd, .slice Af C.funs.length cf] 25 (0, 0))) := Ext.lt (Ext.al _ _) (heapNew w _)
  have HB2 := Lib.hid (heapNew2 w (.cells #[.slice Ad C.decls.length cd, .slice Af C.funs.length cf] 25) (.cells #[.int .i64 11, .int .i64 n, .int .i64 ty, .slice (some ⟨b, o, none⟩) 3 ca, .slice B brs.length d] 36))
  have HX := Lib.hid hx; have HR := Lib.hid hr
  clear hA hx hr hs hn ht hC htyp hfa hmv hbm hbx hu9 HU hsx ycx ytx hhx hrx hsy ycy yty hhy hry hsz ycz ytz hhz hrz
  go_enter Tryz.func15, Tryz.ntmps15
  go_wp2_with fail
  generalize (w.alloc _).alloc _ = w2 at *
  have HR2 := Lib.hid (HR.out.ext HX2.out)
  have HX22 : Hid (Ext wA w2) := HX.out.tr HX2.out
  have HCE : Hid (∀ W, TrC mx ma w2 W → W.cell? ⟨w.heap.size, 0, none⟩ = some (.slice Ad C.decls.length cd) ∧ W.cell? ⟨w.heap.size, 1, none⟩ = some (.slice Af C.funs.length cf) ∧ W.cell? ⟨w.heap.size + 1, 2, none⟩ = some (.int .i64 ty) ∧ W.cell? ⟨w.heap.size + 1, 3, none⟩ = some (.slice (some ⟨b, o, none⟩) 3 ca) ∧ W.cell? ⟨b, o, none⟩ = some (.int .i64 x.op) ∧ W.cell? ⟨b, o + 1, none⟩ = some (.int .i64 x.n) ∧ W.cell? ⟨b, o + 2, none⟩ = some (.int .i64 x.ty) ∧ W.cell? ⟨b, o + 3, none⟩ = some (.slice Ax x.args.length cx) ∧ W.cell? ⟨b, o + 4, none⟩ = some (.slice Bx x.brs.length dx) ∧ W.cell? ⟨b, o + 5, none⟩ = some (.int .i64 y.op) ∧ W.cell? ⟨b, o + 6, none⟩ = some (.int .i64 y.n) ∧ W.cell? ⟨b, o + 7, none⟩ = some (.int .i64 y.ty) ∧ W.cell? ⟨b, o + 8, none⟩ = some (.slice Ay y.args.length cy) ∧ W.cell? ⟨b, o + 9, none⟩ = some (.slice By y.brs.length dy) ∧ W.cell? ⟨b, o + 10, none⟩ = some (.int .i64 z.op) ∧ W.cell? ⟨b, o + 11, none⟩ = some (.int .i64 z.n) ∧ W.cell? ⟨b, o + 12, none⟩ = some (.int .i64 z.ty) ∧ W.cell? ⟨b, o + 13, none⟩ = some (.slice Az z.args.length cz) ∧ W.cell? ⟨b, o + 14, none⟩ = some (.slice Bz z.brs.length dz)) := fun W h => by
    have h0 := HR2.out.cells h HB1.out
    have h1 := HR2.out.cells h HB2.out
    have hxx := h.below HX22.out hm1 hm2
    have gx := HYx.out.below hxx
    have gx := gx.at0
    have gy := HYy.out.below hxx
    have gz := HYz.out.below hxx
    exact ⟨cellAt h0 0, cellAt h0 1, cellAt h1 2, cellAt h1 3, gx.c0, gx.c1, gx.c2, gx.c3, gx.c4, gy.c0, gy.c1, gy.c2, gy.c3, gy.c4, gz.c0, gz.c1, gz.c2, gz.c3, gz.c4⟩
  have HH0 : Hid (∀ W, TrC mx ma w2 W → RS W p mx ma (n0) (lastE E) → Calls Tryz.prog 43 #[.pointer (some ⟨p, 0, none⟩), cV (.slice Ad C.decls.length cd) (.slice Af C.funs.length cf), nV x (.slice Ax x.args.length cx) (.slice Bx x.brs.length dx), .int .i64 0] W fun e w' => e = .returned (.bool rx) ∧ RS w' p mx ma (n0 + 2 * bndN x) (lastE E) ∧ TrC mx ma w2 w') := fun W hW h => by
    refine (HH00.out W (hW.below HX22.out hm1 hm2) h).mono ?_
    rintro e w' ⟨rfl, h1, h2⟩
    exact ⟨rfl, h1, TrC.tr hW h2⟩
  have HH1 : Hid (∀ W, TrC mx ma w2 W → RS W p mx ma (n0 + 2 * bndN x) (lastE E) → Calls Tryz.prog 29 #[.pointer (some ⟨p, 0, none⟩), cV (.slice Ad C.decls.length cd) (.slice Af C.funs.length cf), nV y (.slice Ay y.args.length cy) (.slice By y.brs.length dy)] W fun e w' => e = .returned (.bool ry) ∧ RS w' p mx ma (n0 + 2 * bndN x + 2 * bndN y) (lastE E) ∧ TrC mx ma w2 w') := fun W hW h => by
    refine (HH10.out W (hW.below HX22.out hm1 hm2) h).mono ?_
    rintro e w' ⟨rfl, h1, h2⟩
    exact ⟨rfl, h1, TrC.tr hW h2⟩
  have HH2 : Hid (∀ W, TrC mx ma w2 W → RS W p mx ma (n0 + 2 * bndN x + 2 * bndN y) (lastE E) → Calls Tryz.prog 29 #[.pointer (some ⟨p, 0, none⟩), cV (.slice Ad C.decls.length cd) (.slice Af C.funs.length cf), nV z (.slice Az z.args.length cz) (.slice Bz z.brs.length dz)] W fun e w' => e = .returned (.bool rz) ∧ RS w' p mx ma (n0 + 2 * bndN x + 2 * bndN y + 2 * bndN z) (lastE E) ∧ TrC mx ma w2 w') := fun W hW h => by
    refine (HH20.out W (hW.below HX22.out hm1 hm2) h).mono ?_
    rintro e w' ⟨rfl, h1, h2⟩
    exact ⟨rfl, h1, TrC.tr hW h2⟩
  clear HH00 HH10 HH20
  obtain ⟨k0, k1, k2, k3, k4, k5, k6, k7, k8, k9, k10, k11, k12, k13, k14, k15, k16, k17, k18⟩ := HCE.out w2 (Only.rf _ _)
  go_wp2_with fail
  cases rx
  · refine wp_region_held_drew (S := fun W => W.cell? ⟨w.heap.size, 0, none⟩ = some (.slice Ad C.decls.length cd) ∧ W.cell? ⟨w.heap.size, 1, none⟩ = some (.slice Af C.funs.length cf) ∧ W.cell? ⟨w.heap.size + 1, 2, none⟩ = some (.int .i64 ty) ∧ W.cell? ⟨w.heap.size + 1, 3, none⟩ = some (.slice (some ⟨b, o, none⟩) 3 ca) ∧ W.cell? ⟨b, o, none⟩ = some (.int .i64 x.op) ∧ W.cell? ⟨b, o + 1, none⟩ = some (.int .i64 x.n) ∧ W.cell? ⟨b, o + 2, none⟩ = some (.int .i64 x.ty) ∧ W.cell? ⟨b, o + 3, none⟩ = some (.slice Ax x.args.length cx) ∧ W.cell? ⟨b, o + 4, none⟩ = some (.slice Bx x.brs.length dx) ∧ W.cell? ⟨b, o + 5, none⟩ = some (.int .i64 y.op) ∧ W.cell? ⟨b, o + 6, none⟩ = some (.int .i64 y.n) ∧ W.cell? ⟨b, o + 7, none⟩ = some (.int .i64 y.ty) ∧ W.cell? ⟨b, o + 8, none⟩ = some (.slice Ay y.args.length cy) ∧ W.cell? ⟨b, o + 9, none⟩ = some (.slice By y.brs.length dy) ∧ W.cell? ⟨b, o + 10, none⟩ = some (.int .i64 z.op) ∧ W.cell? ⟨b, o + 11, none⟩ = some (.int .i64 z.n) ∧ W.cell? ⟨b, o + 12, none⟩ = some (.int .i64 z.ty) ∧ W.cell? ⟨b, o + 13, none⟩ = some (.slice Az z.args.length cz) ∧ W.cell? ⟨b, o + 14, none⟩ = some (.slice Bz z.brs.length dz)) (by kernel_rfl) (by (try dsimp only); (first | exact HCE.out _ HT2.out | exact HCE.out _ HT1.out | exact HCE.out _ HT0.out | exact HCE.out _ (TrC.ext (Ext.rf _).drew) | exact HCE.out _ (TrC.ext (Ext.rf _)) | fail "KEEP")) (fun hHeld => ?_)
    refine wpAnyH_take (i := 0) (v := ?_) rfl (by kernel_rfl) (by kernel_rfl) (by kernel_rfl) (fun _ _ _ h => h) (Or.inl ⟨by rfl, ?_⟩) (by assumption) ?_
    rotate_left
    · (intro w' hSw; (try dsimp only at hSw); go_simp; try with_reducible rfl)
    simp only [Act.put, List.getElem_toArray, List.getElem_cons_succ, List.getElem_cons_zero, List.setIfInBounds_toArray, List.set_cons_zero, List.set_cons_succ]
    refine wpAnyH_take (i := 1) (v := ?_) rfl (by kernel_rfl) (by kernel_rfl) (by kernel_rfl) (fun _ _ _ h => h) (Or.inl ⟨by rfl, ?_⟩) (by assumption) ?_
    rotate_left
    · (intro w' hSw; (try dsimp only at hSw); go_simp; try with_reducible rfl)
    simp only [Act.put, List.getElem_toArray, List.getElem_cons_succ, List.getElem_cons_zero, List.setIfInBounds_toArray, List.set_cons_zero, List.set_cons_succ]
    refine wpAnyH_take (i := 2) (v := ?_) rfl (by kernel_rfl) (by kernel_rfl) (by kernel_rfl) (fun _ _ _ h => h) (Or.inl ⟨by rfl, ?_⟩) (by assumption) ?_
    rotate_left
    · (intro w' hSw; (try dsimp only at hSw); go_simp; try with_reducible rfl)
    simp only [Act.put, List.getElem_toArray, List.getElem_cons_succ, List.getElem_cons_zero, List.setIfInBounds_toArray, List.set_cons_zero, List.set_cons_succ]
    refine wpAnyH_take (i := 3) (v := ?_) rfl (by kernel_rfl) (by kernel_rfl) (by kernel_rfl) (fun _ _ _ h => h) (Or.inl ⟨by rfl, ?_⟩) (by assumption) ?_
    rotate_left
    · (intro w' hSw; (try dsimp only at hSw); go_simp; try with_reducible rfl)
    simp only [Act.put, List.getElem_toArray, List.getElem_cons_succ, List.getElem_cons_zero, List.setIfInBounds_toArray, List.set_cons_zero, List.set_cons_succ]
    refine wpAnyH_take (i := 4) (v := ?_) rfl (by kernel_rfl) (by kernel_rfl) (by kernel_rfl) (fun _ _ _ h => h) (Or.inl ⟨by rfl, ?_⟩) (by assumption) ?_
    rotate_left
    · (intro w' hSw; (try dsimp only at hSw); go_simp; try with_reducible rfl)
    simp only [Act.put, List.getElem_toArray, List.getElem_cons_succ, List.getElem_cons_zero, List.setIfInBounds_toArray, List.set_cons_zero, List.set_cons_succ]
    refine wpAnyH_take (i := 5) (v := ?_) rfl (by kernel_rfl) (by kernel_rfl) (by kernel_rfl) (fun _ _ _ h => h) (Or.inl ⟨by rfl, ?_⟩) (by assumption) ?_
    rotate_left
    · (intro w' hSw; (try dsimp only at hSw); go_simp; try with_reducible rfl)
    simp only [Act.put, List.getElem_toArray, List.getElem_cons_succ, List.getElem_cons_zero, List.setIfInBounds_toArray, List.set_cons_zero, List.set_cons_succ]
    refine wpAnyH_ready (rs := [6]) (by kernel_rfl) (by simp) ?_
    refine AllReadyH.cons rfl (fun K hK => ?_) AllReadyH.nil
    go_simp
    (go_at_call 43; (with_reducible refine (HH0.out _ (TrC.ext (by first | exact (Ext.rf _).drew | exact Ext.rf _)) (HR2.out.ext (by first | exact (Ext.rf _).drew | exact Ext.rf _))).mono ?_); rintro e v0 ⟨rfl, hr0, ht0⟩; have HR0' := Lib.hid hr0; have HT0 := Lib.hid ht0; clear hr0 ht0)
    (try go_wp2_with fail)
    refine hK.out _ _ ?_ (fun hHeld => ?_)
    · (try dsimp only); exact HCE.out _ HT0.out
    clear hK K
    (try simp only [Act.put, List.getElem_toArray, List.getElem_cons_succ, List.getElem_cons_zero, List.setIfInBounds_toArray, List.set_cons_zero, List.set_cons_succ])
    refine wpAnyH_take (i := 7) (v := ?_) rfl (by kernel_rfl) (by kernel_rfl) (by kernel_rfl) (fun _ _ _ h => h) (Or.inl ⟨by rfl, ?_⟩) (by assumption) ?_
    rotate_left
    · (intro w' hSw; (try dsimp only at hSw); go_simp; try with_reducible rfl)
    simp only [Act.put, List.getElem_toArray, List.getElem_cons_succ, List.getElem_cons_zero, List.setIfInBounds_toArray, List.set_cons_zero, List.set_cons_succ]
    refine wpAnyH_take (i := 8) (v := undef) rfl (by kernel_rfl) (by kernel_rfl) (by kernel_rfl) (fun _ _ _ h => h) (Or.inr ⟨by rfl, rfl⟩) (by assumption) ?_
    simp only [Act.put, List.getElem_toArray, List.getElem_cons_succ, List.getElem_cons_zero, List.setIfInBounds_toArray, List.set_cons_zero, List.set_cons_succ]
    refine wpAnyH_take (i := 9) (v := undef) rfl (by kernel_rfl) (by kernel_rfl) (by kernel_rfl) (fun _ _ _ h => h) (Or.inr ⟨by rfl, rfl⟩) (by assumption) ?_
    simp only [Act.put, List.getElem_toArray, List.getElem_cons_succ, List.getElem_cons_zero, List.setIfInBounds_toArray, List.set_cons_zero, List.set_cons_succ]
    refine wpAnyH_take (i := 10) (v := undef) rfl (by kernel_rfl) (by kernel_rfl) (by kernel_rfl) (fun _ _ _ h => h) (Or.inr ⟨by rfl, rfl⟩) (by assumption) ?_
    simp only [Act.put, List.getElem_toArray, List.getElem_cons_succ, List.getElem_cons_zero, List.setIfInBounds_toArray, List.set_cons_zero, List.set_cons_succ]
    refine wpAnyH_take (i := 11) (v := undef) rfl (by kernel_rfl) (by kernel_rfl) (by kernel_rfl) (fun _ _ _ h => h) (Or.inr ⟨by rfl, rfl⟩) (by assumption) ?_
    simp only [Act.put, List.getElem_toArray, List.getElem_cons_succ, List.getElem_cons_zero, List.setIfInBounds_toArray, List.set_cons_zero, List.set_cons_succ]
    refine wpAnyH_take (i := 12) (v := undef) rfl (by kernel_rfl) (by kernel_rfl) (by kernel_rfl) (fun _ _ _ h => h) (Or.inr ⟨by rfl, rfl⟩) (by assumption) ?_
    simp only [Act.put, List.getElem_toArray, List.getElem_cons_succ, List.getElem_cons_zero, List.setIfInBounds_toArray, List.set_cons_zero, List.set_cons_succ]
    refine wpAnyH_take (i := 13) (v := undef) rfl (by kernel_rfl) (by kernel_rfl) (by kernel_rfl) (fun _ _ _ h => h) (Or.inr ⟨by rfl, rfl⟩) (by assumption) ?_
    simp only [Act.put, List.getElem_toArray, List.getElem_cons_succ, List.getElem_cons_zero, List.setIfInBounds_toArray, List.set_cons_zero, List.set_cons_succ]
    refine wpAnyH_take (i := 14) (v := undef) rfl (by kernel_rfl) (by kernel_rfl) (by kernel_rfl) (fun _ _ _ h => h) (Or.inr ⟨by rfl, rfl⟩) (by assumption) ?_
    simp only [Act.put, List.getElem_toArray, List.getElem_cons_succ, List.getElem_cons_zero, List.setIfInBounds_toArray, List.set_cons_zero, List.set_cons_succ]
    refine wpAnyH_take (i := 15) (v := ?_) rfl (by kernel_rfl) (by kernel_rfl) (by kernel_rfl) (fun _ _ _ h => h) (Or.inl ⟨by rfl, ?_⟩) (by assumption) ?_
    rotate_left
    · (intro w' hSw; (try dsimp only at hSw); go_simp; try with_reducible rfl)
    simp only [Act.put, List.getElem_toArray, List.getElem_cons_succ, List.getElem_cons_zero, List.setIfInBounds_toArray, List.set_cons_zero, List.set_cons_succ]
    refine wpAnyH_take (i := 16) (v := ?_) rfl (by kernel_rfl) (by kernel_rfl) (by kernel_rfl) (fun _ _ _ h => h) (Or.inl ⟨by rfl, ?_⟩) (by assumption) ?_
    rotate_left
    · (intro w' hSw; (try dsimp only at hSw); go_simp; try with_reducible rfl)
    simp only [Act.put, List.getElem_toArray, List.getElem_cons_succ, List.getElem_cons_zero, List.setIfInBounds_toArray, List.set_cons_zero, List.set_cons_succ]
    refine wpAnyH_take (i := 17) (v := undef) rfl (by kernel_rfl) (by kernel_rfl) (by kernel_rfl) (fun _ _ _ h => h) (Or.inr ⟨by rfl, rfl⟩) (by assumption) ?_
    simp only [Act.put, List.getElem_toArray, List.getElem_cons_succ, List.getElem_cons_zero, List.setIfInBounds_toArray, List.set_cons_zero, List.set_cons_succ]
    refine wpAnyH_take (i := 18) (v := undef) rfl (by kernel_rfl) (by kernel_rfl) (by kernel_rfl) (fun _ _ _ h => h) (Or.inr ⟨by rfl, rfl⟩) (by assumption) ?_
    simp only [Act.put, List.getElem_toArray, List.getElem_cons_succ, List.getElem_cons_zero, List.setIfInBounds_toArray, List.set_cons_zero, List.set_cons_succ]
    refine wpAnyH_take (i := 19) (v := undef) rfl (by kernel_rfl) (by kernel_rfl) (by kernel_rfl) (fun _ _ _ h => h) (Or.inr ⟨by rfl, rfl⟩) (by assumption) ?_
    simp only [Act.put, List.getElem_toArray, List.getElem_cons_succ, List.getElem_cons_zero, List.setIfInBounds_toArray, List.set_cons_zero, List.set_cons_succ]
    refine wpAnyH_take (i := 20) (v := undef) rfl (by kernel_rfl) (by kernel_rfl) (by kernel_rfl) (fun _ _ _ h => h) (Or.inr ⟨by rfl, rfl⟩) (by assumption) ?_
    simp only [Act.put, List.getElem_toArray, List.getElem_cons_succ, List.getElem_cons_zero, List.setIfInBounds_toArray, List.set_cons_zero, List.set_cons_succ]
    refine wpAnyH_take (i := 21) (v := undef) rfl (by kernel_rfl) (by kernel_rfl) (by kernel_rfl) (fun _ _ _ h => h) (Or.inr ⟨by rfl, rfl⟩) (by assumption) ?_
    simp only [Act.put, List.getElem_toArray, List.getElem_cons_succ, List.getElem_cons_zero, List.setIfInBounds_toArray, List.set_cons_zero, List.set_cons_succ]
    refine wpAnyH_take (i := 22) (v := undef) rfl (by kernel_rfl) (by kernel_rfl) (by kernel_rfl) (fun _ _ _ h => h) (Or.inr ⟨by rfl, rfl⟩) (by assumption) ?_
    simp only [Act.put, List.getElem_toArray, List.getElem_cons_succ, List.getElem_cons_zero, List.setIfInBounds_toArray, List.set_cons_zero, List.set_cons_succ]
    refine wpAnyH_take (i := 23) (v := undef) rfl (by kernel_rfl) (by kernel_rfl) (by kernel_rfl) (fun _ _ _ h => h) (Or.inr ⟨by rfl, rfl⟩) (by assumption) ?_
    simp only [Act.put, List.getElem_toArray, List.getElem_cons_succ, List.getElem_cons_zero, List.setIfInBounds_toArray, List.set_cons_zero, List.set_cons_succ]
    refine wpAnyH_take (i := 24) (v := ?_) rfl (by kernel_rfl) (by kernel_rfl) (by kernel_rfl) (fun _ _ _ h => h) (Or.inl ⟨by rfl, ?_⟩) (by assumption) ?_
    rotate_left
    · (intro w' hSw; (try dsimp only at hSw); go_simp; try with_reducible rfl)
    simp only [Act.put, List.getElem_toArray, List.getElem_cons_succ, List.getElem_cons_zero, List.setIfInBounds_toArray, List.set_cons_zero, List.set_cons_succ]
    refine wpAnyH_take (i := 25) (v := ?_) rfl (by kernel_rfl) (by kernel_rfl) (by kernel_rfl) (fun _ _ _ h => h) (Or.inl ⟨by rfl, ?_⟩) (by assumption) ?_
    rotate_left
    · (intro w' hSw; (try dsimp only at hSw); go_simp; try with_reducible rfl)
    simp only [Act.put, List.getElem_toArray, List.getElem_cons_succ, List.getElem_cons_zero, List.setIfInBounds_toArray, List.set_cons_zero, List.set_cons_succ]
    refine wpAnyH_take (i := 26) (v := ?_) rfl (by kernel_rfl) (by kernel_rfl) (by kernel_rfl) (fun _ _ _ h => h) (Or.inl ⟨by rfl, ?_⟩) (by assumption) ?_
    rotate_left
    · (intro w' hSw; (try dsimp only at hSw); go_simp; try with_reducible rfl)
    simp only [Act.put, List.getElem_toArray, List.getElem_cons_succ, List.getElem_cons_zero, List.setIfInBounds_toArray, List.set_cons_zero, List.set_cons_succ]
    refine wpAnyH_done (by kernel_rfl) ?_ _
    go_wp2
    refine bodyPost_ret (results_tmp2 rfl _ _ _) rfl ?_
    exact ⟨by rw [HU9.out]; (try simp only [Bool.false_and, Bool.true_and, Bool.and_false, Bool.and_true]); rfl, HR0'.out.mono HM0.out, TrC.tr (TrC.ext HX2.out) HT0.out⟩
  cases ry
  · refine wp_region_held_drew (S := fun W => W.cell? ⟨w.heap.size, 0, none⟩ = some (.slice Ad C.decls.length cd) ∧ W.cell? ⟨w.heap.size, 1, none⟩ = some (.slice Af C.funs.length cf) ∧ W.cell? ⟨w.heap.size + 1, 2, none⟩ = some (.int .i64 ty) ∧ W.cell? ⟨w.heap.size + 1, 3, none⟩ = some (.slice (some ⟨b, o, none⟩) 3 ca) ∧ W.cell? ⟨b, o, none⟩ = some (.int .i64 x.op) ∧ W.cell? ⟨b, o + 1, none⟩ = some (.int .i64 x.n) ∧ W.cell? ⟨b, o + 2, none⟩ = some (.int .i64 x.ty) ∧ W.cell? ⟨b, o + 3, none⟩ = some (.slice Ax x.args.length cx) ∧ W.cell? ⟨b, o + 4, none⟩ = some (.slice Bx x.brs.length dx) ∧ W.cell? ⟨b, o + 5, none⟩ = some (.int .i64 y.op) ∧ W.cell? ⟨b, o + 6, none⟩ = some (.int .i64 y.n) ∧ W.cell? ⟨b, o + 7, none⟩ = some (.int .i64 y.ty) ∧ W.cell? ⟨b, o + 8, none⟩ = some (.slice Ay y.args.length cy) ∧ W.cell? ⟨b, o + 9, none⟩ = some (.slice By y.brs.length dy) ∧ W.cell? ⟨b, o + 10, none⟩ = some (.int .i64 z.op) ∧ W.cell? ⟨b, o + 11, none⟩ = some (.int .i64 z.n) ∧ W.cell? ⟨b, o + 12, none⟩ = some (.int .i64 z.ty) ∧ W.cell? ⟨b, o + 13, none⟩ = some (.slice Az z.args.length cz) ∧ W.cell? ⟨b, o + 14, none⟩ = some (.slice Bz z.brs.length dz)) (by kernel_rfl) (by (try dsimp only); (first | exact HCE.out _ HT2.out | exact HCE.out _ HT1.out | exact HCE.out _ HT0.out | exact HCE.out _ (TrC.ext (Ext.rf _).drew) | exact HCE.out _ (TrC.ext (Ext.rf _)) | fail "KEEP")) (fun hHeld => ?_)
    refine wpAnyH_take (i := 0) (v := ?_) rfl (by kernel_rfl) (by kernel_rfl) (by kernel_rfl) (fun _ _ _ h => h) (Or.inl ⟨by rfl, ?_⟩) (by assumption) ?_
    rotate_left
    · (intro w' hSw; (try dsimp only at hSw); go_simp; try with_reducible rfl)
    simp only [Act.put, List.getElem_toArray, List.getElem_cons_succ, List.getElem_cons_zero, List.setIfInBounds_toArray, List.set_cons_zero, List.set_cons_succ]
    refine wpAnyH_take (i := 1) (v := ?_) rfl (by kernel_rfl) (by kernel_rfl) (by kernel_rfl) (fun _ _ _ h => h) (Or.inl ⟨by rfl, ?_⟩) (by assumption) ?_
    rotate_left
    · (intro w' hSw; (try dsimp only at hSw); go_simp; try with_reducible rfl)
    simp only [Act.put, List.getElem_toArray, List.getElem_cons_succ, List.getElem_cons_zero, List.setIfInBounds_toArray, List.set_cons_zero, List.set_cons_succ]
    refine wpAnyH_take (i := 2) (v := ?_) rfl (by kernel_rfl) (by kernel_rfl) (by kernel_rfl) (fun _ _ _ h => h) (Or.inl ⟨by rfl, ?_⟩) (by assumption) ?_
    rotate_left
    · (intro w' hSw; (try dsimp only at hSw); go_simp; try with_reducible rfl)
    simp only [Act.put, List.getElem_toArray, List.getElem_cons_succ, List.getElem_cons_zero, List.setIfInBounds_toArray, List.set_cons_zero, List.set_cons_succ]
    refine wpAnyH_take (i := 3) (v := ?_) rfl (by kernel_rfl) (by kernel_rfl) (by kernel_rfl) (fun _ _ _ h => h) (Or.inl ⟨by rfl, ?_⟩) (by assumption) ?_
    rotate_left
    · (intro w' hSw; (try dsimp only at hSw); go_simp; try with_reducible rfl)
    simp only [Act.put, List.getElem_toArray, List.getElem_cons_succ, List.getElem_cons_zero, List.setIfInBounds_toArray, List.set_cons_zero, List.set_cons_succ]
    refine wpAnyH_take (i := 4) (v := ?_) rfl (by kernel_rfl) (by kernel_rfl) (by kernel_rfl) (fun _ _ _ h => h) (Or.inl ⟨by rfl, ?_⟩) (by assumption) ?_
    rotate_left
    · (intro w' hSw; (try dsimp only at hSw); go_simp; try with_reducible rfl)
    simp only [Act.put, List.getElem_toArray, List.getElem_cons_succ, List.getElem_cons_zero, List.setIfInBounds_toArray, List.set_cons_zero, List.set_cons_succ]
    refine wpAnyH_take (i := 5) (v := ?_) rfl (by kernel_rfl) (by kernel_rfl) (by kernel_rfl) (fun _ _ _ h => h) (Or.inl ⟨by rfl, ?_⟩) (by assumption) ?_
    rotate_left
    · (intro w' hSw; (try dsimp only at hSw); go_simp; try with_reducible rfl)
    simp only [Act.put, List.getElem_toArray, List.getElem_cons_succ, List.getElem_cons_zero, List.setIfInBounds_toArray, List.set_cons_zero, List.set_cons_succ]
    refine wpAnyH_ready (rs := [6]) (by kernel_rfl) (by simp) ?_
    refine AllReadyH.cons rfl (fun K hK => ?_) AllReadyH.nil
    go_simp
    (go_at_call 43; (with_reducible refine (HH0.out _ (TrC.ext (by first | exact (Ext.rf _).drew | exact Ext.rf _)) (HR2.out.ext (by first | exact (Ext.rf _).drew | exact Ext.rf _))).mono ?_); rintro e v0 ⟨rfl, hr0, ht0⟩; have HR0' := Lib.hid hr0; have HT0 := Lib.hid ht0; clear hr0 ht0)
    (try go_wp2_with fail)
    refine hK.out _ _ ?_ (fun hHeld => ?_)
    · (try dsimp only); exact HCE.out _ HT0.out
    clear hK K
    (try simp only [Act.put, List.getElem_toArray, List.getElem_cons_succ, List.getElem_cons_zero, List.setIfInBounds_toArray, List.set_cons_zero, List.set_cons_succ])
    refine wpAnyH_take (i := 7) (v := ?_) rfl (by kernel_rfl) (by kernel_rfl) (by kernel_rfl) (fun _ _ _ h => h) (Or.inl ⟨by rfl, ?_⟩) (by assumption) ?_
    rotate_left
    · (intro w' hSw; (try dsimp only at hSw); go_simp; try with_reducible rfl)
    simp only [Act.put, List.getElem_toArray, List.getElem_cons_succ, List.getElem_cons_zero, List.setIfInBounds_toArray, List.set_cons_zero, List.set_cons_succ]
    refine wpAnyH_take (i := 8) (v := ?_) rfl (by kernel_rfl) (by kernel_rfl) (by kernel_rfl) (fun _ _ _ h => h) (Or.inl ⟨by rfl, ?_⟩) (by assumption) ?_
    rotate_left
    · (intro w' hSw; (try dsimp only at hSw); go_simp; try with_reducible rfl)
    simp only [Act.put, List.getElem_toArray, List.getElem_cons_succ, List.getElem_cons_zero, List.setIfInBounds_toArray, List.set_cons_zero, List.set_cons_succ]
    refine wpAnyH_take (i := 9) (v := ?_) rfl (by kernel_rfl) (by kernel_rfl) (by kernel_rfl) (fun _ _ _ h => h) (Or.inl ⟨by rfl, ?_⟩) (by assumption) ?_
    rotate_left
    · (intro w' hSw; (try dsimp only at hSw); go_simp; try with_reducible rfl)
    simp only [Act.put, List.getElem_toArray, List.getElem_cons_succ, List.getElem_cons_zero, List.setIfInBounds_toArray, List.set_cons_zero, List.set_cons_succ]
    refine wpAnyH_take (i := 10) (v := ?_) rfl (by kernel_rfl) (by kernel_rfl) (by kernel_rfl) (fun _ _ _ h => h) (Or.inl ⟨by rfl, ?_⟩) (by assumption) ?_
    rotate_left
    · (intro w' hSw; (try dsimp only at hSw); go_simp; try with_reducible rfl)
    simp only [Act.put, List.getElem_toArray, List.getElem_cons_succ, List.getElem_cons_zero, List.setIfInBounds_toArray, List.set_cons_zero, List.set_cons_succ]
    refine wpAnyH_take (i := 11) (v := ?_) rfl (by kernel_rfl) (by kernel_rfl) (by kernel_rfl) (fun _ _ _ h => h) (Or.inl ⟨by rfl, ?_⟩) (by assumption) ?_
    rotate_left
    · (intro w' hSw; (try dsimp only at hSw); go_simp; try with_reducible rfl)
    simp only [Act.put, List.getElem_toArray, List.getElem_cons_succ, List.getElem_cons_zero, List.setIfInBounds_toArray, List.set_cons_zero, List.set_cons_succ]
    refine wpAnyH_take (i := 12) (v := ?_) rfl (by kernel_rfl) (by kernel_rfl) (by kernel_rfl) (fun _ _ _ h => h) (Or.inl ⟨by rfl, ?_⟩) (by assumption) ?_
    rotate_left
    · (intro w' hSw; (try dsimp only at hSw); go_simp; try with_reducible rfl)
    simp only [Act.put, List.getElem_toArray, List.getElem_cons_succ, List.getElem_cons_zero, List.setIfInBounds_toArray, List.set_cons_zero, List.set_cons_succ]
    refine wpAnyH_take (i := 13) (v := ?_) rfl (by kernel_rfl) (by kernel_rfl) (by kernel_rfl) (fun _ _ _ h => h) (Or.inl ⟨by rfl, ?_⟩) (by assumption) ?_
    rotate_left
    · (intro w' hSw; (try dsimp only at hSw); go_simp; try with_reducible rfl)
    simp only [Act.put, List.getElem_toArray, List.getElem_cons_succ, List.getElem_cons_zero, List.setIfInBounds_toArray, List.set_cons_zero, List.set_cons_succ]
    refine wpAnyH_ready (rs := [14]) (by kernel_rfl) (by simp) ?_
    refine AllReadyH.cons rfl (fun K hK => ?_) AllReadyH.nil
    go_simp
    (go_at_call 29; (with_reducible refine (HH1.out _ HT0.out HR0'.out).mono ?_); rintro e v1 ⟨rfl, hr1, ht1⟩; have HR1' := Lib.hid hr1; have HT1 := Lib.hid ht1; clear hr1 ht1)
    (try go_wp2_with fail)
    refine hK.out _ _ ?_ (fun hHeld => ?_)
    · (try dsimp only); exact HCE.out _ HT1.out
    clear hK K
    (try simp only [Act.put, List.getElem_toArray, List.getElem_cons_succ, List.getElem_cons_zero, List.setIfInBounds_toArray, List.set_cons_zero, List.set_cons_succ])
    refine wpAnyH_take (i := 15) (v := ?_) rfl (by kernel_rfl) (by kernel_rfl) (by kernel_rfl) (fun _ _ _ h => h) (Or.inl ⟨by rfl, ?_⟩) (by assumption) ?_
    rotate_left
    · (intro w' hSw; (try dsimp only at hSw); go_simp; try with_reducible rfl)
    simp only [Act.put, List.getElem_toArray, List.getElem_cons_succ, List.getElem_cons_zero, List.setIfInBounds_toArray, List.set_cons_zero, List.set_cons_succ]
    refine wpAnyH_take (i := 16) (v := ?_) rfl (by kernel_rfl) (by kernel_rfl) (by kernel_rfl) (fun _ _ _ h => h) (Or.inl ⟨by rfl, ?_⟩) (by assumption) ?_
    rotate_left
    · (intro w' hSw; (try dsimp only at hSw); go_simp; try with_reducible rfl)
    simp only [Act.put, List.getElem_toArray, List.getElem_cons_succ, List.getElem_cons_zero, List.setIfInBounds_toArray, List.set_cons_zero, List.set_cons_succ]
    refine wpAnyH_take (i := 17) (v := undef) rfl (by kernel_rfl) (by kernel_rfl) (by kernel_rfl) (fun _ _ _ h => h) (Or.inr ⟨by rfl, rfl⟩) (by assumption) ?_
    simp only [Act.put, List.getElem_toArray, List.getElem_cons_succ, List.getElem_cons_zero, List.setIfInBounds_toArray, List.set_cons_zero, List.set_cons_succ]
    refine wpAnyH_take (i := 18) (v := undef) rfl (by kernel_rfl) (by kernel_rfl) (by kernel_rfl) (fun _ _ _ h => h) (Or.inr ⟨by rfl, rfl⟩) (by assumption) ?_
    simp only [Act.put, List.getElem_toArray, List.getElem_cons_succ, List.getElem_cons_zero, List.setIfInBounds_toArray, List.set_cons_zero, List.set_cons_succ]
    refine wpAnyH_take (i := 19) (v := undef) rfl (by kernel_rfl) (by kernel_rfl) (by kernel_rfl) (fun _ _ _ h => h) (Or.inr ⟨by rfl, rfl⟩) (by assumption) ?_
    simp only [Act.put, List.getElem_toArray, List.getElem_cons_succ, List.getElem_cons_zero, List.setIfInBounds_toArray, List.set_cons_zero, List.set_cons_succ]
    refine wpAnyH_take (i := 20) (v := undef) rfl (by kernel_rfl) (by kernel_rfl) (by kernel_rfl) (fun _ _ _ h => h) (Or.inr ⟨by rfl, rfl⟩) (by assumption) ?_
    simp only [Act.put, List.getElem_toArray, List.getElem_cons_succ, List.getElem_cons_zero, List.setIfInBounds_toArray, List.set_cons_zero, List.set_cons_succ]
    refine wpAnyH_take (i := 21) (v := undef) rfl (by kernel_rfl) (by kernel_rfl) (by kernel_rfl) (fun _ _ _ h => h) (Or.inr ⟨by rfl, rfl⟩) (by assumption) ?_
    simp only [Act.put, List.getElem_toArray, List.getElem_cons_succ, List.getElem_cons_zero, List.setIfInBounds_toArray, List.set_cons_zero, List.set_cons_succ]
    refine wpAnyH_take (i := 22) (v := undef) rfl (by kernel_rfl) (by kernel_rfl) (by kernel_rfl) (fun _ _ _ h => h) (Or.inr ⟨by rfl, rfl⟩) (by assumption) ?_
    simp only [Act.put, List.getElem_toArray, List.getElem_cons_succ, List.getElem_cons_zero, List.setIfInBounds_toArray, List.set_cons_zero, List.set_cons_succ]
    refine wpAnyH_take (i := 23) (v := undef) rfl (by kernel_rfl) (by kernel_rfl) (by kernel_rfl) (fun _ _ _ h => h) (Or.inr ⟨by rfl, rfl⟩) (by assumption) ?_
    simp only [Act.put, List.getElem_toArray, List.getElem_cons_succ, List.getElem_cons_zero, List.setIfInBounds_toArray, List.set_cons_zero, List.set_cons_succ]
    refine wpAnyH_take (i := 24) (v := ?_) rfl (by kernel_rfl) (by kernel_rfl) (by kernel_rfl) (fun _ _ _ h => h) (Or.inl ⟨by rfl, ?_⟩) (by assumption) ?_
    rotate_left
    · (intro w' hSw; (try dsimp only at hSw); go_simp; try with_reducible rfl)
    simp only [Act.put, List.getElem_toArray, List.getElem_cons_succ, List.getElem_cons_zero, List.setIfInBounds_toArray, List.set_cons_zero, List.set_cons_succ]
    refine wpAnyH_take (i := 25) (v := ?_) rfl (by kernel_rfl) (by kernel_rfl) (by kernel_rfl) (fun _ _ _ h => h) (Or.inl ⟨by rfl, ?_⟩) (by assumption) ?_
    rotate_left
    · (intro w' hSw; (try dsimp only at hSw); go_simp; try with_reducible rfl)
    simp only [Act.put, List.getElem_toArray, List.getElem_cons_succ, List.getElem_cons_zero, List.setIfInBounds_toArray, List.set_cons_zero, List.set_cons_succ]
    refine wpAnyH_take (i := 26) (v := ?_) rfl (by kernel_rfl) (by kernel_rfl) (by kernel_rfl) (fun _ _ _ h => h) (Or.inl ⟨by rfl, ?_⟩) (by assumption) ?_
    rotate_left
    · (intro w' hSw; (try dsimp only at hSw); go_simp; try with_reducible rfl)
    simp only [Act.put, List.getElem_toArray, List.getElem_cons_succ, List.getElem_cons_zero, List.setIfInBounds_toArray, List.set_cons_zero, List.set_cons_succ]
    refine wpAnyH_done (by kernel_rfl) ?_ _
    go_wp2
    refine bodyPost_ret (results_tmp2 rfl _ _ _) rfl ?_
    exact ⟨by rw [HU9.out]; (try simp only [Bool.false_and, Bool.true_and, Bool.and_false, Bool.and_true]); rfl, HR1'.out.mono HM1.out, TrC.tr (TrC.ext HX2.out) HT1.out⟩
  go_region_held3 (fun W => W.cell? ⟨w.heap.size, 0, none⟩ = some (.slice Ad C.decls.length cd) ∧ W.cell? ⟨w.heap.size, 1, none⟩ = some (.slice Af C.funs.length cf) ∧ W.cell? ⟨w.heap.size + 1, 2, none⟩ = some (.int .i64 ty) ∧ W.cell? ⟨w.heap.size + 1, 3, none⟩ = some (.slice (some ⟨b, o, none⟩) 3 ca) ∧ W.cell? ⟨b, o, none⟩ = some (.int .i64 x.op) ∧ W.cell? ⟨b, o + 1, none⟩ = some (.int .i64 x.n) ∧ W.cell? ⟨b, o + 2, none⟩ = some (.int .i64 x.ty) ∧ W.cell? ⟨b, o + 3, none⟩ = some (.slice Ax x.args.length cx) ∧ W.cell? ⟨b, o + 4, none⟩ = some (.slice Bx x.brs.length dx) ∧ W.cell? ⟨b, o + 5, none⟩ = some (.int .i64 y.op) ∧ W.cell? ⟨b, o + 6, none⟩ = some (.int .i64 y.n) ∧ W.cell? ⟨b, o + 7, none⟩ = some (.int .i64 y.ty) ∧ W.cell? ⟨b, o + 8, none⟩ = some (.slice Ay y.args.length cy) ∧ W.cell? ⟨b, o + 9, none⟩ = some (.slice By y.brs.length dy) ∧ W.cell? ⟨b, o + 10, none⟩ = some (.int .i64 z.op) ∧ W.cell? ⟨b, o + 11, none⟩ = some (.int .i64 z.n) ∧ W.cell? ⟨b, o + 12, none⟩ = some (.int .i64 z.ty) ∧ W.cell? ⟨b, o + 13, none⟩ = some (.slice Az z.args.length cz) ∧ W.cell? ⟨b, o + 14, none⟩ = some (.slice Bz z.brs.length dz))
    (first | exact HCE.out _ HT2.out | exact HCE.out _ HT1.out | exact HCE.out _ HT0.out | exact HCE.out _ (TrC.ext (Ext.rf _).drew) | exact HCE.out _ (TrC.ext (Ext.rf _)) | fail "KEEP")
    (first
      | (go_at_call 29; (with_reducible refine (HH2.out _ HT1.out HR1'.out).mono ?_); rintro e v2 ⟨rfl, hr2, ht2⟩; have HR2' := Lib.hid hr2; have HT2 := Lib.hid ht2; clear hr2 ht2)
      | (go_at_call 29; (with_reducible refine (HH1.out _ HT0.out HR0'.out).mono ?_); rintro e v1 ⟨rfl, hr1, ht1⟩; have HR1' := Lib.hid hr1; have HT1 := Lib.hid ht1; clear hr1 ht1)
      | (go_at_call 43; (with_reducible refine (HH0.out _ (TrC.ext (by first | exact (Ext.rf _).drew | exact Ext.rf _)) (HR2.out.ext (by first | exact (Ext.rf _).drew | exact Ext.rf _))).mono ?_); rintro e v0 ⟨rfl, hr0, ht0⟩; have HR0' := Lib.hid hr0; have HT0 := Lib.hid ht0; clear hr0 ht0)
      | fail "ARM")
  all_goals
    go_wp2
    refine bodyPost_ret (results_tmp2 rfl _ _ _) rfl ?_
    exact ⟨by rw [HU9.out]; (try simp only [Bool.false_and, Bool.true_and, Bool.and_false, Bool.and_true]); rfl, HR2'.out.mono HM2.out, TrC.tr (TrC.ext HX2.out) HT2.out⟩
end
end Go.Proofs.YtkdhhcidpklgoaaGreatDoor
