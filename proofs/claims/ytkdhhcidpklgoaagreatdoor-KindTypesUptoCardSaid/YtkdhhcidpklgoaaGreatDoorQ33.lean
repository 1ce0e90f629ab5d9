/- ref07: Type at a mu and at a comu. -/
import Derived.Test.YtkdhhcidpklgoaaGreatDoorQ32
import Derived.Deep.RegionHeld3
namespace Go.Proofs.YtkdhhcidpklgoaaGreatDoor
open Go.RowKit Go.Shelf Go.Maps
attribute [local go_sem] Oper.semAt_some

section
variable {C : Cg} {vd vf : Value} {wA : World} {p mx ma : Nat}
theorem cmd_typ {E : Ev} {S : Sc} {x : Nd} (h : sortN C S x = 2) : decide (typN C E x = some 0) = (typN C E x).isSome := by
  have hop : 9 ≤ x.op ∧ x.op ≤ 14 := by
    rcases sortN_of C S x with h1 | h1
    · rw [h1] at h; exact absurd h (by decide)
    · rw [h1] at h
      unfold sortOp at h
      repeat' (split at h)
      all_goals first | omega | (exact absurd h (by decide))
  rw [typN_eq]
  split
  · have : ownT E x.op x.n x.ty = 0 := ownT_no (by omega) (by omega)
    rw [this]; rfl
  · rfl
theorem fa_is {S : Sc} {op n ty : Int} {args : List Nd} {brs : List Br} (hs : sortN C S (.mk op n ty args brs) ≠ 3) (hl : leafB op = false) : sortA C (addS S (muV op n)) args = wantS C op n ty := by
  have h := (sort_parts hs).1.fa
  have h : (if leafB op then [] else sortA C (addS S (muV op n)) args) = wantS C op n ty := h
  rw [hl] at h; exact h
theorem args_len {S : Sc} {op n ty : Int} {args : List Nd} {brs : List Br} (hs : sortN C S (.mk op n ty args brs) ≠ 3) : args.length = (wantS C op n ty).length := (sort_parts hs).1.na
theorem list1 {α : Type} {l : List α} (h : l.length = 1) : ∃ x, l = [x] := by
  match l, h with
  | [x], _ => exact ⟨x, rfl⟩
theorem list2 {α : Type} {l : List α} (h : l.length = 2) : ∃ x y, l = [x, y] := by
  match l, h with
  | [x, y], _ => exact ⟨x, y, rfl⟩
theorem list3 {α : Type} {l : List α} (h : l.length = 3) : ∃ x y z, l = [x, y, z] := by
  match l, h with
  | [x, y, z], _ => exact ⟨x, y, z, rfl⟩
theorem N5.at0 {w : World} {b o : Nat} {t : Nd} {va vb : Value} (h : N5 w b (o + 0 * 5) t va vb) : N5 w b o t va vb := by rw [Nat.zero_mul, Nat.add_zero] at h; exact h
theorem bnd_mk (op n ty : Int) (args : List Nd) (brs : List Br) : bndN (.mk op n ty args brs) = 1 + (bndA args + bndB brs) := bndN_eq _
set_option maxHeartbeats 8000000 in
set_option maxRecDepth 100000 in
theorem ty7_3 (k : Nat) (n ty : Int) (args : List Nd) (brs : List Br) (va vb : Value) (hC : RCg wA vd vf C) (ht : RNd wA (k + 1) (.mk 3 n ty args brs) va vb)
    (hA : ∀ (i : Nat) x, args[i]? = some x → ∀ xa xb, RNd wA k x xa xb → GoS C vd vf wA p mx ma x xa xb) (hm1 : wA.heap.size ≤ mx) (hm2 : wA.heap.size ≤ ma) : TyO C vd vf wA p mx ma 3 n ty args brs va vb := by
  intro w n0 E S hx hr hs hn
  have hk : ok64 n := ht.form.1.2.1
  obtain ⟨x, rfl⟩ := list1 (args_len hs)
  have hfa := fa_is hs rfl
  have hsx : sortN C (addS S (muV 3 n)) x = 2 := by
    have : [sortN C (addS S (muV 3 n)) x] = [2] := hfa
    exact (List.cons.inj this).1
  have hbm := bnd_mk 3 n ty [x] brs
  have hbx : bndA [x] = bndN x := rfl
  have htyp : (typN C E (.mk 3 n ty [x] brs)).isSome = (typN C (pushE E [(1, n)] [ty]) x).isSome := by
    rw [no_brs_typ hs rfl, if_some]
    show (decide (typN C (pushE E (muV 3 n) [ty]) x = some 0) && true) = _
    rw [Bool.and_true, cmd_typ hsx]; rfl
  rw [htyp]
  obtain ⟨q, hq⟩ : ∃ q, (typN C (pushE E [(1, n)] [ty]) x).isSome = q := ⟨_, rfl⟩
  have HU : Hid (uR E 3 n ty q = ty) := rfl
  obtain ⟨Ad, cd, rfl, -, -⟩ := hC.d.form
  obtain ⟨Af, cf, rfl, -, -⟩ := hC.f.form
  obtain ⟨A, ca, rfl, -, -⟩ : ∃ A ca, va = .slice A 1 ca ∧ _ := ht.form.2.1
  obtain ⟨B, d, rfl, -, -⟩ : ∃ B d, vb = .slice B brs.length d ∧ _ := ht.form.2.2
  obtain ⟨b, o, xa, xb, rfl, hbl, yc, yt⟩ : ∃ b o xa xb, A = some ⟨b, o, none⟩ ∧ b < wA.heap.size ∧ N5 wA b (o + 0 * 5) x xa xb ∧ RNd wA k x xa xb := RNd.arg (t := .mk 3 n ty [x] brs) ht (i := 0) (show (0 : Nat) < 1 by decide)
  have yc := yc.at0
  have hgo := hA 0 x rfl xa xb yt
  obtain ⟨_, ⟨Ax, cx, rfl, -, -⟩, ⟨Bx, dx, rfl, -, -⟩⟩ := yt.form
  have HEP : Hid (lastE (pushE E [(1, n)] [ty]) = setV (lastE E) (1, n) ty) := by show _ = _; rw [pushE_cons, pushE_nil, lastE_push]
  have HGO : Hid (∀ W, Ext wA W → RS W p mx ma (n0 + 1) (setV (lastE E) (1, n) ty) → Calls Tryz.prog 29 #[.pointer (some ⟨p, 0, none⟩), cV (.slice Ad C.decls.length cd) (.slice Af C.funs.length cf), nV x (.slice Ax x.args.length cx) (.slice Bx x.brs.length dx)] W fun e w' => e = .returned (.bool q) ∧ RS w' p mx ma (n0 + 1 + 2 * bndN x) (setV (lastE E) (1, n) ty) ∧ TrC mx ma W w') := fun W hW h => by
    rw [← hq, ← HEP.out] at *
    exact hgo W (n0 + 1) _ _ hW h (by rw [hsx]; decide) (by omega)
  have HBI : Hid (∀ W, RS W p mx ma n0 (lastE E) → Calls Tryz.prog 40 #[.pointer (some ⟨p, 0, none⟩), .bool true, .int .i64 n, .int .i64 ty] W fun e w' => (∃ q : Bool, e = .returned (savV (coI true, n) true (lastE E (coI true, n)) q) ∧ (q = false → lastE E (coI true, n) = 0)) ∧ RS w' p mx ma (n0 + 1) (setV (lastE E) (coI true, n) ty) ∧ TrC mx ma W w') := fun W h => bind7_any W p mx ma n0 (lastE E) true n ty h hk (by unfold maxLen; omega)
  obtain ⟨old, hold⟩ : ∃ old, lastE E (coI true, n) = old := ⟨_, rfl⟩
  have HRE : Hid (∀ W qs, (qs = false → old = 0) → RS W p mx ma (n0 + 1 + 2 * bndN x) (setV (lastE E) (1, n) ty) → Calls Tryz.prog 41 #[.pointer (some ⟨p, 0, none⟩), .agg #[.bool true, .int .i64 n, .int .i64 old, .bool qs]] W fun e w' => e = .returned (.tuple #[]) ∧ RS w' p mx ma (n0 + 2 * bndN (.mk 3 n ty [x] brs)) (lastE E) ∧ TrC mx ma W w') := fun W qs hqs h => by
    refine (restore7_any W p mx ma _ _ true n old qs h hk (by unfold maxLen; omega) hqs).mono ?_
    rintro e w' ⟨rfl, h1, h2⟩
    have e1 : setV (setV (lastE E) (1, n) ty) (coI true, n) old = lastE E := by rw [← hold]; exact setV_back _ _ _
    rw [e1] at h1
    exact ⟨rfl, h1.mono (by omega), h2⟩
  have HBI2 : Hid (∀ W, RS W p mx ma n0 (lastE E) → Calls Tryz.prog 40 #[.pointer (some ⟨p, 0, none⟩), .bool true, .int .i64 n, .int .i64 ty] W fun e w' => (∃ q : Bool, e = .returned (.agg #[.bool true, .int .i64 n, .int .i64 old, .bool q]) ∧ (q = false → old = 0)) ∧ RS w' p mx ma (n0 + 1) (setV (lastE E) (1, n) ty) ∧ TrC mx ma W w') := fun W h => by rw [← hold]; exact HBI.out W h
  rw [hq]
  generalize uR E 3 n ty q = u9 at *
  generalize n0 + 2 * bndN (.mk 3 n ty [x] brs) = M at *
  have HX2 := Lib.hid (Ext.al2 w (.cells #[.slice Ad C.decls.length cd, .slice Af C.funs.length cf] 25) (.cells #[.int .i64 3, .int .i64 n, .int .i64 ty, .slice (some ⟨b, o, none⟩) 1 ca, .slice B brs.length d] 36))
  have HB1 : Hid (((w.alloc (.cells #[.slice Ad C.decls.length cd, .slice Af C.funs.length cf] 25)).alloc (.cells #[.int .i64 3, .int .i64 n, .int .i64 ty, .slice (some ⟨b, o, none⟩) 1 ca, .slice B brs.length d] 36)).heap[w.heap.size]? = some (.cells #[.slice Ad C.decls.length cd, .slice Af C.funs.length cf] 25 (0, 0))) := Ext.lt (Ext.al _ _) (heapNew w _)
  have HB2 := Lib.hid (heapNew2 w (.cells #[.slice Ad C.decls.length cd, .slice Af C.funs.length cf] 25) (.cells #[.int .i64 3, .int .i64 n, .int .i64 ty, .slice (some ⟨b, o, none⟩) 1 ca, .slice B brs.length d] 36))
  have HX := Lib.hid hx; have HR := Lib.hid hr; have HYC := Lib.hid yc
  clear hA hx hr hs hn ht hq hC htyp hold HBI hfa hsx hbm hbx yc yt hgo HEP
  go_enter Tryz.func15, Tryz.ntmps15
  go_wp2_with fail
  generalize (w.alloc _).alloc _ = w2 at *
  have HR2 := Lib.hid (HR.out.ext HX2.out)
  have HX22 : Hid (Ext wA w2) := HX.out.tr HX2.out
  have m0 := cellAt HB2.out 0
  have m1 := cellAt HB2.out 1
  have m2 := cellAt HB2.out 2
  go_wp2_with (first
    | (go_at_call 40; (with_reducible refine (HBI2.out _ HR2.out).mono ?_); rintro e w3 ⟨⟨qs, rfl, hqs⟩, hr3, ht3⟩; have HQS := Lib.hid hqs; have HR3 := Lib.hid hr3; have HT3 := Lib.hid ht3; clear hqs hr3 ht3)
    | fail "none")
  have HE4 := Lib.hid (Ext.al w3 (.cells #[.bool true, .int .i64 n, .int .i64 old, .bool qs] 92))
  have HN4 := Lib.hid (heapNew w3 (.cells #[.bool true, .int .i64 n, .int .i64 old, .bool qs] 92))
  have HX4 : Hid (Ext wA (w3.alloc (.cells #[.bool true, .int .i64 n, .int .i64 old, .bool qs] 92))) := (HT3.out.below HX22.out hm1 hm2).tr HE4.out
  have HC4 := Lib.hid (HE4.out.lt (HR2.out.cells HT3.out HB1.out))
  have HD4 := Lib.hid (HE4.out.lt (HR2.out.cells HT3.out HB2.out))
  have HR4 := Lib.hid (HR3.out.ext HE4.out)
  have HT4 : Hid (TrC mx ma w2 (w3.alloc (.cells #[.bool true, .int .i64 n, .int .i64 old, .bool qs] 92))) := TrC.tr HT3.out (TrC.ext HE4.out)
  clear m0 m1 m2
  generalize w3.alloc _ = w4 at *
  have HCX : Hid (∀ W, Ext w4 W → W.cell? ⟨w.heap.size, 0, none⟩ = some (.slice Ad C.decls.length cd) ∧ W.cell? ⟨w.heap.size, 1, none⟩ = some (.slice Af C.funs.length cf) ∧ W.cell? ⟨w.heap.size + 1, 3, none⟩ = some (.slice (some ⟨b, o, none⟩) 1 ca) ∧ W.cell? ⟨b, o, none⟩ = some (.int .i64 x.op) ∧ W.cell? ⟨b, o + 1, none⟩ = some (.int .i64 x.n) ∧ W.cell? ⟨b, o + 2, none⟩ = some (.int .i64 x.ty) ∧ W.cell? ⟨b, o + 3, none⟩ = some (.slice Ax x.args.length cx) ∧ W.cell? ⟨b, o + 4, none⟩ = some (.slice Bx x.brs.length dx)) := fun W hW => by
    have h5 := HYC.out.below (HX4.out.tr hW)
    exact ⟨cellAt (hW.lt HC4.out) 0, cellAt (hW.lt HC4.out) 1, cellAt (hW.lt HD4.out) 3, h5.c0, h5.c1, h5.c2, h5.c3, h5.c4⟩
  have HCALL : Hid (∀ W, Ext w4 W → Calls Tryz.prog 29 #[.pointer (some ⟨p, 0, none⟩), cV (.slice Ad C.decls.length cd) (.slice Af C.funs.length cf), nV x (.slice Ax x.args.length cx) (.slice Bx x.brs.length dx)] W fun e w' => e = .returned (.bool q) ∧ (RS w' p mx ma (n0 + 1 + 2 * bndN x) (setV (lastE E) (1, n) ty) ∧ TrC mx ma w4 w') ∧ (w'.cell? ⟨w.heap.size, 0, none⟩ = some (.slice Ad C.decls.length cd) ∧ w'.cell? ⟨w.heap.size, 1, none⟩ = some (.slice Af C.funs.length cf) ∧ w'.cell? ⟨w.heap.size + 1, 3, none⟩ = some (.slice (some ⟨b, o, none⟩) 1 ca) ∧ w'.cell? ⟨b, o, none⟩ = some (.int .i64 x.op) ∧ w'.cell? ⟨b, o + 1, none⟩ = some (.int .i64 x.n) ∧ w'.cell? ⟨b, o + 2, none⟩ = some (.int .i64 x.ty) ∧ w'.cell? ⟨b, o + 3, none⟩ = some (.slice Ax x.args.length cx) ∧ w'.cell? ⟨b, o + 4, none⟩ = some (.slice Bx x.brs.length dx))) := fun W hW => by
    have hrW := HR4.out.ext hW
    refine (HGO.out W (HX4.out.tr hW) hrW).mono ?_
    rintro e w' ⟨rfl, h1, h2⟩
    have hc := HCX.out W hW
    exact ⟨rfl, ⟨h1, TrC.tr (TrC.ext hW) h2⟩, hrW.box' h2 hc.1, hrW.box' h2 hc.2.1, hrW.box' h2 hc.2.2.1, hrW.box' h2 hc.2.2.2.1, hrW.box' h2 hc.2.2.2.2.1, hrW.box' h2 hc.2.2.2.2.2.1, hrW.box' h2 hc.2.2.2.2.2.2.1, hrW.box' h2 hc.2.2.2.2.2.2.2⟩
  obtain ⟨k0, k1, l3, x0, x1, x2, x3, x4⟩ := HCX.out w4 (Ext.rf _)
  have hz0 : (0 : Int) < (1 : Nat) := by decide
  go_region_held3 (fun W => W.cell? ⟨w.heap.size, 0, none⟩ = some (.slice Ad C.decls.length cd) ∧ W.cell? ⟨w.heap.size, 1, none⟩ = some (.slice Af C.funs.length cf) ∧ W.cell? ⟨w.heap.size + 1, 3, none⟩ = some (.slice (some ⟨b, o, none⟩) 1 ca) ∧ W.cell? ⟨b, o, none⟩ = some (.int .i64 x.op) ∧ W.cell? ⟨b, o + 1, none⟩ = some (.int .i64 x.n) ∧ W.cell? ⟨b, o + 2, none⟩ = some (.int .i64 x.ty) ∧ W.cell? ⟨b, o + 3, none⟩ = some (.slice Ax x.args.length cx) ∧ W.cell? ⟨b, o + 4, none⟩ = some (.slice Bx x.brs.length dx))
    (first | exact HCX.out _ (Ext.rf _).drew | exact HC8.out | exact HCX.out _ (Ext.rf _) | fail "KEEP")
    (first
      | (go_at_call 29; (with_reducible refine (HCALL.out _ (by first | exact (Ext.rf _).drew | exact Ext.rf _ | fail "CALL")).mono ?_); rintro e w8 ⟨rfl, ⟨hs8, ht8⟩, hc8⟩; have HS8 := Lib.hid hs8; have HT8 := Lib.hid ht8; have HC8 := Lib.hid hc8; clear hs8 ht8 hc8)
      | fail "ARM")
  all_goals
    have hn8 := HR4.out.cells HT8.out HN4.out
    have s0 := cellAt hn8 0
    have s1 := cellAt hn8 1
    have s2 := cellAt hn8 2
    have s3 := cellAt hn8 3
    have HD8 := Lib.hid (HR4.out.cells HT8.out HD4.out)
    clear hn8
    go_wp2_with (first
      | (go_at_call 41; (with_reducible refine (HRE.out _ _ HQS.out HS8.out).mono ?_); rintro e w9 ⟨rfl, hr9, ht9⟩; have HR9 := Lib.hid hr9; have HT9 := Lib.hid ht9; have hd9 := HS8.out.cells ht9 HD8.out; have m2 := cellAt hd9 2; clear hr9 ht9 hd9)
      | fail "none")
    refine bodyPost_ret (results_tmp2 rfl _ _ _) rfl ?_
    exact ⟨by rw [HU.out]; rfl, HR9.out, TrC.tr (TrC.ext HX2.out) (TrC.tr HT4.out (TrC.tr HT8.out HT9.out))⟩
set_option maxHeartbeats 8000000 in
set_option maxRecDepth 100000 in
theorem ty7_7 (k : Nat) (n ty : Int) (args : List Nd) (brs : List Br) (va vb : Value) (hC : RCg wA vd vf C) (ht : RNd wA (k + 1) (.mk 7 n ty args brs) va vb)
    (hA : ∀ (i : Nat) x, args[i]? = some x → ∀ xa xb, RNd wA k x xa xb → GoS C vd vf wA p mx ma x xa xb) (hm1 : wA.heap.size ≤ mx) (hm2 : wA.heap.size ≤ ma) : TyO C vd vf wA p mx ma 7 n ty args brs va vb := by
  intro w n0 E S hx hr hs hn
  have hk : ok64 n := ht.form.1.2.1
  obtain ⟨x, rfl⟩ := list1 (args_len hs)
  have hfa := fa_is hs rfl
  have hsx : sortN C (addS S (muV 7 n)) x = 2 := by
    have : [sortN C (addS S (muV 7 n)) x] = [2] := hfa
    exact (List.cons.inj this).1
  have hbm := bnd_mk 7 n ty [x] brs
  have hbx : bndA [x] = bndN x := rfl
  have htyp : (typN C E (.mk 7 n ty [x] brs)).isSome = (typN C (pushE E [(0, n)] [ty]) x).isSome := by
    rw [no_brs_typ hs rfl, if_some]
    show (decide (typN C (pushE E (muV 7 n) [ty]) x = some 0) && true) = _
    rw [Bool.and_true, cmd_typ hsx]; rfl
  rw [htyp]
  obtain ⟨q, hq⟩ : ∃ q, (typN C (pushE E [(0, n)] [ty]) x).isSome = q := ⟨_, rfl⟩
  have HU : Hid (uR E 7 n ty q = ty) := rfl
  obtain ⟨Ad, cd, rfl, -, -⟩ := hC.d.form
  obtain ⟨Af, cf, rfl, -, -⟩ := hC.f.form
  obtain ⟨A, ca, rfl, -, -⟩ : ∃ A ca, va = .slice A 1 ca ∧ _ := ht.form.2.1
  obtain ⟨B, d, rfl, -, -⟩ : ∃ B d, vb = .slice B brs.length d ∧ _ := ht.form.2.2
  obtain ⟨b, o, xa, xb, rfl, hbl, yc, yt⟩ : ∃ b o xa xb, A = some ⟨b, o, none⟩ ∧ b < wA.heap.size ∧ N5 wA b (o + 0 * 5) x xa xb ∧ RNd wA k x xa xb := RNd.arg (t := .mk 7 n ty [x] brs) ht (i := 0) (show (0 : Nat) < 1 by decide)
  have yc := yc.at0
  have hgo := hA 0 x rfl xa xb yt
  obtain ⟨_, ⟨Ax, cx, rfl, -, -⟩, ⟨Bx, dx, rfl, -, -⟩⟩ := yt.form
  have HEP : Hid (lastE (pushE E [(0, n)] [ty]) = setV (lastE E) (0, n) ty) := by show _ = _; rw [pushE_cons, pushE_nil, lastE_push]
  have HGO : Hid (∀ W, Ext wA W → RS W p mx ma (n0 + 1) (setV (lastE E) (0, n) ty) → Calls Tryz.prog 29 #[.pointer (some ⟨p, 0, none⟩), cV (.slice Ad C.decls.length cd) (.slice Af C.funs.length cf), nV x (.slice Ax x.args.length cx) (.slice Bx x.brs.length dx)] W fun e w' => e = .returned (.bool q) ∧ RS w' p mx ma (n0 + 1 + 2 * bndN x) (setV (lastE E) (0, n) ty) ∧ TrC mx ma W w') := fun W hW h => by
    rw [← hq, ← HEP.out] at *
    exact hgo W (n0 + 1) _ _ hW h (by rw [hsx]; decide) (by omega)
  have HBI : Hid (∀ W, RS W p mx ma n0 (lastE E) → Calls Tryz.prog 40 #[.pointer (some ⟨p, 0, none⟩), .bool false, .int .i64 n, .int .i64 ty] W fun e w' => (∃ q : Bool, e = .returned (savV (coI false, n) false (lastE E (coI false, n)) q) ∧ (q = false → lastE E (coI false, n) = 0)) ∧ RS w' p mx ma (n0 + 1) (setV (lastE E) (coI false, n) ty) ∧ TrC mx ma W w') := fun W h => bind7_any W p mx ma n0 (lastE E) false n ty h hk (by unfold maxLen; omega)
  obtain ⟨old, hold⟩ : ∃ old, lastE E (coI false, n) = old := ⟨_, rfl⟩
  have HRE : Hid (∀ W qs, (qs = false → old = 0) → RS W p mx ma (n0 + 1 + 2 * bndN x) (setV (lastE E) (0, n) ty) → Calls Tryz.prog 41 #[.pointer (some ⟨p, 0, none⟩), .agg #[.bool false, .int .i64 n, .int .i64 old, .bool qs]] W fun e w' => e = .returned (.tuple #[]) ∧ RS w' p mx ma (n0 + 2 * bndN (.mk 7 n ty [x] brs)) (lastE E) ∧ TrC mx ma W w') := fun W qs hqs h => by
    refine (restore7_any W p mx ma _ _ false n old qs h hk (by unfold maxLen; omega) hqs).mono ?_
    rintro e w' ⟨rfl, h1, h2⟩
    have e1 : setV (setV (lastE E) (0, n) ty) (coI false, n) old = lastE E := by rw [← hold]; exact setV_back _ _ _
    rw [e1] at h1
    exact ⟨rfl, h1.mono (by omega), h2⟩
  have HBI2 : Hid (∀ W, RS W p mx ma n0 (lastE E) → Calls Tryz.prog 40 #[.pointer (some ⟨p, 0, none⟩), .bool false, .int .i64 n, .int .i64 ty] W fun e w' => (∃ q : Bool, e = .returned (.agg #[.bool false, .int .i64 n, .int .i64 old, .bool q]) ∧ (q = false → old = 0)) ∧ RS w' p mx ma (n0 + 1) (setV (lastE E) (0, n) ty) ∧ TrC mx ma W w') := fun W h => by rw [← hold]; exact HBI.out W h
  rw [hq]
  generalize uR E 7 n ty q = u9 at *
  generalize n0 + 2 * bndN (.mk 7 n ty [x] brs) = M at *
  have HX2 := Lib.hid (Ext.al2 w (.cells #[.slice Ad C.decls.length cd, .slice Af C.funs.length cf] 25) (.cells #[.int .i64 7, .int .i64 n, .int .i64 ty, .slice (some ⟨b, o, none⟩) 1 ca, .slice B brs.length d] 36))
  have HB1 : Hid (((w.alloc (.cells #[.slice Ad C.decls.length cd, .slice Af C.funs.length cf] 25)).alloc (.cells #[.int .i64 7, .int .i64 n, .int .i64 ty, .slice (some ⟨b, o, none⟩) 1 ca, .slice B brs.length d] 36)).heap[w.heap.size]? = some (.cells #[.slice Ad C.decls.length cd, .slice Af C.funs.length cf] 25 (0, 0))) := Ext.lt (Ext.al _ _) (heapNew w _)
  have HB2 := Lib.hid (heapNew2 w (.cells #[.slice Ad C.decls.length cd, .slice Af C.funs.length cf] 25) (.cells #[.int .i64 7, .int .i64 n, .int .i64 ty, .slice (some ⟨b, o, none⟩) 1 ca, .slice B brs.length d] 36))
  have HX := Lib.hid hx; have HR := Lib.hid hr; have HYC := Lib.hid yc
  clear hA hx hr hs hn ht hq hC htyp hold HBI hfa hsx hbm hbx yc yt hgo HEP
  go_enter Tryz.func15, Tryz.ntmps15
  go_wp2_with fail
  generalize (w.alloc _).alloc _ = w2 at *
  have HR2 := Lib.hid (HR.out.ext HX2.out)
  have HX22 : Hid (Ext wA w2) := HX.out.tr HX2.out
  have m0 := cellAt HB2.out 0
  have m1 := cellAt HB2.out 1
  have m2 := cellAt HB2.out 2
  go_wp2_with (first
    | (go_at_call 40; (with_reducible refine (HBI2.out _ HR2.out).mono ?_); rintro e w3 ⟨⟨qs, rfl, hqs⟩, hr3, ht3⟩; have HQS := Lib.hid hqs; have HR3 := Lib.hid hr3; have HT3 := Lib.hid ht3; clear hqs hr3 ht3)
    | fail "none")
  have HE4 := Lib.hid (Ext.al w3 (.cells #[.bool false, .int .i64 n, .int .i64 old, .bool qs] 92))
  have HN4 := Lib.hid (heapNew w3 (.cells #[.bool false, .int .i64 n, .int .i64 old, .bool qs] 92))
  have HX4 : Hid (Ext wA (w3.alloc (.cells #[.bool false, .int .i64 n, .int .i64 old, .bool qs] 92))) := (HT3.out.below HX22.out hm1 hm2).tr HE4.out
  have HC4 := Lib.hid (HE4.out.lt (HR2.out.cells HT3.out HB1.out))
  have HD4 := Lib.hid (HE4.out.lt (HR2.out.cells HT3.out HB2.out))
  have HR4 := Lib.hid (HR3.out.ext HE4.out)
  have HT4 : Hid (TrC mx ma w2 (w3.alloc (.cells #[.bool false, .int .i64 n, .int .i64 old, .bool qs] 92))) := TrC.tr HT3.out (TrC.ext HE4.out)
  clear m0 m1 m2
  generalize w3.alloc _ = w4 at *
  have HCX : Hid (∀ W, Ext w4 W → W.cell? ⟨w.heap.size, 0, none⟩ = some (.slice Ad C.decls.length cd) ∧ W.cell? ⟨w.heap.size, 1, none⟩ = some (.slice Af C.funs.length cf) ∧ W.cell? ⟨w.heap.size + 1, 3, none⟩ = some (.slice (some ⟨b, o, none⟩) 1 ca) ∧ W.cell? ⟨b, o, none⟩ = some (.int .i64 x.op) ∧ W.cell? ⟨b, o + 1, none⟩ = some (.int .i64 x.n) ∧ W.cell? ⟨b, o + 2, none⟩ = some (.int .i64 x.ty) ∧ W.cell? ⟨b, o + 3, none⟩ = some (.slice Ax x.args.length cx) ∧ W.cell? ⟨b, o + 4, none⟩ = some (.slice Bx x.brs.length dx)) := fun W hW => by
    have h5 := HYC.out.below (HX4.out.tr hW)
    exact ⟨cellAt (hW.lt HC4.out) 0, cellAt (hW.lt HC4.out) 1, cellAt (hW.lt HD4.out) 3, h5.c0, h5.c1, h5.c2, h5.c3, h5.c4⟩
  have HCALL : Hid (∀ W, Ext w4 W → Calls Tryz.prog 29 #[.pointer (some ⟨p, 0, none⟩), cV (.slice Ad C.decls.length cd) (.slice Af C.funs.length cf), nV x (.slice Ax x.args.length cx) (.slice Bx x.brs.length dx)] W fun e w' => e = .returned (.bool q) ∧ (RS w' p mx ma (n0 + 1 + 2 * bndN x) (setV (lastE E) (0, n) ty) ∧ TrC mx ma w4 w') ∧ (w'.cell? ⟨w.heap.size, 0, none⟩ = some (.slice Ad C.decls.length cd) ∧ w'.cell? ⟨w.heap.size, 1, none⟩ = some (.slice Af C.funs.length cf) ∧ w'.cell? ⟨w.heap.size + 1, 3, none⟩ = some (.slice (some ⟨b, o, none⟩) 1 ca) ∧ w'.cell? ⟨b, o, none⟩ = some (.int .i64 x.op) ∧ w'.cell? ⟨b, o + 1, none⟩ = some (.int .i64 x.n) ∧ w'.cell? ⟨b, o + 2, none⟩ = some (.int .i64 x.ty) ∧ w'.cell? ⟨b, o + 3, none⟩ = some (.slice Ax x.args.length cx) ∧ w'.cell? ⟨b, o + 4, none⟩ = some (.slice Bx x.brs.length dx))) := fun W hW => by
    have hrW := HR4.out.ext hW
    refine (HGO.out W (HX4.out.tr hW) hrW).mono ?_
    rintro e w' ⟨rfl, h1, h2⟩
    have hc := HCX.out W hW
    exact ⟨rfl, ⟨h1, TrC.tr (TrC.ext hW) h2⟩, hrW.box' h2 hc.1, hrW.box' h2 hc.2.1, hrW.box' h2 hc.2.2.1, hrW.box' h2 hc.2.2.2.1, hrW.box' h2 hc.2.2.2.2.1, hrW.box' h2 hc.2.2.2.2.2.1, hrW.box' h2 hc.2.2.2.2.2.2.1, hrW.box' h2 hc.2.2.2.2.2.2.2⟩
  obtain ⟨k0, k1, l3, x0, x1, x2, x3, x4⟩ := HCX.out w4 (Ext.rf _)
  have hz0 : (0 : Int) < (1 : Nat) := by decide
  go_region_held3 (fun W => W.cell? ⟨w.heap.size, 0, none⟩ = some (.slice Ad C.decls.length cd) ∧ W.cell? ⟨w.heap.size, 1, none⟩ = some (.slice Af C.funs.length cf) ∧ W.cell? ⟨w.heap.size + 1, 3, none⟩ = some (.slice (some ⟨b, o, none⟩) 1 ca) ∧ W.cell? ⟨b, o, none⟩ = some (.int .i64 x.op) ∧ W.cell? ⟨b, o + 1, none⟩ = some (.int .i64 x.n) ∧ W.cell? ⟨b, o + 2, none⟩ = some (.int .i64 x.ty) ∧ W.cell? ⟨b, o + 3, none⟩ = some (.slice Ax x.args.length cx) ∧ W.cell? ⟨b, o + 4, none⟩ = some (.slice Bx x.brs.length dx))
    (first | exact HCX.out _ (Ext.rf _).drew | exact HC8.out | exact HCX.out _ (Ext.rf _) | fail "KEEP")
    (first
      | (go_at_call 29; (with_reducible refine (HCALL.out _ (by first | exact (Ext.rf _).drew | exact Ext.rf _ | fail "CALL")).mono ?_); rintro e w8 ⟨rfl, ⟨hs8, ht8⟩, hc8⟩; have HS8 := Lib.hid hs8; have HT8 := Lib.hid ht8; have HC8 := Lib.hid hc8; clear hs8 ht8 hc8)
      | fail "ARM")
  all_goals
    have hn8 := HR4.out.cells HT8.out HN4.out
    have s0 := cellAt hn8 0
    have s1 := cellAt hn8 1
    have s2 := cellAt hn8 2
    have s3 := cellAt hn8 3
    have HD8 := Lib.hid (HR4.out.cells HT8.out HD4.out)
    clear hn8
    go_wp2_with (first
      | (go_at_call 41; (with_reducible refine (HRE.out _ _ HQS.out HS8.out).mono ?_); rintro e w9 ⟨rfl, hr9, ht9⟩; have HR9 := Lib.hid hr9; have HT9 := Lib.hid ht9; have hd9 := HS8.out.cells ht9 HD8.out; have m2 := cellAt hd9 2; clear hr9 ht9 hd9)
      | fail "none")
    refine bodyPost_ret (results_tmp2 rfl _ _ _) rfl ?_
    exact ⟨by rw [HU.out]; rfl, HR9.out, TrC.tr (TrC.ext HX2.out) (TrC.tr HT4.out (TrC.tr HT8.out HT9.out))⟩
end
end Go.Proofs.YtkdhhcidpklgoaaGreatDoor

/- ref07: Type at a command, operator 9. -/
namespace Go.Proofs.YtkdhhcidpklgoaaGreatDoor
open Go.RowKit Go.Shelf Go.Maps
attribute [local go_sem] Oper.semAt_some

section
variable {C : Cg} {vd vf : Value} {wA : World} {p mx ma : Nat}
set_option maxHeartbeats 16000000 in
set_option maxRecDepth 100000 in
theorem ty7_9 (k : Nat) (n ty : Int) (args : List Nd) (brs : List Br) (va vb : Value) (hC : RCg wA vd vf C) (ht : RNd wA (k + 1) (.mk 9 n ty args brs) va vb)
    (hA : ∀ (i : Nat) x, args[i]? = some x → ∀ xa xb, RNd wA k x xa xb → HaS C vd vf wA p mx ma x xa xb ∧ GoS C vd vf wA p mx ma x xa xb) (hm1 : wA.heap.size ≤ mx) (hm2 : wA.heap.size ≤ ma) : TyO C vd vf wA p mx ma 9 n ty args brs va vb := by
  intro w n0 E S hx hr hs hn
  obtain ⟨x, y, rfl⟩ := list2 (args_len hs)
  have hfa := fa_is hs rfl
  have hmv : addS S (muV 9 n) = S := rfl
  rw [hmv] at hfa
  have hfa : [sortN C S x, sortN C S y] = [(0 : Int), (1 : Int)] := hfa
  have hsx : sortN C S x = 0 := (List.cons.inj hfa).1
  have hf0 := (List.cons.inj hfa).2
  have hsy : sortN C S y = 1 := (List.cons.inj hf0).1
  have hbm := bnd_mk 9 n ty [x, y] brs
  have hbx : bndA [x, y] = bndN x + bndN y := by simp [bndA] <;> omega
  obtain ⟨rx, hrx⟩ : ∃ r, decide (typN C E x = some ty) = r := ⟨_, rfl⟩
  obtain ⟨ry, hry⟩ : ∃ r, decide (typN C E y = some ty) = r := ⟨_, rfl⟩
  have htyp : (typN C E (.mk 9 n ty [x, y] brs)).isSome = (rx && (ry)) := by
    rw [no_brs_typ hs rfl, if_some]
    show (decide (typN C E x = some ty) && (decide (typN C E y = some ty) && true)) = _
    rw [hrx, hry, Bool.and_true]
  rw [htyp]
  obtain ⟨Ad, cd, rfl, -, -⟩ := hC.d.form
  obtain ⟨Af, cf, rfl, -, -⟩ := hC.f.form
  obtain ⟨A, ca, rfl, -, -⟩ : ∃ A ca, va = .slice A 2 ca ∧ _ := ht.form.2.1
  obtain ⟨B, d, rfl, -, -⟩ : ∃ B d, vb = .slice B brs.length d ∧ _ := ht.form.2.2
  obtain ⟨b, o, xax, xbx, rfl, -, ycx, ytx⟩ : ∃ bq oq xa xb, A = some ⟨bq, oq, none⟩ ∧ bq < wA.heap.size ∧ N5 wA bq (oq + 0 * 5) x xa xb ∧ RNd wA k x xa xb := RNd.arg (t := .mk 9 n ty [x, y] brs) ht (i := 0) (show (0 : Nat) < 2 by decide)
  have hhx := hA 0 x rfl xax xbx ytx
  obtain ⟨_, ⟨Ax, cx, rfl, -, -⟩, ⟨Bx, dx, rfl, -, -⟩⟩ := ytx.form
  have HYx := Lib.hid ycx
  obtain ⟨b', o', xay, xby, hbo, -, ycy, yty⟩ : ∃ bq oq xa xb, (some ⟨b, o, none⟩ : Option Addr) = some ⟨bq, oq, none⟩ ∧ bq < wA.heap.size ∧ N5 wA bq (oq + 1 * 5) y xa xb ∧ RNd wA k y xa xb := RNd.arg (t := .mk 9 n ty [x, y] brs) ht (i := 1) (show (1 : Nat) < 2 by decide)
  cases hbo
  have hhy := hA 1 y rfl xay xby yty
  obtain ⟨_, ⟨Ay, cy, rfl, -, -⟩, ⟨By, dy, rfl, -, -⟩⟩ := yty.form
  have HYy := Lib.hid ycy
  have HH00 : Hid (∀ W, Ext wA W → RS W p mx ma (n0) (lastE E) → Calls Tryz.prog 43 #[.pointer (some ⟨p, 0, none⟩), cV (.slice Ad C.decls.length cd) (.slice Af C.funs.length cf), nV x (.slice Ax x.args.length cx) (.slice Bx x.brs.length dx), .int .i64 ty] W fun e w' => e = .returned (.bool rx) ∧ RS w' p mx ma (n0 + 2 * bndN x) (lastE E) ∧ TrC mx ma W w') := fun W hW h => by rw [← hrx]; exact hhx.1 W _ E S ty hW h (by rw [hsx]; decide) (by omega)
  have HH10 : Hid (∀ W, Ext wA W → RS W p mx ma (n0 + 2 * bndN x) (lastE E) → Calls Tryz.prog 43 #[.pointer (some ⟨p, 0, none⟩), cV (.slice Ad C.decls.length cd) (.slice Af C.funs.length cf), nV y (.slice Ay y.args.length cy) (.slice By y.brs.length dy), .int .i64 ty] W fun e w' => e = .returned (.bool ry) ∧ RS w' p mx ma (n0 + 2 * bndN x + 2 * bndN y) (lastE E) ∧ TrC mx ma W w') := fun W hW h => by rw [← hry]; exact hhy.1 W _ E S ty hW h (by rw [hsy]; decide) (by omega)
  have HM : Hid (n0 + 2 * bndN x + 2 * bndN y ≤ n0 + 2 * bndN (.mk 9 n ty [x, y] brs)) := by show _ ≤ _; omega
  have HM0 : Hid (n0 + 2 * bndN x ≤ n0 + 2 * bndN (.mk 9 n ty [x, y] brs)) := by show _ ≤ _; omega
  have HM1 : Hid (n0 + 2 * bndN x + 2 * bndN y ≤ n0 + 2 * bndN (.mk 9 n ty [x, y] brs)) := by show _ ≤ _; omega
  have HU : Hid (∀ q, uR E 9 n ty q = 0) := fun q => rfl
  obtain ⟨u9, hu9⟩ : ∃ u, uR E 9 n ty (rx && (ry)) = u := ⟨_, rfl⟩
  have HU9 : Hid (u9 = 0) := by show _ = _; rw [← hu9]; rfl
  rw [hu9]
  generalize n0 + 2 * bndN (.mk 9 n ty [x, y] brs) = M at *
  have HX2 := Lib.hid (Ext.al2 w (.cells #[.slice Ad C.decls.length cd, .slice Af C.funs.length cf] 25) (.cells #[.int .i64 9, .int .i64 n, .int .i64 ty, .slice (some ⟨b, o, none⟩) 2 ca, .slice B brs.length d] 36))
  have HB1 : Hid (((w.alloc (.cells #[.slice Ad C.decls.length cd, .slice Af C.funs.length cf] 25)).alloc (.cells #[.int .i64 9, .int .i64 n, .int .i64 ty, .slice (some ⟨b, o, none⟩) 2 ca, .slice B brs.length d] 36)).heap[w.heap.size]? = some (.cells #[.slice Ad C.decls.length cd, .slice Af C.funs.length cf] 25 (0, 0))) := Ext.lt (Ext.al _ _) (heapNew w _)
  have HB2 := Lib.hid (heapNew2 w (.cells #[.slice Ad C.decls.length cd, .slice Af C.funs.length cf] 25) (.cells #[.int .i64 9, .int .i64 n, .int .i64 ty, .slice (some ⟨b, o, none⟩) 2 ca, .slice B brs.length d] 36))
  have HX := Lib.hid hx; have HR := Lib.hid hr
  clear hA hx hr hs hn ht hC htyp hfa hmv hbm hbx hu9 HU hsx ycx ytx hhx hrx hsy ycy yty hhy hry
  go_enter Tryz.func15, Tryz.ntmps15
  go_wp2_with fail
  generalize (w.alloc _).alloc _ = w2 at *
  have HR2 := Lib.hid (HR.out.ext HX2.out)
  have HX22 : Hid (Ext wA w2) := HX.out.tr HX2.out
  have HCE : Hid (∀ W, TrC mx ma w2 W → W.cell? ⟨w.heap.size, 0, none⟩ = some (.slice Ad C.decls.length cd) ∧ W.cell? ⟨w.heap.size, 1, none⟩ = some (.slice Af C.funs.length cf) ∧ W.cell? ⟨w.heap.size + 1, 2, none⟩ = some (.int .i64 ty) ∧ W.cell? ⟨w.heap.size + 1, 3, none⟩ = some (.slice (some ⟨b, o, none⟩) 2 ca) ∧ W.cell? ⟨b, o, none⟩ = some (.int .i64 x.op) ∧ W.cell? ⟨b, o + 1, none⟩ = some (.int .i64 x.n) ∧ W.cell? ⟨b, o + 2, none⟩ = some (.int .i64 x.ty) ∧ W.cell? ⟨b, o + 3, none⟩ = some (.slice Ax x.args.length cx) ∧ W.cell? ⟨b, o + 4, none⟩ = some (.slice Bx x.brs.length dx) ∧ W.cell? ⟨b, o + 5, none⟩ = some (.int .i64 y.op) ∧ W.cell? ⟨b, o + 6, none⟩ = some (.int .i64 y.n) ∧ W.cell? ⟨b, o + 7, none⟩ = some (.int .i64 y.ty) ∧ W.cell? ⟨b, o + 8, none⟩ = some (.slice Ay y.args.length cy) ∧ W.cell? ⟨b, o + 9, none⟩ = some (.slice By y.brs.length dy)) := fun W h => by
    have h0 := HR2.out.cells h HB1.out
    have h1 := HR2.out.cells h HB2.out
    have hxx := h.below HX22.out hm1 hm2
    have gx := HYx.out.below hxx
    have gx := gx.at0
    have gy := HYy.out.below hxx
    exact ⟨cellAt h0 0, cellAt h0 1, cellAt h1 2, cellAt h1 3, gx.c0, gx.c1, gx.c2, gx.c3, gx.c4, gy.c0, gy.c1, gy.c2, gy.c3, gy.c4⟩
  have HH0 : Hid (∀ W, TrC mx ma w2 W → RS W p mx ma (n0) (lastE E) → Calls Tryz.prog 43 #[.pointer (some ⟨p, 0, none⟩), cV (.slice Ad C.decls.length cd) (.slice Af C.funs.length cf), nV x (.slice Ax x.args.length cx) (.slice Bx x.brs.length dx), .int .i64 ty] W fun e w' => e = .returned (.bool rx) ∧ RS w' p mx ma (n0 + 2 * bndN x) (lastE E) ∧ TrC mx ma w2 w') := fun W hW h => by
    refine (HH00.out W (hW.below HX22.out hm1 hm2) h).mono ?_
    rintro e w' ⟨rfl, h1, h2⟩
    exact ⟨rfl, h1, TrC.tr hW h2⟩
  have HH1 : Hid (∀ W, TrC mx ma w2 W → RS W p mx ma (n0 + 2 * bndN x) (lastE E) → Calls Tryz.prog 43 #[.pointer (some ⟨p, 0, none⟩), cV (.slice Ad C.decls.length cd) (.slice Af C.funs.length cf), nV y (.slice Ay y.args.length cy) (.slice By y.brs.length dy), .int .i64 ty] W fun e w' => e = .returned (.bool ry) ∧ RS w' p mx ma (n0 + 2 * bndN x + 2 * bndN y) (lastE E) ∧ TrC mx ma w2 w') := fun W hW h => by
    refine (HH10.out W (hW.below HX22.out hm1 hm2) h).mono ?_
    rintro e w' ⟨rfl, h1, h2⟩
    exact ⟨rfl, h1, TrC.tr hW h2⟩
  clear HH00 HH10
  obtain ⟨k0, k1, k2, k3, k4, k5, k6, k7, k8, k9, k10, k11, k12, k13⟩ := HCE.out w2 (Only.rf _ _)
  go_wp2_with fail
  cases rx
  · refine wp_region_held_drew (S := fun W => W.cell? ⟨w.heap.size, 0, none⟩ = some (.slice Ad C.decls.length cd) ∧ W.cell? ⟨w.heap.size, 1, none⟩ = some (.slice Af C.funs.length cf) ∧ W.cell? ⟨w.heap.size + 1, 2, none⟩ = some (.int .i64 ty) ∧ W.cell? ⟨w.heap.size + 1, 3, none⟩ = some (.slice (some ⟨b, o, none⟩) 2 ca) ∧ W.cell? ⟨b, o, none⟩ = some (.int .i64 x.op) ∧ W.cell? ⟨b, o + 1, none⟩ = some (.int .i64 x.n) ∧ W.cell? ⟨b, o + 2, none⟩ = some (.int .i64 x.ty) ∧ W.cell? ⟨b, o + 3, none⟩ = some (.slice Ax x.args.length cx) ∧ W.cell? ⟨b, o + 4, none⟩ = some (.slice Bx x.brs.length dx) ∧ W.cell? ⟨b, o + 5, none⟩ = some (.int .i64 y.op) ∧ W.cell? ⟨b, o + 6, none⟩ = some (.int .i64 y.n) ∧ W.cell? ⟨b, o + 7, none⟩ = some (.int .i64 y.ty) ∧ W.cell? ⟨b, o + 8, none⟩ = some (.slice Ay y.args.length cy) ∧ W.cell? ⟨b, o + 9, none⟩ = some (.slice By y.brs.length dy)) (by kernel_rfl) (by (try dsimp only); (first | exact HCE.out _ HT1.out | exact HCE.out _ HT0.out | exact HCE.out _ (TrC.ext (Ext.rf _).drew) | exact HCE.out _ (TrC.ext (Ext.rf _)) | fail "KEEP")) (fun hHeld => ?_)
    refine wpAnyH_take (i := 0) (v := ?_) rfl (by kernel_rfl) (by kernel_rfl) (by kernel_rfl) (fun _ _ _ h => h) (Or.inl ⟨by rfl, ?_⟩) (by assumption) ?_
    rotate_left
    · (intro w' hSw; (try dsimp only at hSw); go_simp; try with_reducible rfl)
    simp only [Act.put, List.getElem_toArray, List.getElem_cons_succ, List.getElem_cons_zero, List.setIfInBounds_toArray, List.set_cons_zero, List.set_cons_succ]
    refine wpAnyH_take (i := 1) (v := ?_) rfl (by kernel_rfl) (by kernel_rfl) (by kernel_rfl) (fun _ _ _ h => h) (Or.inl ⟨by rfl, ?_⟩) (by assumption) ?_
    rotate_left
    · (intro w' hSw; (try dsimp only at hSw); go_simp; try with_reducible rfl)
    simp only [Act.put, List.getElem_toArray, List.getElem_cons_succ, List.getElem_cons_zero, List.setIfInBounds_toArray, List.set_cons_zero, List.set_cons_succ]
    refine wpAnyH_take (i := 2) (v := ?_) rfl (by kernel_rfl) (by kernel_rfl) (by kernel_rfl) (fun _ _ _ h => h) (Or.inl ⟨by rfl, ?_⟩) (by assumption) ?_
    rotate_left
    · (intro w' hSw; (try dsimp only at hSw); go_simp; try with_reducible rfl)
    simp only [Act.put, List.getElem_toArray, List.getElem_cons_succ, List.getElem_cons_zero, List.setIfInBounds_toArray, List.set_cons_zero, List.set_cons_succ]
    refine wpAnyH_take (i := 3) (v := ?_) rfl (by kernel_rfl) (by kernel_rfl) (by kernel_rfl) (fun _ _ _ h => h) (Or.inl ⟨by rfl, ?_⟩) (by assumption) ?_
    rotate_left
    · (intro w' hSw; (try dsimp only at hSw); go_simp; try with_reducible rfl)
    simp only [Act.put, List.getElem_toArray, List.getElem_cons_succ, List.getElem_cons_zero, List.setIfInBounds_toArray, List.set_cons_zero, List.set_cons_succ]
    refine wpAnyH_take (i := 4) (v := ?_) rfl (by kernel_rfl) (by kernel_rfl) (by kernel_rfl) (fun _ _ _ h => h) (Or.inl ⟨by rfl, ?_⟩) (by assumption) ?_
    rotate_left
    · (intro w' hSw; (try dsimp only at hSw); go_simp; try with_reducible rfl)
    simp only [Act.put, List.getElem_toArray, List.getElem_cons_succ, List.getElem_cons_zero, List.setIfInBounds_toArray, List.set_cons_zero, List.set_cons_succ]
    refine wpAnyH_take (i := 5) (v := ?_) rfl (by kernel_rfl) (by kernel_rfl) (by kernel_rfl) (fun _ _ _ h => h) (Or.inl ⟨by rfl, ?_⟩) (by assumption) ?_
    rotate_left
    · (intro w' hSw; (try dsimp only at hSw); go_simp; try with_reducible rfl)
    simp only [Act.put, List.getElem_toArray, List.getElem_cons_succ, List.getElem_cons_zero, List.setIfInBounds_toArray, List.set_cons_zero, List.set_cons_succ]
    refine wpAnyH_take (i := 6) (v := ?_) rfl (by kernel_rfl) (by kernel_rfl) (by kernel_rfl) (fun _ _ _ h => h) (Or.inl ⟨by rfl, ?_⟩) (by assumption) ?_
    rotate_left
    · (intro w' hSw; (try dsimp only at hSw); go_simp; try with_reducible rfl)
    simp only [Act.put, List.getElem_toArray, List.getElem_cons_succ, List.getElem_cons_zero, List.setIfInBounds_toArray, List.set_cons_zero, List.set_cons_succ]
    refine wpAnyH_take (i := 7) (v := ?_) rfl (by kernel_rfl) (by kernel_rfl) (by kernel_rfl) (fun _ _ _ h => h) (Or.inl ⟨by rfl, ?_⟩) (by assumption) ?_
    rotate_left
    · (intro w' hSw; (try dsimp only at hSw); go_simp; try with_reducible rfl)
    simp only [Act.put, List.getElem_toArray, List.getElem_cons_succ, List.getElem_cons_zero, List.setIfInBounds_toArray, List.set_cons_zero, List.set_cons_succ]
    refine wpAnyH_ready (rs := [8]) (by kernel_rfl) (by simp) ?_
    refine AllReadyH.cons rfl (fun K hK => ?_) AllReadyH.nil
    go_simp
    (go_at_call 43; (with_reducible refine (HH0.out _ (TrC.ext (by first | exact (Ext.rf _).drew | exact Ext.rf _)) (HR2.out.ext (by first | exact (Ext.rf _).drew | exact Ext.rf _))).mono ?_); rintro e v0 ⟨rfl, hr0, ht0⟩; have HR0' := Lib.hid hr0; have HT0 := Lib.hid ht0; clear hr0 ht0)
    (try go_wp2_with fail)
    refine hK.out _ _ ?_ (fun hHeld => ?_)
    · (try dsimp only); exact HCE.out _ HT0.out
    clear hK K
    (try simp only [Act.put, List.getElem_toArray, List.getElem_cons_succ, List.getElem_cons_zero, List.setIfInBounds_toArray, List.set_cons_zero, List.set_cons_succ])
    refine wpAnyH_take (i := 9) (v := ?_) rfl (by kernel_rfl) (by kernel_rfl) (by kernel_rfl) (fun _ _ _ h => h) (Or.inl ⟨by rfl, ?_⟩) (by assumption) ?_
    rotate_left
    · (intro w' hSw; (try dsimp only at hSw); go_simp; try with_reducible rfl)
    simp only [Act.put, List.getElem_toArray, List.getElem_cons_succ, List.getElem_cons_zero, List.setIfInBounds_toArray, List.set_cons_zero, List.set_cons_succ]
    refine wpAnyH_take (i := 10) (v := undef) rfl (by kernel_rfl) (by kernel_rfl) (by kernel_rfl) (fun _ _ _ h => h) (Or.inr ⟨by rfl, rfl⟩) (by assumption) ?_
    simp only [Act.put, List.getElem_toArray, List.getElem_cons_succ, List.getElem_cons_zero, List.setIfInBounds_toArray, List.set_cons_zero, List.set_cons_succ]
    refine wpAnyH_take (i := 11) (v := undef) rfl (by kernel_rfl) (by kernel_rfl) (by kernel_rfl) (fun _ _ _ h => h) (Or.inr ⟨by rfl, rfl⟩) (by assumption) ?_
    simp only [Act.put, List.getElem_toArray, List.getElem_cons_succ, List.getElem_cons_zero, List.setIfInBounds_toArray, List.set_cons_zero, List.set_cons_succ]
    refine wpAnyH_take (i := 12) (v := undef) rfl (by kernel_rfl) (by kernel_rfl) (by kernel_rfl) (fun _ _ _ h => h) (Or.inr ⟨by rfl, rfl⟩) (by assumption) ?_
    simp only [Act.put, List.getElem_toArray, List.getElem_cons_succ, List.getElem_cons_zero, List.setIfInBounds_toArray, List.set_cons_zero, List.set_cons_succ]
    refine wpAnyH_take (i := 13) (v := undef) rfl (by kernel_rfl) (by kernel_rfl) (by kernel_rfl) (fun _ _ _ h => h) (Or.inr ⟨by rfl, rfl⟩) (by assumption) ?_
    simp only [Act.put, List.getElem_toArray, List.getElem_cons_succ, List.getElem_cons_zero, List.setIfInBounds_toArray, List.set_cons_zero, List.set_cons_succ]
    refine wpAnyH_take (i := 14) (v := undef) rfl (by kernel_rfl) (by kernel_rfl) (by kernel_rfl) (fun _ _ _ h => h) (Or.inr ⟨by rfl, rfl⟩) (by assumption) ?_
    simp only [Act.put, List.getElem_toArray, List.getElem_cons_succ, List.getElem_cons_zero, List.setIfInBounds_toArray, List.set_cons_zero, List.set_cons_succ]
    refine wpAnyH_take (i := 15) (v := undef) rfl (by kernel_rfl) (by kernel_rfl) (by kernel_rfl) (fun _ _ _ h => h) (Or.inr ⟨by rfl, rfl⟩) (by assumption) ?_
    simp only [Act.put, List.getElem_toArray, List.getElem_cons_succ, List.getElem_cons_zero, List.setIfInBounds_toArray, List.set_cons_zero, List.set_cons_succ]
    refine wpAnyH_take (i := 16) (v := undef) rfl (by kernel_rfl) (by kernel_rfl) (by kernel_rfl) (fun _ _ _ h => h) (Or.inr ⟨by rfl, rfl⟩) (by assumption) ?_
    simp only [Act.put, List.getElem_toArray, List.getElem_cons_succ, List.getElem_cons_zero, List.setIfInBounds_toArray, List.set_cons_zero, List.set_cons_succ]
    refine wpAnyH_take (i := 17) (v := undef) rfl (by kernel_rfl) (by kernel_rfl) (by kernel_rfl) (fun _ _ _ h => h) (Or.inr ⟨by rfl, rfl⟩) (by assumption) ?_
    simp only [Act.put, List.getElem_toArray, List.getElem_cons_succ, List.getElem_cons_zero, List.setIfInBounds_toArray, List.set_cons_zero, List.set_cons_succ]
    refine wpAnyH_take (i := 18) (v := undef) rfl (by kernel_rfl) (by kernel_rfl) (by kernel_rfl) (fun _ _ _ h => h) (Or.inr ⟨by rfl, rfl⟩) (by assumption) ?_
    simp only [Act.put, List.getElem_toArray, List.getElem_cons_succ, List.getElem_cons_zero, List.setIfInBounds_toArray, List.set_cons_zero, List.set_cons_succ]
    refine wpAnyH_take (i := 19) (v := ?_) rfl (by kernel_rfl) (by kernel_rfl) (by kernel_rfl) (fun _ _ _ h => h) (Or.inl ⟨by rfl, ?_⟩) (by assumption) ?_
    rotate_left
    · (intro w' hSw; (try dsimp only at hSw); go_simp; try with_reducible rfl)
    simp only [Act.put, List.getElem_toArray, List.getElem_cons_succ, List.getElem_cons_zero, List.setIfInBounds_toArray, List.set_cons_zero, List.set_cons_succ]
    refine wpAnyH_take (i := 20) (v := ?_) rfl (by kernel_rfl) (by kernel_rfl) (by kernel_rfl) (fun _ _ _ h => h) (Or.inl ⟨by rfl, ?_⟩) (by assumption) ?_
    rotate_left
    · (intro w' hSw; (try dsimp only at hSw); go_simp; try with_reducible rfl)
    simp only [Act.put, List.getElem_toArray, List.getElem_cons_succ, List.getElem_cons_zero, List.setIfInBounds_toArray, List.set_cons_zero, List.set_cons_succ]
    refine wpAnyH_take (i := 21) (v := ?_) rfl (by kernel_rfl) (by kernel_rfl) (by kernel_rfl) (fun _ _ _ h => h) (Or.inl ⟨by rfl, ?_⟩) (by assumption) ?_
    rotate_left
    · (intro w' hSw; (try dsimp only at hSw); go_simp; try with_reducible rfl)
    simp only [Act.put, List.getElem_toArray, List.getElem_cons_succ, List.getElem_cons_zero, List.setIfInBounds_toArray, List.set_cons_zero, List.set_cons_succ]
    refine wpAnyH_done (by kernel_rfl) ?_ _
    go_wp2
    refine bodyPost_ret (results_tmp2 rfl _ _ _) rfl ?_
    exact ⟨by rw [HU9.out]; (try simp only [Bool.false_and, Bool.true_and, Bool.and_false, Bool.and_true]); rfl, HR0'.out.mono HM0.out, TrC.tr (TrC.ext HX2.out) HT0.out⟩
  go_region_held3 (fun W => W.cell? ⟨w.heap.size, 0, none⟩ = some (.slice Ad C.decls.length cd) ∧ W.cell? ⟨w.heap.size, 1, none⟩ = some (.slice Af C.funs.length cf) ∧ W.cell? ⟨w.heap.size + 1, 2, none⟩ = some (.int .i64 ty) ∧ W.cell? ⟨w.heap.size + 1, 3, none⟩ = some (.slice (some ⟨b, o, none⟩) 2 ca) ∧ W.cell? ⟨b, o, none⟩ = some (.int .i64 x.op) ∧ W.cell? ⟨b, o + 1, none⟩ = some (.int .i64 x.n) ∧ W.cell? ⟨b, o + 2, none⟩ = some (.int .i64 x.ty) ∧ W.cell? ⟨b, o + 3, none⟩ = some (.slice Ax x.args.length cx) ∧ W.cell? ⟨b, o + 4, none⟩ = some (.slice Bx x.brs.length dx) ∧ W.cell? ⟨b, o + 5, none⟩ = some (.int .i64 y.op) ∧ W.cell? ⟨b, o + 6, none⟩ = some (.int .i64 y.n) ∧ W.cell? ⟨b, o + 7, none⟩ = some (.int .i64 y.ty) ∧ W.cell? ⟨b, o + 8, none⟩ = some (.slice Ay y.args.length cy) ∧ W.cell? ⟨b, o + 9, none⟩ = some (.slice By y.brs.length dy))
    (first | exact HCE.out _ HT1.out | exact HCE.out _ HT0.out | exact HCE.out _ (TrC.ext (Ext.rf _).drew) | exact HCE.out _ (TrC.ext (Ext.rf _)) | fail "KEEP")
    (first
      | (go_at_call 43; (with_reducible refine (HH1.out _ HT0.out HR0'.out).mono ?_); rintro e v1 ⟨rfl, hr1, ht1⟩; have HR1' := Lib.hid hr1; have HT1 := Lib.hid ht1; clear hr1 ht1)
      | (go_at_call 43; (with_reducible refine (HH0.out _ (TrC.ext (by first | exact (Ext.rf _).drew | exact Ext.rf _)) (HR2.out.ext (by first | exact (Ext.rf _).drew | exact Ext.rf _))).mono ?_); rintro e v0 ⟨rfl, hr0, ht0⟩; have HR0' := Lib.hid hr0; have HT0 := Lib.hid ht0; clear hr0 ht0)
      | fail "ARM")
  all_goals
    go_wp2
    refine bodyPost_ret (results_tmp2 rfl _ _ _) rfl ?_
    exact ⟨by rw [HU9.out]; (try simp only [Bool.false_and, Bool.true_and, Bool.and_false, Bool.and_true]); rfl, HR1'.out.mono HM1.out, TrC.tr (TrC.ext HX2.out) HT1.out⟩
end
end Go.Proofs.YtkdhhcidpklgoaaGreatDoor
