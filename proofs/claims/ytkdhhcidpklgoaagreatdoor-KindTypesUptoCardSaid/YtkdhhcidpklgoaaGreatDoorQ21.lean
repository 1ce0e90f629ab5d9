/- kind: Type. -/
import Derived.Test.YtkdhhcidpklgoaaGreatDoorQ20
namespace Go.Proofs.YtkdhhcidpklgoaaGreatDoor
open Go.RowKit Go.Shelf
attribute [local go_sem] Oper.semAt_some

theorem apart_nil (u : Value) : apart (fun _ => nilS) u := fun A n c b o _ _ hr => by obtain ⟨v, hv⟩ := hr; cases hv
theorem varsOf_sort {s : Int} (hs : s = 0 ∨ s = 1) (l : List Int) : ∀ x ∈ varsOf s l, x.1 = 0 ∨ x.1 = 1 := fun x hx => by
  unfold varsOf at hx
  obtain ⟨a, _, rfl⟩ := List.mem_map.1 hx
  exact hs
theorem varsOf_len (s : Int) (l : List Int) : (varsOf s l).length = l.length := by unfold varsOf; rw [List.length_map]
abbrev tysV (vt vu : Value) : Value := .agg #[vt, vu]
set_option maxHeartbeats 16000000 in
set_option maxRecDepth 100000 in
theorem kindType_any (vd vf vx va vt vu xa xb : Value) (C : Cg) (xs ys tx ta : List Int) (t : Nd) (k : Nat) (w : World) (hC : RCg w vd vf C) (hS : ShC C) (htab : Tabs w) (hB : ∀ f ∈ C.funs, BN f.body) (hx : RInts w vx xs) (ha : RInts w va ys) (ht : RInts w vt tx) (hu : RInts w vu ta) (hn : RNd w k t xa xb) (hb : BN t) (hl1 : xs.length + ys.length ≤ 1048576) (hl2 : tx.length + ta.length ≤ 1048576) :
    Calls Tryz.prog 12 #[cV vd vf, vx, va, tysV vt vu, nV t xa xb] w fun e w' => e = .returned (.tuple #[.int .i64 (typC C xs ys tx ta t).1, .int .i64 (typC C xs ys tx ta t).2]) ∧ Ext w w' := by
  have HCK := Lib.hid (fun w' (h : Ext w w') => coreCheck_any vd vf C w' (hC.below h) hS (htab.ext h) hB)
  have HNC := Lib.hid (fun w' (h : Ext w w') => newChecker_any vd vf C w' (hC.below h))
  have HVX := Lib.hid (fun w' (h : Ext w w') => variables_any 0 ok_lit0 vx xs w' (hx.below h) (by omega))
  have HVA := Lib.hid (fun w' (h : Ext w w') => variables_any 1 ok_lit1 va ys w' (ha.below h) (by omega))
  have HCV := Lib.hid (fun (u1 u2 : Value) (b : Nat) (w' : World) (h1 : RVrs w' u1 (varsOf 0 xs)) (h2 : RVrs w' u2 (varsOf 1 ys)) (c0 : w'.cell? ⟨b, 0, none⟩ = some u1) (c1 : w'.cell? ⟨b, 1, none⟩ = some u2) => concatV_any u1 u2 (varsOf 0 xs) (varsOf 1 ys) b w' h1 h2 c0 c1 (by rw [varsOf_len, varsOf_len]; exact hl1))
  have HCI := Lib.hid (fun (b : Nat) (w' : World) (h : Ext w w') (c0 : w'.cell? ⟨b, 0, none⟩ = some vt) (c1 : w'.cell? ⟨b, 1, none⟩ = some vu) => concatI_any vt vu tx ta b w' (ht.below h) (hu.below h) c0 c1 hl2)
  have HAT := Lib.hid (fun (u : Value) (w' : World) (h : Ext w w') (hr : RInts w' u (tx ++ ta)) => areTypes_any vd vf u C (tx ++ ta) w' (hC.below h) hr (by rw [List.length_append]; exact hl2))
  have HIV := Lib.hid (fun (u : Value) (w' : World) (h : Ext w w') (hr : RVrs w' u (varsOf 0 xs ++ varsOf 1 ys)) => isValid_any vd vf C k t xa xb u (varsOf 0 xs ++ varsOf 1 ys) w' (hC.below h) hS (htab.ext h) (hn.below h) hb hr (by rw [List.length_append, varsOf_len, varsOf_len]; exact hl1))
  have HTY := Lib.hid (fun (wA : World) (base mx mc : Nat) (h : Ext w wA) (h1 : wA.heap.size ≤ mx) (h2 : wA.heap.size ≤ mc) (h3 : wA.heap.size ≤ base) => typ_all vd vf C wA base mx mc (hC.below h) hS (htab.ext h) h1 h2 h3 k t xa xb (hn.below h) hb)
  have hbb := hb.b
  obtain ⟨Ad, cd, rfl, -, -⟩ := hC.d.form
  obtain ⟨Af, cf, rfl, -, -⟩ := hC.f.form
  obtain ⟨-, ⟨Ax, cx, rfl, -, -⟩, ⟨Bx, dx, rfl, -, -⟩⟩ := hn.form
  obtain ⟨A1, c1, rfl, -, -⟩ := hx.form
  obtain ⟨A2, c2, rfl, -, -⟩ := ha.form
  obtain ⟨A3, c3, rfl, -, -⟩ := ht.form
  obtain ⟨A4, c4, rfl, -, -⟩ := hu.form
  obtain ⟨w3, hw3⟩ : ∃ w3, w3 = ((w.alloc (.cells #[.slice Ad C.decls.length cd, .slice Af C.funs.length cf] 25)).alloc (.cells #[.slice A3 tx.length c3, .slice A4 ta.length c4] 32)).alloc (.cells #[.int .i64 t.op, .int .i64 t.n, .int .i64 t.ty, .slice Ax t.args.length cx, .slice Bx t.brs.length dx] 36) := ⟨_, rfl⟩
  have HE3 : Hid (Ext w w3) := by show Ext w w3; rw [hw3]; exact ((Ext.al _ _).tr (Ext.al _ _)).tr (Ext.al _ _)
  have HB1 : Hid (w3.heap[w.heap.size]? = some (.cells #[.slice Ad C.decls.length cd, .slice Af C.funs.length cf] 25 (0, 0))) := by show _ = _; rw [hw3]; exact Ext.lt (Ext.al2 _ _ _) (heapNew w _)
  have HB2 : Hid (w3.heap[w.heap.size + 1]? = some (.cells #[.slice A3 tx.length c3, .slice A4 ta.length c4] 32 (0, 0))) := by show _ = _; rw [hw3]; exact Ext.lt (Ext.al _ _) (heapNew2 w _ _)
  have HB3 : Hid (w3.heap[w.heap.size + 1 + 1]? = some (.cells #[.int .i64 t.op, .int .i64 t.n, .int .i64 t.ty, .slice Ax t.args.length cx, .slice Bx t.brs.length dx] 36 (0, 0))) := by show _ = _; rw [hw3]; exact heapNew3 w _ _ _
  clear hC hS htab hB hx ha ht hu hn hb
  cases hcb : coreB C
  · have HK : Hid (typC C xs ys tx ta t = (0, 60)) := by show _ = _; unfold typC; rw [hcb]; rfl
    have HK2 : Hid (∀ w', Ext w w' → Calls Tryz.prog 20 #[cV (.slice Ad C.decls.length cd) (.slice Af C.funs.length cf)] w' fun e w'' => e = .returned (.int .i64 60) ∧ Ext w' w'') := fun w' h => by
      have := HCK.out w' h
      unfold chkC at this
      rw [hcb] at this
      exact this
    clear hcb
    go_enter Tryz.func12, Tryz.ntmps12
    go_wp2_with fail
    rw [← hw3]
    have a0 := cellAt HB1.out 0
    refine (HK2.out _ HE3.out).mono ?_
    rintro e w4 ⟨rfl, hx4⟩
    go_wp2
    exact bodyPost_ret (v := .tuple #[.int .i64 0, .int .i64 60]) (by simp [results, Tryz.results12, go_sem]) rfl ⟨by rw [HK.out], HE3.out.tr hx4⟩
  · obtain ⟨o, ho⟩ : ∃ o, typN C (pushE (fun _ => []) (varsOf 0 xs ++ varsOf 1 ys) (tx ++ ta)) t = o := ⟨_, rfl⟩
    have HOO := Lib.hid ho
    have HK : Hid (typC C xs ys tx ta t = if askC C xs ys tx ta t then (o.getD 0, if o.isSome then 0 else 70) else (0, 1)) := by
      show _ = _; unfold typC; rw [hcb, ho]
      cases o <;> rfl
    clear ho
    have HK2 : Hid (∀ w', Ext w w' → Calls Tryz.prog 20 #[cV (.slice Ad C.decls.length cd) (.slice Af C.funs.length cf)] w' fun e w'' => e = .returned (.int .i64 0) ∧ Ext w' w'') := fun w' h => by
      have := HCK.out w' h
      unfold chkC at this
      rw [hcb] at this
      exact this
    clear hcb
    have HBX : Hid (∀ W, Ext w3 W → (W.cell? ⟨w.heap.size, 0, none⟩ = some (.slice Ad C.decls.length cd) ∧ W.cell? ⟨w.heap.size, 1, none⟩ = some (.slice Af C.funs.length cf)) ∧ (W.cell? ⟨w.heap.size + 1, 0, none⟩ = some (.slice A3 tx.length c3) ∧ W.cell? ⟨w.heap.size + 1, 1, none⟩ = some (.slice A4 ta.length c4))) := fun W h => ⟨⟨cellAt (h.lt HB1.out) 0, cellAt (h.lt HB1.out) 1⟩, cellAt (h.lt HB2.out) 0, cellAt (h.lt HB2.out) 1⟩
    have HBN : Hid (∀ W, Ext w3 W → W.cell? ⟨w.heap.size + 1 + 1, 0, none⟩ = some (.int .i64 t.op) ∧ W.cell? ⟨w.heap.size + 1 + 1, 1, none⟩ = some (.int .i64 t.n) ∧ W.cell? ⟨w.heap.size + 1 + 1, 2, none⟩ = some (.int .i64 t.ty) ∧ W.cell? ⟨w.heap.size + 1 + 1, 3, none⟩ = some (.slice Ax t.args.length cx) ∧ W.cell? ⟨w.heap.size + 1 + 1, 4, none⟩ = some (.slice Bx t.brs.length dx)) := fun W h => ⟨cellAt (h.lt HB3.out) 0, cellAt (h.lt HB3.out) 1, cellAt (h.lt HB3.out) 2, cellAt (h.lt HB3.out) 3, cellAt (h.lt HB3.out) 4⟩
    by_cases hxl : xs.length = tx.length
    · by_cases hyl : ys.length = ta.length
      · obtain ⟨rt, hrt⟩ : ∃ rt, typesOK C (tx ++ ta) = rt := ⟨_, rfl⟩
        obtain ⟨rv, hrv⟩ : ∃ rv, ((sizeC 30000 4000 t).2 && !decide (sortN C (addS (fun _ => false) (varsOf 0 xs ++ varsOf 1 ys)) t = 3)) = rv := ⟨_, rfl⟩
        have HASK : Hid (askC C xs ys tx ta t = (rt && rv)) := by
          show _ = _; unfold askC
          rw [decide_eq_true hxl, decide_eq_true hyl, hrt, hrv]; rfl
        have HSO : Hid (rv = true → sortN C (addS (fun _ => false) (varsOf 0 xs ++ varsOf 1 ys)) t ≠ 3) := fun h => by
          rw [h, Bool.and_eq_true] at hrv
          have := hrv.2
          simpa using this
        rw [hrt] at HAT
        rw [hrv] at HIV
        have hxi : (xs.length : Int) = (tx.length : Int) := by omega
        have hyi : (ys.length : Int) = (ta.length : Int) := by omega
        have HXL := Lib.hid hxl; have HYL := Lib.hid hyl
        clear hrt hrv hxl hyl
        go_enter Tryz.func12, Tryz.ntmps12
        go_wp2_with fail
        rw [← hw3]
        have a0 := cellAt HB1.out 0
        refine (HK2.out _ HE3.out).mono ?_
        rintro e w4 ⟨rfl, hx4⟩
        have HX4 := Lib.hid hx4
        obtain ⟨⟨p0, p1⟩, q0, q1⟩ := HBX.out _ hx4
        clear hx4
        go_wp2_with fail
        refine (HVX.out _ (HE3.out.tr HX4.out)).mono ?_
        rintro e w5 ⟨⟨u5, rfl, hu5⟩, hx5⟩
        obtain ⟨Au5, cu5, rfl, -, -⟩ := hu5.form
        have HX5 := Lib.hid (HX4.out.tr hx5)
        have HU5 := Lib.hid hu5
        clear p0 p1 q0 q1 hx5 hu5
        go_wp2_with fail
        refine (HVA.out _ (HE3.out.tr HX5.out)).mono ?_
        rintro e w6 ⟨⟨u6, rfl, hu6⟩, hx6⟩
        obtain ⟨Au6, cu6, rfl, -, -⟩ := hu6.form
        have HU56 := Lib.hid (HU5.out.below hx6)
        have HX6 := Lib.hid (HX5.out.tr hx6)
        have HU6 := Lib.hid hu6
        clear hx6 hu6
        have hr7 := heapNew w6 (.cells #[.slice Au5 (varsOf 0 xs).length cu5, .slice Au6 (varsOf 1 ys).length cu6] 76)
        have HX7 := Lib.hid (Ext.al w6 (.cells #[.slice Au5 (varsOf 0 xs).length cu5, .slice Au6 (varsOf 1 ys).length cu6] 76))
        have HC7 := Lib.hid (HCV.out _ _ w6.heap.size (w6.alloc (.cells #[.slice Au5 (varsOf 0 xs).length cu5, .slice Au6 (varsOf 1 ys).length cu6] 76)) (HU56.out.below HX7.out) (HU6.out.below HX7.out) (cellAt hr7 0) (cellAt hr7 1))
        clear hr7
        go_wp2_with fail
        refine (HC7.out).mono ?_
        rintro e w8 ⟨⟨u8, rfl, hu8⟩, hx8⟩
        obtain ⟨L, hL⟩ : ∃ L, varsOf 0 xs ++ varsOf 1 ys = L := ⟨_, rfl⟩
        have HL := Lib.hid hL
        have HLL : Hid (L.length = tx.length + ta.length) := by show _ = _; rw [← hL, List.length_append, varsOf_len, varsOf_len, HXL.out, HYL.out]
        have hLs : ∀ x ∈ L, x.1 = 0 ∨ x.1 = 1 := fun x hx => by
          rw [← hL] at hx
          rcases List.mem_append.1 hx with h | h
          · exact varsOf_sort (.inl rfl) _ x h
          · exact varsOf_sort (.inr rfl) _ x h
        have HLS := Lib.hid hLs
        rw [hL] at hu8 HSO HOO HIV
        clear hL hLs
        obtain ⟨Au8, cu8, rfl, -, -⟩ := hu8.form
        have HX8 := Lib.hid ((HX6.out.tr HX7.out).tr hx8)
        have HU8 := Lib.hid hu8
        obtain ⟨-, q0, q1⟩ := HBX.out _ HX8.out
        have hr9 := heapNew w8 (.cells #[.slice A3 tx.length c3, .slice A4 ta.length c4] 31)
        have HX9 := Lib.hid (Ext.al w8 (.cells #[.slice A3 tx.length c3, .slice A4 ta.length c4] 31))
        have HC9 := Lib.hid (HCI.out w8.heap.size (w8.alloc (.cells #[.slice A3 tx.length c3, .slice A4 ta.length c4] 31)) ((HE3.out.tr HX8.out).tr HX9.out) (cellAt hr9 0) (cellAt hr9 1))
        clear hr9 hx8 hu8
        go_wp2_with fail
        refine (HC9.out).mono ?_
        rintro e w10 ⟨⟨u10, rfl, hu10⟩, hx10⟩
        obtain ⟨K, hK⟩ : ∃ K, tx ++ ta = K := ⟨_, rfl⟩
        have HKL : Hid (L.length = K.length) := by show _ = _; rw [← hK, List.length_append]; exact HLL.out
        rw [hK] at hu10 HAT HOO
        clear hK
        obtain ⟨Au10, cu10, rfl, -, -⟩ := hu10.form
        have HX10 := Lib.hid ((HX8.out.tr HX9.out).tr hx10)
        have HU10 := Lib.hid hu10
        have HU810 := Lib.hid ((HU8.out.below HX9.out).below hx10)
        clear q0 q1 hu10 hx10
        obtain ⟨⟨p0, p1⟩, -, -⟩ := HBX.out _ HX10.out
        have HA10 := Lib.hid (HAT.out _ w10 (HE3.out.tr HX10.out) HU10.out)
        have HNO : Hid (rt = false ∨ rv = false → typC C xs ys tx ta t = (0, 1)) := fun h => by
          rw [HK.out, HASK.out]; rcases h with rfl | rfl <;> simp
        cases rt
        · go_wp2_with (go_at_call 34; (with_reducible refine (HA10.out).mono ?_); rintro e w11 ⟨rfl, hx11⟩)
          exact bodyPost_ret (v := .tuple #[.int .i64 0, .int .i64 1]) (by simp [results, Tryz.results12, go_sem]) rfl ⟨by rw [HNO.out (by simp)], (HE3.out.tr HX10.out).tr hx11⟩
        · cases rv
          · go_wp2_with (first
              | (go_at_call 34; (with_reducible refine (HA10.out).mono ?_); rintro e w11 ⟨rfl, hx11⟩; have HX11 := Lib.hid (HX10.out.tr hx11); have HU811 := Lib.hid (HU810.out.below hx11); clear p0 p1 hx11; obtain ⟨⟨p0, p1⟩, -, -⟩ := HBX.out _ HX11.out; obtain ⟨n0, n1, n2, n3, n4⟩ := HBN.out _ HX11.out)
              | (go_at_call 35; (with_reducible refine (HIV.out _ _ (HE3.out.tr HX11.out) HU811.out).mono ?_); rintro e w12 ⟨rfl, hx12⟩))
            exact bodyPost_ret (v := .tuple #[.int .i64 0, .int .i64 1]) (by simp [results, Tryz.results12, go_sem]) rfl ⟨by rw [HNO.out (by simp)], (HE3.out.tr HX11.out).tr hx12⟩
          · have HYES : Hid (typC C xs ys tx ta t = (o.getD 0, if o.isSome then 0 else 70)) := by show _ = _; rw [HK.out, HASK.out]; rfl
            go_wp2_with (first
              | (go_at_call 34; (with_reducible refine (HA10.out).mono ?_); rintro e w11 ⟨rfl, hx11⟩; have HX11 := Lib.hid (HX10.out.tr hx11); have HU811 := Lib.hid (HU810.out.below hx11); have HU1011 := Lib.hid (HU10.out.below hx11); clear p0 p1 hx11; obtain ⟨⟨p0, p1⟩, -, -⟩ := HBX.out _ HX11.out; obtain ⟨n0, n1, n2, n3, n4⟩ := HBN.out _ HX11.out)
              | (go_at_call 35; (with_reducible refine (HIV.out _ _ (HE3.out.tr HX11.out) HU811.out).mono ?_); rintro e w12 ⟨rfl, hx12⟩; have HX12 := Lib.hid (HX11.out.tr hx12); have HU812 := Lib.hid (HU811.out.below hx12); have HU1012 := Lib.hid (HU1011.out.below hx12); clear p0 p1 n0 n1 n2 n3 n4 hx12; obtain ⟨⟨p0, p1⟩, -, -⟩ := HBX.out _ HX12.out)
              | (go_at_call 21; fail))
            have HXA : Hid (Ext w w12) := HE3.out.tr HX12.out
            refine (HNC.out _ HXA.out).mono ?_
            rintro e w13 ⟨mx, mc, rfl, hs13, hx13, hm1, hm2⟩
            have hz13 := hx13.size
            have HX13 := Lib.hid hx13
            have HXC := Lib.hid (Ext.al w13 (.cells #[.slice Ad C.decls.length cd, .slice Af C.funs.length cf, .map (some mx), .map (some mc)] 64))
            have HBC := Lib.hid (heapNew w13 (.cells #[.slice Ad C.decls.length cd, .slice Af C.funs.length cf, .map (some mx), .map (some mc)] 64))
            have HS14 : Hid (SCX (w13.alloc (.cells #[.slice Ad C.decls.length cd, .slice Af C.funs.length cf, .map (some mx), .map (some mc)] 64)) w13.heap.size mx mc 0 (fun _ => nilS) (fun _ => [])) := hs13.ext HXC.out
            have hz14 : (w13.alloc (.cells #[.slice Ad C.decls.length cd, .slice Af C.funs.length cf, .map (some mx), .map (some mc)] 64)).heap.size = w13.heap.size + 1 := by simp
            have HU814 := Lib.hid ((HU812.out.below hx13).below HXC.out)
            have HU1014 := Lib.hid ((HU1012.out.below hx13).below HXC.out)
            have hln : L.length ≤ 1048576 := by rw [← HL.out, List.length_append, varsOf_len, varsOf_len]; exact hl1
            have k2 := cellAt HBC.out 2
            have k3 := cellAt HBC.out 3
            have HBI := Lib.hid (bind_any (w13.alloc (.cells #[.slice Ad C.decls.length cd, .slice Af C.funs.length cf, .map (some mx), .map (some mc)] 64)) w13.heap.size mx mc 0 (fun _ => nilS) (fun _ => []) _ _ L K HS14.out (by omega) HU814.out HU1014.out (by rw [HKL.out]; exact Nat.le_refl _) (by omega) (fun _ => Nat.le_refl _) HLS.out hln (apart_nil _) (apart_nil _))
            clear p0 p1 hs13 hx13
            go_wp2_with fail
            refine (HBI.out).mono ?_
            rintro e w15 ⟨rfl, -, -, g15, hs15, ht15⟩
            have HT15 := Lib.hid ht15
            have hq := ht15.box HS14.out HBC.out tck_ne
            have HX14 : Hid (Ext w12 (w13.alloc (.cells #[.slice Ad C.decls.length cd, .slice Af C.funs.length cf, .map (some mx), .map (some mc)] 64))) := HX13.out.tr HXC.out
            have hxk := ht15.keeps HS14.out HX14.out hm1 hm2 hz13
            obtain ⟨n0, n1, n2, n3, n4⟩ := HBN.out _ (HX12.out.tr hxk)
            have HTP := Lib.hid (HTY.out w12 w13.heap.size mx mc HXA.out hm1 hm2 hz13 w15 (0 + L.length) g15 (pushE (fun _ => []) L K) (addS (fun _ => false) L) hxk (by have := ht15.only.size; omega) hs15 (EvIn.none.push (by rw [HKL.out]; exact Nat.le_refl _)) (push_len (fun _ => Nat.zero_le _) (by rw [HKL.out]; exact Nat.le_refl _)) (HSO.out (by simp)) (by omega))
            rw [HOO.out] at HTP
            have HS15 := Lib.hid hs15
            have r0 := cellAt hq 0
            have r1 := cellAt hq 1
            have r2 := cellAt hq 2
            have r3 := cellAt hq 3
            clear k2 k3 hq hs15 ht15 hxk
            have HEND : Hid (∀ W g', Tr mx mc g15 g' w15 W → Ext w W) := fun W g' h => HXA.out.tr ((HT15.out.tr h).keeps HS14.out HX14.out hm1 hm2 hz13)
            cases o with
            | none =>
              have HTP2 : Hid (Calls Tryz.prog 37 #[ckV (.slice Ad C.decls.length cd) (.slice Af C.funs.length cf) mx mc, nV t (.slice Ax t.args.length cx) (.slice Bx t.brs.length dx)] w15 fun e w' => e = .returned (.tuple #[.int .i64 0, .bool false]) ∧ ∃ g', SCX w' w13.heap.size mx mc (0 + L.length + 2 * bndN t) g' (pushE (fun _ => []) L K) ∧ Tr mx mc g15 g' w15 w') := HTP.out
              go_wp2_with (go_at_call 37; (with_reducible refine (HTP2.out).mono ?_); rintro e w16 ⟨rfl, g16, -, ht16⟩)
              exact bodyPost_ret (v := .tuple #[.int .i64 0, .int .i64 70]) (by simp [results, Tryz.results12, go_sem]) rfl ⟨by rw [HYES.out]; rfl, HEND.out _ _ ht16⟩
            | some T =>
              have HTP2 : Hid (Calls Tryz.prog 37 #[ckV (.slice Ad C.decls.length cd) (.slice Af C.funs.length cf) mx mc, nV t (.slice Ax t.args.length cx) (.slice Bx t.brs.length dx)] w15 fun e w' => e = .returned (.tuple #[.int .i64 T, .bool true]) ∧ ∃ g', SCX w' w13.heap.size mx mc (0 + L.length + 2 * bndN t) g' (pushE (fun _ => []) L K) ∧ Tr mx mc g15 g' w15 w') := HTP.out
              go_wp2_with (go_at_call 37; (with_reducible refine (HTP2.out).mono ?_); rintro e w16 ⟨rfl, g16, -, ht16⟩)
              exact bodyPost_ret (v := .tuple #[.int .i64 T, .int .i64 0]) (by simp [results, Tryz.results12, go_sem]) rfl ⟨by rw [HYES.out]; rfl, HEND.out _ _ ht16⟩
      · have HNO : Hid (typC C xs ys tx ta t = (0, 1)) := by
          show _ = _; rw [HK.out]
          unfold askC
          rw [decide_eq_false hyl]; simp
        have HYL : Hid (¬ (ys.length = ta.length)) := hyl
        have hyi : ¬ ((ys.length : Int) = (ta.length : Int)) := by omega
        clear hyl
        have hxi : (xs.length : Int) = (tx.length : Int) := by omega
        clear hxl
        go_enter Tryz.func12, Tryz.ntmps12
        go_wp2_with fail
        rw [← hw3]
        have a0 := cellAt HB1.out 0
        refine (HK2.out _ HE3.out).mono ?_
        rintro e w4 ⟨rfl, hx4⟩
        obtain ⟨⟨p0, p1⟩, q0, q1⟩ := HBX.out _ hx4
        go_wp2
        exact bodyPost_ret (v := .tuple #[.int .i64 0, .int .i64 1]) (by simp [results, Tryz.results12, go_sem]) rfl ⟨by rw [HNO.out], HE3.out.tr hx4⟩
    · have HNO : Hid (typC C xs ys tx ta t = (0, 1)) := by
        show _ = _; rw [HK.out]
        unfold askC
        rw [decide_eq_false hxl]; simp
      have hxi : ¬ ((xs.length : Int) = (tx.length : Int)) := by omega
      clear hxl
      go_enter Tryz.func12, Tryz.ntmps12
      go_wp2_with fail
      rw [← hw3]
      have a0 := cellAt HB1.out 0
      refine (HK2.out _ HE3.out).mono ?_
      rintro e w4 ⟨rfl, hx4⟩
      obtain ⟨⟨p0, p1⟩, q0, q1⟩ := HBX.out _ hx4
      go_wp2
      exact bodyPost_ret (v := .tuple #[.int .i64 0, .int .i64 1]) (by simp [results, Tryz.results12, go_sem]) rfl ⟨by rw [HNO.out], HE3.out.tr hx4⟩
end Go.Proofs.YtkdhhcidpklgoaaGreatDoor

/- ref06: left, Fits, Few. -/
namespace Go.Proofs.YtkdhhcidpklgoaaGreatDoor
open Go.RowKit Go.Shelf
attribute [local go_sem] Oper.semAt_some

theorem cntA_take {l : List Nd} {j : Nat} (h : j < l.length) : cntA (l.take (j + 1)) = cntA (l.take j) + cntN l[j] ∧ cntA (l.take (j + 1)) ≤ cntA l := by
  have h1 := cntA_append (l.drop (j + 1)) (l.take (j + 1))
  have h2 : l.take (j + 1) = l.take j ++ [l[j]] := List.take_succ_eq_append_getElem h
  rw [List.take_append_drop] at h1
  refine ⟨?_, by omega⟩
  rw [h2, cntA_append]; simp [cntA]
theorem cntA_sub {l : List Nd} (j : Nat) : cntA (l.take j) ≤ cntA l := by
  have h1 := cntA_append (l.drop j) (l.take j)
  rw [List.take_append_drop] at h1
  omega
theorem cntB_take {l : List Br} {j : Nat} (h : j < l.length) : cntB (l.take (j + 1)) = cntB (l.take j) + cntN l[j].2.2 := by
  have h2 : l.take (j + 1) = l.take j ++ [l[j]] := List.take_succ_eq_append_getElem h
  rw [h2, cntB_append]
  obtain ⟨v, c, t⟩ := l[j]
  simp [cntB]
theorem cntB_sub {l : List Br} (j : Nat) : cntB (l.take j) ≤ cntB l := by
  have h1 := cntB_append (l.drop j) (l.take j)
  rw [List.take_append_drop] at h1
  omega
/-- How many are left. -/
def leftN (m : Int) (c : Nat) : Int := if m - c ≤ 0 then 0 else m - c
set_option maxHeartbeats 8000000 in
set_option maxRecDepth 100000 in
theorem left_any : ∀ (k : Nat) (t : Nd) (va vb : Value) (m : Int) (w : World), RNd w k t va vb → BN t → -1000 ≤ m → m ≤ 1000000000 →
    Calls Tryz.prog 30 #[nV t va vb, .int .i64 m] w fun e w' => e = .returned (.int .i64 (leftN m (cntN t))) ∧ Ext w w' := by
  intro k
  induction k with
  | zero => intro t va vb m w h; exact h.elim
  | succ k ih =>
    intro t va vb m w ht hb hm1 hm2
    have HT := Lib.hid ht; have HIH := Lib.hid ih; have HB := Lib.hid hb
    have hna := hb.na
    have hnb := hb.nb
    have hcn := cntN_eq t
    have hcc := hb.c
    obtain ⟨-, ⟨A, c, rfl, -, hma⟩, ⟨B, d, rfl, -, hmb⟩⟩ := ht.form
    have HE1 := Lib.hid (Ext.al w (.cells #[.int .i64 t.op, .int .i64 t.n, .int .i64 t.ty, .slice A t.args.length c, .slice B t.brs.length d] 36))
    have HB1 := Lib.hid (heapNew w (.cells #[.int .i64 t.op, .int .i64 t.n, .int .i64 t.ty, .slice A t.args.length c, .slice B t.brs.length d] 36))
    clear ht ih hb
    have hw1 : IntKind.wrap .i64 (m - 1) = m - 1 := IntWalk.i64_in _ (by omega)
    go_enter Tryz.func30, Tryz.ntmps30
    go_wp2
    generalize w.alloc _ = w1 at *
    go_loopw [1, 5] (fun s i wr => ∃ (j : Nat) (cur : Int), j ≤ t.args.length ∧ i = .int .i64 j ∧ s = .int .i64 cur ∧ cur ≤ 1000000000 ∧ -2000 ≤ cur ∧ (cur = m - 1 - cntA (t.args.take j) ∨ (cur ≤ 0 ∧ m - 1 - cntA (t.args.take j) ≤ 0)) ∧ Ext w1 wr) (fun _ i _ => t.args.length - (intOf i).toNat)
    case atStart => exact ⟨0, m - 1, Nat.zero_le _, rfl, rfl, by omega, by omega, .inl (by simp [cntA]), Ext.rf _⟩
    case round =>
      obtain ⟨j, cur, hj, rfl, rfl, hc1, hc2, hc3, hx⟩ := hrel
      have HX := Lib.hid hx
      have hb1 := hx.lt HB1.out
      have n3 := cellAt hb1 3
      have n4 := cellAt hb1 4
      clear hx hb1
      have hcs := cntA_sub (l := t.args) j
      by_cases hgo : j < t.args.length ∧ 0 < cur
      · obtain ⟨hlt, hcur⟩ := hgo
        obtain ⟨b, o, xa, xb, rfl, hbl, yc, yt⟩ := HT.out.arg hlt
        obtain ⟨y0, y1, y2, y3, y4⟩ := yc.below (HE1.out.tr HX.out)
        have hct := cntA_take hlt
        have HL := Lib.hid (HIH.out t.args[j] xa xb cur wr (yt.below (HE1.out.tr HX.out)) (HB.out.arg (List.getElem_mem hlt)) (by omega) hc1)
        obtain ⟨-, ⟨Ax, cx, rfl, -, -⟩, ⟨Bx, dx, rfl, -, -⟩⟩ := yt.form
        generalize t.args[j] = x at *
        have HLV : Hid (leftN cur (cntN x) = if cur - cntN x ≤ 0 then 0 else cur - cntN x) := rfl
        generalize leftN cur (cntN x) = r at *
        have hjl : (j : Int) < t.args.length := by omega
        have hcur2 : cur > 0 := hcur
        clear yc yt
        go_wp2_with (go_at_call 30; (with_reducible refine (HL.out).mono ?_); rintro e w3 ⟨rfl, hx3⟩)
        refine ⟨⟨j + 1, r, by omega, by go_num, rfl, ?_, ?_, ?_, HX.out.tr hx3⟩, by simp [intOf]; omega⟩
        · rw [HLV.out]; split <;> omega
        · rw [HLV.out]; split <;> omega
        · rw [HLV.out]; split <;> omega
      · have HAF : Hid (cur = m - 1 - cntA t.args ∨ (cur ≤ 0 ∧ m - 1 - cntA t.args ≤ 0)) := by
          show _ ∨ _
          by_cases hlt : j < t.args.length
          · have : cur ≤ 0 := by omega
            right; omega
          · have hje : j = t.args.length := by omega
            rw [hje, List.take_length] at hc3
            exact hc3
        have hca : (t.args.length ≤ j ∧ t.args.length ≤ j) ∨ (j < t.args.length ∧ cur ≤ 0) := by omega
        clear hc3 hgo hcs
        rcases hca with ⟨h1, h2⟩ | ⟨h1, h2⟩
        all_goals
          have h1' : ¬ ((j : Int) < t.args.length) ∨ ((j : Int) < t.args.length ∧ ¬ (0 < cur)) := by omega
          go_wp2
          go_loopw [1, 6] (fun s i wr => ∃ (j : Nat) (cur : Int), j ≤ t.brs.length ∧ i = .int .i64 j ∧ s = .int .i64 cur ∧ cur ≤ 1000000000 ∧ -2000 ≤ cur ∧ (cur = m - 1 - cntA t.args - cntB (t.brs.take j) ∨ (cur ≤ 0 ∧ m - 1 - cntA t.args - cntB (t.brs.take j) ≤ 0)) ∧ Ext w1 wr) (fun _ i _ => t.brs.length - (intOf i).toNat)
          case atStart => exact ⟨0, cur, Nat.zero_le _, rfl, rfl, hc1, hc2, by have := HAF.out; simp [cntB]; omega, HX.out⟩
          case round =>
            obtain ⟨j2, cur2, hj2, rfl, rfl, hd1, hd2, hd3, hx⟩ := hrel
            have HX2 := Lib.hid hx
            have hb1 := hx.lt HB1.out
            clear n3 n4
            have n3 := cellAt hb1 3
            have n4 := cellAt hb1 4
            clear hx hb1
            have hcs := cntB_sub (l := t.brs) j2
            by_cases hgo : j2 < t.brs.length ∧ 0 < cur2
            · obtain ⟨hlt, hcur⟩ := hgo
              obtain ⟨b, o, vv, vc, xa, xb, rfl, hbl, -, -, -, -, yc, yt⟩ := HT.out.br hlt
              obtain ⟨y0, y1, y2, y3, y4⟩ := yc.below (HE1.out.tr HX2.out)
              have hct := cntB_take hlt
              have hcs2 := cntB_sub (l := t.brs) (j2 + 1)
              have HL := Lib.hid (HIH.out (t.brs[j2]).2.2 xa xb cur2 wr (yt.below (HE1.out.tr HX2.out)) (HB.out.br (List.getElem_mem hlt)) (by omega) hd1)
              obtain ⟨-, ⟨Ax, cx, rfl, -, -⟩, ⟨Bx, dx, rfl, -, -⟩⟩ := yt.form
              generalize t.brs[j2] = br at *
              obtain ⟨vs, qs, x⟩ := br
              dsimp only at *
              have HLV : Hid (leftN cur2 (cntN x) = if cur2 - cntN x ≤ 0 then 0 else cur2 - cntN x) := rfl
              generalize leftN cur2 (cntN x) = r at *
              have hjl : (j2 : Int) < t.brs.length := by omega
              have hcur2 : cur2 > 0 := hcur
              clear yc yt
              go_wp2_with (go_at_call 30; (with_reducible refine (HL.out).mono ?_); rintro e w3 ⟨rfl, hx3⟩)
              refine ⟨⟨j2 + 1, r, by omega, by go_num, rfl, ?_, ?_, ?_, HX2.out.tr hx3⟩, by simp [intOf]; omega⟩
              · rw [HLV.out]; split <;> omega
              · rw [HLV.out]; split <;> omega
              · rw [HLV.out]; split <;> omega
            · have HBF : Hid (cur2 = m - cntN t ∨ (cur2 ≤ 0 ∧ m - cntN t ≤ 0)) := by
                show _ ∨ _
                by_cases hlt : j2 < t.brs.length
                · have : cur2 ≤ 0 := by omega
                  right; omega
                · have hje : j2 = t.brs.length := by omega
                  rw [hje, List.take_length] at hd3
                  omega
              have hcb : (t.brs.length ≤ j2 ∧ t.brs.length ≤ j2) ∨ (j2 < t.brs.length ∧ cur2 ≤ 0) := by omega
              clear hd3 hgo hcs
              rcases hcb with ⟨g1, g2⟩ | ⟨g1, g2⟩
              all_goals
                go_wp2
                all_goals
                  go_ret
                  exact ⟨ret_int (by have := HBF.out; unfold leftN; split <;> omega), HE1.out.tr HX2.out⟩
theorem leftN_pos {m : Int} {c : Nat} : (0 < leftN m c) ↔ (c : Int) < m := by unfold leftN; split <;> omega
def fitsN (most : Int) (t : Nd) : Bool := decide ((cntN t : Int) ≤ most)
set_option maxHeartbeats 4000000 in
set_option maxRecDepth 100000 in
theorem fits6_any (k : Nat) (t : Nd) (va vb : Value) (m : Int) (w : World) (ht : RNd w k t va vb) (hb : BN t) (hm1 : 0 ≤ m) (hm2 : m ≤ 1000000) :
    Calls Tryz.prog 11 #[nV t va vb, .int .i64 m] w fun e w' => e = .returned (.bool (fitsN m t)) ∧ Ext w w' := by
  have HL := Lib.hid (fun W (hW : Ext w W) => left_any k t va vb (m + 1) W (ht.below hW) hb (by omega) (by omega))
  obtain ⟨-, ⟨A, c, rfl, -, -⟩, ⟨B, d, rfl, -, -⟩⟩ := ht.form
  have HE1 := Lib.hid (Ext.al w (.cells #[.int .i64 t.op, .int .i64 t.n, .int .i64 t.ty, .slice A t.args.length c, .slice B t.brs.length d] 36))
  have hw1 : IntKind.wrap .i64 (m + 1) = m + 1 := IntWalk.i64_in _ (by omega)
  have HP := Lib.hid (leftN_pos (m := m + 1) (c := cntN t))
  generalize leftN (m + 1) (cntN t) = r at *
  clear ht hb
  go_enter Tryz.func11, Tryz.ntmps11
  go_wp2_with (go_at_call 30; (with_reducible refine (HL.out _ HE1.out).mono ?_); rintro e w3 ⟨rfl, hx3⟩)
  go_ret
  exact ⟨ret_bool (by unfold fitsN; exact decide_eq_decide.2 (by rw [HP.out]; omega)), HE1.out.tr hx3⟩
def fewN (most : Int) (C : Cg) : Bool := decide (C.decls.length ≤ 40) && decide (C.funs.length ≤ 40) && C.funs.all fun f => fitsN most f.body
set_option maxHeartbeats 4000000 in
set_option maxRecDepth 100000 in
theorem few6_any (vd vf : Value) (C : Cg) (m : Int) (w : World) (hC : RCg w vd vf C) (hB : ∀ f ∈ C.funs, BN f.body) (hm1 : 0 ≤ m) (hm2 : m ≤ 1000000) :
    Calls Tryz.prog 6 #[cV vd vf, .int .i64 m] w fun e w' => e = .returned (.bool (fewN m C)) ∧ Ext w w' := by
  have HC := Lib.hid hC; have HB := Lib.hid hB
  obtain ⟨Ad, cd, rfl, -, hmd⟩ := hC.d.form
  obtain ⟨Af, cf, rfl, -, hmf⟩ := hC.f.form
  unfold maxLen at hmd hmf
  have hld : C.decls.length ≤ 9223372036854775807 := by obtain ⟨_, _, e, h1, _⟩ := hC.d.form; cases e; omega
  have hlf : C.funs.length ≤ 9223372036854775807 := by obtain ⟨_, _, e, h1, _⟩ := hC.f.form; cases e; omega
  have HE1 := Lib.hid (Ext.al w (.cells #[.slice Ad C.decls.length cd, .slice Af C.funs.length cf] 25))
  have HB1 := Lib.hid (heapNew w (.cells #[.slice Ad C.decls.length cd, .slice Af C.funs.length cf] 25))
  clear hC hB
  by_cases h1 : C.decls.length ≤ 40
  · by_cases h2 : C.funs.length ≤ 40
    · have HF : Hid (fewN m C = C.funs.all fun f => fitsN m f.body) := by show _ = _; unfold fewN; rw [decide_eq_true h1, decide_eq_true h2]; rfl
      have g1 : ¬ ((40 : Int) < C.decls.length) := by omega
      have g2 : ¬ ((40 : Int) < C.funs.length) := by omega
      go_enter Tryz.func6, Tryz.ntmps6
      go_wp2
      generalize w.alloc _ = w1 at *
      go_loopw [20] (fun i wr => ∃ j : Nat, j ≤ C.funs.length ∧ i = .int .i64 j ∧ (C.funs.all fun f => fitsN m f.body) = ((C.funs.drop j).all fun f => fitsN m f.body) ∧ Ext w1 wr) (fun i _ => C.funs.length - (intOf i).toNat)
      case atStart => exact ⟨0, Nat.zero_le _, rfl, rfl, Ext.rf _⟩
      case round =>
        obtain ⟨j, hj, rfl, hall, hx⟩ := hrel
        have HALL := Lib.hid hall; have HX := Lib.hid hx
        clear hall hx
        by_cases hlt : j < C.funs.length
        · obtain ⟨b, o, vp, vv, xa, xb, k, rfl, hbl, y0, y1, y2, yc, y3, y4, y5, yt⟩ := HC.out.f.at_ hlt
          have HXW : Hid (Ext w wr) := HE1.out.tr HX.out
          have y0 := HXW.out.keep y0
          have y1 := HXW.out.keep y1
          have y2 := HXW.out.keep y2
          obtain ⟨k0, k1, k2, k3, k4⟩ := yc.below HXW.out
          obtain ⟨Ap, cp, rfl, -, -⟩ := y4.form
          obtain ⟨Av, cv, rfl, -, -⟩ := y5.form
          have HST := Lib.hid (all_step (p := fun f : CF => fitsN m f.body) hlt)
          have hFA := fun W (hW : Ext w W) => fits6_any k (C.funs[j]).body xa xb m W (yt.below hW) (HB.out _ (List.getElem_mem hlt)) hm1 hm2
          obtain ⟨-, ⟨Ax, cx, rfl, -, -⟩, ⟨Bx, dx, rfl, -, -⟩⟩ := yt.form
          generalize C.funs[j] = f at *
          clear yt yc y3 y4 y5 hbl
          have HE5 := Lib.hid (Ext.al wr (.cells #[.string f.nm, .slice Ap f.ps.length cp, .slice Av f.vars.length cv, .int .i64 f.body.op, .int .i64 f.body.n, .int .i64 f.body.ty, .slice Ax f.body.args.length cx, .slice Bx f.body.brs.length dx] 53))
          have hn5 := heapNew wr (.cells #[.string f.nm, .slice Ap f.ps.length cp, .slice Av f.vars.length cv, .int .i64 f.body.op, .int .i64 f.body.n, .int .i64 f.body.ty, .slice Ax f.body.args.length cx, .slice Bx f.body.brs.length dx] 53)
          have n3 := cellAt hn5 3
          have n4 := cellAt hn5 4
          have n5 := cellAt hn5 5
          have n6 := cellAt hn5 6
          have n7 := cellAt hn5 7
          obtain ⟨r, hr⟩ : ∃ r, fitsN m f.body = r := ⟨_, rfl⟩
          rw [hr] at hFA HST
          have HFA := Lib.hid hFA
          have hjl : (j : Int) < C.funs.length := by omega
          clear hFA hr hn5
          cases r
          · go_wp2_with (go_at_call 11; (with_reducible refine (HFA.out _ (HXW.out.tr HE5.out)).mono ?_); rintro e w6 ⟨rfl, hx6⟩)
            go_ret
            exact ⟨ret_bool (by rw [HF.out, HALL.out, HST.out]; rfl), HXW.out.tr (HE5.out.tr hx6)⟩
          · go_wp2_with (go_at_call 11; (with_reducible refine (HFA.out _ (HXW.out.tr HE5.out)).mono ?_); rintro e w6 ⟨rfl, hx6⟩)
            exact ⟨⟨j + 1, by omega, by go_num, by rw [HALL.out, HST.out]; rfl, HX.out.tr (HE5.out.tr hx6)⟩, by simp [intOf]; omega⟩
        · have HR : Hid (fewN m C = true) := by show _ = _; rw [HF.out, HALL.out, List.drop_eq_nil_of_le (by omega)]; rfl
          go_wp2
          go_ret
          exact ⟨ret_bool HR.out.symm, HE1.out.tr HX.out⟩
    · have HF : Hid (fewN m C = false) := by show _ = _; unfold fewN; rw [decide_eq_false h2]; simp
      have g1 : ¬ ((40 : Int) < C.decls.length) := by omega
      have g2 : ((40 : Int) < C.funs.length) := by omega
      go_enter Tryz.func6, Tryz.ntmps6
      go_wp2
      go_ret
      exact ⟨ret_bool HF.out.symm, HE1.out⟩
  · have HF : Hid (fewN m C = false) := by show _ = _; unfold fewN; rw [decide_eq_false h1]; simp
    have g1 : ((40 : Int) < C.decls.length) := by omega
    go_enter Tryz.func6, Tryz.ntmps6
    go_wp2
    go_ret
    exact ⟨ret_bool HF.out.symm, HE1.out⟩
end Go.Proofs.YtkdhhcidpklgoaaGreatDoor

/- law.go: the fixed examples of layer 7, as data and in memory. -/
namespace Go.Proofs.YtkdhhcidpklgoaaGreatDoor
open Go.RowKit Go.Shelf
attribute [local go_sem] Oper.semAt_some

theorem box_three (w : World) (a b c : Obj) : (((w.alloc a).alloc b).alloc c).heap[w.heap.size]? = some a ∧ (((w.alloc a).alloc b).alloc c).heap[w.heap.size + 1]? = some b ∧ (((w.alloc a).alloc b).alloc c).heap[w.heap.size + 1 + 1]? = some c := by
  have h1 := heapNew w a
  have h2 := heapNew (w.alloc a) b
  have h3 := heapNew ((w.alloc a).alloc b) c
  simp only [World.size_alloc] at h2 h3
  exact ⟨((Ext.al2 _ _ _).block _ (heap_lt h1)).trans h1, ((Ext.al _ _).block _ (by rw [World.size_alloc, World.size_alloc]; omega)).trans h2, h3⟩
def sMain : ByteArray := ⟨#[109, 97, 105, 110]⟩
def sList : ByteArray := ⟨#[108, 105, 115, 116]⟩
def sNil : ByteArray := ⟨#[78, 105, 108]⟩
def exD : List Decl := [⟨sList, false, [⟨sNil, []⟩]⟩]
def exVar : Nd := .mk 0 0 0 [] []
def exDone : Nd := .mk 14 0 0 [exVar] []
def exMu : Nd := .mk 7 0 0 [exDone] []
def exCut (p : Nd) : Nd := .mk 9 0 0 [p, exMu] []
def exC (p : Nd) : Cg := ⟨exD, [⟨sMain, [], [], exCut p⟩]⟩
def exInt : Nd := .mk 1 3 0 [] []
def exNil : Nd := .mk 2 0 1 [] []
def exX : Nd := .mk 0 4 0 [] []
set_option maxRecDepth 100000
theorem ex_k1 : kindC (exC exInt) = 0 := by kernel_rfl
theorem ex_k2 : kindC (exC exNil) = 70 := by kernel_rfl
theorem ex_t1 : typC (exC exInt) [4, 4] [] [0, 1] [] exX = (1, 0) := by kernel_rfl
theorem ok64_lit {x : Int} (h : (Lit.int .i64 x).wf = true) : ok64 x := h
theorem RNd.leaf (w : World) (k : Nat) (op n ty : Int) (h1 : ok64 op) (h2 : ok64 n) (h3 : ok64 ty) : RNd w (k + 1) (.mk op n ty [] []) (.slice none 0 0) (.slice none 0 0) :=
  ⟨⟨h1, h2, h3⟩, ⟨none, 0, rfl, Nat.le_refl _, Nat.zero_le _, fun i x h => by cases h⟩, ⟨none, 0, rfl, Nat.le_refl _, Nat.zero_le _, fun i x h => by cases h⟩⟩
theorem RNd.one {w : World} {g k : Nat} {op n ty : Int} {a : Nd} {xa xb : Value} (h1 : ok64 op) (h2 : ok64 n) (h3 : ok64 ty)
    (hg : w.heap[g]? = some (.cells #[.int .i64 a.op, .int .i64 a.n, .int .i64 a.ty, xa, xb] 36 (0, 0))) (ha : RNd w k a xa xb) : RNd w (k + 1) (.mk op n ty [a] []) (.slice (some ⟨g, 0, none⟩) 1 1) (.slice none 0 0) :=
  ⟨⟨h1, h2, h3⟩, ⟨some ⟨g, 0, none⟩, 1, rfl, Nat.le_refl _, by decide, fun i x hi => by
    match i, hi with
    | 0, hi => obtain rfl := Option.some.inj hi; exact ⟨g, 0, xa, xb, rfl, heap_lt hg, ⟨cellAt hg 0, cellAt hg 1, cellAt hg 2, cellAt hg 3, cellAt hg 4⟩, ha⟩⟩,
    ⟨none, 0, rfl, Nat.le_refl _, Nat.zero_le _, fun i x h => by cases h⟩⟩
theorem RNd.two {w : World} {g k : Nat} {op n ty : Int} {a b : Nd} {xa xb ya yb : Value} (h1 : ok64 op) (h2 : ok64 n) (h3 : ok64 ty)
    (hg : w.heap[g]? = some (.cells #[.int .i64 a.op, .int .i64 a.n, .int .i64 a.ty, xa, xb, .int .i64 b.op, .int .i64 b.n, .int .i64 b.ty, ya, yb] 36 (0, 0))) (ha : RNd w k a xa xb) (hb : RNd w k b ya yb) :
    RNd w (k + 1) (.mk op n ty [a, b] []) (.slice (some ⟨g, 0, none⟩) 2 2) (.slice none 0 0) :=
  ⟨⟨h1, h2, h3⟩, ⟨some ⟨g, 0, none⟩, 2, rfl, Nat.le_refl _, by decide, fun i x hi => by
    match i, hi with
    | 0, hi => obtain rfl := Option.some.inj hi; exact ⟨g, 0, xa, xb, rfl, heap_lt hg, ⟨cellAt hg 0, cellAt hg 1, cellAt hg 2, cellAt hg 3, cellAt hg 4⟩, ha⟩
    | 1, hi => obtain rfl := Option.some.inj hi; exact ⟨g, 0, ya, yb, rfl, heap_lt hg, ⟨cellAt hg 5, cellAt hg 6, cellAt hg 7, cellAt hg 8, cellAt hg 9⟩, hb⟩⟩,
    ⟨none, 0, rfl, Nat.le_refl _, Nat.zero_le _, fun i x h => by cases h⟩⟩
theorem args_nil (w : World) : RArgs w (.slice none 0 0) [] := ⟨none, 0, rfl, Nat.le_refl _, Nat.zero_le _, fun i x h => by cases h⟩
theorem ex_fun {w : World} {g k : Nat} {t : Nd} {va vb : Value} (hg : w.heap[g]? = some (.cells #[.string sMain, .slice none 0 0, .slice none 0 0, .int .i64 t.op, .int .i64 t.n, .int .i64 t.ty, va, vb] 53 (0, 0))) (ht : RNd w k t va vb) : RCFs w (.slice (some ⟨g, 0, none⟩) 1 1) [⟨sMain, [], [], t⟩] :=
  ⟨_, 1, rfl, Nat.le_refl _, by decide, fun i f hi => by
    match i, hi with
    | 0, hi =>
      obtain rfl := Option.some.inj hi
      exact ⟨_, 0, _, _, _, _, k, rfl, heap_lt hg, cellAt hg 0, cellAt hg 1, cellAt hg 2, ⟨cellAt hg 3, cellAt hg 4, cellAt hg 5, cellAt hg 6, cellAt hg 7⟩, by show sMain.size ≤ maxLen; decide, args_nil _, RInts.nil _, ht⟩⟩
theorem ex_decl {w : World} {g h : Nat} (hg : w.heap[g]? = some (.cells #[.string sNil, .slice none 0 0] 55 (0, 0))) (hh : w.heap[h]? = some (.cells #[.string sList, .bool false, .slice (some ⟨g, 0, none⟩) 1 1] 58 (0, 0))) : RDecls w (.slice (some ⟨h, 0, none⟩) 1 1) exD :=
  ⟨_, 1, rfl, Nat.le_refl _, by decide, fun i f hi => by
    match i, hi with
    | 0, hi =>
      obtain rfl := Option.some.inj hi
      exact ⟨_, 0, _, rfl, heap_lt hh, cellAt hh 0, cellAt hh 1, cellAt hh 2, ⟨_, 1, rfl, Nat.le_refl _, by decide, fun i f hi => by
        match i, hi with
        | 0, hi =>
          obtain rfl := Option.some.inj hi
          exact ⟨_, 0, _, rfl, heap_lt hg, cellAt hg 0, cellAt hg 1, args_nil _, by show sNil.size ≤ maxLen; decide⟩⟩, by show sList.size ≤ maxLen; decide⟩⟩
theorem ex_sh (p : Nd) : ShC (exC p) where
  dl := by show 1 ≤ 1048576; decide
  fl := by show 1 ≤ 1048576; decide
  xt := fun d hd => by
    have : d = ⟨sList, false, [⟨sNil, []⟩]⟩ := by simpa [exC, exD] using hd
    subst this
    refine ⟨by decide, fun x hx => ?_⟩
    have : x = ⟨sNil, []⟩ := by simpa using hx
    subst this
    exact ⟨by decide, fun a ha => by cases ha⟩
  fn := fun f hf => by
    have : f = ⟨sMain, [], [], exCut p⟩ := by simpa [exC] using hf
    subst this
    exact ⟨Nat.zero_le _, Nat.zero_le _, fun a ha => by cases ha⟩
theorem ex_bn (p : Nd) (h : bndN p ≤ 10 ∧ cntN p ≤ 10) : ∀ f ∈ (exC p).funs, BN f.body := fun f hf => by
  have : f = ⟨sMain, [], [], exCut p⟩ := by simpa [exC] using hf
  subst this
  refine ⟨?_, ?_⟩
  · show bndN (exCut p) ≤ _
    have : bndN (exCut p) = 1 + (bndN p + 3) := by simp [exCut, exMu, exDone, exVar, bndN, bndA, bndB]
    omega
  · show cntN (exCut p) ≤ _
    have : cntN (exCut p) = 1 + (cntN p + 3) := by simp [exCut, exMu, exDone, exVar, cntN, cntA, cntB]
    omega
theorem box_four (w : World) (a b c d : Obj) : ((((w.alloc a).alloc b).alloc c).alloc d).heap[w.heap.size]? = some a ∧ ((((w.alloc a).alloc b).alloc c).alloc d).heap[w.heap.size + 1]? = some b ∧ ((((w.alloc a).alloc b).alloc c).alloc d).heap[w.heap.size + 2]? = some c ∧ ((((w.alloc a).alloc b).alloc c).alloc d).heap[w.heap.size + 2 + 1]? = some d ∧ Ext w ((((w.alloc a).alloc b).alloc c).alloc d) := by
  obtain ⟨h1, h2, h3⟩ := box_three w a b c
  have h4 := heapNew (((w.alloc a).alloc b).alloc c) d
  simp only [World.size_alloc] at h4
  have e : Ext (((w.alloc a).alloc b).alloc c) ((((w.alloc a).alloc b).alloc c).alloc d) := Ext.al _ _
  exact ⟨e.lt h1, e.lt h2, e.lt h3, h4, ((Ext.al2 _ _ _).tr (Ext.al _ _)).tr e⟩
set_option maxHeartbeats 4000000 in
theorem cut_any (p : Nd) (va vb : Value) (w : World) (k : Nat) (bl bd hl ga gd : Nat) (h : RNd w k p va vb) (hd : RNd w k exMu (.slice (some ⟨gd, 0, none⟩) 1 1) (.slice none 0 0)) (hL : RDecls w (.slice (some ⟨hl, 0, none⟩) 1 1) exD)
    (h1 : w.heap[bl]? = some (.cells #[.slice (some ⟨hl, 0, none⟩) 1 1] 22 (0, 0))) (h2 : w.heap[bd]? = some (.cells #[.int .i64 7, .int .i64 0, .int .i64 0, .slice (some ⟨gd, 0, none⟩) 1 1, .slice none 0 0] 36 (0, 0))) :
    Calls Tryz.prog 19 #[nV p va vb, .pointer (some ⟨bl, 0, none⟩), .pointer (some ⟨bd, 0, none⟩)] w fun e w' => ∃ g, e = .returned (cV (.slice (some ⟨hl, 0, none⟩) 1 1) (.slice (some ⟨g, 0, none⟩) 1 1)) ∧ RCg w' (.slice (some ⟨hl, 0, none⟩) 1 1) (.slice (some ⟨g, 0, none⟩) 1 1) (exC p) ∧ Ext w w' := by
  have H := Lib.hid h; have HD := Lib.hid hd; have HL := Lib.hid hL
  obtain ⟨-, ⟨Ax, cx, rfl, -, -⟩, ⟨Bx, dx, rfl, -, -⟩⟩ := h.form
  have HE2 := Lib.hid (Ext.al2 w (.cells #[.int .i64 p.op, .int .i64 p.n, .int .i64 p.ty, .slice Ax p.args.length cx, .slice Bx p.brs.length dx] 36) (.cells #[.slice none 0 0, .slice none 0 0] 25))
  have HB1 := Lib.hid (Ext.lt (Ext.al (w.alloc (.cells #[.int .i64 p.op, .int .i64 p.n, .int .i64 p.ty, .slice Ax p.args.length cx, .slice Bx p.brs.length dx] 36)) (.cells #[.slice none 0 0, .slice none 0 0] 25)) (heapNew w (.cells #[.int .i64 p.op, .int .i64 p.n, .int .i64 p.ty, .slice Ax p.args.length cx, .slice Bx p.brs.length dx] 36)))
  have HB2 := Lib.hid (heapNew2 w (.cells #[.int .i64 p.op, .int .i64 p.n, .int .i64 p.ty, .slice Ax p.args.length cx, .slice Bx p.brs.length dx] 36) (.cells #[.slice none 0 0, .slice none 0 0] 25))
  have hz2 : ((w.alloc (.cells #[.int .i64 p.op, .int .i64 p.n, .int .i64 p.ty, .slice Ax p.args.length cx, .slice Bx p.brs.length dx] 36)).alloc (.cells #[.slice none 0 0, .slice none 0 0] 25)).heap.size = w.heap.size + 2 := by simp
  have H1 := Lib.hid (HE2.out.lt h1); have H2 := Lib.hid (HE2.out.lt h2)
  clear h hd hL h1 h2
  have c0 := cellAt H1.out 0
  have d0 := cellAt H2.out 0
  have d1 := cellAt H2.out 1
  have d2 := cellAt H2.out 2
  have d3 := cellAt H2.out 3
  have d4 := cellAt H2.out 4
  have p0 := cellAt HB1.out 0
  have p1 := cellAt HB1.out 1
  have p2 := cellAt HB1.out 2
  have p3 := cellAt HB1.out 3
  have p4 := cellAt HB1.out 4
  go_enter Tryz.func19, Tryz.ntmps19
  go_wp2
  obtain ⟨-, g2, g3, g4, g5⟩ := box_four w (.cells #[.int .i64 p.op, .int .i64 p.n, .int .i64 p.ty, .slice Ax p.args.length cx, .slice Bx p.brs.length dx] 36) (.cells #[.slice (some ⟨hl, 0, none⟩) 1 1, .slice (some ⟨w.heap.size + 2 + 1, 0, none⟩) 1 1] 25) (.cells #[.int .i64 p.op, .int .i64 p.n, .int .i64 p.ty, .slice Ax p.args.length cx, .slice Bx p.brs.length dx, .int .i64 7, .int .i64 0, .int .i64 0, .slice (some ⟨gd, 0, none⟩) 1 1, .slice none 0 0] 36) (.cells #[.string ⟨#[109, 97, 105, 110]⟩, .slice none 0 0, .slice none 0 0, .int .i64 9, .int .i64 0, .int .i64 0, .slice (some ⟨w.heap.size + 2, 0, none⟩) 2 2, .slice none 0 0] 53)
  clear hz2 HE2 HB1 HB2 H1 H2 c0 d0 d1 d2 d3 d4 p0 p1 p2 p3 p4
  generalize World.alloc (World.alloc (World.alloc (World.alloc w _) _) _) _ = w4 at *
  have q0 := cellAt g2 0
  have q1 := cellAt g2 1
  exact bodyPost_ret (v := cV (.slice (some ⟨hl, 0, none⟩) 1 1) (.slice (some ⟨w.heap.size + 2 + 1, 0, none⟩) 1 1)) (by simp [results, Tryz.results19, go_sem, q0, q1]) rfl ⟨_, rfl, ⟨HL.out.below g5, ex_fun (t := exCut p) g4 (RNd.two (ok64_lit (by decide)) (ok64_lit (by decide)) (ok64_lit (by decide)) (a := p) (b := exMu) g3 (H.out.below g5) (HD.out.below g5))⟩, g5⟩
end Go.Proofs.YtkdhhcidpklgoaaGreatDoor
