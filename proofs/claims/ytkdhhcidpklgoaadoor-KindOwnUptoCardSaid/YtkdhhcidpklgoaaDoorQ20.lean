/- kind: Type. -/
import Derived.Test.YtkdhhcidpklgoaaDoorQ19
import Derived.Orders
import Derived.RegionTactic
namespace Go.Proofs.YtkdhhcidpklgoaaDoor
open Go.RowKit Go.Shelf
attribute [local go_sem] Oper.semAt_some

theorem apart_nil (u : Value) : apart (fun _ => nilS) u := fun A n c b o _ _ hr => by obtain ⟨v, hv⟩ := hr; cases hv
theorem varsOf_sort {s : Int} (hs : s = 0 ∨ s = 1) (l : List Int) : ∀ x ∈ varsOf s l, x.1 = 0 ∨ x.1 = 1 := fun x hx => by
  unfold varsOf at hx
  obtain ⟨a, _, rfl⟩ := List.mem_map.1 hx
  exact hs
theorem varsOf_len (s : Int) (l : List Int) : (varsOf s l).length = l.length := by unfold varsOf; rw [List.length_map]
abbrev tysV (vt vu : Value) : Value := .agg #[vt, vu]
set_option maxHeartbeats 16000000 in
set_option maxRecDepth 100000 in
theorem kindType_any (vd vf vx va vt vu xa xb : Value) (C : Cg) (xs ys tx ta : List Int) (t : Nd) (k : Nat) (w : World) (hC : RCg w vd vf C) (hS : ShC C) (htab : Tabs w) (hB : ∀ f ∈ C.funs, BN f.body) (hx : RInts w vx xs) (ha : RInts w va ys) (ht : RInts w vt tx) (hu : RInts w vu ta) (hn : RNd w k t xa xb) (hb : BN t) (hl1 : xs.length + ys.length ≤ 1048576) (hl2 : tx.length + ta.length ≤ 1048576) :
    Calls Tryd.prog 10 #[cV vd vf, vx, va, tysV vt vu, nV t xa xb] w fun e w' => e = .returned (.tuple #[.int .i64 (typC C xs ys tx ta t).1, .int .i64 (typC C xs ys tx ta t).2]) ∧ Ext w w' := by
  have HCK := Lib.hid (fun w' (h : Ext w w') => coreCheck_any vd vf C w' (hC.below h) hS (htab.ext h) hB)
  have HNC := Lib.hid (fun w' (h : Ext w w') => newChecker_any vd vf C w' (hC.below h))
  have HVX := Lib.hid (fun w' (h : Ext w w') => variables_any 0 ok_lit0 vx xs w' (hx.below h) (by omega))
  have HVA := Lib.hid (fun w' (h : Ext w w') => variables_any 1 ok_lit1 va ys w' (ha.below h) (by omega))
  have HCV := Lib.hid (fun (u1 u2 : Value) (b : Nat) (w' : World) (h1 : RVrs w' u1 (varsOf 0 xs)) (h2 : RVrs w' u2 (varsOf 1 ys)) (c0 : w'.cell? ⟨b, 0, none⟩ = some u1) (c1 : w'.cell? ⟨b, 1, none⟩ = some u2) => concatV_any u1 u2 (varsOf 0 xs) (varsOf 1 ys) b w' h1 h2 c0 c1 (by rw [varsOf_len, varsOf_len]; exact hl1))
  have HCI := Lib.hid (fun (b : Nat) (w' : World) (h : Ext w w') (c0 : w'.cell? ⟨b, 0, none⟩ = some vt) (c1 : w'.cell? ⟨b, 1, none⟩ = some vu) => concatI_any vt vu tx ta b w' (ht.below h) (hu.below h) c0 c1 hl2)
  have HAT := Lib.hid (fun (u : Value) (w' : World) (h : Ext w w') (hr : RInts w' u (tx ++ ta)) => areTypes_any vd vf u C (tx ++ ta) w' (hC.below h) hr (by rw [List.length_append]; exact hl2))
  have HIV := Lib.hid (fun (u : Value) (w' : World) (h : Ext w w') (hr : RVrs w' u (varsOf 0 xs ++ varsOf 1 ys)) => isValid_any vd vf C k t xa xb u (varsOf 0 xs ++ varsOf 1 ys) w' (hC.below h) hS (htab.ext h) (hn.below h) hb hr (by rw [List.length_append, varsOf_len, varsOf_len]; exact hl1))
  have HTY := Lib.hid (fun (wA : World) (base mx mc : Nat) (h : Ext w wA) (h1 : wA.heap.size ≤ mx) (h2 : wA.heap.size ≤ mc) (h3 : wA.heap.size ≤ base) => typ_all vd vf C wA base mx mc (hC.below h) hS (htab.ext h) h1 h2 h3 k t xa xb (hn.below h) hb)
  have hbb := hb.b
  obtain ⟨Ad, cd, rfl, -, -⟩ := hC.d.form
  obtain ⟨Af, cf, rfl, -, -⟩ := hC.f.form
  obtain ⟨-, ⟨Ax, cx, rfl, -, -⟩, ⟨Bx, dx, rfl, -, -⟩⟩ := hn.form
  obtain ⟨A1, c1, rfl, -, -⟩ := hx.form
  obtain ⟨A2, c2, rfl, -, -⟩ := ha.form
  obtain ⟨A3, c3, rfl, -, -⟩ := ht.form
  obtain ⟨A4, c4, rfl, -, -⟩ := hu.form
  obtain ⟨w3, hw3⟩ : ∃ w3, w3 = ((w.alloc (.cells #[.slice Ad C.decls.length cd, .slice Af C.funs.length cf] 25)).alloc (.cells #[.slice A3 tx.length c3, .slice A4 ta.length c4] 27)).alloc (.cells #[.int .i64 t.op, .int .i64 t.n, .int .i64 t.ty, .slice Ax t.args.length cx, .slice Bx t.brs.length dx] 31) := ⟨_, rfl⟩
  have HE3 : Hid (Ext w w3) := by show Ext w w3; rw [hw3]; exact ((Ext.al _ _).tr (Ext.al _ _)).tr (Ext.al _ _)
  have HB1 : Hid (w3.heap[w.heap.size]? = some (.cells #[.slice Ad C.decls.length cd, .slice Af C.funs.length cf] 25 (0, 0))) := by show _ = _; rw [hw3]; exact Ext.lt (Ext.al2 _ _ _) (heapNew w _)
  have HB2 : Hid (w3.heap[w.heap.size + 1]? = some (.cells #[.slice A3 tx.length c3, .slice A4 ta.length c4] 27 (0, 0))) := by show _ = _; rw [hw3]; exact Ext.lt (Ext.al _ _) (heapNew2 w _ _)
  have HB3 : Hid (w3.heap[w.heap.size + 1 + 1]? = some (.cells #[.int .i64 t.op, .int .i64 t.n, .int .i64 t.ty, .slice Ax t.args.length cx, .slice Bx t.brs.length dx] 31 (0, 0))) := by show _ = _; rw [hw3]; exact heapNew3 w _ _ _
  clear hC hS htab hB hx ha ht hu hn hb
  cases hcb : coreB C
  · have HK : Hid (typC C xs ys tx ta t = (0, 60)) := by show _ = _; unfold typC; rw [hcb]; rfl
    have HK2 : Hid (∀ w', Ext w w' → Calls Tryd.prog 17 #[cV (.slice Ad C.decls.length cd) (.slice Af C.funs.length cf)] w' fun e w'' => e = .returned (.int .i64 60) ∧ Ext w' w'') := fun w' h => by
      have := HCK.out w' h
      unfold chkC at this
      rw [hcb] at this
      exact this
    clear hcb
    go_enter Tryd.func10, Tryd.ntmps10
    go_wp2_with fail
    rw [← hw3]
    have a0 := cellAt HB1.out 0
    refine (HK2.out _ HE3.out).mono ?_
    rintro e w4 ⟨rfl, hx4⟩
    go_wp2
    exact bodyPost_ret (v := .tuple #[.int .i64 0, .int .i64 60]) (by simp [results, Tryd.results10, go_sem]) rfl ⟨by rw [HK.out], HE3.out.tr hx4⟩
  · obtain ⟨o, ho⟩ : ∃ o, typN C (pushE (fun _ => []) (varsOf 0 xs ++ varsOf 1 ys) (tx ++ ta)) t = o := ⟨_, rfl⟩
    have HOO := Lib.hid ho
    have HK : Hid (typC C xs ys tx ta t = if askC C xs ys tx ta t then (o.getD 0, if o.isSome then 0 else 70) else (0, 1)) := by
      show _ = _; unfold typC; rw [hcb, ho]
      cases o <;> rfl
    clear ho
    have HK2 : Hid (∀ w', Ext w w' → Calls Tryd.prog 17 #[cV (.slice Ad C.decls.length cd) (.slice Af C.funs.length cf)] w' fun e w'' => e = .returned (.int .i64 0) ∧ Ext w' w'') := fun w' h => by
      have := HCK.out w' h
      unfold chkC at this
      rw [hcb] at this
      exact this
    clear hcb
    have HBX : Hid (∀ W, Ext w3 W → (W.cell? ⟨w.heap.size, 0, none⟩ = some (.slice Ad C.decls.length cd) ∧ W.cell? ⟨w.heap.size, 1, none⟩ = some (.slice Af C.funs.length cf)) ∧ (W.cell? ⟨w.heap.size + 1, 0, none⟩ = some (.slice A3 tx.length c3) ∧ W.cell? ⟨w.heap.size + 1, 1, none⟩ = some (.slice A4 ta.length c4))) := fun W h => ⟨⟨cellAt (h.lt HB1.out) 0, cellAt (h.lt HB1.out) 1⟩, cellAt (h.lt HB2.out) 0, cellAt (h.lt HB2.out) 1⟩
    have HBN : Hid (∀ W, Ext w3 W → W.cell? ⟨w.heap.size + 1 + 1, 0, none⟩ = some (.int .i64 t.op) ∧ W.cell? ⟨w.heap.size + 1 + 1, 1, none⟩ = some (.int .i64 t.n) ∧ W.cell? ⟨w.heap.size + 1 + 1, 2, none⟩ = some (.int .i64 t.ty) ∧ W.cell? ⟨w.heap.size + 1 + 1, 3, none⟩ = some (.slice Ax t.args.length cx) ∧ W.cell? ⟨w.heap.size + 1 + 1, 4, none⟩ = some (.slice Bx t.brs.length dx)) := fun W h => ⟨cellAt (h.lt HB3.out) 0, cellAt (h.lt HB3.out) 1, cellAt (h.lt HB3.out) 2, cellAt (h.lt HB3.out) 3, cellAt (h.lt HB3.out) 4⟩
    by_cases hxl : xs.length = tx.length
    · by_cases hyl : ys.length = ta.length
      · obtain ⟨rt, hrt⟩ : ∃ rt, typesOK C (tx ++ ta) = rt := ⟨_, rfl⟩
        obtain ⟨rv, hrv⟩ : ∃ rv, ((sizeC 30000 4000 t).2 && !decide (sortN C (addS (fun _ => false) (varsOf 0 xs ++ varsOf 1 ys)) t = 3)) = rv := ⟨_, rfl⟩
        have HASK : Hid (askC C xs ys tx ta t = (rt && rv)) := by
          show _ = _; unfold askC
          rw [decide_eq_true hxl, decide_eq_true hyl, hrt, hrv]; rfl
        have HSO : Hid (rv = true → sortN C (addS (fun _ => false) (varsOf 0 xs ++ varsOf 1 ys)) t ≠ 3) := fun h => by
          rw [h, Bool.and_eq_true] at hrv
          have := hrv.2
          simpa using this
        rw [hrt] at HAT
        rw [hrv] at HIV
        have hxi : (xs.length : Int) = (tx.length : Int) := by omega
        have hyi : (ys.length : Int) = (ta.length : Int) := by omega
        have HXL := Lib.hid hxl; have HYL := Lib.hid hyl
        clear hrt hrv hxl hyl
        go_enter Tryd.func10, Tryd.ntmps10
        go_wp2_with fail
        rw [← hw3]
        have a0 := cellAt HB1.out 0
        refine (HK2.out _ HE3.out).mono ?_
        rintro e w4 ⟨rfl, hx4⟩
        have HX4 := Lib.hid hx4
        obtain ⟨⟨p0, p1⟩, q0, q1⟩ := HBX.out _ hx4
        clear hx4
        go_wp2_with fail
        refine (HVX.out _ (HE3.out.tr HX4.out)).mono ?_
        rintro e w5 ⟨⟨u5, rfl, hu5⟩, hx5⟩
        obtain ⟨Au5, cu5, rfl, -, -⟩ := hu5.form
        have HX5 := Lib.hid (HX4.out.tr hx5)
        have HU5 := Lib.hid hu5
        clear p0 p1 q0 q1 hx5 hu5
        go_wp2_with fail
        refine (HVA.out _ (HE3.out.tr HX5.out)).mono ?_
        rintro e w6 ⟨⟨u6, rfl, hu6⟩, hx6⟩
        obtain ⟨Au6, cu6, rfl, -, -⟩ := hu6.form
        have HU56 := Lib.hid (HU5.out.below hx6)
        have HX6 := Lib.hid (HX5.out.tr hx6)
        have HU6 := Lib.hid hu6
        clear hx6 hu6
        have hr7 := heapNew w6 (.cells #[.slice Au5 (varsOf 0 xs).length cu5, .slice Au6 (varsOf 1 ys).length cu6] 66)
        have HX7 := Lib.hid (Ext.al w6 (.cells #[.slice Au5 (varsOf 0 xs).length cu5, .slice Au6 (varsOf 1 ys).length cu6] 66))
        have HC7 := Lib.hid (HCV.out _ _ w6.heap.size (w6.alloc (.cells #[.slice Au5 (varsOf 0 xs).length cu5, .slice Au6 (varsOf 1 ys).length cu6] 66)) (HU56.out.below HX7.out) (HU6.out.below HX7.out) (cellAt hr7 0) (cellAt hr7 1))
        clear hr7
        go_wp2_with fail
        refine (HC7.out).mono ?_
        rintro e w8 ⟨⟨u8, rfl, hu8⟩, hx8⟩
        obtain ⟨L, hL⟩ : ∃ L, varsOf 0 xs ++ varsOf 1 ys = L := ⟨_, rfl⟩
        have HL := Lib.hid hL
        have HLL : Hid (L.length = tx.length + ta.length) := by show _ = _; rw [← hL, List.length_append, varsOf_len, varsOf_len, HXL.out, HYL.out]
        have hLs : ∀ x ∈ L, x.1 = 0 ∨ x.1 = 1 := fun x hx => by
          rw [← hL] at hx
          rcases List.mem_append.1 hx with h | h
          · exact varsOf_sort (.inl rfl) _ x h
          · exact varsOf_sort (.inr rfl) _ x h
        have HLS := Lib.hid hLs
        rw [hL] at hu8 HSO HOO HIV
        clear hL hLs
        obtain ⟨Au8, cu8, rfl, -, -⟩ := hu8.form
        have HX8 := Lib.hid ((HX6.out.tr HX7.out).tr hx8)
        have HU8 := Lib.hid hu8
        obtain ⟨-, q0, q1⟩ := HBX.out _ HX8.out
        have hr9 := heapNew w8 (.cells #[.slice A3 tx.length c3, .slice A4 ta.length c4] 26)
        have HX9 := Lib.hid (Ext.al w8 (.cells #[.slice A3 tx.length c3, .slice A4 ta.length c4] 26))
        have HC9 := Lib.hid (HCI.out w8.heap.size (w8.alloc (.cells #[.slice A3 tx.length c3, .slice A4 ta.length c4] 26)) ((HE3.out.tr HX8.out).tr HX9.out) (cellAt hr9 0) (cellAt hr9 1))
        clear hr9 hx8 hu8
        go_wp2_with fail
        refine (HC9.out).mono ?_
        rintro e w10 ⟨⟨u10, rfl, hu10⟩, hx10⟩
        obtain ⟨K, hK⟩ : ∃ K, tx ++ ta = K := ⟨_, rfl⟩
        have HKL : Hid (L.length = K.length) := by show _ = _; rw [← hK, List.length_append]; exact HLL.out
        rw [hK] at hu10 HAT HOO
        clear hK
        obtain ⟨Au10, cu10, rfl, -, -⟩ := hu10.form
        have HX10 := Lib.hid ((HX8.out.tr HX9.out).tr hx10)
        have HU10 := Lib.hid hu10
        have HU810 := Lib.hid ((HU8.out.below HX9.out).below hx10)
        clear q0 q1 hu10 hx10
        obtain ⟨⟨p0, p1⟩, -, -⟩ := HBX.out _ HX10.out
        have HA10 := Lib.hid (HAT.out _ w10 (HE3.out.tr HX10.out) HU10.out)
        have HNO : Hid (rt = false ∨ rv = false → typC C xs ys tx ta t = (0, 1)) := fun h => by
          rw [HK.out, HASK.out]; rcases h with rfl | rfl <;> simp
        cases rt
        · go_wp2_with (go_at_call 23; (with_reducible refine (HA10.out).mono ?_); rintro e w11 ⟨rfl, hx11⟩)
          exact bodyPost_ret (v := .tuple #[.int .i64 0, .int .i64 1]) (by simp [results, Tryd.results10, go_sem]) rfl ⟨by rw [HNO.out (by simp)], (HE3.out.tr HX10.out).tr hx11⟩
        · cases rv
          · go_wp2_with (first
              | (go_at_call 23; (with_reducible refine (HA10.out).mono ?_); rintro e w11 ⟨rfl, hx11⟩; have HX11 := Lib.hid (HX10.out.tr hx11); have HU811 := Lib.hid (HU810.out.below hx11); clear p0 p1 hx11; obtain ⟨⟨p0, p1⟩, -, -⟩ := HBX.out _ HX11.out; obtain ⟨n0, n1, n2, n3, n4⟩ := HBN.out _ HX11.out)
              | (go_at_call 24; (with_reducible refine (HIV.out _ _ (HE3.out.tr HX11.out) HU811.out).mono ?_); rintro e w12 ⟨rfl, hx12⟩))
            exact bodyPost_ret (v := .tuple #[.int .i64 0, .int .i64 1]) (by simp [results, Tryd.results10, go_sem]) rfl ⟨by rw [HNO.out (by simp)], (HE3.out.tr HX11.out).tr hx12⟩
          · have HYES : Hid (typC C xs ys tx ta t = (o.getD 0, if o.isSome then 0 else 70)) := by show _ = _; rw [HK.out, HASK.out]; rfl
            go_wp2_with (first
              | (go_at_call 23; (with_reducible refine (HA10.out).mono ?_); rintro e w11 ⟨rfl, hx11⟩; have HX11 := Lib.hid (HX10.out.tr hx11); have HU811 := Lib.hid (HU810.out.below hx11); have HU1011 := Lib.hid (HU10.out.below hx11); clear p0 p1 hx11; obtain ⟨⟨p0, p1⟩, -, -⟩ := HBX.out _ HX11.out; obtain ⟨n0, n1, n2, n3, n4⟩ := HBN.out _ HX11.out)
              | (go_at_call 24; (with_reducible refine (HIV.out _ _ (HE3.out.tr HX11.out) HU811.out).mono ?_); rintro e w12 ⟨rfl, hx12⟩; have HX12 := Lib.hid (HX11.out.tr hx12); have HU812 := Lib.hid (HU811.out.below hx12); have HU1012 := Lib.hid (HU1011.out.below hx12); clear p0 p1 n0 n1 n2 n3 n4 hx12; obtain ⟨⟨p0, p1⟩, -, -⟩ := HBX.out _ HX12.out)
              | (go_at_call 18; fail))
            have HXA : Hid (Ext w w12) := HE3.out.tr HX12.out
            refine (HNC.out _ HXA.out).mono ?_
            rintro e w13 ⟨mx, mc, rfl, hs13, hx13, hm1, hm2⟩
            have hz13 := hx13.size
            have HX13 := Lib.hid hx13
            have HXC := Lib.hid (Ext.al w13 (.cells #[.slice Ad C.decls.length cd, .slice Af C.funs.length cf, .map (some mx), .map (some mc)] 63))
            have HBC := Lib.hid (heapNew w13 (.cells #[.slice Ad C.decls.length cd, .slice Af C.funs.length cf, .map (some mx), .map (some mc)] 63))
            have HS14 : Hid (SCX (w13.alloc (.cells #[.slice Ad C.decls.length cd, .slice Af C.funs.length cf, .map (some mx), .map (some mc)] 63)) w13.heap.size mx mc 0 (fun _ => nilS) (fun _ => [])) := hs13.ext HXC.out
            have hz14 : (w13.alloc (.cells #[.slice Ad C.decls.length cd, .slice Af C.funs.length cf, .map (some mx), .map (some mc)] 63)).heap.size = w13.heap.size + 1 := by simp
            have HU814 := Lib.hid ((HU812.out.below hx13).below HXC.out)
            have HU1014 := Lib.hid ((HU1012.out.below hx13).below HXC.out)
            have hln : L.length ≤ 1048576 := by rw [← HL.out, List.length_append, varsOf_len, varsOf_len]; exact hl1
            have k2 := cellAt HBC.out 2
            have k3 := cellAt HBC.out 3
            have HBI := Lib.hid (bind_any (w13.alloc (.cells #[.slice Ad C.decls.length cd, .slice Af C.funs.length cf, .map (some mx), .map (some mc)] 63)) w13.heap.size mx mc 0 (fun _ => nilS) (fun _ => []) _ _ L K HS14.out (by omega) HU814.out HU1014.out (by rw [HKL.out]; exact Nat.le_refl _) (by omega) (fun _ => Nat.le_refl _) HLS.out hln (apart_nil _) (apart_nil _))
            clear p0 p1 hs13 hx13
            go_wp2_with fail
            refine (HBI.out).mono ?_
            rintro e w15 ⟨rfl, -, -, g15, hs15, ht15⟩
            have HT15 := Lib.hid ht15
            have hq := ht15.box HS14.out HBC.out tck_ne
            have HX14 : Hid (Ext w12 (w13.alloc (.cells #[.slice Ad C.decls.length cd, .slice Af C.funs.length cf, .map (some mx), .map (some mc)] 63))) := HX13.out.tr HXC.out
            have hxk := ht15.keeps HS14.out HX14.out hm1 hm2 hz13
            obtain ⟨n0, n1, n2, n3, n4⟩ := HBN.out _ (HX12.out.tr hxk)
            have HTP := Lib.hid (HTY.out w12 w13.heap.size mx mc HXA.out hm1 hm2 hz13 w15 (0 + L.length) g15 (pushE (fun _ => []) L K) (addS (fun _ => false) L) hxk (by have := ht15.only.size; omega) hs15 (EvIn.none.push (by rw [HKL.out]; exact Nat.le_refl _)) (push_len (fun _ => Nat.zero_le _) (by rw [HKL.out]; exact Nat.le_refl _)) (HSO.out (by simp)) (by omega))
            rw [HOO.out] at HTP
            have HS15 := Lib.hid hs15
            have r0 := cellAt hq 0
            have r1 := cellAt hq 1
            have r2 := cellAt hq 2
            have r3 := cellAt hq 3
            clear k2 k3 hq hs15 ht15 hxk
            have HEND : Hid (∀ W g', Tr mx mc g15 g' w15 W → Ext w W) := fun W g' h => HXA.out.tr ((HT15.out.tr h).keeps HS14.out HX14.out hm1 hm2 hz13)
            cases o with
            | none =>
              have HTP2 : Hid (Calls Tryd.prog 26 #[ckV (.slice Ad C.decls.length cd) (.slice Af C.funs.length cf) mx mc, nV t (.slice Ax t.args.length cx) (.slice Bx t.brs.length dx)] w15 fun e w' => e = .returned (.tuple #[.int .i64 0, .bool false]) ∧ ∃ g', SCX w' w13.heap.size mx mc (0 + L.length + 2 * bndN t) g' (pushE (fun _ => []) L K) ∧ Tr mx mc g15 g' w15 w') := HTP.out
              go_wp2_with (go_at_call 26; (with_reducible refine (HTP2.out).mono ?_); rintro e w16 ⟨rfl, g16, -, ht16⟩)
              exact bodyPost_ret (v := .tuple #[.int .i64 0, .int .i64 70]) (by simp [results, Tryd.results10, go_sem]) rfl ⟨by rw [HYES.out]; rfl, HEND.out _ _ ht16⟩
            | some T =>
              have HTP2 : Hid (Calls Tryd.prog 26 #[ckV (.slice Ad C.decls.length cd) (.slice Af C.funs.length cf) mx mc, nV t (.slice Ax t.args.length cx) (.slice Bx t.brs.length dx)] w15 fun e w' => e = .returned (.tuple #[.int .i64 T, .bool true]) ∧ ∃ g', SCX w' w13.heap.size mx mc (0 + L.length + 2 * bndN t) g' (pushE (fun _ => []) L K) ∧ Tr mx mc g15 g' w15 w') := HTP.out
              go_wp2_with (go_at_call 26; (with_reducible refine (HTP2.out).mono ?_); rintro e w16 ⟨rfl, g16, -, ht16⟩)
              exact bodyPost_ret (v := .tuple #[.int .i64 T, .int .i64 0]) (by simp [results, Tryd.results10, go_sem]) rfl ⟨by rw [HYES.out]; rfl, HEND.out _ _ ht16⟩
      · have HNO : Hid (typC C xs ys tx ta t = (0, 1)) := by
          show _ = _; rw [HK.out]
          unfold askC
          rw [decide_eq_false hyl]; simp
        have HYL : Hid (¬ (ys.length = ta.length)) := hyl
        have hyi : ¬ ((ys.length : Int) = (ta.length : Int)) := by omega
        clear hyl
        have hxi : (xs.length : Int) = (tx.length : Int) := by omega
        clear hxl
        go_enter Tryd.func10, Tryd.ntmps10
        go_wp2_with fail
        rw [← hw3]
        have a0 := cellAt HB1.out 0
        refine (HK2.out _ HE3.out).mono ?_
        rintro e w4 ⟨rfl, hx4⟩
        obtain ⟨⟨p0, p1⟩, q0, q1⟩ := HBX.out _ hx4
        go_wp2
        exact bodyPost_ret (v := .tuple #[.int .i64 0, .int .i64 1]) (by simp [results, Tryd.results10, go_sem]) rfl ⟨by rw [HNO.out], HE3.out.tr hx4⟩
    · have HNO : Hid (typC C xs ys tx ta t = (0, 1)) := by
        show _ = _; rw [HK.out]
        unfold askC
        rw [decide_eq_false hxl]; simp
      have hxi : ¬ ((xs.length : Int) = (tx.length : Int)) := by omega
      clear hxl
      go_enter Tryd.func10, Tryd.ntmps10
      go_wp2_with fail
      rw [← hw3]
      have a0 := cellAt HB1.out 0
      refine (HK2.out _ HE3.out).mono ?_
      rintro e w4 ⟨rfl, hx4⟩
      obtain ⟨⟨p0, p1⟩, q0, q1⟩ := HBX.out _ hx4
      go_wp2
      exact bodyPost_ret (v := .tuple #[.int .i64 0, .int .i64 1]) (by simp [results, Tryd.results10, go_sem]) rfl ⟨by rw [HNO.out], HE3.out.tr hx4⟩
end Go.Proofs.YtkdhhcidpklgoaaDoor

/- ref01: SameBools, SameInts. -/
namespace Go.Proofs.YtkdhhcidpklgoaaDoor
open Go.RowKit

def eqB (a b : List Bool) : Bool := a == b
theorem eqB_cons (x y : Bool) (a b : List Bool) : eqB (x :: a) (y :: b) = ((x == y) && eqB a b) := rfl

set_option maxRecDepth 100000 in
theorem SameBools_any (v v' : Value) (a b : List Bool) (w : World) (h : RBools w v a) (h' : RBools w v' b) :
    Calls Tryd.prog 29 #[v, v'] w fun e w' => e = .returned (.bool (eqB a b)) ∧ Ext w w' := by
  have HR := Lib.hid h
  have HR' := Lib.hid h'
  obtain ⟨A, c, rfl, hc, hm⟩ := h.form
  obtain ⟨A', c', rfl, hc', hm'⟩ := h'.form
  clear h h'
  unfold maxLen at hm hm'
  go_enter Tryd.func29, Tryd.ntmps29
  by_cases hl : a.length = b.length
  · have HL := Lib.hid hl
    have hlt' : ((a.length : Int) == b.length) = true := by simp [hl]
    have hlt2 : ((a.length : Int) != b.length) = false := by simp [hl]
    have hle : a.length ≤ b.length := by omega
    clear hl
    go_wp2
    go_loopw [13] (fun i wr => ∃ k : Nat, k ≤ a.length ∧ i = .int .i64 k ∧ Ext w wr ∧ eqB a b = eqB (a.drop k) (b.drop k)) (fun i _ => a.length - (intOf i).toNat)
    case atStart => exact ⟨0, Nat.zero_le _, rfl, Ext.rf _, rfl⟩
    case round =>
      obtain ⟨k, hk, rfl, hb, hno⟩ := hrel
      have HN := Lib.hid hno; have HB := Lib.hid hb
      clear hb hno
      by_cases hlt : k < a.length
      · obtain ⟨b1, o1, rfl, hbl1, g0⟩ := HR.out.at_ hlt
        obtain ⟨b2, o2, rfl, hbl2, g1⟩ := HR'.out.at_ (k := k) (by omega)
        have g0 := HB.out.keep g0
        have g1 := HB.out.keep g1
        have HD := Lib.hid (drop_step hlt)
        have HD' := Lib.hid (drop_step (l := b) (k := k) (by omega))
        generalize a[k] = x at *
        generalize b[k] = y at *
        have hk2 : k < b.length := by omega
        go_wp2
        go_quiet (fail)
        go_wp2
        · have q : (!x == y) = true := by assumption
          go_ret
          exact ⟨ret_bool (by rw [HN.out, HD.out, HD'.out, eqB_cons]; simp at q; simp [q]), HB.out.drewN _⟩
        · have q : (!x == y) = false := by assumption
          go_roundw
          case rel => exact ⟨k + 1, by omega, by go_num, HB.out.drewN _, by rw [HN.out, HD.out, HD'.out, eqB_cons]; simp at q; simp [q]⟩
          case measure => simp [intOf]; omega
      · go_wp2
        go_ret
        have hlb : ¬ k < b.length := by have := HL.out; omega
        exact ⟨ret_bool (by rw [HN.out, drop_end hlt, drop_end hlb]; rfl), HB.out⟩
  · have hlt' : ((a.length : Int) == b.length) = false := by simp; omega
    have hlt2 : ((a.length : Int) != b.length) = true := by simp; omega
    go_wp2
    go_ret
    exact ⟨ret_bool (by unfold eqB; symm; rw [beq_eq_false_iff_ne]; intro e; exact hl (by rw [e])), Ext.rf _⟩

def eqI (a b : List Int) : Bool := a == b
theorem eqI_cons (x y : Int) (a b : List Int) : eqI (x :: a) (y :: b) = ((x == y) && eqI a b) := rfl

set_option maxRecDepth 100000 in
theorem SameInts_any (v v' : Value) (a b : List Int) (w : World) (h : RInts w v a) (h' : RInts w v' b) :
    Calls Tryd.prog 11 #[v, v'] w fun e w' => e = .returned (.bool (eqI a b)) ∧ Ext w w' := by
  have HR := Lib.hid h
  have HR' := Lib.hid h'
  obtain ⟨A, c, rfl, hc, hm⟩ := h.form
  obtain ⟨A', c', rfl, hc', hm'⟩ := h'.form
  clear h h'
  unfold maxLen at hm hm'
  go_enter Tryd.func11, Tryd.ntmps11
  by_cases hl : a.length = b.length
  · have HL := Lib.hid hl
    have hlt' : ((a.length : Int) == b.length) = true := by simp [hl]
    have hlt2 : ((a.length : Int) != b.length) = false := by simp [hl]
    have hle : a.length ≤ b.length := by omega
    clear hl
    go_wp2
    go_loopw [13] (fun i wr => ∃ k : Nat, k ≤ a.length ∧ i = .int .i64 k ∧ Ext w wr ∧ eqI a b = eqI (a.drop k) (b.drop k)) (fun i _ => a.length - (intOf i).toNat)
    case atStart => exact ⟨0, Nat.zero_le _, rfl, Ext.rf _, rfl⟩
    case round =>
      obtain ⟨k, hk, rfl, hb, hno⟩ := hrel
      have HN := Lib.hid hno; have HB := Lib.hid hb
      clear hb hno
      by_cases hlt : k < a.length
      · obtain ⟨b1, o1, rfl, hbl1, g0, -⟩ := HR.out.at_ hlt
        obtain ⟨b2, o2, rfl, hbl2, g1, -⟩ := HR'.out.at_ (k := k) (by omega)
        have g0 := HB.out.keep g0
        have g1 := HB.out.keep g1
        have HD := Lib.hid (drop_step hlt)
        have HD' := Lib.hid (drop_step (l := b) (k := k) (by omega))
        generalize a[k] = x at *
        generalize b[k] = y at *
        have hk2 : k < b.length := by omega
        go_wp2
        go_quiet (fail)
        go_wp2
        · have q : (!x == y) = true := by assumption
          go_ret
          exact ⟨ret_bool (by rw [HN.out, HD.out, HD'.out, eqI_cons]; simp at q; simp [q]), HB.out.drewN _⟩
        · have q : (!x == y) = false := by assumption
          go_roundw
          case rel => exact ⟨k + 1, by omega, by go_num, HB.out.drewN _, by rw [HN.out, HD.out, HD'.out, eqI_cons]; simp at q; simp [q]⟩
          case measure => simp [intOf]; omega
      · go_wp2
        go_ret
        have hlb : ¬ k < b.length := by have := HL.out; omega
        exact ⟨ret_bool (by rw [HN.out, drop_end hlt, drop_end hlb]; rfl), HB.out⟩
  · have hlt' : ((a.length : Int) == b.length) = false := by simp; omega
    have hlt2 : ((a.length : Int) != b.length) = true := by simp; omega
    go_wp2
    go_ret
    exact ⟨ret_bool (by unfold eqI; symm; rw [beq_eq_false_iff_ne]; intro e; exact hl (by rw [e])), Ext.rf _⟩

theorem eqB_refl (l : List Bool) : eqB l l = true := by unfold eqB; exact beq_self_eq_true l
theorem eqI_refl (l : List Int) : eqI l l = true := by unfold eqI; exact beq_self_eq_true l
end Go.Proofs.YtkdhhcidpklgoaaDoor

/- A statement whose order is open: an invariant over what has been done. -/
namespace Go.Proofs.YtkdhhcidpklgoaaDoor
open Go.RowKit

/-- Every operation waits only for operations ahead of it in the text. -/
def backB (ops : Array Oper) : Bool := (List.range ops.size).all fun i => ((ops[i]?).map fun o => o.after.all fun e => decide (e.on < i)).getD true
def openN (n : Nat) (listed : Array Bool) : Nat := (List.range n).countP fun i => !listed.getD i false
theorem getD_eq {listed : Array Bool} {i : Nat} (h : i < listed.size) (a b : Bool) : listed.getD i a = listed.getD i b := by
  simp [Array.getD, h]
theorem openN_zero {n : Nat} {listed : Array Bool} (h : openN n listed = 0) : ∀ i, i < n → listed.getD i false = true := by
  intro i hi
  unfold openN at h
  rw [List.countP_eq_zero] at h
  have := h i (List.mem_range.2 hi)
  cases hb : listed.getD i false
  · rw [hb] at this; simp at this
  · rfl
theorem set_getD {listed : Array Bool} {i j : Nat} (hi : i < listed.size) : (listed.setIfInBounds i true).getD j false = (decide (j = i) || listed.getD j false) := by
  by_cases h : j = i
  · subst h; simp [Array.getD, hi]
  · have h' : i ≠ j := fun e => h e.symm
    rw [Array.getD_eq_getD_getElem?, Array.getD_eq_getD_getElem?, Array.getElem?_setIfInBounds_ne h']; simp [h]
theorem count_lt {α : Type} {p q : α → Bool} : ∀ (l : List α), (∀ x ∈ l, q x = true → p x = true) → (∃ x ∈ l, p x = true ∧ q x = false) → l.countP q < l.countP p
  | [], _, h => by obtain ⟨x, hx, _⟩ := h; cases hx
  | a :: r, hpq, h => by
    have hle : r.countP q ≤ r.countP p := List.countP_mono_left fun x hx hq => hpq x (List.mem_cons_of_mem _ hx) hq
    rw [List.countP_cons, List.countP_cons]
    obtain ⟨x, hx, hp, hq⟩ := h
    rcases List.mem_cons.1 hx with rfl | hx
    · rw [hp, hq]; simp; omega
    · have := count_lt r (fun y hy => hpq y (List.mem_cons_of_mem _ hy)) ⟨x, hx, hp, hq⟩
      have h2 := hpq a (List.mem_cons_self ..)
      cases hqa : q a
      · simp; omega
      · rw [h2 hqa]; simp; omega
theorem openN_set {n : Nat} {listed : Array Bool} {i : Nat} (hs : listed.size = n) (hi : i < n) (hl : listed.getD i false = false) : openN n (listed.setIfInBounds i true) < openN n listed := by
  unfold openN
  refine count_lt _ (fun x _ hq => ?_) ⟨i, List.mem_range.2 hi, by rw [hl]; rfl, by rw [set_getD (by omega)]; simp⟩
  rw [set_getD (by omega)] at hq
  cases hb : listed.getD x false
  · rfl
  · rw [hb] at hq; simp at hq
theorem all_of_ready {md : Region.Mode} {ops : Array Oper} {listed : Array Bool} (hb : backB ops = true) (hs : listed.size = ops.size) (hr : Region.ready md ops listed = []) : ∀ i, i < ops.size → listed.getD i false = true := by
  intro i
  induction i using Nat.strongRecOn with
  | _ i ih =>
    intro hi
    cases hl : listed.getD i false
    · exfalso
      have hm : i ∈ Region.ready md ops listed := by
        unfold Region.ready
        rw [List.mem_filter]
        refine ⟨List.mem_range.2 hi, ?_⟩
        rw [getD_eq (by omega) true false, hl]
        have ho : ops[i]? = some ops[i] := Array.getElem?_eq_getElem hi
        rw [ho]
        simp only [Bool.not_false, Bool.true_and, Option.map_some, Option.getD_some, Array.all_eq_true, Bool.or_eq_true]
        intro j hj
        right
        unfold backB at hb
        rw [List.all_eq_true] at hb
        have h1 := hb i (List.mem_range.2 hi)
        rw [ho] at h1
        simp only [Option.map_some, Option.getD_some, Array.all_eq_true, decide_eq_true_eq] at h1
        exact ih _ (h1 j hj) (by have := h1 j hj; omega)
      rw [hr] at hm; cases hm
    · rfl

theorem wpAny_inv {P : Program} {md : Region.Mode} {ops : Array Oper} {Q : Exit → Act → World → Prop} (hb : backB ops = true) (Inv : (Nat → Bool) → Act → World → Prop)
    (hstep : ∀ (L : Nat → Bool) (a : Act) (w : World) (i : Nat) (o : Oper), ops[i]? = some o → (∀ e ∈ o.after.toList, Region.binds md e = true → L e.on = true) → L i = false → Inv L a w →
      wpOp P ops Q i (fun a' w' => Inv (fun j => decide (j = i) || L j) a' w') a w)
    (hdone : ∀ (L : Nat → Bool) (a : Act) (w : World), (∀ i, i < ops.size → L i = true) → Inv L a w → Q .normal a w) :
    ∀ (fuel : Nat) (listed : Array Bool) (a : Act) (w : World), listed.size = ops.size → openN ops.size listed ≤ fuel → Inv (fun j => listed.getD j false) a w → wpAny P md ops Q fuel listed a w := by
  intro fuel
  induction fuel with
  | zero =>
    intro listed a w hs hn hI
    have hall := openN_zero (Nat.le_zero.1 hn)
    refine ⟨?_, hdone _ a w hall hI⟩
    unfold Region.ready
    rw [List.filter_eq_nil_iff]
    intro i hi
    have := hall i (List.mem_range.1 hi)
    rw [getD_eq (by have := List.mem_range.1 hi; omega) true false, this]
    simp
  | succ fuel ih =>
    intro listed a w hs hn hI
    refine ⟨fun hr => hdone _ a w (all_of_ready hb hs hr) hI, fun i hi => ?_⟩
    unfold Region.ready at hi
    rw [List.mem_filter] at hi
    obtain ⟨hir, hc⟩ := hi
    have hlt := List.mem_range.1 hir
    have ho : ops[i]? = some ops[i] := Array.getElem?_eq_getElem hlt
    rw [ho, Bool.and_eq_true] at hc
    obtain ⟨hc1, hc2⟩ := hc
    have hl : listed.getD i false = false := by
      rw [getD_eq (by omega) true false] at hc1
      cases hh : listed.getD i false
      · rfl
      · rw [hh] at hc1; cases hc1
    refine wpOp_mono (fun a' w' hI' => ih (listed.setIfInBounds i true) a' w' (by simpa using hs) ?_ ?_) (hstep _ a w i _ ho (fun e he hbd => ?_) hl hI)
    · have := openN_set hs hlt hl
      omega
    · have hf : (fun j => (listed.setIfInBounds i true).getD j false) = (fun j => decide (j = i) || listed.getD j false) := by
        funext j; exact set_getD (by omega)
      rw [hf]; exact hI'
    · simp only [Option.map_some, Option.getD_some] at hc2
      rw [Array.all_eq_true] at hc2
      obtain ⟨n, hn', rfl⟩ := List.getElem_of_mem he
      have := hc2 n (by simpa using hn')
      rw [Bool.or_eq_true] at this
      rcases this with h | h
      · have hb' : Region.binds md ops[i].after[n] = true := by simpa using hbd
        rw [hb'] at h; cases h
      · simpa using h
theorem openN_start (n : Nat) : openN n (Array.replicate n false) = n := by
  unfold openN
  rw [List.countP_eq_length.2, List.length_range]
  intro i hi
  have := List.mem_range.1 hi
  simp [Array.getD, this]

theorem wp_region_inv {P : Program} {id : Nat} {Q : Exit → Act → World → Prop} {a : Act} {w : World} {ops : Array Oper} (hm : P.follows .mixedOrders = true) (hb : backB ops = true) (Inv : (Nat → Bool) → Act → World → Prop)
    (h0 : Inv (fun _ => false) a w.drew)
    (hstep : ∀ (L : Nat → Bool) (a : Act) (w : World) (i : Nat) (o : Oper), ops[i]? = some o → (∀ e ∈ o.after.toList, Region.binds .any e = true → L e.on = true) → L i = false → Inv L a w →
      ∀ K : Act → World → Prop, Hid (∀ a' w', Inv (fun j => decide (j = i) || L j) a' w' → K a' w') → if Region.wanted o (yielded ops a.tmps) = true then Oper.wp P o a w K Q else K (a.put o.dst undef) w)
    (hdone : ∀ (L : Nat → Bool) (a : Act) (w : World), (∀ i, i < ops.size → L i = true) → Inv L a w → Q .normal a w) : (Code.region id ops true).wp P Q a w := by
  refine wp_region_any hm (wpAny_inv hb Inv (fun L a w i o ho hp hl hI => wpOp_step ho fun K hK => hstep L a w i o ho hp hl hI K hK) hdone _ _ _ _ (by simp) (Nat.le_of_eq (openN_start _)) ?_)
  have hf : (fun j => (Array.replicate ops.size false).getD j false) = (fun _ => false) := by
    funext j
    by_cases h : j < ops.size <;> simp [Array.getD, h]
  rw [hf]; exact h0
end Go.Proofs.YtkdhhcidpklgoaaDoor
