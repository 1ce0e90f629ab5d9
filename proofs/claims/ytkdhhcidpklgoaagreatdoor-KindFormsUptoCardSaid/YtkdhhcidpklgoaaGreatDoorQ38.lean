/- ref07: NewScope. -/
import Derived.Test.YtkdhhcidpklgoaaGreatDoorQ37
import Derived.BigQuiet
namespace Go.Proofs.YtkdhhcidpklgoaaGreatDoor
open Go.RowKit Go.Shelf Go.Maps
attribute [local go_sem] Oper.semAt_some

theorem setVs_append : ∀ (xs : List Vr) (ts : List Int) (f : Fv) (ys : List Vr) (us : List Int), xs.length = ts.length → setVs f (xs ++ ys) (ts ++ us) = setVs (setVs f xs ts) ys us
  | [], [], _, _, _, _ => by simp [setVs]
  | x :: r, t :: ts, f, ys, us, h => by
    have := setVs_append r ts (setV f x t) ys us (by simpa using h)
    simpa [setVs] using this
  | [], _ :: _, _, _, _, h => by simp at h
  | _ :: _, [], _, _, _, h => by simp at h
def zF : Fv := fun _ => 0
theorem lastE_nil : lastE (fun _ => []) = zF := rfl
theorem setVs_step (f : Fv) (s : Int) {l ts : List Int} {k : Nat} (h1 : k < l.length) (h2 : k < ts.length) : setVs f (varsOf s (l.take (k + 1))) (ts.take (k + 1)) = setV (setVs f (varsOf s (l.take k)) (ts.take k)) (s, l[k]) ts[k] := by
  have hx : ∀ m, varsOf s (l.take m) = (varsOf s l).take m := fun m => by unfold varsOf; rw [List.map_take]
  rw [hx, hx, setVs_take _ _ _ _ (by rw [varsOf_len]; exact h1) h2]
  congr 1
  unfold varsOf
  rw [List.getElem_map]
set_option maxHeartbeats 8000000 in
set_option maxRecDepth 100000 in
theorem newScope7_any (v1 v2 v3 v4 : Value) (l1 l2 l3 l4 : List Int) (w : World) (h1 : RInts w v1 l1) (h2 : RInts w v2 l2) (h3 : RInts w v3 l3) (h4 : RInts w v4 l4) (e1 : l1.length = l2.length) (e2 : l3.length = l4.length) (hl1 : l1.length ≤ 1048576) (hl3 : l3.length ≤ 1048576) :
    Calls Tryz.prog 14 #[v1, v2, v3, v4] w fun e w' => (∃ p mx ma, e = .returned (.pointer (some ⟨p, 0, none⟩)) ∧ w.heap.size ≤ p ∧ w.heap.size ≤ mx ∧ w.heap.size ≤ ma ∧ RS w' p mx ma (l1.length + l3.length) (lastE (pushE (fun _ => []) (varsOf 0 l1 ++ varsOf 1 l3) (l2 ++ l4)))) ∧ Ext w w' := by
  rw [setVs_push, lastE_nil, setVs_append _ _ _ _ _ (by rw [varsOf_len]; exact e1)]
  have HR1 := Lib.hid h1; have HR2 := Lib.hid h2; have HR3 := Lib.hid h3; have HR4 := Lib.hid h4; have HE1 := Lib.hid e1; have HE2 := Lib.hid e2
  obtain ⟨A1, c1, rfl, -, -⟩ := h1.form
  obtain ⟨A2, c2, rfl, -, -⟩ := h2.form
  obtain ⟨A3, c3, rfl, -, -⟩ := h3.form
  obtain ⟨A4, c4, rfl, -, -⟩ := h4.form
  clear h1 h2 h3 h4
  have hx3 : Ext w (((w.alloc (.map #[] 0)).alloc (.map #[] 0)).alloc (.cells #[.map (some w.heap.size), .map (some (w.heap.size + 1))] 89)) := (Ext.al2 _ _ _).tr (Ext.al _ _)
  have hrc : RS (((w.alloc (.map #[] 0)).alloc (.map #[] 0)).alloc (.cells #[.map (some w.heap.size), .map (some (w.heap.size + 1))] 89)) (w.heap.size + 1 + 1) w.heap.size (w.heap.size + 1) 0 zF := by
    refine ⟨heapNew3 _ _ _ _, ?_, ?_, by omega⟩
    · exact (MapZ.new intT zI w).ext ((Ext.al _ _).tr (Ext.al _ _))
    · have := (MapZ.new intT zI (w.alloc (.map #[] 0))).ext (Ext.al _ (.cells #[.map (some w.heap.size), .map (some (w.heap.size + 1))] 89))
      rw [show (w.alloc (.map #[] 0)).heap.size = w.heap.size + 1 by simp] at this
      exact this
  have HX3 := Lib.hid hx3; have HRC := Lib.hid hrc
  clear hx3 hrc e1 e2
  have hmm := @run_makeMap Tryz.prog
  go_enter Tryz.func14, Tryz.ntmps14
  go_wp2
  generalize ((w.alloc _).alloc _).alloc _ = w1 at *
  go_loopw [20] (fun i wr => ∃ k : Nat, k ≤ l1.length ∧ i = .int .i64 k ∧ RS wr (w.heap.size + 1 + 1) w.heap.size (w.heap.size + 1) k (setVs zF (varsOf 0 (l1.take k)) (l2.take k)) ∧ TrC w.heap.size (w.heap.size + 1) w1 wr) (fun i _ => l1.length - (intOf i).toNat)
  case atStart => exact ⟨0, Nat.zero_le _, rfl, HRC.out, Only.rf _ _⟩
  case round =>
    obtain ⟨k, hk, rfl, hrc, htr⟩ := hrel
    have HR := Lib.hid hrc; have HT := Lib.hid htr
    have hxr := htr.below HX3.out (Nat.le_refl _) (by omega)
    have HXR := Lib.hid hxr
    clear hrc htr hxr
    by_cases hlt : k < l1.length
    · have hlt2 : k < l2.length := by have := HE1.out; omega
      obtain ⟨b, o, rfl, hbl, y0, hok⟩ := HR1.out.at_ hlt
      obtain ⟨b2, o2, rfl, hbl2, z0, -⟩ := HR2.out.at_ hlt2
      have y0 := HXR.out.keep y0
      have z0 := HXR.out.keep z0
      have hz := setVs_step zF 0 hlt hlt2
      obtain ⟨w2, hu, hr2, ht2⟩ := (HR.out.ext (Ext.rf wr).drew).putx hok (by unfold maxLen; omega) l2[k]
      rw [← hz] at hr2
      have HR2' := Lib.hid hr2
      have HT2 : Hid (TrC w.heap.size (w.heap.size + 1) wr w2) := TrC.tr (TrC.ext (Ext.rf wr).drew) ht2
      clear hz hok hr2 ht2
      generalize l1[k] = a at *
      generalize l2[k] = ty at *
      have HCX : Hid (∀ W, TrC w.heap.size (w.heap.size + 1) wr W → W.cell? ⟨w.heap.size + 1 + 1, 0, none⟩ = some (.map (some w.heap.size)) ∧ W.cell? ⟨b2, o2 + k, none⟩ = some (.int .i64 ty)) := fun W h =>
        ⟨cellAt (HR.out.cells h HR.out.box) 0, HR.out.box' h z0⟩
      have hki : (k : Int) < l1.length := by omega
      have hki2 : (k : Int) < l2.length := by omega
      have hk0 : (0 : Int) ≤ k := by omega
      go_wp2
      have z0' := z0
      obtain ⟨q0, q1⟩ := HCX.out wr (Only.rf _ _)
      go_region_held3 (fun W => W.cell? ⟨w.heap.size + 1 + 1, 0, none⟩ = some (.map (some w.heap.size)) ∧ W.cell? ⟨b2, o2 + k, none⟩ = some (.int .i64 ty))
        (first | exact HCX.out _ (TrC.ext (Ext.rf _).drew) | exact HCX.out _ HT2.out | exact HCX.out _ (Only.rf _ _) | fail "KEEP")
        (fail)
      all_goals
        go_wp2
        exact ⟨⟨k + 1, by omega, by go_num, HR2'.out, TrC.tr HT.out HT2.out⟩, by simp [intOf]; omega⟩
    · have hke : k = l1.length := by omega
      subst hke
      have HRA : Hid (RS wr (w.heap.size + 1 + 1) w.heap.size (w.heap.size + 1) (l1.length + 0) (setVs (setVs zF (varsOf 0 l1) l2) (varsOf 1 (l3.take 0)) (l4.take 0))) := by
        have h5 := HR.out
        rw [List.take_of_length_le (Nat.le_refl _), List.take_of_length_le (by have := HE1.out; omega)] at h5
        exact h5
      go_wp2
      go_loopw [37] (fun i wr => ∃ k : Nat, k ≤ l3.length ∧ i = .int .i64 k ∧ RS wr (w.heap.size + 1 + 1) w.heap.size (w.heap.size + 1) (l1.length + k) (setVs (setVs zF (varsOf 0 l1) l2) (varsOf 1 (l3.take k)) (l4.take k)) ∧ TrC w.heap.size (w.heap.size + 1) w1 wr) (fun i _ => l3.length - (intOf i).toNat)
      case atStart => exact ⟨0, Nat.zero_le _, rfl, HRA.out, HT.out⟩
      case round =>
        obtain ⟨k, hk, rfl, hrc, htr⟩ := hrel
        have HRb := Lib.hid hrc; have HTb := Lib.hid htr
        have hxr := htr.below HX3.out (Nat.le_refl _) (by omega)
        have HXRb := Lib.hid hxr
        clear hrc htr hxr
        by_cases hlt : k < l3.length
        · have hlt2 : k < l4.length := by have := HE2.out; omega
          obtain ⟨b, o, rfl, hbl, y0, hok⟩ := HR3.out.at_ hlt
          obtain ⟨b2, o2, rfl, hbl2, z0, -⟩ := HR4.out.at_ hlt2
          have y0 := HXRb.out.keep y0
          have z0 := HXRb.out.keep z0
          have hz := setVs_step (setVs zF (varsOf 0 l1) l2) 1 hlt hlt2
          obtain ⟨w2, hu, hr2, ht2⟩ := (HRb.out.ext (Ext.rf wr).drew).puta hok (by unfold maxLen; omega) l4[k]
          rw [← hz] at hr2
          have HR2' := Lib.hid hr2
          have HT2 : Hid (TrC w.heap.size (w.heap.size + 1) wr w2) := TrC.tr (TrC.ext (Ext.rf wr).drew) ht2
          clear hz hok hr2 ht2
          generalize l3[k] = a at *
          generalize l4[k] = ty at *
          have HCX : Hid (∀ W, TrC w.heap.size (w.heap.size + 1) wr W → W.cell? ⟨w.heap.size + 1 + 1, 1, none⟩ = some (.map (some (w.heap.size + 1))) ∧ W.cell? ⟨b2, o2 + k, none⟩ = some (.int .i64 ty)) := fun W h =>
            ⟨cellAt (HRb.out.cells h HRb.out.box) 1, HRb.out.box' h z0⟩
          have hki : (k : Int) < l3.length := by omega
          have hki2 : (k : Int) < l4.length := by omega
          have hk0 : (0 : Int) ≤ k := by omega
          go_wp2
          have z0' := z0
          obtain ⟨q0, q1⟩ := HCX.out wr (Only.rf _ _)
          go_region_held3 (fun W => W.cell? ⟨w.heap.size + 1 + 1, 1, none⟩ = some (.map (some (w.heap.size + 1))) ∧ W.cell? ⟨b2, o2 + k, none⟩ = some (.int .i64 ty))
            (first | exact HCX.out _ (TrC.ext (Ext.rf _).drew) | exact HCX.out _ HT2.out | exact HCX.out _ (Only.rf _ _) | fail "KEEP")
            (fail)
          all_goals
            go_wp2
            exact ⟨⟨k + 1, by omega, by go_num, HR2'.out, TrC.tr HTb.out HT2.out⟩, by simp [intOf]; omega⟩
        · have hke : k = l3.length := by omega
          subst hke
          have HRB : Hid (RS wr (w.heap.size + 1 + 1) w.heap.size (w.heap.size + 1) (l1.length + l3.length) (setVs (setVs zF (varsOf 0 l1) l2) (varsOf 1 l3) l4)) := by
            have h5 := HRb.out
            rw [List.take_of_length_le (Nat.le_refl _), List.take_of_length_le (by have := HE2.out; omega)] at h5
            exact h5
          go_wp2
          go_ret
          exact ⟨⟨_, _, _, rfl, by omega, by omega, by omega, HRB.out⟩, HXRb.out⟩
end Go.Proofs.YtkdhhcidpklgoaaGreatDoor

/- ref07: Params, Is. -/
namespace Go.Proofs.YtkdhhcidpklgoaaGreatDoor
open Go.RowKit Go.Shelf Go.Maps
attribute [local go_sem] Oper.semAt_some

set_option maxHeartbeats 8000000 in
set_option maxRecDepth 100000 in
theorem params7_any (f : CF) (vp vv xa xb : Value) (w : World) (h : RArgs w vp f.ps) (hv : RInts w vv f.vars) (hl : f.vars.length = f.ps.length) (hs : f.ps.length ≤ 1048576) (hk : ∃ k, RNd w k f.body xa xb) :
    Calls Tryz.prog 28 #[fV f vp vv xa xb] w fun e w' => (∃ p mx ma, e = .returned (.pointer (some ⟨p, 0, none⟩)) ∧ w.heap.size ≤ p ∧ w.heap.size ≤ mx ∧ w.heap.size ≤ ma ∧ RS w' p mx ma f.ps.length (lastE (pushE (fun _ => []) (zipCo f.vars (f.ps.map Arg.co)) (f.ps.map Arg.ty)))) ∧ Ext w w' := by
  obtain ⟨k, hk⟩ := hk
  obtain ⟨-, ⟨Ax, cx, rfl, -, -⟩, ⟨Bx, dx, rfl, -, -⟩⟩ := hk.form
  obtain ⟨Ap, cp, rfl, -, hmp⟩ := h.form
  obtain ⟨Av, cv, rfl, -, hmv⟩ := hv.form
  unfold maxLen at hmp hmv
  obtain ⟨xs, hxs⟩ : ∃ xs, zipCo f.vars (f.ps.map Arg.co) = xs := ⟨_, rfl⟩
  obtain ⟨ts, hts⟩ : ∃ ts, f.ps.map Arg.ty = ts := ⟨_, rfl⟩
  have hxl : xs.length = f.ps.length := by rw [← hxs, zipCo_length, hl]
  have htl : ts.length = f.ps.length := by rw [← hts, List.length_map]
  have HXI : Hid (∀ (j : Nat) a v, f.ps[j]? = some a → f.vars[j]? = some v → xs[j]? = some (coI a.co, v) ∧ ts[j]? = some a.ty) := fun j a v h1 h2 => by
    have h3 : (f.ps.map Arg.co)[j]? = some a.co := by rw [List.getElem?_map, h1]; rfl
    refine ⟨?_, ?_⟩
    · rw [← hxs, zipCo_get, h2, List.getD_eq_getElem?_getD, h3]; rfl
    · rw [← hts, List.getElem?_map, h1]; rfl
  rw [hxs, hts, setVs_push, lastE_nil]
  have HP := Lib.hid h; have HV := Lib.hid hv; have HL := Lib.hid hl; have HXL := Lib.hid hxl; have HTL := Lib.hid htl
  have HE1 := Lib.hid (Ext.al w (.cells #[.string f.nm, .slice Ap f.ps.length cp, .slice Av f.vars.length cv, .int .i64 f.body.op, .int .i64 f.body.n, .int .i64 f.body.ty, .slice Ax f.body.args.length cx, .slice Bx f.body.brs.length dx] 53))
  have HB1 := Lib.hid (heapNew w (.cells #[.string f.nm, .slice Ap f.ps.length cp, .slice Av f.vars.length cv, .int .i64 f.body.op, .int .i64 f.body.n, .int .i64 f.body.ty, .slice Ax f.body.args.length cx, .slice Bx f.body.brs.length dx] 53))
  have HNS : Hid (∀ W, Calls Tryz.prog 14 #[.slice none 0 0, .slice none 0 0, .slice none 0 0, .slice none 0 0] W fun e w' => (∃ p mx ma, e = .returned (.pointer (some ⟨p, 0, none⟩)) ∧ W.heap.size ≤ p ∧ W.heap.size ≤ mx ∧ W.heap.size ≤ ma ∧ RS w' p mx ma 0 zF) ∧ Ext W w') := fun W =>
    newScope7_any _ _ _ _ [] [] [] [] W (ints_nil W) (ints_nil W) (ints_nil W) (ints_nil W) rfl rfl (by decide) (by decide)
  clear h hv hl hk hxs hts hxl htl
  go_enter Tryz.func28, Tryz.ntmps28
  go_wp2_with (first
    | (go_at_call 14; (with_reducible refine (HNS.out _).mono ?_); rintro e w2 ⟨⟨p, mx, ma, rfl, hp1, hp2, hp3, hrc⟩, hx2⟩; have HRC := Lib.hid hrc; have HX2 := Lib.hid hx2; have f1 := cellAt (hx2.lt HB1.out) 1; clear hrc hx2)
    | fail "none")
  have hz1 := HE1.out.size
  have HBW := Lib.hid (HX2.out.lt HB1.out)
  have HXW : Hid (Ext w w2) := HE1.out.tr HX2.out
  have hpz : w.heap.size ≤ p ∧ w.heap.size ≤ mx ∧ w.heap.size ≤ ma := by omega
  clear f1
  go_loopw [10] (fun i wr => ∃ (j : Nat), j ≤ f.ps.length ∧ i = .int .i64 j ∧ RS wr p mx ma j (fI zF xs ts j) ∧ TrC mx ma w2 wr) (fun i _ => f.ps.length - (intOf i).toNat)
  case atStart => exact ⟨0, Nat.zero_le _, rfl, HRC.out, Only.rf _ _⟩
  case round =>
    obtain ⟨j, hj, rfl, hs', htr⟩ := hrel
    have HS := Lib.hid hs'; have HTR := Lib.hid htr
    have HXR : Hid (Ext w wr) := htr.below HXW.out hpz.2.1 hpz.2.2
    have HBR := Lib.hid (HRC.out.cells htr HBW.out)
    clear hs' htr
    by_cases hlt : j < f.ps.length
    · obtain ⟨b2, o2, rfl, hbl2, z0, z1⟩ := HP.out.at_ hlt
      have z0 := HXR.out.keep z0
      have z1 := HXR.out.keep z1
      have hlv : j < f.vars.length := by have := HL.out; omega
      obtain ⟨b3, o3, rfl, hbl3, y0, hok⟩ := HV.out.at_ hlv
      have y0 := HXR.out.keep y0
      obtain ⟨hx1, hx2⟩ := HXI.out j _ _ (List.getElem?_eq_getElem hlt) (List.getElem?_eq_getElem hlv)
      have HFS : Hid (fI zF xs ts (j + 1) = setV (fI zF xs ts j) (coI f.ps[j].co, f.vars[j]) f.ps[j].ty) := by
        have h1 : j < xs.length := by have := HXL.out; omega
        have h2 : j < ts.length := by have := HTL.out; omega
        show _ = _
        rw [fI_succ _ h1 h2, (List.getElem?_eq_some_iff.1 hx1).2, (List.getElem?_eq_some_iff.1 hx2).2]
      clear hx1 hx2
      generalize f.ps[j] = a at *
      generalize f.vars[j] = v at *
      have HEX := Lib.hid (Ext.al wr (.cells #[.int .i64 a.ty, .bool a.co] 114))
      have HNX := Lib.hid (heapNew wr (.cells #[.int .i64 a.ty, .bool a.co] 114))
      have hjl : (j : Int) < f.ps.length := by omega
      have hjl2 : (j : Int) < f.vars.length := by omega
      have hj0 : (0 : Int) ≤ j := by omega
      go_wp2
      have HCX : Hid (∀ W, Ext (wr.alloc (.cells #[.int .i64 a.ty, .bool a.co] 114)) W → W.cell? ⟨w.heap.size, 2, none⟩ = some (.slice (some ⟨b3, o3, none⟩) f.vars.length cv) ∧ W.cell? ⟨wr.heap.size, 0, none⟩ = some (.int .i64 a.ty) ∧ W.cell? ⟨wr.heap.size, 1, none⟩ = some (.bool a.co) ∧ W.cell? ⟨b3, o3 + j, none⟩ = some (.int .i64 v)) := fun W hW => ⟨cellAt ((HEX.out.tr hW).lt HBR.out) 2, cellAt (hW.lt HNX.out) 0, cellAt (hW.lt HNX.out) 1, (HEX.out.tr hW).keep y0⟩
      have HBI : Hid (∀ W, Ext (wr.alloc (.cells #[.int .i64 a.ty, .bool a.co] 114)) W → Calls Tryz.prog 40 #[.pointer (some ⟨p, 0, none⟩), .bool a.co, .int .i64 v, .int .i64 a.ty] W fun e w' => (∃ u, e = .returned u) ∧ (RS w' p mx ma (j + 1) (fI zF xs ts (j + 1)) ∧ TrC mx ma w2 w') ∧ (w'.cell? ⟨w.heap.size, 2, none⟩ = some (.slice (some ⟨b3, o3, none⟩) f.vars.length cv) ∧ w'.cell? ⟨wr.heap.size, 0, none⟩ = some (.int .i64 a.ty) ∧ w'.cell? ⟨wr.heap.size, 1, none⟩ = some (.bool a.co) ∧ w'.cell? ⟨b3, o3 + j, none⟩ = some (.int .i64 v))) := fun W hW => by
        have hrW := HS.out.ext (HEX.out.tr hW)
        refine (bind7_any W p mx ma j _ a.co v a.ty hrW hok (by unfold maxLen; omega)).mono ?_
        rintro e w' ⟨⟨q, rfl, -⟩, h2, h3⟩
        have hc := HCX.out W hW
        rw [← HFS.out] at h2
        exact ⟨⟨_, rfl⟩, ⟨h2, TrC.tr HTR.out (TrC.tr (TrC.ext (HEX.out.tr hW)) h3)⟩, hrW.box' h3 hc.1, hrW.box' h3 hc.2.1, hrW.box' h3 hc.2.2.1, hrW.box' h3 hc.2.2.2⟩
      clear z0 z1
      generalize wr.alloc _ = w3 at *
      obtain ⟨k0, a0, a1, y0⟩ := HCX.out w3 (Ext.rf _)
      go_region_held3 (fun W => W.cell? ⟨w.heap.size, 2, none⟩ = some (.slice (some ⟨b3, o3, none⟩) f.vars.length cv) ∧ W.cell? ⟨wr.heap.size, 0, none⟩ = some (.int .i64 a.ty) ∧ W.cell? ⟨wr.heap.size, 1, none⟩ = some (.bool a.co) ∧ W.cell? ⟨b3, o3 + j, none⟩ = some (.int .i64 v))
        (first | exact HCX.out _ (Ext.rf _).drew | exact HC8.out | exact HCX.out _ (Ext.rf _) | fail "KEEP")
        (first
          | (go_at_call 40; (with_reducible refine (HBI.out _ (by first | exact (Ext.rf _).drew | exact Ext.rf _ | fail "CALL")).mono ?_); rintro e w8 ⟨⟨uq, rfl⟩, ⟨hs8, ht8⟩, hc8⟩; have HS8 := Lib.hid hs8; have HT8 := Lib.hid ht8; have HC8 := Lib.hid hc8; clear hs8 ht8 hc8)
          | fail "ARM")
      all_goals
        go_wp2
        exact ⟨⟨j + 1, by omega, by go_num, HS8.out, HT8.out⟩, by simp [intOf]; omega⟩
    · have hje : j = f.ps.length := by omega
      have HSr : Hid (RS wr p mx ma f.ps.length (setVs zF xs ts)) := by
        have h5 := HS.out
        rw [fI_end _ (by have := HXL.out; omega) (by have := HTL.out; omega), hje] at h5; exact h5
      go_wp2
      go_ret
      exact ⟨⟨p, mx, ma, rfl, hpz.1, hpz.2.1, hpz.2.2, HSr.out⟩, HXR.out⟩
/-- good in a scope that the call itself has made. -/
theorem good_new (vd vf : Value) (C : Cg) (w0 w : World) (p mx ma n : Nat) (E : Ev) (S : Sc) (k : Nat) (t : Nd) (va vb : Value) (hC : RCg w0 vd vf C) (hS : ShC C) (ht : RNd w0 k t va vb) (hb : BN t) (hx : Ext w0 w) (h1 : w0.heap.size ≤ mx) (h2 : w0.heap.size ≤ ma)
    (hr : RS w p mx ma n (lastE E)) (hs : sortN C S t ≠ 3) (hn : n ≤ 100000000) :
    Calls Tryz.prog 29 #[.pointer (some ⟨p, 0, none⟩), cV vd vf, nV t va vb] w fun e w' => e = .returned (.bool (typN C E t).isSome) ∧ Ext w0 w' := by
  have hbb := hb.b
  refine (good7 hC ⟨k, ht⟩ (type7_all vd vf C w0 p mx ma hC hS h1 h2 k t va vb ht hb) w n E S hx hr hs (by omega)).mono ?_
  rintro e w' ⟨rfl, -, h4⟩
  exact ⟨rfl, h4.below hx h1 h2⟩
theorem allF_step {C : Cg} {l : List CF} {k : Nat} (h : k < l.length) : (l.drop k).all (funT C) = (funT C l[k] && (l.drop (k + 1)).all (funT C)) := by
  rw [List.drop_eq_getElem_cons h, List.all_cons]
/-- What validity gives of a function. -/
theorem core_fun {C : Cg} (h : coreB C = true) {f : CF} (hf : f ∈ C.funs) : f.vars.length = f.ps.length ∧ sortN C (scF f) f.body = 2 := by
  unfold coreB at h
  simp only [Bool.and_eq_true, List.all_eq_true] at h
  have h2 := h.2 f hf
  unfold funC at h2
  simp only [Bool.and_eq_true, decide_eq_true_eq] at h2
  exact ⟨(binds_lens h2.2.1).1, h2.2.2⟩
set_option maxHeartbeats 8000000 in
set_option maxRecDepth 100000 in
theorem is7_any (vd vf : Value) (C : Cg) (w : World) (hC : RCg w vd vf C) (hS : ShC C) (hB : ∀ f ∈ C.funs, BN f.body) (hV : coreB C = true) :
    Calls Tryz.prog 10 #[cV vd vf] w fun e w' => e = .returned (.bool (C.funs.all (funT C))) ∧ Ext w w' := by
  have HC := Lib.hid hC; have HS := Lib.hid hS; have HB := Lib.hid hB
  have HCF := Lib.hid (fun f hf => core_fun (f := f) hV hf)
  obtain ⟨R, hR⟩ : ∃ R, C.funs.all (funT C) = R := ⟨_, rfl⟩
  rw [hR]
  have HR := Lib.hid hR
  obtain ⟨Ad, cd, rfl, -, hmd⟩ := hC.d.form
  obtain ⟨Af, cf, rfl, hcf, hmf⟩ := hC.f.form
  unfold maxLen at hmd hmf
  have HE1 := Lib.hid (Ext.al w (.cells #[.slice Ad C.decls.length cd, .slice Af C.funs.length cf] 25))
  have HB1 := Lib.hid (heapNew w (.cells #[.slice Ad C.decls.length cd, .slice Af C.funs.length cf] 25))
  clear hC hS hB hV hR
  go_enter Tryz.func10, Tryz.ntmps10
  go_wp2
  generalize w.alloc _ = w1 at *
  go_loopw [8] (fun i wr => ∃ j : Nat, j ≤ C.funs.length ∧ i = .int .i64 j ∧ C.funs.all (funT C) = (C.funs.drop j).all (funT C) ∧ Ext w1 wr) (fun i _ => C.funs.length - (intOf i).toNat)
  case atStart => exact ⟨0, Nat.zero_le _, rfl, rfl, Ext.rf _⟩
  case round =>
    obtain ⟨j, hj, rfl, hd, hx⟩ := hrel
    have HD := Lib.hid hd; have HXR := Lib.hid hx
    have HX := Lib.hid (HE1.out.tr hx)
    have HBR := Lib.hid (hx.lt HB1.out)
    clear hd hx
    by_cases hlt : j < C.funs.length
    · obtain ⟨b, o, vp, vv, xa, xb, kk, rfl, hbl, y0, y1, y2, yn, hnm, hps, hvs, hbody⟩ := HC.out.f.at_ hlt
      have y0 := HX.out.keep y0
      have y1 := HX.out.keep y1
      have y2 := HX.out.keep y2
      obtain ⟨c0, c1, c2, c3, c4⟩ := yn.below HX.out
      obtain ⟨hfp, hfv, hfo⟩ := HS.out.fn _ (List.getElem_mem hlt)
      have HST := Lib.hid (allF_step (C := C) hlt)
      have HPS := Lib.hid hps; have HVS := Lib.hid hvs; have HBO := Lib.hid hbody
      have HBN := Lib.hid (HB.out _ (List.getElem_mem hlt))
      obtain ⟨hvl, hso⟩ := HCF.out _ (List.getElem_mem hlt)
      have HVL := Lib.hid hvl; have HSO := Lib.hid hso
      obtain ⟨_, ⟨Ax, cx, rfl, -, -⟩, ⟨Bx, dx, rfl, -, -⟩⟩ := hbody.form
      obtain ⟨Ap, cp, rfl, -, hmp⟩ := hps.form
      obtain ⟨Av, cv, rfl, -, -⟩ := hvs.form
      clear yn hnm hps hvs hbody hfo hvl hso
      have hjl : (j : Int) < C.funs.length := by omega
      generalize C.funs[j] = f at *
      have HEX := Lib.hid (Ext.al wr (.cells #[.string f.nm, .slice Ap f.ps.length cp, .slice Av f.vars.length cv, .int .i64 f.body.op, .int .i64 f.body.n, .int .i64 f.body.ty, .slice Ax f.body.args.length cx, .slice Bx f.body.brs.length dx] 53))
      have HNX := Lib.hid (heapNew wr (.cells #[.string f.nm, .slice Ap f.ps.length cp, .slice Av f.vars.length cv, .int .i64 f.body.op, .int .i64 f.body.n, .int .i64 f.body.ty, .slice Ax f.body.args.length cx, .slice Bx f.body.brs.length dx] 53))
      go_wp2
      have HX3 : Hid (Ext w (wr.alloc (.cells #[.string f.nm, .slice Ap f.ps.length cp, .slice Av f.vars.length cv, .int .i64 f.body.op, .int .i64 f.body.n, .int .i64 f.body.ty, .slice Ax f.body.args.length cx, .slice Bx f.body.brs.length dx] 53))) := HX.out.tr HEX.out
      have HX13 : Hid (Ext w1 (wr.alloc (.cells #[.string f.nm, .slice Ap f.ps.length cp, .slice Av f.vars.length cv, .int .i64 f.body.op, .int .i64 f.body.n, .int .i64 f.body.ty, .slice Ax f.body.args.length cx, .slice Bx f.body.brs.length dx] 53))) := HXR.out.tr HEX.out
      have HB3 := Lib.hid (HEX.out.lt HBR.out)
      generalize wr.alloc _ = w3 at *
      clear y0 y1 y2 c0 c1 c2 c3 c4
      have HCX : Hid (∀ W, Ext w3 W → W.cell? ⟨w.heap.size, 0, none⟩ = some (.slice Ad C.decls.length cd) ∧ W.cell? ⟨w.heap.size, 1, none⟩ = some (.slice (some ⟨b, o, none⟩) C.funs.length cf) ∧ W.cell? ⟨wr.heap.size, 0, none⟩ = some (.string f.nm) ∧ W.cell? ⟨wr.heap.size, 1, none⟩ = some (.slice Ap f.ps.length cp) ∧ W.cell? ⟨wr.heap.size, 2, none⟩ = some (.slice Av f.vars.length cv) ∧ W.cell? ⟨wr.heap.size, 3, none⟩ = some (.int .i64 f.body.op) ∧ W.cell? ⟨wr.heap.size, 4, none⟩ = some (.int .i64 f.body.n) ∧ W.cell? ⟨wr.heap.size, 5, none⟩ = some (.int .i64 f.body.ty) ∧ W.cell? ⟨wr.heap.size, 6, none⟩ = some (.slice Ax f.body.args.length cx) ∧ W.cell? ⟨wr.heap.size, 7, none⟩ = some (.slice Bx f.body.brs.length dx)) := fun W h =>
        ⟨cellAt (h.lt HB3.out) 0, cellAt (h.lt HB3.out) 1, cellAt (h.lt HNX.out) 0, cellAt (h.lt HNX.out) 1, cellAt (h.lt HNX.out) 2, cellAt (h.lt HNX.out) 3, cellAt (h.lt HNX.out) 4, cellAt (h.lt HNX.out) 5, cellAt (h.lt HNX.out) 6, cellAt (h.lt HNX.out) 7⟩
      have HPA : Hid (∀ W, Ext w3 W → Calls Tryz.prog 28 #[fV f (.slice Ap f.ps.length cp) (.slice Av f.vars.length cv) (.slice Ax f.body.args.length cx) (.slice Bx f.body.brs.length dx)] W _) := fun W hW =>
        params7_any f _ _ _ _ W ((HPS.out.below HX3.out).below hW) ((HVS.out.below HX3.out).below hW) HVL.out hfp ⟨kk, (HBO.out.below HX3.out).below hW⟩
      have HGO : Hid (∀ W0 W p mx ma, Ext w3 W0 → Ext W0 W → W0.heap.size ≤ mx → W0.heap.size ≤ ma → RS W p mx ma f.ps.length (lastE (pushE (fun _ => []) (zipCo f.vars (f.ps.map Arg.co)) (f.ps.map Arg.ty))) → Calls Tryz.prog 29 #[.pointer (some ⟨p, 0, none⟩), cV (.slice Ad C.decls.length cd) (.slice (some ⟨b, o, none⟩) C.funs.length cf), nV f.body (.slice Ax f.body.args.length cx) (.slice Bx f.body.brs.length dx)] W fun e w' => e = .returned (.bool (funT C f)) ∧ Ext w3 w') := fun W0 W p mx ma h0 hW h1 h2 hr => by
        refine (good_new _ _ C W0 W p mx ma _ _ (scF f) kk f.body _ _ ((HC.out.below HX3.out).below h0) HS.out ((HBO.out.below HX3.out).below h0) HBN.out hW h1 h2 hr (by rw [HSO.out]; decide) (by omega)).mono ?_
        rintro e w' ⟨rfl, h⟩
        exact ⟨rfl, h0.tr h⟩
      obtain ⟨r, hr⟩ : ∃ r, funT C f = r := ⟨_, rfl⟩
      rw [hr] at HGO HST
      clear hr
      obtain ⟨p0, p1, n0, n1, n2, n3, n4, n5, n6, n7⟩ := HCX.out w3 (Ext.rf _)
      go_region_held3 (fun W => W.cell? ⟨w.heap.size, 0, none⟩ = some (.slice Ad C.decls.length cd) ∧ W.cell? ⟨w.heap.size, 1, none⟩ = some (.slice (some ⟨b, o, none⟩) C.funs.length cf) ∧ W.cell? ⟨wr.heap.size, 0, none⟩ = some (.string f.nm) ∧ W.cell? ⟨wr.heap.size, 1, none⟩ = some (.slice Ap f.ps.length cp) ∧ W.cell? ⟨wr.heap.size, 2, none⟩ = some (.slice Av f.vars.length cv) ∧ W.cell? ⟨wr.heap.size, 3, none⟩ = some (.int .i64 f.body.op) ∧ W.cell? ⟨wr.heap.size, 4, none⟩ = some (.int .i64 f.body.n) ∧ W.cell? ⟨wr.heap.size, 5, none⟩ = some (.int .i64 f.body.ty) ∧ W.cell? ⟨wr.heap.size, 6, none⟩ = some (.slice Ax f.body.args.length cx) ∧ W.cell? ⟨wr.heap.size, 7, none⟩ = some (.slice Bx f.body.brs.length dx))
        (first | exact HCX.out _ (Ext.rf _).drew | exact HCX.out _ HX9.out | exact HCX.out _ HX11.out | fail "KEEP")
        (first
          | (go_at_call 28; (with_reducible refine (HPA.out _ (by first | exact (Ext.rf _).drew | exact Ext.rf _)).mono ?_); rintro e w9 ⟨⟨p, mx, ma, rfl, hp1, hp2, hp3, hrc⟩, hx9⟩; have HXV := Lib.hid hx9; have HRC := Lib.hid hrc; have HX9 : Hid (Ext w3 w9) := Ext.tr (Ext.rf w3).drew hx9; clear hrc hx9)
          | (go_at_call 29; (with_reducible refine (HGO.out w3.drew _ _ _ _ (Ext.rf _).drew HXV.out hp2 hp3 HRC.out).mono ?_); rintro e w11 ⟨rfl, hx11⟩; have HX11 := Lib.hid hx11; clear hx11)
          | fail "ARM")
      cases r
      · have HRF : Hid (R = false) := by show _ = _; rw [← HR.out, HD.out, HST.out]; rfl
        go_wp2
        go_ret
        exact ⟨ret_bool HRF.out.symm, HX3.out.tr HX11.out⟩
      · have HG : Hid (C.funs.all (funT C) = (C.funs.drop (j + 1)).all (funT C)) := by show _ = _; rw [HD.out, HST.out]; rfl
        go_wp2
        exact ⟨⟨j + 1, by omega, by go_num, HG.out, HX13.out.tr HX11.out⟩, by simp [intOf]; omega⟩
    · have HRT : Hid (R = true) := by show _ = _; rw [← HR.out, HD.out, List.drop_eq_nil_of_le (by omega)]; rfl
      go_wp2
      go_ret
      exact ⟨ret_bool HRT.out.symm, HX.out⟩
end Go.Proofs.YtkdhhcidpklgoaaGreatDoor

/- law.go: awake. -/
namespace Go.Proofs.YtkdhhcidpklgoaaGreatDoor
open Go.RowKit Go.Shelf
attribute [local go_sem] Oper.semAt_some

theorem box_six (w : World) (a b c d e f : Obj) : ∃ W, W = (((((w.alloc a).alloc b).alloc c).alloc d).alloc e).alloc f ∧ W.heap[w.heap.size]? = some a ∧ W.heap[w.heap.size + 1]? = some b ∧ W.heap[w.heap.size + 1 + 1]? = some c ∧ W.heap[w.heap.size + 1 + 1 + 1]? = some d ∧ W.heap[w.heap.size + 1 + 1 + 1 + 1]? = some e ∧ W.heap[w.heap.size + 1 + 1 + 1 + 1 + 1]? = some f ∧ Ext w W := by
  obtain ⟨h1, h2, h3⟩ := box_three w a b c
  obtain ⟨h4, h5, h6⟩ := box_three (((w.alloc a).alloc b).alloc c) d e f
  simp only [World.size_alloc] at h4 h5 h6
  have x : Ext (((w.alloc a).alloc b).alloc c) ((((((w.alloc a).alloc b).alloc c).alloc d).alloc e).alloc f) := (Ext.al2 _ _ _).tr (Ext.al _ _)
  exact ⟨_, rfl, x.lt h1, x.lt h2, x.lt h3, h4, h5, h6, ((Ext.al2 _ _ _).tr (Ext.al _ _)).tr x⟩
theorem RInts.two {w : World} {b : Nat} {x y : Int} {T : Nat} (h : w.heap[b]? = some (.cells #[.int .i64 x, .int .i64 y] T (0, 0))) (h1 : ok64 x) (h2 : ok64 y) : RInts w (.slice (some ⟨b, 0, none⟩) 2 2) [x, y] :=
  ⟨_, 2, rfl, Nat.le_refl _, by decide, fun i a hi => by
    match i, hi with
    | 0, hi => obtain rfl := Option.some.inj hi; exact ⟨_, _, rfl, heap_lt h, cellAt h 0, h1⟩
    | 1, hi => obtain rfl := Option.some.inj hi; exact ⟨_, _, rfl, heap_lt h, cellAt h 1, h2⟩⟩
theorem bn_leaf (op n ty : Int) : BN (.mk op n ty [] []) := ⟨by rw [bndN_eq]; simp [Nd.args, Nd.brs, bndA, bndB], by rw [cntN_eq]; simp [Nd.args, Nd.brs, cntA, cntB]⟩
set_option maxHeartbeats 8000000 in
set_option maxRecDepth 100000 in
theorem awake_any (w : World) (htab : Tabs w) : Calls Tryz.prog 7 #[] w fun e w' => e = .returned (.bool true) ∧ Ext w w' := by
  have hmf : ∀ (fn : Fn) (first cap : Array Value) (w : World), (Instr.makeFunc fn first cap).run Tryz.prog w = .ok (.func fn first cap) w := fun _ _ _ _ => rfl
  have HTAB := Lib.hid htab
  have HP := Lib.hid (box_six w (.cells #[.string ⟨#[78, 105, 108]⟩, .slice none 0 0] 55) (.cells #[.string ⟨#[108, 105, 115, 116]⟩, .bool false, .slice (some ⟨w.heap.size, 0, none⟩) 1 1] 58) (.cells #[.slice (some ⟨w.heap.size + 1, 0, none⟩) 1 1] 22) (.cells #[.int .i64 0, .int .i64 0, .int .i64 0, .slice none 0 0, .slice none 0 0] 36) (.cells #[.int .i64 14, .int .i64 0, .int .i64 0, .slice (some ⟨w.heap.size + 1 + 1 + 1, 0, none⟩) 1 1, .slice none 0 0] 36) (.cells #[.int .i64 7, .int .i64 0, .int .i64 0, .slice (some ⟨w.heap.size + 1 + 1 + 1 + 1, 0, none⟩) 1 1, .slice none 0 0] 36))
  clear htab
  obtain ⟨w6, hw6, b0, b1, b2, b3, b4, b5, hx6⟩ := HP.out
  have H2 := Lib.hid b2; have H5 := Lib.hid b5; have HX6 := Lib.hid hx6
  have HD := Lib.hid (ex_decl b0 b1)
  have HMU : Hid (RNd w6 3 exMu (.slice (some ⟨w.heap.size + 1 + 1 + 1 + 1, 0, none⟩) 1 1) (.slice none 0 0)) := RNd.one (a := exDone) (ok64_lit (by decide)) (ok64_lit (by decide)) (ok64_lit (by decide)) b4 (RNd.one (a := exVar) (ok64_lit (by decide)) (ok64_lit (by decide)) (ok64_lit (by decide)) b3 (RNd.leaf _ _ _ _ _ (ok64_lit (by decide)) (ok64_lit (by decide)) (ok64_lit (by decide))))
  clear b0 b1 b2 b3 b4 b5 hx6 HP
  have HCUT : Hid (∀ (p : Nd) W, Ext w6 W → RNd W 3 p (.slice none 0 0) (.slice none 0 0) → Calls Tryz.prog 19 #[nV p (.slice none 0 0) (.slice none 0 0), .pointer (some ⟨w.heap.size + 1 + 1, 0, none⟩), .pointer (some ⟨w.heap.size + 1 + 1 + 1 + 1 + 1, 0, none⟩)] W fun e w' => ∃ g, e = .returned (cV (.slice (some ⟨w.heap.size + 1, 0, none⟩) 1 1) (.slice (some ⟨g, 0, none⟩) 1 1)) ∧ RCg w' (.slice (some ⟨w.heap.size + 1, 0, none⟩) 1 1) (.slice (some ⟨g, 0, none⟩) 1 1) (exC p) ∧ Ext W w') := fun p W hW hp =>
    cut_any p _ _ W 3 _ _ _ 0 _ hp (HMU.out.below hW) (HD.out.below hW) (hW.lt H2.out) (hW.lt H5.out)
  go_enter Tryz.func7, Tryz.ntmps7
  go_wp2_with fail
  rw [← hw6]
  clear hw6
  refine (HCUT.out exInt w6 (Ext.rf _) (RNd.leaf _ _ _ _ _ (ok64_lit (by decide)) (ok64_lit (by decide)) (ok64_lit (by decide)))).mono ?_
  rintro e w7 ⟨g, rfl, hc7, hx7⟩
  have HC7 := Lib.hid hc7; have HX7 := Lib.hid hx7
  clear hc7 hx7
  obtain ⟨h1, h2, h3⟩ := box_three w7 (.cells #[.slice (some ⟨w.heap.size + 1, 0, none⟩) 1 1, .slice (some ⟨g, 0, none⟩) 1 1] 25) (.cells #[.int .i64 4, .int .i64 4] 3) (.cells #[.int .i64 0, .int .i64 1] 3)
  have h0 := heapNew w7 (.cells #[.slice (some ⟨w.heap.size + 1, 0, none⟩) 1 1, .slice (some ⟨g, 0, none⟩) 1 1] 25)
  have p0 := cellAt h0 0
  have p1 := cellAt h0 1
  have HB1 := Lib.hid h1
  have HX8 := Lib.hid ((Ext.al2 w7 (.cells #[.slice (some ⟨w.heap.size + 1, 0, none⟩) 1 1, .slice (some ⟨g, 0, none⟩) 1 1] 25) (.cells #[.int .i64 4, .int .i64 4] 3)).tr (Ext.al _ (.cells #[.int .i64 0, .int .i64 1] 3)))
  have HI1 := Lib.hid (RInts.two h2 (ok64_lit (by decide)) (ok64_lit (by decide)))
  have HI2 := Lib.hid (RInts.two h3 (ok64_lit (by decide)) (ok64_lit (by decide)))
  have HXT : Hid (Ext w _) := (HX6.out.tr HX7.out).tr HX8.out
  have HTY := Lib.hid (kindType_any _ _ _ _ _ _ _ _ (exC exInt) [4, 4] [] [0, 1] [] exX 1 _ (HC7.out.below HX8.out) (ex_sh exInt) (HTAB.out.ext HXT.out) (ex_bn exInt (by decide)) HI1.out (RInts.nil _) HI2.out (RInts.nil _) (RNd.leaf _ 0 0 4 0 (ok64_lit (by decide)) (ok64_lit (by decide)) (ok64_lit (by decide))) (bn_leaf 0 4 0) (by decide) (by decide))
  rw [ex_t1] at HTY
  clear h1 h2 h3 h0
  go_wp2_with fail
  refine (HTY.out).mono ?_
  rintro e w9 ⟨rfl, hx9⟩
  have HB9 := Lib.hid (hx9.lt HB1.out)
  have HX79 : Hid (Ext w7 w9) := HX8.out.tr hx9
  have HX9 : Hid (Ext w w9) := HXT.out.tr hx9
  clear hx9 p0 p1
  have p0 := cellAt HB9.out 0
  have p1 := cellAt HB9.out 1
  have HCK := Lib.hid (kindCheck_any _ _ (exC exInt) w9 (HC7.out.below HX79.out) (ex_sh exInt) (HTAB.out.ext HX9.out) (ex_bn exInt (by decide)))
  rw [ex_k1] at HCK
  go_wp2_with fail
  refine (HCK.out).mono ?_
  rintro e w10 ⟨rfl, hx10⟩
  have HX10 := Lib.hid (HX9.out.tr hx10)
  have HX610 := Lib.hid ((HX7.out.tr HX79.out).tr hx10)
  clear hx10 p0 p1
  go_wp2_with fail
  refine (HCUT.out exNil w10 HX610.out (RNd.leaf _ _ _ _ _ (ok64_lit (by decide)) (ok64_lit (by decide)) (ok64_lit (by decide)))).mono ?_
  rintro e w11 ⟨g', rfl, hc11, hx11⟩
  have HX11 := Lib.hid (HX10.out.tr hx11)
  have HC2 := Lib.hid (kindCheck_any _ _ (exC exNil) w11 hc11 (ex_sh exNil) (HTAB.out.ext HX11.out) (ex_bn exNil (by decide)))
  rw [ex_k2] at HC2
  clear hc11 hx11
  go_wp2_with fail
  refine (HC2.out).mono ?_
  rintro e w12 ⟨rfl, hx12⟩
  go_wp2
  go_ret
  exact ⟨rfl, HX11.out.tr hx12⟩
end Go.Proofs.YtkdhhcidpklgoaaGreatDoor

/- law.go: KindForms; right, asked. -/
namespace Go.Proofs.YtkdhhcidpklgoaaGreatDoor
open Go.RowKit Go.Shelf Go.Maps
attribute [local go_sem] Oper.semAt_some

theorem kindC_no {C : Cg} (h : coreB C = false) : kindC C = 60 := by unfold kindC; rw [h]; rfl
theorem kindC_yes {C : Cg} (h : coreB C = true) : kindC C = if C.funs.all (funT C) then 0 else 70 := by unfold kindC; rw [h]; rfl
set_option maxHeartbeats 8000000 in
set_option maxRecDepth 100000 in
theorem kindForms_any (vd vf : Value) (C : Cg) (w : World) (hC : RCg w vd vf C) (hS : ShC C) (htab : Tabs w) (hB : ∀ f ∈ C.funs, BN f.body) :
    Calls Tryz.prog 3 #[cV vd vf] w fun e w' => e = .returned (.bool true) ∧ Ext w w' := by
  have HFE := Lib.hid (fun W (hW : Ext w W) => few6_any vd vf C 3000 W (hC.below hW) hB (by decide) (by decide))
  have HAW := Lib.hid (fun W (hW : Ext w W) => awake_any W (htab.ext hW))
  have HCK := Lib.hid (fun W (hW : Ext w W) => kindCheck_any vd vf C W (hC.below hW) hS (htab.ext hW) hB)
  have HIS := Lib.hid (fun W (hW : Ext w W) => is6_any vd vf C W (hC.below hW) hS hB)
  have HI7 := Lib.hid (fun (hv : coreB C = true) W (hW : Ext w W) => is7_any vd vf C W (hC.below hW) hS hB hv)
  obtain ⟨Ad, cd, rfl, -, -⟩ := hC.d.form
  obtain ⟨Af, cf, rfl, -, -⟩ := hC.f.form
  have HE1 := Lib.hid (Ext.al w (.cells #[.slice Ad C.decls.length cd, .slice Af C.funs.length cf] 25))
  have HB1 := Lib.hid (heapNew w (.cells #[.slice Ad C.decls.length cd, .slice Af C.funs.length cf] 25))
  have HK0 := Lib.hid (@kindC_no C)
  have HK1 := Lib.hid (@kindC_yes C)
  clear hC hS htab hB
  have p0 := cellAt HB1.out 0
  have p1 := cellAt HB1.out 1
  cases hfe : fewN 3000 C
  · rw [hfe] at HFE
    clear hfe
    go_enter Tryz.func3, Tryz.ntmps3
    go_wp2_with (first
      | (go_at_call 6; (with_reducible refine (HFE.out _ HE1.out).mono ?_); rintro e w2 ⟨rfl, hx2⟩)
      | (go_at_call 7; (with_reducible refine (HAW.out _ (HE1.out.tr hx2)).mono ?_); rintro e w3 ⟨rfl, hx3⟩)
      | fail "none")
    go_ret
    exact ⟨rfl, (HE1.out.tr hx2).tr hx3⟩
  rw [hfe] at HFE
  clear hfe
  cases hco : coreB C
  · rw [hco] at HIS
    have HK := Lib.hid (HK0.out hco)
    rw [HK.out] at HCK
    clear hco HI7
    go_enter Tryz.func3, Tryz.ntmps3
    go_wp2_with (first
      | (go_at_call 6; (with_reducible refine (HFE.out _ HE1.out).mono ?_); rintro e w2 ⟨rfl, hx2⟩; have HX2 := Lib.hid (HE1.out.tr hx2); have hb2 := hx2.lt HB1.out; have HB2 := Lib.hid hb2; clear p0 p1; have p0 := cellAt hb2 0; have p1 := cellAt hb2 1; clear hx2 hb2)
      | (go_at_call 8; (with_reducible refine (HCK.out _ HX2.out).mono ?_); rintro e w3 ⟨rfl, hx3⟩; have HX3 := Lib.hid (HX2.out.tr hx3); have hb3 := hx3.lt HB2.out; clear p0 p1; have p0 := cellAt hb3 0; have p1 := cellAt hb3 1; clear hx3 hb3)
      | (go_at_call 9; (with_reducible refine (HIS.out _ HX3.out).mono ?_); rintro e w4 ⟨rfl, hx4⟩; have HX4 := Lib.hid (HX3.out.tr hx4); clear hx4)
      | (go_at_call 7; (with_reducible refine (HAW.out _ HX4.out).mono ?_); rintro e w5 ⟨rfl, hx5⟩)
      | fail "none")
    go_ret
    exact ⟨rfl, HX4.out.tr hx5⟩
  rw [hco] at HIS
  have HK := Lib.hid (HK1.out hco)
  have HI8 := Lib.hid (HI7.out hco)
  clear hco HI7
  cases hal : C.funs.all (funT C)
  all_goals
    rw [hal] at HI8 HK
    have HKK : Hid (kindC C = _) := HK.out
    simp only [Bool.false_eq_true, if_false, if_true] at HKK
    have hkk := HKK.out
    rw [hkk] at HCK
    clear hal hkk HKK HK
    go_enter Tryz.func3, Tryz.ntmps3
    go_wp2_with (first
      | (go_at_call 6; (with_reducible refine (HFE.out _ HE1.out).mono ?_); rintro e w2 ⟨rfl, hx2⟩; have HX2 := Lib.hid (HE1.out.tr hx2); have hb2 := hx2.lt HB1.out; have HB2 := Lib.hid hb2; clear p0 p1; have p0 := cellAt hb2 0; have p1 := cellAt hb2 1; clear hx2 hb2)
      | (go_at_call 8; (with_reducible refine (HCK.out _ HX2.out).mono ?_); rintro e w3 ⟨rfl, hx3⟩; have HX3 := Lib.hid (HX2.out.tr hx3); have hb3 := hx3.lt HB2.out; have HB3 := Lib.hid hb3; clear p0 p1; have p0 := cellAt hb3 0; have p1 := cellAt hb3 1; clear hx3 hb3)
      | (go_at_call 9; (with_reducible refine (HIS.out _ HX3.out).mono ?_); rintro e w4 ⟨rfl, hx4⟩; have HX4 := Lib.hid (HX3.out.tr hx4); have hb4 := hx4.lt HB3.out; clear p0 p1; have p0 := cellAt hb4 0; have p1 := cellAt hb4 1; clear hx4 hb4)
      | (go_at_call 10; (with_reducible refine (HI8.out _ HX4.out).mono ?_); rintro e w5 ⟨rfl, hx5⟩; have HX5 := Lib.hid (HX4.out.tr hx5); clear hx5)
      | (go_at_call 7; (with_reducible refine (HAW.out _ HX5.out).mono ?_); rintro e w6 ⟨rfl, hx6⟩)
      | fail "none")
    go_ret
    exact ⟨rfl, HX5.out.tr hx6⟩
end Go.Proofs.YtkdhhcidpklgoaaGreatDoor
