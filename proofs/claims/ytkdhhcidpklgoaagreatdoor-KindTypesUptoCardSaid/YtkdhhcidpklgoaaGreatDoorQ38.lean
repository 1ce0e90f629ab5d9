/- ref07: NewScope. -/
import Derived.Test.YtkdhhcidpklgoaaGreatDoorQ37
import Derived.BigQuiet
import Derived.Deep.RegionHeld3
namespace Go.Proofs.YtkdhhcidpklgoaaGreatDoor
open Go.RowKit Go.Shelf Go.Maps
attribute [local go_sem] Oper.semAt_some

theorem setVs_append : ∀ (xs : List Vr) (ts : List Int) (f : Fv) (ys : List Vr) (us : List Int), xs.length = ts.length → setVs f (xs ++ ys) (ts ++ us) = setVs (setVs f xs ts) ys us
  | [], [], _, _, _, _ => by simp [setVs]
  | x :: r, t :: ts, f, ys, us, h => by
    have := setVs_append r ts (setV f x t) ys us (by simpa using h)
    simpa [setVs] using this
  | [], _ :: _, _, _, _, h => by simp at h
  | _ :: _, [], _, _, _, h => by simp at h
def zF : Fv := fun _ => 0
theorem lastE_nil : lastE (fun _ => []) = zF := rfl
theorem setVs_step (f : Fv) (s : Int) {l ts : List Int} {k : Nat} (h1 : k < l.length) (h2 : k < ts.length) : setVs f (varsOf s (l.take (k + 1))) (ts.take (k + 1)) = setV (setVs f (varsOf s (l.take k)) (ts.take k)) (s, l[k]) ts[k] := by
  have hx : ∀ m, varsOf s (l.take m) = (varsOf s l).take m := fun m => by unfold varsOf; rw [List.map_take]
  rw [hx, hx, setVs_take _ _ _ _ (by rw [varsOf_len]; exact h1) h2]
  congr 1
  unfold varsOf
  rw [List.getElem_map]
set_option maxHeartbeats 8000000 in
set_option maxRecDepth 100000 in
theorem newScope7_any (v1 v2 v3 v4 : Value) (l1 l2 l3 l4 : List Int) (w : World) (h1 : RInts w v1 l1) (h2 : RInts w v2 l2) (h3 : RInts w v3 l3) (h4 : RInts w v4 l4) (e1 : l1.length = l2.length) (e2 : l3.length = l4.length) (hl1 : l1.length ≤ 1048576) (hl3 : l3.length ≤ 1048576) :
    Calls Tryz.prog 14 #[v1, v2, v3, v4] w fun e w' => (∃ p mx ma, e = .returned (.pointer (some ⟨p, 0, none⟩)) ∧ w.heap.size ≤ p ∧ w.heap.size ≤ mx ∧ w.heap.size ≤ ma ∧ RS w' p mx ma (l1.length + l3.length) (lastE (pushE (fun _ => []) (varsOf 0 l1 ++ varsOf 1 l3) (l2 ++ l4)))) ∧ Ext w w' := by
  rw [setVs_push, lastE_nil, setVs_append _ _ _ _ _ (by rw [varsOf_len]; exact e1)]
  have HR1 := Lib.hid h1; have HR2 := Lib.hid h2; have HR3 := Lib.hid h3; have HR4 := Lib.hid h4; have HE1 := Lib.hid e1; have HE2 := Lib.hid e2
  obtain ⟨A1, c1, rfl, -, -⟩ := h1.form
  obtain ⟨A2, c2, rfl, -, -⟩ := h2.form
  obtain ⟨A3, c3, rfl, -, -⟩ := h3.form
  obtain ⟨A4, c4, rfl, -, -⟩ := h4.form
  clear h1 h2 h3 h4
  have hx3 : Ext w (((w.alloc (.map #[] 0)).alloc (.map #[] 0)).alloc (.cells #[.map (some w.heap.size), .map (some (w.heap.size + 1))] 89)) := (Ext.al2 _ _ _).tr (Ext.al _ _)
  have hrc : RS (((w.alloc (.map #[] 0)).alloc (.map #[] 0)).alloc (.cells #[.map (some w.heap.size), .map (some (w.heap.size + 1))] 89)) (w.heap.size + 1 + 1) w.heap.size (w.heap.size + 1) 0 zF := by
    refine ⟨heapNew3 _ _ _ _, ?_, ?_, by omega⟩
    · exact (MapZ.new intT zI w).ext ((Ext.al _ _).tr (Ext.al _ _))
    · have := (MapZ.new intT zI (w.alloc (.map #[] 0))).ext (Ext.al _ (.cells #[.map (some w.heap.size), .map (some (w.heap.size + 1))] 89))
      rw [show (w.alloc (.map #[] 0)).heap.size = w.heap.size + 1 by simp] at this
      exact this
  have HX3 := Lib.hid hx3; have HRC := Lib.hid hrc
  clear hx3 hrc e1 e2
  have hmm := @run_makeMap Tryz.prog
  go_enter Tryz.func14, Tryz.ntmps14
  go_wp2
  generalize ((w.alloc _).alloc _).alloc _ = w1 at *
  go_loopw [20] (fun i wr => ∃ k : Nat, k ≤ l1.length ∧ i = .int .i64 k ∧ RS wr (w.heap.size + 1 + 1) w.heap.size (w.heap.size + 1) k (setVs zF (varsOf 0 (l1.take k)) (l2.take k)) ∧ TrC w.heap.size (w.heap.size + 1) w1 wr) (fun i _ => l1.length - (intOf i).toNat)
  case atStart => exact ⟨0, Nat.zero_le _, rfl, HRC.out, Only.rf _ _⟩
  case round =>
    obtain ⟨k, hk, rfl, hrc, htr⟩ := hrel
    have HR := Lib.hid hrc; have HT := Lib.hid htr
    have hxr := htr.below HX3.out (Nat.le_refl _) (by omega)
    have HXR := Lib.hid hxr
    clear hrc htr hxr
    by_cases hlt : k < l1.length
    · have hlt2 : k < l2.length := by have := HE1.out; omega
      obtain ⟨b, o, rfl, hbl, y0, hok⟩ := HR1.out.at_ hlt
      obtain ⟨b2, o2, rfl, hbl2, z0, -⟩ := HR2.out.at_ hlt2
      have y0 := HXR.out.keep y0
      have z0 := HXR.out.keep z0
      have hz := setVs_step zF 0 hlt hlt2
      obtain ⟨w2, hu, hr2, ht2⟩ := (HR.out.ext (Ext.rf wr).drew).putx hok (by unfold maxLen; omega) l2[k]
      rw [← hz] at hr2
      have HR2' := Lib.hid hr2
      have HT2 : Hid (TrC w.heap.size (w.heap.size + 1) wr w2) := TrC.tr (TrC.ext (Ext.rf wr).drew) ht2
      clear hz hok hr2 ht2
      generalize l1[k] = a at *
      generalize l2[k] = ty at *
      have HCX : Hid (∀ W, TrC w.heap.size (w.heap.size + 1) wr W → W.cell? ⟨w.heap.size + 1 + 1, 0, none⟩ = some (.map (some w.heap.size)) ∧ W.cell? ⟨b2, o2 + k, none⟩ = some (.int .i64 ty)) := fun W h =>
        ⟨cellAt (HR.out.cells h HR.out.box) 0, HR.out.box' h z0⟩
      have hki : (k : Int) < l1.length := by omega
      have hki2 : (k : Int) < l2.length := by omega
      have hk0 : (0 : Int) ≤ k := by omega
      go_wp2
      have z0' := z0
      obtain ⟨q0, q1⟩ := HCX.out wr (Only.rf _ _)
      go_region_held3 (fun W => W.cell? ⟨w.heap.size + 1 + 1, 0, none⟩ = some (.map (some w.heap.size)) ∧ W.cell? ⟨b2, o2 + k, none⟩ = some (.int .i64 ty))
        (first | exact HCX.out _ (TrC.ext (Ext.rf _).drew) | exact HCX.out _ HT2.out | exact HCX.out _ (Only.rf _ _) | fail "KEEP")
        (fail)
      all_goals
        go_wp2
        exact ⟨⟨k + 1, by omega, by go_num, HR2'.out, TrC.tr HT.out HT2.out⟩, by simp [intOf]; omega⟩
    · have hke : k = l1.length := by omega
      subst hke
      have HRA : Hid (RS wr (w.heap.size + 1 + 1) w.heap.size (w.heap.size + 1) (l1.length + 0) (setVs (setVs zF (varsOf 0 l1) l2) (varsOf 1 (l3.take 0)) (l4.take 0))) := by
        have h5 := HR.out
        rw [List.take_of_length_le (Nat.le_refl _), List.take_of_length_le (by have := HE1.out; omega)] at h5
        exact h5
      go_wp2
      go_loopw [37] (fun i wr => ∃ k : Nat, k ≤ l3.length ∧ i = .int .i64 k ∧ RS wr (w.heap.size + 1 + 1) w.heap.size (w.heap.size + 1) (l1.length + k) (setVs (setVs zF (varsOf 0 l1) l2) (varsOf 1 (l3.take k)) (l4.take k)) ∧ TrC w.heap.size (w.heap.size + 1) w1 wr) (fun i _ => l3.length - (intOf i).toNat)
      case atStart => exact ⟨0, Nat.zero_le _, rfl, HRA.out, HT.out⟩
      case round =>
        obtain ⟨k, hk, rfl, hrc, htr⟩ := hrel
        have HRb := Lib.hid hrc; have HTb := Lib.hid htr
        have hxr := htr.below HX3.out (Nat.le_refl _) (by omega)
        have HXRb := Lib.hid hxr
        clear hrc htr hxr
        by_cases hlt : k < l3.length
        · have hlt2 : k < l4.length := by have := HE2.out; omega
          obtain ⟨b, o, rfl, hbl, y0, hok⟩ := HR3.out.at_ hlt
          obtain ⟨b2, o2, rfl, hbl2, z0, -⟩ := HR4.out.at_ hlt2
          have y0 := HXRb.out.keep y0
          have z0 := HXRb.out.keep z0
          have hz := setVs_step (setVs zF (varsOf 0 l1) l2) 1 hlt hlt2
          obtain ⟨w2, hu, hr2, ht2⟩ := (HRb.out.ext (Ext.rf wr).drew).puta hok (by unfold maxLen; omega) l4[k]
          rw [← hz] at hr2
          have HR2' := Lib.hid hr2
          have HT2 : Hid (TrC w.heap.size (w.heap.size + 1) wr w2) := TrC.tr (TrC.ext (Ext.rf wr).drew) ht2
          clear hz hok hr2 ht2
          generalize l3[k] = a at *
          generalize l4[k] = ty at *
          have HCX : Hid (∀ W, TrC w.heap.size (w.heap.size + 1) wr W → W.cell? ⟨w.heap.size + 1 + 1, 1, none⟩ = some (.map (some (w.heap.size + 1))) ∧ W.cell? ⟨b2, o2 + k, none⟩ = some (.int .i64 ty)) := fun W h =>
            ⟨cellAt (HRb.out.cells h HRb.out.box) 1, HRb.out.box' h z0⟩
          have hki : (k : Int) < l3.length := by omega
          have hki2 : (k : Int) < l4.length := by omega
          have hk0 : (0 : Int) ≤ k := by omega
          go_wp2
          have z0' := z0
          obtain ⟨q0, q1⟩ := HCX.out wr (Only.rf _ _)
          go_region_held3 (fun W => W.cell? ⟨w.heap.size + 1 + 1, 1, none⟩ = some (.map (some (w.heap.size + 1))) ∧ W.cell? ⟨b2, o2 + k, none⟩ = some (.int .i64 ty))
            (first | exact HCX.out _ (TrC.ext (Ext.rf _).drew) | exact HCX.out _ HT2.out | exact HCX.out _ (Only.rf _ _) | fail "KEEP")
            (fail)
          all_goals
            go_wp2
            exact ⟨⟨k + 1, by omega, by go_num, HR2'.out, TrC.tr HTb.out HT2.out⟩, by simp [intOf]; omega⟩
        · have hke : k = l3.length := by omega
          subst hke
          have HRB : Hid (RS wr (w.heap.size + 1 + 1) w.heap.size (w.heap.size + 1) (l1.length + l3.length) (setVs (setVs zF (varsOf 0 l1) l2) (varsOf 1 l3) l4)) := by
            have h5 := HRb.out
            rw [List.take_of_length_le (Nat.le_refl _), List.take_of_length_le (by have := HE2.out; omega)] at h5
            exact h5
          go_wp2
          go_ret
          exact ⟨⟨_, _, _, rfl, by omega, by omega, by omega, HRB.out⟩, HXRb.out⟩
end Go.Proofs.YtkdhhcidpklgoaaGreatDoor

/- ref07: Params, Is. -/
namespace Go.Proofs.YtkdhhcidpklgoaaGreatDoor
open Go.RowKit Go.Shelf Go.Maps
attribute [local go_sem] Oper.semAt_some

end Go.Proofs.YtkdhhcidpklgoaaGreatDoor

/- law.go: awake. -/
namespace Go.Proofs.YtkdhhcidpklgoaaGreatDoor
open Go.RowKit Go.Shelf
attribute [local go_sem] Oper.semAt_some

theorem box_six (w : World) (a b c d e f : Obj) : ∃ W, W = (((((w.alloc a).alloc b).alloc c).alloc d).alloc e).alloc f ∧ W.heap[w.heap.size]? = some a ∧ W.heap[w.heap.size + 1]? = some b ∧ W.heap[w.heap.size + 1 + 1]? = some c ∧ W.heap[w.heap.size + 1 + 1 + 1]? = some d ∧ W.heap[w.heap.size + 1 + 1 + 1 + 1]? = some e ∧ W.heap[w.heap.size + 1 + 1 + 1 + 1 + 1]? = some f ∧ Ext w W := by
  obtain ⟨h1, h2, h3⟩ := box_three w a b c
  obtain ⟨h4, h5, h6⟩ := box_three (((w.alloc a).alloc b).alloc c) d e f
  simp only [World.size_alloc] at h4 h5 h6
  have x : Ext (((w.alloc a).alloc b).alloc c) ((((((w.alloc a).alloc b).alloc c).alloc d).alloc e).alloc f) := (Ext.al2 _ _ _).tr (Ext.al _ _)
  exact ⟨_, rfl, x.lt h1, x.lt h2, x.lt h3, h4, h5, h6, ((Ext.al2 _ _ _).tr (Ext.al _ _)).tr x⟩
theorem RInts.two {w : World} {b : Nat} {x y : Int} {T : Nat} (h : w.heap[b]? = some (.cells #[.int .i64 x, .int .i64 y] T (0, 0))) (h1 : ok64 x) (h2 : ok64 y) : RInts w (.slice (some ⟨b, 0, none⟩) 2 2) [x, y] :=
  ⟨_, 2, rfl, Nat.le_refl _, by decide, fun i a hi => by
    match i, hi with
    | 0, hi => obtain rfl := Option.some.inj hi; exact ⟨_, _, rfl, heap_lt h, cellAt h 0, h1⟩
    | 1, hi => obtain rfl := Option.some.inj hi; exact ⟨_, _, rfl, heap_lt h, cellAt h 1, h2⟩⟩
theorem bn_leaf (op n ty : Int) : BN (.mk op n ty [] []) := ⟨by rw [bndN_eq]; simp [Nd.args, Nd.brs, bndA, bndB], by rw [cntN_eq]; simp [Nd.args, Nd.brs, cntA, cntB]⟩
set_option maxHeartbeats 8000000 in
set_option maxRecDepth 100000 in
theorem awake_any (w : World) (htab : Tabs w) : Calls Tryz.prog 7 #[] w fun e w' => e = .returned (.bool true) ∧ Ext w w' := by
  have hmf : ∀ (fn : Fn) (first cap : Array Value) (w : World), (Instr.makeFunc fn first cap).run Tryz.prog w = .ok (.func fn first cap) w := fun _ _ _ _ => rfl
  have HTAB := Lib.hid htab
  have HP := Lib.hid (box_six w (.cells #[.string ⟨#[78, 105, 108]⟩, .slice none 0 0] 55) (.cells #[.string ⟨#[108, 105, 115, 116]⟩, .bool false, .slice (some ⟨w.heap.size, 0, none⟩) 1 1] 58) (.cells #[.slice (some ⟨w.heap.size + 1, 0, none⟩) 1 1] 22) (.cells #[.int .i64 0, .int .i64 0, .int .i64 0, .slice none 0 0, .slice none 0 0] 36) (.cells #[.int .i64 14, .int .i64 0, .int .i64 0, .slice (some ⟨w.heap.size + 1 + 1 + 1, 0, none⟩) 1 1, .slice none 0 0] 36) (.cells #[.int .i64 7, .int .i64 0, .int .i64 0, .slice (some ⟨w.heap.size + 1 + 1 + 1 + 1, 0, none⟩) 1 1, .slice none 0 0] 36))
  clear htab
  obtain ⟨w6, hw6, b0, b1, b2, b3, b4, b5, hx6⟩ := HP.out
  have H2 := Lib.hid b2; have H5 := Lib.hid b5; have HX6 := Lib.hid hx6
  have HD := Lib.hid (ex_decl b0 b1)
  have HMU : Hid (RNd w6 3 exMu (.slice (some ⟨w.heap.size + 1 + 1 + 1 + 1, 0, none⟩) 1 1) (.slice none 0 0)) := RNd.one (a := exDone) (ok64_lit (by decide)) (ok64_lit (by decide)) (ok64_lit (by decide)) b4 (RNd.one (a := exVar) (ok64_lit (by decide)) (ok64_lit (by decide)) (ok64_lit (by decide)) b3 (RNd.leaf _ _ _ _ _ (ok64_lit (by decide)) (ok64_lit (by decide)) (ok64_lit (by decide))))
  clear b0 b1 b2 b3 b4 b5 hx6 HP
  have HCUT : Hid (∀ (p : Nd) W, Ext w6 W → RNd W 3 p (.slice none 0 0) (.slice none 0 0) → Calls Tryz.prog 19 #[nV p (.slice none 0 0) (.slice none 0 0), .pointer (some ⟨w.heap.size + 1 + 1, 0, none⟩), .pointer (some ⟨w.heap.size + 1 + 1 + 1 + 1 + 1, 0, none⟩)] W fun e w' => ∃ g, e = .returned (cV (.slice (some ⟨w.heap.size + 1, 0, none⟩) 1 1) (.slice (some ⟨g, 0, none⟩) 1 1)) ∧ RCg w' (.slice (some ⟨w.heap.size + 1, 0, none⟩) 1 1) (.slice (some ⟨g, 0, none⟩) 1 1) (exC p) ∧ Ext W w') := fun p W hW hp =>
    cut_any p _ _ W 3 _ _ _ 0 _ hp (HMU.out.below hW) (HD.out.below hW) (hW.lt H2.out) (hW.lt H5.out)
  go_enter Tryz.func7, Tryz.ntmps7
  go_wp2_with fail
  rw [← hw6]
  clear hw6
  refine (HCUT.out exInt w6 (Ext.rf _) (RNd.leaf _ _ _ _ _ (ok64_lit (by decide)) (ok64_lit (by decide)) (ok64_lit (by decide)))).mono ?_
  rintro e w7 ⟨g, rfl, hc7, hx7⟩
  have HC7 := Lib.hid hc7; have HX7 := Lib.hid hx7
  clear hc7 hx7
  obtain ⟨h1, h2, h3⟩ := box_three w7 (.cells #[.slice (some ⟨w.heap.size + 1, 0, none⟩) 1 1, .slice (some ⟨g, 0, none⟩) 1 1] 25) (.cells #[.int .i64 4, .int .i64 4] 3) (.cells #[.int .i64 0, .int .i64 1] 3)
  have h0 := heapNew w7 (.cells #[.slice (some ⟨w.heap.size + 1, 0, none⟩) 1 1, .slice (some ⟨g, 0, none⟩) 1 1] 25)
  have p0 := cellAt h0 0
  have p1 := cellAt h0 1
  have HB1 := Lib.hid h1
  have HX8 := Lib.hid ((Ext.al2 w7 (.cells #[.slice (some ⟨w.heap.size + 1, 0, none⟩) 1 1, .slice (some ⟨g, 0, none⟩) 1 1] 25) (.cells #[.int .i64 4, .int .i64 4] 3)).tr (Ext.al _ (.cells #[.int .i64 0, .int .i64 1] 3)))
  have HI1 := Lib.hid (RInts.two h2 (ok64_lit (by decide)) (ok64_lit (by decide)))
  have HI2 := Lib.hid (RInts.two h3 (ok64_lit (by decide)) (ok64_lit (by decide)))
  have HXT : Hid (Ext w _) := (HX6.out.tr HX7.out).tr HX8.out
  have HTY := Lib.hid (kindType_any _ _ _ _ _ _ _ _ (exC exInt) [4, 4] [] [0, 1] [] exX 1 _ (HC7.out.below HX8.out) (ex_sh exInt) (HTAB.out.ext HXT.out) (ex_bn exInt (by decide)) HI1.out (RInts.nil _) HI2.out (RInts.nil _) (RNd.leaf _ 0 0 4 0 (ok64_lit (by decide)) (ok64_lit (by decide)) (ok64_lit (by decide))) (bn_leaf 0 4 0) (by decide) (by decide))
  rw [ex_t1] at HTY
  clear h1 h2 h3 h0
  go_wp2_with fail
  refine (HTY.out).mono ?_
  rintro e w9 ⟨rfl, hx9⟩
  have HB9 := Lib.hid (hx9.lt HB1.out)
  have HX79 : Hid (Ext w7 w9) := HX8.out.tr hx9
  have HX9 : Hid (Ext w w9) := HXT.out.tr hx9
  clear hx9 p0 p1
  have p0 := cellAt HB9.out 0
  have p1 := cellAt HB9.out 1
  have HCK := Lib.hid (kindCheck_any _ _ (exC exInt) w9 (HC7.out.below HX79.out) (ex_sh exInt) (HTAB.out.ext HX9.out) (ex_bn exInt (by decide)))
  rw [ex_k1] at HCK
  go_wp2_with fail
  refine (HCK.out).mono ?_
  rintro e w10 ⟨rfl, hx10⟩
  have HX10 := Lib.hid (HX9.out.tr hx10)
  have HX610 := Lib.hid ((HX7.out.tr HX79.out).tr hx10)
  clear hx10 p0 p1
  go_wp2_with fail
  refine (HCUT.out exNil w10 HX610.out (RNd.leaf _ _ _ _ _ (ok64_lit (by decide)) (ok64_lit (by decide)) (ok64_lit (by decide)))).mono ?_
  rintro e w11 ⟨g', rfl, hc11, hx11⟩
  have HX11 := Lib.hid (HX10.out.tr hx11)
  have HC2 := Lib.hid (kindCheck_any _ _ (exC exNil) w11 hc11 (ex_sh exNil) (HTAB.out.ext HX11.out) (ex_bn exNil (by decide)))
  rw [ex_k2] at HC2
  clear hc11 hx11
  go_wp2_with fail
  refine (HC2.out).mono ?_
  rintro e w12 ⟨rfl, hx12⟩
  go_wp2
  go_ret
  exact ⟨rfl, HX11.out.tr hx12⟩
end Go.Proofs.YtkdhhcidpklgoaaGreatDoor

/- law.go: KindForms; right, asked. -/
namespace Go.Proofs.YtkdhhcidpklgoaaGreatDoor
open Go.RowKit Go.Shelf Go.Maps
attribute [local go_sem] Oper.semAt_some

set_option maxHeartbeats 4000000 in
set_option maxRecDepth 100000 in
theorem right_any (vd vf v : Value) (C : Cg) (l : List Int) (w : World) (hC : RCg w vd vf C) (h : RInts w v l) (hl : l.length ≤ 1048576) :
    Calls Tryz.prog 38 #[cV vd vf, v] w fun e w' => e = .returned (.bool (typesOK C l)) ∧ Ext w w' := by
  have H := Lib.hid h
  obtain ⟨Ad, cd, rfl, -, -⟩ := hC.d.form
  obtain ⟨Af, cf, rfl, -, -⟩ := hC.f.form
  obtain ⟨A, c, rfl, -, -⟩ := h.form
  have HE1 := Lib.hid (Ext.al w (.cells #[.slice Ad C.decls.length cd, .slice Af C.funs.length cf] 25))
  have HB1 := Lib.hid (heapNew w (.cells #[.slice Ad C.decls.length cd, .slice Af C.funs.length cf] 25))
  obtain ⟨R, hR⟩ : ∃ R, typesOK C l = R := ⟨_, rfl⟩
  rw [hR]
  have HR : Hid (l.all (isTypeC C) = R) := hR
  clear hC h hR
  go_enter Tryz.func38, Tryz.ntmps38
  go_wp2
  generalize w.alloc _ = w1 at *
  go_loopw [9] (fun i wr => ∃ k : Nat, k ≤ l.length ∧ i = .int .i64 k ∧ l.all (isTypeC C) = (l.drop k).all (isTypeC C) ∧ Ext w1 wr) (fun i _ => l.length - (intOf i).toNat)
  case atStart => exact ⟨0, Nat.zero_le _, rfl, rfl, Ext.rf _⟩
  case round =>
    obtain ⟨k, hk, rfl, hd, hx⟩ := hrel
    have HD := Lib.hid hd; have HX := Lib.hid hx
    have p0 := cellAt (hx.lt HB1.out) 0
    clear hd hx
    by_cases hlt : k < l.length
    · obtain ⟨b, o, rfl, hbl, y0, -⟩ := H.out.at_ hlt
      have y0 := (HE1.out.tr HX.out).keep y0
      have HST : Hid ((l.drop k).all (isTypeC C) = (isTypeC C l[k] && (l.drop (k + 1)).all (isTypeC C))) := by show _ = _; rw [List.drop_eq_getElem_cons hlt, List.all_cons]
      generalize l[k] = a at *
      have HIT : Hid (isTypeC C a = (decide (0 ≤ a) && decide (a ≤ C.decls.length))) := rfl
      have hki : (k : Int) < l.length := by omega
      by_cases g0 : 0 ≤ a
      · by_cases g1 : a ≤ C.decls.length
        · have g0' : ¬ a < 0 := by omega
          have g1' : ¬ (C.decls.length : Int) < a := by omega
          have HG : Hid (l.all (isTypeC C) = (l.drop (k + 1)).all (isTypeC C)) := by show _ = _; rw [HD.out, HST.out, HIT.out, decide_eq_true g0, decide_eq_true g1]; rfl
          go_wp2
          exact ⟨⟨k + 1, by omega, by go_num, HG.out, HX.out⟩, by simp [intOf]; omega⟩
        · have g0' : ¬ a < 0 := by omega
          have g1' : (C.decls.length : Int) < a := by omega
          have HRF : Hid (R = false) := by show _ = _; rw [← HR.out, HD.out, HST.out, HIT.out, decide_eq_false g1]; simp
          go_wp2
          go_ret
          exact ⟨ret_bool HRF.out.symm, HE1.out.tr HX.out⟩
      · have g0' : a < 0 := by omega
        have HRF : Hid (R = false) := by show _ = _; rw [← HR.out, HD.out, HST.out, HIT.out, decide_eq_false g0]; rfl
        go_wp2
        go_ret
        exact ⟨ret_bool HRF.out.symm, HE1.out.tr HX.out⟩
    · have HRT : Hid (R = true) := by show _ = _; rw [← HR.out, HD.out, List.drop_eq_nil_of_le (by omega)]; rfl
      go_wp2
      go_ret
      exact ⟨ret_bool HRT.out.symm, HE1.out.tr HX.out⟩
end Go.Proofs.YtkdhhcidpklgoaaGreatDoor

/- law.go: asked. -/
namespace Go.Proofs.YtkdhhcidpklgoaaGreatDoor
open Go.RowKit Go.Shelf Go.Maps
attribute [local go_sem] Oper.semAt_some

theorem typesOK_app (C : Cg) (l k : List Int) : typesOK C (l ++ k) = (typesOK C l && typesOK C k) := by unfold typesOK; rw [List.all_append]
/-- The variables in scope. -/
def scV (xs ar : List Int) : Sc := addS (fun _ => false) (varsOf 0 xs ++ varsOf 1 ar)
/-- What the law asks of the arguments is what the package asks. -/
theorem askC_ref (C : Cg) (xs ar tx ta : List Int) (t : Nd) : askC C xs ar tx ta t = (decide (xs.length = tx.length) && (decide (ar.length = ta.length) && (typesOK C tx && (typesOK C ta && (decide ((cntN t : Int) ≤ 30000) && (decide ((dpN t : Int) ≤ 4000) && vN C (scV xs ar) t)))))) := by
  unfold askC
  rw [typesOK_app]
  have hs : ((sizeC 30000 4000 t).2 && !decide (sortN C (addS (fun _ => false) (varsOf 0 xs ++ varsOf 1 ar)) t = 3)) = (decide ((cntN t : Int) ≤ 30000) && (decide ((dpN t : Int) ≤ 4000) && vN C (scV xs ar) t)) := by
    show ((sizeC 30000 4000 t).2 && vN C (scV xs ar) t) = _
    cases hv : vN C (scV xs ar) t
    · simp
    · have h3 : sortN C (scV xs ar) t ≠ 3 := by
        intro e
        unfold vN at hv
        rw [e] at hv; cases hv
      rw [sizeC_sz, cnt_sz C t _ h3]
      by_cases h1 : (szN t : Int) ≤ 30000
      · by_cases h2 : (dpN t : Int) ≤ 4000
        · rw [if_pos ⟨h1, h2⟩, decide_eq_true h1, decide_eq_true h2]; rfl
        · rw [if_neg (fun h => h2 h.2), decide_eq_false h2]; simp
      · rw [if_neg (fun h => h1 h.1), decide_eq_false h1]; rfl
  rw [hs]
  simp [Bool.and_assoc]
set_option maxHeartbeats 16000000 in
set_option maxRecDepth 100000 in
theorem asked_any (vd vf vx va vt vu xa xb : Value) (C : Cg) (xs ys tx ta : List Int) (t : Nd) (k : Nat) (w : World) (hC : RCg w vd vf C) (hS : ShC C) (hx : RInts w vx xs) (ha : RInts w va ys) (ht : RInts w vt tx) (hu : RInts w vu ta) (hn : RNd w k t xa xb) (hb : BN t) (hl1 : xs.length + ys.length ≤ 1048576) (hl2 : tx.length + ta.length ≤ 1048576) :
    Calls Tryz.prog 13 #[cV vd vf, vx, va, tysV vt vu, nV t xa xb] w fun e w' => e = .returned (.bool (askC C xs ys tx ta t)) ∧ Ext w w' := by
  have HR1 := Lib.hid (fun W (hW : Ext w W) => right_any vd vf vt C tx W (hC.below hW) (ht.below hW) (by omega))
  have HR2 := Lib.hid (fun W (hW : Ext w W) => right_any vd vf vu C ta W (hC.below hW) (hu.below hW) (by omega))
  have HFI := Lib.hid (fun W (hW : Ext w W) => fits6_any k t xa xb 30000 W (hn.below hW) hb (by decide) (by decide))
  have HSI := Lib.hid (fun W (hW : Ext w W) => size6_any k t xa xb W (hn.below hW) hb)
  have HNS := Lib.hid (fun W (hW : Ext w W) => newScope6_any vx va xs ys W (hx.below hW) (ha.below hW) (by omega) (by omega))
  have HVA : Hid (∀ W0 W p mx ma, Ext w W0 → Ext W0 W → W0.heap.size ≤ mx → W0.heap.size ≤ ma → RC W p mx ma (xs.length + ys.length) (addC (fun _ => 0) (varsOf 0 xs ++ varsOf 1 ys) 1) → Calls Tryz.prog 25 #[cV vd vf, .pointer (some ⟨p, 0, none⟩), nV t xa xb] W fun e w' => e = .returned (.bool (vN C (scV xs ys) t)) ∧ Ext W0 w') := fun W0 W p mx ma h0 hW h1 h2 hr =>
    valid_new vd vf C W0 W p mx ma _ _ (scV xs ys) k t xa xb (hC.below h0) hS (hn.below h0) hb hW h1 h2 hr (by unfold varsOf; simp; omega) (by omega) rfl
  have hdp := szdp_cnt t
  have hbc := hb.c
  obtain ⟨Ad, cd, rfl, -, -⟩ := hC.d.form
  obtain ⟨Af, cf, rfl, -, -⟩ := hC.f.form
  obtain ⟨-, ⟨Ax, cx, rfl, -, -⟩, ⟨Bx, dx, rfl, -, -⟩⟩ := hn.form
  obtain ⟨A1, c1, rfl, -, -⟩ := hx.form
  obtain ⟨A2, c2, rfl, -, -⟩ := ha.form
  obtain ⟨A3, c3, rfl, -, -⟩ := ht.form
  obtain ⟨A4, c4, rfl, -, -⟩ := hu.form
  obtain ⟨w3, hw3⟩ : ∃ w3, w3 = ((w.alloc (.cells #[.slice Ad C.decls.length cd, .slice Af C.funs.length cf] 25)).alloc (.cells #[.slice A3 tx.length c3, .slice A4 ta.length c4] 32)).alloc (.cells #[.int .i64 t.op, .int .i64 t.n, .int .i64 t.ty, .slice Ax t.args.length cx, .slice Bx t.brs.length dx] 36) := ⟨_, rfl⟩
  have HE3 : Hid (Ext w w3) := by show Ext w w3; rw [hw3]; exact ((Ext.al _ _).tr (Ext.al _ _)).tr (Ext.al _ _)
  have hb3 := box_three w (.cells #[.slice Ad C.decls.length cd, .slice Af C.funs.length cf] 25) (.cells #[.slice A3 tx.length c3, .slice A4 ta.length c4] 32) (.cells #[.int .i64 t.op, .int .i64 t.n, .int .i64 t.ty, .slice Ax t.args.length cx, .slice Bx t.brs.length dx] 36)
  rw [← hw3] at hb3
  have HB1 := Lib.hid hb3.1; have HB2 := Lib.hid hb3.2.1; have HB3 := Lib.hid hb3.2.2
  have HASK := Lib.hid (askC_ref C xs ys tx ta t)
  generalize askC C xs ys tx ta t = R at *
  clear hC hS hx ha ht hu hn hb hb3
  have HCE : Hid (∀ W, Ext w3 W → W.cell? ⟨w.heap.size, 0, none⟩ = some (.slice Ad C.decls.length cd) ∧ W.cell? ⟨w.heap.size, 1, none⟩ = some (.slice Af C.funs.length cf) ∧ W.cell? ⟨w.heap.size + 1, 0, none⟩ = some (.slice A3 tx.length c3) ∧ W.cell? ⟨w.heap.size + 1, 1, none⟩ = some (.slice A4 ta.length c4) ∧ W.cell? ⟨w.heap.size + 1 + 1, 0, none⟩ = some (.int .i64 t.op) ∧ W.cell? ⟨w.heap.size + 1 + 1, 1, none⟩ = some (.int .i64 t.n) ∧ W.cell? ⟨w.heap.size + 1 + 1, 2, none⟩ = some (.int .i64 t.ty) ∧ W.cell? ⟨w.heap.size + 1 + 1, 3, none⟩ = some (.slice Ax t.args.length cx) ∧ W.cell? ⟨w.heap.size + 1 + 1, 4, none⟩ = some (.slice Bx t.brs.length dx)) := fun W h => by
    have h1 := h.lt HB1.out
    have h2 := h.lt HB2.out
    have h3 := h.lt HB3.out
    exact ⟨cellAt h1 0, cellAt h1 1, cellAt h2 0, cellAt h2 1, cellAt h3 0, cellAt h3 1, cellAt h3 2, cellAt h3 3, cellAt h3 4⟩
  obtain ⟨p0, p1, t0, t1, n0, n1, n2, n3, n4⟩ := HCE.out w3 (Ext.rf _)
  have hz0 : (0 : Int) < 2 := by decide
  by_cases hxl : xs.length = tx.length
  rotate_left
  · have HRF : Hid (R = false) := by show _ = _; rw [HASK.out, decide_eq_false hxl]; rfl
    have e1 : ((xs.length : Int) == (tx.length : Int)) = false := by simpa using fun e => hxl (by omega)
    have e2 : ((xs.length : Int) != (tx.length : Int)) = true := by rw [bne, e1]; rfl
    clear hxl
    go_enter Tryz.func13, Tryz.ntmps13
    go_wp2_with fail
    rw [← hw3]
    go_wp2
    go_ret
    exact ⟨ret_bool HRF.out.symm, HE3.out⟩
  rw [decide_eq_true hxl] at HASK
  have e1 : ((xs.length : Int) == (tx.length : Int)) = true := beq_iff_eq.2 (by omega)
  have e2 : ((xs.length : Int) != (tx.length : Int)) = false := by rw [bne, e1]; rfl
  clear hxl
  by_cases hyl : ys.length = ta.length
  rotate_left
  · have HRF : Hid (R = false) := by show _ = _; rw [HASK.out, decide_eq_false hyl]; rfl
    have e3 : ((ys.length : Int) == (ta.length : Int)) = false := by simpa using fun e => hyl (by omega)
    have e4 : ((ys.length : Int) != (ta.length : Int)) = true := by rw [bne, e3]; rfl
    clear hyl
    go_enter Tryz.func13, Tryz.ntmps13
    go_wp2_with fail
    rw [← hw3]
    go_wp2
    go_ret
    exact ⟨ret_bool HRF.out.symm, HE3.out⟩
  rw [decide_eq_true hyl] at HASK
  have e3 : ((ys.length : Int) == (ta.length : Int)) = true := beq_iff_eq.2 (by omega)
  have e4 : ((ys.length : Int) != (ta.length : Int)) = false := by rw [bne, e3]; rfl
  clear hyl
  cases hq1 : typesOK C tx
  · rw [hq1] at HR1 HASK
    have HRF : Hid (R = false) := by show _ = _; rw [HASK.out]; rfl
    clear hq1
    go_enter Tryz.func13, Tryz.ntmps13
    go_wp2_with fail
    rw [← hw3]
    go_wp2_with (first
      | (go_at_call 38; (with_reducible refine (HR1.out _ HE3.out).mono ?_); rintro e w4 ⟨rfl, hx4⟩; have HX4 := Lib.hid hx4; clear p0 p1 t0 t1 n0 n1 n2 n3 n4; obtain ⟨p0, p1, t0, t1, n0, n1, n2, n3, n4⟩ := HCE.out _ HX4.out; clear hx4)
      | fail "none")
    go_ret
    exact ⟨ret_bool HRF.out.symm, HE3.out.tr HX4.out⟩
  rw [hq1] at HR1 HASK
  clear hq1
  cases hq2 : typesOK C ta
  · rw [hq2] at HR2 HASK
    have HRF : Hid (R = false) := by show _ = _; rw [HASK.out]; rfl
    clear hq2
    go_enter Tryz.func13, Tryz.ntmps13
    go_wp2_with fail
    rw [← hw3]
    go_wp2_with (first
      | (go_at_call 38; (with_reducible refine (HR2.out _ (HE3.out.tr HX4.out)).mono ?_); rintro e w5 ⟨rfl, hx5⟩; have HX5 := Lib.hid (HX4.out.tr hx5); clear p0 p1 t0 t1 n0 n1 n2 n3 n4; obtain ⟨p0, p1, t0, t1, n0, n1, n2, n3, n4⟩ := HCE.out _ HX5.out; clear hx5)
      | (go_at_call 38; (with_reducible refine (HR1.out _ HE3.out).mono ?_); rintro e w4 ⟨rfl, hx4⟩; have HX4 := Lib.hid hx4; clear p0 p1 t0 t1 n0 n1 n2 n3 n4; obtain ⟨p0, p1, t0, t1, n0, n1, n2, n3, n4⟩ := HCE.out _ HX4.out; clear hx4)
      | fail "none")
    go_ret
    exact ⟨ret_bool HRF.out.symm, HE3.out.tr HX5.out⟩
  rw [hq2] at HR2 HASK
  clear hq2
  have HFI2 : Hid (∀ W, Ext w W → Calls Tryz.prog 11 #[nV t (.slice Ax t.args.length cx) (.slice Bx t.brs.length dx), .int .i64 30000] W fun e w' => e = .returned (.bool (decide ((cntN t : Int) ≤ 30000))) ∧ Ext W w') := HFI.out
  by_cases hcn : (cntN t : Int) ≤ 30000
  rotate_left
  · have HRF : Hid (R = false) := by show _ = _; rw [HASK.out, decide_eq_false hcn]; rfl
    rw [decide_eq_false hcn] at HFI2
    clear hcn
    go_enter Tryz.func13, Tryz.ntmps13
    go_wp2_with fail
    rw [← hw3]
    go_wp2_with (first
      | (go_at_call 38; (with_reducible refine (HR2.out _ (HE3.out.tr HX4.out)).mono ?_); rintro e w5 ⟨rfl, hx5⟩; have HX5 := Lib.hid (HX4.out.tr hx5); clear p0 p1 t0 t1 n0 n1 n2 n3 n4; obtain ⟨p0, p1, t0, t1, n0, n1, n2, n3, n4⟩ := HCE.out _ HX5.out; clear hx5)
      | (go_at_call 38; (with_reducible refine (HR1.out _ HE3.out).mono ?_); rintro e w4 ⟨rfl, hx4⟩; have HX4 := Lib.hid hx4; clear p0 p1 t0 t1 n0 n1 n2 n3 n4; obtain ⟨p0, p1, t0, t1, n0, n1, n2, n3, n4⟩ := HCE.out _ HX4.out; clear hx4)
      | (go_at_call 11; (with_reducible refine (HFI2.out _ (HE3.out.tr HX5.out)).mono ?_); rintro e w6 ⟨rfl, hx6⟩; have HX6 := Lib.hid (HX5.out.tr hx6); clear p0 p1 t0 t1 n0 n1 n2 n3 n4; obtain ⟨p0, p1, t0, t1, n0, n1, n2, n3, n4⟩ := HCE.out _ HX6.out; clear hx6)
      | fail "none")
    go_ret
    exact ⟨ret_bool HRF.out.symm, HE3.out.tr HX6.out⟩
  rw [decide_eq_true hcn] at HFI2 HASK
  obtain ⟨dp, hdpe⟩ : ∃ dp, dpN t = dp := ⟨_, rfl⟩
  rw [hdpe] at HSI HASK
  clear hdp hcn hdpe hbc
  have hmx : Tryz.prog.follows .mixedOrders = true := by kernel_rfl
  by_cases hd4 : (dp : Int) ≤ 4000
  rotate_left
  · have HRF : Hid (R = false) := by show _ = _; rw [HASK.out, decide_eq_false hd4]; rfl
    have cb : decide ((dp : Int) ≤ 4000) = false := decide_eq_false hd4
    go_enter Tryz.func13, Tryz.ntmps13
    go_wp2_with fail
    rw [← hw3]
    go_wp2_with (first
      | (go_at_call 38; (with_reducible refine (HR2.out _ (HE3.out.tr HX4.out)).mono ?_); rintro e w5 ⟨rfl, hx5⟩; have HX5 := Lib.hid (HX4.out.tr hx5); clear p0 p1 t0 t1 n0 n1 n2 n3 n4; obtain ⟨p0, p1, t0, t1, n0, n1, n2, n3, n4⟩ := HCE.out _ HX5.out; clear hx5)
      | (go_at_call 38; (with_reducible refine (HR1.out _ HE3.out).mono ?_); rintro e w4 ⟨rfl, hx4⟩; have HX4 := Lib.hid hx4; clear p0 p1 t0 t1 n0 n1 n2 n3 n4; obtain ⟨p0, p1, t0, t1, n0, n1, n2, n3, n4⟩ := HCE.out _ HX4.out; clear hx4)
      | (go_at_call 11; (with_reducible refine (HFI2.out _ (HE3.out.tr HX5.out)).mono ?_); rintro e w6 ⟨rfl, hx6⟩; have HX6 := Lib.hid (HX5.out.tr hx6); clear p0 p1 t0 t1 n0 n1 n2 n3 n4; obtain ⟨p0, p1, t0, t1, n0, n1, n2, n3, n4⟩ := HCE.out _ HX6.out; clear hx6)
      | (go_at_call 18; (with_reducible refine (HSI.out _ (HE3.out.tr HX6.out)).mono ?_); rintro e w7 ⟨rfl, hx7⟩; have HX7 := Lib.hid (HX6.out.tr hx7); clear p0 p1 t0 t1 n0 n1 n2 n3 n4; obtain ⟨p0, p1, t0, t1, n0, n1, n2, n3, n4⟩ := HCE.out _ HX7.out; clear hx7)
      | fail "none")
    go_quiet (fail)
    go_wp2
    go_ret
    exact ⟨ret_bool HRF.out.symm, HE3.out.tr (HX7.out.drewN _)⟩
  have cb : decide ((dp : Int) ≤ 4000) = true := decide_eq_true hd4
  have HRF : Hid (R = vN C (scV xs ys) t) := by show _ = _; rw [HASK.out, cb]; rfl
  go_enter Tryz.func13, Tryz.ntmps13
  go_wp2_with fail
  rw [← hw3]
  go_wp2_with (first
    | (go_at_call 38; (with_reducible refine (HR2.out _ (HE3.out.tr HX4.out)).mono ?_); rintro e w5 ⟨rfl, hx5⟩; have HX5 := Lib.hid (HX4.out.tr hx5); clear p0 p1 t0 t1 n0 n1 n2 n3 n4; obtain ⟨p0, p1, t0, t1, n0, n1, n2, n3, n4⟩ := HCE.out _ HX5.out; clear hx5)
    | (go_at_call 38; (with_reducible refine (HR1.out _ HE3.out).mono ?_); rintro e w4 ⟨rfl, hx4⟩; have HX4 := Lib.hid hx4; clear p0 p1 t0 t1 n0 n1 n2 n3 n4; obtain ⟨p0, p1, t0, t1, n0, n1, n2, n3, n4⟩ := HCE.out _ HX4.out; clear hx4)
    | (go_at_call 11; (with_reducible refine (HFI2.out _ (HE3.out.tr HX5.out)).mono ?_); rintro e w6 ⟨rfl, hx6⟩; have HX6 := Lib.hid (HX5.out.tr hx6); clear p0 p1 t0 t1 n0 n1 n2 n3 n4; obtain ⟨p0, p1, t0, t1, n0, n1, n2, n3, n4⟩ := HCE.out _ HX6.out; clear hx6)
    | (go_at_call 18; (with_reducible refine (HSI.out _ (HE3.out.tr HX6.out)).mono ?_); rintro e w7 ⟨rfl, hx7⟩; have HX7 := Lib.hid (HX6.out.tr hx7); clear p0 p1 t0 t1 n0 n1 n2 n3 n4; obtain ⟨p0, p1, t0, t1, n0, n1, n2, n3, n4⟩ := HCE.out _ HX7.out; clear hx7)
    | fail "none")
  have HNS7 : Hid (∀ W, Ext w7 W → Calls Tryz.prog 26 #[.slice A1 xs.length c1, .slice A2 ys.length c2] W _) := fun W hW => HNS.out W (HE3.out.tr (HX7.out.tr hW))
  have HCE7 : Hid (∀ W, Ext w7 W → _) := fun W hW => HCE.out W (HX7.out.tr hW)
  obtain ⟨r, hr⟩ : ∃ r, vN C (scV xs ys) t = r := ⟨_, rfl⟩
  rw [hr] at HVA HRF
  clear hr
  go_region_held3 (fun W => W.cell? ⟨w.heap.size, 0, none⟩ = some (.slice Ad C.decls.length cd) ∧ W.cell? ⟨w.heap.size, 1, none⟩ = some (.slice Af C.funs.length cf) ∧ W.cell? ⟨w.heap.size + 1, 0, none⟩ = some (.slice A3 tx.length c3) ∧ W.cell? ⟨w.heap.size + 1, 1, none⟩ = some (.slice A4 ta.length c4) ∧ W.cell? ⟨w.heap.size + 1 + 1, 0, none⟩ = some (.int .i64 t.op) ∧ W.cell? ⟨w.heap.size + 1 + 1, 1, none⟩ = some (.int .i64 t.n) ∧ W.cell? ⟨w.heap.size + 1 + 1, 2, none⟩ = some (.int .i64 t.ty) ∧ W.cell? ⟨w.heap.size + 1 + 1, 3, none⟩ = some (.slice Ax t.args.length cx) ∧ W.cell? ⟨w.heap.size + 1 + 1, 4, none⟩ = some (.slice Bx t.brs.length dx))
    (first | exact HCE7.out _ (Ext.rf _).drew | exact HCE7.out _ HX10.out | exact HCE7.out _ HX11.out | fail "KEEP")
    (first
      | (go_at_call 26; (with_reducible refine (HNS7.out _ (by first | exact (Ext.rf _).drew | exact Ext.rf _)).mono ?_); rintro e w10 ⟨⟨p, mx, ma, rfl, hp1, hp2, hp3, hrc⟩, hx10⟩; have HXV := Lib.hid hx10; have HRC := Lib.hid hrc; have HX10 : Hid (Ext w7 w10) := Ext.tr (Ext.rf w7).drew hx10; clear hrc hx10)
      | (go_at_call 25; (with_reducible refine (HVA.out w7.drew _ _ _ _ (HE3.out.tr (HX7.out.tr (Ext.rf w7).drew)) HXV.out hp2 hp3 HRC.out).mono ?_); rintro e w11 ⟨rfl, hx11⟩; have HX11 : Hid (Ext w7 w11) := Ext.tr (Ext.rf w7).drew hx11; clear hx11)
      | fail "ARM")
  all_goals
    go_wp2
    go_ret
    exact ⟨ret_bool HRF.out.symm, HE3.out.tr (HX7.out.tr HX11.out)⟩
end Go.Proofs.YtkdhhcidpklgoaaGreatDoor
