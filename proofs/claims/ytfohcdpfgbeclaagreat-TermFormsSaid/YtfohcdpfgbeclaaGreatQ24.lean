/- ref.go: Calls. -/
import Derived.Test.YtfohcdpfgbeclaaGreatQ23
namespace Go.Proofs.YtfohcdpfgbeclaaGreat
open Go.RowKit

theorem Tryz.info4 : (Tryz.prog.info? 4).map (fun i => (i.zero, i.size, i.bytes)) = some (some (.bool false), 1, 1) := by kernel_rfl
theorem Tryz.u75 : Tryz.prog.underlying 75 = some (.slice 4) := by kernel_rfl
theorem Tryz.u32 : Tryz.prog.underlying 32 = some (.slice 57) := by kernel_rfl
theorem rep_arr (n : Nat) : ((List.replicate n false).map Value.bool).toArray = Array.replicate n (Value.bool false) := by simp
theorem made_false (n : Nat) : madeCells #[Value.bool false] n = (((List.replicate n false).map Value.bool).toArray) := by
  apply Array.ext
  · simp [size_madeCells]
  · intro i h1 h2
    have hz : (#[Value.bool false] : Array Value)[0]! = Value.bool false := rfl
    simp [madeCells, Nat.mod_one]
theorem make_bools (w : World) (n : Nat) (h : n ≤ 281474976710656) : (Instr.makeSlice 75 (.int .i64 n) (.int .i64 n)).run Tryz.prog w = .ok (.slice (some ⟨w.heap.size, 0, none⟩) n n) (w.alloc (.cells (Array.replicate n (Value.bool false)) 4)) := by
  obtain ⟨i0, hi, hz0, hz1, hz2⟩ := info_parts Tryz.info4
  have := run_make w 75 4 i0 (.bool false) Tryz.u75 hi hz0 .i64 .i64 n n (by omega) (by omega) (by rw [hz2]; omega) (by omega)
  rw [this, hz1]
  simp only [Int.toNat_natCast, Nat.mul_one]
  rw [show (Value.bool false).cells = #[Value.bool false] from rfl, made_false, rep_arr]
theorem rowI_at {w w' : World} {B e size n : Nat} {v : Value} {xs : List Value} (h : w.ownsRow B e size v n xs) (hk : ∀ g cur, v.ownBlock = some g → w.heap[g]? = some (.cells cur e (0, 0)) → w'.heap[g]? = w.heap[g]?) : w'.ownsRow B e size v n xs := by
  obtain ⟨h1, h2⟩ := h
  refine ⟨h1, ?_⟩
  rcases h2 with h2 | ⟨g, cap, cur, rfl, e2, e3, e4⟩
  · exact .inl h2
  · exact .inr ⟨g, cap, cur, rfl, e2, (hk g cur rfl e3).trans e3, e4⟩
theorem rowI_other {w w' : World} {B e size n : Nat} {v : Value} {xs : List Value} {B' e' size' n' : Nat} {v' : Value} {ys : List Value} (h : w.ownsRow B e size v n xs) (hr : w.ownsRow B' e' size' v' n' ys) (hne : e ≠ e') (hg : w.grownBy w' v'.ownBlock) : w'.ownsRow B e size v n xs := rowI_at h fun g cur _ hc => by
  refine hg.block g (heap_lt hc) fun e' => ?_
  rcases hr.2 with ⟨rfl, _⟩ | ⟨g', cap, cur', rfl, _, hh, _⟩
  · simp [Value.ownBlock] at e'
  · have : g' = g := by simpa [Value.ownBlock] using e'.symm
    subst this
    rw [hc] at hh
    injection hh with hh
    injection hh with _ ht
    exact hne ht
/-- The rows laid so far. -/
def RowsI (w : World) (n : Nat) (fs : List Fn) (vs : List Value) : Prop :=
  ∀ (i : Nat) (v : Value) (f : Fn), vs[i]? = some v → fs[i]? = some f → w.ownsRow 0 3 1 v (upI (callsT f.body) n).length ((upI (callsT f.body) n).map (Value.int .i64))
theorem RowsI.ext {w w' : World} {n : Nat} {fs : List Fn} {vs : List Value} (h : RowsI w n fs vs) (hb : Ext w w') : RowsI w' n fs vs := fun i v f hv hf => own_below (h i v f hv hf) hb
theorem RowsI.grown {w w' : World} {n : Nat} {fs : List Fn} {vs : List Value} {B' n' : Nat} {v' : Value} {ys : List Value} (h : RowsI w n fs vs) (hr : w.ownsRow B' 57 1 v' n' ys) (hg : w.grownBy w' v'.ownBlock) : RowsI w' n fs vs :=
  fun i v f hv hf => rowI_other (h i v f hv hf) hr (by decide) hg
theorem RowsI.snoc {w : World} {n j : Nat} {fs : List Fn} {vs : List Value} {v : Value} {f : Fn} (h : RowsI w n fs vs) (hl : vs.length = j) (hf : fs[j]? = some f) (hv : w.ownsRow 0 3 1 v (upI (callsT f.body) n).length ((upI (callsT f.body) n).map (Value.int .i64))) : RowsI w n fs (vs ++ [v]) := fun i u g hu hg => by
  by_cases hi : i < vs.length
  · rw [List.getElem?_append_left hi] at hu
    exact h i u g hu hg
  · have hie : i = vs.length := by
      have := (List.getElem?_eq_some_iff.1 hu).1
      simp at this; omega
    subst hie
    simp at hu
    subst hu
    rw [hl, hf] at hg
    cases hg
    exact hv

set_option maxHeartbeats 4000000 in
set_option maxRecDepth 100000 in
theorem RCalls_any (P : Pg) (vd vf : Value) (w : World) (hd : RDecls w vd P.decls) (hf : RFns w vf P.funs) (hl : P.funs.length ≤ 40) (hn : ∀ f ∈ P.funs, nT f.body ≤ 1000000) (hr : ∀ f ∈ P.funs, ∀ y ∈ nodS f.body, y.op = 9 → 0 ≤ y.n ∧ y.n < P.funs.length) :
    Calls Tryz.prog 16 #[pV vd vf] w fun e w' => (∃ v vs, e = .returned v ∧ w'.ownsRow w.heap.size 57 1 v P.funs.length vs ∧ vs.length = P.funs.length ∧ RowsI w' P.funs.length P.funs vs) ∧ Ext w w' := by
  have HF := Lib.hid hf; have HN := Lib.hid hn; have HRG := Lib.hid hr
  obtain ⟨Ad, cd, rfl, hcd, hmd⟩ := hd.form
  obtain ⟨Af, cf, rfl, hcf, hmf⟩ := hf.form
  clear hd hf hn hr
  unfold maxLen at hmf hmd
  have HE := Lib.hid (Ext.al w (.cells #[.slice Ad P.decls.length cd, .slice Af P.funs.length cf] 25))
  have HB := Lib.hid (heapNew w (.cells #[.slice Ad P.decls.length cd, .slice Af P.funs.length cf] 25))
  have c0 := cellAt HB.out 0
  have c1 := cellAt HB.out 1
  go_enter Tryz.func16, Tryz.ntmps16
  go_wp2
  generalize w.alloc _ = w1 at *
  clear c0 c1
  go_loopw [3, 13] (fun s i wr => ∃ (j : Nat) (vs : List Value), j ≤ P.funs.length ∧ i = .int .i64 j ∧ wr.ownsRow w1.heap.size 57 1 s j vs ∧ vs.length = j ∧ RowsI wr P.funs.length P.funs vs ∧ Ext w1 wr) (fun _ i _ => P.funs.length - (intOf i).toNat)
  case atStart => exact ⟨0, [], Nat.zero_le _, rfl, ⟨rfl, .inl ⟨rfl, rfl⟩⟩, rfl, fun i v f h => by simp at h, Ext.rf _⟩
  case round =>
    obtain ⟨j, vs, hj, rfl, ho, hvl, hri, hb⟩ := hrel
    have HO := Lib.hid ho; have HVL := Lib.hid hvl; have HRI := Lib.hid hri; have HX := Lib.hid hb
    have HBB := Lib.hid ((hb.block _ (heap_lt HB.out)).trans HB.out)
    clear ho hvl hri hb
    by_cases hlt : j < P.funs.length
    · obtain ⟨b, o, vp, xa, xc, kf, rfl, hbl, y0, y1, y2, yc, y3, y4, y5⟩ := HF.out.at_ hlt
      have HFJ : Hid (P.funs[j]? = some P.funs[j]) := List.getElem?_eq_getElem hlt
      have HNT : Hid (nT (P.funs[j]).body ≤ 1000000) := HN.out _ (List.getElem_mem hlt)
      have HRX : Hid (∀ y ∈ nodS (P.funs[j]).body, y.op = 9 → 0 ≤ y.n ∧ y.n < P.funs.length) := HRG.out _ (List.getElem_mem hlt)
      have hX := HE.out.tr HX.out
      have y0 := hX.keep y0
      have y1 := hX.keep y1
      have y2 := hX.keep y2
      have yc := yc.below hX
      obtain ⟨Ap, cp, rfl, -, -⟩ := y4.form
      obtain ⟨_, ⟨Aa, ca, rfl, -, -⟩, ⟨Bb, cb, rfl, -, -⟩⟩ := y5.form
      have HK := Lib.hid (y5.below hX)
      have c30 := yc.c0
      have c31 := yc.c1
      have c32 := yc.c2
      have c33 := yc.c3
      have c34 := yc.c4
      have c35 := yc.c5
      generalize P.funs[j] = f at *
      clear y3 y4 y5 yc hX
      generalize hnf : P.funs.length = n at *
      have HNF : Hid (P.funs.length = n) := hnf
      clear hnf
      have hE8 := Ext.al wr (.cells #[.string f.nm, .slice Ap f.ps.length cp, .int .i64 f.res, .int .i64 f.body.op, .int .i64 f.body.n, .string f.body.nm, .int .i64 f.body.ty, .slice Aa f.body.args.length ca, .slice Bb f.body.cls.length cb] 62)
      have hmk := make_bools (wr.alloc (.cells #[.string f.nm, .slice Ap f.ps.length cp, .int .i64 f.res, .int .i64 f.body.op, .int .i64 f.body.n, .string f.body.nm, .int .i64 f.body.ty, .slice Aa f.body.args.length ca, .slice Bb f.body.cls.length cb] 62)) n (by omega)
      have p1 := hE8.keep (cellAt HBB.out 1)
      have hbb : BBlk ((wr.alloc (.cells #[.string f.nm, .slice Ap f.ps.length cp, .int .i64 f.res, .int .i64 f.body.op, .int .i64 f.body.n, .string f.body.nm, .int .i64 f.body.ty, .slice Aa f.body.args.length ca, .slice Bb f.body.cls.length cb] 62)).alloc (.cells (Array.replicate n (Value.bool false)) 4)) (wr.heap.size + 1) (List.replicate n false) := by
        have h := heapNew (wr.alloc (.cells #[.string f.nm, .slice Ap f.ps.length cp, .int .i64 f.res, .int .i64 f.body.op, .int .i64 f.body.n, .string f.body.nm, .int .i64 f.body.ty, .slice Aa f.body.args.length ca, .slice Bb f.body.cls.length cb] 62)) (.cells (Array.replicate n (Value.bool false)) 4)
        rw [World.size_alloc] at h
        unfold BBlk
        rw [rep_arr]
        exact h
      have HS9 := Lib.hid hbb
      have HE9 : Hid (Ext wr ((wr.alloc (.cells #[.string f.nm, .slice Ap f.ps.length cp, .int .i64 f.res, .int .i64 f.body.op, .int .i64 f.body.n, .string f.body.nm, .int .i64 f.body.ty, .slice Aa f.body.args.length ca, .slice Bb f.body.cls.length cb] 62)).alloc (.cells (Array.replicate n (Value.bool false)) 4))) := Ext.al2 _ _ _
      clear hbb hE8
      go_wp2_with fail
      clear hmk p1
      generalize World.alloc (World.alloc wr _) _ = w9 at *
      have hcall := rcalls_any kf f.body _ _ (wr.heap.size + 1) (List.replicate n false) w9 (HK.out.below HE9.out) HNT.out HS9.out (by rw [List.length_replicate]; exact HRX.out) (by rw [List.length_replicate]; omega)
      rw [List.length_replicate] at hcall
      (with_reducible refine hcall.mono ?_)
      clear hcall
      rintro e w10 ⟨rfl, ⟨S1, hs1, hm1⟩, ho1⟩
      have HS1 := Lib.hid hs1
      have HLS : Hid (S1.length = n) := by have := hm1.1; rw [List.length_replicate] at this; exact this
      have HMK : Hid (∀ i (hi : i < S1.length), S1[i] = callsT f.body i) := fun i hi => by
        have h := hm1.2 i (by rw [List.length_replicate, ← HLS.out]; exact hi)
        rw [List.getD_eq_getElem?_getD, List.getElem?_eq_getElem hi] at h
        simp at h
        have hin : i < n := by have := HLS.out; omega
        simpa [hin] using h
      have HX10 : Hid (Ext wr w10) := HE9.out.trans (ho1.below (B := wr.heap.size) HE9.out.size (fun k h => by rw [h]; omega))
      clear hs1 hm1 ho1 c30 c31 c32 c33 c34 c35 y0 y1 y2
      generalize hcc : callsT f.body = cc at *
      have HCC : Hid (callsT f.body = cc) := hcc
      clear hcc
      go_wp2
      generalize hgg : wr.heap.size + 1 = gg at *
      clear hgg
      have HO10 := Lib.hid (own_below HO.out HX10.out)
      have HRI10 := Lib.hid (HRI.out.ext HX10.out)
      have HX110 : Hid (Ext w1 w10) := HX.out.tr HX10.out
      have HW10 : Hid (w.heap.size ≤ w10.heap.size) := Nat.le_trans HE.out.size (Nat.le_trans HX.out.size HX10.out.size)
      clear HO HRI HX HX10 HE9 HS9 HBB
      go_loopw [7, 27] (fun s i wq => ∃ j2 : Nat, j2 ≤ n ∧ i = .int .i64 j2 ∧ wq.ownsRow w10.heap.size 3 1 s (upI cc j2).length ((upI cc j2).map (Value.int .i64)) ∧ Ext w10 wq) (fun _ i _ => n - (intOf i).toNat)
      case atStart => exact ⟨0, Nat.zero_le _, rfl, ⟨rfl, .inl ⟨rfl, rfl⟩⟩, Ext.rf _⟩
      case round =>
        obtain ⟨j2, hj2, rfl, ho, hb⟩ := hrel
        have HOI := Lib.hid ho
        have HXI := Lib.hid hb
        have HUL := Lib.hid (upI_len cc j2)
        clear ho hb
        by_cases hlt2 : j2 < n
        · have hls : j2 < S1.length := by have := HLS.out; omega
          have e0 := (HS1.out.ext HXI.out).cell hls
          have HV := Lib.hid (HMK.out j2 hls)
          generalize S1[j2] = sb at *
          cases hcj : cc j2
          · have hsb : sb = false := HV.out.trans hcj
            subst hsb
            have HUP : Hid (upI cc (j2 + 1) = upI cc j2) := by show _ = _; rw [upI, hcj]; rfl
            have HOF : Hid (wr.ownsRow w10.heap.size 3 1 u7 (upI cc (j2 + 1)).length ((upI cc (j2 + 1)).map (Value.int .i64))) := by show World.ownsRow _ _ _ _ _ _ _; rw [HUP.out]; exact HOI.out
            clear hcj
            go_wp2
            go_roundw
            case rel => first | exact ⟨j2 + 1, by omega, by go_num, HOF.out, HXI.out⟩ | ((repeat apply Exists.intro); exact ⟨⟨j2 + 1, by omega, by go_num, HOF.out, HXI.out⟩, rfl⟩)
            case measure => simp [intOf]; omega
          · have hsb : sb = true := HV.out.trans hcj
            subst hsb
            have HUP : Hid (upI cc (j2 + 1) = upI cc j2 ++ [(j2 : Int)]) := by show _ = _; rw [upI, hcj]; rfl
            clear hcj
            have HE11 := Lib.hid (Ext.al wr (.cells #[.int .i64 j2] 3))
            have hn11 := heapNew wr (.cells #[.int .i64 j2] 3)
            have HSO : Hid (SrcN _ (some ⟨wr.heap.size, 0, none⟩) 1 1 [.int .i64 j2]) := .inr ⟨_, rfl, rfl, fun i u hu => by
              have hi : i < 1 := (List.getElem?_eq_some_iff.1 hu).1
              match i, hi with
              | 0, _ => rw [add_at]; exact cellAt hn11 0 hu⟩
            clear hn11
            go_wp2_with (at_builtin; refine app_vals Tryz.u57 Tryz.info3 rfl (by decide) (by decide) rfl _ _ rfl w10.heap.size _ (upI cc j2).length ((upI cc j2).map (Value.int .i64)) rfl (own_below HOI.out HE11.out) (some ⟨wr.heap.size, 0, none⟩) 1 1 [.int .i64 j2] rfl HSO.out (fun u hu => by rw [List.mem_singleton.1 hu]; rfl) (by have := HUL.out; omega) (Nat.le_trans HXI.out.size HE11.out.size) ?_)
            intro v12 w12 ho12 hg12
            have HX12 : Hid (Ext w10 w12) := (HXI.out.tr HE11.out).trans (grown_ext' hg12 (own_below HOI.out HE11.out) (Nat.le_trans HXI.out.size HE11.out.size))
            have HOF : Hid (w12.ownsRow w10.heap.size 3 1 v12 (upI cc (j2 + 1)).length ((upI cc (j2 + 1)).map (Value.int .i64))) := by
              show World.ownsRow _ _ _ _ _ _ _
              rw [HUP.out, List.length_append, List.map_append]; exact ho12
            clear ho12 hg12 e0
            go_wp2
            go_roundw
            case rel => first | exact ⟨j2 + 1, by omega, by go_num, HOF.out, HX12.out⟩ | ((repeat apply Exists.intro); exact ⟨⟨j2 + 1, by omega, by go_num, HOF.out, HX12.out⟩, rfl⟩)
            case measure => simp [intOf]; omega
        · have hje : j2 = n := by omega
          subst hje
          obtain ⟨A7, c7, he7⟩ := own_form HOI.out
          subst he7
          have HE13 := Lib.hid (Ext.al wr (.cells #[.slice A7 (upI cc j2).length c7] 57))
          have hn13 := heapNew wr (.cells #[.slice A7 (upI cc j2).length c7] 57)
          have HSO : Hid (SrcN _ (some ⟨wr.heap.size, 0, none⟩) 1 1 [.slice A7 (upI cc j2).length c7]) := .inr ⟨_, rfl, rfl, fun i u hu => by
            have hi : i < 1 := (List.getElem?_eq_some_iff.1 hu).1
            match i, hi with
            | 0, _ => rw [add_at]; exact cellAt hn13 0 hu⟩
          clear hn13
          have HO13 := Lib.hid (own_below (own_below HO10.out HXI.out) HE13.out)
          go_wp2_with (at_builtin; refine app_vals Tryz.u32 Tryz.info57 rfl (by decide) (by decide) rfl _ _ rfl w1.heap.size _ j vs rfl HO13.out (some ⟨wr.heap.size, 0, none⟩) 1 1 [.slice A7 (upI cc j2).length c7] rfl HSO.out (fun u hu => by rw [List.mem_singleton.1 hu]; rfl) (by omega) (Nat.le_trans HX110.out.size (Nat.le_trans HXI.out.size HE13.out.size)) ?_)
          intro v14 w14 ho14 hg14
          have HX14 : Hid (Ext w1 w14) := ((HX110.out.tr HXI.out).tr HE13.out).trans (grown_ext' hg14 HO13.out (Nat.le_trans HX110.out.size (Nat.le_trans HXI.out.size HE13.out.size)))
          have HR14 : Hid (RowsI w14 j2 P.funs (vs ++ [Value.slice A7 (upI cc j2).length c7])) := RowsI.grown (RowsI.snoc ((HRI10.out.ext HXI.out).ext HE13.out) HVL.out HFJ.out (by rw [HCC.out]; exact own_base (own_below HOI.out HE13.out) (Nat.zero_le _))) HO13.out hg14
          have HO14 := Lib.hid ho14
          have HL14 : Hid ((vs ++ [Value.slice A7 (upI cc j2).length c7]).length = j + 1) := by show _ = _; rw [List.length_append, HVL.out]; rfl
          clear ho14 hg14
          go_wp2
          have hq := HNF.out
          go_roundw
          case rel => first | exact ⟨j + 1, _, by omega, by go_num, HO14.out, HL14.out, HR14.out, HX14.out⟩ | exact ⟨j + 1, vs ++ [Value.slice A7 (upI cc j2).length c7], by omega, by go_num, by simpa using HO14.out, HL14.out, HR14.out, HX14.out⟩ | exact ⟨j + 1, _, by omega, by go_num, HO14.out, HL14.out, by rw [hq]; exact HR14.out, HX14.out⟩
          case measure => simp [intOf]; omega
    · have hje : j = P.funs.length := by omega
      have HOF : Hid (wr.ownsRow w.heap.size 57 1 u3 P.funs.length vs) := by show World.ownsRow _ _ _ _ _ _ _; rw [← hje]; exact own_base HO.out HE.out.size
      have HVF : Hid (vs.length = P.funs.length) := by show _ = _; rw [← hje]; exact HVL.out
      go_wp2
      go_ret
      exact ⟨⟨_, vs, rfl, HOF.out, HVF.out, HRI.out⟩, HE.out.tr HX.out⟩
end Go.Proofs.YtfohcdpfgbeclaaGreat

/- What the checks ask of the size of a program follows from the number of nodes. -/
namespace Go.Proofs.YtfohcdpfgbeclaaGreat

theorem clsB_len : ∀ (xs : List Xtor) (l : List (List Str × Tm)), (∀ x ∈ xs, x.args.length ≤ 6) → clsB xs l = true → ∀ c ∈ l, c.1.length ≤ 6
  | _, [], _, _, c, h => by cases h
  | xs, d :: r, hx, h, c, hc => by
    rw [clsB, Bool.and_eq_true, decide_eq_true_eq] at h
    rcases List.mem_cons.1 hc with rfl | hc
    · have h1 := h.1
      have h2 : prodI (xs.headD noXtor) ≤ 6 := by
        unfold prodI
        cases xs with
        | nil => decide
        | cons x r' =>
          have h3 := Nat.le_trans (List.length_filter_le (fun a => !a.co) x.args) (hx x (List.mem_cons_self ..))
          show (((x.args.filter fun a => !a.co).length : Nat) : Int) ≤ 6
          omega
      omega
    · exact clsB_len xs.tail r (fun x h => hx x (List.mem_of_mem_tail h)) h.2 c hc
theorem hasF_cl {t : Tm} {c a b : Bool} {m k : Int} (h : hasF t c a b m k = true) : (t.cls.length : Int) = k := by
  unfold hasF at h
  simp only [Bool.and_eq_true, decide_eq_true_eq] at h
  exact h.2
theorem fits_cls {P : Pg} {t : Tm} (h : fitsT P t = true) : t.cls.length = 0 ∨ clsB (declAt P t.ty).xtors t.cls = true := by
  unfold fitsT at h
  by_cases h0 : t.op = 0
  · rw [if_pos h0] at h; have := hasF_cl h; omega
  rw [if_neg h0] at h
  by_cases h1 : t.op = 1
  · rw [if_pos h1] at h; have := hasF_cl h; omega
  rw [if_neg h1] at h
  by_cases h2 : t.op = 2
  · rw [if_pos h2, Bool.and_eq_true, Bool.and_eq_true] at h; have := hasF_cl h.1.1; omega
  rw [if_neg h2] at h
  by_cases h3 : t.op = 3
  · rw [if_pos h3] at h; have := hasF_cl h; omega
  rw [if_neg h3] at h
  by_cases h4 : t.op = 4
  · rw [if_pos h4, Bool.and_eq_true] at h
    have h' := h.2
    unfold fitsXB at h'
    rw [Bool.and_eq_true] at h'
    have := hasF_cl h'.2; omega
  rw [if_neg h4] at h
  by_cases h5 : t.op = 5
  · rw [if_pos h5, Bool.and_eq_true] at h
    have h' := h.2
    unfold fitsCB at h'
    rw [Bool.and_eq_true] at h'
    exact .inr h'.2
  rw [if_neg h5] at h
  by_cases h6 : t.op = 6
  · rw [if_pos h6, Bool.and_eq_true] at h
    have h' := h.2
    unfold fitsXB at h'
    rw [Bool.and_eq_true] at h'
    have := hasF_cl h'.2; omega
  rw [if_neg h6] at h
  by_cases h7 : t.op = 7
  · rw [if_pos h7, Bool.and_eq_true] at h
    have h' := h.2
    unfold fitsCB at h'
    rw [Bool.and_eq_true] at h'
    exact .inr h'.2
  rw [if_neg h7] at h
  by_cases h8 : t.op = 8
  · rw [if_pos h8, Bool.and_eq_true] at h; have := hasF_cl h.1; omega
  rw [if_neg h8] at h
  by_cases h9 : t.op = 9
  · rw [if_pos h9, Bool.and_eq_true] at h; have := hasF_cl h.2; omega
  rw [if_neg h9] at h
  by_cases h10 : t.op = 10
  · rw [if_pos h10] at h; have := hasF_cl h; omega
  rw [if_neg h10] at h
  by_cases h11 : t.op = 11 ∨ t.op = 12
  · rw [if_pos h11, Bool.and_eq_true] at h; have := hasF_cl h.1; omega
  rw [if_neg h11] at h
  cases h
theorem fits_names {P : Pg} (hv : validB P.decls = true) {t : Tm} (h : fitsT P t = true) : ∀ c ∈ t.cls, c.1.length ≤ 6 := by
  rcases fits_cls h with h | h
  · rw [List.eq_nil_of_length_eq_zero h]; intro c hc; cases hc
  · refine clsB_len _ _ ?_ h
    intro x hx
    unfold declAt at hx
    by_cases hu : (t.ty - 1).toNat < P.decls.length
    · rw [List.getD_eq_getElem?_getD, List.getElem?_eq_getElem hu] at hx
      exact (Fine.of hv).args _ (List.getElem_mem hu) x hx
    · rw [List.getD_eq_getElem?_getD, List.getElem?_eq_none (by omega)] at hx
      cases hx
theorem wFK_le {P : Pg} : ∀ l : List (Bnd × Tm), (∀ x ∈ l, x.1.1.length ≤ 6 ∧ wF P x.2 + 6 ≤ 6 * nT x.2) → wFK P l ≤ 6 * nL (l.map (·.2))
  | [], _ => Nat.zero_le _
  | x :: r, h => by
    have h1 := h x (List.mem_cons_self ..)
    have h2 := wFK_le r (fun y hy => h y (List.mem_cons_of_mem _ hy))
    rw [wFK, List.map_cons, nL]; omega
theorem kids_names {P : Pg} (hv : validB P.decls = true) {t : Tm} (h : fitsT P t = true) : ∀ x ∈ kids t, x.1.1.length ≤ 6 := by
  intro x hx
  unfold kids at hx
  rcases List.mem_append.1 hx with hx | hx
  · obtain ⟨i, hi⟩ := List.mem_iff_getElem?.1 hx
    have hl : i < t.args.length := by
      have := (List.getElem?_eq_some_iff.1 hi).1
      rwa [kidsFrom_length] at this
    rw [kidsFrom_get _ _ _ _ _ _ (List.getElem?_eq_getElem hl)] at hi
    cases hi
    unfold bndAt
    split <;> (try split) <;> simp
  · obtain ⟨c, hc, rfl⟩ := List.mem_map.1 hx
    exact fits_names hv h c hc
theorem wF_nodes {P : Pg} (hv : validB P.decls = true) : ∀ (n : Nat) (t : Tm), uT t ≤ n → wF P t + 6 ≤ 6 * nT t := by
  intro n
  induction n with
  | zero => intro t hu; rw [uT_kids] at hu; omega
  | succ n ih =>
    intro t hu
    have hk := nT_kids t
    cases hf : fitsT P t
    · rw [wF_no hf]; omega
    · rw [wF_kids hf]
      have h1 := wFK_le (P := P) (kids t) (fun x hx => ⟨kids_names hv hf x hx, ih x.2 (by have := uT_kid hx; omega)⟩)
      rw [kids_chT] at h1
      omega
theorem dT_le : ∀ (n : Nat) (t : Tm), uT t ≤ n → dT t ≤ nT t := by
  intro n
  induction n with
  | zero => intro t hu; rw [uT_kids] at hu; omega
  | succ n ih =>
    intro t hu
    rw [dT_kids, nT_kids]
    have h : ∀ l : List Tm, (∀ x ∈ l, uT x ≤ n) → dL l ≤ nL l := by
      intro l
      induction l with
      | nil => intro _; exact Int.le_refl _
      | cons x r ihr =>
        intro hl
        have h1 := ih x (hl x (List.mem_cons_self ..))
        have h2 := ihr (fun y hy => hl y (List.mem_cons_of_mem _ hy))
        rw [dL, nL]; omega
    have := h (chT t) (fun x hx => by have := uT_ch hx; omega)
    omega
theorem low_nodes : ∀ (n : Nat) (t : Tm) (d : Int), uT t ≤ n → ∀ y ∈ nodesL d t, d ≤ y.1 := fun n t d hu y hy => (deep_le n t d hu y hy).1
/-- A term with few nodes is fine, whatever the length of its lists of names. -/
theorem fineF_of {P : Pg} {t : Tm} (h : nT t ≤ 1000000) : FineF P t :=
  ⟨fun y hy => by
    have h1 := low_nodes _ t 1 (Nat.le_refl _) y hy
    have h2 := (dep_all _ t 1 1000000000000 (Nat.le_refl _)).2 (by have := dT_le _ t (Nat.le_refl _); omega) y hy
    omega, fun hv _ => by have := wF_nodes hv _ t (Nat.le_refl _); omega⟩
end Go.Proofs.YtfohcdpfgbeclaaGreat

/- law.go: TermForms. -/
namespace Go.Proofs.YtfohcdpfgbeclaaGreat
open Go.RowKit

theorem cnt_total : ∀ l : List Fn, cntF l = totalL l
  | [] => rfl
  | f :: r => by rw [cntF, totalL, cnt_total r]; rfl
/-- The called functions of each function. -/
def calleesP (P : Pg) : List (List Int) := P.funs.map fun f => upI (callsT f.body) P.funs.length
theorem callees_len (P : Pg) : (calleesP P).length = P.funs.length := List.length_map ..
theorem callees_at {P : Pg} {i : Nat} {a : List Int} (h : (calleesP P)[i]? = some a) : ∃ f, P.funs[i]? = some f ∧ a = upI (callsT f.body) P.funs.length := by
  rw [calleesP, List.getElem?_map] at h
  cases hf : P.funs[i]? with
  | none => rw [hf] at h; cases h
  | some f => rw [hf] at h; exact ⟨f, rfl, by simpa using h.symm⟩
theorem prog_calls {P : Pg} (h : progB P = true) : ∀ f ∈ P.funs, ∀ y ∈ nodS f.body, y.op = 9 → 0 ≤ y.n ∧ y.n < P.funs.length := fun f hf => by
  unfold progB at h
  rw [Bool.and_eq_true] at h
  have h1 := List.all_eq_true.1 h.2 f hf
  unfold funB at h1
  simp only [Bool.and_eq_true] at h1
  exact valid_calls _ f.body _ _ (Nat.le_refl _) h1.2.2
theorem lists_prog {w : World} {P : Pg} {g B : Nat} {vs : List Value} (hB : VBlk w g vs) (hl : vs.length = P.funs.length) (hR : Rows2 w B vs P.funs P.funs.length) (hn : P.funs.length ≤ 12) (hr : ∀ f ∈ P.funs, ∀ y ∈ nodS f.body, y.op = 9 → 0 ≤ y.n ∧ y.n < P.funs.length) :
    RLists w (.slice (some ⟨g, 0, none⟩) P.funs.length P.funs.length) (calleesP P) := by
  refine ⟨some ⟨g, 0, none⟩, P.funs.length, by rw [callees_len], by rw [callees_len]; exact Nat.le_refl _, by unfold maxLen; omega, fun i a hi => ?_⟩
  obtain ⟨f, hf, rfl⟩ := callees_at hi
  have hlt : i < P.funs.length := (List.getElem?_eq_some_iff.1 hf).1
  obtain ⟨v, r, h1, h2⟩ := hR i f hlt hf
  have he := callees_are (hr f (List.mem_of_getElem? hf)) h2.sorted h2.mem
  subst he
  obtain ⟨hiv, hv⟩ := List.getElem?_eq_some_iff.1 h1
  refine ⟨g, 0, v, rfl, hB.lt, ?_, own_ints h2.own⟩
  rw [Nat.zero_add, hB.cell hiv, hv]
theorem lists_ref {w : World} {P : Pg} {B : Nat} {v : Value} {vs : List Value} (h : w.ownsRow B 57 1 v P.funs.length vs) (hl : vs.length = P.funs.length) (hR : RowsI w P.funs.length P.funs vs) : RLists w v (calleesP P) := by
  rcases h.2 with ⟨rfl, h0⟩ | ⟨g, cap, cur, rfl, e2, e3, e4, e5, e6, e7⟩
  · have hL : calleesP P = [] := List.eq_nil_of_length_eq_zero (by rw [callees_len]; exact h0)
    rw [hL]
    exact ⟨none, 0, rfl, Nat.le_refl _, Nat.zero_le _, fun i x hx => by simp at hx⟩
  · refine ⟨_, cap, by rw [callees_len], by rw [callees_len]; exact e4, e5, fun i a hi => ?_⟩
    obtain ⟨f, hf, rfl⟩ := callees_at hi
    have hlt : i < P.funs.length := (List.getElem?_eq_some_iff.1 hf).1
    have hiv : i < vs.length := by omega
    refine ⟨g, 0, vs[i], rfl, (Array.getElem?_eq_some_iff.1 e3).1, ?_, own_ints (hR i _ f (List.getElem?_eq_getElem hiv) hf)⟩
    rw [Nat.zero_add, World.ownsRow.cellAt h i (by omega), List.getElem?_eq_getElem hiv]

set_option maxHeartbeats 4000000 in
set_option maxRecDepth 100000 in
theorem termForms_any (P : Pg) (vd vf : Value) (w : World) (hd : RDecls w vd P.decls) (hf : RFns w vf P.funs) :
    Calls Tryz.prog 3 #[pV vd vf] w fun e w' => e = .returned (.bool true) ∧ Ext w w' := by
  have HD := Lib.hid hd; have HF := Lib.hid hf
  obtain ⟨Ad, cd, rfl, hcd, hmd⟩ := hd.form
  obtain ⟨Af, cf, rfl, hcf, hmf⟩ := hf.form
  clear hd hf
  have HE := Lib.hid (Ext.al w (.cells #[.slice Ad P.decls.length cd, .slice Af P.funs.length cf] 25))
  have HBP := Lib.hid (heapNew w (.cells #[.slice Ad P.decls.length cd, .slice Af P.funs.length cf] 25))
  have p0 := cellAt HBP.out 0
  have p1 := cellAt HBP.out 1
  go_enter Tryz.func3, Tryz.ntmps3
  go_wp2_with fail
  generalize w.alloc _ = w1 at *
  clear p0 p1
  (with_reducible refine (FewX_any P _ _ 700 _ (HD.out.below HE.out) (HF.out.below HE.out) (by omega) (by omega)).mono ?_)
  rintro e w2 ⟨rfl, hb⟩
  have HX2 := Lib.hid (HE.out.tr hb)
  have HBP := Lib.hid (((hb).block _ (heap_lt HBP.out)).trans HBP.out)
  clear hb
  have p0 := cellAt HBP.out 0
  have p1 := cellAt HBP.out 1
  cases hq : fewB P 700
  · clear hq
    go_wp2_with fail
    (with_reducible refine (awake_any _).mono ?_)
    rintro e wz ⟨rfl, hb⟩
    have HZ := Lib.hid (HX2.out.tr hb)
    clear hb
    go_wp2
    go_ret
    exact ⟨rfl, HZ.out⟩
  · have HNN : Hid (P.funs.length ≤ 40 ∧ ∀ f ∈ P.funs, nT f.body ≤ 1000000) := by
      unfold fewB at hq
      simp only [Bool.and_eq_true, decide_eq_true_eq, List.all_eq_true] at hq
      exact ⟨hq.1.2, fun f hf => by have := hq.2 f hf; omega⟩
    have HFI : Hid (FinePg P) := fun f hf => fineF_of (HNN.out.2 f hf)
    clear hq
    go_wp2_with fail
    (with_reducible refine (Check_any P _ _ _ (HD.out.below HX2.out) (HF.out.below HX2.out) HFI.out).mono ?_)
    rintro e w3 ⟨rfl, hb⟩
    have HX3 := Lib.hid (HX2.out.tr hb)
    have HBP := Lib.hid (((hb).block _ (heap_lt HBP.out)).trans HBP.out)
    clear hb p0 p1
    have p0 := cellAt HBP.out 0
    have p1 := cellAt HBP.out 1
    go_wp2_with fail
    (with_reducible refine (Nodes_any P _ _ _ (HD.out.below HX3.out) (HF.out.below HX3.out) HFI.out).mono ?_)
    rintro e w4 ⟨rfl, hb⟩
    have HX4 := Lib.hid (HX3.out.tr hb)
    have HBP := Lib.hid (((hb).block _ (heap_lt HBP.out)).trans HBP.out)
    clear hb p0 p1
    have p0 := cellAt HBP.out 0
    have p1 := cellAt HBP.out 1
    have HC : Hid (chkP P = if progB P then 0 else 20) := rfl
    have HN : Hid (nodesP P = if progB P then ((totalL P.funs : Int), 0) else (0, 20)) := rfl
    have HRF := Lib.hid (refIs_prog P)
    generalize chkP P = cc at *
    generalize nodesP P = nn at *
    obtain ⟨n1, n2⟩ := nn
    dsimp only
    go_wp2_with fail
    (with_reducible refine (Calls_any P _ _ _ (HD.out.below HX4.out) (HF.out.below HX4.out) HFI.out).mono ?_)
    rintro e w5 ⟨hcs, hb⟩
    have HX5 := Lib.hid (HX4.out.tr hb)
    have HBP := Lib.hid (((hb).block _ (heap_lt HBP.out)).trans HBP.out)
    clear hb p0 p1
    have p0 := cellAt HBP.out 0
    have p1 := cellAt HBP.out 1
    rcases hcs with ⟨hp, rfl⟩ | ⟨hp, g, vs, rfl, hg, hvb, hvl, hrs⟩
    · have hc := HC.out
      have hn := HN.out
      rw [hp] at hc hn
      simp only [Bool.false_eq_true, if_false, Prod.mk.injEq] at hc hn
      obtain ⟨rfl, rfl⟩ := hn
      subst hc
      go_wp2_with fail
      (with_reducible refine (RIs_any P _ _ _ (HD.out.below HX5.out) (HF.out.below HX5.out)).mono ?_)
      rw [HRF.out, hp]
      rintro e w6 ⟨rfl, hb⟩
      have HX6 := Lib.hid (HX5.out.tr hb)
      clear hb p0 p1 HC HN hp
      go_wp2_with fail
      (with_reducible refine (awake_any _).mono ?_)
      rintro e wz ⟨rfl, hb⟩
      have HZ := Lib.hid (HX6.out.tr hb)
      clear hb
      go_wp2
      go_ret
      exact ⟨rfl, HZ.out⟩
    · have HPC := Lib.hid (prog_calls hp)
      have HSM := Lib.hid (progB_small hp).2
      have HL := Lib.hid (lists_prog hvb hvl hrs HSM.out HPC.out)
      clear hvb hvl hrs hg
      have hc := HC.out
      have hn := HN.out
      rw [hp] at hc hn
      simp only [if_true, Prod.mk.injEq] at hc hn
      obtain ⟨rfl, rfl⟩ := hn
      subst hc
      go_wp2_with fail
      (with_reducible refine (RIs_any P _ _ _ (HD.out.below HX5.out) (HF.out.below HX5.out)).mono ?_)
      rw [HRF.out, hp]
      rintro e w6 ⟨rfl, hb⟩
      have HX6 := Lib.hid (HX5.out.tr hb)
      have HL6 := Lib.hid (HL.out.below hb)
      have HBP := Lib.hid (((hb).block _ (heap_lt HBP.out)).trans HBP.out)
      clear hb p0 p1 HC HN hp HL
      have p0 := cellAt HBP.out 0
      have p1 := cellAt HBP.out 1
      go_wp2_with fail
      (with_reducible refine (Count_any P _ _ _ (HD.out.below HX6.out) (HF.out.below HX6.out) HNN.out.1 HNN.out.2).mono ?_)
      rw [cnt_total]
      rintro e w7 ⟨rfl, hb⟩
      have HX7 := Lib.hid (HX6.out.tr hb)
      have HL7 := Lib.hid (HL6.out.below hb)
      have HBP := Lib.hid (((hb).block _ (heap_lt HBP.out)).trans HBP.out)
      clear hb p0 p1 HL6
      have p0 := cellAt HBP.out 0
      have p1 := cellAt HBP.out 1
      go_wp2_with fail
      (with_reducible refine (RCalls_any P _ _ _ (HD.out.below HX7.out) (HF.out.below HX7.out) HNN.out.1 HNN.out.2 HPC.out).mono ?_)
      rintro e w8 ⟨⟨v8, vs8, rfl, ho8, hl8, hr8⟩, hb⟩
      have HX8 := Lib.hid (HX7.out.tr hb)
      have HL8 := Lib.hid (HL7.out.below hb)
      have HM8 := Lib.hid (lists_ref ho8 hl8 hr8)
      clear hb p0 p1 HL7 ho8 hl8 hr8
      go_wp2_with fail
      (with_reducible refine (sameLists_any _ v8 (calleesP P) _ HL8.out HM8.out).mono ?_)
      rintro e w9 ⟨rfl, hb⟩
      have HX9 := Lib.hid (HX8.out.tr hb)
      clear hb HL8 HM8
      go_wp2_with fail
      (with_reducible refine (awake_any _).mono ?_)
      rintro e wz ⟨rfl, hb⟩
      have HZ := Lib.hid (HX9.out.tr hb)
      clear hb
      go_wp2
      go_ret
      exact ⟨rfl, HZ.out⟩
end Go.Proofs.YtfohcdpfgbeclaaGreat
