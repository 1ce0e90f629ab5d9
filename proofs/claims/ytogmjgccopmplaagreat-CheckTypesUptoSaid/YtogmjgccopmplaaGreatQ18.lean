import Derived.Test.YtogmjgccopmplaaGreatQ17
import Derived.OwnWalk
import Derived.Maps.AppendAt
import Derived.Deep.RegionWith
import Derived.Deep.LoopGhost
namespace Go.Proofs.YtogmjgccopmplaaGreat
open Go.RowKit
theorem beqL {a b : List UInt8} (h : (a == b) = true) : a = b := by simpa using h
theorem apart {a b : ByteArray} (ha : nameB a = true) (hb : xtorB b = true) : (a.toList == b.toList) = false := by
  cases h : (a.toList == b.toList)
  · rfl
  · have e := beqL h
    rw [ByteArray.toList_eq, ByteArray.toList_eq] at e
    have e2 : headI a = headI b := by unfold headI; rw [e]
    simp only [nameB, xtorB, Bool.and_eq_true] at ha hb
    have h1 := ha.1.1.2
    have h2 := hb.1.2
    rw [e2] at h1
    simp [lowB] at h1
    simp [upB] at h2
    omega
theorem beq_comm' (a b : List UInt8) : (a == b) = (b == a) := by
  rw [Bool.eq_iff_iff]; simp only [beq_iff_eq]; exact eq_comm
structure Inv (S : List ByteArray) (P : List Decl) (X : List ByteArray) : Prop where
  has : ∀ k, hasS S k = (prevB P k || hasS X k)
  low : ∀ e ∈ P, nameB e.name = true
  up : ∀ x ∈ X, xtorB x = true
theorem prevB_append (P Q : List Decl) (k : ByteArray) : prevB (P ++ Q) k = (prevB P k || prevB Q k) := by simp [prevB]
theorem Inv.noX {S : List ByteArray} {P : List Decl} {X : List ByteArray} (h : Inv S P X) {k : ByteArray} (hk : nameB k = true) : hasS X k = false := by
  unfold hasS
  rw [List.any_eq_false]
  intro x hx
  rw [apart hk (h.up x hx)]
  simp
theorem Inv.noP {S : List ByteArray} {P : List Decl} {X : List ByteArray} (h : Inv S P X) {k : ByteArray} (hk : xtorB k = true) : prevB P k = false := by
  unfold prevB
  rw [List.any_eq_false]
  intro e he
  rw [apart (h.low e he) hk]
  simp
theorem Inv.addD2 {S : List ByteArray} {P : List Decl} {X : List ByteArray} (h : Inv S P X) {d : Decl} (hk : nameB d.name = true) : Inv (S ++ [d.name]) (P ++ [d]) X where
  has k := by
    rw [hasS_append, prevB_append, h.has]
    have : hasS [d.name] k = prevB [d] k := by simp [hasS, prevB, beq_comm']
    rw [this]
    cases prevB P k <;> cases hasS X k <;> cases prevB [d] k <;> rfl
  low e he := by
    rcases List.mem_append.1 he with h1 | h1
    · exact h.low e h1
    · rw [List.mem_singleton.1 h1]; exact hk
  up := h.up
theorem Inv.addX {S : List ByteArray} {P : List Decl} {X : List ByteArray} (h : Inv S P X) {x : ByteArray} (hk : xtorB x = true) : Inv (S ++ [x]) P (X ++ [x]) where
  has k := by rw [hasS_append, hasS_append, h.has, Bool.or_assoc]
  low := h.low
  up y hy := by
    rcases List.mem_append.1 hy with h1 | h1
    · exact h.up y h1
    · rw [List.mem_singleton.1 h1]; exact hk
theorem okX_isX {S : List ByteArray} {P : List Decl} {X : List ByteArray} (h : Inv S P X) (t : Int) (x : Xtor) : okX t S x = isX t X x := by
  unfold okX isX
  cases hk : xtorB x.name
  · simp
  · rw [h.has, h.noP hk]
    cases hasS X x.name <;> cases decide (x.args.length ≤ 6) <;> rfl
theorem okXs_isXs (t : Int) : ∀ (l : List Xtor) {S : List ByteArray} {P : List Decl} {X : List ByteArray}, Inv S P X → okXs t S l = isXs t X l ∧ (isXs t X l = true → Inv (addXs S l) P (addXs X l))
  | [], S, P, X, h => ⟨rfl, fun _ => by rw [addXs_nil, addXs_nil]; exact h⟩
  | x :: r, S, P, X, h => by
    rw [okXs_cons, isXs_cons, addXs_cons, addXs_cons, okX_isX h]
    cases hx : isX t X x
    · exact ⟨by simp, by simp⟩
    · have hk : xtorB x.name = true := by simp only [isX, Bool.and_eq_true] at hx; exact hx.1.1.1
      have ih := okXs_isXs t r (h.addX hk)
      exact ⟨by simpa using ih.1, by simpa using ih.2⟩
theorem okDs_isDs (t : Int) : ∀ (l : List Decl) {S : List ByteArray} {P : List Decl} {X : List ByteArray}, Inv S P X → okDs t S l = isDs t P X l
  | [], _, _, _, _ => rfl
  | d :: r, S, P, X, h => by
    rw [okDs_cons, isDs_cons]
    cases hk : nameB d.name
    · rw [okD_bad1 hk, isD_bad1 hk]; rfl
    · by_cases h6 : 1 ≤ d.xtors.length ∧ d.xtors.length ≤ 6
      · have h2 := okXs_isXs t d.xtors (h.addD2 hk)
        have hs : hasS S d.name = prevB P d.name := by rw [h.has, h.noX hk, Bool.or_false]
        cases hp : prevB P d.name
        · rw [okD_good hk (hs.trans hp) h6.1 h6.2, isD_good hk h6 hp, h2.1]
          cases hx : isXs t X d.xtors
          · rfl
          · have := okDs_isDs t r (h2.2 hx)
            simp only [Bool.true_and]
            exact this
        · rw [okD_bad2 (hs.trans hp), isD_bad3 hp]; rfl
      · rw [okD_bad3 h6, isD_bad2 h6]; rfl
theorem valid_is (l : List Decl) : validB l = isB l := by
  unfold validB isB
  rw [okDs_isDs (S := []) (P := []) (X := []) _ l ⟨fun _ => rfl, by simp, by simp⟩]
end Go.Proofs.YtogmjgccopmplaaGreat

/- ref.go: Is. -/
namespace Go.Proofs.YtogmjgccopmplaaGreat
open Go.RowKit
def okF (P : Pg) (f : Fn) : Bool := (sizeR f.body).2 && validT P (hasS (f.ps.map Prm.nm)) (hasS []) f.body
def sumF : List Fn → Nat
  | [] => 0
  | f :: r => nT f.body + sumF r
def refIs (P : Pg) : Bool := isB P.decls && srcB P.decls && headsB P && (P.funs.all (okF P) && decide (sumF P.funs ≤ 600))
theorem headsFrom_mem {n : Nat} {all : List Fn} : ∀ {l : List Fn} {i : Nat}, headsFrom n all i l = true → ∀ f ∈ l, f.ps.length ≤ 6
  | [], _, _, f, h => by cases h
  | g :: r, i, h, f, hf => by
    rw [headsFrom, Bool.and_eq_true] at h
    rcases List.mem_cons.1 hf with rfl | hf
    · have h1 := h.1
      unfold headF at h1
      simp only [Bool.and_eq_true, decide_eq_true_eq] at h1
      exact h1.1.1.1.1.2
    · exact headsFrom_mem h.2 f hf
theorem heads_few {P : Pg} (h : headsB P = true) : P.funs.length ≤ 12 ∧ ∀ f ∈ P.funs, f.ps.length ≤ 6 := by
  unfold headsB at h
  simp only [Bool.and_eq_true, decide_eq_true_eq] at h
  exact ⟨h.1.2, headsFrom_mem h.2⟩
theorem small_nT {t : Tm} (h : (sizeR t).2 = true) : nT t ≤ 600 := by
  rw [size_small, Bool.and_eq_true, decide_eq_true_eq] at h
  exact h.1
theorem RSmall_is (k : Nat) (t : Tm) (va vc : Value) (q : Bool) (w : World) (ht : RT w k t va vc) (h : (sizeR t).2 = q) : Calls Tryz.prog 17 #[tV t va vc] w fun e w' => e = .returned (.bool q) ∧ Ext w w' := by
  subst h; exact RSmall_any k t va vc w ht
theorem rstrs_nil' (w : World) : RStrs w (.slice none 0 0) [] := ⟨none, 0, rfl, Nat.le_refl _, Nat.zero_le _, fun i s h => by cases h⟩
set_option maxHeartbeats 4000000 in
set_option maxRecDepth 100000 in
theorem RIs_any (P : Pg) (vd vf : Value) (w : World) (hd : RDecls w vd P.decls) (hf : RFns w vf P.funs) :
    Calls Tryz.prog 11 #[pV vd vf] w fun e w' => e = .returned (.bool (refIs P)) ∧ Ext w w' := by
  have HD := Lib.hid hd; have HF := Lib.hid hf
  have HR : Hid (refIs P = (isB P.decls && srcB P.decls && headsB P && (P.funs.all (okF P) && decide (sumF P.funs ≤ 600)))) := rfl
  generalize refIs P = rr at *
  obtain ⟨Ad, cd, rfl, hcd, hmd⟩ := hd.form
  obtain ⟨Af, cf, rfl, hcf, hmf⟩ := hf.form
  clear hd hf
  unfold maxLen at hmf hmd
  have HE := Lib.hid (Ext.al w (.cells #[.slice Ad P.decls.length cd, .slice Af P.funs.length cf] 25))
  have HB := Lib.hid (heapNew w (.cells #[.slice Ad P.decls.length cd, .slice Af P.funs.length cf] 25))
  have c0 := cellAt HB.out 0
  have c1 := cellAt HB.out 1
  go_enter Tryz.func11, Tryz.ntmps11
  go_wp2_with fail
  generalize w.alloc _ = w1 at *
  clear c0 c1
  (with_reducible refine (Is_any _ P.decls w1 (HD.out.below HE.out)).mono ?_)
  rintro e w2 ⟨rfl, hb⟩
  have HX2 := Lib.hid (HE.out.tr hb)
  have HB2 := Lib.hid ((hb.block _ (heap_lt HB.out)).trans HB.out)
  clear hb
  have c0 := cellAt HB2.out 0
  have c1 := cellAt HB2.out 1
  cases hq1 : isB P.decls
  · have HFF : Hid (rr = false) := by show _ = _; rw [HR.out, hq1]; rfl
    clear hq1
    go_wp2
    go_ret
    exact ⟨ret_bool HFF.out.symm, HX2.out⟩
  have HV : Hid (validB P.decls = true) := by show _ = _; rw [valid_is, hq1]
  have HR1 : Hid (rr = (srcB P.decls && headsB P && (P.funs.all (okF P) && decide (sumF P.funs ≤ 600)))) := by show _ = _; rw [HR.out, hq1]; rfl
  clear hq1 HR
  go_wp2_with fail
  (with_reducible refine (RSource_any _ P.decls w2 (HD.out.below HX2.out)).mono ?_)
  rintro e w3 ⟨rfl, hb⟩
  have HX3 := Lib.hid (HX2.out.tr hb)
  have HB3 := Lib.hid ((hb.block _ (heap_lt HB2.out)).trans HB2.out)
  clear hb c0 c1
  have c0 := cellAt HB3.out 0
  have c1 := cellAt HB3.out 1
  cases hq2 : srcB P.decls
  · have HFF : Hid (rr = false) := by show _ = _; rw [HR1.out, hq2]; rfl
    clear hq2
    go_wp2
    go_ret
    exact ⟨ret_bool HFF.out.symm, HX3.out⟩
  have HS := Lib.hid hq2
  have HR2 : Hid (rr = (headsB P && (P.funs.all (okF P) && decide (sumF P.funs ≤ 600)))) := by show _ = _; rw [HR1.out, hq2]; rfl
  clear hq2 HR1
  go_wp2_with fail
  (with_reducible refine (heads_any P _ _ w3 (HD.out.below HX3.out) (HF.out.below HX3.out)).mono ?_)
  rintro e w4 ⟨rfl, hb⟩
  have HX4 := Lib.hid (HX3.out.tr hb)
  have HB4 := Lib.hid ((hb.block _ (heap_lt HB3.out)).trans HB3.out)
  clear hb c0 c1
  have c0 := cellAt HB4.out 0
  have c1 := cellAt HB4.out 1
  cases hq3 : headsB P
  · have HFF : Hid (rr = false) := by show _ = _; rw [HR2.out, hq3]; rfl
    clear hq3
    go_wp2
    go_ret
    exact ⟨ret_bool HFF.out.symm, HX4.out⟩
  have HFW := Lib.hid (heads_few hq3)
  have HR3 : Hid (rr = (P.funs.all (okF P) && decide (sumF P.funs ≤ 600))) := by show _ = _; rw [HR2.out, hq3]; rfl
  clear hq3 HR2
  go_wp2
  clear c0 c1
  go_loopw [3, 24] (fun s i wr => ∃ j tot : Nat, j ≤ P.funs.length ∧ i = .int .i64 j ∧ s = .int .i64 tot ∧ tot ≤ 600 * j ∧ rr = ((P.funs.drop j).all (okF P) && decide (tot + sumF (P.funs.drop j) ≤ 600)) ∧ Ext w4 wr) (fun _ i _ => P.funs.length - (intOf i).toNat)
  case atStart => exact ⟨0, 0, Nat.zero_le _, rfl, rfl, Nat.le_refl _, by rw [List.drop_zero, Nat.zero_add]; exact HR3.out, Ext.rf _⟩
  case round =>
    obtain ⟨j, tot, hj, rfl, rfl, htot, hrr, hb⟩ := hrel
    have HA := Lib.hid hrr
    have HX := Lib.hid hb
    have HTOT := Lib.hid htot
    have HBB := Lib.hid ((hb.block _ (heap_lt HB4.out)).trans HB4.out)
    clear hrr hb htot
    by_cases hlt : j < P.funs.length
    · obtain ⟨b, o, vp, xa, xc, kf, rfl, hbl, y0, y1, y2, yc, y3, y4, y5⟩ := HF.out.at_ hlt
      have HST : Hid (rr = (okF P P.funs[j] && (P.funs.drop (j + 1)).all (okF P) && decide (tot + (nT (P.funs[j]).body + sumF (P.funs.drop (j + 1))) ≤ 600))) := by show _ = _; rw [HA.out, List.drop_eq_getElem_cons hlt]; rfl
      have H6 : Hid ((P.funs[j]).ps.length ≤ 6) := HFW.out.2 _ (List.getElem_mem hlt)
      have hX := HX4.out.tr HX.out
      have y0 := hX.keep y0
      have y1 := hX.keep y1
      have y2 := hX.keep y2
      have yc := yc.below hX
      obtain ⟨Ap, cp, rfl, hcp, hmp⟩ := y4.form
      obtain ⟨_, ⟨Aa, ca, rfl, -, -⟩, ⟨Bb, cb, rfl, -, -⟩⟩ := y5.form
      have HPR := Lib.hid (y4.below hX)
      have HK := Lib.hid (y5.below hX)
      have c30 := yc.c0
      have c31 := yc.c1
      have c32 := yc.c2
      have c33 := yc.c3
      have c34 := yc.c4
      have c35 := yc.c5
      generalize P.funs[j] = f at *
      clear y3 y4 y5 yc
      have HE8 := Lib.hid (Ext.al wr (.cells #[.string f.nm, .slice Ap f.ps.length cp, .int .i64 f.res, .int .i64 f.body.op, .int .i64 f.body.n, .string f.body.nm, .int .i64 f.body.ty, .slice Aa f.body.args.length ca, .slice Bb f.body.cls.length cb] 64))
      have HN8 := Lib.hid (heapNew wr (.cells #[.string f.nm, .slice Ap f.ps.length cp, .int .i64 f.res, .int .i64 f.body.op, .int .i64 f.body.n, .string f.body.nm, .int .i64 f.body.ty, .slice Aa f.body.args.length ca, .slice Bb f.body.cls.length cb] 64))
      have HP8 := Lib.hid ((HE8.out.block _ (heap_lt HBB.out)).trans HBB.out)
      have HX8 : Hid (Ext w (wr.alloc (.cells #[.string f.nm, .slice Ap f.ps.length cp, .int .i64 f.res, .int .i64 f.body.op, .int .i64 f.body.n, .string f.body.nm, .int .i64 f.body.ty, .slice Aa f.body.args.length ca, .slice Bb f.body.cls.length cb] 64))) := hX.tr HE8.out
      have HX48 : Hid (Ext w4 (wr.alloc (.cells #[.string f.nm, .slice Ap f.ps.length cp, .int .i64 f.res, .int .i64 f.body.op, .int .i64 f.body.n, .string f.body.nm, .int .i64 f.body.ty, .slice Aa f.body.args.length ca, .slice Bb f.body.cls.length cb] 64))) := HX.out.tr HE8.out
      clear hX
      go_wp2
      generalize wr.alloc _ = w8 at *
      clear y0 y1 y2 c30 c31 c32 c33 c34 c35
      have q1 := cellAt HN8.out 1
      have q3 := cellAt HN8.out 3
      have q4 := cellAt HN8.out 4
      have q5 := cellAt HN8.out 5
      have q6 := cellAt HN8.out 6
      have q7 := cellAt HN8.out 7
      have q8 := cellAt HN8.out 8
      have p0 := cellAt HP8.out 0
      have p1 := cellAt HP8.out 1
      cases hz : (sizeR f.body).2
      · have HZ := Lib.hid hz
        have HFF : Hid (rr = false) := by show _ = _; rw [HST.out]; unfold okF; rw [hz]; rfl
        clear hz
        have hmx : Tryz.prog.follows .mixedOrders = true := by kernel_rfl
        have k3 := ExtOf.cell (show w8.cell? ⟨wr.heap.size, 3, none⟩ = some (.int .i64 f.body.op) from q3)
        have k4 := ExtOf.cell (show w8.cell? ⟨wr.heap.size, 4, none⟩ = some (.int .i64 f.body.n) from q4)
        have k5 := ExtOf.cell (show w8.cell? ⟨wr.heap.size, 5, none⟩ = some (.string f.body.nm) from q5)
        have k6 := ExtOf.cell (show w8.cell? ⟨wr.heap.size, 6, none⟩ = some (.int .i64 f.body.ty) from q6)
        have k7 := ExtOf.cell (show w8.cell? ⟨wr.heap.size, 7, none⟩ = some (.slice Aa f.body.args.length ca) from q7)
        have k8 := ExtOf.cell (show w8.cell? ⟨wr.heap.size, 8, none⟩ = some (.slice Bb f.body.cls.length cb) from q8)
        clear q1 q3 q4 q5 q6 q7 q8 p0 p1
        refine wp_region_ext (w0 := w8) hmx (by kernel_rfl) (Ext.rf _) ?_
        repeat (first | go_big_quiet_step ((go_at_call 17; with_reducible exact Calls.ext_of (RSmall_is kf f.body _ _ false _ ((HK.out.below HE8.out).below (ExtOf.ext _)) HZ.out))) | quiet_step ((go_at_call 17; with_reducible exact Calls.ext_of (RSmall_is kf f.body _ _ false _ ((HK.out.below HE8.out).below (ExtOf.ext _)) HZ.out))))
        refine wpQuiet_nil ?_
        rintro _ ⟨⟨w9, hx⟩, rfl⟩
        have HX9 := Lib.hid hx
        clear hx
        go_wp2
        go_ret
        exact ⟨ret_bool HFF.out.symm, HX8.out.tr HX9.out⟩
      · have HZ := Lib.hid hz
        have HNT := Lib.hid (small_nT hz)
        generalize hv : validT P (hasS (f.ps.map Prm.nm)) (hasS []) f.body = qv at *
        have HVV : Hid (validT P (hasS (f.ps.map Prm.nm)) (hasS []) f.body = qv) := hv
        have HOKF : Hid (okF P f = qv) := by show _ = _; unfold okF; rw [hz, hv]; rfl
        clear hz hv
        go_region_with (first
          | (go_at_call 17; (with_reducible refine (RSmall_any kf f.body _ _ _ ((HK.out.below HE8.out).below (Ext.rf _).drew)).mono ?_); rw [HZ.out]; rintro e w9 ⟨rfl, hb9⟩; have HX9 : Hid (Ext w8 w9) := Ext.tr (b := w8.drew) (Ext.rf w8).drew hb9; clear hb9 q1 q3 q4 q5 q6 q7 q8 p0 p1; have q1 := HX9.out.keep (cellAt HN8.out 1); have q3 := HX9.out.keep (cellAt HN8.out 3); have q4 := HX9.out.keep (cellAt HN8.out 4); have q5 := HX9.out.keep (cellAt HN8.out 5); have q6 := HX9.out.keep (cellAt HN8.out 6); have q7 := HX9.out.keep (cellAt HN8.out 7); have q8 := HX9.out.keep (cellAt HN8.out 8); have p0 := HX9.out.keep (cellAt HP8.out 0); have p1 := HX9.out.keep (cellAt HP8.out 1))
          | (go_at_call 19; (with_reducible refine (Params_any _ f.ps w9 ((HPR.out.below HE8.out).below HX9.out) (Nat.le_trans H6.out (by decide))).mono ?_); rintro e w10 ⟨V, rfl, hr10, hb10⟩; have HX10 : Hid (Ext w8 w10) := HX9.out.tr hb10; have HVS := Lib.hid hr10; clear hr10 hb10 q1 q3 q4 q5 q6 q7 q8 p0 p1; have q1 := HX10.out.keep (cellAt HN8.out 1); have q3 := HX10.out.keep (cellAt HN8.out 3); have q4 := HX10.out.keep (cellAt HN8.out 4); have q5 := HX10.out.keep (cellAt HN8.out 5); have q6 := HX10.out.keep (cellAt HN8.out 6); have q7 := HX10.out.keep (cellAt HN8.out 7); have q8 := HX10.out.keep (cellAt HN8.out 8); have p0 := HX10.out.keep (cellAt HP8.out 0); have p1 := HX10.out.keep (cellAt HP8.out 1))
          | (go_at_call 18; (with_reducible refine (RValid_any P _ _ HV.out HS.out kf f.body _ _ _ _ (f.ps.map Prm.nm) [] w10 (HD.out.below (HX8.out.tr HX10.out)) (HF.out.below (HX8.out.tr HX10.out)) HVS.out (rstrs_nil' _) ((HK.out.below HE8.out).below HX10.out) (by have := HNT.out; have := H6.out; rw [List.length_map]; omega) (by have := HNT.out; rw [List.length_nil]; omega)).mono ?_); rw [HVV.out]; rintro e w11 ⟨rfl, hb11⟩; have HX11 : Hid (Ext w8 w11) := HX10.out.tr hb11; clear hb11 q1 q3 q4 q5 q6 q7 q8 p0 p1; have q3 := HX11.out.keep (cellAt HN8.out 3); have q4 := HX11.out.keep (cellAt HN8.out 4); have q5 := HX11.out.keep (cellAt HN8.out 5); have q6 := HX11.out.keep (cellAt HN8.out 6); have q7 := HX11.out.keep (cellAt HN8.out 7); have q8 := HX11.out.keep (cellAt HN8.out 8)))
        all_goals
          cases qv
          · have HFF : Hid (rr = false) := by show _ = _; rw [HST.out, HOKF.out]; rfl
            go_wp2
            go_ret
            exact ⟨ret_bool HFF.out.symm, HX8.out.tr HX11.out⟩
          · go_wp2_with fail
            (with_reducible refine (Nodes39_any kf f.body _ _ w11 ((HK.out.below HE8.out).below HX11.out) (by have := HNT.out; omega)).mono ?_)
            have HGO : Hid (rr = ((P.funs.drop (j + 1)).all (okF P) && decide (tot + nT f.body + sumF (P.funs.drop (j + 1)) ≤ 600))) := by show _ = _; rw [HST.out, HOKF.out, Nat.add_assoc]; rfl
            have hnt := HNT.out
            have h12 := HFW.out.1
            have htt := HTOT.out
            generalize nT f.body = nn at *
            rintro e w12 ⟨rfl, hb12⟩
            have HXF : Hid (Ext w4 w12) := HX48.out.tr (HX11.out.tr hb12)
            clear hb12 q3 q4 q5 q6 q7 q8
            go_wp2
            exact ⟨⟨j + 1, tot + nn, by omega, by go_num, by go_num, by omega, HGO.out, HXF.out⟩, by simp [intOf]; omega⟩
    · have HGO : Hid (rr = decide (tot ≤ 600)) := by show _ = _; rw [HA.out, List.drop_eq_nil_of_le (by omega), sumF, List.all_nil, Bool.true_and, Nat.add_zero]
      go_wp2
      go_ret
      exact ⟨ret_bool (by rw [HGO.out]; exact decide_eq_decide.2 (by omega)), HX4.out.tr HX.out⟩
end Go.Proofs.YtogmjgccopmplaaGreat

/- What the reference asks of a program is what the program asks of it. -/
namespace Go.Proofs.YtogmjgccopmplaaGreat
def okF' (P : Pg) (f : Fn) : Bool := (sizeR f.body).2 && validT P (hasS (f.ps.map Prm.nm)) (hasS []) f.body
def sumF' : List Fn → Nat
  | [] => 0
  | f :: r => nT f.body + sumF' r
def refIs' (P : Pg) : Bool := isB P.decls && srcB P.decls && headsB P && (P.funs.all (okF' P) && decide (sumF' P.funs ≤ 600))
theorem sizes_iff : ∀ (l : List Fn) (n : Nat), sizesB n l = true ↔ (∀ f ∈ l, (sizeR f.body).2 = true) ∧ n + sumF' l ≤ 600
  | [], n => by simp [sizesB, sumF']; omega
  | f :: r, n => by
    rw [sizesB_cons, Bool.and_eq_true, sumF']
    constructor
    · rintro ⟨h1, h2⟩
      rw [size_num h1] at h2
      have h3 := (sizes_iff r (n + nT f.body)).1 (by rw [← h2]; congr 1)
      exact ⟨fun g hg => (List.mem_cons.1 hg).elim (fun e => e ▸ h1) (h3.1 g), by omega⟩
    · rintro ⟨h1, h2⟩
      have hf := h1 f (List.mem_cons_self ..)
      refine ⟨hf, ?_⟩
      rw [size_num hf]
      have h3 := (sizes_iff r (n + nT f.body)).2 ⟨fun g hg => h1 g (List.mem_cons_of_mem _ hg), by omega⟩
      rw [← h3]; congr 1
def baseF (nd : Nat) (f : Fn) : Bool := !decide (f.res < 0) && !decide ((nd : Int) < f.res) && decide (f.ps.length ≤ 6) && distB (f.ps.map Prm.nm)
def condF (nd : Nat) (i : Nat) (f : Fn) : Bool := baseF nd f && f.ps.all (okPrm nd i) && !(decide (i = 0) && !decide (f.res = 0))
def condFrom (nd : Nat) : Nat → List Fn → Bool
  | _, [] => true
  | i, f :: r => condF nd i f && condFrom nd (i + 1) r
theorem prev_has (pre : List Fn) (s : Str) : (pre.any fun g => eqS s g.nm) = hasS (pre.map Fn.nm) s := by
  unfold hasS
  rw [List.any_map]; rfl
theorem heads_split (nd : Nat) : ∀ (l pre : List Fn), headsFrom nd (pre ++ l) pre.length l = (distF (hasS (pre.map Fn.nm)) (l.map Fn.nm) && condFrom nd pre.length l)
  | [], pre => rfl
  | f :: r, pre => by
    have ih := heads_split nd r (pre ++ [f])
    rw [List.append_assoc, List.singleton_append, List.length_append, List.length_singleton] at ih
    rw [headsFrom, ih, List.take_left', List.map_cons, distF, distF_next, List.map_append, List.map_cons, List.map_nil, condFrom]
    unfold headF condF baseF
    rw [prev_has]
    cases nameB f.nm <;> cases hasS (pre.map Fn.nm) f.nm <;> cases decide (f.res < 0) <;> cases decide ((nd : Int) < f.res) <;> cases decide (f.ps.length ≤ 6) <;> cases distB (f.ps.map Prm.nm) <;> cases f.ps.all (okPrm nd pre.length) <;> cases (decide (pre.length = 0) && !decide (f.res = 0)) <;> simp
    rfl
theorem type_iff (P : Pg) (ty : Int) : isTypeB P ty = (!decide (ty < 0) && !decide ((P.decls.length : Int) < ty)) := by
  unfold isTypeB
  by_cases h1 : ty < 0 <;> by_cases h2 : (P.decls.length : Int) < ty <;> simp [h1, h2] <;> omega
theorem funB_base (P : Pg) (f : Fn) : funB P f = (baseF P.decls.length f && (f.ps.all fun a => isTypeB P a.ty) && validT P (hasS (f.ps.map Prm.nm)) (fun _ => false) f.body) := by
  unfold funB baseF
  rw [type_iff P f.res]
  cases decide (f.ps.length ≤ 6) <;> cases decide (f.res < 0) <;> cases decide ((P.decls.length : Int) < f.res) <;> cases (f.ps.all fun a => isTypeB P a.ty) <;> cases distB (f.ps.map Prm.nm) <;> simp
theorem okPrm_pos (P : Pg) {i : Nat} (h : i ≠ 0) (x : Prm) : okPrm P.decls.length i x = isTypeB P x.ty := by
  rw [type_iff]
  unfold okPrm
  rw [decide_eq_false h]
  simp
theorem okPrm_zero (P : Pg) (x : Prm) : okPrm P.decls.length 0 x = (isTypeB P x.ty && decide (x.ty = 0)) := by
  rw [type_iff]
  unfold okPrm
  simp
theorem condF_pos (P : Pg) {i : Nat} (h : i ≠ 0) (f : Fn) : condF P.decls.length i f = (baseF P.decls.length f && f.ps.all fun a => isTypeB P a.ty) := by
  unfold condF
  rw [decide_eq_false h, show f.ps.all (okPrm P.decls.length i) = f.ps.all (fun a => isTypeB P a.ty) from by congr 1; funext x; exact okPrm_pos P h x]
  simp
theorem all_two {α : Type} (p q : α → Bool) : ∀ l : List α, l.all (fun x => p x && q x) = (l.all p && l.all q)
  | [] => rfl
  | a :: r => by
    rw [List.all_cons, List.all_cons, List.all_cons, all_two p q r]
    cases p a <;> cases q a <;> cases r.all p <;> simp
theorem condF_zero (P : Pg) (f : Fn) : condF P.decls.length 0 f = (baseF P.decls.length f && (f.ps.all fun a => isTypeB P a.ty) && mainB f) := by
  unfold condF mainB
  rw [show f.ps.all (okPrm P.decls.length 0) = f.ps.all (fun a => isTypeB P a.ty && decide (a.ty = 0)) from by congr 1; funext x; exact okPrm_zero P x, all_two]
  cases baseF P.decls.length f <;> cases (f.ps.all fun a => isTypeB P a.ty) <;> cases (f.ps.all fun a => decide (a.ty = 0)) <;> cases decide (f.res = 0) <;> simp
theorem condFrom_pos (P : Pg) : ∀ (l : List Fn) (i : Nat), i ≠ 0 → condFrom P.decls.length i l = l.all (fun f => baseF P.decls.length f && f.ps.all fun a => isTypeB P a.ty)
  | [], _, _ => rfl
  | f :: r, i, h => by rw [condFrom, List.all_cons, condF_pos P h, condFrom_pos P r (i + 1) (by omega)]
theorem is_prog (P : Pg) : refIs' P = progB P := by
  unfold refIs' progB headsB
  rw [valid_is P.decls]
  have hh := heads_split P.decls.length P.funs []
  rw [List.nil_append] at hh
  rw [show headsFrom P.decls.length P.funs 0 P.funs = _ from hh]
  have hd : distF (hasS (([] : List Fn).map Fn.nm)) (P.funs.map Fn.nm) = distB (P.funs.map Fn.nm) := rfl
  rw [hd]
  cases isB P.decls
  · simp
  cases srcB P.decls
  · simp
  cases hf : P.funs with
  | nil => simp
  | cons f r =>
    have hsz : sizesB 0 (f :: r) = decide ((∀ g ∈ f :: r, (sizeR g.body).2 = true) ∧ 0 + sumF' (f :: r) ≤ 600) := by
      rw [Bool.eq_iff_iff, decide_eq_true_eq]
      exact sizes_iff (f :: r) 0
    rw [show ((0 : Int)) = ((0 : Nat) : Int) from rfl] at *
    have hc : condFrom P.decls.length ([] : List Fn).length (f :: r) = ((baseF P.decls.length f && (f.ps.all fun a => isTypeB P a.ty) && mainB f) && r.all (fun f => baseF P.decls.length f && f.ps.all fun a => isTypeB P a.ty)) := by
      show condFrom P.decls.length 0 (f :: r) = _
      rw [condFrom, condF_zero, condFrom_pos P r 1 (by decide)]
    rw [hc]
    have ha : (f :: r).all (funB P) = ((f :: r).all (fun f => baseF P.decls.length f && f.ps.all fun a => isTypeB P a.ty) && (f :: r).all fun f => validT P (hasS (f.ps.map Prm.nm)) (fun _ => false) f.body) := by
      rw [← all_two]
      congr 1
      funext g
      exact funB_base P g
    rw [ha]
    have ho : (f :: r).all (okF' P) = ((f :: r).all (fun g => (sizeR g.body).2) && (f :: r).all fun f => validT P (hasS (f.ps.map Prm.nm)) (fun _ => false) f.body) := by
      rw [← all_two]; rfl
    rw [ho]
    have hs2 : sizesB ((0 : Nat) : Int) (f :: r) = ((f :: r).all (fun g => (sizeR g.body).2) && decide (sumF' (f :: r) ≤ 600)) := by
      rw [Bool.eq_iff_iff, sizes_iff, Bool.and_eq_true, List.all_eq_true, decide_eq_true_eq, Nat.zero_add]
    rw [hs2]
    have hm : mainB ((f :: r).headD noFn) = mainB f := rfl
    rw [hm]
    rw [List.all_cons (f := fun f => baseF P.decls.length f && f.ps.all fun a => isTypeB P a.ty)]
    generalize ((f :: r).all fun f => validT P (hasS (f.ps.map Prm.nm)) (fun _ => false) f.body) = a1
    generalize ((f :: r).all fun g => (sizeR g.body).2) = a2
    generalize decide (sumF' (f :: r) ≤ 600) = a3
    generalize (r.all fun f => baseF P.decls.length f && f.ps.all fun a => isTypeB P a.ty) = a4
    generalize distB ((f :: r).map Fn.nm) = a5
    generalize decide (1 ≤ (f :: r).length) = a6
    generalize decide ((f :: r).length ≤ 12) = a7
    generalize mainB f = a8
    generalize baseF P.decls.length f = a9
    generalize (f.ps.all fun a => isTypeB P a.ty) = a10
    cases a1 <;> cases a2 <;> cases a3 <;> cases a4 <;> cases a5 <;> cases a6 <;> cases a7 <;> cases a8 <;> cases a9 <;> cases a10 <;> rfl
end Go.Proofs.YtogmjgccopmplaaGreat

/- ref.go: Is of a program. -/
namespace Go.Proofs.YtogmjgccopmplaaGreat
open Go.RowKit
theorem sumF_eq : ∀ l : List Fn, sumF l = sumF' l
  | [] => rfl
  | f :: r => by rw [sumF, sumF', sumF_eq r]
theorem refIs_prog (P : Pg) : refIs P = progB P := by
  rw [← is_prog]
  unfold refIs refIs'
  rw [sumF_eq]; rfl
end Go.Proofs.YtogmjgccopmplaaGreat

/- ref.go: lists of integers. -/
namespace Go.Proofs.YtogmjgccopmplaaGreat
open Go.RowKit
def RInts (w : World) (v : Value) (l : List Int) : Prop :=
  ∃ A c, v = .slice A l.length c ∧ l.length ≤ c ∧ c ≤ maxLen ∧
    ∀ i a, l[i]? = some a → ∃ b o, A = some ⟨b, o, none⟩ ∧ b < w.heap.size ∧ w.cell? ⟨b, o + i, none⟩ = some (.int .i64 a)
theorem RInts.below {w w' : World} {v : Value} {l : List Int} (h : RInts w v l) (hb : Ext w w') : RInts w' v l := by
  obtain ⟨A, c, rfl, h1, h2, h3⟩ := h
  refine ⟨A, c, rfl, h1, h2, fun i a hi => ?_⟩
  obtain ⟨b, o, rfl, hlt, h4⟩ := h3 i a hi
  exact ⟨b, o, rfl, Nat.lt_of_lt_of_le hlt hb.size, hb.keep h4⟩
theorem RInts.form {w : World} {v : Value} {l : List Int} (h : RInts w v l) : ∃ A c, v = .slice A l.length c ∧ l.length ≤ c ∧ c ≤ maxLen := by
  obtain ⟨A, c, h1, h2, h3, _⟩ := h; exact ⟨A, c, h1, h2, h3⟩
theorem RInts.at_ {w : World} {l : List Int} {A : Option Addr} {c : Nat} (h : RInts w (.slice A l.length c) l) {k : Nat} (hk : k < l.length) :
    ∃ b o, A = some ⟨b, o, none⟩ ∧ b < w.heap.size ∧ w.cell? ⟨b, o + k, none⟩ = some (.int .i64 l[k]) := by
  obtain ⟨A', c', he, h1, h2, h3⟩ := h
  cases he
  exact h3 k _ (List.getElem?_eq_getElem hk)
theorem own_ints {w : World} {B : Nat} {v : Value} {l : List Int} (h : w.ownsRow B 3 1 v l.length (l.map (Value.int .i64))) : RInts w v l := by
  rcases h.2 with ⟨rfl, h0⟩ | ⟨g, cap, cur, rfl, e2, e3, e4, e5, e6, e7⟩
  · have hL : l = [] := List.eq_nil_of_length_eq_zero h0
    subst hL
    exact ⟨none, 0, rfl, Nat.le_refl _, Nat.zero_le _, fun i x hx => by simp at hx⟩
  · refine ⟨_, cap, rfl, e4, e5, fun i x hx => ?_⟩
    have hi : i < l.length := (List.getElem?_eq_some_iff.1 hx).1
    refine ⟨g, 0, rfl, (Array.getElem?_eq_some_iff.1 e3).1, ?_⟩
    rw [Nat.zero_add, World.ownsRow.cellAt h i (by omega), List.getElem?_map, hx]; rfl
end Go.Proofs.YtogmjgccopmplaaGreat

/- Types of terms as plain data: the rules, and the first subterm that has no type. -/
namespace Go.Proofs.YtogmjgccopmplaaGreat
/-- Names with types, the innermost first. -/
abbrev Env := List (Str × Int)
def findE : Env → Str → Option Int
  | [], _ => none
  | (s, y) :: r, x => if s.toList == x.toList then some y else findE r x
/-- A type, or the path to the first subterm that has none. -/
abbrev TyR := List Int ⊕ Int
def prodL (x : Xtor) : List Int := (x.args.filter fun a => !a.co).map Arg.ty
def lastT (x : Xtor) : Int := match x.args.getLast? with | some a => a.ty | none => 0
def xtorAt (P : Pg) (ty n : Int) : Xtor := (declAt P ty).xtors.getD n.toNat noXtor
def fnAt (P : Pg) (n : Int) : Fn := P.funs.getD n.toNat noFn
def eqL : List Int → List Int → Bool
  | [], [] => true
  | a :: r, b :: s => decide (a = b) && eqL r s
  | _, _ => false
def okR (b : Bool) (y : Int) : TyR := if b then .inr y else .inl []
/-- The rule of an operator; ps are the types of the children. -/
def ruleS (P : Pg) (V L : Env) (op n : Int) (nm : Str) (ty : Int) (ps : List Int) : TyR :=
  if op = 0 then (match findE V nm with | some y => .inr y | none => .inl [])
  else if op = 1 then .inr 0
  else if op = 2 then okR (decide (ps.getD 0 0 = 0) && decide (ps.getD 1 0 = 0)) 0
  else if op = 3 then okR (decide (ps.getD 0 0 = 0) && decide (ps.getD 1 0 = ps.getD 2 0)) (ps.getD 1 0)
  else if op = 4 then okR (eqL ps (prodL (xtorAt P ty n))) ty
  else if op = 5 then okR ((ps.drop 2).all (fun y => decide (y = ps.getD 1 0)) && decide (ps.getD 0 0 = ty)) (ps.getD 1 0)
  else if op = 6 then okR (eqL ps (prodL (xtorAt P ty n) ++ [ty])) (lastT (xtorAt P ty n))
  else if op = 7 then okR (eqL ps ((declAt P ty).xtors.map lastT)) ty
  else if op = 8 then okR (decide (ps.getD 0 0 = ty)) (ps.getD 1 0)
  else if op = 9 then okR (eqL ps ((fnAt P n).ps.map Prm.ty)) (fnAt P n).res
  else if op = 10 then okR (decide (ps.getD 0 0 = 0)) (ps.getD 1 0)
  else if op = 11 then okR (decide (ps.getD 0 0 = ty)) ty
  else (match findE L nm with | some y => okR (decide (ps.getD 0 0 = y)) ty | none => .inl [])
def argV (op : Int) (nm : Str) (ty : Int) (i : Nat) (V : Env) : Env := if op = 8 ∧ i = 1 then (nm, ty) :: V else V
def argL (op : Int) (nm : Str) (ty : Int) (L : Env) : Env := if op = 11 then (nm, ty) :: L else L
def bindE : List Str → List Int → Env → Env
  | s :: r, y :: q, V => bindE r q ((s, y) :: V)
  | _, _, V => V
mutual
def tyT (P : Pg) : Env → Env → Tm → TyR
  | V, L, .mk op n nm ty args cls => match tyA P op nm ty V L 0 args with
    | .inl p => .inl p
    | .inr a => match tyC P V L args.length (declAt P ty).xtors cls with
      | .inl p => .inl p
      | .inr b => ruleS P V L op n nm ty (a ++ b)
def tyA (P : Pg) (op : Int) (nm : Str) (ty : Int) : Env → Env → Nat → List Tm → List Int ⊕ List Int
  | _, _, _, [] => .inr []
  | V, L, i, a :: r => match tyT P (argV op nm ty i V) (argL op nm ty L) a with
    | .inl p => .inl ((i : Int) :: p)
    | .inr y => match tyA P op nm ty V L (i + 1) r with
      | .inl p => .inl p
      | .inr q => .inr (y :: q)
def tyC (P : Pg) : Env → Env → Nat → List Xtor → List (List Str × Tm) → List Int ⊕ List Int
  | _, _, _, _, [] => .inr []
  | V, L, i, xs, (ns, t) :: r => match tyT P (bindE ns (prodL (xs.headD noXtor)) V) L t with
    | .inl p => .inl ((i : Int) :: p)
    | .inr y => match tyC P V L (i + 1) xs.tail r with
      | .inl p => .inl p
      | .inr q => .inr (y :: q)
end
/-- The children with their scopes, one after another. -/
def kidE (P : Pg) (V L : Env) (t : Tm) (i : Nat) : Env × Env :=
  if i < t.args.length then (argV t.op t.nm t.ty i V, argL t.op t.nm t.ty L)
  else (bindE (t.cls.getD (i - t.args.length) ([], .mk 0 0 ⟨#[]⟩ 0 [] [])).1 (prodL ((declAt P t.ty).xtors.getD (i - t.args.length) noXtor)) V, L)
def kidT (t : Tm) (i : Nat) : Tm := if i < t.args.length then t.args.getD i (.mk 0 0 ⟨#[]⟩ 0 [] []) else (t.cls.getD (i - t.args.length) ([], .mk 0 0 ⟨#[]⟩ 0 [] [])).2
/-- From child i on, k of them. -/
def tyK (P : Pg) (V L : Env) (t : Tm) : Nat → Nat → List Int ⊕ List Int
  | _, 0 => .inr []
  | i, k + 1 => match tyT P (kidE P V L t i).1 (kidE P V L t i).2 (kidT t i) with
    | .inl p => .inl ((i : Int) :: p)
    | .inr y => match tyK P V L t (i + 1) k with
      | .inl p => .inl p
      | .inr q => .inr (y :: q)
theorem tyK_args (P : Pg) (V L : Env) (t : Tm) : ∀ (r : List Tm) (i k : Nat), (∀ j, r[j]? = t.args[i + j]?) → i + r.length = t.args.length →
    tyK P V L t i (r.length + k) = match tyA P t.op t.nm t.ty V L i r with
      | .inl p => .inl p
      | .inr a => match tyK P V L t t.args.length k with
        | .inl p => .inl p
        | .inr b => .inr (a ++ b)
  | [], i, k, _, hl => by
    simp only [List.length_nil, Nat.zero_add, tyA]
    rw [show i = t.args.length by simpa using hl]
    cases tyK P V L t t.args.length k <;> rfl
  | a :: r, i, k, hj, hl => by
    have hi : i < t.args.length := by simp at hl; omega
    have ha : t.args[i]? = some a := by have := hj 0; simpa using this.symm
    have e1 : kidE P V L t i = (argV t.op t.nm t.ty i V, argL t.op t.nm t.ty L) := by unfold kidE; rw [if_pos hi]
    have e2 : kidT t i = a := by unfold kidT; rw [if_pos hi, List.getD_eq_getElem?_getD, ha]; rfl
    have ih := tyK_args P V L t r (i + 1) k (fun j => by have := hj (j + 1); simp at this; rw [this]; congr 1; omega) (by simp at hl; omega)
    rw [List.length_cons, show r.length + 1 + k = (r.length + k) + 1 by omega, tyK, e1, e2, tyA, ih]
    cases tyT P (argV t.op t.nm t.ty i V) (argL t.op t.nm t.ty L) a with
    | inl p => rfl
    | inr y =>
      cases tyA P t.op t.nm t.ty V L (i + 1) r with
      | inl p => rfl
      | inr q => cases tyK P V L t t.args.length k <;> rfl
theorem tyK_cls (P : Pg) (V L : Env) (t : Tm) : ∀ (r : List (List Str × Tm)) (xs : List Xtor) (i : Nat), (∀ j, r[j]? = t.cls[i + j]?) → (∀ j, xs.getD j noXtor = (declAt P t.ty).xtors.getD (i + j) noXtor) →
    tyK P V L t (t.args.length + i) r.length = tyC P V L (t.args.length + i) xs r
  | [], xs, i, _, _ => by simp [tyK, tyC]
  | (ns, a) :: r, xs, i, hj, hx => by
    have ha : t.cls[i]? = some (ns, a) := by have := hj 0; simpa using this.symm
    have e1 : kidE P V L t (t.args.length + i) = (bindE ns (prodL (xs.headD noXtor)) V, L) := by
      unfold kidE
      rw [if_neg (by omega), Nat.add_sub_cancel_left, List.getD_eq_getElem?_getD, ha]
      have := hx 0
      rw [Nat.add_zero] at this
      rw [← this]
      cases xs <;> rfl
    have e2 : kidT t (t.args.length + i) = a := by unfold kidT; rw [if_neg (by omega), Nat.add_sub_cancel_left, List.getD_eq_getElem?_getD, ha]; rfl
    have ih := tyK_cls P V L t r xs.tail (i + 1) (fun j => by have := hj (j + 1); simp at this; rw [this]; congr 1; omega) (fun j => by
      have := hx (j + 1)
      rw [show i + 1 + j = i + (j + 1) by omega, ← this]
      cases xs <;> simp)
    rw [List.length_cons, tyK, e1, e2, tyC, show t.args.length + i + 1 = t.args.length + (i + 1) by omega, ih]
theorem tyT_kids (P : Pg) (V L : Env) (t : Tm) : tyT P V L t = match tyK P V L t 0 (t.args.length + t.cls.length) with
    | .inl p => .inl p
    | .inr ps => ruleS P V L t.op t.n t.nm t.ty ps := by
  rw [tyK_args P V L t t.args 0 t.cls.length (fun j => by rw [Nat.zero_add]) (by simp)]
  have h := tyK_cls P V L t t.cls (declAt P t.ty).xtors 0 (fun j => by rw [Nat.zero_add]) (fun j => by rw [Nat.zero_add])
  rw [Nat.add_zero] at h
  rw [h]
  cases t with
  | mk op n nm ty args cls =>
    rw [tyT]
    show (match tyA P op nm ty V L 0 args with | .inl p => _ | .inr a => _) = _
    simp only [Tm.args, Tm.cls, Tm.op, Tm.nm, Tm.ty, Tm.n]
    cases tyA P op nm ty V L 0 args with
    | inl p => rfl
    | inr a => cases tyC P V L args.length (declAt P ty).xtors cls <;> rfl
/-- The types of the children found so far, as the loop has it. -/
theorem tyK_step (P : Pg) (V L : Env) (t : Tm) : ∀ (i k : Nat), tyK P V L t i (k + 1) = match tyK P V L t i k with
    | .inl p => .inl p
    | .inr ps => match tyT P (kidE P V L t (i + k)).1 (kidE P V L t (i + k)).2 (kidT t (i + k)) with
      | .inl p => .inl (((i + k : Nat) : Int) :: p)
      | .inr y => .inr (ps ++ [y])
  | i, 0 => by
    rw [tyK, tyK, tyK]
    simp only [Nat.add_zero]
    cases tyT P (kidE P V L t i).1 (kidE P V L t i).2 (kidT t i) <;> rfl
  | i, k + 1 => by
    rw [tyK, tyK_step P V L t (i + 1) k, show i + 1 + k = i + (k + 1) by omega]
    conv => rhs; rw [tyK]
    cases tyT P (kidE P V L t i).1 (kidE P V L t i).2 (kidT t i) with
    | inl p => rfl
    | inr y =>
      cases tyK P V L t (i + 1) k with
      | inl p => rfl
      | inr ps => cases tyT P (kidE P V L t (i + (k + 1))).1 (kidE P V L t (i + (k + 1))).2 (kidT t (i + (k + 1))) <;> rfl
theorem tyK_len (P : Pg) (V L : Env) (t : Tm) : ∀ (k i : Nat) (ps : List Int), tyK P V L t i k = .inr ps → ps.length = k
  | 0, i, ps, h => by rw [tyK] at h; cases h; rfl
  | k + 1, i, ps, h => by
    rw [tyK] at h
    cases hy : tyT P (kidE P V L t i).1 (kidE P V L t i).2 (kidT t i) with
    | inl p => rw [hy] at h; cases h
    | inr y =>
      rw [hy] at h
      cases hk : tyK P V L t (i + 1) k with
      | inl p => rw [hk] at h; cases h
      | inr q => rw [hk] at h; cases h; rw [List.length_cons, tyK_len P V L t k (i + 1) q hk]
theorem tyK_bad (P : Pg) (V L : Env) (t : Tm) : ∀ (k m i : Nat) (p : List Int), k ≤ m → tyK P V L t i k = .inl p → tyK P V L t i m = .inl p
  | 0, m, i, p, _, h => by rw [tyK] at h; cases h
  | k + 1, 0, i, p, hm, _ => by omega
  | k + 1, m + 1, i, p, hm, h => by
    rw [tyK] at h ⊢
    cases hy : tyT P (kidE P V L t i).1 (kidE P V L t i).2 (kidT t i) with
    | inl q => rw [hy] at h; exact h
    | inr y =>
      rw [hy] at h
      cases hk : tyK P V L t (i + 1) k with
      | inl q => rw [hk] at h; cases h; simp only [tyK_bad P V L t k m (i + 1) p (by omega) hk]
      | inr q => rw [hk] at h; cases h
end Go.Proofs.YtogmjgccopmplaaGreat

/- scope.go: with, find, linked, bind. -/
namespace Go.Proofs.YtogmjgccopmplaaGreat
open Go.RowKit
/-- Bindings in memory, the innermost first. -/
def RB (w : World) : Env → Value → Prop
  | [], v => v = .pointer none
  | (s, y) :: r, v => ∃ b u, v = .pointer (some ⟨b, 0, none⟩) ∧ w.cell? ⟨b, 0, none⟩ = some (.string s) ∧ w.cell? ⟨b, 1, none⟩ = some (.int .i64 y) ∧ w.cell? ⟨b, 2, none⟩ = some u ∧ RB w r u
theorem RB.below {w w' : World} (hb : Ext w w') : ∀ {E : Env} {v : Value}, RB w E v → RB w' E v
  | [], _, h => h
  | (_, _) :: _, _, ⟨b, u, h1, h2, h3, h4, h5⟩ => ⟨b, u, h1, hb.keep h2, hb.keep h3, hb.keep h4, RB.below hb h5⟩
theorem RB.form {w : World} {E : Env} {v : Value} (h : RB w E v) : ∃ p, v = .pointer p := by
  cases E with
  | nil => exact ⟨none, h⟩
  | cons a r => obtain ⟨b, u, h1, _⟩ := h; exact ⟨_, h1⟩
set_option maxHeartbeats 1000000 in
set_option maxRecDepth 100000 in
theorem bwith_any (E : Env) (v : Value) (s : Str) (y : Int) (w : World) (h : RB w E v) :
    Calls Tryz.prog 68 #[v, .string s, .int .i64 y] w fun e w' => (∃ u, e = .returned u ∧ RB w' ((s, y) :: E) u) ∧ Ext w w' := by
  have H := Lib.hid h
  obtain ⟨p, rfl⟩ := h.form
  clear h
  have HE := Lib.hid (Ext.al w (.cells #[.string s, .int .i64 y, .pointer p] 155))
  have HB := Lib.hid (heapNew w (.cells #[.string s, .int .i64 y, .pointer p] 155))
  go_enter Tryz.func68, Tryz.ntmps68
  go_wp2
  go_ret
  exact ⟨⟨_, rfl, _, _, rfl, cellAt HB.out 0, cellAt HB.out 1, cellAt HB.out 2, H.out.below HE.out⟩, HE.out⟩
def foundR : Option Int → Value
  | some y => .tuple #[.int .i64 y, .bool true]
  | none => .tuple #[.int .i64 0, .bool false]
set_option maxHeartbeats 1000000 in
set_option maxRecDepth 100000 in
theorem bfind_any (E : Env) (v : Value) (s : Str) (w : World) (h : RB w E v) :
    Calls Tryz.prog 95 #[v, .string s] w fun e w' => e = .returned (foundR (findE E s)) ∧ w = w' := by
  have H := Lib.hid h
  obtain ⟨p, rfl⟩ := h.form
  have HR : Hid (foundR (findE E s) = foundR (findE E s)) := rfl
  generalize hrr : foundR (findE E s) = rr at *
  have HRR : Hid (rr = foundR (findE E s)) := hrr.symm
  clear h hrr HR
  go_enter Tryz.func95, Tryz.ntmps95
  go_wp2
  go_loopg [0] E.length (fun k b wr => ∃ r : Env, w = wr ∧ r.length ≤ k ∧ RB w r b ∧ rr = foundR (findE r s))
  case atStart => exact ⟨E, rfl, Nat.le_refl _, H.out, HRR.out⟩
  case round =>
    obtain ⟨r, rfl, hk, hb, hr⟩ := hrel
    have HB := Lib.hid hb
    have HN := Lib.hid hr
    clear hr
    cases r with
    | nil =>
      obtain rfl := hb
      go_wp2
      go_ret2
      exact ⟨by rw [HN.out]; rfl, rfl⟩
    | cons a r =>
      obtain ⟨x, y⟩ := a
      obtain ⟨b, u, rfl, c0, c1, c2, hr⟩ := hb
      obtain ⟨q, rfl⟩ := hr.form
      have HRB := Lib.hid hr
      clear hr
      cases hq : (x.toList == s.toList)
      · have HQ := Lib.hid hq
        go_wp2
        go_roundg r.length
        case measure => simp at hk; omega
        case rel => exact ⟨r, rfl, Nat.le_refl _, HRB.out, by rw [HN.out, findE, HQ.out]; rfl⟩
      · have HQ := Lib.hid hq
        go_wp2
        go_ret2
        exact ⟨by rw [HN.out, findE, HQ.out]; rfl, rfl⟩
end Go.Proofs.YtogmjgccopmplaaGreat
