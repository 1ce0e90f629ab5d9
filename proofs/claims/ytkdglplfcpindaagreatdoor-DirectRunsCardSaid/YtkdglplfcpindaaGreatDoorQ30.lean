import Derived.Test.YtkdglplfcpindaaGreatDoorQ29
import Derived.Lib.ItoaLen
set_option maxRecDepth 100000
namespace Go.Proofs.YtkdglplfcpindaaGreatDoor
open Go.RowKit
theorem beqL {a b : List UInt8} (h : (a == b) = true) : a = b := by simpa using h
theorem apart {a b : ByteArray} (ha : nameB a = true) (hb : xtorB b = true) : (a.toList == b.toList) = false := by
  cases h : (a.toList == b.toList)
  . rfl
  . have e := beqL h
    rw [ByteArray.toList_eq, ByteArray.toList_eq] at e
    have e2 : headI a = headI b := by unfold headI; rw [e]
    simp only [nameB, xtorB, Bool.and_eq_true] at ha hb
    have h1 := ha.1.1.2
    have h2 := hb.1.2
    rw [e2] at h1
    simp [lowB] at h1
    simp [upB] at h2
    omega
theorem beq_comm' (a b : List UInt8) : (a == b) = (b == a) := by
  rw [Bool.eq_iff_iff]; simp only [beq_iff_eq]; exact eq_comm
structure Inv (S : List ByteArray) (P : List Decl) (X : List ByteArray) : Prop where
  has : ∀ k, hasS S k = (prevB P k || hasS X k)
  low : ∀ e ∈ P, nameB e.name = true
  up : ∀ x ∈ X, xtorB x = true
theorem prevB_append (P Q : List Decl) (k : ByteArray) : prevB (P ++ Q) k = (prevB P k || prevB Q k) := by simp [prevB]
theorem Inv.noX {S : List ByteArray} {P : List Decl} {X : List ByteArray} (h : Inv S P X) {k : ByteArray} (hk : nameB k = true) : hasS X k = false := by
  unfold hasS
  rw [List.any_eq_false]
  intro x hx
  rw [apart hk (h.up x hx)]
  simp
theorem Inv.noP {S : List ByteArray} {P : List Decl} {X : List ByteArray} (h : Inv S P X) {k : ByteArray} (hk : xtorB k = true) : prevB P k = false := by
  unfold prevB
  rw [List.any_eq_false]
  intro e he
  rw [apart (h.low e he) hk]
  simp
theorem Inv.addD2 {S : List ByteArray} {P : List Decl} {X : List ByteArray} (h : Inv S P X) {d : Decl} (hk : nameB d.name = true) : Inv (S ++ [d.name]) (P ++ [d]) X where
  has k := by
    rw [hasS_append, prevB_append, h.has]
    have : hasS [d.name] k = prevB [d] k := by simp [hasS, prevB, beq_comm']
    rw [this]
    cases prevB P k <;> cases hasS X k <;> cases prevB [d] k <;> rfl
  low e he := by
    rcases List.mem_append.1 he with h1 | h1
    . exact h.low e h1
    . rw [List.mem_singleton.1 h1]; exact hk
  up := h.up
theorem Inv.addX {S : List ByteArray} {P : List Decl} {X : List ByteArray} (h : Inv S P X) {x : ByteArray} (hk : xtorB x = true) : Inv (S ++ [x]) P (X ++ [x]) where
  has k := by rw [hasS_append, hasS_append, h.has, Bool.or_assoc]
  low := h.low
  up y hy := by
    rcases List.mem_append.1 hy with h1 | h1
    . exact h.up y h1
    . rw [List.mem_singleton.1 h1]; exact hk
theorem okX_isX {S : List ByteArray} {P : List Decl} {X : List ByteArray} (h : Inv S P X) (t : Int) (x : Xtor) : okX t S x = isX t X x := by
  unfold okX isX
  cases hk : xtorB x.name
  . simp
  . rw [h.has, h.noP hk]
    cases hasS X x.name <;> cases decide (x.args.length <= 6) <;> rfl
theorem okXs_isXs (t : Int) : ∀ (l : List Xtor) {S : List ByteArray} {P : List Decl} {X : List ByteArray}, Inv S P X -> okXs t S l = isXs t X l /\ (isXs t X l = true -> Inv (addXs S l) P (addXs X l))
  | [], S, P, X, h => ⟨rfl, fun _ => by rw [addXs_nil, addXs_nil]; exact h⟩
  | x :: r, S, P, X, h => by
    rw [okXs_cons, isXs_cons, addXs_cons, addXs_cons, okX_isX h]
    cases hx : isX t X x
    . exact ⟨by simp, by simp⟩
    . have hk : xtorB x.name = true := by simp only [isX, Bool.and_eq_true] at hx; exact hx.1.1.1
      have ih := okXs_isXs t r (h.addX hk)
      exact ⟨by simpa using ih.1, by simpa using ih.2⟩
theorem okDs_isDs (t : Int) : ∀ (l : List Decl) {S : List ByteArray} {P : List Decl} {X : List ByteArray}, Inv S P X -> okDs t S l = isDs t P X l
  | [], _, _, _, _ => rfl
  | d :: r, S, P, X, h => by
    rw [okDs_cons, isDs_cons]
    cases hk : nameB d.name
    . rw [okD_bad1 hk, isD_bad1 hk]; rfl
    . by_cases h6 : 1 <= d.xtors.length /\ d.xtors.length <= 6
      . have h2 := okXs_isXs t d.xtors (h.addD2 hk)
        have hs : hasS S d.name = prevB P d.name := by rw [h.has, h.noX hk, Bool.or_false]
        cases hp : prevB P d.name
        . rw [okD_good hk (hs.trans hp) h6.1 h6.2, isD_good hk h6 hp, h2.1]
          cases hx : isXs t X d.xtors
          . rfl
          . have := okDs_isDs t r (h2.2 hx)
            simp only [Bool.true_and]
            exact this
        . rw [okD_bad2 (hs.trans hp), isD_bad3 hp]; rfl
      . rw [okD_bad3 h6, isD_bad2 h6]; rfl
theorem valid_is (l : List Decl) : validB l = isB l := by
  unfold validB isB
  rw [okDs_isDs (S := []) (P := []) (X := []) _ l ⟨fun _ => rfl, by simp, by simp⟩]
end Go.Proofs.YtkdglplfcpindaaGreatDoor

namespace Go.Proofs.YtkdglplfcpindaaGreatDoor
open Go.RowKit
def okF (P : Pg) (f : Fn) : Bool := (sizeR f.body).2 && validT P (hasS (f.ps.map Prm.nm)) (hasS []) f.body
def sumF : List Fn -> Nat
  | [] => 0
  | f :: r => nT f.body + sumF r
def refIs (P : Pg) : Bool := isB P.decls && srcB P.decls && headsB P && (P.funs.all (okF P) && decide (sumF P.funs <= 600))
theorem headsFrom_mem {n : Nat} {all : List Fn} : ∀ {l : List Fn} {i : Nat}, headsFrom n all i l = true -> ∀ f ∈ l, f.ps.length <= 6
  | [], _, _, f, h => by cases h
  | g :: r, i, h, f, hf => by
    rw [headsFrom, Bool.and_eq_true] at h
    rcases List.mem_cons.1 hf with rfl | hf
    . have h1 := h.1
      unfold headF at h1
      simp only [Bool.and_eq_true, decide_eq_true_eq] at h1
      exact h1.1.1.1.1.2
    . exact headsFrom_mem h.2 f hf
theorem heads_few {P : Pg} (h : headsB P = true) : P.funs.length <= 12 /\ ∀ f ∈ P.funs, f.ps.length <= 6 := by
  unfold headsB at h
  simp only [Bool.and_eq_true, decide_eq_true_eq] at h
  exact ⟨h.1.2, headsFrom_mem h.2⟩
theorem small_nT {t : Tm} (h : (sizeR t).2 = true) : nT t <= 600 := by
  rw [size_small, Bool.and_eq_true, decide_eq_true_eq] at h
  exact h.1
theorem RSmall_is (k : Nat) (t : Tm) (va vc : Value) (q : Bool) (w : World) (ht : RT w k t va vc) (h : (sizeR t).2 = q) : Calls Tryz.prog 50 #[tV t va vc] w fun e w' => e = .returned (.bool q) /\ Ext w w' := by
  subst h; exact RSmall_any k t va vc w ht
theorem rstrs_nil' (w : World) : RStrs w (.slice none 0 0) [] := ⟨none, 0, rfl, Nat.le_refl _, Nat.zero_le _, fun i s h => by cases h⟩
set_option maxHeartbeats 4000000 in
theorem RIs_any (P : Pg) (vd vf : Value) (w : World) (hd : RDecls w vd P.decls) (hf : RFns w vf P.funs) :
    Calls Tryz.prog 26 #[pV vd vf] w fun e w' => e = .returned (.bool (refIs P)) /\ Ext w w' := by
  have HD := LH hd; have HF := LH hf
  have HR : Hid (refIs P = (isB P.decls && srcB P.decls && headsB P && (P.funs.all (okF P) && decide (sumF P.funs <= 600)))) := rfl
  generalize refIs P = rr at *
  obtain ⟨Ad, cd, rfl, hcd, hmd⟩ := hd.form
  obtain ⟨Af, cf, rfl, hcf, hmf⟩ := hf.form
  clear hd hf
  unfold maxLen at hmf hmd
  have HE := LH (Ext.al w (.cells #[.slice Ad P.decls.length cd, .slice Af P.funs.length cf] 25))
  have HB := LH (hNw w (.cells #[.slice Ad P.decls.length cd, .slice Af P.funs.length cf] 25))
  have c0 := cA HB.out 0
  have c1 := cA HB.out 1
  go_enter Tryz.func26, Tryz.ntmps26
  go_wp2_with fail
  generalize w.alloc _ = w1 at *
  clear c0 c1
  (with_reducible refine (Is_any _ P.decls w1 (HD.out.below HE.out)).mono ?_)
  rintro e w2 ⟨rfl, hb⟩
  have HX2 := LH (HE.out.tr hb)
  have HB2 := LH ((hb.block _ (hLt HB.out)).trans HB.out)
  clear hb
  have c0 := cA HB2.out 0
  have c1 := cA HB2.out 1
  cases hq1 : isB P.decls
  . have HFF : Hid (rr = false) := by show _ = _; rw [HR.out, hq1]; rfl
    clear hq1
    go_wp2
    go_ret
    exact ⟨rB HFF.out.symm, HX2.out⟩
  have HV : Hid (validB P.decls = true) := by show _ = _; rw [valid_is, hq1]
  have HR1 : Hid (rr = (srcB P.decls && headsB P && (P.funs.all (okF P) && decide (sumF P.funs <= 600)))) := by show _ = _; rw [HR.out, hq1]; rfl
  clear hq1 HR
  go_wp2_with fail
  (with_reducible refine (RSource_any _ P.decls w2 (HD.out.below HX2.out)).mono ?_)
  rintro e w3 ⟨rfl, hb⟩
  have HX3 := LH (HX2.out.tr hb)
  have HB3 := LH ((hb.block _ (hLt HB2.out)).trans HB2.out)
  clear hb c0 c1
  have c0 := cA HB3.out 0
  have c1 := cA HB3.out 1
  cases hq2 : srcB P.decls
  . have HFF : Hid (rr = false) := by show _ = _; rw [HR1.out, hq2]; rfl
    clear hq2
    go_wp2
    go_ret
    exact ⟨rB HFF.out.symm, HX3.out⟩
  have HS := LH hq2
  have HR2 : Hid (rr = (headsB P && (P.funs.all (okF P) && decide (sumF P.funs <= 600)))) := by show _ = _; rw [HR1.out, hq2]; rfl
  clear hq2 HR1
  go_wp2_with fail
  (with_reducible refine (heads_any P _ _ w3 (HD.out.below HX3.out) (HF.out.below HX3.out)).mono ?_)
  rintro e w4 ⟨rfl, hb⟩
  have HX4 := LH (HX3.out.tr hb)
  have HB4 := LH ((hb.block _ (hLt HB3.out)).trans HB3.out)
  clear hb c0 c1
  have c0 := cA HB4.out 0
  have c1 := cA HB4.out 1
  cases hq3 : headsB P
  . have HFF : Hid (rr = false) := by show _ = _; rw [HR2.out, hq3]; rfl
    clear hq3
    go_wp2
    go_ret
    exact ⟨rB HFF.out.symm, HX4.out⟩
  have HFW := LH (heads_few hq3)
  have HR3 : Hid (rr = (P.funs.all (okF P) && decide (sumF P.funs <= 600))) := by show _ = _; rw [HR2.out, hq3]; rfl
  clear hq3 HR2
  go_wp2
  clear c0 c1
  go_loopw [3, 24] (fun s i wr => ∃ j tot : Nat, j <= P.funs.length /\ i = .int .i64 j /\ s = .int .i64 tot /\ tot <= 600 * j /\ rr = ((P.funs.drop j).all (okF P) && decide (tot + sumF (P.funs.drop j) <= 600)) /\ Ext w4 wr) (fun _ i _ => P.funs.length - (intOf i).toNat)
  case atStart => exact ⟨0, 0, Nat.zero_le _, rfl, rfl, Nat.le_refl _, by rw [List.drop_zero, Nat.zero_add]; exact HR3.out, Ext.rf _⟩
  case round =>
    obtain ⟨j, tot, hj, rfl, rfl, htot, hrr, hb⟩ := hrel
    have HA := LH hrr
    have HX := LH hb
    have HTOT := LH htot
    have HBB := LH ((hb.block _ (hLt HB4.out)).trans HB4.out)
    clear hrr hb htot
    by_cases hlt : j < P.funs.length
    . obtain ⟨b, o, vp, xa, xc, kf, rfl, hbl, y0, y1, y2, yc, y3, y4, y5⟩ := HF.out.at_ hlt
      have HST : Hid (rr = (okF P P.funs[j] && (P.funs.drop (j + 1)).all (okF P) && decide (tot + (nT (P.funs[j]).body + sumF (P.funs.drop (j + 1))) <= 600))) := by show _ = _; rw [HA.out, List.drop_eq_getElem_cons hlt]; rfl
      have H6 : Hid ((P.funs[j]).ps.length <= 6) := HFW.out.2 _ (List.getElem_mem hlt)
      have hX := HX4.out.tr HX.out
      have y0 := hX.keep y0
      have y1 := hX.keep y1
      have y2 := hX.keep y2
      have yc := yc.below hX
      obtain ⟨Ap, cp, rfl, hcp, hmp⟩ := y4.form
      obtain ⟨_, ⟨Aa, ca, rfl, -, -⟩, ⟨Bb, cb, rfl, -, -⟩⟩ := y5.form
      have HPR := LH (y4.below hX)
      have HK := LH (y5.below hX)
      have c30 := yc.c0
      have c31 := yc.c1
      have c32 := yc.c2
      have c33 := yc.c3
      have c34 := yc.c4
      have c35 := yc.c5
      generalize P.funs[j] = f at *
      clear y3 y4 y5 yc
      have HE8 := LH (Ext.al wr (.cells #[.string f.nm, .slice Ap f.ps.length cp, .int .i64 f.res, .int .i64 f.body.op, .int .i64 f.body.n, .string f.body.nm, .int .i64 f.body.ty, .slice Aa f.body.args.length ca, .slice Bb f.body.cls.length cb] 52))
      have HN8 := LH (hNw wr (.cells #[.string f.nm, .slice Ap f.ps.length cp, .int .i64 f.res, .int .i64 f.body.op, .int .i64 f.body.n, .string f.body.nm, .int .i64 f.body.ty, .slice Aa f.body.args.length ca, .slice Bb f.body.cls.length cb] 52))
      have HP8 := LH ((HE8.out.block _ (hLt HBB.out)).trans HBB.out)
      have HX8 : Hid (Ext w (wr.alloc (.cells #[.string f.nm, .slice Ap f.ps.length cp, .int .i64 f.res, .int .i64 f.body.op, .int .i64 f.body.n, .string f.body.nm, .int .i64 f.body.ty, .slice Aa f.body.args.length ca, .slice Bb f.body.cls.length cb] 52))) := hX.tr HE8.out
      have HX48 : Hid (Ext w4 (wr.alloc (.cells #[.string f.nm, .slice Ap f.ps.length cp, .int .i64 f.res, .int .i64 f.body.op, .int .i64 f.body.n, .string f.body.nm, .int .i64 f.body.ty, .slice Aa f.body.args.length ca, .slice Bb f.body.cls.length cb] 52))) := HX.out.tr HE8.out
      clear hX
      go_wp2
      generalize wr.alloc _ = w8 at *
      clear y0 y1 y2 c30 c31 c32 c33 c34 c35
      have q1 := cA HN8.out 1
      have q3 := cA HN8.out 3
      have q4 := cA HN8.out 4
      have q5 := cA HN8.out 5
      have q6 := cA HN8.out 6
      have q7 := cA HN8.out 7
      have q8 := cA HN8.out 8
      have p0 := cA HP8.out 0
      have p1 := cA HP8.out 1
      cases hz : (sizeR f.body).2
      . have HZ := LH hz
        have HFF : Hid (rr = false) := by show _ = _; rw [HST.out]; unfold okF; rw [hz]; rfl
        clear hz
        have hmx : Tryz.prog.follows .mixedOrders = true := by kernel_rfl
        have k3 := ExtOf.cell (show w8.cell? ⟨wr.heap.size, 3, none⟩ = some (.int .i64 f.body.op) from q3)
        have k4 := ExtOf.cell (show w8.cell? ⟨wr.heap.size, 4, none⟩ = some (.int .i64 f.body.n) from q4)
        have k5 := ExtOf.cell (show w8.cell? ⟨wr.heap.size, 5, none⟩ = some (.string f.body.nm) from q5)
        have k6 := ExtOf.cell (show w8.cell? ⟨wr.heap.size, 6, none⟩ = some (.int .i64 f.body.ty) from q6)
        have k7 := ExtOf.cell (show w8.cell? ⟨wr.heap.size, 7, none⟩ = some (.slice Aa f.body.args.length ca) from q7)
        have k8 := ExtOf.cell (show w8.cell? ⟨wr.heap.size, 8, none⟩ = some (.slice Bb f.body.cls.length cb) from q8)
        clear q1 q3 q4 q5 q6 q7 q8 p0 p1
        refine wRE (w0 := w8) hmx (by kernel_rfl) (Ext.rf _) ?_
        repeat (first | go_big_quiet_step ((go_at_call 50; with_reducible exact Calls.ext_of (RSmall_is kf f.body _ _ false _ ((HK.out.below HE8.out).below (ExtOf.ext _)) HZ.out))) | quiet_step ((go_at_call 50; with_reducible exact Calls.ext_of (RSmall_is kf f.body _ _ false _ ((HK.out.below HE8.out).below (ExtOf.ext _)) HZ.out))))
        refine wpQuiet_nil ?_
        rintro _ ⟨⟨w9, hx⟩, rfl⟩
        have HX9 := LH hx
        clear hx
        go_wp2
        go_ret
        exact ⟨rB HFF.out.symm, HX8.out.tr HX9.out⟩
      . have HZ := LH hz
        have HNT := LH (small_nT hz)
        generalize hv : validT P (hasS (f.ps.map Prm.nm)) (hasS []) f.body = qv at *
        have HVV : Hid (validT P (hasS (f.ps.map Prm.nm)) (hasS []) f.body = qv) := hv
        have HOKF : Hid (okF P f = qv) := by show _ = _; unfold okF; rw [hz, hv]; rfl
        clear hz hv
        go_region_with (first
          | (go_at_call 50; (with_reducible refine (RSmall_any kf f.body _ _ _ ((HK.out.below HE8.out).below (Ext.rf _).drew)).mono ?_); rw [HZ.out]; rintro e w9 ⟨rfl, hb9⟩; have HX9 : Hid (Ext w8 w9) := Ext.tr (b := w8.drew) (Ext.rf w8).drew hb9; clear hb9 q1 q3 q4 q5 q6 q7 q8 p0 p1; have q1 := HX9.out.keep (cA HN8.out 1); have q3 := HX9.out.keep (cA HN8.out 3); have q4 := HX9.out.keep (cA HN8.out 4); have q5 := HX9.out.keep (cA HN8.out 5); have q6 := HX9.out.keep (cA HN8.out 6); have q7 := HX9.out.keep (cA HN8.out 7); have q8 := HX9.out.keep (cA HN8.out 8); have p0 := HX9.out.keep (cA HP8.out 0); have p1 := HX9.out.keep (cA HP8.out 1))
          | (go_at_call 52; (with_reducible refine (Params_any _ f.ps w9 ((HPR.out.below HE8.out).below HX9.out) (Nat.le_trans H6.out (by decide))).mono ?_); rintro e w10 ⟨V, rfl, hr10, hb10⟩; have HX10 : Hid (Ext w8 w10) := HX9.out.tr hb10; have HVS := LH hr10; clear hr10 hb10 q1 q3 q4 q5 q6 q7 q8 p0 p1; have q1 := HX10.out.keep (cA HN8.out 1); have q3 := HX10.out.keep (cA HN8.out 3); have q4 := HX10.out.keep (cA HN8.out 4); have q5 := HX10.out.keep (cA HN8.out 5); have q6 := HX10.out.keep (cA HN8.out 6); have q7 := HX10.out.keep (cA HN8.out 7); have q8 := HX10.out.keep (cA HN8.out 8); have p0 := HX10.out.keep (cA HP8.out 0); have p1 := HX10.out.keep (cA HP8.out 1))
          | (go_at_call 51; (with_reducible refine (RValid_any P _ _ HV.out HS.out kf f.body _ _ _ _ (f.ps.map Prm.nm) [] w10 (HD.out.below (HX8.out.tr HX10.out)) (HF.out.below (HX8.out.tr HX10.out)) HVS.out (rstrs_nil' _) ((HK.out.below HE8.out).below HX10.out) (by have := HNT.out; have := H6.out; rw [List.length_map]; omega) (by have := HNT.out; rw [List.length_nil]; omega)).mono ?_); rw [HVV.out]; rintro e w11 ⟨rfl, hb11⟩; have HX11 : Hid (Ext w8 w11) := HX10.out.tr hb11; clear hb11 q1 q3 q4 q5 q6 q7 q8 p0 p1; have q3 := HX11.out.keep (cA HN8.out 3); have q4 := HX11.out.keep (cA HN8.out 4); have q5 := HX11.out.keep (cA HN8.out 5); have q6 := HX11.out.keep (cA HN8.out 6); have q7 := HX11.out.keep (cA HN8.out 7); have q8 := HX11.out.keep (cA HN8.out 8)))
        all_goals
          cases qv
          . have HFF : Hid (rr = false) := by show _ = _; rw [HST.out, HOKF.out]; rfl
            go_wp2
            go_ret
            exact ⟨rB HFF.out.symm, HX8.out.tr HX11.out⟩
          . go_wp2_with fail
            (with_reducible refine (Nodes39_any kf f.body _ _ w11 ((HK.out.below HE8.out).below HX11.out) (by have := HNT.out; omega)).mono ?_)
            have HGO : Hid (rr = ((P.funs.drop (j + 1)).all (okF P) && decide (tot + nT f.body + sumF (P.funs.drop (j + 1)) <= 600))) := by show _ = _; rw [HST.out, HOKF.out, Nat.add_assoc]; rfl
            have hnt := HNT.out
            have h12 := HFW.out.1
            have htt := HTOT.out
            generalize nT f.body = nn at *
            rintro e w12 ⟨rfl, hb12⟩
            have HXF : Hid (Ext w4 w12) := HX48.out.tr (HX11.out.tr hb12)
            clear hb12 q3 q4 q5 q6 q7 q8
            go_wp2
            exact ⟨⟨j + 1, tot + nn, by omega, by go_num, by go_num, by omega, HGO.out, HXF.out⟩, by simp [intOf]; omega⟩
    . have HGO : Hid (rr = decide (tot <= 600)) := by show _ = _; rw [HA.out, List.drop_eq_nil_of_le (by omega), sumF, List.all_nil, Bool.true_and, Nat.add_zero]
      go_wp2
      go_ret
      exact ⟨rB (by rw [HGO.out]; exact decide_eq_decide.2 (by omega)), HX4.out.tr HX.out⟩
end Go.Proofs.YtkdglplfcpindaaGreatDoor

namespace Go.Proofs.YtkdglplfcpindaaGreatDoor
def okF' (P : Pg) (f : Fn) : Bool := (sizeR f.body).2 && validT P (hasS (f.ps.map Prm.nm)) (hasS []) f.body
def sumF' : List Fn -> Nat
  | [] => 0
  | f :: r => nT f.body + sumF' r
def refIs' (P : Pg) : Bool := isB P.decls && srcB P.decls && headsB P && (P.funs.all (okF' P) && decide (sumF' P.funs <= 600))
theorem sizes_iff : ∀ (l : List Fn) (n : Nat), sizesB n l = true ↔ (∀ f ∈ l, (sizeR f.body).2 = true) /\ n + sumF' l <= 600
  | [], n => by simp [sizesB, sumF']; omega
  | f :: r, n => by
    rw [sizesB_cons, Bool.and_eq_true, sumF']
    constructor
    . rintro ⟨h1, h2⟩
      rw [size_num h1] at h2
      have h3 := (sizes_iff r (n + nT f.body)).1 (by rw [← h2]; congr 1)
      exact ⟨fun g hg => (List.mem_cons.1 hg).elim (fun e => e ▸ h1) (h3.1 g), by omega⟩
    . rintro ⟨h1, h2⟩
      have hf := h1 f (List.mem_cons_self ..)
      refine ⟨hf, ?_⟩
      rw [size_num hf]
      have h3 := (sizes_iff r (n + nT f.body)).2 ⟨fun g hg => h1 g (List.mem_cons_of_mem _ hg), by omega⟩
      rw [← h3]; congr 1
def baseF (nd : Nat) (f : Fn) : Bool := !decide (f.res < 0) && !decide ((nd : Int) < f.res) && decide (f.ps.length <= 6) && distB (f.ps.map Prm.nm)
def condF (nd : Nat) (i : Nat) (f : Fn) : Bool := baseF nd f && f.ps.all (okPrm nd i) && !(decide (i = 0) && !decide (f.res = 0))
def condFrom (nd : Nat) : Nat -> List Fn -> Bool
  | _, [] => true
  | i, f :: r => condF nd i f && condFrom nd (i + 1) r
theorem prev_has (pre : List Fn) (s : Str) : (pre.any fun g => eqS s g.nm) = hasS (pre.map Fn.nm) s := by
  unfold hasS
  rw [List.any_map]; rfl
theorem heads_split (nd : Nat) : ∀ (l pre : List Fn), headsFrom nd (pre ++ l) pre.length l = (distF (hasS (pre.map Fn.nm)) (l.map Fn.nm) && condFrom nd pre.length l)
  | [], pre => rfl
  | f :: r, pre => by
    have ih := heads_split nd r (pre ++ [f])
    rw [List.append_assoc, List.singleton_append, List.length_append, List.length_singleton] at ih
    rw [headsFrom, ih, List.take_left', List.map_cons, distF, distF_next, List.map_append, List.map_cons, List.map_nil, condFrom]
    unfold headF condF baseF
    rw [prev_has]
    cases nameB f.nm <;> cases hasS (pre.map Fn.nm) f.nm <;> cases decide (f.res < 0) <;> cases decide ((nd : Int) < f.res) <;> cases decide (f.ps.length <= 6) <;> cases distB (f.ps.map Prm.nm) <;> cases f.ps.all (okPrm nd pre.length) <;> cases (decide (pre.length = 0) && !decide (f.res = 0)) <;> simp
    rfl
theorem type_iff (P : Pg) (ty : Int) : isTypeB P ty = (!decide (ty < 0) && !decide ((P.decls.length : Int) < ty)) := by
  unfold isTypeB
  by_cases h1 : ty < 0 <;> by_cases h2 : (P.decls.length : Int) < ty <;> simp [h1, h2] <;> omega
theorem funB_base (P : Pg) (f : Fn) : funB P f = (baseF P.decls.length f && (f.ps.all fun a => isTypeB P a.ty) && validT P (hasS (f.ps.map Prm.nm)) (fun _ => false) f.body) := by
  unfold funB baseF
  rw [type_iff P f.res]
  cases decide (f.ps.length <= 6) <;> cases decide (f.res < 0) <;> cases decide ((P.decls.length : Int) < f.res) <;> cases (f.ps.all fun a => isTypeB P a.ty) <;> cases distB (f.ps.map Prm.nm) <;> simp
theorem okPrm_pos (P : Pg) {i : Nat} (h : i ≠ 0) (x : Prm) : okPrm P.decls.length i x = isTypeB P x.ty := by
  rw [type_iff]
  unfold okPrm
  rw [decide_eq_false h]
  simp
theorem okPrm_zero (P : Pg) (x : Prm) : okPrm P.decls.length 0 x = (isTypeB P x.ty && decide (x.ty = 0)) := by
  rw [type_iff]
  unfold okPrm
  simp
theorem condF_pos (P : Pg) {i : Nat} (h : i ≠ 0) (f : Fn) : condF P.decls.length i f = (baseF P.decls.length f && f.ps.all fun a => isTypeB P a.ty) := by
  unfold condF
  rw [decide_eq_false h, show f.ps.all (okPrm P.decls.length i) = f.ps.all (fun a => isTypeB P a.ty) from by congr 1; funext x; exact okPrm_pos P h x]
  simp
theorem all_two {α : Type} (p q : α -> Bool) : ∀ l : List α, l.all (fun x => p x && q x) = (l.all p && l.all q)
  | [] => rfl
  | a :: r => by
    rw [List.all_cons, List.all_cons, List.all_cons, all_two p q r]
    cases p a <;> cases q a <;> cases r.all p <;> simp
theorem condF_zero (P : Pg) (f : Fn) : condF P.decls.length 0 f = (baseF P.decls.length f && (f.ps.all fun a => isTypeB P a.ty) && mainB f) := by
  unfold condF mainB
  rw [show f.ps.all (okPrm P.decls.length 0) = f.ps.all (fun a => isTypeB P a.ty && decide (a.ty = 0)) from by congr 1; funext x; exact okPrm_zero P x, all_two]
  cases baseF P.decls.length f <;> cases (f.ps.all fun a => isTypeB P a.ty) <;> cases (f.ps.all fun a => decide (a.ty = 0)) <;> cases decide (f.res = 0) <;> simp
theorem condFrom_pos (P : Pg) : ∀ (l : List Fn) (i : Nat), i ≠ 0 -> condFrom P.decls.length i l = l.all (fun f => baseF P.decls.length f && f.ps.all fun a => isTypeB P a.ty)
  | [], _, _ => rfl
  | f :: r, i, h => by rw [condFrom, List.all_cons, condF_pos P h, condFrom_pos P r (i + 1) (by omega)]
theorem is_prog (P : Pg) : refIs' P = progB P := by
  unfold refIs' progB headsB
  rw [valid_is P.decls]
  have hh := heads_split P.decls.length P.funs []
  rw [List.nil_append] at hh
  rw [show headsFrom P.decls.length P.funs 0 P.funs = _ from hh]
  have hd : distF (hasS (([] : List Fn).map Fn.nm)) (P.funs.map Fn.nm) = distB (P.funs.map Fn.nm) := rfl
  rw [hd]
  cases isB P.decls
  . simp
  cases srcB P.decls
  . simp
  cases hf : P.funs with
  | nil => simp
  | cons f r =>
    have hsz : sizesB 0 (f :: r) = decide ((∀ g ∈ f :: r, (sizeR g.body).2 = true) /\ 0 + sumF' (f :: r) <= 600) := by
      rw [Bool.eq_iff_iff, decide_eq_true_eq]
      exact sizes_iff (f :: r) 0
    rw [show ((0 : Int)) = ((0 : Nat) : Int) from rfl] at *
    have hc : condFrom P.decls.length ([] : List Fn).length (f :: r) = ((baseF P.decls.length f && (f.ps.all fun a => isTypeB P a.ty) && mainB f) && r.all (fun f => baseF P.decls.length f && f.ps.all fun a => isTypeB P a.ty)) := by
      show condFrom P.decls.length 0 (f :: r) = _
      rw [condFrom, condF_zero, condFrom_pos P r 1 (by decide)]
    rw [hc]
    have ha : (f :: r).all (funB P) = ((f :: r).all (fun f => baseF P.decls.length f && f.ps.all fun a => isTypeB P a.ty) && (f :: r).all fun f => validT P (hasS (f.ps.map Prm.nm)) (fun _ => false) f.body) := by
      rw [← all_two]
      congr 1
      funext g
      exact funB_base P g
    rw [ha]
    have ho : (f :: r).all (okF' P) = ((f :: r).all (fun g => (sizeR g.body).2) && (f :: r).all fun f => validT P (hasS (f.ps.map Prm.nm)) (fun _ => false) f.body) := by
      rw [← all_two]; rfl
    rw [ho]
    have hs2 : sizesB ((0 : Nat) : Int) (f :: r) = ((f :: r).all (fun g => (sizeR g.body).2) && decide (sumF' (f :: r) <= 600)) := by
      rw [Bool.eq_iff_iff, sizes_iff, Bool.and_eq_true, List.all_eq_true, decide_eq_true_eq, Nat.zero_add]
    rw [hs2]
    have hm : mainB ((f :: r).headD noFn) = mainB f := rfl
    rw [hm]
    rw [List.all_cons (f := fun f => baseF P.decls.length f && f.ps.all fun a => isTypeB P a.ty)]
    generalize ((f :: r).all fun f => validT P (hasS (f.ps.map Prm.nm)) (fun _ => false) f.body) = a1
    generalize ((f :: r).all fun g => (sizeR g.body).2) = a2
    generalize decide (sumF' (f :: r) <= 600) = a3
    generalize (r.all fun f => baseF P.decls.length f && f.ps.all fun a => isTypeB P a.ty) = a4
    generalize distB ((f :: r).map Fn.nm) = a5
    generalize decide (1 <= (f :: r).length) = a6
    generalize decide ((f :: r).length <= 12) = a7
    generalize mainB f = a8
    generalize baseF P.decls.length f = a9
    generalize (f.ps.all fun a => isTypeB P a.ty) = a10
    cases a1 <;> cases a2 <;> cases a3 <;> cases a4 <;> cases a5 <;> cases a6 <;> cases a7 <;> cases a8 <;> cases a9 <;> cases a10 <;> rfl
end Go.Proofs.YtkdglplfcpindaaGreatDoor

namespace Go.Proofs.YtkdglplfcpindaaGreatDoor
open Go.RowKit
theorem sumF_eq : ∀ l : List Fn, sumF l = sumF' l
  | [] => rfl
  | f :: r => by rw [sumF, sumF', sumF_eq r]
theorem refIs_prog (P : Pg) : refIs P = progB P := by
  rw [← is_prog]
  unfold refIs refIs'
  rw [sumF_eq]; rfl
end Go.Proofs.YtkdglplfcpindaaGreatDoor

namespace Go.Proofs.YtkdglplfcpindaaGreatDoor
open Go.RowKit
set_option maxHeartbeats 1000000 in
theorem validR_any (P : Pg) (w : World) (vd vf vi : Value) (fuel : Int) (inputs : List Int) (hd : RDecls w vd P.decls) (hf : RFns w vf P.funs) (hI : RInts w vi inputs) :
    Calls Tryz.prog 11 #[.agg #[vd, vf], .int .i64 fuel, vi] w fun e w' => e = .returned (.int .i64 (runE P fuel inputs.length)) /\ Ext w w' := by
  have HD := LH hd
  have HF := LH hf
  obtain ⟨Ad, cd, rfl, hcd, hmd⟩ := hd.form
  obtain ⟨Af, cf, rfl, hcf, hmf⟩ := hf.form
  obtain ⟨Ai, ci, rfl, hci, hmi⟩ := hI.form
  unfold maxLen at hmd hmf hmi
  have g1 := hNw w (.cells #[.slice Ad P.decls.length cd, .slice Af P.funs.length cf] 25)
  have HB := LH g1
  have HE := LH (Ext.al w (.cells #[.slice Ad P.decls.length cd, .slice Af P.funs.length cf] 25))
  have c0 := cA g1 0
  have c1 := cA g1 1
  clear hd hf hI g1
  go_enter Tryz.func11, Tryz.ntmps11
  go_wp2_with fail
  generalize World.alloc w _ = w1 at *
  (with_reducible refine (RIs_any P _ _ _ (HD.out.below HE.out) (HF.out.below HE.out)).mono ?_)
  rintro e w2 ⟨rfl, hb⟩
  rw [refIs_prog]
  have HE2 := LH (HE.out.tr hb)
  have HB2 := LH ((hb.block _ (hLt HB.out)).trans HB.out)
  clear hb c0 c1
  have b0 := cA HB2.out 0
  have b1 := cA HB2.out 1
  cases hq : progB P
  . have HQ := LH hq; clear hq
    have HRE : Hid (runE P fuel inputs.length = 20) := by show _ = _; unfold runE; rw [HQ.out]; rfl
    go_wp2
    go_ret
    exact ⟨by rw [HRE.out]; rfl, HE2.out⟩
  . have HQ := LH hq; clear hq
    have hpos : 0 < P.funs.length := List.length_pos_of_mem (main_ok HQ.out).1
    have HFA : Hid (fnAt P 0 = P.funs[0]) := by show _ = _; unfold fnAt; rw [List.getD_eq_getElem?_getD, show ((0 : Int)).toNat = 0 from rfl, List.getElem?_eq_getElem hpos]; rfl
    have HR2 : Hid (runE P fuel inputs.length = if fuel < 0 ∨ 20000 < fuel ∨ inputs.length ≠ (P.funs[0]).ps.length then 1 else 0) := by show _ = _; unfold runE; rw [HQ.out, HFA.out]; rfl
    obtain ⟨bf, of_, vp, xa, xc, rfl, -, hcf1, hcf2, f0, f1, f2, f3, hfn⟩ := HF.out.fn HE2.out hpos
    obtain ⟨-, hps, hbody⟩ := hfn
    obtain ⟨Ap, cp, rfl, hcp1, hcp2⟩ := hps.form
    rw [Nat.zero_mul, Nat.add_zero] at f1
    clear f0 f2 f3 hps hbody
    unfold maxLen at hcp2
    generalize P.funs[0] = f at *
    by_cases hf0 : fuel < 0
    . have HRE : Hid (runE P fuel inputs.length = 1) := by show _ = _; rw [HR2.out, if_pos (.inl hf0)]
      go_wp2
      go_ret
      exact ⟨by rw [HRE.out]; rfl, HE2.out⟩
    . by_cases hf1 : 20000 < fuel
      . have HRE : Hid (runE P fuel inputs.length = 1) := by show _ = _; rw [HR2.out, if_pos (.inr (.inl hf1))]
        go_wp2
        go_ret
        exact ⟨by rw [HRE.out]; rfl, HE2.out⟩
      . by_cases hf2 : inputs.length = f.ps.length
        . have HRE : Hid (runE P fuel inputs.length = 0) := by show _ = _; rw [HR2.out, if_neg (by omega)]
          rw [← hf2] at f1
          clear hf2
          go_wp2
          go_ret
          exact ⟨by rw [HRE.out]; rfl, HE2.out⟩
        . have HRE : Hid (runE P fuel inputs.length = 1) := by show _ = _; rw [HR2.out, if_pos (.inr (.inr hf2))]
          have hf3 : ((inputs.length : Nat) : Int) ≠ ((f.ps.length : Nat) : Int) := by omega
          have hne : (((inputs.length : Nat) : Int) != ((f.ps.length : Nat) : Int)) = true := by simpa using hf3
          have hne' : (((inputs.length : Nat) : Int) == ((f.ps.length : Nat) : Int)) = false := by simpa using hf3
          clear hf2 hf3
          go_wp2
          go_ret
          exact ⟨by rw [HRE.out]; rfl, HE2.out⟩
end Go.Proofs.YtkdglplfcpindaaGreatDoor

namespace Go.Proofs.YtkdglplfcpindaaGreatDoor
open Go.RowKit
set_option maxHeartbeats 1000000 in
theorem digits_small (w : World) (d : Nat) (hd : d < 10) :
    Calls Tryz.prog 32 #[.int .i64 (d : Int)] w fun e w' => e = .returned (.string ⟨(Lib.itoa d).toArray⟩) /\ Ext w w' := by
  have hI : Lib.itoa (d : Int) = [UInt8.ofNat (48 + d)] := by rw [Lib.itoa_nonneg, Lib.decDigits, dif_pos hd]
  rw [hI]
  clear hI
  rcases (show d = 0 ∨ d = 1 ∨ d = 2 ∨ d = 3 ∨ d = 4 ∨ d = 5 ∨ d = 6 ∨ d = 7 ∨ d = 8 ∨ d = 9 by omega) with rfl | rfl | rfl | rfl | rfl | rfl | rfl | rfl | rfl | rfl
  all_goals
    go_enter Tryz.func32, Tryz.ntmps32
    go_wp2
    go_ret
    exact ⟨rfl, Ext.rf _⟩
theorem aO5 (l : List UInt8) (s : Str) (c : UInt8) (hl : l.length <= 22) (hs : s = ⟨#[c]⟩) : Op.stringOp .add ⟨l.toArray⟩ s = pure (.string ⟨(l ++ [c]).toArray⟩) := by
  subst hs
  rw [add_str5 ⟨l.toArray⟩ ⟨#[c]⟩ (by show l.toArray.size + 1 <= 1000; rw [List.size_toArray]; omega)]
  have e : (⟨l.toArray⟩ : Str) ++ ⟨#[c]⟩ = ⟨(l ++ [c]).toArray⟩ := by
    apply ByteArray.ext
    rw [ByteArray.data_append]
    simp
  rw [e]
set_option maxHeartbeats 1000000 in
theorem digits_more (w : World) (n q : Int) (d : Nat) (l : List UInt8) (h10 : 10 <= n) (hm : n <= 9223372036854775807) (hd : d < 10) (hq : n.tdiv 10 = q) (hq0 : 0 <= q) (hqm : q <= 9223372036854775807) (hr : n.tmod 10 = d) (hl : l.length <= 21)
    (hc : ∀ w, Calls Tryz.prog 32 #[.int .i64 q] w fun e w' => e = .returned (.string ⟨l.toArray⟩) /\ Ext w w') :
    Calls Tryz.prog 32 #[.int .i64 n] w fun e w' => e = .returned (.string ⟨(l ++ [UInt8.ofNat (48 + d)]).toArray⟩) /\ Ext w w' := by
  have HC := LH hc
  have k0 : Op.stringOp .add ⟨l.toArray⟩ (Utf8.encode 48) = pure (.string ⟨(l ++ [48]).toArray⟩) := aO5 l _ 48 (by omega) (by kernel_rfl)
  have k1 : Op.stringOp .add ⟨l.toArray⟩ (Utf8.encode 49) = pure (.string ⟨(l ++ [49]).toArray⟩) := aO5 l _ 49 (by omega) (by kernel_rfl)
  have k2 : Op.stringOp .add ⟨l.toArray⟩ (Utf8.encode 50) = pure (.string ⟨(l ++ [50]).toArray⟩) := aO5 l _ 50 (by omega) (by kernel_rfl)
  have k3 : Op.stringOp .add ⟨l.toArray⟩ (Utf8.encode 51) = pure (.string ⟨(l ++ [51]).toArray⟩) := aO5 l _ 51 (by omega) (by kernel_rfl)
  have k4 : Op.stringOp .add ⟨l.toArray⟩ (Utf8.encode 52) = pure (.string ⟨(l ++ [52]).toArray⟩) := aO5 l _ 52 (by omega) (by kernel_rfl)
  have k5 : Op.stringOp .add ⟨l.toArray⟩ (Utf8.encode 53) = pure (.string ⟨(l ++ [53]).toArray⟩) := aO5 l _ 53 (by omega) (by kernel_rfl)
  have k6 : Op.stringOp .add ⟨l.toArray⟩ (Utf8.encode 54) = pure (.string ⟨(l ++ [54]).toArray⟩) := aO5 l _ 54 (by omega) (by kernel_rfl)
  have k7 : Op.stringOp .add ⟨l.toArray⟩ (Utf8.encode 55) = pure (.string ⟨(l ++ [55]).toArray⟩) := aO5 l _ 55 (by omega) (by kernel_rfl)
  have k8 : Op.stringOp .add ⟨l.toArray⟩ (Utf8.encode 56) = pure (.string ⟨(l ++ [56]).toArray⟩) := aO5 l _ 56 (by omega) (by kernel_rfl)
  have k9 : Op.stringOp .add ⟨l.toArray⟩ (Utf8.encode 57) = pure (.string ⟨(l ++ [57]).toArray⟩) := aO5 l _ 57 (by omega) (by kernel_rfl)
  have hw : IntKind.i64.wrap q = q := IntWalk.i64_in _ (by omega)
  clear hc hl hq0 hqm
  rcases (show d = 0 ∨ d = 1 ∨ d = 2 ∨ d = 3 ∨ d = 4 ∨ d = 5 ∨ d = 6 ∨ d = 7 ∨ d = 8 ∨ d = 9 by omega) with rfl | rfl | rfl | rfl | rfl | rfl | rfl | rfl | rfl | rfl
  all_goals
    go_enter Tryz.func32, Tryz.ntmps32
    go_wp2_with fail
    (with_reducible refine (HC.out _).mono ?_)
    rintro e w2 ⟨rfl, hx⟩
    have HX := LH hx
    clear hx
    go_wp2
    go_ret
    exact ⟨rfl, HX.out⟩
set_option maxHeartbeats 1000000 in
theorem digits_neg1 (w : World) (d : Nat) (hd : d < 10) (h0 : 0 < d) :
    Calls Tryz.prog 32 #[.int .i64 (-(d : Int))] w fun e w' => e = .returned (.string ⟨(45 :: [UInt8.ofNat (48 + d)]).toArray⟩) /\ Ext w w' := by
  have k1 : Op.stringOp .add ⟨#[45]⟩ (Utf8.encode 49) = pure (.string ⟨(([45] : List UInt8) ++ [49]).toArray⟩) := aO5 [45] _ 49 (by decide) (by kernel_rfl)
  have k2 : Op.stringOp .add ⟨#[45]⟩ (Utf8.encode 50) = pure (.string ⟨(([45] : List UInt8) ++ [50]).toArray⟩) := aO5 [45] _ 50 (by decide) (by kernel_rfl)
  have k3 : Op.stringOp .add ⟨#[45]⟩ (Utf8.encode 51) = pure (.string ⟨(([45] : List UInt8) ++ [51]).toArray⟩) := aO5 [45] _ 51 (by decide) (by kernel_rfl)
  have k4 : Op.stringOp .add ⟨#[45]⟩ (Utf8.encode 52) = pure (.string ⟨(([45] : List UInt8) ++ [52]).toArray⟩) := aO5 [45] _ 52 (by decide) (by kernel_rfl)
  have k5 : Op.stringOp .add ⟨#[45]⟩ (Utf8.encode 53) = pure (.string ⟨(([45] : List UInt8) ++ [53]).toArray⟩) := aO5 [45] _ 53 (by decide) (by kernel_rfl)
  have k6 : Op.stringOp .add ⟨#[45]⟩ (Utf8.encode 54) = pure (.string ⟨(([45] : List UInt8) ++ [54]).toArray⟩) := aO5 [45] _ 54 (by decide) (by kernel_rfl)
  have k7 : Op.stringOp .add ⟨#[45]⟩ (Utf8.encode 55) = pure (.string ⟨(([45] : List UInt8) ++ [55]).toArray⟩) := aO5 [45] _ 55 (by decide) (by kernel_rfl)
  have k8 : Op.stringOp .add ⟨#[45]⟩ (Utf8.encode 56) = pure (.string ⟨(([45] : List UInt8) ++ [56]).toArray⟩) := aO5 [45] _ 56 (by decide) (by kernel_rfl)
  have k9 : Op.stringOp .add ⟨#[45]⟩ (Utf8.encode 57) = pure (.string ⟨(([45] : List UInt8) ++ [57]).toArray⟩) := aO5 [45] _ 57 (by decide) (by kernel_rfl)
  rcases (show d = 1 ∨ d = 2 ∨ d = 3 ∨ d = 4 ∨ d = 5 ∨ d = 6 ∨ d = 7 ∨ d = 8 ∨ d = 9 by omega) with rfl | rfl | rfl | rfl | rfl | rfl | rfl | rfl | rfl
  all_goals
    clear hd h0
    go_enter Tryz.func32, Tryz.ntmps32
    go_wp2
    go_ret
    exact ⟨rfl, Ext.rf _⟩
set_option maxHeartbeats 1000000 in
theorem digits_neg (w : World) (n q : Int) (d : Nat) (l : List UInt8) (h10 : n < 0) (hm : -9223372036854775808 <= n) (hd : d < 10) (hq : n.tdiv 10 = q) (hq0 : q < 0) (hqm : -9223372036854775808 <= q) (hr : n.tmod 10 = -(d : Int)) (hl : l.length <= 21)
    (hc : ∀ w, Calls Tryz.prog 32 #[.int .i64 q] w fun e w' => e = .returned (.string ⟨l.toArray⟩) /\ Ext w w') :
    Calls Tryz.prog 32 #[.int .i64 n] w fun e w' => e = .returned (.string ⟨(l ++ [UInt8.ofNat (48 + d)]).toArray⟩) /\ Ext w w' := by
  have HC := LH hc
  have k0 : Op.stringOp .add ⟨l.toArray⟩ (Utf8.encode 48) = pure (.string ⟨(l ++ [48]).toArray⟩) := aO5 l _ 48 (by omega) (by kernel_rfl)
  have k1 : Op.stringOp .add ⟨l.toArray⟩ (Utf8.encode 49) = pure (.string ⟨(l ++ [49]).toArray⟩) := aO5 l _ 49 (by omega) (by kernel_rfl)
  have k2 : Op.stringOp .add ⟨l.toArray⟩ (Utf8.encode 50) = pure (.string ⟨(l ++ [50]).toArray⟩) := aO5 l _ 50 (by omega) (by kernel_rfl)
  have k3 : Op.stringOp .add ⟨l.toArray⟩ (Utf8.encode 51) = pure (.string ⟨(l ++ [51]).toArray⟩) := aO5 l _ 51 (by omega) (by kernel_rfl)
  have k4 : Op.stringOp .add ⟨l.toArray⟩ (Utf8.encode 52) = pure (.string ⟨(l ++ [52]).toArray⟩) := aO5 l _ 52 (by omega) (by kernel_rfl)
  have k5 : Op.stringOp .add ⟨l.toArray⟩ (Utf8.encode 53) = pure (.string ⟨(l ++ [53]).toArray⟩) := aO5 l _ 53 (by omega) (by kernel_rfl)
  have k6 : Op.stringOp .add ⟨l.toArray⟩ (Utf8.encode 54) = pure (.string ⟨(l ++ [54]).toArray⟩) := aO5 l _ 54 (by omega) (by kernel_rfl)
  have k7 : Op.stringOp .add ⟨l.toArray⟩ (Utf8.encode 55) = pure (.string ⟨(l ++ [55]).toArray⟩) := aO5 l _ 55 (by omega) (by kernel_rfl)
  have k8 : Op.stringOp .add ⟨l.toArray⟩ (Utf8.encode 56) = pure (.string ⟨(l ++ [56]).toArray⟩) := aO5 l _ 56 (by omega) (by kernel_rfl)
  have k9 : Op.stringOp .add ⟨l.toArray⟩ (Utf8.encode 57) = pure (.string ⟨(l ++ [57]).toArray⟩) := aO5 l _ 57 (by omega) (by kernel_rfl)
  have hw : IntKind.i64.wrap q = q := IntWalk.i64_in _ (by omega)
  have hz : (q == 0) = false := by simpa using (show q ≠ 0 by omega)
  clear hc hl hq0 hqm
  rcases (show d = 0 ∨ d = 1 ∨ d = 2 ∨ d = 3 ∨ d = 4 ∨ d = 5 ∨ d = 6 ∨ d = 7 ∨ d = 8 ∨ d = 9 by omega) with rfl | rfl | rfl | rfl | rfl | rfl | rfl | rfl | rfl | rfl
  all_goals
    go_enter Tryz.func32, Tryz.ntmps32
    go_wp2_with fail
    (with_reducible refine (HC.out _).mono ?_)
    rintro e w2 ⟨rfl, hx⟩
    have HX := LH hx
    clear hx
    go_wp2
    go_ret
    exact ⟨rfl, HX.out⟩
theorem itoa_more (u : Nat) (h : 10 <= u) : Lib.itoa (u : Int) = Lib.itoa ((u / 10 : Nat) : Int) ++ [UInt8.ofNat (48 + u % 10)] := by
  rw [Lib.itoa_nonneg, Lib.itoa_nonneg, Lib.decDigits, dif_neg (by omega)]
theorem itoa_neg1 (u : Nat) (h : 0 < u) (h1 : u < 10) : Lib.itoa (-(u : Int)) = 45 :: [UInt8.ofNat (48 + u)] := by
  rw [Lib.itoa_neg u h, Lib.decDigits, dif_pos h1]
theorem itoa_negm (u : Nat) (h : 10 <= u) : Lib.itoa (-(u : Int)) = Lib.itoa (-((u / 10 : Nat) : Int)) ++ [UInt8.ofNat (48 + u % 10)] := by
  rw [Lib.itoa_neg u (by omega), Lib.itoa_neg (u / 10) (by omega), Lib.decDigits, dif_neg (by omega), List.cons_append]
theorem digits_any : ∀ (u : Nat) (n : Int), n.natAbs <= u -> -9223372036854775808 <= n -> n <= 9223372036854775807 -> ∀ w : World,
    Calls Tryz.prog 32 #[.int .i64 n] w fun e w' => e = .returned (.string ⟨(Lib.itoa n).toArray⟩) /\ Ext w w' := by
  intro u
  induction u using Nat.strongRecOn with
  | _ u ih =>
    intro n hu h0 h1 w
    by_cases hneg : n < 0
    . obtain ⟨k, rfl⟩ : ∃ k : Nat, n = -(k : Int) := ⟨n.natAbs, by omega⟩
      by_cases hk : k < 10
      . rw [itoa_neg1 k (by omega) hk]
        exact digits_neg1 w k hk (by omega)
      . rw [itoa_negm k (by omega)]
        have e1 : (-(k : Int)).tdiv 10 = -((k / 10 : Nat) : Int) := by rw [Int.neg_tdiv]; rfl
        have e2 : (-(k : Int)).tmod 10 = -((k % 10 : Nat) : Int) := by rw [Int.neg_tmod]; rfl
        exact digits_neg w _ _ (k % 10) _ hneg h0 (Nat.mod_lt _ (by decide)) e1 (by omega) (by omega) e2 (Lib.itoa_length_le _ (by omega) (by omega)) (ih (k / 10) (by omega) _ (by omega) (by omega) (by omega))
    . obtain ⟨k, rfl⟩ : ∃ k : Nat, n = (k : Int) := ⟨n.toNat, by omega⟩
      by_cases hk : k < 10
      . exact digits_small w k hk
      . rw [itoa_more k (by omega)]
        exact digits_more w _ ((k / 10 : Nat) : Int) (k % 10) _ (by omega) h1 (Nat.mod_lt _ (by decide)) rfl (by omega) (by omega) rfl (Lib.itoa_length_le _ (by omega) (by omega)) (ih (k / 10) (by omega) _ (by omega) (by omega) (by omega))
theorem digits64 (n : Int) (h : ok64 n) (w : World) : Calls Tryz.prog 32 #[.int .i64 n] w fun e w' => e = .returned (.string ⟨(Lib.itoa n).toArray⟩) /\ Ext w w' := by
  have hb : -9223372036854775808 <= n /\ n <= 9223372036854775807 := by
    unfold ok64 at h
    simpa [Lit.wf, IntKind.min, IntKind.max, IntKind.signed, IntKind.bits] using h
  exact digits_any n.natAbs n (Nat.le_refl _) hb.1 hb.2 w
end Go.Proofs.YtkdglplfcpindaaGreatDoor
