import Derived.Test.YtkdglplfcpindaaGreatDoorQ7
import Derived.Test.YtkdglplfcpindaaGreatDoorRows
import Derived.ProofKit
import Derived.Deep.Slices
import Derived.Deep.Fields
import Derived.ChangeSame
import Derived.ChangeOld
import Derived.ShutString
set_option maxRecDepth 100000
namespace Go.Proofs.YtkdglplfcpindaaGreatDoor
open Go.RowKit
structure FineT (t : Tm) : Prop where
  dep : ∀ y ∈ nodesL 1 t, 0 <= y.1 /\ y.1 <= 1000000000000
  names : wT t <= 1000000000000000000
structure FineF (P : Pg) (t : Tm) : Prop where
  dep : ∀ y ∈ nodesL 1 t, 0 <= y.1 /\ y.1 <= 1000000000000
  names : validB P.decls = true -> (nodesL 1 t).length <= 600 -> wF P t <= 1000000000000000000
theorem FineT.toF {t : Tm} (h : FineT t) (P : Pg) : FineF P t := ⟨h.dep, fun _ _ => Nat.le_trans (wF_le P t) h.names⟩
def FinePg (P : Pg) : Prop := ∀ f ∈ P.funs, FineF P f.body
theorem sizeR_le (t : Tm) : 0 <= (sizeR t).1 /\ (sizeR t).1 <= 600 := by
  unfold sizeR
  split
  . rename_i h
    unfold sizeOK at h
    simp only [Bool.and_eq_true, decide_eq_true_eq] at h
    exact ⟨by show (0 : Int) <= ((nodesL 1 t).length : Int); omega, by show ((nodesL 1 t).length : Int) <= 600; omega⟩
  . exact ⟨Int.le_refl _, by decide⟩
theorem sizesB_cons (n : Int) (f : Fn) (r : List Fn) : sizesB n (f :: r) = ((sizeR f.body).2 && sizesB (n + (sizeR f.body).1) r) := rfl
set_option maxHeartbeats 2000000 in
theorem validSize_any {P : Pg} (v : Value) (l : List Fn) (w : World) (h : RFns w v l) (hl : l.length <= 1000) (hfine : ∀ f ∈ l, FineF P f.body) :
    Calls Tryz.prog 67 #[v] w fun e w' => e = .returned (.bool (sizesB 0 l)) /\ Ext w w' := by
  have HR := LH h
  have HFI := LH hfine
  obtain ⟨A, c, rfl, hc, hm⟩ := h.form
  clear h hfine
  unfold maxLen at hm
  go_enter Tryz.func67, Tryz.ntmps67
  go_wp2
  go_loopw [3, 10] (fun s i wr => ∃ (k : Nat) (n : Int), k <= l.length /\ i = .int .i64 k /\ s = .int .i64 n /\ 0 <= n /\ n <= 600 * k /\ Ext w wr /\ sizesB 0 l = sizesB n (l.drop k)) (fun _ i _ => l.length - (intOf i).toNat)
  case atStart => exact ⟨0, 0, Nat.zero_le _, rfl, rfl, Int.le_refl _, by decide, Ext.rf _, by simp⟩
  case round =>
    obtain ⟨k, n, hk, rfl, rfl, hn0, hn1, hb, hno⟩ := hrel
    have HB := LH hb; have HN := LH hno; clear hb hno
    by_cases hlt : k < l.length
    . obtain ⟨b, o, vp, xa, xc, kf, rfl, hbl, y0, y1, y2, yc, y3, y4, y5⟩ := HR.out.at_ hlt
      obtain ⟨Ap, cp, rfl, -, -⟩ := y4.form
      have HT := LH (y5.below HB.out)
      obtain ⟨_, ⟨Aa, ca, rfl, -, -⟩, ⟨Bb, cb, rfl, -, -⟩⟩ := y5.form
      have y0 := HB.out.keep y0
      have y1 := HB.out.keep y1
      have y2 := HB.out.keep y2
      have c0 := HB.out.keep yc.c0
      have c1 := HB.out.keep yc.c1
      have c2 := HB.out.keep yc.c2
      have c3 := HB.out.keep yc.c3
      have c4 := HB.out.keep yc.c4
      have c5 := HB.out.keep yc.c5
      have HD := LH (dS hlt)
      have HFF := LH (HFI.out _ (List.getElem_mem hlt))
      clear yc y4 y5
      generalize l[k] = f at *
      have hE2 := Ext.al wr (Obj.cells #[.string f.nm, .slice Ap f.ps.length cp, .int .i64 f.res, .int .i64 f.body.op, .int .i64 f.body.n, .string f.body.nm, .int .i64 f.body.ty, .slice Aa f.body.args.length ca, .slice Bb f.body.cls.length cb] 52)
      have HT2 := LH (HT.out.below hE2)
      have HE2 := LH (HB.out.tr hE2)
      clear hE2
      go_wp2_with fail
      (with_reducible refine (size_any kf f.body _ _ _ HT2.out HFF.out.dep).mono ?_)
      generalize wr.alloc _ = w2 at *
      rintro e w3 ⟨rfl, hb3⟩
      have HE3 := LH (HE2.out.tr hb3)
      clear hb3 c0 c1 c2 c3 c4 c5 y0 y1 y2
      have HST := LH (sizesB_cons n f (l.drop (k + 1)))
      obtain ⟨hs0, hs1⟩ := sizeR_le f.body
      generalize sizeR f.body = z at *
      obtain ⟨z1, z2⟩ := z
      dsimp only at *
      cases z2
      . go_wp2
        go_ret
        exact ⟨rB (by rw [HN.out, HD.out, HST.out]; rfl), HE3.out⟩
      . go_wp2
        go_roundw
        case rel => exact ⟨k + 1, n + z1, by omega, by go_num, rfl, by omega, by omega, HE3.out, by rw [HN.out, HD.out, HST.out]; rfl⟩
        case measure => simp [intOf]; omega
    . have HK := LH (drop_end hlt)
      go_wp2
      go_ret
      exact ⟨rB (by rw [HN.out, HK.out]; rfl), HB.out⟩
theorem RPrms.names_le {w : World} {v : Value} {l : List Prm} (h : RPrms w v l) : ∀ s ∈ l.map Prm.nm, s.size <= maxLen := by
  obtain ⟨A, c, rfl, -, -⟩ := h.form
  intro s hs
  obtain ⟨a, ha, rfl⟩ := List.mem_map.1 hs
  obtain ⟨i, hi, rfl⟩ := List.getElem_of_mem ha
  obtain ⟨b, o, -, -, -, -, y⟩ := h.at_ hi
  exact y
theorem RFns.names_le {w : World} {v : Value} {l : List Fn} (h : RFns w v l) : ∀ s ∈ l.map Fn.nm, s.size <= maxLen := by
  obtain ⟨A, c, rfl, -, -⟩ := h.form
  intro s hs
  obtain ⟨a, ha, rfl⟩ := List.mem_map.1 hs
  obtain ⟨i, hi, rfl⟩ := List.getElem_of_mem ha
  obtain ⟨b, o, vp, xa, xc, k, -, -, -, -, -, -, y, -⟩ := h.at_ hi
  exact y
theorem box9 (w : World) (o1 : Obj) (a b c d e f g h i : Value) :
    ((w.alloc o1).alloc (.cells #[a, b, c, d, e, f, g, h, i] 52)).heap[w.heap.size + 1]? = some (.cells #[a, b, c, d, e, f, g, h, i] 52 (0, 0)) := by
  have := hNw (w.alloc o1) (.cells #[a, b, c, d, e, f, g, h, i] 52)
  simpa using this
set_option maxHeartbeats 4000000 in
theorem validFun_any (P : Pg) (vd vf : Value) (f : Fn) (vp xa xc : Value) (kf : Nat) (w : World) (hd : RDecls w vd P.decls) (hf : RFns w vf P.funs) (hp : RPrms w vp f.ps) (ht : RT w kf f.body xa xc) (hfine : FineF P f.body) (hvb : validB P.decls = true) (hzz : (nodesL 1 f.body).length <= 600) :
    Calls Tryz.prog 68 #[pV vd vf, fV f vp xa xc] w fun e w' => e = .returned (.bool (funB P f)) /\ Ext w w' := by
  have HD := LH hd; have HF := LH hf; have HP := LH hp; have HT := LH ht; have HFI := LH hfine
  have HFB : Hid (funB P f = (decide (f.ps.length <= 6) && isTypeB P f.res && f.ps.all (fun a => isTypeB P a.ty) && (distB (f.ps.map Prm.nm) && validT P (hasS (f.ps.map Prm.nm)) (fun _ => false) f.body))) := rfl
  generalize funB P f = rr at *
  obtain ⟨Ap, cp, rfl, hcp, hmp⟩ := hp.form
  obtain ⟨_, ⟨Aa, ca, rfl, -, -⟩, ⟨Bb, cb, rfl, -, -⟩⟩ := ht.form
  have HNMS := LH (hfine.names hvb hzz)
  clear hd hf hp ht hfine hvb hzz
  unfold maxLen at hmp
  have HE : Hid (Ext w ((w.alloc (.cells #[vd, vf] 25)).alloc (.cells #[.string f.nm, .slice Ap f.ps.length cp, .int .i64 f.res, .int .i64 f.body.op, .int .i64 f.body.n, .string f.body.nm, .int .i64 f.body.ty, .slice Aa f.body.args.length ca, .slice Bb f.body.cls.length cb] 52))) := Ext.al2 _ _ _
  have HB1 := LH (box9 w (.cells #[vd, vf] 25) (.string f.nm) (.slice Ap f.ps.length cp) (.int .i64 f.res) (.int .i64 f.body.op) (.int .i64 f.body.n) (.string f.body.nm) (.int .i64 f.body.ty) (.slice Aa f.body.args.length ca) (.slice Bb f.body.cls.length cb))
  have HB0 : Hid (((w.alloc (.cells #[vd, vf] 25)).alloc (.cells #[.string f.nm, .slice Ap f.ps.length cp, .int .i64 f.res, .int .i64 f.body.op, .int .i64 f.body.n, .string f.body.nm, .int .i64 f.body.ty, .slice Aa f.body.args.length ca, .slice Bb f.body.cls.length cb] 52)).heap[w.heap.size]? = some (.cells #[vd, vf] 25 (0, 0))) := ((Ext.al _ _).block _ (hLt (hNw _ _))).trans (hNw _ _)
  by_cases h6 : f.ps.length <= 6
  . have H6 := LH h6
    go_enter Tryz.func68, Tryz.ntmps68
    go_wp2_with fail
    generalize (w.alloc _).alloc _ = w1 at *
    (with_reducible refine (isType_any vd vf P f.res _ (HD.out.below HE.out)).mono ?_)
    rintro e w2 ⟨rfl, hb⟩
    have HE2 := LH (HE.out.tr hb)
    have b0 := (hb.block _ (hLt HB0.out)).trans HB0.out
    have b1 := (hb.block _ (hLt HB1.out)).trans HB1.out
    have HB02 := LH b0; have HB12 := LH b1
    have c1 := cA b1 1
    clear hb b0 b1
    cases hq : isTypeB P f.res
    . have HQ := LH hq
      clear hq
      go_wp2
      go_ret
      exact ⟨rB (by rw [HFB.out, HQ.out]; simp), HE2.out⟩
    . have HQ := LH hq
      clear hq
      go_wp2
      go_loopw [22] (fun i wr => ∃ k : Nat, k <= f.ps.length /\ i = .int .i64 k /\ Ext w2 wr /\ f.ps.all (fun a => isTypeB P a.ty) = (f.ps.drop k).all (fun a => isTypeB P a.ty)) (fun i _ => f.ps.length - (intOf i).toNat)
      case atStart => exact ⟨0, Nat.zero_le _, rfl, Ext.rf _, by simp⟩
      case round =>
        obtain ⟨k, hk, rfl, hb, hno⟩ := hrel
        have HB := LH hb; have HN := LH hno
        have b0 := (hb.block _ (hLt HB02.out)).trans HB02.out
        have b1 := (hb.block _ (hLt HB12.out)).trans HB12.out
        clear hb hno c1
        by_cases hlt : k < f.ps.length
        . obtain ⟨b, o, rfl, hbl, y0, y1, y2⟩ := HP.out.at_ hlt
          have y0 := (HE2.out.tr HB.out).keep y0
          have y1 := (HE2.out.tr HB.out).keep y1
          have HDk := LH (dS hlt)
          generalize f.ps[k] = a at *
          have d0 := (Ext.al wr (.cells #[.string a.nm, .int .i64 a.ty] 69)).keep (cA b0 0)
          have d1 := (Ext.al wr (.cells #[.string a.nm, .int .i64 a.ty] 69)).keep (cA b0 1)
          have hE3 := Ext.al wr (.cells #[.string a.nm, .int .i64 a.ty] 69)
          have HE3 := LH hE3
          clear hE3 y2 b0 b1
          go_wp2_with fail
          (with_reducible refine (isType_any vd vf P a.ty _ (HD.out.below ((HE2.out.tr HB.out).tr HE3.out))).mono ?_)
          generalize wr.alloc _ = w4 at *
          rintro e w5 ⟨rfl, hb5⟩
          have HE5 := LH ((HB.out.tr HE3.out).tr hb5)
          clear hb5
          cases hq : isTypeB P a.ty
          . have HQ2 := LH hq
            clear hq
            go_wp2
            go_ret
            exact ⟨rB (by rw [HFB.out, HN.out, HDk.out, List.all_cons, HQ2.out]; simp), HE2.out.tr HE5.out⟩
          . have HQ2 := LH hq
            clear hq
            go_wp2
            go_roundw
            case rel => exact ⟨k + 1, by omega, by go_num, HE5.out, by rw [HN.out, HDk.out, List.all_cons, HQ2.out]; rfl⟩
            case measure => simp [intOf]; omega
        . have HK := LH (drop_end hlt)
          have HAll : Hid (f.ps.all (fun a => isTypeB P a.ty) = true) := by show _ = true; rw [HN.out, HK.out]; rfl
          have c1 := cA b1 1
          have HX := LH (HE2.out.tr HB.out)
          obtain ⟨wB, rfl⟩ : ∃ wB : World, wB = wr := ⟨_, rfl⟩
          have HC0 := LH b0; have HC1 := LH b1
          clear b0 b1
          go_wp2_with fail
          (with_reducible refine (paramNames_any _ f.ps _ (HP.out.below HX.out) (by omega)).mono ?_)
          rintro e w6 ⟨rfl, hs, hb6⟩
          have HS := LH hs
          have HE6 := LH (HX.out.tr hb6)
          have b0 := (hb6.block _ (hLt HC0.out)).trans HC0.out
          have b1 := (hb6.block _ (hLt HC1.out)).trans HC1.out
          clear hs hb6 c1
          have HC02 := LH b0; have HC12 := LH b1
          clear b0 b1
          have HSR : Hid (RStrs w6 (.slice (some ⟨wB.heap.size, 0, none⟩) f.ps.length f.ps.length) (f.ps.map Prm.nm)) := by
            have q := SBlk.reads HS.out (by unfold maxLen; simp; omega) (RPrms.names_le HP.out)
            rw [List.length_map] at q
            exact q
          have hmx : Tryz.prog.follows .mixedOrders = true := by kernel_rfl
          cases hqd : distB (f.ps.map Prm.nm)
          . have HQD := LH hqd
            clear hqd
            go_wp2
            refine wRE (w0 := w6) (by kernel_rfl) (by kernel_rfl) (Ext.rf _) ?_
            repeat (first | go_big_quiet_step ((go_at_call 64; with_reducible exact Calls.ext_of (distinct_is _ (f.ps.map Prm.nm) false _ (HSR.out.below (ExtOf.ext _)) HQD.out))) | quiet_step ((go_at_call 64; with_reducible exact Calls.ext_of (distinct_is _ (f.ps.map Prm.nm) false _ (HSR.out.below (ExtOf.ext _)) HQD.out))))
            refine wpQuiet_nil ?_
            rintro _ ⟨⟨w7, hx⟩, rfl⟩
            have HX7 := LH hx
            clear hx
            go_wp2
            go_ret
            exact ⟨rB (by rw [HFB.out, HQD.out]; simp), HE6.out.tr HX7.out⟩
          . have HQD := LH hqd
            clear hqd
            have HW : Hid ((f.ps.map Prm.nm).length + ([] : List Str).length + wF P f.body <= maxLen) := by
              show (f.ps.map Prm.nm).length + ([] : List Str).length + wF P f.body <= maxLen
              have := HNMS.out; have := H6.out
              rw [List.length_map, List.length_nil]; unfold maxLen; omega
            have p0 := cA HC02.out 0
            have p1 := cA HC02.out 1
            have x3 := cA HC12.out 3
            have x4 := cA HC12.out 4
            have x5 := cA HC12.out 5
            have x6 := cA HC12.out 6
            have x7 := cA HC12.out 7
            have x8 := cA HC12.out 8
            go_wp2
            go_region_with (first
              | (go_at_call 64; (with_reducible refine (distinct_is _ (f.ps.map Prm.nm) true _ (HSR.out.below (Ext.rf _).drew) HQD.out).mono ?_); rintro e w7 ⟨rfl, hx7⟩; have HX7 : Hid (Ext w6 w7) := Ext.tr (b := w6.drew) (Ext.rf w6).drew hx7; clear hx7 p0 p1 x3 x4 x5 x6 x7 x8; have p0 := HX7.out.keep (cA HC02.out 0); have p1 := HX7.out.keep (cA HC02.out 1); have x3 := HX7.out.keep (cA HC12.out 3); have x4 := HX7.out.keep (cA HC12.out 4); have x5 := HX7.out.keep (cA HC12.out 5); have x6 := HX7.out.keep (cA HC12.out 6); have x7 := HX7.out.keep (cA HC12.out 7); have x8 := HX7.out.keep (cA HC12.out 8))
              | (go_at_call 108; (with_reducible refine (newScope_any _ _ (f.ps.map Prm.nm) [] _ (HSR.out.below HX7.out) (RStrs.nil _)).mono ?_); rintro e w8 ⟨⟨v', rfl, hsc⟩, hx8⟩; have HX8 : Hid (Ext w6 w8) := HX7.out.tr hx8; have HSC := LH hsc; clear hx8 hsc p0 p1 x3 x4 x5 x6 x7 x8; have p0 := HX8.out.keep (cA HC02.out 0); have p1 := HX8.out.keep (cA HC02.out 1); have x3 := HX8.out.keep (cA HC12.out 3); have x4 := HX8.out.keep (cA HC12.out 4); have x5 := HX8.out.keep (cA HC12.out 5); have x6 := HX8.out.keep (cA HC12.out 6); have x7 := HX8.out.keep (cA HC12.out 7); have x8 := HX8.out.keep (cA HC12.out 8))
              | (go_at_call 107; (with_reducible refine (validTerm_any P vd vf kf f.body _ _ v' _ _ _ w8 (HT.out.below (HE6.out.tr HX8.out)) (HD.out.below (HE6.out.tr HX8.out)) (HF.out.below (HE6.out.tr HX8.out)) HSC.out HW.out).mono ?_); rintro e w9 ⟨rfl, hx9⟩; have HX9 : Hid (Ext w6 w9) := HX8.out.tr hx9; clear hx9 p0 p1 x3 x4 x5 x6 x7 x8))
            all_goals
              go_wp2
              go_ret
              exact ⟨rB (by rw [HFB.out, HQD.out, HQ.out, HAll.out, decide_eq_true H6.out]; rfl), HE6.out.tr HX9.out⟩
  . have h6' : ¬ (f.ps.length : Int) <= 6 := by omega
    have hq : decide (f.ps.length <= 6) = false := decide_eq_false h6
    have HQ := LH hq
    clear h6 hq
    go_enter Tryz.func68, Tryz.ntmps68
    go_wp2
    go_ret
    exact ⟨rB (by rw [HFB.out, HQ.out]; simp), HE.out⟩
end Go.Proofs.YtkdglplfcpindaaGreatDoor

namespace Go.Proofs.YtkdglplfcpindaaGreatDoor
open Go.ChangeShapes Go.WideShapes Go.ChangeAt Go.RowKit Go.Deep
section
variable {H : Type}
theorem bulk_pos (d : DataW H) : 1 <= Rows.uptoBulk d := by
  cases d with
  | lit v => cases v <;> simp [Rows.uptoBulk]
  | _ => simp [Rows.uptoBulk]
theorem bulk_mem {d : DataW H} : ∀ {l : List (DataW H)}, d ∈ l -> Rows.uptoBulk d <= Rows.uptoBulkAll l
  | [], h => by cases h
  | e :: r, h => by
    rw [Rows.uptoBulkAll]
    rcases List.mem_cons.1 h with rfl | h
    . omega
    . have := bulk_mem h; omega
theorem bulk_len : ∀ l : List (DataW H), l.length <= Rows.uptoBulkAll l
  | [] => Nat.zero_le _
  | e :: r => by
    rw [Rows.uptoBulkAll]
    have := bulk_pos e
    have := bulk_len r
    simp only [List.length_cons]; omega
theorem bulk_sum {α : Type} (g : α -> Nat) (c : Nat) : ∀ (l : List α) (bs : List (DataW H)), l.length = bs.length -> (∀ (i : Nat) (a : α) (b : DataW H), l[i]? = some a -> bs[i]? = some b -> g a <= c * Rows.uptoBulk b) -> (l.map g).sum <= c * Rows.uptoBulkAll bs
  | [], [], _, _ => by simp
  | [], _ :: _, h, _ => by cases h
  | _ :: _, [], h, _ => by cases h
  | a :: l, b :: bs, h, hp => by
    have h1 := hp 0 a b rfl rfl
    have h2 := bulk_sum g c l bs (by simpa using h) (fun i x y hx hy => hp (i + 1) x y (by simpa using hx) (by simpa using hy))
    rw [Rows.uptoBulkAll, List.map_cons, List.sum_cons, Nat.mul_add]; omega
end
def shapeOf (P : Program) (t : TypeId) : Option (List (TypeId × Nat)) := (P.underlying t).bind fun k => match k with
  | .struct fs => some (fs.toList.map fun f => (f.type, f.offset))
  | _ => none
theorem Tryz.shape43 : shapeOf Tryz.prog 50 = some [(3, 0), (3, 1), (9, 2), (3, 3), (47, 4), (48, 5)] := by kernel_rfl
theorem Tryz.shape87 : shapeOf Tryz.prog 123 = some [(67, 0), (50, 1)] := by kernel_rfl
theorem Tryz.cells43 : Tryz.prog.cellsOf 50 = 6 := by kernel_rfl
theorem Tryz.cells87 : Tryz.prog.cellsOf 123 = 7 := by kernel_rfl
theorem Tryz.cells3 : Tryz.prog.cellsOf 3 = 1 := by kernel_rfl
theorem Tryz.cells4 : Tryz.prog.cellsOf 4 = 1 := by kernel_rfl
theorem Tryz.cells9 : Tryz.prog.cellsOf 9 = 1 := by kernel_rfl
theorem Tryz.cells39 : Tryz.prog.cellsOf 67 = 1 := by kernel_rfl
theorem Tryz.cells40 : Tryz.prog.cellsOf 47 = 1 := by kernel_rfl
theorem Tryz.cells41 : Tryz.prog.cellsOf 48 = 1 := by kernel_rfl
theorem Tryz.u40 : Tryz.prog.underlying 47 = some (.slice 50) := by kernel_rfl
theorem Tryz.u41 : Tryz.prog.underlying 48 = some (.slice 123) := by kernel_rfl
theorem Tryz.u39 : Tryz.prog.underlying 67 = some (.slice 9) := by kernel_rfl
theorem Tryz.u3 : Tryz.prog.underlying 3 = some (.int .i64) := by kernel_rfl
theorem Tryz.u4 : Tryz.prog.underlying 4 = some .bool := by kernel_rfl
theorem Tryz.u9 : Tryz.prog.underlying 9 = some .string := by kernel_rfl
section
variable {H : Type} {enc : TypeId × Value -> H} {P : Program} {w : World} {base : Nat} {spare : Nat -> Bool} {held : Bool}
theorem fields_of {t : TypeId} {L : List (TypeId × Nat)} {fuel : Nat} {cs : List Value} {x : DataW H × List MemPlace} (hs : shapeOf P t = some L) (h : DataW.trod enc P w base spare held fuel t cs = some x) :
    cs.length = P.cellsOf t /\ ∃ bs : List (DataW H), bs.length = L.length /\ Rows.uptoBulkAll bs + 1 <= Rows.uptoBulk x.1 /\ ∀ (j : Nat) (ty off : Nat), L[j]? = some (ty, off) -> ∃ n y, DataW.trod enc P w base spare held n ty ((cs.drop off).take (P.cellsOf ty)) = some y /\ bs[j]? = some y.1 := by
  unfold shapeOf at hs
  cases hu : P.underlying t with
  | none => rw [hu] at hs; cases hs
  | some k =>
    rw [hu] at hs
    cases k <;> try (cases hs; done)
    rename_i fs
    have hL : fs.toList.map (fun f => (f.type, f.offset)) = L := by simpa using hs
    obtain ⟨ys, n, _, hyx, hlen, hyl, hf⟩ := DataW.trod_struct hu h
    refine ⟨hlen, ys.map (·.1), ?_, ?_, fun j ty off hj => ?_⟩
    . rw [← hL]; simpa using hyl
    . subst hyx
      show _ <= Rows.uptoBulk (.agg (ys.map (·.1)))
      rw [Rows.uptoBulk]; exact Nat.le_refl _
    rw [← hL, List.getElem?_map] at hj
    obtain ⟨f, hf0, he⟩ := Option.map_eq_some_iff.1 hj
    cases he
    have hjf : fs[j]? = some f := by simpa using hf0
    have hjl : j < fs.size := (Array.getElem?_eq_some_iff.1 hjf).1
    have h1 := hf j f hjf
    have hys : ys[j]? = some (ys[j]'(by omega)) := List.getElem?_eq_getElem (by omega)
    exact ⟨n, _, h1.trans hys, by rw [List.getElem?_map, hys]; rfl⟩
theorem okWide_shape {t : TypeId} {L : List (TypeId × Nat)} {v : Value} (hs : shapeOf P t = some L) (h : Value.okWide P w .any base t v) : ∃ cs, v = .agg cs := by
  unfold shapeOf at hs
  cases hu : P.underlying t with
  | none => rw [hu] at hs; cases hs
  | some k =>
    rw [hu] at hs
    cases k <;> try (cases hs; done)
    obtain ⟨cs, h1, _⟩ := okWide_struct hu h
    exact ⟨cs, h1⟩
theorem list_of {α : Type} {P : Nat -> α -> Prop} : ∀ n, (∀ i, i < n -> ∃ x, P i x) -> ∃ l : List α, l.length = n /\ ∀ i x, l[i]? = some x -> P i x
  | 0, _ => ⟨[], rfl, fun i x h => by simp at h⟩
  | n + 1, h => by
    obtain ⟨l, hl, hp⟩ := list_of n (fun i hi => h i (by omega))
    obtain ⟨x, hx⟩ := h n (by omega)
    refine ⟨l ++ [x], by simp [hl], fun i y hy => ?_⟩
    by_cases hi : i < l.length
    . rw [List.getElem?_append_left hi] at hy
      exact hp i y hy
    . have hin : i = l.length := by
        have := (List.getElem?_eq_some_iff.1 hy).1
        simp at this
        omega
      subst hin
      simp at hy
      subst hy
      rw [hl]; exact hx
theorem add_none' (b o k : Nat) : (⟨b, o, none⟩ : Addr).add k = ⟨b, o + k, none⟩ := by
  by_cases hk : k = 0 <;> simp [Addr.add, hk]
theorem elems_of {t e : TypeId} {fuel : Nat} {cs : List Value} {x : DataW H × List MemPlace} (ht : P.underlying t = some (.slice e)) (hpos : 0 < P.cellsOf e) (h : DataW.trod enc P w base spare held fuel t cs = some x) :
    ∃ (A : Option Addr) (len cap : Nat) (bs : List (DataW H)), cs = [.slice A len cap] /\ len <= cap /\ cap <= maxLen /\ bs.length = len /\ Rows.uptoBulkAll bs + 1 <= Rows.uptoBulk x.1 /\ ∀ i, i < len -> ∃ (b o : Nat) (cs' : List Value) (n : Nat) (y : DataW H × List MemPlace), A = some ⟨b, o, none⟩ /\ cs'.length = P.cellsOf e ∧
      (∀ k, k < P.cellsOf e -> w.cell? ⟨b, o + (i * P.cellsOf e + k), none⟩ = cs'[k]?) /\ DataW.trod enc P w base spare held n e cs' = some y /\ bs[i]? = some y.1 := by
  rcases open_slice ht h with ⟨rfl, hx⟩ | ⟨a, len, cap, m, n, D, Pl, rfl, _, hl, hm, hmm, hx, hi⟩
  . exact ⟨none, 0, 0, [], rfl, Nat.le_refl _, Nat.zero_le _, rfl, by subst hx; simp [Rows.uptoBulk, Rows.uptoBulkAll], fun i hi => by omega⟩
  . subst hx
    have hbk : Rows.uptoBulk (.slice ((List.range len).map D) ((List.range (m - len)).map fun j => D (len + j))) = Rows.uptoBulkAll ((List.range len).map D) + Rows.uptoBulkAll ((List.range (m - len)).map fun j => D (len + j)) + 1 := by rw [Rows.uptoBulk]
    refine ⟨some a, len, cap, (List.range len).map D, rfl, hl, hm, by simp, (by show _ <= Rows.uptoBulk (.slice _ _); omega), fun i hlt => ?_⟩
    have hsp : a.spot = none := by
      obtain ⟨cs', hc, _⟩ := hi 0 (by split at hmm <;> omega)
      obtain ⟨_, hcl, hat⟩ := World.cells?_some hc
      have h1 := hat 0 hpos
      rw [add_add, List.getElem?_eq_getElem (by omega)] at h1
      have := World.cell?_spot h1
      simpa [Addr.add] using this
    obtain ⟨cs', hc, ht'⟩ := hi i (by split at hmm <;> omega)
    obtain ⟨_, hcl, hat⟩ := World.cells?_some hc
    obtain ⟨b, o, s⟩ := a
    obtain rfl : s = none := hsp
    refine ⟨b, o, cs', n, _, rfl, hcl, fun k hk => (by rw [← hat k hk, add_add, add_none']), ht', ?_⟩
    rw [List.getElem?_map, List.getElem?_range hlt]; rfl
theorem take_one {cs : List Value} {k : Nat} {v : Value} (h : (cs.drop k).take 1 = [v]) : cs[k]? = some v := by
  have h1 : ((cs.drop k).take 1)[0]? = some v := by rw [h]; rfl
  rw [List.getElem?_take] at h1
  simp at h1
  exact h1
theorem one_of {cs : List Value} {k : Nat} (h : k < cs.length) : (cs.drop k).take 1 = [cs[k]] := by
  rw [List.drop_eq_getElem_cons h]; rfl
end
theorem uA_le (op : Int) (nm : Str) : ∀ (l : List Tm) (i : Nat), uA op nm i l <= (l.map fun a => uT a + 2).sum
  | [], _ => by simp [uA]
  | a :: r, i => by
    have h1 := uA_le op nm r (i + 1)
    have h2 : (bndAt op nm i).1.length <= 1 := by unfold bndAt; split <;> (try split) <;> simp
    rw [uA, List.map_cons, List.sum_cons]; omega
theorem uC_eq : ∀ (l : List (List Str × Tm)), uC l = (l.map fun c => 2 * c.1.length + uT c.2).sum
  | [] => by simp [uC]
  | (ns, t) :: r => by rw [uC, uC_eq r]; simp
section
variable {H : Type} {enc : TypeId × Value -> H} {w : World} {base : Nat} {spare : Nat -> Bool} {held : Bool}
theorem open_strs {fuel : Nat} {v : Value} {x : DataW H × List MemPlace} (h : DataW.trod enc Tryz.prog w base spare held fuel 67 [v] = some x) : ∃ l, RStrs w v l /\ l.length + 1 <= Rows.uptoBulk x.1 := by
  obtain ⟨A, len, cap, bs, hcs, hl, hm, hbl, hbk, hi⟩ := elems_of Tryz.u39 (by rw [Tryz.cells9]; decide) h
  obtain rfl : v = .slice A len cap := by simpa using hcs
  have hex : ∀ i, i < len -> ∃ a : Str, ∃ b o, A = some ⟨b, o, none⟩ /\ b < w.heap.size /\ w.cell? ⟨b, o + i, none⟩ = some (.string a) /\ a.size <= maxLen := fun i hlt => by
    obtain ⟨b, o, cs', n, y, rfl, hcl, hat, ht, -⟩ := hi i hlt
    rw [Tryz.cells9] at hcl hat
    obtain ⟨s, e0, _, hs⟩ := DataW.trod_string Tryz.u9 ht
    have c0 := hat 0 (by omega)
    subst e0
    exact ⟨s, b, o, rfl, cL c0, by simpa using c0, hs⟩
  obtain ⟨l, hll, hp⟩ := list_of len hex
  subst hll
  refine ⟨l, ⟨A, cap, rfl, hl, hm, hp⟩, ?_⟩
  have := bulk_len bs
  omega
set_option maxRecDepth 10000 in
theorem open_term : ∀ (N : Nat) (fuel : Nat) (cs : List Value) (x : DataW H × List MemPlace), Rows.uptoBulk x.1 <= N -> DataW.trod enc Tryz.prog w base spare held fuel 50 cs = some x →
    ∃ t va vc, cs = [.int .i64 t.op, .int .i64 t.n, .string t.nm, .int .i64 t.ty, va, vc] /\ RT w N t va vc /\ uT t + 2 <= 4 * Rows.uptoBulk x.1 := by
  intro N
  induction N with
  | zero => intro fuel cs x hx; have := bulk_pos x.1; omega
  | succ N ih =>
    intro fuel cs x hx h
    obtain ⟨hlen, bs, hbl, hbk, hf⟩ := fields_of Tryz.shape43 h
    rw [Tryz.cells43] at hlen
    obtain ⟨n0, y0, h0, g0⟩ := hf 0 3 0 rfl
    obtain ⟨n1, y1, h1, g1⟩ := hf 1 3 1 rfl
    obtain ⟨n2, y2, h2, g2⟩ := hf 2 9 2 rfl
    obtain ⟨n3, y3, h3, g3⟩ := hf 3 3 3 rfl
    obtain ⟨n4, y4, h4, g4⟩ := hf 4 47 4 rfl
    obtain ⟨n5, y5, h5, g5⟩ := hf 5 48 5 rfl
    match cs, hlen, bs, hbl with
    | [k0, k1, k2, k3, k4, k5], _, [b0, b1, b2, b3, b4, b5], _ =>
      simp only [Tryz.cells3, Tryz.cells9, Tryz.cells40, Tryz.cells41, List.drop_succ_cons, List.drop_zero, List.take_succ_cons, List.take_zero] at h0 h1 h2 h3 h4 h5
      simp only [List.getElem?_cons_zero, List.getElem?_cons_succ, Option.some.injEq] at g0 g1 g2 g3 g4 g5
      simp only [Rows.uptoBulkAll] at hbk
      obtain ⟨op, e0, -, wop⟩ := DataW.trod_int Tryz.u3 h0
      obtain ⟨nn, e1, -, wn⟩ := DataW.trod_int Tryz.u3 h1
      obtain ⟨nm, e2, -, wnm⟩ := DataW.trod_string Tryz.u9 h2
      obtain ⟨ty, e3, -, wty⟩ := DataW.trod_int Tryz.u3 h3
      cases e0; cases e1; cases e2; cases e3
      have p0 := bulk_pos b0
      have p1 := bulk_pos b1
      have p2 := bulk_pos b2
      have p3 := bulk_pos b3
      obtain ⟨A, la, ca, asl, ea, hla, hma, hlas, hbka, hia⟩ := elems_of Tryz.u40 (by rw [Tryz.cells43]; decide) h4
      obtain ⟨B, lc, cc, cs', ec, hlc, hmc, hlcs, hbkc, hic⟩ := elems_of Tryz.u41 (by rw [Tryz.cells87]; decide) h5
      obtain rfl : k4 = .slice A la ca := by simpa using ea
      obtain rfl : k5 = .slice B lc cc := by simpa using ec
      subst g4 g5
      have hexa : ∀ i, i < la -> ∃ t : Tm, ∃ b o xa xc y, (A = some ⟨b, o, none⟩ /\ b < w.heap.size /\ C6 w b (o + i * 6) t xa xc /\ RT w N t xa xc) /\ asl[i]? = some y /\ uT t + 2 <= 4 * Rows.uptoBulk y := fun i hi => by
        obtain ⟨b, o, q, n, y, rfl, hql, hat, ht, hy⟩ := hia i hi
        rw [Tryz.cells43] at hql hat
        have hym : Rows.uptoBulk y.1 <= N := by
          have := bulk_mem (List.mem_of_getElem? hy)
          omega
        obtain ⟨t, xa, xc, rfl, hr, hu⟩ := ih n q y hym ht
        have c0 := hat 0 (by omega)
        have c1 := hat 1 (by omega)
        have c2 := hat 2 (by omega)
        have c3 := hat 3 (by omega)
        have c4 := hat 4 (by omega)
        have c5 := hat 5 (by omega)
        simp only [← Nat.add_assoc, Nat.add_zero, List.getElem?_cons_zero, List.getElem?_cons_succ] at c0 c1 c2 c3 c4 c5
        exact ⟨t, b, o, xa, xc, y.1, ⟨rfl, cL c0, ⟨c0, c1, c2, c3, c4, c5⟩, hr⟩, hy, hu⟩
      have hexc : ∀ i, i < lc -> ∃ c : List Str × Tm, ∃ b o vn xa xc y, (B = some ⟨b, o, none⟩ /\ b < w.heap.size /\ w.cell? ⟨b, o + i * 7, none⟩ = some vn /\ RStrs w vn c.1 /\ C6 w b (o + i * 7 + 1) c.2 xa xc /\ RT w N c.2 xa xc) /\ cs'[i]? = some y /\ 2 * c.1.length + uT c.2 <= 4 * Rows.uptoBulk y := fun i hi => by
        obtain ⟨b, o, q, n, y, rfl, hql, hat, ht, hy⟩ := hic i hi
        rw [Tryz.cells87] at hql hat
        have hym : Rows.uptoBulk y.1 <= N := by
          have := bulk_mem (List.mem_of_getElem? hy)
          omega
        obtain ⟨_, zs, hzl, hzk, hz⟩ := fields_of Tryz.shape87 ht
        obtain ⟨m0, z0, r0, s0⟩ := hz 0 67 0 rfl
        obtain ⟨m1, z1, r1, s1⟩ := hz 1 50 1 rfl
        match q, hql, zs, hzl with
        | [q0, q1, q2, q3, q4, q5, q6], _, [a0, a1], _ =>
          simp only [Tryz.cells39, Tryz.cells43, List.drop_succ_cons, List.drop_zero, List.take_succ_cons, List.take_zero] at r0 r1
          simp only [List.getElem?_cons_zero, List.getElem?_cons_succ, Option.some.injEq] at s0 s1
          simp only [Rows.uptoBulkAll] at hzk
          subst s0 s1
          obtain ⟨ns, hns, hnl⟩ := open_strs r0
          obtain ⟨t, xa, xc, ht0, hr, hu⟩ := ih m1 _ z1 (by omega) r1
          have c0 := hat 0 (by omega)
          have c1 := hat 1 (by omega)
          have c2 := hat 2 (by omega)
          have c3 := hat 3 (by omega)
          have c4 := hat 4 (by omega)
          have c5 := hat 5 (by omega)
          have c6 := hat 6 (by omega)
          rw [ht0] at c1 c2 c3 c4 c5 c6
          simp only [← Nat.add_assoc, Nat.add_zero, List.getElem?_cons_zero, List.getElem?_cons_succ] at c0 c1 c2 c3 c4 c5 c6
          exact ⟨(ns, t), b, o, q0, xa, xc, y.1, ⟨rfl, cL c0, c0, hns, ⟨c1, c2, c3, c4, c5, c6⟩, hr⟩, hy, by show 2 * ns.length + uT t <= _; omega⟩
      obtain ⟨args, hargs, hpa⟩ := list_of la hexa
      obtain ⟨cls, hcls, hpc⟩ := list_of lc hexc
      subst hargs hcls
      refine ⟨.mk op nn nm ty args cls, _, _, rfl, ⟨⟨wnm, wn, wty⟩, ⟨A, ca, rfl, hla, hma, fun i t ht => ?_⟩, ⟨B, cc, rfl, hlc, hmc, fun i c hc => ?_⟩⟩, ?_⟩
      . obtain ⟨b, o, xa, xc, y, hh, -⟩ := hpa i t ht
        exact ⟨b, o, xa, xc, hh⟩
      . obtain ⟨b, o, vn, xa, xc, y, hh, -⟩ := hpc i c hc
        exact ⟨b, o, vn, xa, xc, hh⟩
      . have s1 := bulk_sum (fun a => uT a + 2) 4 args asl hlas.symm (fun i a b ha hb => by
          obtain ⟨_, _, _, _, y, -, hy, hu⟩ := hpa i a ha
          rw [hb] at hy; cases hy; exact hu)
        have s2 := bulk_sum (fun c : List Str × Tm => 2 * c.1.length + uT c.2) 4 cls cs' hlcs.symm (fun i a b ha hb => by
          obtain ⟨_, _, _, _, _, y, -, hy, hu⟩ := hpc i a ha
          rw [hb] at hy; cases hy; exact hu)
        have s3 := uA_le op nm args 0
        have s4 := uC_eq cls
        show uT (.mk op nn nm ty args cls) + 2 <= _
        rw [uT]
        omega
end
end Go.Proofs.YtkdglplfcpindaaGreatDoor

namespace Go.Proofs.YtkdglplfcpindaaGreatDoor
open Go.ChangeShapes Go.WideShapes Go.ChangeAt Go.RowKit Go.Deep
def BA (n : Nat) (l : List Arg) : Prop := l.length <= n
def BX (n : Nat) (l : List Xtor) : Prop := l.length <= n /\ ∀ x ∈ l, BA n x.args
def BD (n : Nat) (l : List Decl) : Prop := l.length <= n /\ ∀ d ∈ l, BX n d.xtors
theorem BA.mono {n m : Nat} {l : List Arg} (h : BA n l) (k : n <= m) : BA m l := Nat.le_trans h k
theorem BX.mono {n m : Nat} {l : List Xtor} (h : BX n l) (k : n <= m) : BX m l := ⟨Nat.le_trans h.1 k, fun x hx => (h.2 x hx).mono k⟩
theorem BD.mono {n m : Nat} {l : List Decl} (h : BD n l) (k : n <= m) : BD m l := ⟨Nat.le_trans h.1 k, fun d hd => (h.2 d hd).mono k⟩
def BF (n : Nat) (l : List Fn) : Prop := l.length <= n /\ ∀ f ∈ l, f.ps.length <= n /\ uT f.body + 2 <= 4 * n
theorem BF.mono {n m : Nat} {l : List Fn} (h : BF n l) (k : n <= m) : BF m l := ⟨Nat.le_trans h.1 k, fun f hf => ⟨Nat.le_trans (h.2 f hf).1 k, by have := (h.2 f hf).2; omega⟩⟩
theorem Tryz.shape121 : shapeOf Tryz.prog 165 = some [(3, 0), (4, 1)] := by kernel_rfl
theorem Tryz.shape119 : shapeOf Tryz.prog 140 = some [(9, 0), (138, 1)] := by kernel_rfl
theorem Tryz.shape115 : shapeOf Tryz.prog 137 = some [(9, 0), (4, 1), (135, 2)] := by kernel_rfl
theorem Tryz.shape64 : shapeOf Tryz.prog 69 = some [(9, 0), (3, 1)] := by kernel_rfl
theorem Tryz.shape62 : shapeOf Tryz.prog 52 = some [(9, 0), (46, 1), (3, 2), (50, 3)] := by kernel_rfl
theorem Tryz.shape25 : shapeOf Tryz.prog 25 = some [(22, 0), (23, 1)] := by kernel_rfl
theorem Tryz.cells121 : Tryz.prog.cellsOf 165 = 2 := by kernel_rfl
theorem Tryz.cells119 : Tryz.prog.cellsOf 140 = 2 := by kernel_rfl
theorem Tryz.cells115 : Tryz.prog.cellsOf 137 = 3 := by kernel_rfl
theorem Tryz.cells64 : Tryz.prog.cellsOf 69 = 2 := by kernel_rfl
theorem Tryz.cells62 : Tryz.prog.cellsOf 52 = 9 := by kernel_rfl
theorem Tryz.cells25 : Tryz.prog.cellsOf 25 = 2 := by kernel_rfl
theorem Tryz.cells117 : Tryz.prog.cellsOf 138 = 1 := by kernel_rfl
theorem Tryz.cells113 : Tryz.prog.cellsOf 135 = 1 := by kernel_rfl
theorem Tryz.cells60 : Tryz.prog.cellsOf 46 = 1 := by kernel_rfl
theorem Tryz.cells22 : Tryz.prog.cellsOf 22 = 1 := by kernel_rfl
theorem Tryz.cells23 : Tryz.prog.cellsOf 23 = 1 := by kernel_rfl
theorem Tryz.u117 : Tryz.prog.underlying 138 = some (.slice 165) := by kernel_rfl
theorem Tryz.u113 : Tryz.prog.underlying 135 = some (.slice 140) := by kernel_rfl
theorem Tryz.u22 : Tryz.prog.underlying 22 = some (.slice 137) := by kernel_rfl
theorem Tryz.u60 : Tryz.prog.underlying 46 = some (.slice 69) := by kernel_rfl
theorem Tryz.u23 : Tryz.prog.underlying 23 = some (.slice 52) := by kernel_rfl
section
variable {H : Type} {enc : TypeId × Value -> H} {w : World} {base : Nat} {spare : Nat -> Bool} {held : Bool}
theorem open_args {fuel : Nat} {v : Value} {x : DataW H × List MemPlace} (h : DataW.trod enc Tryz.prog w base spare held fuel 138 [v] = some x) : ∃ l, RArgs w v l /\ BA (Rows.uptoBulk x.1) l := by
  obtain ⟨A, len, cap, bs, hcs, hl, hm, hbl, hbk, hi⟩ := elems_of Tryz.u117 (by rw [Tryz.cells121]; decide) h
  obtain rfl : v = .slice A len cap := by simpa using hcs
  have hex : ∀ i, i < len -> ∃ a : Arg, ∃ b o, A = some ⟨b, o, none⟩ /\ b < w.heap.size /\ w.cell? ⟨b, o + i * 2, none⟩ = some (.int .i64 a.ty) /\ w.cell? ⟨b, o + i * 2 + 1, none⟩ = some (.bool a.co) := fun i hlt => by
    obtain ⟨b, o, cs', n, y, rfl, hcl, hat, ht, -⟩ := hi i hlt
    rw [Tryz.cells121] at hcl hat
    obtain ⟨_, _, _, _, hf⟩ := fields_of Tryz.shape121 ht
    obtain ⟨n0, y0, h0, -⟩ := hf 0 3 0 rfl
    obtain ⟨n1, y1, h1, -⟩ := hf 1 4 1 rfl
    rw [Tryz.cells3] at h0
    rw [Tryz.cells4] at h1
    obtain ⟨t, e0, _, _⟩ := DataW.trod_int Tryz.u3 h0
    obtain ⟨co, e1, _⟩ := DataW.trod_bool Tryz.u4 h1
    have c0 := (hat 0 (by omega)).trans (take_one e0)
    have c1 := (hat 1 (by omega)).trans (take_one e1)
    exact ⟨⟨t, co⟩, b, o, rfl, cL c0, by simpa using c0, by rw [Nat.add_assoc]; exact c1⟩
  obtain ⟨l, hll, hp⟩ := list_of len hex
  subst hll
  have := bulk_len bs
  exact ⟨l, ⟨A, cap, rfl, hl, hm, hp⟩, by show l.length <= _; omega⟩
theorem open_xtors {fuel : Nat} {v : Value} {x' : DataW H × List MemPlace} (h : DataW.trod enc Tryz.prog w base spare held fuel 135 [v] = some x') : ∃ l, RXtors w v l /\ BX (Rows.uptoBulk x'.1) l := by
  obtain ⟨A, len, cap, bs, hcs, hl, hm, hbl, hbk, hi⟩ := elems_of Tryz.u113 (by rw [Tryz.cells119]; decide) h
  obtain rfl : v = .slice A len cap := by simpa using hcs
  have hex : ∀ i, i < len -> ∃ x : Xtor, ∃ b o va, A = some ⟨b, o, none⟩ /\ b < w.heap.size /\ w.cell? ⟨b, o + i * 2, none⟩ = some (.string x.name) /\ w.cell? ⟨b, o + i * 2 + 1, none⟩ = some va /\ (RArgs w va x.args /\ x.name.size <= maxLen) /\ BA (Rows.uptoBulk x'.1) x.args := fun i hlt => by
    obtain ⟨b, o, cs', n, y, rfl, hcl, hat, ht, hy⟩ := hi i hlt
    rw [Tryz.cells119] at hcl hat
    have hby := bulk_mem (List.mem_of_getElem? hy)
    obtain ⟨_, zs, -, hzk, hf⟩ := fields_of Tryz.shape119 ht
    obtain ⟨n0, y0, h0, -⟩ := hf 0 9 0 rfl
    obtain ⟨n1, y1, h1, g1⟩ := hf 1 138 1 rfl
    have hy1 := bulk_mem (List.mem_of_getElem? g1)
    rw [Tryz.cells9] at h0
    rw [Tryz.cells117] at h1
    obtain ⟨s, e0, _, hs⟩ := DataW.trod_string Tryz.u9 h0
    obtain ⟨va, hva⟩ : ∃ va, (cs'.drop 1).take 1 = [va] := ⟨_, one_of (by omega)⟩
    rw [hva] at h1
    obtain ⟨la, hla, hlb⟩ := open_args h1
    have c0 := (hat 0 (by omega)).trans (take_one e0)
    have c1 := (hat 1 (by omega)).trans (take_one hva)
    exact ⟨⟨s, la⟩, b, o, va, rfl, cL c0, by simpa using c0, by rw [Nat.add_assoc]; exact c1, ⟨hla, hs⟩, hlb.mono (by omega)⟩
  obtain ⟨l, hll, hp⟩ := list_of len hex
  subst hll
  have := bulk_len bs
  refine ⟨l, ⟨A, cap, rfl, hl, hm, fun i y hy => ?_⟩, by omega, fun y hy => ?_⟩
  . obtain ⟨b, o, va, e1, e2, e3, e4, e5, _⟩ := hp i y hy
    exact ⟨b, o, va, e1, e2, e3, e4, e5⟩
  . obtain ⟨i, hi'⟩ := List.mem_iff_getElem?.1 hy
    obtain ⟨b, o, va, e1, e2, e3, e4, _, e6⟩ := hp i y hi'
    exact e6
theorem open_decls {fuel : Nat} {v : Value} {x' : DataW H × List MemPlace} (h : DataW.trod enc Tryz.prog w base spare held fuel 22 [v] = some x') : ∃ l, RDecls w v l /\ BD (Rows.uptoBulk x'.1) l := by
  obtain ⟨A, len, cap, bs, hcs, hl, hm, hbl, hbk, hi⟩ := elems_of Tryz.u22 (by rw [Tryz.cells115]; decide) h
  obtain rfl : v = .slice A len cap := by simpa using hcs
  have hex : ∀ i, i < len -> ∃ d : Decl, ∃ b o va, A = some ⟨b, o, none⟩ /\ b < w.heap.size /\ w.cell? ⟨b, o + i * 3, none⟩ = some (.string d.name) /\ w.cell? ⟨b, o + i * 3 + 1, none⟩ = some (.bool d.codata) /\ w.cell? ⟨b, o + i * 3 + 2, none⟩ = some va /\ (RXtors w va d.xtors /\ d.name.size <= maxLen) /\ BX (Rows.uptoBulk x'.1) d.xtors := fun i hlt => by
    obtain ⟨b, o, cs', n, y, rfl, hcl, hat, ht, hy⟩ := hi i hlt
    rw [Tryz.cells115] at hcl hat
    have hby := bulk_mem (List.mem_of_getElem? hy)
    obtain ⟨_, zs, -, hzk, hf⟩ := fields_of Tryz.shape115 ht
    obtain ⟨n0, y0, h0, -⟩ := hf 0 9 0 rfl
    obtain ⟨n1, y1, h1, -⟩ := hf 1 4 1 rfl
    obtain ⟨n2, y2, h2, g2⟩ := hf 2 135 2 rfl
    have hy2 := bulk_mem (List.mem_of_getElem? g2)
    rw [Tryz.cells9] at h0
    rw [Tryz.cells4] at h1
    rw [Tryz.cells113] at h2
    obtain ⟨s, e0, _, hs⟩ := DataW.trod_string Tryz.u9 h0
    obtain ⟨co, e1, _⟩ := DataW.trod_bool Tryz.u4 h1
    obtain ⟨va, hva⟩ : ∃ va, (cs'.drop 2).take 1 = [va] := ⟨_, one_of (by omega)⟩
    rw [hva] at h2
    obtain ⟨lx, hlx, hlb⟩ := open_xtors h2
    have c0 := (hat 0 (by omega)).trans (take_one e0)
    have c1 := (hat 1 (by omega)).trans (take_one e1)
    have c2 := (hat 2 (by omega)).trans (take_one hva)
    exact ⟨⟨s, co, lx⟩, b, o, va, rfl, cL c0, by simpa using c0, by rw [Nat.add_assoc]; exact c1, by rw [Nat.add_assoc]; exact c2, ⟨hlx, hs⟩, hlb.mono (by omega)⟩
  obtain ⟨l, hll, hp⟩ := list_of len hex
  subst hll
  have := bulk_len bs
  refine ⟨l, ⟨A, cap, rfl, hl, hm, fun i y hy => ?_⟩, by omega, fun y hy => ?_⟩
  . obtain ⟨b, o, va, e1, e2, e3, e4, e5, e6, _⟩ := hp i y hy
    exact ⟨b, o, va, e1, e2, e3, e4, e5, e6⟩
  . obtain ⟨i, hi'⟩ := List.mem_iff_getElem?.1 hy
    obtain ⟨b, o, va, e1, e2, e3, e4, e5, _, e7⟩ := hp i y hi'
    exact e7
theorem open_prms {fuel : Nat} {v : Value} {x : DataW H × List MemPlace} (h : DataW.trod enc Tryz.prog w base spare held fuel 46 [v] = some x) : ∃ l, RPrms w v l /\ l.length <= Rows.uptoBulk x.1 := by
  obtain ⟨A, len, cap, bs, hcs, hl, hm, hbl, hbk, hi⟩ := elems_of Tryz.u60 (by rw [Tryz.cells64]; decide) h
  obtain rfl : v = .slice A len cap := by simpa using hcs
  have hex : ∀ i, i < len -> ∃ a : Prm, ∃ b o, A = some ⟨b, o, none⟩ /\ b < w.heap.size /\ w.cell? ⟨b, o + i * 2, none⟩ = some (.string a.nm) /\ w.cell? ⟨b, o + i * 2 + 1, none⟩ = some (.int .i64 a.ty) /\ a.nm.size <= maxLen := fun i hlt => by
    obtain ⟨b, o, cs', n, y, rfl, hcl, hat, ht, -⟩ := hi i hlt
    rw [Tryz.cells64] at hcl hat
    obtain ⟨_, _, _, _, hf⟩ := fields_of Tryz.shape64 ht
    obtain ⟨n0, y0, h0, -⟩ := hf 0 9 0 rfl
    obtain ⟨n1, y1, h1, -⟩ := hf 1 3 1 rfl
    rw [Tryz.cells9] at h0
    rw [Tryz.cells3] at h1
    obtain ⟨s, e0, _, hs⟩ := DataW.trod_string Tryz.u9 h0
    obtain ⟨t, e1, _, _⟩ := DataW.trod_int Tryz.u3 h1
    have c0 := (hat 0 (by omega)).trans (take_one e0)
    have c1 := (hat 1 (by omega)).trans (take_one e1)
    exact ⟨⟨s, t⟩, b, o, rfl, cL c0, by simpa using c0, by rw [Nat.add_assoc]; exact c1, hs⟩
  obtain ⟨l, hll, hp⟩ := list_of len hex
  subst hll
  have := bulk_len bs
  exact ⟨l, ⟨A, cap, rfl, hl, hm, hp⟩, by omega⟩
set_option maxRecDepth 10000 in
theorem open_funs {fuel : Nat} {v : Value} {x' : DataW H × List MemPlace} (h : DataW.trod enc Tryz.prog w base spare held fuel 23 [v] = some x') : ∃ l, RFns w v l /\ BF (Rows.uptoBulk x'.1) l := by
  obtain ⟨A, len, cap, bs, hcs, hl, hm, hbl, hbk, hi⟩ := elems_of Tryz.u23 (by rw [Tryz.cells62]; decide) h
  obtain rfl : v = .slice A len cap := by simpa using hcs
  have hex : ∀ i, i < len -> ∃ f : Fn, (∃ b o vp xa xc k, A = some ⟨b, o, none⟩ /\ b < w.heap.size /\ w.cell? ⟨b, o + i * 9, none⟩ = some (.string f.nm) /\ w.cell? ⟨b, o + i * 9 + 1, none⟩ = some vp /\ w.cell? ⟨b, o + i * 9 + 2, none⟩ = some (.int .i64 f.res) ∧
      C6 w b (o + i * 9 + 3) f.body xa xc /\ f.nm.size <= maxLen /\ RPrms w vp f.ps /\ RT w k f.body xa xc) /\ (f.ps.length <= Rows.uptoBulk x'.1 /\ uT f.body + 2 <= 4 * Rows.uptoBulk x'.1) := fun i hlt => by
    obtain ⟨b, o, q, n, y, rfl, hql, hat, ht, hy⟩ := hi i hlt
    rw [Tryz.cells62] at hql hat
    have hby := bulk_mem (List.mem_of_getElem? hy)
    obtain ⟨_, zs, -, hzk, hf⟩ := fields_of Tryz.shape62 ht
    obtain ⟨n0, y0, h0, -⟩ := hf 0 9 0 rfl
    obtain ⟨n1, y1, h1, g1⟩ := hf 1 46 1 rfl
    obtain ⟨n2, y2, h2, -⟩ := hf 2 3 2 rfl
    obtain ⟨n3, y3, h3, g3⟩ := hf 3 50 3 rfl
    have hy1 := bulk_mem (List.mem_of_getElem? g1)
    have hy3 := bulk_mem (List.mem_of_getElem? g3)
    match q, hql with
    | [q0, q1, q2, q3, q4, q5, q6, q7, q8], _ =>
      simp only [Tryz.cells9, Tryz.cells60, Tryz.cells3, Tryz.cells43, List.drop_succ_cons, List.drop_zero, List.take_succ_cons, List.take_zero] at h0 h1 h2 h3
      obtain ⟨s, e0, _, hs⟩ := DataW.trod_string Tryz.u9 h0
      obtain ⟨r, e2, _, _⟩ := DataW.trod_int Tryz.u3 h2
      cases e0; cases e2
      obtain ⟨ps, hps, hpl⟩ := open_prms h1
      obtain ⟨t, xa, xc, ht0, hr, hu⟩ := open_term _ n3 _ y3 (Nat.le_refl _) h3
      have c0 := hat 0 (by omega)
      have c1 := hat 1 (by omega)
      have c2 := hat 2 (by omega)
      have c3 := hat 3 (by omega)
      have c4 := hat 4 (by omega)
      have c5 := hat 5 (by omega)
      have c6 := hat 6 (by omega)
      have c7 := hat 7 (by omega)
      have c8 := hat 8 (by omega)
      rw [ht0] at c3 c4 c5 c6 c7 c8
      simp only [← Nat.add_assoc, Nat.add_zero, List.getElem?_cons_zero, List.getElem?_cons_succ] at c0 c1 c2 c3 c4 c5 c6 c7 c8
      exact ⟨⟨s, ps, r, t⟩, ⟨b, o, _, xa, xc, _, rfl, cL c0, c0, c1, c2, ⟨c3, c4, c5, c6, c7, c8⟩, hs, hps, hr⟩, by dsimp only; omega, by dsimp only; omega⟩
  obtain ⟨l, hll, hp⟩ := list_of len hex
  subst hll
  have := bulk_len bs
  refine ⟨l, ⟨A, cap, rfl, hl, hm, fun i f hf => (hp i f hf).1⟩, by omega, fun f hf => ?_⟩
  obtain ⟨i, hi'⟩ := List.mem_iff_getElem?.1 hf
  exact (hp i f hi').2
set_option maxRecDepth 10000 in
theorem open_prog {fuel : Nat} {cs : List Value} {x : DataW H × List MemPlace} (h : DataW.trod enc Tryz.prog w base spare held fuel 25 cs = some x) : ∃ (P : Pg) (vd vf : Value), cs = [vd, vf] /\ RDecls w vd P.decls /\ RFns w vf P.funs /\ BD (Rows.uptoBulk x.1) P.decls /\ BF (Rows.uptoBulk x.1) P.funs := by
  obtain ⟨hlen, bs, hbl, hbk, hf⟩ := fields_of Tryz.shape25 h
  rw [Tryz.cells25] at hlen
  obtain ⟨n0, y0, h0, g0⟩ := hf 0 22 0 rfl
  obtain ⟨n1, y1, h1, g1⟩ := hf 1 23 1 rfl
  have hy0 := bulk_mem (List.mem_of_getElem? g0)
  have hy1 := bulk_mem (List.mem_of_getElem? g1)
  match cs, hlen with
  | [c0, c1], _ =>
    simp only [Tryz.cells22, Tryz.cells23, List.drop_succ_cons, List.drop_zero, List.take_succ_cons, List.take_zero] at h0 h1
    obtain ⟨d, hd, bd⟩ := open_decls h0
    obtain ⟨f, hf, bf⟩ := open_funs h1
    exact ⟨⟨d, f⟩, c0, c1, rfl, hd, hf, bd.mono (by omega), bf.mono (by omega)⟩
end
end Go.Proofs.YtkdglplfcpindaaGreatDoor
