/- valid.go, term.go: a program; Check. -/
import Derived.Test.YtfohcdpfgbeclaaGreatQ11
import Derived.OwnWalk
import Derived.Maps.AppendAt
import Derived.Orders
import Derived.RegionTactic
namespace Go.Proofs.YtfohcdpfgbeclaaGreat
open Go.RowKit

theorem srcP_fst (l : List Decl) : (srcP l).1 = (validB l && srcB l) := by
  unfold srcP; cases validB l <;> rfl

theorem sizes_each0 : ∀ (n : Int) (l : List Fn), sizesB n l = true → ∀ f ∈ l, (nodesL 1 f.body).length ≤ 600
  | n, [], _, f, hf => by cases hf
  | n, g :: r, h, f, hf => by
    rw [sizesB, Bool.and_eq_true] at h
    rcases List.mem_cons.1 hf with rfl | hf
    · have h1 := h.1
      unfold sizeR at h1
      split at h1
      · rename_i h2
        unfold sizeOK at h2
        simp only [Bool.and_eq_true, decide_eq_true_eq] at h2
        exact h2.1
      · cases h1
    · exact sizes_each0 _ r h.2 f hf
theorem FinePg.each {P : Pg} (h : FinePg P) : ∀ f ∈ P.funs, FineF P f.body := h
theorem headD_at {l : List Fn} (h : 0 < l.length) : l.headD noFn = l[0] := by
  cases l with
  | nil => simp at h
  | cons a b => rfl
set_option maxHeartbeats 4000000 in
set_option maxRecDepth 100000 in
theorem validProg_any (P : Pg) (vd vf : Value) (w : World) (hd : RDecls w vd P.decls) (hf : RFns w vf P.funs) (hfine : FinePg P) :
    Calls Tryz.prog 32 #[pV vd vf] w fun e w' => e = .returned (.bool (progB P)) ∧ Ext w w' := by
  have HD := Lib.hid hd; have HF := Lib.hid hf; have HFI := Lib.hid hfine
  have HPB : Hid (progB P = ((validB P.decls && srcB P.decls) && (decide (1 ≤ P.funs.length) && decide (P.funs.length ≤ 12) && distB (P.funs.map Fn.nm)) && (mainB (P.funs.headD noFn) && sizesB 0 P.funs) && P.funs.all (funB P))) := rfl
  generalize progB P = rr at *
  obtain ⟨Ad, cd, rfl, -, -⟩ := hd.form
  obtain ⟨Af, cf, rfl, hcf, hmf⟩ := hf.form
  clear hd hf hfine
  unfold maxLen at hmf
  have HE := Lib.hid (Ext.al w (.cells #[.slice Ad P.decls.length cd, .slice Af P.funs.length cf] 25))
  have HB0 := Lib.hid (heapNew w (.cells #[.slice Ad P.decls.length cd, .slice Af P.funs.length cf] 25))
  go_enter Tryz.func32, Tryz.ntmps32
  go_wp2_with fail
  generalize w.alloc _ = w1 at *
  (with_reducible refine (Source_any _ P.decls _ (HD.out.below HE.out)).mono ?_)
  rintro e w2 ⟨rfl, hb⟩
  have HE2 := Lib.hid (HE.out.tr hb)
  have HB2 := Lib.hid ((hb.block _ (heap_lt HB0.out)).trans HB0.out)
  clear hb
  have HS := Lib.hid (srcP_fst P.decls)
  generalize (srcP P.decls).1 = q1 at *
  generalize (srcP P.decls).2 = q2 at *
  have c0 := cellAt HB2.out 0
  have c1 := cellAt HB2.out 1
  cases q1
  · go_wp2
    go_ret
    exact ⟨ret_bool (by rw [HPB.out, ← HS.out]; rfl), HE2.out⟩
  · have HVB : Hid (validB P.decls = true) := by
      have h := HS.out.symm
      rw [Bool.and_eq_true] at h
      exact h.1
    by_cases h1 : 1 ≤ P.funs.length
    · by_cases h12 : P.funs.length ≤ 12
      · have H1 := Lib.hid h1; have H12 := Lib.hid h12
        have HN1 : Hid ((P.funs.length : Int) < 1 → False) := fun h => by omega
        have HN2 : Hid ((12 : Int) < P.funs.length → False) := fun h => by omega
        go_wp2_with fail
        (with_reducible refine (funNames_any _ P.funs _ (HF.out.below HE2.out) (by omega)).mono ?_)
        rintro e w3 ⟨rfl, hs, hb3⟩
        have HE3 := Lib.hid (HE2.out.tr hb3)
        have HB3 := Lib.hid ((hb3.block _ (heap_lt HB2.out)).trans HB2.out)
        have HSR : Hid (RStrs w3 (.slice (some ⟨w2.heap.size, 0, none⟩) P.funs.length P.funs.length) (P.funs.map Fn.nm)) := by
          have q := SBlk.reads hs (by unfold maxLen; simp; omega) (RFns.names_le HF.out)
          rw [List.length_map] at q
          exact q
        clear hs hb3 c0 c1
        go_wp2_with fail
        (with_reducible refine (distinct_any _ (P.funs.map Fn.nm) _ HSR.out).mono ?_)
        rintro e w4 ⟨rfl, hb4⟩
        have HE4 := Lib.hid (HE3.out.tr hb4)
        have HB4 := Lib.hid ((hb4.block _ (heap_lt HB3.out)).trans HB3.out)
        clear hb4
        have c0 := cellAt HB4.out 0
        have c1 := cellAt HB4.out 1
        cases qd : distB (P.funs.map Fn.nm)
        · have HQ := Lib.hid qd
          clear qd
          go_wp2
          go_ret
          exact ⟨ret_bool (by rw [HPB.out, HQ.out]; simp), HE4.out⟩
        · have HQD := Lib.hid qd
          clear qd
          have hlt0 : 0 < P.funs.length := h1
          have HH := Lib.hid (headD_at hlt0)
          have HAT := Lib.hid (HF.out.below HE4.out)
          obtain ⟨b, o, vp, xa, xc, kf, rfl, hbl, y0, y1, y2, yc, y3, y4, y5⟩ := HAT.out.at_ hlt0
          have HP := Lib.hid y4
          have c30 := yc.c0
          have c31 := yc.c1
          have c32 := yc.c2
          have c33 := yc.c3
          have c34 := yc.c4
          have c35 := yc.c5
          have h0i : (0 : Int) < P.funs.length := by omega
          have HBL := Lib.hid hbl
          generalize P.funs[0] = f0 at *
          simp only [Nat.zero_mul, Nat.add_zero] at *
          go_wp2_with fail
          (with_reducible refine (isMain_any f0 vp xa xc _ HP.out).mono ?_)
          rintro e w5 ⟨rfl, hb5⟩
          have HE5 := Lib.hid (HE4.out.tr hb5)
          have HB5 := Lib.hid ((hb5.block _ (heap_lt HB4.out)).trans HB4.out)
          clear hb5 c0 c1 y0 y1 y2 yc y3 y4 y5 c30 c31 c32 c33 c34 c35
          have c0 := cellAt HB5.out 0
          have c1 := cellAt HB5.out 1
          cases qm : mainB f0
          · have HQ := Lib.hid qm
            clear qm
            go_wp2
            go_ret
            exact ⟨ret_bool (by rw [HPB.out, HH.out, HQ.out]; simp), HE5.out⟩
          · have HQM := Lib.hid qm
            clear qm
            go_wp2_with fail
            (with_reducible refine (validSize_any _ P.funs _ (HF.out.below HE5.out) (by omega) HFI.out.each).mono ?_)
            rintro e w6 ⟨rfl, hb6⟩
            have HE6 := Lib.hid (HE5.out.tr hb6)
            have HB6 := Lib.hid ((hb6.block _ (heap_lt HB5.out)).trans HB5.out)
            clear hb6 c0 c1
            have c0 := cellAt HB6.out 0
            have c1 := cellAt HB6.out 1
            cases qs : sizesB 0 P.funs
            · have HQ := Lib.hid qs
              clear qs
              go_wp2
              go_ret
              exact ⟨ret_bool (by rw [HPB.out, HQ.out]; simp), HE6.out⟩
            · have HQS := Lib.hid qs
              clear qs
              go_wp2
              have HALL : Hid (rr = P.funs.all (funB P)) := by
                show _ = _
                rw [HPB.out, ← HS.out, decide_eq_true H1.out, decide_eq_true H12.out, HQD.out, HH.out, HQM.out, HQS.out]; rfl
              clear h0i HN1 HN2 hbl
              go_loopw [47] (fun i wr => ∃ k : Nat, k ≤ P.funs.length ∧ i = .int .i64 k ∧ Ext w6 wr ∧ P.funs.all (funB P) = (P.funs.drop k).all (funB P)) (fun i _ => P.funs.length - (intOf i).toNat)
              case atStart => exact ⟨0, Nat.zero_le _, rfl, Ext.rf _, by simp⟩
              case round =>
                obtain ⟨k, hk, rfl, hb, hno⟩ := hrel
                have HB := Lib.hid hb; have HN := Lib.hid hno
                have b0 := (hb.block _ (heap_lt HB6.out)).trans HB6.out
                clear hb hno c0 c1
                by_cases hlt : k < P.funs.length
                · have HAT2 := Lib.hid (HF.out.below (HE6.out.tr HB.out))
                  obtain ⟨b', o', vp, xa, xc, kf, he, hbl, y0, y1, y2, yc, y3, y4, y5⟩ := HAT2.out.at_ hlt
                  cases he
                  obtain ⟨Ap, cp, rfl, -, -⟩ := y4.form
                  have HP := Lib.hid y4; have HT := Lib.hid y5
                  obtain ⟨_, ⟨Aa, ca, rfl, -, -⟩, ⟨Bb, cb, rfl, -, -⟩⟩ := y5.form
                  have HFF := Lib.hid (HFI.out _ (List.getElem_mem hlt))
                  have HZZ : Hid ((nodesL 1 (P.funs[k]).body).length ≤ 600) := sizes_each0 _ _ HQS.out _ (List.getElem_mem hlt)
                  have c30 := yc.c0
                  have c31 := yc.c1
                  have c32 := yc.c2
                  have c33 := yc.c3
                  have c34 := yc.c4
                  have c35 := yc.c5
                  have HDk := Lib.hid (drop_step hlt)
                  generalize P.funs[k] = f at *
                  have hE7 := Ext.al wr (.cells #[.string f.nm, .slice Ap f.ps.length cp, .int .i64 f.res, .int .i64 f.body.op, .int .i64 f.body.n, .string f.body.nm, .int .i64 f.body.ty, .slice Aa f.body.args.length ca, .slice Bb f.body.cls.length cb] 62)
                  have d0 := hE7.keep (cellAt b0 0)
                  have d1 := hE7.keep (cellAt b0 1)
                  have HE7 := Lib.hid hE7
                  clear hE7 b0 y4 y5 yc y3
                  go_wp2_with fail
                  (with_reducible refine (validFun_any P _ _ f _ _ _ kf _ (HD.out.below ((HE6.out.tr HB.out).tr HE7.out)) (HF.out.below ((HE6.out.tr HB.out).tr HE7.out)) (HP.out.below HE7.out) (HT.out.below HE7.out) HFF.out HVB.out HZZ.out).mono ?_)
                  generalize wr.alloc _ = w7 at *
                  rintro e w8 ⟨rfl, hb8⟩
                  have HE8 := Lib.hid ((HB.out.tr HE7.out).tr hb8)
                  clear hb8
                  cases qf : funB P f
                  · have HQ2 := Lib.hid qf
                    clear qf
                    go_wp2
                    go_ret
                    exact ⟨ret_bool (by rw [HALL.out, HN.out, HDk.out, List.all_cons, HQ2.out]; rfl), HE6.out.tr HE8.out⟩
                  · have HQ2 := Lib.hid qf
                    clear qf
                    go_wp2
                    go_roundw
                    case rel => exact ⟨k + 1, by omega, by go_num, HE8.out, by rw [HN.out, HDk.out, List.all_cons, HQ2.out]; rfl⟩
                    case measure => simp [intOf]; omega
                · have HK := Lib.hid (drop_end hlt)
                  go_wp2
                  go_ret
                  exact ⟨ret_bool (by rw [HALL.out, HN.out, HK.out]; rfl), HE6.out.tr HB.out⟩
      · have hq : decide (P.funs.length ≤ 12) = false := decide_eq_false h12
        have HQ := Lib.hid hq
        clear hq
        go_wp2
        go_ret
        exact ⟨ret_bool (by rw [HPB.out, HQ.out]; simp), HE2.out⟩
    · have hq : decide (1 ≤ P.funs.length) = false := decide_eq_false h1
      have HQ := Lib.hid hq
      clear hq
      go_wp2
      go_ret
      exact ⟨ret_bool (by rw [HPB.out, HQ.out]; simp), HE2.out⟩

set_option maxHeartbeats 1000000 in
set_option maxRecDepth 100000 in
theorem Check_any (P : Pg) (vd vf : Value) (w : World) (hd : RDecls w vd P.decls) (hf : RFns w vf P.funs) (hfine : FinePg P) :
    Calls Tryz.prog 10 #[pV vd vf] w fun e w' => e = .returned (.int .i64 (chkP P)) ∧ Ext w w' := by
  have HD := Lib.hid hd; have HF := Lib.hid hf; have HFI := Lib.hid hfine
  have HC : Hid (chkP P = if progB P then 0 else 20) := rfl
  generalize chkP P = rr at *
  clear hd hf hfine
  have HE := Lib.hid (Ext.al w (.cells #[vd, vf] 25))
  have HB0 := Lib.hid (heapNew w (.cells #[vd, vf] 25))
  have c0 := cellAt HB0.out 0
  have c1 := cellAt HB0.out 1
  go_enter Tryz.func10, Tryz.ntmps10
  go_wp2_with fail
  generalize w.alloc _ = w1 at *
  (with_reducible refine (validProg_any P vd vf _ (HD.out.below HE.out) (HF.out.below HE.out) HFI.out).mono ?_)
  rintro e w2 ⟨rfl, hb⟩
  have HB2 := Lib.hid (HE.out.tr hb)
  clear hb c0 c1
  cases q : progB P
  · have HQ := Lib.hid q
    clear q
    go_wp2
    go_ret
    exact ⟨ret_int (by rw [HC.out, HQ.out]; rfl), HB2.out⟩
  · have HQ := Lib.hid q
    clear q
    go_wp2
    go_ret
    exact ⟨ret_int (by rw [HC.out, HQ.out]; rfl), HB2.out⟩
end Go.Proofs.YtfohcdpfgbeclaaGreat

/- term.go: Term. -/
namespace Go.Proofs.YtfohcdpfgbeclaaGreat
open Go.RowKit

theorem box6b (w : World) (o1 : Obj) (a b c d e f : Value) :
    ((w.alloc o1).alloc (.cells #[a, b, c, d, e, f] 43)).heap[w.heap.size + 1]? = some (.cells #[a, b, c, d, e, f] 43 (0, 0)) := by
  have := heapNew (w.alloc o1) (.cells #[a, b, c, d, e, f] 43)
  simpa using this

set_option maxHeartbeats 4000000 in
set_option maxRecDepth 100000 in
theorem Term_any (P : Pg) (vd vf v1 v2 : Value) (l1 l2 : List Str) (k : Nat) (t : Tm) (va vc : Value) (w : World) (hd : RDecls w vd P.decls) (hf : RFns w vf P.funs) (hfine : FinePg P) (h1 : RStrs w v1 l1) (h2 : RStrs w v2 l2) (ht : RT w k t va vc) (hft : FineT t)
    (hw : l1.length + l2.length + wT t ≤ maxLen) :
    Calls Tryz.prog 18 #[pV vd vf, v1, v2, tV t va vc] w fun e w' => e = .returned (.tuple #[.bool (termP P (hasS l1) (hasS l2) t).1, .int .i64 (termP P (hasS l1) (hasS l2) t).2]) ∧ Ext w w' := by
  have HD := Lib.hid hd; have HF := Lib.hid hf; have HFI := Lib.hid hfine; have H1 := Lib.hid h1; have H2 := Lib.hid h2; have HT := Lib.hid ht; have HFT := Lib.hid hft; have HW := Lib.hid (Nat.le_trans (Nat.add_le_add_left (wF_le P t) _) hw)
  have HR : Hid (termP P (hasS l1) (hasS l2) t = if progB P then ((sizeR t).2 && validT P (hasS l1) (hasS l2) t, 0) else (false, 20)) := rfl
  generalize termP P (hasS l1) (hasS l2) t = rr at *
  obtain ⟨A1, c1, rfl, -, -⟩ := h1.form
  obtain ⟨A2, c2, rfl, -, -⟩ := h2.form
  obtain ⟨_, ⟨Aa, ca, rfl, -, -⟩, ⟨Bb, cb, rfl, -, -⟩⟩ := ht.form
  clear hd hf hfine h1 h2 ht hft hw
  have HE := Lib.hid (Ext.al2 w (.cells #[vd, vf] 25) (.cells #[.int .i64 t.op, .int .i64 t.n, .string t.nm, .int .i64 t.ty, .slice Aa t.args.length ca, .slice Bb t.cls.length cb] 43))
  have HB0 : Hid (((w.alloc (.cells #[vd, vf] 25)).alloc (.cells #[.int .i64 t.op, .int .i64 t.n, .string t.nm, .int .i64 t.ty, .slice Aa t.args.length ca, .slice Bb t.cls.length cb] 43)).heap[w.heap.size]? = some (.cells #[vd, vf] 25 (0, 0))) := ((Ext.al _ _).block _ (heap_lt (heapNew _ _))).trans (heapNew _ _)
  have HB1 := Lib.hid (box6b w (.cells #[vd, vf] 25) (.int .i64 t.op) (.int .i64 t.n) (.string t.nm) (.int .i64 t.ty) (.slice Aa t.args.length ca) (.slice Bb t.cls.length cb))
  have p0 := cellAt HB0.out 0
  have p1 := cellAt HB0.out 1
  go_enter Tryz.func18, Tryz.ntmps18
  go_wp2_with fail
  generalize (w.alloc _).alloc _ = w1 at *
  (with_reducible refine (validProg_any P vd vf _ (HD.out.below HE.out) (HF.out.below HE.out) HFI.out).mono ?_)
  rintro e w2 ⟨rfl, hb⟩
  have HE2 := Lib.hid (HE.out.tr hb)
  have HB02 := Lib.hid ((hb.block _ (heap_lt HB0.out)).trans HB0.out)
  have HB12 := Lib.hid ((hb.block _ (heap_lt HB1.out)).trans HB1.out)
  clear hb p0 p1
  obtain ⟨x0, x1, x2, x3, x4, x5⟩ := cells6 HB12.out
  cases q : progB P
  · have HQ := Lib.hid q
    clear q
    go_wp2
    go_ret2
    exact ⟨by rw [HR.out, HQ.out]; rfl, HE2.out⟩
  · have HQ := Lib.hid q
    clear q
    go_wp2_with fail
    (with_reducible refine (size_any k t _ _ _ (HT.out.below HE2.out) HFT.out.dep).mono ?_)
    rintro e w3 ⟨rfl, hb⟩
    have HE3 := Lib.hid (HE2.out.tr hb)
    have HB03 := Lib.hid ((hb.block _ (heap_lt HB02.out)).trans HB02.out)
    have HB13 := Lib.hid ((hb.block _ (heap_lt HB12.out)).trans HB12.out)
    clear hb x0 x1 x2 x3 x4 x5
    have hmx : Tryz.prog.follows .mixedOrders = true := by kernel_rfl
    generalize sizeR t = z at *
    obtain ⟨z1, z2⟩ := z
    cases z2
    · go_wp2
      refine wp_region_ext (w0 := w3) (by kernel_rfl) (by kernel_rfl) (Ext.rf _) ?_
      repeat (first | go_big_quiet_step (fail) | quiet_step (fail))
      refine wpQuiet_nil ?_
      rintro _ ⟨⟨w4, hx⟩, rfl⟩
      have HX := Lib.hid hx
      clear hx
      go_wp2
      go_ret2
      exact ⟨by rw [HR.out, HQ.out]; rfl, HE3.out.tr HX.out⟩
    · have p0 := cellAt HB03.out 0
      have p1 := cellAt HB03.out 1
      obtain ⟨x0, x1, x2, x3, x4, x5⟩ := cells6 HB13.out
      go_wp2
      go_region_with (first
        | (go_at_call 45; (with_reducible refine (newScope_any _ _ l1 l2 _ ((H1.out.below HE3.out).below (Ext.rf _).drew) ((H2.out.below HE3.out).below (Ext.rf _).drew)).mono ?_); rintro e w8 ⟨⟨v', rfl, hsc⟩, hx8⟩; have HX8 : Hid (Ext w3 w8) := Ext.tr (b := w3.drew) (Ext.rf w3).drew hx8; have HSC := Lib.hid hsc; clear hx8 hsc p0 p1 x0 x1 x2 x3 x4 x5; have p0 := HX8.out.keep (cellAt HB03.out 0); have p1 := HX8.out.keep (cellAt HB03.out 1); have x0 := HX8.out.keep (cellAt HB13.out 0); have x1 := HX8.out.keep (cellAt HB13.out 1); have x2 := HX8.out.keep (cellAt HB13.out 2); have x3 := HX8.out.keep (cellAt HB13.out 3); have x4 := HX8.out.keep (cellAt HB13.out 4); have x5 := HX8.out.keep (cellAt HB13.out 5))
        | (go_at_call 44; (with_reducible refine (validTerm_any P vd vf k t _ _ v' _ _ _ w8 (HT.out.below (HE3.out.tr HX8.out)) (HD.out.below (HE3.out.tr HX8.out)) (HF.out.below (HE3.out.tr HX8.out)) HSC.out HW.out).mono ?_); rintro e w9 ⟨rfl, hx9⟩; have HX9 : Hid (Ext w3 w9) := HX8.out.tr hx9; clear hx9 p0 p1 x0 x1 x2 x3 x4 x5))
      all_goals
        go_wp2
        go_ret2
        exact ⟨by rw [HR.out, HQ.out]; rfl, HE3.out.tr HX9.out⟩
end Go.Proofs.YtfohcdpfgbeclaaGreat

/- append of strings to a row that the call owns. -/
namespace Go.Proofs.YtfohcdpfgbeclaaGreat
open Go.RowKit

/-! ### append, whatever the element -/
theorem run_append_nil {w : World} {base : Nat} {t ty e : TypeId} {i : TypeInfo} {size c : Nat} (ht : Tryz.prog.underlying t = some (.slice e)) (hi : Tryz.prog.info? e = some i) {v : Value} {n : Nat} {xs : List Value} (hown : w.ownsRow base e size v n xs) :
    (Builtin.append_ #[t, t] ty #[v, .slice none 0 c]).run Tryz.prog w = .ok v w := by
  rcases hown.2 with ⟨rfl, rfl⟩ | ⟨g, cap, cur, rfl, _, _, hnc, _⟩
  · simp [Builtin.append_, run_underlying ht, sizeOf, typeInfo, hi, Builtin.lenOf, Builtin.firstCells]
  · simp [Builtin.append_, run_underlying ht, sizeOf, typeInfo, hi, Builtin.lenOf, Builtin.firstCells, hnc, storeCells]
def SrcN (w : World) (A : Option Addr) (m size : Nat) (news : List Value) : Prop :=
  (A = none ∧ m = 0 ∧ news = []) ∨ ∃ ad, A = some ad ∧ news.length = m * size ∧ ∀ (j : Nat) u, news[j]? = some u → w.cell? (ad.add j) = some u
theorem app_row {t e size bytes : Nat} {z : Value} (hu : Tryz.prog.underlying t = some (.slice e)) (hinf : (Tryz.prog.info? e).map (fun i => (i.zero, i.size, i.bytes)) = some (some z, size, bytes)) (hzs : z.cells.size = size) (hsz : 0 < size)
    {w : World} {o : Oper} {a : Act} {K : Act → World → Prop} {Q : Exit → Act → World → Prop} (s x : Operand)
    (ho : o.op = .call { callee := .builtin .append, args := #[s, x], argTypes := #[t, t] })
    (B : Nat) (v : Value) (n : Nat) (xs : List Value) (hs : a.eval s = v) (hown : w.ownsRow B e size v n xs)
    (A : Option Addr) (m c : Nat) (news : List Value) (hx : a.eval x = .slice A m c) (hsrc : SrcN w A m size news) (h1 : ∀ u ∈ news, u.oneCell' = true)
    (hnm : n + m ≤ maxLen) (hby : (n + m) * bytes ≤ 140737488355328) (hB : B ≤ w.heap.size)
    (h : ∀ v' w', w'.ownsRow B e size v' (n + m) (xs ++ news) → w.grownBy w' v.ownBlock → (v'.ownBlock = v.ownBlock ∨ v'.ownBlock = some w.heap.size) → K (a.put o.dst v') w') : o.wp Tryz.prog a w K Q := by
  obtain ⟨i0, hi1, hz0, hz1, hz2⟩ := info_parts hinf
  rcases hsrc with ⟨rfl, rfl, rfl⟩ | ⟨ad, rfl, hl, hc⟩
  · have hr := run_append_nil (c := c) (ty := o.type) hu hi1 hown
    have hk := h v w (by simpa using hown) (World.grownBy.refl w _) (.inl rfl)
    unfold Oper.wp execOp
    simp only [ho, resolve, invoke, builtin, Sem.run_bind, Sem.run_pure, Result.andThen_ok, List.map_toArray, List.map_cons, List.map_nil, hs, hx, hr]
    exact hk
  · obtain ⟨v', w', hr, h2, h3, _, h5⟩ := run_append_own_at (P := Tryz.prog) w B t o.type e i0 z size bytes hu hi1 hz0 hz1 hz2 hzs hsz v n xs hown ad m c news hl hc h1 hnm hby hB
    unfold Oper.wp execOp
    simp only [ho, resolve, invoke, builtin, Sem.run_bind, Sem.run_pure, Result.andThen_ok, List.map_toArray, List.map_cons, List.map_nil, hs, hx, hr]
    exact h v' w' h2 h3 h5

theorem add_at (b o k : Nat) : (⟨b, o, none⟩ : Addr).add k = ⟨b, o + k, none⟩ := by
  by_cases hk : k = 0 <;> simp [Addr.add, hk]
theorem RStrs.src {w : World} {A : Option Addr} {c : Nat} {l : List Str} (h : RStrs w (.slice A l.length c) l) : SrcN w A l.length 1 (l.map Value.string) := by
  cases A with
  | none =>
    cases l with
    | nil => exact .inl ⟨rfl, rfl, rfl⟩
    | cons a r =>
      obtain ⟨_, _, hA, _⟩ := h.at_ (k := 0) (by simp)
      cases hA
  | some ad =>
    refine .inr ⟨ad, rfl, by simp, fun j u hu => ?_⟩
    rw [List.getElem?_map] at hu
    obtain ⟨s, hs, rfl⟩ := Option.map_eq_some_iff.1 hu
    obtain ⟨hlt, rfl⟩ := List.getElem?_eq_some_iff.1 hs
    obtain ⟨b, o, hA, _, c0, _⟩ := h.at_ hlt
    cases hA
    rw [add_at]; exact c0
theorem strs_one (l : List Str) : ∀ u ∈ l.map Value.string, u.oneCell' = true := by
  intro u hu
  obtain ⟨s, _, rfl⟩ := List.mem_map.1 hu
  rfl
theorem app_strs {w : World} {ops : Array Oper} {rest : List Oper} {o : Oper} {a : Act} {Q : Exit → Act → World → Prop} (hgd : o.guard = none) (s x : Operand)
    (ho : o.op = .call { callee := .builtin .append, args := #[s, x], argTypes := #[39, 39] }) (B : Nat) (v : Value) (l1 : List Str) (hs : a.eval s = v) (hown : w.ownsRow B 9 1 v l1.length (l1.map Value.string))
    (x' : Value) (l2 : List Str) (hx : a.eval x = x') (hr : RStrs w x' l2) (hn : l1.length + l2.length ≤ 1000000000) (hB : B ≤ w.heap.size)
    (h : ∀ v' w', w'.ownsRow B 9 1 v' (l1 ++ l2).length ((l1 ++ l2).map Value.string) → w.grownBy w' v.ownBlock → wpList Tryz.prog ops Q rest (a.put o.dst v') w') : wpList Tryz.prog ops Q (o :: rest) a w := by
  obtain ⟨A, c, rfl, -, -⟩ := hr.form
  refine wpList_plain hgd fun K hK => app_row (t := 39) (e := 9) (size := 1) (bytes := 16) Tryz.underlying39 Tryz.info9 rfl (by decide) s x ho B v l1.length (l1.map Value.string) hs hown A l2.length c (l2.map Value.string) hx hr.src (strs_one l2) (by unfold maxLen; omega) (by omega) hB (fun v' w' h1 h2 _ => hK _ _ (h v' w' ?_ h2))
  rw [List.length_append, List.map_append]; exact h1
theorem own_nil {w : World} {B : Nat} : w.ownsRow B 9 1 (.slice none 0 0) ([] : List Str).length (([] : List Str).map Value.string) := ⟨by simp, .inl ⟨rfl, rfl⟩⟩
theorem grown_ext {w w' : World} {v : Value} {B : Nat} {n : Nat} {xs : List Value} (hg : w.grownBy w' v.ownBlock) (hv : w.ownsRow B 9 1 v n xs) (hB : B ≤ w.heap.size) : Below B w w' :=
  Below.grown (Below.refl _ _) hg hB (fun j e => (hv.lt j e).1)
end Go.Proofs.YtfohcdpfgbeclaaGreat

/- ref.go: In, With. -/
namespace Go.Proofs.YtfohcdpfgbeclaaGreat
open Go.RowKit

set_option maxHeartbeats 1000000 in
set_option maxRecDepth 100000 in
theorem In_any (v : Value) (l : List Str) (s : Str) (w : World) (h : RStrs w v l) :
    Calls Tryz.prog 24 #[v, .string s] w fun e w' => e = .returned (.bool (hasS l s)) ∧ w = w' := by
  have H := Lib.hid h
  obtain ⟨A, c, rfl, hc, hm⟩ := h.form
  have HS : Hid (hasS l s = hasS l s) := rfl
  generalize hrr : hasS l s = rr
  have HR : Hid (rr = hasS l s) := hrr.symm
  clear h hrr HS
  unfold maxLen at hm
  go_enter Tryz.func24, Tryz.ntmps24
  go_wp2
  go_loopw [9] (fun i wr => ∃ k : Nat, k ≤ l.length ∧ i = .int .i64 k ∧ w = wr ∧ rr = hasS (l.drop k) s) (fun i _ => l.length - (intOf i).toNat)
  case atStart => exact ⟨0, Nat.zero_le _, rfl, rfl, HR.out⟩
  case round =>
    obtain ⟨k, hk, rfl, rfl, hno⟩ := hrel
    have HN := Lib.hid hno
    clear hno
    by_cases hlt : k < l.length
    · obtain ⟨b, o, rfl, hbl, y0, hs⟩ := H.out.at_ hlt
      have HD := Lib.hid (drop_step hlt)
      have HX : Hid (rr = (eqS s l[k] || hasS (l.drop (k + 1)) s)) := by show _ = _; rw [HN.out, HD.out, hasS_cons']
      generalize l[k] = x at *
      go_wp2
      · have hq : eqS x s = true := by assumption
        go_ret
        exact ⟨ret_bool (by rw [HX.out, eqS_comm, hq]; rfl), rfl⟩
      · have hq : eqS x s = false := by assumption
        refine ⟨⟨k + 1, by omega, by go_num, trivial, by rw [HX.out, eqS_comm, hq]; rfl⟩, by simp [intOf]; omega⟩
    · have HK := Lib.hid (drop_end hlt)
      go_wp2
      go_ret
      exact ⟨ret_bool (by rw [HN.out, HK.out]; rfl), rfl⟩

set_option maxHeartbeats 1000000 in
set_option maxRecDepth 100000 in
theorem With_any (v1 v2 : Value) (l1 l2 : List Str) (w : World) (h1 : RStrs w v1 l1) (h2 : RStrs w v2 l2) (hs1 : ∀ s ∈ l1, s.size ≤ maxLen) (hs2 : ∀ s ∈ l2, s.size ≤ maxLen) (hl : l1.length + l2.length ≤ 1000000000) :
    Calls Tryz.prog 25 #[v1, v2] w fun e w' => ∃ v, e = .returned v ∧ RStrs w' v (l1 ++ l2) ∧ Ext w w' := by
  have H1 := Lib.hid h1; have H2 := Lib.hid h2; have HS : Hid (∀ s ∈ l1 ++ l2, s.size ≤ maxLen) := fun s h => (List.mem_append.1 h).elim (hs1 s) (hs2 s)
  clear h1 h2 hs1 hs2
  have hN : l1.length ≤ 1000000000 := by omega
  go_enter Tryz.func25, Tryz.ntmps25
  go_wp2_with (at_builtin; refine app_strs rfl _ _ rfl w.heap.size _ [] rfl own_nil v1 l1 rfl H1.out (by simp; omega) (Nat.le_refl _) ?_)
  intro v' w2 ho hg
  have HO := Lib.hid ho
  have hE : Ext w w2 := ⟨hg.os, hg.tape, hg.output, hg.size, fun k hk => hg.block k hk (by simp [Value.ownBlock])⟩
  have HE := Lib.hid hE
  clear ho hg hE
  go_wp2_with (at_builtin; refine app_strs rfl _ _ rfl w.heap.size v' l1 rfl HO.out v2 l2 rfl (H2.out.below HE.out) hl HE.out.size ?_)
  intro v'' w3 ho hg
  have HO3 := Lib.hid ho
  have HE3 := Lib.hid (HE.out.trans (grown_ext hg HO.out HE.out.size))
  clear ho hg
  go_wp2
  go_ret
  have h3 := HO3.out
  rw [← List.length_append, ← List.map_append] at h3
  exact ⟨v'', rfl, own_strs h3 HS.out, HE3.out⟩
end Go.Proofs.YtfohcdpfgbeclaaGreat

/- A statement whose order is open: an invariant over what has been done. -/
namespace Go.Proofs.YtfohcdpfgbeclaaGreat
open Go.RowKit

/-- Every operation waits only for operations ahead of it in the text. -/
def backB (ops : Array Oper) : Bool := (List.range ops.size).all fun i => ((ops[i]?).map fun o => o.after.all fun e => decide (e.on < i)).getD true
def openN (n : Nat) (listed : Array Bool) : Nat := (List.range n).countP fun i => !listed.getD i false
theorem getD_eq {listed : Array Bool} {i : Nat} (h : i < listed.size) (a b : Bool) : listed.getD i a = listed.getD i b := by
  simp [Array.getD, h]
theorem openN_zero {n : Nat} {listed : Array Bool} (h : openN n listed = 0) : ∀ i, i < n → listed.getD i false = true := by
  intro i hi
  unfold openN at h
  rw [List.countP_eq_zero] at h
  have := h i (List.mem_range.2 hi)
  cases hb : listed.getD i false
  · rw [hb] at this; simp at this
  · rfl
theorem set_getD {listed : Array Bool} {i j : Nat} (hi : i < listed.size) : (listed.setIfInBounds i true).getD j false = (decide (j = i) || listed.getD j false) := by
  by_cases h : j = i
  · subst h; simp [Array.getD, hi]
  · have h' : i ≠ j := fun e => h e.symm
    rw [Array.getD_eq_getD_getElem?, Array.getD_eq_getD_getElem?, Array.getElem?_setIfInBounds_ne h']; simp [h]
theorem count_lt {α : Type} {p q : α → Bool} : ∀ (l : List α), (∀ x ∈ l, q x = true → p x = true) → (∃ x ∈ l, p x = true ∧ q x = false) → l.countP q < l.countP p
  | [], _, h => by obtain ⟨x, hx, _⟩ := h; cases hx
  | a :: r, hpq, h => by
    have hle : r.countP q ≤ r.countP p := List.countP_mono_left fun x hx hq => hpq x (List.mem_cons_of_mem _ hx) hq
    rw [List.countP_cons, List.countP_cons]
    obtain ⟨x, hx, hp, hq⟩ := h
    rcases List.mem_cons.1 hx with rfl | hx
    · rw [hp, hq]; simp; omega
    · have := count_lt r (fun y hy => hpq y (List.mem_cons_of_mem _ hy)) ⟨x, hx, hp, hq⟩
      have h2 := hpq a (List.mem_cons_self ..)
      cases hqa : q a
      · simp; omega
      · rw [h2 hqa]; simp; omega
theorem openN_set {n : Nat} {listed : Array Bool} {i : Nat} (hs : listed.size = n) (hi : i < n) (hl : listed.getD i false = false) : openN n (listed.setIfInBounds i true) < openN n listed := by
  unfold openN
  refine count_lt _ (fun x _ hq => ?_) ⟨i, List.mem_range.2 hi, by rw [hl]; rfl, by rw [set_getD (by omega)]; simp⟩
  rw [set_getD (by omega)] at hq
  cases hb : listed.getD x false
  · rfl
  · rw [hb] at hq; simp at hq
theorem all_of_ready {md : Region.Mode} {ops : Array Oper} {listed : Array Bool} (hb : backB ops = true) (hs : listed.size = ops.size) (hr : Region.ready md ops listed = []) : ∀ i, i < ops.size → listed.getD i false = true := by
  intro i
  induction i using Nat.strongRecOn with
  | _ i ih =>
    intro hi
    cases hl : listed.getD i false
    · exfalso
      have hm : i ∈ Region.ready md ops listed := by
        unfold Region.ready
        rw [List.mem_filter]
        refine ⟨List.mem_range.2 hi, ?_⟩
        rw [getD_eq (by omega) true false, hl]
        have ho : ops[i]? = some ops[i] := Array.getElem?_eq_getElem hi
        rw [ho]
        simp only [Bool.not_false, Bool.true_and, Option.map_some, Option.getD_some, Array.all_eq_true, Bool.or_eq_true]
        intro j hj
        right
        unfold backB at hb
        rw [List.all_eq_true] at hb
        have h1 := hb i (List.mem_range.2 hi)
        rw [ho] at h1
        simp only [Option.map_some, Option.getD_some, Array.all_eq_true, decide_eq_true_eq] at h1
        exact ih _ (h1 j hj) (by have := h1 j hj; omega)
      rw [hr] at hm; cases hm
    · rfl

theorem wpAny_inv {P : Program} {md : Region.Mode} {ops : Array Oper} {Q : Exit → Act → World → Prop} (hb : backB ops = true) (Inv : (Nat → Bool) → Act → World → Prop)
    (hstep : ∀ (L : Nat → Bool) (a : Act) (w : World) (i : Nat) (o : Oper), ops[i]? = some o → (∀ e ∈ o.after.toList, Region.binds md e = true → L e.on = true) → L i = false → Inv L a w →
      wpOp P ops Q i (fun a' w' => Inv (fun j => decide (j = i) || L j) a' w') a w)
    (hdone : ∀ (L : Nat → Bool) (a : Act) (w : World), (∀ i, i < ops.size → L i = true) → Inv L a w → Q .normal a w) :
    ∀ (fuel : Nat) (listed : Array Bool) (a : Act) (w : World), listed.size = ops.size → openN ops.size listed ≤ fuel → Inv (fun j => listed.getD j false) a w → wpAny P md ops Q fuel listed a w := by
  intro fuel
  induction fuel with
  | zero =>
    intro listed a w hs hn hI
    have hall := openN_zero (Nat.le_zero.1 hn)
    refine ⟨?_, hdone _ a w hall hI⟩
    unfold Region.ready
    rw [List.filter_eq_nil_iff]
    intro i hi
    have := hall i (List.mem_range.1 hi)
    rw [getD_eq (by have := List.mem_range.1 hi; omega) true false, this]
    simp
  | succ fuel ih =>
    intro listed a w hs hn hI
    refine ⟨fun hr => hdone _ a w (all_of_ready hb hs hr) hI, fun i hi => ?_⟩
    unfold Region.ready at hi
    rw [List.mem_filter] at hi
    obtain ⟨hir, hc⟩ := hi
    have hlt := List.mem_range.1 hir
    have ho : ops[i]? = some ops[i] := Array.getElem?_eq_getElem hlt
    rw [ho, Bool.and_eq_true] at hc
    obtain ⟨hc1, hc2⟩ := hc
    have hl : listed.getD i false = false := by
      rw [getD_eq (by omega) true false] at hc1
      cases hh : listed.getD i false
      · rfl
      · rw [hh] at hc1; cases hc1
    refine wpOp_mono (fun a' w' hI' => ih (listed.setIfInBounds i true) a' w' (by simpa using hs) ?_ ?_) (hstep _ a w i _ ho (fun e he hbd => ?_) hl hI)
    · have := openN_set hs hlt hl
      omega
    · have hf : (fun j => (listed.setIfInBounds i true).getD j false) = (fun j => decide (j = i) || listed.getD j false) := by
        funext j; exact set_getD (by omega)
      rw [hf]; exact hI'
    · simp only [Option.map_some, Option.getD_some] at hc2
      rw [Array.all_eq_true] at hc2
      obtain ⟨n, hn', rfl⟩ := List.getElem_of_mem he
      have := hc2 n (by simpa using hn')
      rw [Bool.or_eq_true] at this
      rcases this with h | h
      · have hb' : Region.binds md ops[i].after[n] = true := by simpa using hbd
        rw [hb'] at h; cases h
      · simpa using h
theorem openN_start (n : Nat) : openN n (Array.replicate n false) = n := by
  unfold openN
  rw [List.countP_eq_length.2, List.length_range]
  intro i hi
  have := List.mem_range.1 hi
  simp [Array.getD, this]

theorem wp_region_inv {P : Program} {id : Nat} {Q : Exit → Act → World → Prop} {a : Act} {w : World} {ops : Array Oper} (hm : P.follows .mixedOrders = true) (hb : backB ops = true) (Inv : (Nat → Bool) → Act → World → Prop)
    (h0 : Inv (fun _ => false) a w.drew)
    (hstep : ∀ (L : Nat → Bool) (a : Act) (w : World) (i : Nat) (o : Oper), ops[i]? = some o → (∀ e ∈ o.after.toList, Region.binds .any e = true → L e.on = true) → L i = false → Inv L a w →
      ∀ K : Act → World → Prop, Hid (∀ a' w', Inv (fun j => decide (j = i) || L j) a' w' → K a' w') → if Region.wanted o (yielded ops a.tmps) = true then Oper.wp P o a w K Q else K (a.put o.dst undef) w)
    (hdone : ∀ (L : Nat → Bool) (a : Act) (w : World), (∀ i, i < ops.size → L i = true) → Inv L a w → Q .normal a w) : (Code.region id ops true).wp P Q a w := by
  refine wp_region_any hm (wpAny_inv hb Inv (fun L a w i o ho hp hl hI => wpOp_step ho fun K hK => hstep L a w i o ho hp hl hI K hK) hdone _ _ _ _ (by simp) (Nat.le_of_eq (openN_start _)) ?_)
  have hf : (fun j => (Array.replicate ops.size false).getD j false) = (fun _ => false) := by
    funext j
    by_cases h : j < ops.size <;> simp [Array.getD, h]
  rw [hf]; exact h0
end Go.Proofs.YtfohcdpfgbeclaaGreat
