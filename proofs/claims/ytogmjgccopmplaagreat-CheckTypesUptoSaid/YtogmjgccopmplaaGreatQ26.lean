/- check.go: namesOf, haveTypes. -/
import Derived.Test.YtogmjgccopmplaaGreatQ25
namespace Go.Proofs.YtogmjgccopmplaaGreat
open Go.RowKit
theorem Tryz.undStrs : Tryz.prog.underlying 48 = some (.slice 9) := by kernel_rfl
theorem make_strsB (w : World) (n : Nat) (h : n ≤ 2200000) : (Instr.makeSlice 48 (.int .i64 n) (.int .i64 n)).run Tryz.prog w = .ok (.slice (some ⟨w.heap.size, 0, none⟩) n n) (w.alloc (.cells (((List.replicate n (⟨#[]⟩ : Str)).map Value.string).toArray) 9)) := by
  obtain ⟨i0, hi, hz0, hz1, hz2⟩ := info_parts Tryz.info9
  have := run_make w 48 9 i0 (.string ⟨#[]⟩) Tryz.undStrs hi hz0 .i64 .i64 n n (by omega) (by omega) (by rw [hz2]; omega) (by omega)
  rw [this, hz1]
  simp only [Int.toNat_natCast, Nat.mul_one]
  rw [show (Value.string ⟨#[]⟩).cells = #[Value.string ⟨#[]⟩] from rfl, made_strs]
set_option maxHeartbeats 2000000 in
set_option maxRecDepth 100000 in
theorem namesOf_any (v : Value) (l : List Prm) (w : World) (h : RPrms w v l) (hl : l.length ≤ 2200000) :
    Calls Tryz.prog 40 #[v] w fun e w' => e = .returned (.slice (some ⟨w.heap.size, 0, none⟩) l.length l.length) ∧ SBlk w' w.heap.size (l.map Prm.nm) ∧ Ext w w' := by
  have HR := Lib.hid h
  obtain ⟨A, c, rfl, hc, hm⟩ := h.form
  clear h
  unfold maxLen at hm
  have hmk := make_strsB w l.length (by omega)
  have HN : Hid (SBlk _ _ (List.replicate l.length (⟨#[]⟩ : Str))) := SBlk.new w _
  have HE1 := Lib.hid (Ext.al w (.cells (((List.replicate l.length (⟨#[]⟩ : Str)).map Value.string).toArray) 9))
  have HZ : Hid (upS (l.map Prm.nm) 0 = List.replicate l.length (⟨#[]⟩ : Str)) := by show _ = _; rw [upS_zero, List.length_map]
  generalize List.replicate l.length (⟨#[]⟩ : Str) = S0 at *
  go_enter Tryz.func40, Tryz.ntmps40
  go_wp2
  clear hmk
  generalize w.alloc _ = w1 at *
  go_loopw [11] (fun i wr => ∃ k : Nat, k ≤ l.length ∧ i = .int .i64 k ∧ SBlk wr w.heap.size (upS (l.map Prm.nm) k) ∧ Ext w wr) (fun i _ => l.length - (intOf i).toNat)
  case atStart => exact ⟨0, Nat.zero_le _, rfl, by rw [HZ.out]; exact HN.out, HE1.out⟩
  case round =>
    obtain ⟨k, hk, rfl, hB, hE⟩ := hrel
    have HBk := Lib.hid hB; have HEk := Lib.hid hE; clear hB hE
    by_cases hlt : k < l.length
    · obtain ⟨b, o, rfl, hbl, y0, y1, y2⟩ := HR.out.at_ hlt
      have y0 := HEk.out.keep y0
      have y1 := HEk.out.keep y1
      clear y2
      have HS : Hid ((upS (l.map Prm.nm) k).set k l[k].nm = upS (l.map Prm.nm) (k + 1)) := by
        have := upS_step (l := l.map Prm.nm) (k := k) (by simpa using hlt)
        rw [List.getElem_map] at this; exact this
      have HL : Hid (k < (upS (l.map Prm.nm) k).length) := by show k < _; rw [upS_length (by simpa using hk), List.length_map]; exact hlt
      generalize l[k] = f at *
      generalize hS : upS (l.map Prm.nm) k = S at *
      clear hS
      have hne := HBk.out.lt
      have hE2 := Ext.al wr (Obj.cells #[.string f.nm, .int .i64 f.ty] 74)
      have n0 := newCell wr #[.string f.nm, .int .i64 f.ty] 74 0 rfl
      have HB2 := Lib.hid (HBk.out.ext hE2)
      have hcell := HB2.out.cell HL.out
      have hfz := HB2.out.frozen k
      have HE2 := Lib.hid (HEk.out.tr hE2)
      clear hE2
      go_wp2
      go_roundw
      case rel => exact ⟨k + 1, by omega, by go_num, by rw [← HS.out]; exact (HBk.out.set k _).ext (Ext.al _ _), Ext.tr (Below.setCell HEk.out (p := ⟨w.heap.size, k, none⟩) (Nat.le_refl _) _) (Ext.al _ _)⟩
      case measure => simp [intOf]; omega
    · have HK : Hid (k = (l.map Prm.nm).length) := by show k = _; rw [List.length_map]; omega
      go_wp2
      go_ret
      refine ⟨rfl, ?_, HEk.out⟩
      have := HBk.out
      rw [HK.out, upS_end] at this
      exact this
def haveL (P : Pg) (l : List Prm) : Bool := l.all fun a => isTypeB P a.ty
set_option maxHeartbeats 2000000 in
set_option maxRecDepth 100000 in
theorem prog_have_any (P : Pg) (vd vf va : Value) (l : List Prm) (w : World) (hd : RDecls w vd P.decls) (hf : ∃ A n c, vf = .slice A n c) (h : RPrms w va l) :
    Calls Tryz.prog 41 #[pV vd vf, va] w fun e w' => e = .returned (.bool (haveL P l)) ∧ Ext w w' := by
  have H := Lib.hid h
  obtain ⟨A, c, rfl, hc, hm⟩ := h.form
  obtain ⟨Ad, cd, rfl, hcd, hmd⟩ := hd.form
  obtain ⟨Af, nf, cf, rfl⟩ := hf
  clear h hd
  unfold maxLen at hm hmd
  have HE := Lib.hid (Ext.al w (.cells #[.slice Ad P.decls.length cd, .slice Af nf cf] 25))
  have HB := Lib.hid (heapNew w (.cells #[.slice Ad P.decls.length cd, .slice Af nf cf] 25))
  obtain ⟨rr, hrr⟩ : ∃ rr, haveL P l = rr := ⟨_, rfl⟩
  have HRR := Lib.hid hrr
  rw [hrr]
  clear hrr
  go_enter Tryz.func41, Tryz.ntmps41
  go_wp2
  generalize w.alloc _ = w1 at *
  go_loopw [9] (fun i wr => ∃ j : Nat, j ≤ l.length ∧ i = .int .i64 j ∧ rr = haveL P (l.drop j) ∧ Ext w1 wr) (fun i _ => l.length - (intOf i).toNat)
  case atStart => exact ⟨0, Nat.zero_le _, rfl, HRR.out.symm, Ext.rf _⟩
  case round =>
    obtain ⟨j, hj, rfl, hr, hb⟩ := hrel
    have HR := Lib.hid hr; have HX := Lib.hid hb; have HXW := Lib.hid (HE.out.tr hb)
    clear hr hb
    by_cases hlt : j < l.length
    · obtain ⟨b, o, rfl, hbl, y0, y1, -⟩ := H.out.at_ hlt
      have y0 := HXW.out.keep y0
      have y1 := HXW.out.keep y1
      have HSTP : Hid (haveL P (l.drop j) = (isTypeB P (l[j]).ty && haveL P (l.drop (j + 1)))) := by
        show _ = _
        rw [List.drop_eq_getElem_cons hlt]; rfl
      generalize l[j] = a at *
      have HE8 := Lib.hid (Ext.al wr (.cells #[.string a.nm, .int .i64 a.ty] 74))
      have c0 := HE8.out.keep (HX.out.keep (cellAt HB.out 0))
      have HX8 := Lib.hid (HX.out.tr HE8.out)
      have HXW8 := Lib.hid (HXW.out.tr HE8.out)
      by_cases h0 : a.ty < 0
      · have HQ : Hid (isTypeB P a.ty = false) := by show _ = _; unfold isTypeB; simp; omega
        go_wp2
        go_ret
        exact ⟨ret_bool (by rw [HR.out, HSTP.out, HQ.out]; rfl), HXW8.out⟩
      · by_cases h1 : a.ty > P.decls.length
        · have HQ : Hid (isTypeB P a.ty = false) := by show _ = _; unfold isTypeB; simp; omega
          go_wp2
          go_ret
          exact ⟨ret_bool (by rw [HR.out, HSTP.out, HQ.out]; rfl), HXW8.out⟩
        · have HQ : Hid (isTypeB P a.ty = true) := by show _ = _; unfold isTypeB; simp; omega
          go_wp2
          exact ⟨⟨j + 1, by omega, by go_num, by rw [HR.out, HSTP.out, HQ.out]; rfl, HX8.out⟩, by simp [intOf]; omega⟩
    · have HR1 : Hid (rr = true) := by show _ = _; rw [HR.out, List.drop_eq_nil_of_le (by omega)]; rfl
      go_wp2
      go_ret
      exact ⟨ret_bool HR1.out.symm, HXW.out⟩
set_option maxHeartbeats 2000000 in
set_option maxRecDepth 100000 in
theorem law_have_any (P : Pg) (vd vf va : Value) (l : List Prm) (w : World) (hd : RDecls w vd P.decls) (hf : ∃ A n c, vf = .slice A n c) (h : RPrms w va l) :
    Calls Tryz.prog 16 #[pV vd vf, va] w fun e w' => e = .returned (.bool (haveL P l)) ∧ Ext w w' := by
  have H := Lib.hid h
  obtain ⟨A, c, rfl, hc, hm⟩ := h.form
  obtain ⟨Ad, cd, rfl, hcd, hmd⟩ := hd.form
  obtain ⟨Af, nf, cf, rfl⟩ := hf
  clear h hd
  unfold maxLen at hm hmd
  have HE := Lib.hid (Ext.al w (.cells #[.slice Ad P.decls.length cd, .slice Af nf cf] 25))
  have HB := Lib.hid (heapNew w (.cells #[.slice Ad P.decls.length cd, .slice Af nf cf] 25))
  obtain ⟨rr, hrr⟩ : ∃ rr, haveL P l = rr := ⟨_, rfl⟩
  have HRR := Lib.hid hrr
  rw [hrr]
  clear hrr
  go_enter Tryz.func16, Tryz.ntmps16
  go_wp2
  generalize w.alloc _ = w1 at *
  go_loopw [9] (fun i wr => ∃ j : Nat, j ≤ l.length ∧ i = .int .i64 j ∧ rr = haveL P (l.drop j) ∧ Ext w1 wr) (fun i _ => l.length - (intOf i).toNat)
  case atStart => exact ⟨0, Nat.zero_le _, rfl, HRR.out.symm, Ext.rf _⟩
  case round =>
    obtain ⟨j, hj, rfl, hr, hb⟩ := hrel
    have HR := Lib.hid hr; have HX := Lib.hid hb; have HXW := Lib.hid (HE.out.tr hb)
    clear hr hb
    by_cases hlt : j < l.length
    · obtain ⟨b, o, rfl, hbl, y0, y1, -⟩ := H.out.at_ hlt
      have y0 := HXW.out.keep y0
      have y1 := HXW.out.keep y1
      have HSTP : Hid (haveL P (l.drop j) = (isTypeB P (l[j]).ty && haveL P (l.drop (j + 1)))) := by
        show _ = _
        rw [List.drop_eq_getElem_cons hlt]; rfl
      generalize l[j] = a at *
      have HE8 := Lib.hid (Ext.al wr (.cells #[.string a.nm, .int .i64 a.ty] 74))
      have c0 := HE8.out.keep (HX.out.keep (cellAt HB.out 0))
      have HX8 := Lib.hid (HX.out.tr HE8.out)
      have HXW8 := Lib.hid (HXW.out.tr HE8.out)
      by_cases h0 : a.ty < 0
      · have HQ : Hid (isTypeB P a.ty = false) := by show _ = _; unfold isTypeB; simp; omega
        go_wp2
        go_ret
        exact ⟨ret_bool (by rw [HR.out, HSTP.out, HQ.out]; rfl), HXW8.out⟩
      · by_cases h1 : a.ty > P.decls.length
        · have HQ : Hid (isTypeB P a.ty = false) := by show _ = _; unfold isTypeB; simp; omega
          go_wp2
          go_ret
          exact ⟨ret_bool (by rw [HR.out, HSTP.out, HQ.out]; rfl), HXW8.out⟩
        · have HQ : Hid (isTypeB P a.ty = true) := by show _ = _; unfold isTypeB; simp; omega
          go_wp2
          exact ⟨⟨j + 1, by omega, by go_num, by rw [HR.out, HSTP.out, HQ.out]; rfl, HX8.out⟩, by simp [intOf]; omega⟩
    · have HR1 : Hid (rr = true) := by show _ = _; rw [HR.out, List.drop_eq_nil_of_le (by omega)]; rfl
      go_wp2
      go_ret
      exact ⟨ret_bool HR1.out.symm, HXW.out⟩
end Go.Proofs.YtogmjgccopmplaaGreat

namespace Go.Proofs.YtogmjgccopmplaaGreat
open Go.RowKit
def srcP (l : List Decl) : Bool × Int := if validB l then (srcB l, 0) else (false, 10)
theorem Source_any (v : Value) (l : List Decl) (w : World) (h : RDecls w v l) :
    Calls Tryz.prog 86 #[v] w fun e w' => e = .returned (.tuple #[.bool (srcP l).1, .int .i64 (srcP l).2]) ∧ Ext w w' := by
  have HS : Hid (srcB l = l.all srcD) := rfl
  have HC : Hid (srcP l = if validB l then (srcB l, 0) else (false, 10)) := rfl
  generalize hrr : srcP l = rr at *
  clear hrr
  have HR := Lib.hid h
  obtain ⟨A, c, rfl, hc, hm⟩ := h.form
  clear h
  unfold maxLen at hm
  go_enter Tryz.func86, Tryz.ntmps86
  go_wp2_with fail
  (with_reducible refine (valid_any _ _ _ HR.out).mono ?_)
  rintro e w1 ⟨rfl, hb⟩
  have HB1 := Lib.hid hb; clear hb
  cases hq : validB l
  · have HQ := Lib.hid hq; clear hq
    go_wp2
    go_ret2
    exact ⟨by rw [HC.out, HQ.out]; rfl, HB1.out⟩
  · have HQ := Lib.hid hq; clear hq
    go_wp2
    have HR1 := Lib.hid (HR.out.below HB1.out)
    go_loopw [11] (fun i wr => ∃ k : Nat, k ≤ l.length ∧ i = .int .i64 k ∧ Ext w1 wr ∧ l.all srcD = (l.drop k).all srcD) (fun i _ => l.length - (intOf i).toNat)
    case atStart => exact ⟨0, Nat.zero_le _, rfl, Ext.rf _, by simp⟩
    case round =>
      obtain ⟨k, hk, rfl, hb, hno⟩ := hrel
      have HN := Lib.hid hno; have HB := Lib.hid hb; clear hno hb
      by_cases hlt : k < l.length
      · have HRk := Lib.hid (HR1.out.below HB.out)
        obtain ⟨b, o, vx, rfl, hbl, h0, h1, h2, h3, h4⟩ := HRk.out.at_ hlt
        have HD := Lib.hid (drop_step hlt)
        generalize l[k] = d at *
        obtain ⟨A2, c2, rfl, -⟩ := h3.form
        have HW := Lib.hid (Ext.al wr (Obj.cells #[Value.string d.name, Value.bool d.codata, Value.slice A2 d.xtors.length c2] 72))
        have HX : Hid (RDecl _ _ d) := ⟨_, rfl, h3.below HW.out, h4⟩
        clear h3
        go_wp2_with fail
        (with_reducible refine (isSource_any _ _ _ HX.out).mono ?_)
        rintro e w3 ⟨rfl, hb3⟩
        have HW3 := Lib.hid ((HB.out.tr HW.out).tr hb3); clear hb3
        cases hq : srcD d
        · have HQ3 := Lib.hid hq; clear hq
          go_wp2
          go_ret2
          exact ⟨by rw [HC.out, HQ.out, HS.out, HN.out, HD.out, List.all_cons, HQ3.out]; rfl, HB1.out.tr HW3.out⟩
        · have HQ3 := Lib.hid hq; clear hq
          go_wp2
          go_roundw
          case rel => exact ⟨k + 1, by omega, by go_num, HW3.out, by rw [HN.out, HD.out, List.all_cons, HQ3.out]; rfl⟩
          case measure => simp [intOf]; omega
      · go_wp2
        go_ret2
        exact ⟨by rw [HC.out, HQ.out, HS.out, HN.out, drop_end hlt]; rfl, HB1.out.tr HB.out⟩
end Go.Proofs.YtogmjgccopmplaaGreat

/- valid.go, term.go: a program; Check. -/
namespace Go.Proofs.YtogmjgccopmplaaGreat
open Go.RowKit
theorem srcP_fst (l : List Decl) : (srcP l).1 = (validB l && srcB l) := by
  unfold srcP; cases validB l <;> rfl
theorem sizes_each0 : ∀ (n : Int) (l : List Fn), sizesB n l = true → ∀ f ∈ l, (nodesL 1 f.body).length ≤ 600
  | n, [], _, f, hf => by cases hf
  | n, g :: r, h, f, hf => by
    rw [sizesB, Bool.and_eq_true] at h
    rcases List.mem_cons.1 hf with rfl | hf
    · have h1 := h.1
      unfold sizeR at h1
      split at h1
      · rename_i h2
        unfold sizeOK at h2
        simp only [Bool.and_eq_true, decide_eq_true_eq] at h2
        exact h2.1
      · cases h1
    · exact sizes_each0 _ r h.2 f hf
theorem FinePg.each {P : Pg} (h : FinePg P) : ∀ f ∈ P.funs, FineF P f.body := h
theorem headD_at {l : List Fn} (h : 0 < l.length) : l.headD noFn = l[0] := by
  cases l with
  | nil => simp at h
  | cons a b => rfl
set_option maxHeartbeats 4000000 in
set_option maxRecDepth 100000 in
theorem validProg_any (P : Pg) (vd vf : Value) (w : World) (hd : RDecls w vd P.decls) (hf : RFns w vf P.funs) (hfine : FinePg P) :
    Calls Tryz.prog 52 #[pV vd vf] w fun e w' => e = .returned (.bool (progB P)) ∧ Ext w w' := by
  have HD := Lib.hid hd; have HF := Lib.hid hf; have HFI := Lib.hid hfine
  have HPB : Hid (progB P = ((validB P.decls && srcB P.decls) && (decide (1 ≤ P.funs.length) && decide (P.funs.length ≤ 12) && distB (P.funs.map Fn.nm)) && (mainB (P.funs.headD noFn) && sizesB 0 P.funs) && P.funs.all (funB P))) := rfl
  generalize progB P = rr at *
  obtain ⟨Ad, cd, rfl, -, -⟩ := hd.form
  obtain ⟨Af, cf, rfl, hcf, hmf⟩ := hf.form
  clear hd hf hfine
  unfold maxLen at hmf
  have HE := Lib.hid (Ext.al w (.cells #[.slice Ad P.decls.length cd, .slice Af P.funs.length cf] 25))
  have HB0 := Lib.hid (heapNew w (.cells #[.slice Ad P.decls.length cd, .slice Af P.funs.length cf] 25))
  go_enter Tryz.func52, Tryz.ntmps52
  go_wp2_with fail
  generalize w.alloc _ = w1 at *
  (with_reducible refine (Source_any _ P.decls _ (HD.out.below HE.out)).mono ?_)
  rintro e w2 ⟨rfl, hb⟩
  have HE2 := Lib.hid (HE.out.tr hb)
  have HB2 := Lib.hid ((hb.block _ (heap_lt HB0.out)).trans HB0.out)
  clear hb
  have HS := Lib.hid (srcP_fst P.decls)
  generalize (srcP P.decls).1 = q1 at *
  generalize (srcP P.decls).2 = q2 at *
  have c0 := cellAt HB2.out 0
  have c1 := cellAt HB2.out 1
  cases q1
  · go_wp2
    go_ret
    exact ⟨ret_bool (by rw [HPB.out, ← HS.out]; rfl), HE2.out⟩
  · have HVB : Hid (validB P.decls = true) := by
      have h := HS.out.symm
      rw [Bool.and_eq_true] at h
      exact h.1
    by_cases h1 : 1 ≤ P.funs.length
    · by_cases h12 : P.funs.length ≤ 12
      · have H1 := Lib.hid h1; have H12 := Lib.hid h12
        have HN1 : Hid ((P.funs.length : Int) < 1 → False) := fun h => by omega
        have HN2 : Hid ((12 : Int) < P.funs.length → False) := fun h => by omega
        go_wp2_with fail
        (with_reducible refine (funNames_any _ P.funs _ (HF.out.below HE2.out) (by omega)).mono ?_)
        rintro e w3 ⟨rfl, hs, hb3⟩
        have HE3 := Lib.hid (HE2.out.tr hb3)
        have HB3 := Lib.hid ((hb3.block _ (heap_lt HB2.out)).trans HB2.out)
        have HSR : Hid (RStrs w3 (.slice (some ⟨w2.heap.size, 0, none⟩) P.funs.length P.funs.length) (P.funs.map Fn.nm)) := by
          have q := SBlk.reads hs (by unfold maxLen; simp; omega) (RFns.names_le HF.out)
          rw [List.length_map] at q
          exact q
        clear hs hb3 c0 c1
        go_wp2_with fail
        (with_reducible refine (distinct_any _ (P.funs.map Fn.nm) _ HSR.out).mono ?_)
        rintro e w4 ⟨rfl, hb4⟩
        have HE4 := Lib.hid (HE3.out.tr hb4)
        have HB4 := Lib.hid ((hb4.block _ (heap_lt HB3.out)).trans HB3.out)
        clear hb4
        have c0 := cellAt HB4.out 0
        have c1 := cellAt HB4.out 1
        cases qd : distB (P.funs.map Fn.nm)
        · have HQ := Lib.hid qd
          clear qd
          go_wp2
          go_ret
          exact ⟨ret_bool (by rw [HPB.out, HQ.out]; simp), HE4.out⟩
        · have HQD := Lib.hid qd
          clear qd
          have hlt0 : 0 < P.funs.length := h1
          have HH := Lib.hid (headD_at hlt0)
          have HAT := Lib.hid (HF.out.below HE4.out)
          obtain ⟨b, o, vp, xa, xc, kf, rfl, hbl, y0, y1, y2, yc, y3, y4, y5⟩ := HAT.out.at_ hlt0
          have HP := Lib.hid y4
          have c30 := yc.c0
          have c31 := yc.c1
          have c32 := yc.c2
          have c33 := yc.c3
          have c34 := yc.c4
          have c35 := yc.c5
          have h0i : (0 : Int) < P.funs.length := by omega
          have HBL := Lib.hid hbl
          generalize P.funs[0] = f0 at *
          simp only [Nat.zero_mul, Nat.add_zero] at *
          go_wp2_with fail
          (with_reducible refine (isMain_any f0 vp xa xc _ HP.out).mono ?_)
          rintro e w5 ⟨rfl, hb5⟩
          have HE5 := Lib.hid (HE4.out.tr hb5)
          have HB5 := Lib.hid ((hb5.block _ (heap_lt HB4.out)).trans HB4.out)
          clear hb5 c0 c1 y0 y1 y2 yc y3 y4 y5 c30 c31 c32 c33 c34 c35
          have c0 := cellAt HB5.out 0
          have c1 := cellAt HB5.out 1
          cases qm : mainB f0
          · have HQ := Lib.hid qm
            clear qm
            go_wp2
            go_ret
            exact ⟨ret_bool (by rw [HPB.out, HH.out, HQ.out]; simp), HE5.out⟩
          · have HQM := Lib.hid qm
            clear qm
            go_wp2_with fail
            (with_reducible refine (validSize_any _ P.funs _ (HF.out.below HE5.out) (by omega) HFI.out.each).mono ?_)
            rintro e w6 ⟨rfl, hb6⟩
            have HE6 := Lib.hid (HE5.out.tr hb6)
            have HB6 := Lib.hid ((hb6.block _ (heap_lt HB5.out)).trans HB5.out)
            clear hb6 c0 c1
            have c0 := cellAt HB6.out 0
            have c1 := cellAt HB6.out 1
            cases qs : sizesB 0 P.funs
            · have HQ := Lib.hid qs
              clear qs
              go_wp2
              go_ret
              exact ⟨ret_bool (by rw [HPB.out, HQ.out]; simp), HE6.out⟩
            · have HQS := Lib.hid qs
              clear qs
              go_wp2
              have HALL : Hid (rr = P.funs.all (funB P)) := by
                show _ = _
                rw [HPB.out, ← HS.out, decide_eq_true H1.out, decide_eq_true H12.out, HQD.out, HH.out, HQM.out, HQS.out]; rfl
              clear h0i HN1 HN2 hbl
              go_loopw [47] (fun i wr => ∃ k : Nat, k ≤ P.funs.length ∧ i = .int .i64 k ∧ Ext w6 wr ∧ P.funs.all (funB P) = (P.funs.drop k).all (funB P)) (fun i _ => P.funs.length - (intOf i).toNat)
              case atStart => exact ⟨0, Nat.zero_le _, rfl, Ext.rf _, by simp⟩
              case round =>
                obtain ⟨k, hk, rfl, hb, hno⟩ := hrel
                have HB := Lib.hid hb; have HN := Lib.hid hno
                have b0 := (hb.block _ (heap_lt HB6.out)).trans HB6.out
                clear hb hno c0 c1
                by_cases hlt : k < P.funs.length
                · have HAT2 := Lib.hid (HF.out.below (HE6.out.tr HB.out))
                  obtain ⟨b', o', vp, xa, xc, kf, he, hbl, y0, y1, y2, yc, y3, y4, y5⟩ := HAT2.out.at_ hlt
                  cases he
                  obtain ⟨Ap, cp, rfl, -, -⟩ := y4.form
                  have HP := Lib.hid y4; have HT := Lib.hid y5
                  obtain ⟨_, ⟨Aa, ca, rfl, -, -⟩, ⟨Bb, cb, rfl, -, -⟩⟩ := y5.form
                  have HFF := Lib.hid (HFI.out _ (List.getElem_mem hlt))
                  have HZZ : Hid ((nodesL 1 (P.funs[k]).body).length ≤ 600) := sizes_each0 _ _ HQS.out _ (List.getElem_mem hlt)
                  have c30 := yc.c0
                  have c31 := yc.c1
                  have c32 := yc.c2
                  have c33 := yc.c3
                  have c34 := yc.c4
                  have c35 := yc.c5
                  have HDk := Lib.hid (drop_step hlt)
                  generalize P.funs[k] = f at *
                  have hE7 := Ext.al wr (.cells #[.string f.nm, .slice Ap f.ps.length cp, .int .i64 f.res, .int .i64 f.body.op, .int .i64 f.body.n, .string f.body.nm, .int .i64 f.body.ty, .slice Aa f.body.args.length ca, .slice Bb f.body.cls.length cb] 64)
                  have d0 := hE7.keep (cellAt b0 0)
                  have d1 := hE7.keep (cellAt b0 1)
                  have HE7 := Lib.hid hE7
                  clear hE7 b0 y4 y5 yc y3
                  go_wp2_with fail
                  (with_reducible refine (validFun_any P _ _ f _ _ _ kf _ (HD.out.below ((HE6.out.tr HB.out).tr HE7.out)) (HF.out.below ((HE6.out.tr HB.out).tr HE7.out)) (HP.out.below HE7.out) (HT.out.below HE7.out) HFF.out HVB.out HZZ.out).mono ?_)
                  generalize wr.alloc _ = w7 at *
                  rintro e w8 ⟨rfl, hb8⟩
                  have HE8 := Lib.hid ((HB.out.tr HE7.out).tr hb8)
                  clear hb8
                  cases qf : funB P f
                  · have HQ2 := Lib.hid qf
                    clear qf
                    go_wp2
                    go_ret
                    exact ⟨ret_bool (by rw [HALL.out, HN.out, HDk.out, List.all_cons, HQ2.out]; rfl), HE6.out.tr HE8.out⟩
                  · have HQ2 := Lib.hid qf
                    clear qf
                    go_wp2
                    go_roundw
                    case rel => exact ⟨k + 1, by omega, by go_num, HE8.out, by rw [HN.out, HDk.out, List.all_cons, HQ2.out]; rfl⟩
                    case measure => simp [intOf]; omega
                · have HK := Lib.hid (drop_end hlt)
                  go_wp2
                  go_ret
                  exact ⟨ret_bool (by rw [HALL.out, HN.out, HK.out]; rfl), HE6.out.tr HB.out⟩
      · have hq : decide (P.funs.length ≤ 12) = false := decide_eq_false h12
        have HQ := Lib.hid hq
        clear hq
        go_wp2
        go_ret
        exact ⟨ret_bool (by rw [HPB.out, HQ.out]; simp), HE2.out⟩
    · have hq : decide (1 ≤ P.funs.length) = false := decide_eq_false h1
      have HQ := Lib.hid hq
      clear hq
      go_wp2
      go_ret
      exact ⟨ret_bool (by rw [HPB.out, HQ.out]; simp), HE2.out⟩
set_option maxHeartbeats 1000000 in
set_option maxRecDepth 100000 in
theorem Check_any (P : Pg) (vd vf : Value) (w : World) (hd : RDecls w vd P.decls) (hf : RFns w vf P.funs) (hfine : FinePg P) :
    Calls Tryz.prog 30 #[pV vd vf] w fun e w' => e = .returned (.int .i64 (chkP P)) ∧ Ext w w' := by
  have HD := Lib.hid hd; have HF := Lib.hid hf; have HFI := Lib.hid hfine
  have HC : Hid (chkP P = if progB P then 0 else 20) := rfl
  generalize chkP P = rr at *
  clear hd hf hfine
  have HE := Lib.hid (Ext.al w (.cells #[vd, vf] 25))
  have HB0 := Lib.hid (heapNew w (.cells #[vd, vf] 25))
  have c0 := cellAt HB0.out 0
  have c1 := cellAt HB0.out 1
  go_enter Tryz.func30, Tryz.ntmps30
  go_wp2_with fail
  generalize w.alloc _ = w1 at *
  (with_reducible refine (validProg_any P vd vf _ (HD.out.below HE.out) (HF.out.below HE.out) HFI.out).mono ?_)
  rintro e w2 ⟨rfl, hb⟩
  have HB2 := Lib.hid (HE.out.tr hb)
  clear hb c0 c1
  cases q : progB P
  · have HQ := Lib.hid q
    clear q
    go_wp2
    go_ret
    exact ⟨ret_int (by rw [HC.out, HQ.out]; rfl), HB2.out⟩
  · have HQ := Lib.hid q
    clear q
    go_wp2
    go_ret
    exact ⟨ret_int (by rw [HC.out, HQ.out]; rfl), HB2.out⟩
end Go.Proofs.YtogmjgccopmplaaGreat
