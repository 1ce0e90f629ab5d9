import Derived.Test.YtkdglplfcpindaaGreatDoorQ21
set_option maxRecDepth 100000
namespace Go.Proofs.YtkdglplfcpindaaGreatDoor
open Go.RowKit
theorem Positive_any (v : Value) (l : List Decl) (t : Int) (w : World) (h : RDecls w v l) :
    Calls Tryz.prog 41 #[v, .int .i64 t] w fun e w' => e = .returned (.tuple #[.bool (posB l t).1, .int .i64 (posB l t).2]) /\ Ext w w' := by
  have HB := LH (@posB_bad l t)
  have HZ := LH (@posB_zero l)
  have HO := LH (@posB_out l t)
  have HI := LH (@posB_in l (t - 1).toNat)
  have HR := LH h
  generalize hrr : posB l t = rr at *
  have HRR := LH hrr; clear hrr
  obtain ⟨A, c, rfl, hc, hm⟩ := h.form
  clear h
  unfold maxLen at hm
  go_enter Tryz.func41, Tryz.ntmps41
  go_wp2_with fail
  (with_reducible refine (valid_any _ _ _ HR.out).mono ?_)
  rintro e w1 ⟨rfl, hb⟩
  have HB1 := LH hb; clear hb
  have HR1 := LH (HR.out.below HB1.out)
  cases hq : validB l
  . have HQ := LH hq; clear hq
    go_wp2
    go_ret2
    exact ⟨by rw [HB.out HQ.out]; rfl, HB1.out⟩
  . have HQ := LH hq; clear hq
    by_cases h0 : t = 0
    . subst h0
      go_wp2
      go_ret2
      exact ⟨by rw [← HRR.out, HZ.out HQ.out]; rfl, HB1.out⟩
    . have h0' : (t == 0) = false := by simp [h0]
      have H0 := LH h0; clear h0
      by_cases hr : 1 <= t /\ t <= l.length
      . obtain ⟨u, hu⟩ : ∃ u : Nat, t = u + 1 := ⟨(t - 1).toNat, by omega⟩
        subst hu
        have hul : u < l.length := by omega
        have HI2 : Hid (posB l (u + 1) = (!(l[u]).codata, 0)) := posB_in HQ.out hul
        clear hr
        go_wp2_with fail
        (with_reducible refine (declared_in _ _ _ _ HR1.out hul).mono ?_)
        rintro e w2 ⟨⟨va, rfl, hx⟩, hb⟩
        have HB2 := LH (HB1.out.tr hb); clear hb
        generalize l[u] = d at *
        obtain ⟨A2, c2, rfl, -⟩ := hx.form
        clear hx
        go_wp2
        go_ret2
        exact ⟨by rw [← HRR.out, HI2.out]; rfl, HB2.out.tr (Ext.al _ _)⟩
      . have HO2 := LH (HO.out HQ.out H0.out hr)
        go_wp2_with fail
        (with_reducible refine (declared_out _ _ _ _ HR1.out hr).mono ?_)
        rintro e w2 ⟨rfl, hb⟩
        have HB2 := LH (HB1.out.tr hb); clear hb
        clear hr
        go_wp2
        go_ret2
        exact ⟨by rw [HO2.out]; rfl, HB2.out.tr (Ext.al _ _)⟩
end Go.Proofs.YtkdglplfcpindaaGreatDoor

namespace Go.Proofs.YtkdglplfcpindaaGreatDoor
open Go.RowKit
def upL (P : Pg) (k : Nat) : List Value := (List.range k).map (fun i : Nat => Value.bool (lazyB P (i : Int))) ++ List.replicate (P.decls.length + 1 - k) (Value.bool false)
theorem upL_length {P : Pg} {k : Nat} (h : k <= P.decls.length + 1) : (upL P k).length = P.decls.length + 1 := by simp [upL]; omega
theorem upL_step {P : Pg} {k : Nat} (h : k < P.decls.length + 1) : (upL P k).set k (.bool (lazyB P (k : Int))) = upL P (k + 1) := by
  unfold upL
  rw [List.set_append]
  have h0 : ((List.range k).map (fun i : Nat => Value.bool (lazyB P (i : Int)))).length = k := by simp
  have h1 : ¬ k < ((List.range k).map (fun i : Nat => Value.bool (lazyB P (i : Int)))).length := by omega
  rw [if_neg h1, List.range_succ, List.map_append, List.append_assoc]
  congr 1
  have h2 : k - ((List.range k).map (fun i : Nat => Value.bool (lazyB P (i : Int)))).length = 0 := by omega
  rw [h2, show P.decls.length + 1 - k = (P.decls.length + 1 - (k + 1)) + 1 by omega, List.replicate_succ]
  rfl
theorem upL_zero (P : Pg) : upL P 0 = List.replicate (P.decls.length + 1) (Value.bool false) := by simp [upL]
theorem upL_end (P : Pg) : upL P (P.decls.length + 1) = (List.range (P.decls.length + 1)).map (fun i : Nat => Value.bool (lazyB P (i : Int))) := by simp [upL]
def VBlk (w : World) (g T : Nat) (S : List Value) : Prop := w.heap[g]? = some (.cells S.toArray T (0, 0))
section
variable {w w' : World} {g T : Nat} {S : List Value}
theorem VBlk.lt (h : VBlk w g T S) : g < w.heap.size := (Array.getElem?_eq_some_iff.1 h).1
theorem VBlk.ext (h : VBlk w g T S) (hb : Ext w w') : VBlk w' g T S := (hb.block g h.lt).trans h
theorem VBlk.cell (h : VBlk w g T S) {i : Nat} (hi : i < S.length) : w.cell? ⟨g, i, none⟩ = some S[i] := by
  unfold VBlk at h
  simp [World.cell?, h, hi]
theorem VBlk.frozen (h : VBlk w g T S) (i : Nat) : w.frozen? ⟨g, i, none⟩ = false := by
  unfold VBlk at h
  simp [World.frozen?, h]
theorem VBlk.set (h : VBlk w g T S) (i : Nat) (b : Value) : VBlk (w.setCell ⟨g, i, none⟩ b) g T (S.set i b) := by
  unfold VBlk at h ⊢
  simp [World.setCell, Array.getElem?_modify, h]
end
theorem Tryz.infoBo : (Tryz.prog.info? 4).map (fun i => (i.zero, i.size, i.bytes)) = some (some (.bool false), 1, 1) := by kernel_rfl
theorem Tryz.underlyingBs : Tryz.prog.underlying 86 = some (.slice 4) := by kernel_rfl
theorem made_bools (n : Nat) : madeCells #[Value.bool false] n = (List.replicate n (Value.bool false)).toArray := by
  apply Array.ext
  . simp [size_madeCells]
  . intro i h1 h2
    have hz : (#[Value.bool false] : Array Value)[0]! = Value.bool false := rfl
    simp [madeCells, Nat.mod_one]
theorem make_bools (w : World) (n : Nat) (h : n <= 1000000) : (Instr.makeSlice 86 (.int .i64 ((n : Int) + 1)) (.int .i64 ((n : Int) + 1))).run Tryz.prog w = .ok (.slice (some ⟨w.heap.size, 0, none⟩) (n + 1) (n + 1)) (w.alloc (.cells (Array.replicate (n + 1) (Value.bool false)) 4)) := by
  obtain ⟨i0, hi, hz0, hz1, hz2⟩ := info_parts Tryz.infoBo
  have := run_make w 86 4 i0 (.bool false) Tryz.underlyingBs hi hz0 .i64 .i64 ((n : Int) + 1) ((n : Int) + 1) (by omega) (by omega) (by rw [hz2]; omega) (by omega)
  rw [this, hz1]
  simp only [show ((n : Int) + 1).toNat = n + 1 by omega, Nat.mul_one]
  rw [show (Value.bool false).cells = #[Value.bool false] from rfl, made_bools, List.toArray_replicate]
theorem lazy_pos {P : Pg} (h : validB P.decls = true) {j : Nat} (hj : j <= P.decls.length) : (posB P.decls (j : Int)).1 = !lazyB P (j : Int) := by
  cases j with
  | zero => rw [show ((0 : Nat) : Int) = 0 from rfl, posB_zero h]; rfl
  | succ k =>
    have e : ((k + 1 : Nat) : Int) = (k : Int) + 1 := by omega
    rw [e, posB_in h (show k < P.decls.length by omega)]
    unfold lazyB declAt
    rw [show ((k : Int) + 1 - 1).toNat = k by omega, List.getD_eq_getElem?_getD, List.getElem?_eq_getElem (show k < P.decls.length by omega)]
    have : ¬ ((k : Int) + 1 = 0) := by omega
    simp [this]
theorem nm_world (P : Pg) (w : World) (vd vf : Value) (fuel : Nat) :
    (((w.alloc (.cells #[vd, vf] 25)).alloc (.cells (Array.replicate (P.decls.length + 1) (Value.bool false)) 4)).alloc (.cells #[vd, vf, .slice (some ⟨w.heap.size + 1, 0, none⟩) (P.decls.length + 1) (P.decls.length + 1), .int .i64 fuel, .int .i64 0, .int .i64 0, .slice none 0 0, .int .i64 0] 88)).drew.heap[w.heap.size]? = some (.cells #[vd, vf] 25 (0, 0)) ∧
    VBlk (((w.alloc (.cells #[vd, vf] 25)).alloc (.cells (Array.replicate (P.decls.length + 1) (Value.bool false)) 4)).alloc (.cells #[vd, vf, .slice (some ⟨w.heap.size + 1, 0, none⟩) (P.decls.length + 1) (P.decls.length + 1), .int .i64 fuel, .int .i64 0, .int .i64 0, .slice none 0 0, .int .i64 0] 88)).drew (w.heap.size + 1) 4 (upL P 0) ∧
    MB (((w.alloc (.cells #[vd, vf] 25)).alloc (.cells (Array.replicate (P.decls.length + 1) (Value.bool false)) 4)).alloc (.cells #[vd, vf, .slice (some ⟨w.heap.size + 1, 0, none⟩) (P.decls.length + 1) (P.decls.length + 1), .int .i64 fuel, .int .i64 0, .int .i64 0, .slice none 0 0, .int .i64 0] 88)).drew (w.heap.size + 1 + 1) vd vf (.slice (some ⟨w.heap.size + 1, 0, none⟩) (P.decls.length + 1) (P.decls.length + 1)) (.slice none 0 0) fuel 0 0 0 ∧
    Ext w (((w.alloc (.cells #[vd, vf] 25)).alloc (.cells (Array.replicate (P.decls.length + 1) (Value.bool false)) 4)).alloc (.cells #[vd, vf, .slice (some ⟨w.heap.size + 1, 0, none⟩) (P.decls.length + 1) (P.decls.length + 1), .int .i64 fuel, .int .i64 0, .int .i64 0, .slice none 0 0, .int .i64 0] 88)).drew := by
  obtain ⟨q0, q1, q2, -, q4⟩ := bx5_three w (.cells #[vd, vf] 25) (.cells (Array.replicate (P.decls.length + 1) (Value.bool false)) 4) (.cells #[vd, vf, .slice (some ⟨w.heap.size + 1, 0, none⟩) (P.decls.length + 1) (P.decls.length + 1), .int .i64 fuel, .int .i64 0, .int .i64 0, .slice none 0 0, .int .i64 0] 88)
  refine ⟨q0, ?_, q2, q4.drew⟩
  unfold VBlk
  rw [upL_zero, List.toArray_replicate]
  exact q1
set_option maxHeartbeats 4000000 in
theorem newMachine_any (P : Pg) (w : World) (vd vf : Value) (fuel : Nat) (hP : progB P = true) (hv : validB P.decls = true) (hdl : P.decls.length <= 1000) (hd : RDecls w vd P.decls) (hf : RFns w vf P.funs) :
    Calls Tryz.prog 23 #[.agg #[vd, vf], .int .i64 fuel] w fun e w' => ∃ mb lz, e = .returned (.pointer (some ⟨mb, 0, none⟩)) /\ MC P w w' (turns mb (.slice none 0 0)) mb vd vf lz (.slice none 0 0) fuel 0 0 0 := by
  have HP := LH hP
  have HV := LH hv
  have HD := LH hd
  have HF := LH hf
  obtain ⟨Ad, cd, rfl, hcd, hmd⟩ := hd.form
  obtain ⟨Af, cf, rfl, hcf, hmf⟩ := hf.form
  unfold maxLen at hmd hmf
  have hmk := fun W => make_bools W P.decls.length (by omega)
  have hb0 := hNw w (.cells #[.slice Ad P.decls.length cd, .slice Af P.funs.length cf] 25)
  have c0 := cA hb0 0
  have c1 := cA hb0 1
  have HNW := LH (nm_world P w (.slice Ad P.decls.length cd) (.slice Af P.funs.length cf) fuel)
  clear hP hv hd hf hb0
  go_enter Tryz.func23, Tryz.ntmps23
  go_wp2
  go_region
  clear c0 c1 hmk
  generalize World.drew _ = w1 at *
  obtain ⟨-, -, m0, -⟩ := HNW.out.2.2.1.cells
  have n0 := cA HNW.out.1 0
  go_wp2
  clear m0 n0
  go_loopw [23] (fun i wr => ∃ j : Nat, j <= P.decls.length + 1 /\ i = .int .i64 j /\ VBlk wr (w.heap.size + 1) 4 (upL P j) /\ wr.heap[w.heap.size]? = some (.cells #[.slice Ad P.decls.length cd, .slice Af P.funs.length cf] 25 (0, 0)) /\ MB wr (w.heap.size + 1 + 1) (.slice Ad P.decls.length cd) (.slice Af P.funs.length cf) (.slice (some ⟨w.heap.size + 1, 0, none⟩) (P.decls.length + 1) (P.decls.length + 1)) (.slice none 0 0) fuel 0 0 0 /\ Ext w wr) (fun i _ => P.decls.length + 1 - (intOf i).toNat)
  case atStart => exact ⟨0, Nat.zero_le _, rfl, HNW.out.2.1, HNW.out.1, HNW.out.2.2.1, HNW.out.2.2.2⟩
  case round =>
    obtain ⟨j, hj, rfl, hB, hbx, hm, hE⟩ := hrel
    have HBk := LH hB
    have HG2 := LH hbx
    have HMk := LH hm
    have HEk := LH hE
    clear hB hbx hm hE
    by_cases hlt : j < P.decls.length + 1
    . have n0 := cA HG2.out 0
      have HPZ := LH (lazy_pos HV.out (show j <= P.decls.length by omega))
      go_wp2_with fail
      (with_reducible refine (Positive_any _ P.decls (j : Int) _ (HD.out.below HEk.out)).mono ?_)
      rintro e w3 ⟨rfl, hb⟩
      have HE3 := LH (HEk.out.tr hb)
      have HB3 := LH (HBk.out.ext hb)
      have HG3 := LH ((hb.block _ (hLt HG2.out)).trans HG2.out)
      have HM3 := LH (HMk.out.ext hb)
      have HPZ2 := HPZ
      generalize (posB P.decls (j : Int)).1 = zb at *
      generalize (posB P.decls (j : Int)).2 = ze at *
      have HS := LH (upL_step hlt)
      have HLN : Hid (j < (upL P j).length) := by show j < _; rw [upL_length hj]; exact hlt
      generalize hS : upL P j = S at *
      clear hS hb n0
      obtain ⟨-, -, m0, -⟩ := HM3.out.cells
      have hcell := HB3.out.cell HLN.out
      have hfz := HB3.out.frozen j
      go_wp2
      go_roundw
      case rel => exact ⟨j + 1, by omega, by go_num, by rw [← HS.out, ← Bool.not_not (lazyB P (j : Int)), ← HPZ.out]; exact HB3.out.set j _, s5o HG3.out (by omega) j _, s5o HM3.out (by omega) j _, Below.setCell HE3.out (p := ⟨w.heap.size + 1, j, none⟩) (Nat.le_succ _) _⟩
      case measure => simp [intOf]; omega
    . have HK : Hid (VBlk wr (w.heap.size + 1) 4 ((List.range (P.decls.length + 1)).map (fun i : Nat => Value.bool (lazyB P (i : Int))))) := by
        have := HBk.out
        rw [show j = P.decls.length + 1 by omega, upL_end] at this
        exact this
      go_wp2
      go_ret
      refine ⟨_, _, rfl, HP.out, HEk.out, ?_, ?_, .inl rfl, HMk.out, ?_, HD.out, HF.out⟩
      . rintro b (rfl | hb)
        . exact hLt HMk.out
        . simp [Value.ownBlock] at hb
      . omega
      . refine ⟨_, _, rfl, Nat.le_refl _, by unfold maxLen; omega, ?_, fun i hi => ?_⟩
        . rintro (h | h)
          . omega
          . simp [Value.ownBlock] at h
        . rw [HK.out.cell (by simp; omega)]
          simp
end Go.Proofs.YtkdglplfcpindaaGreatDoor

namespace Go.Proofs.YtkdglplfcpindaaGreatDoor
open Go.RowKit
def srcP (l : List Decl) : Bool × Int := if validB l then (srcB l, 0) else (false, 10)
theorem Source_any (v : Value) (l : List Decl) (w : World) (h : RDecls w v l) :
    Calls Tryz.prog 63 #[v] w fun e w' => e = .returned (.tuple #[.bool (srcP l).1, .int .i64 (srcP l).2]) /\ Ext w w' := by
  have HS : Hid (srcB l = l.all srcD) := rfl
  have HC : Hid (srcP l = if validB l then (srcB l, 0) else (false, 10)) := rfl
  generalize hrr : srcP l = rr at *
  clear hrr
  have HR := LH h
  obtain ⟨A, c, rfl, hc, hm⟩ := h.form
  clear h
  unfold maxLen at hm
  go_enter Tryz.func63, Tryz.ntmps63
  go_wp2_with fail
  (with_reducible refine (valid_any _ _ _ HR.out).mono ?_)
  rintro e w1 ⟨rfl, hb⟩
  have HB1 := LH hb; clear hb
  cases hq : validB l
  . have HQ := LH hq; clear hq
    go_wp2
    go_ret2
    exact ⟨by rw [HC.out, HQ.out]; rfl, HB1.out⟩
  . have HQ := LH hq; clear hq
    go_wp2
    have HR1 := LH (HR.out.below HB1.out)
    go_loopw [11] (fun i wr => ∃ k : Nat, k <= l.length /\ i = .int .i64 k /\ Ext w1 wr /\ l.all srcD = (l.drop k).all srcD) (fun i _ => l.length - (intOf i).toNat)
    case atStart => exact ⟨0, Nat.zero_le _, rfl, Ext.rf _, by simp⟩
    case round =>
      obtain ⟨k, hk, rfl, hb, hno⟩ := hrel
      have HN := LH hno; have HB := LH hb; clear hno hb
      by_cases hlt : k < l.length
      . have HRk := LH (HR1.out.below HB.out)
        obtain ⟨b, o, vx, rfl, hbl, h0, h1, h2, h3, h4⟩ := HRk.out.at_ hlt
        have HD := LH (dS hlt)
        generalize l[k] = d at *
        obtain ⟨A2, c2, rfl, -⟩ := h3.form
        have HW := LH (Ext.al wr (Obj.cells #[Value.string d.name, Value.bool d.codata, Value.slice A2 d.xtors.length c2] 137))
        have HX : Hid (RDecl _ _ d) := ⟨_, rfl, h3.below HW.out, h4⟩
        clear h3
        go_wp2_with fail
        (with_reducible refine (isSource_any _ _ _ HX.out).mono ?_)
        rintro e w3 ⟨rfl, hb3⟩
        have HW3 := LH ((HB.out.tr HW.out).tr hb3); clear hb3
        cases hq : srcD d
        . have HQ3 := LH hq; clear hq
          go_wp2
          go_ret2
          exact ⟨by rw [HC.out, HQ.out, HS.out, HN.out, HD.out, List.all_cons, HQ3.out]; rfl, HB1.out.tr HW3.out⟩
        . have HQ3 := LH hq; clear hq
          go_wp2
          go_roundw
          case rel => exact ⟨k + 1, by omega, by go_num, HW3.out, by rw [HN.out, HD.out, List.all_cons, HQ3.out]; rfl⟩
          case measure => simp [intOf]; omega
      . go_wp2
        go_ret2
        exact ⟨by rw [HC.out, HQ.out, HS.out, HN.out, drop_end hlt]; rfl, HB1.out.tr HB.out⟩
end Go.Proofs.YtkdglplfcpindaaGreatDoor

namespace Go.Proofs.YtkdglplfcpindaaGreatDoor
open Go.RowKit
theorem srcP_fst (l : List Decl) : (srcP l).1 = (validB l && srcB l) := by
  unfold srcP; cases validB l <;> rfl
theorem sizes_each0 : ∀ (n : Int) (l : List Fn), sizesB n l = true -> ∀ f ∈ l, (nodesL 1 f.body).length <= 600
  | n, [], _, f, hf => by cases hf
  | n, g :: r, h, f, hf => by
    rw [sizesB, Bool.and_eq_true] at h
    rcases List.mem_cons.1 hf with rfl | hf
    . have h1 := h.1
      unfold sizeR at h1
      split at h1
      . rename_i h2
        unfold sizeOK at h2
        simp only [Bool.and_eq_true, decide_eq_true_eq] at h2
        exact h2.1
      . cases h1
    . exact sizes_each0 _ r h.2 f hf
theorem FinePg.each {P : Pg} (h : FinePg P) : ∀ f ∈ P.funs, FineF P f.body := h
theorem headD_at {l : List Fn} (h : 0 < l.length) : l.headD noFn = l[0] := by
  cases l with
  | nil => simp at h
  | cons a b => rfl
set_option maxHeartbeats 4000000 in
theorem validProg_any (P : Pg) (vd vf : Value) (w : World) (hd : RDecls w vd P.decls) (hf : RFns w vf P.funs) (hfine : FinePg P) :
    Calls Tryz.prog 40 #[pV vd vf] w fun e w' => e = .returned (.bool (progB P)) /\ Ext w w' := by
  have HD := LH hd; have HF := LH hf; have HFI := LH hfine
  have HPB : Hid (progB P = ((validB P.decls && srcB P.decls) && (decide (1 <= P.funs.length) && decide (P.funs.length <= 12) && distB (P.funs.map Fn.nm)) && (mainB (P.funs.headD noFn) && sizesB 0 P.funs) && P.funs.all (funB P))) := rfl
  generalize progB P = rr at *
  obtain ⟨Ad, cd, rfl, -, -⟩ := hd.form
  obtain ⟨Af, cf, rfl, hcf, hmf⟩ := hf.form
  clear hd hf hfine
  unfold maxLen at hmf
  have HE := LH (Ext.al w (.cells #[.slice Ad P.decls.length cd, .slice Af P.funs.length cf] 25))
  have HB0 := LH (hNw w (.cells #[.slice Ad P.decls.length cd, .slice Af P.funs.length cf] 25))
  go_enter Tryz.func40, Tryz.ntmps40
  go_wp2_with fail
  generalize w.alloc _ = w1 at *
  (with_reducible refine (Source_any _ P.decls _ (HD.out.below HE.out)).mono ?_)
  rintro e w2 ⟨rfl, hb⟩
  have HE2 := LH (HE.out.tr hb)
  have HB2 := LH ((hb.block _ (hLt HB0.out)).trans HB0.out)
  clear hb
  have HS := LH (srcP_fst P.decls)
  generalize (srcP P.decls).1 = q1 at *
  generalize (srcP P.decls).2 = q2 at *
  have c0 := cA HB2.out 0
  have c1 := cA HB2.out 1
  cases q1
  . go_wp2
    go_ret
    exact ⟨rB (by rw [HPB.out, ← HS.out]; rfl), HE2.out⟩
  . have HVB : Hid (validB P.decls = true) := by
      have h := HS.out.symm
      rw [Bool.and_eq_true] at h
      exact h.1
    by_cases h1 : 1 <= P.funs.length
    . by_cases h12 : P.funs.length <= 12
      . have H1 := LH h1; have H12 := LH h12
        have HN1 : Hid ((P.funs.length : Int) < 1 -> False) := fun h => by omega
        have HN2 : Hid ((12 : Int) < P.funs.length -> False) := fun h => by omega
        go_wp2_with fail
        (with_reducible refine (funNames_any _ P.funs _ (HF.out.below HE2.out) (by omega)).mono ?_)
        rintro e w3 ⟨rfl, hs, hb3⟩
        have HE3 := LH (HE2.out.tr hb3)
        have HB3 := LH ((hb3.block _ (hLt HB2.out)).trans HB2.out)
        have HSR : Hid (RStrs w3 (.slice (some ⟨w2.heap.size, 0, none⟩) P.funs.length P.funs.length) (P.funs.map Fn.nm)) := by
          have q := SBlk.reads hs (by unfold maxLen; simp; omega) (RFns.names_le HF.out)
          rw [List.length_map] at q
          exact q
        clear hs hb3 c0 c1
        go_wp2_with fail
        (with_reducible refine (distinct_any _ (P.funs.map Fn.nm) _ HSR.out).mono ?_)
        rintro e w4 ⟨rfl, hb4⟩
        have HE4 := LH (HE3.out.tr hb4)
        have HB4 := LH ((hb4.block _ (hLt HB3.out)).trans HB3.out)
        clear hb4
        have c0 := cA HB4.out 0
        have c1 := cA HB4.out 1
        cases qd : distB (P.funs.map Fn.nm)
        . have HQ := LH qd
          clear qd
          go_wp2
          go_ret
          exact ⟨rB (by rw [HPB.out, HQ.out]; simp), HE4.out⟩
        . have HQD := LH qd
          clear qd
          have hlt0 : 0 < P.funs.length := h1
          have HH := LH (headD_at hlt0)
          have HAT := LH (HF.out.below HE4.out)
          obtain ⟨b, o, vp, xa, xc, kf, rfl, hbl, y0, y1, y2, yc, y3, y4, y5⟩ := HAT.out.at_ hlt0
          have HP := LH y4
          have c30 := yc.c0
          have c31 := yc.c1
          have c32 := yc.c2
          have c33 := yc.c3
          have c34 := yc.c4
          have c35 := yc.c5
          have h0i : (0 : Int) < P.funs.length := by omega
          have HBL := LH hbl
          generalize P.funs[0] = f0 at *
          simp only [Nat.zero_mul, Nat.add_zero] at *
          go_wp2_with fail
          (with_reducible refine (isMain_any f0 vp xa xc _ HP.out).mono ?_)
          rintro e w5 ⟨rfl, hb5⟩
          have HE5 := LH (HE4.out.tr hb5)
          have HB5 := LH ((hb5.block _ (hLt HB4.out)).trans HB4.out)
          clear hb5 c0 c1 y0 y1 y2 yc y3 y4 y5 c30 c31 c32 c33 c34 c35
          have c0 := cA HB5.out 0
          have c1 := cA HB5.out 1
          cases qm : mainB f0
          . have HQ := LH qm
            clear qm
            go_wp2
            go_ret
            exact ⟨rB (by rw [HPB.out, HH.out, HQ.out]; simp), HE5.out⟩
          . have HQM := LH qm
            clear qm
            go_wp2_with fail
            (with_reducible refine (validSize_any _ P.funs _ (HF.out.below HE5.out) (by omega) HFI.out.each).mono ?_)
            rintro e w6 ⟨rfl, hb6⟩
            have HE6 := LH (HE5.out.tr hb6)
            have HB6 := LH ((hb6.block _ (hLt HB5.out)).trans HB5.out)
            clear hb6 c0 c1
            have c0 := cA HB6.out 0
            have c1 := cA HB6.out 1
            cases qs : sizesB 0 P.funs
            . have HQ := LH qs
              clear qs
              go_wp2
              go_ret
              exact ⟨rB (by rw [HPB.out, HQ.out]; simp), HE6.out⟩
            . have HQS := LH qs
              clear qs
              go_wp2
              have HALL : Hid (rr = P.funs.all (funB P)) := by
                show _ = _
                rw [HPB.out, ← HS.out, decide_eq_true H1.out, decide_eq_true H12.out, HQD.out, HH.out, HQM.out, HQS.out]; rfl
              clear h0i HN1 HN2 hbl
              go_loopw [47] (fun i wr => ∃ k : Nat, k <= P.funs.length /\ i = .int .i64 k /\ Ext w6 wr /\ P.funs.all (funB P) = (P.funs.drop k).all (funB P)) (fun i _ => P.funs.length - (intOf i).toNat)
              case atStart => exact ⟨0, Nat.zero_le _, rfl, Ext.rf _, by simp⟩
              case round =>
                obtain ⟨k, hk, rfl, hb, hno⟩ := hrel
                have HB := LH hb; have HN := LH hno
                have b0 := (hb.block _ (hLt HB6.out)).trans HB6.out
                clear hb hno c0 c1
                by_cases hlt : k < P.funs.length
                . have HAT2 := LH (HF.out.below (HE6.out.tr HB.out))
                  obtain ⟨b', o', vp, xa, xc, kf, he, hbl, y0, y1, y2, yc, y3, y4, y5⟩ := HAT2.out.at_ hlt
                  cases he
                  obtain ⟨Ap, cp, rfl, -, -⟩ := y4.form
                  have HP := LH y4; have HT := LH y5
                  obtain ⟨_, ⟨Aa, ca, rfl, -, -⟩, ⟨Bb, cb, rfl, -, -⟩⟩ := y5.form
                  have HFF := LH (HFI.out _ (List.getElem_mem hlt))
                  have HZZ : Hid ((nodesL 1 (P.funs[k]).body).length <= 600) := sizes_each0 _ _ HQS.out _ (List.getElem_mem hlt)
                  have c30 := yc.c0
                  have c31 := yc.c1
                  have c32 := yc.c2
                  have c33 := yc.c3
                  have c34 := yc.c4
                  have c35 := yc.c5
                  have HDk := LH (dS hlt)
                  generalize P.funs[k] = f at *
                  have hE7 := Ext.al wr (.cells #[.string f.nm, .slice Ap f.ps.length cp, .int .i64 f.res, .int .i64 f.body.op, .int .i64 f.body.n, .string f.body.nm, .int .i64 f.body.ty, .slice Aa f.body.args.length ca, .slice Bb f.body.cls.length cb] 52)
                  have d0 := hE7.keep (cA b0 0)
                  have d1 := hE7.keep (cA b0 1)
                  have HE7 := LH hE7
                  clear hE7 b0 y4 y5 yc y3
                  go_wp2_with fail
                  (with_reducible refine (validFun_any P _ _ f _ _ _ kf _ (HD.out.below ((HE6.out.tr HB.out).tr HE7.out)) (HF.out.below ((HE6.out.tr HB.out).tr HE7.out)) (HP.out.below HE7.out) (HT.out.below HE7.out) HFF.out HVB.out HZZ.out).mono ?_)
                  generalize wr.alloc _ = w7 at *
                  rintro e w8 ⟨rfl, hb8⟩
                  have HE8 := LH ((HB.out.tr HE7.out).tr hb8)
                  clear hb8
                  cases qf : funB P f
                  . have HQ2 := LH qf
                    clear qf
                    go_wp2
                    go_ret
                    exact ⟨rB (by rw [HALL.out, HN.out, HDk.out, List.all_cons, HQ2.out]; rfl), HE6.out.tr HE8.out⟩
                  . have HQ2 := LH qf
                    clear qf
                    go_wp2
                    go_roundw
                    case rel => exact ⟨k + 1, by omega, by go_num, HE8.out, by rw [HN.out, HDk.out, List.all_cons, HQ2.out]; rfl⟩
                    case measure => simp [intOf]; omega
                . have HK := LH (drop_end hlt)
                  go_wp2
                  go_ret
                  exact ⟨rB (by rw [HALL.out, HN.out, HK.out]; rfl), HE6.out.tr HB.out⟩
      . have hq : decide (P.funs.length <= 12) = false := decide_eq_false h12
        have HQ := LH hq
        clear hq
        go_wp2
        go_ret
        exact ⟨rB (by rw [HPB.out, HQ.out]; simp), HE2.out⟩
    . have hq : decide (1 <= P.funs.length) = false := decide_eq_false h1
      have HQ := LH hq
      clear hq
      go_wp2
      go_ret
      exact ⟨rB (by rw [HPB.out, HQ.out]; simp), HE2.out⟩
set_option maxHeartbeats 1000000 in
theorem Check_any (P : Pg) (vd vf : Value) (w : World) (hd : RDecls w vd P.decls) (hf : RFns w vf P.funs) (hfine : FinePg P) :
    Calls Tryz.prog 22 #[pV vd vf] w fun e w' => e = .returned (.int .i64 (chkP P)) /\ Ext w w' := by
  have HD := LH hd; have HF := LH hf; have HFI := LH hfine
  have HC : Hid (chkP P = if progB P then 0 else 20) := rfl
  generalize chkP P = rr at *
  clear hd hf hfine
  have HE := LH (Ext.al w (.cells #[vd, vf] 25))
  have HB0 := LH (hNw w (.cells #[vd, vf] 25))
  have c0 := cA HB0.out 0
  have c1 := cA HB0.out 1
  go_enter Tryz.func22, Tryz.ntmps22
  go_wp2_with fail
  generalize w.alloc _ = w1 at *
  (with_reducible refine (validProg_any P vd vf _ (HD.out.below HE.out) (HF.out.below HE.out) HFI.out).mono ?_)
  rintro e w2 ⟨rfl, hb⟩
  have HB2 := LH (HE.out.tr hb)
  clear hb c0 c1
  cases q : progB P
  . have HQ := LH q
    clear q
    go_wp2
    go_ret
    exact ⟨ret_int (by rw [HC.out, HQ.out]; rfl), HB2.out⟩
  . have HQ := LH q
    clear q
    go_wp2
    go_ret
    exact ⟨ret_int (by rw [HC.out, HQ.out]; rfl), HB2.out⟩
end Go.Proofs.YtkdglplfcpindaaGreatDoor

namespace Go.Proofs.YtkdglplfcpindaaGreatDoor
open Go.RowKit
theorem prog_vld5 {P : Pg} (h : progB P = true) : validB P.decls = true := by
  unfold progB at h
  simp only [Bool.and_eq_true] at h
  exact h.1.1.1.1
def zeroRun : Value := .agg #[.int .i64 0, .int .i64 0, .slice none 0 0, .int .i64 0]
def runE (P : Pg) (fuel : Int) (n : Nat) : Int := if progB P then (if fuel < 0 ∨ 20000 < fuel ∨ n ≠ (fnAt P 0).ps.length then 1 else 0) else 20
def RunR (P : Pg) (w0 : World) (fuel : Int) (inputs : List Int) (e : Ending) (w' : World) : Prop :=
  if runE P fuel inputs.length = 0 then ∃ r ov, (RunsTo P fuel.toNat (startS P inputs) r /\ OkR r) /\ e = .returned (.tuple #[.agg #[.int .i64 r.stop, .int .i64 r.val, ov, .int .i64 r.steps], .int .i64 0]) /\ OwnL w' w0.heap.size ov r.outs /\ Ext w0 w'
  else e = .returned (.tuple #[zeroRun, .int .i64 (runE P fuel inputs.length)]) /\ Ext w0 w'
set_option maxHeartbeats 4000000 in
theorem run_any (P : Pg) (w : World) (vd vf vi : Value) (fuel : Int) (inputs : List Int) (hd : RDecls w vd P.decls) (hf : RFns w vf P.funs) (hfine : FinePg P) (hI : RInts w vi inputs) (h64 : ∀ n ∈ inputs, ok64 n) :
    Calls Tryz.prog 9 #[.agg #[vd, vf], .int .i64 fuel, vi] w (RunR P w fuel inputs) := by
  have HD := LH hd
  have HF := LH hf
  have HFI := LH hfine
  have HI := LH hI
  have H64 := LH h64
  obtain ⟨Ad, cd, rfl, hcd, hmd⟩ := hd.form
  obtain ⟨Af, cf, rfl, hcf, hmf⟩ := hf.form
  obtain ⟨Ai, ci, rfl, hci, hmi⟩ := hI.form
  unfold maxLen at hmd hmf hmi
  obtain ⟨g1, g2, g3, g4⟩ := bx5_two w (.cells #[.slice Ad P.decls.length cd, .slice Af P.funs.length cf] 25) (.cells #[.int .i64 0, .int .i64 0, .slice none 0 0, .int .i64 0] 30)
  have HB := LH g1
  have HG := LH g2
  have HE := LH g4
  have c0 := cA g1 0
  have c1 := cA g1 1
  clear hd hf hfine hI h64 g1 g2 g3 g4
  go_enter Tryz.func9, Tryz.ntmps9
  go_wp2_with fail
  generalize World.alloc (World.alloc w _) _ = w1 at *
  (with_reducible refine (Check_any P _ _ _ (HD.out.below HE.out) (HF.out.below HE.out) HFI.out).mono ?_)
  rintro e w2 ⟨rfl, hb⟩
  have HE2 := LH (HE.out.tr hb)
  have HB2 := LH ((hb.block _ (hLt HB.out)).trans HB.out)
  have HG2 := LH ((hb.block _ (hLt HG.out)).trans HG.out)
  clear hb c0 c1
  have g0 := cA HG2.out 0
  have g1 := cA HG2.out 1
  have g2 := cA HG2.out 2
  have g3 := cA HG2.out 3
  have k0 := fA HG2.out 0
  have k1 := fA HG2.out 1
  have k2 := fA HG2.out 2
  have k3 := fA HG2.out 3
  have b0 := cA HB2.out 0
  have b1 := cA HB2.out 1
  have HZZ := LH (box4_all HG2.out (.int .i64 0) (.int .i64 0) (.slice none 0 0) (.int .i64 0))
  have HOZ : Hid (Ext w ((((w2.setCell ⟨w.heap.size + 1, 0, none⟩ (.int .i64 0)).setCell ⟨w.heap.size + 1, 1, none⟩ (.int .i64 0)).setCell ⟨w.heap.size + 1, 2, none⟩ (.slice none 0 0)).setCell ⟨w.heap.size + 1, 3, none⟩ (.int .i64 0))) := HE2.out.trans ((only4_set w2 (w.heap.size + 1) (.int .i64 0) (.int .i64 0) (.slice none 0 0) (.int .i64 0)).below HE2.out.size (fun b hb => hb ▸ Nat.le_succ _))
  cases hq : progB P
  . have HQ := LH hq; clear hq
    have HC : Hid (chkP P = 20) := by show _ = _; unfold chkP; rw [HQ.out]; rfl
    rw [HC.out]
    have HRE : Hid (runE P fuel inputs.length = 20) := by show _ = _; unfold runE; rw [HQ.out]; rfl
    go_wp2
    clear g0 g1 g2 g3 k0 k1 k2 k3 b0 b1
    generalize World.setCell (World.setCell (World.setCell (World.setCell w2 _ _) _ _) _ _) _ _ = wz at *
    have q0 := cA HZZ.out 0
    have q1 := cA HZZ.out 1
    have q2 := cA HZZ.out 2
    have q3 := cA HZZ.out 3
    exact bodyPost_ret (v := .tuple #[.agg #[.int .i64 0, .int .i64 0, .slice none 0 0, .int .i64 0], .int .i64 20]) (by simp [results, Tryz.results9, go_sem, q0, q1, q2, q3]) rfl (by unfold RunR; rw [HRE.out, if_neg (by decide)]; exact ⟨rfl, HOZ.out⟩)
  . have HQ := LH hq; clear hq
    have HC : Hid (chkP P = 0) := by show _ = _; unfold chkP; rw [HQ.out]; rfl
    rw [HC.out]
    have hW : WFP false P := ⟨HQ.out, fun h => by cases h⟩
    have hpos : 0 < P.funs.length := List.length_pos_of_mem (main_ok HQ.out).1
    have HFA : Hid (fnAt P 0 = P.funs[0]) := by show _ = _; unfold fnAt; rw [List.getD_eq_getElem?_getD, show ((0 : Int)).toNat = 0 from rfl, List.getElem?_eq_getElem hpos]; rfl
    have HPL : Hid ((P.funs[0]).ps.length <= 1000) := by show _ <= _; have := (prog_fn HQ.out (main_ok HQ.out).1).1; rw [HFA.out] at this; omega
    have HR2 : Hid (runE P fuel inputs.length = if fuel < 0 ∨ 20000 < fuel ∨ inputs.length ≠ (P.funs[0]).ps.length then 1 else 0) := by show _ = _; unfold runE; rw [HQ.out, HFA.out]; rfl
    obtain ⟨bf, of_, vp, xa, xc, rfl, -, hcf1, hcf2, f0, f1, f2, f3, hfn⟩ := HF.out.fn HE2.out hpos
    obtain ⟨-, hps, hbody⟩ := hfn
    obtain ⟨Ap, cp, rfl, hcp1, hcp2⟩ := hps.form
    rw [Nat.zero_mul, Nat.add_zero] at f1
    clear f0 f2 f3 hps hbody
    unfold maxLen at hcp2
    generalize P.funs[0] = f at *
    have HW := LH hW
    clear hW
    by_cases hf0 : fuel < 0
    . have HRE : Hid (runE P fuel inputs.length = 1) := by show _ = _; rw [HR2.out, if_pos (.inl hf0)]
      go_wp2
      clear g0 g1 g2 g3 k0 k1 k2 k3 b0 b1
      generalize World.setCell (World.setCell (World.setCell (World.setCell w2 _ _) _ _) _ _) _ _ = wz at *
      have q0 := cA HZZ.out 0
      have q1 := cA HZZ.out 1
      have q2 := cA HZZ.out 2
      have q3 := cA HZZ.out 3
      exact bodyPost_ret (v := .tuple #[.agg #[.int .i64 0, .int .i64 0, .slice none 0 0, .int .i64 0], .int .i64 1]) (by simp [results, Tryz.results9, go_sem, q0, q1, q2, q3]) rfl (by unfold RunR; rw [HRE.out, if_neg (by decide)]; exact ⟨rfl, HOZ.out⟩)
    . by_cases hf1 : 20000 < fuel
      . have HRE : Hid (runE P fuel inputs.length = 1) := by show _ = _; rw [HR2.out, if_pos (.inr (.inl hf1))]
        go_wp2
        clear g0 g1 g2 g3 k0 k1 k2 k3 b0 b1
        generalize World.setCell (World.setCell (World.setCell (World.setCell w2 _ _) _ _) _ _) _ _ = wz at *
        have q0 := cA HZZ.out 0
        have q1 := cA HZZ.out 1
        have q2 := cA HZZ.out 2
        have q3 := cA HZZ.out 3
        exact bodyPost_ret (v := .tuple #[.agg #[.int .i64 0, .int .i64 0, .slice none 0 0, .int .i64 0], .int .i64 1]) (by simp [results, Tryz.results9, go_sem, q0, q1, q2, q3]) rfl (by unfold RunR; rw [HRE.out, if_neg (by decide)]; exact ⟨rfl, HOZ.out⟩)
      . by_cases hf2 : inputs.length = f.ps.length
        . have HRE : Hid (runE P fuel inputs.length = 0) := by show _ = _; rw [HR2.out, if_neg (by omega)]
          obtain ⟨n, rfl⟩ : ∃ n : Nat, fuel = n := ⟨fuel.toNat, by omega⟩
          obtain ⟨r, hr⟩ := RunsTo.ex P n inputs
          have HR := LH hr
          have HF2 := LH hf2
          have HVD := LH (prog_vld5 HQ.out)
          have HDL : Hid (P.decls.length <= 1000) := by
            show _ <= _
            have := HVD.out
            unfold validB at this
            simp at this
            omega
          rw [← hf2] at f1
          clear hr hf2
          go_wp2_with fail
          (with_reducible refine (newMachine_any P w2 _ _ n HQ.out HVD.out HDL.out (HD.out.below HE2.out) (HF.out.below HE2.out)).mono ?_)
          rintro e w3 ⟨mb, lz, rfl, hm⟩
          have HM := LH hm
          clear hm
          go_wp2_with fail
          (with_reducible refine (start_any P w2 w3 mb _ _ _ _ n inputs r HW.out (by omega) HM.out (HI.out.below HE2.out) H64.out (by rw [HFA.out]; exact HF2.out) (by rw [HFA.out]; exact HPL.out) HR.out).mono ?_)
          rintro e w4 ⟨ov, rfl, ho, hx, hokr⟩
          have HOKR := LH hokr
          obtain ⟨Ao, co, rfl⟩ := oSL ho
          have HO := LH ho
          have HX := LH hx
          have HG4 := LH ((hx.block _ (hLt HG2.out)).trans HG2.out)
          clear ho hx g0 g1 g2 g3 k0 k1 k2 k3 b0 b1 HZZ HOZ
          have g0 := cA HG4.out 0
          have g1 := cA HG4.out 1
          have g2 := cA HG4.out 2
          have g3 := cA HG4.out 3
          have k0 := fA HG4.out 0
          have k1 := fA HG4.out 1
          have k2 := fA HG4.out 2
          have k3 := fA HG4.out 3
          have HZZ := LH (box4_all HG4.out (.int .i64 r.stop) (.int .i64 r.val) (.slice Ao r.outs.length co) (.int .i64 r.steps))
          have HO4 := LH (only4_set w4 (w.heap.size + 1) (.int .i64 r.stop) (.int .i64 r.val) (.slice Ao r.outs.length co) (.int .i64 r.steps))
          have HLT : Hid (w.heap.size + 1 < w2.heap.size) := hLt HG2.out
          go_wp2
          clear g0 g1 g2 g3 k0 k1 k2 k3
          generalize World.setCell (World.setCell (World.setCell (World.setCell w4 _ _) _ _) _ _) _ _ = wz at *
          have q0 := cA HZZ.out 0
          have q1 := cA HZZ.out 1
          have q2 := cA HZZ.out 2
          have q3 := cA HZZ.out 3
          exact bodyPost_ret (v := .tuple #[.agg #[.int .i64 r.stop, .int .i64 r.val, .slice Ao r.outs.length co, .int .i64 r.steps], .int .i64 0]) (by simp [results, Tryz.results9, go_sem, q0, q1, q2, q3]) rfl (by
            unfold RunR
            rw [if_pos HRE.out]
            exact ⟨r, _, ⟨HR.out, HOKR.out⟩, rfl, row5_at (own_base HO.out HE2.out.size) (fun b cur hb hcur => HO4.out.block b (hLt hcur) (fun e => Nat.lt_irrefl _ (Nat.lt_of_lt_of_le HLT.out (e ▸ (own_lt HO.out hb).1)))), (HE2.out.tr HX.out).trans (HO4.out.below (HE2.out.tr HX.out).size (fun b hb => hb ▸ Nat.le_succ _))⟩)
        . have HRE : Hid (runE P fuel inputs.length = 1) := by show _ = _; rw [HR2.out, if_pos (.inr (.inr hf2))]
          have hf3 : (((inputs.length : Int) == f.ps.length)) = false := by simp; omega
          have hf4 : (((inputs.length : Int) != f.ps.length)) = true := by simp; omega
          have hf5 : ¬ ((inputs.length : Int) = f.ps.length) := by omega
          go_wp2
          clear g0 g1 g2 g3 k0 k1 k2 k3 b0 b1
          generalize World.setCell (World.setCell (World.setCell (World.setCell w2 _ _) _ _) _ _) _ _ = wz at *
          have q0 := cA HZZ.out 0
          have q1 := cA HZZ.out 1
          have q2 := cA HZZ.out 2
          have q3 := cA HZZ.out 3
          exact bodyPost_ret (v := .tuple #[.agg #[.int .i64 0, .int .i64 0, .slice none 0 0, .int .i64 0], .int .i64 1]) (by simp [results, Tryz.results9, go_sem, q0, q1, q2, q3]) rfl (by unfold RunR; rw [HRE.out, if_neg (by decide)]; exact ⟨rfl, HOZ.out⟩)
end Go.Proofs.YtkdglplfcpindaaGreatDoor
