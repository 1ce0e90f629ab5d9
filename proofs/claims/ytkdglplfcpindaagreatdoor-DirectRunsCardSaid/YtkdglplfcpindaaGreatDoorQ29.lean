import Derived.Test.YtkdglplfcpindaaGreatDoorQ28
set_option maxRecDepth 100000
namespace Go.Proofs.YtkdglplfcpindaaGreatDoor
open Go.RowKit
def vK (P : Pg) (l1 l2 : List Str) (x : Bnd × Tm) : Bool := validT P (addV (hasS l1) x.1) (addL (hasS l2) x.1) x.2
theorem addV_has (l : List Str) (b : Bnd) : addV (hasS l) b = hasS (l ++ vnames b) := by
  funext k
  unfold addV vnames
  rw [hasS_append]
  cases b.2 <;> simp [hasS, Bool.or_comm]
theorem addL_has (l : List Str) (b : Bnd) : addL (hasS l) b = hasS (l ++ lnames b) := by
  funext k
  unfold addL lnames
  rw [hasS_append]
  cases b.2 <;> simp [hasS, Bool.or_comm]
theorem vK_has (P : Pg) (l1 l2 : List Str) (x : Bnd × Tm) : vK P l1 l2 x = validT P (hasS (l1 ++ vnames x.1)) (hasS (l2 ++ lnames x.1)) x.2 := by
  unfold vK; rw [addV_has, addL_has]
theorem all_drop {α : Type} (f : α -> Bool) {l : List α} {j : Nat} {y : α} (h : l[j]? = some y) : (l.drop j).all f = (f y && (l.drop (j + 1)).all f) := by
  obtain ⟨hj, rfl⟩ := List.getElem?_eq_some_iff.1 h
  rw [List.drop_eq_getElem_cons hj, List.all_cons]
theorem kids_arg {t : Tm} {j : Nat} (h : j < t.args.length) : (kids t)[j]? = some (bndAt t.op t.nm j, t.args[j]) := by
  unfold kids
  rw [List.getElem?_append_left (by rw [kidsFrom_length]; exact h), kidsFrom_get _ _ _ _ _ _ (List.getElem?_eq_getElem h), Nat.zero_add]
theorem kids_cl {t : Tm} {j : Nat} (h : j < t.cls.length) : (kids t)[t.args.length + j]? = some (((t.cls[j]).1, false), (t.cls[j]).2) := by
  unfold kids
  rw [List.getElem?_append_right (by rw [kidsFrom_length]; omega), kidsFrom_length, Nat.add_sub_cancel_left, List.getElem?_map, List.getElem?_eq_getElem h]; rfl
theorem kids_len (t : Tm) : (kids t).length = t.args.length + t.cls.length := by
  unfold kids; rw [List.length_append, kidsFrom_length, List.length_map]
theorem node_label {P : Pg} {V L : Scp} {t : Tm} (h : nodeR P V L t = true) (h11 : t.op = 11) : t.args.length = 1 := by
  unfold nodeR at h
  simp only [Bool.and_eq_true] at h
  have h1 := h.1.1.1
  rw [fitR_has, Bool.and_eq_true] at h1
  have h2 := (hasF_lens h1.2).1
  have e : shapeR P t.op t.n t.ty = (⟨true, true, false, 1, 0⟩, true) := by
    unfold shapeR
    rw [h11]
    simp (decide := true) only [if_true, if_false]
  rw [e] at h2
  have h3 : (t.args.length : Int) = 1 := h2
  omega
theorem clsOK_len : ∀ (xs : List Xtor) (l : List (List Str × Tm)), (∀ x ∈ xs, x.args.length <= 6) -> clsOK xs l = true -> ∀ c ∈ l, c.1.length <= 6
  | _, [], _, _, c, h => by cases h
  | xs, d :: r, hx, h, c, hc => by
    rw [clsOK, Bool.and_eq_true, Bool.and_eq_true, decide_eq_true_eq] at h
    rcases List.mem_cons.1 hc with rfl | hc
    . have h1 := h.1.2
      have h2 : prodC (xs.headD noXtor).args <= 6 := by
        cases xs with
        | nil => exact Nat.zero_le _
        | cons x r' => exact Nat.le_trans (List.length_filter_le _ _) (hx x (List.mem_cons_self ..))
      omega
    . exact clsOK_len xs.tail r (fun x h => hx x (List.mem_of_mem_tail h)) h.2 c hc
theorem node_names {P : Pg} {V L : Scp} {t : Tm} (hv : validB P.decls = true) (h : nodeR P V L t = true) : ∀ c ∈ t.cls, c.1.length <= 6 := by
  unfold nodeR at h
  simp only [Bool.and_eq_true] at h
  refine clsOK_len _ _ ?_ h.1.2
  intro x hx
  unfold declAt at hx
  by_cases hu : (t.ty - 1).toNat < P.decls.length
  . rw [List.getD_eq_getElem?_getD, List.getElem?_eq_getElem hu] at hx
    exact (Fine.of hv).args _ (List.getElem_mem hu) x hx
  . rw [List.getD_eq_getElem?_getD, List.getElem?_eq_none (by omega)] at hx
    cases hx
theorem nT_arg {t : Tm} {j : Nat} (h : j < t.args.length) : nT t.args[j] < nT t := by
  have h1 := nL_mem (l := chT t) (x := t.args[j]) (List.mem_append_left _ (List.getElem_mem h))
  rw [nT_kids t]; omega
theorem nT_cl {t : Tm} {j : Nat} (h : j < t.cls.length) : nT (t.cls[j]).2 < nT t := by
  have h1 := nL_mem (l := chT t) (x := (t.cls[j]).2) (List.mem_append_right _ (List.mem_map.2 ⟨_, List.getElem_mem h, rfl⟩))
  rw [nT_kids t]; omega
set_option maxHeartbeats 4000000 in
theorem RValid_any (P : Pg) (vd vf : Value) (hv : validB P.decls = true) (hs : srcB P.decls = true) : ∀ (k : Nat) (t : Tm) (va vc v1 v2 : Value) (l1 l2 : List Str) (w : World), RDecls w vd P.decls -> RFns w vf P.funs -> RStrs w v1 l1 -> RStrs w v2 l2 -> RT w k t va vc →
    l1.length + 10 * nT t <= 50000000 -> l2.length + 10 * nT t <= 50000000 →
    Calls Tryz.prog 51 #[pV vd vf, v1, v2, tV t va vc] w fun e w' => e = .returned (.bool (validT P (hasS l1) (hasS l2) t)) /\ Ext w w' := by
  intro k
  have HV := LH hv
  have HSR := LH hs
  clear hv hs
  induction k with
  | zero => intro t va vc v1 v2 l1 l2 w _ _ _ _ ht; exact ht.elim
  | succ k ih =>
    intro t va vc v1 v2 l1 l2 w hd hf h1 h2 ht n1 n2
    have HD := LH hd; have HF := LH hf; have H1 := LH h1; have H2 := LH h2; have HT := LH ht; have HIH := LH ih
    have N1 := LH n1; have N2 := LH n2
    obtain ⟨Ad, cd, rfl, hcd, hmd⟩ := hd.form
    obtain ⟨Af, cf, rfl, hcf, hmf⟩ := hf.form
    obtain ⟨⟨hnm, -⟩, ⟨Aa, ca, rfl, hca, hma⟩, ⟨Bb, cb, rfl, hcb, hmb⟩⟩ := ht.form
    have HNM := LH hnm
    clear hd hf h1 h2 ht hnm n1 n2 ih
    unfold maxLen at hma hmb
    have HR : Hid (validT P (hasS l1) (hasS l2) t = (nodeR P (hasS l1) (hasS l2) t && (kids t).all (vK P l1 l2))) := valid_ref HSR.out _ _ t
    have HNN : Hid (nodeR P (hasS l1) (hasS l2) t = true -> ∀ c ∈ t.cls, c.1.length <= 6) := node_names HV.out
    have HNL : Hid (nodeR P (hasS l1) (hasS l2) t = true -> t.op = 11 -> t.args.length = 1) := node_label
    generalize validT P (hasS l1) (hasS l2) t = rr at *
    have HX2 := LH (Ext.al2 w (.cells #[.slice Ad P.decls.length cd, .slice Af P.funs.length cf] 25) (.cells #[.int .i64 t.op, .int .i64 t.n, .string t.nm, .int .i64 t.ty, .slice Aa t.args.length ca, .slice Bb t.cls.length cb] 50))
    have hbp0 := hNw w (.cells #[.slice Ad P.decls.length cd, .slice Af P.funs.length cf] 25)
    have HBP := LH (((Ext.al (w.alloc (.cells #[.slice Ad P.decls.length cd, .slice Af P.funs.length cf] 25)) (.cells #[.int .i64 t.op, .int .i64 t.n, .string t.nm, .int .i64 t.ty, .slice Aa t.args.length ca, .slice Bb t.cls.length cb] 50)).block _ (hLt hbp0)).trans hbp0)
    have HBT := LH (box6c w (.cells #[.slice Ad P.decls.length cd, .slice Af P.funs.length cf] 25) (.int .i64 t.op) (.int .i64 t.n) (.string t.nm) (.int .i64 t.ty) (.slice Aa t.args.length ca) (.slice Bb t.cls.length cb))
    clear hbp0
    have p0 := cA HBP.out 0
    have p1 := cA HBP.out 1
    obtain ⟨t0, t1, t2, t3, t4, t5⟩ := cells6 HBT.out
    go_enter Tryz.func51, Tryz.ntmps51
    go_wp2_with fail
    generalize World.alloc (World.alloc w _) _ = w2 at *
    clear p0 p1 t0 t1 t2 t3 t4 t5
    (with_reducible refine (node_any P _ _ v1 v2 l1 l2 k t _ _ w2 (HD.out.below HX2.out) (HF.out.below HX2.out) (H1.out.below HX2.out) (H2.out.below HX2.out) (HT.out.below HX2.out) HV.out).mono ?_)
    rintro e w3 ⟨rfl, hb⟩
    have HX3 := LH (HX2.out.tr hb)
    have HBP3 := LH ((hb.block _ (hLt HBP.out)).trans HBP.out)
    have HBT3 := LH ((hb.block _ (hLt HBT.out)).trans HBT.out)
    clear hb HBP HBT
    obtain ⟨t0, t1, t2, t3, t4, t5⟩ := cells6 HBT3.out
    cases hq : nodeR P (hasS l1) (hasS l2) t
    . have HRR : Hid (rr = false) := by show _ = _; rw [HR.out, hq]; rfl
      clear hq HNN HNL HR
      go_wp2
      go_ret
      exact ⟨rB HRR.out.symm, HX3.out⟩
    . have HRR : Hid (rr = (kids t).all (vK P l1 l2)) := by show _ = _; rw [HR.out, hq, Bool.true_and]
      have HN6 : Hid (∀ c ∈ t.cls, c.1.length <= 6) := HNN.out hq
      have HN1 : Hid (t.op = 11 -> t.args.length = 1) := HNL.out hq
      clear hq HNN HNL HR
      go_wp2
      clear t0 t1 t2 t3 t4 t5
      go_loopw [24] (fun i wr => ∃ (j : Nat), j <= t.args.length /\ i = .int .i64 j /\ rr = ((kids t).drop j).all (vK P l1 l2) /\ Ext w3 wr) (fun i _ => t.args.length - (intOf i).toNat)
      case atStart => exact ⟨0, Nat.zero_le _, rfl, HRR.out, Ext.rf _⟩
      case round =>
        obtain ⟨j, hj, rfl, hall, hb⟩ := hrel
        have HALL := LH hall
        have HX := LH hb
        have b0 := (hb.block _ (hLt HBT3.out)).trans HBT3.out
        have HBT4 := LH b0
        have HBP4 := LH ((hb.block _ (hLt HBP3.out)).trans HBP3.out)
        clear hall hb b0
        by_cases hlt : j < t.args.length
        . obtain ⟨b, o, ya, yc, rfl, hbl, y6, yt⟩ := HT.out.arg hlt
          have HAD : Hid (rr = (vK P l1 l2 (bndAt t.op t.nm j, t.args[j]) && ((kids t).drop (j + 1)).all (vK P l1 l2))) := by show _ = _; rw [HALL.out, all_drop _ (kids_arg hlt)]
          rw [vK_has] at HAD
          dsimp only at HAD
          have HNT := LH (nT_arg hlt)
          have HOP : Hid (t.op = 11 -> j = 0) := fun h => by have := HN1.out h; omega
          have y6 := y6.below (HX3.out.tr HX.out)
          have c0 := y6.c0
          have c1 := y6.c1
          have c2 := y6.c2
          have c3 := y6.c3
          have c4 := y6.c4
          have c5 := y6.c5
          obtain ⟨-, ⟨Ax, cx, rfl, -, -⟩, ⟨Bx, dx, rfl, -, -⟩⟩ := yt.form
          have HK := LH (yt.below (HX3.out.tr HX.out))
          generalize t.args[j] = x at *
          clear y6 yt
          have hE6 := Ext.al wr (.cells #[.int .i64 x.op, .int .i64 x.n, .string x.nm, .int .i64 x.ty, .slice Ax x.args.length cx, .slice Bx x.cls.length dx] 50)
          have HN6' := LH (hNw wr (.cells #[.int .i64 x.op, .int .i64 x.n, .string x.nm, .int .i64 x.ty, .slice Ax x.args.length cx, .slice Bx x.cls.length dx] 50))
          have HE6 := LH hE6
          have HZ6 : Hid ((wr.alloc (.cells #[.int .i64 x.op, .int .i64 x.n, .string x.nm, .int .i64 x.ty, .slice Ax x.args.length cx, .slice Bx x.cls.length dx] 50)).heap.size = wr.heap.size + 1) := World.size_alloc _ _
          obtain ⟨t0, t1, t2, t3, t4, t5⟩ := cells6 HBT4.out
          have b6 := (hE6.block _ (hLt HBT4.out)).trans HBT4.out
          have b7 := (hE6.block _ (hLt HBP4.out)).trans HBP4.out
          obtain ⟨z0, z1, z2, z3, z4, z5⟩ := cells6 b6
          have p0 := cA b7 0
          have p1 := cA b7 1
          clear hE6 b6 b7
          rcases (by by_cases e0 : t.op = 8 <;> by_cases e1 : t.op = 11 <;> by_cases e3 : j = 1 <;> simp [e0, e1, e3] <;> omega : ((t.op == 8) = true /\ (t.op == 11) = false /\ ((j : Int) == 1) = true) ∨ ((t.op == 8) = false /\ (t.op == 11) = true) ∨ ((t.op == 8) = true /\ (t.op == 11) = false /\ ((j : Int) == 1) = false) ∨ ((t.op == 8) = false /\ (t.op == 11) = false)) with ⟨h8, h11, hjn⟩ | ⟨h8, h11⟩ | ⟨h8, h11, hjn⟩ | ⟨h8, h11⟩
          all_goals go_wp2_with fail
          all_goals generalize wr.alloc _ = w6 at *
          focus
            have HJ : Hid (t.op = 8 /\ j = 1) := by show t.op = 8 /\ j = 1; simp at h8 hjn; exact ⟨h8, by omega⟩
            have hE7 := Ext.al w6 (.cells #[.string t.nm] 9)
            have hn7 := hNw w6 (.cells #[.string t.nm] 9)
            rw [HZ6.out] at hn7
            generalize w6.alloc _ = w7 at *
            (with_reducible refine (With_any v1 _ l1 [t.nm] w7 (H1.out.below ((HX3.out.tr HX.out).tr (HE6.out.tr hE7))) (RStrs.one hn7 HNM.out) H1.out.sizes (fun s h => by rw [List.mem_singleton.1 h]; exact HNM.out) (by simp; have := N1.out; omega)).mono ?_)
            rintro e w8 ⟨V11, rfl, hr8, hb8⟩
            have HW8 : Hid (Ext wr w8) := HE6.out.tr (hE7.tr hb8)
            have HV1 : Hid (RStrs w8 V11 (l1 ++ vnames (bndAt t.op t.nm j))) := by show RStrs w8 V11 _; rw [(vn_8 HJ.out.1 HJ.out.2).1]; exact hr8
            have HV2 : Hid (RStrs w8 v2 (l2 ++ lnames (bndAt t.op t.nm j))) := by show RStrs w8 v2 _; rw [(vn_8 HJ.out.1 HJ.out.2).2, List.append_nil]; exact H2.out.below ((HX3.out.tr HX.out).tr HW8.out)
            have b8 := (HW8.out.block _ (hLt HBT4.out)).trans HBT4.out
            have b8p := (HW8.out.block _ (hLt HBP4.out)).trans HBP4.out
            have b9 := ((hE7.tr hb8).block _ (hLt HN6'.out)).trans HN6'.out
            clear hE7 hn7 hr8 hb8 z0 z1 z2 z3 z4 z5 p0 p1
            obtain ⟨z0, z1, z2, z3, z4, z5⟩ := cells6 b8
            have p0 := cA b8p 0
            have p1 := cA b8p 1
            obtain ⟨y0, y1, y2, y3, y4, y5⟩ := cells6 b9
            clear b8 b9 b8p
            go_wp2_with fail
          rotate_left
          focus
            have HJ : Hid (t.op = 11 /\ j = 0) := by have h : t.op = 11 := (by simpa using h11); exact ⟨h, HOP.out h⟩
            have hE7 := Ext.al w6 (.cells #[.string t.nm] 9)
            have hn7 := hNw w6 (.cells #[.string t.nm] 9)
            rw [HZ6.out] at hn7
            generalize w6.alloc _ = w7 at *
            (with_reducible refine (With_any v2 _ l2 [t.nm] w7 (H2.out.below ((HX3.out.tr HX.out).tr (HE6.out.tr hE7))) (RStrs.one hn7 HNM.out) H2.out.sizes (fun s h => by rw [List.mem_singleton.1 h]; exact HNM.out) (by simp; have := N2.out; omega)).mono ?_)
            rintro e w8 ⟨V12, rfl, hr8, hb8⟩
            have HW8 : Hid (Ext wr w8) := HE6.out.tr (hE7.tr hb8)
            have HV1 : Hid (RStrs w8 v1 (l1 ++ vnames (bndAt t.op t.nm j))) := by show RStrs w8 v1 _; rw [(vn_11 HJ.out.1 HJ.out.2).1, List.append_nil]; exact H1.out.below ((HX3.out.tr HX.out).tr HW8.out)
            have HV2 : Hid (RStrs w8 V12 (l2 ++ lnames (bndAt t.op t.nm j))) := by show RStrs w8 V12 _; rw [(vn_11 HJ.out.1 HJ.out.2).2]; exact hr8
            have b8 := (HW8.out.block _ (hLt HBT4.out)).trans HBT4.out
            have b8p := (HW8.out.block _ (hLt HBP4.out)).trans HBP4.out
            have b9 := ((hE7.tr hb8).block _ (hLt HN6'.out)).trans HN6'.out
            clear hE7 hn7 hr8 hb8 z0 z1 z2 z3 z4 z5 p0 p1
            obtain ⟨z0, z1, z2, z3, z4, z5⟩ := cells6 b8
            have p0 := cA b8p 0
            have p1 := cA b8p 1
            obtain ⟨y0, y1, y2, y3, y4, y5⟩ := cells6 b9
            clear b8 b9 b8p
            go_wp2_with fail
          rotate_left
          focus
            have HJ : Hid (¬ (t.op = 8 /\ j = 1) /\ ¬ (t.op = 11 /\ j = 0)) := by show ¬ (t.op = 8 /\ j = 1) /\ ¬ (t.op = 11 /\ j = 0); simp at h8 h11 hjn; omega
          rotate_left
          focus
            have HJ : Hid (¬ (t.op = 8 /\ j = 1) /\ ¬ (t.op = 11 /\ j = 0)) := by show ¬ (t.op = 8 /\ j = 1) /\ ¬ (t.op = 11 /\ j = 0); simp at h8 h11; omega
          rotate_left
          all_goals first
            | (have HV1 : Hid (RStrs w6 v1 (l1 ++ vnames (bndAt t.op t.nm j))) := by show RStrs w6 v1 _; rw [(vn_no HJ.out.1 HJ.out.2).1, List.append_nil]; exact H1.out.below ((HX3.out.tr HX.out).tr HE6.out)
               have HV2 : Hid (RStrs w6 v2 (l2 ++ lnames (bndAt t.op t.nm j))) := by show RStrs w6 v2 _; rw [(vn_no HJ.out.1 HJ.out.2).2, List.append_nil]; exact H2.out.below ((HX3.out.tr HX.out).tr HE6.out)
               have HW8 := HE6)
            | skip
          all_goals
            (with_reducible refine (HIH.out x _ _ _ _ _ _ _ (HD.out.below ((HX3.out.tr HX.out).tr HW8.out)) (HF.out.below ((HX3.out.tr HX.out).tr HW8.out)) HV1.out HV2.out (HK.out.below HW8.out) (by have := N1.out; have := HNT.out; have := vn_len (bndAt t.op t.nm j); have : (bndAt t.op t.nm j).1.length <= 1 := (by unfold bndAt; split <;> (try split) <;> simp); rw [List.length_append]; omega) (by have := N2.out; have := HNT.out; have := ln_len (bndAt t.op t.nm j); have : (bndAt t.op t.nm j).1.length <= 1 := (by unfold bndAt; split <;> (try split) <;> simp); rw [List.length_append]; omega)).mono ?_)
            generalize validT P (hasS (l1 ++ vnames (bndAt t.op t.nm j))) (hasS (l2 ++ lnames (bndAt t.op t.nm j))) x = q at *
            rintro e w9 ⟨rfl, hb9⟩
            have HX9 : Hid (Ext w3 w9) := HX.out.tr (HW8.out.tr hb9)
            clear hb9 z0 z1 z2 z3 z4 z5 p0 p1 t0 t1 t2 t3 t4 t5
            cases q
            . go_wp2
              go_ret
              exact ⟨rB (by rw [HAD.out]; rfl), HX3.out.tr HX9.out⟩
            . have HAF : Hid (rr = ((kids t).drop (j + 1)).all (vK P l1 l2)) := by show _ = _; rw [HAD.out, Bool.true_and]
              go_wp2
              exact ⟨⟨j + 1, by omega, by go_num, HAF.out, HX9.out⟩, by simp [intOf]; omega⟩
        . obtain ⟨t0, t1, t2, t3, t4, t5⟩ := cells6 HBT4.out
          have HA0 : Hid (rr = ((kids t).drop (t.args.length + 0)).all (vK P l1 l2)) := by show _ = _; rw [HALL.out, show j = t.args.length + 0 by omega]
          clear HALL
          go_wp2
          clear t0 t1 t2 t3 t4 t5
          generalize wr = wl at *
          go_loopw [61] (fun i wq => ∃ (j2 : Nat), j2 <= t.cls.length /\ i = .int .i64 j2 /\ rr = ((kids t).drop (t.args.length + j2)).all (vK P l1 l2) /\ Ext wl wq) (fun i _ => t.cls.length - (intOf i).toNat)
          case atStart => exact ⟨0, Nat.zero_le _, rfl, HA0.out, Ext.rf _⟩
          case round =>
            obtain ⟨j2, hj2, rfl, hall, hb⟩ := hrel
            have HALL := LH hall
            have HX2' := LH hb
            clear hall hb
            by_cases hlt2 : j2 < t.cls.length
            . obtain ⟨b', o', vn', xa', xc', rfl, hbl', yn', ys', y6, yt'⟩ := HT.out.clause hlt2
              have HAD : Hid (rr = (vK P l1 l2 (((t.cls[j2]).1, false), (t.cls[j2]).2) && ((kids t).drop (t.args.length + (j2 + 1))).all (vK P l1 l2))) := by show _ = _; rw [HALL.out, all_drop _ (kids_cl hlt2)]; rfl
              rw [vK_has] at HAD
              have HNT := LH (nT_cl hlt2)
              have HNS6 : Hid ((t.cls[j2]).1.length <= 6) := HN6.out _ (List.getElem_mem _)
              generalize t.cls[j2] = cl at *
              obtain ⟨ns, y⟩ := cl
              dsimp only at *
              have HAE : Hid (rr = (validT P (hasS (l1 ++ ns)) (hasS l2) y && ((kids t).drop (t.args.length + (j2 + 1))).all (vK P l1 l2))) := by
                show _ = _
                have h := HAD.out
                have e1 : vnames (ns, false) = ns := rfl
                have e2 : lnames (ns, false) = [] := rfl
                rw [e1, e2, List.append_nil] at h
                exact h
              clear HAD
              obtain ⟨-, ⟨Ax, cx, rfl, -, -⟩, ⟨Bx, dx, rfl, -, -⟩⟩ := yt'.form
              obtain ⟨An, cn, rfl, -, -⟩ := ys'.form
              have hX := HX3.out.tr (HX.out.tr HX2'.out)
              have HK := LH (yt'.below hX)
              have HNS := LH (ys'.below hX)
              have y6 := y6.below hX
              have c0 := hX.keep yn'
              have c1 := y6.c0
              have c2 := y6.c1
              have c3 := y6.c2
              have c4 := y6.c3
              have c5 := y6.c4
              have c6 := y6.c5
              have HE8 := LH (Ext.al wr (.cells #[.slice An ns.length cn, .int .i64 y.op, .int .i64 y.n, .string y.nm, .int .i64 y.ty, .slice Ax y.args.length cx, .slice Bx y.cls.length dx] 123))
              have HN8 := LH (hNw wr (.cells #[.slice An ns.length cn, .int .i64 y.op, .int .i64 y.n, .string y.nm, .int .i64 y.ty, .slice Ax y.args.length cx, .slice Bx y.cls.length dx] 123))
              have HX8 : Hid (Ext w (wr.alloc (.cells #[.slice An ns.length cn, .int .i64 y.op, .int .i64 y.n, .string y.nm, .int .i64 y.ty, .slice Ax y.args.length cx, .slice Bx y.cls.length dx] 123))) := hX.tr HE8.out
              have hp := (HX2'.out.block _ (hLt HBP4.out)).trans HBP4.out
              have HP8 := LH ((HE8.out.block _ (hLt hp)).trans hp)
              clear y6 yt' yn' ys' hX hp
              go_wp2
              generalize wr.alloc _ = w8 at *
              clear c0 c1 c2 c3 c4 c5 c6
              have q0 := cA HN8.out 0
              have q1 := cA HN8.out 1
              have q2 := cA HN8.out 2
              have q3 := cA HN8.out 3
              have q4 := cA HN8.out 4
              have q5 := cA HN8.out 5
              have q6 := cA HN8.out 6
              have p0 := cA HP8.out 0
              have p1 := cA HP8.out 1
              generalize hqq : validT P (hasS (l1 ++ ns)) (hasS l2) y = q at *
              have HQQ : Hid (validT P (hasS (l1 ++ ns)) (hasS l2) y = q) := hqq
              clear hqq
              go_region_with (first
                | (go_at_call 81; (with_reducible refine (With_any v1 (.slice An ns.length cn) l1 ns _ ((H1.out.below HX8.out).below (Ext.rf _).drew) ((HNS.out.below HE8.out).below (Ext.rf _).drew) H1.out.sizes HNS.out.sizes (by have := N1.out; have := HNS6.out; omega)).mono ?_); rintro e w9 ⟨V, rfl, hr, hb⟩; have HX9 : Hid (Ext w8 w9) := Ext.tr (b := w8.drew) (Ext.rf w8).drew hb; have HVV := LH hr; clear hr hb q0 q1 q2 q3 q4 q5 q6 p0 p1; have q0 := HX9.out.keep (cA HN8.out 0); have q1 := HX9.out.keep (cA HN8.out 1); have q2 := HX9.out.keep (cA HN8.out 2); have q3 := HX9.out.keep (cA HN8.out 3); have q4 := HX9.out.keep (cA HN8.out 4); have q5 := HX9.out.keep (cA HN8.out 5); have q6 := HX9.out.keep (cA HN8.out 6); have p0 := HX9.out.keep (cA HP8.out 0); have p1 := HX9.out.keep (cA HP8.out 1))
                | (go_at_call 51; (with_reducible refine (HIH.out y _ _ V v2 (l1 ++ ns) l2 w9 (HD.out.below (HX8.out.tr HX9.out)) (HF.out.below (HX8.out.tr HX9.out)) HVV.out (H2.out.below (HX8.out.tr HX9.out)) (HK.out.below (HE8.out.tr HX9.out)) (by have := N1.out; have := HNT.out; have := HNS6.out; rw [List.length_append]; omega) (by have := N2.out; have := HNT.out; omega)).mono ?_); rintro e w10 ⟨rfl, hb⟩; have HX10 : Hid (Ext w8 w10) := HX9.out.tr hb; rw [HQQ.out]; clear hb q0 q1 q2 q3 q4 q5 q6 p0 p1))
              all_goals
                have HX11 : Hid (Ext wl w10) := HX2'.out.tr (HE8.out.tr HX10.out)
                cases q
                . go_wp2
                  go_ret
                  exact ⟨rB (by rw [HAE.out]; rfl), HX3.out.tr (HX.out.tr HX11.out)⟩
                . have HAF : Hid (rr = ((kids t).drop (t.args.length + (j2 + 1))).all (vK P l1 l2)) := by show _ = _; rw [HAE.out, Bool.true_and]
                  go_wp2
                  exact ⟨⟨j2 + 1, by omega, by go_num, HAF.out, HX11.out⟩, by simp [intOf]; omega⟩
            . have HAF : Hid (rr = true) := by
                show _ = _
                rw [HALL.out, List.drop_eq_nil_of_le (by rw [kids_len]; omega)]; rfl
              go_wp2
              go_ret
              exact ⟨rB HAF.out.symm, HX3.out.tr (HX.out.tr HX2'.out)⟩
end Go.Proofs.YtkdglplfcpindaaGreatDoor

namespace Go.Proofs.YtkdglplfcpindaaGreatDoor
open Go.RowKit
def prevB (P : List Decl) (nm : ByteArray) : Bool := P.any fun e => e.name.toList == nm.toList
def isX (t : Int) (X : List ByteArray) (x : Xtor) : Bool := xtorB x.name && decide (x.args.length <= 6) && !hasS X x.name && x.args.all (okTy t)
def isXs (t : Int) : List ByteArray -> List Xtor -> Bool
  | _, [] => true
  | X, x :: r => isX t X x && isXs t (X ++ [x.name]) r
def isD (t : Int) (P : List Decl) (X : List ByteArray) (d : Decl) : Bool := nameB d.name && decide (1 <= d.xtors.length /\ d.xtors.length <= 6) && !prevB P d.name && isXs t X d.xtors
def isDs (t : Int) : List Decl -> List ByteArray -> List Decl -> Bool
  | _, _, [] => true
  | P, X, d :: r => isD t P X d && isDs t (P ++ [d]) (addXs X d.xtors) r
def isB (l : List Decl) : Bool := decide (l.length <= 8) && isDs l.length [] [] l
theorem isB_bad {l : List Decl} (h : ¬ l.length <= 8) : isB l = false := by simp [isB, h]
theorem isB_good {l : List Decl} (h : l.length <= 8) : isB l = isDs l.length [] [] l := by simp [isB, h]
theorem isDs_cons (t : Int) (P : List Decl) (X : List ByteArray) (d : Decl) (r : List Decl) : isDs t P X (d :: r) = (isD t P X d && isDs t (P ++ [d]) (addXs X d.xtors) r) := rfl
theorem isXs_cons (t : Int) (X : List ByteArray) (x : Xtor) (r : List Xtor) : isXs t X (x :: r) = (isX t X x && isXs t (X ++ [x.name]) r) := rfl
theorem isD_bad1 {t : Int} {P : List Decl} {X : List ByteArray} {d : Decl} (h : nameB d.name = false) : isD t P X d = false := by simp [isD, h]
theorem isD_bad2 {t : Int} {P : List Decl} {X : List ByteArray} {d : Decl} (h : ¬ (1 <= d.xtors.length /\ d.xtors.length <= 6)) : isD t P X d = false := by unfold isD; rw [decide_eq_false h]; simp
theorem isD_bad3 {t : Int} {P : List Decl} {X : List ByteArray} {d : Decl} (h : prevB P d.name = true) : isD t P X d = false := by simp [isD, h]
theorem isD_good {t : Int} {P : List Decl} {X : List ByteArray} {d : Decl} (h1 : nameB d.name = true) (h2 : 1 <= d.xtors.length /\ d.xtors.length <= 6) (h3 : prevB P d.name = false) : isD t P X d = isXs t X d.xtors := by simp [isD, h1, h2.1, h2.2, h3]
theorem isX_bad1 {t : Int} {X : List ByteArray} {x : Xtor} (h : xtorB x.name = false) : isX t X x = false := by simp [isX, h]
theorem isX_bad2 {t : Int} {X : List ByteArray} {x : Xtor} (h : ¬ x.args.length <= 6) : isX t X x = false := by simp [isX, h]
theorem isX_bad3 {t : Int} {X : List ByteArray} {x : Xtor} (h : hasS X x.name = true) : isX t X x = false := by simp [isX, h]
theorem isX_good {t : Int} {X : List ByteArray} {x : Xtor} (h1 : xtorB x.name = true) (h2 : x.args.length <= 6) (h3 : hasS X x.name = false) : isX t X x = x.args.all (okTy t) := by simp [isX, h1, h2, h3]
theorem hasS_cons (s : ByteArray) (S : List ByteArray) (k : ByteArray) : hasS (s :: S) k = ((k.toList == s.toList) || hasS S k) := rfl
theorem prevB_cons (e : Decl) (P : List Decl) (k : ByteArray) : prevB (e :: P) k = ((e.name.toList == k.toList) || prevB P k) := rfl
theorem okTy_bad' {t : Int} {a : Arg} (h : a.ty < 0 ∨ t < a.ty) : okTy t a = false := by simp [okTy]; omega
theorem okTy_good' {t : Int} {a : Arg} (h : 0 <= a.ty) (h2 : a.ty <= t) : okTy t a = true := by simp [okTy]; omega
theorem own_ext {w w' : World} {base : Nat} {e : TypeId} {size : Nat} {v : Value} {n : Nat} {xs : List Value} (h : w.ownsRow base e size v n xs) (hb : Ext w w') : w'.ownsRow base e size v n xs := by
  obtain ⟨h1, h2⟩ := h
  refine ⟨h1, ?_⟩
  rcases h2 with h2 | ⟨g, cap, cur, e1, e2, e3, e4⟩
  . exact .inl h2
  . exact .inr ⟨g, cap, cur, e1, e2, (hb.block g (Array.getElem?_eq_some_iff.1 e3).1).trans e3, e4⟩
theorem own_formI {w : World} {base : Nat} {e : TypeId} {size : Nat} {v : Value} {n : Nat} {xs : List Value} (h : w.ownsRow base e size v n xs) : ∃ A c, v = .slice A n c /\ n <= c /\ c <= maxLen /\ ∀ j u, xs[j]? = some u -> ∃ g, A = some ⟨g, 0, none⟩ /\ g < w.heap.size /\ base <= g /\ w.cell? ⟨g, j, none⟩ = some u := by
  rcases h.2 with ⟨rfl, rfl⟩ | ⟨g, cap, cur, rfl, e2, e3, e4, e5, e6, e7⟩
  . refine ⟨none, 0, rfl, Nat.le_refl _, by unfold maxLen; omega, fun j u hu => ?_⟩
    have h1 := h.1
    rw [Nat.zero_mul] at h1
    rw [List.eq_nil_of_length_eq_zero h1] at hu
    simp at hu
  . refine ⟨_, _, rfl, e4, e5, fun j u hu => ⟨g, rfl, (Array.getElem?_eq_some_iff.1 e3).1, e2, ?_⟩⟩
    have hj : j < xs.length := by
      rcases Nat.lt_or_ge j xs.length with h1 | h1
      . exact h1
      . rw [List.getElem?_eq_none h1] at hu; cases hu
    rw [World.ownsRow.cellAt h j (by rw [← h.1]; exact hj)]
    exact hu
set_option maxHeartbeats 2000000 in
theorem Is_any (v : Value) (l : List Decl) (w : World) (h : RDecls w v l) :
    Calls Tryz.prog 47 #[v] w fun e w' => e = .returned (.bool (isB l)) /\ Ext w w' := by
  obtain ⟨i0, hi, hz0, hz1, hz2⟩ := info_parts Tryz.info9
  have HI := LH hi; have HZ0 := LH hz0; have HZ1 := LH hz1; have HZ2 := LH hz2; clear hi hz0 hz1 hz2
  have HB := LH (@isB_bad l)
  have HG := LH (@isB_good l)
  generalize hrr : isB l = rr at *
  clear hrr
  have HR := LH h
  obtain ⟨A, c, rfl, hc, hm⟩ := h.form
  clear h
  unfold maxLen at hm
  go_enter Tryz.func47, Tryz.ntmps47
  by_cases h8 : l.length <= 8
  . have HG := LH (HG.out h8)
    go_wp2
    go_loopw [3, 19] (fun xv i wr => ∃ (k : Nat) (X : List ByteArray), k <= l.length /\ i = .int .i64 k /\ wr.ownsRow w.heap.size 9 1 xv X.length (X.map Value.string) /\ X.length <= 6 * k /\ Below w.heap.size w wr /\ isDs l.length [] [] l = isDs l.length (l.take k) X (l.drop k)) (fun _ i _ => l.length - (intOf i).toNat)
    case atStart => exact ⟨0, [], Nat.zero_le _, rfl, World.ownsRow_nil _ _ _ _, by simp, Below.refl _ _, rfl⟩
    case round =>
      obtain ⟨k, X, hk, rfl, hown, hX6, hb, hno⟩ := hrel
      obtain ⟨wo, rfl⟩ : ∃ wo : World, wo = wr := ⟨_, rfl⟩
      have HN := LH hno; have HB1 := LH hb; have HO := LH hown; clear hno hb hown
      by_cases hlt : k < l.length
      . obtain ⟨b, o, vx, rfl, hbl, h0, h1, h2, h3, h4⟩ := HR.out.at_ hlt
        have HD := LH (dS hlt)
        have HT : Hid (l.take k ++ [l[k]] = l.take (k + 1)) := (List.take_succ_eq_append_getElem hlt).symm
        have HRt := LH (HR.out.take (n := k) (by omega))
        have h0 := (HB1.out.cell hbl).trans h0
        have h1 := (HB1.out.cell hbl).trans h1
        have h2 := (HB1.out.cell hbl).trans h2
        generalize l[k] = d at *
        have HBad1 := LH (@isD_bad1 l.length (l.take k) X d)
        have HBad2 := LH (@isD_bad2 l.length (l.take k) X d)
        have HBad3 := LH (@isD_bad3 l.length (l.take k) X d)
        have HGood := LH (@isD_good l.length (l.take k) X d)
        obtain ⟨dn, co, xs⟩ := d
        dsimp only at *
        obtain ⟨A2, c2, rfl, hc2, hm2⟩ := h3.form
        unfold maxLen at hm2
        have HX := LH h3; clear h3
        have HNO : Hid (isD l.length (l.take k) X ⟨dn, co, xs⟩ = false -> rr = false) := fun e => by rw [HG.out, HN.out, HD.out, isDs_cons, e]; rfl
        have HW := LH (HB1.out.trans ((Ext.al wo (Obj.cells #[Value.string dn, Value.bool co, Value.slice A2 xs.length c2] 137)).mono HB1.out.size))
        have HO1 := LH (own_ext HO.out (Ext.al wo (Obj.cells #[Value.string dn, Value.bool co, Value.slice A2 xs.length c2] 137)))
        have g0 : (wo.alloc (Obj.cells #[Value.string dn, Value.bool co, Value.slice A2 xs.length c2] 137)).cell? ⟨wo.heap.size, 0, none⟩ = some (.string dn) := by
          rw [World.cell?_alloc_at _ _ _ _ rfl]; rfl
        have g2 : (wo.alloc (Obj.cells #[Value.string dn, Value.bool co, Value.slice A2 xs.length c2] 137)).cell? ⟨wo.heap.size, 2, none⟩ = some (.slice A2 xs.length c2) := by
          rw [World.cell?_alloc_at _ _ _ _ rfl]; rfl
        go_wp2_with fail
        (with_reducible refine (Name_any _ _ h4).mono ?_)
        generalize wo.alloc _ = w1 at *
        rintro e w2 ⟨rfl, hb2⟩
        have HW2 := LH (HW.out.trans (hb2.mono HW.out.size))
        have HO2 := LH (own_ext HO1.out hb2)
        have g0 := Ext.keep hb2 g0
        have g2 := Ext.keep hb2 g2
        clear hb2 h0 h1 h2
        cases hq : nameB dn
        . have HQ := LH (HNO.out (HBad1.out hq))
          clear hq
          go_wp2
          go_ret
          exact ⟨rB HQ.out.symm, HW2.out⟩
        . have HQ := LH hq; clear hq
          by_cases h6 : 1 <= xs.length /\ xs.length <= 6
          . have H6 := LH h6
            obtain ⟨h5, h6⟩ := h6
            go_wp2
            have HRt2 := LH (HRt.out.below HW2.out)
            have hkl : (l.take k).length = k := by simp; omega
            have HKL := LH hkl; clear hkl
            generalize l.take k = P at *
            have hPk : k <= P.length := by rw [HKL.out]; exact Nat.le_refl _
            have hPk2 : P.length <= k := by rw [HKL.out]; exact Nat.le_refl _
            go_loopw [44] (fun i wr => ∃ j : Nat, j <= k /\ i = .int .i64 j /\ Ext w2 wr /\ prevB P dn = prevB (P.drop j) dn) (fun i _ => k - (intOf i).toNat)
            case atStart => exact ⟨0, Nat.zero_le _, rfl, Ext.rf _, by simp⟩
            case round =>
              obtain ⟨j, hj, rfl, hb3, hno3⟩ := hrel
              have HN3 := LH hno3; have HB3 := LH hb3; clear hno3 hb3
              have g0 := HB3.out.keep g0
              have g2 := HB3.out.keep g2
              by_cases hlt3 : j < k
              . have HP : Hid (RDecls wr (.slice (some ⟨b, o, none⟩) P.length c) P) := by
                  have := HRt2.out.below HB3.out
                  rw [HKL.out]; exact this
                obtain ⟨b3, o3, vx3, he3, hbl3, f0, f1, f2, f3, f4⟩ := HP.out.at_ (k := j) (by omega)
                obtain ⟨rfl, rfl⟩ : b = b3 /\ o = o3 := by
                  simp only [Option.some.injEq, Addr.mk.injEq] at he3; exact ⟨he3.1, he3.2.1⟩
                clear he3
                have HD3 := LH (dS (l := P) (k := j) (by omega))
                generalize P[j] = e at *
                obtain ⟨A3, c3, rfl, -⟩ := f3.form
                clear f3
                have HE3 := LH (Ext.al wr (Obj.cells #[Value.string e.name, Value.bool e.codata, Value.slice A3 e.xtors.length c3] 137))
                have g0 := HE3.out.keep g0
                cases hq : (e.name.toList == dn.toList)
                . have HQ3 := LH hq
                  have hq2 : (e.name.toList == dn.toList) = false := hq
                  go_wp2
                  go_roundw
                  case rel => exact ⟨j + 1, by omega, by go_num, HB3.out.tr HE3.out, by rw [HN3.out, HD3.out, prevB_cons, HQ3.out]; rfl⟩
                  case measure => simp [intOf]; omega
                . have HQ3 := LH hq
                  go_wp2
                  go_ret
                  exact ⟨rB (HNO.out (HBad3.out (by rw [HN3.out, HD3.out, prevB_cons, HQ3.out]; rfl))).symm, HW2.out.trans ((HB3.out.tr HE3.out).mono HW2.out.size)⟩
              . have HPv : Hid (prevB P dn = false) := by rw [HN3.out, drop_end (by omega)]; rfl
                have HG2 := LH (HGood.out HQ.out H6.out HPv.out)
                have HW3 := LH (HW2.out.trans (HB3.out.mono HW2.out.size))
                have HO3 := LH (own_ext HO2.out HB3.out)
                obtain ⟨w3, rfl⟩ : ∃ w3 : World, w3 = wr := ⟨_, rfl⟩
                clear HRt HRt2 HBad1 HBad2 HBad3 HGood
                go_wp2
                go_loopw [3, 57] (fun xv i wr => ∃ (j : Nat) (Y : List ByteArray), j <= xs.length /\ i = .int .i64 j /\ wr.ownsRow w.heap.size 9 1 xv Y.length (Y.map Value.string) /\ Y.length <= 6 * k + j /\ Below w.heap.size w wr /\ isXs l.length X xs = isXs l.length Y (xs.drop j) /\ addXs X xs = addXs Y (xs.drop j)) (fun _ i _ => xs.length - (intOf i).toNat)
                case atStart => exact ⟨0, X, Nat.zero_le _, rfl, HO3.out, by omega, HW3.out, rfl, rfl⟩
                case round =>
                  obtain ⟨j, Y, hj, rfl, hown4, hY6, hb4, hno4, had4⟩ := hrel
                  have HN4 := LH hno4; have HB4 := LH hb4; have HO4 := LH hown4; have HA4 := LH had4; clear hno4 hb4 hown4 had4
                  obtain ⟨wp, rfl⟩ : ∃ wp : World, wp = wr := ⟨_, rfl⟩
                  clear g0 g2
                  by_cases hlt4 : j < xs.length
                  . obtain ⟨b4, o4, va4, rfl, hbl4, f0, f1, f2, f3⟩ := HX.out.at_ hlt4
                    have HD4 := LH (dS hlt4)
                    have f0 := (HB4.out.cell hbl4).trans f0
                    have f1 := (HB4.out.cell hbl4).trans f1
                    generalize xs[j] = x at *
                    have HNO4 : Hid (isX l.length Y x = false -> rr = false) := fun e => HNO.out (by rw [HG2.out, HN4.out, HD4.out, isXs_cons, e]; rfl)
                    obtain ⟨A5, c5, rfl, hc5, hm5⟩ := f2.form
                    unfold maxLen at hm5
                    have HXA := LH f2; clear f2
                    have hE5 := Ext.al wp (Obj.cells #[Value.string x.name, Value.slice A5 x.args.length c5] 140)
                    have HW5 := LH (HB4.out.trans (hE5.mono HB4.out.size))
                    have HO5 := LH (own_ext HO4.out hE5)
                    clear hE5
                    have q0 : (wp.alloc (Obj.cells #[Value.string x.name, Value.slice A5 x.args.length c5] 140)).cell? ⟨wp.heap.size, 0, none⟩ = some (.string x.name) := by
                      rw [World.cell?_alloc_at _ _ _ _ rfl]; rfl
                    have q1 : (wp.alloc (Obj.cells #[Value.string x.name, Value.slice A5 x.args.length c5] 140)).cell? ⟨wp.heap.size, 1, none⟩ = some (.slice A5 x.args.length c5) := by
                      rw [World.cell?_alloc_at _ _ _ _ rfl]; rfl
                    go_wp2_with fail
                    (with_reducible refine (XtorName_any _ _ f3).mono ?_)
                    generalize wp.alloc _ = w5 at *
                    rintro e w5' ⟨rfl, rfl⟩
                    cases hq : xtorB x.name
                    . have HQ5 := LH (HNO4.out (isX_bad1 hq))
                      clear hq
                      go_wp2
                      go_ret
                      exact ⟨rB HQ5.out.symm, HW5.out⟩
                    . have HQ5 := LH hq; clear hq
                      by_cases h66 : x.args.length <= 6
                      . have H66 := LH h66
                        obtain ⟨A6, c6, he6, hc6, hm6, hcell6⟩ := own_formI HO5.out
                        have HC6 := LH hcell6; clear hcell6
                        subst he6
                        unfold maxLen at hm6
                        go_wp2
                        go_loop [73] (fun i => ∃ q : Nat, q <= Y.length /\ i = .int .i64 q /\ hasS Y x.name = hasS (Y.drop q) x.name) (fun i => Y.length - (intOf i).toNat)
                        case atStart => exact ⟨0, Nat.zero_le _, rfl, by simp⟩
                        case round =>
                          obtain ⟨q, hq6, rfl, hno6⟩ := hrel
                          have HN6 := LH hno6; clear hno6
                          by_cases hlt6 : q < Y.length
                          . obtain ⟨g, rfl, hgl, hgb, e0⟩ := HC6.out q (.string Y[q]) (by rw [List.getElem?_map, List.getElem?_eq_getElem hlt6]; rfl)
                            have HD6 := LH (dS hlt6)
                            generalize Y[q] = y at *
                            cases hqq : (x.name.toList == y.toList)
                            . have HQ7 := LH hqq
                              have hq2 : (x.name.toList == y.toList) = false := hqq
                              go_wp2
                              go_round
                              case rel => exact ⟨q + 1, by omega, by go_num, by rw [HN6.out, HD6.out, hasS_cons, HQ7.out]; rfl⟩
                              case measure => simp [intOf]; omega
                            . have HQ7 := LH hqq
                              have hq2 : (x.name.toList == y.toList) = true := hqq
                              go_wp2
                              go_ret
                              exact ⟨rB (HNO4.out (isX_bad3 (by rw [HN6.out, HD6.out, hasS_cons, HQ7.out]; rfl))).symm, HW5.out⟩
                          . have HS7 : Hid (hasS Y x.name = false) := by rw [HN6.out, drop_end hlt6]; rfl
                            have HG7 := LH (isX_good (t := l.length) HQ5.out H66.out HS7.out)
                            clear HN6
                            have hlen : Y.length <= 100 := by omega
                            have HXA7 := LH (HXA.out.below HW5.out)
                            go_wp2_with (at_builtin; refine wpList_append_own _ rfl (.tmp 82) (.tmp 85) 67 rfl w.heap.size 9 i0 (.string ⟨#[]⟩) 1 16 Tryz.underlying67 HI.out HZ0.out HZ1.out HZ2.out rfl (by decide) (.slice A6 Y.length c6) Y.length (Y.map Value.string) rfl (HO5.out.alloc _) ⟨w5.heap.size, 0, none⟩ 1 1 [.string x.name] rfl rfl ?c1 ?c2 ?c3 ?c4 ?c5 ?_)
                            case c2 => rfl
                            case c3 => unfold maxLen; omega
                            case c4 => omega
                            case c5 => have := HW5.out.size; omega
                            intro v' w6 hown6 hg6 _
                            have hlt6' := HO4.out.lt
                            have hr6 : ∀ k, (Value.slice A6 Y.length c6).ownBlock = some k -> w.heap.size <= k := fun k e => (hlt6' k e).1
                            have hne6 : some wp.heap.size ≠ (Value.slice A6 Y.length c6).ownBlock := fun e => by have := (hlt6' _ e.symm).2; omega
                            have HW6 := LH (Below.grown (HW5.out.alloc HW5.out.size _) hg6 (by have := HW5.out.size; simp; omega) hr6)
                            have q1 : w6.cell? ⟨wp.heap.size, 1, none⟩ = some (.slice A5 x.args.length c5) :=
                              (World.cell?_of_block (a := ⟨wp.heap.size, 1, none⟩) (hg6.block wp.heap.size (by have := cL q1; simp at this ⊢; omega) hne6)).trans ((Ext.al w5 _).keep q1)
                            have hown7 : w6.ownsRow w.heap.size 9 1 v' (Y ++ [x.name]).length ((Y ++ [x.name]).map Value.string) := by simpa using hown6
                            have HO6 := LH hown7
                            clear hown6 hown7 hg6 hlt6' hr6 hne6 q0
                            have HXA7 := LH (HXA.out.below HW6.out)
                            generalize x.args = gs at *
                            go_wp2
                            go_loopw [90] (fun i wr => ∃ r : Nat, r <= gs.length /\ i = .int .i64 r /\ Ext w6 wr /\ gs.all (okTy l.length) = (gs.drop r).all (okTy l.length)) (fun i _ => gs.length - (intOf i).toNat)
                            case atStart => exact ⟨0, Nat.zero_le _, rfl, Ext.rf _, by simp⟩
                            case round =>
                              obtain ⟨r, hr7, rfl, hb7, hno7⟩ := hrel
                              have HN7 := LH hno7; have HB7 := LH hb7; clear hno7 hb7
                              by_cases hlt7 : r < gs.length
                              . have HXA8 := LH (HXA7.out.below HB7.out)
                                obtain ⟨b7, o7, rfl, hbl7, e0, e1⟩ := HXA8.out.at_ hlt7
                                have HD7 := LH (dS hlt7)
                                generalize gs[r] = a at *
                                have HW8 := LH (HB7.out.tr (Ext.al wr (Obj.cells #[Value.int IntKind.i64 a.ty, Value.bool a.co] 165)))
                                by_cases hA : 0 <= a.ty <;> by_cases hB : a.ty <= l.length
                                rotate_left 3
                                . exfalso; omega
                                . have HQ8 := LH (okTy_good' hA hB)
                                  go_wp2
                                  go_roundw
                                  case rel => exact ⟨r + 1, by omega, by go_num, HW8.out, by rw [HN7.out, HD7.out, List.all_cons, HQ8.out]; rfl⟩
                                  case measure => simp [intOf]; omega
                                all_goals
                                  have HQ8 := LH (okTy_bad' (t := l.length) (a := a) (by omega))
                                  go_wp2
                                  go_ret
                                  exact ⟨rB (HNO4.out (by rw [HG7.out, HN7.out, HD7.out, List.all_cons, HQ8.out]; rfl)).symm, HW6.out.trans (HW8.out.mono HW6.out.size)⟩
                              . go_wp2
                                go_roundw
                                case rel => exact ⟨j + 1, Y ++ [x.name], by omega, by go_num, own_ext HO6.out HB7.out, by simp; omega, HW6.out.trans (HB7.out.mono HW6.out.size), by rw [HN4.out, HD4.out, isXs_cons, HG7.out, HN7.out, drop_end hlt7]; rfl, by rw [HA4.out, HD4.out]; simp [addXs]⟩
                                case measure => simp [intOf]; omega
                      . have HQ6 := LH (HNO4.out (isX_bad2 h66))
                        go_wp2
                        go_ret
                        exact ⟨rB HQ6.out.symm, HW5.out⟩
                  . go_wp2
                    go_roundw
                    case rel => exact ⟨k + 1, Y, by omega, by go_num, HO4.out, by omega, HB4.out, by rw [HN.out, HD.out, isDs_cons, HG2.out, HN4.out, HT.out, HA4.out, drop_end hlt4]; simp [isXs, addXs]⟩
                    case measure => simp [intOf]; omega
          . have HQ2 := LH (HNO.out (HBad2.out h6))
            by_cases h5 : 1 <= xs.length
            all_goals
              have h7 : ¬ xs.length <= 6 ∨ ¬ 1 <= xs.length := by omega
              go_wp2
              go_ret
              exact ⟨rB HQ2.out.symm, HW2.out⟩
      . go_wp2
        go_ret
        exact ⟨rB (by rw [HG.out, HN.out, drop_end hlt]; rfl), HB1.out⟩
  . have HQ := LH (HB.out h8)
    go_wp2
    go_ret
    exact ⟨rB HQ.out.symm, Ext.rf _⟩
end Go.Proofs.YtkdglplfcpindaaGreatDoor
