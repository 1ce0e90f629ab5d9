/- ref06: args: calls. -/
import Derived.Test.YtkdhhcidpklgoaaGreatDoorQ26
import Derived.BigQuiet
import Derived.Deep.RegionHeld3
namespace Go.Proofs.YtkdhhcidpklgoaaGreatDoor
open Go.RowKit Go.Shelf
attribute [local go_sem] Oper.semAt_some

set_option maxHeartbeats 16000000 in
set_option maxRecDepth 100000 in
theorem args6_13 (vd vf : Value) (C : Cg) (n ty : Int) (xa xb : Value) (w : World) (hC : RCg w vd vf C) (hS : ∀ f ∈ C.funs, f.ps.length ≤ 1048576) :
    Calls Tryz.prog 56 #[cV vd vf, .agg #[.int .i64 13, .int .i64 n, .int .i64 ty, xa, xb]] w (ArgsP C 13 n ty w) := by
  have HR := Lib.hid hC
  have HS := Lib.hid hS
  obtain ⟨Ad, cd, rfl, hcd, hmd⟩ := hC.d.form
  obtain ⟨Af, cf, rfl, hcf, hmf⟩ := hC.f.form
  unfold maxLen at hmd hmf
  clear hC hS
  have hx2 := Ext.al2 w (.cells #[.slice Ad C.decls.length cd, .slice Af C.funs.length cf] 25) (.cells #[.int .i64 13, .int .i64 n, .int .i64 ty, xa, xb] 36)
  have hb1 := Ext.lt (Ext.al (w.alloc (.cells #[.slice Ad C.decls.length cd, .slice Af C.funs.length cf] 25)) (.cells #[.int .i64 13, .int .i64 n, .int .i64 ty, xa, xb] 36)) (heapNew w (.cells #[.slice Ad C.decls.length cd, .slice Af C.funs.length cf] 25))
  have hb2 := heapNew2 w (.cells #[.slice Ad C.decls.length cd, .slice Af C.funs.length cf] 25) (.cells #[.int .i64 13, .int .i64 n, .int .i64 ty, xa, xb] 36)
  have HX2 := Lib.hid hx2; have HB1 := Lib.hid hb1; have HB2 := Lib.hid hb2
  have HOK := Lib.hid (okA_13 C n ty)
  clear hx2 hb1 hb2 hcd
  by_cases h0 : 0 ≤ n ∧ n < C.funs.length
  · obtain ⟨m, rfl⟩ : ∃ m : Nat, n = m := ⟨n.toNat, by omega⟩
    have hml : m < C.funs.length := by omega
    have hix : isIdxC (m : Int) C.funs.length = true := by unfold isIdxC; simp; omega
    have HOK2 : Hid (okA C 13 m ty = decide (ty = 0)) := by show _ = _; rw [HOK.out, hix, Bool.and_true]
    have HWA : Hid ((wantS C 13 m ty).map (· + 1) = ((C.funs[m]).ps).map kindA) := by
      show _ = _
      rw [kinds_wantS C 13 m _ (by omega)]
      congr 1
      unfold hdArgs
      rw [if_neg (by omega), if_pos rfl]
      have e : ((m : Int)).toNat = m := by omega
      rw [e, List.getD_eq_getElem?_getD, List.getElem?_eq_getElem hml]; rfl
    obtain ⟨b, o, vp, vv, ya, yb, kk, rfl, hbl, c0, c1, c2, c3, hnm, hps, hvv, hnd⟩ := HR.out.f.at_ hml
    have hla := HS.out _ (List.getElem_mem hml)
    have HK : Hid (∀ W, Ext w W → Calls Tryz.prog 87 #[vp] W fun e w' => (∃ z, e = .returned z ∧ RInts w' z (((C.funs[m]).ps).map kindA)) ∧ Ext W w') := fun W hW => kinds6_any vp _ W (hps.below hW) hla
    clear c0 c2 c3 hnm hps hvv hnd hla h0 hix
    generalize (C.funs[m]).ps = ags at *
    have hm1 : 0 ≤ (m : Int) := by omega
    have hm2 : ¬ (m : Int) < 0 := by omega
    have hm3 : (m : Int) < C.funs.length := by omega
    have e1 : decide ((m : Int) < 0) = false := decide_eq_false hm2
    have e2 : decide ((C.funs.length : Int) ≤ m) = false := decide_eq_false (by omega)
    by_cases h1 : 0 ≤ ty
    all_goals
      go_enter Tryz.func56, Tryz.ntmps56
      go_wp2
      generalize (w.alloc _).alloc _ = w2 at *
      have b0 := cellAt HB1.out 0
      have b1 := cellAt HB1.out 1
      have n0 := cellAt HB2.out 0
      have n1 := cellAt HB2.out 1
      have n2 := cellAt HB2.out 2
      have c1 := HX2.out.keep c1
      have HCX : Hid (∀ W, Ext w2 W → W.cell? ⟨w.heap.size, 1, none⟩ = some (.slice (some ⟨b, o, none⟩) C.funs.length cf) ∧ W.cell? ⟨w.heap.size + 1, 1, none⟩ = some (.int .i64 m) ∧ W.cell? ⟨w.heap.size + 1, 2, none⟩ = some (.int .i64 ty) ∧ W.cell? ⟨b, o + m * 8 + 1, none⟩ = some vp) := fun W hW => ⟨hW.keep b1, hW.keep n1, hW.keep n2, hW.keep c1⟩
      go_region_held3 (fun W => W.cell? ⟨w.heap.size, 1, none⟩ = some (.slice (some ⟨b, o, none⟩) C.funs.length cf) ∧ W.cell? ⟨w.heap.size + 1, 1, none⟩ = some (.int .i64 m) ∧ W.cell? ⟨w.heap.size + 1, 2, none⟩ = some (.int .i64 ty) ∧ W.cell? ⟨b, o + m * 8 + 1, none⟩ = some vp)
        (first | exact HCX.out _ (Ext.rf _).drew | exact HCX.out _ HX5.out)
        (first
          | (go_at_call 87; (with_reducible refine (HK.out _ (by first | exact HX2.out | exact HX2.out.drew)).mono ?_); rintro e w5 ⟨⟨u5, rfl, hu5⟩, hx5⟩; have HX5 : Hid (Ext w2 w5) := Lib.hid (Ext.tr (b := w2.drew) (Ext.rf w2).drew hx5); have HU5 := Lib.hid hu5; clear hu5 hx5)
          | fail "none")
    all_goals
      go_wp2
      refine bodyPost_ret (results_tmp3 rfl _ _ _) rfl ?_
      exact argsP_of _ _ _ rfl (by rw [HOK2.out]; rfl) ⟨by rw [HWA.out]; exact HU5.out, rfl⟩ (HX2.out.tr HX5.out)
  · have HNO : Hid (okA C 13 n ty = false) := by
      show _ = _
      rw [HOK.out]
      have : isIdxC n C.funs.length = false := by
        unfold isIdxC
        by_cases h1 : 0 ≤ n
        · rw [decide_eq_true h1, decide_eq_false (by omega)]; rfl
        · rw [decide_eq_false h1]; rfl
      rw [this, Bool.and_false]
    clear hcf
    by_cases h1 : 0 ≤ ty <;> by_cases h2 : 0 ≤ n
    all_goals
      first
        | have e1 : decide (n < 0) = false := decide_eq_false (by omega)
        | have e1 : decide (n < 0) = true := decide_eq_true (by omega)
      first
        | have e2 : decide ((C.funs.length : Int) ≤ n) = true := decide_eq_true (by omega)
        | skip
      go_enter Tryz.func56, Tryz.ntmps56
      go_wp2
    all_goals
      refine bodyPost_ret (results_tmp3 rfl _ _ _) rfl ?_
      exact argsP_no _ _ rfl HNO.out (by first | exact HX2.out | exact HX2.out.drewN _)
end Go.Proofs.YtkdhhcidpklgoaaGreatDoor

/- ref06: args, whatever the operator. -/
namespace Go.Proofs.YtkdhhcidpklgoaaGreatDoor
open Go.RowKit Go.Shelf

theorem args6_any (vd vf : Value) (C : Cg) (op n ty : Int) (xa xb : Value) (w : World) (hC : RCg w vd vf C) (hS : ∀ d ∈ C.decls, ∀ x ∈ d.xtors, x.args.length ≤ 1048576) (hF : ∀ f ∈ C.funs, f.ps.length ≤ 1048576) :
    Calls Tryz.prog 56 #[cV vd vf, .agg #[.int .i64 op, .int .i64 n, .int .i64 ty, xa, xb]] w (ArgsP C op n ty w) := by
  by_cases h : op < 0 ∨ 14 < op
  · exact args6_no vd vf C op n ty xa xb w hC.d h
  · have h2 : op = 0 ∨ op = 1 ∨ op = 2 ∨ op = 3 ∨ op = 4 ∨ op = 5 ∨ op = 6 ∨ op = 7 ∨ op = 8 ∨ op = 9 ∨ op = 10 ∨ op = 11 ∨ op = 12 ∨ op = 13 ∨ op = 14 := by omega
    rcases h2 with rfl | rfl | rfl | rfl | rfl | rfl | rfl | rfl | rfl | rfl | rfl | rfl | rfl | rfl | rfl
    · exact args6_0 vd vf C n ty xa xb w hC.d
    · exact args6_1 vd vf C n ty xa xb w hC.d
    · exact args6_2 vd vf C n ty xa xb w hC.d hS
    · exact args6_3 vd vf C n ty xa xb w hC.d
    · exact args6_4 vd vf C n ty xa xb w hC.d
    · exact args6_5 vd vf C n ty xa xb w hC.d
    · exact args6_6 vd vf C n ty xa xb w hC.d hS
    · exact args6_7 vd vf C n ty xa xb w hC.d
    · exact args6_8 vd vf C n ty xa xb w hC.d
    · exact args6_9 vd vf C n ty xa xb w hC.d
    · exact args6_10 vd vf C n ty xa xb w hC.d
    · exact args6_11 vd vf C n ty xa xb w hC.d
    · exact args6_12 vd vf C n ty xa xb w hC.d
    · exact args6_13 vd vf C n ty xa xb w hC hF
    · exact args6_14 vd vf C n ty xa xb w hC.d
end Go.Proofs.YtkdhhcidpklgoaaGreatDoor

/- ref06: validity in the order in which the reference asks for it. -/
namespace Go.Proofs.YtkdhhcidpklgoaaGreatDoor
open Go.RowKit

theorem bindsB_ref (v : List Int) (co : List Bool) (ar : List Arg) : bindsB v co ar = (decide (v.length = ar.length) && eqB co (ar.map Arg.co) && distR v (ar.map Arg.co)) := by
  unfold bindsB eqB
  by_cases h1 : v.length = ar.length
  · by_cases h2 : co = ar.map Arg.co
    · subst h2
      rw [distR_bindF v ar h1, decide_eq_true h1]
      simp
    · have h3 : (co == ar.map Arg.co) = false := by simpa using h2
      rw [h3, Bool.and_false, Bool.false_and]
      by_cases h4 : co.length = ar.length
      · cases hb : bindF (fun _ => false) (zipCo v co) co ar
        · simp <;> omega
        · exfalso
          have hz : (zipCo v co).length = co.length := by rw [zipCo_length]; omega
          obtain ⟨g1, -⟩ := (bindF_iff _ _ _ _ hz h4).1 hb
          refine h2 (List.ext_getElem? fun i => ?_)
          by_cases hi : i < co.length
          · have e1 : (zipCo v co)[i]? = some ((zipCo v co)[i]'(by omega)) := List.getElem?_eq_getElem _
            obtain ⟨q1, -, -⟩ := g1 i _ _ _ e1 (List.getElem?_eq_getElem hi) (List.getElem?_eq_getElem (show i < ar.length by omega))
            rw [List.getElem?_eq_getElem hi, List.getElem?_map, List.getElem?_eq_getElem (show i < ar.length by omega), q1]; rfl
          · rw [List.getElem?_eq_none (by omega), List.getElem?_eq_none (by rw [List.length_map]; omega)]
      · rw [decide_eq_false h4]; simp
  · rw [decide_eq_false h1]; simp
/-- Whether a node is valid. -/
def vN (C : Cg) (S : Sc) (t : Nd) : Bool := !decide (sortN C S t = 3)
theorem sortN_of (C : Cg) (S : Sc) (t : Nd) : sortN C S t = 3 ∨ sortN C S t = sortOp t.op := by
  rw [sortN_eq]
  generalize (if leafB t.op then [] else sortA C (addS S (muV t.op t.n)) t.args) = fa
  generalize (if leafB t.op then [] else sortB C S t.brs) = fb
  unfold upN
  split
  · exact .inr rfl
  · exact .inl rfl
theorem sort_is {C : Cg} {S : Sc} {t : Nd} {s : Int} (h1 : 0 ≤ s) (h2 : s ≤ 2) : decide (sortN C S t = s) = (decide (kindI t.op = s + 1) && vN C S t) := by
  unfold vN kindI
  rcases sortN_of C S t with h | h
  · rw [h]
    rw [decide_eq_false (by omega)]; simp
  · rw [h]
    have hr := sortOp_range t.op
    by_cases h3 : sortOp t.op = 3
    · rw [h3, decide_eq_false (by omega)]; simp
    · rw [if_neg h3, decide_eq_false h3]
      by_cases h4 : sortOp t.op = s
      · rw [decide_eq_true h4, decide_eq_true (by omega)]; rfl
      · rw [decide_eq_false h4, decide_eq_false (by omega)]; rfl
/-- The children are valid and of these kinds. -/
def chB (C : Cg) (S : Sc) : List Nd → List Int → Bool
  | x :: r, k :: ks => (decide (kindI x.op = k) && vN C S x) && chB C S r ks
  | _, _ => true
theorem chB_step {C : Cg} {S : Sc} {l : List Nd} {ks : List Int} {i : Nat} (h : i < l.length) (h2 : i < ks.length) : chB C S (l.drop i) (ks.drop i) = ((decide (kindI l[i].op = ks[i]) && vN C S l[i]) && chB C S (l.drop (i + 1)) (ks.drop (i + 1))) := by
  rw [List.drop_eq_getElem_cons h, List.drop_eq_getElem_cons h2, chB]
theorem chB_end {C : Cg} {S : Sc} {l : List Nd} {ks : List Int} {i : Nat} (h : l.length ≤ i) : chB C S (l.drop i) (ks.drop i) = true := by
  rw [List.drop_eq_nil_of_le h]
  unfold chB; rfl
theorem chB_sortA (C : Cg) (S : Sc) : ∀ (l : List Nd) (ks : List Int), l.length = ks.length → (∀ s ∈ ks, 0 ≤ s ∧ s ≤ 2) → decide (sortA C S l = ks) = chB C S l (ks.map (· + 1))
  | [], [], _, _ => rfl
  | x :: r, s :: ks, h, hs => by
    have ih := chB_sortA C S r ks (by simpa using h) (fun y hy => hs y (List.mem_cons_of_mem _ hy))
    obtain ⟨h1, h2⟩ := hs s (List.mem_cons_self ..)
    show decide (sortN C S x :: sortA C S r = s :: ks) = ((decide (kindI x.op = s + 1) && vN C S x) && chB C S r (ks.map (· + 1)))
    rw [← ih, ← sort_is h1 h2]
    simp only [List.cons.injEq, Bool.decide_and]
  | [], _ :: _, h, _ => by simp at h
  | _ :: _, [], h, _ => by simp at h
/-- What is asked of a branch. -/
def brH (ar : List Arg) (b : Br) : Bool := decide (b.1.length = ar.length) && eqB b.2.1 (ar.map Arg.co) && distR b.1 (ar.map Arg.co)
def brK (C : Cg) (S : Sc) (b : Br) : Bool := decide (kindI b.2.2.op = 3) && vN C (addS S (zipCo b.1 b.2.1)) b.2.2
def brB (C : Cg) (S : Sc) : List Xtor → List Br → Bool
  | x :: xs, b :: bs => (brH x.args b && brK C S b) && brB C S xs bs
  | _, _ => true
theorem brB_nil {C : Cg} {S : Sc} : ∀ xs : List Xtor, brB C S xs [] = true
  | [] => rfl
  | _ :: _ => rfl
theorem brB_step {C : Cg} {S : Sc} {xs : List Xtor} {l : List Br} {i : Nat} (h : i < l.length) (h2 : i < xs.length) : brB C S (xs.drop i) (l.drop i) = ((brH (xs[i]).args l[i] && brK C S l[i]) && brB C S (xs.drop (i + 1)) (l.drop (i + 1))) := by
  rw [List.drop_eq_getElem_cons h, List.drop_eq_getElem_cons h2, brB]
theorem brB_end {C : Cg} {S : Sc} {xs : List Xtor} {l : List Br} {i : Nat} (h : l.length ≤ i) : brB C S (xs.drop i) (l.drop i) = true := by
  rw [List.drop_eq_nil_of_le h]
  exact brB_nil _
theorem brB_fit (C : Cg) (S : Sc) : ∀ (xs : List Xtor) (l : List Br), fitBr xs l (sortB C S l) = brB C S xs l
  | x :: xs, (v, c, t) :: l => by
    have ih := brB_fit C S xs l
    show ((bindsB v c x.args && decide (sortN C (addS S (zipCo v c)) t = 2)) && fitBr xs l (sortB C S l)) = _
    rw [ih, bindsB_ref, sort_is (by decide) (by decide)]
    rfl
  | [], [] => rfl
  | [], _ :: _ => rfl
  | _ :: _, [] => rfl
theorem wantS_range {C : Cg} {op n ty : Int} : ∀ s ∈ wantS C op n ty, 0 ≤ s ∧ s ≤ 2 := by
  intro s hs
  unfold wantS at hs
  split at hs
  · obtain ⟨a, _, rfl⟩ := List.mem_map.1 hs
    unfold coI; split <;> decide
  · unfold argsS at hs
    repeat' (split at hs)
    all_goals
      simp only [List.mem_cons, List.not_mem_nil, or_false] at hs
      try omega
theorem refers_true {C : Cg} {q : Bool} {op n ty : Int} (h0 : op ≠ 0) (h5 : op ≠ 5) : refersB C q op n ty = refersB C true op n ty := by
  have h : ¬ (op = 0 ∨ op = 5) := fun e => e.elim h0 h5
  unfold refersB
  simp only [if_neg h]
theorem refers_var {C : Cg} {q : Bool} {op n ty : Int} (h : op = 0 ∨ op = 5) : refersB C q op n ty = (refersB C true op n ty && q) := by
  unfold refersB
  rw [if_pos h, if_pos h, Bool.and_true]
/-- The reference's order. -/
theorem vN_eq (C : Cg) (S : Sc) (t : Nd) : vN C S t = ((okA C t.op t.n t.ty && (decide (t.args.length = ((wantS C t.op t.n t.ty).map (· + 1)).length) && decide ((t.brs.length : Int) = brsN C t.op t.ty))) &&
    (if t.op = 0 ∨ t.op = 5 then inN S t.op t.n else chB C (addS S (muV t.op t.n)) t.args ((wantS C t.op t.n t.ty).map (· + 1)) && brB C S (xtorsC C t.ty) t.brs)) := by
  unfold vN
  rw [sortN_eq]
  unfold upN okN okA brsN
  rw [List.length_map]
  by_cases h3 : sortOp t.op = 3
  · rw [h3]; simp
  rw [decide_eq_false h3, Bool.not_false, Bool.and_true]
  have hup : ∀ q : Bool, (!decide ((if q then sortOp t.op else 3) = 3)) = q := fun q => by
    cases q
    · rfl
    · show (!decide (sortOp t.op = 3)) = true
      rw [decide_eq_false h3]; rfl
  rw [hup]
  generalize ((usesN t.op || decide (t.n = 0)) && (usesT t.op || decide (t.ty = 0))) = ut
  have hbl : decide (t.brs.length = (if usesB t.op then xtorsC C t.ty else []).length) = decide ((t.brs.length : Int) = if usesB t.op then ((xtorsC C t.ty).length : Int) else 0) := by
    cases usesB t.op
    · simp <;> omega
    · simp <;> omega
  rw [hbl]
  by_cases ha : t.args.length = (wantS C t.op t.n t.ty).length
  rotate_left
  · rw [decide_eq_false ha]; simp
  rw [decide_eq_true ha]
  by_cases hb : (t.brs.length : Int) = if usesB t.op then ((xtorsC C t.ty).length : Int) else 0
  rotate_left
  · rw [decide_eq_false hb]; simp
  rw [decide_eq_true hb]
  by_cases hv : t.op = 0 ∨ t.op = 5
  · have hw : wantS C t.op t.n t.ty = [] := by unfold wantS argsS; rcases hv with h | h <;> rw [h] <;> rfl
    have hu : usesB t.op = false := by rcases hv with h | h <;> rw [h] <;> rfl
    have hl : leafB t.op = true := by rcases hv with h | h <;> rw [h] <;> rfl
    rw [if_pos hv, refers_var hv, hw, hu, hl]
    have he : ∀ l, fitBr (if (false = true) then xtorsC C t.ty else []) t.brs l = true := fun l => rfl
    rw [he]
    simp [Bool.and_assoc]
  · rw [if_neg hv, refers_true (by omega) (by omega)]
    by_cases h1 : t.op = 1
    · have hw : wantS C t.op t.n t.ty = [] := by unfold wantS argsS; rw [h1]; rfl
      have hu : usesB t.op = false := by rw [h1]; rfl
      have hl : leafB t.op = true := by rw [h1]; rfl
      rw [hw] at ha ⊢
      rw [hu] at hb ⊢
      rw [hl]
      have ha2 : t.args = [] := List.eq_nil_of_length_eq_zero ha
      have hb2 : t.brs = [] := List.eq_nil_of_length_eq_zero (by simpa using hb)
      rw [ha2, hb2]
      rw [brB_nil]
      simp [chB, fitBr]
    · have hl : leafB t.op = false := by unfold leafB; rw [decide_eq_false (by omega), decide_eq_false (by omega), decide_eq_false (by omega)]; rfl
      rw [hl]
      have hA := chB_sortA C (addS S (muV t.op t.n)) t.args _ ha wantS_range
      have hB : fitBr (if usesB t.op then xtorsC C t.ty else []) t.brs (sortB C S t.brs) = brB C S (xtorsC C t.ty) t.brs := by
        cases hu : usesB t.op
        · rw [hu] at hb
          have hb2 : t.brs = [] := List.eq_nil_of_length_eq_zero (by simpa using hb)
          rw [hb2]
          exact (brB_nil _).symm
        · exact brB_fit C S _ _
      rw [show (if false = true then ([] : List Int) else sortB C S t.brs) = sortB C S t.brs from rfl, hB, show (if false = true then ([] : List Int) else sortA C (addS S (muV t.op t.n)) t.args) = sortA C (addS S (muV t.op t.n)) t.args from rfl, hA]
      simp [Bool.and_assoc]
end Go.Proofs.YtkdhhcidpklgoaaGreatDoor

/- ref06: the children of a node. -/
namespace Go.Proofs.YtkdhhcidpklgoaaGreatDoor
open Go.RowKit Go.Shelf Go.Maps
attribute [local go_sem] Oper.semAt_some

theorem RC.maps {w : World} {p mx ma n : Nat} {c : Cn} (h : RC w p mx ma n c) : ∀ j, (j = mx ∨ j = ma) → ∃ es clock, w.heap[j]? = some (.map es clock) := fun j hj => by
  rcases hj with rfl | rfl
  · exact h.mp.is
  · exact h.mq.is
/-- A row stays while the counts are turned. -/
theorem RInts.trc {w w' : World} {p mx ma n : Nat} {c : Cn} {v : Value} {l : List Int} (h : RInts w v l) (hr : RC w p mx ma n c) (ht : TrC mx ma w w') : RInts w' v l := by
  obtain ⟨A, k, rfl, h1, h2, h3⟩ := h
  refine ⟨A, k, rfl, h1, h2, fun i a hi => ?_⟩
  obtain ⟨b, o, rfl, hlt, h4, h5⟩ := h3 i a hi
  exact ⟨b, o, rfl, Nat.lt_of_lt_of_le hlt ht.size, cell_only ht hr.maps h4, h5⟩
/-- A box stays while the counts are turned. -/
theorem TrC.cells {w w' : World} {p mx ma n : Nat} {c : Cn} (h : TrC mx ma w w') (hr : RC w p mx ma n c) {j : Nat} {cs : Array Value} {T : TypeId} {z : Nat × Nat} (hj : w.heap[j]? = some (.cells cs T z)) : w'.heap[j]? = some (.cells cs T z) :=
  h.lt hj (fun hc => by obtain ⟨es, cl, e⟩ := hr.maps j hc; rw [hj] at e; cases e)
section
variable (C : Cg) (vd vf : Value) (wA : World) (p mx ma : Nat)
/-- What Valid does at a node. -/
def ValS (t : Nd) (va vb : Value) : Prop :=
  ∀ (w : World) (n : Nat) (c : Cn) (S : Sc) (m : Int), Ext wA w → RC w p mx ma n c → CnS c S m → m + 2 * bndN t ≤ 1000000000 → n + 2 * bndN t ≤ 1000000000 →
    Calls Tryz.prog 25 #[cV vd vf, .pointer (some ⟨p, 0, none⟩), nV t va vb] w fun e w' => e = .returned (.bool (vN C S t)) ∧ RC w' p mx ma (n + 2 * bndN t) c ∧ TrC mx ma w w'
/-- What children does. -/
def ChiS (t : Nd) (va vb : Value) : Prop :=
  ∀ (w : World) (n : Nat) (c : Cn) (S : Sc) (m : Int) (v : Value) (ks : List Int), Ext wA w → RC w p mx ma n c → CnS c S m → m + 2 * bndA t.args ≤ 1000000000 → n + 2 * bndA t.args ≤ 1000000000 → RInts w v ks → t.args.length = ks.length →
    Calls Tryz.prog 59 #[cV vd vf, .pointer (some ⟨p, 0, none⟩), nV t va vb, v] w fun e w' => e = .returned (.bool (chB C S t.args ks)) ∧ RC w' p mx ma (n + 2 * bndA t.args) c ∧ TrC mx ma w w'
end
set_option maxHeartbeats 16000000 in
set_option maxRecDepth 100000 in
theorem children6 (vd vf : Value) (C : Cg) (wA : World) (p mx ma : Nat) (k : Nat) (t : Nd) (va vb : Value) (hC : RCg wA vd vf C) (ht : RNd wA (k + 1) t va vb) (hb : BN t)
    (hA : ∀ (i : Nat) x, t.args[i]? = some x → ∀ xa xb, RNd wA k x xa xb → ValS C vd vf wA p mx ma x xa xb) (hm1 : wA.heap.size ≤ mx) (hm2 : wA.heap.size ≤ ma) : ChiS C vd vf wA p mx ma t va vb := by
  intro w n c S m v ks hx hrc hcn hmb hnb hv hlen
  have hna := hb.na
  obtain ⟨Ad, cd, rfl, -, -⟩ := hC.d.form
  obtain ⟨Af, cf, rfl, -, -⟩ := hC.f.form
  obtain ⟨-, ⟨A, ca, rfl, -, hma⟩, ⟨B, d, rfl, -, hmb2⟩⟩ := ht.form
  unfold maxLen at hma
  have HX2 := Lib.hid (Ext.al2 w (.cells #[.slice Ad C.decls.length cd, .slice Af C.funs.length cf] 25) (.cells #[.int .i64 t.op, .int .i64 t.n, .int .i64 t.ty, .slice A t.args.length ca, .slice B t.brs.length d] 36))
  have HB1 : Hid (((w.alloc (.cells #[.slice Ad C.decls.length cd, .slice Af C.funs.length cf] 25)).alloc (.cells #[.int .i64 t.op, .int .i64 t.n, .int .i64 t.ty, .slice A t.args.length ca, .slice B t.brs.length d] 36)).heap[w.heap.size]? = some (.cells #[.slice Ad C.decls.length cd, .slice Af C.funs.length cf] 25 (0, 0))) := Ext.lt (Ext.al _ _) (heapNew w _)
  have HB2 := Lib.hid (heapNew2 w (.cells #[.slice Ad C.decls.length cd, .slice Af C.funs.length cf] 25) (.cells #[.int .i64 t.op, .int .i64 t.n, .int .i64 t.ty, .slice A t.args.length ca, .slice B t.brs.length d] 36))
  have HX := Lib.hid hx; have HRC := Lib.hid hrc; have HCN := Lib.hid hcn; have HT := Lib.hid ht; have HA := Lib.hid hA; have HV := Lib.hid hv; have HL := Lib.hid hlen
  obtain ⟨Ak, ck, rfl, -, hmk⟩ := hv.form
  unfold maxLen at hmk
  clear hC ht hb hA hx hrc hcn hv hlen
  go_enter Tryz.func59, Tryz.ntmps59
  go_wp2_with fail
  generalize (w.alloc _).alloc _ = w2 at *
  have HX22 : Hid (Ext wA w2) := HX.out.tr HX2.out
  have HRC2 : Hid (RC w2 p mx ma n c) := HRC.out.ext HX2.out
  have r3 := cellAt HB2.out 3
  go_wp2
  clear r3
  go_loopw [14] (fun i wr => ∃ (j : Nat), j ≤ t.args.length ∧ i = .int .i64 j ∧ RC wr p mx ma (n + 2 * bndA (t.args.take j)) c ∧ TrC mx ma w2 wr ∧ chB C S t.args ks = chB C S (t.args.drop j) (ks.drop j)) (fun i _ => t.args.length - (intOf i).toNat)
  case atStart => exact ⟨0, Nat.zero_le _, rfl, by simpa [bndA] using HRC2.out, Only.rf _ _, rfl⟩
  case round =>
    obtain ⟨j, hj, rfl, hs, htr, hty⟩ := hrel
    have HS := Lib.hid hs; have HTR := Lib.hid htr; have HTY := Lib.hid hty
    have HXR : Hid (Ext wA wr) := htr.below HX22.out hm1 hm2
    have HBR1 := Lib.hid (htr.cells HRC2.out HB1.out)
    have HBR2 := Lib.hid (htr.cells HRC2.out HB2.out)
    clear hs htr hty
    by_cases hlt : j < t.args.length
    · obtain ⟨b, o, xa, xb, rfl, hbl, yc, yt⟩ := HT.out.arg hlt
      obtain ⟨c0, c1, c2, c3, c4⟩ := yc.below HXR.out
      have hjk : j < ks.length := by have := HL.out; omega
      have HXS := Lib.hid (HA.out j _ (List.getElem?_eq_getElem hlt) xa xb yt)
      obtain ⟨b2, o2, rfl, hbl2, y0, hok⟩ := ((HV.out.below HX2.out).trc HRC2.out HTR.out).at_ hjk
      have HST := Lib.hid (chB_step (C := C) (S := S) hlt hjk)
      have HBT := Lib.hid (bndA_take hlt)
      obtain ⟨_, ⟨Ax, cx, rfl, -, -⟩, ⟨Bx, dx, rfl, -, -⟩⟩ := yt.form
      clear yc yt
      generalize t.args[j] = x at *
      have hbt := HBT.out
      have HEX := Lib.hid (Ext.al wr (.cells #[.int .i64 x.op, .int .i64 x.n, .int .i64 x.ty, .slice Ax x.args.length cx, .slice Bx x.brs.length dx] 36))
      have HNX := Lib.hid (heapNew wr (.cells #[.int .i64 x.op, .int .i64 x.n, .int .i64 x.ty, .slice Ax x.args.length cx, .slice Bx x.brs.length dx] 36))
      have hjl : (j : Int) < t.args.length := by omega
      have hjl2 : (j : Int) < ks.length := by omega
      have hj0 : (0 : Int) ≤ j := by omega
      obtain ⟨kk, hkk⟩ : ∃ kk, ks[j] = kk := ⟨_, rfl⟩
      rw [hkk] at HST y0
      have HKI : Hid (∀ W, Calls Tryz.prog 16 #[.int .i64 x.op] W fun e w' => e = .returned (.int .i64 (kindI x.op)) ∧ W = w') := fun W => kind6_any x.op W
      obtain ⟨ki, hki⟩ : ∃ ki, kindI x.op = ki := ⟨_, rfl⟩
      rw [hki] at HST HKI
      clear hkk hki hok
      go_wp2
      have HCE : Hid (∀ W : World, Ext wA W → W.heap[w.heap.size]? = some (.cells #[.slice Ad C.decls.length cd, .slice Af C.funs.length cf] 25 (0, 0)) → W.heap[wr.heap.size]? = some (.cells #[.int .i64 x.op, .int .i64 x.n, .int .i64 x.ty, .slice Ax x.args.length cx, .slice Bx x.brs.length dx] 36 (0, 0)) → W.cell? ⟨b2, o2 + j, none⟩ = some (.int .i64 kk) → W.cell? ⟨w.heap.size, 0, none⟩ = some (.slice Ad C.decls.length cd) ∧ W.cell? ⟨w.heap.size, 1, none⟩ = some (.slice Af C.funs.length cf) ∧ W.cell? ⟨wr.heap.size, 0, none⟩ = some (.int .i64 x.op) ∧ W.cell? ⟨wr.heap.size, 1, none⟩ = some (.int .i64 x.n) ∧ W.cell? ⟨wr.heap.size, 2, none⟩ = some (.int .i64 x.ty) ∧ W.cell? ⟨wr.heap.size, 3, none⟩ = some (.slice Ax x.args.length cx) ∧ W.cell? ⟨wr.heap.size, 4, none⟩ = some (.slice Bx x.brs.length dx) ∧ W.cell? ⟨b2, o2 + j, none⟩ = some (.int .i64 kk)) := fun W hW h0 h1 h2 =>
        ⟨cellAt h0 0, cellAt h0 1, cellAt h1 0, cellAt h1 1, cellAt h1 2, cellAt h1 3, cellAt h1 4, h2⟩
      have HCX : Hid (∀ W, Ext (wr.alloc (.cells #[.int .i64 x.op, .int .i64 x.n, .int .i64 x.ty, .slice Ax x.args.length cx, .slice Bx x.brs.length dx] 36)) W → W.cell? ⟨w.heap.size, 0, none⟩ = some (.slice Ad C.decls.length cd) ∧ W.cell? ⟨w.heap.size, 1, none⟩ = some (.slice Af C.funs.length cf) ∧ W.cell? ⟨wr.heap.size, 0, none⟩ = some (.int .i64 x.op) ∧ W.cell? ⟨wr.heap.size, 1, none⟩ = some (.int .i64 x.n) ∧ W.cell? ⟨wr.heap.size, 2, none⟩ = some (.int .i64 x.ty) ∧ W.cell? ⟨wr.heap.size, 3, none⟩ = some (.slice Ax x.args.length cx) ∧ W.cell? ⟨wr.heap.size, 4, none⟩ = some (.slice Bx x.brs.length dx) ∧ W.cell? ⟨b2, o2 + j, none⟩ = some (.int .i64 kk)) := fun W hW => HCE.out W (HXR.out.tr (HEX.out.tr hW)) ((HEX.out.tr hW).lt HBR1.out) (hW.lt HNX.out) ((HEX.out.tr hW).keep y0)
      have HVA : Hid (∀ W, Ext (wr.alloc (.cells #[.int .i64 x.op, .int .i64 x.n, .int .i64 x.ty, .slice Ax x.args.length cx, .slice Bx x.brs.length dx] 36)) W → Calls Tryz.prog 25 #[cV (.slice Ad C.decls.length cd) (.slice Af C.funs.length cf), .pointer (some ⟨p, 0, none⟩), nV x (.slice Ax x.args.length cx) (.slice Bx x.brs.length dx)] W fun e w' => e = .returned (.bool (vN C S x)) ∧ (RC w' p mx ma (n + 2 * bndA (t.args.take j) + 2 * bndN x) c ∧ TrC mx ma w2 w') ∧ (w'.cell? ⟨w.heap.size, 0, none⟩ = some (.slice Ad C.decls.length cd) ∧ w'.cell? ⟨w.heap.size, 1, none⟩ = some (.slice Af C.funs.length cf) ∧ w'.cell? ⟨wr.heap.size, 0, none⟩ = some (.int .i64 x.op) ∧ w'.cell? ⟨wr.heap.size, 1, none⟩ = some (.int .i64 x.n) ∧ w'.cell? ⟨wr.heap.size, 2, none⟩ = some (.int .i64 x.ty) ∧ w'.cell? ⟨wr.heap.size, 3, none⟩ = some (.slice Ax x.args.length cx) ∧ w'.cell? ⟨wr.heap.size, 4, none⟩ = some (.slice Bx x.brs.length dx) ∧ w'.cell? ⟨b2, o2 + j, none⟩ = some (.int .i64 kk))) := fun W hW => by
        have hrW := HS.out.ext (HEX.out.tr hW)
        refine (HXS.out W (n + 2 * bndA (t.args.take j)) c S m (HXR.out.tr (HEX.out.tr hW)) hrW HCN.out (by omega) (by omega)).mono ?_
        rintro e w' ⟨rfl, h1, h2⟩
        have h3 := TrC.tr HTR.out (TrC.tr (TrC.ext (HEX.out.tr hW)) h2)
        exact ⟨rfl, ⟨h1, h3⟩, HCE.out w' (h3.below HX22.out hm1 hm2) (h3.cells HRC2.out HB1.out) (h2.cells hrW (hW.lt HNX.out)) (cell_only h2 hrW.maps ((HEX.out.tr hW).keep y0))⟩
      obtain ⟨r, hr⟩ : ∃ r, vN C S x = r := ⟨_, rfl⟩
      rw [hr] at HVA HST
      clear c0 c1 c2 c3 c4 hr
      generalize wr.alloc _ = w1 at *
      obtain ⟨k0, k1, l0, l1, l2, l3, l4, m0⟩ := HCX.out w1 (Ext.rf _)
      by_cases hkq : ki = kk
      · subst hkq
        have HRT : Hid (chB C S t.args ks = (r && chB C S (t.args.drop (j + 1)) (ks.drop (j + 1)))) := by show _ = _; rw [HTY.out, HST.out]; simp
        go_region_held3 (fun w' => w'.cell? ⟨w.heap.size, 0, none⟩ = some (.slice Ad C.decls.length cd) ∧ w'.cell? ⟨w.heap.size, 1, none⟩ = some (.slice Af C.funs.length cf) ∧ w'.cell? ⟨wr.heap.size, 0, none⟩ = some (.int .i64 x.op) ∧ w'.cell? ⟨wr.heap.size, 1, none⟩ = some (.int .i64 x.n) ∧ w'.cell? ⟨wr.heap.size, 2, none⟩ = some (.int .i64 x.ty) ∧ w'.cell? ⟨wr.heap.size, 3, none⟩ = some (.slice Ax x.args.length cx) ∧ w'.cell? ⟨wr.heap.size, 4, none⟩ = some (.slice Bx x.brs.length dx) ∧ w'.cell? ⟨b2, o2 + j, none⟩ = some (.int .i64 ki))
          (first | exact HCX.out _ (Ext.rf _).drew | exact HC8.out | exact HCX.out _ (Ext.rf _) | fail "KEEP")
          (first
            | (go_at_call 16; (with_reducible refine (HKI.out _).mono ?_); rintro e w7 ⟨rfl, rfl⟩)
            | (go_at_call 25; (with_reducible refine (HVA.out _ (by first | exact (Ext.rf _).drew | exact Ext.rf _ | fail "CALL")).mono ?_); rintro e w8 ⟨rfl, ⟨hs8, ht8⟩, hc8⟩; have HS8 := Lib.hid hs8; have HT8 := Lib.hid ht8; have HC8 := Lib.hid hc8; clear hs8 ht8 hc8)
            | fail "ARM")
        all_goals
          cases r
          · go_wp2
            go_ret
            exact ⟨ret_bool (by rw [HRT.out]; rfl), HS8.out.mono (by omega), TrC.tr (TrC.ext HX2.out) HT8.out⟩
          · go_wp2
            exact ⟨⟨j + 1, by omega, by go_num, by rw [HBT.out.1]; exact HS8.out.mono (by omega), HT8.out, by rw [HRT.out]; rfl⟩, by simp [intOf]; omega⟩
      · have HRT : Hid (chB C S t.args ks = false) := by show _ = _; rw [HTY.out, HST.out, decide_eq_false hkq]; simp
        have HKQ : Hid (∀ W, Calls Tryz.prog 16 #[.int .i64 x.op] W fun e w' => e = .returned (.int .i64 ki) ∧ w' = W) := fun W => (HKI.out W).mono (fun _ _ h => ⟨h.1, h.2.symm⟩)
        have hq1 : (ki == kk) = false := by simpa using hkq
        have hq2 : (ki != kk) = true := by rw [bne, hq1]; rfl
        go_quiet ((go_at_call 16; exact Calls.quiet_of_same (HKQ.out _)))
        go_wp2
        go_ret
        exact ⟨ret_bool HRT.out.symm, (HS.out.ext (HEX.out.drewN _)).mono (by omega), TrC.tr (TrC.ext HX2.out) (TrC.tr HTR.out (TrC.ext (HEX.out.drewN _)))⟩
    · have hje : j = t.args.length := by omega
      have HR : Hid (chB C S t.args ks = true) := by show _ = _; rw [HTY.out, chB_end (by omega)]
      have HSr : Hid (RC wr p mx ma (n + 2 * bndA t.args) c) := by have := HS.out; rw [List.take_of_length_le (by omega)] at this; exact this
      go_wp2
      go_ret
      exact ⟨ret_bool HR.out.symm, HSr.out, TrC.tr (TrC.ext HX2.out) HTR.out⟩
end Go.Proofs.YtkdhhcidpklgoaaGreatDoor
