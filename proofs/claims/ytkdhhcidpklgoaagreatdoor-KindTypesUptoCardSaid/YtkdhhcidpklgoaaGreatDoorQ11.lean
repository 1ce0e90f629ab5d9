/- node: Fold, at a leaf. -/
import Derived.Test.YtkdhhcidpklgoaaGreatDoorQ10
namespace Go.Proofs.YtkdhhcidpklgoaaGreatDoor
open Go.RowKit Go.Shelf
attribute [local go_sem] Oper.semAt_some

/-- The method that is handed to Fold. -/
abbrev upV (vd vf : Value) : Value := .func (.func 94) #[cV vd vf] #[]
/-- What Fold does at a node. -/
def FoldS (C : Cg) (vd vf : Value) (wA : World) (sb : Nat) (t : Nd) (va vb : Value) : Prop :=
  ∀ (w : World) (n : Nat) (S : Vr → Value) (Sc : Sc), Ext wA w → SC w sb n S → (∀ x, ∃ p, S x = .pointer p) → (∀ x, nnB (S x) = Sc x) → n + 2 * bndN t ≤ 1000000000000 →
    Calls Tryz.prog 93 #[.map (some sb), nV t va vb, upV vd vf] w fun e w' => e = .returned (.int .i64 (sortN C Sc t)) ∧ SC w' sb (n + 2 * bndN t) S ∧ Only (fun j => j = sb) w w'
/-- What is asked of a node's lists. -/
structure BN (t : Nd) : Prop where
  b : bndN t ≤ 1048576
  c : cntN t ≤ 1048576
theorem byp_of {v : Value} {q : Bool} (h : ∃ p, v = .pointer p) (hq : nnB v = q) : BYp v q := by
  obtain ⟨p, rfl⟩ := h
  cases p with
  | none => exact .inr ⟨hq.symm, rfl⟩
  | some a => exact .inl ⟨hq.symm, a, rfl⟩
theorem RInts.nil (w : World) : RInts w (.slice none 0 0) [] := ⟨none, 0, rfl, Nat.le_refl _, Nat.zero_le _, fun i s h => by simp at h⟩
theorem RFbs.nil (w : World) : RFbs w (.slice none 0 0) [] := ⟨none, 0, rfl, Nat.le_refl _, Nat.zero_le _, fun i s h => by simp at h⟩
theorem cntA_len : ∀ l : List Nd, l.length ≤ cntA l
  | [] => Nat.zero_le _
  | a :: r => by have := cntA_len r; have := cntN_eq a; simp only [List.length_cons, cntA]; omega
theorem cntB_len : ∀ l : List Br, l.length ≤ cntB l
  | [] => Nat.zero_le _
  | (_, _, a) :: r => by have := cntB_len r; have := cntN_eq a; simp only [List.length_cons, cntB]; omega
theorem bndB_short : ∀ {l : List Br} {m : Nat}, bndB l ≤ m → ∀ x ∈ l, x.1.length ≤ m
  | [], m, h, x, hx => by simp at hx
  | (v, c, a) :: r, m, h, x, hx => by
    simp only [bndB] at h
    rcases List.mem_cons.1 hx with rfl | hx
    · show v.length ≤ m; omega
    · exact bndB_short (l := r) (by omega) x hx
theorem BN.na {t : Nd} (h : BN t) : t.args.length ≤ 1048576 := by have := h.c; rw [cntN_eq] at this; have := cntA_len t.args; omega
theorem BN.nb {t : Nd} (h : BN t) : t.brs.length ≤ 1048576 := by have := h.c; rw [cntN_eq] at this; have := cntB_len t.brs; omega
theorem BN.short {t : Nd} (h : BN t) : shortB t.brs := by have := h.b; rw [bndN_eq] at this; exact bndB_short (by omega)
theorem RNd.brs {w : World} {k : Nat} {t : Nd} {va vb : Value} (h : RNd w (k + 1) t va vb) : RBrs w vb k t.brs := h.2.2
theorem RBrs.below {w w' : World} {v : Value} {k : Nat} {l : List Br} (h : RBrs w v k l) (hx : Ext w w') : RBrs w' v k l := by
  obtain ⟨B', c', e', p1, p2, p3⟩ := h
  exact ⟨B', c', e', p1, p2, fun i x hi => by
    obtain ⟨b, o, vv, vc, xa, xb, e, hlt, hn, hs, hn2, hs2, hc, hr⟩ := p3 i x hi
    exact ⟨b, o, vv, vc, xa, xb, e, Nat.lt_of_lt_of_le hlt hx.size, hx.keep hn, hs.below hx, hx.keep hn2, hs2.below hx, hc.below hx, hr.below hx⟩⟩
theorem up_any {vd vf : Value} {C : Cg} {wA w : World} {k : Nat} {t : Nd} {va vb : Value} (q : Bool) (by_ ow fa fb : Value) (la lb : List Int) (hC : RCg wA vd vf C) (hS : ShC C) (htab : Tabs wA) (ht : RNd wA (k + 1) t va vb) (hb : BN t) (hx : Ext wA w) (hfa : RInts w fa la) (hfb : RFbs w fb lb) (hby : BYp by_ q) (hlb : leafB t.op = false → lb.length = t.brs.length) :
    Calls Tryz.prog 94 #[cV vd vf, fdV t.op t.n t.ty va vb by_ ow fa fb] w fun e w' => e = .returned (.int .i64 (upN C q t.op t.n t.ty t.args.length t.brs la lb)) ∧ Ext w w' :=
  sort_any vd vf C q t.op t.n t.ty k va vb by_ ow fa fb t.args.length t.brs la lb w (hC.below hx) hS ht.1.2.1 ht.1.2.2 (htab.ext hx) (by obtain ⟨_, ⟨A, c, e, _⟩, _⟩ := ht.form; exact ⟨A, c, e⟩) hb.na (ht.brs.below hx) hfa hfb hby hb.short hlb
set_option maxHeartbeats 8000000 in
set_option maxRecDepth 100000 in
theorem foldLeaf (vd vf : Value) (C : Cg) (wA : World) (sb k : Nat) (t : Nd) (va vb : Value) (hC : RCg wA vd vf C) (hS : ShC C) (htab : Tabs wA) (ht : RNd wA (k + 1) t va vb) (hb : BN t) (hsb : wA.heap.size ≤ sb) (hl : leafB t.op = true) : FoldS C vd vf wA sb t va vb := by
  intro w n S Sc hx hsc hS1 hS2 hn
  have HR : Hid (sortN C Sc t = upN C (inN Sc t.op t.n) t.op t.n t.ty t.args.length t.brs [] []) := by show _ = _; rw [sortN_eq, hl]; simp
  have HUP : Hid (∀ (q : Bool) (by_ : Value) w', Ext w w' → BYp by_ q → Calls Tryz.prog 94 #[cV vd vf, fdV t.op t.n t.ty va vb by_ (.slice none 0 0) (.slice none 0 0) (.slice none 0 0)] w' fun e w'' => e = .returned (.int .i64 (upN C q t.op t.n t.ty t.args.length t.brs [] [])) ∧ Ext w' w'') :=
    fun q by_ w' h1 h2 => up_any q by_ _ _ _ [] [] hC hS htab ht hb (hx.tr h1) (RInts.nil _) (RFbs.nil _) h2 (fun h => by rw [hl] at h; cases h)
  have HL := Lib.hid hl; have HSC := Lib.hid hsc
  obtain ⟨⟨o1, o2, o3⟩, ⟨A, c, rfl, -, -⟩, ⟨B, d, rfl, -, -⟩⟩ := ht.form
  have HIN : Hid (isVrB t.op = false → inN Sc t.op t.n = false) := fun h => by
    unfold isVrB at h; unfold inN
    simp only [Bool.or_eq_false_iff, decide_eq_false_iff_not] at h
    rw [if_neg h.1, if_neg h.2]
  have HBY : Hid (isVrB t.op = true → BYp (S (occV t.op t.n)) (inN Sc t.op t.n)) := fun h => by
    unfold isVrB at h; unfold inN occV
    by_cases h0 : t.op = 0
    · rw [if_pos h0, if_pos h0]; exact byp_of (hS1 _) (hS2 _)
    · by_cases h5 : t.op = 5
      · rw [if_neg h0, if_neg h0, if_pos h5, if_pos h5]; exact byp_of (hS1 _) (hS2 _)
      · simp [h0, h5] at h
  have HOK : Hid (vrT.ok (occV t.op t.n)) := by
    show ok64 _ ∧ ok64 _
    unfold occV
    by_cases h0 : t.op = 0
    · rw [if_pos h0]; exact ⟨ok_lit0, o2⟩
    · by_cases h5 : t.op = 5
      · rw [if_neg h0, if_pos h5]; exact ⟨ok_lit1, o2⟩
      · rw [if_neg h0, if_neg h5]; exact ⟨ok_lit0, ok_lit0⟩
  obtain ⟨p, hp⟩ := hS1 (occV t.op t.n)
  obtain ⟨x, hxx⟩ : ∃ x, occV t.op t.n = x := ⟨_, rfl⟩
  have HXX := Lib.hid hxx
  clear hC hS htab ht hb hx hsc hS1 hS2 hl o1 o2 o3
  have HBF := Lib.hid (heapNew2 w (.cells #[.int .i64 t.op, .int .i64 t.n, .int .i64 t.ty, .slice A t.args.length c, .slice B t.brs.length d] 36) (.cells #[.int .i64 t.op, .int .i64 t.n, .int .i64 t.ty, .slice A t.args.length c, .slice B t.brs.length d, .pointer none, .slice none 0 0, .slice none 0 0, .slice none 0 0] 208))
  have HE2 := Lib.hid (Ext.al2 w (.cells #[.int .i64 t.op, .int .i64 t.n, .int .i64 t.ty, .slice A t.args.length c, .slice B t.brs.length d] 36) (.cells #[.int .i64 t.op, .int .i64 t.n, .int .i64 t.ty, .slice A t.args.length c, .slice B t.brs.length d, .pointer none, .slice none 0 0, .slice none 0 0, .slice none 0 0] 208))
  have HBN := Lib.hid (Ext.lt (Ext.al (w.alloc (.cells #[.int .i64 t.op, .int .i64 t.n, .int .i64 t.ty, .slice A t.args.length c, .slice B t.brs.length d] 36)) (.cells #[.int .i64 t.op, .int .i64 t.n, .int .i64 t.ty, .slice A t.args.length c, .slice B t.brs.length d, .pointer none, .slice none 0 0, .slice none 0 0, .slice none 0 0] 208)) (heapNew w (.cells #[.int .i64 t.op, .int .i64 t.n, .int .i64 t.ty, .slice A t.args.length c, .slice B t.brs.length d] 36)))
  go_enter Tryz.func93, Tryz.ntmps93
  cases hv : isVrB t.op
  · go_wp2_with (first | (go_at_call 100; refine (isLeaf_any t.op true HL.out _).mono ?_; rintro e w3 ⟨rfl, rfl⟩) | (go_at_call 70; refine (occurrence_any t _ _ x HXX.out false hv _).mono ?_; rintro e w4 ⟨rfl, hE4⟩; have hb5 := (hE4.tr (Ext.al w4 (.cells #[.int .i64 x.1, .int .i64 x.2] 80))).lt HBF.out; have c0 := cellAt hb5 0; have c1 := cellAt hb5 1; have c2 := cellAt hb5 2; have c3 := cellAt hb5 3; have c4 := cellAt hb5 4; have c5 := cellAt hb5 5; have c6 := cellAt hb5 6; have c7 := cellAt hb5 7; have c8 := cellAt hb5 8; have HE5 := Lib.hid (HE2.out.tr (hE4.tr (Ext.al w4 (.cells #[.int .i64 x.1, .int .i64 x.2] 80)))); clear hb5 hE4) | (go_at_call 94; refine (HUP.out false _ _ HE5.out (.inr ⟨rfl, rfl⟩)).mono ?_; rintro e w6 ⟨rfl, hE6⟩))
    go_ret
    exact ⟨ret_int (show upN C false t.op t.n t.ty t.args.length t.brs [] [] = sortN C Sc t by rw [HR.out, HIN.out hv]), (HSC.out.ext (HE5.out.tr hE6)).mono (by omega), Only.of_ext (HE5.out.tr hE6)⟩
  · have HLK : Hid (∀ w', Ext w w' → (Instr.lookup 151 (.map (some sb)) (.agg #[.int .i64 x.1, .int .i64 x.2]) false).run Tryz.prog w' = .ok (.pointer p) w') := fun w' h => by
      rw [← hp, HXX.out]
      have := HOK.out
      rw [HXX.out] at this
      exact run_lookupZ (T := vrT) (t := 151) (e := 175) Tryz.underlying151 (HSC.out.ext h) (by kernel_rfl) x this
    have HBQ := Lib.hid (HBY.out hv)
    rw [hp] at HBQ
    go_wp2_with (first | (go_at_call 100; refine (isLeaf_any t.op true HL.out _).mono ?_; rintro e w3 ⟨rfl, rfl⟩) | (go_at_call 70; refine (occurrence_any t _ _ x HXX.out true hv _).mono ?_; rintro e w4 ⟨rfl, hE4⟩; have hb5 := (hE4.tr (Ext.al w4 (.cells #[.int .i64 x.1, .int .i64 x.2] 80))).lt HBF.out; have c0 := cellAt hb5 0; have c1 := cellAt hb5 1; have c2 := cellAt hb5 2; have c3 := cellAt hb5 3; have c4 := cellAt hb5 4; have c5 := cellAt hb5 5; have f5 := frozenAt hb5 5; have c6 := cellAt hb5 6; have c7 := cellAt hb5 7; have c8 := cellAt hb5 8; have HE5 := Lib.hid (HE2.out.tr (hE4.tr (Ext.al w4 (.cells #[.int .i64 x.1, .int .i64 x.2] 80)))); have hlk := HLK.out _ HE5.out; clear hb5 hE4) | (go_at_call 94; refine (HUP.out _ _ _ (Below.setNew HE5.out (by omega) _) HBQ.out).mono ?_; rintro e w6 ⟨rfl, hE6⟩))
    go_ret
    exact ⟨ret_int HR.out.symm, (HSC.out.ext (Ext.tr (Below.setNew HE5.out (by omega) _) hE6)).mono (by omega), Only.of_ext (Ext.tr (Below.setNew HE5.out (by omega) _) hE6)⟩
end Go.Proofs.YtkdhhcidpklgoaaGreatDoor

/- What a node binds, in a new block. -/
namespace Go.Proofs.YtkdhhcidpklgoaaGreatDoor
open Go.RowKit

/-- A slice that lies in a block from number m on. -/
def newAt (m : Nat) (u : Value) : Prop := ∀ A n c b o, u = .slice A n c → A = some ⟨b, o, none⟩ → m ≤ b
theorem newAt.nil {m n c : Nat} : newAt m (.slice none n c) := fun _ _ _ _ _ h1 h2 => by cases h1; cases h2
theorem newAt.of {m b o n c : Nat} (h : m ≤ b) : newAt m (.slice (some ⟨b, o, none⟩) n c) := fun _ _ _ _ _ h1 h2 => by cases h1; cases h2; exact h
set_option maxRecDepth 100000 in
theorem boundInArgs_new (op n ty : Int) (va vb : Value) (hn : ok64 n) (w : World) :
    Calls Tryz.prog 95 #[.agg #[.int .i64 op, .int .i64 n, .int .i64 ty, va, vb]] w fun e w' => (∃ u, e = .returned u ∧ RVrs w' u (muV op n) ∧ newAt w.heap.size u) ∧ Ext w w' := by
  have HN := Lib.hid hn
  clear hn
  by_cases h : op = 3
  · subst h
    rw [muV_3]
    go_enter Tryz.func95, Tryz.ntmps95
    go_wp2
    go_ret
    exact ⟨⟨_, rfl, RVrs.one (x := (1, n)) (heapNew2 _ _ _) ok_lit1 HN.out, newAt.of (by omega)⟩, Ext.al2 _ _ _⟩
  · by_cases h5 : op = 7
    · subst h5
      rw [muV_7]
      go_enter Tryz.func95, Tryz.ntmps95
      go_wp2
      go_ret
      exact ⟨⟨_, rfl, RVrs.one (x := (0, n)) (heapNew2 _ _ _) ok_lit0 HN.out, newAt.of (by omega)⟩, Ext.al2 _ _ _⟩
    · rw [muV_no n h h5]
      go_enter Tryz.func95, Tryz.ntmps95
      go_wp2
      go_ret
      exact ⟨⟨_, rfl, RVrs.nil _, newAt.nil⟩, Ext.al _ _⟩

set_option maxHeartbeats 4000000 in
set_option maxRecDepth 100000 in
theorem boundIn_new (vv vc : Value) (vs : List Int) (cs : List Bool) (t : Nd) (va vb : Value) (w : World) (hv : RInts w vv vs) (hc : RBools w vc cs) (hl : vs.length ≤ 1048576) :
    Calls Tryz.prog 81 #[brV vv vc t va vb] w fun e w' => (∃ u, e = .returned u ∧ RVrs w' u (zipCo vs cs) ∧ newAt w.heap.size u) ∧ Ext w w' := by
  have HV := Lib.hid hv; have HC := Lib.hid hc
  obtain ⟨A, c, rfl, -, -⟩ := hv.form
  obtain ⟨A2, c2, rfl, -, hm2⟩ := hc.form
  unfold maxLen at hm2
  have hcl : cs.length ≤ 9223372036854775807 := by obtain ⟨_, _, e, h1, h2, _⟩ := hc; unfold maxLen at h2; cases e; omega
  clear hv hc
  have hmk := fun w => make_any Tryz.underlying76 Tryz.iVar (by decide) w vs.length (by omega)
  go_enter Tryz.func81, Tryz.ntmps81
  go_wp2
  have HP := Lib.hid (PBlk.made (w.alloc (.cells #[.slice A vs.length c, .slice A2 cs.length c2, .int .i64 t.op, .int .i64 t.n, .int .i64 t.ty, va, vb] 97)) #[.int .i64 0, .int .i64 0] (by decide) (vs.length * 2) 80)
  have HX := Lib.hid (heapNew w (.cells #[.slice A vs.length c, .slice A2 cs.length c2, .int .i64 t.op, .int .i64 t.n, .int .i64 t.ty, va, vb] 97))
  have HE := Lib.hid (Ext.al2 w (.cells #[.slice A vs.length c, .slice A2 cs.length c2, .int .i64 t.op, .int .i64 t.n, .int .i64 t.ty, va, vb] 97) (.cells (madeCells #[.int .i64 0, .int .i64 0] (vs.length * 2)) 80))
  have hz : (w.alloc (.cells #[.slice A vs.length c, .slice A2 cs.length c2, .int .i64 t.op, .int .i64 t.n, .int .i64 t.ty, va, vb] 97)).heap.size = w.heap.size + 1 := by simp
  rw [hz] at HP
  have HB := Lib.hid (Ext.lt (Ext.al (w.alloc (.cells #[.slice A vs.length c, .slice A2 cs.length c2, .int .i64 t.op, .int .i64 t.n, .int .i64 t.ty, va, vb] 97)) (.cells (madeCells #[.int .i64 0, .int .i64 0] (vs.length * 2)) 80)) HX.out)
  clear HX hz hmk
  generalize (w.alloc _).alloc _ = w2 at *
  go_loopw [13] (fun i wr => ∃ (k : Nat) (f : Nat → Value), k ≤ vs.length ∧ i = .int .i64 k ∧ PBlk wr (w.heap.size + 1) 80 (vs.length * 2) f ∧ (∀ (i : Nat) (x : Vr), i < k → (zipCo vs cs)[i]? = some x → f (i * 2) = .int .i64 x.1 ∧ f (i * 2 + 1) = .int .i64 x.2 ∧ ok64 x.1 ∧ ok64 x.2) ∧ Only (fun j => j = w.heap.size + 1) w2 wr) (fun i _ => vs.length - (intOf i).toNat)
  case atStart => exact ⟨0, _, Nat.zero_le _, rfl, HP.out, fun i x h => by omega, Only.rf _ _⟩
  case round =>
    obtain ⟨k, f, hk, rfl, hp, hf, ho⟩ := hrel
    have HPK := Lib.hid hp; have HF := Lib.hid hf; have HO := Lib.hid ho
    have HX : Hid (Ext w wr) := HE.out.trans (ho.below (B := w.heap.size) HE.out.size (fun j h => by omega))
    have hbr := ho.lt HB.out (by omega)
    have b0 := cellAt hbr 0
    have b1 := cellAt hbr 1
    clear hp hf ho hbr
    by_cases hlt : k < vs.length
    · obtain ⟨b, o, rfl, hbl, y0, hok⟩ := HV.out.at_ hlt
      have y0 := HX.out.keep y0
      have HOK := Lib.hid hok
      have HZ := Lib.hid (zip_at (cs := cs) hlt)
      clear hok
      have z0 := HPK.out.cell (i := k * 2) (by omega)
      have z1 := HPK.out.cell (i := k * 2 + 1) (by omega)
      have q0 := HPK.out.frozen (k * 2)
      have q1 := HPK.out.frozen (k * 2 + 1)
      generalize vs[k] = v at *
      by_cases hco : k < cs.length
      · obtain ⟨b3, o3, rfl, hbl3, u0⟩ := HC.out.at_ hco
        have u0 := HX.out.keep u0
        have HCO : Hid (cs.getD k false = cs[k]) := getD_at _ hco
        generalize cs[k] = cc at *
        go_wp2_with (go_at_call 112; (with_reducible refine (sortOf_any _ _).mono ?_); rintro e w3 ⟨rfl, rfl⟩)
        exact ⟨⟨k + 1, _, by omega, by go_num, (HPK.out.set (by omega) _).set (by omega) _, vr_step HF.out (by rw [HZ.out, HCO.out]) (ok_coI _) HOK.out, (HO.out.tr (Only.setCell (C := fun j => j = w.heap.size + 1) (p := ⟨w.heap.size + 1, _, none⟩) rfl _ _)).tr (Only.setCell (C := fun j => j = w.heap.size + 1) (p := ⟨w.heap.size + 1, _, none⟩) rfl _ _)⟩, by simp [intOf]; omega⟩
      · have HCO : Hid (cs.getD k false = false) := by show cs.getD k false = false; rw [List.getD_eq_getElem?_getD, List.getElem?_eq_none (by omega)]; rfl
        go_wp2_with (go_at_call 112; (with_reducible refine (sortOf_any _ _).mono ?_); rintro e w3 ⟨rfl, rfl⟩)
        exact ⟨⟨k + 1, _, by omega, by go_num, (HPK.out.set (by omega) _).set (by omega) _, vr_step HF.out (by rw [HZ.out, HCO.out]) (ok_coI false) HOK.out, (HO.out.tr (Only.setCell (C := fun j => j = w.heap.size + 1) (p := ⟨w.heap.size + 1, _, none⟩) rfl _ _)).tr (Only.setCell (C := fun j => j = w.heap.size + 1) (p := ⟨w.heap.size + 1, _, none⟩) rfl _ _)⟩, by simp [intOf]; omega⟩
    · have hkl : k = vs.length := by omega
      subst hkl
      have HL := Lib.hid (zipCo_length vs cs)
      have HR : Hid (RVrs wr (.slice (some ⟨w.heap.size + 1, 0, none⟩) vs.length vs.length) (zipCo vs cs)) := by
        have h := PBlk.vrs (l := zipCo vs cs) (w := wr) (g := w.heap.size + 1) (T := 80) (f := f) (by rw [zipCo_length]; exact HPK.out) (by rw [zipCo_length]; unfold maxLen; omega) (fun i x hi => HF.out i x (by have := (List.getElem?_eq_some_iff.1 hi).1; rw [zipCo_length] at this; exact this) hi)
        rw [zipCo_length] at h
        exact h
      go_wp2
      go_ret
      exact ⟨⟨_, rfl, HR.out, newAt.of (by omega)⟩, HX.out⟩
end Go.Proofs.YtkdhhcidpklgoaaGreatDoor

/- node: foldBranch. -/
namespace Go.Proofs.YtkdhhcidpklgoaaGreatDoor
open Go.RowKit Go.Shelf
attribute [local go_sem] Oper.semAt_some

/-- What foldBranch does at a branch. -/
def FoldBS (C : Cg) (vd vf : Value) (wA : World) (sb : Nat) (vs : List Int) (cs : List Bool) (t : Nd) (vv vc xa xb : Value) : Prop :=
  ∀ (w : World) (n : Nat) (S : Vr → Value) (Sc : Sc), Ext wA w → SC w sb n S → (∀ x, ∃ p, S x = .pointer p) → (∀ x, nnB (S x) = Sc x) → n + 2 * (vs.length + bndN t) ≤ 1000000000000 →
    Calls Tryz.prog 120 #[.map (some sb), brV vv vc t xa xb, upV vd vf] w fun e w' => (∃ A c, e = .returned (.agg #[.slice A vs.length c, .int .i64 (sortN C (addS Sc (zipCo vs cs)) t)])) ∧ SC w' sb (n + 2 * (vs.length + bndN t)) S ∧ Only (fun j => j = sb) w w'
set_option maxHeartbeats 8000000 in
set_option maxRecDepth 100000 in
theorem foldBr_any (vd vf : Value) (C : Cg) (wA : World) (sb : Nat) (vs : List Int) (cs : List Bool) (t : Nd) (vv vc xa xb : Value) (hF : FoldS C vd vf wA sb t xa xb) (hv : RInts wA vv vs) (hc : RBools wA vc cs) (hl : vs.length ≤ 1048576) (hsb : wA.heap.size ≤ sb) (hf : ∃ k, RNd wA k t xa xb) : FoldBS C vd vf wA sb vs cs t vv vc xa xb := by
  intro w n S Sc hx hsc hS1 hS2 hn
  have HF := Lib.hid hF
  have HSC := Lib.hid hsc; have HX := Lib.hid hx; have HSB := Lib.hid hsb; have HS1 := Lib.hid hS1; have HS2 := Lib.hid hS2
  have HBI : Hid (∀ w', Ext w w' → Calls Tryz.prog 81 #[brV vv vc t xa xb] w' fun e w'' => (∃ u, e = .returned u ∧ RVrs w'' u (zipCo vs cs) ∧ newAt w'.heap.size u) ∧ Ext w' w'') := fun w' h => boundIn_new vv vc vs cs t xa xb w' (hv.below (hx.tr h)) (hc.below (hx.tr h)) hl
  obtain ⟨A, c, rfl, -, -⟩ := hv.form
  obtain ⟨A2, c2, rfl, -, -⟩ := hc.form
  obtain ⟨k, hk⟩ := hf
  obtain ⟨-, ⟨A3, c3, rfl, -, -⟩, ⟨A4, c4, rfl, -, -⟩⟩ := hk.form
  have HLZ := Lib.hid (zipCo_length vs cs)
  have HE2 := Lib.hid (Ext.al2 w (.cells #[.slice A vs.length c, .slice A2 cs.length c2, .int .i64 t.op, .int .i64 t.n, .int .i64 t.ty, .slice A3 t.args.length c3, .slice A4 t.brs.length c4] 97) (.cells #[.slice none 0 0, .int .i64 0] 211))
  have HB1 := Lib.hid (Ext.lt (Ext.al (w.alloc (.cells #[.slice A vs.length c, .slice A2 cs.length c2, .int .i64 t.op, .int .i64 t.n, .int .i64 t.ty, .slice A3 t.args.length c3, .slice A4 t.brs.length c4] 97)) (.cells #[.slice none 0 0, .int .i64 0] 211)) (heapNew w _))
  have HB2 := Lib.hid (heapNew2 w (.cells #[.slice A vs.length c, .slice A2 cs.length c2, .int .i64 t.op, .int .i64 t.n, .int .i64 t.ty, .slice A3 t.args.length c3, .slice A4 t.brs.length c4] 97) (.cells #[.slice none 0 0, .int .i64 0] 211))
  have hlt := hsc.lt
  clear hF hv hc hx hsc hS1 hS2 hk
  go_enter_defers Tryz.func120, Tryz.ntmps120
  go_wp2_with (go_at_call 81; refine (HBI.out _ HE2.out).mono ?_; rintro e w3 ⟨⟨u, rfl, hu, hnew⟩, hE3⟩)
  obtain ⟨Au, cu, rfl, -, -⟩ := hu.form
  have hdA : ∀ b o, Au = some ⟨b, o, none⟩ → b ≠ w.heap.size + 1 := fun b o h => by
    have := hnew _ _ _ b o rfl h
    simp only [World.size_alloc] at this
    omega
  have HSC3 := Lib.hid (HSC.out.ext (HE2.out.tr hE3))
  have HE3 := Lib.hid (HE2.out.tr hE3)
  have HB13 := Lib.hid (hE3.lt HB1.out)
  have HB23 := Lib.hid (hE3.lt HB2.out)
  have HEN := Lib.hid (enter_all sb n (w.heap.size + 1) Au cu (zipCo vs cs) S w3 hu HSC3.out (by rw [HLZ.out]; exact hl) (by rw [HLZ.out]; omega) HS1.out (heap_lt HB23.out) (fun _ => hdA))
  have hz3 := HE3.out.size
  clear hu hE3 hnew hdA
  refine (HEN.out).mono ?_
  rintro e w4 ⟨A5, c5, f5, cap5, S5, rfl, hs4, hp4, hn4, ho4, hlo⟩
  have HO4 : Hid (Only (fun j => j = sb) w w4) := (Only.of_ext HE3.out).tr ho4
  have HLO := Lib.hid hlo
  have HENT := hlo.ent
  have hb1 := ho4.lt HB13.out (by omega)
  have hb2 := ho4.lt HB23.out (by omega)
  have HB24 := Lib.hid hb2
  have b2 := cellAt hb1 2
  have b3 := cellAt hb1 3
  have b4 := cellAt hb1 4
  have b5 := cellAt hb1 5
  have b6 := cellAt hb1 6
  have HX4 : Hid (Ext wA w4) := HX.out.trans (HO4.out.below HX.out.size (fun j hj => by have := HSB.out; omega))
  have HFOLD := Lib.hid (HF.out w4 (n + (zipCo vs cs).length) S5 (addS Sc (zipCo vs cs)) HX4.out hs4 hp4 (fun x => by rw [hn4 x, HS2.out x]; rfl) (by rw [HLZ.out]; omega))
  have hz4 := HO4.out.size
  clear hs4 hp4 hn4 ho4 hlo hb1 hb2
  go_wp2_with (go_at_call 93; (with_reducible refine (HFOLD.out).mono ?_); rintro e w5 ⟨rfl, hs5, ho5⟩; have hb5 := ho5.lt HB24.out (by omega); have r0 := cellAt hb5 0; have r1 := cellAt hb5 1; have g0 := frozenAt hb5 0; have g1 := frozenAt hb5 1; have HB5 := Lib.hid hb5; have HS5 := Lib.hid hs5; have HO5 := Lib.hid ho5; clear hb5 hs5 ho5)
  have hc6 : ((w5.setCell ⟨w.heap.size + 1, 0, none⟩ (.slice A5 (zipCo vs cs).length c5)).setCell ⟨w.heap.size + 1, 1, none⟩ (.int .i64 (sortN C (addS Sc (zipCo vs cs)) t))).heap[w.heap.size + 1]? = some (.cells #[.slice A5 (zipCo vs cs).length c5, .int .i64 (sortN C (addS Sc (zipCo vs cs)) t)] 211 (0, 0)) := blk_set (blk_set HB5.out 0 _) 1 _
  have hO6 : Only (fun j => j = sb) w ((w5.setCell ⟨w.heap.size + 1, 0, none⟩ (.slice A5 (zipCo vs cs).length c5)).setCell ⟨w.heap.size + 1, 1, none⟩ (.int .i64 (sortN C (addS Sc (zipCo vs cs)) t))) := Only.setNew (Only.setNew (HO4.out.tr HO5.out) (by omega) _ _) (by omega) _ _
  have hs6 : SC ((w5.setCell ⟨w.heap.size + 1, 0, none⟩ (.slice A5 (zipCo vs cs).length c5)).setCell ⟨w.heap.size + 1, 1, none⟩ (.int .i64 (sortN C (addS Sc (zipCo vs cs)) t))) sb (n + (zipCo vs cs).length + 2 * bndN t) S5 := HS5.out.block ((set_other _ (by omega)).trans (set_other _ (by omega)))
  have hO46 : Only (fun j => j = sb ∨ j = w.heap.size + 1) w4 ((w5.setCell ⟨w.heap.size + 1, 0, none⟩ (.slice A5 (zipCo vs cs).length c5)).setCell ⟨w.heap.size + 1, 1, none⟩ (.int .i64 (sortN C (addS Sc (zipCo vs cs)) t))) := ((HO5.out.mono (fun j _ h => .inl h)).tr (Only.setCell (p := ⟨w.heap.size + 1, 0, none⟩) (.inr rfl) _ _)).tr (Only.setCell (p := ⟨w.heap.size + 1, 1, none⟩) (.inr rfl) _ _)
  refine leaves_cons (f := f5) (args := cap5) (by simp) (by have := HENT cap5; simpa [invoke] using this _) ?_
  generalize (w5.setCell _ _).setCell _ _ = w6 at *
  refine (HLO.out.defs w6 _ hO46 hs6 (by rw [HLZ.out]; omega)).mono ?_
  rintro e u' w7 ⟨rfl, rfl, hs7, ho7⟩
  have hc7 := ho7.lt hc6 (by omega)
  have r0 := cellAt hc7 0
  have r1 := cellAt hc7 1
  refine ⟨.agg #[.slice A5 (zipCo vs cs).length c5, .int .i64 (sortN C (addS Sc (zipCo vs cs)) t)], by simp [results, Tryz.results120, go_sem, r0, r1], ⟨A5, c5, by rw [HLZ.out]⟩, hs7.mono (by rw [HLZ.out]; omega), hO6.tr ho7⟩
end Go.Proofs.YtkdhhcidpklgoaaGreatDoor
