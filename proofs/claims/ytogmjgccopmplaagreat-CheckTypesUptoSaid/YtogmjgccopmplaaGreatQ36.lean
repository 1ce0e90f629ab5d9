/- A valid term in a scope: each name of it is found there. -/
import Derived.Test.YtogmjgccopmplaaGreatQ35
namespace Go.Proofs.YtogmjgccopmplaaGreat
open Go.RowKit
def Found (E : Env) (V : Scp) : Prop := ∀ k, V k = true → ∃ y, findE E k = some y
def VldS (P : Pg) (E F : Env) (t : Tm) : Prop := ∃ V L, validT P V L t = true ∧ Found E V ∧ Found F L
theorem VldS.vld {P : Pg} {E F : Env} {t : Tm} (h : VldS P E F t) : Vld P t := by
  obtain ⟨V, L, h, -, -⟩ := h
  exact ⟨V, L, h⟩
theorem found_cons {E : Env} {V : Scp} (h : Found E V) (s : Str) (y : Int) (k : Str) (hk : (k.toList == s.toList) = true ∨ V k = true) : ∃ z, findE ((s, y) :: E) k = some z := by
  rw [findE]
  cases hq : (s.toList == k.toList)
  · rcases hk with hk | hk
    · have h1 : k.toList = s.toList := by simpa using hk
      rw [h1] at hq; simp at hq
    · simpa using h k hk
  · exact ⟨y, by simp⟩
theorem found_skip {E : Env} {V : Scp} (h : Found E V) (s : Str) (y : Int) : Found ((s, y) :: E) V := fun k hk => found_cons h s y k (.inr hk)
theorem found_bind : ∀ (ns : List Str) (ts : List Int) (E : Env) (V : Scp), ns.length ≤ ts.length → Found E V → Found (bindE ns ts E) (fun k => hasS ns k || V k)
  | [], ts, E, V, _, h => fun k hk => by
    have : V k = true := by simpa [hasS] using hk
    simpa [bindE] using h k this
  | s :: r, [], E, V, hl, _ => by simp at hl
  | s :: r, y :: q, E, V, hl, h => fun k hk => by
    rw [bindE]
    refine found_bind r q ((s, y) :: E) (fun k => (k.toList == s.toList) || V k) (by simpa using hl) (fun k hk => found_cons h s y k (by simpa using hk)) k ?_
    have h2 : (((k.toList == s.toList) || hasS r k) || V k) = true := hk
    cases h3 : (k.toList == s.toList) <;> simp [h3] at h2 ⊢
    exact h2
theorem VldS.kid {P : Pg} {E F : Env} {t : Tm} (h : VldS P E F t) {i : Nat} (hi : i < t.args.length + t.cls.length) : VldS P (kidE P E F t i).1 (kidE P E F t i).2 (kidT t i) := by
  obtain ⟨V, L, hv, hE, hF⟩ := h
  have hfits : fitsT P t = true := Vld.fits ⟨V, L, hv⟩
  rw [validT_kids] at hv
  simp only [Bool.and_eq_true, List.all_eq_true] at hv
  by_cases hlt : i < t.args.length
  · have hg := kidsFrom_get t.op t.nm t.args 0 i _ (List.getElem?_eq_getElem hlt)
    have hm := hv.2 _ (show (bndAt t.op t.nm (0 + i), t.args[i]) ∈ kids t from List.mem_append_left _ (List.mem_of_getElem? hg))
    unfold validK at hm
    simp only [Bool.and_eq_true, Nat.zero_add] at hm
    have e2 : kidT t i = t.args[i] := by unfold kidT; rw [if_pos hlt, List.getD_eq_getElem?_getD, List.getElem?_eq_getElem hlt]; rfl
    have e1 : kidE P E F t i = (argV t.op t.nm t.ty i E, argL t.op t.nm t.ty F) := by unfold kidE; rw [if_pos hlt]
    rw [e1, e2]
    refine ⟨_, _, hm.2, ?_, ?_⟩
    · show Found (argV t.op t.nm t.ty i E) _
      unfold argV bndAt addV
      by_cases h8 : t.op = 8 ∧ i = 1
      · rw [if_pos h8, if_pos h8]
        intro k hk
        refine found_cons hE t.nm t.ty k ?_
        simpa [hasS] using hk
      · rw [if_neg h8, if_neg h8]
        by_cases h11 : t.op = 11 ∧ i = 0
        · rw [if_pos h11]
          exact hE
        · rw [if_neg h11]
          intro k hk
          exact hE k (by simpa [hasS] using hk)
    · show Found (argL t.op t.nm t.ty F) _
      unfold argL bndAt addL
      by_cases h8 : t.op = 8 ∧ i = 1
      · rw [if_pos h8, if_neg (by omega)]
        exact hF
      · rw [if_neg h8]
        by_cases h11 : t.op = 11 ∧ i = 0
        · rw [if_pos h11, if_pos h11.1]
          intro k hk
          refine found_cons hF t.nm t.ty k ?_
          simpa [hasS] using hk
        · rw [if_neg h11]
          by_cases h1 : t.op = 11
          · rw [if_pos h1]; exact found_skip hF _ _
          · rw [if_neg h1]; exact hF
  · have hn : i - t.args.length < t.cls.length := by omega
    obtain ⟨u, d, x, hty, hd, hda, hx, hcx⟩ := fits_clause hfits (List.getElem?_eq_getElem hn)
    have hm := hv.2 _ (show (((t.cls[i - t.args.length]).1, false), (t.cls[i - t.args.length]).2) ∈ kids t from List.mem_append_right _ (List.mem_map.2 ⟨_, List.getElem_mem hn, rfl⟩))
    unfold validK at hm
    simp only [Bool.and_eq_true] at hm
    have e2 : kidT t i = (t.cls[i - t.args.length]).2 := by unfold kidT; rw [if_neg hlt, List.getD_eq_getElem?_getD, List.getElem?_eq_getElem hn]; rfl
    have e1 : kidE P E F t i = (bindE (t.cls[i - t.args.length]).1 (prodL x) E, F) := by
      unfold kidE; rw [if_neg hlt, List.getD_eq_getElem?_getD, List.getElem?_eq_getElem hn, hda, List.getD_eq_getElem?_getD, hx]; rfl
    rw [e1, e2]
    refine ⟨_, _, hm.2, ?_, ?_⟩
    · exact found_bind _ _ _ _ (by rw [hcx]; exact Nat.le_refl _) hE
    · exact hF
theorem VldS.var {P : Pg} {E F : Env} {t : Tm} (h : VldS P E F t) (h0 : t.op = 0) : ∃ y, findE E t.nm = some y := by
  obtain ⟨V, L, hv, hE, hF⟩ := h
  rw [validT_kids] at hv
  simp only [Bool.and_eq_true] at hv
  have := hv.1.2
  unfold refB at this
  rw [if_pos h0] at this
  exact hE _ this
theorem VldS.lab {P : Pg} {E F : Env} {t : Tm} (h : VldS P E F t) (h0 : t.op = 12) : ∃ y, findE F t.nm = some y := by
  obtain ⟨V, L, hv, hE, hF⟩ := h
  rw [validT_kids] at hv
  simp only [Bool.and_eq_true] at hv
  have := hv.1.2
  unfold refB at this
  rw [if_neg (by omega), if_pos h0] at this
  exact hF _ this
end Go.Proofs.YtogmjgccopmplaaGreat

/- The reference of layer 4: typeOf. -/
namespace Go.Proofs.YtogmjgccopmplaaGreat
open Go.RowKit
theorem chT_len (t : Tm) : (chT t).length = t.args.length + t.cls.length := by unfold chT; rw [List.length_append, List.length_map]
theorem chT_kid {t : Tm} {i : Nat} (h : i < (chT t).length) : (chT t)[i] = kidT t i := by
  have h2 := h
  rw [chT_len] at h2
  have e : (chT t)[i]? = some (kidT t i) := by
    unfold chT kidT
    by_cases hi : i < t.args.length
    · rw [if_pos hi, List.getElem?_append_left hi, List.getD_eq_getElem?_getD, List.getElem?_eq_getElem hi]; rfl
    · have hn : i - t.args.length < t.cls.length := by omega
      rw [if_neg hi, List.getElem?_append_right (by omega), List.getElem?_map, List.getD_eq_getElem?_getD, List.getElem?_eq_getElem hn]; rfl
  exact Option.some.inj ((List.getElem?_eq_getElem h).symm.trans e)
theorem kidS_len {P : Pg} {vs ls : List Prm} {t : Tm} (h : ∀ c ∈ t.cls, c.1.length ≤ 1000) (i : Nat) : (kidS P vs ls t i).1.length ≤ vs.length + 1000 ∧ (kidS P vs ls t i).2.length ≤ ls.length + 1000 := by
  unfold kidS
  by_cases hi : i < t.args.length
  · rw [if_pos hi]
    constructor
    · show (if t.op = 8 ∧ i = 1 then _ else _ : List Prm).length ≤ _
      split
      · simp
      · omega
    · show (if t.op = 11 then _ else _ : List Prm).length ≤ _
      split
      · simp
      · omega
  · rw [if_neg hi]
    refine ⟨?_, by show ls.length ≤ _; omega⟩
    show (vs ++ boundL _ _).length ≤ _
    rw [List.length_append]
    have hb : ∀ (ns : List Str) (ts : List Int), (boundL ns ts).length ≤ ns.length := fun ns ts => by
      unfold boundL; rw [List.length_map, List.length_zip]; omega
    have h1 := hb (t.cls.getD (i - t.args.length) ([], .mk 0 0 ⟨#[]⟩ 0 [] [])).1 (prodL ((declAt P t.ty).xtors.getD (i - t.args.length) noXtor))
    have h2 : (t.cls.getD (i - t.args.length) ([], .mk 0 0 ⟨#[]⟩ 0 [] [])).1.length ≤ 1000 := by
      rw [List.getD_eq_getElem?_getD]
      cases hq : t.cls[i - t.args.length]? with
      | none => exact Nat.zero_le _
      | some c => exact h c (List.mem_of_getElem? hq)
    omega
def FTO (vals : Nat → Value) (r : TyR) (B K : Nat) (W : World) (j : Nat) (v : Value) : Prop :=
  (j < 6 → v = vals j) ∧ (j = 6 ∨ j = 7 → ResV r B W v) ∧ (j = 8 ∨ j = 11 → FstV r v) ∧ (j = 9 ∨ j = 12 → SndV r B W v) ∧ (j = 10 ∨ j = 13 → v = .bool (okV r)) ∧ (j = 6 → ∀ p, r = .inl p → p.length ≤ K)
theorem visR_len {B k : Nat} {W : World} {r : TyR} {e : Ending} (h : VisR B W k r e) : ∀ p, r = .inl p → p.length ≤ k := by
  intro p hp
  subst hp
  exact h.1
theorem FTO.ext {vals : Nat → Value} {r : TyR} {B K : Nat} (W W' : World) (j : Nat) (v : Value) (h : FTO vals r B K W j v) (hb : Ext W W') : FTO vals r B K W' j v :=
  ⟨h.1, fun e => (h.2.1 e).ext hb, h.2.2.1, fun e => (h.2.2.2.1 e).ext hb, h.2.2.2.2⟩
set_option pp.deepTerms true in
set_option maxHeartbeats 16000000 in
set_option maxRecDepth 100000 in
theorem typeOf_any (P : Pg) (hB : PB P) (hX : PX P) (hS : ∀ t, fitsT P t = true → t.args.length + t.cls.length ≤ 1000000) (hC : ∀ t, fitsT P t = true → ∀ c ∈ t.cls, c.1.length ≤ 1000) : ∀ (k : Nat) (vd vf vv vl : Value) (vs ls : List Prm) (t : Tm) (xa xc : Value) (w : World), k ≤ 1000 → vs.length + k * 1000 ≤ 50000000 → ls.length + k * 1000 ≤ 50000000 → RDecls w vd P.decls → RFns w vf P.funs → RPrms w vv vs → RPrms w vl ls → RT w k t xa xc → VldS P (linkL vs) (linkL ls) t →
    Calls Tryz.prog 37 #[pV vd vf, .agg #[vv, vl], tV t xa xc] w fun e w' => VisR w.heap.size w' k (tyT P (linkL vs) (linkL ls) t) e ∧ Ext w w' := by
  intro k
  have HBP := Lib.hid hB; have HPX := Lib.hid hX; have HSP := Lib.hid hS; have HCP := Lib.hid hC
  clear hB hX hS hC
  have hmx : Tryz.prog.follows .mixedOrders = true := by kernel_rfl
  induction k with
  | zero => intro vd vf vv vl vs ls t xa xc w _ _ _ _ _ _ _ ht; exact ht.elim
  | succ k ih =>
    intro vd vf vv vl vs ls t xa xc w hkm hnv hnl hd hf h1 h2 ht hvd
    have HD := Lib.hid hd; have HF := Lib.hid hf; have H1 := Lib.hid h1; have H2 := Lib.hid h2; have HT := Lib.hid ht; have HVD := Lib.hid hvd; have HIH := Lib.hid ih
    obtain ⟨Ad, cd, rfl, -, -⟩ := hd.form
    obtain ⟨Af, cf, rfl, -, -⟩ := hf.form
    obtain ⟨Av, cv, rfl, -, -⟩ := h1.form
    obtain ⟨Al, cl, rfl, -, -⟩ := h2.form
    obtain ⟨-, ⟨Aa, ca, rfl, hca, hma⟩, ⟨Bb, cb, rfl, hcb, hmb⟩⟩ := ht.form
    have hsz := HSP.out t hvd.vld.fits
    clear hd hf h1 h2 ht hvd ih
    unfold maxLen at hma hmb
    have HE := Lib.hid (Ext.al3 w (.cells #[.slice Ad P.decls.length cd, .slice Af P.funs.length cf] 25) (.cells #[.slice Av vs.length cv, .slice Al ls.length cl] 85) (.cells #[.int .i64 t.op, .int .i64 t.n, .string t.nm, .int .i64 t.ty, .slice Aa t.args.length ca, .slice Bb t.cls.length cb] 41))
    obtain ⟨g1, g2, g3, g4⟩ := bx_three w (.cells #[.slice Ad P.decls.length cd, .slice Af P.funs.length cf] 25) (.cells #[.slice Av vs.length cv, .slice Al ls.length cl] 85) (.cells #[.int .i64 t.op, .int .i64 t.n, .string t.nm, .int .i64 t.ty, .slice Aa t.args.length ca, .slice Bb t.cls.length cb] 41)
    have HBP' := Lib.hid g1; have HBS := Lib.hid g2; have HBT := Lib.hid g3; have HS1 := Lib.hid g4
    clear g1 g2 g3 g4
    obtain ⟨rT, hrT⟩ : ∃ r, tyT P (linkL vs) (linkL ls) t = r := ⟨_, rfl⟩
    have HRT : Hid (rT = match tyK P (linkL vs) (linkL ls) t 0 (t.args.length + t.cls.length) with | .inl p => .inl p | .inr ps => ruleS P (linkL vs) (linkL ls) t.op t.n t.nm t.ty ps) := hrT.symm.trans (tyT_kids P _ _ t)
    rw [hrT]
    clear hrT
    go_enter Tryz.func37, Tryz.ntmps37
    obtain ⟨c0, c1, c2, c3, c4, c5⟩ := cells6 HBT.out
    have p0 := cellAt HBP'.out 0
    have p1 := cellAt HBP'.out 1
    have s0 := cellAt HBS.out 0
    have s1 := cellAt HBS.out 1
    go_wp2_with fail
    clear c0 c1 c2 c3 c4 c5 p0 p1 s0 s1
    generalize World.alloc (World.alloc (World.alloc w _) _) _ = w1 at *
    (with_reducible refine (children_any P _ _ _ _ vs ls k t _ _ w1 (HD.out.below HE.out) ⟨_, _, _, rfl⟩ (H1.out.below HE.out) (H2.out.below HE.out) (HT.out.below HE.out) HVD.out.vld.fits HBP.out HPX.out.al (by omega) (by omega) hsz).mono ?_)
    rintro e w2 ⟨⟨v1, v2, rfl, hk1, hk2⟩, hb⟩
    have HK1 := Lib.hid hk1; have HK2 := Lib.hid hk2; have HX2 := Lib.hid hb; have HW2 := Lib.hid (HE.out.tr hb)
    obtain ⟨A1, c1, rfl, hc1, hm1⟩ := hk1.form
    obtain ⟨A2, c2, hv2, hc2, hm2, hat2⟩ := hk2
    subst hv2
    have HAT2 := Lib.hid hat2
    clear hk1 hb hat2
    unfold maxLen at hm1 hm2
    have hNe := chT_len t
    have hNe2 : ((List.range (t.args.length + t.cls.length)).map (kidS P vs ls t)).length = (chT t).length := by rw [List.length_map, List.length_range, hNe]
    have HNE := Lib.hid hNe
    clear HK2
    generalize hN2 : ((List.range (t.args.length + t.cls.length)).map (kidS P vs ls t)).length = N2 at *
    clear hN2 hNe
    generalize hN : (chT t).length = N at *
    have HN := Lib.hid hN
    have HNE : Hid (N = t.args.length + t.cls.length) := HNE.out
    subst hNe2
    clear hN
    go_wp2
    go_loopw [11, 26] (fun s i wr => ∃ (j : Nat) (ps : List Int), j ≤ N2 ∧ i = .int .i64 j ∧ tyK P (linkL vs) (linkL ls) t 0 j = .inr ps ∧ OwnL wr w2.heap.size s ps ∧ Ext w2 wr) (fun _ i _ => N2 - (intOf i).toNat)
    case atStart => exact ⟨0, [], Nat.zero_le _, rfl, rfl, ⟨by simp, .inl ⟨rfl, by simp⟩⟩, Ext.rf _⟩
    case round =>
      obtain ⟨j, ps, hj, rfl, hty, ho, hb⟩ := hrel
      have HTY := Lib.hid hty; have HO := Lib.hid ho; have HX := Lib.hid hb; have HXW := Lib.hid (HW2.out.tr hb)
      have HPL := Lib.hid (tyK_len _ _ _ _ _ _ _ hty)
      obtain ⟨As, cs, rfl⟩ := own_shapeL ho
      clear hty ho hb
      by_cases hlt : j < N2
      · have hltc : j < (chT t).length := by rw [HN.out]; exact hlt
        have hltk : j < t.args.length + t.cls.length := by have := HNE.out; omega
        have HK1r : Hid (RTms wr k (.slice A1 (chT t).length c1) (chT t)) := by
          show RTms _ _ _ _
          rw [HN.out]; exact HK1.out.below HX.out
        obtain ⟨b, o, ya, yc, rfl, hbl, q6, hrt⟩ := HK1r.out.at_ hltc
        obtain ⟨b2, o2, u1, u2, rfl, z0, z1, z2, z3⟩ := HAT2.out j (kidS P vs ls t j) (by rw [List.getElem?_map, List.getElem?_range hltk]; rfl)
        have HRT2 := Lib.hid hrt
        obtain ⟨-, ⟨Ax, cx, rfl, -, -⟩, ⟨Bx, dx, rfl, -, -⟩⟩ := hrt.form
        have HCT := Lib.hid (chT_kid hltc)
        have HVK := Lib.hid (HVD.out.kid hltk)
        have HKE := Lib.hid (kidS_env P vs ls t j)
        have HST := Lib.hid (tyK_step P (linkL vs) (linkL ls) t 0 j)
        have HKL := Lib.hid (kidS_len (P := P) (vs := vs) (ls := ls) (HCP.out t HVD.out.vld.fits) j)
        generalize (chT t)[j] = x at *
        have HU1 := Lib.hid (z2.below HX.out); have HU2 := Lib.hid (z3.below HX.out)
        have y0 := q6.c0
        have y1 := q6.c1
        have y2 := q6.c2
        have y3 := q6.c3
        have y4 := q6.c4
        have y5 := q6.c5
        clear q6 hrt z2 z3
        go_upto_region 6 with fail
        clear y0 y1 y2 y3 y4 y5
        have HEX := Lib.hid (Ext.al wr (.cells #[.int .i64 x.op, .int .i64 x.n, .string x.nm, .int .i64 x.ty, .slice Ax x.args.length cx, .slice Bx x.cls.length dx] 41))
        have HBX := Lib.hid (heapNew wr (.cells #[.int .i64 x.op, .int .i64 x.n, .string x.nm, .int .i64 x.ty, .slice Ax x.args.length cx, .slice Bx x.cls.length dx] 41))
        have HZ0 := Lib.hid ((HX.out.tr HEX.out).keep z0)
        have HZ1 := Lib.hid ((HX.out.tr HEX.out).keep z1)
        clear z0 z1
        obtain ⟨g6, hg6⟩ : ∃ g, wr.heap.size = g := ⟨_, rfl⟩
        rw [hg6] at HBX ⊢
        generalize World.alloc wr _ = w3 at *
        have HP0 : Hid (w3.cell? ⟨w.heap.size, 0, none⟩ = some (.slice Ad P.decls.length cd)) := (((HX2.out.tr HX.out).tr HEX.out).keep (cellAt HBP'.out 0))
        have HP1 : Hid (w3.cell? ⟨w.heap.size, 1, none⟩ = some (.slice Af P.funs.length cf)) := (((HX2.out.tr HX.out).tr HEX.out).keep (cellAt HBP'.out 1))
        have HVX : Hid (VldS P (linkL (kidS P vs ls t j).1) (linkL (kidS P vs ls t j).2) x) := by
          have h := HVK.out
          rw [← HKE.out, ← HCT.out] at h
          exact h
        obtain ⟨rx, hrx⟩ : ∃ r, tyT P (linkL (kidS P vs ls t j).1) (linkL (kidS P vs ls t j).2) x = r := ⟨_, rfl⟩
        have HRX := Lib.hid hrx
        have HTX : Hid (tyT P (kidE P (linkL vs) (linkL ls) t j).1 (kidE P (linkL vs) (linkL ls) t j).2 (kidT t j) = rx) := by
          show _ = _
          rw [← HKE.out, ← HCT.out]; exact hrx
        clear hrx
        obtain ⟨vals, hvals⟩ : ∃ vals : Nat → Value, vals = fun kk => if kk = 0 then pV (.slice Ad P.decls.length cd) (.slice Af P.funs.length cf) else if kk = 1 then .slice (some ⟨b2, o2, none⟩) N2 c2 else if kk = 2 then .int .i64 (j : Int) else if kk = 3 then .pointer (some ⟨b2, o2 + j * 2, none⟩) else if kk = 4 then .agg #[u1, u2] else if kk = 5 then tV x (.slice Ax x.args.length cx) (.slice Bx x.cls.length dx) else undef := ⟨_, rfl⟩
        have HV0 : Hid (vals 0 = pV (.slice Ad P.decls.length cd) (.slice Af P.funs.length cf)) := by show _ = _; rw [hvals]; rfl
        have HV1 : Hid (vals 1 = .slice (some ⟨b2, o2, none⟩) N2 c2) := by show _ = _; rw [hvals]; rfl
        have HV2 : Hid (vals 2 = .int .i64 (j : Int)) := by show _ = _; rw [hvals]; rfl
        have HV3 : Hid (vals 3 = .pointer (some ⟨b2, o2 + j * 2, none⟩)) := by show _ = _; rw [hvals]; rfl
        have HV4 : Hid (vals 4 = .agg #[u1, u2]) := by show _ = _; rw [hvals]; rfl
        have HV5 : Hid (vals 5 = tV x (.slice Ax x.args.length cx) (.slice Bx x.cls.length dx)) := by show _ = _; rw [hvals]; rfl
        clear hvals
        refine wp_region_invCE hmx (by kernel_rfl) (fun Ls a W => ∃ vv : Nat → Value, a = { tmps := #[pV (.slice Ad P.decls.length cd) (.slice Af P.funs.length cf), .agg #[.slice Av vs.length cv, .slice Al ls.length cl], tV t (.slice Aa t.args.length ca) (.slice Bb t.cls.length cb), .pointer (some ⟨w.heap.size, 0, none⟩), .pointer (some ⟨w.heap.size + 1, 0, none⟩), .pointer (some ⟨w.heap.size + 1 + 1, 0, none⟩), u6, u7, u8, .slice (some ⟨b, o, none⟩) N2 c1, .slice (some ⟨b2, o2, none⟩) N2 c2, .slice As ps.length cs, .int .i64 (j : Int), .pointer (some ⟨g6, 0, none⟩), vv 11, vv 12, vv 13, .tuple #[.slice (some ⟨b, o, none⟩) N2 c1, .slice (some ⟨b2, o2, none⟩) N2 c2], .agg #[.slice Ad P.decls.length cd, .slice Af P.funs.length cf], .agg #[.slice Av vs.length cv, .slice Al ls.length cl], .agg #[.int .i64 t.op, .int .i64 t.n, .string t.nm, .int .i64 t.ty, .slice Aa t.args.length ca, .slice Bb t.cls.length cb], .tuple #[.slice (some ⟨b, o, none⟩) N2 c1, .slice (some ⟨b2, o2, none⟩) N2 c2], .slice (some ⟨b, o, none⟩) N2 c1, .slice (some ⟨b2, o2, none⟩) N2 c2, .slice (some ⟨b, o, none⟩) N2 c1, .int .i64 (N2 : Int), .int .i64 (j : Int), .bool true, .int .i64 (j : Int), .pointer (some ⟨b, o + j * 6, none⟩), .agg #[.int .i64 x.op, .int .i64 x.n, .string x.nm, .int .i64 x.ty, .slice Ax x.args.length cx, .slice Bx x.cls.length dx], vv 7, vv 0, vv 1, vv 2, vv 3, vv 4, vv 5, vv 6, vv 8, vv 9, vv 10, u42, u43, u44, u45, u46, u47, u48, u49, u50, u51, u52, undef, undef, undef, undef, undef, undef, undef, undef, undef, undef, undef], defers := [] } ∧ PhA w3 (FTO vals rx w.heap.size k) 14 Ls W vv) ?_ ?_ ?_
        · exact ⟨fun k => if k = 0 then u32 else if k = 1 then u33 else if k = 2 then u34 else if k = 3 then u35 else if k = 4 then u36 else if k = 5 then u37 else if k = 6 then u38 else if k = 7 then u31 else if k = 8 then u39 else if k = 9 then u40 else if k = 10 then u41 else if k = 11 then u14 else if k = 12 then u15 else if k = 13 then u16 else undef, rfl, PhA.zero _ _ _ _⟩
        · intro Ls a W i op ho hpre hl hc hI Kk HKk
          have hi : i < 14 := (Array.getElem?_eq_some_iff.1 ho).1
          obtain ⟨vv, rfl, hI⟩ := hI
          have HPA := Lib.hid hI
          have hcs : i = 0 ∨ i = 1 ∨ i = 2 ∨ i = 3 ∨ i = 4 ∨ i = 5 ∨ i = 6 ∨ i = 7 ∨ i = 8 ∨ i = 9 ∨ i = 10 ∨ i = 11 ∨ i = 12 ∨ i = 13 := by omega
          rcases hcs with rfl | rfl | rfl | rfl | rfl | rfl | rfl | rfl | rfl | rfl | rfl | rfl | rfl | rfl
          all_goals
            obtain rfl := Option.some.inj ho
            clear ho hi hI hc
          · clear hpre
            have p0 := HPA.out.ext.keep HP0.out
            have p1 := HPA.out.ext.keep HP1.out
            go_simp
            exact HKk.out _ _ ⟨_, rfl, HPA.out.put (v := pV (.slice Ad P.decls.length cd) (.slice Af P.funs.length cf)) FTO.ext (by decide) (Ext.rf _) ⟨fun _ => HV0.out.symm, fun h => absurd h (by decide), fun h => absurd h (by decide), fun h => absurd h (by decide), fun h => absurd h (by decide), fun h => absurd h (by decide)⟩⟩
          · clear hpre
            go_simp
            exact HKk.out _ _ ⟨_, rfl, HPA.out.put (v := .slice (some ⟨b2, o2, none⟩) N2 c2) FTO.ext (by decide) (Ext.rf _) ⟨fun _ => HV1.out.symm, fun h => absurd h (by decide), fun h => absurd h (by decide), fun h => absurd h (by decide), fun h => absurd h (by decide), fun h => absurd h (by decide)⟩⟩
          · clear hpre
            go_simp
            exact HKk.out _ _ ⟨_, rfl, HPA.out.put (v := .int .i64 (j : Int)) FTO.ext (by decide) (Ext.rf _) ⟨fun _ => HV2.out.symm, fun h => absurd h (by decide), fun h => absurd h (by decide), fun h => absurd h (by decide), fun h => absurd h (by decide), fun h => absurd h (by decide)⟩⟩
          · simp [Region.binds] at hpre
            have e1 : vv 1 = _ := (HPA.out.facts 1 (by decide) (by simp [hpre])).1 (by decide)
            rw [HV1.out] at e1
            have e2 : vv 2 = _ := (HPA.out.facts 2 (by decide) (by simp [hpre])).1 (by decide)
            rw [HV2.out] at e2
            go_simp
            exact HKk.out _ _ ⟨_, by simp [e1, e2, Act.put], HPA.out.put (v := .pointer (some ⟨b2, o2 + j * 2, none⟩)) FTO.ext (by decide) (Ext.rf _) ⟨fun _ => HV3.out.symm, fun h => absurd h (by decide), fun h => absurd h (by decide), fun h => absurd h (by decide), fun h => absurd h (by decide), fun h => absurd h (by decide)⟩⟩
          · simp [Region.binds] at hpre
            have e3 : vv 3 = _ := (HPA.out.facts 3 (by decide) (by simp [hpre])).1 (by decide)
            rw [HV3.out] at e3
            have z0 := HPA.out.ext.keep HZ0.out
            have z1 := HPA.out.ext.keep HZ1.out
            go_simp
            exact HKk.out _ _ ⟨_, by simp [e3], HPA.out.put (v := .agg #[u1, u2]) FTO.ext (by decide) (Ext.rf _) ⟨fun _ => HV4.out.symm, fun h => absurd h (by decide), fun h => absurd h (by decide), fun h => absurd h (by decide), fun h => absurd h (by decide), fun h => absurd h (by decide)⟩⟩
          · clear hpre
            have c0 := HPA.out.ext.keep (cellAt HBX.out 0)
            have c1 := HPA.out.ext.keep (cellAt HBX.out 1)
            have c2 := HPA.out.ext.keep (cellAt HBX.out 2)
            have c3 := HPA.out.ext.keep (cellAt HBX.out 3)
            have c4 := HPA.out.ext.keep (cellAt HBX.out 4)
            have c5 := HPA.out.ext.keep (cellAt HBX.out 5)
            go_simp
            exact HKk.out _ _ ⟨_, rfl, HPA.out.put (v := tV x (.slice Ax x.args.length cx) (.slice Bx x.cls.length dx)) FTO.ext (by decide) (Ext.rf _) ⟨fun _ => HV5.out.symm, fun h => absurd h (by decide), fun h => absurd h (by decide), fun h => absurd h (by decide), fun h => absurd h (by decide), fun h => absurd h (by decide)⟩⟩
          · simp [Region.binds] at hpre
            have e0 : vv 0 = _ := (HPA.out.facts 0 (by decide) (by simp [hpre])).1 (by decide)
            rw [HV0.out] at e0
            have e4 : vv 4 = _ := (HPA.out.facts 4 (by decide) (by simp [hpre])).1 (by decide)
            rw [HV4.out] at e4
            have e5 : vv 5 = _ := (HPA.out.facts 5 (by decide) (by simp [hpre])).1 (by decide)
            rw [HV5.out] at e5
            go_simp
            (refine (HIH.out _ _ _ _ (kidS P vs ls t j).1 (kidS P vs ls t j).2 x _ _ W (by omega) (by have := HKL.out.1; omega) (by have := HKL.out.2; omega) (HD.out.below ((HXW.out.tr HEX.out).tr HPA.out.ext)) (HF.out.below ((HXW.out.tr HEX.out).tr HPA.out.ext)) (HU1.out.below (HEX.out.tr HPA.out.ext)) (HU2.out.below (HEX.out.tr HPA.out.ext)) (HRT2.out.below (HEX.out.tr HPA.out.ext)) HVX.out).mono ?_)
            rw [HRX.out]
            rintro e W' ⟨hr, hb⟩
            obtain ⟨vr, rfl, hres⟩ := hr.res (B' := w.heap.size) ((HXW.out.tr HEX.out).tr HPA.out.ext).size
            have hpk := visR_len hr
            exact HKk.out _ _ ⟨_, by simp [e0, e4, e5], HPA.out.put (v := vr) FTO.ext (by decide) hb ⟨fun h => absurd h (by decide), fun _ => hres, fun h => absurd h (by decide), fun h => absurd h (by decide), fun h => absurd h (by decide), fun _ => hpk⟩⟩
          · simp [Region.binds] at hpre
            have r6 := (HPA.out.facts 6 (by decide) (by simp [hpre])).2.1 (by decide)
            go_simp
            exact HKk.out _ _ ⟨_, rfl, HPA.out.put (v := vv 6) FTO.ext (by decide) (Ext.rf _) ⟨fun h => absurd h (by decide), fun _ => r6, fun h => absurd h (by decide), fun h => absurd h (by decide), fun h => absurd h (by decide), fun h => absurd h (by decide)⟩⟩
          · simp [Region.binds] at hpre
            obtain ⟨y, vp', e7, hf1, hf2⟩ := ((HPA.out.facts 7 (by decide) (by simp [hpre])).2.1 (by decide)).form
            go_simp
            exact HKk.out _ _ ⟨_, by simp [e7], HPA.out.put (v := .int .i64 y) FTO.ext (by decide) (Ext.rf _) ⟨fun h => absurd h (by decide), fun h => absurd h (by decide), fun _ => hf1, fun h => absurd h (by decide), fun h => absurd h (by decide), fun h => absurd h (by decide)⟩⟩
          · simp [Region.binds] at hpre
            obtain ⟨y, vp', e7, hf1, hf2⟩ := ((HPA.out.facts 7 (by decide) (by simp [hpre])).2.1 (by decide)).form
            go_simp
            exact HKk.out _ _ ⟨_, by simp [e7], HPA.out.put (v := vp') FTO.ext (by decide) (Ext.rf _) ⟨fun h => absurd h (by decide), fun h => absurd h (by decide), fun h => absurd h (by decide), fun _ => hf2, fun h => absurd h (by decide), fun h => absurd h (by decide)⟩⟩
          · simp [Region.binds] at hpre
            obtain ⟨y, vp', e7, hf1, hf2⟩ := ((HPA.out.facts 7 (by decide) (by simp [hpre])).2.1 (by decide)).form
            go_simp
            exact HKk.out _ _ ⟨_, by simp [e7], HPA.out.put (v := .bool (okV rx)) FTO.ext (by decide) (Ext.rf _) ⟨fun h => absurd h (by decide), fun h => absurd h (by decide), fun h => absurd h (by decide), fun h => absurd h (by decide), fun _ => rfl, fun h => absurd h (by decide)⟩⟩
          · simp [Region.binds] at hpre
            have r8 := (HPA.out.facts 8 (by decide) (by simp [hpre])).2.2.1 (by decide)
            go_simp
            exact HKk.out _ _ ⟨_, rfl, HPA.out.put (v := vv 8) FTO.ext (by decide) (Ext.rf _) ⟨fun h => absurd h (by decide), fun h => absurd h (by decide), fun _ => r8, fun h => absurd h (by decide), fun h => absurd h (by decide), fun h => absurd h (by decide)⟩⟩
          · simp [Region.binds] at hpre
            have r9 := (HPA.out.facts 9 (by decide) (by simp [hpre])).2.2.2.1 (by decide)
            go_simp
            exact HKk.out _ _ ⟨_, rfl, HPA.out.put (v := vv 9) FTO.ext (by decide) (Ext.rf _) ⟨fun h => absurd h (by decide), fun h => absurd h (by decide), fun h => absurd h (by decide), fun _ => r9, fun h => absurd h (by decide), fun h => absurd h (by decide)⟩⟩
          · simp [Region.binds] at hpre
            have r10 := (HPA.out.facts 10 (by decide) (by simp [hpre])).2.2.2.2.1 (by decide)
            go_simp
            exact HKk.out _ _ ⟨_, by simp [r10], HPA.out.put (v := .bool (okV rx)) FTO.ext (by decide) (Ext.rf _) ⟨fun h => absurd h (by decide), fun h => absurd h (by decide), fun h => absurd h (by decide), fun h => absurd h (by decide), fun _ => rfl, fun h => absurd h (by decide)⟩⟩
        · intro Ls a W hall hI
          obtain ⟨vv, rfl, hI⟩ := hI
          have h11 := (hI.facts 11 (by decide) (hall 11 (by decide))).2.2.1 (by decide)
          have h12 := (hI.facts 12 (by decide) (hall 12 (by decide))).2.2.2.1 (by decide)
          have h13 := (hI.facts 13 (by decide) (hall 13 (by decide))).2.2.2.2.1 (by decide)
          have HLK := Lib.hid ((hI.facts 6 (by decide) (hall 6 (by decide))).2.2.2.2.2 rfl)
          have HX4 := Lib.hid (HEX.out.tr hI.ext)
          have HX14 := Lib.hid (HX.out.tr (HEX.out.tr hI.ext))
          have HXW4 := Lib.hid (HXW.out.tr (HEX.out.tr hI.ext))
          clear hI hall
          generalize vv 0 = x0 at *
          generalize vv 1 = x1 at *
          generalize vv 2 = x2 at *
          generalize vv 3 = x3 at *
          generalize vv 4 = x4 at *
          generalize vv 5 = x5 at *
          generalize vv 6 = x6 at *
          generalize vv 7 = x7 at *
          generalize vv 8 = x8 at *
          generalize vv 9 = x9 at *
          generalize vv 10 = x10 at *
          generalize vv 11 = x11 at *
          generalize vv 12 = x12 at *
          generalize vv 13 = x13 at *
          subst h13
          cases rx with
          | inr y =>
            have h11 : x11 = .int .i64 y := h11
            have h12 : x12 = .slice none 0 0 := h12
            subst h11 h12
            rw [show okV (.inr y) = true from rfl]
            have HO4 : Hid (OwnL (W.alloc (.cells #[.int .i64 y] 3)) w2.heap.size (.slice As ps.length cs) ps) := own_below (own_below HO.out HX4.out) (Ext.al _ _)
            have hso : SrcN (W.alloc (.cells #[.int .i64 y] 3)) (some ⟨W.heap.size, 0, none⟩) ([y] : List Int).length 1 (([y] : List Int).map (Value.int .i64)) := RInts.src (l := [y]) (c := 1) (own_ints (own_single (B := 0) (Nat.zero_le _) y))
            have HSO : Hid (SrcN (W.alloc (.cells #[.int .i64 y] 3)) (some ⟨W.heap.size, 0, none⟩) 1 1 [.int .i64 y]) := Lib.hid hso
            clear hso
            go_wp2_with (at_builtin; refine app_vals Tryz.u57 Tryz.info3 rfl (by decide) (by decide) rfl _ _ rfl w2.heap.size _ ps.length (ps.map (Value.int .i64)) rfl HO4.out (some ⟨W.heap.size, 0, none⟩) 1 1 [.int .i64 y] rfl HSO.out (fun u hu => by rw [List.mem_singleton.1 hu]; rfl) (by have := HPL.out; have := HNE.out; omega) (Nat.le_trans HX14.out.size (Ext.al W _).size) ?_)
            intro v9 w9 ho9 hg9
            have HX9 : Hid (Ext w2 w9) := (HX14.out.tr (Ext.al _ _)).trans (grown_ext' hg9 HO4.out (Nat.le_trans HX14.out.size (Ext.al W _).size))
            have HO9 : Hid (OwnL w9 w2.heap.size v9 (ps ++ [y])) := by
              show World.ownsRow _ _ _ _ _ _ _
              rw [List.length_append, List.map_append]
              exact ho9
            have HTY9 : Hid (tyK P (linkL vs) (linkL ls) t 0 (j + 1) = .inr (ps ++ [y])) := by
              show _ = _
              rw [HST.out, HTY.out]
              simp only [Nat.zero_add]
              rw [HTX.out]
            clear ho9 hg9
            go_wp2
            exact ⟨⟨j + 1, ps ++ [y], by omega, by go_num, HTY9.out, HO9.out, HX9.out⟩, by simp [intOf]; omega⟩
          | inl p =>
            obtain ⟨y, rfl⟩ := h11
            have hown : OwnL W w.heap.size x12 p := h12
            rw [show okV (.inl p) = false from rfl]
            obtain ⟨A', c', hv⟩ := own_shapeL hown
            subst hv
            have hso : SrcN (W.alloc (.cells #[.int .i64 j] 3)) A' p.length 1 (p.map (Value.int .i64)) := ((own_ints hown).below (Ext.al _ _)).src
            have HSO := Lib.hid hso
            clear hso h12
            have HPB : Hid (p.length ≤ k) := HLK.out p rfl
            have HSG := Lib.hid (own_single (w := W) (B := w.heap.size) HXW4.out.size (j : Int))
            clear hown
            go_wp2_with (at_builtin; refine app_vals Tryz.u57 Tryz.info3 rfl (by decide) (by decide) rfl _ _ rfl w.heap.size _ ([(j : Int)] : List Int).length (([(j : Int)] : List Int).map (Value.int .i64)) rfl HSG.out A' p.length c' (p.map (Value.int .i64)) rfl HSO.out (ints_one p) (by have := HPB.out; simp; omega) (Nat.le_trans HXW4.out.size (Ext.al W _).size) ?_)
            intro v9 w9 ho9 hg9
            have HX9 : Hid (Ext w w9) := (HXW4.out.tr (Ext.al _ _)).trans (grown_ext' hg9 HSG.out (Nat.le_trans HXW4.out.size (Ext.al W _).size))
            have HO9 : Hid (OwnL w9 w.heap.size v9 ((j : Int) :: p)) := by
              show World.ownsRow _ _ _ _ _ _ _
              rw [List.length_cons, Nat.add_comm]
              exact ho9
            have hrt : rT = .inl ((j : Int) :: p) := by
              have h1 : tyK P (linkL vs) (linkL ls) t 0 (j + 1) = .inl ((j : Int) :: p) := by
                rw [HST.out, HTY.out]
                simp only [Nat.zero_add]
                rw [HTX.out]
              rw [HRT.out, tyK_bad P _ _ t (j + 1) (t.args.length + t.cls.length) 0 _ (by have := HNE.out; omega) h1]
            have HRTE := Lib.hid hrt
            clear ho9 hg9 hrt
            go_wp2
            go_ret3
            rw [HRTE.out]
            exact ⟨⟨by have := HPB.out; simp; omega, _, _, rfl, HO9.out⟩, HX9.out⟩
      · have hje : j = N2 := by omega
        subst hje
        have HLE : Hid (ps.length = t.args.length + t.cls.length) := by have := HPL.out; have := HNE.out; show _ = _; omega
        obtain ⟨y, bo, hag, hcall⟩ := refRule_any P HBP.out HPX.out _ _ _ _ (.slice As ps.length cs) vs ls (k + 1) t _ _ ps wr (HD.out.below HXW.out) (HF.out.below HXW.out) (H1.out.below HXW.out) (H2.out.below HXW.out) (HT.out.below HXW.out) (own_ints HO.out) HVD.out.vld.fits HLE.out HVD.out.var HVD.out.lab
        have HAG := Lib.hid hag; have HCALL := Lib.hid hcall
        clear hag hcall
        obtain ⟨c0, c1', c2', c3, c4, c5⟩ := cells6 HBT.out
        have HXB := Lib.hid (HX2.out.tr HX.out)
        have c0 := HXB.out.keep c0
        have c1' := HXB.out.keep c1'
        have c2' := HXB.out.keep c2'
        have c3 := HXB.out.keep c3
        have c4 := HXB.out.keep c4
        have c5 := HXB.out.keep c5
        have p0 := HXB.out.keep (cellAt HBP'.out 0)
        have p1 := HXB.out.keep (cellAt HBP'.out 1)
        have s0 := HXB.out.keep (cellAt HBS.out 0)
        have s1 := HXB.out.keep (cellAt HBS.out 1)
        go_wp2_with fail
        (with_reducible refine (HCALL.out _ (Ext.rf _)).mono ?_)
        rintro e w9 ⟨rfl, hb⟩
        have HX9 := Lib.hid (HXW.out.tr hb)
        have hrt : rT = ruleS P (linkL vs) (linkL ls) t.op t.n t.nm t.ty ps := by rw [HRT.out, ← HNE.out, HTY.out]
        have HRTE := Lib.hid hrt
        clear hb hrt c0 c1' c2' c3 c4 c5 p0 p1 s0 s1
        have hag := HAG.out
        rw [← HRTE.out] at hag
        cases rT with
        | inr z =>
          obtain ⟨rfl, rfl⟩ := hag
          go_wp2
          go_ret3
          exact ⟨rfl, HX9.out⟩
        | inl p =>
          have hb : bo = false := hag
          subst hb
          have hp : p = [] := by
            have := HRTE.out
            exact ruleS_nil this.symm
          subst hp
          go_wp2
          go_ret3
          exact ⟨⟨Nat.zero_le _, _, _, rfl, ⟨by simp, .inl ⟨rfl, by simp⟩⟩⟩, HX9.out⟩
end Go.Proofs.YtogmjgccopmplaaGreat

/- What the checks ask of the size of a program follows from the number of nodes. -/
namespace Go.Proofs.YtogmjgccopmplaaGreat
theorem clsB_len : ∀ (xs : List Xtor) (l : List (List Str × Tm)), (∀ x ∈ xs, x.args.length ≤ 6) → clsB xs l = true → ∀ c ∈ l, c.1.length ≤ 6
  | _, [], _, _, c, h => by cases h
  | xs, d :: r, hx, h, c, hc => by
    rw [clsB, Bool.and_eq_true, decide_eq_true_eq] at h
    rcases List.mem_cons.1 hc with rfl | hc
    · have h1 := h.1
      have h2 : prodI (xs.headD noXtor) ≤ 6 := by
        unfold prodI
        cases xs with
        | nil => decide
        | cons x r' =>
          have h3 := Nat.le_trans (List.length_filter_le (fun a => !a.co) x.args) (hx x (List.mem_cons_self ..))
          show (((x.args.filter fun a => !a.co).length : Nat) : Int) ≤ 6
          omega
      omega
    · exact clsB_len xs.tail r (fun x h => hx x (List.mem_of_mem_tail h)) h.2 c hc
theorem hasF_cl {t : Tm} {c a b : Bool} {m k : Int} (h : hasF t c a b m k = true) : (t.cls.length : Int) = k := by
  unfold hasF at h
  simp only [Bool.and_eq_true, decide_eq_true_eq] at h
  exact h.2
theorem fits_cls {P : Pg} {t : Tm} (h : fitsT P t = true) : t.cls.length = 0 ∨ clsB (declAt P t.ty).xtors t.cls = true := by
  unfold fitsT at h
  by_cases h0 : t.op = 0
  · rw [if_pos h0] at h; have := hasF_cl h; omega
  rw [if_neg h0] at h
  by_cases h1 : t.op = 1
  · rw [if_pos h1] at h; have := hasF_cl h; omega
  rw [if_neg h1] at h
  by_cases h2 : t.op = 2
  · rw [if_pos h2, Bool.and_eq_true, Bool.and_eq_true] at h; have := hasF_cl h.1.1; omega
  rw [if_neg h2] at h
  by_cases h3 : t.op = 3
  · rw [if_pos h3] at h; have := hasF_cl h; omega
  rw [if_neg h3] at h
  by_cases h4 : t.op = 4
  · rw [if_pos h4, Bool.and_eq_true] at h
    have h' := h.2
    unfold fitsXB at h'
    rw [Bool.and_eq_true] at h'
    have := hasF_cl h'.2; omega
  rw [if_neg h4] at h
  by_cases h5 : t.op = 5
  · rw [if_pos h5, Bool.and_eq_true] at h
    have h' := h.2
    unfold fitsCB at h'
    rw [Bool.and_eq_true] at h'
    exact .inr h'.2
  rw [if_neg h5] at h
  by_cases h6 : t.op = 6
  · rw [if_pos h6, Bool.and_eq_true] at h
    have h' := h.2
    unfold fitsXB at h'
    rw [Bool.and_eq_true] at h'
    have := hasF_cl h'.2; omega
  rw [if_neg h6] at h
  by_cases h7 : t.op = 7
  · rw [if_pos h7, Bool.and_eq_true] at h
    have h' := h.2
    unfold fitsCB at h'
    rw [Bool.and_eq_true] at h'
    exact .inr h'.2
  rw [if_neg h7] at h
  by_cases h8 : t.op = 8
  · rw [if_pos h8, Bool.and_eq_true] at h; have := hasF_cl h.1; omega
  rw [if_neg h8] at h
  by_cases h9 : t.op = 9
  · rw [if_pos h9, Bool.and_eq_true] at h; have := hasF_cl h.2; omega
  rw [if_neg h9] at h
  by_cases h10 : t.op = 10
  · rw [if_pos h10] at h; have := hasF_cl h; omega
  rw [if_neg h10] at h
  by_cases h11 : t.op = 11 ∨ t.op = 12
  · rw [if_pos h11, Bool.and_eq_true] at h; have := hasF_cl h.1; omega
  rw [if_neg h11] at h
  cases h
theorem fits_names {P : Pg} (hv : validB P.decls = true) {t : Tm} (h : fitsT P t = true) : ∀ c ∈ t.cls, c.1.length ≤ 6 := by
  rcases fits_cls h with h | h
  · rw [List.eq_nil_of_length_eq_zero h]; intro c hc; cases hc
  · refine clsB_len _ _ ?_ h
    intro x hx
    unfold declAt at hx
    by_cases hu : (t.ty - 1).toNat < P.decls.length
    · rw [List.getD_eq_getElem?_getD, List.getElem?_eq_getElem hu] at hx
      exact (Fine.of hv).args _ (List.getElem_mem hu) x hx
    · rw [List.getD_eq_getElem?_getD, List.getElem?_eq_none (by omega)] at hx
      cases hx
end Go.Proofs.YtogmjgccopmplaaGreat

/- The reference of layer 4: Type and Fault. -/
namespace Go.Proofs.YtogmjgccopmplaaGreat
open Go.RowKit
def RTyR (r : TyR) (e : Ending) : Prop := match r with
  | .inr y => e = .returned (.tuple #[.int .i64 y, .bool true])
  | .inl _ => ∃ y, e = .returned (.tuple #[.int .i64 y, .bool false])
def FaultS (B : Nat) (w' : World) (r : Option (Nat × List Int)) (e : Ending) : Prop := match r with
  | none => e = .returned (.tuple #[.int .i64 0, .slice none 0 0, .bool false])
  | some (i, p) => ∃ v, e = .returned (.tuple #[.int .i64 i, v, .bool true]) ∧ OwnL w' B v p
set_option maxHeartbeats 4000000 in
set_option maxRecDepth 100000 in
theorem refType_any (P : Pg) (hB : PB P) (hX : PX P) (hS : ∀ t, fitsT P t = true → t.args.length + t.cls.length ≤ 1000000) (hC : ∀ t, fitsT P t = true → ∀ c ∈ t.cls, c.1.length ≤ 1000) (k : Nat) (vd vf vv vl : Value) (vs ls : List Prm) (t : Tm) (xa xc : Value) (w : World) (hkm : k ≤ 1000) (hnv : vs.length + k * 1000 ≤ 50000000) (hnl : ls.length + k * 1000 ≤ 50000000) (hd : RDecls w vd P.decls) (hf : RFns w vf P.funs) (h1 : RPrms w vv vs) (h2 : RPrms w vl ls) (ht : RT w k t xa xc) (hvd : VldS P (linkL vs) (linkL ls) t) :
    Calls Tryz.prog 20 #[pV vd vf, vv, vl, tV t xa xc] w fun e w' => RTyR (tyT P (linkL vs) (linkL ls) t) e ∧ Ext w w' := by
  have HBP := Lib.hid hB; have HPX := Lib.hid hX; have HSP := Lib.hid hS; have HCP := Lib.hid hC
  have HD := Lib.hid hd; have HF := Lib.hid hf; have H1 := Lib.hid h1; have H2 := Lib.hid h2; have HT := Lib.hid ht; have HVD := Lib.hid hvd
  obtain ⟨Ad, cd, rfl, -, -⟩ := hd.form
  obtain ⟨Af, cf, rfl, -, -⟩ := hf.form
  obtain ⟨Av, cv, rfl, -, -⟩ := h1.form
  obtain ⟨Al, cl, rfl, -, -⟩ := h2.form
  obtain ⟨-, ⟨Aa, ca, rfl, -, -⟩, ⟨Bb, cb, rfl, -, -⟩⟩ := ht.form
  clear hd hf h1 h2 ht hvd hB hX hS hC
  have HE := Lib.hid (Ext.al2 w (.cells #[.slice Ad P.decls.length cd, .slice Af P.funs.length cf] 25) (.cells #[.int .i64 t.op, .int .i64 t.n, .string t.nm, .int .i64 t.ty, .slice Aa t.args.length ca, .slice Bb t.cls.length cb] 41))
  obtain ⟨g1, g2, g3⟩ := bx_two w (.cells #[.slice Ad P.decls.length cd, .slice Af P.funs.length cf] 25) (.cells #[.int .i64 t.op, .int .i64 t.n, .string t.nm, .int .i64 t.ty, .slice Aa t.args.length ca, .slice Bb t.cls.length cb] 41)
  obtain ⟨c0, c1, c2, c3, c4, c5⟩ := cells6 g2
  have p0 := cellAt g1 0
  have p1 := cellAt g1 1
  obtain ⟨rx, hrx⟩ : ∃ r, tyT P (linkL vs) (linkL ls) t = r := ⟨_, rfl⟩
  have HRX := Lib.hid hrx
  rw [hrx]
  clear g1 g2 g3 hrx
  go_enter Tryz.func20, Tryz.ntmps20
  go_wp2_with fail
  clear c0 c1 c2 c3 c4 c5 p0 p1
  generalize World.alloc (World.alloc w _) _ = w1 at *
  (with_reducible refine (typeOf_any P HBP.out HPX.out HSP.out HCP.out k _ _ _ _ vs ls t _ _ w1 hkm hnv hnl (HD.out.below HE.out) (HF.out.below HE.out) (H1.out.below HE.out) (H2.out.below HE.out) (HT.out.below HE.out) HVD.out).mono ?_)
  rw [HRX.out]
  rintro e w2 ⟨hr, hb⟩
  have HX := Lib.hid (HE.out.tr hb)
  clear hb
  cases rx with
  | inr y =>
    have hr : e = .returned (.tuple #[.int .i64 y, .slice none 0 0, .bool true]) := hr
    subst hr
    go_wp2
    go_ret2
    exact ⟨rfl, HX.out⟩
  | inl p =>
    obtain ⟨-, y, vp, rfl, hown⟩ := hr
    obtain ⟨Ao, co, rfl⟩ := own_shapeL hown
    clear hown
    go_wp2
    go_ret2
    exact ⟨⟨y, rfl⟩, HX.out⟩
end Go.Proofs.YtogmjgccopmplaaGreat

/- law.go: CheckForms. -/
namespace Go.Proofs.YtogmjgccopmplaaGreat
open Go.RowKit
theorem PX.of {P : Pg} (h : progB P = true) : PX P := by
  have hfi := Fine.of (prog_decls h).1
  refine ⟨fun u d x hd hx => by have := hfi.args d (List.mem_of_getElem? hd) x hx; omega, fun u d x hd hc hx => ?_⟩
  have hs := (prog_decls h).2
  unfold srcB at hs
  rw [List.all_eq_true] at hs
  have h1 := hs d (List.mem_of_getElem? hd)
  unfold srcD at h1
  rw [List.all_eq_true] at h1
  have h2 := h1 x hx
  unfold srcX at h2
  rw [if_pos hc] at h2
  cases hx2 : x.args with
  | nil => rw [hx2] at h2; simp [endsB, lastCo] at h2
  | cons a r => simp
theorem fits_short {P : Pg} (h : progB P = true) {t : Tm} (hf : fitsT P t = true) : ∀ c ∈ t.cls, c.1.length ≤ 1000 := fun c hc => by
  have := fits_names (prog_decls h).1 hf c hc
  omega
end Go.Proofs.YtogmjgccopmplaaGreat
