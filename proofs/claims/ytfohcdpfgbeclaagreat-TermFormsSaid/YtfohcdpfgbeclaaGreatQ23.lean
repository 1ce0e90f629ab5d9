/- ref.go: Few, Count, SameInts: what they answer. -/
import Derived.Test.YtfohcdpfgbeclaaGreatQ22
import Derived.Deep.RegionWith
namespace Go.Proofs.YtfohcdpfgbeclaaGreat
open Go.RowKit

def fewB (P : Pg) (n : Int) : Bool := decide (P.decls.length ≤ 40) && decide (P.funs.length ≤ 40) && P.funs.all fun f => decide ((nT f.body : Int) ≤ n)
def cntF : List Fn → Nat
  | [] => 0
  | f :: r => nT f.body + cntF r
theorem cntF_take {l : List Fn} {j : Nat} (h : j < l.length) : cntF (l.take (j + 1)) = cntF (l.take j) + nT (l[j]).body := by
  have ha : ∀ (p q : List Fn), cntF (p ++ q) = cntF p + cntF q := by
    intro p q
    induction p with
    | nil => simp [cntF]
    | cons x r ih => rw [List.cons_append, cntF, cntF, ih]; omega
  rw [List.take_succ_eq_append_getElem h, ha]; simp [cntF]

set_option maxHeartbeats 2000000 in
set_option maxRecDepth 100000 in
theorem FewX_any (P : Pg) (vd vf : Value) (n : Int) (w : World) (hd : RDecls w vd P.decls) (hf : RFns w vf P.funs) (hn0 : 0 ≤ n) (hn1 : n ≤ 1000000000) :
    Calls Tryz.prog 8 #[pV vd vf, .int .i64 n] w fun e w' => e = .returned (.bool (fewB P n)) ∧ Ext w w' := by
  have HF := Lib.hid hf
  have HR : Hid (fewB P n = (decide (P.decls.length ≤ 40) && decide (P.funs.length ≤ 40) && P.funs.all fun f => decide ((nT f.body : Int) ≤ n))) := rfl
  generalize fewB P n = rr at *
  obtain ⟨Ad, cd, rfl, hcd, hmd⟩ := hd.form
  obtain ⟨Af, cf, rfl, hcf, hmf⟩ := hf.form
  clear hd hf
  unfold maxLen at hmf hmd
  have HE := Lib.hid (Ext.al w (.cells #[.slice Ad P.decls.length cd, .slice Af P.funs.length cf] 25))
  have HB := Lib.hid (heapNew w (.cells #[.slice Ad P.decls.length cd, .slice Af P.funs.length cf] 25))
  have c0 := cellAt HB.out 0
  have c1 := cellAt HB.out 1
  go_enter Tryz.func8, Tryz.ntmps8
  by_cases hd : (40 : Int) < P.decls.length
  · have HFF : Hid (rr = false) := by show _ = _; rw [HR.out, decide_eq_false (by omega : ¬ P.decls.length ≤ 40)]; rfl
    go_wp2
    go_ret
    exact ⟨ret_bool HFF.out.symm, HE.out⟩
  by_cases hf : (40 : Int) < P.funs.length
  · have HFF : Hid (rr = false) := by show _ = _; rw [HR.out, decide_eq_false (by omega : ¬ P.funs.length ≤ 40), Bool.and_false]; rfl
    go_wp2
    go_ret
    exact ⟨ret_bool HFF.out.symm, HE.out⟩
  have HRR : Hid (rr = P.funs.all fun f => decide ((nT f.body : Int) ≤ n)) := by show _ = _; rw [HR.out, decide_eq_true (by omega), decide_eq_true (by omega)]; rfl
  clear HR
  go_wp2
  generalize w.alloc _ = w1 at *
  clear c0 c1
  go_loopw [20] (fun i wr => ∃ j : Nat, j ≤ P.funs.length ∧ i = .int .i64 j ∧ rr = ((P.funs.drop j).all fun f => decide ((nT f.body : Int) ≤ n)) ∧ Ext w1 wr) (fun i _ => P.funs.length - (intOf i).toNat)
  case atStart => exact ⟨0, Nat.zero_le _, rfl, HRR.out, Ext.rf _⟩
  case round =>
    obtain ⟨j, hj, rfl, hrr, hb⟩ := hrel
    have HA := Lib.hid hrr
    clear hrr
    have HX := Lib.hid hb
    clear hb
    by_cases hlt : j < P.funs.length
    · obtain ⟨b, o, vp, xa, xc, kf, rfl, hbl, y0, y1, y2, yc, y3, y4, y5⟩ := HF.out.at_ hlt
      have HST : Hid (rr = (decide ((nT (P.funs[j]).body : Int) ≤ n) && ((P.funs.drop (j + 1)).all fun f => decide ((nT f.body : Int) ≤ n)))) := by show _ = _; rw [HA.out, List.drop_eq_getElem_cons hlt, List.all_cons]
      have hX := HE.out.tr HX.out
      have y0 := hX.keep y0
      have y1 := hX.keep y1
      have y2 := hX.keep y2
      have yc := yc.below hX
      obtain ⟨Ap, cp, rfl, -, -⟩ := y4.form
      obtain ⟨_, ⟨Aa, ca, rfl, -, -⟩, ⟨Bb, cb, rfl, -, -⟩⟩ := y5.form
      have HK := Lib.hid (y5.below hX)
      have c30 := yc.c0
      have c31 := yc.c1
      have c32 := yc.c2
      have c33 := yc.c3
      have c34 := yc.c4
      have c35 := yc.c5
      generalize P.funs[j] = f at *
      clear y3 y4 y5 yc hX
      have HE8 := Lib.hid (Ext.al wr (.cells #[.string f.nm, .slice Ap f.ps.length cp, .int .i64 f.res, .int .i64 f.body.op, .int .i64 f.body.n, .string f.body.nm, .int .i64 f.body.ty, .slice Aa f.body.args.length ca, .slice Bb f.body.cls.length cb] 62))
      go_wp2_with fail
      (with_reducible refine (FitsX_any _ _ _ _ _ _ (HK.out.below HE8.out) hn0 hn1).mono ?_)
      generalize decide ((nT f.body : Int) ≤ n) = q at *
      rintro e w5 ⟨rfl, hb⟩
      have HX5 := Lib.hid ((HX.out.tr HE8.out).tr hb)
      clear hb c30 c31 c32 c33 c34 c35 y0 y1 y2
      cases q
      · have HFF : Hid (rr = false) := by show _ = _; rw [HST.out]; rfl
        go_wp2
        go_ret
        exact ⟨ret_bool HFF.out.symm, HE.out.tr HX5.out⟩
      · have HGO : Hid (rr = ((P.funs.drop (j + 1)).all fun f => decide ((nT f.body : Int) ≤ n))) := by show _ = _; rw [HST.out, Bool.true_and]
        go_wp2
        exact ⟨⟨j + 1, by omega, by go_num, HGO.out, HX5.out⟩, by simp [intOf]; omega⟩
    · have HFF : Hid (rr = true) := by show _ = _; rw [HA.out, List.drop_eq_nil_of_le (by omega)]; rfl
      go_wp2
      go_ret
      exact ⟨ret_bool HFF.out.symm, HE.out.tr HX.out⟩

set_option maxHeartbeats 2000000 in
set_option maxRecDepth 100000 in
theorem Count_any (P : Pg) (vd vf : Value) (w : World) (hd : RDecls w vd P.decls) (hf : RFns w vf P.funs) (hl : P.funs.length ≤ 40) (hn : ∀ f ∈ P.funs, nT f.body ≤ 1000000) :
    Calls Tryz.prog 14 #[pV vd vf] w fun e w' => e = .returned (.int .i64 (cntF P.funs)) ∧ Ext w w' := by
  have HF := Lib.hid hf; have HN := Lib.hid hn
  obtain ⟨Ad, cd, rfl, hcd, hmd⟩ := hd.form
  obtain ⟨Af, cf, rfl, hcf, hmf⟩ := hf.form
  clear hd hf hn
  unfold maxLen at hmf hmd
  have HE := Lib.hid (Ext.al w (.cells #[.slice Ad P.decls.length cd, .slice Af P.funs.length cf] 25))
  have HB := Lib.hid (heapNew w (.cells #[.slice Ad P.decls.length cd, .slice Af P.funs.length cf] 25))
  have c0 := cellAt HB.out 0
  have c1 := cellAt HB.out 1
  go_enter Tryz.func14, Tryz.ntmps14
  go_wp2
  generalize w.alloc _ = w1 at *
  clear c0 c1
  go_loopw [3, 9] (fun s i wr => ∃ j : Nat, j ≤ P.funs.length ∧ i = .int .i64 j ∧ s = .int .i64 (cntF (P.funs.take j)) ∧ cntF (P.funs.take j) ≤ 1000000 * j ∧ Ext w1 wr) (fun _ i _ => P.funs.length - (intOf i).toNat)
  case atStart => exact ⟨0, Nat.zero_le _, rfl, rfl, Nat.le_refl _, Ext.rf _⟩
  case round =>
    obtain ⟨j, hj, rfl, rfl, htot, hb⟩ := hrel
    have HX := Lib.hid hb
    have HTOT := Lib.hid htot
    clear hb htot
    by_cases hlt : j < P.funs.length
    · obtain ⟨b, o, vp, xa, xc, kf, rfl, hbl, y0, y1, y2, yc, y3, y4, y5⟩ := HF.out.at_ hlt
      have HST := Lib.hid (cntF_take hlt)
      have HNT : Hid (nT (P.funs[j]).body ≤ 1000000) := HN.out _ (List.getElem_mem hlt)
      have hX := HE.out.tr HX.out
      have y0 := hX.keep y0
      have y1 := hX.keep y1
      have y2 := hX.keep y2
      have yc := yc.below hX
      obtain ⟨Ap, cp, rfl, -, -⟩ := y4.form
      obtain ⟨_, ⟨Aa, ca, rfl, -, -⟩, ⟨Bb, cb, rfl, -, -⟩⟩ := y5.form
      have HK := Lib.hid (y5.below hX)
      have c30 := yc.c0
      have c31 := yc.c1
      have c32 := yc.c2
      have c33 := yc.c3
      have c34 := yc.c4
      have c35 := yc.c5
      generalize P.funs[j] = f at *
      clear y3 y4 y5 yc hX
      have HE8 := Lib.hid (Ext.al wr (.cells #[.string f.nm, .slice Ap f.ps.length cp, .int .i64 f.res, .int .i64 f.body.op, .int .i64 f.body.n, .string f.body.nm, .int .i64 f.body.ty, .slice Aa f.body.args.length ca, .slice Bb f.body.cls.length cb] 62))
      go_wp2_with fail
      (with_reducible refine (Nodes39_any kf f.body _ _ _ (HK.out.below HE8.out) HNT.out).mono ?_)
      have h1 := HTOT.out
      have h2 := HNT.out
      have HC2 : Hid (cntF (P.funs.take j) + nT f.body = cntF (P.funs.take (j + 1))) := HST.out.symm
      generalize nT f.body = nn at *
      generalize cntF (P.funs.take j) = c1 at *
      rintro e w5 ⟨rfl, hb⟩
      have HX5 := Lib.hid ((HX.out.tr HE8.out).tr hb)
      clear hb c30 c31 c32 c33 c34 c35 y0 y1 y2
      go_wp2
      exact ⟨⟨j + 1, by omega, by go_num, by rw [← HC2.out]; simp, by rw [← HC2.out]; omega, HX5.out⟩, by simp [intOf]; omega⟩
    · have HJ : Hid (P.funs.take j = P.funs) := by show _ = _; rw [List.take_of_length_le (by omega)]
      rw [HJ.out]
      go_wp2
      go_ret
      exact ⟨rfl, HE.out.tr HX.out⟩

/-! ### equal lists of integers -/
def RInts (w : World) (v : Value) (l : List Int) : Prop :=
  ∃ A c, v = .slice A l.length c ∧ l.length ≤ c ∧ c ≤ maxLen ∧
    ∀ i a, l[i]? = some a → ∃ b o, A = some ⟨b, o, none⟩ ∧ b < w.heap.size ∧ w.cell? ⟨b, o + i, none⟩ = some (.int .i64 a)
theorem RInts.below {w w' : World} {v : Value} {l : List Int} (h : RInts w v l) (hb : Ext w w') : RInts w' v l := by
  obtain ⟨A, c, rfl, h1, h2, h3⟩ := h
  refine ⟨A, c, rfl, h1, h2, fun i a hi => ?_⟩
  obtain ⟨b, o, rfl, hlt, h4⟩ := h3 i a hi
  exact ⟨b, o, rfl, Nat.lt_of_lt_of_le hlt hb.size, hb.keep h4⟩
theorem RInts.form {w : World} {v : Value} {l : List Int} (h : RInts w v l) : ∃ A c, v = .slice A l.length c ∧ l.length ≤ c ∧ c ≤ maxLen := by
  obtain ⟨A, c, h1, h2, h3, _⟩ := h; exact ⟨A, c, h1, h2, h3⟩
theorem RInts.at_ {w : World} {l : List Int} {A : Option Addr} {c : Nat} (h : RInts w (.slice A l.length c) l) {k : Nat} (hk : k < l.length) :
    ∃ b o, A = some ⟨b, o, none⟩ ∧ b < w.heap.size ∧ w.cell? ⟨b, o + k, none⟩ = some (.int .i64 l[k]) := by
  obtain ⟨A', c', he, h1, h2, h3⟩ := h
  cases he
  exact h3 k _ (List.getElem?_eq_getElem hk)
theorem own_ints {w : World} {B : Nat} {v : Value} {l : List Int} (h : w.ownsRow B 3 1 v l.length (l.map (Value.int .i64))) : RInts w v l := by
  rcases h.2 with ⟨rfl, h0⟩ | ⟨g, cap, cur, rfl, e2, e3, e4, e5, e6, e7⟩
  · have hL : l = [] := List.eq_nil_of_length_eq_zero h0
    subst hL
    exact ⟨none, 0, rfl, Nat.le_refl _, Nat.zero_le _, fun i x hx => by simp at hx⟩
  · refine ⟨_, cap, rfl, e4, e5, fun i x hx => ?_⟩
    have hi : i < l.length := (List.getElem?_eq_some_iff.1 hx).1
    refine ⟨g, 0, rfl, (Array.getElem?_eq_some_iff.1 e3).1, ?_⟩
    rw [Nat.zero_add, World.ownsRow.cellAt h i (by omega), List.getElem?_map, hx]; rfl

set_option maxHeartbeats 2000000 in
set_option maxRecDepth 100000 in
theorem sameInts_any (v1 v2 : Value) (l : List Int) (w : World) (h1 : RInts w v1 l) (h2 : RInts w v2 l) :
    Calls Tryz.prog 40 #[v1, v2] w fun e w' => e = .returned (.bool true) ∧ Ext w w' := by
  have H1 := Lib.hid h1; have H2 := Lib.hid h2
  obtain ⟨A1, c1, rfl, hc1, hm1⟩ := h1.form
  obtain ⟨A2, c2, rfl, hc2, hm2⟩ := h2.form
  clear h1 h2
  unfold maxLen at hm1 hm2
  go_enter Tryz.func40, Tryz.ntmps40
  go_wp2
  go_loopw [13] (fun i wr => ∃ j : Nat, j ≤ l.length ∧ i = .int .i64 j ∧ Ext w wr) (fun i _ => l.length - (intOf i).toNat)
  case atStart => exact ⟨0, Nat.zero_le _, rfl, Ext.rf _⟩
  case round =>
    obtain ⟨j, hj, rfl, hb⟩ := hrel
    have HX := Lib.hid hb
    clear hb
    by_cases hlt : j < l.length
    · obtain ⟨b, o, rfl, hbl, y0⟩ := H1.out.at_ hlt
      obtain ⟨b2, o2, rfl, hbl2, z0⟩ := H2.out.at_ hlt
      have y0 := HX.out.keep y0
      have z0 := HX.out.keep z0
      generalize l[j] = x at *
      have hji : (j : Int) < l.length := by omega
      go_wp2
      go_region
      all_goals
        have HXD : Hid (Ext w wr.drew) := HX.out.drew
        go_wp2
        exact ⟨⟨j + 1, by omega, by go_num, HXD.out⟩, by simp [intOf]; omega⟩
    · go_wp2
      go_ret
      exact ⟨rfl, HX.out⟩

/-! ### equal lists of lists -/
def RLists (w : World) (v : Value) (l : List (List Int)) : Prop :=
  ∃ A c, v = .slice A l.length c ∧ l.length ≤ c ∧ c ≤ maxLen ∧
    ∀ i a, l[i]? = some a → ∃ b o u, A = some ⟨b, o, none⟩ ∧ b < w.heap.size ∧ w.cell? ⟨b, o + i, none⟩ = some u ∧ RInts w u a
theorem RLists.below {w w' : World} {v : Value} {l : List (List Int)} (h : RLists w v l) (hb : Ext w w') : RLists w' v l := by
  obtain ⟨A, c, rfl, h1, h2, h3⟩ := h
  refine ⟨A, c, rfl, h1, h2, fun i a hi => ?_⟩
  obtain ⟨b, o, u, rfl, hlt, h4, h5⟩ := h3 i a hi
  exact ⟨b, o, u, rfl, Nat.lt_of_lt_of_le hlt hb.size, hb.keep h4, h5.below hb⟩
theorem RLists.form {w : World} {v : Value} {l : List (List Int)} (h : RLists w v l) : ∃ A c, v = .slice A l.length c ∧ l.length ≤ c ∧ c ≤ maxLen := by
  obtain ⟨A, c, h1, h2, h3, _⟩ := h; exact ⟨A, c, h1, h2, h3⟩
theorem RLists.at_ {w : World} {l : List (List Int)} {A : Option Addr} {c : Nat} (h : RLists w (.slice A l.length c) l) {k : Nat} (hk : k < l.length) :
    ∃ b o u, A = some ⟨b, o, none⟩ ∧ b < w.heap.size ∧ w.cell? ⟨b, o + k, none⟩ = some u ∧ RInts w u l[k] := by
  obtain ⟨A', c', he, h1, h2, h3⟩ := h
  cases he
  exact h3 k _ (List.getElem?_eq_getElem hk)

set_option maxHeartbeats 2000000 in
set_option maxRecDepth 100000 in
theorem sameLists_any (v1 v2 : Value) (l : List (List Int)) (w : World) (h1 : RLists w v1 l) (h2 : RLists w v2 l) :
    Calls Tryz.prog 15 #[v1, v2] w fun e w' => e = .returned (.bool true) ∧ Ext w w' := by
  have H1 := Lib.hid h1; have H2 := Lib.hid h2
  obtain ⟨A1, c1, rfl, hc1, hm1⟩ := h1.form
  obtain ⟨A2, c2, rfl, hc2, hm2⟩ := h2.form
  clear h1 h2
  unfold maxLen at hm1 hm2
  go_enter Tryz.func15, Tryz.ntmps15
  go_wp2
  go_loopw [13] (fun i wr => ∃ j : Nat, j ≤ l.length ∧ i = .int .i64 j ∧ Ext w wr) (fun i _ => l.length - (intOf i).toNat)
  case atStart => exact ⟨0, Nat.zero_le _, rfl, Ext.rf _⟩
  case round =>
    obtain ⟨j, hj, rfl, hb⟩ := hrel
    have HX := Lib.hid hb
    clear hb
    by_cases hlt : j < l.length
    · obtain ⟨b, o, u1, rfl, hbl, y0, r1⟩ := H1.out.at_ hlt
      obtain ⟨b2, o2, u2, rfl, hbl2, z0, r2⟩ := H2.out.at_ hlt
      have y0 := HX.out.keep y0
      have z0 := HX.out.keep z0
      have HR1 := Lib.hid (r1.below HX.out)
      have HR2 := Lib.hid (r2.below HX.out)
      generalize l[j] = x at *
      clear r1 r2
      have hji : (j : Int) < l.length := by omega
      have em : IntKind.wrap .i64 (j : Int) = j := by simp (disch := omega) only [Go.IntWalk.i64_in]
      go_wp2
      go_region_with (go_at_call 40; (with_reducible refine (sameInts_any u1 u2 x _ (HR1.out.below (Ext.rf _).drew) (HR2.out.below (Ext.rf _).drew)).mono ?_); rintro e w9 ⟨rfl, hb9⟩; have HX9 : Hid (Ext w w9) := HX.out.tr (Ext.tr (b := wr.drew) (Ext.rf wr).drew hb9); clear hb9 y0 z0)
      all_goals
        go_wp2
        exact ⟨⟨j + 1, by omega, by go_num, HX9.out⟩, by simp [intOf]; omega⟩
    · go_wp2
      go_ret
      exact ⟨rfl, HX.out⟩
end Go.Proofs.YtfohcdpfgbeclaaGreat

/- ref.go: calls. -/
namespace Go.Proofs.YtfohcdpfgbeclaaGreat
open Go.RowKit

/-- The nodes of a term, whatever their depth. -/
def nodS (t : Tm) : List Tm := (nodesL 1 t).map (·.2)
theorem nS_same : ∀ (n : Nat) (t : Tm) (d : Int), uT t ≤ n → (nodesL d t).map (·.2) = nodS t := by
  intro n
  induction n with
  | zero => intro t d hu; rw [uT_kids] at hu; omega
  | succ n ih =>
    intro t d hu
    have hk := uT_kids t
    have h : ∀ (l : List (Bnd × Tm)) (d e : Int), uK l ≤ n → (nodesK d l).map (·.2) = (nodesK e l).map (·.2) := by
      intro l
      induction l with
      | nil => intro d e _; rfl
      | cons x r ihr =>
        intro d e hl
        rw [uK] at hl
        rw [nodesK, nodesK, List.map_append, List.map_append, ih x.2 d (by omega), ih x.2 e (by omega), ihr d e (by omega)]
    unfold nodS
    rw [nodesL_kids, nodesL_kids, List.map_cons, List.map_cons, h (kids t) (d + 1) (1 + 1) (by omega)]
theorem nodesK_nS (d : Int) : ∀ l : List (Bnd × Tm), (nodesK d l).map (·.2) = (l.map (·.2)).flatMap nodS
  | [] => rfl
  | x :: r => by rw [nodesK, List.map_append, nS_same _ x.2 d (Nat.le_refl _), nodesK_nS d r]; rfl
theorem nodS_kids (t : Tm) : nodS t = t :: (chT t).flatMap nodS := by
  unfold nodS
  rw [nodesL_kids, List.map_cons, nodesK_nS, kids_chT]; rfl
theorem callsT_nodS (t : Tm) (k : Int) : callsT t k = (nodS t).any fun y => decide (y.op = 9) && decide (y.n = k) := by
  unfold callsT nodS
  rw [List.any_map]; rfl
theorem callsT_kids (t : Tm) (k : Int) : callsT t k = ((decide (t.op = 9) && decide (t.n = k)) || (chT t).any fun x => callsT x k) := by
  rw [callsT_nodS, nodS_kids, List.any_cons, List.any_flatMap]
  congr 2
  funext x
  rw [callsT_nodS]

/-- A block of the call's own that holds bools. -/
def BBlk (w : World) (g : Nat) (S : List Bool) : Prop := w.heap[g]? = some (.cells ((S.map Value.bool).toArray) 4 (0, 0))
section
variable {w w' : World} {g : Nat} {S : List Bool}
theorem BBlk.lt (h : BBlk w g S) : g < w.heap.size := (Array.getElem?_eq_some_iff.1 h).1
theorem BBlk.ext (h : BBlk w g S) (hb : Ext w w') : BBlk w' g S := (hb.block g h.lt).trans h
theorem BBlk.cell (h : BBlk w g S) {i : Nat} (hi : i < S.length) : w.cell? ⟨g, i, none⟩ = some (.bool S[i]) := by
  unfold BBlk at h
  simp [World.cell?, h, hi]
theorem BBlk.frozen (h : BBlk w g S) (i : Nat) : w.frozen? ⟨g, i, none⟩ = false := by
  unfold BBlk at h
  simp [World.frozen?, h]
theorem BBlk.set (h : BBlk w g S) (i : Nat) (b : Bool) : BBlk (w.setCell ⟨g, i, none⟩ (.bool b)) g (S.set i b) := by
  unfold BBlk at h ⊢
  simp [World.setCell, Array.getElem?_modify, h]
theorem BBlk.ne_int (h : BBlk w g S) {b o : Nat} {x : Int} (hc : w.cell? ⟨b, o, none⟩ = some (.int .i64 x)) : b ≠ g := by
  rintro rfl
  unfold BBlk at h
  simp only [World.cell?, h] at hc
  by_cases ho : o < S.length
  · simp [ho] at hc
  · simp [ho] at hc
theorem BBlk.ne_str (h : BBlk w g S) {b o : Nat} {x : Str} (hc : w.cell? ⟨b, o, none⟩ = some (.string x)) : b ≠ g := by
  rintro rfl
  unfold BBlk at h
  simp only [World.cell?, h] at hc
  by_cases ho : o < S.length
  · simp [ho] at hc
  · simp [ho] at hc
theorem BBlk.keep (_hb : BBlk w g S) (ho : Only (fun j => j = g) w w') {b o : Nat} {v : Value} (hl : b < w.heap.size) (hne : b ≠ g) (h : w.cell? ⟨b, o, none⟩ = some v) : w'.cell? ⟨b, o, none⟩ = some v := by
  rw [World.cell?_of_block (ho.block _ hl hne)]; exact h
theorem C6.turnB {b o : Nat} {t : Tm} {va vc : Value} (hb : BBlk w g S) (ho : Only (fun j => j = g) w w') (hl : b < w.heap.size) (h : C6 w b o t va vc) : C6 w' b o t va vc := by
  have hne := hb.ne_int h.c0
  exact ⟨hb.keep ho hl hne h.c0, hb.keep ho hl hne h.c1, hb.keep ho hl hne h.c2, hb.keep ho hl hne h.c3, hb.keep ho hl hne h.c4, hb.keep ho hl hne h.c5⟩
theorem RStrs.turnB {v : Value} {l : List Str} (hb : BBlk w g S) (ho : Only (fun j => j = g) w w') (h : RStrs w v l) : RStrs w' v l := by
  obtain ⟨A, c, rfl, h1, h2, h3⟩ := h
  refine ⟨A, c, rfl, h1, h2, fun i a hi => ?_⟩
  obtain ⟨b, o, rfl, hlt, h4, h5⟩ := h3 i a hi
  exact ⟨b, o, rfl, Nat.lt_of_lt_of_le hlt ho.size, hb.keep ho hlt (hb.ne_str h4) h4, h5⟩
theorem RT.turnB (hb : BBlk w g S) (ho : Only (fun j => j = g) w w') : ∀ {k : Nat} {t : Tm} {va vc : Value}, RT w k t va vc → RT w' k t va vc
  | 0, _, _, _, h => h.elim
  | k + 1, t, va, vc, ⟨h1, ⟨A, c, e, h2, h3, h4⟩, ⟨B, d, e', h5, h6, h7⟩⟩ => by
    refine ⟨h1, ⟨A, c, e, h2, h3, fun i x hi => ?_⟩, ⟨B, d, e', h5, h6, fun i x hi => ?_⟩⟩
    · obtain ⟨b, o, xa, xc, ha, hl, h8, h9⟩ := h4 i x hi
      exact ⟨b, o, xa, xc, ha, Nat.lt_of_lt_of_le hl ho.size, h8.turnB hb ho hl, RT.turnB hb ho h9⟩
    · obtain ⟨b, o, vn, xa, xc, ha, hl, hn, hs, h8, h9⟩ := h7 i x hi
      exact ⟨b, o, vn, xa, xc, ha, Nat.lt_of_lt_of_le hl ho.size, hb.keep ho hl (hb.ne_int h8.c0) hn, hs.turnB hb ho, h8.turnB hb ho hl, RT.turnB hb ho h9⟩
theorem RTms.turnB {k : Nat} {v : Value} {l : List Tm} (hb : BBlk w g S) (ho : Only (fun j => j = g) w w') (h : RTms w k v l) : RTms w' k v l := by
  obtain ⟨A, c, rfl, h1, h2, h3⟩ := h
  refine ⟨A, c, rfl, h1, h2, fun i x hi => ?_⟩
  obtain ⟨b, o, xa, xc, ha, hl, h8, h9⟩ := h3 i x hi
  exact ⟨b, o, xa, xc, ha, Nat.lt_of_lt_of_le hl ho.size, h8.turnB hb ho hl, h9.turnB hb ho⟩
end
/-- What has been marked. -/
def Marked (S S' : List Bool) (f : Int → Bool) : Prop := S'.length = S.length ∧ ∀ i : Nat, i < S.length → S'.getD i false = (S.getD i false || f i)
theorem Marked.rf (S : List Bool) {f : Int → Bool} (h : ∀ i, f i = false) : Marked S S f := ⟨rfl, fun i _ => by rw [h]; simp⟩
theorem Marked.tr {S S1 S2 : List Bool} {f g h : Int → Bool} (h1 : Marked S S1 f) (h2 : Marked S1 S2 g) (he : ∀ i, h i = (f i || g i)) : Marked S S2 h :=
  ⟨h2.1.trans h1.1, fun i hi => by rw [h2.2 i (by rw [h1.1]; exact hi), h1.2 i hi, he, Bool.or_assoc]⟩
theorem Marked.set (S : List Bool) {n : Nat} (hn : n < S.length) : Marked S (S.set n true) (fun i => decide ((n : Int) = i)) := by
  refine ⟨List.length_set, fun i hi => ?_⟩
  by_cases h : n = i
  · subst h; simp [List.getD_eq_getElem?_getD, hn]
  · have h' : ¬ (n : Int) = (i : Int) := by omega
    simp [List.getD_eq_getElem?_getD, List.getElem?_set_ne h, h']

set_option maxHeartbeats 4000000 in
set_option maxRecDepth 100000 in
theorem rcalls_any : ∀ (k : Nat) (t : Tm) (va vc : Value) (g : Nat) (S : List Bool) (w : World), RT w k t va vc → nT t ≤ 1000000 → BBlk w g S → (∀ y ∈ nodS t, y.op = 9 → 0 ≤ y.n ∧ y.n < S.length) → S.length ≤ 1000 →
    Calls Tryz.prog 41 #[tV t va vc, .slice (some ⟨g, 0, none⟩) S.length S.length] w fun e w' => e = .returned (.tuple #[]) ∧ (∃ S', BBlk w' g S' ∧ Marked S S' (callsT t)) ∧ Only (fun j => j = g) w w' := by
  intro k
  induction k with
  | zero => intro t va vc g S w ht; exact ht.elim
  | succ k ih =>
    intro t va vc g S w ht hn hS hr hl
    have HT := Lib.hid ht; have HIH := Lib.hid ih; have HN := Lib.hid hn; have HBS := Lib.hid hS; have HRG := Lib.hid hr
    obtain ⟨_, ⟨Aa, ca, rfl, -, -⟩, ⟨Bb, cb, rfl, -, -⟩⟩ := ht.form
    clear ht ih hn hS hr
    have HK := Lib.hid (nT_kids t)
    have HCK := Lib.hid (callsT_kids t)
    have HCH : Hid (∀ x ∈ chT t, ∀ y ∈ nodS x, y.op = 9 → 0 ≤ y.n ∧ y.n < S.length) := fun x hx y hy => HRG.out y (by rw [nodS_kids]; exact List.mem_cons_of_mem _ (List.mem_flatMap.2 ⟨x, hx, hy⟩))
    have HTN : Hid (t.op = 9 → 0 ≤ t.n ∧ t.n < S.length) := HRG.out t (by rw [nodS_kids]; exact List.mem_cons_self ..)
    have HE := Lib.hid (Ext.al w (.cells #[.int .i64 t.op, .int .i64 t.n, .string t.nm, .int .i64 t.ty, .slice Aa t.args.length ca, .slice Bb t.cls.length cb] 43))
    have HB := Lib.hid (heapNew w (.cells #[.int .i64 t.op, .int .i64 t.n, .string t.nm, .int .i64 t.ty, .slice Aa t.args.length ca, .slice Bb t.cls.length cb] 43))
    have HB1 := Lib.hid (HBS.out.ext HE.out)
    have HGL := Lib.hid HBS.out.lt
    obtain ⟨x0, x1, x2, x3, x4, x5⟩ := cells6 HB.out
    have start : ∃ q : Bool, (t.op == 9) = q := ⟨_, rfl⟩
    obtain ⟨q, hq⟩ := start
    cases q
    focus
      have HO : Hid (¬ t.op = 9) := by show ¬ _; simpa using hq
      go_enter Tryz.func41, Tryz.ntmps41
      go_wp2_with fail
      generalize w.alloc _ = w1 at *
      have HST : Hid (∃ S1, BBlk w1 g S1 ∧ Marked S S1 (fun i => decide (t.op = 9) && decide (t.n = i)) ∧ Only (fun j => j = g) w w1 ∧ w1.heap[w.heap.size]? = some (.cells #[.int .i64 t.op, .int .i64 t.n, .string t.nm, .int .i64 t.ty, .slice Aa t.args.length ca, .slice Bb t.cls.length cb] 43 (0, 0))) :=
        ⟨S, HB1.out, Marked.rf S (fun i => by rw [decide_eq_false HO.out]; rfl), Only.of_ext HE.out, HB.out⟩
      obtain ⟨w5, hw5⟩ : ∃ x, x = w1 := ⟨_, rfl⟩
      subst hw5
    rotate_left
    focus
      have HO : Hid (t.op = 9) := by show _ = _; simpa using hq
      have hn0 : 0 ≤ t.n := (HTN.out HO.out).1
      have hn1 : t.n < S.length := (HTN.out HO.out).2
      have hml : t.n.toNat < S.length := by omega
      have e0 := HB1.out.cell hml
      have f0 := HB1.out.frozen t.n.toNat
      have HS1 := Lib.hid (HB1.out.set t.n.toNat true)
      have HMK : Hid (Marked S (S.set t.n.toNat true) (fun i => decide (t.op = 9) && decide (t.n = i))) := by
        have h := Marked.set S hml
        have e : (fun i => decide ((t.n.toNat : Int) = i)) = (fun i => decide (t.op = 9) && decide (t.n = i)) := by
          funext i
          rw [decide_eq_true HO.out, Bool.true_and, Int.toNat_of_nonneg hn0]
        rw [e] at h
        exact h
      have hne : w.heap.size ≠ g := by have := HGL.out; omega
      have hb5 : ((w.alloc (.cells #[.int .i64 t.op, .int .i64 t.n, .string t.nm, .int .i64 t.ty, .slice Aa t.args.length ca, .slice Bb t.cls.length cb] 43)).setCell ⟨g, t.n.toNat, none⟩ (.bool true)).heap[w.heap.size]? = some (.cells #[.int .i64 t.op, .int .i64 t.n, .string t.nm, .int .i64 t.ty, .slice Aa t.args.length ca, .slice Bb t.cls.length cb] 43 (0, 0)) := (set_other _ hne).trans HB.out
      have HB5 := Lib.hid hb5
      have HON : Hid (Only (fun j => j = g) w ((w.alloc (.cells #[.int .i64 t.op, .int .i64 t.n, .string t.nm, .int .i64 t.ty, .slice Aa t.args.length ca, .slice Bb t.cls.length cb] 43)).setCell ⟨g, t.n.toNat, none⟩ (.bool true))) := (Only.of_ext HE.out).tr (Only.setCell (C := fun j => j = g) (p := ⟨g, t.n.toNat, none⟩) rfl _ _)
      obtain ⟨z0, z1, z2, z3, z4, z5⟩ := cells6 hb5
      clear hb5 hne
      go_enter Tryz.func41, Tryz.ntmps41
      generalize S[t.n.toNat] = s0 at *
      go_wp2_with fail
      clear z0 z1 z2 z3 z4 z5 e0 f0 hml
      generalize World.setCell (World.alloc w _) _ _ = w5 at *
      have HST : Hid (∃ S1, BBlk w5 g S1 ∧ Marked S S1 (fun i => decide (t.op = 9) && decide (t.n = i)) ∧ Only (fun j => j = g) w w5 ∧ w5.heap[w.heap.size]? = some (.cells #[.int .i64 t.op, .int .i64 t.n, .string t.nm, .int .i64 t.ty, .slice Aa t.args.length ca, .slice Bb t.cls.length cb] 43 (0, 0))) := ⟨_, HS1.out, HMK.out, HON.out, HB5.out⟩
      clear hn0 hn1
    rotate_left
    all_goals
      obtain ⟨S1, hs1, hm1, ho1, hb1⟩ := HST.out
      have HS5 := Lib.hid hs1; have HM5 := Lib.hid hm1; have HO5 := Lib.hid ho1
      clear hs1 hm1 ho1 hb1 HST
      (with_reducible refine (Children_any k t _ _ w5 (HT.out.turnB HBS.out HO5.out) HN.out).mono ?_)
      rintro e w6 ⟨v, rfl, hv, hb6⟩
      have HV := Lib.hid hv
      have HS6 := Lib.hid (HS5.out.ext hb6)
      have HO6 : Hid (Only (fun j => j = g) w w6) := HO5.out.tr (Only.of_ext hb6)
      obtain ⟨A, c, rfl, hc, hm⟩ := hv.form
      unfold maxLen at hm
      clear hv hb6 x0 x1 x2 x3 x4 x5 hq
      generalize hch : chT t = ch at *
      go_wp2
      go_loopw [16] (fun i wr => ∃ (j : Nat) (S' : List Bool), j ≤ ch.length ∧ i = .int .i64 j ∧ BBlk wr g S' ∧ Marked S1 S' (fun i => (ch.take j).any fun x => callsT x i) ∧ Only (fun j => j = g) w6 wr) (fun i _ => ch.length - (intOf i).toNat)
      case atStart => exact ⟨0, S1, Nat.zero_le _, rfl, HS6.out, Marked.rf _ (fun i => rfl), Only.rf _ _⟩
      case round =>
        obtain ⟨j, S', hj, rfl, hs, hmk, ho⟩ := hrel
        have HSJ := Lib.hid hs; have HMJ := Lib.hid hmk; have HOJ := Lib.hid ho
        have HLEN : Hid (S'.length = S.length) := hmk.1.trans HM5.out.1
        clear hs hmk ho
        by_cases hlt : j < ch.length
        · obtain ⟨b, o, xa, xc, rfl, hbl, y6, yt⟩ := (HV.out.turnB HS6.out HOJ.out).at_ hlt
          have HNX : Hid (nT ch[j] ≤ 1000000) := by
            show _ ≤ _
            have := nL_mem (List.getElem_mem hlt)
            have := HK.out; have := HN.out; omega
          have HRX : Hid (∀ y ∈ nodS ch[j], y.op = 9 → 0 ≤ y.n ∧ y.n < S.length) := HCH.out _ (List.getElem_mem hlt)
          have HTK : Hid (ch.take (j + 1) = ch.take j ++ [ch[j]]) := List.take_succ_eq_append_getElem hlt
          have c0 := y6.c0
          have c1 := y6.c1
          have c2 := y6.c2
          have c3 := y6.c3
          have c4 := y6.c4
          have c5 := y6.c5
          have HKX := Lib.hid yt
          obtain ⟨-, ⟨Ax, cx, rfl, -, -⟩, ⟨Bx, dx, rfl, -, -⟩⟩ := yt.form
          generalize ch[j] = x at *
          clear y6 yt
          have HE8 := Lib.hid (Ext.al wr (.cells #[.int .i64 x.op, .int .i64 x.n, .string x.nm, .int .i64 x.ty, .slice Ax x.args.length cx, .slice Bx x.cls.length dx] 43))
          go_wp2_with fail
          have hcall := HIH.out x _ _ g S' _ (HKX.out.below HE8.out) HNX.out (HSJ.out.ext HE8.out) (by rw [HLEN.out]; exact HRX.out) (by rw [HLEN.out]; exact hl)
          rw [HLEN.out] at hcall
          (with_reducible refine hcall.mono ?_)
          clear hcall
          rintro e w9 ⟨rfl, ⟨S2, hs2, hm2⟩, ho2⟩
          have HS9 := Lib.hid hs2
          have HO9 : Hid (Only (fun j => j = g) w6 w9) := HOJ.out.tr ((Only.of_ext HE8.out).tr ho2)
          have HM9 : Hid (Marked S1 S2 (fun i => (ch.take (j + 1)).any fun x => callsT x i)) := HMJ.out.tr hm2 (fun i => by rw [HTK.out, List.any_append]; simp)
          clear hs2 hm2 ho2 c0 c1 c2 c3 c4 c5
          go_wp2
          exact ⟨⟨j + 1, S2, by omega, by go_num, HS9.out, HM9.out, HO9.out⟩, by simp [intOf]; omega⟩
        · have HMF : Hid (Marked S S' (callsT t)) := HM5.out.tr HMJ.out (fun i => by rw [HCK.out, List.take_of_length_le (by omega : ch.length ≤ j)])
          go_wp2
          refine bodyPost_end (results_none rfl _ _ _) rfl ?_
          exact ⟨rfl, ⟨S', HSJ.out, HMF.out⟩, HO6.out.tr HOJ.out⟩
end Go.Proofs.YtfohcdpfgbeclaaGreat

/- The callees of a body, as a sorted list. -/
namespace Go.Proofs.YtfohcdpfgbeclaaGreat

theorem sortedI_same : ∀ (l m : List Int), SortedI l → SortedI m → (∀ k, k ∈ l ↔ k ∈ m) → l = m
  | [], [], _, _, _ => rfl
  | [], b :: m, _, _, h => absurd ((h b).2 (by simp)) (by simp)
  | a :: l, [], _, _, h => absurd ((h a).1 (by simp)) (by simp)
  | a :: l, b :: m, hl, hm, h => by
    have hl' := List.pairwise_cons.1 hl
    have hm' := List.pairwise_cons.1 hm
    have hab : a = b := by
      rcases List.mem_cons.1 ((h a).1 (by simp)) with e | h1
      · exact e
      · rcases List.mem_cons.1 ((h b).2 (by simp)) with e | h2
        · exact e.symm
        · have := hl'.1 b h2; have := hm'.1 a h1; omega
    subst hab
    refine congrArg _ (sortedI_same l m hl'.2 hm'.2 (fun k => ⟨fun hk => ?_, fun hk => ?_⟩))
    · rcases List.mem_cons.1 ((h k).1 (List.mem_cons_of_mem _ hk)) with e | h1
      · subst e; have := hl'.1 _ hk; omega
      · exact h1
    · rcases List.mem_cons.1 ((h k).2 (List.mem_cons_of_mem _ hk)) with e | h1
      · subst e; have := hm'.1 _ hk; omega
      · exact h1
/-- The numbers i below n with f i, in order. -/
def upI (f : Int → Bool) : Nat → List Int
  | 0 => []
  | n + 1 => if f n then upI f n ++ [(n : Int)] else upI f n
theorem upI_mem (f : Int → Bool) : ∀ (n : Nat) (k : Int), k ∈ upI f n ↔ 0 ≤ k ∧ k < n ∧ f k = true
  | 0, k => by simp [upI]; omega
  | n + 1, k => by
    have ih := upI_mem f n k
    rw [upI]
    by_cases hk : k = n
    · subst hk
      cases h : f (n : Int)
      · rw [if_neg (by simp), ih]
        constructor
        · rintro ⟨_, h1, _⟩; omega
        · rintro ⟨_, _, h1⟩; cases h1
      · rw [if_pos rfl, List.mem_append, ih]
        constructor
        · intro _; exact ⟨by omega, by omega, rfl⟩
        · intro _; exact .inr (by simp)
    · have hm : k ∈ (if f (n : Int) = true then upI f n ++ [(n : Int)] else upI f n) ↔ k ∈ upI f n := by
        split
        · rw [List.mem_append]
          constructor
          · rintro (h | h)
            · exact h
            · exact absurd (List.mem_singleton.1 h) hk
          · exact .inl
        · exact Iff.rfl
      rw [hm, ih]
      constructor
      · rintro ⟨h1, h2, h3⟩; exact ⟨h1, by omega, h3⟩
      · rintro ⟨h1, h2, h3⟩; exact ⟨h1, by omega, h3⟩
theorem upI_sorted (f : Int → Bool) : ∀ n : Nat, SortedI (upI f n)
  | 0 => List.Pairwise.nil
  | n + 1 => by
    rw [upI]
    split
    · refine List.pairwise_append.2 ⟨upI_sorted f n, List.pairwise_singleton .., fun a ha b hb => ?_⟩
      have h := ((upI_mem f n a).1 ha).2.1
      rw [List.mem_singleton.1 hb]; exact h
    · exact upI_sorted f n
theorem upI_len (f : Int → Bool) : ∀ n : Nat, (upI f n).length ≤ n
  | 0 => Nat.le_refl _
  | n + 1 => by
    have := upI_len f n
    rw [upI]
    split
    · rw [List.length_append, List.length_singleton]; omega
    · omega
/-- A list of callees that is sorted is the list of the numbers that are called. -/
theorem callees_are {t : Tm} {n : Nat} {l : List Int} (hr : ∀ y ∈ nodS t, y.op = 9 → 0 ≤ y.n ∧ y.n < n) (hs : SortedI l) (hm : ∀ k, k ∈ l ↔ callsT t k = true) : l = upI (callsT t) n := by
  refine sortedI_same _ _ hs (upI_sorted _ _) (fun k => ?_)
  rw [hm, upI_mem]
  constructor
  · intro h
    have h' := h
    rw [callsT_nodS, List.any_eq_true] at h'
    obtain ⟨y, hy, hc⟩ := h'
    rw [Bool.and_eq_true, decide_eq_true_eq, decide_eq_true_eq] at hc
    have := hr y hy hc.1
    rw [hc.2] at this
    exact ⟨this.1, this.2, h⟩
  · exact fun h => h.2.2
/-- In a valid term each call names a function that is there. -/
theorem valid_calls {P : Pg} : ∀ (n : Nat) (t : Tm) (V L : Scp), uT t ≤ n → validT P V L t = true → ∀ y ∈ nodS t, y.op = 9 → 0 ≤ y.n ∧ y.n < P.funs.length := by
  intro n
  induction n with
  | zero => intro t V L hu; rw [uT_kids] at hu; omega
  | succ n ih =>
    intro t V L hu h y hy h9
    rw [validT_kids] at h
    simp only [Bool.and_eq_true, List.all_eq_true] at h
    obtain ⟨⟨hf, _⟩, hk⟩ := h
    rw [nodS_kids] at hy
    rcases List.mem_cons.1 hy with rfl | hy
    · have e : fitsT P y = (isIdxB y.n P.funs.length && hasF y true false false (P.funs.getD y.n.toNat noFn).ps.length 0) := by
        unfold fitsT
        rw [h9]
        simp (decide := true) only [if_true, if_false]
      rw [e, Bool.and_eq_true] at hf
      have h1 := hf.1
      unfold isIdxB at h1
      simp only [Bool.and_eq_true, decide_eq_true_eq] at h1
      omega
    · obtain ⟨x, hx, hy⟩ := List.mem_flatMap.1 hy
      have hu' := uT_ch hx
      rw [← kids_chT] at hx
      obtain ⟨z, hz, rfl⟩ := List.mem_map.1 hx
      have hv := hk z hz
      unfold validK at hv
      rw [Bool.and_eq_true] at hv
      exact ih z.2 _ _ (by omega) hv.2 y hy h9
end Go.Proofs.YtfohcdpfgbeclaaGreat
