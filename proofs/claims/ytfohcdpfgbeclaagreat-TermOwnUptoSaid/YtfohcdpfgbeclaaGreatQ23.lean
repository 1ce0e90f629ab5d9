/- ref.go: SameProg, of equal programs. -/
import Derived.Test.YtfohcdpfgbeclaaGreatQ22
namespace Go.Proofs.YtfohcdpfgbeclaaGreat
open Go.RowKit

set_option maxHeartbeats 4000000 in
set_option maxRecDepth 100000 in
theorem SameProg_any (P : Pg) (vd vf ud uf : Value) (w : World) (hd : RDecls w vd P.decls) (hf : RFns w vf P.funs) (hd' : RDecls w ud P.decls) (hf' : RFns w uf P.funs) :
    Calls Tryz.prog 28 #[pV vd vf, pV ud uf] w fun e w' => e = .returned (.bool true) ∧ Ext w w' := by
  have HD := Lib.hid hd; have HF := Lib.hid hf; have HD' := Lib.hid hd'; have HF' := Lib.hid hf'
  obtain ⟨Ad, cd, rfl, hcd, hmd⟩ := hd.form
  obtain ⟨Af, cf, rfl, hcf, hmf⟩ := hf.form
  obtain ⟨Bd, dd, rfl, hdd, hmd'⟩ := hd'.form
  obtain ⟨Bf, df, rfl, hdf, hmf'⟩ := hf'.form
  clear hd hf hd' hf'
  unfold maxLen at hmd hmf hmd' hmf'
  have HE := Lib.hid (Ext.al2 w (.cells #[.slice Ad P.decls.length cd, .slice Af P.funs.length cf] 25) (.cells #[.slice Bd P.decls.length dd, .slice Bf P.funs.length df] 25))
  have hb1 := heapNew w (.cells #[.slice Ad P.decls.length cd, .slice Af P.funs.length cf] 25)
  have hb2 := heapNew (w.alloc (.cells #[.slice Ad P.decls.length cd, .slice Af P.funs.length cf] 25)) (.cells #[.slice Bd P.decls.length dd, .slice Bf P.funs.length df] 25)
  rw [World.size_alloc] at hb2
  have HB1 := Lib.hid (((Ext.al (w.alloc (.cells #[.slice Ad P.decls.length cd, .slice Af P.funs.length cf] 25)) (.cells #[.slice Bd P.decls.length dd, .slice Bf P.funs.length df] 25)).block _ (heap_lt hb1)).trans hb1)
  have HB2 := Lib.hid hb2
  clear hb1 hb2
  have p0 := cellAt HB1.out 0
  have p1 := cellAt HB1.out 1
  have r0 := cellAt HB2.out 0
  have r1 := cellAt HB2.out 1
  go_enter Tryz.func28, Tryz.ntmps28
  go_wp2_with fail
  generalize World.alloc (World.alloc w _) _ = w1 at *
  clear p0 p1 r0 r1
  (with_reducible refine (RSameD_any _ _ P.decls P.decls _ (HD.out.below HE.out) (HD'.out.below HE.out)).mono ?_)
  rw [eqDs_refl]
  rintro e w2 ⟨rfl, hb⟩
  have HX2 := Lib.hid (HE.out.tr hb)
  have HC1 := Lib.hid ((hb.block _ (heap_lt HB1.out)).trans HB1.out)
  have HC2 := Lib.hid ((hb.block _ (heap_lt HB2.out)).trans HB2.out)
  clear hb
  have p1 := cellAt HC1.out 1
  have r1 := cellAt HC2.out 1
  go_wp2_with fail
  clear p1 r1
  go_loopw [26] (fun i wr => ∃ j : Nat, j ≤ P.funs.length ∧ i = .int .i64 j ∧ Ext w2 wr) (fun i _ => P.funs.length - (intOf i).toNat)
  case atStart => exact ⟨0, Nat.zero_le _, rfl, Ext.rf _⟩
  case round =>
    obtain ⟨j, hj, rfl, hb⟩ := hrel
    have HX := Lib.hid hb
    have HY := Lib.hid (HX2.out.tr hb)
    have HD2 := Lib.hid ((hb.block _ (heap_lt HC2.out)).trans HC2.out)
    clear hb
    by_cases hlt : j < P.funs.length
    · obtain ⟨b, o, vp, xa, xc, kf, rfl, hbl, y0, y1, y2, yc, y3, y4, y5⟩ := HF.out.at_ hlt
      obtain ⟨b', o', vp', xa', xc', kf', rfl, hbl', z0, z1, z2, zc, z3, z4, z5⟩ := HF'.out.at_ hlt
      have y0 := HY.out.keep y0
      have y1 := HY.out.keep y1
      have y2 := HY.out.keep y2
      have yc := yc.below HY.out
      have z0 := HY.out.keep z0
      have z1 := HY.out.keep z1
      have z2 := HY.out.keep z2
      have zc := zc.below HY.out
      obtain ⟨-, ⟨Ax, cx, rfl, -, -⟩, ⟨Bx, dx, rfl, -, -⟩⟩ := y5.form
      obtain ⟨Ap, cp, rfl, -, -⟩ := y4.form
      obtain ⟨-, ⟨Ax', cx', rfl, -, -⟩, ⟨Bx', dx', rfl, -, -⟩⟩ := z5.form
      obtain ⟨Ap', cp', rfl, -, -⟩ := z4.form
      have HK := Lib.hid ((RT.mono (Nat.le_max_left kf kf') y5).below HY.out)
      have HK' := Lib.hid ((RT.mono (Nat.le_max_right kf kf') z5).below HY.out)
      have HPS := Lib.hid (y4.below HY.out)
      have HPS' := Lib.hid (z4.below HY.out)
      have a0 := yc.c0
      have a1 := yc.c1
      have a2 := yc.c2
      have a3 := yc.c3
      have a4 := yc.c4
      have a5 := yc.c5
      have d0 := zc.c0
      have d1 := zc.c1
      have d2 := zc.c2
      have d3 := zc.c3
      have d4 := zc.c4
      have d5 := zc.c5
      generalize P.funs[j] = f at *
      have r1 := cellAt HD2.out 1
      have hE1 := Ext.al wr (.cells #[.string f.nm, .slice Ap f.ps.length cp, .int .i64 f.res, .int .i64 f.body.op, .int .i64 f.body.n, .string f.body.nm, .int .i64 f.body.ty, .slice Ax f.body.args.length cx, .slice Bx f.body.cls.length dx] 62)
      have l1 := hE1.keep r1
      have m0 := hE1.keep z0
      have m1 := hE1.keep z1
      have m2 := hE1.keep z2
      have m3 := hE1.keep d0
      have m4 := hE1.keep d1
      have m5 := hE1.keep d2
      have m6 := hE1.keep d3
      have m7 := hE1.keep d4
      have m8 := hE1.keep d5
      have HE2 := Lib.hid (Ext.al2 wr (.cells #[.string f.nm, .slice Ap f.ps.length cp, .int .i64 f.res, .int .i64 f.body.op, .int .i64 f.body.n, .string f.body.nm, .int .i64 f.body.ty, .slice Ax f.body.args.length cx, .slice Bx f.body.cls.length dx] 62) (.cells #[.string f.nm, .slice Ap' f.ps.length cp', .int .i64 f.res, .int .i64 f.body.op, .int .i64 f.body.n, .string f.body.nm, .int .i64 f.body.ty, .slice Ax' f.body.args.length cx', .slice Bx' f.body.cls.length dx'] 62))
      have hg1 := heapNew wr (.cells #[.string f.nm, .slice Ap f.ps.length cp, .int .i64 f.res, .int .i64 f.body.op, .int .i64 f.body.n, .string f.body.nm, .int .i64 f.body.ty, .slice Ax f.body.args.length cx, .slice Bx f.body.cls.length dx] 62)
      have hg2 := heapNew (wr.alloc (.cells #[.string f.nm, .slice Ap f.ps.length cp, .int .i64 f.res, .int .i64 f.body.op, .int .i64 f.body.n, .string f.body.nm, .int .i64 f.body.ty, .slice Ax f.body.args.length cx, .slice Bx f.body.cls.length dx] 62)) (.cells #[.string f.nm, .slice Ap' f.ps.length cp', .int .i64 f.res, .int .i64 f.body.op, .int .i64 f.body.n, .string f.body.nm, .int .i64 f.body.ty, .slice Ax' f.body.args.length cx', .slice Bx' f.body.cls.length dx'] 62)
      rw [World.size_alloc] at hg2
      have HG1 := Lib.hid (((Ext.al (wr.alloc (.cells #[.string f.nm, .slice Ap f.ps.length cp, .int .i64 f.res, .int .i64 f.body.op, .int .i64 f.body.n, .string f.body.nm, .int .i64 f.body.ty, .slice Ax f.body.args.length cx, .slice Bx f.body.cls.length dx] 62)) (.cells #[.string f.nm, .slice Ap' f.ps.length cp', .int .i64 f.res, .int .i64 f.body.op, .int .i64 f.body.n, .string f.body.nm, .int .i64 f.body.ty, .slice Ax' f.body.args.length cx', .slice Bx' f.body.cls.length dx'] 62)).block _ (heap_lt hg1)).trans hg1)
      have HG2 := Lib.hid hg2
      clear y3 y4 y5 yc z3 z4 z5 zc hbl hbl' hE1 hg1 hg2
      go_upto_region 7 with fail
      clear y0 y1 y2 z0 z1 z2 a0 a1 a2 a3 a4 a5 d0 d1 d2 d3 d4 d5 l1 m0 m1 m2 m3 m4 m5 m6 m7 m8 r1
      generalize World.alloc (World.alloc wr _) _ = w5 at *
      have a0 := cellAt HG1.out 0
      have a1 := cellAt HG1.out 1
      have a2 := cellAt HG1.out 2
      have d0 := cellAt HG2.out 0
      have d1 := cellAt HG2.out 1
      have d2 := cellAt HG2.out 2
      go_wp2_with fail
      (with_reducible refine (SameParams_any _ _ f.ps _ (HPS.out.below HE2.out) (HPS'.out.below HE2.out)).mono ?_)
      rintro e w6 ⟨rfl, hb⟩
      have HX6 := Lib.hid (HE2.out.tr hb)
      have h1 := (hb.block _ (heap_lt HG1.out)).trans HG1.out
      have h2 := (hb.block _ (heap_lt HG2.out)).trans HG2.out
      clear hb a0 a1 a2 d0 d1 d2
      have a3 := cellAt h1 3
      have a4 := cellAt h1 4
      have a5 := cellAt h1 5
      have a6 := cellAt h1 6
      have a7 := cellAt h1 7
      have a8 := cellAt h1 8
      have d3 := cellAt h2 3
      have d4 := cellAt h2 4
      have d5 := cellAt h2 5
      have d6 := cellAt h2 6
      have d7 := cellAt h2 7
      have d8 := cellAt h2 8
      clear h1 h2
      go_wp2_with fail
      (with_reducible refine (RSame_any _ f.body _ _ _ _ _ (HK.out.below HX6.out) (HK'.out.below HX6.out)).mono ?_)
      rintro e w7 ⟨rfl, hb⟩
      have HX7 := Lib.hid (HX.out.tr (HX6.out.tr hb))
      clear hb a3 a4 a5 a6 a7 a8 d3 d4 d5 d6 d7 d8
      go_wp2_with fail
      exact ⟨⟨j + 1, by omega, by go_num, HX7.out⟩, by simp [intOf]; omega⟩
    · go_wp2_with fail
      go_ret
      exact ⟨rfl, HY.out⟩
end Go.Proofs.YtfohcdpfgbeclaaGreat

/- ref.go: calls. -/
namespace Go.Proofs.YtfohcdpfgbeclaaGreat
open Go.RowKit

/-- The nodes of a term, whatever their depth. -/
def nodS (t : Tm) : List Tm := (nodesL 1 t).map (·.2)
theorem nS_same : ∀ (n : Nat) (t : Tm) (d : Int), uT t ≤ n → (nodesL d t).map (·.2) = nodS t := by
  intro n
  induction n with
  | zero => intro t d hu; rw [uT_kids] at hu; omega
  | succ n ih =>
    intro t d hu
    have hk := uT_kids t
    have h : ∀ (l : List (Bnd × Tm)) (d e : Int), uK l ≤ n → (nodesK d l).map (·.2) = (nodesK e l).map (·.2) := by
      intro l
      induction l with
      | nil => intro d e _; rfl
      | cons x r ihr =>
        intro d e hl
        rw [uK] at hl
        rw [nodesK, nodesK, List.map_append, List.map_append, ih x.2 d (by omega), ih x.2 e (by omega), ihr d e (by omega)]
    unfold nodS
    rw [nodesL_kids, nodesL_kids, List.map_cons, List.map_cons, h (kids t) (d + 1) (1 + 1) (by omega)]
theorem nodesK_nS (d : Int) : ∀ l : List (Bnd × Tm), (nodesK d l).map (·.2) = (l.map (·.2)).flatMap nodS
  | [] => rfl
  | x :: r => by rw [nodesK, List.map_append, nS_same _ x.2 d (Nat.le_refl _), nodesK_nS d r]; rfl
theorem nodS_kids (t : Tm) : nodS t = t :: (chT t).flatMap nodS := by
  unfold nodS
  rw [nodesL_kids, List.map_cons, nodesK_nS, kids_chT]; rfl
theorem callsT_nodS (t : Tm) (k : Int) : callsT t k = (nodS t).any fun y => decide (y.op = 9) && decide (y.n = k) := by
  unfold callsT nodS
  rw [List.any_map]; rfl
theorem callsT_kids (t : Tm) (k : Int) : callsT t k = ((decide (t.op = 9) && decide (t.n = k)) || (chT t).any fun x => callsT x k) := by
  rw [callsT_nodS, nodS_kids, List.any_cons, List.any_flatMap]
  congr 2
  funext x
  rw [callsT_nodS]

/-- A block of the call's own that holds bools. -/
def BBlk (w : World) (g : Nat) (S : List Bool) : Prop := w.heap[g]? = some (.cells ((S.map Value.bool).toArray) 4 (0, 0))
section
variable {w w' : World} {g : Nat} {S : List Bool}
theorem BBlk.lt (h : BBlk w g S) : g < w.heap.size := (Array.getElem?_eq_some_iff.1 h).1
theorem BBlk.ext (h : BBlk w g S) (hb : Ext w w') : BBlk w' g S := (hb.block g h.lt).trans h
theorem BBlk.cell (h : BBlk w g S) {i : Nat} (hi : i < S.length) : w.cell? ⟨g, i, none⟩ = some (.bool S[i]) := by
  unfold BBlk at h
  simp [World.cell?, h, hi]
theorem BBlk.frozen (h : BBlk w g S) (i : Nat) : w.frozen? ⟨g, i, none⟩ = false := by
  unfold BBlk at h
  simp [World.frozen?, h]
theorem BBlk.set (h : BBlk w g S) (i : Nat) (b : Bool) : BBlk (w.setCell ⟨g, i, none⟩ (.bool b)) g (S.set i b) := by
  unfold BBlk at h ⊢
  simp [World.setCell, Array.getElem?_modify, h]
theorem BBlk.ne_int (h : BBlk w g S) {b o : Nat} {x : Int} (hc : w.cell? ⟨b, o, none⟩ = some (.int .i64 x)) : b ≠ g := by
  rintro rfl
  unfold BBlk at h
  simp only [World.cell?, h] at hc
  by_cases ho : o < S.length
  · simp [ho] at hc
  · simp [ho] at hc
theorem BBlk.ne_str (h : BBlk w g S) {b o : Nat} {x : Str} (hc : w.cell? ⟨b, o, none⟩ = some (.string x)) : b ≠ g := by
  rintro rfl
  unfold BBlk at h
  simp only [World.cell?, h] at hc
  by_cases ho : o < S.length
  · simp [ho] at hc
  · simp [ho] at hc
theorem BBlk.keep (_hb : BBlk w g S) (ho : Only (fun j => j = g) w w') {b o : Nat} {v : Value} (hl : b < w.heap.size) (hne : b ≠ g) (h : w.cell? ⟨b, o, none⟩ = some v) : w'.cell? ⟨b, o, none⟩ = some v := by
  rw [World.cell?_of_block (ho.block _ hl hne)]; exact h
theorem C6.turnB {b o : Nat} {t : Tm} {va vc : Value} (hb : BBlk w g S) (ho : Only (fun j => j = g) w w') (hl : b < w.heap.size) (h : C6 w b o t va vc) : C6 w' b o t va vc := by
  have hne := hb.ne_int h.c0
  exact ⟨hb.keep ho hl hne h.c0, hb.keep ho hl hne h.c1, hb.keep ho hl hne h.c2, hb.keep ho hl hne h.c3, hb.keep ho hl hne h.c4, hb.keep ho hl hne h.c5⟩
theorem RStrs.turnB {v : Value} {l : List Str} (hb : BBlk w g S) (ho : Only (fun j => j = g) w w') (h : RStrs w v l) : RStrs w' v l := by
  obtain ⟨A, c, rfl, h1, h2, h3⟩ := h
  refine ⟨A, c, rfl, h1, h2, fun i a hi => ?_⟩
  obtain ⟨b, o, rfl, hlt, h4, h5⟩ := h3 i a hi
  exact ⟨b, o, rfl, Nat.lt_of_lt_of_le hlt ho.size, hb.keep ho hlt (hb.ne_str h4) h4, h5⟩
theorem RT.turnB (hb : BBlk w g S) (ho : Only (fun j => j = g) w w') : ∀ {k : Nat} {t : Tm} {va vc : Value}, RT w k t va vc → RT w' k t va vc
  | 0, _, _, _, h => h.elim
  | k + 1, t, va, vc, ⟨h1, ⟨A, c, e, h2, h3, h4⟩, ⟨B, d, e', h5, h6, h7⟩⟩ => by
    refine ⟨h1, ⟨A, c, e, h2, h3, fun i x hi => ?_⟩, ⟨B, d, e', h5, h6, fun i x hi => ?_⟩⟩
    · obtain ⟨b, o, xa, xc, ha, hl, h8, h9⟩ := h4 i x hi
      exact ⟨b, o, xa, xc, ha, Nat.lt_of_lt_of_le hl ho.size, h8.turnB hb ho hl, RT.turnB hb ho h9⟩
    · obtain ⟨b, o, vn, xa, xc, ha, hl, hn, hs, h8, h9⟩ := h7 i x hi
      exact ⟨b, o, vn, xa, xc, ha, Nat.lt_of_lt_of_le hl ho.size, hb.keep ho hl (hb.ne_int h8.c0) hn, hs.turnB hb ho, h8.turnB hb ho hl, RT.turnB hb ho h9⟩
theorem RTms.turnB {k : Nat} {v : Value} {l : List Tm} (hb : BBlk w g S) (ho : Only (fun j => j = g) w w') (h : RTms w k v l) : RTms w' k v l := by
  obtain ⟨A, c, rfl, h1, h2, h3⟩ := h
  refine ⟨A, c, rfl, h1, h2, fun i x hi => ?_⟩
  obtain ⟨b, o, xa, xc, ha, hl, h8, h9⟩ := h3 i x hi
  exact ⟨b, o, xa, xc, ha, Nat.lt_of_lt_of_le hl ho.size, h8.turnB hb ho hl, h9.turnB hb ho⟩
end
/-- What has been marked. -/
def Marked (S S' : List Bool) (f : Int → Bool) : Prop := S'.length = S.length ∧ ∀ i : Nat, i < S.length → S'.getD i false = (S.getD i false || f i)
theorem Marked.rf (S : List Bool) {f : Int → Bool} (h : ∀ i, f i = false) : Marked S S f := ⟨rfl, fun i _ => by rw [h]; simp⟩
theorem Marked.tr {S S1 S2 : List Bool} {f g h : Int → Bool} (h1 : Marked S S1 f) (h2 : Marked S1 S2 g) (he : ∀ i, h i = (f i || g i)) : Marked S S2 h :=
  ⟨h2.1.trans h1.1, fun i hi => by rw [h2.2 i (by rw [h1.1]; exact hi), h1.2 i hi, he, Bool.or_assoc]⟩
theorem Marked.set (S : List Bool) {n : Nat} (hn : n < S.length) : Marked S (S.set n true) (fun i => decide ((n : Int) = i)) := by
  refine ⟨List.length_set, fun i hi => ?_⟩
  by_cases h : n = i
  · subst h; simp [List.getD_eq_getElem?_getD, hn]
  · have h' : ¬ (n : Int) = (i : Int) := by omega
    simp [List.getD_eq_getElem?_getD, List.getElem?_set_ne h, h']

set_option maxHeartbeats 4000000 in
set_option maxRecDepth 100000 in
theorem rcalls_any : ∀ (k : Nat) (t : Tm) (va vc : Value) (g : Nat) (S : List Bool) (w : World), RT w k t va vc → nT t ≤ 1000000 → BBlk w g S → (∀ y ∈ nodS t, y.op = 9 → 0 ≤ y.n ∧ y.n < S.length) → S.length ≤ 1000 →
    Calls Tryz.prog 41 #[tV t va vc, .slice (some ⟨g, 0, none⟩) S.length S.length] w fun e w' => e = .returned (.tuple #[]) ∧ (∃ S', BBlk w' g S' ∧ Marked S S' (callsT t)) ∧ Only (fun j => j = g) w w' := by
  intro k
  induction k with
  | zero => intro t va vc g S w ht; exact ht.elim
  | succ k ih =>
    intro t va vc g S w ht hn hS hr hl
    have HT := Lib.hid ht; have HIH := Lib.hid ih; have HN := Lib.hid hn; have HBS := Lib.hid hS; have HRG := Lib.hid hr
    obtain ⟨_, ⟨Aa, ca, rfl, -, -⟩, ⟨Bb, cb, rfl, -, -⟩⟩ := ht.form
    clear ht ih hn hS hr
    have HK := Lib.hid (nT_kids t)
    have HCK := Lib.hid (callsT_kids t)
    have HCH : Hid (∀ x ∈ chT t, ∀ y ∈ nodS x, y.op = 9 → 0 ≤ y.n ∧ y.n < S.length) := fun x hx y hy => HRG.out y (by rw [nodS_kids]; exact List.mem_cons_of_mem _ (List.mem_flatMap.2 ⟨x, hx, hy⟩))
    have HTN : Hid (t.op = 9 → 0 ≤ t.n ∧ t.n < S.length) := HRG.out t (by rw [nodS_kids]; exact List.mem_cons_self ..)
    have HE := Lib.hid (Ext.al w (.cells #[.int .i64 t.op, .int .i64 t.n, .string t.nm, .int .i64 t.ty, .slice Aa t.args.length ca, .slice Bb t.cls.length cb] 43))
    have HB := Lib.hid (heapNew w (.cells #[.int .i64 t.op, .int .i64 t.n, .string t.nm, .int .i64 t.ty, .slice Aa t.args.length ca, .slice Bb t.cls.length cb] 43))
    have HB1 := Lib.hid (HBS.out.ext HE.out)
    have HGL := Lib.hid HBS.out.lt
    obtain ⟨x0, x1, x2, x3, x4, x5⟩ := cells6 HB.out
    have start : ∃ q : Bool, (t.op == 9) = q := ⟨_, rfl⟩
    obtain ⟨q, hq⟩ := start
    cases q
    focus
      have HO : Hid (¬ t.op = 9) := by show ¬ _; simpa using hq
      go_enter Tryz.func41, Tryz.ntmps41
      go_wp2_with fail
      generalize w.alloc _ = w1 at *
      have HST : Hid (∃ S1, BBlk w1 g S1 ∧ Marked S S1 (fun i => decide (t.op = 9) && decide (t.n = i)) ∧ Only (fun j => j = g) w w1 ∧ w1.heap[w.heap.size]? = some (.cells #[.int .i64 t.op, .int .i64 t.n, .string t.nm, .int .i64 t.ty, .slice Aa t.args.length ca, .slice Bb t.cls.length cb] 43 (0, 0))) :=
        ⟨S, HB1.out, Marked.rf S (fun i => by rw [decide_eq_false HO.out]; rfl), Only.of_ext HE.out, HB.out⟩
      obtain ⟨w5, hw5⟩ : ∃ x, x = w1 := ⟨_, rfl⟩
      subst hw5
    rotate_left
    focus
      have HO : Hid (t.op = 9) := by show _ = _; simpa using hq
      have hn0 : 0 ≤ t.n := (HTN.out HO.out).1
      have hn1 : t.n < S.length := (HTN.out HO.out).2
      have hml : t.n.toNat < S.length := by omega
      have e0 := HB1.out.cell hml
      have f0 := HB1.out.frozen t.n.toNat
      have HS1 := Lib.hid (HB1.out.set t.n.toNat true)
      have HMK : Hid (Marked S (S.set t.n.toNat true) (fun i => decide (t.op = 9) && decide (t.n = i))) := by
        have h := Marked.set S hml
        have e : (fun i => decide ((t.n.toNat : Int) = i)) = (fun i => decide (t.op = 9) && decide (t.n = i)) := by
          funext i
          rw [decide_eq_true HO.out, Bool.true_and, Int.toNat_of_nonneg hn0]
        rw [e] at h
        exact h
      have hne : w.heap.size ≠ g := by have := HGL.out; omega
      have hb5 : ((w.alloc (.cells #[.int .i64 t.op, .int .i64 t.n, .string t.nm, .int .i64 t.ty, .slice Aa t.args.length ca, .slice Bb t.cls.length cb] 43)).setCell ⟨g, t.n.toNat, none⟩ (.bool true)).heap[w.heap.size]? = some (.cells #[.int .i64 t.op, .int .i64 t.n, .string t.nm, .int .i64 t.ty, .slice Aa t.args.length ca, .slice Bb t.cls.length cb] 43 (0, 0)) := (set_other _ hne).trans HB.out
      have HB5 := Lib.hid hb5
      have HON : Hid (Only (fun j => j = g) w ((w.alloc (.cells #[.int .i64 t.op, .int .i64 t.n, .string t.nm, .int .i64 t.ty, .slice Aa t.args.length ca, .slice Bb t.cls.length cb] 43)).setCell ⟨g, t.n.toNat, none⟩ (.bool true))) := (Only.of_ext HE.out).tr (Only.setCell (C := fun j => j = g) (p := ⟨g, t.n.toNat, none⟩) rfl _ _)
      obtain ⟨z0, z1, z2, z3, z4, z5⟩ := cells6 hb5
      clear hb5 hne
      go_enter Tryz.func41, Tryz.ntmps41
      generalize S[t.n.toNat] = s0 at *
      go_wp2_with fail
      clear z0 z1 z2 z3 z4 z5 e0 f0 hml
      generalize World.setCell (World.alloc w _) _ _ = w5 at *
      have HST : Hid (∃ S1, BBlk w5 g S1 ∧ Marked S S1 (fun i => decide (t.op = 9) && decide (t.n = i)) ∧ Only (fun j => j = g) w w5 ∧ w5.heap[w.heap.size]? = some (.cells #[.int .i64 t.op, .int .i64 t.n, .string t.nm, .int .i64 t.ty, .slice Aa t.args.length ca, .slice Bb t.cls.length cb] 43 (0, 0))) := ⟨_, HS1.out, HMK.out, HON.out, HB5.out⟩
      clear hn0 hn1
    rotate_left
    all_goals
      obtain ⟨S1, hs1, hm1, ho1, hb1⟩ := HST.out
      have HS5 := Lib.hid hs1; have HM5 := Lib.hid hm1; have HO5 := Lib.hid ho1
      clear hs1 hm1 ho1 hb1 HST
      (with_reducible refine (Children_any k t _ _ w5 (HT.out.turnB HBS.out HO5.out) HN.out).mono ?_)
      rintro e w6 ⟨v, rfl, hv, hb6⟩
      have HV := Lib.hid hv
      have HS6 := Lib.hid (HS5.out.ext hb6)
      have HO6 : Hid (Only (fun j => j = g) w w6) := HO5.out.tr (Only.of_ext hb6)
      obtain ⟨A, c, rfl, hc, hm⟩ := hv.form
      unfold maxLen at hm
      clear hv hb6 x0 x1 x2 x3 x4 x5 hq
      generalize hch : chT t = ch at *
      go_wp2
      go_loopw [16] (fun i wr => ∃ (j : Nat) (S' : List Bool), j ≤ ch.length ∧ i = .int .i64 j ∧ BBlk wr g S' ∧ Marked S1 S' (fun i => (ch.take j).any fun x => callsT x i) ∧ Only (fun j => j = g) w6 wr) (fun i _ => ch.length - (intOf i).toNat)
      case atStart => exact ⟨0, S1, Nat.zero_le _, rfl, HS6.out, Marked.rf _ (fun i => rfl), Only.rf _ _⟩
      case round =>
        obtain ⟨j, S', hj, rfl, hs, hmk, ho⟩ := hrel
        have HSJ := Lib.hid hs; have HMJ := Lib.hid hmk; have HOJ := Lib.hid ho
        have HLEN : Hid (S'.length = S.length) := hmk.1.trans HM5.out.1
        clear hs hmk ho
        by_cases hlt : j < ch.length
        · obtain ⟨b, o, xa, xc, rfl, hbl, y6, yt⟩ := (HV.out.turnB HS6.out HOJ.out).at_ hlt
          have HNX : Hid (nT ch[j] ≤ 1000000) := by
            show _ ≤ _
            have := nL_mem (List.getElem_mem hlt)
            have := HK.out; have := HN.out; omega
          have HRX : Hid (∀ y ∈ nodS ch[j], y.op = 9 → 0 ≤ y.n ∧ y.n < S.length) := HCH.out _ (List.getElem_mem hlt)
          have HTK : Hid (ch.take (j + 1) = ch.take j ++ [ch[j]]) := List.take_succ_eq_append_getElem hlt
          have c0 := y6.c0
          have c1 := y6.c1
          have c2 := y6.c2
          have c3 := y6.c3
          have c4 := y6.c4
          have c5 := y6.c5
          have HKX := Lib.hid yt
          obtain ⟨-, ⟨Ax, cx, rfl, -, -⟩, ⟨Bx, dx, rfl, -, -⟩⟩ := yt.form
          generalize ch[j] = x at *
          clear y6 yt
          have HE8 := Lib.hid (Ext.al wr (.cells #[.int .i64 x.op, .int .i64 x.n, .string x.nm, .int .i64 x.ty, .slice Ax x.args.length cx, .slice Bx x.cls.length dx] 43))
          go_wp2_with fail
          have hcall := HIH.out x _ _ g S' _ (HKX.out.below HE8.out) HNX.out (HSJ.out.ext HE8.out) (by rw [HLEN.out]; exact HRX.out) (by rw [HLEN.out]; exact hl)
          rw [HLEN.out] at hcall
          (with_reducible refine hcall.mono ?_)
          clear hcall
          rintro e w9 ⟨rfl, ⟨S2, hs2, hm2⟩, ho2⟩
          have HS9 := Lib.hid hs2
          have HO9 : Hid (Only (fun j => j = g) w6 w9) := HOJ.out.tr ((Only.of_ext HE8.out).tr ho2)
          have HM9 : Hid (Marked S1 S2 (fun i => (ch.take (j + 1)).any fun x => callsT x i)) := HMJ.out.tr hm2 (fun i => by rw [HTK.out, List.any_append]; simp)
          clear hs2 hm2 ho2 c0 c1 c2 c3 c4 c5
          go_wp2
          exact ⟨⟨j + 1, S2, by omega, by go_num, HS9.out, HM9.out, HO9.out⟩, by simp [intOf]; omega⟩
        · have HMF : Hid (Marked S S' (callsT t)) := HM5.out.tr HMJ.out (fun i => by rw [HCK.out, List.take_of_length_le (by omega : ch.length ≤ j)])
          go_wp2
          refine bodyPost_end (results_none rfl _ _ _) rfl ?_
          exact ⟨rfl, ⟨S', HSJ.out, HMF.out⟩, HO6.out.tr HOJ.out⟩
end Go.Proofs.YtfohcdpfgbeclaaGreat

/- The callees of a body, as a sorted list. -/
namespace Go.Proofs.YtfohcdpfgbeclaaGreat

theorem sortedI_same : ∀ (l m : List Int), SortedI l → SortedI m → (∀ k, k ∈ l ↔ k ∈ m) → l = m
  | [], [], _, _, _ => rfl
  | [], b :: m, _, _, h => absurd ((h b).2 (by simp)) (by simp)
  | a :: l, [], _, _, h => absurd ((h a).1 (by simp)) (by simp)
  | a :: l, b :: m, hl, hm, h => by
    have hl' := List.pairwise_cons.1 hl
    have hm' := List.pairwise_cons.1 hm
    have hab : a = b := by
      rcases List.mem_cons.1 ((h a).1 (by simp)) with e | h1
      · exact e
      · rcases List.mem_cons.1 ((h b).2 (by simp)) with e | h2
        · exact e.symm
        · have := hl'.1 b h2; have := hm'.1 a h1; omega
    subst hab
    refine congrArg _ (sortedI_same l m hl'.2 hm'.2 (fun k => ⟨fun hk => ?_, fun hk => ?_⟩))
    · rcases List.mem_cons.1 ((h k).1 (List.mem_cons_of_mem _ hk)) with e | h1
      · subst e; have := hl'.1 _ hk; omega
      · exact h1
    · rcases List.mem_cons.1 ((h k).2 (List.mem_cons_of_mem _ hk)) with e | h1
      · subst e; have := hm'.1 _ hk; omega
      · exact h1
/-- The numbers i below n with f i, in order. -/
def upI (f : Int → Bool) : Nat → List Int
  | 0 => []
  | n + 1 => if f n then upI f n ++ [(n : Int)] else upI f n
theorem upI_mem (f : Int → Bool) : ∀ (n : Nat) (k : Int), k ∈ upI f n ↔ 0 ≤ k ∧ k < n ∧ f k = true
  | 0, k => by simp [upI]; omega
  | n + 1, k => by
    have ih := upI_mem f n k
    rw [upI]
    by_cases hk : k = n
    · subst hk
      cases h : f (n : Int)
      · rw [if_neg (by simp), ih]
        constructor
        · rintro ⟨_, h1, _⟩; omega
        · rintro ⟨_, _, h1⟩; cases h1
      · rw [if_pos rfl, List.mem_append, ih]
        constructor
        · intro _; exact ⟨by omega, by omega, rfl⟩
        · intro _; exact .inr (by simp)
    · have hm : k ∈ (if f (n : Int) = true then upI f n ++ [(n : Int)] else upI f n) ↔ k ∈ upI f n := by
        split
        · rw [List.mem_append]
          constructor
          · rintro (h | h)
            · exact h
            · exact absurd (List.mem_singleton.1 h) hk
          · exact .inl
        · exact Iff.rfl
      rw [hm, ih]
      constructor
      · rintro ⟨h1, h2, h3⟩; exact ⟨h1, by omega, h3⟩
      · rintro ⟨h1, h2, h3⟩; exact ⟨h1, by omega, h3⟩
theorem upI_sorted (f : Int → Bool) : ∀ n : Nat, SortedI (upI f n)
  | 0 => List.Pairwise.nil
  | n + 1 => by
    rw [upI]
    split
    · refine List.pairwise_append.2 ⟨upI_sorted f n, List.pairwise_singleton .., fun a ha b hb => ?_⟩
      have h := ((upI_mem f n a).1 ha).2.1
      rw [List.mem_singleton.1 hb]; exact h
    · exact upI_sorted f n
theorem upI_len (f : Int → Bool) : ∀ n : Nat, (upI f n).length ≤ n
  | 0 => Nat.le_refl _
  | n + 1 => by
    have := upI_len f n
    rw [upI]
    split
    · rw [List.length_append, List.length_singleton]; omega
    · omega
/-- A list of callees that is sorted is the list of the numbers that are called. -/
theorem callees_are {t : Tm} {n : Nat} {l : List Int} (hr : ∀ y ∈ nodS t, y.op = 9 → 0 ≤ y.n ∧ y.n < n) (hs : SortedI l) (hm : ∀ k, k ∈ l ↔ callsT t k = true) : l = upI (callsT t) n := by
  refine sortedI_same _ _ hs (upI_sorted _ _) (fun k => ?_)
  rw [hm, upI_mem]
  constructor
  · intro h
    have h' := h
    rw [callsT_nodS, List.any_eq_true] at h'
    obtain ⟨y, hy, hc⟩ := h'
    rw [Bool.and_eq_true, decide_eq_true_eq, decide_eq_true_eq] at hc
    have := hr y hy hc.1
    rw [hc.2] at this
    exact ⟨this.1, this.2, h⟩
  · exact fun h => h.2.2
/-- In a valid term each call names a function that is there. -/
theorem valid_calls {P : Pg} : ∀ (n : Nat) (t : Tm) (V L : Scp), uT t ≤ n → validT P V L t = true → ∀ y ∈ nodS t, y.op = 9 → 0 ≤ y.n ∧ y.n < P.funs.length := by
  intro n
  induction n with
  | zero => intro t V L hu; rw [uT_kids] at hu; omega
  | succ n ih =>
    intro t V L hu h y hy h9
    rw [validT_kids] at h
    simp only [Bool.and_eq_true, List.all_eq_true] at h
    obtain ⟨⟨hf, _⟩, hk⟩ := h
    rw [nodS_kids] at hy
    rcases List.mem_cons.1 hy with rfl | hy
    · have e : fitsT P y = (isIdxB y.n P.funs.length && hasF y true false false (P.funs.getD y.n.toNat noFn).ps.length 0) := by
        unfold fitsT
        rw [h9]
        simp (decide := true) only [if_true, if_false]
      rw [e, Bool.and_eq_true] at hf
      have h1 := hf.1
      unfold isIdxB at h1
      simp only [Bool.and_eq_true, decide_eq_true_eq] at h1
      omega
    · obtain ⟨x, hx, hy⟩ := List.mem_flatMap.1 hy
      have hu' := uT_ch hx
      rw [← kids_chT] at hx
      obtain ⟨z, hz, rfl⟩ := List.mem_map.1 hx
      have hv := hk z hz
      unfold validK at hv
      rw [Bool.and_eq_true] at hv
      exact ih z.2 _ _ (by omega) hv.2 y hy h9
end Go.Proofs.YtfohcdpfgbeclaaGreat

/- law.go: TermOwn: rows that are written to. -/
namespace Go.Proofs.YtfohcdpfgbeclaaGreat
open Go.RowKit

/-- A row of single cells that may be written to, in a block from B on. -/
def WRow (W : World) (B : Nat) (v : Value) (n : Nat) : Prop :=
  ∃ A c, v = .slice A n c ∧ n ≤ c ∧ c ≤ maxLen ∧ (n = 0 ∨ ∃ g cur e, A = some ⟨g, 0, none⟩ ∧ B ≤ g ∧ W.heap[g]? = some (.cells cur e (0, 0)) ∧ n ≤ cur.size)
theorem WRow.of_own {W : World} {B e n : Nat} {v : Value} {xs : List Value} (h : W.ownsRow B e 1 v n xs) : WRow W B v n := by
  rcases h.2 with ⟨rfl, rfl⟩ | ⟨g, cap, cur, rfl, e2, e3, e4, e5, e6, -⟩
  · exact ⟨none, 0, rfl, Nat.le_refl _, Nat.zero_le _, .inl rfl⟩
  · exact ⟨_, cap, rfl, e4, e5, .inr ⟨g, cur, e, rfl, e2, e3, by omega⟩⟩
theorem WRow.ext {W W' : World} {B n : Nat} {v : Value} (h : WRow W B v n) (hb : Ext W W') : WRow W' B v n := by
  obtain ⟨A, c, rfl, h1, h2, h3⟩ := h
  refine ⟨A, c, rfl, h1, h2, ?_⟩
  rcases h3 with h3 | ⟨g, cur, e, rfl, h4, h5, h6⟩
  · exact .inl h3
  · exact .inr ⟨g, cur, e, rfl, h4, (hb.block _ (heap_lt h5)).trans h5, h6⟩
theorem WRow.base {W : World} {B B' n : Nat} {v : Value} (h : WRow W B v n) (hb : B' ≤ B) : WRow W B' v n := by
  obtain ⟨A, c, rfl, h1, h2, h3⟩ := h
  refine ⟨A, c, rfl, h1, h2, ?_⟩
  rcases h3 with h3 | ⟨g, cur, e, rfl, h4, h5, h6⟩
  · exact .inl h3
  · exact .inr ⟨g, cur, e, rfl, Nat.le_trans hb h4, h5, h6⟩
theorem WRow.set {W : World} {B n : Nat} {v : Value} (h : WRow W B v n) (q i : Nat) (u : Value) : WRow (W.setCell ⟨q, i, none⟩ u) B v n := by
  obtain ⟨A, c, rfl, h1, h2, h3⟩ := h
  refine ⟨A, c, rfl, h1, h2, ?_⟩
  rcases h3 with h3 | ⟨g, cur, e, rfl, h4, h5, h6⟩
  · exact .inl h3
  · refine .inr ?_
    by_cases hq : q = g
    · subst hq
      exact ⟨q, cur.setIfInBounds i u, e, rfl, h4, by simp [World.setCell, Array.getElem?_modify, h5], by simpa using h6⟩
    · exact ⟨g, cur, e, rfl, h4, (Below.heap_setCell _ _ _ _ (by show g ≠ q; omega)).trans h5, h6⟩
theorem WRow.at_ {W : World} {B n c : Nat} {A : Option Addr} (h : WRow W B (.slice A n c) n) {i : Nat} (hi : i < n) : ∃ g u, A = some ⟨g, 0, none⟩ ∧ B ≤ g ∧ W.cell? ⟨g, i, none⟩ = some u ∧ W.frozen? ⟨g, i, none⟩ = false := by
  obtain ⟨A', c', he, h1, h2, h3⟩ := h
  cases he
  rcases h3 with h3 | ⟨g, cur, e, rfl, h4, h5, h6⟩
  · omega
  · have hl : i < cur.size := by omega
    exact ⟨g, cur[i], rfl, h4, cellAt h5 i (Array.getElem?_eq_getElem hl), frozenAt h5 i⟩
theorem WRow.form {W : World} {B n : Nat} {v : Value} (h : WRow W B v n) : ∃ A c, v = .slice A n c ∧ n ≤ c ∧ c ≤ maxLen := by
  obtain ⟨A, c, h1, h2, h3, _⟩ := h
  exact ⟨A, c, h1, h2, h3⟩

/-- A row of such rows, in a block of its own. -/
structure CRows (W : World) (B g n : Nat) (vs : List Value) : Prop where
  lo : B ≤ g
  blk : VBlk W g vs
  len : vs.length = n
  rows : ∀ (i : Nat) (u : Value), vs[i]? = some u → ∃ m, WRow W (g + 1) u m
theorem CRows.ext {W W' : World} {B g n : Nat} {vs : List Value} (h : CRows W B g n vs) (hb : Ext W W') : CRows W' B g n vs :=
  ⟨h.lo, h.blk.ext hb, h.len, fun i u hu => (h.rows i u hu).elim fun m hm => ⟨m, hm.ext hb⟩⟩
theorem CRows.set {W : World} {B g n : Nat} {vs : List Value} (h : CRows W B g n vs) {q : Nat} (hq : g + 1 ≤ q) (i : Nat) (x : Value) : CRows (W.setCell ⟨q, i, none⟩ x) B g n vs :=
  ⟨h.lo, (Below.heap_setCell _ _ _ _ (by show g ≠ q; omega)).trans h.blk, h.len, fun j u hu => (h.rows j u hu).elim fun m hm => ⟨m, hm.set q i x⟩⟩
theorem CRows.of_calls {W : World} {P : Pg} {B g : Nat} {vs : List Value} (hlo : B ≤ g) (hb : VBlk W g vs) (hl : vs.length = P.funs.length) (hr : Rows2 W (g + 1) vs P.funs P.funs.length) : CRows W B g P.funs.length vs :=
  ⟨hlo, hb, hl, fun i u hu => by
    have hi : i < P.funs.length := by have := (List.getElem?_eq_some_iff.1 hu).1; omega
    obtain ⟨v, r, h1, h2⟩ := hr i _ hi (List.getElem?_eq_getElem hi)
    rw [hu] at h1; cases h1
    exact ⟨_, WRow.of_own h2.own⟩⟩
/-- A row of integers that are not negative. -/
def NRow (W : World) (v : Value) (m : Nat) : Prop := ∃ A c, v = .slice A m c ∧ m ≤ c ∧ c ≤ maxLen ∧ ∀ i, i < m → ∃ g x, A = some ⟨g, 0, none⟩ ∧ W.cell? ⟨g, i, none⟩ = some (.int .i64 x) ∧ 0 ≤ x
theorem NRow.of_own {W : World} {B : Nat} {v : Value} {l : List Int} (h : W.ownsRow B 3 1 v l.length (l.map (Value.int .i64))) (hn : ∀ x ∈ l, 0 ≤ x) : NRow W v l.length := by
  have hc := fun g (hg : v.ownBlock = some g) => World.ownsRow.cells h hg
  rcases h.2 with ⟨rfl, h0⟩ | ⟨g, cap, cur, rfl, hB, hg, hn', hm, -, -⟩
  · rw [h0]
    exact ⟨none, 0, rfl, Nat.le_refl _, Nat.zero_le _, fun i hi => by omega⟩
  · refine ⟨_, _, rfl, hn', hm, fun i hi => ⟨g, l[i], rfl, ?_, hn _ (List.getElem_mem hi)⟩⟩
    have := hc g rfl i (.int .i64 l[i]) (by rw [List.getElem?_map, List.getElem?_eq_getElem hi]; rfl)
    have hadd : (⟨g, 0, none⟩ : Addr).add i = ⟨g, i, none⟩ := by unfold Addr.add; split <;> simp_all
    rwa [hadd] at this
theorem NRow.at_ {W : World} {m c : Nat} {A : Option Addr} (h : NRow W (.slice A m c) m) {i : Nat} (hi : i < m) : ∃ g x, A = some ⟨g, 0, none⟩ ∧ W.cell? ⟨g, i, none⟩ = some (.int .i64 x) ∧ 0 ≤ x := by
  obtain ⟨A', c', he, _, _, h3⟩ := h
  cases he
  exact h3 i hi
theorem calls_pos {P : Pg} (h : progB P = true) {W : World} {B : Nat} {vs : List Value} (hr : Rows2 W B vs P.funs P.funs.length) {i : Nat} {u : Value} (hi : i < P.funs.length) (hu : vs[i]? = some u) : ∃ m, NRow W u m := by
  obtain ⟨v, r, h1, h2⟩ := hr i _ hi (List.getElem?_eq_getElem hi)
  rw [hu] at h1; cases h1
  refine ⟨_, NRow.of_own h2.own fun x hx => ?_⟩
  have hx2 := (h2.mem x).1 hx
  rw [callsT_nodS, List.any_eq_true] at hx2
  obtain ⟨y, hy, hy2⟩ := hx2
  rw [Bool.and_eq_true, decide_eq_true_eq, decide_eq_true_eq] at hy2
  unfold progB at h
  rw [Bool.and_eq_true] at h
  have h3 := List.all_eq_true.1 h.2 _ (List.getElem_mem hi)
  unfold funB at h3
  simp only [Bool.and_eq_true] at h3
  have := (valid_calls _ (P.funs[i]).body _ _ (Nat.le_refl _) h3.2.2 y hy hy2.1).1
  omega
/-- What Calls returns, whichever way. -/
theorem CallsX_any (P : Pg) (vd vf : Value) (w : World) (hd : RDecls w vd P.decls) (hf : RFns w vf P.funs) (hfine : FinePg P) :
    Calls Tryz.prog 12 #[pV vd vf] w fun e w' => ∃ (A : Option Addr) (n : Nat) (e2 : Int), e = .returned (.tuple #[.slice A n n, .int .i64 e2]) ∧ n ≤ 12 ∧ Ext w w' ∧ (n = 0 ∨ ∃ g vs, A = some ⟨g, 0, none⟩ ∧ CRows w' w.heap.size g n vs ∧ ∀ (i : Nat) (u : Value), vs[i]? = some u → ∃ m, NRow w' u m) := by
  refine (Calls_any P vd vf w hd hf hfine).mono ?_
  rintro e w' ⟨⟨hp, rfl⟩ | ⟨hp, g, vs, rfl, hg, hvb, hvl, hrs⟩, hb⟩
  · exact ⟨none, 0, 20, rfl, by omega, hb, .inl rfl⟩
  · exact ⟨_, _, 0, rfl, (progB_small hp).2, hb, .inr ⟨g, vs, rfl, CRows.of_calls hg hvb hvl hrs, fun i u hu => calls_pos hp hrs (by have := (List.getElem?_eq_some_iff.1 hu).1; omega) hu⟩⟩
end Go.Proofs.YtfohcdpfgbeclaaGreat
