/- ref.go: what the search has found so far, with the lists in memory. -/
import Derived.Test.YtfohcdpfgbeclaaGreatQ11
import Derived.Carry
import Derived.MapKept
import Derived.Laws.StructEq
namespace Go.Proofs.YtfohcdpfgbeclaaGreat
open Go.RowKit

/-- What the search answers. -/
structure FRes (lv ll la lb : List Str) (t : Tm) (w : World) (r1 r2 : Value) (l1 l2 : List Str) : Prop where
  s1 : RStrs w r1 l1
  s2 : RStrs w r2 l2
  o1 : SortedS l1
  o2 : SortedS l2
  m1 : ∀ k, k ∈ l1 ↔ k ∈ la ∨ (hasS lv k = false ∧ fvT t k = true)
  m2 : ∀ k, k ∈ l2 ↔ k ∈ lb ∨ (hasS ll k = false ∧ flT t k = true)
  n1 : l1.length ≤ la.length + uT t
  n2 : l2.length ≤ lb.length + uT t

/-- What has been found in the parts seen. -/
structure FInv (lv ll la lb : List Str) (pre : List (Bnd × Tm)) (w : World) (r1 r2 : Value) (l1 l2 : List Str) : Prop where
  s1 : RStrs w r1 l1
  s2 : RStrs w r2 l2
  o1 : SortedS l1
  o2 : SortedS l2
  m1 : AccV la lv pre l1
  m2 : AccL lb ll pre l2
  n1 : l1.length ≤ la.length + uK pre
  n2 : l2.length ≤ lb.length + uK pre
theorem FInv.step {lv ll la lb : List Str} {pre : List (Bnd × Tm)} {w w' : World} {r1 r2 q1 q2 : Value} {l1 l2 m1 m2 : List Str} {y : Bnd × Tm} (h : FInv lv ll la lb pre w r1 r2 l1 l2)
    (g : FRes (lv ++ vnames y.1) (ll ++ lnames y.1) l1 l2 y.2 w' q1 q2 m1 m2) : FInv lv ll la lb (pre ++ [y]) w' q1 q2 m1 m2 :=
  ⟨g.s1, g.s2, g.o1, g.o2, h.m1.step g.m1, h.m2.step g.m2, by have := h.n1; have := g.n1; rw [uK_append]; simp [uK]; omega, by have := h.n2; have := g.n2; rw [uK_append]; simp [uK]; omega⟩
theorem FInv.below {lv ll la lb : List Str} {pre : List (Bnd × Tm)} {w w' : World} {r1 r2 : Value} {l1 l2 : List Str} (h : FInv lv ll la lb pre w r1 r2 l1 l2) (hb : Ext w w') : FInv lv ll la lb pre w' r1 r2 l1 l2 :=
  ⟨h.s1.below hb, h.s2.below hb, h.o1, h.o2, h.m1, h.m2, h.n1, h.n2⟩
theorem FInv.whole {lv ll la lb la1 lb1 : List Str} {t : Tm} {w : World} {r1 r2 : Value} {l1 l2 : List Str} (h : FInv lv ll la1 lb1 (kids t) w r1 r2 l1 l2)
    (ha : ∀ k, k ∈ la1 ↔ k ∈ la ∨ (t.op = 0 ∧ hasS lv k = false ∧ k = t.nm)) (hb : ∀ k, k ∈ lb1 ↔ k ∈ lb ∨ (t.op = 12 ∧ hasS ll k = false ∧ k = t.nm))
    (na : la1.length ≤ la.length + 1) (nb : lb1.length ≤ lb.length + 1) : FRes lv ll la lb t w r1 r2 l1 l2 :=
  ⟨h.s1, h.s2, h.o1, h.o2, AccV.whole ha h.m1, AccL.whole hb h.m2, by have := h.n1; have := uT_kids t; omega, by have := h.n2; have := uT_kids t; omega⟩

/-- The parts before the argument j, and with it. -/
def preA (t : Tm) (j : Nat) : List (Bnd × Tm) := (kidsFrom t.op t.nm 0 t.args).take j
def preC (t : Tm) (j : Nat) : List (Bnd × Tm) := kidsFrom t.op t.nm 0 t.args ++ (t.cls.map fun c => ((c.1, false), c.2)).take j
theorem preA_zero (t : Tm) : preA t 0 = [] := rfl
theorem preA_succ {t : Tm} {j : Nat} (hj : j < t.args.length) : preA t (j + 1) = preA t j ++ [(bndAt t.op t.nm j, t.args[j])] := by
  unfold preA
  have h := kidsFrom_get t.op t.nm t.args 0 j _ (List.getElem?_eq_getElem hj)
  rw [Nat.zero_add] at h
  rw [List.take_add_one, h]; rfl
theorem preA_end (t : Tm) : preA t t.args.length = preC t 0 := by
  unfold preA preC
  rw [List.take_of_length_le (by rw [kidsFrom_length]; exact Nat.le_refl _)]; simp
theorem preC_succ {t : Tm} {j : Nat} (hj : j < t.cls.length) : preC t (j + 1) = preC t j ++ [((t.cls[j].1, false), t.cls[j].2)] := by
  unfold preC
  rw [List.take_add_one, List.getElem?_map, List.getElem?_eq_getElem hj, List.append_assoc]; rfl
theorem preC_end (t : Tm) : preC t t.cls.length = kids t := by
  unfold preC kids
  rw [List.take_of_length_le (by simp)]
theorem preC_pre (t : Tm) (j : Nat) : preC t j <+: kids t := by
  unfold preC kids
  exact List.prefix_append_right_inj _ |>.2 (List.take_prefix _ _)
theorem preA_pre (t : Tm) (j : Nat) : preA t j <+: kids t := by
  unfold preA kids
  exact (List.take_prefix _ _).trans (List.prefix_append _ _)
theorem uA_at {t : Tm} {j : Nat} (hj : j < t.args.length) : 1 + uK (preA t j) + (2 * (bndAt t.op t.nm j).1.length + uT t.args[j]) ≤ uT t := by
  have h := uK_pre (pre := preA t j) (y := (bndAt t.op t.nm j, t.args[j])) (l := kids t) (by rw [← preA_succ hj]; exact preA_pre _ _)
  rw [uT_kids t]
  dsimp only at h
  omega
theorem uC_at {t : Tm} {j : Nat} (hj : j < t.cls.length) : 1 + uK (preC t j) + (2 * t.cls[j].1.length + uT t.cls[j].2) ≤ uT t := by
  have h := uK_pre (pre := preC t j) (y := ((t.cls[j].1, false), t.cls[j].2)) (l := kids t) (by rw [← preC_succ hj]; exact preC_pre _ _)
  rw [uT_kids t]
  dsimp only at h
  omega
theorem vn_len (b : Bnd) : (vnames b).length ≤ b.1.length := by unfold vnames; split <;> simp
theorem ln_len (b : Bnd) : (lnames b).length ≤ b.1.length := by unfold lnames; split <;> simp
theorem vn_8 {op : Int} {nm : Str} {i : Nat} (h : op = 8) (hi : i = 1) : vnames (bndAt op nm i) = [nm] ∧ lnames (bndAt op nm i) = [] := by rw [bnd_8 h hi]; exact ⟨rfl, rfl⟩
theorem vn_11 {op : Int} {nm : Str} {i : Nat} (h : op = 11) (hi : i = 0) : vnames (bndAt op nm i) = [] ∧ lnames (bndAt op nm i) = [nm] := by rw [bnd_11 h hi]; exact ⟨rfl, rfl⟩
theorem vn_no {op : Int} {nm : Str} {i : Nat} (h1 : ¬ (op = 8 ∧ i = 1)) (h2 : ¬ (op = 11 ∧ i = 0)) : vnames (bndAt op nm i) = [] ∧ lnames (bndAt op nm i) = [] := by rw [bnd_no h1 h2]; exact ⟨rfl, rfl⟩
/-- Where the search's loops begin. -/
structure FStart (lv ll la lb : List Str) (t : Tm) (w1 w5 : World) (r1 r2 : Value) (la1 lb1 : List Str) : Prop where
  inv : FInv lv ll la1 lb1 [] w5 r1 r2 la1 lb1
  ext : Ext w1 w5
  ma : ∀ k, k ∈ la1 ↔ k ∈ la ∨ (t.op = 0 ∧ hasS lv k = false ∧ k = t.nm)
  mb : ∀ k, k ∈ lb1 ↔ k ∈ lb ∨ (t.op = 12 ∧ hasS ll k = false ∧ k = t.nm)
  na : la1.length ≤ la.length + 1
  nb : lb1.length ≤ lb.length + 1
theorem FStart.none {lv ll la lb : List Str} {t : Tm} {w : World} {r1 r2 : Value} (h1 : RStrs w r1 la) (h2 : RStrs w r2 lb) (o1 : SortedS la) (o2 : SortedS lb) (hv : t.op = 0 → hasS lv t.nm = true) (hl : t.op = 12 → hasS ll t.nm = true) : FStart lv ll la lb t w w r1 r2 la lb :=
  ⟨⟨h1, h2, o1, o2, AccV.zero _ _, AccL.zero _ _, Nat.le_add_right _ _, Nat.le_add_right _ _⟩, Ext.rf _, fun k => ⟨.inl, fun h => h.elim id (fun ⟨h, h', e⟩ => by rw [e, hv h] at h'; cases h')⟩, fun k => ⟨.inl, fun h => h.elim id (fun ⟨h, h', e⟩ => by rw [e, hl h] at h'; cases h')⟩, Nat.le_succ _, Nat.le_succ _⟩
theorem FStart.var {lv ll la lb la1 : List Str} {t : Tm} {w w' : World} {r1 r2 : Value} (hx : Ext w w') (h1 : RStrs w' r1 la1) (h2 : RStrs w r2 lb) (o1 : SortedS la1) (o2 : SortedS lb) (hm : ∀ k, k ∈ la1 ↔ k ∈ la ∨ k = t.nm) (hn : la1.length ≤ la.length + 1)
    (h0 : t.op = 0) (hq : hasS lv t.nm = false) : FStart lv ll la lb t w w' r1 r2 la1 lb :=
  ⟨⟨h1, h2.below hx, o1, o2, AccV.zero _ _, AccL.zero _ _, Nat.le_add_right _ _, Nat.le_add_right _ _⟩, hx, fun k => by
    rw [hm k]
    constructor
    · rintro (h | rfl)
      · exact .inl h
      · exact .inr ⟨h0, hq, rfl⟩
    · rintro (h | ⟨-, -, h⟩)
      · exact .inl h
      · exact .inr h, fun k => ⟨.inl, fun h => h.elim id (fun ⟨h, _⟩ => by rw [h0] at h; cases h)⟩, hn, Nat.le_succ _⟩
theorem FStart.lab {lv ll la lb lb1 : List Str} {t : Tm} {w w' : World} {r1 r2 : Value} (hx : Ext w w') (h1 : RStrs w r1 la) (h2 : RStrs w' r2 lb1) (o1 : SortedS la) (o2 : SortedS lb1) (hm : ∀ k, k ∈ lb1 ↔ k ∈ lb ∨ k = t.nm) (hn : lb1.length ≤ lb.length + 1)
    (h0 : t.op = 12) (hq : hasS ll t.nm = false) : FStart lv ll la lb t w w' r1 r2 la lb1 :=
  ⟨⟨h1.below hx, h2, o1, o2, AccV.zero _ _, AccL.zero _ _, Nat.le_add_right _ _, Nat.le_add_right _ _⟩, hx, fun k => ⟨.inl, fun h => h.elim id (fun ⟨h, _⟩ => by rw [h0] at h; cases h)⟩, fun k => by
    rw [hm k]
    constructor
    · rintro (h | rfl)
      · exact .inl h
      · exact .inr ⟨h0, hq, rfl⟩
    · rintro (h | ⟨-, -, h⟩)
      · exact .inl h
      · exact .inr h, Nat.le_succ _, hn⟩
end Go.Proofs.YtfohcdpfgbeclaaGreat

/- ref.go: free. -/
namespace Go.Proofs.YtfohcdpfgbeclaaGreat
open Go.RowKit

set_option maxHeartbeats 4000000 in
set_option maxRecDepth 100000 in
theorem rfree_any : ∀ (k : Nat) (t : Tm) (va vc v1 v2 v3 v4 : Value) (lv ll la lb : List Str) (w : World), RT w k t va vc → RStrs w v1 lv → RStrs w v2 ll → RStrs w v3 la → RStrs w v4 lb → SortedS la → SortedS lb →
    lv.length + uT t ≤ 50000000 → ll.length + uT t ≤ 50000000 → la.length + uT t ≤ 50000000 → lb.length + uT t ≤ 50000000 →
    Calls Tryz.prog 51 #[tV t va vc, v1, v2, v3, v4] w fun e w' => ∃ r1 r2 l1 l2, e = .returned (.tuple #[r1, r2]) ∧ FRes lv ll la lb t w' r1 r2 l1 l2 ∧ Ext w w' := by
  intro k
  induction k with
  | zero => intro t va vc v1 v2 v3 v4 lv ll la lb w ht; exact ht.elim
  | succ k ih =>
    intro t va vc v1 v2 v3 v4 lv ll la lb w ht h1 h2 h3 h4 ha hb n1 n2 n3 n4
    have HT := Lib.hid ht; have HIH := Lib.hid ih; have H1 := Lib.hid h1; have H2 := Lib.hid h2; have H3 := Lib.hid h3; have H4 := Lib.hid h4; have HSA := Lib.hid ha; have HSB := Lib.hid hb
    have N1 := Lib.hid n1; have N2 := Lib.hid n2; have N3 := Lib.hid n3; have N4 := Lib.hid n4
    obtain ⟨⟨hnm, -⟩, ⟨Aa, ca, rfl, hca, hma⟩, ⟨Bb, cb, rfl, hcb, hmb⟩⟩ := ht.form
    have HNM := Lib.hid hnm
    clear ht ih h1 h2 h3 h4 ha hb n1 n2 n3 n4 hnm
    unfold maxLen at hma hmb
    have HE := Lib.hid (Ext.al w (.cells #[.int .i64 t.op, .int .i64 t.n, .string t.nm, .int .i64 t.ty, .slice Aa t.args.length ca, .slice Bb t.cls.length cb] 43))
    have HB := Lib.hid (heapNew w (.cells #[.int .i64 t.op, .int .i64 t.n, .string t.nm, .int .i64 t.ty, .slice Aa t.args.length ca, .slice Bb t.cls.length cb] 43))
    have HW1 : Hid (RT (w.alloc (.cells #[.int .i64 t.op, .int .i64 t.n, .string t.nm, .int .i64 t.ty, .slice Aa t.args.length ca, .slice Bb t.cls.length cb] 43)) (k + 1) t (.slice Aa t.args.length ca) (.slice Bb t.cls.length cb)) := HT.out.below HE.out
    have N0 : Hid (1 ≤ uT t) := by show 1 ≤ uT t; rw [uT_kids]; omega
    rcases (by by_cases e0 : t.op = 0 <;> by_cases e1 : t.op = 12 <;> simp [e0, e1] <;> omega : ((t.op == 0) = true ∧ (t.op == 12) = false) ∨ ((t.op == 0) = false ∧ (t.op == 12) = true) ∨ ((t.op == 0) = false ∧ (t.op == 12) = false)) with ⟨h0, h12⟩ | ⟨h0, h12⟩ | ⟨h0, h12⟩
    focus
      have O0 : Hid (t.op = 0) := by show t.op = 0; simpa using h0
      generalize hq1 : hasS lv t.nm = q1
      have HQ1 : Hid (hasS lv t.nm = q1) := hq1
      cases q1
      focus
        go_enter Tryz.func51, Tryz.ntmps51
        go_wp2_with fail
        generalize w.alloc _ = w1 at *
        (with_reducible refine (In_any v1 lv t.nm w1 (H1.out.below HE.out)).mono ?_)
        rintro e w2 ⟨rfl, rfl⟩
        rw [hq1]
        clear hq1
        obtain ⟨x0, x1, x2, x3, x4, x5⟩ := cells6 HB.out
        go_wp2_with fail
        clear x0 x1 x2 x3 x4 x5
        (with_reducible refine (Insert_any v3 la t.nm w1 (H3.out.below HE.out) HNM.out (by have := N3.out; omega)).mono ?_)
        rintro e w5 ⟨V3, la1, rfl, hr5, hs5, hm5, hn5, hb5⟩
        have HST : Hid (∃ la1 lb1, FStart lv ll la lb t w1 w5 V3 v4 la1 lb1) := ⟨la1, lb, FStart.var hb5 hr5 (H4.out.below HE.out) (hs5 HSA.out) HSB.out hm5 hn5 O0.out HQ1.out⟩
        have b5 := (hb5.block _ (heap_lt HB.out)).trans HB.out
        obtain ⟨t0, t1, t2, t3, t4, t5⟩ := cells6 b5
        clear hr5 hs5 hm5 hn5 hb5 b5
        go_wp2_with fail
        clear t0 t1 t2 t3 t4 t5 O0 HQ1 h0 h12
      rotate_left
      focus
        go_enter Tryz.func51, Tryz.ntmps51
        go_wp2_with fail
        generalize w.alloc _ = w1 at *
        (with_reducible refine (In_any v1 lv t.nm w1 (H1.out.below HE.out)).mono ?_)
        rintro e w2 ⟨rfl, rfl⟩
        rw [hq1]
        clear hq1
        obtain ⟨x0, x1, x2, x3, x4, x5⟩ := cells6 HB.out
        go_wp2_with fail
        clear x0 x1 x2 x3 x4 x5
        have HST : Hid (∃ la1 lb1, FStart lv ll la lb t w1 w1 v3 v4 la1 lb1) := ⟨la, lb, FStart.none (H3.out.below HE.out) (H4.out.below HE.out) HSA.out HSB.out (fun h => HQ1.out) (fun h => by rw [O0.out] at h; cases h)⟩
        clear O0 HQ1 h0 h12
      rotate_left
    rotate_left 2
    focus
      have O0 : Hid (t.op = 12) := by show t.op = 12; simpa using h12
      generalize hq2 : hasS ll t.nm = q1
      have HQ1 : Hid (hasS ll t.nm = q1) := hq2
      cases q1
      focus
        go_enter Tryz.func51, Tryz.ntmps51
        go_wp2_with fail
        generalize w.alloc _ = w1 at *
        (with_reducible refine (In_any v2 ll t.nm w1 (H2.out.below HE.out)).mono ?_)
        rintro e w2 ⟨rfl, rfl⟩
        rw [hq2]
        clear hq2
        obtain ⟨x0, x1, x2, x3, x4, x5⟩ := cells6 HB.out
        go_wp2_with fail
        clear x0 x1 x2 x3 x4 x5
        (with_reducible refine (Insert_any v4 lb t.nm w1 (H4.out.below HE.out) HNM.out (by have := N4.out; omega)).mono ?_)
        rintro e w5 ⟨V4, lb1, rfl, hr5, hs5, hm5, hn5, hb5⟩
        have HST : Hid (∃ la1 lb1, FStart lv ll la lb t w1 w5 v3 V4 la1 lb1) := ⟨la, lb1, FStart.lab hb5 (H3.out.below HE.out) hr5 HSA.out (hs5 HSB.out) hm5 hn5 O0.out HQ1.out⟩
        have b5 := (hb5.block _ (heap_lt HB.out)).trans HB.out
        obtain ⟨t0, t1, t2, t3, t4, t5⟩ := cells6 b5
        clear hr5 hs5 hm5 hn5 hb5 b5
        go_wp2_with fail
        clear t0 t1 t2 t3 t4 t5 O0 HQ1 h0 h12
      rotate_left
      focus
        go_enter Tryz.func51, Tryz.ntmps51
        go_wp2_with fail
        generalize w.alloc _ = w1 at *
        (with_reducible refine (In_any v2 ll t.nm w1 (H2.out.below HE.out)).mono ?_)
        rintro e w2 ⟨rfl, rfl⟩
        rw [hq2]
        clear hq2
        obtain ⟨x0, x1, x2, x3, x4, x5⟩ := cells6 HB.out
        go_wp2_with fail
        clear x0 x1 x2 x3 x4 x5
        have HST : Hid (∃ la1 lb1, FStart lv ll la lb t w1 w1 v3 v4 la1 lb1) := ⟨la, lb, FStart.none (H3.out.below HE.out) (H4.out.below HE.out) HSA.out HSB.out (fun h => by rw [O0.out] at h; cases h) (fun h => HQ1.out)⟩
        clear O0 HQ1 h0 h12
      rotate_left
    rotate_left 2
    focus
      have O0 : Hid (¬ t.op = 0 ∧ ¬ t.op = 12) := by show ¬ t.op = 0 ∧ ¬ t.op = 12; exact ⟨by simpa using h0, by simpa using h12⟩
      focus
        go_enter Tryz.func51, Tryz.ntmps51
        go_wp2_with fail
        generalize w.alloc _ = w1 at *
        have HST : Hid (∃ la1 lb1, FStart lv ll la lb t w1 w1 v3 v4 la1 lb1) := ⟨la, lb, FStart.none (H3.out.below HE.out) (H4.out.below HE.out) HSA.out HSB.out (fun h => absurd h O0.out.1) (fun h => absurd h O0.out.2)⟩
        clear O0 h0 h12
    rotate_left
    all_goals
      obtain ⟨la1, lb1, hst⟩ := HST.out
      have HX5 := Lib.hid hst.ext
      have HI5 := Lib.hid hst.inv
      have HMA := Lib.hid hst.ma
      have HMB := Lib.hid hst.mb
      have HNA := Lib.hid hst.na
      have HNB := Lib.hid hst.nb
      clear hst HST
      go_loopw [3, 4, 49] (fun s3 s4 i wr => ∃ (j : Nat) (xa xb : List Str), j ≤ t.args.length ∧ i = .int .i64 j ∧ FInv lv ll la1 lb1 (preA t j) wr s3 s4 xa xb ∧ Ext w1 wr) (fun _ _ i _ => t.args.length - (intOf i).toNat)
      case atStart => exact ⟨0, la1, lb1, Nat.zero_le _, rfl, HI5.out, HX5.out⟩
      case round =>
        obtain ⟨j, xa, xb, hj, rfl, hinv, hb⟩ := hrel
        have HI := Lib.hid hinv
        have HX := Lib.hid hb
        have b0 := (hb.block _ (heap_lt HB.out)).trans HB.out
        have HBB := Lib.hid b0
        obtain ⟨t0, t1, t2, t3, t4, t5⟩ := cells6 b0
        clear hinv hb b0
        by_cases hlt : j < t.args.length
        · obtain ⟨b, o, ya, yc, rfl, hbl, y6, yt⟩ := HT.out.arg hlt
          have HU := Lib.hid (uA_at hlt)
          have HPS := Lib.hid (preA_succ hlt)
          have y6 := y6.below (HE.out.tr HX.out)
          have c0 := y6.c0
          have c1 := y6.c1
          have c2 := y6.c2
          have c3 := y6.c3
          have c4 := y6.c4
          have c5 := y6.c5
          obtain ⟨-, ⟨Ax, cx, rfl, -, -⟩, ⟨Bx, dx, rfl, -, -⟩⟩ := yt.form
          have HK := Lib.hid (yt.below (HE.out.tr HX.out))
          generalize t.args[j] = x at *
          clear y6 yt
          have hE6 := Ext.al wr (.cells #[.int .i64 x.op, .int .i64 x.n, .string x.nm, .int .i64 x.ty, .slice Ax x.args.length cx, .slice Bx x.cls.length dx] 43)
          have b6 := (hE6.block _ (heap_lt HBB.out)).trans HBB.out
          have HN6 := Lib.hid (heapNew wr (.cells #[.int .i64 x.op, .int .i64 x.n, .string x.nm, .int .i64 x.ty, .slice Ax x.args.length cx, .slice Bx x.cls.length dx] 43))
          have HE6 := Lib.hid hE6
          have HZ6 : Hid ((wr.alloc (.cells #[.int .i64 x.op, .int .i64 x.n, .string x.nm, .int .i64 x.ty, .slice Ax x.args.length cx, .slice Bx x.cls.length dx] 43)).heap.size = wr.heap.size + 1) := World.size_alloc _ _
          obtain ⟨z0, z1, z2, z3, z4, z5⟩ := cells6 b6
          clear hE6 b6
          rcases (by by_cases e0 : t.op = 8 <;> by_cases e1 : t.op = 11 <;> by_cases e2 : j = 0 <;> by_cases e3 : j = 1 <;> simp [e0, e1, e2, e3] <;> omega : ((t.op == 8) = true ∧ (t.op == 11) = false ∧ ((j : Int) == 1) = true) ∨ ((t.op == 8) = false ∧ (t.op == 11) = true ∧ ((j : Int) == 0) = true) ∨ ((t.op == 8) = true ∧ (t.op == 11) = false ∧ ((j : Int) == 1) = false) ∨ ((t.op == 8) = false ∧ (t.op == 11) = true ∧ ((j : Int) == 0) = false) ∨ ((t.op == 8) = false ∧ (t.op == 11) = false)) with ⟨h8, h11, hjn⟩ | ⟨h8, h11, hjn⟩ | ⟨h8, h11, hjn⟩ | ⟨h8, h11, hjn⟩ | ⟨h8, h11⟩
          all_goals go_wp2_with fail
          all_goals generalize wr.alloc _ = w6 at *
          focus
            have HJ : Hid (t.op = 8 ∧ j = 1) := by show t.op = 8 ∧ j = 1; simp at h8 hjn; exact ⟨h8, by omega⟩
            have hE7 := Ext.al w6 (.cells #[.string t.nm] 9)
            have hn7 := heapNew w6 (.cells #[.string t.nm] 9)
            rw [HZ6.out] at hn7
            generalize w6.alloc _ = w7 at *
            (with_reducible refine (With_any v1 _ lv [t.nm] w7 (H1.out.below ((HE.out.tr HX.out).tr (HE6.out.tr hE7))) (RStrs.one hn7 HNM.out) H1.out.sizes (fun s h => by rw [List.mem_singleton.1 h]; exact HNM.out) (by simp; have := N1.out; omega)).mono ?_)
            rintro e w8 ⟨V14, rfl, hr8, hb8⟩
            have HW8 : Hid (Ext wr w8) := HE6.out.tr (hE7.tr hb8)
            have HV14 : Hid (RStrs w8 V14 (lv ++ vnames (bndAt t.op t.nm j))) := by show RStrs w8 V14 _; rw [(vn_8 HJ.out.1 HJ.out.2).1]; exact hr8
            have HV15 : Hid (RStrs w8 v2 (ll ++ lnames (bndAt t.op t.nm j))) := by show RStrs w8 v2 _; rw [(vn_8 HJ.out.1 HJ.out.2).2, List.append_nil]; exact H2.out.below ((HE.out.tr HX.out).tr HW8.out)
            have b8 := (HW8.out.block _ (heap_lt HBB.out)).trans HBB.out
            have b9 := ((hE7.tr hb8).block _ (heap_lt HN6.out)).trans HN6.out
            clear hE7 hn7 hr8 hb8 z0 z1 z2 z3 z4 z5
            obtain ⟨z0, z1, z2, z3, z4, z5⟩ := cells6 b8
            obtain ⟨y0, y1, y2, y3, y4, y5⟩ := cells6 b9
            clear b8 b9
            go_wp2_with fail
          rotate_left
          focus
            have HJ : Hid (t.op = 11 ∧ j = 0) := by show t.op = 11 ∧ j = 0; simp at h11 hjn; exact ⟨h11, by omega⟩
            have hE7 := Ext.al w6 (.cells #[.string t.nm] 9)
            have hn7 := heapNew w6 (.cells #[.string t.nm] 9)
            rw [HZ6.out] at hn7
            generalize w6.alloc _ = w7 at *
            (with_reducible refine (With_any v2 _ ll [t.nm] w7 (H2.out.below ((HE.out.tr HX.out).tr (HE6.out.tr hE7))) (RStrs.one hn7 HNM.out) H2.out.sizes (fun s h => by rw [List.mem_singleton.1 h]; exact HNM.out) (by simp; have := N2.out; omega)).mono ?_)
            rintro e w8 ⟨V15, rfl, hr8, hb8⟩
            have HW8 : Hid (Ext wr w8) := HE6.out.tr (hE7.tr hb8)
            have HV14 : Hid (RStrs w8 v1 (lv ++ vnames (bndAt t.op t.nm j))) := by show RStrs w8 v1 _; rw [(vn_11 HJ.out.1 HJ.out.2).1, List.append_nil]; exact H1.out.below ((HE.out.tr HX.out).tr HW8.out)
            have HV15 : Hid (RStrs w8 V15 (ll ++ lnames (bndAt t.op t.nm j))) := by show RStrs w8 V15 _; rw [(vn_11 HJ.out.1 HJ.out.2).2]; exact hr8
            have b8 := (HW8.out.block _ (heap_lt HBB.out)).trans HBB.out
            have b9 := ((hE7.tr hb8).block _ (heap_lt HN6.out)).trans HN6.out
            clear hE7 hn7 hr8 hb8 z0 z1 z2 z3 z4 z5
            obtain ⟨z0, z1, z2, z3, z4, z5⟩ := cells6 b8
            obtain ⟨y0, y1, y2, y3, y4, y5⟩ := cells6 b9
            clear b8 b9
            go_wp2_with fail
          rotate_left
          focus
            have HJ : Hid (¬ (t.op = 8 ∧ j = 1) ∧ ¬ (t.op = 11 ∧ j = 0)) := by show ¬ (t.op = 8 ∧ j = 1) ∧ ¬ (t.op = 11 ∧ j = 0); simp at h8 h11 hjn; omega
          rotate_left
          focus
            have HJ : Hid (¬ (t.op = 8 ∧ j = 1) ∧ ¬ (t.op = 11 ∧ j = 0)) := by show ¬ (t.op = 8 ∧ j = 1) ∧ ¬ (t.op = 11 ∧ j = 0); simp at h8 h11 hjn; omega
          rotate_left
          focus
            have HJ : Hid (¬ (t.op = 8 ∧ j = 1) ∧ ¬ (t.op = 11 ∧ j = 0)) := by show ¬ (t.op = 8 ∧ j = 1) ∧ ¬ (t.op = 11 ∧ j = 0); simp at h8 h11; omega
          rotate_left
          all_goals first
            | (have HV14 : Hid (RStrs w6 v1 (lv ++ vnames (bndAt t.op t.nm j))) := by show RStrs w6 v1 _; rw [(vn_no HJ.out.1 HJ.out.2).1, List.append_nil]; exact H1.out.below ((HE.out.tr HX.out).tr HE6.out)
               have HV15 : Hid (RStrs w6 v2 (ll ++ lnames (bndAt t.op t.nm j))) := by show RStrs w6 v2 _; rw [(vn_no HJ.out.1 HJ.out.2).2, List.append_nil]; exact H2.out.below ((HE.out.tr HX.out).tr HE6.out)
               have HW8 := HE6)
            | skip
          all_goals
            (with_reducible refine (HIH.out x _ _ _ _ u3 u4 _ _ xa xb _ (HK.out.below HW8.out) HV14.out HV15.out (HI.out.s1.below HW8.out) (HI.out.s2.below HW8.out) HI.out.o1 HI.out.o2 (by have := N1.out; have := HU.out; have := vn_len (bndAt t.op t.nm j); rw [List.length_append]; omega) (by have := N2.out; have := HU.out; have := ln_len (bndAt t.op t.nm j); rw [List.length_append]; omega) (by have := N3.out; have := HU.out; have := HNA.out; have := HI.out.n1; omega) (by have := N4.out; have := HU.out; have := HNB.out; have := HI.out.n2; omega)).mono ?_)
            rintro e w9 ⟨R1, R2, m1, m2, rfl, hres, hb9⟩
            have HI9 : Hid (FInv lv ll la1 lb1 (preA t (j + 1)) w9 R1 R2 m1 m2) := by show FInv lv ll la1 lb1 (preA t (j + 1)) w9 R1 R2 m1 m2; rw [HPS.out]; exact HI.out.step hres
            have HX9 : Hid (Ext w1 w9) := HX.out.tr (HW8.out.tr hb9)
            clear hres hb9
            go_wp2
            exact ⟨⟨j + 1, m1, m2, by omega, by go_num, HI9.out, HX9.out⟩, by simp [intOf]; omega⟩
        · have HI0 : Hid (FInv lv ll la1 lb1 (preC t 0) wr u3 u4 xa xb) := by show FInv lv ll la1 lb1 (preC t 0) wr u3 u4 xa xb; rw [← preA_end, ← show j = t.args.length by omega]; exact HI.out
          clear HI
          go_wp2
          clear t0 t1 t2 t3 t4 t5
          generalize wr = wl at *
          go_loopw [3, 4, 93] (fun s3 s4 i wq => ∃ (j2 : Nat) (ya yb : List Str), j2 ≤ t.cls.length ∧ i = .int .i64 j2 ∧ FInv lv ll la1 lb1 (preC t j2) wq s3 s4 ya yb ∧ Ext wl wq) (fun _ _ i _ => t.cls.length - (intOf i).toNat)
          case atStart => exact ⟨0, xa, xb, Nat.zero_le _, rfl, HI0.out, Ext.rf _⟩
          case round =>
            obtain ⟨j2, ya, yb, hj2, rfl, hinv, hb⟩ := hrel
            have HI := Lib.hid hinv
            have HX2 := Lib.hid hb
            clear hinv hb
            by_cases hlt2 : j2 < t.cls.length
            · obtain ⟨b', o', vn', xa', xc', rfl, hbl', yn', ys', y6, yt'⟩ := HT.out.clause hlt2
              have HU := Lib.hid (uC_at hlt2)
              have HPS := Lib.hid (preC_succ hlt2)
              generalize t.cls[j2] = cl at *
              obtain ⟨ns, y⟩ := cl
              dsimp only at *
              obtain ⟨-, ⟨Ax, cx, rfl, -, -⟩, ⟨Bx, dx, rfl, -, -⟩⟩ := yt'.form
              obtain ⟨An, cn, rfl, -, -⟩ := ys'.form
              have hX := HE.out.tr (HX.out.tr HX2.out)
              have HK := Lib.hid (yt'.below hX)
              have HNS := Lib.hid (ys'.below hX)
              have y6 := y6.below hX
              have c0 := hX.keep yn'
              have c1 := y6.c0
              have c2 := y6.c1
              have c3 := y6.c2
              have c4 := y6.c3
              have c5 := y6.c4
              have c6 := y6.c5
              clear y6 yt' yn' ys' hX
              have HE8 := Lib.hid (Ext.al wr (.cells #[.slice An ns.length cn, .int .i64 y.op, .int .i64 y.n, .string y.nm, .int .i64 y.ty, .slice Ax y.args.length cx, .slice Bx y.cls.length dx] 87))
              have HN8 := Lib.hid (heapNew wr (.cells #[.slice An ns.length cn, .int .i64 y.op, .int .i64 y.n, .string y.nm, .int .i64 y.ty, .slice Ax y.args.length cx, .slice Bx y.cls.length dx] 87))
              have HX8 : Hid (Ext w (wr.alloc (.cells #[.slice An ns.length cn, .int .i64 y.op, .int .i64 y.n, .string y.nm, .int .i64 y.ty, .slice Ax y.args.length cx, .slice Bx y.cls.length dx] 87))) := (HE.out.tr (HX.out.tr HX2.out)).tr HE8.out
              go_wp2
              generalize wr.alloc _ = w8 at *
              clear c0 c1 c2 c3 c4 c5 c6
              have p0 := cellAt HN8.out 0
              have p1 := cellAt HN8.out 1
              have p2 := cellAt HN8.out 2
              have p3 := cellAt HN8.out 3
              have p4 := cellAt HN8.out 4
              have p5 := cellAt HN8.out 5
              have p6 := cellAt HN8.out 6
              go_region_with (first
                | (go_at_call 25; (with_reducible refine (With_any v1 (.slice An ns.length cn) lv ns _ ((H1.out.below HX8.out).below (Ext.rf _).drew) ((HNS.out.below HE8.out).below (Ext.rf _).drew) H1.out.sizes HNS.out.sizes (by have := N1.out; have := HU.out; omega)).mono ?_); rintro e w9 ⟨V, rfl, hr, hb⟩; have HX9 : Hid (Ext w8 w9) := Ext.tr (b := w8.drew) (Ext.rf w8).drew hb; have HV := Lib.hid hr; clear hr hb p0 p1 p2 p3 p4 p5 p6; have p0 := HX9.out.keep (cellAt HN8.out 0); have p1 := HX9.out.keep (cellAt HN8.out 1); have p2 := HX9.out.keep (cellAt HN8.out 2); have p3 := HX9.out.keep (cellAt HN8.out 3); have p4 := HX9.out.keep (cellAt HN8.out 4); have p5 := HX9.out.keep (cellAt HN8.out 5); have p6 := HX9.out.keep (cellAt HN8.out 6))
                | (go_at_call 51; (with_reducible refine (HIH.out y _ _ V v2 u3 u4 (lv ++ ns) ll ya yb w9 (HK.out.below (HE8.out.tr HX9.out)) HV.out (H2.out.below (HX8.out.tr HX9.out)) (HI.out.s1.below (HE8.out.tr HX9.out)) (HI.out.s2.below (HE8.out.tr HX9.out)) HI.out.o1 HI.out.o2 (by have := N1.out; have := HU.out; rw [List.length_append]; omega) (by have := N2.out; have := HU.out; omega) (by have := N3.out; have := HU.out; have := HNA.out; have := HI.out.n1; omega) (by have := N4.out; have := HU.out; have := HNB.out; have := HI.out.n2; omega)).mono ?_); rintro e w10 ⟨R1, R2, m1, m2, rfl, hres, hb⟩; have HX10 : Hid (Ext w9 w10) := hb; have HRES := Lib.hid hres; clear hres hb p0 p1 p2 p3 p4 p5 p6))
              all_goals
                have HI9 : Hid (FInv lv ll la1 lb1 (preC t (j2 + 1)) w10 R1 R2 m1 m2) := by show FInv lv ll la1 lb1 (preC t (j2 + 1)) w10 R1 R2 m1 m2; rw [HPS.out]; exact HI.out.step (by show FRes (lv ++ ns) (ll ++ []) ya yb y w10 R1 R2 m1 m2; rw [List.append_nil]; exact HRES.out)
                have HX11 : Hid (Ext wl w10) := HX2.out.tr (HE8.out.tr (HX9.out.tr HX10.out))
                go_wp2
                exact ⟨⟨j2 + 1, m1, m2, by omega, by go_num, HI9.out, HX11.out⟩, by simp [intOf]; omega⟩
            · have HI9 : Hid (FInv lv ll la1 lb1 (kids t) wr u3 u4 ya yb) := by show FInv lv ll la1 lb1 (kids t) wr u3 u4 ya yb; rw [← preC_end, ← show j2 = t.cls.length by omega]; exact HI.out
              have HX11 : Hid (Ext w wr) := HE.out.tr (HX.out.tr HX2.out)
              go_wp2
              go_ret2
              exact ⟨_, _, ya, yb, rfl, HI9.out.whole HMA.out HMB.out HNA.out HNB.out, HX11.out⟩
end Go.Proofs.YtfohcdpfgbeclaaGreat

/- ref.go: left, Fits. -/
namespace Go.Proofs.YtfohcdpfgbeclaaGreat
open Go.RowKit

set_option maxHeartbeats 2000000 in
set_option maxRecDepth 100000 in
theorem left_any : ∀ (k : Nat) (t : Tm) (va vc : Value) (n : Int) (w : World), RT w k t va vc → -1000000000000 ≤ n → n ≤ 1000000000000 →
    Calls Tryz.prog 42 #[tV t va vc, .int .i64 n] w fun e w' => ∃ r : Int, e = .returned (.int .i64 r) ∧ 0 ≤ r ∧ r ≤ 1000000000000 ∧ Ext w w' := by
  intro k
  induction k with
  | zero => intro t va vc n w ht; exact ht.elim
  | succ k ih =>
    intro t va vc n w ht hn0 hn1
    have HT := Lib.hid ht; have HIH := Lib.hid ih
    obtain ⟨_, ⟨Aa, ca, rfl, hca, hma⟩, ⟨Bb, cb, rfl, hcb, hmb⟩⟩ := ht.form
    clear ht ih
    unfold maxLen at hma hmb
    have HE := Lib.hid (Ext.al w (.cells #[.int .i64 t.op, .int .i64 t.n, .string t.nm, .int .i64 t.ty, .slice Aa t.args.length ca, .slice Bb t.cls.length cb] 43))
    have HB := Lib.hid (heapNew w (.cells #[.int .i64 t.op, .int .i64 t.n, .string t.nm, .int .i64 t.ty, .slice Aa t.args.length ca, .slice Bb t.cls.length cb] 43))
    go_enter Tryz.func42, Tryz.ntmps42
    go_wp2
    generalize w.alloc _ = w1 at *
    go_loopw [1, 5] (fun s i wr => ∃ (j : Nat) (m : Int), j ≤ t.args.length ∧ i = .int .i64 j ∧ s = .int .i64 m ∧ -1000000000001 ≤ m ∧ m ≤ 1000000000000 ∧ Ext w1 wr) (fun _ i _ => t.args.length - (intOf i).toNat)
    case atStart => exact ⟨0, n - 1, Nat.zero_le _, rfl, by go_num, by omega, by omega, Ext.rf _⟩
    case round =>
      obtain ⟨j, m, hj, rfl, rfl, hm0, hm1, hb⟩ := hrel
      have HX := Lib.hid hb
      have b0 := (hb.block _ (heap_lt HB.out)).trans HB.out
      have HBB := Lib.hid b0
      have c4 := cellAt b0 4
      have c5 := cellAt b0 5
      clear hb b0
      by_cases hlt : j < t.args.length
      · obtain ⟨b, o, xa, xc, rfl, hbl, yc, yt⟩ := HT.out.arg hlt
        have yc := yc.below (HE.out.tr HX.out)
        have c30 := yc.c0
        have c31 := yc.c1
        have c32 := yc.c2
        have c33 := yc.c3
        have c34 := yc.c4
        have c35 := yc.c5
        have HK := Lib.hid (yt.below (HE.out.tr HX.out))
        generalize t.args[j] = x at *
        clear yc yt
        by_cases hpos : 0 < m
        · go_wp2_with (go_at_call 42; (with_reducible refine (HIH.out x _ _ m _ HK.out (by omega) (by omega)).mono ?_); rintro e w5 ⟨r, rfl, hr0, hr1, hb5⟩)
          exact ⟨⟨j + 1, r, by omega, by go_num, rfl, by omega, by omega, HX.out.tr hb5⟩, by simp [intOf]; omega⟩
        · go_wp2
          clear HK c30 c31 c32 c33 c34 c35
          go_loopw [1, 6] (fun s i wq => ∃ (j2 : Nat) (m2 : Int), j2 ≤ t.cls.length ∧ i = .int .i64 j2 ∧ s = .int .i64 m2 ∧ -1000000000001 ≤ m2 ∧ m2 ≤ 1000000000000 ∧ Ext wr wq) (fun _ i _ => t.cls.length - (intOf i).toNat)
          case atStart => exact ⟨0, m, Nat.zero_le _, rfl, rfl, by omega, by omega, Ext.rf _⟩
          case round =>
            obtain ⟨j2, m2, hj2, rfl, rfl, hm20, hm21, hb2⟩ := hrel
            have HX2 := Lib.hid (HX.out.tr hb2)
            have HXE := Lib.hid hb2
            have b2 := (hb2.block _ (heap_lt HBB.out)).trans HBB.out
            clear c4 c5
            have c4 := cellAt b2 4
            have c5 := cellAt b2 5
            clear hb2 b2
            by_cases hlt2 : j2 < t.cls.length
            · obtain ⟨b', o', vn', xa', xc', rfl, hbl', yn', ys', yc', yt'⟩ := HT.out.clause hlt2
              have yc' := yc'.below (HE.out.tr HX2.out)
              have d0 := yc'.c0
              have d1 := yc'.c1
              have d2 := yc'.c2
              have d3 := yc'.c3
              have d4 := yc'.c4
              have d5 := yc'.c5
              have HK2 := Lib.hid (yt'.below (HE.out.tr HX2.out))
              generalize t.cls[j2] = cl at *
              obtain ⟨ns, y⟩ := cl
              dsimp only at *
              clear yc' yt' yn' ys'
              by_cases hpos2 : 0 < m2
              · go_wp2_with (go_at_call 42; (with_reducible refine (HIH.out y _ _ m2 _ HK2.out (by omega) (by omega)).mono ?_); rintro e w6 ⟨r2, rfl, hr20, hr21, hb6⟩)
                exact ⟨⟨j2 + 1, r2, by omega, by go_num, rfl, by omega, by omega, HXE.out.tr hb6⟩, by simp [intOf]; omega⟩
              · go_wp2
                go_ret
                exact ⟨_, rfl, by omega, by omega, HE.out.tr HX2.out⟩
            · go_wp2
              go_ret
              exact ⟨_, rfl, by omega, by omega, HE.out.tr HX2.out⟩
      · go_wp2
        go_loopw [1, 6] (fun s i wq => ∃ (j2 : Nat) (m2 : Int), j2 ≤ t.cls.length ∧ i = .int .i64 j2 ∧ s = .int .i64 m2 ∧ -1000000000001 ≤ m2 ∧ m2 ≤ 1000000000000 ∧ Ext wr wq) (fun _ i _ => t.cls.length - (intOf i).toNat)
        case atStart => exact ⟨0, m, Nat.zero_le _, rfl, rfl, by omega, by omega, Ext.rf _⟩
        case round =>
          obtain ⟨j2, m2, hj2, rfl, rfl, hm20, hm21, hb2⟩ := hrel
          have HX2 := Lib.hid (HX.out.tr hb2)
          have HXE := Lib.hid hb2
          have b2 := (hb2.block _ (heap_lt HBB.out)).trans HBB.out
          clear c4 c5
          have c4 := cellAt b2 4
          have c5 := cellAt b2 5
          clear hb2 b2
          by_cases hlt2 : j2 < t.cls.length
          · obtain ⟨b', o', vn', xa', xc', rfl, hbl', yn', ys', yc', yt'⟩ := HT.out.clause hlt2
            have yc' := yc'.below (HE.out.tr HX2.out)
            have d0 := yc'.c0
            have d1 := yc'.c1
            have d2 := yc'.c2
            have d3 := yc'.c3
            have d4 := yc'.c4
            have d5 := yc'.c5
            have HK2 := Lib.hid (yt'.below (HE.out.tr HX2.out))
            generalize t.cls[j2] = cl at *
            obtain ⟨ns, y⟩ := cl
            dsimp only at *
            clear yc' yt' yn' ys'
            by_cases hpos2 : 0 < m2
            · go_wp2_with (go_at_call 42; (with_reducible refine (HIH.out y _ _ m2 _ HK2.out (by omega) (by omega)).mono ?_); rintro e w6 ⟨r2, rfl, hr20, hr21, hb6⟩)
              exact ⟨⟨j2 + 1, r2, by omega, by go_num, rfl, by omega, by omega, HXE.out.tr hb6⟩, by simp [intOf]; omega⟩
            · go_wp2
              go_ret
              exact ⟨_, rfl, by omega, by omega, HE.out.tr HX2.out⟩
          · go_wp2
            go_ret
            exact ⟨_, rfl, by omega, by omega, HE.out.tr HX2.out⟩

set_option maxHeartbeats 1000000 in
set_option maxRecDepth 100000 in
theorem Fits_any (k : Nat) (t : Tm) (va vc : Value) (n : Int) (w : World) (ht : RT w k t va vc) (hn0 : 0 ≤ n) (hn1 : n ≤ 1000000000) :
    Calls Tryz.prog 17 #[tV t va vc, .int .i64 n] w fun e w' => ∃ q : Bool, e = .returned (.bool q) ∧ Ext w w' := by
  have HT := Lib.hid ht
  obtain ⟨_, ⟨Aa, ca, rfl, hca, hma⟩, ⟨Bb, cb, rfl, hcb, hmb⟩⟩ := ht.form
  clear ht
  have HE := Lib.hid (Ext.al w (.cells #[.int .i64 t.op, .int .i64 t.n, .string t.nm, .int .i64 t.ty, .slice Aa t.args.length ca, .slice Bb t.cls.length cb] 43))
  have HB := Lib.hid (heapNew w (.cells #[.int .i64 t.op, .int .i64 t.n, .string t.nm, .int .i64 t.ty, .slice Aa t.args.length ca, .slice Bb t.cls.length cb] 43))
  go_enter Tryz.func17, Tryz.ntmps17
  go_wp2_with fail
  generalize w.alloc _ = w1 at *
  (with_reducible refine (left_any k t _ _ (n + 1) _ (HT.out.below HE.out) (by omega) (by omega)).mono ?_)
  rintro e w2 ⟨r, rfl, h0, h1, hb⟩
  have HX := Lib.hid (HE.out.tr hb)
  clear hb
  go_wp2
  go_ret
  exact ⟨_, rfl, HX.out⟩
end Go.Proofs.YtfohcdpfgbeclaaGreat

/- A set of strings, kept as a map to bools: look-up and store. -/
namespace Go.Proofs.YtfohcdpfgbeclaaGreat
open Go.RowKit

def SetAt (w : World) (b : Nat) (S : List ByteArray) : Prop :=
  ∃ es clock, w.heap[b]? = some (.map es clock) ∧ es.toList.map MapEntry.key = S.map Value.string ∧ ∀ e ∈ es.toList, e.val = .bool true


theorem findNow_set (k : ByteArray) : ∀ (es : List MapEntry) (S : List ByteArray) (i : Nat), es.map MapEntry.key = S.map Value.string → (∀ e ∈ es, e.val = .bool true) →
    (hasS S k = true → ∃ j, Instr.findNow .string (.string k) es i = some (some (j, .bool true))) ∧ (hasS S k = false → Instr.findNow .string (.string k) es i = some none)
  | [], [], i, _, _ => ⟨fun h => by simp [hasS] at h, fun _ => rfl⟩
  | [], _ :: _, i, h, _ => by simp at h
  | _ :: _, [], i, h, _ => by simp at h
  | e :: es, s :: S, i, h, hv => by
    simp only [List.map_cons, List.cons.injEq] at h
    obtain ⟨h1, h2⟩ := h
    have ih := findNow_set k es S (i + 1) h2 (fun e he => hv e (List.mem_cons_of_mem _ he))
    have hval := hv e (List.mem_cons_self ..)
    have hh : hasS (s :: S) k = ((k.toList == s.toList) || hasS S k) := rfl
    unfold Instr.findNow
    rw [h1, hh]
    simp only [Instr.sameNow, beq_toListBytes]
    cases hk : (k.toList == s.toList)
    · simpa using ih
    · simp [hval]

theorem run_lookup_set (t : TypeId) (kt vt : TypeId) (P : Program) (ht : P.underlying t = some (.map kt vt)) (hk : P.underlying kt = some .string) (w : World) (hz : (zeroValue vt).run P w = .ok (.bool false) w)
    (b : Nat) (S : List ByteArray) (h : SetAt w b S) (k : ByteArray) :
    (Instr.lookup t (.map (some b)) (.string k) false).run P w = .ok (.bool (hasS S k)) w := by
  obtain ⟨es, clock, hb, hkeys, hv⟩ := h
  obtain ⟨f1, f2⟩ := findNow_set k es.toList S 0 hkeys hv
  have hkey : MapKept.IsKey .string (.string k) := by simp [MapKept.IsKey]
  cases hc : hasS S k
  · have hf := f2 hc
    simp [Instr.lookup, run_underlying ht, MapKept.run_getObj_map hb, MapKept.run_checkKey hk hkey, MapKept.run_findKey hk hf, Result.andThen, hz]
  · obtain ⟨j, hf⟩ := f1 hc
    simp [Instr.lookup, run_underlying ht, MapKept.run_getObj_map hb, MapKept.run_checkKey hk hkey, MapKept.run_findKey hk hf, Result.andThen]

theorem run_update_set (t : TypeId) (kt vt : TypeId) (P : Program) (ht : P.underlying t = some (.map kt vt)) (hk : P.underlying kt = some .string) (w : World)
    (b : Nat) (S : List ByteArray) (h : SetAt w b S) (k : ByteArray) (hn : hasS S k = false) :
    ∃ w', (Instr.mapUpdate t (.map (some b)) (.string k) (.bool true)).run P w = .ok () w' ∧ SetAt w' b (S ++ [k]) ∧ Below b w w' ∧ (∀ j, j ≠ b → w'.heap[j]? = w.heap[j]?) ∧ w'.heap.size = w.heap.size := by
  obtain ⟨es, clock, hb, hkeys, hv⟩ := h
  obtain ⟨f1, f2⟩ := findNow_set k es.toList S 0 hkeys hv
  have hf := f2 hn
  have hlt : b < w.heap.size := (Array.getElem?_eq_some_iff.1 hb).1
  have hkey : MapKept.IsKey .string (.string k) := by simp [MapKept.IsKey]
  refine ⟨{ w with heap := w.heap.setIfInBounds b (.map (es.push { key := .string k, val := .bool true, born := clock }) (clock + 1)) }, ?_, ⟨es.push { key := .string k, val := .bool true, born := clock }, clock + 1, ?_, ?_, ?_⟩, ?_, ?_, ?_⟩
  · simp [Instr.mapUpdate, run_underlying ht, MapKept.run_getObj_map hb, MapKept.run_checkKey hk hkey, MapKept.run_findKey hk hf, MapKept.run_setObj_map _ hb, Result.andThen]
  · simp [hlt]
  · simp [hkeys]
  · intro e he
    simp at he
    rcases he with he | rfl
    · exact hv e (by simpa using he)
    · rfl
  · exact ⟨rfl, rfl, rfl, by simp, fun j hj => by simp [Array.getElem?_setIfInBounds]; omega⟩
  · intro j hj
    simp [Array.getElem?_setIfInBounds]
    omega
  · simp

theorem SetAt.new (w : World) : SetAt (w.alloc (.map #[] 0)) w.heap.size [] := ⟨#[], 0, (MapKept.heap_alloc w _).1, rfl, by simp⟩
theorem SetAt.lt {w : World} {b : Nat} {S : List ByteArray} (h : SetAt w b S) : b < w.heap.size := by
  obtain ⟨es, clock, hb, _⟩ := h
  exact (Array.getElem?_eq_some_iff.1 hb).1
theorem SetAt.ext {w w' : World} {b : Nat} {S : List ByteArray} (h : SetAt w b S) (hb : Ext w w') : SetAt w' b S := by
  have hlt := h.lt
  obtain ⟨es, clock, he, h1, h2⟩ := h
  exact ⟨es, clock, (hb.block b hlt).trans he, h1, h2⟩

/-- All that was there is as it was, but for block b. -/
structure ExtBut (b : Nat) (w w' : World) : Prop where
  os : w'.os = w.os
  tape : w'.tape = w.tape
  output : w'.output = w.output
  size : w.heap.size ≤ w'.heap.size
  block : ∀ k, k < w.heap.size → k ≠ b → w'.heap[k]? = w.heap[k]?
theorem ExtBut.rf (b : Nat) (w : World) : ExtBut b w w := ⟨rfl, rfl, rfl, Nat.le_refl _, fun _ _ _ => rfl⟩
theorem Ext.but {w w' : World} (h : Ext w w') (b : Nat) : ExtBut b w w' := ⟨h.os, h.tape, h.output, h.size, fun k hk _ => h.block k hk⟩
theorem ExtBut.tr {b : Nat} {w1 w2 w3 : World} (h : ExtBut b w1 w2) (k : ExtBut b w2 w3) : ExtBut b w1 w3 :=
  ⟨k.os.trans h.os, k.tape.trans h.tape, k.output.trans h.output, Nat.le_trans h.size k.size, fun i hi hn => (k.block i (Nat.lt_of_lt_of_le hi h.size) hn).trans (h.block i hi hn)⟩
theorem ExtBut.below {b : Nat} {w w' : World} (h : ExtBut b w w') (hb : b ≤ w.heap.size) : Below b w w' :=
  ⟨h.os, h.tape, h.output, h.size, fun k hk => h.block k (by omega) (by omega)⟩
theorem ExtBut.cell {b : Nat} {w w' : World} (h : ExtBut b w w') {p : Addr} {v : Value} (hv : w.cell? p = some v) (hp : p.block ≠ b) : w'.cell? p = some v :=
  (World.cell?_of_block (w := w) (h.block p.block (cell_lt hv) hp)).trans hv
theorem set_ne_cell {w : World} {b : Nat} {S : List ByteArray} (h : SetAt w b S) {p : Addr} {v : Value} (hv : w.cell? p = some v) : p.block ≠ b := by
  obtain ⟨es, clock, he, _⟩ := h
  rintro rfl
  unfold World.cell? at hv
  rw [he] at hv
  cases hv
/-- A cell is no place of the set's. -/
theorem ExtBut.keep {b : Nat} {w w' : World} {S : List ByteArray} (h : ExtBut b w w') (hs : SetAt w b S) {p : Addr} {v : Value} (hv : w.cell? p = some v) : w'.cell? p = some v :=
  h.cell hv (set_ne_cell hs hv)
section
variable {w w' : World} {v : Value} {b : Nat} {S : List ByteArray}
theorem RArgs.but {l : List Arg} (h : RArgs w v l) (hb : ExtBut b w w') (hs : SetAt w b S) : RArgs w' v l := by
  obtain ⟨A, c, rfl, h1, h2, h3⟩ := h
  refine ⟨A, c, rfl, h1, h2, fun i a hi => ?_⟩
  obtain ⟨b, o, rfl, hlt, h4, h5⟩ := h3 i a hi
  exact ⟨b, o, rfl, Nat.lt_of_lt_of_le hlt hb.size, hb.keep hs h4, hb.keep hs h5⟩
theorem RXtors.but {l : List Xtor} (h : RXtors w v l) (hb : ExtBut b w w') (hs : SetAt w b S) : RXtors w' v l := by
  obtain ⟨A, c, rfl, h1, h2, h3⟩ := h
  refine ⟨A, c, rfl, h1, h2, fun i a hi => ?_⟩
  obtain ⟨b, o, va, rfl, hlt, h4, h5, h6, h7⟩ := h3 i a hi
  exact ⟨b, o, va, rfl, Nat.lt_of_lt_of_le hlt hb.size, hb.keep hs h4, hb.keep hs h5, h6.but hb hs, h7⟩
theorem RDecls.but {l : List Decl} (h : RDecls w v l) (hb : ExtBut b w w') (hs : SetAt w b S) : RDecls w' v l := by
  obtain ⟨A, c, rfl, h1, h2, h3⟩ := h
  refine ⟨A, c, rfl, h1, h2, fun i a hi => ?_⟩
  obtain ⟨b, o, va, rfl, hlt, h4, h5, h6, h7, h8⟩ := h3 i a hi
  exact ⟨b, o, va, rfl, Nat.lt_of_lt_of_le hlt hb.size, hb.keep hs h4, hb.keep hs h5, hb.keep hs h6, h7.but hb hs, h8⟩
end

set_option maxRecDepth 100000 in
/-- 'nameSet.add': new names are added and told. -/
theorem add_any (b : Nat) (S : List ByteArray) (k : ByteArray) (w : World) (h : SetAt w b S) :
    Calls Tryz.prog 125 #[.map (some b), .string k] w fun e w' => e = .returned (.bool (!hasS S k)) ∧ SetAt w' b (if hasS S k then S else S ++ [k]) ∧ ExtBut b w w' := by
  have hz : (zeroValue 4).run Tryz.prog w = .ok (.bool false) w := by kernel_rfl
  have hl := run_lookup_set 161 9 4 Tryz.prog Tryz.underlying161 Tryz.underlying9 w hz b S h k
  have HA := Lib.hid h
  clear h
  cases hc : hasS S k
  · rw [hc] at hl
    obtain ⟨w1, hu, hs, hb1, hoth, hsz⟩ := run_update_set 161 9 4 Tryz.prog Tryz.underlying161 Tryz.underlying9 w b S HA.out k hc
    have HS := Lib.hid hs; clear hs
    have HX : Hid (ExtBut b w w1) := ⟨hb1.os, hb1.tape, hb1.output, hb1.size, fun k _ hk => hoth k hk⟩
    clear hb1 hoth hsz hc hz
    go_enter Tryz.func125, Tryz.ntmps125
    go_wp2
    go_ret
    exact ⟨rfl, HS.out, HX.out⟩
  · rw [hc] at hl
    clear hc
    go_enter Tryz.func125, Tryz.ntmps125
    go_wp2
    go_ret
    exact ⟨rfl, HA.out, ExtBut.rf _ _⟩
end Go.Proofs.YtfohcdpfgbeclaaGreat
