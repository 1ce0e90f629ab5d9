/- free.go: the search visits a term. -/
import Derived.Test.YtogmjgccopmplaaGreatQ9
namespace Go.Proofs.YtogmjgccopmplaaGreat
open Go.RowKit Go.Shelf
attribute [local go_sem] Oper.semAt_some

theorem Tal.blk {w w' : World} {b1 f1 b2 f2 n : Nat} {c1 c2 : Str → Int} {g1 g2 : Str → Bool} (h : Tal w b1 f1 b2 f2 n c1 g1 c2 g2) (hb : ∀ j, C4 b1 f1 b2 f2 j → w'.heap[j]? = w.heap[j]?) : Tal w' b1 f1 b2 f2 n c1 g1 c2 g2 :=
  ⟨h.a1.block (hb _ (.inl rfl)), h.s1.block (hb _ (.inr (.inl rfl))), h.a2.block (hb _ (.inr (.inr (.inl rfl)))), h.s2.block (hb _ (.inr (.inr (.inr rfl))))⟩
theorem or_step (G d p q : Bool) : (G || (d && (p || q))) = ((G || (d && p)) || (d && q)) := by cases G <;> cases d <;> cases p <;> cases q <;> rfl
theorem any_snoc {α : Type} (f : α → Bool) (l : List α) (y : α) : (l ++ [y]).any f = (l.any f || f y) := by simp
theorem Tal.same {w : World} {b1 f1 b2 f2 n m : Nat} {c1 c2 d1 d2 : Str → Int} {g1 g2 h1 h2 : Str → Bool} (h : Tal w b1 f1 b2 f2 n c1 g1 c2 g2) (e0 : n ≤ m) (e1 : ∀ k, d1 k = c1 k) (e2 : ∀ k, h1 k = g1 k) (e3 : ∀ k, d2 k = c2 k) (e4 : ∀ k, h2 k = g2 k) : Tal w b1 f1 b2 f2 m d1 h1 d2 h2 := by
  rw [funext e1, funext e2, funext e3, funext e4]; exact h.mono e0

set_option maxHeartbeats 8000000 in
set_option maxRecDepth 100000 in
theorem visit_any (wA : World) (b1 f1 b2 f2 : Nat) (hap : Apart wA.heap.size b1 f1 b2 f2) : ∀ (k : Nat) (t : Tm) (va vc : Value) (n : Nat) (c1 : Str → Int) (g1 : Str → Bool) (c2 : Str → Int) (g2 : Str → Bool) (w : World),
    RT wA k t va vc → Below wA.heap.size wA w → Tal w b1 f1 b2 f2 n c1 g1 c2 g2 → n + uT t ≤ 1000000000000 → (∀ k, 0 ≤ c1 k ∧ c1 k + uT t ≤ 1000000000000) → (∀ k, 0 ≤ c2 k ∧ c2 k + uT t ≤ 1000000000000) →
    Calls Tryz.prog 80 #[srV b1 f1 b2 f2, tV t va vc] w fun e w' => e = .returned (.tuple #[]) ∧
      Tal w' b1 f1 b2 f2 (n + uT t) c1 (fun k => g1 k || (decide (c1 k = 0) && fvT t k)) c2 (fun k => g2 k || (decide (c2 k = 0) && flT t k)) ∧ Only (C4 b1 f1 b2 f2) w w' := by
  intro k
  have HAP := Lib.hid hap
  clear hap
  induction k with
  | zero => intro t va vc n c1 g1 c2 g2 w ht; exact ht.elim
  | succ k ih =>
    intro t va vc n c1 g1 c2 g2 w ht hA hT hn hb1 hb2
    have HT := Lib.hid ht; have HA := Lib.hid hA; have HTA := Lib.hid hT; have HN := Lib.hid hn; have HB1 := Lib.hid hb1; have HB2 := Lib.hid hb2; have HIH := Lib.hid ih
    obtain ⟨⟨hnm, -⟩, ⟨Aa, ca, rfl, -, -⟩, ⟨Bb, cb, rfl, -, -⟩⟩ := ht.form
    have HNM := Lib.hid hnm
    clear ht hA hT hn hb1 hb2 ih hnm
    have HU := Lib.hid (uT_kids t)
    have HV : Hid (∀ k, fvT t k = ((decide (t.op = 0) && eqS k t.nm) || (kids t).any (fvK k))) := fun k => fvT_kids k t
    have HL : Hid (∀ k, flT t k = ((decide (t.op = 12) && eqS k t.nm) || (kids t).any (flK k))) := fun k => flT_kids k t
    have HW1 : Hid (Ext w ((w.alloc (.cells #[.map (some b1), .map (some f1), .map (some b2), .map (some f2)] 133)).alloc (.cells #[.int .i64 t.op, .int .i64 t.n, .string t.nm, .int .i64 t.ty, .slice Aa t.args.length ca, .slice Bb t.cls.length cb] 41))) := Ext.al2 _ _ _
    have hs0 := ((Ext.al (w.alloc (.cells #[.map (some b1), .map (some f1), .map (some b2), .map (some f2)] 133)) (.cells #[.int .i64 t.op, .int .i64 t.n, .string t.nm, .int .i64 t.ty, .slice Aa t.args.length ca, .slice Bb t.cls.length cb] 41)).block _ (heap_lt (heapNew _ _))).trans (heapNew w (.cells #[.map (some b1), .map (some f1), .map (some b2), .map (some f2)] 133))
    have ht0 := heapNew (w.alloc (.cells #[.map (some b1), .map (some f1), .map (some b2), .map (some f2)] 133)) (.cells #[.int .i64 t.op, .int .i64 t.n, .string t.nm, .int .i64 t.ty, .slice Aa t.args.length ca, .slice Bb t.cls.length cb] 41)
    rw [World.size_alloc] at ht0
    refine callsIn_wide.1 (callsIn_of_wp_marks (n := 0) Tryz.func80 rfl trivial ?_ rfl)
    simp only [Tryz.ntmps80, List.size_toArray, List.length_cons, List.length_nil, Nat.reduceAdd, Nat.reduceSub, Array.replicate_succ, Array.replicate_zero, List.push_toArray, List.append_toArray, List.nil_append, List.cons_append]
    gi_wp2
    all_goals generalize (w.alloc _).alloc _ = w1 at *
    focus
      have h0 : (t.op == 0) = true := by assumption
      have H0 : Hid (t.op = 0) := by show t.op = 0; simpa using h0
      refine ⟨trivial, rfl, ?_⟩
      (with_reducible refine (callsIn_wide.2 (use_any b1 f1 n n c1 g1 t.nm _ (HTA.out.ext HW1.out).a1 (HTA.out.ext HW1.out).s1 HNM.out (by have := HN.out; unfold maxLen; omega))).mono ?_)
      rintro e w5 ⟨rfl, hs5, ho5⟩
      have HT5 : Hid (Tal w5 b1 f1 b2 f2 (n + 1) c1 (fun k => g1 k || (eqS k t.nm && decide (c1 t.nm = 0))) c2 g2) := (HTA.out.ext HW1.out).setS1 HAP.out (Nat.le_succ _) hs5 ho5
      have HO5 : Hid (Only (C4 b1 f1 b2 f2) w1 w5) := ho5.mono (fun j _ h => .inr (.inl h))
      have HG5 : Hid (∀ k, (g1 k || (eqS k t.nm && decide (c1 t.nm = 0)) || (decide (c1 k = 0) && (kids t).any (fvK k))) = (g1 k || (decide (c1 k = 0) && fvT t k))) := fun k => by
        rw [HV.out k, decide_eq_true H0.out, Bool.true_and, Bool.and_or_distrib_left, Bool.or_assoc]
        cases he : eqS k t.nm
        · simp
        · rw [eqS_iff.1 he]; simp
      have HH5 : Hid (∀ k, (g2 k || (decide (c2 k = 0) && (kids t).any (flK k))) = (g2 k || (decide (c2 k = 0) && flT t k))) := fun k => by
        rw [HL.out k, decide_eq_false (show ¬ t.op = 12 by rw [H0.out]; decide), Bool.false_and, Bool.false_or]
      have hs0 := (HO5.out.block _ (heap_lt hs0) (fun h => by have := HTA.out.lt _ h; omega)).trans hs0
      have ht0 := (HO5.out.block _ (heap_lt ht0) (fun h => by have := HTA.out.lt _ h; omega)).trans ht0
      have HS0 := Lib.hid hs0
      clear hs5 ho5
      obtain ⟨t0, t1, t2, t3, t4, t5⟩ := cells6 ht0
      gi_wp2
    rotate_left
    focus
      have h0 : (t.op == 12) = true := by assumption
      have H0 : Hid (t.op = 12) := by show t.op = 12; simpa using h0
      refine ⟨trivial, rfl, ?_⟩
      (with_reducible refine (callsIn_wide.2 (use_any b2 f2 n n c2 g2 t.nm _ (HTA.out.ext HW1.out).a2 (HTA.out.ext HW1.out).s2 HNM.out (by have := HN.out; unfold maxLen; omega))).mono ?_)
      rintro e w5 ⟨rfl, hs5, ho5⟩
      have HT5 : Hid (Tal w5 b1 f1 b2 f2 (n + 1) c1 g1 c2 (fun k => g2 k || (eqS k t.nm && decide (c2 t.nm = 0)))) := (HTA.out.ext HW1.out).setS2 HAP.out (Nat.le_succ _) hs5 ho5
      have HO5 : Hid (Only (C4 b1 f1 b2 f2) w1 w5) := ho5.mono (fun j _ h => .inr (.inr (.inr h)))
      have HG5 : Hid (∀ k, (g1 k || (decide (c1 k = 0) && (kids t).any (fvK k))) = (g1 k || (decide (c1 k = 0) && fvT t k))) := fun k => by
        rw [HV.out k, decide_eq_false (show ¬ t.op = 0 by rw [H0.out]; decide), Bool.false_and, Bool.false_or]
      have HH5 : Hid (∀ k, (g2 k || (eqS k t.nm && decide (c2 t.nm = 0)) || (decide (c2 k = 0) && (kids t).any (flK k))) = (g2 k || (decide (c2 k = 0) && flT t k))) := fun k => by
        rw [HL.out k, decide_eq_true H0.out, Bool.true_and, Bool.and_or_distrib_left, Bool.or_assoc]
        cases he : eqS k t.nm
        · simp
        · rw [eqS_iff.1 he]; simp
      have hs0 := (HO5.out.block _ (heap_lt hs0) (fun h => by have := HTA.out.lt _ h; omega)).trans hs0
      have ht0 := (HO5.out.block _ (heap_lt ht0) (fun h => by have := HTA.out.lt _ h; omega)).trans ht0
      have HS0 := Lib.hid hs0
      clear hs5 ho5
      obtain ⟨t0, t1, t2, t3, t4, t5⟩ := cells6 ht0
      gi_wp2
    rotate_left
    focus
      have h0 : (t.op == 0) = false := by assumption
      have h12 : (t.op == 12) = false := by assumption
      have HT5 : Hid (Tal w1 b1 f1 b2 f2 (n + 1) c1 g1 c2 g2) := (HTA.out.ext HW1.out).mono (Nat.le_succ _)
      have HO5 : Hid (Only (C4 b1 f1 b2 f2) w1 w1) := Only.rf _ _
      have HG5 : Hid (∀ k, (g1 k || (decide (c1 k = 0) && (kids t).any (fvK k))) = (g1 k || (decide (c1 k = 0) && fvT t k))) := fun k => by
        rw [HV.out k, decide_eq_false (show ¬ t.op = 0 by simpa using h0), Bool.false_and, Bool.false_or]
      have HH5 : Hid (∀ k, (g2 k || (decide (c2 k = 0) && (kids t).any (flK k))) = (g2 k || (decide (c2 k = 0) && flT t k))) := fun k => by
        rw [HL.out k, decide_eq_false (show ¬ t.op = 12 by simpa using h12), Bool.false_and, Bool.false_or]
      have HS0 := Lib.hid hs0
      obtain ⟨w5, hw5⟩ : ∃ w5 : World, w5 = w1 := ⟨_, rfl⟩
      subst hw5
      obtain ⟨t0, t1, t2, t3, t4, t5⟩ := cells6 ht0
    all_goals
      obtain ⟨G1, H1, HT5, HG5, HH5⟩ : ∃ G1 H1, Hid (Tal w5 b1 f1 b2 f2 (n + 1) c1 G1 c2 H1) ∧ Hid (∀ k, (G1 k || (decide (c1 k = 0) && (kids t).any (fvK k))) = (g1 k || (decide (c1 k = 0) && fvT t k))) ∧ Hid (∀ k, (H1 k || (decide (c2 k = 0) && (kids t).any (flK k))) = (g2 k || (decide (c2 k = 0) && flT t k))) := ⟨_, _, HT5, HG5, HH5⟩
      have HOW : Hid (Only (C4 b1 f1 b2 f2) w w5) := (Only.of_ext HW1.out).tr HO5.out
      have HAW : Hid (Below wA.heap.size wA w5) := HA.out.trans (HOW.out.below HA.out.size HAP.out.ge)
      refine ⟨trivial, rfl, ?_⟩
      (with_reducible refine (callsIn_wide.2 (parts_any t _ _ _)).mono ?_)
      rintro e w6 ⟨rfl, rfl⟩
      gi_wp2
      have hg6 := heapNew w5 (.cells #[.int .i64 t.op, .int .i64 t.n, .string t.nm, .int .i64 t.ty, .slice Aa t.args.length ca, .slice Bb t.cls.length cb] 41)
      have hE6 := Ext.al w5 (.cells #[.int .i64 t.op, .int .i64 t.n, .string t.nm, .int .i64 t.ty, .slice Aa t.args.length ca, .slice Bb t.cls.length cb] 41)
      have hz6 : w5.heap.size < (w5.alloc (.cells #[.int .i64 t.op, .int .i64 t.n, .string t.nm, .int .i64 t.ty, .slice Aa t.args.length ca, .slice Bb t.cls.length cb] 41)).heap.size := by simp
      generalize w5.alloc _ = w6 at *
      have HLT := Lib.hid HTA.out.lt
      have HZW : Hid (w.heap.size < w5.heap.size) := heap_lt HS0.out
      have HIT := Lib.hid (parts_iter (C4 b1 f1 b2 f2) wA w6 k t _ _ w5.heap.size HT.out (HAW.out.trans (hE6.mono HAW.out.size)) HAP.out.ge hg6 (fun hj => by have := HLT.out _ hj; have := HZW.out; omega))
      have HT6 := Lib.hid (HT5.out.ext hE6)
      have HO6 : Hid (Only (C4 b1 f1 b2 f2) w w6) := HOW.out.tr (Only.of_ext hE6)
      have HA6 : Hid (Below wA.heap.size wA w6) := HAW.out.trans (hE6.mono HAW.out.size)
      have HS6 := Lib.hid ((hE6.block _ (heap_lt HS0.out)).trans HS0.out)
      have HZ6 : Hid (w5.heap.size < w6.heap.size) := hz6
      have HZA : Hid (wA.heap.size ≤ w.heap.size) := HA.out.size
      clear hz6 hg6 hE6 t0 t1 t2 t3 t4 t5 hs0 ht0 HS0 HT5 HW1 HO5 HOW HTA
      refine wpIn_wide.2 (wp_range (C := C4 b1 f1 b2 f2) (L := kids t) (R := RK wA k) rfl (enters_of Tryz.func136 (by kernel_rfl) rfl) HIT.out
        (fun j hj => by have := HLT.out j hj; have := HZW.out; have := HZ6.out; omega) (fun y vs A h => h.size)
        (fun pre W => Below wA.heap.size wA W ∧ Only (C4 b1 f1 b2 f2) w W ∧ W.heap[w.heap.size]? = some (.cells #[.map (some b1), .map (some f1), .map (some b2), .map (some f2)] 133 (0, 0)) ∧ Tal W b1 f1 b2 f2 (n + 1 + uK pre) c1 (fun k => G1 k || (decide (c1 k = 0) && pre.any (fvK k))) c2 (fun k => H1 k || (decide (c2 k = 0) && pre.any (flK k))))
        (fun c W => False) ?hI ?hIx ?h0 ?hround ?hdone ?hstop)
      case hI =>
        rintro pre' A B ⟨h1, h2, h3, h4⟩ hb
        have z1 := HZW.out; have z2 := HZ6.out; have z3 := HZA.out
        exact ⟨h1.trans (hb.mono (by omega)), Only.belowNew h2 hb (by omega), (hb.block _ (by omega)).trans h3, h4.blk (fun j hj => hb.block _ (by have := HLT.out j hj; omega))⟩
      case hIx =>
        rintro c A B h _
        exact h
      case h0 => exact ⟨HA6.out, HO6.out, HS6.out, HT6.out.same (by simp [uK]) (fun _ => rfl) (fun k => by simp) (fun _ => rfl) (fun k => by simp)⟩
      case hround =>
        rintro l' pre y vs W hl' hpre ⟨i1, i2, i3, i4⟩ ⟨vn, xa, xc, rfl, hs, hty⟩ hsz
        have HS := Lib.hid hs; have HTY := Lib.hid hty
        obtain ⟨_, ⟨Ax, cx, rfl, -, -⟩, ⟨Bx, dx, rfl, -, -⟩⟩ := hty.form
        obtain ⟨An, cn, rfl, hcn, hmn⟩ := hs.form
        have I1 := Lib.hid i1; have I2 := Lib.hid i2; have I3 := Lib.hid i3; have I4 := Lib.hid i4
        have HPR := Lib.hid hpre
        clear i1 i2 i3 i4 hs hty hpre
        obtain ⟨⟨ns, lab⟩, x⟩ := y
        dsimp only at *
        gi_wp2
        refine ⟨Ext.al2 _ _ _, fun W2 hT => ?_⟩
        have hE7 := Ext.al2 W (.cells #[.slice An ns.length cn, .bool lab] 168) (.cells #[.int .i64 x.op, .int .i64 x.n, .string x.nm, .int .i64 x.ty, .slice Ax x.args.length cx, .slice Bx x.cls.length dx] 41)
        have hb7 := hT.kept _ _ (((Ext.al _ (.cells #[.int .i64 x.op, .int .i64 x.n, .string x.nm, .int .i64 x.ty, .slice Ax x.args.length cx, .slice Bx x.cls.length dx] 41)).block _ (heap_lt (heapNew W (.cells #[.slice An ns.length cn, .bool lab] 168)))).trans (heapNew W (.cells #[.slice An ns.length cn, .bool lab] 168))) (fun r h => by cases h)
        have hx7 := hT.kept _ _ (heapNew (W.alloc (.cells #[.slice An ns.length cn, .bool lab] 168)) (.cells #[.int .i64 x.op, .int .i64 x.n, .string x.nm, .int .i64 x.ty, .slice Ax x.args.length cx, .slice Bx x.cls.length dx] 41)) (fun r h => by cases h)
        rw [World.size_alloc] at hx7
        have hs7 := hT.kept _ _ ((hE7.block _ (heap_lt I3.out)).trans I3.out) (fun r h => by cases h)
        have HB7 : Hid (Below w6.heap.size W W2) := (hE7.mono hsz).trans (hT.only.below (B := w6.heap.size) (by simp; omega) (fun k h => by rw [h]; exact hl'))
        have HS7 : Hid (RStrs W2 (.slice An ns.length cn) ns) := by
          obtain ⟨A', c', e', q1, q2, q3⟩ := HS.out.below hE7
          refine ⟨A', c', e', q1, q2, fun i s hi => ?_⟩
          obtain ⟨b', o', e2, q4, q5, q6⟩ := q3 i s hi
          exact ⟨b', o', e2, by rw [hT.size]; exact q4, hT.cell _ _ q5, q6⟩
        have HT7 : Hid (Tal W2 b1 f1 b2 f2 (n + 1 + uK pre) c1 (fun k => G1 k || (decide (c1 k = 0) && pre.any (fvK k))) c2 (fun k => H1 k || (decide (c2 k = 0) && pre.any (flK k)))) := I4.out.blk (fun j hj => HB7.out.block _ (by have := HLT.out j hj; have := HZW.out; have := HZ6.out; omega))
        have HA7 : Hid (Below wA.heap.size wA W2) := I1.out.trans (HB7.out.mono (by have := HZA.out; have := HZW.out; have := HZ6.out; omega))
        have HO7 : Hid (Only (C4 b1 f1 b2 f2) w W2) := Only.belowNew I2.out HB7.out (by have := HZW.out; have := HZ6.out; omega)
        have HMK : Hid (uK pre + (2 * ns.length + uT x) ≤ uK (kids t)) := uK_pre HPR.out
        have HZ2 : Hid (W2.heap.size = W.heap.size + 2) := by show _ = _; rw [hT.size]; simp
        have HSX := Lib.hid hs7; have HX7 := Lib.hid hx7; have HBB := Lib.hid hb7
        have m0 := (Ext.al W2 (.cells #[.map (some b1), .map (some f1)] 130)).keep (cellAt hb7 0)
        have m1 := (Ext.al W2 (.cells #[.map (some b1), .map (some f1)] 130)).keep (cellAt hb7 1)
        have s0 := cellAt hs7 0
        have s1 := cellAt hs7 1
        have HSZ := Lib.hid hsz
        clear hE7 hb7 hx7 hs7 hT hsz hl' I1 I2 I3 I4 HPR HT6 HO6 HA6 HS6
        cases lab
        · gi_wp2
          have HEC := Lib.hid (Ext.al W2 (.cells #[.map (some b1), .map (some f1)] 130))
          have hgc := heapNew W2 (.cells #[.map (some b1), .map (some f1)] 130)
          clear m0 m1 s0 s1 
          generalize W2.alloc _ = W3 at *
          have HT3 := Lib.hid (HT7.out.ext HEC.out)
          have HLW : Hid (∀ j, w.heap.size ≤ j → ¬ C4 b1 f1 b2 f2 j) := fun j hj hc => by have := HLT.out j hc; omega
          have HZB : Hid (w.heap.size < w5.heap.size ∧ w5.heap.size < w6.heap.size ∧ w6.heap.size ≤ W.heap.size ∧ W2.heap.size = W.heap.size + 2) := ⟨HZW.out, HZ6.out, HSZ.out, HZ2.out⟩
          have HS3 := Lib.hid (HS7.out.below HEC.out)
          have HGC := Lib.hid hgc
          clear hgc
          refine ⟨trivial, rfl, ?_⟩
          (with_reducible refine (CallsIn.inRound l' (callsIn_wide.2 (enter_any b1 f1 (n + 1 + uK pre) c1 _ ns _ HS3.out HT3.out.a1 (by have := HMK.out; have := HN.out; have := HU.out; omega) (fun k => by have := HB1.out k; have := HU.out; omega)))).mono ?_)
          rintro e W4 ⟨rfl, hc4, ho4⟩
          have HT4 := Lib.hid (HT3.out.setA1 HAP.out (Nat.le_add_right _ _) hc4 ho4)
          have HO4 : Hid (Only (C4 b1 f1 b2 f2) W3 W4) := ho4.mono (fun j _ h => .inl h)
          have HS4 := Lib.hid (RStrs.only HO4.out HT3.out.is HS3.out)
          have HO24 : Hid (Only (C4 b1 f1 b2 f2) W2 W4) := (Only.of_ext HEC.out).tr HO4.out
          have HA4 : Hid (Below wA.heap.size wA W4) := HA7.out.trans (HO24.out.below HA7.out.size HAP.out.ge)
          have g4 := (HO4.out.block _ (heap_lt HGC.out) (HLW.out _ (by have := HZB.out; omega))).trans HGC.out
          have b4 := (HO24.out.block _ (heap_lt HBB.out) (HLW.out _ (by have := HZB.out; omega))).trans HBB.out
          have s4 := (HO24.out.block _ (heap_lt HSX.out) (HLW.out _ (Nat.le_refl _))).trans HSX.out
          have x4 := (HO24.out.block _ (heap_lt HX7.out) (HLW.out _ (by have := HZB.out; omega))).trans HX7.out
          have HG4 := Lib.hid g4; have HB4 := Lib.hid b4; have HS44 := Lib.hid s4
          have c40 := cellAt s4 0
          have c41 := cellAt s4 1
          have c42 := cellAt s4 2
          have c43 := cellAt s4 3
          obtain ⟨x0, x1, x2, x3, x44, x5⟩ := cells6 x4
          clear hc4 ho4 g4 b4 s4 x4
          gi_wp2
          refine ⟨trivial, rfl, ?_⟩
          (with_reducible refine (CallsIn.inRound l' (callsIn_wide.2 (HIH.out x _ _ _ _ _ _ _ W4 HTY.out HA4.out HT4.out (by have := HMK.out; have := HN.out; have := HU.out; omega) (fun k => by have := HB1.out k; have := HU.out; have := HMK.out; have := cntS_bounds k ns; show 0 ≤ c1 k + 1 * cntS ns k ∧ c1 k + 1 * cntS ns k + _ ≤ _; omega) (fun k => by have := HB2.out k; have := HU.out; have := HMK.out; omega)))).mono ?_)
          rintro e W5 ⟨rfl, ht5, ho5⟩
          have HT5 := Lib.hid ht5
          have HO5 := Lib.hid ho5
          have HS5 := Lib.hid (RStrs.only HO5.out HT4.out.is HS4.out)
          have g5 := (HO5.out.block _ (heap_lt HG4.out) (HLW.out _ (by have := HZB.out; omega))).trans HG4.out
          have b5 := (HO5.out.block _ (heap_lt HB4.out) (HLW.out _ (by have := HZB.out; omega))).trans HB4.out
          have HS55 := Lib.hid ((HO5.out.block _ (heap_lt HS44.out) (HLW.out _ (Nat.le_refl _))).trans HS44.out)
          have d0 := cellAt g5 0
          have d1 := cellAt g5 1
          have d2 := cellAt b5 0
          clear ht5 ho5 g5 b5 c40 c41 c42 c43 x0 x1 x2 x3 x44 x5
          gi_wp2
          refine ⟨trivial, rfl, ?_⟩
          (with_reducible refine (CallsIn.inRound l' (callsIn_wide.2 (leave_any b1 f1 _ _ _ ns _ HS5.out HT5.out.a1 (by have := HMK.out; have := HN.out; have := HU.out; omega) (fun k => by have := HB1.out k; have := HU.out; have := HMK.out; have := cntS_bounds k ns; show _ ≤ c1 k + 1 * cntS ns k ∧ c1 k + 1 * cntS ns k ≤ _; omega)))).mono ?_)
          rintro e W6 ⟨rfl, hc6, ho6⟩
          have HT6 := Lib.hid (HT5.out.setA1 HAP.out (Nat.le_add_right _ _) hc6 ho6)
          have HO6 : Hid (Only (C4 b1 f1 b2 f2) W5 W6) := ho6.mono (fun j _ h => .inl h)
          have HO26 : Hid (Only (C4 b1 f1 b2 f2) W2 W6) := (HO24.out.tr HO5.out).tr HO6.out
          clear hc6 ho6 d0 d1 d2
          gi_wp2
          refine ⟨HO26.out, HA7.out.trans (HO26.out.below HA7.out.size HAP.out.ge), HO7.out.tr HO26.out, (HO6.out.block _ (heap_lt HS55.out) (HLW.out _ (Nat.le_refl _))).trans HS55.out, HT6.out.same ?_ ?_ ?_ ?_ ?_⟩
          · rw [uK_append]; show _ ≤ n + 1 + (uK pre + (2 * ns.length + uT x + 0)); omega
          · intro k; show c1 k = c1 k + 1 * cntS ns k + -1 * cntS ns k; omega
          · intro k; show _ = (_ || (decide (c1 k + 1 * cntS ns k = 0) && fvT x k)); rw [any_snoc, fvK_step c1 (fun k => (HB1.out k).1) ns x k, or_step]
          · intro k; rfl
          · intro k; show _ = (_ || (decide (c2 k = 0) && flT x k)); rw [any_snoc, flK_lab, or_step]
        · have m2 := (Ext.al W2 (.cells #[.map (some b1), .map (some f1)] 130)).keep (cellAt HSX.out 2)
          have m3 := (Ext.al W2 (.cells #[.map (some b1), .map (some f1)] 130)).keep (cellAt HSX.out 3)
          have k0 := (Ext.al W2 (.cells #[.map (some b2), .map (some f2)] 130)).keep (cellAt HBB.out 0)
          gi_wp2
          have HEC := Lib.hid (Ext.al W2 (.cells #[.map (some b2), .map (some f2)] 130))
          have hgc := heapNew W2 (.cells #[.map (some b2), .map (some f2)] 130)
          clear m0 m1 s0 s1 m2 m3 k0
          generalize W2.alloc _ = W3 at *
          have HT3 := Lib.hid (HT7.out.ext HEC.out)
          have HLW : Hid (∀ j, w.heap.size ≤ j → ¬ C4 b1 f1 b2 f2 j) := fun j hj hc => by have := HLT.out j hc; omega
          have HZB : Hid (w.heap.size < w5.heap.size ∧ w5.heap.size < w6.heap.size ∧ w6.heap.size ≤ W.heap.size ∧ W2.heap.size = W.heap.size + 2) := ⟨HZW.out, HZ6.out, HSZ.out, HZ2.out⟩
          have HS3 := Lib.hid (HS7.out.below HEC.out)
          have HGC := Lib.hid hgc
          clear hgc
          refine ⟨trivial, rfl, ?_⟩
          (with_reducible refine (CallsIn.inRound l' (callsIn_wide.2 (enter_any b2 f2 (n + 1 + uK pre) c2 _ ns _ HS3.out HT3.out.a2 (by have := HMK.out; have := HN.out; have := HU.out; omega) (fun k => by have := HB2.out k; have := HU.out; omega)))).mono ?_)
          rintro e W4 ⟨rfl, hc4, ho4⟩
          have HT4 := Lib.hid (HT3.out.setA2 HAP.out (Nat.le_add_right _ _) hc4 ho4)
          have HO4 : Hid (Only (C4 b1 f1 b2 f2) W3 W4) := ho4.mono (fun j _ h => .inr (.inr (.inl h)))
          have HS4 := Lib.hid (RStrs.only HO4.out HT3.out.is HS3.out)
          have HO24 : Hid (Only (C4 b1 f1 b2 f2) W2 W4) := (Only.of_ext HEC.out).tr HO4.out
          have HA4 : Hid (Below wA.heap.size wA W4) := HA7.out.trans (HO24.out.below HA7.out.size HAP.out.ge)
          have g4 := (HO4.out.block _ (heap_lt HGC.out) (HLW.out _ (by have := HZB.out; omega))).trans HGC.out
          have b4 := (HO24.out.block _ (heap_lt HBB.out) (HLW.out _ (by have := HZB.out; omega))).trans HBB.out
          have s4 := (HO24.out.block _ (heap_lt HSX.out) (HLW.out _ (Nat.le_refl _))).trans HSX.out
          have x4 := (HO24.out.block _ (heap_lt HX7.out) (HLW.out _ (by have := HZB.out; omega))).trans HX7.out
          have HG4 := Lib.hid g4; have HB4 := Lib.hid b4; have HS44 := Lib.hid s4
          have c40 := cellAt s4 0
          have c41 := cellAt s4 1
          have c42 := cellAt s4 2
          have c43 := cellAt s4 3
          obtain ⟨x0, x1, x2, x3, x44, x5⟩ := cells6 x4
          clear hc4 ho4 g4 b4 s4 x4
          gi_wp2
          refine ⟨trivial, rfl, ?_⟩
          (with_reducible refine (CallsIn.inRound l' (callsIn_wide.2 (HIH.out x _ _ _ _ _ _ _ W4 HTY.out HA4.out HT4.out (by have := HMK.out; have := HN.out; have := HU.out; omega) (fun k => by have := HB1.out k; have := HU.out; have := HMK.out; omega) (fun k => by have := HB2.out k; have := HU.out; have := HMK.out; have := cntS_bounds k ns; show 0 ≤ c2 k + 1 * cntS ns k ∧ c2 k + 1 * cntS ns k + _ ≤ _; omega)))).mono ?_)
          rintro e W5 ⟨rfl, ht5, ho5⟩
          have HT5 := Lib.hid ht5
          have HO5 := Lib.hid ho5
          have HS5 := Lib.hid (RStrs.only HO5.out HT4.out.is HS4.out)
          have g5 := (HO5.out.block _ (heap_lt HG4.out) (HLW.out _ (by have := HZB.out; omega))).trans HG4.out
          have b5 := (HO5.out.block _ (heap_lt HB4.out) (HLW.out _ (by have := HZB.out; omega))).trans HB4.out
          have HS55 := Lib.hid ((HO5.out.block _ (heap_lt HS44.out) (HLW.out _ (Nat.le_refl _))).trans HS44.out)
          have d0 := cellAt g5 0
          have d1 := cellAt g5 1
          have d2 := cellAt b5 0
          clear ht5 ho5 g5 b5 c40 c41 c42 c43 x0 x1 x2 x3 x44 x5
          gi_wp2
          refine ⟨trivial, rfl, ?_⟩
          (with_reducible refine (CallsIn.inRound l' (callsIn_wide.2 (leave_any b2 f2 _ _ _ ns _ HS5.out HT5.out.a2 (by have := HMK.out; have := HN.out; have := HU.out; omega) (fun k => by have := HB2.out k; have := HU.out; have := HMK.out; have := cntS_bounds k ns; show _ ≤ c2 k + 1 * cntS ns k ∧ c2 k + 1 * cntS ns k ≤ _; omega)))).mono ?_)
          rintro e W6 ⟨rfl, hc6, ho6⟩
          have HT6 := Lib.hid (HT5.out.setA2 HAP.out (Nat.le_add_right _ _) hc6 ho6)
          have HO6 : Hid (Only (C4 b1 f1 b2 f2) W5 W6) := ho6.mono (fun j _ h => .inr (.inr (.inl h)))
          have HO26 : Hid (Only (C4 b1 f1 b2 f2) W2 W6) := (HO24.out.tr HO5.out).tr HO6.out
          clear hc6 ho6 d0 d1 d2
          gi_wp2
          refine ⟨HO26.out, HA7.out.trans (HO26.out.below HA7.out.size HAP.out.ge), HO7.out.tr HO26.out, (HO6.out.block _ (heap_lt HS55.out) (HLW.out _ (Nat.le_refl _))).trans HS55.out, HT6.out.same ?_ ?_ ?_ ?_ ?_⟩
          · rw [uK_append]; show _ ≤ n + 1 + (uK pre + (2 * ns.length + uT x + 0)); omega
          · intro k; rfl
          · intro k; show _ = (_ || (decide (c1 k = 0) && fvT x k)); rw [any_snoc, fvK_lab, or_step]
          · intro k; show c2 k = c2 k + 1 * cntS ns k + -1 * cntS ns k; omega
          · intro k; show _ = (_ || (decide (c2 k + 1 * cntS ns k = 0) && flT x k)); rw [any_snoc, flK_step c2 (fun k => (HB2.out k).1) ns x k, or_step]
      case hdone =>
        rintro W ⟨h1, h2, h3, h4⟩ hK
        have H2 := Lib.hid h2; have H4 := Lib.hid h4; have HK := Lib.hid hK
        clear h1 h2 h3 h4 hK
        gi_wp2
        refine ⟨by simp, .inl ⟨_, _, rfl, run_takeDeferred HK.out, ?_⟩⟩
        refine ⟨.tuple #[], by simp [results, go_sem], rfl, ?_, Only.putNew H2.out (by have := HZW.out; have := HZ6.out; omega) _⟩
        have H5 := H4.out.blk (w' := W.putObj w6.heap.size (.deferred none)) (fun j hj => World.putObj_heap_other (by have := HLT.out j hj; have := HZW.out; have := HZ6.out; omega))
        exact H5.same (by have := HU.out; omega) (fun _ => rfl) (fun k => (HG5.out k).symm) (fun _ => rfl) (fun k => (HH5.out k).symm)
      case hstop =>
        rintro c W h _
        exact h.elim
end Go.Proofs.YtogmjgccopmplaaGreat

/- The keys of a map in increasing order. -/
namespace Go.Proofs.YtogmjgccopmplaaGreat
open Go.RowKit Go.Maps Go.WideMaps Go.Shelf Go.Sort

def SortedS (l : List Str) : Prop := l.Pairwise fun a b => a.data.toList < b.data.toList
def SortedI (l : List Int) : Prop := l.Pairwise fun a b => a < b
def toStr (bs : List UInt8) : Str := ⟨bs.toArray⟩
theorem toStr_data (bs : List UInt8) : (toStr bs).data.toList = bs := by simp [toStr]
theorem data_toStr (s : Str) : toStr s.data.toList = s := Go.WideShapes.bytes_inj (toStr_data _)
theorem strictly {l : List (List UInt8)} (h : l.Pairwise (fun x y => x ≤ y)) (hn : l.Nodup) : l.Pairwise (fun x y => x < y) := by
  have := h.and hn
  refine this.imp fun {a b} hab => ?_
  rcases List.le_iff_lt_or_eq.1 hab.1 with h | h
  · exact h
  · exact absurd h hab.2
theorem strKeys_facts {D : DataW Unit} {w : World} {b n : Nat} {R : Value → Option (DataW Unit × List MemPlace)} {f : Str → Bool} (h : w.ownsMap Tryz.prog 9 R b n D) (hf : ∀ k, has D (kS k) = f k) :
    (strKeys D).Nodup ∧ (∀ k : Str, k.data.toList ∈ strKeys D ↔ f k = true) ∧ ∀ bs ∈ strKeys D, bs.length ≤ maxLen := by
  obtain ⟨es, rfl, h1, h2⟩ := h.canonK (string_keyed Tryz.underlying9)
  have h3 : ∀ p ∈ es, ∃ s : Str, p.1 = kS s ∧ s.size ≤ maxLen := fun p hp => by
    obtain ⟨v, hv⟩ := h2 p hp
    obtain ⟨s, _, e, hs⟩ := string_of_keyOf Tryz.underlying9 hv
    exact ⟨s, e, hs⟩
  have hap := apart_of_rising h1
  refine ⟨?_, fun k => ?_, ?_⟩
  · show (es.map fun p => strOf p.1).Nodup
    unfold List.Nodup
    rw [List.pairwise_map]
    refine hap.imp_of_mem fun {p q} hp hq hne => ?_
    obtain ⟨s, hs, _⟩ := h3 p hp
    obtain ⟨t, ht, _⟩ := h3 q hq
    rw [hs, ht] at hne ⊢
    intro e
    exact hne (by show Lit.string _ = Lit.string _; rw [show s.data.toList = t.data.toList from e])
  · rw [← hf k, has_eq, List.any_eq_true]
    show k.data.toList ∈ (es.map fun p => strOf p.1) ↔ _
    rw [List.mem_map]
    constructor
    · rintro ⟨p, hp, he⟩
      obtain ⟨s, hs, _⟩ := h3 p hp
      rw [hs] at he
      refine ⟨p, hp, ?_⟩
      rw [hs, show s = k from Go.WideShapes.bytes_inj he]
      exact WideAt.sameKey_self (key_lit k)
    · rintro ⟨p, hp, he⟩
      refine ⟨p, hp, ?_⟩
      by_cases hk : p.1 = kS k
      · rw [hk]; rfl
      · rw [sameKey_ne hk] at he; cases he
  · intro bs hbs
    obtain ⟨p, hp, rfl⟩ := List.mem_map.1 hbs
    obtain ⟨s, hs, hl⟩ := h3 p hp
    rw [hs]
    show s.data.toList.length ≤ _
    simpa using hl

theorem KeysS_any (mb : Option Nat) (W : World) : Calls Tryz.prog 114 #[.map mb] W fun e w' => e = .returned (.func (.func 141) #[] #[.pointer (some ⟨W.heap.size, 0, none⟩)]) ∧ w' = W.alloc (.cells #[.map mb] 123) :=
  callsIn_wide.1 (AnyZ.keys_in Tryz.keys82 Fence.wide 5 trivial rfl mb W)
theorem sortsS (m : Nat) : AnyZ.SortsIn Tryz.prog Tryz.sorted81_ren Fence.wide m :=
  ⟨fun blk off cap ss W hH hblk hsz => callsIn_wide.2 (AnyM.slices_Sort_string Tryz.sort109 blk off cap ss W hH hblk hsz),
   fun p cap W => callsIn_wide.2 (AnyM.slices_Sort_string_none Tryz.sort109 p cap W)⟩

theorem SortedS_any (b n : Nat) (f : Str → Bool) (w : World) (h : SetO Tryz.prog w b n f) (hn : n ≤ 1000000000) :
    Calls Tryz.prog 113 #[.func (.func 141) #[] #[.pointer (some ⟨w.heap.size, 0, none⟩)]] (w.alloc (.cells #[.map (some b)] 123)) fun e w' => ∃ (v : Value) (l : List Str), e = .returned v ∧ (∀ k, k ∈ l ↔ f k = true) ∧ SortedS l ∧ (∀ k ∈ l, k.size ≤ maxLen) ∧
      w'.ownsRow (w.heap.size + 1) 9 1 v l.length (l.map Value.string) ∧ Ext w w' := by
  obtain ⟨D0, hown, hf, _⟩ := h
  obtain ⟨q1, q2, q3⟩ := strKeys_facts hown hf
  have hbl := hown.lt
  have hsz := size_own hown
  have hseq : SeqGives Fence.wide 2 Tryz.prog 141 #[.pointer (some ⟨w.heap.size, 0, none⟩)] encStr (fun ss => ss.Perm (strKeys D0)) (Maps.size D0) (w.alloc (.cells #[.map (some b)] 123)) :=
    AnyZ.keys_gives (ρ := Tryz.keys82_ren) { Tryz.keys82 with } Fence.wide _ trivial rfl (by omega) w.heap.size b n D0 _ (by simp) (by simp) (by
      obtain ⟨es, clock, hb, Ft, hs, hD⟩ := hown
      exact ⟨es, clock, (Below.heap_alloc _ _ b hbl).trans hb, Ft, hs, hD⟩)
  have cS := AnyZ.sorted_in Tryz.sorted81 Fence.wide 5 trivial trivial trivial trivial rfl (by omega) (sortsS _) (enters_of Tryz.func140 (by kernel_rfl) rfl) 141 #[.pointer (some ⟨w.heap.size, 0, none⟩)] trivial (enters_of Tryz.func141 (by kernel_rfl) rfl) _ _ (by unfold maxLen; omega) (by omega) _ hseq
  refine (callsIn_wide.1 cS).mono ?_
  rintro e w' ⟨v, ss, rfl, hS, hrow, hnil, hb⟩
  have hp : (ss.mergeSort (fun x y => decide (x ≤ y))).Perm (strKeys D0) := (List.mergeSort_perm _ _).trans hS
  have hsort : (ss.mergeSort (fun x y => decide (x ≤ y))).Pairwise (fun x y => x ≤ y) := by
    have := List.pairwise_mergeSort (le := fun (x y : List UInt8) => decide (x ≤ y)) (fun a b c h1 h2 => by simp only [decide_eq_true_eq] at *; exact List.le_trans h1 h2) (fun a b => by simp only [Bool.or_eq_true, decide_eq_true_eq]; exact List.le_total a b) ss
    exact this.imp fun h => by simpa using h
  have hlen : ss.length = (ss.mergeSort (fun x y => decide (x ≤ y))).length := (List.length_mergeSort _).symm
  refine ⟨v, (ss.mergeSort (fun x y => decide (x ≤ y))).map toStr, rfl, fun k => ?_, ?_, fun k hk => ?_, ?_, ?_⟩
  · rw [← q2 k, ← hp.mem_iff, List.mem_map]
    exact ⟨fun ⟨bs, h1, h2⟩ => by rw [← h2, toStr_data]; exact h1, fun h => ⟨_, h, data_toStr k⟩⟩
  · unfold SortedS
    rw [List.pairwise_map]
    exact (strictly hsort ((hp.nodup_iff).2 q1)).imp fun h => by rw [toStr_data, toStr_data]; exact h
  · obtain ⟨bs, h1, rfl⟩ := List.mem_map.1 hk
    have := q3 bs (hp.mem_iff.1 h1)
    show (toStr bs).data.size ≤ _
    rw [← Array.length_toList, toStr_data]; exact this
  · rw [List.map_map, List.length_map, ← hlen]
    rw [World.size_alloc] at hrow
    exact hrow
  · exact (Ext.al w _).tr hb

set_option maxHeartbeats 1000000 in
set_option maxRecDepth 100000 in
theorem sorted_any (vb : Value) (b n : Nat) (f : Str → Bool) (w : World) (h : SetO Tryz.prog w b n f) (hn : n ≤ 1000000000) :
    Calls Tryz.prog 81 #[.agg #[vb, .map (some b)]] w fun e w' => ∃ (v : Value) (l : List Str), e = .returned v ∧ (∀ k, k ∈ l ↔ f k = true) ∧ SortedS l ∧ (∀ k ∈ l, k.size ≤ maxLen) ∧
      w'.ownsRow w.heap.size 9 1 v l.length (l.map Value.string) ∧ Ext w w' := by
  have HS := Lib.hid (h.ext (Ext.al w (.cells #[vb, .map (some b)] 130)))
  have HE := Lib.hid (Ext.al w (.cells #[vb, .map (some b)] 130))
  clear h
  go_enter Tryz.func81, Tryz.ntmps81
  go_wp2_with fail
  generalize w.alloc _ = w1 at *
  (with_reducible refine (KeysS_any _ _).mono ?_)
  rintro e w2 ⟨rfl, rfl⟩
  go_wp2_with fail
  (with_reducible refine (SortedS_any b n f w1 HS.out hn).mono ?_)
  rintro e w3 ⟨v, l, rfl, h1, h2, h3, h4, h5⟩
  have H1 := Lib.hid h1; have H2 := Lib.hid h2; have H3 := Lib.hid h3; have H4 := Lib.hid h4; have H5 := Lib.hid h5
  clear h1 h2 h3 h4 h5
  go_wp2
  go_ret
  exact ⟨v, l, rfl, H1.out, H2.out, H3.out, ownsRow_base_a H4.out (by have := HE.out.size; omega), HE.out.tr H5.out⟩
end Go.Proofs.YtogmjgccopmplaaGreat

/- term.go: Free. -/
namespace Go.Proofs.YtogmjgccopmplaaGreat
open Go.RowKit

theorem own_strs {w : World} {B : Nat} {v : Value} {l : List Str} (h : w.ownsRow B 9 1 v l.length (l.map Value.string)) (hs : ∀ s ∈ l, s.size ≤ maxLen) : RStrs w v l := by
  have hc := fun g (hg : v.ownBlock = some g) => World.ownsRow.cells h hg
  rcases h.2 with ⟨rfl, h0⟩ | ⟨g, cap, cur, rfl, hB, hg, hn, hm, -, -⟩
  · obtain rfl : l = [] := List.eq_nil_of_length_eq_zero h0
    exact RStrs.nil w
  · refine ⟨_, _, rfl, hn, hm, fun i a hi => ⟨g, 0, rfl, heap_lt hg, ?_, hs _ (List.mem_of_getElem? hi)⟩⟩
    have := hc g rfl i (.string a) (by rw [List.getElem?_map, hi]; rfl)
    rw [Nat.zero_add]
    have hadd : (⟨g, 0, none⟩ : Addr).add i = ⟨g, i, none⟩ := by unfold Addr.add; split <;> simp_all
    rwa [hadd] at this
theorem own_below {w w' : World} {B : Nat} {e : TypeId} {k : Nat} {v : Value} {n : Nat} {xs : List Value} (h : w.ownsRow B e k v n xs) (hb : Ext w w') : w'.ownsRow B e k v n xs :=
  h.kept (row := none) ⟨hb.os, hb.tape, hb.output, hb.size, fun j hj _ => hb.block j hj⟩ (by cases hv : v.ownBlock <;> simp)
theorem own_base {w : World} {B B' : Nat} {e : TypeId} {k : Nat} {v : Value} {n : Nat} {xs : List Value} (h : w.ownsRow B e k v n xs) (hb : B' ≤ B) : w.ownsRow B' e k v n xs :=
  ⟨h.1, h.2.elim Or.inl (fun ⟨g, cap, cur, hv, hg, r⟩ => Or.inr ⟨g, cap, cur, hv, Nat.le_trans hb hg, r⟩)⟩

/-- A list of free names that the call owns. -/
structure OwnS (w : World) (B : Nat) (v : Value) (l : List Str) (f : Str → Bool) : Prop where
  mem : ∀ k, k ∈ l ↔ f k = true
  sorted : SortedS l
  sizes : ∀ k ∈ l, k.size ≤ maxLen
  own : w.ownsRow B 9 1 v l.length (l.map Value.string)
theorem OwnS.ext {w w' : World} {B : Nat} {v : Value} {l : List Str} {f : Str → Bool} (h : OwnS w B v l f) (hb : Ext w w') : OwnS w' B v l f := ⟨h.mem, h.sorted, h.sizes, own_below h.own hb⟩
theorem OwnS.base {w : World} {B B' : Nat} {v : Value} {l : List Str} {f : Str → Bool} (h : OwnS w B v l f) (hb : B' ≤ B) : OwnS w B' v l f := ⟨h.mem, h.sorted, h.sizes, own_base h.own hb⟩
theorem OwnS.strs {w : World} {B : Nat} {v : Value} {l : List Str} {f : Str → Bool} (h : OwnS w B v l f) : RStrs w v l := own_strs h.own h.sizes

set_option maxHeartbeats 4000000 in
set_option maxRecDepth 100000 in
theorem Free_any (k : Nat) (t : Tm) (va vc : Value) (w : World) (ht : RT w k t va vc) (hu : uT t ≤ 1000000000) :
    Calls Tryz.prog 42 #[tV t va vc] w fun e w' => ∃ v1 v2 l1 l2, e = .returned (.tuple #[v1, v2]) ∧ OwnS w' w.heap.size v1 l1 (fvT t) ∧ OwnS w' w.heap.size v2 l2 (flT t) ∧ Ext w w' := by
  have HT := Lib.hid ht; have HU := Lib.hid hu
  obtain ⟨_, ⟨Aa, ca, rfl, -, -⟩, ⟨Bb, cb, rfl, -, -⟩⟩ := ht.form
  clear ht hu
  have HE := Lib.hid (Ext.al w (.cells #[.int .i64 t.op, .int .i64 t.n, .string t.nm, .int .i64 t.ty, .slice Aa t.args.length ca, .slice Bb t.cls.length cb] 41))
  have HB0 := Lib.hid (heapNew w (.cells #[.int .i64 t.op, .int .i64 t.n, .string t.nm, .int .i64 t.ty, .slice Aa t.args.length ca, .slice Bb t.cls.length cb] 41))
  have HZ1 : Hid ((w.alloc (.cells #[.int .i64 t.op, .int .i64 t.n, .string t.nm, .int .i64 t.ty, .slice Aa t.args.length ca, .slice Bb t.cls.length cb] 41)).heap.size = w.heap.size + 1) := World.size_alloc _ _
  go_enter Tryz.func42, Tryz.ntmps42
  go_wp2_with fail
  generalize w.alloc _ = w1 at *
  (with_reducible refine (newTally_any _).mono ?_)
  rintro e w2 ⟨rfl, ha2, hs2, hb2⟩
  have HA2 := Lib.hid ha2; have HS2 := Lib.hid hs2; have HX2 := Lib.hid hb2
  clear ha2 hs2 hb2
  go_wp2_with fail
  (with_reducible refine (newTally_any _).mono ?_)
  rintro e w3 ⟨rfl, ha3, hs3, hb3⟩
  have HA3 := Lib.hid ha3; have HS3 := Lib.hid hs3; have HX3 := Lib.hid hb3
  clear ha3 hs3 hb3
  have HE3 := Lib.hid ((HE.out.tr HX2.out).tr HX3.out)
  have HB3 := Lib.hid (((HX2.out.tr HX3.out).block _ (heap_lt HB0.out)).trans HB0.out)
  have hE4 := Ext.al w3 (.cells #[.map (some (w1.heap.size + 1)), .map (some (w1.heap.size + 2)), .map (some (w2.heap.size + 1)), .map (some (w2.heap.size + 2))] 133)
  have hn4 := heapNew w3 (.cells #[.map (some (w1.heap.size + 1)), .map (some (w1.heap.size + 2)), .map (some (w2.heap.size + 1)), .map (some (w2.heap.size + 2))] 133)
  have b4 := (hE4.block _ (heap_lt HB3.out)).trans HB3.out
  obtain ⟨x0, x1, x2, x3, x4, x5⟩ := cells6 b4
  have s0 := cellAt hn4 0
  have s1 := cellAt hn4 1
  have s2 := cellAt hn4 2
  have s3 := cellAt hn4 3
  have HE4 := Lib.hid hE4
  have HN4 := Lib.hid hn4
  clear hE4 hn4 b4
  go_wp2_with fail
  generalize w3.alloc _ = w4 at *
  have HAP : Hid (Apart w.heap.size (w1.heap.size + 1) (w1.heap.size + 2) (w2.heap.size + 1) (w2.heap.size + 2)) := by
    have := HZ1.out; have := HS2.out.lt
    exact ⟨by omega, by omega, by omega, by omega, by omega, by omega, by omega, by omega, by omega, by omega⟩
  have HTAL : Hid (Tal w4 (w1.heap.size + 1) (w1.heap.size + 2) (w2.heap.size + 1) (w2.heap.size + 2) 0 (fun _ => 0) (fun _ => false) (fun _ => 0) (fun _ => false)) :=
    Tal.ext ⟨HA2.out.ext HX3.out, HS2.out.ext HX3.out, HA3.out, HS3.out⟩ HE4.out
  have HW4 := Lib.hid (HE3.out.tr HE4.out)
  have HLT := Lib.hid HTAL.out.lt
  have HZ3 : Hid (w3.heap.size < w4.heap.size) := heap_lt HN4.out
  have HC3 : Hid (∀ j, C4 (w1.heap.size + 1) (w1.heap.size + 2) (w2.heap.size + 1) (w2.heap.size + 2) j → j < w3.heap.size) := (Tal.mk (n := 0) (c1 := fun _ => 0) (g1 := fun _ => false) (c2 := fun _ => 0) (g2 := fun _ => false) (HA2.out.ext HX3.out) (HS2.out.ext HX3.out) HA3.out HS3.out).lt
  (with_reducible refine (visit_any w _ _ _ _ HAP.out k t _ _ 0 _ _ _ _ w4 HT.out HW4.out HTAL.out (by have := HU.out; omega) (fun k => ⟨Int.le_refl _, by have := HU.out; show (0 : Int) + _ ≤ _; omega⟩) (fun k => ⟨Int.le_refl _, by have := HU.out; show (0 : Int) + _ ≤ _; omega⟩)).mono ?_)
  rintro e w5 ⟨rfl, ht5, ho5⟩
  have HT5 := Lib.hid ht5
  have HE5 : Hid (Ext w w5) := HW4.out.trans (ho5.below HW4.out.size HAP.out.ge)
  have hn5 := (ho5.block _ (heap_lt HN4.out) (fun h => by have := HC3.out _ h; omega)).trans HN4.out
  have HN5 := Lib.hid hn5
  clear ht5 ho5 s0 s1 s2 s3 x0 x1 x2 x3 x4 x5
  have s0 := cellAt hn5 0
  have s1 := cellAt hn5 1
  have s2 := cellAt hn5 2
  have s3 := cellAt hn5 3
  clear hn5
  have hmx : Tryz.prog.follows .mixedOrders = true := by kernel_rfl
  have HF1 : Hid ((fun k => false || (decide ((fun _ => (0 : Int)) k = 0) && fvT t k)) = fvT t) := by show _ = _; funext k; simp
  have HF2 : Hid ((fun k => false || (decide ((fun _ => (0 : Int)) k = 0) && flT t k)) = flT t) := by show _ = _; funext k; simp
  have h1 := HT5.out.s1
  have h2 := HT5.out.s2
  rw [HF1.out] at h1
  rw [HF2.out] at h2
  have H1 := Lib.hid h1; have H2 := Lib.hid h2
  clear h1 h2
  have HUN : Hid (0 + uT t ≤ 1000000000) := by show 0 + uT t ≤ 1000000000; have := HU.out; omega
  go_wp2
  go_region_with (first
    | (go_at_call 81; (with_reducible refine (sorted_any _ (w1.heap.size + 2) _ _ _ (H1.out.ext (Ext.rf _).drew) HUN.out).mono ?_); rintro e w6 ⟨v1, l1, rfl, m1, m2, m3, m4, hx6⟩; have HX6 : Hid (Ext w5 w6) := Ext.tr (b := w5.drew) (Ext.rf w5).drew hx6; have HR1 : Hid (OwnS w6 w5.heap.size v1 l1 (fvT t)) := ⟨m1, m2, m3, m4⟩; clear m1 m2 m3 m4 hx6 s0 s1 s2 s3; have s0 := HX6.out.keep (cellAt HN5.out 0); have s1 := HX6.out.keep (cellAt HN5.out 1); have s2 := HX6.out.keep (cellAt HN5.out 2); have s3 := HX6.out.keep (cellAt HN5.out 3))
    | (go_at_call 81; (with_reducible refine (sorted_any _ (w2.heap.size + 2) _ _ _ (H2.out.ext HX6.out) HUN.out).mono ?_); rintro e w7 ⟨v2, l2, rfl, m1, m2, m3, m4, hx7⟩; have HX7 : Hid (Ext w6 w7) := hx7; have HR2 : Hid (OwnS w7 w6.heap.size v2 l2 (flT t)) := ⟨m1, m2, m3, m4⟩; clear m1 m2 m3 m4 hx7 s0 s1 s2 s3))
  all_goals
    go_wp2
    go_ret2
    exact ⟨v1, v2, l1, l2, rfl, (HR1.out.ext HX7.out).base HE5.out.size, HR2.out.base (Nat.le_trans HE5.out.size HX6.out.size), (HE5.out.tr HX6.out).tr HX7.out⟩
end Go.Proofs.YtogmjgccopmplaaGreat
