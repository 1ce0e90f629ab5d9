/- ref.go: free. -/
import Derived.Test.YtfohcdpfgbeclaaGreatQ17
namespace Go.Proofs.YtfohcdpfgbeclaaGreat
open Go.RowKit

set_option maxHeartbeats 4000000 in
set_option maxRecDepth 100000 in
theorem rfree_any : ∀ (k : Nat) (t : Tm) (va vc v1 v2 v3 v4 : Value) (lv ll la lb : List Str) (w : World), RT w k t va vc → RStrs w v1 lv → RStrs w v2 ll → RStrs w v3 la → RStrs w v4 lb → SortedS la → SortedS lb →
    lv.length + uT t ≤ 50000000 → ll.length + uT t ≤ 50000000 → la.length + uT t ≤ 50000000 → lb.length + uT t ≤ 50000000 →
    Calls Tryz.prog 51 #[tV t va vc, v1, v2, v3, v4] w fun e w' => ∃ r1 r2 l1 l2, e = .returned (.tuple #[r1, r2]) ∧ FRes lv ll la lb t w' r1 r2 l1 l2 ∧ Ext w w' := by
  intro k
  induction k with
  | zero => intro t va vc v1 v2 v3 v4 lv ll la lb w ht; exact ht.elim
  | succ k ih =>
    intro t va vc v1 v2 v3 v4 lv ll la lb w ht h1 h2 h3 h4 ha hb n1 n2 n3 n4
    have HT := Lib.hid ht; have HIH := Lib.hid ih; have H1 := Lib.hid h1; have H2 := Lib.hid h2; have H3 := Lib.hid h3; have H4 := Lib.hid h4; have HSA := Lib.hid ha; have HSB := Lib.hid hb
    have N1 := Lib.hid n1; have N2 := Lib.hid n2; have N3 := Lib.hid n3; have N4 := Lib.hid n4
    obtain ⟨⟨hnm, -⟩, ⟨Aa, ca, rfl, hca, hma⟩, ⟨Bb, cb, rfl, hcb, hmb⟩⟩ := ht.form
    have HNM := Lib.hid hnm
    clear ht ih h1 h2 h3 h4 ha hb n1 n2 n3 n4 hnm
    unfold maxLen at hma hmb
    have HE := Lib.hid (Ext.al w (.cells #[.int .i64 t.op, .int .i64 t.n, .string t.nm, .int .i64 t.ty, .slice Aa t.args.length ca, .slice Bb t.cls.length cb] 43))
    have HB := Lib.hid (heapNew w (.cells #[.int .i64 t.op, .int .i64 t.n, .string t.nm, .int .i64 t.ty, .slice Aa t.args.length ca, .slice Bb t.cls.length cb] 43))
    have HW1 : Hid (RT (w.alloc (.cells #[.int .i64 t.op, .int .i64 t.n, .string t.nm, .int .i64 t.ty, .slice Aa t.args.length ca, .slice Bb t.cls.length cb] 43)) (k + 1) t (.slice Aa t.args.length ca) (.slice Bb t.cls.length cb)) := HT.out.below HE.out
    have N0 : Hid (1 ≤ uT t) := by show 1 ≤ uT t; rw [uT_kids]; omega
    rcases (by by_cases e0 : t.op = 0 <;> by_cases e1 : t.op = 12 <;> simp [e0, e1] <;> omega : ((t.op == 0) = true ∧ (t.op == 12) = false) ∨ ((t.op == 0) = false ∧ (t.op == 12) = true) ∨ ((t.op == 0) = false ∧ (t.op == 12) = false)) with ⟨h0, h12⟩ | ⟨h0, h12⟩ | ⟨h0, h12⟩
    focus
      have O0 : Hid (t.op = 0) := by show t.op = 0; simpa using h0
      generalize hq1 : hasS lv t.nm = q1
      have HQ1 : Hid (hasS lv t.nm = q1) := hq1
      cases q1
      focus
        go_enter Tryz.func51, Tryz.ntmps51
        go_wp2_with fail
        generalize w.alloc _ = w1 at *
        (with_reducible refine (In_any v1 lv t.nm w1 (H1.out.below HE.out)).mono ?_)
        rintro e w2 ⟨rfl, rfl⟩
        rw [hq1]
        clear hq1
        obtain ⟨x0, x1, x2, x3, x4, x5⟩ := cells6 HB.out
        go_wp2_with fail
        clear x0 x1 x2 x3 x4 x5
        (with_reducible refine (Insert_any v3 la t.nm w1 (H3.out.below HE.out) HNM.out (by have := N3.out; omega)).mono ?_)
        rintro e w5 ⟨V3, la1, rfl, hr5, hs5, hm5, hn5, hb5⟩
        have HST : Hid (∃ la1 lb1, FStart lv ll la lb t w1 w5 V3 v4 la1 lb1) := ⟨la1, lb, FStart.var hb5 hr5 (H4.out.below HE.out) (hs5 HSA.out) HSB.out hm5 hn5 O0.out HQ1.out⟩
        have b5 := (hb5.block _ (heap_lt HB.out)).trans HB.out
        obtain ⟨t0, t1, t2, t3, t4, t5⟩ := cells6 b5
        clear hr5 hs5 hm5 hn5 hb5 b5
        go_wp2_with fail
        clear t0 t1 t2 t3 t4 t5 O0 HQ1 h0 h12
      rotate_left
      focus
        go_enter Tryz.func51, Tryz.ntmps51
        go_wp2_with fail
        generalize w.alloc _ = w1 at *
        (with_reducible refine (In_any v1 lv t.nm w1 (H1.out.below HE.out)).mono ?_)
        rintro e w2 ⟨rfl, rfl⟩
        rw [hq1]
        clear hq1
        obtain ⟨x0, x1, x2, x3, x4, x5⟩ := cells6 HB.out
        go_wp2_with fail
        clear x0 x1 x2 x3 x4 x5
        have HST : Hid (∃ la1 lb1, FStart lv ll la lb t w1 w1 v3 v4 la1 lb1) := ⟨la, lb, FStart.none (H3.out.below HE.out) (H4.out.below HE.out) HSA.out HSB.out (fun h => HQ1.out) (fun h => by rw [O0.out] at h; cases h)⟩
        clear O0 HQ1 h0 h12
      rotate_left
    rotate_left 2
    focus
      have O0 : Hid (t.op = 12) := by show t.op = 12; simpa using h12
      generalize hq2 : hasS ll t.nm = q1
      have HQ1 : Hid (hasS ll t.nm = q1) := hq2
      cases q1
      focus
        go_enter Tryz.func51, Tryz.ntmps51
        go_wp2_with fail
        generalize w.alloc _ = w1 at *
        (with_reducible refine (In_any v2 ll t.nm w1 (H2.out.below HE.out)).mono ?_)
        rintro e w2 ⟨rfl, rfl⟩
        rw [hq2]
        clear hq2
        obtain ⟨x0, x1, x2, x3, x4, x5⟩ := cells6 HB.out
        go_wp2_with fail
        clear x0 x1 x2 x3 x4 x5
        (with_reducible refine (Insert_any v4 lb t.nm w1 (H4.out.below HE.out) HNM.out (by have := N4.out; omega)).mono ?_)
        rintro e w5 ⟨V4, lb1, rfl, hr5, hs5, hm5, hn5, hb5⟩
        have HST : Hid (∃ la1 lb1, FStart lv ll la lb t w1 w5 v3 V4 la1 lb1) := ⟨la, lb1, FStart.lab hb5 (H3.out.below HE.out) hr5 HSA.out (hs5 HSB.out) hm5 hn5 O0.out HQ1.out⟩
        have b5 := (hb5.block _ (heap_lt HB.out)).trans HB.out
        obtain ⟨t0, t1, t2, t3, t4, t5⟩ := cells6 b5
        clear hr5 hs5 hm5 hn5 hb5 b5
        go_wp2_with fail
        clear t0 t1 t2 t3 t4 t5 O0 HQ1 h0 h12
      rotate_left
      focus
        go_enter Tryz.func51, Tryz.ntmps51
        go_wp2_with fail
        generalize w.alloc _ = w1 at *
        (with_reducible refine (In_any v2 ll t.nm w1 (H2.out.below HE.out)).mono ?_)
        rintro e w2 ⟨rfl, rfl⟩
        rw [hq2]
        clear hq2
        obtain ⟨x0, x1, x2, x3, x4, x5⟩ := cells6 HB.out
        go_wp2_with fail
        clear x0 x1 x2 x3 x4 x5
        have HST : Hid (∃ la1 lb1, FStart lv ll la lb t w1 w1 v3 v4 la1 lb1) := ⟨la, lb, FStart.none (H3.out.below HE.out) (H4.out.below HE.out) HSA.out HSB.out (fun h => by rw [O0.out] at h; cases h) (fun h => HQ1.out)⟩
        clear O0 HQ1 h0 h12
      rotate_left
    rotate_left 2
    focus
      have O0 : Hid (¬ t.op = 0 ∧ ¬ t.op = 12) := by show ¬ t.op = 0 ∧ ¬ t.op = 12; exact ⟨by simpa using h0, by simpa using h12⟩
      focus
        go_enter Tryz.func51, Tryz.ntmps51
        go_wp2_with fail
        generalize w.alloc _ = w1 at *
        have HST : Hid (∃ la1 lb1, FStart lv ll la lb t w1 w1 v3 v4 la1 lb1) := ⟨la, lb, FStart.none (H3.out.below HE.out) (H4.out.below HE.out) HSA.out HSB.out (fun h => absurd h O0.out.1) (fun h => absurd h O0.out.2)⟩
        clear O0 h0 h12
    rotate_left
    all_goals
      obtain ⟨la1, lb1, hst⟩ := HST.out
      have HX5 := Lib.hid hst.ext
      have HI5 := Lib.hid hst.inv
      have HMA := Lib.hid hst.ma
      have HMB := Lib.hid hst.mb
      have HNA := Lib.hid hst.na
      have HNB := Lib.hid hst.nb
      clear hst HST
      go_loopw [3, 4, 49] (fun s3 s4 i wr => ∃ (j : Nat) (xa xb : List Str), j ≤ t.args.length ∧ i = .int .i64 j ∧ FInv lv ll la1 lb1 (preA t j) wr s3 s4 xa xb ∧ Ext w1 wr) (fun _ _ i _ => t.args.length - (intOf i).toNat)
      case atStart => exact ⟨0, la1, lb1, Nat.zero_le _, rfl, HI5.out, HX5.out⟩
      case round =>
        obtain ⟨j, xa, xb, hj, rfl, hinv, hb⟩ := hrel
        have HI := Lib.hid hinv
        have HX := Lib.hid hb
        have b0 := (hb.block _ (heap_lt HB.out)).trans HB.out
        have HBB := Lib.hid b0
        obtain ⟨t0, t1, t2, t3, t4, t5⟩ := cells6 b0
        clear hinv hb b0
        by_cases hlt : j < t.args.length
        · obtain ⟨b, o, ya, yc, rfl, hbl, y6, yt⟩ := HT.out.arg hlt
          have HU := Lib.hid (uA_at hlt)
          have HPS := Lib.hid (preA_succ hlt)
          have y6 := y6.below (HE.out.tr HX.out)
          have c0 := y6.c0
          have c1 := y6.c1
          have c2 := y6.c2
          have c3 := y6.c3
          have c4 := y6.c4
          have c5 := y6.c5
          obtain ⟨-, ⟨Ax, cx, rfl, -, -⟩, ⟨Bx, dx, rfl, -, -⟩⟩ := yt.form
          have HK := Lib.hid (yt.below (HE.out.tr HX.out))
          generalize t.args[j] = x at *
          clear y6 yt
          have hE6 := Ext.al wr (.cells #[.int .i64 x.op, .int .i64 x.n, .string x.nm, .int .i64 x.ty, .slice Ax x.args.length cx, .slice Bx x.cls.length dx] 43)
          have b6 := (hE6.block _ (heap_lt HBB.out)).trans HBB.out
          have HN6 := Lib.hid (heapNew wr (.cells #[.int .i64 x.op, .int .i64 x.n, .string x.nm, .int .i64 x.ty, .slice Ax x.args.length cx, .slice Bx x.cls.length dx] 43))
          have HE6 := Lib.hid hE6
          have HZ6 : Hid ((wr.alloc (.cells #[.int .i64 x.op, .int .i64 x.n, .string x.nm, .int .i64 x.ty, .slice Ax x.args.length cx, .slice Bx x.cls.length dx] 43)).heap.size = wr.heap.size + 1) := World.size_alloc _ _
          obtain ⟨z0, z1, z2, z3, z4, z5⟩ := cells6 b6
          clear hE6 b6
          rcases (by by_cases e0 : t.op = 8 <;> by_cases e1 : t.op = 11 <;> by_cases e2 : j = 0 <;> by_cases e3 : j = 1 <;> simp [e0, e1, e2, e3] <;> omega : ((t.op == 8) = true ∧ (t.op == 11) = false ∧ ((j : Int) == 1) = true) ∨ ((t.op == 8) = false ∧ (t.op == 11) = true ∧ ((j : Int) == 0) = true) ∨ ((t.op == 8) = true ∧ (t.op == 11) = false ∧ ((j : Int) == 1) = false) ∨ ((t.op == 8) = false ∧ (t.op == 11) = true ∧ ((j : Int) == 0) = false) ∨ ((t.op == 8) = false ∧ (t.op == 11) = false)) with ⟨h8, h11, hjn⟩ | ⟨h8, h11, hjn⟩ | ⟨h8, h11, hjn⟩ | ⟨h8, h11, hjn⟩ | ⟨h8, h11⟩
          all_goals go_wp2_with fail
          all_goals generalize wr.alloc _ = w6 at *
          focus
            have HJ : Hid (t.op = 8 ∧ j = 1) := by show t.op = 8 ∧ j = 1; simp at h8 hjn; exact ⟨h8, by omega⟩
            have hE7 := Ext.al w6 (.cells #[.string t.nm] 9)
            have hn7 := heapNew w6 (.cells #[.string t.nm] 9)
            rw [HZ6.out] at hn7
            generalize w6.alloc _ = w7 at *
            (with_reducible refine (With_any v1 _ lv [t.nm] w7 (H1.out.below ((HE.out.tr HX.out).tr (HE6.out.tr hE7))) (RStrs.one hn7 HNM.out) H1.out.sizes (fun s h => by rw [List.mem_singleton.1 h]; exact HNM.out) (by simp; have := N1.out; omega)).mono ?_)
            rintro e w8 ⟨V14, rfl, hr8, hb8⟩
            have HW8 : Hid (Ext wr w8) := HE6.out.tr (hE7.tr hb8)
            have HV14 : Hid (RStrs w8 V14 (lv ++ vnames (bndAt t.op t.nm j))) := by show RStrs w8 V14 _; rw [(vn_8 HJ.out.1 HJ.out.2).1]; exact hr8
            have HV15 : Hid (RStrs w8 v2 (ll ++ lnames (bndAt t.op t.nm j))) := by show RStrs w8 v2 _; rw [(vn_8 HJ.out.1 HJ.out.2).2, List.append_nil]; exact H2.out.below ((HE.out.tr HX.out).tr HW8.out)
            have b8 := (HW8.out.block _ (heap_lt HBB.out)).trans HBB.out
            have b9 := ((hE7.tr hb8).block _ (heap_lt HN6.out)).trans HN6.out
            clear hE7 hn7 hr8 hb8 z0 z1 z2 z3 z4 z5
            obtain ⟨z0, z1, z2, z3, z4, z5⟩ := cells6 b8
            obtain ⟨y0, y1, y2, y3, y4, y5⟩ := cells6 b9
            clear b8 b9
            go_wp2_with fail
          rotate_left
          focus
            have HJ : Hid (t.op = 11 ∧ j = 0) := by show t.op = 11 ∧ j = 0; simp at h11 hjn; exact ⟨h11, by omega⟩
            have hE7 := Ext.al w6 (.cells #[.string t.nm] 9)
            have hn7 := heapNew w6 (.cells #[.string t.nm] 9)
            rw [HZ6.out] at hn7
            generalize w6.alloc _ = w7 at *
            (with_reducible refine (With_any v2 _ ll [t.nm] w7 (H2.out.below ((HE.out.tr HX.out).tr (HE6.out.tr hE7))) (RStrs.one hn7 HNM.out) H2.out.sizes (fun s h => by rw [List.mem_singleton.1 h]; exact HNM.out) (by simp; have := N2.out; omega)).mono ?_)
            rintro e w8 ⟨V15, rfl, hr8, hb8⟩
            have HW8 : Hid (Ext wr w8) := HE6.out.tr (hE7.tr hb8)
            have HV14 : Hid (RStrs w8 v1 (lv ++ vnames (bndAt t.op t.nm j))) := by show RStrs w8 v1 _; rw [(vn_11 HJ.out.1 HJ.out.2).1, List.append_nil]; exact H1.out.below ((HE.out.tr HX.out).tr HW8.out)
            have HV15 : Hid (RStrs w8 V15 (ll ++ lnames (bndAt t.op t.nm j))) := by show RStrs w8 V15 _; rw [(vn_11 HJ.out.1 HJ.out.2).2]; exact hr8
            have b8 := (HW8.out.block _ (heap_lt HBB.out)).trans HBB.out
            have b9 := ((hE7.tr hb8).block _ (heap_lt HN6.out)).trans HN6.out
            clear hE7 hn7 hr8 hb8 z0 z1 z2 z3 z4 z5
            obtain ⟨z0, z1, z2, z3, z4, z5⟩ := cells6 b8
            obtain ⟨y0, y1, y2, y3, y4, y5⟩ := cells6 b9
            clear b8 b9
            go_wp2_with fail
          rotate_left
          focus
            have HJ : Hid (¬ (t.op = 8 ∧ j = 1) ∧ ¬ (t.op = 11 ∧ j = 0)) := by show ¬ (t.op = 8 ∧ j = 1) ∧ ¬ (t.op = 11 ∧ j = 0); simp at h8 h11 hjn; omega
          rotate_left
          focus
            have HJ : Hid (¬ (t.op = 8 ∧ j = 1) ∧ ¬ (t.op = 11 ∧ j = 0)) := by show ¬ (t.op = 8 ∧ j = 1) ∧ ¬ (t.op = 11 ∧ j = 0); simp at h8 h11 hjn; omega
          rotate_left
          focus
            have HJ : Hid (¬ (t.op = 8 ∧ j = 1) ∧ ¬ (t.op = 11 ∧ j = 0)) := by show ¬ (t.op = 8 ∧ j = 1) ∧ ¬ (t.op = 11 ∧ j = 0); simp at h8 h11; omega
          rotate_left
          all_goals first
            | (have HV14 : Hid (RStrs w6 v1 (lv ++ vnames (bndAt t.op t.nm j))) := by show RStrs w6 v1 _; rw [(vn_no HJ.out.1 HJ.out.2).1, List.append_nil]; exact H1.out.below ((HE.out.tr HX.out).tr HE6.out)
               have HV15 : Hid (RStrs w6 v2 (ll ++ lnames (bndAt t.op t.nm j))) := by show RStrs w6 v2 _; rw [(vn_no HJ.out.1 HJ.out.2).2, List.append_nil]; exact H2.out.below ((HE.out.tr HX.out).tr HE6.out)
               have HW8 := HE6)
            | skip
          all_goals
            (with_reducible refine (HIH.out x _ _ _ _ u3 u4 _ _ xa xb _ (HK.out.below HW8.out) HV14.out HV15.out (HI.out.s1.below HW8.out) (HI.out.s2.below HW8.out) HI.out.o1 HI.out.o2 (by have := N1.out; have := HU.out; have := vn_len (bndAt t.op t.nm j); rw [List.length_append]; omega) (by have := N2.out; have := HU.out; have := ln_len (bndAt t.op t.nm j); rw [List.length_append]; omega) (by have := N3.out; have := HU.out; have := HNA.out; have := HI.out.n1; omega) (by have := N4.out; have := HU.out; have := HNB.out; have := HI.out.n2; omega)).mono ?_)
            rintro e w9 ⟨R1, R2, m1, m2, rfl, hres, hb9⟩
            have HI9 : Hid (FInv lv ll la1 lb1 (preA t (j + 1)) w9 R1 R2 m1 m2) := by show FInv lv ll la1 lb1 (preA t (j + 1)) w9 R1 R2 m1 m2; rw [HPS.out]; exact HI.out.step hres
            have HX9 : Hid (Ext w1 w9) := HX.out.tr (HW8.out.tr hb9)
            clear hres hb9
            go_wp2
            exact ⟨⟨j + 1, m1, m2, by omega, by go_num, HI9.out, HX9.out⟩, by simp [intOf]; omega⟩
        · have HI0 : Hid (FInv lv ll la1 lb1 (preC t 0) wr u3 u4 xa xb) := by show FInv lv ll la1 lb1 (preC t 0) wr u3 u4 xa xb; rw [← preA_end, ← show j = t.args.length by omega]; exact HI.out
          clear HI
          go_wp2
          clear t0 t1 t2 t3 t4 t5
          generalize wr = wl at *
          go_loopw [3, 4, 93] (fun s3 s4 i wq => ∃ (j2 : Nat) (ya yb : List Str), j2 ≤ t.cls.length ∧ i = .int .i64 j2 ∧ FInv lv ll la1 lb1 (preC t j2) wq s3 s4 ya yb ∧ Ext wl wq) (fun _ _ i _ => t.cls.length - (intOf i).toNat)
          case atStart => exact ⟨0, xa, xb, Nat.zero_le _, rfl, HI0.out, Ext.rf _⟩
          case round =>
            obtain ⟨j2, ya, yb, hj2, rfl, hinv, hb⟩ := hrel
            have HI := Lib.hid hinv
            have HX2 := Lib.hid hb
            clear hinv hb
            by_cases hlt2 : j2 < t.cls.length
            · obtain ⟨b', o', vn', xa', xc', rfl, hbl', yn', ys', y6, yt'⟩ := HT.out.clause hlt2
              have HU := Lib.hid (uC_at hlt2)
              have HPS := Lib.hid (preC_succ hlt2)
              generalize t.cls[j2] = cl at *
              obtain ⟨ns, y⟩ := cl
              dsimp only at *
              obtain ⟨-, ⟨Ax, cx, rfl, -, -⟩, ⟨Bx, dx, rfl, -, -⟩⟩ := yt'.form
              obtain ⟨An, cn, rfl, -, -⟩ := ys'.form
              have hX := HE.out.tr (HX.out.tr HX2.out)
              have HK := Lib.hid (yt'.below hX)
              have HNS := Lib.hid (ys'.below hX)
              have y6 := y6.below hX
              have c0 := hX.keep yn'
              have c1 := y6.c0
              have c2 := y6.c1
              have c3 := y6.c2
              have c4 := y6.c3
              have c5 := y6.c4
              have c6 := y6.c5
              clear y6 yt' yn' ys' hX
              have HE8 := Lib.hid (Ext.al wr (.cells #[.slice An ns.length cn, .int .i64 y.op, .int .i64 y.n, .string y.nm, .int .i64 y.ty, .slice Ax y.args.length cx, .slice Bx y.cls.length dx] 87))
              have HN8 := Lib.hid (heapNew wr (.cells #[.slice An ns.length cn, .int .i64 y.op, .int .i64 y.n, .string y.nm, .int .i64 y.ty, .slice Ax y.args.length cx, .slice Bx y.cls.length dx] 87))
              have HX8 : Hid (Ext w (wr.alloc (.cells #[.slice An ns.length cn, .int .i64 y.op, .int .i64 y.n, .string y.nm, .int .i64 y.ty, .slice Ax y.args.length cx, .slice Bx y.cls.length dx] 87))) := (HE.out.tr (HX.out.tr HX2.out)).tr HE8.out
              go_wp2
              generalize wr.alloc _ = w8 at *
              clear c0 c1 c2 c3 c4 c5 c6
              have p0 := cellAt HN8.out 0
              have p1 := cellAt HN8.out 1
              have p2 := cellAt HN8.out 2
              have p3 := cellAt HN8.out 3
              have p4 := cellAt HN8.out 4
              have p5 := cellAt HN8.out 5
              have p6 := cellAt HN8.out 6
              go_region_with (first
                | (go_at_call 25; (with_reducible refine (With_any v1 (.slice An ns.length cn) lv ns _ ((H1.out.below HX8.out).below (Ext.rf _).drew) ((HNS.out.below HE8.out).below (Ext.rf _).drew) H1.out.sizes HNS.out.sizes (by have := N1.out; have := HU.out; omega)).mono ?_); rintro e w9 ⟨V, rfl, hr, hb⟩; have HX9 : Hid (Ext w8 w9) := Ext.tr (b := w8.drew) (Ext.rf w8).drew hb; have HV := Lib.hid hr; clear hr hb p0 p1 p2 p3 p4 p5 p6; have p0 := HX9.out.keep (cellAt HN8.out 0); have p1 := HX9.out.keep (cellAt HN8.out 1); have p2 := HX9.out.keep (cellAt HN8.out 2); have p3 := HX9.out.keep (cellAt HN8.out 3); have p4 := HX9.out.keep (cellAt HN8.out 4); have p5 := HX9.out.keep (cellAt HN8.out 5); have p6 := HX9.out.keep (cellAt HN8.out 6))
                | (go_at_call 51; (with_reducible refine (HIH.out y _ _ V v2 u3 u4 (lv ++ ns) ll ya yb w9 (HK.out.below (HE8.out.tr HX9.out)) HV.out (H2.out.below (HX8.out.tr HX9.out)) (HI.out.s1.below (HE8.out.tr HX9.out)) (HI.out.s2.below (HE8.out.tr HX9.out)) HI.out.o1 HI.out.o2 (by have := N1.out; have := HU.out; rw [List.length_append]; omega) (by have := N2.out; have := HU.out; omega) (by have := N3.out; have := HU.out; have := HNA.out; have := HI.out.n1; omega) (by have := N4.out; have := HU.out; have := HNB.out; have := HI.out.n2; omega)).mono ?_); rintro e w10 ⟨R1, R2, m1, m2, rfl, hres, hb⟩; have HX10 : Hid (Ext w9 w10) := hb; have HRES := Lib.hid hres; clear hres hb p0 p1 p2 p3 p4 p5 p6))
              all_goals
                have HI9 : Hid (FInv lv ll la1 lb1 (preC t (j2 + 1)) w10 R1 R2 m1 m2) := by show FInv lv ll la1 lb1 (preC t (j2 + 1)) w10 R1 R2 m1 m2; rw [HPS.out]; exact HI.out.step (by show FRes (lv ++ ns) (ll ++ []) ya yb y w10 R1 R2 m1 m2; rw [List.append_nil]; exact HRES.out)
                have HX11 : Hid (Ext wl w10) := HX2.out.tr (HE8.out.tr (HX9.out.tr HX10.out))
                go_wp2
                exact ⟨⟨j2 + 1, m1, m2, by omega, by go_num, HI9.out, HX11.out⟩, by simp [intOf]; omega⟩
            · have HI9 : Hid (FInv lv ll la1 lb1 (kids t) wr u3 u4 ya yb) := by show FInv lv ll la1 lb1 (kids t) wr u3 u4 ya yb; rw [← preC_end, ← show j2 = t.cls.length by omega]; exact HI.out
              have HX11 : Hid (Ext w wr) := HE.out.tr (HX.out.tr HX2.out)
              go_wp2
              go_ret2
              exact ⟨_, _, ya, yb, rfl, HI9.out.whole HMA.out HMB.out HNA.out HNB.out, HX11.out⟩
end Go.Proofs.YtfohcdpfgbeclaaGreat

/- law.go: TermFrees; ref.go: Free. -/
namespace Go.Proofs.YtfohcdpfgbeclaaGreat
open Go.RowKit

theorem rstrs_nil (w : World) : RStrs w (.slice none 0 0) [] := ⟨none, 0, rfl, Nat.le_refl _, Nat.zero_le _, fun i s h => by cases h⟩
theorem sortedS_nil : SortedS [] := by unfold SortedS; exact List.Pairwise.nil

set_option maxHeartbeats 1000000 in
set_option maxRecDepth 100000 in
theorem refFree_any (k : Nat) (t : Tm) (va vc : Value) (w : World) (ht : RT w k t va vc) (hu : uT t ≤ 50000000) :
    Calls Tryz.prog 22 #[tV t va vc] w fun e w' => ∃ r1 r2 l1 l2, e = .returned (.tuple #[r1, r2]) ∧ FRes [] [] [] [] t w' r1 r2 l1 l2 ∧ Ext w w' := by
  have HT := Lib.hid ht; have HU := Lib.hid hu
  obtain ⟨_, ⟨Aa, ca, rfl, -, -⟩, ⟨Bb, cb, rfl, -, -⟩⟩ := ht.form
  clear ht hu
  have HE := Lib.hid (Ext.al w (.cells #[.int .i64 t.op, .int .i64 t.n, .string t.nm, .int .i64 t.ty, .slice Aa t.args.length ca, .slice Bb t.cls.length cb] 43))
  go_enter Tryz.func22, Tryz.ntmps22
  go_wp2_with fail
  generalize w.alloc _ = w1 at *
  (with_reducible refine (rfree_any k t _ _ _ _ _ _ [] [] [] [] w1 (HT.out.below HE.out) (rstrs_nil _) (rstrs_nil _) (rstrs_nil _) (rstrs_nil _) sortedS_nil sortedS_nil (by have := HU.out; simp; omega) (by have := HU.out; simp; omega) (by have := HU.out; simp; omega) (by have := HU.out; simp; omega)).mono ?_)
  rintro e w2 ⟨r1, r2, l1, l2, rfl, hres, hb⟩
  have HR := Lib.hid hres
  have HX := Lib.hid (HE.out.tr hb)
  clear hres hb
  go_wp2
  go_ret2
  exact ⟨r1, r2, l1, l2, rfl, HR.out, HX.out⟩

set_option maxHeartbeats 2000000 in
set_option maxRecDepth 100000 in
theorem termFrees_any (k : Nat) (t : Tm) (va vc : Value) (w : World) (ht : RT w k t va vc) (hu : uT t ≤ 50000000) :
    Calls Tryz.prog 5 #[tV t va vc] w fun e w' => e = .returned (.bool true) ∧ Ext w w' := by
  have HT := Lib.hid ht; have HU := Lib.hid hu
  obtain ⟨_, ⟨Aa, ca, rfl, -, -⟩, ⟨Bb, cb, rfl, -, -⟩⟩ := ht.form
  clear ht hu
  have HE := Lib.hid (Ext.al w (.cells #[.int .i64 t.op, .int .i64 t.n, .string t.nm, .int .i64 t.ty, .slice Aa t.args.length ca, .slice Bb t.cls.length cb] 43))
  have HB := Lib.hid (heapNew w (.cells #[.int .i64 t.op, .int .i64 t.n, .string t.nm, .int .i64 t.ty, .slice Aa t.args.length ca, .slice Bb t.cls.length cb] 43))
  go_enter Tryz.func5, Tryz.ntmps5
  go_wp2_with fail
  generalize w.alloc _ = w1 at *
  (with_reducible refine (Fits_any k t _ _ 700 _ (HT.out.below HE.out) (by omega) (by omega)).mono ?_)
  rintro e w2 ⟨q, rfl, hb⟩
  have HX2 := Lib.hid (HE.out.tr hb)
  have b2 := (hb.block _ (heap_lt HB.out)).trans HB.out
  have HB2 := Lib.hid b2
  obtain ⟨t0, t1, t2, t3, t4, t5⟩ := cells6 b2
  clear hb b2
  cases q
  · go_wp2_with fail
    (with_reducible refine (awake_any _).mono ?_)
    rintro e w3 ⟨rfl, hb⟩
    have HX3 := Lib.hid (HX2.out.tr hb)
    clear hb
    go_wp2
    go_ret
    exact ⟨rfl, HX3.out⟩
  · go_wp2_with fail
    (with_reducible refine (Free_any k t _ _ _ (HT.out.below HX2.out) (by have := HU.out; omega)).mono ?_)
    rintro e w3 ⟨v1, v2, l1, l2, rfl, ho1, ho2, hb⟩
    have HX3 := Lib.hid (HX2.out.tr hb)
    have HO1 := Lib.hid ho1
    have HO2 := Lib.hid ho2
    have b3 := (hb.block _ (heap_lt HB2.out)).trans HB2.out
    clear t0 t1 t2 t3 t4 t5 ho1 ho2 hb
    obtain ⟨t0, t1, t2, t3, t4, t5⟩ := cells6 b3
    clear b3
    go_wp2_with fail
    (with_reducible refine (refFree_any k t _ _ _ (HT.out.below HX3.out) HU.out).mono ?_)
    rintro e w4 ⟨r1, r2, m1, m2, rfl, hr, hb⟩
    have HX4 := Lib.hid (HX3.out.tr hb)
    have e1 : l1 = m1 := sorted_same _ _ HO1.out.sorted hr.o1 (fun s => by rw [HO1.out.mem s, hr.m1 s]; simp [hasS])
    have e2 : l2 = m2 := sorted_same _ _ HO2.out.sorted hr.o2 (fun s => by rw [HO2.out.mem s, hr.m2 s]; simp [hasS])
    subst e1 e2
    have HS1 : Hid (RStrs w4 v1 l1) := HO1.out.strs.below hb
    have HS2 : Hid (RStrs w4 v2 l2) := HO2.out.strs.below hb
    have HS3 : Hid (RStrs w4 r1 l1) := hr.s1
    have HS4 : Hid (RStrs w4 r2 l2) := hr.s2
    clear t0 t1 t2 t3 t4 t5 hr hb
    go_wp2_with fail
    (with_reducible refine (same_any _ _ l1 _ HS1.out HS3.out).mono ?_)
    rintro e w5 ⟨rfl, hb5⟩
    have HX5 := Lib.hid hb5
    clear hb5
    go_wp2_with fail
    (with_reducible refine (same_any _ _ l2 _ (HS2.out.below HX5.out) (HS4.out.below HX5.out)).mono ?_)
    rintro e w6 ⟨rfl, hb6⟩
    have HX6 := Lib.hid (HX5.out.tr hb6)
    clear hb6
    go_wp2_with fail
    (with_reducible refine (awake_any _).mono ?_)
    rintro e w7 ⟨rfl, hb7⟩
    have HX7 := Lib.hid (HX4.out.tr (HX6.out.tr hb7))
    clear hb7
    go_wp2
    go_ret
    exact ⟨rfl, HX7.out⟩
end Go.Proofs.YtfohcdpfgbeclaaGreat

/- Memory seen through a mask: only the blocks that a copy owns. -/
namespace Go.Proofs.YtfohcdpfgbeclaaGreat
open Go.RowKit

/-- What reads in the first reads in the second. -/
structure Sub (w w' : World) : Prop where
  size : w.heap.size ≤ w'.heap.size
  cell : ∀ p v, w.cell? p = some v → w'.cell? p = some v
/-- The world with nothing but the blocks from B on that are not g. -/
def mask (B : Nat) (g : Option Nat) (w : World) : World := { w with heap := w.heap.mapIdx fun i o => if B ≤ i ∧ some i ≠ g then o else .cells #[] 0 (0, 0) }
theorem mask_size (B : Nat) (g : Option Nat) (w : World) : (mask B g w).heap.size = w.heap.size := Array.size_mapIdx ..
theorem mask_in {B : Nat} {g : Option Nat} {w : World} {k : Nat} (h : B ≤ k ∧ some k ≠ g) : (mask B g w).heap[k]? = w.heap[k]? := by
  show (w.heap.mapIdx _)[k]? = _
  rw [Array.getElem?_mapIdx]
  simp only [if_pos h]
  cases w.heap[k]? <;> rfl
theorem mask_out {B : Nat} {g : Option Nat} {w : World} {p : Addr} (h : ¬ (B ≤ p.block ∧ some p.block ≠ g)) : (mask B g w).cell? p = none := by
  unfold World.cell?
  have e : (mask B g w).heap[p.block]? = w.heap[p.block]?.map fun _ => .cells #[] 0 (0, 0) := by
    show (w.heap.mapIdx _)[p.block]? = _
    rw [Array.getElem?_mapIdx]
    simp only [if_neg h]
  rw [e]
  cases w.heap[p.block]? with
  | none => rfl
  | some o => simp
theorem mask_cell {B : Nat} {g : Option Nat} {w : World} {p : Addr} {v : Value} (h : (mask B g w).cell? p = some v) : (B ≤ p.block ∧ some p.block ≠ g) ∧ w.cell? p = some v := by
  by_cases hk : B ≤ p.block ∧ some p.block ≠ g
  · refine ⟨hk, ?_⟩
    unfold World.cell? at h ⊢
    rw [mask_in hk] at h
    exact h
  · rw [mask_out hk] at h; cases h
theorem Sub.rf (w : World) : Sub w w := ⟨Nat.le_refl _, fun _ _ h => h⟩
theorem Sub.tr {a b c : World} (h : Sub a b) (k : Sub b c) : Sub a c := ⟨Nat.le_trans h.size k.size, fun p v e => k.cell p v (h.cell p v e)⟩
theorem Sub.ext {a b : World} (h : Ext a b) : Sub a b := ⟨h.size, fun _ _ e => h.keep e⟩
theorem Sub.unmask (B : Nat) (g : Option Nat) (w : World) : Sub (mask B g w) w := ⟨by rw [mask_size]; exact Nat.le_refl _, fun p v h => (mask_cell h).2⟩
theorem Sub.masks {B B' : Nat} {g g' : Option Nat} {w w' : World} (hs : w.heap.size ≤ w'.heap.size) (h : ∀ k, k < w.heap.size → B ≤ k → some k ≠ g → (B' ≤ k ∧ some k ≠ g') ∧ w'.heap[k]? = w.heap[k]?) : Sub (mask B g w) (mask B' g' w') := by
  refine ⟨by rw [mask_size, mask_size]; exact hs, fun p v e => ?_⟩
  obtain ⟨⟨h1, h2⟩, h3⟩ := mask_cell e
  obtain ⟨h4, h5⟩ := h p.block (cell_lt h3) h1 h2
  have h6 : (mask B' g' w').heap[p.block]? = w.heap[p.block]? := (mask_in h4).trans h5
  rw [World.cell?_of_block h6]; exact h3
theorem row_mask {w : World} {B e size n : Nat} {v : Value} {xs : List Value} (h : w.ownsRow B e size v n xs) : (mask B none w).ownsRow B e size v n xs := by
  obtain ⟨h1, h2⟩ := h
  refine ⟨h1, ?_⟩
  rcases h2 with h2 | ⟨g, cap, cur, rfl, e2, e3, e4⟩
  · exact .inl h2
  · exact .inr ⟨g, cap, cur, rfl, e2, (mask_in ⟨e2, by simp⟩).trans e3, e4⟩
theorem own_shape {w : World} {B e size n : Nat} {v : Value} {xs : List Value} (h : w.ownsRow B e size v n xs) : ∃ A c, v = .slice A n c := by
  rcases h.2 with ⟨rfl, rfl⟩ | ⟨g, cap, _, hv, _⟩
  · exact ⟨none, 0, rfl⟩
  · exact ⟨_, cap, hv⟩
section
variable {w w' : World} {v : Value}
theorem C6.sub {b o : Nat} {t : Tm} {va vc : Value} (h : C6 w b o t va vc) (hb : Sub w w') : C6 w' b o t va vc :=
  ⟨hb.cell _ _ h.c0, hb.cell _ _ h.c1, hb.cell _ _ h.c2, hb.cell _ _ h.c3, hb.cell _ _ h.c4, hb.cell _ _ h.c5⟩
theorem RStrs.sub {l : List Str} (h : RStrs w v l) (hb : Sub w w') : RStrs w' v l := by
  obtain ⟨A, c, rfl, h1, h2, h3⟩ := h
  refine ⟨A, c, rfl, h1, h2, fun i a hi => ?_⟩
  obtain ⟨b, o, rfl, hlt, h4, h5⟩ := h3 i a hi
  exact ⟨b, o, rfl, Nat.lt_of_lt_of_le hlt hb.size, hb.cell _ _ h4, h5⟩
theorem RPrms.sub {l : List Prm} (h : RPrms w v l) (hb : Sub w w') : RPrms w' v l := by
  obtain ⟨A, c, rfl, h1, h2, h3⟩ := h
  refine ⟨A, c, rfl, h1, h2, fun i a hi => ?_⟩
  obtain ⟨b, o, rfl, hlt, h4, h5, h6⟩ := h3 i a hi
  exact ⟨b, o, rfl, Nat.lt_of_lt_of_le hlt hb.size, hb.cell _ _ h4, hb.cell _ _ h5, h6⟩
theorem RT.sub (hb : Sub w w') : ∀ {k : Nat} {t : Tm} {va vc : Value}, RT w k t va vc → RT w' k t va vc
  | 0, _, _, _, h => h.elim
  | k + 1, t, va, vc, ⟨h0, ⟨A, c, e1, h1, h2, h3⟩, ⟨B, d, e2, h4, h5, h6⟩⟩ =>
    ⟨h0, ⟨A, c, e1, h1, h2, fun i x hi => by
      obtain ⟨b, o, xa, xc, e, hlt, hc, hr⟩ := h3 i x hi
      exact ⟨b, o, xa, xc, e, Nat.lt_of_lt_of_le hlt hb.size, hc.sub hb, hr.sub hb⟩⟩,
    ⟨B, d, e2, h4, h5, fun i x hi => by
      obtain ⟨b, o, vn, xa, xc, e, hlt, hn, hs, hc, hr⟩ := h6 i x hi
      exact ⟨b, o, vn, xa, xc, e, Nat.lt_of_lt_of_le hlt hb.size, hb.cell _ _ hn, hs.sub hb, hc.sub hb, hr.sub hb⟩⟩⟩
end

/-! ### rows of clauses -/
abbrev Trc := (List Str × Tm) × Value × Value × Value
def cellsC1 (x : Trc) : List Value := [x.2.1, .int .i64 x.1.2.op, .int .i64 x.1.2.n, .string x.1.2.nm, .int .i64 x.1.2.ty, x.2.2.1, x.2.2.2]
def cellsC : List Trc → List Value
  | [] => []
  | x :: r => cellsC1 x ++ cellsC r
theorem cellsC_append (m : List Trc) : ∀ l, cellsC (l ++ m) = cellsC l ++ cellsC m
  | [] => rfl
  | x :: r => by rw [List.cons_append, cellsC, cellsC, cellsC_append m r, List.append_assoc]
theorem cellsC_at : ∀ (l : List Trc) (i r : Nat) (x : Trc), l[i]? = some x → r < 7 → (cellsC l)[i * 7 + r]? = (cellsC1 x)[r]?
  | [], _, _, _, h, _ => by simp at h
  | y :: l, 0, r, x, h, hr => by
    simp at h; subst h
    rw [cellsC, List.getElem?_append_left (by simp [cellsC1]; omega)]; simp
  | y :: l, i + 1, r, x, h, hr => by
    simp at h
    rw [cellsC, List.getElem?_append_right (by simp [cellsC1]; omega), ← cellsC_at l i r x h hr]
    congr 1; simp [cellsC1]; omega
def RCls (w : World) (k : Nat) (v : Value) (l : List (List Str × Tm)) : Prop :=
  ∃ B c, v = .slice B l.length c ∧ l.length ≤ c ∧ c ≤ maxLen ∧
      ∀ i x, l[i]? = some x → ∃ b o vn xa xc, B = some ⟨b, o, none⟩ ∧ b < w.heap.size ∧ w.cell? ⟨b, o + i * 7, none⟩ = some vn ∧ RStrs w vn x.1 ∧ C6 w b (o + i * 7 + 1) x.2 xa xc ∧ RT w k x.2 xa xc
def OkC (w : World) (k : Nat) (x : Trc) : Prop := RStrs w x.2.1 x.1.1 ∧ RT w k x.1.2 x.2.2.1 x.2.2.2
theorem OkC.sub {w w' : World} {k : Nat} {x : Trc} (h : OkC w k x) (hb : Sub w w') : OkC w' k x := ⟨h.1.sub hb, RT.sub hb h.2⟩
theorem own_RCls {w : World} {B k : Nat} {v : Value} {L : List Trc} (h : w.ownsRow B 87 7 v L.length (cellsC L)) (hr : ∀ x ∈ L, OkC w k x) : RCls w k v (L.map (·.1)) := by
  rcases h.2 with ⟨rfl, h0⟩ | ⟨g, cap, cur, rfl, e2, e3, e4, e5, e6, e7⟩
  · have hL : L = [] := List.eq_nil_of_length_eq_zero h0
    subst hL
    exact ⟨none, 0, rfl, Nat.le_refl _, Nat.zero_le _, fun i x hx => by simp at hx⟩
  · refine ⟨_, cap, by rw [List.length_map], by rw [List.length_map]; exact e4, e5, fun i x hx => ?_⟩
    rw [List.getElem?_map] at hx
    obtain ⟨y, hy, rfl⟩ := Option.map_eq_some_iff.1 hx
    have hi : i < L.length := (List.getElem?_eq_some_iff.1 hy).1
    have hc : ∀ r u, r < 7 → (cellsC1 y)[r]? = some u → w.cell? ⟨g, i * 7 + r, none⟩ = some u := fun r u hr6 hu => by
      have h1 := cellsC_at L i r y hy hr6
      rw [World.ownsRow.cellAt h (i * 7 + r) (by omega), h1]; exact hu
    obtain ⟨h2, h3⟩ := hr y (List.mem_of_getElem? hy)
    exact ⟨g, 0, y.2.1, y.2.2.1, y.2.2.2, rfl, (Array.getElem?_eq_some_iff.1 e3).1, by rw [Nat.zero_add]; exact hc 0 _ (by omega) rfl, h2, by
      rw [Nat.zero_add]
      exact ⟨hc 1 _ (by omega) rfl, hc 2 _ (by omega) rfl, hc 3 _ (by omega) rfl, hc 4 _ (by omega) rfl, hc 5 _ (by omega) rfl, hc 6 _ (by omega) rfl⟩, h3⟩
theorem RTms.sub {w w' : World} {k : Nat} {v : Value} {l : List Tm} (h : RTms w k v l) (hb : Sub w w') : RTms w' k v l := by
  obtain ⟨A, c, rfl, h1, h2, h3⟩ := h
  refine ⟨A, c, rfl, h1, h2, fun i x hi => ?_⟩
  obtain ⟨b, o, xa, xc, rfl, hlt, hc, hr⟩ := h3 i x hi
  exact ⟨b, o, xa, xc, rfl, Nat.lt_of_lt_of_le hlt hb.size, hc.sub hb, RT.sub hb hr⟩
theorem RCls.sub {w w' : World} {k : Nat} {v : Value} {l : List (List Str × Tm)} (h : RCls w k v l) (hb : Sub w w') : RCls w' k v l := by
  obtain ⟨A, c, rfl, h1, h2, h3⟩ := h
  refine ⟨A, c, rfl, h1, h2, fun i x hi => ?_⟩
  obtain ⟨b, o, vn, xa, xc, rfl, hlt, hn, hs, hc, hr⟩ := h3 i x hi
  exact ⟨b, o, vn, xa, xc, rfl, Nat.lt_of_lt_of_le hlt hb.size, hb.cell _ _ hn, hs.sub hb, hc.sub hb, RT.sub hb hr⟩
/-- The two rows make the term. -/
theorem RT.make {w : World} {k : Nat} {t : Tm} {va vc : Value} (h0 : t.nm.size ≤ maxLen ∧ ok64 t.n ∧ ok64 t.ty) (h1 : RTms w k va t.args) (h2 : RCls w k vc t.cls) : RT w (k + 1) t va vc := ⟨h0, h1, h2⟩
theorem SrcN.oneC {w : World} {b : Nat} {x : Trc} (h : w.heap[b]? = some (.cells #[x.2.1, .int .i64 x.1.2.op, .int .i64 x.1.2.n, .string x.1.2.nm, .int .i64 x.1.2.ty, x.2.2.1, x.2.2.2] 87 (0, 0))) : SrcN w (some ⟨b, 0, none⟩) 1 7 (cellsC [x]) := by
  refine .inr ⟨_, rfl, by simp [cellsC, cellsC1], fun j u hu => ?_⟩
  have hj : j < 7 := by have := (List.getElem?_eq_some_iff.1 hu).1; simpa [cellsC, cellsC1] using this
  rw [add_at, Nat.zero_add]
  match j, hj with
  | 0, _ => exact cellAt h 0 hu
  | 1, _ => exact cellAt h 1 hu
  | 2, _ => exact cellAt h 2 hu
  | 3, _ => exact cellAt h 3 hu
  | 4, _ => exact cellAt h 4 hu
  | 5, _ => exact cellAt h 5 hu
  | 6, _ => exact cellAt h 6 hu
theorem cellsC_one {w : World} {k : Nat} (L : List Trc) (h : ∀ x ∈ L, OkC w k x) : ∀ u ∈ cellsC L, u.oneCell' = true := by
  induction L with
  | nil => intro u hu; cases hu
  | cons x r ih =>
    intro u hu
    rw [cellsC] at hu
    rcases List.mem_append.1 hu with hu | hu
    · obtain ⟨h1, h2⟩ := h x (List.mem_cons_self ..)
      obtain ⟨_, ⟨_, _, e1, _⟩, ⟨_, _, e2, _⟩⟩ := h2.form
      obtain ⟨_, _, e3, _⟩ := h1.form
      simp only [cellsC1, e1, e2, e3, List.mem_cons, List.not_mem_nil, or_false] at hu
      rcases hu with rfl | rfl | rfl | rfl | rfl | rfl | rfl <;> rfl
    · exact ih (fun y hy => h y (List.mem_cons_of_mem _ hy)) u hu
theorem ok_clause {w : World} {B : Nat} {g : Option Nat} {k : Nat} {x : Trc} (h : OkC (mask B g w) k x) : OkC w k x := h.sub (Sub.unmask _ _ _)
/-! ### a row that grows beside what it holds -/
/-- The cells of a row that the call owns, from the first block B on; what each element points to lies apart from it; nothing else that was there has turned but block g. -/
structure CRow {α : Type} (cells : List α → List Value) (e size : Nat) (OK : World → α → Prop) (w1 wr : World) (g : Nat) (s : Value) (L : List α) : Prop where
  own : wr.ownsRow w1.heap.size e size s L.length (cells L)
  apart : ∀ x ∈ L, OK (mask w1.heap.size s.ownBlock wr) x
  only : Only (fun j => j = g) w1 wr
section
variable {α : Type} {cells : List α → List Value} {e size : Nat} {OK : World → α → Prop} {w1 wr W W' : World} {g : Nat} {s s' : Value} {L : List α} {x : α}
theorem CRow.nil (hn : cells [] = []) (w1 wr : World) (g : Nat) (h : Only (fun j => j = g) w1 wr) : CRow cells e size OK w1 wr g (.slice none 0 0) [] :=
  ⟨⟨by rw [hn]; simp, .inl ⟨rfl, rfl⟩⟩, (fun x hx => by cases hx), h⟩
theorem CRow.ext (hsub : ∀ w w' x, OK w x → Sub w w' → OK w' x) (h : CRow cells e size OK w1 wr g s L) (hb : Ext wr W) : CRow cells e size OK w1 W g s L :=
  ⟨own_below h.own hb, fun x hx => hsub _ _ _ (h.apart x hx) (Sub.masks hb.size fun k hk h1 h2 => ⟨⟨h1, h2⟩, hb.block k hk⟩), h.only.tr (Only.of_ext hb)⟩
/-- One more element, made behind the row. -/
theorem CRow.app (hsub : ∀ w w' x, OK w x → Sub w w' → OK w' x) (h : CRow cells e size OK w1 W g s L) {B : Nat} (hB1 : w1.heap.size ≤ B) (hB : ∀ k, s.ownBlock = some k → k < B) (hx : OK (mask B none W) x)
    (hg : W.grownBy W' s.ownBlock) (hat : s'.ownBlock = s.ownBlock ∨ s'.ownBlock = some W.heap.size) (ho : W'.ownsRow w1.heap.size e size s' (L ++ [x]).length (cells (L ++ [x]))) : CRow cells e size OK w1 W' g s' (L ++ [x]) := by
  have hne : ∀ k, k < W.heap.size → some k ≠ s.ownBlock → some k ≠ s'.ownBlock := fun k hk h1 => by
    rcases hat with h2 | h2
    · rw [h2]; exact h1
    · rw [h2]; intro h3; injection h3 with h3; omega
  refine ⟨ho, fun y hy => ?_, ⟨hg.os.trans h.only.os, hg.tape.trans h.only.tape, hg.output.trans h.only.output, Nat.le_trans h.only.size hg.size, fun k hk hn => ?_⟩⟩
  · rcases List.mem_append.1 hy with hy | hy
    · exact hsub _ _ _ (h.apart y hy) (Sub.masks hg.size fun k hk h1 h2 => ⟨⟨h1, hne k hk h2⟩, hg.block k hk h2⟩)
    · rw [List.mem_singleton.1 hy]
      refine hsub _ _ _ hx (Sub.masks hg.size fun k hk h1 _ => ?_)
      have h2 : some k ≠ s.ownBlock := fun e => by have := hB k e.symm; omega
      exact ⟨⟨Nat.le_trans hB1 h1, hne k hk h2⟩, hg.block k hk h2⟩
  · exact (hg.block k (Nat.lt_of_lt_of_le hk h.only.size) (fun e => by have := (h.own.lt k e.symm).1; omega)).trans (h.only.block k hk hn)
/-- A store into block g. -/
theorem CRow.set (hsub : ∀ w w' x, OK w x → Sub w w' → OK w' x) (h : CRow cells e size OK w1 W g s L) (hg : g < w1.heap.size) (i : Nat) (u : Value) : CRow cells e size OK w1 (W.setCell ⟨g, i, none⟩ u) g s L :=
  ⟨ownsRow_setCell_below h.own hg _, fun x hx => hsub _ _ _ (h.apart x hx) (Sub.masks (by simp [World.setCell]) fun k hk h1 h2 => ⟨⟨h1, h2⟩, Below.heap_setCell _ _ _ _ (by show k ≠ g; omega)⟩), h.only.tr (Only.setCell (C := fun j => j = g) (p := ⟨g, i, none⟩) rfl _ _)⟩
/-- What the row holds, seen with the row. -/
theorem CRow.all (hsub : ∀ w w' x, OK w x → Sub w w' → OK w' x) (h : CRow cells e size OK w1 W g s L) : (mask w1.heap.size none W).ownsRow w1.heap.size e size s L.length (cells L) ∧ ∀ x ∈ L, OK (mask w1.heap.size none W) x :=
  ⟨row_mask h.own, fun x hx => hsub _ _ _ (h.apart x hx) (Sub.masks (Nat.le_refl _) fun k _ h1 _ => ⟨⟨h1, by simp⟩, rfl⟩)⟩
theorem CRow.lt (h : CRow cells e size OK w1 W g s L) : ∀ k, s.ownBlock = some k → k < W.heap.size := fun k hk => (h.own.lt k hk).2
end
end Go.Proofs.YtfohcdpfgbeclaaGreat
