/- The reference of layer 4: rule, the operators that do not read the program. -/
import Derived.Test.YtogmjgccopmplaaGreatQ29
namespace Go.Proofs.YtogmjgccopmplaaGreat
open Go.RowKit
set_option maxHeartbeats 4000000 in
set_option maxRecDepth 100000 in
theorem rr_var (vd vf vv vl vp : Value) (vs ls : List Prm) (k : Nat) (t : Tm) (xa xc : Value) (ps : List Int) (w : World) (hvd : ∃ A n c, vd = .slice A n c) (hvf : ∃ A n c, vf = .slice A n c) (h1 : RPrms w vv vs) (h2 : RPrms w vl ls) (ht : RT w k t xa xc) (hp : RInts w vp (ps)) (ho : t.op = 0) :
    Calls Tryz.prog 75 #[pV vd vf, .agg #[vv, vl], tV t xa xc, vp] w fun e w' => e = .returned (.tuple #[.int .i64 (refFindL vs t.nm), .bool true]) ∧ Ext w w' := by
  have H1 := Lib.hid h1; have H2 := Lib.hid h2; have HP := Lib.hid hp
  have hmx : Tryz.prog.follows .mixedOrders = true := by kernel_rfl
  obtain ⟨Ad, nd, cd, rfl⟩ := hvd
  obtain ⟨Af, nf, cf, rfl⟩ := hvf
  obtain ⟨Av, cv, rfl, -, -⟩ := h1.form
  obtain ⟨Al, cl, rfl, -, -⟩ := h2.form
  obtain ⟨-, ⟨Aa, ca, rfl, -, -⟩, ⟨Bb, cb, rfl, -, -⟩⟩ := ht.form
  obtain ⟨Ap, cp, rfl, -, -⟩ := hp.form
  clear h1 h2 ht
  unfold tV
  rw [ho]
  clear ho
  have HE := Lib.hid (Ext.al3 w (.cells #[.slice Ad nd cd, .slice Af nf cf] 25) (.cells #[.slice Av vs.length cv, .slice Al ls.length cl] 85) (.cells #[.int .i64 0, .int .i64 t.n, .string t.nm, .int .i64 t.ty, .slice Aa t.args.length ca, .slice Bb t.cls.length cb] 41))
  obtain ⟨g1, g2, g3, g4⟩ := bx_three w (.cells #[.slice Ad nd cd, .slice Af nf cf] 25) (.cells #[.slice Av vs.length cv, .slice Al ls.length cl] 85) (.cells #[.int .i64 0, .int .i64 t.n, .string t.nm, .int .i64 t.ty, .slice Aa t.args.length ca, .slice Bb t.cls.length cb] 41)
  have HBP := Lib.hid g1; have HBS := Lib.hid g2; have HBT := Lib.hid g3; have HS1 := Lib.hid g4
  clear g1 g2 g3 g4
  clear hp
  go_enter Tryz.func75, Tryz.ntmps75
  obtain ⟨c0, c1, c2, c3, c4, c5⟩ := cells6 HBT.out
  have s0 := cellAt HBS.out 0
  go_wp2_with fail
  clear c0 c1 c2 c3 c4 c5 s0
  generalize World.alloc (World.alloc (World.alloc w _) _) _ = w1 at *
  (with_reducible refine (refFind_any _ vs t.nm _ (H1.out.below HE.out)).mono ?_)
  rintro e w3 ⟨rfl, hb⟩
  have HX := Lib.hid (HE.out.tr hb)
  clear hb
  go_wp2
  go_ret2
  exact ⟨rfl, HX.out⟩
set_option maxHeartbeats 4000000 in
set_option maxRecDepth 100000 in
theorem rr_int (vd vf vv vl vp : Value) (vs ls : List Prm) (k : Nat) (t : Tm) (xa xc : Value) (ps : List Int) (w : World) (hvd : ∃ A n c, vd = .slice A n c) (hvf : ∃ A n c, vf = .slice A n c) (h1 : RPrms w vv vs) (h2 : RPrms w vl ls) (ht : RT w k t xa xc) (hp : RInts w vp (ps)) (ho : t.op = 1) :
    Calls Tryz.prog 75 #[pV vd vf, .agg #[vv, vl], tV t xa xc, vp] w fun e w' => e = .returned (.tuple #[.int .i64 0, .bool true]) ∧ Ext w w' := by
  have H1 := Lib.hid h1; have H2 := Lib.hid h2; have HP := Lib.hid hp
  have hmx : Tryz.prog.follows .mixedOrders = true := by kernel_rfl
  obtain ⟨Ad, nd, cd, rfl⟩ := hvd
  obtain ⟨Af, nf, cf, rfl⟩ := hvf
  obtain ⟨Av, cv, rfl, -, -⟩ := h1.form
  obtain ⟨Al, cl, rfl, -, -⟩ := h2.form
  obtain ⟨-, ⟨Aa, ca, rfl, -, -⟩, ⟨Bb, cb, rfl, -, -⟩⟩ := ht.form
  obtain ⟨Ap, cp, rfl, -, -⟩ := hp.form
  clear h1 h2 ht
  unfold tV
  rw [ho]
  clear ho
  have HE := Lib.hid (Ext.al3 w (.cells #[.slice Ad nd cd, .slice Af nf cf] 25) (.cells #[.slice Av vs.length cv, .slice Al ls.length cl] 85) (.cells #[.int .i64 1, .int .i64 t.n, .string t.nm, .int .i64 t.ty, .slice Aa t.args.length ca, .slice Bb t.cls.length cb] 41))
  obtain ⟨g1, g2, g3, g4⟩ := bx_three w (.cells #[.slice Ad nd cd, .slice Af nf cf] 25) (.cells #[.slice Av vs.length cv, .slice Al ls.length cl] 85) (.cells #[.int .i64 1, .int .i64 t.n, .string t.nm, .int .i64 t.ty, .slice Aa t.args.length ca, .slice Bb t.cls.length cb] 41)
  have HBP := Lib.hid g1; have HBS := Lib.hid g2; have HBT := Lib.hid g3; have HS1 := Lib.hid g4
  clear g1 g2 g3 g4
  clear hp
  go_enter Tryz.func75, Tryz.ntmps75
  obtain ⟨c0, c1, c2, c3, c4, c5⟩ := cells6 HBT.out
  go_wp2
  go_ret2
  exact ⟨rfl, HE.out⟩
set_option maxHeartbeats 4000000 in
set_option maxRecDepth 100000 in
theorem rr_prim (vd vf vv vl vp : Value) (vs ls : List Prm) (k : Nat) (t : Tm) (xa xc : Value) (ps : List Int) (w : World) (hvd : ∃ A n c, vd = .slice A n c) (hvf : ∃ A n c, vf = .slice A n c) (h1 : RPrms w vv vs) (h2 : RPrms w vl ls) (ht : RT w k t xa xc) (hp : RInts w vp (ps)) (ho : t.op = 2) :
    Calls Tryz.prog 75 #[pV vd vf, .agg #[vv, vl], tV t xa xc, vp] w fun e w' => e = .returned (.tuple #[.int .i64 0, .bool (eqL ps [0, 0])]) ∧ Ext w w' := by
  have H1 := Lib.hid h1; have H2 := Lib.hid h2; have HP := Lib.hid hp
  have hmx : Tryz.prog.follows .mixedOrders = true := by kernel_rfl
  obtain ⟨Ad, nd, cd, rfl⟩ := hvd
  obtain ⟨Af, nf, cf, rfl⟩ := hvf
  obtain ⟨Av, cv, rfl, -, -⟩ := h1.form
  obtain ⟨Al, cl, rfl, -, -⟩ := h2.form
  obtain ⟨-, ⟨Aa, ca, rfl, -, -⟩, ⟨Bb, cb, rfl, -, -⟩⟩ := ht.form
  obtain ⟨Ap, cp, rfl, -, -⟩ := hp.form
  clear h1 h2 ht
  unfold tV
  rw [ho]
  clear ho
  have HE := Lib.hid (Ext.al3 w (.cells #[.slice Ad nd cd, .slice Af nf cf] 25) (.cells #[.slice Av vs.length cv, .slice Al ls.length cl] 85) (.cells #[.int .i64 2, .int .i64 t.n, .string t.nm, .int .i64 t.ty, .slice Aa t.args.length ca, .slice Bb t.cls.length cb] 41))
  obtain ⟨g1, g2, g3, g4⟩ := bx_three w (.cells #[.slice Ad nd cd, .slice Af nf cf] 25) (.cells #[.slice Av vs.length cv, .slice Al ls.length cl] 85) (.cells #[.int .i64 2, .int .i64 t.n, .string t.nm, .int .i64 t.ty, .slice Aa t.args.length ca, .slice Bb t.cls.length cb] 41)
  have HBP := Lib.hid g1; have HBS := Lib.hid g2; have HBT := Lib.hid g3; have HS1 := Lib.hid g4
  clear g1 g2 g3 g4
  clear hp
  go_enter Tryz.func75, Tryz.ntmps75
  obtain ⟨c0, c1, c2, c3, c4, c5⟩ := cells6 HBT.out
  go_wp2_with fail
  clear c0 c1 c2 c3 c4 c5
  generalize World.alloc (World.alloc (World.alloc w _) _) _ = w1 at *
  have HZ : Hid (RInts (w1.alloc (.cells #[.int .i64 0, .int .i64 0] 3)) (.slice (some ⟨w.heap.size + 1 + 1 + 1, 0, none⟩) 2 2) [0, 0]) := by
    have h0 := heapNew w1 (.cells #[.int .i64 0, .int .i64 0] 3)
    rw [HS1.out] at h0
    exact ⟨_, 2, rfl, Nat.le_refl _, by decide, fun i a hi => by
      match i, hi with
      | 0, hi => obtain rfl := Option.some.inj hi; exact ⟨_, 0, rfl, heap_lt h0, cellAt h0 0⟩
      | 1, hi => obtain rfl := Option.some.inj hi; exact ⟨_, 0, rfl, heap_lt h0, cellAt h0 1⟩⟩
  have HE2 := Lib.hid (HE.out.tr (Ext.al w1 (.cells #[.int .i64 0, .int .i64 0] 3)))
  (with_reducible refine (refAll_any _ _ ps [0, 0] _ (HP.out.below HE2.out) HZ.out).mono ?_)
  rintro e w3 ⟨rfl, hb⟩
  have HX := Lib.hid (HE2.out.tr hb)
  clear hb
  go_wp2
  go_ret2
  exact ⟨rfl, HX.out⟩
set_option maxHeartbeats 4000000 in
set_option maxRecDepth 100000 in
theorem rr_ifz (vd vf vv vl vp : Value) (vs ls : List Prm) (k : Nat) (t : Tm) (xa xc : Value) (p0 p1 p2 : Int) (l : List Int) (w : World) (hvd : ∃ A n c, vd = .slice A n c) (hvf : ∃ A n c, vf = .slice A n c) (h1 : RPrms w vv vs) (h2 : RPrms w vl ls) (ht : RT w k t xa xc) (hp : RInts w vp (p0 :: p1 :: p2 :: l)) (ho : t.op = 3) :
    Calls Tryz.prog 75 #[pV vd vf, .agg #[vv, vl], tV t xa xc, vp] w fun e w' => e = .returned (.tuple #[.int .i64 p1, .bool (decide (p0 = 0) && decide (p1 = p2))]) ∧ Ext w w' := by
  have H1 := Lib.hid h1; have H2 := Lib.hid h2; have HP := Lib.hid hp
  have hmx : Tryz.prog.follows .mixedOrders = true := by kernel_rfl
  obtain ⟨Ad, nd, cd, rfl⟩ := hvd
  obtain ⟨Af, nf, cf, rfl⟩ := hvf
  obtain ⟨Av, cv, rfl, -, -⟩ := h1.form
  obtain ⟨Al, cl, rfl, -, -⟩ := h2.form
  obtain ⟨-, ⟨Aa, ca, rfl, -, -⟩, ⟨Bb, cb, rfl, -, -⟩⟩ := ht.form
  obtain ⟨Ap, cp, rfl, -, -⟩ := hp.form
  clear h1 h2 ht
  unfold tV
  rw [ho]
  clear ho
  have HE := Lib.hid (Ext.al3 w (.cells #[.slice Ad nd cd, .slice Af nf cf] 25) (.cells #[.slice Av vs.length cv, .slice Al ls.length cl] 85) (.cells #[.int .i64 3, .int .i64 t.n, .string t.nm, .int .i64 t.ty, .slice Aa t.args.length ca, .slice Bb t.cls.length cb] 41))
  obtain ⟨g1, g2, g3, g4⟩ := bx_three w (.cells #[.slice Ad nd cd, .slice Af nf cf] 25) (.cells #[.slice Av vs.length cv, .slice Al ls.length cl] 85) (.cells #[.int .i64 3, .int .i64 t.n, .string t.nm, .int .i64 t.ty, .slice Aa t.args.length ca, .slice Bb t.cls.length cb] 41)
  have HBP := Lib.hid g1; have HBS := Lib.hid g2; have HBT := Lib.hid g3; have HS1 := Lib.hid g4
  clear g1 g2 g3 g4
  obtain ⟨b0, o0, e0, -, f0⟩ := hp.at_ (k := 0) (by simp)
  cases e0
  obtain ⟨b1, o1, e1, -, f1⟩ := hp.at_ (k := 1) (by simp)
  cases e1
  obtain ⟨b2, o2, e2, -, f2⟩ := hp.at_ (k := 2) (by simp)
  cases e2
  simp only [Nat.add_zero, List.getElem_cons_zero, List.getElem_cons_succ] at f0 f1 f2
  have HF0 := Lib.hid (HE.out.keep f0)
  have HF1 := Lib.hid (HE.out.keep f1)
  have HF2 := Lib.hid (HE.out.keep f2)
  clear f0 f1 f2
  have hl0 : 0 < (p0 :: p1 :: p2 :: l).length := by simp
  have hl1 : 1 < (p0 :: p1 :: p2 :: l).length := by simp
  have hl2 : 2 < (p0 :: p1 :: p2 :: l).length := by simp
  clear hp
  generalize (p0 :: p1 :: p2 :: l).length = np at *
  go_enter Tryz.func75, Tryz.ntmps75
  cases h0 : decide (p0 = 0)
  · have q0 : (p0 == 0) = false := by simpa using h0
    clear h0
    obtain ⟨c0, c1, c2, c3, c4, c5⟩ := cells6 HBT.out
    go_upto_region 9 with fail
    clear c0 c1 c2 c3 c4 c5
    generalize World.alloc (World.alloc (World.alloc w _) _) _ = w1 at *
    have d0 := ExtOf.cell HF0.out
    have d1 := ExtOf.cell HF1.out
    have d2 := ExtOf.cell HF2.out
    refine wp_region_ext (w0 := w1) hmx (by kernel_rfl) (Ext.rf _) ?_
    repeat (first | go_big_quiet_step (fail) | quiet_step (fail))
    refine wpQuiet_nil ?_
    rintro _ ⟨⟨w9, hx⟩, rfl⟩
    have HX9 := Lib.hid (HE.out.tr hx)
    clear hx
    go_wp2
    go_ret2
    exact ⟨rfl, HX9.out⟩
  · have q0 : (p0 == 0) = true := by simpa using h0
    clear h0
    cases h1 : decide (p1 = p2)
    · have q1 : (p1 == p2) = false := by simpa using h1
      clear h1
      obtain ⟨c0, c1, c2, c3, c4, c5⟩ := cells6 HBT.out
      go_upto_region 9 with fail
      clear c0 c1 c2 c3 c4 c5
      generalize World.alloc (World.alloc (World.alloc w _) _) _ = w1 at *
      have d0 := ExtOf.cell HF0.out
      have d1 := ExtOf.cell HF1.out
      have d2 := ExtOf.cell HF2.out
      refine wp_region_ext (w0 := w1) hmx (by kernel_rfl) (Ext.rf _) ?_
      repeat (first | go_big_quiet_step (fail) | quiet_step (fail))
      refine wpQuiet_nil ?_
      rintro _ ⟨⟨w9, hx⟩, rfl⟩
      have HX9 := Lib.hid (HE.out.tr hx)
      clear hx
      go_wp2
      go_ret2
      exact ⟨rfl, HX9.out⟩
    · have q1 : (p1 == p2) = true := by simpa using h1
      clear h1
      obtain ⟨c0, c1, c2, c3, c4, c5⟩ := cells6 HBT.out
      go_upto_region 9 with fail
      clear c0 c1 c2 c3 c4 c5
      generalize World.alloc (World.alloc (World.alloc w _) _) _ = w1 at *
      have d0 := ExtOf.cell HF0.out
      have d1 := ExtOf.cell HF1.out
      have d2 := ExtOf.cell HF2.out
      refine wp_region_ext (w0 := w1) hmx (by kernel_rfl) (Ext.rf _) ?_
      repeat (first | go_big_quiet_step (fail) | quiet_step (fail))
      refine wpQuiet_nil ?_
      rintro _ ⟨⟨w9, hx⟩, rfl⟩
      have HX9 := Lib.hid (HE.out.tr hx)
      clear hx
      go_wp2
      go_ret2
      exact ⟨rfl, HX9.out⟩
set_option maxHeartbeats 4000000 in
set_option maxRecDepth 100000 in
theorem rr_let (vd vf vv vl vp : Value) (vs ls : List Prm) (k : Nat) (t : Tm) (xa xc : Value) (p0 p1 : Int) (l : List Int) (w : World) (hvd : ∃ A n c, vd = .slice A n c) (hvf : ∃ A n c, vf = .slice A n c) (h1 : RPrms w vv vs) (h2 : RPrms w vl ls) (ht : RT w k t xa xc) (hp : RInts w vp (p0 :: p1 :: l)) (ho : t.op = 8) :
    Calls Tryz.prog 75 #[pV vd vf, .agg #[vv, vl], tV t xa xc, vp] w fun e w' => e = .returned (.tuple #[.int .i64 p1, .bool (decide (p0 = t.ty))]) ∧ Ext w w' := by
  have H1 := Lib.hid h1; have H2 := Lib.hid h2; have HP := Lib.hid hp
  have hmx : Tryz.prog.follows .mixedOrders = true := by kernel_rfl
  obtain ⟨Ad, nd, cd, rfl⟩ := hvd
  obtain ⟨Af, nf, cf, rfl⟩ := hvf
  obtain ⟨Av, cv, rfl, -, -⟩ := h1.form
  obtain ⟨Al, cl, rfl, -, -⟩ := h2.form
  obtain ⟨-, ⟨Aa, ca, rfl, -, -⟩, ⟨Bb, cb, rfl, -, -⟩⟩ := ht.form
  obtain ⟨Ap, cp, rfl, -, -⟩ := hp.form
  clear h1 h2 ht
  unfold tV
  rw [ho]
  clear ho
  have HE := Lib.hid (Ext.al3 w (.cells #[.slice Ad nd cd, .slice Af nf cf] 25) (.cells #[.slice Av vs.length cv, .slice Al ls.length cl] 85) (.cells #[.int .i64 8, .int .i64 t.n, .string t.nm, .int .i64 t.ty, .slice Aa t.args.length ca, .slice Bb t.cls.length cb] 41))
  obtain ⟨g1, g2, g3, g4⟩ := bx_three w (.cells #[.slice Ad nd cd, .slice Af nf cf] 25) (.cells #[.slice Av vs.length cv, .slice Al ls.length cl] 85) (.cells #[.int .i64 8, .int .i64 t.n, .string t.nm, .int .i64 t.ty, .slice Aa t.args.length ca, .slice Bb t.cls.length cb] 41)
  have HBP := Lib.hid g1; have HBS := Lib.hid g2; have HBT := Lib.hid g3; have HS1 := Lib.hid g4
  clear g1 g2 g3 g4
  obtain ⟨b0, o0, e0, -, f0⟩ := hp.at_ (k := 0) (by simp)
  cases e0
  obtain ⟨b1, o1, e1, -, f1⟩ := hp.at_ (k := 1) (by simp)
  cases e1
  simp only [Nat.add_zero, List.getElem_cons_zero, List.getElem_cons_succ] at f0 f1
  have HF0 := Lib.hid (HE.out.keep f0)
  have HF1 := Lib.hid (HE.out.keep f1)
  clear f0 f1
  have hl0 : 0 < (p0 :: p1 :: l).length := by simp
  have hl1 : 1 < (p0 :: p1 :: l).length := by simp
  clear hp
  generalize (p0 :: p1 :: l).length = np at *
  go_enter Tryz.func75, Tryz.ntmps75
  obtain ⟨c0, c1, c2, c3, c4, c5⟩ := cells6 HBT.out
  go_upto_region 32 with fail
  clear c0 c1 c2 c3 c4 c5
  generalize World.alloc (World.alloc (World.alloc w _) _) _ = w1 at *
  have d0 := ExtOf.cell HF0.out
  have d1 := ExtOf.cell HF1.out
  have t3 := ExtOf.cell (cellAt HBT.out 3)
  refine wp_region_ext (w0 := w1) hmx (by kernel_rfl) (Ext.rf _) ?_
  repeat (first | go_big_quiet_step (fail) | quiet_step (fail))
  refine wpQuiet_nil ?_
  rintro _ ⟨⟨w9, hx⟩, rfl⟩
  have HX9 := Lib.hid (HE.out.tr hx)
  clear hx
  go_wp2
  go_ret2
  exact ⟨rfl, HX9.out⟩
set_option maxHeartbeats 4000000 in
set_option maxRecDepth 100000 in
theorem rr_emit (vd vf vv vl vp : Value) (vs ls : List Prm) (k : Nat) (t : Tm) (xa xc : Value) (p0 p1 : Int) (l : List Int) (w : World) (hvd : ∃ A n c, vd = .slice A n c) (hvf : ∃ A n c, vf = .slice A n c) (h1 : RPrms w vv vs) (h2 : RPrms w vl ls) (ht : RT w k t xa xc) (hp : RInts w vp (p0 :: p1 :: l)) (ho : t.op = 10) :
    Calls Tryz.prog 75 #[pV vd vf, .agg #[vv, vl], tV t xa xc, vp] w fun e w' => e = .returned (.tuple #[.int .i64 p1, .bool (decide (p0 = 0))]) ∧ Ext w w' := by
  have H1 := Lib.hid h1; have H2 := Lib.hid h2; have HP := Lib.hid hp
  have hmx : Tryz.prog.follows .mixedOrders = true := by kernel_rfl
  obtain ⟨Ad, nd, cd, rfl⟩ := hvd
  obtain ⟨Af, nf, cf, rfl⟩ := hvf
  obtain ⟨Av, cv, rfl, -, -⟩ := h1.form
  obtain ⟨Al, cl, rfl, -, -⟩ := h2.form
  obtain ⟨-, ⟨Aa, ca, rfl, -, -⟩, ⟨Bb, cb, rfl, -, -⟩⟩ := ht.form
  obtain ⟨Ap, cp, rfl, -, -⟩ := hp.form
  clear h1 h2 ht
  unfold tV
  rw [ho]
  clear ho
  have HE := Lib.hid (Ext.al3 w (.cells #[.slice Ad nd cd, .slice Af nf cf] 25) (.cells #[.slice Av vs.length cv, .slice Al ls.length cl] 85) (.cells #[.int .i64 10, .int .i64 t.n, .string t.nm, .int .i64 t.ty, .slice Aa t.args.length ca, .slice Bb t.cls.length cb] 41))
  obtain ⟨g1, g2, g3, g4⟩ := bx_three w (.cells #[.slice Ad nd cd, .slice Af nf cf] 25) (.cells #[.slice Av vs.length cv, .slice Al ls.length cl] 85) (.cells #[.int .i64 10, .int .i64 t.n, .string t.nm, .int .i64 t.ty, .slice Aa t.args.length ca, .slice Bb t.cls.length cb] 41)
  have HBP := Lib.hid g1; have HBS := Lib.hid g2; have HBT := Lib.hid g3; have HS1 := Lib.hid g4
  clear g1 g2 g3 g4
  obtain ⟨b0, o0, e0, -, f0⟩ := hp.at_ (k := 0) (by simp)
  cases e0
  obtain ⟨b1, o1, e1, -, f1⟩ := hp.at_ (k := 1) (by simp)
  cases e1
  simp only [Nat.add_zero, List.getElem_cons_zero, List.getElem_cons_succ] at f0 f1
  have HF0 := Lib.hid (HE.out.keep f0)
  have HF1 := Lib.hid (HE.out.keep f1)
  clear f0 f1
  have hl0 : 0 < (p0 :: p1 :: l).length := by simp
  have hl1 : 1 < (p0 :: p1 :: l).length := by simp
  clear hp
  generalize (p0 :: p1 :: l).length = np at *
  go_enter Tryz.func75, Tryz.ntmps75
  obtain ⟨c0, c1, c2, c3, c4, c5⟩ := cells6 HBT.out
  go_upto_region 43 with fail
  clear c0 c1 c2 c3 c4 c5
  generalize World.alloc (World.alloc (World.alloc w _) _) _ = w1 at *
  have d0 := ExtOf.cell HF0.out
  have d1 := ExtOf.cell HF1.out
  refine wp_region_ext (w0 := w1) hmx (by kernel_rfl) (Ext.rf _) ?_
  repeat (first | go_big_quiet_step (fail) | quiet_step (fail))
  refine wpQuiet_nil ?_
  rintro _ ⟨⟨w9, hx⟩, rfl⟩
  have HX9 := Lib.hid (HE.out.tr hx)
  clear hx
  go_wp2
  go_ret2
  exact ⟨rfl, HX9.out⟩
set_option maxHeartbeats 4000000 in
set_option maxRecDepth 100000 in
theorem rr_label (vd vf vv vl vp : Value) (vs ls : List Prm) (k : Nat) (t : Tm) (xa xc : Value) (p0 : Int) (l : List Int) (w : World) (hvd : ∃ A n c, vd = .slice A n c) (hvf : ∃ A n c, vf = .slice A n c) (h1 : RPrms w vv vs) (h2 : RPrms w vl ls) (ht : RT w k t xa xc) (hp : RInts w vp (p0 :: l)) (ho : t.op = 11) :
    Calls Tryz.prog 75 #[pV vd vf, .agg #[vv, vl], tV t xa xc, vp] w fun e w' => e = .returned (.tuple #[.int .i64 t.ty, .bool (decide (p0 = t.ty))]) ∧ Ext w w' := by
  have H1 := Lib.hid h1; have H2 := Lib.hid h2; have HP := Lib.hid hp
  have hmx : Tryz.prog.follows .mixedOrders = true := by kernel_rfl
  obtain ⟨Ad, nd, cd, rfl⟩ := hvd
  obtain ⟨Af, nf, cf, rfl⟩ := hvf
  obtain ⟨Av, cv, rfl, -, -⟩ := h1.form
  obtain ⟨Al, cl, rfl, -, -⟩ := h2.form
  obtain ⟨-, ⟨Aa, ca, rfl, -, -⟩, ⟨Bb, cb, rfl, -, -⟩⟩ := ht.form
  obtain ⟨Ap, cp, rfl, -, -⟩ := hp.form
  clear h1 h2 ht
  unfold tV
  rw [ho]
  clear ho
  have HE := Lib.hid (Ext.al3 w (.cells #[.slice Ad nd cd, .slice Af nf cf] 25) (.cells #[.slice Av vs.length cv, .slice Al ls.length cl] 85) (.cells #[.int .i64 11, .int .i64 t.n, .string t.nm, .int .i64 t.ty, .slice Aa t.args.length ca, .slice Bb t.cls.length cb] 41))
  obtain ⟨g1, g2, g3, g4⟩ := bx_three w (.cells #[.slice Ad nd cd, .slice Af nf cf] 25) (.cells #[.slice Av vs.length cv, .slice Al ls.length cl] 85) (.cells #[.int .i64 11, .int .i64 t.n, .string t.nm, .int .i64 t.ty, .slice Aa t.args.length ca, .slice Bb t.cls.length cb] 41)
  have HBP := Lib.hid g1; have HBS := Lib.hid g2; have HBT := Lib.hid g3; have HS1 := Lib.hid g4
  clear g1 g2 g3 g4
  obtain ⟨b0, o0, e0, -, f0⟩ := hp.at_ (k := 0) (by simp)
  cases e0
  simp only [Nat.add_zero, List.getElem_cons_zero, List.getElem_cons_succ] at f0
  have HF0 := Lib.hid (HE.out.keep f0)
  clear f0
  have hl0 : 0 < (p0 :: l).length := by simp
  clear hp
  generalize (p0 :: l).length = np at *
  go_enter Tryz.func75, Tryz.ntmps75
  obtain ⟨c0, c1, c2, c3, c4, c5⟩ := cells6 HBT.out
  go_upto_region 45 with fail
  clear c0 c1 c2 c3 c4 c5
  generalize World.alloc (World.alloc (World.alloc w _) _) _ = w1 at *
  have d0 := ExtOf.cell HF0.out
  have t3 := ExtOf.cell (cellAt HBT.out 3)
  refine wp_region_ext (w0 := w1) hmx (by kernel_rfl) (Ext.rf _) ?_
  repeat (first | go_big_quiet_step (fail) | quiet_step (fail))
  refine wpQuiet_nil ?_
  rintro _ ⟨⟨w9, hx⟩, rfl⟩
  have HX9 := Lib.hid (HE.out.tr hx)
  clear hx
  go_wp2
  go_ret2
  exact ⟨rfl, HX9.out⟩
set_option maxHeartbeats 4000000 in
set_option maxRecDepth 100000 in
theorem rr_jump (vd vf vv vl vp : Value) (vs ls : List Prm) (k : Nat) (t : Tm) (xa xc : Value) (p0 : Int) (l : List Int) (w : World) (hvd : ∃ A n c, vd = .slice A n c) (hvf : ∃ A n c, vf = .slice A n c) (h1 : RPrms w vv vs) (h2 : RPrms w vl ls) (ht : RT w k t xa xc) (hp : RInts w vp (p0 :: l)) (ho : t.op = 12) :
    Calls Tryz.prog 75 #[pV vd vf, .agg #[vv, vl], tV t xa xc, vp] w fun e w' => e = .returned (.tuple #[.int .i64 t.ty, .bool (decide (p0 = refFindL ls t.nm))]) ∧ Ext w w' := by
  have H1 := Lib.hid h1; have H2 := Lib.hid h2; have HP := Lib.hid hp
  have hmx : Tryz.prog.follows .mixedOrders = true := by kernel_rfl
  obtain ⟨Ad, nd, cd, rfl⟩ := hvd
  obtain ⟨Af, nf, cf, rfl⟩ := hvf
  obtain ⟨Av, cv, rfl, -, -⟩ := h1.form
  obtain ⟨Al, cl, rfl, -, -⟩ := h2.form
  obtain ⟨-, ⟨Aa, ca, rfl, -, -⟩, ⟨Bb, cb, rfl, -, -⟩⟩ := ht.form
  obtain ⟨Ap, cp, rfl, -, -⟩ := hp.form
  clear h1 h2 ht
  unfold tV
  rw [ho]
  clear ho
  have HE := Lib.hid (Ext.al3 w (.cells #[.slice Ad nd cd, .slice Af nf cf] 25) (.cells #[.slice Av vs.length cv, .slice Al ls.length cl] 85) (.cells #[.int .i64 12, .int .i64 t.n, .string t.nm, .int .i64 t.ty, .slice Aa t.args.length ca, .slice Bb t.cls.length cb] 41))
  obtain ⟨g1, g2, g3, g4⟩ := bx_three w (.cells #[.slice Ad nd cd, .slice Af nf cf] 25) (.cells #[.slice Av vs.length cv, .slice Al ls.length cl] 85) (.cells #[.int .i64 12, .int .i64 t.n, .string t.nm, .int .i64 t.ty, .slice Aa t.args.length ca, .slice Bb t.cls.length cb] 41)
  have HBP := Lib.hid g1; have HBS := Lib.hid g2; have HBT := Lib.hid g3; have HS1 := Lib.hid g4
  clear g1 g2 g3 g4
  obtain ⟨b0, o0, e0, -, f0⟩ := hp.at_ (k := 0) (by simp)
  cases e0
  simp only [Nat.add_zero, List.getElem_cons_zero, List.getElem_cons_succ] at f0
  have HF0 := Lib.hid (HE.out.keep f0)
  clear f0
  have hl0 : 0 < (p0 :: l).length := by simp
  clear hp
  generalize (p0 :: l).length = np at *
  go_enter Tryz.func75, Tryz.ntmps75
  obtain ⟨c0, c1, c2, c3, c4, c5⟩ := cells6 HBT.out
  go_upto_region 46 with fail
  clear c0 c1 c2 c3 c4 c5
  generalize World.alloc (World.alloc (World.alloc w _) _) _ = w1 at *
  have d0 := ExtOf.cell HF0.out
  have t3 := ExtOf.cell (cellAt HBT.out 3)
  have t2 := ExtOf.cell (cellAt HBT.out 2)
  have s1 := ExtOf.cell (cellAt HBS.out 1)
  refine wp_region_ext (w0 := w1) hmx (by kernel_rfl) (Ext.rf _) ?_
  repeat (first | go_big_quiet_step ((go_at_call 102; with_reducible exact Calls.ext_of (refFind_any _ ls t.nm _ ((H2.out.below HE.out).below (ExtOf.ext _))))) | quiet_step ((go_at_call 102; with_reducible exact Calls.ext_of (refFind_any _ ls t.nm _ ((H2.out.below HE.out).below (ExtOf.ext _))))))
  refine wpQuiet_nil ?_
  rintro _ ⟨⟨w9, hx⟩, rfl⟩
  have HX9 := Lib.hid (HE.out.tr hx)
  clear hx
  go_wp2
  go_ret2
  exact ⟨rfl, HX9.out⟩
end Go.Proofs.YtogmjgccopmplaaGreat

/- The reference of layer 4: rule, case. -/
namespace Go.Proofs.YtogmjgccopmplaaGreat
open Go.RowKit
set_option maxHeartbeats 4000000 in
set_option maxRecDepth 100000 in
theorem rr_case (vd vf vv vl vp : Value) (vs ls : List Prm) (k : Nat) (t : Tm) (xa xc : Value) (p0 p1 : Int) (l : List Int) (w : World) (hvd : ∃ A n c, vd = .slice A n c) (hvf : ∃ A n c, vf = .slice A n c) (h1 : RPrms w vv vs) (h2 : RPrms w vl ls) (ht : RT w k t xa xc) (hp : RInts w vp (p0 :: p1 :: l)) (ho : t.op = 5) :
    Calls Tryz.prog 75 #[pV vd vf, .agg #[vv, vl], tV t xa xc, vp] w fun e w' => e = .returned (.tuple #[.int .i64 (if l.all (fun y => decide (y = p1)) = true then p1 else 0), .bool (l.all (fun y => decide (y = p1)) && decide (p0 = t.ty))]) ∧ Ext w w' := by
  have H1 := Lib.hid h1; have H2 := Lib.hid h2; have HP := Lib.hid hp
  have hmx : Tryz.prog.follows .mixedOrders = true := by kernel_rfl
  obtain ⟨Ad, nd, cd, rfl⟩ := hvd
  obtain ⟨Af, nf, cf, rfl⟩ := hvf
  obtain ⟨Av, cv, rfl, -, -⟩ := h1.form
  obtain ⟨Al, cl, rfl, -, -⟩ := h2.form
  obtain ⟨-, ⟨Aa, ca, rfl, -, -⟩, ⟨Bb, cb, rfl, -, -⟩⟩ := ht.form
  obtain ⟨Ap, cp, rfl, hpc, hpm⟩ := hp.form
  clear h1 h2 ht
  unfold tV
  rw [ho]
  clear ho
  have HE := Lib.hid (Ext.al3 w (.cells #[.slice Ad nd cd, .slice Af nf cf] 25) (.cells #[.slice Av vs.length cv, .slice Al ls.length cl] 85) (.cells #[.int .i64 5, .int .i64 t.n, .string t.nm, .int .i64 t.ty, .slice Aa t.args.length ca, .slice Bb t.cls.length cb] 41))
  obtain ⟨g1, g2, g3, g4⟩ := bx_three w (.cells #[.slice Ad nd cd, .slice Af nf cf] 25) (.cells #[.slice Av vs.length cv, .slice Al ls.length cl] 85) (.cells #[.int .i64 5, .int .i64 t.n, .string t.nm, .int .i64 t.ty, .slice Aa t.args.length ca, .slice Bb t.cls.length cb] 41)
  have HBP := Lib.hid g1; have HBS := Lib.hid g2; have HBT := Lib.hid g3; have HS1 := Lib.hid g4
  clear g1 g2 g3 g4
  obtain ⟨bp, op, rfl, -, f0⟩ := hp.at_ (k := 0) (by simp)
  obtain ⟨bq1, oq1, e1, -, f1⟩ := hp.at_ (k := 1) (by simp)
  cases e1
  simp only [Nat.add_zero, List.getElem_cons_zero, List.getElem_cons_succ] at f0 f1
  have HF0 := Lib.hid (HE.out.keep f0)
  have HF1 := Lib.hid (HE.out.keep f1)
  have HFW0 := Lib.hid f0
  have HFW1 := Lib.hid f1
  obtain ⟨L, hL⟩ : ∃ L, p1 :: l = L := ⟨_, rfl⟩
  have hLl : L.length = l.length + 1 := by rw [← hL]; rfl
  have hLL : (p0 :: p1 :: l).length = L.length + 1 := by rw [← hL]; rfl
  have HLE : Hid (∀ j y, L[j]? = some y → w.cell? ⟨bp, op + (j + 1), none⟩ = some (.int .i64 y)) := fun j y hj => by
    obtain ⟨A', c', he, -, -, h3⟩ := hp
    cases he
    obtain ⟨b, o, e, _, hc⟩ := h3 (j + 1) y (by rw [← hL] at hj; simpa using hj)
    cases e
    exact hc
  have HALL : Hid (L.all (fun y => decide (y = p1)) = l.all (fun y => decide (y = p1))) := by show _ = _; rw [← hL]; simp
  have hLp : 0 < L.length := by omega
  clear hp f0 f1 hL hLl
  unfold maxLen at hpm
  generalize (p0 :: p1 :: l).length = np at *
  subst hLL
  obtain ⟨ra, hra⟩ : ∃ ra, l.all (fun y => decide (y = p1)) = ra := ⟨_, rfl⟩
  have HRA : Hid (L.all (fun y => decide (y = p1)) = ra) := HALL.out.trans hra
  rw [hra]
  clear hra HALL
  obtain ⟨yv, hyv⟩ : ∃ yv : Int, (if ra = true then p1 else 0) = yv := ⟨_, rfl⟩
  have HY := Lib.hid hyv
  rw [hyv]
  clear hyv
  obtain ⟨rb, hrb⟩ : ∃ rb : Bool, (ra && decide (p0 = t.ty)) = rb := ⟨_, rfl⟩
  have HRB := Lib.hid hrb
  rw [hrb]
  clear hrb
  go_enter Tryz.func75, Tryz.ntmps75
  have hcap : ¬ cp - 1 = 0 := by omega
  obtain ⟨c0, c1, c2, c3, c4, c5⟩ := cells6 HBT.out
  go_wp2
  clear c0 c1 c2 c3 c4 c5
  generalize World.alloc (World.alloc (World.alloc w _) _) _ = w1 at *
  go_loopw [76] (fun i wr => ∃ j : Nat, j ≤ L.length ∧ i = .int .i64 j ∧ ra = (L.drop j).all (fun y => decide (y = p1)) ∧ Ext w1 wr) (fun i _ => L.length - (intOf i).toNat)
  case atStart => exact ⟨0, Nat.zero_le _, rfl, HRA.out.symm, Ext.rf _⟩
  case round =>
    obtain ⟨j, hj, rfl, hr, hb⟩ := hrel
    have HR := Lib.hid hr; have HX3 := Lib.hid hb; have HX := Lib.hid (HE.out.tr hb)
    clear hr hb
    by_cases hlt : j < L.length
    · have c2 := HX.out.keep (HLE.out j _ (List.getElem?_eq_getElem hlt))
      have c1 := HX.out.keep HFW1.out
      have HD := Lib.hid (drop_step hlt)
      generalize L[j] = x at *
      rw [show op + (j + 1) = op + 1 + j by omega] at c2
      cases hq : decide (x = p1)
      · have hq' : (x != p1) = true := by simpa using hq
        have HQ := Lib.hid hq
        clear hq
        go_wp2
        go_ret2
        have hrf : ra = false := by rw [HR.out, HD.out, all_cons, HQ.out]; rfl
        exact ⟨by rw [← HY.out, ← HRB.out, hrf]; rfl, HX.out⟩
      · have hq' : (x != p1) = false := by simpa using hq
        have HQ := Lib.hid hq
        clear hq
        go_wp2
        exact ⟨⟨j + 1, by omega, by go_num, by rw [HR.out, HD.out, all_cons, HQ.out]; rfl, HX3.out⟩, by simp [intOf]; omega⟩
    · have HR1 : Hid (ra = true) := by show ra = true; rw [HR.out, drop_end hlt]; rfl
      generalize wr = wl at *
      go_upto_region 19 with fail
      have d0 := ExtOf.cell (HX.out.keep HFW0.out)
      have d1 := ExtOf.cell (HX.out.keep HFW1.out)
      have n3 := ExtOf.cell (HX3.out.keep (cellAt HBT.out 3))
      have hl0 : 0 < L.length + 1 := by omega
      have hl1 : 1 < L.length + 1 := by omega
      refine wp_region_ext (w0 := wl) hmx (by kernel_rfl) (Ext.rf _) ?_
      repeat (first | go_big_quiet_step (fail) | quiet_step (fail))
      refine wpQuiet_nil ?_
      rintro _ ⟨⟨w9, hx⟩, rfl⟩
      have HX9 := Lib.hid (HX.out.tr hx)
      clear hx
      go_wp2
      go_ret2
      exact ⟨by rw [← HY.out, ← HRB.out, HR1.out]; rfl, HX9.out⟩
end Go.Proofs.YtogmjgccopmplaaGreat
