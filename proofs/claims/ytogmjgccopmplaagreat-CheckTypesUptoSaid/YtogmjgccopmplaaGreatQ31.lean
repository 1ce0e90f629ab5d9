/- The reference of layer 4: rule, constructors. -/
import Derived.Test.YtogmjgccopmplaaGreatQ30
namespace Go.Proofs.YtogmjgccopmplaaGreat
open Go.RowKit
def FXI (vals : Nat → Value) (m : Nat) (l : List Int) (W : World) (j : Nat) (v : Value) : Prop := (j ≠ m → v = vals j) ∧ (j = m → RInts W v l)
theorem FXI.ext {vals : Nat → Value} {m : Nat} {l : List Int} (W W' : World) (j : Nat) (v : Value) (h : FXI vals m l W j v) (hb : Ext W W') : FXI vals m l W' j v := ⟨h.1, fun e => (h.2 e).below hb⟩
set_option maxHeartbeats 8000000 in
set_option maxRecDepth 100000 in
theorem rr_con (P : Pg) (vd vf vv vl vp : Value) (vs ls : List Prm) (k : Nat) (t : Tm) (xa xc : Value) (ps : List Int) (w : World) (u m : Nat) (d : Decl) (x : Xtor) (hd : RDecls w vd P.decls) (hvf : ∃ A n c, vf = .slice A n c) (h1 : RPrms w vv vs) (h2 : RPrms w vl ls) (ht : RT w k t xa xc) (hp : RInts w vp ps) (ho : t.op = 4) (hty : t.ty = (u : Int) + 1) (hn : t.n = (m : Int)) (hdu : P.decls[u]? = some d) (hxm : d.xtors[m]? = some x) (hxa : x.args.length ≤ 1000) :
    Calls Tryz.prog 75 #[pV vd vf, .agg #[vv, vl], tV t xa xc, vp] w fun e w' => e = .returned (.tuple #[.int .i64 ((u : Int) + 1), .bool (eqL ps (prodA x.args))]) ∧ Ext w w' := by
  have HD := Lib.hid hd; have H1 := Lib.hid h1; have H2 := Lib.hid h2; have HP := Lib.hid hp
  have hmx : Tryz.prog.follows .mixedOrders = true := by kernel_rfl
  obtain ⟨Ad, cd, rfl, hcd, hmd⟩ := hd.form
  obtain ⟨Af, nf, cf, rfl⟩ := hvf
  obtain ⟨Av, cv, rfl, -, -⟩ := h1.form
  obtain ⟨Al, cl, rfl, -, -⟩ := h2.form
  obtain ⟨-, ⟨Aa, ca, rfl, -, -⟩, ⟨Bb, cb, rfl, -, -⟩⟩ := ht.form
  obtain ⟨Ap, cp, rfl, -, -⟩ := hp.form
  clear h1 h2 ht hp hd
  unfold maxLen at hmd
  have hul : u < P.decls.length := (List.getElem?_eq_some_iff.1 hdu).1
  have hml : m < d.xtors.length := (List.getElem?_eq_some_iff.1 hxm).1
  obtain ⟨b, o, vx, rfl, hbl, -, -, y2, y3, -⟩ := HD.out.at_ hul
  rw [(List.getElem?_eq_some_iff.1 hdu).2] at y3
  obtain ⟨A2, c2, rfl, hc2, hm2⟩ := y3.form
  unfold maxLen at hm2
  obtain ⟨b2, o2, va, rfl, hbl2, z0, z1, z2, -⟩ := y3.at_ hml
  rw [(List.getElem?_eq_some_iff.1 hxm).2] at z0 z2
  obtain ⟨A3, c3, rfl, hc3, hm3⟩ := z2.form
  unfold tV
  rw [ho, hty, hn]
  clear ho hty hn y3
  have HE := Lib.hid (Ext.al3 w (.cells #[.slice (some ⟨b, o, none⟩) P.decls.length cd, .slice Af nf cf] 25) (.cells #[.slice Av vs.length cv, .slice Al ls.length cl] 85) (.cells #[.int .i64 4, .int .i64 (m : Int), .string t.nm, .int .i64 ((u : Int) + 1), .slice Aa t.args.length ca, .slice Bb t.cls.length cb] 41))
  obtain ⟨g1, g2, g3, g4⟩ := bx_three w (.cells #[.slice (some ⟨b, o, none⟩) P.decls.length cd, .slice Af nf cf] 25) (.cells #[.slice Av vs.length cv, .slice Al ls.length cl] 85) (.cells #[.int .i64 4, .int .i64 (m : Int), .string t.nm, .int .i64 ((u : Int) + 1), .slice Aa t.args.length ca, .slice Bb t.cls.length cb] 41)
  have HBP := Lib.hid g1; have HBS := Lib.hid g2; have HBT := Lib.hid g3; have HS1 := Lib.hid g4
  have HY2 := Lib.hid (HE.out.keep y2); have HZ0 := Lib.hid (HE.out.keep z0); have HZ1 := Lib.hid (HE.out.keep z1); have HZ2 := Lib.hid (z2.below HE.out)
  clear g1 g2 g3 g4 y2 z0 z1 z2
  go_enter Tryz.func75, Tryz.ntmps75
  obtain ⟨c0, c1, c2, c3, c4, c5⟩ := cells6 HBT.out
  go_upto_region 11 with fail
  clear c0 c1 c2 c3 c4 c5
  generalize World.alloc (World.alloc (World.alloc w _) _) _ = w1 at *
  have hw1 : IntKind.wrap .i64 (u : Int) = (u : Int) := IntWalk.i64_in _ (by omega)
  have HW1 := Lib.hid hw1; have HXA := Lib.hid hxa
  clear hw1 hxa
  obtain ⟨vals, hvals⟩ : ∃ vals : Nat → Value, vals = fun j => if j = 0 then .pointer (some ⟨w.heap.size + 1 + 1, 3, none⟩) else if j = 1 then .int .i64 ((u : Int) + 1) else if j = 2 then .slice Ap ps.length cp else if j = 3 then .pointer (some ⟨w.heap.size, 0, none⟩) else if j = 4 then .slice (some ⟨b, o, none⟩) P.decls.length cd else if j = 5 then .pointer (some ⟨w.heap.size + 1 + 1, 3, none⟩) else if j = 6 then .int .i64 ((u : Int) + 1) else if j = 7 then .int .i64 (u : Int) else if j = 8 then .pointer (some ⟨b, o + u * 3, none⟩) else if j = 9 then .pointer (some ⟨b, o + u * 3 + 2, none⟩) else if j = 10 then .slice (some ⟨b2, o2, none⟩) d.xtors.length c2 else if j = 11 then .pointer (some ⟨w.heap.size + 1 + 1, 1, none⟩) else if j = 12 then .int .i64 (m : Int) else if j = 13 then .pointer (some ⟨b2, o2 + m * 2, none⟩) else if j = 14 then .agg #[.string x.name, .slice A3 x.args.length c3] else if j = 16 then .bool (eqL ps (prodA x.args)) else if j = 17 then .int .i64 ((u : Int) + 1) else if j = 18 then .bool (eqL ps (prodA x.args)) else undef := ⟨_, rfl⟩
  have HV0 : Hid (vals 0 = .pointer (some ⟨w.heap.size + 1 + 1, 3, none⟩)) := by show _ = _; rw [hvals]; rfl
  have HV1 : Hid (vals 1 = .int .i64 ((u : Int) + 1)) := by show _ = _; rw [hvals]; rfl
  have HV2 : Hid (vals 2 = .slice Ap ps.length cp) := by show _ = _; rw [hvals]; rfl
  have HV3 : Hid (vals 3 = .pointer (some ⟨w.heap.size, 0, none⟩)) := by show _ = _; rw [hvals]; rfl
  have HV4 : Hid (vals 4 = .slice (some ⟨b, o, none⟩) P.decls.length cd) := by show _ = _; rw [hvals]; rfl
  have HV5 : Hid (vals 5 = .pointer (some ⟨w.heap.size + 1 + 1, 3, none⟩)) := by show _ = _; rw [hvals]; rfl
  have HV6 : Hid (vals 6 = .int .i64 ((u : Int) + 1)) := by show _ = _; rw [hvals]; rfl
  have HV7 : Hid (vals 7 = .int .i64 (u : Int)) := by show _ = _; rw [hvals]; rfl
  have HV8 : Hid (vals 8 = .pointer (some ⟨b, o + u * 3, none⟩)) := by show _ = _; rw [hvals]; rfl
  have HV9 : Hid (vals 9 = .pointer (some ⟨b, o + u * 3 + 2, none⟩)) := by show _ = _; rw [hvals]; rfl
  have HV10 : Hid (vals 10 = .slice (some ⟨b2, o2, none⟩) d.xtors.length c2) := by show _ = _; rw [hvals]; rfl
  have HV11 : Hid (vals 11 = .pointer (some ⟨w.heap.size + 1 + 1, 1, none⟩)) := by show _ = _; rw [hvals]; rfl
  have HV12 : Hid (vals 12 = .int .i64 (m : Int)) := by show _ = _; rw [hvals]; rfl
  have HV13 : Hid (vals 13 = .pointer (some ⟨b2, o2 + m * 2, none⟩)) := by show _ = _; rw [hvals]; rfl
  have HV14 : Hid (vals 14 = .agg #[.string x.name, .slice A3 x.args.length c3]) := by show _ = _; rw [hvals]; rfl
  have HV16 : Hid (vals 16 = .bool (eqL ps (prodA x.args))) := by show _ = _; rw [hvals]; rfl
  have HV17 : Hid (vals 17 = .int .i64 ((u : Int) + 1)) := by show _ = _; rw [hvals]; rfl
  have HV18 : Hid (vals 18 = .bool (eqL ps (prodA x.args))) := by show _ = _; rw [hvals]; rfl
  clear hvals
  refine wp_region_invCE hmx (by kernel_rfl) (fun Ls a W => ∃ vv : Nat → Value, a = { tmps := #[pV (.slice (some ⟨b, o, none⟩) P.decls.length cd) (.slice Af nf cf), .agg #[.slice Av vs.length cv, .slice Al ls.length cl], .agg #[.int .i64 4, .int .i64 (m : Int), .string t.nm, .int .i64 ((u : Int) + 1), .slice Aa t.args.length ca, .slice Bb t.cls.length cb], .slice Ap ps.length cp, .pointer (some ⟨w.heap.size, 0, none⟩), .pointer (some ⟨w.heap.size + 1, 0, none⟩), .pointer (some ⟨w.heap.size + 1 + 1, 0, none⟩), undef, vv 17, vv 18, undef, undef, undef, undef, undef, undef, undef, undef, .pointer (some ⟨w.heap.size + 1 + 1, 0, none⟩), .int .i64 4, .bool false, .bool false, undef, undef, undef, undef, undef, .bool false, .bool false, .bool false, .bool false, undef, undef, undef, .bool false, .bool false, undef, undef, undef, undef, undef, undef, undef, undef, undef, undef, undef, undef, undef, undef, undef, undef, .bool true, .bool true, vv 0, vv 1, vv 2, vv 3, vv 4, vv 5, vv 6, vv 7, vv 8, vv 9, vv 10, vv 11, vv 12, vv 13, vv 14, vv 15, vv 16, undef, undef, undef, undef, undef, undef, undef, undef, undef, undef, undef, undef, undef, undef, undef, undef, undef, undef, undef, undef, undef, undef, undef, undef, undef, undef, undef, undef, undef, undef, undef, undef, undef, undef, undef, undef, undef, undef, undef, undef, undef, undef, undef, undef, undef, undef, undef, undef, undef, undef, undef, undef, undef, undef, undef, undef, undef, undef, undef, undef, undef, undef, undef, undef, undef, undef, undef, undef, undef, undef, undef, undef, undef, undef, undef, undef, undef, undef, undef, undef, undef, undef, undef, undef, undef, undef, undef, undef, undef, undef, undef, undef, undef, undef, undef, undef, undef, undef, undef, undef, undef, undef, undef, undef, undef, undef, undef, undef, undef, undef, undef, undef, undef, undef, undef, undef, undef, undef, undef, undef, undef, undef, undef, undef, undef, undef, undef, undef, undef, undef, undef, undef, undef, undef, undef, undef, undef, undef, undef, undef, undef, undef, undef, undef, undef, undef, undef, undef, undef, undef, undef, undef, undef, undef, undef], defers := [] } ∧ PhA w1 (FXI vals 15 (prodA x.args)) 19 Ls W vv) ?_ ?_ ?_
  · exact ⟨fun k => if k = 17 then .int .i64 0 else if k = 18 then .bool false else undef, rfl, PhA.zero _ _ _ _⟩
  · intro Ls a W i op ho hpre hl hc hI Kk HKk
    have hi : i < 19 := (Array.getElem?_eq_some_iff.1 ho).1
    obtain ⟨vv, rfl, hI⟩ := hI
    have HPA := Lib.hid hI
    have hcs : i = 0 ∨ i = 1 ∨ i = 2 ∨ i = 3 ∨ i = 4 ∨ i = 5 ∨ i = 6 ∨ i = 7 ∨ i = 8 ∨ i = 9 ∨ i = 10 ∨ i = 11 ∨ i = 12 ∨ i = 13 ∨ i = 14 ∨ i = 15 ∨ i = 16 ∨ i = 17 ∨ i = 18 := by omega
    rcases hcs with rfl | rfl | rfl | rfl | rfl | rfl | rfl | rfl | rfl | rfl | rfl | rfl | rfl | rfl | rfl | rfl | rfl | rfl | rfl
    all_goals
      obtain rfl := Option.some.inj ho
      clear ho hi hI hc
    · clear hpre
      go_simp
      exact HKk.out _ _ ⟨_, rfl, HPA.out.put (v := .pointer (some ⟨w.heap.size + 1 + 1, 3, none⟩)) FXI.ext (by decide) (Ext.rf _) ⟨fun _ => HV0.out.symm, fun h => absurd h (by decide)⟩⟩
    · simp [Region.binds] at hpre
      have e0 : vv 0 = _ := (HPA.out.facts 0 (by decide) (by simp [hpre])).1 (by decide)
      rw [HV0.out] at e0
      have g1 := HPA.out.ext.keep (cellAt HBT.out 3)
      go_simp
      exact HKk.out _ _ ⟨_, by simp [e0], HPA.out.put (v := .int .i64 ((u : Int) + 1)) FXI.ext (by decide) (Ext.rf _) ⟨fun _ => HV1.out.symm, fun h => absurd h (by decide)⟩⟩
    · clear hpre
      go_simp
      exact HKk.out _ _ ⟨_, rfl, HPA.out.put (v := .slice Ap ps.length cp) FXI.ext (by decide) (Ext.rf _) ⟨fun _ => HV2.out.symm, fun h => absurd h (by decide)⟩⟩
    · clear hpre
      go_simp
      exact HKk.out _ _ ⟨_, rfl, HPA.out.put (v := .pointer (some ⟨w.heap.size, 0, none⟩)) FXI.ext (by decide) (Ext.rf _) ⟨fun _ => HV3.out.symm, fun h => absurd h (by decide)⟩⟩
    · simp [Region.binds] at hpre
      have e3 : vv 3 = _ := (HPA.out.facts 3 (by decide) (by simp [hpre])).1 (by decide)
      rw [HV3.out] at e3
      have g1 := HPA.out.ext.keep (cellAt HBP.out 0)
      go_simp
      exact HKk.out _ _ ⟨_, by simp [e3], HPA.out.put (v := .slice (some ⟨b, o, none⟩) P.decls.length cd) FXI.ext (by decide) (Ext.rf _) ⟨fun _ => HV4.out.symm, fun h => absurd h (by decide)⟩⟩
    · clear hpre
      go_simp
      exact HKk.out _ _ ⟨_, rfl, HPA.out.put (v := .pointer (some ⟨w.heap.size + 1 + 1, 3, none⟩)) FXI.ext (by decide) (Ext.rf _) ⟨fun _ => HV5.out.symm, fun h => absurd h (by decide)⟩⟩
    · simp [Region.binds] at hpre
      have e5 : vv 5 = _ := (HPA.out.facts 5 (by decide) (by simp [hpre])).1 (by decide)
      rw [HV5.out] at e5
      have g1 := HPA.out.ext.keep (cellAt HBT.out 3)
      go_simp
      exact HKk.out _ _ ⟨_, by simp [e5], HPA.out.put (v := .int .i64 ((u : Int) + 1)) FXI.ext (by decide) (Ext.rf _) ⟨fun _ => HV6.out.symm, fun h => absurd h (by decide)⟩⟩
    · simp [Region.binds] at hpre
      have e6 : vv 6 = _ := (HPA.out.facts 6 (by decide) (by simp [hpre])).1 (by decide)
      rw [HV6.out] at e6
      have hw1 := HW1.out
      go_simp
      exact HKk.out _ _ ⟨_, by simp [e6], HPA.out.put (v := .int .i64 (u : Int)) FXI.ext (by decide) (Ext.rf _) ⟨fun _ => HV7.out.symm, fun h => absurd h (by decide)⟩⟩
    · simp [Region.binds] at hpre
      have e4 : vv 4 = _ := (HPA.out.facts 4 (by decide) (by simp [hpre])).1 (by decide)
      rw [HV4.out] at e4
      have e7 : vv 7 = _ := (HPA.out.facts 7 (by decide) (by simp [hpre])).1 (by decide)
      rw [HV7.out] at e7
      go_simp
      exact HKk.out _ _ ⟨_, by simp [e4, e7, Act.put], HPA.out.put (v := .pointer (some ⟨b, o + u * 3, none⟩)) FXI.ext (by decide) (Ext.rf _) ⟨fun _ => HV8.out.symm, fun h => absurd h (by decide)⟩⟩
    · simp [Region.binds] at hpre
      have e8 : vv 8 = _ := (HPA.out.facts 8 (by decide) (by simp [hpre])).1 (by decide)
      rw [HV8.out] at e8
      go_simp
      exact HKk.out _ _ ⟨_, by simp [e8], HPA.out.put (v := .pointer (some ⟨b, o + u * 3 + 2, none⟩)) FXI.ext (by decide) (Ext.rf _) ⟨fun _ => HV9.out.symm, fun h => absurd h (by decide)⟩⟩
    · simp [Region.binds] at hpre
      have e9 : vv 9 = _ := (HPA.out.facts 9 (by decide) (by simp [hpre])).1 (by decide)
      rw [HV9.out] at e9
      have g1 := HPA.out.ext.keep HY2.out
      go_simp
      exact HKk.out _ _ ⟨_, by simp [e9], HPA.out.put (v := .slice (some ⟨b2, o2, none⟩) d.xtors.length c2) FXI.ext (by decide) (Ext.rf _) ⟨fun _ => HV10.out.symm, fun h => absurd h (by decide)⟩⟩
    · clear hpre
      go_simp
      exact HKk.out _ _ ⟨_, rfl, HPA.out.put (v := .pointer (some ⟨w.heap.size + 1 + 1, 1, none⟩)) FXI.ext (by decide) (Ext.rf _) ⟨fun _ => HV11.out.symm, fun h => absurd h (by decide)⟩⟩
    · simp [Region.binds] at hpre
      have e11 : vv 11 = _ := (HPA.out.facts 11 (by decide) (by simp [hpre])).1 (by decide)
      rw [HV11.out] at e11
      have g1 := HPA.out.ext.keep (cellAt HBT.out 1)
      go_simp
      exact HKk.out _ _ ⟨_, by simp [e11], HPA.out.put (v := .int .i64 (m : Int)) FXI.ext (by decide) (Ext.rf _) ⟨fun _ => HV12.out.symm, fun h => absurd h (by decide)⟩⟩
    · simp [Region.binds] at hpre
      have e10 : vv 10 = _ := (HPA.out.facts 10 (by decide) (by simp [hpre])).1 (by decide)
      rw [HV10.out] at e10
      have e12 : vv 12 = _ := (HPA.out.facts 12 (by decide) (by simp [hpre])).1 (by decide)
      rw [HV12.out] at e12
      go_simp
      exact HKk.out _ _ ⟨_, by simp [e10, e12, Act.put], HPA.out.put (v := .pointer (some ⟨b2, o2 + m * 2, none⟩)) FXI.ext (by decide) (Ext.rf _) ⟨fun _ => HV13.out.symm, fun h => absurd h (by decide)⟩⟩
    · simp [Region.binds] at hpre
      have e13 : vv 13 = _ := (HPA.out.facts 13 (by decide) (by simp [hpre])).1 (by decide)
      rw [HV13.out] at e13
      have g1 := HPA.out.ext.keep HZ0.out
      have g2 := HPA.out.ext.keep HZ1.out
      go_simp
      exact HKk.out _ _ ⟨_, by simp [e13], HPA.out.put (v := .agg #[.string x.name, .slice A3 x.args.length c3]) FXI.ext (by decide) (Ext.rf _) ⟨fun _ => HV14.out.symm, fun h => absurd h (by decide)⟩⟩
    · simp [Region.binds] at hpre
      have e14 : vv 14 = _ := (HPA.out.facts 14 (by decide) (by simp [hpre])).1 (by decide)
      rw [HV14.out] at e14
      go_simp
      (refine (ref_prods_any x.name _ x.args W (HZ2.out.below HPA.out.ext) HXA.out).mono ?_)
      rintro e W' ⟨⟨vq, rfl, ho⟩, hb⟩
      exact HKk.out _ _ ⟨_, by simp [e14], HPA.out.put (v := vq) FXI.ext (by decide) hb ⟨fun h => absurd h (by decide), fun _ => own_ints ho⟩⟩
    · simp [Region.binds] at hpre
      have e2 : vv 2 = _ := (HPA.out.facts 2 (by decide) (by simp [hpre])).1 (by decide)
      rw [HV2.out] at e2
      have r15 := (HPA.out.facts 15 (by decide) (by simp [hpre])).2 rfl
      go_simp
      (refine (refAll_any _ _ ps (prodA x.args) W (HP.out.below (HE.out.tr HPA.out.ext)) r15).mono ?_)
      rintro e W' ⟨rfl, hb⟩
      exact HKk.out _ _ ⟨_, by simp [e2], HPA.out.put (v := .bool (eqL ps (prodA x.args))) FXI.ext (by decide) hb ⟨fun _ => HV16.out.symm, fun h => absurd h (by decide)⟩⟩
    · simp [Region.binds] at hpre
      have e1 : vv 1 = _ := (HPA.out.facts 1 (by decide) (by simp [hpre])).1 (by decide)
      rw [HV1.out] at e1
      go_simp
      exact HKk.out _ _ ⟨_, by simp [e1], HPA.out.put (v := .int .i64 ((u : Int) + 1)) FXI.ext (by decide) (Ext.rf _) ⟨fun _ => HV17.out.symm, fun h => absurd h (by decide)⟩⟩
    · simp [Region.binds] at hpre
      have e16 : vv 16 = _ := (HPA.out.facts 16 (by decide) (by simp [hpre])).1 (by decide)
      rw [HV16.out] at e16
      go_simp
      exact HKk.out _ _ ⟨_, by simp [e16], HPA.out.put (v := .bool (eqL ps (prodA x.args))) FXI.ext (by decide) (Ext.rf _) ⟨fun _ => HV18.out.symm, fun h => absurd h (by decide)⟩⟩
  · intro Ls a W hall hI
    obtain ⟨vv, rfl, hI⟩ := hI
    have e17 : vv 17 = _ := (hI.facts 17 (by decide) (hall 17 (by decide))).1 (by decide)
    have e18 : vv 18 = _ := (hI.facts 18 (by decide) (hall 18 (by decide))).1 (by decide)
    rw [HV17.out] at e17
    rw [HV18.out] at e18
    have HXW := Lib.hid (HE.out.tr hI.ext)
    clear hI hall
    generalize vv 0 = x0 at *
    generalize vv 1 = x1 at *
    generalize vv 2 = x2 at *
    generalize vv 3 = x3 at *
    generalize vv 4 = x4 at *
    generalize vv 5 = x5 at *
    generalize vv 6 = x6 at *
    generalize vv 7 = x7 at *
    generalize vv 8 = x8 at *
    generalize vv 9 = x9 at *
    generalize vv 10 = x10 at *
    generalize vv 11 = x11 at *
    generalize vv 12 = x12 at *
    generalize vv 13 = x13 at *
    generalize vv 14 = x14 at *
    generalize vv 15 = x15 at *
    generalize vv 16 = x16 at *
    generalize vv 17 = x17 at *
    generalize vv 18 = x18 at *
    subst e17 e18
    go_wp2
    go_ret2
    exact ⟨rfl, HXW.out⟩
end Go.Proofs.YtogmjgccopmplaaGreat
