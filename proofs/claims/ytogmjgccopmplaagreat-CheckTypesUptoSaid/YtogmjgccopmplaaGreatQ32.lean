/- The reference of layer 4: rule, destructors. -/
import Derived.Test.YtogmjgccopmplaaGreatQ31
namespace Go.Proofs.YtogmjgccopmplaaGreat
open Go.RowKit
structure PhX (w0 : World) (F : World → Nat → Value → Prop) (L : Nat → Bool) (W : World) (vv : Nat → Value) : Prop where
  ext : Ext w0 W
  facts : ∀ j, L j = true → F W j (vv j)
section
variable {w0 W W' : World} {F : World → Nat → Value → Prop} {i : Nat} {L : Nat → Bool} {vv : Nat → Value} {v : Value}
theorem PhX.zero (F : World → Nat → Value → Prop) (vv : Nat → Value) (w : World) : PhX w F (fun _ => false) w.drew vv := ⟨(Ext.rf _).drew, (fun j h => by cases h)⟩
theorem PhX.put (hF : ∀ W W' j v, F W j v → Ext W W' → F W' j v) (h : PhX w0 F L W vv) (hb : Ext W W') (hv : F W' i v) : PhX w0 F (fun j => decide (j = i) || L j) W' (fun j => if j = i then v else vv j) := by
  refine ⟨h.ext.tr hb, fun j hl => ?_⟩
  by_cases hji : j = i
  · subst hji; simpa using hv
  · have h2 : (decide (j = i) || L j) = true := hl
    rw [decide_eq_false hji, Bool.false_or] at h2
    simp only [if_neg hji]
    exact hF _ _ _ _ (h.facts j h2) hb
end
def FDA (vals : Nat → Value) (B : Nat) (l : List Int) (y : Int) (W : World) (j : Nat) (v : Value) : Prop :=
  (j ≠ 11 ∧ j ≠ 14 ∧ j ≠ 15 → v = vals j) ∧ (j = 11 → ∃ A c, v = .slice A l.length c ∧ OwnL W B (.slice A l.length c) l) ∧ (j = 14 → ∃ q, v = .slice (some ⟨q, 0, none⟩) 1 1 ∧ W.heap[q]? = some (.cells #[.int .i64 y] 3 (0, 0)))
theorem FDA.ext {vals : Nat → Value} {B : Nat} {l : List Int} {y : Int} (W W' : World) (j : Nat) (v : Value) (h : FDA vals B l y W j v) (hb : Ext W W') : FDA vals B l y W' j v :=
  ⟨h.1, fun e => (h.2.1 e).elim fun A ⟨c, a, o⟩ => ⟨A, c, a, own_below o hb⟩, fun e => (h.2.2 e).elim fun q ⟨a, hq⟩ => ⟨q, a, (hb.block _ (heap_lt hq)).trans hq⟩⟩
def FDB (vals : Nat → Value) (l : List Int) (W : World) (j : Nat) (v : Value) : Prop := (j ≠ 11 ∧ j ≠ 14 ∧ j ≠ 15 → v = vals j) ∧ (j = 15 → RInts W v l)
theorem FDB.ext {vals : Nat → Value} {l : List Int} (W W' : World) (j : Nat) (v : Value) (h : FDB vals l W j v) (hb : Ext W W') : FDB vals l W' j v := ⟨h.1, fun e => (h.2 e).below hb⟩
theorem src_one {w : World} {q : Nat} {y : Int} (h : w.heap[q]? = some (.cells #[.int .i64 y] 3 (0, 0))) : SrcN w (some ⟨q, 0, none⟩) 1 1 [.int .i64 y] :=
  .inr ⟨_, rfl, rfl, fun j u hu => by
    have hj : j < 1 := (List.getElem?_eq_some_iff.1 hu).1
    rw [add_at, Nat.zero_add]
    match j, hj with
    | 0, _ => exact (cellAt h 0).trans hu⟩
theorem lastT_at {x : Xtor} {n : Nat} (h : x.args.length = n + 1) : (x.args[n]'(by omega)).ty = lastT x := by
  rw [lastT_eq, lastTy_eq (by omega)]
  congr 2
  omega
set_option maxHeartbeats 8000000 in
set_option maxRecDepth 100000 in
theorem rr_dtor (P : Pg) (vd vf vv vl vp : Value) (vs ls : List Prm) (k : Nat) (t : Tm) (xa xc : Value) (ps : List Int) (w : World) (u m : Nat) (d : Decl) (x : Xtor) (hd : RDecls w vd P.decls) (hvf : ∃ A n c, vf = .slice A n c) (h1 : RPrms w vv vs) (h2 : RPrms w vl ls) (ht : RT w k t xa xc) (hp : RInts w vp ps) (ho : t.op = 6) (hty : t.ty = (u : Int) + 1) (hn : t.n = (m : Int)) (hdu : P.decls[u]? = some d) (hxm : d.xtors[m]? = some x) (hxa : x.args.length ≤ 1000) (nx : Nat) (hnx : x.args.length = nx + 1) :
    Calls Tryz.prog 75 #[pV vd vf, .agg #[vv, vl], tV t xa xc, vp] w fun e w' => e = .returned (.tuple #[.int .i64 (lastT x), .bool (eqL ps (prodA x.args ++ [(u : Int) + 1]))]) ∧ Ext w w' := by
  have HD := Lib.hid hd; have H1 := Lib.hid h1; have H2 := Lib.hid h2; have HP := Lib.hid hp
  have hmx : Tryz.prog.follows .mixedOrders = true := by kernel_rfl
  obtain ⟨Ad, cd, rfl, hcd, hmd⟩ := hd.form
  obtain ⟨Af, nf, cf, rfl⟩ := hvf
  obtain ⟨Av, cv, rfl, -, -⟩ := h1.form
  obtain ⟨Al, cl, rfl, -, -⟩ := h2.form
  obtain ⟨-, ⟨Aa, ca, rfl, -, -⟩, ⟨Bb, cb, rfl, -, -⟩⟩ := ht.form
  obtain ⟨Ap, cp, rfl, -, -⟩ := hp.form
  clear h1 h2 ht hp hd
  unfold maxLen at hmd
  have hul : u < P.decls.length := (List.getElem?_eq_some_iff.1 hdu).1
  have hml : m < d.xtors.length := (List.getElem?_eq_some_iff.1 hxm).1
  obtain ⟨b, o, vx, rfl, hbl, -, -, y2, y3, -⟩ := HD.out.at_ hul
  rw [(List.getElem?_eq_some_iff.1 hdu).2] at y3
  obtain ⟨A2, c2, rfl, hc2, hm2⟩ := y3.form
  unfold maxLen at hm2
  obtain ⟨b2, o2, va, rfl, hbl2, z0, z1, z2, -⟩ := y3.at_ hml
  rw [(List.getElem?_eq_some_iff.1 hxm).2] at z0 z2
  obtain ⟨A3, c3, rfl, hc3, hm3⟩ := z2.form
  unfold tV
  rw [ho, hty, hn]
  clear ho hty hn y3
  have HE := Lib.hid (Ext.al3 w (.cells #[.slice (some ⟨b, o, none⟩) P.decls.length cd, .slice Af nf cf] 25) (.cells #[.slice Av vs.length cv, .slice Al ls.length cl] 85) (.cells #[.int .i64 6, .int .i64 (m : Int), .string t.nm, .int .i64 ((u : Int) + 1), .slice Aa t.args.length ca, .slice Bb t.cls.length cb] 41))
  obtain ⟨g1, g2, g3, g4⟩ := bx_three w (.cells #[.slice (some ⟨b, o, none⟩) P.decls.length cd, .slice Af nf cf] 25) (.cells #[.slice Av vs.length cv, .slice Al ls.length cl] 85) (.cells #[.int .i64 6, .int .i64 (m : Int), .string t.nm, .int .i64 ((u : Int) + 1), .slice Aa t.args.length ca, .slice Bb t.cls.length cb] 41)
  have HBP := Lib.hid g1; have HBS := Lib.hid g2; have HBT := Lib.hid g3; have HS1 := Lib.hid g4
  have HY2 := Lib.hid (HE.out.keep y2); have HZ0 := Lib.hid (HE.out.keep z0); have HZ1 := Lib.hid (HE.out.keep z1); have HZ2 := Lib.hid (z2.below HE.out)
  clear g1 g2 g3 g4 y2 z0 z1 z2
  have HLT := Lib.hid (lastT_at hnx)
  obtain ⟨b3, o3, rfl, -, q0, -⟩ := HZ2.out.at_ (k := nx) (by omega)
  rw [HLT.out] at q0
  have HQ0 := Lib.hid q0
  have HNX := Lib.hid hnx
  clear q0 HLT hnx
  go_enter Tryz.func75, Tryz.ntmps75
  obtain ⟨c0, c1, c2, c3, c4, c5⟩ := cells6 HBT.out
  go_upto_region 21 with fail
  clear c0 c1 c2 c3 c4 c5
  generalize World.alloc (World.alloc (World.alloc w _) _) _ = w1 at *
  have hw1 : IntKind.wrap .i64 (u : Int) = (u : Int) := IntWalk.i64_in _ (by omega)
  have k1 := cellAt HBT.out 1
  have k3 := cellAt HBT.out 3
  have k0 := cellAt HBP.out 0
  have k2 := HY2.out
  have k4 := HZ0.out
  have k5 := HZ1.out
  have HEZ := Lib.hid (Ext.al w1 (.cells #[.string ⟨#[]⟩, .slice none 0 0] 67))
  have HBZ := Lib.hid (heapNew w1 (.cells #[.string ⟨#[]⟩, .slice none 0 0] 67))
  have l0 := HEZ.out.keep k0
  have l1 := HEZ.out.keep k1
  have l2 := HEZ.out.keep k2
  have l3 := HEZ.out.keep k3
  have l4 := HEZ.out.keep k4
  have l5 := HEZ.out.keep k5
  have n0 := cellAt HBZ.out 0
  have n1 := cellAt HBZ.out 1
  have f0 := frozenAt HBZ.out 0
  have f1 := frozenAt HBZ.out 1
  go_region
  clear k0 k1 k2 k3 k4 k5 l0 l1 l2 l3 l4 l5 n0 n1 f0 f1 HEZ HBZ
  have HX2 : Hid (Ext w1 (w1.alloc (.cells #[.string x.name, .slice (some ⟨b3, o3, none⟩) x.args.length c3] 67)).drew) := (Ext.al w1 (.cells #[.string x.name, .slice (some ⟨b3, o3, none⟩) x.args.length c3] 67)).drew
  have HBX : Hid ((w1.alloc (.cells #[.string x.name, .slice (some ⟨b3, o3, none⟩) x.args.length c3] 67)).drew.heap[w1.heap.size]? = some (.cells #[.string x.name, .slice (some ⟨b3, o3, none⟩) x.args.length c3] 67 (0, 0))) := heapNew w1 (.cells #[.string x.name, .slice (some ⟨b3, o3, none⟩) x.args.length c3] 67)
  generalize World.drew (World.alloc w1 _) = w2 at *
  have HPLN : Hid ((prodA x.args).length ≤ 1000) := by
    have := prodA_le x.args x.args.length
    rw [List.take_length] at this
    show _ ≤ _; omega
  have HXA := Lib.hid hxa
  have hw2 : IntKind.wrap .i64 ((x.args.length : Int) - 1) = (nx : Int) := by have hnx := HNX.out; rw [show (x.args.length : Int) - 1 = nx by omega]; exact IntWalk.i64_in _ (by omega)
  have hnx2 : nx < x.args.length := by have hnx := HNX.out; omega
  have HW2 := Lib.hid hw2
  have HWE := Lib.hid (HE.out.tr HX2.out)
  clear hw1 hw2 hxa
  go_upto_region 22 with fail
  obtain ⟨vals, hvals⟩ : ∃ vals : Nat → Value, vals = fun j => if j = 0 then .pointer (some ⟨w1.heap.size, 1, none⟩) else if j = 1 then .slice (some ⟨b3, o3, none⟩) x.args.length c3 else if j = 2 then .pointer (some ⟨w1.heap.size, 1, none⟩) else if j = 3 then .slice (some ⟨b3, o3, none⟩) x.args.length c3 else if j = 4 then .int .i64 (x.args.length : Int) else if j = 5 then .int .i64 (nx : Int) else if j = 6 then .pointer (some ⟨b3, o3 + nx * 2, none⟩) else if j = 7 then .pointer (some ⟨b3, o3 + nx * 2, none⟩) else if j = 8 then .int .i64 (lastT x) else if j = 9 then .slice Ap ps.length cp else if j = 10 then .agg #[.string x.name, .slice (some ⟨b3, o3, none⟩) x.args.length c3] else if j = 12 then .pointer (some ⟨w.heap.size + 1 + 1, 3, none⟩) else if j = 13 then .int .i64 ((u : Int) + 1) else if j = 16 then .bool (eqL ps (prodA x.args ++ [(u : Int) + 1])) else if j = 17 then .int .i64 (lastT x) else if j = 18 then .bool (eqL ps (prodA x.args ++ [(u : Int) + 1])) else undef := ⟨_, rfl⟩
  have HV0 : Hid (vals 0 = .pointer (some ⟨w1.heap.size, 1, none⟩)) := by show _ = _; rw [hvals]; rfl
  have HV1 : Hid (vals 1 = .slice (some ⟨b3, o3, none⟩) x.args.length c3) := by show _ = _; rw [hvals]; rfl
  have HV2 : Hid (vals 2 = .pointer (some ⟨w1.heap.size, 1, none⟩)) := by show _ = _; rw [hvals]; rfl
  have HV3 : Hid (vals 3 = .slice (some ⟨b3, o3, none⟩) x.args.length c3) := by show _ = _; rw [hvals]; rfl
  have HV4 : Hid (vals 4 = .int .i64 (x.args.length : Int)) := by show _ = _; rw [hvals]; rfl
  have HV5 : Hid (vals 5 = .int .i64 (nx : Int)) := by show _ = _; rw [hvals]; rfl
  have HV6 : Hid (vals 6 = .pointer (some ⟨b3, o3 + nx * 2, none⟩)) := by show _ = _; rw [hvals]; rfl
  have HV7 : Hid (vals 7 = .pointer (some ⟨b3, o3 + nx * 2, none⟩)) := by show _ = _; rw [hvals]; rfl
  have HV8 : Hid (vals 8 = .int .i64 (lastT x)) := by show _ = _; rw [hvals]; rfl
  have HV9 : Hid (vals 9 = .slice Ap ps.length cp) := by show _ = _; rw [hvals]; rfl
  have HV10 : Hid (vals 10 = .agg #[.string x.name, .slice (some ⟨b3, o3, none⟩) x.args.length c3]) := by show _ = _; rw [hvals]; rfl
  have HV12 : Hid (vals 12 = .pointer (some ⟨w.heap.size + 1 + 1, 3, none⟩)) := by show _ = _; rw [hvals]; rfl
  have HV13 : Hid (vals 13 = .int .i64 ((u : Int) + 1)) := by show _ = _; rw [hvals]; rfl
  have HV16 : Hid (vals 16 = .bool (eqL ps (prodA x.args ++ [(u : Int) + 1]))) := by show _ = _; rw [hvals]; rfl
  have HV17 : Hid (vals 17 = .int .i64 (lastT x)) := by show _ = _; rw [hvals]; rfl
  have HV18 : Hid (vals 18 = .bool (eqL ps (prodA x.args ++ [(u : Int) + 1]))) := by show _ = _; rw [hvals]; rfl
  clear hvals
  refine wp_region_invCE hmx (by kernel_rfl) (fun Ls a W => ∃ vv : Nat → Value, a = { tmps := #[pV (.slice (some ⟨b, o, none⟩) P.decls.length cd) (.slice Af nf cf), .agg #[.slice Av vs.length cv, .slice Al ls.length cl], .agg #[.int .i64 6, .int .i64 (m : Int), .string t.nm, .int .i64 ((u : Int) + 1), .slice Aa t.args.length ca, .slice Bb t.cls.length cb], .slice Ap ps.length cp, .pointer (some ⟨w.heap.size, 0, none⟩), .pointer (some ⟨w.heap.size + 1, 0, none⟩), .pointer (some ⟨w.heap.size + 1 + 1, 0, none⟩), undef, vv 17, vv 18, undef, undef, .pointer (some ⟨w1.heap.size, 0, none⟩), undef, undef, undef, undef, undef, .pointer (some ⟨w.heap.size + 1 + 1, 0, none⟩), .int .i64 6, .bool false, .bool false, undef, undef, undef, undef, undef, .bool false, .bool false, .bool false, .bool false, undef, undef, undef, .bool false, .bool false, undef, undef, undef, undef, undef, undef, undef, undef, undef, undef, undef, undef, undef, undef, undef, undef, .bool false, .bool false, undef, undef, undef, undef, undef, undef, undef, undef, undef, undef, undef, undef, undef, undef, undef, undef, undef, .bool false, .bool false, undef, undef, undef, undef, undef, undef, undef, undef, undef, undef, undef, undef, undef, undef, undef, undef, undef, undef, undef, undef, undef, undef, .bool true, .bool true, .pointer (some ⟨w.heap.size, 0, none⟩), .slice (some ⟨b, o, none⟩) P.decls.length cd, .pointer (some ⟨w.heap.size + 1 + 1, 3, none⟩), .int .i64 ((u : Int) + 1), .int .i64 (u : Int), .pointer (some ⟨b, o + u * 3, none⟩), .pointer (some ⟨b, o + u * 3 + 2, none⟩), .slice (some ⟨b2, o2, none⟩) d.xtors.length c2, .pointer (some ⟨w.heap.size + 1 + 1, 1, none⟩), .int .i64 (m : Int), .pointer (some ⟨b2, o2 + m * 2, none⟩), .agg #[.string x.name, .slice (some ⟨b3, o3, none⟩) x.args.length c3], vv 0, vv 1, vv 2, vv 3, vv 4, vv 5, vv 6, vv 7, vv 8, vv 9, vv 10, vv 11, vv 12, vv 13, vv 14, vv 15, vv 16, undef, undef, undef, undef, undef, undef, undef, undef, undef, undef, undef, undef, undef, undef, undef, undef, undef, undef, undef, undef, undef, undef, undef, undef, undef, undef, undef, undef, undef, undef, undef, undef, undef, undef, undef, undef, undef, undef, undef, undef, undef, undef, undef, undef, undef, undef, undef, undef, undef, undef, undef, undef, undef, undef, undef, undef, undef, undef, undef, undef, undef, undef, undef, undef, undef, undef, undef, undef, undef, undef, undef, undef, undef, undef, undef, undef, undef, undef, undef, undef, undef, undef, undef, undef, undef, undef, undef, undef, undef, undef, undef, undef, undef, undef, undef, undef, undef, undef, undef, undef], defers := [] } ∧ ((PhX w2 (FDA vals w2.heap.size (prodA x.args) ((u : Int) + 1)) Ls W vv ∧ Ls 15 = false) ∨ (PhX w2 (FDB vals (prodA x.args ++ [(u : Int) + 1])) Ls W vv ∧ ∀ i, 10 ≤ i ∧ i ≤ 15 → Ls i = true))) ?_ ?_ ?_
  · exact ⟨fun k => if k = 17 then .int .i64 0 else if k = 18 then .bool false else undef, rfl, .inl ⟨PhX.zero _ _ _, rfl⟩⟩
  · intro Ls a W i op ho hpre hl hc hI Kk HKk
    have hi : i < 19 := (Array.getElem?_eq_some_iff.1 ho).1
    obtain ⟨vv, rfl, hI | hI⟩ := hI
    · have HPA := Lib.hid hI.1
      have HNO := Lib.hid hI.2
      have hcs : i = 0 ∨ i = 1 ∨ i = 2 ∨ i = 3 ∨ i = 4 ∨ i = 5 ∨ i = 6 ∨ i = 7 ∨ i = 8 ∨ i = 9 ∨ i = 10 ∨ i = 11 ∨ i = 12 ∨ i = 13 ∨ i = 14 ∨ i = 15 ∨ i = 16 ∨ i = 17 ∨ i = 18 := by omega
      rcases hcs with rfl | rfl | rfl | rfl | rfl | rfl | rfl | rfl | rfl | rfl | rfl | rfl | rfl | rfl | rfl | rfl | rfl | rfl | rfl
      all_goals
        obtain rfl := Option.some.inj ho
        clear ho hi hI
      · clear hpre
        go_simp
        exact HKk.out _ _ ⟨_, rfl, .inl ⟨HPA.out.put (v := .pointer (some ⟨w1.heap.size, 1, none⟩)) FDA.ext (Ext.rf _) ⟨fun _ => HV0.out.symm, fun h => absurd h (by decide), fun h => absurd h (by decide)⟩, by simp [HNO.out]⟩⟩
      · simp [Region.binds] at hpre
        have e0 : vv 0 = _ := (HPA.out.facts 0 (by simp [hpre])).1 (by decide)
        rw [HV0.out] at e0
        have g1 := HPA.out.ext.keep (cellAt HBX.out 1)
        go_simp
        exact HKk.out _ _ ⟨_, by simp [e0], .inl ⟨HPA.out.put (v := .slice (some ⟨b3, o3, none⟩) x.args.length c3) FDA.ext (Ext.rf _) ⟨fun _ => HV1.out.symm, fun h => absurd h (by decide), fun h => absurd h (by decide)⟩, by simp [HNO.out]⟩⟩
      · clear hpre
        go_simp
        exact HKk.out _ _ ⟨_, rfl, .inl ⟨HPA.out.put (v := .pointer (some ⟨w1.heap.size, 1, none⟩)) FDA.ext (Ext.rf _) ⟨fun _ => HV2.out.symm, fun h => absurd h (by decide), fun h => absurd h (by decide)⟩, by simp [HNO.out]⟩⟩
      · simp [Region.binds] at hpre
        have e2 : vv 2 = _ := (HPA.out.facts 2 (by simp [hpre])).1 (by decide)
        rw [HV2.out] at e2
        have g1 := HPA.out.ext.keep (cellAt HBX.out 1)
        go_simp
        exact HKk.out _ _ ⟨_, by simp [e2], .inl ⟨HPA.out.put (v := .slice (some ⟨b3, o3, none⟩) x.args.length c3) FDA.ext (Ext.rf _) ⟨fun _ => HV3.out.symm, fun h => absurd h (by decide), fun h => absurd h (by decide)⟩, by simp [HNO.out]⟩⟩
      · simp [Region.binds] at hpre
        have e3 : vv 3 = _ := (HPA.out.facts 3 (by simp [hpre])).1 (by decide)
        rw [HV3.out] at e3
        go_simp
        exact HKk.out _ _ ⟨_, by simp [e3], .inl ⟨HPA.out.put (v := .int .i64 (x.args.length : Int)) FDA.ext (Ext.rf _) ⟨fun _ => HV4.out.symm, fun h => absurd h (by decide), fun h => absurd h (by decide)⟩, by simp [HNO.out]⟩⟩
      · simp [Region.binds] at hpre
        have e4 : vv 4 = _ := (HPA.out.facts 4 (by simp [hpre])).1 (by decide)
        rw [HV4.out] at e4
        have hw2 := HW2.out
        go_simp
        exact HKk.out _ _ ⟨_, by simp [e4], .inl ⟨HPA.out.put (v := .int .i64 (nx : Int)) FDA.ext (Ext.rf _) ⟨fun _ => HV5.out.symm, fun h => absurd h (by decide), fun h => absurd h (by decide)⟩, by simp [HNO.out]⟩⟩
      · simp [Region.binds] at hpre
        have e1 : vv 1 = _ := (HPA.out.facts 1 (by simp [hpre])).1 (by decide)
        rw [HV1.out] at e1
        have e5 : vv 5 = _ := (HPA.out.facts 5 (by simp [hpre])).1 (by decide)
        rw [HV5.out] at e5
        go_simp
        exact HKk.out _ _ ⟨_, by simp [e1, e5, Act.put], .inl ⟨HPA.out.put (v := .pointer (some ⟨b3, o3 + nx * 2, none⟩)) FDA.ext (Ext.rf _) ⟨fun _ => HV6.out.symm, fun h => absurd h (by decide), fun h => absurd h (by decide)⟩, by simp [HNO.out]⟩⟩
      · simp [Region.binds] at hpre
        have e6 : vv 6 = _ := (HPA.out.facts 6 (by simp [hpre])).1 (by decide)
        rw [HV6.out] at e6
        go_simp
        exact HKk.out _ _ ⟨_, by simp [e6], .inl ⟨HPA.out.put (v := .pointer (some ⟨b3, o3 + nx * 2, none⟩)) FDA.ext (Ext.rf _) ⟨fun _ => HV7.out.symm, fun h => absurd h (by decide), fun h => absurd h (by decide)⟩, by simp [HNO.out]⟩⟩
      · simp [Region.binds] at hpre
        have e7 : vv 7 = _ := (HPA.out.facts 7 (by simp [hpre])).1 (by decide)
        rw [HV7.out] at e7
        have g1 := HPA.out.ext.keep (HX2.out.keep HQ0.out)
        go_simp
        exact HKk.out _ _ ⟨_, by simp [e7], .inl ⟨HPA.out.put (v := .int .i64 (lastT x)) FDA.ext (Ext.rf _) ⟨fun _ => HV8.out.symm, fun h => absurd h (by decide), fun h => absurd h (by decide)⟩, by simp [HNO.out]⟩⟩
      · clear hpre
        go_simp
        exact HKk.out _ _ ⟨_, rfl, .inl ⟨HPA.out.put (v := .slice Ap ps.length cp) FDA.ext (Ext.rf _) ⟨fun _ => HV9.out.symm, fun h => absurd h (by decide), fun h => absurd h (by decide)⟩, by simp [HNO.out]⟩⟩
      · clear hpre
        have g0 := HPA.out.ext.keep (cellAt HBX.out 0)
        have g1 := HPA.out.ext.keep (cellAt HBX.out 1)
        go_simp
        exact HKk.out _ _ ⟨_, rfl, .inl ⟨HPA.out.put (v := .agg #[.string x.name, .slice (some ⟨b3, o3, none⟩) x.args.length c3]) FDA.ext (Ext.rf _) ⟨fun _ => HV10.out.symm, fun h => absurd h (by decide), fun h => absurd h (by decide)⟩, by simp [HNO.out]⟩⟩
      · simp [Region.binds] at hpre
        have e10 : vv 10 = _ := (HPA.out.facts 10 (by simp [hpre])).1 (by decide)
        rw [HV10.out] at e10
        go_simp
        (refine (ref_prods_any x.name _ x.args W ((HZ2.out.below HX2.out).below HPA.out.ext) HXA.out).mono ?_)
        rintro e W' ⟨⟨vq, rfl, ho⟩, hb⟩
        obtain ⟨Aq, cq, rfl⟩ := own_shapeL ho
        exact HKk.out _ _ ⟨_, by simp [e10], .inl ⟨HPA.out.put (v := .slice Aq (prodA x.args).length cq) FDA.ext hb ⟨fun h => absurd h (by decide), fun _ => ⟨Aq, cq, rfl, own_base ho HPA.out.ext.size⟩, fun h => absurd h (by decide)⟩, by simp [HNO.out]⟩⟩
      · clear hpre
        go_simp
        exact HKk.out _ _ ⟨_, rfl, .inl ⟨HPA.out.put (v := .pointer (some ⟨w.heap.size + 1 + 1, 3, none⟩)) FDA.ext (Ext.rf _) ⟨fun _ => HV12.out.symm, fun h => absurd h (by decide), fun h => absurd h (by decide)⟩, by simp [HNO.out]⟩⟩
      · simp [Region.binds] at hpre
        have e12 : vv 12 = _ := (HPA.out.facts 12 (by simp [hpre])).1 (by decide)
        rw [HV12.out] at e12
        have g1 := HPA.out.ext.keep (HX2.out.keep (cellAt HBT.out 3))
        go_simp
        exact HKk.out _ _ ⟨_, by simp [e12], .inl ⟨HPA.out.put (v := .int .i64 ((u : Int) + 1)) FDA.ext (Ext.rf _) ⟨fun _ => HV13.out.symm, fun h => absurd h (by decide), fun h => absurd h (by decide)⟩, by simp [HNO.out]⟩⟩
      · simp [Region.binds] at hpre
        have e13 : vv 13 = _ := (HPA.out.facts 13 (by simp [hpre])).1 (by decide)
        rw [HV13.out] at e13
        go_simp
        exact HKk.out _ _ ⟨_, by simp [e13], .inl ⟨HPA.out.put (v := .slice (some ⟨W.heap.size, 0, none⟩) 1 1) FDA.ext (Ext.al _ _) ⟨fun h => absurd h (by decide), fun h => absurd h (by decide), fun _ => ⟨W.heap.size, rfl, heapNew _ _⟩⟩, by simp [HNO.out]⟩⟩
      · have h11 := hpre ⟨11, .data⟩ (by simp) rfl
        have h14 := hpre ⟨14, .data⟩ (by simp) rfl
        have h10 := hc 11 _ rfl h11 ⟨10, .data⟩ (by simp) rfl
        have h13 := hc 14 _ rfl h14 ⟨13, .data⟩ (by simp) rfl
        have h12 := hc 13 _ rfl h13 ⟨12, .data⟩ (by simp) rfl
        obtain ⟨A9, c9, e11, ho9⟩ := (HPA.out.facts 11 h11).2.1 rfl
        obtain ⟨q, e14, hq⟩ := (HPA.out.facts 14 h14).2.2 rfl
        have hpl := HPLN.out
        split
        · refine app_row (t := 30) (e := 3) (size := 1) (bytes := 8) Tryz.u57 Tryz.info3 rfl (by decide) (.tmp 120) (.tmp 123) rfl w2.heap.size (.slice A9 (prodA x.args).length c9) (prodA x.args).length ((prodA x.args).map (Value.int .i64)) e11 ho9 (some ⟨q, 0, none⟩) 1 1 [.int .i64 ((u : Int) + 1)] e14 (src_one hq) (fun u hu => by rw [List.mem_singleton.1 hu]; rfl) (by unfold maxLen; omega) (by omega) HPA.out.ext.size (fun v' W' ho hg hat => ?_)
          refine HKk.out _ _ ⟨fun j => if j = 15 then v' else vv j, rfl, .inr ⟨⟨HPA.out.ext.trans (grown_ext' hg ho9 HPA.out.ext.size), fun j hj => ?_⟩, fun i hi => ?_⟩⟩
          · by_cases hj15 : j = 15
            · subst hj15
              refine ⟨fun h => absurd h (by decide), fun _ => ?_⟩
              rw [if_pos rfl]
              refine own_ints (B := w2.heap.size) ?_
              rw [List.length_append, List.map_append]
              exact ho
            · have h2 : (decide (j = 15) || Ls j) = true := hj
              rw [decide_eq_false hj15, Bool.false_or] at h2
              rw [if_neg hj15]
              exact ⟨(HPA.out.facts j h2).1, fun h => absurd h hj15⟩
          · show (decide (i = 15) || Ls i) = true
            rcases (show i = 10 ∨ i = 11 ∨ i = 12 ∨ i = 13 ∨ i = 14 ∨ i = 15 by omega) with rfl | rfl | rfl | rfl | rfl | rfl <;> simp [*]
        · rename_i hw
          exact absurd (by rfl) hw
      · exfalso
        have := hpre ⟨15, .data⟩ (by simp) rfl
        rw [HNO.out] at this; cases this
      · simp [Region.binds] at hpre
        have e8 : vv 8 = _ := (HPA.out.facts 8 (by simp [hpre])).1 (by decide)
        rw [HV8.out] at e8
        go_simp
        exact HKk.out _ _ ⟨_, by simp [e8], .inl ⟨HPA.out.put (v := .int .i64 (lastT x)) FDA.ext (Ext.rf _) ⟨fun _ => HV17.out.symm, fun h => absurd h (by decide), fun h => absurd h (by decide)⟩, by simp [HNO.out]⟩⟩
      · exfalso
        have h16 := hpre ⟨16, .data⟩ (by simp) rfl
        have := hc 16 _ rfl h16 ⟨15, .data⟩ (by simp) rfl
        rw [HNO.out] at this; cases this
    · have HPA := Lib.hid hI.1
      have HALL := Lib.hid hI.2
      have hcs : i = 0 ∨ i = 1 ∨ i = 2 ∨ i = 3 ∨ i = 4 ∨ i = 5 ∨ i = 6 ∨ i = 7 ∨ i = 8 ∨ i = 9 ∨ i = 10 ∨ i = 11 ∨ i = 12 ∨ i = 13 ∨ i = 14 ∨ i = 15 ∨ i = 16 ∨ i = 17 ∨ i = 18 := by omega
      rcases hcs with rfl | rfl | rfl | rfl | rfl | rfl | rfl | rfl | rfl | rfl | rfl | rfl | rfl | rfl | rfl | rfl | rfl | rfl | rfl
      all_goals
        obtain rfl := Option.some.inj ho
        clear ho hi hI
      · clear hpre
        go_simp
        exact HKk.out _ _ ⟨_, rfl, .inr ⟨HPA.out.put (v := .pointer (some ⟨w1.heap.size, 1, none⟩)) FDB.ext (Ext.rf _) ⟨fun _ => HV0.out.symm, fun h => absurd h (by decide)⟩, fun i hi => by show (decide (i = 0) || Ls i) = true; rw [HALL.out i hi, Bool.or_true]⟩⟩
      · simp [Region.binds] at hpre
        have e0 : vv 0 = _ := (HPA.out.facts 0 (by simp [hpre])).1 (by decide)
        rw [HV0.out] at e0
        have g1 := HPA.out.ext.keep (cellAt HBX.out 1)
        go_simp
        exact HKk.out _ _ ⟨_, by simp [e0], .inr ⟨HPA.out.put (v := .slice (some ⟨b3, o3, none⟩) x.args.length c3) FDB.ext (Ext.rf _) ⟨fun _ => HV1.out.symm, fun h => absurd h (by decide)⟩, fun i hi => by show (decide (i = 1) || Ls i) = true; rw [HALL.out i hi, Bool.or_true]⟩⟩
      · clear hpre
        go_simp
        exact HKk.out _ _ ⟨_, rfl, .inr ⟨HPA.out.put (v := .pointer (some ⟨w1.heap.size, 1, none⟩)) FDB.ext (Ext.rf _) ⟨fun _ => HV2.out.symm, fun h => absurd h (by decide)⟩, fun i hi => by show (decide (i = 2) || Ls i) = true; rw [HALL.out i hi, Bool.or_true]⟩⟩
      · simp [Region.binds] at hpre
        have e2 : vv 2 = _ := (HPA.out.facts 2 (by simp [hpre])).1 (by decide)
        rw [HV2.out] at e2
        have g1 := HPA.out.ext.keep (cellAt HBX.out 1)
        go_simp
        exact HKk.out _ _ ⟨_, by simp [e2], .inr ⟨HPA.out.put (v := .slice (some ⟨b3, o3, none⟩) x.args.length c3) FDB.ext (Ext.rf _) ⟨fun _ => HV3.out.symm, fun h => absurd h (by decide)⟩, fun i hi => by show (decide (i = 3) || Ls i) = true; rw [HALL.out i hi, Bool.or_true]⟩⟩
      · simp [Region.binds] at hpre
        have e3 : vv 3 = _ := (HPA.out.facts 3 (by simp [hpre])).1 (by decide)
        rw [HV3.out] at e3
        go_simp
        exact HKk.out _ _ ⟨_, by simp [e3], .inr ⟨HPA.out.put (v := .int .i64 (x.args.length : Int)) FDB.ext (Ext.rf _) ⟨fun _ => HV4.out.symm, fun h => absurd h (by decide)⟩, fun i hi => by show (decide (i = 4) || Ls i) = true; rw [HALL.out i hi, Bool.or_true]⟩⟩
      · simp [Region.binds] at hpre
        have e4 : vv 4 = _ := (HPA.out.facts 4 (by simp [hpre])).1 (by decide)
        rw [HV4.out] at e4
        have hw2 := HW2.out
        go_simp
        exact HKk.out _ _ ⟨_, by simp [e4], .inr ⟨HPA.out.put (v := .int .i64 (nx : Int)) FDB.ext (Ext.rf _) ⟨fun _ => HV5.out.symm, fun h => absurd h (by decide)⟩, fun i hi => by show (decide (i = 5) || Ls i) = true; rw [HALL.out i hi, Bool.or_true]⟩⟩
      · simp [Region.binds] at hpre
        have e1 : vv 1 = _ := (HPA.out.facts 1 (by simp [hpre])).1 (by decide)
        rw [HV1.out] at e1
        have e5 : vv 5 = _ := (HPA.out.facts 5 (by simp [hpre])).1 (by decide)
        rw [HV5.out] at e5
        go_simp
        exact HKk.out _ _ ⟨_, by simp [e1, e5, Act.put], .inr ⟨HPA.out.put (v := .pointer (some ⟨b3, o3 + nx * 2, none⟩)) FDB.ext (Ext.rf _) ⟨fun _ => HV6.out.symm, fun h => absurd h (by decide)⟩, fun i hi => by show (decide (i = 6) || Ls i) = true; rw [HALL.out i hi, Bool.or_true]⟩⟩
      · simp [Region.binds] at hpre
        have e6 : vv 6 = _ := (HPA.out.facts 6 (by simp [hpre])).1 (by decide)
        rw [HV6.out] at e6
        go_simp
        exact HKk.out _ _ ⟨_, by simp [e6], .inr ⟨HPA.out.put (v := .pointer (some ⟨b3, o3 + nx * 2, none⟩)) FDB.ext (Ext.rf _) ⟨fun _ => HV7.out.symm, fun h => absurd h (by decide)⟩, fun i hi => by show (decide (i = 7) || Ls i) = true; rw [HALL.out i hi, Bool.or_true]⟩⟩
      · simp [Region.binds] at hpre
        have e7 : vv 7 = _ := (HPA.out.facts 7 (by simp [hpre])).1 (by decide)
        rw [HV7.out] at e7
        have g1 := HPA.out.ext.keep (HX2.out.keep HQ0.out)
        go_simp
        exact HKk.out _ _ ⟨_, by simp [e7], .inr ⟨HPA.out.put (v := .int .i64 (lastT x)) FDB.ext (Ext.rf _) ⟨fun _ => HV8.out.symm, fun h => absurd h (by decide)⟩, fun i hi => by show (decide (i = 8) || Ls i) = true; rw [HALL.out i hi, Bool.or_true]⟩⟩
      · clear hpre
        go_simp
        exact HKk.out _ _ ⟨_, rfl, .inr ⟨HPA.out.put (v := .slice Ap ps.length cp) FDB.ext (Ext.rf _) ⟨fun _ => HV9.out.symm, fun h => absurd h (by decide)⟩, fun i hi => by show (decide (i = 9) || Ls i) = true; rw [HALL.out i hi, Bool.or_true]⟩⟩
      · rw [HALL.out 10 (by decide)] at hl; cases hl
      · rw [HALL.out 11 (by decide)] at hl; cases hl
      · rw [HALL.out 12 (by decide)] at hl; cases hl
      · rw [HALL.out 13 (by decide)] at hl; cases hl
      · rw [HALL.out 14 (by decide)] at hl; cases hl
      · rw [HALL.out 15 (by decide)] at hl; cases hl
      · simp [Region.binds] at hpre
        have e9 : vv 9 = _ := (HPA.out.facts 9 (by simp [hpre])).1 (by decide)
        rw [HV9.out] at e9
        have r15 := (HPA.out.facts 15 (by simp [hpre])).2 rfl
        go_simp
        (refine (refAll_any _ _ ps (prodA x.args ++ [(u : Int) + 1]) W (HP.out.below (HWE.out.tr HPA.out.ext)) r15).mono ?_)
        rintro e W' ⟨rfl, hb⟩
        exact HKk.out _ _ ⟨_, by simp [e9], .inr ⟨HPA.out.put (v := .bool (eqL ps (prodA x.args ++ [(u : Int) + 1]))) FDB.ext hb ⟨fun _ => HV16.out.symm, fun h => absurd h (by decide)⟩, fun i hi => by show (decide (i = 16) || Ls i) = true; rw [HALL.out i hi, Bool.or_true]⟩⟩
      · simp [Region.binds] at hpre
        have e8 : vv 8 = _ := (HPA.out.facts 8 (by simp [hpre])).1 (by decide)
        rw [HV8.out] at e8
        go_simp
        exact HKk.out _ _ ⟨_, by simp [e8], .inr ⟨HPA.out.put (v := .int .i64 (lastT x)) FDB.ext (Ext.rf _) ⟨fun _ => HV17.out.symm, fun h => absurd h (by decide)⟩, fun i hi => by show (decide (i = 17) || Ls i) = true; rw [HALL.out i hi, Bool.or_true]⟩⟩
      · simp [Region.binds] at hpre
        have e16 : vv 16 = _ := (HPA.out.facts 16 (by simp [hpre])).1 (by decide)
        rw [HV16.out] at e16
        go_simp
        exact HKk.out _ _ ⟨_, by simp [e16], .inr ⟨HPA.out.put (v := .bool (eqL ps (prodA x.args ++ [(u : Int) + 1]))) FDB.ext (Ext.rf _) ⟨fun _ => HV18.out.symm, fun h => absurd h (by decide)⟩, fun i hi => by show (decide (i = 18) || Ls i) = true; rw [HALL.out i hi, Bool.or_true]⟩⟩
  · intro Ls a W hall hI
    obtain ⟨vv, rfl, hI | hI⟩ := hI
    · have := hI.2
      rw [hall 15 (by decide)] at this; cases this
    have e17 : vv 17 = _ := (hI.1.facts 17 (hall 17 (by decide))).1 (by decide)
    have e18 : vv 18 = _ := (hI.1.facts 18 (hall 18 (by decide))).1 (by decide)
    rw [HV17.out] at e17
    rw [HV18.out] at e18
    have HXW := Lib.hid (HWE.out.tr hI.1.ext)
    clear hI hall
    generalize vv 0 = x0 at *
    generalize vv 1 = x1 at *
    generalize vv 2 = x2 at *
    generalize vv 3 = x3 at *
    generalize vv 4 = x4 at *
    generalize vv 5 = x5 at *
    generalize vv 6 = x6 at *
    generalize vv 7 = x7 at *
    generalize vv 8 = x8 at *
    generalize vv 9 = x9 at *
    generalize vv 10 = x10 at *
    generalize vv 11 = x11 at *
    generalize vv 12 = x12 at *
    generalize vv 13 = x13 at *
    generalize vv 14 = x14 at *
    generalize vv 15 = x15 at *
    generalize vv 16 = x16 at *
    generalize vv 17 = x17 at *
    generalize vv 18 = x18 at *
    subst e17 e18
    go_wp2
    go_ret2
    exact ⟨rfl, HXW.out⟩
end Go.Proofs.YtogmjgccopmplaaGreat

/- The reference of layer 4: rule, cocase. -/
namespace Go.Proofs.YtogmjgccopmplaaGreat
open Go.RowKit
set_option maxHeartbeats 8000000 in
set_option maxRecDepth 100000 in
theorem rr_cocase (P : Pg) (vd vf vv vl vp : Value) (vs ls : List Prm) (k : Nat) (t : Tm) (xa xc : Value) (ps : List Int) (w : World) (u : Nat) (d : Decl) (hd : RDecls w vd P.decls) (hvf : ∃ A n c, vf = .slice A n c) (h1 : RPrms w vv vs) (h2 : RPrms w vl ls) (ht : RT w k t xa xc) (hp : RInts w vp ps) (ho : t.op = 7) (hty : t.ty = (u : Int) + 1) (hdu : P.decls[u]? = some d) (hps : ps.length = d.xtors.length) (hx1 : ∀ x ∈ d.xtors, 1 ≤ x.args.length) :
    Calls Tryz.prog 75 #[pV vd vf, .agg #[vv, vl], tV t xa xc, vp] w fun e w' => e = .returned (.tuple #[.int .i64 (if eqL ps (d.xtors.map lastT) = true then (u : Int) + 1 else 0), .bool (eqL ps (d.xtors.map lastT))]) ∧ Ext w w' := by
  have HD := Lib.hid hd; have HP := Lib.hid hp; have HX1 := Lib.hid hx1
  have hmx : Tryz.prog.follows .mixedOrders = true := by kernel_rfl
  obtain ⟨Ad, cd, rfl, hcd, hmd⟩ := hd.form
  obtain ⟨Af, nf, cf, rfl⟩ := hvf
  obtain ⟨Av, cv, rfl, -, -⟩ := h1.form
  obtain ⟨Al, cl, rfl, -, -⟩ := h2.form
  obtain ⟨-, ⟨Aa, ca, rfl, -, -⟩, ⟨Bb, cb, rfl, -, -⟩⟩ := ht.form
  obtain ⟨Ap, cp, rfl, -, -⟩ := hp.form
  clear h1 h2 ht hp hd hx1
  unfold maxLen at hmd
  have hul : u < P.decls.length := (List.getElem?_eq_some_iff.1 hdu).1
  obtain ⟨b, o, vx, rfl, hbl, -, -, y2, y3, -⟩ := HD.out.at_ hul
  rw [(List.getElem?_eq_some_iff.1 hdu).2] at y3
  have HY3 := Lib.hid y3
  obtain ⟨A2, c2, rfl, hc2, hm2⟩ := y3.form
  unfold maxLen at hm2
  unfold tV
  rw [ho, hty]
  clear ho hty y3
  have HE := Lib.hid (Ext.al3 w (.cells #[.slice (some ⟨b, o, none⟩) P.decls.length cd, .slice Af nf cf] 25) (.cells #[.slice Av vs.length cv, .slice Al ls.length cl] 85) (.cells #[.int .i64 7, .int .i64 t.n, .string t.nm, .int .i64 ((u : Int) + 1), .slice Aa t.args.length ca, .slice Bb t.cls.length cb] 41))
  obtain ⟨g1, g2, g3, g4⟩ := bx_three w (.cells #[.slice (some ⟨b, o, none⟩) P.decls.length cd, .slice Af nf cf] 25) (.cells #[.slice Av vs.length cv, .slice Al ls.length cl] 85) (.cells #[.int .i64 7, .int .i64 t.n, .string t.nm, .int .i64 ((u : Int) + 1), .slice Aa t.args.length ca, .slice Bb t.cls.length cb] 41)
  have HBP := Lib.hid g1; have HBS := Lib.hid g2; have HBT := Lib.hid g3; have HS1 := Lib.hid g4
  have HY2 := Lib.hid (HE.out.keep y2)
  clear g1 g2 g3 g4 y2
  obtain ⟨rs, hrs⟩ : ∃ rs, d.xtors.map lastT = rs := ⟨_, rfl⟩
  have HRS := Lib.hid hrs
  have HRL : Hid (rs.length = d.xtors.length) := by show _ = _; rw [← hrs, List.length_map]
  rw [hrs]
  clear hrs
  obtain ⟨ra, hra⟩ : ∃ ra, eqL ps rs = ra := ⟨_, rfl⟩
  have HRA := Lib.hid hra
  rw [hra]
  clear hra
  obtain ⟨yv, hyv⟩ : ∃ yv : Int, (if ra = true then (u : Int) + 1 else 0) = yv := ⟨_, rfl⟩
  have HY := Lib.hid hyv
  rw [hyv]
  clear hyv
  have HPS := Lib.hid hps
  clear hps
  go_enter Tryz.func75, Tryz.ntmps75
  have hw1 : IntKind.wrap .i64 (u : Int) = (u : Int) := IntWalk.i64_in _ (by omega)
  obtain ⟨c0, c1, c2', c3, c4, c5⟩ := cells6 HBT.out
  have k0 := cellAt HBP.out 0
  have k2 := HY2.out
  go_wp2
  clear c0 c1 c2' c3 c4 c5 k0 k2
  generalize World.alloc (World.alloc (World.alloc w _) _) _ = w1 at *
  go_loopw [137] (fun i wr => ∃ j : Nat, j ≤ d.xtors.length ∧ i = .int .i64 j ∧ ra = eqL (ps.drop j) (rs.drop j) ∧ Ext w1 wr) (fun i _ => d.xtors.length - (intOf i).toNat)
  case atStart => exact ⟨0, Nat.zero_le _, rfl, HRA.out.symm, Ext.rf _⟩
  case round =>
    obtain ⟨j, hj, rfl, hr, hb⟩ := hrel
    have HR := Lib.hid hr; have HX3 := Lib.hid hb; have HX := Lib.hid (HE.out.tr hb)
    clear hr hb
    by_cases hlt : j < d.xtors.length
    · have hltp : j < ps.length := by rw [HPS.out]; exact hlt
      have hltr : j < rs.length := by rw [HRL.out]; exact hlt
      obtain ⟨bq, oq, hA, -, f2⟩ := (HP.out.below HX.out).at_ hltp
      cases hA
      obtain ⟨bx, ox, va, hA2, -, z0, z1, z2, -⟩ := (HY3.out.below HX.out).at_ hlt
      cases hA2
      obtain ⟨A3, c3, rfl, hc3, hm3⟩ := z2.form
      unfold maxLen at hm3
      have hx9 := HX1.out _ (List.getElem_mem hlt)
      have HD1 := Lib.hid (drop_step hltp)
      have HD2 := Lib.hid (drop_step hltr)
      have HZ : Hid (rs[j] = lastT (d.xtors[j])) := by
        show _ = _
        have h9 := HRS.out
        subst h9
        exact List.getElem_map ..
      generalize rs[j] = z at *
      generalize d.xtors[j] = x at *
      generalize ps[j] = p at *
      obtain ⟨nx, hnx⟩ : ∃ n, x.args.length = n + 1 := ⟨x.args.length - 1, by omega⟩
      have HLT := Lib.hid (lastT_at hnx)
      obtain ⟨b3, o3, rfl, -, q0, -⟩ := z2.at_ (k := nx) (by omega)
      rw [HLT.out, ← HZ.out] at q0
      have HQ0 := Lib.hid q0
      have HF2 := Lib.hid f2
      have hnx2 : nx < x.args.length := by omega
      have hw2 : IntKind.wrap .i64 ((x.args.length : Int) - 1) = (nx : Int) := by rw [show (x.args.length : Int) - 1 = nx by omega]; exact IntWalk.i64_in _ (by omega)
      clear HLT
      clear hnx q0 f2 z2 hx9
      go_upto_region 27 with fail
      have HEX := Lib.hid (Ext.al wr (.cells #[.string x.name, .slice (some ⟨b3, o3, none⟩) x.args.length c3] 67))
      have HBX := Lib.hid (heapNew wr (.cells #[.string x.name, .slice (some ⟨b3, o3, none⟩) x.args.length c3] 67))
      generalize World.alloc wr _ = w2 at *
      clear z0 z1
      have d1 := ExtOf.cell (HEX.out.keep HQ0.out)
      have d2 := ExtOf.cell (HEX.out.keep HF2.out)
      have d3 := ExtOf.cell (cellAt HBX.out 1)
      cases hq : decide (p = z)
      · have hq' : (p != z) = true := by simpa using hq
        have HQ := Lib.hid hq
        clear hq
        refine wp_region_ext (w0 := w2) hmx (by kernel_rfl) (Ext.rf _) ?_
        repeat (first | go_big_quiet_step (fail) | quiet_step (fail))
        refine wpQuiet_nil ?_
        rintro _ ⟨⟨w9, hx⟩, rfl⟩
        have HX9 := Lib.hid (HX.out.tr (HEX.out.tr hx))
        clear hx
        go_wp2
        go_ret2
        have hrf : ra = false := by rw [HR.out, HD1.out, HD2.out, eqL_cons, HQ.out]; rfl
        exact ⟨by rw [← HY.out, hrf]; rfl, HX9.out⟩
      · have hq' : (p != z) = false := by simpa using hq
        have HQ := Lib.hid hq
        clear hq
        refine wp_region_ext (w0 := w2) hmx (by kernel_rfl) (Ext.rf _) ?_
        repeat (first | go_big_quiet_step (fail) | quiet_step (fail))
        refine wpQuiet_nil ?_
        rintro _ ⟨⟨w9, hx⟩, rfl⟩
        have HX9 := Lib.hid (HX3.out.tr (HEX.out.tr hx))
        clear hx
        go_wp2
        exact ⟨⟨j + 1, by omega, by go_num, by rw [HR.out, HD1.out, HD2.out, eqL_cons, HQ.out]; rfl, HX9.out⟩, by simp [intOf]; omega⟩
    · have HR1 : Hid (ra = true) := by
        show ra = true
        rw [HR.out, drop_end (by rw [HPS.out]; exact hlt), drop_end (by rw [HRL.out]; exact hlt)]; rfl
      have n3 := HX3.out.keep (cellAt HBT.out 3)
      go_wp2
      go_ret2
      exact ⟨by rw [← HY.out, HR1.out]; rfl, HX.out⟩
end Go.Proofs.YtogmjgccopmplaaGreat
