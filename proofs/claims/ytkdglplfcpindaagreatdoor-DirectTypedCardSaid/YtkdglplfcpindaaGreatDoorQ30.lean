/- rules.go: newChecker. -/
import Derived.Test.YtkdglplfcpindaaGreatDoorQ29
import Derived.Laws.EntriesVeiled
namespace Go.Proofs.YtkdglplfcpindaaGreatDoor
open Go.RowKit

theorem Only.andBelow {C : Nat → Prop} {a b c : World} (h : Only C a b) (k : Below a.heap.size b c) : Only C a c :=
  ⟨k.os.trans h.os, k.tape.trans h.tape, k.output.trans h.output, Nat.le_trans h.size k.size, fun j hj hn => (k.block j hj).trans (h.block j hj hn)⟩
theorem own_neE {w : World} {B e : Nat} {k : Nat} {v : Value} {n : Nat} {xs : List Value} (h : w.ownsRow B e k v n xs) {r T : Nat} {c : Array Value} (hr : w.heap[r]? = some (.cells c T (0, 0))) (hT : T ≠ e) : some r ≠ v.ownBlock := by
  rcases h.2 with ⟨rfl, -⟩ | ⟨g, cap, cur, rfl, e2, e3, e4, e5, e6, e7⟩
  · simp [Value.ownBlock]
  · intro q
    simp [Value.ownBlock] at q
    subst q
    rw [hr] at e3
    injection e3 with e3
    injection e3 with _ e3
    exact hT e3
theorem Tryz.undSg : Tryz.prog.underlying 174 = some (.slice 181) := by kernel_rfl
theorem Tryz.infoSg : (Tryz.prog.info? 181).map (fun i => (i.zero, i.size, i.bytes)) = some (some (.agg #[.slice none 0 0, .int .i64 0]), 2, 32) := by kernel_rfl
theorem SrcN.oneS {w : World} {g : Nat} {v : Value} {r : Int} (h : w.heap[g]? = some (.cells #[v, .int .i64 r] 181 (0, 0))) : SrcN w (some ⟨g, 0, none⟩) 1 2 [v, .int .i64 r] :=
  .inr ⟨_, rfl, rfl, fun j u hu => by
    have hj : j < 2 := (List.getElem?_eq_some_iff.1 hu).1
    rw [add_at, Nat.zero_add]
    match j, hj with
    | 0, _ => exact (cellAt h 0).trans hu
    | 1, _ => exact (cellAt h 1).trans hu⟩
/-- What the operations ahead of the append yield. -/
def FN1 (vals : Nat → Value) (sg : Sg) (B : Nat) (W : World) (j : Nat) (v : Value) : Prop :=
  (j ≠ 6 ∧ j ≠ 7 → v = vals j) ∧ (j = 6 → ∃ A c, v = .agg #[.slice A sg.args.length c, .int .i64 sg.res] ∧ OwnL W B (.slice A sg.args.length c) sg.args) ∧
  (j = 7 → ∃ A c q, v = .slice (some ⟨q, 0, none⟩) 1 1 ∧ W.heap[q]? = some (.cells #[.slice A sg.args.length c, .int .i64 sg.res] 181 (0, 0)) ∧ OwnL W B (.slice A sg.args.length c) sg.args)
theorem FN1.ext {vals : Nat → Value} {sg : Sg} {B : Nat} (W W' : World) (j : Nat) (v : Value) (h : FN1 vals sg B W j v) (hb : Ext W W') : FN1 vals sg B W' j v :=
  ⟨h.1, fun e => (h.2.1 e).elim fun A h => h.elim fun c h => ⟨A, c, h.1, own_below h.2 hb⟩, fun e => (h.2.2 e).elim fun A h => h.elim fun c h => h.elim fun q h => ⟨A, c, q, h.1, (hb.block _ (heap_lt h.2.1)).trans h.2.1, own_below h.2.2 hb⟩⟩

/-- What the operations ahead of the append of the second loop yield. -/
def FN3 (vals : Nat → Value) (sg : Sg) (B : Nat) (W : World) (j : Nat) (v : Value) : Prop :=
  (j ≠ 19 ∧ j ≠ 20 → v = vals j) ∧ (j = 19 → ∃ A c, v = .agg #[.slice A sg.args.length c, .int .i64 sg.res] ∧ OwnL W B (.slice A sg.args.length c) sg.args) ∧
  (j = 20 → ∃ A c q, v = .slice (some ⟨q, 0, none⟩) 1 1 ∧ W.heap[q]? = some (.cells #[.slice A sg.args.length c, .int .i64 sg.res] 181 (0, 0)) ∧ OwnL W B (.slice A sg.args.length c) sg.args)
theorem FN3.ext {vals : Nat → Value} {sg : Sg} {B : Nat} (W W' : World) (j : Nat) (v : Value) (h : FN3 vals sg B W j v) (hb : Ext W W') : FN3 vals sg B W' j v :=
  ⟨h.1, fun e => (h.2.1 e).elim fun A h => h.elim fun c h => ⟨A, c, h.1, own_below h.2 hb⟩, fun e => (h.2.2 e).elim fun A h => h.elim fun c h => h.elim fun q h => ⟨A, c, q, h.1, (hb.block _ (heap_lt h.2.1)).trans h.2.1, own_below h.2.2 hb⟩⟩

set_option pp.deepTerms true in
set_option maxHeartbeats 4000000 in
set_option maxRecDepth 100000 in
theorem newChecker_any (P : Pg) (vd vf : Value) (w : World) (hD : RDecls w vd P.decls) (hF : RFns w vf P.funs) (hdl : P.decls.length ≤ 1000000) (hfl : P.funs.length ≤ 1000000) (hpl : ∀ f ∈ P.funs, f.ps.length ≤ 1000000) (hres : ∀ (u n : Nat) (d : Decl) (x : Xtor), P.decls[u]? = some d → d.xtors[n]? = some x → d.codata = true → (resI P.decls ((u : Int) + 1) n).1 = lastT x) (hxl : ∀ (u : Nat) (d : Decl), P.decls[u]? = some d → d.xtors.length ≤ 1000000 ∧ ∀ x ∈ d.xtors, x.args.length ≤ 1000) :
    Calls Tryz.prog 58 #[pV vd vf] w fun e w' => (∃ g, e = .returned (.pointer (some ⟨g, 0, none⟩)) ∧ RCkR w' g P) ∧ Ext w w' := by
  have HD := Lib.hid hD; have HF := Lib.hid hF; have HPL := Lib.hid hpl; have HRES := Lib.hid hres; have HXL := Lib.hid hxl
  clear hpl hres hxl
  obtain ⟨Ad, cd, rfl, hcd, hmd⟩ := hD.form
  obtain ⟨Af, cf, rfl, hcf, hmf⟩ := hF.form
  clear hD hF
  unfold maxLen at hmd hmf
  have HE := Lib.hid (Ext.al w (.cells #[.slice Ad P.decls.length cd, .slice Af P.funs.length cf] 25))
  have HB := Lib.hid (heapNew w (.cells #[.slice Ad P.decls.length cd, .slice Af P.funs.length cf] 25))
  have p0 := cellAt HB.out 0
  have p1 := cellAt HB.out 1
  go_enter Tryz.func58, Tryz.ntmps58
  have hmk := make_sgs (w.alloc (.cells #[.slice Ad P.decls.length cd, .slice Af P.funs.length cf] 25)) (P.decls.length + 1) (by omega)
  rw [show ((P.decls.length + 1 : Nat) : Int) = (P.decls.length : Int) + 1 by omega] at hmk
  go_wp2
  clear hmk p0 p1
  have HE3 := Lib.hid (Ext.al3 w (.cells #[.slice Ad P.decls.length cd, .slice Af P.funs.length cf] 25) (.cells (Array.replicate (P.decls.length + 1) (Value.slice none 0 0)) 174) (.cells #[.slice none 0 0, .slice (some ⟨w.heap.size + 1, 0, none⟩) (P.decls.length + 1) (P.decls.length + 1), .nilFunc, .nilFunc, .nilFunc, .nilFunc, .nilFunc, .nilFunc, .nilFunc, .nilFunc, .nilFunc, .nilFunc, .nilFunc, .nilFunc, .nilFunc] 179))
  obtain ⟨hb1, hb2, hb3, -⟩ := box_four w (.cells #[.slice Ad P.decls.length cd, .slice Af P.funs.length cf] 25) (.cells (Array.replicate (P.decls.length + 1) (Value.slice none 0 0)) 174) (.cells #[.slice none 0 0, .slice (some ⟨w.heap.size + 1, 0, none⟩) (P.decls.length + 1) (P.decls.length + 1), .nilFunc, .nilFunc, .nilFunc, .nilFunc, .nilFunc, .nilFunc, .nilFunc, .nilFunc, .nilFunc, .nilFunc, .nilFunc, .nilFunc, .nilFunc] 179) (.cells #[.slice none 0 0, .slice (some ⟨w.heap.size + 1, 0, none⟩) (P.decls.length + 1) (P.decls.length + 1), .nilFunc, .nilFunc, .nilFunc, .nilFunc, .nilFunc, .nilFunc, .nilFunc, .nilFunc, .nilFunc, .nilFunc, .nilFunc, .nilFunc, .nilFunc] 179)
  have hal : ∀ (W : World) (r : Nat) (X : Obj), ((W.alloc (.cells #[.slice none 0 0, .slice (some ⟨w.heap.size + 1, 0, none⟩) (P.decls.length + 1) (P.decls.length + 1), .nilFunc, .nilFunc, .nilFunc, .nilFunc, .nilFunc, .nilFunc, .nilFunc, .nilFunc, .nilFunc, .nilFunc, .nilFunc, .nilFunc, .nilFunc] 179)).heap[r]? = some X) → r < W.heap.size → W.heap[r]? = some X := fun W r X h hl => (Below.heap_alloc W (.cells #[.slice none 0 0, .slice (some ⟨w.heap.size + 1, 0, none⟩) (P.decls.length + 1) (P.decls.length + 1), .nilFunc, .nilFunc, .nilFunc, .nilFunc, .nilFunc, .nilFunc, .nilFunc, .nilFunc, .nilFunc, .nilFunc, .nilFunc, .nilFunc, .nilFunc] 179) r hl).symm.trans h
  have hs3 : (((w.alloc (.cells #[.slice Ad P.decls.length cd, .slice Af P.funs.length cf] 25)).alloc (.cells (Array.replicate (P.decls.length + 1) (Value.slice none 0 0)) 174)).alloc (.cells #[.slice none 0 0, .slice (some ⟨w.heap.size + 1, 0, none⟩) (P.decls.length + 1) (P.decls.length + 1), .nilFunc, .nilFunc, .nilFunc, .nilFunc, .nilFunc, .nilFunc, .nilFunc, .nilFunc, .nilFunc, .nilFunc, .nilFunc, .nilFunc, .nilFunc] 179)).heap.size = w.heap.size + 1 + 1 + 1 := by rw [World.size_alloc, World.size_alloc, World.size_alloc]
  have HB1 := Lib.hid (hal _ _ _ hb1 (by rw [hs3]; omega)); have HB2 := Lib.hid (hal _ _ _ hb2 (by rw [hs3]; omega)); have HB3 := Lib.hid (hal _ _ _ hb3 (by rw [hs3]; omega))
  have HS3 := Lib.hid hs3
  clear hb1 hb2 hb3 hal hs3
  have hmx : Tryz.prog.follows .mixedOrders = true := by kernel_rfl
  generalize World.alloc (World.alloc (World.alloc w _) _) _ = w3 at *
  go_loopw [19] (fun i wr => ∃ (j : Nat) (s : Value) (L : List (Value × Sg)), j ≤ P.funs.length ∧ i = .int .i64 j ∧ wr.heap[w.heap.size + 1 + 1]? = some (.cells #[s, .slice (some ⟨w.heap.size + 1, 0, none⟩) (P.decls.length + 1) (P.decls.length + 1), .nilFunc, .nilFunc, .nilFunc, .nilFunc, .nilFunc, .nilFunc, .nilFunc, .nilFunc, .nilFunc, .nilFunc, .nilFunc, .nilFunc, .nilFunc] 179 (0, 0)) ∧ OwnSg wr w3.heap.size s L ∧ L.map (·.2) = (P.funs.take j).map sgF ∧ Only (fun q => q = w.heap.size + 1 + 1) w3 wr) (fun i _ => P.funs.length - (intOf i).toNat)
  case atStart => exact ⟨0, .slice none 0 0, [], Nat.zero_le _, rfl, HB3.out, OwnSg.nil _ _, rfl, Only.rf _ _⟩
  case round =>
    obtain ⟨j, s, L, hj, rfl, hg, ho, hL, hon⟩ := hrel
    have HG := Lib.hid hg; have HO := Lib.hid ho; have HLM := Lib.hid hL; have HON := Lib.hid hon
    have hlen : L.length = j := by have := congrArg List.length hL; simp at this; omega
    obtain ⟨As, cs, rfl⟩ := own_shapeL ho.own
    have hxw : Ext w wr := HE3.out.trans (hon.below HE3.out.size (fun q e => by omega))
    have HXW := Lib.hid hxw
    clear hg ho hL hon hxw
    by_cases hlt : j < P.funs.length
    · obtain ⟨b, o, vp, xa, xc, kf, rfl, hbl, y0, y1, y2, yc, y3, y4, y5⟩ := HF.out.at_ hlt
      have HRP := Lib.hid (y4.below HXW.out)
      obtain ⟨Ap, cp, rfl, -, -⟩ := y4.form
      obtain ⟨_, ⟨Aa, ca, rfl, -, -⟩, ⟨Bb, cb, rfl, -, -⟩⟩ := y5.form
      have y0 := HXW.out.keep y0
      have y1 := HXW.out.keep y1
      have y2 := HXW.out.keep y2
      have c0 := HXW.out.keep yc.c0
      have c1 := HXW.out.keep yc.c1
      have c2 := HXW.out.keep yc.c2
      have c3 := HXW.out.keep yc.c3
      have c4 := HXW.out.keep yc.c4
      have c5 := HXW.out.keep yc.c5
      have HTK : Hid ((P.funs.take (j + 1)).map sgF = (P.funs.take j).map sgF ++ [sgF P.funs[j]]) := by
        show _ = _
        rw [List.take_succ_eq_append_getElem hlt, List.map_append]; rfl
      have HPSL : Hid ((P.funs[j]).ps.length ≤ 1000000) := HPL.out _ (List.getElem_mem hlt)
      clear yc y4 y5
      generalize P.funs[j] = f at *
      go_upto_region 5 with fail
      obtain ⟨vals, hvals⟩ : ∃ vals : Nat → Value, vals = fun j => if j = 0 then .pointer (some ⟨w.heap.size + 1 + 1, 0, none⟩) else if j = 1 then .pointer (some ⟨w.heap.size + 1 + 1, 0, none⟩) else if j = 2 then .pointer (some ⟨w.heap.size + 1 + 1, 0, none⟩) else if j = 3 then .pointer (some ⟨w.heap.size + 1 + 1, 0, none⟩) else if j = 4 then .slice As L.length cs else if j = 5 then fV f (.slice Ap f.ps.length cp) (.slice Aa f.body.args.length ca) (.slice Bb f.body.cls.length cb) else undef := ⟨_, rfl⟩
      have HV0 : Hid (vals 0 = .pointer (some ⟨w.heap.size + 1 + 1, 0, none⟩)) := by show _ = _; rw [hvals]; rfl
      have HV1 : Hid (vals 1 = .pointer (some ⟨w.heap.size + 1 + 1, 0, none⟩)) := by show _ = _; rw [hvals]; rfl
      have HV2 : Hid (vals 2 = .pointer (some ⟨w.heap.size + 1 + 1, 0, none⟩)) := by show _ = _; rw [hvals]; rfl
      have HV3 : Hid (vals 3 = .pointer (some ⟨w.heap.size + 1 + 1, 0, none⟩)) := by show _ = _; rw [hvals]; rfl
      have HV4 : Hid (vals 4 = .slice As L.length cs) := by show _ = _; rw [hvals]; rfl
      have HV5 : Hid (vals 5 = fV f (.slice Ap f.ps.length cp) (.slice Aa f.body.args.length ca) (.slice Bb f.body.cls.length cb)) := by show _ = _; rw [hvals]; rfl
      clear hvals
      have HB8 := Lib.hid (heapNew wr (.cells #[.string f.nm, .slice Ap f.ps.length cp, .int .i64 f.res, .int .i64 f.body.op, .int .i64 f.body.n, .string f.body.nm, .int .i64 f.body.ty, .slice Aa f.body.args.length ca, .slice Bb f.body.cls.length cb] 52))
      have HE8 := Lib.hid (Ext.al wr (.cells #[.string f.nm, .slice Ap f.ps.length cp, .int .i64 f.res, .int .i64 f.body.op, .int .i64 f.body.n, .string f.body.nm, .int .i64 f.body.ty, .slice Aa f.body.args.length ca, .slice Bb f.body.cls.length cb] 52))
      have hwr : w3.heap.size ≤ wr.heap.size := HON.out.size
      generalize World.alloc wr _ = w8 at *
      clear y0 y1 y2 c0 c1 c2 c3 c4 c5
      have HLN := Lib.hid hlen
      clear hlen
      refine wp_region_invCE hmx (by kernel_rfl) (fun Ls a W => ∃ vv : Nat → Value, a = { tmps := #[pV (.slice Ad P.decls.length cd) (.slice (some ⟨b, o, none⟩) P.funs.length cf), .pointer (some ⟨w.heap.size, 0, none⟩), .pointer none, .pointer (some ⟨w.heap.size + 1 + 1, 0, none⟩), undef, .pointer (some ⟨wr.heap.size, 0, none⟩), undef, undef, undef, .pointer (some ⟨w.heap.size, 0, none⟩), .slice Ad P.decls.length cd, .int .i64 (P.decls.length : Int), .int .i64 ((P.decls.length : Int) + 1), .slice (some ⟨w.heap.size + 1, 0, none⟩) (P.decls.length + 1) (P.decls.length + 1), .agg #[.slice none 0 0, .slice (some ⟨w.heap.size + 1, 0, none⟩) (P.decls.length + 1) (P.decls.length + 1), .nilFunc, .nilFunc, .nilFunc, .nilFunc, .nilFunc, .nilFunc, .nilFunc, .nilFunc, .nilFunc, .nilFunc, .nilFunc, .nilFunc, .nilFunc], .pointer (some ⟨w.heap.size + 1 + 1, 0, none⟩), .pointer (some ⟨w.heap.size, 1, none⟩), .slice (some ⟨b, o, none⟩) P.funs.length cf, .int .i64 (P.funs.length : Int), .int .i64 (j : Int), .bool true, .pointer (some ⟨b, o + j * 9, none⟩), .agg #[.string f.nm, .slice Ap f.ps.length cp, .int .i64 f.res, .int .i64 f.body.op, .int .i64 f.body.n, .string f.body.nm, .int .i64 f.body.ty, .slice Aa f.body.args.length ca, .slice Bb f.body.cls.length cb], vv 0, vv 1, vv 2, vv 3, vv 4, vv 5, vv 6, vv 7, vv 8, vv 9, vv 10, u34, undef, undef, undef, undef, undef, undef, undef, undef, undef, undef, undef, undef, undef, undef, undef, undef, undef, undef, undef, undef, undef, undef, undef, undef, undef, undef, undef, undef, undef, undef, undef, undef, undef, undef, undef, undef, undef, undef, undef, undef, undef, undef, undef, undef, undef, undef, undef, undef, undef, undef, undef, undef, undef, undef, undef, undef, undef, undef, undef, undef, undef, undef, undef, undef, undef, undef, undef, undef, undef, undef], defers := [] } ∧ (PhA w8 (FN1 vals (sgF f) w3.heap.size) 8 Ls W vv ∨
          (Ls 8 = true ∧ Ls 11 = false ∧ (∀ i, i < 9 → i ≠ 0 → Ls i = true) ∧ W.heap[w.heap.size + 1 + 1]? = some (.cells #[.slice As L.length cs, .slice (some ⟨w.heap.size + 1, 0, none⟩) (P.decls.length + 1) (P.decls.length + 1), .nilFunc, .nilFunc, .nilFunc, .nilFunc, .nilFunc, .nilFunc, .nilFunc, .nilFunc, .nilFunc, .nilFunc, .nilFunc, .nilFunc, .nilFunc] 179 (0, 0)) ∧ (∃ A9 c9 v, vv 8 = .slice A9 (L.length + 1) c9 ∧ OwnSg W w3.heap.size (.slice A9 (L.length + 1) c9) (L ++ [(v, sgF f)])) ∧ Only (fun q => q = w.heap.size + 1 + 1) w3 W ∧ (Ls 0 = true → vv 0 = .pointer (some ⟨w.heap.size + 1 + 1, 0, none⟩)) ∧ (Ls 9 = true → vv 9 = .pointer (some ⟨w.heap.size + 1 + 1, 0, none⟩)) ∧ (Ls 10 = true → vv 10 = .pointer (some ⟨w.heap.size + 1 + 1, 0, none⟩))) ∨
          ((∀ i, i < 12 → Ls i = true) ∧ ∃ s' v, W.heap[w.heap.size + 1 + 1]? = some (.cells #[s', .slice (some ⟨w.heap.size + 1, 0, none⟩) (P.decls.length + 1) (P.decls.length + 1), .nilFunc, .nilFunc, .nilFunc, .nilFunc, .nilFunc, .nilFunc, .nilFunc, .nilFunc, .nilFunc, .nilFunc, .nilFunc, .nilFunc, .nilFunc] 179 (0, 0)) ∧ OwnSg W w3.heap.size s' (L ++ [(v, sgF f)]) ∧ Only (fun q => q = w.heap.size + 1 + 1) w3 W))) ?_ ?_ ?_
      · exact ⟨fun k => if k = 0 then u23 else if k = 1 then u24 else if k = 2 then u25 else if k = 3 then u26 else if k = 4 then u27 else if k = 5 then u28 else if k = 6 then u29 else if k = 7 then u30 else if k = 8 then u31 else if k = 9 then u32 else if k = 10 then u33 else undef, rfl, .inl (PhA.zero _ _ _ _)⟩
      · intro Ls a W i op ho hpre hl hc hI Kk HKk
        have hi : i < 12 := (Array.getElem?_eq_some_iff.1 ho).1
        obtain ⟨vv, rfl, hI | ⟨h8, h11, hall, hgW, ⟨A9, c9, v9, e8, ho9⟩, honW, k0, k9, k10⟩ | hI⟩ := hI
        · have HPA := Lib.hid hI
          have HL8 := Lib.hid hI.not
          have hcs : i = 0 ∨ i = 1 ∨ i = 2 ∨ i = 3 ∨ i = 4 ∨ i = 5 ∨ i = 6 ∨ i = 7 ∨ i = 8 ∨ i = 9 ∨ i = 10 ∨ i = 11 := by omega
          rcases hcs with rfl | rfl | rfl | rfl | rfl | rfl | rfl | rfl | rfl | rfl | rfl | rfl
          all_goals
            obtain rfl := Option.some.inj ho
            clear ho hi hI
          · clear hpre
            go_simp
            exact HKk.out _ _ ⟨_, rfl, .inl (HPA.out.put (v := .pointer (some ⟨w.heap.size + 1 + 1, 0, none⟩)) FN1.ext (by decide) (Ext.rf _) ⟨fun _ => HV0.out.symm, fun h => absurd h (by decide), fun h => absurd h (by decide)⟩)⟩
          · clear hpre
            go_simp
            exact HKk.out _ _ ⟨_, rfl, .inl (HPA.out.put (v := .pointer (some ⟨w.heap.size + 1 + 1, 0, none⟩)) FN1.ext (by decide) (Ext.rf _) ⟨fun _ => HV1.out.symm, fun h => absurd h (by decide), fun h => absurd h (by decide)⟩)⟩
          · simp [Region.binds] at hpre
            have e1 : vv 1 = _ := (HPA.out.facts 1 (by decide) (by simp [hpre])).1 (by decide)
            rw [HV1.out] at e1
            go_simp
            exact HKk.out _ _ ⟨_, by simp [e1], .inl (HPA.out.put (v := .pointer (some ⟨w.heap.size + 1 + 1, 0, none⟩)) FN1.ext (by decide) (Ext.rf _) ⟨fun _ => HV2.out.symm, fun h => absurd h (by decide), fun h => absurd h (by decide)⟩)⟩
          · simp [Region.binds] at hpre
            have e2 : vv 2 = _ := (HPA.out.facts 2 (by decide) (by simp [hpre])).1 (by decide)
            rw [HV2.out] at e2
            go_simp
            exact HKk.out _ _ ⟨_, by simp [e2], .inl (HPA.out.put (v := .pointer (some ⟨w.heap.size + 1 + 1, 0, none⟩)) FN1.ext (by decide) (Ext.rf _) ⟨fun _ => HV3.out.symm, fun h => absurd h (by decide), fun h => absurd h (by decide)⟩)⟩
          · simp [Region.binds] at hpre
            have e3 : vv 3 = _ := (HPA.out.facts 3 (by decide) (by simp [hpre])).1 (by decide)
            rw [HV3.out] at e3
            have g0 := (HE8.out.tr HPA.out.ext).keep (cellAt HG.out 0)
            go_simp
            exact HKk.out _ _ ⟨_, by simp [e3], .inl (HPA.out.put (v := .slice As L.length cs) FN1.ext (by decide) (Ext.rf _) ⟨fun _ => HV4.out.symm, fun h => absurd h (by decide), fun h => absurd h (by decide)⟩)⟩
          · clear hpre
            have c0 := HPA.out.ext.keep (cellAt HB8.out 0)
            have c1 := HPA.out.ext.keep (cellAt HB8.out 1)
            have c2 := HPA.out.ext.keep (cellAt HB8.out 2)
            have c3 := HPA.out.ext.keep (cellAt HB8.out 3)
            have c4 := HPA.out.ext.keep (cellAt HB8.out 4)
            have c5 := HPA.out.ext.keep (cellAt HB8.out 5)
            have c6 := HPA.out.ext.keep (cellAt HB8.out 6)
            have c7 := HPA.out.ext.keep (cellAt HB8.out 7)
            have c8 := HPA.out.ext.keep (cellAt HB8.out 8)
            go_simp
            exact HKk.out _ _ ⟨_, rfl, .inl (HPA.out.put (v := fV f (.slice Ap f.ps.length cp) (.slice Aa f.body.args.length ca) (.slice Bb f.body.cls.length cb)) FN1.ext (by decide) (Ext.rf _) ⟨fun _ => HV5.out.symm, fun h => absurd h (by decide), fun h => absurd h (by decide)⟩)⟩
          · simp [Region.binds] at hpre
            have e5 : vv 5 = _ := (HPA.out.facts 5 (by decide) (by simp [hpre])).1 (by decide)
            rw [HV5.out] at e5
            go_simp
            (refine (ofFun_any f _ _ _ W (HRP.out.below (HE8.out.tr HPA.out.ext)) HPSL.out ⟨_, _, _, rfl⟩ ⟨_, _, _, rfl⟩).mono ?_)
            rintro e W' ⟨⟨v, rfl, hv⟩, hb⟩
            have hv : World.ownsRow W' W.heap.size 3 1 v (sgF f).args.length ((sgF f).args.map (Value.int .i64)) := hv
            obtain ⟨Av, cv, rfl⟩ := own_shapeL hv
            exact HKk.out _ _ ⟨_, by simp [e5], .inl (HPA.out.put (v := .agg #[.slice Av (sgF f).args.length cv, .int .i64 f.res]) FN1.ext (by decide) hb ⟨fun h => absurd h (by decide), fun _ => ⟨Av, cv, rfl, own_base hv (Nat.le_trans hwr (HE8.out.tr HPA.out.ext).size)⟩, fun h => absurd h (by decide)⟩)⟩
          · simp [Region.binds] at hpre
            obtain ⟨Av, cv, e6, hv⟩ := (HPA.out.facts 6 (by decide) (by simp [hpre])).2.1 rfl
            go_simp
            exact HKk.out _ _ ⟨_, by simp [e6], .inl (HPA.out.put (v := .slice (some ⟨W.heap.size, 0, none⟩) 1 1) FN1.ext (by decide) (Ext.al _ _) ⟨fun h => absurd h (by decide), fun h => absurd h (by decide), fun _ => ⟨Av, cv, W.heap.size, rfl, heapNew _ _, own_below hv (Ext.al _ _)⟩⟩)⟩
          · have h4 := hpre ⟨4, .data⟩ (by simp) rfl
            have h7 := hpre ⟨7, .data⟩ (by simp) rfl
            have h3 := hc 4 _ rfl h4 ⟨3, .data⟩ (by simp) rfl
            have h2 := hc 3 _ rfl h3 ⟨2, .data⟩ (by simp) rfl
            have h1 := hc 2 _ rfl h2 ⟨1, .data⟩ (by simp) rfl
            have h6 := hc 7 _ rfl h7 ⟨6, .data⟩ (by simp) rfl
            have h5 := hc 6 _ rfl h6 ⟨5, .data⟩ (by simp) rfl
            have hno : Ls 9 = false ∧ Ls 10 = false ∧ Ls 11 = false := by
              refine ⟨?_, ?_, ?_⟩
              · cases hq : Ls 9
                · rfl
                · have := hc 9 _ rfl hq ⟨8, .phase⟩ (by simp) rfl
                  rw [HL8.out] at this; cases this
              · cases hq : Ls 10
                · rfl
                · have := hc 10 _ rfl hq ⟨8, .phase⟩ (by simp) rfl
                  rw [HL8.out] at this; cases this
              · cases hq : Ls 11
                · rfl
                · have := hc 11 _ rfl hq ⟨8, .phase⟩ (by simp) rfl
                  rw [HL8.out] at this; cases this
            have e4 : vv 4 = _ := (HPA.out.facts 4 (by decide) h4).1 (by decide)
            rw [HV4.out] at e4
            obtain ⟨Av, cv, q, e7, hq7, hv⟩ := (HPA.out.facts 7 (by decide) h7).2.2 rfl
            have HX8 := Lib.hid (HE8.out.tr HPA.out.ext)
            have hosg := HO.out.below HX8.out
            have hgW := (HX8.out.block _ (heap_lt HG.out)).trans HG.out
            have hf0 : Ls 0 = true → vv 0 = _ := fun h0 => ((HPA.out.facts 0 (by decide) h0).1 (by decide)).trans HV0.out
            split
            · refine app_row (t := 174) (e := 181) (size := 2) (bytes := 32) Tryz.undSg Tryz.infoSg (by decide) (by decide) (.tmp 27) (.tmp 30) rfl w3.heap.size (.slice As L.length cs) L.length (cellsS L) e4 hosg.own (some ⟨q, 0, none⟩) 1 1 [.slice Av (sgF f).args.length cv, .int .i64 (sgF f).res] e7 (SrcN.oneS hq7) (fun u hu => by simp at hu; rcases hu with rfl | rfl <;> rfl) (by have := HLN.out; unfold maxLen; omega) (by have := HLN.out; omega) (Nat.le_trans hwr HX8.out.size) (fun v' W' ho hg hat => ?_)
              obtain ⟨A9, c9, rfl⟩ := own_shapeL ho
              have hosg' := hosg.app (x := (.slice Av (sgF f).args.length cv, sgF f)) hv hg ho
              have hlt8 : w.heap.size + 1 + 1 < W.heap.size := heap_lt hgW
              have hbw : Below w3.heap.size W W' := Below.grown (Below.refl _ _) hg (Nat.le_trans hwr HX8.out.size) (fun k e => (hosg.own.lt k e).1)
              refine HKk.out _ _ ⟨fun j => if j = 8 then .slice A9 (L.length + 1) c9 else vv j, rfl, .inr (.inl ⟨by simp, by simp [hno.2.2], fun i hi h0 => ?_, (hg.block _ hlt8 (own_neE hosg.own hgW (by decide))).trans hgW, ⟨A9, c9, _, by simp, hosg'⟩, (HON.out.andBelow (HX8.out.mono hwr)).andBelow hbw, fun h0 => ?_, fun h9 => ?_, fun h10 => ?_⟩)⟩
              · rcases (show i = 1 ∨ i = 2 ∨ i = 3 ∨ i = 4 ∨ i = 5 ∨ i = 6 ∨ i = 7 ∨ i = 8 by omega) with rfl | rfl | rfl | rfl | rfl | rfl | rfl | rfl <;> simp [*]
              · simp at h0; simp; exact hf0 h0
              · simp [hno.1] at h9
              · simp [hno.2.1] at h10
            · rename_i hw
              exact absurd (by rfl) hw
          · exfalso
            have := hpre ⟨8, .phase⟩ (by simp) rfl
            rw [HL8.out] at this; cases this
          · exfalso
            have := hpre ⟨8, .phase⟩ (by simp) rfl
            rw [HL8.out] at this; cases this
          · exfalso
            have := hpre ⟨8, .phase⟩ (by simp) rfl
            rw [HL8.out] at this; cases this
        · have hcs : i = 0 ∨ i = 1 ∨ i = 2 ∨ i = 3 ∨ i = 4 ∨ i = 5 ∨ i = 6 ∨ i = 7 ∨ i = 8 ∨ i = 9 ∨ i = 10 ∨ i = 11 := by omega
          rcases hcs with rfl | rfl | rfl | rfl | rfl | rfl | rfl | rfl | rfl | rfl | rfl | rfl
          · obtain rfl := Option.some.inj ho
            clear ho hi hpre hc
            go_simp
            refine HKk.out _ _ ⟨fun j => if j = 0 then .pointer (some ⟨w.heap.size + 1 + 1, 0, none⟩) else vv j, by simp [e8], .inr (.inl ⟨by simp [h8], by simp [h11], fun i hi h0 => by simp [hall i hi h0], hgW, ⟨A9, c9, v9, by simp [e8], ho9⟩, honW, fun _ => by simp, fun h9 => ?_, fun h10 => ?_⟩)⟩
            · simp at h9; simp; exact k9 h9
            · simp at h10; simp; exact k10 h10
          · rw [hall 1 (by decide) (by decide)] at hl; cases hl
          · rw [hall 2 (by decide) (by decide)] at hl; cases hl
          · rw [hall 3 (by decide) (by decide)] at hl; cases hl
          · rw [hall 4 (by decide) (by decide)] at hl; cases hl
          · rw [hall 5 (by decide) (by decide)] at hl; cases hl
          · rw [hall 6 (by decide) (by decide)] at hl; cases hl
          · rw [hall 7 (by decide) (by decide)] at hl; cases hl
          · rw [hall 8 (by decide) (by decide)] at hl; cases hl
          · obtain rfl := Option.some.inj ho
            have h0 := hpre ⟨0, .data⟩ (by simp) rfl
            have e0 := k0 h0
            clear ho hi hpre hc
            go_simp
            refine HKk.out _ _ ⟨fun j => if j = 9 then .pointer (some ⟨w.heap.size + 1 + 1, 0, none⟩) else vv j, by simp [e0, e8], .inr (.inl ⟨by simp [h8], by simp [h11], fun i hi h0 => by simp [hall i hi h0], hgW, ⟨A9, c9, v9, by simp [e8], ho9⟩, honW, fun _ => by simp [e0], fun _ => by simp, fun h10 => ?_⟩)⟩
            simp at h10; simp; exact k10 h10
          · obtain rfl := Option.some.inj ho
            have h0 := hpre ⟨9, .data⟩ (by simp) rfl
            have h00 := hpre ⟨0, .phase⟩ (by simp) rfl
            have e9 := k9 h0
            have e0 := k0 h00
            clear ho hi hpre hc
            go_simp
            refine HKk.out _ _ ⟨fun j => if j = 10 then .pointer (some ⟨w.heap.size + 1 + 1, 0, none⟩) else vv j, by simp [e9, e0, e8], .inr (.inl ⟨by simp [h8], by simp [h11], fun i hi h0 => by simp [hall i hi h0], hgW, ⟨A9, c9, v9, by simp [e8], ho9⟩, honW, fun _ => by simp [e0], fun _ => by simp [e9], fun _ => by simp⟩)⟩
          · obtain rfl := Option.some.inj ho
            have h10 := hpre ⟨10, .data⟩ (by simp) rfl
            have h0 := hpre ⟨0, .phase⟩ (by simp) rfl
            have h9 := hc 10 _ rfl h10 ⟨9, .data⟩ (by simp) rfl
            have e10 := k10 h10
            have e0 := k0 h0
            have e9 := k9 h9
            have g0 := cellAt hgW 0
            have f0 := frozenAt hgW 0
            clear ho hi hpre hc
            go_simp
            refine HKk.out _ _ ⟨vv, by simp [e10, e8, e0, e9], .inr (.inr ⟨fun i hi => ?_, .slice A9 (L.length + 1) c9, v9, ?_, ho9.set hgW (by decide) (by decide) 0 _, honW.tr (Only.setCell (C := fun q => q = w.heap.size + 1 + 1) (p := ⟨w.heap.size + 1 + 1, 0, none⟩) rfl _ _)⟩)⟩
            · by_cases hi0 : i = 0
              · subst hi0; simp [h0]
              · by_cases hi9 : i < 9
                · simp [hall i hi9 hi0]
                · rcases (show i = 9 ∨ i = 10 ∨ i = 11 by omega) with rfl | rfl | rfl <;> simp [h9, h10]
            · simp [World.setCell, Array.getElem?_modify, hgW]
        · exfalso
          rw [hI.1 i hi] at hl; cases hl
      · intro Ls a W hall hI
        obtain ⟨vv, rfl, hI | ⟨-, h11, -⟩ | ⟨-, s', v, hgW, hosg, honW⟩⟩ := hI
        · have := hall 8 (by decide); rw [hI.not] at this; cases this
        · have := hall 11 (by decide); rw [h11] at this; cases this
        · have HGW := Lib.hid hgW; have HOW := Lib.hid hosg; have HOnW := Lib.hid honW
          clear hgW hosg honW hall
          go_wp2
          exact ⟨⟨j + 1, s', L ++ [(v, sgF f)], by omega, by go_num, HGW.out, HOW.out, by rw [List.map_append, HLM.out, HTK.out]; rfl, HOnW.out⟩, by simp [intOf]; omega⟩
    · have hje : j = P.funs.length := by omega
      subst hje
      have HLF : Hid (L.map (·.2) = P.funs.map sgF) := by show _ = _; rw [HLM.out, List.take_of_length_le (Nat.le_refl _)]
      have hz3 : w.heap.size + 1 + 1 < w3.heap.size := by have := HS3.out; omega
      have HBX := Lib.hid ((HON.out.block w.heap.size (by omega) (by omega)).trans HB1.out)
      have HBR := Lib.hid ((HON.out.block (w.heap.size + 1) (by omega) (by omega)).trans HB2.out)
      have HZ3 := Lib.hid hz3
      have p0 := cellAt HBX.out 0
      have hwl : w3.heap.size ≤ wr.heap.size := HON.out.size
      generalize wr = wl at *
      clear hlen hz3
      go_wp2
      clear p0
      go_loopw [38] (fun i wo => ∃ (u : Nat) (C : Array Value), u ≤ P.decls.length ∧ i = .int .i64 u ∧ wo.heap[w.heap.size + 1]? = some (.cells C 174 (0, 0)) ∧ RowsOK P w3.heap.size wo C u ∧ Only (fun q => q = w.heap.size + 1) wl wo) (fun i _ => P.decls.length - (intOf i).toNat)
      case atStart => exact ⟨0, _, Nat.zero_le _, rfl, HBR.out, RowsOK.start _ _ _, Only.rf _ _⟩
      case round =>
        obtain ⟨u, C, hu, rfl, hc, hrow, hon2⟩ := hrel
        have HC := Lib.hid hc; have HRW := Lib.hid hrow; have HO2 := Lib.hid hon2
        have HXO : Hid (Ext w wr) := HXW.out.trans (hon2.below HXW.out.size (fun q e => by omega))
        have hwo : w3.heap.size ≤ wr.heap.size := Nat.le_trans hwl hon2.size
        have HGO := Lib.hid ((hon2.block (w.heap.size + 1 + 1) (heap_lt HG.out) (by omega)).trans HG.out)
        have HBXO := Lib.hid ((hon2.block w.heap.size (heap_lt HBX.out) (by omega)).trans HBX.out)
        clear hc hrow hon2
        by_cases hlt : u < P.decls.length
        · obtain ⟨b, o, vx, rfl, hbl, h0, h1, h2, h3, -⟩ := HD.out.at_ hlt
          obtain ⟨A2, c2, rfl, hc2, hm2⟩ := h3.form
          have h0 := HXO.out.keep h0
          have h1 := HXO.out.keep h1
          have h2 := HXO.out.keep h2
          have HDU := Lib.hid (List.getElem?_eq_getElem hlt)
          have HXLU := Lib.hid (HXL.out u _ HDU.out)
          have HRESU := Lib.hid (HRES.out u)
          clear h3
          generalize P.decls[u] = d at *
          have hxn : d.xtors.length ≤ 1000000 := HXLU.out.1
          generalize wr = wo at *
          have HE9 := Lib.hid (Ext.al wo (.cells #[.string d.name, .bool d.codata, .slice A2 d.xtors.length c2] 137))
          have HB9 := Lib.hid (heapNew wo (.cells #[.string d.name, .bool d.codata, .slice A2 d.xtors.length c2] 137))
          unfold maxLen at hm2
          go_wp2
          clear h0 h1 h2
          generalize hw9 : World.alloc wo _ = w9 at *
          have hs9 : w9.heap.size = wo.heap.size + 1 := by rw [← hw9, World.size_alloc]
          clear hw9
          have HS9 := Lib.hid hs9
          clear hs9
          have HG9 := Lib.hid ((HE9.out.block _ (heap_lt HGO.out)).trans HGO.out)
          have HC9 := Lib.hid ((HE9.out.block _ (heap_lt HC.out)).trans HC.out)
          go_loopw [46] (fun i wi => ∃ (j : Nat) (s2 : Value) (L2 : List (Value × Sg)) (C2 : Array Value), j ≤ d.xtors.length ∧ i = .int .i64 j ∧ wi.heap[w.heap.size + 1]? = some (.cells C2 174 (0, 0)) ∧ C2.size = C.size ∧ C2[u + 1]? = some s2 ∧ (∀ k, k ≠ u + 1 → C2[k]? = C[k]?) ∧ OwnSg wi w9.heap.size s2 L2 ∧ L2.map (·.2) = (d.xtors.take j).map (sgX d ((u : Int) + 1)) ∧ Only (fun q => q = w.heap.size + 1) w9 wi) (fun i _ => d.xtors.length - (intOf i).toNat)
          case atStart => exact ⟨0, _, [], C, Nat.zero_le _, rfl, HC9.out, rfl, HRW.out.rest u (Nat.le_refl _) hlt, fun _ _ => rfl, OwnSg.nil _ _, rfl, Only.rf _ _⟩
          case round =>
            obtain ⟨j, s2, L2, C2, hj2, rfl, hc, hcs, hcu, hco, ho, hL, hon⟩ := hrel
            have HCI := Lib.hid hc; have HCS := Lib.hid hcs; have HCU := Lib.hid hcu; have HCO := Lib.hid hco; have HOI := Lib.hid ho; have HLI := Lib.hid hL; have HONI := Lib.hid hon
            have hlen2 : L2.length = j := by have := congrArg List.length hL; simp at this; omega
            obtain ⟨Ar, cr, rfl⟩ := own_shapeL ho.own
            have HXI : Hid (Ext w wr) := (HXO.out.tr HE9.out).trans (hon.below (HXO.out.tr HE9.out).size (fun q e => by omega))
            have HGI := Lib.hid ((hon.block (w.heap.size + 1 + 1) (heap_lt ((HE9.out.block _ (heap_lt HGO.out)).trans HGO.out)) (by omega)).trans ((HE9.out.block _ (heap_lt HGO.out)).trans HGO.out))
            have HBXI := Lib.hid ((hon.block w.heap.size (heap_lt ((HE9.out.block _ (heap_lt HBXO.out)).trans HBXO.out)) (by omega)).trans ((HE9.out.block _ (heap_lt HBXO.out)).trans HBXO.out))
            have HWI : Hid (w9.heap.size ≤ wr.heap.size) := hon.size
            clear hc hcs hcu hco ho hL hon
            by_cases hlt2 : j < d.xtors.length
            · have HTK : Hid ((d.xtors.take (j + 1)).map (sgX d ((u : Int) + 1)) = (d.xtors.take j).map (sgX d ((u : Int) + 1)) ++ [sgX d ((u : Int) + 1) d.xtors[j]]) := by
                show _ = _
                rw [List.take_succ_eq_append_getElem hlt2, List.map_append]; rfl
              have HDX := Lib.hid (List.getElem?_eq_getElem hlt2)
              have HXA : Hid ((d.xtors[j]).args.length ≤ 1000) := HXLU.out.2 _ (List.getElem_mem hlt2)
              generalize d.xtors[j] = x at *
              go_upto_region 13 with fail
              obtain ⟨vals, hvals⟩ : ∃ vals : Nat → Value, vals = fun i => if i = 0 then .pointer (some ⟨w.heap.size + 1 + 1, 0, none⟩) else if i = 1 then .pointer (some ⟨w.heap.size + 1 + 1, 0, none⟩) else if i = 2 then .pointer (some ⟨w.heap.size + 1 + 1, 1, none⟩) else if i = 3 then .slice (some ⟨w.heap.size + 1, 0, none⟩) (P.decls.length + 1) (P.decls.length + 1) else if i = 4 then .int .i64 (u : Int) else if i = 5 then .int .i64 ((u : Int) + 1) else if i = 6 then .pointer (some ⟨w.heap.size + 1 + 1, 0, none⟩) else if i = 7 then .pointer (some ⟨w.heap.size + 1 + 1, 0, none⟩) else if i = 8 then .pointer (some ⟨w.heap.size + 1 + 1, 1, none⟩) else if i = 9 then .slice (some ⟨w.heap.size + 1, 0, none⟩) (P.decls.length + 1) (P.decls.length + 1) else if i = 10 then .int .i64 (u : Int) else if i = 11 then .int .i64 ((u : Int) + 1) else if i = 12 then .pointer (some ⟨w.heap.size + 1, u + 1, none⟩) else if i = 13 then .slice Ar L2.length cr else if i = 14 then .pointer (some ⟨w.heap.size, 0, none⟩) else if i = 15 then .slice (some ⟨b, o, none⟩) P.decls.length cd else if i = 16 then .int .i64 (u : Int) else if i = 17 then .int .i64 ((u : Int) + 1) else if i = 18 then .int .i64 (j : Int) else if i = 22 then .pointer (some ⟨w.heap.size + 1, u + 1, none⟩) else undef := ⟨_, rfl⟩
              have HV0 : Hid (vals 0 = .pointer (some ⟨w.heap.size + 1 + 1, 0, none⟩)) := by show _ = _; rw [hvals]; rfl
              have HV1 : Hid (vals 1 = .pointer (some ⟨w.heap.size + 1 + 1, 0, none⟩)) := by show _ = _; rw [hvals]; rfl
              have HV2 : Hid (vals 2 = .pointer (some ⟨w.heap.size + 1 + 1, 1, none⟩)) := by show _ = _; rw [hvals]; rfl
              have HV3 : Hid (vals 3 = .slice (some ⟨w.heap.size + 1, 0, none⟩) (P.decls.length + 1) (P.decls.length + 1)) := by show _ = _; rw [hvals]; rfl
              have HV4 : Hid (vals 4 = .int .i64 (u : Int)) := by show _ = _; rw [hvals]; rfl
              have HV5 : Hid (vals 5 = .int .i64 ((u : Int) + 1)) := by show _ = _; rw [hvals]; rfl
              have HV6 : Hid (vals 6 = .pointer (some ⟨w.heap.size + 1 + 1, 0, none⟩)) := by show _ = _; rw [hvals]; rfl
              have HV7 : Hid (vals 7 = .pointer (some ⟨w.heap.size + 1 + 1, 0, none⟩)) := by show _ = _; rw [hvals]; rfl
              have HV8 : Hid (vals 8 = .pointer (some ⟨w.heap.size + 1 + 1, 1, none⟩)) := by show _ = _; rw [hvals]; rfl
              have HV9 : Hid (vals 9 = .slice (some ⟨w.heap.size + 1, 0, none⟩) (P.decls.length + 1) (P.decls.length + 1)) := by show _ = _; rw [hvals]; rfl
              have HV10 : Hid (vals 10 = .int .i64 (u : Int)) := by show _ = _; rw [hvals]; rfl
              have HV11 : Hid (vals 11 = .int .i64 ((u : Int) + 1)) := by show _ = _; rw [hvals]; rfl
              have HV12 : Hid (vals 12 = .pointer (some ⟨w.heap.size + 1, u + 1, none⟩)) := by show _ = _; rw [hvals]; rfl
              have HV13 : Hid (vals 13 = .slice Ar L2.length cr) := by show _ = _; rw [hvals]; rfl
              have HV14 : Hid (vals 14 = .pointer (some ⟨w.heap.size, 0, none⟩)) := by show _ = _; rw [hvals]; rfl
              have HV15 : Hid (vals 15 = .slice (some ⟨b, o, none⟩) P.decls.length cd) := by show _ = _; rw [hvals]; rfl
              have HV16 : Hid (vals 16 = .int .i64 (u : Int)) := by show _ = _; rw [hvals]; rfl
              have HV17 : Hid (vals 17 = .int .i64 ((u : Int) + 1)) := by show _ = _; rw [hvals]; rfl
              have HV18 : Hid (vals 18 = .int .i64 (j : Int)) := by show _ = _; rw [hvals]; rfl
              have HV22 : Hid (vals 22 = .pointer (some ⟨w.heap.size + 1, u + 1, none⟩)) := by show _ = _; rw [hvals]; rfl
              clear hvals
              have hw1 : IntKind.wrap .i64 ((u : Int) + 1) = (u : Int) + 1 := IntWalk.i64_in _ (by omega)
              have HW1 := Lib.hid hw1
              clear hw1
              generalize wr = w12 at *
              have HLN := Lib.hid hlen2
              clear hlen2
              obtain ⟨M, hM⟩ : ∃ M : World → Value → Prop, M = fun W v => W.heap[w.heap.size + 1]? = some (.cells C2 174 (0, 0)) ∧ (∃ A9 c9 va, v = .slice A9 (L2.length + 1) c9 ∧ OwnSg W w9.heap.size (.slice A9 (L2.length + 1) c9) (L2 ++ [(va, sgX d ((u : Int) + 1) x)])) ∧ Only (fun q => q = w.heap.size + 1) w9 W := ⟨_, rfl⟩
              have HM := Lib.hid hM
              clear hM
              refine wp_region_invCE hmx (by kernel_rfl) (fun Ls a W => ∃ vv : Nat → Value, a = { tmps := #[pV (.slice (some ⟨b, o, none⟩) P.decls.length cd) (.slice Af P.funs.length cf), .pointer (some ⟨w.heap.size, 0, none⟩), .pointer none, .pointer (some ⟨w.heap.size + 1 + 1, 0, none⟩), undef, u5, .int .i64 (u : Int), .pointer (some ⟨wo.heap.size, 0, none⟩), .int .i64 (j : Int), .pointer (some ⟨w.heap.size, 0, none⟩), .slice (some ⟨b, o, none⟩) P.decls.length cd, .int .i64 (P.decls.length : Int), .int .i64 ((P.decls.length : Int) + 1), .slice (some ⟨w.heap.size + 1, 0, none⟩) (P.decls.length + 1) (P.decls.length + 1), .agg #[.slice none 0 0, .slice (some ⟨w.heap.size + 1, 0, none⟩) (P.decls.length + 1) (P.decls.length + 1), .nilFunc, .nilFunc, .nilFunc, .nilFunc, .nilFunc, .nilFunc, .nilFunc, .nilFunc, .nilFunc, .nilFunc, .nilFunc, .nilFunc, .nilFunc], .pointer (some ⟨w.heap.size + 1 + 1, 0, none⟩), .pointer (some ⟨w.heap.size, 1, none⟩), .slice Af P.funs.length cf, .int .i64 (P.funs.length : Int), .int .i64 (P.funs.length : Int), .bool false, u21, u22, u23, u24, u25, u26, u27, u28, u29, u30, u31, u32, u33, u34, .pointer (some ⟨w.heap.size, 0, none⟩), .slice (some ⟨b, o, none⟩) P.decls.length cd, .int .i64 (P.decls.length : Int), .int .i64 (u : Int), .bool true, .int .i64 (u : Int), .pointer (some ⟨b, o + u * 3, none⟩), .agg #[.string d.name, .bool d.codata, .slice A2 d.xtors.length c2], .pointer (some ⟨wo.heap.size, 2, none⟩), .slice A2 d.xtors.length c2, .int .i64 (d.xtors.length : Int), .int .i64 (j : Int), .bool true, .int .i64 (j : Int), vv 0, vv 1, vv 2, vv 3, vv 4, vv 5, vv 6, vv 7, vv 8, vv 9, vv 10, vv 11, vv 12, vv 13, vv 14, vv 15, vv 16, vv 17, vv 18, vv 19, vv 20, vv 21, vv 22, u72, u73, undef, undef, undef, undef, undef, undef, undef, undef, undef, undef, undef, undef, undef, undef, undef, undef, undef, undef, undef, undef, undef, undef, undef, undef, undef, undef, undef, undef, undef, undef, undef], defers := [] } ∧ (PhA w12 (FN3 vals (sgX d ((u : Int) + 1) x) w9.heap.size) 21 Ls W vv ∨ PhM vals M Ls W vv ∨
                ((∀ i, i < 24 → Ls i = true) ∧ ∃ s' v, W.heap[w.heap.size + 1]? = some (.cells (C2.setIfInBounds (u + 1) s') 174 (0, 0)) ∧ OwnSg W w9.heap.size s' (L2 ++ [(v, sgX d ((u : Int) + 1) x)]) ∧ Only (fun q => q = w.heap.size + 1) w9 W))) ?_ ?_ ?_
              · exact ⟨fun k => if k = 0 then u49 else if k = 1 then u50 else if k = 2 then u51 else if k = 3 then u52 else if k = 4 then u53 else if k = 5 then u54 else if k = 6 then u55 else if k = 7 then u56 else if k = 8 then u57 else if k = 9 then u58 else if k = 10 then u59 else if k = 11 then u60 else if k = 12 then u61 else if k = 13 then u62 else if k = 14 then u63 else if k = 15 then u64 else if k = 16 then u65 else if k = 17 then u66 else if k = 18 then u67 else if k = 19 then u68 else if k = 20 then u69 else if k = 21 then u70 else if k = 22 then u71 else undef, rfl, .inl (PhA.zero _ _ _ _)⟩
              · intro Ls a W i op ho hpre hl hc hI Kk HKk
                have hi : i < 24 := (Array.getElem?_eq_some_iff.1 ho).1
                obtain ⟨vv, rfl, hI | hI | hI⟩ := hI
                · have HPA := Lib.hid hI
                  have HL21 := Lib.hid hI.not
                  have hcs : i = 0 ∨ i = 1 ∨ i = 2 ∨ i = 3 ∨ i = 4 ∨ i = 5 ∨ i = 6 ∨ i = 7 ∨ i = 8 ∨ i = 9 ∨ i = 10 ∨ i = 11 ∨ i = 12 ∨ i = 13 ∨ i = 14 ∨ i = 15 ∨ i = 16 ∨ i = 17 ∨ i = 18 ∨ i = 19 ∨ i = 20 ∨ i = 21 ∨ i = 22 ∨ i = 23 := by omega
                  rcases hcs with rfl | rfl | rfl | rfl | rfl | rfl | rfl | rfl | rfl | rfl | rfl | rfl | rfl | rfl | rfl | rfl | rfl | rfl | rfl | rfl | rfl | rfl | rfl | rfl
                  all_goals
                    obtain rfl := Option.some.inj ho
                    clear ho hi hI
                  · clear hpre
                    go_simp
                    exact HKk.out _ _ ⟨_, rfl, .inl (HPA.out.put (v := .pointer (some ⟨w.heap.size + 1 + 1, 0, none⟩)) FN3.ext (by decide) (Ext.rf _) ⟨fun _ => HV0.out.symm, fun h => absurd h (by decide), fun h => absurd h (by decide)⟩)⟩
                  · simp [Region.binds] at hpre
                    have e0 : vv 0 = _ := (HPA.out.facts 0 (by decide) (by simp [hpre])).1 (by decide)
                    rw [HV0.out] at e0
                    go_simp
                    exact HKk.out _ _ ⟨_, by simp [e0], .inl (HPA.out.put (v := .pointer (some ⟨w.heap.size + 1 + 1, 0, none⟩)) FN3.ext (by decide) (Ext.rf _) ⟨fun _ => HV1.out.symm, fun h => absurd h (by decide), fun h => absurd h (by decide)⟩)⟩
                  · simp [Region.binds] at hpre
                    have e1 : vv 1 = _ := (HPA.out.facts 1 (by decide) (by simp [hpre])).1 (by decide)
                    rw [HV1.out] at e1
                    go_simp
                    exact HKk.out _ _ ⟨_, by simp [e1], .inl (HPA.out.put (v := .pointer (some ⟨w.heap.size + 1 + 1, 1, none⟩)) FN3.ext (by decide) (Ext.rf _) ⟨fun _ => HV2.out.symm, fun h => absurd h (by decide), fun h => absurd h (by decide)⟩)⟩
                  · simp [Region.binds] at hpre
                    have e2 : vv 2 = _ := (HPA.out.facts 2 (by decide) (by simp [hpre])).1 (by decide)
                    rw [HV2.out] at e2
                    have g1 := HPA.out.ext.keep (cellAt HGI.out 1)
                    go_simp
                    exact HKk.out _ _ ⟨_, by simp [e2], .inl (HPA.out.put (v := .slice (some ⟨w.heap.size + 1, 0, none⟩) (P.decls.length + 1) (P.decls.length + 1)) FN3.ext (by decide) (Ext.rf _) ⟨fun _ => HV3.out.symm, fun h => absurd h (by decide), fun h => absurd h (by decide)⟩)⟩
                  · clear hpre
                    go_simp
                    exact HKk.out _ _ ⟨_, rfl, .inl (HPA.out.put (v := .int .i64 (u : Int)) FN3.ext (by decide) (Ext.rf _) ⟨fun _ => HV4.out.symm, fun h => absurd h (by decide), fun h => absurd h (by decide)⟩)⟩
                  · simp [Region.binds] at hpre
                    have e4 : vv 4 = _ := (HPA.out.facts 4 (by decide) (by simp [hpre])).1 (by decide)
                    rw [HV4.out] at e4
                    have hw1 := HW1.out
                    go_simp
                    exact HKk.out _ _ ⟨_, by simp [e4], .inl (HPA.out.put (v := .int .i64 ((u : Int) + 1)) FN3.ext (by decide) (Ext.rf _) ⟨fun _ => HV5.out.symm, fun h => absurd h (by decide), fun h => absurd h (by decide)⟩)⟩
                  · clear hpre
                    go_simp
                    exact HKk.out _ _ ⟨_, rfl, .inl (HPA.out.put (v := .pointer (some ⟨w.heap.size + 1 + 1, 0, none⟩)) FN3.ext (by decide) (Ext.rf _) ⟨fun _ => HV6.out.symm, fun h => absurd h (by decide), fun h => absurd h (by decide)⟩)⟩
                  · simp [Region.binds] at hpre
                    have e6 : vv 6 = _ := (HPA.out.facts 6 (by decide) (by simp [hpre])).1 (by decide)
                    rw [HV6.out] at e6
                    go_simp
                    exact HKk.out _ _ ⟨_, by simp [e6], .inl (HPA.out.put (v := .pointer (some ⟨w.heap.size + 1 + 1, 0, none⟩)) FN3.ext (by decide) (Ext.rf _) ⟨fun _ => HV7.out.symm, fun h => absurd h (by decide), fun h => absurd h (by decide)⟩)⟩
                  · simp [Region.binds] at hpre
                    have e7 : vv 7 = _ := (HPA.out.facts 7 (by decide) (by simp [hpre])).1 (by decide)
                    rw [HV7.out] at e7
                    go_simp
                    exact HKk.out _ _ ⟨_, by simp [e7], .inl (HPA.out.put (v := .pointer (some ⟨w.heap.size + 1 + 1, 1, none⟩)) FN3.ext (by decide) (Ext.rf _) ⟨fun _ => HV8.out.symm, fun h => absurd h (by decide), fun h => absurd h (by decide)⟩)⟩
                  · simp [Region.binds] at hpre
                    have e8 : vv 8 = _ := (HPA.out.facts 8 (by decide) (by simp [hpre])).1 (by decide)
                    rw [HV8.out] at e8
                    have g1 := HPA.out.ext.keep (cellAt HGI.out 1)
                    go_simp
                    exact HKk.out _ _ ⟨_, by simp [e8], .inl (HPA.out.put (v := .slice (some ⟨w.heap.size + 1, 0, none⟩) (P.decls.length + 1) (P.decls.length + 1)) FN3.ext (by decide) (Ext.rf _) ⟨fun _ => HV9.out.symm, fun h => absurd h (by decide), fun h => absurd h (by decide)⟩)⟩
                  · clear hpre
                    go_simp
                    exact HKk.out _ _ ⟨_, rfl, .inl (HPA.out.put (v := .int .i64 (u : Int)) FN3.ext (by decide) (Ext.rf _) ⟨fun _ => HV10.out.symm, fun h => absurd h (by decide), fun h => absurd h (by decide)⟩)⟩
                  · simp [Region.binds] at hpre
                    have e10 : vv 10 = _ := (HPA.out.facts 10 (by decide) (by simp [hpre])).1 (by decide)
                    rw [HV10.out] at e10
                    have hw1 := HW1.out
                    go_simp
                    exact HKk.out _ _ ⟨_, by simp [e10], .inl (HPA.out.put (v := .int .i64 ((u : Int) + 1)) FN3.ext (by decide) (Ext.rf _) ⟨fun _ => HV11.out.symm, fun h => absurd h (by decide), fun h => absurd h (by decide)⟩)⟩
                  · simp [Region.binds] at hpre
                    have e9 : vv 9 = _ := (HPA.out.facts 9 (by decide) (by simp [hpre])).1 (by decide)
                    rw [HV9.out] at e9
                    have e11 : vv 11 = _ := (HPA.out.facts 11 (by decide) (by simp [hpre])).1 (by decide)
                    rw [HV11.out] at e11
                    go_simp
                    exact HKk.out _ _ ⟨_, by simp [e9, e11, Act.put], .inl (HPA.out.put (v := .pointer (some ⟨w.heap.size + 1, u + 1, none⟩)) FN3.ext (by decide) (Ext.rf _) ⟨fun _ => HV12.out.symm, fun h => absurd h (by decide), fun h => absurd h (by decide)⟩)⟩
                  · simp [Region.binds] at hpre
                    have e12 : vv 12 = _ := (HPA.out.facts 12 (by decide) (by simp [hpre])).1 (by decide)
                    rw [HV12.out] at e12
                    have g2 := HPA.out.ext.keep (cellAt HCI.out (u + 1) HCU.out)
                    go_simp
                    exact HKk.out _ _ ⟨_, by simp [e12], .inl (HPA.out.put (v := .slice Ar L2.length cr) FN3.ext (by decide) (Ext.rf _) ⟨fun _ => HV13.out.symm, fun h => absurd h (by decide), fun h => absurd h (by decide)⟩)⟩
                  · clear hpre
                    go_simp
                    exact HKk.out _ _ ⟨_, rfl, .inl (HPA.out.put (v := .pointer (some ⟨w.heap.size, 0, none⟩)) FN3.ext (by decide) (Ext.rf _) ⟨fun _ => HV14.out.symm, fun h => absurd h (by decide), fun h => absurd h (by decide)⟩)⟩
                  · simp [Region.binds] at hpre
                    have e14 : vv 14 = _ := (HPA.out.facts 14 (by decide) (by simp [hpre])).1 (by decide)
                    rw [HV14.out] at e14
                    have g0 := HPA.out.ext.keep (cellAt HBXI.out 0)
                    go_simp
                    exact HKk.out _ _ ⟨_, by simp [e14], .inl (HPA.out.put (v := .slice (some ⟨b, o, none⟩) P.decls.length cd) FN3.ext (by decide) (Ext.rf _) ⟨fun _ => HV15.out.symm, fun h => absurd h (by decide), fun h => absurd h (by decide)⟩)⟩
                  · clear hpre
                    go_simp
                    exact HKk.out _ _ ⟨_, rfl, .inl (HPA.out.put (v := .int .i64 (u : Int)) FN3.ext (by decide) (Ext.rf _) ⟨fun _ => HV16.out.symm, fun h => absurd h (by decide), fun h => absurd h (by decide)⟩)⟩
                  · simp [Region.binds] at hpre
                    have e16 : vv 16 = _ := (HPA.out.facts 16 (by decide) (by simp [hpre])).1 (by decide)
                    rw [HV16.out] at e16
                    have hw1 := HW1.out
                    go_simp
                    exact HKk.out _ _ ⟨_, by simp [e16], .inl (HPA.out.put (v := .int .i64 ((u : Int) + 1)) FN3.ext (by decide) (Ext.rf _) ⟨fun _ => HV17.out.symm, fun h => absurd h (by decide), fun h => absurd h (by decide)⟩)⟩
                  · clear hpre
                    go_simp
                    exact HKk.out _ _ ⟨_, rfl, .inl (HPA.out.put (v := .int .i64 (j : Int)) FN3.ext (by decide) (Ext.rf _) ⟨fun _ => HV18.out.symm, fun h => absurd h (by decide), fun h => absurd h (by decide)⟩)⟩
                  · simp [Region.binds] at hpre
                    have e15 : vv 15 = _ := (HPA.out.facts 15 (by decide) (by simp [hpre])).1 (by decide)
                    rw [HV15.out] at e15
                    have e17 : vv 17 = _ := (HPA.out.facts 17 (by decide) (by simp [hpre])).1 (by decide)
                    rw [HV17.out] at e17
                    have e18 : vv 18 = _ := (HPA.out.facts 18 (by decide) (by simp [hpre])).1 (by decide)
                    rw [HV18.out] at e18
                    go_simp
                    (refine (ofXtor_any _ P.decls u j d x W (HD.out.below (HXI.out.tr HPA.out.ext)) HDU.out HDX.out (HRESU.out j d x HDU.out HDX.out) HXA.out).mono ?_)
                    rintro e W' ⟨⟨v, rfl, hv⟩, hb⟩
                    have hv : World.ownsRow W' W.heap.size 3 1 v (sgX d ((u : Int) + 1) x).args.length ((sgX d ((u : Int) + 1) x).args.map (Value.int .i64)) := hv
                    obtain ⟨Av, cv, rfl⟩ := own_shapeL hv
                    exact HKk.out _ _ ⟨_, by simp [e15, e17, e18], .inl (HPA.out.put (v := .agg #[.slice Av (sgX d ((u : Int) + 1) x).args.length cv, .int .i64 (sgX d ((u : Int) + 1) x).res]) FN3.ext (by decide) hb ⟨fun h => absurd h (by decide), fun _ => ⟨Av, cv, rfl, own_base hv (Nat.le_trans HWI.out HPA.out.ext.size)⟩, fun h => absurd h (by decide)⟩)⟩
                  · simp [Region.binds] at hpre
                    obtain ⟨Av, cv, e19, hv⟩ := (HPA.out.facts 19 (by decide) (by simp [hpre])).2.1 rfl
                    go_simp
                    exact HKk.out _ _ ⟨_, by simp [e19], .inl (HPA.out.put (v := .slice (some ⟨W.heap.size, 0, none⟩) 1 1) FN3.ext (by decide) (Ext.al _ _) ⟨fun h => absurd h (by decide), fun h => absurd h (by decide), fun _ => ⟨Av, cv, W.heap.size, rfl, heapNew _ _, own_below hv (Ext.al _ _)⟩⟩)⟩
                  · have h13 := hpre ⟨13, .data⟩ (by simp) rfl
                    have h20 := hpre ⟨20, .data⟩ (by simp) rfl
                    have h12 := hc 13 _ rfl h13 ⟨12, .data⟩ (by simp) rfl
                    have h9 := hc 12 _ rfl h12 ⟨9, .data⟩ (by simp) rfl
                    have h11 := hc 12 _ rfl h12 ⟨11, .data⟩ (by simp) rfl
                    have h8 := hc 9 _ rfl h9 ⟨8, .data⟩ (by simp) rfl
                    have h7 := hc 8 _ rfl h8 ⟨7, .data⟩ (by simp) rfl
                    have h6 := hc 7 _ rfl h7 ⟨6, .data⟩ (by simp) rfl
                    have h10 := hc 11 _ rfl h11 ⟨10, .data⟩ (by simp) rfl
                    have h19 := hc 20 _ rfl h20 ⟨19, .data⟩ (by simp) rfl
                    have h15 := hc 19 _ rfl h19 ⟨15, .data⟩ (by simp) rfl
                    have h17 := hc 19 _ rfl h19 ⟨17, .data⟩ (by simp) rfl
                    have h18 := hc 19 _ rfl h19 ⟨18, .data⟩ (by simp) rfl
                    have h14 := hc 15 _ rfl h15 ⟨14, .data⟩ (by simp) rfl
                    have h16 := hc 17 _ rfl h17 ⟨16, .data⟩ (by simp) rfl
                    have hno : Ls 22 = false ∧ Ls 23 = false := by
                      refine ⟨?_, ?_⟩
                      · cases hq : Ls 22
                        · rfl
                        · have := hc 22 _ rfl hq ⟨21, .phase⟩ (by simp) rfl
                          rw [HL21.out] at this; cases this
                      · cases hq : Ls 23
                        · rfl
                        · have := hc 23 _ rfl hq ⟨21, .data⟩ (by simp) rfl
                          rw [HL21.out] at this; cases this
                    have e13 : vv 13 = _ := (HPA.out.facts 13 (by decide) h13).1 (by decide)
                    rw [HV13.out] at e13
                    obtain ⟨Av, cv, q, e20, hq20, hv⟩ := (HPA.out.facts 20 (by decide) h20).2.2 rfl
                    have HX8 := Lib.hid HPA.out.ext
                    have hosg := HOI.out.below HX8.out
                    have hcW := (HX8.out.block _ (heap_lt HCI.out)).trans HCI.out
                    have hf0 : ∀ i, i < 6 ∨ i = 22 → Ls i = true → vv i = vals i := fun i hi hli => by
                      rcases hi with hi | rfl
                      · exact (HPA.out.facts i (by omega) hli).1 (by omega)
                      · rw [hno.1] at hli; cases hli
                    split
                    · refine app_row (t := 174) (e := 181) (size := 2) (bytes := 32) Tryz.undSg Tryz.infoSg (by decide) (by decide) (.tmp 62) (.tmp 69) rfl w9.heap.size (.slice Ar L2.length cr) L2.length (cellsS L2) e13 hosg.own (some ⟨q, 0, none⟩) 1 1 [.slice Av (sgX d ((u : Int) + 1) x).args.length cv, .int .i64 (sgX d ((u : Int) + 1) x).res] e20 (SrcN.oneS hq20) (fun u hu => by simp at hu; rcases hu with rfl | rfl <;> rfl) (by have := HLN.out; unfold maxLen; omega) (by have := HLN.out; omega) (Nat.le_trans HWI.out HX8.out.size) (fun v' W' ho hg hat => ?_)
                      obtain ⟨A9, c9, rfl⟩ := own_shapeL ho
                      have hosg' := hosg.app (x := (.slice Av (sgX d ((u : Int) + 1) x).args.length cv, (sgX d ((u : Int) + 1) x))) hv hg ho
                      have hlt8 : w.heap.size + 1 < W.heap.size := heap_lt hcW
                      have hbw : Below w9.heap.size W W' := Below.grown (Below.refl _ _) hg (Nat.le_trans HWI.out HX8.out.size) (fun k e => (hosg.own.lt k e).1)
                      refine HKk.out _ _ ⟨fun j => if j = 21 then .slice A9 (L2.length + 1) c9 else vv j, rfl, .inr (.inl ⟨by simp [hno.2], fun i h1 h2 => ?_, ?_, fun i hi hli => ?_⟩)⟩
                      · rcases (show i = 6 ∨ i = 7 ∨ i = 8 ∨ i = 9 ∨ i = 10 ∨ i = 11 ∨ i = 12 ∨ i = 13 ∨ i = 14 ∨ i = 15 ∨ i = 16 ∨ i = 17 ∨ i = 18 ∨ i = 19 ∨ i = 20 ∨ i = 21 by omega) with rfl | rfl | rfl | rfl | rfl | rfl | rfl | rfl | rfl | rfl | rfl | rfl | rfl | rfl | rfl | rfl <;> simp [*]
                      · rw [HM.out]
                        exact ⟨(hg.block _ hlt8 (own_neE hosg.own hcW (by decide))).trans hcW, ⟨A9, c9, _, by simp, hosg'⟩, (HONI.out.andBelow (HX8.out.mono HWI.out)).andBelow hbw⟩
                      · have hne : i ≠ 21 := by omega
                        simp only [if_neg hne]
                        refine hf0 i hi ?_
                        have h2 : (decide (i = 21) || Ls i) = true := hli
                        rwa [decide_eq_false hne, Bool.false_or] at h2
                    · rename_i hw
                      exact absurd (by rfl) hw
                  · exfalso
                    have := hpre ⟨21, .phase⟩ (by simp) rfl
                    rw [HL21.out] at this; cases this
                  · exfalso
                    have := hpre ⟨21, .data⟩ (by simp) rfl
                    rw [HL21.out] at this; cases this
                · have HPM := Lib.hid hI
                  have hcs : i = 0 ∨ i = 1 ∨ i = 2 ∨ i = 3 ∨ i = 4 ∨ i = 5 ∨ i = 6 ∨ i = 7 ∨ i = 8 ∨ i = 9 ∨ i = 10 ∨ i = 11 ∨ i = 12 ∨ i = 13 ∨ i = 14 ∨ i = 15 ∨ i = 16 ∨ i = 17 ∨ i = 18 ∨ i = 19 ∨ i = 20 ∨ i = 21 ∨ i = 22 ∨ i = 23 := by omega
                  clear hI
                  rcases hcs with rfl | rfl | rfl | rfl | rfl | rfl | rfl | rfl | rfl | rfl | rfl | rfl | rfl | rfl | rfl | rfl | rfl | rfl | rfl | rfl | rfl | rfl | rfl | rfl
                  · obtain rfl := Option.some.inj ho
                    clear ho hi hpre hc
                    go_simp
                    exact HKk.out _ _ ⟨_, rfl, .inr (.inl (HPM.out.put (v := .pointer (some ⟨w.heap.size + 1 + 1, 0, none⟩)) (by decide) HV0.out.symm))⟩
                  · obtain rfl := Option.some.inj ho
                    have h0 := hpre ⟨0, .data⟩ (by simp) rfl
                    have e0 : vv 0 = _ := HPM.out.facts 0 (by decide) h0
                    rw [HV0.out] at e0
                    clear ho hi hpre hc
                    go_simp
                    exact HKk.out _ _ ⟨_, by simp [e0], .inr (.inl (HPM.out.put (v := .pointer (some ⟨w.heap.size + 1 + 1, 0, none⟩)) (by decide) HV1.out.symm))⟩
                  · obtain rfl := Option.some.inj ho
                    have h1 := hpre ⟨1, .data⟩ (by simp) rfl
                    have e1 : vv 1 = _ := HPM.out.facts 1 (by decide) h1
                    rw [HV1.out] at e1
                    clear ho hi hpre hc
                    go_simp
                    exact HKk.out _ _ ⟨_, by simp [e1], .inr (.inl (HPM.out.put (v := .pointer (some ⟨w.heap.size + 1 + 1, 1, none⟩)) (by decide) HV2.out.symm))⟩
                  · obtain rfl := Option.some.inj ho
                    have h2 := hpre ⟨2, .data⟩ (by simp) rfl
                    have e2 : vv 2 = _ := HPM.out.facts 2 (by decide) h2
                    rw [HV2.out] at e2
                    have hmm := HPM.out.mem
                    rw [HM.out] at hmm
                    have g1 := cellAt ((hmm.2.2.block _ (heap_lt HG9.out) (by omega)).trans HG9.out) 1
                    clear hmm
                    clear ho hi hpre hc
                    go_simp
                    exact HKk.out _ _ ⟨_, by simp [e2], .inr (.inl (HPM.out.put (v := .slice (some ⟨w.heap.size + 1, 0, none⟩) (P.decls.length + 1) (P.decls.length + 1)) (by decide) HV3.out.symm))⟩
                  · obtain rfl := Option.some.inj ho
                    clear ho hi hpre hc
                    go_simp
                    exact HKk.out _ _ ⟨_, rfl, .inr (.inl (HPM.out.put (v := .int .i64 (u : Int)) (by decide) HV4.out.symm))⟩
                  · obtain rfl := Option.some.inj ho
                    have h4 := hpre ⟨4, .data⟩ (by simp) rfl
                    have e4 : vv 4 = _ := HPM.out.facts 4 (by decide) h4
                    rw [HV4.out] at e4
                    have hw1 := HW1.out
                    clear ho hi hpre hc
                    go_simp
                    exact HKk.out _ _ ⟨_, by simp [e4], .inr (.inl (HPM.out.put (v := .int .i64 ((u : Int) + 1)) (by decide) HV5.out.symm))⟩
                  · rw [HPM.out.all 6 (by decide) (by decide)] at hl; cases hl
                  · rw [HPM.out.all 7 (by decide) (by decide)] at hl; cases hl
                  · rw [HPM.out.all 8 (by decide) (by decide)] at hl; cases hl
                  · rw [HPM.out.all 9 (by decide) (by decide)] at hl; cases hl
                  · rw [HPM.out.all 10 (by decide) (by decide)] at hl; cases hl
                  · rw [HPM.out.all 11 (by decide) (by decide)] at hl; cases hl
                  · rw [HPM.out.all 12 (by decide) (by decide)] at hl; cases hl
                  · rw [HPM.out.all 13 (by decide) (by decide)] at hl; cases hl
                  · rw [HPM.out.all 14 (by decide) (by decide)] at hl; cases hl
                  · rw [HPM.out.all 15 (by decide) (by decide)] at hl; cases hl
                  · rw [HPM.out.all 16 (by decide) (by decide)] at hl; cases hl
                  · rw [HPM.out.all 17 (by decide) (by decide)] at hl; cases hl
                  · rw [HPM.out.all 18 (by decide) (by decide)] at hl; cases hl
                  · rw [HPM.out.all 19 (by decide) (by decide)] at hl; cases hl
                  · rw [HPM.out.all 20 (by decide) (by decide)] at hl; cases hl
                  · rw [HPM.out.all 21 (by decide) (by decide)] at hl; cases hl
                  · obtain rfl := Option.some.inj ho
                    have h3 := hpre ⟨3, .data⟩ (by simp) rfl
                    have e3 : vv 3 = _ := HPM.out.facts 3 (by decide) h3
                    rw [HV3.out] at e3
                    have h5 := hpre ⟨5, .data⟩ (by simp) rfl
                    have e5 : vv 5 = _ := HPM.out.facts 5 (by decide) h5
                    rw [HV5.out] at e5
                    clear ho hi hpre hc
                    go_simp
                    exact HKk.out _ _ ⟨_, by simp [e3, e5, Act.put], .inr (.inl (HPM.out.put (v := .pointer (some ⟨w.heap.size + 1, u + 1, none⟩)) (by decide) HV22.out.symm))⟩
                  · obtain rfl := Option.some.inj ho
                    have h22 := hpre ⟨22, .data⟩ (by simp) rfl
                    have hall : ∀ i, i < 23 → Ls i = true := fun i hi => by
                      by_cases h6 : i < 6
                      · rcases (show i = 0 ∨ i = 1 ∨ i = 2 ∨ i = 3 ∨ i = 4 ∨ i = 5 by omega) with rfl | rfl | rfl | rfl | rfl | rfl
                        · exact hpre ⟨0, .phase⟩ (by simp) rfl
                        · exact hpre ⟨1, .phase⟩ (by simp) rfl
                        · exact hpre ⟨2, .phase⟩ (by simp) rfl
                        · exact hpre ⟨3, .phase⟩ (by simp) rfl
                        · exact hpre ⟨4, .phase⟩ (by simp) rfl
                        · exact hpre ⟨5, .phase⟩ (by simp) rfl
                      · by_cases h22' : i = 22
                        · subst h22'; exact h22
                        · exact HPM.out.all i (by omega) (by omega)
                    have HALL := Lib.hid hall
                    have e22 : vv 22 = _ := HPM.out.facts 22 (by decide) h22
                    rw [HV22.out] at e22
                    have hmm := HPM.out.mem
                    rw [HM.out] at hmm
                    obtain ⟨hcW, ⟨A9, c9, va9, e21, ho9⟩, honW⟩ := hmm
                    have HCW := Lib.hid hcW; have HO9 := Lib.hid ho9; have HNW := Lib.hid honW
                    clear hcW ho9 honW hall
                    have g0 := cellAt HCW.out (u + 1) HCU.out
                    have f0 := frozenAt HCW.out (u + 1)
                    clear ho hi hpre hc
                    go_simp
                    refine HKk.out _ _ ⟨vv, by simp [e22, e21], .inr (.inr ⟨fun i hi => ?_, .slice A9 (L2.length + 1) c9, va9, cells_set HCW.out _, HO9.out.set HCW.out (by decide) (by decide) (u + 1) _, HNW.out.tr (Only.setCell (C := fun q => q = w.heap.size + 1) (p := ⟨w.heap.size + 1, u + 1, none⟩) rfl _ _)⟩)⟩
                    by_cases hi3 : i = 23
                    · subst hi3; simp
                    · simp [HALL.out i (by omega)]
                · exfalso
                  rw [hI.1 i hi] at hl; cases hl
              · intro Ls a W hall hI
                obtain ⟨vv, rfl, hI | hI | ⟨-, s', v, hcW, hosg, honW⟩⟩ := hI
                · have := hall 21 (by decide); rw [hI.not] at this; cases this
                · have := hall 23 (by decide); rw [hI.not] at this; cases this
                · have HCW := Lib.hid hcW; have HOW := Lib.hid hosg; have HOnW := Lib.hid honW
                  clear hcW hosg honW hall
                  go_wp2
                  exact ⟨⟨j + 1, s', L2 ++ [(v, sgX d ((u : Int) + 1) x)], C2.setIfInBounds (u + 1) s', by omega, by go_num, HCW.out, by rw [Array.size_setIfInBounds]; exact HCS.out, by rw [Array.getElem?_setIfInBounds_self_of_lt (by have := HCS.out; have := HRW.out.sz; omega)], fun k hk => by rw [Array.getElem?_setIfInBounds_ne (by omega)]; exact HCO.out k hk, HOW.out, by rw [List.map_append, HLI.out, HTK.out]; rfl, HOnW.out⟩, by simp [intOf]; omega⟩
            · have hje2 : j = d.xtors.length := by omega
              subst hje2
              have HRN : Hid (RowsOK P w3.heap.size wr C2 (u + 1)) := (((HRW.out.keep (fun q _ h => HE9.out.block q h)).keep (HONI.out.keep (by have := HZ3.out; omega))).next HDU.out HCS.out HCU.out HCO.out (by have := HS9.out; omega) HOI.out (by rw [HLI.out, List.take_of_length_le (Nat.le_refl _)]))
              have HO3 := Lib.hid ((HO2.out.tr (Only.of_ext HE9.out)).tr HONI.out)
              clear hlen2
              go_wp2
              exact ⟨⟨u + 1, C2, by omega, by go_num, HCI.out, HRN.out, HO3.out⟩, by simp [intOf]; omega⟩
        · have hue : u = P.decls.length := by omega
          subst hue
          have HOW := Lib.hid (HO.out.keep (HO2.out.keep (by have := HZ3.out; omega)))
          have hmf : ∀ (fn : Go.Fn) (first cap : Array Value) (w : World), (Instr.makeFunc fn first cap).run Tryz.prog w = .ok (.func fn first cap) w := fun _ _ _ _ => rfl
          have HGZ := Lib.hid ((HO2.out.block (w.heap.size + 1 + 1) (heap_lt HG.out) (by omega)).trans HG.out)
          have HLZ := Lib.hid ((HRW.out).rsgl HC.out (by unfold maxLen; omega))
          have HXZ : Hid (Ext w wr) := HXW.out.trans (HO2.out.below HXW.out.size (fun q e => by omega))
          have g2 := cellAt HGZ.out 2
          have f2 := frozenAt HGZ.out 2
          have g3 := cellAt HGZ.out 3
          have f3 := frozenAt HGZ.out 3
          have g4 := cellAt HGZ.out 4
          have f4 := frozenAt HGZ.out 4
          have g5 := cellAt HGZ.out 5
          have f5 := frozenAt HGZ.out 5
          have g6 := cellAt HGZ.out 6
          have f6 := frozenAt HGZ.out 6
          have g7 := cellAt HGZ.out 7
          have f7 := frozenAt HGZ.out 7
          have g8 := cellAt HGZ.out 8
          have f8 := frozenAt HGZ.out 8
          have g9 := cellAt HGZ.out 9
          have f9 := frozenAt HGZ.out 9
          have g10 := cellAt HGZ.out 10
          have f10 := frozenAt HGZ.out 10
          have g11 := cellAt HGZ.out 11
          have f11 := frozenAt HGZ.out 11
          have g12 := cellAt HGZ.out 12
          have f12 := frozenAt HGZ.out 12
          have g13 := cellAt HGZ.out 13
          have f13 := frozenAt HGZ.out 13
          have g14 := cellAt HGZ.out 14
          have f14 := frozenAt HGZ.out 14
          go_wp2
          clear g2 f2 g3 f3 g4 f4 g5 f5 g6 f6 g7 f7 g8 f8 g9 f9 g10 f10 g11 f11 g12 f12 g13 f13 g14 f14
          have HGF := Lib.hid (set13 HGZ.out (.func (.func 88) #[.pointer (some ⟨w.heap.size + 1 + 1, 0, none⟩)] #[]) (.func (.func 89) #[.pointer (some ⟨w.heap.size + 1 + 1, 0, none⟩)] #[]) (.func (.func 90) #[.pointer (some ⟨w.heap.size + 1 + 1, 0, none⟩)] #[]) (.func (.func 91) #[.pointer (some ⟨w.heap.size + 1 + 1, 0, none⟩)] #[]) (.func (.func 92) #[.pointer (some ⟨w.heap.size + 1 + 1, 0, none⟩)] #[]) (.func (.func 93) #[.pointer (some ⟨w.heap.size + 1 + 1, 0, none⟩)] #[]) (.func (.func 92) #[.pointer (some ⟨w.heap.size + 1 + 1, 0, none⟩)] #[]) (.func (.func 94) #[.pointer (some ⟨w.heap.size + 1 + 1, 0, none⟩)] #[]) (.func (.func 95) #[.pointer (some ⟨w.heap.size + 1 + 1, 0, none⟩)] #[]) (.func (.func 96) #[.pointer (some ⟨w.heap.size + 1 + 1, 0, none⟩)] #[]) (.func (.func 97) #[.pointer (some ⟨w.heap.size + 1 + 1, 0, none⟩)] #[]) (.func (.func 98) #[.pointer (some ⟨w.heap.size + 1 + 1, 0, none⟩)] #[]) (.func (.func 99) #[.pointer (some ⟨w.heap.size + 1 + 1, 0, none⟩)] #[]))
          have HNF := Lib.hid (only13 wr (w.heap.size + 1 + 1) (.func (.func 88) #[.pointer (some ⟨w.heap.size + 1 + 1, 0, none⟩)] #[]) (.func (.func 89) #[.pointer (some ⟨w.heap.size + 1 + 1, 0, none⟩)] #[]) (.func (.func 90) #[.pointer (some ⟨w.heap.size + 1 + 1, 0, none⟩)] #[]) (.func (.func 91) #[.pointer (some ⟨w.heap.size + 1 + 1, 0, none⟩)] #[]) (.func (.func 92) #[.pointer (some ⟨w.heap.size + 1 + 1, 0, none⟩)] #[]) (.func (.func 93) #[.pointer (some ⟨w.heap.size + 1 + 1, 0, none⟩)] #[]) (.func (.func 92) #[.pointer (some ⟨w.heap.size + 1 + 1, 0, none⟩)] #[]) (.func (.func 94) #[.pointer (some ⟨w.heap.size + 1 + 1, 0, none⟩)] #[]) (.func (.func 95) #[.pointer (some ⟨w.heap.size + 1 + 1, 0, none⟩)] #[]) (.func (.func 96) #[.pointer (some ⟨w.heap.size + 1 + 1, 0, none⟩)] #[]) (.func (.func 97) #[.pointer (some ⟨w.heap.size + 1 + 1, 0, none⟩)] #[]) (.func (.func 98) #[.pointer (some ⟨w.heap.size + 1 + 1, 0, none⟩)] #[]) (.func (.func 99) #[.pointer (some ⟨w.heap.size + 1 + 1, 0, none⟩)] #[]))
          generalize (World.setCell (World.setCell (World.setCell (World.setCell (World.setCell (World.setCell (World.setCell (World.setCell (World.setCell (World.setCell (World.setCell (World.setCell (World.setCell wr _ _) _ _) _ _) _ _) _ _) _ _) _ _) _ _) _ _) _ _) _ _) _ _) _ _) = wz at *
          have hsz : w.heap.size + 1 < wr.heap.size := heap_lt HC.out
          have HROW : Hid (RSgL wz (.slice (some ⟨w.heap.size + 1, 0, none⟩) (P.decls.length + 1) (P.decls.length + 1)) (xsP P)) := (HRW.out.keep (HNF.out.keep (by have := HZ3.out; omega))).rsgl ((HNF.out.block _ hsz (by omega)).trans HC.out) (by unfold maxLen; omega)
          have HFN : Hid (RSgs wz (.slice As L.length cs) (P.funs.map sgF)) := by
            have h := (HOW.out.keep (HNF.out.keep (by have := HZ3.out; omega))).rsgs
            rw [HLF.out] at h
            exact h
          have HXF : Hid (Ext w wz) := HXZ.out.trans (HNF.out.below HXZ.out.size (fun q e => by omega))
          go_ret
          refine ⟨⟨_, rfl, ⟨⟨⟨_, cellAt HGF.out 0, HFN.out⟩, ⟨_, cellAt HGF.out 1, HROW.out⟩⟩, fun o ho => ?_⟩⟩, HXF.out⟩
          rcases (show o = 0 ∨ o = 1 ∨ o = 2 ∨ o = 3 ∨ o = 4 ∨ o = 5 ∨ o = 6 ∨ o = 7 ∨ o = 8 ∨ o = 9 ∨ o = 10 ∨ o = 11 ∨ o = 12 by omega) with rfl | rfl | rfl | rfl | rfl | rfl | rfl | rfl | rfl | rfl | rfl | rfl | rfl
          all_goals exact cellAt HGF.out _
end Go.Proofs.YtkdglplfcpindaaGreatDoor
