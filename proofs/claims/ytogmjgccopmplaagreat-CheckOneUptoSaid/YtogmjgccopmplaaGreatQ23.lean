/- visit.go: child: what is stored. -/
import Derived.Test.YtogmjgccopmplaaGreatQ22
namespace Go.Proofs.YtogmjgccopmplaaGreat
open Go.RowKit

theorem bindE_app : ∀ (ns : List Str) (ts r : List Int) (V : Env), ns.length ≤ ts.length → bindE ns (ts ++ r) V = bindE ns ts V
  | [], ts, r, V, _ => by simp [bindE]
  | s :: n, [], r, V, h => by simp at h
  | s :: n, y :: q, r, V, h => by
    show bindE n (q ++ r) ((s, y) :: V) = bindE n q ((s, y) :: V)
    exact bindE_app n q r _ (by simpa using h)
theorem box_four (w : World) (a b c d : Obj) : ((((w.alloc a).alloc b).alloc c).alloc d).heap[w.heap.size]? = some a ∧ ((((w.alloc a).alloc b).alloc c).alloc d).heap[w.heap.size + 1]? = some b ∧ ((((w.alloc a).alloc b).alloc c).alloc d).heap[w.heap.size + 1 + 1]? = some c ∧ ((((w.alloc a).alloc b).alloc c).alloc d).heap[w.heap.size + 1 + 1 + 1]? = some d := by
  have h1 := heapNew w a
  have h2 := heapNew (w.alloc a) b
  have h3 := heapNew ((w.alloc a).alloc b) c
  have h4 := heapNew (((w.alloc a).alloc b).alloc c) d
  simp only [World.size_alloc] at h2 h3 h4
  exact ⟨((Ext.al3 _ _ _ _).block _ (heap_lt h1)).trans h1, ((Ext.al2 _ _ _).block _ (by simp only [World.size_alloc]; omega)).trans h2, ((Ext.al _ _).block _ (by simp only [World.size_alloc]; omega)).trans h3, h4⟩

theorem set1_box2b {w : World} {r T : Nat} {a b : Value} (h : w.heap[r]? = some (.cells #[a, b] T (0, 0))) (v : Value) : (w.setCell ⟨r, 1, none⟩ v).heap[r]? = some (.cells #[a, v] T (0, 0)) := by
  simp [World.setCell, Array.getElem?_modify, h]
theorem child_store {w w6 : World} {n2 n3 : Nat} (h2 : w6.heap[n2]? = some (.cells #[.int .i64 0, .int .i64 0, .string ⟨#[]⟩, .int .i64 0, .slice none 0 0, .slice none 0 0] 41 (0, 0))) (h3 : w6.heap[n3]? = some (.cells #[.pointer none, .pointer none] 81 (0, 0))) (hne : n2 ≠ n3) (hx : Ext w w6) (l2 : w.heap.size ≤ n2) (l3 : w.heap.size ≤ n3) (a b c d e f p q : Value) :
    ((((((((w6.setCell ⟨n2, 0, none⟩ a).setCell ⟨n2, 1, none⟩ b).setCell ⟨n2, 2, none⟩ c).setCell ⟨n2, 3, none⟩ d).setCell ⟨n2, 4, none⟩ e).setCell ⟨n2, 5, none⟩ f).setCell ⟨n3, 0, none⟩ p).setCell ⟨n3, 1, none⟩ q).heap[n2]? = some (.cells #[a, b, c, d, e, f] 41 (0, 0)) ∧
    ((((((((w6.setCell ⟨n2, 0, none⟩ a).setCell ⟨n2, 1, none⟩ b).setCell ⟨n2, 2, none⟩ c).setCell ⟨n2, 3, none⟩ d).setCell ⟨n2, 4, none⟩ e).setCell ⟨n2, 5, none⟩ f).setCell ⟨n3, 0, none⟩ p).setCell ⟨n3, 1, none⟩ q).heap[n3]? = some (.cells #[p, q] 81 (0, 0)) ∧
    Ext w ((((((((w6.setCell ⟨n2, 0, none⟩ a).setCell ⟨n2, 1, none⟩ b).setCell ⟨n2, 2, none⟩ c).setCell ⟨n2, 3, none⟩ d).setCell ⟨n2, 4, none⟩ e).setCell ⟨n2, 5, none⟩ f).setCell ⟨n3, 0, none⟩ p).setCell ⟨n3, 1, none⟩ q) ∧
    ∀ E v, RB w6 E v → RB ((((((((w6.setCell ⟨n2, 0, none⟩ a).setCell ⟨n2, 1, none⟩ b).setCell ⟨n2, 2, none⟩ c).setCell ⟨n2, 3, none⟩ d).setCell ⟨n2, 4, none⟩ e).setCell ⟨n2, 5, none⟩ f).setCell ⟨n3, 0, none⟩ p).setCell ⟨n3, 1, none⟩ q) E v := by
  have hs : ∀ (W : World) (r i : Nat) (u : Value), Only (fun j => j = r) W (W.setCell ⟨r, i, none⟩ u) := fun W r i u => Only.setCell (C := fun j => j = r) (p := ⟨r, i, none⟩) rfl W u
  have o1 := ((((((hs w6 n2 0 a).tr (hs _ n2 1 b)).tr (hs _ n2 2 c)).tr (hs _ n2 3 d)).tr (hs _ n2 4 e)).tr (hs _ n2 5 f))
  have b2 : ((((((w6.setCell ⟨n2, 0, none⟩ a).setCell ⟨n2, 1, none⟩ b).setCell ⟨n2, 2, none⟩ c).setCell ⟨n2, 3, none⟩ d).setCell ⟨n2, 4, none⟩ e).setCell ⟨n2, 5, none⟩ f).heap[n2]? = some (.cells #[a, b, c, d, e, f] 41 (0, 0)) := by
    simp [World.setCell, Array.getElem?_modify, h2]
  generalize (((((w6.setCell ⟨n2, 0, none⟩ a).setCell ⟨n2, 1, none⟩ b).setCell ⟨n2, 2, none⟩ c).setCell ⟨n2, 3, none⟩ d).setCell ⟨n2, 4, none⟩ e).setCell ⟨n2, 5, none⟩ f = w7 at *
  have b3 : w7.heap[n3]? = some (.cells #[.pointer none, .pointer none] 81 (0, 0)) := (o1.block _ (heap_lt h3) (fun e => hne e.symm)).trans h3
  have o2 := only2_setB w7 n3 p q
  refine ⟨(o2.block _ (heap_lt b2) hne).trans b2, box2_bothB b3 p q, (hx.trans (o1.below hx.size (fun k e => by omega))).trans (o2.below (Nat.le_trans hx.size o1.size) (fun k e => by omega)), fun E v hr => RB.turn b3 (fun s => by simp) o2 (RB.turn h2 (fun s => by simp) o1 hr)⟩

end Go.Proofs.YtogmjgccopmplaaGreat

/- visit.go: child, of an argument. -/
namespace Go.Proofs.YtogmjgccopmplaaGreat
open Go.RowKit

set_option maxHeartbeats 4000000 in
set_option maxRecDepth 100000 in
theorem childA_any (gc : Nat) (P : Pg) (V L : Env) (pv pl : Value) (k : Nat) (t : Tm) (ux uc : Value) (i : Nat) (w : World) (hV : RB w V pv) (hL : RB w L pl) (ht : RT w (k + 1) t ux uc) (hk : RCk w gc P) (hlt : i < t.args.length) :
    Calls Tryz.prog 67 #[.pointer (some ⟨gc, 0, none⟩), scV pv pl, tV t ux uc, .int .i64 i] w fun e w' =>
      (∃ xa xc qv ql, e = .returned (.tuple #[tV (kidT t i) xa xc, scV qv ql]) ∧ RT w' k (kidT t i) xa xc ∧ RB w' (kidE P V L t i).1 qv ∧ RB w' (kidE P V L t i).2 ql) ∧ Ext w w' := by
  have HV := Lib.hid hV; have HL := Lib.hid hL; have HT := Lib.hid ht; have HCK := Lib.hid hk
  have hmx : Tryz.prog.follows .mixedOrders = true := by kernel_rfl
  obtain ⟨qv, rfl⟩ := hV.form
  obtain ⟨ql, rfl⟩ := hL.form
  obtain ⟨_, ⟨Aa, ca, rfl, hca, hma⟩, ⟨Bb, cb, rfl, hcb, hmb⟩⟩ := ht.form
  clear hV hL ht hk
  unfold maxLen at hma hmb
  have HE := Lib.hid ((Ext.al3 w (.cells #[.pointer qv, .pointer ql] 81) (.cells #[.int .i64 t.op, .int .i64 t.n, .string t.nm, .int .i64 t.ty, .slice Aa t.args.length ca, .slice Bb t.cls.length cb] 41) (.cells #[.int .i64 0, .int .i64 0, .string ⟨#[]⟩, .int .i64 0, .slice none 0 0, .slice none 0 0] 41)).tr (Ext.al _ (.cells #[.pointer none, .pointer none] 81)))
  obtain ⟨hb1, hb2, hb3, hb4⟩ := box_four w (.cells #[.pointer qv, .pointer ql] 81) (.cells #[.int .i64 t.op, .int .i64 t.n, .string t.nm, .int .i64 t.ty, .slice Aa t.args.length ca, .slice Bb t.cls.length cb] 41) (.cells #[.int .i64 0, .int .i64 0, .string ⟨#[]⟩, .int .i64 0, .slice none 0 0, .slice none 0 0] 41) (.cells #[.pointer none, .pointer none] 81)
  have HB1 := Lib.hid hb1; have HB2 := Lib.hid hb2; have HB3 := Lib.hid hb3; have HB4 := Lib.hid hb4
  clear hb1 hb2 hb3 hb4
  have n4 := cellAt HB2.out 4
  go_enter Tryz.func67, Tryz.ntmps67
  have HK1 : Hid (kidT t i = t.args[i]) := by show _ = _; unfold kidT; rw [if_pos hlt, List.getD_eq_getElem?_getD, List.getElem?_eq_getElem hlt]; rfl
  have HK2 : Hid (kidE P V L t i = (argV t.op t.nm t.ty i V, argL t.op t.nm t.ty L)) := by show _ = _; unfold kidE; rw [if_pos hlt]
  have hge : ¬ ((t.args.length : Int) ≤ i) := by omega
  go_upto_region 4 with fail
  generalize World.alloc (World.alloc (World.alloc (World.alloc w _) _) _) _ = w1 at *
  clear n4
  obtain ⟨ba, oa, xa, xc, rfl, hbl, yc, yt⟩ := HT.out.arg hlt
  have HTY := Lib.hid yt
  have HYC := Lib.hid yc
  obtain ⟨-, ⟨Ax, cx, rfl, -, -⟩, ⟨Bx, dx, rfl, -, -⟩⟩ := yt.form
  generalize t.args[i] = x at *
  clear yt yc hbl
  have HN : Hid (w.heap.size + 1 + 1 + 1 < w1.heap.size) := heap_lt HB4.out
  have m0 := cellAt HB2.out 0
  by_cases h8 : t.op = 8 ∧ i = 1
  · obtain ⟨h8, rfl⟩ := h8
    have HEV : Hid (argV t.op t.nm t.ty 1 V = (t.nm, t.ty) :: V) := by show _ = _; unfold argV; rw [if_pos ⟨h8, rfl⟩]
    have HEL : Hid (argL t.op t.nm t.ty L = L) := by show _ = _; unfold argL; rw [if_neg (by omega)]
    have hq8 : (t.op == 8) = true := by simp [h8]
    have hq1 : (((1 : Nat) : Int) == 1) = true := by rfl
    clear h8
    have m2 := cellAt HB2.out 2
    have m3 := cellAt HB2.out 3
    have s0 := cellAt HB1.out 0
    go_wp2_with fail
    (with_reducible refine (bwith_any V _ t.nm t.ty _ (HV.out.below HE.out)).mono ?_)
    rintro e w5 ⟨⟨u, rfl, hr⟩, hb⟩
    obtain ⟨qu, rfl⟩ := hr.form
    have HX5 := Lib.hid hb
    have HR5 := Lib.hid hr
    have HC1 := Lib.hid ((hb.block _ (heap_lt HB1.out)).trans HB1.out)
    have HC2 := Lib.hid ((hb.block _ (heap_lt HB2.out)).trans HB2.out)
    have HC3 := Lib.hid ((hb.block _ (heap_lt HB3.out)).trans HB3.out)
    have HC4 := Lib.hid ((hb.block _ (heap_lt HB4.out)).trans HB4.out)
    clear hr hb m0 m2 m3 s0
    have s0 := cellAt HC1.out 0
    have f0 := frozenAt HC1.out 0
    go_upto_region 8 with fail
    clear s0 f0
    have HS1 := Lib.hid (set1_box2 HC1.out (.pointer qu))
    have HON : Hid (Only (fun j => j = w.heap.size) w5 (w5.setCell ⟨w.heap.size, 0, none⟩ (.pointer qu))) := Only.setCell (C := fun j => j = w.heap.size) (p := ⟨w.heap.size, 0, none⟩) rfl _ _
    have HRV := Lib.hid (RB.turn HC1.out (fun s => by simp) HON.out HR5.out)
    have HRL := Lib.hid (RB.turn HC1.out (fun s => by simp) HON.out (HL.out.below (HE.out.tr HX5.out)))
    have HC2 := Lib.hid ((HON.out.block _ (heap_lt HC2.out) (by omega)).trans HC2.out)
    have HC3 := Lib.hid ((HON.out.block _ (heap_lt HC3.out) (by omega)).trans HC3.out)
    have HC4 := Lib.hid ((HON.out.block _ (heap_lt HC4.out) (by omega)).trans HC4.out)
    have HX6 : Hid (Ext w _) := (HE.out.tr HX5.out).trans (HON.out.below (HE.out.tr HX5.out).size (fun k e => by omega))
    generalize World.setCell w5 _ _ = w6 at *
    have yc := HYC.out.below HX6.out
    have k0 := yc.c0
    have k1 := yc.c1
    have k2 := yc.c2
    have k3 := yc.c3
    have k4 := yc.c4
    have k5 := yc.c5
    clear yc
    have s0 := cellAt HS1.out 0
    have s1 := cellAt HS1.out 1
    have n4 := cellAt HC2.out 4
    obtain ⟨z0, z1, z2, z3, z4, z5⟩ := cells6 HC3.out
    have y0 := cellAt HC4.out 0
    have y1 := cellAt HC4.out 1
    have f0 := frozenAt HC3.out 0
    have f1 := frozenAt HC3.out 1
    have f2 := frozenAt HC3.out 2
    have f3 := frozenAt HC3.out 3
    have f4 := frozenAt HC3.out 4
    have f5 := frozenAt HC3.out 5
    have g0 := frozenAt HC4.out 0
    have g1 := frozenAt HC4.out 1
    have HST := Lib.hid (child_store HC3.out HC4.out (by omega) HX6.out (by omega) (by omega) (.int .i64 x.op) (.int .i64 x.n) (.string x.nm) (.int .i64 x.ty) (.slice Ax x.args.length cx) (.slice Bx x.cls.length dx) (.pointer qu) (.pointer ql))
    go_region_with (fail)
    all_goals
      go_wp2
      generalize World.setCell (World.setCell (World.setCell (World.setCell (World.setCell (World.setCell (World.setCell (World.setCell w6 _ _) _ _) _ _) _ _) _ _) _ _) _ _) _ _ = wz at *
      obtain ⟨h2, h3, h4, h5⟩ := HST.out
      have HRV2 := Lib.hid ((h5 _ _ HRV.out).below (Ext.rf _).drew)
      have HRL2 := Lib.hid ((h5 _ _ HRL.out).below (Ext.rf _).drew)
      have HX7 := Lib.hid h4.drew
      clear h4 h5 k0 k1 k2 k3 k4 k5 s0 s1 n4 z0 z1 z2 z3 z4 z5 y0 y1 f0 f1 f2 f3 f4 f5 g0 g1
      obtain ⟨z0, z1, z2, z3, z4, z5⟩ := cells6 h2
      have y0 := cellAt h3 0
      have y1 := cellAt h3 1
      unfold bodyPost
      rw [HK1.out, HK2.out]
      dsimp only
      rw [HEV.out, HEL.out]
      simp [results, go_sem, z0, z1, z2, z3, z4, z5, y0, y1]
      exact ⟨⟨_, _, _, _, ⟨⟨rfl, rfl⟩, rfl, rfl⟩, HTY.out.below HX7.out, HRV2.out, HRL2.out⟩, HX7.out⟩
  by_cases h11 : t.op = 11
  · have HEV : Hid (argV t.op t.nm t.ty i V = V) := by show _ = _; unfold argV; rw [if_neg (by omega)]
    have HEL : Hid (argL t.op t.nm t.ty L = (t.nm, t.ty) :: L) := by show _ = _; unfold argL; rw [if_pos h11]
    have hq8 : (t.op == 8) = false := by simp [h11]
    have hq1 : (t.op == 11) = true := by simp [h11]
    clear h8 h11
    have m2 := cellAt HB2.out 2
    have m3 := cellAt HB2.out 3
    have s1 := cellAt HB1.out 1
    go_wp2_with fail
    (with_reducible refine (bwith_any L _ t.nm t.ty _ (HL.out.below HE.out)).mono ?_)
    rintro e w5 ⟨⟨u, rfl, hr⟩, hb⟩
    obtain ⟨qu, rfl⟩ := hr.form
    have HX5 := Lib.hid hb
    have HR5 := Lib.hid hr
    have HC1 := Lib.hid ((hb.block _ (heap_lt HB1.out)).trans HB1.out)
    have HC2 := Lib.hid ((hb.block _ (heap_lt HB2.out)).trans HB2.out)
    have HC3 := Lib.hid ((hb.block _ (heap_lt HB3.out)).trans HB3.out)
    have HC4 := Lib.hid ((hb.block _ (heap_lt HB4.out)).trans HB4.out)
    clear hr hb m0 m2 m3 s1
    have s1 := cellAt HC1.out 1
    have f1 := frozenAt HC1.out 1
    go_upto_region 8 with fail
    clear s1 f1
    have HS1 := Lib.hid (set1_box2b HC1.out (.pointer qu))
    have HON : Hid (Only (fun j => j = w.heap.size) w5 (w5.setCell ⟨w.heap.size, 1, none⟩ (.pointer qu))) := Only.setCell (C := fun j => j = w.heap.size) (p := ⟨w.heap.size, 1, none⟩) rfl _ _
    have HRL := Lib.hid (RB.turn HC1.out (fun s => by simp) HON.out HR5.out)
    have HRV := Lib.hid (RB.turn HC1.out (fun s => by simp) HON.out (HV.out.below (HE.out.tr HX5.out)))
    have HC2 := Lib.hid ((HON.out.block _ (heap_lt HC2.out) (by omega)).trans HC2.out)
    have HC3 := Lib.hid ((HON.out.block _ (heap_lt HC3.out) (by omega)).trans HC3.out)
    have HC4 := Lib.hid ((HON.out.block _ (heap_lt HC4.out) (by omega)).trans HC4.out)
    have HX6 : Hid (Ext w _) := (HE.out.tr HX5.out).trans (HON.out.below (HE.out.tr HX5.out).size (fun k e => by omega))
    generalize World.setCell w5 _ _ = w6 at *
    have yc := HYC.out.below HX6.out
    have k0 := yc.c0
    have k1 := yc.c1
    have k2 := yc.c2
    have k3 := yc.c3
    have k4 := yc.c4
    have k5 := yc.c5
    clear yc
    have s0 := cellAt HS1.out 0
    have s1 := cellAt HS1.out 1
    have n4 := cellAt HC2.out 4
    obtain ⟨z0, z1, z2, z3, z4, z5⟩ := cells6 HC3.out
    have y0 := cellAt HC4.out 0
    have y1 := cellAt HC4.out 1
    have f0 := frozenAt HC3.out 0
    have f1 := frozenAt HC3.out 1
    have f2 := frozenAt HC3.out 2
    have f3 := frozenAt HC3.out 3
    have f4 := frozenAt HC3.out 4
    have f5 := frozenAt HC3.out 5
    have g0 := frozenAt HC4.out 0
    have g1 := frozenAt HC4.out 1
    have HST := Lib.hid (child_store HC3.out HC4.out (by omega) HX6.out (by omega) (by omega) (.int .i64 x.op) (.int .i64 x.n) (.string x.nm) (.int .i64 x.ty) (.slice Ax x.args.length cx) (.slice Bx x.cls.length dx) (.pointer qv) (.pointer qu))
    go_region_with (fail)
    all_goals
      go_wp2
      generalize World.setCell (World.setCell (World.setCell (World.setCell (World.setCell (World.setCell (World.setCell (World.setCell w6 _ _) _ _) _ _) _ _) _ _) _ _) _ _) _ _ = wz at *
      obtain ⟨h2, h3, h4, h5⟩ := HST.out
      have HRV2 := Lib.hid ((h5 _ _ HRV.out).below (Ext.rf _).drew)
      have HRL2 := Lib.hid ((h5 _ _ HRL.out).below (Ext.rf _).drew)
      have HX7 := Lib.hid h4.drew
      clear h4 h5 k0 k1 k2 k3 k4 k5 s0 s1 n4 z0 z1 z2 z3 z4 z5 y0 y1 f0 f1 f2 f3 f4 f5 g0 g1
      obtain ⟨z0, z1, z2, z3, z4, z5⟩ := cells6 h2
      have y0 := cellAt h3 0
      have y1 := cellAt h3 1
      unfold bodyPost
      rw [HK1.out, HK2.out]
      dsimp only
      rw [HEV.out, HEL.out]
      simp [results, go_sem, z0, z1, z2, z3, z4, z5, y0, y1]
      exact ⟨⟨_, _, _, _, ⟨⟨rfl, rfl⟩, rfl, rfl⟩, HTY.out.below HX7.out, HRV2.out, HRL2.out⟩, HX7.out⟩
  · have HEV : Hid (argV t.op t.nm t.ty i V = V) := by show _ = _; unfold argV; rw [if_neg h8]
    have HEL : Hid (argL t.op t.nm t.ty L = L) := by show _ = _; unfold argL; rw [if_neg h11]
    have hq1 : (t.op == 11) = false := by simpa using h11
    have hq9 : (t.op == 8) = false ∨ ((i : Int) == 1) = false := by
      by_cases h : t.op = 8
      · right
        have : i ≠ 1 := fun e => h8 ⟨h, e⟩
        simp; omega
      · left; simpa using h
    clear h8 h11
    have HRV := Lib.hid (HV.out.below HE.out)
    have HRL := Lib.hid (HL.out.below HE.out)
    have HS1 := HB1; have HC2 := HB2; have HC3 := HB3; have HC4 := HB4; have HX6 := HE
    rcases hq9 with hq9 | hq9
    · go_upto_region 8 with fail
      generalize w1 = w6 at *
      clear m0
      have yc := HYC.out.below HX6.out
      have k0 := yc.c0
      have k1 := yc.c1
      have k2 := yc.c2
      have k3 := yc.c3
      have k4 := yc.c4
      have k5 := yc.c5
      clear yc
      have s0 := cellAt HS1.out 0
      have s1 := cellAt HS1.out 1
      have n4 := cellAt HC2.out 4
      obtain ⟨z0, z1, z2, z3, z4, z5⟩ := cells6 HC3.out
      have y0 := cellAt HC4.out 0
      have y1 := cellAt HC4.out 1
      have f0 := frozenAt HC3.out 0
      have f1 := frozenAt HC3.out 1
      have f2 := frozenAt HC3.out 2
      have f3 := frozenAt HC3.out 3
      have f4 := frozenAt HC3.out 4
      have f5 := frozenAt HC3.out 5
      have g0 := frozenAt HC4.out 0
      have g1 := frozenAt HC4.out 1
      have HST := Lib.hid (child_store HC3.out HC4.out (by omega) HX6.out (by omega) (by omega) (.int .i64 x.op) (.int .i64 x.n) (.string x.nm) (.int .i64 x.ty) (.slice Ax x.args.length cx) (.slice Bx x.cls.length dx) (.pointer qv) (.pointer ql))
      go_region_with (fail)
      all_goals
        go_wp2
        generalize World.setCell (World.setCell (World.setCell (World.setCell (World.setCell (World.setCell (World.setCell (World.setCell w6 _ _) _ _) _ _) _ _) _ _) _ _) _ _) _ _ = wz at *
        obtain ⟨h2, h3, h4, h5⟩ := HST.out
        have HRV2 := Lib.hid ((h5 _ _ HRV.out).below (Ext.rf _).drew)
        have HRL2 := Lib.hid ((h5 _ _ HRL.out).below (Ext.rf _).drew)
        have HX7 := Lib.hid h4.drew
        clear h4 h5 k0 k1 k2 k3 k4 k5 s0 s1 n4 z0 z1 z2 z3 z4 z5 y0 y1 f0 f1 f2 f3 f4 f5 g0 g1
        obtain ⟨z0, z1, z2, z3, z4, z5⟩ := cells6 h2
        have y0 := cellAt h3 0
        have y1 := cellAt h3 1
        unfold bodyPost
        rw [HK1.out, HK2.out]
        dsimp only
        rw [HEV.out, HEL.out]
        simp [results, go_sem, z0, z1, z2, z3, z4, z5, y0, y1]
        exact ⟨⟨_, _, _, _, ⟨⟨rfl, rfl⟩, rfl, rfl⟩, HTY.out.below HX7.out, HRV2.out, HRL2.out⟩, HX7.out⟩
    · cases hqq : (t.op == 8)
      · go_upto_region 8 with fail
        generalize w1 = w6 at *
        clear m0
        have yc := HYC.out.below HX6.out
        have k0 := yc.c0
        have k1 := yc.c1
        have k2 := yc.c2
        have k3 := yc.c3
        have k4 := yc.c4
        have k5 := yc.c5
        clear yc
        have s0 := cellAt HS1.out 0
        have s1 := cellAt HS1.out 1
        have n4 := cellAt HC2.out 4
        obtain ⟨z0, z1, z2, z3, z4, z5⟩ := cells6 HC3.out
        have y0 := cellAt HC4.out 0
        have y1 := cellAt HC4.out 1
        have f0 := frozenAt HC3.out 0
        have f1 := frozenAt HC3.out 1
        have f2 := frozenAt HC3.out 2
        have f3 := frozenAt HC3.out 3
        have f4 := frozenAt HC3.out 4
        have f5 := frozenAt HC3.out 5
        have g0 := frozenAt HC4.out 0
        have g1 := frozenAt HC4.out 1
        have HST := Lib.hid (child_store HC3.out HC4.out (by omega) HX6.out (by omega) (by omega) (.int .i64 x.op) (.int .i64 x.n) (.string x.nm) (.int .i64 x.ty) (.slice Ax x.args.length cx) (.slice Bx x.cls.length dx) (.pointer qv) (.pointer ql))
        go_region_with (fail)
        all_goals
          go_wp2
          generalize World.setCell (World.setCell (World.setCell (World.setCell (World.setCell (World.setCell (World.setCell (World.setCell w6 _ _) _ _) _ _) _ _) _ _) _ _) _ _) _ _ = wz at *
          obtain ⟨h2, h3, h4, h5⟩ := HST.out
          have HRV2 := Lib.hid ((h5 _ _ HRV.out).below (Ext.rf _).drew)
          have HRL2 := Lib.hid ((h5 _ _ HRL.out).below (Ext.rf _).drew)
          have HX7 := Lib.hid h4.drew
          clear h4 h5 k0 k1 k2 k3 k4 k5 s0 s1 n4 z0 z1 z2 z3 z4 z5 y0 y1 f0 f1 f2 f3 f4 f5 g0 g1
          obtain ⟨z0, z1, z2, z3, z4, z5⟩ := cells6 h2
          have y0 := cellAt h3 0
          have y1 := cellAt h3 1
          unfold bodyPost
          rw [HK1.out, HK2.out]
          dsimp only
          rw [HEV.out, HEL.out]
          simp [results, go_sem, z0, z1, z2, z3, z4, z5, y0, y1]
          exact ⟨⟨_, _, _, _, ⟨⟨rfl, rfl⟩, rfl, rfl⟩, HTY.out.below HX7.out, HRV2.out, HRL2.out⟩, HX7.out⟩
      · go_upto_region 8 with fail
        generalize w1 = w6 at *
        clear m0
        have yc := HYC.out.below HX6.out
        have k0 := yc.c0
        have k1 := yc.c1
        have k2 := yc.c2
        have k3 := yc.c3
        have k4 := yc.c4
        have k5 := yc.c5
        clear yc
        have s0 := cellAt HS1.out 0
        have s1 := cellAt HS1.out 1
        have n4 := cellAt HC2.out 4
        obtain ⟨z0, z1, z2, z3, z4, z5⟩ := cells6 HC3.out
        have y0 := cellAt HC4.out 0
        have y1 := cellAt HC4.out 1
        have f0 := frozenAt HC3.out 0
        have f1 := frozenAt HC3.out 1
        have f2 := frozenAt HC3.out 2
        have f3 := frozenAt HC3.out 3
        have f4 := frozenAt HC3.out 4
        have f5 := frozenAt HC3.out 5
        have g0 := frozenAt HC4.out 0
        have g1 := frozenAt HC4.out 1
        have HST := Lib.hid (child_store HC3.out HC4.out (by omega) HX6.out (by omega) (by omega) (.int .i64 x.op) (.int .i64 x.n) (.string x.nm) (.int .i64 x.ty) (.slice Ax x.args.length cx) (.slice Bx x.cls.length dx) (.pointer qv) (.pointer ql))
        go_region_with (fail)
        all_goals
          go_wp2
          generalize World.setCell (World.setCell (World.setCell (World.setCell (World.setCell (World.setCell (World.setCell (World.setCell w6 _ _) _ _) _ _) _ _) _ _) _ _) _ _) _ _ = wz at *
          obtain ⟨h2, h3, h4, h5⟩ := HST.out
          have HRV2 := Lib.hid ((h5 _ _ HRV.out).below (Ext.rf _).drew)
          have HRL2 := Lib.hid ((h5 _ _ HRL.out).below (Ext.rf _).drew)
          have HX7 := Lib.hid h4.drew
          clear h4 h5 k0 k1 k2 k3 k4 k5 s0 s1 n4 z0 z1 z2 z3 z4 z5 y0 y1 f0 f1 f2 f3 f4 f5 g0 g1
          obtain ⟨z0, z1, z2, z3, z4, z5⟩ := cells6 h2
          have y0 := cellAt h3 0
          have y1 := cellAt h3 1
          unfold bodyPost
          rw [HK1.out, HK2.out]
          dsimp only
          rw [HEV.out, HEL.out]
          simp [results, go_sem, z0, z1, z2, z3, z4, z5, y0, y1]
          exact ⟨⟨_, _, _, _, ⟨⟨rfl, rfl⟩, rfl, rfl⟩, HTY.out.below HX7.out, HRV2.out, HRL2.out⟩, HX7.out⟩
end Go.Proofs.YtogmjgccopmplaaGreat
