/- scope.go: bind; visit.go: child. -/
import Derived.Test.YtkdglplfcpindaaGreatDoorQ25
import Derived.Orders
import Derived.RegionTactic
namespace Go.Proofs.YtkdglplfcpindaaGreatDoor
open Go.RowKit

theorem set1_box2 {w : World} {r T : Nat} {a b : Value} (h : w.heap[r]? = some (.cells #[a, b] T (0, 0))) (v : Value) : (w.setCell ⟨r, 0, none⟩ v).heap[r]? = some (.cells #[v, b] T (0, 0)) := by
  simp [World.setCell, Array.getElem?_modify, h]
theorem RB.turn {w w' : World} {g : Nat} {c : Array Value} {T : Nat} (hg : w.heap[g]? = some (.cells c T (0, 0))) (hT : ∀ s : Str, c[0]? ≠ some (.string s)) (ho : Only (fun j => j = g) w w') : ∀ {E : Env} {v : Value}, RB w E v → RB w' E v
  | [], _, h => h
  | (s, y) :: r, v, ⟨b, u, h1, h2, h3, h4, h5⟩ => by
    have hne : b ≠ g := fun e => by
      subst e
      unfold World.cell? at h2
      rw [hg] at h2
      exact hT s (by simpa using h2)
    have k : ∀ i x, w.cell? ⟨b, i, none⟩ = some x → w'.cell? ⟨b, i, none⟩ = some x := fun i x hx => (World.cell?_of_block (ho.block b (cell_lt hx) hne)).trans hx
    exact ⟨b, u, h1, k _ _ h2, k _ _ h3, k _ _ h4, RB.turn hg hT ho h5⟩

theorem only2_setB (w : World) (r : Nat) (a' b' : Value) : Only (fun j => j = r) w ((w.setCell ⟨r, 0, none⟩ a').setCell ⟨r, 1, none⟩ b') :=
  have h : ∀ (W : World) (i : Nat) (u : Value), Only (fun j => j = r) W (W.setCell ⟨r, i, none⟩ u) := fun W i u => Only.setCell (C := fun j => j = r) (p := ⟨r, i, none⟩) rfl W u
  (h _ _ _).tr (h _ _ _)
theorem box2_bothB {w : World} {r T : Nat} {a b : Value} (h : w.heap[r]? = some (.cells #[a, b] T (0, 0))) (a' b' : Value) : ((w.setCell ⟨r, 0, none⟩ a').setCell ⟨r, 1, none⟩ b').heap[r]? = some (.cells #[a', b'] T (0, 0)) := by
  simp [World.setCell, Array.getElem?_modify, h]

set_option maxHeartbeats 4000000 in
set_option maxRecDepth 100000 in
theorem bind_any (V L : Env) (pv pl vn vt : Value) (ns : List Str) (ts : List Int) (w : World) (hV : RB w V pv) (hL : RB w L pl) (hn : RStrs w vn ns) (ht : RInts w vt ts) (hl : ns.length ≤ ts.length) :
    Calls Tryz.prog 124 #[scV pv pl, vn, vt] w fun e w' => (∃ u, e = .returned (scV u pl) ∧ RB w' (bindE ns ts V) u ∧ RB w' L pl) ∧ Ext w w' := by
  have HV := Lib.hid hV; have HL := Lib.hid hL; have HN := Lib.hid hn; have HT := Lib.hid ht
  have hmx : Tryz.prog.follows .mixedOrders = true := by kernel_rfl
  obtain ⟨qv, rfl⟩ := hV.form
  obtain ⟨ql, rfl⟩ := hL.form
  obtain ⟨An, cn, rfl, hcn, hmn⟩ := hn.form
  obtain ⟨At, ct, rfl, hct, hmt⟩ := ht.form
  clear hV hL hn ht
  unfold maxLen at hmn hmt
  have HE := Lib.hid (Ext.al2 w (.cells #[.pointer qv, .pointer ql] 134) (.cells #[.pointer none, .pointer none] 134))
  have hb1 := heapNew w (.cells #[.pointer qv, .pointer ql] 134)
  have hbz := heapNew (w.alloc (.cells #[.pointer qv, .pointer ql] 134)) (.cells #[.pointer none, .pointer none] 134)
  rw [World.size_alloc] at hbz
  have HB1 := Lib.hid (((Ext.al (w.alloc (.cells #[.pointer qv, .pointer ql] 134)) (.cells #[.pointer none, .pointer none] 134)).block _ (heap_lt hb1)).trans hb1)
  have HBZ := Lib.hid hbz
  clear hb1 hbz
  go_enter Tryz.func124, Tryz.ntmps124
  go_wp2
  generalize World.alloc (World.alloc w _) _ = w1 at *
  have HZ : Hid (w.heap.size + 1 < w1.heap.size) := heap_lt HBZ.out
  go_loopw [11] (fun i wr => ∃ (j : Nat) (p : Option Addr) (E : Env), j ≤ ns.length ∧ i = .int .i64 j ∧ wr.heap[w.heap.size]? = some (.cells #[.pointer p, .pointer ql] 134 (0, 0)) ∧ RB wr E (.pointer p) ∧ bindE ns ts V = bindE (ns.drop j) (ts.drop j) E ∧ Only (fun j => j = w.heap.size) w1 wr) (fun i _ => ns.length - (intOf i).toNat)
  case atStart => exact ⟨0, qv, V, Nat.zero_le _, rfl, HB1.out, HV.out.below HE.out, rfl, Only.rf _ _⟩
  case round =>
    obtain ⟨j, p, E, hj, rfl, hb, hr, hd, ho⟩ := hrel
    have HB := Lib.hid hb; have HR := Lib.hid hr; have HD := Lib.hid hd; have HO := Lib.hid ho
    have HX : Hid (Ext w wr) := HE.out.trans (ho.below HE.out.size (fun k e => by omega))
    clear hb hr hd ho
    by_cases hlt : j < ns.length
    · have hlt2 : j < ts.length := by omega
      obtain ⟨b1, o1, rfl, -, y0, -⟩ := (HN.out.below HX.out).at_ hlt
      obtain ⟨b2, o2, rfl, -, z0⟩ := (HT.out.below HX.out).at_ hlt2
      have HD1 := Lib.hid (drop_step hlt)
      have HD2 := Lib.hid (drop_step hlt2)
      generalize ns[j] = x at *
      generalize ts[j] = y at *
      have c0 := cellAt HB.out 0
      have y0' := Lib.hid y0
      go_upto_region 4 with fail
      clear y0 y0'
      go_region_with (go_at_call 101; (with_reducible refine (bwith_any E _ x y _ (HR.out.below (Ext.rf _).drew)).mono ?_); rintro e w5 ⟨⟨u, rfl, hr⟩, hb⟩; have HX5 : Hid (Ext wr w5) := Ext.tr (b := wr.drew) (Ext.rf wr).drew hb; obtain ⟨q, rfl⟩ := hr.form; have HR5 := Lib.hid hr; have HB5 := Lib.hid ((HX5.out.block _ (heap_lt HB.out)).trans HB.out); clear hr hb c0 z0; have c0 := cellAt HB5.out 0; have f0 := frozenAt HB5.out 0)
      all_goals
        have HS := Lib.hid (set1_box2 HB5.out (.pointer q))
        have HON : Hid (Only (fun j => j = w.heap.size) w5 (w5.setCell ⟨w.heap.size, 0, none⟩ (.pointer q))) := Only.setCell (C := fun j => j = w.heap.size) (p := ⟨w.heap.size, 0, none⟩) rfl _ _
        have HRT := Lib.hid (RB.turn HB5.out (fun s => by simp) HON.out HR5.out)
        clear c0 f0
        go_wp2
        exact ⟨⟨j + 1, q, (x, y) :: E, by omega, by go_num, HS.out, HRT.out, by rw [HD.out, HD1.out, HD2.out]; rfl, (HO.out.tr (Only.of_ext HX5.out)).tr HON.out⟩, by simp [intOf]; omega⟩
    · have HDE : Hid (bindE ns ts V = E) := by show _ = _; rw [HD.out, drop_end hlt]; rfl
      have HBZr := Lib.hid ((HO.out.block _ HZ.out (by omega)).trans HBZ.out)
      have c0 := cellAt HB.out 0
      have c1 := cellAt HB.out 1
      have q0 := cellAt HBZr.out 0
      have q1 := cellAt HBZr.out 1
      have f0 := frozenAt HBZr.out 0
      have f1 := frozenAt HBZr.out 1
      go_wp2
      have HZZ := Lib.hid (box2_bothB HBZr.out (.pointer p) (.pointer ql))
      have HOZ := Lib.hid (only2_setB wr (w.heap.size + 1) (.pointer p) (.pointer ql))
      clear c0 c1 q0 q1 f0 f1
      generalize World.setCell (World.setCell wr _ _) _ _ = wz at *
      have q0 := cellAt HZZ.out 0
      have q1 := cellAt HZZ.out 1
      unfold bodyPost
      simp [results, go_sem, q0, q1]
      rw [HDE.out]
      exact ⟨⟨RB.turn HBZr.out (fun s => by simp) HOZ.out HR.out, RB.turn HBZr.out (fun s => by simp) HOZ.out (HL.out.below HX.out)⟩, HX.out.trans (HOZ.out.below HX.out.size (fun i e => by omega))⟩
end Go.Proofs.YtkdglplfcpindaaGreatDoor

/- visit.go: child: what is stored. -/
namespace Go.Proofs.YtkdglplfcpindaaGreatDoor
open Go.RowKit

theorem bindE_app : ∀ (ns : List Str) (ts r : List Int) (V : Env), ns.length ≤ ts.length → bindE ns (ts ++ r) V = bindE ns ts V
  | [], ts, r, V, _ => by simp [bindE]
  | s :: n, [], r, V, h => by simp at h
  | s :: n, y :: q, r, V, h => by
    show bindE n (q ++ r) ((s, y) :: V) = bindE n q ((s, y) :: V)
    exact bindE_app n q r _ (by simpa using h)
theorem box_four (w : World) (a b c d : Obj) : ((((w.alloc a).alloc b).alloc c).alloc d).heap[w.heap.size]? = some a ∧ ((((w.alloc a).alloc b).alloc c).alloc d).heap[w.heap.size + 1]? = some b ∧ ((((w.alloc a).alloc b).alloc c).alloc d).heap[w.heap.size + 1 + 1]? = some c ∧ ((((w.alloc a).alloc b).alloc c).alloc d).heap[w.heap.size + 1 + 1 + 1]? = some d := by
  have h1 := heapNew w a
  have h2 := heapNew (w.alloc a) b
  have h3 := heapNew ((w.alloc a).alloc b) c
  have h4 := heapNew (((w.alloc a).alloc b).alloc c) d
  simp only [World.size_alloc] at h2 h3 h4
  exact ⟨((Ext.al3 _ _ _ _).block _ (heap_lt h1)).trans h1, ((Ext.al2 _ _ _).block _ (by simp only [World.size_alloc]; omega)).trans h2, ((Ext.al _ _).block _ (by simp only [World.size_alloc]; omega)).trans h3, h4⟩

theorem set1_box2b {w : World} {r T : Nat} {a b : Value} (h : w.heap[r]? = some (.cells #[a, b] T (0, 0))) (v : Value) : (w.setCell ⟨r, 1, none⟩ v).heap[r]? = some (.cells #[a, v] T (0, 0)) := by
  simp [World.setCell, Array.getElem?_modify, h]
theorem child_store {w w6 : World} {n2 n3 : Nat} (h2 : w6.heap[n2]? = some (.cells #[.int .i64 0, .int .i64 0, .string ⟨#[]⟩, .int .i64 0, .slice none 0 0, .slice none 0 0] 50 (0, 0))) (h3 : w6.heap[n3]? = some (.cells #[.pointer none, .pointer none] 134 (0, 0))) (hne : n2 ≠ n3) (hx : Ext w w6) (l2 : w.heap.size ≤ n2) (l3 : w.heap.size ≤ n3) (a b c d e f p q : Value) :
    ((((((((w6.setCell ⟨n2, 0, none⟩ a).setCell ⟨n2, 1, none⟩ b).setCell ⟨n2, 2, none⟩ c).setCell ⟨n2, 3, none⟩ d).setCell ⟨n2, 4, none⟩ e).setCell ⟨n2, 5, none⟩ f).setCell ⟨n3, 0, none⟩ p).setCell ⟨n3, 1, none⟩ q).heap[n2]? = some (.cells #[a, b, c, d, e, f] 50 (0, 0)) ∧
    ((((((((w6.setCell ⟨n2, 0, none⟩ a).setCell ⟨n2, 1, none⟩ b).setCell ⟨n2, 2, none⟩ c).setCell ⟨n2, 3, none⟩ d).setCell ⟨n2, 4, none⟩ e).setCell ⟨n2, 5, none⟩ f).setCell ⟨n3, 0, none⟩ p).setCell ⟨n3, 1, none⟩ q).heap[n3]? = some (.cells #[p, q] 134 (0, 0)) ∧
    Ext w ((((((((w6.setCell ⟨n2, 0, none⟩ a).setCell ⟨n2, 1, none⟩ b).setCell ⟨n2, 2, none⟩ c).setCell ⟨n2, 3, none⟩ d).setCell ⟨n2, 4, none⟩ e).setCell ⟨n2, 5, none⟩ f).setCell ⟨n3, 0, none⟩ p).setCell ⟨n3, 1, none⟩ q) ∧
    ∀ E v, RB w6 E v → RB ((((((((w6.setCell ⟨n2, 0, none⟩ a).setCell ⟨n2, 1, none⟩ b).setCell ⟨n2, 2, none⟩ c).setCell ⟨n2, 3, none⟩ d).setCell ⟨n2, 4, none⟩ e).setCell ⟨n2, 5, none⟩ f).setCell ⟨n3, 0, none⟩ p).setCell ⟨n3, 1, none⟩ q) E v := by
  have hs : ∀ (W : World) (r i : Nat) (u : Value), Only (fun j => j = r) W (W.setCell ⟨r, i, none⟩ u) := fun W r i u => Only.setCell (C := fun j => j = r) (p := ⟨r, i, none⟩) rfl W u
  have o1 := ((((((hs w6 n2 0 a).tr (hs _ n2 1 b)).tr (hs _ n2 2 c)).tr (hs _ n2 3 d)).tr (hs _ n2 4 e)).tr (hs _ n2 5 f))
  have b2 : ((((((w6.setCell ⟨n2, 0, none⟩ a).setCell ⟨n2, 1, none⟩ b).setCell ⟨n2, 2, none⟩ c).setCell ⟨n2, 3, none⟩ d).setCell ⟨n2, 4, none⟩ e).setCell ⟨n2, 5, none⟩ f).heap[n2]? = some (.cells #[a, b, c, d, e, f] 50 (0, 0)) := by
    simp [World.setCell, Array.getElem?_modify, h2]
  generalize (((((w6.setCell ⟨n2, 0, none⟩ a).setCell ⟨n2, 1, none⟩ b).setCell ⟨n2, 2, none⟩ c).setCell ⟨n2, 3, none⟩ d).setCell ⟨n2, 4, none⟩ e).setCell ⟨n2, 5, none⟩ f = w7 at *
  have b3 : w7.heap[n3]? = some (.cells #[.pointer none, .pointer none] 134 (0, 0)) := (o1.block _ (heap_lt h3) (fun e => hne e.symm)).trans h3
  have o2 := only2_setB w7 n3 p q
  refine ⟨(o2.block _ (heap_lt b2) hne).trans b2, box2_bothB b3 p q, (hx.trans (o1.below hx.size (fun k e => by omega))).trans (o2.below (Nat.le_trans hx.size o1.size) (fun k e => by omega)), fun E v hr => RB.turn b3 (fun s => by simp) o2 (RB.turn h2 (fun s => by simp) o1 hr)⟩

end Go.Proofs.YtkdglplfcpindaaGreatDoor

/- visit.go: child, of an argument. -/
namespace Go.Proofs.YtkdglplfcpindaaGreatDoor
open Go.RowKit

set_option maxHeartbeats 4000000 in
set_option maxRecDepth 100000 in
theorem childA_any (gc : Nat) (P : Pg) (V L : Env) (pv pl : Value) (k : Nat) (t : Tm) (ux uc : Value) (i : Nat) (w : World) (hV : RB w V pv) (hL : RB w L pl) (ht : RT w (k + 1) t ux uc) (hk : RCk w gc P) (hlt : i < t.args.length) :
    Calls Tryz.prog 100 #[.pointer (some ⟨gc, 0, none⟩), scV pv pl, tV t ux uc, .int .i64 i] w fun e w' =>
      (∃ xa xc qv ql, e = .returned (.tuple #[tV (kidT t i) xa xc, scV qv ql]) ∧ RT w' k (kidT t i) xa xc ∧ RB w' (kidE P V L t i).1 qv ∧ RB w' (kidE P V L t i).2 ql) ∧ Ext w w' := by
  have HV := Lib.hid hV; have HL := Lib.hid hL; have HT := Lib.hid ht; have HCK := Lib.hid hk
  have hmx : Tryz.prog.follows .mixedOrders = true := by kernel_rfl
  obtain ⟨qv, rfl⟩ := hV.form
  obtain ⟨ql, rfl⟩ := hL.form
  obtain ⟨_, ⟨Aa, ca, rfl, hca, hma⟩, ⟨Bb, cb, rfl, hcb, hmb⟩⟩ := ht.form
  clear hV hL ht hk
  unfold maxLen at hma hmb
  have HE := Lib.hid ((Ext.al3 w (.cells #[.pointer qv, .pointer ql] 134) (.cells #[.int .i64 t.op, .int .i64 t.n, .string t.nm, .int .i64 t.ty, .slice Aa t.args.length ca, .slice Bb t.cls.length cb] 50) (.cells #[.int .i64 0, .int .i64 0, .string ⟨#[]⟩, .int .i64 0, .slice none 0 0, .slice none 0 0] 50)).tr (Ext.al _ (.cells #[.pointer none, .pointer none] 134)))
  obtain ⟨hb1, hb2, hb3, hb4⟩ := box_four w (.cells #[.pointer qv, .pointer ql] 134) (.cells #[.int .i64 t.op, .int .i64 t.n, .string t.nm, .int .i64 t.ty, .slice Aa t.args.length ca, .slice Bb t.cls.length cb] 50) (.cells #[.int .i64 0, .int .i64 0, .string ⟨#[]⟩, .int .i64 0, .slice none 0 0, .slice none 0 0] 50) (.cells #[.pointer none, .pointer none] 134)
  have HB1 := Lib.hid hb1; have HB2 := Lib.hid hb2; have HB3 := Lib.hid hb3; have HB4 := Lib.hid hb4
  clear hb1 hb2 hb3 hb4
  have n4 := cellAt HB2.out 4
  go_enter Tryz.func100, Tryz.ntmps100
  have HK1 : Hid (kidT t i = t.args[i]) := by show _ = _; unfold kidT; rw [if_pos hlt, List.getD_eq_getElem?_getD, List.getElem?_eq_getElem hlt]; rfl
  have HK2 : Hid (kidE P V L t i = (argV t.op t.nm t.ty i V, argL t.op t.nm t.ty L)) := by show _ = _; unfold kidE; rw [if_pos hlt]
  have hge : ¬ ((t.args.length : Int) ≤ i) := by omega
  go_upto_region 4 with fail
  generalize World.alloc (World.alloc (World.alloc (World.alloc w _) _) _) _ = w1 at *
  clear n4
  obtain ⟨ba, oa, xa, xc, rfl, hbl, yc, yt⟩ := HT.out.arg hlt
  have HTY := Lib.hid yt
  have HYC := Lib.hid yc
  obtain ⟨-, ⟨Ax, cx, rfl, -, -⟩, ⟨Bx, dx, rfl, -, -⟩⟩ := yt.form
  generalize t.args[i] = x at *
  clear yt yc hbl
  have HN : Hid (w.heap.size + 1 + 1 + 1 < w1.heap.size) := heap_lt HB4.out
  have m0 := cellAt HB2.out 0
  by_cases h8 : t.op = 8 ∧ i = 1
  · obtain ⟨h8, rfl⟩ := h8
    have HEV : Hid (argV t.op t.nm t.ty 1 V = (t.nm, t.ty) :: V) := by show _ = _; unfold argV; rw [if_pos ⟨h8, rfl⟩]
    have HEL : Hid (argL t.op t.nm t.ty L = L) := by show _ = _; unfold argL; rw [if_neg (by omega)]
    have hq8 : (t.op == 8) = true := by simp [h8]
    have hq1 : (((1 : Nat) : Int) == 1) = true := by rfl
    clear h8
    have m2 := cellAt HB2.out 2
    have m3 := cellAt HB2.out 3
    have s0 := cellAt HB1.out 0
    go_wp2_with fail
    (with_reducible refine (bwith_any V _ t.nm t.ty _ (HV.out.below HE.out)).mono ?_)
    rintro e w5 ⟨⟨u, rfl, hr⟩, hb⟩
    obtain ⟨qu, rfl⟩ := hr.form
    have HX5 := Lib.hid hb
    have HR5 := Lib.hid hr
    have HC1 := Lib.hid ((hb.block _ (heap_lt HB1.out)).trans HB1.out)
    have HC2 := Lib.hid ((hb.block _ (heap_lt HB2.out)).trans HB2.out)
    have HC3 := Lib.hid ((hb.block _ (heap_lt HB3.out)).trans HB3.out)
    have HC4 := Lib.hid ((hb.block _ (heap_lt HB4.out)).trans HB4.out)
    clear hr hb m0 m2 m3 s0
    have s0 := cellAt HC1.out 0
    have f0 := frozenAt HC1.out 0
    go_upto_region 8 with fail
    clear s0 f0
    have HS1 := Lib.hid (set1_box2 HC1.out (.pointer qu))
    have HON : Hid (Only (fun j => j = w.heap.size) w5 (w5.setCell ⟨w.heap.size, 0, none⟩ (.pointer qu))) := Only.setCell (C := fun j => j = w.heap.size) (p := ⟨w.heap.size, 0, none⟩) rfl _ _
    have HRV := Lib.hid (RB.turn HC1.out (fun s => by simp) HON.out HR5.out)
    have HRL := Lib.hid (RB.turn HC1.out (fun s => by simp) HON.out (HL.out.below (HE.out.tr HX5.out)))
    have HC2 := Lib.hid ((HON.out.block _ (heap_lt HC2.out) (by omega)).trans HC2.out)
    have HC3 := Lib.hid ((HON.out.block _ (heap_lt HC3.out) (by omega)).trans HC3.out)
    have HC4 := Lib.hid ((HON.out.block _ (heap_lt HC4.out) (by omega)).trans HC4.out)
    have HX6 : Hid (Ext w _) := (HE.out.tr HX5.out).trans (HON.out.below (HE.out.tr HX5.out).size (fun k e => by omega))
    generalize World.setCell w5 _ _ = w6 at *
    have yc := HYC.out.below HX6.out
    have k0 := yc.c0
    have k1 := yc.c1
    have k2 := yc.c2
    have k3 := yc.c3
    have k4 := yc.c4
    have k5 := yc.c5
    clear yc
    have s0 := cellAt HS1.out 0
    have s1 := cellAt HS1.out 1
    have n4 := cellAt HC2.out 4
    obtain ⟨z0, z1, z2, z3, z4, z5⟩ := cells6 HC3.out
    have y0 := cellAt HC4.out 0
    have y1 := cellAt HC4.out 1
    have f0 := frozenAt HC3.out 0
    have f1 := frozenAt HC3.out 1
    have f2 := frozenAt HC3.out 2
    have f3 := frozenAt HC3.out 3
    have f4 := frozenAt HC3.out 4
    have f5 := frozenAt HC3.out 5
    have g0 := frozenAt HC4.out 0
    have g1 := frozenAt HC4.out 1
    have HST := Lib.hid (child_store HC3.out HC4.out (by omega) HX6.out (by omega) (by omega) (.int .i64 x.op) (.int .i64 x.n) (.string x.nm) (.int .i64 x.ty) (.slice Ax x.args.length cx) (.slice Bx x.cls.length dx) (.pointer qu) (.pointer ql))
    go_region_with (fail)
    all_goals
      go_wp2
      generalize World.setCell (World.setCell (World.setCell (World.setCell (World.setCell (World.setCell (World.setCell (World.setCell w6 _ _) _ _) _ _) _ _) _ _) _ _) _ _) _ _ = wz at *
      obtain ⟨h2, h3, h4, h5⟩ := HST.out
      have HRV2 := Lib.hid ((h5 _ _ HRV.out).below (Ext.rf _).drew)
      have HRL2 := Lib.hid ((h5 _ _ HRL.out).below (Ext.rf _).drew)
      have HX7 := Lib.hid h4.drew
      clear h4 h5 k0 k1 k2 k3 k4 k5 s0 s1 n4 z0 z1 z2 z3 z4 z5 y0 y1 f0 f1 f2 f3 f4 f5 g0 g1
      obtain ⟨z0, z1, z2, z3, z4, z5⟩ := cells6 h2
      have y0 := cellAt h3 0
      have y1 := cellAt h3 1
      unfold bodyPost
      rw [HK1.out, HK2.out]
      dsimp only
      rw [HEV.out, HEL.out]
      simp [results, go_sem, z0, z1, z2, z3, z4, z5, y0, y1]
      exact ⟨⟨_, _, _, _, ⟨⟨rfl, rfl⟩, rfl, rfl⟩, HTY.out.below HX7.out, HRV2.out, HRL2.out⟩, HX7.out⟩
  by_cases h11 : t.op = 11
  · have HEV : Hid (argV t.op t.nm t.ty i V = V) := by show _ = _; unfold argV; rw [if_neg (by omega)]
    have HEL : Hid (argL t.op t.nm t.ty L = (t.nm, t.ty) :: L) := by show _ = _; unfold argL; rw [if_pos h11]
    have hq8 : (t.op == 8) = false := by simp [h11]
    have hq1 : (t.op == 11) = true := by simp [h11]
    clear h8 h11
    have m2 := cellAt HB2.out 2
    have m3 := cellAt HB2.out 3
    have s1 := cellAt HB1.out 1
    go_wp2_with fail
    (with_reducible refine (bwith_any L _ t.nm t.ty _ (HL.out.below HE.out)).mono ?_)
    rintro e w5 ⟨⟨u, rfl, hr⟩, hb⟩
    obtain ⟨qu, rfl⟩ := hr.form
    have HX5 := Lib.hid hb
    have HR5 := Lib.hid hr
    have HC1 := Lib.hid ((hb.block _ (heap_lt HB1.out)).trans HB1.out)
    have HC2 := Lib.hid ((hb.block _ (heap_lt HB2.out)).trans HB2.out)
    have HC3 := Lib.hid ((hb.block _ (heap_lt HB3.out)).trans HB3.out)
    have HC4 := Lib.hid ((hb.block _ (heap_lt HB4.out)).trans HB4.out)
    clear hr hb m0 m2 m3 s1
    have s1 := cellAt HC1.out 1
    have f1 := frozenAt HC1.out 1
    go_upto_region 8 with fail
    clear s1 f1
    have HS1 := Lib.hid (set1_box2b HC1.out (.pointer qu))
    have HON : Hid (Only (fun j => j = w.heap.size) w5 (w5.setCell ⟨w.heap.size, 1, none⟩ (.pointer qu))) := Only.setCell (C := fun j => j = w.heap.size) (p := ⟨w.heap.size, 1, none⟩) rfl _ _
    have HRL := Lib.hid (RB.turn HC1.out (fun s => by simp) HON.out HR5.out)
    have HRV := Lib.hid (RB.turn HC1.out (fun s => by simp) HON.out (HV.out.below (HE.out.tr HX5.out)))
    have HC2 := Lib.hid ((HON.out.block _ (heap_lt HC2.out) (by omega)).trans HC2.out)
    have HC3 := Lib.hid ((HON.out.block _ (heap_lt HC3.out) (by omega)).trans HC3.out)
    have HC4 := Lib.hid ((HON.out.block _ (heap_lt HC4.out) (by omega)).trans HC4.out)
    have HX6 : Hid (Ext w _) := (HE.out.tr HX5.out).trans (HON.out.below (HE.out.tr HX5.out).size (fun k e => by omega))
    generalize World.setCell w5 _ _ = w6 at *
    have yc := HYC.out.below HX6.out
    have k0 := yc.c0
    have k1 := yc.c1
    have k2 := yc.c2
    have k3 := yc.c3
    have k4 := yc.c4
    have k5 := yc.c5
    clear yc
    have s0 := cellAt HS1.out 0
    have s1 := cellAt HS1.out 1
    have n4 := cellAt HC2.out 4
    obtain ⟨z0, z1, z2, z3, z4, z5⟩ := cells6 HC3.out
    have y0 := cellAt HC4.out 0
    have y1 := cellAt HC4.out 1
    have f0 := frozenAt HC3.out 0
    have f1 := frozenAt HC3.out 1
    have f2 := frozenAt HC3.out 2
    have f3 := frozenAt HC3.out 3
    have f4 := frozenAt HC3.out 4
    have f5 := frozenAt HC3.out 5
    have g0 := frozenAt HC4.out 0
    have g1 := frozenAt HC4.out 1
    have HST := Lib.hid (child_store HC3.out HC4.out (by omega) HX6.out (by omega) (by omega) (.int .i64 x.op) (.int .i64 x.n) (.string x.nm) (.int .i64 x.ty) (.slice Ax x.args.length cx) (.slice Bx x.cls.length dx) (.pointer qv) (.pointer qu))
    go_region_with (fail)
    all_goals
      go_wp2
      generalize World.setCell (World.setCell (World.setCell (World.setCell (World.setCell (World.setCell (World.setCell (World.setCell w6 _ _) _ _) _ _) _ _) _ _) _ _) _ _) _ _ = wz at *
      obtain ⟨h2, h3, h4, h5⟩ := HST.out
      have HRV2 := Lib.hid ((h5 _ _ HRV.out).below (Ext.rf _).drew)
      have HRL2 := Lib.hid ((h5 _ _ HRL.out).below (Ext.rf _).drew)
      have HX7 := Lib.hid h4.drew
      clear h4 h5 k0 k1 k2 k3 k4 k5 s0 s1 n4 z0 z1 z2 z3 z4 z5 y0 y1 f0 f1 f2 f3 f4 f5 g0 g1
      obtain ⟨z0, z1, z2, z3, z4, z5⟩ := cells6 h2
      have y0 := cellAt h3 0
      have y1 := cellAt h3 1
      unfold bodyPost
      rw [HK1.out, HK2.out]
      dsimp only
      rw [HEV.out, HEL.out]
      simp [results, go_sem, z0, z1, z2, z3, z4, z5, y0, y1]
      exact ⟨⟨_, _, _, _, ⟨⟨rfl, rfl⟩, rfl, rfl⟩, HTY.out.below HX7.out, HRV2.out, HRL2.out⟩, HX7.out⟩
  · have HEV : Hid (argV t.op t.nm t.ty i V = V) := by show _ = _; unfold argV; rw [if_neg h8]
    have HEL : Hid (argL t.op t.nm t.ty L = L) := by show _ = _; unfold argL; rw [if_neg h11]
    have hq1 : (t.op == 11) = false := by simpa using h11
    have hq9 : (t.op == 8) = false ∨ ((i : Int) == 1) = false := by
      by_cases h : t.op = 8
      · right
        have : i ≠ 1 := fun e => h8 ⟨h, e⟩
        simp; omega
      · left; simpa using h
    clear h8 h11
    have HRV := Lib.hid (HV.out.below HE.out)
    have HRL := Lib.hid (HL.out.below HE.out)
    have HS1 := HB1; have HC2 := HB2; have HC3 := HB3; have HC4 := HB4; have HX6 := HE
    rcases hq9 with hq9 | hq9
    · go_upto_region 8 with fail
      generalize w1 = w6 at *
      clear m0
      have yc := HYC.out.below HX6.out
      have k0 := yc.c0
      have k1 := yc.c1
      have k2 := yc.c2
      have k3 := yc.c3
      have k4 := yc.c4
      have k5 := yc.c5
      clear yc
      have s0 := cellAt HS1.out 0
      have s1 := cellAt HS1.out 1
      have n4 := cellAt HC2.out 4
      obtain ⟨z0, z1, z2, z3, z4, z5⟩ := cells6 HC3.out
      have y0 := cellAt HC4.out 0
      have y1 := cellAt HC4.out 1
      have f0 := frozenAt HC3.out 0
      have f1 := frozenAt HC3.out 1
      have f2 := frozenAt HC3.out 2
      have f3 := frozenAt HC3.out 3
      have f4 := frozenAt HC3.out 4
      have f5 := frozenAt HC3.out 5
      have g0 := frozenAt HC4.out 0
      have g1 := frozenAt HC4.out 1
      have HST := Lib.hid (child_store HC3.out HC4.out (by omega) HX6.out (by omega) (by omega) (.int .i64 x.op) (.int .i64 x.n) (.string x.nm) (.int .i64 x.ty) (.slice Ax x.args.length cx) (.slice Bx x.cls.length dx) (.pointer qv) (.pointer ql))
      go_region_with (fail)
      all_goals
        go_wp2
        generalize World.setCell (World.setCell (World.setCell (World.setCell (World.setCell (World.setCell (World.setCell (World.setCell w6 _ _) _ _) _ _) _ _) _ _) _ _) _ _) _ _ = wz at *
        obtain ⟨h2, h3, h4, h5⟩ := HST.out
        have HRV2 := Lib.hid ((h5 _ _ HRV.out).below (Ext.rf _).drew)
        have HRL2 := Lib.hid ((h5 _ _ HRL.out).below (Ext.rf _).drew)
        have HX7 := Lib.hid h4.drew
        clear h4 h5 k0 k1 k2 k3 k4 k5 s0 s1 n4 z0 z1 z2 z3 z4 z5 y0 y1 f0 f1 f2 f3 f4 f5 g0 g1
        obtain ⟨z0, z1, z2, z3, z4, z5⟩ := cells6 h2
        have y0 := cellAt h3 0
        have y1 := cellAt h3 1
        unfold bodyPost
        rw [HK1.out, HK2.out]
        dsimp only
        rw [HEV.out, HEL.out]
        simp [results, go_sem, z0, z1, z2, z3, z4, z5, y0, y1]
        exact ⟨⟨_, _, _, _, ⟨⟨rfl, rfl⟩, rfl, rfl⟩, HTY.out.below HX7.out, HRV2.out, HRL2.out⟩, HX7.out⟩
    · cases hqq : (t.op == 8)
      · go_upto_region 8 with fail
        generalize w1 = w6 at *
        clear m0
        have yc := HYC.out.below HX6.out
        have k0 := yc.c0
        have k1 := yc.c1
        have k2 := yc.c2
        have k3 := yc.c3
        have k4 := yc.c4
        have k5 := yc.c5
        clear yc
        have s0 := cellAt HS1.out 0
        have s1 := cellAt HS1.out 1
        have n4 := cellAt HC2.out 4
        obtain ⟨z0, z1, z2, z3, z4, z5⟩ := cells6 HC3.out
        have y0 := cellAt HC4.out 0
        have y1 := cellAt HC4.out 1
        have f0 := frozenAt HC3.out 0
        have f1 := frozenAt HC3.out 1
        have f2 := frozenAt HC3.out 2
        have f3 := frozenAt HC3.out 3
        have f4 := frozenAt HC3.out 4
        have f5 := frozenAt HC3.out 5
        have g0 := frozenAt HC4.out 0
        have g1 := frozenAt HC4.out 1
        have HST := Lib.hid (child_store HC3.out HC4.out (by omega) HX6.out (by omega) (by omega) (.int .i64 x.op) (.int .i64 x.n) (.string x.nm) (.int .i64 x.ty) (.slice Ax x.args.length cx) (.slice Bx x.cls.length dx) (.pointer qv) (.pointer ql))
        go_region_with (fail)
        all_goals
          go_wp2
          generalize World.setCell (World.setCell (World.setCell (World.setCell (World.setCell (World.setCell (World.setCell (World.setCell w6 _ _) _ _) _ _) _ _) _ _) _ _) _ _) _ _ = wz at *
          obtain ⟨h2, h3, h4, h5⟩ := HST.out
          have HRV2 := Lib.hid ((h5 _ _ HRV.out).below (Ext.rf _).drew)
          have HRL2 := Lib.hid ((h5 _ _ HRL.out).below (Ext.rf _).drew)
          have HX7 := Lib.hid h4.drew
          clear h4 h5 k0 k1 k2 k3 k4 k5 s0 s1 n4 z0 z1 z2 z3 z4 z5 y0 y1 f0 f1 f2 f3 f4 f5 g0 g1
          obtain ⟨z0, z1, z2, z3, z4, z5⟩ := cells6 h2
          have y0 := cellAt h3 0
          have y1 := cellAt h3 1
          unfold bodyPost
          rw [HK1.out, HK2.out]
          dsimp only
          rw [HEV.out, HEL.out]
          simp [results, go_sem, z0, z1, z2, z3, z4, z5, y0, y1]
          exact ⟨⟨_, _, _, _, ⟨⟨rfl, rfl⟩, rfl, rfl⟩, HTY.out.below HX7.out, HRV2.out, HRL2.out⟩, HX7.out⟩
      · go_upto_region 8 with fail
        generalize w1 = w6 at *
        clear m0
        have yc := HYC.out.below HX6.out
        have k0 := yc.c0
        have k1 := yc.c1
        have k2 := yc.c2
        have k3 := yc.c3
        have k4 := yc.c4
        have k5 := yc.c5
        clear yc
        have s0 := cellAt HS1.out 0
        have s1 := cellAt HS1.out 1
        have n4 := cellAt HC2.out 4
        obtain ⟨z0, z1, z2, z3, z4, z5⟩ := cells6 HC3.out
        have y0 := cellAt HC4.out 0
        have y1 := cellAt HC4.out 1
        have f0 := frozenAt HC3.out 0
        have f1 := frozenAt HC3.out 1
        have f2 := frozenAt HC3.out 2
        have f3 := frozenAt HC3.out 3
        have f4 := frozenAt HC3.out 4
        have f5 := frozenAt HC3.out 5
        have g0 := frozenAt HC4.out 0
        have g1 := frozenAt HC4.out 1
        have HST := Lib.hid (child_store HC3.out HC4.out (by omega) HX6.out (by omega) (by omega) (.int .i64 x.op) (.int .i64 x.n) (.string x.nm) (.int .i64 x.ty) (.slice Ax x.args.length cx) (.slice Bx x.cls.length dx) (.pointer qv) (.pointer ql))
        go_region_with (fail)
        all_goals
          go_wp2
          generalize World.setCell (World.setCell (World.setCell (World.setCell (World.setCell (World.setCell (World.setCell (World.setCell w6 _ _) _ _) _ _) _ _) _ _) _ _) _ _) _ _ = wz at *
          obtain ⟨h2, h3, h4, h5⟩ := HST.out
          have HRV2 := Lib.hid ((h5 _ _ HRV.out).below (Ext.rf _).drew)
          have HRL2 := Lib.hid ((h5 _ _ HRL.out).below (Ext.rf _).drew)
          have HX7 := Lib.hid h4.drew
          clear h4 h5 k0 k1 k2 k3 k4 k5 s0 s1 n4 z0 z1 z2 z3 z4 z5 y0 y1 f0 f1 f2 f3 f4 f5 g0 g1
          obtain ⟨z0, z1, z2, z3, z4, z5⟩ := cells6 h2
          have y0 := cellAt h3 0
          have y1 := cellAt h3 1
          unfold bodyPost
          rw [HK1.out, HK2.out]
          dsimp only
          rw [HEV.out, HEL.out]
          simp [results, go_sem, z0, z1, z2, z3, z4, z5, y0, y1]
          exact ⟨⟨_, _, _, _, ⟨⟨rfl, rfl⟩, rfl, rfl⟩, HTY.out.below HX7.out, HRV2.out, HRL2.out⟩, HX7.out⟩
end Go.Proofs.YtkdglplfcpindaaGreatDoor

/- A statement whose order is open: an invariant over what has been done. -/
namespace Go.Proofs.YtkdglplfcpindaaGreatDoor
open Go.RowKit

/-- Every operation waits only for operations ahead of it in the text. -/
def backB (ops : Array Oper) : Bool := (List.range ops.size).all fun i => ((ops[i]?).map fun o => o.after.all fun e => decide (e.on < i)).getD true
def openN (n : Nat) (listed : Array Bool) : Nat := (List.range n).countP fun i => !listed.getD i false
theorem getD_eq {listed : Array Bool} {i : Nat} (h : i < listed.size) (a b : Bool) : listed.getD i a = listed.getD i b := by
  simp [Array.getD, h]
theorem openN_zero {n : Nat} {listed : Array Bool} (h : openN n listed = 0) : ∀ i, i < n → listed.getD i false = true := by
  intro i hi
  unfold openN at h
  rw [List.countP_eq_zero] at h
  have := h i (List.mem_range.2 hi)
  cases hb : listed.getD i false
  · rw [hb] at this; simp at this
  · rfl
theorem set_getD {listed : Array Bool} {i j : Nat} (hi : i < listed.size) : (listed.setIfInBounds i true).getD j false = (decide (j = i) || listed.getD j false) := by
  by_cases h : j = i
  · subst h; simp [Array.getD, hi]
  · have h' : i ≠ j := fun e => h e.symm
    rw [Array.getD_eq_getD_getElem?, Array.getD_eq_getD_getElem?, Array.getElem?_setIfInBounds_ne h']; simp [h]
theorem count_lt {α : Type} {p q : α → Bool} : ∀ (l : List α), (∀ x ∈ l, q x = true → p x = true) → (∃ x ∈ l, p x = true ∧ q x = false) → l.countP q < l.countP p
  | [], _, h => by obtain ⟨x, hx, _⟩ := h; cases hx
  | a :: r, hpq, h => by
    have hle : r.countP q ≤ r.countP p := List.countP_mono_left fun x hx hq => hpq x (List.mem_cons_of_mem _ hx) hq
    rw [List.countP_cons, List.countP_cons]
    obtain ⟨x, hx, hp, hq⟩ := h
    rcases List.mem_cons.1 hx with rfl | hx
    · rw [hp, hq]; simp; omega
    · have := count_lt r (fun y hy => hpq y (List.mem_cons_of_mem _ hy)) ⟨x, hx, hp, hq⟩
      have h2 := hpq a (List.mem_cons_self ..)
      cases hqa : q a
      · simp; omega
      · rw [h2 hqa]; simp; omega
theorem openN_set {n : Nat} {listed : Array Bool} {i : Nat} (hs : listed.size = n) (hi : i < n) (hl : listed.getD i false = false) : openN n (listed.setIfInBounds i true) < openN n listed := by
  unfold openN
  refine count_lt _ (fun x _ hq => ?_) ⟨i, List.mem_range.2 hi, by rw [hl]; rfl, by rw [set_getD (by omega)]; simp⟩
  rw [set_getD (by omega)] at hq
  cases hb : listed.getD x false
  · rfl
  · rw [hb] at hq; simp at hq
theorem all_of_ready {md : Region.Mode} {ops : Array Oper} {listed : Array Bool} (hb : backB ops = true) (hs : listed.size = ops.size) (hr : Region.ready md ops listed = []) : ∀ i, i < ops.size → listed.getD i false = true := by
  intro i
  induction i using Nat.strongRecOn with
  | _ i ih =>
    intro hi
    cases hl : listed.getD i false
    · exfalso
      have hm : i ∈ Region.ready md ops listed := by
        unfold Region.ready
        rw [List.mem_filter]
        refine ⟨List.mem_range.2 hi, ?_⟩
        rw [getD_eq (by omega) true false, hl]
        have ho : ops[i]? = some ops[i] := Array.getElem?_eq_getElem hi
        rw [ho]
        simp only [Bool.not_false, Bool.true_and, Option.map_some, Option.getD_some, Array.all_eq_true, Bool.or_eq_true]
        intro j hj
        right
        unfold backB at hb
        rw [List.all_eq_true] at hb
        have h1 := hb i (List.mem_range.2 hi)
        rw [ho] at h1
        simp only [Option.map_some, Option.getD_some, Array.all_eq_true, decide_eq_true_eq] at h1
        exact ih _ (h1 j hj) (by have := h1 j hj; omega)
      rw [hr] at hm; cases hm
    · rfl

theorem wpAny_inv {P : Program} {md : Region.Mode} {ops : Array Oper} {Q : Exit → Act → World → Prop} (hb : backB ops = true) (Inv : (Nat → Bool) → Act → World → Prop)
    (hstep : ∀ (L : Nat → Bool) (a : Act) (w : World) (i : Nat) (o : Oper), ops[i]? = some o → (∀ e ∈ o.after.toList, Region.binds md e = true → L e.on = true) → L i = false → Inv L a w →
      wpOp P ops Q i (fun a' w' => Inv (fun j => decide (j = i) || L j) a' w') a w)
    (hdone : ∀ (L : Nat → Bool) (a : Act) (w : World), (∀ i, i < ops.size → L i = true) → Inv L a w → Q .normal a w) :
    ∀ (fuel : Nat) (listed : Array Bool) (a : Act) (w : World), listed.size = ops.size → openN ops.size listed ≤ fuel → Inv (fun j => listed.getD j false) a w → wpAny P md ops Q fuel listed a w := by
  intro fuel
  induction fuel with
  | zero =>
    intro listed a w hs hn hI
    have hall := openN_zero (Nat.le_zero.1 hn)
    refine ⟨?_, hdone _ a w hall hI⟩
    unfold Region.ready
    rw [List.filter_eq_nil_iff]
    intro i hi
    have := hall i (List.mem_range.1 hi)
    rw [getD_eq (by have := List.mem_range.1 hi; omega) true false, this]
    simp
  | succ fuel ih =>
    intro listed a w hs hn hI
    refine ⟨fun hr => hdone _ a w (all_of_ready hb hs hr) hI, fun i hi => ?_⟩
    unfold Region.ready at hi
    rw [List.mem_filter] at hi
    obtain ⟨hir, hc⟩ := hi
    have hlt := List.mem_range.1 hir
    have ho : ops[i]? = some ops[i] := Array.getElem?_eq_getElem hlt
    rw [ho, Bool.and_eq_true] at hc
    obtain ⟨hc1, hc2⟩ := hc
    have hl : listed.getD i false = false := by
      rw [getD_eq (by omega) true false] at hc1
      cases hh : listed.getD i false
      · rfl
      · rw [hh] at hc1; cases hc1
    refine wpOp_mono (fun a' w' hI' => ih (listed.setIfInBounds i true) a' w' (by simpa using hs) ?_ ?_) (hstep _ a w i _ ho (fun e he hbd => ?_) hl hI)
    · have := openN_set hs hlt hl
      omega
    · have hf : (fun j => (listed.setIfInBounds i true).getD j false) = (fun j => decide (j = i) || listed.getD j false) := by
        funext j; exact set_getD (by omega)
      rw [hf]; exact hI'
    · simp only [Option.map_some, Option.getD_some] at hc2
      rw [Array.all_eq_true] at hc2
      obtain ⟨n, hn', rfl⟩ := List.getElem_of_mem he
      have := hc2 n (by simpa using hn')
      rw [Bool.or_eq_true] at this
      rcases this with h | h
      · have hb' : Region.binds md ops[i].after[n] = true := by simpa using hbd
        rw [hb'] at h; cases h
      · simpa using h
theorem openN_start (n : Nat) : openN n (Array.replicate n false) = n := by
  unfold openN
  rw [List.countP_eq_length.2, List.length_range]
  intro i hi
  have := List.mem_range.1 hi
  simp [Array.getD, this]

theorem wp_region_inv {P : Program} {id : Nat} {Q : Exit → Act → World → Prop} {a : Act} {w : World} {ops : Array Oper} (hm : P.follows .mixedOrders = true) (hb : backB ops = true) (Inv : (Nat → Bool) → Act → World → Prop)
    (h0 : Inv (fun _ => false) a w.drew)
    (hstep : ∀ (L : Nat → Bool) (a : Act) (w : World) (i : Nat) (o : Oper), ops[i]? = some o → (∀ e ∈ o.after.toList, Region.binds .any e = true → L e.on = true) → L i = false → Inv L a w →
      ∀ K : Act → World → Prop, Hid (∀ a' w', Inv (fun j => decide (j = i) || L j) a' w' → K a' w') → if Region.wanted o (yielded ops a.tmps) = true then Oper.wp P o a w K Q else K (a.put o.dst undef) w)
    (hdone : ∀ (L : Nat → Bool) (a : Act) (w : World), (∀ i, i < ops.size → L i = true) → Inv L a w → Q .normal a w) : (Code.region id ops true).wp P Q a w := by
  refine wp_region_any hm (wpAny_inv hb Inv (fun L a w i o ho hp hl hI => wpOp_step ho fun K hK => hstep L a w i o ho hp hl hI K hK) hdone _ _ _ _ (by simp) (Nat.le_of_eq (openN_start _)) ?_)
  have hf : (fun j => (Array.replicate ops.size false).getD j false) = (fun _ => false) := by
    funext j
    by_cases h : j < ops.size <;> simp [Array.getD, h]
  rw [hf]; exact h0
end Go.Proofs.YtkdglplfcpindaaGreatDoor

/- ref.go: Children, Depth, Nodes, Small. -/
namespace Go.Proofs.YtkdglplfcpindaaGreatDoor
open Go.RowKit

theorem SrcN.one {w : World} {b : Nat} {x : Trm} (h : w.heap[b]? = some (.cells #[.int .i64 x.1.op, .int .i64 x.1.n, .string x.1.nm, .int .i64 x.1.ty, x.2.1, x.2.2] 50 (0, 0))) : SrcN w (some ⟨b, 0, none⟩) 1 6 (cellsT [x]) := by
  refine .inr ⟨_, rfl, by simp [cellsT, cells1], fun j u hu => ?_⟩
  have hj : j < 6 := by have := (List.getElem?_eq_some_iff.1 hu).1; simpa [cellsT, cells1] using this
  rw [add_at, Nat.zero_add]
  match j, hj with
  | 0, _ => exact cellAt h 0 hu
  | 1, _ => exact cellAt h 1 hu
  | 2, _ => exact cellAt h 2 hu
  | 3, _ => exact cellAt h 3 hu
  | 4, _ => exact cellAt h 4 hu
  | 5, _ => exact cellAt h 5 hu

end Go.Proofs.YtkdglplfcpindaaGreatDoor
