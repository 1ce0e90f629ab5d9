/- ref06: CopyCore. -/
import Derived.Test.YtkdhhcidpklgoaaDoorQ23
namespace Go.Proofs.YtkdhhcidpklgoaaDoor
open Go.RowKit

abbrev Rwf := CF × Value × Value × Value × Value
def cells1F (x : Rwf) : List Value := [.string x.1.nm, x.2.1, x.2.2.1, .int .i64 x.1.body.op, .int .i64 x.1.body.n, .int .i64 x.1.body.ty, x.2.2.2.1, x.2.2.2.2]
def cellsF : List Rwf → List Value
  | [] => []
  | x :: r => cells1F x ++ cellsF r
theorem cellsF_append (m : List Rwf) : ∀ l, cellsF (l ++ m) = cellsF l ++ cellsF m
  | [] => rfl
  | x :: r => by rw [List.cons_append, cellsF, cellsF, cellsF_append m r, List.append_assoc]
theorem cellsF_at : ∀ (l : List Rwf) (i r : Nat) (x : Rwf), l[i]? = some x → r < 8 → (cellsF l)[i * 8 + r]? = (cells1F x)[r]?
  | [], _, _, _, h, _ => by simp at h
  | y :: l, 0, r, x, h, hr => by
    simp at h; subst h
    rw [cellsF, List.getElem?_append_left (by simp [cells1F]; omega)]; simp
  | y :: l, i + 1, r, x, h, hr => by
    simp at h
    rw [cellsF, List.getElem?_append_right (by simp [cells1F]; omega), ← cellsF_at l i r x h hr]
    congr 1; simp [cells1F]; omega
structure OkF (w : World) (x : Rwf) : Prop where
  s : x.1.nm.size ≤ maxLen
  p : RArgs w x.2.1 x.1.ps
  v : RInts w x.2.2.1 x.1.vars
  n : ∃ k, RNd w k x.1.body x.2.2.2.1 x.2.2.2.2
theorem okF_sub (w w' : World) (x : Rwf) (h : OkF w x) (hb : Sub w w') : OkF w' x := ⟨h.s, h.p.sub hb, h.v.sub hb, h.n.elim fun k h => ⟨k, RNd.sub hb h⟩⟩
theorem own_RCFs {w : World} {B : Nat} {v : Value} {L : List Rwf} (h : w.ownsRow B 47 8 v L.length (cellsF L)) (hr : ∀ x ∈ L, OkF w x) : RCFs w v (L.map (·.1)) := by
  rcases h.2 with ⟨rfl, h0⟩ | ⟨g, cap, cur, rfl, e2, e3, e4, e5, e6, e7⟩
  · have hL : L = [] := List.eq_nil_of_length_eq_zero h0
    subst hL
    exact ⟨none, 0, rfl, Nat.le_refl _, Nat.zero_le _, fun i x hx => by simp at hx⟩
  · refine ⟨_, cap, by rw [List.length_map], by rw [List.length_map]; exact e4, e5, fun i x hx => ?_⟩
    rw [List.getElem?_map] at hx
    obtain ⟨y, hy, rfl⟩ := Option.map_eq_some_iff.1 hx
    have hi : i < L.length := (List.getElem?_eq_some_iff.1 hy).1
    have hc : ∀ r u, r < 8 → (cells1F y)[r]? = some u → w.cell? ⟨g, i * 8 + r, none⟩ = some u := fun r u hr6 hu => by
      have h1 := cellsF_at L i r y hy hr6
      rw [World.ownsRow.cellAt h (i * 8 + r) (by omega), h1]; exact hu
    obtain ⟨h1, h2, h3, k, h4⟩ := hr y (List.mem_of_getElem? hy)
    exact ⟨g, 0, y.2.1, y.2.2.1, y.2.2.2.1, y.2.2.2.2, k, rfl, (Array.getElem?_eq_some_iff.1 e3).1, by rw [Nat.zero_add]; exact hc 0 _ (by omega) rfl, by rw [Nat.zero_add]; exact hc 1 _ (by omega) rfl, by rw [Nat.zero_add]; exact hc 2 _ (by omega) rfl, by
      rw [Nat.zero_add]
      exact ⟨hc 3 _ (by omega) rfl, hc 4 _ (by omega) rfl, hc 5 _ (by omega) rfl, hc 6 _ (by omega) rfl, hc 7 _ (by omega) rfl⟩, h1, h2, h3, h4⟩
theorem SrcN.oneF {w : World} {b : Nat} {x : Rwf} (h : w.heap[b]? = some (.cells #[.string x.1.nm, x.2.1, x.2.2.1, .int .i64 x.1.body.op, .int .i64 x.1.body.n, .int .i64 x.1.body.ty, x.2.2.2.1, x.2.2.2.2] 47 (0, 0))) : SrcN w (some ⟨b, 0, none⟩) 1 8 (cellsF [x]) := by
  refine .inr ⟨_, rfl, by simp [cellsF, cells1F], fun j u hu => ?_⟩
  have hj : j < 8 := by have := (List.getElem?_eq_some_iff.1 hu).1; simpa [cellsF, cells1F] using this
  rw [add_at, Nat.zero_add]
  match j, hj with
  | 0, _ => exact cellAt h 0 hu
  | 1, _ => exact cellAt h 1 hu
  | 2, _ => exact cellAt h 2 hu
  | 3, _ => exact cellAt h 3 hu
  | 4, _ => exact cellAt h 4 hu
  | 5, _ => exact cellAt h 5 hu
  | 6, _ => exact cellAt h 6 hu
  | 7, _ => exact cellAt h 7 hu
theorem cellsF_one {w : World} (L : List Rwf) (h : ∀ x ∈ L, OkF w x) : ∀ u ∈ cellsF L, u.oneCell' = true := by
  induction L with
  | nil => intro u hu; cases hu
  | cons x r ih =>
    intro u hu
    rw [cellsF] at hu
    rcases List.mem_append.1 hu with hu | hu
    · obtain ⟨_, h1, h2, k, h3⟩ := h x (List.mem_cons_self ..)
      obtain ⟨_, ⟨_, _, e1, _⟩, ⟨_, _, e2, _⟩⟩ := h3.form
      obtain ⟨_, _, e3, _⟩ := h1.form
      obtain ⟨_, _, e4, _⟩ := h2.form
      simp only [cells1F, e1, e2, e3, e4, List.mem_cons, List.not_mem_nil, or_false] at hu
      rcases hu with rfl | rfl | rfl | rfl | rfl | rfl | rfl | rfl <;> rfl
    · exact ih (fun y hy => h y (List.mem_cons_of_mem _ hy)) u hu
theorem Tryd.iCoreFun : (Tryd.prog.info? 47).map (fun i => (i.zero, i.size, i.bytes)) = some (some (.agg #[.string ⟨#[]⟩, .slice none 0 0, .slice none 0 0, .int .i64 0, .int .i64 0, .int .i64 0, .slice none 0 0, .slice none 0 0]), 8, 136) := by kernel_rfl
def FE (n2 n7 : Nat) (s up un ux : Value) (nm : ByteArray) (ps : List Arg) (ns : List Int) (x : Nd) (B k : Nat) (W : World) : Nat → Value → Prop
  | 0, v => v = .pointer (some ⟨n2, 1, none⟩)
  | 1, v => v = s
  | 2, v => v = .pointer (some ⟨n7, 0, none⟩)
  | 3, v => v = .string nm
  | 4, v => v = .pointer (some ⟨n7, 1, none⟩)
  | 5, v => v = up
  | 6, v => RArgs (mask B none W) v ps
  | 7, v => v = .pointer (some ⟨n7, 2, none⟩)
  | 8, v => v = un
  | 9, v => RInts (mask B none W) v ns
  | 10, v => v = .pointer (some ⟨n7, 3, none⟩)
  | 11, v => v = ux
  | 12, v => ∃ ya yc, v = nV x ya yc ∧ RNd (mask B none W) k x ya yc
  | 13, v => ∃ vn vb ya yc, v = .agg #[.string nm, vn, vb, .int .i64 x.op, .int .i64 x.n, .int .i64 x.ty, ya, yc] ∧ RArgs (mask B none W) vn ps ∧ RInts (mask B none W) vb ns ∧ RNd (mask B none W) k x ya yc
  | 14, v => ∃ vn vb ya yc g, v = .slice (some ⟨g, 0, none⟩) 1 1 ∧ W.heap[g]? = some (.cells #[.string nm, vn, vb, .int .i64 x.op, .int .i64 x.n, .int .i64 x.ty, ya, yc] 47 (0, 0)) ∧ RArgs (mask B none W) vn ps ∧ RInts (mask B none W) vb ns ∧ RNd (mask B none W) k x ya yc
  | _, _ => True
theorem FE.ext {n2 n7 : Nat} {s up un ux : Value} {nm : ByteArray} {ps : List Arg} {ns : List Int} {x : Nd} {B k : Nat} (W W' : World) (j : Nat) (v : Value) (h : FE n2 n7 s up un ux nm ps ns x B k W j v) (hb : Ext W W') : FE n2 n7 s up un ux nm ps ns x B k W' j v := by
  match j, h with
  | 0, h => exact h
  | 1, h => exact h
  | 2, h => exact h
  | 3, h => exact h
  | 4, h => exact h
  | 5, h => exact h
  | 6, h => exact RArgs.sub h (mask_ext hb)
  | 7, h => exact h
  | 8, h => exact h
  | 9, h => exact RInts.sub h (mask_ext hb)
  | 10, h => exact h
  | 11, h => exact h
  | 12, ⟨ya, yc, h1, h2⟩ => exact ⟨ya, yc, h1, RNd.sub (mask_ext hb) h2⟩
  | 13, ⟨vn, vb, ya, yc, h1, h2, h3, h4⟩ => exact ⟨vn, vb, ya, yc, h1, h2.sub (mask_ext hb), h3.sub (mask_ext hb), RNd.sub (mask_ext hb) h4⟩
  | 14, ⟨vn, vb, ya, yc, g, h0, h1, h2, h3, h4⟩ => exact ⟨vn, vb, ya, yc, g, h0, (hb.block _ (heap_lt h1)).trans h1, h2.sub (mask_ext hb), h3.sub (mask_ext hb), RNd.sub (mask_ext hb) h4⟩
  | _ + 15, _ => exact trivial
/-- All the lists of a program are short. -/
structure ShX (C : Cg) : Prop where
  c : ShC C
  b : ∀ f ∈ C.funs, BC f.body
theorem ShC.modest {C : Cg} (h : ShC C) : Modest C.decls := ⟨h.dl, fun d hd => (h.xt d hd).1, fun d hd x hx => ((h.xt d hd).2 x hx).1⟩
theorem box2_set1 {w : World} {r T : Nat} {a b : Value} (h : w.heap[r]? = some (.cells #[a, b] T (0, 0))) (v : Value) : (w.setCell ⟨r, 1, none⟩ v).heap[r]? = some (.cells #[a, v] T (0, 0)) := by
  simp [World.setCell, Array.getElem?_modify, h]
theorem box2_set {w : World} {r T : Nat} {a b : Value} (h : w.heap[r]? = some (.cells #[a, b] T (0, 0))) (a' b' : Value) :
    ((w.setCell ⟨r, 0, none⟩ a').setCell ⟨r, 1, none⟩ b').heap[r]? = some (.cells #[a', b'] T (0, 0)) := by
  simp [World.setCell, Array.getElem?_modify, h]
theorem row_turnC {w w' : World} {B e size n g : Nat} {v : Value} {xs : List Value} {c : Array Value} (h : w.ownsRow B e size v n xs) (hg : w.heap[g]? = some (.cells c 25 (0, 0))) (ho : Only (fun j => j = g) w w') (he : e ≠ 25) : w'.ownsRow B e size v n xs :=
  row_at h fun q cur _ hc => ho.block q (heap_lt hc) (fun e2 => by
    subst e2
    rw [hc] at hg
    injection hg with hg
    injection hg with _ ht
    exact he ht)
theorem KD.turnC {w w' : World} {B g : Nat} {v : Value} {l : List Decl} {vxs : List Value} {c : Array Value} (h : KD w B v l vxs) (hg : w.heap[g]? = some (.cells c 25 (0, 0))) (ho : Only (fun j => j = g) w w') : KD w' B v l vxs :=
  ⟨h.len, row_turnC h.row hg ho (by decide), fun i vx d a b => by
    obtain ⟨vas, hx⟩ := h.xtors i vx d a b
    exact ⟨vas, hx.len, row_turnC hx.row hg ho (by decide), fun i va x a b => row_turnC (hx.args i va x a b) hg ho (by decide)⟩⟩
theorem RCFs.sub {w w' : World} {v : Value} {l : List CF} (h : RCFs w v l) (hb : Sub w w') : RCFs w' v l := by
  obtain ⟨A, c, rfl, h1, h2, h3⟩ := h
  refine ⟨A, c, rfl, h1, h2, fun i a hi => ?_⟩
  obtain ⟨b, o, vp, vv, xa, xb, k, rfl, hlt, h4, h5, h6, h7, h8, h9, h10, h11⟩ := h3 i a hi
  exact ⟨b, o, vp, vv, xa, xb, k, rfl, Nat.lt_of_lt_of_le hlt hb.size, hb.cell _ _ h4, hb.cell _ _ h5, hb.cell _ _ h6, h7.sub hb, h8, h9.sub hb, h10.sub hb, RNd.sub hb h11⟩
set_option maxHeartbeats 4000000 in
set_option maxRecDepth 100000 in
theorem copyCore_any (vd vf : Value) (C : Cg) (w : World) (hC : RCg w vd vf C) (hS : ShX C) :
    Calls Tryd.prog 7 #[cV vd vf] w fun e w' => (∃ xd xf vxs B, e = .returned (cV xd xf) ∧ KD w' B xd C.decls vxs ∧ RCFs (mask w.heap.size none w') xf C.funs) ∧ Ext w w' := by
  have HCD := Lib.hid (fun W (hW : Ext w W) => RCopyD_any vd C.decls W (hC.d.below hW) hS.c.modest)
  have HC := Lib.hid hC; have HS := Lib.hid hS
  obtain ⟨Ad, cd, rfl, -, -⟩ := hC.d.form
  obtain ⟨Af, cf, rfl, -, hmf⟩ := hC.f.form
  unfold maxLen at hmf
  have hfl := hS.c.fl
  clear hC hS
  have hmx : Tryd.prog.follows .mixedOrders = true := by kernel_rfl
  have HE2 := Lib.hid (Ext.al2 w (.cells #[.slice Ad C.decls.length cd, .slice Af C.funs.length cf] 25) (.cells #[.slice none 0 0, .slice none 0 0] 25))
  have HB1 := Lib.hid (Ext.lt (Ext.al (w.alloc (.cells #[.slice Ad C.decls.length cd, .slice Af C.funs.length cf] 25)) (.cells #[.slice none 0 0, .slice none 0 0] 25)) (heapNew w (.cells #[.slice Ad C.decls.length cd, .slice Af C.funs.length cf] 25)))
  have HBZ := Lib.hid (heapNew2 w (.cells #[.slice Ad C.decls.length cd, .slice Af C.funs.length cf] 25) (.cells #[.slice none 0 0, .slice none 0 0] 25))
  go_enter Tryd.func7, Tryd.ntmps7
  go_wp2_with fail
  generalize (w.alloc _).alloc _ = w2 at *
  refine (HCD.out _ HE2.out).mono ?_
  rintro e wD ⟨⟨vo, vxs, rfl, hkd⟩, hxD⟩
  have HKD := Lib.hid hkd
  have HEd := Lib.hid (HE2.out.tr hxD)
  have HD1 := Lib.hid (hxD.lt HB1.out)
  have HDZ := Lib.hid (hxD.lt HBZ.out)
  obtain ⟨Ao, co, rfl, -⟩ := row_form hkd.row
  have HO3 := Lib.hid (heapNew wD (.cells #[.slice Ao C.decls.length co, .slice none 0 0] 25))
  have HE3 := Lib.hid (Ext.al wD (.cells #[.slice Ao C.decls.length co, .slice none 0 0] 25))
  have HX1 := Lib.hid (HE3.out.lt HD1.out)
  have HXZ := Lib.hid (HE3.out.lt HDZ.out)
  clear hkd hxD
  have x1 := cellAt HX1.out 1
  go_wp2
  clear x1
  generalize wD.alloc _ = w1 at *
  have HN : Hid (wD.heap.size < w1.heap.size) := heap_lt HO3.out
  have hz2 := heap_lt HDZ.out
  have HE1 : Hid (Ext w w1) := HEd.out.tr HE3.out
  go_loopw [13] (fun i wr => ∃ (j : Nat) (s : Value) (L : List Rwf), j ≤ C.funs.length ∧ i = .int .i64 j ∧ wr.heap[wD.heap.size]? = some (.cells #[(.slice Ao C.decls.length co), s] 25 (0, 0)) ∧ CRow cellsF 47 8 OkF w1 wr wD.heap.size s L ∧ L.map (·.1) = C.funs.take j) (fun i _ => C.funs.length - (intOf i).toNat)
  case atStart => exact ⟨0, .slice none 0 0, [], Nat.zero_le _, rfl, HO3.out, CRow.nil rfl _ _ _ (Only.rf _ _), by simp⟩
  case round =>
    obtain ⟨j, s, L, hj, rfl, hb2, hcr, hlm⟩ := hrel
    have HC2 := Lib.hid hb2; have HCR := Lib.hid hcr; have HLM := Lib.hid hlm
    obtain ⟨As, cs, rfl, -⟩ := own_shape hcr.own
    have HLJ : Hid (L.length = j) := by
      show _ = _
      have := congrArg List.length hlm
      simp at this; omega
    have HEr : Hid (Ext wD wr) := HE3.out.trans (hcr.only.below HE3.out.size (fun k e => by omega))
    have HEw : Hid (Ext w wr) := HEd.out.tr HEr.out
    have HC1 := Lib.hid (HEr.out.lt HD1.out)
    have HCZ := Lib.hid (HEr.out.lt HDZ.out)
    clear hb2 hcr hlm
    by_cases hlt : j < C.funs.length
    · obtain ⟨b, o, vp, vv, xa, xb, k, rfl, hbl, y0, y1, y2, yc, y3, y4, y5, yt⟩ := HC.out.f.at_ hlt
      have y0 := HEw.out.keep y0
      have y1 := HEw.out.keep y1
      have y2 := HEw.out.keep y2
      obtain ⟨k0, k1, k2, k3, k4⟩ := yc.below HEw.out
      obtain ⟨-, ⟨Ax, cx, rfl, -, -⟩, ⟨Bx, dx, rfl, -, -⟩⟩ := yt.form
      obtain ⟨Ap, cp, rfl, -, -⟩ := y4.form
      obtain ⟨Av, cv, rfl, -, -⟩ := y5.form
      have HK := Lib.hid (yt.below HEw.out)
      have HPS := Lib.hid (y4.below HEw.out)
      have HNS := Lib.hid (y5.below HEw.out)
      have HNM := Lib.hid y3
      have HUX : Hid (BC (C.funs[j]).body) := HS.out.b _ (List.getElem_mem hlt)
      have HUP := Lib.hid (HS.out.c.fn _ (List.getElem_mem hlt))
      have HTK : Hid (C.funs.take (j + 1) = C.funs.take j ++ [C.funs[j]]) := List.take_succ_eq_append_getElem hlt
      generalize C.funs[j] = f at *
      clear yt yc y3 y4 y5 hbl
      have HE5 := Lib.hid (Ext.al wr (.cells #[.string f.nm, .slice Ap f.ps.length cp, .slice Av f.vars.length cv, .int .i64 f.body.op, .int .i64 f.body.n, .int .i64 f.body.ty, .slice Ax f.body.args.length cx, .slice Bx f.body.brs.length dx] 47))
      have HN5 := Lib.hid (heapNew wr (.cells #[.string f.nm, .slice Ap f.ps.length cp, .slice Av f.vars.length cv, .int .i64 f.body.op, .int .i64 f.body.n, .int .i64 f.body.ty, .slice Ax f.body.args.length cx, .slice Bx f.body.brs.length dx] 47))
      have hjl : (j : Int) < C.funs.length := by omega
      go_wp2
      clear k0 k1 k2 k3 k4 y0 y1 y2
      generalize World.alloc wr _ = w5 at *
      have HD2 := Lib.hid ((HE5.out.block _ (heap_lt HC2.out)).trans HC2.out)
      have HS5 : Hid (wr.heap.size < w5.heap.size) := heap_lt HN5.out
      refine wp_region_invC hmx (by kernel_rfl) (fun Ls a W => ∃ vv : Nat → Value, a = { tmps := #[cV (.slice Ad C.decls.length cd) (.slice (some ⟨b, o, none⟩) C.funs.length cf), .pointer (some ⟨w.heap.size, 0, none⟩), .pointer (some ⟨w.heap.size + 1, 0, none⟩), .pointer (some ⟨wD.heap.size, 0, none⟩), undef, .pointer (some ⟨wr.heap.size, 0, none⟩), .pointer (some ⟨w.heap.size, 0, none⟩), .slice Ad C.decls.length cd, (.slice Ao C.decls.length co), .agg #[(.slice Ao C.decls.length co), .slice none 0 0], .pointer (some ⟨w.heap.size, 1, none⟩), .slice (some ⟨b, o, none⟩) C.funs.length cf, .int .i64 C.funs.length, .int .i64 j, .bool true, .pointer (some ⟨b, o + j * 8, none⟩), .agg #[.string f.nm, .slice Ap f.ps.length cp, .slice Av f.vars.length cv, .int .i64 f.body.op, .int .i64 f.body.n, .int .i64 f.body.ty, .slice Ax f.body.args.length cx, .slice Bx f.body.brs.length dx], vv 0, vv 1, vv 2, vv 3, vv 4, vv 5, vv 6, vv 7, vv 8, vv 9, vv 10, vv 11, vv 12, vv 13, vv 14, vv 15, vv 16, u34, undef], defers := [] } ∧
        (PhA w5 (FE wD.heap.size wr.heap.size (.slice As L.length cs) (.slice Ap f.ps.length cp) (.slice Av f.vars.length cv) (nV f.body (.slice Ax f.body.args.length cx) (.slice Bx f.body.brs.length dx)) f.nm f.ps f.vars f.body w5.heap.size (cntN f.body)) 15 Ls W vv ∨
          PhB (fun W v => W.heap[wD.heap.size]? = some (.cells #[(.slice Ao C.decls.length co), .slice As L.length cs] 25 (0, 0)) ∧ ∃ L', CRow cellsF 47 8 OkF w1 W wD.heap.size v L' ∧ L'.map (·.1) = C.funs.take (j + 1)) 15 (.pointer (some ⟨wD.heap.size, 1, none⟩)) Ls W vv ∨
          ((∀ i, i < 18 → Ls i = true) ∧ ∃ s' L', W.heap[wD.heap.size]? = some (.cells #[(.slice Ao C.decls.length co), s'] 25 (0, 0)) ∧ CRow cellsF 47 8 OkF w1 W wD.heap.size s' L' ∧ L'.map (·.1) = C.funs.take (j + 1)))) ?_ ?_ ?_
      · refine ⟨fun i => if i = 0 then u17 else if i = 1 then u18 else if i = 2 then u19 else if i = 3 then u20 else if i = 4 then u21 else if i = 5 then u22 else if i = 6 then u23 else if i = 7 then u24 else if i = 8 then u25 else if i = 9 then u26 else if i = 10 then u27 else if i = 11 then u28 else if i = 12 then u29 else if i = 13 then u30 else if i = 14 then u31 else if i = 15 then u32 else u33, rfl, .inl (PhA.zero _ _ _ _)⟩
      · intro Ls a W i op ho hpre hl hc hI Kk HKk
        have hi : i < 18 := (Array.getElem?_eq_some_iff.1 ho).1
        obtain ⟨vv, rfl, hI | hI | hI⟩ := hI
        · have HPA := Lib.hid hI
          have HL5 := Lib.hid hI.not
          have hcs : i = 0 ∨ i = 1 ∨ i = 2 ∨ i = 3 ∨ i = 4 ∨ i = 5 ∨ i = 6 ∨ i = 7 ∨ i = 8 ∨ i = 9 ∨ i = 10 ∨ i = 11 ∨ i = 12 ∨ i = 13 ∨ i = 14 ∨ i = 15 ∨ i = 16 ∨ i = 17 := by omega
          rcases hcs with rfl | rfl | rfl | rfl | rfl | rfl | rfl | rfl | rfl | rfl | rfl | rfl | rfl | rfl | rfl | rfl | rfl | rfl
          all_goals
            obtain rfl := Option.some.inj ho
            clear ho hi hI
          · clear hpre
            go_simp
            exact HKk.out _ _ ⟨_, rfl, .inl (HPA.out.put FE.ext (by decide) (Ext.rf _) rfl)⟩
          · simp [Region.binds] at hpre
            have e0 : vv 0 = _ := HPA.out.facts 0 (by decide) (by simp [hpre])
            have c1 := HPA.out.ext.keep (cellAt HD2.out 1)
            go_simp
            exact HKk.out _ _ ⟨_, by simp [e0], .inl (HPA.out.put FE.ext (by decide) (Ext.rf _) rfl)⟩
          · clear hpre
            go_simp
            exact HKk.out _ _ ⟨_, rfl, .inl (HPA.out.put FE.ext (by decide) (Ext.rf _) rfl)⟩
          · simp [Region.binds] at hpre
            have e2 : vv 2 = _ := HPA.out.facts 2 (by decide) (by simp [hpre])
            have c0 := HPA.out.ext.keep (cellAt HN5.out 0)
            go_simp
            exact HKk.out _ _ ⟨_, by simp [e2], .inl (HPA.out.put FE.ext (by decide) (Ext.rf _) rfl)⟩
          · clear hpre
            go_simp
            exact HKk.out _ _ ⟨_, rfl, .inl (HPA.out.put FE.ext (by decide) (Ext.rf _) rfl)⟩
          · simp [Region.binds] at hpre
            have e4 : vv 4 = _ := HPA.out.facts 4 (by decide) (by simp [hpre])
            have c1 := HPA.out.ext.keep (cellAt HN5.out 1)
            go_simp
            exact HKk.out _ _ ⟨_, by simp [e4], .inl (HPA.out.put FE.ext (by decide) (Ext.rf _) rfl)⟩
          · simp [Region.binds] at hpre
            have e5 : vv 5 = _ := HPA.out.facts 5 (by decide) (by simp [hpre])
            have HH := Lib.hid (HPA.out.ext)
            have hns := HPS.out.below (HE5.out.tr HH.out)
            split
            · refine app_row (t := 45) (e := 100) (size := 2) (bytes := 16) Tryd.uu43 Tryd.info50 rfl (by decide) (.const (.slice none 0 0)) (.tmp 22) rfl w5.heap.size (.slice none 0 0) 0 [] rfl ⟨by simp, .inl ⟨rfl, rfl⟩⟩ Ap f.ps.length cp (argCells f.ps) e5 hns.src (argCells_one f.ps) (by have := HUP.out.1; unfold maxLen; omega) (by have := HUP.out.1; omega) HH.out.size (fun v' W' ho hg hat => ?_)
              have hX : Ext W W' := ⟨hg.os, hg.tape, hg.output, hg.size, fun k hk => hg.block k hk (by simp [Value.ownBlock])⟩
              have hrs : RArgs (mask w5.heap.size none W') v' f.ps := KArgs.reads (row_base (by have h1 := row_mask ho; rw [Nat.zero_add, List.nil_append] at h1; exact h1))
              exact HKk.out _ _ ⟨_, rfl, .inl (HPA.out.put FE.ext (by decide) hX hrs)⟩
            · rename_i hw
              exact absurd (by rfl) hw
          · clear hpre
            go_simp
            exact HKk.out _ _ ⟨_, rfl, .inl (HPA.out.put FE.ext (by decide) (Ext.rf _) rfl)⟩
          · simp [Region.binds] at hpre
            have e7 : vv 7 = _ := HPA.out.facts 7 (by decide) (by simp [hpre])
            have c2 := HPA.out.ext.keep (cellAt HN5.out 2)
            go_simp
            exact HKk.out _ _ ⟨_, by simp [e7], .inl (HPA.out.put FE.ext (by decide) (Ext.rf _) rfl)⟩
          · simp [Region.binds] at hpre
            have e8 : vv 8 = _ := HPA.out.facts 8 (by decide) (by simp [hpre])
            have HH := Lib.hid (HPA.out.ext)
            have hns := HNS.out.below (HE5.out.tr HH.out)
            split
            · refine app_row (t := 26) (e := 3) (size := 1) (bytes := 8) Tryd.underlying26 Tryd.iInt rfl (by decide) (.const (.slice none 0 0)) (.tmp 25) rfl w5.heap.size (.slice none 0 0) 0 [] rfl ⟨by simp, .inl ⟨rfl, rfl⟩⟩ Av f.vars.length cv (f.vars.map (Value.int .i64)) e8 hns.src (ints_one f.vars) (by have := HUP.out.2.1; unfold maxLen; omega) (by have := HUP.out.2.1; omega) HH.out.size (fun v' W' ho hg hat => ?_)
              have hX : Ext W W' := ⟨hg.os, hg.tape, hg.output, hg.size, fun k hk => hg.block k hk (by simp [Value.ownBlock])⟩
              have hrs : RInts (mask w5.heap.size none W') v' f.vars := own_ints hns.ok (by have h1 := row_mask ho; rw [Nat.zero_add, List.nil_append] at h1; exact h1)
              exact HKk.out _ _ ⟨_, rfl, .inl (HPA.out.put FE.ext (by decide) hX hrs)⟩
            · rename_i hw
              exact absurd (by rfl) hw
          · clear hpre
            go_simp
            exact HKk.out _ _ ⟨_, rfl, .inl (HPA.out.put FE.ext (by decide) (Ext.rf _) rfl)⟩
          · simp [Region.binds] at hpre
            have e10 : vv 10 = _ := HPA.out.facts 10 (by decide) (by simp [hpre])
            have c3 := HPA.out.ext.keep (cellAt HN5.out 3)
            have c4 := HPA.out.ext.keep (cellAt HN5.out 4)
            have c5 := HPA.out.ext.keep (cellAt HN5.out 5)
            have c6 := HPA.out.ext.keep (cellAt HN5.out 6)
            have c7 := HPA.out.ext.keep (cellAt HN5.out 7)
            go_simp
            exact HKk.out _ _ ⟨_, by simp [e10], .inl (HPA.out.put FE.ext (by decide) (Ext.rf _) rfl)⟩
          · simp [Region.binds] at hpre
            have e11 : vv 11 = _ := HPA.out.facts 11 (by decide) (by simp [hpre])
            go_simp
            (refine (RCopy_any _ f.body _ _ W (HK.out.cnt.below (HE5.out.tr HPA.out.ext)) HUX.out).mono ?_)
            rintro e W' ⟨⟨ya, yc, rfl, hr⟩, hb⟩
            exact HKk.out _ _ ⟨_, by simp [e11], .inl (HPA.out.put FE.ext (by decide) hb ⟨ya, yc, rfl, RNd.sub (mask_base HPA.out.ext.size) hr⟩)⟩
          · simp [Region.binds] at hpre
            have e3 : vv 3 = _ := HPA.out.facts 3 (by decide) (by simp [hpre])
            obtain ⟨ya, yc, e12, hr⟩ := HPA.out.facts 12 (by decide) (by simp [hpre])
            have h6 : RArgs _ _ _ := HPA.out.facts 6 (by decide) (by simp [hpre])
            have h9 : RInts _ _ _ := HPA.out.facts 9 (by decide) (by simp [hpre])
            obtain ⟨An', cn', e6, -, -⟩ := h6.form
            obtain ⟨Ac', cc', e9, -, -⟩ := h9.form
            obtain ⟨-, ⟨Ay, cy, rfl, -, -⟩, ⟨By, dy, rfl, -, -⟩⟩ := hr.form
            rw [e6] at h6
            rw [e9] at h9
            go_simp
            exact HKk.out _ _ ⟨_, by simp [e3, e6, e9, e12], .inl (HPA.out.put FE.ext (by decide) (Ext.rf _) ⟨_, _, _, _, rfl, h6, h9, hr⟩)⟩
          · simp [Region.binds] at hpre
            obtain ⟨vn', vb', ya, yc, e13, hr1, hr3, hr2⟩ := HPA.out.facts 13 (by decide) (by simp [hpre])
            obtain ⟨An', cn', rfl, -, -⟩ := hr1.form
            obtain ⟨Ac', cc', rfl, -, -⟩ := hr3.form
            obtain ⟨-, ⟨Ay, cy, rfl, -, -⟩, ⟨By, dy, rfl, -, -⟩⟩ := hr2.form
            go_simp
            exact HKk.out _ _ ⟨_, by simp [e13], .inl (HPA.out.put FE.ext (by decide) (Ext.al _ _) ⟨_, _, _, _, _, rfl, heapNew _ _, hr1.sub (mask_ext (Ext.al _ _)), hr3.sub (mask_ext (Ext.al _ _)), RNd.sub (mask_ext (Ext.al _ _)) hr2⟩)⟩
          · have h67 : Ls 16 = false ∧ Ls 17 = false := by
              constructor
              · cases h6 : Ls 16
                · rfl
                · have := hc 16 _ rfl h6 ⟨15, .phase⟩ (by simp) rfl
                  rw [HL5.out] at this; cases this
              · cases h7 : Ls 17
                · rfl
                · have := hc 17 _ rfl h7 ⟨15, .data⟩ (by simp) rfl
                  rw [HL5.out] at this; cases this
            simp [Region.binds] at hpre
            have e1 : vv 1 = _ := HPA.out.facts 1 (by decide) (by simp [hpre])
            obtain ⟨vn', vb', ya, yc, g, e14, hg9, hr1, hr3, hr2⟩ := HPA.out.facts 14 (by decide) (by simp [hpre])
            have hr : OkF (mask w5.heap.size none W) (f, vn', vb', ya, yc) := ⟨HNM.out, hr1, hr3, ⟨_, hr2⟩⟩
            have hcr := HCR.out.ext okF_sub (HE5.out.tr HPA.out.ext)
            have HH := Lib.hid (HPA.out.ext)
            split
            · refine app_row (t := 23) (e := 47) (size := 8) (bytes := 136) Tryd.underlying23 Tryd.iCoreFun (by decide) (by decide) (.tmp 18) (.tmp 31) rfl w1.heap.size (.slice As L.length cs) L.length (cellsF L) e1 hcr.own (some ⟨g, 0, none⟩) 1 1 (cellsF [(f, vn', vb', ya, yc)]) e14 (SrcN.oneF (x := (f, vn', vb', ya, yc)) hg9) (cellsF_one (w := mask w5.heap.size none W) [(f, vn', vb', ya, yc)] (fun y hy => by rw [List.mem_singleton.1 hy]; exact hr)) (by have := HLJ.out; unfold maxLen; omega) (by have := HLJ.out; omega) (Nat.le_trans hcr.only.size (Nat.le_refl _)) (fun v' W' ho hg hat => ?_)
              rw [← cellsF_append] at ho
              have hbl : ∀ q, (Value.slice As L.length cs).ownBlock = some q → q < wr.heap.size := HCR.out.lt
              refine HKk.out _ _ ⟨_, rfl, .inr (.inl (PhB.first h67.2 h67.1 ⟨?_, L ++ [(f, vn', vb', ya, yc)], hcr.app okF_sub (B := w5.heap.size) (Nat.le_trans HCR.out.only.size HE5.out.size) (fun q hq => by have := hbl q hq; have := HS5.out; omega) hr hg hat (by rw [List.length_append]; exact ho), ?_⟩))⟩
              · refine (hg.block _ (by have := HH.out.size; have := heap_lt HD2.out; omega) (fun e => ?_)).trans ((HH.out.block _ (heap_lt HD2.out)).trans HD2.out)
                have := (hcr.own.lt _ e.symm).1
                have := HN.out
                omega
              · rw [List.map_append, HLM.out, HTK.out]; rfl
            · rename_i hw
              exact absurd (by rfl) hw
          · exfalso
            have := hpre ⟨15, .phase⟩ (by simp) rfl
            rw [HL5.out] at this; cases this
          · exfalso
            have := hpre ⟨15, .data⟩ (by simp) rfl
            rw [HL5.out] at this; cases this
        · have HPB := Lib.hid hI
          have hall : ∀ i, i < 16 → Ls i = true := by
            have h15 := hI.app
            have h1 := hc 15 _ rfl h15 ⟨1, .data⟩ (by simp) rfl
            have h14 := hc 15 _ rfl h15 ⟨14, .data⟩ (by simp) rfl
            have h13 := hc 14 _ rfl h14 ⟨13, .data⟩ (by simp) rfl
            have h3 := hc 13 _ rfl h13 ⟨3, .data⟩ (by simp) rfl
            have h6 := hc 13 _ rfl h13 ⟨6, .data⟩ (by simp) rfl
            have h9 := hc 13 _ rfl h13 ⟨9, .data⟩ (by simp) rfl
            have h12 := hc 13 _ rfl h13 ⟨12, .data⟩ (by simp) rfl
            have h11 := hc 12 _ rfl h12 ⟨11, .data⟩ (by simp) rfl
            have h10 := hc 11 _ rfl h11 ⟨10, .data⟩ (by simp) rfl
            have h8 := hc 9 _ rfl h9 ⟨8, .data⟩ (by simp) rfl
            have h7 := hc 8 _ rfl h8 ⟨7, .data⟩ (by simp) rfl
            have h5 := hc 6 _ rfl h6 ⟨5, .data⟩ (by simp) rfl
            have h4 := hc 5 _ rfl h5 ⟨4, .data⟩ (by simp) rfl
            have h2 := hc 3 _ rfl h3 ⟨2, .data⟩ (by simp) rfl
            have h0 := hc 1 _ rfl h1 ⟨0, .data⟩ (by simp) rfl
            intro i hi
            rcases (show i = 0 ∨ i = 1 ∨ i = 2 ∨ i = 3 ∨ i = 4 ∨ i = 5 ∨ i = 6 ∨ i = 7 ∨ i = 8 ∨ i = 9 ∨ i = 10 ∨ i = 11 ∨ i = 12 ∨ i = 13 ∨ i = 14 ∨ i = 15 by omega) with rfl | rfl | rfl | rfl | rfl | rfl | rfl | rfl | rfl | rfl | rfl | rfl | rfl | rfl | rfl | rfl <;> assumption
          have hcs : i < 16 ∨ i = 16 ∨ i = 17 := by omega
          rcases hcs with hi6 | rfl | rfl
          · rw [hall i hi6] at hl; cases hl
          · obtain rfl := Option.some.inj ho
            clear ho hi hI hpre
            go_simp
            exact HKk.out _ _ ⟨_, rfl, .inr (.inl HPB.out.next)⟩
          · obtain rfl := Option.some.inj ho
            have h6 := hpre ⟨16, .data⟩ (by simp) rfl
            have e6 := hI.ptr h6
            obtain ⟨hbx, L', hcr, hlm⟩ := hI.done
            obtain ⟨A', c', e5, -⟩ := own_shape hcr.own
            have c5 := cellAt hbx 1
            have hfz := frozenAt hbx 1
            clear ho hi hI hpre
            go_simp
            refine HKk.out _ _ ⟨vv, by simp [e5, e6], .inr (.inr ⟨fun i hi => ?_, vv 15, L', ?_, ?_, hlm⟩)⟩
            · show (decide (i = 17) || Ls i) = true
              rcases (show i < 16 ∨ i = 16 ∨ i = 17 by omega) with h | rfl | rfl
              · rw [hall i h, Bool.or_true]
              · rw [h6, Bool.or_true]
              · rfl
            · rw [e5]; exact box2_set1 hbx _
            · exact hcr.set okF_sub (by have := HN.out; omega) _ _
        · exfalso
          rw [hI.1 i hi] at hl; cases hl
      · intro Ls a W hall hI
        obtain ⟨vv, rfl, hI | hI | ⟨-, s', L', hbx, hcr, hlm⟩⟩ := hI
        · have := hall 15 (by decide); rw [hI.not] at this; cases this
        · have := hall 17 (by decide); rw [hI.not] at this; cases this
        · go_wp2
          exact ⟨⟨j + 1, s', L', by omega, by go_num, hbx, hcr, hlm⟩, by simp [intOf]; omega⟩
    · have hje : j = C.funs.length := by omega
      have HFS : Hid (RCFs (mask w1.heap.size none wr) (.slice As L.length cs) C.funs) := by
        have h := own_RCFs (HCR.out.all okF_sub).1 (HCR.out.all okF_sub).2
        rw [HLM.out, hje, List.take_length] at h
        exact h
      have z0 := cellAt HC2.out 0
      have z1 := cellAt HC2.out 1
      have q0 := cellAt HCZ.out 0
      have q1 := cellAt HCZ.out 1
      have f0 := frozenAt HCZ.out 0
      have f1 := frozenAt HCZ.out 1
      go_wp2
      have HZZ := Lib.hid (box2_set HCZ.out (.slice Ao C.decls.length co) (.slice As L.length cs))
      have HOZ : Hid (Only (fun j => j = w.heap.size + 1) wr ((wr.setCell ⟨w.heap.size + 1, 0, none⟩ (.slice Ao C.decls.length co)).setCell ⟨w.heap.size + 1, 1, none⟩ (.slice As L.length cs))) := (Only.setCell (C := fun j => j = w.heap.size + 1) (p := ⟨w.heap.size + 1, 0, none⟩) rfl _ _).tr (Only.setCell (C := fun j => j = w.heap.size + 1) (p := ⟨w.heap.size + 1, 1, none⟩) rfl _ _)
      clear z0 z1 q0 q1 f0 f1
      generalize World.setCell (World.setCell wr _ _) _ _ = wz at *
      have q0 := cellAt HZZ.out 0
      have q1 := cellAt HZZ.out 1
      refine bodyPost_ret (v := cV (.slice Ao C.decls.length co) (.slice As L.length cs)) (by simp [results, Tryd.results7, go_sem, q0, q1]) rfl ⟨⟨_, _, vxs, _, rfl, (HKD.out.ext HEr.out).turnC HCZ.out HOZ.out, HFS.out.sub (Sub.masks HOZ.out.size fun i hi h1 _ => ⟨⟨by have := HE1.out.size; omega, by simp⟩, HOZ.out.block _ hi (by have := HN.out; omega)⟩)⟩, HEw.out.trans (HOZ.out.below HEw.out.size (fun i e => by omega))⟩
end Go.Proofs.YtkdhhcidpklgoaaDoor
