/- ref.go: CopyProg. -/
import Derived.Test.YtkdglplfcpindaaGreatDoorQ26
namespace Go.Proofs.YtkdglplfcpindaaGreatDoor
open Go.RowKit

/-! ### rows of parameters -/
def prmCells : List Prm → List Value
  | [] => []
  | a :: r => .string a.nm :: .int .i64 a.ty :: prmCells r
theorem prmCells_len : ∀ l, (prmCells l).length = l.length * 2
  | [] => rfl
  | a :: r => by have := prmCells_len r; simp [prmCells]; omega
theorem prmCells_at : ∀ (l : List Prm) (i : Nat) (a : Prm), l[i]? = some a → (prmCells l)[i * 2]? = some (.string a.nm) ∧ (prmCells l)[i * 2 + 1]? = some (.int .i64 a.ty)
  | b :: r, 0, a, h => by
    obtain rfl := Option.some.inj h
    exact ⟨rfl, rfl⟩
  | b :: r, i + 1, a, h => by
    have := prmCells_at r i a h
    rw [show (i + 1) * 2 = i * 2 + 1 + 1 by omega]
    exact this
theorem prmCells_get : ∀ (l : List Prm) (j : Nat) (u : Value), (prmCells l)[j]? = some u → ∃ i a, l[i]? = some a ∧ ((j = i * 2 ∧ u = .string a.nm) ∨ (j = i * 2 + 1 ∧ u = .int .i64 a.ty))
  | [], j, u, h => by simp [prmCells] at h
  | a :: r, 0, u, h => ⟨0, a, rfl, .inl ⟨rfl, (Option.some.inj h).symm⟩⟩
  | a :: r, 1, u, h => ⟨0, a, rfl, .inr ⟨rfl, (Option.some.inj h).symm⟩⟩
  | a :: r, j + 2, u, h => by
    obtain ⟨i, b, hi, hj⟩ := prmCells_get r j u h
    refine ⟨i + 1, b, hi, ?_⟩
    rcases hj with ⟨rfl, hu⟩ | ⟨rfl, hu⟩
    · exact .inl ⟨by omega, hu⟩
    · exact .inr ⟨by omega, hu⟩
theorem RPrms.src {w : World} {A : Option Addr} {c : Nat} {l : List Prm} (h : RPrms w (.slice A l.length c) l) : SrcN w A l.length 2 (prmCells l) := by
  obtain ⟨A', c', he, h1, h2, h3⟩ := h
  cases he
  cases A with
  | none =>
    cases l with
    | nil => exact .inl ⟨rfl, rfl, rfl⟩
    | cons a r =>
      obtain ⟨_, _, hA, _⟩ := h3 0 a rfl
      cases hA
  | some ad =>
    refine .inr ⟨ad, rfl, prmCells_len l, fun j u hu => ?_⟩
    obtain ⟨i, a, hi, hj⟩ := prmCells_get l j u hu
    obtain ⟨b, o, hA, _, c0, c1, _⟩ := h3 i a hi
    cases hA
    rcases hj with ⟨rfl, rfl⟩ | ⟨rfl, rfl⟩
    · rw [add_at]; exact c0
    · rw [add_at]; exact c1
theorem prmCells_one (l : List Prm) : ∀ u ∈ prmCells l, u.oneCell' = true := by
  intro u hu
  obtain ⟨j, hj⟩ := List.mem_iff_getElem?.1 hu
  obtain ⟨i, a, _, h⟩ := prmCells_get l j u hj
  rcases h with ⟨_, rfl⟩ | ⟨_, rfl⟩ <;> rfl
theorem own_prms {w : World} {B : Nat} {v : Value} {l : List Prm} (h : w.ownsRow B 69 2 v l.length (prmCells l)) (hs : ∀ a ∈ l, a.nm.size ≤ maxLen) : RPrms w v l := by
  obtain ⟨A, c, rfl, h1, h2, h3⟩ := row_form h
  refine ⟨A, c, rfl, h1, h2, fun i a hi => ?_⟩
  obtain ⟨e1, e2⟩ := prmCells_at l i a hi
  obtain ⟨g, rfl, hl, c1⟩ := h3 _ _ e1
  obtain ⟨g', hg', _, c2⟩ := h3 _ _ e2
  cases hg'
  exact ⟨g, 0, rfl, hl, by rw [Nat.zero_add]; exact c1, by rw [Nat.zero_add]; exact c2, hs a (List.mem_of_getElem? hi)⟩
theorem sizes_p {w : World} {v : Value} {l : List Prm} (h : RPrms w v l) : ∀ a ∈ l, a.nm.size ≤ maxLen := by
  intro a ha
  obtain ⟨i, hi⟩ := List.mem_iff_getElem?.1 ha
  obtain ⟨A, c, _, _, _, h3⟩ := h
  obtain ⟨_, _, _, _, _, _, hs⟩ := h3 i a hi
  exact hs
theorem Tryz.u60' : Tryz.prog.underlying 46 = some (.slice 69) := by kernel_rfl
theorem Tryz.u23' : Tryz.prog.underlying 23 = some (.slice 52) := by kernel_rfl
theorem Tryz.info64 : (Tryz.prog.info? 69).map (fun i => (i.zero, i.size, i.bytes)) = some (some (.agg #[.string ⟨#[]⟩, .int .i64 0]), 2, 24) := by kernel_rfl
theorem Tryz.info62 : (Tryz.prog.info? 52).map (fun i => (i.zero, i.size, i.bytes)) = some (some (.agg #[.string ⟨#[]⟩, .slice none 0 0, .int .i64 0, .int .i64 0, .int .i64 0, .string ⟨#[]⟩, .int .i64 0, .slice none 0 0, .slice none 0 0]), 9, 136) := by kernel_rfl

/-! ### rows of functions -/
abbrev Trf := Fn × Value × Value × Value
def cellsF1 (x : Trf) : List Value := [.string x.1.nm, x.2.1, .int .i64 x.1.res, .int .i64 x.1.body.op, .int .i64 x.1.body.n, .string x.1.body.nm, .int .i64 x.1.body.ty, x.2.2.1, x.2.2.2]
def cellsF : List Trf → List Value
  | [] => []
  | x :: r => cellsF1 x ++ cellsF r
theorem cellsF_append (m : List Trf) : ∀ l, cellsF (l ++ m) = cellsF l ++ cellsF m
  | [] => rfl
  | x :: r => by rw [List.cons_append, cellsF, cellsF, cellsF_append m r, List.append_assoc]
theorem cellsF_at : ∀ (l : List Trf) (i r : Nat) (x : Trf), l[i]? = some x → r < 9 → (cellsF l)[i * 9 + r]? = (cellsF1 x)[r]?
  | [], _, _, _, h, _ => by simp at h
  | y :: l, 0, r, x, h, hr => by
    simp at h; subst h
    rw [cellsF, List.getElem?_append_left (by simp [cellsF1]; omega)]; simp
  | y :: l, i + 1, r, x, h, hr => by
    simp at h
    rw [cellsF, List.getElem?_append_right (by simp [cellsF1]; omega), ← cellsF_at l i r x h hr]
    congr 1; simp [cellsF1]; omega
structure OkF (w : World) (x : Trf) : Prop where
  ps : RPrms w x.2.1 x.1.ps
  body : ∃ k, RT w k x.1.body x.2.2.1 x.2.2.2
  nm : x.1.nm.size ≤ maxLen
theorem okF_sub (w w' : World) (x : Trf) (h : OkF w x) (hb : Sub w w') : OkF w' x := ⟨h.ps.sub hb, h.body.elim fun k hk => ⟨k, RT.sub hb hk⟩, h.nm⟩
theorem own_RFns {w : World} {B : Nat} {v : Value} {L : List Trf} (h : w.ownsRow B 52 9 v L.length (cellsF L)) (hr : ∀ x ∈ L, OkF w x) : RFns w v (L.map (·.1)) := by
  rcases h.2 with ⟨rfl, h0⟩ | ⟨g, cap, cur, rfl, e2, e3, e4, e5, e6, e7⟩
  · have hL : L = [] := List.eq_nil_of_length_eq_zero h0
    subst hL
    exact ⟨none, 0, rfl, Nat.le_refl _, Nat.zero_le _, fun i x hx => by simp at hx⟩
  · refine ⟨_, cap, by rw [List.length_map], by rw [List.length_map]; exact e4, e5, fun i x hx => ?_⟩
    rw [List.getElem?_map] at hx
    obtain ⟨y, hy, rfl⟩ := Option.map_eq_some_iff.1 hx
    have hi : i < L.length := (List.getElem?_eq_some_iff.1 hy).1
    have hc : ∀ r u, r < 9 → (cellsF1 y)[r]? = some u → w.cell? ⟨g, i * 9 + r, none⟩ = some u := fun r u hr6 hu => by
      have h1 := cellsF_at L i r y hy hr6
      rw [World.ownsRow.cellAt h (i * 9 + r) (by omega), h1]; exact hu
    have hy2 := hr y (List.mem_of_getElem? hy)
    obtain ⟨k, hk⟩ := hy2.body
    refine ⟨g, 0, y.2.1, y.2.2.1, y.2.2.2, k, rfl, (Array.getElem?_eq_some_iff.1 e3).1, ?_, ?_, ?_, ?_, hy2.nm, hy2.ps, hk⟩
    · rw [Nat.zero_add]; exact hc 0 _ (by omega) rfl
    · rw [Nat.zero_add]; exact hc 1 _ (by omega) rfl
    · rw [Nat.zero_add]; exact hc 2 _ (by omega) rfl
    · rw [Nat.zero_add]
      exact ⟨hc 3 _ (by omega) rfl, hc 4 _ (by omega) rfl, hc 5 _ (by omega) rfl, hc 6 _ (by omega) rfl, hc 7 _ (by omega) rfl, hc 8 _ (by omega) rfl⟩
theorem RFns.sub {w w' : World} {v : Value} {l : List Fn} (h : RFns w v l) (hb : Sub w w') : RFns w' v l := by
  obtain ⟨A, c, rfl, h1, h2, h3⟩ := h
  refine ⟨A, c, rfl, h1, h2, fun i a hi => ?_⟩
  obtain ⟨b, o, vp, xa, xc, k, rfl, hlt, h4, h5, h6, h7, h8, h9, h10⟩ := h3 i a hi
  exact ⟨b, o, vp, xa, xc, k, rfl, Nat.lt_of_lt_of_le hlt hb.size, hb.cell _ _ h4, hb.cell _ _ h5, hb.cell _ _ h6, h7.sub hb, h8, h9.sub hb, RT.sub hb h10⟩
theorem SrcN.oneF {w : World} {b : Nat} {x : Trf} (h : w.heap[b]? = some (.cells #[.string x.1.nm, x.2.1, .int .i64 x.1.res, .int .i64 x.1.body.op, .int .i64 x.1.body.n, .string x.1.body.nm, .int .i64 x.1.body.ty, x.2.2.1, x.2.2.2] 52 (0, 0))) : SrcN w (some ⟨b, 0, none⟩) 1 9 (cellsF [x]) := by
  refine .inr ⟨_, rfl, by simp [cellsF, cellsF1], fun j u hu => ?_⟩
  have hj : j < 9 := by have := (List.getElem?_eq_some_iff.1 hu).1; simpa [cellsF, cellsF1] using this
  rw [add_at, Nat.zero_add]
  match j, hj with
  | 0, _ => exact cellAt h 0 hu
  | 1, _ => exact cellAt h 1 hu
  | 2, _ => exact cellAt h 2 hu
  | 3, _ => exact cellAt h 3 hu
  | 4, _ => exact cellAt h 4 hu
  | 5, _ => exact cellAt h 5 hu
  | 6, _ => exact cellAt h 6 hu
  | 7, _ => exact cellAt h 7 hu
  | 8, _ => exact cellAt h 8 hu
theorem cellsF_one {w : World} {x : Trf} (h : OkF w x) : ∀ u ∈ cellsF [x], u.oneCell' = true := by
  intro u hu
  obtain ⟨k, hk⟩ := h.body
  obtain ⟨_, ⟨_, _, e1, _⟩, ⟨_, _, e2, _⟩⟩ := hk.form
  obtain ⟨_, _, e3, _⟩ := h.ps.form
  simp only [cellsF, cellsF1, e1, e2, e3, List.append_nil, List.mem_cons, List.not_mem_nil, or_false] at hu
  rcases hu with rfl | rfl | rfl | rfl | rfl | rfl | rfl | rfl | rfl <;> rfl

/-! ### declarations behind a store elsewhere -/
theorem row_turn {w w' : World} {B e size n g : Nat} {v : Value} {xs : List Value} {c : Array Value} (h : w.ownsRow B e size v n xs) (hg : w.heap[g]? = some (.cells c 25 (0, 0))) (ho : Only (fun j => j = g) w w') (he : e ≠ 25) : w'.ownsRow B e size v n xs :=
  row_at h fun q cur _ hc => ho.block q (heap_lt hc) (fun e2 => by
    subst e2
    rw [hc] at hg
    injection hg with hg
    injection hg with _ ht
    exact he ht)
theorem KD.turn {w w' : World} {B g : Nat} {v : Value} {l : List Decl} {vxs : List Value} {c : Array Value} (h : KD w B v l vxs) (hg : w.heap[g]? = some (.cells c 25 (0, 0))) (ho : Only (fun j => j = g) w w') : KD w' B v l vxs :=
  ⟨h.len, row_turn h.row hg ho (by decide), fun i vx d a b => by
    obtain ⟨vas, hx⟩ := h.xtors i vx d a b
    exact ⟨vas, hx.len, row_turn hx.row hg ho (by decide), fun i va x a b => row_turn (hx.args i va x a b) hg ho (by decide)⟩⟩

/-! ### what the operations ahead of the append yield -/
def FF (n2 n5 : Nat) (s up ux : Value) (f : Fn) (B : Nat) (W : World) : Nat → Value → Prop
  | 0, v => v = .pointer (some ⟨n2, 1, none⟩)
  | 1, v => v = s
  | 2, v => v = .pointer (some ⟨n5, 0, none⟩)
  | 3, v => v = .string f.nm
  | 4, v => v = .pointer (some ⟨n5, 1, none⟩)
  | 5, v => v = up
  | 6, v => RPrms (mask B none W) v f.ps
  | 7, v => v = .pointer (some ⟨n5, 2, none⟩)
  | 8, v => v = .int .i64 f.res
  | 9, v => v = .pointer (some ⟨n5, 3, none⟩)
  | 10, v => v = ux
  | 11, v => ∃ k ya yc, v = tV f.body ya yc ∧ RT (mask B none W) k f.body ya yc
  | 12, v => ∃ vp ya yc, v = .agg #[.string f.nm, vp, .int .i64 f.res, .int .i64 f.body.op, .int .i64 f.body.n, .string f.body.nm, .int .i64 f.body.ty, ya, yc] ∧ OkF (mask B none W) (f, vp, ya, yc)
  | 13, v => ∃ vp ya yc g, v = .slice (some ⟨g, 0, none⟩) 1 1 ∧ W.heap[g]? = some (.cells #[.string f.nm, vp, .int .i64 f.res, .int .i64 f.body.op, .int .i64 f.body.n, .string f.body.nm, .int .i64 f.body.ty, ya, yc] 52 (0, 0)) ∧ OkF (mask B none W) (f, vp, ya, yc)
  | _, _ => True
theorem FF.ext {n2 n5 : Nat} {s up ux : Value} {f : Fn} {B : Nat} (W W' : World) (j : Nat) (v : Value) (h : FF n2 n5 s up ux f B W j v) (hb : Ext W W') : FF n2 n5 s up ux f B W' j v := by
  match j, h with
  | 0, h => exact h
  | 1, h => exact h
  | 2, h => exact h
  | 3, h => exact h
  | 4, h => exact h
  | 5, h => exact h
  | 6, h => exact RPrms.sub h (mask_ext hb)
  | 7, h => exact h
  | 8, h => exact h
  | 9, h => exact h
  | 10, h => exact h
  | 11, ⟨k, ya, yc, h1, h2⟩ => exact ⟨k, ya, yc, h1, RT.sub (mask_ext hb) h2⟩
  | 12, ⟨vp, ya, yc, h1, h2⟩ => exact ⟨vp, ya, yc, h1, okF_sub _ _ _ h2 (mask_ext hb)⟩
  | 13, ⟨vp, ya, yc, g, h1, h2, h3⟩ => exact ⟨vp, ya, yc, g, h1, (hb.block _ (heap_lt h2)).trans h2, okF_sub _ _ _ h3 (mask_ext hb)⟩
  | _ + 14, _ => exact trivial
theorem box2_at {w : World} {r T : Nat} {a b : Value} (h : w.heap[r]? = some (.cells #[a, b] T (0, 0))) (v : Value) : (w.setCell ⟨r, 1, none⟩ v).heap[r]? = some (.cells #[a, v] T (0, 0)) := by
  simp [World.setCell, Array.getElem?_modify, h]
theorem only2_set (w : World) (r : Nat) (a' b' : Value) : Only (fun j => j = r) w ((w.setCell ⟨r, 0, none⟩ a').setCell ⟨r, 1, none⟩ b') :=
  have h : ∀ (W : World) (i : Nat) (u : Value), Only (fun j => j = r) W (W.setCell ⟨r, i, none⟩ u) := fun W i u => Only.setCell (C := fun j => j = r) (p := ⟨r, i, none⟩) rfl W u
  (h _ _ _).tr (h _ _ _)
theorem box2_both {w : World} {r T : Nat} {a b : Value} (h : w.heap[r]? = some (.cells #[a, b] T (0, 0))) (a' b' : Value) : ((w.setCell ⟨r, 0, none⟩ a').setCell ⟨r, 1, none⟩ b').heap[r]? = some (.cells #[a', b'] T (0, 0)) := by
  simp [World.setCell, Array.getElem?_modify, h]

set_option maxHeartbeats 4000000 in
set_option maxRecDepth 100000 in
theorem CopyProg_any (P : Pg) (vd vf : Value) (w : World) (hd : RDecls w vd P.decls) (hf : RFns w vf P.funs) (hM : Modest P.decls) (hl : P.funs.length ≤ 50000000) (hF : ∀ f ∈ P.funs, f.ps.length ≤ 50000000 ∧ uT f.body ≤ 50000000) :
    Calls Tryz.prog 17 #[pV vd vf] w fun e w' => (∃ ud uf vxs B, e = .returned (pV ud uf) ∧ KD w' B ud P.decls vxs ∧ RFns (mask w.heap.size none w') uf P.funs) ∧ Ext w w' := by
  have HD := Lib.hid hd; have HF := Lib.hid hf; have HM := Lib.hid hM; have HFF := Lib.hid hF
  obtain ⟨Ad, cd, rfl, hcd, hmd⟩ := hd.form
  obtain ⟨Af, cf, rfl, hcf, hmf⟩ := hf.form
  clear hd hf hM hF
  unfold maxLen at hmd hmf
  have hmx : Tryz.prog.follows .mixedOrders = true := by kernel_rfl
  have HE := Lib.hid (Ext.al2 w (.cells #[.slice Ad P.decls.length cd, .slice Af P.funs.length cf] 25) (.cells #[.slice none 0 0, .slice none 0 0] 25))
  have hb1 := heapNew w (.cells #[.slice Ad P.decls.length cd, .slice Af P.funs.length cf] 25)
  have hbz := heapNew (w.alloc (.cells #[.slice Ad P.decls.length cd, .slice Af P.funs.length cf] 25)) (.cells #[.slice none 0 0, .slice none 0 0] 25)
  rw [World.size_alloc] at hbz
  have HB1 := Lib.hid (((Ext.al (w.alloc (.cells #[.slice Ad P.decls.length cd, .slice Af P.funs.length cf] 25)) (.cells #[.slice none 0 0, .slice none 0 0] 25)).block _ (heap_lt hb1)).trans hb1)
  have HBZ := Lib.hid hbz
  clear hb1 hbz
  have p0 := cellAt HB1.out 0
  have p1 := cellAt HB1.out 1
  go_enter Tryz.func17, Tryz.ntmps17
  go_wp2_with fail
  generalize World.alloc (World.alloc w _) _ = w1 at *
  (with_reducible refine (RCopyD_any _ P.decls _ (HD.out.below HE.out) HM.out).mono ?_)
  rintro e w2 ⟨⟨ud, vxs, rfl, hkd⟩, hb⟩
  have HX2 := Lib.hid hb
  have HKD := Lib.hid hkd
  obtain ⟨Aud, cud, rfl, -⟩ := row_form hkd.row
  have HC1 := Lib.hid ((hb.block _ (heap_lt HB1.out)).trans HB1.out)
  have HCZ := Lib.hid ((hb.block _ (heap_lt HBZ.out)).trans HBZ.out)
  clear hb hkd p0 p1
  have q0 := cellAt HC1.out 0
  have q1 := cellAt HC1.out 1
  have hE3 := Ext.al w2 (.cells #[.slice Aud P.decls.length cud, .slice none 0 0] 25)
  have HE3 := Lib.hid hE3
  have HN3 := Lib.hid (heapNew w2 (.cells #[.slice Aud P.decls.length cud, .slice none 0 0] 25))
  have HD1 := Lib.hid ((hE3.block _ (heap_lt HC1.out)).trans HC1.out)
  have HDZ := Lib.hid ((hE3.block _ (heap_lt HCZ.out)).trans HCZ.out)
  have HNZ : Hid (w.heap.size + 1 < w2.heap.size) := heap_lt HCZ.out
  have HKD3 := Lib.hid (HKD.out.ext hE3)
  clear hE3
  have p0 := cellAt HD1.out 0
  have p1 := cellAt HD1.out 1
  go_wp2
  clear q0 q1 p0 p1
  generalize hn2 : w2.heap.size = n2 at *
  generalize World.alloc w2 _ = w3 at *
  have HN2 : Hid (n2 < w3.heap.size) := heap_lt HN3.out
  go_loopw [13] (fun i wr => ∃ (j : Nat) (s : Value) (L : List Trf), j ≤ P.funs.length ∧ i = .int .i64 j ∧ wr.heap[n2]? = some (.cells #[.slice Aud P.decls.length cud, s] 25 (0, 0)) ∧ CRow cellsF 52 9 OkF w3 wr n2 s L ∧ L.map (·.1) = P.funs.take j) (fun i _ => P.funs.length - (intOf i).toNat)
  case atStart => exact ⟨0, .slice none 0 0, [], Nat.zero_le _, rfl, HN3.out, CRow.nil rfl _ _ _ (Only.rf _ _), by simp⟩
  case round =>
    obtain ⟨j, s, L, hj, rfl, hb2, hcr, hlm⟩ := hrel
    have HC2 := Lib.hid hb2; have HCR := Lib.hid hcr; have HLM := Lib.hid hlm
    obtain ⟨As, cs, rfl⟩ := own_shape hcr.own
    have HLJ : Hid (L.length = j) := by
      show _ = _
      have := congrArg List.length hlm
      simp at this; omega
    have HW2 : Hid (Ext w2 wr) := by
      have h1 := HE3.out.trans (hcr.only.below (B := w2.heap.size) HE3.out.size (fun k e => by rw [hn2]; omega))
      exact h1
    have HEr : Hid (Ext w wr) := (HE.out.tr HX2.out).tr HW2.out
    have HEZ : Hid (wr.heap[w.heap.size + 1]? = _) := (HW2.out.block _ (heap_lt HCZ.out)).trans HCZ.out
    clear hb2 hcr hlm
    by_cases hlt : j < P.funs.length
    · obtain ⟨b, o, vp, xa, xc, kf, rfl, hbl, y0, y1, y2, yc, y3, y4, y5⟩ := HF.out.at_ hlt
      have y0 := HEr.out.keep y0
      have y1 := HEr.out.keep y1
      have y2 := HEr.out.keep y2
      have yc := yc.below HEr.out
      have k0 := yc.c0
      have k1 := yc.c1
      have k2 := yc.c2
      have k3 := yc.c3
      have k4 := yc.c4
      have k5 := yc.c5
      obtain ⟨-, ⟨Ax, cx, rfl, -, -⟩, ⟨Bx, dx, rfl, -, -⟩⟩ := y5.form
      obtain ⟨Ap, cp, rfl, -, -⟩ := y4.form
      have HK := Lib.hid (y5.below HEr.out)
      have HPS := Lib.hid (y4.below HEr.out)
      have HNM := Lib.hid y3
      have HUX := Lib.hid (HFF.out _ (List.getElem_mem hlt))
      have HTK : Hid (P.funs.take (j + 1) = P.funs.take j ++ [P.funs[j]]) := List.take_succ_eq_append_getElem hlt
      generalize P.funs[j] = f at *
      clear y3 y4 y5 yc hbl
      have hE5 := Ext.al wr (.cells #[.string f.nm, .slice Ap f.ps.length cp, .int .i64 f.res, .int .i64 f.body.op, .int .i64 f.body.n, .string f.body.nm, .int .i64 f.body.ty, .slice Ax f.body.args.length cx, .slice Bx f.body.cls.length dx] 52)
      have hN5 := heapNew wr (.cells #[.string f.nm, .slice Ap f.ps.length cp, .int .i64 f.res, .int .i64 f.body.op, .int .i64 f.body.n, .string f.body.nm, .int .i64 f.body.ty, .slice Ax f.body.args.length cx, .slice Bx f.body.cls.length dx] 52)
      have HE5 := Lib.hid hE5; have HN5 := Lib.hid hN5
      clear hE5 hN5
      go_wp2
      clear k0 k1 k2 k3 k4 k5 y0 y1 y2
      generalize World.alloc wr _ = w5 at *
      have HG2 := Lib.hid ((HE5.out.block _ (heap_lt HC2.out)).trans HC2.out)
      have HS5 : Hid (wr.heap.size < w5.heap.size) := heap_lt HN5.out
      refine wp_region_invC hmx (by kernel_rfl) (fun Ls a W => ∃ vv : Nat → Value, a = { tmps := #[pV (.slice Ad P.decls.length cd) (.slice (some ⟨b, o, none⟩) P.funs.length cf), .pointer (some ⟨w.heap.size, 0, none⟩), .pointer (some ⟨w.heap.size + 1, 0, none⟩), .pointer (some ⟨n2, 0, none⟩), undef, .pointer (some ⟨wr.heap.size, 0, none⟩), .pointer (some ⟨w.heap.size, 0, none⟩), .slice Ad P.decls.length cd, .slice Aud P.decls.length cud,
          .agg #[.slice Aud P.decls.length cud, .slice none 0 0], .pointer (some ⟨w.heap.size, 1, none⟩), .slice (some ⟨b, o, none⟩) P.funs.length cf, .int .i64 P.funs.length, .int .i64 j, .bool true, .pointer (some ⟨b, o + j * 9, none⟩),
          .agg #[.string f.nm, .slice Ap f.ps.length cp, .int .i64 f.res, .int .i64 f.body.op, .int .i64 f.body.n, .string f.body.nm, .int .i64 f.body.ty, .slice Ax f.body.args.length cx, .slice Bx f.body.cls.length dx], vv 0, vv 1, vv 2, vv 3, vv 4, vv 5, vv 6, vv 7, vv 8, vv 9, vv 10, vv 11, vv 12, vv 13, vv 14, vv 15, u33, undef], defers := [] } ∧
        (PhA w5 (FF n2 wr.heap.size (.slice As L.length cs) (.slice Ap f.ps.length cp) (tV f.body (.slice Ax f.body.args.length cx) (.slice Bx f.body.cls.length dx)) f w5.heap.size) 14 Ls W vv ∨
          PhB (fun W v => W.heap[n2]? = some (.cells #[.slice Aud P.decls.length cud, .slice As L.length cs] 25 (0, 0)) ∧ ∃ L', CRow cellsF 52 9 OkF w3 W n2 v L' ∧ L'.map (·.1) = P.funs.take (j + 1)) 14 (.pointer (some ⟨n2, 1, none⟩)) Ls W vv ∨
          ((∀ i, i < 17 → Ls i = true) ∧ ∃ s' L', W.heap[n2]? = some (.cells #[.slice Aud P.decls.length cud, s'] 25 (0, 0)) ∧ CRow cellsF 52 9 OkF w3 W n2 s' L' ∧ L'.map (·.1) = P.funs.take (j + 1)))) ?_ ?_ ?_
      · refine ⟨fun i => if i = 0 then u17 else if i = 1 then u18 else if i = 2 then u19 else if i = 3 then u20 else if i = 4 then u21 else if i = 5 then u22 else if i = 6 then u23 else if i = 7 then u24 else if i = 8 then u25 else if i = 9 then u26 else if i = 10 then u27 else if i = 11 then u28 else if i = 12 then u29 else if i = 13 then u30 else if i = 14 then u31 else u32, rfl, .inl (PhA.zero _ _ _ _)⟩
      · intro Ls a W i op ho hpre hl hc hI Kk HKk
        have hi : i < 17 := (Array.getElem?_eq_some_iff.1 ho).1
        obtain ⟨vv, rfl, hI | hI | hI⟩ := hI
        · have HPA := Lib.hid hI
          have HL5 := Lib.hid hI.not
          have hcs : i = 0 ∨ i = 1 ∨ i = 2 ∨ i = 3 ∨ i = 4 ∨ i = 5 ∨ i = 6 ∨ i = 7 ∨ i = 8 ∨ i = 9 ∨ i = 10 ∨ i = 11 ∨ i = 12 ∨ i = 13 ∨ i = 14 ∨ i = 15 ∨ i = 16 := by omega
          rcases hcs with rfl | rfl | rfl | rfl | rfl | rfl | rfl | rfl | rfl | rfl | rfl | rfl | rfl | rfl | rfl | rfl | rfl
          all_goals
            obtain rfl := Option.some.inj ho
            clear ho hi hI
          · clear hpre
            go_simp
            exact HKk.out _ _ ⟨_, rfl, .inl (HPA.out.put FF.ext (by decide) (Ext.rf _) rfl)⟩
          · simp [Region.binds] at hpre
            have e0 : vv 0 = _ := HPA.out.facts 0 (by decide) (by simp [hpre])
            have c1 := HPA.out.ext.keep (cellAt HG2.out 1)
            go_simp
            exact HKk.out _ _ ⟨_, by simp [e0], .inl (HPA.out.put FF.ext (by decide) (Ext.rf _) rfl)⟩
          · clear hpre
            go_simp
            exact HKk.out _ _ ⟨_, rfl, .inl (HPA.out.put FF.ext (by decide) (Ext.rf _) rfl)⟩
          · simp [Region.binds] at hpre
            have e2 : vv 2 = _ := HPA.out.facts 2 (by decide) (by simp [hpre])
            have c0 := HPA.out.ext.keep (cellAt HN5.out 0)
            go_simp
            exact HKk.out _ _ ⟨_, by simp [e2], .inl (HPA.out.put FF.ext (by decide) (Ext.rf _) rfl)⟩
          · clear hpre
            go_simp
            exact HKk.out _ _ ⟨_, rfl, .inl (HPA.out.put FF.ext (by decide) (Ext.rf _) rfl)⟩
          · simp [Region.binds] at hpre
            have e4 : vv 4 = _ := HPA.out.facts 4 (by decide) (by simp [hpre])
            have c1 := HPA.out.ext.keep (cellAt HN5.out 1)
            go_simp
            exact HKk.out _ _ ⟨_, by simp [e4], .inl (HPA.out.put FF.ext (by decide) (Ext.rf _) rfl)⟩
          · simp [Region.binds] at hpre
            have e5 : vv 5 = _ := HPA.out.facts 5 (by decide) (by simp [hpre])
            have HH := Lib.hid (HPA.out.ext)
            have hps := HPS.out.below (HE5.out.tr HH.out)
            split
            · refine app_row (t := 46) (e := 69) (size := 2) (bytes := 24) Tryz.u60' Tryz.info64 rfl (by decide) (.const (.slice none 0 0)) (.tmp 22) rfl w5.heap.size (.slice none 0 0) 0 [] rfl ⟨by simp, .inl ⟨rfl, rfl⟩⟩ Ap f.ps.length cp (prmCells f.ps) e5 hps.src (prmCells_one _) (by have := HUX.out.1; unfold maxLen; omega) (by have := HUX.out.1; omega) HH.out.size (fun v' W' ho hg hat => ?_)
              have hX : Ext W W' := ⟨hg.os, hg.tape, hg.output, hg.size, fun k hk => hg.block k hk (by simp [Value.ownBlock])⟩
              have hrs : RPrms (mask w5.heap.size none W') v' f.ps := own_prms (by have h1 := row_mask ho; rw [Nat.zero_add, List.nil_append] at h1; exact h1) (sizes_p hps)
              exact HKk.out _ _ ⟨_, rfl, .inl (HPA.out.put FF.ext (by decide) hX hrs)⟩
            · rename_i hw
              exact absurd (by rfl) hw
          · clear hpre
            go_simp
            exact HKk.out _ _ ⟨_, rfl, .inl (HPA.out.put FF.ext (by decide) (Ext.rf _) rfl)⟩
          · simp [Region.binds] at hpre
            have e7 : vv 7 = _ := HPA.out.facts 7 (by decide) (by simp [hpre])
            have c2 := HPA.out.ext.keep (cellAt HN5.out 2)
            go_simp
            exact HKk.out _ _ ⟨_, by simp [e7], .inl (HPA.out.put FF.ext (by decide) (Ext.rf _) rfl)⟩
          · clear hpre
            go_simp
            exact HKk.out _ _ ⟨_, rfl, .inl (HPA.out.put FF.ext (by decide) (Ext.rf _) rfl)⟩
          · simp [Region.binds] at hpre
            have e9 : vv 9 = _ := HPA.out.facts 9 (by decide) (by simp [hpre])
            have c3 := HPA.out.ext.keep (cellAt HN5.out 3)
            have c4 := HPA.out.ext.keep (cellAt HN5.out 4)
            have c5 := HPA.out.ext.keep (cellAt HN5.out 5)
            have c6 := HPA.out.ext.keep (cellAt HN5.out 6)
            have c7 := HPA.out.ext.keep (cellAt HN5.out 7)
            have c8 := HPA.out.ext.keep (cellAt HN5.out 8)
            go_simp
            exact HKk.out _ _ ⟨_, by simp [e9], .inl (HPA.out.put FF.ext (by decide) (Ext.rf _) rfl)⟩
          · simp [Region.binds] at hpre
            have e10 : vv 10 = _ := HPA.out.facts 10 (by decide) (by simp [hpre])
            go_simp
            (refine (RCopy_any kf f.body _ _ W (HK.out.below (HE5.out.tr HPA.out.ext)) HUX.out.2).mono ?_)
            rintro e W' ⟨⟨ya, yc, rfl, hr⟩, hb⟩
            exact HKk.out _ _ ⟨_, by simp [e10], .inl (HPA.out.put FF.ext (by decide) hb ⟨kf, ya, yc, rfl, RT.sub (mask_base HPA.out.ext.size) hr⟩)⟩
          · simp [Region.binds] at hpre
            have e3 : vv 3 = _ := HPA.out.facts 3 (by decide) (by simp [hpre])
            have e8 : vv 8 = _ := HPA.out.facts 8 (by decide) (by simp [hpre])
            have h6 : RPrms _ _ _ := HPA.out.facts 6 (by decide) (by simp [hpre])
            obtain ⟨k', ya, yc, e11, hr⟩ := HPA.out.facts 11 (by decide) (by simp [hpre])
            obtain ⟨Ap', cp', e6, -, -⟩ := h6.form
            obtain ⟨-, ⟨Ay, cy, rfl, -, -⟩, ⟨By, dy, rfl, -, -⟩⟩ := hr.form
            rw [e6] at h6
            go_simp
            exact HKk.out _ _ ⟨_, by simp [e3, e6, e8, e11], .inl (HPA.out.put FF.ext (by decide) (Ext.rf _) ⟨_, _, _, rfl, h6, ⟨k', hr⟩, HNM.out⟩)⟩
          · simp [Region.binds] at hpre
            obtain ⟨vp', ya, yc, e12, hr⟩ := HPA.out.facts 12 (by decide) (by simp [hpre])
            have hr1 : RPrms _ vp' f.ps := hr.ps
            obtain ⟨k', hk'⟩ := hr.body
            have hr2 : RT _ k' f.body ya yc := hk'
            obtain ⟨Ap', cp', rfl, -, -⟩ := hr1.form
            obtain ⟨-, ⟨Ay, cy, rfl, -, -⟩, ⟨By, dy, rfl, -, -⟩⟩ := hr2.form
            go_simp
            exact HKk.out _ _ ⟨_, by simp [e12], .inl (HPA.out.put FF.ext (by decide) (Ext.al _ _) ⟨_, _, _, _, rfl, heapNew _ _, okF_sub _ _ _ hr (mask_ext (Ext.al _ _))⟩)⟩
          · have h67 : Ls 15 = false ∧ Ls 16 = false := by
              constructor
              · cases h6 : Ls 15
                · rfl
                · have := hc 15 _ rfl h6 ⟨14, .phase⟩ (by simp) rfl
                  rw [HL5.out] at this; cases this
              · cases h7 : Ls 16
                · rfl
                · have := hc 16 _ rfl h7 ⟨14, .data⟩ (by simp) rfl
                  rw [HL5.out] at this; cases this
            simp [Region.binds] at hpre
            have e1 : vv 1 = _ := HPA.out.facts 1 (by decide) (by simp [hpre])
            obtain ⟨vp', ya, yc, g, e13, hg13, hr⟩ := HPA.out.facts 13 (by decide) (by simp [hpre])
            have hcr := HCR.out.ext okF_sub (HE5.out.tr HPA.out.ext)
            have HH := Lib.hid (HPA.out.ext)
            split
            · refine app_row (t := 23) (e := 52) (size := 9) (bytes := 136) Tryz.u23' Tryz.info62 (by decide) (by decide) (.tmp 18) (.tmp 30) rfl w3.heap.size (.slice As L.length cs) L.length (cellsF L) e1 hcr.own (some ⟨g, 0, none⟩) 1 1 (cellsF [(f, vp', ya, yc)]) e13 (SrcN.oneF (x := (f, vp', ya, yc)) hg13) (cellsF_one hr) (by have := HLJ.out; unfold maxLen; omega) (by have := HLJ.out; omega) (Nat.le_trans hcr.only.size (Nat.le_refl _)) (fun v' W' ho hg hat => ?_)
              rw [← cellsF_append] at ho
              have hbl : ∀ q, (Value.slice As L.length cs).ownBlock = some q → q < wr.heap.size := HCR.out.lt
              refine HKk.out _ _ ⟨_, rfl, .inr (.inl (PhB.first h67.2 h67.1 ⟨?_, L ++ [(f, vp', ya, yc)], hcr.app okF_sub (B := w5.heap.size) (Nat.le_trans HCR.out.only.size HE5.out.size) (fun q hq => by have := hbl q hq; have := HS5.out; omega) hr hg hat (by rw [List.length_append]; exact ho), ?_⟩))⟩
              · refine (hg.block _ (by have := HH.out.size; have := heap_lt HG2.out; omega) (fun e => ?_)).trans ((HH.out.block _ (heap_lt HG2.out)).trans HG2.out)
                have := (hcr.own.lt _ e.symm).1
                have := HN2.out
                omega
              · rw [List.map_append, HLM.out, HTK.out]; rfl
            · rename_i hw
              exact absurd (by rfl) hw
          · exfalso
            have := hpre ⟨14, .phase⟩ (by simp) rfl
            rw [HL5.out] at this; cases this
          · exfalso
            have := hpre ⟨14, .data⟩ (by simp) rfl
            rw [HL5.out] at this; cases this
        · have HPB := Lib.hid hI
          have hall : ∀ i, i < 15 → Ls i = true := by
            have h14 := hI.app
            have h1 := hc 14 _ rfl h14 ⟨1, .data⟩ (by simp) rfl
            have h13 := hc 14 _ rfl h14 ⟨13, .data⟩ (by simp) rfl
            have h12 := hc 13 _ rfl h13 ⟨12, .data⟩ (by simp) rfl
            have h3 := hc 12 _ rfl h12 ⟨3, .data⟩ (by simp) rfl
            have h6 := hc 12 _ rfl h12 ⟨6, .data⟩ (by simp) rfl
            have h8 := hc 12 _ rfl h12 ⟨8, .data⟩ (by simp) rfl
            have h11 := hc 12 _ rfl h12 ⟨11, .data⟩ (by simp) rfl
            have h10 := hc 11 _ rfl h11 ⟨10, .data⟩ (by simp) rfl
            have h9 := hc 10 _ rfl h10 ⟨9, .data⟩ (by simp) rfl
            have h7 := hc 8 _ rfl h8 ⟨7, .data⟩ (by simp) rfl
            have h5 := hc 6 _ rfl h6 ⟨5, .data⟩ (by simp) rfl
            have h4 := hc 5 _ rfl h5 ⟨4, .data⟩ (by simp) rfl
            have h2 := hc 3 _ rfl h3 ⟨2, .data⟩ (by simp) rfl
            have h0 := hc 1 _ rfl h1 ⟨0, .data⟩ (by simp) rfl
            intro i hi
            rcases (show i = 0 ∨ i = 1 ∨ i = 2 ∨ i = 3 ∨ i = 4 ∨ i = 5 ∨ i = 6 ∨ i = 7 ∨ i = 8 ∨ i = 9 ∨ i = 10 ∨ i = 11 ∨ i = 12 ∨ i = 13 ∨ i = 14 by omega) with rfl | rfl | rfl | rfl | rfl | rfl | rfl | rfl | rfl | rfl | rfl | rfl | rfl | rfl | rfl <;> assumption
          have hcs : i < 15 ∨ i = 15 ∨ i = 16 := by omega
          rcases hcs with hi6 | rfl | rfl
          · rw [hall i hi6] at hl; cases hl
          · obtain rfl := Option.some.inj ho
            clear ho hi hI hpre
            go_simp
            exact HKk.out _ _ ⟨_, rfl, .inr (.inl HPB.out.next)⟩
          · obtain rfl := Option.some.inj ho
            have h6 := hpre ⟨15, .data⟩ (by simp) rfl
            have e6 := hI.ptr h6
            obtain ⟨hbx, L', hcr, hlm⟩ := hI.done
            obtain ⟨A', c', e5⟩ := own_shape hcr.own
            have c1 := cellAt hbx 1
            have hfz := frozenAt hbx 1
            clear ho hi hI hpre
            go_simp
            refine HKk.out _ _ ⟨vv, by simp [e5, e6], .inr (.inr ⟨fun i hi => ?_, vv 14, L', ?_, ?_, hlm⟩)⟩
            · show (decide (i = 16) || Ls i) = true
              rcases (show i < 15 ∨ i = 15 ∨ i = 16 by omega) with h | rfl | rfl
              · rw [hall i h, Bool.or_true]
              · rw [h6, Bool.or_true]
              · rfl
            · rw [e5]; exact box2_at hbx _
            · exact hcr.set okF_sub HN2.out _ _
        · exfalso
          rw [hI.1 i hi] at hl; cases hl
      · intro Ls a W hall hI
        obtain ⟨vv, rfl, hI | hI | ⟨-, s', L', hbx, hcr, hlm⟩⟩ := hI
        · have := hall 14 (by decide); rw [hI.not] at this; cases this
        · have := hall 16 (by decide); rw [hI.not] at this; cases this
        · go_wp2
          exact ⟨⟨j + 1, s', L', by omega, by go_num, hbx, hcr, hlm⟩, by simp [intOf]; omega⟩
    · have hje : j = P.funs.length := by omega
      have HFNS : Hid (RFns (mask w3.heap.size none wr) (.slice As L.length cs) P.funs) := by
        have h := own_RFns (HCR.out.all okF_sub).1 (HCR.out.all okF_sub).2
        rw [HLM.out, hje, List.take_length] at h
        exact h
      have HKDr := Lib.hid (HKD.out.ext HW2.out)
      have z0 := cellAt HC2.out 0
      have z1 := cellAt HC2.out 1
      have q0 := cellAt HEZ.out 0
      have q1 := cellAt HEZ.out 1
      have f0 := frozenAt HEZ.out 0
      have f1 := frozenAt HEZ.out 1
      go_wp2
      have HZZ := Lib.hid (box2_both HEZ.out (.slice Aud P.decls.length cud) (.slice As L.length cs))
      have HOZ := Lib.hid (only2_set wr (w.heap.size + 1) (.slice Aud P.decls.length cud) (.slice As L.length cs))
      clear z0 z1 q0 q1 f0 f1
      generalize World.setCell (World.setCell wr _ _) _ _ = wz at *
      have q0 := cellAt HZZ.out 0
      have q1 := cellAt HZZ.out 1
      unfold bodyPost
      simp [results, go_sem, q0, q1]
      refine ⟨⟨_, _, ⟨rfl, rfl⟩, ⟨vxs, _, HKDr.out.turn HEZ.out HOZ.out⟩, RFns.sub HFNS.out ⟨by rw [mask_size, mask_size]; exact HOZ.out.size, fun p v e => ?_⟩⟩, HEr.out.trans (HOZ.out.below HEr.out.size (fun i e => by omega))⟩
      obtain ⟨⟨h1, -⟩, h2⟩ := mask_cell e
      have hz := HNZ.out
      have hn := HN2.out
      exact (World.cell?_of_block ((mask_in ⟨by omega, by simp⟩).trans (HOZ.out.block _ (cell_lt h2) (by omega)))).trans h2
end Go.Proofs.YtkdglplfcpindaaGreatDoor

/- ref.go: SameStrings, of equal lists. -/
namespace Go.Proofs.YtkdglplfcpindaaGreatDoor
open Go.RowKit

set_option maxHeartbeats 1000000 in
set_option maxRecDepth 100000 in
theorem same_any (v1 v2 : Value) (l : List Str) (w : World) (h1 : RStrs w v1 l) (h2 : RStrs w v2 l) :
    Calls Tryz.prog 62 #[v1, v2] w fun e w' => e = .returned (.bool true) ∧ Ext w w' := by
  have H1 := Lib.hid h1; have H2 := Lib.hid h2
  obtain ⟨A1, c1, rfl, hc1, hm1⟩ := h1.form
  obtain ⟨A2, c2, rfl, hc2, hm2⟩ := h2.form
  clear h1 h2
  unfold maxLen at hm1 hm2
  go_enter Tryz.func62, Tryz.ntmps62
  go_wp2
  go_loopw [13] (fun i wr => ∃ k : Nat, k ≤ l.length ∧ i = .int .i64 k ∧ Ext w wr) (fun i _ => l.length - (intOf i).toNat)
  case atStart => exact ⟨0, Nat.zero_le _, rfl, Ext.rf _⟩
  case round =>
    obtain ⟨k, hk, rfl, hb⟩ := hrel
    have HB := Lib.hid hb
    clear hb
    by_cases hlt : k < l.length
    · obtain ⟨b, o, rfl, hbl, y0, hs⟩ := H1.out.at_ hlt
      obtain ⟨b', o', rfl, hbl', z0, hs'⟩ := H2.out.at_ hlt
      have y0 := HB.out.keep y0
      have z0 := HB.out.keep z0
      generalize l[k] = s at *
      have hmx : Tryz.prog.follows .mixedOrders = true := by kernel_rfl
      go_wp2
      refine wp_region_ext (w0 := wr) (by kernel_rfl) (by kernel_rfl) (Ext.rf _) ?_
      have y0 := fun p : ExtOf wr => ExtOf.cell y0 p
      have z0 := fun p : ExtOf wr => ExtOf.cell z0 p
      repeat (first | go_big_quiet_step (fail) | quiet_step (fail))
      refine wpQuiet_nil ?_
      rintro _ ⟨⟨w2, hx⟩, rfl⟩
      have HX := Lib.hid hx
      clear hx
      go_wp2
      go_roundw
      case rel => exact ⟨k + 1, by omega, by go_num, HB.out.tr HX.out⟩
      case measure => simp [intOf]; omega
    · go_wp2
      go_ret
      exact ⟨rfl, HB.out⟩
end Go.Proofs.YtkdglplfcpindaaGreatDoor
