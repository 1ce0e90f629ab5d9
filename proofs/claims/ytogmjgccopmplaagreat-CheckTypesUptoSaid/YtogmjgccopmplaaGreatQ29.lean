/- Copies of declarations: rows that the call owns. -/
import Derived.Test.YtogmjgccopmplaaGreatQ28
import Derived.Deep.RegionHeld
import Derived.Deep.Cut
import Derived.Deep.DeepCutAuto
namespace Go.Proofs.YtogmjgccopmplaaGreat
open Go.RowKit
def argCells : List Arg → List Value
  | [] => []
  | a :: r => .int .i64 a.ty :: .bool a.co :: argCells r
def xtCells : List Xtor → List Value → List Value
  | x :: r, va :: q => .string x.name :: va :: xtCells r q
  | _, _ => []
def dcCells : List Decl → List Value → List Value
  | d :: r, vx :: q => .string d.name :: .bool d.codata :: vx :: dcCells r q
  | _, _ => []
theorem argCells_len : ∀ l, (argCells l).length = l.length * 2
  | [] => rfl
  | a :: r => by have := argCells_len r; simp [argCells]; omega
theorem argCells_at : ∀ (l : List Arg) (i : Nat) (a : Arg), l[i]? = some a → (argCells l)[i * 2]? = some (.int .i64 a.ty) ∧ (argCells l)[i * 2 + 1]? = some (.bool a.co)
  | b :: r, 0, a, h => by
    obtain rfl := Option.some.inj h
    exact ⟨rfl, rfl⟩
  | b :: r, i + 1, a, h => by
    have := argCells_at r i a h
    rw [show (i + 1) * 2 = i * 2 + 1 + 1 by omega]
    exact this
theorem xtCells_at : ∀ (l : List Xtor) (vs : List Value), vs.length = l.length → ∀ (i : Nat) (x : Xtor) (v : Value), l[i]? = some x → vs[i]? = some v → (xtCells l vs)[i * 2]? = some (.string x.name) ∧ (xtCells l vs)[i * 2 + 1]? = some v
  | [], _, _, i, x, v, h, _ => by simp at h
  | y :: r, [], hl, i, x, v, _, h => by simp at h
  | y :: r, u :: q, hl, 0, x, v, h, h' => by
    obtain rfl := Option.some.inj h
    obtain rfl := Option.some.inj h'
    exact ⟨rfl, rfl⟩
  | y :: r, u :: q, hl, i + 1, x, v, h, h' => by
    have := xtCells_at r q (by simpa using hl) i x v h h'
    rw [show (i + 1) * 2 = i * 2 + 1 + 1 by omega]
    exact this
theorem dcCells_at : ∀ (l : List Decl) (vs : List Value), vs.length = l.length → ∀ (i : Nat) (d : Decl) (v : Value), l[i]? = some d → vs[i]? = some v → (dcCells l vs)[i * 3]? = some (.string d.name) ∧ (dcCells l vs)[i * 3 + 1]? = some (.bool d.codata) ∧ (dcCells l vs)[i * 3 + 2]? = some v
  | [], _, _, i, x, v, h, _ => by simp at h
  | y :: r, [], hl, i, x, v, _, h => by simp at h
  | y :: r, u :: q, hl, 0, x, v, h, h' => by
    obtain rfl := Option.some.inj h
    obtain rfl := Option.some.inj h'
    exact ⟨rfl, rfl, rfl⟩
  | y :: r, u :: q, hl, i + 1, x, v, h, h' => by
    have := dcCells_at r q (by simpa using hl) i x v h h'
    rw [show (i + 1) * 3 = i * 3 + 1 + 1 + 1 by omega]
    exact this
section
variable {w w' : World} {B e size n : Nat} {v : Value} {xs : List Value}
theorem row_at (h : w.ownsRow B e size v n xs) (hk : ∀ g cur, v.ownBlock = some g → w.heap[g]? = some (.cells cur e (0, 0)) → w'.heap[g]? = w.heap[g]?) : w'.ownsRow B e size v n xs := by
  obtain ⟨h1, h2⟩ := h
  refine ⟨h1, ?_⟩
  rcases h2 with h2 | ⟨g, cap, cur, rfl, e2, e3, e4⟩
  · exact .inl h2
  · exact .inr ⟨g, cap, cur, rfl, e2, (hk g cur rfl e3).trans e3, e4⟩
theorem row_ext (h : w.ownsRow B e size v n xs) (hb : Ext w w') : w'.ownsRow B e size v n xs := row_at h fun g _ _ hc => hb.block g (heap_lt hc)
theorem row_form (h : w.ownsRow B e size v n xs) : ∃ A c, v = .slice A n c ∧ n ≤ c ∧ c ≤ maxLen ∧ ∀ j u, xs[j]? = some u → ∃ g, A = some ⟨g, 0, none⟩ ∧ g < w.heap.size ∧ w.cell? ⟨g, j, none⟩ = some u := by
  have hc := @World.ownsRow.cells w B e size v n xs h
  rcases h.2 with ⟨rfl, rfl⟩ | ⟨g, cap, cur, rfl, _, hh, hn, hm, _⟩
  · refine ⟨none, 0, rfl, Nat.le_refl _, Nat.zero_le _, fun j u hu => ?_⟩
    have h1 := h.1
    have : xs = [] := List.eq_nil_of_length_eq_zero (by omega)
    subst this
    simp at hu
  · refine ⟨_, cap, rfl, hn, hm, fun j u hu => ⟨g, rfl, heap_lt hh, ?_⟩⟩
    have := hc rfl j u hu
    have e : (⟨g, 0, none⟩ : Addr).add j = ⟨g, j, none⟩ := by unfold Addr.add; split <;> simp_all
    rw [e] at this
    exact this
end
def KArgs (w : World) (v : Value) (l : List Arg) : Prop := w.ownsRow 0 69 2 v l.length (argCells l)
structure KX (w : World) (B : Nat) (v : Value) (l : List Xtor) (vas : List Value) : Prop where
  len : vas.length = l.length
  row : w.ownsRow B 67 2 v l.length (xtCells l vas)
  args : ∀ (i : Nat) va x, vas[i]? = some va → l[i]? = some x → KArgs w va x.args
def KXtors (w : World) (v : Value) (l : List Xtor) : Prop := ∃ vas, KX w 0 v l vas
structure KD (w : World) (B : Nat) (v : Value) (l : List Decl) (vxs : List Value) : Prop where
  len : vxs.length = l.length
  row : w.ownsRow B 72 3 v l.length (dcCells l vxs)
  xtors : ∀ (i : Nat) vx d, vxs[i]? = some vx → l[i]? = some d → KXtors w vx d.xtors
section
variable {w w' : World} {B : Nat} {v : Value}
theorem KX.ext {l : List Xtor} {vas : List Value} (h : KX w B v l vas) (hb : Ext w w') : KX w' B v l vas := ⟨h.len, row_ext h.row hb, fun i va x a b => row_ext (h.args i va x a b) hb⟩
theorem KXtors.ext {l : List Xtor} (h : KXtors w v l) (hb : Ext w w') : KXtors w' v l := h.elim fun vas h => ⟨vas, h.ext hb⟩
theorem KD.ext {l : List Decl} {vxs : List Value} (h : KD w B v l vxs) (hb : Ext w w') : KD w' B v l vxs := ⟨h.len, row_ext h.row hb, fun i vx d a b => (h.xtors i vx d a b).ext hb⟩
theorem KArgs.reads {l : List Arg} (h : KArgs w v l) : RArgs w v l := by
  obtain ⟨A, c, rfl, h1, h2, h3⟩ := row_form h
  refine ⟨A, c, rfl, h1, h2, fun i a hi => ?_⟩
  obtain ⟨e1, e2⟩ := argCells_at l i a hi
  obtain ⟨g, rfl, hl, c1⟩ := h3 _ _ e1
  obtain ⟨g', hg', _, c2⟩ := h3 _ _ e2
  cases hg'
  exact ⟨g, 0, rfl, hl, by rw [Nat.zero_add]; exact c1, by rw [Nat.zero_add]; exact c2⟩
theorem KXtors.reads {l : List Xtor} (h : KXtors w v l) (hs : ∀ x ∈ l, x.name.size ≤ maxLen) : RXtors w v l := by
  obtain ⟨vas, h⟩ := h
  obtain ⟨A, c, rfl, h1, h2, h3⟩ := row_form h.row
  refine ⟨A, c, rfl, h1, h2, fun i x hi => ?_⟩
  have hil : i < vas.length := by rw [h.len]; exact (List.getElem?_eq_some_iff.1 hi).1
  have hv := List.getElem?_eq_getElem hil
  obtain ⟨e1, e2⟩ := xtCells_at l vas h.len i x _ hi hv
  obtain ⟨g, rfl, hl, c1⟩ := h3 _ _ e1
  obtain ⟨g', hg', _, c2⟩ := h3 _ _ e2
  cases hg'
  exact ⟨g, 0, vas[i], rfl, hl, by rw [Nat.zero_add]; exact c1, by rw [Nat.zero_add]; exact c2, (h.args i _ x hv hi).reads, hs x (List.mem_of_getElem? hi)⟩
theorem KD.reads {l : List Decl} {vxs : List Value} (h : KD w B v l vxs) (hs : ∀ d ∈ l, d.name.size ≤ maxLen ∧ ∀ x ∈ d.xtors, x.name.size ≤ maxLen) : RDecls w v l := by
  obtain ⟨A, c, rfl, h1, h2, h3⟩ := row_form h.row
  refine ⟨A, c, rfl, h1, h2, fun i d hi => ?_⟩
  have hil : i < vxs.length := by rw [h.len]; exact (List.getElem?_eq_some_iff.1 hi).1
  have hv := List.getElem?_eq_getElem hil
  obtain ⟨e1, e2, e3⟩ := dcCells_at l vxs h.len i d _ hi hv
  obtain ⟨g, rfl, hl, c1⟩ := h3 _ _ e1
  obtain ⟨g', hg', _, c2⟩ := h3 _ _ e2
  cases hg'
  obtain ⟨g', hg', _, c3⟩ := h3 _ _ e3
  cases hg'
  have hd := hs d (List.mem_of_getElem? hi)
  exact ⟨g, 0, vxs[i], rfl, hl, by rw [Nat.zero_add]; exact c1, by rw [Nat.zero_add]; exact c2, by rw [Nat.zero_add]; exact c3, (h.xtors i _ d hv hi).reads hd.2, hd.1⟩
end
theorem argCells_get : ∀ (l : List Arg) (j : Nat) (u : Value), (argCells l)[j]? = some u → ∃ i a, l[i]? = some a ∧ ((j = i * 2 ∧ u = .int .i64 a.ty) ∨ (j = i * 2 + 1 ∧ u = .bool a.co))
  | [], j, u, h => by simp [argCells] at h
  | a :: r, 0, u, h => ⟨0, a, rfl, .inl ⟨rfl, (Option.some.inj h).symm⟩⟩
  | a :: r, 1, u, h => ⟨0, a, rfl, .inr ⟨rfl, (Option.some.inj h).symm⟩⟩
  | a :: r, j + 2, u, h => by
    obtain ⟨i, b, hi, hj⟩ := argCells_get r j u h
    refine ⟨i + 1, b, hi, ?_⟩
    rcases hj with ⟨rfl, hu⟩ | ⟨rfl, hu⟩
    · exact .inl ⟨by omega, hu⟩
    · exact .inr ⟨by omega, hu⟩
theorem RArgs.src {w : World} {A : Option Addr} {c : Nat} {l : List Arg} (h : RArgs w (.slice A l.length c) l) : SrcN w A l.length 2 (argCells l) := by
  obtain ⟨A', c', he, h1, h2, h3⟩ := h
  cases he
  cases A with
  | none =>
    cases l with
    | nil => exact .inl ⟨rfl, rfl, rfl⟩
    | cons a r =>
      obtain ⟨_, _, hA, _⟩ := h3 0 a rfl
      cases hA
  | some ad =>
    refine .inr ⟨ad, rfl, argCells_len l, fun j u hu => ?_⟩
    obtain ⟨i, a, hi, hj⟩ := argCells_get l j u hu
    obtain ⟨b, o, hA, _, c0, c1⟩ := h3 i a hi
    cases hA
    rcases hj with ⟨rfl, rfl⟩ | ⟨rfl, rfl⟩
    · rw [add_at]; exact c0
    · rw [add_at]; exact c1
end Go.Proofs.YtogmjgccopmplaaGreat

/- ref.go: Copy of declarations. -/
namespace Go.Proofs.YtogmjgccopmplaaGreat
open Go.RowKit
/-- Not larger than what may come in. -/
structure Modest (l : List Decl) : Prop where
  few : l.length ≤ 1048576
  xts : ∀ d ∈ l, d.xtors.length ≤ 1048576
  ars : ∀ d ∈ l, ∀ x ∈ d.xtors, x.args.length ≤ 1048576
end Go.Proofs.YtogmjgccopmplaaGreat

/- ref.go: CopyProg. -/
namespace Go.Proofs.YtogmjgccopmplaaGreat
open Go.RowKit
def prmCells : List Prm → List Value
  | [] => []
  | a :: r => .string a.nm :: .int .i64 a.ty :: prmCells r
theorem prmCells_len : ∀ l, (prmCells l).length = l.length * 2
  | [] => rfl
  | a :: r => by have := prmCells_len r; simp [prmCells]; omega
theorem prmCells_at : ∀ (l : List Prm) (i : Nat) (a : Prm), l[i]? = some a → (prmCells l)[i * 2]? = some (.string a.nm) ∧ (prmCells l)[i * 2 + 1]? = some (.int .i64 a.ty)
  | b :: r, 0, a, h => by
    obtain rfl := Option.some.inj h
    exact ⟨rfl, rfl⟩
  | b :: r, i + 1, a, h => by
    have := prmCells_at r i a h
    rw [show (i + 1) * 2 = i * 2 + 1 + 1 by omega]
    exact this
theorem prmCells_get : ∀ (l : List Prm) (j : Nat) (u : Value), (prmCells l)[j]? = some u → ∃ i a, l[i]? = some a ∧ ((j = i * 2 ∧ u = .string a.nm) ∨ (j = i * 2 + 1 ∧ u = .int .i64 a.ty))
  | [], j, u, h => by simp [prmCells] at h
  | a :: r, 0, u, h => ⟨0, a, rfl, .inl ⟨rfl, (Option.some.inj h).symm⟩⟩
  | a :: r, 1, u, h => ⟨0, a, rfl, .inr ⟨rfl, (Option.some.inj h).symm⟩⟩
  | a :: r, j + 2, u, h => by
    obtain ⟨i, b, hi, hj⟩ := prmCells_get r j u h
    refine ⟨i + 1, b, hi, ?_⟩
    rcases hj with ⟨rfl, hu⟩ | ⟨rfl, hu⟩
    · exact .inl ⟨by omega, hu⟩
    · exact .inr ⟨by omega, hu⟩
theorem RPrms.src {w : World} {A : Option Addr} {c : Nat} {l : List Prm} (h : RPrms w (.slice A l.length c) l) : SrcN w A l.length 2 (prmCells l) := by
  obtain ⟨A', c', he, h1, h2, h3⟩ := h
  cases he
  cases A with
  | none =>
    cases l with
    | nil => exact .inl ⟨rfl, rfl, rfl⟩
    | cons a r =>
      obtain ⟨_, _, hA, _⟩ := h3 0 a rfl
      cases hA
  | some ad =>
    refine .inr ⟨ad, rfl, prmCells_len l, fun j u hu => ?_⟩
    obtain ⟨i, a, hi, hj⟩ := prmCells_get l j u hu
    obtain ⟨b, o, hA, _, c0, c1, _⟩ := h3 i a hi
    cases hA
    rcases hj with ⟨rfl, rfl⟩ | ⟨rfl, rfl⟩
    · rw [add_at]; exact c0
    · rw [add_at]; exact c1
theorem prmCells_one (l : List Prm) : ∀ u ∈ prmCells l, u.oneCell' = true := by
  intro u hu
  obtain ⟨j, hj⟩ := List.mem_iff_getElem?.1 hu
  obtain ⟨i, a, _, h⟩ := prmCells_get l j u hj
  rcases h with ⟨_, rfl⟩ | ⟨_, rfl⟩ <;> rfl
theorem own_prms {w : World} {B : Nat} {v : Value} {l : List Prm} (h : w.ownsRow B 74 2 v l.length (prmCells l)) (hs : ∀ a ∈ l, a.nm.size ≤ maxLen) : RPrms w v l := by
  obtain ⟨A, c, rfl, h1, h2, h3⟩ := row_form h
  refine ⟨A, c, rfl, h1, h2, fun i a hi => ?_⟩
  obtain ⟨e1, e2⟩ := prmCells_at l i a hi
  obtain ⟨g, rfl, hl, c1⟩ := h3 _ _ e1
  obtain ⟨g', hg', _, c2⟩ := h3 _ _ e2
  cases hg'
  exact ⟨g, 0, rfl, hl, by rw [Nat.zero_add]; exact c1, by rw [Nat.zero_add]; exact c2, hs a (List.mem_of_getElem? hi)⟩
theorem sizes_p {w : World} {v : Value} {l : List Prm} (h : RPrms w v l) : ∀ a ∈ l, a.nm.size ≤ maxLen := by
  intro a ha
  obtain ⟨i, hi⟩ := List.mem_iff_getElem?.1 ha
  obtain ⟨A, c, _, _, _, h3⟩ := h
  obtain ⟨_, _, _, _, _, _, hs⟩ := h3 i a hi
  exact hs
theorem Tryz.u60' : Tryz.prog.underlying 37 = some (.slice 74) := by kernel_rfl
abbrev Trf := Fn × Value × Value × Value
def cellsF1 (x : Trf) : List Value := [.string x.1.nm, x.2.1, .int .i64 x.1.res, .int .i64 x.1.body.op, .int .i64 x.1.body.n, .string x.1.body.nm, .int .i64 x.1.body.ty, x.2.2.1, x.2.2.2]
def cellsF : List Trf → List Value
  | [] => []
  | x :: r => cellsF1 x ++ cellsF r
structure OkF (w : World) (x : Trf) : Prop where
  ps : RPrms w x.2.1 x.1.ps
  body : ∃ k, RT w k x.1.body x.2.2.1 x.2.2.2
  nm : x.1.nm.size ≤ maxLen
theorem okF_sub (w w' : World) (x : Trf) (h : OkF w x) (hb : Sub w w') : OkF w' x := ⟨h.ps.sub hb, h.body.elim fun k hk => ⟨k, RT.sub hb hk⟩, h.nm⟩
theorem RFns.sub {w w' : World} {v : Value} {l : List Fn} (h : RFns w v l) (hb : Sub w w') : RFns w' v l := by
  obtain ⟨A, c, rfl, h1, h2, h3⟩ := h
  refine ⟨A, c, rfl, h1, h2, fun i a hi => ?_⟩
  obtain ⟨b, o, vp, xa, xc, k, rfl, hlt, h4, h5, h6, h7, h8, h9, h10⟩ := h3 i a hi
  exact ⟨b, o, vp, xa, xc, k, rfl, Nat.lt_of_lt_of_le hlt hb.size, hb.cell _ _ h4, hb.cell _ _ h5, hb.cell _ _ h6, h7.sub hb, h8, h9.sub hb, RT.sub hb h10⟩
theorem row_turn {w w' : World} {B e size n g : Nat} {v : Value} {xs : List Value} {c : Array Value} (h : w.ownsRow B e size v n xs) (hg : w.heap[g]? = some (.cells c 25 (0, 0))) (ho : Only (fun j => j = g) w w') (he : e ≠ 25) : w'.ownsRow B e size v n xs :=
  row_at h fun q cur _ hc => ho.block q (heap_lt hc) (fun e2 => by
    subst e2
    rw [hc] at hg
    injection hg with hg
    injection hg with _ ht
    exact he ht)
theorem KD.turn {w w' : World} {B g : Nat} {v : Value} {l : List Decl} {vxs : List Value} {c : Array Value} (h : KD w B v l vxs) (hg : w.heap[g]? = some (.cells c 25 (0, 0))) (ho : Only (fun j => j = g) w w') : KD w' B v l vxs :=
  ⟨h.len, row_turn h.row hg ho (by decide), fun i vx d a b => by
    obtain ⟨vas, hx⟩ := h.xtors i vx d a b
    exact ⟨vas, hx.len, row_turn hx.row hg ho (by decide), fun i va x a b => row_turn (hx.args i va x a b) hg ho (by decide)⟩⟩
def FF (n2 n5 : Nat) (s up ux : Value) (f : Fn) (B : Nat) (W : World) : Nat → Value → Prop
  | 0, v => v = .pointer (some ⟨n2, 1, none⟩)
  | 1, v => v = s
  | 2, v => v = .pointer (some ⟨n5, 0, none⟩)
  | 3, v => v = .string f.nm
  | 4, v => v = .pointer (some ⟨n5, 1, none⟩)
  | 5, v => v = up
  | 6, v => RPrms (mask B none W) v f.ps
  | 7, v => v = .pointer (some ⟨n5, 2, none⟩)
  | 8, v => v = .int .i64 f.res
  | 9, v => v = .pointer (some ⟨n5, 3, none⟩)
  | 10, v => v = ux
  | 11, v => ∃ k ya yc, v = tV f.body ya yc ∧ RT (mask B none W) k f.body ya yc
  | 12, v => ∃ vp ya yc, v = .agg #[.string f.nm, vp, .int .i64 f.res, .int .i64 f.body.op, .int .i64 f.body.n, .string f.body.nm, .int .i64 f.body.ty, ya, yc] ∧ OkF (mask B none W) (f, vp, ya, yc)
  | 13, v => ∃ vp ya yc g, v = .slice (some ⟨g, 0, none⟩) 1 1 ∧ W.heap[g]? = some (.cells #[.string f.nm, vp, .int .i64 f.res, .int .i64 f.body.op, .int .i64 f.body.n, .string f.body.nm, .int .i64 f.body.ty, ya, yc] 64 (0, 0)) ∧ OkF (mask B none W) (f, vp, ya, yc)
  | _, _ => True
theorem FF.ext {n2 n5 : Nat} {s up ux : Value} {f : Fn} {B : Nat} (W W' : World) (j : Nat) (v : Value) (h : FF n2 n5 s up ux f B W j v) (hb : Ext W W') : FF n2 n5 s up ux f B W' j v := by
  match j, h with
  | 0, h => exact h
  | 1, h => exact h
  | 2, h => exact h
  | 3, h => exact h
  | 4, h => exact h
  | 5, h => exact h
  | 6, h => exact RPrms.sub h (mask_ext hb)
  | 7, h => exact h
  | 8, h => exact h
  | 9, h => exact h
  | 10, h => exact h
  | 11, ⟨k, ya, yc, h1, h2⟩ => exact ⟨k, ya, yc, h1, RT.sub (mask_ext hb) h2⟩
  | 12, ⟨vp, ya, yc, h1, h2⟩ => exact ⟨vp, ya, yc, h1, okF_sub _ _ _ h2 (mask_ext hb)⟩
  | 13, ⟨vp, ya, yc, g, h1, h2, h3⟩ => exact ⟨vp, ya, yc, g, h1, (hb.block _ (heap_lt h2)).trans h2, okF_sub _ _ _ h3 (mask_ext hb)⟩
  | _ + 14, _ => exact trivial
theorem only2_set (w : World) (r : Nat) (a' b' : Value) : Only (fun j => j = r) w ((w.setCell ⟨r, 0, none⟩ a').setCell ⟨r, 1, none⟩ b') :=
  have h : ∀ (W : World) (i : Nat) (u : Value), Only (fun j => j = r) W (W.setCell ⟨r, i, none⟩ u) := fun W i u => Only.setCell (C := fun j => j = r) (p := ⟨r, i, none⟩) rfl W u
  (h _ _ _).tr (h _ _ _)
theorem box2_both {w : World} {r T : Nat} {a b : Value} (h : w.heap[r]? = some (.cells #[a, b] T (0, 0))) (a' b' : Value) : ((w.setCell ⟨r, 0, none⟩ a').setCell ⟨r, 1, none⟩ b').heap[r]? = some (.cells #[a', b'] T (0, 0)) := by
  simp [World.setCell, Array.getElem?_modify, h]
end Go.Proofs.YtogmjgccopmplaaGreat

/- Lists in strictly increasing order with the same members are equal. -/
namespace Go.Proofs.YtogmjgccopmplaaGreat
open Go.RowKit
theorem sorted_same : ∀ (l m : List Str), SortedS l → SortedS m → (∀ k, k ∈ l ↔ k ∈ m) → l = m
  | [], [], _, _, _ => rfl
  | [], b :: m, _, _, h => absurd ((h b).2 (by simp)) (by simp)
  | a :: l, [], _, _, h => absurd ((h a).1 (by simp)) (by simp)
  | a :: l, b :: m, hl, hm, h => by
    have hl' := List.pairwise_cons.1 hl
    have hm' := List.pairwise_cons.1 hm
    have hab : a = b := by
      rcases List.mem_cons.1 ((h a).1 (by simp)) with e | h1
      · exact e
      · rcases List.mem_cons.1 ((h b).2 (by simp)) with e | h2
        · exact e.symm
        · exact absurd (hl'.1 b h2) (List.lt_asymm (hm'.1 a h1))
    subst hab
    refine congrArg _ (sorted_same l m hl'.2 hm'.2 (fun k => ⟨fun hk => ?_, fun hk => ?_⟩))
    · rcases List.mem_cons.1 ((h k).1 (List.mem_cons_of_mem _ hk)) with e | h1
      · subst e; exact absurd (hl'.1 _ hk) (List.lt_irrefl _)
      · exact h1
    · rcases List.mem_cons.1 ((h k).2 (List.mem_cons_of_mem _ hk)) with e | h1
      · subst e; exact absurd (hm'.1 _ hk) (List.lt_irrefl _)
      · exact h1
theorem OwnS.is {w : World} {B : Nat} {v : Value} {l m : List Str} {f : Str → Bool} (h : OwnS w B v l f) (hm : SortedS m) (hf : ∀ k, f k = true ↔ k ∈ m) : l = m :=
  sorted_same l m h.sorted hm fun k => (h.mem k).trans (hf k)
end Go.Proofs.YtogmjgccopmplaaGreat

/- law.go: the fixed examples of layer 4, as data and in memory. -/
namespace Go.Proofs.YtogmjgccopmplaaGreat
open Go.RowKit
def xS : Str := ⟨#[120]⟩
def mainS : Str := ⟨#[109, 97, 105, 110]⟩
def noS : Str := ⟨#[]⟩
def nilS : Str := ⟨#[78, 105, 108]⟩
def consS : Str := ⟨#[67, 111, 110, 115]⟩
def listS : Str := ⟨#[108, 105, 115, 116]⟩
def varT (s : Str) : Tm := .mk 0 0 s 0 [] []
def twoT : Tm := .mk 1 2 noS 0 [] []
def nullT : Tm := .mk 4 0 noS 1 [] []
def conT (a b : Tm) : Tm := .mk 4 1 noS 1 [a, b] []
def letT (a : Tm) : Tm := .mk 8 0 xS 1 [a, twoT] []
def nilX : Xtor := ⟨nilS, []⟩
def consX : Xtor := ⟨consS, [⟨0, false⟩, ⟨1, false⟩]⟩
def listD : Decl := ⟨listS, false, [nilX, consX]⟩
def funF (t : Tm) : Fn := ⟨mainS, [], 0, t⟩
def exP (b : Tm) : Pg := ⟨[listD], [funF (letT (conT twoT b))]⟩
def exV : List Prm := [⟨xS, 0⟩, ⟨xS, 1⟩]
set_option maxRecDepth 100000
theorem ex_prog : progB (exP nullT) = true := by kernel_rfl
theorem ex_prog2 : progB (exP twoT) = true := by kernel_rfl
theorem ex_check : checkR (exP nullT) = 0 := by kernel_rfl
theorem ex_check2 : checkR (exP twoT) = 40 := by kernel_rfl
theorem ex_fault : faultF (exP twoT) 0 (exP twoT).funs = some (0, [0]) := by kernel_rfl
theorem ex_term : (termP (exP nullT) (hasS (exV.map Prm.nm)) (hasS (([] : List Prm).map Prm.nm)) (varT xS)).1 = true := by kernel_rfl
theorem ex_have : haveL (exP nullT) exV = true := by kernel_rfl
theorem ex_have0 : haveL (exP nullT) [] = true := by kernel_rfl
theorem ex_ty : tyT (exP nullT) (givenL exV [xS]) (givenL [] []) (varT xS) = .inr 1 := by kernel_rfl
theorem ex_fv (k : Str) : fvT (varT xS) k = true ↔ k ∈ [xS] := by
  have h : fvT (varT xS) k = eqS k xS := by simp [varT, fvT, fvA, fvC, eqS]
  rw [h, List.mem_singleton]; exact eqS_iff
theorem ex_fl (k : Str) : flT (varT xS) k = true ↔ k ∈ ([] : List Str) := by
  simp [varT, flT, flA, flC]
theorem RT.leaf (w : World) (k : Nat) (op n : Int) (nm : Str) (ty : Int) (h1 : nm.size ≤ maxLen) (h2 : ok64 n) (h3 : ok64 ty) : RT w (k + 1) (.mk op n nm ty [] []) (.slice none 0 0) (.slice none 0 0) :=
  ⟨⟨h1, h2, h3⟩, ⟨none, 0, rfl, Nat.le_refl _, Nat.zero_le _, fun i x h => by cases h⟩, ⟨none, 0, rfl, Nat.le_refl _, Nat.zero_le _, fun i x h => by cases h⟩⟩
theorem RT.two {w : World} {g k : Nat} {op n : Int} {nm : Str} {ty : Int} {a b : Tm} {xa xc ya yc : Value} (h1 : nm.size ≤ maxLen) (h2 : ok64 n) (h3 : ok64 ty)
    (hg : w.heap[g]? = some (.cells #[.int .i64 a.op, .int .i64 a.n, .string a.nm, .int .i64 a.ty, xa, xc, .int .i64 b.op, .int .i64 b.n, .string b.nm, .int .i64 b.ty, ya, yc] 41 (0, 0))) (ha : RT w k a xa xc) (hb : RT w k b ya yc) :
    RT w (k + 1) (.mk op n nm ty [a, b] []) (.slice (some ⟨g, 0, none⟩) 2 2) (.slice none 0 0) :=
  ⟨⟨h1, h2, h3⟩, ⟨some ⟨g, 0, none⟩, 2, rfl, Nat.le_refl _, by decide, fun i x hi => by
    match i, hi with
    | 0, hi => obtain rfl := Option.some.inj hi; exact ⟨g, 0, xa, xc, rfl, heap_lt hg, ⟨cellAt hg 0, cellAt hg 1, cellAt hg 2, cellAt hg 3, cellAt hg 4, cellAt hg 5⟩, ha⟩
    | 1, hi => obtain rfl := Option.some.inj hi; exact ⟨g, 0, ya, yc, rfl, heap_lt hg, ⟨cellAt hg 6, cellAt hg 7, cellAt hg 8, cellAt hg 9, cellAt hg 10, cellAt hg 11⟩, hb⟩⟩,
    ⟨none, 0, rfl, Nat.le_refl _, Nat.zero_le _, fun i x h => by cases h⟩⟩
/-- The example program in memory. -/
structure ExM (W : World) (n m k : Nat) (b : Tm) : Prop where
  hn : n + 1 + 1 < m
  hm : m + 1 < k
  a : W.heap[n]? = some (.cells #[.int .i64 0, .bool false, .int .i64 1, .bool false] 69 (0, 0))
  x : W.heap[n + 1]? = some (.cells #[.string nilS, .slice none 0 0, .string consS, .slice (some ⟨n, 0, none⟩) 2 2] 67 (0, 0))
  d : W.heap[n + 1 + 1]? = some (.cells #[.string listS, .bool false, .slice (some ⟨n + 1, 0, none⟩) 2 2] 72 (0, 0))
  two : W.heap[m]? = some (.cells #[.int .i64 1, .int .i64 2, .string noS, .int .i64 0, .slice none 0 0, .slice none 0 0] 41 (0, 0))
  inn : W.heap[k]? = some (.cells #[.int .i64 1, .int .i64 2, .string noS, .int .i64 0, .slice none 0 0, .slice none 0 0, .int .i64 b.op, .int .i64 b.n, .string b.nm, .int .i64 b.ty, .slice none 0 0, .slice none 0 0] 41 (0, 0))
  out : W.heap[k + 1]? = some (.cells #[.int .i64 4, .int .i64 1, .string noS, .int .i64 1, .slice (some ⟨k, 0, none⟩) 2 2, .slice none 0 0, .int .i64 1, .int .i64 2, .string noS, .int .i64 0, .slice none 0 0, .slice none 0 0] 41 (0, 0))
  fns : W.heap[k + 1 + 1]? = some (.cells #[.string mainS, .slice none 0 0, .int .i64 0, .int .i64 8, .int .i64 0, .string xS, .int .i64 1, .slice (some ⟨k + 1, 0, none⟩) 2 2, .slice none 0 0] 64 (0, 0))
  p : W.heap[k + 1 + 1 + 1]? = some (.cells #[.slice (some ⟨n + 1 + 1, 0, none⟩) 1 1, .slice (some ⟨k + 1 + 1, 0, none⟩) 1 1] 25 (0, 0))
theorem ExM.ext {W W' : World} {n m k : Nat} {b : Tm} (h : ExM W n m k b) (hb : Ext W W') : ExM W' n m k b :=
  ⟨h.hn, h.hm, (hb.block _ (heap_lt h.a)).trans h.a, (hb.block _ (heap_lt h.x)).trans h.x, (hb.block _ (heap_lt h.d)).trans h.d, (hb.block _ (heap_lt h.two)).trans h.two, (hb.block _ (heap_lt h.inn)).trans h.inn, (hb.block _ (heap_lt h.out)).trans h.out, (hb.block _ (heap_lt h.fns)).trans h.fns, (hb.block _ (heap_lt h.p)).trans h.p⟩
theorem ExM.turn {W W' : World} {n m k : Nat} {b b' : Tm} (h : ExM W n m k b) (ho : Only (fun q => q = k) W W')
    (hi : W'.heap[k]? = some (.cells #[.int .i64 1, .int .i64 2, .string noS, .int .i64 0, .slice none 0 0, .slice none 0 0, .int .i64 b'.op, .int .i64 b'.n, .string b'.nm, .int .i64 b'.ty, .slice none 0 0, .slice none 0 0] 41 (0, 0))) : ExM W' n m k b' := by
  have h1 := h.hn; have h2 := h.hm
  exact ⟨h1, h2, (ho.block _ (heap_lt h.a) (by omega)).trans h.a, (ho.block _ (heap_lt h.x) (by omega)).trans h.x, (ho.block _ (heap_lt h.d) (by omega)).trans h.d, (ho.block _ (heap_lt h.two) (by omega)).trans h.two, hi, (ho.block _ (heap_lt h.out) (by omega)).trans h.out, (ho.block _ (heap_lt h.fns) (by omega)).trans h.fns, (ho.block _ (heap_lt h.p) (by omega)).trans h.p⟩
theorem ExM.decls {W : World} {n m k : Nat} {b : Tm} (h : ExM W n m k b) : RDecls W (.slice (some ⟨n + 1 + 1, 0, none⟩) 1 1) (exP b).decls :=
  ⟨_, 1, rfl, Nat.le_refl _, by decide, fun i d hi => by
    match i, hi with
    | 0, hi =>
      obtain rfl := Option.some.inj hi
      exact ⟨_, 0, _, rfl, heap_lt h.d, cellAt h.d 0, cellAt h.d 1, cellAt h.d 2, ⟨_, 2, rfl, Nat.le_refl _, by decide, fun i x hi => by
        match i, hi with
        | 0, hi =>
          obtain rfl := Option.some.inj hi
          exact ⟨_, 0, _, rfl, heap_lt h.x, cellAt h.x 0, cellAt h.x 1, ⟨none, 0, rfl, Nat.le_refl _, Nat.zero_le _, fun i a hi => by cases hi⟩, by decide⟩
        | 1, hi =>
          obtain rfl := Option.some.inj hi
          exact ⟨_, 0, _, rfl, heap_lt h.x, cellAt h.x 2, cellAt h.x 3, ⟨_, 2, rfl, Nat.le_refl _, by decide, fun i a hi => by
            match i, hi with
            | 0, hi => obtain rfl := Option.some.inj hi; exact ⟨_, 0, rfl, heap_lt h.a, cellAt h.a 0, cellAt h.a 1⟩
            | 1, hi => obtain rfl := Option.some.inj hi; exact ⟨_, 0, rfl, heap_lt h.a, cellAt h.a 2, cellAt h.a 3⟩⟩, by decide⟩⟩, by decide⟩⟩
theorem main_le : mainS.size ≤ maxLen := by decide
theorem ExM.funs {W : World} {n m k : Nat} {b : Tm} (h : ExM W n m k b) (hb : RT W 1 b (.slice none 0 0) (.slice none 0 0)) : RFns W (.slice (some ⟨k + 1 + 1, 0, none⟩) 1 1) (exP b).funs :=
  ⟨_, 1, rfl, Nat.le_refl _, by decide, fun i f hi => by
    match i, hi with
    | 0, hi =>
      obtain rfl := Option.some.inj hi
      have ht : ∀ j, RT W (j + 1) twoT (.slice none 0 0) (.slice none 0 0) := fun j => RT.leaf _ _ _ _ _ _ (by decide) (by unfold ok64; decide) (by unfold ok64; decide)
      have hc : RT W 2 (conT twoT b) (.slice (some ⟨k, 0, none⟩) 2 2) (.slice none 0 0) := RT.two (by decide) (by unfold ok64; decide) (by unfold ok64; decide) h.inn (ht 0) hb
      exact ⟨_, 0, _, _, _, 3, rfl, heap_lt h.fns, cellAt h.fns 0, cellAt h.fns 1, cellAt h.fns 2, ⟨cellAt h.fns 3, cellAt h.fns 4, cellAt h.fns 5, cellAt h.fns 6, cellAt h.fns 7, cellAt h.fns 8⟩, main_le, ⟨none, 0, rfl, Nat.le_refl _, Nat.zero_le _, fun i a hi => by cases hi⟩,
        RT.two (by decide) (by unfold ok64; decide) (by unfold ok64; decide) h.out hc (ht 1)⟩⟩
theorem ex_fineT (b : Tm) (h : b = twoT ∨ b = nullT) : FineT (letT (conT twoT b)) := by
  rcases h with rfl | rfl
  · refine ⟨?_, by decide⟩
    have h : nodesL 1 (letT (conT twoT twoT)) = [(1, letT (conT twoT twoT)), (2, conT twoT twoT), (3, twoT), (3, twoT), (2, twoT)] := by rfl
    rw [h]
    intro y hy
    simp only [List.mem_cons, List.not_mem_nil, or_false] at hy
    rcases hy with rfl | rfl | rfl | rfl | rfl <;> decide
  · refine ⟨?_, by decide⟩
    have h : nodesL 1 (letT (conT twoT nullT)) = [(1, letT (conT twoT nullT)), (2, conT twoT nullT), (3, twoT), (3, nullT), (2, twoT)] := by rfl
    rw [h]
    intro y hy
    simp only [List.mem_cons, List.not_mem_nil, or_false] at hy
    rcases hy with rfl | rfl | rfl | rfl | rfl <;> decide
theorem ex_fine (b : Tm) (h : b = twoT ∨ b = nullT) : FinePg (exP b) := fun f hf => by
  obtain rfl : f = funF (letT (conT twoT b)) := by simpa [exP] using hf
  exact (ex_fineT b h).toF _
theorem ex_fineV : FineT (varT xS) := ⟨by
  have h : nodesL 1 (varT xS) = [(1, varT xS)] := by rfl
  rw [h]
  intro y hy
  simp only [List.mem_cons, List.not_mem_nil, or_false] at hy
  subst hy; decide, by decide⟩
theorem ex_typeR {e : Ending} (h : TypeR (exP nullT) exV [] (varT xS) e) : e = .returned (.tuple #[.int .i64 1, .int .i64 0]) := by
  unfold TypeR at h
  rw [if_neg (by rw [ex_prog]; simp), if_pos ⟨ex_term, ex_have, ex_have0⟩] at h
  obtain ⟨fv, fl, h1, h2, h3, h4, rfl⟩ := h
  have e1 : fv = [xS] := sorted_same _ _ h2 (by unfold SortedS; decide) (fun k => (h1 k).trans (ex_fv k))
  have e2 : fl = [] := sorted_same _ _ h4 (by unfold SortedS; decide) (fun k => (h3 k).trans (ex_fl k))
  subst e1 e2
  rw [ex_ty]
theorem box12_set {w : World} {r T : Nat} {a b c d e f g h i j k l : Value} (hh : w.heap[r]? = some (.cells #[a, b, c, d, e, f, g, h, i, j, k, l] T (0, 0))) (g' h' i' j' k' l' : Value) :
    ((((((w.setCell ⟨r, 6, none⟩ g').setCell ⟨r, 7, none⟩ h').setCell ⟨r, 8, none⟩ i').setCell ⟨r, 9, none⟩ j').setCell ⟨r, 10, none⟩ k').setCell ⟨r, 11, none⟩ l').heap[r]? = some (.cells #[a, b, c, d, e, f, g', h', i', j', k', l'] T (0, 0)) := by
  simp [World.setCell, Array.getElem?_modify, hh]
theorem only6 (w : World) (r : Nat) (g' h' i' j' k' l' : Value) : Only (fun q => q = r) w ((((((w.setCell ⟨r, 6, none⟩ g').setCell ⟨r, 7, none⟩ h').setCell ⟨r, 8, none⟩ i').setCell ⟨r, 9, none⟩ j').setCell ⟨r, 10, none⟩ k').setCell ⟨r, 11, none⟩ l') :=
  (((((Only.setCell (C := fun q => q = r) (p := ⟨r, 6, none⟩) rfl _ _).tr (Only.setCell (C := fun q => q = r) (p := ⟨r, 7, none⟩) rfl _ _)).tr (Only.setCell (C := fun q => q = r) (p := ⟨r, 8, none⟩) rfl _ _)).tr (Only.setCell (C := fun q => q = r) (p := ⟨r, 9, none⟩) rfl _ _)).tr (Only.setCell (C := fun q => q = r) (p := ⟨r, 10, none⟩) rfl _ _)).tr (Only.setCell (C := fun q => q = r) (p := ⟨r, 11, none⟩) rfl _ _)
end Go.Proofs.YtogmjgccopmplaaGreat

/- law.go: awake. -/
namespace Go.Proofs.YtogmjgccopmplaaGreat
open Go.RowKit
theorem bx_three (w : World) (a b c : Obj) : (((w.alloc a).alloc b).alloc c).heap[w.heap.size]? = some a ∧ (((w.alloc a).alloc b).alloc c).heap[w.heap.size + 1]? = some b ∧ (((w.alloc a).alloc b).alloc c).heap[w.heap.size + 1 + 1]? = some c ∧ (((w.alloc a).alloc b).alloc c).heap.size = w.heap.size + 1 + 1 + 1 := by
  have h1 := heapNew w a
  have h2 := heapNew (w.alloc a) b
  have h3 := heapNew ((w.alloc a).alloc b) c
  simp only [World.size_alloc] at h2 h3
  exact ⟨((Ext.al2 _ _ _).block _ (heap_lt h1)).trans h1, ((Ext.al _ _).block _ (by simp only [World.size_alloc]; omega)).trans h2, h3, by simp only [World.size_alloc]⟩
theorem bx_two (w : World) (a b : Obj) : ((w.alloc a).alloc b).heap[w.heap.size]? = some a ∧ ((w.alloc a).alloc b).heap[w.heap.size + 1]? = some b ∧ ((w.alloc a).alloc b).heap.size = w.heap.size + 1 + 1 := by
  have h1 := heapNew w a
  have h2 := heapNew (w.alloc a) b
  simp only [World.size_alloc] at h2
  exact ⟨((Ext.al _ _).block _ (heap_lt h1)).trans h1, h2, by simp only [World.size_alloc]⟩
theorem RPrms.nil (w : World) : RPrms w (.slice none 0 0) [] := ⟨none, 0, rfl, Nat.le_refl _, Nat.zero_le _, fun i a h => by cases h⟩
theorem exV_mem {w : World} {g : Nat} (h : w.heap[g]? = some (.cells #[.string ⟨#[120]⟩, .int .i64 0, .string ⟨#[120]⟩, .int .i64 1] 74 (0, 0))) : RPrms w (.slice (some ⟨g, 0, none⟩) 2 2) exV :=
  ⟨_, 2, rfl, Nat.le_refl _, by decide, fun i a hi => by
    match i, hi with
    | 0, hi => obtain rfl := Option.some.inj hi; exact ⟨_, 0, rfl, heap_lt h, cellAt h 0, cellAt h 1, by decide⟩
    | 1, hi => obtain rfl := Option.some.inj hi; exact ⟨_, 0, rfl, heap_lt h, cellAt h 2, cellAt h 3, by decide⟩⟩
set_option maxHeartbeats 8000000 in
set_option maxRecDepth 100000 in
theorem awake_any (w : World) : Calls Tryz.prog 8 #[] w fun e w' => e = .returned (.bool true) ∧ Ext w w' := by
  go_enter Tryz.func8, Tryz.ntmps8
  go_upto_region 2 with fail
  have HE1 := Lib.hid (Ext.al3 w (.cells #[.int .i64 0, .bool false, .int .i64 1, .bool false] 69) (.cells #[.string ⟨#[78, 105, 108]⟩, .slice none 0 0, .string ⟨#[67, 111, 110, 115]⟩, .slice (some ⟨w.heap.size, 0, none⟩) 2 2] 67) (.cells #[.string ⟨#[108, 105, 115, 116]⟩, .bool false, .slice (some ⟨w.heap.size + 1, 0, none⟩) 2 2] 72))
  obtain ⟨ha, hx, hd, hs1⟩ := bx_three w (.cells #[.int .i64 0, .bool false, .int .i64 1, .bool false] 69) (.cells #[.string ⟨#[78, 105, 108]⟩, .slice none 0 0, .string ⟨#[67, 111, 110, 115]⟩, .slice (some ⟨w.heap.size, 0, none⟩) 2 2] 67) (.cells #[.string ⟨#[108, 105, 115, 116]⟩, .bool false, .slice (some ⟨w.heap.size + 1, 0, none⟩) 2 2] 72)
  have HA := Lib.hid ha; have HX := Lib.hid hx; have HD := Lib.hid hd; have HS1 := Lib.hid hs1
  clear ha hx hd hs1
  generalize World.alloc (World.alloc (World.alloc w _) _) _ = w1 at *
  go_upto_region 4 with fail
  have HE2 := Lib.hid (Ext.al2 w1 (.cells #[.int .i64 1, .int .i64 2, .string ⟨#[]⟩, .int .i64 0, .slice none 0 0, .slice none 0 0] 41) (.cells #[.int .i64 4, .int .i64 0, .string ⟨#[]⟩, .int .i64 1, .slice none 0 0, .slice none 0 0] 41))
  obtain ⟨h2, h3, hs2⟩ := bx_two w1 (.cells #[.int .i64 1, .int .i64 2, .string ⟨#[]⟩, .int .i64 0, .slice none 0 0, .slice none 0 0] 41) (.cells #[.int .i64 4, .int .i64 0, .string ⟨#[]⟩, .int .i64 1, .slice none 0 0, .slice none 0 0] 41)
  have HT := Lib.hid h2; have HN := Lib.hid h3; have HS2 := Lib.hid hs2
  clear hs2
  generalize World.alloc (World.alloc w1 _) _ = w2 at *
  obtain ⟨c0, c1, c2, c3, c4, c5⟩ := cells6 h2
  obtain ⟨d0, d1, d2, d3, d4, d5⟩ := cells6 h3
  clear h2 h3
  have k0 := (Ext.al w2 (.cells #[.int .i64 1, .int .i64 2, .string ⟨#[]⟩, .int .i64 0, .slice none 0 0, .slice none 0 0, .int .i64 4, .int .i64 0, .string ⟨#[]⟩, .int .i64 1, .slice none 0 0, .slice none 0 0] 41)).keep c0
  have k1 := (Ext.al w2 (.cells #[.int .i64 1, .int .i64 2, .string ⟨#[]⟩, .int .i64 0, .slice none 0 0, .slice none 0 0, .int .i64 4, .int .i64 0, .string ⟨#[]⟩, .int .i64 1, .slice none 0 0, .slice none 0 0] 41)).keep c1
  have k2 := (Ext.al w2 (.cells #[.int .i64 1, .int .i64 2, .string ⟨#[]⟩, .int .i64 0, .slice none 0 0, .slice none 0 0, .int .i64 4, .int .i64 0, .string ⟨#[]⟩, .int .i64 1, .slice none 0 0, .slice none 0 0] 41)).keep c2
  have k3 := (Ext.al w2 (.cells #[.int .i64 1, .int .i64 2, .string ⟨#[]⟩, .int .i64 0, .slice none 0 0, .slice none 0 0, .int .i64 4, .int .i64 0, .string ⟨#[]⟩, .int .i64 1, .slice none 0 0, .slice none 0 0] 41)).keep c3
  have k4 := (Ext.al w2 (.cells #[.int .i64 1, .int .i64 2, .string ⟨#[]⟩, .int .i64 0, .slice none 0 0, .slice none 0 0, .int .i64 4, .int .i64 0, .string ⟨#[]⟩, .int .i64 1, .slice none 0 0, .slice none 0 0] 41)).keep c4
  have k5 := (Ext.al w2 (.cells #[.int .i64 1, .int .i64 2, .string ⟨#[]⟩, .int .i64 0, .slice none 0 0, .slice none 0 0, .int .i64 4, .int .i64 0, .string ⟨#[]⟩, .int .i64 1, .slice none 0 0, .slice none 0 0] 41)).keep c5
  go_upto_region 5 with fail
  clear c0 c1 c2 c3 c4 c5 d0 d1 d2 d3 d4 d5 k0 k1 k2 k3 k4 k5
  obtain ⟨g1, g2, g3, g4⟩ := box_four w2 (.cells #[.int .i64 1, .int .i64 2, .string ⟨#[]⟩, .int .i64 0, .slice none 0 0, .slice none 0 0, .int .i64 4, .int .i64 0, .string ⟨#[]⟩, .int .i64 1, .slice none 0 0, .slice none 0 0] 41) (.cells #[.int .i64 4, .int .i64 1, .string ⟨#[]⟩, .int .i64 1, .slice (some ⟨w2.heap.size, 0, none⟩) 2 2, .slice none 0 0, .int .i64 1, .int .i64 2, .string ⟨#[]⟩, .int .i64 0, .slice none 0 0, .slice none 0 0] 41) (.cells #[.string ⟨#[109, 97, 105, 110]⟩, .slice none 0 0, .int .i64 0, .int .i64 8, .int .i64 0, .string ⟨#[120]⟩, .int .i64 1, .slice (some ⟨w2.heap.size + 1, 0, none⟩) 2 2, .slice none 0 0] 64) (.cells #[.slice (some ⟨w.heap.size + 1 + 1, 0, none⟩) 1 1, .slice (some ⟨w2.heap.size + 1 + 1, 0, none⟩) 1 1] 25)
  have hx4 : Ext w2 ((((w2.alloc (.cells #[.int .i64 1, .int .i64 2, .string ⟨#[]⟩, .int .i64 0, .slice none 0 0, .slice none 0 0, .int .i64 4, .int .i64 0, .string ⟨#[]⟩, .int .i64 1, .slice none 0 0, .slice none 0 0] 41)).alloc (.cells #[.int .i64 4, .int .i64 1, .string ⟨#[]⟩, .int .i64 1, .slice (some ⟨w2.heap.size, 0, none⟩) 2 2, .slice none 0 0, .int .i64 1, .int .i64 2, .string ⟨#[]⟩, .int .i64 0, .slice none 0 0, .slice none 0 0] 41)).alloc (.cells #[.string ⟨#[109, 97, 105, 110]⟩, .slice none 0 0, .int .i64 0, .int .i64 8, .int .i64 0, .string ⟨#[120]⟩, .int .i64 1, .slice (some ⟨w2.heap.size + 1, 0, none⟩) 2 2, .slice none 0 0] 64)).alloc (.cells #[.slice (some ⟨w.heap.size + 1 + 1, 0, none⟩) 1 1, .slice (some ⟨w2.heap.size + 1 + 1, 0, none⟩) 1 1] 25)) := (Ext.al3 _ _ _ _).tr (Ext.al _ _)
  have hE2 := HE2.out.tr hx4
  have HEX : Hid (ExM ((((w2.alloc (.cells #[.int .i64 1, .int .i64 2, .string ⟨#[]⟩, .int .i64 0, .slice none 0 0, .slice none 0 0, .int .i64 4, .int .i64 0, .string ⟨#[]⟩, .int .i64 1, .slice none 0 0, .slice none 0 0] 41)).alloc (.cells #[.int .i64 4, .int .i64 1, .string ⟨#[]⟩, .int .i64 1, .slice (some ⟨w2.heap.size, 0, none⟩) 2 2, .slice none 0 0, .int .i64 1, .int .i64 2, .string ⟨#[]⟩, .int .i64 0, .slice none 0 0, .slice none 0 0] 41)).alloc (.cells #[.string ⟨#[109, 97, 105, 110]⟩, .slice none 0 0, .int .i64 0, .int .i64 8, .int .i64 0, .string ⟨#[120]⟩, .int .i64 1, .slice (some ⟨w2.heap.size + 1, 0, none⟩) 2 2, .slice none 0 0] 64)).alloc (.cells #[.slice (some ⟨w.heap.size + 1 + 1, 0, none⟩) 1 1, .slice (some ⟨w2.heap.size + 1 + 1, 0, none⟩) 1 1] 25)) w.heap.size w1.heap.size w2.heap.size nullT) :=
    ⟨by have := HS1.out; omega, by have := HS2.out; omega, (hE2.block _ (heap_lt HA.out)).trans HA.out, (hE2.block _ (heap_lt HX.out)).trans HX.out, (hE2.block _ (heap_lt HD.out)).trans HD.out, (hx4.block _ (heap_lt HT.out)).trans HT.out, g1, g2, g3, g4⟩
  have HXW := Lib.hid (HE1.out.tr hE2)
  have HZ1 : Hid (w.heap.size ≤ w2.heap.size) := by show _ ≤ _; have := HS2.out; have := HS1.out; omega
  clear g1 g2 g3 g4 hx4 hE2
  generalize World.alloc (World.alloc (World.alloc (World.alloc w2 _) _) _) _ = w3 at *
  clear HA HX HD HT HN
  have p0 := cellAt HEX.out.p 0
  have p1 := cellAt HEX.out.p 1
  go_wp2_with fail
  have HE4 := Lib.hid (Ext.al w3 (.cells #[.string ⟨#[120]⟩, .int .i64 0, .string ⟨#[120]⟩, .int .i64 1] 74))
  have HB4 := Lib.hid (heapNew w3 (.cells #[.string ⟨#[120]⟩, .int .i64 0, .string ⟨#[120]⟩, .int .i64 1] 74))
  generalize hw4 : World.alloc w3 _ = w4 at *
  clear hw4
  (refine (Typec_any (exP nullT) _ _ _ _ exV [] 1 (varT xS) _ _ _ (HEX.out.ext HE4.out).decls ((HEX.out.ext HE4.out).funs (RT.leaf _ _ _ _ _ _ (by decide) (by unfold ok64; decide) (by unfold ok64; decide))) (ex_fine _ (.inr rfl)) (exV_mem HB4.out) (RPrms.nil _) (by decide) (by decide) (RT.leaf _ _ _ _ _ _ (by decide) (by unfold ok64; decide) (by unfold ok64; decide)) ex_fineV (by decide) (by decide)).mono ?_)
  rintro e w5 ⟨he, hb⟩
  obtain rfl := ex_typeR he
  have HEX5 := Lib.hid (HEX.out.ext (HE4.out.tr hb))
  have HXW5 := Lib.hid (HXW.out.tr (HE4.out.tr hb))
  clear hb he p0 p1 HEX HXW HE4 HB4
  have p0 := cellAt HEX5.out.p 0
  have p1 := cellAt HEX5.out.p 1
  go_wp2_with fail
  (with_reducible refine (Checkc_any (exP nullT) _ _ _ HEX5.out.decls (HEX5.out.funs (RT.leaf _ _ _ _ _ _ (by decide) (by unfold ok64; decide) (by unfold ok64; decide))) (ex_fine _ (.inr rfl))).mono ?_)
  rw [ex_check]
  rintro e w6 ⟨rfl, hb⟩
  have HEX6 := Lib.hid (HEX5.out.ext hb)
  have HXW6 := Lib.hid (HXW5.out.tr hb)
  clear hb p0 p1 HEX5 HXW5
  go_upto_region 8 with fail
  go_cut [] from 10 to 87 (fun W => ExM W w.heap.size w1.heap.size w2.heap.size twoT ∧ Ext w W)
  case first =>
    have p1 := cellAt HEX6.out.p 1
    have q7 := cellAt HEX6.out.fns 7
    have r4 := cellAt HEX6.out.out 4
    have k0 := cellAt HEX6.out.two 0
    have k1 := cellAt HEX6.out.two 1
    have k2 := cellAt HEX6.out.two 2
    have k3 := cellAt HEX6.out.two 3
    have k4 := cellAt HEX6.out.two 4
    have k5 := cellAt HEX6.out.two 5
    have i6 := cellAt HEX6.out.inn 6
    have f6 := frozenAt HEX6.out.inn 6
    have i7 := cellAt HEX6.out.inn 7
    have f7 := frozenAt HEX6.out.inn 7
    have i8 := cellAt HEX6.out.inn 8
    have f8 := frozenAt HEX6.out.inn 8
    have i9 := cellAt HEX6.out.inn 9
    have f9 := frozenAt HEX6.out.inn 9
    have i10 := cellAt HEX6.out.inn 10
    have f10 := frozenAt HEX6.out.inn 10
    have i11 := cellAt HEX6.out.inn 11
    have f11 := frozenAt HEX6.out.inn 11
    go_region
    all_goals
      clear p1 q7 r4 k0 k1 k2 k3 k4 k5 i6 f6 i7 f7 i8 f8 i9 f9 i10 f10 i11 f11
      have HON := Lib.hid (only6 w6 w2.heap.size (.int .i64 1) (.int .i64 2) (.string noS) (.int .i64 0) (.slice none 0 0) (.slice none 0 0))
      have HIN := Lib.hid (box12_set HEX6.out.inn (.int .i64 1) (.int .i64 2) (.string noS) (.int .i64 0) (.slice none 0 0) (.slice none 0 0))
      generalize World.setCell (World.setCell (World.setCell (World.setCell (World.setCell (World.setCell w6 _ _) _ _) _ _) _ _) _ _) _ _ = w7 at *
      have HEX7 : Hid (ExM w7.drew w.heap.size w1.heap.size w2.heap.size twoT) := HEX6.out.turn ⟨HON.out.os, HON.out.tape, HON.out.output, HON.out.size, HON.out.block⟩ HIN.out
      have HXW7 : Hid (Ext w w7.drew) := (HXW6.out.trans (HON.out.below HXW6.out.size (fun q e => by have := HZ1.out; omega))).drew
      go_wp2
      go_meet
      exact ⟨HEX7.out, HXW7.out⟩
  case rest =>
  obtain ⟨hex, hxw⟩ := hcut
  have HEX8 := Lib.hid hex; have HXW8 := Lib.hid hxw
  clear hex hxw
  obtain ⟨w8, hw8⟩ : ∃ w8, w8 = wc := ⟨_, rfl⟩
  subst hw8
  have p0 := cellAt HEX8.out.p 0
  have p1 := cellAt HEX8.out.p 1
  go_wp2_with fail
  (with_reducible refine (Fault_any (exP twoT) _ _ _ HEX8.out.decls (HEX8.out.funs (RT.leaf _ _ _ _ _ _ (by decide) (by unfold ok64; decide) (by unfold ok64; decide))) (ex_fine _ (.inl rfl))).mono ?_)
  rintro e w9 ⟨h, hb⟩
  rw [if_pos ex_prog2, ex_fault] at h
  obtain ⟨vp, rfl, hp⟩ := h
  have hp : World.ownsRow w9 w8.heap.size 3 1 vp 1 [.int .i64 0] := hp
  obtain ⟨Ap, cp, rfl⟩ := own_shapeL hp
  have HP : Hid (OwnL w9 w8.heap.size (.slice Ap 1 cp) [0]) := hp
  have HEX9 := Lib.hid (HEX8.out.ext hb)
  have HXW9 := Lib.hid (HXW8.out.tr hb)
  clear hb p0 p1 hp HEX8 HXW8
  have p0 := cellAt HEX9.out.p 0
  have p1 := cellAt HEX9.out.p 1
  go_wp2_with fail
  (with_reducible refine (Checkc_any (exP twoT) _ _ _ HEX9.out.decls (HEX9.out.funs (RT.leaf _ _ _ _ _ _ (by decide) (by unfold ok64; decide) (by unfold ok64; decide))) (ex_fine _ (.inl rfl))).mono ?_)
  rw [ex_check2]
  rintro e w10 ⟨rfl, hb⟩
  have HXW10 := Lib.hid (HXW9.out.tr hb)
  have HP10 := Lib.hid (own_ints (own_below HP.out hb))
  clear hb p0 p1 HEX9 HXW9
  go_wp2_with fail
  (refine (same_ints_any _ _ [0] [0] _ (HP10.out.below (Ext.al _ (.cells #[.int .i64 0] 3))) (own_ints (own_single (w := w10) (B := 0) (Nat.zero_le _) 0))).mono ?_)
  rw [show eqL [0] [0] = true by decide]
  rintro e w11 ⟨rfl, hb⟩
  have HXW11 := Lib.hid ((HXW10.out.tr (Ext.al _ (.cells #[.int .i64 0] 3))).tr hb)
  clear hb
  go_wp2
  go_ret
  exact ⟨rfl, HXW11.out⟩
end Go.Proofs.YtogmjgccopmplaaGreat
