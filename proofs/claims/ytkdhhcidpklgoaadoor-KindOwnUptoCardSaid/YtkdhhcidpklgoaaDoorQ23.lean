/- Copies of declarations: rows that the call owns. -/
import Derived.Test.YtkdhhcidpklgoaaDoorQ22
import Derived.Deep.RegionHeld
namespace Go.Proofs.YtkdhhcidpklgoaaDoor
open Go.RowKit

def argCells : List Arg → List Value
  | [] => []
  | a :: r => .int .i64 a.ty :: .bool a.co :: argCells r
def xtCells : List Xtor → List Value → List Value
  | x :: r, va :: q => .string x.name :: va :: xtCells r q
  | _, _ => []
def dcCells : List Decl → List Value → List Value
  | d :: r, vx :: q => .string d.name :: .bool d.codata :: vx :: dcCells r q
  | _, _ => []
theorem argCells_len : ∀ l, (argCells l).length = l.length * 2
  | [] => rfl
  | a :: r => by have := argCells_len r; simp [argCells]; omega
theorem argCells_at : ∀ (l : List Arg) (i : Nat) (a : Arg), l[i]? = some a → (argCells l)[i * 2]? = some (.int .i64 a.ty) ∧ (argCells l)[i * 2 + 1]? = some (.bool a.co)
  | b :: r, 0, a, h => by
    obtain rfl := Option.some.inj h
    exact ⟨rfl, rfl⟩
  | b :: r, i + 1, a, h => by
    have := argCells_at r i a h
    rw [show (i + 1) * 2 = i * 2 + 1 + 1 by omega]
    exact this
theorem xtCells_at : ∀ (l : List Xtor) (vs : List Value), vs.length = l.length → ∀ (i : Nat) (x : Xtor) (v : Value), l[i]? = some x → vs[i]? = some v → (xtCells l vs)[i * 2]? = some (.string x.name) ∧ (xtCells l vs)[i * 2 + 1]? = some v
  | [], _, _, i, x, v, h, _ => by simp at h
  | y :: r, [], hl, i, x, v, _, h => by simp at h
  | y :: r, u :: q, hl, 0, x, v, h, h' => by
    obtain rfl := Option.some.inj h
    obtain rfl := Option.some.inj h'
    exact ⟨rfl, rfl⟩
  | y :: r, u :: q, hl, i + 1, x, v, h, h' => by
    have := xtCells_at r q (by simpa using hl) i x v h h'
    rw [show (i + 1) * 2 = i * 2 + 1 + 1 by omega]
    exact this
theorem xtCells_snoc : ∀ (l : List Xtor) (vs : List Value) (x : Xtor) (v : Value), vs.length = l.length → xtCells (l ++ [x]) (vs ++ [v]) = xtCells l vs ++ [.string x.name, v]
  | [], [], x, v, _ => rfl
  | [], _ :: _, x, v, h => by simp at h
  | y :: r, [], x, v, h => by simp at h
  | y :: r, u :: q, x, v, h => by
    have := xtCells_snoc r q x v (by simpa using h)
    show .string y.name :: u :: xtCells (r ++ [x]) (q ++ [v]) = _
    rw [this]; rfl
theorem dcCells_at : ∀ (l : List Decl) (vs : List Value), vs.length = l.length → ∀ (i : Nat) (d : Decl) (v : Value), l[i]? = some d → vs[i]? = some v → (dcCells l vs)[i * 3]? = some (.string d.name) ∧ (dcCells l vs)[i * 3 + 1]? = some (.bool d.codata) ∧ (dcCells l vs)[i * 3 + 2]? = some v
  | [], _, _, i, x, v, h, _ => by simp at h
  | y :: r, [], hl, i, x, v, _, h => by simp at h
  | y :: r, u :: q, hl, 0, x, v, h, h' => by
    obtain rfl := Option.some.inj h
    obtain rfl := Option.some.inj h'
    exact ⟨rfl, rfl, rfl⟩
  | y :: r, u :: q, hl, i + 1, x, v, h, h' => by
    have := dcCells_at r q (by simpa using hl) i x v h h'
    rw [show (i + 1) * 3 = i * 3 + 1 + 1 + 1 by omega]
    exact this
theorem dcCells_snoc : ∀ (l : List Decl) (vs : List Value) (d : Decl) (v : Value), vs.length = l.length → dcCells (l ++ [d]) (vs ++ [v]) = dcCells l vs ++ [.string d.name, .bool d.codata, v]
  | [], [], x, v, _ => rfl
  | [], _ :: _, x, v, h => by simp at h
  | y :: r, [], x, v, h => by simp at h
  | y :: r, u :: q, x, v, h => by
    have := dcCells_snoc r q x v (by simpa using h)
    show .string y.name :: .bool y.codata :: u :: dcCells (r ++ [x]) (q ++ [v]) = _
    rw [this]; rfl

/-! ### rows that are owned -/
section
variable {w w' : World} {B e size n : Nat} {v : Value} {xs : List Value}
theorem row_at (h : w.ownsRow B e size v n xs) (hk : ∀ g cur, v.ownBlock = some g → w.heap[g]? = some (.cells cur e (0, 0)) → w'.heap[g]? = w.heap[g]?) : w'.ownsRow B e size v n xs := by
  obtain ⟨h1, h2⟩ := h
  refine ⟨h1, ?_⟩
  rcases h2 with h2 | ⟨g, cap, cur, rfl, e2, e3, e4⟩
  · exact .inl h2
  · exact .inr ⟨g, cap, cur, rfl, e2, (hk g cur rfl e3).trans e3, e4⟩
theorem row_ext (h : w.ownsRow B e size v n xs) (hb : Ext w w') : w'.ownsRow B e size v n xs := row_at h fun g _ _ hc => hb.block g (heap_lt hc)
theorem row_base (h : w.ownsRow B e size v n xs) : w.ownsRow 0 e size v n xs := by
  obtain ⟨h1, h2⟩ := h
  refine ⟨h1, ?_⟩
  rcases h2 with h2 | ⟨g, cap, cur, rfl, e2, e3, e4⟩
  · exact .inl h2
  · exact .inr ⟨g, cap, cur, rfl, Nat.zero_le _, e3, e4⟩
/-- Behind an append to another row. -/
theorem row_other {B' e' size' n' : Nat} {v' : Value} {ys : List Value} (h : w.ownsRow B e size v n xs) (hr : w.ownsRow B' e' size' v' n' ys) (hne : e ≠ e') (hg : w.grownBy w' v'.ownBlock) : w'.ownsRow B e size v n xs := row_at h fun g cur _ hc => by
  refine hg.block g (heap_lt hc) fun e' => ?_
  rcases hr.2 with ⟨rfl, _⟩ | ⟨g', cap, cur', rfl, _, hh, _⟩
  · simp [Value.ownBlock] at e'
  · have : g' = g := by simpa [Value.ownBlock] using e'.symm
    subst this
    rw [hc] at hh
    injection hh with hh
    injection hh with _ ht
    exact hne ht
theorem row_form (h : w.ownsRow B e size v n xs) : ∃ A c, v = .slice A n c ∧ n ≤ c ∧ c ≤ maxLen ∧ ∀ j u, xs[j]? = some u → ∃ g, A = some ⟨g, 0, none⟩ ∧ g < w.heap.size ∧ w.cell? ⟨g, j, none⟩ = some u := by
  have hc := @World.ownsRow.cells w B e size v n xs h
  rcases h.2 with ⟨rfl, rfl⟩ | ⟨g, cap, cur, rfl, _, hh, hn, hm, _⟩
  · refine ⟨none, 0, rfl, Nat.le_refl _, Nat.zero_le _, fun j u hu => ?_⟩
    have h1 := h.1
    have : xs = [] := List.eq_nil_of_length_eq_zero (by omega)
    subst this
    simp at hu
  · refine ⟨_, cap, rfl, hn, hm, fun j u hu => ⟨g, rfl, heap_lt hh, ?_⟩⟩
    have := hc rfl j u hu
    have e : (⟨g, 0, none⟩ : Addr).add j = ⟨g, j, none⟩ := by unfold Addr.add; split <;> simp_all
    rw [e] at this
    exact this
end
def KArgs (w : World) (v : Value) (l : List Arg) : Prop := w.ownsRow 0 100 2 v l.length (argCells l)
structure KX (w : World) (B : Nat) (v : Value) (l : List Xtor) (vas : List Value) : Prop where
  len : vas.length = l.length
  row : w.ownsRow B 50 2 v l.length (xtCells l vas)
  args : ∀ (i : Nat) va x, vas[i]? = some va → l[i]? = some x → KArgs w va x.args
def KXtors (w : World) (v : Value) (l : List Xtor) : Prop := ∃ vas, KX w 0 v l vas
structure KD (w : World) (B : Nat) (v : Value) (l : List Decl) (vxs : List Value) : Prop where
  len : vxs.length = l.length
  row : w.ownsRow B 53 3 v l.length (dcCells l vxs)
  xtors : ∀ (i : Nat) vx d, vxs[i]? = some vx → l[i]? = some d → KXtors w vx d.xtors
section
variable {w w' : World} {B : Nat} {v : Value}
theorem KX.ext {l : List Xtor} {vas : List Value} (h : KX w B v l vas) (hb : Ext w w') : KX w' B v l vas := ⟨h.len, row_ext h.row hb, fun i va x a b => row_ext (h.args i va x a b) hb⟩
theorem KXtors.ext {l : List Xtor} (h : KXtors w v l) (hb : Ext w w') : KXtors w' v l := h.elim fun vas h => ⟨vas, h.ext hb⟩
theorem KD.ext {l : List Decl} {vxs : List Value} (h : KD w B v l vxs) (hb : Ext w w') : KD w' B v l vxs := ⟨h.len, row_ext h.row hb, fun i vx d a b => (h.xtors i vx d a b).ext hb⟩
/-- Behind an append to a row of another type. -/
theorem KXtors.other {l : List Xtor} (h : KXtors w v l) {B' size' n' : Nat} {v' : Value} {ys : List Value} (hr : w.ownsRow B' 53 size' v' n' ys) (hg : w.grownBy w' v'.ownBlock) : KXtors w' v l := by
  obtain ⟨vas, h⟩ := h
  exact ⟨vas, h.len, row_other h.row hr (by decide) hg, fun i va x a b => row_other (h.args i va x a b) hr (by decide) hg⟩
theorem KArgs.reads {l : List Arg} (h : KArgs w v l) : RArgs w v l := by
  obtain ⟨A, c, rfl, h1, h2, h3⟩ := row_form h
  refine ⟨A, c, rfl, h1, h2, fun i a hi => ?_⟩
  obtain ⟨e1, e2⟩ := argCells_at l i a hi
  obtain ⟨g, rfl, hl, c1⟩ := h3 _ _ e1
  obtain ⟨g', hg', _, c2⟩ := h3 _ _ e2
  cases hg'
  exact ⟨g, 0, rfl, hl, by rw [Nat.zero_add]; exact c1, by rw [Nat.zero_add]; exact c2⟩
theorem KXtors.reads {l : List Xtor} (h : KXtors w v l) (hs : ∀ x ∈ l, x.name.size ≤ maxLen) : RXtors w v l := by
  obtain ⟨vas, h⟩ := h
  obtain ⟨A, c, rfl, h1, h2, h3⟩ := row_form h.row
  refine ⟨A, c, rfl, h1, h2, fun i x hi => ?_⟩
  have hil : i < vas.length := by rw [h.len]; exact (List.getElem?_eq_some_iff.1 hi).1
  have hv := List.getElem?_eq_getElem hil
  obtain ⟨e1, e2⟩ := xtCells_at l vas h.len i x _ hi hv
  obtain ⟨g, rfl, hl, c1⟩ := h3 _ _ e1
  obtain ⟨g', hg', _, c2⟩ := h3 _ _ e2
  cases hg'
  exact ⟨g, 0, vas[i], rfl, hl, by rw [Nat.zero_add]; exact c1, by rw [Nat.zero_add]; exact c2, (h.args i _ x hv hi).reads, hs x (List.mem_of_getElem? hi)⟩
theorem KD.reads {l : List Decl} {vxs : List Value} (h : KD w B v l vxs) (hs : ∀ d ∈ l, d.name.size ≤ maxLen ∧ ∀ x ∈ d.xtors, x.name.size ≤ maxLen) : RDecls w v l := by
  obtain ⟨A, c, rfl, h1, h2, h3⟩ := row_form h.row
  refine ⟨A, c, rfl, h1, h2, fun i d hi => ?_⟩
  have hil : i < vxs.length := by rw [h.len]; exact (List.getElem?_eq_some_iff.1 hi).1
  have hv := List.getElem?_eq_getElem hil
  obtain ⟨e1, e2, e3⟩ := dcCells_at l vxs h.len i d _ hi hv
  obtain ⟨g, rfl, hl, c1⟩ := h3 _ _ e1
  obtain ⟨g', hg', _, c2⟩ := h3 _ _ e2
  cases hg'
  obtain ⟨g', hg', _, c3⟩ := h3 _ _ e3
  cases hg'
  have hd := hs d (List.mem_of_getElem? hi)
  exact ⟨g, 0, vxs[i], rfl, hl, by rw [Nat.zero_add]; exact c1, by rw [Nat.zero_add]; exact c2, by rw [Nat.zero_add]; exact c3, (h.xtors i _ d hv hi).reads hd.2, hd.1⟩
theorem sizes_x {l : List Xtor} (h : RXtors w v l) : ∀ x ∈ l, x.name.size ≤ maxLen := by
  intro x hx
  obtain ⟨i, hi⟩ := List.mem_iff_getElem?.1 hx
  obtain ⟨A, c, _, _, _, h3⟩ := h
  obtain ⟨_, _, _, _, _, _, _, _, hs⟩ := h3 i x hi
  exact hs
theorem sizes_d {l : List Decl} (h : RDecls w v l) : ∀ d ∈ l, d.name.size ≤ maxLen ∧ ∀ x ∈ d.xtors, x.name.size ≤ maxLen := by
  intro d hd
  obtain ⟨i, hi⟩ := List.mem_iff_getElem?.1 hd
  obtain ⟨A, c, _, _, _, h3⟩ := h
  obtain ⟨_, _, _, _, _, _, _, _, hx, hs⟩ := h3 i d hi
  exact ⟨hs, sizes_x hx⟩
end

theorem Tryd.info50 : (Tryd.prog.info? 100).map (fun i => (i.zero, i.size, i.bytes)) = some (some (.agg #[.int .i64 0, .bool false]), 2, 16) := by kernel_rfl
theorem Tryd.info45 : (Tryd.prog.info? 50).map (fun i => (i.zero, i.size, i.bytes)) = some (some (.agg #[.string ⟨#[]⟩, .slice none 0 0]), 2, 40) := by kernel_rfl
theorem Tryd.info48 : (Tryd.prog.info? 53).map (fun i => (i.zero, i.size, i.bytes)) = some (some (.agg #[.string ⟨#[]⟩, .bool false, .slice none 0 0]), 3, 48) := by kernel_rfl
theorem Tryd.uu43 : Tryd.prog.underlying 45 = some (.slice 100) := by kernel_rfl
theorem Tryd.uu46 : Tryd.prog.underlying 51 = some (.slice 50) := by kernel_rfl
theorem Tryd.uu22 : Tryd.prog.underlying 22 = some (.slice 53) := by kernel_rfl
theorem argCells_get : ∀ (l : List Arg) (j : Nat) (u : Value), (argCells l)[j]? = some u → ∃ i a, l[i]? = some a ∧ ((j = i * 2 ∧ u = .int .i64 a.ty) ∨ (j = i * 2 + 1 ∧ u = .bool a.co))
  | [], j, u, h => by simp [argCells] at h
  | a :: r, 0, u, h => ⟨0, a, rfl, .inl ⟨rfl, (Option.some.inj h).symm⟩⟩
  | a :: r, 1, u, h => ⟨0, a, rfl, .inr ⟨rfl, (Option.some.inj h).symm⟩⟩
  | a :: r, j + 2, u, h => by
    obtain ⟨i, b, hi, hj⟩ := argCells_get r j u h
    refine ⟨i + 1, b, hi, ?_⟩
    rcases hj with ⟨rfl, hu⟩ | ⟨rfl, hu⟩
    · exact .inl ⟨by omega, hu⟩
    · exact .inr ⟨by omega, hu⟩
theorem RArgs.src {w : World} {A : Option Addr} {c : Nat} {l : List Arg} (h : RArgs w (.slice A l.length c) l) : SrcN w A l.length 2 (argCells l) := by
  obtain ⟨A', c', he, h1, h2, h3⟩ := h
  cases he
  cases A with
  | none =>
    cases l with
    | nil => exact .inl ⟨rfl, rfl, rfl⟩
    | cons a r =>
      obtain ⟨_, _, hA, _⟩ := h3 0 a rfl
      cases hA
  | some ad =>
    refine .inr ⟨ad, rfl, argCells_len l, fun j u hu => ?_⟩
    obtain ⟨i, a, hi, hj⟩ := argCells_get l j u hu
    obtain ⟨b, o, hA, _, c0, c1⟩ := h3 i a hi
    cases hA
    rcases hj with ⟨rfl, rfl⟩ | ⟨rfl, rfl⟩
    · rw [add_at]; exact c0
    · rw [add_at]; exact c1
theorem argCells_one (l : List Arg) : ∀ u ∈ argCells l, u.oneCell' = true := by
  intro u hu
  obtain ⟨j, hj⟩ := List.mem_iff_getElem?.1 hu
  obtain ⟨i, a, _, h⟩ := argCells_get l j u hj
  rcases h with ⟨_, rfl⟩ | ⟨_, rfl⟩ <;> rfl
end Go.Proofs.YtkdhhcidpklgoaaDoor

/- ref.go: Copy of declarations. -/
namespace Go.Proofs.YtkdhhcidpklgoaaDoor
open Go.RowKit

theorem step_app {P : Program} {w : World} {ops : Array Oper} {o : Oper} {a : Act} {K : Act → World → Prop} {Q : Exit → Act → World → Prop} {E : Prop} (hgd : o.guard = none)
    (h : o.wp P a w K Q) : if Region.wanted o (yielded ops a.tmps) = true then Oper.wp P o a w K Q else E := by
  rw [if_pos (by simp [Region.wanted, hgd])]; exact h

/-- Not larger than what may come in. -/
structure Modest (l : List Decl) : Prop where
  few : l.length ≤ 1048576
  xts : ∀ d ∈ l, d.xtors.length ≤ 1048576
  ars : ∀ d ∈ l, ∀ x ∈ d.xtors, x.args.length ≤ 1048576


theorem KX.snoc {w8 w9 : World} {B : Nat} {v v' va : Value} {l : List Xtor} {vas : List Value} {x : Xtor} (h : KX w8 B v l vas) (hg : w8.grownBy w9 v.ownBlock) (hr : w9.ownsRow B 50 2 v' (l.length + 1) (xtCells l vas ++ [.string x.name, va])) (ha : KArgs w8 va x.args) : KX w9 B v' (l ++ [x]) (vas ++ [va]) := by
  refine ⟨by simp [h.len], ?_, fun i u y hi hy => ?_⟩
  · rw [xtCells_snoc _ _ _ _ h.len, List.length_append]
    exact hr
  · by_cases hlt : i < l.length
    · rw [List.getElem?_append_left (by rw [h.len]; exact hlt)] at hi
      rw [List.getElem?_append_left hlt] at hy
      exact row_other (h.args i u y hi hy) h.row (by decide) hg
    · have hil : i = l.length := by
        have := (List.getElem?_eq_some_iff.1 hy).1
        simp at this
        omega
      subst hil
      rw [← h.len] at hi
      simp at hi hy
      subst hi; subst hy
      exact row_other ha h.row (by decide) hg
theorem KD.snoc {w8 w9 : World} {B : Nat} {v v' vx : Value} {l : List Decl} {vxs : List Value} {d : Decl} (h : KD w8 B v l vxs) (hg : w8.grownBy w9 v.ownBlock) (hr : w9.ownsRow B 53 3 v' (l.length + 1) (dcCells l vxs ++ [.string d.name, .bool d.codata, vx])) (ha : KXtors w8 vx d.xtors) : KD w9 B v' (l ++ [d]) (vxs ++ [vx]) := by
  refine ⟨by simp [h.len], ?_, fun i u y hi hy => ?_⟩
  · rw [dcCells_snoc _ _ _ _ h.len, List.length_append]
    exact hr
  · by_cases hlt : i < l.length
    · rw [List.getElem?_append_left (by rw [h.len]; exact hlt)] at hi
      rw [List.getElem?_append_left hlt] at hy
      exact (h.xtors i u y hi hy).other h.row hg
    · have hil : i = l.length := by
        have := (List.getElem?_eq_some_iff.1 hy).1
        simp at this
        omega
      subst hil
      rw [← h.len] at hi
      simp at hi hy
      subst hi; subst hy
      exact ha.other h.row hg
theorem row_lt {w : World} {B e size n : Nat} {v : Value} {xs : List Value} (h : w.ownsRow B e size v n xs) : ∀ g, v.ownBlock = some g → B ≤ g ∧ g < w.heap.size := fun g hg => by
  rcases h.2 with ⟨rfl, _⟩ | ⟨g', cap, cur, rfl, hb, hh, _⟩
  · simp [Value.ownBlock] at hg
  · have : g' = g := by simpa [Value.ownBlock] using hg
    subst this
    exact ⟨hb, heap_lt hh⟩
theorem grown_extD {w w' : World} (hg : w.grownBy w' none) : Ext w w' := (Below.refl _ _).grown hg (Nat.le_refl _) (fun k e => by cases e)

set_option maxHeartbeats 4000000 in
set_option maxRecDepth 100000 in
theorem RCopyD_any (v : Value) (l : List Decl) (w : World) (h : RDecls w v l) (hM : Modest l) :
    Calls Tryd.prog 16 #[v] w fun e w' => (∃ vo vxs, e = .returned vo ∧ KD w' w.heap.size vo l vxs) ∧ Ext w w' := by
  have HR := Lib.hid h
  have h8 := hM.few
  have HF := Lib.hid hM
  clear hM
  obtain ⟨A, c, rfl, hc, hm⟩ := h.form
  clear h
  unfold maxLen at hm
  go_enter Tryd.func16, Tryd.ntmps16
  go_wp2
  go_loopw [3, 11] (fun vo i wr => ∃ (k : Nat) (vxs : List Value), k ≤ l.length ∧ i = .int .i64 k ∧ KD wr w.heap.size vo (l.take k) vxs ∧ Ext w wr) (fun _ i _ => l.length - (intOf i).toNat)
  case atStart => exact ⟨0, [], Nat.zero_le _, rfl, ⟨rfl, own_nil', fun i vx d h => by simp at h⟩, Ext.rf w⟩
  case round =>
    obtain ⟨k, vxs, hk, rfl, hkd, hE⟩ := hrel
    obtain ⟨wb, rfl⟩ : ∃ wb : World, wb = wr := ⟨_, rfl⟩
    have HE := Lib.hid hE
    obtain ⟨Ao, co, rfl, -⟩ := row_form hkd.row
    have HK := Lib.hid hkd
    clear hkd hE
    by_cases hlt : k < l.length
    · obtain ⟨b2, o2, vx, rfl, hbl2, g0, g1, g2, g3, g4⟩ := HR.out.at_ hlt
      have g0 := HE.out.keep g0
      have g1 := HE.out.keep g1
      have g2 := HE.out.keep g2
      have HXA := Lib.hid (HF.out.ars _ (List.getElem_mem hlt))
      have hxl := HF.out.xts _ (List.getElem_mem hlt)
      have HTK : Hid (l.take (k + 1) = l.take k ++ [l[k]]) := List.take_succ_eq_append_getElem hlt
      have hlk : (l.take k).length = k := by rw [List.length_take]; omega
      rw [hlk]
      generalize l[k] = d at *
      obtain ⟨dn, cd, xs⟩ := d
      dsimp only at *
      obtain ⟨A2, c2, rfl, hc2, hm2⟩ := g3.form
      unfold maxLen at hm2
      have HX := Lib.hid g3; clear g3
      have hE2 := Ext.al wb (Obj.cells #[Value.string dn, Value.bool cd, Value.slice A2 xs.length c2] 53)
      have hD2 := heapNew wb (Obj.cells #[Value.string dn, Value.bool cd, Value.slice A2 xs.length c2] 53)
      have HK2 := Lib.hid (HK.out.ext hE2)
      have HE2 := Lib.hid (HE.out.tr hE2)
      have HD2 := Lib.hid hD2
      clear hE2 HK hD2
      go_wp2
      generalize wb.alloc _ = w2 at *
      go_loopw [6, 18] (fun vx i wr => ∃ (r : Nat) (vas : List Value), r ≤ xs.length ∧ i = .int .i64 r ∧ KX wr w2.heap.size vx (xs.take r) vas ∧ Ext w2 wr) (fun _ i _ => xs.length - (intOf i).toNat)
      case atStart => exact ⟨0, [], Nat.zero_le _, rfl, ⟨rfl, own_nil', fun i vx d h => by simp at h⟩, Ext.rf w2⟩
      case round =>
        obtain ⟨r, vas, hr, rfl, hkx, hE⟩ := hrel
        have HEc := Lib.hid hE
        obtain ⟨Ax, cx, rfl, -⟩ := row_form hkx.row
        have HKX := Lib.hid hkx
        clear hkx hE
        by_cases hlt3 : r < xs.length
        · have HEw := Lib.hid (HE2.out.tr HEc.out)
          obtain ⟨b3, o3, va, rfl, hbl3, q0, q1, q2, q3⟩ := HX.out.at_ hlt3
          have q0 := HEw.out.keep q0
          have q1 := HEw.out.keep q1
          have hxa := HXA.out _ (List.getElem_mem hlt3)
          have HTX : Hid (xs.take (r + 1) = xs.take r ++ [xs[r]]) := List.take_succ_eq_append_getElem hlt3
          have hlr : (xs.take r).length = r := by rw [List.length_take]; omega
          rw [hlr]
          generalize xs[r] = x at *
          obtain ⟨A3, c3, rfl, hc3, hm3⟩ := q2.form
          unfold maxLen at hm3
          have HXQ := Lib.hid q2; clear q2
          have hE4 := Ext.al wr (Obj.cells #[Value.string x.name, Value.slice A3 x.args.length c3] 50)
          have hX4 := heapNew wr (Obj.cells #[Value.string x.name, Value.slice A3 x.args.length c3] 50)
          have HE4 := Lib.hid (HEc.out.tr hE4)
          have HKX4 := Lib.hid (HKX.out.ext hE4)
          have HA4 := Lib.hid (HXQ.out.below (HEw.out.tr hE4))
          have hg4 : wr.heap.size < (wr.alloc (Obj.cells #[Value.string x.name, Value.slice A3 x.args.length c3] 50)).heap.size := heap_lt hX4
          clear hE4
          have HG4 : Hid (∀ g, (Value.slice Ax r cx).ownBlock = some g → g < wr.heap.size) := fun g hg => by
            have h1 := HKX.out.row
            rw [hlr] at h1
            exact (row_lt h1 g hg).2
          go_wp2
          have hE6 : Ext (wr.alloc (Obj.cells #[Value.string x.name, Value.slice A3 x.args.length c3] 50)) (wr.alloc (Obj.cells #[Value.string x.name, Value.slice A3 x.args.length c3] 50)).drew := (Ext.rf _).drew
          have HX6 : Hid ((wr.alloc (Obj.cells #[Value.string x.name, Value.slice A3 x.args.length c3] 50)).drew.heap[wr.heap.size]? = some (Obj.cells #[Value.string x.name, Value.slice A3 x.args.length c3] 50 (0, 0))) := hX4
          have HE6 := Lib.hid (HE4.out.tr hE6)
          have HKX6 := Lib.hid (HKX4.out.ext hE6)
          have HA6 := Lib.hid (HA4.out.below hE6)
          clear hE6 hX4
          refine wp_region_held_drew (S := fun w' => w'.cell? ⟨wr.heap.size, 0, none⟩ = some (.string x.name) ∧ w'.cell? ⟨wr.heap.size, 1, none⟩ = some (.slice A3 x.args.length c3)) (by kernel_rfl) ⟨cellAt HX6.out 0, cellAt HX6.out 1⟩ (fun hHeld => ?_)
          generalize World.drew _ = w6 at *
          refine wpAnyH_take (i := 0) (oi := ⟨some 22, Op.move (Operand.tmp 6), 51, _, #[], none⟩) (v := ?v0) rfl (by kernel_rfl) (by kernel_rfl) (by kernel_rfl) (fun _ _ _ h => h) (Or.inl ⟨by rfl, ?hy0⟩) (by assumption) ?rest0
          case hy0 =>
            intro w hSw
            try dsimp only at hSw
            go_simp
            try with_reducible rfl
          try simp only [Act.put, List.setIfInBounds_toArray, List.set_cons_zero, List.set_cons_succ]
          refine wpAnyH_take (i := 1) (oi := ⟨some 23, Op.fieldAddr 50 (Operand.tmp 8) 0, 0, _, #[], none⟩) (v := ?v1) rfl (by kernel_rfl) (by kernel_rfl) (by kernel_rfl) (fun _ _ _ h => h) (Or.inl ⟨by rfl, ?hy1⟩) (by assumption) ?rest1
          case hy1 =>
            intro w hSw
            try dsimp only at hSw
            go_simp
            try with_reducible rfl
          try simp only [Act.put, List.setIfInBounds_toArray, List.set_cons_zero, List.set_cons_succ]
          refine wpAnyH_take (i := 2) (oi := ⟨some 24, Op.load 9 (Operand.tmp 23), 9, _, #[⟨1, Ground.data⟩], none⟩) (v := ?v2) rfl (by kernel_rfl) (by kernel_rfl) (by kernel_rfl) (fun _ _ _ h => h) (Or.inl ⟨by rfl, ?hy2⟩) (by assumption) ?rest2
          case hy2 =>
            intro w hSw
            try dsimp only at hSw
            go_simp
            try with_reducible rfl
          try simp only [Act.put, List.setIfInBounds_toArray, List.set_cons_zero, List.set_cons_succ]
          refine wpAnyH_take (i := 3) (oi := ⟨some 25, Op.fieldAddr 50 (Operand.tmp 8) 1, 0, _, #[], none⟩) (v := ?v3) rfl (by kernel_rfl) (by kernel_rfl) (by kernel_rfl) (fun _ _ _ h => h) (Or.inl ⟨by rfl, ?hy3⟩) (by assumption) ?rest3
          case hy3 =>
            intro w hSw
            try dsimp only at hSw
            go_simp
            try with_reducible rfl
          try simp only [Act.put, List.setIfInBounds_toArray, List.set_cons_zero, List.set_cons_succ]
          refine wpAnyH_take (i := 4) (oi := ⟨some 26, Op.load 45 (Operand.tmp 25), 45, _, #[⟨3, Ground.data⟩], none⟩) (v := ?v4) rfl (by kernel_rfl) (by kernel_rfl) (by kernel_rfl) (fun _ _ _ h => h) (Or.inl ⟨by rfl, ?hy4⟩) (by assumption) ?rest4
          case hy4 =>
            intro w hSw
            try dsimp only at hSw
            go_simp
            try with_reducible rfl
          try simp only [Act.put, List.setIfInBounds_toArray, List.set_cons_zero, List.set_cons_succ]
          refine wpAnyH_ready (rs := [5]) (by kernel_rfl) (by simp) ?_
          refine AllReadyH.cons (o := ⟨some 27, Op.call ⟨Callee.builtin Builtin.append, #[Operand.const (Value.slice none 0 0), Operand.tmp 26], #[45, 45]⟩, 45, _, #[⟨4, Ground.data⟩], none⟩) rfl (fun K hK => ?_) ?_
          · refine step_app rfl (app_row (z := .agg #[.int .i64 0, .bool false]) Tryd.uu43 Tryd.info50 rfl (by decide) (.const (.slice none 0 0)) (.tmp 26) rfl 0 (.slice none 0 0) 0 [] rfl own_nil' A3 x.args.length c3 (argCells x.args) rfl HA6.out.src (argCells_one _) (by unfold maxLen; omega) (by omega) (Nat.zero_le _) ?_)
            intro v1 w7 hown1 hg1 hat1
            have hown1 : KArgs w7 v1 x.args := by
              have h1 := hown1
              rw [Nat.zero_add, List.nil_append] at h1
              exact h1
            obtain ⟨A7, c7, rfl, -⟩ := row_form hown1
            have hE7 := grown_extD hg1
            have HE7 := Lib.hid (HE6.out.tr hE7)
            have HKX7 := Lib.hid (HKX6.out.ext hE7)
            have HX7 := Lib.hid ((hE7.block _ (heap_lt HX6.out)).trans HX6.out)
            have HV7 := Lib.hid hown1
            clear hown1 hg1 hat1 hE7
            refine hK.out _ _ ⟨cellAt HX7.out 0, cellAt HX7.out 1⟩ (fun hHeld => ?_)
            clear hK K
            try simp only [Act.put, List.setIfInBounds_toArray, List.set_cons_zero, List.set_cons_succ]
            refine wpAnyH_take (i := 6) (oi := ⟨some 28, Op.build 50 #[(0, Operand.tmp 24), (1, Operand.tmp 27)], 50, _, #[⟨2, Ground.data⟩, ⟨5, Ground.data⟩], none⟩) (v := ?v6) rfl (by kernel_rfl) (by kernel_rfl) (by kernel_rfl) (fun _ _ _ h => h) (Or.inl ⟨by rfl, ?hy6⟩) (by assumption) ?rest6
            case hy6 =>
              intro w hSw
              try dsimp only at hSw
              go_simp
              try with_reducible rfl
            try simp only [Act.put, List.setIfInBounds_toArray, List.set_cons_zero, List.set_cons_succ]
            refine wpAnyH_ready (rs := [7]) (by kernel_rfl) (by simp) ?_
            refine AllReadyH.cons (o := ⟨some 29, Op.buildSlice 51 1 #[(0, Operand.tmp 28)], 51, _, #[⟨6, Ground.data⟩], none⟩) rfl (fun K hK => ?_) ?_
            · go_simp
              have hE8 := Ext.al w7 (.cells #[.string x.name, .slice A7 x.args.length c7] 50)
              have HN8 := Lib.hid (heapNew w7 (.cells #[.string x.name, .slice A7 x.args.length c7] 50))
              have HE8 := Lib.hid (HE7.out.tr hE8)
              have HKX8 := Lib.hid (HKX7.out.ext hE8)
              have HX8 := Lib.hid ((hE8.block _ (heap_lt HX7.out)).trans HX7.out)
              have HV8 : Hid (KArgs (w7.alloc (.cells #[.string x.name, .slice A7 x.args.length c7] 50)) (.slice A7 x.args.length c7) x.args) := row_ext HV7.out hE8
              clear hE8
              refine hK.out _ _ ⟨cellAt HX8.out 0, cellAt HX8.out 1⟩ (fun hHeld => ?_)
              clear hK K
              try simp only [Act.put, List.setIfInBounds_toArray, List.set_cons_zero, List.set_cons_succ]
              refine wpAnyH_ready (rs := [8]) (by kernel_rfl) (by simp) ?_
              refine AllReadyH.cons (o := ⟨some 30, Op.call ⟨Callee.builtin Builtin.append, #[Operand.tmp 22, Operand.tmp 29], #[51, 51]⟩, 51, _, #[⟨0, Ground.data⟩, ⟨7, Ground.data⟩, ⟨5, Ground.chain⟩], none⟩) rfl (fun K hK => ?_) ?_
              · have hrow := HKX8.out.row
                rw [hlr] at hrow
                refine step_app rfl (app_row (z := .agg #[.string ⟨#[]⟩, .slice none 0 0]) Tryd.uu46 Tryd.info45 rfl (by decide) (.tmp 22) (.tmp 29) rfl w2.heap.size (.slice Ax r cx) r (xtCells (xs.take r) vas) rfl hrow (some ⟨w7.heap.size, 0, none⟩) 1 1 [.string x.name, .slice A7 x.args.length c7] rfl ?_ ?_ ?_ ?_ ?_ ?_)
                · exact .inr ⟨_, rfl, rfl, fun j u hj => by
                    match j, hj with
                    | 0, hj => cases hj; rw [add_at]; exact cellAt HN8.out 0
                    | 1, hj => cases hj; rw [add_at]; exact cellAt HN8.out 1⟩
                · intro u hu
                  simp only [List.mem_cons, List.not_mem_nil, or_false] at hu
                  rcases hu with rfl | rfl <;> rfl
                · unfold maxLen; omega
                · omega
                · have h1 := HE8.out.size
                  exact h1
                intro v9 w9 hown9 hg9 hat9
                obtain ⟨A9, c9, rfl, -⟩ := row_form hown9
                have HX9 := Lib.hid ((hg9.block _ (heap_lt HX8.out) (fun e => by have := HG4.out _ e.symm; omega)).trans HX8.out)
                have HE9 : Hid (Ext w2 w9) := HE8.out.grown hg9 HE8.out.size (fun g e => (row_lt hrow g e).1)
                have HKX9 : Hid (KX w9 w2.heap.size (.slice A9 (r + 1) c9) (xs.take r ++ [x]) (vas ++ [.slice A7 x.args.length c7])) := by
                  have h1 := HKX8.out
                  rw [hlr] at h1
                  exact h1.snoc hg9 (by rw [hlr]; exact hown9) HV8.out
                clear hown9 hg9 hat9 hrow
                refine hK.out _ _ ⟨cellAt HX9.out 0, cellAt HX9.out 1⟩ (fun hHeld => ?_)
                clear hK K
                try simp only [Act.put, List.setIfInBounds_toArray, List.set_cons_zero, List.set_cons_succ]
                refine wpAnyH_take (i := 9) (oi := ⟨some 6, Op.assign (Operand.tmp 30), 51, _, #[⟨8, Ground.data⟩, ⟨8, Ground.chain⟩, ⟨0, Ground.phase⟩, ⟨1, Ground.phase⟩, ⟨2, Ground.phase⟩, ⟨3, Ground.phase⟩, ⟨4, Ground.phase⟩, ⟨5, Ground.phase⟩, ⟨6, Ground.phase⟩, ⟨7, Ground.phase⟩, ⟨8, Ground.phase⟩], none⟩) (v := ?v9) rfl (by kernel_rfl) (by kernel_rfl) (by kernel_rfl) (fun _ _ _ h => h) (Or.inl ⟨by rfl, ?hy9⟩) (by assumption) ?rest9
                case hy9 =>
                  intro w hSw
                  try dsimp only at hSw
                  go_simp
                  try with_reducible rfl
                try simp only [Act.put, List.setIfInBounds_toArray, List.set_cons_zero, List.set_cons_succ]
                refine wpAnyH_done (by kernel_rfl) ?_ _
                go_wp2
                go_roundw
                case rel =>
                  refine ⟨r + 1, vas ++ [.slice A7 x.args.length c7], by omega, by go_num, ?_, HE9.out⟩
                  rw [HTX.out]
                  exact HKX9.out
                case measure => simp [intOf]; omega
              · exact AllReadyH.nil
            · exact AllReadyH.nil
          · exact AllReadyH.nil
        · have hre : r = xs.length := by omega
          subst hre
          rw [List.take_length] at HKX ⊢
          have HKD := Lib.hid (HK2.out.ext HEc.out)
          have hd := (HEc.out.block _ (heap_lt HD2.out)).trans HD2.out
          have d0 := cellAt hd 0
          have d1 := cellAt hd 1
          have d2 := cellAt hd 2
          have HDD := Lib.hid hd
          clear hd
          have hEa := Ext.al wr (.cells #[.string dn, .bool cd, .slice Ax xs.length cx] 53)
          have HNa := Lib.hid (heapNew wr (.cells #[.string dn, .bool cd, .slice Ax xs.length cx] 53))
          have HEa := Lib.hid ((HE2.out.tr HEc.out).tr hEa)
          have HKDa := Lib.hid (HKD.out.ext hEa)
          have HKXa : Hid (KXtors (wr.alloc (.cells #[.string dn, .bool cd, .slice Ax xs.length cx] 53)) (.slice Ax xs.length cx) xs) := by
            have h1 := HKX.out.ext hEa
            exact ⟨vas, h1.len, row_base h1.row, h1.args⟩
          have hrow : Hid (World.ownsRow (wr.alloc (.cells #[.string dn, .bool cd, .slice Ax xs.length cx] 53)) w.heap.size 53 3 (.slice Ao k co) k (dcCells (l.take k) vxs)) := by
            have h1 := HKDa.out.row
            rw [hlk] at h1
            exact h1
          obtain ⟨i0, hi, hz0, hz1, hz2⟩ := info_parts Tryd.info48
          have HI := Lib.hid hi; have HZ0 := Lib.hid hz0; have HZ1 := Lib.hid hz1; have HZ2 := Lib.hid hz2
          clear hi hz0 hz1 hz2 hEa
          go_wp2_with (at_builtin; refine wpList_append_own_at _ rfl (.tmp 32) (.tmp 39) 22 rfl w.heap.size 53 i0 (.agg #[.string ⟨#[]⟩, .bool false, .slice none 0 0]) 3 48 Tryd.uu22 HI.out HZ0.out HZ1.out HZ2.out rfl (by decide) (.slice Ao k co) k (dcCells (l.take k) vxs) rfl hrow.out ⟨wr.heap.size, 0, none⟩ 1 1 [.string dn, .bool cd, .slice Ax xs.length cx] rfl rfl ?c1 ?c2 ?c3 ?c4 ?c5 ?_)
          case c1 =>
            intro j u hj
            match j, hj with
            | 0, hj => cases hj; rw [add_at]; exact cellAt HNa.out 0
            | 1, hj => cases hj; rw [add_at]; exact cellAt HNa.out 1
            | 2, hj => cases hj; rw [add_at]; exact cellAt HNa.out 2
          case c2 =>
            intro u hu
            simp only [List.mem_cons, List.not_mem_nil, or_false] at hu
            rcases hu with rfl | rfl | rfl <;> rfl
          case c3 => unfold maxLen; omega
          case c4 => omega
          case c5 => exact HEa.out.size
          intro vo' w9 hown9 hg9 _ _
          have HG9 := Lib.hid hg9; have HO9 := Lib.hid hown9
          clear hg9 hown9
          go_wp2
          go_roundw
          case rel =>
            refine ⟨k + 1, vxs ++ [.slice Ax xs.length cx], by omega, by go_num, ?_, HEa.out.grown HG9.out HEa.out.size (fun g e => (row_lt hrow.out g e).1)⟩
            rw [HTK.out]
            have h1 := HKDa.out
            rw [hlk] at h1
            exact h1.snoc HG9.out (by rw [hlk]; exact HO9.out) HKXa.out
          case measure => simp [intOf]; omega
    · have hke : k = l.length := by omega
      subst hke
      rw [List.take_length] at HK ⊢
      go_wp2
      go_ret
      exact ⟨⟨_, vxs, rfl, HK.out⟩, HE.out⟩
end Go.Proofs.YtkdhhcidpklgoaaDoor
