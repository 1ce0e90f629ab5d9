/- Copies of declarations: rows that the call owns. -/
import Derived.Test.YtoopngnmdgcklaaFind
namespace Go.Proofs.Ytoopngnmdgcklaa
open Go.RowKit

def argCells : List Arg → List Value
  | [] => []
  | a :: r => .int .i64 a.ty :: .bool a.co :: argCells r
def xtCells : List Xtor → List Value → List Value
  | x :: r, va :: q => .string x.name :: va :: xtCells r q
  | _, _ => []
def dcCells : List Decl → List Value → List Value
  | d :: r, vx :: q => .string d.name :: .bool d.codata :: vx :: dcCells r q
  | _, _ => []
theorem argCells_len : ∀ l, (argCells l).length = l.length * 2
  | [] => rfl
  | a :: r => by have := argCells_len r; simp [argCells]; omega
theorem argCells_at : ∀ (l : List Arg) (i : Nat) (a : Arg), l[i]? = some a → (argCells l)[i * 2]? = some (.int .i64 a.ty) ∧ (argCells l)[i * 2 + 1]? = some (.bool a.co)
  | b :: r, 0, a, h => by
    obtain rfl := Option.some.inj h
    exact ⟨rfl, rfl⟩
  | b :: r, i + 1, a, h => by
    have := argCells_at r i a h
    rw [show (i + 1) * 2 = i * 2 + 1 + 1 by omega]
    exact this
theorem xtCells_len : ∀ (l : List Xtor) (vs : List Value), vs.length = l.length → (xtCells l vs).length = l.length * 2
  | [], _, _ => rfl
  | x :: r, [], h => by simp at h
  | x :: r, v :: q, h => by have := xtCells_len r q (by simpa using h); simp [xtCells]; omega
theorem xtCells_at : ∀ (l : List Xtor) (vs : List Value), vs.length = l.length → ∀ (i : Nat) (x : Xtor) (v : Value), l[i]? = some x → vs[i]? = some v → (xtCells l vs)[i * 2]? = some (.string x.name) ∧ (xtCells l vs)[i * 2 + 1]? = some v
  | [], _, _, i, x, v, h, _ => by simp at h
  | y :: r, [], hl, i, x, v, _, h => by simp at h
  | y :: r, u :: q, hl, 0, x, v, h, h' => by
    obtain rfl := Option.some.inj h
    obtain rfl := Option.some.inj h'
    exact ⟨rfl, rfl⟩
  | y :: r, u :: q, hl, i + 1, x, v, h, h' => by
    have := xtCells_at r q (by simpa using hl) i x v h h'
    rw [show (i + 1) * 2 = i * 2 + 1 + 1 by omega]
    exact this
theorem xtCells_snoc : ∀ (l : List Xtor) (vs : List Value) (x : Xtor) (v : Value), vs.length = l.length → xtCells (l ++ [x]) (vs ++ [v]) = xtCells l vs ++ [.string x.name, v]
  | [], [], x, v, _ => rfl
  | [], _ :: _, x, v, h => by simp at h
  | y :: r, [], x, v, h => by simp at h
  | y :: r, u :: q, x, v, h => by
    have := xtCells_snoc r q x v (by simpa using h)
    show .string y.name :: u :: xtCells (r ++ [x]) (q ++ [v]) = _
    rw [this]; rfl
theorem dcCells_len : ∀ (l : List Decl) (vs : List Value), vs.length = l.length → (dcCells l vs).length = l.length * 3
  | [], _, _ => rfl
  | x :: r, [], h => by simp at h
  | x :: r, v :: q, h => by have := dcCells_len r q (by simpa using h); simp [dcCells]; omega
theorem dcCells_at : ∀ (l : List Decl) (vs : List Value), vs.length = l.length → ∀ (i : Nat) (d : Decl) (v : Value), l[i]? = some d → vs[i]? = some v → (dcCells l vs)[i * 3]? = some (.string d.name) ∧ (dcCells l vs)[i * 3 + 1]? = some (.bool d.codata) ∧ (dcCells l vs)[i * 3 + 2]? = some v
  | [], _, _, i, x, v, h, _ => by simp at h
  | y :: r, [], hl, i, x, v, _, h => by simp at h
  | y :: r, u :: q, hl, 0, x, v, h, h' => by
    obtain rfl := Option.some.inj h
    obtain rfl := Option.some.inj h'
    exact ⟨rfl, rfl, rfl⟩
  | y :: r, u :: q, hl, i + 1, x, v, h, h' => by
    have := dcCells_at r q (by simpa using hl) i x v h h'
    rw [show (i + 1) * 3 = i * 3 + 1 + 1 + 1 by omega]
    exact this
theorem dcCells_snoc : ∀ (l : List Decl) (vs : List Value) (d : Decl) (v : Value), vs.length = l.length → dcCells (l ++ [d]) (vs ++ [v]) = dcCells l vs ++ [.string d.name, .bool d.codata, v]
  | [], [], x, v, _ => rfl
  | [], _ :: _, x, v, h => by simp at h
  | y :: r, [], x, v, h => by simp at h
  | y :: r, u :: q, x, v, h => by
    have := dcCells_snoc r q x v (by simpa using h)
    show .string y.name :: .bool y.codata :: u :: dcCells (r ++ [x]) (q ++ [v]) = _
    rw [this]; rfl

/-! ### rows that are owned -/
section
variable {w w' : World} {B e size n : Nat} {v : Value} {xs : List Value}
theorem row_at (h : w.ownsRow B e size v n xs) (hk : ∀ g cur, v.ownBlock = some g → w.heap[g]? = some (.cells cur e (0, 0)) → w'.heap[g]? = w.heap[g]?) : w'.ownsRow B e size v n xs := by
  obtain ⟨h1, h2⟩ := h
  refine ⟨h1, ?_⟩
  rcases h2 with h2 | ⟨g, cap, cur, rfl, e2, e3, e4⟩
  · exact .inl h2
  · exact .inr ⟨g, cap, cur, rfl, e2, (hk g cur rfl e3).trans e3, e4⟩
theorem row_ext (h : w.ownsRow B e size v n xs) (hb : Ext w w') : w'.ownsRow B e size v n xs := row_at h fun g _ _ hc => hb.block g (heap_lt hc)
theorem row_base (h : w.ownsRow B e size v n xs) : w.ownsRow 0 e size v n xs := by
  obtain ⟨h1, h2⟩ := h
  refine ⟨h1, ?_⟩
  rcases h2 with h2 | ⟨g, cap, cur, rfl, e2, e3, e4⟩
  · exact .inl h2
  · exact .inr ⟨g, cap, cur, rfl, Nat.zero_le _, e3, e4⟩
/-- Behind an append to another row. -/
theorem row_other {B' e' size' n' : Nat} {v' : Value} {ys : List Value} (h : w.ownsRow B e size v n xs) (hr : w.ownsRow B' e' size' v' n' ys) (hne : e ≠ e') (hg : w.grownBy w' v'.ownBlock) : w'.ownsRow B e size v n xs := row_at h fun g cur _ hc => by
  refine hg.block g (heap_lt hc) fun e' => ?_
  rcases hr.2 with ⟨rfl, _⟩ | ⟨g', cap, cur', rfl, _, hh, _⟩
  · simp [Value.ownBlock] at e'
  · have : g' = g := by simpa [Value.ownBlock] using e'.symm
    subst this
    rw [hc] at hh
    injection hh with hh
    injection hh with _ ht
    exact hne ht
theorem row_form (h : w.ownsRow B e size v n xs) : ∃ A c, v = .slice A n c ∧ n ≤ c ∧ c ≤ maxLen ∧ ∀ j u, xs[j]? = some u → ∃ g, A = some ⟨g, 0, none⟩ ∧ g < w.heap.size ∧ w.cell? ⟨g, j, none⟩ = some u := by
  have hc := @World.ownsRow.cells w B e size v n xs h
  rcases h.2 with ⟨rfl, rfl⟩ | ⟨g, cap, cur, rfl, _, hh, hn, hm, _⟩
  · refine ⟨none, 0, rfl, Nat.le_refl _, Nat.zero_le _, fun j u hu => ?_⟩
    have h1 := h.1
    have : xs = [] := List.eq_nil_of_length_eq_zero (by omega)
    subst this
    simp at hu
  · refine ⟨_, cap, rfl, hn, hm, fun j u hu => ⟨g, rfl, heap_lt hh, ?_⟩⟩
    have := hc rfl j u hu
    have e : (⟨g, 0, none⟩ : Addr).add j = ⟨g, j, none⟩ := by unfold Addr.add; split <;> simp_all
    rw [e] at this
    exact this
end
def KArgs (w : World) (v : Value) (l : List Arg) : Prop := w.ownsRow 0 50 2 v l.length (argCells l)
structure KX (w : World) (B : Nat) (v : Value) (l : List Xtor) (vas : List Value) : Prop where
  len : vas.length = l.length
  row : w.ownsRow B 45 2 v l.length (xtCells l vas)
  args : ∀ (i : Nat) va x, vas[i]? = some va → l[i]? = some x → KArgs w va x.args
def KXtors (w : World) (v : Value) (l : List Xtor) : Prop := ∃ vas, KX w 0 v l vas
structure KD (w : World) (B : Nat) (v : Value) (l : List Decl) (vxs : List Value) : Prop where
  len : vxs.length = l.length
  row : w.ownsRow B 48 3 v l.length (dcCells l vxs)
  xtors : ∀ (i : Nat) vx d, vxs[i]? = some vx → l[i]? = some d → KXtors w vx d.xtors
section
variable {w w' : World} {B : Nat} {v : Value}
theorem KX.ext {l : List Xtor} {vas : List Value} (h : KX w B v l vas) (hb : Ext w w') : KX w' B v l vas := ⟨h.len, row_ext h.row hb, fun i va x a b => row_ext (h.args i va x a b) hb⟩
theorem KXtors.ext {l : List Xtor} (h : KXtors w v l) (hb : Ext w w') : KXtors w' v l := h.elim fun vas h => ⟨vas, h.ext hb⟩
theorem KD.ext {l : List Decl} {vxs : List Value} (h : KD w B v l vxs) (hb : Ext w w') : KD w' B v l vxs := ⟨h.len, row_ext h.row hb, fun i vx d a b => (h.xtors i vx d a b).ext hb⟩
/-- Behind an append to a row of another type. -/
theorem KXtors.other {l : List Xtor} (h : KXtors w v l) {B' size' n' : Nat} {v' : Value} {ys : List Value} (hr : w.ownsRow B' 48 size' v' n' ys) (hg : w.grownBy w' v'.ownBlock) : KXtors w' v l := by
  obtain ⟨vas, h⟩ := h
  exact ⟨vas, h.len, row_other h.row hr (by decide) hg, fun i va x a b => row_other (h.args i va x a b) hr (by decide) hg⟩
theorem KArgs.reads {l : List Arg} (h : KArgs w v l) : RArgs w v l := by
  obtain ⟨A, c, rfl, h1, h2, h3⟩ := row_form h
  refine ⟨A, c, rfl, h1, h2, fun i a hi => ?_⟩
  obtain ⟨e1, e2⟩ := argCells_at l i a hi
  obtain ⟨g, rfl, hl, c1⟩ := h3 _ _ e1
  obtain ⟨g', hg', _, c2⟩ := h3 _ _ e2
  cases hg'
  exact ⟨g, 0, rfl, hl, by rw [Nat.zero_add]; exact c1, by rw [Nat.zero_add]; exact c2⟩
theorem KXtors.reads {l : List Xtor} (h : KXtors w v l) (hs : ∀ x ∈ l, x.name.size ≤ maxLen) : RXtors w v l := by
  obtain ⟨vas, h⟩ := h
  obtain ⟨A, c, rfl, h1, h2, h3⟩ := row_form h.row
  refine ⟨A, c, rfl, h1, h2, fun i x hi => ?_⟩
  have hil : i < vas.length := by rw [h.len]; exact (List.getElem?_eq_some_iff.1 hi).1
  have hv := List.getElem?_eq_getElem hil
  obtain ⟨e1, e2⟩ := xtCells_at l vas h.len i x _ hi hv
  obtain ⟨g, rfl, hl, c1⟩ := h3 _ _ e1
  obtain ⟨g', hg', _, c2⟩ := h3 _ _ e2
  cases hg'
  exact ⟨g, 0, vas[i], rfl, hl, by rw [Nat.zero_add]; exact c1, by rw [Nat.zero_add]; exact c2, (h.args i _ x hv hi).reads, hs x (List.mem_of_getElem? hi)⟩
theorem KD.reads {l : List Decl} {vxs : List Value} (h : KD w B v l vxs) (hs : ∀ d ∈ l, d.name.size ≤ maxLen ∧ ∀ x ∈ d.xtors, x.name.size ≤ maxLen) : RDecls w v l := by
  obtain ⟨A, c, rfl, h1, h2, h3⟩ := row_form h.row
  refine ⟨A, c, rfl, h1, h2, fun i d hi => ?_⟩
  have hil : i < vxs.length := by rw [h.len]; exact (List.getElem?_eq_some_iff.1 hi).1
  have hv := List.getElem?_eq_getElem hil
  obtain ⟨e1, e2, e3⟩ := dcCells_at l vxs h.len i d _ hi hv
  obtain ⟨g, rfl, hl, c1⟩ := h3 _ _ e1
  obtain ⟨g', hg', _, c2⟩ := h3 _ _ e2
  cases hg'
  obtain ⟨g', hg', _, c3⟩ := h3 _ _ e3
  cases hg'
  have hd := hs d (List.mem_of_getElem? hi)
  exact ⟨g, 0, vxs[i], rfl, hl, by rw [Nat.zero_add]; exact c1, by rw [Nat.zero_add]; exact c2, by rw [Nat.zero_add]; exact c3, (h.xtors i _ d hv hi).reads hd.2, hd.1⟩
theorem sizes_x {l : List Xtor} (h : RXtors w v l) : ∀ x ∈ l, x.name.size ≤ maxLen := by
  intro x hx
  obtain ⟨i, hi⟩ := List.mem_iff_getElem?.1 hx
  obtain ⟨A, c, _, _, _, h3⟩ := h
  obtain ⟨_, _, _, _, _, _, _, _, hs⟩ := h3 i x hi
  exact hs
theorem sizes_d {l : List Decl} (h : RDecls w v l) : ∀ d ∈ l, d.name.size ≤ maxLen ∧ ∀ x ∈ d.xtors, x.name.size ≤ maxLen := by
  intro d hd
  obtain ⟨i, hi⟩ := List.mem_iff_getElem?.1 hd
  obtain ⟨A, c, _, _, _, h3⟩ := h
  obtain ⟨_, _, _, _, _, _, _, _, hx, hs⟩ := h3 i d hi
  exact ⟨hs, sizes_x hx⟩
end

/-! ### append, whatever the element -/
theorem run_append_nil {w : World} {base : Nat} {t ty e : TypeId} {i : TypeInfo} {size c : Nat} (ht : Try.prog.underlying t = some (.slice e)) (hi : Try.prog.info? e = some i) {v : Value} {n : Nat} {xs : List Value} (hown : w.ownsRow base e size v n xs) :
    (Builtin.append_ #[t, t] ty #[v, .slice none 0 c]).run Try.prog w = .ok v w := by
  rcases hown.2 with ⟨rfl, rfl⟩ | ⟨g, cap, cur, rfl, _, _, hnc, _⟩
  · simp [Builtin.append_, run_underlying ht, sizeOf, typeInfo, hi, Builtin.lenOf, Builtin.firstCells]
  · simp [Builtin.append_, run_underlying ht, sizeOf, typeInfo, hi, Builtin.lenOf, Builtin.firstCells, hnc, storeCells]
def SrcN (w : World) (A : Option Addr) (m size : Nat) (news : List Value) : Prop :=
  (A = none ∧ m = 0 ∧ news = []) ∨ ∃ ad, A = some ad ∧ news.length = m * size ∧ ∀ (j : Nat) u, news[j]? = some u → w.cell? (ad.add j) = some u
theorem app_row {t e size bytes : Nat} {z : Value} (hu : Try.prog.underlying t = some (.slice e)) (hinf : (Try.prog.info? e).map (fun i => (i.zero, i.size, i.bytes)) = some (some z, size, bytes)) (hzs : z.cells.size = size) (hsz : 0 < size)
    {w : World} {o : Oper} {a : Act} {K : Act → World → Prop} {Q : Exit → Act → World → Prop} (s x : Operand)
    (ho : o.op = .call { callee := .builtin .append, args := #[s, x], argTypes := #[t, t] })
    (B : Nat) (v : Value) (n : Nat) (xs : List Value) (hs : a.eval s = v) (hown : w.ownsRow B e size v n xs)
    (A : Option Addr) (m c : Nat) (news : List Value) (hx : a.eval x = .slice A m c) (hsrc : SrcN w A m size news) (h1 : ∀ u ∈ news, u.oneCell' = true)
    (hnm : n + m ≤ maxLen) (hby : (n + m) * bytes ≤ 140737488355328) (hB : B ≤ w.heap.size)
    (h : ∀ v' w', w'.ownsRow B e size v' (n + m) (xs ++ news) → w.grownBy w' v.ownBlock → (v'.ownBlock = v.ownBlock ∨ v'.ownBlock = some w.heap.size) → K (a.put o.dst v') w') : o.wp Try.prog a w K Q := by
  obtain ⟨i0, hi1, hz0, hz1, hz2⟩ := info_parts hinf
  rcases hsrc with ⟨rfl, rfl, rfl⟩ | ⟨ad, rfl, hl, hc⟩
  · have hr := run_append_nil (c := c) (ty := o.type) hu hi1 hown
    have hk := h v w (by simpa using hown) (World.grownBy.refl w _) (.inl rfl)
    unfold Oper.wp execOp
    simp only [ho, resolve, invoke, builtin, Sem.run_bind, Sem.run_pure, Result.andThen_ok, List.map_toArray, List.map_cons, List.map_nil, hs, hx, hr]
    exact hk
  · obtain ⟨v', w', hr, h2, h3, _, h5⟩ := run_append_own_at (P := Try.prog) w B t o.type e i0 z size bytes hu hi1 hz0 hz1 hz2 hzs hsz v n xs hown ad m c news hl hc h1 hnm hby hB
    unfold Oper.wp execOp
    simp only [ho, resolve, invoke, builtin, Sem.run_bind, Sem.run_pure, Result.andThen_ok, List.map_toArray, List.map_cons, List.map_nil, hs, hx, hr]
    exact h v' w' h2 h3 h5
theorem Try.info50 : (Try.prog.info? 50).map (fun i => (i.zero, i.size, i.bytes)) = some (some (.agg #[.int .i64 0, .bool false]), 2, 16) := by kernel_rfl
theorem Try.info45 : (Try.prog.info? 45).map (fun i => (i.zero, i.size, i.bytes)) = some (some (.agg #[.string ⟨#[]⟩, .slice none 0 0]), 2, 40) := by kernel_rfl
theorem Try.info48 : (Try.prog.info? 48).map (fun i => (i.zero, i.size, i.bytes)) = some (some (.agg #[.string ⟨#[]⟩, .bool false, .slice none 0 0]), 3, 48) := by kernel_rfl
theorem Try.uu43 : Try.prog.underlying 43 = some (.slice 50) := by kernel_rfl
theorem Try.uu46 : Try.prog.underlying 46 = some (.slice 45) := by kernel_rfl
theorem Try.uu22 : Try.prog.underlying 22 = some (.slice 48) := by kernel_rfl
theorem argCells_get : ∀ (l : List Arg) (j : Nat) (u : Value), (argCells l)[j]? = some u → ∃ i a, l[i]? = some a ∧ ((j = i * 2 ∧ u = .int .i64 a.ty) ∨ (j = i * 2 + 1 ∧ u = .bool a.co))
  | [], j, u, h => by simp [argCells] at h
  | a :: r, 0, u, h => ⟨0, a, rfl, .inl ⟨rfl, (Option.some.inj h).symm⟩⟩
  | a :: r, 1, u, h => ⟨0, a, rfl, .inr ⟨rfl, (Option.some.inj h).symm⟩⟩
  | a :: r, j + 2, u, h => by
    obtain ⟨i, b, hi, hj⟩ := argCells_get r j u h
    refine ⟨i + 1, b, hi, ?_⟩
    rcases hj with ⟨rfl, hu⟩ | ⟨rfl, hu⟩
    · exact .inl ⟨by omega, hu⟩
    · exact .inr ⟨by omega, hu⟩
theorem add_at (b o k : Nat) : (⟨b, o, none⟩ : Addr).add k = ⟨b, o + k, none⟩ := by
  by_cases hk : k = 0 <;> simp [Addr.add, hk]
theorem RArgs.src {w : World} {A : Option Addr} {c : Nat} {l : List Arg} (h : RArgs w (.slice A l.length c) l) : SrcN w A l.length 2 (argCells l) := by
  obtain ⟨A', c', he, h1, h2, h3⟩ := h
  cases he
  cases A with
  | none =>
    cases l with
    | nil => exact .inl ⟨rfl, rfl, rfl⟩
    | cons a r =>
      obtain ⟨_, _, hA, _⟩ := h3 0 a rfl
      cases hA
  | some ad =>
    refine .inr ⟨ad, rfl, argCells_len l, fun j u hu => ?_⟩
    obtain ⟨i, a, hi, hj⟩ := argCells_get l j u hu
    obtain ⟨b, o, hA, _, c0, c1⟩ := h3 i a hi
    cases hA
    rcases hj with ⟨rfl, rfl⟩ | ⟨rfl, rfl⟩
    · rw [add_at]; exact c0
    · rw [add_at]; exact c1
theorem argCells_one (l : List Arg) : ∀ u ∈ argCells l, u.oneCell' = true := by
  intro u hu
  obtain ⟨j, hj⟩ := List.mem_iff_getElem?.1 hu
  obtain ⟨i, a, _, h⟩ := argCells_get l j u hj
  rcases h with ⟨_, rfl⟩ | ⟨_, rfl⟩ <;> rfl
end Go.Proofs.Ytoopngnmdgcklaa
