/- Memory seen through a mask; rows of nodes and of branches that a copy owns. -/
import Derived.Test.YtkdhhcidpklgoaaDoorQ20
namespace Go.Proofs.YtkdhhcidpklgoaaDoor
open Go.RowKit

/-- What reads in the first reads in the second. -/
structure Sub (w w' : World) : Prop where
  size : w.heap.size ≤ w'.heap.size
  cell : ∀ p v, w.cell? p = some v → w'.cell? p = some v
/-- The world with nothing but the blocks from B on that are not g. -/
def mask (B : Nat) (g : Option Nat) (w : World) : World := { w with heap := w.heap.mapIdx fun i o => if B ≤ i ∧ some i ≠ g then o else .cells #[] 0 (0, 0) }
theorem mask_size (B : Nat) (g : Option Nat) (w : World) : (mask B g w).heap.size = w.heap.size := Array.size_mapIdx ..
theorem mask_in {B : Nat} {g : Option Nat} {w : World} {k : Nat} (h : B ≤ k ∧ some k ≠ g) : (mask B g w).heap[k]? = w.heap[k]? := by
  show (w.heap.mapIdx _)[k]? = _
  rw [Array.getElem?_mapIdx]
  simp only [if_pos h]
  cases w.heap[k]? <;> rfl
theorem mask_out {B : Nat} {g : Option Nat} {w : World} {p : Addr} (h : ¬ (B ≤ p.block ∧ some p.block ≠ g)) : (mask B g w).cell? p = none := by
  unfold World.cell?
  have e : (mask B g w).heap[p.block]? = w.heap[p.block]?.map fun _ => .cells #[] 0 (0, 0) := by
    show (w.heap.mapIdx _)[p.block]? = _
    rw [Array.getElem?_mapIdx]
    simp only [if_neg h]
  rw [e]
  cases w.heap[p.block]? with
  | none => rfl
  | some o => simp
theorem mask_cell {B : Nat} {g : Option Nat} {w : World} {p : Addr} {v : Value} (h : (mask B g w).cell? p = some v) : (B ≤ p.block ∧ some p.block ≠ g) ∧ w.cell? p = some v := by
  by_cases hk : B ≤ p.block ∧ some p.block ≠ g
  · refine ⟨hk, ?_⟩
    unfold World.cell? at h ⊢
    rw [mask_in hk] at h
    exact h
  · rw [mask_out hk] at h; cases h
theorem Sub.rf (w : World) : Sub w w := ⟨Nat.le_refl _, fun _ _ h => h⟩
theorem Sub.tr {a b c : World} (h : Sub a b) (k : Sub b c) : Sub a c := ⟨Nat.le_trans h.size k.size, fun p v e => k.cell p v (h.cell p v e)⟩
theorem Sub.ext {a b : World} (h : Ext a b) : Sub a b := ⟨h.size, fun _ _ e => h.keep e⟩
theorem Sub.masks {B B' : Nat} {g g' : Option Nat} {w w' : World} (hs : w.heap.size ≤ w'.heap.size) (h : ∀ k, k < w.heap.size → B ≤ k → some k ≠ g → (B' ≤ k ∧ some k ≠ g') ∧ w'.heap[k]? = w.heap[k]?) : Sub (mask B g w) (mask B' g' w') := by
  refine ⟨by rw [mask_size, mask_size]; exact hs, fun p v e => ?_⟩
  obtain ⟨⟨h1, h2⟩, h3⟩ := mask_cell e
  obtain ⟨h4, h5⟩ := h p.block (cell_lt h3) h1 h2
  have h6 : (mask B' g' w').heap[p.block]? = w.heap[p.block]? := (mask_in h4).trans h5
  rw [World.cell?_of_block h6]; exact h3
theorem row_mask {w : World} {B e size n : Nat} {v : Value} {xs : List Value} (h : w.ownsRow B e size v n xs) : (mask B none w).ownsRow B e size v n xs := by
  obtain ⟨h1, h2⟩ := h
  refine ⟨h1, ?_⟩
  rcases h2 with h2 | ⟨g, cap, cur, rfl, e2, e3, e4⟩
  · exact .inl h2
  · exact .inr ⟨g, cap, cur, rfl, e2, (mask_in ⟨e2, by simp⟩).trans e3, e4⟩
section
variable {w w' : World} {v : Value}
theorem N5.sub {b o : Nat} {t : Nd} {va vb : Value} (h : N5 w b o t va vb) (hb : Sub w w') : N5 w' b o t va vb :=
  ⟨hb.cell _ _ h.c0, hb.cell _ _ h.c1, hb.cell _ _ h.c2, hb.cell _ _ h.c3, hb.cell _ _ h.c4⟩
theorem RInts.sub {l : List Int} (h : RInts w v l) (hb : Sub w w') : RInts w' v l := by
  obtain ⟨A, c, rfl, h1, h2, h3⟩ := h
  refine ⟨A, c, rfl, h1, h2, fun i a hi => ?_⟩
  obtain ⟨b, o, rfl, hlt, h4, h5⟩ := h3 i a hi
  exact ⟨b, o, rfl, Nat.lt_of_lt_of_le hlt hb.size, hb.cell _ _ h4, h5⟩
theorem RBools.sub {l : List Bool} (h : RBools w v l) (hb : Sub w w') : RBools w' v l := by
  obtain ⟨A, c, rfl, h1, h2, h3⟩ := h
  refine ⟨A, c, rfl, h1, h2, fun i a hi => ?_⟩
  obtain ⟨b, o, rfl, hlt, h4⟩ := h3 i a hi
  exact ⟨b, o, rfl, Nat.lt_of_lt_of_le hlt hb.size, hb.cell _ _ h4⟩
theorem RArgs.sub {l : List Arg} (h : RArgs w v l) (hb : Sub w w') : RArgs w' v l := by
  obtain ⟨A, c, rfl, h1, h2, h3⟩ := h
  refine ⟨A, c, rfl, h1, h2, fun i a hi => ?_⟩
  obtain ⟨b, o, rfl, hlt, h4, h5⟩ := h3 i a hi
  exact ⟨b, o, rfl, Nat.lt_of_lt_of_le hlt hb.size, hb.cell _ _ h4, hb.cell _ _ h5⟩
theorem RNd.sub (hb : Sub w w') : ∀ {k : Nat} {t : Nd} {va vb : Value}, RNd w k t va vb → RNd w' k t va vb
  | 0, _, _, _, h => h.elim
  | k + 1, t, va, vb, ⟨h0, ⟨A, c, e1, h1, h2, h3⟩, ⟨B, d, e2, h4, h5, h6⟩⟩ =>
    ⟨h0, ⟨A, c, e1, h1, h2, fun i x hi => by
      obtain ⟨b, o, xa, xb, e, hlt, hc, hr⟩ := h3 i x hi
      exact ⟨b, o, xa, xb, e, Nat.lt_of_lt_of_le hlt hb.size, hc.sub hb, hr.sub hb⟩⟩,
    ⟨B, d, e2, h4, h5, fun i x hi => by
      obtain ⟨b, o, vv, vc, xa, xb, e, hlt, hn, hs, hn2, hs2, hc, hr⟩ := h6 i x hi
      exact ⟨b, o, vv, vc, xa, xb, e, Nat.lt_of_lt_of_le hlt hb.size, hb.cell _ _ hn, hs.sub hb, hb.cell _ _ hn2, hs2.sub hb, hc.sub hb, hr.sub hb⟩⟩⟩
end
/-! ### rows of nodes -/
abbrev Rwn := Nd × Value × Value
def cells1N (x : Rwn) : List Value := [.int .i64 x.1.op, .int .i64 x.1.n, .int .i64 x.1.ty, x.2.1, x.2.2]
def cellsN : List Rwn → List Value
  | [] => []
  | x :: r => cells1N x ++ cellsN r
theorem cellsN_append (m : List Rwn) : ∀ l, cellsN (l ++ m) = cellsN l ++ cellsN m
  | [] => rfl
  | x :: r => by rw [List.cons_append, cellsN, cellsN, cellsN_append m r, List.append_assoc]
theorem cellsN_at : ∀ (l : List Rwn) (i r : Nat) (x : Rwn), l[i]? = some x → r < 5 → (cellsN l)[i * 5 + r]? = (cells1N x)[r]?
  | [], _, _, _, h, _ => by simp at h
  | y :: l, 0, r, x, h, hr => by
    simp at h; subst h
    rw [cellsN, List.getElem?_append_left (by simp [cells1N]; omega)]; simp
  | y :: l, i + 1, r, x, h, hr => by
    simp at h
    rw [cellsN, List.getElem?_append_right (by simp [cells1N]; omega), ← cellsN_at l i r x h hr]
    congr 1; simp [cells1N]; omega
def RNds (w : World) (k : Nat) (v : Value) (l : List Nd) : Prop :=
  ∃ A c, v = .slice A l.length c ∧ l.length ≤ c ∧ c ≤ maxLen ∧
    ∀ i x, l[i]? = some x → ∃ b o xa xb, A = some ⟨b, o, none⟩ ∧ b < w.heap.size ∧ N5 w b (o + i * 5) x xa xb ∧ RNd w k x xa xb
theorem RNds.sub {w w' : World} {k : Nat} {v : Value} {l : List Nd} (h : RNds w k v l) (hb : Sub w w') : RNds w' k v l := by
  obtain ⟨A, c, rfl, h1, h2, h3⟩ := h
  refine ⟨A, c, rfl, h1, h2, fun i x hi => ?_⟩
  obtain ⟨b, o, xa, xc, rfl, hlt, hc, hr⟩ := h3 i x hi
  exact ⟨b, o, xa, xc, rfl, Nat.lt_of_lt_of_le hlt hb.size, hc.sub hb, RNd.sub hb hr⟩
theorem own_RNds {w : World} {B k : Nat} {v : Value} {L : List Rwn} (h : w.ownsRow B 31 5 v L.length (cellsN L)) (hr : ∀ x ∈ L, RNd w k x.1 x.2.1 x.2.2) : RNds w k v (L.map (·.1)) := by
  rcases h.2 with ⟨rfl, h0⟩ | ⟨g, cap, cur, rfl, e2, e3, e4, e5, e6, e7⟩
  · have hL : L = [] := List.eq_nil_of_length_eq_zero h0
    subst hL
    exact ⟨none, 0, rfl, Nat.le_refl _, Nat.zero_le _, fun i x hx => by simp at hx⟩
  · refine ⟨_, cap, by rw [List.length_map], by rw [List.length_map]; exact e4, e5, fun i x hx => ?_⟩
    rw [List.getElem?_map] at hx
    obtain ⟨y, hy, rfl⟩ := Option.map_eq_some_iff.1 hx
    have hi : i < L.length := (List.getElem?_eq_some_iff.1 hy).1
    have hc : ∀ r u, r < 5 → (cells1N y)[r]? = some u → w.cell? ⟨g, i * 5 + r, none⟩ = some u := fun r u hr6 hu => by
      have h1 := cellsN_at L i r y hy hr6
      rw [World.ownsRow.cellAt h (i * 5 + r) (by omega), h1]; exact hu
    exact ⟨g, 0, y.2.1, y.2.2, rfl, (Array.getElem?_eq_some_iff.1 e3).1, by
      rw [Nat.zero_add]
      exact ⟨hc 0 _ (by omega) rfl, hc 1 _ (by omega) rfl, hc 2 _ (by omega) rfl, hc 3 _ (by omega) rfl, hc 4 _ (by omega) rfl⟩, hr y (List.mem_of_getElem? hy)⟩
theorem cellsN_one {w : World} {k : Nat} (L : List Rwn) (h : ∀ x ∈ L, RNd w k x.1 x.2.1 x.2.2) : ∀ u ∈ cellsN L, u.oneCell' = true := by
  induction L with
  | nil => intro u hu; cases hu
  | cons x r ih =>
    intro u hu
    rw [cellsN] at hu
    rcases List.mem_append.1 hu with hu | hu
    · obtain ⟨_, ⟨_, _, e1, _⟩, ⟨_, _, e2, _⟩⟩ := (h x (List.mem_cons_self ..)).form
      simp only [cells1N, e1, e2, List.mem_cons, List.not_mem_nil, or_false] at hu
      rcases hu with rfl | rfl | rfl | rfl | rfl <;> rfl
    · exact ih (fun y hy => h y (List.mem_cons_of_mem _ hy)) u hu
theorem SrcN.oneN {w : World} {b : Nat} {x : Rwn} (h : w.heap[b]? = some (.cells #[.int .i64 x.1.op, .int .i64 x.1.n, .int .i64 x.1.ty, x.2.1, x.2.2] 31 (0, 0))) : SrcN w (some ⟨b, 0, none⟩) 1 5 (cellsN [x]) := by
  refine .inr ⟨_, rfl, by simp [cellsN, cells1N], fun j u hu => ?_⟩
  have hj : j < 5 := by have := (List.getElem?_eq_some_iff.1 hu).1; simpa [cellsN, cells1N] using this
  rw [add_at, Nat.zero_add]
  match j, hj with
  | 0, _ => exact cellAt h 0 hu
  | 1, _ => exact cellAt h 1 hu
  | 2, _ => exact cellAt h 2 hu
  | 3, _ => exact cellAt h 3 hu
  | 4, _ => exact cellAt h 4 hu
/-! ### rows of branches -/
abbrev Rwb := Br × Value × Value × Value × Value
def cells1B (x : Rwb) : List Value := [x.2.1, x.2.2.1, .int .i64 x.1.2.2.op, .int .i64 x.1.2.2.n, .int .i64 x.1.2.2.ty, x.2.2.2.1, x.2.2.2.2]
def cellsB : List Rwb → List Value
  | [] => []
  | x :: r => cells1B x ++ cellsB r
theorem cellsB_append (m : List Rwb) : ∀ l, cellsB (l ++ m) = cellsB l ++ cellsB m
  | [] => rfl
  | x :: r => by rw [List.cons_append, cellsB, cellsB, cellsB_append m r, List.append_assoc]
theorem cellsB_at : ∀ (l : List Rwb) (i r : Nat) (x : Rwb), l[i]? = some x → r < 7 → (cellsB l)[i * 7 + r]? = (cells1B x)[r]?
  | [], _, _, _, h, _ => by simp at h
  | y :: l, 0, r, x, h, hr => by
    simp at h; subst h
    rw [cellsB, List.getElem?_append_left (by simp [cells1B]; omega)]; simp
  | y :: l, i + 1, r, x, h, hr => by
    simp at h
    rw [cellsB, List.getElem?_append_right (by simp [cells1B]; omega), ← cellsB_at l i r x h hr]
    congr 1; simp [cells1B]; omega
def OkB (w : World) (k : Nat) (x : Rwb) : Prop := RInts w x.2.1 x.1.1 ∧ RBools w x.2.2.1 x.1.2.1 ∧ RNd w k x.1.2.2 x.2.2.2.1 x.2.2.2.2
theorem OkB.sub {w w' : World} {k : Nat} {x : Rwb} (h : OkB w k x) (hb : Sub w w') : OkB w' k x := ⟨h.1.sub hb, h.2.1.sub hb, RNd.sub hb h.2.2⟩
theorem own_RBrs {w : World} {B k : Nat} {v : Value} {L : List Rwb} (h : w.ownsRow B 58 7 v L.length (cellsB L)) (hr : ∀ x ∈ L, OkB w k x) : RBrs w v k (L.map (·.1)) := by
  rcases h.2 with ⟨rfl, h0⟩ | ⟨g, cap, cur, rfl, e2, e3, e4, e5, e6, e7⟩
  · have hL : L = [] := List.eq_nil_of_length_eq_zero h0
    subst hL
    exact ⟨none, 0, rfl, Nat.le_refl _, Nat.zero_le _, fun i x hx => by simp at hx⟩
  · refine ⟨_, cap, by rw [List.length_map], by rw [List.length_map]; exact e4, e5, fun i x hx => ?_⟩
    rw [List.getElem?_map] at hx
    obtain ⟨y, hy, rfl⟩ := Option.map_eq_some_iff.1 hx
    have hi : i < L.length := (List.getElem?_eq_some_iff.1 hy).1
    have hc : ∀ r u, r < 7 → (cells1B y)[r]? = some u → w.cell? ⟨g, i * 7 + r, none⟩ = some u := fun r u hr6 hu => by
      have h1 := cellsB_at L i r y hy hr6
      rw [World.ownsRow.cellAt h (i * 7 + r) (by omega), h1]; exact hu
    obtain ⟨h2, h3, h4⟩ := hr y (List.mem_of_getElem? hy)
    exact ⟨g, 0, y.2.1, y.2.2.1, y.2.2.2.1, y.2.2.2.2, rfl, (Array.getElem?_eq_some_iff.1 e3).1, by rw [Nat.zero_add]; exact hc 0 _ (by omega) rfl, h2, by rw [Nat.zero_add]; exact hc 1 _ (by omega) rfl, h3, by
      rw [Nat.zero_add]
      exact ⟨hc 2 _ (by omega) rfl, hc 3 _ (by omega) rfl, hc 4 _ (by omega) rfl, hc 5 _ (by omega) rfl, hc 6 _ (by omega) rfl⟩, h4⟩
theorem RBrs.sub {w w' : World} {k : Nat} {v : Value} {l : List Br} (h : RBrs w v k l) (hb : Sub w w') : RBrs w' v k l := by
  obtain ⟨A, c, rfl, h1, h2, h3⟩ := h
  refine ⟨A, c, rfl, h1, h2, fun i x hi => ?_⟩
  obtain ⟨b, o, vv, vc, xa, xb, rfl, hlt, hn, hs, hn2, hs2, hc, hr⟩ := h3 i x hi
  exact ⟨b, o, vv, vc, xa, xb, rfl, Nat.lt_of_lt_of_le hlt hb.size, hb.cell _ _ hn, hs.sub hb, hb.cell _ _ hn2, hs2.sub hb, hc.sub hb, RNd.sub hb hr⟩
/-- The two rows make the node. -/
theorem RNd.make {w : World} {k : Nat} {t : Nd} {va vb : Value} (h0 : ok64 t.op ∧ ok64 t.n ∧ ok64 t.ty) (h1 : RNds w k va t.args) (h2 : RBrs w vb k t.brs) : RNd w (k + 1) t va vb := ⟨h0, h1, h2⟩
theorem SrcN.oneB {w : World} {b : Nat} {x : Rwb} (h : w.heap[b]? = some (.cells #[x.2.1, x.2.2.1, .int .i64 x.1.2.2.op, .int .i64 x.1.2.2.n, .int .i64 x.1.2.2.ty, x.2.2.2.1, x.2.2.2.2] 58 (0, 0))) : SrcN w (some ⟨b, 0, none⟩) 1 7 (cellsB [x]) := by
  refine .inr ⟨_, rfl, by simp [cellsB, cells1B], fun j u hu => ?_⟩
  have hj : j < 7 := by have := (List.getElem?_eq_some_iff.1 hu).1; simpa [cellsB, cells1B] using this
  rw [add_at, Nat.zero_add]
  match j, hj with
  | 0, _ => exact cellAt h 0 hu
  | 1, _ => exact cellAt h 1 hu
  | 2, _ => exact cellAt h 2 hu
  | 3, _ => exact cellAt h 3 hu
  | 4, _ => exact cellAt h 4 hu
  | 5, _ => exact cellAt h 5 hu
  | 6, _ => exact cellAt h 6 hu
theorem cellsB_one {w : World} {k : Nat} (L : List Rwb) (h : ∀ x ∈ L, OkB w k x) : ∀ u ∈ cellsB L, u.oneCell' = true := by
  induction L with
  | nil => intro u hu; cases hu
  | cons x r ih =>
    intro u hu
    rw [cellsB] at hu
    rcases List.mem_append.1 hu with hu | hu
    · obtain ⟨h1, h2, h3⟩ := h x (List.mem_cons_self ..)
      obtain ⟨_, ⟨_, _, e1, _⟩, ⟨_, _, e2, _⟩⟩ := h3.form
      obtain ⟨_, _, e3, _⟩ := h1.form
      obtain ⟨_, _, e4, _⟩ := h2.form
      simp only [cells1B, e1, e2, e3, e4, List.mem_cons, List.not_mem_nil, or_false] at hu
      rcases hu with rfl | rfl | rfl | rfl | rfl | rfl | rfl <;> rfl
    · exact ih (fun y hy => h y (List.mem_cons_of_mem _ hy)) u hu
/-! ### a row that grows beside what it holds -/
/-- The cells of a row that the call owns, from the first block B on; what each element points to lies apart from it; nothing else that was there has turned but block g. -/
structure CRow {α : Type} (cells : List α → List Value) (e size : Nat) (OK : World → α → Prop) (w1 wr : World) (g : Nat) (s : Value) (L : List α) : Prop where
  own : wr.ownsRow w1.heap.size e size s L.length (cells L)
  apart : ∀ x ∈ L, OK (mask w1.heap.size s.ownBlock wr) x
  only : Only (fun j => j = g) w1 wr
section
variable {α : Type} {cells : List α → List Value} {e size : Nat} {OK : World → α → Prop} {w1 wr W W' : World} {g : Nat} {s s' : Value} {L : List α} {x : α}
theorem CRow.nil (hn : cells [] = []) (w1 wr : World) (g : Nat) (h : Only (fun j => j = g) w1 wr) : CRow cells e size OK w1 wr g (.slice none 0 0) [] :=
  ⟨⟨by rw [hn]; simp, .inl ⟨rfl, rfl⟩⟩, (fun x hx => by cases hx), h⟩
theorem CRow.ext (hsub : ∀ w w' x, OK w x → Sub w w' → OK w' x) (h : CRow cells e size OK w1 wr g s L) (hb : Ext wr W) : CRow cells e size OK w1 W g s L :=
  ⟨own_below h.own hb, fun x hx => hsub _ _ _ (h.apart x hx) (Sub.masks hb.size fun k hk h1 h2 => ⟨⟨h1, h2⟩, hb.block k hk⟩), h.only.tr (Only.of_ext hb)⟩
/-- One more element, made behind the row. -/
theorem CRow.app (hsub : ∀ w w' x, OK w x → Sub w w' → OK w' x) (h : CRow cells e size OK w1 W g s L) {B : Nat} (hB1 : w1.heap.size ≤ B) (hB : ∀ k, s.ownBlock = some k → k < B) (hx : OK (mask B none W) x)
    (hg : W.grownBy W' s.ownBlock) (hat : s'.ownBlock = s.ownBlock ∨ s'.ownBlock = some W.heap.size) (ho : W'.ownsRow w1.heap.size e size s' (L ++ [x]).length (cells (L ++ [x]))) : CRow cells e size OK w1 W' g s' (L ++ [x]) := by
  have hne : ∀ k, k < W.heap.size → some k ≠ s.ownBlock → some k ≠ s'.ownBlock := fun k hk h1 => by
    rcases hat with h2 | h2
    · rw [h2]; exact h1
    · rw [h2]; intro h3; injection h3 with h3; omega
  refine ⟨ho, fun y hy => ?_, ⟨hg.os.trans h.only.os, hg.tape.trans h.only.tape, hg.output.trans h.only.output, Nat.le_trans h.only.size hg.size, fun k hk hn => ?_⟩⟩
  · rcases List.mem_append.1 hy with hy | hy
    · exact hsub _ _ _ (h.apart y hy) (Sub.masks hg.size fun k hk h1 h2 => ⟨⟨h1, hne k hk h2⟩, hg.block k hk h2⟩)
    · rw [List.mem_singleton.1 hy]
      refine hsub _ _ _ hx (Sub.masks hg.size fun k hk h1 _ => ?_)
      have h2 : some k ≠ s.ownBlock := fun e => by have := hB k e.symm; omega
      exact ⟨⟨Nat.le_trans hB1 h1, hne k hk h2⟩, hg.block k hk h2⟩
  · exact (hg.block k (Nat.lt_of_lt_of_le hk h.only.size) (fun e => by have := (h.own.lt k e.symm).1; omega)).trans (h.only.block k hk hn)
/-- A store into block g. -/
theorem CRow.set (hsub : ∀ w w' x, OK w x → Sub w w' → OK w' x) (h : CRow cells e size OK w1 W g s L) (hg : g < w1.heap.size) (i : Nat) (u : Value) : CRow cells e size OK w1 (W.setCell ⟨g, i, none⟩ u) g s L :=
  ⟨ownsRow_setCell_below h.own hg _, fun x hx => hsub _ _ _ (h.apart x hx) (Sub.masks (by simp [World.setCell]) fun k hk h1 h2 => ⟨⟨h1, h2⟩, Below.heap_setCell _ _ _ _ (by show k ≠ g; omega)⟩), h.only.tr (Only.setCell (C := fun j => j = g) (p := ⟨g, i, none⟩) rfl _ _)⟩
/-- What the row holds, seen with the row. -/
theorem CRow.all (hsub : ∀ w w' x, OK w x → Sub w w' → OK w' x) (h : CRow cells e size OK w1 W g s L) : (mask w1.heap.size none W).ownsRow w1.heap.size e size s L.length (cells L) ∧ ∀ x ∈ L, OK (mask w1.heap.size none W) x :=
  ⟨row_mask h.own, fun x hx => hsub _ _ _ (h.apart x hx) (Sub.masks (Nat.le_refl _) fun k _ h1 _ => ⟨⟨h1, by simp⟩, rfl⟩)⟩
theorem CRow.lt (h : CRow cells e size OK w1 W g s L) : ∀ k, s.ownBlock = some k → k < W.heap.size := fun k hk => (h.own.lt k hk).2
end
/-- What has been done holds all that it waits for. -/
def ClosedL (ops : Array Oper) (L : Nat → Bool) : Prop := ∀ i o, ops[i]? = some o → L i = true → ∀ e ∈ o.after.toList, Region.binds .any e = true → L e.on = true
theorem wp_region_invC {P : Program} {id : Nat} {Q : Exit → Act → World → Prop} {a : Act} {w : World} {ops : Array Oper} (hm : P.follows .mixedOrders = true) (hb : backB ops = true) (Inv : (Nat → Bool) → Act → World → Prop)
    (h0 : Inv (fun _ => false) a w.drew)
    (hstep : ∀ (L : Nat → Bool) (a : Act) (w : World) (i : Nat) (o : Oper), ops[i]? = some o → (∀ e ∈ o.after.toList, Region.binds .any e = true → L e.on = true) → L i = false → ClosedL ops L → Inv L a w →
      ∀ K : Act → World → Prop, Hid (∀ a' w', Inv (fun j => decide (j = i) || L j) a' w' → K a' w') → if Region.wanted o (yielded ops a.tmps) = true then Oper.wp P o a w K Q else K (a.put o.dst undef) w)
    (hdone : ∀ (L : Nat → Bool) (a : Act) (w : World), (∀ i, i < ops.size → L i = true) → Inv L a w → Q .normal a w) : (Code.region id ops true).wp P Q a w := by
  refine wp_region_inv hm hb (fun L a w => ClosedL ops L ∧ Inv L a w) ⟨(fun i o _ h => by cases h), h0⟩ (fun L a w i o ho hp hl hI K hK => hstep L a w i o ho hp hl hI.1 hI.2 K (fun a' w' h => hK.out a' w' ⟨fun i' o' ho' hl' e he hbd => ?_, h⟩)) (fun L a w hall hI => hdone L a w hall hI.2)
  by_cases hi : i' = i
  · subst hi
    rw [ho] at ho'; cases ho'
    show (decide (e.on = i') || L e.on) = true
    rw [hp e he hbd, Bool.or_true]
  · have h1 : L i' = true := by
      have h2 : (decide (i' = i) || L i') = true := hl'
      rwa [decide_eq_false hi, Bool.false_or] at h2
    show (decide (e.on = i) || L e.on) = true
    rw [hI.1 i' o' ho' h1 e he hbd, Bool.or_true]

/-- Ahead of the append: the n operations before it, what each has yielded. -/
structure PhA (w5 : World) (F : World → Nat → Value → Prop) (n : Nat) (L : Nat → Bool) (W : World) (vv : Nat → Value) : Prop where
  not : L n = false
  ext : Ext w5 W
  facts : ∀ j, j < n → L j = true → F W j (vv j)
/-- Behind the append, ahead of the store. -/
structure PhB (D : World → Value → Prop) (n : Nat) (p : Value) (L : Nat → Bool) (W : World) (vv : Nat → Value) : Prop where
  app : L n = true
  not : L (n + 2) = false
  done : D W (vv n)
  ptr : L (n + 1) = true → vv (n + 1) = p
section
variable {w5 W W' : World} {F : World → Nat → Value → Prop} {D : World → Value → Prop} {n i : Nat} {L : Nat → Bool} {vv : Nat → Value} {v p : Value}
theorem PhA.zero (F : World → Nat → Value → Prop) (n : Nat) (vv : Nat → Value) (w : World) : PhA w F n (fun _ => false) w.drew vv := ⟨rfl, (Ext.rf _).drew, (fun j _ h => by cases h)⟩
theorem PhA.put (hF : ∀ W W' j v, F W j v → Ext W W' → F W' j v) (h : PhA w5 F n L W vv) (hi : i < n) (hb : Ext W W') (hv : F W' i v) : PhA w5 F n (fun j => decide (j = i) || L j) W' (fun j => if j = i then v else vv j) := by
  refine ⟨?_, h.ext.tr hb, fun j hj hl => ?_⟩
  · show (decide (n = i) || L n) = false
    rw [h.not, decide_eq_false (by omega)]; rfl
  · by_cases hji : j = i
    · subst hji; simpa using hv
    · have h2 : (decide (j = i) || L j) = true := hl
      rw [decide_eq_false hji, Bool.false_or] at h2
      simp only [if_neg hji]
      exact hF _ _ _ _ (h.facts j hj h2) hb
theorem PhB.first (hn2 : L (n + 2) = false) (hn1 : L (n + 1) = false) (hd : D W v) : PhB D n p (fun j => decide (j = n) || L j) W (fun j => if j = n then v else vv j) := by
  refine ⟨by simp, ?_, by simpa using hd, fun h => ?_⟩
  · show (decide (n + 2 = n) || L (n + 2)) = false
    rw [hn2, decide_eq_false (by omega)]; rfl
  · have h2 : (decide (n + 1 = n) || L (n + 1)) = true := h
    rw [hn1, decide_eq_false (by omega)] at h2; cases h2
theorem PhB.next (h : PhB D n p L W vv) : PhB D n p (fun j => decide (j = n + 1) || L j) W (fun j => if j = n + 1 then p else vv j) := by
  refine ⟨?_, ?_, ?_, fun _ => by simp⟩
  · show (decide (n = n + 1) || L n) = true
    rw [h.app, Bool.or_true]
  · show (decide (n + 2 = n + 1) || L (n + 2)) = false
    rw [h.not, decide_eq_false (by omega)]; rfl
  · simp only [if_neg (show ¬ n = n + 1 by omega)]; exact h.done
end
theorem mask_ext {B : Nat} {g : Option Nat} {W W' : World} (hb : Ext W W') : Sub (mask B g W) (mask B g W') := Sub.masks hb.size fun k hk h1 h2 => ⟨⟨h1, h2⟩, hb.block k hk⟩
theorem mask_base {B B' : Nat} {W : World} (h : B ≤ B') : Sub (mask B' none W) (mask B none W) := Sub.masks (Nat.le_refl _) fun _ _ h1 h2 => ⟨⟨Nat.le_trans h h1, h2⟩, rfl⟩
theorem box_three (w : World) (a b c : Obj) : (((w.alloc a).alloc b).alloc c).heap[w.heap.size]? = some a ∧ (((w.alloc a).alloc b).alloc c).heap[w.heap.size + 1]? = some b ∧ (((w.alloc a).alloc b).alloc c).heap[w.heap.size + 1 + 1]? = some c := by
  have h1 := heapNew w a
  have h2 := heapNew (w.alloc a) b
  have h3 := heapNew ((w.alloc a).alloc b) c
  simp only [World.size_alloc] at h2 h3
  exact ⟨((Ext.al2 _ _ _).block _ (heap_lt h1)).trans h1, ((Ext.al _ _).block _ (by rw [World.size_alloc, World.size_alloc]; omega)).trans h2, h3⟩
theorem box5_set3 {w : World} {r T : Nat} {a b c d e : Value} (h : w.heap[r]? = some (.cells #[a, b, c, d, e] T (0, 0))) (v : Value) : (w.setCell ⟨r, 3, none⟩ v).heap[r]? = some (.cells #[a, b, c, v, e] T (0, 0)) := by
  simp [World.setCell, Array.getElem?_modify, h]
theorem box5_set4 {w : World} {r T : Nat} {a b c d e : Value} (h : w.heap[r]? = some (.cells #[a, b, c, d, e] T (0, 0))) (v : Value) : (w.setCell ⟨r, 4, none⟩ v).heap[r]? = some (.cells #[a, b, c, d, v] T (0, 0)) := by
  simp [World.setCell, Array.getElem?_modify, h]
theorem box5_set {w : World} {r T : Nat} {a b c d e : Value} (h : w.heap[r]? = some (.cells #[a, b, c, d, e] T (0, 0))) (a' b' c' d' e' : Value) :
    (((((w.setCell ⟨r, 0, none⟩ a').setCell ⟨r, 1, none⟩ b').setCell ⟨r, 2, none⟩ c').setCell ⟨r, 3, none⟩ d').setCell ⟨r, 4, none⟩ e').heap[r]? = some (.cells #[a', b', c', d', e'] T (0, 0)) := by
  simp [World.setCell, Array.getElem?_modify, h]
theorem only5_set (w : World) (r : Nat) (a' b' c' d' e' : Value) :
    Only (fun j => j = r) w (((((w.setCell ⟨r, 0, none⟩ a').setCell ⟨r, 1, none⟩ b').setCell ⟨r, 2, none⟩ c').setCell ⟨r, 3, none⟩ d').setCell ⟨r, 4, none⟩ e') :=
  have h : ∀ (W : World) (i : Nat) (u : Value), Only (fun j => j = r) W (W.setCell ⟨r, i, none⟩ u) := fun W i u => Only.setCell (C := fun j => j = r) (p := ⟨r, i, none⟩) rfl W u
  ((((h _ _ _).tr (h _ _ _)).tr (h _ _ _)).tr (h _ _ _)).tr (h _ _ _)
theorem Tryd.iNode : (Tryd.prog.info? 31).map (fun i => (i.zero, i.size, i.bytes)) = some (some (.agg #[.int .i64 0, .int .i64 0, .int .i64 0, .slice none 0 0, .slice none 0 0]), 5, 72) := by kernel_rfl
theorem Tryd.iBranch : (Tryd.prog.info? 58).map (fun i => (i.zero, i.size, i.bytes)) = some (some (.agg #[.slice none 0 0, .slice none 0 0, .int .i64 0, .int .i64 0, .int .i64 0, .slice none 0 0, .slice none 0 0]), 7, 120) := by kernel_rfl
theorem Tryd.iBool : (Tryd.prog.info? 4).map (fun i => (i.zero, i.size, i.bytes)) = some (some (.bool false), 1, 1) := by kernel_rfl
theorem RBools.src {w : World} {A : Option Addr} {c : Nat} {l : List Bool} (h : RBools w (.slice A l.length c) l) : SrcN w A l.length 1 (l.map Value.bool) := by
  cases A with
  | none =>
    cases l with
    | nil => exact .inl ⟨rfl, rfl, rfl⟩
    | cons a r =>
      obtain ⟨_, _, hA, _⟩ := h.at_ (k := 0) (by simp)
      cases hA
  | some ad =>
    refine .inr ⟨ad, rfl, by simp, fun j u hu => ?_⟩
    rw [List.getElem?_map] at hu
    obtain ⟨s, hs, rfl⟩ := Option.map_eq_some_iff.1 hu
    obtain ⟨hlt, rfl⟩ := List.getElem?_eq_some_iff.1 hs
    obtain ⟨b, o, hA, _, c0⟩ := h.at_ hlt
    cases hA
    rw [add_at]; exact c0
theorem bools_one (l : List Bool) : ∀ u ∈ l.map Value.bool, u.oneCell' = true := by
  intro u hu
  obtain ⟨a, _, rfl⟩ := List.mem_map.1 hu
  rfl
end Go.Proofs.YtkdhhcidpklgoaaDoor
