/- Memory seen through a mask: only the blocks that a copy owns. -/
import Derived.Test.YtogmjgccopmplaaGreatQ20
namespace Go.Proofs.YtogmjgccopmplaaGreat
open Go.RowKit
/-- What reads in the first reads in the second. -/
structure Sub (w w' : World) : Prop where
  size : w.heap.size ≤ w'.heap.size
  cell : ∀ p v, w.cell? p = some v → w'.cell? p = some v
/-- The world with nothing but the blocks from B on that are not g. -/
def mask (B : Nat) (g : Option Nat) (w : World) : World := { w with heap := w.heap.mapIdx fun i o => if B ≤ i ∧ some i ≠ g then o else .cells #[] 0 (0, 0) }
theorem mask_size (B : Nat) (g : Option Nat) (w : World) : (mask B g w).heap.size = w.heap.size := Array.size_mapIdx ..
theorem mask_in {B : Nat} {g : Option Nat} {w : World} {k : Nat} (h : B ≤ k ∧ some k ≠ g) : (mask B g w).heap[k]? = w.heap[k]? := by
  show (w.heap.mapIdx _)[k]? = _
  rw [Array.getElem?_mapIdx]
  simp only [if_pos h]
  cases w.heap[k]? <;> rfl
theorem mask_out {B : Nat} {g : Option Nat} {w : World} {p : Addr} (h : ¬ (B ≤ p.block ∧ some p.block ≠ g)) : (mask B g w).cell? p = none := by
  unfold World.cell?
  have e : (mask B g w).heap[p.block]? = w.heap[p.block]?.map fun _ => .cells #[] 0 (0, 0) := by
    show (w.heap.mapIdx _)[p.block]? = _
    rw [Array.getElem?_mapIdx]
    simp only [if_neg h]
  rw [e]
  cases w.heap[p.block]? with
  | none => rfl
  | some o => simp
theorem mask_cell {B : Nat} {g : Option Nat} {w : World} {p : Addr} {v : Value} (h : (mask B g w).cell? p = some v) : (B ≤ p.block ∧ some p.block ≠ g) ∧ w.cell? p = some v := by
  by_cases hk : B ≤ p.block ∧ some p.block ≠ g
  · refine ⟨hk, ?_⟩
    unfold World.cell? at h ⊢
    rw [mask_in hk] at h
    exact h
  · rw [mask_out hk] at h; cases h
theorem Sub.rf (w : World) : Sub w w := ⟨Nat.le_refl _, fun _ _ h => h⟩
theorem Sub.tr {a b c : World} (h : Sub a b) (k : Sub b c) : Sub a c := ⟨Nat.le_trans h.size k.size, fun p v e => k.cell p v (h.cell p v e)⟩
theorem Sub.ext {a b : World} (h : Ext a b) : Sub a b := ⟨h.size, fun _ _ e => h.keep e⟩
theorem Sub.masks {B B' : Nat} {g g' : Option Nat} {w w' : World} (hs : w.heap.size ≤ w'.heap.size) (h : ∀ k, k < w.heap.size → B ≤ k → some k ≠ g → (B' ≤ k ∧ some k ≠ g') ∧ w'.heap[k]? = w.heap[k]?) : Sub (mask B g w) (mask B' g' w') := by
  refine ⟨by rw [mask_size, mask_size]; exact hs, fun p v e => ?_⟩
  obtain ⟨⟨h1, h2⟩, h3⟩ := mask_cell e
  obtain ⟨h4, h5⟩ := h p.block (cell_lt h3) h1 h2
  have h6 : (mask B' g' w').heap[p.block]? = w.heap[p.block]? := (mask_in h4).trans h5
  rw [World.cell?_of_block h6]; exact h3
theorem row_mask {w : World} {B e size n : Nat} {v : Value} {xs : List Value} (h : w.ownsRow B e size v n xs) : (mask B none w).ownsRow B e size v n xs := by
  obtain ⟨h1, h2⟩ := h
  refine ⟨h1, ?_⟩
  rcases h2 with h2 | ⟨g, cap, cur, rfl, e2, e3, e4⟩
  · exact .inl h2
  · exact .inr ⟨g, cap, cur, rfl, e2, (mask_in ⟨e2, by simp⟩).trans e3, e4⟩
theorem own_shape {w : World} {B e size n : Nat} {v : Value} {xs : List Value} (h : w.ownsRow B e size v n xs) : ∃ A c, v = .slice A n c := by
  rcases h.2 with ⟨rfl, rfl⟩ | ⟨g, cap, _, hv, _⟩
  · exact ⟨none, 0, rfl⟩
  · exact ⟨_, cap, hv⟩
section
variable {w w' : World} {v : Value}
theorem C6.sub {b o : Nat} {t : Tm} {va vc : Value} (h : C6 w b o t va vc) (hb : Sub w w') : C6 w' b o t va vc :=
  ⟨hb.cell _ _ h.c0, hb.cell _ _ h.c1, hb.cell _ _ h.c2, hb.cell _ _ h.c3, hb.cell _ _ h.c4, hb.cell _ _ h.c5⟩
theorem RStrs.sub {l : List Str} (h : RStrs w v l) (hb : Sub w w') : RStrs w' v l := by
  obtain ⟨A, c, rfl, h1, h2, h3⟩ := h
  refine ⟨A, c, rfl, h1, h2, fun i a hi => ?_⟩
  obtain ⟨b, o, rfl, hlt, h4, h5⟩ := h3 i a hi
  exact ⟨b, o, rfl, Nat.lt_of_lt_of_le hlt hb.size, hb.cell _ _ h4, h5⟩
theorem RPrms.sub {l : List Prm} (h : RPrms w v l) (hb : Sub w w') : RPrms w' v l := by
  obtain ⟨A, c, rfl, h1, h2, h3⟩ := h
  refine ⟨A, c, rfl, h1, h2, fun i a hi => ?_⟩
  obtain ⟨b, o, rfl, hlt, h4, h5, h6⟩ := h3 i a hi
  exact ⟨b, o, rfl, Nat.lt_of_lt_of_le hlt hb.size, hb.cell _ _ h4, hb.cell _ _ h5, h6⟩
theorem RT.sub (hb : Sub w w') : ∀ {k : Nat} {t : Tm} {va vc : Value}, RT w k t va vc → RT w' k t va vc
  | 0, _, _, _, h => h.elim
  | k + 1, t, va, vc, ⟨h0, ⟨A, c, e1, h1, h2, h3⟩, ⟨B, d, e2, h4, h5, h6⟩⟩ =>
    ⟨h0, ⟨A, c, e1, h1, h2, fun i x hi => by
      obtain ⟨b, o, xa, xc, e, hlt, hc, hr⟩ := h3 i x hi
      exact ⟨b, o, xa, xc, e, Nat.lt_of_lt_of_le hlt hb.size, hc.sub hb, hr.sub hb⟩⟩,
    ⟨B, d, e2, h4, h5, fun i x hi => by
      obtain ⟨b, o, vn, xa, xc, e, hlt, hn, hs, hc, hr⟩ := h6 i x hi
      exact ⟨b, o, vn, xa, xc, e, Nat.lt_of_lt_of_le hlt hb.size, hb.cell _ _ hn, hs.sub hb, hc.sub hb, hr.sub hb⟩⟩⟩
end
abbrev Trc := (List Str × Tm) × Value × Value × Value
def cellsC1 (x : Trc) : List Value := [x.2.1, .int .i64 x.1.2.op, .int .i64 x.1.2.n, .string x.1.2.nm, .int .i64 x.1.2.ty, x.2.2.1, x.2.2.2]
def cellsC : List Trc → List Value
  | [] => []
  | x :: r => cellsC1 x ++ cellsC r
def RCls (w : World) (k : Nat) (v : Value) (l : List (List Str × Tm)) : Prop :=
  ∃ B c, v = .slice B l.length c ∧ l.length ≤ c ∧ c ≤ maxLen ∧
      ∀ i x, l[i]? = some x → ∃ b o vn xa xc, B = some ⟨b, o, none⟩ ∧ b < w.heap.size ∧ w.cell? ⟨b, o + i * 7, none⟩ = some vn ∧ RStrs w vn x.1 ∧ C6 w b (o + i * 7 + 1) x.2 xa xc ∧ RT w k x.2 xa xc
def OkC (w : World) (k : Nat) (x : Trc) : Prop := RStrs w x.2.1 x.1.1 ∧ RT w k x.1.2 x.2.2.1 x.2.2.2
theorem OkC.sub {w w' : World} {k : Nat} {x : Trc} (h : OkC w k x) (hb : Sub w w') : OkC w' k x := ⟨h.1.sub hb, RT.sub hb h.2⟩
theorem RTms.sub {w w' : World} {k : Nat} {v : Value} {l : List Tm} (h : RTms w k v l) (hb : Sub w w') : RTms w' k v l := by
  obtain ⟨A, c, rfl, h1, h2, h3⟩ := h
  refine ⟨A, c, rfl, h1, h2, fun i x hi => ?_⟩
  obtain ⟨b, o, xa, xc, rfl, hlt, hc, hr⟩ := h3 i x hi
  exact ⟨b, o, xa, xc, rfl, Nat.lt_of_lt_of_le hlt hb.size, hc.sub hb, RT.sub hb hr⟩
theorem RCls.sub {w w' : World} {k : Nat} {v : Value} {l : List (List Str × Tm)} (h : RCls w k v l) (hb : Sub w w') : RCls w' k v l := by
  obtain ⟨A, c, rfl, h1, h2, h3⟩ := h
  refine ⟨A, c, rfl, h1, h2, fun i x hi => ?_⟩
  obtain ⟨b, o, vn, xa, xc, rfl, hlt, hn, hs, hc, hr⟩ := h3 i x hi
  exact ⟨b, o, vn, xa, xc, rfl, Nat.lt_of_lt_of_le hlt hb.size, hb.cell _ _ hn, hs.sub hb, hc.sub hb, RT.sub hb hr⟩
/-- The cells of a row that the call owns, from the first block B on; what each element points to lies apart from it; nothing else that was there has turned but block g. -/
structure CRow {α : Type} (cells : List α → List Value) (e size : Nat) (OK : World → α → Prop) (w1 wr : World) (g : Nat) (s : Value) (L : List α) : Prop where
  own : wr.ownsRow w1.heap.size e size s L.length (cells L)
  apart : ∀ x ∈ L, OK (mask w1.heap.size s.ownBlock wr) x
  only : Only (fun j => j = g) w1 wr
section
variable {α : Type} {cells : List α → List Value} {e size : Nat} {OK : World → α → Prop} {w1 wr W W' : World} {g : Nat} {s s' : Value} {L : List α} {x : α}
theorem CRow.nil (hn : cells [] = []) (w1 wr : World) (g : Nat) (h : Only (fun j => j = g) w1 wr) : CRow cells e size OK w1 wr g (.slice none 0 0) [] :=
  ⟨⟨by rw [hn]; simp, .inl ⟨rfl, rfl⟩⟩, (fun x hx => by cases hx), h⟩
theorem CRow.ext (hsub : ∀ w w' x, OK w x → Sub w w' → OK w' x) (h : CRow cells e size OK w1 wr g s L) (hb : Ext wr W) : CRow cells e size OK w1 W g s L :=
  ⟨own_below h.own hb, fun x hx => hsub _ _ _ (h.apart x hx) (Sub.masks hb.size fun k hk h1 h2 => ⟨⟨h1, h2⟩, hb.block k hk⟩), h.only.tr (Only.of_ext hb)⟩
/-- One more element, made behind the row. -/
theorem CRow.app (hsub : ∀ w w' x, OK w x → Sub w w' → OK w' x) (h : CRow cells e size OK w1 W g s L) {B : Nat} (hB1 : w1.heap.size ≤ B) (hB : ∀ k, s.ownBlock = some k → k < B) (hx : OK (mask B none W) x)
    (hg : W.grownBy W' s.ownBlock) (hat : s'.ownBlock = s.ownBlock ∨ s'.ownBlock = some W.heap.size) (ho : W'.ownsRow w1.heap.size e size s' (L ++ [x]).length (cells (L ++ [x]))) : CRow cells e size OK w1 W' g s' (L ++ [x]) := by
  have hne : ∀ k, k < W.heap.size → some k ≠ s.ownBlock → some k ≠ s'.ownBlock := fun k hk h1 => by
    rcases hat with h2 | h2
    · rw [h2]; exact h1
    · rw [h2]; intro h3; injection h3 with h3; omega
  refine ⟨ho, fun y hy => ?_, ⟨hg.os.trans h.only.os, hg.tape.trans h.only.tape, hg.output.trans h.only.output, Nat.le_trans h.only.size hg.size, fun k hk hn => ?_⟩⟩
  · rcases List.mem_append.1 hy with hy | hy
    · exact hsub _ _ _ (h.apart y hy) (Sub.masks hg.size fun k hk h1 h2 => ⟨⟨h1, hne k hk h2⟩, hg.block k hk h2⟩)
    · rw [List.mem_singleton.1 hy]
      refine hsub _ _ _ hx (Sub.masks hg.size fun k hk h1 _ => ?_)
      have h2 : some k ≠ s.ownBlock := fun e => by have := hB k e.symm; omega
      exact ⟨⟨Nat.le_trans hB1 h1, hne k hk h2⟩, hg.block k hk h2⟩
  · exact (hg.block k (Nat.lt_of_lt_of_le hk h.only.size) (fun e => by have := (h.own.lt k e.symm).1; omega)).trans (h.only.block k hk hn)
/-- A store into block g. -/
theorem CRow.set (hsub : ∀ w w' x, OK w x → Sub w w' → OK w' x) (h : CRow cells e size OK w1 W g s L) (hg : g < w1.heap.size) (i : Nat) (u : Value) : CRow cells e size OK w1 (W.setCell ⟨g, i, none⟩ u) g s L :=
  ⟨ownsRow_setCell_below h.own hg _, fun x hx => hsub _ _ _ (h.apart x hx) (Sub.masks (by simp [World.setCell]) fun k hk h1 h2 => ⟨⟨h1, h2⟩, Below.heap_setCell _ _ _ _ (by show k ≠ g; omega)⟩), h.only.tr (Only.setCell (C := fun j => j = g) (p := ⟨g, i, none⟩) rfl _ _)⟩
/-- What the row holds, seen with the row. -/
theorem CRow.all (hsub : ∀ w w' x, OK w x → Sub w w' → OK w' x) (h : CRow cells e size OK w1 W g s L) : (mask w1.heap.size none W).ownsRow w1.heap.size e size s L.length (cells L) ∧ ∀ x ∈ L, OK (mask w1.heap.size none W) x :=
  ⟨row_mask h.own, fun x hx => hsub _ _ _ (h.apart x hx) (Sub.masks (Nat.le_refl _) fun k _ h1 _ => ⟨⟨h1, by simp⟩, rfl⟩)⟩
theorem CRow.lt (h : CRow cells e size OK w1 W g s L) : ∀ k, s.ownBlock = some k → k < W.heap.size := fun k hk => (h.own.lt k hk).2
end
end Go.Proofs.YtogmjgccopmplaaGreat

/- A statement that appends what a call made to a row in a box: an invariant in three parts. -/
namespace Go.Proofs.YtogmjgccopmplaaGreat
open Go.RowKit
/-- What has been done holds all that it waits for. -/
def ClosedL (ops : Array Oper) (L : Nat → Bool) : Prop := ∀ i o, ops[i]? = some o → L i = true → ∀ e ∈ o.after.toList, Region.binds .any e = true → L e.on = true
theorem wp_region_invC {P : Program} {id : Nat} {Q : Exit → Act → World → Prop} {a : Act} {w : World} {ops : Array Oper} (hm : P.follows .mixedOrders = true) (hb : backB ops = true) (Inv : (Nat → Bool) → Act → World → Prop)
    (h0 : Inv (fun _ => false) a w.drew)
    (hstep : ∀ (L : Nat → Bool) (a : Act) (w : World) (i : Nat) (o : Oper), ops[i]? = some o → (∀ e ∈ o.after.toList, Region.binds .any e = true → L e.on = true) → L i = false → ClosedL ops L → Inv L a w →
      ∀ K : Act → World → Prop, Hid (∀ a' w', Inv (fun j => decide (j = i) || L j) a' w' → K a' w') → if Region.wanted o (yielded ops a.tmps) = true then Oper.wp P o a w K Q else K (a.put o.dst undef) w)
    (hdone : ∀ (L : Nat → Bool) (a : Act) (w : World), (∀ i, i < ops.size → L i = true) → Inv L a w → Q .normal a w) : (Code.region id ops true).wp P Q a w := by
  refine wp_region_inv hm hb (fun L a w => ClosedL ops L ∧ Inv L a w) ⟨(fun i o _ h => by cases h), h0⟩ (fun L a w i o ho hp hl hI K hK => hstep L a w i o ho hp hl hI.1 hI.2 K (fun a' w' h => hK.out a' w' ⟨fun i' o' ho' hl' e he hbd => ?_, h⟩)) (fun L a w hall hI => hdone L a w hall hI.2)
  by_cases hi : i' = i
  · subst hi
    rw [ho] at ho'; cases ho'
    show (decide (e.on = i') || L e.on) = true
    rw [hp e he hbd, Bool.or_true]
  · have h1 : L i' = true := by
      have h2 : (decide (i' = i) || L i') = true := hl'
      rwa [decide_eq_false hi, Bool.false_or] at h2
    show (decide (e.on = i) || L e.on) = true
    rw [hI.1 i' o' ho' h1 e he hbd, Bool.or_true]
/-- Ahead of the append: the n operations before it, what each has yielded. -/
structure PhA (w5 : World) (F : World → Nat → Value → Prop) (n : Nat) (L : Nat → Bool) (W : World) (vv : Nat → Value) : Prop where
  not : L n = false
  ext : Ext w5 W
  facts : ∀ j, j < n → L j = true → F W j (vv j)
/-- Behind the append, ahead of the store. -/
structure PhB (D : World → Value → Prop) (n : Nat) (p : Value) (L : Nat → Bool) (W : World) (vv : Nat → Value) : Prop where
  app : L n = true
  not : L (n + 2) = false
  done : D W (vv n)
  ptr : L (n + 1) = true → vv (n + 1) = p
section
variable {w5 W W' : World} {F : World → Nat → Value → Prop} {D : World → Value → Prop} {n i : Nat} {L : Nat → Bool} {vv : Nat → Value} {v p : Value}
theorem PhA.zero (F : World → Nat → Value → Prop) (n : Nat) (vv : Nat → Value) (w : World) : PhA w F n (fun _ => false) w.drew vv := ⟨rfl, (Ext.rf _).drew, (fun j _ h => by cases h)⟩
theorem PhA.put (hF : ∀ W W' j v, F W j v → Ext W W' → F W' j v) (h : PhA w5 F n L W vv) (hi : i < n) (hb : Ext W W') (hv : F W' i v) : PhA w5 F n (fun j => decide (j = i) || L j) W' (fun j => if j = i then v else vv j) := by
  refine ⟨?_, h.ext.tr hb, fun j hj hl => ?_⟩
  · show (decide (n = i) || L n) = false
    rw [h.not, decide_eq_false (by omega)]; rfl
  · by_cases hji : j = i
    · subst hji; simpa using hv
    · have h2 : (decide (j = i) || L j) = true := hl
      rw [decide_eq_false hji, Bool.false_or] at h2
      simp only [if_neg hji]
      exact hF _ _ _ _ (h.facts j hj h2) hb
theorem PhB.next (h : PhB D n p L W vv) : PhB D n p (fun j => decide (j = n + 1) || L j) W (fun j => if j = n + 1 then p else vv j) := by
  refine ⟨?_, ?_, ?_, fun _ => by simp⟩
  · show (decide (n = n + 1) || L n) = true
    rw [h.app, Bool.or_true]
  · show (decide (n + 2 = n + 1) || L (n + 2)) = false
    rw [h.not, decide_eq_false (by omega)]; rfl
  · simp only [if_neg (show ¬ n = n + 1 by omega)]; exact h.done
end
theorem mask_ext {B : Nat} {g : Option Nat} {W W' : World} (hb : Ext W W') : Sub (mask B g W) (mask B g W') := Sub.masks hb.size fun k hk h1 h2 => ⟨⟨h1, h2⟩, hb.block k hk⟩
theorem box6_set {w : World} {r T : Nat} {a b c d e f : Value} (h : w.heap[r]? = some (.cells #[a, b, c, d, e, f] T (0, 0))) (a' b' c' d' e' f' : Value) :
    ((((((w.setCell ⟨r, 0, none⟩ a').setCell ⟨r, 1, none⟩ b').setCell ⟨r, 2, none⟩ c').setCell ⟨r, 3, none⟩ d').setCell ⟨r, 4, none⟩ e').setCell ⟨r, 5, none⟩ f').heap[r]? = some (.cells #[a', b', c', d', e', f'] T (0, 0)) := by
  simp [World.setCell, Array.getElem?_modify, h]
theorem only6_set (w : World) (r : Nat) (a' b' c' d' e' f' : Value) :
    Only (fun j => j = r) w ((((((w.setCell ⟨r, 0, none⟩ a').setCell ⟨r, 1, none⟩ b').setCell ⟨r, 2, none⟩ c').setCell ⟨r, 3, none⟩ d').setCell ⟨r, 4, none⟩ e').setCell ⟨r, 5, none⟩ f') :=
  have h : ∀ (W : World) (i : Nat) (u : Value), Only (fun j => j = r) W (W.setCell ⟨r, i, none⟩ u) := fun W i u => Only.setCell (C := fun j => j = r) (p := ⟨r, i, none⟩) rfl W u
  (((((h _ _ _).tr (h _ _ _)).tr (h _ _ _)).tr (h _ _ _)).tr (h _ _ _)).tr (h _ _ _)
end Go.Proofs.YtogmjgccopmplaaGreat
