/- law.go: TermOwn: two copies into two boxes, in any order. -/
import Derived.Test.YtogmjgccopmplaaGreatQ18
namespace Go.Proofs.YtogmjgccopmplaaGreat
open Go.RowKit

def pmask (p : Nat → Bool) (w : World) : World := { w with heap := w.heap.mapIdx fun i o => if p i then o else .cells #[] 0 (0, 0) }
theorem pm_size (p : Nat → Bool) (w : World) : (pmask p w).heap.size = w.heap.size := Array.size_mapIdx ..
theorem pm_in {p : Nat → Bool} {w : World} {k : Nat} (h : p k = true) : (pmask p w).heap[k]? = w.heap[k]? := by
  show (w.heap.mapIdx _)[k]? = _
  rw [Array.getElem?_mapIdx]
  simp only [h, if_true]
  cases w.heap[k]? <;> rfl
theorem pm_cell {p : Nat → Bool} {w : World} {q : Addr} {v : Value} (h : (pmask p w).cell? q = some v) : p q.block = true ∧ w.cell? q = some v := by
  cases hk : p q.block
  · exfalso
    unfold World.cell? at h
    have e : (pmask p w).heap[q.block]? = w.heap[q.block]?.map fun _ => .cells #[] 0 (0, 0) := by
      show (w.heap.mapIdx _)[q.block]? = _
      rw [Array.getElem?_mapIdx]
      simp only [hk, Bool.false_eq_true, if_false]
    rw [e] at h
    cases hw : w.heap[q.block]? with
    | none => rw [hw] at h; cases h
    | some o => rw [hw] at h; simp at h
  · exact ⟨rfl, by rw [← World.cell?_of_block (pm_in hk)]; exact h⟩
/-- Nothing but two boxes is hidden. -/
def hh (g g' : Option Nat) (k : Nat) : Bool := decide (some k ≠ g) && decide (some k ≠ g')
def HH (g g' : Option Nat) (W : World) : World := pmask (hh g g') W
theorem hh_iff {g g' : Option Nat} {k : Nat} : hh g g' k = true ↔ some k ≠ g ∧ some k ≠ g' := by unfold hh; simp
theorem HH.cell {g g' : Option Nat} {W : World} {p : Addr} {v : Value} (h : (HH g g' W).cell? p = some v) : (some p.block ≠ g ∧ some p.block ≠ g') ∧ W.cell? p = some v := by
  obtain ⟨h1, h2⟩ := pm_cell h
  exact ⟨hh_iff.1 h1, h2⟩
theorem HH.un (g g' : Option Nat) (W : World) : Sub (HH g g' W) W := ⟨Nat.le_of_eq (pm_size _ _), fun _ _ h => (HH.cell h).2⟩
theorem Sub.hh {X W' : World} {g g' : Option Nat} (hs : X.heap.size ≤ W'.heap.size) (h : ∀ p v, X.cell? p = some v → (some p.block ≠ g ∧ some p.block ≠ g') ∧ W'.cell? p = some v) : Sub X (HH g g' W') := by
  refine ⟨by unfold HH; rw [pm_size]; exact hs, fun p v e => ?_⟩
  obtain ⟨h1, h2⟩ := h p v e
  exact (World.cell?_of_block (pm_in (hh_iff.2 h1))).trans h2
theorem HH.ext {g g' : Option Nat} {W W' : World} (hb : Ext W W') : Sub (HH g g' W) (HH g g' W') :=
  Sub.hh (by unfold HH; rw [pm_size]; exact hb.size) fun p v e => ⟨(HH.cell e).1, hb.keep (HH.cell e).2⟩
theorem HH.new1 (g' : Option Nat) (W : World) (o : Obj) : Sub (HH none g' W) (HH (some W.heap.size) g' (W.alloc o)) :=
  Sub.hh (by unfold HH; rw [pm_size]; exact (Ext.al W o).size) fun p v e => ⟨⟨fun h => by
    have := cell_lt (HH.cell e).2
    injection h with h; omega, (HH.cell e).1.2⟩, (Ext.al W o).keep (HH.cell e).2⟩
theorem HH.new2 (g : Option Nat) (W : World) (o : Obj) : Sub (HH g none W) (HH g (some W.heap.size) (W.alloc o)) :=
  Sub.hh (by unfold HH; rw [pm_size]; exact (Ext.al W o).size) fun p v e => ⟨⟨(HH.cell e).1.1, fun h => by
    have := cell_lt (HH.cell e).2
    injection h with h; omega⟩, (Ext.al W o).keep (HH.cell e).2⟩
theorem HH.of_mask {B : Nat} {g g' : Option Nat} {W : World} (h1 : ∀ k, g = some k → k < B) (h2 : ∀ k, g' = some k → k < B) : Sub (mask B none W) (HH g g' W) :=
  Sub.hh (by rw [mask_size]; exact Nat.le_refl _) fun p v e => by
    obtain ⟨⟨h3, -⟩, h4⟩ := mask_cell e
    exact ⟨⟨fun h => by have := h1 _ h.symm; omega, fun h => by have := h2 _ h.symm; omega⟩, h4⟩
/-- Behind stores into the first box. -/
theorem HH.only1 {b : Nat} {g' : Option Nat} {W W' : World} (h : Only (fun j => j = b) W W') : Sub (HH (some b) g' W) (HH (some b) g' W') :=
  Sub.hh (by unfold HH; rw [pm_size]; exact h.size) fun p v e => by
    obtain ⟨h1, h2⟩ := HH.cell e
    exact ⟨h1, (World.cell?_of_block (h.block _ (cell_lt h2) (fun e => h1.1 (by rw [e])))).trans h2⟩
theorem HH.only2 {b : Nat} {g : Option Nat} {W W' : World} (h : Only (fun j => j = b) W W') : Sub (HH g (some b) W) (HH g (some b) W') :=
  Sub.hh (by unfold HH; rw [pm_size]; exact h.size) fun p v e => by
    obtain ⟨h1, h2⟩ := HH.cell e
    exact ⟨h1, (World.cell?_of_block (h.block _ (cell_lt h2) (fun e => h1.2 (by rw [e])))).trans h2⟩
theorem row_turn43 {w w' : World} {B e size n g : Nat} {v : Value} {xs : List Value} {c : Array Value} (h : w.ownsRow B e size v n xs) (hg : w.heap[g]? = some (.cells c 41 (0, 0))) (ho : Only (fun j => j = g) w w') (he : e ≠ 41) : w'.ownsRow B e size v n xs :=
  row_at h fun q cur _ hc => ho.block q (heap_lt hc) (fun e2 => by
    subst e2
    rw [hc] at hg
    injection hg with hg
    injection hg with _ ht
    exact he ht)
theorem KD.turn43 {w w' : World} {B g : Nat} {v : Value} {l : List Decl} {vxs : List Value} {c : Array Value} (h : KD w B v l vxs) (hg : w.heap[g]? = some (.cells c 41 (0, 0))) (ho : Only (fun j => j = g) w w') : KD w' B v l vxs :=
  ⟨h.len, row_turn43 h.row hg ho (by decide), fun i vx d a b => by
    obtain ⟨vas, hx⟩ := h.xtors i vx d a b
    exact ⟨vas, hx.len, row_turn43 hx.row hg ho (by decide), fun i va x a b => row_turn43 (hx.args i va x a b) hg ho (by decide)⟩⟩

abbrev zero43 : Array Value := #[.int .i64 0, .int .i64 0, .string ⟨#[]⟩, .int .i64 0, .slice none 0 0, .slice none 0 0]
/-- Ahead of the two stores. -/
structure R3 (P : Pg) (t : Tm) (vp vt : Value) (w1 : World) (Ls : Nat → Bool) (W : World) (vv : Nat → Value) (g g' : Option Nat) : Prop where
  ext : Ext w1 W
  z4 : Ls 4 = false → g = none
  o4 : Ls 4 = true → ∃ b, g = some b ∧ w1.heap.size ≤ b ∧ vv 4 = .pointer (some ⟨b, 0, none⟩) ∧ W.heap[b]? = some (.cells #[.slice none 0 0, .slice none 0 0] 25 (0, 0))
  z5 : Ls 5 = false → g' = none
  o5 : Ls 5 = true → ∃ b, g' = some b ∧ w1.heap.size ≤ b ∧ vv 5 = .pointer (some ⟨b, 0, none⟩) ∧ W.heap[b]? = some (.cells zero43 41 (0, 0))
  f0 : Ls 0 = true → vv 0 = vp
  f1 : Ls 1 = true → ∃ ud uf vxs B, vv 1 = pV ud uf ∧ KD W B ud P.decls vxs ∧ RFns (HH g g' W) uf P.funs
  f2 : Ls 2 = true → vv 2 = vt
  f3 : Ls 3 = true → ∃ xa xc k, vv 3 = tV t xa xc ∧ RT (HH g g' W) k t xa xc
section
variable {P : Pg} {t : Tm} {vp vt : Value} {w1 W W' : World} {Ls : Nat → Bool} {vv : Nat → Value} {g g' : Option Nat} {v : Value}
theorem set_ne {Ls : Nat → Bool} {i j : Nat} {b : Bool} (h : (decide (j = i) || Ls j) = b) (hn : j ≠ i) : Ls j = b := by
  rw [decide_eq_false hn, Bool.false_or] at h; exact h
theorem R3.lt1 (h : R3 P t vp vt w1 Ls W vv g g') : ∀ k, g = some k → k < W.heap.size := fun k hk => by
  cases h4 : Ls 4
  · rw [h.z4 h4] at hk; cases hk
  · obtain ⟨b, e, -, -, hb⟩ := h.o4 h4
    rw [e] at hk; cases hk
    exact heap_lt hb
theorem R3.lt2 (h : R3 P t vp vt w1 Ls W vv g g') : ∀ k, g' = some k → k < W.heap.size := fun k hk => by
  cases h4 : Ls 5
  · rw [h.z5 h4] at hk; cases hk
  · obtain ⟨b, e, -, -, hb⟩ := h.o5 h4
    rw [e] at hk; cases hk
    exact heap_lt hb
theorem R3.step {i : Nat} (h : R3 P t vp vt w1 Ls W vv g g') (hi : i < 4) (hb : Ext W W') (v : Value) (h0 : i = 0 → v = vp)
    (h1 : i = 1 → ∃ ud uf vxs B, v = pV ud uf ∧ KD W' B ud P.decls vxs ∧ RFns (mask W.heap.size none W') uf P.funs) (h2 : i = 2 → v = vt)
    (h3 : i = 3 → ∃ xa xc k, v = tV t xa xc ∧ RT (mask W.heap.size none W') k t xa xc) : R3 P t vp vt w1 (fun j => decide (j = i) || Ls j) W' (fun j => if j = i then v else vv j) g g' where
  ext := h.ext.tr hb
  z4 := fun e => h.z4 (set_ne e (by omega))
  o4 := fun e => by
    obtain ⟨b, e1, e2, e3, e4⟩ := h.o4 (set_ne e (by omega))
    exact ⟨b, e1, e2, by simp only [if_neg (show ¬ 4 = i by omega)]; exact e3, (hb.block _ (heap_lt e4)).trans e4⟩
  z5 := fun e => h.z5 (set_ne e (by omega))
  o5 := fun e => by
    obtain ⟨b, e1, e2, e3, e4⟩ := h.o5 (set_ne e (by omega))
    exact ⟨b, e1, e2, by simp only [if_neg (show ¬ 5 = i by omega)]; exact e3, (hb.block _ (heap_lt e4)).trans e4⟩
  f0 := fun e => by
    by_cases hj : 0 = i
    · simp only [if_pos hj]; exact h0 hj.symm
    · simp only [if_neg hj]; exact h.f0 (set_ne e hj)
  f1 := fun e => by
    by_cases hj : 1 = i
    · simp only [if_pos hj]
      obtain ⟨ud, uf, vxs, B, e1, e2, e3⟩ := h1 hj.symm
      exact ⟨ud, uf, vxs, B, e1, e2, e3.sub (HH.of_mask h.lt1 h.lt2)⟩
    · simp only [if_neg hj]
      obtain ⟨ud, uf, vxs, B, e1, e2, e3⟩ := h.f1 (set_ne e hj)
      exact ⟨ud, uf, vxs, B, e1, e2.ext hb, e3.sub (HH.ext hb)⟩
  f2 := fun e => by
    by_cases hj : 2 = i
    · simp only [if_pos hj]; exact h2 hj.symm
    · simp only [if_neg hj]; exact h.f2 (set_ne e hj)
  f3 := fun e => by
    by_cases hj : 3 = i
    · simp only [if_pos hj]
      obtain ⟨xa, xc, k, e1, e2⟩ := h3 hj.symm
      exact ⟨xa, xc, k, e1, RT.sub (HH.of_mask h.lt1 h.lt2) e2⟩
    · simp only [if_neg hj]
      obtain ⟨xa, xc, k, e1, e2⟩ := h.f3 (set_ne e hj)
      exact ⟨xa, xc, k, e1, RT.sub (HH.ext hb) e2⟩
theorem R3.alloc4 (h : R3 P t vp vt w1 Ls W vv g g') (hl : Ls 4 = false) : R3 P t vp vt w1 (fun j => decide (j = 4) || Ls j) (W.alloc (.cells #[.slice none 0 0, .slice none 0 0] 25)) (fun j => if j = 4 then .pointer (some ⟨W.heap.size, 0, none⟩) else vv j) (some W.heap.size) g' := by
  have hg := h.z4 hl
  subst hg
  have hb := Ext.al W (.cells #[.slice none 0 0, .slice none 0 0] 25)
  refine ⟨h.ext.tr hb, fun e => by simp at e, fun _ => ⟨_, rfl, h.ext.size, by simp, heapNew _ _⟩, fun e => h.z5 (set_ne e (by omega)), fun e => ?_, fun e => h.f0 (set_ne e (by omega)), fun e => ?_, fun e => h.f2 (set_ne e (by omega)), fun e => ?_⟩
  · obtain ⟨b, e1, e2, e3, e4⟩ := h.o5 (set_ne e (by omega))
    exact ⟨b, e1, e2, e3, (hb.block _ (heap_lt e4)).trans e4⟩
  · obtain ⟨ud, uf, vxs, B, e1, e2, e3⟩ := h.f1 (set_ne e (by omega))
    exact ⟨ud, uf, vxs, B, e1, e2.ext hb, e3.sub (HH.new1 _ _ _)⟩
  · obtain ⟨xa, xc, k, e1, e2⟩ := h.f3 (set_ne e (by omega))
    exact ⟨xa, xc, k, e1, RT.sub (HH.new1 _ _ _) e2⟩
theorem R3.alloc5 (h : R3 P t vp vt w1 Ls W vv g g') (hl : Ls 5 = false) : R3 P t vp vt w1 (fun j => decide (j = 5) || Ls j) (W.alloc (.cells zero43 41)) (fun j => if j = 5 then .pointer (some ⟨W.heap.size, 0, none⟩) else vv j) g (some W.heap.size) := by
  have hg := h.z5 hl
  subst hg
  have hb := Ext.al W (.cells zero43 41)
  refine ⟨h.ext.tr hb, fun e => h.z4 (set_ne e (by omega)), fun e => ?_, fun e => by simp at e, fun _ => ⟨_, rfl, h.ext.size, by simp, heapNew _ _⟩, fun e => h.f0 (set_ne e (by omega)), fun e => ?_, fun e => h.f2 (set_ne e (by omega)), fun e => ?_⟩
  · obtain ⟨b, e1, e2, e3, e4⟩ := h.o4 (set_ne e (by omega))
    exact ⟨b, e1, e2, e3, (hb.block _ (heap_lt e4)).trans e4⟩
  · obtain ⟨ud, uf, vxs, B, e1, e2, e3⟩ := h.f1 (set_ne e (by omega))
    exact ⟨ud, uf, vxs, B, e1, e2.ext hb, e3.sub (HH.new2 _ _ _)⟩
  · obtain ⟨xa, xc, k, e1, e2⟩ := h.f3 (set_ne e (by omega))
    exact ⟨xa, xc, k, e1, RT.sub (HH.new2 _ _ _) e2⟩
end
/-- Between the two stores. -/
structure R3b (P : Pg) (t : Tm) (w1 W : World) (vv : Nat → Value) (b b' : Nat) (ud uf xa xc : Value) : Prop where
  ext : Ext w1 W
  lo : w1.heap.size ≤ b ∧ w1.heap.size ≤ b'
  ne : b ≠ b'
  p4 : vv 4 = .pointer (some ⟨b, 0, none⟩)
  p5 : vv 5 = .pointer (some ⟨b', 0, none⟩)
  v3 : vv 3 = tV t xa xc
  box : W.heap[b]? = some (.cells #[ud, uf] 25 (0, 0))
  box' : W.heap[b']? = some (.cells zero43 41 (0, 0))
  decls : ∃ B vxs, KD W B ud P.decls vxs
  funs : RFns (HH (some b) (some b') W) uf P.funs
  body : ∃ k, RT (HH (some b) (some b') W) k t xa xc
/-- Behind both. -/
structure R3c (P : Pg) (t : Tm) (w1 W : World) (b b' : Nat) (ud uf xa xc : Value) : Prop where
  ext : Ext w1 W
  box : W.heap[b]? = some (.cells #[ud, uf] 25 (0, 0))
  box' : W.heap[b']? = some (.cells #[.int .i64 t.op, .int .i64 t.n, .string t.nm, .int .i64 t.ty, xa, xc] 41 (0, 0))
  decls : ∃ B vxs, KD W B ud P.decls vxs
  funs : RFns W uf P.funs
  body : ∃ k, RT W k t xa xc
theorem R3.store {P : Pg} {t : Tm} {vp vt : Value} {w1 W : World} {Ls : Nat → Bool} {vv : Nat → Value} {g g' : Option Nat} (h : R3 P t vp vt w1 Ls W vv g g') (h4 : Ls 4 = true) (h5 : Ls 5 = true) (h1 : Ls 1 = true) (h3 : Ls 3 = true) :
    ∃ b b' ud uf xa xc, vv 4 = .pointer (some ⟨b, 0, none⟩) ∧ vv 1 = pV ud uf ∧ W.heap[b]? = some (.cells #[.slice none 0 0, .slice none 0 0] 25 (0, 0)) ∧ (∃ A c A' c' n n', ud = .slice A n c ∧ uf = .slice A' n' c') ∧ R3b P t w1 ((W.setCell ⟨b, 0, none⟩ ud).setCell ⟨b, 1, none⟩ uf) vv b b' ud uf xa xc := by
  obtain ⟨b, rfl, l4, e4, hb⟩ := h.o4 h4
  obtain ⟨b', rfl, l5, e5, hb'⟩ := h.o5 h5
  obtain ⟨ud, uf, vxs, B, e1, hk, hf⟩ := h.f1 h1
  obtain ⟨xa, xc, k, e3, hr⟩ := h.f3 h3
  have hne : b ≠ b' := fun e => by
    subst e
    rw [hb] at hb'
    injection hb' with hb'
    injection hb' with _ ht
    exact absurd ht (by decide)
  have ho := only2_set W b ud uf
  obtain ⟨A, c, hud⟩ := own_shape hk.row
  obtain ⟨A', c', huf, -⟩ := hf.form
  refine ⟨b, b', ud, uf, xa, xc, e4, e1, hb, ⟨A, c, A', c', _, _, hud, huf⟩, Below.setNew (Below.setNew h.ext l4 _) l4 _, ⟨l4, l5⟩, hne, e4, e5, e3, box2_both hb _ _, ?_, ⟨B, vxs, hk.turn hb ho⟩, hf.sub (HH.only1 ho), ⟨k, RT.sub (HH.only1 ho) hr⟩⟩
  exact (ho.block _ (heap_lt hb') (fun e => hne e.symm)).trans hb'
theorem R3b.store {P : Pg} {t : Tm} {w1 W : World} {vv : Nat → Value} {b b' : Nat} {ud uf xa xc : Value} (h : R3b P t w1 W vv b b' ud uf xa xc) :
    R3c P t w1 ((((((W.setCell ⟨b', 0, none⟩ (.int .i64 t.op)).setCell ⟨b', 1, none⟩ (.int .i64 t.n)).setCell ⟨b', 2, none⟩ (.string t.nm)).setCell ⟨b', 3, none⟩ (.int .i64 t.ty)).setCell ⟨b', 4, none⟩ xa).setCell ⟨b', 5, none⟩ xc) b b' ud uf xa xc := by
  have ho := only6_set W b' (.int .i64 t.op) (.int .i64 t.n) (.string t.nm) (.int .i64 t.ty) xa xc
  obtain ⟨B, vxs, hk⟩ := h.decls
  obtain ⟨k, hr⟩ := h.body
  refine ⟨?_, (ho.block _ (heap_lt h.box) h.ne).trans h.box, box6_set h.box' _ _ _ _ _ _, ⟨B, vxs, hk.turn43 h.box' ho⟩, h.funs.sub ((HH.only2 ho).tr (HH.un _ _ _)), ⟨k, RT.sub ((HH.only2 ho).tr (HH.un _ _ _)) hr⟩⟩
  exact h.ext.trans (ho.below h.ext.size (fun k e => by rw [e]; exact h.lo.2))
end Go.Proofs.YtogmjgccopmplaaGreat

/- ref.go: SameStrings, of equal lists. -/
namespace Go.Proofs.YtogmjgccopmplaaGreat
open Go.RowKit

set_option maxHeartbeats 1000000 in
set_option maxRecDepth 100000 in
theorem same_any (v1 v2 : Value) (l : List Str) (w : World) (h1 : RStrs w v1 l) (h2 : RStrs w v2 l) :
    Calls Tryz.prog 51 #[v1, v2] w fun e w' => e = .returned (.bool true) ∧ Ext w w' := by
  have H1 := Lib.hid h1; have H2 := Lib.hid h2
  obtain ⟨A1, c1, rfl, hc1, hm1⟩ := h1.form
  obtain ⟨A2, c2, rfl, hc2, hm2⟩ := h2.form
  clear h1 h2
  unfold maxLen at hm1 hm2
  go_enter Tryz.func51, Tryz.ntmps51
  go_wp2
  go_loopw [13] (fun i wr => ∃ k : Nat, k ≤ l.length ∧ i = .int .i64 k ∧ Ext w wr) (fun i _ => l.length - (intOf i).toNat)
  case atStart => exact ⟨0, Nat.zero_le _, rfl, Ext.rf _⟩
  case round =>
    obtain ⟨k, hk, rfl, hb⟩ := hrel
    have HB := Lib.hid hb
    clear hb
    by_cases hlt : k < l.length
    · obtain ⟨b, o, rfl, hbl, y0, hs⟩ := H1.out.at_ hlt
      obtain ⟨b', o', rfl, hbl', z0, hs'⟩ := H2.out.at_ hlt
      have y0 := HB.out.keep y0
      have z0 := HB.out.keep z0
      generalize l[k] = s at *
      have hmx : Tryz.prog.follows .mixedOrders = true := by kernel_rfl
      go_wp2
      refine wp_region_ext (w0 := wr) (by kernel_rfl) (by kernel_rfl) (Ext.rf _) ?_
      have y0 := fun p : ExtOf wr => ExtOf.cell y0 p
      have z0 := fun p : ExtOf wr => ExtOf.cell z0 p
      repeat (first | go_big_quiet_step (fail) | quiet_step (fail))
      refine wpQuiet_nil ?_
      rintro _ ⟨⟨w2, hx⟩, rfl⟩
      have HX := Lib.hid hx
      clear hx
      go_wp2
      go_roundw
      case rel => exact ⟨k + 1, by omega, by go_num, HB.out.tr HX.out⟩
      case measure => simp [intOf]; omega
    · go_wp2
      go_ret
      exact ⟨rfl, HB.out⟩
end Go.Proofs.YtogmjgccopmplaaGreat

namespace Go.Proofs.YtogmjgccopmplaaGreat
open Go.RowKit


theorem hasConsumer_any (v : Value) (l : List Arg) (w : World) (h : RArgs w v l) :
    Calls Tryz.prog 143 #[v] w fun e w' => e = .returned (.bool (hasCo l)) ∧ Below w.heap.size w w' := by
  have HR := Lib.hid h
  obtain ⟨A, c, rfl, hc, hm, hcell⟩ := h
  clear hcell
  unfold maxLen at hm
  go_enter Tryz.func143, Tryz.ntmps143
  go_wp2
  go_loopw [7] (fun i wr => ∃ k : Nat, k ≤ l.length ∧ i = .int .i64 k ∧ Below w.heap.size w wr ∧ hasCo l = hasCo (l.drop k)) (fun i _ => l.length - (intOf i).toNat)
  case atStart => exact ⟨0, Nat.zero_le _, rfl, Below.refl _ _, rfl⟩
  case round =>
    obtain ⟨k, hk, rfl, hb, hno⟩ := hrel
    have HN := Lib.hid hno; have HB := Lib.hid hb; clear hno hb
    by_cases hlt : k < l.length
    · obtain ⟨b, o, rfl, hbl, h0, h1⟩ := HR.out.at_ hlt
      have HD := Lib.hid (drop_step hlt)
      have h0 := (HB.out.cell hbl).trans h0
      have h1 := (HB.out.cell hbl).trans h1
      generalize l[k] = a at *
      go_wp2
      · have q : a.co = true := by assumption
        go_ret
        exact ⟨ret_bool (by rw [HN.out, HD.out]; simp [hasCo, q]), HB.out.alloc HB.out.size _⟩
      · have q : a.co = false := by assumption
        go_roundw
        case rel => exact ⟨k + 1, by omega, by go_num, HB.out.alloc HB.out.size _, by rw [HN.out, HD.out]; simp [hasCo, q]⟩
        case measure => simp [intOf]; omega
    · go_wp2
      go_ret
      exact ⟨ret_bool (by rw [HN.out, drop_end hlt]; rfl), HB.out⟩

theorem ends_any (v : Value) (l : List Arg) (w : World) (h : RArgs w v l) :
    Calls Tryz.prog 124 #[v] w fun e w' => e = .returned (.bool (endsB l)) ∧ Below w.heap.size w w' := by
  have HR := Lib.hid h
  obtain ⟨A, c, rfl, hc, hm, hcell⟩ := h
  clear hcell
  unfold maxLen at hm
  have HE : Hid (endsB l = (lastCo l && !hasCo (l.take (l.length - 1)))) := rfl
  by_cases h0 : 0 < l.length
  · obtain ⟨b, o, rfl, hbl, h1, h2⟩ := HR.out.at_ (k := l.length - 1) (by omega)
    have HL := Lib.hid (lastCo_eq h0)
    have HT := Lib.hid (HR.out.take (n := l.length - 1) (by omega))
    generalize l[l.length - 1] = a at *
    go_enter Tryz.func124, Tryz.ntmps124
    go_wp2_with (go_at_call 143; (with_reducible refine (hasConsumer_any _ _ _ HT.out).mono ?_); rintro e w' ⟨rfl, hb⟩)
    · have q : a.co = true := by assumption
      go_ret
      exact ⟨ret_bool (by rw [HE.out, HL.out, q]; rfl), hb⟩
    · have q : ¬ a.co = true := by assumption
      go_ret
      exact ⟨ret_bool (by rw [HE.out, HL.out]; simp [q]), Below.refl _ _⟩
  · have HL := Lib.hid (lastCo_nil h0)
    go_enter Tryz.func124, Tryz.ntmps124
    go_wp2
    go_ret
    exact ⟨ret_bool (by rw [HE.out, HL.out]; rfl), Below.refl _ _⟩

theorem Consumers_any (va : Value) (x : Xtor) (w : World) (h : RArgs w va x.args) :
    Calls Tryz.prog 72 #[.agg #[.string x.name, va]] w fun e w' => e = .returned (.int .i64 (nCo x.args)) ∧ Below w.heap.size w w' := by
  generalize x.args = l at *
  have HR := Lib.hid h
  obtain ⟨A, c, rfl, hc, hm, hcell⟩ := h
  clear hcell
  unfold maxLen at hm
  go_enter Tryz.func72, Tryz.ntmps72
  go_wp2
  have hB1 : Below w.heap.size w (w.alloc (Obj.cells #[Value.string x.name, Value.slice A l.length c] 67)) := (Below.refl _ _).alloc (Nat.le_refl _) _
  generalize w.alloc _ = w1 at *
  have HB1 := Lib.hid hB1; clear hB1
  have HR1 := Lib.hid (HR.out.below HB1.out)
  go_loopw [3, 9] (fun n i wr => ∃ (k q : Nat), k ≤ l.length ∧ q ≤ k ∧ i = .int .i64 k ∧ n = .int .i64 q ∧ Below w1.heap.size w1 wr ∧ nCo l = q + nCo (l.drop k)) (fun _ i _ => l.length - (intOf i).toNat)
  case atStart => exact ⟨0, 0, Nat.zero_le _, Nat.le_refl _, rfl, rfl, Below.refl _ _, by simp⟩
  case round =>
    obtain ⟨k, q, hk, hq, rfl, rfl, hb, hno⟩ := hrel
    have HN := Lib.hid hno; have HB := Lib.hid hb; clear hno hb
    by_cases hlt : k < l.length
    · obtain ⟨b, o, rfl, hbl, h0, h1⟩ := HR1.out.at_ hlt
      have HD := Lib.hid (drop_step hlt)
      have h0 := (HB.out.cell hbl).trans h0
      have h1 := (HB.out.cell hbl).trans h1
      generalize l[k] = a at *
      go_wp2
      · have e : a.co = true := by assumption
        go_roundw
        case rel => exact ⟨k + 1, q + 1, by omega, by omega, by go_num, by go_num, HB.out.alloc HB.out.size _, by rw [HN.out, HD.out]; simp [nCo, e]; omega⟩
        case measure => simp [intOf]; omega
      · have e : a.co = false := by assumption
        go_roundw
        case rel => exact ⟨k + 1, q, by omega, by omega, by go_num, by go_num, HB.out.alloc HB.out.size _, by rw [HN.out, HD.out]; simp [nCo, e]⟩
        case measure => simp [intOf]; omega
    · go_wp2
      go_ret
      exact ⟨ret_int (by rw [HN.out, drop_end hlt]; simp [nCo]), HB1.out.trans (HB.out.mono HB1.out.size)⟩

theorem Ends_any (va : Value) (x : Xtor) (w : World) (h : RArgs w va x.args) :
    Calls Tryz.prog 71 #[.agg #[.string x.name, va]] w fun e w' => e = .returned (.bool (endsB x.args)) ∧ Below w.heap.size w w' := by
  have HE := Lib.hid (endsB_eq x.args)
  have hb1 : Below w.heap.size w (w.alloc (Obj.cells #[Value.string x.name, va] 67)) := (Below.refl _ _).alloc (Nat.le_refl _) _
  have HB1 := Lib.hid hb1
  have HR := Lib.hid (h.below hb1)
  clear hb1
  have hl1 : nCo x.args = 1 → 0 < x.args.length := by
    intro e
    rcases Nat.eq_zero_or_pos x.args.length with h0 | h0
    · rw [List.eq_nil_of_length_eq_zero h0] at e; cases e
    · exact h0
  have HL1 := Lib.hid hl1; clear hl1
  have hc0 : (w.alloc (Obj.cells #[Value.string x.name, va] 67)).cell? ⟨w.heap.size, 0, none⟩ = some (.string x.name) := by
    rw [World.cell?_alloc_at _ _ _ _ rfl]; rfl
  have hc1 : (w.alloc (Obj.cells #[Value.string x.name, va] 67)).cell? ⟨w.heap.size, 1, none⟩ = some va := by
    rw [World.cell?_alloc_at _ _ _ _ rfl]; rfl
  go_enter Tryz.func71, Tryz.ntmps71
  go_wp2_with fail
  (with_reducible refine (Consumers_any _ _ _ HR.out).mono ?_)
  rintro e w2 ⟨rfl, hb2⟩
  have HC0 := Lib.hid ((hb2.cell (p := ⟨w.heap.size, 0, none⟩) (by simp)).trans hc0)
  have hd1 := ((hb2.cell (p := ⟨w.heap.size, 1, none⟩) (by simp)).trans hc1)
  have HR2 := Lib.hid (HR.out.below hb2)
  have HB2 := Lib.hid (HB1.out.trans (hb2.mono HB1.out.size))
  clear hb2 hc0 hc1 h
  by_cases h1 : nCo x.args = 1
  · have h0 := HL1.out h1
    have HL := Lib.hid (lastCo_eq h0)
    have hr2 := HR2.out
    obtain ⟨A, c, rfl, hc, hm, hcell⟩ := hr2
    clear hcell
    unfold maxLen at hm
    obtain ⟨b, o, rfl, hbl, h3, h4⟩ := HR2.out.at_ (k := x.args.length - 1) (by omega)
    generalize x.args[x.args.length - 1] = a at *
    have hn : ((nCo x.args : Int) == 1) = true := by simp [h1]
    have H1 := Lib.hid h1; clear h1
    go_wp2
    go_ret
    exact ⟨ret_bool (by rw [HE.out, HL.out, H1.out]; simp), HB2.out⟩
  · have hn : ((nCo x.args : Int) == 1) = false := by simp; omega
    have H1 := Lib.hid h1; clear h1
    go_wp2
    go_ret
    exact ⟨ret_bool (by rw [HE.out]; simp [H1.out]), HB2.out⟩

/-- A declaration as a value. -/
def RDecl (w : World) (v : Value) (d : Decl) : Prop := ∃ va, v = .agg #[.string d.name, .bool d.codata, va] ∧ RXtors w va d.xtors ∧ d.name.size ≤ maxLen

theorem isSource_any (v : Value) (d : Decl) (w : World) (h : RDecl w v d) :
    Calls Tryz.prog 119 #[v] w fun e w' => e = .returned (.bool (srcD d)) ∧ Below w.heap.size w w' := by
  obtain ⟨va, rfl, hx, hnm⟩ := h
  have HS : Hid (srcD d = d.xtors.all (srcX d.codata)) := rfl
  obtain ⟨nm, co, l⟩ := d
  dsimp only at *
  have HR := Lib.hid hx
  obtain ⟨A, c, rfl, hc, hm, hcell⟩ := hx
  clear hcell
  unfold maxLen at hm
  go_enter Tryz.func119, Tryz.ntmps119
  go_wp2
  have hB1 : Below w.heap.size w (w.alloc (Obj.cells #[Value.string nm, Value.bool co, Value.slice A l.length c] 72)) := (Below.refl _ _).alloc (Nat.le_refl _) _
  have hc1 : (w.alloc (Obj.cells #[Value.string nm, Value.bool co, Value.slice A l.length c] 72)).cell? ⟨w.heap.size, 1, none⟩ = some (.bool co) := by
    rw [World.cell?_alloc_at _ _ _ _ rfl]; rfl
  have hz : w.heap.size < (w.alloc (Obj.cells #[Value.string nm, Value.bool co, Value.slice A l.length c] 72)).heap.size := by simp
  generalize w.alloc _ = w1 at *
  have HB1 := Lib.hid hB1; clear hB1
  have HR1 := Lib.hid (HR.out.below HB1.out)
  go_loopw [8] (fun i wr => ∃ k : Nat, k ≤ l.length ∧ i = .int .i64 k ∧ Below w1.heap.size w1 wr ∧ l.all (srcX co) = (l.drop k).all (srcX co)) (fun i _ => l.length - (intOf i).toNat)
  case atStart => exact ⟨0, Nat.zero_le _, rfl, Below.refl _ _, by simp⟩
  case round =>
    obtain ⟨k, hk, rfl, hb, hno⟩ := hrel
    have HN := Lib.hid hno; have HB := Lib.hid hb; clear hno hb
    have hc1 := (HB.out.cell (p := ⟨w.heap.size, 1, none⟩) hz).trans hc1
    by_cases hlt : k < l.length
    · obtain ⟨b, o, va, rfl, hbl, h0, h1, h2, h3⟩ := HR1.out.at_ hlt
      have HD := Lib.hid (drop_step hlt)
      have h0 := (HB.out.cell hbl).trans h0
      have h1 := (HB.out.cell hbl).trans h1
      generalize l[k] = a at *
      have HA := Lib.hid (h2.below HB.out); clear h2
      obtain ⟨A2, c2, rfl, -⟩ := HA.out.form
      have hzr : w.heap.size < wr.heap.size := Nat.lt_of_lt_of_le hz HB.out.size
      have HX1 : Hid (co = true → srcX co a = endsB a.args) := fun e => by simp [srcX, e]
      have HX2 : Hid (co = false → srcX co a = !hasCo a.args) := fun e => by simp [srcX, e]
      have hal : Below wr.heap.size wr (wr.alloc (Obj.cells #[Value.string a.name, Value.slice A2 a.args.length c2] 67)) := (Below.refl _ _).alloc (Nat.le_refl _) _
      have HW := Lib.hid (HB1.out.trans ((HB.out.trans (hal.mono HB.out.size)).mono HB1.out.size))
      have HV := Lib.hid (HB.out.trans (hal.mono HB.out.size))
      clear hal
      cases co
      · have HX := Lib.hid (HX2.out rfl); clear HX1 HX2
        go_wp2_with (go_at_call 143; (with_reducible refine (hasConsumer_any _ _ _ (HA.out.below ((Below.refl _ _).alloc (Nat.le_refl _) _))).mono ?_); rintro e w' ⟨rfl, hb2⟩)
        · have q : hasCo a.args = true := by assumption
          go_ret
          exact ⟨ret_bool (by rw [HS.out, HN.out, HD.out]; simp [HX.out, q]), HW.out.trans (hb2.mono HW.out.size)⟩
        · have q : hasCo a.args = false := by assumption
          go_roundw
          case rel => exact ⟨k + 1, by omega, by go_num, HV.out.trans (hb2.mono HV.out.size), by rw [HN.out, HD.out]; simp [HX.out, q]⟩
          case measure => simp [intOf]; omega
      · have HX := Lib.hid (HX1.out rfl); clear HX1 HX2
        have hc4 := (Ext.al wr (Obj.cells #[Value.string a.name, Value.slice A2 a.args.length c2] 67)).keep hc1
        go_wp2_with (go_at_call 124; (with_reducible refine (ends_any _ _ _ (HA.out.below (Ext.al _ _))).mono ?_); rintro e w' ⟨rfl, hb2⟩; have hc3 := Ext.keep hb2 hc4)
        · have q : endsB a.args = true := by assumption
          go_roundw
          case rel => exact ⟨k + 1, by omega, by go_num, HV.out.trans (hb2.mono HV.out.size), by rw [HN.out, HD.out]; simp [HX.out, q]⟩
          case measure => simp [intOf]; omega
        · have q : ¬ endsB a.args = true := by assumption
          go_ret
          exact ⟨ret_bool (by rw [HS.out, HN.out, HD.out]; simp [HX.out, q]), HW.out.trans (hb2.mono HW.out.size)⟩
    · go_wp2
      go_ret
      exact ⟨ret_bool (by rw [HS.out, HN.out, drop_end hlt]; rfl), HB1.out.trans (HB.out.mono HB1.out.size)⟩

theorem srcX_t (a : Xtor) : srcX true a = endsB a.args := rfl
theorem srcX_f (a : Xtor) : srcX false a = !hasCo a.args := rfl

theorem RSource_any (v : Value) (l : List Decl) (w : World) (h : RDecls w v l) :
    Calls Tryz.prog 35 #[v] w fun e w' => e = .returned (.bool (srcB l)) ∧ Ext w w' := by
  have HS : Hid (srcB l = l.all srcD) := rfl
  have HR := Lib.hid h
  obtain ⟨A, c, rfl, hc, hm⟩ := h.form
  clear h
  unfold maxLen at hm
  go_enter Tryz.func35, Tryz.ntmps35
  go_wp2
  go_loopw [9] (fun i wr => ∃ k : Nat, k ≤ l.length ∧ i = .int .i64 k ∧ Ext w wr ∧ l.all srcD = (l.drop k).all srcD) (fun i _ => l.length - (intOf i).toNat)
  case atStart => exact ⟨0, Nat.zero_le _, rfl, Ext.rf _, by simp⟩
  case round =>
    obtain ⟨k, hk, rfl, hb, hno⟩ := hrel
    obtain ⟨wo, rfl⟩ : ∃ wo : World, wo = wr := ⟨_, rfl⟩
    have HN := Lib.hid hno; have HB := Lib.hid hb; clear hno hb
    by_cases hlt : k < l.length
    · have HRk := Lib.hid (HR.out.below HB.out)
      obtain ⟨b, o, vx, rfl, hbl, h0, h1, h2, h3, h4⟩ := HRk.out.at_ hlt
      have HD := Lib.hid (drop_step hlt)
      have HSd : Hid (srcD l[k] = l[k].xtors.all (srcX l[k].codata)) := rfl
      generalize l[k] = d at *
      obtain ⟨nm, co, xs⟩ := d
      dsimp only at *
      obtain ⟨A2, c2, rfl, hc2, hm2⟩ := h3.form
      unfold maxLen at hm2
      have HX := Lib.hid h3; clear h3
      go_wp2
      have hc1 : (wo.alloc (Obj.cells #[Value.string nm, Value.bool co, Value.slice A2 xs.length c2] 72)).cell? ⟨wo.heap.size, 1, none⟩ = some (.bool co) := by
        rw [World.cell?_alloc_at _ _ _ _ rfl]; rfl
      have hE1 := Ext.al wo (Obj.cells #[Value.string nm, Value.bool co, Value.slice A2 xs.length c2] 72)
      generalize wo.alloc _ = w1 at *
      have HE1 := Lib.hid hE1; clear hE1
      have HX1 := Lib.hid (HX.out.below HE1.out)
      go_loopw [16] (fun i wr => ∃ j : Nat, j ≤ xs.length ∧ i = .int .i64 j ∧ Ext w1 wr ∧ xs.all (srcX co) = (xs.drop j).all (srcX co)) (fun i _ => xs.length - (intOf i).toNat)
      case atStart => exact ⟨0, Nat.zero_le _, rfl, Ext.rf _, by simp⟩
      case round =>
        obtain ⟨j, hj, rfl, hb2, hno2⟩ := hrel
        have HN2 := Lib.hid hno2; have HB2 := Lib.hid hb2; clear hno2 hb2
        have hc1 := HB2.out.keep hc1
        by_cases hlt2 : j < xs.length
        · have HX2 := Lib.hid (HX1.out.below HB2.out)
          obtain ⟨b2, o2, va, rfl, hbl2, g0, g1, g2, g3⟩ := HX2.out.at_ hlt2
          have HD2 := Lib.hid (drop_step hlt2)
          generalize xs[j] = x at *
          obtain ⟨A3, c3, rfl, -⟩ := g2.form
          have hE2 := Ext.al wr (Obj.cells #[Value.string x.name, Value.slice A3 x.args.length c3] 67)
          have HE2 := Lib.hid (HB2.out.tr hE2)
          have HA := Lib.hid (g2.below hE2); clear g2
          have hc2' := hE2.keep hc1
          clear hE2
          cases co
          · go_wp2_with (go_at_call 72; (with_reducible refine (Consumers_any _ _ _ HA.out).mono ?_); rintro e w' ⟨rfl, hb2⟩)
            · have q : 0 < nCo x.args := by omega
              go_ret
              exact ⟨ret_bool (by rw [HS.out, HN.out, HD.out, List.all_cons, HSd.out, HN2.out, HD2.out, List.all_cons, srcX_f, hasCo_iff]; simp [q]), HB.out.tr (HE1.out.tr (HE2.out.tr hb2))⟩
            · have q : ¬ 0 < nCo x.args := by omega
              go_roundw
              case rel => exact ⟨j + 1, by omega, by go_num, HE2.out.tr hb2, by rw [HN2.out, HD2.out, List.all_cons, srcX_f, hasCo_iff]; simp [q]⟩
              case measure => simp [intOf]; omega
          · go_wp2_with (go_at_call 71; (with_reducible refine (Ends_any _ _ _ HA.out).mono ?_); rintro e w' ⟨rfl, hb2⟩; have hc3 := Ext.keep hb2 hc2')
            · have q : endsB x.args = true := by assumption
              go_roundw
              case rel => exact ⟨j + 1, by omega, by go_num, HE2.out.tr hb2, by rw [HN2.out, HD2.out, List.all_cons, srcX_t, q]; rfl⟩
              case measure => simp [intOf]; omega
            · have q : endsB x.args = false := by simpa using ‹¬ endsB x.args = true›
              go_ret
              exact ⟨ret_bool (by rw [HS.out, HN.out, HD.out, List.all_cons, HSd.out, HN2.out, HD2.out, List.all_cons, srcX_t, q]; simp), HB.out.tr (HE1.out.tr (HE2.out.tr hb2))⟩
        · go_wp2
          go_roundw
          case rel => exact ⟨k + 1, by omega, by go_num, HB.out.tr (HE1.out.tr HB2.out), by rw [HN.out, HD.out, List.all_cons, HSd.out, HN2.out, drop_end hlt2]; rfl⟩
          case measure => simp [intOf]; omega
    · go_wp2
      go_ret
      exact ⟨ret_bool (by rw [HS.out, HN.out, drop_end hlt]; rfl), HB.out⟩
end Go.Proofs.YtogmjgccopmplaaGreat
