/- law.go: TermOwn: two copies into two boxes, in any order. -/
import Derived.Test.YtfohcdpfgbeclaaGreatQ21
import Derived.Deep.QuietTactic
import Derived.BigQuiet
import Derived.WalkSmall
namespace Go.Proofs.YtfohcdpfgbeclaaGreat
open Go.RowKit

def pmask (p : Nat → Bool) (w : World) : World := { w with heap := w.heap.mapIdx fun i o => if p i then o else .cells #[] 0 (0, 0) }
theorem pm_size (p : Nat → Bool) (w : World) : (pmask p w).heap.size = w.heap.size := Array.size_mapIdx ..
theorem pm_in {p : Nat → Bool} {w : World} {k : Nat} (h : p k = true) : (pmask p w).heap[k]? = w.heap[k]? := by
  show (w.heap.mapIdx _)[k]? = _
  rw [Array.getElem?_mapIdx]
  simp only [h, if_true]
  cases w.heap[k]? <;> rfl
theorem pm_cell {p : Nat → Bool} {w : World} {q : Addr} {v : Value} (h : (pmask p w).cell? q = some v) : p q.block = true ∧ w.cell? q = some v := by
  cases hk : p q.block
  · exfalso
    unfold World.cell? at h
    have e : (pmask p w).heap[q.block]? = w.heap[q.block]?.map fun _ => .cells #[] 0 (0, 0) := by
      show (w.heap.mapIdx _)[q.block]? = _
      rw [Array.getElem?_mapIdx]
      simp only [hk, Bool.false_eq_true, if_false]
    rw [e] at h
    cases hw : w.heap[q.block]? with
    | none => rw [hw] at h; cases h
    | some o => rw [hw] at h; simp at h
  · exact ⟨rfl, by rw [← World.cell?_of_block (pm_in hk)]; exact h⟩
/-- Nothing but two boxes is hidden. -/
def hh (g g' : Option Nat) (k : Nat) : Bool := decide (some k ≠ g) && decide (some k ≠ g')
def HH (g g' : Option Nat) (W : World) : World := pmask (hh g g') W
theorem hh_iff {g g' : Option Nat} {k : Nat} : hh g g' k = true ↔ some k ≠ g ∧ some k ≠ g' := by unfold hh; simp
theorem HH.cell {g g' : Option Nat} {W : World} {p : Addr} {v : Value} (h : (HH g g' W).cell? p = some v) : (some p.block ≠ g ∧ some p.block ≠ g') ∧ W.cell? p = some v := by
  obtain ⟨h1, h2⟩ := pm_cell h
  exact ⟨hh_iff.1 h1, h2⟩
theorem HH.un (g g' : Option Nat) (W : World) : Sub (HH g g' W) W := ⟨Nat.le_of_eq (pm_size _ _), fun _ _ h => (HH.cell h).2⟩
theorem Sub.hh {X W' : World} {g g' : Option Nat} (hs : X.heap.size ≤ W'.heap.size) (h : ∀ p v, X.cell? p = some v → (some p.block ≠ g ∧ some p.block ≠ g') ∧ W'.cell? p = some v) : Sub X (HH g g' W') := by
  refine ⟨by unfold HH; rw [pm_size]; exact hs, fun p v e => ?_⟩
  obtain ⟨h1, h2⟩ := h p v e
  exact (World.cell?_of_block (pm_in (hh_iff.2 h1))).trans h2
theorem HH.ext {g g' : Option Nat} {W W' : World} (hb : Ext W W') : Sub (HH g g' W) (HH g g' W') :=
  Sub.hh (by unfold HH; rw [pm_size]; exact hb.size) fun p v e => ⟨(HH.cell e).1, hb.keep (HH.cell e).2⟩
theorem HH.new1 (g' : Option Nat) (W : World) (o : Obj) : Sub (HH none g' W) (HH (some W.heap.size) g' (W.alloc o)) :=
  Sub.hh (by unfold HH; rw [pm_size]; exact (Ext.al W o).size) fun p v e => ⟨⟨fun h => by
    have := cell_lt (HH.cell e).2
    injection h with h; omega, (HH.cell e).1.2⟩, (Ext.al W o).keep (HH.cell e).2⟩
theorem HH.new2 (g : Option Nat) (W : World) (o : Obj) : Sub (HH g none W) (HH g (some W.heap.size) (W.alloc o)) :=
  Sub.hh (by unfold HH; rw [pm_size]; exact (Ext.al W o).size) fun p v e => ⟨⟨(HH.cell e).1.1, fun h => by
    have := cell_lt (HH.cell e).2
    injection h with h; omega⟩, (Ext.al W o).keep (HH.cell e).2⟩
theorem HH.of_mask {B : Nat} {g g' : Option Nat} {W : World} (h1 : ∀ k, g = some k → k < B) (h2 : ∀ k, g' = some k → k < B) : Sub (mask B none W) (HH g g' W) :=
  Sub.hh (by rw [mask_size]; exact Nat.le_refl _) fun p v e => by
    obtain ⟨⟨h3, -⟩, h4⟩ := mask_cell e
    exact ⟨⟨fun h => by have := h1 _ h.symm; omega, fun h => by have := h2 _ h.symm; omega⟩, h4⟩
/-- Behind stores into the first box. -/
theorem HH.only1 {b : Nat} {g' : Option Nat} {W W' : World} (h : Only (fun j => j = b) W W') : Sub (HH (some b) g' W) (HH (some b) g' W') :=
  Sub.hh (by unfold HH; rw [pm_size]; exact h.size) fun p v e => by
    obtain ⟨h1, h2⟩ := HH.cell e
    exact ⟨h1, (World.cell?_of_block (h.block _ (cell_lt h2) (fun e => h1.1 (by rw [e])))).trans h2⟩
theorem HH.only2 {b : Nat} {g : Option Nat} {W W' : World} (h : Only (fun j => j = b) W W') : Sub (HH g (some b) W) (HH g (some b) W') :=
  Sub.hh (by unfold HH; rw [pm_size]; exact h.size) fun p v e => by
    obtain ⟨h1, h2⟩ := HH.cell e
    exact ⟨h1, (World.cell?_of_block (h.block _ (cell_lt h2) (fun e => h1.2 (by rw [e])))).trans h2⟩
theorem row_turn43 {w w' : World} {B e size n g : Nat} {v : Value} {xs : List Value} {c : Array Value} (h : w.ownsRow B e size v n xs) (hg : w.heap[g]? = some (.cells c 43 (0, 0))) (ho : Only (fun j => j = g) w w') (he : e ≠ 43) : w'.ownsRow B e size v n xs :=
  row_at h fun q cur _ hc => ho.block q (heap_lt hc) (fun e2 => by
    subst e2
    rw [hc] at hg
    injection hg with hg
    injection hg with _ ht
    exact he ht)
theorem KD.turn43 {w w' : World} {B g : Nat} {v : Value} {l : List Decl} {vxs : List Value} {c : Array Value} (h : KD w B v l vxs) (hg : w.heap[g]? = some (.cells c 43 (0, 0))) (ho : Only (fun j => j = g) w w') : KD w' B v l vxs :=
  ⟨h.len, row_turn43 h.row hg ho (by decide), fun i vx d a b => by
    obtain ⟨vas, hx⟩ := h.xtors i vx d a b
    exact ⟨vas, hx.len, row_turn43 hx.row hg ho (by decide), fun i va x a b => row_turn43 (hx.args i va x a b) hg ho (by decide)⟩⟩

abbrev zero43 : Array Value := #[.int .i64 0, .int .i64 0, .string ⟨#[]⟩, .int .i64 0, .slice none 0 0, .slice none 0 0]
/-- Ahead of the two stores. -/
structure R3 (P : Pg) (t : Tm) (vp vt : Value) (w1 : World) (Ls : Nat → Bool) (W : World) (vv : Nat → Value) (g g' : Option Nat) : Prop where
  ext : Ext w1 W
  z4 : Ls 4 = false → g = none
  o4 : Ls 4 = true → ∃ b, g = some b ∧ w1.heap.size ≤ b ∧ vv 4 = .pointer (some ⟨b, 0, none⟩) ∧ W.heap[b]? = some (.cells #[.slice none 0 0, .slice none 0 0] 25 (0, 0))
  z5 : Ls 5 = false → g' = none
  o5 : Ls 5 = true → ∃ b, g' = some b ∧ w1.heap.size ≤ b ∧ vv 5 = .pointer (some ⟨b, 0, none⟩) ∧ W.heap[b]? = some (.cells zero43 43 (0, 0))
  f0 : Ls 0 = true → vv 0 = vp
  f1 : Ls 1 = true → ∃ ud uf vxs B, vv 1 = pV ud uf ∧ KD W B ud P.decls vxs ∧ RFns (HH g g' W) uf P.funs
  f2 : Ls 2 = true → vv 2 = vt
  f3 : Ls 3 = true → ∃ xa xc k, vv 3 = tV t xa xc ∧ RT (HH g g' W) k t xa xc
section
variable {P : Pg} {t : Tm} {vp vt : Value} {w1 W W' : World} {Ls : Nat → Bool} {vv : Nat → Value} {g g' : Option Nat} {v : Value}
theorem set_ne {Ls : Nat → Bool} {i j : Nat} {b : Bool} (h : (decide (j = i) || Ls j) = b) (hn : j ≠ i) : Ls j = b := by
  rw [decide_eq_false hn, Bool.false_or] at h; exact h
theorem R3.lt1 (h : R3 P t vp vt w1 Ls W vv g g') : ∀ k, g = some k → k < W.heap.size := fun k hk => by
  cases h4 : Ls 4
  · rw [h.z4 h4] at hk; cases hk
  · obtain ⟨b, e, -, -, hb⟩ := h.o4 h4
    rw [e] at hk; cases hk
    exact heap_lt hb
theorem R3.lt2 (h : R3 P t vp vt w1 Ls W vv g g') : ∀ k, g' = some k → k < W.heap.size := fun k hk => by
  cases h4 : Ls 5
  · rw [h.z5 h4] at hk; cases hk
  · obtain ⟨b, e, -, -, hb⟩ := h.o5 h4
    rw [e] at hk; cases hk
    exact heap_lt hb
theorem R3.step {i : Nat} (h : R3 P t vp vt w1 Ls W vv g g') (hi : i < 4) (hb : Ext W W') (v : Value) (h0 : i = 0 → v = vp)
    (h1 : i = 1 → ∃ ud uf vxs B, v = pV ud uf ∧ KD W' B ud P.decls vxs ∧ RFns (mask W.heap.size none W') uf P.funs) (h2 : i = 2 → v = vt)
    (h3 : i = 3 → ∃ xa xc k, v = tV t xa xc ∧ RT (mask W.heap.size none W') k t xa xc) : R3 P t vp vt w1 (fun j => decide (j = i) || Ls j) W' (fun j => if j = i then v else vv j) g g' where
  ext := h.ext.tr hb
  z4 := fun e => h.z4 (set_ne e (by omega))
  o4 := fun e => by
    obtain ⟨b, e1, e2, e3, e4⟩ := h.o4 (set_ne e (by omega))
    exact ⟨b, e1, e2, by simp only [if_neg (show ¬ 4 = i by omega)]; exact e3, (hb.block _ (heap_lt e4)).trans e4⟩
  z5 := fun e => h.z5 (set_ne e (by omega))
  o5 := fun e => by
    obtain ⟨b, e1, e2, e3, e4⟩ := h.o5 (set_ne e (by omega))
    exact ⟨b, e1, e2, by simp only [if_neg (show ¬ 5 = i by omega)]; exact e3, (hb.block _ (heap_lt e4)).trans e4⟩
  f0 := fun e => by
    by_cases hj : 0 = i
    · simp only [if_pos hj]; exact h0 hj.symm
    · simp only [if_neg hj]; exact h.f0 (set_ne e hj)
  f1 := fun e => by
    by_cases hj : 1 = i
    · simp only [if_pos hj]
      obtain ⟨ud, uf, vxs, B, e1, e2, e3⟩ := h1 hj.symm
      exact ⟨ud, uf, vxs, B, e1, e2, e3.sub (HH.of_mask h.lt1 h.lt2)⟩
    · simp only [if_neg hj]
      obtain ⟨ud, uf, vxs, B, e1, e2, e3⟩ := h.f1 (set_ne e hj)
      exact ⟨ud, uf, vxs, B, e1, e2.ext hb, e3.sub (HH.ext hb)⟩
  f2 := fun e => by
    by_cases hj : 2 = i
    · simp only [if_pos hj]; exact h2 hj.symm
    · simp only [if_neg hj]; exact h.f2 (set_ne e hj)
  f3 := fun e => by
    by_cases hj : 3 = i
    · simp only [if_pos hj]
      obtain ⟨xa, xc, k, e1, e2⟩ := h3 hj.symm
      exact ⟨xa, xc, k, e1, RT.sub (HH.of_mask h.lt1 h.lt2) e2⟩
    · simp only [if_neg hj]
      obtain ⟨xa, xc, k, e1, e2⟩ := h.f3 (set_ne e hj)
      exact ⟨xa, xc, k, e1, RT.sub (HH.ext hb) e2⟩
theorem R3.alloc4 (h : R3 P t vp vt w1 Ls W vv g g') (hl : Ls 4 = false) : R3 P t vp vt w1 (fun j => decide (j = 4) || Ls j) (W.alloc (.cells #[.slice none 0 0, .slice none 0 0] 25)) (fun j => if j = 4 then .pointer (some ⟨W.heap.size, 0, none⟩) else vv j) (some W.heap.size) g' := by
  have hg := h.z4 hl
  subst hg
  have hb := Ext.al W (.cells #[.slice none 0 0, .slice none 0 0] 25)
  refine ⟨h.ext.tr hb, fun e => by simp at e, fun _ => ⟨_, rfl, h.ext.size, by simp, heapNew _ _⟩, fun e => h.z5 (set_ne e (by omega)), fun e => ?_, fun e => h.f0 (set_ne e (by omega)), fun e => ?_, fun e => h.f2 (set_ne e (by omega)), fun e => ?_⟩
  · obtain ⟨b, e1, e2, e3, e4⟩ := h.o5 (set_ne e (by omega))
    exact ⟨b, e1, e2, e3, (hb.block _ (heap_lt e4)).trans e4⟩
  · obtain ⟨ud, uf, vxs, B, e1, e2, e3⟩ := h.f1 (set_ne e (by omega))
    exact ⟨ud, uf, vxs, B, e1, e2.ext hb, e3.sub (HH.new1 _ _ _)⟩
  · obtain ⟨xa, xc, k, e1, e2⟩ := h.f3 (set_ne e (by omega))
    exact ⟨xa, xc, k, e1, RT.sub (HH.new1 _ _ _) e2⟩
theorem R3.alloc5 (h : R3 P t vp vt w1 Ls W vv g g') (hl : Ls 5 = false) : R3 P t vp vt w1 (fun j => decide (j = 5) || Ls j) (W.alloc (.cells zero43 43)) (fun j => if j = 5 then .pointer (some ⟨W.heap.size, 0, none⟩) else vv j) g (some W.heap.size) := by
  have hg := h.z5 hl
  subst hg
  have hb := Ext.al W (.cells zero43 43)
  refine ⟨h.ext.tr hb, fun e => h.z4 (set_ne e (by omega)), fun e => ?_, fun e => by simp at e, fun _ => ⟨_, rfl, h.ext.size, by simp, heapNew _ _⟩, fun e => h.f0 (set_ne e (by omega)), fun e => ?_, fun e => h.f2 (set_ne e (by omega)), fun e => ?_⟩
  · obtain ⟨b, e1, e2, e3, e4⟩ := h.o4 (set_ne e (by omega))
    exact ⟨b, e1, e2, e3, (hb.block _ (heap_lt e4)).trans e4⟩
  · obtain ⟨ud, uf, vxs, B, e1, e2, e3⟩ := h.f1 (set_ne e (by omega))
    exact ⟨ud, uf, vxs, B, e1, e2.ext hb, e3.sub (HH.new2 _ _ _)⟩
  · obtain ⟨xa, xc, k, e1, e2⟩ := h.f3 (set_ne e (by omega))
    exact ⟨xa, xc, k, e1, RT.sub (HH.new2 _ _ _) e2⟩
end
/-- Between the two stores. -/
structure R3b (P : Pg) (t : Tm) (w1 W : World) (vv : Nat → Value) (b b' : Nat) (ud uf xa xc : Value) : Prop where
  ext : Ext w1 W
  lo : w1.heap.size ≤ b ∧ w1.heap.size ≤ b'
  ne : b ≠ b'
  p4 : vv 4 = .pointer (some ⟨b, 0, none⟩)
  p5 : vv 5 = .pointer (some ⟨b', 0, none⟩)
  v3 : vv 3 = tV t xa xc
  box : W.heap[b]? = some (.cells #[ud, uf] 25 (0, 0))
  box' : W.heap[b']? = some (.cells zero43 43 (0, 0))
  decls : ∃ B vxs, KD W B ud P.decls vxs
  funs : RFns (HH (some b) (some b') W) uf P.funs
  body : ∃ k, RT (HH (some b) (some b') W) k t xa xc
/-- Behind both. -/
structure R3c (P : Pg) (t : Tm) (w1 W : World) (b b' : Nat) (ud uf xa xc : Value) : Prop where
  ext : Ext w1 W
  box : W.heap[b]? = some (.cells #[ud, uf] 25 (0, 0))
  box' : W.heap[b']? = some (.cells #[.int .i64 t.op, .int .i64 t.n, .string t.nm, .int .i64 t.ty, xa, xc] 43 (0, 0))
  decls : ∃ B vxs, KD W B ud P.decls vxs
  funs : RFns W uf P.funs
  body : ∃ k, RT W k t xa xc
theorem R3.store {P : Pg} {t : Tm} {vp vt : Value} {w1 W : World} {Ls : Nat → Bool} {vv : Nat → Value} {g g' : Option Nat} (h : R3 P t vp vt w1 Ls W vv g g') (h4 : Ls 4 = true) (h5 : Ls 5 = true) (h1 : Ls 1 = true) (h3 : Ls 3 = true) :
    ∃ b b' ud uf xa xc, vv 4 = .pointer (some ⟨b, 0, none⟩) ∧ vv 1 = pV ud uf ∧ W.heap[b]? = some (.cells #[.slice none 0 0, .slice none 0 0] 25 (0, 0)) ∧ (∃ A c A' c' n n', ud = .slice A n c ∧ uf = .slice A' n' c') ∧ R3b P t w1 ((W.setCell ⟨b, 0, none⟩ ud).setCell ⟨b, 1, none⟩ uf) vv b b' ud uf xa xc := by
  obtain ⟨b, rfl, l4, e4, hb⟩ := h.o4 h4
  obtain ⟨b', rfl, l5, e5, hb'⟩ := h.o5 h5
  obtain ⟨ud, uf, vxs, B, e1, hk, hf⟩ := h.f1 h1
  obtain ⟨xa, xc, k, e3, hr⟩ := h.f3 h3
  have hne : b ≠ b' := fun e => by
    subst e
    rw [hb] at hb'
    injection hb' with hb'
    injection hb' with _ ht
    exact absurd ht (by decide)
  have ho := only2_set W b ud uf
  obtain ⟨A, c, hud⟩ := own_shape hk.row
  obtain ⟨A', c', huf, -⟩ := hf.form
  refine ⟨b, b', ud, uf, xa, xc, e4, e1, hb, ⟨A, c, A', c', _, _, hud, huf⟩, Below.setNew (Below.setNew h.ext l4 _) l4 _, ⟨l4, l5⟩, hne, e4, e5, e3, box2_both hb _ _, ?_, ⟨B, vxs, hk.turn hb ho⟩, hf.sub (HH.only1 ho), ⟨k, RT.sub (HH.only1 ho) hr⟩⟩
  exact (ho.block _ (heap_lt hb') (fun e => hne e.symm)).trans hb'
theorem R3b.store {P : Pg} {t : Tm} {w1 W : World} {vv : Nat → Value} {b b' : Nat} {ud uf xa xc : Value} (h : R3b P t w1 W vv b b' ud uf xa xc) :
    R3c P t w1 ((((((W.setCell ⟨b', 0, none⟩ (.int .i64 t.op)).setCell ⟨b', 1, none⟩ (.int .i64 t.n)).setCell ⟨b', 2, none⟩ (.string t.nm)).setCell ⟨b', 3, none⟩ (.int .i64 t.ty)).setCell ⟨b', 4, none⟩ xa).setCell ⟨b', 5, none⟩ xc) b b' ud uf xa xc := by
  have ho := only6_set W b' (.int .i64 t.op) (.int .i64 t.n) (.string t.nm) (.int .i64 t.ty) xa xc
  obtain ⟨B, vxs, hk⟩ := h.decls
  obtain ⟨k, hr⟩ := h.body
  refine ⟨?_, (ho.block _ (heap_lt h.box) h.ne).trans h.box, box6_set h.box' _ _ _ _ _ _, ⟨B, vxs, hk.turn43 h.box' ho⟩, h.funs.sub ((HH.only2 ho).tr (HH.un _ _ _)), ⟨k, RT.sub ((HH.only2 ho).tr (HH.un _ _ _)) hr⟩⟩
  exact h.ext.trans (ho.below h.ext.size (fun k e => by rw [e]; exact h.lo.2))
end Go.Proofs.YtfohcdpfgbeclaaGreat

/- ref.go: Same of declarations. -/
namespace Go.Proofs.YtfohcdpfgbeclaaGreat
open Go.RowKit

theorem Ext.drewN {w w' : World} (h : Ext w w') (n : Nat) : Ext w (w'.drewN n) := ⟨h.os, h.tape, h.output, h.size, h.block⟩
def eqArg (a b : Arg) : Bool := (a.ty == b.ty) && (a.co == b.co)
def eqAs : List Arg → List Arg → Bool
  | [], [] => true
  | a :: r, b :: t => eqArg a b && eqAs r t
  | _, _ => false
theorem eqAs_cons (x y : Arg) (a b : List Arg) : eqAs (x :: a) (y :: b) = (eqArg x y && eqAs a b) := rfl
theorem eqAs_len : ∀ (a b : List Arg), ¬ a.length = b.length → eqAs a b = false
  | [], [], h => by simp at h
  | [], _ :: _, _ => rfl
  | _ :: _, [], _ => rfl
  | x :: a, y :: b, h => by rw [eqAs_cons, eqAs_len a b (by simpa using h), Bool.and_false]

set_option maxRecDepth 100000 in
theorem neq_arg (x y : Arg) (W : World) : (binOp .neq 121 (.agg #[.int .i64 x.ty, .bool x.co]) (.agg #[.int .i64 y.ty, .bool y.co])).run Tryz.prog W = .ok (.bool (!(eqArg x y))) W := by
  have hf : Tryz.prog.fieldsOf 121 = (match Tryz.prog.underlying 121 with | some (.struct fs) => fs | _ => #[]) := rfl
  have hs : Tryz.prog.stoodInHeld 121 = false := by kernel_rfl
  have hu : Tryz.prog.underlying 121 = some (.struct (Tryz.prog.fieldsOf 121)) := by rw [hf, Tryz.underlying121]
  rw [run_neq_struct, run_equalIn_struct W 9999 121 _ _ hu hs, hf, Tryz.underlying121]
  simp [go_sem, Op.eqFields, eqArg]
  by_cases h1 : x.ty = y.ty <;> by_cases h2 : x.co = y.co <;> simp [h1, h2]
set_option maxRecDepth 100000 in
theorem SameArgs_any (v v' : Value) (a b : List Arg) (w : World) (h : RArgs w v a) (h' : RArgs w v' b) :
    Calls Tryz.prog 84 #[v, v'] w fun e w' => e = .returned (.bool (eqAs a b)) ∧ ∃ n, w' = w.drewN n := by
  have HR := Lib.hid h
  have HR' := Lib.hid h'
  obtain ⟨A, c, rfl, hc, hm⟩ := h.form
  obtain ⟨A', c', rfl, hc', hm'⟩ := h'.form
  clear h h'
  unfold maxLen at hm hm'
  go_enter Tryz.func84, Tryz.ntmps84
  by_cases hl : a.length = b.length
  · have HL := Lib.hid hl
    have hlt' : ((a.length : Int) == b.length) = true := by simp [hl]
    have hlt2 : ((a.length : Int) != b.length) = false := by simp [hl]
    have hle : a.length ≤ b.length := by omega
    clear hl
    go_wp2
    go_loopw [13] (fun i wr => ∃ k n : Nat, k ≤ a.length ∧ i = .int .i64 k ∧ wr = w.drewN n ∧ eqAs a b = eqAs (a.drop k) (b.drop k)) (fun i _ => a.length - (intOf i).toNat)
    case atStart => exact ⟨0, 0, Nat.zero_le _, rfl, rfl, rfl⟩
    case round =>
      obtain ⟨k, n, hk, rfl, rfl, hno⟩ := hrel
      have HN := Lib.hid hno
      clear hno
      by_cases hlt : k < a.length
      · obtain ⟨b1, o1, rfl, hbl1, g0, f0⟩ := HR.out.at_ hlt
        obtain ⟨b2, o2, rfl, hbl2, g1, f1⟩ := HR'.out.at_ (k := k) (by omega)
        have HD := Lib.hid (drop_step hlt)
        have HD' := Lib.hid (drop_step (l := b) (k := k) (by omega))
        generalize a[k] = x at *
        generalize b[k] = y at *
        have hk2 : k < b.length := by omega
        have hne := neq_arg x y
        have hg : Tryz.prog.eqGuardType Tryz.prog.depth 121 = false := by kernel_rfl
        go_wp2
        go_quiet (fail)
        go_wp2
        · have q : (!eqArg x y) = true := by assumption
          go_ret
          exact ⟨ret_bool (by rw [HN.out, HD.out, HD'.out, eqAs_cons]; simp at q; simp [q]), n + nq, by simp⟩
        · have q : (!eqArg x y) = false := by assumption
          go_roundw
          case rel => exact ⟨k + 1, n + nq, by omega, by go_num, by simp, by rw [HN.out, HD.out, HD'.out, eqAs_cons]; simp at q; simp [q]⟩
          case measure => simp [intOf]; omega
      · go_wp2
        go_ret
        have hlb : ¬ k < b.length := by have := HL.out; omega
        exact ⟨ret_bool (by rw [HN.out, drop_end hlt, drop_end hlb]; rfl), n, rfl⟩
  · have hlt' : ((a.length : Int) == b.length) = false := by simp; omega
    have hlt2 : ((a.length : Int) != b.length) = true := by simp; omega
    have HQ := Lib.hid (eqAs_len a b hl)
    go_wp2
    go_ret
    exact ⟨ret_bool HQ.out.symm, 0, rfl⟩

def eqX (x y : Xtor) : Bool := (x.name.toList == y.name.toList) && eqAs x.args y.args
def eqXs : List Xtor → List Xtor → Bool
  | [], [] => true
  | a :: r, b :: t => eqX a b && eqXs r t
  | _, _ => false
def eqD (d e : Decl) : Bool := (d.name.toList == e.name.toList) && (d.codata == e.codata) && eqXs d.xtors e.xtors
def eqDs : List Decl → List Decl → Bool
  | [], [] => true
  | a :: r, b :: t => eqD a b && eqDs r t
  | _, _ => false
theorem eqXs_cons (x y : Xtor) (a b : List Xtor) : eqXs (x :: a) (y :: b) = (eqX x y && eqXs a b) := rfl
theorem eqDs_cons (x y : Decl) (a b : List Decl) : eqDs (x :: a) (y :: b) = (eqD x y && eqDs a b) := rfl
theorem eqXs_len : ∀ (a b : List Xtor), ¬ a.length = b.length → eqXs a b = false
  | [], [], h => by simp at h
  | [], _ :: _, _ => rfl
  | _ :: _, [], _ => rfl
  | x :: a, y :: b, h => by rw [eqXs_cons, eqXs_len a b (by simpa using h), Bool.and_false]
theorem eqDs_len : ∀ (a b : List Decl), ¬ a.length = b.length → eqDs a b = false
  | [], [], h => by simp at h
  | [], _ :: _, _ => rfl
  | _ :: _, [], _ => rfl
  | x :: a, y :: b, h => by rw [eqDs_cons, eqDs_len a b (by simpa using h), Bool.and_false]
theorem eqD_bad1 {d e : Decl} (h : (d.name.toList == e.name.toList) = false) : eqD d e = false := by simp [eqD, h]
theorem eqD_bad2 {d e : Decl} (h : (d.codata == e.codata) = false) : eqD d e = false := by simp [eqD, h]
theorem eqD_bad3 {d e : Decl} (h : ¬ d.xtors.length = e.xtors.length) : eqD d e = false := by simp [eqD, eqXs_len _ _ h]
theorem eqD_good {d e : Decl} (h : (d.name.toList == e.name.toList) = true) (h2 : (d.codata == e.codata) = true) : eqD d e = eqXs d.xtors e.xtors := by simp [eqD, h, h2]

set_option maxHeartbeats 2000000 in
set_option maxRecDepth 100000 in
theorem RSameD_any (v v' : Value) (a b : List Decl) (w : World) (h : RDecls w v a) (h' : RDecls w v' b) :
    Calls Tryz.prog 53 #[v, v'] w fun e w' => e = .returned (.bool (eqDs a b)) ∧ Ext w w' := by
  have HR := Lib.hid h
  have HR' := Lib.hid h'
  obtain ⟨A, c, rfl, hc, hm⟩ := h.form
  obtain ⟨A', c', rfl, hc', hm'⟩ := h'.form
  clear h h'
  unfold maxLen at hm hm'
  go_enter Tryz.func53, Tryz.ntmps53
  by_cases hl : a.length = b.length
  · have HL := Lib.hid hl
    have hlt' : ((a.length : Int) == b.length) = true := by simp [hl]
    have hlt2 : ((a.length : Int) != b.length) = false := by simp [hl]
    have hle : a.length ≤ b.length := by omega
    clear hl
    go_wp2
    go_loopw [15] (fun i wr => ∃ k : Nat, k ≤ a.length ∧ i = .int .i64 k ∧ Ext w wr ∧ eqDs a b = eqDs (a.drop k) (b.drop k)) (fun i _ => a.length - (intOf i).toNat)
    case atStart => exact ⟨0, Nat.zero_le _, rfl, Ext.rf _, rfl⟩
    case round =>
      obtain ⟨k, hk, rfl, hb, hno⟩ := hrel
      obtain ⟨wo, rfl⟩ : ∃ wo : World, wo = wr := ⟨_, rfl⟩
      have HN := Lib.hid hno; have HB := Lib.hid hb
      clear hb hno
      by_cases hlt : k < a.length
      · obtain ⟨b1, o1, v1, rfl, hbl1, g0, g1, g2, g3, g4⟩ := HR.out.at_ hlt
        obtain ⟨b2, o2, v2, rfl, hbl2, f0, f1, f2, f3, f4⟩ := HR'.out.at_ (k := k) (by omega)
        have g0 := HB.out.keep g0
        have g1 := HB.out.keep g1
        have g2 := HB.out.keep g2
        have f0 := HB.out.keep f0
        have f1 := HB.out.keep f1
        have f2 := HB.out.keep f2
        have HD := Lib.hid (drop_step hlt)
        have HD' := Lib.hid (drop_step (l := b) (k := k) (by omega))
        generalize a[k] = x at *
        generalize b[k] = y at *
        obtain ⟨xn, xc, xs⟩ := x
        obtain ⟨yn, yc, ys⟩ := y
        dsimp only at *
        obtain ⟨A2, c2, rfl, hc2, hm2⟩ := g3.form
        obtain ⟨A3, c3, rfl, hc3, hm3⟩ := f3.form
        unfold maxLen at hm2 hm3
        have HX := Lib.hid g3; have HY := Lib.hid f3; clear g3 f3
        have hk2 : k < b.length := by omega
        have HNO : Hid (eqD ⟨xn, xc, xs⟩ ⟨yn, yc, ys⟩ = false → eqDs a b = false) := fun e => by rw [HN.out, HD.out, HD'.out, eqDs_cons, e]; rfl
        cases hq : (xn.toList == yn.toList)
        · have HQ := Lib.hid (HNO.out (eqD_bad1 hq))
          have hq' : (xn.toList == yn.toList) = false := hq
          go_wp2
          go_quiet (fail)
          go_wp2
          go_ret
          exact ⟨ret_bool HQ.out.symm, HB.out.drewN _⟩
        · have HQ1 := Lib.hid hq
          have hq' : (xn.toList == yn.toList) = true := hq
          cases hq2 : (xc == yc)
          · have HQ := Lib.hid (HNO.out (eqD_bad2 hq2))
            have hq2' : (xc == yc) = false := hq2
            have hq3' : (xc != yc) = true := by rw [bne, hq2]; rfl
            go_wp2
            go_quiet (fail)
            go_wp2
            go_ret
            exact ⟨ret_bool HQ.out.symm, HB.out.drewN _⟩
          · have HQ2 := Lib.hid hq2
            have hq2' : (xc == yc) = true := hq2
            have hq3' : (xc != yc) = false := by rw [bne, hq2]; rfl
            by_cases hxl : xs.length = ys.length
            · have HG := Lib.hid (eqD_good (d := ⟨xn, xc, xs⟩) (e := ⟨yn, yc, ys⟩) HQ1.out HQ2.out)
              have HXL := Lib.hid hxl
              have hxl1 : ((xs.length : Int) == ys.length) = true := by simp [hxl]
              have hxl2 : ((xs.length : Int) != ys.length) = false := by simp [hxl]
              have hxle : xs.length ≤ ys.length := by omega
              clear hxl
              go_wp2
              go_quiet (fail)
              go_wp2
              go_loopw [63] (fun i wr => ∃ j : Nat, j ≤ xs.length ∧ i = .int .i64 j ∧ Ext wo wr ∧ eqXs xs ys = eqXs (xs.drop j) (ys.drop j)) (fun i _ => xs.length - (intOf i).toNat)
              case atStart => exact ⟨0, Nat.zero_le _, rfl, (Ext.rf _).drewN _, rfl⟩
              case round =>
                obtain ⟨j, hj, rfl, hb2, hno2⟩ := hrel
                have HN2 := Lib.hid hno2; have HB2 := Lib.hid hb2
                clear hb2 hno2
                by_cases hlt2' : j < xs.length
                · have HBw := Lib.hid (HB.out.tr HB2.out)
                  obtain ⟨b3, o3, v3, rfl, hbl3, p0, p1, p2, p3⟩ := HX.out.at_ hlt2'
                  obtain ⟨b4, o4, v4, rfl, hbl4, q0, q1, q2, q3⟩ := HY.out.at_ (k := j) (by omega)
                  have p0 := HBw.out.keep p0
                  have p1 := HBw.out.keep p1
                  have q0 := HBw.out.keep q0
                  have q1 := HBw.out.keep q1
                  have f2 := HB2.out.keep f2
                  have HD2 := Lib.hid (drop_step hlt2')
                  have HD2' := Lib.hid (drop_step (l := ys) (k := j) (by omega))
                  generalize xs[j] = x at *
                  generalize ys[j] = y at *
                  obtain ⟨A5, c5, rfl, -⟩ := p2.form
                  obtain ⟨A6, c6, rfl, -⟩ := q2.form
                  have hE5 := Ext.al wr (Obj.cells #[Value.string x.name, Value.slice A5 x.args.length c5] 119)
                  have HW5 := Lib.hid (HBw.out.tr hE5)
                  have HW6 := Lib.hid (HB2.out.tr hE5)
                  have p0 := hE5.keep p0
                  have p1 := hE5.keep p1
                  have q0 := hE5.keep q0
                  have q1 := hE5.keep q1
                  have f2 := hE5.keep f2
                  have r0 : (wr.alloc (Obj.cells #[Value.string x.name, Value.slice A5 x.args.length c5] 119)).cell? ⟨wr.heap.size, 0, none⟩ = some (.string x.name) := by
                    rw [World.cell?_alloc_at _ _ _ _ rfl]; rfl
                  have r1 : (wr.alloc (Obj.cells #[Value.string x.name, Value.slice A5 x.args.length c5] 119)).cell? ⟨wr.heap.size, 1, none⟩ = some (.slice A5 x.args.length c5) := by
                    rw [World.cell?_alloc_at _ _ _ _ rfl]; rfl
                  have HP := Lib.hid (p2.below HW5.out)
                  have HQ := Lib.hid (q2.below HW5.out)
                  clear p2 q2 hE5
                  have hjy : j < ys.length := by omega
                  have HNX : Hid (eqX x y = false → eqDs a b = false) := fun e => HNO.out (by rw [HG.out, HN2.out, HD2.out, HD2'.out, eqXs_cons, e]; rfl)
                  have HEX : Hid (eqX x y = ((x.name.toList == y.name.toList) && eqAs x.args y.args)) := rfl
                  go_wp2
                  generalize wr.alloc _ = w5 at *
                  cases hqx : (x.name.toList == y.name.toList)
                  · have HQX := Lib.hid hqx
                    have hqx' : (x.name.toList == y.name.toList) = false := hqx
                    go_quiet (fail)
                    go_wp2
                    go_ret
                    exact ⟨ret_bool (HNX.out (by rw [HEX.out, HQX.out]; rfl)).symm, HW5.out.drewN _⟩
                  · have HQX := Lib.hid hqx
                    have hqx' : (x.name.toList == y.name.toList) = true := hqx
                    have HSA : Hid (∀ n, Calls Tryz.prog 84 #[Value.slice A5 x.args.length c5, Value.slice A6 y.args.length c6] (w5.drewN n) fun e w' => e = .returned (.bool (eqAs x.args y.args)) ∧ ∃ m, w' = (w5.drewN n).drewN m) := fun n => SameArgs_any _ _ _ _ _ HP.out HQ.out
                    cases hqa : eqAs x.args y.args
                    · have HQA := Lib.hid hqa
                      rw [hqa] at HSA
                      clear hqa
                      go_quiet ((go_at_call 84; exact Calls.quiet_of (HSA.out _)))
                      go_wp2
                      go_ret
                      exact ⟨ret_bool (HNX.out (by rw [HEX.out, HQA.out, Bool.and_false])).symm, HW5.out.drewN _⟩
                    · have HQA := Lib.hid hqa
                      rw [hqa] at HSA
                      clear hqa
                      go_quiet ((go_at_call 84; exact Calls.quiet_of (HSA.out _)))
                      go_wp2
                      go_roundw
                      case rel => exact ⟨j + 1, by omega, by go_num, HW6.out.drewN _, by rw [HN2.out, HD2.out, HD2'.out, eqXs_cons, HEX.out, HQX.out, HQA.out]; rfl⟩
                      case measure => simp [intOf]; omega
                · go_wp2
                  go_roundw
                  case rel =>
                    have hlb : ¬ j < ys.length := by have := HXL.out; omega
                    exact ⟨k + 1, by omega, by go_num, HB.out.tr HB2.out, by rw [HN.out, HD.out, HD'.out, eqDs_cons, HG.out, HN2.out, drop_end hlt2', drop_end hlb]; rfl⟩
                  case measure => simp [intOf]; omega
            · have HQ := Lib.hid (HNO.out (eqD_bad3 hxl))
              have hxl1 : ((xs.length : Int) == ys.length) = false := by simp; omega
              have hxl2 : ((xs.length : Int) != ys.length) = true := by simp; omega
              clear hxl
              go_wp2
              go_quiet (fail)
              go_wp2
              go_ret
              exact ⟨ret_bool HQ.out.symm, HB.out.drewN _⟩
      · go_wp2
        go_ret
        have hlb : ¬ k < b.length := by have := HL.out; omega
        exact ⟨ret_bool (by rw [HN.out, drop_end hlt, drop_end hlb]; rfl), HB.out⟩
  · have hlt' : ((a.length : Int) == b.length) = false := by simp; omega
    have hlt2 : ((a.length : Int) != b.length) = true := by simp; omega
    have HQ := Lib.hid (eqDs_len a b hl)
    go_wp2
    go_ret
    exact ⟨ret_bool HQ.out.symm, Ext.rf _⟩
theorem eqAs_refl : ∀ l, eqAs l l = true
  | [] => rfl
  | a :: r => by rw [eqAs_cons, eqAs_refl r]; simp [eqArg]
theorem eqXs_refl : ∀ l, eqXs l l = true
  | [] => rfl
  | a :: r => by rw [eqXs_cons, eqXs_refl r]; simp [eqX, eqAs_refl]
theorem eqDs_refl : ∀ l, eqDs l l = true
  | [] => rfl
  | a :: r => by
    show (eqD a a && eqDs r r) = true
    rw [eqDs_refl r]; simp [eqD, eqXs_refl]
end Go.Proofs.YtfohcdpfgbeclaaGreat

/- ref.go: Same and SameParams, of equal terms and parameters. -/
namespace Go.Proofs.YtfohcdpfgbeclaaGreat
open Go.RowKit

theorem box66 (w : World) (a b c d e f a' b' c' d' e' f' : Value) :
    ((w.alloc (.cells #[a, b, c, d, e, f] 43)).alloc (.cells #[a', b', c', d', e', f'] 43)).heap[w.heap.size]? = some (.cells #[a, b, c, d, e, f] 43 (0, 0)) ∧
    ((w.alloc (.cells #[a, b, c, d, e, f] 43)).alloc (.cells #[a', b', c', d', e', f'] 43)).heap[w.heap.size + 1]? = some (.cells #[a', b', c', d', e', f'] 43 (0, 0)) := by
  have h1 := heapNew w (.cells #[a, b, c, d, e, f] 43)
  have h2 := heapNew (w.alloc (.cells #[a, b, c, d, e, f] 43)) (.cells #[a', b', c', d', e', f'] 43)
  rw [World.size_alloc] at h2
  exact ⟨((Ext.al _ _).block _ (heap_lt h1)).trans h1, h2⟩

set_option maxHeartbeats 4000000 in
set_option maxRecDepth 100000 in
theorem RSame_any : ∀ (k : Nat) (t : Tm) (va vc ua uc : Value) (w : World), RT w k t va vc → RT w k t ua uc →
    Calls Tryz.prog 29 #[tV t va vc, tV t ua uc] w fun e w' => e = .returned (.bool true) ∧ Ext w w' := by
  intro k
  induction k with
  | zero => intro t va vc ua uc w h; exact h.elim
  | succ k ih =>
    intro t va vc ua uc w ht hu
    have HT := Lib.hid ht; have HU := Lib.hid hu; have HIH := Lib.hid ih
    obtain ⟨_, ⟨Aa, ca, rfl, hca, hma⟩, ⟨Bb, cb, rfl, hcb, hmb⟩⟩ := ht.form
    obtain ⟨_, ⟨Aa', ca', rfl, hca', hma'⟩, ⟨Bb', cb', rfl, hcb', hmb'⟩⟩ := hu.form
    clear ht hu ih
    unfold maxLen at hma hmb hma' hmb'
    have hmx : Tryz.prog.follows .mixedOrders = true := by kernel_rfl
    have HE := Lib.hid (Ext.al2 w (.cells #[.int .i64 t.op, .int .i64 t.n, .string t.nm, .int .i64 t.ty, .slice Aa t.args.length ca, .slice Bb t.cls.length cb] 43) (.cells #[.int .i64 t.op, .int .i64 t.n, .string t.nm, .int .i64 t.ty, .slice Aa' t.args.length ca', .slice Bb' t.cls.length cb'] 43))
    obtain ⟨hb1, hb2⟩ := box66 w (.int .i64 t.op) (.int .i64 t.n) (.string t.nm) (.int .i64 t.ty) (.slice Aa t.args.length ca) (.slice Bb t.cls.length cb) (.int .i64 t.op) (.int .i64 t.n) (.string t.nm) (.int .i64 t.ty) (.slice Aa' t.args.length ca') (.slice Bb' t.cls.length cb')
    obtain ⟨x0, x1, x2, x3, x4, x5⟩ := cells6 hb1
    obtain ⟨y0, y1, y2, y3, y4, y5⟩ := cells6 hb2
    have HB1 := Lib.hid hb1; have HB2 := Lib.hid hb2
    clear hb1 hb2
    go_enter Tryz.func29, Tryz.ntmps29
    go_wp2
    generalize World.alloc (World.alloc w _) _ = w1 at *
    clear x0 x1 x2 x3 x4 x5 y0 y1 y2 y3 y4 y5
    go_loopw [54] (fun i wr => ∃ j : Nat, j ≤ t.args.length ∧ i = .int .i64 j ∧ Ext w1 wr) (fun i _ => t.args.length - (intOf i).toNat)
    case atStart => exact ⟨0, Nat.zero_le _, rfl, Ext.rf _⟩
    case round =>
      obtain ⟨j, hj, rfl, hb⟩ := hrel
      have HX := Lib.hid hb
      have q1 := (hb.block _ (heap_lt HB1.out)).trans HB1.out
      have q2 := (hb.block _ (heap_lt HB2.out)).trans HB2.out
      have HQ1 := Lib.hid q1; have HQ2 := Lib.hid q2
      clear hb q1 q2
      by_cases hlt : j < t.args.length
      · obtain ⟨b, o, xa, xc, rfl, hbl, yc, yt⟩ := HT.out.arg hlt
        obtain ⟨b', o', xa', xc', rfl, hbl', yc', yt'⟩ := HU.out.arg hlt
        have hW := HE.out.tr HX.out
        have yc := yc.below hW
        have yc' := yc'.below hW
        have HK := Lib.hid (yt.below hW)
        have HK' := Lib.hid (yt'.below hW)
        clear yt yt' hbl hbl' hW
        obtain ⟨Ac, ca2, rfl, -⟩ : ∃ A c, xa = Value.slice A (t.args[j]).args.length c ∧ True := by obtain ⟨_, ⟨A, c, e, _⟩, _⟩ := HK.out.form; exact ⟨A, c, e, trivial⟩
        have p4 := ExtOf.cell (cellAt HQ1.out 4)
        have r4 := ExtOf.cell (cellAt HQ2.out 4)
        have k0 := ExtOf.cell yc.c0
        have k1 := ExtOf.cell yc.c1
        have k2 := ExtOf.cell yc.c2
        have k3 := ExtOf.cell yc.c3
        have k4 := ExtOf.cell yc.c4
        have k5 := ExtOf.cell yc.c5
        have l0 := ExtOf.cell yc'.c0
        have l1 := ExtOf.cell yc'.c1
        have l2 := ExtOf.cell yc'.c2
        have l3 := ExtOf.cell yc'.c3
        have l4 := ExtOf.cell yc'.c4
        have l5 := ExtOf.cell yc'.c5
        generalize t.args[j] = x at *
        clear yc yc'
        go_wp2
        refine wp_region_ext (w0 := wr) hmx (by kernel_rfl) (Ext.rf _) ?_
        repeat (first | go_big_quiet_step ((go_at_call 29; with_reducible exact Calls.ext_of (HIH.out x _ _ _ _ _ (HK.out.below (ExtOf.ext _)) (HK'.out.below (ExtOf.ext _))))) | quiet_step ((go_at_call 29; with_reducible exact Calls.ext_of (HIH.out x _ _ _ _ _ (HK.out.below (ExtOf.ext _)) (HK'.out.below (ExtOf.ext _))))))
        refine wpQuiet_nil ?_
        rintro _ ⟨⟨w9, hx⟩, rfl⟩
        have HX9 := Lib.hid (HX.out.tr hx)
        clear hx p4 r4 k0 k1 k2 k3 k4 k5 l0 l1 l2 l3 l4 l5
        go_wp2
        exact ⟨⟨j + 1, by omega, by go_num, HX9.out⟩, by simp [intOf]; omega⟩
      · have x5 := cellAt HQ1.out 5
        have y5 := cellAt HQ2.out 5
        go_wp2
        clear x5 y5
        generalize wr = wl at *
        go_loopw [73] (fun i wr => ∃ j : Nat, j ≤ t.cls.length ∧ i = .int .i64 j ∧ Ext wl wr) (fun i _ => t.cls.length - (intOf i).toNat)
        case atStart => exact ⟨0, Nat.zero_le _, rfl, Ext.rf _⟩
        case round =>
          obtain ⟨j, hj, rfl, hb⟩ := hrel
          have HXE := Lib.hid hb
          have q1 := (hb.block _ (heap_lt HQ1.out)).trans HQ1.out
          have q2 := (hb.block _ (heap_lt HQ2.out)).trans HQ2.out
          have HR1 := Lib.hid q1; have HR2 := Lib.hid q2
          clear hb q1 q2
          by_cases hlt2 : j < t.cls.length
          · obtain ⟨b, o, vn, xa, xc, rfl, hbl, yn, ys, yc, yt⟩ := HT.out.clause hlt2
            obtain ⟨b', o', vn', xa', xc', rfl, hbl', yn', ys', yc', yt'⟩ := HU.out.clause hlt2
            have hW := (HE.out.tr HX.out).tr HXE.out
            have yc := yc.below hW
            have yc' := yc'.below hW
            have HS := Lib.hid (ys.below hW)
            have HS' := Lib.hid (ys'.below hW)
            have HK := Lib.hid (yt.below hW)
            have HK' := Lib.hid (yt'.below hW)
            have p5 := ExtOf.cell (cellAt HR1.out 5)
            have r5 := ExtOf.cell (cellAt HR2.out 5)
            have kn := ExtOf.cell (hW.keep yn)
            have ln := ExtOf.cell (hW.keep yn')
            have k0 := ExtOf.cell yc.c0
            have k1 := ExtOf.cell yc.c1
            have k2 := ExtOf.cell yc.c2
            have k3 := ExtOf.cell yc.c3
            have k4 := ExtOf.cell yc.c4
            have k5 := ExtOf.cell yc.c5
            have l0 := ExtOf.cell yc'.c0
            have l1 := ExtOf.cell yc'.c1
            have l2 := ExtOf.cell yc'.c2
            have l3 := ExtOf.cell yc'.c3
            have l4 := ExtOf.cell yc'.c4
            have l5 := ExtOf.cell yc'.c5
            generalize t.cls[j] = cl at *
            obtain ⟨ns, x⟩ := cl
            dsimp only at *
            clear yc yc' yt yt' ys ys' yn yn' hW hbl hbl'
            go_wp2
            refine wp_region_ext (w0 := wr) hmx (by kernel_rfl) (Ext.rf _) ?_
            repeat (first
              | go_big_quiet_step ((first | (go_at_call 23; with_reducible exact Calls.ext_of (same_any _ _ ns _ (HS.out.below (ExtOf.ext _)) (HS'.out.below (ExtOf.ext _)))) | (go_at_call 29; with_reducible exact Calls.ext_of (HIH.out x _ _ _ _ _ (HK.out.below (ExtOf.ext _)) (HK'.out.below (ExtOf.ext _))))))
              | quiet_step ((first | (go_at_call 23; with_reducible exact Calls.ext_of (same_any _ _ ns _ (HS.out.below (ExtOf.ext _)) (HS'.out.below (ExtOf.ext _)))) | (go_at_call 29; with_reducible exact Calls.ext_of (HIH.out x _ _ _ _ _ (HK.out.below (ExtOf.ext _)) (HK'.out.below (ExtOf.ext _)))))))
            refine wpQuiet_nil ?_
            rintro _ ⟨⟨w9, hx⟩, rfl⟩
            have HX9 := Lib.hid (HXE.out.tr hx)
            clear hx p5 r5 kn ln k0 k1 k2 k3 k4 k5 l0 l1 l2 l3 l4 l5
            go_wp2
            exact ⟨⟨j + 1, by omega, by go_num, HX9.out⟩, by simp [intOf]; omega⟩
          · go_wp2
            go_ret
            exact ⟨rfl, (HE.out.tr HX.out).tr HXE.out⟩

set_option maxRecDepth 100000 in
theorem neq_prm (x : Prm) (W : World) : (binOp .neq 64 (.agg #[.string x.nm, .int .i64 x.ty]) (.agg #[.string x.nm, .int .i64 x.ty])).run Tryz.prog W = .ok (.bool false) W := by
  have hf : Tryz.prog.fieldsOf 64 = (match Tryz.prog.underlying 64 with | some (.struct fs) => fs | _ => #[]) := rfl
  have hs : Tryz.prog.stoodInHeld 64 = false := by kernel_rfl
  have hu : Tryz.prog.underlying 64 = some (.struct (Tryz.prog.fieldsOf 64)) := by rw [hf, Tryz.underlying64]
  rw [run_neq_struct, run_equalIn_struct W 9999 64 _ _ hu hs, hf, Tryz.underlying64]
  simp [go_sem, Op.eqFields]

set_option maxHeartbeats 2000000 in
set_option maxRecDepth 100000 in
theorem SameParams_any (v v' : Value) (l : List Prm) (w : World) (h : RPrms w v l) (h' : RPrms w v' l) :
    Calls Tryz.prog 54 #[v, v'] w fun e w' => e = .returned (.bool true) ∧ Ext w w' := by
  have HR := Lib.hid h
  have HR' := Lib.hid h'
  obtain ⟨A, c, rfl, hc, hm⟩ := h.form
  obtain ⟨A', c', rfl, hc', hm'⟩ := h'.form
  clear h h'
  unfold maxLen at hm hm'
  go_enter Tryz.func54, Tryz.ntmps54
  go_wp2
  go_loopw [13] (fun i wr => ∃ k : Nat, k ≤ l.length ∧ i = .int .i64 k ∧ Ext w wr) (fun i _ => l.length - (intOf i).toNat)
  case atStart => exact ⟨0, Nat.zero_le _, rfl, Ext.rf _⟩
  case round =>
    obtain ⟨k, hk, rfl, hb⟩ := hrel
    have HB := Lib.hid hb
    clear hb
    by_cases hlt : k < l.length
    · obtain ⟨b1, o1, rfl, hbl1, g0, g1, -⟩ := HR.out.at_ hlt
      obtain ⟨b2, o2, rfl, hbl2, f0, f1, -⟩ := HR'.out.at_ hlt
      have g0 := HB.out.keep g0
      have g1 := HB.out.keep g1
      have f0 := HB.out.keep f0
      have f1 := HB.out.keep f1
      generalize l[k] = x at *
      have hne := neq_prm x
      have hg : Tryz.prog.eqGuardType Tryz.prog.depth 64 = false := by kernel_rfl
      go_wp2
      go_quiet (fail)
      go_wp2
      go_roundw
      case rel => exact ⟨k + 1, by omega, by go_num, HB.out.drewN _⟩
      case measure => simp [intOf]; omega
    · go_wp2
      go_ret
      exact ⟨rfl, HB.out⟩
end Go.Proofs.YtfohcdpfgbeclaaGreat
