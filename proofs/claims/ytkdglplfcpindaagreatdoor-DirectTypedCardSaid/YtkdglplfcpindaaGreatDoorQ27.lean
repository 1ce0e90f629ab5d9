/- Memory seen through a mask: only the blocks that a copy owns. -/
import Derived.Test.YtkdglplfcpindaaGreatDoorQ26
namespace Go.Proofs.YtkdglplfcpindaaGreatDoor
open Go.RowKit

/-- What reads in the first reads in the second. -/
structure Sub (w w' : World) : Prop where
  size : w.heap.size ≤ w'.heap.size
  cell : ∀ p v, w.cell? p = some v → w'.cell? p = some v
/-- The world with nothing but the blocks from B on that are not g. -/
def mask (B : Nat) (g : Option Nat) (w : World) : World := { w with heap := w.heap.mapIdx fun i o => if B ≤ i ∧ some i ≠ g then o else .cells #[] 0 (0, 0) }
theorem mask_size (B : Nat) (g : Option Nat) (w : World) : (mask B g w).heap.size = w.heap.size := Array.size_mapIdx ..
theorem mask_in {B : Nat} {g : Option Nat} {w : World} {k : Nat} (h : B ≤ k ∧ some k ≠ g) : (mask B g w).heap[k]? = w.heap[k]? := by
  show (w.heap.mapIdx _)[k]? = _
  rw [Array.getElem?_mapIdx]
  simp only [if_pos h]
  cases w.heap[k]? <;> rfl
theorem mask_out {B : Nat} {g : Option Nat} {w : World} {p : Addr} (h : ¬ (B ≤ p.block ∧ some p.block ≠ g)) : (mask B g w).cell? p = none := by
  unfold World.cell?
  have e : (mask B g w).heap[p.block]? = w.heap[p.block]?.map fun _ => .cells #[] 0 (0, 0) := by
    show (w.heap.mapIdx _)[p.block]? = _
    rw [Array.getElem?_mapIdx]
    simp only [if_neg h]
  rw [e]
  cases w.heap[p.block]? with
  | none => rfl
  | some o => simp
theorem mask_cell {B : Nat} {g : Option Nat} {w : World} {p : Addr} {v : Value} (h : (mask B g w).cell? p = some v) : (B ≤ p.block ∧ some p.block ≠ g) ∧ w.cell? p = some v := by
  by_cases hk : B ≤ p.block ∧ some p.block ≠ g
  · refine ⟨hk, ?_⟩
    unfold World.cell? at h ⊢
    rw [mask_in hk] at h
    exact h
  · rw [mask_out hk] at h; cases h
theorem Sub.rf (w : World) : Sub w w := ⟨Nat.le_refl _, fun _ _ h => h⟩
theorem Sub.tr {a b c : World} (h : Sub a b) (k : Sub b c) : Sub a c := ⟨Nat.le_trans h.size k.size, fun p v e => k.cell p v (h.cell p v e)⟩
theorem Sub.ext {a b : World} (h : Ext a b) : Sub a b := ⟨h.size, fun _ _ e => h.keep e⟩
theorem Sub.masks {B B' : Nat} {g g' : Option Nat} {w w' : World} (hs : w.heap.size ≤ w'.heap.size) (h : ∀ k, k < w.heap.size → B ≤ k → some k ≠ g → (B' ≤ k ∧ some k ≠ g') ∧ w'.heap[k]? = w.heap[k]?) : Sub (mask B g w) (mask B' g' w') := by
  refine ⟨by rw [mask_size, mask_size]; exact hs, fun p v e => ?_⟩
  obtain ⟨⟨h1, h2⟩, h3⟩ := mask_cell e
  obtain ⟨h4, h5⟩ := h p.block (cell_lt h3) h1 h2
  have h6 : (mask B' g' w').heap[p.block]? = w.heap[p.block]? := (mask_in h4).trans h5
  rw [World.cell?_of_block h6]; exact h3
theorem row_mask {w : World} {B e size n : Nat} {v : Value} {xs : List Value} (h : w.ownsRow B e size v n xs) : (mask B none w).ownsRow B e size v n xs := by
  obtain ⟨h1, h2⟩ := h
  refine ⟨h1, ?_⟩
  rcases h2 with h2 | ⟨g, cap, cur, rfl, e2, e3, e4⟩
  · exact .inl h2
  · exact .inr ⟨g, cap, cur, rfl, e2, (mask_in ⟨e2, by simp⟩).trans e3, e4⟩
section
variable {w w' : World} {v : Value}
end

/-! ### rows of clauses -/
abbrev Trc := (List Str × Tm) × Value × Value × Value
def cellsC1 (x : Trc) : List Value := [x.2.1, .int .i64 x.1.2.op, .int .i64 x.1.2.n, .string x.1.2.nm, .int .i64 x.1.2.ty, x.2.2.1, x.2.2.2]
def cellsC : List Trc → List Value
  | [] => []
  | x :: r => cellsC1 x ++ cellsC r
def RCls (w : World) (k : Nat) (v : Value) (l : List (List Str × Tm)) : Prop :=
  ∃ B c, v = .slice B l.length c ∧ l.length ≤ c ∧ c ≤ maxLen ∧
      ∀ i x, l[i]? = some x → ∃ b o vn xa xc, B = some ⟨b, o, none⟩ ∧ b < w.heap.size ∧ w.cell? ⟨b, o + i * 7, none⟩ = some vn ∧ RStrs w vn x.1 ∧ C6 w b (o + i * 7 + 1) x.2 xa xc ∧ RT w k x.2 xa xc
def OkC (w : World) (k : Nat) (x : Trc) : Prop := RStrs w x.2.1 x.1.1 ∧ RT w k x.1.2 x.2.2.1 x.2.2.2
/-- The two rows make the term. -/
theorem RT.make {w : World} {k : Nat} {t : Tm} {va vc : Value} (h0 : t.nm.size ≤ maxLen ∧ ok64 t.n ∧ ok64 t.ty) (h1 : RTms w k va t.args) (h2 : RCls w k vc t.cls) : RT w (k + 1) t va vc := ⟨h0, h1, h2⟩
/-! ### a row that grows beside what it holds -/
/-- The cells of a row that the call owns, from the first block B on; what each element points to lies apart from it; nothing else that was there has turned but block g. -/
structure CRow {α : Type} (cells : List α → List Value) (e size : Nat) (OK : World → α → Prop) (w1 wr : World) (g : Nat) (s : Value) (L : List α) : Prop where
  own : wr.ownsRow w1.heap.size e size s L.length (cells L)
  apart : ∀ x ∈ L, OK (mask w1.heap.size s.ownBlock wr) x
  only : Only (fun j => j = g) w1 wr
section
variable {α : Type} {cells : List α → List Value} {e size : Nat} {OK : World → α → Prop} {w1 wr W W' : World} {g : Nat} {s s' : Value} {L : List α} {x : α}
theorem CRow.nil (hn : cells [] = []) (w1 wr : World) (g : Nat) (h : Only (fun j => j = g) w1 wr) : CRow cells e size OK w1 wr g (.slice none 0 0) [] :=
  ⟨⟨by rw [hn]; simp, .inl ⟨rfl, rfl⟩⟩, (fun x hx => by cases hx), h⟩
theorem CRow.ext (hsub : ∀ w w' x, OK w x → Sub w w' → OK w' x) (h : CRow cells e size OK w1 wr g s L) (hb : Ext wr W) : CRow cells e size OK w1 W g s L :=
  ⟨own_below h.own hb, fun x hx => hsub _ _ _ (h.apart x hx) (Sub.masks hb.size fun k hk h1 h2 => ⟨⟨h1, h2⟩, hb.block k hk⟩), h.only.tr (Only.of_ext hb)⟩
/-- One more element, made behind the row. -/
theorem CRow.app (hsub : ∀ w w' x, OK w x → Sub w w' → OK w' x) (h : CRow cells e size OK w1 W g s L) {B : Nat} (hB1 : w1.heap.size ≤ B) (hB : ∀ k, s.ownBlock = some k → k < B) (hx : OK (mask B none W) x)
    (hg : W.grownBy W' s.ownBlock) (hat : s'.ownBlock = s.ownBlock ∨ s'.ownBlock = some W.heap.size) (ho : W'.ownsRow w1.heap.size e size s' (L ++ [x]).length (cells (L ++ [x]))) : CRow cells e size OK w1 W' g s' (L ++ [x]) := by
  have hne : ∀ k, k < W.heap.size → some k ≠ s.ownBlock → some k ≠ s'.ownBlock := fun k hk h1 => by
    rcases hat with h2 | h2
    · rw [h2]; exact h1
    · rw [h2]; intro h3; injection h3 with h3; omega
  refine ⟨ho, fun y hy => ?_, ⟨hg.os.trans h.only.os, hg.tape.trans h.only.tape, hg.output.trans h.only.output, Nat.le_trans h.only.size hg.size, fun k hk hn => ?_⟩⟩
  · rcases List.mem_append.1 hy with hy | hy
    · exact hsub _ _ _ (h.apart y hy) (Sub.masks hg.size fun k hk h1 h2 => ⟨⟨h1, hne k hk h2⟩, hg.block k hk h2⟩)
    · rw [List.mem_singleton.1 hy]
      refine hsub _ _ _ hx (Sub.masks hg.size fun k hk h1 _ => ?_)
      have h2 : some k ≠ s.ownBlock := fun e => by have := hB k e.symm; omega
      exact ⟨⟨Nat.le_trans hB1 h1, hne k hk h2⟩, hg.block k hk h2⟩
  · exact (hg.block k (Nat.lt_of_lt_of_le hk h.only.size) (fun e => by have := (h.own.lt k e.symm).1; omega)).trans (h.only.block k hk hn)
/-- A store into block g. -/
theorem CRow.set (hsub : ∀ w w' x, OK w x → Sub w w' → OK w' x) (h : CRow cells e size OK w1 W g s L) (hg : g < w1.heap.size) (i : Nat) (u : Value) : CRow cells e size OK w1 (W.setCell ⟨g, i, none⟩ u) g s L :=
  ⟨ownsRow_setCell_below h.own hg _, fun x hx => hsub _ _ _ (h.apart x hx) (Sub.masks (by simp [World.setCell]) fun k hk h1 h2 => ⟨⟨h1, h2⟩, Below.heap_setCell _ _ _ _ (by show k ≠ g; omega)⟩), h.only.tr (Only.setCell (C := fun j => j = g) (p := ⟨g, i, none⟩) rfl _ _)⟩
/-- What the row holds, seen with the row. -/
theorem CRow.all (hsub : ∀ w w' x, OK w x → Sub w w' → OK w' x) (h : CRow cells e size OK w1 W g s L) : (mask w1.heap.size none W).ownsRow w1.heap.size e size s L.length (cells L) ∧ ∀ x ∈ L, OK (mask w1.heap.size none W) x :=
  ⟨row_mask h.own, fun x hx => hsub _ _ _ (h.apart x hx) (Sub.masks (Nat.le_refl _) fun k _ h1 _ => ⟨⟨h1, by simp⟩, rfl⟩)⟩
theorem CRow.lt (h : CRow cells e size OK w1 W g s L) : ∀ k, s.ownBlock = some k → k < W.heap.size := fun k hk => (h.own.lt k hk).2
end
end Go.Proofs.YtkdglplfcpindaaGreatDoor

/- A statement that appends what a call made to a row in a box: an invariant in three parts. -/
namespace Go.Proofs.YtkdglplfcpindaaGreatDoor
open Go.RowKit

/-- What has been done holds all that it waits for. -/
def ClosedL (ops : Array Oper) (L : Nat → Bool) : Prop := ∀ i o, ops[i]? = some o → L i = true → ∀ e ∈ o.after.toList, Region.binds .any e = true → L e.on = true
theorem wp_region_invC {P : Program} {id : Nat} {Q : Exit → Act → World → Prop} {a : Act} {w : World} {ops : Array Oper} (hm : P.follows .mixedOrders = true) (hb : backB ops = true) (Inv : (Nat → Bool) → Act → World → Prop)
    (h0 : Inv (fun _ => false) a w.drew)
    (hstep : ∀ (L : Nat → Bool) (a : Act) (w : World) (i : Nat) (o : Oper), ops[i]? = some o → (∀ e ∈ o.after.toList, Region.binds .any e = true → L e.on = true) → L i = false → ClosedL ops L → Inv L a w →
      ∀ K : Act → World → Prop, Hid (∀ a' w', Inv (fun j => decide (j = i) || L j) a' w' → K a' w') → if Region.wanted o (yielded ops a.tmps) = true then Oper.wp P o a w K Q else K (a.put o.dst undef) w)
    (hdone : ∀ (L : Nat → Bool) (a : Act) (w : World), (∀ i, i < ops.size → L i = true) → Inv L a w → Q .normal a w) : (Code.region id ops true).wp P Q a w := by
  refine wp_region_inv hm hb (fun L a w => ClosedL ops L ∧ Inv L a w) ⟨(fun i o _ h => by cases h), h0⟩ (fun L a w i o ho hp hl hI K hK => hstep L a w i o ho hp hl hI.1 hI.2 K (fun a' w' h => hK.out a' w' ⟨fun i' o' ho' hl' e he hbd => ?_, h⟩)) (fun L a w hall hI => hdone L a w hall hI.2)
  by_cases hi : i' = i
  · subst hi
    rw [ho] at ho'; cases ho'
    show (decide (e.on = i') || L e.on) = true
    rw [hp e he hbd, Bool.or_true]
  · have h1 : L i' = true := by
      have h2 : (decide (i' = i) || L i') = true := hl'
      rwa [decide_eq_false hi, Bool.false_or] at h2
    show (decide (e.on = i) || L e.on) = true
    rw [hI.1 i' o' ho' h1 e he hbd, Bool.or_true]

/-- Ahead of the append: the n operations before it, what each has yielded. -/
structure PhA (w5 : World) (F : World → Nat → Value → Prop) (n : Nat) (L : Nat → Bool) (W : World) (vv : Nat → Value) : Prop where
  not : L n = false
  ext : Ext w5 W
  facts : ∀ j, j < n → L j = true → F W j (vv j)
/-- Behind the append, ahead of the store. -/
structure PhB (D : World → Value → Prop) (n : Nat) (p : Value) (L : Nat → Bool) (W : World) (vv : Nat → Value) : Prop where
  app : L n = true
  not : L (n + 2) = false
  done : D W (vv n)
  ptr : L (n + 1) = true → vv (n + 1) = p
section
variable {w5 W W' : World} {F : World → Nat → Value → Prop} {D : World → Value → Prop} {n i : Nat} {L : Nat → Bool} {vv : Nat → Value} {v p : Value}
theorem PhA.zero (F : World → Nat → Value → Prop) (n : Nat) (vv : Nat → Value) (w : World) : PhA w F n (fun _ => false) w.drew vv := ⟨rfl, (Ext.rf _).drew, (fun j _ h => by cases h)⟩
theorem PhA.put (hF : ∀ W W' j v, F W j v → Ext W W' → F W' j v) (h : PhA w5 F n L W vv) (hi : i < n) (hb : Ext W W') (hv : F W' i v) : PhA w5 F n (fun j => decide (j = i) || L j) W' (fun j => if j = i then v else vv j) := by
  refine ⟨?_, h.ext.tr hb, fun j hj hl => ?_⟩
  · show (decide (n = i) || L n) = false
    rw [h.not, decide_eq_false (by omega)]; rfl
  · by_cases hji : j = i
    · subst hji; simpa using hv
    · have h2 : (decide (j = i) || L j) = true := hl
      rw [decide_eq_false hji, Bool.false_or] at h2
      simp only [if_neg hji]
      exact hF _ _ _ _ (h.facts j hj h2) hb
theorem PhB.first (hn2 : L (n + 2) = false) (hn1 : L (n + 1) = false) (hd : D W v) : PhB D n p (fun j => decide (j = n) || L j) W (fun j => if j = n then v else vv j) := by
  refine ⟨by simp, ?_, by simpa using hd, fun h => ?_⟩
  · show (decide (n + 2 = n) || L (n + 2)) = false
    rw [hn2, decide_eq_false (by omega)]; rfl
  · have h2 : (decide (n + 1 = n) || L (n + 1)) = true := h
    rw [hn1, decide_eq_false (by omega)] at h2; cases h2
theorem PhB.next (h : PhB D n p L W vv) : PhB D n p (fun j => decide (j = n + 1) || L j) W (fun j => if j = n + 1 then p else vv j) := by
  refine ⟨?_, ?_, ?_, fun _ => by simp⟩
  · show (decide (n = n + 1) || L n) = true
    rw [h.app, Bool.or_true]
  · show (decide (n + 2 = n + 1) || L (n + 2)) = false
    rw [h.not, decide_eq_false (by omega)]; rfl
  · simp only [if_neg (show ¬ n = n + 1 by omega)]; exact h.done
end
theorem only6_set (w : World) (r : Nat) (a' b' c' d' e' f' : Value) :
    Only (fun j => j = r) w ((((((w.setCell ⟨r, 0, none⟩ a').setCell ⟨r, 1, none⟩ b').setCell ⟨r, 2, none⟩ c').setCell ⟨r, 3, none⟩ d').setCell ⟨r, 4, none⟩ e').setCell ⟨r, 5, none⟩ f') :=
  have h : ∀ (W : World) (i : Nat) (u : Value), Only (fun j => j = r) W (W.setCell ⟨r, i, none⟩ u) := fun W i u => Only.setCell (C := fun j => j = r) (p := ⟨r, i, none⟩) rfl W u
  (((((h _ _ _).tr (h _ _ _)).tr (h _ _ _)).tr (h _ _ _)).tr (h _ _ _)).tr (h _ _ _)
end Go.Proofs.YtkdglplfcpindaaGreatDoor

/- visit.go: child, of a clause. -/
namespace Go.Proofs.YtkdglplfcpindaaGreatDoor
open Go.RowKit

/-- What the operations ahead of the stores yield. -/
def FCh (n1 gc : Nat) (vals : Nat → Value) (L E : Env) (pl : Value) (W : World) (j : Nat) (v : Value) : Prop :=
  if j = 25 then ∃ q, v = scV (.pointer q) pl ∧ RB W E (.pointer q) ∧ RB W L pl else v = vals j
theorem FCh.ext {n1 gc : Nat} {vals : Nat → Value} {L E : Env} {pl : Value} (W W' : World) (j : Nat) (v : Value) (h : FCh n1 gc vals L E pl W j v) (hb : Ext W W') : FCh n1 gc vals L E pl W' j v := by
  unfold FCh at *
  split
  · rename_i hj
    rw [if_pos hj] at h
    obtain ⟨q, h1, h2, h3⟩ := h
    exact ⟨q, h1, h2.below hb, h3.below hb⟩
  · rename_i hj
    rw [if_neg hj] at h
    exact h
theorem FCh.val {n1 gc : Nat} {vals : Nat → Value} {L E : Env} {pl : Value} {W : World} {j : Nat} {v : Value} (h : FCh n1 gc vals L E pl W j v) (hj : j ≠ 25) : v = vals j := by
  unfold FCh at h; rwa [if_neg hj] at h
theorem FCh.scope {n1 gc : Nat} {vals : Nat → Value} {L E : Env} {pl : Value} {W : World} {v : Value} (h : FCh n1 gc vals L E pl W 25 v) : ∃ q, v = scV (.pointer q) pl ∧ RB W E (.pointer q) ∧ RB W L pl := by
  unfold FCh at h; rwa [if_pos rfl] at h

set_option maxHeartbeats 4000000 in
set_option maxRecDepth 100000 in
theorem childC_any (gc : Nat) (P : Pg) (V L : Env) (pv pl : Value) (k : Nat) (t : Tm) (ux uc : Value) (i : Int) (n : Nat) (cl : List Str × Tm) (u : Nat) (d : Decl) (x : Xtor) (w : World) (hV : RB w V pv) (hL : RB w L pl) (ht : RT w (k + 1) t ux uc) (hk : RCk w gc P) (hin : i = ((t.args.length + n : Nat) : Int)) (hcl : t.cls[n]? = some cl) (hty : t.ty = ((u + 1 : Nat) : Int)) (hd : P.decls[u]? = some d) (hx : d.xtors[n]? = some x) (hcx : cl.1.length = (prodL x).length) (hdl : P.decls.length ≤ 1000000) (hxl : d.xtors.length ≤ 1000000) (hsz : t.args.length + t.cls.length ≤ 1000000000) :
    Calls Tryz.prog 100 #[.pointer (some ⟨gc, 0, none⟩), scV pv pl, tV t ux uc, .int .i64 i] w fun e w' =>
      (∃ xa xc qv ql, e = .returned (.tuple #[tV (cl.2) xa xc, scV qv ql]) ∧ RT w' k (cl.2) xa xc ∧ RB w' (bindE cl.1 (prodL x) V) qv ∧ RB w' L ql) ∧ Ext w w' := by
  have HV := Lib.hid hV; have HL := Lib.hid hL; have HT := Lib.hid ht; have HCK := Lib.hid hk
  have hmx : Tryz.prog.follows .mixedOrders = true := by kernel_rfl
  obtain ⟨qv, rfl⟩ := hV.form
  obtain ⟨ql, rfl⟩ := hL.form
  obtain ⟨_, ⟨Aa, ca, rfl, hca, hma⟩, ⟨Bb, cb, rfl, hcb, hmb⟩⟩ := ht.form
  clear hV hL ht hk
  unfold maxLen at hma hmb
  have HE := Lib.hid ((Ext.al3 w (.cells #[.pointer qv, .pointer ql] 134) (.cells #[.int .i64 t.op, .int .i64 t.n, .string t.nm, .int .i64 t.ty, .slice Aa t.args.length ca, .slice Bb t.cls.length cb] 50) (.cells #[.int .i64 0, .int .i64 0, .string ⟨#[]⟩, .int .i64 0, .slice none 0 0, .slice none 0 0] 50)).tr (Ext.al _ (.cells #[.pointer none, .pointer none] 134)))
  obtain ⟨hb1, hb2, hb3, hb4⟩ := box_four w (.cells #[.pointer qv, .pointer ql] 134) (.cells #[.int .i64 t.op, .int .i64 t.n, .string t.nm, .int .i64 t.ty, .slice Aa t.args.length ca, .slice Bb t.cls.length cb] 50) (.cells #[.int .i64 0, .int .i64 0, .string ⟨#[]⟩, .int .i64 0, .slice none 0 0, .slice none 0 0] 50) (.cells #[.pointer none, .pointer none] 134)
  have HB1 := Lib.hid hb1; have HB2 := Lib.hid hb2; have HB3 := Lib.hid hb3; have HB4 := Lib.hid hb4
  clear hb1 hb2 hb3 hb4
  have n4 := cellAt HB2.out 4
  go_enter Tryz.func100, Tryz.ntmps100
  have hnl : n < t.cls.length := (List.getElem?_eq_some_iff.1 hcl).1
  obtain ⟨b, o, vn, xa, xc, rfl, hbl, yn, ys, yc, yt⟩ := HT.out.clause hnl
  have hgl : t.cls[n] = cl := (List.getElem?_eq_some_iff.1 hcl).2
  rw [hgl] at ys yc yt
  have yn := HE.out.keep yn
  have yc := yc.below HE.out
  have HNS := Lib.hid (ys.below HE.out)
  have HTY := Lib.hid yt
  obtain ⟨An, cn, rfl, hcn, hmn⟩ := ys.form
  obtain ⟨-, ⟨Ax, cx, rfl, -, -⟩, ⟨Bx, dx, rfl, -, -⟩⟩ := yt.form
  obtain ⟨sg, hsg⟩ : ∃ sg, sgX d (u + 1) x = sg := ⟨_, rfl⟩
  have hsga : ∃ r, sg.args = prodL x ++ r := by
    rw [← hsg]; unfold sgX
    cases d.codata
    · exact ⟨[], by simp⟩
    · exact ⟨[(u : Int) + 1], by simp⟩
  have HSGA := Lib.hid hsga
  have hfs : (d.xtors.map (sgX d (u + 1)))[n]? = some sg := by rw [List.getElem?_map, hx, ← hsg]; rfl
  have hml : n < (d.xtors.map (sgX d (u + 1))).length := (List.getElem?_eq_some_iff.1 hfs).1
  have hmx2 : (d.xtors.map (sgX d (u + 1))).length ≤ 1000000 := by rw [List.length_map]; exact hxl
  have hxs := xsP_at hd
  have hul : u + 1 < (xsP P).length := (List.getElem?_eq_some_iff.1 hxs).1
  have hulm : (xsP P).length ≤ 1000001 := by rw [xsP_len]; omega
  obtain ⟨-, ⟨vx, g1, hrs⟩⟩ := HCK.out.below HE.out
  obtain ⟨Axs, cxs, rfl, -, -⟩ := hrs.form
  obtain ⟨bx, ox, vr, rfl, r0, hrow⟩ := hrs.at_ hxs
  obtain ⟨Ar, cr, rfl, -, -⟩ := hrow.form
  obtain ⟨bs, os, vs, rfl, s0, s1, hsa⟩ := hrow.at_ hfs
  obtain ⟨As, cs, rfl, -, -⟩ := hsa.form
  clear hxs hrs hrow
  generalize u + 1 = u1 at hty hul r0
  have HSA := Lib.hid hsa
  have HG1 := Lib.hid g1; have HR0 := Lib.hid r0; have HS0 := Lib.hid s0; have HYN := Lib.hid yn; have HYC := Lib.hid yc
  have HTYY := Lib.hid hty
  have HCX := Lib.hid hcx
  clear hsa hd hsg hfs hx g1 r0 s0 s1 yn yc ys yt hgl hcl hsga hty hcx
  generalize (xsP P).length = nx at *
  generalize (d.xtors.map (sgX d (u + 1))).length = nr at *
  have HLEN : Hid (cl.1.length ≤ sg.args.length) := by
    obtain ⟨r, hr⟩ := HSGA.out
    show _ ≤ _
    rw [hr, HCX.out, List.length_append]; omega
  have HBE : Hid (bindE cl.1 sg.args V = bindE cl.1 (prodL x) V) := by
    obtain ⟨r, hr⟩ := HSGA.out
    show _ = _
    rw [hr]; exact bindE_app _ _ _ _ (by rw [HCX.out]; exact Nat.le_refl _)
  have hge : (t.args.length : Int) ≤ i := by omega
  have hi1 : i ≤ 9223372036854775807 := by have := hcb; omega
  have HSUB : Hid (i - (t.args.length : Int) = n) := by show _ = _; omega
  clear hin
  go_upto_region 3 with fail
  have hsub := HSUB.out
  simp only [hsub]
  clear hsub hge hi1
  generalize World.alloc (World.alloc (World.alloc (World.alloc w _) _) _) _ = w1 at *
  obtain ⟨vals, hvals⟩ : ∃ vals : Nat → Value, vals = fun j => if j = 0 then .pointer (some ⟨w.heap.size + 1, 5, none⟩) else if j = 1 then .slice (some ⟨b, o, none⟩) t.cls.length cb else if j = 2 then .int .i64 n else if j = 3 then .pointer (some ⟨b, o + n * 7, none⟩) else if j = 4 then .pointer (some ⟨b, o + n * 7 + 1, none⟩) else if j = 5 then tV cl.2 (.slice Ax cl.2.args.length cx) (.slice Bx cl.2.cls.length dx) else if j = 6 then scV (.pointer qv) (.pointer ql) else if j = 7 then .pointer (some ⟨w.heap.size + 1, 5, none⟩) else if j = 8 then .slice (some ⟨b, o, none⟩) t.cls.length cb else if j = 9 then .int .i64 n else if j = 10 then .pointer (some ⟨b, o + n * 7, none⟩) else if j = 11 then .pointer (some ⟨b, o + n * 7, none⟩) else if j = 12 then .slice An cl.1.length cn else if j = 13 then .pointer (some ⟨gc, 0, none⟩) else if j = 14 then .pointer (some ⟨gc, 0, none⟩) else if j = 15 then .pointer (some ⟨gc, 1, none⟩) else if j = 16 then .slice (some ⟨bx, ox, none⟩) nx cxs else if j = 17 then .pointer (some ⟨w.heap.size + 1, 3, none⟩) else if j = 18 then .int .i64 (u1 : Int) else if j = 19 then .pointer (some ⟨bx, ox + u1, none⟩) else if j = 20 then .slice (some ⟨bs, os, none⟩) nr cr else if j = 21 then .int .i64 n else if j = 22 then .pointer (some ⟨bs, os + n * 2, none⟩) else if j = 23 then .pointer (some ⟨bs, os + n * 2, none⟩) else .slice As sg.args.length cs := ⟨_, rfl⟩
  have HV0 : Hid (vals 0 = .pointer (some ⟨w.heap.size + 1, 5, none⟩)) := by show _ = _; rw [hvals]; rfl
  have HV1 : Hid (vals 1 = .slice (some ⟨b, o, none⟩) t.cls.length cb) := by show _ = _; rw [hvals]; rfl
  have HV2 : Hid (vals 2 = .int .i64 n) := by show _ = _; rw [hvals]; rfl
  have HV3 : Hid (vals 3 = .pointer (some ⟨b, o + n * 7, none⟩)) := by show _ = _; rw [hvals]; rfl
  have HV4 : Hid (vals 4 = .pointer (some ⟨b, o + n * 7 + 1, none⟩)) := by show _ = _; rw [hvals]; rfl
  have HV5 : Hid (vals 5 = tV cl.2 (.slice Ax cl.2.args.length cx) (.slice Bx cl.2.cls.length dx)) := by show _ = _; rw [hvals]; rfl
  have HV6 : Hid (vals 6 = scV (.pointer qv) (.pointer ql)) := by show _ = _; rw [hvals]; rfl
  have HV7 : Hid (vals 7 = .pointer (some ⟨w.heap.size + 1, 5, none⟩)) := by show _ = _; rw [hvals]; rfl
  have HV8 : Hid (vals 8 = .slice (some ⟨b, o, none⟩) t.cls.length cb) := by show _ = _; rw [hvals]; rfl
  have HV9 : Hid (vals 9 = .int .i64 n) := by show _ = _; rw [hvals]; rfl
  have HV10 : Hid (vals 10 = .pointer (some ⟨b, o + n * 7, none⟩)) := by show _ = _; rw [hvals]; rfl
  have HV11 : Hid (vals 11 = .pointer (some ⟨b, o + n * 7, none⟩)) := by show _ = _; rw [hvals]; rfl
  have HV12 : Hid (vals 12 = .slice An cl.1.length cn) := by show _ = _; rw [hvals]; rfl
  have HV13 : Hid (vals 13 = .pointer (some ⟨gc, 0, none⟩)) := by show _ = _; rw [hvals]; rfl
  have HV14 : Hid (vals 14 = .pointer (some ⟨gc, 0, none⟩)) := by show _ = _; rw [hvals]; rfl
  have HV15 : Hid (vals 15 = .pointer (some ⟨gc, 1, none⟩)) := by show _ = _; rw [hvals]; rfl
  have HV16 : Hid (vals 16 = .slice (some ⟨bx, ox, none⟩) nx cxs) := by show _ = _; rw [hvals]; rfl
  have HV17 : Hid (vals 17 = .pointer (some ⟨w.heap.size + 1, 3, none⟩)) := by show _ = _; rw [hvals]; rfl
  have HV18 : Hid (vals 18 = .int .i64 (u1 : Int)) := by show _ = _; rw [hvals]; rfl
  have HV19 : Hid (vals 19 = .pointer (some ⟨bx, ox + u1, none⟩)) := by show _ = _; rw [hvals]; rfl
  have HV20 : Hid (vals 20 = .slice (some ⟨bs, os, none⟩) nr cr) := by show _ = _; rw [hvals]; rfl
  have HV21 : Hid (vals 21 = .int .i64 n) := by show _ = _; rw [hvals]; rfl
  have HV22 : Hid (vals 22 = .pointer (some ⟨bs, os + n * 2, none⟩)) := by show _ = _; rw [hvals]; rfl
  have HV23 : Hid (vals 23 = .pointer (some ⟨bs, os + n * 2, none⟩)) := by show _ = _; rw [hvals]; rfl
  have HV24 : Hid (vals 24 = .slice As sg.args.length cs) := by show _ = _; rw [hvals]; rfl
  clear hvals
  refine wp_region_invC hmx (by kernel_rfl) (fun Ls a W => ∃ vv : Nat → Value, a = { tmps := #[Value.pointer (some { block := gc, off := 0 }), scV (Value.pointer qv) (Value.pointer ql), tV t (Value.slice Aa t.args.length ca) (Value.slice (some { block := b, off := o }) t.cls.length cb), Value.int IntKind.i64 i, undef, Value.pointer (some { block := w.heap.size, off := 0 }), Value.pointer (some { block := w.heap.size + 1, off := 0 }), undef, Value.pointer (some { block := w.heap.size + 1 + 1, off := 0 }), Value.pointer (some { block := w.heap.size + 1 + 1 + 1, off := 0 }), Value.int IntKind.i64 (n : Int), Value.int IntKind.i64 i, Value.pointer (some { block := w.heap.size + 1, off := 4 }), Value.slice Aa t.args.length ca, Value.int IntKind.i64 (t.args.length : Int), Value.bool true, Value.int IntKind.i64 i, Value.pointer (some { block := w.heap.size + 1, off := 4 }), Value.slice Aa t.args.length ca, Value.int IntKind.i64 (t.args.length : Int), Value.int IntKind.i64 (n : Int), vv 0, vv 1, vv 2, vv 3, vv 4, vv 5, vv 6, vv 7, vv 8, vv 9, vv 10, vv 11, vv 12, vv 13, vv 14, vv 15, vv 16, vv 17, vv 18, vv 19, vv 20, vv 21, vv 22, vv 23, vv 24, vv 25, undef, undef, undef, undef, undef, undef, undef, undef, undef, undef, undef, undef, undef, undef, undef, undef, undef, undef, undef, undef, undef, undef, undef, undef, undef, undef, undef, undef, undef, undef, undef, undef, undef, undef], defers := [] } ∧
    (PhA w1 (FCh (w.heap.size + 1) gc vals L (bindE cl.1 sg.args V) (.pointer ql)) 26 Ls W vv ∨
      (Ls 26 = true ∧ Ls 27 = false ∧ vv 25 = vv 25 ∧ ∃ W0 q, Ext w1 W0 ∧ vv 25 = scV (.pointer q) (.pointer ql) ∧ RB W0 (bindE cl.1 sg.args V) (.pointer q) ∧ RB W0 L (.pointer ql) ∧ W = ((((((W0.setCell ⟨w.heap.size + 1 + 1, 0, none⟩ (.int .i64 cl.2.op)).setCell ⟨w.heap.size + 1 + 1, 1, none⟩ (.int .i64 cl.2.n)).setCell ⟨w.heap.size + 1 + 1, 2, none⟩ (.string cl.2.nm)).setCell ⟨w.heap.size + 1 + 1, 3, none⟩ (.int .i64 cl.2.ty)).setCell ⟨w.heap.size + 1 + 1, 4, none⟩ (.slice Ax cl.2.args.length cx)).setCell ⟨w.heap.size + 1 + 1, 5, none⟩ (.slice Bx cl.2.cls.length dx))) ∨
      ((∀ i, i < 28 → Ls i = true) ∧ ∃ q, W.heap[w.heap.size + 1 + 1]? = some (.cells #[.int .i64 cl.2.op, .int .i64 cl.2.n, .string cl.2.nm, .int .i64 cl.2.ty, .slice Ax cl.2.args.length cx, .slice Bx cl.2.cls.length dx] 50 (0, 0)) ∧ W.heap[w.heap.size + 1 + 1 + 1]? = some (.cells #[.pointer q, .pointer ql] 134 (0, 0)) ∧ Ext w W ∧ RB W (bindE cl.1 sg.args V) (.pointer q) ∧ RB W L (.pointer ql)))) ?_ ?_ ?_
  · exact ⟨fun _ => undef, rfl, .inl (PhA.zero _ _ _ _)⟩
  · intro Ls a W i op ho hpre hl hc hI Kk HKk
    have hi : i < 28 := (Array.getElem?_eq_some_iff.1 ho).1
    obtain ⟨vv, rfl, hI | ⟨h26, h27, -, W0, q, hx0, hv25, hrE, hrL, rfl⟩ | hI⟩ := hI
    · have HPA := Lib.hid hI
      have HL5 := Lib.hid hI.not
      have hcs : i = 0 ∨ i = 1 ∨ i = 2 ∨ i = 3 ∨ i = 4 ∨ i = 5 ∨ i = 6 ∨ i = 7 ∨ i = 8 ∨ i = 9 ∨ i = 10 ∨ i = 11 ∨ i = 12 ∨ i = 13 ∨ i = 14 ∨ i = 15 ∨ i = 16 ∨ i = 17 ∨ i = 18 ∨ i = 19 ∨ i = 20 ∨ i = 21 ∨ i = 22 ∨ i = 23 ∨ i = 24 ∨ i = 25 ∨ i = 26 ∨ i = 27 := by omega
      rcases hcs with rfl | rfl | rfl | rfl | rfl | rfl | rfl | rfl | rfl | rfl | rfl | rfl | rfl | rfl | rfl | rfl | rfl | rfl | rfl | rfl | rfl | rfl | rfl | rfl | rfl | rfl | rfl | rfl
      all_goals
        obtain rfl := Option.some.inj ho
        clear ho hi hI
      · clear hpre
        go_simp
        exact HKk.out _ _ ⟨_, rfl, .inl (HPA.out.put (v := .pointer (some ⟨w.heap.size + 1, 5, none⟩)) FCh.ext (by decide) (Ext.rf _) (by unfold FCh; rw [if_neg (by decide), HV0.out]))⟩
      · simp [Region.binds] at hpre
        have e0 : vv 0 = _ := (HPA.out.facts 0 (by decide) (by simp [hpre])).val (by decide)
        rw [HV0.out] at e0
        have c := HPA.out.ext.keep (cellAt HB2.out 5)
        go_simp
        exact HKk.out _ _ ⟨_, by simp [e0], .inl (HPA.out.put (v := .slice (some ⟨b, o, none⟩) t.cls.length cb) FCh.ext (by decide) (Ext.rf _) (by unfold FCh; rw [if_neg (by decide), HV1.out]))⟩
      · clear hpre
        go_simp
        exact HKk.out _ _ ⟨_, rfl, .inl (HPA.out.put (v := .int .i64 n) FCh.ext (by decide) (Ext.rf _) (by unfold FCh; rw [if_neg (by decide), HV2.out]))⟩
      · simp [Region.binds] at hpre
        have e1 : vv 1 = _ := (HPA.out.facts 1 (by decide) (by simp [hpre])).val (by decide)
        rw [HV1.out] at e1
        have e2 : vv 2 = _ := (HPA.out.facts 2 (by decide) (by simp [hpre])).val (by decide)
        rw [HV2.out] at e2
        go_simp
        exact HKk.out _ _ ⟨_, by simp [e1, e2], .inl (HPA.out.put (v := .pointer (some ⟨b, o + n * 7, none⟩)) FCh.ext (by decide) (Ext.rf _) (by unfold FCh; rw [if_neg (by decide), HV3.out]))⟩
      · simp [Region.binds] at hpre
        have e3 : vv 3 = _ := (HPA.out.facts 3 (by decide) (by simp [hpre])).val (by decide)
        rw [HV3.out] at e3
        go_simp
        exact HKk.out _ _ ⟨_, by simp [e3], .inl (HPA.out.put (v := .pointer (some ⟨b, o + n * 7 + 1, none⟩)) FCh.ext (by decide) (Ext.rf _) (by unfold FCh; rw [if_neg (by decide), HV4.out]))⟩
      · simp [Region.binds] at hpre
        have e4 : vv 4 = _ := (HPA.out.facts 4 (by decide) (by simp [hpre])).val (by decide)
        rw [HV4.out] at e4
        have c0 := HPA.out.ext.keep HYC.out.c0
        have c1 := HPA.out.ext.keep HYC.out.c1
        have c2 := HPA.out.ext.keep HYC.out.c2
        have c3 := HPA.out.ext.keep HYC.out.c3
        have c4 := HPA.out.ext.keep HYC.out.c4
        have c5 := HPA.out.ext.keep HYC.out.c5
        go_simp
        exact HKk.out _ _ ⟨_, by simp [e4], .inl (HPA.out.put (v := tV cl.2 (.slice Ax cl.2.args.length cx) (.slice Bx cl.2.cls.length dx)) FCh.ext (by decide) (Ext.rf _) (by unfold FCh; rw [if_neg (by decide), HV5.out]))⟩
      · clear hpre
        have c0 := HPA.out.ext.keep (cellAt HB1.out 0)
        have c1 := HPA.out.ext.keep (cellAt HB1.out 1)
        go_simp
        exact HKk.out _ _ ⟨_, rfl, .inl (HPA.out.put (v := scV (.pointer qv) (.pointer ql)) FCh.ext (by decide) (Ext.rf _) (by unfold FCh; rw [if_neg (by decide), HV6.out]))⟩
      · clear hpre
        go_simp
        exact HKk.out _ _ ⟨_, rfl, .inl (HPA.out.put (v := .pointer (some ⟨w.heap.size + 1, 5, none⟩)) FCh.ext (by decide) (Ext.rf _) (by unfold FCh; rw [if_neg (by decide), HV7.out]))⟩
      · simp [Region.binds] at hpre
        have e7 : vv 7 = _ := (HPA.out.facts 7 (by decide) (by simp [hpre])).val (by decide)
        rw [HV7.out] at e7
        have c := HPA.out.ext.keep (cellAt HB2.out 5)
        go_simp
        exact HKk.out _ _ ⟨_, by simp [e7], .inl (HPA.out.put (v := .slice (some ⟨b, o, none⟩) t.cls.length cb) FCh.ext (by decide) (Ext.rf _) (by unfold FCh; rw [if_neg (by decide), HV8.out]))⟩
      · clear hpre
        go_simp
        exact HKk.out _ _ ⟨_, rfl, .inl (HPA.out.put (v := .int .i64 n) FCh.ext (by decide) (Ext.rf _) (by unfold FCh; rw [if_neg (by decide), HV9.out]))⟩
      · simp [Region.binds] at hpre
        have e8 : vv 8 = _ := (HPA.out.facts 8 (by decide) (by simp [hpre])).val (by decide)
        rw [HV8.out] at e8
        have e9 : vv 9 = _ := (HPA.out.facts 9 (by decide) (by simp [hpre])).val (by decide)
        rw [HV9.out] at e9
        go_simp
        exact HKk.out _ _ ⟨_, by simp [e8, e9], .inl (HPA.out.put (v := .pointer (some ⟨b, o + n * 7, none⟩)) FCh.ext (by decide) (Ext.rf _) (by unfold FCh; rw [if_neg (by decide), HV10.out]))⟩
      · simp [Region.binds] at hpre
        have e10 : vv 10 = _ := (HPA.out.facts 10 (by decide) (by simp [hpre])).val (by decide)
        rw [HV10.out] at e10
        go_simp
        exact HKk.out _ _ ⟨_, by simp [e10], .inl (HPA.out.put (v := .pointer (some ⟨b, o + n * 7, none⟩)) FCh.ext (by decide) (Ext.rf _) (by unfold FCh; rw [if_neg (by decide), HV11.out]))⟩
      · simp [Region.binds] at hpre
        have e11 : vv 11 = _ := (HPA.out.facts 11 (by decide) (by simp [hpre])).val (by decide)
        rw [HV11.out] at e11
        have c := HPA.out.ext.keep HYN.out
        go_simp
        exact HKk.out _ _ ⟨_, by simp [e11], .inl (HPA.out.put (v := .slice An cl.1.length cn) FCh.ext (by decide) (Ext.rf _) (by unfold FCh; rw [if_neg (by decide), HV12.out]))⟩
      · clear hpre
        go_simp
        exact HKk.out _ _ ⟨_, rfl, .inl (HPA.out.put (v := .pointer (some ⟨gc, 0, none⟩)) FCh.ext (by decide) (Ext.rf _) (by unfold FCh; rw [if_neg (by decide), HV13.out]))⟩
      · simp [Region.binds] at hpre
        have e13 : vv 13 = _ := (HPA.out.facts 13 (by decide) (by simp [hpre])).val (by decide)
        rw [HV13.out] at e13
        go_simp
        exact HKk.out _ _ ⟨_, by simp [e13], .inl (HPA.out.put (v := .pointer (some ⟨gc, 0, none⟩)) FCh.ext (by decide) (Ext.rf _) (by unfold FCh; rw [if_neg (by decide), HV14.out]))⟩
      · simp [Region.binds] at hpre
        have e14 : vv 14 = _ := (HPA.out.facts 14 (by decide) (by simp [hpre])).val (by decide)
        rw [HV14.out] at e14
        go_simp
        exact HKk.out _ _ ⟨_, by simp [e14], .inl (HPA.out.put (v := .pointer (some ⟨gc, 1, none⟩)) FCh.ext (by decide) (Ext.rf _) (by unfold FCh; rw [if_neg (by decide), HV15.out]))⟩
      · simp [Region.binds] at hpre
        have e15 : vv 15 = _ := (HPA.out.facts 15 (by decide) (by simp [hpre])).val (by decide)
        rw [HV15.out] at e15
        have c := HPA.out.ext.keep HG1.out
        go_simp
        exact HKk.out _ _ ⟨_, by simp [e15], .inl (HPA.out.put (v := .slice (some ⟨bx, ox, none⟩) nx cxs) FCh.ext (by decide) (Ext.rf _) (by unfold FCh; rw [if_neg (by decide), HV16.out]))⟩
      · clear hpre
        go_simp
        exact HKk.out _ _ ⟨_, rfl, .inl (HPA.out.put (v := .pointer (some ⟨w.heap.size + 1, 3, none⟩)) FCh.ext (by decide) (Ext.rf _) (by unfold FCh; rw [if_neg (by decide), HV17.out]))⟩
      · simp [Region.binds] at hpre
        have e17 : vv 17 = _ := (HPA.out.facts 17 (by decide) (by simp [hpre])).val (by decide)
        rw [HV17.out] at e17
        have c : W.cell? ⟨w.heap.size + 1, 3, none⟩ = some (.int .i64 t.ty) := HPA.out.ext.keep (cellAt HB2.out 3)
        rw [HTYY.out] at c
        go_simp
        exact HKk.out _ _ ⟨_, by simp [e17], .inl (HPA.out.put (v := .int .i64 (u1 : Int)) FCh.ext (by decide) (Ext.rf _) (by unfold FCh; rw [if_neg (by decide), HV18.out]))⟩
      · simp [Region.binds] at hpre
        have e16 : vv 16 = _ := (HPA.out.facts 16 (by decide) (by simp [hpre])).val (by decide)
        rw [HV16.out] at e16
        have e18 : vv 18 = _ := (HPA.out.facts 18 (by decide) (by simp [hpre])).val (by decide)
        rw [HV18.out] at e18
        go_simp
        exact HKk.out _ _ ⟨_, by simp [e16, e18], .inl (HPA.out.put (v := .pointer (some ⟨bx, ox + u1, none⟩)) FCh.ext (by decide) (Ext.rf _) (by unfold FCh; rw [if_neg (by decide), HV19.out]))⟩
      · simp [Region.binds] at hpre
        have e19 : vv 19 = _ := (HPA.out.facts 19 (by decide) (by simp [hpre])).val (by decide)
        rw [HV19.out] at e19
        have c := HPA.out.ext.keep HR0.out
        go_simp
        exact HKk.out _ _ ⟨_, by simp [e19], .inl (HPA.out.put (v := .slice (some ⟨bs, os, none⟩) nr cr) FCh.ext (by decide) (Ext.rf _) (by unfold FCh; rw [if_neg (by decide), HV20.out]))⟩
      · clear hpre
        go_simp
        exact HKk.out _ _ ⟨_, rfl, .inl (HPA.out.put (v := .int .i64 n) FCh.ext (by decide) (Ext.rf _) (by unfold FCh; rw [if_neg (by decide), HV21.out]))⟩
      · simp [Region.binds] at hpre
        have e20 : vv 20 = _ := (HPA.out.facts 20 (by decide) (by simp [hpre])).val (by decide)
        rw [HV20.out] at e20
        have e21 : vv 21 = _ := (HPA.out.facts 21 (by decide) (by simp [hpre])).val (by decide)
        rw [HV21.out] at e21
        go_simp
        exact HKk.out _ _ ⟨_, by simp [e20, e21], .inl (HPA.out.put (v := .pointer (some ⟨bs, os + n * 2, none⟩)) FCh.ext (by decide) (Ext.rf _) (by unfold FCh; rw [if_neg (by decide), HV22.out]))⟩
      · simp [Region.binds] at hpre
        have e22 : vv 22 = _ := (HPA.out.facts 22 (by decide) (by simp [hpre])).val (by decide)
        rw [HV22.out] at e22
        go_simp
        exact HKk.out _ _ ⟨_, by simp [e22], .inl (HPA.out.put (v := .pointer (some ⟨bs, os + n * 2, none⟩)) FCh.ext (by decide) (Ext.rf _) (by unfold FCh; rw [if_neg (by decide), HV23.out]))⟩
      · simp [Region.binds] at hpre
        have e23 : vv 23 = _ := (HPA.out.facts 23 (by decide) (by simp [hpre])).val (by decide)
        rw [HV23.out] at e23
        have c := HPA.out.ext.keep HS0.out
        go_simp
        exact HKk.out _ _ ⟨_, by simp [e23], .inl (HPA.out.put (v := .slice As sg.args.length cs) FCh.ext (by decide) (Ext.rf _) (by unfold FCh; rw [if_neg (by decide), HV24.out]))⟩
      · simp [Region.binds] at hpre
        have e6 : vv 6 = _ := (HPA.out.facts 6 (by decide) (by simp [hpre])).val (by decide)
        have e12 : vv 12 = _ := (HPA.out.facts 12 (by decide) (by simp [hpre])).val (by decide)
        have e24 : vv 24 = _ := (HPA.out.facts 24 (by decide) (by simp [hpre])).val (by decide)
        rw [HV6.out] at e6
        rw [HV12.out] at e12
        rw [HV24.out] at e24
        go_simp
        (refine (bind_any V L _ _ _ _ cl.1 sg.args W ((HV.out.below HE.out).below HPA.out.ext) ((HL.out.below HE.out).below HPA.out.ext) (HNS.out.below HPA.out.ext) (HSA.out.below HPA.out.ext) HLEN.out).mono ?_)
        rintro e W' ⟨⟨qq, rfl, hr1, hr2⟩, hb⟩
        obtain ⟨q, rfl⟩ := hr1.form
        exact HKk.out _ _ ⟨_, by simp [e6, e12, e24], .inl (HPA.out.put (v := scV (.pointer q) (.pointer ql)) FCh.ext (by decide) hb (by unfold FCh; rw [if_pos rfl]; exact ⟨q, rfl, hr1, hr2⟩))⟩
      · have h27 : Ls 27 = false := by
          cases h7 : Ls 27
          · rfl
          · have := hc 27 _ rfl h7 ⟨26, .phase⟩ (by simp) rfl
            rw [HL5.out] at this; cases this
        have h5 := hpre ⟨5, .data⟩ (by simp) rfl
        have h25 := hpre ⟨25, .chain⟩ (by simp) rfl
        have e5 : vv 5 = _ := (HPA.out.facts 5 (by decide) h5).val (by decide)
        rw [HV5.out] at e5
        obtain ⟨q, e25, hr1, hr2⟩ := (HPA.out.facts 25 (by decide) h25).scope
        have HR1 := Lib.hid hr1; have HR2 := Lib.hid hr2; have H25 := Lib.hid e25
        have hz := (HPA.out.ext.block _ (heap_lt HB3.out)).trans HB3.out
        obtain ⟨z0, z1, z2, z3, z4, z5⟩ := cells6 hz
        have f0 := frozenAt hz 0
        have f1 := frozenAt hz 1
        have f2 := frozenAt hz 2
        have f3 := frozenAt hz 3
        have f4 := frozenAt hz 4
        have f5 := frozenAt hz 5
        clear hpre h5 h25 hr1 hr2 hz e25
        go_simp
        refine HKk.out _ _ ⟨vv, by simp [e5], .inr (.inl ⟨by simp, ?_, rfl, W, q, HPA.out.ext, H25.out, HR1.out, HR2.out, rfl⟩)⟩
        show (decide (27 = 26) || Ls 27) = false
        rw [h27]; rfl
      · exfalso
        have := hpre ⟨26, .phase⟩ (by simp) rfl
        rw [HL5.out] at this; cases this
    · have hall : ∀ i, i < 27 → Ls i = true := by
        have h25 := hc 26 _ rfl h26 ⟨25, .chain⟩ (by simp) rfl
        have h5 := hc 26 _ rfl h26 ⟨5, .data⟩ (by simp) rfl
        have h6 := hc 25 _ rfl h25 ⟨6, .data⟩ (by simp) rfl
        have h12 := hc 25 _ rfl h25 ⟨12, .data⟩ (by simp) rfl
        have h24 := hc 25 _ rfl h25 ⟨24, .data⟩ (by simp) rfl
        have h4 := hc 5 _ rfl h5 ⟨4, .data⟩ (by simp) rfl
        have h3 := hc 4 _ rfl h4 ⟨3, .data⟩ (by simp) rfl
        have h1 := hc 3 _ rfl h3 ⟨1, .data⟩ (by simp) rfl
        have h2 := hc 3 _ rfl h3 ⟨2, .data⟩ (by simp) rfl
        have h0 := hc 1 _ rfl h1 ⟨0, .data⟩ (by simp) rfl
        have h11 := hc 12 _ rfl h12 ⟨11, .data⟩ (by simp) rfl
        have h10 := hc 11 _ rfl h11 ⟨10, .data⟩ (by simp) rfl
        have h8 := hc 10 _ rfl h10 ⟨8, .data⟩ (by simp) rfl
        have h9 := hc 10 _ rfl h10 ⟨9, .data⟩ (by simp) rfl
        have h7 := hc 8 _ rfl h8 ⟨7, .data⟩ (by simp) rfl
        have h23 := hc 24 _ rfl h24 ⟨23, .data⟩ (by simp) rfl
        have h22 := hc 23 _ rfl h23 ⟨22, .data⟩ (by simp) rfl
        have h20 := hc 22 _ rfl h22 ⟨20, .data⟩ (by simp) rfl
        have h21 := hc 22 _ rfl h22 ⟨21, .data⟩ (by simp) rfl
        have h19 := hc 20 _ rfl h20 ⟨19, .data⟩ (by simp) rfl
        have h16 := hc 19 _ rfl h19 ⟨16, .data⟩ (by simp) rfl
        have h18 := hc 19 _ rfl h19 ⟨18, .data⟩ (by simp) rfl
        have h15 := hc 16 _ rfl h16 ⟨15, .data⟩ (by simp) rfl
        have h14 := hc 15 _ rfl h15 ⟨14, .data⟩ (by simp) rfl
        have h13 := hc 14 _ rfl h14 ⟨13, .data⟩ (by simp) rfl
        have h17 := hc 18 _ rfl h18 ⟨17, .data⟩ (by simp) rfl
        intro i hi
        rcases (show i = 0 ∨ i = 1 ∨ i = 2 ∨ i = 3 ∨ i = 4 ∨ i = 5 ∨ i = 6 ∨ i = 7 ∨ i = 8 ∨ i = 9 ∨ i = 10 ∨ i = 11 ∨ i = 12 ∨ i = 13 ∨ i = 14 ∨ i = 15 ∨ i = 16 ∨ i = 17 ∨ i = 18 ∨ i = 19 ∨ i = 20 ∨ i = 21 ∨ i = 22 ∨ i = 23 ∨ i = 24 ∨ i = 25 ∨ i = 26 by omega) with rfl | rfl | rfl | rfl | rfl | rfl | rfl | rfl | rfl | rfl | rfl | rfl | rfl | rfl | rfl | rfl | rfl | rfl | rfl | rfl | rfl | rfl | rfl | rfl | rfl | rfl | rfl <;> assumption
      have hcs : i < 27 ∨ i = 27 := by omega
      rcases hcs with hi6 | rfl
      · rw [hall i hi6] at hl; cases hl
      · obtain rfl := Option.some.inj ho
        have HRE := Lib.hid hrE; have HRL := Lib.hid hrL; have HX0 := Lib.hid hx0; have H25 := Lib.hid hv25
        have hz2 := (hx0.block _ (heap_lt HB3.out)).trans HB3.out
        have hz3 := (hx0.block _ (heap_lt HB4.out)).trans HB4.out
        have HST := Lib.hid (child_store (w := w) hz2 hz3 (by omega) (HE.out.tr hx0) (by omega) (by omega) (.int .i64 cl.2.op) (.int .i64 cl.2.n) (.string cl.2.nm) (.int .i64 cl.2.ty) (.slice Ax cl.2.args.length cx) (.slice Bx cl.2.cls.length dx) (.pointer q) (.pointer ql))
        have ho6 := only6_set W0 (w.heap.size + 1 + 1) (.int .i64 cl.2.op) (.int .i64 cl.2.n) (.string cl.2.nm) (.int .i64 cl.2.ty) (.slice Ax cl.2.args.length cx) (.slice Bx cl.2.cls.length dx)
        have hz3' := (ho6.block _ (heap_lt hz3) (by omega)).trans hz3
        generalize World.setCell (World.setCell (World.setCell (World.setCell (World.setCell (World.setCell W0 _ _) _ _) _ _) _ _) _ _) _ _ = W1 at *
        have y0 := cellAt hz3' 0
        have y1 := cellAt hz3' 1
        have g0 := frozenAt hz3' 0
        have g1 := frozenAt hz3' 1
        clear ho hi hpre hrE hrL hx0 hz2 hz3 hz3' ho6
        go_simp
        obtain ⟨s2, s3, s4, s5⟩ := HST.out
        refine HKk.out _ _ ⟨vv, by simp [hv25], .inr (.inr ⟨fun i hi => ?_, q, s2, s3, s4, s5 _ _ HRE.out, s5 _ _ HRL.out⟩)⟩
        show (decide (i = 27) || Ls i) = true
        rcases (show i < 27 ∨ i = 27 by omega) with h | rfl
        · rw [hall i h, Bool.or_true]
        · rfl
    · exfalso
      rw [hI.1 i hi] at hl; cases hl
  · intro Ls a W hall hI
    obtain ⟨vv, rfl, hI | ⟨-, h27, -⟩ | ⟨-, q, s2, s3, s4, s5, s6⟩⟩ := hI
    · have := hall 26 (by decide); rw [hI.not] at this; cases this
    · have := hall 27 (by decide); rw [h27] at this; cases this
    · have HS2 := Lib.hid s2; have HS3 := Lib.hid s3; have HS4 := Lib.hid s4; have HS5 := Lib.hid s5; have HS6 := Lib.hid s6
      clear s2 s3 s4 s5 s6
      go_wp2
      obtain ⟨z0, z1, z2, z3, z4, z5⟩ := cells6 HS2.out
      have y0 := cellAt HS3.out 0
      have y1 := cellAt HS3.out 1
      unfold bodyPost
      rw [← HBE.out]
      simp [results, go_sem, z0, z1, z2, z3, z4, z5, y0, y1]
      exact ⟨⟨_, _, _, _, ⟨⟨rfl, rfl⟩, rfl, rfl⟩, HTY.out.below HS4.out, HS5.out, HS6.out⟩, HS4.out⟩
end Go.Proofs.YtkdglplfcpindaaGreatDoor
