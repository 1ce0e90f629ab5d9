/- A map that the call made, given by what a look-up answers at each key. -/
import Derived.Test.YtkdhhcidpklgoaaGreatDoorQ2
import Derived.Maps.Own
import Derived.Maps.OwnSet
import Derived.Maps.Keyed
import Derived.DeepKeys5
import Derived.OwnWalk
import Derived.Maps.AppendAt
import Derived.Laws.MakeOwn
import Derived.Outline
import Derived.Deep.Cut
import Derived.Shelf.Abstract
import Derived.Shelf.RegionOpen
import Derived.LoopNIn
import Derived.LoopIn
namespace Go.Proofs.YtkdhhcidpklgoaaGreatDoor
open Go.RowKit Go.Maps Go.WideMaps Go.ChangeMaps Go.MapKept

def heldR (v : Value) : Option (DataW Value × List MemPlace) := some (.held v, [])
/-- What a key of this type is. -/
structure KeyT (P : Program) (k : TypeId) (κ : Type) where
  law : Keyed P k
  val : κ → Value
  ok : κ → Prop
  lit : κ → Lit
  is : ∀ x, ok x → keyOf P k (val x) = some (lit x)
  inj : ∀ x y, val x = val y → x = y
/-- Block b is a map of at most n entries; at x it answers g x, where z is the zero value of the elements. -/
def MapZ {κ : Type} {P : Program} {k : TypeId} (T : KeyT P k κ) (z : Value) (w : World) (b n : Nat) (g : κ → Value) : Prop :=
  ∃ D : DataW Value, w.ownsMap P k heldR b n D ∧ ∀ x, T.ok x → D.atKey (T.lit x) (.held z) = .held (g x)
section
variable {κ : Type} {P : Program} {k : TypeId} {T : KeyT P k κ} {z : Value} {w w' : World} {b n : Nat} {g : κ → Value}
theorem KeyT.ne (T : KeyT P k κ) {x y : κ} (hx : T.ok x) (hy : T.ok y) (h : x ≠ y) : T.lit x ≠ T.lit y := fun e =>
  h (T.inj _ _ (T.law.inj (T.is x hx) (e ▸ T.is y hy)))
theorem MapZ.mono (h : MapZ T z w b n g) {m : Nat} (hm : n ≤ m) : MapZ T z w b m g := by
  obtain ⟨D, h1, h2⟩ := h; exact ⟨D, h1.mono hm, h2⟩
theorem MapZ.block (h : MapZ T z w b n g) (hb : w'.heap[b]? = w.heap[b]?) : MapZ T z w' b n g := by
  obtain ⟨D, ⟨es, clock, he, r⟩, h2⟩ := h; exact ⟨D, ⟨es, clock, hb.trans he, r⟩, h2⟩
theorem MapZ.lt (h : MapZ T z w b n g) : b < w.heap.size := by obtain ⟨D, h1, _⟩ := h; exact h1.lt
theorem MapZ.is (h : MapZ T z w b n g) : ∃ es clock, w.heap[b]? = some (.map es clock) := by obtain ⟨D, ⟨es, clock, he, _⟩, _⟩ := h; exact ⟨es, clock, he⟩
theorem MapZ.congr (h : MapZ T z w b n g) {f : κ → Value} (hg : ∀ x, T.ok x → f x = g x) : MapZ T z w b n f := by
  obtain ⟨D, h1, h2⟩ := h; exact ⟨D, h1, fun x hk => by rw [h2 x hk, hg x hk]⟩
theorem MapZ.new (T : KeyT P k κ) (z : Value) (w : World) : MapZ T z (w.alloc (.map #[] 0)) w.heap.size 0 (fun _ => z) :=
  ⟨.map [], World.ownsMap_made w P k _, fun _ _ => rfl⟩
variable {t e ty : TypeId} (ht : P.underlying t = some (.map k e))
include ht
theorem run_lookupZ (h : MapZ T z w b n g) (hz : (zeroValue e).run P w = .ok z w) (x : κ) (hx : T.ok x) :
    (Instr.lookup t (.map (some b)) (T.val x) false).run P w = .ok (g x) w := by
  obtain ⟨D, h1, h2⟩ := h
  obtain ⟨v, ps, hrun, hv⟩ := h1.lookup T.law ht hz (zd := .held z) (zp := []) rfl (T.is x hx)
  rw [h2 x hx] at hv
  unfold heldR at hv
  rw [hrun]
  injection hv with hv; injection hv with hv; injection hv with hv; rw [hv]
theorem run_lookup_okZ (h : MapZ T z w b n g) (hz : (zeroValue e).run P w = .ok z w) (x : κ) (hx : T.ok x) :
    ∃ q : Bool, (Instr.lookup t (.map (some b)) (T.val x) true).run P w = .ok (.tuple #[g x, .bool q]) w ∧ (q = false → g x = z) := by
  obtain ⟨D, h1, h2⟩ := h
  obtain ⟨v, ps, hrun, hv⟩ := h1.look_ok T.law ht hz (zd := .held z) (zp := []) rfl (T.is x hx)
  have hv' := hv
  rw [h2 x hx] at hv
  unfold heldR at hv
  refine ⟨Maps.has D (T.lit x), ?_, fun hq => ?_⟩
  · rw [hrun]; injection hv with hv; injection hv with hv; injection hv with hv; rw [hv]
  · have := h2 x hx
    rw [atKey_of_not_has hq] at this
    injection this with this; exact this.symm
/-- Another answer at x. -/
def putZ [DecidableEq κ] (g : κ → Value) (x : κ) (v : Value) : κ → Value := fun y => if y = x then v else g y
omit ht in
theorem putZ_same [DecidableEq κ] (g : κ → Value) (x : κ) (v : Value) : putZ g x v x = v := if_pos rfl
omit ht in
theorem putZ_other [DecidableEq κ] (g : κ → Value) {x y : κ} (v : Value) (h : y ≠ x) : putZ g x v y = g y := if_neg h
theorem run_updateZ [DecidableEq κ] (h : MapZ T z w b n g) (hn : n < maxLen) (x : κ) (hx : T.ok x) (v : Value) :
    ∃ w', (Instr.mapUpdate t (.map (some b)) (T.val x) v).run P w = .ok () w' ∧ MapZ T z w' b (n + 1) (putZ g x v) ∧ w.grownBy w' (some b) ∧ w'.heap.size = w.heap.size := by
  obtain ⟨D, h1, h2⟩ := h
  obtain ⟨w', hrun, ho, hm⟩ := h1.store T.law ht hn (val := v) (d := .held v) (ps := []) (T.is x hx) rfl
  refine ⟨w', hrun, ⟨_, ho, fun y hy => ?_⟩, hm.grown, ?_⟩
  · by_cases hq : y = x
    · subst hq; rw [atKey_put_same (h1.isMap) (T.law.key (T.is y hy)), putZ_same]
    · rw [atKey_put_other (T.ne hy hx hq), putZ_other _ _ hq]; exact h2 y hy
  · obtain ⟨es, clock, es', clock', _, rfl⟩ := hm; simp [setBlock]
theorem run_deleteZ [DecidableEq κ] (h : MapZ T z w b n g) (x : κ) (hx : T.ok x) :
    ∃ w', (Builtin.delete_ #[t, k] ty #[.map (some b), T.val x]).run P w = .ok (.tuple #[]) w' ∧ MapZ T z w' b n (putZ g x z) ∧ w.grownBy w' (some b) ∧ w'.heap.size = w.heap.size := by
  obtain ⟨D, h1, h2⟩ := h
  obtain ⟨w', hrun, ho, hm⟩ := h1.drop T.law ht (T.is x hx) ty
  refine ⟨w', hrun, ⟨_, ho, fun y hy => ?_⟩, hm.grown, ?_⟩
  · by_cases hq : y = x
    · subst hq; rw [atKey_del_same, putZ_same]
    · rw [atKey_del_other (T.ne hy hx hq), putZ_other _ _ hq]; exact h2 y hy
  · obtain ⟨es, clock, es', clock', _, rfl⟩ := hm; simp [setBlock]
end
/-- A key of two integers. -/
theorem keyOf_two {P : Program} {k : TypeId} {fs : Array Field} (hu : P.underlying k = some (.struct fs)) (hk : P.keyType k = true) (hf : ∀ a b, (Value.agg #[.int .i64 a, .int .i64 b]).formed P k = true)
    (hl : ∀ a b, (Lit.int .i64 a).wf = true → (Lit.int .i64 b).wf = true → P.keyLits (P.types.size + 1) k [.int .i64 a, .int .i64 b] = some [.int .i64 a, .int .i64 b]) {a b : Int} (ha : (Lit.int .i64 a).wf = true) (hb : (Lit.int .i64 b).wf = true) :
    keyOf P k (.agg #[.int .i64 a, .int .i64 b]) = some (.string (keyBytes [.int .i64 a, .int .i64 b])) := by
  unfold keyOf
  rw [hu]
  simp only [hk, hf, Bool.and_self, if_true]
  rw [show (Value.agg #[.int .i64 a, .int .i64 b]).cells.toList = [.int .i64 a, .int .i64 b] from rfl, hl a b ha hb]
  rfl
end Go.Proofs.YtkdhhcidpklgoaaGreatDoor

/- What new blocks, written boxes and appended rows leave as it was: general lemmas. -/
namespace Go.Proofs.YtkdhhcidpklgoaaGreatDoor
open Go.RowKit

theorem ret_int {k : IntKind} {a b : Int} (h : a = b) : Ending.returned (.int k a) = .returned (.int k b) := by rw [h]
theorem heapNew (w : World) (o : Obj) : (w.alloc o).heap[w.heap.size]? = some o := (MapKept.heap_alloc w o).1
theorem cellAt {w : World} {b T : Nat} {l : Array Value} (h : w.heap[b]? = some (.cells l T (0, 0))) (i : Nat) {v : Value} (hv : l[i]? = some v := by rfl) : w.cell? ⟨b, i, none⟩ = some v := by
  simp [World.cell?, h, hv]
theorem frozenAt {w : World} {b T : Nat} {l : Array Value} (h : w.heap[b]? = some (.cells l T (0, 0))) (i : Nat) : w.frozen? ⟨b, i, none⟩ = false := by
  simp [World.frozen?, h]
theorem heap_lt {w : World} {b : Nat} {o : Obj} (h : w.heap[b]? = some o) : b < w.heap.size := (Array.getElem?_eq_some_iff.1 h).1
theorem Ext.al2 (w : World) (a b : Obj) : Ext w ((w.alloc a).alloc b) := (Ext.al _ _).tr (Ext.al _ _)
theorem Ext.al3 (w : World) (a b c : Obj) : Ext w (((w.alloc a).alloc b).alloc c) := (Ext.al2 _ _ _).tr (Ext.al _ _)
theorem Ext.al4 (w : World) (a b c d : Obj) : Ext w ((((w.alloc a).alloc b).alloc c).alloc d) := (Ext.al3 _ _ _ _).tr (Ext.al _ _)
theorem Ext.drewN {w w' : World} (h : Ext w w') (n : Nat) : Ext w (w'.drewN n) := ⟨h.os, h.tape, h.output, h.size, h.block⟩
theorem Ext.lt {w w' : World} (h : Ext w w') {b : Nat} {o : Obj} (hb : w.heap[b]? = some o) : w'.heap[b]? = some o := (h.block b (heap_lt hb)).trans hb
theorem set_other {w : World} {g i k : Nat} (v : Value) (h : k ≠ g) : (w.setCell ⟨g, i, none⟩ v).heap[k]? = w.heap[k]? := Below.heap_setCell w ⟨g, i, none⟩ v k h
theorem Below.setNew {B : Nat} {w w' : World} (h : Below B w w') {g i : Nat} (hg : B ≤ g) (v : Value) : Below B w (w'.setCell ⟨g, i, none⟩ v) := h.setCell (p := ⟨g, i, none⟩) hg v
theorem Only.setNew {C : Nat → Prop} {w w2 : World} (h : Only C w w2) {r : Nat} (hr : w.heap.size ≤ r) (i : Nat) (v : Value) : Only C w (w2.setCell ⟨r, i, none⟩ v) :=
  ⟨h.os, h.tape, h.output, by simp [World.setCell]; exact h.size, fun k hk hn => (Below.heap_setCell w2 ⟨r, i, none⟩ v k (by show k ≠ r; omega)).trans (h.block k hk hn)⟩
theorem Only.putNew {C : Nat → Prop} {w w2 : World} (h : Only C w w2) {r : Nat} (hr : w.heap.size ≤ r) (o : Obj) : Only C w (w2.putObj r o) :=
  ⟨h.os, h.tape, h.output, by simp; exact h.size, fun k hk hn => (World.putObj_heap_other (by omega)).trans (h.block k hk hn)⟩
theorem Below.putNew {B : Nat} {w w2 : World} (h : Below B w w2) {r : Nat} (hr : B ≤ r) (o : Obj) : Below B w (w2.putObj r o) :=
  ⟨h.os, h.tape, h.output, by simp; exact h.size, fun k hk => (World.putObj_heap_other (by omega)).trans (h.block k hk)⟩
theorem Only.belowNew {C : Nat → Prop} {w A B : World} (h : Only C w A) {s : Nat} (hb : Below s A B) (hs : w.heap.size ≤ s) : Only C w B :=
  ⟨hb.os.trans h.os, hb.tape.trans h.tape, hb.output.trans h.output, Nat.le_trans h.size hb.size, fun k hk hn => (hb.block k (by omega)).trans (h.block k hk hn)⟩
theorem Only.grown {w w' : World} {b : Nat} (h : w.grownBy w' (some b)) : Only (fun j => j = b) w w' :=
  ⟨h.os, h.tape, h.output, h.size, fun k hk hn => h.block k hk (fun e => hn (by cases e; rfl))⟩
theorem Only.lt {C : Nat → Prop} {w w' : World} (h : Only C w w') {b : Nat} {o : Obj} (hb : w.heap[b]? = some o) (hn : ¬ C b) : w'.heap[b]? = some o := (h.block b (heap_lt hb) hn).trans hb
theorem put_cell {w : World} {r D T : Nat} {u : Value} (h : w.heap[r]? = some (.cells #[u] T (0, 0))) (hne : r ≠ D) (o : Obj) : (w.putObj D o).cell? ⟨r, 0, none⟩ = some u :=
  cellAt (l := #[u]) ((World.putObj_heap_other hne).trans h) 0
/-- A box of one cell, written. -/
theorem box_set {w : World} {r T : Nat} {u : Value} (h : w.heap[r]? = some (.cells #[u] T (0, 0))) (v : Value) : (w.setCell ⟨r, 0, none⟩ v).heap[r]? = some (.cells #[v] T (0, 0)) := by
  simp [World.setCell, Array.getElem?_modify, h]
/-- Any block of cells, written. -/
theorem blk_set {w : World} {r T : Nat} {l : Array Value} (h : w.heap[r]? = some (.cells l T (0, 0))) (i : Nat) (v : Value) : (w.setCell ⟨r, i, none⟩ v).heap[r]? = some (.cells (l.setIfInBounds i v) T (0, 0)) := by
  simp [World.setCell, Array.getElem?_modify, h]
theorem map_ne_cell {w : World} {b : Nat} (h : ∃ es clock, w.heap[b]? = some (.map es clock)) {p : Addr} {v : Value} (hv : w.cell? p = some v) : p.block ≠ b := by
  obtain ⟨es, clock, he⟩ := h
  rintro rfl
  unfold World.cell? at hv
  rw [he] at hv
  cases hv
/-- Cells stay, where only maps turn. -/
theorem cell_only {w w' : World} {C : Nat → Prop} (ho : Only C w w') (hm : ∀ j, C j → ∃ es clock, w.heap[j]? = some (.map es clock)) {p : Addr} {v : Value} (h : w.cell? p = some v) : w'.cell? p = some v := by
  have hlt : p.block < w.heap.size := cell_lt h
  rw [World.cell?_of_block (ho.block _ hlt (fun hc => map_ne_cell (hm _ hc) h rfl))]; exact h

theorem own_below {w w' : World} {B : Nat} {e : TypeId} {k : Nat} {v : Value} {n : Nat} {xs : List Value} (h : w.ownsRow B e k v n xs) (hb : Ext w w') : w'.ownsRow B e k v n xs :=
  h.kept (row := none) ⟨hb.os, hb.tape, hb.output, hb.size, fun j hj _ => hb.block j hj⟩ (by cases hv : v.ownBlock <;> simp)
theorem own_only {w w' : World} {C : Nat → Prop} {B : Nat} {e : TypeId} {k : Nat} {v : Value} {n : Nat} {xs : List Value} (h : w.ownsRow B e k v n xs) (hb : Only C w w') (hn : ∀ g, v.ownBlock = some g → ¬ C g) : w'.ownsRow B e k v n xs := by
  rcases h with ⟨h1, h2⟩
  refine ⟨h1, h2.elim Or.inl (fun ⟨g, cap, cur, hv, hg, h3, r⟩ => Or.inr ⟨g, cap, cur, hv, hg, ?_, r⟩)⟩
  exact (hb.block g (Array.getElem?_eq_some_iff.1 h3).1 (hn g (by rw [hv]; rfl))).trans h3
theorem own_base {w : World} {B B' : Nat} {e : TypeId} {k : Nat} {v : Value} {n : Nat} {xs : List Value} (h : w.ownsRow B e k v n xs) (hb : B' ≤ B) : w.ownsRow B' e k v n xs :=
  ⟨h.1, h.2.elim Or.inl (fun ⟨g, cap, cur, hv, hg, r⟩ => Or.inr ⟨g, cap, cur, hv, Nat.le_trans hb hg, r⟩)⟩
theorem grown_ext' {w w' : World} {v : Value} {B e size : Nat} {n : Nat} {xs : List Value} (hg : w.grownBy w' v.ownBlock) (hv : w.ownsRow B e size v n xs) (hB : B ≤ w.heap.size) : Below B w w' :=
  Below.grown (Below.refl _ _) hg hB (fun j e => (hv.lt j e).1)
theorem own_nil' {w : World} {B e k : Nat} : w.ownsRow B e k (.slice none 0 0) 0 [] := ⟨by simp, .inl ⟨rfl, rfl⟩⟩
/-! ### append, whatever the element -/
theorem run_append_nil {w : World} {base : Nat} {t ty e : TypeId} {i : TypeInfo} {size c : Nat} (ht : Tryz.prog.underlying t = some (.slice e)) (hi : Tryz.prog.info? e = some i) {v : Value} {n : Nat} {xs : List Value} (hown : w.ownsRow base e size v n xs) :
    (Builtin.append_ #[t, t] ty #[v, .slice none 0 c]).run Tryz.prog w = .ok v w := by
  rcases hown.2 with ⟨rfl, rfl⟩ | ⟨g, cap, cur, rfl, _, _, hnc, _⟩
  · simp [Builtin.append_, run_underlying ht, sizeOf, typeInfo, hi, Builtin.lenOf, Builtin.firstCells]
  · simp [Builtin.append_, run_underlying ht, sizeOf, typeInfo, hi, Builtin.lenOf, Builtin.firstCells, hnc, storeCells]
def SrcN (w : World) (A : Option Addr) (m size : Nat) (news : List Value) : Prop :=
  (A = none ∧ m = 0 ∧ news = []) ∨ ∃ ad, A = some ad ∧ news.length = m * size ∧ ∀ (j : Nat) u, news[j]? = some u → w.cell? (ad.add j) = some u
theorem app_row {t e size bytes : Nat} {z : Value} (hu : Tryz.prog.underlying t = some (.slice e)) (hinf : (Tryz.prog.info? e).map (fun i => (i.zero, i.size, i.bytes)) = some (some z, size, bytes)) (hzs : z.cells.size = size) (hsz : 0 < size)
    {w : World} {o : Oper} {a : Act} {K : Act → World → Prop} {Q : Exit → Act → World → Prop} (s x : Operand)
    (ho : o.op = .call { callee := .builtin .append, args := #[s, x], argTypes := #[t, t] })
    (B : Nat) (v : Value) (n : Nat) (xs : List Value) (hs : a.eval s = v) (hown : w.ownsRow B e size v n xs)
    (A : Option Addr) (m c : Nat) (news : List Value) (hx : a.eval x = .slice A m c) (hsrc : SrcN w A m size news) (h1 : ∀ u ∈ news, u.oneCell' = true)
    (hnm : n + m ≤ maxLen) (hby : (n + m) * bytes ≤ 140737488355328) (hB : B ≤ w.heap.size)
    (h : ∀ v' w', w'.ownsRow B e size v' (n + m) (xs ++ news) → w.grownBy w' v.ownBlock → (v'.ownBlock = v.ownBlock ∨ v'.ownBlock = some w.heap.size) → K (a.put o.dst v') w') : o.wp Tryz.prog a w K Q := by
  obtain ⟨i0, hi1, hz0, hz1, hz2⟩ := info_parts hinf
  rcases hsrc with ⟨rfl, rfl, rfl⟩ | ⟨ad, rfl, hl, hc⟩
  · have hr := run_append_nil (c := c) (ty := o.type) hu hi1 hown
    have hk := h v w (by simpa using hown) (World.grownBy.refl w _) (.inl rfl)
    unfold Oper.wp execOp
    simp only [ho, resolve, invoke, builtin, Sem.run_bind, Sem.run_pure, Result.andThen_ok, List.map_toArray, List.map_cons, List.map_nil, hs, hx, hr]
    exact hk
  · obtain ⟨v', w', hr, h2, h3, _, h5⟩ := run_append_own_at (P := Tryz.prog) w B t o.type e i0 z size bytes hu hi1 hz0 hz1 hz2 hzs hsz v n xs hown ad m c news hl hc h1 hnm hby hB
    unfold Oper.wp execOp
    simp only [ho, resolve, invoke, builtin, Sem.run_bind, Sem.run_pure, Result.andThen_ok, List.map_toArray, List.map_cons, List.map_nil, hs, hx, hr]
    exact h v' w' h2 h3 h5
theorem add_at (b o k : Nat) : (⟨b, o, none⟩ : Addr).add k = ⟨b, o + k, none⟩ := by
  by_cases hk : k = 0 <;> simp [Addr.add, hk]
theorem wpl_app {w : World} {ops : Array Oper} {rest : List Oper} {o : Oper} {a : Act} {Q : Exit → Act → World → Prop} {t e size bytes : Nat} {z : Value} (hu : Tryz.prog.underlying t = some (.slice e)) (hinf : (Tryz.prog.info? e).map (fun i => (i.zero, i.size, i.bytes)) = some (some z, size, bytes)) (hzs : z.cells.size = size) (hsz : 0 < size) (hby : bytes ≤ 1000)
    (hgd : o.guard = none) (s x : Operand)
    (ho : o.op = .call { callee := .builtin .append, args := #[s, x], argTypes := #[t, t] }) (B : Nat) (v : Value) (n : Nat) (xs : List Value) (hs : a.eval s = v) (hown : w.ownsRow B e size v n xs)
    (A : Option Addr) (m c : Nat) (news : List Value) (hx : a.eval x = .slice A m c) (hsrc : SrcN w A m size news) (h1 : ∀ u ∈ news, u.oneCell' = true) (hn : n + m ≤ 1000000000) (hB : B ≤ w.heap.size)
    (h : ∀ v' w', w'.ownsRow B e size v' (n + m) (xs ++ news) → w.grownBy w' v.ownBlock → (v'.ownBlock = v.ownBlock ∨ v'.ownBlock = some w.heap.size) → wpList Tryz.prog ops Q rest (a.put o.dst v') w') : wpList Tryz.prog ops Q (o :: rest) a w := by
  have hb : (n + m) * bytes ≤ 1000000000 * 1000 := Nat.mul_le_mul hn hby
  exact wpList_plain hgd fun K hK => app_row hu hinf hzs hsz s x ho B v n xs hs hown A m c news hx hsrc h1 (by unfold maxLen; omega) (by omega) hB (fun v' w' h1 h2 h3 => hK _ _ (h v' w' h1 h2 h3))
theorem src_one {w : World} {g T : Nat} {u : Value} (h : w.heap[g]? = some (.cells #[u] T (0, 0))) : SrcN w (some ⟨g, 0, none⟩) 1 1 [u] :=
  .inr ⟨_, rfl, rfl, fun j v hj => by
    match j, hj with
    | 0, hj => obtain rfl := Option.some.inj hj; rw [add_at]; exact cellAt h 0⟩
theorem src_two {w : World} {g T : Nat} {u v : Value} (h : w.heap[g]? = some (.cells #[u, v] T (0, 0))) : SrcN w (some ⟨g, 0, none⟩) 1 2 [u, v] :=
  .inr ⟨_, rfl, rfl, fun j x hj => by
    match j, hj with
    | 0, hj => obtain rfl := Option.some.inj hj; rw [add_at]; exact cellAt h 0
    | 1, hj => obtain rfl := Option.some.inj hj; rw [add_at]; exact cellAt h 1⟩
theorem heapNew2 (w : World) (a b : Obj) : ((w.alloc a).alloc b).heap[w.heap.size + 1]? = some b := by
  have := heapNew (w.alloc a) b
  simpa using this
theorem heapNew3 (w : World) (a b c : Obj) : (((w.alloc a).alloc b).alloc c).heap[w.heap.size + 1 + 1]? = some c := by
  have := heapNew ((w.alloc a).alloc b) c
  simpa using this
theorem one_mem {u : Value} (h : u.oneCell' = true) : ∀ x ∈ [u], x.oneCell' = true := by
  intro x hx; rw [List.mem_singleton] at hx; rw [hx]; exact h

/-! ### a block of the call's own, cell by cell -/
def PBlk (w : World) (g T sz : Nat) (f : Nat → Value) : Prop := ∃ arr : Array Value, w.heap[g]? = some (.cells arr T (0, 0)) ∧ arr.size = sz ∧ ∀ i, i < sz → arr[i]? = some (f i)
section
variable {w w' : World} {g T sz : Nat} {f : Nat → Value}
theorem PBlk.lt (h : PBlk w g T sz f) : g < w.heap.size := by obtain ⟨arr, h1, _⟩ := h; exact heap_lt h1
theorem PBlk.cell (h : PBlk w g T sz f) {i : Nat} (hi : i < sz) : w.cell? ⟨g, i, none⟩ = some (f i) := by obtain ⟨arr, h1, _, h3⟩ := h; exact cellAt h1 i (h3 i hi)
theorem PBlk.cellAs (h : PBlk w g T sz f) {i : Nat} (hi : i < sz) {v : Value} (hv : f i = v) : w.cell? ⟨g, i, none⟩ = some v := by rw [h.cell hi, hv]
theorem PBlk.frozen (h : PBlk w g T sz f) (i : Nat) : w.frozen? ⟨g, i, none⟩ = false := by obtain ⟨arr, h1, _⟩ := h; exact frozenAt h1 i
theorem PBlk.block (h : PBlk w g T sz f) (hb : w'.heap[g]? = w.heap[g]?) : PBlk w' g T sz f := by obtain ⟨arr, h1, h2⟩ := h; exact ⟨arr, hb.trans h1, h2⟩
theorem PBlk.ext (h : PBlk w g T sz f) (hb : Ext w w') : PBlk w' g T sz f := h.block (hb.block g h.lt)
theorem PBlk.only {C : Nat → Prop} (h : PBlk w g T sz f) (hb : Only C w w') (hn : ¬ C g) : PBlk w' g T sz f := h.block (hb.block g h.lt hn)
theorem PBlk.set (h : PBlk w g T sz f) {i : Nat} (hi : i < sz) (v : Value) : PBlk (w.setCell ⟨g, i, none⟩ v) g T sz (fun j => if j = i then v else f j) := by
  obtain ⟨arr, h1, h2, h3⟩ := h
  refine ⟨_, blk_set h1 i v, by simp [h2], fun j hj => ?_⟩
  rw [Array.getElem?_setIfInBounds]
  by_cases hji : i = j
  · subst hji; simp [h2, hi]
  · rw [if_neg hji, h3 j hj]; show some (f j) = some (if j = i then v else f j); rw [if_neg (fun e : j = i => hji e.symm)]
theorem PBlk.setOther (h : PBlk w g T sz f) {g' i : Nat} (hne : g ≠ g') (v : Value) : PBlk (w.setCell ⟨g', i, none⟩ v) g T sz f := h.block (set_other v hne)
theorem PBlk.congr (h : PBlk w g T sz f) {f' : Nat → Value} (hf : ∀ i, i < sz → f' i = f i) : PBlk w g T sz f' := by
  obtain ⟨arr, h1, h2, h3⟩ := h
  exact ⟨arr, h1, h2, fun i hi => by rw [h3 i hi, hf i hi]⟩
end
theorem PBlk.made (w : World) (z : Array Value) (hz : 0 < z.size) (n T : Nat) : PBlk (w.alloc (.cells (madeCells z n) T)) w.heap.size T n (fun i => z[i % z.size]!) :=
  ⟨_, heapNew _ _, size_madeCells _ _, fun i hi => by simp [madeCells, hi]⟩
theorem make_any {t e size bytes : Nat} {z : Value} (hu : Tryz.prog.underlying t = some (.slice e)) (hinf : (Tryz.prog.info? e).map (fun i => (i.zero, i.size, i.bytes)) = some (some z, size, bytes)) (hby : bytes ≤ 1000) (w : World) (n : Nat) (h : n ≤ 100000000) :
    (Instr.makeSlice t (.int .i64 n) (.int .i64 n)).run Tryz.prog w = .ok (.slice (some ⟨w.heap.size, 0, none⟩) n n) (w.alloc (.cells (madeCells z.cells (n * size)) e)) := by
  obtain ⟨i0, hi, hz0, hz1, hz2⟩ := info_parts hinf
  have hb : (bytes : Int) * (n : Int) ≤ 1000 * 100000000 := Int.mul_le_mul (by omega) (by omega) (by omega) (by omega)
  have := run_make w t e i0 z hu hi hz0 .i64 .i64 n n (by omega) (by omega) (by rw [hz2]; omega) (by omega)
  rw [this, hz1]
  simp only [Int.toNat_natCast]
end Go.Proofs.YtkdhhcidpklgoaaGreatDoor

/- node: small functions. -/
namespace Go.Proofs.YtkdhhcidpklgoaaGreatDoor
open Go.RowKit

def RVrs (w : World) (v : Value) (l : List Vr) : Prop :=
  ∃ A c, v = .slice A l.length c ∧ l.length ≤ c ∧ c ≤ maxLen ∧
    ∀ i x, l[i]? = some x → ∃ b o, A = some ⟨b, o, none⟩ ∧ b < w.heap.size ∧ w.cell? ⟨b, o + i * 2, none⟩ = some (.int .i64 x.1) ∧ w.cell? ⟨b, o + i * 2 + 1, none⟩ = some (.int .i64 x.2) ∧ ok64 x.1 ∧ ok64 x.2
theorem RVrs.below {w w' : World} {v : Value} {l : List Vr} (h : RVrs w v l) (hb : Ext w w') : RVrs w' v l := by
  obtain ⟨A, c, rfl, h1, h2, h3⟩ := h
  refine ⟨A, c, rfl, h1, h2, fun i a hi => ?_⟩
  obtain ⟨b, o, rfl, hlt, h4, h5, h6⟩ := h3 i a hi
  exact ⟨b, o, rfl, Nat.lt_of_lt_of_le hlt hb.size, hb.keep h4, hb.keep h5, h6⟩
theorem RVrs.form {w : World} {v : Value} {l : List Vr} (h : RVrs w v l) : ∃ A c, v = .slice A l.length c ∧ l.length ≤ c ∧ c ≤ maxLen := by
  obtain ⟨A, c, h1, h2, h3, _⟩ := h; exact ⟨A, c, h1, h2, h3⟩
theorem RVrs.at_ {w : World} {l : List Vr} {A : Option Addr} {c : Nat} (h : RVrs w (.slice A l.length c) l) {k : Nat} (hk : k < l.length) :
    ∃ b o, A = some ⟨b, o, none⟩ ∧ b < w.heap.size ∧ w.cell? ⟨b, o + k * 2, none⟩ = some (.int .i64 l[k].1) ∧ w.cell? ⟨b, o + k * 2 + 1, none⟩ = some (.int .i64 l[k].2) ∧ ok64 l[k].1 ∧ ok64 l[k].2 := by
  obtain ⟨A', c', he, h1, h2, h3⟩ := h
  cases he
  exact h3 k _ (List.getElem?_eq_getElem hk)
abbrev vrV (x : Vr) : Value := .agg #[.int .i64 x.1, .int .i64 x.2]

set_option maxRecDepth 100000 in
theorem isNumber_any (n : Int) (q : Bool) (hq : isNumB n = q) (w : World) : Calls Tryz.prog 133 #[.int .i64 n] w fun e w' => e = .returned (.bool q) ∧ w = w' := by
  subst hq
  unfold isNumB
  go_enter Tryz.func133, Tryz.ntmps133
  by_cases h : 0 ≤ n
  all_goals
    go_wp2
    go_ret
    exact ⟨ret_bool (by simp [h]; try omega), rfl⟩
set_option maxRecDepth 100000 in
theorem isIndex_any (i n : Int) (q : Bool) (hq : isIdxC i n = q) (w : World) : Calls Tryz.prog 136 #[.int .i64 i, .int .i64 n] w fun e w' => e = .returned (.bool q) ∧ w = w' := by
  subst hq
  unfold isIdxC
  go_enter Tryz.func136, Tryz.ntmps136
  by_cases h : 0 ≤ i
  all_goals
    go_wp2
    go_ret
    exact ⟨ret_bool (by simp [h]; try omega), rfl⟩
set_option maxRecDepth 100000 in
theorem isType_any (vd vf : Value) (C : Cg) (ty : Int) (w : World) (h : RDecls w vd C.decls) :
    Calls Tryz.prog 64 #[cV vd vf, .int .i64 ty] w fun e w' => e = .returned (.bool (isTypeC C ty)) ∧ Ext w w' := by
  obtain ⟨A, c, rfl, hc, hm⟩ := h.form
  clear h
  unfold isTypeC maxLen at *
  go_enter Tryz.func64, Tryz.ntmps64
  by_cases h : 0 ≤ ty
  all_goals
    go_wp2
    go_ret
    exact ⟨ret_bool (by simp [h]; try omega), Ext.al _ _⟩
set_option maxRecDepth 100000 in
theorem isLeaf_any (op : Int) (q : Bool) (hq : leafB op = q) (w : World) : Calls Tryz.prog 100 #[.int .i64 op] w fun e w' => e = .returned (.bool q) ∧ w = w' := by
  subst hq
  unfold leafB
  go_enter Tryz.func100, Tryz.ntmps100
  by_cases h : op = 0
  · subst h
    go_wp2
    go_ret
    exact ⟨rfl, rfl⟩
  · by_cases h5 : op = 5
    · subst h5
      go_wp2
      go_ret
      exact ⟨rfl, rfl⟩
    · go_wp2
      go_ret
      exact ⟨ret_bool (by simp [h, h5]; try (rw [Bool.eq_iff_iff]; simp [h, h5])), rfl⟩
set_option maxRecDepth 100000 in
theorem sortOf_any (q : Bool) (w : World) : Calls Tryz.prog 112 #[.bool q] w fun e w' => e = .returned (.int .i64 (coI q)) ∧ w = w' := by
  cases q
  all_goals
    go_enter Tryz.func112, Tryz.ntmps112
    go_wp2
    go_ret
    exact ⟨rfl, rfl⟩
def occV (op n : Int) : Vr := if op = 0 then (0, n) else if op = 5 then (1, n) else (0, 0)
def isVrB (op : Int) : Bool := decide (op = 0) || decide (op = 5)
set_option maxRecDepth 100000 in
theorem occurrence_any (t : Nd) (va vb : Value) (x : Vr) (hx : occV t.op t.n = x) (q : Bool) (hq : isVrB t.op = q) (w : World) :
    Calls Tryz.prog 70 #[nV t va vb] w fun e w' => e = .returned (.tuple #[vrV x, .bool q]) ∧ Ext w w' := by
  subst hx; subst hq
  unfold occV isVrB
  go_enter Tryz.func70, Tryz.ntmps70
  by_cases h : t.op = 0
  · go_wp2
    exact bodyPost_ret (v := .tuple #[vrV (0, t.n), .bool true]) (by simp [results, Tryz.results70, go_sem]) rfl ⟨by simp [h], Ext.al2 _ _ _⟩
  · by_cases h5 : t.op = 5
    · go_wp2
      exact bodyPost_ret (v := .tuple #[vrV (1, t.n), .bool true]) (by simp [results, Tryz.results70, go_sem]) rfl ⟨by simp [h5], Ext.al2 _ _ _⟩
    · go_wp2
      exact bodyPost_ret (v := .tuple #[vrV (0, 0), .bool false]) (by simp [results, Tryz.results70, go_sem]) rfl ⟨by simp [h, h5], Ext.al2 _ _ _⟩
end Go.Proofs.YtkdhhcidpklgoaaGreatDoor

/- node: descend, Depths, Size. -/
namespace Go.Proofs.YtkdhhcidpklgoaaGreatDoor
open Go.RowKit Go.Shelf
attribute [local go_sem] Oper.semAt_some

/-- How a round may end, in one word. -/
def YesNo (Y N : World → Prop) (e : Ending) (B : World) : Prop := ∃ q : Bool, e = .returned (.bool q) ∧ Hid ((q = true → Y B) ∧ (q = false → N B))
theorem yesNo_of {Y N : World → Prop} {e : Ending} {B : World} (h : (e = .returned (.bool true) ∧ Y B) ∨ (e = .returned (.bool false) ∧ N B)) : YesNo Y N e B := by
  rcases h with ⟨rfl, h⟩ | ⟨rfl, h⟩
  · exact ⟨true, rfl, fun _ => h, fun h => by cases h⟩
  · exact ⟨false, rfl, fun h => (by cases h), fun _ => h⟩
theorem yes_of {Y N : World → Prop} {B : World} (h : Y B) : YesNo Y N (.returned (.bool true)) B := ⟨true, rfl, fun _ => h, fun h => by cases h⟩
theorem no_of {Y N : World → Prop} {B : World} (h : N B) : YesNo Y N (.returned (.bool false)) B := ⟨false, rfl, fun h => (by cases h), fun _ => h⟩
theorem depA_step {d : Int} {l : List Nd} {k : Nat} (h : k < l.length) : depA d (l.take (k + 1)) = depA d (l.take k) ++ depN d l[k] := by
  rw [List.take_succ_eq_append_getElem h, depA_append]; simp [depA]
theorem depB_step {d : Int} {l : List Br} {k : Nat} (h : k < l.length) : depB d (l.take (k + 1)) = depB d (l.take k) ++ depN d l[k].2.2 := by
  rw [List.take_succ_eq_append_getElem h, depB_append]; simp [depB]
theorem depA_sub {d : Int} {l : List Nd} (k : Nat) : depA d (l.take k) <+: depA d l := by
  have h : l = l.take k ++ l.drop k := (List.take_append_drop k l).symm
  conv => rhs; rw [h]
  rw [depA_append]; exact List.prefix_append _ _
theorem depB_sub {d : Int} {l : List Br} (k : Nat) : depB d (l.take k) <+: depB d l := by
  have h : l = l.take k ++ l.drop k := (List.take_append_drop k l).symm
  conv => rhs; rw [h]
  rw [depB_append]; exact List.prefix_append _ _
theorem cells5 {W : World} {T : TypeId} {a b c d e : Value} {g : Nat} (h : W.heap[g]? = some (.cells #[a, b, c, d, e] T (0, 0))) : W.cell? ⟨g, 0, none⟩ = some a ∧ W.cell? ⟨g, 1, none⟩ = some b ∧ W.cell? ⟨g, 2, none⟩ = some c ∧ W.cell? ⟨g, 3, none⟩ = some d ∧ W.cell? ⟨g, 4, none⟩ = some e :=
  ⟨cellAt h 0, cellAt h 1, cellAt h 2, cellAt h 3, cellAt h 4⟩

set_option maxHeartbeats 8000000 in
set_option maxRecDepth 100000 in
theorem descend_any (wA : World) (l base : Nat) (C : Nat → Prop) (L : List Int) (J : List Int → World → Prop) (Jx : World → Prop) (hC : ∀ j, C j → wA.heap.size ≤ j ∧ j < base)
    (hJ : ∀ pre A B, J pre A → Below base A B → J pre B) (hJx : ∀ A B, Jx A → Below base A B → Jx B)
    (hY : ∀ pre y A, pre ++ [y] <+: L → J pre A → base ≤ A.heap.size → YieldW Tryz.prog l #[.int .i64 y] A (YesNo (fun B => J (pre ++ [y]) B ∧ Only C A B) (fun B => Jx B ∧ Only C A B))) :
    ∀ (k : Nat) (t : Nd) (va vb : Value) (d : Int) (pre : List Int) (w : World), RNd wA k t va vb → Below wA.heap.size wA w → base ≤ w.heap.size → pre ++ depN d t <+: L → J pre w → 0 ≤ d → d + k ≤ 1000000000000 →
      Calls Tryz.prog 115 #[nV t va vb, .int .i64 d, .func (.yield l) #[] #[]] w (YesNo (fun B => J (pre ++ depN d t) B ∧ Only C w B) (fun B => Jx B ∧ Only C w B)) := by
  intro k
  induction k with
  | zero => intro t va vb d pre w ht; exact ht.elim
  | succ k ih =>
    intro t va vb d pre w ht hb hbase hpre h0 hd0 hd1
    have HT := Lib.hid ht; have HB := Lib.hid hb; have HPRE := Lib.hid hpre; have H0 := Lib.hid h0; have HY := Lib.hid hY; have HJ := Lib.hid hJ; have HJx := Lib.hid hJx; have HC := Lib.hid hC; have HIH := Lib.hid ih
    obtain ⟨_, ⟨Aa, ca, rfl, hca, hma⟩, ⟨Bb, cb, rfl, hcb, hmb⟩⟩ := ht.form
    clear ht hb hpre h0 hY hJ hJx hC ih
    unfold maxLen at hma hmb
    have hd1 : d + 1 + k ≤ 1000000000000 := by omega
    have HN := Lib.hid (depN_eq d t)
    have HW1 : Hid (Ext w (w.alloc (.cells #[.int .i64 t.op, .int .i64 t.n, .int .i64 t.ty, .slice Aa t.args.length ca, .slice Bb t.brs.length cb] 36))) := Ext.al _ _
    have HX1 := Lib.hid (heapNew w (.cells #[.int .i64 t.op, .int .i64 t.n, .int .i64 t.ty, .slice Aa t.args.length ca, .slice Bb t.brs.length cb] 36))
    obtain ⟨fn, tmps, assign, body, hy, hR⟩ := HY.out pre d _ (by
      refine List.IsPrefix.trans ?_ HPRE.out
      rw [HN.out]
      exact (List.prefix_append_right_inj _).2 (List.cons_prefix_cons.2 ⟨rfl, List.nil_prefix⟩)) (HJ.out _ _ _ H0.out (HW1.out.mono hbase)) (Nat.le_trans hbase HW1.out.size)
    have hdd : ∀ k : Nat, (Fence.wide.depth.isSome = true → 1 ≤ k) := fun k h => by cases h
    refine callsIn_wide.1 (callsIn_of_wp (n := 0) Tryz.func115 rfl trivial ?_ rfl)
    simp only [Tryz.ntmps115, List.size_toArray, List.length_cons, List.length_nil, Nat.reduceAdd, Nat.reduceSub, Array.replicate_succ, Array.replicate_zero, List.push_toArray, List.append_toArray, List.nil_append, List.cons_append]
    gi_wp2
    generalize w.alloc _ = w1 at *
    refine ⟨rfl, ?_⟩
    refine (hR _).mono ?_
    rintro e w2 ⟨q, rfl, hq⟩
    clear hR hy
    cases q
    · obtain ⟨hj2, ho2⟩ := hq.out.2 rfl
      have HJ2 := Lib.hid hj2; have HO2 := Lib.hid ho2
      clear hq hj2 ho2
      gi_wp2
      refine bodyPost_ret (results_tmp rfl _ _ _) rfl ?_
      exact no_of ⟨HJ2.out, (Only.of_ext HW1.out).tr HO2.out⟩
    · obtain ⟨hj2, ho2⟩ := hq.out.1 rfl
      have HJ2 := Lib.hid hj2; have HO2 := Lib.hid ho2
      have hb2 := ho2.lt HX1.out (fun h => by have := (HC.out _ h).2; omega)
      have HX2 := Lib.hid hb2
      obtain ⟨t0, t1, t2, t3, t4⟩ := cells5 hb2
      clear hq hj2 ho2 hb2
      cases hlf : leafB t.op
      · have HLF := Lib.hid hlf
        clear hlf
        gi_wp2_with (refine ⟨trivial, rfl, ?_⟩; gi_at_call 100; refine (callsIn_wide.2 (isLeaf_any t.op false HLF.out _)).mono ?_; rintro e w3 ⟨rfl, rfl⟩)
        have HNE : Hid (depN d t = d :: (depA (d + 1) t.args ++ depB (d + 1) t.brs)) := by show _ = _; rw [HN.out, HLF.out]; rfl
        have HOW2 : Hid (Only C w w2) := (Only.of_ext HW1.out).tr HO2.out
        have HEA : Hid (∀ W, Only C w W → Ext wA W) := fun W h => HB.out.trans (h.below (C := C) HB.out.size (fun j hj => (HC.out j hj).1))
        gi_loopw [21] (fun i wr => ∃ j : Nat, j ≤ t.args.length ∧ i = .int .i64 j ∧ Only C w2 wr ∧ J (pre ++ d :: depA (d + 1) (t.args.take j)) wr) (fun i _ => t.args.length - (intOf i).toNat)
        case atStart => exact ⟨0, Nat.zero_le _, rfl, Only.rf _ _, by simpa [depA] using HJ2.out⟩
        case round =>
          obtain ⟨j, hj, rfl, ho, hJr⟩ := hrel
          have HO := Lib.hid ho; have HJr := Lib.hid hJr
          have HOW : Hid (Only C w wr) := HOW2.out.tr ho
          have hbr := ho.lt HX2.out (fun h => by have := (HC.out _ h).2; omega)
          have HXR := Lib.hid hbr
          clear t0 t1 t2 t3 t4
          obtain ⟨t0, t1, t2, t3, t4⟩ := cells5 hbr
          clear ho hJr hbr
          have hwr := HOW.out.size
          by_cases hlt : j < t.args.length
          · obtain ⟨b, o, xa, xb, rfl, hbl, yc, yt⟩ := HT.out.arg hlt
            have hE := HEA.out _ HOW.out
            obtain ⟨c0, c1, c2, c3, c4⟩ := yc.below hE
            have HTX := Lib.hid yt
            have HST := Lib.hid (depA_step (d := d + 1) hlt)
            have HSUB := Lib.hid (depA_sub (d := d + 1) (l := t.args) (j + 1))
            obtain ⟨_, ⟨Ax, cx, rfl, -, -⟩, ⟨Bx, dx, rfl, -, -⟩⟩ := yt.form
            clear yc yt
            generalize t.args[j] = x at *
            have HEX := Lib.hid (Ext.al wr (.cells #[.int .i64 x.op, .int .i64 x.n, .int .i64 x.ty, .slice Ax x.args.length cx, .slice Bx x.brs.length dx] 36))
            have HCALL := Lib.hid (HIH.out x _ _ (d + 1) (pre ++ d :: depA (d + 1) (t.args.take j)) _ HTX.out (hE.tr HEX.out) (Nat.le_trans (Nat.le_trans hbase hwr) HEX.out.size) (by
              refine List.IsPrefix.trans ?_ HPRE.out
              rw [HNE.out, List.append_assoc]
              refine (List.prefix_append_right_inj _).2 (List.cons_prefix_cons.2 ⟨rfl, ?_⟩)
              show depA (d + 1) (t.args.take j) ++ depN (d + 1) x <+: _
              rw [← HST.out]
              exact HSUB.out.trans (List.prefix_append _ _)) (HJ.out _ _ _ HJr.out (HEX.out.mono (Nat.le_trans hbase hwr))) (by omega) (by omega))
            have HOX : Hid (Only C w2 (wr.alloc (.cells #[.int .i64 x.op, .int .i64 x.n, .int .i64 x.ty, .slice Ax x.args.length cx, .slice Bx x.brs.length dx] 36))) := HO.out.tr (Only.of_ext HEX.out)
            clear hE
            gi_wp2
            refine ⟨trivial, rfl, ?_⟩
            (with_reducible refine (callsIn_wide.2 HCALL.out).mono ?_)
            rintro e w5 ⟨q, rfl, hq⟩
            cases q
            · obtain ⟨hj5, ho5⟩ := hq.out.2 rfl
              have HJ5 := Lib.hid hj5; have HO5 := Lib.hid (HOX.out.tr ho5)
              clear hq hj5 ho5
              gi_wp2
              refine bodyPost_ret (results_tmp rfl _ _ _) rfl ?_
              exact no_of ⟨HJ5.out, HOW2.out.tr HO5.out⟩
            · obtain ⟨hj5, ho5⟩ := hq.out.1 rfl
              have HJ5 := Lib.hid hj5; have HO5 := Lib.hid (HOX.out.tr ho5)
              clear hq hj5 ho5
              gi_wp2
              exact ⟨⟨j + 1, by omega, by go_num, HO5.out, by rw [HST.out, ← List.cons_append, ← List.append_assoc]; exact HJ5.out⟩, by simp [intOf]; omega⟩
          · have hjl : j = t.args.length := by omega
            have HJA : Hid (J (pre ++ d :: depA (d + 1) t.args) wr) := by have := HJr.out; rw [List.take_of_length_le (by omega)] at this; exact this
            clear HJr
            subst hjl
            obtain ⟨wB, rfl⟩ : ∃ wB : World, wB = wr := ⟨_, rfl⟩
            gi_wp2
            gi_loopw [35] (fun i wr => ∃ j : Nat, j ≤ t.brs.length ∧ i = .int .i64 j ∧ Only C wB wr ∧ J (pre ++ d :: (depA (d + 1) t.args ++ depB (d + 1) (t.brs.take j))) wr) (fun i _ => t.brs.length - (intOf i).toNat)
            case atStart => exact ⟨0, Nat.zero_le _, rfl, Only.rf _ _, by simpa [depB] using HJA.out⟩
            case round =>
              obtain ⟨j, hj2, rfl, ho, hJr⟩ := hrel
              have HO3 := Lib.hid ho; have HJr := Lib.hid hJr
              have HOW3 : Hid (Only C w wr) := HOW.out.tr ho
              have hbr := ho.lt HXR.out (fun h => by have := (HC.out _ h).2; omega)
              clear t0 t1 t2 t3 t4
              obtain ⟨t0, t1, t2, t3, t4⟩ := cells5 hbr
              clear ho hJr hbr
              have hwr3 := HOW3.out.size
              by_cases hlt : j < t.brs.length
              · obtain ⟨b, o, vv, vc, xa, xb, rfl, hbl, y0, y1, y2, y3, yc, yt⟩ := HT.out.br hlt
                have hE := HEA.out _ HOW3.out
                have y0 := hE.keep y0
                have y2 := hE.keep y2
                obtain ⟨c0, c1, c2, c3, c4⟩ := yc.below hE
                have HTX := Lib.hid yt
                have HST := Lib.hid (depB_step (d := d + 1) hlt)
                have HSUB := Lib.hid (depB_sub (d := d + 1) (l := t.brs) (j + 1))
                obtain ⟨_, ⟨Ax, cx, rfl, -, -⟩, ⟨Bx, dx, rfl, -, -⟩⟩ := yt.form
                obtain ⟨Av, cv, rfl, -, -⟩ := y1.form
                obtain ⟨Ac, cc, rfl, -, -⟩ := y3.form
                clear yc yt y1 y3
                generalize t.brs[j] = br at *
                obtain ⟨vs, cs, x⟩ := br
                dsimp only at *
                have HEX := Lib.hid (Ext.al wr (.cells #[.slice Av vs.length cv, .slice Ac cs.length cc, .int .i64 x.op, .int .i64 x.n, .int .i64 x.ty, .slice Ax x.args.length cx, .slice Bx x.brs.length dx] 97))
                have HCALL := Lib.hid (HIH.out x _ _ (d + 1) (pre ++ d :: (depA (d + 1) t.args ++ depB (d + 1) (t.brs.take j))) _ HTX.out (hE.tr HEX.out) (Nat.le_trans (Nat.le_trans hbase hwr3) HEX.out.size) (by
                  refine List.IsPrefix.trans ?_ HPRE.out
                  rw [HNE.out, List.append_assoc]
                  refine (List.prefix_append_right_inj _).2 (List.cons_prefix_cons.2 ⟨rfl, ?_⟩)
                  show (depA (d + 1) t.args ++ depB (d + 1) (t.brs.take j)) ++ depN (d + 1) x <+: _
                  rw [List.append_assoc, ← HST.out]
                  exact (List.prefix_append_right_inj _).2 HSUB.out) (HJ.out _ _ _ HJr.out (HEX.out.mono (Nat.le_trans hbase hwr3))) (by omega) (by omega))
                have HOX : Hid (Only C wB (wr.alloc (.cells #[.slice Av vs.length cv, .slice Ac cs.length cc, .int .i64 x.op, .int .i64 x.n, .int .i64 x.ty, .slice Ax x.args.length cx, .slice Bx x.brs.length dx] 97))) := HO3.out.tr (Only.of_ext HEX.out)
                clear hE
                gi_wp2
                refine ⟨trivial, rfl, ?_⟩
                (with_reducible refine (callsIn_wide.2 HCALL.out).mono ?_)
                rintro e w5 ⟨q, rfl, hq⟩
                cases q
                · obtain ⟨hj5, ho5⟩ := hq.out.2 rfl
                  have HJ5 := Lib.hid hj5; have HO5 := Lib.hid (HOX.out.tr ho5)
                  clear hq hj5 ho5
                  gi_wp2
                  refine bodyPost_ret (results_tmp rfl _ _ _) rfl ?_
                  exact no_of ⟨HJ5.out, HOW.out.tr HO5.out⟩
                · obtain ⟨hj5, ho5⟩ := hq.out.1 rfl
                  have HJ5 := Lib.hid hj5; have HO5 := Lib.hid (HOX.out.tr ho5)
                  clear hq hj5 ho5
                  gi_wp2
                  exact ⟨⟨j + 1, by omega, by go_num, HO5.out, by rw [HST.out, ← List.append_assoc, ← List.cons_append, ← List.append_assoc]; exact HJ5.out⟩, by simp [intOf]; omega⟩
              · have hjl : j = t.brs.length := by omega
                have HJB : Hid (J (pre ++ depN d t) wr) := by have := HJr.out; rw [List.take_of_length_le (by omega)] at this; rw [HNE.out]; exact this
                subst hjl
                gi_wp2
                refine bodyPost_ret (results_tmp rfl _ _ _) rfl ?_
                exact yes_of ⟨HJB.out, HOW3.out⟩
      · have HLF := Lib.hid hlf
        clear hlf
        gi_wp2_with (refine ⟨trivial, rfl, ?_⟩; gi_at_call 100; refine (callsIn_wide.2 (isLeaf_any t.op true HLF.out _)).mono ?_; rintro e w3 ⟨rfl, rfl⟩)
        refine bodyPost_ret (results_tmp rfl _ _ _) rfl ?_
        exact yes_of ⟨by rw [HN.out, HLF.out]; exact HJ2.out, (Only.of_ext HW1.out).tr HO2.out⟩
end Go.Proofs.YtkdhhcidpklgoaaGreatDoor
