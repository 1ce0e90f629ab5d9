/- Lists in strictly increasing order with the same members are equal. -/
import Derived.Test.YtogmjgccopmplaaGreatQ31
import Derived.Deep.Cut
import Derived.Deep.DeepCutAuto
namespace Go.Proofs.YtogmjgccopmplaaGreat
open Go.RowKit

theorem sorted_same : ∀ (l m : List Str), SortedS l → SortedS m → (∀ k, k ∈ l ↔ k ∈ m) → l = m
  | [], [], _, _, _ => rfl
  | [], b :: m, _, _, h => absurd ((h b).2 (by simp)) (by simp)
  | a :: l, [], _, _, h => absurd ((h a).1 (by simp)) (by simp)
  | a :: l, b :: m, hl, hm, h => by
    have hl' := List.pairwise_cons.1 hl
    have hm' := List.pairwise_cons.1 hm
    have hab : a = b := by
      rcases List.mem_cons.1 ((h a).1 (by simp)) with e | h1
      · exact e
      · rcases List.mem_cons.1 ((h b).2 (by simp)) with e | h2
        · exact e.symm
        · exact absurd (hl'.1 b h2) (List.lt_asymm (hm'.1 a h1))
    subst hab
    refine congrArg _ (sorted_same l m hl'.2 hm'.2 (fun k => ⟨fun hk => ?_, fun hk => ?_⟩))
    · rcases List.mem_cons.1 ((h k).1 (List.mem_cons_of_mem _ hk)) with e | h1
      · subst e; exact absurd (hl'.1 _ hk) (List.lt_irrefl _)
      · exact h1
    · rcases List.mem_cons.1 ((h k).2 (List.mem_cons_of_mem _ hk)) with e | h1
      · subst e; exact absurd (hm'.1 _ hk) (List.lt_irrefl _)
      · exact h1
theorem OwnS.is {w : World} {B : Nat} {v : Value} {l m : List Str} {f : Str → Bool} (h : OwnS w B v l f) (hm : SortedS m) (hf : ∀ k, f k = true ↔ k ∈ m) : l = m :=
  sorted_same l m h.sorted hm fun k => (h.mem k).trans (hf k)
end Go.Proofs.YtogmjgccopmplaaGreat

/- law.go: the fixed examples of layer 4, as data and in memory. -/
namespace Go.Proofs.YtogmjgccopmplaaGreat
open Go.RowKit

def xS : Str := ⟨#[120]⟩
def mainS : Str := ⟨#[109, 97, 105, 110]⟩
def noS : Str := ⟨#[]⟩
def nilS : Str := ⟨#[78, 105, 108]⟩
def consS : Str := ⟨#[67, 111, 110, 115]⟩
def listS : Str := ⟨#[108, 105, 115, 116]⟩
def varT (s : Str) : Tm := .mk 0 0 s 0 [] []
def twoT : Tm := .mk 1 2 noS 0 [] []
def nullT : Tm := .mk 4 0 noS 1 [] []
def conT (a b : Tm) : Tm := .mk 4 1 noS 1 [a, b] []
def letT (a : Tm) : Tm := .mk 8 0 xS 1 [a, twoT] []
def nilX : Xtor := ⟨nilS, []⟩
def consX : Xtor := ⟨consS, [⟨0, false⟩, ⟨1, false⟩]⟩
def listD : Decl := ⟨listS, false, [nilX, consX]⟩
def funF (t : Tm) : Fn := ⟨mainS, [], 0, t⟩
def exP (b : Tm) : Pg := ⟨[listD], [funF (letT (conT twoT b))]⟩
def exV : List Prm := [⟨xS, 0⟩, ⟨xS, 1⟩]
set_option maxRecDepth 100000
theorem ex_prog : progB (exP nullT) = true := by kernel_rfl
theorem ex_prog2 : progB (exP twoT) = true := by kernel_rfl
theorem ex_check : checkR (exP nullT) = 0 := by kernel_rfl
theorem ex_check2 : checkR (exP twoT) = 40 := by kernel_rfl
theorem ex_fault : faultF (exP twoT) 0 (exP twoT).funs = some (0, [0]) := by kernel_rfl
theorem ex_term : (termP (exP nullT) (hasS (exV.map Prm.nm)) (hasS (([] : List Prm).map Prm.nm)) (varT xS)).1 = true := by kernel_rfl
theorem ex_have : haveL (exP nullT) exV = true := by kernel_rfl
theorem ex_have0 : haveL (exP nullT) [] = true := by kernel_rfl
theorem ex_ty : tyT (exP nullT) (givenL exV [xS]) (givenL [] []) (varT xS) = .inr 1 := by kernel_rfl
theorem ex_fv (k : Str) : fvT (varT xS) k = true ↔ k ∈ [xS] := by
  have h : fvT (varT xS) k = eqS k xS := by simp [varT, fvT, fvA, fvC, eqS]
  rw [h, List.mem_singleton]; exact eqS_iff
theorem ex_fl (k : Str) : flT (varT xS) k = true ↔ k ∈ ([] : List Str) := by
  simp [varT, flT, flA, flC]
theorem RT.leaf (w : World) (k : Nat) (op n : Int) (nm : Str) (ty : Int) (h1 : nm.size ≤ maxLen) (h2 : ok64 n) (h3 : ok64 ty) : RT w (k + 1) (.mk op n nm ty [] []) (.slice none 0 0) (.slice none 0 0) :=
  ⟨⟨h1, h2, h3⟩, ⟨none, 0, rfl, Nat.le_refl _, Nat.zero_le _, fun i x h => by cases h⟩, ⟨none, 0, rfl, Nat.le_refl _, Nat.zero_le _, fun i x h => by cases h⟩⟩
theorem RT.two {w : World} {g k : Nat} {op n : Int} {nm : Str} {ty : Int} {a b : Tm} {xa xc ya yc : Value} (h1 : nm.size ≤ maxLen) (h2 : ok64 n) (h3 : ok64 ty)
    (hg : w.heap[g]? = some (.cells #[.int .i64 a.op, .int .i64 a.n, .string a.nm, .int .i64 a.ty, xa, xc, .int .i64 b.op, .int .i64 b.n, .string b.nm, .int .i64 b.ty, ya, yc] 41 (0, 0))) (ha : RT w k a xa xc) (hb : RT w k b ya yc) :
    RT w (k + 1) (.mk op n nm ty [a, b] []) (.slice (some ⟨g, 0, none⟩) 2 2) (.slice none 0 0) :=
  ⟨⟨h1, h2, h3⟩, ⟨some ⟨g, 0, none⟩, 2, rfl, Nat.le_refl _, by decide, fun i x hi => by
    match i, hi with
    | 0, hi => obtain rfl := Option.some.inj hi; exact ⟨g, 0, xa, xc, rfl, heap_lt hg, ⟨cellAt hg 0, cellAt hg 1, cellAt hg 2, cellAt hg 3, cellAt hg 4, cellAt hg 5⟩, ha⟩
    | 1, hi => obtain rfl := Option.some.inj hi; exact ⟨g, 0, ya, yc, rfl, heap_lt hg, ⟨cellAt hg 6, cellAt hg 7, cellAt hg 8, cellAt hg 9, cellAt hg 10, cellAt hg 11⟩, hb⟩⟩,
    ⟨none, 0, rfl, Nat.le_refl _, Nat.zero_le _, fun i x h => by cases h⟩⟩
/-- The example program in memory. -/
structure ExM (W : World) (n m k : Nat) (b : Tm) : Prop where
  hn : n + 1 + 1 < m
  hm : m + 1 < k
  a : W.heap[n]? = some (.cells #[.int .i64 0, .bool false, .int .i64 1, .bool false] 69 (0, 0))
  x : W.heap[n + 1]? = some (.cells #[.string nilS, .slice none 0 0, .string consS, .slice (some ⟨n, 0, none⟩) 2 2] 67 (0, 0))
  d : W.heap[n + 1 + 1]? = some (.cells #[.string listS, .bool false, .slice (some ⟨n + 1, 0, none⟩) 2 2] 72 (0, 0))
  two : W.heap[m]? = some (.cells #[.int .i64 1, .int .i64 2, .string noS, .int .i64 0, .slice none 0 0, .slice none 0 0] 41 (0, 0))
  inn : W.heap[k]? = some (.cells #[.int .i64 1, .int .i64 2, .string noS, .int .i64 0, .slice none 0 0, .slice none 0 0, .int .i64 b.op, .int .i64 b.n, .string b.nm, .int .i64 b.ty, .slice none 0 0, .slice none 0 0] 41 (0, 0))
  out : W.heap[k + 1]? = some (.cells #[.int .i64 4, .int .i64 1, .string noS, .int .i64 1, .slice (some ⟨k, 0, none⟩) 2 2, .slice none 0 0, .int .i64 1, .int .i64 2, .string noS, .int .i64 0, .slice none 0 0, .slice none 0 0] 41 (0, 0))
  fns : W.heap[k + 1 + 1]? = some (.cells #[.string mainS, .slice none 0 0, .int .i64 0, .int .i64 8, .int .i64 0, .string xS, .int .i64 1, .slice (some ⟨k + 1, 0, none⟩) 2 2, .slice none 0 0] 64 (0, 0))
  p : W.heap[k + 1 + 1 + 1]? = some (.cells #[.slice (some ⟨n + 1 + 1, 0, none⟩) 1 1, .slice (some ⟨k + 1 + 1, 0, none⟩) 1 1] 25 (0, 0))
theorem ExM.ext {W W' : World} {n m k : Nat} {b : Tm} (h : ExM W n m k b) (hb : Ext W W') : ExM W' n m k b :=
  ⟨h.hn, h.hm, (hb.block _ (heap_lt h.a)).trans h.a, (hb.block _ (heap_lt h.x)).trans h.x, (hb.block _ (heap_lt h.d)).trans h.d, (hb.block _ (heap_lt h.two)).trans h.two, (hb.block _ (heap_lt h.inn)).trans h.inn, (hb.block _ (heap_lt h.out)).trans h.out, (hb.block _ (heap_lt h.fns)).trans h.fns, (hb.block _ (heap_lt h.p)).trans h.p⟩
theorem ExM.turn {W W' : World} {n m k : Nat} {b b' : Tm} (h : ExM W n m k b) (ho : Only (fun q => q = k) W W')
    (hi : W'.heap[k]? = some (.cells #[.int .i64 1, .int .i64 2, .string noS, .int .i64 0, .slice none 0 0, .slice none 0 0, .int .i64 b'.op, .int .i64 b'.n, .string b'.nm, .int .i64 b'.ty, .slice none 0 0, .slice none 0 0] 41 (0, 0))) : ExM W' n m k b' := by
  have h1 := h.hn; have h2 := h.hm
  exact ⟨h1, h2, (ho.block _ (heap_lt h.a) (by omega)).trans h.a, (ho.block _ (heap_lt h.x) (by omega)).trans h.x, (ho.block _ (heap_lt h.d) (by omega)).trans h.d, (ho.block _ (heap_lt h.two) (by omega)).trans h.two, hi, (ho.block _ (heap_lt h.out) (by omega)).trans h.out, (ho.block _ (heap_lt h.fns) (by omega)).trans h.fns, (ho.block _ (heap_lt h.p) (by omega)).trans h.p⟩
theorem ExM.decls {W : World} {n m k : Nat} {b : Tm} (h : ExM W n m k b) : RDecls W (.slice (some ⟨n + 1 + 1, 0, none⟩) 1 1) (exP b).decls :=
  ⟨_, 1, rfl, Nat.le_refl _, by decide, fun i d hi => by
    match i, hi with
    | 0, hi =>
      obtain rfl := Option.some.inj hi
      exact ⟨_, 0, _, rfl, heap_lt h.d, cellAt h.d 0, cellAt h.d 1, cellAt h.d 2, ⟨_, 2, rfl, Nat.le_refl _, by decide, fun i x hi => by
        match i, hi with
        | 0, hi =>
          obtain rfl := Option.some.inj hi
          exact ⟨_, 0, _, rfl, heap_lt h.x, cellAt h.x 0, cellAt h.x 1, ⟨none, 0, rfl, Nat.le_refl _, Nat.zero_le _, fun i a hi => by cases hi⟩, by decide⟩
        | 1, hi =>
          obtain rfl := Option.some.inj hi
          exact ⟨_, 0, _, rfl, heap_lt h.x, cellAt h.x 2, cellAt h.x 3, ⟨_, 2, rfl, Nat.le_refl _, by decide, fun i a hi => by
            match i, hi with
            | 0, hi => obtain rfl := Option.some.inj hi; exact ⟨_, 0, rfl, heap_lt h.a, cellAt h.a 0, cellAt h.a 1⟩
            | 1, hi => obtain rfl := Option.some.inj hi; exact ⟨_, 0, rfl, heap_lt h.a, cellAt h.a 2, cellAt h.a 3⟩⟩, by decide⟩⟩, by decide⟩⟩
theorem main_le : mainS.size ≤ maxLen := by decide
theorem ExM.funs {W : World} {n m k : Nat} {b : Tm} (h : ExM W n m k b) (hb : RT W 1 b (.slice none 0 0) (.slice none 0 0)) : RFns W (.slice (some ⟨k + 1 + 1, 0, none⟩) 1 1) (exP b).funs :=
  ⟨_, 1, rfl, Nat.le_refl _, by decide, fun i f hi => by
    match i, hi with
    | 0, hi =>
      obtain rfl := Option.some.inj hi
      have ht : ∀ j, RT W (j + 1) twoT (.slice none 0 0) (.slice none 0 0) := fun j => RT.leaf _ _ _ _ _ _ (by decide) (by unfold ok64; decide) (by unfold ok64; decide)
      have hc : RT W 2 (conT twoT b) (.slice (some ⟨k, 0, none⟩) 2 2) (.slice none 0 0) := RT.two (by decide) (by unfold ok64; decide) (by unfold ok64; decide) h.inn (ht 0) hb
      exact ⟨_, 0, _, _, _, 3, rfl, heap_lt h.fns, cellAt h.fns 0, cellAt h.fns 1, cellAt h.fns 2, ⟨cellAt h.fns 3, cellAt h.fns 4, cellAt h.fns 5, cellAt h.fns 6, cellAt h.fns 7, cellAt h.fns 8⟩, main_le, ⟨none, 0, rfl, Nat.le_refl _, Nat.zero_le _, fun i a hi => by cases hi⟩,
        RT.two (by decide) (by unfold ok64; decide) (by unfold ok64; decide) h.out hc (ht 1)⟩⟩
theorem ex_fineT (b : Tm) (h : b = twoT ∨ b = nullT) : FineT (letT (conT twoT b)) := by
  rcases h with rfl | rfl
  · refine ⟨?_, by decide⟩
    have h : nodesL 1 (letT (conT twoT twoT)) = [(1, letT (conT twoT twoT)), (2, conT twoT twoT), (3, twoT), (3, twoT), (2, twoT)] := by rfl
    rw [h]
    intro y hy
    simp only [List.mem_cons, List.not_mem_nil, or_false] at hy
    rcases hy with rfl | rfl | rfl | rfl | rfl <;> decide
  · refine ⟨?_, by decide⟩
    have h : nodesL 1 (letT (conT twoT nullT)) = [(1, letT (conT twoT nullT)), (2, conT twoT nullT), (3, twoT), (3, nullT), (2, twoT)] := by rfl
    rw [h]
    intro y hy
    simp only [List.mem_cons, List.not_mem_nil, or_false] at hy
    rcases hy with rfl | rfl | rfl | rfl | rfl <;> decide
theorem ex_fine (b : Tm) (h : b = twoT ∨ b = nullT) : FinePg (exP b) := fun f hf => by
  obtain rfl : f = funF (letT (conT twoT b)) := by simpa [exP] using hf
  exact (ex_fineT b h).toF _
theorem ex_fineV : FineT (varT xS) := ⟨by
  have h : nodesL 1 (varT xS) = [(1, varT xS)] := by rfl
  rw [h]
  intro y hy
  simp only [List.mem_cons, List.not_mem_nil, or_false] at hy
  subst hy; decide, by decide⟩
theorem ex_typeR {e : Ending} (h : TypeR (exP nullT) exV [] (varT xS) e) : e = .returned (.tuple #[.int .i64 1, .int .i64 0]) := by
  unfold TypeR at h
  rw [if_neg (by rw [ex_prog]; simp), if_pos ⟨ex_term, ex_have, ex_have0⟩] at h
  obtain ⟨fv, fl, h1, h2, h3, h4, rfl⟩ := h
  have e1 : fv = [xS] := sorted_same _ _ h2 (by unfold SortedS; decide) (fun k => (h1 k).trans (ex_fv k))
  have e2 : fl = [] := sorted_same _ _ h4 (by unfold SortedS; decide) (fun k => (h3 k).trans (ex_fl k))
  subst e1 e2
  rw [ex_ty]
theorem box12_set {w : World} {r T : Nat} {a b c d e f g h i j k l : Value} (hh : w.heap[r]? = some (.cells #[a, b, c, d, e, f, g, h, i, j, k, l] T (0, 0))) (g' h' i' j' k' l' : Value) :
    ((((((w.setCell ⟨r, 6, none⟩ g').setCell ⟨r, 7, none⟩ h').setCell ⟨r, 8, none⟩ i').setCell ⟨r, 9, none⟩ j').setCell ⟨r, 10, none⟩ k').setCell ⟨r, 11, none⟩ l').heap[r]? = some (.cells #[a, b, c, d, e, f, g', h', i', j', k', l'] T (0, 0)) := by
  simp [World.setCell, Array.getElem?_modify, hh]
theorem only6 (w : World) (r : Nat) (g' h' i' j' k' l' : Value) : Only (fun q => q = r) w ((((((w.setCell ⟨r, 6, none⟩ g').setCell ⟨r, 7, none⟩ h').setCell ⟨r, 8, none⟩ i').setCell ⟨r, 9, none⟩ j').setCell ⟨r, 10, none⟩ k').setCell ⟨r, 11, none⟩ l') :=
  (((((Only.setCell (C := fun q => q = r) (p := ⟨r, 6, none⟩) rfl _ _).tr (Only.setCell (C := fun q => q = r) (p := ⟨r, 7, none⟩) rfl _ _)).tr (Only.setCell (C := fun q => q = r) (p := ⟨r, 8, none⟩) rfl _ _)).tr (Only.setCell (C := fun q => q = r) (p := ⟨r, 9, none⟩) rfl _ _)).tr (Only.setCell (C := fun q => q = r) (p := ⟨r, 10, none⟩) rfl _ _)).tr (Only.setCell (C := fun q => q = r) (p := ⟨r, 11, none⟩) rfl _ _)
end Go.Proofs.YtogmjgccopmplaaGreat

/- law.go: awake. -/
namespace Go.Proofs.YtogmjgccopmplaaGreat
open Go.RowKit

theorem bx_three (w : World) (a b c : Obj) : (((w.alloc a).alloc b).alloc c).heap[w.heap.size]? = some a ∧ (((w.alloc a).alloc b).alloc c).heap[w.heap.size + 1]? = some b ∧ (((w.alloc a).alloc b).alloc c).heap[w.heap.size + 1 + 1]? = some c ∧ (((w.alloc a).alloc b).alloc c).heap.size = w.heap.size + 1 + 1 + 1 := by
  have h1 := heapNew w a
  have h2 := heapNew (w.alloc a) b
  have h3 := heapNew ((w.alloc a).alloc b) c
  simp only [World.size_alloc] at h2 h3
  exact ⟨((Ext.al2 _ _ _).block _ (heap_lt h1)).trans h1, ((Ext.al _ _).block _ (by simp only [World.size_alloc]; omega)).trans h2, h3, by simp only [World.size_alloc]⟩
theorem bx_two (w : World) (a b : Obj) : ((w.alloc a).alloc b).heap[w.heap.size]? = some a ∧ ((w.alloc a).alloc b).heap[w.heap.size + 1]? = some b ∧ ((w.alloc a).alloc b).heap.size = w.heap.size + 1 + 1 := by
  have h1 := heapNew w a
  have h2 := heapNew (w.alloc a) b
  simp only [World.size_alloc] at h2
  exact ⟨((Ext.al _ _).block _ (heap_lt h1)).trans h1, h2, by simp only [World.size_alloc]⟩

theorem RPrms.nil (w : World) : RPrms w (.slice none 0 0) [] := ⟨none, 0, rfl, Nat.le_refl _, Nat.zero_le _, fun i a h => by cases h⟩
theorem exV_mem {w : World} {g : Nat} (h : w.heap[g]? = some (.cells #[.string ⟨#[120]⟩, .int .i64 0, .string ⟨#[120]⟩, .int .i64 1] 74 (0, 0))) : RPrms w (.slice (some ⟨g, 0, none⟩) 2 2) exV :=
  ⟨_, 2, rfl, Nat.le_refl _, by decide, fun i a hi => by
    match i, hi with
    | 0, hi => obtain rfl := Option.some.inj hi; exact ⟨_, 0, rfl, heap_lt h, cellAt h 0, cellAt h 1, by decide⟩
    | 1, hi => obtain rfl := Option.some.inj hi; exact ⟨_, 0, rfl, heap_lt h, cellAt h 2, cellAt h 3, by decide⟩⟩

set_option maxHeartbeats 8000000 in
set_option maxRecDepth 100000 in
theorem awake_any (w : World) : Calls Tryz.prog 8 #[] w fun e w' => e = .returned (.bool true) ∧ Ext w w' := by
  go_enter Tryz.func8, Tryz.ntmps8
  go_upto_region 2 with fail
  have HE1 := Lib.hid (Ext.al3 w (.cells #[.int .i64 0, .bool false, .int .i64 1, .bool false] 69) (.cells #[.string ⟨#[78, 105, 108]⟩, .slice none 0 0, .string ⟨#[67, 111, 110, 115]⟩, .slice (some ⟨w.heap.size, 0, none⟩) 2 2] 67) (.cells #[.string ⟨#[108, 105, 115, 116]⟩, .bool false, .slice (some ⟨w.heap.size + 1, 0, none⟩) 2 2] 72))
  obtain ⟨ha, hx, hd, hs1⟩ := bx_three w (.cells #[.int .i64 0, .bool false, .int .i64 1, .bool false] 69) (.cells #[.string ⟨#[78, 105, 108]⟩, .slice none 0 0, .string ⟨#[67, 111, 110, 115]⟩, .slice (some ⟨w.heap.size, 0, none⟩) 2 2] 67) (.cells #[.string ⟨#[108, 105, 115, 116]⟩, .bool false, .slice (some ⟨w.heap.size + 1, 0, none⟩) 2 2] 72)
  have HA := Lib.hid ha; have HX := Lib.hid hx; have HD := Lib.hid hd; have HS1 := Lib.hid hs1
  clear ha hx hd hs1
  generalize World.alloc (World.alloc (World.alloc w _) _) _ = w1 at *
  go_upto_region 4 with fail
  have HE2 := Lib.hid (Ext.al2 w1 (.cells #[.int .i64 1, .int .i64 2, .string ⟨#[]⟩, .int .i64 0, .slice none 0 0, .slice none 0 0] 41) (.cells #[.int .i64 4, .int .i64 0, .string ⟨#[]⟩, .int .i64 1, .slice none 0 0, .slice none 0 0] 41))
  obtain ⟨h2, h3, hs2⟩ := bx_two w1 (.cells #[.int .i64 1, .int .i64 2, .string ⟨#[]⟩, .int .i64 0, .slice none 0 0, .slice none 0 0] 41) (.cells #[.int .i64 4, .int .i64 0, .string ⟨#[]⟩, .int .i64 1, .slice none 0 0, .slice none 0 0] 41)
  have HT := Lib.hid h2; have HN := Lib.hid h3; have HS2 := Lib.hid hs2
  clear hs2
  generalize World.alloc (World.alloc w1 _) _ = w2 at *
  obtain ⟨c0, c1, c2, c3, c4, c5⟩ := cells6 h2
  obtain ⟨d0, d1, d2, d3, d4, d5⟩ := cells6 h3
  clear h2 h3
  have k0 := (Ext.al w2 (.cells #[.int .i64 1, .int .i64 2, .string ⟨#[]⟩, .int .i64 0, .slice none 0 0, .slice none 0 0, .int .i64 4, .int .i64 0, .string ⟨#[]⟩, .int .i64 1, .slice none 0 0, .slice none 0 0] 41)).keep c0
  have k1 := (Ext.al w2 (.cells #[.int .i64 1, .int .i64 2, .string ⟨#[]⟩, .int .i64 0, .slice none 0 0, .slice none 0 0, .int .i64 4, .int .i64 0, .string ⟨#[]⟩, .int .i64 1, .slice none 0 0, .slice none 0 0] 41)).keep c1
  have k2 := (Ext.al w2 (.cells #[.int .i64 1, .int .i64 2, .string ⟨#[]⟩, .int .i64 0, .slice none 0 0, .slice none 0 0, .int .i64 4, .int .i64 0, .string ⟨#[]⟩, .int .i64 1, .slice none 0 0, .slice none 0 0] 41)).keep c2
  have k3 := (Ext.al w2 (.cells #[.int .i64 1, .int .i64 2, .string ⟨#[]⟩, .int .i64 0, .slice none 0 0, .slice none 0 0, .int .i64 4, .int .i64 0, .string ⟨#[]⟩, .int .i64 1, .slice none 0 0, .slice none 0 0] 41)).keep c3
  have k4 := (Ext.al w2 (.cells #[.int .i64 1, .int .i64 2, .string ⟨#[]⟩, .int .i64 0, .slice none 0 0, .slice none 0 0, .int .i64 4, .int .i64 0, .string ⟨#[]⟩, .int .i64 1, .slice none 0 0, .slice none 0 0] 41)).keep c4
  have k5 := (Ext.al w2 (.cells #[.int .i64 1, .int .i64 2, .string ⟨#[]⟩, .int .i64 0, .slice none 0 0, .slice none 0 0, .int .i64 4, .int .i64 0, .string ⟨#[]⟩, .int .i64 1, .slice none 0 0, .slice none 0 0] 41)).keep c5
  go_upto_region 5 with fail
  clear c0 c1 c2 c3 c4 c5 d0 d1 d2 d3 d4 d5 k0 k1 k2 k3 k4 k5
  obtain ⟨g1, g2, g3, g4⟩ := box_four w2 (.cells #[.int .i64 1, .int .i64 2, .string ⟨#[]⟩, .int .i64 0, .slice none 0 0, .slice none 0 0, .int .i64 4, .int .i64 0, .string ⟨#[]⟩, .int .i64 1, .slice none 0 0, .slice none 0 0] 41) (.cells #[.int .i64 4, .int .i64 1, .string ⟨#[]⟩, .int .i64 1, .slice (some ⟨w2.heap.size, 0, none⟩) 2 2, .slice none 0 0, .int .i64 1, .int .i64 2, .string ⟨#[]⟩, .int .i64 0, .slice none 0 0, .slice none 0 0] 41) (.cells #[.string ⟨#[109, 97, 105, 110]⟩, .slice none 0 0, .int .i64 0, .int .i64 8, .int .i64 0, .string ⟨#[120]⟩, .int .i64 1, .slice (some ⟨w2.heap.size + 1, 0, none⟩) 2 2, .slice none 0 0] 64) (.cells #[.slice (some ⟨w.heap.size + 1 + 1, 0, none⟩) 1 1, .slice (some ⟨w2.heap.size + 1 + 1, 0, none⟩) 1 1] 25)
  have hx4 : Ext w2 ((((w2.alloc (.cells #[.int .i64 1, .int .i64 2, .string ⟨#[]⟩, .int .i64 0, .slice none 0 0, .slice none 0 0, .int .i64 4, .int .i64 0, .string ⟨#[]⟩, .int .i64 1, .slice none 0 0, .slice none 0 0] 41)).alloc (.cells #[.int .i64 4, .int .i64 1, .string ⟨#[]⟩, .int .i64 1, .slice (some ⟨w2.heap.size, 0, none⟩) 2 2, .slice none 0 0, .int .i64 1, .int .i64 2, .string ⟨#[]⟩, .int .i64 0, .slice none 0 0, .slice none 0 0] 41)).alloc (.cells #[.string ⟨#[109, 97, 105, 110]⟩, .slice none 0 0, .int .i64 0, .int .i64 8, .int .i64 0, .string ⟨#[120]⟩, .int .i64 1, .slice (some ⟨w2.heap.size + 1, 0, none⟩) 2 2, .slice none 0 0] 64)).alloc (.cells #[.slice (some ⟨w.heap.size + 1 + 1, 0, none⟩) 1 1, .slice (some ⟨w2.heap.size + 1 + 1, 0, none⟩) 1 1] 25)) := (Ext.al3 _ _ _ _).tr (Ext.al _ _)
  have hE2 := HE2.out.tr hx4
  have HEX : Hid (ExM ((((w2.alloc (.cells #[.int .i64 1, .int .i64 2, .string ⟨#[]⟩, .int .i64 0, .slice none 0 0, .slice none 0 0, .int .i64 4, .int .i64 0, .string ⟨#[]⟩, .int .i64 1, .slice none 0 0, .slice none 0 0] 41)).alloc (.cells #[.int .i64 4, .int .i64 1, .string ⟨#[]⟩, .int .i64 1, .slice (some ⟨w2.heap.size, 0, none⟩) 2 2, .slice none 0 0, .int .i64 1, .int .i64 2, .string ⟨#[]⟩, .int .i64 0, .slice none 0 0, .slice none 0 0] 41)).alloc (.cells #[.string ⟨#[109, 97, 105, 110]⟩, .slice none 0 0, .int .i64 0, .int .i64 8, .int .i64 0, .string ⟨#[120]⟩, .int .i64 1, .slice (some ⟨w2.heap.size + 1, 0, none⟩) 2 2, .slice none 0 0] 64)).alloc (.cells #[.slice (some ⟨w.heap.size + 1 + 1, 0, none⟩) 1 1, .slice (some ⟨w2.heap.size + 1 + 1, 0, none⟩) 1 1] 25)) w.heap.size w1.heap.size w2.heap.size nullT) :=
    ⟨by have := HS1.out; omega, by have := HS2.out; omega, (hE2.block _ (heap_lt HA.out)).trans HA.out, (hE2.block _ (heap_lt HX.out)).trans HX.out, (hE2.block _ (heap_lt HD.out)).trans HD.out, (hx4.block _ (heap_lt HT.out)).trans HT.out, g1, g2, g3, g4⟩
  have HXW := Lib.hid (HE1.out.tr hE2)
  have HZ1 : Hid (w.heap.size ≤ w2.heap.size) := by show _ ≤ _; have := HS2.out; have := HS1.out; omega
  clear g1 g2 g3 g4 hx4 hE2
  generalize World.alloc (World.alloc (World.alloc (World.alloc w2 _) _) _) _ = w3 at *
  clear HA HX HD HT HN
  have p0 := cellAt HEX.out.p 0
  have p1 := cellAt HEX.out.p 1
  go_wp2_with fail
  have HE4 := Lib.hid (Ext.al w3 (.cells #[.string ⟨#[120]⟩, .int .i64 0, .string ⟨#[120]⟩, .int .i64 1] 74))
  have HB4 := Lib.hid (heapNew w3 (.cells #[.string ⟨#[120]⟩, .int .i64 0, .string ⟨#[120]⟩, .int .i64 1] 74))
  generalize hw4 : World.alloc w3 _ = w4 at *
  clear hw4
  (refine (Typec_any (exP nullT) _ _ _ _ exV [] 1 (varT xS) _ _ _ (HEX.out.ext HE4.out).decls ((HEX.out.ext HE4.out).funs (RT.leaf _ _ _ _ _ _ (by decide) (by unfold ok64; decide) (by unfold ok64; decide))) (ex_fine _ (.inr rfl)) (exV_mem HB4.out) (RPrms.nil _) (by decide) (by decide) (RT.leaf _ _ _ _ _ _ (by decide) (by unfold ok64; decide) (by unfold ok64; decide)) ex_fineV (by decide) (by decide)).mono ?_)
  rintro e w5 ⟨he, hb⟩
  obtain rfl := ex_typeR he
  have HEX5 := Lib.hid (HEX.out.ext (HE4.out.tr hb))
  have HXW5 := Lib.hid (HXW.out.tr (HE4.out.tr hb))
  clear hb he p0 p1 HEX HXW HE4 HB4
  have p0 := cellAt HEX5.out.p 0
  have p1 := cellAt HEX5.out.p 1
  go_wp2_with fail
  (with_reducible refine (Checkc_any (exP nullT) _ _ _ HEX5.out.decls (HEX5.out.funs (RT.leaf _ _ _ _ _ _ (by decide) (by unfold ok64; decide) (by unfold ok64; decide))) (ex_fine _ (.inr rfl))).mono ?_)
  rw [ex_check]
  rintro e w6 ⟨rfl, hb⟩
  have HEX6 := Lib.hid (HEX5.out.ext hb)
  have HXW6 := Lib.hid (HXW5.out.tr hb)
  clear hb p0 p1 HEX5 HXW5
  go_upto_region 8 with fail
  go_cut [] from 10 to 87 (fun W => ExM W w.heap.size w1.heap.size w2.heap.size twoT ∧ Ext w W)
  case first =>
    have p1 := cellAt HEX6.out.p 1
    have q7 := cellAt HEX6.out.fns 7
    have r4 := cellAt HEX6.out.out 4
    have k0 := cellAt HEX6.out.two 0
    have k1 := cellAt HEX6.out.two 1
    have k2 := cellAt HEX6.out.two 2
    have k3 := cellAt HEX6.out.two 3
    have k4 := cellAt HEX6.out.two 4
    have k5 := cellAt HEX6.out.two 5
    have i6 := cellAt HEX6.out.inn 6
    have f6 := frozenAt HEX6.out.inn 6
    have i7 := cellAt HEX6.out.inn 7
    have f7 := frozenAt HEX6.out.inn 7
    have i8 := cellAt HEX6.out.inn 8
    have f8 := frozenAt HEX6.out.inn 8
    have i9 := cellAt HEX6.out.inn 9
    have f9 := frozenAt HEX6.out.inn 9
    have i10 := cellAt HEX6.out.inn 10
    have f10 := frozenAt HEX6.out.inn 10
    have i11 := cellAt HEX6.out.inn 11
    have f11 := frozenAt HEX6.out.inn 11
    go_region
    all_goals
      clear p1 q7 r4 k0 k1 k2 k3 k4 k5 i6 f6 i7 f7 i8 f8 i9 f9 i10 f10 i11 f11
      have HON := Lib.hid (only6 w6 w2.heap.size (.int .i64 1) (.int .i64 2) (.string noS) (.int .i64 0) (.slice none 0 0) (.slice none 0 0))
      have HIN := Lib.hid (box12_set HEX6.out.inn (.int .i64 1) (.int .i64 2) (.string noS) (.int .i64 0) (.slice none 0 0) (.slice none 0 0))
      generalize World.setCell (World.setCell (World.setCell (World.setCell (World.setCell (World.setCell w6 _ _) _ _) _ _) _ _) _ _) _ _ = w7 at *
      have HEX7 : Hid (ExM w7.drew w.heap.size w1.heap.size w2.heap.size twoT) := HEX6.out.turn ⟨HON.out.os, HON.out.tape, HON.out.output, HON.out.size, HON.out.block⟩ HIN.out
      have HXW7 : Hid (Ext w w7.drew) := (HXW6.out.trans (HON.out.below HXW6.out.size (fun q e => by have := HZ1.out; omega))).drew
      go_wp2
      go_meet
      exact ⟨HEX7.out, HXW7.out⟩
  case rest =>
  obtain ⟨hex, hxw⟩ := hcut
  have HEX8 := Lib.hid hex; have HXW8 := Lib.hid hxw
  clear hex hxw
  obtain ⟨w8, hw8⟩ : ∃ w8, w8 = wc := ⟨_, rfl⟩
  subst hw8
  have p0 := cellAt HEX8.out.p 0
  have p1 := cellAt HEX8.out.p 1
  go_wp2_with fail
  (with_reducible refine (Fault_any (exP twoT) _ _ _ HEX8.out.decls (HEX8.out.funs (RT.leaf _ _ _ _ _ _ (by decide) (by unfold ok64; decide) (by unfold ok64; decide))) (ex_fine _ (.inl rfl))).mono ?_)
  rintro e w9 ⟨h, hb⟩
  rw [if_pos ex_prog2, ex_fault] at h
  obtain ⟨vp, rfl, hp⟩ := h
  have hp : World.ownsRow w9 w8.heap.size 3 1 vp 1 [.int .i64 0] := hp
  obtain ⟨Ap, cp, rfl⟩ := own_shapeL hp
  have HP : Hid (OwnL w9 w8.heap.size (.slice Ap 1 cp) [0]) := hp
  have HEX9 := Lib.hid (HEX8.out.ext hb)
  have HXW9 := Lib.hid (HXW8.out.tr hb)
  clear hb p0 p1 hp HEX8 HXW8
  have p0 := cellAt HEX9.out.p 0
  have p1 := cellAt HEX9.out.p 1
  go_wp2_with fail
  (with_reducible refine (Checkc_any (exP twoT) _ _ _ HEX9.out.decls (HEX9.out.funs (RT.leaf _ _ _ _ _ _ (by decide) (by unfold ok64; decide) (by unfold ok64; decide))) (ex_fine _ (.inl rfl))).mono ?_)
  rw [ex_check2]
  rintro e w10 ⟨rfl, hb⟩
  have HXW10 := Lib.hid (HXW9.out.tr hb)
  have HP10 := Lib.hid (own_ints (own_below HP.out hb))
  clear hb p0 p1 HEX9 HXW9
  go_wp2_with fail
  (refine (same_ints_any _ _ [0] [0] _ (HP10.out.below (Ext.al _ (.cells #[.int .i64 0] 3))) (own_ints (own_single (w := w10) (B := 0) (Nat.zero_le _) 0))).mono ?_)
  rw [show eqL [0] [0] = true by decide]
  rintro e w11 ⟨rfl, hb⟩
  have HXW11 := Lib.hid ((HXW10.out.tr (Ext.al _ (.cells #[.int .i64 0] 3))).tr hb)
  clear hb
  go_wp2
  go_ret
  exact ⟨rfl, HXW11.out⟩
end Go.Proofs.YtogmjgccopmplaaGreat

/- law.go: CheckOwn: rows that are written to; paths are not negative. -/
namespace Go.Proofs.YtogmjgccopmplaaGreat
open Go.RowKit

/-- A row of single cells that may be written to, in a block from B on. -/
def WRow (W : World) (B : Nat) (v : Value) (n : Nat) : Prop :=
  ∃ A c, v = .slice A n c ∧ n ≤ c ∧ c ≤ maxLen ∧ (n = 0 ∨ ∃ g cur e, A = some ⟨g, 0, none⟩ ∧ B ≤ g ∧ W.heap[g]? = some (.cells cur e (0, 0)) ∧ n ≤ cur.size)
theorem WRow.of_own {W : World} {B e n : Nat} {v : Value} {xs : List Value} (h : W.ownsRow B e 1 v n xs) : WRow W B v n := by
  rcases h.2 with ⟨rfl, rfl⟩ | ⟨g, cap, cur, rfl, e2, e3, e4, e5, e6, -⟩
  · exact ⟨none, 0, rfl, Nat.le_refl _, Nat.zero_le _, .inl rfl⟩
  · exact ⟨_, cap, rfl, e4, e5, .inr ⟨g, cur, e, rfl, e2, e3, by omega⟩⟩
theorem WRow.set {W : World} {B n : Nat} {v : Value} (h : WRow W B v n) (q i : Nat) (u : Value) : WRow (W.setCell ⟨q, i, none⟩ u) B v n := by
  obtain ⟨A, c, rfl, h1, h2, h3⟩ := h
  refine ⟨A, c, rfl, h1, h2, ?_⟩
  rcases h3 with h3 | ⟨g, cur, e, rfl, h4, h5, h6⟩
  · exact .inl h3
  · refine .inr ?_
    by_cases hq : q = g
    · subst hq
      exact ⟨q, cur.setIfInBounds i u, e, rfl, h4, by simp [World.setCell, Array.getElem?_modify, h5], by simpa using h6⟩
    · exact ⟨g, cur, e, rfl, h4, (Below.heap_setCell _ _ _ _ (by show g ≠ q; omega)).trans h5, h6⟩
theorem WRow.at_ {W : World} {B n c : Nat} {A : Option Addr} (h : WRow W B (.slice A n c) n) {i : Nat} (hi : i < n) : ∃ g u, A = some ⟨g, 0, none⟩ ∧ B ≤ g ∧ W.cell? ⟨g, i, none⟩ = some u ∧ W.frozen? ⟨g, i, none⟩ = false := by
  obtain ⟨A', c', he, h1, h2, h3⟩ := h
  cases he
  rcases h3 with h3 | ⟨g, cur, e, rfl, h4, h5, h6⟩
  · omega
  · have hl : i < cur.size := by omega
    exact ⟨g, cur[i], rfl, h4, cellAt h5 i (Array.getElem?_eq_getElem hl), frozenAt h5 i⟩
theorem WRow.form {W : World} {B n : Nat} {v : Value} (h : WRow W B v n) : ∃ A c, v = .slice A n c ∧ n ≤ c ∧ c ≤ maxLen := by
  obtain ⟨A, c, h1, h2, h3, _⟩ := h
  exact ⟨A, c, h1, h2, h3⟩

mutual
theorem tyT_pos (P : Pg) : ∀ (V L : Env) (t : Tm) (p : List Int), tyT P V L t = .inl p → ∀ x ∈ p, 0 ≤ x
  | V, L, .mk op n nm ty args cls, p, h => by
    rw [tyT] at h
    cases ha : tyA P op nm ty V L 0 args with
    | inl q =>
      rw [ha] at h; simp at h; subst h
      exact tyA_pos P op nm ty V L 0 args q ha
    | inr a =>
      rw [ha] at h
      cases hc : tyC P V L args.length (declAt P ty).xtors cls with
      | inl q =>
        rw [hc] at h; simp at h; subst h
        exact tyC_pos P V L args.length (declAt P ty).xtors cls q hc
      | inr b =>
        rw [hc] at h
        have := ruleS_nil h
        subst this
        intro x hx; cases hx
theorem tyA_pos (P : Pg) (op : Int) (nm : Str) (ty : Int) : ∀ (V L : Env) (i : Nat) (l : List Tm) (p : List Int), tyA P op nm ty V L i l = .inl p → ∀ x ∈ p, 0 ≤ x
  | V, L, i, [], p, h => by rw [tyA] at h; cases h
  | V, L, i, a :: r, p, h => by
    rw [tyA] at h
    cases ha : tyT P (argV op nm ty i V) (argL op nm ty L) a with
    | inl q =>
      rw [ha] at h; simp at h; subst h
      intro x hx
      rcases List.mem_cons.1 hx with rfl | hx
      · omega
      · exact tyT_pos P _ _ a q ha x hx
    | inr y =>
      rw [ha] at h
      cases hr : tyA P op nm ty V L (i + 1) r with
      | inl q =>
        rw [hr] at h; simp at h; subst h
        exact tyA_pos P op nm ty V L (i + 1) r q hr
      | inr q => rw [hr] at h; simp at h
theorem tyC_pos (P : Pg) : ∀ (V L : Env) (i : Nat) (xs : List Xtor) (l : List (List Str × Tm)) (p : List Int), tyC P V L i xs l = .inl p → ∀ x ∈ p, 0 ≤ x
  | V, L, i, xs, [], p, h => by rw [tyC] at h; cases h
  | V, L, i, xs, (ns, t) :: r, p, h => by
    rw [tyC] at h
    cases ha : tyT P (bindE ns (prodL (xs.headD noXtor)) V) L t with
    | inl q =>
      rw [ha] at h; simp at h; subst h
      intro x hx
      rcases List.mem_cons.1 hx with rfl | hx
      · omega
      · exact tyT_pos P _ _ t q ha x hx
    | inr y =>
      rw [ha] at h
      cases hr : tyC P V L (i + 1) xs.tail r with
      | inl q =>
        rw [hr] at h; simp at h; subst h
        exact tyC_pos P V L (i + 1) xs.tail r q hr
      | inr q => rw [hr] at h; simp at h
end
theorem faultF_pos (P : Pg) : ∀ (l : List Fn) (i : Nat) (j : Nat) (p : List Int), faultF P i l = some (j, p) → ∀ x ∈ p, 0 ≤ x
  | [], i, j, p, h => by rw [faultF] at h; cases h
  | f :: r, i, j, p, h => by
    rw [faultF] at h
    cases ht : tyT P (linkL f.ps) [] f.body with
    | inl q =>
      rw [ht] at h; simp at h
      obtain ⟨rfl, rfl⟩ := h
      exact tyT_pos P _ _ f.body _ ht
    | inr y =>
      rw [ht] at h
      simp only at h
      split at h
      · exact faultF_pos P r (i + 1) j p h
      · simp at h
        obtain ⟨rfl, rfl⟩ := h
        intro x hx; cases hx
/-- What Fault returns, whichever way. -/
theorem FaultX_any (P : Pg) (vd vf : Value) (w : World) (hd : RDecls w vd P.decls) (hf : RFns w vf P.funs) (hfine : FinePg P) :
    Calls Tryz.prog 10 #[pV vd vf] w fun e w' => (∃ (i e2 : Int) (v : Value) (p : List Int) (fd : Bool), e = .returned (.tuple #[.int .i64 i, v, .bool fd, .int .i64 e2]) ∧ OwnL w' w.heap.size v p ∧ ∀ x ∈ p, 0 ≤ x) ∧ Ext w w' := by
  refine (Fault_any P vd vf w hd hf hfine).mono ?_
  rintro e w' ⟨h, hb⟩
  refine ⟨?_, hb⟩
  have hnil : OwnL w' w.heap.size (.slice none 0 0) [] := ⟨rfl, .inl ⟨rfl, rfl⟩⟩
  split at h
  · cases hf : faultF P 0 P.funs with
    | none =>
      rw [hf] at h
      exact ⟨0, 0, _, [], false, h, hnil, fun x hx => by cases hx⟩
    | some ip =>
      obtain ⟨i, p⟩ := ip
      rw [hf] at h
      obtain ⟨v, rfl, ho⟩ := h
      exact ⟨i, 0, v, p, true, rfl, ho, faultF_pos P _ _ _ _ hf⟩
  · exact ⟨0, 20, _, [], false, h, hnil, fun x hx => by cases hx⟩
theorem TypeX_any (P : Pg) (vd vf v1 v2 : Value) (vs ls : List Prm) (k : Nat) (t : Tm) (va vc : Value) (w : World) (hd : RDecls w vd P.decls) (hf : RFns w vf P.funs) (hfine : FinePg P)
    (h1 : RPrms w v1 vs) (h2 : RPrms w v2 ls) (hl1 : vs.length ≤ 2200000) (hl2 : ls.length ≤ 2200000) (ht : RT w k t va vc) (hft : FineT t) (hw : vs.length + ls.length + wT t ≤ maxLen) (hu : uT t ≤ 1000000000) :
    Calls Tryz.prog 15 #[pV vd vf, v1, v2, tV t va vc] w fun e w' => (∃ a b : Int, e = .returned (.tuple #[.int .i64 a, .int .i64 b])) ∧ Ext w w' := by
  refine (Typec_any P vd vf v1 v2 vs ls k t va vc w hd hf hfine h1 h2 hl1 hl2 ht hft hw hu).mono ?_
  rintro e w' ⟨h, hb⟩
  refine ⟨?_, hb⟩
  unfold TypeR at h
  split at h
  · exact ⟨_, _, h⟩
  · split at h
    · obtain ⟨fv, fl, -, -, -, -, rfl⟩ := h
      split
      · exact ⟨_, _, rfl⟩
      · exact ⟨_, _, rfl⟩
    · exact ⟨_, _, h⟩
end Go.Proofs.YtogmjgccopmplaaGreat

/- law.go of layer 4: only. -/
namespace Go.Proofs.YtogmjgccopmplaaGreat
open Go.RowKit

def onlyL (l : List Prm) (us : List Str) : List Prm := l.filter fun a => hasS us a.nm
theorem onlyL_step {l : List Prm} {us : List Str} {j : Nat} (h : j < l.length) : onlyL (l.take (j + 1)) us = onlyL (l.take j) us ++ (if hasS us (l[j]).nm then [l[j]] else []) := by
  unfold onlyL
  rw [List.take_succ_eq_append_getElem h, List.filter_append]
  cases hq : hasS us (l[j]).nm <;> simp [hq]
theorem onlyL_le (l : List Prm) (us : List Str) (j : Nat) : (onlyL (l.take j) us).length ≤ j := by
  unfold onlyL
  exact Nat.le_trans (List.length_filter_le _ _) (by simp; omega)
theorem prmCells_snoc (a : Prm) : ∀ l : List Prm, prmCells (l ++ [a]) = prmCells l ++ [.string a.nm, .int .i64 a.ty]
  | [] => rfl
  | b :: r => by rw [List.cons_append, prmCells, prmCells, prmCells_snoc a r]; rfl
theorem Tryz.undPrm : Tryz.prog.underlying 37 = some (.slice 74) := by kernel_rfl
theorem Tryz.infoPrm : (Tryz.prog.info? 74).map (fun i => (i.zero, i.size, i.bytes)) = some (some (.agg #[.string ⟨#[]⟩, .int .i64 0]), 2, 24) := by kernel_rfl

set_option maxHeartbeats 4000000 in
set_option maxRecDepth 100000 in
theorem only_any (vl vu : Value) (l : List Prm) (us : List Str) (w : World) (hl : RPrms w vl l) (hu : RStrs w vu us) (hn : l.length ≤ 100000000) :
    Calls Tryz.prog 22 #[vl, vu] w fun e w' => (∃ v, e = .returned v ∧ RPrms w' v (onlyL l us)) ∧ Ext w w' := by
  have H := Lib.hid hl; have HU := Lib.hid hu
  have HSZ := Lib.hid (sizes_p hl)
  obtain ⟨A, c, rfl, hc, hm⟩ := hl.form
  obtain ⟨A2, c2, rfl, hc2, hm2⟩ := hu.form
  clear hl hu
  unfold maxLen at hm hm2
  go_enter Tryz.func22, Tryz.ntmps22
  go_wp2
  go_loopw [5, 10] (fun s i wr => ∃ j : Nat, j ≤ l.length ∧ i = .int .i64 j ∧ wr.ownsRow w.heap.size 74 2 s (onlyL (l.take j) us).length (prmCells (onlyL (l.take j) us)) ∧ Ext w wr) (fun _ i _ => l.length - (intOf i).toNat)
  case atStart => exact ⟨0, Nat.zero_le _, rfl, ⟨by simp [onlyL, prmCells], .inl ⟨rfl, by simp [onlyL]⟩⟩, Ext.rf _⟩
  case round =>
    obtain ⟨j, hj, rfl, ho, hb⟩ := hrel
    have HO := Lib.hid ho; have HX := Lib.hid hb
    clear ho hb
    by_cases hlt : j < l.length
    · obtain ⟨b, o, rfl, hbl, y0, y1, hsz⟩ := H.out.at_ hlt
      have y0 := HX.out.keep y0
      have y1 := HX.out.keep y1
      have HLS := Lib.hid (onlyL_step (us := us) hlt)
      have HLE := Lib.hid (onlyL_le l us j)
      generalize l[j] = a at *
      have HE8 := Lib.hid (Ext.al wr (.cells #[.string a.nm, .int .i64 a.ty] 74))
      have HB8 := Lib.hid (heapNew wr (.cells #[.string a.nm, .int .i64 a.ty] 74))
      go_wp2_with fail
      (with_reducible refine (In_any _ us a.nm _ (HU.out.below (HX.out.tr HE8.out))).mono ?_)
      rintro e w2 ⟨rfl, rfl⟩
      cases hq : hasS us a.nm
      · have HOJ : Hid (World.ownsRow (wr.alloc (.cells #[.string a.nm, .int .i64 a.ty] 74)) w.heap.size 74 2 u5 (onlyL (l.take (j + 1)) us).length (prmCells (onlyL (l.take (j + 1)) us))) := by
          show World.ownsRow _ _ _ _ _ _ _
          rw [HLS.out, hq]
          simp only [Bool.false_eq_true, if_false, List.append_nil]
          exact own_below HO.out HE8.out
        clear hq
        go_wp2
        exact ⟨⟨j + 1, by omega, by go_num, HOJ.out, HX.out.tr HE8.out⟩, by simp [intOf]; omega⟩
      · have HQ := Lib.hid hq
        clear hq
        have HE9 := Lib.hid (HE8.out.tr (Ext.al (wr.alloc (.cells #[.string a.nm, .int .i64 a.ty] 74)) (.cells #[.string a.nm, .int .i64 a.ty] 74)))
        have hn9 := heapNew (wr.alloc (.cells #[.string a.nm, .int .i64 a.ty] 74)) (.cells #[.string a.nm, .int .i64 a.ty] 74)
        rw [World.size_alloc] at hn9
        have HSO : Hid (SrcN _ (some ⟨wr.heap.size + 1, 0, none⟩) 1 2 [.string a.nm, .int .i64 a.ty]) := .inr ⟨_, rfl, rfl, fun i u hu => by
          have hi : i < 2 := (List.getElem?_eq_some_iff.1 hu).1
          rw [add_at, Nat.zero_add]
          match i, hi with
          | 0, _ => exact (cellAt hn9 0).trans hu
          | 1, _ => exact (cellAt hn9 1).trans hu⟩
        clear hn9
        have c0 := cellAt HB8.out 0
        have c1 := cellAt HB8.out 1
        obtain ⟨nl, hnl⟩ : ∃ nl, (onlyL (l.take j) us).length = nl := ⟨_, rfl⟩
        obtain ⟨cl, hcl⟩ : ∃ cl, prmCells (onlyL (l.take j) us) = cl := ⟨_, rfl⟩
        have HNL := Lib.hid hnl; have HCL := Lib.hid hcl
        have HO9 : Hid (World.ownsRow ((wr.alloc (.cells #[.string a.nm, .int .i64 a.ty] 74)).alloc (.cells #[.string a.nm, .int .i64 a.ty] 74)) w.heap.size 74 2 u5 nl cl) := by
          rw [← hnl, ← hcl]; exact own_below HO.out HE9.out
        have hle : nl ≤ j := by rw [← hnl]; exact HLE.out
        clear hnl hcl
        go_wp2_with (at_builtin; refine app_vals Tryz.undPrm Tryz.infoPrm (by decide) (by decide) (by decide) rfl _ _ rfl w.heap.size _ nl cl rfl HO9.out (some ⟨wr.heap.size + 1, 0, none⟩) 1 1 [.string a.nm, .int .i64 a.ty] rfl HSO.out (fun u hu => by simp at hu; rcases hu with rfl | rfl <;> rfl) (by omega) (HX.out.tr HE9.out).size ?_)
        intro v9 w9 ho9 hg9
        have HX9 : Hid (Ext w w9) := (HX.out.tr HE9.out).trans (grown_ext' hg9 HO9.out (HX.out.tr HE9.out).size)
        have HOJ : Hid (World.ownsRow w9 w.heap.size 74 2 v9 (onlyL (l.take (j + 1)) us).length (prmCells (onlyL (l.take (j + 1)) us))) := by
          show World.ownsRow _ _ _ _ _ _ _
          rw [HLS.out, HQ.out]
          simp only [if_true]
          rw [List.length_append, HNL.out]
          have h1 : prmCells (onlyL (l.take j) us ++ [a]) = cl ++ [.string a.nm, .int .i64 a.ty] := by
            rw [← HCL.out, prmCells_snoc]
          rw [h1]
          exact ho9
        clear ho9 hg9 c0 c1
        go_wp2
        exact ⟨⟨j + 1, by omega, by go_num, HOJ.out, HX9.out⟩, by simp [intOf]; omega⟩
    · have HP : Hid (RPrms wr u5 (onlyL l us)) := by
        have h1 := HO.out
        rw [List.take_of_length_le (by omega)] at h1
        exact own_prms h1 (fun a ha => HSZ.out a (List.mem_filter.1 ha).1)
      obtain ⟨A', c', hv, -⟩ := HP.out.form
      subst hv
      go_wp2
      go_ret
      exact ⟨⟨_, rfl, HP.out⟩, HX.out⟩
end Go.Proofs.YtogmjgccopmplaaGreat

/- The reference of layer 4: with. -/
namespace Go.Proofs.YtogmjgccopmplaaGreat
open Go.RowKit

theorem prmCells_appd : ∀ l m : List Prm, prmCells (l ++ m) = prmCells l ++ prmCells m
  | [], _ => rfl
  | a :: r, m => by rw [List.cons_append, prmCells, prmCells_appd r m]; rfl

set_option maxHeartbeats 2000000 in
set_option maxRecDepth 100000 in
theorem refWith_any (v1 v2 : Value) (l m : List Prm) (w : World) (h1 : RPrms w v1 l) (h2 : RPrms w v2 m) (hl : l.length ≤ 100000000) (hm : m.length ≤ 100000000) :
    Calls Tryz.prog 100 #[v1, v2] w fun e w' => (∃ v, e = .returned v ∧ RPrms w' v (l ++ m)) ∧ Ext w w' := by
  have H1 := Lib.hid h1; have H2 := Lib.hid h2
  have HS1 := Lib.hid (sizes_p h1); have HS2 := Lib.hid (sizes_p h2)
  obtain ⟨A1, c1, rfl, hc1, hm1⟩ := h1.form
  obtain ⟨A2, c2, rfl, hc2, hm2⟩ := h2.form
  clear h1 h2
  go_enter Tryz.func100, Tryz.ntmps100
  go_wp2_with (at_builtin; refine app_vals Tryz.undPrm Tryz.infoPrm (by decide) (by decide) (by decide) rfl _ _ rfl w.heap.size (.slice none 0 0) 0 [] rfl ⟨rfl, .inl ⟨rfl, rfl⟩⟩ A1 l.length c1 (prmCells l) rfl H1.out.src (prmCells_one l) (by omega) (Nat.le_refl _) ?_)
  intro v3 w3 ho3 hg3
  have HO3 : Hid (World.ownsRow w3 w.heap.size 74 2 v3 l.length (prmCells l)) := Lib.hid (by simpa using ho3)
  have HX3 : Hid (Ext w w3) := Below.grown (Below.refl _ _) hg3 (Nat.le_refl _) (fun k e => by cases e)
  clear ho3 hg3
  go_wp2_with (at_builtin; refine app_vals Tryz.undPrm Tryz.infoPrm (by decide) (by decide) (by decide) rfl _ _ rfl w.heap.size _ l.length (prmCells l) rfl HO3.out A2 m.length c2 (prmCells m) rfl (H2.out.below HX3.out).src (prmCells_one m) (by omega) HX3.out.size ?_)
  intro v4 w4 ho4 hg4
  have HX4 : Hid (Ext w w4) := HX3.out.trans (grown_ext' hg4 HO3.out HX3.out.size)
  have hp : RPrms w4 v4 (l ++ m) := own_prms (B := w.heap.size) (by rw [List.length_append, prmCells_appd]; exact ho4) (fun a ha => (List.mem_append.1 ha).elim (HS1.out a) (HS2.out a))
  have HP := Lib.hid hp
  obtain ⟨A4, c4, rfl, -⟩ := hp.form
  clear ho4 hg4 hp
  go_wp2
  go_ret
  exact ⟨⟨_, rfl, HP.out⟩, HX4.out⟩
end Go.Proofs.YtogmjgccopmplaaGreat
