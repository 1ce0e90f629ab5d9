/- ref.go: what the search has found so far, with the lists in memory. -/
import Derived.Test.YtogmjgccopmplaaGreatQ10
namespace Go.Proofs.YtogmjgccopmplaaGreat
open Go.RowKit
/-- What the search answers. -/
structure FRes (lv ll la lb : List Str) (t : Tm) (w : World) (r1 r2 : Value) (l1 l2 : List Str) : Prop where
  s1 : RStrs w r1 l1
  s2 : RStrs w r2 l2
  o1 : SortedS l1
  o2 : SortedS l2
  m1 : ∀ k, k ∈ l1 ↔ k ∈ la ∨ (hasS lv k = false ∧ fvT t k = true)
  m2 : ∀ k, k ∈ l2 ↔ k ∈ lb ∨ (hasS ll k = false ∧ flT t k = true)
  n1 : l1.length ≤ la.length + uT t
  n2 : l2.length ≤ lb.length + uT t
/-- What has been found in the parts seen. -/
structure FInv (lv ll la lb : List Str) (pre : List (Bnd × Tm)) (w : World) (r1 r2 : Value) (l1 l2 : List Str) : Prop where
  s1 : RStrs w r1 l1
  s2 : RStrs w r2 l2
  o1 : SortedS l1
  o2 : SortedS l2
  m1 : AccV la lv pre l1
  m2 : AccL lb ll pre l2
  n1 : l1.length ≤ la.length + uK pre
  n2 : l2.length ≤ lb.length + uK pre
theorem FInv.step {lv ll la lb : List Str} {pre : List (Bnd × Tm)} {w w' : World} {r1 r2 q1 q2 : Value} {l1 l2 m1 m2 : List Str} {y : Bnd × Tm} (h : FInv lv ll la lb pre w r1 r2 l1 l2)
    (g : FRes (lv ++ vnames y.1) (ll ++ lnames y.1) l1 l2 y.2 w' q1 q2 m1 m2) : FInv lv ll la lb (pre ++ [y]) w' q1 q2 m1 m2 :=
  ⟨g.s1, g.s2, g.o1, g.o2, h.m1.step g.m1, h.m2.step g.m2, by have := h.n1; have := g.n1; rw [uK_append]; simp [uK]; omega, by have := h.n2; have := g.n2; rw [uK_append]; simp [uK]; omega⟩
theorem FInv.below {lv ll la lb : List Str} {pre : List (Bnd × Tm)} {w w' : World} {r1 r2 : Value} {l1 l2 : List Str} (h : FInv lv ll la lb pre w r1 r2 l1 l2) (hb : Ext w w') : FInv lv ll la lb pre w' r1 r2 l1 l2 :=
  ⟨h.s1.below hb, h.s2.below hb, h.o1, h.o2, h.m1, h.m2, h.n1, h.n2⟩
/-- The parts before the argument j, and with it. -/
def preA (t : Tm) (j : Nat) : List (Bnd × Tm) := (kidsFrom t.op t.nm 0 t.args).take j
def preC (t : Tm) (j : Nat) : List (Bnd × Tm) := kidsFrom t.op t.nm 0 t.args ++ (t.cls.map fun c => ((c.1, false), c.2)).take j
theorem vn_len (b : Bnd) : (vnames b).length ≤ b.1.length := by unfold vnames; split <;> simp
theorem ln_len (b : Bnd) : (lnames b).length ≤ b.1.length := by unfold lnames; split <;> simp
theorem vn_8 {op : Int} {nm : Str} {i : Nat} (h : op = 8) (hi : i = 1) : vnames (bndAt op nm i) = [nm] ∧ lnames (bndAt op nm i) = [] := by rw [bnd_8 h hi]; exact ⟨rfl, rfl⟩
theorem vn_11 {op : Int} {nm : Str} {i : Nat} (h : op = 11) (hi : i = 0) : vnames (bndAt op nm i) = [] ∧ lnames (bndAt op nm i) = [nm] := by rw [bnd_11 h hi]; exact ⟨rfl, rfl⟩
theorem vn_no {op : Int} {nm : Str} {i : Nat} (h1 : ¬ (op = 8 ∧ i = 1)) (h2 : ¬ (op = 11 ∧ i = 0)) : vnames (bndAt op nm i) = [] ∧ lnames (bndAt op nm i) = [] := by rw [bnd_no h1 h2]; exact ⟨rfl, rfl⟩
/-- Where the search's loops begin. -/
structure FStart (lv ll la lb : List Str) (t : Tm) (w1 w5 : World) (r1 r2 : Value) (la1 lb1 : List Str) : Prop where
  inv : FInv lv ll la1 lb1 [] w5 r1 r2 la1 lb1
  ext : Ext w1 w5
  ma : ∀ k, k ∈ la1 ↔ k ∈ la ∨ (t.op = 0 ∧ hasS lv k = false ∧ k = t.nm)
  mb : ∀ k, k ∈ lb1 ↔ k ∈ lb ∨ (t.op = 12 ∧ hasS ll k = false ∧ k = t.nm)
  na : la1.length ≤ la.length + 1
  nb : lb1.length ≤ lb.length + 1
theorem FStart.var {lv ll la lb la1 : List Str} {t : Tm} {w w' : World} {r1 r2 : Value} (hx : Ext w w') (h1 : RStrs w' r1 la1) (h2 : RStrs w r2 lb) (o1 : SortedS la1) (o2 : SortedS lb) (hm : ∀ k, k ∈ la1 ↔ k ∈ la ∨ k = t.nm) (hn : la1.length ≤ la.length + 1)
    (h0 : t.op = 0) (hq : hasS lv t.nm = false) : FStart lv ll la lb t w w' r1 r2 la1 lb :=
  ⟨⟨h1, h2.below hx, o1, o2, AccV.zero _ _, AccL.zero _ _, Nat.le_add_right _ _, Nat.le_add_right _ _⟩, hx, fun k => by
    rw [hm k]
    constructor
    · rintro (h | rfl)
      · exact .inl h
      · exact .inr ⟨h0, hq, rfl⟩
    · rintro (h | ⟨-, -, h⟩)
      · exact .inl h
      · exact .inr h, fun k => ⟨.inl, fun h => h.elim id (fun ⟨h, _⟩ => by rw [h0] at h; cases h)⟩, hn, Nat.le_succ _⟩
theorem FStart.lab {lv ll la lb lb1 : List Str} {t : Tm} {w w' : World} {r1 r2 : Value} (hx : Ext w w') (h1 : RStrs w r1 la) (h2 : RStrs w' r2 lb1) (o1 : SortedS la) (o2 : SortedS lb1) (hm : ∀ k, k ∈ lb1 ↔ k ∈ lb ∨ k = t.nm) (hn : lb1.length ≤ lb.length + 1)
    (h0 : t.op = 12) (hq : hasS ll t.nm = false) : FStart lv ll la lb t w w' r1 r2 la lb1 :=
  ⟨⟨h1.below hx, h2, o1, o2, AccV.zero _ _, AccL.zero _ _, Nat.le_add_right _ _, Nat.le_add_right _ _⟩, hx, fun k => ⟨.inl, fun h => h.elim id (fun ⟨h, _⟩ => by rw [h0] at h; cases h)⟩, fun k => by
    rw [hm k]
    constructor
    · rintro (h | rfl)
      · exact .inl h
      · exact .inr ⟨h0, hq, rfl⟩
    · rintro (h | ⟨-, -, h⟩)
      · exact .inl h
      · exact .inr h, Nat.le_succ _, hn⟩
end Go.Proofs.YtogmjgccopmplaaGreat

/- How many nodes a term has, and how deep it is; rows of terms. -/
namespace Go.Proofs.YtogmjgccopmplaaGreat
open Go.RowKit
def nT (t : Tm) : Nat := (nodesL 1 t).length
def chT (t : Tm) : List Tm := t.args ++ t.cls.map (·.2)
def nL : List Tm → Nat
  | [] => 0
  | x :: r => nT x + nL r
theorem kids_chT (t : Tm) : (kids t).map (·.2) = chT t := by
  have h : ∀ (l : List Tm) (i : Nat), (kidsFrom t.op t.nm i l).map (·.2) = l := by
    intro l
    induction l with
    | nil => intro i; rfl
    | cons a r ih => intro i; simp [kidsFrom, ih]
  unfold kids chT
  rw [List.map_append, h, List.map_map]; rfl
theorem len_same : ∀ (n : Nat) (t : Tm) (d : Int), uT t ≤ n → (nodesL d t).length = nT t := by
  intro n
  induction n with
  | zero => intro t d hu; rw [uT_kids] at hu; omega
  | succ n ih =>
    intro t d hu
    have hk := uT_kids t
    have h : ∀ (l : List (Bnd × Tm)) (d e : Int), uK l ≤ n → (nodesK d l).length = (nodesK e l).length := by
      intro l
      induction l with
      | nil => intro d e _; rfl
      | cons x r ihr =>
        intro d e hl
        rw [uK] at hl
        rw [nodesK, nodesK, List.length_append, List.length_append, ih x.2 d (by omega), ih x.2 e (by omega), ihr d e (by omega)]
    unfold nT
    rw [nodesL_kids, nodesL_kids, List.length_cons, List.length_cons, h (kids t) (d + 1) (1 + 1) (by omega)]
theorem nodesK_len (d : Int) : ∀ l : List (Bnd × Tm), (nodesK d l).length = nL (l.map (·.2))
  | [] => rfl
  | x :: r => by rw [nodesK, List.length_append, len_same _ x.2 d (Nat.le_refl _), nodesK_len d r]; rfl
theorem nT_kids (t : Tm) : nT t = 1 + nL (chT t) := by
  unfold nT
  rw [nodesL_kids, List.length_cons, nodesK_len, kids_chT]; omega
theorem nT_pos (t : Tm) : 1 ≤ nT t := by rw [nT_kids]; omega
theorem nL_append (m : List Tm) : ∀ l, nL (l ++ m) = nL l + nL m
  | [] => by simp [nL]
  | x :: r => by rw [List.cons_append, nL, nL, nL_append m r]; omega
theorem nL_len : ∀ l : List Tm, l.length ≤ nL l
  | [] => Nat.zero_le _
  | x :: r => by rw [nL]; have := nT_pos x; have := nL_len r; simp only [List.length_cons]; omega
theorem nL_take {l : List Tm} {j : Nat} (h : j < l.length) : nL (l.take (j + 1)) = nL (l.take j) + nT l[j] := by
  rw [List.take_succ_eq_append_getElem h, nL_append]; simp [nL]
theorem nL_take_le (l : List Tm) (j : Nat) : nL (l.take j) ≤ nL l := by
  have := nL_append (l.drop j) (l.take j)
  rw [List.take_append_drop] at this; omega
theorem nL_mem {l : List Tm} {x : Tm} (h : x ∈ l) : nT x ≤ nL l := by
  obtain ⟨p, q, rfl⟩ := List.append_of_mem h
  rw [nL_append, nL]; omega
mutual
def dT : Tm → Int
  | .mk _ _ _ _ args cls => 1 + max (dA args) (dC cls)
def dA : List Tm → Int
  | [] => 0
  | a :: r => max (dT a) (dA r)
def dC : List (List Str × Tm) → Int
  | [] => 0
  | (_, t) :: r => max (dT t) (dC r)
end
def dL : List Tm → Int
  | [] => 0
  | a :: r => max (dT a) (dL r)
theorem dL_nonneg : ∀ l, 0 ≤ dL l
  | [] => Int.le_refl _
  | a :: r => by rw [dL]; have := dL_nonneg r; omega
theorem dL_append (m : List Tm) : ∀ l, dL (l ++ m) = max (dL l) (dL m)
  | [] => by have := dL_nonneg m; simp only [List.nil_append, dL]; omega
  | x :: r => by rw [List.cons_append, dL, dL, dL_append m r]; omega
theorem dA_dL : ∀ l, dA l = dL l
  | [] => by simp [dA, dL]
  | a :: r => by rw [dA, dL, dA_dL r]
theorem dC_dL : ∀ l : List (List Str × Tm), dC l = dL (l.map (·.2))
  | [] => by simp [dC, dL]
  | (_, t) :: r => by rw [dC, dC_dL r]; rfl
theorem dT_kids (t : Tm) : dT t = 1 + dL (chT t) := by
  cases t with
  | mk op n nm ty args cls => rw [dT, dA_dL, dC_dL, chT, dL_append]; rfl
theorem dL_take {l : List Tm} {j : Nat} (h : j < l.length) : dL (l.take (j + 1)) = max (dL (l.take j)) (dT l[j]) := by
  rw [List.take_succ_eq_append_getElem h, dL_append]
  have := dL_nonneg (l.take j)
  simp only [dL]; omega
theorem dL_le : ∀ (n : Int) (l : List Tm), 0 ≤ n → (dL l ≤ n ↔ ∀ x ∈ l, dT x ≤ n)
  | n, [], h => by simp [dL, h]
  | n, a :: r, h => by
    have := dL_le n r h
    rw [dL]
    constructor
    · intro h1 x hx
      rcases List.mem_cons.1 hx with rfl | hx
      · omega
      · exact this.1 (by omega) x hx
    · intro h1
      have h2 := h1 a (List.mem_cons_self ..)
      have h3 := this.2 (fun x hx => h1 x (List.mem_cons_of_mem _ hx))
      omega
theorem uT_ch {t x : Tm} (h : x ∈ chT t) : uT x < uT t := by
  rw [← kids_chT] at h
  obtain ⟨y, hy, rfl⟩ := List.mem_map.1 h
  have := uT_kid hy; omega
theorem dT_pos (t : Tm) : 1 ≤ dT t := by rw [dT_kids]; have := dL_nonneg (chT t); omega
theorem dep_all : ∀ (n : Nat) (t : Tm) (d N : Int), uT t ≤ n → ((∀ y ∈ nodesL d t, y.1 ≤ N) ↔ d + dT t - 1 ≤ N) := by
  intro n
  induction n with
  | zero => intro t d N hu; rw [uT_kids] at hu; omega
  | succ n ih =>
    intro t d N hu
    rw [nodesL_kids, dT_kids]
    have h0 := dL_nonneg (chT t)
    constructor
    · intro h
      have h1 := h (d, t) (List.mem_cons_self ..)
      dsimp only at h1
      have h2 : dL (chT t) ≤ N - d := (dL_le _ _ (by omega)).2 (fun x hx => by
        have hx' := hx
        rw [← kids_chT] at hx
        obtain ⟨y, hy, rfl⟩ := List.mem_map.1 hx
        have h3 := (ih y.2 (d + 1) N (by have := uT_ch hx'; omega)).1 (fun z hz => h z (List.mem_cons_of_mem _ (by
          obtain ⟨p, q, e⟩ := List.append_of_mem hy
          rw [e, nodesK_append]
          exact List.mem_append_right _ (List.mem_append_left _ hz))))
        omega)
      omega
    · intro h y hy
      rcases List.mem_cons.1 hy with rfl | hy
      · dsimp only; omega
      · obtain ⟨x, hx, hy⟩ := nodesK_mem hy
        have hx' : x.2 ∈ chT t := by rw [← kids_chT]; exact List.mem_map.2 ⟨x, hx, rfl⟩
        have h4 := (dL_le (N - d) (chT t) (by omega)).1 (by omega) x.2 hx'
        exact (ih x.2 (d + 1) N (by have := uT_ch hx'; omega)).2 (by omega) y hy
theorem size_small (t : Tm) : (sizeR t).2 = (decide (nT t ≤ 600) && decide (dT t ≤ 24)) := by
  have h : sizeOK (nodesL 1 t) = (decide (nT t ≤ 600) && decide (dT t ≤ 24)) := by
    unfold sizeOK
    have h1 := dep_all _ t 1 24 (Nat.le_refl _)
    have h2 : (nodesL 1 t).all (fun p => decide (p.1 ≤ 24)) = decide (dT t ≤ 24) := by
      rw [Bool.eq_iff_iff, List.all_eq_true, decide_eq_true_eq]
      simp only [decide_eq_true_eq]
      rw [h1]; omega
    rw [h2]; rfl
  unfold sizeR
  rw [h]
  cases (decide (nT t ≤ 600) && decide (dT t ≤ 24)) <;> rfl
theorem size_num {t : Tm} (h : (sizeR t).2 = true) : (sizeR t).1 = nT t := by
  unfold sizeR at *
  split
  · rfl
  · rename_i h1; rw [if_neg h1] at h; cases h
abbrev Trm := Tm × Value × Value
def cells1 (x : Trm) : List Value := [.int .i64 x.1.op, .int .i64 x.1.n, .string x.1.nm, .int .i64 x.1.ty, x.2.1, x.2.2]
def cellsT : List Trm → List Value
  | [] => []
  | x :: r => cells1 x ++ cellsT r
theorem cellsT_append (m : List Trm) : ∀ l, cellsT (l ++ m) = cellsT l ++ cellsT m
  | [] => rfl
  | x :: r => by rw [List.cons_append, cellsT, cellsT, cellsT_append m r, List.append_assoc]
theorem cellsT_len : ∀ l, (cellsT l).length = l.length * 6
  | [] => rfl
  | x :: r => by rw [cellsT, List.length_append, cellsT_len r]; simp [cells1]; omega
theorem cellsT_at : ∀ (l : List Trm) (i r : Nat) (x : Trm), l[i]? = some x → r < 6 → (cellsT l)[i * 6 + r]? = (cells1 x)[r]?
  | [], _, _, _, h, _ => by simp at h
  | y :: l, 0, r, x, h, hr => by
    simp at h; subst h
    rw [cellsT, List.getElem?_append_left (by simp [cells1]; omega)]; simp
  | y :: l, i + 1, r, x, h, hr => by
    simp at h
    rw [cellsT, List.getElem?_append_right (by simp [cells1]; omega), ← cellsT_at l i r x h hr]
    congr 1; simp [cells1]; omega
def RTms (w : World) (k : Nat) (v : Value) (l : List Tm) : Prop :=
  ∃ A c, v = .slice A l.length c ∧ l.length ≤ c ∧ c ≤ maxLen ∧
    ∀ i x, l[i]? = some x → ∃ b o xa xc, A = some ⟨b, o, none⟩ ∧ b < w.heap.size ∧ C6 w b (o + i * 6) x xa xc ∧ RT w k x xa xc
theorem RTms.below {w w' : World} {k : Nat} {v : Value} {l : List Tm} (h : RTms w k v l) (hb : Ext w w') : RTms w' k v l := by
  obtain ⟨A, c, rfl, h1, h2, h3⟩ := h
  refine ⟨A, c, rfl, h1, h2, fun i x hi => ?_⟩
  obtain ⟨b, o, xa, xc, rfl, hlt, hc, hr⟩ := h3 i x hi
  exact ⟨b, o, xa, xc, rfl, Nat.lt_of_lt_of_le hlt hb.size, hc.below hb, hr.below hb⟩
theorem RTms.form {w : World} {k : Nat} {v : Value} {l : List Tm} (h : RTms w k v l) : ∃ A c, v = .slice A l.length c ∧ l.length ≤ c ∧ c ≤ maxLen := by
  obtain ⟨A, c, h1, h2, h3, _⟩ := h; exact ⟨A, c, h1, h2, h3⟩
theorem RTms.at_ {w : World} {k : Nat} {l : List Tm} {A : Option Addr} {c : Nat} (h : RTms w k (.slice A l.length c) l) {i : Nat} (hi : i < l.length) :
    ∃ b o xa xc, A = some ⟨b, o, none⟩ ∧ b < w.heap.size ∧ C6 w b (o + i * 6) l[i] xa xc ∧ RT w k l[i] xa xc := by
  obtain ⟨A', c', he, h1, h2, h3⟩ := h
  cases he
  exact h3 i _ (List.getElem?_eq_getElem hi)
theorem own_RTms {w : World} {B k : Nat} {v : Value} {L : List Trm} (h : w.ownsRow B 41 6 v L.length (cellsT L)) (hr : ∀ x ∈ L, RT w k x.1 x.2.1 x.2.2) : RTms w k v (L.map (·.1)) := by
  rcases h.2 with ⟨rfl, h0⟩ | ⟨g, cap, cur, rfl, e2, e3, e4, e5, e6, e7⟩
  · have hL : L = [] := List.eq_nil_of_length_eq_zero h0
    subst hL
    exact ⟨none, 0, rfl, Nat.le_refl _, Nat.zero_le _, fun i x hx => by simp at hx⟩
  · refine ⟨_, cap, by rw [List.length_map], by rw [List.length_map]; exact e4, e5, fun i x hx => ?_⟩
    rw [List.getElem?_map] at hx
    obtain ⟨y, hy, rfl⟩ := Option.map_eq_some_iff.1 hx
    have hi : i < L.length := (List.getElem?_eq_some_iff.1 hy).1
    have hc : ∀ r u, r < 6 → (cells1 y)[r]? = some u → w.cell? ⟨g, i * 6 + r, none⟩ = some u := fun r u hr6 hu => by
      have h1 := cellsT_at L i r y hy hr6
      rw [World.ownsRow.cellAt h (i * 6 + r) (by omega), h1]; exact hu
    exact ⟨g, 0, y.2.1, y.2.2, rfl, (Array.getElem?_eq_some_iff.1 e3).1, by
      rw [Nat.zero_add]
      exact ⟨hc 0 _ (by omega) rfl, hc 1 _ (by omega) rfl, hc 2 _ (by omega) rfl, hc 3 _ (by omega) rfl, hc 4 _ (by omega) rfl, hc 5 _ (by omega) rfl⟩, hr y (List.mem_of_getElem? hy)⟩
theorem RT.rowA {w : World} {k : Nat} {t : Tm} {A : Option Addr} {c : Nat} {vc : Value} (h : RT w (k + 1) t (.slice A t.args.length c) vc) : ∃ L : List Trm, L.map (·.1) = t.args ∧ (∀ x ∈ L, RT w k x.1 x.2.1 x.2.2) ∧ SrcN w A t.args.length 6 (cellsT L) := by
  have hex : ∀ i, i < t.args.length → ∃ y : Trm, t.args[i]? = some y.1 ∧ RT w k y.1 y.2.1 y.2.2 ∧ ∃ b o, A = some ⟨b, o, none⟩ ∧ C6 w b (o + i * 6) y.1 y.2.1 y.2.2 := fun i hi => by
    obtain ⟨b, o, xa, xc, e, _, hc, hr⟩ := h.arg hi
    exact ⟨(t.args[i], xa, xc), List.getElem?_eq_getElem hi, hr, b, o, e, hc⟩
  obtain ⟨L, hl, hp⟩ := list_of t.args.length hex
  have hmap : L.map (·.1) = t.args := by
    apply List.ext_getElem? 
    intro i
    rw [List.getElem?_map]
    by_cases hi : i < L.length
    · rw [List.getElem?_eq_getElem hi, (hp i _ (List.getElem?_eq_getElem hi)).1]; rfl
    · rw [List.getElem?_eq_none (by omega), List.getElem?_eq_none (by omega)]; rfl
  refine ⟨L, hmap, fun x hx => ?_, ?_⟩
  · obtain ⟨i, hi⟩ := List.mem_iff_getElem?.1 hx
    exact (hp i x hi).2.1
  · cases L with
    | nil =>
      have h0 : t.args.length = 0 := by simpa using hl.symm
      cases A with
      | none => exact .inl ⟨rfl, h0, rfl⟩
      | some ad => exact .inr ⟨ad, rfl, by rw [h0]; rfl, fun j u hu => by simp [cellsT] at hu⟩
    | cons y r =>
      obtain ⟨_, _, b, o, rfl, _⟩ := hp 0 y rfl
      refine .inr ⟨_, rfl, by rw [cellsT_len, hl], fun j u hu => ?_⟩
      have hj : j < (cellsT (y :: r)).length := (List.getElem?_eq_some_iff.1 hu).1
      rw [cellsT_len] at hj
      have hi : j / 6 < (y :: r).length := by omega
      obtain ⟨_, _, b', o', e, hc⟩ := hp (j / 6) _ (List.getElem?_eq_getElem hi)
      cases e
      have hr6 : j % 6 < 6 := Nat.mod_lt _ (by omega)
      have hje : j = j / 6 * 6 + j % 6 := by omega
      rw [hje, cellsT_at _ _ _ _ (List.getElem?_eq_getElem hi) hr6] at hu
      rw [add_at, hje, ← Nat.add_assoc]
      generalize hq : j % 6 = q at *
      match q, hr6 with
      | 0, _ => rw [← Option.some.inj hu]; exact hc.c0
      | 1, _ => rw [← Option.some.inj hu]; exact hc.c1
      | 2, _ => rw [← Option.some.inj hu]; exact hc.c2
      | 3, _ => rw [← Option.some.inj hu]; exact hc.c3
      | 4, _ => rw [← Option.some.inj hu]; exact hc.c4
      | 5, _ => rw [← Option.some.inj hu]; exact hc.c5
theorem cellsT_one {w : World} {k : Nat} (L : List Trm) (h : ∀ x ∈ L, RT w k x.1 x.2.1 x.2.2) : ∀ u ∈ cellsT L, u.oneCell' = true := by
  induction L with
  | nil => intro u hu; cases hu
  | cons x r ih =>
    intro u hu
    rw [cellsT] at hu
    rcases List.mem_append.1 hu with hu | hu
    · obtain ⟨_, ⟨_, _, e1, _⟩, ⟨_, _, e2, _⟩⟩ := (h x (List.mem_cons_self ..)).form
      simp only [cells1, e1, e2, List.mem_cons, List.not_mem_nil, or_false] at hu
      rcases hu with rfl | rfl | rfl | rfl | rfl | rfl <;> rfl
    · exact ih (fun y hy => h y (List.mem_cons_of_mem _ hy)) u hu
end Go.Proofs.YtogmjgccopmplaaGreat

/- ref.go: left, Fits: what they answer. -/
namespace Go.Proofs.YtogmjgccopmplaaGreat
open Go.RowKit
def capI (n : Int) (c : Nat) : Int := max (n - c) 0
theorem preA_nL {t : Tm} {j : Nat} (hj : j < t.args.length) : nL ((chT t).take (j + 1)) = nL ((chT t).take j) + nT t.args[j] := by
  have h : j < (chT t).length := by unfold chT; rw [List.length_append]; omega
  rw [nL_take h]
  congr 1
  have : (chT t)[j] = t.args[j] := by simp [chT, List.getElem_append_left hj]
  rw [this]
theorem preC_nL {t : Tm} {j : Nat} (hj : j < t.cls.length) : nL ((chT t).take (t.args.length + (j + 1))) = nL ((chT t).take (t.args.length + j)) + nT (t.cls[j]).2 := by
  have h : t.args.length + j < (chT t).length := by unfold chT; rw [List.length_append, List.length_map]; omega
  rw [← Nat.add_assoc, nL_take h]
  congr 1
  have : (chT t)[t.args.length + j] = (t.cls[j]).2 := by simp [chT]
  rw [this]
theorem chT_all (t : Tm) : (chT t).take (t.args.length + t.cls.length) = chT t := by
  rw [List.take_of_length_le]; unfold chT; rw [List.length_append, List.length_map]; exact Nat.le_refl _
set_option maxHeartbeats 4000000 in
set_option maxRecDepth 100000 in
theorem leftX_any : ∀ (k : Nat) (t : Tm) (va vc : Value) (n : Int) (w : World), RT w k t va vc → -1000000000000 ≤ n → n ≤ 1000000000000 →
    Calls Tryz.prog 38 #[tV t va vc, .int .i64 n] w fun e w' => e = .returned (.int .i64 (capI n (nT t))) ∧ Ext w w' := by
  intro k
  induction k with
  | zero => intro t va vc n w ht; exact ht.elim
  | succ k ih =>
    intro t va vc n w ht hn0 hn1
    have HT := Lib.hid ht; have HIH := Lib.hid ih
    obtain ⟨_, ⟨Aa, ca, rfl, hca, hma⟩, ⟨Bb, cb, rfl, hcb, hmb⟩⟩ := ht.form
    clear ht ih
    unfold maxLen at hma hmb
    have HE := Lib.hid (Ext.al w (.cells #[.int .i64 t.op, .int .i64 t.n, .string t.nm, .int .i64 t.ty, .slice Aa t.args.length ca, .slice Bb t.cls.length cb] 41))
    have HB := Lib.hid (heapNew w (.cells #[.int .i64 t.op, .int .i64 t.n, .string t.nm, .int .i64 t.ty, .slice Aa t.args.length ca, .slice Bb t.cls.length cb] 41))
    generalize hrr : capI n (nT t) = rr
    have HR : Hid (rr = max (n - 1 - nL (chT t)) 0) := by show rr = _; rw [← hrr]; unfold capI; rw [nT_kids]; omega
    have HLA : Hid (∀ j, nL ((chT t).take j) ≤ nL (chT t)) := nL_take_le (chT t)
    have HALL := Lib.hid (chT_all t)
    clear hrr
    by_cases hn : n - 1 ≤ 0
    · have HRR : Hid (rr = 0) := by show rr = 0; rw [HR.out]; omega
      go_enter Tryz.func38, Tryz.ntmps38
      go_wp2
      generalize w.alloc _ = w1 at *
      go_loopw [1, 5] (fun s i wr => ∃ (j : Nat), j ≤ t.args.length ∧ i = .int .i64 j ∧ s = .int .i64 (n - 1) ∧ Ext w1 wr) (fun _ i _ => t.args.length - (intOf i).toNat)
      case atStart => exact ⟨0, Nat.zero_le _, rfl, by go_num, Ext.rf _⟩
      case round =>
        obtain ⟨j, hj, rfl, rfl, hb⟩ := hrel
        have HX := Lib.hid hb
        have b0 := (hb.block _ (heap_lt HB.out)).trans HB.out
        have c4 := cellAt b0 4
        have c5 := cellAt b0 5
        clear hb b0
        generalize hnn : n - 1 = m at *
        clear hnn
        by_cases hlt : j < t.args.length
        all_goals
          go_wp2
          generalize wr = wl at *
          go_loopw [1, 6] (fun s i wq => ∃ (j2 : Nat), j2 ≤ t.cls.length ∧ i = .int .i64 j2 ∧ s = .int .i64 m ∧ wl = wq) (fun _ i _ => t.cls.length - (intOf i).toNat)
          case atStart => exact ⟨0, Nat.zero_le _, rfl, rfl, rfl⟩
          case round =>
            obtain ⟨j2, hj2, rfl, rfl, rfl⟩ := hrel
            by_cases hlt2 : j2 < t.cls.length
            all_goals
              go_wp2
              go_ret
              exact ⟨ret_int (by rw [HRR.out]; omega), HE.out.tr HX.out⟩
    · go_enter Tryz.func38, Tryz.ntmps38
      go_wp2
      generalize w.alloc _ = w1 at *
      go_loopw [1, 5] (fun s i wr => ∃ (j : Nat) (m : Int), j ≤ t.args.length ∧ i = .int .i64 j ∧ s = .int .i64 m ∧ (0 ≤ m ∧ m ≤ 1000000000000 ∧ m = max (n - 1 - nL ((chT t).take j)) 0) ∧ Ext w1 wr) (fun _ i _ => t.args.length - (intOf i).toNat)
      case atStart => exact ⟨0, n - 1, Nat.zero_le _, rfl, by go_num, ⟨by omega, by omega, by simp [nL]; omega⟩, Ext.rf _⟩
      case round =>
        obtain ⟨j, m, hj, rfl, rfl, ⟨hm0, hm1, hmm⟩, hb⟩ := hrel
        have HMM := Lib.hid hmm
        clear hmm
        have HX := Lib.hid hb
        have b0 := (hb.block _ (heap_lt HB.out)).trans HB.out
        have HBB := Lib.hid b0
        have c4 := cellAt b0 4
        have c5 := cellAt b0 5
        clear hb b0
        have HLJ := Lib.hid (HLA.out j)
        by_cases hgo : j < t.args.length ∧ 0 < m
        · obtain ⟨hlt, hpos⟩ := hgo
          obtain ⟨b, o, xa, xc, rfl, hbl, yc, yt⟩ := HT.out.arg hlt
          have HNX := Lib.hid (preA_nL hlt)
          have yc := yc.below (HE.out.tr HX.out)
          have c30 := yc.c0
          have c31 := yc.c1
          have c32 := yc.c2
          have c33 := yc.c3
          have c34 := yc.c4
          have c35 := yc.c5
          have HK := Lib.hid (yt.below (HE.out.tr HX.out))
          generalize t.args[j] = x at *
          clear yc yt
          go_wp2_with (go_at_call 38; (with_reducible refine (HIH.out x _ _ m _ HK.out (by omega) (by omega)).mono ?_); rintro e w5 ⟨rfl, hb5⟩)
          have HM9 : Hid (0 ≤ capI m (nT x) ∧ capI m (nT x) ≤ 1000000000000 ∧ capI m (nT x) = max (n - 1 - nL ((chT t).take (j + 1))) 0) := by
            show _ ∧ _ ∧ _
            rw [HNX.out]; unfold capI; have := HMM.out; omega
          exact ⟨⟨j + 1, _, by omega, by go_num, rfl, HM9.out, HX.out.tr hb5⟩, by simp [intOf]; omega⟩
        · have HM0 : Hid (m = max (n - 1 - nL ((chT t).take (t.args.length + 0))) 0) := by
            show m = _
            have h1 := HMM.out
            by_cases hlt : j < t.args.length
            · have h2 : m = 0 := by omega
              have h3 := nL_append ((chT t).drop j |>.take (t.args.length - j)) ((chT t).take j)
              have h4 : (chT t).take (t.args.length + 0) = (chT t).take j ++ ((chT t).drop j |>.take (t.args.length - j)) := by
                rw [← List.take_add]; congr 1; omega
              rw [h4, h3]; omega
            · rw [show t.args.length + 0 = j by omega]; exact h1
          have hno : t.args.length ≤ j ∨ m ≤ 0 := by omega
          clear hgo
          by_cases hlt : j < t.args.length
          all_goals
            go_wp2
            generalize wr = wl at *
            clear c4 c5
            go_loopw [1, 6] (fun s i wq => ∃ (j2 : Nat) (m2 : Int), j2 ≤ t.cls.length ∧ i = .int .i64 j2 ∧ s = .int .i64 m2 ∧ (0 ≤ m2 ∧ m2 ≤ 1000000000000 ∧ m2 = max (n - 1 - nL ((chT t).take (t.args.length + j2))) 0) ∧ Ext wl wq) (fun _ i _ => t.cls.length - (intOf i).toNat)
            case atStart => exact ⟨0, m, Nat.zero_le _, rfl, rfl, ⟨hm0, hm1, HM0.out⟩, Ext.rf _⟩
            case round =>
              obtain ⟨j2, m2, hj2, rfl, rfl, ⟨hm20, hm21, hmm⟩, hb2⟩ := hrel
              have HMM2 := Lib.hid hmm
              clear hmm
              have HX2 := Lib.hid (HX.out.tr hb2)
              have HXE := Lib.hid hb2
              have b2 := (hb2.block _ (heap_lt HBB.out)).trans HBB.out
              have c4 := cellAt b2 4
              have c5 := cellAt b2 5
              clear hb2 b2
              have HLJ2 := Lib.hid (HLA.out (t.args.length + j2))
              by_cases hgo2 : j2 < t.cls.length ∧ 0 < m2
              · obtain ⟨hlt2, hpos2⟩ := hgo2
                obtain ⟨b', o', vn', xa', xc', rfl, hbl', yn', ys', yc', yt'⟩ := HT.out.clause hlt2
                have HNX := Lib.hid (preC_nL hlt2)
                have yc' := yc'.below (HE.out.tr HX2.out)
                have d0 := yc'.c0
                have d1 := yc'.c1
                have d2 := yc'.c2
                have d3 := yc'.c3
                have d4 := yc'.c4
                have d5 := yc'.c5
                have HK2 := Lib.hid (yt'.below (HE.out.tr HX2.out))
                generalize t.cls[j2] = cl at *
                obtain ⟨ns, y⟩ := cl
                dsimp only at *
                clear yc' yt' yn' ys'
                go_wp2_with (go_at_call 38; (with_reducible refine (HIH.out y _ _ m2 _ HK2.out (by omega) (by omega)).mono ?_); rintro e w6 ⟨rfl, hb6⟩)
                have HM9 : Hid (0 ≤ capI m2 (nT y) ∧ capI m2 (nT y) ≤ 1000000000000 ∧ capI m2 (nT y) = max (n - 1 - nL ((chT t).take (t.args.length + (j2 + 1)))) 0) := by
                  show _ ∧ _ ∧ _
                  rw [HNX.out]; unfold capI; have := HMM2.out; omega
                exact ⟨⟨j2 + 1, _, by omega, by go_num, rfl, HM9.out, HXE.out.tr hb6⟩, by simp [intOf]; omega⟩
              · have HRR : Hid (m2 = rr) := by
                  show m2 = rr
                  have h1 := HMM2.out
                  have h2 := HR.out
                  by_cases hlt2 : j2 < t.cls.length
                  · have h3 := HLJ2.out; omega
                  · have h4 : j2 = t.cls.length := by omega
                    rw [h4, HALL.out] at h1; omega
                have hno2 : t.cls.length ≤ j2 ∨ m2 ≤ 0 := by omega
                clear hgo2
                by_cases hlt2 : j2 < t.cls.length
                all_goals
                  go_wp2
                  go_ret
                  exact ⟨ret_int (by rw [← HRR.out]; omega), HE.out.tr HX2.out⟩
set_option maxHeartbeats 1000000 in
set_option maxRecDepth 100000 in
theorem FitsX_any (k : Nat) (t : Tm) (va vc : Value) (n : Int) (w : World) (ht : RT w k t va vc) (hn0 : 0 ≤ n) (hn1 : n ≤ 1000000000) :
    Calls Tryz.prog 14 #[tV t va vc, .int .i64 n] w fun e w' => e = .returned (.bool (decide ((nT t : Int) ≤ n))) ∧ Ext w w' := by
  have HT := Lib.hid ht
  obtain ⟨_, ⟨Aa, ca, rfl, hca, hma⟩, ⟨Bb, cb, rfl, hcb, hmb⟩⟩ := ht.form
  clear ht
  have HE := Lib.hid (Ext.al w (.cells #[.int .i64 t.op, .int .i64 t.n, .string t.nm, .int .i64 t.ty, .slice Aa t.args.length ca, .slice Bb t.cls.length cb] 41))
  generalize hq : decide ((nT t : Int) ≤ n) = q
  have HQ : Hid (decide (0 < capI (n + 1) (nT t)) = q) := by show decide _ = q; rw [← hq]; unfold capI; congr 1; exact propext ⟨fun h => by omega, fun h => by omega⟩
  clear hq
  go_enter Tryz.func14, Tryz.ntmps14
  go_wp2_with fail
  generalize w.alloc _ = w1 at *
  (with_reducible refine (leftX_any k t _ _ (n + 1) _ (HT.out.below HE.out) (by omega) (by omega)).mono ?_)
  generalize capI (n + 1) (nT t) = r at *
  rintro e w2 ⟨rfl, hb⟩
  have HX := Lib.hid (HE.out.tr hb)
  clear hb
  go_wp2
  go_ret
  exact ⟨ret_bool HQ.out, HX.out⟩
end Go.Proofs.YtogmjgccopmplaaGreat
