import Derived.Test.YtkdglplfcpindaaGreatDoorQ23
import Derived.Deep.RegionWith
import Derived.Shelf.Strings.Builder1
import Derived.Shelf.Strings.BuilderF
import Derived.Shelf.Strings.BuilderK
import Derived.Shelf.Strconv.Itoa0
import Derived.Shelf.Strconv.Itoa1
import Derived.Shelf.LaysM
import Derived.Shelf.Strconv.Itoa2
import Derived.Shelf.Strconv.Itoa3
import Derived.Test.YtkdglplfcpindaaGreatDoorProg
import Derived.Lib.ItoaLen
import Derived.Lib.AppendIntMem
set_option maxRecDepth 100000
namespace Go.Proofs.YtkdglplfcpindaaGreatDoor
open Go.RowKit
def nT (t : Tm) : Nat := (nodesL 1 t).length
def chT (t : Tm) : List Tm := t.args ++ t.cls.map (·.2)
def nL : List Tm -> Nat
  | [] => 0
  | x :: r => nT x + nL r
theorem kids_chT (t : Tm) : (kids t).map (·.2) = chT t := by
  have h : ∀ (l : List Tm) (i : Nat), (kidsFrom t.op t.nm i l).map (·.2) = l := by
    intro l
    induction l with
    | nil => intro i; rfl
    | cons a r ih => intro i; simp [kidsFrom, ih]
  unfold kids chT
  rw [List.map_append, h, List.map_map]; rfl
theorem len_same : ∀ (n : Nat) (t : Tm) (d : Int), uT t <= n -> (nodesL d t).length = nT t := by
  intro n
  induction n with
  | zero => intro t d hu; rw [uT_kids] at hu; omega
  | succ n ih =>
    intro t d hu
    have hk := uT_kids t
    have h : ∀ (l : List (Bnd × Tm)) (d e : Int), uK l <= n -> (nodesK d l).length = (nodesK e l).length := by
      intro l
      induction l with
      | nil => intro d e _; rfl
      | cons x r ihr =>
        intro d e hl
        rw [uK] at hl
        rw [nodesK, nodesK, List.length_append, List.length_append, ih x.2 d (by omega), ih x.2 e (by omega), ihr d e (by omega)]
    unfold nT
    rw [nodesL_kids, nodesL_kids, List.length_cons, List.length_cons, h (kids t) (d + 1) (1 + 1) (by omega)]
theorem nodesK_len (d : Int) : ∀ l : List (Bnd × Tm), (nodesK d l).length = nL (l.map (·.2))
  | [] => rfl
  | x :: r => by rw [nodesK, List.length_append, len_same _ x.2 d (Nat.le_refl _), nodesK_len d r]; rfl
theorem nT_kids (t : Tm) : nT t = 1 + nL (chT t) := by
  unfold nT
  rw [nodesL_kids, List.length_cons, nodesK_len, kids_chT]; omega
theorem nT_pos (t : Tm) : 1 <= nT t := by rw [nT_kids]; omega
theorem nL_append (m : List Tm) : ∀ l, nL (l ++ m) = nL l + nL m
  | [] => by simp [nL]
  | x :: r => by rw [List.cons_append, nL, nL, nL_append m r]; omega
theorem nL_len : ∀ l : List Tm, l.length <= nL l
  | [] => Nat.zero_le _
  | x :: r => by rw [nL]; have := nT_pos x; have := nL_len r; simp only [List.length_cons]; omega
theorem nL_take {l : List Tm} {j : Nat} (h : j < l.length) : nL (l.take (j + 1)) = nL (l.take j) + nT l[j] := by
  rw [List.take_succ_eq_append_getElem h, nL_append]; simp [nL]
theorem nL_take_le (l : List Tm) (j : Nat) : nL (l.take j) <= nL l := by
  have := nL_append (l.drop j) (l.take j)
  rw [List.take_append_drop] at this; omega
theorem nL_mem {l : List Tm} {x : Tm} (h : x ∈ l) : nT x <= nL l := by
  obtain ⟨p, q, rfl⟩ := List.append_of_mem h
  rw [nL_append, nL]; omega
mutual
def dT : Tm -> Int
  | .mk _ _ _ _ args cls => 1 + max (dA args) (dC cls)
def dA : List Tm -> Int
  | [] => 0
  | a :: r => max (dT a) (dA r)
def dC : List (List Str × Tm) -> Int
  | [] => 0
  | (_, t) :: r => max (dT t) (dC r)
end
def dL : List Tm -> Int
  | [] => 0
  | a :: r => max (dT a) (dL r)
theorem dL_nonneg : ∀ l, 0 <= dL l
  | [] => Int.le_refl _
  | a :: r => by rw [dL]; have := dL_nonneg r; omega
theorem dL_append (m : List Tm) : ∀ l, dL (l ++ m) = max (dL l) (dL m)
  | [] => by have := dL_nonneg m; simp only [List.nil_append, dL]; omega
  | x :: r => by rw [List.cons_append, dL, dL, dL_append m r]; omega
theorem dA_dL : ∀ l, dA l = dL l
  | [] => by simp [dA, dL]
  | a :: r => by rw [dA, dL, dA_dL r]
theorem dC_dL : ∀ l : List (List Str × Tm), dC l = dL (l.map (·.2))
  | [] => by simp [dC, dL]
  | (_, t) :: r => by rw [dC, dC_dL r]; rfl
theorem dT_kids (t : Tm) : dT t = 1 + dL (chT t) := by
  cases t with
  | mk op n nm ty args cls => rw [dT, dA_dL, dC_dL, chT, dL_append]; rfl
theorem dL_take {l : List Tm} {j : Nat} (h : j < l.length) : dL (l.take (j + 1)) = max (dL (l.take j)) (dT l[j]) := by
  rw [List.take_succ_eq_append_getElem h, dL_append]
  have := dL_nonneg (l.take j)
  simp only [dL]; omega
theorem dL_le : ∀ (n : Int) (l : List Tm), 0 <= n -> (dL l <= n ↔ ∀ x ∈ l, dT x <= n)
  | n, [], h => by simp [dL, h]
  | n, a :: r, h => by
    have := dL_le n r h
    rw [dL]
    constructor
    . intro h1 x hx
      rcases List.mem_cons.1 hx with rfl | hx
      . omega
      . exact this.1 (by omega) x hx
    . intro h1
      have h2 := h1 a (List.mem_cons_self ..)
      have h3 := this.2 (fun x hx => h1 x (List.mem_cons_of_mem _ hx))
      omega
theorem uT_ch {t x : Tm} (h : x ∈ chT t) : uT x < uT t := by
  rw [← kids_chT] at h
  obtain ⟨y, hy, rfl⟩ := List.mem_map.1 h
  have := uT_kid hy; omega
theorem dT_pos (t : Tm) : 1 <= dT t := by rw [dT_kids]; have := dL_nonneg (chT t); omega
theorem dep_all : ∀ (n : Nat) (t : Tm) (d N : Int), uT t <= n -> ((∀ y ∈ nodesL d t, y.1 <= N) ↔ d + dT t - 1 <= N) := by
  intro n
  induction n with
  | zero => intro t d N hu; rw [uT_kids] at hu; omega
  | succ n ih =>
    intro t d N hu
    rw [nodesL_kids, dT_kids]
    have h0 := dL_nonneg (chT t)
    constructor
    . intro h
      have h1 := h (d, t) (List.mem_cons_self ..)
      dsimp only at h1
      have h2 : dL (chT t) <= N - d := (dL_le _ _ (by omega)).2 (fun x hx => by
        have hx' := hx
        rw [← kids_chT] at hx
        obtain ⟨y, hy, rfl⟩ := List.mem_map.1 hx
        have h3 := (ih y.2 (d + 1) N (by have := uT_ch hx'; omega)).1 (fun z hz => h z (List.mem_cons_of_mem _ (by
          obtain ⟨p, q, e⟩ := List.append_of_mem hy
          rw [e, nodesK_append]
          exact List.mem_append_right _ (List.mem_append_left _ hz))))
        omega)
      omega
    . intro h y hy
      rcases List.mem_cons.1 hy with rfl | hy
      . dsimp only; omega
      . obtain ⟨x, hx, hy⟩ := nodesK_mem hy
        have hx' : x.2 ∈ chT t := by rw [← kids_chT]; exact List.mem_map.2 ⟨x, hx, rfl⟩
        have h4 := (dL_le (N - d) (chT t) (by omega)).1 (by omega) x.2 hx'
        exact (ih x.2 (d + 1) N (by have := uT_ch hx'; omega)).2 (by omega) y hy
theorem size_small (t : Tm) : (sizeR t).2 = (decide (nT t <= 600) && decide (dT t <= 24)) := by
  have h : sizeOK (nodesL 1 t) = (decide (nT t <= 600) && decide (dT t <= 24)) := by
    unfold sizeOK
    have h1 := dep_all _ t 1 24 (Nat.le_refl _)
    have h2 : (nodesL 1 t).all (fun p => decide (p.1 <= 24)) = decide (dT t <= 24) := by
      rw [Bool.eq_iff_iff, List.all_eq_true, decide_eq_true_eq]
      simp only [decide_eq_true_eq]
      rw [h1]; omega
    rw [h2]; rfl
  unfold sizeR
  rw [h]
  cases (decide (nT t <= 600) && decide (dT t <= 24)) <;> rfl
theorem size_num {t : Tm} (h : (sizeR t).2 = true) : (sizeR t).1 = nT t := by
  unfold sizeR at *
  split
  . rfl
  . rename_i h1; rw [if_neg h1] at h; cases h
abbrev Trm := Tm × Value × Value
def cells1 (x : Trm) : List Value := [.int .i64 x.1.op, .int .i64 x.1.n, .string x.1.nm, .int .i64 x.1.ty, x.2.1, x.2.2]
def cellsT : List Trm -> List Value
  | [] => []
  | x :: r => cells1 x ++ cellsT r
theorem cellsT_append (m : List Trm) : ∀ l, cellsT (l ++ m) = cellsT l ++ cellsT m
  | [] => rfl
  | x :: r => by rw [List.cons_append, cellsT, cellsT, cellsT_append m r, List.append_assoc]
theorem cellsT_len : ∀ l, (cellsT l).length = l.length * 6
  | [] => rfl
  | x :: r => by rw [cellsT, List.length_append, cellsT_len r]; simp [cells1]; omega
theorem cellsT_at : ∀ (l : List Trm) (i r : Nat) (x : Trm), l[i]? = some x -> r < 6 -> (cellsT l)[i * 6 + r]? = (cells1 x)[r]?
  | [], _, _, _, h, _ => by simp at h
  | y :: l, 0, r, x, h, hr => by
    simp at h; subst h
    rw [cellsT, List.getElem?_append_left (by simp [cells1]; omega)]; simp
  | y :: l, i + 1, r, x, h, hr => by
    simp at h
    rw [cellsT, List.getElem?_append_right (by simp [cells1]; omega), ← cellsT_at l i r x h hr]
    congr 1; simp [cells1]; omega
def RTms (w : World) (k : Nat) (v : Value) (l : List Tm) : Prop :=
  ∃ A c, v = .slice A l.length c /\ l.length <= c /\ c <= maxLen ∧
    ∀ i x, l[i]? = some x -> ∃ b o xa xc, A = some ⟨b, o, none⟩ /\ b < w.heap.size /\ C6 w b (o + i * 6) x xa xc /\ RT w k x xa xc
theorem RTms.form {w : World} {k : Nat} {v : Value} {l : List Tm} (h : RTms w k v l) : ∃ A c, v = .slice A l.length c /\ l.length <= c /\ c <= maxLen := by
  obtain ⟨A, c, h1, h2, h3, _⟩ := h; exact ⟨A, c, h1, h2, h3⟩
theorem RTms.at_ {w : World} {k : Nat} {l : List Tm} {A : Option Addr} {c : Nat} (h : RTms w k (.slice A l.length c) l) {i : Nat} (hi : i < l.length) :
    ∃ b o xa xc, A = some ⟨b, o, none⟩ /\ b < w.heap.size /\ C6 w b (o + i * 6) l[i] xa xc /\ RT w k l[i] xa xc := by
  obtain ⟨A', c', he, h1, h2, h3⟩ := h
  cases he
  exact h3 i _ (List.getElem?_eq_getElem hi)
theorem own_RTms {w : World} {B k : Nat} {v : Value} {L : List Trm} (h : w.ownsRow B 50 6 v L.length (cellsT L)) (hr : ∀ x ∈ L, RT w k x.1 x.2.1 x.2.2) : RTms w k v (L.map (·.1)) := by
  rcases h.2 with ⟨rfl, h0⟩ | ⟨g, cap, cur, rfl, e2, e3, e4, e5, e6, e7⟩
  . have hL : L = [] := List.eq_nil_of_length_eq_zero h0
    subst hL
    exact ⟨none, 0, rfl, Nat.le_refl _, Nat.zero_le _, fun i x hx => by simp at hx⟩
  . refine ⟨_, cap, by rw [List.length_map], by rw [List.length_map]; exact e4, e5, fun i x hx => ?_⟩
    rw [List.getElem?_map] at hx
    obtain ⟨y, hy, rfl⟩ := Option.map_eq_some_iff.1 hx
    have hi : i < L.length := (List.getElem?_eq_some_iff.1 hy).1
    have hc : ∀ r u, r < 6 -> (cells1 y)[r]? = some u -> w.cell? ⟨g, i * 6 + r, none⟩ = some u := fun r u hr6 hu => by
      have h1 := cellsT_at L i r y hy hr6
      rw [World.ownsRow.cellAt h (i * 6 + r) (by omega), h1]; exact hu
    exact ⟨g, 0, y.2.1, y.2.2, rfl, (Array.getElem?_eq_some_iff.1 e3).1, by
      rw [Nat.zero_add]
      exact ⟨hc 0 _ (by omega) rfl, hc 1 _ (by omega) rfl, hc 2 _ (by omega) rfl, hc 3 _ (by omega) rfl, hc 4 _ (by omega) rfl, hc 5 _ (by omega) rfl⟩, hr y (List.mem_of_getElem? hy)⟩
theorem RT.rowA {w : World} {k : Nat} {t : Tm} {A : Option Addr} {c : Nat} {vc : Value} (h : RT w (k + 1) t (.slice A t.args.length c) vc) : ∃ L : List Trm, L.map (·.1) = t.args /\ (∀ x ∈ L, RT w k x.1 x.2.1 x.2.2) /\ SrcN w A t.args.length 6 (cellsT L) := by
  have hex : ∀ i, i < t.args.length -> ∃ y : Trm, t.args[i]? = some y.1 /\ RT w k y.1 y.2.1 y.2.2 /\ ∃ b o, A = some ⟨b, o, none⟩ /\ C6 w b (o + i * 6) y.1 y.2.1 y.2.2 := fun i hi => by
    obtain ⟨b, o, xa, xc, e, _, hc, hr⟩ := h.arg hi
    exact ⟨(t.args[i], xa, xc), List.getElem?_eq_getElem hi, hr, b, o, e, hc⟩
  obtain ⟨L, hl, hp⟩ := list_of t.args.length hex
  have hmap : L.map (·.1) = t.args := by
    apply List.ext_getElem?
    intro i
    rw [List.getElem?_map]
    by_cases hi : i < L.length
    . rw [List.getElem?_eq_getElem hi, (hp i _ (List.getElem?_eq_getElem hi)).1]; rfl
    . rw [List.getElem?_eq_none (by omega), List.getElem?_eq_none (by omega)]; rfl
  refine ⟨L, hmap, fun x hx => ?_, ?_⟩
  . obtain ⟨i, hi⟩ := List.mem_iff_getElem?.1 hx
    exact (hp i x hi).2.1
  . cases L with
    | nil =>
      have h0 : t.args.length = 0 := by simpa using hl.symm
      cases A with
      | none => exact .inl ⟨rfl, h0, rfl⟩
      | some ad => exact .inr ⟨ad, rfl, by rw [h0]; rfl, fun j u hu => by simp [cellsT] at hu⟩
    | cons y r =>
      obtain ⟨_, _, b, o, rfl, _⟩ := hp 0 y rfl
      refine .inr ⟨_, rfl, by rw [cellsT_len, hl], fun j u hu => ?_⟩
      have hj : j < (cellsT (y :: r)).length := (List.getElem?_eq_some_iff.1 hu).1
      rw [cellsT_len] at hj
      have hi : j / 6 < (y :: r).length := by omega
      obtain ⟨_, _, b', o', e, hc⟩ := hp (j / 6) _ (List.getElem?_eq_getElem hi)
      cases e
      have hr6 : j % 6 < 6 := Nat.mod_lt _ (by omega)
      have hje : j = j / 6 * 6 + j % 6 := by omega
      rw [hje, cellsT_at _ _ _ _ (List.getElem?_eq_getElem hi) hr6] at hu
      rw [add_at, hje, ← Nat.add_assoc]
      generalize hq : j % 6 = q at *
      match q, hr6 with
      | 0, _ => rw [← Option.some.inj hu]; exact hc.c0
      | 1, _ => rw [← Option.some.inj hu]; exact hc.c1
      | 2, _ => rw [← Option.some.inj hu]; exact hc.c2
      | 3, _ => rw [← Option.some.inj hu]; exact hc.c3
      | 4, _ => rw [← Option.some.inj hu]; exact hc.c4
      | 5, _ => rw [← Option.some.inj hu]; exact hc.c5
theorem cellsT_one {w : World} {k : Nat} (L : List Trm) (h : ∀ x ∈ L, RT w k x.1 x.2.1 x.2.2) : ∀ u ∈ cellsT L, u.oneCell' = true := by
  induction L with
  | nil => intro u hu; cases hu
  | cons x r ih =>
    intro u hu
    rw [cellsT] at hu
    rcases List.mem_append.1 hu with hu | hu
    . obtain ⟨_, ⟨_, _, e1, _⟩, ⟨_, _, e2, _⟩⟩ := (h x (List.mem_cons_self ..)).form
      simp only [cells1, e1, e2, List.mem_cons, List.not_mem_nil, or_false] at hu
      rcases hu with rfl | rfl | rfl | rfl | rfl | rfl <;> rfl
    . exact ih (fun y hy => h y (List.mem_cons_of_mem _ hy)) u hu
end Go.Proofs.YtkdglplfcpindaaGreatDoor

namespace Go.Proofs.YtkdglplfcpindaaGreatDoor
open Go.RowKit
def capI (n : Int) (c : Nat) : Int := max (n - c) 0
theorem preA_nL {t : Tm} {j : Nat} (hj : j < t.args.length) : nL ((chT t).take (j + 1)) = nL ((chT t).take j) + nT t.args[j] := by
  have h : j < (chT t).length := by unfold chT; rw [List.length_append]; omega
  rw [nL_take h]
  congr 1
  have : (chT t)[j] = t.args[j] := by simp [chT, List.getElem_append_left hj]
  rw [this]
theorem preC_nL {t : Tm} {j : Nat} (hj : j < t.cls.length) : nL ((chT t).take (t.args.length + (j + 1))) = nL ((chT t).take (t.args.length + j)) + nT (t.cls[j]).2 := by
  have h : t.args.length + j < (chT t).length := by unfold chT; rw [List.length_append, List.length_map]; omega
  rw [← Nat.add_assoc, nL_take h]
  congr 1
  have : (chT t)[t.args.length + j] = (t.cls[j]).2 := by simp [chT]
  rw [this]
theorem chT_all (t : Tm) : (chT t).take (t.args.length + t.cls.length) = chT t := by
  rw [List.take_of_length_le]; unfold chT; rw [List.length_append, List.length_map]; exact Nat.le_refl _
set_option maxHeartbeats 4000000 in
theorem leftX_any : ∀ (k : Nat) (t : Tm) (va vc : Value) (n : Int) (w : World), RT w k t va vc -> -1000000000000 <= n -> n <= 1000000000000 →
    Calls Tryz.prog 39 #[tV t va vc, .int .i64 n] w fun e w' => e = .returned (.int .i64 (capI n (nT t))) /\ Ext w w' := by
  intro k
  induction k with
  | zero => intro t va vc n w ht; exact ht.elim
  | succ k ih =>
    intro t va vc n w ht hn0 hn1
    have HT := LH ht; have HIH := LH ih
    obtain ⟨_, ⟨Aa, ca, rfl, hca, hma⟩, ⟨Bb, cb, rfl, hcb, hmb⟩⟩ := ht.form
    clear ht ih
    unfold maxLen at hma hmb
    have HE := LH (Ext.al w (.cells #[.int .i64 t.op, .int .i64 t.n, .string t.nm, .int .i64 t.ty, .slice Aa t.args.length ca, .slice Bb t.cls.length cb] 50))
    have HB := LH (hNw w (.cells #[.int .i64 t.op, .int .i64 t.n, .string t.nm, .int .i64 t.ty, .slice Aa t.args.length ca, .slice Bb t.cls.length cb] 50))
    generalize hrr : capI n (nT t) = rr
    have HR : Hid (rr = max (n - 1 - nL (chT t)) 0) := by show rr = _; rw [← hrr]; unfold capI; rw [nT_kids]; omega
    have HLA : Hid (∀ j, nL ((chT t).take j) <= nL (chT t)) := nL_take_le (chT t)
    have HALL := LH (chT_all t)
    clear hrr
    by_cases hn : n - 1 <= 0
    . have HRR : Hid (rr = 0) := by show rr = 0; rw [HR.out]; omega
      go_enter Tryz.func39, Tryz.ntmps39
      go_wp2
      generalize w.alloc _ = w1 at *
      go_loopw [1, 5] (fun s i wr => ∃ (j : Nat), j <= t.args.length /\ i = .int .i64 j /\ s = .int .i64 (n - 1) /\ Ext w1 wr) (fun _ i _ => t.args.length - (intOf i).toNat)
      case atStart => exact ⟨0, Nat.zero_le _, rfl, by go_num, Ext.rf _⟩
      case round =>
        obtain ⟨j, hj, rfl, rfl, hb⟩ := hrel
        have HX := LH hb
        have b0 := (hb.block _ (hLt HB.out)).trans HB.out
        have c4 := cA b0 4
        have c5 := cA b0 5
        clear hb b0
        generalize hnn : n - 1 = m at *
        clear hnn
        by_cases hlt : j < t.args.length
        all_goals
          go_wp2
          generalize wr = wl at *
          go_loopw [1, 6] (fun s i wq => ∃ (j2 : Nat), j2 <= t.cls.length /\ i = .int .i64 j2 /\ s = .int .i64 m /\ wl = wq) (fun _ i _ => t.cls.length - (intOf i).toNat)
          case atStart => exact ⟨0, Nat.zero_le _, rfl, rfl, rfl⟩
          case round =>
            obtain ⟨j2, hj2, rfl, rfl, rfl⟩ := hrel
            by_cases hlt2 : j2 < t.cls.length
            all_goals
              go_wp2
              go_ret
              exact ⟨ret_int (by rw [HRR.out]; omega), HE.out.tr HX.out⟩
    . go_enter Tryz.func39, Tryz.ntmps39
      go_wp2
      generalize w.alloc _ = w1 at *
      go_loopw [1, 5] (fun s i wr => ∃ (j : Nat) (m : Int), j <= t.args.length /\ i = .int .i64 j /\ s = .int .i64 m /\ (0 <= m /\ m <= 1000000000000 /\ m = max (n - 1 - nL ((chT t).take j)) 0) /\ Ext w1 wr) (fun _ i _ => t.args.length - (intOf i).toNat)
      case atStart => exact ⟨0, n - 1, Nat.zero_le _, rfl, by go_num, ⟨by omega, by omega, by simp [nL]; omega⟩, Ext.rf _⟩
      case round =>
        obtain ⟨j, m, hj, rfl, rfl, ⟨hm0, hm1, hmm⟩, hb⟩ := hrel
        have HMM := LH hmm
        clear hmm
        have HX := LH hb
        have b0 := (hb.block _ (hLt HB.out)).trans HB.out
        have HBB := LH b0
        have c4 := cA b0 4
        have c5 := cA b0 5
        clear hb b0
        have HLJ := LH (HLA.out j)
        by_cases hgo : j < t.args.length /\ 0 < m
        . obtain ⟨hlt, hpos⟩ := hgo
          obtain ⟨b, o, xa, xc, rfl, hbl, yc, yt⟩ := HT.out.arg hlt
          have HNX := LH (preA_nL hlt)
          have yc := yc.below (HE.out.tr HX.out)
          have c30 := yc.c0
          have c31 := yc.c1
          have c32 := yc.c2
          have c33 := yc.c3
          have c34 := yc.c4
          have c35 := yc.c5
          have HK := LH (yt.below (HE.out.tr HX.out))
          generalize t.args[j] = x at *
          clear yc yt
          go_wp2_with (go_at_call 39; (with_reducible refine (HIH.out x _ _ m _ HK.out (by omega) (by omega)).mono ?_); rintro e w5 ⟨rfl, hb5⟩)
          have HM9 : Hid (0 <= capI m (nT x) /\ capI m (nT x) <= 1000000000000 /\ capI m (nT x) = max (n - 1 - nL ((chT t).take (j + 1))) 0) := by
            show _ /\ _ /\ _
            rw [HNX.out]; unfold capI; have := HMM.out; omega
          exact ⟨⟨j + 1, _, by omega, by go_num, rfl, HM9.out, HX.out.tr hb5⟩, by simp [intOf]; omega⟩
        . have HM0 : Hid (m = max (n - 1 - nL ((chT t).take (t.args.length + 0))) 0) := by
            show m = _
            have h1 := HMM.out
            by_cases hlt : j < t.args.length
            . have h2 : m = 0 := by omega
              have h3 := nL_append ((chT t).drop j |>.take (t.args.length - j)) ((chT t).take j)
              have h4 : (chT t).take (t.args.length + 0) = (chT t).take j ++ ((chT t).drop j |>.take (t.args.length - j)) := by
                rw [← List.take_add]; congr 1; omega
              rw [h4, h3]; omega
            . rw [show t.args.length + 0 = j by omega]; exact h1
          have hno : t.args.length <= j ∨ m <= 0 := by omega
          clear hgo
          by_cases hlt : j < t.args.length
          all_goals
            go_wp2
            generalize wr = wl at *
            clear c4 c5
            go_loopw [1, 6] (fun s i wq => ∃ (j2 : Nat) (m2 : Int), j2 <= t.cls.length /\ i = .int .i64 j2 /\ s = .int .i64 m2 /\ (0 <= m2 /\ m2 <= 1000000000000 /\ m2 = max (n - 1 - nL ((chT t).take (t.args.length + j2))) 0) /\ Ext wl wq) (fun _ i _ => t.cls.length - (intOf i).toNat)
            case atStart => exact ⟨0, m, Nat.zero_le _, rfl, rfl, ⟨hm0, hm1, HM0.out⟩, Ext.rf _⟩
            case round =>
              obtain ⟨j2, m2, hj2, rfl, rfl, ⟨hm20, hm21, hmm⟩, hb2⟩ := hrel
              have HMM2 := LH hmm
              clear hmm
              have HX2 := LH (HX.out.tr hb2)
              have HXE := LH hb2
              have b2 := (hb2.block _ (hLt HBB.out)).trans HBB.out
              have c4 := cA b2 4
              have c5 := cA b2 5
              clear hb2 b2
              have HLJ2 := LH (HLA.out (t.args.length + j2))
              by_cases hgo2 : j2 < t.cls.length /\ 0 < m2
              . obtain ⟨hlt2, hpos2⟩ := hgo2
                obtain ⟨b', o', vn', xa', xc', rfl, hbl', yn', ys', yc', yt'⟩ := HT.out.clause hlt2
                have HNX := LH (preC_nL hlt2)
                have yc' := yc'.below (HE.out.tr HX2.out)
                have d0 := yc'.c0
                have d1 := yc'.c1
                have d2 := yc'.c2
                have d3 := yc'.c3
                have d4 := yc'.c4
                have d5 := yc'.c5
                have HK2 := LH (yt'.below (HE.out.tr HX2.out))
                generalize t.cls[j2] = cl at *
                obtain ⟨ns, y⟩ := cl
                dsimp only at *
                clear yc' yt' yn' ys'
                go_wp2_with (go_at_call 39; (with_reducible refine (HIH.out y _ _ m2 _ HK2.out (by omega) (by omega)).mono ?_); rintro e w6 ⟨rfl, hb6⟩)
                have HM9 : Hid (0 <= capI m2 (nT y) /\ capI m2 (nT y) <= 1000000000000 /\ capI m2 (nT y) = max (n - 1 - nL ((chT t).take (t.args.length + (j2 + 1)))) 0) := by
                  show _ /\ _ /\ _
                  rw [HNX.out]; unfold capI; have := HMM2.out; omega
                exact ⟨⟨j2 + 1, _, by omega, by go_num, rfl, HM9.out, HXE.out.tr hb6⟩, by simp [intOf]; omega⟩
              . have HRR : Hid (m2 = rr) := by
                  show m2 = rr
                  have h1 := HMM2.out
                  have h2 := HR.out
                  by_cases hlt2 : j2 < t.cls.length
                  . have h3 := HLJ2.out; omega
                  . have h4 : j2 = t.cls.length := by omega
                    rw [h4, HALL.out] at h1; omega
                have hno2 : t.cls.length <= j2 ∨ m2 <= 0 := by omega
                clear hgo2
                by_cases hlt2 : j2 < t.cls.length
                all_goals
                  go_wp2
                  go_ret
                  exact ⟨ret_int (by rw [← HRR.out]; omega), HE.out.tr HX2.out⟩
set_option maxHeartbeats 1000000 in
theorem FitsX_any (k : Nat) (t : Tm) (va vc : Value) (n : Int) (w : World) (ht : RT w k t va vc) (hn0 : 0 <= n) (hn1 : n <= 1000000000) :
    Calls Tryz.prog 20 #[tV t va vc, .int .i64 n] w fun e w' => e = .returned (.bool (decide ((nT t : Int) <= n))) /\ Ext w w' := by
  have HT := LH ht
  obtain ⟨_, ⟨Aa, ca, rfl, hca, hma⟩, ⟨Bb, cb, rfl, hcb, hmb⟩⟩ := ht.form
  clear ht
  have HE := LH (Ext.al w (.cells #[.int .i64 t.op, .int .i64 t.n, .string t.nm, .int .i64 t.ty, .slice Aa t.args.length ca, .slice Bb t.cls.length cb] 50))
  generalize hq : decide ((nT t : Int) <= n) = q
  have HQ : Hid (decide (0 < capI (n + 1) (nT t)) = q) := by show decide _ = q; rw [← hq]; unfold capI; congr 1; exact propext ⟨fun h => by omega, fun h => by omega⟩
  clear hq
  go_enter Tryz.func20, Tryz.ntmps20
  go_wp2_with fail
  generalize w.alloc _ = w1 at *
  (with_reducible refine (leftX_any k t _ _ (n + 1) _ (HT.out.below HE.out) (by omega) (by omega)).mono ?_)
  generalize capI (n + 1) (nT t) = r at *
  rintro e w2 ⟨rfl, hb⟩
  have HX := LH (HE.out.tr hb)
  clear hb
  go_wp2
  go_ret
  exact ⟨rB HQ.out, HX.out⟩
end Go.Proofs.YtkdglplfcpindaaGreatDoor

namespace Go.Proofs.YtkdglplfcpindaaGreatDoor
open Go.RowKit
def fewB (P : Pg) (n : Int) : Bool := decide (P.decls.length <= 40) && decide (P.funs.length <= 40) && P.funs.all fun f => decide ((nT f.body : Int) <= n)
set_option maxHeartbeats 2000000 in
theorem FewX_any (P : Pg) (vd vf : Value) (n : Int) (w : World) (hd : RDecls w vd P.decls) (hf : RFns w vf P.funs) (hn0 : 0 <= n) (hn1 : n <= 1000000000) :
    Calls Tryz.prog 7 #[pV vd vf, .int .i64 n] w fun e w' => e = .returned (.bool (fewB P n)) /\ Ext w w' := by
  have HF := LH hf
  have HR : Hid (fewB P n = (decide (P.decls.length <= 40) && decide (P.funs.length <= 40) && P.funs.all fun f => decide ((nT f.body : Int) <= n))) := rfl
  generalize fewB P n = rr at *
  obtain ⟨Ad, cd, rfl, hcd, hmd⟩ := hd.form
  obtain ⟨Af, cf, rfl, hcf, hmf⟩ := hf.form
  clear hd hf
  unfold maxLen at hmf hmd
  have HE := LH (Ext.al w (.cells #[.slice Ad P.decls.length cd, .slice Af P.funs.length cf] 25))
  have HB := LH (hNw w (.cells #[.slice Ad P.decls.length cd, .slice Af P.funs.length cf] 25))
  have c0 := cA HB.out 0
  have c1 := cA HB.out 1
  go_enter Tryz.func7, Tryz.ntmps7
  by_cases hd : (40 : Int) < P.decls.length
  . have HFF : Hid (rr = false) := by show _ = _; rw [HR.out, decide_eq_false (by omega : ¬ P.decls.length <= 40)]; rfl
    go_wp2
    go_ret
    exact ⟨rB HFF.out.symm, HE.out⟩
  by_cases hf : (40 : Int) < P.funs.length
  . have HFF : Hid (rr = false) := by show _ = _; rw [HR.out, decide_eq_false (by omega : ¬ P.funs.length <= 40), Bool.and_false]; rfl
    go_wp2
    go_ret
    exact ⟨rB HFF.out.symm, HE.out⟩
  have HRR : Hid (rr = P.funs.all fun f => decide ((nT f.body : Int) <= n)) := by show _ = _; rw [HR.out, decide_eq_true (by omega), decide_eq_true (by omega)]; rfl
  clear HR
  go_wp2
  generalize w.alloc _ = w1 at *
  clear c0 c1
  go_loopw [20] (fun i wr => ∃ j : Nat, j <= P.funs.length /\ i = .int .i64 j /\ rr = ((P.funs.drop j).all fun f => decide ((nT f.body : Int) <= n)) /\ Ext w1 wr) (fun i _ => P.funs.length - (intOf i).toNat)
  case atStart => exact ⟨0, Nat.zero_le _, rfl, HRR.out, Ext.rf _⟩
  case round =>
    obtain ⟨j, hj, rfl, hrr, hb⟩ := hrel
    have HA := LH hrr
    clear hrr
    have HX := LH hb
    clear hb
    by_cases hlt : j < P.funs.length
    . obtain ⟨b, o, vp, xa, xc, kf, rfl, hbl, y0, y1, y2, yc, y3, y4, y5⟩ := HF.out.at_ hlt
      have HST : Hid (rr = (decide ((nT (P.funs[j]).body : Int) <= n) && ((P.funs.drop (j + 1)).all fun f => decide ((nT f.body : Int) <= n)))) := by show _ = _; rw [HA.out, List.drop_eq_getElem_cons hlt, List.all_cons]
      have hX := HE.out.tr HX.out
      have y0 := hX.keep y0
      have y1 := hX.keep y1
      have y2 := hX.keep y2
      have yc := yc.below hX
      obtain ⟨Ap, cp, rfl, -, -⟩ := y4.form
      obtain ⟨_, ⟨Aa, ca, rfl, -, -⟩, ⟨Bb, cb, rfl, -, -⟩⟩ := y5.form
      have HK := LH (y5.below hX)
      have c30 := yc.c0
      have c31 := yc.c1
      have c32 := yc.c2
      have c33 := yc.c3
      have c34 := yc.c4
      have c35 := yc.c5
      generalize P.funs[j] = f at *
      clear y3 y4 y5 yc hX
      have HE8 := LH (Ext.al wr (.cells #[.string f.nm, .slice Ap f.ps.length cp, .int .i64 f.res, .int .i64 f.body.op, .int .i64 f.body.n, .string f.body.nm, .int .i64 f.body.ty, .slice Aa f.body.args.length ca, .slice Bb f.body.cls.length cb] 52))
      go_wp2_with fail
      (with_reducible refine (FitsX_any _ _ _ _ _ _ (HK.out.below HE8.out) hn0 hn1).mono ?_)
      generalize decide ((nT f.body : Int) <= n) = q at *
      rintro e w5 ⟨rfl, hb⟩
      have HX5 := LH ((HX.out.tr HE8.out).tr hb)
      clear hb c30 c31 c32 c33 c34 c35 y0 y1 y2
      cases q
      . have HFF : Hid (rr = false) := by show _ = _; rw [HST.out]; rfl
        go_wp2
        go_ret
        exact ⟨rB HFF.out.symm, HE.out.tr HX5.out⟩
      . have HGO : Hid (rr = ((P.funs.drop (j + 1)).all fun f => decide ((nT f.body : Int) <= n))) := by show _ = _; rw [HST.out, Bool.true_and]
        go_wp2
        exact ⟨⟨j + 1, by omega, by go_num, HGO.out, HX5.out⟩, by simp [intOf]; omega⟩
    . have HFF : Hid (rr = true) := by show _ = _; rw [HA.out, List.drop_eq_nil_of_le (by omega)]; rfl
      go_wp2
      go_ret
      exact ⟨rB HFF.out.symm, HE.out.tr HX.out⟩
end Go.Proofs.YtkdglplfcpindaaGreatDoor

namespace Go.Proofs.YtkdglplfcpindaaGreatDoor
theorem clsB_len : ∀ (xs : List Xtor) (l : List (List Str × Tm)), (∀ x ∈ xs, x.args.length <= 6) -> clsB xs l = true -> ∀ c ∈ l, c.1.length <= 6
  | _, [], _, _, c, h => by cases h
  | xs, d :: r, hx, h, c, hc => by
    rw [clsB, Bool.and_eq_true, decide_eq_true_eq] at h
    rcases List.mem_cons.1 hc with rfl | hc
    . have h1 := h.1
      have h2 : prodI (xs.headD noXtor) <= 6 := by
        unfold prodI
        cases xs with
        | nil => decide
        | cons x r' =>
          have h3 := Nat.le_trans (List.length_filter_le (fun a => !a.co) x.args) (hx x (List.mem_cons_self ..))
          show (((x.args.filter fun a => !a.co).length : Nat) : Int) <= 6
          omega
      omega
    . exact clsB_len xs.tail r (fun x h => hx x (List.mem_of_mem_tail h)) h.2 c hc
theorem hasF_cl {t : Tm} {c a b : Bool} {m k : Int} (h : hasF t c a b m k = true) : (t.cls.length : Int) = k := by
  unfold hasF at h
  simp only [Bool.and_eq_true, decide_eq_true_eq] at h
  exact h.2
theorem fits_cls {P : Pg} {t : Tm} (h : fitsT P t = true) : t.cls.length = 0 ∨ clsB (declAt P t.ty).xtors t.cls = true := by
  unfold fitsT at h
  by_cases h0 : t.op = 0
  . rw [if_pos h0] at h; have := hasF_cl h; omega
  rw [if_neg h0] at h
  by_cases h1 : t.op = 1
  . rw [if_pos h1] at h; have := hasF_cl h; omega
  rw [if_neg h1] at h
  by_cases h2 : t.op = 2
  . rw [if_pos h2, Bool.and_eq_true, Bool.and_eq_true] at h; have := hasF_cl h.1.1; omega
  rw [if_neg h2] at h
  by_cases h3 : t.op = 3
  . rw [if_pos h3] at h; have := hasF_cl h; omega
  rw [if_neg h3] at h
  by_cases h4 : t.op = 4
  . rw [if_pos h4, Bool.and_eq_true] at h
    have h' := h.2
    unfold fitsXB at h'
    rw [Bool.and_eq_true] at h'
    have := hasF_cl h'.2; omega
  rw [if_neg h4] at h
  by_cases h5 : t.op = 5
  . rw [if_pos h5, Bool.and_eq_true] at h
    have h' := h.2
    unfold fitsCB at h'
    rw [Bool.and_eq_true] at h'
    exact .inr h'.2
  rw [if_neg h5] at h
  by_cases h6 : t.op = 6
  . rw [if_pos h6, Bool.and_eq_true] at h
    have h' := h.2
    unfold fitsXB at h'
    rw [Bool.and_eq_true] at h'
    have := hasF_cl h'.2; omega
  rw [if_neg h6] at h
  by_cases h7 : t.op = 7
  . rw [if_pos h7, Bool.and_eq_true] at h
    have h' := h.2
    unfold fitsCB at h'
    rw [Bool.and_eq_true] at h'
    exact .inr h'.2
  rw [if_neg h7] at h
  by_cases h8 : t.op = 8
  . rw [if_pos h8, Bool.and_eq_true] at h; have := hasF_cl h.1; omega
  rw [if_neg h8] at h
  by_cases h9 : t.op = 9
  . rw [if_pos h9, Bool.and_eq_true] at h; have := hasF_cl h.2; omega
  rw [if_neg h9] at h
  by_cases h10 : t.op = 10
  . rw [if_pos h10] at h; have := hasF_cl h; omega
  rw [if_neg h10] at h
  by_cases h11 : t.op = 11 ∨ t.op = 12
  . rw [if_pos h11, Bool.and_eq_true] at h; have := hasF_cl h.1; omega
  rw [if_neg h11] at h
  cases h
theorem fits_names {P : Pg} (hv : validB P.decls = true) {t : Tm} (h : fitsT P t = true) : ∀ c ∈ t.cls, c.1.length <= 6 := by
  rcases fits_cls h with h | h
  . rw [List.eq_nil_of_length_eq_zero h]; intro c hc; cases hc
  . refine clsB_len _ _ ?_ h
    intro x hx
    unfold declAt at hx
    by_cases hu : (t.ty - 1).toNat < P.decls.length
    . rw [List.getD_eq_getElem?_getD, List.getElem?_eq_getElem hu] at hx
      exact (Fine.of hv).args _ (List.getElem_mem hu) x hx
    . rw [List.getD_eq_getElem?_getD, List.getElem?_eq_none (by omega)] at hx
      cases hx
theorem wFK_le {P : Pg} : ∀ l : List (Bnd × Tm), (∀ x ∈ l, x.1.1.length <= 6 /\ wF P x.2 + 6 <= 6 * nT x.2) -> wFK P l <= 6 * nL (l.map (·.2))
  | [], _ => Nat.zero_le _
  | x :: r, h => by
    have h1 := h x (List.mem_cons_self ..)
    have h2 := wFK_le r (fun y hy => h y (List.mem_cons_of_mem _ hy))
    rw [wFK, List.map_cons, nL]; omega
theorem kids_names {P : Pg} (hv : validB P.decls = true) {t : Tm} (h : fitsT P t = true) : ∀ x ∈ kids t, x.1.1.length <= 6 := by
  intro x hx
  unfold kids at hx
  rcases List.mem_append.1 hx with hx | hx
  . obtain ⟨i, hi⟩ := List.mem_iff_getElem?.1 hx
    have hl : i < t.args.length := by
      have := (List.getElem?_eq_some_iff.1 hi).1
      rwa [kidsFrom_length] at this
    rw [kidsFrom_get _ _ _ _ _ _ (List.getElem?_eq_getElem hl)] at hi
    cases hi
    unfold bndAt
    split <;> (try split) <;> simp
  . obtain ⟨c, hc, rfl⟩ := List.mem_map.1 hx
    exact fits_names hv h c hc
theorem wF_nodes {P : Pg} (hv : validB P.decls = true) : ∀ (n : Nat) (t : Tm), uT t <= n -> wF P t + 6 <= 6 * nT t := by
  intro n
  induction n with
  | zero => intro t hu; rw [uT_kids] at hu; omega
  | succ n ih =>
    intro t hu
    have hk := nT_kids t
    cases hf : fitsT P t
    . rw [wF_no hf]; omega
    . rw [wF_kids hf]
      have h1 := wFK_le (P := P) (kids t) (fun x hx => ⟨kids_names hv hf x hx, ih x.2 (by have := uT_kid hx; omega)⟩)
      rw [kids_chT] at h1
      omega
theorem dT_le : ∀ (n : Nat) (t : Tm), uT t <= n -> dT t <= nT t := by
  intro n
  induction n with
  | zero => intro t hu; rw [uT_kids] at hu; omega
  | succ n ih =>
    intro t hu
    rw [dT_kids, nT_kids]
    have h : ∀ l : List Tm, (∀ x ∈ l, uT x <= n) -> dL l <= nL l := by
      intro l
      induction l with
      | nil => intro _; exact Int.le_refl _
      | cons x r ihr =>
        intro hl
        have h1 := ih x (hl x (List.mem_cons_self ..))
        have h2 := ihr (fun y hy => hl y (List.mem_cons_of_mem _ hy))
        rw [dL, nL]; omega
    have := h (chT t) (fun x hx => by have := uT_ch hx; omega)
    omega
theorem low_nodes : ∀ (n : Nat) (t : Tm) (d : Int), uT t <= n -> ∀ y ∈ nodesL d t, d <= y.1 := fun n t d hu y hy => (deep_le n t d hu y hy).1
theorem fineF_of {P : Pg} {t : Tm} (h : nT t <= 1000000) : FineF P t :=
  ⟨fun y hy => by
    have h1 := low_nodes _ t 1 (Nat.le_refl _) y hy
    have h2 := (dep_all _ t 1 1000000000000 (Nat.le_refl _)).2 (by have := dT_le _ t (Nat.le_refl _); omega) y hy
    omega, fun hv _ => by have := wF_nodes hv _ t (Nat.le_refl _); omega⟩
end Go.Proofs.YtkdglplfcpindaaGreatDoor

namespace Go.Proofs.YtkdglplfcpindaaGreatDoor
open Go.RowKit
end Go.Proofs.YtkdglplfcpindaaGreatDoor

namespace Go.Proofs
open Go.Shelf
def Tryz.laysM171_ren : Go.Shelf.Ren := ⟨fun | 171 => 44 | 243 => 73 | 246 => 112 | 283 => 138 | 284 => 139 | 285 => 140 | 286 => 141 | 129 => 161 | 317 => 160 | 318 => 162 | 319 => 163 | 320 => 164 | 337 => 169 | 338 => 170 | n => n, fun | 3 => 3 | 9 => 9 | 2 => 2 | 4 => 4 | 171 => 236 | 0 => 0 | 53 => 237 | 37 => 106 | 5 => 5 | 173 => 240 | 212 => 256 | 51 => 257 | 20 => 20 | 213 => 258 | 46 => 259 | 232 => 263 | 233 => 264 | n => n, fun | 17 => 0 | 18 => 1 | 19 => 2 | n => n⟩
theorem Tryz.laysM171 : Go.Proofs.LaysM.n171 Tryz.prog Tryz.laysM171_ren := {
  mixed := by kernel_rfl
  f129 := Tryz.func161.trans (congrArg some (by kernel_rfl))
  f171 := Tryz.func44.trans (congrArg some (by kernel_rfl))
  f243 := Tryz.func73.trans (congrArg some (by kernel_rfl))
  f246 := Tryz.func112.trans (congrArg some (by kernel_rfl))
  f283 := Tryz.func138.trans (congrArg some (by kernel_rfl))
  f284 := Tryz.func139.trans (congrArg some (by kernel_rfl))
  f285 := Tryz.func140.trans (congrArg some (by kernel_rfl))
  f286 := Tryz.func141.trans (congrArg some (by kernel_rfl))
  f317 := Tryz.func160.trans (congrArg some (by kernel_rfl))
  f318 := Tryz.func162.trans (congrArg some (by kernel_rfl))
  f319 := Tryz.func163.trans (congrArg some (by kernel_rfl))
  f320 := Tryz.func164.trans (congrArg some (by kernel_rfl))
  f337 := Tryz.func169.trans (congrArg some (by kernel_rfl))
  f338 := Tryz.func170.trans (congrArg some (by kernel_rfl))
  t0 := Tryz.underlying0
  a0 := Tryz.isAgg0
  z0 := Tryz.sizeOf0
  v0 := Tryz.zeroValue0
  t2 := Tryz.underlying2
  a2 := Tryz.isAgg2
  z2 := Tryz.sizeOf2
  v2 := Tryz.zeroValue2
  t3 := Tryz.underlying3
  a3 := Tryz.isAgg3
  z3 := Tryz.sizeOf3
  v3 := Tryz.zeroValue3
  t4 := Tryz.underlying4
  a4 := Tryz.isAgg4
  z4 := Tryz.sizeOf4
  v4 := Tryz.zeroValue4
  t5 := Tryz.underlying5
  a5 := Tryz.isAgg5
  z5 := Tryz.sizeOf5
  v5 := Tryz.zeroValue5
  t9 := Tryz.underlying9
  a9 := Tryz.isAgg9
  z9 := Tryz.sizeOf9
  v9 := Tryz.zeroValue9
  t20 := Tryz.underlying20
  a20 := Tryz.isAgg20
  z20 := Tryz.sizeOf20
  v20 := Tryz.zeroValue20
  t37 := Tryz.underlying106
  a37 := Tryz.isAgg106
  z37 := Tryz.sizeOf106
  v37 := Tryz.zeroValue106
  t46 := Tryz.underlying259
  a46 := Tryz.isAgg259
  z46 := Tryz.sizeOf259
  v46 := Tryz.zeroValue259
  t51 := Tryz.underlying257
  a51 := Tryz.isAgg257
  z51 := Tryz.sizeOf257
  v51 := Tryz.zeroValue257
  t53 := Tryz.underlying237
  a53 := Tryz.isAgg237
  z53 := Tryz.sizeOf237
  v53 := Tryz.zeroValue237
  t171 := Tryz.underlying236
  a171 := Tryz.isAgg236
  z171 := Tryz.sizeOf236
  v171 := Tryz.zeroValue236
  t173 := Tryz.underlying240
  a173 := Tryz.isAgg240
  z173 := Tryz.sizeOf240
  v173 := Tryz.zeroValue240
  t212 := Tryz.underlying256
  a212 := Tryz.isAgg256
  z212 := Tryz.sizeOf256
  v212 := Tryz.zeroValue256
  t213 := Tryz.underlying258
  a213 := Tryz.isAgg258
  z213 := Tryz.sizeOf258
  t232 := Tryz.underlying263
  a232 := Tryz.isAgg263
  z232 := Tryz.sizeOf263
  v232 := Tryz.zeroValue263
  t233 := Tryz.underlying264
  a233 := Tryz.isAgg264
  z233 := Tryz.sizeOf264
  v233 := Tryz.zeroValue264
  g17 := by kernel_rfl
  g18 := by kernel_rfl
  g19 := by kernel_rfl
  i0 := by kernel_rfl
  i2 := by kernel_rfl
  i3 := by kernel_rfl
  i4 := by kernel_rfl
  i5 := by kernel_rfl
  i9 := by kernel_rfl
  i20 := by kernel_rfl
  i37 := by kernel_rfl
  i46 := by kernel_rfl
  i51 := by kernel_rfl
  i53 := by kernel_rfl
  i171 := by kernel_rfl
  i173 := by kernel_rfl
  i212 := by kernel_rfl
  i232 := by kernel_rfl
  i233 := by kernel_rfl
  m17 := by kernel_rfl
  m18 := by kernel_rfl
  m19 := by kernel_rfl }
open Go.RowKit Go.Sort Go.Lib in
theorem Tryz.strconv_Itoa (n : Int) (h0 : -9223372036854775808 <= n) (h1 : n <= 9223372036854775807) (w : World) (htab : Lib.TabIs Tryz.prog w "internal/strconv.uint64pow10" .u64 Lib.pow10Tab) :
    Calls Tryz.prog 44 #[.int .i64 n] w fun e w' => e = .returned (.string ⟨(Lib.itoa n).toArray⟩) /\ ∃ k os, w' = grow (w.drewN k) os := Any.strconv_Itoa Tryz.laysM171 n h0 h1 w htab
end Go.Proofs

namespace Go.Proofs.YtkdglplfcpindaaGreatDoor
open Go.RowKit
theorem itoa_all {w : World} (htab : Lib.TabIs Tryz.prog w "internal/strconv.uint64pow10" .u64 Lib.pow10Tab) (n : Int) (h : ok64 n) : ItoaOK w n := by
  have hb : -9223372036854775808 <= n /\ n <= 9223372036854775807 := by
    unfold ok64 at h
    simpa [Lit.wf, IntKind.min, IntKind.max, IntKind.signed, IntKind.bits] using h
  refine ⟨Lib.itoa_length_le n hb.1 hb.2, fun w' hw => ?_⟩
  refine (Tryz.strconv_Itoa n hb.1 hb.2 w' (Lib.tabBelow_of_tabIs htab w' hw)).mono ?_
  rintro e w2 ⟨rfl, k, os, rfl⟩
  exact ⟨rfl, Lib.below_grow _ _ (Nat.le_refl _) k os⟩
theorem outs_le {P : Pg} {fuel : Nat} {inputs : List Int} {r : Rn} (h : RunsTo P fuel (startS P inputs) r) : r.outs.length <= fuel + 1 := by
  obtain ⟨n, hn⟩ := h
  have key : ∀ (n : Nat) (s : St) (r : Rn), s.steps <= fuel -> OB s -> runS P fuel n s = some r -> r.outs.length <= fuel + 1 := by
    intro n
    induction n with
    | zero => intro s r _ _ h; cases h
    | succ n ih =>
      intro s r hs hob h
      rw [runS] at h
      cases hd : doS P fuel s with
      | inl x =>
        rw [hd] at h; cases h
        have h1 := hob.le
        obtain ⟨st, o, tk⟩ := s
        cases tk with
        | ev t e k =>
          simp only [doS] at hd
          split at hd
          . cases hd; exact Nat.le_trans h1 (by simp at hs ⊢; omega)
          . split at hd
            . cases hd
            . cases hd; exact Nat.le_trans h1 (by simp at hs ⊢; omega)
        | pass v k =>
          simp only [doS] at hd
          split at hd
          . cases hd
          . rename_i how val o' hq
            cases hd
            have ho : o' = [] := by
              cases k with
              | nil => cases v <;> simp only [recS, Prod.mk.injEq] at hq <;> exact hq.2.symm
              | cons f k => cases f <;> cases v <;> simp only [recS] at hq <;> (try split at hq) <;> simp only [Prod.mk.injEq, reduceCtorEq, false_and] at hq <;> exact hq.2.symm
            subst ho
            rw [List.append_nil]
            exact Nat.le_trans h1 (by simp at hs ⊢; omega)
      | inr s' =>
        rw [hd] at h
        exact ih s' r ((doS_steps hs).1 s' hd).1 (doS_out hob hd) h
  exact key n _ r (Nat.zero_le _) (Nat.zero_le _) hn
theorem runE_fuel {P : Pg} {fuel : Int} {n : Nat} (h : runE P fuel n = 0) : 0 <= fuel /\ fuel <= 20000 := by
  unfold runE at h
  split at h
  . split at h
    . cases h
    . rename_i hq
      omega
  . cases h
def RunIs (P : Pg) (fuel : Int) (inputs : List Int) (r : Rn) : Prop :=
  (runE P fuel inputs.length = 0 -> RunsTo P fuel.toNat (startS P inputs) r /\ OkR r) /\ (runE P fuel inputs.length ≠ 0 -> r = ⟨0, 0, [], 0⟩)
theorem RunR.own {P : Pg} {w w' : World} {fuel : Int} {inputs : List Int} {e : Ending} (h : RunR P w fuel inputs e w') : ∃ (r : Rn) (A : Option Addr) (c : Nat), e = .returned (.tuple #[.agg #[.int .i64 r.stop, .int .i64 r.val, .slice A r.outs.length c, .int .i64 r.steps], .int .i64 (runE P fuel inputs.length)]) /\ OwnL w' w.heap.size (.slice A r.outs.length c) r.outs /\ Ext w w' /\ RunIs P fuel inputs r := by
  unfold RunR at h
  by_cases hq : runE P fuel inputs.length = 0
  . rw [if_pos hq] at h
    obtain ⟨q, ov, h1, h2, h3, h4⟩ := h
    obtain ⟨A, c, rfl⟩ := oSL h3
    exact ⟨q, A, c, by rw [hq]; exact h2, h3, h4, fun _ => h1, fun k => absurd hq k⟩
  . rw [if_neg hq] at h
    exact ⟨⟨0, 0, [], 0⟩, none, 0, h.1, ⟨rfl, .inl ⟨rfl, rfl⟩⟩, h.2, fun k => absurd k hq, fun _ => rfl⟩
theorem ValueR.form {P : Pg} {w w' : World} {fuel : Int} {inputs : List Int} {e : Ending} (h : ValueR P w fuel inputs e w') : (∃ s c, e = .returned (.tuple #[.string s, .int .i64 c])) /\ Ext w w' := by
  unfold ValueR at h
  split at h
  . obtain ⟨r, -, h1, h2⟩ := h; exact ⟨⟨_, _, h1⟩, h2⟩
  . exact ⟨⟨_, _, h.1⟩, h.2⟩
end Go.Proofs.YtkdglplfcpindaaGreatDoor

namespace Go.Proofs.YtkdglplfcpindaaGreatDoor
open Go.RowKit
theorem own_strs {w : World} {B : Nat} {v : Value} {l : List Str} (h : w.ownsRow B 9 1 v l.length (l.map Value.string)) (hs : ∀ s ∈ l, s.size <= maxLen) : RStrs w v l := by
  have hc := fun g (hg : v.ownBlock = some g) => World.ownsRow.cells h hg
  rcases h.2 with ⟨rfl, h0⟩ | ⟨g, cap, cur, rfl, hB, hg, hn, hm, -, -⟩
  . obtain rfl : l = [] := List.eq_nil_of_length_eq_zero h0
    exact RStrs.nil w
  . refine ⟨_, _, rfl, hn, hm, fun i a hi => ⟨g, 0, rfl, hLt hg, ?_, hs _ (List.mem_of_getElem? hi)⟩⟩
    have := hc g rfl i (.string a) (by rw [List.getElem?_map, hi]; rfl)
    rw [Nat.zero_add]
    have hadd : (⟨g, 0, none⟩ : Addr).add i = ⟨g, i, none⟩ := by unfold Addr.add; split <;> simp_all
    rwa [hadd] at this
theorem RStrs.take {w : World} {A : Option Addr} {c : Nat} {l : List Str} (h : RStrs w (.slice A l.length c) l) {k : Nat} (hk : k <= l.length) : RStrs w (.slice A k c) (l.take k) := by
  obtain ⟨A', c', e, h1, h2, h3⟩ := h
  cases e
  have hl : (l.take k).length = k := by simp; omega
  refine ⟨A, c, by rw [hl], by omega, h2, fun i a hi => ?_⟩
  have := h3 i a
  rw [List.getElem?_take] at hi
  split at hi
  . exact this hi
  . cases hi
theorem RStrs.sizes {w : World} {v : Value} {l : List Str} (h : RStrs w v l) : ∀ x ∈ l, x.size <= maxLen := by
  obtain ⟨A, c, rfl, -, -⟩ := h.form
  intro x hx
  obtain ⟨i, hi, rfl⟩ := List.getElem_of_mem hx
  obtain ⟨b, o, -, -, -, q⟩ := h.at_ hi
  exact q
end Go.Proofs.YtkdglplfcpindaaGreatDoor
