/- Validity depends only on the free names. -/
import Derived.Test.YtfohcdpfgbeclaaGreatQ15
namespace Go.Proofs.YtfohcdpfgbeclaaGreat

theorem uK_mem {x : Bnd × Tm} : ∀ {l : List (Bnd × Tm)}, x ∈ l → 2 * x.1.1.length + uT x.2 ≤ uK l
  | [], h => by cases h
  | y :: r, h => by
    rw [uK]
    rcases List.mem_cons.1 h with rfl | h
    · omega
    · have := uK_mem h; omega
theorem uT_kid {t : Tm} {x : Bnd × Tm} (h : x ∈ kids t) : 2 * x.1.1.length + uT x.2 < uT t := by
  have := uK_mem h
  rw [uT_kids t]; omega
/-- What is free in a valid term is in scope. -/
theorem valid_free (P : Pg) : ∀ (n : Nat) (t : Tm) (V L : Scp), uT t ≤ n → validT P V L t = true → (∀ k, fvT t k = true → V k = true) ∧ (∀ k, flT t k = true → L k = true) := by
  intro n
  induction n with
  | zero => intro t V L hu; rw [uT_kids] at hu; omega
  | succ n ih =>
    intro t V L hu h
    rw [validT_kids] at h
    simp only [Bool.and_eq_true, List.all_eq_true] at h
    obtain ⟨⟨_, hr⟩, hk⟩ := h
    refine ⟨fun k hf => ?_, fun k hf => ?_⟩
    · rw [fvT_kids] at hf
      simp only [Bool.or_eq_true, Bool.and_eq_true, decide_eq_true_eq, List.any_eq_true] at hf
      rcases hf with ⟨h0, he⟩ | ⟨x, hx, hx2⟩
      · have e : k = t.nm := eqS_iff.1 he
        unfold refB at hr
        rw [if_pos h0] at hr
        rw [e]; exact hr
      · unfold fvK at hx2
        simp only [Bool.and_eq_true, Bool.not_eq_true'] at hx2
        have hv := hk x hx
        unfold validK at hv
        simp only [Bool.and_eq_true] at hv
        have h1 := (ih x.2 _ _ (by have := uT_kid hx; omega) hv.2).1 k hx2.2
        have h2 := hx2.1
        unfold addV at h1
        unfold vnames at h2
        split at h1
        · exact h1
        · rename_i hb
          rw [if_neg hb] at h2
          dsimp only at h1
          rw [h2, Bool.false_or] at h1
          exact h1
    · rw [flT_kids] at hf
      simp only [Bool.or_eq_true, Bool.and_eq_true, decide_eq_true_eq, List.any_eq_true] at hf
      rcases hf with ⟨h0, he⟩ | ⟨x, hx, hx2⟩
      · have e : k = t.nm := eqS_iff.1 he
        unfold refB at hr
        rw [if_neg (by omega), if_pos h0] at hr
        rw [e]; exact hr
      · unfold flK at hx2
        simp only [Bool.and_eq_true, Bool.not_eq_true'] at hx2
        have hv := hk x hx
        unfold validK at hv
        simp only [Bool.and_eq_true] at hv
        have h1 := (ih x.2 _ _ (by have := uT_kid hx; omega) hv.2).2 k hx2.2
        have h2 := hx2.1
        unfold addL at h1
        unfold lnames at h2
        split at h1
        · rename_i hb
          rw [if_pos hb] at h2
          dsimp only at h1
          rw [h2, Bool.false_or] at h1
          exact h1
        · exact h1
/-- A valid term stays valid where its free names are in scope. -/
theorem valid_scope (P : Pg) : ∀ (n : Nat) (t : Tm) (V L V' L' : Scp), uT t ≤ n → validT P V L t = true → (∀ k, fvT t k = true → V' k = true) → (∀ k, flT t k = true → L' k = true) → validT P V' L' t = true := by
  intro n
  induction n with
  | zero => intro t V L V' L' hu; rw [uT_kids] at hu; omega
  | succ n ih =>
    intro t V L V' L' hu h hV hL
    rw [validT_kids] at h ⊢
    simp only [Bool.and_eq_true, List.all_eq_true] at h ⊢
    obtain ⟨⟨hf, _⟩, hk⟩ := h
    refine ⟨⟨hf, ?_⟩, fun x hx => ?_⟩
    · unfold refB
      split
      · rename_i h0
        exact hV _ (by rw [fvT_kids]; simp [h0])
      · split
        · rename_i h0
          exact hL _ (by rw [flT_kids]; simp [h0])
        · rfl
    · have hv := hk x hx
      unfold validK at hv ⊢
      simp only [Bool.and_eq_true] at hv ⊢
      refine ⟨hv.1, ih x.2 _ _ _ _ (by have := uT_kid hx; omega) hv.2 (fun k hf => ?_) (fun k hf => ?_)⟩
      · unfold addV
        split
        · rename_i hb
          exact hV k (by rw [fvT_kids]; simp only [Bool.or_eq_true, List.any_eq_true]; exact .inr ⟨x, hx, by simp [fvK, vnames, hb, hf, hasS]⟩)
        · rename_i hb
          dsimp only
          cases hh : hasS x.1.1 k
          · rw [Bool.false_or]
            exact hV k (by rw [fvT_kids]; simp only [Bool.or_eq_true, List.any_eq_true]; exact .inr ⟨x, hx, by simp [fvK, vnames, hb, hf, hh]⟩)
          · rfl
      · unfold addL
        split
        · rename_i hb
          dsimp only
          cases hh : hasS x.1.1 k
          · rw [Bool.false_or]
            exact hL k (by rw [flT_kids]; simp only [Bool.or_eq_true, List.any_eq_true]; exact .inr ⟨x, hx, by simp [flK, lnames, hb, hf, hh]⟩)
          · rfl
        · rename_i hb
          exact hL k (by rw [flT_kids]; simp only [Bool.or_eq_true, List.any_eq_true]; exact .inr ⟨x, hx, by simp [flK, lnames, hb, hf, hasS]⟩)

/-! ### how many names are free -/
theorem len_nodup : ∀ (l L : List Str), l.Nodup → (∀ k ∈ l, k ∈ L) → l.length ≤ L.length
  | [], _, _, _ => Nat.zero_le _
  | a :: r, L, hn, hs => by
    have ha := hs a (List.mem_cons_self ..)
    obtain ⟨hn1, hn2⟩ := List.nodup_cons.1 hn
    obtain ⟨p, q, rfl⟩ := List.append_of_mem ha
    have h1 := len_nodup r (p ++ q) hn2 (fun k hk => by
      have h := hs k (List.mem_cons_of_mem _ hk)
      rcases List.mem_append.1 h with h | h
      · exact List.mem_append_left _ h
      · rcases List.mem_cons.1 h with h | h
        · rw [h] at hk; exact absurd hk hn1
        · exact List.mem_append_right _ h)
    simp only [List.length_append, List.length_cons] at h1 ⊢; omega
theorem names_kids (n : Nat) (f : Tm → Str → Bool) (ih : ∀ t : Tm, uT t ≤ n → ∃ L : List Str, L.length ≤ uT t ∧ ∀ k, f t k = true → k ∈ L) : ∀ l : List (Bnd × Tm), uK l ≤ n → ∃ L : List Str, L.length ≤ uK l ∧ ∀ x ∈ l, ∀ k, f x.2 k = true → k ∈ L
  | [], _ => ⟨[], Nat.zero_le _, fun x h => by cases h⟩
  | y :: r, h => by
    rw [uK] at h
    obtain ⟨L1, h1, h2⟩ := ih y.2 (by omega)
    obtain ⟨L2, h3, h4⟩ := names_kids n f ih r (by omega)
    refine ⟨L1 ++ L2, by rw [List.length_append, uK]; omega, fun x hx k hk => ?_⟩
    rcases List.mem_cons.1 hx with rfl | hx
    · exact List.mem_append_left _ (h2 k hk)
    · exact List.mem_append_right _ (h4 x hx k hk)
theorem fv_names : ∀ (n : Nat) (t : Tm), uT t ≤ n → ∃ L : List Str, L.length ≤ uT t ∧ ∀ k, fvT t k = true → k ∈ L := by
  intro n
  induction n with
  | zero => intro t hu; rw [uT_kids] at hu; omega
  | succ n ih =>
    intro t hu
    have hk := uT_kids t
    obtain ⟨L, h1, h2⟩ := names_kids n fvT ih (kids t) (by omega)
    refine ⟨t.nm :: L, by simp only [List.length_cons]; omega, fun k hf => ?_⟩
    rw [fvT_kids] at hf
    simp only [Bool.or_eq_true, Bool.and_eq_true, List.any_eq_true] at hf
    rcases hf with ⟨_, he⟩ | ⟨x, hx, hx2⟩
    · have e : k = t.nm := eqS_iff.1 he
      rw [e]; exact List.mem_cons_self ..
    · unfold fvK at hx2
      rw [Bool.and_eq_true] at hx2
      exact List.mem_cons_of_mem _ (h2 x hx k hx2.2)
theorem fl_names : ∀ (n : Nat) (t : Tm), uT t ≤ n → ∃ L : List Str, L.length ≤ uT t ∧ ∀ k, flT t k = true → k ∈ L := by
  intro n
  induction n with
  | zero => intro t hu; rw [uT_kids] at hu; omega
  | succ n ih =>
    intro t hu
    have hk := uT_kids t
    obtain ⟨L, h1, h2⟩ := names_kids n flT ih (kids t) (by omega)
    refine ⟨t.nm :: L, by simp only [List.length_cons]; omega, fun k hf => ?_⟩
    rw [flT_kids] at hf
    simp only [Bool.or_eq_true, Bool.and_eq_true, List.any_eq_true] at hf
    rcases hf with ⟨_, he⟩ | ⟨x, hx, hx2⟩
    · have e : k = t.nm := eqS_iff.1 he
      rw [e]; exact List.mem_cons_self ..
    · unfold flK at hx2
      rw [Bool.and_eq_true] at hx2
      exact List.mem_cons_of_mem _ (h2 x hx k hx2.2)
theorem sorted_nodup {l : List Str} (h : SortedS l) : l.Nodup := by
  unfold SortedS at h
  exact h.imp (fun {a b} hab e => by rw [e] at hab; exact List.lt_irrefl _ hab)
theorem free_len {t : Tm} {l : List Str} (hs : SortedS l) (hm : ∀ k, k ∈ l ↔ fvT t k = true) : l.length ≤ uT t := by
  obtain ⟨L, h1, h2⟩ := fv_names _ t (Nat.le_refl _)
  exact Nat.le_trans (len_nodup l L (sorted_nodup hs) (fun k hk => h2 k ((hm k).1 hk))) h1
theorem freeL_len {t : Tm} {l : List Str} (hs : SortedS l) (hm : ∀ k, k ∈ l ↔ flT t k = true) : l.length ≤ uT t := by
  obtain ⟨L, h1, h2⟩ := fl_names _ t (Nat.le_refl _)
  exact Nat.le_trans (len_nodup l L (sorted_nodup hs) (fun k hk => h2 k ((hm k).1 hk))) h1

/-! ### from the size to what the checks ask for -/
theorem nodesK_mem {d : Int} {y : Int × Tm} : ∀ {l : List (Bnd × Tm)}, y ∈ nodesK d l → ∃ x ∈ l, y ∈ nodesL d x.2
  | [], h => by simp [nodesK] at h
  | x :: r, h => by
    rw [nodesK] at h
    rcases List.mem_append.1 h with h | h
    · exact ⟨x, List.mem_cons_self .., h⟩
    · obtain ⟨z, hz, h'⟩ := nodesK_mem h
      exact ⟨z, List.mem_cons_of_mem _ hz, h'⟩
theorem deep_le : ∀ (n : Nat) (t : Tm) (d : Int), uT t ≤ n → ∀ y ∈ nodesL d t, d ≤ y.1 ∧ y.1 < d + uT t := by
  intro n
  induction n with
  | zero => intro t d hu; rw [uT_kids] at hu; omega
  | succ n ih =>
    intro t d hu y hy
    rw [nodesL_kids] at hy
    rcases List.mem_cons.1 hy with rfl | hy
    · exact ⟨Int.le_refl _, by rw [uT_kids]; dsimp only; omega⟩
    · obtain ⟨x, hx, hy⟩ := nodesK_mem hy
      have h1 := uT_kid hx
      have := ih x.2 (d + 1) (by omega) y hy
      omega
theorem wK_le (n : Nat) (ih : ∀ t : Tm, uT t ≤ n → wT t ≤ uT t) : ∀ l : List (Bnd × Tm), uK l ≤ n → wK l ≤ uK l
  | [], _ => by simp [wK]
  | x :: r, h => by
    rw [uK] at h
    have h1 := ih x.2 (by omega)
    have h2 := wK_le n ih r (by omega)
    rw [wK, uK]; omega
theorem wT_le : ∀ (n : Nat) (t : Tm), uT t ≤ n → wT t ≤ uT t := by
  intro n
  induction n with
  | zero => intro t hu; rw [uT_kids] at hu; omega
  | succ n ih =>
    intro t hu
    rw [wT_kids, uT_kids] at *
    have := wK_le n ih (kids t) (by omega)
    omega
theorem fine_of {t : Tm} (h : uT t ≤ 50000000) : FineT t :=
  ⟨fun y hy => by have := deep_le _ t 1 (Nat.le_refl _) y hy; omega, by have := wT_le _ t (Nat.le_refl _); omega⟩
end Go.Proofs.YtfohcdpfgbeclaaGreat

/- ref.go: what the search for free names has found so far. -/
namespace Go.Proofs.YtfohcdpfgbeclaaGreat
open Go.RowKit

/-- The accumulated variables: those given, and the free ones of the parts seen. -/
def AccV (la lv : List Str) (pre : List (Bnd × Tm)) (l : List Str) : Prop := ∀ k, k ∈ l ↔ k ∈ la ∨ (hasS lv k = false ∧ pre.any (fvK k) = true)
theorem AccV.zero (la lv : List Str) : AccV la lv [] la := fun k => by simp
theorem AccV.step {la lv l l' : List Str} {pre : List (Bnd × Tm)} {y : Bnd × Tm} (h : AccV la lv pre l) (h' : ∀ k, k ∈ l' ↔ k ∈ l ∨ (hasS (lv ++ vnames y.1) k = false ∧ fvT y.2 k = true)) : AccV la lv (pre ++ [y]) l' := fun k => by
  rw [h' k, h k, List.any_append, hasS_append]
  have e : fvK k y = (!hasS (vnames y.1) k && fvT y.2 k) := rfl
  simp only [List.any_cons, List.any_nil, Bool.or_false, e]
  cases hasS lv k <;> cases hasS (vnames y.1) k <;> cases fvT y.2 k <;> cases pre.any (fvK k) <;> simp
/-- The node itself, and all its parts. -/
theorem AccV.whole {la la1 lv l : List Str} {t : Tm} (h1 : ∀ k, k ∈ la1 ↔ k ∈ la ∨ (t.op = 0 ∧ hasS lv k = false ∧ k = t.nm)) (h : AccV la1 lv (kids t) l) : ∀ k, k ∈ l ↔ k ∈ la ∨ (hasS lv k = false ∧ fvT t k = true) := fun k => by
  rw [h k, h1 k, fvT_kids]
  have e : (k.toList == t.nm.toList) = eqS k t.nm := rfl
  rw [e, Bool.or_eq_true, Bool.and_eq_true, decide_eq_true_eq, eqS_iff]
  constructor
  · rintro ((h | ⟨h1, h2, h3⟩) | ⟨h1, h2⟩)
    · exact .inl h
    · exact .inr ⟨h2, .inl ⟨h1, h3⟩⟩
    · exact .inr ⟨h1, .inr h2⟩
  · rintro (h | ⟨h1, h2 | h2⟩)
    · exact .inl (.inl h)
    · exact .inl (.inr ⟨h2.1, h1, h2.2⟩)
    · exact .inr ⟨h1, h2⟩

/-- The accumulated labels: those given, and the free ones of the parts seen. -/
def AccL (la lv : List Str) (pre : List (Bnd × Tm)) (l : List Str) : Prop := ∀ k, k ∈ l ↔ k ∈ la ∨ (hasS lv k = false ∧ pre.any (flK k) = true)
theorem AccL.zero (la lv : List Str) : AccL la lv [] la := fun k => by simp
theorem AccL.step {la lv l l' : List Str} {pre : List (Bnd × Tm)} {y : Bnd × Tm} (h : AccL la lv pre l) (h' : ∀ k, k ∈ l' ↔ k ∈ l ∨ (hasS (lv ++ lnames y.1) k = false ∧ flT y.2 k = true)) : AccL la lv (pre ++ [y]) l' := fun k => by
  rw [h' k, h k, List.any_append, hasS_append]
  have e : flK k y = (!hasS (lnames y.1) k && flT y.2 k) := rfl
  simp only [List.any_cons, List.any_nil, Bool.or_false, e]
  cases hasS lv k <;> cases hasS (lnames y.1) k <;> cases flT y.2 k <;> cases pre.any (flK k) <;> simp
/-- The node itself, and all its parts. -/
theorem AccL.whole {la la1 lv l : List Str} {t : Tm} (h1 : ∀ k, k ∈ la1 ↔ k ∈ la ∨ (t.op = 12 ∧ hasS lv k = false ∧ k = t.nm)) (h : AccL la1 lv (kids t) l) : ∀ k, k ∈ l ↔ k ∈ la ∨ (hasS lv k = false ∧ flT t k = true) := fun k => by
  rw [h k, h1 k, flT_kids]
  have e : (k.toList == t.nm.toList) = eqS k t.nm := rfl
  rw [e, Bool.or_eq_true, Bool.and_eq_true, decide_eq_true_eq, eqS_iff]
  constructor
  · rintro ((h | ⟨h1, h2, h3⟩) | ⟨h1, h2⟩)
    · exact .inl h
    · exact .inr ⟨h2, .inl ⟨h1, h3⟩⟩
    · exact .inr ⟨h1, .inr h2⟩
  · rintro (h | ⟨h1, h2 | h2⟩)
    · exact .inl (.inl h)
    · exact .inl (.inr ⟨h2.1, h1, h2.2⟩)
    · exact .inr ⟨h1, h2⟩
end Go.Proofs.YtfohcdpfgbeclaaGreat

/- ref.go: what the search has found so far, with the lists in memory. -/
namespace Go.Proofs.YtfohcdpfgbeclaaGreat
open Go.RowKit

/-- What the search answers. -/
structure FRes (lv ll la lb : List Str) (t : Tm) (w : World) (r1 r2 : Value) (l1 l2 : List Str) : Prop where
  s1 : RStrs w r1 l1
  s2 : RStrs w r2 l2
  o1 : SortedS l1
  o2 : SortedS l2
  m1 : ∀ k, k ∈ l1 ↔ k ∈ la ∨ (hasS lv k = false ∧ fvT t k = true)
  m2 : ∀ k, k ∈ l2 ↔ k ∈ lb ∨ (hasS ll k = false ∧ flT t k = true)
  n1 : l1.length ≤ la.length + uT t
  n2 : l2.length ≤ lb.length + uT t

/-- What has been found in the parts seen. -/
structure FInv (lv ll la lb : List Str) (pre : List (Bnd × Tm)) (w : World) (r1 r2 : Value) (l1 l2 : List Str) : Prop where
  s1 : RStrs w r1 l1
  s2 : RStrs w r2 l2
  o1 : SortedS l1
  o2 : SortedS l2
  m1 : AccV la lv pre l1
  m2 : AccL lb ll pre l2
  n1 : l1.length ≤ la.length + uK pre
  n2 : l2.length ≤ lb.length + uK pre
theorem FInv.step {lv ll la lb : List Str} {pre : List (Bnd × Tm)} {w w' : World} {r1 r2 q1 q2 : Value} {l1 l2 m1 m2 : List Str} {y : Bnd × Tm} (h : FInv lv ll la lb pre w r1 r2 l1 l2)
    (g : FRes (lv ++ vnames y.1) (ll ++ lnames y.1) l1 l2 y.2 w' q1 q2 m1 m2) : FInv lv ll la lb (pre ++ [y]) w' q1 q2 m1 m2 :=
  ⟨g.s1, g.s2, g.o1, g.o2, h.m1.step g.m1, h.m2.step g.m2, by have := h.n1; have := g.n1; rw [uK_append]; simp [uK]; omega, by have := h.n2; have := g.n2; rw [uK_append]; simp [uK]; omega⟩
theorem FInv.below {lv ll la lb : List Str} {pre : List (Bnd × Tm)} {w w' : World} {r1 r2 : Value} {l1 l2 : List Str} (h : FInv lv ll la lb pre w r1 r2 l1 l2) (hb : Ext w w') : FInv lv ll la lb pre w' r1 r2 l1 l2 :=
  ⟨h.s1.below hb, h.s2.below hb, h.o1, h.o2, h.m1, h.m2, h.n1, h.n2⟩
theorem FInv.whole {lv ll la lb la1 lb1 : List Str} {t : Tm} {w : World} {r1 r2 : Value} {l1 l2 : List Str} (h : FInv lv ll la1 lb1 (kids t) w r1 r2 l1 l2)
    (ha : ∀ k, k ∈ la1 ↔ k ∈ la ∨ (t.op = 0 ∧ hasS lv k = false ∧ k = t.nm)) (hb : ∀ k, k ∈ lb1 ↔ k ∈ lb ∨ (t.op = 12 ∧ hasS ll k = false ∧ k = t.nm))
    (na : la1.length ≤ la.length + 1) (nb : lb1.length ≤ lb.length + 1) : FRes lv ll la lb t w r1 r2 l1 l2 :=
  ⟨h.s1, h.s2, h.o1, h.o2, AccV.whole ha h.m1, AccL.whole hb h.m2, by have := h.n1; have := uT_kids t; omega, by have := h.n2; have := uT_kids t; omega⟩

/-- The parts before the argument j, and with it. -/
def preA (t : Tm) (j : Nat) : List (Bnd × Tm) := (kidsFrom t.op t.nm 0 t.args).take j
def preC (t : Tm) (j : Nat) : List (Bnd × Tm) := kidsFrom t.op t.nm 0 t.args ++ (t.cls.map fun c => ((c.1, false), c.2)).take j
theorem preA_zero (t : Tm) : preA t 0 = [] := rfl
theorem preA_succ {t : Tm} {j : Nat} (hj : j < t.args.length) : preA t (j + 1) = preA t j ++ [(bndAt t.op t.nm j, t.args[j])] := by
  unfold preA
  have h := kidsFrom_get t.op t.nm t.args 0 j _ (List.getElem?_eq_getElem hj)
  rw [Nat.zero_add] at h
  rw [List.take_add_one, h]; rfl
theorem preA_end (t : Tm) : preA t t.args.length = preC t 0 := by
  unfold preA preC
  rw [List.take_of_length_le (by rw [kidsFrom_length]; exact Nat.le_refl _)]; simp
theorem preC_succ {t : Tm} {j : Nat} (hj : j < t.cls.length) : preC t (j + 1) = preC t j ++ [((t.cls[j].1, false), t.cls[j].2)] := by
  unfold preC
  rw [List.take_add_one, List.getElem?_map, List.getElem?_eq_getElem hj, List.append_assoc]; rfl
theorem preC_end (t : Tm) : preC t t.cls.length = kids t := by
  unfold preC kids
  rw [List.take_of_length_le (by simp)]
theorem preC_pre (t : Tm) (j : Nat) : preC t j <+: kids t := by
  unfold preC kids
  exact List.prefix_append_right_inj _ |>.2 (List.take_prefix _ _)
theorem preA_pre (t : Tm) (j : Nat) : preA t j <+: kids t := by
  unfold preA kids
  exact (List.take_prefix _ _).trans (List.prefix_append _ _)
theorem uA_at {t : Tm} {j : Nat} (hj : j < t.args.length) : 1 + uK (preA t j) + (2 * (bndAt t.op t.nm j).1.length + uT t.args[j]) ≤ uT t := by
  have h := uK_pre (pre := preA t j) (y := (bndAt t.op t.nm j, t.args[j])) (l := kids t) (by rw [← preA_succ hj]; exact preA_pre _ _)
  rw [uT_kids t]
  dsimp only at h
  omega
theorem uC_at {t : Tm} {j : Nat} (hj : j < t.cls.length) : 1 + uK (preC t j) + (2 * t.cls[j].1.length + uT t.cls[j].2) ≤ uT t := by
  have h := uK_pre (pre := preC t j) (y := ((t.cls[j].1, false), t.cls[j].2)) (l := kids t) (by rw [← preC_succ hj]; exact preC_pre _ _)
  rw [uT_kids t]
  dsimp only at h
  omega
theorem vn_len (b : Bnd) : (vnames b).length ≤ b.1.length := by unfold vnames; split <;> simp
theorem ln_len (b : Bnd) : (lnames b).length ≤ b.1.length := by unfold lnames; split <;> simp
theorem vn_8 {op : Int} {nm : Str} {i : Nat} (h : op = 8) (hi : i = 1) : vnames (bndAt op nm i) = [nm] ∧ lnames (bndAt op nm i) = [] := by rw [bnd_8 h hi]; exact ⟨rfl, rfl⟩
theorem vn_11 {op : Int} {nm : Str} {i : Nat} (h : op = 11) (hi : i = 0) : vnames (bndAt op nm i) = [] ∧ lnames (bndAt op nm i) = [nm] := by rw [bnd_11 h hi]; exact ⟨rfl, rfl⟩
theorem vn_no {op : Int} {nm : Str} {i : Nat} (h1 : ¬ (op = 8 ∧ i = 1)) (h2 : ¬ (op = 11 ∧ i = 0)) : vnames (bndAt op nm i) = [] ∧ lnames (bndAt op nm i) = [] := by rw [bnd_no h1 h2]; exact ⟨rfl, rfl⟩
/-- Where the search's loops begin. -/
structure FStart (lv ll la lb : List Str) (t : Tm) (w1 w5 : World) (r1 r2 : Value) (la1 lb1 : List Str) : Prop where
  inv : FInv lv ll la1 lb1 [] w5 r1 r2 la1 lb1
  ext : Ext w1 w5
  ma : ∀ k, k ∈ la1 ↔ k ∈ la ∨ (t.op = 0 ∧ hasS lv k = false ∧ k = t.nm)
  mb : ∀ k, k ∈ lb1 ↔ k ∈ lb ∨ (t.op = 12 ∧ hasS ll k = false ∧ k = t.nm)
  na : la1.length ≤ la.length + 1
  nb : lb1.length ≤ lb.length + 1
theorem FStart.none {lv ll la lb : List Str} {t : Tm} {w : World} {r1 r2 : Value} (h1 : RStrs w r1 la) (h2 : RStrs w r2 lb) (o1 : SortedS la) (o2 : SortedS lb) (hv : t.op = 0 → hasS lv t.nm = true) (hl : t.op = 12 → hasS ll t.nm = true) : FStart lv ll la lb t w w r1 r2 la lb :=
  ⟨⟨h1, h2, o1, o2, AccV.zero _ _, AccL.zero _ _, Nat.le_add_right _ _, Nat.le_add_right _ _⟩, Ext.rf _, fun k => ⟨.inl, fun h => h.elim id (fun ⟨h, h', e⟩ => by rw [e, hv h] at h'; cases h')⟩, fun k => ⟨.inl, fun h => h.elim id (fun ⟨h, h', e⟩ => by rw [e, hl h] at h'; cases h')⟩, Nat.le_succ _, Nat.le_succ _⟩
theorem FStart.var {lv ll la lb la1 : List Str} {t : Tm} {w w' : World} {r1 r2 : Value} (hx : Ext w w') (h1 : RStrs w' r1 la1) (h2 : RStrs w r2 lb) (o1 : SortedS la1) (o2 : SortedS lb) (hm : ∀ k, k ∈ la1 ↔ k ∈ la ∨ k = t.nm) (hn : la1.length ≤ la.length + 1)
    (h0 : t.op = 0) (hq : hasS lv t.nm = false) : FStart lv ll la lb t w w' r1 r2 la1 lb :=
  ⟨⟨h1, h2.below hx, o1, o2, AccV.zero _ _, AccL.zero _ _, Nat.le_add_right _ _, Nat.le_add_right _ _⟩, hx, fun k => by
    rw [hm k]
    constructor
    · rintro (h | rfl)
      · exact .inl h
      · exact .inr ⟨h0, hq, rfl⟩
    · rintro (h | ⟨-, -, h⟩)
      · exact .inl h
      · exact .inr h, fun k => ⟨.inl, fun h => h.elim id (fun ⟨h, _⟩ => by rw [h0] at h; cases h)⟩, hn, Nat.le_succ _⟩
theorem FStart.lab {lv ll la lb lb1 : List Str} {t : Tm} {w w' : World} {r1 r2 : Value} (hx : Ext w w') (h1 : RStrs w r1 la) (h2 : RStrs w' r2 lb1) (o1 : SortedS la) (o2 : SortedS lb1) (hm : ∀ k, k ∈ lb1 ↔ k ∈ lb ∨ k = t.nm) (hn : lb1.length ≤ lb.length + 1)
    (h0 : t.op = 12) (hq : hasS ll t.nm = false) : FStart lv ll la lb t w w' r1 r2 la lb1 :=
  ⟨⟨h1.below hx, h2, o1, o2, AccV.zero _ _, AccL.zero _ _, Nat.le_add_right _ _, Nat.le_add_right _ _⟩, hx, fun k => ⟨.inl, fun h => h.elim id (fun ⟨h, _⟩ => by rw [h0] at h; cases h)⟩, fun k => by
    rw [hm k]
    constructor
    · rintro (h | rfl)
      · exact .inl h
      · exact .inr ⟨h0, hq, rfl⟩
    · rintro (h | ⟨-, -, h⟩)
      · exact .inl h
      · exact .inr h, Nat.le_succ _, hn⟩
end Go.Proofs.YtfohcdpfgbeclaaGreat

/- How many nodes a term has, and how deep it is; rows of terms. -/
namespace Go.Proofs.YtfohcdpfgbeclaaGreat
open Go.RowKit

def nT (t : Tm) : Nat := (nodesL 1 t).length
def chT (t : Tm) : List Tm := t.args ++ t.cls.map (·.2)
def nL : List Tm → Nat
  | [] => 0
  | x :: r => nT x + nL r
theorem kids_chT (t : Tm) : (kids t).map (·.2) = chT t := by
  have h : ∀ (l : List Tm) (i : Nat), (kidsFrom t.op t.nm i l).map (·.2) = l := by
    intro l
    induction l with
    | nil => intro i; rfl
    | cons a r ih => intro i; simp [kidsFrom, ih]
  unfold kids chT
  rw [List.map_append, h, List.map_map]; rfl
theorem len_same : ∀ (n : Nat) (t : Tm) (d : Int), uT t ≤ n → (nodesL d t).length = nT t := by
  intro n
  induction n with
  | zero => intro t d hu; rw [uT_kids] at hu; omega
  | succ n ih =>
    intro t d hu
    have hk := uT_kids t
    have h : ∀ (l : List (Bnd × Tm)) (d e : Int), uK l ≤ n → (nodesK d l).length = (nodesK e l).length := by
      intro l
      induction l with
      | nil => intro d e _; rfl
      | cons x r ihr =>
        intro d e hl
        rw [uK] at hl
        rw [nodesK, nodesK, List.length_append, List.length_append, ih x.2 d (by omega), ih x.2 e (by omega), ihr d e (by omega)]
    unfold nT
    rw [nodesL_kids, nodesL_kids, List.length_cons, List.length_cons, h (kids t) (d + 1) (1 + 1) (by omega)]
theorem nodesK_len (d : Int) : ∀ l : List (Bnd × Tm), (nodesK d l).length = nL (l.map (·.2))
  | [] => rfl
  | x :: r => by rw [nodesK, List.length_append, len_same _ x.2 d (Nat.le_refl _), nodesK_len d r]; rfl
theorem nT_kids (t : Tm) : nT t = 1 + nL (chT t) := by
  unfold nT
  rw [nodesL_kids, List.length_cons, nodesK_len, kids_chT]; omega
theorem nT_pos (t : Tm) : 1 ≤ nT t := by rw [nT_kids]; omega
theorem nL_append (m : List Tm) : ∀ l, nL (l ++ m) = nL l + nL m
  | [] => by simp [nL]
  | x :: r => by rw [List.cons_append, nL, nL, nL_append m r]; omega
theorem nL_len : ∀ l : List Tm, l.length ≤ nL l
  | [] => Nat.zero_le _
  | x :: r => by rw [nL]; have := nT_pos x; have := nL_len r; simp only [List.length_cons]; omega
theorem nL_take {l : List Tm} {j : Nat} (h : j < l.length) : nL (l.take (j + 1)) = nL (l.take j) + nT l[j] := by
  rw [List.take_succ_eq_append_getElem h, nL_append]; simp [nL]
theorem nL_take_le (l : List Tm) (j : Nat) : nL (l.take j) ≤ nL l := by
  have := nL_append (l.drop j) (l.take j)
  rw [List.take_append_drop] at this; omega
theorem nL_mem {l : List Tm} {x : Tm} (h : x ∈ l) : nT x ≤ nL l := by
  obtain ⟨p, q, rfl⟩ := List.append_of_mem h
  rw [nL_append, nL]; omega

mutual
def dT : Tm → Int
  | .mk _ _ _ _ args cls => 1 + max (dA args) (dC cls)
def dA : List Tm → Int
  | [] => 0
  | a :: r => max (dT a) (dA r)
def dC : List (List Str × Tm) → Int
  | [] => 0
  | (_, t) :: r => max (dT t) (dC r)
end
def dL : List Tm → Int
  | [] => 0
  | a :: r => max (dT a) (dL r)
theorem dL_nonneg : ∀ l, 0 ≤ dL l
  | [] => Int.le_refl _
  | a :: r => by rw [dL]; have := dL_nonneg r; omega
theorem dL_append (m : List Tm) : ∀ l, dL (l ++ m) = max (dL l) (dL m)
  | [] => by have := dL_nonneg m; simp only [List.nil_append, dL]; omega
  | x :: r => by rw [List.cons_append, dL, dL, dL_append m r]; omega
theorem dA_dL : ∀ l, dA l = dL l
  | [] => by simp [dA, dL]
  | a :: r => by rw [dA, dL, dA_dL r]
theorem dC_dL : ∀ l : List (List Str × Tm), dC l = dL (l.map (·.2))
  | [] => by simp [dC, dL]
  | (_, t) :: r => by rw [dC, dC_dL r]; rfl
theorem dT_kids (t : Tm) : dT t = 1 + dL (chT t) := by
  cases t with
  | mk op n nm ty args cls => rw [dT, dA_dL, dC_dL, chT, dL_append]; rfl
theorem dL_take {l : List Tm} {j : Nat} (h : j < l.length) : dL (l.take (j + 1)) = max (dL (l.take j)) (dT l[j]) := by
  rw [List.take_succ_eq_append_getElem h, dL_append]
  have := dL_nonneg (l.take j)
  simp only [dL]; omega
theorem dL_le : ∀ (n : Int) (l : List Tm), 0 ≤ n → (dL l ≤ n ↔ ∀ x ∈ l, dT x ≤ n)
  | n, [], h => by simp [dL, h]
  | n, a :: r, h => by
    have := dL_le n r h
    rw [dL]
    constructor
    · intro h1 x hx
      rcases List.mem_cons.1 hx with rfl | hx
      · omega
      · exact this.1 (by omega) x hx
    · intro h1
      have h2 := h1 a (List.mem_cons_self ..)
      have h3 := this.2 (fun x hx => h1 x (List.mem_cons_of_mem _ hx))
      omega
theorem uT_ch {t x : Tm} (h : x ∈ chT t) : uT x < uT t := by
  rw [← kids_chT] at h
  obtain ⟨y, hy, rfl⟩ := List.mem_map.1 h
  have := uT_kid hy; omega
theorem dT_pos (t : Tm) : 1 ≤ dT t := by rw [dT_kids]; have := dL_nonneg (chT t); omega
theorem dep_all : ∀ (n : Nat) (t : Tm) (d N : Int), uT t ≤ n → ((∀ y ∈ nodesL d t, y.1 ≤ N) ↔ d + dT t - 1 ≤ N) := by
  intro n
  induction n with
  | zero => intro t d N hu; rw [uT_kids] at hu; omega
  | succ n ih =>
    intro t d N hu
    rw [nodesL_kids, dT_kids]
    have h0 := dL_nonneg (chT t)
    constructor
    · intro h
      have h1 := h (d, t) (List.mem_cons_self ..)
      dsimp only at h1
      have h2 : dL (chT t) ≤ N - d := (dL_le _ _ (by omega)).2 (fun x hx => by
        have hx' := hx
        rw [← kids_chT] at hx
        obtain ⟨y, hy, rfl⟩ := List.mem_map.1 hx
        have h3 := (ih y.2 (d + 1) N (by have := uT_ch hx'; omega)).1 (fun z hz => h z (List.mem_cons_of_mem _ (by
          obtain ⟨p, q, e⟩ := List.append_of_mem hy
          rw [e, nodesK_append]
          exact List.mem_append_right _ (List.mem_append_left _ hz))))
        omega)
      omega
    · intro h y hy
      rcases List.mem_cons.1 hy with rfl | hy
      · dsimp only; omega
      · obtain ⟨x, hx, hy⟩ := nodesK_mem hy
        have hx' : x.2 ∈ chT t := by rw [← kids_chT]; exact List.mem_map.2 ⟨x, hx, rfl⟩
        have h4 := (dL_le (N - d) (chT t) (by omega)).1 (by omega) x.2 hx'
        exact (ih x.2 (d + 1) N (by have := uT_ch hx'; omega)).2 (by omega) y hy
theorem size_small (t : Tm) : (sizeR t).2 = (decide (nT t ≤ 600) && decide (dT t ≤ 24)) := by
  have h : sizeOK (nodesL 1 t) = (decide (nT t ≤ 600) && decide (dT t ≤ 24)) := by
    unfold sizeOK
    have h1 := dep_all _ t 1 24 (Nat.le_refl _)
    have h2 : (nodesL 1 t).all (fun p => decide (p.1 ≤ 24)) = decide (dT t ≤ 24) := by
      rw [Bool.eq_iff_iff, List.all_eq_true, decide_eq_true_eq]
      simp only [decide_eq_true_eq]
      rw [h1]; omega
    rw [h2]; rfl
  unfold sizeR
  rw [h]
  cases (decide (nT t ≤ 600) && decide (dT t ≤ 24)) <;> rfl
theorem size_num {t : Tm} (h : (sizeR t).2 = true) : (sizeR t).1 = nT t := by
  unfold sizeR at *
  split
  · rfl
  · rename_i h1; rw [if_neg h1] at h; cases h

/-! ### rows of terms -/
abbrev Trm := Tm × Value × Value
def cells1 (x : Trm) : List Value := [.int .i64 x.1.op, .int .i64 x.1.n, .string x.1.nm, .int .i64 x.1.ty, x.2.1, x.2.2]
def cellsT : List Trm → List Value
  | [] => []
  | x :: r => cells1 x ++ cellsT r
theorem cellsT_append (m : List Trm) : ∀ l, cellsT (l ++ m) = cellsT l ++ cellsT m
  | [] => rfl
  | x :: r => by rw [List.cons_append, cellsT, cellsT, cellsT_append m r, List.append_assoc]
theorem cellsT_len : ∀ l, (cellsT l).length = l.length * 6
  | [] => rfl
  | x :: r => by rw [cellsT, List.length_append, cellsT_len r]; simp [cells1]; omega
theorem cellsT_at : ∀ (l : List Trm) (i r : Nat) (x : Trm), l[i]? = some x → r < 6 → (cellsT l)[i * 6 + r]? = (cells1 x)[r]?
  | [], _, _, _, h, _ => by simp at h
  | y :: l, 0, r, x, h, hr => by
    simp at h; subst h
    rw [cellsT, List.getElem?_append_left (by simp [cells1]; omega)]; simp
  | y :: l, i + 1, r, x, h, hr => by
    simp at h
    rw [cellsT, List.getElem?_append_right (by simp [cells1]; omega), ← cellsT_at l i r x h hr]
    congr 1; simp [cells1]; omega
def RTms (w : World) (k : Nat) (v : Value) (l : List Tm) : Prop :=
  ∃ A c, v = .slice A l.length c ∧ l.length ≤ c ∧ c ≤ maxLen ∧
    ∀ i x, l[i]? = some x → ∃ b o xa xc, A = some ⟨b, o, none⟩ ∧ b < w.heap.size ∧ C6 w b (o + i * 6) x xa xc ∧ RT w k x xa xc
theorem RTms.below {w w' : World} {k : Nat} {v : Value} {l : List Tm} (h : RTms w k v l) (hb : Ext w w') : RTms w' k v l := by
  obtain ⟨A, c, rfl, h1, h2, h3⟩ := h
  refine ⟨A, c, rfl, h1, h2, fun i x hi => ?_⟩
  obtain ⟨b, o, xa, xc, rfl, hlt, hc, hr⟩ := h3 i x hi
  exact ⟨b, o, xa, xc, rfl, Nat.lt_of_lt_of_le hlt hb.size, hc.below hb, hr.below hb⟩
theorem RTms.form {w : World} {k : Nat} {v : Value} {l : List Tm} (h : RTms w k v l) : ∃ A c, v = .slice A l.length c ∧ l.length ≤ c ∧ c ≤ maxLen := by
  obtain ⟨A, c, h1, h2, h3, _⟩ := h; exact ⟨A, c, h1, h2, h3⟩
theorem RTms.at_ {w : World} {k : Nat} {l : List Tm} {A : Option Addr} {c : Nat} (h : RTms w k (.slice A l.length c) l) {i : Nat} (hi : i < l.length) :
    ∃ b o xa xc, A = some ⟨b, o, none⟩ ∧ b < w.heap.size ∧ C6 w b (o + i * 6) l[i] xa xc ∧ RT w k l[i] xa xc := by
  obtain ⟨A', c', he, h1, h2, h3⟩ := h
  cases he
  exact h3 i _ (List.getElem?_eq_getElem hi)
theorem own_RTms {w : World} {B k : Nat} {v : Value} {L : List Trm} (h : w.ownsRow B 43 6 v L.length (cellsT L)) (hr : ∀ x ∈ L, RT w k x.1 x.2.1 x.2.2) : RTms w k v (L.map (·.1)) := by
  rcases h.2 with ⟨rfl, h0⟩ | ⟨g, cap, cur, rfl, e2, e3, e4, e5, e6, e7⟩
  · have hL : L = [] := List.eq_nil_of_length_eq_zero h0
    subst hL
    exact ⟨none, 0, rfl, Nat.le_refl _, Nat.zero_le _, fun i x hx => by simp at hx⟩
  · refine ⟨_, cap, by rw [List.length_map], by rw [List.length_map]; exact e4, e5, fun i x hx => ?_⟩
    rw [List.getElem?_map] at hx
    obtain ⟨y, hy, rfl⟩ := Option.map_eq_some_iff.1 hx
    have hi : i < L.length := (List.getElem?_eq_some_iff.1 hy).1
    have hc : ∀ r u, r < 6 → (cells1 y)[r]? = some u → w.cell? ⟨g, i * 6 + r, none⟩ = some u := fun r u hr6 hu => by
      have h1 := cellsT_at L i r y hy hr6
      rw [World.ownsRow.cellAt h (i * 6 + r) (by omega), h1]; exact hu
    exact ⟨g, 0, y.2.1, y.2.2, rfl, (Array.getElem?_eq_some_iff.1 e3).1, by
      rw [Nat.zero_add]
      exact ⟨hc 0 _ (by omega) rfl, hc 1 _ (by omega) rfl, hc 2 _ (by omega) rfl, hc 3 _ (by omega) rfl, hc 4 _ (by omega) rfl, hc 5 _ (by omega) rfl⟩, hr y (List.mem_of_getElem? hy)⟩
theorem RT.rowA {w : World} {k : Nat} {t : Tm} {A : Option Addr} {c : Nat} {vc : Value} (h : RT w (k + 1) t (.slice A t.args.length c) vc) : ∃ L : List Trm, L.map (·.1) = t.args ∧ (∀ x ∈ L, RT w k x.1 x.2.1 x.2.2) ∧ SrcN w A t.args.length 6 (cellsT L) := by
  have hex : ∀ i, i < t.args.length → ∃ y : Trm, t.args[i]? = some y.1 ∧ RT w k y.1 y.2.1 y.2.2 ∧ ∃ b o, A = some ⟨b, o, none⟩ ∧ C6 w b (o + i * 6) y.1 y.2.1 y.2.2 := fun i hi => by
    obtain ⟨b, o, xa, xc, e, _, hc, hr⟩ := h.arg hi
    exact ⟨(t.args[i], xa, xc), List.getElem?_eq_getElem hi, hr, b, o, e, hc⟩
  obtain ⟨L, hl, hp⟩ := list_of t.args.length hex
  have hmap : L.map (·.1) = t.args := by
    apply List.ext_getElem? 
    intro i
    rw [List.getElem?_map]
    by_cases hi : i < L.length
    · rw [List.getElem?_eq_getElem hi, (hp i _ (List.getElem?_eq_getElem hi)).1]; rfl
    · rw [List.getElem?_eq_none (by omega), List.getElem?_eq_none (by omega)]; rfl
  refine ⟨L, hmap, fun x hx => ?_, ?_⟩
  · obtain ⟨i, hi⟩ := List.mem_iff_getElem?.1 hx
    exact (hp i x hi).2.1
  · cases L with
    | nil =>
      have h0 : t.args.length = 0 := by simpa using hl.symm
      cases A with
      | none => exact .inl ⟨rfl, h0, rfl⟩
      | some ad => exact .inr ⟨ad, rfl, by rw [h0]; rfl, fun j u hu => by simp [cellsT] at hu⟩
    | cons y r =>
      obtain ⟨_, _, b, o, rfl, _⟩ := hp 0 y rfl
      refine .inr ⟨_, rfl, by rw [cellsT_len, hl], fun j u hu => ?_⟩
      have hj : j < (cellsT (y :: r)).length := (List.getElem?_eq_some_iff.1 hu).1
      rw [cellsT_len] at hj
      have hi : j / 6 < (y :: r).length := by omega
      obtain ⟨_, _, b', o', e, hc⟩ := hp (j / 6) _ (List.getElem?_eq_getElem hi)
      cases e
      have hr6 : j % 6 < 6 := Nat.mod_lt _ (by omega)
      have hje : j = j / 6 * 6 + j % 6 := by omega
      rw [hje, cellsT_at _ _ _ _ (List.getElem?_eq_getElem hi) hr6] at hu
      rw [add_at, hje, ← Nat.add_assoc]
      generalize hq : j % 6 = q at *
      match q, hr6 with
      | 0, _ => rw [← Option.some.inj hu]; exact hc.c0
      | 1, _ => rw [← Option.some.inj hu]; exact hc.c1
      | 2, _ => rw [← Option.some.inj hu]; exact hc.c2
      | 3, _ => rw [← Option.some.inj hu]; exact hc.c3
      | 4, _ => rw [← Option.some.inj hu]; exact hc.c4
      | 5, _ => rw [← Option.some.inj hu]; exact hc.c5
theorem cellsT_one {w : World} {k : Nat} (L : List Trm) (h : ∀ x ∈ L, RT w k x.1 x.2.1 x.2.2) : ∀ u ∈ cellsT L, u.oneCell' = true := by
  induction L with
  | nil => intro u hu; cases hu
  | cons x r ih =>
    intro u hu
    rw [cellsT] at hu
    rcases List.mem_append.1 hu with hu | hu
    · obtain ⟨_, ⟨_, _, e1, _⟩, ⟨_, _, e2, _⟩⟩ := (h x (List.mem_cons_self ..)).form
      simp only [cells1, e1, e2, List.mem_cons, List.not_mem_nil, or_false] at hu
      rcases hu with rfl | rfl | rfl | rfl | rfl | rfl <;> rfl
    · exact ih (fun y hy => h y (List.mem_cons_of_mem _ hy)) u hu
end Go.Proofs.YtfohcdpfgbeclaaGreat
