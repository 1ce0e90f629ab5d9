import Derived.Test.YtoopngnmdgcklaaPure5
namespace Go.Proofs.Ytoopngnmdgcklaa
open Go.RowKit

/-- The types that a constructor asks for, counted from 0. -/
def tsOf (l : List Arg) : List Nat := (l.filter fun a => a.ty != 0).map fun a => (a.ty - 1).toNat
theorem tsOf_append (l m : List Arg) : tsOf (l ++ m) = tsOf l ++ tsOf m := by simp [tsOf]
theorem tsOf_zero {a : Arg} (h : a.ty = 0) : tsOf [a] = [] := by simp [tsOf, h]
theorem tsOf_pos {a : Arg} (h : a.ty ≠ 0) : tsOf [a] = [(a.ty - 1).toNat] := by simp [tsOf, h]
theorem tsOf_len (l : List Arg) : (tsOf l).length ≤ l.length := by
  unfold tsOf; rw [List.length_map]; exact List.length_filter_le _ _
theorem tsOf_take {l : List Arg} {r : Nat} (h : r < l.length) : tsOf (l.take (r + 1)) = tsOf (l.take r) ++ tsOf [l[r]] := by
  rw [List.take_succ_eq_append_getElem h, tsOf_append]
def addW (c : Con) : List (List Con) → List Nat → List (List Con)
  | W, [] => W
  | W, t :: ts => addW c (W.set t (W.getD t [] ++ [c])) ts
theorem addW_append (c : Con) : ∀ (ts us : List Nat) (W : List (List Con)), addW c W (ts ++ us) = addW c (addW c W ts) us
  | [], _, _ => rfl
  | _ :: ts, us, _ => addW_append c ts us _
theorem addW_len (c : Con) : ∀ (ts : List Nat) (W : List (List Con)), (addW c W ts).length = W.length
  | [], _ => rfl
  | t :: ts, W => by show (addW c _ ts).length = _; rw [addW_len c ts]; simp
theorem getD_set_self {W : List (List Con)} {t : Nat} (L : List Con) (h : t < W.length) : (W.set t L).getD t [] = L := by simp [List.getD_eq_getElem?_getD, h]
theorem getD_set_other {W : List (List Con)} {t j : Nat} (L : List Con) (h : j ≠ t) : (W.set t L).getD j [] = W.getD j [] := by simp [List.getD_eq_getElem?_getD, List.getElem?_set_ne (Ne.symm h)]
/-- A place of 'waiting' behind the additions. -/
theorem addW_at (c : Con) : ∀ (ts : List Nat) (W : List (List Con)), (∀ t ∈ ts, t < W.length) → ∀ j, (addW c W ts).getD j [] = W.getD j [] ++ List.replicate (ts.count j) c
  | [], _, _, _ => by simp [addW]
  | t :: ts, W, h, j => by
    show (addW c _ ts).getD j [] = _
    have ht := h t (List.mem_cons_self ..)
    rw [addW_at c ts _ (fun u hu => by rw [List.length_set]; exact h u (List.mem_cons_of_mem _ hu))]
    by_cases e : j = t
    · subst e
      rw [getD_set_self _ ht]
      simp [List.append_assoc, ← List.replicate_succ]
    · rw [getD_set_other _ e]
      have : (t :: ts).count j = ts.count j := by rw [List.count_cons_of_ne (Ne.symm e)]
      rw [this]
theorem cnt_replicate (c : Con) (k : Nat) (m : Nat) : cnt (List.replicate k c) m = if c.m = m then k else 0 := by
  by_cases h : c.m = m
  · simp [cnt, h]
  · simp [cnt, h]
theorem cnt_zero {L : List Con} {m : Nat} (h : ∀ d ∈ L, d.m ≠ m) : cnt L m = 0 := by
  unfold cnt
  rw [List.length_eq_zero_iff, List.filter_eq_nil_iff]
  intro d hd
  simp [h d hd]
theorem sumN_add (n : Nat) (f g : Nat → Nat) : sumN n (fun j => f j + g j) = sumN n f + sumN n g := by
  induction n with
  | zero => rfl
  | succ n ih => simp only [sumN, ih]; omega
theorem sumN_count {n : Nat} : ∀ (ts : List Nat), (∀ t ∈ ts, t < n) → sumN n (fun j => ts.count j) = ts.length
  | [], _ => sumN_zero fun j _ => rfl
  | t :: ts, h => by
    have ih := sumN_count (n := n) ts (fun u hu => h u (List.mem_cons_of_mem _ hu))
    have hu := sumN_upd (n := n) (i := t) (f := fun j => (t :: ts).count j) (g := fun j => ts.count j) (h t (List.mem_cons_self ..)) (fun j hj => List.count_cons_of_ne (Ne.symm hj))
    have e : (t :: ts).count t = ts.count t + 1 := List.count_cons_self
    simp only [e] at hu
    simp only [List.length_cons]
    omega
def AllF (F : List Bool) : Prop := ∀ j, F.getD j false = false

theorem LJ.reg {n : Nat} {F : List Bool} {W : List (List Con)} {Q cs : List Con} {mis : Nat → Nat} (h : LJ n F W Q cs mis) (hF : AllF F) {c : Con} (hm : ∀ d ∈ cs, d.m ≠ c.m) (hi : c.i < n) (ht : ∀ t ∈ c.ts, t < n) :
    LJ n F (addW c W c.ts) (Q ++ [c]) (cs ++ [c]) (misS mis c.m (1 + c.ts.length)) := by
  have htW : ∀ t ∈ c.ts, t < W.length := fun t h' => by rw [h.Wl]; exact ht t h'
  have hQ0 : cnt Q c.m = 0 := cnt_zero fun d hd => hm d (h.memQ d hd)
  have hW0 : ∀ j, cnt (W.getD j []) c.m = 0 := fun j => cnt_zero fun d hd => hm d (h.memW j d hd)
  have hopn : ∀ W' m, sumN n (opn F W' m) = sumN n (fun j => cnt (W'.getD j []) m) := fun W' m => sumN_congr fun j _ => by
    unfold opn; rw [hF j]; rfl
  refine ⟨h.Fl, by rw [addW_len]; exact h.Wl, fun d hd => ?_, fun d hd j hj => ?_, fun d hd => ?_, fun j d hd => ?_, fun d hd => ?_, fun T hT j hj => ?_, fun d hd e he hde => ?_⟩
  · rw [hopn]
    rcases List.mem_append.1 hd with hd | hd
    · have e1 : misS mis c.m (1 + c.ts.length) d.m = mis d.m := by simp [misS, hm d hd]
      have hn := h.num d hd
      rw [hopn] at hn
      rw [e1, cnt_append, cnt_one, if_neg (fun e => hm d hd e.symm), hn, Nat.add_zero]
      congr 1
      refine sumN_congr fun j _ => ?_
      rw [addW_at c c.ts W htW, cnt_append, cnt_replicate, if_neg (fun e => hm d hd e.symm), Nat.add_zero]
    · rw [List.mem_singleton.1 hd]
      have e1 : misS mis c.m (1 + c.ts.length) c.m = 1 + c.ts.length := by simp [misS]
      have e2 : sumN n (fun j => cnt ((addW c W c.ts).getD j []) c.m) = sumN n (fun j => c.ts.count j) := sumN_congr fun j _ => by
        rw [addW_at c c.ts W htW, cnt_append, cnt_replicate, if_pos rfl, hW0, Nat.zero_add]
      rw [e1, e2, sumN_count _ ht, cnt_append, cnt_one, if_pos rfl, hQ0]
  · rw [addW_at c c.ts W htW, cnt_append, cnt_replicate]
    rcases List.mem_append.1 hd with hd | hd
    · rw [if_neg (fun e => hm d hd e.symm), Nat.add_zero]; exact h.cts d hd j hj
    · rw [List.mem_singleton.1 hd, if_pos rfl, hW0, Nat.zero_add]
  · rcases List.mem_append.1 hd with hd | hd
    · exact List.mem_append_left _ (h.memQ d hd)
    · exact List.mem_append_right _ hd
  · rw [addW_at c c.ts W htW] at hd
    rcases List.mem_append.1 hd with hd | hd
    · exact List.mem_append_left _ (h.memW j d hd)
    · rw [(List.mem_replicate.1 hd).2]; simp
  · rcases List.mem_append.1 hd with hd | hd
    · exact h.low d hd
    · rw [List.mem_singleton.1 hd]; exact ⟨hi, ht⟩
  · rw [hF j] at hj; cases hj
  · rcases List.mem_append.1 hd with hd | hd <;> rcases List.mem_append.1 he with he | he
    · exact h.inj d hd e he hde
    · rw [List.mem_singleton.1 he] at hde; exact absurd hde.symm (hm d hd)
    · rw [List.mem_singleton.1 hd] at hde; exact absurd hde (hm e he)
    · rw [List.mem_singleton.1 hd, List.mem_singleton.1 he]
theorem Fired.reg {F : List Bool} {cs : List Con} {mis : Nat → Nat} (h : Fired F cs mis) {c : Con} (hm : ∀ d ∈ cs, d.m ≠ c.m) : Fired F (cs ++ [c]) (misS mis c.m (1 + c.ts.length)) := by
  intro d hd h0
  rcases List.mem_append.1 hd with hd | hd
  · have e1 : misS mis c.m (1 + c.ts.length) d.m = mis d.m := by simp [misS, hm d hd]
    rw [e1] at h0; exact h d hd h0
  · rw [List.mem_singleton.1 hd] at h0
    simp [misS] at h0
theorem pot_reg {n : Nat} {F : List Bool} {W : List (List Con)} {Q : List Con} {c : Con} (hF : AllF F) (hW : W.length = n) (ht : ∀ t ∈ c.ts, t < n) : pot n F (addW c W c.ts) (Q ++ [c]) = pot n F W Q + 1 + c.ts.length := by
  have htW : ∀ t ∈ c.ts, t < W.length := fun t h' => by rw [hW]; exact ht t h'
  unfold pot
  have e1 : sumN n (fun j => if F.getD j false = true then 0 else ((addW c W c.ts).getD j []).length) = sumN n (fun j => (if F.getD j false = true then 0 else (W.getD j []).length) + c.ts.count j) := sumN_congr fun j _ => by
    rw [hF j, addW_at c c.ts W htW]; simp
  rw [e1, sumN_add, sumN_count _ ht, List.length_append]
  simp; omega
theorem sumN_ge {n : Nat} {f : Nat → Nat} {j : Nat} (h : j < n) : f j ≤ sumN n f := by
  induction n with
  | zero => omega
  | succ n ih =>
    simp only [sumN]
    by_cases e : j = n
    · subst e; omega
    · have := ih (by omega); omega
theorem pot_w {n : Nat} {F : List Bool} {W : List (List Con)} {Q : List Con} (hF : AllF F) (hW : W.length = n) : ∀ L ∈ W, L.length ≤ pot n F W Q := by
  intro L hL
  obtain ⟨j, hj, rfl⟩ := List.getElem_of_mem hL
  have := sumN_ge (n := n) (f := fun j => if F.getD j false = true then 0 else (W.getD j []).length) (j := j) (by omega)
  rw [hF j] at this
  have e : W.getD j [] = W[j] := by simp [List.getD_eq_getElem?_getD, hj]
  rw [e] at this
  unfold pot
  simp at this ⊢
  omega
theorem misS_misS (mis : Nat → Nat) (m a b : Nat) : misS (misS mis m a) m b = misS mis m b := by
  funext x; unfold misS; split <;> rfl
end Go.Proofs.Ytoopngnmdgcklaa
