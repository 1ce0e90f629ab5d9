import Derived.Test.YtoopngnmdgcklaaPure6
namespace Go.Proofs.Ytoopngnmdgcklaa
open Go.RowKit

def conX (i : Nat) : List Xtor → List (Nat × List Nat)
  | [] => []
  | x :: r => (if hasCo x.args then [] else [(i, tsOf x.args)]) ++ conX i r
def conD : Nat → List Decl → List (Nat × List Nat)
  | _, [] => []
  | i, d :: r => (if d.codata then [] else conX i d.xtors) ++ conD (i + 1) r
def CloP (L : List (Nat × List Nat)) (T : Nat → Prop) : Prop := ∀ p ∈ L, (∀ t ∈ p.2, T t) → T p.1
def onB (S : List Bool) (j : Nat) : Prop := S.getD j false = true
def leB (S S' : List Bool) : Prop := ∀ j, onB S j → onB S' j
def tyOk (l : List Arg) : Prop := ∀ a ∈ l, 0 ≤ a.ty

theorem Clo_iff {cs : List Con} {T : Nat → Prop} : Clo cs T ↔ CloP (cs.map fun c => (c.i, c.ts)) T := by
  constructor
  · intro h p hp
    obtain ⟨c, hc, rfl⟩ := List.mem_map.1 hp
    exact h c hc
  · intro h c hc
    exact h (c.i, c.ts) (List.mem_map.2 ⟨c, hc, rfl⟩)
theorem built_iff {S : List Bool} : ∀ {l : List Arg}, tyOk l → (builtB S l = true ↔ hasCo l = false ∧ ∀ t ∈ tsOf l, onB S t)
  | [], _ => by simp [builtB, hasCo, tsOf]
  | a :: l, h => by
    have ih := built_iff (S := S) (l := l) (fun b hb => h b (List.mem_cons_of_mem _ hb))
    have h0 := h a (List.mem_cons_self ..)
    have e1 : builtB S (a :: l) = (okA S a && builtB S l) := rfl
    have e2 : hasCo (a :: l) = (a.co || hasCo l) := rfl
    have e3 : tsOf (a :: l) = tsOf [a] ++ tsOf l := tsOf_append [a] l
    rw [e1, e2, e3, Bool.and_eq_true, ih, Bool.or_eq_false_iff]
    cases hc : a.co
    · by_cases hz : a.ty = 0
      · rw [okA_int hc (by omega), tsOf_zero hz]; simp
      · have ho : okA S a = S.getD (a.ty - 1).toNat false := by
          unfold okA
          rw [hc, decide_eq_false (by omega)]; rfl
        rw [ho, tsOf_pos hz]
        simp only [true_and, List.singleton_append, List.mem_cons, forall_eq_or_imp]
        unfold onB
        constructor
        · rintro ⟨h1, h2, h3⟩; exact ⟨h2, h1, h3⟩
        · rintro ⟨h2, h1, h3⟩; exact ⟨h1, h2, h3⟩
    · rw [okA_co hc]; simp
theorem onB_set {S : List Bool} {i j : Nat} (h : onB (S.set i true) j) : onB S j ∨ j = i := by
  by_cases e : j = i
  · exact .inr e
  · unfold onB at h ⊢
    rw [getD_set_ne e] at h
    exact .inl h
theorem set_mono {S : List Bool} {i : Nat} : leB S (S.set i true) := by
  intro j h
  by_cases e : j = i
  · subst e
    have : j < S.length := by
      unfold onB at h
      by_cases hl : j < S.length
      · exact hl
      · rw [List.getD_eq_getElem?_getD, List.getElem?_eq_none (by omega)] at h
        cases h
    exact getD_set_same this
  · unfold onB
    rw [getD_set_ne e]; exact h
theorem fX_sub {T : Nat → Prop} {co : Bool} {i : Nat} : ∀ {l : List Xtor} {S : List Bool}, (∀ x ∈ l, tyOk x.args) → (co = false → CloP (conX i l) T) → (∀ j, onB S j → T j) → ∀ j, onB (fX co i S l) j → T j
  | [], S, _, _, hS => hS
  | x :: r, S, ht, hc, hS => by
    rw [fX_cons]
    refine fX_sub (fun y hy => ht y (List.mem_cons_of_mem _ hy)) (fun e p hp => hc e p (List.mem_append_right _ hp)) ?_
    intro j hj
    cases hq : (!co && builtB S x.args)
    · rw [hq] at hj; exact hS j hj
    · rw [hq, if_pos rfl] at hj
      simp only [Bool.and_eq_true, Bool.not_eq_true'] at hq
      obtain ⟨h1, h2⟩ := (built_iff (ht x (List.mem_cons_self ..))).1 hq.2
      rcases onB_set hj with hj | rfl
      · exact hS j hj
      · refine hc hq.1 (j, tsOf x.args) (List.mem_append_left _ ?_) (fun t htt => hS t (h2 t htt))
        rw [h1]; simp
theorem fD_sub {T : Nat → Prop} : ∀ {l : List Decl} {i : Nat} {S : List Bool}, (∀ d ∈ l, ∀ x ∈ d.xtors, tyOk x.args) → CloP (conD i l) T → (∀ j, onB S j → T j) → ∀ j, onB (fD i S l) j → T j
  | [], i, S, _, _, hS => hS
  | d :: r, i, S, ht, hc, hS => by
    rw [fD_cons]
    refine fD_sub (fun e he => ht e (List.mem_cons_of_mem _ he)) (fun p hp => hc p (List.mem_append_right _ hp)) ?_
    refine fX_sub (ht d (List.mem_cons_self ..)) (fun e p hp => hc p (List.mem_append_left _ ?_)) hS
    rw [e]; exact hp
theorem fR_sub {T : Nat → Prop} {l : List Decl} (ht : ∀ d ∈ l, ∀ x ∈ d.xtors, tyOk x.args) (hc : CloP (conD 0 l) T) : ∀ (n : Nat) {S : List Bool}, (∀ j, onB S j → T j) → ∀ j, onB (fR l n S) j → T j
  | 0, S, hS => hS
  | n + 1, S, hS => by rw [fR_succ]; exact fR_sub ht hc n (fD_sub ht hc hS)
theorem leB.trans {S S' S'' : List Bool} (h : leB S S') (h' : leB S' S'') : leB S S'' := fun j hj => h' j (h j hj)
theorem fX_mono {co : Bool} {i : Nat} : ∀ {l : List Xtor} {S : List Bool}, leB S (fX co i S l)
  | [], S => fun j h => h
  | x :: r, S => by
    rw [fX_cons]
    refine leB.trans ?_ fX_mono
    split
    · exact set_mono
    · exact fun j h => h
theorem fD_mono : ∀ {l : List Decl} {i : Nat} {S : List Bool}, leB S (fD i S l)
  | [], i, S => fun j h => h
  | d :: r, i, S => by rw [fD_cons]; exact leB.trans fX_mono fD_mono
theorem fX_hit {i : Nat} : ∀ {l : List Xtor} {S S0 : List Bool}, leB S0 S → i < S.length → (∀ x ∈ l, tyOk x.args) → ∀ p ∈ conX i l, (∀ t ∈ p.2, onB S0 t) → onB (fX false i S l) p.1
  | [], S, S0, _, _, _, p, hp, _ => by cases hp
  | x :: r, S, S0, hle, hi, ht, p, hp, hon => by
    rw [fX_cons]
    rcases List.mem_append.1 hp with hp | hp
    · cases hco : hasCo x.args
      · rw [hco, if_neg (by decide), List.mem_singleton] at hp
        subst hp
        have hb : builtB S x.args = true := (built_iff (ht x (List.mem_cons_self ..))).2 ⟨hco, fun t h => hle t (hon t h)⟩
        rw [hb]
        exact fX_mono i (getD_set_same hi)
      · rw [hco] at hp; cases hp
    · refine fX_hit (S0 := S0) ?_ ?_ (fun y hy => ht y (List.mem_cons_of_mem _ hy)) p hp hon
      · refine hle.trans ?_
        split
        · exact set_mono
        · exact fun j h => h
      · split <;> simp [hi]
theorem fD_hit : ∀ {l : List Decl} {i : Nat} {S S0 : List Bool}, leB S0 S → i + l.length ≤ S.length → (∀ d ∈ l, ∀ x ∈ d.xtors, tyOk x.args) → ∀ p ∈ conD i l, (∀ t ∈ p.2, onB S0 t) → onB (fD i S l) p.1
  | [], i, S, S0, _, _, _, p, hp, _ => by cases hp
  | d :: r, i, S, S0, hle, hi, ht, p, hp, hon => by
    rw [fD_cons]
    rw [List.length_cons] at hi
    rcases List.mem_append.1 hp with hp | hp
    · refine fD_mono _ ?_
      cases hco : d.codata
      · rw [hco] at hp
        exact fX_hit hle (by omega) (ht d (List.mem_cons_self ..)) p hp hon
      · rw [hco] at hp; cases hp
    · exact fD_hit (hle.trans fX_mono) (by rw [fX_len]; omega) (fun e he => ht e (List.mem_cons_of_mem _ he)) p hp hon
def nF (S : List Bool) : Nat := (S.filter fun b => !b).length
theorem onB_nil (j : Nat) : ¬ onB [] j := by unfold onB; simp
theorem leB.tail {a b : Bool} {S S' : List Bool} (h : leB (a :: S) (b :: S')) : leB S S' := fun j hj => h (j + 1) hj
theorem leB.head {b : Bool} {S S' : List Bool} (h : leB (true :: S) (b :: S')) : b = true := h 0 rfl
theorem leB.nF : ∀ {S S' : List Bool}, leB S S' → S.length = S'.length → nF S' ≤ nF S ∧ (nF S' = nF S → S' = S)
  | [], [], _, _ => ⟨Nat.le_refl _, fun _ => rfl⟩
  | [], _ :: _, _, h => by simp at h
  | _ :: _, [], _, h => by simp at h
  | a :: S, b :: S', hle, hl => by
    obtain ⟨h1, h2⟩ := leB.nF hle.tail (by simpa using hl)
    have e : ∀ (x : Bool) (L : List Bool), Go.Proofs.Ytoopngnmdgcklaa.nF (x :: L) = (if x then 0 else 1) + Go.Proofs.Ytoopngnmdgcklaa.nF L := fun x L => by
      cases x <;> simp [Go.Proofs.Ytoopngnmdgcklaa.nF]; omega
    rw [e, e]
    cases a
    · cases b
      · exact ⟨by simp; exact h1, fun h => by rw [h2 (by simpa using h)]⟩
      · refine ⟨by simp; omega, fun h => ?_⟩
        simp at h; omega
    · have hb := hle.head
      subst hb
      exact ⟨by simp; exact h1, fun h => by rw [h2 (by simpa using h)]⟩
theorem fR_fix {l : List Decl} {S : List Bool} (h : fD 0 S l = S) : ∀ n, fR l n S = S
  | 0 => rfl
  | n + 1 => by rw [fR_succ, h]; exact fR_fix h n
theorem fR_stable {l : List Decl} : ∀ (n : Nat) (S : List Bool), nF S ≤ n → fD 0 (fR l n S) l = fR l n S
  | 0, S, h => by
    obtain ⟨h1, h2⟩ := leB.nF (S := S) (S' := fD 0 S l) fD_mono (fD_len l 0 S).symm
    exact h2 (by omega)
  | n + 1, S, h => by
    obtain ⟨h1, h2⟩ := leB.nF (S := S) (S' := fD 0 S l) fD_mono (fD_len l 0 S).symm
    by_cases e : nF (fD 0 S l) = nF S
    · rw [fR_fix (h2 e), h2 e]
    · rw [fR_succ]
      exact fR_stable n _ (by omega)
theorem fR_len (l : List Decl) : ∀ (n : Nat) (S : List Bool), (fR l n S).length = S.length
  | 0, _ => rfl
  | n + 1, S => by rw [fR_succ, fR_len l n, fD_len]
theorem onB_rep (n j : Nat) : ¬ onB (List.replicate n false) j := by
  unfold onB
  rw [List.getD_eq_getElem?_getD, List.getElem?_replicate]
  split <;> simp
/-- What the search has found is what the definition finds. -/
theorem found_small {l : List Decl} {F : List Bool} {W : List (List Con)} {cs : List Con} {mis : Nat → Nat} (h : LJ l.length F W [] cs mis) (hf : Fired F cs mis) (hcs : cs.map (fun c => (c.i, c.ts)) = conD 0 l)
    (ht : ∀ d ∈ l, ∀ x ∈ d.xtors, tyOk x.args) : F = smallR l := by
  have hl : (smallR l).length = l.length := by unfold smallR; rw [fR_len]; simp
  have hst : fD 0 (smallR l) l = smallR l := fR_stable _ _ (by unfold nF; exact Nat.le_trans (List.length_filter_le _ _) (by simp))
  have hA : ∀ j, onB (smallR l) j → onB F j := by
    refine fR_sub ht ?_ _ (fun j hj => absurd hj (onB_rep _ _))
    have := Clo_iff.1 (h.done hf)
    rw [hcs] at this
    exact this
  have hB : ∀ j, onB F j → onB (smallR l) j := by
    refine h.sound (onB (smallR l)) (Clo_iff.2 ?_)
    rw [hcs]
    intro p hp hon
    have := fD_hit (l := l) (i := 0) (S := smallR l) (S0 := smallR l) (fun j h => h) (by rw [hl]; omega) ht p hp hon
    rw [hst] at this
    exact this
  refine List.ext_getElem (by rw [h.Fl, hl]) fun j h1 h2 => ?_
  have e1 := hA j
  have e2 := hB j
  unfold onB at e1 e2
  rw [List.getD_eq_getElem?_getD, List.getD_eq_getElem?_getD, List.getElem?_eq_getElem h1, List.getElem?_eq_getElem h2] at e1 e2
  simp only [Option.getD_some] at e1 e2
  revert e1 e2
  cases F[j] <;> cases (smallR l)[j] <;> simp
end Go.Proofs.Ytoopngnmdgcklaa
