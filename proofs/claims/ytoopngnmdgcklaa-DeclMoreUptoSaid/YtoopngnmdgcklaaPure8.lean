import Derived.Test.YtoopngnmdgcklaaPure7
import Derived.Test.YtoopngnmdgcklaaPure2
namespace Go.Proofs.Ytoopngnmdgcklaa
open Go.RowKit

/-! ### each xtor is found by its name -/
theorem hasS_append (S T : List ByteArray) (k : ByteArray) : hasS (S ++ T) k = (hasS S k || hasS T k) := by simp [hasS]
theorem findX_none {nm : ByteArray} : ∀ {l : List Xtor} {k0 : Nat}, hasS (l.map Xtor.name) nm = false → findX nm k0 l = none
  | [], _, _ => rfl
  | x :: r, k0, h => by
    have h2 : (nm.toList == x.name.toList) = false ∧ hasS (r.map Xtor.name) nm = false := by
      simpa [hasS] using h
    rw [findX_miss (by rw [Bool.eq_false_iff] at *; intro e; exact h2.1 (by rw [beq_iff_eq] at *; exact e.symm))]
    exact findX_none h2.2
theorem okXs_find {t : Int} : ∀ {l : List Xtor} {S : List ByteArray} {k0 : Nat}, okXs t S l = true → ∀ k x, l[k]? = some x → hasS S x.name = false ∧ findX x.name k0 l = some (k0 + k)
  | [], _, _, _, k, x, hx => by simp at hx
  | y :: r, S, k0, h, 0, x, hx => by
    obtain rfl := Option.some.inj hx
    have h1 : (okX t S y && okXs t (S ++ [y.name]) r) = true := h
    rw [Bool.and_eq_true] at h1
    have h2 := h1.1
    unfold okX at h2
    simp only [Bool.and_eq_true, Bool.not_eq_true'] at h2
    exact ⟨h2.1.1.2, findX_hit (by simp)⟩
  | y :: r, S, k0, h, k + 1, x, hx => by
    have h1 : (okX t S y && okXs t (S ++ [y.name]) r) = true := h
    rw [Bool.and_eq_true] at h1
    obtain ⟨h2, h3⟩ := okXs_find (k0 := k0 + 1) h1.2 k x hx
    rw [hasS_append, Bool.or_eq_false_iff] at h2
    refine ⟨h2.1, ?_⟩
    have hne : (y.name.toList == x.name.toList) = false := by
      have h4 := h2.2
      simp only [hasS, List.any_cons, List.any_nil, Bool.or_false] at h4
      rw [Bool.eq_false_iff] at *
      intro e
      exact h4 (by rw [beq_iff_eq] at *; exact e.symm)
    rw [findX_miss hne, h3]
    congr 1; omega
theorem okDs_find {t : Int} : ∀ {l : List Decl} {S : List ByteArray} {i0 : Nat}, okDs t S l = true → ∀ i d k x, l[i]? = some d → d.xtors[k]? = some x → hasS S x.name = false ∧ findD x.name i0 l = some (i0 + i + 1, k)
  | [], _, _, _, i, d, k, x, hd, _ => by simp at hd
  | e :: r, S, i0, h, 0, d, k, x, hd, hx => by
    obtain rfl := Option.some.inj hd
    have h1 : (okD t S e && okDs t (addD S e) r) = true := h
    rw [Bool.and_eq_true] at h1
    have h2 := h1.1
    unfold okD at h2
    simp only [Bool.and_eq_true] at h2
    obtain ⟨h3, h4⟩ := okXs_find (k0 := 0) h2.2 k x hx
    rw [hasS_append, Bool.or_eq_false_iff] at h3
    refine ⟨h3.1, ?_⟩
    rw [findD_hit h4]
    congr 2; omega
  | e :: r, S, i0, h, i + 1, d, k, x, hd, hx => by
    have h1 : (okD t S e && okDs t (addD S e) r) = true := h
    rw [Bool.and_eq_true] at h1
    obtain ⟨h2, h3⟩ := okDs_find (i0 := i0 + 1) h1.2 i d k x hd hx
    have h4 : hasS (S ++ [e.name] ++ e.xtors.map Xtor.name) x.name = false := h2
    rw [hasS_append, hasS_append, Bool.or_eq_false_iff, Bool.or_eq_false_iff] at h4
    refine ⟨h4.1.1, ?_⟩
    rw [findD_miss (findX_none h4.2), h3]
    congr 2; omega
theorem valid_find {l : List Decl} (h : validB l = true) {i k : Nat} {d : Decl} {x : Xtor} (hd : l[i]? = some d) (hx : d.xtors[k]? = some x) : findD x.name 0 l = some (i + 1, k) := by
  unfold validB at h
  rw [Bool.and_eq_true] at h
  have := (okDs_find (i0 := 0) h.2 i d k x hd hx).2
  rw [Nat.zero_add] at this
  exact this

/-! ### small types of more declarations -/
theorem conX_in {i n : Nat} : ∀ {l : List Xtor}, (∀ x ∈ l, ∀ a ∈ x.args, 0 ≤ a.ty ∧ a.ty ≤ n) → ∀ p ∈ conX i l, p.1 = i ∧ ∀ t ∈ p.2, t < n
  | [], _, p, hp => by cases hp
  | x :: r, h, p, hp => by
    rcases List.mem_append.1 hp with hp | hp
    · split at hp
      · cases hp
      · rw [List.mem_singleton.1 hp]
        refine ⟨rfl, fun t ht => ?_⟩
        unfold tsOf at ht
        obtain ⟨a, ha, rfl⟩ := List.mem_map.1 ht
        obtain ⟨ha, h0⟩ := List.mem_filter.1 ha
        have := h x (List.mem_cons_self ..) a ha
        simp at h0
        omega
    · exact conX_in (fun y hy => h y (List.mem_cons_of_mem _ hy)) p hp
theorem conD_in {n : Nat} : ∀ {l : List Decl} {i : Nat}, (∀ d ∈ l, ∀ x ∈ d.xtors, ∀ a ∈ x.args, 0 ≤ a.ty ∧ a.ty ≤ n) → ∀ p ∈ conD i l, i ≤ p.1 ∧ p.1 < i + l.length ∧ ∀ t ∈ p.2, t < n
  | [], _, _, p, hp => by cases hp
  | d :: r, i, h, p, hp => by
    rw [List.length_cons]
    rcases List.mem_append.1 hp with hp | hp
    · split at hp
      · cases hp
      · obtain ⟨h1, h2⟩ := conX_in (fun x hx => h d (List.mem_cons_self ..) x hx) p hp
        exact ⟨by omega, by omega, h2⟩
    · obtain ⟨h1, h2, h3⟩ := conD_in (fun e he => h e (List.mem_cons_of_mem _ he)) p hp
      exact ⟨by omega, by omega, h3⟩
theorem conD_append : ∀ (l m : List Decl) (i : Nat), conD i (l ++ m) = conD i l ++ conD (i + l.length) m
  | [], m, i => rfl
  | d :: r, m, i => by
    show (if d.codata then [] else conX i d.xtors) ++ conD (i + 1) (r ++ m) = ((if d.codata then [] else conX i d.xtors) ++ conD (i + 1) r) ++ conD (i + (r.length + 1)) m
    rw [conD_append r m (i + 1), List.append_assoc, show i + 1 + r.length = i + (r.length + 1) by omega]
theorem small_sub {l : List Decl} {T : Nat → Prop} (ht : ∀ d ∈ l, ∀ x ∈ d.xtors, tyOk x.args) (hc : CloP (conD 0 l) T) : ∀ j, onB (smallR l) j → T j :=
  fR_sub ht hc _ (fun j hj => absurd hj (onB_rep _ _))
theorem small_len (l : List Decl) : (smallR l).length = l.length := by unfold smallR; rw [fR_len]; simp
theorem small_clo {l : List Decl} (ht : ∀ d ∈ l, ∀ x ∈ d.xtors, tyOk x.args) : CloP (conD 0 l) (onB (smallR l)) := by
  have hst : fD 0 (smallR l) l = smallR l := fR_stable _ _ (by unfold nF; exact Nat.le_trans (List.length_filter_le _ _) (by simp))
  intro p hp hon
  have := fD_hit (l := l) (i := 0) (S := smallR l) (S0 := smallR l) (fun j h => h) (by rw [small_len]; omega) ht p hp hon
  rw [hst] at this
  exact this
theorem small_more {l m : List Decl} (hl : ∀ d ∈ l, ∀ x ∈ d.xtors, ∀ a ∈ x.args, 0 ≤ a.ty ∧ a.ty ≤ (l.length : Nat)) (ha : ∀ d ∈ l ++ m, ∀ x ∈ d.xtors, tyOk x.args) : (smallR (l ++ m)).take l.length = smallR l := by
  have hlt : ∀ d ∈ l, ∀ x ∈ d.xtors, tyOk x.args := fun d hd x hx a h => (hl d hd x hx a h).1
  have h1 : ∀ j, j < l.length → onB (smallR (l ++ m)) j → onB (smallR l) j := by
    have := small_sub (T := fun j => j < l.length → onB (smallR l) j) ha ?_
    · intro j hj h; exact this j h hj
    · rw [conD_append]
      intro p hp hts hj
      rcases List.mem_append.1 hp with hp | hp
      · obtain ⟨_, _, h3⟩ := conD_in hl p hp
        exact small_clo hlt p hp (fun t ht => hts t ht (h3 t ht))
      · have h4 : ∀ {l : List Decl} {i : Nat}, ∀ p ∈ conD i l, i ≤ p.1 := by
          intro l
          induction l with
          | nil => intro i p hp; cases hp
          | cons d r ih =>
            intro i p hp
            rcases List.mem_append.1 hp with hp | hp
            · split at hp
              · cases hp
              · have h5 : ∀ {xs : List Xtor}, ∀ p ∈ conX i xs, p.1 = i := by
                  intro xs
                  induction xs with
                  | nil => intro p hp; cases hp
                  | cons x r ih =>
                    intro p hp
                    rcases List.mem_append.1 hp with hp | hp
                    · split at hp
                      · cases hp
                      · rw [List.mem_singleton.1 hp]
                    · exact ih p hp
                rw [h5 p hp]; exact Nat.le_refl _
            · have := ih p hp
              omega
        have := h4 p hp
        omega
  have h2 : ∀ j, onB (smallR l) j → onB (smallR (l ++ m)) j := by
    refine small_sub hlt ?_
    intro p hp hts
    exact small_clo ha p (by rw [conD_append]; exact List.mem_append_left _ hp) hts
  refine List.ext_getElem (by rw [List.length_take, small_len, small_len, List.length_append]; omega) fun j e1 e2 => ?_
  have hj : j < l.length := by rw [small_len] at e2; exact e2
  have hj2 : j < (smallR (l ++ m)).length := by rw [small_len, List.length_append]; omega
  have a1 := h1 j hj
  have a2 := h2 j
  rw [List.getElem_take]
  unfold onB at a1 a2
  rw [List.getD_eq_getElem?_getD, List.getD_eq_getElem?_getD, List.getElem?_eq_getElem hj2, List.getElem?_eq_getElem e2] at a1 a2
  simp only [Option.getD_some] at a1 a2
  revert a1 a2
  cases (smallR (l ++ m))[j] <;> cases (smallR l)[j] <;> simp
end Go.Proofs.Ytoopngnmdgcklaa
