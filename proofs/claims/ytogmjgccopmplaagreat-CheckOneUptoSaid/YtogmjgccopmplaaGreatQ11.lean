/- append of strings to a row that the call owns. -/
import Derived.Test.YtogmjgccopmplaaGreatQ10
import Derived.OwnWalk
import Derived.Maps.AppendAt
import Derived.Orders
import Derived.RegionTactic
namespace Go.Proofs.YtogmjgccopmplaaGreat
open Go.RowKit

/-! ### append, whatever the element -/
theorem run_append_nil {w : World} {base : Nat} {t ty e : TypeId} {i : TypeInfo} {size c : Nat} (ht : Tryz.prog.underlying t = some (.slice e)) (hi : Tryz.prog.info? e = some i) {v : Value} {n : Nat} {xs : List Value} (hown : w.ownsRow base e size v n xs) :
    (Builtin.append_ #[t, t] ty #[v, .slice none 0 c]).run Tryz.prog w = .ok v w := by
  rcases hown.2 with ⟨rfl, rfl⟩ | ⟨g, cap, cur, rfl, _, _, hnc, _⟩
  · simp [Builtin.append_, run_underlying ht, sizeOf, typeInfo, hi, Builtin.lenOf, Builtin.firstCells]
  · simp [Builtin.append_, run_underlying ht, sizeOf, typeInfo, hi, Builtin.lenOf, Builtin.firstCells, hnc, storeCells]
def SrcN (w : World) (A : Option Addr) (m size : Nat) (news : List Value) : Prop :=
  (A = none ∧ m = 0 ∧ news = []) ∨ ∃ ad, A = some ad ∧ news.length = m * size ∧ ∀ (j : Nat) u, news[j]? = some u → w.cell? (ad.add j) = some u
theorem app_row {t e size bytes : Nat} {z : Value} (hu : Tryz.prog.underlying t = some (.slice e)) (hinf : (Tryz.prog.info? e).map (fun i => (i.zero, i.size, i.bytes)) = some (some z, size, bytes)) (hzs : z.cells.size = size) (hsz : 0 < size)
    {w : World} {o : Oper} {a : Act} {K : Act → World → Prop} {Q : Exit → Act → World → Prop} (s x : Operand)
    (ho : o.op = .call { callee := .builtin .append, args := #[s, x], argTypes := #[t, t] })
    (B : Nat) (v : Value) (n : Nat) (xs : List Value) (hs : a.eval s = v) (hown : w.ownsRow B e size v n xs)
    (A : Option Addr) (m c : Nat) (news : List Value) (hx : a.eval x = .slice A m c) (hsrc : SrcN w A m size news) (h1 : ∀ u ∈ news, u.oneCell' = true)
    (hnm : n + m ≤ maxLen) (hby : (n + m) * bytes ≤ 140737488355328) (hB : B ≤ w.heap.size)
    (h : ∀ v' w', w'.ownsRow B e size v' (n + m) (xs ++ news) → w.grownBy w' v.ownBlock → (v'.ownBlock = v.ownBlock ∨ v'.ownBlock = some w.heap.size) → K (a.put o.dst v') w') : o.wp Tryz.prog a w K Q := by
  obtain ⟨i0, hi1, hz0, hz1, hz2⟩ := info_parts hinf
  rcases hsrc with ⟨rfl, rfl, rfl⟩ | ⟨ad, rfl, hl, hc⟩
  · have hr := run_append_nil (c := c) (ty := o.type) hu hi1 hown
    have hk := h v w (by simpa using hown) (World.grownBy.refl w _) (.inl rfl)
    unfold Oper.wp execOp
    simp only [ho, resolve, invoke, builtin, Sem.run_bind, Sem.run_pure, Result.andThen_ok, List.map_toArray, List.map_cons, List.map_nil, hs, hx, hr]
    exact hk
  · obtain ⟨v', w', hr, h2, h3, _, h5⟩ := run_append_own_at (P := Tryz.prog) w B t o.type e i0 z size bytes hu hi1 hz0 hz1 hz2 hzs hsz v n xs hown ad m c news hl hc h1 hnm hby hB
    unfold Oper.wp execOp
    simp only [ho, resolve, invoke, builtin, Sem.run_bind, Sem.run_pure, Result.andThen_ok, List.map_toArray, List.map_cons, List.map_nil, hs, hx, hr]
    exact h v' w' h2 h3 h5

theorem add_at (b o k : Nat) : (⟨b, o, none⟩ : Addr).add k = ⟨b, o + k, none⟩ := by
  by_cases hk : k = 0 <;> simp [Addr.add, hk]
theorem RStrs.src {w : World} {A : Option Addr} {c : Nat} {l : List Str} (h : RStrs w (.slice A l.length c) l) : SrcN w A l.length 1 (l.map Value.string) := by
  cases A with
  | none =>
    cases l with
    | nil => exact .inl ⟨rfl, rfl, rfl⟩
    | cons a r =>
      obtain ⟨_, _, hA, _⟩ := h.at_ (k := 0) (by simp)
      cases hA
  | some ad =>
    refine .inr ⟨ad, rfl, by simp, fun j u hu => ?_⟩
    rw [List.getElem?_map] at hu
    obtain ⟨s, hs, rfl⟩ := Option.map_eq_some_iff.1 hu
    obtain ⟨hlt, rfl⟩ := List.getElem?_eq_some_iff.1 hs
    obtain ⟨b, o, hA, _, c0, _⟩ := h.at_ hlt
    cases hA
    rw [add_at]; exact c0
theorem strs_one (l : List Str) : ∀ u ∈ l.map Value.string, u.oneCell' = true := by
  intro u hu
  obtain ⟨s, _, rfl⟩ := List.mem_map.1 hu
  rfl
set_option maxRecDepth 100000 in
theorem app_strs {w : World} {ops : Array Oper} {rest : List Oper} {o : Oper} {a : Act} {Q : Exit → Act → World → Prop} (hgd : o.guard = none) (s x : Operand)
    (ho : o.op = .call { callee := .builtin .append, args := #[s, x], argTypes := #[48, 48] }) (B : Nat) (v : Value) (l1 : List Str) (hs : a.eval s = v) (hown : w.ownsRow B 9 1 v l1.length (l1.map Value.string))
    (x' : Value) (l2 : List Str) (hx : a.eval x = x') (hr : RStrs w x' l2) (hn : l1.length + l2.length ≤ 1000000000) (hB : B ≤ w.heap.size)
    (h : ∀ v' w', w'.ownsRow B 9 1 v' (l1 ++ l2).length ((l1 ++ l2).map Value.string) → w.grownBy w' v.ownBlock → wpList Tryz.prog ops Q rest (a.put o.dst v') w') : wpList Tryz.prog ops Q (o :: rest) a w := by
  obtain ⟨A, c, rfl, -, -⟩ := hr.form
  refine wpList_plain hgd fun K hK => app_row (t := 48) (e := 9) (size := 1) (bytes := 16) Tryz.underlying48 Tryz.info9 rfl (by decide) s x ho B v l1.length (l1.map Value.string) hs hown A l2.length c (l2.map Value.string) hx hr.src (strs_one l2) (by unfold maxLen; omega) (by omega) hB (fun v' w' h1 h2 _ => hK _ _ (h v' w' ?_ h2))
  rw [List.length_append, List.map_append]; exact h1
theorem own_nil {w : World} {B : Nat} : w.ownsRow B 9 1 (.slice none 0 0) ([] : List Str).length (([] : List Str).map Value.string) := ⟨by simp, .inl ⟨rfl, rfl⟩⟩
theorem grown_ext {w w' : World} {v : Value} {B : Nat} {n : Nat} {xs : List Value} (hg : w.grownBy w' v.ownBlock) (hv : w.ownsRow B 9 1 v n xs) (hB : B ≤ w.heap.size) : Below B w w' :=
  Below.grown (Below.refl _ _) hg hB (fun j e => (hv.lt j e).1)
end Go.Proofs.YtogmjgccopmplaaGreat

/- ref.go: In, With. -/
namespace Go.Proofs.YtogmjgccopmplaaGreat
open Go.RowKit

set_option maxHeartbeats 1000000 in
set_option maxRecDepth 100000 in
theorem In_any (v : Value) (l : List Str) (s : Str) (w : World) (h : RStrs w v l) :
    Calls Tryz.prog 47 #[v, .string s] w fun e w' => e = .returned (.bool (hasS l s)) ∧ w = w' := by
  have H := Lib.hid h
  obtain ⟨A, c, rfl, hc, hm⟩ := h.form
  have HS : Hid (hasS l s = hasS l s) := rfl
  generalize hrr : hasS l s = rr
  have HR : Hid (rr = hasS l s) := hrr.symm
  clear h hrr HS
  unfold maxLen at hm
  go_enter Tryz.func47, Tryz.ntmps47
  go_wp2
  go_loopw [9] (fun i wr => ∃ k : Nat, k ≤ l.length ∧ i = .int .i64 k ∧ w = wr ∧ rr = hasS (l.drop k) s) (fun i _ => l.length - (intOf i).toNat)
  case atStart => exact ⟨0, Nat.zero_le _, rfl, rfl, HR.out⟩
  case round =>
    obtain ⟨k, hk, rfl, rfl, hno⟩ := hrel
    have HN := Lib.hid hno
    clear hno
    by_cases hlt : k < l.length
    · obtain ⟨b, o, rfl, hbl, y0, hs⟩ := H.out.at_ hlt
      have HD := Lib.hid (drop_step hlt)
      have HX : Hid (rr = (eqS s l[k] || hasS (l.drop (k + 1)) s)) := by show _ = _; rw [HN.out, HD.out, hasS_cons']
      generalize l[k] = x at *
      go_wp2
      · have hq : eqS x s = true := by assumption
        go_ret
        exact ⟨ret_bool (by rw [HX.out, eqS_comm, hq]; rfl), rfl⟩
      · have hq : eqS x s = false := by assumption
        refine ⟨⟨k + 1, by omega, by go_num, trivial, by rw [HX.out, eqS_comm, hq]; rfl⟩, by simp [intOf]; omega⟩
    · have HK := Lib.hid (drop_end hlt)
      go_wp2
      go_ret
      exact ⟨ret_bool (by rw [HN.out, HK.out]; rfl), rfl⟩

set_option maxHeartbeats 1000000 in
set_option maxRecDepth 100000 in
theorem With_any (v1 v2 : Value) (l1 l2 : List Str) (w : World) (h1 : RStrs w v1 l1) (h2 : RStrs w v2 l2) (hs1 : ∀ s ∈ l1, s.size ≤ maxLen) (hs2 : ∀ s ∈ l2, s.size ≤ maxLen) (hl : l1.length + l2.length ≤ 1000000000) :
    Calls Tryz.prog 45 #[v1, v2] w fun e w' => ∃ v, e = .returned v ∧ RStrs w' v (l1 ++ l2) ∧ Ext w w' := by
  have H1 := Lib.hid h1; have H2 := Lib.hid h2; have HS : Hid (∀ s ∈ l1 ++ l2, s.size ≤ maxLen) := fun s h => (List.mem_append.1 h).elim (hs1 s) (hs2 s)
  clear h1 h2 hs1 hs2
  have hN : l1.length ≤ 1000000000 := by omega
  go_enter Tryz.func45, Tryz.ntmps45
  go_wp2_with (at_builtin; refine app_strs rfl _ _ rfl w.heap.size _ [] rfl own_nil v1 l1 rfl H1.out (by simp; omega) (Nat.le_refl _) ?_)
  intro v' w2 ho hg
  have HO := Lib.hid ho
  have hE : Ext w w2 := ⟨hg.os, hg.tape, hg.output, hg.size, fun k hk => hg.block k hk (by simp [Value.ownBlock])⟩
  have HE := Lib.hid hE
  clear ho hg hE
  go_wp2_with (at_builtin; refine app_strs rfl _ _ rfl w.heap.size v' l1 rfl HO.out v2 l2 rfl (H2.out.below HE.out) hl HE.out.size ?_)
  intro v'' w3 ho hg
  have HO3 := Lib.hid ho
  have HE3 := Lib.hid (HE.out.trans (grown_ext hg HO.out HE.out.size))
  clear ho hg
  go_wp2
  go_ret
  have h3 := HO3.out
  rw [← List.length_append, ← List.map_append] at h3
  exact ⟨v'', rfl, own_strs h3 HS.out, HE3.out⟩
end Go.Proofs.YtogmjgccopmplaaGreat

/- Validity depends only on the free names. -/
namespace Go.Proofs.YtogmjgccopmplaaGreat

theorem uK_mem {x : Bnd × Tm} : ∀ {l : List (Bnd × Tm)}, x ∈ l → 2 * x.1.1.length + uT x.2 ≤ uK l
  | [], h => by cases h
  | y :: r, h => by
    rw [uK]
    rcases List.mem_cons.1 h with rfl | h
    · omega
    · have := uK_mem h; omega
theorem uT_kid {t : Tm} {x : Bnd × Tm} (h : x ∈ kids t) : 2 * x.1.1.length + uT x.2 < uT t := by
  have := uK_mem h
  rw [uT_kids t]; omega
/-- What is free in a valid term is in scope. -/
theorem valid_free (P : Pg) : ∀ (n : Nat) (t : Tm) (V L : Scp), uT t ≤ n → validT P V L t = true → (∀ k, fvT t k = true → V k = true) ∧ (∀ k, flT t k = true → L k = true) := by
  intro n
  induction n with
  | zero => intro t V L hu; rw [uT_kids] at hu; omega
  | succ n ih =>
    intro t V L hu h
    rw [validT_kids] at h
    simp only [Bool.and_eq_true, List.all_eq_true] at h
    obtain ⟨⟨_, hr⟩, hk⟩ := h
    refine ⟨fun k hf => ?_, fun k hf => ?_⟩
    · rw [fvT_kids] at hf
      simp only [Bool.or_eq_true, Bool.and_eq_true, decide_eq_true_eq, List.any_eq_true] at hf
      rcases hf with ⟨h0, he⟩ | ⟨x, hx, hx2⟩
      · have e : k = t.nm := eqS_iff.1 he
        unfold refB at hr
        rw [if_pos h0] at hr
        rw [e]; exact hr
      · unfold fvK at hx2
        simp only [Bool.and_eq_true, Bool.not_eq_true'] at hx2
        have hv := hk x hx
        unfold validK at hv
        simp only [Bool.and_eq_true] at hv
        have h1 := (ih x.2 _ _ (by have := uT_kid hx; omega) hv.2).1 k hx2.2
        have h2 := hx2.1
        unfold addV at h1
        unfold vnames at h2
        split at h1
        · exact h1
        · rename_i hb
          rw [if_neg hb] at h2
          dsimp only at h1
          rw [h2, Bool.false_or] at h1
          exact h1
    · rw [flT_kids] at hf
      simp only [Bool.or_eq_true, Bool.and_eq_true, decide_eq_true_eq, List.any_eq_true] at hf
      rcases hf with ⟨h0, he⟩ | ⟨x, hx, hx2⟩
      · have e : k = t.nm := eqS_iff.1 he
        unfold refB at hr
        rw [if_neg (by omega), if_pos h0] at hr
        rw [e]; exact hr
      · unfold flK at hx2
        simp only [Bool.and_eq_true, Bool.not_eq_true'] at hx2
        have hv := hk x hx
        unfold validK at hv
        simp only [Bool.and_eq_true] at hv
        have h1 := (ih x.2 _ _ (by have := uT_kid hx; omega) hv.2).2 k hx2.2
        have h2 := hx2.1
        unfold addL at h1
        unfold lnames at h2
        split at h1
        · rename_i hb
          rw [if_pos hb] at h2
          dsimp only at h1
          rw [h2, Bool.false_or] at h1
          exact h1
        · exact h1
/-- A valid term stays valid where its free names are in scope. -/
theorem valid_scope (P : Pg) : ∀ (n : Nat) (t : Tm) (V L V' L' : Scp), uT t ≤ n → validT P V L t = true → (∀ k, fvT t k = true → V' k = true) → (∀ k, flT t k = true → L' k = true) → validT P V' L' t = true := by
  intro n
  induction n with
  | zero => intro t V L V' L' hu; rw [uT_kids] at hu; omega
  | succ n ih =>
    intro t V L V' L' hu h hV hL
    rw [validT_kids] at h ⊢
    simp only [Bool.and_eq_true, List.all_eq_true] at h ⊢
    obtain ⟨⟨hf, _⟩, hk⟩ := h
    refine ⟨⟨hf, ?_⟩, fun x hx => ?_⟩
    · unfold refB
      split
      · rename_i h0
        exact hV _ (by rw [fvT_kids]; simp [h0])
      · split
        · rename_i h0
          exact hL _ (by rw [flT_kids]; simp [h0])
        · rfl
    · have hv := hk x hx
      unfold validK at hv ⊢
      simp only [Bool.and_eq_true] at hv ⊢
      refine ⟨hv.1, ih x.2 _ _ _ _ (by have := uT_kid hx; omega) hv.2 (fun k hf => ?_) (fun k hf => ?_)⟩
      · unfold addV
        split
        · rename_i hb
          exact hV k (by rw [fvT_kids]; simp only [Bool.or_eq_true, List.any_eq_true]; exact .inr ⟨x, hx, by simp [fvK, vnames, hb, hf, hasS]⟩)
        · rename_i hb
          dsimp only
          cases hh : hasS x.1.1 k
          · rw [Bool.false_or]
            exact hV k (by rw [fvT_kids]; simp only [Bool.or_eq_true, List.any_eq_true]; exact .inr ⟨x, hx, by simp [fvK, vnames, hb, hf, hh]⟩)
          · rfl
      · unfold addL
        split
        · rename_i hb
          dsimp only
          cases hh : hasS x.1.1 k
          · rw [Bool.false_or]
            exact hL k (by rw [flT_kids]; simp only [Bool.or_eq_true, List.any_eq_true]; exact .inr ⟨x, hx, by simp [flK, lnames, hb, hf, hh]⟩)
          · rfl
        · rename_i hb
          exact hL k (by rw [flT_kids]; simp only [Bool.or_eq_true, List.any_eq_true]; exact .inr ⟨x, hx, by simp [flK, lnames, hb, hf, hasS]⟩)

/-! ### how many names are free -/
theorem len_nodup : ∀ (l L : List Str), l.Nodup → (∀ k ∈ l, k ∈ L) → l.length ≤ L.length
  | [], _, _, _ => Nat.zero_le _
  | a :: r, L, hn, hs => by
    have ha := hs a (List.mem_cons_self ..)
    obtain ⟨hn1, hn2⟩ := List.nodup_cons.1 hn
    obtain ⟨p, q, rfl⟩ := List.append_of_mem ha
    have h1 := len_nodup r (p ++ q) hn2 (fun k hk => by
      have h := hs k (List.mem_cons_of_mem _ hk)
      rcases List.mem_append.1 h with h | h
      · exact List.mem_append_left _ h
      · rcases List.mem_cons.1 h with h | h
        · rw [h] at hk; exact absurd hk hn1
        · exact List.mem_append_right _ h)
    simp only [List.length_append, List.length_cons] at h1 ⊢; omega
theorem names_kids (n : Nat) (f : Tm → Str → Bool) (ih : ∀ t : Tm, uT t ≤ n → ∃ L : List Str, L.length ≤ uT t ∧ ∀ k, f t k = true → k ∈ L) : ∀ l : List (Bnd × Tm), uK l ≤ n → ∃ L : List Str, L.length ≤ uK l ∧ ∀ x ∈ l, ∀ k, f x.2 k = true → k ∈ L
  | [], _ => ⟨[], Nat.zero_le _, fun x h => by cases h⟩
  | y :: r, h => by
    rw [uK] at h
    obtain ⟨L1, h1, h2⟩ := ih y.2 (by omega)
    obtain ⟨L2, h3, h4⟩ := names_kids n f ih r (by omega)
    refine ⟨L1 ++ L2, by rw [List.length_append, uK]; omega, fun x hx k hk => ?_⟩
    rcases List.mem_cons.1 hx with rfl | hx
    · exact List.mem_append_left _ (h2 k hk)
    · exact List.mem_append_right _ (h4 x hx k hk)
theorem fv_names : ∀ (n : Nat) (t : Tm), uT t ≤ n → ∃ L : List Str, L.length ≤ uT t ∧ ∀ k, fvT t k = true → k ∈ L := by
  intro n
  induction n with
  | zero => intro t hu; rw [uT_kids] at hu; omega
  | succ n ih =>
    intro t hu
    have hk := uT_kids t
    obtain ⟨L, h1, h2⟩ := names_kids n fvT ih (kids t) (by omega)
    refine ⟨t.nm :: L, by simp only [List.length_cons]; omega, fun k hf => ?_⟩
    rw [fvT_kids] at hf
    simp only [Bool.or_eq_true, Bool.and_eq_true, List.any_eq_true] at hf
    rcases hf with ⟨_, he⟩ | ⟨x, hx, hx2⟩
    · have e : k = t.nm := eqS_iff.1 he
      rw [e]; exact List.mem_cons_self ..
    · unfold fvK at hx2
      rw [Bool.and_eq_true] at hx2
      exact List.mem_cons_of_mem _ (h2 x hx k hx2.2)
theorem fl_names : ∀ (n : Nat) (t : Tm), uT t ≤ n → ∃ L : List Str, L.length ≤ uT t ∧ ∀ k, flT t k = true → k ∈ L := by
  intro n
  induction n with
  | zero => intro t hu; rw [uT_kids] at hu; omega
  | succ n ih =>
    intro t hu
    have hk := uT_kids t
    obtain ⟨L, h1, h2⟩ := names_kids n flT ih (kids t) (by omega)
    refine ⟨t.nm :: L, by simp only [List.length_cons]; omega, fun k hf => ?_⟩
    rw [flT_kids] at hf
    simp only [Bool.or_eq_true, Bool.and_eq_true, List.any_eq_true] at hf
    rcases hf with ⟨_, he⟩ | ⟨x, hx, hx2⟩
    · have e : k = t.nm := eqS_iff.1 he
      rw [e]; exact List.mem_cons_self ..
    · unfold flK at hx2
      rw [Bool.and_eq_true] at hx2
      exact List.mem_cons_of_mem _ (h2 x hx k hx2.2)
theorem sorted_nodup {l : List Str} (h : SortedS l) : l.Nodup := by
  unfold SortedS at h
  exact h.imp (fun {a b} hab e => by rw [e] at hab; exact List.lt_irrefl _ hab)
theorem free_len {t : Tm} {l : List Str} (hs : SortedS l) (hm : ∀ k, k ∈ l ↔ fvT t k = true) : l.length ≤ uT t := by
  obtain ⟨L, h1, h2⟩ := fv_names _ t (Nat.le_refl _)
  exact Nat.le_trans (len_nodup l L (sorted_nodup hs) (fun k hk => h2 k ((hm k).1 hk))) h1
theorem freeL_len {t : Tm} {l : List Str} (hs : SortedS l) (hm : ∀ k, k ∈ l ↔ flT t k = true) : l.length ≤ uT t := by
  obtain ⟨L, h1, h2⟩ := fl_names _ t (Nat.le_refl _)
  exact Nat.le_trans (len_nodup l L (sorted_nodup hs) (fun k hk => h2 k ((hm k).1 hk))) h1

/-! ### from the size to what the checks ask for -/
theorem nodesK_mem {d : Int} {y : Int × Tm} : ∀ {l : List (Bnd × Tm)}, y ∈ nodesK d l → ∃ x ∈ l, y ∈ nodesL d x.2
  | [], h => by simp [nodesK] at h
  | x :: r, h => by
    rw [nodesK] at h
    rcases List.mem_append.1 h with h | h
    · exact ⟨x, List.mem_cons_self .., h⟩
    · obtain ⟨z, hz, h'⟩ := nodesK_mem h
      exact ⟨z, List.mem_cons_of_mem _ hz, h'⟩
theorem deep_le : ∀ (n : Nat) (t : Tm) (d : Int), uT t ≤ n → ∀ y ∈ nodesL d t, d ≤ y.1 ∧ y.1 < d + uT t := by
  intro n
  induction n with
  | zero => intro t d hu; rw [uT_kids] at hu; omega
  | succ n ih =>
    intro t d hu y hy
    rw [nodesL_kids] at hy
    rcases List.mem_cons.1 hy with rfl | hy
    · exact ⟨Int.le_refl _, by rw [uT_kids]; dsimp only; omega⟩
    · obtain ⟨x, hx, hy⟩ := nodesK_mem hy
      have h1 := uT_kid hx
      have := ih x.2 (d + 1) (by omega) y hy
      omega
theorem wK_le (n : Nat) (ih : ∀ t : Tm, uT t ≤ n → wT t ≤ uT t) : ∀ l : List (Bnd × Tm), uK l ≤ n → wK l ≤ uK l
  | [], _ => by simp [wK]
  | x :: r, h => by
    rw [uK] at h
    have h1 := ih x.2 (by omega)
    have h2 := wK_le n ih r (by omega)
    rw [wK, uK]; omega
theorem wT_le : ∀ (n : Nat) (t : Tm), uT t ≤ n → wT t ≤ uT t := by
  intro n
  induction n with
  | zero => intro t hu; rw [uT_kids] at hu; omega
  | succ n ih =>
    intro t hu
    rw [wT_kids, uT_kids] at *
    have := wK_le n ih (kids t) (by omega)
    omega
theorem fine_of {t : Tm} (h : uT t ≤ 50000000) : FineT t :=
  ⟨fun y hy => by have := deep_le _ t 1 (Nat.le_refl _) y hy; omega, by have := wT_le _ t (Nat.le_refl _); omega⟩
end Go.Proofs.YtogmjgccopmplaaGreat

/- A statement whose order is open: an invariant over what has been done. -/
namespace Go.Proofs.YtogmjgccopmplaaGreat
open Go.RowKit

/-- Every operation waits only for operations ahead of it in the text. -/
def backB (ops : Array Oper) : Bool := (List.range ops.size).all fun i => ((ops[i]?).map fun o => o.after.all fun e => decide (e.on < i)).getD true
def openN (n : Nat) (listed : Array Bool) : Nat := (List.range n).countP fun i => !listed.getD i false
theorem getD_eq {listed : Array Bool} {i : Nat} (h : i < listed.size) (a b : Bool) : listed.getD i a = listed.getD i b := by
  simp [Array.getD, h]
theorem openN_zero {n : Nat} {listed : Array Bool} (h : openN n listed = 0) : ∀ i, i < n → listed.getD i false = true := by
  intro i hi
  unfold openN at h
  rw [List.countP_eq_zero] at h
  have := h i (List.mem_range.2 hi)
  cases hb : listed.getD i false
  · rw [hb] at this; simp at this
  · rfl
theorem set_getD {listed : Array Bool} {i j : Nat} (hi : i < listed.size) : (listed.setIfInBounds i true).getD j false = (decide (j = i) || listed.getD j false) := by
  by_cases h : j = i
  · subst h; simp [Array.getD, hi]
  · have h' : i ≠ j := fun e => h e.symm
    rw [Array.getD_eq_getD_getElem?, Array.getD_eq_getD_getElem?, Array.getElem?_setIfInBounds_ne h']; simp [h]
theorem count_lt {α : Type} {p q : α → Bool} : ∀ (l : List α), (∀ x ∈ l, q x = true → p x = true) → (∃ x ∈ l, p x = true ∧ q x = false) → l.countP q < l.countP p
  | [], _, h => by obtain ⟨x, hx, _⟩ := h; cases hx
  | a :: r, hpq, h => by
    have hle : r.countP q ≤ r.countP p := List.countP_mono_left fun x hx hq => hpq x (List.mem_cons_of_mem _ hx) hq
    rw [List.countP_cons, List.countP_cons]
    obtain ⟨x, hx, hp, hq⟩ := h
    rcases List.mem_cons.1 hx with rfl | hx
    · rw [hp, hq]; simp; omega
    · have := count_lt r (fun y hy => hpq y (List.mem_cons_of_mem _ hy)) ⟨x, hx, hp, hq⟩
      have h2 := hpq a (List.mem_cons_self ..)
      cases hqa : q a
      · simp; omega
      · rw [h2 hqa]; simp; omega
theorem openN_set {n : Nat} {listed : Array Bool} {i : Nat} (hs : listed.size = n) (hi : i < n) (hl : listed.getD i false = false) : openN n (listed.setIfInBounds i true) < openN n listed := by
  unfold openN
  refine count_lt _ (fun x _ hq => ?_) ⟨i, List.mem_range.2 hi, by rw [hl]; rfl, by rw [set_getD (by omega)]; simp⟩
  rw [set_getD (by omega)] at hq
  cases hb : listed.getD x false
  · rfl
  · rw [hb] at hq; simp at hq
theorem all_of_ready {md : Region.Mode} {ops : Array Oper} {listed : Array Bool} (hb : backB ops = true) (hs : listed.size = ops.size) (hr : Region.ready md ops listed = []) : ∀ i, i < ops.size → listed.getD i false = true := by
  intro i
  induction i using Nat.strongRecOn with
  | _ i ih =>
    intro hi
    cases hl : listed.getD i false
    · exfalso
      have hm : i ∈ Region.ready md ops listed := by
        unfold Region.ready
        rw [List.mem_filter]
        refine ⟨List.mem_range.2 hi, ?_⟩
        rw [getD_eq (by omega) true false, hl]
        have ho : ops[i]? = some ops[i] := Array.getElem?_eq_getElem hi
        rw [ho]
        simp only [Bool.not_false, Bool.true_and, Option.map_some, Option.getD_some, Array.all_eq_true, Bool.or_eq_true]
        intro j hj
        right
        unfold backB at hb
        rw [List.all_eq_true] at hb
        have h1 := hb i (List.mem_range.2 hi)
        rw [ho] at h1
        simp only [Option.map_some, Option.getD_some, Array.all_eq_true, decide_eq_true_eq] at h1
        exact ih _ (h1 j hj) (by have := h1 j hj; omega)
      rw [hr] at hm; cases hm
    · rfl

theorem wpAny_inv {P : Program} {md : Region.Mode} {ops : Array Oper} {Q : Exit → Act → World → Prop} (hb : backB ops = true) (Inv : (Nat → Bool) → Act → World → Prop)
    (hstep : ∀ (L : Nat → Bool) (a : Act) (w : World) (i : Nat) (o : Oper), ops[i]? = some o → (∀ e ∈ o.after.toList, Region.binds md e = true → L e.on = true) → L i = false → Inv L a w →
      wpOp P ops Q i (fun a' w' => Inv (fun j => decide (j = i) || L j) a' w') a w)
    (hdone : ∀ (L : Nat → Bool) (a : Act) (w : World), (∀ i, i < ops.size → L i = true) → Inv L a w → Q .normal a w) :
    ∀ (fuel : Nat) (listed : Array Bool) (a : Act) (w : World), listed.size = ops.size → openN ops.size listed ≤ fuel → Inv (fun j => listed.getD j false) a w → wpAny P md ops Q fuel listed a w := by
  intro fuel
  induction fuel with
  | zero =>
    intro listed a w hs hn hI
    have hall := openN_zero (Nat.le_zero.1 hn)
    refine ⟨?_, hdone _ a w hall hI⟩
    unfold Region.ready
    rw [List.filter_eq_nil_iff]
    intro i hi
    have := hall i (List.mem_range.1 hi)
    rw [getD_eq (by have := List.mem_range.1 hi; omega) true false, this]
    simp
  | succ fuel ih =>
    intro listed a w hs hn hI
    refine ⟨fun hr => hdone _ a w (all_of_ready hb hs hr) hI, fun i hi => ?_⟩
    unfold Region.ready at hi
    rw [List.mem_filter] at hi
    obtain ⟨hir, hc⟩ := hi
    have hlt := List.mem_range.1 hir
    have ho : ops[i]? = some ops[i] := Array.getElem?_eq_getElem hlt
    rw [ho, Bool.and_eq_true] at hc
    obtain ⟨hc1, hc2⟩ := hc
    have hl : listed.getD i false = false := by
      rw [getD_eq (by omega) true false] at hc1
      cases hh : listed.getD i false
      · rfl
      · rw [hh] at hc1; cases hc1
    refine wpOp_mono (fun a' w' hI' => ih (listed.setIfInBounds i true) a' w' (by simpa using hs) ?_ ?_) (hstep _ a w i _ ho (fun e he hbd => ?_) hl hI)
    · have := openN_set hs hlt hl
      omega
    · have hf : (fun j => (listed.setIfInBounds i true).getD j false) = (fun j => decide (j = i) || listed.getD j false) := by
        funext j; exact set_getD (by omega)
      rw [hf]; exact hI'
    · simp only [Option.map_some, Option.getD_some] at hc2
      rw [Array.all_eq_true] at hc2
      obtain ⟨n, hn', rfl⟩ := List.getElem_of_mem he
      have := hc2 n (by simpa using hn')
      rw [Bool.or_eq_true] at this
      rcases this with h | h
      · have hb' : Region.binds md ops[i].after[n] = true := by simpa using hbd
        rw [hb'] at h; cases h
      · simpa using h
theorem openN_start (n : Nat) : openN n (Array.replicate n false) = n := by
  unfold openN
  rw [List.countP_eq_length.2, List.length_range]
  intro i hi
  have := List.mem_range.1 hi
  simp [Array.getD, this]

theorem wp_region_inv {P : Program} {id : Nat} {Q : Exit → Act → World → Prop} {a : Act} {w : World} {ops : Array Oper} (hm : P.follows .mixedOrders = true) (hb : backB ops = true) (Inv : (Nat → Bool) → Act → World → Prop)
    (h0 : Inv (fun _ => false) a w.drew)
    (hstep : ∀ (L : Nat → Bool) (a : Act) (w : World) (i : Nat) (o : Oper), ops[i]? = some o → (∀ e ∈ o.after.toList, Region.binds .any e = true → L e.on = true) → L i = false → Inv L a w →
      ∀ K : Act → World → Prop, Hid (∀ a' w', Inv (fun j => decide (j = i) || L j) a' w' → K a' w') → if Region.wanted o (yielded ops a.tmps) = true then Oper.wp P o a w K Q else K (a.put o.dst undef) w)
    (hdone : ∀ (L : Nat → Bool) (a : Act) (w : World), (∀ i, i < ops.size → L i = true) → Inv L a w → Q .normal a w) : (Code.region id ops true).wp P Q a w := by
  refine wp_region_any hm (wpAny_inv hb Inv (fun L a w i o ho hp hl hI => wpOp_step ho fun K hK => hstep L a w i o ho hp hl hI K hK) hdone _ _ _ _ (by simp) (Nat.le_of_eq (openN_start _)) ?_)
  have hf : (fun j => (Array.replicate ops.size false).getD j false) = (fun _ => false) := by
    funext j
    by_cases h : j < ops.size <;> simp [Array.getD, h]
  rw [hf]; exact h0
end Go.Proofs.YtogmjgccopmplaaGreat
