/- Validity depends only on the free names. -/
import Derived.Test.YtfohcdpfgbeclaaGreatQ15
namespace Go.Proofs.YtfohcdpfgbeclaaGreat

theorem uK_mem {x : Bnd × Tm} : ∀ {l : List (Bnd × Tm)}, x ∈ l → 2 * x.1.1.length + uT x.2 ≤ uK l
  | [], h => by cases h
  | y :: r, h => by
    rw [uK]
    rcases List.mem_cons.1 h with rfl | h
    · omega
    · have := uK_mem h; omega
theorem uT_kid {t : Tm} {x : Bnd × Tm} (h : x ∈ kids t) : 2 * x.1.1.length + uT x.2 < uT t := by
  have := uK_mem h
  rw [uT_kids t]; omega
/-- What is free in a valid term is in scope. -/
theorem valid_free (P : Pg) : ∀ (n : Nat) (t : Tm) (V L : Scp), uT t ≤ n → validT P V L t = true → (∀ k, fvT t k = true → V k = true) ∧ (∀ k, flT t k = true → L k = true) := by
  intro n
  induction n with
  | zero => intro t V L hu; rw [uT_kids] at hu; omega
  | succ n ih =>
    intro t V L hu h
    rw [validT_kids] at h
    simp only [Bool.and_eq_true, List.all_eq_true] at h
    obtain ⟨⟨_, hr⟩, hk⟩ := h
    refine ⟨fun k hf => ?_, fun k hf => ?_⟩
    · rw [fvT_kids] at hf
      simp only [Bool.or_eq_true, Bool.and_eq_true, decide_eq_true_eq, List.any_eq_true] at hf
      rcases hf with ⟨h0, he⟩ | ⟨x, hx, hx2⟩
      · have e : k = t.nm := eqS_iff.1 he
        unfold refB at hr
        rw [if_pos h0] at hr
        rw [e]; exact hr
      · unfold fvK at hx2
        simp only [Bool.and_eq_true, Bool.not_eq_true'] at hx2
        have hv := hk x hx
        unfold validK at hv
        simp only [Bool.and_eq_true] at hv
        have h1 := (ih x.2 _ _ (by have := uT_kid hx; omega) hv.2).1 k hx2.2
        have h2 := hx2.1
        unfold addV at h1
        unfold vnames at h2
        split at h1
        · exact h1
        · rename_i hb
          rw [if_neg hb] at h2
          dsimp only at h1
          rw [h2, Bool.false_or] at h1
          exact h1
    · rw [flT_kids] at hf
      simp only [Bool.or_eq_true, Bool.and_eq_true, decide_eq_true_eq, List.any_eq_true] at hf
      rcases hf with ⟨h0, he⟩ | ⟨x, hx, hx2⟩
      · have e : k = t.nm := eqS_iff.1 he
        unfold refB at hr
        rw [if_neg (by omega), if_pos h0] at hr
        rw [e]; exact hr
      · unfold flK at hx2
        simp only [Bool.and_eq_true, Bool.not_eq_true'] at hx2
        have hv := hk x hx
        unfold validK at hv
        simp only [Bool.and_eq_true] at hv
        have h1 := (ih x.2 _ _ (by have := uT_kid hx; omega) hv.2).2 k hx2.2
        have h2 := hx2.1
        unfold addL at h1
        unfold lnames at h2
        split at h1
        · rename_i hb
          rw [if_pos hb] at h2
          dsimp only at h1
          rw [h2, Bool.false_or] at h1
          exact h1
        · exact h1
/-- A valid term stays valid where its free names are in scope. -/
theorem valid_scope (P : Pg) : ∀ (n : Nat) (t : Tm) (V L V' L' : Scp), uT t ≤ n → validT P V L t = true → (∀ k, fvT t k = true → V' k = true) → (∀ k, flT t k = true → L' k = true) → validT P V' L' t = true := by
  intro n
  induction n with
  | zero => intro t V L V' L' hu; rw [uT_kids] at hu; omega
  | succ n ih =>
    intro t V L V' L' hu h hV hL
    rw [validT_kids] at h ⊢
    simp only [Bool.and_eq_true, List.all_eq_true] at h ⊢
    obtain ⟨⟨hf, _⟩, hk⟩ := h
    refine ⟨⟨hf, ?_⟩, fun x hx => ?_⟩
    · unfold refB
      split
      · rename_i h0
        exact hV _ (by rw [fvT_kids]; simp [h0])
      · split
        · rename_i h0
          exact hL _ (by rw [flT_kids]; simp [h0])
        · rfl
    · have hv := hk x hx
      unfold validK at hv ⊢
      simp only [Bool.and_eq_true] at hv ⊢
      refine ⟨hv.1, ih x.2 _ _ _ _ (by have := uT_kid hx; omega) hv.2 (fun k hf => ?_) (fun k hf => ?_)⟩
      · unfold addV
        split
        · rename_i hb
          exact hV k (by rw [fvT_kids]; simp only [Bool.or_eq_true, List.any_eq_true]; exact .inr ⟨x, hx, by simp [fvK, vnames, hb, hf, hasS]⟩)
        · rename_i hb
          dsimp only
          cases hh : hasS x.1.1 k
          · rw [Bool.false_or]
            exact hV k (by rw [fvT_kids]; simp only [Bool.or_eq_true, List.any_eq_true]; exact .inr ⟨x, hx, by simp [fvK, vnames, hb, hf, hh]⟩)
          · rfl
      · unfold addL
        split
        · rename_i hb
          dsimp only
          cases hh : hasS x.1.1 k
          · rw [Bool.false_or]
            exact hL k (by rw [flT_kids]; simp only [Bool.or_eq_true, List.any_eq_true]; exact .inr ⟨x, hx, by simp [flK, lnames, hb, hf, hh]⟩)
          · rfl
        · rename_i hb
          exact hL k (by rw [flT_kids]; simp only [Bool.or_eq_true, List.any_eq_true]; exact .inr ⟨x, hx, by simp [flK, lnames, hb, hf, hasS]⟩)

/-! ### how many names are free -/
theorem len_nodup : ∀ (l L : List Str), l.Nodup → (∀ k ∈ l, k ∈ L) → l.length ≤ L.length
  | [], _, _, _ => Nat.zero_le _
  | a :: r, L, hn, hs => by
    have ha := hs a (List.mem_cons_self ..)
    obtain ⟨hn1, hn2⟩ := List.nodup_cons.1 hn
    obtain ⟨p, q, rfl⟩ := List.append_of_mem ha
    have h1 := len_nodup r (p ++ q) hn2 (fun k hk => by
      have h := hs k (List.mem_cons_of_mem _ hk)
      rcases List.mem_append.1 h with h | h
      · exact List.mem_append_left _ h
      · rcases List.mem_cons.1 h with h | h
        · rw [h] at hk; exact absurd hk hn1
        · exact List.mem_append_right _ h)
    simp only [List.length_append, List.length_cons] at h1 ⊢; omega
theorem names_kids (n : Nat) (f : Tm → Str → Bool) (ih : ∀ t : Tm, uT t ≤ n → ∃ L : List Str, L.length ≤ uT t ∧ ∀ k, f t k = true → k ∈ L) : ∀ l : List (Bnd × Tm), uK l ≤ n → ∃ L : List Str, L.length ≤ uK l ∧ ∀ x ∈ l, ∀ k, f x.2 k = true → k ∈ L
  | [], _ => ⟨[], Nat.zero_le _, fun x h => by cases h⟩
  | y :: r, h => by
    rw [uK] at h
    obtain ⟨L1, h1, h2⟩ := ih y.2 (by omega)
    obtain ⟨L2, h3, h4⟩ := names_kids n f ih r (by omega)
    refine ⟨L1 ++ L2, by rw [List.length_append, uK]; omega, fun x hx k hk => ?_⟩
    rcases List.mem_cons.1 hx with rfl | hx
    · exact List.mem_append_left _ (h2 k hk)
    · exact List.mem_append_right _ (h4 x hx k hk)
theorem fv_names : ∀ (n : Nat) (t : Tm), uT t ≤ n → ∃ L : List Str, L.length ≤ uT t ∧ ∀ k, fvT t k = true → k ∈ L := by
  intro n
  induction n with
  | zero => intro t hu; rw [uT_kids] at hu; omega
  | succ n ih =>
    intro t hu
    have hk := uT_kids t
    obtain ⟨L, h1, h2⟩ := names_kids n fvT ih (kids t) (by omega)
    refine ⟨t.nm :: L, by simp only [List.length_cons]; omega, fun k hf => ?_⟩
    rw [fvT_kids] at hf
    simp only [Bool.or_eq_true, Bool.and_eq_true, List.any_eq_true] at hf
    rcases hf with ⟨_, he⟩ | ⟨x, hx, hx2⟩
    · have e : k = t.nm := eqS_iff.1 he
      rw [e]; exact List.mem_cons_self ..
    · unfold fvK at hx2
      rw [Bool.and_eq_true] at hx2
      exact List.mem_cons_of_mem _ (h2 x hx k hx2.2)
theorem fl_names : ∀ (n : Nat) (t : Tm), uT t ≤ n → ∃ L : List Str, L.length ≤ uT t ∧ ∀ k, flT t k = true → k ∈ L := by
  intro n
  induction n with
  | zero => intro t hu; rw [uT_kids] at hu; omega
  | succ n ih =>
    intro t hu
    have hk := uT_kids t
    obtain ⟨L, h1, h2⟩ := names_kids n flT ih (kids t) (by omega)
    refine ⟨t.nm :: L, by simp only [List.length_cons]; omega, fun k hf => ?_⟩
    rw [flT_kids] at hf
    simp only [Bool.or_eq_true, Bool.and_eq_true, List.any_eq_true] at hf
    rcases hf with ⟨_, he⟩ | ⟨x, hx, hx2⟩
    · have e : k = t.nm := eqS_iff.1 he
      rw [e]; exact List.mem_cons_self ..
    · unfold flK at hx2
      rw [Bool.and_eq_true] at hx2
      exact List.mem_cons_of_mem _ (h2 x hx k hx2.2)
theorem sorted_nodup {l : List Str} (h : SortedS l) : l.Nodup := by
  unfold SortedS at h
  exact h.imp (fun {a b} hab e => by rw [e] at hab; exact List.lt_irrefl _ hab)
theorem free_len {t : Tm} {l : List Str} (hs : SortedS l) (hm : ∀ k, k ∈ l ↔ fvT t k = true) : l.length ≤ uT t := by
  obtain ⟨L, h1, h2⟩ := fv_names _ t (Nat.le_refl _)
  exact Nat.le_trans (len_nodup l L (sorted_nodup hs) (fun k hk => h2 k ((hm k).1 hk))) h1
theorem freeL_len {t : Tm} {l : List Str} (hs : SortedS l) (hm : ∀ k, k ∈ l ↔ flT t k = true) : l.length ≤ uT t := by
  obtain ⟨L, h1, h2⟩ := fl_names _ t (Nat.le_refl _)
  exact Nat.le_trans (len_nodup l L (sorted_nodup hs) (fun k hk => h2 k ((hm k).1 hk))) h1

/-! ### from the size to what the checks ask for -/
theorem nodesK_mem {d : Int} {y : Int × Tm} : ∀ {l : List (Bnd × Tm)}, y ∈ nodesK d l → ∃ x ∈ l, y ∈ nodesL d x.2
  | [], h => by simp [nodesK] at h
  | x :: r, h => by
    rw [nodesK] at h
    rcases List.mem_append.1 h with h | h
    · exact ⟨x, List.mem_cons_self .., h⟩
    · obtain ⟨z, hz, h'⟩ := nodesK_mem h
      exact ⟨z, List.mem_cons_of_mem _ hz, h'⟩
theorem deep_le : ∀ (n : Nat) (t : Tm) (d : Int), uT t ≤ n → ∀ y ∈ nodesL d t, d ≤ y.1 ∧ y.1 < d + uT t := by
  intro n
  induction n with
  | zero => intro t d hu; rw [uT_kids] at hu; omega
  | succ n ih =>
    intro t d hu y hy
    rw [nodesL_kids] at hy
    rcases List.mem_cons.1 hy with rfl | hy
    · exact ⟨Int.le_refl _, by rw [uT_kids]; dsimp only; omega⟩
    · obtain ⟨x, hx, hy⟩ := nodesK_mem hy
      have h1 := uT_kid hx
      have := ih x.2 (d + 1) (by omega) y hy
      omega
theorem wK_le (n : Nat) (ih : ∀ t : Tm, uT t ≤ n → wT t ≤ uT t) : ∀ l : List (Bnd × Tm), uK l ≤ n → wK l ≤ uK l
  | [], _ => by simp [wK]
  | x :: r, h => by
    rw [uK] at h
    have h1 := ih x.2 (by omega)
    have h2 := wK_le n ih r (by omega)
    rw [wK, uK]; omega
theorem wT_le : ∀ (n : Nat) (t : Tm), uT t ≤ n → wT t ≤ uT t := by
  intro n
  induction n with
  | zero => intro t hu; rw [uT_kids] at hu; omega
  | succ n ih =>
    intro t hu
    rw [wT_kids, uT_kids] at *
    have := wK_le n ih (kids t) (by omega)
    omega
theorem fine_of {t : Tm} (h : uT t ≤ 50000000) : FineT t :=
  ⟨fun y hy => by have := deep_le _ t 1 (Nat.le_refl _) y hy; omega, by have := wT_le _ t (Nat.le_refl _); omega⟩
end Go.Proofs.YtfohcdpfgbeclaaGreat

/- law.go: TermScopes. -/
namespace Go.Proofs.YtfohcdpfgbeclaaGreat
open Go.RowKit

set_option maxHeartbeats 4000000 in
set_option maxRecDepth 100000 in
theorem termScopes_any (P : Pg) (vd vf v1 v2 v3 : Value) (l1 l2 l3 : List Str) (k : Nat) (t : Tm) (va vc : Value) (w : World) (hd : RDecls w vd P.decls) (hf : RFns w vf P.funs) (hfine : FinePg P) (h1 : RStrs w v1 l1) (h2 : RStrs w v2 l2) (h3 : RStrs w v3 l3) (ht : RT w k t va vc)
    (hu : uT t ≤ 50000000) (n1 : l1.length ≤ 50000000) (n2 : l2.length ≤ 50000000) (n3 : l3.length ≤ 50000000) :
    Calls Tryz.prog 6 #[pV vd vf, v1, v2, v3, tV t va vc] w fun e w' => e = .returned (.bool true) ∧ Ext w w' := by
  have HD := Lib.hid hd; have HF := Lib.hid hf; have HFI := Lib.hid hfine; have H1 := Lib.hid h1; have H2 := Lib.hid h2; have H3 := Lib.hid h3; have HT := Lib.hid ht; have HU := Lib.hid hu
  have HFT := Lib.hid (fine_of hu)
  have HWT : Hid (wT t ≤ 50000000) := Nat.le_trans (wT_le _ t (Nat.le_refl _)) hu
  have N1 := Lib.hid n1; have N2 := Lib.hid n2; have N3 := Lib.hid n3
  obtain ⟨Ad, cd, rfl, hcd, hmd⟩ := hd.form
  obtain ⟨Af, cf, rfl, hcf, hmf⟩ := hf.form
  obtain ⟨_, ⟨Aa, ca, rfl, -, -⟩, ⟨Bb, cb, rfl, -, -⟩⟩ := ht.form
  clear hd hf hfine h1 h2 h3 ht hu n1 n2 n3
  have HE0 := Lib.hid (Ext.al w (.cells #[.slice Ad P.decls.length cd, .slice Af P.funs.length cf] 25))
  have HE1 := Lib.hid (Ext.al (w.alloc (.cells #[.slice Ad P.decls.length cd, .slice Af P.funs.length cf] 25)) (.cells #[.int .i64 t.op, .int .i64 t.n, .string t.nm, .int .i64 t.ty, .slice Aa t.args.length ca, .slice Bb t.cls.length cb] 43))
  have HBP0 := Lib.hid (heapNew w (.cells #[.slice Ad P.decls.length cd, .slice Af P.funs.length cf] 25))
  have HBP := Lib.hid ((HE1.out.block _ (heap_lt HBP0.out)).trans HBP0.out)
  have HBT := Lib.hid (box6b w (.cells #[.slice Ad P.decls.length cd, .slice Af P.funs.length cf] 25) (.int .i64 t.op) (.int .i64 t.n) (.string t.nm) (.int .i64 t.ty) (.slice Aa t.args.length ca) (.slice Bb t.cls.length cb))
  have HE : Hid (Ext w _) := Lib.hid (HE0.out.tr HE1.out)
  clear HBP0 HE0 HE1
  have p0 := cellAt HBP.out 0
  have p1 := cellAt HBP.out 1
  go_enter Tryz.func6, Tryz.ntmps6
  go_wp2_with fail
  generalize World.alloc (World.alloc w _) _ = w1 at *
  clear p0 p1
  (with_reducible refine (Few_any P _ _ 700 _ (HD.out.below HE.out) (HF.out.below HE.out) (by omega) (by omega)).mono ?_)
  rintro e w2 ⟨q, rfl, hb⟩
  have HX2 := Lib.hid (HE.out.tr hb)
  have HBP := Lib.hid (((hb).block _ (heap_lt HBP.out)).trans HBP.out)
  have HBT := Lib.hid (((hb).block _ (heap_lt HBT.out)).trans HBT.out)
  clear hb
  have p0 := cellAt HBP.out 0
  have p1 := cellAt HBP.out 1
  obtain ⟨t0, t1, t2, t3, t4, t5⟩ := cells6 HBT.out
  cases q
  · go_wp2_with fail
    (with_reducible refine (awake_any _).mono ?_)
    rintro e wz ⟨rfl, hb⟩
    have HZ := Lib.hid (HX2.out.tr hb)
    clear hb
    go_wp2
    go_ret
    exact ⟨rfl, HZ.out⟩
  · go_wp2_with fail
    (with_reducible refine (Fits_any k t _ _ 700 _ (HT.out.below HX2.out) (by omega) (by omega)).mono ?_)
    rintro e w3 ⟨q, rfl, hb⟩
    have HX3 := Lib.hid (HX2.out.tr hb)
    have HBP := Lib.hid (((hb).block _ (heap_lt HBP.out)).trans HBP.out)
    have HBT := Lib.hid (((hb).block _ (heap_lt HBT.out)).trans HBT.out)
    clear hb
    clear p0 p1 t0 t1 t2 t3 t4 t5
    have p0 := cellAt HBP.out 0
    have p1 := cellAt HBP.out 1
    obtain ⟨t0, t1, t2, t3, t4, t5⟩ := cells6 HBT.out
    cases q
    · go_wp2_with fail
      (with_reducible refine (awake_any _).mono ?_)
      rintro e wz ⟨rfl, hb⟩
      have HZ := Lib.hid (HX3.out.tr hb)
      clear hb
      go_wp2
      go_ret
      exact ⟨rfl, HZ.out⟩
    · go_wp2_with fail
      (with_reducible refine (Term_any P _ _ v1 v2 l1 l2 k t _ _ _ (HD.out.below HX3.out) (HF.out.below HX3.out) HFI.out (H1.out.below HX3.out) (H2.out.below HX3.out) (HT.out.below HX3.out) HFT.out (by have := N1.out; have := N2.out; have := HWT.out; unfold maxLen; omega)).mono ?_)
      rintro e w4 ⟨rfl, hb⟩
      have HX4 := Lib.hid (HX3.out.tr hb)
      have HBP := Lib.hid (((hb).block _ (heap_lt HBP.out)).trans HBP.out)
      have HBT := Lib.hid (((hb).block _ (heap_lt HBT.out)).trans HBT.out)
      clear hb
      clear p0 p1 t0 t1 t2 t3 t4 t5
      have p0 := cellAt HBP.out 0
      have p1 := cellAt HBP.out 1
      obtain ⟨t0, t1, t2, t3, t4, t5⟩ := cells6 HBT.out
      have HR : Hid (termP P (hasS l1) (hasS l2) t = if progB P then ((sizeR t).2 && validT P (hasS l1) (hasS l2) t, 0) else (false, 20)) := rfl
      have HTP : Hid (∀ (V L : Scp), termP P V L t = if progB P then ((sizeR t).2 && validT P V L t, 0) else (false, 20)) := fun V L => rfl
      cases hp : progB P
      · have hr := HR.out
        rw [hp] at hr
        simp only [Bool.false_eq_true, if_false] at hr
        rw [hr]
        clear hr hp HR HTP
        dsimp only
        go_wp2_with fail
        (with_reducible refine (awake_any _).mono ?_)
        rintro e wz ⟨rfl, hb⟩
        have HZ := Lib.hid (HX4.out.tr hb)
        clear hb
        go_wp2
        go_ret
        exact ⟨rfl, HZ.out⟩
      · cases hq : ((sizeR t).2 && validT P (hasS l1) (hasS l2) t)
        · have hr := HR.out
          rw [hp, hq] at hr
          simp only [if_true] at hr
          rw [hr]
          clear hr hp hq HR HTP
          dsimp only
          go_wp2_with fail
          (with_reducible refine (awake_any _).mono ?_)
          rintro e wz ⟨rfl, hb⟩
          have HZ := Lib.hid (HX4.out.tr hb)
          clear hb
          go_wp2
          go_ret
          exact ⟨rfl, HZ.out⟩
        · have hr := HR.out
          rw [hp, hq] at hr
          simp only [if_true] at hr
          rw [hr]
          rw [Bool.and_eq_true] at hq
          have HQ := Lib.hid hq
          have HP := Lib.hid hp
          clear hr hp hq HR
          dsimp only
          go_wp2_with fail
          (with_reducible refine (Free_any k t _ _ _ (HT.out.below HX4.out) (by have := HU.out; omega)).mono ?_)
          rintro e w5 ⟨r1, r2, m1, m2, rfl, ho1, ho2, hb⟩
          have HX5 := Lib.hid (HX4.out.tr hb)
          have HS1 : Hid (RStrs w5 r1 m1) := ho1.strs
          have HS2 : Hid (RStrs w5 r2 m2) := ho2.strs
          have HM1 : Hid (∀ s, s ∈ m1 ↔ fvT t s = true) := ho1.mem
          have HM2 : Hid (∀ s, s ∈ m2 ↔ flT t s = true) := ho2.mem
          have HBP := Lib.hid ((hb.block _ (heap_lt HBP.out)).trans HBP.out)
          have HBT := Lib.hid ((hb.block _ (heap_lt HBT.out)).trans HBT.out)
          have HFR := Lib.hid (valid_free P _ t (hasS l1) (hasS l2) (Nat.le_refl _) HQ.out.2)
          have HL1 : Hid (m1.length ≤ 50000000) := Nat.le_trans (free_len ho1.sorted ho1.mem) HU.out
          have HL2 : Hid (m2.length ≤ 50000000) := Nat.le_trans (freeL_len ho2.sorted ho2.mem) HU.out
          clear ho1 ho2 hb p0 p1 t0 t1 t2 t3 t4 t5
          obtain ⟨A1, c1, rfl, hc1, hm1⟩ := HS1.out.form
          obtain ⟨A2, c2, rfl, hc2, hm2⟩ := HS2.out.form
          unfold maxLen at hm1 hm2
          go_wp2
          go_loopw [65] (fun i wr => ∃ j : Nat, j ≤ m1.length ∧ i = .int .i64 j ∧ w5 = wr) (fun i _ => m1.length - (intOf i).toNat)
          case atStart => exact ⟨0, Nat.zero_le _, rfl, rfl⟩
          case round =>
            obtain ⟨j, hj, rfl, rfl⟩ := hrel
            by_cases hlt : j < m1.length
            · obtain ⟨b, o, rfl, hbl, y0, hs⟩ := HS1.out.at_ hlt
              have HIN : Hid (hasS l1 m1[j] = true) := HFR.out.1 _ ((HM1.out _).1 (List.getElem_mem _))
              generalize m1[j] = s at *
              go_wp2_with fail
              (with_reducible refine (In_any v1 l1 s w5 (H1.out.below HX5.out)).mono ?_)
              rintro e w6 ⟨rfl, rfl⟩
              rw [HIN.out]
              go_wp2
              exact ⟨⟨j + 1, by omega, by go_num, trivial⟩, by simp [intOf]; omega⟩
            · go_wp2
              go_loopw [76] (fun i wr => ∃ j : Nat, j ≤ m2.length ∧ i = .int .i64 j ∧ w5 = wr) (fun i _ => m2.length - (intOf i).toNat)
              case atStart => exact ⟨0, Nat.zero_le _, rfl, rfl⟩
              case round =>
                obtain ⟨j2, hj2, rfl, rfl⟩ := hrel
                by_cases hlt2 : j2 < m2.length
                · obtain ⟨b, o, rfl, hbl, y0, hs⟩ := HS2.out.at_ hlt2
                  have HIN : Hid (hasS l2 m2[j2] = true) := HFR.out.2 _ ((HM2.out _).1 (List.getElem_mem _))
                  generalize m2[j2] = s at *
                  go_wp2_with fail
                  (with_reducible refine (In_any v2 l2 s w5 (H2.out.below HX5.out)).mono ?_)
                  rintro e w6 ⟨rfl, rfl⟩
                  rw [HIN.out]
                  go_wp2
                  exact ⟨⟨j2 + 1, by omega, by go_num, trivial⟩, by simp [intOf]; omega⟩
                · have p0 := cellAt HBP.out 0
                  have p1 := cellAt HBP.out 1
                  obtain ⟨t0, t1, t2, t3, t4, t5⟩ := cells6 HBT.out
                  go_wp2
                  go_region_with (first
                    | (go_at_call 25; (with_reducible refine (With_any v3 v1 l3 l1 w5.drew ((H3.out.below HX5.out).below (Ext.rf _).drew) ((H1.out.below HX5.out).below (Ext.rf _).drew) H3.out.sizes H1.out.sizes (by have := N1.out; have := N3.out; omega)).mono ?_); rintro e w6 ⟨VA, rfl, hr, hb⟩; have HY6 : Hid (Ext w5 w6) := Ext.tr (b := w5.drew) (Ext.rf w5).drew hb; have HVA := Lib.hid hr; clear hr hb p0 p1 t0 t1 t2 t3 t4 t5; have p0 := HY6.out.keep (cellAt HBP.out 0); have p1 := HY6.out.keep (cellAt HBP.out 1); have t0 := HY6.out.keep (cellAt HBT.out 0); have t1 := HY6.out.keep (cellAt HBT.out 1); have t2 := HY6.out.keep (cellAt HBT.out 2); have t3 := HY6.out.keep (cellAt HBT.out 3); have t4 := HY6.out.keep (cellAt HBT.out 4); have t5 := HY6.out.keep (cellAt HBT.out 5))
                    | (go_at_call 25; (with_reducible refine (With_any v2 v3 l2 l3 w5.drew ((H2.out.below HX5.out).below (Ext.rf _).drew) ((H3.out.below HX5.out).below (Ext.rf _).drew) H2.out.sizes H3.out.sizes (by have := N2.out; have := N3.out; omega)).mono ?_); rintro e w6 ⟨VB, rfl, hr, hb⟩; have HY6 : Hid (Ext w5 w6) := Ext.tr (b := w5.drew) (Ext.rf w5).drew hb; have HVB := Lib.hid hr; clear hr hb p0 p1 t0 t1 t2 t3 t4 t5; have p0 := HY6.out.keep (cellAt HBP.out 0); have p1 := HY6.out.keep (cellAt HBP.out 1); have t0 := HY6.out.keep (cellAt HBT.out 0); have t1 := HY6.out.keep (cellAt HBT.out 1); have t2 := HY6.out.keep (cellAt HBT.out 2); have t3 := HY6.out.keep (cellAt HBT.out 3); have t4 := HY6.out.keep (cellAt HBT.out 4); have t5 := HY6.out.keep (cellAt HBT.out 5))
                    | (go_at_call 25; (with_reducible refine (With_any v2 v3 l2 l3 w6 ((H2.out.below HX5.out).below HY6.out) ((H3.out.below HX5.out).below HY6.out) H2.out.sizes H3.out.sizes (by have := N2.out; have := N3.out; omega)).mono ?_); rintro e w7 ⟨VB, rfl, hr, hb⟩; have HY7 : Hid (Ext w5 w7) := HY6.out.tr hb; have HVB := Lib.hid hr; have HVA := Lib.hid (HVA.out.below hb); clear hr hb p0 p1 t0 t1 t2 t3 t4 t5; have p0 := HY7.out.keep (cellAt HBP.out 0); have p1 := HY7.out.keep (cellAt HBP.out 1); have t0 := HY7.out.keep (cellAt HBT.out 0); have t1 := HY7.out.keep (cellAt HBT.out 1); have t2 := HY7.out.keep (cellAt HBT.out 2); have t3 := HY7.out.keep (cellAt HBT.out 3); have t4 := HY7.out.keep (cellAt HBT.out 4); have t5 := HY7.out.keep (cellAt HBT.out 5))
                    | (go_at_call 25; (with_reducible refine (With_any v3 v1 l3 l1 w6 ((H3.out.below HX5.out).below HY6.out) ((H1.out.below HX5.out).below HY6.out) H3.out.sizes H1.out.sizes (by have := N1.out; have := N3.out; omega)).mono ?_); rintro e w7 ⟨VA, rfl, hr, hb⟩; have HY7 : Hid (Ext w5 w7) := HY6.out.tr hb; have HVA := Lib.hid hr; have HVB := Lib.hid (HVB.out.below hb); clear hr hb p0 p1 t0 t1 t2 t3 t4 t5; have p0 := HY7.out.keep (cellAt HBP.out 0); have p1 := HY7.out.keep (cellAt HBP.out 1); have t0 := HY7.out.keep (cellAt HBT.out 0); have t1 := HY7.out.keep (cellAt HBT.out 1); have t2 := HY7.out.keep (cellAt HBT.out 2); have t3 := HY7.out.keep (cellAt HBT.out 3); have t4 := HY7.out.keep (cellAt HBT.out 4); have t5 := HY7.out.keep (cellAt HBT.out 5))
                    | (go_at_call 18; (with_reducible refine (Term_any P _ _ VA VB (l3 ++ l1) (l2 ++ l3) k t _ _ w7 (HD.out.below (HX5.out.tr HY7.out)) (HF.out.below (HX5.out.tr HY7.out)) HFI.out HVA.out HVB.out (HT.out.below (HX5.out.tr HY7.out)) HFT.out (by have := N1.out; have := N2.out; have := N3.out; have := HWT.out; rw [List.length_append, List.length_append]; unfold maxLen; omega)).mono ?_); rintro e w8 ⟨rfl, hb⟩; have HY8 : Hid (Ext w5 w8) := HY7.out.tr hb; clear hb p0 p1 t0 t1 t2 t3 t4 t5; have p0 := HY8.out.keep (cellAt HBP.out 0); have p1 := HY8.out.keep (cellAt HBP.out 1); have t0 := HY8.out.keep (cellAt HBT.out 0); have t1 := HY8.out.keep (cellAt HBT.out 1); have t2 := HY8.out.keep (cellAt HBT.out 2); have t3 := HY8.out.keep (cellAt HBT.out 3); have t4 := HY8.out.keep (cellAt HBT.out 4); have t5 := HY8.out.keep (cellAt HBT.out 5)))
                  all_goals
                    have HV2 : Hid (termP P (hasS (l3 ++ l1)) (hasS (l2 ++ l3)) t = (true, 0)) := by
                      show termP P (hasS (l3 ++ l1)) (hasS (l2 ++ l3)) t = (true, 0)
                      rw [HTP.out, if_pos HP.out, HQ.out.1, valid_scope P _ t _ _ (hasS (l3 ++ l1)) (hasS (l2 ++ l3)) (Nat.le_refl _) HQ.out.2 (fun s hs => by rw [hasS_append, HFR.out.1 s hs, Bool.or_true]) (fun s hs => by rw [hasS_append, HFR.out.2 s hs, Bool.true_or])]
                      rfl
                    have HV3 : Hid (termP P (hasS m1) (hasS m2) t = (true, 0)) := by
                      show termP P (hasS m1) (hasS m2) t = (true, 0)
                      rw [HTP.out, if_pos HP.out, HQ.out.1, valid_scope P _ t _ _ (hasS m1) (hasS m2) (Nat.le_refl _) HQ.out.2 (fun s hs => hasS_mem.2 ((HM1.out s).2 hs)) (fun s hs => hasS_mem.2 ((HM2.out s).2 hs))]
                      rfl
                    rw [HV2.out]
                    dsimp only
                    go_wp2_with fail
                    (with_reducible refine (Term_any P _ _ _ _ m1 m2 k t _ _ w8 (HD.out.below (HX5.out.tr HY8.out)) (HF.out.below (HX5.out.tr HY8.out)) HFI.out (HS1.out.below HY8.out) (HS2.out.below HY8.out) (HT.out.below (HX5.out.tr HY8.out)) HFT.out (by have := HL1.out; have := HL2.out; have := HWT.out; unfold maxLen; omega)).mono ?_)
                    rw [HV3.out]
                    rintro e w9 ⟨rfl, hb⟩
                    have HY9 : Hid (Ext w w9) := HX5.out.tr (HY8.out.tr hb)
                    clear hb p0 p1 t0 t1 t2 t3 t4 t5
                    dsimp only
                    go_wp2_with fail
                    (with_reducible refine (awake_any _).mono ?_)
                    rintro e wz ⟨rfl, hb⟩
                    have HZ := Lib.hid (HY9.out.tr hb)
                    clear hb
                    go_wp2
                    go_ret
                    exact ⟨rfl, HZ.out⟩
end Go.Proofs.YtfohcdpfgbeclaaGreat
