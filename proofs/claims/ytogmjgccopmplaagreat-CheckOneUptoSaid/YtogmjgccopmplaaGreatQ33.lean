/- law.go: CheckOne: what types depend on; a let. -/
import Derived.Test.YtogmjgccopmplaaGreatQ32
namespace Go.Proofs.YtogmjgccopmplaaGreat
open Go.RowKit

/-! ### the last entry -/
theorem lastL_fold (x : Str) : ∀ (l : List Prm) (f g : Str → Int), (∃ a ∈ l, eqS x a.nm = true) → (l.foldl (fun f a => fun x => if eqS x a.nm then a.ty else f x) f) x = (l.foldl (fun f a => fun x => if eqS x a.nm then a.ty else f x) g) x
  | [], _, _, ⟨a, h, _⟩ => by cases h
  | a :: r, f, g, h => by
    rw [List.foldl_cons, List.foldl_cons]
    by_cases hr : ∃ b ∈ r, eqS x b.nm = true
    · exact lastL_fold x r _ _ hr
    · have ha : eqS x a.nm = true := by
        obtain ⟨b, hb, e⟩ := h
        rcases List.mem_cons.1 hb with rfl | hb
        · exact e
        · exact absurd ⟨b, hb, e⟩ hr
      have hno : ∀ (r : List Prm) (f : Str → Int), (¬ ∃ b ∈ r, eqS x b.nm = true) → (r.foldl (fun f a => fun x => if eqS x a.nm then a.ty else f x) f) x = f x := by
        intro r
        induction r with
        | nil => intro f _; rfl
        | cons b s ih =>
          intro f h
          rw [List.foldl_cons, ih _ (fun ⟨c, hc, e⟩ => h ⟨c, List.mem_cons_of_mem _ hc, e⟩)]
          have : eqS x b.nm = false := by
            cases hb : eqS x b.nm
            · rfl
            · exact absurd ⟨b, List.mem_cons_self .., hb⟩ h
          simp [this]
      rw [hno r _ hr, hno r _ hr]
      simp [ha]
theorem lastL_none (x : Str) : ∀ (r : List Prm) (f : Str → Int), (¬ ∃ b ∈ r, eqS x b.nm = true) → (r.foldl (fun f a => fun x => if eqS x a.nm then a.ty else f x) f) x = f x
  | [], _, _ => rfl
  | b :: s, f, h => by
    rw [List.foldl_cons, lastL_none x s _ (fun ⟨c, hc, e⟩ => h ⟨c, List.mem_cons_of_mem _ hc, e⟩)]
    have : eqS x b.nm = false := by
      cases hb : eqS x b.nm
      · rfl
      · exact absurd ⟨b, List.mem_cons_self .., hb⟩ h
    simp [this]
theorem lastL_app {x : Str} {m l : List Prm} (h : ∃ a ∈ l, eqS x a.nm = true) : lastL (m ++ l) x = lastL l x := by
  unfold lastL
  rw [List.foldl_append]
  exact lastL_fold x l _ _ h
theorem lastL_filter (x : Str) (q : Prm → Bool) (hq : ∀ a, eqS x a.nm = true → q a = true) : ∀ (l : List Prm) (f : Str → Int), ((l.filter q).foldl (fun f a => fun x => if eqS x a.nm then a.ty else f x) f) x = (l.foldl (fun f a => fun x => if eqS x a.nm then a.ty else f x) f) x
  | [], _ => rfl
  | a :: r, f => by
    rw [List.foldl_cons]
    cases h : q a
    · rw [List.filter_cons_of_neg (by rw [h]; simp), lastL_filter x q hq r]
      have ha : eqS x a.nm = false := by
        cases hb : eqS x a.nm
        · rfl
        · rw [hq a hb] at h; cases h
      by_cases hr : ∃ b ∈ r, eqS x b.nm = true
      · exact lastL_fold x r _ _ hr
      · rw [lastL_none x r _ hr, lastL_none x r _ hr]
        simp [ha]
    · rw [List.filter_cons_of_pos h, List.foldl_cons, lastL_filter x q hq r]
theorem givenL_congr {l m : List Prm} : ∀ (us : List Str), (∀ s ∈ us, lastL l s = lastL m s) → givenL l us = givenL m us := by
  intro us h
  unfold givenL
  have : ∀ (us : List Str) (E : Env), (∀ s ∈ us, lastL l s = lastL m s) → us.foldl (fun E s => (s, lastL l s) :: E) E = us.foldl (fun E s => (s, lastL m s) :: E) E := by
    intro us
    induction us with
    | nil => intro E _; rfl
    | cons s r ih =>
      intro E h
      rw [List.foldl_cons, List.foldl_cons, h s (List.mem_cons_self ..)]
      exact ih _ (fun s hs => h s (List.mem_cons_of_mem _ hs))
  exact this us [] h

/-! ### what Type answers -/
def typP (P : Pg) (vs ls : List Prm) (fv fl : List Str) (t : Tm) : Int × Int := match tyT P (givenL vs fv) (givenL ls fl) t with | .inr y => (y, 0) | .inl _ => (0, 40)
structure GoodQ (P : Pg) (vs ls : List Prm) (t : Tm) : Prop where
  prog : progB P = true
  size : (sizeR t).2 = true
  valid : validT P (hasS (vs.map Prm.nm)) (hasS (ls.map Prm.nm)) t = true
  hv : haveL P vs = true
  hl : haveL P ls = true
structure FVs (t : Tm) (fv fl : List Str) : Prop where
  m1 : ∀ k, k ∈ fv ↔ fvT t k = true
  o1 : SortedS fv
  m2 : ∀ k, k ∈ fl ↔ flT t k = true
  o2 : SortedS fl
section
variable {P : Pg} {vs ls more : List Prm} {fv fl : List Str} {t : Tm} {e : Ending}
theorem GoodQ.term (h : GoodQ P vs ls t) : (termP P (hasS (vs.map Prm.nm)) (hasS (ls.map Prm.nm)) t).1 = true := by
  unfold termP
  rw [if_pos h.prog, h.size, h.valid]; rfl
theorem GoodQ.of (h1 : progB P = true) (h2 : (termP P (hasS (vs.map Prm.nm)) (hasS (ls.map Prm.nm)) t).1 = true) (h3 : haveL P vs = true) (h4 : haveL P ls = true) : GoodQ P vs ls t := by
  unfold termP at h2
  rw [if_pos h1] at h2
  have h2 : ((sizeR t).2 && validT P (hasS (vs.map Prm.nm)) (hasS (ls.map Prm.nm)) t) = true := h2
  rw [Bool.and_eq_true] at h2
  exact ⟨h1, h2.1, h2.2, h3, h4⟩
theorem FVs.uniq {gv gl : List Str} (h : FVs t fv fl) (k : FVs t gv gl) : gv = fv ∧ gl = fl :=
  ⟨sorted_same _ _ k.o1 h.o1 (fun x => (k.m1 x).trans (h.m1 x).symm), sorted_same _ _ k.o2 h.o2 (fun x => (k.m2 x).trans (h.m2 x).symm)⟩
theorem TypeR.cases (h : TypeR P vs ls t e) : (∃ c : Int, c ≠ 0 ∧ c ≠ 40 ∧ e = .returned (.tuple #[.int .i64 0, .int .i64 c])) ∨ (GoodQ P vs ls t ∧ ∃ fv fl, FVs t fv fl ∧ e = .returned (.tuple #[.int .i64 (typP P vs ls fv fl t).1, .int .i64 (typP P vs ls fv fl t).2])) := by
  unfold TypeR at h
  split at h
  · exact .inl ⟨20, by decide, by decide, h⟩
  · rename_i hp
    split at h
    · rename_i hq
      obtain ⟨fv, fl, h1, h2, h3, h4, rfl⟩ := h
      refine .inr ⟨GoodQ.of (by simpa using hp) hq.1 hq.2.1 hq.2.2, fv, fl, ⟨h1, h2, h3, h4⟩, ?_⟩
      unfold typP
      cases tyT P (givenL vs fv) (givenL ls fl) t <;> rfl
    · exact .inl ⟨1, by decide, by decide, h⟩
theorem TypeR.good (h : TypeR P vs ls t e) (hg : GoodQ P vs ls t) (hf : FVs t fv fl) : e = .returned (.tuple #[.int .i64 (typP P vs ls fv fl t).1, .int .i64 (typP P vs ls fv fl t).2]) := by
  unfold TypeR at h
  rw [if_neg (by rw [hg.prog]; simp), if_pos ⟨hg.term, hg.hv, hg.hl⟩] at h
  obtain ⟨gv, gl, h1, h2, h3, h4, rfl⟩ := h
  obtain ⟨rfl, rfl⟩ := hf.uniq ⟨h1, h2, h3, h4⟩
  unfold typP
  cases tyT P (givenL vs gv) (givenL ls gl) t <;> rfl
theorem hasS_prm {l : List Prm} {k : Str} : hasS (l.map Prm.nm) k = true ↔ ∃ a ∈ l, eqS k a.nm = true := by
  rw [hasS_mem, List.mem_map]
  constructor
  · rintro ⟨a, ha, rfl⟩; exact ⟨a, ha, eqS_iff.2 rfl⟩
  · rintro ⟨a, ha, h⟩; exact ⟨a, ha, (eqS_iff.1 h).symm⟩
theorem have_sub {l m : List Prm} (h : haveL P m = true) (hs : ∀ a ∈ l, a ∈ m) : haveL P l = true := by
  unfold haveL at h ⊢
  rw [List.all_eq_true] at h ⊢
  exact fun a ha => h a (hs a ha)
theorem only_has {l : List Prm} {us : List Str} {k : Str} (h : hasS (l.map Prm.nm) k = true) (hk : k ∈ us) : hasS ((onlyL l us).map Prm.nm) k = true := by
  obtain ⟨a, ha, he⟩ := hasS_prm.1 h
  refine hasS_prm.2 ⟨a, ?_, he⟩
  unfold onlyL
  rw [List.mem_filter]
  exact ⟨ha, hasS_mem.2 (eqS_iff.1 he ▸ hk)⟩
theorem only_last {l : List Prm} {us : List Str} {k : Str} (hk : k ∈ us) : lastL (onlyL l us) k = lastL l k :=
  lastL_filter k _ (fun a h => hasS_mem.2 (eqS_iff.1 h ▸ hk)) l _
theorem GoodQ.only (h : GoodQ P vs ls t) (hf : FVs t fv fl) : GoodQ P (onlyL vs fv) (onlyL ls fl) t ∧ typP P (onlyL vs fv) (onlyL ls fl) fv fl t = typP P vs ls fv fl t := by
  have hfree := valid_free P _ t _ _ (Nat.le_refl _) h.valid
  refine ⟨⟨h.prog, h.size, valid_scope P _ t _ _ _ _ (Nat.le_refl _) h.valid (fun k hk => only_has (hfree.1 k hk) ((hf.m1 k).2 hk)) (fun k hk => only_has (hfree.2 k hk) ((hf.m2 k).2 hk)), have_sub h.hv (fun a ha => (List.mem_filter.1 ha).1), have_sub h.hl (fun a ha => (List.mem_filter.1 ha).1)⟩, ?_⟩
  unfold typP
  rw [givenL_congr (l := onlyL vs fv) (m := vs) fv (fun s hs => only_last hs), givenL_congr (l := onlyL ls fl) (m := ls) fl (fun s hs => only_last hs)]
theorem more_has {l : List Prm} {k : Str} (h : hasS (l.map Prm.nm) k = true) : hasS ((more ++ l).map Prm.nm) k = true := by
  obtain ⟨a, ha, he⟩ := hasS_prm.1 h
  exact hasS_prm.2 ⟨a, List.mem_append_right _ ha, he⟩
theorem have_more {l : List Prm} (h : haveL P more = true) (h2 : haveL P l = true) : haveL P (more ++ l) = true := by
  unfold haveL at h h2 ⊢
  rw [List.all_append, h, h2]; rfl
theorem GoodQ.add (h : GoodQ P vs ls t) (hf : FVs t fv fl) (hm : haveL P more = true) : GoodQ P (more ++ vs) (more ++ ls) t ∧ typP P (more ++ vs) (more ++ ls) fv fl t = typP P vs ls fv fl t := by
  have hfree := valid_free P _ t _ _ (Nat.le_refl _) h.valid
  refine ⟨⟨h.prog, h.size, valid_scope P _ t _ _ _ _ (Nat.le_refl _) h.valid (fun k hk => more_has (hfree.1 k hk)) (fun k hk => more_has (hfree.2 k hk)), have_more hm h.hv, have_more hm h.hl⟩, ?_⟩
  unfold typP
  rw [givenL_congr (l := more ++ vs) (m := vs) fv (fun s hs => lastL_app (hasS_prm.1 (hfree.1 s ((hf.m1 s).1 hs)))), givenL_congr (l := more ++ ls) (m := ls) fl (fun s hs => lastL_app (hasS_prm.1 (hfree.2 s ((hf.m2 s).1 hs))))]
end

/-! ### a let -/
def zzS : Str := ⟨#[122, 122]⟩
def letZ (u : Int) (t : Tm) : Tm := .mk 8 0 zzS u [t, varT zzS] []
theorem zz_dist : distB [zzS] = true := by kernel_rfl
theorem zz_dist0 : distB [] = true := by kernel_rfl
theorem eqS_zz (k : Str) : (k.toList == zzS.toList) = eqS k zzS := rfl
theorem letZ_fv (u : Int) (t : Tm) (k : Str) : fvT (letZ u t) k = fvT t k := by
  unfold letZ varT
  simp only [fvT, fvA, fvC, bndAt, vnames, eqS_zz]
  cases h : eqS k zzS <;> simp [hasS, eqS_zz, h]
theorem letZ_fl (u : Int) (t : Tm) (k : Str) : flT (letZ u t) k = flT t k := by
  unfold letZ varT
  simp [flT, flA, flC, bndAt, lnames, hasS]
theorem letZ_FVs {t : Tm} {fv fl : List Str} (u : Int) (h : FVs t fv fl) : FVs (letZ u t) fv fl :=
  ⟨fun k => by rw [letZ_fv]; exact h.m1 k, h.o1, fun k => by rw [letZ_fl]; exact h.m2 k, h.o2⟩
theorem letZ_nodes (u : Int) (t : Tm) (d : Int) : nodesL d (letZ u t) = (d, letZ u t) :: (nodesL (d + 1) t ++ [(d + 1, varT zzS)]) := by
  unfold letZ varT
  simp [nodesL, nodesA, nodesC]
theorem letZ_size {u : Int} {t : Tm} (hn : nT t ≤ 598) (hd : dT t ≤ 23) : (sizeR (letZ u t)).2 = true := by
  unfold sizeR
  have hok : sizeOK (nodesL 1 (letZ u t)) = true := by
    unfold sizeOK
    rw [Bool.and_eq_true, decide_eq_true_eq, List.all_eq_true]
    refine ⟨?_, fun y hy => ?_⟩
    · rw [letZ_nodes]
      have := len_same (uT t) t (1 + 1) (Nat.le_refl _)
      simp only [List.length_cons, List.length_append, List.length_nil]
      omega
    · rw [decide_eq_true_eq]
      rw [letZ_nodes] at hy
      rcases List.mem_cons.1 hy with rfl | hy
      · simp
      · rcases List.mem_append.1 hy with hy | hy
        · exact ((dep_all (uT t) t (1 + 1) 24 (Nat.le_refl _)).2 (by omega)) y hy
        · rw [List.mem_singleton.1 hy]; simp
  rw [if_pos hok]
theorem letZ_fits {P : Pg} {u : Int} {t : Tm} (hu : isTypeB P u = true) : fitsT P (letZ u t) = true := by
  unfold fitsT letZ
  simp [Tm.op, Tm.ty, hasF, Tm.n, Tm.args, Tm.cls, hu]
theorem zz_fits {P : Pg} : fitsT P (varT zzS) = true := by
  unfold fitsT varT
  simp [Tm.op, Tm.ty, hasF, Tm.n, Tm.args, Tm.cls]
theorem letZ_valid {P : Pg} {V L : Scp} {u : Int} {t : Tm} (hu : isTypeB P u = true) (h : validT P V L t = true) : validT P V L (letZ u t) = true := by
  have h1 := letZ_fits (t := t) hu
  have h2 := zz_fits (P := P)
  unfold letZ at h1 ⊢
  unfold varT at h1 h2 ⊢
  simp only [validT, validA, validC, h1, h2]
  simp [refB, Tm.op, Tm.nm, bndAt, addV, addL, zz_dist, zz_dist0, h, hasS]
theorem letZ_ty {P : Pg} {V L : Env} {u : Int} {t : Tm} : tyT P V L (letZ u t) = match tyT P V L t with | .inr y => if y = u then .inr u else .inl [] | .inl p => .inl (0 :: p) := by
  unfold letZ varT
  simp only [tyT, tyA, tyC]
  simp only [argV, argL]
  cases h : tyT P V L t with
  | inl p => simp [h]
  | inr y =>
    simp [h, ruleS, findE, okR]
theorem GoodQ.letz {P : Pg} {vs ls : List Prm} {fv fl : List Str} {t : Tm} {u : Int} (h : GoodQ P vs ls t) (hu : isTypeB P u = true) (hn : nT t ≤ 598) (hd : dT t ≤ 23) :
    GoodQ P vs ls (letZ u t) ∧ typP P vs ls fv fl (letZ u t) = if (typP P vs ls fv fl t).2 = 0 ∧ (typP P vs ls fv fl t).1 = u then (u, 0) else (0, 40) := by
  refine ⟨⟨h.prog, letZ_size hn hd, letZ_valid hu h.valid, h.hv, h.hl⟩, ?_⟩
  unfold typP
  rw [letZ_ty]
  cases tyT P (givenL vs fv) (givenL ls fl) t with
  | inl p => simp
  | inr y => by_cases hy : y = u <;> simp [hy]
theorem letZ_uT (u : Int) (t : Tm) : uT (letZ u t) ≤ uT t + 10 := by
  unfold letZ varT
  simp [uT, uA, uC, bndAt]
  omega
theorem typP_two (P : Pg) (vs ls : List Prm) (fv fl : List Str) (t : Tm) : (typP P vs ls fv fl t).2 = 0 ∨ (typP P vs ls fv fl t).2 = 40 ∧ (typP P vs ls fv fl t).1 = 0 := by
  unfold typP
  cases tyT P (givenL vs fv) (givenL ls fl) t
  · exact .inr ⟨rfl, rfl⟩
  · exact .inl rfl
end Go.Proofs.YtogmjgccopmplaaGreat

/- law.go: CheckOne: two rows that grow, one beside the other. -/
namespace Go.Proofs.YtogmjgccopmplaaGreat
open Go.RowKit

def OwnP (W : World) (B : Nat) (v : Value) (l : List Prm) : Prop := W.ownsRow B 74 2 v l.length (prmCells l)
theorem prmCells_app : ∀ (l m : List Prm), prmCells (l ++ m) = prmCells l ++ prmCells m
  | [], _ => rfl
  | a :: r, m => by
    rw [List.cons_append, prmCells, prmCells, prmCells_app r m]; rfl
theorem own_other {W W' : World} {B e k n : Nat} {v s : Value} {xs : List Value} (h : W.ownsRow B e k v n xs) (hg : W.grownBy W' s.ownBlock) (hne : ∀ g, v.ownBlock = some g → s.ownBlock ≠ some g) : W'.ownsRow B e k v n xs := by
  refine ⟨h.1, ?_⟩
  rcases h.2 with h0 | ⟨g, cap, cur, rfl, e2, e3, e4⟩
  · exact .inl h0
  · exact .inr ⟨g, cap, cur, rfl, e2, (hg.block g (heap_lt e3) (fun e => hne g (by simp [Value.ownBlock]) e.symm)).trans e3, e4⟩
/-- Two rows of the call's own, each in a block of its own. -/
structure Two (W : World) (B : Nat) (a b : Option (Value × List Prm)) : Prop where
  oa : ∀ x, a = some x → OwnP W B x.1 x.2
  ob : ∀ x, b = some x → OwnP W B x.1 x.2
  ne : ∀ x y g, a = some x → b = some y → x.1.ownBlock = some g → y.1.ownBlock ≠ some g
section
variable {W W' : World} {B : Nat} {a b : Option (Value × List Prm)}
theorem Two.ext (h : Two W B a b) (hb : Ext W W') : Two W' B a b :=
  ⟨fun x hx => own_below (h.oa x hx) hb, fun x hx => own_below (h.ob x hx) hb, h.ne⟩
theorem Two.swap (h : Two W B a b) : Two W B b a := ⟨h.ob, h.oa, fun x y g hx hy e e2 => h.ne y x g hy hx e2 e⟩
theorem Two.grow (h : Two W B a b) {s v : Value} {l m : List Prm} (hs : a = some (s, l) ∨ s.ownBlock = none) (hg : W.grownBy W' s.ownBlock) (ho : OwnP W' B v m) (hat : v.ownBlock = s.ownBlock ∨ v.ownBlock = some W.heap.size) : Two W' B (some (v, m)) b := by
  have hdis : ∀ y g, b = some y → y.1.ownBlock = some g → s.ownBlock ≠ some g := fun y g hy e e2 => by
    rcases hs with hs | hs
    · exact h.ne _ _ g hs hy e2 e
    · rw [hs] at e2; cases e2
  refine ⟨fun x hx => by cases hx; exact ho, fun y hy => own_other (h.ob y hy) hg (fun g e => hdis y g hy e), fun x y g hx hy e e2 => ?_⟩
  cases hx
  rcases hat with hat | hat
  · exact hdis y g hy e2 (hat ▸ e)
  · have hlt := ((h.ob y hy).lt g e2).2
    have e : v.ownBlock = some g := e
    rw [hat] at e; injection e with e
    omega
end
def curOf (a b : Bool) (x y : Value) (l m : List Prm) : Option (Value × List Prm) := if b then some (y, m) else if a then some (x, l) else none
/-- The second drawn region. -/
structure R11 (vals : Nat → Value) (l1 l2 l3 : List Prm) (w7 : World) (Ls : Nat → Bool) (W : World) (vv : Nat → Value) : Prop where
  ext : Ext w7 W
  facts : ∀ i, i < 16 → i ≠ 2 ∧ i ≠ 4 ∧ i ≠ 6 ∧ i ≠ 8 → Ls i = true → vv i = vals i
  two : Two W w7.heap.size (curOf (Ls 2) (Ls 4) (vv 2) (vv 4) l3 (l3 ++ l1)) (curOf (Ls 6) (Ls 8) (vv 6) (vv 8) l3 (l3 ++ l2))
section
variable {vals : Nat → Value} {l1 l2 l3 : List Prm} {w7 W W' : World} {Ls : Nat → Bool} {vv : Nat → Value} {v : Value} {i : Nat}
theorem R11.zero (vals : Nat → Value) (l1 l2 l3 : List Prm) (w7 : World) (vv : Nat → Value) : R11 vals l1 l2 l3 w7 (fun _ => false) w7.drew vv :=
  ⟨(Ext.rf _).drew, (fun _ _ _ h => by cases h), ⟨fun x h => by simp [curOf] at h, fun x h => by simp [curOf] at h, fun x y g h => by simp [curOf] at h⟩⟩
theorem R11.put (h : R11 vals l1 l2 l3 w7 Ls W vv) (hi : i ≠ 2 ∧ i ≠ 4 ∧ i ≠ 6 ∧ i ≠ 8) (hb : Ext W W') (hv : v = vals i) : R11 vals l1 l2 l3 w7 (fun j => decide (j = i) || Ls j) W' (fun j => if j = i then v else vv j) := by
  refine ⟨h.ext.tr hb, fun j hj hn hl => ?_, ?_⟩
  · by_cases hji : j = i
    · subst hji; simpa using hv
    · have h2 : (decide (j = i) || Ls j) = true := hl
      rw [decide_eq_false hji, Bool.false_or] at h2
      simp only [if_neg hji]
      exact h.facts j hj hn h2
  · have e : ∀ j, j ≠ i → (decide (j = i) || Ls j) = Ls j := fun j hj => by rw [decide_eq_false hj, Bool.false_or]
    show Two W' w7.heap.size (curOf (decide (2 = i) || Ls 2) (decide (4 = i) || Ls 4) (if 2 = i then v else vv 2) (if 4 = i then v else vv 4) l3 (l3 ++ l1)) (curOf (decide (6 = i) || Ls 6) (decide (8 = i) || Ls 8) (if 6 = i then v else vv 6) (if 8 = i then v else vv 8) l3 (l3 ++ l2))
    rw [e 2 (by omega), e 4 (by omega), e 6 (by omega), e 8 (by omega), if_neg (by omega), if_neg (by omega), if_neg (by omega), if_neg (by omega)]
    exact h.two.ext hb
theorem R11.other (h : R11 vals l1 l2 l3 w7 Ls W vv) (hi : i = 2 ∨ i = 4 ∨ i = 6 ∨ i = 8) : ∀ j, j < 16 → j ≠ 2 ∧ j ≠ 4 ∧ j ≠ 6 ∧ j ≠ 8 → (decide (j = i) || Ls j) = true → (if j = i then v else vv j) = vals j := fun j hj hn hl => by
  have hji : j ≠ i := by omega
  rw [decide_eq_false hji, Bool.false_or] at hl
  rw [if_neg hji]
  exact h.facts j hj hn hl
theorem R11.grown (h : R11 vals l1 l2 l3 w7 Ls W vv) {s : Value} (hg : W.grownBy W' s.ownBlock) (hB : ∀ g, s.ownBlock = some g → w7.heap.size ≤ g) : Ext w7 W' :=
  h.ext.trans (Below.grown (Below.refl _ _) hg h.ext.size hB)
theorem R11.put2 (h : R11 vals l1 l2 l3 w7 Ls W vv) (h2 : Ls 2 = false) (h4 : Ls 4 = false) (hg : W.grownBy W' (Value.slice none 0 0).ownBlock) (ho : OwnP W' w7.heap.size v l3) (hat : v.ownBlock = (Value.slice none 0 0).ownBlock ∨ v.ownBlock = some W.heap.size) : R11 vals l1 l2 l3 w7 (fun j => decide (j = 2) || Ls j) W' (fun j => if j = 2 then v else vv j) := by
  refine ⟨h.grown hg (fun g e => by simp [Value.ownBlock] at e), h.other (.inl rfl), ?_⟩
  have := h.two.grow (s := .slice none 0 0) (l := []) (.inr (by simp [Value.ownBlock])) hg ho hat
  simpa [curOf, h4] using this
theorem R11.put4 (h : R11 vals l1 l2 l3 w7 Ls W vv) (h2 : Ls 2 = true) (h4 : Ls 4 = false) (hg : W.grownBy W' (vv 2).ownBlock) (ho : OwnP W' w7.heap.size v (l3 ++ l1)) (hat : v.ownBlock = (vv 2).ownBlock ∨ v.ownBlock = some W.heap.size) : R11 vals l1 l2 l3 w7 (fun j => decide (j = 4) || Ls j) W' (fun j => if j = 4 then v else vv j) := by
  have hc : curOf (Ls 2) (Ls 4) (vv 2) (vv 4) l3 (l3 ++ l1) = some (vv 2, l3) := by simp [curOf, h2, h4]
  refine ⟨h.grown hg (fun g e => ((h.two.oa _ hc).lt g e).1), h.other (.inr (.inl rfl)), ?_⟩
  have := h.two.grow (s := vv 2) (l := l3) (.inl hc) hg ho hat
  simpa [curOf] using this
theorem R11.put6 (h : R11 vals l1 l2 l3 w7 Ls W vv) (h2 : Ls 6 = false) (h4 : Ls 8 = false) (hg : W.grownBy W' (Value.slice none 0 0).ownBlock) (ho : OwnP W' w7.heap.size v l3) (hat : v.ownBlock = (Value.slice none 0 0).ownBlock ∨ v.ownBlock = some W.heap.size) : R11 vals l1 l2 l3 w7 (fun j => decide (j = 6) || Ls j) W' (fun j => if j = 6 then v else vv j) := by
  refine ⟨h.grown hg (fun g e => by simp [Value.ownBlock] at e), h.other (.inr (.inr (.inl rfl))), ?_⟩
  have := (h.two.swap.grow (s := .slice none 0 0) (l := []) (.inr (by simp [Value.ownBlock])) hg ho hat).swap
  simpa [curOf, h4] using this
theorem R11.put8 (h : R11 vals l1 l2 l3 w7 Ls W vv) (h2 : Ls 6 = true) (h4 : Ls 8 = false) (hg : W.grownBy W' (vv 6).ownBlock) (ho : OwnP W' w7.heap.size v (l3 ++ l2)) (hat : v.ownBlock = (vv 6).ownBlock ∨ v.ownBlock = some W.heap.size) : R11 vals l1 l2 l3 w7 (fun j => decide (j = 8) || Ls j) W' (fun j => if j = 8 then v else vv j) := by
  have hc : curOf (Ls 6) (Ls 8) (vv 6) (vv 8) l3 (l3 ++ l2) = some (vv 6, l3) := by simp [curOf, h2, h4]
  refine ⟨h.grown hg (fun g e => ((h.two.ob _ hc).lt g e).1), h.other (.inr (.inr (.inr rfl))), ?_⟩
  have := (h.two.swap.grow (s := vv 6) (l := l3) (.inl hc) hg ho hat).swap
  simpa [curOf] using this
theorem R11.a2 (h : R11 vals l1 l2 l3 w7 Ls W vv) (h2 : Ls 2 = true) (h4 : Ls 4 = false) : OwnP W w7.heap.size (vv 2) l3 := h.two.oa (vv 2, l3) (by simp [curOf, h2, h4])
theorem R11.a4 (h : R11 vals l1 l2 l3 w7 Ls W vv) (h4 : Ls 4 = true) : OwnP W w7.heap.size (vv 4) (l3 ++ l1) := h.two.oa (vv 4, l3 ++ l1) (by simp [curOf, h4])
theorem R11.b6 (h : R11 vals l1 l2 l3 w7 Ls W vv) (h2 : Ls 6 = true) (h4 : Ls 8 = false) : OwnP W w7.heap.size (vv 6) l3 := h.two.ob (vv 6, l3) (by simp [curOf, h2, h4])
theorem R11.b8 (h : R11 vals l1 l2 l3 w7 Ls W vv) (h4 : Ls 8 = true) : OwnP W w7.heap.size (vv 8) (l3 ++ l2) := h.two.ob (vv 8, l3 ++ l2) (by simp [curOf, h4])
end
/-- What the operations of the first drawn region yield. -/
def FO (vals : Nat → Value) (m1 m2 : List Prm) (W : World) (j : Nat) (v : Value) : Prop :=
  (j ≠ 3 ∧ j ≠ 6 → v = vals j) ∧ (j = 3 → RPrms W v m1) ∧ (j = 6 → RPrms W v m2)
theorem FO.ext {vals : Nat → Value} {m1 m2 : List Prm} (W W' : World) (j : Nat) (v : Value) (h : FO vals m1 m2 W j v) (hb : Ext W W') : FO vals m1 m2 W' j v :=
  ⟨h.1, fun e => (h.2.1 e).below hb, fun e => (h.2.2 e).below hb⟩
end Go.Proofs.YtogmjgccopmplaaGreat
