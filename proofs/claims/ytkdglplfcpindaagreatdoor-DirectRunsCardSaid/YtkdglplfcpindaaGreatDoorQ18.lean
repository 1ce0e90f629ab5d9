import Derived.Test.YtkdglplfcpindaaGreatDoorQ17
set_option maxRecDepth 100000
namespace Go.Proofs.YtkdglplfcpindaaGreatDoor
theorem afterS_ok {b : Bool} {P : Pg} (hP : WFP b P) {t : Tm} {e : En} {k : Kt} {E F : Env} {z : Int} {l : List It} (h0 : t.op = 4 ∨ t.op = 6 ∨ t.op = 8 ∨ t.op = 9) (h1 : VldS5 P E F t) (h2 : b = true -> tyT P E F t = .inr z)
    (h3 : TY b P (.vs e.vs E)) (h4 : TY b P (.ls e.ls F)) (h5 : TY b P (.k k z)) (h6 : TY b P (.is l (typesOf P t))) : TS b P (afterS P t e k l) := by
  have hf := h1.vld.fits
  have hlen := terms_len hP.prog hf h0
  unfold afterS
  unfold typesOf at h6 hlen
  rcases h0 with ho | ho | ho | ho <;> simp only [ho] at h6 hlen ⊢
  . simp only [show ¬ ((4 : Int) = 8) by omega, show ¬ ((4 : Int) = 9) by omega, if_false, if_true] at h6 ⊢
    obtain ⟨h7, h8, -, -⟩ := fit4 hf ho
    refine ⟨z, .con t.ty t.n z l h7 h8 (fun hb => ?_) h6, h5⟩
    obtain ⟨ps, -, -, hr⟩ := tyT_parts (h2 hb)
    unfold ruleS at hr
    simp only [ho, show ¬ ((4 : Int) = 0) by omega, show ¬ ((4 : Int) = 1) by omega, show ¬ ((4 : Int) = 2) by omega, show ¬ ((4 : Int) = 3) by omega, if_true, if_false] at hr
    exact (okR_inr hr).2
  . simp only [show ¬ ((6 : Int) = 4) by omega, show ¬ ((6 : Int) = 8) by omega, show ¬ ((6 : Int) = 9) by omega, if_false, if_true] at h6 hlen ⊢
    have hl1 : t.args.length - 1 < t.args.length := by have := hlen.2 trivial; omega
    refine ⟨E, F, t.ty, arg_ok h1 hl1 (by omega) (by omega), fun hb => ?_, h3, h4, .obs t e l t.ty z E F k ho h1 (fun hb => ⟨h2 hb, rfl⟩) h3 h4 h5 h6⟩
    obtain ⟨ps, hpl, hk, hr⟩ := tyT_parts (h2 hb)
    rw [arg_ty hk hl1 (by omega) (by omega)]
    unfold ruleS at hr
    simp only [ho, show ¬ ((6 : Int) = 0) by omega, show ¬ ((6 : Int) = 1) by omega, show ¬ ((6 : Int) = 2) by omega, show ¬ ((6 : Int) = 3) by omega, show ¬ ((6 : Int) = 4) by omega, show ¬ ((6 : Int) = 5) by omega, if_true, if_false] at hr
    rw [(eqL_iff _ _).1 (okR_inr hr).1, List.getD_eq_getElem?_getD, List.getElem?_append_right (by have := hlen.2 trivial; omega)]
    rw [show t.args.length - 1 - (prodL (xtorAt P t.ty t.n)).length = 0 by have := hlen.2 trivial; omega]
    rfl
  . simp only [show ¬ ((8 : Int) = 4) by omega, show ¬ ((8 : Int) = 6) by omega, if_false, if_true] at h6 ⊢
    obtain ⟨hl, -⟩ := fit8 hf ho
    have hk1 := h1.kid (i := 1) (by omega)
    have e1 : kidE P E F t 1 = ((t.nm, t.ty) :: E, F) := by unfold kidE argV argL; rw [if_pos (by omega), if_pos ⟨ho, rfl⟩, if_neg (by omega)]
    have e2 : kidT t 1 = t.args.getD 1 noTm := by unfold kidT; rw [if_pos (by omega)]; rfl
    rw [e1, e2] at hk1
    refine ⟨(t.nm, t.ty) :: E, F, z, hk1, fun hb => ?_, ?_, h4, h5⟩
    . obtain ⟨ps, hpl, hk, hr⟩ := tyT_parts (h2 hb)
      have := hk 1 (by omega)
      rw [e1, e2] at this
      rw [this]
      unfold ruleS at hr
      simp only [ho, show ¬ ((8 : Int) = 0) by omega, show ¬ ((8 : Int) = 1) by omega, show ¬ ((8 : Int) = 2) by omega, show ¬ ((8 : Int) = 3) by omega, show ¬ ((8 : Int) = 4) by omega, show ¬ ((8 : Int) = 5) by omega, show ¬ ((8 : Int) = 6) by omega, show ¬ ((8 : Int) = 7) by omega, if_true, if_false] at hr
      rw [(okR_inr hr).2]
    . exact TY.with [t.nm] [t.ty] l e.vs E h6 h3
  . simp only [show ¬ ((9 : Int) = 4) by omega, show ¬ ((9 : Int) = 6) by omega, show ¬ ((9 : Int) = 8) by omega, if_false, if_true] at h6 ⊢
    obtain ⟨hn, -, -⟩ := fit9 hf ho
    have hm := fn_in hn
    refine ⟨paramE (fnAt P t.n), [], z, body_vld hP.prog hm, fun hb => ?_, TY.with _ _ l [] [] h6 .vnil, .lnil, h5⟩
    rw [hP.typed hb _ hm]
    obtain ⟨ps, hpl, hk, hr⟩ := tyT_parts (h2 hb)
    unfold ruleS at hr
    simp only [ho, show ¬ ((9 : Int) = 0) by omega, show ¬ ((9 : Int) = 1) by omega, show ¬ ((9 : Int) = 2) by omega, show ¬ ((9 : Int) = 3) by omega, show ¬ ((9 : Int) = 4) by omega, show ¬ ((9 : Int) = 5) by omega, show ¬ ((9 : Int) = 6) by omega, show ¬ ((9 : Int) = 7) by omega, show ¬ ((9 : Int) = 8) by omega, if_true, if_false] at hr
    rw [(okR_inr hr).2]
theorem resS_ok {b : Bool} {P : Pg} (hP : WFP b P) {t : Tm} {e : En} {k : Kt} {E F : Env} {z : Int} (h0 : t.op = 4 ∨ t.op = 6 ∨ t.op = 8 ∨ t.op = 9) (h1 : VldS5 P E F t) (h2 : b = true -> tyT P E F t = .inr z)
    (h3 : TY b P (.vs e.vs E)) (h4 : TY b P (.ls e.ls F)) (h5 : TY b P (.k k z)) : ∀ (m j : Nat) (l : List It), (typesOf P t).length - j <= m -> j <= (typesOf P t).length -> TY b P (.is l ((typesOf P t).take j)) -> TS b P (resS P t e k ((termsOf t).drop j) ((typesOf P t).drop j) l) := by
  have hlen := (terms_len hP.prog h1.vld.fits h0).1
  intro m
  induction m with
  | zero =>
    intro j l hm hj hl
    have : j = (typesOf P t).length := by omega
    subst this
    rw [List.take_length] at hl
    rw [List.drop_length, ← hlen, List.drop_length, resS]
    . exact afterS_ok hP h0 h1 h2 h3 h4 h5 hl
    . intros; simp at *
  | succ m ih =>
    intro j l hm hj hl
    by_cases hjl : j = (typesOf P t).length
    . subst hjl
      rw [List.take_length] at hl
      rw [List.drop_length, ← hlen, List.drop_length, resS]
      . exact afterS_ok hP h0 h1 h2 h3 h4 h5 hl
      . intros; simp at *
    . have hlt : j < (typesOf P t).length := by omega
      have hlt2 : j < (termsOf t).length := by omega
      obtain ⟨hg, hja, hj8⟩ := term_get hlt2
      have hv : VldS5 P E F (t.args.getD j noTm) := arg_ok h1 hja (fun hx => by have := hj8 hx.1; omega) (by omega)
      have hty : b = true -> tyT P E F (t.args.getD j noTm) = .inr ((typesOf P t).getD j 0) := fun hb => term_ty hP.prog h1 h0 (h2 hb) hlt2
      have hyj : (typesOf P t).getD j 0 = (typesOf P t)[j] := by rw [List.getD_eq_getElem?_getD, List.getElem?_eq_getElem hlt]; rfl
      rw [List.drop_eq_getElem_cons hlt, List.drop_eq_getElem_cons hlt2, hg, resS]
      split
      . refine ih (j + 1) _ (by omega) (by omega) ?_
        rw [List.take_succ_eq_append_getElem hlt]
        refine TY.snoc hl ?_
        rw [← hyj]
        exact .thunk _ e _ E F hv hty h3 h4
      . refine ⟨E, F, (typesOf P t).getD j 0, hv, hty, h3, h4, ?_⟩
        have := TY.bind (b := b) (P := P) t e l j ((typesOf P t).getD j 0) z E F k h0 h1 (fun hb => ⟨h2 hb, rfl⟩) h3 h4 h5 hlt hl
        rw [List.drop_eq_getElem_cons hlt, List.drop_eq_getElem_cons hlt2, hg] at this
        exact this
theorem TY.reV {b : Bool} {P : Pg} {x : Vl} {y z : Int} (h : TY b P (.v x y)) (hz : b = true -> z = y) : TY b P (.v x z) := by
  cases b
  . cases h with
    | int n _ _ => exact .int n z (by simp)
    | con d n _ l h0 h1 _ h3 => exact .con d n z l h0 h1 (by simp) h3
    | obj t e _ E F h0 h1 _ h3 h4 => exact .obj t e z E F h0 h1 (by simp) h3 h4
  . rw [hz rfl]; exact h
theorem TY.reK {b : Bool} {P : Pg} {x : Kt} {y z : Int} (h : TY b P (.k x y)) (hz : b = true -> z = y) : TY b P (.k x z) := by
  cases b
  . cases h with
    | fin _ _ => exact .fin z (by simp)
    | left t e _ z' E F k h0 h1 _ h3 h4 h5 => exact .left t e z z' E F k h0 h1 (by simp) h3 h4 h5
    | right t e a _ z' E F k h0 h1 _ h3 h4 h5 => exact .right t e a z z' E F k h0 h1 (by simp) h3 h4 h5
    | zero t e _ z' E F k h0 h1 _ h3 h4 h5 => exact .zero t e z z' E F k h0 h1 (by simp) h3 h4 h5
    | emit t e _ z' E F k h0 h1 _ h3 h4 h5 => exact .emit t e z z' E F k h0 h1 (by simp) h3 h4 h5
    | ana t e _ z' E F k h0 h1 _ h3 h4 h5 => exact .ana t e z z' E F k h0 h1 (by simp) h3 h4 h5
    | obs t e l _ z' E F k h0 h1 _ h3 h4 h5 h6 => exact .obs t e l z z' E F k h0 h1 (by simp) h3 h4 h5 h6
    | bind t e l j _ z' E F k h0 h1 _ h3 h4 h5 hj h6 => exact .bind t e l j z z' E F k h0 h1 (by simp) h3 h4 h5 hj h6
  . rw [hz rfl]; exact h
theorem rule_of {P : Pg} {E F : Env} {t : Tm} {z : Int} (h : tyT P E F t = .inr z) : ∃ ps, ps.length = t.args.length + t.cls.length ∧
    (∀ j, j < t.args.length + t.cls.length -> tyT P (kidE P E F t j).1 (kidE P E F t j).2 (kidT t j) = .inr (ps.getD j 0)) ∧
    (t.op = 0 -> findE E t.nm = some z) /\ (t.op = 1 -> z = 0) /\ (t.op = 2 -> ps.getD 0 0 = 0 /\ ps.getD 1 0 = 0 /\ z = 0) /\ (t.op = 3 -> ps.getD 0 0 = 0 /\ ps.getD 1 0 = z /\ ps.getD 2 0 = z) ∧
    (t.op = 5 -> (∀ i, 1 <= i -> i < ps.length -> ps.getD i 0 = z) /\ ps.getD 0 0 = t.ty) /\ (t.op = 6 -> z = lastT (xtorAt P t.ty t.n)) ∧
    (t.op = 7 -> ps = (declAt P t.ty).xtors.map lastT /\ z = t.ty) /\ (t.op = 10 -> ps.getD 0 0 = 0 /\ ps.getD 1 0 = z) /\ (t.op = 11 -> ps.getD 0 0 = t.ty /\ z = t.ty) ∧
    (t.op = 12 -> findE F t.nm = some (ps.getD 0 0)) := by
  obtain ⟨ps, hl, hk, hr⟩ := tyT_parts h
  refine ⟨ps, hl, hk, ?_, ?_, ?_, ?_, ?_, ?_, ?_, ?_, ?_, ?_⟩ <;> intro ho <;> unfold ruleS at hr <;> rw [ho] at hr
  . rw [if_pos rfl] at hr
    cases hf : findE E t.nm with
    | none => rw [hf] at hr; cases hr
    | some y => rw [hf] at hr; cases hr; rfl
  . simp at hr; omega
  . simp at hr; have := okR_inr hr; simp at this; simp [this]
  . simp at hr; have := okR_inr hr; simp at this; simp [this]
  . simp at hr
    have h1 := okR_inr hr
    simp only [Bool.and_eq_true, List.all_eq_true, decide_eq_true_eq] at h1
    refine ⟨fun i hi hl => ?_, by simpa using h1.1.2⟩
    rw [h1.2]
    by_cases e : i = 1
    . subst e; simp
    . have hm : ps.getD i 0 ∈ ps.drop 2 := by
        rw [List.getD_eq_getElem?_getD, List.getElem?_eq_getElem hl]
        exact List.mem_of_getElem? (l := ps.drop 2) (i := i - 2) (by rw [List.getElem?_drop, show 2 + (i - 2) = i by omega, List.getElem?_eq_getElem hl]; rfl)
      have := h1.1.1 _ hm
      simpa using this
  . simp at hr; exact (okR_inr hr).2
  . simp at hr; have := okR_inr hr; exact ⟨(eqL_iff _ _).1 this.1, this.2⟩
  . simp at hr; have := okR_inr hr; simp at this; simp [this]
  . simp at hr; have := okR_inr hr; simp at this; simp [this]
  . simp at hr
    cases hf : findE F t.nm with
    | none => rw [hf] at hr; cases hr
    | some y => rw [hf] at hr; have := okR_inr hr; simp at this; simp [this]
theorem evS_ok {b : Bool} {P : Pg} (hP : WFP b P) {t : Tm} {e : En} {k : Kt} (h : TS b P (.ev t e k)) : ∃ q, evS P t e k = .go q /\ TS b P q := by
  obtain ⟨E, F, z, h1, h2, h3, h4, h5⟩ := h
  have hf := h1.vld.fits
  have h9 : (t.op = 4 ∨ t.op = 6 ∨ t.op = 8 ∨ t.op = 9) -> TS b P (resS P t e k (termsOf t) (typesOf P t) []) := fun h0 => by
    have := resS_ok hP h0 h1 h2 h3 h4 h5 (typesOf P t).length 0 [] (by omega) (by omega) (by simpa using TY.inil)
    simpa using this
  have arg : ∀ (i : Nat) (y : Int) (k' : Kt), i < t.args.length -> t.op ≠ 8 -> t.op ≠ 11 -> (∀ hb : b = true, tyT P E F (t.args.getD i noTm) = .inr y) -> TY b P (.k k' y) -> TS b P (.ev (t.args.getD i noTm) e k') :=
    fun i y k' hi ha hc ht hk => ⟨E, F, y, arg_ok h1 hi (fun hx => ha hx.1) hc, ht, h3, h4, hk⟩
  have aty : ∀ (hb : b = true) {ps : List Int}, (∀ j, j < t.args.length + t.cls.length -> tyT P (kidE P E F t j).1 (kidE P E F t j).2 (kidT t j) = .inr (ps.getD j 0)) -> ∀ i, i < t.args.length -> t.op ≠ 8 -> t.op ≠ 11 -> tyT P E F (t.args.getD i noTm) = .inr (ps.getD i 0) :=
    fun hb ps hk i hi ha hc => arg_ty hk hi (fun hx => ha hx.1) hc
  unfold evS
  rcases fit_op hf with ho | ho | ho | ho | ho | ho | ho | ho | ho | ho | ho | ho | ho
  . obtain ⟨y, hy⟩ := h1.var ho
    obtain ⟨x, hx, hxy⟩ := h3.findV hy
    simp only [ho, if_true, hx]
    refine ⟨_, rfl, ?_⟩
    have hz : b = true -> z = y := fun hb => by
      obtain ⟨ps, -, -, hr, -⟩ := rule_of (h2 hb)
      have := hr ho
      rw [hy] at this
      exact (Option.some.inj this).symm
    cases hxy with
    | held v _ hv => exact ⟨z, hv.reV hz, h5⟩
    | thunk t' e' _ E' F' g1 g2 g3 g4 => exact ⟨E', F', z, g1, fun hb => by rw [hz hb]; exact g2 hb, g3, g4, h5⟩
  . simp only [ho, show ¬ ((1 : Int) = 0) by omega, if_true, if_false]
    refine ⟨_, rfl, z, .int _ z (fun hb => ?_), h5⟩
    obtain ⟨ps, -, -, -, hr, -⟩ := rule_of (h2 hb)
    exact hr ho
  . simp only [ho, show ¬ ((2 : Int) = 0) by omega, show ¬ ((2 : Int) = 1) by omega, if_true, if_false]
    have hl := fit2 hf ho
    refine ⟨_, rfl, arg 0 0 _ (by omega) (by omega) (by omega) (fun hb => ?_) (.left t e 0 z E F k ho h1 (fun hb => ⟨h2 hb, rfl⟩) h3 h4 h5)⟩
    obtain ⟨ps, -, hk, -, -, hr, -⟩ := rule_of (h2 hb)
    rw [aty hb hk 0 (by omega) (by omega) (by omega), (hr ho).1]
  . simp only [ho, show ¬ ((3 : Int) = 0) by omega, show ¬ ((3 : Int) = 1) by omega, show ¬ ((3 : Int) = 2) by omega, if_true, if_false]
    have hl := fit3 hf ho
    refine ⟨_, rfl, arg 0 0 _ (by omega) (by omega) (by omega) (fun hb => ?_) (.zero t e 0 z E F k ho h1 (fun hb => ⟨h2 hb, rfl⟩) h3 h4 h5)⟩
    obtain ⟨ps, -, hk, -, -, -, hr, -⟩ := rule_of (h2 hb)
    rw [aty hb hk 0 (by omega) (by omega) (by omega), (hr ho).1]
  . simp only [ho, show ¬ ((4 : Int) = 0) by omega, show ¬ ((4 : Int) = 1) by omega, show ¬ ((4 : Int) = 2) by omega, show ¬ ((4 : Int) = 3) by omega, show ¬ ((4 : Int) = 5) by omega, show ¬ ((4 : Int) = 7) by omega, show ¬ ((4 : Int) = 10) by omega, show ¬ ((4 : Int) = 11) by omega, show ¬ ((4 : Int) = 12) by omega, if_false]
    exact ⟨_, rfl, h9 (by omega)⟩
  . simp only [ho, show ¬ ((5 : Int) = 0) by omega, show ¬ ((5 : Int) = 1) by omega, show ¬ ((5 : Int) = 2) by omega, show ¬ ((5 : Int) = 3) by omega, if_true, if_false]
    have hl := fit5 hf ho
    refine ⟨_, rfl, arg 0 t.ty _ (by omega) (by omega) (by omega) (fun hb => ?_) (.ana t e t.ty z E F k ho h1 (fun hb => ⟨h2 hb, rfl⟩) h3 h4 h5)⟩
    obtain ⟨ps, -, hk, -, -, -, -, hr, -⟩ := rule_of (h2 hb)
    rw [aty hb hk 0 (by omega) (by omega) (by omega), (hr ho).2]
  . simp only [ho, show ¬ ((6 : Int) = 0) by omega, show ¬ ((6 : Int) = 1) by omega, show ¬ ((6 : Int) = 2) by omega, show ¬ ((6 : Int) = 3) by omega, show ¬ ((6 : Int) = 5) by omega, show ¬ ((6 : Int) = 7) by omega, show ¬ ((6 : Int) = 10) by omega, show ¬ ((6 : Int) = 11) by omega, show ¬ ((6 : Int) = 12) by omega, if_false]
    exact ⟨_, rfl, h9 (by omega)⟩
  . simp only [ho, show ¬ ((7 : Int) = 0) by omega, show ¬ ((7 : Int) = 1) by omega, show ¬ ((7 : Int) = 2) by omega, show ¬ ((7 : Int) = 3) by omega, show ¬ ((7 : Int) = 5) by omega, if_true, if_false]
    exact ⟨_, rfl, z, .obj t e z E F ho h1 h2 h3 h4, h5⟩
  . simp only [ho, show ¬ ((8 : Int) = 0) by omega, show ¬ ((8 : Int) = 1) by omega, show ¬ ((8 : Int) = 2) by omega, show ¬ ((8 : Int) = 3) by omega, show ¬ ((8 : Int) = 5) by omega, show ¬ ((8 : Int) = 7) by omega, show ¬ ((8 : Int) = 10) by omega, show ¬ ((8 : Int) = 11) by omega, show ¬ ((8 : Int) = 12) by omega, if_false]
    exact ⟨_, rfl, h9 (by omega)⟩
  . simp only [ho, show ¬ ((9 : Int) = 0) by omega, show ¬ ((9 : Int) = 1) by omega, show ¬ ((9 : Int) = 2) by omega, show ¬ ((9 : Int) = 3) by omega, show ¬ ((9 : Int) = 5) by omega, show ¬ ((9 : Int) = 7) by omega, show ¬ ((9 : Int) = 10) by omega, show ¬ ((9 : Int) = 11) by omega, show ¬ ((9 : Int) = 12) by omega, if_false]
    exact ⟨_, rfl, h9 (by omega)⟩
  . simp only [ho, show ¬ ((10 : Int) = 0) by omega, show ¬ ((10 : Int) = 1) by omega, show ¬ ((10 : Int) = 2) by omega, show ¬ ((10 : Int) = 3) by omega, show ¬ ((10 : Int) = 5) by omega, show ¬ ((10 : Int) = 7) by omega, if_true, if_false]
    have hl := fit10 hf ho
    refine ⟨_, rfl, arg 0 0 _ (by omega) (by omega) (by omega) (fun hb => ?_) (.emit t e 0 z E F k ho h1 (fun hb => ⟨h2 hb, rfl⟩) h3 h4 h5)⟩
    obtain ⟨ps, -, hk, -, -, -, -, -, -, -, hr, -⟩ := rule_of (h2 hb)
    rw [aty hb hk 0 (by omega) (by omega) (by omega), (hr ho).1]
  . simp only [ho, show ¬ ((11 : Int) = 0) by omega, show ¬ ((11 : Int) = 1) by omega, show ¬ ((11 : Int) = 2) by omega, show ¬ ((11 : Int) = 3) by omega, show ¬ ((11 : Int) = 5) by omega, show ¬ ((11 : Int) = 7) by omega, show ¬ ((11 : Int) = 10) by omega, if_true, if_false]
    have hl := fit11 hf (.inl ho)
    have hk0 := h1.kid (i := 0) (by omega)
    have e1 : kidE P E F t 0 = (E, (t.nm, t.ty) :: F) := by unfold kidE argV argL; rw [if_pos (by omega), if_neg (by omega), if_pos ho]
    have e2 : kidT t 0 = t.args.getD 0 noTm := by unfold kidT; rw [if_pos (by omega)]; rfl
    rw [e1, e2] at hk0
    have hz : b = true -> t.ty = z := fun hb => by
      obtain ⟨ps, -, -, -, -, -, -, -, -, -, -, hr, -⟩ := rule_of (h2 hb)
      exact (hr ho).2.symm
    refine ⟨_, rfl, E, (t.nm, t.ty) :: F, z, hk0, fun hb => ?_, h3, .lcons t.nm k t.ty e.ls F (h5.reK hz) h4, h5⟩
    obtain ⟨ps, -, hk, -, -, -, -, -, -, -, -, hr, -⟩ := rule_of (h2 hb)
    have := hk 0 (by omega)
    rw [e1, e2] at this
    rw [this, (hr ho).1, hz hb]
  . simp only [ho, show ¬ ((12 : Int) = 0) by omega, show ¬ ((12 : Int) = 1) by omega, show ¬ ((12 : Int) = 2) by omega, show ¬ ((12 : Int) = 3) by omega, show ¬ ((12 : Int) = 5) by omega, show ¬ ((12 : Int) = 7) by omega, show ¬ ((12 : Int) = 10) by omega, show ¬ ((12 : Int) = 11) by omega, if_true, if_false]
    have hl := fit11 hf (.inr ho)
    obtain ⟨y, hy⟩ := h1.lab ho
    obtain ⟨x, hx, hxy⟩ := h4.findL hy
    simp only [hx]
    refine ⟨_, rfl, arg 0 y _ (by omega) (by omega) (by omega) (fun hb => ?_) hxy⟩
    obtain ⟨ps, -, hk, -, -, -, -, -, -, -, -, -, hr⟩ := rule_of (h2 hb)
    rw [aty hb hk 0 (by omega) (by omega) (by omega)]
    have := hr ho
    rw [hy] at this
    rw [Option.some.inj this]
end Go.Proofs.YtkdglplfcpindaaGreatDoor

namespace Go.Proofs.YtkdglplfcpindaaGreatDoor
open Go.RowKit
theorem do_any (P : Pg) (w0 w : World) (bad : Nat -> Prop) (mb : Nat) (vd vf lz ov : Value) (fuel en0 vl st : Int) (t : Tm) (en : En) (k : Kt) (va vc pv pl kv : Value)
    (hC : MC P w0 w bad mb vd vf lz ov fuel en0 vl st) (hE : Ev5 P w0 w bad mb t en k va vc pv pl kv) (hT : TS false P (.ev t en k)) (hs0 : 0 <= st) (hs1 : st < fuel) (hs2 : fuel <= 20000) :
    Calls Tryz.prog 196 #[.agg (evV t va vc pv pl kv), .pointer (some ⟨mb, 0, none⟩)] w fun e w' => (∃ q v, evS P t en k = .go q /\ e = .returned v /\ RTk P w0 w' bad mb q v /\ MB w' mb vd vf lz ov fuel en0 vl (st + 1)) /\ Only (fun b => b = mb) w w' := by
  have hT0 := hT
  obtain ⟨E, F, z, h1, -, h3, h4, -⟩ := hT
  have hf := h1.vld.fits
  rcases fit_op hf with ho | ho | ho | ho | ho | ho | ho | ho | ho | ho | ho | ho | ho
  . obtain ⟨y, hy⟩ := h1.var ho
    obtain ⟨x, hx, -⟩ := h3.findV hy
    cases x with
    | held v => exact do0_held P w0 w bad mb vd vf lz ov fuel en0 vl st t en k va vc pv pl kv hC hE ho hT0 v hx hs0 hs1 hs2
    | thunk u eu => exact do0_thunk P w0 w bad mb vd vf lz ov fuel en0 vl st t en k va vc pv pl kv hC hE ho hT0 u eu hx hs0 hs1 hs2
  . exact do1_any P w0 w bad mb vd vf lz ov fuel en0 vl st t en k va vc pv pl kv hC hE ho hT0 hs0 hs1 hs2
  . exact do2_any P w0 w bad mb vd vf lz ov fuel en0 vl st t en k va vc pv pl kv hC hE ho hT0 hs0 hs1 hs2
  . exact do3_any P w0 w bad mb vd vf lz ov fuel en0 vl st t en k va vc pv pl kv hC hE ho hT0 hs0 hs1 hs2
  . exact do4_any P w0 w bad mb vd vf lz ov fuel en0 vl st t en k va vc pv pl kv hC hE ho hT0 hs0 hs1 hs2
  . exact do5_any P w0 w bad mb vd vf lz ov fuel en0 vl st t en k va vc pv pl kv hC hE ho hT0 hs0 hs1 hs2
  . exact do6_any P w0 w bad mb vd vf lz ov fuel en0 vl st t en k va vc pv pl kv hC hE ho hT0 hs0 hs1 hs2
  . exact do7_any P w0 w bad mb vd vf lz ov fuel en0 vl st t en k va vc pv pl kv hC hE ho hT0 hs0 hs1 hs2
  . exact do8_any P w0 w bad mb vd vf lz ov fuel en0 vl st t en k va vc pv pl kv hC hE ho hT0 hs0 hs1 hs2
  . exact do9_any P w0 w bad mb vd vf lz ov fuel en0 vl st t en k va vc pv pl kv hC hE ho hT0 hs0 hs1 hs2
  . exact do10_any P w0 w bad mb vd vf lz ov fuel en0 vl st t en k va vc pv pl kv hC hE ho hT0 hs0 hs1 hs2
  . exact do11_any P w0 w bad mb vd vf lz ov fuel en0 vl st t en k va vc pv pl kv hC hE ho hT0 hs0 hs1 hs2
  . obtain ⟨y, hy⟩ := h1.lab ho
    obtain ⟨x, hx, -⟩ := h4.findL hy
    exact do12_any P w0 w bad mb vd vf lz ov fuel en0 vl st t en k va vc pv pl kv hC hE ho hT0 x hx hs0 hs1 hs2
set_option maxHeartbeats 4000000 in
theorem doSpent_any (P : Pg) (w0 w : World) (bad : Nat -> Prop) (mb : Nat) (vd vf lz ov : Value) (en0 vl st : Int) (t : Tm) (en : En) (k : Kt) (va vc pv pl kv : Value)
    (hC : MC P w0 w bad mb vd vf lz ov st en0 vl st) (hE : Ev5 P w0 w bad mb t en k va vc pv pl kv) :
    Calls Tryz.prog 196 #[.agg (evV t va vc pv pl kv), .pointer (some ⟨mb, 0, none⟩)] w fun e w' => (e = .returned .nilIface /\ MB w' mb vd vf lz ov st 1 vl st) /\ Only (fun b => b = mb) w w' := by
  obtain ⟨Aa, ca, Ab, cb, p, q, tk, uk, rfl, hla, hma, rfl, -, -, rfl, rfl, rfl⟩ := hE.form
  have HE1 := LH (Ext.al w (.cells (evV t (.slice Aa t.args.length ca) (.slice Ab t.cls.length cb) (.pointer p) (.pointer q) (.iface tk uk)) 161))
  have HM := LH (hC.mb.ext HE1.out)
  obtain ⟨-, -, -, m3, -, -, -, m7⟩ := HM.out.cells
  clear hC hE
  go_enter Tryz.func196, Tryz.ntmps196
  go_wp2
  generalize w.alloc _ = w1 at *
  go_quiet (fail)
  go_wp2_with fail
  have HMN : Hid (MB (w1.drewN nq) mb vd vf lz ov st en0 vl st) := HM.out
  (with_reducible refine (mend_any _ mb vd vf lz ov st en0 vl st 1 HMN.out).mono ?_)
  rintro e w2 ⟨⟨rfl, hm⟩, ho⟩
  have HM2 := LH hm
  have HO2 : Hid (Only (fun b => b = mb) w w2) := (Only.of_ext (HE1.out.drewNx nq)).tr ho
  clear hm ho
  go_wp2
  go_ret
  exact ⟨⟨rfl, HM2.out⟩, HO2.out⟩
end Go.Proofs.YtkdglplfcpindaaGreatDoor
