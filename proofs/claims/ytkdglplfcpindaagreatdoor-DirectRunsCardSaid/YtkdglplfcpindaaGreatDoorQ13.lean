import Derived.Test.YtkdglplfcpindaaGreatDoorQ12
import Derived.StillTailTactics
import Derived.RegionTactic
import Derived.BigRegion
set_option maxRecDepth 100000
namespace Go.Proofs.YtkdglplfcpindaaGreatDoor
inductive WX where
  | v (x : Vl) (y : Int)
  | i (x : It) (y : Int)
  | vs (l : List (Str × It)) (E : Env)
  | ls (l : List (Str × Kt)) (E : Env)
  | k (l : Kt) (y : Int)
  | is (l : List It) (ys : List Int)
inductive TY (b : Bool) (P : Pg) : WX -> Prop
  | int (n y : Int) (h : b = true -> y = 0) : TY b P (.v (.int n) y)
  | con (d n y : Int) (l : List It) (h0 : isDeclB P d false = true) (h1 : isIdxB n (declAt P d).xtors.length = true) (h2 : b = true -> y = d) (h3 : TY b P (.is l (prodL (xtorAt P d n)))) : TY b P (.v (.con d n l) y)
  | obj (t : Tm) (e : En) (y : Int) (E F : Env) (h0 : t.op = 7) (h1 : VldS5 P E F t) (h2 : b = true -> tyT P E F t = .inr y) (h3 : TY b P (.vs e.vs E)) (h4 : TY b P (.ls e.ls F)) : TY b P (.v (.obj t e) y)
  | held (x : Vl) (y : Int) (h : TY b P (.v x y)) : TY b P (.i (.held x) y)
  | thunk (t : Tm) (e : En) (y : Int) (E F : Env) (h1 : VldS5 P E F t) (h2 : b = true -> tyT P E F t = .inr y) (h3 : TY b P (.vs e.vs E)) (h4 : TY b P (.ls e.ls F)) : TY b P (.i (.thunk t e) y)
  | vnil : TY b P (.vs [] [])
  | vcons (s : Str) (x : It) (y : Int) (l : List (Str × It)) (E : Env) (h1 : TY b P (.i x y)) (h2 : TY b P (.vs l E)) : TY b P (.vs ((s, x) :: l) ((s, y) :: E))
  | lnil : TY b P (.ls [] [])
  | lcons (s : Str) (x : Kt) (y : Int) (l : List (Str × Kt)) (E : Env) (h1 : TY b P (.k x y)) (h2 : TY b P (.ls l E)) : TY b P (.ls ((s, x) :: l) ((s, y) :: E))
  | inil : TY b P (.is [] [])
  | icons (x : It) (y : Int) (l : List It) (ys : List Int) (h1 : TY b P (.i x y)) (h2 : TY b P (.is l ys)) : TY b P (.is (x :: l) (y :: ys))
  | fin (y : Int) (h : b = true -> y = 0) : TY b P (.k [] y)
  | left (t : Tm) (e : En) (y z : Int) (E F : Env) (k : Kt) (h0 : t.op = 2) (h1 : VldS5 P E F t) (h2 : b = true -> tyT P E F t = .inr z /\ y = 0) (h3 : TY b P (.vs e.vs E)) (h4 : TY b P (.ls e.ls F)) (h5 : TY b P (.k k z)) : TY b P (.k (.left t e :: k) y)
  | right (t : Tm) (e : En) (a y z : Int) (E F : Env) (k : Kt) (h0 : t.op = 2) (h1 : VldS5 P E F t) (h2 : b = true -> tyT P E F t = .inr z /\ y = 0) (h3 : TY b P (.vs e.vs E)) (h4 : TY b P (.ls e.ls F)) (h5 : TY b P (.k k z)) : TY b P (.k (.right t e a :: k) y)
  | zero (t : Tm) (e : En) (y z : Int) (E F : Env) (k : Kt) (h0 : t.op = 3) (h1 : VldS5 P E F t) (h2 : b = true -> tyT P E F t = .inr z /\ y = 0) (h3 : TY b P (.vs e.vs E)) (h4 : TY b P (.ls e.ls F)) (h5 : TY b P (.k k z)) : TY b P (.k (.zero t e :: k) y)
  | emit (t : Tm) (e : En) (y z : Int) (E F : Env) (k : Kt) (h0 : t.op = 10) (h1 : VldS5 P E F t) (h2 : b = true -> tyT P E F t = .inr z /\ y = 0) (h3 : TY b P (.vs e.vs E)) (h4 : TY b P (.ls e.ls F)) (h5 : TY b P (.k k z)) : TY b P (.k (.emit t e :: k) y)
  | ana (t : Tm) (e : En) (y z : Int) (E F : Env) (k : Kt) (h0 : t.op = 5) (h1 : VldS5 P E F t) (h2 : b = true -> tyT P E F t = .inr z /\ y = t.ty) (h3 : TY b P (.vs e.vs E)) (h4 : TY b P (.ls e.ls F)) (h5 : TY b P (.k k z)) : TY b P (.k (.ana t e :: k) y)
  | obs (t : Tm) (e : En) (l : List It) (y z : Int) (E F : Env) (k : Kt) (h0 : t.op = 6) (h1 : VldS5 P E F t) (h2 : b = true -> tyT P E F t = .inr z /\ y = t.ty) (h3 : TY b P (.vs e.vs E)) (h4 : TY b P (.ls e.ls F)) (h5 : TY b P (.k k z))
    (h6 : TY b P (.is l (prodL (xtorAt P t.ty t.n)))) : TY b P (.k (.obs t e l :: k) y)
  | bind (t : Tm) (e : En) (l : List It) (j : Nat) (y z : Int) (E F : Env) (k : Kt) (h0 : t.op = 4 ∨ t.op = 6 ∨ t.op = 8 ∨ t.op = 9) (h1 : VldS5 P E F t) (h2 : b = true -> tyT P E F t = .inr z /\ y = (typesOf P t).getD j 0) (h3 : TY b P (.vs e.vs E)) (h4 : TY b P (.ls e.ls F)) (h5 : TY b P (.k k z))
    (hj : j < (typesOf P t).length) (h6 : TY b P (.is l ((typesOf P t).take j))) : TY b P (.k (.bind ((termsOf t).drop j) ((typesOf P t).drop j) l t e :: k) y)
def TS (b : Bool) (P : Pg) : Tk -> Prop
  | .ev t e k => ∃ E F z, VldS5 P E F t /\ (b = true -> tyT P E F t = .inr z) /\ TY b P (.vs e.vs E) /\ TY b P (.ls e.ls F) /\ TY b P (.k k z)
  | .pass v k => ∃ z, TY b P (.v v z) /\ TY b P (.k k z)
theorem TY.findV {b : Bool} {P : Pg} {l : List (Str × It)} {E : Env} {s : Str} {y : Int} (h : TY b P (.vs l E)) (hf : findE E s = some y) : ∃ x, findA l s = some x /\ TY b P (.i x y) := by
  generalize hw : WX.vs l E = w at h
  induction h generalizing l E with
  | vnil => cases hw; cases hf
  | vcons s' x y' l' E' h1 h2 _ ih =>
    cases hw
    rw [findE] at hf
    rw [findA]
    split at hf
    . rename_i hq
      cases hf
      exact ⟨x, by rw [if_pos hq], h1⟩
    . rename_i hq
      rw [if_neg hq]
      exact ih hf rfl
  | _ => cases hw
theorem TY.findL {b : Bool} {P : Pg} {l : List (Str × Kt)} {E : Env} {s : Str} {y : Int} (h : TY b P (.ls l E)) (hf : findE E s = some y) : ∃ x, findA l s = some x /\ TY b P (.k x y) := by
  generalize hw : WX.ls l E = w at h
  induction h generalizing l E with
  | lnil => cases hw; cases hf
  | lcons s' x y' l' E' h1 h2 _ ih =>
    cases hw
    rw [findE] at hf
    rw [findA]
    split at hf
    . rename_i hq
      cases hf
      exact ⟨x, by rw [if_pos hq], h1⟩
    . rename_i hq
      rw [if_neg hq]
      exact ih hf rfl
  | _ => cases hw
theorem TY.with {b : Bool} {P : Pg} : ∀ (ns : List Str) (ys : List Int) (args : List It) (l : List (Str × It)) (E : Env), TY b P (.is args ys) -> TY b P (.vs l E) -> TY b P (.vs (withA ns args l) (bindE ns ys E))
  | [], ys, args, l, E, _, h => by simpa [withA, bindE] using h
  | s :: r, [], args, l, E, ha, h => by
    cases ha
    simpa [withA, bindE] using h
  | s :: r, y :: q, args, l, E, ha, h => by
    cases ha with
    | icons x _ l2 _ h1 h2 =>
      rw [withA, bindE]
      exact TY.with r q l2 _ _ h2 (.vcons s x y l E h1 h)
theorem TY.snoc {b : Bool} {P : Pg} {x : It} {y : Int} : ∀ {l : List It} {ys : List Int}, TY b P (.is l ys) -> TY b P (.i x y) -> TY b P (.is (l ++ [x]) (ys ++ [y]))
  | [], ys, h, hx => by cases h; exact .icons x y [] [] hx .inil
  | a :: l, ys, h, hx => by
    cases h with
    | icons _ y2 _ ys2 h1 h2 => exact .icons a y2 _ _ h1 (TY.snoc h2 hx)
theorem TY.len {b : Bool} {P : Pg} : ∀ {l : List It} {ys : List Int}, TY b P (.is l ys) -> l.length = ys.length
  | [], ys, h => by cases h; rfl
  | a :: l, ys, h => by
    cases h with
    | icons _ y2 _ ys2 h1 h2 => simp [TY.len h2]
theorem tyK_get (P : Pg) (E F : Env) (t : Tm) : ∀ (k i : Nat) (ps : List Int), tyK P E F t i k = .inr ps -> ∀ j, j < k -> tyT P (kidE P E F t (i + j)).1 (kidE P E F t (i + j)).2 (kidT t (i + j)) = .inr (ps.getD j 0)
  | 0, i, ps, h, j, hj => by omega
  | k + 1, i, ps, h, j, hj => by
    rw [tyK] at h
    cases hy : tyT P (kidE P E F t i).1 (kidE P E F t i).2 (kidT t i) with
    | inl p => rw [hy] at h; cases h
    | inr y =>
      rw [hy] at h
      cases hk : tyK P E F t (i + 1) k with
      | inl p => rw [hk] at h; cases h
      | inr q =>
        rw [hk] at h
        cases h
        cases j with
        | zero => rw [Nat.add_zero, hy]; rfl
        | succ j =>
          have := tyK_get P E F t k (i + 1) q hk j (by omega)
          rw [show i + 1 + j = i + (j + 1) by omega] at this
          rw [this]; rfl
theorem tyT_parts {P : Pg} {E F : Env} {t : Tm} {z : Int} (h : tyT P E F t = .inr z) : ∃ ps, ps.length = t.args.length + t.cls.length ∧
    (∀ j, j < t.args.length + t.cls.length -> tyT P (kidE P E F t j).1 (kidE P E F t j).2 (kidT t j) = .inr (ps.getD j 0)) /\ ruleS P E F t.op t.n t.nm t.ty ps = .inr z := by
  rw [tyT_kids] at h
  cases hk : tyK P E F t 0 (t.args.length + t.cls.length) with
  | inl p => rw [hk] at h; cases h
  | inr ps =>
    rw [hk] at h
    exact ⟨ps, tyK_len P E F t _ 0 ps hk, fun j hj => by have := tyK_get P E F t _ 0 ps hk j hj; rwa [Nat.zero_add] at this, h⟩
theorem okR_inr {c : Bool} {y z : Int} (h : okR c y = .inr z) : c = true /\ z = y := by
  unfold okR at h
  cases c
  . cases h
  . exact ⟨rfl, by cases h; rfl⟩
theorem fit_op {P : Pg} {t : Tm} (h : fitsT P t = true) : t.op = 0 ∨ t.op = 1 ∨ t.op = 2 ∨ t.op = 3 ∨ t.op = 4 ∨ t.op = 5 ∨ t.op = 6 ∨ t.op = 7 ∨ t.op = 8 ∨ t.op = 9 ∨ t.op = 10 ∨ t.op = 11 ∨ t.op = 12 := by
  obtain ⟨o, ho, h12⟩ := fits_op5 h
  omega
theorem fit2 {P : Pg} {t : Tm} (h : fitsT P t = true) (ho : t.op = 2) : t.args.length = 2 /\ t.cls.length = 0 /\ 0 <= t.n /\ t.n <= 6 := by
  simp [fitsT, ho, hasF] at h; refine ⟨by omega, by simp [h], by omega, by omega⟩
theorem fit3 {P : Pg} {t : Tm} (h : fitsT P t = true) (ho : t.op = 3) : t.args.length = 3 /\ t.cls.length = 0 := by
  simp [fitsT, ho, hasF] at h; exact ⟨by omega, by simp [h]⟩
theorem fit4 {P : Pg} {t : Tm} (h : fitsT P t = true) (ho : t.op = 4) : isDeclB P t.ty false = true /\ isIdxB t.n (declAt P t.ty).xtors.length = true /\ t.args.length = (xtorAt P t.ty t.n).args.length /\ t.cls.length = 0 := by
  simp [fitsT, ho, fitsXB, hasF] at h
  exact ⟨h.1, h.2.1, by unfold xtorAt; simp; omega, by simp [h]⟩
theorem fit5 {P : Pg} {t : Tm} (h : fitsT P t = true) (ho : t.op = 5) : isDeclB P t.ty false = true /\ t.args.length = 1 /\ t.cls.length = (declAt P t.ty).xtors.length /\ clsB (declAt P t.ty).xtors t.cls = true := by
  simp [fitsT, ho, fitsCB, hasF] at h
  exact ⟨h.1, by omega, by omega, h.2.2⟩
theorem fit6 {P : Pg} {t : Tm} (h : fitsT P t = true) (ho : t.op = 6) : isDeclB P t.ty true = true /\ isIdxB t.n (declAt P t.ty).xtors.length = true /\ t.args.length = (xtorAt P t.ty t.n).args.length /\ t.cls.length = 0 := by
  simp [fitsT, ho, fitsXB, hasF] at h
  exact ⟨h.1, h.2.1, by unfold xtorAt; simp; omega, by simp [h]⟩
theorem fit7 {P : Pg} {t : Tm} (h : fitsT P t = true) (ho : t.op = 7) : isDeclB P t.ty true = true /\ t.args.length = 0 /\ t.cls.length = (declAt P t.ty).xtors.length /\ clsB (declAt P t.ty).xtors t.cls = true := by
  simp [fitsT, ho, fitsCB, hasF] at h
  exact ⟨h.1, by simp [h], by omega, h.2.2⟩
theorem fit8 {P : Pg} {t : Tm} (h : fitsT P t = true) (ho : t.op = 8) : t.args.length = 2 /\ t.cls.length = 0 := by
  simp [fitsT, ho, hasF] at h; exact ⟨by omega, by simp [h]⟩
theorem fit9 {P : Pg} {t : Tm} (h : fitsT P t = true) (ho : t.op = 9) : isIdxB t.n P.funs.length = true /\ t.args.length = (fnAt P t.n).ps.length /\ t.cls.length = 0 := by
  simp [fitsT, ho, hasF] at h
  exact ⟨h.1, by unfold fnAt; simp; omega, by simp [h]⟩
theorem fit10 {P : Pg} {t : Tm} (h : fitsT P t = true) (ho : t.op = 10) : t.args.length = 2 /\ t.cls.length = 0 := by
  simp [fitsT, ho, hasF] at h; exact ⟨by omega, by simp [h]⟩
theorem fit11 {P : Pg} {t : Tm} (h : fitsT P t = true) (ho : t.op = 11 ∨ t.op = 12) : t.args.length = 1 /\ t.cls.length = 0 := by
  rcases ho with ho | ho <;> (simp [fitsT, ho, hasF] at h; exact ⟨by omega, by simp [h]⟩)
end Go.Proofs.YtkdglplfcpindaaGreatDoor

namespace Go.Proofs.YtkdglplfcpindaaGreatDoor
def paramE (f : Fn) : Env := bindE (f.ps.map Prm.nm) (f.ps.map Prm.ty) []
structure WFP (b : Bool) (P : Pg) : Prop where
  prog : progB P = true
  typed : b = true -> ∀ f ∈ P.funs, tyT P (paramE f) [] f.body = .inr f.res
theorem kid_arg {P : Pg} {E F : Env} {t : Tm} {i : Nat} (hi : i < t.args.length) (h8 : ¬ (t.op = 8 /\ i = 1)) (h11 : ¬ t.op = 11) : kidE P E F t i = (E, F) /\ kidT t i = t.args.getD i noTm := by
  constructor
  . unfold kidE argV argL; rw [if_pos hi, if_neg h8, if_neg h11]
  . unfold kidT; rw [if_pos hi]; rfl
theorem arg_ok {P : Pg} {E F : Env} {t : Tm} {i : Nat} (h : VldS5 P E F t) (hi : i < t.args.length) (h8 : ¬ (t.op = 8 /\ i = 1)) (h11 : ¬ t.op = 11) : VldS5 P E F (t.args.getD i noTm) := by
  have hk := h.kid (i := i) (by omega)
  obtain ⟨e1, e2⟩ := kid_arg (P := P) (E := E) (F := F) hi h8 h11
  rw [e1, e2] at hk
  exact hk
theorem arg_ty {P : Pg} {E F : Env} {t : Tm} {ps : List Int} (h : ∀ j, j < t.args.length + t.cls.length -> tyT P (kidE P E F t j).1 (kidE P E F t j).2 (kidT t j) = .inr (ps.getD j 0)) {i : Nat} (hi : i < t.args.length) (h8 : ¬ (t.op = 8 /\ i = 1)) (h11 : ¬ t.op = 11) :
    tyT P E F (t.args.getD i noTm) = .inr (ps.getD i 0) := by
  have := h i (by omega)
  obtain ⟨e1, e2⟩ := kid_arg (P := P) (E := E) (F := F) hi h8 h11
  rw [e1, e2] at this
  exact this
theorem xtor_src {P : Pg} (h : progB P = true) {ty n : Int} {co : Bool} (hd : isDeclB P ty co = true) (hn : isIdxB n (declAt P ty).xtors.length = true) : srcX co (xtorAt P ty n) = true := by
  obtain ⟨u, d, rfl, hdd, hda, rfl⟩ := decl_in5 hd
  obtain ⟨k, rfl, hk⟩ := idx_in5 hn
  have hs := (prog_decls5 h).2
  unfold srcB at hs
  rw [List.all_eq_true] at hs
  have h1 := hs d (List.mem_of_getElem? hdd)
  unfold srcD at h1
  rw [List.all_eq_true] at h1
  rw [hda] at hk
  have h2 := h1 d.xtors[k] (List.getElem_mem hk)
  unfold xtorAt
  rw [hda, List.getD_eq_getElem?_getD, show ((k : Int)).toNat = k by omega, List.getElem?_eq_getElem hk]
  exact h2
theorem prod_data {x : Xtor} (h : srcX false x = true) : (prodL x).length = x.args.length := by
  unfold srcX hasCo at h
  simp at h
  unfold prodL
  rw [List.length_map, List.filter_eq_self.2 (fun a ha => by simp [h a ha])]
theorem prod_codata {x : Xtor} (h : srcX true x = true) : (prodL x).length + 1 = x.args.length := by
  unfold srcX endsB at h
  rw [if_pos rfl, Bool.and_eq_true] at h
  have hl : 0 < x.args.length := by
    cases hx : x.args with
    | nil => rw [hx] at h; simp [lastCo] at h
    | cons a r => simp
  have h1 := h.1
  rw [lastCo_eq hl] at h1
  have h2 := h.2
  unfold hasCo at h2
  simp only [Bool.not_eq_true', List.any_eq_false] at h2
  have e : x.args = x.args.take (x.args.length - 1) ++ [x.args[x.args.length - 1]] := by
    have := List.take_succ_eq_append_getElem (l := x.args) (i := x.args.length - 1) (by omega)
    rw [show x.args.length - 1 + 1 = x.args.length by omega, List.take_length] at this
    exact this
  unfold prodL
  rw [List.length_map]
  conv => lhs; rw [e]
  rw [List.filter_append, List.length_append, List.filter_eq_self.2 (fun a ha => by have := h2 a ha; simp at this; simp [this])]
  simp [h1]
  omega
theorem fn_in {P : Pg} {n : Int} (h : isIdxB n P.funs.length = true) : fnAt P n ∈ P.funs := by
  obtain ⟨k, rfl, hk⟩ := idx_in5 h
  unfold fnAt
  rw [List.getD_eq_getElem?_getD, show ((k : Int)).toNat = k by omega, List.getElem?_eq_getElem hk]
  exact List.getElem_mem hk
theorem body_vld {P : Pg} (h : progB P = true) {f : Fn} (hf : f ∈ P.funs) : VldS5 P (paramE f) [] f.body := by
  unfold progB at h
  simp only [Bool.and_eq_true, List.all_eq_true] at h
  have h1 := h.2 f hf
  unfold funB at h1
  simp only [Bool.and_eq_true] at h1
  refine ⟨_, _, h1.2.2, ?_, fun k hk => by simp at hk⟩
  have := found_bind5 (f.ps.map Prm.nm) (f.ps.map Prm.ty) [] (fun _ => false) (by simp) (fun k hk => by simp at hk)
  intro k hk
  exact this k (by show (hasS _ k || false) = true; rw [hk]; rfl)
theorem terms_len {P : Pg} (hP : progB P = true) {t : Tm} (hf : fitsT P t = true) (h0 : t.op = 4 ∨ t.op = 6 ∨ t.op = 8 ∨ t.op = 9) : (termsOf t).length = (typesOf P t).length /\ (t.op = 6 -> (typesOf P t).length + 1 = t.args.length) := by
  unfold termsOf typesOf
  rcases h0 with ho | ho | ho | ho <;> simp only [ho]
  . obtain ⟨h1, h2, h3, -⟩ := fit4 hf ho
    have := prod_data (xtor_src hP h1 h2)
    simp; omega
  . obtain ⟨h1, h2, h3, -⟩ := fit6 hf ho
    have := prod_codata (xtor_src hP h1 h2)
    simp; omega
  . obtain ⟨h1, -⟩ := fit8 hf ho
    simp; omega
  . obtain ⟨-, h1, -⟩ := fit9 hf ho
    simp; omega
theorem term_get {t : Tm} {j : Nat} (hj : j < (termsOf t).length) : (termsOf t)[j] = t.args.getD j noTm /\ j < t.args.length /\ (t.op = 8 -> j = 0) := by
  have key : ∀ n, ∀ (h : j < (t.args.take n).length), (t.args.take n)[j] = t.args.getD j noTm /\ j < t.args.length := by
    intro n h
    have h2 : j < t.args.length := by rw [List.length_take] at h; omega
    refine ⟨?_, h2⟩
    rw [List.getElem_take, List.getD_eq_getElem?_getD, List.getElem?_eq_getElem h2]; rfl
  unfold termsOf at hj ⊢
  by_cases h6 : t.op = 6
  . simp only [h6, if_true] at hj ⊢
    exact ⟨(key _ hj).1, (key _ hj).2, fun h => by omega⟩
  . by_cases h8 : t.op = 8
    . simp only [h8, if_true, if_neg (show ¬ ((8 : Int) = 6) by omega)] at hj ⊢
      exact ⟨(key _ hj).1, (key _ hj).2, fun _ => by simp at hj; omega⟩
    . simp only [if_neg h6, if_neg h8] at hj ⊢
      exact ⟨by rw [List.getD_eq_getElem?_getD, List.getElem?_eq_getElem hj]; rfl, hj, fun h => absurd h h8⟩
theorem term_ty {P : Pg} (hP : progB P = true) {E F : Env} {t : Tm} {z : Int} (h1 : VldS5 P E F t) (h0 : t.op = 4 ∨ t.op = 6 ∨ t.op = 8 ∨ t.op = 9) (h : tyT P E F t = .inr z) {j : Nat} (hj : j < (termsOf t).length) : tyT P E F (t.args.getD j noTm) = .inr ((typesOf P t).getD j 0) := by
  obtain ⟨ps, hl, hk, hr⟩ := tyT_parts h
  obtain ⟨-, hja, hj8⟩ := term_get hj
  have hlen := terms_len hP h1.vld.fits h0
  rw [arg_ty hk hja (fun hx => by have := hj8 hx.1; omega) (by omega)]
  congr 1
  unfold ruleS at hr
  unfold typesOf
  rcases h0 with ho | ho | ho | ho <;> simp only [ho] at hr ⊢
  . simp only [show ¬ ((4 : Int) = 0) by omega, show ¬ ((4 : Int) = 1) by omega, show ¬ ((4 : Int) = 2) by omega, show ¬ ((4 : Int) = 3) by omega, show ¬ ((4 : Int) = 8) by omega, show ¬ ((4 : Int) = 9) by omega, if_true, if_false] at hr ⊢
    rw [(eqL_iff _ _).1 (okR_inr hr).1]
  . simp only [show ¬ ((6 : Int) = 0) by omega, show ¬ ((6 : Int) = 1) by omega, show ¬ ((6 : Int) = 2) by omega, show ¬ ((6 : Int) = 3) by omega, show ¬ ((6 : Int) = 4) by omega, show ¬ ((6 : Int) = 5) by omega, show ¬ ((6 : Int) = 8) by omega, show ¬ ((6 : Int) = 9) by omega, if_true, if_false] at hr ⊢
    rw [(eqL_iff _ _).1 (okR_inr hr).1, List.getD_eq_getElem?_getD, List.getD_eq_getElem?_getD, List.getElem?_append_left]
    have := hlen.1
    unfold typesOf at this
    simp only [ho, show ¬ ((6 : Int) = 8) by omega, show ¬ ((6 : Int) = 9) by omega, if_false] at this
    omega
  . have : j = 0 := hj8 ho
    subst this
    simp only [show ¬ ((8 : Int) = 0) by omega, show ¬ ((8 : Int) = 1) by omega, show ¬ ((8 : Int) = 2) by omega, show ¬ ((8 : Int) = 3) by omega, show ¬ ((8 : Int) = 4) by omega, show ¬ ((8 : Int) = 5) by omega, show ¬ ((8 : Int) = 6) by omega, show ¬ ((8 : Int) = 7) by omega, if_true, if_false] at hr ⊢
    have := (okR_inr hr).1
    simp at this
    rw [List.getD_eq_getElem?_getD] at *
    simpa using this
  . simp only [show ¬ ((9 : Int) = 0) by omega, show ¬ ((9 : Int) = 1) by omega, show ¬ ((9 : Int) = 2) by omega, show ¬ ((9 : Int) = 3) by omega, show ¬ ((9 : Int) = 4) by omega, show ¬ ((9 : Int) = 5) by omega, show ¬ ((9 : Int) = 6) by omega, show ¬ ((9 : Int) = 7) by omega, show ¬ ((9 : Int) = 8) by omega, if_true, if_false] at hr ⊢
    rw [(eqL_iff _ _).1 (okR_inr hr).1]
end Go.Proofs.YtkdglplfcpindaaGreatDoor

namespace Go.Proofs.YtkdglplfcpindaaGreatDoor
open Go.RowKit
theorem MB.cells {w : World} {mb : Nat} {vd vf lz ov : Value} {fuel en vl st : Int} (h : MB w mb vd vf lz ov fuel en vl st) :
    w.cell? ⟨mb, 0, none⟩ = some vd /\ w.cell? ⟨mb, 1, none⟩ = some vf /\ w.cell? ⟨mb, 2, none⟩ = some lz /\ w.cell? ⟨mb, 3, none⟩ = some (.int .i64 fuel) /\ w.cell? ⟨mb, 4, none⟩ = some (.int .i64 en) /\ w.cell? ⟨mb, 5, none⟩ = some (.int .i64 vl) /\ w.cell? ⟨mb, 6, none⟩ = some ov /\ w.cell? ⟨mb, 7, none⟩ = some (.int .i64 st) := cells5_8 h
theorem MB.ext {w w' : World} {mb : Nat} {vd vf lz ov : Value} {fuel en vl st : Int} (h : MB w mb vd vf lz ov fuel en vl st) (hx : Ext w w') : MB w' mb vd vf lz ov fuel en vl st := (hx.block _ (hLt h)).trans h
set_option maxHeartbeats 2000000 in
theorem argTypes_any (P : Pg) (w0 w : World) (mb : Nat) (vd vf lz ov : Value) (fuel en vl st : Int) (t : Tm) (va vc : Value) (co : Bool) (hx : Ext w0 w) (hd : RDecls w0 vd P.decls) (hm : MB w mb vd vf lz ov fuel en vl st) (ht : RTx w0 t va vc) (hty : isDeclB P t.ty co = true) (hn : isIdxB t.n (declAt P t.ty).xtors.length = true) (hl : (xtorAt P t.ty t.n).args.length <= 1000) :
    Calls Tryz.prog 203 #[.pointer (some ⟨mb, 0, none⟩), tV t va vc] w fun e w' => (∃ v, e = .returned v /\ OwnL w' w.heap.size v (prodL (xtorAt P t.ty t.n))) /\ Ext w w' := by
  obtain ⟨u, d, hu, hdu, hda, -⟩ := decl_in5 hty
  obtain ⟨m, hm1, hm2⟩ := idx_in5 hn
  rw [hda] at hm2
  obtain ⟨Ad, cd, rfl, hcd, hmd⟩ := hd.form
  obtain ⟨⟨Aa, ca, rfl, -, -⟩, ⟨Ab, cb, rfl, -, -⟩⟩ := ht.form
  have hul : u < P.decls.length := (List.getElem?_eq_some_iff.1 hdu).1
  obtain ⟨bd, od, vx, rfl, -, -, -, d2, hxs, -⟩ := hd.at_ hul
  have hdd : P.decls[u] = d := (List.getElem?_eq_some_iff.1 hdu).2
  rw [hdd] at hxs
  obtain ⟨Ax, cx, rfl, hcx, hmx⟩ := hxs.form
  obtain ⟨bx', ox, va', rfl, -, x0, x1, hra, -⟩ := hxs.at_ hm2
  have hxa : xtorAt P t.ty t.n = d.xtors[m] := by unfold xtorAt; rw [hda, hm1, List.getD_eq_getElem?_getD, show ((m : Int)).toNat = m by omega, List.getElem?_eq_getElem hm2]; rfl
  rw [hxa] at hl ⊢
  generalize d.xtors[m] = x at *
  obtain ⟨Ar, cr, rfl, hcr, hmr⟩ := hra.form
  have hu2 : t.ty = (u : Int) + 1 := by rw [hu]; simp
  unfold tV
  rw [hu2, hm1]
  have HE := LH (Ext.al w (.cells #[.int .i64 t.op, .int .i64 (m : Int), .string t.nm, .int .i64 ((u : Int) + 1), .slice Aa t.args.length ca, .slice Ab t.cls.length cb] 50))
  obtain ⟨c0, c1, c2, c3, c4, c5⟩ := cells6 (hNw w (.cells #[.int .i64 t.op, .int .i64 (m : Int), .string t.nm, .int .i64 ((u : Int) + 1), .slice Aa t.args.length ca, .slice Ab t.cls.length cb] 50))
  have HX := LH (hx.tr HE.out)
  obtain ⟨m0, -⟩ := (hm.ext HE.out).cells
  have d2 := HX.out.keep d2
  have x0 := HX.out.keep x0
  have x1 := HX.out.keep x1
  have HR := LH (hra.below hx)
  unfold maxLen at hmd hmx
  have hw1 : IntKind.wrap .i64 (u : Int) = (u : Int) := IntWalk.i64_in _ (by omega)
  have hul2 : (u : Int) < P.decls.length := by omega
  have hml2 : (m : Int) < d.xtors.length := by omega
  clear hx hd hm ht hty hn hxa hdu hdd hda hxs hra hu hu2 hm1
  go_enter Tryz.func203, Tryz.ntmps203
  go_wp2
  generalize w.alloc _ = w1 at *
  go_still_tail 15, (by kernel_rfl)
  go_wp2_with fail
  (with_reducible refine (prog_prods_any x.name _ x.args _ ((HR.out.below HE.out).below (Ext.rf _).drew) hl).mono ?_)
  rintro e w4 ⟨⟨v, rfl, ho⟩, hb⟩
  have HO4 := LH ho
  have HX4 : Hid (Ext w1 w4) := Ext.tr (b := w1.drew) (Ext.rf w1).drew hb
  obtain ⟨Av, cv, rfl⟩ := oSL ho
  clear ho hb
  go_wp2
  go_ret
  exact ⟨⟨_, rfl, own_base HO4.out HE.out.size⟩, HE.out.tr HX4.out⟩
end Go.Proofs.YtkdglplfcpindaaGreatDoor

namespace Go.Proofs.YtkdglplfcpindaaGreatDoor
open Go.RowKit
theorem RPrms.small {w : World} {v : Value} {l : List Prm} (h : RPrms w v l) : ∀ s ∈ l.map Prm.nm, s.size <= maxLen := by
  obtain ⟨A, c, -, -, -, h3⟩ := h
  intro s hs
  obtain ⟨a, ha, rfl⟩ := List.mem_map.1 hs
  obtain ⟨i, hi⟩ := List.mem_iff_getElem?.1 ha
  obtain ⟨b, o, -, -, -, -, h4⟩ := h3 i a hi
  exact h4
set_option maxHeartbeats 4000000 in
theorem body_any (P : Pg) (w0 w : World) (bad : Nat -> Prop) (mb : Nat) (f : Fn) (vp xa xc v2 kv mv : Value) (args : List It) (k : Kt) (hx : Ext w0 w) (hf : FnAt w0 f vp xa xc) (h2 : D5 P w0 w bad mb (.is v2 args)) (h4 : D5 P w0 w bad mb (.k kv k)) (hlen : f.ps.length <= args.length) (hl : f.ps.length <= 1000) (hB : NB bad w) :
    Calls Tryz.prog 42 #[.pointer (some ⟨mb, 0, none⟩), fV f vp xa xc, v2, kv] w fun e w' => (∃ v, e = .returned v /\ RTk P w0 w' bad mb (bodyS f args k) v) /\ Ext w w' := by
  obtain ⟨hnm, hps, hbody⟩ := hf
  have HR := LH (hps.below hx)
  have HSM := LH hps.small
  have HBO := LH hbody
  have H2 := LH h2
  have H4 := LH h4
  have HB := LH hB
  obtain ⟨A, c, rfl, hc, hm⟩ := hps.form
  obtain ⟨A2, c2, rfl, hc2, hm2⟩ := h2.is_form
  obtain ⟨tk, uk, rfl⟩ := h4.k_form
  obtain ⟨⟨Aa, ca, rfl, -, -⟩, ⟨Ab, cb, rfl, -, -⟩⟩ := hbody.form
  clear hps hbody h2 h4 hnm hx hB
  unfold maxLen at hm
  obtain ⟨bxs, hbxs⟩ : ∃ o : Obj, o = .cells #[.string f.nm, .slice A f.ps.length c, .int .i64 f.res, .int .i64 f.body.op, .int .i64 f.body.n, .string f.body.nm, .int .i64 f.body.ty, .slice Aa f.body.args.length ca, .slice Ab f.body.cls.length cb] 52 := ⟨_, rfl⟩
  have HE0 := LH (Ext.al w bxs)
  have hb0 := hNw w bxs
  have hz : (w.alloc bxs).heap.size = w.heap.size + 1 := World.size_alloc ..
  have hmk := make_strs (w.alloc bxs) f.ps.length (by omega)
  rw [hz] at hmk
  have HN : Hid (SBlk _ _ (List.replicate f.ps.length (⟨#[]⟩ : Str))) := SBlk.new (w.alloc bxs) _
  rw [hz] at HN
  have HE1 := LH (Ext.al (w.alloc bxs) (.cells (((List.replicate f.ps.length (⟨#[]⟩ : Str)).map Value.string).toArray) 9))
  have HZ : Hid (upS (f.ps.map Prm.nm) 0 = List.replicate f.ps.length (⟨#[]⟩ : Str)) := by show _ = _; rw [upS_zero, List.length_map]
  generalize List.replicate f.ps.length (⟨#[]⟩ : Str) = S0 at *
  have hb1 := (HE1.out.block _ (hLt hb0)).trans hb0
  have HBX := LH hb1
  subst hbxs
  obtain ⟨c0, c1, c2', c3, c4, c5, c6, c7, c8⟩ := c59 hb0
  clear hb0 hb1 hz c0 c2' c3 c4 c5 c6 c7 c8
  go_enter Tryz.func42, Tryz.ntmps42
  go_wp2
  clear hmk c1
  generalize World.alloc (World.alloc w _) _ = w1 at *
  have HE := LH (HE0.out.tr HE1.out)
  go_loopw [19] (fun i wr => ∃ j : Nat, j <= f.ps.length /\ i = .int .i64 j /\ SBlk wr (w.heap.size + 1) (upS (f.ps.map Prm.nm) j) /\ wr.heap[w.heap.size]? = some (.cells #[.string f.nm, .slice A f.ps.length c, .int .i64 f.res, .int .i64 f.body.op, .int .i64 f.body.n, .string f.body.nm, .int .i64 f.body.ty, .slice Aa f.body.args.length ca, .slice Ab f.body.cls.length cb] 52 (0, 0)) /\ Ext w wr) (fun i _ => f.ps.length - (intOf i).toNat)
  case atStart => exact ⟨0, Nat.zero_le _, rfl, by rw [HZ.out]; exact HN.out, HBX.out, HE.out⟩
  case round =>
    obtain ⟨j, hj, rfl, hB, hbx, hE⟩ := hrel
    have HBk := LH hB
    have HEk := LH hE
    have HBX2 := LH hbx
    clear hB hE hbx
    by_cases hlt : j < f.ps.length
    . obtain ⟨b, o, rfl, hbl, y0, y1, y2⟩ := HR.out.at_ hlt
      have y0 := HEk.out.keep y0
      have y1 := HEk.out.keep y1
      clear y2
      have HS : Hid ((upS (f.ps.map Prm.nm) j).set j f.ps[j].nm = upS (f.ps.map Prm.nm) (j + 1)) := by
        have := upS_step (l := f.ps.map Prm.nm) (k := j) (by simpa using hlt)
        rw [List.getElem_map] at this; exact this
      have HL : Hid (j < (upS (f.ps.map Prm.nm) j).length) := by show j < _; rw [upS_length (by simpa using hj), List.length_map]; exact hlt
      generalize f.ps[j] = g at *
      generalize hS : upS (f.ps.map Prm.nm) j = S at *
      clear hS
      have hne := HBk.out.lt
      have hE2 := Ext.al wr (Obj.cells #[.string g.nm, .int .i64 g.ty] 69)
      have n0 := newCell wr #[.string g.nm, .int .i64 g.ty] 69 0 rfl
      have HB2 := LH (HBk.out.ext hE2)
      have hcell := HB2.out.cell HL.out
      have hfz := HB2.out.frozen j
      have HE2 := LH (HEk.out.tr hE2)
      clear hE2
      go_wp2
      go_roundw
      case rel => exact ⟨j + 1, by omega, by go_num, by rw [← HS.out]; exact (HBk.out.set j _).ext (Ext.al _ _), ((Ext.al _ _).block _ (hLt (s5o HBX2.out (by omega) j _))).trans (s5o HBX2.out (by omega) j _), Ext.tr (Below.setCell HEk.out (p := ⟨w.heap.size + 1, j, none⟩) (Nat.le_succ _) _) (Ext.al _ _)⟩
      case measure => simp [intOf]; omega
    . have HK : Hid (SBlk wr (w.heap.size + 1) (f.ps.map Prm.nm)) := by
        have := HBk.out
        have hjl : j = (f.ps.map Prm.nm).length := by rw [List.length_map]; omega
        rw [hjl, upS_end] at this
        exact this
      have HRS : Hid (RStrs wr (.slice (some ⟨w.heap.size + 1, 0, none⟩) f.ps.length f.ps.length) (f.ps.map Prm.nm)) := by
        have := HK.out.reads (by unfold maxLen; simp; omega) HSM.out
        rw [List.length_map] at this
        exact this
      obtain ⟨c0, c1, c2', c3, c4, c5, c6, c7, c8⟩ := c59 HBX2.out
      go_wp2
      go_region_with (go_at_call 71; (with_reducible refine (ebind_any P w0 _ bad mb (f.ps.map Prm.nm) args [] [] _ _ _ _ .vnil .lnil (HRS.out.below (Ext.rf _).drew) ((H2.out.ext HEk.out).ext (Ext.rf _).drew) (by rw [List.length_map]; exact hlen) ((HB.out.ext HEk.out).ext (Ext.rf _).drew)).mono ?_); rintro e w4 ⟨⟨a, rfl, hr⟩, hb⟩; obtain ⟨pa, rfl⟩ := hr.vs_form; have HX4 : Hid (Ext wr w4) := Ext.tr (b := wr.drew) (Ext.rf wr).drew hb; have HR4 := LH hr; have HB4 := LH ((HX4.out.block _ (hLt HBX2.out)).trans HBX2.out); clear hr hb c0 c1 c2' c3 c4 c5 c6 c7 c8; obtain ⟨c0, c1, c2', c3, c4, c5, c6, c7, c8⟩ := c59 HB4.out)
      all_goals
        go_wp2
        go_ret
        exact ⟨⟨_, rfl, _, _, _, _, _, rfl, HBO.out, HR4.out, .lnil, (H4.out.ext HEk.out).ext HX4.out⟩, HEk.out.tr HX4.out⟩
end Go.Proofs.YtkdglplfcpindaaGreatDoor

namespace Go.Proofs.YtkdglplfcpindaaGreatDoor
open Go.RowKit
theorem run_tail47 (A : Option Addr) (n c : Nat) (h1 : 1 <= n) (h2 : n <= c) (h3 : c <= maxLen) (W : World) : (Instr.slice 47 (.slice A n c) (some (.int .i64 1)) none none).run Tryz.prog W = .ok (.slice (if c = 1 then A else A.map fun x => ⟨x.block, x.off + 6, none⟩) (n - 1) (c - 1)) W := by
  unfold maxLen at h3
  have hu : (underlying 47).run Tryz.prog W = .ok (.slice 50) W := by kernel_rfl
  have hz : (sizeOf 50).run Tryz.prog W = .ok 6 W := by kernel_rfl
  unfold Instr.slice Instr.sliceBounds Instr.sliceBound
  simp [go_sem, hu, hz, h1]
  intro h; omega
theorem run_tail26 (A : Option Addr) (n c : Nat) (h1 : 1 <= n) (h2 : n <= c) (h3 : c <= maxLen) (W : World) : (Instr.slice 26 (.slice A n c) (some (.int .i64 1)) none none).run Tryz.prog W = .ok (.slice (if c = 1 then A else A.map fun x => ⟨x.block, x.off + 1, none⟩) (n - 1) (c - 1)) W := by
  unfold maxLen at h3
  have hu : (underlying 26).run Tryz.prog W = .ok (.slice 3) W := by kernel_rfl
  have hz : (sizeOf 3).run Tryz.prog W = .ok 1 W := by kernel_rfl
  unfold Instr.slice Instr.sliceBounds Instr.sliceBound
  simp [go_sem, hu, hz, h1]
  intro h; omega
theorem RTs.tail {w0 : World} {A : Option Addr} {c : Nat} {l : List Tm} (h : RTs w0 (.slice A l.length c) l) (hl : 1 <= l.length) : RTs w0 (.slice (if c = 1 then A else A.map fun x => ⟨x.block, x.off + 6, none⟩) (l.length - 1) (c - 1)) l.tail := by
  obtain ⟨A', c', e, h1, h2, h3⟩ := h
  simp only [Value.slice.injEq, true_and] at e
  obtain ⟨rfl, rfl⟩ := e
  refine ⟨_, _, by rw [List.length_tail], by rw [List.length_tail]; omega, by omega, fun i x hi => ?_⟩
  rw [List.getElem?_tail] at hi
  obtain ⟨b, o, xa, xc, rfl, h4, h5, h6⟩ := h3 (i + 1) x hi
  have : c ≠ 1 := by have := (List.getElem?_eq_some_iff.1 hi).1; omega
  rw [if_neg this]
  exact ⟨b, o + 6, xa, xc, rfl, h4, by rw [show o + 6 + i * 6 = o + (i + 1) * 6 by omega]; exact h5, h6⟩
theorem RIs.tail {w : World} {bad : Nat -> Prop} {A : Option Addr} {c : Nat} {l : List Int} (h : RIs w bad (.slice A l.length c) l) (hl : 1 <= l.length) : RIs w bad (.slice (if c = 1 then A else A.map fun x => ⟨x.block, x.off + 1, none⟩) (l.length - 1) (c - 1)) l.tail := by
  obtain ⟨A', c', e, h1, h2, h3⟩ := h
  simp only [Value.slice.injEq, true_and] at e
  obtain ⟨rfl, rfl⟩ := e
  refine ⟨_, _, by rw [List.length_tail], by rw [List.length_tail]; omega, by omega, fun i x hi => ?_⟩
  rw [List.getElem?_tail] at hi
  obtain ⟨b, o, rfl, h4, h5⟩ := h3 (i + 1) x hi
  have : c ≠ 1 := by have := (List.getElem?_eq_some_iff.1 hi).1; omega
  rw [if_neg this]
  exact ⟨b, o + 1, rfl, h4, by rw [show o + 1 + i = o + (i + 1) by omega]; exact h5⟩
theorem RTs.form {w0 : World} {v : Value} {l : List Tm} (h : RTs w0 v l) : ∃ A c, v = .slice A l.length c /\ l.length <= c /\ c <= maxLen := by
  obtain ⟨A, c, e, h1, h2, -⟩ := h; exact ⟨A, c, e, h1, h2⟩
theorem RIs.form {w : World} {bad : Nat -> Prop} {v : Value} {l : List Int} (h : RIs w bad v l) : ∃ A c, v = .slice A l.length c /\ l.length <= c /\ c <= maxLen := by
  obtain ⟨A, c, e, h1, h2, -⟩ := h; exact ⟨A, c, e, h1, h2⟩
set_option maxHeartbeats 1000000 in
theorem clip_any (A : Option Addr) (n c : Nat) (w : World) (h1 : n <= c) (h2 : c <= maxLen) : Calls Tryz.prog 209 #[.slice A n c] w fun e w' => e = .returned (.slice A n n) /\ w = w' := by
  unfold maxLen at h2
  have hs : ∀ W, (Instr.slice 91 (.slice A n c) none (some (.int .i64 n)) (some (.int .i64 n))).run Tryz.prog W = .ok (.slice A n n) W := by
    intro W
    have hu : (underlying 91).run Tryz.prog W = .ok (.slice 98) W := by kernel_rfl
    have hz : (sizeOf 98).run Tryz.prog W = .ok 1 W := by kernel_rfl
    unfold Instr.slice Instr.sliceBounds Instr.sliceBound
    simp [go_sem, hu, hz, h1]
  go_enter Tryz.func209, Tryz.ntmps209
  go_wp2
  go_ret
  exact ⟨rfl, rfl⟩
end Go.Proofs.YtkdglplfcpindaaGreatDoor
