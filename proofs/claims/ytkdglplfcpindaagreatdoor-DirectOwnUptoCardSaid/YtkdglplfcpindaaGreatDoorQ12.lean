import Derived.Test.YtkdglplfcpindaaGreatDoorQ11
import Derived.StillTailTactics
namespace Go.Proofs.YtkdglplfcpindaaGreatDoor
open Go.RowKit

/-! ### strings -/
def tyB (l : List Decl) (t : Int) : ByteArray := if t = 0 then ⟨#[105, 110, 116]⟩ else ((l[(t - 1).toNat]?).map Decl.name).getD ⟨#[]⟩
def sepS (i : Nat) : List UInt8 := if 0 < i then [44, 32] else []
def coS (a : Arg) : List UInt8 := if a.co then [126] else []
def argsS (l : List Decl) : Nat → List Arg → List UInt8
  | _, [] => []
  | i, a :: r => sepS i ++ coS a ++ (tyB l a.ty).data.toList ++ argsS l (i + 1) r
def xtorS (l : List Decl) (x : Xtor) : List UInt8 := x.name.data.toList ++ [40] ++ argsS l 0 x.args ++ [41]
def xtorsS (l : List Decl) : Nat → List Xtor → List UInt8
  | _, [] => []
  | i, x :: r => sepS i ++ xtorS l x ++ xtorsS l (i + 1) r
def kwB (c : Bool) : ByteArray := if c then ⟨#[99, 111, 100, 97, 116, 97, 32]⟩ else ⟨#[100, 97, 116, 97, 32]⟩
def declS (l : List Decl) (d : Decl) : List UInt8 := (kwB d.codata).data.toList ++ d.name.data.toList ++ [32, 123, 32] ++ xtorsS l 0 d.xtors ++ [32, 125, 10]
def declsS (l : List Decl) : List Decl → List UInt8
  | [] => []
  | d :: r => declS l d ++ declsS l r

/-- What the strings ask of the declarations: short names, types that are there. -/
structure Fine (l : List Decl) : Prop where
  few : l.length ≤ 8
  name : ∀ d ∈ l, d.name.size ≤ 10
  xtors : ∀ d ∈ l, d.xtors.length ≤ 6
  xname : ∀ d ∈ l, ∀ x ∈ d.xtors, x.name.size ≤ 10
  args : ∀ d ∈ l, ∀ x ∈ d.xtors, x.args.length ≤ 6
  tys : ∀ d ∈ l, ∀ x ∈ d.xtors, ∀ a ∈ x.args, 0 ≤ a.ty ∧ a.ty ≤ l.length

theorem fits_size {s : ByteArray} (h : fitsB s = true) : s.size ≤ 10 := by simp [fitsB] at h; exact h.1
theorem okXs_mem {t : Int} : ∀ {l : List Xtor} {S : List ByteArray}, okXs t S l = true → ∀ x ∈ l, x.name.size ≤ 10 ∧ x.args.length ≤ 6 ∧ ∀ a ∈ x.args, 0 ≤ a.ty ∧ a.ty ≤ t
  | [], _, _, x, hx => by simp at hx
  | y :: r, S, h, x, hx => by
    have h2 : (okX t S y && okXs t (S ++ [y.name]) r) = true := h
    simp only [Bool.and_eq_true] at h2
    rcases List.mem_cons.1 hx with rfl | hx
    · have h3 := h2.1
      simp only [okX, xtorB, Bool.and_eq_true, decide_eq_true_eq, List.all_eq_true, okTy] at h3
      exact ⟨fits_size h3.1.1.1.2, h3.1.2, h3.2⟩
    · exact okXs_mem h2.2 x hx
theorem okDs_mem {t : Int} : ∀ {l : List Decl} {S : List ByteArray}, okDs t S l = true → ∀ d ∈ l, d.name.size ≤ 10 ∧ d.xtors.length ≤ 6 ∧ ∃ S', okXs t S' d.xtors = true
  | [], _, _, x, hx => by simp at hx
  | y :: r, S, h, x, hx => by
    have h2 : (okD t S y && okDs t (addD S y) r) = true := h
    simp only [Bool.and_eq_true] at h2
    rcases List.mem_cons.1 hx with rfl | hx
    · have h3 := h2.1
      simp only [okD, nameB, Bool.and_eq_true, decide_eq_true_eq] at h3
      exact ⟨fits_size h3.1.1.1.1.1.2, h3.1.2, ⟨_, h3.2⟩⟩
    · exact okDs_mem h2.2 x hx
theorem Fine.of {l : List Decl} (h : validB l = true) : Fine l := by
  simp only [validB, Bool.and_eq_true, decide_eq_true_eq] at h
  have hm := okDs_mem h.2
  refine ⟨h.1, fun d hd => (hm d hd).1, fun d hd => (hm d hd).2.1, fun d hd x hx => ?_, fun d hd x hx => ?_, fun d hd x hx => ?_⟩
  · obtain ⟨S, hs⟩ := (hm d hd).2.2; exact (okXs_mem hs x hx).1
  · obtain ⟨S, hs⟩ := (hm d hd).2.2; exact (okXs_mem hs x hx).2.1
  · obtain ⟨S, hs⟩ := (hm d hd).2.2; exact (okXs_mem hs x hx).2.2

end Go.Proofs.YtkdglplfcpindaaGreatDoor

/- Validity of terms and of their parts. -/
namespace Go.Proofs.YtkdglplfcpindaaGreatDoor
open Go.RowKit

theorem decl_in5 {P : Pg} {ty : Int} {co : Bool} (h : isDeclB P ty co = true) : ∃ u d, ty = ((u + 1 : Nat) : Int) ∧ P.decls[u]? = some d ∧ declAt P ty = d ∧ d.codata = co := by
  have h2 := isDecl_ok h
  obtain ⟨u, rfl⟩ : ∃ u : Nat, ty = (u : Int) + 1 := ⟨(ty - 1).toNat, by omega⟩
  have hu : u < P.decls.length := by omega
  rw [isDeclB_in hu] at h
  refine ⟨u, P.decls[u], by omega, List.getElem?_eq_getElem hu, ?_, by simpa using h⟩
  unfold declAt
  rw [show ((u : Int) + 1 - 1).toNat = u by omega, List.getD_eq_getElem?_getD, List.getElem?_eq_getElem hu]; rfl

theorem idx_in5 {n : Int} {m : Nat} (h : isIdxB n m = true) : ∃ k : Nat, n = k ∧ k < m := by
  unfold isIdxB at h
  simp only [Bool.and_eq_true, decide_eq_true_eq] at h
  exact ⟨n.toNat, by omega, by omega⟩

theorem hasF_len5 {t : Tm} {a b c : Bool} {na nc : Int} (h : hasF t a b c na nc = true) : (t.args.length : Int) = na ∧ (t.cls.length : Int) = nc := by
  unfold hasF at h
  simp only [Bool.and_eq_true, decide_eq_true_eq] at h
  exact ⟨h.1.2, h.2⟩

theorem fits_op5 {P : Pg} {t : Tm} (h : fitsT P t = true) : ∃ o : Nat, t.op = o ∧ o ≤ 12 := by
  by_cases h0 : 0 ≤ t.op ∧ t.op ≤ 12
  · exact ⟨t.op.toNat, by omega, by omega⟩
  · exfalso
    unfold fitsT at h
    rw [if_neg (by omega), if_neg (by omega), if_neg (by omega), if_neg (by omega), if_neg (by omega), if_neg (by omega), if_neg (by omega), if_neg (by omega), if_neg (by omega), if_neg (by omega), if_neg (by omega), if_neg (by omega)] at h
    cases h

theorem clsB_nth5 : ∀ (cls : List (List Str × Tm)) (xs : List Xtor) (n : Nat) (c : List Str × Tm), clsB xs cls = true → cls[n]? = some c → (c.1.length : Int) = prodI (xs.getD n noXtor)
  | [], _, _, _, _, h => by simp at h
  | c :: r, xs, 0, c', h, hc => by
    simp at hc; subst hc
    simp only [clsB, Bool.and_eq_true, decide_eq_true_eq] at h
    rw [h.1]; cases xs <;> rfl
  | c :: r, xs, n + 1, c', h, hc => by
    simp only [clsB, Bool.and_eq_true, decide_eq_true_eq] at h
    rw [List.getElem?_cons_succ] at hc
    rw [clsB_nth5 r xs.tail n c' h.2 hc]
    cases xs <;> simp

theorem fits_clause5 {P : Pg} {t : Tm} (hf : fitsT P t = true) {n : Nat} {c : List Str × Tm} (hc : t.cls[n]? = some c) :
    ∃ u d x, t.ty = ((u + 1 : Nat) : Int) ∧ P.decls[u]? = some d ∧ declAt P t.ty = d ∧ d.xtors[n]? = some x ∧ c.1.length = (prodL x).length := by
  have hn : n < t.cls.length := (List.getElem?_eq_some_iff.1 hc).1
  have key : ∀ (co : Bool) (na : Int), isDeclB P t.ty co = true → fitsCB P t na = true → ∃ u d x, t.ty = ((u + 1 : Nat) : Int) ∧ P.decls[u]? = some d ∧ declAt P t.ty = d ∧ d.xtors[n]? = some x ∧ c.1.length = (prodL x).length := by
    intro co na h1 h2
    obtain ⟨u, d, hty, hd, hda, hco⟩ := decl_in5 h1
    unfold fitsCB at h2
    rw [hda] at h2
    simp only [Bool.and_eq_true] at h2
    have hl := (hasF_len5 h2.1).2
    have hnx : n < d.xtors.length := by omega
    refine ⟨u, d, d.xtors[n], hty, hd, hda, List.getElem?_eq_getElem hnx, ?_⟩
    have := clsB_nth5 _ _ n c h2.2 hc
    rw [List.getD_eq_getElem?_getD, List.getElem?_eq_getElem hnx] at this
    unfold prodI at this
    unfold prodL
    rw [List.length_map]
    have this : (c.1.length : Int) = ((List.filter (fun a => !a.co) (d.xtors[n]).args).length : Int) := this
    exact Int.ofNat.inj this
  obtain ⟨o, ho, ho2⟩ := fits_op5 hf
  unfold fitsT at hf
  rw [ho] at hf
  match o, ho2 with
  | 0, _ => simp at hf; have := (hasF_len5 hf).2; omega
  | 1, _ => simp at hf; have := (hasF_len5 hf).2; omega
  | 2, _ => simp at hf; have := (hasF_len5 hf.1.1).2; omega
  | 3, _ => simp at hf; have := (hasF_len5 hf).2; omega
  | 4, _ =>
    simp at hf
    have h := hf.2
    unfold fitsXB at h
    simp only [Bool.and_eq_true] at h
    have := (hasF_len5 h.2).2; omega
  | 5, _ => simp at hf; exact key _ _ hf.1 hf.2
  | 6, _ =>
    simp at hf
    have h := hf.2
    unfold fitsXB at h
    simp only [Bool.and_eq_true] at h
    have := (hasF_len5 h.2).2; omega
  | 7, _ => simp at hf; exact key _ _ hf.1 hf.2
  | 8, _ => simp at hf; have := (hasF_len5 hf.1).2; omega
  | 9, _ => simp at hf; have := (hasF_len5 hf.2).2; omega
  | 10, _ => simp at hf; have := (hasF_len5 hf).2; omega
  | 11, _ => simp at hf; have := (hasF_len5 hf.1).2; omega
  | 12, _ => simp at hf; have := (hasF_len5 hf.1).2; omega


def Vld5 (P : Pg) (t : Tm) : Prop := ∃ V L, validT P V L t = true

theorem Vld5.fits {P : Pg} {t : Tm} (h : Vld5 P t) : fitsT P t = true := by
  obtain ⟨V, L, h⟩ := h
  rw [validT_kids] at h
  simp only [Bool.and_eq_true] at h
  exact h.1.1

def Found5 (E : Env) (V : Scp) : Prop := ∀ k, V k = true → ∃ y, findE E k = some y
def VldS5 (P : Pg) (E F : Env) (t : Tm) : Prop := ∃ V L, validT P V L t = true ∧ Found5 E V ∧ Found5 F L
theorem VldS5.vld {P : Pg} {E F : Env} {t : Tm} (h : VldS5 P E F t) : Vld5 P t := by
  obtain ⟨V, L, h, -, -⟩ := h
  exact ⟨V, L, h⟩
theorem found_cons5 {E : Env} {V : Scp} (h : Found5 E V) (s : Str) (y : Int) (k : Str) (hk : (k.toList == s.toList) = true ∨ V k = true) : ∃ z, findE ((s, y) :: E) k = some z := by
  rw [findE]
  cases hq : (s.toList == k.toList)
  · rcases hk with hk | hk
    · have h1 : k.toList = s.toList := by simpa using hk
      rw [h1] at hq; simp at hq
    · simpa using h k hk
  · exact ⟨y, by simp⟩
theorem found_skip5 {E : Env} {V : Scp} (h : Found5 E V) (s : Str) (y : Int) : Found5 ((s, y) :: E) V := fun k hk => found_cons5 h s y k (.inr hk)
theorem found_bind5 : ∀ (ns : List Str) (ts : List Int) (E : Env) (V : Scp), ns.length ≤ ts.length → Found5 E V → Found5 (bindE ns ts E) (fun k => hasS ns k || V k)
  | [], ts, E, V, _, h => fun k hk => by
    have : V k = true := by simpa [hasS] using hk
    simpa [bindE] using h k this
  | s :: r, [], E, V, hl, _ => by simp at hl
  | s :: r, y :: q, E, V, hl, h => fun k hk => by
    rw [bindE]
    refine found_bind5 r q ((s, y) :: E) (fun k => (k.toList == s.toList) || V k) (by simpa using hl) (fun k hk => found_cons5 h s y k (by simpa using hk)) k ?_
    have h2 : (((k.toList == s.toList) || hasS r k) || V k) = true := hk
    cases h3 : (k.toList == s.toList) <;> simp [h3] at h2 ⊢
    exact h2
theorem VldS5.kid {P : Pg} {E F : Env} {t : Tm} (h : VldS5 P E F t) {i : Nat} (hi : i < t.args.length + t.cls.length) : VldS5 P (kidE P E F t i).1 (kidE P E F t i).2 (kidT t i) := by
  obtain ⟨V, L, hv, hE, hF⟩ := h
  have hfits : fitsT P t = true := Vld5.fits ⟨V, L, hv⟩
  rw [validT_kids] at hv
  simp only [Bool.and_eq_true, List.all_eq_true] at hv
  by_cases hlt : i < t.args.length
  · have hg := kidsFrom_get t.op t.nm t.args 0 i _ (List.getElem?_eq_getElem hlt)
    have hm := hv.2 _ (show (bndAt t.op t.nm (0 + i), t.args[i]) ∈ kids t from List.mem_append_left _ (List.mem_of_getElem? hg))
    unfold validK at hm
    simp only [Bool.and_eq_true, Nat.zero_add] at hm
    have e2 : kidT t i = t.args[i] := by unfold kidT; rw [if_pos hlt, List.getD_eq_getElem?_getD, List.getElem?_eq_getElem hlt]; rfl
    have e1 : kidE P E F t i = (argV t.op t.nm t.ty i E, argL t.op t.nm t.ty F) := by unfold kidE; rw [if_pos hlt]
    rw [e1, e2]
    refine ⟨_, _, hm.2, ?_, ?_⟩
    · show Found5 (argV t.op t.nm t.ty i E) _
      unfold argV bndAt addV
      by_cases h8 : t.op = 8 ∧ i = 1
      · rw [if_pos h8, if_pos h8]
        intro k hk
        refine found_cons5 hE t.nm t.ty k ?_
        simpa [hasS] using hk
      · rw [if_neg h8, if_neg h8]
        by_cases h11 : t.op = 11 ∧ i = 0
        · rw [if_pos h11]
          exact hE
        · rw [if_neg h11]
          intro k hk
          exact hE k (by simpa [hasS] using hk)
    · show Found5 (argL t.op t.nm t.ty F) _
      unfold argL bndAt addL
      by_cases h8 : t.op = 8 ∧ i = 1
      · rw [if_pos h8, if_neg (by omega)]
        exact hF
      · rw [if_neg h8]
        by_cases h11 : t.op = 11 ∧ i = 0
        · rw [if_pos h11, if_pos h11.1]
          intro k hk
          refine found_cons5 hF t.nm t.ty k ?_
          simpa [hasS] using hk
        · rw [if_neg h11]
          by_cases h1 : t.op = 11
          · rw [if_pos h1]; exact found_skip5 hF _ _
          · rw [if_neg h1]; exact hF
  · have hn : i - t.args.length < t.cls.length := by omega
    obtain ⟨u, d, x, hty, hd, hda, hx, hcx⟩ := fits_clause5 hfits (List.getElem?_eq_getElem hn)
    have hm := hv.2 _ (show (((t.cls[i - t.args.length]).1, false), (t.cls[i - t.args.length]).2) ∈ kids t from List.mem_append_right _ (List.mem_map.2 ⟨_, List.getElem_mem hn, rfl⟩))
    unfold validK at hm
    simp only [Bool.and_eq_true] at hm
    have e2 : kidT t i = (t.cls[i - t.args.length]).2 := by unfold kidT; rw [if_neg hlt, List.getD_eq_getElem?_getD, List.getElem?_eq_getElem hn]; rfl
    have e1 : kidE P E F t i = (bindE (t.cls[i - t.args.length]).1 (prodL x) E, F) := by
      unfold kidE; rw [if_neg hlt, List.getD_eq_getElem?_getD, List.getElem?_eq_getElem hn, hda, List.getD_eq_getElem?_getD, hx]; rfl
    rw [e1, e2]
    refine ⟨_, _, hm.2, ?_, ?_⟩
    · exact found_bind5 _ _ _ _ (by rw [hcx]; exact Nat.le_refl _) hE
    · exact hF
theorem VldS5.var {P : Pg} {E F : Env} {t : Tm} (h : VldS5 P E F t) (h0 : t.op = 0) : ∃ y, findE E t.nm = some y := by
  obtain ⟨V, L, hv, hE, hF⟩ := h
  rw [validT_kids] at hv
  simp only [Bool.and_eq_true] at hv
  have := hv.1.2
  unfold refB at this
  rw [if_pos h0] at this
  exact hE _ this
theorem VldS5.lab {P : Pg} {E F : Env} {t : Tm} (h : VldS5 P E F t) (h0 : t.op = 12) : ∃ y, findE F t.nm = some y := by
  obtain ⟨V, L, hv, hE, hF⟩ := h
  rw [validT_kids] at hv
  simp only [Bool.and_eq_true] at hv
  have := hv.1.2
  unfold refB at this
  rw [if_neg (by omega), if_pos h0] at this
  exact hF _ this


theorem prog_decls5 {P : Pg} (h : progB P = true) : validB P.decls = true ∧ srcB P.decls = true := by
  unfold progB at h
  simp only [Bool.and_eq_true] at h
  exact h.1.1.1
end Go.Proofs.YtkdglplfcpindaaGreatDoor

/- Validity and types of the machine's states, and that its steps keep both. -/
namespace Go.Proofs.YtkdglplfcpindaaGreatDoor

inductive WX where
  | v (x : Vl) (y : Int)
  | i (x : It) (y : Int)
  | vs (l : List (Str × It)) (E : Env)
  | ls (l : List (Str × Kt)) (E : Env)
  | k (l : Kt) (y : Int)
  | is (l : List It) (ys : List Int)
/-- Validity alone (b = false), or with types. -/
inductive TY (b : Bool) (P : Pg) : WX → Prop
  | int (n y : Int) (h : b = true → y = 0) : TY b P (.v (.int n) y)
  | con (d n y : Int) (l : List It) (h0 : isDeclB P d false = true) (h1 : isIdxB n (declAt P d).xtors.length = true) (h2 : b = true → y = d) (h3 : TY b P (.is l (prodL (xtorAt P d n)))) : TY b P (.v (.con d n l) y)
  | obj (t : Tm) (e : En) (y : Int) (E F : Env) (h0 : t.op = 7) (h1 : VldS5 P E F t) (h2 : b = true → tyT P E F t = .inr y) (h3 : TY b P (.vs e.vs E)) (h4 : TY b P (.ls e.ls F)) : TY b P (.v (.obj t e) y)
  | held (x : Vl) (y : Int) (h : TY b P (.v x y)) : TY b P (.i (.held x) y)
  | thunk (t : Tm) (e : En) (y : Int) (E F : Env) (h1 : VldS5 P E F t) (h2 : b = true → tyT P E F t = .inr y) (h3 : TY b P (.vs e.vs E)) (h4 : TY b P (.ls e.ls F)) : TY b P (.i (.thunk t e) y)
  | vnil : TY b P (.vs [] [])
  | vcons (s : Str) (x : It) (y : Int) (l : List (Str × It)) (E : Env) (h1 : TY b P (.i x y)) (h2 : TY b P (.vs l E)) : TY b P (.vs ((s, x) :: l) ((s, y) :: E))
  | lnil : TY b P (.ls [] [])
  | lcons (s : Str) (x : Kt) (y : Int) (l : List (Str × Kt)) (E : Env) (h1 : TY b P (.k x y)) (h2 : TY b P (.ls l E)) : TY b P (.ls ((s, x) :: l) ((s, y) :: E))
  | inil : TY b P (.is [] [])
  | icons (x : It) (y : Int) (l : List It) (ys : List Int) (h1 : TY b P (.i x y)) (h2 : TY b P (.is l ys)) : TY b P (.is (x :: l) (y :: ys))
  | fin (y : Int) (h : b = true → y = 0) : TY b P (.k [] y)
  | left (t : Tm) (e : En) (y z : Int) (E F : Env) (k : Kt) (h0 : t.op = 2) (h1 : VldS5 P E F t) (h2 : b = true → tyT P E F t = .inr z ∧ y = 0) (h3 : TY b P (.vs e.vs E)) (h4 : TY b P (.ls e.ls F)) (h5 : TY b P (.k k z)) : TY b P (.k (.left t e :: k) y)
  | right (t : Tm) (e : En) (a y z : Int) (E F : Env) (k : Kt) (h0 : t.op = 2) (h1 : VldS5 P E F t) (h2 : b = true → tyT P E F t = .inr z ∧ y = 0) (h3 : TY b P (.vs e.vs E)) (h4 : TY b P (.ls e.ls F)) (h5 : TY b P (.k k z)) : TY b P (.k (.right t e a :: k) y)
  | zero (t : Tm) (e : En) (y z : Int) (E F : Env) (k : Kt) (h0 : t.op = 3) (h1 : VldS5 P E F t) (h2 : b = true → tyT P E F t = .inr z ∧ y = 0) (h3 : TY b P (.vs e.vs E)) (h4 : TY b P (.ls e.ls F)) (h5 : TY b P (.k k z)) : TY b P (.k (.zero t e :: k) y)
  | emit (t : Tm) (e : En) (y z : Int) (E F : Env) (k : Kt) (h0 : t.op = 10) (h1 : VldS5 P E F t) (h2 : b = true → tyT P E F t = .inr z ∧ y = 0) (h3 : TY b P (.vs e.vs E)) (h4 : TY b P (.ls e.ls F)) (h5 : TY b P (.k k z)) : TY b P (.k (.emit t e :: k) y)
  | ana (t : Tm) (e : En) (y z : Int) (E F : Env) (k : Kt) (h0 : t.op = 5) (h1 : VldS5 P E F t) (h2 : b = true → tyT P E F t = .inr z ∧ y = t.ty) (h3 : TY b P (.vs e.vs E)) (h4 : TY b P (.ls e.ls F)) (h5 : TY b P (.k k z)) : TY b P (.k (.ana t e :: k) y)
  | obs (t : Tm) (e : En) (l : List It) (y z : Int) (E F : Env) (k : Kt) (h0 : t.op = 6) (h1 : VldS5 P E F t) (h2 : b = true → tyT P E F t = .inr z ∧ y = t.ty) (h3 : TY b P (.vs e.vs E)) (h4 : TY b P (.ls e.ls F)) (h5 : TY b P (.k k z))
    (h6 : TY b P (.is l (prodL (xtorAt P t.ty t.n)))) : TY b P (.k (.obs t e l :: k) y)
  | bind (t : Tm) (e : En) (l : List It) (j : Nat) (y z : Int) (E F : Env) (k : Kt) (h0 : t.op = 4 ∨ t.op = 6 ∨ t.op = 8 ∨ t.op = 9) (h1 : VldS5 P E F t) (h2 : b = true → tyT P E F t = .inr z ∧ y = (typesOf P t).getD j 0) (h3 : TY b P (.vs e.vs E)) (h4 : TY b P (.ls e.ls F)) (h5 : TY b P (.k k z))
    (hj : j < (typesOf P t).length) (h6 : TY b P (.is l ((typesOf P t).take j))) : TY b P (.k (.bind ((termsOf t).drop j) ((typesOf P t).drop j) l t e :: k) y)
/-- The same of a task. -/
def TS (b : Bool) (P : Pg) : Tk → Prop
  | .ev t e k => ∃ E F z, VldS5 P E F t ∧ (b = true → tyT P E F t = .inr z) ∧ TY b P (.vs e.vs E) ∧ TY b P (.ls e.ls F) ∧ TY b P (.k k z)
  | .pass v k => ∃ z, TY b P (.v v z) ∧ TY b P (.k k z)

/-! ### what is found -/
theorem TY.findV {b : Bool} {P : Pg} {l : List (Str × It)} {E : Env} {s : Str} {y : Int} (h : TY b P (.vs l E)) (hf : findE E s = some y) : ∃ x, findA l s = some x ∧ TY b P (.i x y) := by
  generalize hw : WX.vs l E = w at h
  induction h generalizing l E with
  | vnil => cases hw; cases hf
  | vcons s' x y' l' E' h1 h2 _ ih =>
    cases hw
    rw [findE] at hf
    rw [findA]
    split at hf
    · rename_i hq
      cases hf
      exact ⟨x, by rw [if_pos hq], h1⟩
    · rename_i hq
      rw [if_neg hq]
      exact ih hf rfl
  | _ => cases hw
theorem TY.findL {b : Bool} {P : Pg} {l : List (Str × Kt)} {E : Env} {s : Str} {y : Int} (h : TY b P (.ls l E)) (hf : findE E s = some y) : ∃ x, findA l s = some x ∧ TY b P (.k x y) := by
  generalize hw : WX.ls l E = w at h
  induction h generalizing l E with
  | lnil => cases hw; cases hf
  | lcons s' x y' l' E' h1 h2 _ ih =>
    cases hw
    rw [findE] at hf
    rw [findA]
    split at hf
    · rename_i hq
      cases hf
      exact ⟨x, by rw [if_pos hq], h1⟩
    · rename_i hq
      rw [if_neg hq]
      exact ih hf rfl
  | _ => cases hw
theorem TY.with {b : Bool} {P : Pg} : ∀ (ns : List Str) (ys : List Int) (args : List It) (l : List (Str × It)) (E : Env), TY b P (.is args ys) → TY b P (.vs l E) → TY b P (.vs (withA ns args l) (bindE ns ys E))
  | [], ys, args, l, E, _, h => by simpa [withA, bindE] using h
  | s :: r, [], args, l, E, ha, h => by
    cases ha
    simpa [withA, bindE] using h
  | s :: r, y :: q, args, l, E, ha, h => by
    cases ha with
    | icons x _ l2 _ h1 h2 =>
      rw [withA, bindE]
      exact TY.with r q l2 _ _ h2 (.vcons s x y l E h1 h)
theorem TY.snoc {b : Bool} {P : Pg} {x : It} {y : Int} : ∀ {l : List It} {ys : List Int}, TY b P (.is l ys) → TY b P (.i x y) → TY b P (.is (l ++ [x]) (ys ++ [y]))
  | [], ys, h, hx => by cases h; exact .icons x y [] [] hx .inil
  | a :: l, ys, h, hx => by
    cases h with
    | icons _ y2 _ ys2 h1 h2 => exact .icons a y2 _ _ h1 (TY.snoc h2 hx)
theorem TY.len {b : Bool} {P : Pg} : ∀ {l : List It} {ys : List Int}, TY b P (.is l ys) → l.length = ys.length
  | [], ys, h => by cases h; rfl
  | a :: l, ys, h => by
    cases h with
    | icons _ y2 _ ys2 h1 h2 => simp [TY.len h2]

/-! ### the rule of a term and its children -/
theorem tyK_get (P : Pg) (E F : Env) (t : Tm) : ∀ (k i : Nat) (ps : List Int), tyK P E F t i k = .inr ps → ∀ j, j < k → tyT P (kidE P E F t (i + j)).1 (kidE P E F t (i + j)).2 (kidT t (i + j)) = .inr (ps.getD j 0)
  | 0, i, ps, h, j, hj => by omega
  | k + 1, i, ps, h, j, hj => by
    rw [tyK] at h
    cases hy : tyT P (kidE P E F t i).1 (kidE P E F t i).2 (kidT t i) with
    | inl p => rw [hy] at h; cases h
    | inr y =>
      rw [hy] at h
      cases hk : tyK P E F t (i + 1) k with
      | inl p => rw [hk] at h; cases h
      | inr q =>
        rw [hk] at h
        cases h
        cases j with
        | zero => rw [Nat.add_zero, hy]; rfl
        | succ j =>
          have := tyK_get P E F t k (i + 1) q hk j (by omega)
          rw [show i + 1 + j = i + (j + 1) by omega] at this
          rw [this]; rfl
theorem tyT_parts {P : Pg} {E F : Env} {t : Tm} {z : Int} (h : tyT P E F t = .inr z) : ∃ ps, ps.length = t.args.length + t.cls.length ∧
    (∀ j, j < t.args.length + t.cls.length → tyT P (kidE P E F t j).1 (kidE P E F t j).2 (kidT t j) = .inr (ps.getD j 0)) ∧ ruleS P E F t.op t.n t.nm t.ty ps = .inr z := by
  rw [tyT_kids] at h
  cases hk : tyK P E F t 0 (t.args.length + t.cls.length) with
  | inl p => rw [hk] at h; cases h
  | inr ps =>
    rw [hk] at h
    exact ⟨ps, tyK_len P E F t _ 0 ps hk, fun j hj => by have := tyK_get P E F t _ 0 ps hk j hj; rwa [Nat.zero_add] at this, h⟩
theorem okR_inr {c : Bool} {y z : Int} (h : okR c y = .inr z) : c = true ∧ z = y := by
  unfold okR at h
  cases c
  · cases h
  · exact ⟨rfl, by cases h; rfl⟩

/-! ### shapes -/
theorem fit_op {P : Pg} {t : Tm} (h : fitsT P t = true) : t.op = 0 ∨ t.op = 1 ∨ t.op = 2 ∨ t.op = 3 ∨ t.op = 4 ∨ t.op = 5 ∨ t.op = 6 ∨ t.op = 7 ∨ t.op = 8 ∨ t.op = 9 ∨ t.op = 10 ∨ t.op = 11 ∨ t.op = 12 := by
  obtain ⟨o, ho, h12⟩ := fits_op5 h
  omega
theorem fit2 {P : Pg} {t : Tm} (h : fitsT P t = true) (ho : t.op = 2) : t.args.length = 2 ∧ t.cls.length = 0 ∧ 0 ≤ t.n ∧ t.n ≤ 6 := by
  simp [fitsT, ho, hasF] at h; refine ⟨by omega, by simp [h], by omega, by omega⟩
theorem fit3 {P : Pg} {t : Tm} (h : fitsT P t = true) (ho : t.op = 3) : t.args.length = 3 ∧ t.cls.length = 0 := by
  simp [fitsT, ho, hasF] at h; exact ⟨by omega, by simp [h]⟩
theorem fit4 {P : Pg} {t : Tm} (h : fitsT P t = true) (ho : t.op = 4) : isDeclB P t.ty false = true ∧ isIdxB t.n (declAt P t.ty).xtors.length = true ∧ t.args.length = (xtorAt P t.ty t.n).args.length ∧ t.cls.length = 0 := by
  simp [fitsT, ho, fitsXB, hasF] at h
  exact ⟨h.1, h.2.1, by unfold xtorAt; simp; omega, by simp [h]⟩
theorem fit5 {P : Pg} {t : Tm} (h : fitsT P t = true) (ho : t.op = 5) : isDeclB P t.ty false = true ∧ t.args.length = 1 ∧ t.cls.length = (declAt P t.ty).xtors.length ∧ clsB (declAt P t.ty).xtors t.cls = true := by
  simp [fitsT, ho, fitsCB, hasF] at h
  exact ⟨h.1, by omega, by omega, h.2.2⟩
theorem fit6 {P : Pg} {t : Tm} (h : fitsT P t = true) (ho : t.op = 6) : isDeclB P t.ty true = true ∧ isIdxB t.n (declAt P t.ty).xtors.length = true ∧ t.args.length = (xtorAt P t.ty t.n).args.length ∧ t.cls.length = 0 := by
  simp [fitsT, ho, fitsXB, hasF] at h
  exact ⟨h.1, h.2.1, by unfold xtorAt; simp; omega, by simp [h]⟩
theorem fit7 {P : Pg} {t : Tm} (h : fitsT P t = true) (ho : t.op = 7) : isDeclB P t.ty true = true ∧ t.args.length = 0 ∧ t.cls.length = (declAt P t.ty).xtors.length ∧ clsB (declAt P t.ty).xtors t.cls = true := by
  simp [fitsT, ho, fitsCB, hasF] at h
  exact ⟨h.1, by simp [h], by omega, h.2.2⟩
theorem fit8 {P : Pg} {t : Tm} (h : fitsT P t = true) (ho : t.op = 8) : t.args.length = 2 ∧ t.cls.length = 0 := by
  simp [fitsT, ho, hasF] at h; exact ⟨by omega, by simp [h]⟩
theorem fit9 {P : Pg} {t : Tm} (h : fitsT P t = true) (ho : t.op = 9) : isIdxB t.n P.funs.length = true ∧ t.args.length = (fnAt P t.n).ps.length ∧ t.cls.length = 0 := by
  simp [fitsT, ho, hasF] at h
  exact ⟨h.1, by unfold fnAt; simp; omega, by simp [h]⟩
theorem fit10 {P : Pg} {t : Tm} (h : fitsT P t = true) (ho : t.op = 10) : t.args.length = 2 ∧ t.cls.length = 0 := by
  simp [fitsT, ho, hasF] at h; exact ⟨by omega, by simp [h]⟩
theorem fit11 {P : Pg} {t : Tm} (h : fitsT P t = true) (ho : t.op = 11 ∨ t.op = 12) : t.args.length = 1 ∧ t.cls.length = 0 := by
  rcases ho with ho | ho <;> (simp [fitsT, ho, hasF] at h; exact ⟨by omega, by simp [h]⟩)
end Go.Proofs.YtkdglplfcpindaaGreatDoor

/- The steps of the machine keep validity and types. -/
namespace Go.Proofs.YtkdglplfcpindaaGreatDoor

def paramE (f : Fn) : Env := bindE (f.ps.map Prm.nm) (f.ps.map Prm.ty) []
/-- A valid program, or a well-typed one. -/
structure WFP (b : Bool) (P : Pg) : Prop where
  prog : progB P = true
  typed : b = true → ∀ f ∈ P.funs, tyT P (paramE f) [] f.body = .inr f.res

theorem kid_arg {P : Pg} {E F : Env} {t : Tm} {i : Nat} (hi : i < t.args.length) (h8 : ¬ (t.op = 8 ∧ i = 1)) (h11 : ¬ t.op = 11) : kidE P E F t i = (E, F) ∧ kidT t i = t.args.getD i noTm := by
  constructor
  · unfold kidE argV argL; rw [if_pos hi, if_neg h8, if_neg h11]
  · unfold kidT; rw [if_pos hi]; rfl
theorem arg_ok {P : Pg} {E F : Env} {t : Tm} {i : Nat} (h : VldS5 P E F t) (hi : i < t.args.length) (h8 : ¬ (t.op = 8 ∧ i = 1)) (h11 : ¬ t.op = 11) : VldS5 P E F (t.args.getD i noTm) := by
  have hk := h.kid (i := i) (by omega)
  obtain ⟨e1, e2⟩ := kid_arg (P := P) (E := E) (F := F) hi h8 h11
  rw [e1, e2] at hk
  exact hk
theorem arg_ty {P : Pg} {E F : Env} {t : Tm} {ps : List Int} (h : ∀ j, j < t.args.length + t.cls.length → tyT P (kidE P E F t j).1 (kidE P E F t j).2 (kidT t j) = .inr (ps.getD j 0)) {i : Nat} (hi : i < t.args.length) (h8 : ¬ (t.op = 8 ∧ i = 1)) (h11 : ¬ t.op = 11) :
    tyT P E F (t.args.getD i noTm) = .inr (ps.getD i 0) := by
  have := h i (by omega)
  obtain ⟨e1, e2⟩ := kid_arg (P := P) (E := E) (F := F) hi h8 h11
  rw [e1, e2] at this
  exact this

/-! ### xtors of a valid program -/
theorem xtor_src {P : Pg} (h : progB P = true) {ty n : Int} {co : Bool} (hd : isDeclB P ty co = true) (hn : isIdxB n (declAt P ty).xtors.length = true) : srcX co (xtorAt P ty n) = true := by
  obtain ⟨u, d, rfl, hdd, hda, rfl⟩ := decl_in5 hd
  obtain ⟨k, rfl, hk⟩ := idx_in5 hn
  have hs := (prog_decls5 h).2
  unfold srcB at hs
  rw [List.all_eq_true] at hs
  have h1 := hs d (List.mem_of_getElem? hdd)
  unfold srcD at h1
  rw [List.all_eq_true] at h1
  rw [hda] at hk
  have h2 := h1 d.xtors[k] (List.getElem_mem hk)
  unfold xtorAt
  rw [hda, List.getD_eq_getElem?_getD, show ((k : Int)).toNat = k by omega, List.getElem?_eq_getElem hk]
  exact h2
theorem prod_data {x : Xtor} (h : srcX false x = true) : (prodL x).length = x.args.length := by
  unfold srcX hasCo at h
  simp at h
  unfold prodL
  rw [List.length_map, List.filter_eq_self.2 (fun a ha => by simp [h a ha])]
theorem prod_codata {x : Xtor} (h : srcX true x = true) : (prodL x).length + 1 = x.args.length := by
  unfold srcX endsB at h
  rw [if_pos rfl, Bool.and_eq_true] at h
  have hl : 0 < x.args.length := by
    cases hx : x.args with
    | nil => rw [hx] at h; simp [lastCo] at h
    | cons a r => simp
  have h1 := h.1
  rw [lastCo_eq hl] at h1
  have h2 := h.2
  unfold hasCo at h2
  simp only [Bool.not_eq_true', List.any_eq_false] at h2
  have e : x.args = x.args.take (x.args.length - 1) ++ [x.args[x.args.length - 1]] := by
    have := List.take_succ_eq_append_getElem (l := x.args) (i := x.args.length - 1) (by omega)
    rw [show x.args.length - 1 + 1 = x.args.length by omega, List.take_length] at this
    exact this
  unfold prodL
  rw [List.length_map]
  conv => lhs; rw [e]
  rw [List.filter_append, List.length_append, List.filter_eq_self.2 (fun a ha => by have := h2 a ha; simp at this; simp [this])]
  simp [h1]
  omega
theorem fn_in {P : Pg} {n : Int} (h : isIdxB n P.funs.length = true) : fnAt P n ∈ P.funs := by
  obtain ⟨k, rfl, hk⟩ := idx_in5 h
  unfold fnAt
  rw [List.getD_eq_getElem?_getD, show ((k : Int)).toNat = k by omega, List.getElem?_eq_getElem hk]
  exact List.getElem_mem hk
theorem body_vld {P : Pg} (h : progB P = true) {f : Fn} (hf : f ∈ P.funs) : VldS5 P (paramE f) [] f.body := by
  unfold progB at h
  simp only [Bool.and_eq_true, List.all_eq_true] at h
  have h1 := h.2 f hf
  unfold funB at h1
  simp only [Bool.and_eq_true] at h1
  refine ⟨_, _, h1.2.2, ?_, fun k hk => by simp at hk⟩
  have := found_bind5 (f.ps.map Prm.nm) (f.ps.map Prm.ty) [] (fun _ => false) (by simp) (fun k hk => by simp at hk)
  intro k hk
  exact this k (by show (hasS _ k || false) = true; rw [hk]; rfl)
/-- As many terms are bound as types say. -/
theorem terms_len {P : Pg} (hP : progB P = true) {t : Tm} (hf : fitsT P t = true) (h0 : t.op = 4 ∨ t.op = 6 ∨ t.op = 8 ∨ t.op = 9) : (termsOf t).length = (typesOf P t).length ∧ (t.op = 6 → (typesOf P t).length + 1 = t.args.length) := by
  unfold termsOf typesOf
  rcases h0 with ho | ho | ho | ho <;> simp only [ho]
  · obtain ⟨h1, h2, h3, -⟩ := fit4 hf ho
    have := prod_data (xtor_src hP h1 h2)
    simp; omega
  · obtain ⟨h1, h2, h3, -⟩ := fit6 hf ho
    have := prod_codata (xtor_src hP h1 h2)
    simp; omega
  · obtain ⟨h1, -⟩ := fit8 hf ho
    simp; omega
  · obtain ⟨-, h1, -⟩ := fit9 hf ho
    simp; omega
theorem term_get {t : Tm} {j : Nat} (hj : j < (termsOf t).length) : (termsOf t)[j] = t.args.getD j noTm ∧ j < t.args.length ∧ (t.op = 8 → j = 0) := by
  have key : ∀ n, ∀ (h : j < (t.args.take n).length), (t.args.take n)[j] = t.args.getD j noTm ∧ j < t.args.length := by
    intro n h
    have h2 : j < t.args.length := by rw [List.length_take] at h; omega
    refine ⟨?_, h2⟩
    rw [List.getElem_take, List.getD_eq_getElem?_getD, List.getElem?_eq_getElem h2]; rfl
  unfold termsOf at hj ⊢
  by_cases h6 : t.op = 6
  · simp only [h6, if_true] at hj ⊢
    exact ⟨(key _ hj).1, (key _ hj).2, fun h => by omega⟩
  · by_cases h8 : t.op = 8
    · simp only [h8, if_true, if_neg (show ¬ ((8 : Int) = 6) by omega)] at hj ⊢
      exact ⟨(key _ hj).1, (key _ hj).2, fun _ => by simp at hj; omega⟩
    · simp only [if_neg h6, if_neg h8] at hj ⊢
      exact ⟨by rw [List.getD_eq_getElem?_getD, List.getElem?_eq_getElem hj]; rfl, hj, fun h => absurd h h8⟩
/-- Terms to bind have the types that they are bound at. -/
theorem term_ty {P : Pg} (hP : progB P = true) {E F : Env} {t : Tm} {z : Int} (h1 : VldS5 P E F t) (h0 : t.op = 4 ∨ t.op = 6 ∨ t.op = 8 ∨ t.op = 9) (h : tyT P E F t = .inr z) {j : Nat} (hj : j < (termsOf t).length) : tyT P E F (t.args.getD j noTm) = .inr ((typesOf P t).getD j 0) := by
  obtain ⟨ps, hl, hk, hr⟩ := tyT_parts h
  obtain ⟨-, hja, hj8⟩ := term_get hj
  have hlen := terms_len hP h1.vld.fits h0
  rw [arg_ty hk hja (fun hx => by have := hj8 hx.1; omega) (by omega)]
  congr 1
  unfold ruleS at hr
  unfold typesOf
  rcases h0 with ho | ho | ho | ho <;> simp only [ho] at hr ⊢
  · simp only [show ¬ ((4 : Int) = 0) by omega, show ¬ ((4 : Int) = 1) by omega, show ¬ ((4 : Int) = 2) by omega, show ¬ ((4 : Int) = 3) by omega, show ¬ ((4 : Int) = 8) by omega, show ¬ ((4 : Int) = 9) by omega, if_true, if_false] at hr ⊢
    rw [(eqL_iff _ _).1 (okR_inr hr).1]
  · simp only [show ¬ ((6 : Int) = 0) by omega, show ¬ ((6 : Int) = 1) by omega, show ¬ ((6 : Int) = 2) by omega, show ¬ ((6 : Int) = 3) by omega, show ¬ ((6 : Int) = 4) by omega, show ¬ ((6 : Int) = 5) by omega, show ¬ ((6 : Int) = 8) by omega, show ¬ ((6 : Int) = 9) by omega, if_true, if_false] at hr ⊢
    rw [(eqL_iff _ _).1 (okR_inr hr).1, List.getD_eq_getElem?_getD, List.getD_eq_getElem?_getD, List.getElem?_append_left]
    have := hlen.1
    unfold typesOf at this
    simp only [ho, show ¬ ((6 : Int) = 8) by omega, show ¬ ((6 : Int) = 9) by omega, if_false] at this
    omega
  · have : j = 0 := hj8 ho
    subst this
    simp only [show ¬ ((8 : Int) = 0) by omega, show ¬ ((8 : Int) = 1) by omega, show ¬ ((8 : Int) = 2) by omega, show ¬ ((8 : Int) = 3) by omega, show ¬ ((8 : Int) = 4) by omega, show ¬ ((8 : Int) = 5) by omega, show ¬ ((8 : Int) = 6) by omega, show ¬ ((8 : Int) = 7) by omega, if_true, if_false] at hr ⊢
    have := (okR_inr hr).1
    simp at this
    rw [List.getD_eq_getElem?_getD] at *
    simpa using this
  · simp only [show ¬ ((9 : Int) = 0) by omega, show ¬ ((9 : Int) = 1) by omega, show ¬ ((9 : Int) = 2) by omega, show ¬ ((9 : Int) = 3) by omega, show ¬ ((9 : Int) = 4) by omega, show ¬ ((9 : Int) = 5) by omega, show ¬ ((9 : Int) = 6) by omega, show ¬ ((9 : Int) = 7) by omega, show ¬ ((9 : Int) = 8) by omega, if_true, if_false] at hr ⊢
    rw [(eqL_iff _ _).1 (okR_inr hr).1]
end Go.Proofs.YtkdglplfcpindaaGreatDoor

/- evaluate.go: argTypes. -/
namespace Go.Proofs.YtkdglplfcpindaaGreatDoor
open Go.RowKit

theorem MB.cells {w : World} {mb : Nat} {vd vf lz ov : Value} {fuel en vl st : Int} (h : MB w mb vd vf lz ov fuel en vl st) :
    w.cell? ⟨mb, 0, none⟩ = some vd ∧ w.cell? ⟨mb, 1, none⟩ = some vf ∧ w.cell? ⟨mb, 2, none⟩ = some lz ∧ w.cell? ⟨mb, 3, none⟩ = some (.int .i64 fuel) ∧ w.cell? ⟨mb, 4, none⟩ = some (.int .i64 en) ∧ w.cell? ⟨mb, 5, none⟩ = some (.int .i64 vl) ∧ w.cell? ⟨mb, 6, none⟩ = some ov ∧ w.cell? ⟨mb, 7, none⟩ = some (.int .i64 st) := cells5_8 h
theorem MB.ext {w w' : World} {mb : Nat} {vd vf lz ov : Value} {fuel en vl st : Int} (h : MB w mb vd vf lz ov fuel en vl st) (hx : Ext w w') : MB w' mb vd vf lz ov fuel en vl st := (hx.block _ (heap_lt h)).trans h

set_option maxHeartbeats 2000000 in
set_option maxRecDepth 100000 in
theorem argTypes_any (P : Pg) (w0 w : World) (mb : Nat) (vd vf lz ov : Value) (fuel en vl st : Int) (t : Tm) (va vc : Value) (co : Bool) (hx : Ext w0 w) (hd : RDecls w0 vd P.decls) (hm : MB w mb vd vf lz ov fuel en vl st) (ht : RTx w0 t va vc) (hty : isDeclB P t.ty co = true) (hn : isIdxB t.n (declAt P t.ty).xtors.length = true) (hl : (xtorAt P t.ty t.n).args.length ≤ 1000) :
    Calls Tryz.prog 203 #[.pointer (some ⟨mb, 0, none⟩), tV t va vc] w fun e w' => (∃ v, e = .returned v ∧ OwnL w' w.heap.size v (prodL (xtorAt P t.ty t.n))) ∧ Ext w w' := by
  obtain ⟨u, d, hu, hdu, hda, -⟩ := decl_in5 hty
  obtain ⟨m, hm1, hm2⟩ := idx_in5 hn
  rw [hda] at hm2
  obtain ⟨Ad, cd, rfl, hcd, hmd⟩ := hd.form
  obtain ⟨⟨Aa, ca, rfl, -, -⟩, ⟨Ab, cb, rfl, -, -⟩⟩ := ht.form
  have hul : u < P.decls.length := (List.getElem?_eq_some_iff.1 hdu).1
  obtain ⟨bd, od, vx, rfl, -, -, -, d2, hxs, -⟩ := hd.at_ hul
  have hdd : P.decls[u] = d := (List.getElem?_eq_some_iff.1 hdu).2
  rw [hdd] at hxs
  obtain ⟨Ax, cx, rfl, hcx, hmx⟩ := hxs.form
  obtain ⟨bx', ox, va', rfl, -, x0, x1, hra, -⟩ := hxs.at_ hm2
  have hxa : xtorAt P t.ty t.n = d.xtors[m] := by unfold xtorAt; rw [hda, hm1, List.getD_eq_getElem?_getD, show ((m : Int)).toNat = m by omega, List.getElem?_eq_getElem hm2]; rfl
  rw [hxa] at hl ⊢
  generalize d.xtors[m] = x at *
  obtain ⟨Ar, cr, rfl, hcr, hmr⟩ := hra.form
  have hu2 : t.ty = (u : Int) + 1 := by rw [hu]; simp
  unfold tV
  rw [hu2, hm1]
  have HE := Lib.hid (Ext.al w (.cells #[.int .i64 t.op, .int .i64 (m : Int), .string t.nm, .int .i64 ((u : Int) + 1), .slice Aa t.args.length ca, .slice Ab t.cls.length cb] 50))
  obtain ⟨c0, c1, c2, c3, c4, c5⟩ := cells6 (heapNew w (.cells #[.int .i64 t.op, .int .i64 (m : Int), .string t.nm, .int .i64 ((u : Int) + 1), .slice Aa t.args.length ca, .slice Ab t.cls.length cb] 50))
  have HX := Lib.hid (hx.tr HE.out)
  obtain ⟨m0, -⟩ := (hm.ext HE.out).cells
  have d2 := HX.out.keep d2
  have x0 := HX.out.keep x0
  have x1 := HX.out.keep x1
  have HR := Lib.hid (hra.below hx)
  unfold maxLen at hmd hmx
  have hw1 : IntKind.wrap .i64 (u : Int) = (u : Int) := IntWalk.i64_in _ (by omega)
  have hul2 : (u : Int) < P.decls.length := by omega
  have hml2 : (m : Int) < d.xtors.length := by omega
  clear hx hd hm ht hty hn hxa hdu hdd hda hxs hra hu hu2 hm1
  go_enter Tryz.func203, Tryz.ntmps203
  go_wp2
  generalize w.alloc _ = w1 at *
  go_still_tail 15, (by kernel_rfl)
  go_wp2_with fail
  (with_reducible refine (prog_prods_any x.name _ x.args _ ((HR.out.below HE.out).below (Ext.rf _).drew) hl).mono ?_)
  rintro e w4 ⟨⟨v, rfl, ho⟩, hb⟩
  have HO4 := Lib.hid ho
  have HX4 : Hid (Ext w1 w4) := Ext.tr (b := w1.drew) (Ext.rf w1).drew hb
  obtain ⟨Av, cv, rfl⟩ := own_shapeL ho
  clear ho hb
  go_wp2
  go_ret
  exact ⟨⟨_, rfl, own_base HO4.out HE.out.size⟩, HE.out.tr HX4.out⟩
end Go.Proofs.YtkdglplfcpindaaGreatDoor

/- machine.go: body. -/
namespace Go.Proofs.YtkdglplfcpindaaGreatDoor
open Go.RowKit

theorem RPrms.small {w : World} {v : Value} {l : List Prm} (h : RPrms w v l) : ∀ s ∈ l.map Prm.nm, s.size ≤ maxLen := by
  obtain ⟨A, c, -, -, -, h3⟩ := h
  intro s hs
  obtain ⟨a, ha, rfl⟩ := List.mem_map.1 hs
  obtain ⟨i, hi⟩ := List.mem_iff_getElem?.1 ha
  obtain ⟨b, o, -, -, -, -, h4⟩ := h3 i a hi
  exact h4
set_option maxHeartbeats 4000000 in
set_option maxRecDepth 100000 in
theorem body_any (P : Pg) (w0 w : World) (bad : Nat → Prop) (mb : Nat) (f : Fn) (vp xa xc v2 kv mv : Value) (args : List It) (k : Kt) (hx : Ext w0 w) (hf : FnAt w0 f vp xa xc) (h2 : D5 P w0 w bad mb (.is v2 args)) (h4 : D5 P w0 w bad mb (.k kv k)) (hlen : f.ps.length ≤ args.length) (hl : f.ps.length ≤ 1000) (hB : NB bad w) :
    Calls Tryz.prog 42 #[.pointer (some ⟨mb, 0, none⟩), fV f vp xa xc, v2, kv] w fun e w' => (∃ v, e = .returned v ∧ RTk P w0 w' bad mb (bodyS f args k) v) ∧ Ext w w' := by
  obtain ⟨hnm, hps, hbody⟩ := hf
  have HR := Lib.hid (hps.below hx)
  have HSM := Lib.hid hps.small
  have HBO := Lib.hid hbody
  have H2 := Lib.hid h2
  have H4 := Lib.hid h4
  have HB := Lib.hid hB
  obtain ⟨A, c, rfl, hc, hm⟩ := hps.form
  obtain ⟨A2, c2, rfl, hc2, hm2⟩ := h2.is_form
  obtain ⟨tk, uk, rfl⟩ := h4.k_form
  obtain ⟨⟨Aa, ca, rfl, -, -⟩, ⟨Ab, cb, rfl, -, -⟩⟩ := hbody.form
  clear hps hbody h2 h4 hnm hx hB
  unfold maxLen at hm
  obtain ⟨bxs, hbxs⟩ : ∃ o : Obj, o = .cells #[.string f.nm, .slice A f.ps.length c, .int .i64 f.res, .int .i64 f.body.op, .int .i64 f.body.n, .string f.body.nm, .int .i64 f.body.ty, .slice Aa f.body.args.length ca, .slice Ab f.body.cls.length cb] 52 := ⟨_, rfl⟩
  have HE0 := Lib.hid (Ext.al w bxs)
  have hb0 := heapNew w bxs
  have hz : (w.alloc bxs).heap.size = w.heap.size + 1 := World.size_alloc ..
  have hmk := make_strs (w.alloc bxs) f.ps.length (by omega)
  rw [hz] at hmk
  have HN : Hid (SBlk _ _ (List.replicate f.ps.length (⟨#[]⟩ : Str))) := SBlk.new (w.alloc bxs) _
  rw [hz] at HN
  have HE1 := Lib.hid (Ext.al (w.alloc bxs) (.cells (((List.replicate f.ps.length (⟨#[]⟩ : Str)).map Value.string).toArray) 9))
  have HZ : Hid (upS (f.ps.map Prm.nm) 0 = List.replicate f.ps.length (⟨#[]⟩ : Str)) := by show _ = _; rw [upS_zero, List.length_map]
  generalize List.replicate f.ps.length (⟨#[]⟩ : Str) = S0 at *
  have hb1 := (HE1.out.block _ (heap_lt hb0)).trans hb0
  have HBX := Lib.hid hb1
  subst hbxs
  obtain ⟨c0, c1, c2', c3, c4, c5, c6, c7, c8⟩ := cells5_9 hb0
  clear hb0 hb1 hz c0 c2' c3 c4 c5 c6 c7 c8
  go_enter Tryz.func42, Tryz.ntmps42
  go_wp2
  clear hmk c1
  generalize World.alloc (World.alloc w _) _ = w1 at *
  have HE := Lib.hid (HE0.out.tr HE1.out)
  go_loopw [19] (fun i wr => ∃ j : Nat, j ≤ f.ps.length ∧ i = .int .i64 j ∧ SBlk wr (w.heap.size + 1) (upS (f.ps.map Prm.nm) j) ∧ wr.heap[w.heap.size]? = some (.cells #[.string f.nm, .slice A f.ps.length c, .int .i64 f.res, .int .i64 f.body.op, .int .i64 f.body.n, .string f.body.nm, .int .i64 f.body.ty, .slice Aa f.body.args.length ca, .slice Ab f.body.cls.length cb] 52 (0, 0)) ∧ Ext w wr) (fun i _ => f.ps.length - (intOf i).toNat)
  case atStart => exact ⟨0, Nat.zero_le _, rfl, by rw [HZ.out]; exact HN.out, HBX.out, HE.out⟩
  case round =>
    obtain ⟨j, hj, rfl, hB, hbx, hE⟩ := hrel
    have HBk := Lib.hid hB
    have HEk := Lib.hid hE
    have HBX2 := Lib.hid hbx
    clear hB hE hbx
    by_cases hlt : j < f.ps.length
    · obtain ⟨b, o, rfl, hbl, y0, y1, y2⟩ := HR.out.at_ hlt
      have y0 := HEk.out.keep y0
      have y1 := HEk.out.keep y1
      clear y2
      have HS : Hid ((upS (f.ps.map Prm.nm) j).set j f.ps[j].nm = upS (f.ps.map Prm.nm) (j + 1)) := by
        have := upS_step (l := f.ps.map Prm.nm) (k := j) (by simpa using hlt)
        rw [List.getElem_map] at this; exact this
      have HL : Hid (j < (upS (f.ps.map Prm.nm) j).length) := by show j < _; rw [upS_length (by simpa using hj), List.length_map]; exact hlt
      generalize f.ps[j] = g at *
      generalize hS : upS (f.ps.map Prm.nm) j = S at *
      clear hS
      have hne := HBk.out.lt
      have hE2 := Ext.al wr (Obj.cells #[.string g.nm, .int .i64 g.ty] 69)
      have n0 := newCell wr #[.string g.nm, .int .i64 g.ty] 69 0 rfl
      have HB2 := Lib.hid (HBk.out.ext hE2)
      have hcell := HB2.out.cell HL.out
      have hfz := HB2.out.frozen j
      have HE2 := Lib.hid (HEk.out.tr hE2)
      clear hE2
      go_wp2
      go_roundw
      case rel => exact ⟨j + 1, by omega, by go_num, by rw [← HS.out]; exact (HBk.out.set j _).ext (Ext.al _ _), ((Ext.al _ _).block _ (heap_lt (set5_other HBX2.out (by omega) j _))).trans (set5_other HBX2.out (by omega) j _), Ext.tr (Below.setCell HEk.out (p := ⟨w.heap.size + 1, j, none⟩) (Nat.le_succ _) _) (Ext.al _ _)⟩
      case measure => simp [intOf]; omega
    · have HK : Hid (SBlk wr (w.heap.size + 1) (f.ps.map Prm.nm)) := by
        have := HBk.out
        have hjl : j = (f.ps.map Prm.nm).length := by rw [List.length_map]; omega
        rw [hjl, upS_end] at this
        exact this
      have HRS : Hid (RStrs wr (.slice (some ⟨w.heap.size + 1, 0, none⟩) f.ps.length f.ps.length) (f.ps.map Prm.nm)) := by
        have := HK.out.reads (by unfold maxLen; simp; omega) HSM.out
        rw [List.length_map] at this
        exact this
      obtain ⟨c0, c1, c2', c3, c4, c5, c6, c7, c8⟩ := cells5_9 HBX2.out
      go_wp2
      go_region_with (go_at_call 71; (with_reducible refine (ebind_any P w0 _ bad mb (f.ps.map Prm.nm) args [] [] _ _ _ _ .vnil .lnil (HRS.out.below (Ext.rf _).drew) ((H2.out.ext HEk.out).ext (Ext.rf _).drew) (by rw [List.length_map]; exact hlen) ((HB.out.ext HEk.out).ext (Ext.rf _).drew)).mono ?_); rintro e w4 ⟨⟨a, rfl, hr⟩, hb⟩; obtain ⟨pa, rfl⟩ := hr.vs_form; have HX4 : Hid (Ext wr w4) := Ext.tr (b := wr.drew) (Ext.rf wr).drew hb; have HR4 := Lib.hid hr; have HB4 := Lib.hid ((HX4.out.block _ (heap_lt HBX2.out)).trans HBX2.out); clear hr hb c0 c1 c2' c3 c4 c5 c6 c7 c8; obtain ⟨c0, c1, c2', c3, c4, c5, c6, c7, c8⟩ := cells5_9 HB4.out)
      all_goals
        go_wp2
        go_ret
        exact ⟨⟨_, rfl, _, _, _, _, _, rfl, HBO.out, HR4.out, .lnil, (H4.out.ext HEk.out).ext HX4.out⟩, HEk.out.tr HX4.out⟩
end Go.Proofs.YtkdglplfcpindaaGreatDoor
