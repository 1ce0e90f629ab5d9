/- rules.go: whichever rule a node has. -/
import Derived.Test.YtkdglplfcpindaaGreatDoorQ27
namespace Go.Proofs.YtkdglplfcpindaaGreatDoor
open Go.RowKit

/-- Sizes of a valid program. -/
structure PB (P : Pg) : Prop where
  dl : P.decls.length ≤ 1000000
  fl : P.funs.length ≤ 1000000
  xl : ∀ (u : Nat) (d : Decl), P.decls[u]? = some d → d.xtors.length ≤ 1000000 ∧ 1 ≤ d.xtors.length
theorem decl_in {P : Pg} {ty : Int} {co : Bool} (h : isDeclB P ty co = true) : ∃ u d, ty = ((u + 1 : Nat) : Int) ∧ P.decls[u]? = some d ∧ declAt P ty = d ∧ d.codata = co := by
  have h2 := isDecl_ok h
  obtain ⟨u, rfl⟩ : ∃ u : Nat, ty = (u : Int) + 1 := ⟨(ty - 1).toNat, by omega⟩
  have hu : u < P.decls.length := by omega
  rw [isDeclB_in hu] at h
  refine ⟨u, P.decls[u], by omega, List.getElem?_eq_getElem hu, ?_, by simpa using h⟩
  unfold declAt
  rw [show ((u : Int) + 1 - 1).toNat = u by omega, List.getD_eq_getElem?_getD, List.getElem?_eq_getElem hu]; rfl
theorem idx_in {n : Int} {m : Nat} (h : isIdxB n m = true) : ∃ k : Nat, n = k ∧ k < m := by
  unfold isIdxB at h
  simp only [Bool.and_eq_true, decide_eq_true_eq] at h
  exact ⟨n.toNat, by omega, by omega⟩
theorem hasF_len {t : Tm} {a b c : Bool} {na nc : Int} (h : hasF t a b c na nc = true) : (t.args.length : Int) = na ∧ (t.cls.length : Int) = nc := by
  unfold hasF at h
  simp only [Bool.and_eq_true, decide_eq_true_eq] at h
  exact ⟨h.1.2, h.2⟩
theorem two_int {ps : List Int} {n : Nat} (h : ps.length = n + 2) : ∃ a b l, ps = a :: b :: l ∧ l.length = n := by
  match ps, h with
  | a :: b :: l, h => exact ⟨a, b, l, rfl, by simpa using h⟩
theorem one_int {ps : List Int} {n : Nat} (h : ps.length = n + 1) : ∃ a l, ps = a :: l ∧ l.length = n := by
  match ps, h with
  | a :: l, h => exact ⟨a, l, rfl, by simpa using h⟩
theorem res_codata {d : Decl} (h : d.codata = true) (ty : Int) : ∀ l : List Xtor, (l.map (sgX d ty)).map Sg.res = l.map lastT
  | [] => rfl
  | x :: r => by
    rw [List.map_cons, List.map_cons, List.map_cons, res_codata h ty r]
    unfold sgX; rw [if_pos h]
theorem fits_op {P : Pg} {t : Tm} (h : fitsT P t = true) : ∃ o : Nat, t.op = o ∧ o ≤ 12 := by
  by_cases h0 : 0 ≤ t.op ∧ t.op ≤ 12
  · exact ⟨t.op.toNat, by omega, by omega⟩
  · exfalso
    unfold fitsT at h
    rw [if_neg (by omega), if_neg (by omega), if_neg (by omega), if_neg (by omega), if_neg (by omega), if_neg (by omega), if_neg (by omega), if_neg (by omega), if_neg (by omega), if_neg (by omega), if_neg (by omega), if_neg (by omega)] at h
    cases h
def ruleN : Nat → Nat
  | 0 => 88
  | 1 => 89
  | 2 => 90
  | 3 => 91
  | 4 => 92
  | 5 => 93
  | 6 => 92
  | 7 => 94
  | 8 => 95
  | 9 => 96
  | 10 => 97
  | 11 => 98
  | _ => 99
theorem Agree.ok {c : Bool} {y : Int} : Agree (okR c y) y c := agree_ok
theorem Agree.ok0 {c : Bool} {y z : Int} (h : c = true → z = y) : Agree (okR c y) z c := by
  unfold okR Agree; cases c
  · simp
  · simp [h rfl]

set_option maxHeartbeats 2000000 in
theorem rule_any (gc : Nat) (P : Pg) (V L : Env) (pv pl : Value) (k : Nat) (t : Tm) (ux uc vp : Value) (ps : List Int) (w : World) (hV : RB w V pv) (hL : RB w L pl) (ht : RT w k t ux uc) (hk : RCk w gc P) (hp : RInts w vp ps)
    (hf : fitsT P t = true) (hB : PB P) (hlen : ps.length = t.args.length + t.cls.length) (o : Nat) (ho : t.op = o) (ho2 : o ≤ 12) :
    ∃ y b, Agree (ruleS P V L t.op t.n t.nm t.ty ps) y b ∧ ∀ w', Ext w w' → Calls Tryz.prog (ruleN o) #[.pointer (some ⟨gc, 0, none⟩), scV pv pl, tV t ux uc, vp] w' fun e w'' => e = .returned (.tuple #[.int .i64 y, .bool b]) ∧ Ext w' w'' := by
  unfold fitsT at hf
  unfold ruleS
  rw [ho] at hf ⊢
  match o, ho2 with
  | 0, _ =>
    cases hq : findE V t.nm with
    | none =>
      refine ⟨0, false, by simp [Agree], fun w' hx => ?_⟩
      have := r_variable (.pointer (some ⟨gc, 0, none⟩)) V L pv pl k t ux uc vp ps w' (hV.below hx) (hL.below hx) (ht.below hx)
      rw [hq] at this; exact this
    | some y =>
      refine ⟨y, true, by simp [Agree], fun w' hx => ?_⟩
      have := r_variable (.pointer (some ⟨gc, 0, none⟩)) V L pv pl k t ux uc vp ps w' (hV.below hx) (hL.below hx) (ht.below hx)
      rw [hq] at this; exact this
  | 1, _ => exact ⟨0, true, by simp [Agree], fun w' hx => r_integer _ V L pv pl k t ux uc vp ps w' (hV.below hx) (hL.below hx) (ht.below hx)⟩
  | 2, _ =>
    simp at hf
    obtain ⟨h1, h2⟩ := hasF_len hf.1.1
    obtain ⟨a, b, l, rfl, hl⟩ := two_int (n := 0) (ps := ps) (by omega)
    refine ⟨0, _, ?_, fun w' hx => r_primitive _ V L pv pl k t ux uc vp a b l w' (hV.below hx) (hL.below hx) (ht.below hx) (hp.below hx)⟩
    simp [agree_ok]
  | 3, _ =>
    simp at hf
    obtain ⟨h1, h2⟩ := hasF_len hf
    obtain ⟨a, b, l, rfl, hl⟩ := two_int (n := 1) (ps := ps) (by omega)
    obtain ⟨c, l, rfl, hl⟩ := one_int (n := 0) hl
    refine ⟨b, _, ?_, fun w' hx => r_zero _ V L pv pl k t ux uc vp a b c l w' (hV.below hx) (hL.below hx) (ht.below hx) (hp.below hx)⟩
    simp [agree_ok]
  | 4, _ =>
    simp at hf
    obtain ⟨u, d, hty, hd, hda, hco⟩ := decl_in hf.1
    have hx1 := hf.2
    unfold fitsXB at hx1
    rw [hda] at hx1
    simp only [Bool.and_eq_true] at hx1
    obtain ⟨m, hn, hm⟩ := idx_in hx1.1
    obtain ⟨x, hxm⟩ : ∃ x, d.xtors[m]? = some x := ⟨_, List.getElem?_eq_getElem hm⟩
    refine ⟨(sgX d (u + 1) x).res, eqL ps (sgX d (u + 1) x).args, ?_, fun w' hx => r_xtor _ V L pv pl k t ux uc vp gc P u m d x ps w' (hV.below hx) (hL.below hx) (ht.below hx) rfl (hk.below hx) hn hty hd hxm hB.dl (hB.xl u d hd).1 (hp.below hx)⟩
    have e1 : xtorAt P t.ty t.n = x := by
      unfold xtorAt; rw [hda, hn, Int.toNat_natCast, List.getD_eq_getElem?_getD, hxm]; rfl
    have e2 : sgX d (u + 1) x = ⟨prodL x, t.ty⟩ := by unfold sgX; rw [if_neg (by rw [hco]; simp), hty]; rfl
    simp [e1, e2, agree_ok]
  | 5, _ =>
    simp at hf
    obtain ⟨u, d, hty, hd, hda, hco⟩ := decl_in hf.1
    have hx1 := hf.2
    unfold fitsCB at hx1
    rw [hda] at hx1
    simp only [Bool.and_eq_true] at hx1
    obtain ⟨h1, h2⟩ := hasF_len hx1.1
    have hx2 := hB.xl u d hd
    obtain ⟨a, b, l, rfl, hl⟩ := two_int (n := d.xtors.length - 1) (ps := ps) (by omega)
    refine ⟨_, _, ?_, fun w' hx => r_analysis _ V L pv pl k t ux uc vp a b l w' (hV.below hx) (hL.below hx) (ht.below hx) (hp.below hx) (by omega)⟩
    simp
    refine Agree.ok0 fun h => ?_
    simp at h
    rw [if_pos (by simpa using h.1)]
  | 6, _ =>
    simp at hf
    obtain ⟨u, d, hty, hd, hda, hco⟩ := decl_in hf.1
    have hx1 := hf.2
    unfold fitsXB at hx1
    rw [hda] at hx1
    simp only [Bool.and_eq_true] at hx1
    obtain ⟨m, hn, hm⟩ := idx_in hx1.1
    obtain ⟨x, hxm⟩ : ∃ x, d.xtors[m]? = some x := ⟨_, List.getElem?_eq_getElem hm⟩
    refine ⟨(sgX d (u + 1) x).res, eqL ps (sgX d (u + 1) x).args, ?_, fun w' hx => r_xtor _ V L pv pl k t ux uc vp gc P u m d x ps w' (hV.below hx) (hL.below hx) (ht.below hx) rfl (hk.below hx) hn hty hd hxm hB.dl (hB.xl u d hd).1 (hp.below hx)⟩
    have e1 : xtorAt P t.ty t.n = x := by
      unfold xtorAt; rw [hda, hn, Int.toNat_natCast, List.getD_eq_getElem?_getD, hxm]; rfl
    have e2 : sgX d (u + 1) x = ⟨prodL x ++ [t.ty], lastT x⟩ := by unfold sgX; rw [if_pos hco, hty]; rfl
    simp [e1, e2, agree_ok]
  | 7, _ =>
    simp at hf
    obtain ⟨u, d, hty, hd, hda, hco⟩ := decl_in hf.1
    have hx1 := hf.2
    unfold fitsCB at hx1
    rw [hda] at hx1
    simp only [Bool.and_eq_true] at hx1
    obtain ⟨h1, h2⟩ := hasF_len hx1.1
    refine ⟨_, _, ?_, fun w' hx => r_object _ V L pv pl k t ux uc vp gc P u d ps w' (hV.below hx) (hL.below hx) (ht.below hx) rfl (hk.below hx) hty hd hB.dl (hB.xl u d hd).1 (by omega) (hp.below hx)⟩
    rw [res_codata hco, hda]
    simp
    exact Agree.ok0 fun h => by rw [if_pos h]
  | 8, _ =>
    simp at hf
    obtain ⟨h1, h2⟩ := hasF_len hf.1
    obtain ⟨a, b, l, rfl, hl⟩ := two_int (n := 0) (ps := ps) (by omega)
    refine ⟨b, _, ?_, fun w' hx => r_let _ V L pv pl k t ux uc vp a b l w' (hV.below hx) (hL.below hx) (ht.below hx) (hp.below hx)⟩
    simp [agree_ok]
  | 9, _ =>
    simp at hf
    obtain ⟨m, hn, hm⟩ := idx_in hf.1
    obtain ⟨f, hxm⟩ : ∃ f, P.funs[m]? = some f := ⟨_, List.getElem?_eq_getElem hm⟩
    refine ⟨f.res, eqL ps (f.ps.map Prm.ty), ?_, fun w' hx => r_call _ V L pv pl k t ux uc vp gc P m f ps w' (hV.below hx) (hL.below hx) (ht.below hx) rfl (hk.below hx) hn hxm hB.fl (hp.below hx)⟩
    have e1 : fnAt P t.n = f := by
      unfold fnAt; rw [hn, Int.toNat_natCast, List.getD_eq_getElem?_getD, hxm]; rfl
    simp [e1, agree_ok]
  | 10, _ =>
    simp at hf
    obtain ⟨h1, h2⟩ := hasF_len hf
    obtain ⟨a, b, l, rfl, hl⟩ := two_int (n := 0) (ps := ps) (by omega)
    refine ⟨b, _, ?_, fun w' hx => r_emit _ V L pv pl k t ux uc vp a b l w' (hV.below hx) (hL.below hx) (ht.below hx) (hp.below hx)⟩
    simp [agree_ok]
  | 11, _ =>
    simp at hf
    obtain ⟨h1, h2⟩ := hasF_len hf.1
    obtain ⟨a, l, rfl, hl⟩ := one_int (n := 0) (ps := ps) (by omega)
    refine ⟨t.ty, _, ?_, fun w' hx => r_label _ V L pv pl k t ux uc vp a l w' (hV.below hx) (hL.below hx) (ht.below hx) (hp.below hx)⟩
    simp [agree_ok]
  | 12, _ =>
    simp at hf
    obtain ⟨h1, h2⟩ := hasF_len hf.1
    obtain ⟨a, l, rfl, hl⟩ := one_int (n := 0) (ps := ps) (by omega)
    refine ⟨t.ty, _, ?_, fun w' hx => r_jump _ V L pv pl k t ux uc vp a l w' (hV.below hx) (hL.below hx) (ht.below hx) (hp.below hx)⟩
    cases hq : findE L t.nm with
    | none => simp [jmpV, Agree]
    | some y => simp [jmpV, agree_ok]
end Go.Proofs.YtkdglplfcpindaaGreatDoor

/- visit.go: child, of any position. -/
namespace Go.Proofs.YtkdglplfcpindaaGreatDoor
open Go.RowKit

theorem clsB_nth : ∀ (cls : List (List Str × Tm)) (xs : List Xtor) (n : Nat) (c : List Str × Tm), clsB xs cls = true → cls[n]? = some c → (c.1.length : Int) = prodI (xs.getD n noXtor)
  | [], _, _, _, _, h => by simp at h
  | c :: r, xs, 0, c', h, hc => by
    simp at hc; subst hc
    simp only [clsB, Bool.and_eq_true, decide_eq_true_eq] at h
    rw [h.1]; cases xs <;> rfl
  | c :: r, xs, n + 1, c', h, hc => by
    simp only [clsB, Bool.and_eq_true, decide_eq_true_eq] at h
    rw [List.getElem?_cons_succ] at hc
    rw [clsB_nth r xs.tail n c' h.2 hc]
    cases xs <;> simp
theorem fits_clause {P : Pg} {t : Tm} (hf : fitsT P t = true) {n : Nat} {c : List Str × Tm} (hc : t.cls[n]? = some c) :
    ∃ u d x, t.ty = ((u + 1 : Nat) : Int) ∧ P.decls[u]? = some d ∧ declAt P t.ty = d ∧ d.xtors[n]? = some x ∧ c.1.length = (prodL x).length := by
  have hn : n < t.cls.length := (List.getElem?_eq_some_iff.1 hc).1
  have key : ∀ (co : Bool) (na : Int), isDeclB P t.ty co = true → fitsCB P t na = true → ∃ u d x, t.ty = ((u + 1 : Nat) : Int) ∧ P.decls[u]? = some d ∧ declAt P t.ty = d ∧ d.xtors[n]? = some x ∧ c.1.length = (prodL x).length := by
    intro co na h1 h2
    obtain ⟨u, d, hty, hd, hda, hco⟩ := decl_in h1
    unfold fitsCB at h2
    rw [hda] at h2
    simp only [Bool.and_eq_true] at h2
    have hl := (hasF_len h2.1).2
    have hnx : n < d.xtors.length := by omega
    refine ⟨u, d, d.xtors[n], hty, hd, hda, List.getElem?_eq_getElem hnx, ?_⟩
    have := clsB_nth _ _ n c h2.2 hc
    rw [List.getD_eq_getElem?_getD, List.getElem?_eq_getElem hnx] at this
    unfold prodI at this
    unfold prodL
    rw [List.length_map]
    have this : (c.1.length : Int) = ((List.filter (fun a => !a.co) (d.xtors[n]).args).length : Int) := this
    exact Int.ofNat.inj this
  obtain ⟨o, ho, ho2⟩ := fits_op hf
  unfold fitsT at hf
  rw [ho] at hf
  match o, ho2 with
  | 0, _ => simp at hf; have := (hasF_len hf).2; omega
  | 1, _ => simp at hf; have := (hasF_len hf).2; omega
  | 2, _ => simp at hf; have := (hasF_len hf.1.1).2; omega
  | 3, _ => simp at hf; have := (hasF_len hf).2; omega
  | 4, _ =>
    simp at hf
    have h := hf.2
    unfold fitsXB at h
    simp only [Bool.and_eq_true] at h
    have := (hasF_len h.2).2; omega
  | 5, _ => simp at hf; exact key _ _ hf.1 hf.2
  | 6, _ =>
    simp at hf
    have h := hf.2
    unfold fitsXB at h
    simp only [Bool.and_eq_true] at h
    have := (hasF_len h.2).2; omega
  | 7, _ => simp at hf; exact key _ _ hf.1 hf.2
  | 8, _ => simp at hf; have := (hasF_len hf.1).2; omega
  | 9, _ => simp at hf; have := (hasF_len hf.2).2; omega
  | 10, _ => simp at hf; have := (hasF_len hf).2; omega
  | 11, _ => simp at hf; have := (hasF_len hf.1).2; omega
  | 12, _ => simp at hf; have := (hasF_len hf.1).2; omega

theorem child_any (gc : Nat) (P : Pg) (V L : Env) (pv pl : Value) (k : Nat) (t : Tm) (ux uc : Value) (i : Nat) (w : World) (hV : RB w V pv) (hL : RB w L pl) (ht : RT w (k + 1) t ux uc) (hk : RCk w gc P) (hf : fitsT P t = true) (hB : PB P) (hlt : i < t.args.length + t.cls.length) (hsz : t.args.length + t.cls.length ≤ 1000000000) :
    Calls Tryz.prog 100 #[.pointer (some ⟨gc, 0, none⟩), scV pv pl, tV t ux uc, .int .i64 i] w fun e w' =>
      (∃ xa xc qv ql, e = .returned (.tuple #[tV (kidT t i) xa xc, scV qv ql]) ∧ RT w' k (kidT t i) xa xc ∧ RB w' (kidE P V L t i).1 qv ∧ RB w' (kidE P V L t i).2 ql) ∧ Ext w w' := by
  by_cases hi : i < t.args.length
  · exact childA_any gc P V L pv pl k t ux uc i w hV hL ht hk hi
  · obtain ⟨n, rfl⟩ : ∃ n, i = t.args.length + n := ⟨i - t.args.length, by omega⟩
    obtain ⟨cl, hcl⟩ : ∃ cl, t.cls[n]? = some cl := ⟨_, List.getElem?_eq_getElem (by omega)⟩
    obtain ⟨u, d, x, hty, hd, hda, hx, hcx⟩ := fits_clause hf hcl
    have h := childC_any gc P V L pv pl k t ux uc ((t.args.length + n : Nat) : Int) n cl u d x w hV hL ht hk rfl hcl hty hd hx hcx hB.dl (hB.xl u d hd).1 hsz
    have e1 : kidT t (t.args.length + n) = cl.2 := by
      unfold kidT; rw [if_neg hi, Nat.add_sub_cancel_left, List.getD_eq_getElem?_getD, hcl]; rfl
    have e2 : kidE P V L t (t.args.length + n) = (bindE cl.1 (prodL x) V, L) := by
      unfold kidE; rw [if_neg hi, Nat.add_sub_cancel_left, List.getD_eq_getElem?_getD, hcl, hda, List.getD_eq_getElem?_getD, hx]; rfl
    rw [e1, e2]
    exact h

/-! ### validity of the parts -/
def Vld (P : Pg) (t : Tm) : Prop := ∃ V L, validT P V L t = true
theorem Vld.fits {P : Pg} {t : Tm} (h : Vld P t) : fitsT P t = true := by
  obtain ⟨V, L, h⟩ := h
  rw [validT_kids] at h
  simp only [Bool.and_eq_true] at h
  exact h.1.1
theorem kid_mem {t : Tm} {i : Nat} (hi : i < t.args.length + t.cls.length) : ∃ x ∈ kids t, x.2 = kidT t i := by
  unfold kids kidT
  by_cases h : i < t.args.length
  · have hg := kidsFrom_get t.op t.nm t.args 0 i _ (List.getElem?_eq_getElem h)
    refine ⟨_, List.mem_append_left _ (List.mem_of_getElem? hg), ?_⟩
    rw [if_pos h, List.getD_eq_getElem?_getD, List.getElem?_eq_getElem h]; rfl
  · have hn : i - t.args.length < t.cls.length := by omega
    refine ⟨(((t.cls[i - t.args.length]).1, false), (t.cls[i - t.args.length]).2), List.mem_append_right _ (List.mem_map.2 ⟨_, List.getElem_mem hn, rfl⟩), ?_⟩
    rw [if_neg h, List.getD_eq_getElem?_getD, List.getElem?_eq_getElem hn]; rfl
theorem Vld.kid {P : Pg} {t : Tm} (h : Vld P t) {i : Nat} (hi : i < t.args.length + t.cls.length) : Vld P (kidT t i) := by
  obtain ⟨V, L, h⟩ := h
  rw [validT_kids] at h
  simp only [Bool.and_eq_true, List.all_eq_true] at h
  obtain ⟨x, hx, e⟩ := kid_mem hi
  have := h.2 x hx
  unfold validK at this
  simp only [Bool.and_eq_true] at this
  rw [← e]
  exact ⟨_, _, this.2⟩
end Go.Proofs.YtkdglplfcpindaaGreatDoor

/- visit.go: visit. -/
namespace Go.Proofs.YtkdglplfcpindaaGreatDoor
open Go.RowKit

/-- The checker with its rules. -/
structure RCkR (w : World) (g : Nat) (P : Pg) : Prop where
  base : RCk w g P
  rules : ∀ o : Nat, o ≤ 12 → w.cell? ⟨g, 2 + o, none⟩ = some (.func (.func (ruleN o)) #[.pointer (some ⟨g, 0, none⟩)] #[])
theorem RCkR.below {w w' : World} {g : Nat} {P : Pg} (h : RCkR w g P) (hb : Ext w w') : RCkR w' g P :=
  ⟨h.base.below hb, fun o ho => hb.keep (h.rules o ho)⟩
theorem enter_of {P : Program} {f : FuncId} {fn : Func} {args : Array Value} {w : World} (h : P.funcs[f]? = some fn) (hn : (fn.name == "runtime.NumGoroutine") = false) (hb : fn.body.isNone = false) : Sem.run P (callFunc f args) w = .ok (.enter f args) w := by
  have hn' : fn.name ≠ "runtime.NumGoroutine" := fun e => by rw [e] at hn; simp at hn
  have hb' : fn.body ≠ none := fun e => by rw [e] at hb; simp at hb
  simp [callFunc, go_sem, h, hn', hb']
set_option maxRecDepth 100000 in
theorem rule_enter (o : Nat) (h : o ≤ 12) (args : Array Value) (w : World) : Sem.run Tryz.prog (callFunc (ruleN o) args) w = .ok (.enter (ruleN o) args) w := by
  match o, h with
  | 0, _ => exact enter_of Tryz.func88 (by decide) rfl
  | 1, _ => exact enter_of Tryz.func89 (by decide) rfl
  | 2, _ => exact enter_of Tryz.func90 (by decide) rfl
  | 3, _ => exact enter_of Tryz.func91 (by decide) rfl
  | 4, _ => exact enter_of Tryz.func92 (by decide) rfl
  | 5, _ => exact enter_of Tryz.func93 (by decide) rfl
  | 6, _ => exact enter_of Tryz.func92 (by decide) rfl
  | 7, _ => exact enter_of Tryz.func94 (by decide) rfl
  | 8, _ => exact enter_of Tryz.func95 (by decide) rfl
  | 9, _ => exact enter_of Tryz.func96 (by decide) rfl
  | 10, _ => exact enter_of Tryz.func97 (by decide) rfl
  | 11, _ => exact enter_of Tryz.func98 (by decide) rfl
  | 12, _ => exact enter_of Tryz.func99 (by decide) rfl
theorem okR_nil {c : Bool} {y : Int} {p : List Int} (h : okR c y = .inl p) : p = [] := by
  unfold okR at h; cases c <;> simp at h; first | exact h | exact h.symm
theorem ruleS_nil {P : Pg} {V L : Env} {op n : Int} {nm : Str} {ty : Int} {ps p : List Int} (h : ruleS P V L op n nm ty ps = .inl p) : p = [] := by
  unfold ruleS at h
  by_cases h0 : op = 0
  · rw [if_pos h0] at h
    cases hq : findE V nm with
    | none => rw [hq] at h; exact (Sum.inl.inj h).symm
    | some y => rw [hq] at h; cases h
  rw [if_neg h0] at h
  by_cases h1 : op = 1
  · rw [if_pos h1] at h; cases h
  rw [if_neg h1] at h
  by_cases h2 : op = 2
  · rw [if_pos h2] at h; exact okR_nil h
  rw [if_neg h2] at h
  by_cases h3 : op = 3
  · rw [if_pos h3] at h; exact okR_nil h
  rw [if_neg h3] at h
  by_cases h4 : op = 4
  · rw [if_pos h4] at h; exact okR_nil h
  rw [if_neg h4] at h
  by_cases h5 : op = 5
  · rw [if_pos h5] at h; exact okR_nil h
  rw [if_neg h5] at h
  by_cases h6 : op = 6
  · rw [if_pos h6] at h; exact okR_nil h
  rw [if_neg h6] at h
  by_cases h7 : op = 7
  · rw [if_pos h7] at h; exact okR_nil h
  rw [if_neg h7] at h
  by_cases h8 : op = 8
  · rw [if_pos h8] at h; exact okR_nil h
  rw [if_neg h8] at h
  by_cases h9 : op = 9
  · rw [if_pos h9] at h; exact okR_nil h
  rw [if_neg h9] at h
  by_cases h10 : op = 10
  · rw [if_pos h10] at h; exact okR_nil h
  rw [if_neg h10] at h
  by_cases h11 : op = 11
  · rw [if_pos h11] at h; exact okR_nil h
  rw [if_neg h11] at h
  cases hq : findE L nm with
  | none => rw [hq] at h; exact (Sum.inl.inj h).symm
  | some y => rw [hq] at h; exact okR_nil h
def VisR (B : Nat) (w' : World) (k : Nat) (r : TyR) (e : Ending) : Prop := match r with
  | .inr y => e = .returned (.tuple #[.int .i64 y, .slice none 0 0, .bool true])
  | .inl p => p.length ≤ k ∧ ∃ y vp, e = .returned (.tuple #[.int .i64 y, vp, .bool false]) ∧ OwnL w' B vp p
theorem own_single {w : World} {B : Nat} (hB : B ≤ w.heap.size) (y : Int) : (w.alloc (.cells #[.int .i64 y] 3)).ownsRow B 3 1 (.slice (some ⟨w.heap.size, 0, none⟩) 1 1) ([y] : List Int).length (([y] : List Int).map (Value.int .i64)) :=
  ⟨rfl, .inr ⟨w.heap.size, 1, #[.int .i64 y], rfl, hB, heapNew w _, Nat.le_refl _, by decide, rfl, rfl⟩⟩
theorem RInts.src {w : World} {A : Option Addr} {c : Nat} {l : List Int} (h : RInts w (.slice A l.length c) l) : SrcN w A l.length 1 (l.map (Value.int .i64)) := by
  cases A with
  | none =>
    cases l with
    | nil => exact .inl ⟨rfl, rfl, rfl⟩
    | cons a r =>
      obtain ⟨_, _, hA, _⟩ := h.at_ (k := 0) (by simp)
      cases hA
  | some ad =>
    refine .inr ⟨ad, rfl, by simp, fun j u hu => ?_⟩
    rw [List.getElem?_map] at hu
    obtain ⟨s, hs, rfl⟩ := Option.map_eq_some_iff.1 hu
    obtain ⟨hlt, rfl⟩ := List.getElem?_eq_some_iff.1 hs
    obtain ⟨b, o, hA, _, c0⟩ := h.at_ hlt
    cases hA
    rw [add_at]; exact c0
theorem ints_one (l : List Int) : ∀ u ∈ l.map (Value.int .i64), u.oneCell' = true := by
  intro u hu
  obtain ⟨s, _, rfl⟩ := List.mem_map.1 hu
  rfl

set_option pp.deepTerms true in
set_option maxHeartbeats 8000000 in
set_option maxRecDepth 100000 in
theorem visit4_any (gc : Nat) (P : Pg) (hB : PB P) (hS : ∀ t, fitsT P t = true → t.args.length + t.cls.length ≤ 1000000) : ∀ (k : Nat) (V L : Env) (pv pl : Value) (t : Tm) (ux uc : Value) (w : World), k ≤ 1000000 → RB w V pv → RB w L pl → RT w k t ux uc → RCkR w gc P → Vld P t →
    Calls Tryz.prog 59 #[.pointer (some ⟨gc, 0, none⟩), scV pv pl, tV t ux uc] w fun e w' => VisR w.heap.size w' k (tyT P V L t) e ∧ Ext w w' := by
  intro k
  have HBP := Lib.hid hB; have HSP := Lib.hid hS
  clear hB hS
  have hmx : Tryz.prog.follows .mixedOrders = true := by kernel_rfl
  induction k with
  | zero => intro V L pv pl t ux uc w _ _ _ ht; exact ht.elim
  | succ k ih =>
    intro V L pv pl t ux uc w hkm hV hL ht hk hvd
    have HV := Lib.hid hV; have HL := Lib.hid hL; have HT := Lib.hid ht; have HCK := Lib.hid hk; have HVD := Lib.hid hvd; have HIH := Lib.hid ih
    obtain ⟨qv, rfl⟩ := hV.form
    obtain ⟨ql, rfl⟩ := hL.form
    obtain ⟨_, ⟨Aa, ca, rfl, hca, hma⟩, ⟨Bb, cb, rfl, hcb, hmb⟩⟩ := ht.form
    have hsz := HSP.out t hvd.fits
    clear hV hL ht hk hvd ih
    unfold maxLen at hma hmb
    have HE := Lib.hid (Ext.al2 w (.cells #[.pointer qv, .pointer ql] 134) (.cells #[.int .i64 t.op, .int .i64 t.n, .string t.nm, .int .i64 t.ty, .slice Aa t.args.length ca, .slice Bb t.cls.length cb] 50))
    obtain ⟨hb1, hb2⟩ := box_st w (.pointer qv) (.pointer ql) (.int .i64 t.op) (.int .i64 t.n) (.string t.nm) (.int .i64 t.ty) (.slice Aa t.args.length ca) (.slice Bb t.cls.length cb)
    have HB1 := Lib.hid hb1; have HB2 := Lib.hid hb2
    clear hb1 hb2
    have n4 := cellAt HB2.out 4
    have n5 := cellAt HB2.out 5
    obtain ⟨rT, hrT⟩ : ∃ r, tyT P V L t = r := ⟨_, rfl⟩
    have HRT : Hid (rT = match tyK P V L t 0 (t.args.length + t.cls.length) with | .inl p => .inl p | .inr ps => ruleS P V L t.op t.n t.nm t.ty ps) := hrT.symm.trans (tyT_kids P V L t)
    rw [hrT]
    clear hrT
    go_enter Tryz.func59, Tryz.ntmps59
    go_wp2
    generalize World.alloc (World.alloc w _) _ = w1 at *
    clear n4 n5
    go_loopw [9, 23] (fun s i wr => ∃ (j : Nat) (ps : List Int), j ≤ t.args.length + t.cls.length ∧ i = .int .i64 j ∧ tyK P V L t 0 j = .inr ps ∧ OwnL wr w1.heap.size s ps ∧ Ext w1 wr) (fun _ i _ => t.args.length + t.cls.length - (intOf i).toNat)
    case atStart => exact ⟨0, [], Nat.zero_le _, rfl, rfl, ⟨by simp, .inl ⟨rfl, by simp⟩⟩, Ext.rf _⟩
    case round =>
      obtain ⟨j, ps, hj, rfl, hty, ho, hb⟩ := hrel
      have HTY := Lib.hid hty; have HO := Lib.hid ho; have HX := Lib.hid hb; have HXW := Lib.hid (HE.out.tr hb)
      have HPL := Lib.hid (tyK_len _ _ _ _ _ _ _ hty)
      clear hty ho hb
      have b0 := HX.out.keep (cellAt HB1.out 0)
      have b1 := HX.out.keep (cellAt HB1.out 1)
      have n0 := HX.out.keep (cellAt HB2.out 0)
      have n1 := HX.out.keep (cellAt HB2.out 1)
      have n2 := HX.out.keep (cellAt HB2.out 2)
      have n3 := HX.out.keep (cellAt HB2.out 3)
      have n4 := HX.out.keep (cellAt HB2.out 4)
      have n5 := HX.out.keep (cellAt HB2.out 5)
      by_cases hlt : j < t.args.length + t.cls.length
      · go_wp2_with fail
        (with_reducible refine (child_any gc P V L _ _ k t _ _ j _ (HV.out.below HXW.out) (HL.out.below HXW.out) (HT.out.below HXW.out) (HCK.out.base.below HXW.out) HVD.out.fits HBP.out hlt (by omega)).mono ?_)
        rintro e w2 ⟨⟨xa, xc, qv2, ql2, rfl, ht2, hv2, hl2⟩, hb⟩
        have HT2 := Lib.hid ht2; have HV2 := Lib.hid hv2; have HL2 := Lib.hid hl2; have HX2 := Lib.hid hb; have HXW2 := Lib.hid (HXW.out.tr hb)
        obtain ⟨pv2, rfl⟩ := hv2.form
        obtain ⟨pl2, rfl⟩ := hl2.form
        obtain ⟨_, ⟨Ax, cx, rfl, -, -⟩, ⟨Bx, dx, rfl, -, -⟩⟩ := ht2.form
        have HVK := Lib.hid (HVD.out.kid hlt)
        have HST := Lib.hid (tyK_step P V L t 0 j)
        clear ht2 hv2 hl2 hb b0 b1 n0 n1 n2 n3 n4 n5
        generalize hx : kidT t j = x at *
        generalize hV2 : (kidE P V L t j).1 = V2 at *
        generalize hL2 : (kidE P V L t j).2 = L2 at *
        have HKT := Lib.hid hx; have HKV := Lib.hid hV2; have HKL := Lib.hid hL2
        clear hx hV2 hL2
        go_wp2_with fail
        have HE3 := Lib.hid (Ext.al2 w2 (Obj.cells #[.int .i64 x.op, .int .i64 x.n, .string x.nm, .int .i64 x.ty, .slice Ax x.args.length cx, .slice Bx x.cls.length dx] 50) (Obj.cells #[.pointer pv2, .pointer pl2] 134))
        (with_reducible refine (HIH.out V2 L2 (.pointer pv2) (.pointer pl2) x _ _ _ (by omega) (HV2.out.below HE3.out) (HL2.out.below HE3.out) (HT2.out.below HE3.out) (HCK.out.below (HXW2.out.tr HE3.out)) HVK.out).mono ?_)
        rintro e w4 ⟨hr, hb⟩
        have HX4 := Lib.hid (HE3.out.tr hb)
        have HXW4 := Lib.hid (HXW2.out.tr (HE3.out.tr hb))
        have HX14 := Lib.hid ((HX.out.tr HX2.out).tr (HE3.out.tr hb))
        have hbase : w.heap.size ≤ ((w2.alloc (Obj.cells #[.int .i64 x.op, .int .i64 x.n, .string x.nm, .int .i64 x.ty, .slice Ax x.args.length cx, .slice Bx x.cls.length dx] 50)).alloc (Obj.cells #[.pointer pv2, .pointer pl2] 134)).heap.size := (HXW2.out.tr HE3.out).size
        generalize ((w2.alloc (Obj.cells #[.int .i64 x.op, .int .i64 x.n, .string x.nm, .int .i64 x.ty, .slice Ax x.args.length cx, .slice Bx x.cls.length dx] 50)).alloc (Obj.cells #[.pointer pv2, .pointer pl2] 134)).heap.size = B3 at hr hbase
        clear hb
        obtain ⟨rx, hrx⟩ : ∃ r, tyT P V2 L2 x = r := ⟨_, rfl⟩
        have HRX := Lib.hid hrx
        rw [hrx] at hr
        clear hrx
        cases rx with
        | inr y =>
          have hr : e = .returned (.tuple #[.int .i64 y, .slice none 0 0, .bool true]) := hr
          subst hr
          have HO4 : Hid (OwnL (w4.alloc (.cells #[.int .i64 y] 3)) w1.heap.size u9 ps) := own_below (own_below HO.out (HX2.out.tr HX4.out)) (Ext.al _ _)
          have hso : SrcN (w4.alloc (.cells #[.int .i64 y] 3)) (some ⟨w4.heap.size, 0, none⟩) ([y] : List Int).length 1 (([y] : List Int).map (Value.int .i64)) := RInts.src (l := [y]) (c := 1) (own_ints (own_single (B := 0) (Nat.zero_le _) y))
          have HSO : Hid (SrcN (w4.alloc (.cells #[.int .i64 y] 3)) (some ⟨w4.heap.size, 0, none⟩) 1 1 [.int .i64 y]) := Lib.hid hso
          clear hso
          go_wp2_with (at_builtin; refine app_vals Tryz.u57 Tryz.info3 rfl (by decide) (by decide) rfl _ _ rfl w1.heap.size _ ps.length (ps.map (Value.int .i64)) rfl HO4.out (some ⟨w4.heap.size, 0, none⟩) 1 1 [.int .i64 y] rfl HSO.out (fun u hu => by rw [List.mem_singleton.1 hu]; rfl) (by have := HPL.out; omega) (Nat.le_trans HX14.out.size (Ext.al w4 _).size) ?_)
          intro v9 w9 ho9 hg9
          have HX9 : Hid (Ext w1 w9) := (HX14.out.tr (Ext.al _ _)).trans (grown_ext' hg9 HO4.out (Nat.le_trans HX14.out.size (Ext.al w4 _).size))
          have HO9 : Hid (OwnL w9 w1.heap.size v9 (ps ++ [y])) := by
            show World.ownsRow _ _ _ _ _ _ _
            rw [List.length_append, List.map_append]
            exact ho9
          have HTY9 : Hid (tyK P V L t 0 (j + 1) = .inr (ps ++ [y])) := by
            show _ = _
            rw [HST.out, HTY.out]
            simp only [Nat.zero_add]
            rw [HKT.out, HKV.out, HKL.out, HRX.out]
          clear ho9 hg9
          go_wp2
          exact ⟨⟨j + 1, ps ++ [y], by omega, by go_num, HTY9.out, HO9.out, HX9.out⟩, by simp [intOf]; omega⟩
        | inl p =>
          obtain ⟨hpl, y, vp, he, hown⟩ := hr
          subst he
          obtain ⟨A', c', hv⟩ := own_shapeL hown
          subst hv
          have hso : SrcN (w4.alloc (.cells #[.int .i64 j] 3)) A' p.length 1 (p.map (Value.int .i64)) := ((own_ints hown).below (Ext.al _ _)).src
          have HSO := Lib.hid hso
          clear hso
          have HPB := Lib.hid hpl
          have HSG := Lib.hid (own_single (w := w4) (B := w.heap.size) HXW4.out.size (j : Int))
          clear hown
          go_wp2_with (at_builtin; refine app_vals Tryz.u57 Tryz.info3 rfl (by decide) (by decide) rfl _ _ rfl w.heap.size _ ([(j : Int)] : List Int).length (([(j : Int)] : List Int).map (Value.int .i64)) rfl HSG.out A' p.length c' (p.map (Value.int .i64)) rfl HSO.out (ints_one p) (by simp; omega) (Nat.le_trans HXW4.out.size (Ext.al w4 _).size) ?_)
          intro v9 w9 ho9 hg9
          have HX9 : Hid (Ext w w9) := (HXW4.out.tr (Ext.al _ _)).trans (grown_ext' hg9 HSG.out (Nat.le_trans HXW4.out.size (Ext.al w4 _).size))
          have HO9 : Hid (OwnL w9 w.heap.size v9 ((j : Int) :: p)) := by
            show World.ownsRow _ _ _ _ _ _ _
            rw [List.length_cons, Nat.add_comm]
            exact ho9
          have hrt : rT = .inl ((j : Int) :: p) := by
            have h1 : tyK P V L t 0 (j + 1) = .inl ((j : Int) :: p) := by
              rw [HST.out, HTY.out]
              simp only [Nat.zero_add]
              rw [HKT.out, HKV.out, HKL.out, HRX.out]
            rw [HRT.out, tyK_bad P V L t (j + 1) (t.args.length + t.cls.length) 0 _ (by omega) h1]
          have HRTE := Lib.hid hrt
          clear ho9 hg9 hrt
          go_wp2
          go_ret3
          rw [HRTE.out]
          exact ⟨⟨by have := HPB.out; simp; omega, _, _, rfl, HO9.out⟩, HX9.out⟩
      · go_upto_region 11 with fail
        have hje : j = t.args.length + t.cls.length := by omega
        subst hje
        obtain ⟨o, hop, ho12⟩ := fits_op HVD.out.fits
        obtain ⟨A', c', hv⟩ := own_shapeL HO.out
        subst hv
        obtain ⟨y, b, hag, hcall⟩ := rule_any gc P V L (.pointer qv) (.pointer ql) (k + 1) t _ _ _ ps wr (HV.out.below HXW.out) (HL.out.below HXW.out) (HT.out.below HXW.out) (HCK.out.base.below HXW.out) (own_ints HO.out) HVD.out.fits HBP.out (HPL.out) o hop ho12
        have r0 := ExtOf.cell ((HCK.out.below HXW.out).rules o ho12)
        have HOP := Lib.hid hop
        rw [hop] at n0
        have b0 := ExtOf.cell b0
        have b1 := ExtOf.cell b1
        have n0 := ExtOf.cell n0
        have n1 := ExtOf.cell n1
        have n2 := ExtOf.cell n2
        have n3 := ExtOf.cell n3
        have n4 := ExtOf.cell n4
        have n5 := ExtOf.cell n5
        simp only [tV, hop] at hcall
        refine wp_region_ext (w0 := wr) hmx (by kernel_rfl) (Ext.rf _) ?_
        repeat (first | go_big_quiet_step ((rw [rule_enter o ho12]; exact ⟨rfl, Calls.ext_of (hcall _ (ExtOf.ext _))⟩)) | quiet_step ((rw [rule_enter o ho12]; exact ⟨rfl, Calls.ext_of (hcall _ (ExtOf.ext _))⟩)))
        refine wpQuiet_nil ?_
        rintro _ ⟨⟨w9, hx⟩, rfl⟩
        have HX9 := Lib.hid (HXW.out.tr hx)
        have hrt : rT = ruleS P V L t.op t.n t.nm t.ty ps := by rw [HRT.out, HTY.out]
        have HRTE := Lib.hid hrt
        have HAG := Lib.hid hag
        clear hx hcall r0 b0 b1 n0 n1 n2 n3 n4 n5 hrt hag
        go_wp2
        go_ret3
        have hag := HAG.out
        rw [← HRTE.out] at hag
        cases rT with
        | inr z =>
          obtain ⟨rfl, rfl⟩ := hag
          exact ⟨rfl, HX9.out⟩
        | inl p =>
          have hb : b = false := hag
          subst hb
          have hp : p = [] := by
            have := HRTE.out
            exact ruleS_nil this.symm
          subst hp
          exact ⟨⟨Nat.zero_le _, _, _, rfl, ⟨by simp, .inl ⟨rfl, by simp⟩⟩⟩, HX9.out⟩
end Go.Proofs.YtkdglplfcpindaaGreatDoor

/- scope.go: linked; rules.go: ofFun. -/
namespace Go.Proofs.YtkdglplfcpindaaGreatDoor
open Go.RowKit

def linkL (l : List Prm) : Env := l.foldl (fun E a => (a.nm, a.ty) :: E) []
theorem linkL_step {l : List Prm} {j : Nat} (h : j < l.length) : linkL (l.take (j + 1)) = ((l[j]).nm, (l[j]).ty) :: linkL (l.take j) := by
  unfold linkL
  rw [List.take_succ_eq_append_getElem h, List.foldl_append]; rfl

set_option maxHeartbeats 2000000 in
set_option maxRecDepth 100000 in
theorem linked_any (v : Value) (l : List Prm) (w : World) (h : RPrms w v l) :
    Calls Tryz.prog 60 #[v] w fun e w' => (∃ u, e = .returned u ∧ RB w' (linkL l) u) ∧ Ext w w' := by
  have H := Lib.hid h
  obtain ⟨A, c, rfl, hc, hm⟩ := h.form
  clear h
  unfold maxLen at hm
  go_enter Tryz.func60, Tryz.ntmps60
  go_wp2
  go_loopw [3, 8] (fun b i wr => ∃ j : Nat, j ≤ l.length ∧ i = .int .i64 j ∧ RB wr (linkL (l.take j)) b ∧ Ext w wr) (fun _ i _ => l.length - (intOf i).toNat)
  case atStart => exact ⟨0, Nat.zero_le _, rfl, rfl, Ext.rf _⟩
  case round =>
    obtain ⟨j, hj, rfl, hr, hb⟩ := hrel
    have HR := Lib.hid hr; have HX := Lib.hid hb
    obtain ⟨p, rfl⟩ := hr.form
    clear hr hb
    by_cases hlt : j < l.length
    · obtain ⟨b, o, rfl, hbl, y0, y1, -⟩ := H.out.at_ hlt
      have y0 := HX.out.keep y0
      have y1 := HX.out.keep y1
      have HLS := Lib.hid (linkL_step hlt)
      generalize l[j] = a at *
      have HE := Lib.hid (Ext.al wr (.cells #[.string a.nm, .int .i64 a.ty] 69))
      go_wp2_with fail
      (with_reducible refine (bwith_any (linkL (l.take j)) _ a.nm a.ty _ (HR.out.below HE.out)).mono ?_)
      rintro e w4 ⟨⟨u, rfl, hu⟩, hb⟩
      have HU : Hid (RB w4 (linkL (l.take (j + 1))) u) := by show RB _ _ _; rw [HLS.out]; exact hu
      have HX4 := Lib.hid ((HX.out.tr HE.out).tr hb)
      clear hu hb
      go_wp2
      exact ⟨⟨j + 1, by omega, by go_num, HU.out, HX4.out⟩, by simp [intOf]; omega⟩
    · have HU : Hid (RB wr (linkL l) (.pointer p)) := by
        have := HR.out
        rw [List.take_of_length_le (by omega)] at this
        exact this
      go_wp2
      go_ret
      exact ⟨⟨_, rfl, HU.out⟩, HX.out⟩

set_option maxHeartbeats 4000000 in
set_option maxRecDepth 100000 in
theorem ofFun_any (f : Fn) (vp xa xc : Value) (w : World) (h : RPrms w vp f.ps) (hl : f.ps.length ≤ 1000000) (hxa : ∃ A n c, xa = .slice A n c) (hxc : ∃ A n c, xc = .slice A n c) :
    Calls Tryz.prog 86 #[fV f vp xa xc] w fun e w' => (∃ v, e = .returned (.agg #[v, .int .i64 f.res]) ∧ OwnL w' w.heap.size v (f.ps.map Prm.ty)) ∧ Ext w w' := by
  have H := Lib.hid h
  obtain ⟨A, c, rfl, hc, hm⟩ := h.form
  obtain ⟨Aa, na, ca, rfl⟩ := hxa
  obtain ⟨Ab, nb, cb, rfl⟩ := hxc
  clear h
  unfold maxLen at hm
  have HE := Lib.hid (Ext.al2 w (.cells #[.string f.nm, .slice A f.ps.length c, .int .i64 f.res, .int .i64 f.body.op, .int .i64 f.body.n, .string f.body.nm, .int .i64 f.body.ty, .slice Aa na ca, .slice Ab nb cb] 52) (.cells #[.slice none 0 0, .int .i64 0] 181))
  have hb1 := heapNew w (.cells #[.string f.nm, .slice A f.ps.length c, .int .i64 f.res, .int .i64 f.body.op, .int .i64 f.body.n, .string f.body.nm, .int .i64 f.body.ty, .slice Aa na ca, .slice Ab nb cb] 52)
  have hb2 := heapNew (w.alloc (.cells #[.string f.nm, .slice A f.ps.length c, .int .i64 f.res, .int .i64 f.body.op, .int .i64 f.body.n, .string f.body.nm, .int .i64 f.body.ty, .slice Aa na ca, .slice Ab nb cb] 52)) (.cells #[.slice none 0 0, .int .i64 0] 181)
  rw [World.size_alloc] at hb2
  have hb1 := ((Ext.al (w.alloc (.cells #[.string f.nm, .slice A f.ps.length c, .int .i64 f.res, .int .i64 f.body.op, .int .i64 f.body.n, .string f.body.nm, .int .i64 f.body.ty, .slice Aa na ca, .slice Ab nb cb] 52)) (.cells #[.slice none 0 0, .int .i64 0] 181)).block _ (heap_lt hb1)).trans hb1
  have HB1 := Lib.hid hb1; have HB2 := Lib.hid hb2
  clear hb1 hb2
  go_enter Tryz.func86, Tryz.ntmps86
  go_upto_region 1 with fail
  generalize hw2 : World.alloc (World.alloc w _) _ = w2 at *
  have hs2 : w2.heap.size = w.heap.size + 1 + 1 := by rw [← hw2, World.size_alloc, World.size_alloc]
  clear hw2
  have HS2 := Lib.hid hs2
  clear hs2
  have n0 := cellAt HB1.out 0
  have n1 := cellAt HB1.out 1
  have n2 := cellAt HB1.out 2
  have n3 := cellAt HB1.out 3
  have n4 := cellAt HB1.out 4
  have n5 := cellAt HB1.out 5
  have n6 := cellAt HB1.out 6
  have n7 := cellAt HB1.out 7
  have n8 := cellAt HB1.out 8
  go_region_with (go_at_call 119; (with_reducible refine (hparams_any f _ _ _ _ (H.out.below HE.out.drew) (by omega) ⟨_, _, _, rfl⟩ ⟨_, _, _, rfl⟩).mono ?_); rintro e w4 ⟨⟨v, rfl, ho⟩, hb⟩; have HX4 : Hid (Ext w2 w4) := Ext.tr (b := w2.drew) (Ext.rf w2).drew hb; have ho : OwnL w4 w2.heap.size v (List.map Prm.ty f.ps) := ho; obtain ⟨Av, cv, rfl⟩ := own_shapeL ho; simp only [List.length_map] at ho; have HO4 : Hid (OwnL w4 w2.heap.size (.slice Av f.ps.length cv) (List.map Prm.ty f.ps)) := ho; have HB4 := Lib.hid ((HX4.out.block _ (heap_lt HB1.out)).trans HB1.out); have HR4 := Lib.hid ((HX4.out.block _ (heap_lt HB2.out)).trans HB2.out); clear ho hb n0 n1 n2 n3 n4 n5 n6 n7 n8; have n2 := cellAt HB4.out 2; have r0 := cellAt HR4.out 0; have r1 := cellAt HR4.out 1; have f0 := frozenAt HR4.out 0; have f1 := frozenAt HR4.out 1)
  all_goals
    clear n2 r0 r1 f0 f1
    have HR5 := Lib.hid (box2_bothB HR4.out (.slice Av f.ps.length cv) (.int .i64 f.res))
    have HV5 := Lib.hid (own_set (own_set HO4.out (r := w.heap.size + 1) (by have := HS2.out; omega) 0 (.slice Av f.ps.length cv)) (r := w.heap.size + 1) (by have := HS2.out; omega) 1 (.int .i64 f.res))
    have HX5 : Hid (Ext w _) := ((HE.out.tr HX4.out).setCell (p := ⟨w.heap.size + 1, 0, none⟩) (by show _ ≤ w.heap.size + 1; omega) (.slice Av f.ps.length cv)).setCell (p := ⟨w.heap.size + 1, 1, none⟩) (by show _ ≤ w.heap.size + 1; omega) (.int .i64 f.res)
    generalize World.setCell (World.setCell w4 _ _) _ _ = wz at *
    have r0 := cellAt HR5.out 0
    have r1 := cellAt HR5.out 1
    go_wp2
    exact bodyPost_ret (v := .agg #[.slice Av f.ps.length cv, .int .i64 f.res]) (by simp [results, Tryz.results86, go_sem, r0, r1]) rfl ⟨⟨_, rfl, own_base HV5.out (by have := HS2.out; omega)⟩, HX5.out⟩
end Go.Proofs.YtkdglplfcpindaaGreatDoor
