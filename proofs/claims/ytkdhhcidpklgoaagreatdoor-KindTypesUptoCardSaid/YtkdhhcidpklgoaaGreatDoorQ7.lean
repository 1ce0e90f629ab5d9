/- node: refers, of all operators. -/
import Derived.Test.YtkdhhcidpklgoaaGreatDoorQ6
namespace Go.Proofs.YtkdhhcidpklgoaaGreatDoor
open Go.RowKit

def ptrB : Value → Bool
  | .pointer (some _) => true
  | _ => false
set_option maxHeartbeats 4000000 in
set_option maxRecDepth 100000 in
theorem refers_0p (vd vf : Value) (C : Cg) (n ty : Int) (va vb ow fa fb by_ : Value) (w : World) (hC : RCg w vd vf C) (hn : ok64 n) (hty : ok64 ty) (htab : Tabs w) (pa : Addr) :
    Calls Tryz.prog 122 #[.agg #[vd, vf], fdV 0 n ty va vb (.pointer (some pa)) ow fa fb] w fun e w' => e = .returned (.bool (isNumB n && true)) ∧ Ext w w' := by
  have HD := Lib.hid hC.d
  have HTY := Lib.hid hty
  have HTAB := Lib.hid htab
  obtain ⟨A, c, rfl, -, -⟩ := hC.d.form
  obtain ⟨Af, cf, rfl, hcf, hmf⟩ := hC.f.form
  unfold maxLen at hmf
  clear hC hty hn htab
  have HE := Lib.hid (Ext.al2 w (.cells #[.slice A C.decls.length c, .slice Af C.funs.length cf] 171) (.cells #[.int .i64 0, .int .i64 n, .int .i64 ty, va, vb, (.pointer (some pa)), ow, fa, fb] 208))
  cases hq : isNumB n
  all_goals
    have HQ := Lib.hid hq
    clear hq
    go_enter Tryz.func122, Tryz.ntmps122
    go_wp2_with (go_at_call 133; (with_reducible refine (isNumber_any n _ HQ.out _).mono ?_); rintro e w2 ⟨rfl, rfl⟩)
    go_ret
    exact ⟨rfl, HE.out⟩
set_option maxHeartbeats 4000000 in
set_option maxRecDepth 100000 in
theorem refers_0n (vd vf : Value) (C : Cg) (n ty : Int) (va vb ow fa fb by_ : Value) (w : World) (hC : RCg w vd vf C) (hn : ok64 n) (hty : ok64 ty) (htab : Tabs w) :
    Calls Tryz.prog 122 #[.agg #[vd, vf], fdV 0 n ty va vb (.pointer none) ow fa fb] w fun e w' => e = .returned (.bool (isNumB n && false)) ∧ Ext w w' := by
  have HD := Lib.hid hC.d
  have HTY := Lib.hid hty
  have HTAB := Lib.hid htab
  obtain ⟨A, c, rfl, -, -⟩ := hC.d.form
  obtain ⟨Af, cf, rfl, hcf, hmf⟩ := hC.f.form
  unfold maxLen at hmf
  clear hC hty hn htab
  have HE := Lib.hid (Ext.al2 w (.cells #[.slice A C.decls.length c, .slice Af C.funs.length cf] 171) (.cells #[.int .i64 0, .int .i64 n, .int .i64 ty, va, vb, (.pointer none), ow, fa, fb] 208))
  cases hq : isNumB n
  all_goals
    have HQ := Lib.hid hq
    clear hq
    go_enter Tryz.func122, Tryz.ntmps122
    go_wp2_with (go_at_call 133; (with_reducible refine (isNumber_any n _ HQ.out _).mono ?_); rintro e w2 ⟨rfl, rfl⟩)
    go_ret
    exact ⟨rfl, HE.out⟩
set_option maxHeartbeats 4000000 in
set_option maxRecDepth 100000 in
theorem refers_5p (vd vf : Value) (C : Cg) (n ty : Int) (va vb ow fa fb by_ : Value) (w : World) (hC : RCg w vd vf C) (hn : ok64 n) (hty : ok64 ty) (htab : Tabs w) (pa : Addr) :
    Calls Tryz.prog 122 #[.agg #[vd, vf], fdV 5 n ty va vb (.pointer (some pa)) ow fa fb] w fun e w' => e = .returned (.bool (isNumB n && true)) ∧ Ext w w' := by
  have HD := Lib.hid hC.d
  have HTY := Lib.hid hty
  have HTAB := Lib.hid htab
  obtain ⟨A, c, rfl, -, -⟩ := hC.d.form
  obtain ⟨Af, cf, rfl, hcf, hmf⟩ := hC.f.form
  unfold maxLen at hmf
  clear hC hty hn htab
  have HE := Lib.hid (Ext.al2 w (.cells #[.slice A C.decls.length c, .slice Af C.funs.length cf] 171) (.cells #[.int .i64 5, .int .i64 n, .int .i64 ty, va, vb, (.pointer (some pa)), ow, fa, fb] 208))
  cases hq : isNumB n
  all_goals
    have HQ := Lib.hid hq
    clear hq
    go_enter Tryz.func122, Tryz.ntmps122
    go_wp2_with (go_at_call 133; (with_reducible refine (isNumber_any n _ HQ.out _).mono ?_); rintro e w2 ⟨rfl, rfl⟩)
    go_ret
    exact ⟨rfl, HE.out⟩
set_option maxHeartbeats 4000000 in
set_option maxRecDepth 100000 in
theorem refers_5n (vd vf : Value) (C : Cg) (n ty : Int) (va vb ow fa fb by_ : Value) (w : World) (hC : RCg w vd vf C) (hn : ok64 n) (hty : ok64 ty) (htab : Tabs w) :
    Calls Tryz.prog 122 #[.agg #[vd, vf], fdV 5 n ty va vb (.pointer none) ow fa fb] w fun e w' => e = .returned (.bool (isNumB n && false)) ∧ Ext w w' := by
  have HD := Lib.hid hC.d
  have HTY := Lib.hid hty
  have HTAB := Lib.hid htab
  obtain ⟨A, c, rfl, -, -⟩ := hC.d.form
  obtain ⟨Af, cf, rfl, hcf, hmf⟩ := hC.f.form
  unfold maxLen at hmf
  clear hC hty hn htab
  have HE := Lib.hid (Ext.al2 w (.cells #[.slice A C.decls.length c, .slice Af C.funs.length cf] 171) (.cells #[.int .i64 5, .int .i64 n, .int .i64 ty, va, vb, (.pointer none), ow, fa, fb] 208))
  cases hq : isNumB n
  all_goals
    have HQ := Lib.hid hq
    clear hq
    go_enter Tryz.func122, Tryz.ntmps122
    go_wp2_with (go_at_call 133; (with_reducible refine (isNumber_any n _ HQ.out _).mono ?_); rintro e w2 ⟨rfl, rfl⟩)
    go_ret
    exact ⟨rfl, HE.out⟩
set_option maxHeartbeats 4000000 in
set_option maxRecDepth 100000 in
theorem refers_3 (vd vf : Value) (C : Cg) (n ty : Int) (va vb ow fa fb by_ : Value) (w : World) (hC : RCg w vd vf C) (hn : ok64 n) (hty : ok64 ty) (htab : Tabs w) :
    Calls Tryz.prog 122 #[.agg #[vd, vf], fdV 3 n ty va vb by_ ow fa fb] w fun e w' => e = .returned (.bool (isNumB n && isTypeC C ty)) ∧ Ext w w' := by
  have HD := Lib.hid hC.d
  have HTY := Lib.hid hty
  have HTAB := Lib.hid htab
  obtain ⟨A, c, rfl, -, -⟩ := hC.d.form
  obtain ⟨Af, cf, rfl, hcf, hmf⟩ := hC.f.form
  unfold maxLen at hmf
  clear hC hty hn htab
  have HE := Lib.hid (Ext.al2 w (.cells #[.slice A C.decls.length c, .slice Af C.funs.length cf] 171) (.cells #[.int .i64 3, .int .i64 n, .int .i64 ty, va, vb, by_, ow, fa, fb] 208))
  cases hq : isNumB n
  · have HQ := Lib.hid hq
    clear hq
    go_enter Tryz.func122, Tryz.ntmps122
    go_wp2_with (go_at_call 133; (with_reducible refine (isNumber_any n _ HQ.out _).mono ?_); rintro e w2 ⟨rfl, rfl⟩)
    go_ret
    exact ⟨rfl, HE.out⟩
  · have HQ := Lib.hid hq
    clear hq
    go_enter Tryz.func122, Tryz.ntmps122
    go_wp2_with (first
      | (go_at_call 133; (with_reducible refine (isNumber_any n _ HQ.out _).mono ?_); rintro e w2 ⟨rfl, rfl⟩)
      | (go_at_call 64; (with_reducible refine (isType_any _ _ C ty _ (HD.out.below HE.out)).mono ?_); rintro e w2 ⟨rfl, hx⟩; have HX := Lib.hid (HE.out.tr hx); clear hx))
    go_ret
    exact ⟨rfl, HX.out⟩
set_option maxHeartbeats 4000000 in
set_option maxRecDepth 100000 in
theorem refers_7 (vd vf : Value) (C : Cg) (n ty : Int) (va vb ow fa fb by_ : Value) (w : World) (hC : RCg w vd vf C) (hn : ok64 n) (hty : ok64 ty) (htab : Tabs w) :
    Calls Tryz.prog 122 #[.agg #[vd, vf], fdV 7 n ty va vb by_ ow fa fb] w fun e w' => e = .returned (.bool (isNumB n && isTypeC C ty)) ∧ Ext w w' := by
  have HD := Lib.hid hC.d
  have HTY := Lib.hid hty
  have HTAB := Lib.hid htab
  obtain ⟨A, c, rfl, -, -⟩ := hC.d.form
  obtain ⟨Af, cf, rfl, hcf, hmf⟩ := hC.f.form
  unfold maxLen at hmf
  clear hC hty hn htab
  have HE := Lib.hid (Ext.al2 w (.cells #[.slice A C.decls.length c, .slice Af C.funs.length cf] 171) (.cells #[.int .i64 7, .int .i64 n, .int .i64 ty, va, vb, by_, ow, fa, fb] 208))
  cases hq : isNumB n
  · have HQ := Lib.hid hq
    clear hq
    go_enter Tryz.func122, Tryz.ntmps122
    go_wp2_with (go_at_call 133; (with_reducible refine (isNumber_any n _ HQ.out _).mono ?_); rintro e w2 ⟨rfl, rfl⟩)
    go_ret
    exact ⟨rfl, HE.out⟩
  · have HQ := Lib.hid hq
    clear hq
    go_enter Tryz.func122, Tryz.ntmps122
    go_wp2_with (first
      | (go_at_call 133; (with_reducible refine (isNumber_any n _ HQ.out _).mono ?_); rintro e w2 ⟨rfl, rfl⟩)
      | (go_at_call 64; (with_reducible refine (isType_any _ _ C ty _ (HD.out.below HE.out)).mono ?_); rintro e w2 ⟨rfl, hx⟩; have HX := Lib.hid (HE.out.tr hx); clear hx))
    go_ret
    exact ⟨rfl, HX.out⟩
set_option maxHeartbeats 4000000 in
set_option maxRecDepth 100000 in
theorem refers_4 (vd vf : Value) (C : Cg) (n ty : Int) (va vb ow fa fb by_ : Value) (w : World) (hC : RCg w vd vf C) (hn : ok64 n) (hty : ok64 ty) (htab : Tabs w) :
    Calls Tryz.prog 122 #[.agg #[vd, vf], fdV 4 n ty va vb by_ ow fa fb] w fun e w' => e = .returned (.bool (declsC C ty true)) ∧ Ext w w' := by
  have HD := Lib.hid hC.d
  have HTY := Lib.hid hty
  have HTAB := Lib.hid htab
  obtain ⟨A, c, rfl, -, -⟩ := hC.d.form
  obtain ⟨Af, cf, rfl, hcf, hmf⟩ := hC.f.form
  unfold maxLen at hmf
  clear hC hty hn htab
  have HE := Lib.hid (Ext.al2 w (.cells #[.slice A C.decls.length c, .slice Af C.funs.length cf] 171) (.cells #[.int .i64 4, .int .i64 n, .int .i64 ty, va, vb, by_, ow, fa, fb] 208))
  go_enter Tryz.func122, Tryz.ntmps122
  go_wp2_with (go_at_call 135; (with_reducible refine (declares_any _ _ C ty HTY.out _ _ (HD.out.below HE.out)).mono ?_); rintro e w2 ⟨rfl, hx⟩; have HX := Lib.hid (HE.out.tr hx); clear hx)
  go_ret
  exact ⟨rfl, HX.out⟩
set_option maxHeartbeats 4000000 in
set_option maxRecDepth 100000 in
theorem refers_8 (vd vf : Value) (C : Cg) (n ty : Int) (va vb ow fa fb by_ : Value) (w : World) (hC : RCg w vd vf C) (hn : ok64 n) (hty : ok64 ty) (htab : Tabs w) :
    Calls Tryz.prog 122 #[.agg #[vd, vf], fdV 8 n ty va vb by_ ow fa fb] w fun e w' => e = .returned (.bool (declsC C ty false)) ∧ Ext w w' := by
  have HD := Lib.hid hC.d
  have HTY := Lib.hid hty
  have HTAB := Lib.hid htab
  obtain ⟨A, c, rfl, -, -⟩ := hC.d.form
  obtain ⟨Af, cf, rfl, hcf, hmf⟩ := hC.f.form
  unfold maxLen at hmf
  clear hC hty hn htab
  have HE := Lib.hid (Ext.al2 w (.cells #[.slice A C.decls.length c, .slice Af C.funs.length cf] 171) (.cells #[.int .i64 8, .int .i64 n, .int .i64 ty, va, vb, by_, ow, fa, fb] 208))
  go_enter Tryz.func122, Tryz.ntmps122
  go_wp2_with (go_at_call 135; (with_reducible refine (declares_any _ _ C ty HTY.out _ _ (HD.out.below HE.out)).mono ?_); rintro e w2 ⟨rfl, hx⟩; have HX := Lib.hid (HE.out.tr hx); clear hx)
  go_ret
  exact ⟨rfl, HX.out⟩
set_option maxHeartbeats 4000000 in
set_option maxRecDepth 100000 in
theorem refers_9 (vd vf : Value) (C : Cg) (n ty : Int) (va vb ow fa fb by_ : Value) (w : World) (hC : RCg w vd vf C) (hn : ok64 n) (hty : ok64 ty) (htab : Tabs w) :
    Calls Tryz.prog 122 #[.agg #[vd, vf], fdV 9 n ty va vb by_ ow fa fb] w fun e w' => e = .returned (.bool (isTypeC C ty)) ∧ Ext w w' := by
  have HD := Lib.hid hC.d
  have HTY := Lib.hid hty
  have HTAB := Lib.hid htab
  obtain ⟨A, c, rfl, -, -⟩ := hC.d.form
  obtain ⟨Af, cf, rfl, hcf, hmf⟩ := hC.f.form
  unfold maxLen at hmf
  clear hC hty hn htab
  have HE := Lib.hid (Ext.al2 w (.cells #[.slice A C.decls.length c, .slice Af C.funs.length cf] 171) (.cells #[.int .i64 9, .int .i64 n, .int .i64 ty, va, vb, by_, ow, fa, fb] 208))
  go_enter Tryz.func122, Tryz.ntmps122
  go_wp2_with (go_at_call 64; (with_reducible refine (isType_any _ _ C ty _ (HD.out.below HE.out)).mono ?_); rintro e w2 ⟨rfl, hx⟩; have HX := Lib.hid (HE.out.tr hx); clear hx)
  go_ret
  exact ⟨rfl, HX.out⟩
set_option maxHeartbeats 4000000 in
set_option maxRecDepth 100000 in
theorem refers_10 (vd vf : Value) (C : Cg) (n ty : Int) (va vb ow fa fb by_ : Value) (w : World) (hC : RCg w vd vf C) (hn : ok64 n) (hty : ok64 ty) (htab : Tabs w) :
    Calls Tryz.prog 122 #[.agg #[vd, vf], fdV 10 n ty va vb by_ ow fa fb] w fun e w' => e = .returned (.bool (decide (0 ≤ n) && decide (n < 7))) ∧ Ext w w' := by
  have HD := Lib.hid hC.d
  have HTY := Lib.hid hty
  have HTAB := Lib.hid htab
  obtain ⟨A, c, rfl, -, -⟩ := hC.d.form
  obtain ⟨Af, cf, rfl, hcf, hmf⟩ := hC.f.form
  unfold maxLen at hmf
  clear hC hty hn htab
  have HE := Lib.hid (Ext.al2 w (.cells #[.slice A C.decls.length c, .slice Af C.funs.length cf] 171) (.cells #[.int .i64 10, .int .i64 n, .int .i64 ty, va, vb, by_, ow, fa, fb] 208))
  generalize hr : (decide (0 ≤ n) && decide (n < 7)) = r
  have HR := Lib.hid hr
  clear hr
  go_enter Tryz.func122, Tryz.ntmps122
  go_wp2_with (go_at_call 138; (with_reducible refine (sign_any n _ (HTAB.out.ext HE.out)).mono ?_); rintro e w2 ⟨⟨s, rfl, hs⟩, rfl⟩; rw [HR.out] at hs; have HS := Lib.hid hs; clear hs)
  go_ret
  refine ⟨ret_bool ?_, HE.out⟩
  have h := HS.out
  unfold emS at h
  simp [h]
set_option maxHeartbeats 4000000 in
set_option maxRecDepth 100000 in
theorem refers_13 (vd vf : Value) (C : Cg) (n ty : Int) (va vb ow fa fb by_ : Value) (w : World) (hC : RCg w vd vf C) (hn : ok64 n) (hty : ok64 ty) (htab : Tabs w) :
    Calls Tryz.prog 122 #[.agg #[vd, vf], fdV 13 n ty va vb by_ ow fa fb] w fun e w' => e = .returned (.bool (isIdxC n C.funs.length)) ∧ Ext w w' := by
  have HD := Lib.hid hC.d
  have HTY := Lib.hid hty
  have HTAB := Lib.hid htab
  obtain ⟨A, c, rfl, -, -⟩ := hC.d.form
  obtain ⟨Af, cf, rfl, hcf, hmf⟩ := hC.f.form
  unfold maxLen at hmf
  clear hC hty hn htab
  have HE := Lib.hid (Ext.al2 w (.cells #[.slice A C.decls.length c, .slice Af C.funs.length cf] 171) (.cells #[.int .i64 13, .int .i64 n, .int .i64 ty, va, vb, by_, ow, fa, fb] 208))
  go_enter Tryz.func122, Tryz.ntmps122
  go_wp2_with (go_at_call 136; (with_reducible refine (isIndex_any _ _ _ rfl _).mono ?_); rintro e w2 ⟨rfl, rfl⟩)
  go_ret
  exact ⟨rfl, HE.out⟩
set_option maxHeartbeats 4000000 in
set_option maxRecDepth 100000 in
theorem refers_no (vd vf : Value) (C : Cg) (op n ty : Int) (va vb ow fa fb by_ : Value) (w : World) (hC : RCg w vd vf C) (hn : ok64 n) (hty : ok64 ty) (htab : Tabs w) (hop : op ≠ 0 ∧ op ≠ 5 ∧ op ≠ 2 ∧ op ≠ 6 ∧ op ≠ 3 ∧ op ≠ 7 ∧ op ≠ 4 ∧ op ≠ 8 ∧ op ≠ 9 ∧ op ≠ 10 ∧ op ≠ 13) :
    Calls Tryz.prog 122 #[.agg #[vd, vf], fdV op n ty va vb by_ ow fa fb] w fun e w' => e = .returned (.bool (true)) ∧ Ext w w' := by
  have HD := Lib.hid hC.d
  have HTY := Lib.hid hty
  have HTAB := Lib.hid htab
  obtain ⟨A, c, rfl, -, -⟩ := hC.d.form
  obtain ⟨Af, cf, rfl, hcf, hmf⟩ := hC.f.form
  unfold maxLen at hmf
  clear hC hty hn htab
  have HE := Lib.hid (Ext.al2 w (.cells #[.slice A C.decls.length c, .slice Af C.funs.length cf] 171) (.cells #[.int .i64 op, .int .i64 n, .int .i64 ty, va, vb, by_, ow, fa, fb] 208))
  obtain ⟨h0, h5, h2, h6, h3, h7, h4, h8, h9, h10, h13⟩ := hop
  go_enter Tryz.func122, Tryz.ntmps122
  go_wp2
  go_ret
  exact ⟨rfl, HE.out⟩
end Go.Proofs.YtkdhhcidpklgoaaGreatDoor

/- node: fits. -/
namespace Go.Proofs.YtkdhhcidpklgoaaGreatDoor
open Go.RowKit

/-- The sorts that were folded, and what was folded of the branches. -/
def RFbs (w : World) (v : Value) (l : List Int) : Prop :=
  ∃ A c, v = .slice A l.length c ∧ l.length ≤ c ∧ c ≤ maxLen ∧
    ∀ i a, l[i]? = some a → ∃ b o, A = some ⟨b, o, none⟩ ∧ b < w.heap.size ∧ w.cell? ⟨b, o + i * 2 + 1, none⟩ = some (.int .i64 a)
theorem RFbs.below {w w' : World} {v : Value} {l : List Int} (h : RFbs w v l) (hb : Ext w w') : RFbs w' v l := by
  obtain ⟨A, c, rfl, h1, h2, h3⟩ := h
  refine ⟨A, c, rfl, h1, h2, fun i a hi => ?_⟩
  obtain ⟨b, o, rfl, hlt, h4⟩ := h3 i a hi
  exact ⟨b, o, rfl, Nat.lt_of_lt_of_le hlt hb.size, hb.keep h4⟩
theorem RFbs.form {w : World} {v : Value} {l : List Int} (h : RFbs w v l) : ∃ A c, v = .slice A l.length c ∧ l.length ≤ c ∧ c ≤ maxLen := by
  obtain ⟨A, c, h1, h2, h3, _⟩ := h; exact ⟨A, c, h1, h2, h3⟩
theorem RFbs.at_ {w : World} {l : List Int} {A : Option Addr} {c : Nat} (h : RFbs w (.slice A l.length c) l) {k : Nat} (hk : k < l.length) :
    ∃ b o, A = some ⟨b, o, none⟩ ∧ b < w.heap.size ∧ w.cell? ⟨b, o + k * 2 + 1, none⟩ = some (.int .i64 l[k]) := by
  obtain ⟨A', c', he, h1, h2, h3⟩ := h
  cases he
  exact h3 k _ (List.getElem?_eq_getElem hk)
theorem RXtors.nil (w : World) : RXtors w (.slice none 0 0) [] := ⟨none, 0, rfl, Nat.le_refl _, Nat.zero_le _, fun i s h => by simp at h⟩
/-- The branches of a node. -/
def RBrs (w : World) (v : Value) (k : Nat) (l : List Br) : Prop :=
  ∃ B c, v = .slice B l.length c ∧ l.length ≤ c ∧ c ≤ maxLen ∧
      ∀ i x, l[i]? = some x → ∃ b o vv vc xa xb, B = some ⟨b, o, none⟩ ∧ b < w.heap.size ∧ w.cell? ⟨b, o + i * 7, none⟩ = some vv ∧ RInts w vv x.1 ∧ w.cell? ⟨b, o + i * 7 + 1, none⟩ = some vc ∧ RBools w vc x.2.1 ∧ N5 w b (o + i * 7 + 2) x.2.2 xa xb ∧ RNd w k x.2.2 xa xb
/-- The list of what a node binds in its branches is short. -/
def shortB (l : List Br) : Prop := ∀ x ∈ l, x.1.length ≤ 1048576
theorem fitBr_drop {xs : List Xtor} {bs : List Br} {ss : List Int} {k : Nat} (h1 : k < xs.length) (h2 : k < bs.length) (h3 : k < ss.length) :
    fitBr (xs.drop k) (bs.drop k) (ss.drop k) = ((bindsB bs[k].1 bs[k].2.1 xs[k].args && decide (ss[k] = 2)) && fitBr (xs.drop (k + 1)) (bs.drop (k + 1)) (ss.drop (k + 1))) := by
  rw [drop_step h1, drop_step h2, drop_step h3]; rfl
end Go.Proofs.YtkdhhcidpklgoaaGreatDoor
