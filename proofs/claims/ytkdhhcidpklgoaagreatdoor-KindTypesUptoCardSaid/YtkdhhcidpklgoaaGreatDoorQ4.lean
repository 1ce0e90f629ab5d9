/- node, heads, prim: what an xtor or a function is applied to; the tables. -/
import Derived.Test.YtkdhhcidpklgoaaGreatDoorQ3
import Derived.Deep.QuietTactic
import Derived.BigQuiet
import Derived.RegionTactic
import Derived.Deep.RegionWith
namespace Go.Proofs.YtkdhhcidpklgoaaGreatDoor
open Go.RowKit

theorem declC_in {C : Cg} {u : Nat} (h : u < C.decls.length) : declC C ((u : Int) + 1) = C.decls[u] := by
  unfold declC
  have e : ((u : Int) + 1 - 1).toNat = u := by omega
  rw [e, List.getD_eq_getElem?_getD, List.getElem?_eq_getElem h]; rfl
theorem declsC_out {C : Cg} {ty : Int} {co : Bool} (h : ¬ (1 ≤ ty ∧ ty ≤ C.decls.length)) : declsC C ty co = false := by
  unfold declsC isIdxC
  by_cases h1 : 1 ≤ ty
  · rw [decide_eq_false (show ¬ ty - 1 < (C.decls.length : Int) by omega)]; simp
  · rw [decide_eq_false (show ¬ 0 ≤ ty - 1 by omega)]; simp
theorem declsC_in {C : Cg} {u : Nat} {co : Bool} (h : u < C.decls.length) : declsC C ((u : Int) + 1) co = ((C.decls[u]).codata == co) := by
  unfold declsC isIdxC
  rw [declC_in h, decide_eq_true (by omega), decide_eq_true (by omega)]; rfl
theorem idx_in {i n : Int} (h : 0 ≤ i) (h2 : i < n) : isIdxC i n = true := by unfold isIdxC; simp [h, h2]
theorem getD_at {α : Type} {l : List α} {j : Nat} (d : α) (h : j < l.length) : l.getD j d = l[j] := by
  rw [List.getD_eq_getElem?_getD, List.getElem?_eq_getElem h]; rfl

theorem isIndex_yes (i n : Int) (h0 : 0 ≤ i) (h1 : i < n) (w : World) : Calls Tryz.prog 136 #[.int .i64 i, .int .i64 n] w fun e w' => e = .returned (.bool true) ∧ w = w' := isIndex_any i n true (idx_in h0 h1) w
theorem isIndex_no (i n : Int) (h0 : i < 0 ∨ n ≤ i) (w : World) : Calls Tryz.prog 136 #[.int .i64 i, .int .i64 n] w fun e w' => e = .returned (.bool false) ∧ w = w' := isIndex_any i n false (by unfold isIdxC; rw [Bool.and_eq_false_iff]; rcases h0 with h | h; exact .inl (decide_eq_false (by omega)); exact .inr (decide_eq_false (by omega))) w

set_option maxHeartbeats 1000000 in
set_option maxRecDepth 100000 in
theorem declares_any (vd vf : Value) (C : Cg) (ty : Int) (hty : ok64 ty) (co : Bool) (w : World) (h : RDecls w vd C.decls) :
    Calls Tryz.prog 135 #[.agg #[vd, vf], .int .i64 ty, .bool co] w fun e w' => e = .returned (.bool (declsC C ty co)) ∧ Ext w w' := by
  have HR := Lib.hid h
  obtain ⟨A, c, rfl, hc, hm⟩ := h.form
  clear h
  unfold maxLen at hm
  have hb : -9223372036854775808 ≤ ty ∧ ty ≤ 9223372036854775807 := by
    unfold ok64 at hty; simp [Lit.wf, Go.IntKind.min, Go.IntKind.max, Go.IntKind.signed, Go.IntKind.bits] at hty; exact hty
  have HE : Hid (Ext w (w.alloc (.cells #[.slice A C.decls.length c, vf] 171))) := Ext.al _ _
  clear hty
  by_cases hr : 1 ≤ ty ∧ ty ≤ C.decls.length
  · obtain ⟨u, hu⟩ : ∃ u : Nat, ty = u + 1 := ⟨(ty - 1).toNat, by omega⟩
    subst hu
    have hul : u < C.decls.length := by omega
    have HI := Lib.hid (declsC_in (co := co) hul)
    have HQ := Lib.hid (idx_in (i := (u : Int) + 1 - 1) (n := C.decls.length) (by omega) (by omega))
    clear hr hb
    obtain ⟨b, o, vx, rfl, hbl, h0, h1, h2, h3, h4⟩ := HR.out.at_ hul
    have h1 := HE.out.keep h1
    clear h0 h2 h3 h4
    generalize C.decls[u] = d at *
    go_enter Tryz.func135, Tryz.ntmps135
    go_wp2_with (go_at_call 136; (with_reducible refine (isIndex_yes _ _ (by omega) (by omega) _).mono ?_); rintro e w2 ⟨rfl, rfl⟩)
    go_ret
    exact ⟨ret_bool (by rw [HI.out]), HE.out⟩
  · have HI := Lib.hid (declsC_out (co := co) hr)
    have hn1 : ty - 1 < 0 ∨ (C.decls.length : Int) ≤ ty - 1 := by omega
    clear hr
    by_cases h1 : ty = -9223372036854775808
    · subst h1
      go_enter Tryz.func135, Tryz.ntmps135
      have HW : Hid (wrap64 (-9223372036854775809) = 9223372036854775807) := by show wrap64 (-9223372036854775809) = 9223372036854775807; kernel_rfl
      go_wp2_with (go_at_call 136; refine (isIndex_no _ _ (.inr (by rw [HW.out]; omega)) _).mono ?_; rintro e w2 ⟨rfl, rfl⟩)
      go_ret
      exact ⟨ret_bool HI.out.symm, HE.out⟩
    · have hlo : -9223372036854775807 ≤ ty := by omega
      go_enter Tryz.func135, Tryz.ntmps135
      go_wp2_with (go_at_call 136; (with_reducible refine (isIndex_no _ _ (by omega) _).mono ?_); rintro e w2 ⟨rfl, rfl⟩)
      go_ret
      exact ⟨ret_bool HI.out.symm, HE.out⟩

/-! the table of shapes, as it lies when the call begins -/
/-- Is a string empty? -/
def emS (s : ByteArray) : Bool := s.toList.isEmpty
def shapeB (op : Int) : Value := .int .i64 (sortOp op)
/-- The tables. -/
structure Tabs (w : World) : Prop where
  sh : ∀ i : Nat, i < 15 → ∃ vs, w.cell? ⟨1, i * 5, none⟩ = some (.int .i64 (sortOp i)) ∧ w.cell? ⟨1, i * 5 + 1, none⟩ = some (.bool (usesN i)) ∧ w.cell? ⟨1, i * 5 + 2, none⟩ = some (.bool (usesT i)) ∧ w.cell? ⟨1, i * 5 + 3, none⟩ = some (.bool (usesB i)) ∧ w.cell? ⟨1, i * 5 + 4, none⟩ = some vs ∧ RInts w vs (argsS i)
  sg : ∀ i : Nat, i < 7 → ∃ s : ByteArray, w.cell? ⟨2, i, none⟩ = some (.string s) ∧ emS s = false
  ru : ∀ i : Nat, i < 15 → w.cell? ⟨0, i * 2, none⟩ = some (.int .i64 (if i = 0 ∨ i = 5 then 2 else if i = 2 ∨ i = 3 ∨ i = 4 ∨ i = 6 ∨ i = 7 ∨ i = 8 then 1 else 0)) ∧ w.cell? ⟨0, i * 2 + 1, none⟩ = some (.int .i64 (if i = 9 then 1 else if i = 2 ∨ i = 6 ∨ i = 13 then 3 else 0))
theorem Tabs.ext {w w' : World} (h : Tabs w) (hb : Ext w w') : Tabs w' :=
  ⟨fun i hi => by
    obtain ⟨vs, h1, h2, h3, h4, h5, h6⟩ := h.sh i hi
    exact ⟨vs, hb.keep h1, hb.keep h2, hb.keep h3, hb.keep h4, hb.keep h5, h6.below hb⟩,
  fun i hi => by obtain ⟨s, h1, h2⟩ := h.sg i hi; exact ⟨s, hb.keep h1, h2⟩,
  fun i hi => ⟨hb.keep (h.ru i hi).1, hb.keep (h.ru i hi).2⟩⟩
set_option maxHeartbeats 1000000 in
set_option maxRecDepth 100000 in
theorem sign_any (n : Int) (w : World) (h : Tabs w) :
    Calls Tryz.prog 138 #[.int .i64 n] w fun e w' => (∃ s : ByteArray, e = .returned (.string s) ∧ emS s = !(decide (0 ≤ n) && decide (n < 7))) ∧ w = w' := by
  by_cases h0 : n < 0
  · go_enter Tryz.func138, Tryz.ntmps138
    go_wp2
    go_ret
    exact ⟨⟨_, rfl, by rw [decide_eq_false (show ¬ 0 ≤ n by omega)]; simp [emS, ByteArray.toList_eq]⟩, rfl⟩
  · by_cases h7 : 7 ≤ n
    · go_enter Tryz.func138, Tryz.ntmps138
      go_wp2
      go_ret
      exact ⟨⟨_, rfl, by rw [decide_eq_false (show ¬ n < 7 by omega)]; simp [emS, ByteArray.toList_eq]⟩, rfl⟩
    · obtain ⟨k, rfl⟩ : ∃ k : Nat, n = k := ⟨n.toNat, by omega⟩
      have hk : k < 7 := by omega
      obtain ⟨s, hs, he⟩ := h.sg k hk
      have HE := Lib.hid he
      clear he h
      go_enter Tryz.func138, Tryz.ntmps138
      go_wp2
      go_ret
      exact ⟨⟨_, rfl, HE.out.trans (by simp [hk])⟩, rfl⟩
end Go.Proofs.YtkdhhcidpklgoaaGreatDoor

/- node, heads: xtors, what is applied, sorts. -/
namespace Go.Proofs.YtkdhhcidpklgoaaGreatDoor
open Go.RowKit

set_option maxHeartbeats 1000000 in
set_option maxRecDepth 100000 in
theorem xtors_any (vd vf : Value) (C : Cg) (ty : Int) (w : World) (h : RDecls w vd C.decls) (h1 : 1 ≤ ty) (h2 : ty ≤ C.decls.length) :
    ∃ vx, RXtors w vx (xtorsC C ty) ∧ ∀ w', Ext w w' → Calls Tryz.prog 137 #[.agg #[vd, vf], .int .i64 ty] w' fun e w'' => e = .returned vx ∧ Ext w' w'' := by
  obtain ⟨u, hu⟩ : ∃ u : Nat, ty = u + 1 := ⟨(ty - 1).toNat, by omega⟩
  subst hu
  have hul : u < C.decls.length := by omega
  have HR := Lib.hid h
  obtain ⟨A, c, rfl, hc, hm⟩ := h.form
  clear h h1 h2
  unfold maxLen at hm
  obtain ⟨b, o, vx, rfl, hbl, c0, c1, c2, c3, c4⟩ := HR.out.at_ hul
  have HX : Hid (RXtors w vx (xtorsC C ((u : Int) + 1))) := by show RXtors w vx (xtorsC C ((u : Int) + 1)); unfold xtorsC; rw [declC_in hul]; exact c3
  refine ⟨vx, HX.out, fun w' hx => ?_⟩
  have HE : Hid (Ext w' (w'.alloc (.cells #[.slice (some ⟨b, o, none⟩) C.decls.length c, vf] 171))) := Ext.al _ _
  have c2 := HE.out.keep (hx.keep c2)
  clear c0 c1 c3 c4 hx
  go_enter Tryz.func137, Tryz.ntmps137
  go_wp2
  go_ret
  exact ⟨rfl, HE.out⟩

theorem hd_con {C : Cg} {op n ty : Int} (h : op = 2 ∨ op = 6) : hdArgs C op n ty = ((xtorsC C ty).getD n.toNat noXtor).args := by unfold hdArgs; rw [if_pos h]
theorem hd_call {C : Cg} {n ty : Int} : hdArgs C 13 n ty = (C.funs.getD n.toNat noCF).ps := by unfold hdArgs; rw [if_neg (by decide), if_pos rfl]
theorem hd_no {C : Cg} {op n ty : Int} (h : ¬ (op = 2 ∨ op = 6)) (h2 : op ≠ 13) : hdArgs C op n ty = [] := by unfold hdArgs; rw [if_neg h, if_neg h2]

theorem RArgs.nil (w : World) : RArgs w (.slice none 0 0) [] := ⟨none, 0, rfl, Nat.le_refl _, Nat.zero_le _, fun i s h => by simp at h⟩
/-- What the node applies is there. -/
def appB (C : Cg) (op n ty : Int) : Prop := (op = 2 ∨ op = 6 → 1 ≤ ty ∧ ty ≤ C.decls.length ∧ 0 ≤ n ∧ n < (xtorsC C ty).length) ∧ (op = 13 → 0 ≤ n ∧ n < C.funs.length)
set_option maxHeartbeats 2000000 in
set_option maxRecDepth 100000 in
theorem hargs_con (vd vf : Value) (C : Cg) (op : Int) (m u : Nat) (va vb : Value) (w : World) (h : RDecls w vd C.decls) (h26 : op = 2 ∨ op = 6) (hul : u < C.decls.length) (hml : m < (C.decls[u]).xtors.length) :
    ∃ v, RArgs w v ((C.decls[u]).xtors[m]).args ∧ ∀ w', Ext w w' → Calls Tryz.prog 124 #[cV vd vf, .agg #[.int .i64 op, .int .i64 (m : Int), .int .i64 ((u : Int) + 1), va, vb]] w' fun e w'' => e = .returned v ∧ Ext w' w'' := by
  obtain ⟨A, c, rfl, hc, hmx⟩ := h.form
  unfold maxLen at hmx
  obtain ⟨b, o, vx, rfl, hbl, c0, c1, c2, c3, c4⟩ := h.at_ hul
  obtain ⟨Ax, cx, rfl, hcx, hmx2⟩ := c3.form
  unfold maxLen at hmx2
  obtain ⟨b2, o2, va2, rfl, hbl2, d0, d1, d2, d3⟩ := c3.at_ hml
  refine ⟨va2, d2, fun w' hx => ?_⟩
  have HE : Hid (Ext w' ((w'.alloc (.cells #[.slice (some ⟨b, o, none⟩) C.decls.length c, vf] 25)).alloc (.cells #[.int .i64 op, .int .i64 (m : Int), .int .i64 ((u : Int) + 1), va, vb] 36))) := Ext.al2 _ _ _
  have c2 := HE.out.keep (hx.keep c2)
  have d1 := HE.out.keep (hx.keep d1)
  clear c0 c1 c3 c4 hx d0 d2 d3 h
  generalize C.decls[u] = d at *
  have hw1 : IntKind.wrap .i64 ((u : Int) + 1 - 1) = (u : Int) := by rw [show (u : Int) + 1 - 1 = u by omega]; exact IntWalk.i64_in _ (by omega)
  have hi1 : (u : Int) < C.decls.length := by omega
  have hi2 : (m : Int) < d.xtors.length := by omega
  rcases h26 with rfl | rfl
  all_goals
    go_enter Tryz.func124, Tryz.ntmps124
    go_wp2
    go_region
    go_wp2
    go_ret
    exact ⟨rfl, HE.out.drew⟩
set_option maxHeartbeats 2000000 in
set_option maxRecDepth 100000 in
theorem hargs_call (vd vf : Value) (C : Cg) (m : Nat) (ty : Int) (va vb : Value) (w : World) (h : RCFs w vf C.funs) (hml : m < C.funs.length) :
    ∃ v, RArgs w v (C.funs[m]).ps ∧ ∀ w', Ext w w' → Calls Tryz.prog 124 #[cV vd vf, .agg #[.int .i64 13, .int .i64 (m : Int), .int .i64 ty, va, vb]] w' fun e w'' => e = .returned v ∧ Ext w' w'' := by
  obtain ⟨A, c, rfl, hc, hmx⟩ := h.form
  unfold maxLen at hmx
  obtain ⟨b, o, vp, vv, xa, xb, k, rfl, hbl, c0, c1, c2, c3, c4, c5, -⟩ := h.at_ hml
  refine ⟨vp, c5, fun w' hx => ?_⟩
  have HE : Hid (Ext w' ((w'.alloc (.cells #[vd, .slice (some ⟨b, o, none⟩) C.funs.length c] 25)).alloc (.cells #[.int .i64 13, .int .i64 (m : Int), .int .i64 ty, va, vb] 36))) := Ext.al2 _ _ _
  have c1 := HE.out.keep (hx.keep c1)
  clear c0 c2 c3 c4 c5 hx h
  go_enter Tryz.func124, Tryz.ntmps124
  go_wp2
  go_ret
  exact ⟨rfl, HE.out⟩
set_option maxHeartbeats 2000000 in
set_option maxRecDepth 100000 in
theorem hargs_none (vd vf : Value) (op n ty : Int) (va vb : Value) (w' : World) (h2 : op ≠ 2) (h6 : op ≠ 6) (h13 : op ≠ 13) :
    Calls Tryz.prog 124 #[cV vd vf, .agg #[.int .i64 op, .int .i64 n, .int .i64 ty, va, vb]] w' fun e w'' => e = .returned (.slice none 0 0) ∧ Ext w' w'' := by
  go_enter Tryz.func124, Tryz.ntmps124
  go_wp2
  go_ret
  exact ⟨rfl, Ext.al2 _ _ _⟩
theorem hargs_any (vd vf : Value) (C : Cg) (t : Nd) (va vb : Value) (w : World) (h : RCg w vd vf C) (ha : appB C t.op t.n t.ty) :
    ∃ v, RArgs w v (hdArgs C t.op t.n t.ty) ∧ ∀ w', Ext w w' → Calls Tryz.prog 124 #[cV vd vf, nV t va vb] w' fun e w'' => e = .returned v ∧ Ext w' w'' := by
  obtain ⟨op, n, ty, args, brs⟩ := t
  dsimp only [Nd.op, Nd.n, Nd.ty] at *
  by_cases h26 : op = 2 ∨ op = 6
  · obtain ⟨h1, h2, h3, h4⟩ := ha.1 h26
    obtain ⟨u, hu⟩ : ∃ u : Nat, ty = u + 1 := ⟨(ty - 1).toNat, by omega⟩
    obtain ⟨m, hm⟩ : ∃ m : Nat, n = m := ⟨n.toNat, by omega⟩
    subst hu; subst hm
    have hul : u < C.decls.length := by omega
    rw [hd_con h26]
    unfold xtorsC at *
    rw [declC_in hul] at h4 ⊢
    rw [Int.toNat_natCast, getD_at _ (by omega)]
    exact hargs_con vd vf C op m u va vb w h.d h26 hul (by omega)
  · by_cases h13 : op = 13
    · obtain ⟨h3, h4⟩ := ha.2 h13
      obtain ⟨m, hm⟩ : ∃ m : Nat, n = m := ⟨n.toNat, by omega⟩
      subst hm; subst h13
      rw [hd_call, Int.toNat_natCast, getD_at _ (by omega)]
      exact hargs_call vd vf C m ty va vb w h.f (by omega)
    · rw [hd_no h26 h13]
      exact ⟨_, RArgs.nil w, fun w' _ => hargs_none vd vf op n ty va vb w' (by omega) (by omega) h13⟩

/-- Slices of sorts, of types: what the call appends. -/
theorem own_ints {w : World} {B : Nat} {v : Value} {l : List Int} {e : TypeId} (hok : ∀ x ∈ l, ok64 x) (h : w.ownsRow B e 1 v l.length (l.map (Value.int .i64))) : RInts w v l := by
  rcases h.2 with ⟨rfl, h0⟩ | ⟨g, cap, cur, rfl, e2, e3, e4, e5, e6, e7⟩
  · have hL : l = [] := List.eq_nil_of_length_eq_zero h0
    subst hL
    exact ⟨none, 0, rfl, Nat.le_refl _, Nat.zero_le _, fun i x hx => by simp at hx⟩
  · refine ⟨_, cap, rfl, e4, e5, fun i x hx => ?_⟩
    have hi : i < l.length := (List.getElem?_eq_some_iff.1 hx).1
    refine ⟨g, 0, rfl, (Array.getElem?_eq_some_iff.1 e3).1, ?_, hok x (List.mem_of_getElem? hx)⟩
    rw [Nat.zero_add, World.ownsRow.cellAt h i (by omega), List.getElem?_map, hx]; rfl
theorem ok_coI (q : Bool) : ok64 (coI q) := by cases q <;> (show (Lit.int .i64 _).wf = true; decide)
theorem Tryz.iSort : (Tryz.prog.info? 78).map (fun i => (i.zero, i.size, i.bytes)) = some (some (.int .i64 0), 1, 8) := by kernel_rfl
theorem own_form {w : World} {B : Nat} {e : TypeId} {k n : Nat} {v : Value} {xs : List Value} (h : w.ownsRow B e k v n xs) : ∃ A c, v = .slice A n c := by
  rcases h.2 with ⟨rfl, h0⟩ | ⟨g, cap, cur, rfl, _⟩
  · subst h0; exact ⟨_, _, rfl⟩
  · exact ⟨_, _, rfl⟩
set_option maxHeartbeats 4000000 in
set_option maxRecDepth 100000 in
theorem sortsOf_any (v : Value) (l : List Arg) (w : World) (h : RArgs w v l) (hl : l.length ≤ 1048576) :
    Calls Tryz.prog 139 #[v] w fun e w' => (∃ u, e = .returned u ∧ RInts w' u (l.map fun a => coI a.co)) ∧ Ext w w' := by
  have HR := Lib.hid h
  obtain ⟨A, c, rfl, hc, hm⟩ := h.form
  clear h
  unfold maxLen at hm
  go_enter Tryz.func139, Tryz.ntmps139
  go_wp2
  go_loopw [3, 8] (fun s i wr => ∃ k : Nat, k ≤ l.length ∧ i = .int .i64 k ∧ wr.ownsRow w.heap.size 78 1 s k ((l.take k).map fun a => Value.int .i64 (coI a.co)) ∧ Ext w wr) (fun _ i _ => l.length - (intOf i).toNat)
  case atStart => exact ⟨0, Nat.zero_le _, rfl, own_nil', Ext.rf _⟩
  case round =>
    obtain ⟨k, hk, rfl, hown, hb⟩ := hrel
    have HO := Lib.hid hown
    have HB := Lib.hid hb
    obtain ⟨As, cs, rfl⟩ := own_form hown
    clear hown hb
    by_cases hlt : k < l.length
    · obtain ⟨b, o, rfl, hbl, h0, h1⟩ := HR.out.at_ hlt
      have h0 := HB.out.keep h0
      have h1 := HB.out.keep h1
      have HS : Hid (l.take (k + 1) = l.take k ++ [l[k]]) := List.take_succ_eq_append_getElem hlt
      generalize l[k] = a at *
      have HE2 := Lib.hid (HB.out.tr (Ext.al wr (Obj.cells #[.int .i64 a.ty, .bool a.co] 114)))
      have HE1 := Lib.hid (Ext.al wr (Obj.cells #[.int .i64 a.ty, .bool a.co] 114))
      go_wp2_with (first
        | (go_at_call 112; (with_reducible refine (sortOf_any _ _).mono ?_); rintro e w2 ⟨rfl, rfl⟩)
        | (at_builtin; refine wpl_app (t := 205) (e := 78) (size := 1) (bytes := 8) Tryz.underlying205 Tryz.iSort rfl (by decide) (by decide) rfl (.tmp 12) (.tmp 16) rfl w.heap.size _ k _ rfl (own_below HO.out (Ext.al2 _ _ _)) _ 1 1 [.int .i64 (coI a.co)] rfl (src_one (heapNew2 _ _ _)) (one_mem rfl) (by omega) (Nat.le_trans HB.out.size (by simp; try omega)) ?_; rintro v' w' ho' hg' -))
      have HO2 := Lib.hid ho'
      have HG2 := Lib.hid (Below.trans (HB.out.tr (Ext.al2 _ _ _)) (grown_ext' (B := w.heap.size) hg' (own_below HO.out (Ext.al2 _ _ _)) (Nat.le_trans HB.out.size (by simp; try omega))))
      clear ho' hg'
      go_wp2
      go_roundw
      case rel => exact ⟨k + 1, by omega, by go_num, by rw [HS.out, List.map_append]; exact HO2.out, HG2.out⟩
      case measure => simp [intOf]; omega
    · have hkl : k = l.length := by omega
      have HK : Hid (l.take k = l) := List.take_of_length_le (by omega)
      subst hkl
      go_wp2
      go_ret
      refine ⟨⟨.slice As l.length cs, rfl, own_ints (B := w.heap.size) (e := 78) (l := l.map fun a => coI a.co) (fun x hx => by obtain ⟨a, -, rfl⟩ := List.mem_map.1 hx; exact ok_coI _) ?_⟩, HB.out⟩
      have := HO.out
      rw [HK.out] at this
      rw [List.length_map, List.map_map]; exact this
end Go.Proofs.YtkdhhcidpklgoaaGreatDoor

/- heads.Types, node.BoundInArgs, node.BoundIn, slices.Equal. -/
namespace Go.Proofs.YtkdhhcidpklgoaaGreatDoor
open Go.RowKit

theorem Tryz.iInt : (Tryz.prog.info? 3).map (fun i => (i.zero, i.size, i.bytes)) = some (some (.int .i64 0), 1, 8) := by kernel_rfl
theorem Tryz.iVar : (Tryz.prog.info? 80).map (fun i => (i.zero, i.size, i.bytes)) = some (some (.agg #[.int .i64 0, .int .i64 0]), 2, 16) := by kernel_rfl

theorem RVrs.nil (w : World) : RVrs w (.slice none 0 0) [] := ⟨none, 0, rfl, Nat.le_refl _, Nat.zero_le _, fun i s h => by simp at h⟩
theorem RVrs.one {w : World} {b : Nat} {x : Vr} {T : Nat} (h : w.heap[b]? = some (.cells #[.int .i64 x.1, .int .i64 x.2] T (0, 0))) (h1 : ok64 x.1) (h2 : ok64 x.2) : RVrs w (.slice (some ⟨b, 0, none⟩) 1 1) [x] :=
  ⟨_, 1, rfl, Nat.le_refl _, by decide, fun i a hi => by
    match i, hi with
    | 0, hi => obtain rfl := Option.some.inj hi; exact ⟨_, _, rfl, heap_lt h, cellAt h 0, cellAt h 1, h1, h2⟩⟩
theorem ok_lit0 : ok64 0 := by show (Lit.int .i64 0).wf = true; decide
theorem ok_lit1 : ok64 1 := by show (Lit.int .i64 1).wf = true; decide
theorem muV_3 (n : Int) : muV 3 n = [(1, n)] := rfl
theorem muV_7 (n : Int) : muV 7 n = [(0, n)] := rfl
theorem muV_no {op : Int} (n : Int) (h : op ≠ 3) (h7 : op ≠ 7) : muV op n = [] := by unfold muV; rw [if_neg h, if_neg h7]
/-- A branch as a value. -/
abbrev brV (vv vc : Value) (t : Nd) (va vb : Value) : Value := .agg #[vv, vc, .int .i64 t.op, .int .i64 t.n, .int .i64 t.ty, va, vb]
theorem PBlk.vrs {w : World} {g T : Nat} {l : List Vr} {f : Nat → Value} (h : PBlk w g T (l.length * 2) f) (hl : l.length ≤ maxLen) (hf : ∀ (i : Nat) (x : Vr), l[i]? = some x → f (i * 2) = .int .i64 x.1 ∧ f (i * 2 + 1) = .int .i64 x.2 ∧ ok64 x.1 ∧ ok64 x.2) :
    RVrs w (.slice (some ⟨g, 0, none⟩) l.length l.length) l :=
  ⟨_, _, rfl, Nat.le_refl _, hl, fun i x hi => by
    have hlt := (List.getElem?_eq_some_iff.1 hi).1
    obtain ⟨h1, h2, h3⟩ := hf i x hi
    exact ⟨g, 0, rfl, h.lt, by rw [Nat.zero_add]; exact h.cellAs (by omega) h1, by rw [Nat.zero_add]; exact h.cellAs (by omega) h2, h3⟩⟩
theorem vr_step {L : List Vr} {k : Nat} {f : Nat → Value} {y : Vr} (hf : ∀ (i : Nat) (x : Vr), i < k → L[i]? = some x → f (i * 2) = .int .i64 x.1 ∧ f (i * 2 + 1) = .int .i64 x.2 ∧ ok64 x.1 ∧ ok64 x.2) (hy : L[k]? = some y) (h1 : ok64 y.1) (h2 : ok64 y.2) :
    ∀ (i : Nat) (x : Vr), i < k + 1 → L[i]? = some x → (fun j => if j = k * 2 + 1 then (.int .i64 y.2 : Value) else (fun j => if j = k * 2 then (.int .i64 y.1 : Value) else f j) j) (i * 2) = .int .i64 x.1 ∧ (fun j => if j = k * 2 + 1 then (.int .i64 y.2 : Value) else (fun j => if j = k * 2 then (.int .i64 y.1 : Value) else f j) j) (i * 2 + 1) = .int .i64 x.2 ∧ ok64 x.1 ∧ ok64 x.2 := by
  intro i x hi hx
  by_cases hik : i = k
  · subst hik
    rw [hy] at hx
    obtain rfl := Option.some.inj hx
    refine ⟨?_, ?_, h1, h2⟩
    · simp only; rw [if_neg (by omega)]; simp
    · simp
  · obtain ⟨e1, e2, e3⟩ := hf i x (by omega) hx
    refine ⟨?_, ?_, e3⟩
    · simp only; rw [if_neg (by omega), if_neg (by omega)]; exact e1
    · simp only; rw [if_neg (by omega), if_neg (by omega)]; exact e2
theorem zip_at {vs : List Int} {cs : List Bool} {k : Nat} (h : k < vs.length) : (zipCo vs cs)[k]? = some (coI (cs.getD k false), vs[k]) := by
  rw [zipCo_get, List.getElem?_eq_getElem h]; rfl
set_option maxHeartbeats 4000000 in
set_option maxRecDepth 100000 in
theorem boundIn_any (vv vc : Value) (vs : List Int) (cs : List Bool) (t : Nd) (va vb : Value) (w : World) (hv : RInts w vv vs) (hc : RBools w vc cs) (hl : vs.length ≤ 1048576) :
    Calls Tryz.prog 81 #[brV vv vc t va vb] w fun e w' => (∃ u, e = .returned u ∧ RVrs w' u (zipCo vs cs)) ∧ Ext w w' := by
  have HV := Lib.hid hv; have HC := Lib.hid hc
  obtain ⟨A, c, rfl, -, -⟩ := hv.form
  obtain ⟨A2, c2, rfl, -, hm2⟩ := hc.form
  unfold maxLen at hm2
  have hcl : cs.length ≤ 9223372036854775807 := by obtain ⟨_, _, e, h1, h2, _⟩ := hc; unfold maxLen at h2; cases e; omega
  clear hv hc
  have hmk := fun w => make_any Tryz.underlying76 Tryz.iVar (by decide) w vs.length (by omega)
  go_enter Tryz.func81, Tryz.ntmps81
  go_wp2
  have HP := Lib.hid (PBlk.made (w.alloc (.cells #[.slice A vs.length c, .slice A2 cs.length c2, .int .i64 t.op, .int .i64 t.n, .int .i64 t.ty, va, vb] 97)) #[.int .i64 0, .int .i64 0] (by decide) (vs.length * 2) 80)
  have HX := Lib.hid (heapNew w (.cells #[.slice A vs.length c, .slice A2 cs.length c2, .int .i64 t.op, .int .i64 t.n, .int .i64 t.ty, va, vb] 97))
  have HE := Lib.hid (Ext.al2 w (.cells #[.slice A vs.length c, .slice A2 cs.length c2, .int .i64 t.op, .int .i64 t.n, .int .i64 t.ty, va, vb] 97) (.cells (madeCells #[.int .i64 0, .int .i64 0] (vs.length * 2)) 80))
  have hz : (w.alloc (.cells #[.slice A vs.length c, .slice A2 cs.length c2, .int .i64 t.op, .int .i64 t.n, .int .i64 t.ty, va, vb] 97)).heap.size = w.heap.size + 1 := by simp
  rw [hz] at HP
  have HB := Lib.hid (Ext.lt (Ext.al (w.alloc (.cells #[.slice A vs.length c, .slice A2 cs.length c2, .int .i64 t.op, .int .i64 t.n, .int .i64 t.ty, va, vb] 97)) (.cells (madeCells #[.int .i64 0, .int .i64 0] (vs.length * 2)) 80)) HX.out)
  clear HX hz hmk
  generalize (w.alloc _).alloc _ = w2 at *
  go_loopw [13] (fun i wr => ∃ (k : Nat) (f : Nat → Value), k ≤ vs.length ∧ i = .int .i64 k ∧ PBlk wr (w.heap.size + 1) 80 (vs.length * 2) f ∧ (∀ (i : Nat) (x : Vr), i < k → (zipCo vs cs)[i]? = some x → f (i * 2) = .int .i64 x.1 ∧ f (i * 2 + 1) = .int .i64 x.2 ∧ ok64 x.1 ∧ ok64 x.2) ∧ Only (fun j => j = w.heap.size + 1) w2 wr) (fun i _ => vs.length - (intOf i).toNat)
  case atStart => exact ⟨0, _, Nat.zero_le _, rfl, HP.out, fun i x h => by omega, Only.rf _ _⟩
  case round =>
    obtain ⟨k, f, hk, rfl, hp, hf, ho⟩ := hrel
    have HPK := Lib.hid hp; have HF := Lib.hid hf; have HO := Lib.hid ho
    have HX : Hid (Ext w wr) := HE.out.trans (ho.below (B := w.heap.size) HE.out.size (fun j h => by omega))
    have hbr := ho.lt HB.out (by omega)
    have b0 := cellAt hbr 0
    have b1 := cellAt hbr 1
    clear hp hf ho hbr
    by_cases hlt : k < vs.length
    · obtain ⟨b, o, rfl, hbl, y0, hok⟩ := HV.out.at_ hlt
      have y0 := HX.out.keep y0
      have HOK := Lib.hid hok
      have HZ := Lib.hid (zip_at (cs := cs) hlt)
      clear hok
      have z0 := HPK.out.cell (i := k * 2) (by omega)
      have z1 := HPK.out.cell (i := k * 2 + 1) (by omega)
      have q0 := HPK.out.frozen (k * 2)
      have q1 := HPK.out.frozen (k * 2 + 1)
      generalize vs[k] = v at *
      by_cases hco : k < cs.length
      · obtain ⟨b3, o3, rfl, hbl3, u0⟩ := HC.out.at_ hco
        have u0 := HX.out.keep u0
        have HCO : Hid (cs.getD k false = cs[k]) := getD_at _ hco
        generalize cs[k] = cc at *
        go_wp2_with (go_at_call 112; (with_reducible refine (sortOf_any _ _).mono ?_); rintro e w3 ⟨rfl, rfl⟩)
        exact ⟨⟨k + 1, _, by omega, by go_num, (HPK.out.set (by omega) _).set (by omega) _, vr_step HF.out (by rw [HZ.out, HCO.out]) (ok_coI _) HOK.out, (HO.out.tr (Only.setCell (C := fun j => j = w.heap.size + 1) (p := ⟨w.heap.size + 1, _, none⟩) rfl _ _)).tr (Only.setCell (C := fun j => j = w.heap.size + 1) (p := ⟨w.heap.size + 1, _, none⟩) rfl _ _)⟩, by simp [intOf]; omega⟩
      · have HCO : Hid (cs.getD k false = false) := by show cs.getD k false = false; rw [List.getD_eq_getElem?_getD, List.getElem?_eq_none (by omega)]; rfl
        go_wp2_with (go_at_call 112; (with_reducible refine (sortOf_any _ _).mono ?_); rintro e w3 ⟨rfl, rfl⟩)
        exact ⟨⟨k + 1, _, by omega, by go_num, (HPK.out.set (by omega) _).set (by omega) _, vr_step HF.out (by rw [HZ.out, HCO.out]) (ok_coI false) HOK.out, (HO.out.tr (Only.setCell (C := fun j => j = w.heap.size + 1) (p := ⟨w.heap.size + 1, _, none⟩) rfl _ _)).tr (Only.setCell (C := fun j => j = w.heap.size + 1) (p := ⟨w.heap.size + 1, _, none⟩) rfl _ _)⟩, by simp [intOf]; omega⟩
    · have hkl : k = vs.length := by omega
      subst hkl
      have HL := Lib.hid (zipCo_length vs cs)
      have HR : Hid (RVrs wr (.slice (some ⟨w.heap.size + 1, 0, none⟩) vs.length vs.length) (zipCo vs cs)) := by
        have h := PBlk.vrs (l := zipCo vs cs) (w := wr) (g := w.heap.size + 1) (T := 80) (f := f) (by rw [zipCo_length]; exact HPK.out) (by rw [zipCo_length]; unfold maxLen; omega) (fun i x hi => HF.out i x (by have := (List.getElem?_eq_some_iff.1 hi).1; rw [zipCo_length] at this; exact this) hi)
        rw [zipCo_length] at h
        exact h
      go_wp2
      go_ret
      exact ⟨⟨_, rfl, HR.out⟩, HX.out⟩
/-! sorts, compared -/
set_option maxHeartbeats 4000000 in
set_option maxRecDepth 100000 in
theorem eqSorts_any (v1 v2 : Value) (l1 l2 : List Int) (w : World) (h1 : RInts w v1 l1) (h2 : RInts w v2 l2) :
    Calls Tryz.prog 140 #[v1, v2] w fun e w' => e = .returned (.bool (decide (l1 = l2))) ∧ Ext w w' := by
  have H1 := Lib.hid h1; have H2 := Lib.hid h2
  obtain ⟨A1, c1, rfl, hc1, hm1⟩ := h1.form
  obtain ⟨A2, c2, rfl, hc2, hm2⟩ := h2.form
  clear h1 h2
  unfold maxLen at hm1 hm2
  by_cases hl : l1.length = l2.length
  · have HL := Lib.hid hl
    rw [← hl]
    clear hl hc2 hm2
    go_enter Tryz.func140, Tryz.ntmps140
    go_wp2
    go_loopw [13] (fun i wr => ∃ k : Nat, k ≤ l1.length ∧ i = .int .i64 k ∧ l1.take k = l2.take k ∧ Ext w wr) (fun i _ => l1.length - (intOf i).toNat)
    case atStart => exact ⟨0, Nat.zero_le _, rfl, rfl, Ext.rf _⟩
    case round =>
      obtain ⟨k, hk, rfl, htk, hb⟩ := hrel
      have HTK := Lib.hid htk; have HB := Lib.hid hb
      clear htk hb
      by_cases hlt : k < l1.length
      · have HLT2 : Hid (k < l2.length) := by show k < l2.length; rw [← HL.out]; exact hlt
        obtain ⟨b, o, rfl, hbl, y0, -⟩ := H1.out.at_ hlt
        obtain ⟨b2, o2, e2, hbl2, z0, -⟩ := H2.out.at_ HLT2.out
        subst e2
        have y0 := HB.out.keep y0
        have z0 := HB.out.keep z0
        have hS1 : Hid (l1.take (k + 1) = l1.take k ++ [l1[k]]) := List.take_succ_eq_append_getElem hlt
        have hS2 : Hid (l2.take (k + 1) = l2.take k ++ [l2[k]'HLT2.out]) := List.take_succ_eq_append_getElem HLT2.out
        have hN : Hid (l1[k] ≠ l2[k]'HLT2.out → decide (l1 = l2) = false) := fun hne => decide_eq_false (fun e => hne (by subst e; rfl))
        have hki : (k : Int) < l1.length := by omega
        generalize l1[k] = x at *
        generalize l2[k]'HLT2.out = y at *
        by_cases hxy : x = y
        · have HXY := Lib.hid hxy
          have hq : (x != y) = false := by rw [hxy]; simp
          have hq2 : (x == y) = true := by rw [hxy]; simp
          clear hxy
          go_wp2
          go_quiet (fail)
          go_wp2
          exact ⟨⟨k + 1, by omega, by go_num, by rw [hS1.out, hS2.out, HTK.out, HXY.out], HB.out.drewN _⟩, by simp [intOf]; omega⟩
        · have HXY := Lib.hid (hN.out hxy)
          have hq : (x != y) = true := by simpa using hxy
          have hq2 : (x == y) = false := by simpa using hxy
          clear hxy
          go_wp2
          go_quiet (fail)
          go_wp2
          go_ret
          exact ⟨ret_bool HXY.out.symm, HB.out.drewN _⟩
      · have hkl : k = l1.length := by omega
        subst hkl
        have HR : Hid (decide (l1 = l2) = true) := decide_eq_true (by have := HTK.out; rw [List.take_length, HL.out, List.take_length] at this; exact this)
        go_wp2
        go_ret
        exact ⟨ret_bool HR.out.symm, HB.out⟩
  · have HN : Hid (decide (l1 = l2) = false) := decide_eq_false (fun e => hl (by rw [e]))
    go_enter Tryz.func140, Tryz.ntmps140
    go_wp2
    go_ret
    exact ⟨ret_bool HN.out.symm, Ext.rf _⟩
end Go.Proofs.YtkdhhcidpklgoaaGreatDoor

/- slices.Backward, of variables. -/
namespace Go.Proofs.YtkdhhcidpklgoaaGreatDoor
open Go.RowKit Go.Shelf
attribute [local go_sem] Oper.semAt_some

/-- What Backward hands over. -/
def revL (l : List Vr) : List (Nat × Vr) := (List.range l.length).map fun m => (l.length - 1 - m, l.getD (l.length - 1 - m) (0, 0))
theorem revL_length (l : List Vr) : (revL l).length = l.length := by simp [revL]
theorem revL_get {l : List Vr} {m : Nat} (h : m < l.length) : (revL l)[m]? = some (l.length - 1 - m, l[l.length - 1 - m]'(by omega)) := by
  unfold revL
  rw [List.getElem?_map, List.getElem?_range h]
  simp only [Option.map_some]
  rw [getD_at _ (by omega)]
def RIx (y : Nat × Vr) (vs : Array Value) (A : World) : Prop := vs = #[.int .i64 y.1, vrV y.2]
theorem RIx.size {y : Nat × Vr} {vs : Array Value} {A : World} (h : RIx y vs A) : vs.size = 2 := by rw [show vs = _ from h]; rfl
theorem take_snoc' {α : Type} {l : List α} {k : Nat} {x : α} (h : l[k]? = some x) : l.take (k + 1) = l.take k ++ [x] := by
  obtain ⟨hlt, rfl⟩ := List.getElem?_eq_some_iff.1 h
  exact List.take_succ_eq_append_getElem hlt
set_option maxHeartbeats 4000000 in
set_option maxRecDepth 100000 in
theorem back_iter (C : Nat → Prop) (w0 : World) (A : Option Addr) (c : Nat) (l : List Vr) (g : Nat) (hA : RVrs w0 (.slice A l.length c) l) (hC : ∀ j, C j → ∃ es clock, w0.heap[j]? = some (.map es clock))
    (hg : w0.heap[g]? = some (.cells #[.slice A l.length c] 76 (0, 0))) (hgC : ¬ C g) (hl : l.length ≤ 1048576) :
    Iter Tryz.prog 134 #[.pointer (some ⟨g, 0, none⟩)] C (revL l) RIx w0 := by
  intro lp J Jx W hW hJ hJx hY h0
  have hgl := heap_lt hg
  have HG : Hid (∀ A', Only (fun j => C j ∨ (w0.heap.size ≤ j ∧ j < W.heap.size)) W A' → (∀ p v, w0.cell? p = some v → A'.cell? p = some v) ∧ A'.heap[g]? = some (.cells #[.slice A l.length c] 76 (0, 0))) := fun A' h => by
    have h1 : Only C w0 A' := ((Only.of_ext hW).tr h).mono (fun k hk hc => by rcases hc with hc | hc; exact hc; omega)
    refine ⟨fun p v hv => cell_only h1 hC hv, ?_⟩
    refine (h.block g (Nat.lt_of_lt_of_le hgl hW.size) (fun hj => by rcases hj with hj | hj; exact hgC hj; omega)).trans ((hW.block g hgl).trans hg)
  have HA := Lib.hid hA; have HY := Lib.hid hY; have HJ := Lib.hid hJ; have HJx := Lib.hid hJx
  clear hA hY hJ hJx hC hg hgC hgl
  have hdd : ∀ k : Nat, (Fence.wide.depth.isSome = true → 1 ≤ k) := fun k h => by cases h
  refine callsIn_wide.1 (callsIn_of_wp (n := 0) Tryz.func134 rfl trivial ?_ rfl)
  simp only [Tryz.ntmps134, List.size_toArray, List.length_cons, List.length_nil, Nat.reduceAdd, Nat.reduceSub, Array.replicate_succ, Array.replicate_zero, List.push_toArray, List.append_toArray, List.nil_append, List.cons_append]
  have hc4 := cellAt (HG.out W (Only.rf _ _)).2 0
  gi_wp2
  gi_loopw [3] (fun i wr => ∃ m : Nat, m ≤ l.length ∧ i = .int .i64 ((l.length : Int) - 1 - m) ∧ Only (fun j => C j ∨ (w0.heap.size ≤ j ∧ j < W.heap.size)) W wr ∧ J ((revL l).take m) wr) (fun i _ => (intOf i + 1).toNat)
  case atStart => exact ⟨0, Nat.zero_le _, by simp, Only.rf _ _, h0⟩
  case round =>
    obtain ⟨m, hm, rfl, ho, hJr⟩ := hrel
    have HO := Lib.hid ho; have HJr := Lib.hid hJr
    clear ho hJr hc4
    by_cases hlt : m < l.length
    · have HK := Lib.hid (revL_get hlt)
      obtain ⟨k, hk⟩ : ∃ k : Nat, l.length - 1 - m = k := ⟨_, rfl⟩
      have hkl : k < l.length := by omega
      have e : (l.length : Int) - 1 - m = k := by omega
      obtain ⟨b, o, rfl, hbl, y0, y1, -⟩ := HA.out.at_ hkl
      have hE := (HG.out wr HO.out).1
      have y0 := hE _ _ y0
      have y1 := hE _ _ y1
      have hH := cellAt (HG.out wr HO.out).2 0
      have HKK : Hid ((revL l)[m]? = some (k, l[k])) := by show _ = _; have := HK.out; simp only [hk] at this; exact this
      clear hE HK hk
      rw [e]
      generalize l[k] = x at *
      have HYW : Hid (YieldW Tryz.prog lp #[.int .i64 (k : Nat), vrV x] wr
          (YesNo (fun B => J ((revL l).take (m + 1)) B ∧ Only (fun j => C j ∨ (w0.heap.size ≤ j ∧ j < W.heap.size)) W B) Jx)) := by
        refine (HY.out ((revL l).take m) (k, x) _ wr (by rw [← take_snoc' HKK.out]; exact List.take_prefix _ _) HJr.out rfl HO.out.size).mono fun e B h => yesNo_of ?_
        rcases h with ⟨he, h1, h2⟩ | h
        · exact .inl ⟨he, by rw [take_snoc' HKK.out]; exact h1, HO.out.tr h2⟩
        · exact .inr ⟨h.1, h.2.1⟩
      have hmx : Tryz.prog.follows .mixedOrders = true := by kernel_rfl
      obtain ⟨fn, tmps, assign, body, hy, hR⟩ := HYW.out
      gi_wp2
      refine ⟨rfl, ?_⟩
      refine (hR _).mono ?_
      rintro e W3 ⟨q, rfl, hq⟩
      clear y0 y1 hH hy hR
      cases q
      · have HQ := Lib.hid (hq.out.2 rfl)
        clear hq
        gi_wp2
        refine bodyPost_ret (results_none rfl _ _ _) rfl ?_
        exact ⟨⟨_, rfl⟩, .inr HQ.out⟩
      · have HQ := Lib.hid (hq.out.1 rfl)
        have hk0 : 0 ≤ (k : Int) := by omega
        clear hq
        gi_wp2
        exact ⟨⟨m + 1, by omega, by rw [show (l.length : Int) - 1 - ((m + 1 : Nat) : Int) = (k : Int) - 1 by omega], HQ.out.2, HQ.out.1⟩, by simp [intOf]; try omega⟩
    · have hml : m = l.length := by omega
      have e : (l.length : Int) - 1 - m = -1 := by omega
      have HJ2 : Hid (J (revL l) wr) := by have := HJr.out; rw [List.take_of_length_le (by rw [revL_length]; omega)] at this; exact this
      rw [e]
      gi_wp2
      go_end0
      exact ⟨⟨_, rfl⟩, .inl HJ2.out⟩
end Go.Proofs.YtkdhhcidpklgoaaGreatDoor
