/- kind: a new checker. -/
import Derived.Test.YtkdhhcidpklgoaaGreatDoorQ16
import Derived.Deep.RegionWith
import Derived.Deep.RegionHeld3
namespace Go.Proofs.YtkdhhcidpklgoaaGreatDoor
open Go.RowKit Go.Shelf Go.Maps
attribute [local go_sem] Oper.semAt_some

set_option maxHeartbeats 4000000 in
set_option maxRecDepth 100000 in
theorem newChecker_any (vd vf : Value) (C : Cg) (w : World) (hC : RCg w vd vf C) : Calls Tryz.prog 21 #[cV vd vf] w fun e w' => ∃ mx mc, e = .returned (ckV vd vf mx mc) ∧ SCX w' w'.heap.size mx mc 0 (fun _ => nilS) (fun _ => []) ∧ Ext w w' ∧ w.heap.size ≤ mx ∧ w.heap.size ≤ mc := by
  obtain ⟨Ad, cd, rfl, -, -⟩ := hC.d.form
  obtain ⟨Af, cf, rfl, -, -⟩ := hC.f.form
  clear hC
  have HE2 := Lib.hid (Ext.al2 w (.cells #[.slice Ad C.decls.length cd, .slice Af C.funs.length cf] 25) (.cells #[.slice none 0 0, .slice none 0 0, .map none, .map none] 64))
  have HB1 := Lib.hid (Ext.lt (Ext.al (w.alloc (.cells #[.slice Ad C.decls.length cd, .slice Af C.funs.length cf] 25)) (.cells #[.slice none 0 0, .slice none 0 0, .map none, .map none] 64)) (heapNew w (.cells #[.slice Ad C.decls.length cd, .slice Af C.funs.length cf] 25)))
  have HB2 := Lib.hid (heapNew2 w (.cells #[.slice Ad C.decls.length cd, .slice Af C.funs.length cf] 25) (.cells #[.slice none 0 0, .slice none 0 0, .map none, .map none] 64))
  have hz2 : ((w.alloc (.cells #[.slice Ad C.decls.length cd, .slice Af C.funs.length cf] 25)).alloc (.cells #[.slice none 0 0, .slice none 0 0, .map none, .map none] 64)).heap.size = w.heap.size + 2 := by simp
  have HZ2 := Lib.hid hz2
  clear hz2
  go_enter Tryz.func21, Tryz.ntmps21
  go_wp2
  generalize (w.alloc _).alloc _ = w2 at *
  have p0 := cellAt HB1.out 0
  have p1 := cellAt HB1.out 1
  go_region_with (go_at_call 49; (with_reducible refine (newScopes_any _).mono ?_); rintro e w3 ⟨mx, mc, rfl, hs3, hx3, hm1, hm2⟩; have hx3 : Ext w2 w3 := Ext.tr (b := w2.drew) (Ext.rf w2).drew hx3; have HX3 := Lib.hid hx3; have HS3 := Lib.hid hs3; have hb1 := hx3.lt HB1.out; have hb2 := hx3.lt HB2.out; have HB3 := Lib.hid hb2; have k0 := cellAt hb1 0; have k1 := cellAt hb1 1; have r0 := cellAt hb2 0; have r1 := cellAt hb2 1; have r2 := cellAt hb2 2; have r3 := cellAt hb2 3; have f0 := frozenAt hb2 0; have f1 := frozenAt hb2 1; have f2 := frozenAt hb2 2; have f3 := frozenAt hb2 3; have HM1 := Lib.hid hm1; have HM2 := Lib.hid hm2; clear hx3 hs3 hb1 hb2 hm1 hm2)
  all_goals
    go_wp2
    have hfin := blk_set (blk_set (blk_set (blk_set HB3.out 0 (.slice Ad C.decls.length cd)) 1 (.slice Af C.funs.length cf)) 2 (.map (some mx))) 3 (.map (some mc))
    have hz2 := HZ2.out
    have hs : ∀ (W : World) i v, Only (fun b => b = w.heap.size + 1) W (W.setCell ⟨w.heap.size + 1, i, none⟩ v) := fun W i v => Only.setCell (C := fun b => b = w.heap.size + 1) (p := ⟨w.heap.size + 1, i, none⟩) rfl W v
    have hm1 : w2.heap.size ≤ mx := HM1.out
    have hm2 : w2.heap.size ≤ mc := HM2.out
    have hon : Only (fun b => b = w.heap.size + 1) w3 ((((w3.setCell ⟨w.heap.size + 1, 0, none⟩ (.slice Ad C.decls.length cd)).setCell ⟨w.heap.size + 1, 1, none⟩ (.slice Af C.funs.length cf)).setCell ⟨w.heap.size + 1, 2, none⟩ (.map (some mx))).setCell ⟨w.heap.size + 1, 3, none⟩ (.map (some mc))) := (((hs _ 0 _).tr (hs _ 1 _)).tr (hs _ 2 _)).tr (hs _ 3 _)
    have hsc : SCX ((((w3.setCell ⟨w.heap.size + 1, 0, none⟩ (.slice Ad C.decls.length cd)).setCell ⟨w.heap.size + 1, 1, none⟩ (.slice Af C.funs.length cf)).setCell ⟨w.heap.size + 1, 2, none⟩ (.map (some mx))).setCell ⟨w.heap.size + 1, 3, none⟩ (.map (some mc))) w3.heap.size mx mc 0 (fun _ => nilS) (fun _ => []) := HS3.out.only hon (by omega) (by omega) (fun j hj => by obtain ⟨v, hv⟩ := hj; cases hv)
    have hsz : ((((w3.setCell ⟨w.heap.size + 1, 0, none⟩ (.slice Ad C.decls.length cd)).setCell ⟨w.heap.size + 1, 1, none⟩ (.slice Af C.funs.length cf)).setCell ⟨w.heap.size + 1, 2, none⟩ (.map (some mx))).setCell ⟨w.heap.size + 1, 3, none⟩ (.map (some mc))).heap.size = w3.heap.size := by simp [World.setCell]
    have hbel : Ext w ((((w3.setCell ⟨w.heap.size + 1, 0, none⟩ (.slice Ad C.decls.length cd)).setCell ⟨w.heap.size + 1, 1, none⟩ (.slice Af C.funs.length cf)).setCell ⟨w.heap.size + 1, 2, none⟩ (.map (some mx))).setCell ⟨w.heap.size + 1, 3, none⟩ (.map (some mc))) := Below.setNew (Below.setNew (Below.setNew (Below.setNew (HE2.out.tr HX3.out) (by omega) _) (by omega) _) (by omega) _) (by omega) _
    rw [← hsz] at hsc
    generalize (((w3.setCell _ _).setCell _ _).setCell _ _).setCell _ _ = w9 at *
    have z0 := cellAt hfin 0
    have z1 := cellAt hfin 1
    have z2 := cellAt hfin 2
    have z3 := cellAt hfin 3
    exact bodyPost_ret (v := ckV (.slice Ad C.decls.length cd) (.slice Af C.funs.length cf) mx mc) (by simp [results, Tryz.results21, go_sem, z0, z1, z2, z3]) rfl ⟨mx, mc, rfl, hsc, hbel, by omega, by omega⟩
end Go.Proofs.YtkdhhcidpklgoaaGreatDoor

/- kind: what validity gives. -/
namespace Go.Proofs.YtkdhhcidpklgoaaGreatDoor
open Go.RowKit Go.Shelf Go.Maps

theorem up_ok {C : Cg} {q : Bool} {op n ty : Int} {na : Nat} {brs : List Br} {fa fb : List Int} (h : upN C q op n ty na brs fa fb ≠ 3) : okN C q op n ty na brs fa fb = true ∧ 0 ≤ op ∧ op ≤ 14 := by
  unfold upN at h
  split at h
  · rename_i hk
    refine ⟨hk, ?_⟩
    unfold sortOp at h
    by_cases h0 : op < 0
    · rw [if_pos h0] at h; exact (h rfl).elim
    · by_cases h4 : op ≤ 4
      · omega
      · by_cases h8 : op ≤ 8
        · omega
        · by_cases h14 : op ≤ 14
          · omega
          · rw [if_neg h0, if_neg h4, if_neg h8, if_neg h14] at h; exact (h rfl).elim
  · exact (h rfl).elim
structure OkQ (C : Cg) (q : Bool) (op n ty : Int) (na : Nat) (brs : List Br) (fa fb : List Int) : Prop where
  un : usesN op = true ∨ n = 0
  ut : usesT op = true ∨ ty = 0
  rf : refersB C q op n ty = true
  na : na = (wantS C op n ty).length
  fa : fa = wantS C op n ty
  bl : brs.length = (if usesB op then xtorsC C ty else []).length
  fb : fitBr (if usesB op then xtorsC C ty else []) brs fb = true
theorem ok_parts {C : Cg} {q : Bool} {op n ty : Int} {na : Nat} {brs : List Br} {fa fb : List Int} (h : okN C q op n ty na brs fa fb = true) : OkQ C q op n ty na brs fa fb := by
  unfold okN at h
  simp only [Bool.and_eq_true, Bool.or_eq_true, decide_eq_true_eq] at h
  obtain ⟨⟨⟨h1, h2⟩, h3⟩, ⟨⟨h4, h5⟩, h6⟩, h7⟩ := h
  exact ⟨h1, h2, h3, h4, h5, h6, h7⟩
theorem fitBr_at : ∀ {xs : List Xtor} {bs : List Br} {ss : List Int} {i : Nat} {x : Xtor} {b : Br} {s : Int}, fitBr xs bs ss = true → xs[i]? = some x → bs[i]? = some b → ss[i]? = some s → bindsB b.1 b.2.1 x.args = true ∧ s = 2
  | x :: xs, b :: bs, s :: ss, 0, x', b', s', h, h1, h2, h3 => by
    simp only [fitBr, Bool.and_eq_true, decide_eq_true_eq] at h
    cases h1; cases h2; cases h3
    exact h.1
  | x :: xs, b :: bs, s :: ss, i + 1, x', b', s', h, h1, h2, h3 => by
    simp only [fitBr, Bool.and_eq_true, decide_eq_true_eq] at h
    exact fitBr_at h.2 h1 h2 h3
  | [], _, _, i, x', b', s', h, h1, h2, h3 => by simp at h1
  | _ :: _, [], _, i, x', b', s', h, h1, h2, h3 => by simp at h2
  | _ :: _, _ :: _, [], i, x', b', s', h, h1, h2, h3 => by simp at h3
theorem wantS_small {C : Cg} {op n ty : Int} : ∀ s ∈ wantS C op n ty, s ≠ 3 := by
  intro s hs
  unfold wantS at hs
  split at hs
  · obtain ⟨a, _, rfl⟩ := List.mem_map.1 hs
    unfold coI; split <;> decide
  · unfold argsS at hs
    repeat' (split at hs)
    all_goals
      simp only [List.mem_cons, List.not_mem_nil, or_false] at hs
      try omega
theorem binds_lens {v : List Int} {co : List Bool} {ags : List Arg} (h : bindsB v co ags = true) : v.length = ags.length ∧ co.length = ags.length := by
  unfold bindsB at h
  simp only [Bool.and_eq_true, decide_eq_true_eq] at h
  exact ⟨h.1.1, h.1.2⟩
/-- What is known of a valid node. -/
theorem sort_parts {C : Cg} {S : Sc} {t : Nd} (h : sortN C S t ≠ 3) : OkQ C (inN S t.op t.n) t.op t.n t.ty t.args.length t.brs (if leafB t.op then [] else sortA C (addS S (muV t.op t.n)) t.args) (if leafB t.op then [] else sortB C S t.brs) ∧ 0 ≤ t.op ∧ t.op ≤ 14 := by
  rw [sortN_eq] at h
  obtain ⟨h1, h2⟩ := up_ok h
  exact ⟨ok_parts h1, h2⟩
theorem leaf_lists {C : Cg} {S : Sc} {t : Nd} (h : sortN C S t ≠ 3) (hl : leafB t.op = true) : t.args = [] ∧ t.brs = [] := by
  obtain ⟨hk, -⟩ := sort_parts h
  have h1 := hk.fa
  rw [hl] at h1
  have h2 := hk.na
  have h1' : (wantS C t.op t.n t.ty) = [] := h1.symm
  rw [h1'] at h2
  have h3 := hk.bl
  have hu : usesB t.op = false := by
    unfold leafB at hl
    simp only [Bool.or_eq_true, decide_eq_true_eq] at hl
    unfold usesB; exact decide_eq_false (by omega)
  rw [hu] at h3
  exact ⟨List.eq_nil_of_length_eq_zero (by simpa using h2), List.eq_nil_of_length_eq_zero (by simpa using h3)⟩
theorem sort_arg {C : Cg} {S : Sc} {t : Nd} (h : sortN C S t ≠ 3) {i : Nat} {x : Nd} (hi : t.args[i]? = some x) : sortN C (addS S (muV t.op t.n)) x ≠ 3 := by
  cases hl : leafB t.op
  · obtain ⟨hk, -⟩ := sort_parts h
    have h1 := hk.fa
    rw [hl] at h1
    have h1 : sortA C (addS S (muV t.op t.n)) t.args = wantS C t.op t.n t.ty := h1
    refine wantS_small (C := C) (op := t.op) (n := t.n) (ty := t.ty) _ ?_
    rw [← h1, sortA_map]
    exact List.mem_map.2 ⟨x, List.mem_of_getElem? hi, rfl⟩
  · rw [(leaf_lists h hl).1] at hi; simp at hi
theorem sort_br {C : Cg} {S : Sc} {t : Nd} (h : sortN C S t ≠ 3) {i : Nat} {b : Br} (hi : t.brs[i]? = some b) : ∃ x, (xtorsC C t.ty)[i]? = some x ∧ usesB t.op = true ∧ bindsB b.1 b.2.1 x.args = true ∧ sortN C (addS S (zipCo b.1 b.2.1)) b.2.2 = 2 := by
  cases hl : leafB t.op
  · obtain ⟨hk, -⟩ := sort_parts h
    have hb := hk.bl
    have hf := hk.fb
    rw [hl] at hf
    have hf : fitBr (if usesB t.op then xtorsC C t.ty else []) t.brs (sortB C S t.brs) = true := hf
    have hlt := (List.getElem?_eq_some_iff.1 hi).1
    cases hu : usesB t.op
    · rw [hu] at hb; simp at hb; rw [hb] at hi; simp at hi
    · rw [hu] at hb hf
      simp only [if_true] at hb hf
      have hx : (xtorsC C t.ty)[i]? = some ((xtorsC C t.ty)[i]'(by omega)) := List.getElem?_eq_getElem _
      have hs : (sortB C S t.brs)[i]? = some (sortN C (addS S (zipCo b.1 b.2.1)) b.2.2) := by rw [sortB_map, List.getElem?_map, hi]; rfl
      obtain ⟨h1, h2⟩ := fitBr_at hf hx hi hs
      exact ⟨_, hx, rfl, h1, h2⟩
  · rw [(leaf_lists h hl).2] at hi; simp at hi
end Go.Proofs.YtkdhhcidpklgoaaGreatDoor

/- kind: typeOf: what its parts answer, and what they keep. -/
namespace Go.Proofs.YtkdhhcidpklgoaaGreatDoor
open Go.RowKit Go.Shelf Go.Maps

/-- The variables that have a type are those in scope. -/
def EvIn (E : Ev) (S : Sc) : Prop := ∀ x, decide (0 < (E x).length) = S x
theorem cntV_any (l : List Vr) (x : Vr) : decide (0 < cntV l x) = l.any (fun y => x == y) := by
  induction l with
  | nil => rfl
  | cons y r ih =>
    unfold cntV at *
    rw [List.countP_cons, List.any_cons, ← ih]
    by_cases h : y = x
    · subst h; simp
    · have h1 : (x == y) = false := by rw [beq_eq_false_iff_ne]; exact fun e => h e.symm
      rw [h1]; simp [h]
theorem EvIn.push {E : Ev} {S : Sc} {l : List Vr} {ts : List Int} (h : EvIn E S) (hl : l.length ≤ ts.length) : EvIn (pushE E l ts) (addS S l) := fun x => by
  obtain ⟨zs, h1, h2⟩ := pushE_app l ts E hl x
  show _ = (l.any (fun y => x == y) || S x)
  rw [h1, List.length_append, h2, ← cntV_any, ← h x]
  by_cases a : 0 < cntV l x
  · rw [decide_eq_true a, decide_eq_true (by omega)]; rfl
  · rw [decide_eq_false a]; rw [show (E x).length + cntV l x = (E x).length by omega]; rfl
theorem cntV_le (l : List Vr) (x : Vr) : cntV l x ≤ l.length := List.countP_le_length
theorem push_len {E : Ev} {l : List Vr} {ts : List Int} {n : Nat} (h : ∀ x, (E x).length ≤ n) (hl : l.length ≤ ts.length) : ∀ x, (pushE E l ts x).length ≤ n + l.length := fun x => by
  obtain ⟨zs, h1, h2⟩ := pushE_app l ts E hl x
  have := h x; have := cntV_le l x
  rw [h1, List.length_append, h2]; omega
theorem push_cnt {E : Ev} {l : List Vr} {ts : List Int} (hl : l.length ≤ ts.length) : ∀ x, cntV l x ≤ (pushE E l ts x).length := fun x => by
  obtain ⟨zs, h1, h2⟩ := pushE_app l ts E hl x
  rw [h1, List.length_append, h2]; omega
section
variable {w w' wA : World} {base mx mc n : Nat} {g g' : Gv} {E : Ev}
theorem row_type {B e k : Nat} {v : Value} {m : Nat} {xs : List Value} (h : w.ownsRow B e k v m xs) {b : Nat} (hb : v.ownBlock = some b) : ∃ cs, w.heap[b]? = some (.cells cs e (0, 0)) := by
  rcases h.2 with ⟨rfl, -⟩ | ⟨g, cap, cur, rfl, hg, h3, -⟩
  · cases hb
  · cases hb; exact ⟨_, h3⟩
/-- A box of another type is no row. -/
theorem SCX.notRow (h : SCX w base mx mc n g E) {j : Nat} {cs : Array Value} {T : TypeId} {z : Nat × Nat} (hb : w.heap[j]? = some (.cells cs T z)) (hT : T ≠ 3) : ¬ rowsOf g j := fun ⟨v, hv⟩ => by
  obtain ⟨cs', hc⟩ := row_type (h.own v) hv
  rw [hb] at hc
  have q := Option.some.inj hc
  injection q with q1 q2
  exact hT q2
theorem SCX.notMap (h : SCX w base mx mc n g E) {j : Nat} {cs : Array Value} {T : TypeId} {z : Nat × Nat} (hb : w.heap[j]? = some (.cells cs T z)) : j ≠ mx ∧ j ≠ mc := by
  obtain ⟨es1, c1, h1⟩ := h.mp.is
  obtain ⟨es2, c2, h2⟩ := h.mq.is
  exact ⟨fun e => (by rw [e, h1] at hb; cases hb), fun e => (by rw [e, h2] at hb; cases hb)⟩
/-- A box of another type stays. -/
theorem Tr.box (t : Tr mx mc g g' w w') (h : SCX w base mx mc n g E) {j : Nat} {cs : Array Value} {T : TypeId} {z : Nat × Nat} (hb : w.heap[j]? = some (.cells cs T z)) (hT : T ≠ 3) : w'.heap[j]? = some (.cells cs T z) :=
  t.only.lt hb (fun hc => by
    have := h.notMap hb
    rcases hc with hc | hc | hc
    · exact this.1 hc
    · exact this.2 hc
    · exact h.notRow hb hT hc)
/-- What stood before the checker was made stays. -/
theorem Tr.keeps (t : Tr mx mc g g' w w') (h : SCX w base mx mc n g E) (hx : Ext wA w) (h1 : wA.heap.size ≤ mx) (h2 : wA.heap.size ≤ mc) (h3 : wA.heap.size ≤ base) : Ext wA w' :=
  hx.trans (Only.below (C := fun j => j = mx ∨ j = mc ∨ rowsOf g j) t.only hx.size (fun j hj => by
    rcases hj with hj | hj | hj
    · omega
    · omega
    · have := (h.lt hj).1; omega))
theorem Tr.ext {g2 : Gv} {w2 : World} (h : Ext w w2) (t : Tr mx mc g g2 w2 w') : Tr mx mc g g2 w w' := (Tr.of_ext h).tr t
theorem Tr.andExt {w2 : World} (t : Tr mx mc g g' w w') (h : Ext w' w2) : Tr mx mc g g' w w2 := t.tr (Tr.of_ext h)
/-- A slice that lies in none of the rows lies in none of those that a call has made since. -/
theorem Tr.apt (t : Tr mx mc g g' w w') {u : Value} (h : apart g u) (hlt : ∀ A k c b o, u = .slice A k c → A = some ⟨b, o, none⟩ → b < w.heap.size) : apart g' u := fun A k c b o e1 e2 hr => by
  rcases t.rows b hr with hc | hc
  · exact h A k c b o e1 e2 hc
  · have := hlt A k c b o e1 e2; omega
end
/-! ### what the parts answer -/
theorem typA_step {C : Cg} {E : Ev} {op n ty : Int} {l : List Nd} {k : Nat} (h : k < l.length) : typA C E op n ty k (l.drop k) = (decide (typN C E l[k] = some (wantT C op n ty k)) && typA C E op n ty (k + 1) (l.drop (k + 1))) := by
  rw [List.drop_eq_getElem_cons h, typA]
theorem typB_step {C : Cg} {E : Ev} {ty : Int} {l : List Br} {k : Nat} (h : k < l.length) : typB C E ty k (l.drop k) = ((typN C (pushE E (zipCo l[k].1 l[k].2.1) (((xtorsC C ty).getD k noXtor).args.map Arg.ty)) l[k].2.2).isSome && typB C E ty (k + 1) (l.drop (k + 1))) := by
  rw [List.drop_eq_getElem_cons h]
  obtain ⟨v, c, t⟩ := l[k]
  rw [typB]
abbrev tyR (o : Option Int) : Value := .tuple #[.int .i64 (o.getD 0), .bool o.isSome]
section
variable (C : Cg) (vd vf : Value) (wA : World) (base mx mc : Nat)
/-- What typeOf does at a node. -/
def TypS (t : Nd) (va vb : Value) : Prop :=
  ∀ (w : World) (n : Nat) (g : Gv) (E : Ev) (S : Sc), Ext wA w → base ≤ w.heap.size → SCX w base mx mc n g E → EvIn E S → (∀ x, (E x).length ≤ n) → sortN C S t ≠ 3 → n + 2 * bndN t ≤ 1000000000 →
    Calls Tryz.prog 37 #[ckV vd vf mx mc, nV t va vb] w fun e w' => e = .returned (tyR (typN C E t)) ∧ ∃ g', SCX w' base mx mc (n + 2 * bndN t) g' E ∧ Tr mx mc g g' w w'
/-- What branch does. -/
def TypBS (vs : List Int) (cs : List Bool) (t : Nd) (vv vc xa xb : Value) : Prop :=
  ∀ (w : World) (n : Nat) (g : Gv) (E : Ev) (S : Sc) (va : Value) (ags : List Arg), Ext wA w → base ≤ w.heap.size → SCX w base mx mc n g E → EvIn E S → (∀ x, (E x).length ≤ n) → RInts w vv vs → RBools w vc cs → RArgs wA va ags → (∀ a ∈ ags, ok64 a.ty) → vs.length = ags.length → sortN C (addS S (zipCo vs cs)) t ≠ 3 → n + 2 * (vs.length + bndN t) ≤ 1000000000 →
    Calls Tryz.prog 50 #[ckV vd vf mx mc, brV vv vc t xa xb, va] w fun e w' => e = .returned (.bool (typN C (pushE E (zipCo vs cs) (ags.map Arg.ty)) t).isSome) ∧ ∃ g', SCX w' base mx mc (n + 2 * (vs.length + bndN t)) g' E ∧ Tr mx mc g g' w w'
/-- What args does. -/
def TypAS (t : Nd) (va vb : Value) : Prop :=
  ∀ (w : World) (n : Nat) (g : Gv) (E : Ev) (S : Sc), Ext wA w → base ≤ w.heap.size → SCX w base mx mc n g E → EvIn E S → (∀ x, (E x).length ≤ n) → sortN C S t ≠ 3 → n + 2 * (1 + bndA t.args) ≤ 1000000000 →
    Calls Tryz.prog 68 #[ckV vd vf mx mc, nV t va vb] w fun e w' => e = .returned (.bool (typA C (pushE E (muV t.op t.n) [t.ty]) t.op t.n t.ty 0 t.args)) ∧ ∃ g', SCX w' base mx mc (n + 2 * (1 + bndA t.args)) g' E ∧ Tr mx mc g g' w w'
/-- What branches does. -/
def TypBB (t : Nd) (va vb : Value) : Prop :=
  ∀ (w : World) (n : Nat) (g : Gv) (E : Ev) (S : Sc), Ext wA w → base ≤ w.heap.size → SCX w base mx mc n g E → EvIn E S → (∀ x, (E x).length ≤ n) → sortN C S t ≠ 3 → n + 2 * bndB t.brs ≤ 1000000000 →
    Calls Tryz.prog 69 #[ckV vd vf mx mc, nV t va vb] w fun e w' => e = .returned (.bool (typB C E t.ty 0 t.brs)) ∧ ∃ g', SCX w' base mx mc (n + 2 * bndB t.brs) g' E ∧ Tr mx mc g g' w w'
end
end Go.Proofs.YtkdhhcidpklgoaaGreatDoor

/- kind: what a deferred restore finds; heads.Types makes a new slice. -/
namespace Go.Proofs.YtkdhhcidpklgoaaGreatDoor
open Go.RowKit Go.Shelf Go.Maps
attribute [local go_sem] Oper.semAt_some

theorem own_new {w : World} {B e k : Nat} {v : Value} {n : Nat} {xs : List Value} (h : w.ownsRow B e k v n xs) : newAt B v := fun A m c b o e1 e2 => by
  rcases h.2 with ⟨rfl, -⟩ | ⟨g, cap, cur, rfl, hg, -⟩
  · cases e1; cases e2
  · cases e1; cases e2; exact hg
set_option maxHeartbeats 4000000 in
set_option maxRecDepth 100000 in
theorem types_new (v : Value) (l : List Arg) (w : World) (h : RArgs w v l) (hok : ∀ a ∈ l, ok64 a.ty) (hl : l.length ≤ 1048576) :
    Calls Tryz.prog 82 #[v] w fun e w' => (∃ u, e = .returned u ∧ RInts w' u (l.map Arg.ty) ∧ newAt w.heap.size u) ∧ Ext w w' := by
  have HR := Lib.hid h
  have HOK := Lib.hid hok
  obtain ⟨A, c, rfl, hc, hm⟩ := h.form
  clear h hok
  unfold maxLen at hm
  go_enter Tryz.func82, Tryz.ntmps82
  go_wp2
  go_loopw [3, 8] (fun s i wr => ∃ k : Nat, k ≤ l.length ∧ i = .int .i64 k ∧ wr.ownsRow w.heap.size 3 1 s k ((l.take k).map fun a => Value.int .i64 a.ty) ∧ Ext w wr) (fun _ i _ => l.length - (intOf i).toNat)
  case atStart => exact ⟨0, Nat.zero_le _, rfl, own_nil', Ext.rf _⟩
  case round =>
    obtain ⟨k, hk, rfl, hown, hb⟩ := hrel
    have HO := Lib.hid hown
    have HB := Lib.hid hb
    obtain ⟨As, cs, rfl⟩ := own_form hown
    clear hown hb
    by_cases hlt : k < l.length
    · obtain ⟨b, o, rfl, hbl, h0, h1⟩ := HR.out.at_ hlt
      have h0 := HB.out.keep h0
      have h1 := HB.out.keep h1
      have HS : Hid (l.take (k + 1) = l.take k ++ [l[k]]) := List.take_succ_eq_append_getElem hlt
      generalize l[k] = a at *
      go_wp2_with (at_builtin; refine wpl_app (t := 31) (e := 3) (size := 1) (bytes := 8) Tryz.underlying31 Tryz.iInt rfl (by decide) (by decide) rfl (.tmp 12) (.tmp 15) rfl w.heap.size _ k _ rfl (own_below HO.out (Ext.al2 _ _ _)) _ 1 1 [.int .i64 a.ty] rfl (src_one (heapNew2 _ _ _)) (one_mem rfl) (by omega) (Nat.le_trans HB.out.size (by simp; try omega)) ?_; rintro v' w' ho' hg' -)
      have HO2 := Lib.hid ho'
      have HG2 := Lib.hid (Below.trans (HB.out.tr (Ext.al2 _ _ _)) (grown_ext' (B := w.heap.size) hg' (own_below HO.out (Ext.al2 _ _ _)) (Nat.le_trans HB.out.size (by simp; try omega))))
      clear ho' hg'
      go_wp2
      go_roundw
      case rel => exact ⟨k + 1, by omega, by go_num, by rw [HS.out, List.map_append]; exact HO2.out, HG2.out⟩
      case measure => simp [intOf]; omega
    · have hkl : k = l.length := by omega
      have HK : Hid (l.take k = l) := List.take_of_length_le (by omega)
      subst hkl
      go_wp2
      go_ret
      refine ⟨⟨.slice As l.length cs, rfl, own_ints (B := w.heap.size) (e := 3) (l := l.map Arg.ty) (fun x hx => by obtain ⟨a, ha, rfl⟩ := List.mem_map.1 hx; exact HOK.out a ha) ?_, own_new HO.out⟩, HB.out⟩
      have := HO.out
      rw [HK.out] at this
      rw [List.length_map, List.map_map]; exact this

section
variable {w w' wA : World} {base mx mc n : Nat} {g g' : Gv} {E : Ev}
theorem Tr.cell (t : Tr mx mc g g' w w') (h : SCX w base mx mc n g E) {b o : Nat} {v : Value} (hb : ¬ rowsOf g b) (hv : w.cell? ⟨b, o, none⟩ = some v) : w'.cell? ⟨b, o, none⟩ = some v := by
  rw [World.cell?_of_block (t.only.block b (cell_lt hv) (fun hc => by
    rcases hc with hc | hc | hc
    · exact map_ne_cell h.mp.is hv hc
    · exact map_ne_cell h.mq.is hv hc
    · exact hb hc))]
  exact hv
theorem Tr.vrs (t : Tr mx mc g g' w w') (h : SCX w base mx mc n g E) {v : Value} {l : List Vr} (hr : RVrs w v l) (ha : 0 < l.length → apart g v) : RVrs w' v l := by
  obtain ⟨A, c, rfl, h1, h2, h3⟩ := hr
  refine ⟨A, c, rfl, h1, h2, fun i x hi => ?_⟩
  obtain ⟨b, o, e, hb, z0, z1, k0, k1⟩ := h3 i x hi
  have hn := ha (by have := (List.getElem?_eq_some_iff.1 hi).1; omega) A _ c b o rfl e
  exact ⟨b, o, e, Nat.lt_of_lt_of_le hb t.only.size, t.cell h hn z0, t.cell h hn z1, k0, k1⟩
end
/-- What bind leaves behind, for what it hands back. -/
structure Bnd (w w' : World) (base mx mc n gl gs : Nat) (g g' : Gv) (E' : Ev) (L : List Vr) (A : Option Addr) (c : Nat) : Prop where
  gl : w'.heap[gl]? = some (.cells #[.slice A L.length c] 76 (0, 0))
  gs : w'.heap[gs]? = some (.cells #[.map (some mx), .map (some mc)] 62 (0, 0))
  sc : SCX w' base mx mc (n + L.length) g' E'
  vr : RVrs w' (.slice A L.length c) L
  ap : 0 < L.length → apart g' (.slice A L.length c)
  tr : Tr mx mc g g' w w'
abbrev resV (gl gs : Nat) : Value := .func (.func 67) #[] #[.pointer (some ⟨gl, 0, none⟩), .pointer (some ⟨gs, 0, none⟩)]
theorem tvar_ne : 76 ≠ 3 := by decide
theorem tscp_ne : 62 ≠ 3 := by decide
theorem bind_bnd {w W : World} {base mx mc n : Nat} {g : Gv} {E : Ev} {u v : Value} {L : List Vr} {ts : List Int} (hW : Ext w W) (h : SCX w base mx mc n g E) (hb : base ≤ w.heap.size) (hu : RVrs W u L) (hnu : newAt w.heap.size u) (hv : RInts W v ts) (hnv : newAt w.heap.size v) (hlt : L.length ≤ ts.length) (hn : n + L.length ≤ 1000000000) (hE : ∀ x, (E x).length ≤ n) (hs : ∀ x ∈ L, x.1 = 0 ∨ x.1 = 1) (hll : L.length ≤ 1048576) :
    Calls Tryz.prog 36 #[.agg #[.map (some mx), .map (some mc)], u, v] W fun e w' => ∃ gl gs A c g', e = .returned (resV gl gs) ∧ Bnd w w' base mx mc n gl gs g g' (pushE E L ts) L A c := by
  obtain ⟨A, c, rfl, -, -⟩ := hu.form
  have hb' : base ≤ W.heap.size := Nat.le_trans hb hW.size
  have hau : apart g (.slice A L.length c) := fun A' k c' b o e1 e2 hr => by have := hnu A' k c' b o e1 e2; have := (h.lt hr).2; omega
  have hav : apart g v := fun A' k c' b o e1 e2 hr => by have := hnv A' k c' b o e1 e2; have := (h.lt hr).2; omega
  refine (bind_any W base mx mc n g E _ v L ts (h.ext hW) hb' hu hv hlt hn hE hs hll hav hau).mono ?_
  rintro e w' ⟨rfl, h1, h2, g', h3, h4⟩
  refine ⟨_, _, A, c, g', rfl, h1, h2, h3, h4.vrs (h.ext hW) hu (fun _ => hau), fun h0 => ?_, Tr.ext hW h4⟩
  refine h4.apt hau (fun A' k c' b o e1 e2 => ?_)
  cases e1
  obtain ⟨A2, c2, e3, -, -, h6⟩ := hu
  cases e3
  obtain ⟨b2, o2, e4, h7, -⟩ := h6 0 (L[0]) (List.getElem?_eq_getElem h0)
  rw [e2] at e4; cases e4; exact h7
theorem RVrs.lt {w : World} {A : Option Addr} {c : Nat} {L : List Vr} (h : RVrs w (.slice A L.length c) L) (h0 : 0 < L.length) : ∀ A' k c' b o, (Value.slice A L.length c) = .slice A' k c' → A' = some ⟨b, o, none⟩ → b < w.heap.size := fun A' k c' b o e1 e2 => by
  cases e1
  obtain ⟨A2, c2, e3, -, -, h6⟩ := h
  cases e3
  obtain ⟨b2, o2, e4, h7, -⟩ := h6 0 (L[0]) (List.getElem?_eq_getElem h0)
  rw [e2] at e4; cases e4; exact h7
theorem Bnd.defer {w w5 w6 : World} {base mx mc n m gl gs : Nat} {g g' g2 : Gv} {E' : Ev} {L : List Vr} {A : Option Addr} {c : Nat} (B : Bnd w w5 base mx mc n gl gs g g' E' L A c) (hs : SCX w6 base mx mc m g2 E') (ht : Tr mx mc g' g2 w5 w6) (hn : m + L.length ≤ 1000000000) (hE : ∀ x, (E' x).length ≤ 1000000000) (hcnt : ∀ x, cntV L x ≤ (E' x).length) (hso : ∀ x ∈ L, x.1 = 0 ∨ x.1 = 1) (hll : L.length ≤ 1048576) :
    CallsD Tryz.prog 67 #[.pointer (some ⟨gl, 0, none⟩), .pointer (some ⟨gs, 0, none⟩)] .returning w6 fun e u' w' => u' = .returning ∧ e = .returned (.tuple #[]) ∧ ∃ g3, SCX w' base mx mc (m + L.length) g3 (popE E' L) ∧ Tr mx mc g2 g3 w6 w' := by
  have hl := ht.box B.sc B.gl tvar_ne
  have hg := ht.box B.sc B.gs tscp_ne
  exact restoreD_any w6 base mx mc m gl gs g2 E' A c L hs (ht.vrs B.sc B.vr B.ap) hl hg hn hE hcnt hso hll (fun h0 => ht.apt (B.ap h0) (B.vr.lt h0)) (hs.notRow hl tvar_ne) (hs.notRow hg tscp_ne)
theorem enters_res : Enters Tryz.prog 67 := enters_of Tryz.func67 (by kernel_rfl) rfl
theorem zipCo_sort : ∀ (l : List Int) (c : List Bool) (x : Vr), x ∈ zipCo l c → x.1 = 0 ∨ x.1 = 1
  | [], _, x, h => by simp [zipCo] at h
  | v :: r, [], x, h => by
    rcases List.mem_cons.1 h with rfl | h
    · exact .inl rfl
    · exact zipCo_sort r [] x h
  | v :: r, q :: cs, x, h => by
    rcases List.mem_cons.1 h with rfl | h
    · show coI q = 0 ∨ coI q = 1
      cases q
      · exact .inl rfl
      · exact .inr rfl
    · exact zipCo_sort r cs x h
theorem muV_sort (op n : Int) : ∀ x ∈ muV op n, x.1 = 0 ∨ x.1 = 1 := fun x h => by
  unfold muV at h
  split at h
  · rw [List.mem_singleton] at h; rw [h]; exact .inr rfl
  · split at h
    · rw [List.mem_singleton] at h; rw [h]; exact .inl rfl
    · simp at h
end Go.Proofs.YtkdhhcidpklgoaaGreatDoor

/- kind: branch. -/
namespace Go.Proofs.YtkdhhcidpklgoaaGreatDoor
open Go.RowKit Go.Shelf Go.Maps
attribute [local go_sem] Oper.semAt_some

theorem tck_ne : 64 ≠ 3 := by decide
theorem tbr_ne : 97 ≠ 3 := by decide
theorem tnd_ne : 36 ≠ 3 := by decide
set_option maxHeartbeats 16000000 in
set_option maxRecDepth 100000 in
theorem typBr (vd vf : Value) (C : Cg) (wA : World) (base mx mc : Nat) (vs : List Int) (cs : List Bool) (t : Nd) (vv vc xa xb : Value) (hC : RCg wA vd vf C) (hF : TypS C vd vf wA base mx mc t xa xb) (hl : vs.length ≤ 1048576) (hf : ∃ k, RNd wA k t xa xb) (hm1 : wA.heap.size ≤ mx) (hm2 : wA.heap.size ≤ mc) (hba : wA.heap.size ≤ base) : TypBS C vd vf wA base mx mc vs cs t vv vc xa xb := by
  intro w n g E S va ags hx hb hsc hin hE hv hc hra hok hlen hso hn
  have HLZ := zipCo_length vs cs
  have HZS := zipCo_sort vs cs
  obtain ⟨Ad, cd, rfl, -, -⟩ := hC.d.form
  obtain ⟨Af, cf, rfl, -, -⟩ := hC.f.form
  have hlt : (zipCo vs cs).length ≤ (ags.map Arg.ty).length := by rw [HLZ, List.length_map]; omega
  have hbi := fun w' (h : Ext w w') => boundIn_new vv vc vs cs t xa xb w' (hv.below h) (hc.below h) hl
  have hty := fun w' (h : Ext w w') => types_new va ags w' (hra.below (hx.tr h)) hok (by omega)
  obtain ⟨A, c, rfl, -, -⟩ := hv.form
  obtain ⟨A2, c2, rfl, -, -⟩ := hc.form
  obtain ⟨k, hk⟩ := hf
  obtain ⟨-, ⟨A3, c3, rfl, -, -⟩, ⟨A4, c4, rfl, -, -⟩⟩ := hk.form
  obtain ⟨Ap, cp, rfl, -, -⟩ := hra.form
  have hb1 := Ext.lt (Ext.al (w.alloc (.cells #[.slice Ad C.decls.length cd, .slice Af C.funs.length cf, .map (some mx), .map (some mc)] 64)) (.cells #[.slice A vs.length c, .slice A2 cs.length c2, .int .i64 t.op, .int .i64 t.n, .int .i64 t.ty, .slice A3 t.args.length c3, .slice A4 t.brs.length c4] 97)) (heapNew w (.cells #[.slice Ad C.decls.length cd, .slice Af C.funs.length cf, .map (some mx), .map (some mc)] 64))
  have hb2 := heapNew2 w (.cells #[.slice Ad C.decls.length cd, .slice Af C.funs.length cf, .map (some mx), .map (some mc)] 64) (.cells #[.slice A vs.length c, .slice A2 cs.length c2, .int .i64 t.op, .int .i64 t.n, .int .i64 t.ty, .slice A3 t.args.length c3, .slice A4 t.brs.length c4] 97)
  have hx2 := Ext.al2 w (.cells #[.slice Ad C.decls.length cd, .slice Af C.funs.length cf, .map (some mx), .map (some mc)] 64) (.cells #[.slice A vs.length c, .slice A2 cs.length c2, .int .i64 t.op, .int .i64 t.n, .int .i64 t.ty, .slice A3 t.args.length c3, .slice A4 t.brs.length c4] 97)
  have HB1 := Lib.hid hb1; have HB2 := Lib.hid hb2; have HX2 := Lib.hid hx2
  have HC := Lib.hid hC; have HF := Lib.hid hF; have HX := Lib.hid hx; have HSC := Lib.hid hsc; have HIN := Lib.hid hin; have HE := Lib.hid hE; have HSO := Lib.hid hso; have HTY := Lib.hid hty; have HBI := Lib.hid hbi; have HZS := Lib.hid HZS; have HLT := Lib.hid hlt; have HLZ := Lib.hid HLZ
  clear hb1 hb2 hx2 hC hF hx hsc hin hE hso hty hbi hlt hk hra hv hc hok hlen
  go_enter_defers Tryz.func50, Tryz.ntmps50
  go_wp2
  generalize (w.alloc _).alloc _ = w2 at *
  have hbw2 : base ≤ w2.heap.size := Nat.le_trans hb HX2.out.size
  have HS2 : Hid (SCX w2 base mx mc n g E) := HSC.out.ext HX2.out
  have HBI2 : Hid (∀ W, Ext w2 W → Calls Tryz.prog 81 #[brV (.slice A vs.length c) (.slice A2 cs.length c2) t (.slice A3 t.args.length c3) (.slice A4 t.brs.length c4)] W fun e w' => (∃ u, e = .returned u ∧ RVrs w' u (zipCo vs cs) ∧ newAt w2.heap.size u) ∧ Ext w2 w' ∧ Ext W w') := fun W hW => by
    refine (HBI.out W (HX2.out.tr hW)).mono ?_
    rintro e w' ⟨⟨u, rfl, h1, h2⟩, h3⟩
    exact ⟨⟨u, rfl, h1, fun A n c b o e1 e2 => Nat.le_trans hW.size (h2 A n c b o e1 e2)⟩, hW.tr h3, h3⟩
  have HTY2 : Hid (∀ W, Ext w2 W → Calls Tryz.prog 82 #[.slice Ap ags.length cp] W fun e w' => (∃ u, e = .returned u ∧ RInts w' u (ags.map Arg.ty) ∧ newAt w2.heap.size u) ∧ Ext w2 w' ∧ Ext W w') := fun W hW => by
    refine (HTY.out W (HX2.out.tr hW)).mono ?_
    rintro e w' ⟨⟨u, rfl, h1, h2⟩, h3⟩
    exact ⟨⟨u, rfl, h1, fun A n c b o e1 e2 => Nat.le_trans hW.size (h2 A n c b o e1 e2)⟩, hW.tr h3, h3⟩
  have HBD : Hid (∀ W u v, Ext w2 W → RVrs W u (zipCo vs cs) → newAt w2.heap.size u → RInts W v (ags.map Arg.ty) → newAt w2.heap.size v → Calls Tryz.prog 36 #[.agg #[.map (some mx), .map (some mc)], u, v] W fun e w' => ∃ gl gs A c g', e = .returned (resV gl gs) ∧ Bnd w2 w' base mx mc n gl gs g g' (pushE E (zipCo vs cs) (ags.map Arg.ty)) (zipCo vs cs) A c) := fun W u v hW h1 h2 h3 h4 =>
    bind_bnd hW HS2.out hbw2 h1 h2 h3 h4 HLT.out (by rw [HLZ.out]; omega) HE.out HZS.out (by rw [HLZ.out]; exact hl)
  have HCE : Hid (∀ W : World, W.heap[w.heap.size]? = some (.cells #[.slice Ad C.decls.length cd, .slice Af C.funs.length cf, .map (some mx), .map (some mc)] 64 (0, 0)) → W.heap[w.heap.size + 1]? = some (.cells #[.slice A vs.length c, .slice A2 cs.length c2, .int .i64 t.op, .int .i64 t.n, .int .i64 t.ty, .slice A3 t.args.length c3, .slice A4 t.brs.length c4] 97 (0, 0)) → W.cell? ⟨w.heap.size, 2, none⟩ = some (.map (some mx)) ∧ W.cell? ⟨w.heap.size, 3, none⟩ = some (.map (some mc)) ∧ W.cell? ⟨w.heap.size + 1, 0, none⟩ = some (.slice A vs.length c) ∧ W.cell? ⟨w.heap.size + 1, 1, none⟩ = some (.slice A2 cs.length c2) ∧ W.cell? ⟨w.heap.size + 1, 2, none⟩ = some (.int .i64 t.op) ∧ W.cell? ⟨w.heap.size + 1, 3, none⟩ = some (.int .i64 t.n) ∧ W.cell? ⟨w.heap.size + 1, 4, none⟩ = some (.int .i64 t.ty) ∧ W.cell? ⟨w.heap.size + 1, 5, none⟩ = some (.slice A3 t.args.length c3) ∧ W.cell? ⟨w.heap.size + 1, 6, none⟩ = some (.slice A4 t.brs.length c4)) := fun W h1 h2 =>
    ⟨cellAt h1 2, cellAt h1 3, cellAt h2 0, cellAt h2 1, cellAt h2 2, cellAt h2 3, cellAt h2 4, cellAt h2 5, cellAt h2 6⟩
  have HCX : Hid (∀ W : World, Ext w2 W → W.cell? ⟨w.heap.size, 2, none⟩ = some (.map (some mx)) ∧ W.cell? ⟨w.heap.size, 3, none⟩ = some (.map (some mc)) ∧ W.cell? ⟨w.heap.size + 1, 0, none⟩ = some (.slice A vs.length c) ∧ W.cell? ⟨w.heap.size + 1, 1, none⟩ = some (.slice A2 cs.length c2) ∧ W.cell? ⟨w.heap.size + 1, 2, none⟩ = some (.int .i64 t.op) ∧ W.cell? ⟨w.heap.size + 1, 3, none⟩ = some (.int .i64 t.n) ∧ W.cell? ⟨w.heap.size + 1, 4, none⟩ = some (.int .i64 t.ty) ∧ W.cell? ⟨w.heap.size + 1, 5, none⟩ = some (.slice A3 t.args.length c3) ∧ W.cell? ⟨w.heap.size + 1, 6, none⟩ = some (.slice A4 t.brs.length c4)) := fun W h => HCE.out W (h.lt HB1.out) (h.lt HB2.out)
  obtain ⟨p2, p3, b0, b1, b2, b3, b4, b5, b6⟩ := HCX.out w2 (Ext.rf _)
  obtain ⟨L, hL⟩ : ∃ L, zipCo vs cs = L := ⟨_, rfl⟩
  obtain ⟨ts, hts⟩ : ∃ ts, ags.map Arg.ty = ts := ⟨_, rfl⟩
  rw [hL, hts] at HBD HLT
  rw [hL] at HBI2 HLZ HZS
  rw [hts] at HTY2
  have HSO2 : Hid (sortN C (addS S L) t ≠ 3) := by show _ ≠ _; rw [← hL]; exact HSO.out
  have HL := Lib.hid hL; have HTS := Lib.hid hts
  clear hL hts HSO HBI HTY HCE
  go_region_held3 (fun w' => w'.cell? ⟨w.heap.size, 2, none⟩ = some (.map (some mx)) ∧ w'.cell? ⟨w.heap.size, 3, none⟩ = some (.map (some mc)) ∧ w'.cell? ⟨w.heap.size + 1, 0, none⟩ = some (.slice A vs.length c) ∧ w'.cell? ⟨w.heap.size + 1, 1, none⟩ = some (.slice A2 cs.length c2) ∧ w'.cell? ⟨w.heap.size + 1, 2, none⟩ = some (.int .i64 t.op) ∧ w'.cell? ⟨w.heap.size + 1, 3, none⟩ = some (.int .i64 t.n) ∧ w'.cell? ⟨w.heap.size + 1, 4, none⟩ = some (.int .i64 t.ty) ∧ w'.cell? ⟨w.heap.size + 1, 5, none⟩ = some (.slice A3 t.args.length c3) ∧ w'.cell? ⟨w.heap.size + 1, 6, none⟩ = some (.slice A4 t.brs.length c4))
    (first | exact HCX.out _ (Ext.rf _).drew | exact HCX.out _ HXB.out | exact HCX.out _ HXT.out | exact HC5.out)
    (first
      | (go_at_call 81; (with_reducible refine (HBI2.out _ (by first | exact HXT.out | exact (Ext.rf _).drew | exact Ext.rf _)).mono ?_); rintro e w3 ⟨⟨u, rfl, hu, hnu⟩, hxb, hxb'⟩; have HU := Lib.hid hu; have HNU := Lib.hid hnu; have HXB := Lib.hid hxb; have HXB' := Lib.hid hxb'; clear hu hnu hxb hxb')
      | (go_at_call 82; (with_reducible refine (HTY2.out _ (by first | exact HXB.out | exact (Ext.rf _).drew | exact Ext.rf _)).mono ?_); rintro e w4 ⟨⟨v, rfl, hv, hnv⟩, hxt, hxt'⟩; have HV := Lib.hid hv; have HNV := Lib.hid hnv; have HXT := Lib.hid hxt; have HXT' := Lib.hid hxt'; clear hv hnv hxt hxt')
      | (go_at_call 36; first | (with_reducible refine (HBD.out _ _ _ HXT.out (HU.out.below HXT'.out) HNU.out HV.out HNV.out).mono ?_) | (with_reducible refine (HBD.out _ _ _ HXB.out HU.out HNU.out (HV.out.below HXB'.out) HNV.out).mono ?_)
         rintro e w5 ⟨gl, gs, A5, c5, g5, rfl, hbn⟩
         have HBN := Lib.hid hbn
         have hq1 := hbn.tr.box HS2.out HB1.out tck_ne
         have hq2 := hbn.tr.box HS2.out HB2.out tbr_ne
         have HQ1 := Lib.hid hq1
         have HC5 : Hid (w5.cell? ⟨w.heap.size, 2, none⟩ = some (.map (some mx)) ∧ w5.cell? ⟨w.heap.size, 3, none⟩ = some (.map (some mc)) ∧ w5.cell? ⟨w.heap.size + 1, 0, none⟩ = some (.slice A vs.length c) ∧ w5.cell? ⟨w.heap.size + 1, 1, none⟩ = some (.slice A2 cs.length c2) ∧ w5.cell? ⟨w.heap.size + 1, 2, none⟩ = some (.int .i64 t.op) ∧ w5.cell? ⟨w.heap.size + 1, 3, none⟩ = some (.int .i64 t.n) ∧ w5.cell? ⟨w.heap.size + 1, 4, none⟩ = some (.int .i64 t.ty) ∧ w5.cell? ⟨w.heap.size + 1, 5, none⟩ = some (.slice A3 t.args.length c3) ∧ w5.cell? ⟨w.heap.size + 1, 6, none⟩ = some (.slice A4 t.brs.length c4)) := ⟨cellAt hq1 2, cellAt hq1 3, cellAt hq2 0, cellAt hq2 1, cellAt hq2 2, cellAt hq2 3, cellAt hq2 4, cellAt hq2 5, cellAt hq2 6⟩
         clear hbn hq1 hq2))
  all_goals
    have p0 := cellAt HQ1.out 0
    have p1 := cellAt HQ1.out 1
    have hX5 : Ext wA w5 := HBN.out.tr.keeps HS2.out (HX.out.tr HX2.out) hm1 hm2 hba
    have hz := HLZ.out
    have HTP := Lib.hid (HF.out w5 (n + L.length) g5 (pushE E L ts) (addS S L) hX5 (Nat.le_trans hbw2 HBN.out.tr.only.size) HBN.out.sc (HIN.out.push HLT.out) (push_len HE.out HLT.out) HSO2.out (by omega))
    obtain ⟨o, ho⟩ : ∃ o, typN C (pushE E L ts) t = o := ⟨_, rfl⟩
    have HOO := Lib.hid ho
    rw [ho] at HTP
    clear hX5 ho
    go_wp2_with (go_at_call 37; (with_reducible refine (HTP.out).mono ?_); rintro e w6 ⟨rfl, g6, hs6, ht6⟩)
    refine leaves_cons (by simp) (enters_res _ _) ?_
    have hpl := push_len HE.out HLT.out
    refine (HBN.out.defer hs6 ht6 (by omega) (fun x => by have := hpl x; omega) (push_cnt HLT.out) HZS.out (by omega)).mono ?_
    rintro e u' w7 ⟨rfl, rfl, g7, hs7, ht7⟩
    rw [pop_push HLT.out] at hs7
    refine ⟨.bool o.isSome, by simp [results, Tryz.results50, go_sem], by rw [HL.out, HTS.out, HOO.out], g7, hs7.mono (by omega), Tr.ext HX2.out ((HBN.out.tr.tr ht6).tr ht7)⟩
end Go.Proofs.YtkdhhcidpklgoaaGreatDoor
