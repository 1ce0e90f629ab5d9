/- The reference of layer 4: the rows that children makes. -/
import Derived.Test.YtogmjgccopmplaaGreatQ33
namespace Go.Proofs.YtogmjgccopmplaaGreat
open Go.RowKit
/-- A slice of parameters that was there at w0, or of the call's own. -/
def SPr (w0 W : World) (v : Value) (l : List Prm) : Prop := RPrms w0 v l ∨ (OwnP W w0.heap.size v l ∧ ∀ a ∈ l, a.nm.size ≤ maxLen)
abbrev Scs := List Prm × List Prm
abbrev Trs := (Value × Value) × Scs
def cellsSc : List Trs → List Value
  | [] => []
  | x :: r => x.1.1 :: x.1.2 :: cellsSc r
theorem cellsSc_append (m : List Trs) : ∀ l, cellsSc (l ++ m) = cellsSc l ++ cellsSc m
  | [] => rfl
  | x :: r => by rw [List.cons_append, cellsSc, cellsSc, cellsSc_append m r]; rfl
def OkS (w0 W : World) (x : Trs) : Prop := SPr w0 W x.1.1 x.2.1 ∧ SPr w0 W x.1.2 x.2.2
theorem SPr.reads {w0 W : World} {v : Value} {l : List Prm} (h : SPr w0 W v l) (hb : Ext w0 W) : RPrms W v l := by
  rcases h with h | h
  · exact h.below hb
  · exact own_prms h.1 h.2
theorem SPr.ext {w0 W W' : World} {v : Value} {l : List Prm} (h : SPr w0 W v l) (hb : Ext W W') : SPr w0 W' v l := by
  rcases h with h | h
  · exact .inl h
  · exact .inr ⟨own_below h.1 hb, h.2⟩
/-- Rows of different types do not meet. -/
theorem own_apart {W W' : World} {B B' ea eb ka kb na nb : Nat} {v s : Value} {xa xb : List Value} (h : W.ownsRow B ea ka v na xa) (hs : W.ownsRow B' eb kb s nb xb) (hne : ea ≠ eb) (hg : W.grownBy W' s.ownBlock) : W'.ownsRow B ea ka v na xa := by
  refine own_other h hg (fun g e e2 => ?_)
  rcases h.2 with ⟨rfl, -⟩ | ⟨g1, cap, cur, rfl, -, f3, -⟩
  · simp [Value.ownBlock] at e
  · simp [Value.ownBlock] at e
    subst e
    rcases hs.2 with ⟨rfl, -⟩ | ⟨g2, cap', cur', rfl, -, k3, -⟩
    · simp [Value.ownBlock] at e2
    · simp [Value.ownBlock] at e2
      subst e2
      rw [f3] at k3
      injection k3 with k3
      injection k3 with _ k3
      exact hne k3
theorem SPr.apart {w0 W W' : World} {v s : Value} {l : List Prm} {B' eb kb nb : Nat} {xb : List Value} (h : SPr w0 W v l) (hs : W.ownsRow B' eb kb s nb xb) (hne : 74 ≠ eb) (hg : W.grownBy W' s.ownBlock) : SPr w0 W' v l := by
  rcases h with h | h
  · exact .inl h
  · exact .inr ⟨own_apart h.1 hs hne hg, h.2⟩
structure KR (w0 W : World) (s6 s7 : Value) (L6 : List Trm) (L7 : List Trs) : Prop where
  ra : W.ownsRow w0.heap.size 41 6 s6 L6.length (cellsT L6)
  rb : W.ownsRow w0.heap.size 85 2 s7 L7.length (cellsSc L7)
  ok : ∀ x ∈ L7, OkS w0 W x
  ext : Ext w0 W
section
variable {w0 W W' : World} {s6 s7 v : Value} {L6 : List Trm} {L7 : List Trs} {x : Trm} {y : Trs}
theorem KR.below (h : KR w0 W s6 s7 L6 L7) (hb : Ext W W') : KR w0 W' s6 s7 L6 L7 :=
  ⟨own_below h.ra hb, own_below h.rb hb, fun x hx => ⟨(h.ok x hx).1.ext hb, (h.ok x hx).2.ext hb⟩, h.ext.tr hb⟩
theorem KR.growA (h : KR w0 W s6 s7 L6 L7) (hg : W.grownBy W' s6.ownBlock) (ho : W'.ownsRow w0.heap.size 41 6 v (L6 ++ [x]).length (cellsT (L6 ++ [x]))) : KR w0 W' v s7 (L6 ++ [x]) L7 :=
  ⟨ho, own_apart h.rb h.ra (by decide) hg, fun z hz => ⟨(h.ok z hz).1.apart h.ra (by decide) hg, (h.ok z hz).2.apart h.ra (by decide) hg⟩, h.ext.trans (Below.grown (Below.refl _ _) hg h.ext.size (fun k e => (h.ra.lt k e).1))⟩
theorem KR.growB (h : KR w0 W s6 s7 L6 L7) (hy : OkS w0 W y) (hg : W.grownBy W' s7.ownBlock) (ho : W'.ownsRow w0.heap.size 85 2 v (L7 ++ [y]).length (cellsSc (L7 ++ [y]))) : KR w0 W' s6 v L6 (L7 ++ [y]) := by
  refine ⟨own_apart h.ra h.rb (by decide) hg, ho, fun z hz => ?_, h.ext.trans (Below.grown (Below.refl _ _) hg h.ext.size (fun k e => (h.rb.lt k e).1))⟩
  have hz' : OkS w0 W z := by
    rcases List.mem_append.1 hz with hz | hz
    · exact h.ok z hz
    · rw [List.mem_singleton.1 hz]; exact hy
  exact ⟨hz'.1.apart h.rb (by decide) hg, hz'.2.apart h.rb (by decide) hg⟩
end
def CB (s6 s7 : Value) (q : Nat) : Prop := s6.ownBlock = some q ∨ s7.ownBlock = some q
/-- Two rows are appended to, in any order. -/
structure R9 (n : Nat) (vals : Nat → Value) (w0 w5 : World) (s6 s7 : Value) (L6 : List Trm) (x : Trm) (L7 : List Trs) (y : Trs) (Ls : Nat → Bool) (W : World) (vv : Nat → Value) : Prop where
  only : Only (CB s6 s7) w5 W
  oky : OkS w0 W y
  kr : KR w0 W (if Ls (n + 1) then vv (n + 1) else s6) (if Ls (n + 5) then vv (n + 5) else s7) (if Ls (n + 1) then L6 ++ [x] else L6) (if Ls (n + 5) then L7 ++ [y] else L7)
  facts : ∀ i, i < n ∨ i = n + 2 ∨ i = n + 3 → Ls i = true → vv i = vals i
  f2 : Ls n = true → ∃ q, vv n = .slice (some ⟨q, 0, none⟩) 1 1 ∧ W.heap[q]? = some (.cells #[.int .i64 x.1.op, .int .i64 x.1.n, .string x.1.nm, .int .i64 x.1.ty, x.2.1, x.2.2] 41 (0, 0)) ∧ ¬ CB s6 s7 q
  f6 : Ls (n + 4) = true → ∃ q, vv (n + 4) = .slice (some ⟨q, 0, none⟩) 1 1 ∧ W.heap[q]? = some (.cells #[y.1.1, y.1.2] 85 (0, 0)) ∧ ¬ CB s6 s7 q
  a0 : Ls (n + 6) = false → vv (n + 6) = s6
  a1 : Ls (n + 6) = true → vv (n + 6) = vv (n + 1)
  b0 : Ls (n + 7) = false → vv (n + 7) = s7
  b1 : Ls (n + 7) = true → vv (n + 7) = vv (n + 5)
section
variable {n i : Nat} {vals : Nat → Value} {w0 w5 W W' : World} {s6 s7 v : Value} {L6 : List Trm} {x : Trm} {L7 : List Trs} {y : Trs} {Ls : Nat → Bool} {vv : Nat → Value}
theorem set_l {j : Nat} (h : j ≠ i) : (decide (j = i) || Ls j) = Ls j := by rw [decide_eq_false h, Bool.false_or]
theorem set_s : (decide (i = i) || Ls i) = true := by simp
theorem R9.zero (h : KR w0 w5 s6 s7 L6 L7) (hy : OkS w0 w5 y) (ha : vv (n + 6) = s6) (hb : vv (n + 7) = s7) : R9 n vals w0 w5 s6 s7 L6 x L7 y (fun _ => false) w5.drew vv :=
  ⟨Only.of_ext (Ext.rf _).drew, ⟨hy.1.ext (Ext.rf _).drew, hy.2.ext (Ext.rf _).drew⟩, by simpa using h.below (Ext.rf _).drew, (fun _ _ h => by cases h), (fun h => by cases h), (fun h => by cases h), fun _ => ha, (fun h => by cases h), fun _ => hb, (fun h => by cases h)⟩
/-- An operation that makes memory or none, and is none of the two appends or assignments. -/
theorem R9.step (h : R9 n vals w0 w5 s6 s7 L6 x L7 y Ls W vv) (hi : i < n + 6 ∧ i ≠ n + 1 ∧ i ≠ n + 5) (hb : Ext W W') (h1 : i < n ∨ i = n + 2 ∨ i = n + 3 → v = vals i)
    (h2 : i = n → ∃ q, v = .slice (some ⟨q, 0, none⟩) 1 1 ∧ W'.heap[q]? = some (.cells #[.int .i64 x.1.op, .int .i64 x.1.n, .string x.1.nm, .int .i64 x.1.ty, x.2.1, x.2.2] 41 (0, 0)) ∧ ¬ CB s6 s7 q)
    (h6 : i = n + 4 → ∃ q, v = .slice (some ⟨q, 0, none⟩) 1 1 ∧ W'.heap[q]? = some (.cells #[y.1.1, y.1.2] 85 (0, 0)) ∧ ¬ CB s6 s7 q) :
    R9 n vals w0 w5 s6 s7 L6 x L7 y (fun j => decide (j = i) || Ls j) W' (fun j => if j = i then v else vv j) := by
  have e1 := set_l (Ls := Ls) (i := i) (j := n + 1) (by omega)
  have e5 := set_l (Ls := Ls) (i := i) (j := n + 5) (by omega)
  have e6 := set_l (Ls := Ls) (i := i) (j := n + 6) (by omega)
  have e7 := set_l (Ls := Ls) (i := i) (j := n + 7) (by omega)
  have v1 : (if n + 1 = i then v else vv (n + 1)) = vv (n + 1) := if_neg (by omega)
  have v5 : (if n + 5 = i then v else vv (n + 5)) = vv (n + 5) := if_neg (by omega)
  have v6 : (if n + 6 = i then v else vv (n + 6)) = vv (n + 6) := if_neg (by omega)
  have v7 : (if n + 7 = i then v else vv (n + 7)) = vv (n + 7) := if_neg (by omega)
  refine ⟨h.only.tr (Only.of_ext hb), ⟨h.oky.1.ext hb, h.oky.2.ext hb⟩, ?_, fun j hj hl => ?_, fun hl => ?_, fun hl => ?_, ?_, ?_, ?_, ?_⟩
  · simp only [e1, e5, v1, v5]; exact h.kr.below hb
  · by_cases hji : j = i
    · subst hji; simpa using h1 hj
    · rw [set_l hji] at hl
      simp only [if_neg hji]
      exact h.facts j hj hl
  · by_cases hji : n = i
    · simp only [if_pos hji]; exact h2 hji.symm
    · rw [set_l hji] at hl
      simp only [if_neg hji]
      obtain ⟨q, a, b, c⟩ := h.f2 hl
      exact ⟨q, a, (hb.block _ (heap_lt b)).trans b, c⟩
  · by_cases hji : n + 4 = i
    · simp only [if_pos hji]; exact h6 hji.symm
    · rw [set_l hji] at hl
      simp only [if_neg hji]
      obtain ⟨q, a, b, c⟩ := h.f6 hl
      exact ⟨q, a, (hb.block _ (heap_lt b)).trans b, c⟩
  · simp only [e6, v6]; exact h.a0
  · simp only [e6, v6, v1]; exact h.a1
  · simp only [e7, v7]; exact h.b0
  · simp only [e7, v7, v5]; exact h.b1
theorem R9.appA (h : R9 n vals w0 w5 s6 s7 L6 x L7 y Ls W vv) (hl : Ls (n + 1) = false) (h6 : Ls (n + 6) = false) (hg : W.grownBy W' s6.ownBlock) (ho : W'.ownsRow w0.heap.size 41 6 v (L6 ++ [x]).length (cellsT (L6 ++ [x]))) :
    R9 n vals w0 w5 s6 s7 L6 x L7 y (fun j => decide (j = n + 1) || Ls j) W' (fun j => if j = n + 1 then v else vv j) := by
  have hk := h.kr
  rw [hl] at hk
  simp only [Bool.false_eq_true, if_false] at hk
  have hx : Only (CB s6 s7) W W' := ⟨hg.os, hg.tape, hg.output, hg.size, fun q hq hn => hg.block q hq (fun e => hn (.inl e.symm))⟩
  have e5 := set_l (Ls := Ls) (i := n + 1) (j := n + 5) (by omega)
  have e6 := set_l (Ls := Ls) (i := n + 1) (j := n + 6) (by omega)
  have e7 := set_l (Ls := Ls) (i := n + 1) (j := n + 7) (by omega)
  refine ⟨h.only.tr hx, ⟨h.oky.1.apart hk.ra (by decide) hg, h.oky.2.apart hk.ra (by decide) hg⟩, ?_, fun j hj hl => ?_, fun hl => ?_, fun hl => ?_, ?_, ?_, ?_, ?_⟩
  · simp only [set_s, e5, if_true, if_neg (show ¬ n + 5 = n + 1 by omega)]
    exact hk.growA hg ho
  · have hji : j ≠ n + 1 := by omega
    rw [set_l hji] at hl
    simp only [if_neg hji]
    exact h.facts j hj hl
  · rw [set_l (by omega)] at hl
    simp only [if_neg (show ¬ n = n + 1 by omega)]
    obtain ⟨q, a, b, c⟩ := h.f2 hl
    exact ⟨q, a, (hx.block _ (heap_lt b) c).trans b, c⟩
  · rw [set_l (by omega)] at hl
    simp only [if_neg (show ¬ n + 4 = n + 1 by omega)]
    obtain ⟨q, a, b, c⟩ := h.f6 hl
    exact ⟨q, a, (hx.block _ (heap_lt b) c).trans b, c⟩
  · simp only [e6, if_neg (show ¬ n + 6 = n + 1 by omega)]; exact h.a0
  · intro hh
    have hh : (decide (n + 6 = n + 1) || Ls (n + 6)) = true := hh
    rw [e6, h6] at hh; cases hh
  · simp only [e7, if_neg (show ¬ n + 7 = n + 1 by omega)]; exact h.b0
  · simp only [e7, if_neg (show ¬ n + 7 = n + 1 by omega), if_neg (show ¬ n + 5 = n + 1 by omega)]; exact h.b1
theorem R9.appB (h : R9 n vals w0 w5 s6 s7 L6 x L7 y Ls W vv) (hl : Ls (n + 5) = false) (h7 : Ls (n + 7) = false) (hg : W.grownBy W' s7.ownBlock) (ho : W'.ownsRow w0.heap.size 85 2 v (L7 ++ [y]).length (cellsSc (L7 ++ [y]))) :
    R9 n vals w0 w5 s6 s7 L6 x L7 y (fun j => decide (j = n + 5) || Ls j) W' (fun j => if j = n + 5 then v else vv j) := by
  have hk := h.kr
  rw [hl] at hk
  simp only [Bool.false_eq_true, if_false] at hk
  have hx : Only (CB s6 s7) W W' := ⟨hg.os, hg.tape, hg.output, hg.size, fun q hq hn => hg.block q hq (fun e => hn (.inr e.symm))⟩
  have e5 := set_l (Ls := Ls) (i := n + 5) (j := n + 1) (by omega)
  have e6 := set_l (Ls := Ls) (i := n + 5) (j := n + 6) (by omega)
  have e7 := set_l (Ls := Ls) (i := n + 5) (j := n + 7) (by omega)
  refine ⟨h.only.tr hx, ⟨h.oky.1.apart hk.rb (by decide) hg, h.oky.2.apart hk.rb (by decide) hg⟩, ?_, fun j hj hl => ?_, fun hl => ?_, fun hl => ?_, ?_, ?_, ?_, ?_⟩
  · simp only [set_s, e5, if_true, if_neg (show ¬ n + 1 = n + 5 by omega)]
    exact hk.growB h.oky hg ho
  · have hji : j ≠ n + 5 := by omega
    rw [set_l hji] at hl
    simp only [if_neg hji]
    exact h.facts j hj hl
  · rw [set_l (by omega)] at hl
    simp only [if_neg (show ¬ n = n + 5 by omega)]
    obtain ⟨q, a, b, c⟩ := h.f2 hl
    exact ⟨q, a, (hx.block _ (heap_lt b) c).trans b, c⟩
  · rw [set_l (by omega)] at hl
    simp only [if_neg (show ¬ n + 4 = n + 5 by omega)]
    obtain ⟨q, a, b, c⟩ := h.f6 hl
    exact ⟨q, a, (hx.block _ (heap_lt b) c).trans b, c⟩
  · simp only [e6, if_neg (show ¬ n + 6 = n + 5 by omega)]; exact h.a0
  · simp only [e6, if_neg (show ¬ n + 6 = n + 5 by omega), if_neg (show ¬ n + 1 = n + 5 by omega)]; exact h.a1
  · simp only [e7, if_neg (show ¬ n + 7 = n + 5 by omega)]; exact h.b0
  · intro hh
    have hh : (decide (n + 7 = n + 5) || Ls (n + 7)) = true := hh
    rw [e7, h7] at hh; cases hh
theorem R9.asgA (h : R9 n vals w0 w5 s6 s7 L6 x L7 y Ls W vv) : R9 n vals w0 w5 s6 s7 L6 x L7 y (fun j => decide (j = n + 6) || Ls j) W (fun j => if j = n + 6 then vv (n + 1) else vv j) := by
  have e : ∀ j, j ≠ n + 6 → (decide (j = n + 6) || Ls j) = Ls j := fun j hj => set_l hj
  refine ⟨h.only, h.oky, ?_, fun j hj hl => ?_, fun hl => ?_, fun hl => ?_, ?_, ?_, ?_, ?_⟩
  · simp only [e (n + 1) (by omega), e (n + 5) (by omega), if_neg (show ¬ n + 1 = n + 6 by omega), if_neg (show ¬ n + 5 = n + 6 by omega)]; exact h.kr
  · have hji : j ≠ n + 6 := by omega
    rw [set_l hji] at hl
    simp only [if_neg hji]; exact h.facts j hj hl
  · rw [set_l (by omega)] at hl
    simp only [if_neg (show ¬ n = n + 6 by omega)]; exact h.f2 hl
  · rw [set_l (by omega)] at hl
    simp only [if_neg (show ¬ n + 4 = n + 6 by omega)]; exact h.f6 hl
  · simp only [set_s]; intro h; cases h
  · intro _
    show (if n + 6 = n + 6 then vv (n + 1) else vv (n + 6)) = (if n + 1 = n + 6 then vv (n + 1) else vv (n + 1))
    rw [if_pos rfl, if_neg (by omega)]
  · simp only [e (n + 7) (by omega), if_neg (show ¬ n + 7 = n + 6 by omega)]; exact h.b0
  · simp only [e (n + 7) (by omega), if_neg (show ¬ n + 7 = n + 6 by omega), if_neg (show ¬ n + 5 = n + 6 by omega)]; exact h.b1
theorem R9.asgB (h : R9 n vals w0 w5 s6 s7 L6 x L7 y Ls W vv) : R9 n vals w0 w5 s6 s7 L6 x L7 y (fun j => decide (j = n + 7) || Ls j) W (fun j => if j = n + 7 then vv (n + 5) else vv j) := by
  have e : ∀ j, j ≠ n + 7 → (decide (j = n + 7) || Ls j) = Ls j := fun j hj => set_l hj
  refine ⟨h.only, h.oky, ?_, fun j hj hl => ?_, fun hl => ?_, fun hl => ?_, ?_, ?_, ?_, ?_⟩
  · simp only [e (n + 1) (by omega), e (n + 5) (by omega), if_neg (show ¬ n + 1 = n + 7 by omega), if_neg (show ¬ n + 5 = n + 7 by omega)]; exact h.kr
  · have hji : j ≠ n + 7 := by omega
    rw [set_l hji] at hl
    simp only [if_neg hji]; exact h.facts j hj hl
  · rw [set_l (by omega)] at hl
    simp only [if_neg (show ¬ n = n + 7 by omega)]; exact h.f2 hl
  · rw [set_l (by omega)] at hl
    simp only [if_neg (show ¬ n + 4 = n + 7 by omega)]; exact h.f6 hl
  · simp only [e (n + 6) (by omega), if_neg (show ¬ n + 6 = n + 7 by omega)]; exact h.a0
  · simp only [e (n + 6) (by omega), if_neg (show ¬ n + 6 = n + 7 by omega), if_neg (show ¬ n + 1 = n + 7 by omega)]; exact h.a1
  · simp only [set_s]; intro h; cases h
  · intro _
    show (if n + 7 = n + 7 then vv (n + 5) else vv (n + 7)) = (if n + 5 = n + 7 then vv (n + 5) else vv (n + 5))
    rw [if_pos rfl, if_neg (by omega)]
end
set_option maxHeartbeats 2000000 in
set_option maxRecDepth 100000 in
theorem refWithO_any (v1 v2 : Value) (l m : List Prm) (w : World) (h1 : RPrms w v1 l) (h2 : RPrms w v2 m) (hl : l.length ≤ 100000000) (hm : m.length ≤ 100000000) :
    Calls Tryz.prog 100 #[v1, v2] w fun e w' => (∃ v, e = .returned v ∧ OwnP w' w.heap.size v (l ++ m) ∧ RPrms w' v (l ++ m)) ∧ Ext w w' := by
  have H1 := Lib.hid h1; have H2 := Lib.hid h2
  have HS1 := Lib.hid (sizes_p h1); have HS2 := Lib.hid (sizes_p h2)
  obtain ⟨A1, c1, rfl, hc1, hm1⟩ := h1.form
  obtain ⟨A2, c2, rfl, hc2, hm2⟩ := h2.form
  clear h1 h2
  go_enter Tryz.func100, Tryz.ntmps100
  go_wp2_with (at_builtin; refine app_vals Tryz.undPrm Tryz.infoPrm (by decide) (by decide) (by decide) rfl _ _ rfl w.heap.size (.slice none 0 0) 0 [] rfl ⟨rfl, .inl ⟨rfl, rfl⟩⟩ A1 l.length c1 (prmCells l) rfl H1.out.src (prmCells_one l) (by omega) (Nat.le_refl _) ?_)
  intro v3 w3 ho3 hg3
  have HO3 : Hid (World.ownsRow w3 w.heap.size 74 2 v3 l.length (prmCells l)) := Lib.hid (by simpa using ho3)
  have HX3 : Hid (Ext w w3) := Below.grown (Below.refl _ _) hg3 (Nat.le_refl _) (fun k e => by cases e)
  clear ho3 hg3
  go_wp2_with (at_builtin; refine app_vals Tryz.undPrm Tryz.infoPrm (by decide) (by decide) (by decide) rfl _ _ rfl w.heap.size _ l.length (prmCells l) rfl HO3.out A2 m.length c2 (prmCells m) rfl (H2.out.below HX3.out).src (prmCells_one m) (by omega) HX3.out.size ?_)
  intro v4 w4 ho4 hg4
  have HX4 : Hid (Ext w w4) := HX3.out.trans (grown_ext' hg4 HO3.out HX3.out.size)
  have hp : RPrms w4 v4 (l ++ m) := own_prms (B := w.heap.size) (by rw [List.length_append, prmCells_appd]; exact ho4) (fun a ha => (List.mem_append.1 ha).elim (HS1.out a) (HS2.out a))
  have HP := Lib.hid hp
  have HOP : Hid (OwnP w4 w.heap.size v4 (l ++ m)) := by unfold OwnP; rw [List.length_append, prmCells_appd]; exact ho4
  obtain ⟨A4, c4, rfl, -⟩ := hp.form
  clear ho4 hg4 hp
  go_wp2
  go_ret
  exact ⟨⟨_, rfl, HOP.out, HP.out⟩, HX4.out⟩
def kidS (P : Pg) (vs ls : List Prm) (t : Tm) (i : Nat) : Scs :=
  if i < t.args.length then (if t.op = 8 ∧ i = 1 then vs ++ [⟨t.nm, t.ty⟩] else vs, if t.op = 11 then ls ++ [⟨t.nm, t.ty⟩] else ls)
  else (vs ++ boundL (t.cls.getD (i - t.args.length) ([], .mk 0 0 ⟨#[]⟩ 0 [] [])).1 (prodL ((declAt P t.ty).xtors.getD (i - t.args.length) noXtor)), ls)
theorem link_append (l : List Prm) (m : List Prm) : linkL (l ++ m) = m.foldl (fun E a => (a.nm, a.ty) :: E) (linkL l) := by
  unfold linkL; rw [List.foldl_append]
theorem link_bound : ∀ (ns : List Str) (ts : List Int) (V : Env), (boundL ns ts).foldl (fun E a => (a.nm, a.ty) :: E) V = bindE ns ts V
  | [], _, _ => by simp [boundL, bindE]
  | _ :: _, [], _ => by simp [boundL, bindE]
  | s :: r, y :: q, V => by
    have h := link_bound r q ((s, y) :: V)
    unfold boundL at h ⊢
    rw [bindE, ← h]; rfl
theorem kidS_env (P : Pg) (vs ls : List Prm) (t : Tm) (i : Nat) : (linkL (kidS P vs ls t i).1, linkL (kidS P vs ls t i).2) = kidE P (linkL vs) (linkL ls) t i := by
  unfold kidS kidE argV argL
  by_cases hi : i < t.args.length
  · simp only [if_pos hi]
    by_cases h8 : t.op = 8 ∧ i = 1
    · have h11 : ¬ t.op = 11 := by omega
      simp only [if_pos h8, if_neg h11]
      rw [link_append]; rfl
    · by_cases h11 : t.op = 11
      · simp only [if_neg h8, if_pos h11]
        rw [link_append]; rfl
      · simp only [if_neg h8, if_neg h11]
  · simp only [if_neg hi]
    rw [link_append, link_bound]
/-- A slice of scopes. -/
def RScs (w : World) (v : Value) (l : List Scs) : Prop :=
  ∃ A c, v = .slice A l.length c ∧ l.length ≤ c ∧ c ≤ maxLen ∧ ∀ i x, l[i]? = some x → ∃ b o u1 u2, A = some ⟨b, o, none⟩ ∧ w.cell? ⟨b, o + i * 2, none⟩ = some u1 ∧ w.cell? ⟨b, o + i * 2 + 1, none⟩ = some u2 ∧ RPrms w u1 x.1 ∧ RPrms w u2 x.2
theorem cellsSc_at : ∀ (L : List Trs) (i : Nat) (x : Trs), L[i]? = some x → (cellsSc L)[i * 2]? = some x.1.1 ∧ (cellsSc L)[i * 2 + 1]? = some x.1.2
  | [], _, _, h => by simp at h
  | y :: r, 0, x, h => by simp at h; subst h; exact ⟨rfl, rfl⟩
  | y :: r, i + 1, x, h => by
    rw [List.getElem?_cons_succ] at h
    obtain ⟨h1, h2⟩ := cellsSc_at r i x h
    rw [cellsSc, show (i + 1) * 2 = i * 2 + 1 + 1 by omega, List.getElem?_cons_succ, List.getElem?_cons_succ, List.getElem?_cons_succ, List.getElem?_cons_succ]
    exact ⟨h1, h2⟩
theorem KR.scs {w0 W : World} {s6 s7 : Value} {L6 : List Trm} {L7 : List Trs} (h : KR w0 W s6 s7 L6 L7) : RScs W s7 (L7.map (·.2)) := by
  have ho := h.rb
  rcases h.rb.2 with ⟨rfl, h0⟩ | ⟨g, cap, cur, rfl, e2, e3, e4, e5, e6, e7⟩
  · have hL : L7 = [] := List.eq_nil_of_length_eq_zero h0
    subst hL
    exact ⟨none, 0, rfl, Nat.le_refl _, Nat.zero_le _, fun i x hx => by simp at hx⟩
  · refine ⟨some ⟨g, 0, none⟩, cap, by rw [List.length_map], by rw [List.length_map]; exact e4, e5, fun i x hx => ?_⟩
    rw [List.getElem?_map] at hx
    obtain ⟨y, hy, rfl⟩ := Option.map_eq_some_iff.1 hx
    have hi : i < L7.length := (List.getElem?_eq_some_iff.1 hy).1
    obtain ⟨h1, h2⟩ := cellsSc_at L7 i y hy
    have hok := h.ok y (List.mem_of_getElem? hy)
    refine ⟨g, 0, y.1.1, y.1.2, rfl, ?_, ?_, hok.1.reads h.ext, hok.2.reads h.ext⟩
    · rw [Nat.zero_add, World.ownsRow.cellAt ho (i * 2) (by omega)]; exact h1
    · rw [Nat.zero_add, World.ownsRow.cellAt ho (i * 2 + 1) (by omega)]; exact h2
theorem SPr.form {w0 W : World} {v : Value} {l : List Prm} (h : SPr w0 W v l) : ∃ A c, v = .slice A l.length c := by
  rcases h with h | h
  · obtain ⟨A, c, e, -, -⟩ := h.form
    exact ⟨A, c, e⟩
  · exact own_shapeL h.1
theorem Tryz.undSc : Tryz.prog.underlying 117 = some (.slice 85) := by kernel_rfl
theorem Tryz.infoSc : (Tryz.prog.info? 85).map (fun i => (i.zero, i.size, i.bytes)) = some (some (.agg #[.slice none 0 0, .slice none 0 0]), 2, 48) := by kernel_rfl
theorem SrcN.oneSc {w : World} {g : Nat} {y : Trs} (h : w.heap[g]? = some (.cells #[y.1.1, y.1.2] 85 (0, 0))) : SrcN w (some ⟨g, 0, none⟩) 1 2 (cellsSc [y]) :=
  .inr ⟨_, rfl, rfl, fun j u hu => by
    have hj : j < 2 := (List.getElem?_eq_some_iff.1 hu).1
    rw [add_at, Nat.zero_add]
    match j, hj with
    | 0, _ => exact (cellAt h 0).trans hu
    | 1, _ => exact (cellAt h 1).trans hu⟩
theorem SrcN.oneTm {w : World} {g : Nat} {x : Trm} (h : w.heap[g]? = some (.cells #[.int .i64 x.1.op, .int .i64 x.1.n, .string x.1.nm, .int .i64 x.1.ty, x.2.1, x.2.2] 41 (0, 0))) : SrcN w (some ⟨g, 0, none⟩) 1 6 (cellsT [x]) :=
  .inr ⟨_, rfl, rfl, fun j u hu => by
    have hj : j < 6 := (List.getElem?_eq_some_iff.1 hu).1
    rw [add_at, Nat.zero_add]
    match j, hj with
    | 0, _ => exact (cellAt h 0).trans hu
    | 1, _ => exact (cellAt h 1).trans hu
    | 2, _ => exact (cellAt h 2).trans hu
    | 3, _ => exact (cellAt h 3).trans hu
    | 4, _ => exact (cellAt h 4).trans hu
    | 5, _ => exact (cellAt h 5).trans hu⟩
section
variable {n i : Nat} {vals : Nat → Value} {w0 w5 W W' : World} {s6 s7 v : Value} {L6 : List Trm} {x : Trm} {L7 : List Trs} {y : Trs} {Ls : Nat → Bool} {vv : Nat → Value}
theorem R9.ra0 (h : R9 n vals w0 w5 s6 s7 L6 x L7 y Ls W vv) (hl : Ls (n + 1) = false) : W.ownsRow w0.heap.size 41 6 s6 L6.length (cellsT L6) := by
  have hk := h.kr
  rw [hl] at hk
  simpa using hk.ra
theorem R9.rb0 (h : R9 n vals w0 w5 s6 s7 L6 x L7 y Ls W vv) (hl : Ls (n + 5) = false) : W.ownsRow w0.heap.size 85 2 s7 L7.length (cellsSc L7) := by
  have hk := h.kr
  rw [hl] at hk
  simpa using hk.rb
theorem R9.size (h : R9 n vals w0 w5 s6 s7 L6 x L7 y Ls W vv) : w0.heap.size ≤ W.heap.size := h.kr.ext.size
theorem R9.done (h : R9 n vals w0 w5 s6 s7 L6 x L7 y Ls W vv) (h1 : Ls (n + 1) = true) (h5 : Ls (n + 5) = true) : KR w0 W (vv (n + 1)) (vv (n + 5)) (L6 ++ [x]) (L7 ++ [y]) := by
  have hk := h.kr
  rw [h1, h5] at hk
  simpa using hk
end
/-- What the operations ahead of the store of a clause's scope yield. -/
def F15 (vals : Nat → Value) (w1 : World) (vs BL : List Prm) (W : World) (j : Nat) (v : Value) : Prop :=
  (j ≠ 15 ∧ j ≠ 16 → v = vals j) ∧ (j = 15 → RPrms W v BL) ∧ (j = 16 → OwnP W w1.heap.size v (vs ++ BL) ∧ ∀ a ∈ vs ++ BL, a.nm.size ≤ maxLen)
theorem F15.ext {vals : Nat → Value} {w1 : World} {vs BL : List Prm} (W W' : World) (j : Nat) (v : Value) (h : F15 vals w1 vs BL W j v) (hb : Ext W W') : F15 vals w1 vs BL W' j v :=
  ⟨h.1, fun e => (h.2.1 e).below hb, fun e => ⟨own_below (h.2.2 e).1 hb, (h.2.2 e).2⟩⟩
end Go.Proofs.YtogmjgccopmplaaGreat
