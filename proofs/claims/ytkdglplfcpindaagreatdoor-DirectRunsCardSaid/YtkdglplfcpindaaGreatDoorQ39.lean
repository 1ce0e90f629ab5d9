import Derived.Test.YtkdglplfcpindaaGreatDoorQ38
import Derived.Orders
import Derived.RegionTactic
namespace Go.Proofs.YtkdglplfcpindaaGreatDoor
open Go.RowKit
structure KR5 (ea eb ka kb : Nat) (w0 W : World) (s6 s7 : Value) (n6 n7 : Nat) (x6 x7 : List Value) : Prop where
  ra : W.ownsRow w0.heap.size ea ka s6 n6 x6
  rb : W.ownsRow w0.heap.size eb kb s7 n7 x7
  ext : Ext w0 W
theorem own_other5 {W W' : World} {B e k n : Nat} {v s : Value} {xs : List Value} (h : W.ownsRow B e k v n xs) (hg : W.grownBy W' s.ownBlock) (hne : ∀ g, v.ownBlock = some g -> s.ownBlock ≠ some g) : W'.ownsRow B e k v n xs := by
  refine ⟨h.1, ?_⟩
  rcases h.2 with h0 | ⟨g, cap, cur, rfl, e2, e3, e4⟩
  . exact .inl h0
  . exact .inr ⟨g, cap, cur, rfl, e2, (hg.block g (hLt e3) (fun e => hne g (by simp [Value.ownBlock]) e.symm)).trans e3, e4⟩
theorem own_apart5 {W W' : World} {B B' ea eb ka kb na nb : Nat} {v s : Value} {xa xb : List Value} (h : W.ownsRow B ea ka v na xa) (hs : W.ownsRow B' eb kb s nb xb) (hne : ea ≠ eb) (hg : W.grownBy W' s.ownBlock) : W'.ownsRow B ea ka v na xa := by
  refine own_other5 h hg (fun g e e2 => ?_)
  rcases h.2 with ⟨rfl, -⟩ | ⟨g1, cap, cur, rfl, -, f3, -⟩
  . simp [Value.ownBlock] at e
  . simp [Value.ownBlock] at e
    subst e
    rcases hs.2 with ⟨rfl, -⟩ | ⟨g2, cap2, cur2, rfl, -, f4, -⟩
    . simp [Value.ownBlock] at e2
    . simp [Value.ownBlock] at e2
      subst e2
      rw [f3] at f4
      cases f4
      exact hne rfl
section
variable {ea eb ka kb n6 n7 m : Nat} {w0 W W' : World} {s6 s7 v : Value} {x6 x7 y : List Value}
theorem KR5.below (h : KR5 ea eb ka kb w0 W s6 s7 n6 n7 x6 x7) (hb : Ext W W') : KR5 ea eb ka kb w0 W' s6 s7 n6 n7 x6 x7 := ⟨oB h.ra hb, oB h.rb hb, h.ext.tr hb⟩
theorem KR5.growA (h : KR5 ea eb ka kb w0 W s6 s7 n6 n7 x6 x7) (hne : ea ≠ eb) (hg : W.grownBy W' s6.ownBlock) (ho : W'.ownsRow w0.heap.size ea ka v m y) : KR5 ea eb ka kb w0 W' v s7 m n7 y x7 :=
  ⟨ho, own_apart5 h.rb h.ra hne.symm hg, h.ext.trans (Below.grown (Below.refl _ _) hg h.ext.size (fun k e => (h.ra.lt k e).1))⟩
theorem KR5.growB (h : KR5 ea eb ka kb w0 W s6 s7 n6 n7 x6 x7) (hne : ea ≠ eb) (hg : W.grownBy W' s7.ownBlock) (ho : W'.ownsRow w0.heap.size eb kb v m y) : KR5 ea eb ka kb w0 W' s6 v n6 m x6 y :=
  ⟨own_apart5 h.ra h.rb hne hg, ho, h.ext.trans (Below.grown (Below.refl _ _) hg h.ext.size (fun k e => (h.rb.lt k e).1))⟩
end
def CB5 (s6 s7 : Value) (q : Nat) : Prop := s6.ownBlock = some q ∨ s7.ownBlock = some q
def pl16 (i : Nat) : Prop := i < 12 /\ i ≠ 3 /\ i ≠ 4
structure R16 (ea eb ka kb : Nat) (vals : Nat -> Value) (w0 w5 : World) (s6 s7 : Value) (n6 n7 : Nat) (x6 x7 y6 y7 : List Value) (Ls : Nat -> Bool) (W : World) (vv : Nat -> Value) : Prop where
  only : Only (CB5 s6 s7) w5 W
  kr : KR5 ea eb ka kb w0 W (if Ls 4 then vv 4 else s6) (if Ls 13 then vv 13 else s7) (if Ls 4 then n6 + 1 else n6) (if Ls 13 then n7 + 1 else n7) (if Ls 4 then x6 ++ y6 else x6) (if Ls 13 then x7 ++ y7 else x7)
  facts : ∀ i, pl16 i -> Ls i = true -> vv i = vals i
  f2 : Ls 3 = true -> ∃ q, vv 3 = .slice (some ⟨q, 0, none⟩) 1 1 /\ W.heap[q]? = some (.cells y6.toArray ea (0, 0)) /\ ¬ CB5 s6 s7 q
  f6 : Ls 12 = true -> ∃ q, vv 12 = .slice (some ⟨q, 0, none⟩) 1 1 /\ W.heap[q]? = some (.cells y7.toArray eb (0, 0)) /\ ¬ CB5 s6 s7 q
  a0 : Ls 14 = false -> vv 14 = s6
  a1 : Ls 14 = true -> vv 14 = vv 4
  b0 : Ls 15 = false -> vv 15 = s7
  b1 : Ls 15 = true -> vv 15 = vv 13
section
variable {ea eb ka kb n6 n7 i : Nat} {vals : Nat -> Value} {w0 w5 W W' : World} {s6 s7 v : Value} {x6 x7 y6 y7 : List Value} {Ls : Nat -> Bool} {vv : Nat -> Value}
theorem set_l5 {j : Nat} (h : j ≠ i) : (decide (j = i) || Ls j) = Ls j := by rw [decide_eq_false h, Bool.false_or]
theorem set_s5 : (decide (i = i) || Ls i) = true := by simp
theorem R16.zero (h : KR5 ea eb ka kb w0 w5 s6 s7 n6 n7 x6 x7) (ha : vv 14 = s6) (hb : vv 15 = s7) : R16 ea eb ka kb vals w0 w5 s6 s7 n6 n7 x6 x7 y6 y7 (fun _ => false) w5.drew vv :=
  ⟨Only.of_ext (Ext.rf _).drew, by simpa using h.below (Ext.rf _).drew, (fun _ _ h => by cases h), (fun h => by cases h), (fun h => by cases h), fun _ => ha, (fun h => by cases h), fun _ => hb, (fun h => by cases h)⟩
theorem R16.step (h : R16 ea eb ka kb vals w0 w5 s6 s7 n6 n7 x6 x7 y6 y7 Ls W vv) (hi : i < 13 /\ i ≠ 4) (hb : Ext W W') (h1 : i ≠ 3 -> i ≠ 12 -> v = vals i)
    (h2 : i = 3 -> ∃ q, v = .slice (some ⟨q, 0, none⟩) 1 1 /\ W'.heap[q]? = some (.cells y6.toArray ea (0, 0)) /\ ¬ CB5 s6 s7 q)
    (h6 : i = 12 -> ∃ q, v = .slice (some ⟨q, 0, none⟩) 1 1 /\ W'.heap[q]? = some (.cells y7.toArray eb (0, 0)) /\ ¬ CB5 s6 s7 q) :
    R16 ea eb ka kb vals w0 w5 s6 s7 n6 n7 x6 x7 y6 y7 (fun j => decide (j = i) || Ls j) W' (fun j => if j = i then v else vv j) := by
  have e1 := set_l5 (Ls := Ls) (i := i) (j := 4) (by omega)
  have e5 := set_l5 (Ls := Ls) (i := i) (j := 13) (by omega)
  have e6 := set_l5 (Ls := Ls) (i := i) (j := 14) (by omega)
  have e7 := set_l5 (Ls := Ls) (i := i) (j := 15) (by omega)
  have v1 : (if 4 = i then v else vv 4) = vv 4 := if_neg (by omega)
  have v5 : (if 13 = i then v else vv 13) = vv 13 := if_neg (by omega)
  have v6 : (if 14 = i then v else vv 14) = vv 14 := if_neg (by omega)
  have v7 : (if 15 = i then v else vv 15) = vv 15 := if_neg (by omega)
  refine ⟨h.only.tr (Only.of_ext hb), ?_, fun j hj hl => ?_, fun hl => ?_, fun hl => ?_, ?_, ?_, ?_, ?_⟩
  . simp only [e1, e5, v1, v5]; exact h.kr.below hb
  . by_cases hji : j = i
    . subst hji; unfold pl16 at hj; simpa using h1 (by omega) (by omega)
    . rw [set_l5 hji] at hl
      simp only [if_neg hji]
      exact h.facts j hj hl
  . by_cases hji : 3 = i
    . simp only [if_pos hji]; exact h2 hji.symm
    . rw [set_l5 hji] at hl
      simp only [if_neg hji]
      obtain ⟨q, a, b, c⟩ := h.f2 hl
      exact ⟨q, a, (hb.block _ (hLt b)).trans b, c⟩
  . by_cases hji : 12 = i
    . simp only [if_pos hji]; exact h6 hji.symm
    . rw [set_l5 hji] at hl
      simp only [if_neg hji]
      obtain ⟨q, a, b, c⟩ := h.f6 hl
      exact ⟨q, a, (hb.block _ (hLt b)).trans b, c⟩
  . simp only [e6, v6]; exact h.a0
  . simp only [e6, v6, v1]; exact h.a1
  . simp only [e7, v7]; exact h.b0
  . simp only [e7, v7, v5]; exact h.b1
theorem R16.ra0 (h : R16 ea eb ka kb vals w0 w5 s6 s7 n6 n7 x6 x7 y6 y7 Ls W vv) (hl : Ls 4 = false) : W.ownsRow w0.heap.size ea ka s6 n6 x6 := by
  have := h.kr.ra
  rw [hl] at this
  simpa using this
theorem R16.rb0 (h : R16 ea eb ka kb vals w0 w5 s6 s7 n6 n7 x6 x7 y6 y7 Ls W vv) (hl : Ls 13 = false) : W.ownsRow w0.heap.size eb kb s7 n7 x7 := by
  have := h.kr.rb
  rw [hl] at this
  simpa using this
theorem R16.appA (h : R16 ea eb ka kb vals w0 w5 s6 s7 n6 n7 x6 x7 y6 y7 Ls W vv) (hne : ea ≠ eb) (hl : Ls 4 = false) (h6 : Ls 14 = false) (hg : W.grownBy W' s6.ownBlock) (ho : W'.ownsRow w0.heap.size ea ka v (n6 + 1) (x6 ++ y6)) :
    R16 ea eb ka kb vals w0 w5 s6 s7 n6 n7 x6 x7 y6 y7 (fun j => decide (j = 4) || Ls j) W' (fun j => if j = 4 then v else vv j) := by
  have hk := h.kr
  rw [hl] at hk
  simp only [Bool.false_eq_true, if_false] at hk
  have hx : Only (CB5 s6 s7) W W' := ⟨hg.os, hg.tape, hg.output, hg.size, fun q hq hn => hg.block q hq (fun e => hn (.inl e.symm))⟩
  have e5 := set_l5 (Ls := Ls) (i := 4) (j := 13) (by omega)
  have e6 := set_l5 (Ls := Ls) (i := 4) (j := 14) (by omega)
  have e7 := set_l5 (Ls := Ls) (i := 4) (j := 15) (by omega)
  refine ⟨h.only.tr hx, ?_, fun j hj hl => ?_, fun hl => ?_, fun hl => ?_, ?_, ?_, ?_, ?_⟩
  . simp only [set_s5, e5, if_true, if_neg (show ¬ 13 = 4 by omega)]
    exact hk.growA hne hg ho
  . have hji : j ≠ 4 := by unfold pl16 at hj; omega
    rw [set_l5 hji] at hl
    simp only [if_neg hji]
    exact h.facts j hj hl
  . rw [set_l5 (by omega)] at hl
    obtain ⟨q, a, b, c⟩ := h.f2 hl
    exact ⟨q, a, (hx.block _ (hLt b) c).trans b, c⟩
  . rw [set_l5 (by omega)] at hl
    obtain ⟨q, a, b, c⟩ := h.f6 hl
    exact ⟨q, a, (hx.block _ (hLt b) c).trans b, c⟩
  . simp only [e6, if_neg (show ¬ 14 = 4 by omega)]; exact h.a0
  . intro hh
    have hh : (decide (14 = 4) || Ls 14) = true := hh
    rw [e6, h6] at hh; cases hh
  . simp only [e7, if_neg (show ¬ 15 = 4 by omega)]; exact h.b0
  . simp only [e7, if_neg (show ¬ 15 = 4 by omega), if_neg (show ¬ 13 = 4 by omega)]; exact h.b1
theorem R16.appB (h : R16 ea eb ka kb vals w0 w5 s6 s7 n6 n7 x6 x7 y6 y7 Ls W vv) (hne : ea ≠ eb) (hl : Ls 13 = false) (h7 : Ls 15 = false) (hg : W.grownBy W' s7.ownBlock) (ho : W'.ownsRow w0.heap.size eb kb v (n7 + 1) (x7 ++ y7)) :
    R16 ea eb ka kb vals w0 w5 s6 s7 n6 n7 x6 x7 y6 y7 (fun j => decide (j = 13) || Ls j) W' (fun j => if j = 13 then v else vv j) := by
  have hk := h.kr
  rw [hl] at hk
  simp only [Bool.false_eq_true, if_false] at hk
  have hx : Only (CB5 s6 s7) W W' := ⟨hg.os, hg.tape, hg.output, hg.size, fun q hq hn => hg.block q hq (fun e => hn (.inr e.symm))⟩
  have e5 := set_l5 (Ls := Ls) (i := 13) (j := 4) (by omega)
  have e6 := set_l5 (Ls := Ls) (i := 13) (j := 14) (by omega)
  have e7 := set_l5 (Ls := Ls) (i := 13) (j := 15) (by omega)
  refine ⟨h.only.tr hx, ?_, fun j hj hl => ?_, fun hl => ?_, fun hl => ?_, ?_, ?_, ?_, ?_⟩
  . simp only [set_s5, e5, if_true, if_neg (show ¬ 4 = 13 by omega)]
    exact hk.growB hne hg ho
  . have hji : j ≠ 13 := by unfold pl16 at hj; omega
    rw [set_l5 hji] at hl
    simp only [if_neg hji]
    exact h.facts j hj hl
  . rw [set_l5 (by omega)] at hl
    obtain ⟨q, a, b, c⟩ := h.f2 hl
    exact ⟨q, a, (hx.block _ (hLt b) c).trans b, c⟩
  . rw [set_l5 (by omega)] at hl
    obtain ⟨q, a, b, c⟩ := h.f6 hl
    exact ⟨q, a, (hx.block _ (hLt b) c).trans b, c⟩
  . simp only [e6, if_neg (show ¬ 14 = 13 by omega)]; exact h.a0
  . simp only [e6, if_neg (show ¬ 14 = 13 by omega), if_neg (show ¬ 4 = 13 by omega)]; exact h.a1
  . simp only [e7, if_neg (show ¬ 15 = 13 by omega)]; exact h.b0
  . intro hh
    have hh : (decide (15 = 13) || Ls 15) = true := hh
    rw [e7, h7] at hh; cases hh
theorem R16.asgA (h : R16 ea eb ka kb vals w0 w5 s6 s7 n6 n7 x6 x7 y6 y7 Ls W vv) : R16 ea eb ka kb vals w0 w5 s6 s7 n6 n7 x6 x7 y6 y7 (fun j => decide (j = 14) || Ls j) W (fun j => if j = 14 then vv 4 else vv j) := by
  have e : ∀ j, j ≠ 14 -> (decide (j = 14) || Ls j) = Ls j := fun j hj => set_l5 hj
  refine ⟨h.only, ?_, fun j hj hl => ?_, fun hl => ?_, fun hl => ?_, ?_, ?_, ?_, ?_⟩
  . simp only [e 4 (by omega), e 13 (by omega), if_neg (show ¬ 4 = 14 by omega), if_neg (show ¬ 13 = 14 by omega)]; exact h.kr
  . have hji : j ≠ 14 := by unfold pl16 at hj; omega
    rw [set_l5 hji] at hl
    simp only [if_neg hji]; exact h.facts j hj hl
  . rw [set_l5 (by omega)] at hl; exact h.f2 hl
  . rw [set_l5 (by omega)] at hl; exact h.f6 hl
  . simp only [set_s5]; intro h; cases h
  . intro _; rfl
  . simp only [e 15 (by omega), if_neg (show ¬ 15 = 14 by omega)]; exact h.b0
  . simp only [e 15 (by omega), if_neg (show ¬ 15 = 14 by omega), if_neg (show ¬ 13 = 14 by omega)]; exact h.b1
theorem R16.asgB (h : R16 ea eb ka kb vals w0 w5 s6 s7 n6 n7 x6 x7 y6 y7 Ls W vv) : R16 ea eb ka kb vals w0 w5 s6 s7 n6 n7 x6 x7 y6 y7 (fun j => decide (j = 15) || Ls j) W (fun j => if j = 15 then vv 13 else vv j) := by
  have e : ∀ j, j ≠ 15 -> (decide (j = 15) || Ls j) = Ls j := fun j hj => set_l5 hj
  refine ⟨h.only, ?_, fun j hj hl => ?_, fun hl => ?_, fun hl => ?_, ?_, ?_, ?_, ?_⟩
  . simp only [e 4 (by omega), e 13 (by omega), if_neg (show ¬ 4 = 15 by omega), if_neg (show ¬ 13 = 15 by omega)]; exact h.kr
  . have hji : j ≠ 15 := by unfold pl16 at hj; omega
    rw [set_l5 hji] at hl
    simp only [if_neg hji]; exact h.facts j hj hl
  . rw [set_l5 (by omega)] at hl; exact h.f2 hl
  . rw [set_l5 (by omega)] at hl; exact h.f6 hl
  . simp only [e 14 (by omega), if_neg (show ¬ 14 = 15 by omega)]; exact h.a0
  . simp only [e 14 (by omega), if_neg (show ¬ 14 = 15 by omega), if_neg (show ¬ 4 = 15 by omega)]; exact h.a1
  . simp only [set_s5]; intro h; cases h
  . intro _; rfl
end
end Go.Proofs.YtkdglplfcpindaaGreatDoor

namespace Go.Proofs.YtkdglplfcpindaaGreatDoor
open Go.RowKit
def openN (n : Nat) (listed : Array Bool) : Nat := (List.range n).countP fun i => !listed.getD i false
theorem getD_eq {listed : Array Bool} {i : Nat} (h : i < listed.size) (a b : Bool) : listed.getD i a = listed.getD i b := by
  simp [Array.getD, h]
theorem openN_zero {n : Nat} {listed : Array Bool} (h : openN n listed = 0) : ∀ i, i < n -> listed.getD i false = true := by
  intro i hi
  unfold openN at h
  rw [List.countP_eq_zero] at h
  have := h i (List.mem_range.2 hi)
  cases hb : listed.getD i false
  . rw [hb] at this; simp at this
  . rfl
theorem set_getD {listed : Array Bool} {i j : Nat} (hi : i < listed.size) : (listed.setIfInBounds i true).getD j false = (decide (j = i) || listed.getD j false) := by
  by_cases h : j = i
  . subst h; simp [Array.getD, hi]
  . have h' : i ≠ j := fun e => h e.symm
    rw [Array.getD_eq_getD_getElem?, Array.getD_eq_getD_getElem?, Array.getElem?_setIfInBounds_ne h']; simp [h]
theorem count_lt {α : Type} {p q : α -> Bool} : ∀ (l : List α), (∀ x ∈ l, q x = true -> p x = true) -> (∃ x ∈ l, p x = true /\ q x = false) -> l.countP q < l.countP p
  | [], _, h => by obtain ⟨x, hx, _⟩ := h; cases hx
  | a :: r, hpq, h => by
    have hle : r.countP q <= r.countP p := List.countP_mono_left fun x hx hq => hpq x (List.mem_cons_of_mem _ hx) hq
    rw [List.countP_cons, List.countP_cons]
    obtain ⟨x, hx, hp, hq⟩ := h
    rcases List.mem_cons.1 hx with rfl | hx
    . rw [hp, hq]; simp; omega
    . have := count_lt r (fun y hy => hpq y (List.mem_cons_of_mem _ hy)) ⟨x, hx, hp, hq⟩
      have h2 := hpq a (List.mem_cons_self ..)
      cases hqa : q a
      . simp; omega
      . rw [h2 hqa]; simp; omega
theorem openN_set {n : Nat} {listed : Array Bool} {i : Nat} (hs : listed.size = n) (hi : i < n) (hl : listed.getD i false = false) : openN n (listed.setIfInBounds i true) < openN n listed := by
  unfold openN
  refine count_lt _ (fun x _ hq => ?_) ⟨i, List.mem_range.2 hi, by rw [hl]; rfl, by rw [set_getD (by omega)]; simp⟩
  rw [set_getD (by omega)] at hq
  cases hb : listed.getD x false
  . rfl
  . rw [hb] at hq; simp at hq
theorem openN_start (n : Nat) : openN n (Array.replicate n false) = n := by
  unfold openN
  rw [List.countP_eq_length.2, List.length_range]
  intro i hi
  have := List.mem_range.1 hi
  simp [Array.getD, this]
end Go.Proofs.YtkdglplfcpindaaGreatDoor

namespace Go.Proofs.YtkdglplfcpindaaGreatDoor
open Go.RowKit
section
variable {w w' : World} {v : Value}
end
section
variable {α : Type} {cells : List α -> List Value} {e size : Nat} {OK : World -> α -> Prop} {w1 wr W W' : World} {g : Nat} {s s' : Value} {L : List α} {x : α}
end
end Go.Proofs.YtkdglplfcpindaaGreatDoor

namespace Go.Proofs.YtkdglplfcpindaaGreatDoor
open Go.RowKit
def ClosedL (ops : Array Oper) (L : Nat -> Bool) : Prop := ∀ i o, ops[i]? = some o -> L i = true -> ∀ e ∈ o.after.toList, Region.binds .any e = true -> L e.on = true
section
variable {w5 W W' : World} {F : World -> Nat -> Value -> Prop} {D : World -> Value -> Prop} {n i : Nat} {L : Nat -> Bool} {vv : Nat -> Value} {v p : Value}
end
end Go.Proofs.YtkdglplfcpindaaGreatDoor

namespace Go.Proofs.YtkdglplfcpindaaGreatDoor
open Go.RowKit
def backE (md : Region.Mode) (ops : Array Oper) : Bool := (List.range ops.size).all fun i => ((ops[i]?).map fun o => o.after.all fun e => !Region.binds md e || decide (e.on < i)).getD true
theorem all_of_readyE {md : Region.Mode} {ops : Array Oper} {listed : Array Bool} (hb : backE md ops = true) (hs : listed.size = ops.size) (hr : Region.ready md ops listed = []) : ∀ i, i < ops.size -> listed.getD i false = true := by
  intro i
  induction i using Nat.strongRecOn with
  | _ i ih =>
    intro hi
    cases hl : listed.getD i false
    . exfalso
      have hm : i ∈ Region.ready md ops listed := by
        unfold Region.ready
        rw [List.mem_filter]
        refine ⟨List.mem_range.2 hi, ?_⟩
        rw [getD_eq (by omega) true false, hl]
        have ho : ops[i]? = some ops[i] := Array.getElem?_eq_getElem hi
        rw [ho]
        simp only [Bool.not_false, Bool.true_and, Option.map_some, Option.getD_some, Array.all_eq_true, Bool.or_eq_true]
        intro j hj
        unfold backE at hb
        rw [List.all_eq_true] at hb
        have h1 := hb i (List.mem_range.2 hi)
        rw [ho] at h1
        simp only [Option.map_some, Option.getD_some, Array.all_eq_true, decide_eq_true_eq, Bool.or_eq_true] at h1
        rcases h1 j hj with h2 | h2
        . exact .inl h2
        . exact .inr (ih _ h2 (by omega))
      rw [hr] at hm; cases hm
    . rfl
theorem wpAny_invE {P : Program} {md : Region.Mode} {ops : Array Oper} {Q : Exit -> Act -> World -> Prop} (hb : backE md ops = true) (Inv : (Nat -> Bool) -> Act -> World -> Prop)
    (hstep : ∀ (L : Nat -> Bool) (a : Act) (w : World) (i : Nat) (o : Oper), ops[i]? = some o -> (∀ e ∈ o.after.toList, Region.binds md e = true -> L e.on = true) -> L i = false -> Inv L a w →
      wpOp P ops Q i (fun a' w' => Inv (fun j => decide (j = i) || L j) a' w') a w)
    (hdone : ∀ (L : Nat -> Bool) (a : Act) (w : World), (∀ i, i < ops.size -> L i = true) -> Inv L a w -> Q .normal a w) :
    ∀ (fuel : Nat) (listed : Array Bool) (a : Act) (w : World), listed.size = ops.size -> openN ops.size listed <= fuel -> Inv (fun j => listed.getD j false) a w -> wpAny P md ops Q fuel listed a w := by
  intro fuel
  induction fuel with
  | zero =>
    intro listed a w hs hn hI
    have hall := openN_zero (Nat.le_zero.1 hn)
    refine ⟨?_, hdone _ a w hall hI⟩
    unfold Region.ready
    rw [List.filter_eq_nil_iff]
    intro i hi
    have := hall i (List.mem_range.1 hi)
    rw [getD_eq (by have := List.mem_range.1 hi; omega) true false, this]
    simp
  | succ fuel ih =>
    intro listed a w hs hn hI
    refine ⟨fun hr => hdone _ a w (all_of_readyE hb hs hr) hI, fun i hi => ?_⟩
    unfold Region.ready at hi
    rw [List.mem_filter] at hi
    obtain ⟨hir, hc⟩ := hi
    have hlt := List.mem_range.1 hir
    have ho : ops[i]? = some ops[i] := Array.getElem?_eq_getElem hlt
    rw [ho, Bool.and_eq_true] at hc
    obtain ⟨hc1, hc2⟩ := hc
    have hl : listed.getD i false = false := by
      rw [getD_eq (by omega) true false] at hc1
      cases hh : listed.getD i false
      . rfl
      . rw [hh] at hc1; cases hc1
    refine wpOp_mono (fun a' w' hI' => ih (listed.setIfInBounds i true) a' w' (by simpa using hs) ?_ ?_) (hstep _ a w i _ ho (fun e he hbd => ?_) hl hI)
    . have := openN_set hs hlt hl
      omega
    . have hf : (fun j => (listed.setIfInBounds i true).getD j false) = (fun j => decide (j = i) || listed.getD j false) := by
        funext j; exact set_getD (by omega)
      rw [hf]; exact hI'
    . simp only [Option.map_some, Option.getD_some] at hc2
      rw [Array.all_eq_true] at hc2
      obtain ⟨n, hn', rfl⟩ := List.getElem_of_mem he
      have := hc2 n (by simpa using hn')
      rw [Bool.or_eq_true] at this
      rcases this with h | h
      . have hb' : Region.binds md ops[i].after[n] = true := by simpa using hbd
        rw [hb'] at h; cases h
      . simpa using h
theorem wp_region_invE {P : Program} {id : Nat} {Q : Exit -> Act -> World -> Prop} {a : Act} {w : World} {ops : Array Oper} (hm : P.follows .mixedOrders = true) (hb : backE .any ops = true) (Inv : (Nat -> Bool) -> Act -> World -> Prop)
    (h0 : Inv (fun _ => false) a w.drew)
    (hstep : ∀ (L : Nat -> Bool) (a : Act) (w : World) (i : Nat) (o : Oper), ops[i]? = some o -> (∀ e ∈ o.after.toList, Region.binds .any e = true -> L e.on = true) -> L i = false -> Inv L a w →
      ∀ K : Act -> World -> Prop, Hid (∀ a' w', Inv (fun j => decide (j = i) || L j) a' w' -> K a' w') -> if Region.wanted o (yielded ops a.tmps) = true then Oper.wp P o a w K Q else K (a.put o.dst undef) w)
    (hdone : ∀ (L : Nat -> Bool) (a : Act) (w : World), (∀ i, i < ops.size -> L i = true) -> Inv L a w -> Q .normal a w) : (Code.region id ops true).wp P Q a w := by
  refine wp_region_any hm (wpAny_invE hb Inv (fun L a w i o ho hp hl hI => wpOp_step ho fun K hK => hstep L a w i o ho hp hl hI K hK) hdone _ _ _ _ (by simp) (Nat.le_of_eq (openN_start _)) ?_)
  have hf : (fun j => (Array.replicate ops.size false).getD j false) = (fun _ => false) := by
    funext j
    by_cases h : j < ops.size <;> simp [Array.getD, h]
  rw [hf]; exact h0
theorem wp_region_invCE {P : Program} {id : Nat} {Q : Exit -> Act -> World -> Prop} {a : Act} {w : World} {ops : Array Oper} (hm : P.follows .mixedOrders = true) (hb : backE .any ops = true) (Inv : (Nat -> Bool) -> Act -> World -> Prop)
    (h0 : Inv (fun _ => false) a w.drew)
    (hstep : ∀ (L : Nat -> Bool) (a : Act) (w : World) (i : Nat) (o : Oper), ops[i]? = some o -> (∀ e ∈ o.after.toList, Region.binds .any e = true -> L e.on = true) -> L i = false -> ClosedL ops L -> Inv L a w →
      ∀ K : Act -> World -> Prop, Hid (∀ a' w', Inv (fun j => decide (j = i) || L j) a' w' -> K a' w') -> if Region.wanted o (yielded ops a.tmps) = true then Oper.wp P o a w K Q else K (a.put o.dst undef) w)
    (hdone : ∀ (L : Nat -> Bool) (a : Act) (w : World), (∀ i, i < ops.size -> L i = true) -> Inv L a w -> Q .normal a w) : (Code.region id ops true).wp P Q a w := by
  refine wp_region_invE hm hb (fun L a w => ClosedL ops L /\ Inv L a w) ⟨(fun i o _ h => by cases h), h0⟩ (fun L a w i o ho hp hl hI K hK => hstep L a w i o ho hp hl hI.1 hI.2 K (fun a' w' h => hK.out a' w' ⟨fun i' o' ho' hl' e he hbd => ?_, h⟩)) (fun L a w hall hI => hdone L a w hall hI.2)
  by_cases hi : i' = i
  . subst hi
    rw [ho] at ho'; cases ho'
    show (decide (e.on = i') || L e.on) = true
    rw [hp e he hbd, Bool.or_true]
  . have h1 : L i' = true := by
      have h2 : (decide (i' = i) || L i') = true := hl'
      rwa [decide_eq_false hi, Bool.false_or] at h2
    show (decide (e.on = i) || L e.on) = true
    rw [hI.1 i' o' ho' h1 e he hbd, Bool.or_true]
end Go.Proofs.YtkdglplfcpindaaGreatDoor
