/- How the declarations lie in memory, and that new blocks do not turn it. -/
import Derived.Test.YtoopngnmdgcklaaNames
namespace Go.Proofs.Ytoopngnmdgcklaa
open Go.RowKit

def RArgs (w : World) (v : Value) (l : List Arg) : Prop :=
  ∃ A c, v = .slice A l.length c ∧ l.length ≤ c ∧ c ≤ maxLen ∧
    ∀ i a, l[i]? = some a → ∃ b o, A = some ⟨b, o, none⟩ ∧ b < w.heap.size ∧ w.cell? ⟨b, o + i * 2, none⟩ = some (.int .i64 a.ty) ∧ w.cell? ⟨b, o + i * 2 + 1, none⟩ = some (.bool a.co)
def RXtors (w : World) (v : Value) (l : List Xtor) : Prop :=
  ∃ A c, v = .slice A l.length c ∧ l.length ≤ c ∧ c ≤ maxLen ∧
    ∀ i x, l[i]? = some x → ∃ b o va, A = some ⟨b, o, none⟩ ∧ b < w.heap.size ∧ w.cell? ⟨b, o + i * 2, none⟩ = some (.string x.name) ∧ w.cell? ⟨b, o + i * 2 + 1, none⟩ = some va ∧ RArgs w va x.args ∧ x.name.size ≤ maxLen
def RDecls (w : World) (v : Value) (l : List Decl) : Prop :=
  ∃ A c, v = .slice A l.length c ∧ l.length ≤ c ∧ c ≤ maxLen ∧
    ∀ i d, l[i]? = some d → ∃ b o va, A = some ⟨b, o, none⟩ ∧ b < w.heap.size ∧ w.cell? ⟨b, o + i * 3, none⟩ = some (.string d.name) ∧ w.cell? ⟨b, o + i * 3 + 1, none⟩ = some (.bool d.codata) ∧ w.cell? ⟨b, o + i * 3 + 2, none⟩ = some va ∧ RXtors w va d.xtors ∧ d.name.size ≤ maxLen
/-- A slice of bools. -/
def RBools (w : World) (v : Value) (l : List Bool) : Prop :=
  ∃ A c, v = .slice A l.length c ∧ l.length ≤ c ∧ c ≤ maxLen ∧
    ∀ i a, l[i]? = some a → ∃ b o, A = some ⟨b, o, none⟩ ∧ b < w.heap.size ∧ w.cell? ⟨b, o + i, none⟩ = some (.bool a)

section
variable {w w' : World} {v : Value}
theorem RArgs.below {l : List Arg} (h : RArgs w v l) (hb : Below w.heap.size w w') : RArgs w' v l := by
  obtain ⟨A, c, rfl, h1, h2, h3⟩ := h
  refine ⟨A, c, rfl, h1, h2, fun i a hi => ?_⟩
  obtain ⟨b, o, rfl, hlt, h4, h5⟩ := h3 i a hi
  exact ⟨b, o, rfl, Nat.lt_of_lt_of_le hlt hb.size, (hb.cell hlt).trans h4, (hb.cell hlt).trans h5⟩
theorem RXtors.below {l : List Xtor} (h : RXtors w v l) (hb : Below w.heap.size w w') : RXtors w' v l := by
  obtain ⟨A, c, rfl, h1, h2, h3⟩ := h
  refine ⟨A, c, rfl, h1, h2, fun i a hi => ?_⟩
  obtain ⟨b, o, va, rfl, hlt, h4, h5, h6, h7⟩ := h3 i a hi
  exact ⟨b, o, va, rfl, Nat.lt_of_lt_of_le hlt hb.size, (hb.cell hlt).trans h4, (hb.cell hlt).trans h5, h6.below hb, h7⟩
theorem RDecls.below {l : List Decl} (h : RDecls w v l) (hb : Below w.heap.size w w') : RDecls w' v l := by
  obtain ⟨A, c, rfl, h1, h2, h3⟩ := h
  refine ⟨A, c, rfl, h1, h2, fun i a hi => ?_⟩
  obtain ⟨b, o, va, rfl, hlt, h4, h5, h6, h7, h8⟩ := h3 i a hi
  exact ⟨b, o, va, rfl, Nat.lt_of_lt_of_le hlt hb.size, (hb.cell hlt).trans h4, (hb.cell hlt).trans h5, (hb.cell hlt).trans h6, h7.below hb, h8⟩
theorem RBools.below {l : List Bool} (h : RBools w v l) (hb : Below w.heap.size w w') : RBools w' v l := by
  obtain ⟨A, c, rfl, h1, h2, h3⟩ := h
  refine ⟨A, c, rfl, h1, h2, fun i a hi => ?_⟩
  obtain ⟨b, o, rfl, hlt, h4⟩ := h3 i a hi
  exact ⟨b, o, rfl, Nat.lt_of_lt_of_le hlt hb.size, (hb.cell hlt).trans h4⟩
theorem getElem?_take_some {α : Type} {l : List α} {n i : Nat} {a : α} (h : (l.take n)[i]? = some a) : l[i]? = some a := by
  rw [List.getElem?_take] at h
  split at h
  · exact h
  · cases h
theorem RArgs.take {l : List Arg} {A : Option Addr} {n c : Nat} (h : RArgs w (.slice A l.length c) l) (hn : n ≤ l.length) : RArgs w (.slice A n c) (l.take n) := by
  obtain ⟨A', c', he, h1, h2, h3⟩ := h
  cases he
  exact ⟨A, c, by simp [Nat.min_eq_left hn], by simp [Nat.min_eq_left hn]; omega, h2, fun i a hi => h3 i a (getElem?_take_some hi)⟩
theorem RDecls.take {l : List Decl} {A : Option Addr} {n c : Nat} (h : RDecls w (.slice A l.length c) l) (hn : n ≤ l.length) : RDecls w (.slice A n c) (l.take n) := by
  obtain ⟨A', c', he, h1, h2, h3⟩ := h
  cases he
  exact ⟨A, c, by simp [Nat.min_eq_left hn], by simp [Nat.min_eq_left hn]; omega, h2, fun i a hi => h3 i a (getElem?_take_some hi)⟩
theorem RArgs.at_ {l : List Arg} {A : Option Addr} {c : Nat} (h : RArgs w (.slice A l.length c) l) {k : Nat} (hk : k < l.length) :
    ∃ b o, A = some ⟨b, o, none⟩ ∧ b < w.heap.size ∧ w.cell? ⟨b, o + k * 2, none⟩ = some (.int .i64 l[k].ty) ∧ w.cell? ⟨b, o + k * 2 + 1, none⟩ = some (.bool l[k].co) := by
  obtain ⟨A', c', he, h1, h2, h3⟩ := h
  cases he
  exact h3 k _ (List.getElem?_eq_getElem hk)
theorem RXtors.at_ {l : List Xtor} {A : Option Addr} {c : Nat} (h : RXtors w (.slice A l.length c) l) {k : Nat} (hk : k < l.length) :
    ∃ b o va, A = some ⟨b, o, none⟩ ∧ b < w.heap.size ∧ w.cell? ⟨b, o + k * 2, none⟩ = some (.string l[k].name) ∧ w.cell? ⟨b, o + k * 2 + 1, none⟩ = some va ∧ RArgs w va l[k].args ∧ l[k].name.size ≤ maxLen := by
  obtain ⟨A', c', he, h1, h2, h3⟩ := h
  cases he
  exact h3 k _ (List.getElem?_eq_getElem hk)
theorem RDecls.at_ {l : List Decl} {A : Option Addr} {c : Nat} (h : RDecls w (.slice A l.length c) l) {k : Nat} (hk : k < l.length) :
    ∃ b o va, A = some ⟨b, o, none⟩ ∧ b < w.heap.size ∧ w.cell? ⟨b, o + k * 3, none⟩ = some (.string l[k].name) ∧ w.cell? ⟨b, o + k * 3 + 1, none⟩ = some (.bool l[k].codata) ∧ w.cell? ⟨b, o + k * 3 + 2, none⟩ = some va ∧ RXtors w va l[k].xtors ∧ l[k].name.size ≤ maxLen := by
  obtain ⟨A', c', he, h1, h2, h3⟩ := h
  cases he
  exact h3 k _ (List.getElem?_eq_getElem hk)
theorem RBools.at_ {l : List Bool} {A : Option Addr} {c : Nat} (h : RBools w (.slice A l.length c) l) {k : Nat} (hk : k < l.length) :
    ∃ b o, A = some ⟨b, o, none⟩ ∧ b < w.heap.size ∧ w.cell? ⟨b, o + k, none⟩ = some (.bool l[k]) := by
  obtain ⟨A', c', he, h1, h2, h3⟩ := h
  cases he
  exact h3 k _ (List.getElem?_eq_getElem hk)
end
theorem RArgs.form {w : World} {v : Value} {l : List Arg} (h : RArgs w v l) : ∃ A c, v = .slice A l.length c ∧ l.length ≤ c ∧ c ≤ maxLen := by
  obtain ⟨A, c, h1, h2, h3, _⟩ := h; exact ⟨A, c, h1, h2, h3⟩
theorem RXtors.form {w : World} {v : Value} {l : List Xtor} (h : RXtors w v l) : ∃ A c, v = .slice A l.length c ∧ l.length ≤ c ∧ c ≤ maxLen := by
  obtain ⟨A, c, h1, h2, h3, _⟩ := h; exact ⟨A, c, h1, h2, h3⟩
theorem RDecls.form {w : World} {v : Value} {l : List Decl} (h : RDecls w v l) : ∃ A c, v = .slice A l.length c ∧ l.length ≤ c ∧ c ≤ maxLen := by
  obtain ⟨A, c, h1, h2, h3, _⟩ := h; exact ⟨A, c, h1, h2, h3⟩
theorem RBools.form {w : World} {v : Value} {l : List Bool} (h : RBools w v l) : ∃ A c, v = .slice A l.length c ∧ l.length ≤ c ∧ c ≤ maxLen := by
  obtain ⟨A, c, h1, h2, h3, _⟩ := h; exact ⟨A, c, h1, h2, h3⟩
/-- All that was there is as it was. -/
abbrev Ext (w w' : World) : Prop := Below w.heap.size w w'
theorem cell_lt {w : World} {p : Addr} {v : Value} (h : w.cell? p = some v) : p.block < w.heap.size := by
  rcases Nat.lt_or_ge p.block w.heap.size with h1 | h1
  · exact h1
  · unfold World.cell? at h
    rw [Array.getElem?_eq_none h1] at h
    cases h
theorem Ext.keep {w w' : World} {p : Addr} {v : Value} (hb : Ext w w') (h : w.cell? p = some v) : w'.cell? p = some v := (hb.cell (cell_lt h)).trans h
theorem Ext.al (w : World) (o : Obj) : Ext w (w.alloc o) := (Below.refl _ _).alloc (Nat.le_refl _) _
theorem Ext.tr {a b c : World} (h : Ext a b) (k : Ext b c) : Ext a c := Below.trans h (Below.mono k h.size)
theorem Ext.rf (w : World) : Ext w w := Below.refl _ _
theorem drop_step {α : Type} {l : List α} {k : Nat} (h : k < l.length) : l.drop k = l[k] :: l.drop (k + 1) := List.drop_eq_getElem_cons h
theorem drop_end {α : Type} {l : List α} {k : Nat} (h : ¬ k < l.length) : l.drop k = [] := List.drop_eq_nil_of_le (by omega)

end Go.Proofs.Ytoopngnmdgcklaa
