import Derived.Test.YtoopngnmdgcklaaPure
namespace Go.Proofs.Ytoopngnmdgcklaa
open Go.RowKit

/-! ### the calls -/
def findX (nm : ByteArray) : Nat → List Xtor → Option Nat
  | _, [] => none
  | k, x :: r => if x.name.toList == nm.toList then some k else findX nm (k + 1) r
def findD (nm : ByteArray) : Nat → List Decl → Option (Nat × Nat)
  | _, [] => none
  | i, d :: r => match findX nm 0 d.xtors with
    | some k => some (i + 1, k)
    | none => findD nm (i + 1) r
theorem findX_hit {nm : ByteArray} {k : Nat} {x : Xtor} {r : List Xtor} (h : (x.name.toList == nm.toList) = true) : findX nm k (x :: r) = some k := by simp [findX, h]
theorem findX_miss {nm : ByteArray} {k : Nat} {x : Xtor} {r : List Xtor} (h : (x.name.toList == nm.toList) = false) : findX nm k (x :: r) = findX nm (k + 1) r := by simp [findX, h]
theorem findD_hit {nm : ByteArray} {i k : Nat} {d : Decl} {r : List Decl} (h : findX nm 0 d.xtors = some k) : findD nm i (d :: r) = some (i + 1, k) := by simp [findD, h]
theorem findD_miss {nm : ByteArray} {i : Nat} {d : Decl} {r : List Decl} (h : findX nm 0 d.xtors = none) : findD nm i (d :: r) = findD nm (i + 1) r := by simp [findD, h]
def negI (t n : Int) : Bool := decide (1 ≤ t ∧ t ≤ n)
def posB (l : List Decl) (t : Int) : Bool × Int :=
  if validB l = false then (false, 10) else if t = 0 then (true, 0) else match l[(t - 1).toNat]? with
    | some d => if 1 ≤ t then (!d.codata, 0) else (false, 1)
    | none => (false, 1)
def lastTy (l : List Arg) : Int := (l.getLast?.map Arg.ty).getD 0
theorem lastTy_eq {l : List Arg} (h : 0 < l.length) : lastTy l = (l[l.length - 1]).ty := by
  unfold lastTy
  rw [List.getLast?_eq_getElem?, List.getElem?_eq_getElem (by omega)]
  rfl
def resI (l : List Decl) (t n : Int) : Int × Int :=
  if validB l = false then (0, 10) else if 1 ≤ t ∧ 0 ≤ n then match l[(t - 1).toNat]? with
    | some d => if d.codata then match d.xtors[n.toNat]? with
      | some x => if endsB x.args then (lastTy x.args, 0) else (0, 1)
      | none => (0, 1)
      else (0, 1)
    | none => (0, 1)
    else (0, 1)
theorem posB_bad {l : List Decl} {t : Int} (h : validB l = false) : posB l t = (false, 10) := by simp [posB, h]
theorem posB_zero {l : List Decl} (h : validB l = true) : posB l 0 = (true, 0) := by simp [posB, h]
theorem posB_out {l : List Decl} {t : Int} (h : validB l = true) (h0 : t ≠ 0) (ht : ¬ (1 ≤ t ∧ t ≤ l.length)) : posB l t = (false, 1) := by
  unfold posB
  rw [if_neg (by simp [h]), if_neg h0]
  by_cases h1 : 1 ≤ t
  · rw [List.getElem?_eq_none (by omega)]
  · cases l[(t - 1).toNat]? <;> simp [h1]
theorem posB_in {l : List Decl} {t : Nat} (h : validB l = true) (ht : t < l.length) : posB l (t + 1) = (!(l[t]).codata, 0) := by
  unfold posB
  rw [if_neg (by simp [h]), if_neg (by omega)]
  have e : ((t : Int) + 1 - 1).toNat = t := by omega
  rw [e, List.getElem?_eq_getElem ht]
  simp; omega
theorem resI_bad {l : List Decl} {t n : Int} (h : validB l = false) : resI l t n = (0, 10) := by simp [resI, h]
theorem resI_out {l : List Decl} {t n : Int} (h : validB l = true) (ht : ¬ (1 ≤ t ∧ t ≤ l.length)) : resI l t n = (0, 1) := by
  unfold resI
  rw [if_neg (by simp [h])]
  split
  · rw [List.getElem?_eq_none (by omega)]
  · rfl
theorem resI_data {l : List Decl} {t : Nat} {n : Int} (h : validB l = true) (ht : t < l.length) (hd : (l[t]).codata = false) : resI l (t + 1) n = (0, 1) := by
  unfold resI
  rw [if_neg (by simp [h])]
  have e : ((t : Int) + 1 - 1).toNat = t := by omega
  rw [e, List.getElem?_eq_getElem ht]
  split <;> simp [hd]
theorem resI_none {l : List Decl} {t : Nat} {n : Int} (h : validB l = true) (ht : t < l.length) (hn : ¬ (0 ≤ n ∧ n < (l[t]).xtors.length)) : resI l (t + 1) n = (0, 1) := by
  unfold resI
  rw [if_neg (by simp [h])]
  have e : ((t : Int) + 1 - 1).toNat = t := by omega
  rw [e, List.getElem?_eq_getElem ht]
  split
  · rename_i h1
    have h2 : (l[t]).xtors[n.toNat]? = none := List.getElem?_eq_none (by omega)
    simp [h2]
  · rfl
theorem resI_noend {l : List Decl} {t n : Nat} (h : validB l = true) (ht : t < l.length) (hn : n < (l[t]).xtors.length) (he : endsB ((l[t]).xtors[n]).args = false) : resI l (t + 1) n = (0, 1) := by
  unfold resI
  rw [if_neg (by simp [h])]
  have e : ((t : Int) + 1 - 1).toNat = t := by omega
  have h2 : (l[t]).xtors[n]? = some ((l[t]).xtors[n]) := List.getElem?_eq_getElem hn
  rw [e, List.getElem?_eq_getElem ht, Int.toNat_natCast]
  simp [h2, he]
theorem endsB_pos {l : List Arg} (h : endsB l = true) : 0 < l.length := by
  rcases Nat.eq_zero_or_pos l.length with h0 | h0
  · rw [List.eq_nil_of_length_eq_zero h0] at h; cases h
  · exact h0
theorem resI_end {l : List Decl} {t n : Nat} (h : validB l = true) (ht : t < l.length) (hn : n < (l[t]).xtors.length) (hc : (l[t]).codata = true) (he : endsB ((l[t]).xtors[n]).args = true)
    : resI l (t + 1) n = (lastTy ((l[t]).xtors[n]).args, 0) := by
  unfold resI
  rw [if_neg (by simp [h])]
  have e : ((t : Int) + 1 - 1).toNat = t := by omega
  have h2 : (l[t]).xtors[n]? = some ((l[t]).xtors[n]) := List.getElem?_eq_getElem hn
  rw [e, List.getElem?_eq_getElem ht, Int.toNat_natCast, if_pos (by omega)]
  simp only [hc, h2, he, if_true]
end Go.Proofs.Ytoopngnmdgcklaa
