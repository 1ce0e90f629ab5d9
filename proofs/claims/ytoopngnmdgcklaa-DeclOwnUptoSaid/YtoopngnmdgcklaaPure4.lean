import Derived.Test.YtoopngnmdgcklaaPure3
namespace Go.Proofs.Ytoopngnmdgcklaa
open Go.RowKit

/-! ### small types -/
def okA (S : List Bool) (a : Arg) : Bool := !a.co && (decide (a.ty ≤ 0) || S.getD (a.ty - 1).toNat false)
def builtB (S : List Bool) (l : List Arg) : Bool := l.all (okA S)
def fX (co : Bool) (i : Nat) : List Bool → List Xtor → List Bool
  | S, [] => S
  | S, x :: r => fX co i (if !co && builtB S x.args then S.set i true else S) r
def fD : Nat → List Bool → List Decl → List Bool
  | _, S, [] => S
  | i, S, d :: r => fD (i + 1) (fX d.codata i S d.xtors) r
def fR (l : List Decl) : Nat → List Bool → List Bool
  | 0, S => S
  | n + 1, S => fR l n (fD 0 S l)
def smallR (l : List Decl) : List Bool := fR l l.length (List.replicate l.length false)
theorem fX_len (co : Bool) (i : Nat) : ∀ (l : List Xtor) (S : List Bool), (fX co i S l).length = S.length
  | [], _ => rfl
  | x :: r, S => by
    show (fX co i (if !co && builtB S x.args then S.set i true else S) r).length = _
    rw [fX_len co i r]
    split <;> simp
theorem fD_len : ∀ (l : List Decl) (i : Nat) (S : List Bool), (fD i S l).length = S.length
  | [], _, _ => rfl
  | d :: r, i, S => by
    show (fD (i + 1) (fX d.codata i S d.xtors) r).length = _
    rw [fD_len r, fX_len]
theorem fX_cons (co : Bool) (i : Nat) (S : List Bool) (x : Xtor) (r : List Xtor) : fX co i S (x :: r) = fX co i (if !co && builtB S x.args then S.set i true else S) r := rfl
theorem fD_cons (i : Nat) (S : List Bool) (d : Decl) (r : List Decl) : fD i S (d :: r) = fD (i + 1) (fX d.codata i S d.xtors) r := rfl
theorem fR_succ (l : List Decl) (n : Nat) (S : List Bool) : fR l (n + 1) S = fR l n (fD 0 S l) := rfl
theorem okA_co {S : List Bool} {a : Arg} (h : a.co = true) : okA S a = false := by simp [okA, h]
theorem okA_int {S : List Bool} {a : Arg} (h : a.co = false) (h0 : a.ty ≤ 0) : okA S a = true := by simp [okA, h, h0]
theorem okA_ty {S : List Bool} {u : Nat} (hl : u < S.length) : okA S ⟨(u : Int) + 1, false⟩ = S[u] := by
  unfold okA
  have e : ((u : Int) + 1 - 1).toNat = u := by omega
  rw [decide_eq_false (by show ¬ ((u : Int) + 1 ≤ 0); omega)]
  simp only [e]
  rw [List.getD_eq_getElem?_getD, List.getElem?_eq_getElem hl]
  simp
end Go.Proofs.Ytoopngnmdgcklaa
