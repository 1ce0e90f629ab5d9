/- Core nodes and core programs as plain data, and what is asked of them. -/
import Derived.Test.YtkdhhcidpklgoaaGreatDoorQ1
import Derived.Deep.QuietTactic
import Derived.BigQuiet
import Derived.RangeFuncKeeps
import Derived.RangeFuncLeaves
import Derived.RangeFuncCalls
import Derived.Shelf.Abstract
import Derived.WalkKit
import Derived.OwnWalkIn
import Derived.TacticsInMore
import Derived.Lib.Hide
namespace Go.Proofs.YtkdhhcidpklgoaaGreatDoor

inductive Nd where
  | mk (op n ty : Int) (args : List Nd) (brs : List (List Int × List Bool × Nd))
abbrev Br := List Int × List Bool × Nd
namespace Nd
def op : Nd → Int | mk a _ _ _ _ => a
def n : Nd → Int | mk _ a _ _ _ => a
def ty : Nd → Int | mk _ _ a _ _ => a
def args : Nd → List Nd | mk _ _ _ a _ => a
def brs : Nd → List Br | mk _ _ _ _ a => a
end Nd
structure CF where
  nm : ByteArray
  ps : List Arg
  vars : List Int
  body : Nd
structure Cg where
  decls : List Decl
  funs : List CF

def leafB (op : Int) : Bool := decide (op = 0) || decide (op = 5) || decide (op = 1)
/-! ### sizes -/
mutual
def depN : Int → Nd → List Int
  | d, .mk op _ _ args brs => d :: (if leafB op then [] else depA (d + 1) args ++ depB (d + 1) brs)
def depA : Int → List Nd → List Int
  | _, [] => []
  | d, a :: r => depN d a ++ depA d r
def depB : Int → List Br → List Int
  | _, [] => []
  | d, (_, _, t) :: r => depN d t ++ depB d r
end
theorem depN_eq (d : Int) (t : Nd) : depN d t = d :: (if leafB t.op then [] else depA (d + 1) t.args ++ depB (d + 1) t.brs) := by cases t; rw [depN]; rfl
theorem depA_append (d : Int) (k : List Nd) : ∀ l, depA d (l ++ k) = depA d l ++ depA d k
  | [] => rfl
  | x :: r => by simp [depA, depA_append d k r]
theorem depB_append (d : Int) (k : List Br) : ∀ l, depB d (l ++ k) = depB d l ++ depB d k
  | [] => rfl
  | (_, _, x) :: r => by simp [depB, depB_append d k r]
def sizeOK (most deep : Int) (l : List Int) : Bool := decide ((l.length : Int) ≤ most) && l.all fun d => decide (d ≤ deep)
/-- What Size returns, for these limits. -/
def sizeC (most deep : Int) (t : Nd) : Int × Bool := if sizeOK most deep (depN 1 t) then ((depN 1 t).length, true) else (0, false)
/-! all nodes, those of leaves, too -/
mutual
def cntN : Nd → Nat
  | .mk _ _ _ args brs => 1 + (cntA args + cntB brs)
def cntA : List Nd → Nat
  | [] => 0
  | a :: r => cntN a + cntA r
def cntB : List Br → Nat
  | [] => 0
  | (_, _, t) :: r => cntN t + cntB r
end
theorem cntN_eq (t : Nd) : cntN t = 1 + (cntA t.args + cntB t.brs) := by cases t; rw [cntN]; rfl
theorem cntA_append (k : List Nd) : ∀ l, cntA (l ++ k) = cntA l + cntA k
  | [] => by simp [cntA]
  | x :: r => by simp [cntA, cntA_append k r]; omega
theorem cntB_append (k : List Br) : ∀ l, cntB (l ++ k) = cntB l + cntB k
  | [] => by simp [cntB]
  | (_, _, x) :: r => by simp [cntB, cntB_append k r]; omega
/-! how many variables its branches bind, and the mus -/
mutual
def bndN : Nd → Nat
  | .mk _ _ _ args brs => 1 + (bndA args + bndB brs)
def bndA : List Nd → Nat
  | [] => 0
  | a :: r => bndN a + bndA r
def bndB : List Br → Nat
  | [] => 0
  | (v, _, t) :: r => v.length + bndN t + bndB r
end
theorem bndN_eq (t : Nd) : bndN t = 1 + (bndA t.args + bndB t.brs) := by cases t; rw [bndN]; rfl
theorem bndA_append (k : List Nd) : ∀ l, bndA (l ++ k) = bndA l + bndA k
  | [] => by simp [bndA]
  | x :: r => by simp [bndA, bndA_append k r]; omega
theorem bndB_append (k : List Br) : ∀ l, bndB (l ++ k) = bndB l + bndB k
  | [] => by simp [bndB]
  | (_, _, x) :: r => by simp [bndB, bndB_append k r]; omega

/-! ### variables -/
abbrev Vr := Int × Int
def coI (c : Bool) : Int := if c then 1 else 0
/-- What a branch binds. -/
def zipCo : List Int → List Bool → List Vr
  | [], _ => []
  | v :: r, [] => (0, v) :: zipCo r []
  | v :: r, c :: cs => (coI c, v) :: zipCo r cs
theorem zipCo_length : ∀ (l : List Int) (c : List Bool), (zipCo l c).length = l.length
  | [], _ => rfl
  | _ :: r, [] => by simp [zipCo, zipCo_length r]
  | _ :: r, _ :: cs => by simp [zipCo, zipCo_length r cs]
theorem zipCo_get : ∀ (l : List Int) (c : List Bool) (i : Nat), (zipCo l c)[i]? = (l[i]?).map fun v => (coI (c.getD i false), v)
  | [], _, i => by simp [zipCo]
  | v :: r, [], 0 => by simp [zipCo, coI]
  | v :: r, [], i + 1 => by simp [zipCo, zipCo_get r [] i]
  | v :: r, c :: cs, 0 => by simp [zipCo]
  | v :: r, c :: cs, i + 1 => by simp [zipCo, zipCo_get r cs i]
/-- What a node binds in its arguments. -/
def muV (op n : Int) : List Vr := if op = 3 then [(1, n)] else if op = 7 then [(0, n)] else []
abbrev Sc := Vr → Bool
def addS (S : Sc) (l : List Vr) : Sc := fun x => l.any (fun y => x == y) || S x

/-! ### validity -/
def sortOp (op : Int) : Int := if op < 0 then 3 else if op ≤ 4 then 0 else if op ≤ 8 then 1 else if op ≤ 14 then 2 else 3
def usesN (op : Int) : Bool := decide (op = 0 ∨ op = 1 ∨ op = 2 ∨ op = 3 ∨ op = 5 ∨ op = 6 ∨ op = 7 ∨ op = 10 ∨ op = 13)
def usesT (op : Int) : Bool := decide (op = 2 ∨ op = 3 ∨ op = 4 ∨ op = 6 ∨ op = 7 ∨ op = 8 ∨ op = 9)
def usesB (op : Int) : Bool := decide (op = 4 ∨ op = 8)
def argsS (op : Int) : List Int :=
  if op = 3 ∨ op = 7 then [2] else if op = 9 then [0, 1] else if op = 10 then [0, 0, 1] else if op = 11 then [0, 2, 2] else if op = 12 then [0, 2] else if op = 14 then [0] else []
def noDecl : Decl := ⟨⟨#[]⟩, false, []⟩
def noXtor : Xtor := ⟨⟨#[]⟩, []⟩
def noCF : CF := ⟨⟨#[]⟩, [], [], .mk 0 0 0 [] []⟩
def declC (C : Cg) (ty : Int) : Decl := C.decls.getD (ty - 1).toNat noDecl
def xtorsC (C : Cg) (ty : Int) : List Xtor := (declC C ty).xtors
def hdArgs (C : Cg) (op n ty : Int) : List Arg :=
  if op = 2 ∨ op = 6 then ((xtorsC C ty).getD n.toNat noXtor).args else if op = 13 then (C.funs.getD n.toNat noCF).ps else []
def wantS (C : Cg) (op n ty : Int) : List Int := if op = 2 ∨ op = 6 ∨ op = 13 then (hdArgs C op n ty).map fun a => coI a.co else argsS op
def isTypeC (C : Cg) (ty : Int) : Bool := decide (0 ≤ ty) && decide (ty ≤ C.decls.length)
def isNumB (n : Int) : Bool := decide (0 ≤ n) && decide (n ≤ 1048576)
def isIdxC (i n : Int) : Bool := decide (0 ≤ i) && decide (i < n)
def declsC (C : Cg) (ty : Int) (co : Bool) : Bool := isIdxC (ty - 1) C.decls.length && ((declC C ty).codata == co)
def refersB (C : Cg) (inS : Bool) (op n ty : Int) : Bool :=
  if op = 0 ∨ op = 5 then isNumB n && inS
  else if op = 2 then declsC C ty false && isIdxC n (xtorsC C ty).length
  else if op = 6 then declsC C ty true && isIdxC n (xtorsC C ty).length
  else if op = 3 ∨ op = 7 then isNumB n && isTypeC C ty
  else if op = 4 then declsC C ty true
  else if op = 8 then declsC C ty false
  else if op = 9 then isTypeC C ty
  else if op = 10 then decide (0 ≤ n) && decide (n < 7)
  else if op = 13 then isIdxC n C.funs.length
  else true
/-- Distinct numbers of the right kinds. -/
def bindF : (Vr → Bool) → List Vr → List Bool → List Arg → Bool
  | S, x :: r, c :: cs, a :: ar => (c == a.co) && isNumB x.2 && !S x && bindF (fun y => y == x || S y) r cs ar
  | _, _, _, _ => true
def bindsB (v : List Int) (co : List Bool) (ar : List Arg) : Bool := decide (v.length = ar.length) && decide (co.length = ar.length) && bindF (fun _ => false) (zipCo v co) co ar
def fitBr : List Xtor → List Br → List Int → Bool
  | x :: xs, b :: bs, s :: ss => (bindsB b.1 b.2.1 x.args && decide (s = 2)) && fitBr xs bs ss
  | _, _, _ => true
/-- What the rules ask of a node whose children have been looked at. -/
def okN (C : Cg) (inS : Bool) (op n ty : Int) (na : Nat) (brs : List Br) (fa fb : List Int) : Bool :=
  (usesN op || decide (n = 0)) && (usesT op || decide (ty = 0)) && refersB C inS op n ty &&
  (decide (na = (wantS C op n ty).length) && decide (fa = wantS C op n ty) && decide (brs.length = (if usesB op then xtorsC C ty else []).length) && fitBr (if usesB op then xtorsC C ty else []) brs fb)
def upN (C : Cg) (inS : Bool) (op n ty : Int) (na : Nat) (brs : List Br) (fa fb : List Int) : Int := if okN C inS op n ty na brs fa fb then sortOp op else 3
def inN (S : Sc) (op n : Int) : Bool := if op = 0 then S (0, n) else if op = 5 then S (1, n) else false
mutual
def sortN (C : Cg) : Sc → Nd → Int
  | S, .mk op n ty args brs => upN C (inN S op n) op n ty args.length brs (if leafB op then [] else sortA C (addS S (muV op n)) args) (if leafB op then [] else sortB C S brs)
def sortA (C : Cg) : Sc → List Nd → List Int
  | _, [] => []
  | S, a :: r => sortN C S a :: sortA C S r
def sortB (C : Cg) : Sc → List Br → List Int
  | _, [] => []
  | S, (v, c, t) :: r => sortN C (addS S (zipCo v c)) t :: sortB C S r
end
theorem sortN_eq (C : Cg) (S : Sc) (t : Nd) : sortN C S t = upN C (inN S t.op t.n) t.op t.n t.ty t.args.length t.brs (if leafB t.op then [] else sortA C (addS S (muV t.op t.n)) t.args) (if leafB t.op then [] else sortB C S t.brs) := by
  cases t; rw [sortN]; rfl
theorem sortA_map (C : Cg) (S : Sc) : ∀ l, sortA C S l = l.map (sortN C S)
  | [] => rfl
  | a :: r => by simp [sortA, sortA_map C S r]
theorem sortB_map (C : Cg) (S : Sc) : ∀ l, sortB C S l = l.map fun b => sortN C (addS S (zipCo b.1 b.2.1)) b.2.2
  | [] => rfl
  | (v, c, t) :: r => by simp [sortB, sortB_map C S r]
theorem sortOp_range (op : Int) : 0 ≤ sortOp op ∧ sortOp op ≤ 3 := by
  unfold sortOp
  split
  · omega
  · split
    · omega
    · split
      · omega
      · split <;> omega
theorem sortN_range (C : Cg) (S : Sc) (t : Nd) : 0 ≤ sortN C S t ∧ sortN C S t ≤ 3 := by
  rw [sortN_eq]
  have h : ∀ q : Bool, 0 ≤ (if q then sortOp t.op else 3) ∧ (if q then sortOp t.op else 3) ≤ 3 := fun q => by
    cases q
    · exact ⟨(by decide : (0 : Int) ≤ 3), (by decide : (3 : Int) ≤ 3)⟩
    · exact sortOp_range _
  exact h _

/-! ### programs -/
def distCF : (ByteArray → Bool) → List CF → Bool
  | _, [] => true
  | f, s :: r => nameB s.nm && !f s.nm && distCF (fun x => (x.toList == s.nm.toList) || f x) r
def mainC (f : CF) : Bool := f.ps.all fun a => decide (a.ty = 0) && !a.co
def sizesC : Int → List CF → Bool
  | _, [] => true
  | left, f :: r => (sizeC left 4000 f.body).2 && sizesC (left - (sizeC left 4000 f.body).1) r
def funC (C : Cg) (f : CF) : Bool :=
  decide (f.ps.length ≤ 6) && f.ps.all (fun a => isTypeC C a.ty) && (bindsB f.vars (f.ps.map Arg.co) f.ps && decide (sortN C (addS (fun _ => false) (zipCo f.vars (f.ps.map Arg.co))) f.body = 2))
def coreB (C : Cg) : Bool :=
  validB C.decls && (decide (1 ≤ C.funs.length) && decide (C.funs.length ≤ 12) && distCF (fun _ => false) C.funs) && (mainC (C.funs.headD noCF) && sizesC 30000 C.funs) && C.funs.all (funC C)
def chkC (C : Cg) : Int := if coreB C then 0 else 60

/-! ### types -/
abbrev Ev := Vr → List Int
def pushE (E : Ev) : List Vr → List Int → Ev
  | [], _ => E
  | _, [] => E
  | x :: r, t :: ts => pushE (fun y => if y = x then E y ++ [t] else E y) r ts
def wantT (C : Cg) (op n ty : Int) (i : Nat) : Int :=
  if op = 9 then ty else if op = 2 ∨ op = 6 ∨ op = 13 then ((hdArgs C op n ty).getD i ⟨0, false⟩).ty else 0
def ownT (E : Ev) (op n ty : Int) : Int :=
  if op = 0 then ((E (0, n)).getLast?).getD 0 else if op = 5 then ((E (1, n)).getLast?).getD 0 else if op = 2 ∨ op = 3 ∨ op = 4 ∨ op = 6 ∨ op = 7 ∨ op = 8 then ty else 0
mutual
/-- The type of a node: none if it is not well-typed. -/
def typN (C : Cg) : Ev → Nd → Option Int
  | E, .mk op n ty args brs => if typA C (pushE E (muV op n) [ty]) op n ty 0 args && typB C E ty 0 brs then some (ownT E op n ty) else none
def typA (C : Cg) : Ev → Int → Int → Int → Nat → List Nd → Bool
  | _, _, _, _, _, [] => true
  | E, op, n, ty, i, a :: r => decide (typN C E a = some (wantT C op n ty i)) && typA C E op n ty (i + 1) r
def typB (C : Cg) : Ev → Int → Nat → List Br → Bool
  | _, _, _, [] => true
  | E, ty, i, (v, c, t) :: r => (typN C (pushE E (zipCo v c) (((xtorsC C ty).getD i noXtor).args.map Arg.ty)) t).isSome && typB C E ty (i + 1) r
end
theorem typN_eq (C : Cg) (E : Ev) (t : Nd) : typN C E t = if typA C (pushE E (muV t.op t.n) [t.ty]) t.op t.n t.ty 0 t.args && typB C E t.ty 0 t.brs then some (ownT E t.op t.n t.ty) else none := by
  cases t; rw [typN]; rfl
def funT (C : Cg) (f : CF) : Bool := (typN C (pushE (fun _ => []) (zipCo f.vars (f.ps.map Arg.co)) (f.ps.map Arg.ty)) f.body).isSome
def kindC (C : Cg) : Int := if coreB C then (if C.funs.all (funT C) then 0 else 70) else 60
def typesOK (C : Cg) (l : List Int) : Bool := l.all (isTypeC C)
def varsOf (s : Int) (l : List Int) : List Vr := l.map fun n => (s, n)
def askC (C : Cg) (xs ar tx ta : List Int) (n : Nd) : Bool :=
  decide (xs.length = tx.length) && decide (ar.length = ta.length) && typesOK C (tx ++ ta) && ((sizeC 30000 4000 n).2 && !decide (sortN C (addS (fun _ => false) (varsOf 0 xs ++ varsOf 1 ar)) n = 3))
def typC (C : Cg) (xs ar tx ta : List Int) (n : Nd) : Int × Int :=
  if coreB C then (if askC C xs ar tx ta n then (match typN C (pushE (fun _ => []) (varsOf 0 xs ++ varsOf 1 ar) (tx ++ ta)) n with | some t => (t, 0) | none => (0, 70)) else (0, 1)) else (0, 60)
end Go.Proofs.YtkdhhcidpklgoaaGreatDoor

/- How core nodes and core programs lie in memory, and that new blocks do not turn them. -/
namespace Go.Proofs.YtkdhhcidpklgoaaGreatDoor
open Go.RowKit

def ok64 (x : Int) : Prop := (Lit.int .i64 x).wf = true
def RInts (w : World) (v : Value) (l : List Int) : Prop :=
  ∃ A c, v = .slice A l.length c ∧ l.length ≤ c ∧ c ≤ maxLen ∧
    ∀ i a, l[i]? = some a → ∃ b o, A = some ⟨b, o, none⟩ ∧ b < w.heap.size ∧ w.cell? ⟨b, o + i, none⟩ = some (.int .i64 a) ∧ ok64 a
/-- The five cells of a node. -/
structure N5 (w : World) (b o : Nat) (t : Nd) (va vb : Value) : Prop where
  c0 : w.cell? ⟨b, o, none⟩ = some (.int .i64 t.op)
  c1 : w.cell? ⟨b, o + 1, none⟩ = some (.int .i64 t.n)
  c2 : w.cell? ⟨b, o + 2, none⟩ = some (.int .i64 t.ty)
  c3 : w.cell? ⟨b, o + 3, none⟩ = some va
  c4 : w.cell? ⟨b, o + 4, none⟩ = some vb
abbrev nV (t : Nd) (va vb : Value) : Value := .agg #[.int .i64 t.op, .int .i64 t.n, .int .i64 t.ty, va, vb]
def RNd (w : World) : Nat → Nd → Value → Value → Prop
  | 0, _, _, _ => False
  | k + 1, t, va, vb => (ok64 t.op ∧ ok64 t.n ∧ ok64 t.ty) ∧
    (∃ A c, va = .slice A t.args.length c ∧ t.args.length ≤ c ∧ c ≤ maxLen ∧
      ∀ i x, t.args[i]? = some x → ∃ b o xa xb, A = some ⟨b, o, none⟩ ∧ b < w.heap.size ∧ N5 w b (o + i * 5) x xa xb ∧ RNd w k x xa xb) ∧
    (∃ B c, vb = .slice B t.brs.length c ∧ t.brs.length ≤ c ∧ c ≤ maxLen ∧
      ∀ i x, t.brs[i]? = some x → ∃ b o vv vc xa xb, B = some ⟨b, o, none⟩ ∧ b < w.heap.size ∧ w.cell? ⟨b, o + i * 7, none⟩ = some vv ∧ RInts w vv x.1 ∧ w.cell? ⟨b, o + i * 7 + 1, none⟩ = some vc ∧ RBools w vc x.2.1 ∧ N5 w b (o + i * 7 + 2) x.2.2 xa xb ∧ RNd w k x.2.2 xa xb)
abbrev fV (f : CF) (vp vv xa xb : Value) : Value := .agg #[.string f.nm, vp, vv, .int .i64 f.body.op, .int .i64 f.body.n, .int .i64 f.body.ty, xa, xb]
def RCFs (w : World) (v : Value) (l : List CF) : Prop :=
  ∃ A c, v = .slice A l.length c ∧ l.length ≤ c ∧ c ≤ maxLen ∧
    ∀ i f, l[i]? = some f → ∃ b o vp vv xa xb k, A = some ⟨b, o, none⟩ ∧ b < w.heap.size ∧ w.cell? ⟨b, o + i * 8, none⟩ = some (.string f.nm) ∧ w.cell? ⟨b, o + i * 8 + 1, none⟩ = some vp ∧ w.cell? ⟨b, o + i * 8 + 2, none⟩ = some vv ∧
      N5 w b (o + i * 8 + 3) f.body xa xb ∧ f.nm.size ≤ maxLen ∧ RArgs w vp f.ps ∧ RInts w vv f.vars ∧ RNd w k f.body xa xb
abbrev cV (vd vf : Value) : Value := .agg #[vd, vf]
/-- A core program. -/
structure RCg (w : World) (vd vf : Value) (C : Cg) : Prop where
  d : RDecls w vd C.decls
  f : RCFs w vf C.funs

section
variable {w w' : World} {v : Value}
theorem N5.below {b o : Nat} {t : Nd} {va vb : Value} (h : N5 w b o t va vb) (hb : Ext w w') : N5 w' b o t va vb :=
  ⟨hb.keep h.c0, hb.keep h.c1, hb.keep h.c2, hb.keep h.c3, hb.keep h.c4⟩
theorem RInts.below {l : List Int} (h : RInts w v l) (hb : Ext w w') : RInts w' v l := by
  obtain ⟨A, c, rfl, h1, h2, h3⟩ := h
  refine ⟨A, c, rfl, h1, h2, fun i a hi => ?_⟩
  obtain ⟨b, o, rfl, hlt, h4, h5⟩ := h3 i a hi
  exact ⟨b, o, rfl, Nat.lt_of_lt_of_le hlt hb.size, hb.keep h4, h5⟩
theorem RInts.form {l : List Int} (h : RInts w v l) : ∃ A c, v = .slice A l.length c ∧ l.length ≤ c ∧ c ≤ maxLen := by
  obtain ⟨A, c, h1, h2, h3, _⟩ := h; exact ⟨A, c, h1, h2, h3⟩
theorem RInts.at_ {l : List Int} {A : Option Addr} {c : Nat} (h : RInts w (.slice A l.length c) l) {k : Nat} (hk : k < l.length) :
    ∃ b o, A = some ⟨b, o, none⟩ ∧ b < w.heap.size ∧ w.cell? ⟨b, o + k, none⟩ = some (.int .i64 l[k]) ∧ ok64 l[k] := by
  obtain ⟨A', c', he, h1, h2, h3⟩ := h
  cases he
  exact h3 k _ (List.getElem?_eq_getElem hk)
theorem RNd.below (hb : Ext w w') : ∀ {k : Nat} {t : Nd} {va vb : Value}, RNd w k t va vb → RNd w' k t va vb
  | 0, _, _, _, h => h.elim
  | k + 1, t, va, vb, ⟨h0, ⟨A, c, e1, h1, h2, h3⟩, ⟨B, d, e2, h4, h5, h6⟩⟩ =>
    ⟨h0, ⟨A, c, e1, h1, h2, fun i x hi => by
      obtain ⟨b, o, xa, xb, e, hlt, hc, hr⟩ := h3 i x hi
      exact ⟨b, o, xa, xb, e, Nat.lt_of_lt_of_le hlt hb.size, hc.below hb, hr.below hb⟩⟩,
    ⟨B, d, e2, h4, h5, fun i x hi => by
      obtain ⟨b, o, vv, vc, xa, xb, e, hlt, hn, hs, hn2, hs2, hc, hr⟩ := h6 i x hi
      exact ⟨b, o, vv, vc, xa, xb, e, Nat.lt_of_lt_of_le hlt hb.size, hb.keep hn, hs.below hb, hb.keep hn2, hs2.below hb, hc.below hb, hr.below hb⟩⟩⟩
theorem RNd.mono : ∀ {k m : Nat} {t : Nd} {va vb : Value}, k ≤ m → RNd w k t va vb → RNd w m t va vb
  | 0, _, _, _, _, _, h => h.elim
  | k + 1, 0, _, _, _, hm, _ => by omega
  | k + 1, m + 1, t, va, vb, hm, ⟨h0, ⟨A, c, e1, h1, h2, h3⟩, ⟨B, d, e2, h4, h5, h6⟩⟩ =>
    ⟨h0, ⟨A, c, e1, h1, h2, fun i x hi => by
      obtain ⟨b, o, xa, xb, e, hlt, hc, hr⟩ := h3 i x hi
      exact ⟨b, o, xa, xb, e, hlt, hc, RNd.mono (by omega) hr⟩⟩,
    ⟨B, d, e2, h4, h5, fun i x hi => by
      obtain ⟨b, o, vv, vc, xa, xb, e, hlt, hn, hs, hn2, hs2, hc, hr⟩ := h6 i x hi
      exact ⟨b, o, vv, vc, xa, xb, e, hlt, hn, hs, hn2, hs2, hc, RNd.mono (by omega) hr⟩⟩⟩
theorem RNd.form {k : Nat} {t : Nd} {va vb : Value} (h : RNd w k t va vb) : (ok64 t.op ∧ ok64 t.n ∧ ok64 t.ty) ∧ (∃ A c, va = .slice A t.args.length c ∧ t.args.length ≤ c ∧ c ≤ maxLen) ∧ (∃ B c, vb = .slice B t.brs.length c ∧ t.brs.length ≤ c ∧ c ≤ maxLen) := by
  cases k with
  | zero => exact h.elim
  | succ k =>
    obtain ⟨h0, ⟨A, c, e1, h1, h2, _⟩, ⟨B, d, e2, h4, h5, _⟩⟩ := h
    exact ⟨h0, ⟨A, c, e1, h1, h2⟩, ⟨B, d, e2, h4, h5⟩⟩
theorem RNd.arg {k : Nat} {t : Nd} {A : Option Addr} {c : Nat} {vb : Value} (h : RNd w (k + 1) t (.slice A t.args.length c) vb) {i : Nat} (hi : i < t.args.length) :
    ∃ b o xa xb, A = some ⟨b, o, none⟩ ∧ b < w.heap.size ∧ N5 w b (o + i * 5) t.args[i] xa xb ∧ RNd w k t.args[i] xa xb := by
  obtain ⟨h0, ⟨A', c', e1, h1, h2, h3⟩, _⟩ := h
  cases e1
  exact h3 i _ (List.getElem?_eq_getElem hi)
theorem RNd.br {k : Nat} {t : Nd} {B : Option Addr} {c : Nat} {va : Value} (h : RNd w (k + 1) t va (.slice B t.brs.length c)) {i : Nat} (hi : i < t.brs.length) :
    ∃ b o vv vc xa xb, B = some ⟨b, o, none⟩ ∧ b < w.heap.size ∧ w.cell? ⟨b, o + i * 7, none⟩ = some vv ∧ RInts w vv t.brs[i].1 ∧ w.cell? ⟨b, o + i * 7 + 1, none⟩ = some vc ∧ RBools w vc t.brs[i].2.1 ∧ N5 w b (o + i * 7 + 2) t.brs[i].2.2 xa xb ∧ RNd w k t.brs[i].2.2 xa xb := by
  obtain ⟨h0, _, ⟨A', c', e1, h1, h2, h3⟩⟩ := h
  cases e1
  exact h3 i _ (List.getElem?_eq_getElem hi)
theorem RCFs.below {l : List CF} (h : RCFs w v l) (hb : Ext w w') : RCFs w' v l := by
  obtain ⟨A, c, rfl, h1, h2, h3⟩ := h
  refine ⟨A, c, rfl, h1, h2, fun i a hi => ?_⟩
  obtain ⟨b, o, vp, vv, xa, xb, k, rfl, hlt, h4, h5, h6, h7, h8, h9, h10, h11⟩ := h3 i a hi
  exact ⟨b, o, vp, vv, xa, xb, k, rfl, Nat.lt_of_lt_of_le hlt hb.size, hb.keep h4, hb.keep h5, hb.keep h6, h7.below hb, h8, h9.below hb, h10.below hb, h11.below hb⟩
theorem RCFs.form {l : List CF} (h : RCFs w v l) : ∃ A c, v = .slice A l.length c ∧ l.length ≤ c ∧ c ≤ maxLen := by
  obtain ⟨A, c, h1, h2, h3, _⟩ := h; exact ⟨A, c, h1, h2, h3⟩
theorem RCFs.at_ {l : List CF} {A : Option Addr} {c : Nat} (h : RCFs w (.slice A l.length c) l) {i : Nat} (hk : i < l.length) :
    ∃ b o vp vv xa xb k, A = some ⟨b, o, none⟩ ∧ b < w.heap.size ∧ w.cell? ⟨b, o + i * 8, none⟩ = some (.string l[i].nm) ∧ w.cell? ⟨b, o + i * 8 + 1, none⟩ = some vp ∧ w.cell? ⟨b, o + i * 8 + 2, none⟩ = some vv ∧
      N5 w b (o + i * 8 + 3) l[i].body xa xb ∧ l[i].nm.size ≤ maxLen ∧ RArgs w vp l[i].ps ∧ RInts w vv l[i].vars ∧ RNd w k l[i].body xa xb := by
  obtain ⟨A', c', he, h1, h2, h3⟩ := h
  cases he
  exact h3 i _ (List.getElem?_eq_getElem hk)
theorem RCg.below {vd vf : Value} {C : Cg} (h : RCg w vd vf C) (hb : Ext w w') : RCg w' vd vf C := ⟨h.d.below hb, h.f.below hb⟩
end
end Go.Proofs.YtkdhhcidpklgoaaGreatDoor

/- A statement whose order is open, whose operations read and whose callees read or make new memory: walked once, in the order of the text. -/
namespace Go.Proofs.YtkdhhcidpklgoaaGreatDoor
open Go.RowKit

structure ExtOf (w0 : World) where
  val : World
  ext : Ext w0 val
instance (w0 : World) : Nonempty (ExtOf w0) := ⟨⟨w0, Ext.rf _⟩⟩
instance (w0 : World) : Inhabited (ExtOf w0) := ⟨⟨w0, Ext.rf _⟩⟩
theorem ExtOf.cell {w0 : World} {a : Addr} {v : Value} (h : w0.cell? a = some v) (p : ExtOf w0) : p.val.cell? a = some v := p.ext.keep h
theorem wp_region_ext {P : Program} {id : Nat} {Q : Exit → Act → World → Prop} {a : Act} {w w0 : World} {l : List Oper} (hm : P.follows .mixedOrders = true) (hB : Region.lexB .any l.toArray = true) (h0 : Ext w0 w)
    (h : wpQuiet P l.toArray (fun w' => ∃ p : ExtOf w0, w' = p.val) (fun a' => ∀ w', (∃ p : ExtOf w0, w' = p.val) → Q .normal a' w') l a) : (Code.region id l.toArray true).wp P Q a w :=
  wp_region_quiet (C := fun w' => ∃ p : ExtOf w0, w' = p.val) hm hB ⟨⟨_, h0.drew⟩, rfl⟩ (by simpa using h)
theorem Calls.ext_of {P : Program} {f : FuncId} {args : Array Value} {w0 : World} {p : ExtOf w0} {v : Value} (h : Calls P f args p.val fun e w' => e = .returned v ∧ Ext p.val w') :
    Calls P f args p.val fun e w'' => e = .returned v ∧ ∃ q : ExtOf w0, w'' = q.val :=
  h.mono fun _ w' ⟨he, hx⟩ => ⟨he, ⟨w', p.ext.tr hx⟩, rfl⟩
theorem Calls.ext_same {P : Program} {f : FuncId} {args : Array Value} {w0 : World} {p : ExtOf w0} {v : Value} (h : Calls P f args p.val fun e w' => e = .returned v ∧ p.val = w') :
    Calls P f args p.val fun e w'' => e = .returned v ∧ ∃ q : ExtOf w0, w'' = q.val :=
  h.mono fun _ _w' ⟨he, hx⟩ => ⟨he, p, hx.symm⟩
end Go.Proofs.YtkdhhcidpklgoaaGreatDoor

/- A loop over a function: one law for its caller. The iterator says, for each element that it hands over, what holds of it in the world in which it is handed over; the round turns only blocks of its caller's; the iterator turns none that was there. -/
namespace Go.Proofs.YtkdhhcidpklgoaaGreatDoor
open Go.RowKit

/-- Only blocks of C have turned; new ones may have come. -/
structure Only (C : Nat → Prop) (W W' : World) : Prop where
  os : W'.os = W.os
  tape : W'.tape = W.tape
  output : W'.output = W.output
  size : W.heap.size ≤ W'.heap.size
  block : ∀ k, k < W.heap.size → ¬ C k → W'.heap[k]? = W.heap[k]?
section
variable {C D : Nat → Prop} {a b c : World}
theorem Only.rf (C : Nat → Prop) (w : World) : Only C w w := ⟨rfl, rfl, rfl, Nat.le_refl _, fun _ _ _ => rfl⟩
theorem Only.tr (h : Only C a b) (k : Only C b c) : Only C a c :=
  ⟨k.os.trans h.os, k.tape.trans h.tape, k.output.trans h.output, Nat.le_trans h.size k.size, fun i hi hn => (k.block i (Nat.lt_of_lt_of_le hi h.size) hn).trans (h.block i hi hn)⟩
theorem Only.mono (h : Only C a b) (hc : ∀ k, k < a.heap.size → C k → D k) : Only D a b :=
  ⟨h.os, h.tape, h.output, h.size, fun k hk hn => h.block k hk (fun hC => hn (hc k hk hC))⟩
theorem Only.of_ext (h : Below a.heap.size a b) : Only C a b := ⟨h.os, h.tape, h.output, h.size, fun k hk _ => h.block k hk⟩
theorem Only.below {B : Nat} (h : Only C a b) (hB : B ≤ a.heap.size) (hC : ∀ k, C k → B ≤ k) : Below B a b :=
  ⟨h.os, h.tape, h.output, h.size, fun k hk => h.block k (by omega) (fun hc => by have := hC k hc; omega)⟩
theorem Only.ext (h : Only C a b) (hC : ∀ k, k < a.heap.size → ¬ C k) : Below a.heap.size a b :=
  ⟨h.os, h.tape, h.output, h.size, fun k hk => h.block k hk (hC k hk)⟩
theorem Only.al (C : Nat → Prop) (w : World) (o : Obj) : Only C w (w.alloc o) := Only.of_ext ((Below.refl _ _).alloc (Nat.le_refl _) _)
theorem Only.putObj {l : Nat} (h : C l) (w : World) (o : Obj) : Only C w (w.putObj l o) :=
  ⟨rfl, rfl, rfl, by simp, fun k _ hn => World.putObj_heap_other (fun e => hn (e ▸ h))⟩
theorem Only.setCell {p : Addr} (h : C p.block) (w : World) (u : Value) : Only C w (w.setCell p u) :=
  ⟨rfl, rfl, rfl, by simp [World.setCell], fun k _ hn => Below.heap_setCell _ _ _ _ (fun e => hn (e ▸ h))⟩
end

/-- A call of yield. -/
def YieldW (P : Program) (l : Nat) (vs : Array Value) (A : World) (R : Ending → World → Prop) : Prop :=
  ∃ fn tmps assign body, (Instr.yield l vs).run P A = .ok (.round l fn tmps assign body) A ∧ ∀ m, RoundIn Fence.wide m P l fn tmps assign body A R
theorem YieldW.mono {P : Program} {l : Nat} {vs : Array Value} {A : World} {R R' : Ending → World → Prop} (h : YieldW P l vs A R) (hr : ∀ e w, R e w → R' e w) : YieldW P l vs A R' := by
  obtain ⟨fn, tmps, assign, body, hy, hR⟩ := h
  exact ⟨fn, tmps, assign, body, hy, fun m => (hR m).mono hr⟩

/-- What an iterator keeps of its caller, what it hands over, and what it leaves: L its elements, R what an element reads as. -/
def Iter {β : Type} (P : Program) (gf : Nat) (lb : Array Value) (C : Nat → Prop) (L : List β) (R : β → Array Value → World → Prop) (w0 : World) : Prop :=
  ∀ (l : Nat) (J : List β → World → Prop) (Jx : World → Prop) (W : World), Below w0.heap.size w0 W →
    (∀ pre A B, J pre A → Below W.heap.size A B → J pre B) → (∀ A B, Jx A → Below W.heap.size A B → Jx B) →
    (∀ pre y vs A, pre ++ [y] <+: L → J pre A → R y vs A → W.heap.size ≤ A.heap.size → YieldW P l vs A fun e B =>
      (e = .returned (.bool true) ∧ J (pre ++ [y]) B ∧ Only (fun k => C k ∨ (w0.heap.size ≤ k ∧ k < W.heap.size)) A B) ∨ (e = .returned (.bool false) ∧ Jx B ∧ Only (fun k => C k ∨ (w0.heap.size ≤ k ∧ k < W.heap.size)) A B)) →
    J [] W →
    Calls P gf (#[.func (.yield l) #[] #[]] ++ lb) W fun e B => (∃ v, e = .returned v) ∧ (J L B ∨ Jx B)

/-- Block l, a loop's record, has turned, and nothing else. -/
structure Turned (l : Nat) (W W' : World) : Prop where
  only : Only (fun k => k = l) W W'
  size : W'.heap.size = W.heap.size
  cell : ∀ p v, W.cell? p = some v → W'.cell? p = some v
  frozen : ∀ p v, W.cell? p = some v → W.frozen? p = false → W'.frozen? p = false
  kept : ∀ (k : Nat) (o : Obj), W.heap[k]? = some o → (∀ r, o ≠ .loop r) → W'.heap[k]? = some o
theorem turned_put {W : World} {l : Nat} {r : Loop} (h : W.heap[l]? = some (.loop r)) (o : Obj) : Turned l W (W.putObj l o) := by
  have hk : ∀ (k : Nat) (o' : Obj), W.heap[k]? = some o' → (∀ r, o' ≠ .loop r) → k ≠ l := by
    rintro k o' hk hn rfl
    rw [h] at hk; cases hk; exact hn _ rfl
  have hc : ∀ p v, W.cell? p = some v → p.block ≠ l := by
    rintro ⟨b, i, s⟩ v hv rfl
    unfold World.cell? at hv
    simp [h] at hv
  refine ⟨Only.putObj (C := fun k => k = l) rfl _ _, by simp, fun p v hv => ?_, fun p v hv hf => ?_, fun k o' hk' hn => (World.putObj_heap_other (hk k o' hk' hn)).trans hk'⟩
  · exact (World.cell?_of_block (w := W) (World.putObj_heap_other (hc p v hv))).trans hv
  · rw [World.frozen?_of_block (w := W) (World.putObj_heap_other (hc p v hv))]; exact hf

/-- How a round may be left. -/
def roundOwn {β : Type} (C : Nat → Prop) (I : List β → World → Prop) (Ix : Code → World → Prop) (xs : List β) (W : World) : Exit → Act → World → Prop
  | .normal, _, W' => Only C W W' ∧ I xs W'
  | .ret, _, W' => Only C W W' ∧ Ix .ret W'
  | .exit id, _, W' => Only C W W' ∧ Ix (.exit id) W'
  | .goto t, _, W' => Only C W W' ∧ Ix (.goto t) W'
  | .panic _, _, _ => False
  | .outgrown, _, _ => False

theorem wp_range {β : Type} {P : Program} {g : Operand} {ps : Array Tmp} {assign body : Code} {Q : Exit → Act → World → Prop} {a : Act} {w : World} {gf : Nat} {lb : Array Value} {C : Nat → Prop} {L : List β} {R : β → Array Value → World → Prop}
    (hg : a.eval g = .func (.func gf) #[] lb) (eg : ∀ args w, (callFunc gf args).run P w = .ok (.enter gf args) w)
    (hit : Iter P gf lb C L R w) (hC : ∀ k, C k → k < w.heap.size) (hps : ∀ y vs A, R y vs A → vs.size = ps.size)
    (I : List β → World → Prop) (Ix : Code → World → Prop) (hI : ∀ pre A B, I pre A → Below w.heap.size A B → I pre B) (hIx : ∀ c A B, Ix c A → Below w.heap.size A B → Ix c B) (h0 : I [] w)
    (hround : ∀ (l : Nat) (pre : List β) (y : β) (vs : Array Value) (W : World), w.heap.size ≤ l → pre ++ [y] <+: L → I pre W → R y vs W → w.heap.size ≤ W.heap.size →
      assign.wpIn (Fence.wide.inRound l) 0 P (Exit.then (fun a1 W1 => Below W.heap.size W W1 ∧ ∀ W2, Turned l W1 W2 → body.wpIn (Fence.wide.inRound l) 0 P (roundOwn C I Ix (pre ++ [y]) W2) a1 W2) (fun _ _ _ => False))
        { tmps := (ps.zip vs).foldl (fun t (p, v) => t.setIfInBounds p v) a.tmps, defers := [] } W)
    (hdone : ∀ W, I L W → W.heap[w.heap.size]? = some (.deferred (some [])) → Q .normal { a with defers := { target := .collected w.heap.size, args := #[] } :: a.defers } W)
    (hstop : ∀ c W, Ix c W → W.heap[w.heap.size]? = some (.deferred (some [])) → c.wp P Q { a with defers := { target := .collected w.heap.size, args := #[] } :: a.defers } W) :
    (Code.rangeFunc g ps assign body).wp P Q a w := by
  refine (wpIn_wide (n := 0)).1 (wpIn_rangeFunc ?_)
  intro fn hfn
  obtain ⟨rec, hrec⟩ : ∃ rec : LoopState → Option Code → Loop, rec = fun st pe => { state := st, pending := pe, fn, tmps := a.tmps, params := ps, assign, body, defers := w.heap.size } := ⟨_, rfl⟩
  obtain ⟨W1, hW1⟩ : ∃ W1, (w.alloc (.deferred (some []))).alloc (.loop (rec .ready none)) = W1 := ⟨_, rfl⟩
  have hL1 : W1.heap[w.heap.size + 1]? = some (.loop (rec .ready none)) := by
    rw [← hW1]; have := World.alloc_heap_new (w.alloc (.deferred (some []))) (.loop (rec .ready none)); rwa [World.size_alloc] at this
  have hK1 : W1.heap[w.heap.size]? = some (.deferred (some [])) := by
    rw [← hW1]; exact (Below.heap_alloc _ _ _ (by simp)).trans (World.alloc_heap_new w _)
  have hz1 : W1.heap.size = w.heap.size + 2 := by rw [← hW1]; simp
  have hb1 : Below w.heap.size w W1 := by
    rw [← hW1]; exact ((Below.refl _ w).alloc (Nat.le_refl _) _).alloc (by simp) _
  have hblk : ∀ {A B : World} {k : Nat} {o : Obj}, k < W1.heap.size → A.heap[k]? = some o → Below W1.heap.size A B → B.heap[k]? = some o := fun hk h hb => (hb.block _ hk).trans h
  have hle : w.heap.size ≤ W1.heap.size := by omega
  have fin : ∀ (jump : Option Code) (W2 W3 : World), W2.heap[w.heap.size + 1]? = some (.loop { rec .ready none with state := .busy }) → W2.heap[w.heap.size]? = some (.deferred (some [])) → Only C W2 W3 →
      (Instr.endRound (w.heap.size + 1) jump).run P W3 = .ok (.bool jump.isNone) (W3.putObj (w.heap.size + 1) (.loop (rec (if jump.isNone then .ready else .done) jump))) ∧
      (W3.putObj (w.heap.size + 1) (.loop (rec (if jump.isNone then .ready else .done) jump))).heap[w.heap.size + 1]? = some (.loop (rec (if jump.isNone then .ready else .done) jump)) ∧
      (W3.putObj (w.heap.size + 1) (.loop (rec (if jump.isNone then .ready else .done) jump))).heap[w.heap.size]? = some (.deferred (some [])) ∧
      Only (fun k => C k ∨ (w.heap.size ≤ k ∧ k < W1.heap.size)) W2 (W3.putObj (w.heap.size + 1) (.loop (rec (if jump.isNone then .ready else .done) jump))) ∧
      Below w.heap.size W3 (W3.putObj (w.heap.size + 1) (.loop (rec (if jump.isNone then .ready else .done) jump))) := fun jump W2 W3 h2 h2' hk3 => by
    have hl3 := (hk3.block _ (Array.getElem?_eq_some_iff.1 h2).1 (fun hc => by have := hC _ hc; omega)).trans h2
    have hd3 := (hk3.block _ (Array.getElem?_eq_some_iff.1 h2').1 (fun hc => by have := hC _ hc; omega)).trans h2'
    have := run_endRound (P := P) jump hl3
    rw [hrec] at this ⊢
    refine ⟨this, World.putObj_heap_same (Array.getElem?_eq_some_iff.1 hl3).1, (World.putObj_heap_other (by omega)).trans hd3, (hk3.mono (fun k _ h => Or.inl h)).tr (Only.putObj (Or.inr ⟨by omega, by omega⟩) _ _), ?_⟩
    exact ((Only.putObj (C := fun k => w.heap.size ≤ k) (l := w.heap.size + 1) (by omega) W3 _).below (by
      have := (Array.getElem?_eq_some_iff.1 hl3).1
      omega) (fun k hk => hk))
  refine ⟨w.heap.size + 1, [{ target := .collected w.heap.size, args := #[] }], W1, { target := .fn (.func gf) lb, args := #[.func (.yield (w.heap.size + 1)) #[] #[]] }, W1, gf,
    #[.func (.yield (w.heap.size + 1)) #[] #[]] ++ lb, W1, ?_, ?_, ?_, ?_, ?_, ?_⟩
  · rw [← hW1, hrec]; exact run_enterLoop_outer _ _ _ _ _
  · simp only [resolve, hg]
    simp [go_sem]
  · intro f' hf'; trivial
  · simp [invoke, go_sem, eg]
  · intro h; cases h
  · refine callsIn_wide.2 ((hit (w.heap.size + 1)
      (fun pre W => I pre W ∧ W.heap[w.heap.size + 1]? = some (.loop (rec .ready none)) ∧ W.heap[w.heap.size]? = some (.deferred (some [])))
      (fun W => ∃ c, Ix c W ∧ W.heap[w.heap.size + 1]? = some (.loop (rec .done (some c))) ∧ W.heap[w.heap.size]? = some (.deferred (some [])))
      W1 hb1 ?_ ?_ ?_ ⟨hI _ _ _ h0 hb1, hL1, hK1⟩).mono ?_)
    · rintro pre A B ⟨h1, h2, h3⟩ hb
      exact ⟨hI _ _ _ h1 (hb.mono hle), hblk (by omega) h2 hb, hblk (by omega) h3 hb⟩
    · rintro A B ⟨c, h1, h2, h3⟩ hb
      exact ⟨c, hIx _ _ _ h1 (hb.mono hle), hblk (by omega) h2 hb, hblk (by omega) h3 hb⟩
    · rintro pre y vs W hpre ⟨hi, hl, hk⟩ hR hsz
      have hy := run_yield (P := P) (args := vs) hl (by rw [hrec]; exact hps _ _ _ hR)
      rw [hrec] at hy
      refine ⟨fn, _, assign, body, hy, fun m => ?_⟩
      clear hy
      have hrd := hround (w.heap.size + 1) pre y vs W (by omega) hpre hi hR (by omega)
      have hany : ∀ (c : Code) (Q : Exit → Act → World → Prop) (a : Act) (w : World) (l n : Nat), c.wpIn (Fence.wide.inRound l) 0 P Q a w → c.wpIn (Fence.wide.inRound l) n P Q a w := fun c Q a w l n h b k cs hro hb _ => h b k cs hro hb (fun d hd => by cases hd)
      refine roundIn_of_wpIn hfn (hany _ _ _ _ _ _ (wpIn_mono hrd ?_))
      rintro e a1 Wa hp
      cases e with
      | normal =>
        obtain ⟨hba, hbody⟩ := hp
        have hla := (hba.block _ (Array.getElem?_eq_some_iff.1 hl).1).trans hl
        have hka := (hba.block _ (Array.getElem?_eq_some_iff.1 hk).1).trans hk
        refine ⟨_, run_beginRound hla (by rw [hrec]), ?_⟩
        have hl2 : (Wa.putObj (w.heap.size + 1) (.loop { rec .ready none with state := .busy })).heap[w.heap.size + 1]? = some (.loop { rec .ready none with state := .busy }) := World.putObj_heap_same (Array.getElem?_eq_some_iff.1 hla).1
        have hk2 : (Wa.putObj (w.heap.size + 1) (.loop { rec .ready none with state := .busy })).heap[w.heap.size]? = some (.deferred (some [])) := (World.putObj_heap_other (by omega)).trans hka
        have hoa : Only (fun k => C k ∨ (w.heap.size ≤ k ∧ k < W1.heap.size)) W (Wa.putObj (w.heap.size + 1) (.loop { rec .ready none with state := .busy })) :=
          (Only.of_ext hba).tr (Only.putObj (Or.inr ⟨by omega, by omega⟩) _ _)
        refine hany _ _ _ _ _ _ (wpIn_mono (hbody _ (turned_put hla _)) ?_)
        rintro e a3 W3 hp
        cases e with
        | normal =>
          obtain ⟨hk3, hi3⟩ := hp
          obtain ⟨hr, hl4, hk4, ho4, hb4⟩ := fin none _ W3 hl2 hk2 hk3
          exact ⟨_, _, hr, .inl ⟨rfl, ⟨hI _ _ _ hi3 hb4, hl4, hk4⟩, hoa.tr ho4⟩⟩
        | ret =>
          obtain ⟨hk3, hi3⟩ := hp
          obtain ⟨hr, hl4, hk4, ho4, hb4⟩ := fin (some .ret) _ W3 hl2 hk2 hk3
          exact ⟨_, _, hr, .inr ⟨rfl, ⟨.ret, hIx _ _ _ hi3 hb4, hl4, hk4⟩, hoa.tr ho4⟩⟩
        | exit id =>
          obtain ⟨hk3, hi3⟩ := hp
          obtain ⟨hr, hl4, hk4, ho4, hb4⟩ := fin (some (.exit id)) _ W3 hl2 hk2 hk3
          exact ⟨_, _, hr, .inr ⟨rfl, ⟨.exit id, hIx _ _ _ hi3 hb4, hl4, hk4⟩, hoa.tr ho4⟩⟩
        | goto t =>
          obtain ⟨hk3, hi3⟩ := hp
          obtain ⟨hr, hl4, hk4, ho4, hb4⟩ := fin (some (.goto t)) _ W3 hl2 hk2 hk3
          exact ⟨_, _, hr, .inr ⟨rfl, ⟨.goto t, hIx _ _ _ hi3 hb4, hl4, hk4⟩, hoa.tr ho4⟩⟩
        | panic ch => exact hp.elim
        | outgrown => exact hp.elim
      | ret => exact hp.elim
      | exit id => exact hp.elim
      | goto t => exact hp.elim
      | panic ch => exact hp.elim
      | outgrown => exact hp.elim
    · have hend : ∀ (r : Loop) (W2 : World), W2.heap[w.heap.size]? = some (.deferred (some [])) → W2.heap[w.heap.size + 1]? = some (.loop r) → ∀ o,
          Below w.heap.size W2 (W2.putObj (w.heap.size + 1) o) ∧ (W2.putObj (w.heap.size + 1) o).heap[w.heap.size]? = some (.deferred (some [])) := fun r W2 hd hl o =>
        ⟨(Only.putObj (C := fun k => w.heap.size ≤ k) (l := w.heap.size + 1) (by omega) W2 _).below (by have := (Array.getElem?_eq_some_iff.1 hl).1; omega) (fun k hk => hk), (World.putObj_heap_other (by omega)).trans hd⟩
      rintro e W2 ⟨⟨v, rfl⟩, (⟨hi, hl, hk⟩ | ⟨c, hi, hl, hk⟩)⟩
      · obtain ⟨q1, q2⟩ := hend _ _ hk hl (.loop { rec .ready none with state := .exhausted })
        exact ⟨none, _, by have := run_endLoop (P := P) hl (by rw [hrec]; simp); rw [hrec] at this; exact this, hdone _ (by rw [hrec] at q1; exact hI _ _ _ hi q1) (by rw [hrec] at q2; exact q2)⟩
      · obtain ⟨q1, q2⟩ := hend _ _ hk hl (.loop { rec .done (some c) with state := .exhausted })
        exact ⟨some c, _, by have := run_endLoop (P := P) hl (by rw [hrec]; simp); rw [hrec] at this; exact this, wpIn_wide.2 (hstop c _ (by rw [hrec] at q1; exact hIx _ _ _ hi q1) (by rw [hrec] at q2; exact q2))⟩
#print axioms wp_range
end Go.Proofs.YtkdhhcidpklgoaaGreatDoor
