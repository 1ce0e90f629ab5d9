/- Maps as functions: a set of strings, a count of strings, a set of integers. -/
import Derived.Test.YtkdglplfcpindaaGreatDoorQ1
import Derived.Maps.Own
import Derived.Maps.OwnSet
import Derived.StringKeys
import Derived.Outline
import Derived.Deep.QuietTactic
import Derived.BigQuiet
namespace Go.Proofs.YtkdglplfcpindaaGreatDoor
open Go.RowKit Go.Maps Go.WideMaps Go.ChangeMaps Go.MapKept

/-- Strings are equal if their bytes are. -/
def eqS (a b : ByteArray) : Bool := a.toList == b.toList
theorem eqS_iff {a b : ByteArray} : eqS a b = true ↔ a = b := by
  unfold eqS
  rw [beq_iff_eq, ByteArray.toList_eq, ByteArray.toList_eq]
  exact ⟨Go.WideShapes.bytes_inj, fun h => by rw [h]⟩
theorem eqS_ne {a b : ByteArray} (h : eqS a b = false) : a ≠ b := fun e => by rw [eqS_iff.2 e] at h; cases h
/-- Membership in a list of strings. -/
theorem hasS_cons' (s : ByteArray) (S : List ByteArray) (k : ByteArray) : hasS (s :: S) k = (eqS k s || hasS S k) := rfl
section
variable {P : Program}
abbrev kS (s : ByteArray) : Lit := .string s.data.toList
theorem kS_ne {a b : ByteArray} (h : a ≠ b) : kS a ≠ kS b := fun e => h (Go.WideShapes.bytes_inj (by injection e))
theorem key_lit (s : ByteArray) : WideAt.IsKeyLit (kS s) := trivial

/-- All values of a map are true. -/
def AllT (D : DataW Unit) : Prop := ∀ kl z, has D kl = true → D.atKey kl z = .lit (.bool true)
/-- A set of strings, at most n of them. -/
def SetO (P : Program) (w : World) (b n : Nat) (f : ByteArray → Bool) : Prop :=
  ∃ D : DataW Unit, w.ownsMap P 9 (plainElem P 4) b n D ∧ (∀ k, has D (kS k) = f k) ∧ AllT D
/-- A count of strings. -/
def CntO (P : Program) (w : World) (b n : Nat) (f : ByteArray → Int) : Prop :=
  ∃ D : DataW Unit, w.ownsMap P 9 (plainElem P 3) b n D ∧ ∀ k, D.atKey (kS k) (.lit (.int .i64 0)) = .lit (.int .i64 (f k))
/-- A set of integers. -/
def IntO (P : Program) (w : World) (b n : Nat) (f : Int → Bool) : Prop :=
  ∃ D : DataW Unit, w.ownsMap P 3 (plainElem P 4) b n D ∧ ∀ k, has D (.int .i64 k) = f k

theorem owns_block {w w' : World} {k : TypeId} {R : Value → Option (DataW Unit × List MemPlace)} {b n : Nat} {D : DataW Unit} (h : w.ownsMap P k R b n D) (hb : w'.heap[b]? = w.heap[b]?) : w'.ownsMap P k R b n D := by
  obtain ⟨es, clock, he, r⟩ := h
  exact ⟨es, clock, hb.trans he, r⟩
theorem SetO.block {w w' : World} {b n : Nat} {f : ByteArray → Bool} (h : SetO P w b n f) (hb : w'.heap[b]? = w.heap[b]?) : SetO P w' b n f := by
  obtain ⟨D, h1, h2⟩ := h; exact ⟨D, owns_block h1 hb, h2⟩
theorem CntO.block {w w' : World} {b n : Nat} {f : ByteArray → Int} (h : CntO P w b n f) (hb : w'.heap[b]? = w.heap[b]?) : CntO P w' b n f := by
  obtain ⟨D, h1, h2⟩ := h; exact ⟨D, owns_block h1 hb, h2⟩
theorem IntO.block {w w' : World} {b n : Nat} {f : Int → Bool} (h : IntO P w b n f) (hb : w'.heap[b]? = w.heap[b]?) : IntO P w' b n f := by
  obtain ⟨D, h1, h2⟩ := h; exact ⟨D, owns_block h1 hb, h2⟩
theorem SetO.lt {w : World} {b n : Nat} {f : ByteArray → Bool} (h : SetO P w b n f) : b < w.heap.size := by obtain ⟨D, h1, _⟩ := h; exact h1.lt
theorem CntO.lt {w : World} {b n : Nat} {f : ByteArray → Int} (h : CntO P w b n f) : b < w.heap.size := by obtain ⟨D, h1, _⟩ := h; exact h1.lt
theorem IntO.lt {w : World} {b n : Nat} {f : Int → Bool} (h : IntO P w b n f) : b < w.heap.size := by obtain ⟨D, h1, _⟩ := h; exact h1.lt
theorem SetO.ext {w w' : World} {b n : Nat} {f : ByteArray → Bool} (h : SetO P w b n f) (hb : Ext w w') : SetO P w' b n f := h.block (hb.block b h.lt)
theorem CntO.ext {w w' : World} {b n : Nat} {f : ByteArray → Int} (h : CntO P w b n f) (hb : Ext w w') : CntO P w' b n f := h.block (hb.block b h.lt)
theorem IntO.ext {w w' : World} {b n : Nat} {f : Int → Bool} (h : IntO P w b n f) (hb : Ext w w') : IntO P w' b n f := h.block (hb.block b h.lt)
theorem SetO.mono {w : World} {b n m : Nat} {f : ByteArray → Bool} (h : SetO P w b n f) (hm : n ≤ m) : SetO P w b m f := by obtain ⟨D, h1, h2⟩ := h; exact ⟨D, h1.mono hm, h2⟩
theorem CntO.mono {w : World} {b n m : Nat} {f : ByteArray → Int} (h : CntO P w b n f) (hm : n ≤ m) : CntO P w b m f := by obtain ⟨D, h1, h2⟩ := h; exact ⟨D, h1.mono hm, h2⟩
theorem IntO.mono {w : World} {b n m : Nat} {f : Int → Bool} (h : IntO P w b n f) (hm : n ≤ m) : IntO P w b m f := by obtain ⟨D, h1, h2⟩ := h; exact ⟨D, h1.mono hm, h2⟩
theorem SetO.is {w : World} {b n : Nat} {f : ByteArray → Bool} (h : SetO P w b n f) : ∃ es clock, w.heap[b]? = some (.map es clock) := by obtain ⟨D, ⟨es, clock, he, _⟩, _⟩ := h; exact ⟨es, clock, he⟩
theorem CntO.is {w : World} {b n : Nat} {f : ByteArray → Int} (h : CntO P w b n f) : ∃ es clock, w.heap[b]? = some (.map es clock) := by obtain ⟨D, ⟨es, clock, he, _⟩, _⟩ := h; exact ⟨es, clock, he⟩
theorem IntO.is {w : World} {b n : Nat} {f : Int → Bool} (h : IntO P w b n f) : ∃ es clock, w.heap[b]? = some (.map es clock) := by obtain ⟨D, ⟨es, clock, he, _⟩, _⟩ := h; exact ⟨es, clock, he⟩
theorem SetO.new (w : World) : SetO P (w.alloc (.map #[] 0)) w.heap.size 0 (fun _ => false) := ⟨_, World.ownsMap_made w P 9 _, fun _ => rfl, fun _ _ h => by cases h⟩
theorem CntO.new (w : World) : CntO P (w.alloc (.map #[] 0)) w.heap.size 0 (fun _ => 0) := ⟨_, World.ownsMap_made w P 9 _, fun _ => rfl⟩
theorem IntO.new (w : World) : IntO P (w.alloc (.map #[] 0)) w.heap.size 0 (fun _ => false) := ⟨_, World.ownsMap_made w P 3 _, fun _ => rfl⟩

variable {w : World} {b n : Nat} (h4 : P.underlying 4 = some .bool) (h3 : P.underlying 3 = some (.int .i64)) (h9 : P.underlying 9 = some .string)
include h9

include h4 in
theorem run_lookup_setO {f : ByteArray → Bool} (t : TypeId) (ht : P.underlying t = some (.map 9 4)) (h : SetO P w b n f) (hz : (zeroValue 4).run P w = .ok (.bool false) w) {k : ByteArray} (hk : k.size ≤ maxLen) :
    (Instr.lookup t (.map (some b)) (.string k) false).run P w = .ok (.bool (f k)) w := by
  obtain ⟨D, hown, hf, hT⟩ := h
  obtain ⟨v, ps, hrun, hR⟩ := hown.lookup (string_keyed h9) ht hz (plainElem_bool h4 false) (keyOf_string_mk h9 hk)
  rw [hrun]
  cases hc : f k with
  | false =>
    rw [atKey_of_not_has (by rw [hf]; exact hc)] at hR
    cases v <;> simp [plainElem, h4] at hR
    rw [hR.1]
  | true =>
    rw [hT _ _ (by rw [hf]; exact hc)] at hR
    cases v <;> simp [plainElem, h4] at hR
    rw [hR.1]
theorem run_lookup_set_none (t : TypeId) (ht : P.underlying t = some (.map 9 4)) (hz : (zeroValue 4).run P w = .ok (.bool false) w) {k : ByteArray} (hk : k.size ≤ maxLen) :
    (Instr.lookup t (.map none) (.string k) false).run P w = .ok (.bool false) w := by
  have := Maps.look_nil (c := false) (string_keyed h9) ht hz (keyOf_string_mk h9 hk)
  simpa using this
include h4 in
theorem run_update_setO {f : ByteArray → Bool} (t : TypeId) (ht : P.underlying t = some (.map 9 4)) (h : SetO P w b n f) (hn : n < maxLen) {k : ByteArray} (hk : k.size ≤ maxLen) :
    ∃ w', (Instr.mapUpdate t (.map (some b)) (.string k) (.bool true)).run P w = .ok () w' ∧ SetO P w' b (n + 1) (fun x => eqS x k || f x) ∧ w.grownBy w' (some b) ∧ w'.heap.size = w.heap.size := by
  obtain ⟨D, hown, hf, hT⟩ := h
  obtain ⟨w', hrun, ho, es, clock, es', clock', _, hw'⟩ := hown.store (string_keyed h9) ht hn (keyOf_string_mk h9 hk) (plainElem_bool h4 true)
  refine ⟨w', hrun, ⟨_, ho, fun x => ?_, fun kl z hk' => ?_⟩, World.mapTurned.grown ⟨es, clock, es', clock', by assumption, hw'⟩, by rw [hw']; simp [setBlock]⟩
  · show _ = (eqS x k || f x)
    cases hx : eqS x k with
    | true => rw [eqS_iff.1 hx]; exact has_put_same hown.isMap (key_lit k) _
    | false => rw [has_put_other (kS_ne (eqS_ne hx)), hf]; rfl
  · by_cases he : kl = kS k
    · subst he; exact atKey_put_same hown.isMap (key_lit k) _ _
    · rw [has_put_other he] at hk'
      rw [atKey_put_other he]; exact hT _ _ hk'
include h3 in
end
end Go.Proofs.YtkdglplfcpindaaGreatDoor

namespace Go.Proofs.YtkdglplfcpindaaGreatDoor
open Go.RowKit

/-! ### the calls -/
def findX (nm : ByteArray) : Nat → List Xtor → Option Nat
  | _, [] => none
  | k, x :: r => if x.name.toList == nm.toList then some k else findX nm (k + 1) r
def findD (nm : ByteArray) : Nat → List Decl → Option (Nat × Nat)
  | _, [] => none
  | i, d :: r => match findX nm 0 d.xtors with
    | some k => some (i + 1, k)
    | none => findD nm (i + 1) r
def negI (t n : Int) : Bool := decide (1 ≤ t ∧ t ≤ n)
def posB (l : List Decl) (t : Int) : Bool × Int :=
  if validB l = false then (false, 10) else if t = 0 then (true, 0) else match l[(t - 1).toNat]? with
    | some d => if 1 ≤ t then (!d.codata, 0) else (false, 1)
    | none => (false, 1)
def lastTy (l : List Arg) : Int := (l.getLast?.map Arg.ty).getD 0
def resI (l : List Decl) (t n : Int) : Int × Int :=
  if validB l = false then (0, 10) else if 1 ≤ t ∧ 0 ≤ n then match l[(t - 1).toNat]? with
    | some d => if d.codata then match d.xtors[n.toNat]? with
      | some x => if endsB x.args then (lastTy x.args, 0) else (0, 1)
      | none => (0, 1)
      else (0, 1)
    | none => (0, 1)
    else (0, 1)
theorem posB_bad {l : List Decl} {t : Int} (h : validB l = false) : posB l t = (false, 10) := by simp [posB, h]
theorem posB_zero {l : List Decl} (h : validB l = true) : posB l 0 = (true, 0) := by simp [posB, h]
theorem posB_out {l : List Decl} {t : Int} (h : validB l = true) (h0 : t ≠ 0) (ht : ¬ (1 ≤ t ∧ t ≤ l.length)) : posB l t = (false, 1) := by
  unfold posB
  rw [if_neg (by simp [h]), if_neg h0]
  by_cases h1 : 1 ≤ t
  · rw [List.getElem?_eq_none (by omega)]
  · cases l[(t - 1).toNat]? <;> simp [h1]
theorem posB_in {l : List Decl} {t : Nat} (h : validB l = true) (ht : t < l.length) : posB l (t + 1) = (!(l[t]).codata, 0) := by
  unfold posB
  rw [if_neg (by simp [h]), if_neg (by omega)]
  have e : ((t : Int) + 1 - 1).toNat = t := by omega
  rw [e, List.getElem?_eq_getElem ht]
  simp; omega
end Go.Proofs.YtkdglplfcpindaaGreatDoor

/- Terms and programs as plain data, and what is asked of them. -/
namespace Go.Proofs.YtkdglplfcpindaaGreatDoor

abbrev Str := ByteArray
inductive Tm where
  | mk (op n : Int) (nm : Str) (ty : Int) (args : List Tm) (cls : List (List Str × Tm))
namespace Tm
def op : Tm → Int | mk a _ _ _ _ _ => a
def n : Tm → Int | mk _ a _ _ _ _ => a
def nm : Tm → Str | mk _ _ a _ _ _ => a
def ty : Tm → Int | mk _ _ _ a _ _ => a
def args : Tm → List Tm | mk _ _ _ _ a _ => a
def cls : Tm → List (List Str × Tm) | mk _ _ _ _ _ a => a
end Tm
structure Prm where
  nm : Str
  ty : Int
structure Fn where
  nm : Str
  ps : List Prm
  res : Int
  body : Tm
structure Pg where
  decls : List Decl
  funs : List Fn

/-! ### the parts of a term -/
abbrev Bnd := List Str × Bool
def bndAt (op : Int) (nm : Str) (i : Nat) : Bnd := if op = 8 ∧ i = 1 then ([nm], false) else if op = 11 ∧ i = 0 then ([nm], true) else ([], false)
def kidsFrom (op : Int) (nm : Str) : Nat → List Tm → List (Bnd × Tm)
  | _, [] => []
  | i, a :: r => (bndAt op nm i, a) :: kidsFrom op nm (i + 1) r
def kids (t : Tm) : List (Bnd × Tm) := kidsFrom t.op t.nm 0 t.args ++ t.cls.map fun c => ((c.1, false), c.2)
theorem kidsFrom_length (op : Int) (nm : Str) : ∀ (l : List Tm) (i : Nat), (kidsFrom op nm i l).length = l.length
  | [], _ => rfl
  | _ :: r, i => by simp [kidsFrom, kidsFrom_length op nm r]
theorem kidsFrom_get (op : Int) (nm : Str) : ∀ (l : List Tm) (i j : Nat) (a : Tm), l[j]? = some a → (kidsFrom op nm i l)[j]? = some (bndAt op nm (i + j), a)
  | [], _, _, _, h => by simp at h
  | x :: r, i, 0, a, h => by simp at h; subst h; simp [kidsFrom]
  | x :: r, i, j + 1, a, h => by
    simp only [kidsFrom, List.getElem?_cons_succ] at h ⊢
    rw [kidsFrom_get op nm r (i + 1) j a h]
    rw [show i + 1 + j = i + (j + 1) by omega]
/-! ### nodes -/
mutual
def nodesL : Int → Tm → List (Int × Tm)
  | d, .mk op n nm ty args cls => (d, .mk op n nm ty args cls) :: (nodesA (d + 1) args ++ nodesC (d + 1) cls)
def nodesA : Int → List Tm → List (Int × Tm)
  | _, [] => []
  | d, a :: r => nodesL d a ++ nodesA d r
def nodesC : Int → List (List Str × Tm) → List (Int × Tm)
  | _, [] => []
  | d, (_, t) :: r => nodesL d t ++ nodesC d r
end
def nodesK (d : Int) : List (Bnd × Tm) → List (Int × Tm)
  | [] => []
  | x :: r => nodesL d x.2 ++ nodesK d r
theorem nodesK_append (d : Int) (k : List (Bnd × Tm)) : ∀ l, nodesK d (l ++ k) = nodesK d l ++ nodesK d k
  | [] => rfl
  | x :: r => by simp [nodesK, nodesK_append d k r]
theorem nodesA_kids (op : Int) (nm : Str) (d : Int) : ∀ (l : List Tm) (i : Nat), nodesA d l = nodesK d (kidsFrom op nm i l)
  | [], _ => by simp [nodesA, kidsFrom, nodesK]
  | a :: r, i => by simp [nodesA, kidsFrom, nodesK, nodesA_kids op nm d r (i + 1)]
theorem nodesC_kids (d : Int) : ∀ (l : List (List Str × Tm)), nodesC d l = nodesK d (l.map fun c => ((c.1, false), c.2))
  | [] => by simp [nodesC, nodesK]
  | (ns, t) :: r => by simp [nodesC, nodesK, nodesC_kids d r]
theorem nodesL_kids (d : Int) (t : Tm) : nodesL d t = (d, t) :: nodesK (d + 1) (kids t) := by
  cases t with
  | mk op n nm ty args cls => rw [nodesL, kids, nodesK_append, nodesA_kids op nm (d + 1) args 0, nodesC_kids]; rfl
/-- The number of nodes, and whether the limits are kept. -/
def sizeOK (l : List (Int × Tm)) : Bool := decide (l.length ≤ 600) && l.all fun p => decide (p.1 ≤ 24)
def sizeR (t : Tm) : Int × Bool := if sizeOK (nodesL 1 t) then ((nodesL 1 t).length, true) else (0, false)

/-! ### validity of a term -/
def emptyB (s : Str) : Bool := s.toList.isEmpty
def hasF (t : Tm) (fn fnm fty : Bool) (na nc : Int) : Bool :=
  (fn || decide (t.n = 0)) && (fnm || emptyB t.nm) && (fty || decide (t.ty = 0)) && decide ((t.args.length : Int) = na) && decide ((t.cls.length : Int) = nc)
def isTypeB (P : Pg) (ty : Int) : Bool := decide (0 ≤ ty) && decide (ty ≤ P.decls.length)
def noDecl : Decl := ⟨⟨#[]⟩, false, []⟩
def declAt (P : Pg) (ty : Int) : Decl := P.decls.getD (ty - 1).toNat noDecl
def isDeclB (P : Pg) (ty : Int) (co : Bool) : Bool := decide (1 ≤ ty) && decide (ty ≤ P.decls.length) && ((declAt P ty).codata == co)
def isIdxB (i n : Int) : Bool := decide (0 ≤ i) && decide (i < n)
def noXtor : Xtor := ⟨⟨#[]⟩, []⟩
def prodI (x : Xtor) : Int := ((x.args.filter fun a => !a.co).length : Int)
def fitsXB (P : Pg) (t : Tm) : Bool :=
  isIdxB t.n (declAt P t.ty).xtors.length && hasF t true false true ((declAt P t.ty).xtors.getD t.n.toNat noXtor).args.length 0
def clsB : List Xtor → List (List Str × Tm) → Bool
  | _, [] => true
  | xs, c :: r => decide ((c.1.length : Int) = prodI (xs.headD noXtor)) && clsB xs.tail r
def fitsCB (P : Pg) (t : Tm) (na : Int) : Bool :=
  hasF t false false true na (declAt P t.ty).xtors.length && clsB (declAt P t.ty).xtors t.cls
def noFn : Fn := ⟨⟨#[]⟩, [], 0, .mk 0 0 ⟨#[]⟩ 0 [] []⟩
def fitsT (P : Pg) (t : Tm) : Bool :=
  if t.op = 0 then hasF t false true false 0 0
  else if t.op = 1 then hasF t true false false 0 0
  else if t.op = 2 then hasF t true false false 2 0 && decide (0 ≤ t.n) && decide (t.n ≤ 6)
  else if t.op = 3 then hasF t false false false 3 0
  else if t.op = 4 then isDeclB P t.ty false && fitsXB P t
  else if t.op = 5 then isDeclB P t.ty false && fitsCB P t 1
  else if t.op = 6 then isDeclB P t.ty true && fitsXB P t
  else if t.op = 7 then isDeclB P t.ty true && fitsCB P t 0
  else if t.op = 8 then hasF t false true true 2 0 && isTypeB P t.ty
  else if t.op = 9 then isIdxB t.n P.funs.length && hasF t true false false (P.funs.getD t.n.toNat noFn).ps.length 0
  else if t.op = 10 then hasF t false false false 2 0
  else if t.op = 11 ∨ t.op = 12 then hasF t false true true 1 0 && isTypeB P t.ty
  else false
def distF (f : Str → Bool) : List Str → Bool
  | [] => true
  | s :: r => nameB s && !f s && distF (fun x => (x.toList == s.toList) || f x) r
def distB (l : List Str) : Bool := distF (fun _ => false) l
abbrev Scp := Str → Bool
def addV (V : Scp) (b : Bnd) : Scp := if b.2 then V else fun k => hasS b.1 k || V k
def addL (L : Scp) (b : Bnd) : Scp := if b.2 then fun k => hasS b.1 k || L k else L
def refB (V L : Scp) (t : Tm) : Bool := if t.op = 0 then V t.nm else if t.op = 12 then L t.nm else true
mutual
def validT (P : Pg) : Scp → Scp → Tm → Bool
  | V, L, .mk op n nm ty args cls => fitsT P (.mk op n nm ty args cls) && refB V L (.mk op n nm ty args cls) && (validA P op nm V L 0 args && validC P V L cls)
def validA (P : Pg) (op : Int) (nm : Str) : Scp → Scp → Nat → List Tm → Bool
  | _, _, _, [] => true
  | V, L, i, a :: r => (distB (bndAt op nm i).1 && validT P (addV V (bndAt op nm i)) (addL L (bndAt op nm i)) a) && validA P op nm V L (i + 1) r
def validC (P : Pg) : Scp → Scp → List (List Str × Tm) → Bool
  | _, _, [] => true
  | V, L, (ns, t) :: r => (distB ns && validT P (addV V (ns, false)) (addL L (ns, false)) t) && validC P V L r
end
def validK (P : Pg) (V L : Scp) (x : Bnd × Tm) : Bool := distB x.1.1 && validT P (addV V x.1) (addL L x.1) x.2
theorem validA_kids (P : Pg) (op : Int) (nm : Str) (V L : Scp) : ∀ (l : List Tm) (i : Nat), validA P op nm V L i l = (kidsFrom op nm i l).all (validK P V L)
  | [], _ => by simp [validA, kidsFrom]
  | a :: r, i => by simp [validA, kidsFrom, validK, validA_kids P op nm V L r (i + 1)]
theorem validC_kids (P : Pg) (V L : Scp) : ∀ (l : List (List Str × Tm)), validC P V L l = (l.map fun c => ((c.1, false), c.2)).all (validK P V L)
  | [] => by simp [validC]
  | (ns, t) :: r => by rw [validC, validC_kids P V L r]; simp [validK]
theorem validT_kids (P : Pg) (V L : Scp) (t : Tm) : validT P V L t = (fitsT P t && refB V L t && (kids t).all (validK P V L)) := by
  cases t with
  | mk op n nm ty args cls => rw [validT, validA_kids P op nm V L args 0, validC_kids, kids, List.all_append]; rfl

/-! ### free names -/
def vnames (b : Bnd) : List Str := if b.2 then [] else b.1
def lnames (b : Bnd) : List Str := if b.2 then b.1 else []
mutual
def fvT : Tm → Str → Bool
  | .mk op _ nm _ args cls, k => (decide (op = 0) && (k.toList == nm.toList)) || (fvA op nm 0 args k || fvC cls k)
def fvA (op : Int) (nm : Str) : Nat → List Tm → Str → Bool
  | _, [], _ => false
  | i, a :: r, k => (!hasS (vnames (bndAt op nm i)) k && fvT a k) || fvA op nm (i + 1) r k
def fvC : List (List Str × Tm) → Str → Bool
  | [], _ => false
  | (ns, t) :: r, k => (!hasS ns k && fvT t k) || fvC r k
end
mutual
def flT : Tm → Str → Bool
  | .mk op _ nm _ args cls, k => (decide (op = 12) && (k.toList == nm.toList)) || (flA op nm 0 args k || flC cls k)
def flA (op : Int) (nm : Str) : Nat → List Tm → Str → Bool
  | _, [], _ => false
  | i, a :: r, k => (!hasS (lnames (bndAt op nm i)) k && flT a k) || flA op nm (i + 1) r k
def flC : List (List Str × Tm) → Str → Bool
  | [], _ => false
  | (_, t) :: r, k => flT t k || flC r k
end
def fvK (k : Str) (x : Bnd × Tm) : Bool := !hasS (vnames x.1) k && fvT x.2 k
def flK (k : Str) (x : Bnd × Tm) : Bool := !hasS (lnames x.1) k && flT x.2 k
/-! ### how many names a term binds -/
mutual
def wT : Tm → Nat
  | .mk op _ nm _ args cls => wA op nm 0 args + wC cls
def wA (op : Int) (nm : Str) : Nat → List Tm → Nat
  | _, [] => 0
  | i, a :: r => (bndAt op nm i).1.length + wT a + wA op nm (i + 1) r
def wC : List (List Str × Tm) → Nat
  | [] => 0
  | (ns, t) :: r => ns.length + wT t + wC r
end
def wK : List (Bnd × Tm) → Nat
  | [] => 0
  | x :: r => x.1.1.length + wT x.2 + wK r
/-! ### programs -/
def callsT (t : Tm) (k : Int) : Bool := (nodesL 1 t).any fun p => decide (p.2.op = 9) && decide (p.2.n = k)
def mainB (f : Fn) : Bool := f.ps.all (fun a => decide (a.ty = 0)) && decide (f.res = 0)
def sizesB : Int → List Fn → Bool
  | n, [] => decide (n ≤ 600)
  | n, f :: r => (sizeR f.body).2 && sizesB (n + (sizeR f.body).1) r
def funB (P : Pg) (f : Fn) : Bool :=
  decide (f.ps.length ≤ 6) && isTypeB P f.res && f.ps.all (fun a => isTypeB P a.ty) && (distB (f.ps.map Prm.nm) && validT P (hasS (f.ps.map Prm.nm)) (fun _ => false) f.body)
def progB (P : Pg) : Bool :=
  (validB P.decls && srcB P.decls) && (decide (1 ≤ P.funs.length) && decide (P.funs.length ≤ 12) && distB (P.funs.map Fn.nm)) && (mainB (P.funs.headD noFn) && sizesB 0 P.funs) && P.funs.all (funB P)
def chkP (P : Pg) : Int := if progB P then 0 else 20
def totalL : List Fn → Nat
  | [] => 0
  | f :: r => (nodesL 1 f.body).length + totalL r
def nodesP (P : Pg) : Int × Int := if progB P then (totalL P.funs, 0) else (0, 20)
def termP (P : Pg) (V L : Scp) (t : Tm) : Bool × Int := if progB P then ((sizeR t).2 && validT P V L t, 0) else (false, 20)
end Go.Proofs.YtkdglplfcpindaaGreatDoor

/- How terms and programs lie in memory, and that new blocks do not turn them. -/
namespace Go.Proofs.YtkdglplfcpindaaGreatDoor
open Go.RowKit

def RStrs (w : World) (v : Value) (l : List Str) : Prop :=
  ∃ A c, v = .slice A l.length c ∧ l.length ≤ c ∧ c ≤ maxLen ∧
    ∀ i s, l[i]? = some s → ∃ b o, A = some ⟨b, o, none⟩ ∧ b < w.heap.size ∧ w.cell? ⟨b, o + i, none⟩ = some (.string s) ∧ s.size ≤ maxLen
/-- The six cells of a term. -/
structure C6 (w : World) (b o : Nat) (t : Tm) (va vc : Value) : Prop where
  c0 : w.cell? ⟨b, o, none⟩ = some (.int .i64 t.op)
  c1 : w.cell? ⟨b, o + 1, none⟩ = some (.int .i64 t.n)
  c2 : w.cell? ⟨b, o + 2, none⟩ = some (.string t.nm)
  c3 : w.cell? ⟨b, o + 3, none⟩ = some (.int .i64 t.ty)
  c4 : w.cell? ⟨b, o + 4, none⟩ = some va
  c5 : w.cell? ⟨b, o + 5, none⟩ = some vc
def ok64 (x : Int) : Prop := (Lit.int .i64 x).wf = true
abbrev tV (t : Tm) (va vc : Value) : Value := .agg #[.int .i64 t.op, .int .i64 t.n, .string t.nm, .int .i64 t.ty, va, vc]
def RT (w : World) : Nat → Tm → Value → Value → Prop
  | 0, _, _, _ => False
  | k + 1, t, va, vc => (t.nm.size ≤ maxLen ∧ ok64 t.n ∧ ok64 t.ty) ∧
    (∃ A c, va = .slice A t.args.length c ∧ t.args.length ≤ c ∧ c ≤ maxLen ∧
      ∀ i x, t.args[i]? = some x → ∃ b o xa xc, A = some ⟨b, o, none⟩ ∧ b < w.heap.size ∧ C6 w b (o + i * 6) x xa xc ∧ RT w k x xa xc) ∧
    (∃ B c, vc = .slice B t.cls.length c ∧ t.cls.length ≤ c ∧ c ≤ maxLen ∧
      ∀ i x, t.cls[i]? = some x → ∃ b o vn xa xc, B = some ⟨b, o, none⟩ ∧ b < w.heap.size ∧ w.cell? ⟨b, o + i * 7, none⟩ = some vn ∧ RStrs w vn x.1 ∧ C6 w b (o + i * 7 + 1) x.2 xa xc ∧ RT w k x.2 xa xc)
def RPrms (w : World) (v : Value) (l : List Prm) : Prop :=
  ∃ A c, v = .slice A l.length c ∧ l.length ≤ c ∧ c ≤ maxLen ∧
    ∀ i a, l[i]? = some a → ∃ b o, A = some ⟨b, o, none⟩ ∧ b < w.heap.size ∧ w.cell? ⟨b, o + i * 2, none⟩ = some (.string a.nm) ∧ w.cell? ⟨b, o + i * 2 + 1, none⟩ = some (.int .i64 a.ty) ∧ a.nm.size ≤ maxLen
abbrev fV (f : Fn) (vp xa xc : Value) : Value := .agg #[.string f.nm, vp, .int .i64 f.res, .int .i64 f.body.op, .int .i64 f.body.n, .string f.body.nm, .int .i64 f.body.ty, xa, xc]
def RFns (w : World) (v : Value) (l : List Fn) : Prop :=
  ∃ A c, v = .slice A l.length c ∧ l.length ≤ c ∧ c ≤ maxLen ∧
    ∀ i f, l[i]? = some f → ∃ b o vp xa xc k, A = some ⟨b, o, none⟩ ∧ b < w.heap.size ∧ w.cell? ⟨b, o + i * 9, none⟩ = some (.string f.nm) ∧ w.cell? ⟨b, o + i * 9 + 1, none⟩ = some vp ∧ w.cell? ⟨b, o + i * 9 + 2, none⟩ = some (.int .i64 f.res) ∧
      C6 w b (o + i * 9 + 3) f.body xa xc ∧ f.nm.size ≤ maxLen ∧ RPrms w vp f.ps ∧ RT w k f.body xa xc
abbrev pV (vd vf : Value) : Value := .agg #[vd, vf]

section
variable {w w' : World} {v : Value}
theorem C6.below {b o : Nat} {t : Tm} {va vc : Value} (h : C6 w b o t va vc) (hb : Ext w w') : C6 w' b o t va vc :=
  ⟨hb.keep h.c0, hb.keep h.c1, hb.keep h.c2, hb.keep h.c3, hb.keep h.c4, hb.keep h.c5⟩
theorem RStrs.below {l : List Str} (h : RStrs w v l) (hb : Ext w w') : RStrs w' v l := by
  obtain ⟨A, c, rfl, h1, h2, h3⟩ := h
  refine ⟨A, c, rfl, h1, h2, fun i a hi => ?_⟩
  obtain ⟨b, o, rfl, hlt, h4, h5⟩ := h3 i a hi
  exact ⟨b, o, rfl, Nat.lt_of_lt_of_le hlt hb.size, hb.keep h4, h5⟩
theorem RT.below (hb : Ext w w') : ∀ {k : Nat} {t : Tm} {va vc : Value}, RT w k t va vc → RT w' k t va vc
  | 0, _, _, _, h => h.elim
  | k + 1, t, va, vc, ⟨h0, ⟨A, c, e1, h1, h2, h3⟩, ⟨B, d, e2, h4, h5, h6⟩⟩ =>
    ⟨h0, ⟨A, c, e1, h1, h2, fun i x hi => by
      obtain ⟨b, o, xa, xc, e, hlt, hc, hr⟩ := h3 i x hi
      exact ⟨b, o, xa, xc, e, Nat.lt_of_lt_of_le hlt hb.size, hc.below hb, hr.below hb⟩⟩,
    ⟨B, d, e2, h4, h5, fun i x hi => by
      obtain ⟨b, o, vn, xa, xc, e, hlt, hn, hs, hc, hr⟩ := h6 i x hi
      exact ⟨b, o, vn, xa, xc, e, Nat.lt_of_lt_of_le hlt hb.size, hb.keep hn, hs.below hb, hc.below hb, hr.below hb⟩⟩⟩
theorem RT.mono : ∀ {k m : Nat} {t : Tm} {va vc : Value}, k ≤ m → RT w k t va vc → RT w m t va vc
  | 0, _, _, _, _, _, h => h.elim
  | k + 1, 0, _, _, _, hm, _ => by omega
  | k + 1, m + 1, t, va, vc, hm, ⟨h0, ⟨A, c, e1, h1, h2, h3⟩, ⟨B, d, e2, h4, h5, h6⟩⟩ =>
    ⟨h0, ⟨A, c, e1, h1, h2, fun i x hi => by
      obtain ⟨b, o, xa, xc, e, hlt, hc, hr⟩ := h3 i x hi
      exact ⟨b, o, xa, xc, e, hlt, hc, RT.mono (by omega) hr⟩⟩,
    ⟨B, d, e2, h4, h5, fun i x hi => by
      obtain ⟨b, o, vn, xa, xc, e, hlt, hn, hs, hc, hr⟩ := h6 i x hi
      exact ⟨b, o, vn, xa, xc, e, hlt, hn, hs, hc, RT.mono (by omega) hr⟩⟩⟩
theorem RPrms.below {l : List Prm} (h : RPrms w v l) (hb : Ext w w') : RPrms w' v l := by
  obtain ⟨A, c, rfl, h1, h2, h3⟩ := h
  refine ⟨A, c, rfl, h1, h2, fun i a hi => ?_⟩
  obtain ⟨b, o, rfl, hlt, h4, h5, h6⟩ := h3 i a hi
  exact ⟨b, o, rfl, Nat.lt_of_lt_of_le hlt hb.size, hb.keep h4, hb.keep h5, h6⟩
theorem RFns.below {l : List Fn} (h : RFns w v l) (hb : Ext w w') : RFns w' v l := by
  obtain ⟨A, c, rfl, h1, h2, h3⟩ := h
  refine ⟨A, c, rfl, h1, h2, fun i a hi => ?_⟩
  obtain ⟨b, o, vp, xa, xc, k, rfl, hlt, h4, h5, h6, h7, h8, h9, h10⟩ := h3 i a hi
  exact ⟨b, o, vp, xa, xc, k, rfl, Nat.lt_of_lt_of_le hlt hb.size, hb.keep h4, hb.keep h5, hb.keep h6, h7.below hb, h8, h9.below hb, h10.below hb⟩
theorem RStrs.form {l : List Str} (h : RStrs w v l) : ∃ A c, v = .slice A l.length c ∧ l.length ≤ c ∧ c ≤ maxLen := by
  obtain ⟨A, c, h1, h2, h3, _⟩ := h; exact ⟨A, c, h1, h2, h3⟩
theorem RPrms.form {l : List Prm} (h : RPrms w v l) : ∃ A c, v = .slice A l.length c ∧ l.length ≤ c ∧ c ≤ maxLen := by
  obtain ⟨A, c, h1, h2, h3, _⟩ := h; exact ⟨A, c, h1, h2, h3⟩
theorem RFns.form {l : List Fn} (h : RFns w v l) : ∃ A c, v = .slice A l.length c ∧ l.length ≤ c ∧ c ≤ maxLen := by
  obtain ⟨A, c, h1, h2, h3, _⟩ := h; exact ⟨A, c, h1, h2, h3⟩
theorem RT.form {k : Nat} {t : Tm} {va vc : Value} (h : RT w k t va vc) : (t.nm.size ≤ maxLen ∧ ok64 t.n ∧ ok64 t.ty) ∧ (∃ A c, va = .slice A t.args.length c ∧ t.args.length ≤ c ∧ c ≤ maxLen) ∧ (∃ B c, vc = .slice B t.cls.length c ∧ t.cls.length ≤ c ∧ c ≤ maxLen) := by
  cases k with
  | zero => exact h.elim
  | succ k =>
    obtain ⟨h0, ⟨A, c, e1, h1, h2, _⟩, ⟨B, d, e2, h4, h5, _⟩⟩ := h
    exact ⟨h0, ⟨A, c, e1, h1, h2⟩, ⟨B, d, e2, h4, h5⟩⟩
theorem RT.arg {k : Nat} {t : Tm} {A : Option Addr} {c : Nat} {vc : Value} (h : RT w (k + 1) t (.slice A t.args.length c) vc) {i : Nat} (hi : i < t.args.length) :
    ∃ b o xa xc, A = some ⟨b, o, none⟩ ∧ b < w.heap.size ∧ C6 w b (o + i * 6) t.args[i] xa xc ∧ RT w k t.args[i] xa xc := by
  obtain ⟨h0, ⟨A', c', e1, h1, h2, h3⟩, _⟩ := h
  cases e1
  exact h3 i _ (List.getElem?_eq_getElem hi)
theorem RT.clause {k : Nat} {t : Tm} {B : Option Addr} {c : Nat} {va : Value} (h : RT w (k + 1) t va (.slice B t.cls.length c)) {i : Nat} (hi : i < t.cls.length) :
    ∃ b o vn xa xc, B = some ⟨b, o, none⟩ ∧ b < w.heap.size ∧ w.cell? ⟨b, o + i * 7, none⟩ = some vn ∧ RStrs w vn t.cls[i].1 ∧ C6 w b (o + i * 7 + 1) t.cls[i].2 xa xc ∧ RT w k t.cls[i].2 xa xc := by
  obtain ⟨h0, _, ⟨A', c', e1, h1, h2, h3⟩⟩ := h
  cases e1
  exact h3 i _ (List.getElem?_eq_getElem hi)
theorem RStrs.at_ {l : List Str} {A : Option Addr} {c : Nat} (h : RStrs w (.slice A l.length c) l) {k : Nat} (hk : k < l.length) :
    ∃ b o, A = some ⟨b, o, none⟩ ∧ b < w.heap.size ∧ w.cell? ⟨b, o + k, none⟩ = some (.string l[k]) ∧ l[k].size ≤ maxLen := by
  obtain ⟨A', c', he, h1, h2, h3⟩ := h
  cases he
  exact h3 k _ (List.getElem?_eq_getElem hk)
theorem RPrms.at_ {l : List Prm} {A : Option Addr} {c : Nat} (h : RPrms w (.slice A l.length c) l) {k : Nat} (hk : k < l.length) :
    ∃ b o, A = some ⟨b, o, none⟩ ∧ b < w.heap.size ∧ w.cell? ⟨b, o + k * 2, none⟩ = some (.string l[k].nm) ∧ w.cell? ⟨b, o + k * 2 + 1, none⟩ = some (.int .i64 l[k].ty) ∧ l[k].nm.size ≤ maxLen := by
  obtain ⟨A', c', he, h1, h2, h3⟩ := h
  cases he
  exact h3 k _ (List.getElem?_eq_getElem hk)
theorem RFns.at_ {l : List Fn} {A : Option Addr} {c : Nat} (h : RFns w (.slice A l.length c) l) {i : Nat} (hk : i < l.length) :
    ∃ b o vp xa xc k, A = some ⟨b, o, none⟩ ∧ b < w.heap.size ∧ w.cell? ⟨b, o + i * 9, none⟩ = some (.string l[i].nm) ∧ w.cell? ⟨b, o + i * 9 + 1, none⟩ = some vp ∧ w.cell? ⟨b, o + i * 9 + 2, none⟩ = some (.int .i64 l[i].res) ∧
      C6 w b (o + i * 9 + 3) l[i].body xa xc ∧ l[i].nm.size ≤ maxLen ∧ RPrms w vp l[i].ps ∧ RT w k l[i].body xa xc := by
  obtain ⟨A', c', he, h1, h2, h3⟩ := h
  cases he
  exact h3 i _ (List.getElem?_eq_getElem hk)
end
end Go.Proofs.YtkdglplfcpindaaGreatDoor

/- fits.go: the fields of a node. -/
namespace Go.Proofs.YtkdglplfcpindaaGreatDoor
open Go.RowKit

abbrev fldV (a b c : Bool) (n m : Int) : Value := .agg #[.bool a, .bool b, .bool c, .int .i64 n, .int .i64 m]

set_option maxRecDepth 100000 in
theorem isIndex_any (i n : Int) (w : World) : Calls Tryz.prog 153 #[.int .i64 i, .int .i64 n] w fun e w' => e = .returned (.bool (isIdxB i n)) ∧ w = w' := by
  unfold isIdxB
  go_enter Tryz.func153, Tryz.ntmps153
  by_cases h : 0 ≤ i
  all_goals
    go_wp2
    go_ret
    exact ⟨ret_bool (by simp [h]; try omega), rfl⟩

set_option maxRecDepth 100000 in
theorem isType_any (vd vf : Value) (P : Pg) (ty : Int) (w : World) (h : RDecls w vd P.decls) :
    Calls Tryz.prog 105 #[pV vd vf, .int .i64 ty] w fun e w' => e = .returned (.bool (isTypeB P ty)) ∧ Ext w w' := by
  obtain ⟨A, c, rfl, hc, hm⟩ := h.form
  clear h
  unfold isTypeB maxLen at *
  go_enter Tryz.func105, Tryz.ntmps105
  by_cases h : 0 ≤ ty
  all_goals
    go_wp2
    go_ret
    exact ⟨ret_bool (by simp [h]; try omega), Ext.al _ _⟩

set_option maxHeartbeats 4000000 in
set_option maxRecDepth 100000 in
theorem has_any (k : Nat) (t : Tm) (va vc : Value) (a b c : Bool) (n m : Int) (w : World) (h : RT w k t va vc) :
    Calls Tryz.prog 149 #[tV t va vc, fldV a b c n m] w fun e w' => e = .returned (.bool (hasF t a b c n m)) ∧ Ext w w' := by
  obtain ⟨_, ⟨A, ca, rfl, hc, hm⟩, ⟨B, cb, rfl, hc2, hm2⟩⟩ := h.form
  clear h
  have HF : Hid (hasF t a b c n m = ((a || decide (t.n = 0)) && (b || emptyB t.nm) && (c || decide (t.ty = 0)) && decide ((t.args.length : Int) = n) && decide ((t.cls.length : Int) = m))) := rfl
  unfold maxLen at *
  go_enter Tryz.func149, Tryz.ntmps149
  go_wp2
  all_goals
    go_ret
    refine ⟨ret_bool ?_, (Ext.al _ _).tr (Ext.al _ _)⟩
    rw [HF.out]
    simp [emptyB, *]
    try (apply Bool.eq_iff_iff.2; simp)
end Go.Proofs.YtkdglplfcpindaaGreatDoor

/- A statement whose order is open, whose operations read and whose callees read or make new memory: walked once, in the order of the text. -/
namespace Go.Proofs.YtkdglplfcpindaaGreatDoor
open Go.RowKit

structure ExtOf (w0 : World) where
  val : World
  ext : Ext w0 val
instance (w0 : World) : Nonempty (ExtOf w0) := ⟨⟨w0, Ext.rf _⟩⟩
instance (w0 : World) : Inhabited (ExtOf w0) := ⟨⟨w0, Ext.rf _⟩⟩
theorem ExtOf.cell {w0 : World} {a : Addr} {v : Value} (h : w0.cell? a = some v) (p : ExtOf w0) : p.val.cell? a = some v := p.ext.keep h
theorem wp_region_ext {P : Program} {id : Nat} {Q : Exit → Act → World → Prop} {a : Act} {w w0 : World} {l : List Oper} (hm : P.follows .mixedOrders = true) (hB : Region.lexB .any l.toArray = true) (h0 : Ext w0 w)
    (h : wpQuiet P l.toArray (fun w' => ∃ p : ExtOf w0, w' = p.val) (fun a' => ∀ w', (∃ p : ExtOf w0, w' = p.val) → Q .normal a' w') l a) : (Code.region id l.toArray true).wp P Q a w :=
  wp_region_quiet (C := fun w' => ∃ p : ExtOf w0, w' = p.val) hm hB ⟨⟨_, h0.drew⟩, rfl⟩ (by simpa using h)
theorem Calls.ext_of {P : Program} {f : FuncId} {args : Array Value} {w0 : World} {p : ExtOf w0} {v : Value} (h : Calls P f args p.val fun e w' => e = .returned v ∧ Ext p.val w') :
    Calls P f args p.val fun e w'' => e = .returned v ∧ ∃ q : ExtOf w0, w'' = q.val :=
  h.mono fun _ w' ⟨he, hx⟩ => ⟨he, ⟨w', p.ext.tr hx⟩, rfl⟩
theorem Calls.ext_same {P : Program} {f : FuncId} {args : Array Value} {w0 : World} {p : ExtOf w0} {v : Value} (h : Calls P f args p.val fun e w' => e = .returned v ∧ p.val = w') :
    Calls P f args p.val fun e w'' => e = .returned v ∧ ∃ q : ExtOf w0, w'' = q.val :=
  h.mono fun _ _w' ⟨he, hx⟩ => ⟨he, p, hx.symm⟩
end Go.Proofs.YtkdglplfcpindaaGreatDoor

/- fits.go: xtors and clauses. -/
namespace Go.Proofs.YtkdglplfcpindaaGreatDoor
open Go.RowKit

theorem ret_int {k : IntKind} {a b : Int} (h : a = b) : Ending.returned (.int k a) = .returned (.int k b) := by rw [h]
theorem isIndex_is (i n : Int) (q : Bool) (h : isIdxB i n = q) (w : World) : Calls Tryz.prog 153 #[.int .i64 i, .int .i64 n] w fun e w' => e = .returned (.bool q) ∧ w = w' := by
  subst h; exact isIndex_any i n w

theorem declAt_in {P : Pg} {u : Nat} (h : u < P.decls.length) : declAt P ((u : Int) + 1) = P.decls[u] := by
  unfold declAt
  have e : ((u : Int) + 1 - 1).toNat = u := by omega
  rw [e, List.getD_eq_getElem?_getD, List.getElem?_eq_getElem h]; rfl
theorem isDeclB_out {P : Pg} {ty : Int} {co : Bool} (h : ¬ (1 ≤ ty ∧ ty ≤ P.decls.length)) : isDeclB P ty co = false := by
  unfold isDeclB
  by_cases h1 : 1 ≤ ty
  · rw [decide_eq_false (show ¬ ty ≤ P.decls.length by omega)]; simp
  · rw [decide_eq_false h1]; simp
theorem isDeclB_in {P : Pg} {u : Nat} {co : Bool} (h : u < P.decls.length) : isDeclB P ((u : Int) + 1) co = ((P.decls[u]).codata == co) := by
  unfold isDeclB
  rw [declAt_in h, decide_eq_true (by omega), decide_eq_true (by omega)]; rfl

set_option maxHeartbeats 1000000 in
set_option maxRecDepth 100000 in
theorem isDeclared_any (vd vf : Value) (P : Pg) (ty : Int) (co : Bool) (w : World) (h : RDecls w vd P.decls) :
    Calls Tryz.prog 150 #[pV vd vf, .int .i64 ty, .bool co] w fun e w' => e = .returned (.bool (isDeclB P ty co)) ∧ Ext w w' := by
  have HR := Lib.hid h
  obtain ⟨A, c, rfl, hc, hm⟩ := h.form
  clear h
  unfold maxLen at hm
  have HE : Hid (Ext w (w.alloc (.cells #[.slice A P.decls.length c, vf] 25))) := Ext.al _ _
  by_cases hr : 1 ≤ ty ∧ ty ≤ P.decls.length
  · obtain ⟨u, hu⟩ : ∃ u : Nat, ty = u + 1 := ⟨(ty - 1).toNat, by omega⟩
    subst hu
    have hul : u < P.decls.length := by omega
    have HI := Lib.hid (isDeclB_in (co := co) hul)
    clear hr
    obtain ⟨b, o, vx, rfl, hbl, h0, h1, h2, h3, h4⟩ := HR.out.at_ hul
    have h1 := HE.out.keep h1
    clear h0 h2 h3 h4
    generalize P.decls[u] = d at *
    go_enter Tryz.func150, Tryz.ntmps150
    go_wp2
    go_ret
    exact ⟨ret_bool (by rw [HI.out]), HE.out⟩
  · have HI := Lib.hid (isDeclB_out (co := co) hr)
    by_cases h1 : 1 ≤ ty
    all_goals
      have hn1 : ty < 1 ∨ (P.decls.length : Int) < ty := by omega
      clear hr
      go_enter Tryz.func150, Tryz.ntmps150
      go_wp2
      go_ret
      exact ⟨ret_bool HI.out.symm, HE.out⟩

def prodN (l : List Arg) : Nat := (l.filter fun a => !a.co).length
theorem prodN_le (l : List Arg) : prodN l ≤ l.length := List.length_filter_le _ _
theorem prodN_snoc (l : List Arg) (x : Arg) : prodN (l ++ [x]) = prodN l + if x.co then 0 else 1 := by
  cases h : x.co <;> simp [prodN, List.filter_append, h]
set_option maxHeartbeats 1000000 in
set_option maxRecDepth 100000 in
theorem producers_any (va : Value) (x : Xtor) (w : World) (h : RArgs w va x.args) :
    Calls Tryz.prog 167 #[.agg #[.string x.name, va]] w fun e w' => e = .returned (.int .i64 (prodI x)) ∧ Ext w w' := by
  have HP : Hid (prodI x = (prodN x.args : Int)) := rfl
  generalize x.args = l at *
  have HR := Lib.hid h
  obtain ⟨A, c, rfl, hc, hm⟩ := h.form
  clear h
  unfold maxLen at hm
  go_enter Tryz.func167, Tryz.ntmps167
  go_wp2
  have HE : Hid (Ext w (w.alloc (.cells #[.string x.name, .slice A l.length c] 140))) := Ext.al _ _
  generalize w.alloc _ = w1 at *
  go_loopw [3, 9] (fun s i wr => ∃ k : Nat, k ≤ l.length ∧ i = .int .i64 k ∧ s = .int .i64 (prodN (l.take k)) ∧ Ext w wr) (fun _ i _ => l.length - (intOf i).toNat)
  case atStart => exact ⟨0, Nat.zero_le _, rfl, rfl, HE.out⟩
  case round =>
    obtain ⟨k, hk, rfl, rfl, hb⟩ := hrel
    have HB := Lib.hid hb; clear hb
    have hpl := prodN_le (l.take k)
    have htl : (l.take k).length ≤ k := List.length_take_le _ _
    by_cases hlt : k < l.length
    · obtain ⟨b, o, rfl, hbl, h0, h1⟩ := HR.out.at_ hlt
      have h0 := HB.out.keep h0
      have h1 := HB.out.keep h1
      have HS : Hid (prodN (l.take (k + 1)) = prodN (l.take k) + if (l[k]).co then 0 else 1) := by rw [List.take_succ_eq_append_getElem hlt]; exact prodN_snoc _ _
      generalize l[k] = a at *
      have HE2 := Lib.hid (HB.out.tr (Ext.al wr (Obj.cells #[.int .i64 a.ty, .bool a.co] 165)))
      cases hco : a.co
      all_goals
        have HCO := Lib.hid hco
        rw [hco] at h1 HE2
        clear hco
        go_wp2
        go_roundw
        case rel => exact ⟨k + 1, by omega, by go_num, by rw [HS.out, HCO.out]; simp, HE2.out⟩
        case measure => simp [intOf]; omega
    · go_wp2
      go_ret
      exact ⟨ret_int (by rw [HP.out, List.take_of_length_le (by omega)]), HB.out⟩

theorem declAt_at {P : Pg} {ty : Int} (h : ty.toNat - 1 < P.decls.length) : declAt P ty = P.decls[ty.toNat - 1] := by
  unfold declAt
  have e : (ty - 1).toNat = ty.toNat - 1 := by omega
  rw [e, List.getD_eq_getElem?_getD, List.getElem?_eq_getElem h]; rfl
theorem fitsX_in {P : Pg} {t : Tm} (h : t.ty.toNat - 1 < P.decls.length) : fitsXB P t = (isIdxB t.n (P.decls[t.ty.toNat - 1]).xtors.length && hasF t true false true ((P.decls[t.ty.toNat - 1]).xtors.getD t.n.toNat noXtor).args.length 0) := by
  unfold fitsXB; rw [declAt_at h]
theorem isIdx_in {i : Int} {n : Nat} (h : isIdxB i n = true) : 0 ≤ i ∧ i < n ∧ i.toNat < n := by
  unfold isIdxB at h
  simp at h
  exact ⟨by omega, by omega, by omega⟩
theorem getD_at {α : Type} {l : List α} {j : Nat} (d : α) (h : j < l.length) : l.getD j d = l[j] := by
  rw [List.getD_eq_getElem?_getD, List.getElem?_eq_getElem h]; rfl
theorem box6 (w : World) (o1 : Obj) (op n ty : Int) (nm : Str) (va vc : Value) :
    ((w.alloc o1).alloc (.cells #[.int .i64 op, .int .i64 n, .string nm, .int .i64 ty, va, vc] 50)).cell? ⟨w.heap.size + 1, 0, none⟩ = some (.int .i64 op) ∧
    ((w.alloc o1).alloc (.cells #[.int .i64 op, .int .i64 n, .string nm, .int .i64 ty, va, vc] 50)).cell? ⟨w.heap.size + 1, 1, none⟩ = some (.int .i64 n) ∧
    ((w.alloc o1).alloc (.cells #[.int .i64 op, .int .i64 n, .string nm, .int .i64 ty, va, vc] 50)).cell? ⟨w.heap.size + 1, 2, none⟩ = some (.string nm) ∧
    ((w.alloc o1).alloc (.cells #[.int .i64 op, .int .i64 n, .string nm, .int .i64 ty, va, vc] 50)).cell? ⟨w.heap.size + 1, 3, none⟩ = some (.int .i64 ty) ∧
    ((w.alloc o1).alloc (.cells #[.int .i64 op, .int .i64 n, .string nm, .int .i64 ty, va, vc] 50)).cell? ⟨w.heap.size + 1, 4, none⟩ = some va ∧
    ((w.alloc o1).alloc (.cells #[.int .i64 op, .int .i64 n, .string nm, .int .i64 ty, va, vc] 50)).cell? ⟨w.heap.size + 1, 5, none⟩ = some vc := by
  have h : ∀ i, ((w.alloc o1).alloc (.cells #[.int .i64 op, .int .i64 n, .string nm, .int .i64 ty, va, vc] 50)).cell? ⟨w.heap.size + 1, i, none⟩ = (#[.int .i64 op, .int .i64 n, .string nm, .int .i64 ty, va, vc] : Array Value)[i]? := fun i => by
    rw [World.cell?_alloc_at _ _ _ _ (by simp)]
  exact ⟨h 0, h 1, h 2, h 3, h 4, h 5⟩

set_option maxHeartbeats 2000000 in
set_option maxRecDepth 100000 in
theorem fitsXtor_any (vd vf : Value) (P : Pg) (k : Nat) (t : Tm) (va vc : Value) (w : World) (h : RDecls w vd P.decls) (ht : RT w k t va vc) (hty : 1 ≤ t.ty ∧ t.ty ≤ P.decls.length) :
    Calls Tryz.prog 151 #[pV vd vf, tV t va vc] w fun e w' => e = .returned (.bool (fitsXB P t)) ∧ Ext w w' := by
  have HR := Lib.hid h
  obtain ⟨A, c, rfl, hc, hm⟩ := h.form
  clear h
  unfold maxLen at hm
  obtain ⟨hty1, hty2⟩ := hty
  have hul : t.ty.toNat - 1 < P.decls.length := by omega
  have HI := Lib.hid (fitsX_in hul)
  have HT := Lib.hid ht
  obtain ⟨_, ⟨Aa, ca, rfl, hca, hma⟩, ⟨Bb, cb, rfl, hcb, hmb⟩⟩ := ht.form
  clear ht
  obtain ⟨b, o, vx, rfl, hbl, h0, h1, h2, h3, h4⟩ := HR.out.at_ hul
  have HE : Hid (Ext w ((w.alloc (.cells #[.slice (some ⟨b, o, none⟩) P.decls.length c, vf] 25)).alloc (.cells #[.int .i64 t.op, .int .i64 t.n, .string t.nm, .int .i64 t.ty, .slice Aa t.args.length ca, .slice Bb t.cls.length cb] 50))) := (Ext.al _ _).tr (Ext.al _ _)
  clear h0 h1 h4
  obtain ⟨Ax, cx, rfl, hcx, hmx⟩ := h3.form
  have HX := Lib.hid (h3.below HE.out)
  have HT2 := Lib.hid (HT.out.below HE.out)
  clear h3 HT
  unfold maxLen at *
  generalize P.decls[t.ty.toNat - 1] = d at *
  obtain ⟨dn, co, xs⟩ := d
  dsimp only at *
  cases hq : isIdxB t.n xs.length
  · have HQ := Lib.hid hq
    rw [hq] at HI
    clear hq
    go_enter Tryz.func151, Tryz.ntmps151
    go_wp2
    have x1 := box6 w (.cells #[.slice (some ⟨b, o, none⟩) P.decls.length c, vf] 25) t.op t.n t.ty t.nm (.slice Aa t.args.length ca) (.slice Bb t.cls.length cb)
    generalize (w.alloc _).alloc _ = w1 at *
    have y1 := ExtOf.cell x1.2.1
    refine wp_region_ext (w0 := w1) (by kernel_rfl) (by kernel_rfl) (Ext.rf _) ?_
    repeat (first | go_big_quiet_step ((go_at_call 153; with_reducible exact Calls.ext_same (isIndex_is _ _ _ HQ.out _))) | quiet_step ((go_at_call 153; with_reducible exact Calls.ext_same (isIndex_is _ _ _ HQ.out _))))
    refine wpQuiet_nil ?_
    rintro _ ⟨⟨w2, hx⟩, rfl⟩
    go_wp2
    go_ret
    exact ⟨ret_bool (by rw [HI.out]; rfl), HE.out.tr hx⟩
  · obtain ⟨hj0, hj1, hjl⟩ := isIdx_in hq
    have HQ := Lib.hid hq
    rw [hq, getD_at _ hjl] at HI
    clear hq
    obtain ⟨bx, ox, vy, rfl, hbx, y0, y1, y2, y3⟩ := HX.out.at_ hjl
    obtain ⟨Ay, cy, rfl, hcy, hmy⟩ := y2.form
    clear y0 y2 y3
    unfold maxLen at hmy
    generalize xs[t.n.toNat] = x at *
    obtain ⟨xn, xa⟩ := x
    dsimp only at *
    go_enter Tryz.func151, Tryz.ntmps151
    go_wp2
    have x1 := box6 w (.cells #[.slice (some ⟨b, o, none⟩) P.decls.length c, vf] 25) t.op t.n t.ty t.nm (.slice Aa t.args.length ca) (.slice Bb t.cls.length cb)
    generalize (w.alloc _).alloc _ = w1 at *
    have y1 := ExtOf.cell y1
    have z0 := ExtOf.cell x1.1
    have z1 := ExtOf.cell x1.2.1
    have z2 := ExtOf.cell x1.2.2.1
    have z3 := ExtOf.cell x1.2.2.2.1
    have z4 := ExtOf.cell x1.2.2.2.2.1
    have z5 := ExtOf.cell x1.2.2.2.2.2
    have X1 := Lib.hid x1; clear x1
    refine wp_region_ext (w0 := w1) (by kernel_rfl) (by kernel_rfl) (Ext.rf _) ?_
    repeat (first | go_big_quiet_step ((first | (go_at_call 153; with_reducible exact Calls.ext_same (isIndex_is _ _ _ HQ.out _)) | (go_at_call 149; with_reducible exact Calls.ext_of (has_any k t _ _ true false true _ 0 _ (HT2.out.below (ExtOf.ext _)))))) | quiet_step ((first | (go_at_call 153; with_reducible exact Calls.ext_same (isIndex_is _ _ _ HQ.out _)) | (go_at_call 149; with_reducible exact Calls.ext_of (has_any k t _ _ true false true _ 0 _ (HT2.out.below (ExtOf.ext _)))))))
    refine wpQuiet_nil ?_
    rintro _ ⟨⟨w2, hx⟩, rfl⟩
    go_wp2
    go_ret
    exact ⟨ret_bool (by rw [HI.out]; rfl), HE.out.tr hx⟩
end Go.Proofs.YtkdglplfcpindaaGreatDoor
