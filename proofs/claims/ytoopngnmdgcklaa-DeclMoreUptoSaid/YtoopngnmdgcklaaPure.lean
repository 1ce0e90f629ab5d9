/- Plain functions of the declarations' layer: no program is named here. -/
import Derived.Below
import Derived.Laws.Strings
namespace Go.Proofs.Ytoopngnmdgcklaa
open Go.RowKit

/-! ### names -/
def lowB (b : Int) : Bool := decide (97 ≤ b ∧ b ≤ 122)
def digB (b : Int) : Bool := decide (48 ≤ b ∧ b ≤ 57)
def lodB (b : Int) : Bool := lowB b || digB b
def upB (b : Int) : Bool := decide (65 ≤ b ∧ b ≤ 90)
/-- All bytes from place k on are lowercase letters or digits. -/
def tailB (s : ByteArray) (k : Nat) : Bool := (s.data.toList.drop k).all fun c => lodB (c.toNat : Int)
def headI (s : ByteArray) : Int := match s.data.toList with | [] => 0 | c :: _ => (c.toNat : Int)
def isEmptyB (s : ByteArray) : Bool := s.toList.isEmpty
def fitsB (s : ByteArray) : Bool := decide (s.size ≤ 10) && tailB s 1
def words : List (List UInt8) := [[100, 97, 116, 97], [99, 111, 100, 97, 116, 97], [102, 117, 110], [105, 110, 116], [105, 102, 122], [99, 97, 115, 101], [99, 111, 99, 97, 115, 101], [108, 101, 116], [101, 109, 105, 116], [108, 97, 98, 101, 108], [103, 111, 116, 111]]
def resB (s : ByteArray) : Bool := words.any fun x => s.toList == x
def nameB (s : ByteArray) : Bool := !isEmptyB s && lowB (headI s) && fitsB s && !resB s
def xtorB (s : ByteArray) : Bool := !isEmptyB s && upB (headI s) && fitsB s

theorem tailB_end {s : ByteArray} {k : Nat} (h : ¬ k < s.size) : tailB s k = true := by
  unfold tailB
  rw [List.drop_eq_nil_of_le (by have : s.data.toList.length = s.size := by simp; 
                                 omega)]
  rfl
theorem tailB_step {s : ByteArray} {k : Nat} (h : k < s.size) : tailB s k = (lodB (s[k].toNat : Int) && tailB s (k + 1)) := by
  unfold tailB
  rw [List.drop_eq_getElem_cons (by simpa using h)]
  rfl
theorem lodB_eq (b : Int) : lodB b = (lowB b || digB b) := rfl
theorem size_toList (s : ByteArray) : s.data.toList.length = s.size := by simp
theorem headI_eq {s : ByteArray} (h : 0 < s.size) : headI s = (s[0].toNat : Int) := by
  unfold headI
  have e : s.data.toList = s[0] :: s.data.toList.drop 1 := by
    have h2 := List.drop_eq_getElem_cons (l := s.data.toList) (i := 0) (by simpa using h)
    rw [List.drop_zero] at h2
    exact h2
  rw [e]
theorem isEmptyB_eq (s : ByteArray) : isEmptyB s = decide (s.size = 0) := by
  unfold isEmptyB
  rw [ByteArray.toList_eq, ← size_toList]
  cases s.data.toList <;> simp

theorem sizeB_zero {s : ByteArray} (h : ¬ 0 < s.size) : s.toList = [] := by
  rw [ByteArray.toList_eq]
  apply List.eq_nil_of_length_eq_zero
  rw [size_toList]; omega
theorem sizeB_pos {s : ByteArray} (h : 0 < s.size) : ¬ s.toList = [] := by
  rw [ByteArray.toList_eq]
  intro e
  have := size_toList s
  rw [e] at this
  simp at this
  omega

/-! ### declarations -/
structure Arg where
  ty : Int
  co : Bool
structure Xtor where
  name : ByteArray
  args : List Arg
structure Decl where
  name : ByteArray
  codata : Bool
  xtors : List Xtor
def hasCo (l : List Arg) : Bool := l.any Arg.co
def lastCo (l : List Arg) : Bool := (l.getLast?.map Arg.co).getD false
def endsB (l : List Arg) : Bool := lastCo l && !hasCo (l.take (l.length - 1))
def nCo (l : List Arg) : Nat := (l.filter Arg.co).length
def srcX (co : Bool) (x : Xtor) : Bool := if co then endsB x.args else !hasCo x.args
def srcD (d : Decl) : Bool := d.xtors.all (srcX d.codata)
def srcB (l : List Decl) : Bool := l.all srcD

theorem lastCo_eq {l : List Arg} (h : 0 < l.length) : lastCo l = (l[l.length - 1]).co := by
  unfold lastCo
  rw [List.getLast?_eq_getElem?, List.getElem?_eq_getElem (by omega)]
  rfl
theorem lastCo_nil {l : List Arg} (h : ¬ 0 < l.length) : lastCo l = false := by
  have : l = [] := List.eq_nil_of_length_eq_zero (by omega)
  subst this
  rfl
theorem hasCo_iff (l : List Arg) : hasCo l = decide (0 < nCo l) := by
  unfold hasCo nCo
  induction l with
  | nil => rfl
  | cons a l ih =>
    cases h : a.co <;> simp [h]
    simpa using ih
theorem nCo_append (l m : List Arg) : nCo (l ++ m) = nCo l + nCo m := by simp [nCo]
theorem endsB_eq (l : List Arg) : endsB l = (decide (nCo l = 1) && lastCo l) := by
  unfold endsB
  by_cases h : 0 < l.length
  · have e : l = l.take (l.length - 1) ++ [l[l.length - 1]] := by
      have h1 := List.take_append_drop (l.length - 1) l
      rw [List.drop_eq_getElem_cons (by omega), List.drop_eq_nil_of_le (by omega)] at h1
      exact h1.symm
    have hn : nCo l = nCo (l.take (l.length - 1)) + nCo [l[l.length - 1]] := by
      conv => lhs; rw [e]
      exact nCo_append _ _
    rw [hn, lastCo_eq h, hasCo_iff]
    cases hc : (l[l.length - 1]).co
    · simp
    · have : nCo [l[l.length - 1]] = 1 := by simp [nCo, hc]
      rw [this]
      rw [Bool.eq_iff_iff]
      simp
  · rw [lastCo_nil h]
    simp

/-! ### validity -/
/-- The name is in the list. -/
def hasS (S : List ByteArray) (k : ByteArray) : Bool := S.any fun s => k.toList == s.toList
def okTy (t : Int) (a : Arg) : Bool := decide (0 ≤ a.ty ∧ a.ty ≤ t)
def okX (t : Int) (S : List ByteArray) (x : Xtor) : Bool := xtorB x.name && !hasS S x.name && decide (x.args.length ≤ 6) && x.args.all (okTy t)
def okXs (t : Int) : List ByteArray → List Xtor → Bool
  | _, [] => true
  | S, x :: r => okX t S x && okXs t (S ++ [x.name]) r
def okD (t : Int) (S : List ByteArray) (d : Decl) : Bool := nameB d.name && !hasS S d.name && decide (1 ≤ d.xtors.length) && decide (d.xtors.length ≤ 6) && okXs t (S ++ [d.name]) d.xtors
def addXs (S : List ByteArray) (l : List Xtor) : List ByteArray := S ++ l.map Xtor.name
def addD (S : List ByteArray) (d : Decl) : List ByteArray := addXs (S ++ [d.name]) d.xtors
def okDs (t : Int) : List ByteArray → List Decl → Bool
  | _, [] => true
  | S, d :: r => okD t S d && okDs t (addD S d) r
def validB (l : List Decl) : Bool := decide (l.length ≤ 8) && okDs l.length [] l
end Go.Proofs.Ytoopngnmdgcklaa
