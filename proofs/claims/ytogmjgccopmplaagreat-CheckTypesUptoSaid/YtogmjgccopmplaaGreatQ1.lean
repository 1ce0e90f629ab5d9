/-
  DERIVED: THE SHELF's CONTRACTS AT THIS DUMP, IN PLAIN WORDS (tools/lay-plain.mjs out of 'YtogmjgccopmplaaGreatLay.lean', which tools/lay-shelf.mjs wrote): THE SAME DECLARATIONS UNDER THE SAME NAMES: 'import', 'namespace', 'open', 'def', 'theorem' AND NOTHING ELSE: no command of the shelf's: FOR A HAND-IN. Each laying: the table of numbers ('.._ren') and one theorem, a field a fact of the dump's own or the kernel's comparison; each contract: ONE APPLICATION.
-/
import Derived.Shelf.SlIter.Nil
import Derived.Shelf.SortM.Plain
import Derived.Shelf.SortM.SortNone
import Derived.Shelf.SlMaps.Copy
import Derived.Test.YtogmjgccopmplaaGreatProg
import Derived.Below
import Derived.Laws.Strings
import Derived.Test.YtogmjgccopmplaaGreatRows
import Derived.WalkKit
import Derived.Lib.Hide
namespace Go.Proofs
open Go.Shelf
def Tryz.keys82_ren : Go.Shelf.Ren := ⟨fun | 7 => 114 | 10 => 141 | n => n, fun | 23 => 123 | 26 => 9 | 3 => 4 | 28 => 175 | 0 => 0 | 27 => 174 | 33 => 113 | 4 => 4 | n => n, fun | n => n⟩
theorem Tryz.keys82 : Go.Proofs.SlLaysZ.n7 Tryz.prog Tryz.keys82_ren := {
  mixed := by kernel_rfl
  f7 := ⟨Tryz.f114.name, by decide, Tryz.func114.trans (congrArg some (by kernel_rfl))⟩
  f10 := ⟨Tryz.f141.name, by decide, Tryz.func141.trans (congrArg some (by kernel_rfl))⟩
  t0 := Tryz.underlying0
  a0 := Tryz.isAgg0
  z0 := Tryz.sizeOf0
  v0 := Tryz.zeroValue0
  t4 := Tryz.underlying4
  a4 := Tryz.isAgg4
  z4 := Tryz.sizeOf4
  v4 := Tryz.zeroValue4
  t23 := Tryz.underlying123
  a23 := Tryz.isAgg123
  z23 := Tryz.sizeOf123
  v23 := Tryz.zeroValue123
  t26 := Tryz.underlying9
  a26 := Tryz.isAgg9
  z26 := Tryz.sizeOf9
  v26 := Tryz.zeroValue9
  t27 := Tryz.underlying174
  a27 := Tryz.isAgg174
  z27 := Tryz.sizeOf174
  v27 := Tryz.zeroValue174
  t28 := Tryz.underlying175
  a28 := Tryz.isAgg175
  z28 := Tryz.sizeOf175
  v28 := Tryz.zeroValue175
  t33 := Tryz.underlying113
  a33 := Tryz.isAgg113
  z33 := Tryz.sizeOf113
  v33 := Tryz.zeroValue113 }
def Tryz.sorted81_ren : Go.Shelf.Ren := ⟨fun | 6 => 113 | 8 => 139 | 9 => 140 | 11 => 149 | 13 => 151 | 12 => 150 | 23 => 164 | 24 => 165 | 14 => 155 | 15 => 156 | 16 => 157 | 17 => 158 | 18 => 159 | 19 => 160 | 20 => 161 | 21 => 162 | 22 => 163 | 25 => 167 | 26 => 168 | 27 => 169 | 28 => 170 | 29 => 171 | 30 => 172 | 31 => 173 | n => n, fun | 26 => 9 | 28 => 175 | 24 => 48 | 0 => 0 | 3 => 3 | 37 => 200 | 48 => 211 | 50 => 213 | 4 => 4 | 40 => 204 | 39 => 203 | 45 => 50 | 5 => 5 | 9 => 9 | 51 => 214 | 55 => 218 | 57 => 220 | 58 => 221 | 33 => 113 | n => n, fun | n => n⟩
theorem Tryz.sorted81 : Go.Proofs.SlLaysZ.n6 Tryz.prog Tryz.sorted81_ren := {
  mixed := by kernel_rfl
  f6 := ⟨Tryz.f113.name, by decide, Tryz.func113.trans (congrArg some (by kernel_rfl))⟩
  f8 := ⟨Tryz.f139.name, by decide, Tryz.func139.trans (congrArg some (by kernel_rfl))⟩
  f11 := ⟨Tryz.f149.name, by decide, Tryz.func149.trans (congrArg some (by kernel_rfl))⟩
  t0 := Tryz.underlying0
  a0 := Tryz.isAgg0
  z0 := Tryz.sizeOf0
  v0 := Tryz.zeroValue0
  t24 := Tryz.underlying48
  a24 := Tryz.isAgg48
  z24 := Tryz.sizeOf48
  v24 := Tryz.zeroValue48
  t26 := Tryz.underlying9
  a26 := Tryz.isAgg9
  z26 := Tryz.sizeOf9
  v26 := Tryz.zeroValue9
  t28 := Tryz.underlying175
  a28 := Tryz.isAgg175
  z28 := Tryz.sizeOf175
  v28 := Tryz.zeroValue175
  i26 := by kernel_rfl }
def Tryz.sort109_ren : Go.Shelf.Ren := ⟨fun | 6 => 140 | 8 => 151 | 9 => 150 | 19 => 164 | 20 => 165 | 21 => 155 | 22 => 156 | 23 => 157 | 24 => 158 | 25 => 159 | 26 => 160 | 27 => 161 | 28 => 162 | 29 => 163 | 36 => 167 | 31 => 168 | 32 => 169 | 37 => 170 | 38 => 171 | 39 => 172 | 41 => 173 | n => n, fun | 27 => 48 | 29 => 9 | 3 => 3 | 32 => 200 | 26 => 48 | 0 => 0 | 44 => 211 | 46 => 213 | 4 => 4 | 36 => 204 | 35 => 203 | 41 => 50 | 5 => 5 | 9 => 9 | 53 => 214 | 57 => 218 | 63 => 220 | 64 => 221 | n => n, fun | n => n⟩
theorem Tryz.sort109 : Go.Proofs.SlLaysM.n6 Tryz.prog Tryz.sort109_ren := {
  mixed := by kernel_rfl
  f6 := ⟨Tryz.f140.name, by decide, Tryz.func140.trans (congrArg some (by kernel_rfl))⟩
  f8 := Tryz.func151.trans (congrArg some (by kernel_rfl))
  f9 := ⟨Tryz.f150.name, by decide, Tryz.func150.trans (congrArg some (by kernel_rfl))⟩
  f19 := Tryz.func164.trans (congrArg some (by kernel_rfl))
  f20 := Tryz.func165.trans (congrArg some (by kernel_rfl))
  f21 := ⟨Tryz.f155.name, by decide, Tryz.func155.trans (congrArg some (by kernel_rfl))⟩
  f22 := ⟨Tryz.f156.name, by decide, Tryz.func156.trans (congrArg some (by kernel_rfl))⟩
  f23 := ⟨Tryz.f157.name, by decide, Tryz.func157.trans (congrArg some (by kernel_rfl))⟩
  f24 := ⟨Tryz.f158.name, by decide, Tryz.func158.trans (congrArg some (by kernel_rfl))⟩
  f25 := ⟨Tryz.f159.name, by decide, Tryz.func159.trans (congrArg some (by kernel_rfl))⟩
  f26 := ⟨Tryz.f160.name, by decide, Tryz.func160.trans (congrArg some (by kernel_rfl))⟩
  f27 := ⟨Tryz.f161.name, by decide, Tryz.func161.trans (congrArg some (by kernel_rfl))⟩
  f28 := ⟨Tryz.f162.name, by decide, Tryz.func162.trans (congrArg some (by kernel_rfl))⟩
  f29 := ⟨Tryz.f163.name, by decide, Tryz.func163.trans (congrArg some (by kernel_rfl))⟩
  f31 := Tryz.func168.trans (congrArg some (by kernel_rfl))
  f32 := Tryz.func169.trans (congrArg some (by kernel_rfl))
  f36 := ⟨Tryz.f167.name, by decide, Tryz.func167.trans (congrArg some (by kernel_rfl))⟩
  f37 := ⟨Tryz.f170.name, by decide, Tryz.func170.trans (congrArg some (by kernel_rfl))⟩
  f38 := ⟨Tryz.f171.name, by decide, Tryz.func171.trans (congrArg some (by kernel_rfl))⟩
  f39 := ⟨Tryz.f172.name, by decide, Tryz.func172.trans (congrArg some (by kernel_rfl))⟩
  f41 := ⟨Tryz.f173.name, by decide, Tryz.func173.trans (congrArg some (by kernel_rfl))⟩
  t0 := Tryz.underlying0
  a0 := Tryz.isAgg0
  z0 := Tryz.sizeOf0
  v0 := Tryz.zeroValue0
  t3 := Tryz.underlying3
  a3 := Tryz.isAgg3
  z3 := Tryz.sizeOf3
  v3 := Tryz.zeroValue3
  t4 := Tryz.underlying4
  a4 := Tryz.isAgg4
  z4 := Tryz.sizeOf4
  v4 := Tryz.zeroValue4
  t5 := Tryz.underlying5
  a5 := Tryz.isAgg5
  z5 := Tryz.sizeOf5
  v5 := Tryz.zeroValue5
  t9 := Tryz.underlying9
  a9 := Tryz.isAgg9
  z9 := Tryz.sizeOf9
  v9 := Tryz.zeroValue9
  t26 := Tryz.underlying48
  a26 := Tryz.isAgg48
  z26 := Tryz.sizeOf48
  v26 := Tryz.zeroValue48
  t27 := Tryz.underlying48
  a27 := Tryz.isAgg48
  z27 := Tryz.sizeOf48
  v27 := Tryz.zeroValue48
  t29 := Tryz.underlying9
  a29 := Tryz.isAgg9
  z29 := Tryz.sizeOf9
  v29 := Tryz.zeroValue9
  t32 := Tryz.underlying200
  a32 := Tryz.isAgg200
  z32 := Tryz.sizeOf200
  v32 := Tryz.zeroValue200
  t35 := Tryz.underlying203
  a35 := Tryz.isAgg203
  z35 := Tryz.sizeOf203
  v35 := Tryz.zeroValue203
  t36 := Tryz.underlying204
  a36 := Tryz.isAgg204
  z36 := Tryz.sizeOf204
  v36 := Tryz.zeroValue204
  t41 := Tryz.underlying50
  a41 := Tryz.isAgg50
  z41 := Tryz.sizeOf50
  v41 := Tryz.zeroValue50
  t44 := Tryz.underlying211
  a44 := Tryz.isAgg211
  z44 := Tryz.sizeOf211
  v44 := Tryz.zeroValue211
  t46 := Tryz.underlying213
  a46 := Tryz.isAgg213
  z46 := Tryz.sizeOf213
  v46 := Tryz.zeroValue213
  t53 := Tryz.underlying214
  a53 := Tryz.isAgg214
  z53 := Tryz.sizeOf214
  v53 := Tryz.zeroValue214
  t57 := Tryz.underlying218
  a57 := Tryz.isAgg218
  z57 := Tryz.sizeOf218
  v57 := Tryz.zeroValue218
  t63 := Tryz.underlying220
  a63 := Tryz.isAgg220
  z63 := Tryz.sizeOf220
  v63 := Tryz.zeroValue220
  t64 := Tryz.underlying221
  a64 := Tryz.isAgg221
  z64 := Tryz.sizeOf221
  v64 := Tryz.zeroValue221 }
def Tryz.copy122_ren : Go.Shelf.Ren := ⟨fun | 5 => 148 | n => n, fun | 23 => 124 | 24 => 124 | 26 => 9 | 27 => 4 | 0 => 0 | 4 => 4 | n => n, fun | n => n⟩
theorem Tryz.copy122 : Go.Proofs.SlLaysX.n5 Tryz.prog Tryz.copy122_ren := {
  mixed := by kernel_rfl
  f5 := ⟨Tryz.f148.name, by decide, Tryz.func148.trans (congrArg some (by kernel_rfl))⟩
  t0 := Tryz.underlying0
  a0 := Tryz.isAgg0
  z0 := Tryz.sizeOf0
  v0 := Tryz.zeroValue0
  t4 := Tryz.underlying4
  a4 := Tryz.isAgg4
  z4 := Tryz.sizeOf4
  v4 := Tryz.zeroValue4
  t23 := Tryz.underlying124
  a23 := Tryz.isAgg124
  z23 := Tryz.sizeOf124
  v23 := Tryz.zeroValue124
  t24 := Tryz.underlying124
  a24 := Tryz.isAgg124
  z24 := Tryz.sizeOf124
  v24 := Tryz.zeroValue124
  a26 := Tryz.isAgg9
  z26 := Tryz.sizeOf9
  a27 := Tryz.isAgg4
  z27 := Tryz.sizeOf4 }
end Go.Proofs

/- Plain functions of the declarations' layer: no program is named here. -/
namespace Go.Proofs.YtogmjgccopmplaaGreat
open Go.RowKit
def lowB (b : Int) : Bool := decide (97 ≤ b ∧ b ≤ 122)
def digB (b : Int) : Bool := decide (48 ≤ b ∧ b ≤ 57)
def lodB (b : Int) : Bool := lowB b || digB b
def upB (b : Int) : Bool := decide (65 ≤ b ∧ b ≤ 90)
/-- All bytes from place k on are lowercase letters or digits. -/
def tailB (s : ByteArray) (k : Nat) : Bool := (s.data.toList.drop k).all fun c => lodB (c.toNat : Int)
def headI (s : ByteArray) : Int := match s.data.toList with | [] => 0 | c :: _ => (c.toNat : Int)
def isEmptyB (s : ByteArray) : Bool := s.toList.isEmpty
def fitsB (s : ByteArray) : Bool := decide (s.size ≤ 10) && tailB s 1
def words : List (List UInt8) := [[100, 97, 116, 97], [99, 111, 100, 97, 116, 97], [102, 117, 110], [105, 110, 116], [105, 102, 122], [99, 97, 115, 101], [99, 111, 99, 97, 115, 101], [108, 101, 116], [101, 109, 105, 116], [108, 97, 98, 101, 108], [103, 111, 116, 111]]
def resB (s : ByteArray) : Bool := words.any fun x => s.toList == x
def nameB (s : ByteArray) : Bool := !isEmptyB s && lowB (headI s) && fitsB s && !resB s
def xtorB (s : ByteArray) : Bool := !isEmptyB s && upB (headI s) && fitsB s
theorem tailB_end {s : ByteArray} {k : Nat} (h : ¬ k < s.size) : tailB s k = true := by
  unfold tailB
  rw [List.drop_eq_nil_of_le (by have : s.data.toList.length = s.size := by simp; 
                                 omega)]
  rfl
theorem tailB_step {s : ByteArray} {k : Nat} (h : k < s.size) : tailB s k = (lodB (s[k].toNat : Int) && tailB s (k + 1)) := by
  unfold tailB
  rw [List.drop_eq_getElem_cons (by simpa using h)]
  rfl
theorem lodB_eq (b : Int) : lodB b = (lowB b || digB b) := rfl
theorem size_toList (s : ByteArray) : s.data.toList.length = s.size := by simp
theorem headI_eq {s : ByteArray} (h : 0 < s.size) : headI s = (s[0].toNat : Int) := by
  unfold headI
  have e : s.data.toList = s[0] :: s.data.toList.drop 1 := by
    have h2 := List.drop_eq_getElem_cons (l := s.data.toList) (i := 0) (by simpa using h)
    rw [List.drop_zero] at h2
    exact h2
  rw [e]
theorem sizeB_zero {s : ByteArray} (h : ¬ 0 < s.size) : s.toList = [] := by
  rw [ByteArray.toList_eq]
  apply List.eq_nil_of_length_eq_zero
  rw [size_toList]; omega
theorem sizeB_pos {s : ByteArray} (h : 0 < s.size) : ¬ s.toList = [] := by
  rw [ByteArray.toList_eq]
  intro e
  have := size_toList s
  rw [e] at this
  simp at this
  omega
structure Arg where
  ty : Int
  co : Bool
structure Xtor where
  name : ByteArray
  args : List Arg
structure Decl where
  name : ByteArray
  codata : Bool
  xtors : List Xtor
def hasCo (l : List Arg) : Bool := l.any Arg.co
def lastCo (l : List Arg) : Bool := (l.getLast?.map Arg.co).getD false
def endsB (l : List Arg) : Bool := lastCo l && !hasCo (l.take (l.length - 1))
def nCo (l : List Arg) : Nat := (l.filter Arg.co).length
def srcX (co : Bool) (x : Xtor) : Bool := if co then endsB x.args else !hasCo x.args
def srcD (d : Decl) : Bool := d.xtors.all (srcX d.codata)
def srcB (l : List Decl) : Bool := l.all srcD
theorem lastCo_eq {l : List Arg} (h : 0 < l.length) : lastCo l = (l[l.length - 1]).co := by
  unfold lastCo
  rw [List.getLast?_eq_getElem?, List.getElem?_eq_getElem (by omega)]
  rfl
theorem lastCo_nil {l : List Arg} (h : ¬ 0 < l.length) : lastCo l = false := by
  have : l = [] := List.eq_nil_of_length_eq_zero (by omega)
  subst this
  rfl
theorem hasCo_iff (l : List Arg) : hasCo l = decide (0 < nCo l) := by
  unfold hasCo nCo
  induction l with
  | nil => rfl
  | cons a l ih =>
    cases h : a.co <;> simp [h]
    simpa using ih
theorem nCo_append (l m : List Arg) : nCo (l ++ m) = nCo l + nCo m := by simp [nCo]
theorem endsB_eq (l : List Arg) : endsB l = (decide (nCo l = 1) && lastCo l) := by
  unfold endsB
  by_cases h : 0 < l.length
  · have e : l = l.take (l.length - 1) ++ [l[l.length - 1]] := by
      have h1 := List.take_append_drop (l.length - 1) l
      rw [List.drop_eq_getElem_cons (by omega), List.drop_eq_nil_of_le (by omega)] at h1
      exact h1.symm
    have hn : nCo l = nCo (l.take (l.length - 1)) + nCo [l[l.length - 1]] := by
      conv => lhs; rw [e]
      exact nCo_append _ _
    rw [hn, lastCo_eq h, hasCo_iff]
    cases hc : (l[l.length - 1]).co
    · simp
    · have : nCo [l[l.length - 1]] = 1 := by simp [nCo, hc]
      rw [this]
      rw [Bool.eq_iff_iff]
      simp
  · rw [lastCo_nil h]
    simp
/-- The name is in the list. -/
def hasS (S : List ByteArray) (k : ByteArray) : Bool := S.any fun s => k.toList == s.toList
def okTy (t : Int) (a : Arg) : Bool := decide (0 ≤ a.ty ∧ a.ty ≤ t)
def okX (t : Int) (S : List ByteArray) (x : Xtor) : Bool := xtorB x.name && !hasS S x.name && decide (x.args.length ≤ 6) && x.args.all (okTy t)
def okXs (t : Int) : List ByteArray → List Xtor → Bool
  | _, [] => true
  | S, x :: r => okX t S x && okXs t (S ++ [x.name]) r
def okD (t : Int) (S : List ByteArray) (d : Decl) : Bool := nameB d.name && !hasS S d.name && decide (1 ≤ d.xtors.length) && decide (d.xtors.length ≤ 6) && okXs t (S ++ [d.name]) d.xtors
def addXs (S : List ByteArray) (l : List Xtor) : List ByteArray := S ++ l.map Xtor.name
def addD (S : List ByteArray) (d : Decl) : List ByteArray := addXs (S ++ [d.name]) d.xtors
def okDs (t : Int) : List ByteArray → List Decl → Bool
  | _, [] => true
  | S, d :: r => okD t S d && okDs t (addD S d) r
def validB (l : List Decl) : Bool := decide (l.length ≤ 8) && okDs l.length [] l
end Go.Proofs.YtogmjgccopmplaaGreat

namespace Go.Proofs.YtogmjgccopmplaaGreat
open Go.RowKit
theorem ret_bool {a b : Bool} (h : a = b) : Ending.returned (.bool a) = .returned (.bool b) := by rw [h]
theorem isLower_any (b : Int) (w : World) : Calls Tryz.prog 144 #[.int .u8 b] w fun e w' => e = .returned (.bool (lowB b)) ∧ w = w' := by
  unfold lowB
  go_enter Tryz.func144, Tryz.ntmps144
  by_cases h : 97 ≤ b
  all_goals
    go_wp2
    go_ret
    exact ⟨ret_bool (by apply Bool.eq_iff_iff.2; simp <;> omega), rfl⟩
theorem isDigit_any (b : Int) (w : World) : Calls Tryz.prog 154 #[.int .u8 b] w fun e w' => e = .returned (.bool (digB b)) ∧ w = w' := by
  unfold digB
  go_enter Tryz.func154, Tryz.ntmps154
  by_cases h : 48 ≤ b
  all_goals
    go_wp2
    go_ret
    exact ⟨ret_bool (by apply Bool.eq_iff_iff.2; simp <;> omega), rfl⟩
theorem Lower_any (b : Int) (w : World) : Calls Tryz.prog 126 #[.int .u8 b] w fun e w' => e = .returned (.bool (lodB b)) ∧ w = w' := by
  unfold lodB lowB digB
  go_enter Tryz.func126, Tryz.ntmps126
  by_cases h : 97 ≤ b <;> by_cases h2 : b ≤ 122 <;> by_cases h3 : 48 ≤ b
  all_goals
    go_wp2
    go_ret
    exact ⟨ret_bool (by apply Bool.eq_iff_iff.2; simp <;> omega), rfl⟩
theorem fits_any (s : ByteArray) (w : World) (hs : s.size ≤ maxLen) : Calls Tryz.prog 145 #[.string s] w fun e w' => e = .returned (.bool (fitsB s)) ∧ w = w' := by
  unfold maxLen at hs
  unfold fitsB
  go_enter Tryz.func145, Tryz.ntmps145
  by_cases h : s.size ≤ 10
  · have H := Lib.hid h
    go_wp2
    go_loop [3] (fun i => ∃ k : Nat, 1 ≤ k ∧ i = .int .i64 k ∧ tailB s 1 = tailB s k) (fun i => s.size - (intOf i).toNat)
    case atStart => exact ⟨1, by omega, rfl, rfl⟩
    case round =>
      obtain ⟨k, hk, rfl, ht⟩ := hrel
      have HT := Lib.hid ht; clear ht
      by_cases hlt : k < s.size
      · have HS := Lib.hid (tailB_step hlt)
        go_wp2_with (first | (go_at_call 144; (with_reducible refine (isLower_any _ _).mono ?_); rintro e w' ⟨rfl, rfl⟩) | (go_at_call 154; (with_reducible refine (isDigit_any _ _).mono ?_); rintro e w' ⟨rfl, rfl⟩))
        · have q : lowB (s[k].toNat : Int) = true := by assumption
          go_round
          case rel => exact ⟨k + 1, by omega, by go_num, by rw [HT.out, HS.out, lodB_eq, q]; simp⟩
          case measure => simp [intOf]; omega
        · have q : (!digB (s[k].toNat : Int)) = true := by assumption
          have q2 : ¬ lowB (s[k].toNat : Int) = true := by assumption
          go_ret
          exact ⟨ret_bool (by rw [HT.out, HS.out, lodB_eq]; simp at q q2; simp [q, q2]), rfl⟩
        · have q : (!digB (s[k].toNat : Int)) = false := by assumption
          go_round
          case rel => exact ⟨k + 1, by omega, by go_num, by rw [HT.out, HS.out, lodB_eq]; simp at q; simp [q]⟩
          case measure => simp [intOf]; omega
      · go_wp2
        go_ret
        exact ⟨ret_bool (by rw [HT.out, tailB_end hlt]), rfl⟩
  · go_wp2
    go_ret
    exact ⟨ret_bool (by simp [h]), rfl⟩
theorem rest_any (s : ByteArray) (w : World) (hs : s.size ≤ maxLen) : Calls Tryz.prog 98 #[.string s] w fun e w' => e = .returned (.bool (tailB s 1)) ∧ w = w' := by
  unfold maxLen at hs
  go_enter Tryz.func98, Tryz.ntmps98
  go_wp2
  go_loop [3] (fun i => ∃ k : Nat, 1 ≤ k ∧ i = .int .i64 k ∧ tailB s 1 = tailB s k) (fun i => s.size - (intOf i).toNat)
  case atStart => exact ⟨1, by omega, rfl, rfl⟩
  case round =>
    obtain ⟨k, hk, rfl, ht⟩ := hrel
    have HT := Lib.hid ht; clear ht
    by_cases hlt : k < s.size
    · have HS := Lib.hid (tailB_step hlt)
      go_wp2_with (go_at_call 126; (with_reducible refine (Lower_any _ _).mono ?_); rintro e w' ⟨rfl, rfl⟩)
      · have q : (!lodB (s[k].toNat : Int)) = true := by assumption
        go_ret
        exact ⟨ret_bool (by rw [HT.out, HS.out]; simp at q; simp [q]), rfl⟩
      · have q : (!lodB (s[k].toNat : Int)) = false := by assumption
        go_round
        case rel => exact ⟨k + 1, by omega, by go_num, by rw [HT.out, HS.out]; simp at q; simp [q]⟩
        case measure => simp [intOf]; omega
    · go_wp2
      go_ret
      exact ⟨ret_bool (by rw [HT.out, tailB_end hlt]), rfl⟩
theorem reserved_any (s : ByteArray) (w : World) : Calls Tryz.prog 146 #[.string s] w fun e w' => e = .returned (.bool (resB s)) ∧ w = w' := by
  go_enter Tryz.func146, Tryz.ntmps146
  go_wp2
  all_goals first
    | (exfalso; simp_all; done)
    | (go_ret; exact ⟨ret_bool (by simp [resB, words, *]), rfl⟩)
theorem Plain_any (s : ByteArray) (w : World) (hs : s.size ≤ maxLen) : Calls Tryz.prog 120 #[.string s] w fun e w' => e = .returned (.bool (nameB s)) ∧ w = w' := by
  have HN : Hid (nameB s = (!isEmptyB s && lowB (headI s) && fitsB s && !resB s)) := rfl
  by_cases h0 : 0 < s.size
  · have HH := Lib.hid (headI_eq h0)
    have he : s.toList.isEmpty = false := by simp [sizeB_pos h0]
    have hne := sizeB_pos h0
    have HE := Lib.hid he
    go_enter Tryz.func120, Tryz.ntmps120
    go_wp2_with (first | (go_at_call 144; (with_reducible refine (isLower_any _ _).mono ?_); rintro e w' ⟨rfl, rfl⟩) | (go_at_call 145; (with_reducible refine (fits_any _ _ hs).mono ?_); rintro e w' ⟨rfl, rfl⟩) | (go_at_call 146; (with_reducible refine (reserved_any _ _).mono ?_); rintro e w' ⟨rfl, rfl⟩))
    all_goals
      go_ret
      exact ⟨ret_bool (by rw [HN.out, HH.out]; simp [isEmptyB, *]), rfl⟩
  · have he := sizeB_zero h0
    go_enter Tryz.func120, Tryz.ntmps120
    go_wp2
    go_ret
    exact ⟨ret_bool (by rw [HN.out]; simp [isEmptyB, *]), rfl⟩
theorem Xtor_any (s : ByteArray) (w : World) (hs : s.size ≤ maxLen) : Calls Tryz.prog 166 #[.string s] w fun e w' => e = .returned (.bool (xtorB s)) ∧ w = w' := by
  have HN : Hid (xtorB s = (!isEmptyB s && upB (headI s) && fitsB s)) := rfl
  have HU : Hid (∀ b, upB b = decide (65 ≤ b ∧ b ≤ 90)) := fun _ => rfl
  by_cases h0 : 0 < s.size
  · have HH := Lib.hid (headI_eq h0)
    have he : s.toList.isEmpty = false := by simp [sizeB_pos h0]
    have hne := sizeB_pos h0
    go_enter Tryz.func166, Tryz.ntmps166
    go_wp2_with (go_at_call 145; (with_reducible refine (fits_any _ _ hs).mono ?_); rintro e w' ⟨rfl, rfl⟩)
    all_goals
      go_ret
      refine ⟨ret_bool ?_, rfl⟩
      rw [HN.out, HH.out, HU.out]
      simp [isEmptyB, *]
      try omega
  · have he := sizeB_zero h0
    go_enter Tryz.func166, Tryz.ntmps166
    go_wp2
    go_ret
    exact ⟨ret_bool (by rw [HN.out]; simp [isEmptyB, *]), rfl⟩
theorem Reserved_any (s : ByteArray) (w : World) : Calls Tryz.prog 99 #[.string s] w fun e w' => e = .returned (.bool (resB s)) ∧ Below w.heap.size w w' := by
  go_enter Tryz.func99, Tryz.ntmps99
  go_wp2
  have hc : ∀ k, k < 11 → (w.alloc (Obj.cells
    #[Value.string { data := #[100, 97, 116, 97] }, Value.string { data := #[99, 111, 100, 97, 116, 97] },
      Value.string { data := #[102, 117, 110] }, Value.string { data := #[105, 110, 116] },
      Value.string { data := #[105, 102, 122] }, Value.string { data := #[99, 97, 115, 101] },
      Value.string { data := #[99, 111, 99, 97, 115, 101] }, Value.string { data := #[108, 101, 116] },
      Value.string { data := #[101, 109, 105, 116] }, Value.string { data := #[108, 97, 98, 101, 108] },
      Value.string { data := #[103, 111, 116, 111] }]
    9)).cell? ⟨w.heap.size, k, none⟩ = some (.string ⟨(words.getD k []).toArray⟩) := by
    intro k hk
    rw [World.cell?_alloc_at _ _ _ _ rfl]
    have : k = 0 ∨ k = 1 ∨ k = 2 ∨ k = 3 ∨ k = 4 ∨ k = 5 ∨ k = 6 ∨ k = 7 ∨ k = 8 ∨ k = 9 ∨ k = 10 := by omega
    rcases this with rfl | rfl | rfl | rfl | rfl | rfl | rfl | rfl | rfl | rfl | rfl <;> rfl
  have hB : Below w.heap.size w (w.alloc (Obj.cells
    #[Value.string { data := #[100, 97, 116, 97] }, Value.string { data := #[99, 111, 100, 97, 116, 97] },
      Value.string { data := #[102, 117, 110] }, Value.string { data := #[105, 110, 116] },
      Value.string { data := #[105, 102, 122] }, Value.string { data := #[99, 97, 115, 101] },
      Value.string { data := #[99, 111, 99, 97, 115, 101] }, Value.string { data := #[108, 101, 116] },
      Value.string { data := #[101, 109, 105, 116] }, Value.string { data := #[108, 97, 98, 101, 108] },
      Value.string { data := #[103, 111, 116, 111] }]
    9)) := (Below.refl _ _).alloc (Nat.le_refl _) _
  generalize w.alloc _ = w1 at *
  have HC := Lib.hid hc; have HB := Lib.hid hB; clear hc hB
  go_loop [7] (fun i => ∃ k : Nat, k ≤ 11 ∧ i = .int .i64 k ∧ resB s = (words.drop k).any fun x => s.toList == x) (fun i => 11 - (intOf i).toNat)
  case atStart => exact ⟨0, by omega, rfl, rfl⟩
  case round =>
    obtain ⟨k, hk, rfl, ht⟩ := hrel
    have HT := Lib.hid ht; clear ht
    by_cases hlt : k < 11
    · have h1 := HC.out k hlt
      have HD : Hid (words.drop k = words.getD k [] :: words.drop (k + 1)) := by
        have : k = 0 ∨ k = 1 ∨ k = 2 ∨ k = 3 ∨ k = 4 ∨ k = 5 ∨ k = 6 ∨ k = 7 ∨ k = 8 ∨ k = 9 ∨ k = 10 := by omega
        rcases this with rfl | rfl | rfl | rfl | rfl | rfl | rfl | rfl | rfl | rfl | rfl <;> rfl
      generalize words.getD k [] = x at *
      go_wp2
      · have q : (s.toList == x) = true := by assumption
        go_ret
        exact ⟨ret_bool (by rw [HT.out, HD.out]; simp [q]), HB.out⟩
      · have q : (s.toList == x) = false := by assumption
        go_round
        case rel => exact ⟨k + 1, by omega, by go_num, by rw [HT.out, HD.out]; simp [q]⟩
        case measure => simp [intOf]; omega
    · go_wp2
      go_ret
      exact ⟨ret_bool (by rw [HT.out, List.drop_eq_nil_of_le (by simp [words]; omega)]; rfl), HB.out⟩
theorem Name_any (s : ByteArray) (w : World) (hs : s.size ≤ maxLen) : Calls Tryz.prog 69 #[.string s] w fun e w' => e = .returned (.bool (nameB s)) ∧ Below w.heap.size w w' := by
  have HN : Hid (nameB s = (!isEmptyB s && lowB (headI s) && fitsB s && !resB s)) := rfl
  have HL : Hid (∀ b, lowB b = decide (97 ≤ b ∧ b ≤ 122)) := fun _ => rfl
  have HF : Hid (fitsB s = (decide (s.size ≤ 10) && tailB s 1)) := rfl
  by_cases h0 : 0 < s.size
  · have HH := Lib.hid (headI_eq h0)
    have he : s.toList.isEmpty = false := by simp [sizeB_pos h0]
    have HE := Lib.hid he
    clear he
    have hm := hs
    unfold maxLen at hs
    go_enter Tryz.func69, Tryz.ntmps69
    go_wp2_with (first | (go_at_call 98; (with_reducible refine (rest_any _ _ hm).mono ?_); rintro e w' ⟨rfl, rfl⟩) | (go_at_call 99; (with_reducible refine (Reserved_any _ _).mono ?_); rintro e w' ⟨rfl, hb⟩))
    all_goals
      go_ret
      refine ⟨ret_bool ?_, by first | exact Below.refl _ _ | assumption⟩
      rw [HN.out, HH.out, HL.out, HF.out]
      simp [isEmptyB, HE.out, *]
      try omega
  · unfold maxLen at hs
    have he := sizeB_zero h0
    go_enter Tryz.func69, Tryz.ntmps69
    go_wp2
    go_ret
    exact ⟨ret_bool (by rw [HN.out]; simp [isEmptyB, *]), Below.refl _ _⟩
theorem XtorName_any (s : ByteArray) (w : World) (hs : s.size ≤ maxLen) : Calls Tryz.prog 70 #[.string s] w fun e w' => e = .returned (.bool (xtorB s)) ∧ w = w' := by
  have HN : Hid (xtorB s = (!isEmptyB s && upB (headI s) && fitsB s)) := rfl
  have HL : Hid (∀ b, upB b = decide (65 ≤ b ∧ b ≤ 90)) := fun _ => rfl
  have HF : Hid (fitsB s = (decide (s.size ≤ 10) && tailB s 1)) := rfl
  by_cases h0 : 0 < s.size
  · have HH := Lib.hid (headI_eq h0)
    have he : s.toList.isEmpty = false := by simp [sizeB_pos h0]
    have HE := Lib.hid he
    clear he
    have hm := hs
    unfold maxLen at hs
    go_enter Tryz.func70, Tryz.ntmps70
    go_wp2_with (go_at_call 98; (with_reducible refine (rest_any _ _ hm).mono ?_); rintro e w' ⟨rfl, rfl⟩)
    all_goals
      go_ret
      refine ⟨ret_bool ?_, rfl⟩
      rw [HN.out, HH.out, HL.out, HF.out]
      simp [isEmptyB, HE.out, *]
      try omega
  · unfold maxLen at hs
    have he := sizeB_zero h0
    go_enter Tryz.func70, Tryz.ntmps70
    go_wp2
    go_ret
    exact ⟨ret_bool (by rw [HN.out]; simp [isEmptyB, *]), rfl⟩
end Go.Proofs.YtogmjgccopmplaaGreat

/- How the declarations lie in memory, and that new blocks do not turn it. -/
namespace Go.Proofs.YtogmjgccopmplaaGreat
open Go.RowKit
def RArgs (w : World) (v : Value) (l : List Arg) : Prop :=
  ∃ A c, v = .slice A l.length c ∧ l.length ≤ c ∧ c ≤ maxLen ∧
    ∀ i a, l[i]? = some a → ∃ b o, A = some ⟨b, o, none⟩ ∧ b < w.heap.size ∧ w.cell? ⟨b, o + i * 2, none⟩ = some (.int .i64 a.ty) ∧ w.cell? ⟨b, o + i * 2 + 1, none⟩ = some (.bool a.co)
def RXtors (w : World) (v : Value) (l : List Xtor) : Prop :=
  ∃ A c, v = .slice A l.length c ∧ l.length ≤ c ∧ c ≤ maxLen ∧
    ∀ i x, l[i]? = some x → ∃ b o va, A = some ⟨b, o, none⟩ ∧ b < w.heap.size ∧ w.cell? ⟨b, o + i * 2, none⟩ = some (.string x.name) ∧ w.cell? ⟨b, o + i * 2 + 1, none⟩ = some va ∧ RArgs w va x.args ∧ x.name.size ≤ maxLen
def RDecls (w : World) (v : Value) (l : List Decl) : Prop :=
  ∃ A c, v = .slice A l.length c ∧ l.length ≤ c ∧ c ≤ maxLen ∧
    ∀ i d, l[i]? = some d → ∃ b o va, A = some ⟨b, o, none⟩ ∧ b < w.heap.size ∧ w.cell? ⟨b, o + i * 3, none⟩ = some (.string d.name) ∧ w.cell? ⟨b, o + i * 3 + 1, none⟩ = some (.bool d.codata) ∧ w.cell? ⟨b, o + i * 3 + 2, none⟩ = some va ∧ RXtors w va d.xtors ∧ d.name.size ≤ maxLen
/-- A slice of bools. -/
def RBools (w : World) (v : Value) (l : List Bool) : Prop :=
  ∃ A c, v = .slice A l.length c ∧ l.length ≤ c ∧ c ≤ maxLen ∧
    ∀ i a, l[i]? = some a → ∃ b o, A = some ⟨b, o, none⟩ ∧ b < w.heap.size ∧ w.cell? ⟨b, o + i, none⟩ = some (.bool a)
section
variable {w w' : World} {v : Value}
theorem RArgs.below {l : List Arg} (h : RArgs w v l) (hb : Below w.heap.size w w') : RArgs w' v l := by
  obtain ⟨A, c, rfl, h1, h2, h3⟩ := h
  refine ⟨A, c, rfl, h1, h2, fun i a hi => ?_⟩
  obtain ⟨b, o, rfl, hlt, h4, h5⟩ := h3 i a hi
  exact ⟨b, o, rfl, Nat.lt_of_lt_of_le hlt hb.size, (hb.cell hlt).trans h4, (hb.cell hlt).trans h5⟩
theorem RXtors.below {l : List Xtor} (h : RXtors w v l) (hb : Below w.heap.size w w') : RXtors w' v l := by
  obtain ⟨A, c, rfl, h1, h2, h3⟩ := h
  refine ⟨A, c, rfl, h1, h2, fun i a hi => ?_⟩
  obtain ⟨b, o, va, rfl, hlt, h4, h5, h6, h7⟩ := h3 i a hi
  exact ⟨b, o, va, rfl, Nat.lt_of_lt_of_le hlt hb.size, (hb.cell hlt).trans h4, (hb.cell hlt).trans h5, h6.below hb, h7⟩
theorem RDecls.below {l : List Decl} (h : RDecls w v l) (hb : Below w.heap.size w w') : RDecls w' v l := by
  obtain ⟨A, c, rfl, h1, h2, h3⟩ := h
  refine ⟨A, c, rfl, h1, h2, fun i a hi => ?_⟩
  obtain ⟨b, o, va, rfl, hlt, h4, h5, h6, h7, h8⟩ := h3 i a hi
  exact ⟨b, o, va, rfl, Nat.lt_of_lt_of_le hlt hb.size, (hb.cell hlt).trans h4, (hb.cell hlt).trans h5, (hb.cell hlt).trans h6, h7.below hb, h8⟩
theorem RBools.below {l : List Bool} (h : RBools w v l) (hb : Below w.heap.size w w') : RBools w' v l := by
  obtain ⟨A, c, rfl, h1, h2, h3⟩ := h
  refine ⟨A, c, rfl, h1, h2, fun i a hi => ?_⟩
  obtain ⟨b, o, rfl, hlt, h4⟩ := h3 i a hi
  exact ⟨b, o, rfl, Nat.lt_of_lt_of_le hlt hb.size, (hb.cell hlt).trans h4⟩
theorem getElem?_take_some {α : Type} {l : List α} {n i : Nat} {a : α} (h : (l.take n)[i]? = some a) : l[i]? = some a := by
  rw [List.getElem?_take] at h
  split at h
  · exact h
  · cases h
theorem RArgs.take {l : List Arg} {A : Option Addr} {n c : Nat} (h : RArgs w (.slice A l.length c) l) (hn : n ≤ l.length) : RArgs w (.slice A n c) (l.take n) := by
  obtain ⟨A', c', he, h1, h2, h3⟩ := h
  cases he
  exact ⟨A, c, by simp [Nat.min_eq_left hn], by simp [Nat.min_eq_left hn]; omega, h2, fun i a hi => h3 i a (getElem?_take_some hi)⟩
theorem RDecls.take {l : List Decl} {A : Option Addr} {n c : Nat} (h : RDecls w (.slice A l.length c) l) (hn : n ≤ l.length) : RDecls w (.slice A n c) (l.take n) := by
  obtain ⟨A', c', he, h1, h2, h3⟩ := h
  cases he
  exact ⟨A, c, by simp [Nat.min_eq_left hn], by simp [Nat.min_eq_left hn]; omega, h2, fun i a hi => h3 i a (getElem?_take_some hi)⟩
theorem RArgs.at_ {l : List Arg} {A : Option Addr} {c : Nat} (h : RArgs w (.slice A l.length c) l) {k : Nat} (hk : k < l.length) :
    ∃ b o, A = some ⟨b, o, none⟩ ∧ b < w.heap.size ∧ w.cell? ⟨b, o + k * 2, none⟩ = some (.int .i64 l[k].ty) ∧ w.cell? ⟨b, o + k * 2 + 1, none⟩ = some (.bool l[k].co) := by
  obtain ⟨A', c', he, h1, h2, h3⟩ := h
  cases he
  exact h3 k _ (List.getElem?_eq_getElem hk)
theorem RXtors.at_ {l : List Xtor} {A : Option Addr} {c : Nat} (h : RXtors w (.slice A l.length c) l) {k : Nat} (hk : k < l.length) :
    ∃ b o va, A = some ⟨b, o, none⟩ ∧ b < w.heap.size ∧ w.cell? ⟨b, o + k * 2, none⟩ = some (.string l[k].name) ∧ w.cell? ⟨b, o + k * 2 + 1, none⟩ = some va ∧ RArgs w va l[k].args ∧ l[k].name.size ≤ maxLen := by
  obtain ⟨A', c', he, h1, h2, h3⟩ := h
  cases he
  exact h3 k _ (List.getElem?_eq_getElem hk)
theorem RDecls.at_ {l : List Decl} {A : Option Addr} {c : Nat} (h : RDecls w (.slice A l.length c) l) {k : Nat} (hk : k < l.length) :
    ∃ b o va, A = some ⟨b, o, none⟩ ∧ b < w.heap.size ∧ w.cell? ⟨b, o + k * 3, none⟩ = some (.string l[k].name) ∧ w.cell? ⟨b, o + k * 3 + 1, none⟩ = some (.bool l[k].codata) ∧ w.cell? ⟨b, o + k * 3 + 2, none⟩ = some va ∧ RXtors w va l[k].xtors ∧ l[k].name.size ≤ maxLen := by
  obtain ⟨A', c', he, h1, h2, h3⟩ := h
  cases he
  exact h3 k _ (List.getElem?_eq_getElem hk)
theorem RBools.at_ {l : List Bool} {A : Option Addr} {c : Nat} (h : RBools w (.slice A l.length c) l) {k : Nat} (hk : k < l.length) :
    ∃ b o, A = some ⟨b, o, none⟩ ∧ b < w.heap.size ∧ w.cell? ⟨b, o + k, none⟩ = some (.bool l[k]) := by
  obtain ⟨A', c', he, h1, h2, h3⟩ := h
  cases he
  exact h3 k _ (List.getElem?_eq_getElem hk)
end
theorem RArgs.form {w : World} {v : Value} {l : List Arg} (h : RArgs w v l) : ∃ A c, v = .slice A l.length c ∧ l.length ≤ c ∧ c ≤ maxLen := by
  obtain ⟨A, c, h1, h2, h3, _⟩ := h; exact ⟨A, c, h1, h2, h3⟩
theorem RXtors.form {w : World} {v : Value} {l : List Xtor} (h : RXtors w v l) : ∃ A c, v = .slice A l.length c ∧ l.length ≤ c ∧ c ≤ maxLen := by
  obtain ⟨A, c, h1, h2, h3, _⟩ := h; exact ⟨A, c, h1, h2, h3⟩
theorem RDecls.form {w : World} {v : Value} {l : List Decl} (h : RDecls w v l) : ∃ A c, v = .slice A l.length c ∧ l.length ≤ c ∧ c ≤ maxLen := by
  obtain ⟨A, c, h1, h2, h3, _⟩ := h; exact ⟨A, c, h1, h2, h3⟩
theorem RBools.form {w : World} {v : Value} {l : List Bool} (h : RBools w v l) : ∃ A c, v = .slice A l.length c ∧ l.length ≤ c ∧ c ≤ maxLen := by
  obtain ⟨A, c, h1, h2, h3, _⟩ := h; exact ⟨A, c, h1, h2, h3⟩
/-- All that was there is as it was. -/
abbrev Ext (w w' : World) : Prop := Below w.heap.size w w'
theorem cell_lt {w : World} {p : Addr} {v : Value} (h : w.cell? p = some v) : p.block < w.heap.size := by
  rcases Nat.lt_or_ge p.block w.heap.size with h1 | h1
  · exact h1
  · unfold World.cell? at h
    rw [Array.getElem?_eq_none h1] at h
    cases h
theorem Ext.keep {w w' : World} {p : Addr} {v : Value} (hb : Ext w w') (h : w.cell? p = some v) : w'.cell? p = some v := (hb.cell (cell_lt h)).trans h
theorem Ext.al (w : World) (o : Obj) : Ext w (w.alloc o) := (Below.refl _ _).alloc (Nat.le_refl _) _
theorem Ext.tr {a b c : World} (h : Ext a b) (k : Ext b c) : Ext a c := Below.trans h (Below.mono k h.size)
theorem Ext.rf (w : World) : Ext w w := Below.refl _ _
theorem drop_step {α : Type} {l : List α} {k : Nat} (h : k < l.length) : l.drop k = l[k] :: l.drop (k + 1) := List.drop_eq_getElem_cons h
theorem drop_end {α : Type} {l : List α} {k : Nat} (h : ¬ k < l.length) : l.drop k = [] := List.drop_eq_nil_of_le (by omega)
end Go.Proofs.YtogmjgccopmplaaGreat
