/-
  DERIVED: THE SHELF's CONTRACTS AT THIS DUMP, IN PLAIN WORDS (tools/lay-plain.mjs out of 'YtkdglplfcpindaaGreatDoorLay.lean', which tools/lay-shelf.mjs wrote): THE SAME DECLARATIONS UNDER THE SAME NAMES: 'import', 'namespace', 'open', 'def', 'theorem' AND NOTHING ELSE: no command of the shelf's: FOR A HAND-IN. Each laying: the table of numbers ('.._ren') and one theorem, a field a fact of the dump's own or the kernel's comparison; each contract: ONE APPLICATION.
-/
import Derived.Shelf.SlIter.Nil
import Derived.Shelf.SortM.Plain
import Derived.Shelf.SortM.SortNone
import Derived.Shelf.SlMaps.Copy
import Derived.Test.YtkdglplfcpindaaGreatDoorProg
import Derived.Below
import Derived.Laws.Strings
import Derived.Test.YtkdglplfcpindaaGreatDoorRows
import Derived.WalkKit
import Derived.Lib.Hide
import Derived.RangeFuncKeeps
import Derived.RangeFuncLeaves
import Derived.RangeFuncCalls
import Derived.Shelf.Abstract
import Derived.OwnWalkIn
import Derived.TacticsInMore
namespace Go.Proofs
open Go.Shelf
def Tryz.copy122_ren : Go.Shelf.Ren := ⟨fun | 5 => 168 | n => n, fun | 23 => 192 | 24 => 192 | 26 => 9 | 27 => 4 | 0 => 0 | 4 => 4 | n => n, fun | n => n⟩
theorem Tryz.copy122 : Go.Proofs.SlLaysX.n5 Tryz.prog Tryz.copy122_ren := {
  mixed := by kernel_rfl
  f5 := ⟨Tryz.f168.name, by decide, Tryz.func168.trans (congrArg some (by kernel_rfl))⟩
  t0 := Tryz.underlying0
  a0 := Tryz.isAgg0
  z0 := Tryz.sizeOf0
  v0 := Tryz.zeroValue0
  t4 := Tryz.underlying4
  a4 := Tryz.isAgg4
  z4 := Tryz.sizeOf4
  v4 := Tryz.zeroValue4
  t23 := Tryz.underlying192
  a23 := Tryz.isAgg192
  z23 := Tryz.sizeOf192
  v23 := Tryz.zeroValue192
  t24 := Tryz.underlying192
  a24 := Tryz.isAgg192
  z24 := Tryz.sizeOf192
  v24 := Tryz.zeroValue192
  a26 := Tryz.isAgg9
  z26 := Tryz.sizeOf9
  a27 := Tryz.isAgg4
  z27 := Tryz.sizeOf4 }
end Go.Proofs

/- Plain functions of the declarations' layer: no program is named here. -/
namespace Go.Proofs.YtkdglplfcpindaaGreatDoor
open Go.RowKit

/-! ### names -/
def lowB (b : Int) : Bool := decide (97 ≤ b ∧ b ≤ 122)
def digB (b : Int) : Bool := decide (48 ≤ b ∧ b ≤ 57)
def lodB (b : Int) : Bool := lowB b || digB b
def upB (b : Int) : Bool := decide (65 ≤ b ∧ b ≤ 90)
/-- All bytes from place k on are lowercase letters or digits. -/
def tailB (s : ByteArray) (k : Nat) : Bool := (s.data.toList.drop k).all fun c => lodB (c.toNat : Int)
def headI (s : ByteArray) : Int := match s.data.toList with | [] => 0 | c :: _ => (c.toNat : Int)
def isEmptyB (s : ByteArray) : Bool := s.toList.isEmpty
def fitsB (s : ByteArray) : Bool := decide (s.size ≤ 10) && tailB s 1
def words : List (List UInt8) := [[100, 97, 116, 97], [99, 111, 100, 97, 116, 97], [102, 117, 110], [105, 110, 116], [105, 102, 122], [99, 97, 115, 101], [99, 111, 99, 97, 115, 101], [108, 101, 116], [101, 109, 105, 116], [108, 97, 98, 101, 108], [103, 111, 116, 111]]
def resB (s : ByteArray) : Bool := words.any fun x => s.toList == x
def nameB (s : ByteArray) : Bool := !isEmptyB s && lowB (headI s) && fitsB s && !resB s
def xtorB (s : ByteArray) : Bool := !isEmptyB s && upB (headI s) && fitsB s

theorem tailB_end {s : ByteArray} {k : Nat} (h : ¬ k < s.size) : tailB s k = true := by
  unfold tailB
  rw [List.drop_eq_nil_of_le (by have : s.data.toList.length = s.size := by simp; 
                                 omega)]
  rfl
theorem tailB_step {s : ByteArray} {k : Nat} (h : k < s.size) : tailB s k = (lodB (s[k].toNat : Int) && tailB s (k + 1)) := by
  unfold tailB
  rw [List.drop_eq_getElem_cons (by simpa using h)]
  rfl
theorem lodB_eq (b : Int) : lodB b = (lowB b || digB b) := rfl
theorem size_toList (s : ByteArray) : s.data.toList.length = s.size := by simp
theorem headI_eq {s : ByteArray} (h : 0 < s.size) : headI s = (s[0].toNat : Int) := by
  unfold headI
  have e : s.data.toList = s[0] :: s.data.toList.drop 1 := by
    have h2 := List.drop_eq_getElem_cons (l := s.data.toList) (i := 0) (by simpa using h)
    rw [List.drop_zero] at h2
    exact h2
  rw [e]
theorem sizeB_zero {s : ByteArray} (h : ¬ 0 < s.size) : s.toList = [] := by
  rw [ByteArray.toList_eq]
  apply List.eq_nil_of_length_eq_zero
  rw [size_toList]; omega
theorem sizeB_pos {s : ByteArray} (h : 0 < s.size) : ¬ s.toList = [] := by
  rw [ByteArray.toList_eq]
  intro e
  have := size_toList s
  rw [e] at this
  simp at this
  omega

/-! ### declarations -/
structure Arg where
  ty : Int
  co : Bool
structure Xtor where
  name : ByteArray
  args : List Arg
structure Decl where
  name : ByteArray
  codata : Bool
  xtors : List Xtor
def hasCo (l : List Arg) : Bool := l.any Arg.co
def lastCo (l : List Arg) : Bool := (l.getLast?.map Arg.co).getD false
def endsB (l : List Arg) : Bool := lastCo l && !hasCo (l.take (l.length - 1))
def nCo (l : List Arg) : Nat := (l.filter Arg.co).length
def srcX (co : Bool) (x : Xtor) : Bool := if co then endsB x.args else !hasCo x.args
def srcD (d : Decl) : Bool := d.xtors.all (srcX d.codata)
def srcB (l : List Decl) : Bool := l.all srcD

theorem lastCo_eq {l : List Arg} (h : 0 < l.length) : lastCo l = (l[l.length - 1]).co := by
  unfold lastCo
  rw [List.getLast?_eq_getElem?, List.getElem?_eq_getElem (by omega)]
  rfl
theorem lastCo_nil {l : List Arg} (h : ¬ 0 < l.length) : lastCo l = false := by
  have : l = [] := List.eq_nil_of_length_eq_zero (by omega)
  subst this
  rfl
/-! ### validity -/
/-- The name is in the list. -/
def hasS (S : List ByteArray) (k : ByteArray) : Bool := S.any fun s => k.toList == s.toList
def okTy (t : Int) (a : Arg) : Bool := decide (0 ≤ a.ty ∧ a.ty ≤ t)
def okX (t : Int) (S : List ByteArray) (x : Xtor) : Bool := xtorB x.name && !hasS S x.name && decide (x.args.length ≤ 6) && x.args.all (okTy t)
def okXs (t : Int) : List ByteArray → List Xtor → Bool
  | _, [] => true
  | S, x :: r => okX t S x && okXs t (S ++ [x.name]) r
def okD (t : Int) (S : List ByteArray) (d : Decl) : Bool := nameB d.name && !hasS S d.name && decide (1 ≤ d.xtors.length) && decide (d.xtors.length ≤ 6) && okXs t (S ++ [d.name]) d.xtors
def addXs (S : List ByteArray) (l : List Xtor) : List ByteArray := S ++ l.map Xtor.name
def addD (S : List ByteArray) (d : Decl) : List ByteArray := addXs (S ++ [d.name]) d.xtors
def okDs (t : Int) : List ByteArray → List Decl → Bool
  | _, [] => true
  | S, d :: r => okD t S d && okDs t (addD S d) r
def validB (l : List Decl) : Bool := decide (l.length ≤ 8) && okDs l.length [] l
end Go.Proofs.YtkdglplfcpindaaGreatDoor

namespace Go.Proofs.YtkdglplfcpindaaGreatDoor
open Go.RowKit

theorem ret_bool {a b : Bool} (h : a = b) : Ending.returned (.bool a) = .returned (.bool b) := by rw [h]

theorem IsLower_any (b : Int) (w : World) : Calls Tryz.prog 127 #[.int .u8 b] w fun e w' => e = .returned (.bool (lowB b)) ∧ w = w' := by
  unfold lowB
  go_enter Tryz.func127, Tryz.ntmps127
  by_cases h : 97 ≤ b
  all_goals
    go_wp2
    go_ret
    exact ⟨ret_bool (by apply Bool.eq_iff_iff.2; simp <;> omega), rfl⟩
theorem IsUpper_any (b : Int) (w : World) : Calls Tryz.prog 165 #[.int .u8 b] w fun e w' => e = .returned (.bool (upB b)) ∧ w = w' := by
  unfold upB
  go_enter Tryz.func165, Tryz.ntmps165
  by_cases h : 65 ≤ b
  all_goals
    go_wp2
    go_ret
    exact ⟨ret_bool (by apply Bool.eq_iff_iff.2; simp <;> omega), rfl⟩
theorem IsDigit_any (b : Int) (w : World) : Calls Tryz.prog 166 #[.int .u8 b] w fun e w' => e = .returned (.bool (digB b)) ∧ w = w' := by
  unfold digB
  go_enter Tryz.func166, Tryz.ntmps166
  by_cases h : 48 ≤ b
  all_goals
    go_wp2
    go_ret
    exact ⟨ret_bool (by apply Bool.eq_iff_iff.2; simp <;> omega), rfl⟩
/-- How many bytes from byte k on are lowercase letters or digits, without a break. -/
def runN (s : ByteArray) : Nat → Nat → Nat
  | 0, k => k
  | m + 1, k => if h : k < s.size then (if lodB (s[k].toNat : Int) then runN s m (k + 1) else k) else k
theorem runN_tail (s : ByteArray) : ∀ (m k : Nat), k ≤ s.size → s.size ≤ k + m → (decide (runN s m k = s.size) = tailB s k)
  | 0, k, h1, h2 => by
    rw [runN, tailB_end (by omega)]
    simp; omega
  | m + 1, k, h1, h2 => by
    rw [runN]
    by_cases h : k < s.size
    · rw [dif_pos h, tailB_step h]
      cases lodB (s[k].toNat : Int)
      · simp; omega
      · simpa using runN_tail s m (k + 1) h (by omega)
    · rw [dif_neg h, tailB_end h]
      simp; omega
theorem runN_le (s : ByteArray) : ∀ (m k : Nat), k ≤ s.size → k ≤ runN s m k ∧ runN s m k ≤ s.size
  | 0, k, h => by rw [runN]; omega
  | m + 1, k, h => by
    rw [runN]
    split
    · split
      · have := runN_le s m (k + 1) (by omega); omega
      · omega
    · omega
/-- The length of the word at the beginning. -/
def wordN (s : ByteArray) : Nat := if lowB (headI s) || upB (headI s) then runN s s.size 1 else 0

set_option maxHeartbeats 1000000 in
theorem Word_any (s : ByteArray) (w : World) (hs : s.size ≤ maxLen) (h0 : 0 < s.size) : Calls Tryz.prog 146 #[.string s] w fun e w' => e = .returned (.int .i64 (wordN s)) ∧ w = w' := by
  unfold maxLen at hs
  have HW : Hid (wordN s = if lowB (headI s) || upB (headI s) then runN s s.size 1 else 0) := rfl
  have HH := Lib.hid (headI_eq h0)
  have he : s.toList.isEmpty = false := by simp [sizeB_pos h0]
  have hne := sizeB_pos h0
  have HL := Lib.hid (runN_le s s.size 1 (by omega))
  generalize wordN s = wn at *
  cases q : lowB (s[0].toNat : Int)
  · cases q2 : upB (s[0].toNat : Int)
    · have HQ : Hid (wn = 0) := by show _ = _; rw [HW.out, if_neg (by rw [HH.out, q, q2]; simp)]
      go_enter Tryz.func146, Tryz.ntmps146
      go_wp2_with (first | (go_at_call 127; (with_reducible refine (IsLower_any _ _).mono ?_); rintro e w' ⟨rfl, rfl⟩) | (go_at_call 165; (with_reducible refine (IsUpper_any _ _).mono ?_); rintro e w' ⟨rfl, rfl⟩))
      go_ret
      exact ⟨by rw [HQ.out]; rfl, rfl⟩
    · have HQ : Hid (wn = runN s s.size 1) := by show _ = _; rw [HW.out, if_pos (by rw [HH.out, q2]; simp)]
      go_enter Tryz.func146, Tryz.ntmps146
      go_wp2_with (first | (go_at_call 127; (with_reducible refine (IsLower_any _ _).mono ?_); rintro e w' ⟨rfl, rfl⟩) | (go_at_call 165; (with_reducible refine (IsUpper_any _ _).mono ?_); rintro e w' ⟨rfl, rfl⟩))
      go_loop [3] (fun i => ∃ k m : Nat, k ≤ s.size ∧ s.size ≤ k + m ∧ i = .int .i64 k ∧ wn = runN s m k) (fun i => s.size - (intOf i).toNat)
      case atStart => exact ⟨1, s.size, by omega, by omega, rfl, HQ.out⟩
      case round =>
        obtain ⟨k, m, hk1, hk2, rfl, ht⟩ := hrel
        have HT := Lib.hid ht; clear ht
        by_cases hlt : k < s.size
        · obtain ⟨m, rfl⟩ : ∃ m', m = m' + 1 := ⟨m - 1, by omega⟩
          have HS : Hid (runN s (m + 1) k = if lodB (s[k].toNat : Int) then runN s m (k + 1) else k) := by show _ = _; rw [runN, dif_pos hlt]
          go_wp2_with (first | (go_at_call 127; (with_reducible refine (IsLower_any _ _).mono ?_); rintro e w' ⟨rfl, rfl⟩) | (go_at_call 166; (with_reducible refine (IsDigit_any _ _).mono ?_); rintro e w' ⟨rfl, rfl⟩))
          · have q : lowB (s[k].toNat : Int) = true := by assumption
            go_round
            case rel => exact ⟨k + 1, m, by omega, by omega, by go_num, by rw [HT.out, HS.out, if_pos (by rw [lodB_eq, q]; rfl)]⟩
            case measure => simp [intOf]; omega
          · have q : digB (s[k].toNat : Int) = true := by assumption
            go_round
            case rel => exact ⟨k + 1, m, by omega, by omega, by go_num, by rw [HT.out, HS.out, if_pos (by rw [lodB_eq, q]; simp)]⟩
            case measure => simp [intOf]; omega
          · have q : digB (s[k].toNat : Int) = false := by assumption
            have q2 : ¬ lowB (s[k].toNat : Int) = true := by assumption
            go_ret
            exact ⟨by rw [HT.out, HS.out, if_neg (by rw [lodB_eq, q]; simpa using q2)]; rfl, rfl⟩
        · have HE : Hid (runN s m k = k) := by
            show _ = _
            cases m with
            | zero => rfl
            | succ m => rw [runN, dif_neg hlt]
          go_wp2
          go_ret
          exact ⟨by rw [HT.out, HE.out]; rfl, rfl⟩
  · have HQ : Hid (wn = runN s s.size 1) := by show _ = _; rw [HW.out, if_pos (by rw [HH.out, q]; rfl)]
    go_enter Tryz.func146, Tryz.ntmps146
    go_wp2_with (first | (go_at_call 127; (with_reducible refine (IsLower_any _ _).mono ?_); rintro e w' ⟨rfl, rfl⟩) | (go_at_call 165; (with_reducible refine (IsUpper_any _ _).mono ?_); rintro e w' ⟨rfl, rfl⟩))
    go_loop [3] (fun i => ∃ k m : Nat, k ≤ s.size ∧ s.size ≤ k + m ∧ i = .int .i64 k ∧ wn = runN s m k) (fun i => s.size - (intOf i).toNat)
    case atStart => exact ⟨1, s.size, by omega, by omega, rfl, HQ.out⟩
    case round =>
      obtain ⟨k, m, hk1, hk2, rfl, ht⟩ := hrel
      have HT := Lib.hid ht; clear ht
      by_cases hlt : k < s.size
      · obtain ⟨m, rfl⟩ : ∃ m', m = m' + 1 := ⟨m - 1, by omega⟩
        have HS : Hid (runN s (m + 1) k = if lodB (s[k].toNat : Int) then runN s m (k + 1) else k) := by show _ = _; rw [runN, dif_pos hlt]
        go_wp2_with (first | (go_at_call 127; (with_reducible refine (IsLower_any _ _).mono ?_); rintro e w' ⟨rfl, rfl⟩) | (go_at_call 166; (with_reducible refine (IsDigit_any _ _).mono ?_); rintro e w' ⟨rfl, rfl⟩))
        · have q : lowB (s[k].toNat : Int) = true := by assumption
          go_round
          case rel => exact ⟨k + 1, m, by omega, by omega, by go_num, by rw [HT.out, HS.out, if_pos (by rw [lodB_eq, q]; rfl)]⟩
          case measure => simp [intOf]; omega
        · have q : digB (s[k].toNat : Int) = true := by assumption
          go_round
          case rel => exact ⟨k + 1, m, by omega, by omega, by go_num, by rw [HT.out, HS.out, if_pos (by rw [lodB_eq, q]; simp)]⟩
          case measure => simp [intOf]; omega
        · have q : digB (s[k].toNat : Int) = false := by assumption
          have q2 : ¬ lowB (s[k].toNat : Int) = true := by assumption
          go_ret
          exact ⟨by rw [HT.out, HS.out, if_neg (by rw [lodB_eq, q]; simpa using q2)]; rfl, rfl⟩
      · have HE : Hid (runN s m k = k) := by
          show _ = _
          cases m with
          | zero => rfl
          | succ m => rw [runN, dif_neg hlt]
        go_wp2
        go_ret
        exact ⟨by rw [HT.out, HE.out]; rfl, rfl⟩

theorem fits_eq1 {s : ByteArray} (h0 : 0 < s.size) (h : (s.size : Int) ≤ 10) : ((wordN s : Int) == (s.size : Int)) = ((lowB (headI s) || upB (headI s)) && fitsB s) := by
  have ht := runN_tail s s.size 1 h0 (by omega)
  have h10 : s.size ≤ 10 := by omega
  unfold fitsB wordN
  rw [← ht]
  cases (lowB (headI s) || upB (headI s))
  · simp; omega
  · simp only [if_true, Bool.true_and, h10, decide_true]
    rw [Bool.eq_iff_iff]; simp only [beq_iff_eq, decide_eq_true_eq]; exact Int.ofNat_inj
theorem fits_eq2 {s : ByteArray} (h : 10 < (s.size : Int)) : false = ((lowB (headI s) || upB (headI s)) && fitsB s) := by
  have h10 : ¬ s.size ≤ 10 := by omega
  unfold fitsB
  simp [h10]
theorem fits_any (s : ByteArray) (w : World) (hs : s.size ≤ maxLen) (h0 : 0 < s.size) : Calls Tryz.prog 128 #[.string s] w fun e w' => e = .returned (.bool ((lowB (headI s) || upB (headI s)) && fitsB s)) ∧ w = w' := by
  have HL := Lib.hid (fun h => @fits_eq1 s h0 h)
  have HG := Lib.hid (fun h => @fits_eq2 s h)
  generalize ((lowB (headI s) || upB (headI s)) && fitsB s) = fb at *
  go_enter Tryz.func128, Tryz.ntmps128
  go_wp2_with (go_at_call 146; (with_reducible refine (Word_any _ _ hs h0).mono ?_); rintro e w' ⟨rfl, rfl⟩)
  · have q : (s.size : Int) ≤ 10 := by assumption
    go_ret
    exact ⟨ret_bool (HL.out q), rfl⟩
  · have q : 10 < (s.size : Int) := by assumption
    go_ret
    exact ⟨ret_bool (HG.out q), rfl⟩

theorem reserved_any (s : ByteArray) (w : World) : Calls Tryz.prog 129 #[.string s] w fun e w' => e = .returned (.bool (resB s)) ∧ w = w' := by
  go_enter Tryz.func129, Tryz.ntmps129
  go_wp2
  all_goals first
    | (exfalso; simp_all; done)
    | (go_ret; exact ⟨ret_bool (by simp [resB, words, *]), rfl⟩)

theorem plain_eq (s : ByteArray) : (!isEmptyB s && lowB (headI s) && ((lowB (headI s) || upB (headI s)) && fitsB s) && !resB s) = (!isEmptyB s && lowB (headI s) && fitsB s && !resB s) := by
  cases lowB (headI s) <;> simp
theorem xtor_eq (s : ByteArray) : (!isEmptyB s && upB (headI s) && ((lowB (headI s) || upB (headI s)) && fitsB s)) = (!isEmptyB s && upB (headI s) && fitsB s) := by
  cases upB (headI s) <;> simp
theorem Plain_any (s : ByteArray) (w : World) (hs : s.size ≤ maxLen) : Calls Tryz.prog 103 #[.string s] w fun e w' => e = .returned (.bool (nameB s)) ∧ w = w' := by
  have HN : Hid (nameB s = (!isEmptyB s && lowB (headI s) && ((lowB (headI s) || upB (headI s)) && fitsB s) && !resB s)) := (plain_eq s).symm ▸ rfl
  by_cases h0 : 0 < s.size
  · have HH := Lib.hid (headI_eq h0)
    have he : s.toList.isEmpty = false := by simp [sizeB_pos h0]
    have hne := sizeB_pos h0
    have HE := Lib.hid he
    have HC := Lib.hid (fun w => fits_any s w hs h0)
    generalize ((lowB (headI s) || upB (headI s)) && fitsB s) = fb at *
    go_enter Tryz.func103, Tryz.ntmps103
    go_wp2_with (first | (go_at_call 127; (with_reducible refine (IsLower_any _ _).mono ?_); rintro e w' ⟨rfl, rfl⟩) | (go_at_call 128; (with_reducible refine (HC.out _).mono ?_); rintro e w' ⟨rfl, rfl⟩) | (go_at_call 129; (with_reducible refine (reserved_any _ _).mono ?_); rintro e w' ⟨rfl, rfl⟩))
    all_goals
      go_ret
      exact ⟨ret_bool (by rw [HN.out, HH.out]; simp [isEmptyB, *]), rfl⟩
  · have he := sizeB_zero h0
    go_enter Tryz.func103, Tryz.ntmps103
    go_wp2
    go_ret
    exact ⟨ret_bool (by rw [HN.out]; simp [isEmptyB, *]), rfl⟩

theorem Xtor_any (s : ByteArray) (w : World) (hs : s.size ≤ maxLen) : Calls Tryz.prog 159 #[.string s] w fun e w' => e = .returned (.bool (xtorB s)) ∧ w = w' := by
  have HN : Hid (xtorB s = (!isEmptyB s && upB (headI s) && ((lowB (headI s) || upB (headI s)) && fitsB s))) := (xtor_eq s).symm ▸ rfl
  by_cases h0 : 0 < s.size
  · have HH := Lib.hid (headI_eq h0)
    have he : s.toList.isEmpty = false := by simp [sizeB_pos h0]
    have hne := sizeB_pos h0
    have HC := Lib.hid (fun w => fits_any s w hs h0)
    generalize ((lowB (headI s) || upB (headI s)) && fitsB s) = fb at *
    go_enter Tryz.func159, Tryz.ntmps159
    go_wp2_with (first | (go_at_call 165; (with_reducible refine (IsUpper_any _ _).mono ?_); rintro e w' ⟨rfl, rfl⟩) | (go_at_call 128; (with_reducible refine (HC.out _).mono ?_); rintro e w' ⟨rfl, rfl⟩))
    all_goals
      go_ret
      refine ⟨ret_bool ?_, rfl⟩
      rw [HN.out, HH.out]
      simp [isEmptyB, *]
  · have he := sizeB_zero h0
    go_enter Tryz.func159, Tryz.ntmps159
    go_wp2
    go_ret
    exact ⟨ret_bool (by rw [HN.out]; simp [isEmptyB, *]), rfl⟩

end Go.Proofs.YtkdglplfcpindaaGreatDoor

/- How the declarations lie in memory, and that new blocks do not turn it. -/
namespace Go.Proofs.YtkdglplfcpindaaGreatDoor
open Go.RowKit

def RArgs (w : World) (v : Value) (l : List Arg) : Prop :=
  ∃ A c, v = .slice A l.length c ∧ l.length ≤ c ∧ c ≤ maxLen ∧
    ∀ i a, l[i]? = some a → ∃ b o, A = some ⟨b, o, none⟩ ∧ b < w.heap.size ∧ w.cell? ⟨b, o + i * 2, none⟩ = some (.int .i64 a.ty) ∧ w.cell? ⟨b, o + i * 2 + 1, none⟩ = some (.bool a.co)
def RXtors (w : World) (v : Value) (l : List Xtor) : Prop :=
  ∃ A c, v = .slice A l.length c ∧ l.length ≤ c ∧ c ≤ maxLen ∧
    ∀ i x, l[i]? = some x → ∃ b o va, A = some ⟨b, o, none⟩ ∧ b < w.heap.size ∧ w.cell? ⟨b, o + i * 2, none⟩ = some (.string x.name) ∧ w.cell? ⟨b, o + i * 2 + 1, none⟩ = some va ∧ RArgs w va x.args ∧ x.name.size ≤ maxLen
def RDecls (w : World) (v : Value) (l : List Decl) : Prop :=
  ∃ A c, v = .slice A l.length c ∧ l.length ≤ c ∧ c ≤ maxLen ∧
    ∀ i d, l[i]? = some d → ∃ b o va, A = some ⟨b, o, none⟩ ∧ b < w.heap.size ∧ w.cell? ⟨b, o + i * 3, none⟩ = some (.string d.name) ∧ w.cell? ⟨b, o + i * 3 + 1, none⟩ = some (.bool d.codata) ∧ w.cell? ⟨b, o + i * 3 + 2, none⟩ = some va ∧ RXtors w va d.xtors ∧ d.name.size ≤ maxLen
/-- A slice of bools. -/
def RBools (w : World) (v : Value) (l : List Bool) : Prop :=
  ∃ A c, v = .slice A l.length c ∧ l.length ≤ c ∧ c ≤ maxLen ∧
    ∀ i a, l[i]? = some a → ∃ b o, A = some ⟨b, o, none⟩ ∧ b < w.heap.size ∧ w.cell? ⟨b, o + i, none⟩ = some (.bool a)

section
variable {w w' : World} {v : Value}
theorem RArgs.below {l : List Arg} (h : RArgs w v l) (hb : Below w.heap.size w w') : RArgs w' v l := by
  obtain ⟨A, c, rfl, h1, h2, h3⟩ := h
  refine ⟨A, c, rfl, h1, h2, fun i a hi => ?_⟩
  obtain ⟨b, o, rfl, hlt, h4, h5⟩ := h3 i a hi
  exact ⟨b, o, rfl, Nat.lt_of_lt_of_le hlt hb.size, (hb.cell hlt).trans h4, (hb.cell hlt).trans h5⟩
theorem RXtors.below {l : List Xtor} (h : RXtors w v l) (hb : Below w.heap.size w w') : RXtors w' v l := by
  obtain ⟨A, c, rfl, h1, h2, h3⟩ := h
  refine ⟨A, c, rfl, h1, h2, fun i a hi => ?_⟩
  obtain ⟨b, o, va, rfl, hlt, h4, h5, h6, h7⟩ := h3 i a hi
  exact ⟨b, o, va, rfl, Nat.lt_of_lt_of_le hlt hb.size, (hb.cell hlt).trans h4, (hb.cell hlt).trans h5, h6.below hb, h7⟩
theorem RDecls.below {l : List Decl} (h : RDecls w v l) (hb : Below w.heap.size w w') : RDecls w' v l := by
  obtain ⟨A, c, rfl, h1, h2, h3⟩ := h
  refine ⟨A, c, rfl, h1, h2, fun i a hi => ?_⟩
  obtain ⟨b, o, va, rfl, hlt, h4, h5, h6, h7, h8⟩ := h3 i a hi
  exact ⟨b, o, va, rfl, Nat.lt_of_lt_of_le hlt hb.size, (hb.cell hlt).trans h4, (hb.cell hlt).trans h5, (hb.cell hlt).trans h6, h7.below hb, h8⟩
theorem RBools.below {l : List Bool} (h : RBools w v l) (hb : Below w.heap.size w w') : RBools w' v l := by
  obtain ⟨A, c, rfl, h1, h2, h3⟩ := h
  refine ⟨A, c, rfl, h1, h2, fun i a hi => ?_⟩
  obtain ⟨b, o, rfl, hlt, h4⟩ := h3 i a hi
  exact ⟨b, o, rfl, Nat.lt_of_lt_of_le hlt hb.size, (hb.cell hlt).trans h4⟩
theorem getElem?_take_some {α : Type} {l : List α} {n i : Nat} {a : α} (h : (l.take n)[i]? = some a) : l[i]? = some a := by
  rw [List.getElem?_take] at h
  split at h
  · exact h
  · cases h
theorem RArgs.take {l : List Arg} {A : Option Addr} {n c : Nat} (h : RArgs w (.slice A l.length c) l) (hn : n ≤ l.length) : RArgs w (.slice A n c) (l.take n) := by
  obtain ⟨A', c', he, h1, h2, h3⟩ := h
  cases he
  exact ⟨A, c, by simp [Nat.min_eq_left hn], by simp [Nat.min_eq_left hn]; omega, h2, fun i a hi => h3 i a (getElem?_take_some hi)⟩
theorem RDecls.take {l : List Decl} {A : Option Addr} {n c : Nat} (h : RDecls w (.slice A l.length c) l) (hn : n ≤ l.length) : RDecls w (.slice A n c) (l.take n) := by
  obtain ⟨A', c', he, h1, h2, h3⟩ := h
  cases he
  exact ⟨A, c, by simp [Nat.min_eq_left hn], by simp [Nat.min_eq_left hn]; omega, h2, fun i a hi => h3 i a (getElem?_take_some hi)⟩
theorem RArgs.at_ {l : List Arg} {A : Option Addr} {c : Nat} (h : RArgs w (.slice A l.length c) l) {k : Nat} (hk : k < l.length) :
    ∃ b o, A = some ⟨b, o, none⟩ ∧ b < w.heap.size ∧ w.cell? ⟨b, o + k * 2, none⟩ = some (.int .i64 l[k].ty) ∧ w.cell? ⟨b, o + k * 2 + 1, none⟩ = some (.bool l[k].co) := by
  obtain ⟨A', c', he, h1, h2, h3⟩ := h
  cases he
  exact h3 k _ (List.getElem?_eq_getElem hk)
theorem RXtors.at_ {l : List Xtor} {A : Option Addr} {c : Nat} (h : RXtors w (.slice A l.length c) l) {k : Nat} (hk : k < l.length) :
    ∃ b o va, A = some ⟨b, o, none⟩ ∧ b < w.heap.size ∧ w.cell? ⟨b, o + k * 2, none⟩ = some (.string l[k].name) ∧ w.cell? ⟨b, o + k * 2 + 1, none⟩ = some va ∧ RArgs w va l[k].args ∧ l[k].name.size ≤ maxLen := by
  obtain ⟨A', c', he, h1, h2, h3⟩ := h
  cases he
  exact h3 k _ (List.getElem?_eq_getElem hk)
theorem RDecls.at_ {l : List Decl} {A : Option Addr} {c : Nat} (h : RDecls w (.slice A l.length c) l) {k : Nat} (hk : k < l.length) :
    ∃ b o va, A = some ⟨b, o, none⟩ ∧ b < w.heap.size ∧ w.cell? ⟨b, o + k * 3, none⟩ = some (.string l[k].name) ∧ w.cell? ⟨b, o + k * 3 + 1, none⟩ = some (.bool l[k].codata) ∧ w.cell? ⟨b, o + k * 3 + 2, none⟩ = some va ∧ RXtors w va l[k].xtors ∧ l[k].name.size ≤ maxLen := by
  obtain ⟨A', c', he, h1, h2, h3⟩ := h
  cases he
  exact h3 k _ (List.getElem?_eq_getElem hk)
theorem RBools.at_ {l : List Bool} {A : Option Addr} {c : Nat} (h : RBools w (.slice A l.length c) l) {k : Nat} (hk : k < l.length) :
    ∃ b o, A = some ⟨b, o, none⟩ ∧ b < w.heap.size ∧ w.cell? ⟨b, o + k, none⟩ = some (.bool l[k]) := by
  obtain ⟨A', c', he, h1, h2, h3⟩ := h
  cases he
  exact h3 k _ (List.getElem?_eq_getElem hk)
end
theorem RArgs.form {w : World} {v : Value} {l : List Arg} (h : RArgs w v l) : ∃ A c, v = .slice A l.length c ∧ l.length ≤ c ∧ c ≤ maxLen := by
  obtain ⟨A, c, h1, h2, h3, _⟩ := h; exact ⟨A, c, h1, h2, h3⟩
theorem RXtors.form {w : World} {v : Value} {l : List Xtor} (h : RXtors w v l) : ∃ A c, v = .slice A l.length c ∧ l.length ≤ c ∧ c ≤ maxLen := by
  obtain ⟨A, c, h1, h2, h3, _⟩ := h; exact ⟨A, c, h1, h2, h3⟩
theorem RDecls.form {w : World} {v : Value} {l : List Decl} (h : RDecls w v l) : ∃ A c, v = .slice A l.length c ∧ l.length ≤ c ∧ c ≤ maxLen := by
  obtain ⟨A, c, h1, h2, h3, _⟩ := h; exact ⟨A, c, h1, h2, h3⟩
theorem RBools.form {w : World} {v : Value} {l : List Bool} (h : RBools w v l) : ∃ A c, v = .slice A l.length c ∧ l.length ≤ c ∧ c ≤ maxLen := by
  obtain ⟨A, c, h1, h2, h3, _⟩ := h; exact ⟨A, c, h1, h2, h3⟩
/-- All that was there is as it was. -/
abbrev Ext (w w' : World) : Prop := Below w.heap.size w w'
theorem cell_lt {w : World} {p : Addr} {v : Value} (h : w.cell? p = some v) : p.block < w.heap.size := by
  rcases Nat.lt_or_ge p.block w.heap.size with h1 | h1
  · exact h1
  · unfold World.cell? at h
    rw [Array.getElem?_eq_none h1] at h
    cases h
theorem Ext.keep {w w' : World} {p : Addr} {v : Value} (hb : Ext w w') (h : w.cell? p = some v) : w'.cell? p = some v := (hb.cell (cell_lt h)).trans h
theorem Ext.al (w : World) (o : Obj) : Ext w (w.alloc o) := (Below.refl _ _).alloc (Nat.le_refl _) _
theorem Ext.tr {a b c : World} (h : Ext a b) (k : Ext b c) : Ext a c := Below.trans h (Below.mono k h.size)
theorem Ext.rf (w : World) : Ext w w := Below.refl _ _
theorem drop_step {α : Type} {l : List α} {k : Nat} (h : k < l.length) : l.drop k = l[k] :: l.drop (k + 1) := List.drop_eq_getElem_cons h
theorem drop_end {α : Type} {l : List α} {k : Nat} (h : ¬ k < l.length) : l.drop k = [] := List.drop_eq_nil_of_le (by omega)

end Go.Proofs.YtkdglplfcpindaaGreatDoor

/- A loop over a function: one law for its caller. The iterator says, for each element that it hands over, what holds of it in the world in which it is handed over; the round turns only blocks of its caller's; the iterator turns none that was there. -/
namespace Go.Proofs.YtkdglplfcpindaaGreatDoor
open Go.RowKit

/-- Only blocks of C have turned; new ones may have come. -/
structure Only (C : Nat → Prop) (W W' : World) : Prop where
  os : W'.os = W.os
  tape : W'.tape = W.tape
  output : W'.output = W.output
  size : W.heap.size ≤ W'.heap.size
  block : ∀ k, k < W.heap.size → ¬ C k → W'.heap[k]? = W.heap[k]?
section
variable {C D : Nat → Prop} {a b c : World}
theorem Only.rf (C : Nat → Prop) (w : World) : Only C w w := ⟨rfl, rfl, rfl, Nat.le_refl _, fun _ _ _ => rfl⟩
theorem Only.tr (h : Only C a b) (k : Only C b c) : Only C a c :=
  ⟨k.os.trans h.os, k.tape.trans h.tape, k.output.trans h.output, Nat.le_trans h.size k.size, fun i hi hn => (k.block i (Nat.lt_of_lt_of_le hi h.size) hn).trans (h.block i hi hn)⟩
theorem Only.mono (h : Only C a b) (hc : ∀ k, k < a.heap.size → C k → D k) : Only D a b :=
  ⟨h.os, h.tape, h.output, h.size, fun k hk hn => h.block k hk (fun hC => hn (hc k hk hC))⟩
theorem Only.of_ext (h : Below a.heap.size a b) : Only C a b := ⟨h.os, h.tape, h.output, h.size, fun k hk _ => h.block k hk⟩
theorem Only.below {B : Nat} (h : Only C a b) (hB : B ≤ a.heap.size) (hC : ∀ k, C k → B ≤ k) : Below B a b :=
  ⟨h.os, h.tape, h.output, h.size, fun k hk => h.block k (by omega) (fun hc => by have := hC k hc; omega)⟩
theorem Only.ext (h : Only C a b) (hC : ∀ k, k < a.heap.size → ¬ C k) : Below a.heap.size a b :=
  ⟨h.os, h.tape, h.output, h.size, fun k hk => h.block k hk (hC k hk)⟩
theorem Only.al (C : Nat → Prop) (w : World) (o : Obj) : Only C w (w.alloc o) := Only.of_ext ((Below.refl _ _).alloc (Nat.le_refl _) _)
theorem Only.putObj {l : Nat} (h : C l) (w : World) (o : Obj) : Only C w (w.putObj l o) :=
  ⟨rfl, rfl, rfl, by simp, fun k _ hn => World.putObj_heap_other (fun e => hn (e ▸ h))⟩
theorem Only.setCell {p : Addr} (h : C p.block) (w : World) (u : Value) : Only C w (w.setCell p u) :=
  ⟨rfl, rfl, rfl, by simp [World.setCell], fun k _ hn => Below.heap_setCell _ _ _ _ (fun e => hn (e ▸ h))⟩
end

/-- A call of yield. -/
def YieldW (P : Program) (l : Nat) (vs : Array Value) (A : World) (R : Ending → World → Prop) : Prop :=
  ∃ fn tmps assign body, (Instr.yield l vs).run P A = .ok (.round l fn tmps assign body) A ∧ ∀ m, RoundIn Fence.wide m P l fn tmps assign body A R
theorem YieldW.mono {P : Program} {l : Nat} {vs : Array Value} {A : World} {R R' : Ending → World → Prop} (h : YieldW P l vs A R) (hr : ∀ e w, R e w → R' e w) : YieldW P l vs A R' := by
  obtain ⟨fn, tmps, assign, body, hy, hR⟩ := h
  exact ⟨fn, tmps, assign, body, hy, fun m => (hR m).mono hr⟩

/-- What an iterator keeps of its caller, what it hands over, and what it leaves: L its elements, R what an element reads as. -/
def Iter {β : Type} (P : Program) (gf : Nat) (lb : Array Value) (C : Nat → Prop) (L : List β) (R : β → Array Value → World → Prop) (w0 : World) : Prop :=
  ∀ (l : Nat) (J : List β → World → Prop) (Jx : World → Prop) (W : World), Below w0.heap.size w0 W →
    (∀ pre A B, J pre A → Below W.heap.size A B → J pre B) → (∀ A B, Jx A → Below W.heap.size A B → Jx B) →
    (∀ pre y vs A, pre ++ [y] <+: L → J pre A → R y vs A → W.heap.size ≤ A.heap.size → YieldW P l vs A fun e B =>
      (e = .returned (.bool true) ∧ J (pre ++ [y]) B ∧ Only (fun k => C k ∨ (w0.heap.size ≤ k ∧ k < W.heap.size)) A B) ∨ (e = .returned (.bool false) ∧ Jx B ∧ Only (fun k => C k ∨ (w0.heap.size ≤ k ∧ k < W.heap.size)) A B)) →
    J [] W →
    Calls P gf (#[.func (.yield l) #[] #[]] ++ lb) W fun e B => (∃ v, e = .returned v) ∧ (J L B ∨ Jx B)

/-- Block l, a loop's record, has turned, and nothing else. -/
structure Turned (l : Nat) (W W' : World) : Prop where
  only : Only (fun k => k = l) W W'
  size : W'.heap.size = W.heap.size
  cell : ∀ p v, W.cell? p = some v → W'.cell? p = some v
  frozen : ∀ p v, W.cell? p = some v → W.frozen? p = false → W'.frozen? p = false
  kept : ∀ (k : Nat) (o : Obj), W.heap[k]? = some o → (∀ r, o ≠ .loop r) → W'.heap[k]? = some o
theorem turned_put {W : World} {l : Nat} {r : Loop} (h : W.heap[l]? = some (.loop r)) (o : Obj) : Turned l W (W.putObj l o) := by
  have hk : ∀ (k : Nat) (o' : Obj), W.heap[k]? = some o' → (∀ r, o' ≠ .loop r) → k ≠ l := by
    rintro k o' hk hn rfl
    rw [h] at hk; cases hk; exact hn _ rfl
  have hc : ∀ p v, W.cell? p = some v → p.block ≠ l := by
    rintro ⟨b, i, s⟩ v hv rfl
    unfold World.cell? at hv
    simp [h] at hv
  refine ⟨Only.putObj (C := fun k => k = l) rfl _ _, by simp, fun p v hv => ?_, fun p v hv hf => ?_, fun k o' hk' hn => (World.putObj_heap_other (hk k o' hk' hn)).trans hk'⟩
  · exact (World.cell?_of_block (w := W) (World.putObj_heap_other (hc p v hv))).trans hv
  · rw [World.frozen?_of_block (w := W) (World.putObj_heap_other (hc p v hv))]; exact hf

/-- How a round may be left. -/
def roundOwn {β : Type} (C : Nat → Prop) (I : List β → World → Prop) (Ix : Code → World → Prop) (xs : List β) (W : World) : Exit → Act → World → Prop
  | .normal, _, W' => Only C W W' ∧ I xs W'
  | .ret, _, W' => Only C W W' ∧ Ix .ret W'
  | .exit id, _, W' => Only C W W' ∧ Ix (.exit id) W'
  | .goto t, _, W' => Only C W W' ∧ Ix (.goto t) W'
  | .panic _, _, _ => False
  | .outgrown, _, _ => False

theorem wp_range {β : Type} {P : Program} {g : Operand} {ps : Array Tmp} {assign body : Code} {Q : Exit → Act → World → Prop} {a : Act} {w : World} {gf : Nat} {lb : Array Value} {C : Nat → Prop} {L : List β} {R : β → Array Value → World → Prop}
    (hg : a.eval g = .func (.func gf) #[] lb) (eg : ∀ args w, (callFunc gf args).run P w = .ok (.enter gf args) w)
    (hit : Iter P gf lb C L R w) (hC : ∀ k, C k → k < w.heap.size) (hps : ∀ y vs A, R y vs A → vs.size = ps.size)
    (I : List β → World → Prop) (Ix : Code → World → Prop) (hI : ∀ pre A B, I pre A → Below w.heap.size A B → I pre B) (hIx : ∀ c A B, Ix c A → Below w.heap.size A B → Ix c B) (h0 : I [] w)
    (hround : ∀ (l : Nat) (pre : List β) (y : β) (vs : Array Value) (W : World), w.heap.size ≤ l → pre ++ [y] <+: L → I pre W → R y vs W → w.heap.size ≤ W.heap.size →
      assign.wpIn (Fence.wide.inRound l) 0 P (Exit.then (fun a1 W1 => Below W.heap.size W W1 ∧ ∀ W2, Turned l W1 W2 → body.wpIn (Fence.wide.inRound l) 0 P (roundOwn C I Ix (pre ++ [y]) W2) a1 W2) (fun _ _ _ => False))
        { tmps := (ps.zip vs).foldl (fun t (p, v) => t.setIfInBounds p v) a.tmps, defers := [] } W)
    (hdone : ∀ W, I L W → W.heap[w.heap.size]? = some (.deferred (some [])) → Q .normal { a with defers := { target := .collected w.heap.size, args := #[] } :: a.defers } W)
    (hstop : ∀ c W, Ix c W → W.heap[w.heap.size]? = some (.deferred (some [])) → c.wp P Q { a with defers := { target := .collected w.heap.size, args := #[] } :: a.defers } W) :
    (Code.rangeFunc g ps assign body).wp P Q a w := by
  refine (wpIn_wide (n := 0)).1 (wpIn_rangeFunc ?_)
  intro fn hfn
  obtain ⟨rec, hrec⟩ : ∃ rec : LoopState → Option Code → Loop, rec = fun st pe => { state := st, pending := pe, fn, tmps := a.tmps, params := ps, assign, body, defers := w.heap.size } := ⟨_, rfl⟩
  obtain ⟨W1, hW1⟩ : ∃ W1, (w.alloc (.deferred (some []))).alloc (.loop (rec .ready none)) = W1 := ⟨_, rfl⟩
  have hL1 : W1.heap[w.heap.size + 1]? = some (.loop (rec .ready none)) := by
    rw [← hW1]; have := World.alloc_heap_new (w.alloc (.deferred (some []))) (.loop (rec .ready none)); rwa [World.size_alloc] at this
  have hK1 : W1.heap[w.heap.size]? = some (.deferred (some [])) := by
    rw [← hW1]; exact (Below.heap_alloc _ _ _ (by simp)).trans (World.alloc_heap_new w _)
  have hz1 : W1.heap.size = w.heap.size + 2 := by rw [← hW1]; simp
  have hb1 : Below w.heap.size w W1 := by
    rw [← hW1]; exact ((Below.refl _ w).alloc (Nat.le_refl _) _).alloc (by simp) _
  have hblk : ∀ {A B : World} {k : Nat} {o : Obj}, k < W1.heap.size → A.heap[k]? = some o → Below W1.heap.size A B → B.heap[k]? = some o := fun hk h hb => (hb.block _ hk).trans h
  have hle : w.heap.size ≤ W1.heap.size := by omega
  have fin : ∀ (jump : Option Code) (W2 W3 : World), W2.heap[w.heap.size + 1]? = some (.loop { rec .ready none with state := .busy }) → W2.heap[w.heap.size]? = some (.deferred (some [])) → Only C W2 W3 →
      (Instr.endRound (w.heap.size + 1) jump).run P W3 = .ok (.bool jump.isNone) (W3.putObj (w.heap.size + 1) (.loop (rec (if jump.isNone then .ready else .done) jump))) ∧
      (W3.putObj (w.heap.size + 1) (.loop (rec (if jump.isNone then .ready else .done) jump))).heap[w.heap.size + 1]? = some (.loop (rec (if jump.isNone then .ready else .done) jump)) ∧
      (W3.putObj (w.heap.size + 1) (.loop (rec (if jump.isNone then .ready else .done) jump))).heap[w.heap.size]? = some (.deferred (some [])) ∧
      Only (fun k => C k ∨ (w.heap.size ≤ k ∧ k < W1.heap.size)) W2 (W3.putObj (w.heap.size + 1) (.loop (rec (if jump.isNone then .ready else .done) jump))) ∧
      Below w.heap.size W3 (W3.putObj (w.heap.size + 1) (.loop (rec (if jump.isNone then .ready else .done) jump))) := fun jump W2 W3 h2 h2' hk3 => by
    have hl3 := (hk3.block _ (Array.getElem?_eq_some_iff.1 h2).1 (fun hc => by have := hC _ hc; omega)).trans h2
    have hd3 := (hk3.block _ (Array.getElem?_eq_some_iff.1 h2').1 (fun hc => by have := hC _ hc; omega)).trans h2'
    have := run_endRound (P := P) jump hl3
    rw [hrec] at this ⊢
    refine ⟨this, World.putObj_heap_same (Array.getElem?_eq_some_iff.1 hl3).1, (World.putObj_heap_other (by omega)).trans hd3, (hk3.mono (fun k _ h => Or.inl h)).tr (Only.putObj (Or.inr ⟨by omega, by omega⟩) _ _), ?_⟩
    exact ((Only.putObj (C := fun k => w.heap.size ≤ k) (l := w.heap.size + 1) (by omega) W3 _).below (by
      have := (Array.getElem?_eq_some_iff.1 hl3).1
      omega) (fun k hk => hk))
  refine ⟨w.heap.size + 1, [{ target := .collected w.heap.size, args := #[] }], W1, { target := .fn (.func gf) lb, args := #[.func (.yield (w.heap.size + 1)) #[] #[]] }, W1, gf,
    #[.func (.yield (w.heap.size + 1)) #[] #[]] ++ lb, W1, ?_, ?_, ?_, ?_, ?_, ?_⟩
  · rw [← hW1, hrec]; exact run_enterLoop_outer _ _ _ _ _
  · simp only [resolve, hg]
    simp [go_sem]
  · intro f' hf'; trivial
  · simp [invoke, go_sem, eg]
  · intro h; cases h
  · refine callsIn_wide.2 ((hit (w.heap.size + 1)
      (fun pre W => I pre W ∧ W.heap[w.heap.size + 1]? = some (.loop (rec .ready none)) ∧ W.heap[w.heap.size]? = some (.deferred (some [])))
      (fun W => ∃ c, Ix c W ∧ W.heap[w.heap.size + 1]? = some (.loop (rec .done (some c))) ∧ W.heap[w.heap.size]? = some (.deferred (some [])))
      W1 hb1 ?_ ?_ ?_ ⟨hI _ _ _ h0 hb1, hL1, hK1⟩).mono ?_)
    · rintro pre A B ⟨h1, h2, h3⟩ hb
      exact ⟨hI _ _ _ h1 (hb.mono hle), hblk (by omega) h2 hb, hblk (by omega) h3 hb⟩
    · rintro A B ⟨c, h1, h2, h3⟩ hb
      exact ⟨c, hIx _ _ _ h1 (hb.mono hle), hblk (by omega) h2 hb, hblk (by omega) h3 hb⟩
    · rintro pre y vs W hpre ⟨hi, hl, hk⟩ hR hsz
      have hy := run_yield (P := P) (args := vs) hl (by rw [hrec]; exact hps _ _ _ hR)
      rw [hrec] at hy
      refine ⟨fn, _, assign, body, hy, fun m => ?_⟩
      clear hy
      have hrd := hround (w.heap.size + 1) pre y vs W (by omega) hpre hi hR (by omega)
      have hany : ∀ (c : Code) (Q : Exit → Act → World → Prop) (a : Act) (w : World) (l n : Nat), c.wpIn (Fence.wide.inRound l) 0 P Q a w → c.wpIn (Fence.wide.inRound l) n P Q a w := fun c Q a w l n h b k cs hro hb _ => h b k cs hro hb (fun d hd => by cases hd)
      refine roundIn_of_wpIn hfn (hany _ _ _ _ _ _ (wpIn_mono hrd ?_))
      rintro e a1 Wa hp
      cases e with
      | normal =>
        obtain ⟨hba, hbody⟩ := hp
        have hla := (hba.block _ (Array.getElem?_eq_some_iff.1 hl).1).trans hl
        have hka := (hba.block _ (Array.getElem?_eq_some_iff.1 hk).1).trans hk
        refine ⟨_, run_beginRound hla (by rw [hrec]), ?_⟩
        have hl2 : (Wa.putObj (w.heap.size + 1) (.loop { rec .ready none with state := .busy })).heap[w.heap.size + 1]? = some (.loop { rec .ready none with state := .busy }) := World.putObj_heap_same (Array.getElem?_eq_some_iff.1 hla).1
        have hk2 : (Wa.putObj (w.heap.size + 1) (.loop { rec .ready none with state := .busy })).heap[w.heap.size]? = some (.deferred (some [])) := (World.putObj_heap_other (by omega)).trans hka
        have hoa : Only (fun k => C k ∨ (w.heap.size ≤ k ∧ k < W1.heap.size)) W (Wa.putObj (w.heap.size + 1) (.loop { rec .ready none with state := .busy })) :=
          (Only.of_ext hba).tr (Only.putObj (Or.inr ⟨by omega, by omega⟩) _ _)
        refine hany _ _ _ _ _ _ (wpIn_mono (hbody _ (turned_put hla _)) ?_)
        rintro e a3 W3 hp
        cases e with
        | normal =>
          obtain ⟨hk3, hi3⟩ := hp
          obtain ⟨hr, hl4, hk4, ho4, hb4⟩ := fin none _ W3 hl2 hk2 hk3
          exact ⟨_, _, hr, .inl ⟨rfl, ⟨hI _ _ _ hi3 hb4, hl4, hk4⟩, hoa.tr ho4⟩⟩
        | ret =>
          obtain ⟨hk3, hi3⟩ := hp
          obtain ⟨hr, hl4, hk4, ho4, hb4⟩ := fin (some .ret) _ W3 hl2 hk2 hk3
          exact ⟨_, _, hr, .inr ⟨rfl, ⟨.ret, hIx _ _ _ hi3 hb4, hl4, hk4⟩, hoa.tr ho4⟩⟩
        | exit id =>
          obtain ⟨hk3, hi3⟩ := hp
          obtain ⟨hr, hl4, hk4, ho4, hb4⟩ := fin (some (.exit id)) _ W3 hl2 hk2 hk3
          exact ⟨_, _, hr, .inr ⟨rfl, ⟨.exit id, hIx _ _ _ hi3 hb4, hl4, hk4⟩, hoa.tr ho4⟩⟩
        | goto t =>
          obtain ⟨hk3, hi3⟩ := hp
          obtain ⟨hr, hl4, hk4, ho4, hb4⟩ := fin (some (.goto t)) _ W3 hl2 hk2 hk3
          exact ⟨_, _, hr, .inr ⟨rfl, ⟨.goto t, hIx _ _ _ hi3 hb4, hl4, hk4⟩, hoa.tr ho4⟩⟩
        | panic ch => exact hp.elim
        | outgrown => exact hp.elim
      | ret => exact hp.elim
      | exit id => exact hp.elim
      | goto t => exact hp.elim
      | panic ch => exact hp.elim
      | outgrown => exact hp.elim
    · have hend : ∀ (r : Loop) (W2 : World), W2.heap[w.heap.size]? = some (.deferred (some [])) → W2.heap[w.heap.size + 1]? = some (.loop r) → ∀ o,
          Below w.heap.size W2 (W2.putObj (w.heap.size + 1) o) ∧ (W2.putObj (w.heap.size + 1) o).heap[w.heap.size]? = some (.deferred (some [])) := fun r W2 hd hl o =>
        ⟨(Only.putObj (C := fun k => w.heap.size ≤ k) (l := w.heap.size + 1) (by omega) W2 _).below (by have := (Array.getElem?_eq_some_iff.1 hl).1; omega) (fun k hk => hk), (World.putObj_heap_other (by omega)).trans hd⟩
      rintro e W2 ⟨⟨v, rfl⟩, (⟨hi, hl, hk⟩ | ⟨c, hi, hl, hk⟩)⟩
      · obtain ⟨q1, q2⟩ := hend _ _ hk hl (.loop { rec .ready none with state := .exhausted })
        exact ⟨none, _, by have := run_endLoop (P := P) hl (by rw [hrec]; simp); rw [hrec] at this; exact this, hdone _ (by rw [hrec] at q1; exact hI _ _ _ hi q1) (by rw [hrec] at q2; exact q2)⟩
      · obtain ⟨q1, q2⟩ := hend _ _ hk hl (.loop { rec .done (some c) with state := .exhausted })
        exact ⟨some c, _, by have := run_endLoop (P := P) hl (by rw [hrec]; simp); rw [hrec] at this; exact this, wpIn_wide.2 (hstop c _ (by rw [hrec] at q1; exact hIx _ _ _ hi q1) (by rw [hrec] at q2; exact q2))⟩
#print axioms wp_range
end Go.Proofs.YtkdglplfcpindaaGreatDoor
