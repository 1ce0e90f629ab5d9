/- Plain functions of the declarations' layer: no program is named here. -/
import Derived.Below
import Derived.Laws.Strings
import Derived.Test.YtkdhhcidpklgoaaDoorRows
import Derived.WalkKit
import Derived.Lib.Hide
import Derived.Deep.QuietTactic
import Derived.BigQuiet
import Derived.WalkSmall
namespace Go.Proofs.YtkdhhcidpklgoaaDoor
open Go.RowKit

/-! ### names -/
def lowB (b : Int) : Bool := decide (97 ≤ b ∧ b ≤ 122)
def digB (b : Int) : Bool := decide (48 ≤ b ∧ b ≤ 57)
def lodB (b : Int) : Bool := lowB b || digB b
def upB (b : Int) : Bool := decide (65 ≤ b ∧ b ≤ 90)
/-- All bytes from place k on are lowercase letters or digits. -/
def tailB (s : ByteArray) (k : Nat) : Bool := (s.data.toList.drop k).all fun c => lodB (c.toNat : Int)
def headI (s : ByteArray) : Int := match s.data.toList with | [] => 0 | c :: _ => (c.toNat : Int)
def isEmptyB (s : ByteArray) : Bool := s.toList.isEmpty
def fitsB (s : ByteArray) : Bool := decide (s.size ≤ 10) && tailB s 1
def words : List (List UInt8) := [[100, 97, 116, 97], [99, 111, 100, 97, 116, 97], [102, 117, 110], [105, 110, 116], [105, 102, 122], [99, 97, 115, 101], [99, 111, 99, 97, 115, 101], [108, 101, 116], [101, 109, 105, 116], [108, 97, 98, 101, 108], [103, 111, 116, 111]]
def resB (s : ByteArray) : Bool := words.any fun x => s.toList == x
def nameB (s : ByteArray) : Bool := !isEmptyB s && lowB (headI s) && fitsB s && !resB s
def xtorB (s : ByteArray) : Bool := !isEmptyB s && upB (headI s) && fitsB s

theorem tailB_end {s : ByteArray} {k : Nat} (h : ¬ k < s.size) : tailB s k = true := by
  unfold tailB
  rw [List.drop_eq_nil_of_le (by have : s.data.toList.length = s.size := by simp; 
                                 omega)]
  rfl
theorem tailB_step {s : ByteArray} {k : Nat} (h : k < s.size) : tailB s k = (lodB (s[k].toNat : Int) && tailB s (k + 1)) := by
  unfold tailB
  rw [List.drop_eq_getElem_cons (by simpa using h)]
  rfl
theorem lodB_eq (b : Int) : lodB b = (lowB b || digB b) := rfl
theorem size_toList (s : ByteArray) : s.data.toList.length = s.size := by simp
theorem headI_eq {s : ByteArray} (h : 0 < s.size) : headI s = (s[0].toNat : Int) := by
  unfold headI
  have e : s.data.toList = s[0] :: s.data.toList.drop 1 := by
    have h2 := List.drop_eq_getElem_cons (l := s.data.toList) (i := 0) (by simpa using h)
    rw [List.drop_zero] at h2
    exact h2
  rw [e]
theorem sizeB_zero {s : ByteArray} (h : ¬ 0 < s.size) : s.toList = [] := by
  rw [ByteArray.toList_eq]
  apply List.eq_nil_of_length_eq_zero
  rw [size_toList]; omega
theorem sizeB_pos {s : ByteArray} (h : 0 < s.size) : ¬ s.toList = [] := by
  rw [ByteArray.toList_eq]
  intro e
  have := size_toList s
  rw [e] at this
  simp at this
  omega

/-! ### declarations -/
structure Arg where
  ty : Int
  co : Bool
structure Xtor where
  name : ByteArray
  args : List Arg
structure Decl where
  name : ByteArray
  codata : Bool
  xtors : List Xtor
def hasCo (l : List Arg) : Bool := l.any Arg.co
def lastCo (l : List Arg) : Bool := (l.getLast?.map Arg.co).getD false
def endsB (l : List Arg) : Bool := lastCo l && !hasCo (l.take (l.length - 1))
def nCo (l : List Arg) : Nat := (l.filter Arg.co).length
def srcX (co : Bool) (x : Xtor) : Bool := if co then endsB x.args else !hasCo x.args
def srcD (d : Decl) : Bool := d.xtors.all (srcX d.codata)
def srcB (l : List Decl) : Bool := l.all srcD

/-! ### validity -/
/-- The name is in the list. -/
def hasS (S : List ByteArray) (k : ByteArray) : Bool := S.any fun s => k.toList == s.toList
def okTy (t : Int) (a : Arg) : Bool := decide (0 ≤ a.ty ∧ a.ty ≤ t)
def okX (t : Int) (S : List ByteArray) (x : Xtor) : Bool := xtorB x.name && !hasS S x.name && decide (x.args.length ≤ 6) && x.args.all (okTy t)
def okXs (t : Int) : List ByteArray → List Xtor → Bool
  | _, [] => true
  | S, x :: r => okX t S x && okXs t (S ++ [x.name]) r
def okD (t : Int) (S : List ByteArray) (d : Decl) : Bool := nameB d.name && !hasS S d.name && decide (1 ≤ d.xtors.length) && decide (d.xtors.length ≤ 6) && okXs t (S ++ [d.name]) d.xtors
def addXs (S : List ByteArray) (l : List Xtor) : List ByteArray := S ++ l.map Xtor.name
def addD (S : List ByteArray) (d : Decl) : List ByteArray := addXs (S ++ [d.name]) d.xtors
def okDs (t : Int) : List ByteArray → List Decl → Bool
  | _, [] => true
  | S, d :: r => okD t S d && okDs t (addD S d) r
def validB (l : List Decl) : Bool := decide (l.length ≤ 8) && okDs l.length [] l
end Go.Proofs.YtkdhhcidpklgoaaDoor

namespace Go.Proofs.YtkdhhcidpklgoaaDoor
open Go.RowKit

theorem ret_bool {a b : Bool} (h : a = b) : Ending.returned (.bool a) = .returned (.bool b) := by rw [h]

theorem IsLower_any (b : Int) (w : World) : Calls Tryd.prog 76 #[.int .u8 b] w fun e w' => e = .returned (.bool (lowB b)) ∧ w = w' := by
  unfold lowB
  go_enter Tryd.func76, Tryd.ntmps76
  by_cases h : 97 ≤ b
  all_goals
    go_wp2
    go_ret
    exact ⟨ret_bool (by apply Bool.eq_iff_iff.2; simp <;> omega), rfl⟩
theorem IsUpper_any (b : Int) (w : World) : Calls Tryd.prog 92 #[.int .u8 b] w fun e w' => e = .returned (.bool (upB b)) ∧ w = w' := by
  unfold upB
  go_enter Tryd.func92, Tryd.ntmps92
  by_cases h : 65 ≤ b
  all_goals
    go_wp2
    go_ret
    exact ⟨ret_bool (by apply Bool.eq_iff_iff.2; simp <;> omega), rfl⟩
theorem IsDigit_any (b : Int) (w : World) : Calls Tryd.prog 93 #[.int .u8 b] w fun e w' => e = .returned (.bool (digB b)) ∧ w = w' := by
  unfold digB
  go_enter Tryd.func93, Tryd.ntmps93
  by_cases h : 48 ≤ b
  all_goals
    go_wp2
    go_ret
    exact ⟨ret_bool (by apply Bool.eq_iff_iff.2; simp <;> omega), rfl⟩
/-- How many bytes from byte k on are lowercase letters or digits, without a break. -/
def runN (s : ByteArray) : Nat → Nat → Nat
  | 0, k => k
  | m + 1, k => if h : k < s.size then (if lodB (s[k].toNat : Int) then runN s m (k + 1) else k) else k
theorem runN_tail (s : ByteArray) : ∀ (m k : Nat), k ≤ s.size → s.size ≤ k + m → (decide (runN s m k = s.size) = tailB s k)
  | 0, k, h1, h2 => by
    rw [runN, tailB_end (by omega)]
    simp; omega
  | m + 1, k, h1, h2 => by
    rw [runN]
    by_cases h : k < s.size
    · rw [dif_pos h, tailB_step h]
      cases lodB (s[k].toNat : Int)
      · simp; omega
      · simpa using runN_tail s m (k + 1) h (by omega)
    · rw [dif_neg h, tailB_end h]
      simp; omega
theorem runN_le (s : ByteArray) : ∀ (m k : Nat), k ≤ s.size → k ≤ runN s m k ∧ runN s m k ≤ s.size
  | 0, k, h => by rw [runN]; omega
  | m + 1, k, h => by
    rw [runN]
    split
    · split
      · have := runN_le s m (k + 1) (by omega); omega
      · omega
    · omega
/-- The length of the word at the beginning. -/
def wordN (s : ByteArray) : Nat := if lowB (headI s) || upB (headI s) then runN s s.size 1 else 0

set_option maxHeartbeats 1000000 in
theorem Word_any (s : ByteArray) (w : World) (hs : s.size ≤ maxLen) (h0 : 0 < s.size) : Calls Tryd.prog 90 #[.string s] w fun e w' => e = .returned (.int .i64 (wordN s)) ∧ w = w' := by
  unfold maxLen at hs
  have HW : Hid (wordN s = if lowB (headI s) || upB (headI s) then runN s s.size 1 else 0) := rfl
  have HH := Lib.hid (headI_eq h0)
  have he : s.toList.isEmpty = false := by simp [sizeB_pos h0]
  have hne := sizeB_pos h0
  have HL := Lib.hid (runN_le s s.size 1 (by omega))
  generalize wordN s = wn at *
  cases q : lowB (s[0].toNat : Int)
  · cases q2 : upB (s[0].toNat : Int)
    · have HQ : Hid (wn = 0) := by show _ = _; rw [HW.out, if_neg (by rw [HH.out, q, q2]; simp)]
      go_enter Tryd.func90, Tryd.ntmps90
      go_wp2_with (first | (go_at_call 76; (with_reducible refine (IsLower_any _ _).mono ?_); rintro e w' ⟨rfl, rfl⟩) | (go_at_call 92; (with_reducible refine (IsUpper_any _ _).mono ?_); rintro e w' ⟨rfl, rfl⟩))
      go_ret
      exact ⟨by rw [HQ.out]; rfl, rfl⟩
    · have HQ : Hid (wn = runN s s.size 1) := by show _ = _; rw [HW.out, if_pos (by rw [HH.out, q2]; simp)]
      go_enter Tryd.func90, Tryd.ntmps90
      go_wp2_with (first | (go_at_call 76; (with_reducible refine (IsLower_any _ _).mono ?_); rintro e w' ⟨rfl, rfl⟩) | (go_at_call 92; (with_reducible refine (IsUpper_any _ _).mono ?_); rintro e w' ⟨rfl, rfl⟩))
      go_loop [3] (fun i => ∃ k m : Nat, k ≤ s.size ∧ s.size ≤ k + m ∧ i = .int .i64 k ∧ wn = runN s m k) (fun i => s.size - (intOf i).toNat)
      case atStart => exact ⟨1, s.size, by omega, by omega, rfl, HQ.out⟩
      case round =>
        obtain ⟨k, m, hk1, hk2, rfl, ht⟩ := hrel
        have HT := Lib.hid ht; clear ht
        by_cases hlt : k < s.size
        · obtain ⟨m, rfl⟩ : ∃ m', m = m' + 1 := ⟨m - 1, by omega⟩
          have HS : Hid (runN s (m + 1) k = if lodB (s[k].toNat : Int) then runN s m (k + 1) else k) := by show _ = _; rw [runN, dif_pos hlt]
          go_wp2_with (first | (go_at_call 76; (with_reducible refine (IsLower_any _ _).mono ?_); rintro e w' ⟨rfl, rfl⟩) | (go_at_call 93; (with_reducible refine (IsDigit_any _ _).mono ?_); rintro e w' ⟨rfl, rfl⟩))
          · have q : lowB (s[k].toNat : Int) = true := by assumption
            go_round
            case rel => exact ⟨k + 1, m, by omega, by omega, by go_num, by rw [HT.out, HS.out, if_pos (by rw [lodB_eq, q]; rfl)]⟩
            case measure => simp [intOf]; omega
          · have q : digB (s[k].toNat : Int) = true := by assumption
            go_round
            case rel => exact ⟨k + 1, m, by omega, by omega, by go_num, by rw [HT.out, HS.out, if_pos (by rw [lodB_eq, q]; simp)]⟩
            case measure => simp [intOf]; omega
          · have q : digB (s[k].toNat : Int) = false := by assumption
            have q2 : ¬ lowB (s[k].toNat : Int) = true := by assumption
            go_ret
            exact ⟨by rw [HT.out, HS.out, if_neg (by rw [lodB_eq, q]; simpa using q2)]; rfl, rfl⟩
        · have HE : Hid (runN s m k = k) := by
            show _ = _
            cases m with
            | zero => rfl
            | succ m => rw [runN, dif_neg hlt]
          go_wp2
          go_ret
          exact ⟨by rw [HT.out, HE.out]; rfl, rfl⟩
  · have HQ : Hid (wn = runN s s.size 1) := by show _ = _; rw [HW.out, if_pos (by rw [HH.out, q]; rfl)]
    go_enter Tryd.func90, Tryd.ntmps90
    go_wp2_with (first | (go_at_call 76; (with_reducible refine (IsLower_any _ _).mono ?_); rintro e w' ⟨rfl, rfl⟩) | (go_at_call 92; (with_reducible refine (IsUpper_any _ _).mono ?_); rintro e w' ⟨rfl, rfl⟩))
    go_loop [3] (fun i => ∃ k m : Nat, k ≤ s.size ∧ s.size ≤ k + m ∧ i = .int .i64 k ∧ wn = runN s m k) (fun i => s.size - (intOf i).toNat)
    case atStart => exact ⟨1, s.size, by omega, by omega, rfl, HQ.out⟩
    case round =>
      obtain ⟨k, m, hk1, hk2, rfl, ht⟩ := hrel
      have HT := Lib.hid ht; clear ht
      by_cases hlt : k < s.size
      · obtain ⟨m, rfl⟩ : ∃ m', m = m' + 1 := ⟨m - 1, by omega⟩
        have HS : Hid (runN s (m + 1) k = if lodB (s[k].toNat : Int) then runN s m (k + 1) else k) := by show _ = _; rw [runN, dif_pos hlt]
        go_wp2_with (first | (go_at_call 76; (with_reducible refine (IsLower_any _ _).mono ?_); rintro e w' ⟨rfl, rfl⟩) | (go_at_call 93; (with_reducible refine (IsDigit_any _ _).mono ?_); rintro e w' ⟨rfl, rfl⟩))
        · have q : lowB (s[k].toNat : Int) = true := by assumption
          go_round
          case rel => exact ⟨k + 1, m, by omega, by omega, by go_num, by rw [HT.out, HS.out, if_pos (by rw [lodB_eq, q]; rfl)]⟩
          case measure => simp [intOf]; omega
        · have q : digB (s[k].toNat : Int) = true := by assumption
          go_round
          case rel => exact ⟨k + 1, m, by omega, by omega, by go_num, by rw [HT.out, HS.out, if_pos (by rw [lodB_eq, q]; simp)]⟩
          case measure => simp [intOf]; omega
        · have q : digB (s[k].toNat : Int) = false := by assumption
          have q2 : ¬ lowB (s[k].toNat : Int) = true := by assumption
          go_ret
          exact ⟨by rw [HT.out, HS.out, if_neg (by rw [lodB_eq, q]; simpa using q2)]; rfl, rfl⟩
      · have HE : Hid (runN s m k = k) := by
          show _ = _
          cases m with
          | zero => rfl
          | succ m => rw [runN, dif_neg hlt]
        go_wp2
        go_ret
        exact ⟨by rw [HT.out, HE.out]; rfl, rfl⟩

theorem fits_eq1 {s : ByteArray} (h0 : 0 < s.size) (h : (s.size : Int) ≤ 10) : ((wordN s : Int) == (s.size : Int)) = ((lowB (headI s) || upB (headI s)) && fitsB s) := by
  have ht := runN_tail s s.size 1 h0 (by omega)
  have h10 : s.size ≤ 10 := by omega
  unfold fitsB wordN
  rw [← ht]
  cases (lowB (headI s) || upB (headI s))
  · simp; omega
  · simp only [if_true, Bool.true_and, h10, decide_true]
    rw [Bool.eq_iff_iff]; simp only [beq_iff_eq, decide_eq_true_eq]; exact Int.ofNat_inj
theorem fits_eq2 {s : ByteArray} (h : 10 < (s.size : Int)) : false = ((lowB (headI s) || upB (headI s)) && fitsB s) := by
  have h10 : ¬ s.size ≤ 10 := by omega
  unfold fitsB
  simp [h10]
theorem fits_any (s : ByteArray) (w : World) (hs : s.size ≤ maxLen) (h0 : 0 < s.size) : Calls Tryd.prog 77 #[.string s] w fun e w' => e = .returned (.bool ((lowB (headI s) || upB (headI s)) && fitsB s)) ∧ w = w' := by
  have HL := Lib.hid (fun h => @fits_eq1 s h0 h)
  have HG := Lib.hid (fun h => @fits_eq2 s h)
  generalize ((lowB (headI s) || upB (headI s)) && fitsB s) = fb at *
  go_enter Tryd.func77, Tryd.ntmps77
  go_wp2_with (go_at_call 90; (with_reducible refine (Word_any _ _ hs h0).mono ?_); rintro e w' ⟨rfl, rfl⟩)
  · have q : (s.size : Int) ≤ 10 := by assumption
    go_ret
    exact ⟨ret_bool (HL.out q), rfl⟩
  · have q : 10 < (s.size : Int) := by assumption
    go_ret
    exact ⟨ret_bool (HG.out q), rfl⟩

theorem reserved_any (s : ByteArray) (w : World) : Calls Tryd.prog 78 #[.string s] w fun e w' => e = .returned (.bool (resB s)) ∧ w = w' := by
  go_enter Tryd.func78, Tryd.ntmps78
  go_wp2
  all_goals first
    | (exfalso; simp_all; done)
    | (go_ret; exact ⟨ret_bool (by simp [resB, words, *]), rfl⟩)

theorem plain_eq (s : ByteArray) : (!isEmptyB s && lowB (headI s) && ((lowB (headI s) || upB (headI s)) && fitsB s) && !resB s) = (!isEmptyB s && lowB (headI s) && fitsB s && !resB s) := by
  cases lowB (headI s) <;> simp
theorem xtor_eq (s : ByteArray) : (!isEmptyB s && upB (headI s) && ((lowB (headI s) || upB (headI s)) && fitsB s)) = (!isEmptyB s && upB (headI s) && fitsB s) := by
  cases upB (headI s) <;> simp
theorem Plain_any (s : ByteArray) (w : World) (hs : s.size ≤ maxLen) : Calls Tryd.prog 58 #[.string s] w fun e w' => e = .returned (.bool (nameB s)) ∧ w = w' := by
  have HN : Hid (nameB s = (!isEmptyB s && lowB (headI s) && ((lowB (headI s) || upB (headI s)) && fitsB s) && !resB s)) := (plain_eq s).symm ▸ rfl
  by_cases h0 : 0 < s.size
  · have HH := Lib.hid (headI_eq h0)
    have he : s.toList.isEmpty = false := by simp [sizeB_pos h0]
    have hne := sizeB_pos h0
    have HE := Lib.hid he
    have HC := Lib.hid (fun w => fits_any s w hs h0)
    generalize ((lowB (headI s) || upB (headI s)) && fitsB s) = fb at *
    go_enter Tryd.func58, Tryd.ntmps58
    go_wp2_with (first | (go_at_call 76; (with_reducible refine (IsLower_any _ _).mono ?_); rintro e w' ⟨rfl, rfl⟩) | (go_at_call 77; (with_reducible refine (HC.out _).mono ?_); rintro e w' ⟨rfl, rfl⟩) | (go_at_call 78; (with_reducible refine (reserved_any _ _).mono ?_); rintro e w' ⟨rfl, rfl⟩))
    all_goals
      go_ret
      exact ⟨ret_bool (by rw [HN.out, HH.out]; simp [isEmptyB, *]), rfl⟩
  · have he := sizeB_zero h0
    go_enter Tryd.func58, Tryd.ntmps58
    go_wp2
    go_ret
    exact ⟨ret_bool (by rw [HN.out]; simp [isEmptyB, *]), rfl⟩

theorem Xtor_any (s : ByteArray) (w : World) (hs : s.size ≤ maxLen) : Calls Tryd.prog 91 #[.string s] w fun e w' => e = .returned (.bool (xtorB s)) ∧ w = w' := by
  have HN : Hid (xtorB s = (!isEmptyB s && upB (headI s) && ((lowB (headI s) || upB (headI s)) && fitsB s))) := (xtor_eq s).symm ▸ rfl
  by_cases h0 : 0 < s.size
  · have HH := Lib.hid (headI_eq h0)
    have he : s.toList.isEmpty = false := by simp [sizeB_pos h0]
    have hne := sizeB_pos h0
    have HC := Lib.hid (fun w => fits_any s w hs h0)
    generalize ((lowB (headI s) || upB (headI s)) && fitsB s) = fb at *
    go_enter Tryd.func91, Tryd.ntmps91
    go_wp2_with (first | (go_at_call 92; (with_reducible refine (IsUpper_any _ _).mono ?_); rintro e w' ⟨rfl, rfl⟩) | (go_at_call 77; (with_reducible refine (HC.out _).mono ?_); rintro e w' ⟨rfl, rfl⟩))
    all_goals
      go_ret
      refine ⟨ret_bool ?_, rfl⟩
      rw [HN.out, HH.out]
      simp [isEmptyB, *]
  · have he := sizeB_zero h0
    go_enter Tryd.func91, Tryd.ntmps91
    go_wp2
    go_ret
    exact ⟨ret_bool (by rw [HN.out]; simp [isEmptyB, *]), rfl⟩

end Go.Proofs.YtkdhhcidpklgoaaDoor

/- How the declarations lie in memory, and that new blocks do not turn it. -/
namespace Go.Proofs.YtkdhhcidpklgoaaDoor
open Go.RowKit

def RArgs (w : World) (v : Value) (l : List Arg) : Prop :=
  ∃ A c, v = .slice A l.length c ∧ l.length ≤ c ∧ c ≤ maxLen ∧
    ∀ i a, l[i]? = some a → ∃ b o, A = some ⟨b, o, none⟩ ∧ b < w.heap.size ∧ w.cell? ⟨b, o + i * 2, none⟩ = some (.int .i64 a.ty) ∧ w.cell? ⟨b, o + i * 2 + 1, none⟩ = some (.bool a.co)
def RXtors (w : World) (v : Value) (l : List Xtor) : Prop :=
  ∃ A c, v = .slice A l.length c ∧ l.length ≤ c ∧ c ≤ maxLen ∧
    ∀ i x, l[i]? = some x → ∃ b o va, A = some ⟨b, o, none⟩ ∧ b < w.heap.size ∧ w.cell? ⟨b, o + i * 2, none⟩ = some (.string x.name) ∧ w.cell? ⟨b, o + i * 2 + 1, none⟩ = some va ∧ RArgs w va x.args ∧ x.name.size ≤ maxLen
def RDecls (w : World) (v : Value) (l : List Decl) : Prop :=
  ∃ A c, v = .slice A l.length c ∧ l.length ≤ c ∧ c ≤ maxLen ∧
    ∀ i d, l[i]? = some d → ∃ b o va, A = some ⟨b, o, none⟩ ∧ b < w.heap.size ∧ w.cell? ⟨b, o + i * 3, none⟩ = some (.string d.name) ∧ w.cell? ⟨b, o + i * 3 + 1, none⟩ = some (.bool d.codata) ∧ w.cell? ⟨b, o + i * 3 + 2, none⟩ = some va ∧ RXtors w va d.xtors ∧ d.name.size ≤ maxLen
/-- A slice of bools. -/
def RBools (w : World) (v : Value) (l : List Bool) : Prop :=
  ∃ A c, v = .slice A l.length c ∧ l.length ≤ c ∧ c ≤ maxLen ∧
    ∀ i a, l[i]? = some a → ∃ b o, A = some ⟨b, o, none⟩ ∧ b < w.heap.size ∧ w.cell? ⟨b, o + i, none⟩ = some (.bool a)

section
variable {w w' : World} {v : Value}
theorem RArgs.below {l : List Arg} (h : RArgs w v l) (hb : Below w.heap.size w w') : RArgs w' v l := by
  obtain ⟨A, c, rfl, h1, h2, h3⟩ := h
  refine ⟨A, c, rfl, h1, h2, fun i a hi => ?_⟩
  obtain ⟨b, o, rfl, hlt, h4, h5⟩ := h3 i a hi
  exact ⟨b, o, rfl, Nat.lt_of_lt_of_le hlt hb.size, (hb.cell hlt).trans h4, (hb.cell hlt).trans h5⟩
theorem RXtors.below {l : List Xtor} (h : RXtors w v l) (hb : Below w.heap.size w w') : RXtors w' v l := by
  obtain ⟨A, c, rfl, h1, h2, h3⟩ := h
  refine ⟨A, c, rfl, h1, h2, fun i a hi => ?_⟩
  obtain ⟨b, o, va, rfl, hlt, h4, h5, h6, h7⟩ := h3 i a hi
  exact ⟨b, o, va, rfl, Nat.lt_of_lt_of_le hlt hb.size, (hb.cell hlt).trans h4, (hb.cell hlt).trans h5, h6.below hb, h7⟩
theorem RDecls.below {l : List Decl} (h : RDecls w v l) (hb : Below w.heap.size w w') : RDecls w' v l := by
  obtain ⟨A, c, rfl, h1, h2, h3⟩ := h
  refine ⟨A, c, rfl, h1, h2, fun i a hi => ?_⟩
  obtain ⟨b, o, va, rfl, hlt, h4, h5, h6, h7, h8⟩ := h3 i a hi
  exact ⟨b, o, va, rfl, Nat.lt_of_lt_of_le hlt hb.size, (hb.cell hlt).trans h4, (hb.cell hlt).trans h5, (hb.cell hlt).trans h6, h7.below hb, h8⟩
theorem RBools.below {l : List Bool} (h : RBools w v l) (hb : Below w.heap.size w w') : RBools w' v l := by
  obtain ⟨A, c, rfl, h1, h2, h3⟩ := h
  refine ⟨A, c, rfl, h1, h2, fun i a hi => ?_⟩
  obtain ⟨b, o, rfl, hlt, h4⟩ := h3 i a hi
  exact ⟨b, o, rfl, Nat.lt_of_lt_of_le hlt hb.size, (hb.cell hlt).trans h4⟩
theorem getElem?_take_some {α : Type} {l : List α} {n i : Nat} {a : α} (h : (l.take n)[i]? = some a) : l[i]? = some a := by
  rw [List.getElem?_take] at h
  split at h
  · exact h
  · cases h
theorem RArgs.take {l : List Arg} {A : Option Addr} {n c : Nat} (h : RArgs w (.slice A l.length c) l) (hn : n ≤ l.length) : RArgs w (.slice A n c) (l.take n) := by
  obtain ⟨A', c', he, h1, h2, h3⟩ := h
  cases he
  exact ⟨A, c, by simp [Nat.min_eq_left hn], by simp [Nat.min_eq_left hn]; omega, h2, fun i a hi => h3 i a (getElem?_take_some hi)⟩
theorem RDecls.take {l : List Decl} {A : Option Addr} {n c : Nat} (h : RDecls w (.slice A l.length c) l) (hn : n ≤ l.length) : RDecls w (.slice A n c) (l.take n) := by
  obtain ⟨A', c', he, h1, h2, h3⟩ := h
  cases he
  exact ⟨A, c, by simp [Nat.min_eq_left hn], by simp [Nat.min_eq_left hn]; omega, h2, fun i a hi => h3 i a (getElem?_take_some hi)⟩
theorem RArgs.at_ {l : List Arg} {A : Option Addr} {c : Nat} (h : RArgs w (.slice A l.length c) l) {k : Nat} (hk : k < l.length) :
    ∃ b o, A = some ⟨b, o, none⟩ ∧ b < w.heap.size ∧ w.cell? ⟨b, o + k * 2, none⟩ = some (.int .i64 l[k].ty) ∧ w.cell? ⟨b, o + k * 2 + 1, none⟩ = some (.bool l[k].co) := by
  obtain ⟨A', c', he, h1, h2, h3⟩ := h
  cases he
  exact h3 k _ (List.getElem?_eq_getElem hk)
theorem RXtors.at_ {l : List Xtor} {A : Option Addr} {c : Nat} (h : RXtors w (.slice A l.length c) l) {k : Nat} (hk : k < l.length) :
    ∃ b o va, A = some ⟨b, o, none⟩ ∧ b < w.heap.size ∧ w.cell? ⟨b, o + k * 2, none⟩ = some (.string l[k].name) ∧ w.cell? ⟨b, o + k * 2 + 1, none⟩ = some va ∧ RArgs w va l[k].args ∧ l[k].name.size ≤ maxLen := by
  obtain ⟨A', c', he, h1, h2, h3⟩ := h
  cases he
  exact h3 k _ (List.getElem?_eq_getElem hk)
theorem RDecls.at_ {l : List Decl} {A : Option Addr} {c : Nat} (h : RDecls w (.slice A l.length c) l) {k : Nat} (hk : k < l.length) :
    ∃ b o va, A = some ⟨b, o, none⟩ ∧ b < w.heap.size ∧ w.cell? ⟨b, o + k * 3, none⟩ = some (.string l[k].name) ∧ w.cell? ⟨b, o + k * 3 + 1, none⟩ = some (.bool l[k].codata) ∧ w.cell? ⟨b, o + k * 3 + 2, none⟩ = some va ∧ RXtors w va l[k].xtors ∧ l[k].name.size ≤ maxLen := by
  obtain ⟨A', c', he, h1, h2, h3⟩ := h
  cases he
  exact h3 k _ (List.getElem?_eq_getElem hk)
theorem RBools.at_ {l : List Bool} {A : Option Addr} {c : Nat} (h : RBools w (.slice A l.length c) l) {k : Nat} (hk : k < l.length) :
    ∃ b o, A = some ⟨b, o, none⟩ ∧ b < w.heap.size ∧ w.cell? ⟨b, o + k, none⟩ = some (.bool l[k]) := by
  obtain ⟨A', c', he, h1, h2, h3⟩ := h
  cases he
  exact h3 k _ (List.getElem?_eq_getElem hk)
end
theorem RArgs.form {w : World} {v : Value} {l : List Arg} (h : RArgs w v l) : ∃ A c, v = .slice A l.length c ∧ l.length ≤ c ∧ c ≤ maxLen := by
  obtain ⟨A, c, h1, h2, h3, _⟩ := h; exact ⟨A, c, h1, h2, h3⟩
theorem RXtors.form {w : World} {v : Value} {l : List Xtor} (h : RXtors w v l) : ∃ A c, v = .slice A l.length c ∧ l.length ≤ c ∧ c ≤ maxLen := by
  obtain ⟨A, c, h1, h2, h3, _⟩ := h; exact ⟨A, c, h1, h2, h3⟩
theorem RDecls.form {w : World} {v : Value} {l : List Decl} (h : RDecls w v l) : ∃ A c, v = .slice A l.length c ∧ l.length ≤ c ∧ c ≤ maxLen := by
  obtain ⟨A, c, h1, h2, h3, _⟩ := h; exact ⟨A, c, h1, h2, h3⟩
theorem RBools.form {w : World} {v : Value} {l : List Bool} (h : RBools w v l) : ∃ A c, v = .slice A l.length c ∧ l.length ≤ c ∧ c ≤ maxLen := by
  obtain ⟨A, c, h1, h2, h3, _⟩ := h; exact ⟨A, c, h1, h2, h3⟩
/-- All that was there is as it was. -/
abbrev Ext (w w' : World) : Prop := Below w.heap.size w w'
theorem cell_lt {w : World} {p : Addr} {v : Value} (h : w.cell? p = some v) : p.block < w.heap.size := by
  rcases Nat.lt_or_ge p.block w.heap.size with h1 | h1
  · exact h1
  · unfold World.cell? at h
    rw [Array.getElem?_eq_none h1] at h
    cases h
theorem Ext.keep {w w' : World} {p : Addr} {v : Value} (hb : Ext w w') (h : w.cell? p = some v) : w'.cell? p = some v := (hb.cell (cell_lt h)).trans h
theorem Ext.al (w : World) (o : Obj) : Ext w (w.alloc o) := (Below.refl _ _).alloc (Nat.le_refl _) _
theorem Ext.tr {a b c : World} (h : Ext a b) (k : Ext b c) : Ext a c := Below.trans h (Below.mono k h.size)
theorem Ext.rf (w : World) : Ext w w := Below.refl _ _
theorem drop_step {α : Type} {l : List α} {k : Nat} (h : k < l.length) : l.drop k = l[k] :: l.drop (k + 1) := List.drop_eq_getElem_cons h
theorem drop_end {α : Type} {l : List α} {k : Nat} (h : ¬ k < l.length) : l.drop k = [] := List.drop_eq_nil_of_le (by omega)

end Go.Proofs.YtkdhhcidpklgoaaDoor

namespace Go.Proofs.YtkdhhcidpklgoaaDoor
open Go.RowKit

theorem ret_int {k : IntKind} {a b : Int} (h : a = b) : Ending.returned (.int k a) = .returned (.int k b) := by rw [h]

/-- A declaration as a value. -/
def RDecl (w : World) (v : Value) (d : Decl) : Prop := ∃ va, v = .agg #[.string d.name, .bool d.codata, va] ∧ RXtors w va d.xtors ∧ d.name.size ≤ maxLen

end Go.Proofs.YtkdhhcidpklgoaaDoor

/- ref.go: Same of declarations. -/
namespace Go.Proofs.YtkdhhcidpklgoaaDoor
open Go.RowKit

theorem Ext.drewN {w w' : World} (h : Ext w w') (n : Nat) : Ext w (w'.drewN n) := ⟨h.os, h.tape, h.output, h.size, h.block⟩
def eqArg (a b : Arg) : Bool := (a.ty == b.ty) && (a.co == b.co)
def eqAs : List Arg → List Arg → Bool
  | [], [] => true
  | a :: r, b :: t => eqArg a b && eqAs r t
  | _, _ => false
theorem eqAs_cons (x y : Arg) (a b : List Arg) : eqAs (x :: a) (y :: b) = (eqArg x y && eqAs a b) := rfl
theorem eqAs_len : ∀ (a b : List Arg), ¬ a.length = b.length → eqAs a b = false
  | [], [], h => by simp at h
  | [], _ :: _, _ => rfl
  | _ :: _, [], _ => rfl
  | x :: a, y :: b, h => by rw [eqAs_cons, eqAs_len a b (by simpa using h), Bool.and_false]

set_option maxRecDepth 100000 in
theorem neq_arg (x y : Arg) (W : World) : (binOp .neq 100 (.agg #[.int .i64 x.ty, .bool x.co]) (.agg #[.int .i64 y.ty, .bool y.co])).run Tryd.prog W = .ok (.bool (!(eqArg x y))) W := by
  have hf : Tryd.prog.fieldsOf 100 = (match Tryd.prog.underlying 100 with | some (.struct fs) => fs | _ => #[]) := rfl
  have hs : Tryd.prog.stoodInHeld 100 = false := by kernel_rfl
  have hu : Tryd.prog.underlying 100 = some (.struct (Tryd.prog.fieldsOf 100)) := by rw [hf, Tryd.underlying100]
  rw [run_neq_struct, run_equalIn_struct W 9999 100 _ _ hu hs, hf, Tryd.underlying100]
  simp [go_sem, Op.eqFields, eqArg]
  by_cases h1 : x.ty = y.ty <;> by_cases h2 : x.co = y.co <;> simp [h1, h2]
set_option maxRecDepth 100000 in
theorem SameArgs_any (v v' : Value) (a b : List Arg) (w : World) (h : RArgs w v a) (h' : RArgs w v' b) :
    Calls Tryd.prog 28 #[v, v'] w fun e w' => e = .returned (.bool (eqAs a b)) ∧ ∃ n, w' = w.drewN n := by
  have HR := Lib.hid h
  have HR' := Lib.hid h'
  obtain ⟨A, c, rfl, hc, hm⟩ := h.form
  obtain ⟨A', c', rfl, hc', hm'⟩ := h'.form
  clear h h'
  unfold maxLen at hm hm'
  go_enter Tryd.func28, Tryd.ntmps28
  by_cases hl : a.length = b.length
  · have HL := Lib.hid hl
    have hlt' : ((a.length : Int) == b.length) = true := by simp [hl]
    have hlt2 : ((a.length : Int) != b.length) = false := by simp [hl]
    have hle : a.length ≤ b.length := by omega
    clear hl
    go_wp2
    go_loopw [13] (fun i wr => ∃ k n : Nat, k ≤ a.length ∧ i = .int .i64 k ∧ wr = w.drewN n ∧ eqAs a b = eqAs (a.drop k) (b.drop k)) (fun i _ => a.length - (intOf i).toNat)
    case atStart => exact ⟨0, 0, Nat.zero_le _, rfl, rfl, rfl⟩
    case round =>
      obtain ⟨k, n, hk, rfl, rfl, hno⟩ := hrel
      have HN := Lib.hid hno
      clear hno
      by_cases hlt : k < a.length
      · obtain ⟨b1, o1, rfl, hbl1, g0, f0⟩ := HR.out.at_ hlt
        obtain ⟨b2, o2, rfl, hbl2, g1, f1⟩ := HR'.out.at_ (k := k) (by omega)
        have HD := Lib.hid (drop_step hlt)
        have HD' := Lib.hid (drop_step (l := b) (k := k) (by omega))
        generalize a[k] = x at *
        generalize b[k] = y at *
        have hk2 : k < b.length := by omega
        have hne := neq_arg x y
        have hg : Tryd.prog.eqGuardType Tryd.prog.depth 100 = false := by kernel_rfl
        go_wp2
        go_quiet (fail)
        go_wp2
        · have q : (!eqArg x y) = true := by assumption
          go_ret
          exact ⟨ret_bool (by rw [HN.out, HD.out, HD'.out, eqAs_cons]; simp at q; simp [q]), n + nq, by simp⟩
        · have q : (!eqArg x y) = false := by assumption
          go_roundw
          case rel => exact ⟨k + 1, n + nq, by omega, by go_num, by simp, by rw [HN.out, HD.out, HD'.out, eqAs_cons]; simp at q; simp [q]⟩
          case measure => simp [intOf]; omega
      · go_wp2
        go_ret
        have hlb : ¬ k < b.length := by have := HL.out; omega
        exact ⟨ret_bool (by rw [HN.out, drop_end hlt, drop_end hlb]; rfl), n, rfl⟩
  · have hlt' : ((a.length : Int) == b.length) = false := by simp; omega
    have hlt2 : ((a.length : Int) != b.length) = true := by simp; omega
    have HQ := Lib.hid (eqAs_len a b hl)
    go_wp2
    go_ret
    exact ⟨ret_bool HQ.out.symm, 0, rfl⟩

def eqX (x y : Xtor) : Bool := (x.name.toList == y.name.toList) && eqAs x.args y.args
def eqXs : List Xtor → List Xtor → Bool
  | [], [] => true
  | a :: r, b :: t => eqX a b && eqXs r t
  | _, _ => false
def eqD (d e : Decl) : Bool := (d.name.toList == e.name.toList) && (d.codata == e.codata) && eqXs d.xtors e.xtors
def eqDs : List Decl → List Decl → Bool
  | [], [] => true
  | a :: r, b :: t => eqD a b && eqDs r t
  | _, _ => false
theorem eqXs_cons (x y : Xtor) (a b : List Xtor) : eqXs (x :: a) (y :: b) = (eqX x y && eqXs a b) := rfl
theorem eqDs_cons (x y : Decl) (a b : List Decl) : eqDs (x :: a) (y :: b) = (eqD x y && eqDs a b) := rfl
theorem eqXs_len : ∀ (a b : List Xtor), ¬ a.length = b.length → eqXs a b = false
  | [], [], h => by simp at h
  | [], _ :: _, _ => rfl
  | _ :: _, [], _ => rfl
  | x :: a, y :: b, h => by rw [eqXs_cons, eqXs_len a b (by simpa using h), Bool.and_false]
theorem eqDs_len : ∀ (a b : List Decl), ¬ a.length = b.length → eqDs a b = false
  | [], [], h => by simp at h
  | [], _ :: _, _ => rfl
  | _ :: _, [], _ => rfl
  | x :: a, y :: b, h => by rw [eqDs_cons, eqDs_len a b (by simpa using h), Bool.and_false]
theorem eqD_bad1 {d e : Decl} (h : (d.name.toList == e.name.toList) = false) : eqD d e = false := by simp [eqD, h]
theorem eqD_bad2 {d e : Decl} (h : (d.codata == e.codata) = false) : eqD d e = false := by simp [eqD, h]
theorem eqD_bad3 {d e : Decl} (h : ¬ d.xtors.length = e.xtors.length) : eqD d e = false := by simp [eqD, eqXs_len _ _ h]
theorem eqD_good {d e : Decl} (h : (d.name.toList == e.name.toList) = true) (h2 : (d.codata == e.codata) = true) : eqD d e = eqXs d.xtors e.xtors := by simp [eqD, h, h2]

set_option maxHeartbeats 2000000 in
set_option maxRecDepth 100000 in
theorem RSameD_any (v v' : Value) (a b : List Decl) (w : World) (h : RDecls w v a) (h' : RDecls w v' b) :
    Calls Tryd.prog 27 #[v, v'] w fun e w' => e = .returned (.bool (eqDs a b)) ∧ Ext w w' := by
  have HR := Lib.hid h
  have HR' := Lib.hid h'
  obtain ⟨A, c, rfl, hc, hm⟩ := h.form
  obtain ⟨A', c', rfl, hc', hm'⟩ := h'.form
  clear h h'
  unfold maxLen at hm hm'
  go_enter Tryd.func27, Tryd.ntmps27
  by_cases hl : a.length = b.length
  · have HL := Lib.hid hl
    have hlt' : ((a.length : Int) == b.length) = true := by simp [hl]
    have hlt2 : ((a.length : Int) != b.length) = false := by simp [hl]
    have hle : a.length ≤ b.length := by omega
    clear hl
    go_wp2
    go_loopw [15] (fun i wr => ∃ k : Nat, k ≤ a.length ∧ i = .int .i64 k ∧ Ext w wr ∧ eqDs a b = eqDs (a.drop k) (b.drop k)) (fun i _ => a.length - (intOf i).toNat)
    case atStart => exact ⟨0, Nat.zero_le _, rfl, Ext.rf _, rfl⟩
    case round =>
      obtain ⟨k, hk, rfl, hb, hno⟩ := hrel
      obtain ⟨wo, rfl⟩ : ∃ wo : World, wo = wr := ⟨_, rfl⟩
      have HN := Lib.hid hno; have HB := Lib.hid hb
      clear hb hno
      by_cases hlt : k < a.length
      · obtain ⟨b1, o1, v1, rfl, hbl1, g0, g1, g2, g3, g4⟩ := HR.out.at_ hlt
        obtain ⟨b2, o2, v2, rfl, hbl2, f0, f1, f2, f3, f4⟩ := HR'.out.at_ (k := k) (by omega)
        have g0 := HB.out.keep g0
        have g1 := HB.out.keep g1
        have g2 := HB.out.keep g2
        have f0 := HB.out.keep f0
        have f1 := HB.out.keep f1
        have f2 := HB.out.keep f2
        have HD := Lib.hid (drop_step hlt)
        have HD' := Lib.hid (drop_step (l := b) (k := k) (by omega))
        generalize a[k] = x at *
        generalize b[k] = y at *
        obtain ⟨xn, xc, xs⟩ := x
        obtain ⟨yn, yc, ys⟩ := y
        dsimp only at *
        obtain ⟨A2, c2, rfl, hc2, hm2⟩ := g3.form
        obtain ⟨A3, c3, rfl, hc3, hm3⟩ := f3.form
        unfold maxLen at hm2 hm3
        have HX := Lib.hid g3; have HY := Lib.hid f3; clear g3 f3
        have hk2 : k < b.length := by omega
        have HNO : Hid (eqD ⟨xn, xc, xs⟩ ⟨yn, yc, ys⟩ = false → eqDs a b = false) := fun e => by rw [HN.out, HD.out, HD'.out, eqDs_cons, e]; rfl
        cases hq : (xn.toList == yn.toList)
        · have HQ := Lib.hid (HNO.out (eqD_bad1 hq))
          have hq' : (xn.toList == yn.toList) = false := hq
          go_wp2
          go_quiet (fail)
          go_wp2
          go_ret
          exact ⟨ret_bool HQ.out.symm, HB.out.drewN _⟩
        · have HQ1 := Lib.hid hq
          have hq' : (xn.toList == yn.toList) = true := hq
          cases hq2 : (xc == yc)
          · have HQ := Lib.hid (HNO.out (eqD_bad2 hq2))
            have hq2' : (xc == yc) = false := hq2
            have hq3' : (xc != yc) = true := by rw [bne, hq2]; rfl
            go_wp2
            go_quiet (fail)
            go_wp2
            go_ret
            exact ⟨ret_bool HQ.out.symm, HB.out.drewN _⟩
          · have HQ2 := Lib.hid hq2
            have hq2' : (xc == yc) = true := hq2
            have hq3' : (xc != yc) = false := by rw [bne, hq2]; rfl
            by_cases hxl : xs.length = ys.length
            · have HG := Lib.hid (eqD_good (d := ⟨xn, xc, xs⟩) (e := ⟨yn, yc, ys⟩) HQ1.out HQ2.out)
              have HXL := Lib.hid hxl
              have hxl1 : ((xs.length : Int) == ys.length) = true := by simp [hxl]
              have hxl2 : ((xs.length : Int) != ys.length) = false := by simp [hxl]
              have hxle : xs.length ≤ ys.length := by omega
              clear hxl
              go_wp2
              go_quiet (fail)
              go_wp2
              go_loopw [63] (fun i wr => ∃ j : Nat, j ≤ xs.length ∧ i = .int .i64 j ∧ Ext wo wr ∧ eqXs xs ys = eqXs (xs.drop j) (ys.drop j)) (fun i _ => xs.length - (intOf i).toNat)
              case atStart => exact ⟨0, Nat.zero_le _, rfl, (Ext.rf _).drewN _, rfl⟩
              case round =>
                obtain ⟨j, hj, rfl, hb2, hno2⟩ := hrel
                have HN2 := Lib.hid hno2; have HB2 := Lib.hid hb2
                clear hb2 hno2
                by_cases hlt2' : j < xs.length
                · have HBw := Lib.hid (HB.out.tr HB2.out)
                  obtain ⟨b3, o3, v3, rfl, hbl3, p0, p1, p2, p3⟩ := HX.out.at_ hlt2'
                  obtain ⟨b4, o4, v4, rfl, hbl4, q0, q1, q2, q3⟩ := HY.out.at_ (k := j) (by omega)
                  have p0 := HBw.out.keep p0
                  have p1 := HBw.out.keep p1
                  have q0 := HBw.out.keep q0
                  have q1 := HBw.out.keep q1
                  have f2 := HB2.out.keep f2
                  have HD2 := Lib.hid (drop_step hlt2')
                  have HD2' := Lib.hid (drop_step (l := ys) (k := j) (by omega))
                  generalize xs[j] = x at *
                  generalize ys[j] = y at *
                  obtain ⟨A5, c5, rfl, -⟩ := p2.form
                  obtain ⟨A6, c6, rfl, -⟩ := q2.form
                  have hE5 := Ext.al wr (Obj.cells #[Value.string x.name, Value.slice A5 x.args.length c5] 50)
                  have HW5 := Lib.hid (HBw.out.tr hE5)
                  have HW6 := Lib.hid (HB2.out.tr hE5)
                  have p0 := hE5.keep p0
                  have p1 := hE5.keep p1
                  have q0 := hE5.keep q0
                  have q1 := hE5.keep q1
                  have f2 := hE5.keep f2
                  have r0 : (wr.alloc (Obj.cells #[Value.string x.name, Value.slice A5 x.args.length c5] 50)).cell? ⟨wr.heap.size, 0, none⟩ = some (.string x.name) := by
                    rw [World.cell?_alloc_at _ _ _ _ rfl]; rfl
                  have r1 : (wr.alloc (Obj.cells #[Value.string x.name, Value.slice A5 x.args.length c5] 50)).cell? ⟨wr.heap.size, 1, none⟩ = some (.slice A5 x.args.length c5) := by
                    rw [World.cell?_alloc_at _ _ _ _ rfl]; rfl
                  have HP := Lib.hid (p2.below HW5.out)
                  have HQ := Lib.hid (q2.below HW5.out)
                  clear p2 q2 hE5
                  have hjy : j < ys.length := by omega
                  have HNX : Hid (eqX x y = false → eqDs a b = false) := fun e => HNO.out (by rw [HG.out, HN2.out, HD2.out, HD2'.out, eqXs_cons, e]; rfl)
                  have HEX : Hid (eqX x y = ((x.name.toList == y.name.toList) && eqAs x.args y.args)) := rfl
                  go_wp2
                  generalize wr.alloc _ = w5 at *
                  cases hqx : (x.name.toList == y.name.toList)
                  · have HQX := Lib.hid hqx
                    have hqx' : (x.name.toList == y.name.toList) = false := hqx
                    go_quiet (fail)
                    go_wp2
                    go_ret
                    exact ⟨ret_bool (HNX.out (by rw [HEX.out, HQX.out]; rfl)).symm, HW5.out.drewN _⟩
                  · have HQX := Lib.hid hqx
                    have hqx' : (x.name.toList == y.name.toList) = true := hqx
                    have HSA : Hid (∀ n, Calls Tryd.prog 28 #[Value.slice A5 x.args.length c5, Value.slice A6 y.args.length c6] (w5.drewN n) fun e w' => e = .returned (.bool (eqAs x.args y.args)) ∧ ∃ m, w' = (w5.drewN n).drewN m) := fun n => SameArgs_any _ _ _ _ _ HP.out HQ.out
                    cases hqa : eqAs x.args y.args
                    · have HQA := Lib.hid hqa
                      rw [hqa] at HSA
                      clear hqa
                      go_quiet ((go_at_call 28; exact Calls.quiet_of (HSA.out _)))
                      go_wp2
                      go_ret
                      exact ⟨ret_bool (HNX.out (by rw [HEX.out, HQA.out, Bool.and_false])).symm, HW5.out.drewN _⟩
                    · have HQA := Lib.hid hqa
                      rw [hqa] at HSA
                      clear hqa
                      go_quiet ((go_at_call 28; exact Calls.quiet_of (HSA.out _)))
                      go_wp2
                      go_roundw
                      case rel => exact ⟨j + 1, by omega, by go_num, HW6.out.drewN _, by rw [HN2.out, HD2.out, HD2'.out, eqXs_cons, HEX.out, HQX.out, HQA.out]; rfl⟩
                      case measure => simp [intOf]; omega
                · go_wp2
                  go_roundw
                  case rel =>
                    have hlb : ¬ j < ys.length := by have := HXL.out; omega
                    exact ⟨k + 1, by omega, by go_num, HB.out.tr HB2.out, by rw [HN.out, HD.out, HD'.out, eqDs_cons, HG.out, HN2.out, drop_end hlt2', drop_end hlb]; rfl⟩
                  case measure => simp [intOf]; omega
            · have HQ := Lib.hid (HNO.out (eqD_bad3 hxl))
              have hxl1 : ((xs.length : Int) == ys.length) = false := by simp; omega
              have hxl2 : ((xs.length : Int) != ys.length) = true := by simp; omega
              clear hxl
              go_wp2
              go_quiet (fail)
              go_wp2
              go_ret
              exact ⟨ret_bool HQ.out.symm, HB.out.drewN _⟩
      · go_wp2
        go_ret
        have hlb : ¬ k < b.length := by have := HL.out; omega
        exact ⟨ret_bool (by rw [HN.out, drop_end hlt, drop_end hlb]; rfl), HB.out⟩
  · have hlt' : ((a.length : Int) == b.length) = false := by simp; omega
    have hlt2 : ((a.length : Int) != b.length) = true := by simp; omega
    have HQ := Lib.hid (eqDs_len a b hl)
    go_wp2
    go_ret
    exact ⟨ret_bool HQ.out.symm, Ext.rf _⟩
theorem eqAs_refl : ∀ l, eqAs l l = true
  | [] => rfl
  | a :: r => by rw [eqAs_cons, eqAs_refl r]; simp [eqArg]
theorem eqXs_refl : ∀ l, eqXs l l = true
  | [] => rfl
  | a :: r => by rw [eqXs_cons, eqXs_refl r]; simp [eqX, eqAs_refl]
theorem eqDs_refl : ∀ l, eqDs l l = true
  | [] => rfl
  | a :: r => by
    show (eqD a a && eqDs r r) = true
    rw [eqDs_refl r]; simp [eqD, eqXs_refl]
end Go.Proofs.YtkdhhcidpklgoaaDoor

namespace Go.Proofs.YtkdhhcidpklgoaaDoor
open Go.RowKit

/-! ### the calls -/
def findX (nm : ByteArray) : Nat → List Xtor → Option Nat
  | _, [] => none
  | k, x :: r => if x.name.toList == nm.toList then some k else findX nm (k + 1) r
def findD (nm : ByteArray) : Nat → List Decl → Option (Nat × Nat)
  | _, [] => none
  | i, d :: r => match findX nm 0 d.xtors with
    | some k => some (i + 1, k)
    | none => findD nm (i + 1) r
def negI (t n : Int) : Bool := decide (1 ≤ t ∧ t ≤ n)
def posB (l : List Decl) (t : Int) : Bool × Int :=
  if validB l = false then (false, 10) else if t = 0 then (true, 0) else match l[(t - 1).toNat]? with
    | some d => if 1 ≤ t then (!d.codata, 0) else (false, 1)
    | none => (false, 1)
def lastTy (l : List Arg) : Int := (l.getLast?.map Arg.ty).getD 0
def resI (l : List Decl) (t n : Int) : Int × Int :=
  if validB l = false then (0, 10) else if 1 ≤ t ∧ 0 ≤ n then match l[(t - 1).toNat]? with
    | some d => if d.codata then match d.xtors[n.toNat]? with
      | some x => if endsB x.args then (lastTy x.args, 0) else (0, 1)
      | none => (0, 1)
      else (0, 1)
    | none => (0, 1)
    else (0, 1)
end Go.Proofs.YtkdhhcidpklgoaaDoor
