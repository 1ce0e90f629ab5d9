/- Plain functions of the declarations' layer: no program is named here. -/
import Derived.Below
import Derived.Laws.Strings
import Derived.Test.YtkdhhcidpklgoaaGreatDoorRows
import Derived.WalkKit
import Derived.Lib.Hide
namespace Go.Proofs.YtkdhhcidpklgoaaGreatDoor
open Go.RowKit

/-! ### names -/
def lowB (b : Int) : Bool := decide (97 ≤ b ∧ b ≤ 122)
def digB (b : Int) : Bool := decide (48 ≤ b ∧ b ≤ 57)
def lodB (b : Int) : Bool := lowB b || digB b
def upB (b : Int) : Bool := decide (65 ≤ b ∧ b ≤ 90)
/-- All bytes from place k on are lowercase letters or digits. -/
def tailB (s : ByteArray) (k : Nat) : Bool := (s.data.toList.drop k).all fun c => lodB (c.toNat : Int)
def headI (s : ByteArray) : Int := match s.data.toList with | [] => 0 | c :: _ => (c.toNat : Int)
def isEmptyB (s : ByteArray) : Bool := s.toList.isEmpty
def fitsB (s : ByteArray) : Bool := decide (s.size ≤ 10) && tailB s 1
def words : List (List UInt8) := [[100, 97, 116, 97], [99, 111, 100, 97, 116, 97], [102, 117, 110], [105, 110, 116], [105, 102, 122], [99, 97, 115, 101], [99, 111, 99, 97, 115, 101], [108, 101, 116], [101, 109, 105, 116], [108, 97, 98, 101, 108], [103, 111, 116, 111]]
def resB (s : ByteArray) : Bool := words.any fun x => s.toList == x
def nameB (s : ByteArray) : Bool := !isEmptyB s && lowB (headI s) && fitsB s && !resB s
def xtorB (s : ByteArray) : Bool := !isEmptyB s && upB (headI s) && fitsB s

theorem tailB_end {s : ByteArray} {k : Nat} (h : ¬ k < s.size) : tailB s k = true := by
  unfold tailB
  rw [List.drop_eq_nil_of_le (by have : s.data.toList.length = s.size := by simp; 
                                 omega)]
  rfl
theorem tailB_step {s : ByteArray} {k : Nat} (h : k < s.size) : tailB s k = (lodB (s[k].toNat : Int) && tailB s (k + 1)) := by
  unfold tailB
  rw [List.drop_eq_getElem_cons (by simpa using h)]
  rfl
theorem lodB_eq (b : Int) : lodB b = (lowB b || digB b) := rfl
theorem size_toList (s : ByteArray) : s.data.toList.length = s.size := by simp
theorem headI_eq {s : ByteArray} (h : 0 < s.size) : headI s = (s[0].toNat : Int) := by
  unfold headI
  have e : s.data.toList = s[0] :: s.data.toList.drop 1 := by
    have h2 := List.drop_eq_getElem_cons (l := s.data.toList) (i := 0) (by simpa using h)
    rw [List.drop_zero] at h2
    exact h2
  rw [e]
theorem sizeB_zero {s : ByteArray} (h : ¬ 0 < s.size) : s.toList = [] := by
  rw [ByteArray.toList_eq]
  apply List.eq_nil_of_length_eq_zero
  rw [size_toList]; omega
theorem sizeB_pos {s : ByteArray} (h : 0 < s.size) : ¬ s.toList = [] := by
  rw [ByteArray.toList_eq]
  intro e
  have := size_toList s
  rw [e] at this
  simp at this
  omega

/-! ### declarations -/
structure Arg where
  ty : Int
  co : Bool
structure Xtor where
  name : ByteArray
  args : List Arg
structure Decl where
  name : ByteArray
  codata : Bool
  xtors : List Xtor
def hasCo (l : List Arg) : Bool := l.any Arg.co
def lastCo (l : List Arg) : Bool := (l.getLast?.map Arg.co).getD false
def endsB (l : List Arg) : Bool := lastCo l && !hasCo (l.take (l.length - 1))
def nCo (l : List Arg) : Nat := (l.filter Arg.co).length
def srcX (co : Bool) (x : Xtor) : Bool := if co then endsB x.args else !hasCo x.args
def srcD (d : Decl) : Bool := d.xtors.all (srcX d.codata)
def srcB (l : List Decl) : Bool := l.all srcD

/-! ### validity -/
/-- The name is in the list. -/
def hasS (S : List ByteArray) (k : ByteArray) : Bool := S.any fun s => k.toList == s.toList
def okTy (t : Int) (a : Arg) : Bool := decide (0 ≤ a.ty ∧ a.ty ≤ t)
def okX (t : Int) (S : List ByteArray) (x : Xtor) : Bool := xtorB x.name && !hasS S x.name && decide (x.args.length ≤ 6) && x.args.all (okTy t)
def okXs (t : Int) : List ByteArray → List Xtor → Bool
  | _, [] => true
  | S, x :: r => okX t S x && okXs t (S ++ [x.name]) r
def okD (t : Int) (S : List ByteArray) (d : Decl) : Bool := nameB d.name && !hasS S d.name && decide (1 ≤ d.xtors.length) && decide (d.xtors.length ≤ 6) && okXs t (S ++ [d.name]) d.xtors
def addXs (S : List ByteArray) (l : List Xtor) : List ByteArray := S ++ l.map Xtor.name
def addD (S : List ByteArray) (d : Decl) : List ByteArray := addXs (S ++ [d.name]) d.xtors
def okDs (t : Int) : List ByteArray → List Decl → Bool
  | _, [] => true
  | S, d :: r => okD t S d && okDs t (addD S d) r
def validB (l : List Decl) : Bool := decide (l.length ≤ 8) && okDs l.length [] l
end Go.Proofs.YtkdhhcidpklgoaaGreatDoor

namespace Go.Proofs.YtkdhhcidpklgoaaGreatDoor
open Go.RowKit

theorem ret_bool {a b : Bool} (h : a = b) : Ending.returned (.bool a) = .returned (.bool b) := by rw [h]

theorem IsLower_any (b : Int) (w : World) : Calls Tryz.prog 129 #[.int .u8 b] w fun e w' => e = .returned (.bool (lowB b)) ∧ w = w' := by
  unfold lowB
  go_enter Tryz.func129, Tryz.ntmps129
  by_cases h : 97 ≤ b
  all_goals
    go_wp2
    go_ret
    exact ⟨ret_bool (by apply Bool.eq_iff_iff.2; simp <;> omega), rfl⟩
theorem IsUpper_any (b : Int) (w : World) : Calls Tryz.prog 145 #[.int .u8 b] w fun e w' => e = .returned (.bool (upB b)) ∧ w = w' := by
  unfold upB
  go_enter Tryz.func145, Tryz.ntmps145
  by_cases h : 65 ≤ b
  all_goals
    go_wp2
    go_ret
    exact ⟨ret_bool (by apply Bool.eq_iff_iff.2; simp <;> omega), rfl⟩
theorem IsDigit_any (b : Int) (w : World) : Calls Tryz.prog 146 #[.int .u8 b] w fun e w' => e = .returned (.bool (digB b)) ∧ w = w' := by
  unfold digB
  go_enter Tryz.func146, Tryz.ntmps146
  by_cases h : 48 ≤ b
  all_goals
    go_wp2
    go_ret
    exact ⟨ret_bool (by apply Bool.eq_iff_iff.2; simp <;> omega), rfl⟩
theorem Lower_any (b : Int) (w : World) : Calls Tryz.prog 113 #[.int .u8 b] w fun e w' => e = .returned (.bool (lodB b)) ∧ w = w' := by
  unfold lodB lowB digB
  go_enter Tryz.func113, Tryz.ntmps113
  by_cases h : 97 ≤ b <;> by_cases h2 : b ≤ 122 <;> by_cases h3 : 48 ≤ b
  all_goals
    go_wp2
    go_ret
    exact ⟨ret_bool (by apply Bool.eq_iff_iff.2; simp <;> omega), rfl⟩

/-- How many bytes from byte k on are lowercase letters or digits, without a break. -/
def runN (s : ByteArray) : Nat → Nat → Nat
  | 0, k => k
  | m + 1, k => if h : k < s.size then (if lodB (s[k].toNat : Int) then runN s m (k + 1) else k) else k
theorem runN_tail (s : ByteArray) : ∀ (m k : Nat), k ≤ s.size → s.size ≤ k + m → (decide (runN s m k = s.size) = tailB s k)
  | 0, k, h1, h2 => by
    rw [runN, tailB_end (by omega)]
    simp; omega
  | m + 1, k, h1, h2 => by
    rw [runN]
    by_cases h : k < s.size
    · rw [dif_pos h, tailB_step h]
      cases lodB (s[k].toNat : Int)
      · simp; omega
      · simpa using runN_tail s m (k + 1) h (by omega)
    · rw [dif_neg h, tailB_end h]
      simp; omega
theorem runN_le (s : ByteArray) : ∀ (m k : Nat), k ≤ s.size → k ≤ runN s m k ∧ runN s m k ≤ s.size
  | 0, k, h => by rw [runN]; omega
  | m + 1, k, h => by
    rw [runN]
    split
    · split
      · have := runN_le s m (k + 1) (by omega); omega
      · omega
    · omega
/-- The length of the word at the beginning. -/
def wordN (s : ByteArray) : Nat := if lowB (headI s) || upB (headI s) then runN s s.size 1 else 0

set_option maxHeartbeats 1000000 in
theorem Word_any (s : ByteArray) (w : World) (hs : s.size ≤ maxLen) (h0 : 0 < s.size) : Calls Tryz.prog 143 #[.string s] w fun e w' => e = .returned (.int .i64 (wordN s)) ∧ w = w' := by
  unfold maxLen at hs
  have HW : Hid (wordN s = if lowB (headI s) || upB (headI s) then runN s s.size 1 else 0) := rfl
  have HH := Lib.hid (headI_eq h0)
  have he : s.toList.isEmpty = false := by simp [sizeB_pos h0]
  have hne := sizeB_pos h0
  have HL := Lib.hid (runN_le s s.size 1 (by omega))
  generalize wordN s = wn at *
  cases q : lowB (s[0].toNat : Int)
  · cases q2 : upB (s[0].toNat : Int)
    · have HQ : Hid (wn = 0) := by show _ = _; rw [HW.out, if_neg (by rw [HH.out, q, q2]; simp)]
      go_enter Tryz.func143, Tryz.ntmps143
      go_wp2_with (first | (go_at_call 129; (with_reducible refine (IsLower_any _ _).mono ?_); rintro e w' ⟨rfl, rfl⟩) | (go_at_call 145; (with_reducible refine (IsUpper_any _ _).mono ?_); rintro e w' ⟨rfl, rfl⟩))
      go_ret
      exact ⟨by rw [HQ.out]; rfl, rfl⟩
    · have HQ : Hid (wn = runN s s.size 1) := by show _ = _; rw [HW.out, if_pos (by rw [HH.out, q2]; simp)]
      go_enter Tryz.func143, Tryz.ntmps143
      go_wp2_with (first | (go_at_call 129; (with_reducible refine (IsLower_any _ _).mono ?_); rintro e w' ⟨rfl, rfl⟩) | (go_at_call 145; (with_reducible refine (IsUpper_any _ _).mono ?_); rintro e w' ⟨rfl, rfl⟩))
      go_loop [3] (fun i => ∃ k m : Nat, k ≤ s.size ∧ s.size ≤ k + m ∧ i = .int .i64 k ∧ wn = runN s m k) (fun i => s.size - (intOf i).toNat)
      case atStart => exact ⟨1, s.size, by omega, by omega, rfl, HQ.out⟩
      case round =>
        obtain ⟨k, m, hk1, hk2, rfl, ht⟩ := hrel
        have HT := Lib.hid ht; clear ht
        by_cases hlt : k < s.size
        · obtain ⟨m, rfl⟩ : ∃ m', m = m' + 1 := ⟨m - 1, by omega⟩
          have HS : Hid (runN s (m + 1) k = if lodB (s[k].toNat : Int) then runN s m (k + 1) else k) := by show _ = _; rw [runN, dif_pos hlt]
          go_wp2_with (first | (go_at_call 129; (with_reducible refine (IsLower_any _ _).mono ?_); rintro e w' ⟨rfl, rfl⟩) | (go_at_call 146; (with_reducible refine (IsDigit_any _ _).mono ?_); rintro e w' ⟨rfl, rfl⟩))
          · have q : lowB (s[k].toNat : Int) = true := by assumption
            go_round
            case rel => exact ⟨k + 1, m, by omega, by omega, by go_num, by rw [HT.out, HS.out, if_pos (by rw [lodB_eq, q]; rfl)]⟩
            case measure => simp [intOf]; omega
          · have q : digB (s[k].toNat : Int) = true := by assumption
            go_round
            case rel => exact ⟨k + 1, m, by omega, by omega, by go_num, by rw [HT.out, HS.out, if_pos (by rw [lodB_eq, q]; simp)]⟩
            case measure => simp [intOf]; omega
          · have q : digB (s[k].toNat : Int) = false := by assumption
            have q2 : ¬ lowB (s[k].toNat : Int) = true := by assumption
            go_ret
            exact ⟨by rw [HT.out, HS.out, if_neg (by rw [lodB_eq, q]; simpa using q2)]; rfl, rfl⟩
        · have HE : Hid (runN s m k = k) := by
            show _ = _
            cases m with
            | zero => rfl
            | succ m => rw [runN, dif_neg hlt]
          go_wp2
          go_ret
          exact ⟨by rw [HT.out, HE.out]; rfl, rfl⟩
  · have HQ : Hid (wn = runN s s.size 1) := by show _ = _; rw [HW.out, if_pos (by rw [HH.out, q]; rfl)]
    go_enter Tryz.func143, Tryz.ntmps143
    go_wp2_with (first | (go_at_call 129; (with_reducible refine (IsLower_any _ _).mono ?_); rintro e w' ⟨rfl, rfl⟩) | (go_at_call 145; (with_reducible refine (IsUpper_any _ _).mono ?_); rintro e w' ⟨rfl, rfl⟩))
    go_loop [3] (fun i => ∃ k m : Nat, k ≤ s.size ∧ s.size ≤ k + m ∧ i = .int .i64 k ∧ wn = runN s m k) (fun i => s.size - (intOf i).toNat)
    case atStart => exact ⟨1, s.size, by omega, by omega, rfl, HQ.out⟩
    case round =>
      obtain ⟨k, m, hk1, hk2, rfl, ht⟩ := hrel
      have HT := Lib.hid ht; clear ht
      by_cases hlt : k < s.size
      · obtain ⟨m, rfl⟩ : ∃ m', m = m' + 1 := ⟨m - 1, by omega⟩
        have HS : Hid (runN s (m + 1) k = if lodB (s[k].toNat : Int) then runN s m (k + 1) else k) := by show _ = _; rw [runN, dif_pos hlt]
        go_wp2_with (first | (go_at_call 129; (with_reducible refine (IsLower_any _ _).mono ?_); rintro e w' ⟨rfl, rfl⟩) | (go_at_call 146; (with_reducible refine (IsDigit_any _ _).mono ?_); rintro e w' ⟨rfl, rfl⟩))
        · have q : lowB (s[k].toNat : Int) = true := by assumption
          go_round
          case rel => exact ⟨k + 1, m, by omega, by omega, by go_num, by rw [HT.out, HS.out, if_pos (by rw [lodB_eq, q]; rfl)]⟩
          case measure => simp [intOf]; omega
        · have q : digB (s[k].toNat : Int) = true := by assumption
          go_round
          case rel => exact ⟨k + 1, m, by omega, by omega, by go_num, by rw [HT.out, HS.out, if_pos (by rw [lodB_eq, q]; simp)]⟩
          case measure => simp [intOf]; omega
        · have q : digB (s[k].toNat : Int) = false := by assumption
          have q2 : ¬ lowB (s[k].toNat : Int) = true := by assumption
          go_ret
          exact ⟨by rw [HT.out, HS.out, if_neg (by rw [lodB_eq, q]; simpa using q2)]; rfl, rfl⟩
      · have HE : Hid (runN s m k = k) := by
          show _ = _
          cases m with
          | zero => rfl
          | succ m => rw [runN, dif_neg hlt]
        go_wp2
        go_ret
        exact ⟨by rw [HT.out, HE.out]; rfl, rfl⟩

theorem fits_eq1 {s : ByteArray} (h0 : 0 < s.size) (h : (s.size : Int) ≤ 10) : ((wordN s : Int) == (s.size : Int)) = ((lowB (headI s) || upB (headI s)) && fitsB s) := by
  have ht := runN_tail s s.size 1 h0 (by omega)
  have h10 : s.size ≤ 10 := by omega
  unfold fitsB wordN
  rw [← ht]
  cases (lowB (headI s) || upB (headI s))
  · simp; omega
  · simp only [if_true, Bool.true_and, h10, decide_true]
    rw [Bool.eq_iff_iff]; simp only [beq_iff_eq, decide_eq_true_eq]; exact Int.ofNat_inj
theorem fits_eq2 {s : ByteArray} (h : 10 < (s.size : Int)) : false = ((lowB (headI s) || upB (headI s)) && fitsB s) := by
  have h10 : ¬ s.size ≤ 10 := by omega
  unfold fitsB
  simp [h10]
theorem fits_any (s : ByteArray) (w : World) (hs : s.size ≤ maxLen) (h0 : 0 < s.size) : Calls Tryz.prog 130 #[.string s] w fun e w' => e = .returned (.bool ((lowB (headI s) || upB (headI s)) && fitsB s)) ∧ w = w' := by
  have HL := Lib.hid (fun h => @fits_eq1 s h0 h)
  have HG := Lib.hid (fun h => @fits_eq2 s h)
  generalize ((lowB (headI s) || upB (headI s)) && fitsB s) = fb at *
  go_enter Tryz.func130, Tryz.ntmps130
  go_wp2_with (go_at_call 143; (with_reducible refine (Word_any _ _ hs h0).mono ?_); rintro e w' ⟨rfl, rfl⟩)
  · have q : (s.size : Int) ≤ 10 := by assumption
    go_ret
    exact ⟨ret_bool (HL.out q), rfl⟩
  · have q : 10 < (s.size : Int) := by assumption
    go_ret
    exact ⟨ret_bool (HG.out q), rfl⟩

theorem rest_any (s : ByteArray) (w : World) (hs : s.size ≤ maxLen) : Calls Tryz.prog 83 #[.string s] w fun e w' => e = .returned (.bool (tailB s 1)) ∧ w = w' := by
  unfold maxLen at hs
  go_enter Tryz.func83, Tryz.ntmps83
  go_wp2
  go_loop [3] (fun i => ∃ k : Nat, 1 ≤ k ∧ i = .int .i64 k ∧ tailB s 1 = tailB s k) (fun i => s.size - (intOf i).toNat)
  case atStart => exact ⟨1, by omega, rfl, rfl⟩
  case round =>
    obtain ⟨k, hk, rfl, ht⟩ := hrel
    have HT := Lib.hid ht; clear ht
    by_cases hlt : k < s.size
    · have HS := Lib.hid (tailB_step hlt)
      go_wp2_with (go_at_call 113; (with_reducible refine (Lower_any _ _).mono ?_); rintro e w' ⟨rfl, rfl⟩)
      · have q : (!lodB (s[k].toNat : Int)) = true := by assumption
        go_ret
        exact ⟨ret_bool (by rw [HT.out, HS.out]; simp at q; simp [q]), rfl⟩
      · have q : (!lodB (s[k].toNat : Int)) = false := by assumption
        go_round
        case rel => exact ⟨k + 1, by omega, by go_num, by rw [HT.out, HS.out]; simp at q; simp [q]⟩
        case measure => simp [intOf]; omega
    · go_wp2
      go_ret
      exact ⟨ret_bool (by rw [HT.out, tailB_end hlt]), rfl⟩

theorem reserved_any (s : ByteArray) (w : World) : Calls Tryz.prog 131 #[.string s] w fun e w' => e = .returned (.bool (resB s)) ∧ w = w' := by
  go_enter Tryz.func131, Tryz.ntmps131
  go_wp2
  all_goals first
    | (exfalso; simp_all; done)
    | (go_ret; exact ⟨ret_bool (by simp [resB, words, *]), rfl⟩)

theorem plain_eq (s : ByteArray) : (!isEmptyB s && lowB (headI s) && ((lowB (headI s) || upB (headI s)) && fitsB s) && !resB s) = (!isEmptyB s && lowB (headI s) && fitsB s && !resB s) := by
  cases lowB (headI s) <;> simp
theorem xtor_eq (s : ByteArray) : (!isEmptyB s && upB (headI s) && ((lowB (headI s) || upB (headI s)) && fitsB s)) = (!isEmptyB s && upB (headI s) && fitsB s) := by
  cases upB (headI s) <;> simp
theorem Plain_any (s : ByteArray) (w : World) (hs : s.size ≤ maxLen) : Calls Tryz.prog 108 #[.string s] w fun e w' => e = .returned (.bool (nameB s)) ∧ w = w' := by
  have HN : Hid (nameB s = (!isEmptyB s && lowB (headI s) && ((lowB (headI s) || upB (headI s)) && fitsB s) && !resB s)) := (plain_eq s).symm ▸ rfl
  by_cases h0 : 0 < s.size
  · have HH := Lib.hid (headI_eq h0)
    have he : s.toList.isEmpty = false := by simp [sizeB_pos h0]
    have hne := sizeB_pos h0
    have HE := Lib.hid he
    have HC := Lib.hid (fun w => fits_any s w hs h0)
    generalize ((lowB (headI s) || upB (headI s)) && fitsB s) = fb at *
    go_enter Tryz.func108, Tryz.ntmps108
    go_wp2_with (first | (go_at_call 129; (with_reducible refine (IsLower_any _ _).mono ?_); rintro e w' ⟨rfl, rfl⟩) | (go_at_call 130; (with_reducible refine (HC.out _).mono ?_); rintro e w' ⟨rfl, rfl⟩) | (go_at_call 131; (with_reducible refine (reserved_any _ _).mono ?_); rintro e w' ⟨rfl, rfl⟩))
    all_goals
      go_ret
      exact ⟨ret_bool (by rw [HN.out, HH.out]; simp [isEmptyB, *]), rfl⟩
  · have he := sizeB_zero h0
    go_enter Tryz.func108, Tryz.ntmps108
    go_wp2
    go_ret
    exact ⟨ret_bool (by rw [HN.out]; simp [isEmptyB, *]), rfl⟩

theorem Xtor_any (s : ByteArray) (w : World) (hs : s.size ≤ maxLen) : Calls Tryz.prog 144 #[.string s] w fun e w' => e = .returned (.bool (xtorB s)) ∧ w = w' := by
  have HN : Hid (xtorB s = (!isEmptyB s && upB (headI s) && ((lowB (headI s) || upB (headI s)) && fitsB s))) := (xtor_eq s).symm ▸ rfl
  by_cases h0 : 0 < s.size
  · have HH := Lib.hid (headI_eq h0)
    have he : s.toList.isEmpty = false := by simp [sizeB_pos h0]
    have hne := sizeB_pos h0
    have HC := Lib.hid (fun w => fits_any s w hs h0)
    generalize ((lowB (headI s) || upB (headI s)) && fitsB s) = fb at *
    go_enter Tryz.func144, Tryz.ntmps144
    go_wp2_with (first | (go_at_call 145; (with_reducible refine (IsUpper_any _ _).mono ?_); rintro e w' ⟨rfl, rfl⟩) | (go_at_call 130; (with_reducible refine (HC.out _).mono ?_); rintro e w' ⟨rfl, rfl⟩))
    all_goals
      go_ret
      refine ⟨ret_bool ?_, rfl⟩
      rw [HN.out, HH.out]
      simp [isEmptyB, *]
  · have he := sizeB_zero h0
    go_enter Tryz.func144, Tryz.ntmps144
    go_wp2
    go_ret
    exact ⟨ret_bool (by rw [HN.out]; simp [isEmptyB, *]), rfl⟩

theorem Reserved_any (s : ByteArray) (w : World) : Calls Tryz.prog 84 #[.string s] w fun e w' => e = .returned (.bool (resB s)) ∧ Below w.heap.size w w' := by
  go_enter Tryz.func84, Tryz.ntmps84
  go_wp2
  have hc : ∀ k, k < 11 → (w.alloc (Obj.cells
    #[Value.string { data := #[100, 97, 116, 97] }, Value.string { data := #[99, 111, 100, 97, 116, 97] },
      Value.string { data := #[102, 117, 110] }, Value.string { data := #[105, 110, 116] },
      Value.string { data := #[105, 102, 122] }, Value.string { data := #[99, 97, 115, 101] },
      Value.string { data := #[99, 111, 99, 97, 115, 101] }, Value.string { data := #[108, 101, 116] },
      Value.string { data := #[101, 109, 105, 116] }, Value.string { data := #[108, 97, 98, 101, 108] },
      Value.string { data := #[103, 111, 116, 111] }]
    9)).cell? ⟨w.heap.size, k, none⟩ = some (.string ⟨(words.getD k []).toArray⟩) := by
    intro k hk
    rw [World.cell?_alloc_at _ _ _ _ rfl]
    have : k = 0 ∨ k = 1 ∨ k = 2 ∨ k = 3 ∨ k = 4 ∨ k = 5 ∨ k = 6 ∨ k = 7 ∨ k = 8 ∨ k = 9 ∨ k = 10 := by omega
    rcases this with rfl | rfl | rfl | rfl | rfl | rfl | rfl | rfl | rfl | rfl | rfl <;> rfl
  have hB : Below w.heap.size w (w.alloc (Obj.cells
    #[Value.string { data := #[100, 97, 116, 97] }, Value.string { data := #[99, 111, 100, 97, 116, 97] },
      Value.string { data := #[102, 117, 110] }, Value.string { data := #[105, 110, 116] },
      Value.string { data := #[105, 102, 122] }, Value.string { data := #[99, 97, 115, 101] },
      Value.string { data := #[99, 111, 99, 97, 115, 101] }, Value.string { data := #[108, 101, 116] },
      Value.string { data := #[101, 109, 105, 116] }, Value.string { data := #[108, 97, 98, 101, 108] },
      Value.string { data := #[103, 111, 116, 111] }]
    9)) := (Below.refl _ _).alloc (Nat.le_refl _) _
  generalize w.alloc _ = w1 at *
  have HC := Lib.hid hc; have HB := Lib.hid hB; clear hc hB
  go_loop [7] (fun i => ∃ k : Nat, k ≤ 11 ∧ i = .int .i64 k ∧ resB s = (words.drop k).any fun x => s.toList == x) (fun i => 11 - (intOf i).toNat)
  case atStart => exact ⟨0, by omega, rfl, rfl⟩
  case round =>
    obtain ⟨k, hk, rfl, ht⟩ := hrel
    have HT := Lib.hid ht; clear ht
    by_cases hlt : k < 11
    · have h1 := HC.out k hlt
      have HD : Hid (words.drop k = words.getD k [] :: words.drop (k + 1)) := by
        have : k = 0 ∨ k = 1 ∨ k = 2 ∨ k = 3 ∨ k = 4 ∨ k = 5 ∨ k = 6 ∨ k = 7 ∨ k = 8 ∨ k = 9 ∨ k = 10 := by omega
        rcases this with rfl | rfl | rfl | rfl | rfl | rfl | rfl | rfl | rfl | rfl | rfl <;> rfl
      generalize words.getD k [] = x at *
      go_wp2
      · have q : (s.toList == x) = true := by assumption
        go_ret
        exact ⟨ret_bool (by rw [HT.out, HD.out]; simp [q]), HB.out⟩
      · have q : (s.toList == x) = false := by assumption
        go_round
        case rel => exact ⟨k + 1, by omega, by go_num, by rw [HT.out, HD.out]; simp [q]⟩
        case measure => simp [intOf]; omega
    · go_wp2
      go_ret
      exact ⟨ret_bool (by rw [HT.out, List.drop_eq_nil_of_le (by simp [words]; omega)]; rfl), HB.out⟩

theorem Name_any (s : ByteArray) (w : World) (hs : s.size ≤ maxLen) : Calls Tryz.prog 52 #[.string s] w fun e w' => e = .returned (.bool (nameB s)) ∧ Below w.heap.size w w' := by
  have HN : Hid (nameB s = (!isEmptyB s && lowB (headI s) && fitsB s && !resB s)) := rfl
  have HL : Hid (∀ b, lowB b = decide (97 ≤ b ∧ b ≤ 122)) := fun _ => rfl
  have HF : Hid (fitsB s = (decide (s.size ≤ 10) && tailB s 1)) := rfl
  by_cases h0 : 0 < s.size
  · have HH := Lib.hid (headI_eq h0)
    have he : s.toList.isEmpty = false := by simp [sizeB_pos h0]
    have HE := Lib.hid he
    clear he
    have hm := hs
    unfold maxLen at hs
    go_enter Tryz.func52, Tryz.ntmps52
    go_wp2_with (first | (go_at_call 83; (with_reducible refine (rest_any _ _ hm).mono ?_); rintro e w' ⟨rfl, rfl⟩) | (go_at_call 84; (with_reducible refine (Reserved_any _ _).mono ?_); rintro e w' ⟨rfl, hb⟩))
    all_goals
      go_ret
      refine ⟨ret_bool ?_, by first | exact Below.refl _ _ | assumption⟩
      rw [HN.out, HH.out, HL.out, HF.out]
      simp [isEmptyB, HE.out, *]
      try omega
  · unfold maxLen at hs
    have he := sizeB_zero h0
    go_enter Tryz.func52, Tryz.ntmps52
    go_wp2
    go_ret
    exact ⟨ret_bool (by rw [HN.out]; simp [isEmptyB, *]), Below.refl _ _⟩

theorem XtorName_any (s : ByteArray) (w : World) (hs : s.size ≤ maxLen) : Calls Tryz.prog 53 #[.string s] w fun e w' => e = .returned (.bool (xtorB s)) ∧ w = w' := by
  have HN : Hid (xtorB s = (!isEmptyB s && upB (headI s) && fitsB s)) := rfl
  have HL : Hid (∀ b, upB b = decide (65 ≤ b ∧ b ≤ 90)) := fun _ => rfl
  have HF : Hid (fitsB s = (decide (s.size ≤ 10) && tailB s 1)) := rfl
  by_cases h0 : 0 < s.size
  · have HH := Lib.hid (headI_eq h0)
    have he : s.toList.isEmpty = false := by simp [sizeB_pos h0]
    have HE := Lib.hid he
    clear he
    have hm := hs
    unfold maxLen at hs
    go_enter Tryz.func53, Tryz.ntmps53
    go_wp2_with (go_at_call 83; (with_reducible refine (rest_any _ _ hm).mono ?_); rintro e w' ⟨rfl, rfl⟩)
    all_goals
      go_ret
      refine ⟨ret_bool ?_, rfl⟩
      rw [HN.out, HH.out, HL.out, HF.out]
      simp [isEmptyB, HE.out, *]
      try omega
  · unfold maxLen at hs
    have he := sizeB_zero h0
    go_enter Tryz.func53, Tryz.ntmps53
    go_wp2
    go_ret
    exact ⟨ret_bool (by rw [HN.out]; simp [isEmptyB, *]), rfl⟩
end Go.Proofs.YtkdhhcidpklgoaaGreatDoor

/- How the declarations lie in memory, and that new blocks do not turn it. -/
namespace Go.Proofs.YtkdhhcidpklgoaaGreatDoor
open Go.RowKit

def RArgs (w : World) (v : Value) (l : List Arg) : Prop :=
  ∃ A c, v = .slice A l.length c ∧ l.length ≤ c ∧ c ≤ maxLen ∧
    ∀ i a, l[i]? = some a → ∃ b o, A = some ⟨b, o, none⟩ ∧ b < w.heap.size ∧ w.cell? ⟨b, o + i * 2, none⟩ = some (.int .i64 a.ty) ∧ w.cell? ⟨b, o + i * 2 + 1, none⟩ = some (.bool a.co)
def RXtors (w : World) (v : Value) (l : List Xtor) : Prop :=
  ∃ A c, v = .slice A l.length c ∧ l.length ≤ c ∧ c ≤ maxLen ∧
    ∀ i x, l[i]? = some x → ∃ b o va, A = some ⟨b, o, none⟩ ∧ b < w.heap.size ∧ w.cell? ⟨b, o + i * 2, none⟩ = some (.string x.name) ∧ w.cell? ⟨b, o + i * 2 + 1, none⟩ = some va ∧ RArgs w va x.args ∧ x.name.size ≤ maxLen
def RDecls (w : World) (v : Value) (l : List Decl) : Prop :=
  ∃ A c, v = .slice A l.length c ∧ l.length ≤ c ∧ c ≤ maxLen ∧
    ∀ i d, l[i]? = some d → ∃ b o va, A = some ⟨b, o, none⟩ ∧ b < w.heap.size ∧ w.cell? ⟨b, o + i * 3, none⟩ = some (.string d.name) ∧ w.cell? ⟨b, o + i * 3 + 1, none⟩ = some (.bool d.codata) ∧ w.cell? ⟨b, o + i * 3 + 2, none⟩ = some va ∧ RXtors w va d.xtors ∧ d.name.size ≤ maxLen
/-- A slice of bools. -/
def RBools (w : World) (v : Value) (l : List Bool) : Prop :=
  ∃ A c, v = .slice A l.length c ∧ l.length ≤ c ∧ c ≤ maxLen ∧
    ∀ i a, l[i]? = some a → ∃ b o, A = some ⟨b, o, none⟩ ∧ b < w.heap.size ∧ w.cell? ⟨b, o + i, none⟩ = some (.bool a)

section
variable {w w' : World} {v : Value}
theorem RArgs.below {l : List Arg} (h : RArgs w v l) (hb : Below w.heap.size w w') : RArgs w' v l := by
  obtain ⟨A, c, rfl, h1, h2, h3⟩ := h
  refine ⟨A, c, rfl, h1, h2, fun i a hi => ?_⟩
  obtain ⟨b, o, rfl, hlt, h4, h5⟩ := h3 i a hi
  exact ⟨b, o, rfl, Nat.lt_of_lt_of_le hlt hb.size, (hb.cell hlt).trans h4, (hb.cell hlt).trans h5⟩
theorem RXtors.below {l : List Xtor} (h : RXtors w v l) (hb : Below w.heap.size w w') : RXtors w' v l := by
  obtain ⟨A, c, rfl, h1, h2, h3⟩ := h
  refine ⟨A, c, rfl, h1, h2, fun i a hi => ?_⟩
  obtain ⟨b, o, va, rfl, hlt, h4, h5, h6, h7⟩ := h3 i a hi
  exact ⟨b, o, va, rfl, Nat.lt_of_lt_of_le hlt hb.size, (hb.cell hlt).trans h4, (hb.cell hlt).trans h5, h6.below hb, h7⟩
theorem RDecls.below {l : List Decl} (h : RDecls w v l) (hb : Below w.heap.size w w') : RDecls w' v l := by
  obtain ⟨A, c, rfl, h1, h2, h3⟩ := h
  refine ⟨A, c, rfl, h1, h2, fun i a hi => ?_⟩
  obtain ⟨b, o, va, rfl, hlt, h4, h5, h6, h7, h8⟩ := h3 i a hi
  exact ⟨b, o, va, rfl, Nat.lt_of_lt_of_le hlt hb.size, (hb.cell hlt).trans h4, (hb.cell hlt).trans h5, (hb.cell hlt).trans h6, h7.below hb, h8⟩
theorem RBools.below {l : List Bool} (h : RBools w v l) (hb : Below w.heap.size w w') : RBools w' v l := by
  obtain ⟨A, c, rfl, h1, h2, h3⟩ := h
  refine ⟨A, c, rfl, h1, h2, fun i a hi => ?_⟩
  obtain ⟨b, o, rfl, hlt, h4⟩ := h3 i a hi
  exact ⟨b, o, rfl, Nat.lt_of_lt_of_le hlt hb.size, (hb.cell hlt).trans h4⟩
theorem getElem?_take_some {α : Type} {l : List α} {n i : Nat} {a : α} (h : (l.take n)[i]? = some a) : l[i]? = some a := by
  rw [List.getElem?_take] at h
  split at h
  · exact h
  · cases h
theorem RArgs.take {l : List Arg} {A : Option Addr} {n c : Nat} (h : RArgs w (.slice A l.length c) l) (hn : n ≤ l.length) : RArgs w (.slice A n c) (l.take n) := by
  obtain ⟨A', c', he, h1, h2, h3⟩ := h
  cases he
  exact ⟨A, c, by simp [Nat.min_eq_left hn], by simp [Nat.min_eq_left hn]; omega, h2, fun i a hi => h3 i a (getElem?_take_some hi)⟩
theorem RDecls.take {l : List Decl} {A : Option Addr} {n c : Nat} (h : RDecls w (.slice A l.length c) l) (hn : n ≤ l.length) : RDecls w (.slice A n c) (l.take n) := by
  obtain ⟨A', c', he, h1, h2, h3⟩ := h
  cases he
  exact ⟨A, c, by simp [Nat.min_eq_left hn], by simp [Nat.min_eq_left hn]; omega, h2, fun i a hi => h3 i a (getElem?_take_some hi)⟩
theorem RArgs.at_ {l : List Arg} {A : Option Addr} {c : Nat} (h : RArgs w (.slice A l.length c) l) {k : Nat} (hk : k < l.length) :
    ∃ b o, A = some ⟨b, o, none⟩ ∧ b < w.heap.size ∧ w.cell? ⟨b, o + k * 2, none⟩ = some (.int .i64 l[k].ty) ∧ w.cell? ⟨b, o + k * 2 + 1, none⟩ = some (.bool l[k].co) := by
  obtain ⟨A', c', he, h1, h2, h3⟩ := h
  cases he
  exact h3 k _ (List.getElem?_eq_getElem hk)
theorem RXtors.at_ {l : List Xtor} {A : Option Addr} {c : Nat} (h : RXtors w (.slice A l.length c) l) {k : Nat} (hk : k < l.length) :
    ∃ b o va, A = some ⟨b, o, none⟩ ∧ b < w.heap.size ∧ w.cell? ⟨b, o + k * 2, none⟩ = some (.string l[k].name) ∧ w.cell? ⟨b, o + k * 2 + 1, none⟩ = some va ∧ RArgs w va l[k].args ∧ l[k].name.size ≤ maxLen := by
  obtain ⟨A', c', he, h1, h2, h3⟩ := h
  cases he
  exact h3 k _ (List.getElem?_eq_getElem hk)
theorem RDecls.at_ {l : List Decl} {A : Option Addr} {c : Nat} (h : RDecls w (.slice A l.length c) l) {k : Nat} (hk : k < l.length) :
    ∃ b o va, A = some ⟨b, o, none⟩ ∧ b < w.heap.size ∧ w.cell? ⟨b, o + k * 3, none⟩ = some (.string l[k].name) ∧ w.cell? ⟨b, o + k * 3 + 1, none⟩ = some (.bool l[k].codata) ∧ w.cell? ⟨b, o + k * 3 + 2, none⟩ = some va ∧ RXtors w va l[k].xtors ∧ l[k].name.size ≤ maxLen := by
  obtain ⟨A', c', he, h1, h2, h3⟩ := h
  cases he
  exact h3 k _ (List.getElem?_eq_getElem hk)
theorem RBools.at_ {l : List Bool} {A : Option Addr} {c : Nat} (h : RBools w (.slice A l.length c) l) {k : Nat} (hk : k < l.length) :
    ∃ b o, A = some ⟨b, o, none⟩ ∧ b < w.heap.size ∧ w.cell? ⟨b, o + k, none⟩ = some (.bool l[k]) := by
  obtain ⟨A', c', he, h1, h2, h3⟩ := h
  cases he
  exact h3 k _ (List.getElem?_eq_getElem hk)
end
theorem RArgs.form {w : World} {v : Value} {l : List Arg} (h : RArgs w v l) : ∃ A c, v = .slice A l.length c ∧ l.length ≤ c ∧ c ≤ maxLen := by
  obtain ⟨A, c, h1, h2, h3, _⟩ := h; exact ⟨A, c, h1, h2, h3⟩
theorem RXtors.form {w : World} {v : Value} {l : List Xtor} (h : RXtors w v l) : ∃ A c, v = .slice A l.length c ∧ l.length ≤ c ∧ c ≤ maxLen := by
  obtain ⟨A, c, h1, h2, h3, _⟩ := h; exact ⟨A, c, h1, h2, h3⟩
theorem RDecls.form {w : World} {v : Value} {l : List Decl} (h : RDecls w v l) : ∃ A c, v = .slice A l.length c ∧ l.length ≤ c ∧ c ≤ maxLen := by
  obtain ⟨A, c, h1, h2, h3, _⟩ := h; exact ⟨A, c, h1, h2, h3⟩
theorem RBools.form {w : World} {v : Value} {l : List Bool} (h : RBools w v l) : ∃ A c, v = .slice A l.length c ∧ l.length ≤ c ∧ c ≤ maxLen := by
  obtain ⟨A, c, h1, h2, h3, _⟩ := h; exact ⟨A, c, h1, h2, h3⟩
/-- All that was there is as it was. -/
abbrev Ext (w w' : World) : Prop := Below w.heap.size w w'
theorem cell_lt {w : World} {p : Addr} {v : Value} (h : w.cell? p = some v) : p.block < w.heap.size := by
  rcases Nat.lt_or_ge p.block w.heap.size with h1 | h1
  · exact h1
  · unfold World.cell? at h
    rw [Array.getElem?_eq_none h1] at h
    cases h
theorem Ext.keep {w w' : World} {p : Addr} {v : Value} (hb : Ext w w') (h : w.cell? p = some v) : w'.cell? p = some v := (hb.cell (cell_lt h)).trans h
theorem Ext.al (w : World) (o : Obj) : Ext w (w.alloc o) := (Below.refl _ _).alloc (Nat.le_refl _) _
theorem Ext.tr {a b c : World} (h : Ext a b) (k : Ext b c) : Ext a c := Below.trans h (Below.mono k h.size)
theorem Ext.rf (w : World) : Ext w w := Below.refl _ _
theorem drop_step {α : Type} {l : List α} {k : Nat} (h : k < l.length) : l.drop k = l[k] :: l.drop (k + 1) := List.drop_eq_getElem_cons h
theorem drop_end {α : Type} {l : List α} {k : Nat} (h : ¬ k < l.length) : l.drop k = [] := List.drop_eq_nil_of_le (by omega)

end Go.Proofs.YtkdhhcidpklgoaaGreatDoor

namespace Go.Proofs.YtkdhhcidpklgoaaGreatDoor
open Go.RowKit

/-! ### the calls -/
def findX (nm : ByteArray) : Nat → List Xtor → Option Nat
  | _, [] => none
  | k, x :: r => if x.name.toList == nm.toList then some k else findX nm (k + 1) r
def findD (nm : ByteArray) : Nat → List Decl → Option (Nat × Nat)
  | _, [] => none
  | i, d :: r => match findX nm 0 d.xtors with
    | some k => some (i + 1, k)
    | none => findD nm (i + 1) r
def negI (t n : Int) : Bool := decide (1 ≤ t ∧ t ≤ n)
def posB (l : List Decl) (t : Int) : Bool × Int :=
  if validB l = false then (false, 10) else if t = 0 then (true, 0) else match l[(t - 1).toNat]? with
    | some d => if 1 ≤ t then (!d.codata, 0) else (false, 1)
    | none => (false, 1)
def lastTy (l : List Arg) : Int := (l.getLast?.map Arg.ty).getD 0
def resI (l : List Decl) (t n : Int) : Int × Int :=
  if validB l = false then (0, 10) else if 1 ≤ t ∧ 0 ≤ n then match l[(t - 1).toNat]? with
    | some d => if d.codata then match d.xtors[n.toNat]? with
      | some x => if endsB x.args then (lastTy x.args, 0) else (0, 1)
      | none => (0, 1)
      else (0, 1)
    | none => (0, 1)
    else (0, 1)
end Go.Proofs.YtkdhhcidpklgoaaGreatDoor
