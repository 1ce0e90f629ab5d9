import Derived.Test.YtoopngnmdgcklaaRows
import Derived.Test.YtoopngnmdgcklaaPure
import Derived.WalkKit
import Derived.Lib.Hide
namespace Go.Proofs.Ytoopngnmdgcklaa
open Go.RowKit

theorem ret_bool {a b : Bool} (h : a = b) : Ending.returned (.bool a) = .returned (.bool b) := by rw [h]

theorem isLower_any (b : Int) (w : World) : Calls Try.prog 58 #[.int .u8 b] w fun e w' => e = .returned (.bool (lowB b)) ∧ w = w' := by
  unfold lowB
  go_enter Try.func58, Try.ntmps58
  by_cases h : 97 ≤ b
  all_goals
    go_wp2
    go_ret
    exact ⟨ret_bool (by apply Bool.eq_iff_iff.2; simp <;> omega), rfl⟩
theorem isDigit_any (b : Int) (w : World) : Calls Try.prog 63 #[.int .u8 b] w fun e w' => e = .returned (.bool (digB b)) ∧ w = w' := by
  unfold digB
  go_enter Try.func63, Try.ntmps63
  by_cases h : 48 ≤ b
  all_goals
    go_wp2
    go_ret
    exact ⟨ret_bool (by apply Bool.eq_iff_iff.2; simp <;> omega), rfl⟩
theorem Lower_any (b : Int) (w : World) : Calls Try.prog 57 #[.int .u8 b] w fun e w' => e = .returned (.bool (lodB b)) ∧ w = w' := by
  unfold lodB lowB digB
  go_enter Try.func57, Try.ntmps57
  by_cases h : 97 ≤ b <;> by_cases h2 : b ≤ 122 <;> by_cases h3 : 48 ≤ b
  all_goals
    go_wp2
    go_ret
    exact ⟨ret_bool (by apply Bool.eq_iff_iff.2; simp <;> omega), rfl⟩

theorem fits_any (s : ByteArray) (w : World) (hs : s.size ≤ maxLen) : Calls Try.prog 59 #[.string s] w fun e w' => e = .returned (.bool (fitsB s)) ∧ w = w' := by
  unfold maxLen at hs
  unfold fitsB
  go_enter Try.func59, Try.ntmps59
  by_cases h : s.size ≤ 10
  · have H := Lib.hid h
    go_wp2
    go_loop [3] (fun i => ∃ k : Nat, 1 ≤ k ∧ i = .int .i64 k ∧ tailB s 1 = tailB s k) (fun i => s.size - (intOf i).toNat)
    case atStart => exact ⟨1, by omega, rfl, rfl⟩
    case round =>
      obtain ⟨k, hk, rfl, ht⟩ := hrel
      have HT := Lib.hid ht; clear ht
      by_cases hlt : k < s.size
      · have HS := Lib.hid (tailB_step hlt)
        go_wp2_with (first | (go_at_call 58; (with_reducible refine (isLower_any _ _).mono ?_); rintro e w' ⟨rfl, rfl⟩) | (go_at_call 63; (with_reducible refine (isDigit_any _ _).mono ?_); rintro e w' ⟨rfl, rfl⟩))
        · have q : lowB (s[k].toNat : Int) = true := by assumption
          go_round
          case rel => exact ⟨k + 1, by omega, by go_num, by rw [HT.out, HS.out, lodB_eq, q]; simp⟩
          case measure => simp [intOf]; omega
        · have q : (!digB (s[k].toNat : Int)) = true := by assumption
          have q2 : ¬ lowB (s[k].toNat : Int) = true := by assumption
          go_ret
          exact ⟨ret_bool (by rw [HT.out, HS.out, lodB_eq]; simp at q q2; simp [q, q2]), rfl⟩
        · have q : (!digB (s[k].toNat : Int)) = false := by assumption
          go_round
          case rel => exact ⟨k + 1, by omega, by go_num, by rw [HT.out, HS.out, lodB_eq]; simp at q; simp [q]⟩
          case measure => simp [intOf]; omega
      · go_wp2
        go_ret
        exact ⟨ret_bool (by rw [HT.out, tailB_end hlt]), rfl⟩
  · go_wp2
    go_ret
    exact ⟨ret_bool (by simp [h]), rfl⟩

theorem rest_any (s : ByteArray) (w : World) (hs : s.size ≤ maxLen) : Calls Try.prog 48 #[.string s] w fun e w' => e = .returned (.bool (tailB s 1)) ∧ w = w' := by
  unfold maxLen at hs
  go_enter Try.func48, Try.ntmps48
  go_wp2
  go_loop [3] (fun i => ∃ k : Nat, 1 ≤ k ∧ i = .int .i64 k ∧ tailB s 1 = tailB s k) (fun i => s.size - (intOf i).toNat)
  case atStart => exact ⟨1, by omega, rfl, rfl⟩
  case round =>
    obtain ⟨k, hk, rfl, ht⟩ := hrel
    have HT := Lib.hid ht; clear ht
    by_cases hlt : k < s.size
    · have HS := Lib.hid (tailB_step hlt)
      go_wp2_with (go_at_call 57; (with_reducible refine (Lower_any _ _).mono ?_); rintro e w' ⟨rfl, rfl⟩)
      · have q : (!lodB (s[k].toNat : Int)) = true := by assumption
        go_ret
        exact ⟨ret_bool (by rw [HT.out, HS.out]; simp at q; simp [q]), rfl⟩
      · have q : (!lodB (s[k].toNat : Int)) = false := by assumption
        go_round
        case rel => exact ⟨k + 1, by omega, by go_num, by rw [HT.out, HS.out]; simp at q; simp [q]⟩
        case measure => simp [intOf]; omega
    · go_wp2
      go_ret
      exact ⟨ret_bool (by rw [HT.out, tailB_end hlt]), rfl⟩

theorem reserved_any (s : ByteArray) (w : World) : Calls Try.prog 60 #[.string s] w fun e w' => e = .returned (.bool (resB s)) ∧ w = w' := by
  go_enter Try.func60, Try.ntmps60
  go_wp2
  all_goals first
    | (exfalso; simp_all; done)
    | (go_ret; exact ⟨ret_bool (by simp [resB, words, *]), rfl⟩)

theorem Plain_any (s : ByteArray) (w : World) (hs : s.size ≤ maxLen) : Calls Try.prog 50 #[.string s] w fun e w' => e = .returned (.bool (nameB s)) ∧ w = w' := by
  have HN : Hid (nameB s = (!isEmptyB s && lowB (headI s) && fitsB s && !resB s)) := rfl
  by_cases h0 : 0 < s.size
  · have HH := Lib.hid (headI_eq h0)
    have he : s.toList.isEmpty = false := by simp [sizeB_pos h0]
    have hne := sizeB_pos h0
    have HE := Lib.hid he
    go_enter Try.func50, Try.ntmps50
    go_wp2_with (first | (go_at_call 58; (with_reducible refine (isLower_any _ _).mono ?_); rintro e w' ⟨rfl, rfl⟩) | (go_at_call 59; (with_reducible refine (fits_any _ _ hs).mono ?_); rintro e w' ⟨rfl, rfl⟩) | (go_at_call 60; (with_reducible refine (reserved_any _ _).mono ?_); rintro e w' ⟨rfl, rfl⟩))
    all_goals
      go_ret
      exact ⟨ret_bool (by rw [HN.out, HH.out]; simp [isEmptyB, *]), rfl⟩
  · have he := sizeB_zero h0
    go_enter Try.func50, Try.ntmps50
    go_wp2
    go_ret
    exact ⟨ret_bool (by rw [HN.out]; simp [isEmptyB, *]), rfl⟩

theorem Xtor_any (s : ByteArray) (w : World) (hs : s.size ≤ maxLen) : Calls Try.prog 61 #[.string s] w fun e w' => e = .returned (.bool (xtorB s)) ∧ w = w' := by
  have HN : Hid (xtorB s = (!isEmptyB s && upB (headI s) && fitsB s)) := rfl
  have HU : Hid (∀ b, upB b = decide (65 ≤ b ∧ b ≤ 90)) := fun _ => rfl
  by_cases h0 : 0 < s.size
  · have HH := Lib.hid (headI_eq h0)
    have he : s.toList.isEmpty = false := by simp [sizeB_pos h0]
    have hne := sizeB_pos h0
    go_enter Try.func61, Try.ntmps61
    go_wp2_with (go_at_call 59; (with_reducible refine (fits_any _ _ hs).mono ?_); rintro e w' ⟨rfl, rfl⟩)
    all_goals
      go_ret
      refine ⟨ret_bool ?_, rfl⟩
      rw [HN.out, HH.out, HU.out]
      simp [isEmptyB, *]
      try omega
  · have he := sizeB_zero h0
    go_enter Try.func61, Try.ntmps61
    go_wp2
    go_ret
    exact ⟨ret_bool (by rw [HN.out]; simp [isEmptyB, *]), rfl⟩

theorem Reserved_any (s : ByteArray) (w : World) : Calls Try.prog 49 #[.string s] w fun e w' => e = .returned (.bool (resB s)) ∧ Below w.heap.size w w' := by
  go_enter Try.func49, Try.ntmps49
  go_wp2
  have hc : ∀ k, k < 11 → (w.alloc (Obj.cells
    #[Value.string { data := #[100, 97, 116, 97] }, Value.string { data := #[99, 111, 100, 97, 116, 97] },
      Value.string { data := #[102, 117, 110] }, Value.string { data := #[105, 110, 116] },
      Value.string { data := #[105, 102, 122] }, Value.string { data := #[99, 97, 115, 101] },
      Value.string { data := #[99, 111, 99, 97, 115, 101] }, Value.string { data := #[108, 101, 116] },
      Value.string { data := #[101, 109, 105, 116] }, Value.string { data := #[108, 97, 98, 101, 108] },
      Value.string { data := #[103, 111, 116, 111] }]
    9)).cell? ⟨w.heap.size, k, none⟩ = some (.string ⟨(words.getD k []).toArray⟩) := by
    intro k hk
    rw [World.cell?_alloc_at _ _ _ _ rfl]
    have : k = 0 ∨ k = 1 ∨ k = 2 ∨ k = 3 ∨ k = 4 ∨ k = 5 ∨ k = 6 ∨ k = 7 ∨ k = 8 ∨ k = 9 ∨ k = 10 := by omega
    rcases this with rfl | rfl | rfl | rfl | rfl | rfl | rfl | rfl | rfl | rfl | rfl <;> rfl
  have hB : Below w.heap.size w (w.alloc (Obj.cells
    #[Value.string { data := #[100, 97, 116, 97] }, Value.string { data := #[99, 111, 100, 97, 116, 97] },
      Value.string { data := #[102, 117, 110] }, Value.string { data := #[105, 110, 116] },
      Value.string { data := #[105, 102, 122] }, Value.string { data := #[99, 97, 115, 101] },
      Value.string { data := #[99, 111, 99, 97, 115, 101] }, Value.string { data := #[108, 101, 116] },
      Value.string { data := #[101, 109, 105, 116] }, Value.string { data := #[108, 97, 98, 101, 108] },
      Value.string { data := #[103, 111, 116, 111] }]
    9)) := (Below.refl _ _).alloc (Nat.le_refl _) _
  generalize w.alloc _ = w1 at *
  have HC := Lib.hid hc; have HB := Lib.hid hB; clear hc hB
  go_loop [7] (fun i => ∃ k : Nat, k ≤ 11 ∧ i = .int .i64 k ∧ resB s = (words.drop k).any fun x => s.toList == x) (fun i => 11 - (intOf i).toNat)
  case atStart => exact ⟨0, by omega, rfl, rfl⟩
  case round =>
    obtain ⟨k, hk, rfl, ht⟩ := hrel
    have HT := Lib.hid ht; clear ht
    by_cases hlt : k < 11
    · have h1 := HC.out k hlt
      have HD : Hid (words.drop k = words.getD k [] :: words.drop (k + 1)) := by
        have : k = 0 ∨ k = 1 ∨ k = 2 ∨ k = 3 ∨ k = 4 ∨ k = 5 ∨ k = 6 ∨ k = 7 ∨ k = 8 ∨ k = 9 ∨ k = 10 := by omega
        rcases this with rfl | rfl | rfl | rfl | rfl | rfl | rfl | rfl | rfl | rfl | rfl <;> rfl
      generalize words.getD k [] = x at *
      go_wp2
      · have q : (s.toList == x) = true := by assumption
        go_ret
        exact ⟨ret_bool (by rw [HT.out, HD.out]; simp [q]), HB.out⟩
      · have q : (s.toList == x) = false := by assumption
        go_round
        case rel => exact ⟨k + 1, by omega, by go_num, by rw [HT.out, HD.out]; simp [q]⟩
        case measure => simp [intOf]; omega
    · go_wp2
      go_ret
      exact ⟨ret_bool (by rw [HT.out, List.drop_eq_nil_of_le (by simp [words]; omega)]; rfl), HB.out⟩

theorem Name_any (s : ByteArray) (w : World) (hs : s.size ≤ maxLen) : Calls Try.prog 31 #[.string s] w fun e w' => e = .returned (.bool (nameB s)) ∧ Below w.heap.size w w' := by
  have HN : Hid (nameB s = (!isEmptyB s && lowB (headI s) && fitsB s && !resB s)) := rfl
  have HL : Hid (∀ b, lowB b = decide (97 ≤ b ∧ b ≤ 122)) := fun _ => rfl
  have HF : Hid (fitsB s = (decide (s.size ≤ 10) && tailB s 1)) := rfl
  by_cases h0 : 0 < s.size
  · have HH := Lib.hid (headI_eq h0)
    have he : s.toList.isEmpty = false := by simp [sizeB_pos h0]
    have HE := Lib.hid he
    clear he
    have hm := hs
    unfold maxLen at hs
    go_enter Try.func31, Try.ntmps31
    go_wp2_with (first | (go_at_call 48; (with_reducible refine (rest_any _ _ hm).mono ?_); rintro e w' ⟨rfl, rfl⟩) | (go_at_call 49; (with_reducible refine (Reserved_any _ _).mono ?_); rintro e w' ⟨rfl, hb⟩))
    all_goals
      go_ret
      refine ⟨ret_bool ?_, by first | exact Below.refl _ _ | assumption⟩
      rw [HN.out, HH.out, HL.out, HF.out]
      simp [isEmptyB, HE.out, *]
      try omega
  · unfold maxLen at hs
    have he := sizeB_zero h0
    go_enter Try.func31, Try.ntmps31
    go_wp2
    go_ret
    exact ⟨ret_bool (by rw [HN.out]; simp [isEmptyB, *]), Below.refl _ _⟩

theorem XtorName_any (s : ByteArray) (w : World) (hs : s.size ≤ maxLen) : Calls Try.prog 32 #[.string s] w fun e w' => e = .returned (.bool (xtorB s)) ∧ w = w' := by
  have HN : Hid (xtorB s = (!isEmptyB s && upB (headI s) && fitsB s)) := rfl
  have HL : Hid (∀ b, upB b = decide (65 ≤ b ∧ b ≤ 90)) := fun _ => rfl
  have HF : Hid (fitsB s = (decide (s.size ≤ 10) && tailB s 1)) := rfl
  by_cases h0 : 0 < s.size
  · have HH := Lib.hid (headI_eq h0)
    have he : s.toList.isEmpty = false := by simp [sizeB_pos h0]
    have HE := Lib.hid he
    clear he
    have hm := hs
    unfold maxLen at hs
    go_enter Try.func32, Try.ntmps32
    go_wp2_with (go_at_call 48; (with_reducible refine (rest_any _ _ hm).mono ?_); rintro e w' ⟨rfl, rfl⟩)
    all_goals
      go_ret
      refine ⟨ret_bool ?_, rfl⟩
      rw [HN.out, HH.out, HL.out, HF.out]
      simp [isEmptyB, HE.out, *]
      try omega
  · unfold maxLen at hs
    have he := sizeB_zero h0
    go_enter Try.func32, Try.ntmps32
    go_wp2
    go_ret
    exact ⟨ret_bool (by rw [HN.out]; simp [isEmptyB, *]), rfl⟩
end Go.Proofs.Ytoopngnmdgcklaa
