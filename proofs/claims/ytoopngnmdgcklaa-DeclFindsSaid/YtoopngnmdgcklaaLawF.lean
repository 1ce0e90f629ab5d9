import Derived.Test.YtoopngnmdgcklaaAwake
namespace Go.Proofs.Ytoopngnmdgcklaa
open Go.RowKit

theorem findD_pos {nm : ByteArray} : ∀ {l : List Decl} {i t k : Nat}, findD nm i l = some (t, k) → i + 1 ≤ t
  | [], i, t, k, h => by cases h
  | d :: r, i, t, k, h => by
    cases hx : findX nm 0 d.xtors with
    | none =>
      rw [findD_miss hx] at h
      have := findD_pos h
      omega
    | some j =>
      rw [findD_hit hx] at h
      cases h
      exact Nat.le_refl _

set_option maxHeartbeats 2000000 in
set_option maxRecDepth 100000 in
theorem declFinds_any (v : Value) (l : List Decl) (nm : ByteArray) (w : World) (h : RDecls w v l) :
    Calls Try.prog 5 #[v, .string nm] w fun e w' => e = .returned (.bool true) ∧ Ext w w' := by
  have HR := Lib.hid h
  obtain ⟨A, c, rfl, hc, hm⟩ := h.form
  clear h
  unfold maxLen at hm
  go_enter Try.func5, Try.ntmps5
  go_wp2_with fail
  (with_reducible refine (Find_any _ l nm _ HR.out).mono ?_)
  rintro e w2 ⟨rfl, hb⟩
  have HE2 := Lib.hid hb
  have HR2 := Lib.hid (HR.out.below hb)
  clear hb HR
  go_wp2_with fail
  (with_reducible refine (Is_any _ l _ HR2.out).mono ?_)
  rw [← valid_is]
  rintro e w3 ⟨rfl, hb⟩
  have HE3 := Lib.hid (HE2.out.tr hb)
  have HR3 := Lib.hid (HR2.out.below hb)
  clear hb HR2 HE2
  cases hq : validB l
  · rw [fndP_bad hq]
    clear hq
    go_wp2_with fail
    (with_reducible refine (awake_any _).mono ?_)
    rintro e w5 ⟨rfl, hb⟩
    have HE5 := Lib.hid (HE3.out.tr hb)
    clear hb
    go_wp2
    go_ret
    exact ⟨rfl, HE5.out⟩
  · cases hf : findD nm 0 l with
    | none =>
      rw [fndP_miss hq hf]
      have HF := Lib.hid hf
      clear hq hf
      go_wp2_with fail
      (with_reducible refine (RFind_any _ l nm _ HR3.out).mono ?_)
      rw [HF.out]
      rintro e w4 ⟨rfl, hb⟩
      have HE4 := Lib.hid (HE3.out.tr hb)
      clear hb
      go_wp2_with fail
      (with_reducible refine (awake_any _).mono ?_)
      rintro e w5 ⟨rfl, hb⟩
      have HE5 := Lib.hid (HE4.out.tr hb)
      clear hb
      go_wp2
      go_ret
      exact ⟨rfl, HE5.out⟩
    | some p =>
      obtain ⟨t, k⟩ := p
      rw [fndP_hit hq hf]
      have HF := Lib.hid hf
      have ht0 : (t : Int) ≠ 0 := by
        have := findD_pos hf
        omega
      clear hq hf
      go_wp2_with fail
      (with_reducible refine (RFind_any _ l nm _ HR3.out).mono ?_)
      rw [HF.out]
      rintro e w4 ⟨rfl, hb⟩
      have HE4 := Lib.hid (HE3.out.tr hb)
      clear hb
      go_wp2_with fail
      (with_reducible refine (awake_any _).mono ?_)
      rintro e w5 ⟨rfl, hb⟩
      have HE5 := Lib.hid (HE4.out.tr hb)
      clear hb
      go_wp2
      go_ret
      exact ⟨rfl, HE5.out⟩
end Go.Proofs.Ytoopngnmdgcklaa
