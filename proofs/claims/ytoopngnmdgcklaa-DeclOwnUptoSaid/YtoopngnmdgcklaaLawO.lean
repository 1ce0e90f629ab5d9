import Derived.Test.YtoopngnmdgcklaaAwake
import Derived.Test.YtoopngnmdgcklaaCopy
import Derived.Test.YtoopngnmdgcklaaLawS
namespace Go.Proofs.Ytoopngnmdgcklaa
open Go.RowKit

theorem row_set {w : World} {B e size n g i : Nat} {v u : Value} {xs : List Value} {S : List Bool} (h : w.ownsRow B e size v n xs) (hb : BBlk w g S) (he : e ≠ 4) : (w.setCell ⟨g, i, none⟩ u).ownsRow B e size v n xs :=
  row_at h fun _ _ _ hc => heap_set_other w u (cells_ne hc hb he)
theorem KXtors.set {w : World} {g i : Nat} {v u : Value} {l : List Xtor} {S : List Bool} (h : KXtors w v l) (hb : BBlk w g S) : KXtors (w.setCell ⟨g, i, none⟩ u) v l := by
  obtain ⟨vas, h⟩ := h
  exact ⟨vas, h.len, row_set h.row hb (by decide), fun i va x a b => row_set (h.args i va x a b) hb (by decide)⟩
theorem KD.set {w : World} {B g i : Nat} {v u : Value} {l : List Decl} {vxs : List Value} {S : List Bool} (h : KD w B v l vxs) (hb : BBlk w g S) : KD (w.setCell ⟨g, i, none⟩ u) B v l vxs :=
  ⟨h.len, row_set h.row hb (by decide), fun i vx d a b => (h.xtors i vx d a b).set hb⟩
theorem RBools.nil {w : World} : RBools w (.slice none 0 0) [] := ⟨none, 0, rfl, Nat.le_refl _, Nat.zero_le _, fun i a h => by simp at h⟩

theorem eqAs_refl : ∀ l, eqAs l l = true
  | [] => rfl
  | a :: r => by rw [eqAs_cons, eqAs_refl r]; simp [eqArg]
theorem eqXs_refl : ∀ l, eqXs l l = true
  | [] => rfl
  | a :: r => by rw [eqXs_cons, eqXs_refl r]; simp [eqX, eqAs_refl]
theorem eqDs_refl : ∀ l, eqDs l l = true
  | [] => rfl
  | a :: r => by
    show (eqD a a && eqDs r r) = true
    rw [eqDs_refl r]; simp [eqD, eqXs_refl]

set_option maxHeartbeats 4000000 in
set_option maxRecDepth 100000 in
theorem declOwn_any (v : Value) (l : List Decl) (t n : Int) (nm : ByteArray) (w : World) (h : RDecls w v l) (hM : Modest l) :
    Calls Try.prog 7 #[v, .int .i64 t, .int .i64 n, .string nm] w fun e w' => e = .returned (.bool true) ∧ Ext w w' := by
  have HR := Lib.hid h
  have HM := Lib.hid hM
  have hfew := hM.few
  clear hM
  obtain ⟨A, c, rfl, hc, hm⟩ := h.form
  clear h
  unfold maxLen at hm
  go_enter Try.func7, Try.ntmps7
  by_cases h40 : (40 : Int) < l.length
  · go_wp2_with fail
    (with_reducible refine (awake_any _).mono ?_)
    rintro e w2 ⟨rfl, hb⟩
    have HE2 := Lib.hid hb
    clear hb
    go_wp2
    go_ret
    exact ⟨rfl, HE2.out⟩
  · go_wp2_with fail
    (with_reducible refine (Copy_any _ l _ HR.out HM.out).mono ?_)
    rintro e w2 ⟨⟨vo, vxs, rfl, hkd⟩, hb⟩
    have HE2 := Lib.hid hb
    obtain ⟨Ao, co, rfl, hco, hmo, -⟩ := row_form hkd.row
    have HK2 := Lib.hid hkd
    clear hb hkd
    go_wp2_with fail
    (with_reducible refine (Check_any _ l _ (HR.out.below HE2.out)).mono ?_)
    rintro e w3 ⟨rfl, hb⟩
    have HE3 := Lib.hid (HE2.out.tr hb)
    have HK3 := Lib.hid (HK2.out.ext hb)
    clear hb HK2 HE2
    go_wp2_with fail
    (with_reducible refine (Source_any _ l _ (HR.out.below HE3.out)).mono ?_)
    rintro e w4 ⟨rfl, hb⟩
    have HE4 := Lib.hid (HE3.out.tr hb)
    have HK4 := Lib.hid (HK3.out.ext hb)
    clear hb HK3 HE3
    go_wp2_with fail
    (with_reducible refine (Positive_any _ l t _ (HR.out.below HE4.out)).mono ?_)
    rintro e w5 ⟨rfl, hb⟩
    have HE5 := Lib.hid (HE4.out.tr hb)
    have HK5 := Lib.hid (HK4.out.ext hb)
    clear hb HK4 HE4
    go_wp2_with fail
    (with_reducible refine (Result_any _ l t n _ (HR.out.below HE5.out)).mono ?_)
    rintro e w6 ⟨rfl, hb⟩
    have HE6 := Lib.hid (HE5.out.tr hb)
    have HK6 := Lib.hid (HK5.out.ext hb)
    clear hb HK5 HE5
    go_wp2_with fail
    (with_reducible refine (String_call _ l _ (HR.out.below HE6.out)).mono ?_)
    rintro e w7 ⟨rfl, hb⟩
    have HE7 := Lib.hid (HE6.out.tr hb)
    have HK7 := Lib.hid (HK6.out.ext hb)
    clear hb HK6 HE6
    go_wp2_with fail
    (with_reducible refine (Find_any _ l nm _ (HR.out.below HE7.out)).mono ?_)
    rintro e w8 ⟨rfl, hb⟩
    have HE8 := Lib.hid (HE7.out.tr hb)
    have HK8 := Lib.hid (HK7.out.ext hb)
    clear hb HK7 HE7
    generalize posB l t = r1 at *
    generalize resI l t n = r2 at *
    generalize strP l = r3 at *
    generalize fndP l nm = r4 at *
    generalize srcP l = r5 at *
    generalize chkI l = r6 at *
    go_wp2_with fail
    (with_reducible refine (Small_any _ l _ (HR.out.below HE8.out)).mono ?_)
    rintro e w9 ⟨hbad, hgood, hb⟩
    have HE9 := Lib.hid (HE8.out.tr hb)
    have HK9 := Lib.hid (HK8.out.ext hb)
    clear hb HK8
    cases hq : validB l
    · rw [hbad hq]
      have HQ := Lib.hid hq
      clear hbad hgood hq HE8
      go_wp2_with fail
      (with_reducible refine (Small_any _ l _ (HR.out.below HE9.out)).mono ?_)
      rintro e w10 ⟨hbad, -, hb⟩
      rw [hbad HQ.out]
      have HE10 := Lib.hid (HE9.out.tr hb)
      have HK10 := Lib.hid (HK9.out.ext hb)
      clear hb hbad HK9 HE9
      go_wp2_with fail
      go_loopw [51] (fun i wr => i = .int .i64 0 ∧ wr = w10) (fun _ _ => 0)
      case atStart => exact ⟨rfl, rfl⟩
      case round =>
        obtain ⟨rfl, rfl⟩ := hrel
        go_wp2_with fail
        (with_reducible refine (Small_any _ l _ (HR.out.below HE10.out)).mono ?_)
        rintro e w11 ⟨hbad, -, hb⟩
        rw [hbad HQ.out]
        have HE11 := Lib.hid (HE10.out.tr hb)
        have HK11 := Lib.hid (HK10.out.ext hb)
        clear hb hbad HK10 HE10
        go_wp2_with fail
        (with_reducible refine (Same_any _ _ l l _ (HK11.out.reads (sizes_d HR.out)) (HR.out.below HE11.out)).mono ?_)
        rw [eqDs_refl]
        rintro e w12 ⟨rfl, hb⟩
        have HE12 := Lib.hid (HE11.out.tr hb)
        clear hb HK11 HE11
        go_wp2_with fail
        (with_reducible refine (SameBools_any _ _ [] [] _ RBools.nil RBools.nil).mono ?_)
        rintro e w13 ⟨rfl, hb⟩
        have HE13 := Lib.hid (HE12.out.tr hb)
        have heq : eqB [] [] = true := rfl
        rw [heq]
        clear hb HE12 heq
        go_wp2_with fail
        (with_reducible refine (awake_any _).mono ?_)
        rintro e w14 ⟨rfl, hb⟩
        have HE14 := Lib.hid (HE13.out.tr hb)
        clear hb HE13
        go_wp2
        go_ret
        exact ⟨rfl, HE14.out⟩
    · obtain ⟨g1, he, hg1, hb1⟩ := hgood hq
      rw [he]
      have HQ := Lib.hid hq
      have HB9 := Lib.hid hb1
      clear hbad hgood hq he hb1 HE8
      go_wp2_with fail
      (with_reducible refine (Small_any _ l _ (HR.out.below HE9.out)).mono ?_)
      rintro e w10 ⟨-, hgood, hb⟩
      obtain ⟨g2, he, hg2, hb2⟩ := hgood HQ.out
      rw [he]
      have HE10 := Lib.hid (HE9.out.tr hb)
      have HK10 := Lib.hid (HK9.out.ext hb)
      have HB10 := Lib.hid (HB9.out.ext hb)
      have hlt := HB9.out.lt
      have HC10 := Lib.hid hb2
      have hgw : w.heap.size ≤ g2 := Nat.le_trans HE9.out.size hg2
      have hne : g1 ≠ g2 := by omega
      clear hb hgood he hb2 HK9 HE9 HB9
      go_wp2_with fail
      have hsl := smallR_len l
      have hl8 : l.length ≤ 40 := by omega
      go_loopw [51] (fun i wr => ∃ (k : Nat) (S : List Bool), k ≤ l.length ∧ i = .int .i64 k ∧ BBlk wr g2 S ∧ S.length = l.length ∧ BBlk wr g1 (smallR l) ∧ KD wr w.heap.size (.slice Ao l.length co) l vxs ∧ Ext w wr) (fun i _ => l.length - (intOf i).toNat)
      case atStart => exact ⟨0, smallR l, Nat.zero_le _, rfl, HC10.out, hsl, HB10.out, HK10.out, HE10.out⟩
      case round =>
        obtain ⟨k, S, hk, rfl, hS, hSl, hB1, hK, hE⟩ := hrel
        by_cases hlt : k < l.length
        · have hkS : k < S.length := by omega
          have e0 := hS.cell hkS
          have ez := hS.frozen k
          have HS := Lib.hid (hS.set k (!S[k]))
          have HKs := Lib.hid (hK.set (i := k) (u := .bool (!S[k])) hS)
          have HB := Lib.hid ((heap_set_other wr (i := k) (.bool (!S[k])) hne).trans hB1 : BBlk (wr.setCell ⟨g2, k, none⟩ (.bool (!S[k]))) g1 (smallR l))
          have HE := Lib.hid (Below.setNew hE hgw (i := k) (.bool (!S[k])))
          have HSL := Lib.hid hSl
          clear hS hB1 hK hE hSl HE10 HK10 HB10 HC10 hsl
          generalize S[k] = sb at *
          go_wp2
          go_roundw
          case rel => exact ⟨k + 1, S.set k (!sb), by omega, by go_num, HS.out, by rw [List.length_set]; exact HSL.out, HB.out, HKs.out, HE.out⟩
          case measure => simp [intOf]; omega
        · have HB := Lib.hid hB1
          have HKs := Lib.hid hK
          have HE := Lib.hid hE
          clear hS hB1 hK hE hSl HE10 HK10 HB10 HC10 hsl
          go_wp2_with fail
          (with_reducible refine (Small_any _ l _ (HR.out.below HE.out)).mono ?_)
          rintro e w11 ⟨-, hgood, hb⟩
          obtain ⟨g3, he, hg3, hb3⟩ := hgood HQ.out
          rw [he]
          have HE11 := Lib.hid (HE.out.tr hb)
          have HK11 := Lib.hid (HKs.out.ext hb)
          have HB11 := Lib.hid (HB.out.ext hb)
          have HC11 := Lib.hid hb3
          clear hb hgood he hb3 HKs HE HB
          go_wp2_with fail
          (with_reducible refine (Same_any _ _ l l _ (HK11.out.reads (sizes_d HR.out)) (HR.out.below HE11.out)).mono ?_)
          rw [eqDs_refl]
          rintro e w12 ⟨rfl, hb⟩
          have HE12 := Lib.hid (HE11.out.tr hb)
          have hsl := smallR_len l
          have hl9 : (smallR l).length ≤ maxLen := by rw [hsl]; unfold maxLen; omega
          have HB12 := Lib.hid ((HB11.out.ext hb).reads hl9)
          have HC12 := Lib.hid ((HC11.out.ext hb).reads hl9)
          rw [hsl] at HB12 HC12
          clear hb HK11 HE11 HB11 HC11 hsl hl9
          go_wp2_with fail
          (with_reducible refine (SameBools_any _ _ (smallR l) (smallR l) _ HB12.out HC12.out).mono ?_)
          have heq : eqB (smallR l) (smallR l) = true := by simp [eqB]
          rw [heq]
          rintro e w13 ⟨rfl, hb⟩
          have HE13 := Lib.hid (HE12.out.tr hb)
          clear hb HE12 heq
          go_wp2_with fail
          (with_reducible refine (awake_any _).mono ?_)
          rintro e w14 ⟨rfl, hb⟩
          have HE14 := Lib.hid (HE13.out.tr hb)
          clear hb HE13
          go_wp2
          go_ret
          exact ⟨rfl, HE14.out⟩
end Go.Proofs.Ytoopngnmdgcklaa
