import Derived.Test.YtoopngnmdgcklaaAwake
namespace Go.Proofs.Ytoopngnmdgcklaa
open Go.RowKit

theorem chkI_bad {l : List Decl} (h : validB l = false) : chkI l = 10 := by simp [chkI, h]
theorem chkI_good {l : List Decl} (h : validB l = true) : chkI l = 0 := by simp [chkI, h]
theorem srcP_bad {l : List Decl} (h : validB l = false) : srcP l = (false, 10) := by simp [srcP, h]
theorem srcP_good {l : List Decl} (h : validB l = true) : srcP l = (srcB l, 0) := by simp [srcP, h]
theorem strP_bad {l : List Decl} (h : validB l = false) : strP l = (⟨#[]⟩, 10) := by simp [strP, h]
theorem strP_good {l : List Decl} (h : validB l = true) : strP l = (⟨(declsS l l).toArray⟩, 0) := by simp [strP, h]
theorem smallR_len (l : List Decl) : (smallR l).length = l.length := by unfold smallR; rw [fR_len]; simp

set_option maxHeartbeats 2000000 in
set_option maxRecDepth 100000 in
theorem declForms_any (v : Value) (l : List Decl) (w : World) (h : RDecls w v l) :
    Calls Try.prog 3 #[v] w fun e w' => e = .returned (.bool true) ∧ Ext w w' := by
  have HR := Lib.hid h
  obtain ⟨A, c, rfl, hc, hm⟩ := h.form
  clear h
  unfold maxLen at hm
  go_enter Try.func3, Try.ntmps3
  go_wp2_with fail
  (with_reducible refine (Check_any _ l _ HR.out).mono ?_)
  rintro e w2 ⟨rfl, hb⟩
  have HE2 := Lib.hid hb
  have HR2 := Lib.hid (HR.out.below hb)
  clear hb HR
  go_wp2_with fail
  (with_reducible refine (Source_any _ l _ HR2.out).mono ?_)
  rintro e w3 ⟨rfl, hb⟩
  have HE3 := Lib.hid (HE2.out.tr hb)
  have HR3 := Lib.hid (HR2.out.below hb)
  clear hb HR2 HE2
  go_wp2_with fail
  (with_reducible refine (String_call _ l _ HR3.out).mono ?_)
  rintro e w4 ⟨rfl, hb⟩
  have HE4 := Lib.hid (HE3.out.tr hb)
  have HR4 := Lib.hid (HR3.out.below hb)
  clear hb HR3 HE3
  go_wp2_with fail
  (with_reducible refine (Small_any _ l _ HR4.out).mono ?_)
  rintro e w5 ⟨hbad, hgood, hb⟩
  have HE5 := Lib.hid (HE4.out.tr hb)
  have HR5 := Lib.hid (HR4.out.below hb)
  clear hb HR4 HE4
  cases hq : validB l
  · have hi : isB l = false := by rw [← valid_is]; exact hq
    rw [hbad hq, chkI_bad hq, srcP_bad hq, strP_bad hq]
    clear hbad hgood hq
    go_wp2_with fail
    (with_reducible refine (Is_any _ l _ HR5.out).mono ?_)
    rw [hi]
    rintro e w6 ⟨rfl, hb⟩
    have HE6 := Lib.hid (HE5.out.tr hb)
    clear hb hi
    go_wp2_with fail
    (with_reducible refine (awake_any _).mono ?_)
    rintro e w7 ⟨rfl, hb⟩
    have HE7 := Lib.hid (HE6.out.tr hb)
    clear hb
    go_wp2
    go_ret
    exact ⟨rfl, HE7.out⟩
  · have hi : isB l = true := by rw [← valid_is]; exact hq
    obtain ⟨g, he, hg, hbb⟩ := hgood hq
    have HF := Lib.hid (Fine.of hq)
    have h8 := HF.out.few
    rw [he, chkI_good hq, srcP_good hq, strP_good hq]
    have HB5 := Lib.hid hbb
    clear hbad hgood hq he hbb
    go_wp2_with fail
    (with_reducible refine (Is_any _ l _ HR5.out).mono ?_)
    rw [hi]
    rintro e w6 ⟨rfl, hb⟩
    have HE6 := Lib.hid (HE5.out.tr hb)
    have HR6 := Lib.hid (HR5.out.below hb)
    have HB6 := Lib.hid (HB5.out.ext hb)
    clear hb hi HR5 HB5 HE5
    go_wp2_with fail
    (with_reducible refine (RSource_any _ l _ HR6.out).mono ?_)
    rintro e w7 ⟨rfl, hb⟩
    have HE7 := Lib.hid (HE6.out.tr hb)
    have HR7 := Lib.hid (HR6.out.below hb)
    have HB7 := Lib.hid (HB6.out.ext hb)
    clear hb HR6 HB6 HE6
    generalize srcB l = sb
    go_wp2_with fail
    (with_reducible refine (RString_any _ l _ HR7.out HF.out).mono ?_)
    rintro e w8 ⟨rfl, hb⟩
    have HE8 := Lib.hid (HE7.out.tr hb)
    have HR8 := Lib.hid (HR7.out.below hb)
    have HB8 := Lib.hid (HB7.out.ext hb)
    clear hb HR7 HB7 HE7
    go_wp2_with fail
    (with_reducible refine (RSmall_any _ l _ HR8.out HF.out).mono ?_)
    rintro e w9 ⟨⟨rfl, hbb⟩, hb⟩
    have HE9 := Lib.hid (HE8.out.tr hb)
    have hl := smallR_len l
    have hl8 : (smallR l).length ≤ maxLen := by rw [hl]; unfold maxLen; omega
    have HB9 := Lib.hid ((HB8.out.ext hb).reads hl8)
    have HN9 := Lib.hid (hbb.reads hl8)
    rw [hl] at HB9 HN9
    clear hb HR8 HB8 HE8 hl hl8 hbb
    go_wp2_with fail
    (with_reducible refine (SameBools_any _ _ (smallR l) (smallR l) _ HB9.out HN9.out).mono ?_)
    have heq : eqB (smallR l) (smallR l) = true := by simp [eqB]
    rw [heq]
    rintro e w10 ⟨rfl, hb⟩
    have HE10 := Lib.hid (HE9.out.tr hb)
    clear hb heq
    go_wp2_with fail
    (with_reducible refine (awake_any _).mono ?_)
    rintro e w11 ⟨rfl, hb⟩
    have HE11 := Lib.hid (HE10.out.tr hb)
    clear hb
    go_wp2
    go_ret
    exact ⟨rfl, HE11.out⟩
end Go.Proofs.Ytoopngnmdgcklaa
