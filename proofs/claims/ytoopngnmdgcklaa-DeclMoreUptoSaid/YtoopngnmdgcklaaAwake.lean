import Derived.Test.YtoopngnmdgcklaaSmall
import Derived.Test.YtoopngnmdgcklaaSame
import Derived.Test.YtoopngnmdgcklaaRText
import Derived.Test.YtoopngnmdgcklaaCalls
namespace Go.Proofs.Ytoopngnmdgcklaa
open Go.RowKit

def exL : List Decl := [⟨⟨#[108, 105, 115, 116]⟩, false, [⟨⟨#[78, 105, 108]⟩, []⟩, ⟨⟨#[67, 111, 110, 115]⟩, [⟨0, false⟩, ⟨1, false⟩]⟩]⟩,
  ⟨⟨#[115, 116, 114, 101, 97, 109]⟩, true, [⟨⟨#[72, 101, 97, 100]⟩, [⟨0, true⟩]⟩, ⟨⟨#[84, 97, 105, 108]⟩, [⟨2, true⟩]⟩]⟩,
  ⟨⟨#[107, 110, 111, 116]⟩, false, [⟨⟨#[84, 105, 101]⟩, [⟨3, false⟩]⟩]⟩]
theorem ex_valid : validB exL = true := by decide +kernel
theorem ex_valid1 : validB (exL.take 1) = true := by decide +kernel
theorem ex_valid2 : validB (exL.drop 1) = false := by decide +kernel
theorem ex_str : strP (exL.take 1) = (⟨#[100, 97, 116, 97, 32, 108, 105, 115, 116, 32, 123, 32, 78, 105, 108, 40, 41, 44, 32, 67, 111, 110, 115, 40, 105, 110, 116, 44, 32, 108, 105, 115, 116, 41, 32, 125, 10]⟩, 0) := by decide +kernel
theorem ex_src : srcP exL = (true, 0) := by decide +kernel
theorem ex_res : resI exL 2 1 = (2, 0) := by decide +kernel
theorem ex_find : fndP exL ⟨#[67, 111, 110, 115]⟩ = (1, 1, 0) := by decide +kernel
theorem ex_pos : posB exL 2 = (false, 0) := by decide +kernel
theorem ex_chk : chkI exL = 0 := by decide +kernel
theorem ex_chk2 : chkI (exL.drop 1) = 10 := by decide +kernel
theorem ex_small : smallR exL = [true, false, false] := by decide +kernel

def allocAll : World → List Obj → World
  | w, [] => w
  | w, o :: r => allocAll (w.alloc o) r
theorem allocAll_ext : ∀ (os : List Obj) (w : World), Ext w (allocAll w os)
  | [], w => Ext.rf w
  | o :: r, w => (Ext.al w o).tr (allocAll_ext r _)
theorem allocAll_at : ∀ (os : List Obj) (w : World) (i : Nat) (o : Obj), os[i]? = some o → (allocAll w os).heap[w.heap.size + i]? = some o
  | [], w, i, o, h => by simp at h
  | p :: r, w, 0, o, h => by
    obtain rfl := Option.some.inj h
    have h1 : (w.alloc p).heap[w.heap.size]? = some p := heapNew w p
    exact ((allocAll_ext r (w.alloc p)).block _ (by simp)).trans h1
  | p :: r, w, i + 1, o, h => by
    have := allocAll_at r (w.alloc p) i o h
    rw [show (w.alloc p).heap.size = w.heap.size + 1 by simp] at this
    rw [show w.heap.size + (i + 1) = w.heap.size + 1 + i by omega]
    exact this
def exO (n : Nat) : List Obj := [.cells #[.int .i64 0, .bool false, .int .i64 1, .bool false] 50,
  .cells #[.string ⟨#[78, 105, 108]⟩, .slice none 0 0, .string ⟨#[67, 111, 110, 115]⟩, .slice (some ⟨n, 0, none⟩) 2 2] 45,
  .cells #[.int .i64 0, .bool true] 50, .cells #[.int .i64 2, .bool true] 50,
  .cells #[.string ⟨#[72, 101, 97, 100]⟩, .slice (some ⟨n + 1 + 1, 0, none⟩) 1 1, .string ⟨#[84, 97, 105, 108]⟩, .slice (some ⟨n + 1 + 1 + 1, 0, none⟩) 1 1] 45,
  .cells #[.int .i64 3, .bool false] 50,
  .cells #[.string ⟨#[84, 105, 101]⟩, .slice (some ⟨n + 1 + 1 + 1 + 1 + 1, 0, none⟩) 1 1] 45,
  .cells #[.string ⟨#[108, 105, 115, 116]⟩, .bool false, .slice (some ⟨n + 1, 0, none⟩) 2 2, .string ⟨#[115, 116, 114, 101, 97, 109]⟩, .bool true, .slice (some ⟨n + 1 + 1 + 1 + 1, 0, none⟩) 2 2, .string ⟨#[107, 110, 111, 116]⟩, .bool false, .slice (some ⟨n + 1 + 1 + 1 + 1 + 1 + 1, 0, none⟩) 1 1] 48]
theorem RArgs.nil {w : World} : RArgs w (.slice none 0 0) [] := ⟨none, 0, rfl, Nat.le_refl _, Nat.zero_le _, fun i a h => by simp at h⟩
theorem RArgs.one {w : World} {b : Nat} {t : Int} {co : Bool} (h : w.heap[b]? = some (.cells #[.int .i64 t, .bool co] 50 (0, 0))) : RArgs w (.slice (some ⟨b, 0, none⟩) 1 1) [⟨t, co⟩] :=
  ⟨_, 1, rfl, Nat.le_refl _, by decide, fun i a hi => by
    match i, hi with
    | 0, hi => obtain rfl := Option.some.inj hi; exact ⟨_, _, rfl, heap_lt h, cellAt h 0, cellAt h 1⟩⟩
theorem RArgs.two {w : World} {b : Nat} {t u : Int} {co cp : Bool} (h : w.heap[b]? = some (.cells #[.int .i64 t, .bool co, .int .i64 u, .bool cp] 50 (0, 0))) : RArgs w (.slice (some ⟨b, 0, none⟩) 2 2) [⟨t, co⟩, ⟨u, cp⟩] :=
  ⟨_, 2, rfl, Nat.le_refl _, by decide, fun i a hi => by
    match i, hi with
    | 0, hi => obtain rfl := Option.some.inj hi; exact ⟨_, _, rfl, heap_lt h, cellAt h 0, cellAt h 1⟩
    | 1, hi => obtain rfl := Option.some.inj hi; exact ⟨_, _, rfl, heap_lt h, cellAt h 2, cellAt h 3⟩⟩
theorem RXtors.one {w : World} {b : Nat} {x : Xtor} {va : Value} (h : w.heap[b]? = some (.cells #[.string x.name, va] 45 (0, 0))) (ha : RArgs w va x.args) (hs : x.name.size ≤ maxLen) : RXtors w (.slice (some ⟨b, 0, none⟩) 1 1) [x] :=
  ⟨_, 1, rfl, Nat.le_refl _, by decide, fun i a hi => by
    match i, hi with
    | 0, hi => obtain rfl := Option.some.inj hi; exact ⟨_, _, va, rfl, heap_lt h, cellAt h 0, cellAt h 1, ha, hs⟩⟩
theorem RXtors.two {w : World} {b : Nat} {x y : Xtor} {va vb : Value} (h : w.heap[b]? = some (.cells #[.string x.name, va, .string y.name, vb] 45 (0, 0))) (ha : RArgs w va x.args) (hs : x.name.size ≤ maxLen) (hb : RArgs w vb y.args) (ht : y.name.size ≤ maxLen) : RXtors w (.slice (some ⟨b, 0, none⟩) 2 2) [x, y] :=
  ⟨_, 2, rfl, Nat.le_refl _, by decide, fun i a hi => by
    match i, hi with
    | 0, hi => obtain rfl := Option.some.inj hi; exact ⟨_, _, va, rfl, heap_lt h, cellAt h 0, cellAt h 1, ha, hs⟩
    | 1, hi => obtain rfl := Option.some.inj hi; exact ⟨_, _, vb, rfl, heap_lt h, cellAt h 2, cellAt h 3, hb, ht⟩⟩
theorem ex_mem (w : World) : RDecls (allocAll w (exO w.heap.size)) (.slice (some ⟨w.heap.size + 1 + 1 + 1 + 1 + 1 + 1 + 1, 0, none⟩) 3 3) exL ∧ RDecls (allocAll w (exO w.heap.size)) (.slice (some ⟨w.heap.size + 1 + 1 + 1 + 1 + 1 + 1 + 1, 3, none⟩) 2 2) (exL.drop 1) := by
  have h0 := allocAll_at (exO w.heap.size) w 0 _ rfl
  have h1 := allocAll_at (exO w.heap.size) w 1 _ rfl
  have h2 := allocAll_at (exO w.heap.size) w 2 _ rfl
  have h3 := allocAll_at (exO w.heap.size) w 3 _ rfl
  have h4 := allocAll_at (exO w.heap.size) w 4 _ rfl
  have h5 := allocAll_at (exO w.heap.size) w 5 _ rfl
  have h6 := allocAll_at (exO w.heap.size) w 6 _ rfl
  have h7 := allocAll_at (exO w.heap.size) w 7 _ rfl
  generalize allocAll w (exO w.heap.size) = w1 at *
  have x0 : RXtors w1 _ [⟨⟨#[78, 105, 108]⟩, []⟩, ⟨⟨#[67, 111, 110, 115]⟩, [⟨0, false⟩, ⟨1, false⟩]⟩] := RXtors.two h1 RArgs.nil (by decide) (RArgs.two h0) (by decide)
  have x1 : RXtors w1 _ [⟨⟨#[72, 101, 97, 100]⟩, [⟨0, true⟩]⟩, ⟨⟨#[84, 97, 105, 108]⟩, [⟨2, true⟩]⟩] := RXtors.two h4 (RArgs.one h2) (by decide) (RArgs.one h3) (by decide)
  have x2 : RXtors w1 _ [⟨⟨#[84, 105, 101]⟩, [⟨3, false⟩]⟩] := RXtors.one h6 (RArgs.one h5) (by decide)
  constructor
  · refine ⟨_, 3, rfl, Nat.le_refl _, by decide, fun i a hi => ?_⟩
    match i, hi with
    | 0, hi => obtain rfl := Option.some.inj hi; exact ⟨_, _, _, rfl, heap_lt h7, cellAt h7 0, cellAt h7 1, cellAt h7 2, x0, by decide⟩
    | 1, hi => obtain rfl := Option.some.inj hi; exact ⟨_, _, _, rfl, heap_lt h7, cellAt h7 3, cellAt h7 4, cellAt h7 5, x1, by decide⟩
    | 2, hi => obtain rfl := Option.some.inj hi; exact ⟨_, _, _, rfl, heap_lt h7, cellAt h7 6, cellAt h7 7, cellAt h7 8, x2, by decide⟩
  · refine ⟨_, 2, rfl, Nat.le_refl _, by decide, fun i a hi => ?_⟩
    match i, hi with
    | 0, hi => obtain rfl := Option.some.inj hi; exact ⟨_, _, _, rfl, heap_lt h7, cellAt h7 3, cellAt h7 4, cellAt h7 5, x1, by decide⟩
    | 1, hi => obtain rfl := Option.some.inj hi; exact ⟨_, _, _, rfl, heap_lt h7, cellAt h7 6, cellAt h7 7, cellAt h7 8, x2, by decide⟩

set_option maxHeartbeats 2000000 in
set_option maxRecDepth 100000 in
theorem awake_any (w : World) : Calls Try.prog 13 #[] w fun e w' => e = .returned (.bool true) ∧ Ext w w' := by
  have H := Lib.hid (ex_mem w)
  have HE := Lib.hid (allocAll_ext (exO w.heap.size) w)
  go_enter Try.func13, Try.ntmps13
  go_wp2_with fail
  change Calls _ _ _ (allocAll w (exO w.heap.size)) _
  generalize allocAll w (exO w.heap.size) = w1 at *
  (with_reducible refine (String_call _ (exL.take 1) _ (H.out.1.take (n := 1) (by decide))).mono ?_)
  rw [ex_str]
  rintro e w2 ⟨rfl, hb⟩
  have HE2 := Lib.hid (HE.out.tr hb)
  have HR2 := Lib.hid (H.out.1.below hb)
  have HS2 := Lib.hid (H.out.2.below hb)
  clear hb
  go_wp2_with fail
  (with_reducible refine (Check_any _ exL _ HR2.out).mono ?_)
  rw [ex_chk]
  rintro e w3 ⟨rfl, hb⟩
  have HE3 := Lib.hid (HE2.out.tr hb)
  have HR3 := Lib.hid (HR2.out.below hb)
  have HS3 := Lib.hid (HS2.out.below hb)
  clear hb
  go_wp2_with fail
  (with_reducible refine (Check_any _ (exL.drop 1) _ HS3.out).mono ?_)
  rw [ex_chk2]
  rintro e w4 ⟨rfl, hb⟩
  have HE4 := Lib.hid (HE3.out.tr hb)
  have HR4 := Lib.hid (HR3.out.below hb)
  clear hb HS3 HS2 HR2 HR3
  go_wp2_with fail
  (with_reducible refine (Source_any _ exL _ HR4.out).mono ?_)
  rw [ex_src]
  rintro e w5 ⟨rfl, hb⟩
  have HE5 := Lib.hid (HE4.out.tr hb)
  have HR5 := Lib.hid (HR4.out.below hb)
  clear hb
  go_wp2_with fail
  (with_reducible refine (Result_any _ exL 2 1 _ HR5.out).mono ?_)
  rw [ex_res]
  rintro e w6 ⟨rfl, hb⟩
  have HE6 := Lib.hid (HE5.out.tr hb)
  have HR6 := Lib.hid (HR5.out.below hb)
  clear hb
  go_wp2_with fail
  (with_reducible refine (Find_any _ exL _ _ HR6.out).mono ?_)
  rw [ex_find]
  rintro e w7 ⟨rfl, hb⟩
  have HE7 := Lib.hid (HE6.out.tr hb)
  have HR7 := Lib.hid (HR6.out.below hb)
  clear hb
  go_wp2_with fail
  (with_reducible refine (Small_any _ exL _ HR7.out).mono ?_)
  rintro e w8 ⟨-, hg, hb⟩
  obtain ⟨g, rfl, hg2, hbb⟩ := hg ex_valid
  rw [ex_small] at hbb
  have HE8 := Lib.hid (HE7.out.tr hb)
  have HR8 := Lib.hid (HR7.out.below hb)
  have HB8 := Lib.hid hbb
  have hx3 : exL.length = 3 := rfl
  rw [hx3]
  clear hb hg hg2 hbb hx3
  go_wp2_with fail
  (with_reducible refine (Positive_any _ exL 2 _ HR8.out).mono ?_)
  rw [ex_pos]
  rintro e w9 ⟨rfl, hb⟩
  have HE9 := Lib.hid (HE8.out.tr hb)
  have HB9 := Lib.hid (HB8.out.ext hb)
  clear hb
  go_wp2_with fail
  have hE10 := Ext.al w9 (Obj.cells #[Value.bool true, Value.bool false, Value.bool false] 4)
  have HE10 := Lib.hid (HE9.out.tr hE10)
  have HB10 : Hid (RBools _ (.slice (some ⟨g, 0, none⟩) 3 3) [true, false, false]) := Lib.hid ((HB9.out.ext hE10).reads (by decide))
  have HN : Hid (BBlk (w9.alloc (Obj.cells #[Value.bool true, Value.bool false, Value.bool false] 4)) w9.heap.size [true, false, false]) := Lib.hid (BBlk.new w9 [true, false, false])
  have HN2 : Hid (RBools _ (.slice (some ⟨w9.heap.size, 0, none⟩) 3 3) [true, false, false]) := Lib.hid (HN.out.reads (by decide))
  clear hE10
  generalize w9.alloc _ = w10 at *
  (with_reducible refine (SameBools_any _ _ [true, false, false] [true, false, false] _ HB10.out HN2.out).mono ?_)
  rintro e w11 ⟨rfl, hb⟩
  have HE11 := Lib.hid (HE10.out.tr hb)
  have heq : eqB [true, false, false] [true, false, false] = true := by decide
  rw [heq]
  clear hb heq
  go_wp2
  go_ret
  exact ⟨rfl, HE11.out⟩
end Go.Proofs.Ytoopngnmdgcklaa
