/- law.go: the fixed examples, as terms. -/
import Derived.Test.YtfohcdpfgbeclaaGreatQ14
import Derived.Deep.Cut
import Derived.Deep.DeepCutAuto
namespace Go.Proofs.YtfohcdpfgbeclaaGreat
open Go.RowKit

def xS : Str := ⟨#[120]⟩
def yS : Str := ⟨#[121]⟩
def nS : Str := ⟨#[110]⟩
def kS' : Str := ⟨#[107]⟩
def aS : Str := ⟨#[97]⟩
def bS : Str := ⟨#[98]⟩
def mainS : Str := ⟨#[109, 97, 105, 110]⟩
def noS : Str := ⟨#[]⟩
def varT (s : Str) : Tm := .mk 0 0 s 0 [] []
def oneT : Tm := .mk 1 1 noS 0 [] []
def sumT (a b : Tm) : Tm := .mk 2 0 noS 0 [a, b] []
def callT (a : Tm) : Tm := .mk 9 0 noS 0 [a] []
def bodyT : Tm := .mk 8 0 xS 0 [sumT (varT nS) oneT, callT (varT xS)] []
def funF (t : Tm) : Fn := ⟨mainS, [⟨nS, 0⟩], 0, t⟩
def exP (t : Tm) : Pg := ⟨[], [funF t]⟩
def gotoT : Tm := .mk 12 0 kS' 0 [sumT (varT bS) (varT aS)] []
set_option maxRecDepth 100000
theorem t1 : eqS aS bS = false := by kernel_rfl
theorem t2 : nameB nS = true := by kernel_rfl
theorem t3 : validB [] = true := by kernel_rfl
theorem t4 : srcB [] = true := by kernel_rfl
theorem t5 : distB [mainS] = true := by kernel_rfl
theorem t6 : sizesB 0 [funF bodyT] = true := by kernel_rfl
theorem t7 : funB (exP bodyT) (funF bodyT) = true := by kernel_rfl
theorem t8 : progB (exP bodyT) = true := by kernel_rfl
theorem t9 : progB (exP (varT yS)) = false := by kernel_rfl
theorem t10 : nodesP (exP bodyT) = (6, 0) := by kernel_rfl
theorem t11 : termP (exP bodyT) (hasS [yS]) (hasS []) (varT yS) = (true, 0) := by kernel_rfl
theorem t12 : termP (exP bodyT) (hasS []) (hasS []) (varT yS) = (false, 0) := by kernel_rfl

theorem RT.leaf (w : World) (k : Nat) (op n : Int) (nm : Str) (ty : Int) (h1 : nm.size ≤ maxLen) (h2 : ok64 n) (h3 : ok64 ty) : RT w (k + 1) (.mk op n nm ty [] []) (.slice none 0 0) (.slice none 0 0) :=
  ⟨⟨h1, h2, h3⟩, ⟨none, 0, rfl, Nat.le_refl _, Nat.zero_le _, fun i x h => by cases h⟩, ⟨none, 0, rfl, Nat.le_refl _, Nat.zero_le _, fun i x h => by cases h⟩⟩
theorem RT.one {w : World} {g k : Nat} {op n : Int} {nm : Str} {ty : Int} {a : Tm} {xa xc : Value} (h1 : nm.size ≤ maxLen) (h2 : ok64 n) (h3 : ok64 ty)
    (hg : w.heap[g]? = some (.cells #[.int .i64 a.op, .int .i64 a.n, .string a.nm, .int .i64 a.ty, xa, xc] 43 (0, 0))) (ha : RT w k a xa xc) : RT w (k + 1) (.mk op n nm ty [a] []) (.slice (some ⟨g, 0, none⟩) 1 1) (.slice none 0 0) :=
  ⟨⟨h1, h2, h3⟩, ⟨some ⟨g, 0, none⟩, 1, rfl, Nat.le_refl _, by decide, fun i x hi => by
    match i, hi with
    | 0, hi => obtain rfl := Option.some.inj hi; exact ⟨g, 0, xa, xc, rfl, heap_lt hg, ⟨cellAt hg 0, cellAt hg 1, cellAt hg 2, cellAt hg 3, cellAt hg 4, cellAt hg 5⟩, ha⟩⟩,
    ⟨none, 0, rfl, Nat.le_refl _, Nat.zero_le _, fun i x h => by cases h⟩⟩
theorem RT.two {w : World} {g k : Nat} {op n : Int} {nm : Str} {ty : Int} {a b : Tm} {xa xc ya yc : Value} (h1 : nm.size ≤ maxLen) (h2 : ok64 n) (h3 : ok64 ty)
    (hg : w.heap[g]? = some (.cells #[.int .i64 a.op, .int .i64 a.n, .string a.nm, .int .i64 a.ty, xa, xc, .int .i64 b.op, .int .i64 b.n, .string b.nm, .int .i64 b.ty, ya, yc] 43 (0, 0))) (ha : RT w k a xa xc) (hb : RT w k b ya yc) :
    RT w (k + 1) (.mk op n nm ty [a, b] []) (.slice (some ⟨g, 0, none⟩) 2 2) (.slice none 0 0) :=
  ⟨⟨h1, h2, h3⟩, ⟨some ⟨g, 0, none⟩, 2, rfl, Nat.le_refl _, by decide, fun i x hi => by
    match i, hi with
    | 0, hi => obtain rfl := Option.some.inj hi; exact ⟨g, 0, xa, xc, rfl, heap_lt hg, ⟨cellAt hg 0, cellAt hg 1, cellAt hg 2, cellAt hg 3, cellAt hg 4, cellAt hg 5⟩, ha⟩
    | 1, hi => obtain rfl := Option.some.inj hi; exact ⟨g, 0, ya, yc, rfl, heap_lt hg, ⟨cellAt hg 6, cellAt hg 7, cellAt hg 8, cellAt hg 9, cellAt hg 10, cellAt hg 11⟩, hb⟩⟩,
    ⟨none, 0, rfl, Nat.le_refl _, Nat.zero_le _, fun i x h => by cases h⟩⟩

set_option maxHeartbeats 1000000 in
theorem variable_any (s : Str) (w : World) :
    Calls Tryz.prog 31 #[.string s] w fun e w' => e = .returned (tV (varT s) (.slice none 0 0) (.slice none 0 0)) ∧ Ext w w' := by
  go_enter Tryz.func31, Tryz.ntmps31
  go_wp2
  have HE := Lib.hid (Ext.al w (.cells #[.int .i64 0, .int .i64 0, .string s, .int .i64 0, .slice none 0 0, .slice none 0 0] 43))
  have hg := heapNew w (.cells #[.int .i64 0, .int .i64 0, .string s, .int .i64 0, .slice none 0 0, .slice none 0 0] 43)
  generalize w.alloc _ = w1 at *
  obtain ⟨c0, c1, c2, c3, c4, c5⟩ := cells6 hg
  refine bodyPost_ret (v := .agg #[.int .i64 0, .int .i64 0, .string s, .int .i64 0, .slice none 0 0, .slice none 0 0]) (by simp [results, go_sem, c0, c1, c2, c3, c4, c5]) rfl ?_
  exact ⟨rfl, HE.out⟩

set_option maxHeartbeats 2000000 in
theorem sum_any (a b : Tm) (Aa Ac Ba Bc : Option Addr) (na ca nc cc nb cb nd cd k : Nat) (w : World) (ha : RT w k a (.slice Aa na ca) (.slice Ac nc cc)) (hb : RT w k b (.slice Ba nb cb) (.slice Bc nd cd)) :
    Calls Tryz.prog 30 #[tV a (.slice Aa na ca) (.slice Ac nc cc), tV b (.slice Ba nb cb) (.slice Bc nd cd)] w fun e w' => ∃ g, e = .returned (tV (sumT a b) (.slice (some ⟨g, 0, none⟩) 2 2) (.slice none 0 0)) ∧ RT w' (k + 1) (sumT a b) (.slice (some ⟨g, 0, none⟩) 2 2) (.slice none 0 0) ∧ Ext w w' := by
  have HA := Lib.hid ha; have HB := Lib.hid hb
  clear ha hb
  go_enter Tryz.func30, Tryz.ntmps30
  go_wp2
  have HX := Lib.hid (heapFourth w (.cells #[.int .i64 a.op, .int .i64 a.n, .string a.nm, .int .i64 a.ty, .slice Aa na ca, .slice Ac nc cc] 43) (.cells #[.int .i64 b.op, .int .i64 b.n, .string b.nm, .int .i64 b.ty, .slice Ba nb cb, .slice Bc nd cd] 43)
    (.cells #[.int .i64 2, .int .i64 0, .string ⟨#[]⟩, .int .i64 0, .slice (some ⟨w.heap.size + 1 + 1 + 1, 0, none⟩) 2 2, .slice none 0 0] 43)
    (.cells #[.int .i64 a.op, .int .i64 a.n, .string a.nm, .int .i64 a.ty, .slice Aa na ca, .slice Ac nc cc, .int .i64 b.op, .int .i64 b.n, .string b.nm, .int .i64 b.ty, .slice Ba nb cb, .slice Bc nd cd] 43))
  have HE : Hid (Ext w ((((w.alloc (.cells #[.int .i64 a.op, .int .i64 a.n, .string a.nm, .int .i64 a.ty, .slice Aa na ca, .slice Ac nc cc] 43)).alloc (.cells #[.int .i64 b.op, .int .i64 b.n, .string b.nm, .int .i64 b.ty, .slice Ba nb cb, .slice Bc nd cd] 43)).alloc
    (.cells #[.int .i64 2, .int .i64 0, .string ⟨#[]⟩, .int .i64 0, .slice (some ⟨w.heap.size + 1 + 1 + 1, 0, none⟩) 2 2, .slice none 0 0] 43)).alloc
    (.cells #[.int .i64 a.op, .int .i64 a.n, .string a.nm, .int .i64 a.ty, .slice Aa na ca, .slice Ac nc cc, .int .i64 b.op, .int .i64 b.n, .string b.nm, .int .i64 b.ty, .slice Ba nb cb, .slice Bc nd cd] 43))) := (Ext.al3 _ _ _ _).tr (Ext.al _ _)
  generalize (((w.alloc _).alloc _).alloc _).alloc _ = w1 at *
  obtain ⟨c0, c1, c2, c3, c4, c5⟩ := cells6 HX.out.2.2.1
  refine bodyPost_ret (v := .agg #[.int .i64 2, .int .i64 0, .string ⟨#[]⟩, .int .i64 0, .slice (some ⟨w.heap.size + 1 + 1 + 1, 0, none⟩) 2 2, .slice none 0 0]) (by simp [results, go_sem, c0, c1, c2, c3, c4, c5]) rfl ?_
  exact ⟨_, rfl, RT.two (by decide) (by unfold ok64; decide) (by unfold ok64; decide) HX.out.2.2.2 (HA.out.below HE.out) (HB.out.below HE.out), HE.out⟩
end Go.Proofs.YtfohcdpfgbeclaaGreat

/- ref.go: SameStrings, of equal lists. -/
namespace Go.Proofs.YtfohcdpfgbeclaaGreat
open Go.RowKit

set_option maxHeartbeats 1000000 in
set_option maxRecDepth 100000 in
theorem same_any (v1 v2 : Value) (l : List Str) (w : World) (h1 : RStrs w v1 l) (h2 : RStrs w v2 l) :
    Calls Tryz.prog 23 #[v1, v2] w fun e w' => e = .returned (.bool true) ∧ Ext w w' := by
  have H1 := Lib.hid h1; have H2 := Lib.hid h2
  obtain ⟨A1, c1, rfl, hc1, hm1⟩ := h1.form
  obtain ⟨A2, c2, rfl, hc2, hm2⟩ := h2.form
  clear h1 h2
  unfold maxLen at hm1 hm2
  go_enter Tryz.func23, Tryz.ntmps23
  go_wp2
  go_loopw [13] (fun i wr => ∃ k : Nat, k ≤ l.length ∧ i = .int .i64 k ∧ Ext w wr) (fun i _ => l.length - (intOf i).toNat)
  case atStart => exact ⟨0, Nat.zero_le _, rfl, Ext.rf _⟩
  case round =>
    obtain ⟨k, hk, rfl, hb⟩ := hrel
    have HB := Lib.hid hb
    clear hb
    by_cases hlt : k < l.length
    · obtain ⟨b, o, rfl, hbl, y0, hs⟩ := H1.out.at_ hlt
      obtain ⟨b', o', rfl, hbl', z0, hs'⟩ := H2.out.at_ hlt
      have y0 := HB.out.keep y0
      have z0 := HB.out.keep z0
      generalize l[k] = s at *
      have hmx : Tryz.prog.follows .mixedOrders = true := by kernel_rfl
      go_wp2
      refine wp_region_ext (w0 := wr) (by kernel_rfl) (by kernel_rfl) (Ext.rf _) ?_
      have y0 := fun p : ExtOf wr => ExtOf.cell y0 p
      have z0 := fun p : ExtOf wr => ExtOf.cell z0 p
      repeat (first | go_big_quiet_step (fail) | quiet_step (fail))
      refine wpQuiet_nil ?_
      rintro _ ⟨⟨w2, hx⟩, rfl⟩
      have HX := Lib.hid hx
      clear hx
      go_wp2
      go_roundw
      case rel => exact ⟨k + 1, by omega, by go_num, HB.out.tr HX.out⟩
      case measure => simp [intOf]; omega
    · go_wp2
      go_ret
      exact ⟨rfl, HB.out⟩
end Go.Proofs.YtfohcdpfgbeclaaGreat

/- Lists in strictly increasing order with the same members are equal. -/
namespace Go.Proofs.YtfohcdpfgbeclaaGreat
open Go.RowKit

theorem sorted_same : ∀ (l m : List Str), SortedS l → SortedS m → (∀ k, k ∈ l ↔ k ∈ m) → l = m
  | [], [], _, _, _ => rfl
  | [], b :: m, _, _, h => absurd ((h b).2 (by simp)) (by simp)
  | a :: l, [], _, _, h => absurd ((h a).1 (by simp)) (by simp)
  | a :: l, b :: m, hl, hm, h => by
    have hl' := List.pairwise_cons.1 hl
    have hm' := List.pairwise_cons.1 hm
    have hab : a = b := by
      rcases List.mem_cons.1 ((h a).1 (by simp)) with e | h1
      · exact e
      · rcases List.mem_cons.1 ((h b).2 (by simp)) with e | h2
        · exact e.symm
        · exact absurd (hl'.1 b h2) (List.lt_asymm (hm'.1 a h1))
    subst hab
    refine congrArg _ (sorted_same l m hl'.2 hm'.2 (fun k => ⟨fun hk => ?_, fun hk => ?_⟩))
    · rcases List.mem_cons.1 ((h k).1 (List.mem_cons_of_mem _ hk)) with e | h1
      · subst e; exact absurd (hl'.1 _ hk) (List.lt_irrefl _)
      · exact h1
    · rcases List.mem_cons.1 ((h k).2 (List.mem_cons_of_mem _ hk)) with e | h1
      · subst e; exact absurd (hm'.1 _ hk) (List.lt_irrefl _)
      · exact h1
theorem eqS_true (a b : Str) : (eqS a b = true) = (a = b) := propext eqS_iff
theorem fv_goto (k : Str) : fvT gotoT k = true ↔ k ∈ [aS, bS] := by
  have h : fvT gotoT k = (eqS k bS || eqS k aS) := by
    simp [gotoT, sumT, varT, fvT, fvA, fvC, bndAt, vnames, hasS, eqS]
  rw [h, Bool.or_eq_true, eqS_iff, eqS_iff]
  simp [or_comm]
theorem fl_goto (k : Str) : flT gotoT k = true ↔ k ∈ [kS'] := by
  have h : flT gotoT k = eqS k kS' := by
    simp [gotoT, sumT, varT, flT, flA, flC, bndAt, lnames, hasS, eqS]
  rw [h, eqS_iff]
  simp
theorem ab_sorted : SortedS [aS, bS] := by unfold SortedS; decide
theorem k_sorted : SortedS [kS'] := by unfold SortedS; decide
theorem OwnS.is {w : World} {B : Nat} {v : Value} {l m : List Str} {f : Str → Bool} (h : OwnS w B v l f) (hm : SortedS m) (hf : ∀ k, f k = true ↔ k ∈ m) : l = m :=
  sorted_same l m h.sorted hm fun k => (h.mem k).trans (hf k)
end Go.Proofs.YtfohcdpfgbeclaaGreat
