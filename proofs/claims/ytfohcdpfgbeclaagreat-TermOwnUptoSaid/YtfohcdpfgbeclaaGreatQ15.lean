/- ref.go: SameStrings, of equal lists. -/
import Derived.Test.YtfohcdpfgbeclaaGreatQ14
namespace Go.Proofs.YtfohcdpfgbeclaaGreat
open Go.RowKit

set_option maxHeartbeats 1000000 in
set_option maxRecDepth 100000 in
theorem same_any (v1 v2 : Value) (l : List Str) (w : World) (h1 : RStrs w v1 l) (h2 : RStrs w v2 l) :
    Calls Tryz.prog 23 #[v1, v2] w fun e w' => e = .returned (.bool true) ∧ Ext w w' := by
  have H1 := Lib.hid h1; have H2 := Lib.hid h2
  obtain ⟨A1, c1, rfl, hc1, hm1⟩ := h1.form
  obtain ⟨A2, c2, rfl, hc2, hm2⟩ := h2.form
  clear h1 h2
  unfold maxLen at hm1 hm2
  go_enter Tryz.func23, Tryz.ntmps23
  go_wp2
  go_loopw [13] (fun i wr => ∃ k : Nat, k ≤ l.length ∧ i = .int .i64 k ∧ Ext w wr) (fun i _ => l.length - (intOf i).toNat)
  case atStart => exact ⟨0, Nat.zero_le _, rfl, Ext.rf _⟩
  case round =>
    obtain ⟨k, hk, rfl, hb⟩ := hrel
    have HB := Lib.hid hb
    clear hb
    by_cases hlt : k < l.length
    · obtain ⟨b, o, rfl, hbl, y0, hs⟩ := H1.out.at_ hlt
      obtain ⟨b', o', rfl, hbl', z0, hs'⟩ := H2.out.at_ hlt
      have y0 := HB.out.keep y0
      have z0 := HB.out.keep z0
      generalize l[k] = s at *
      have hmx : Tryz.prog.follows .mixedOrders = true := by kernel_rfl
      go_wp2
      refine wp_region_ext (w0 := wr) (by kernel_rfl) (by kernel_rfl) (Ext.rf _) ?_
      have y0 := fun p : ExtOf wr => ExtOf.cell y0 p
      have z0 := fun p : ExtOf wr => ExtOf.cell z0 p
      repeat (first | go_big_quiet_step (fail) | quiet_step (fail))
      refine wpQuiet_nil ?_
      rintro _ ⟨⟨w2, hx⟩, rfl⟩
      have HX := Lib.hid hx
      clear hx
      go_wp2
      go_roundw
      case rel => exact ⟨k + 1, by omega, by go_num, HB.out.tr HX.out⟩
      case measure => simp [intOf]; omega
    · go_wp2
      go_ret
      exact ⟨rfl, HB.out⟩
end Go.Proofs.YtfohcdpfgbeclaaGreat

/- Lists in strictly increasing order with the same members are equal. -/
namespace Go.Proofs.YtfohcdpfgbeclaaGreat
open Go.RowKit

theorem sorted_same : ∀ (l m : List Str), SortedS l → SortedS m → (∀ k, k ∈ l ↔ k ∈ m) → l = m
  | [], [], _, _, _ => rfl
  | [], b :: m, _, _, h => absurd ((h b).2 (by simp)) (by simp)
  | a :: l, [], _, _, h => absurd ((h a).1 (by simp)) (by simp)
  | a :: l, b :: m, hl, hm, h => by
    have hl' := List.pairwise_cons.1 hl
    have hm' := List.pairwise_cons.1 hm
    have hab : a = b := by
      rcases List.mem_cons.1 ((h a).1 (by simp)) with e | h1
      · exact e
      · rcases List.mem_cons.1 ((h b).2 (by simp)) with e | h2
        · exact e.symm
        · exact absurd (hl'.1 b h2) (List.lt_asymm (hm'.1 a h1))
    subst hab
    refine congrArg _ (sorted_same l m hl'.2 hm'.2 (fun k => ⟨fun hk => ?_, fun hk => ?_⟩))
    · rcases List.mem_cons.1 ((h k).1 (List.mem_cons_of_mem _ hk)) with e | h1
      · subst e; exact absurd (hl'.1 _ hk) (List.lt_irrefl _)
      · exact h1
    · rcases List.mem_cons.1 ((h k).2 (List.mem_cons_of_mem _ hk)) with e | h1
      · subst e; exact absurd (hm'.1 _ hk) (List.lt_irrefl _)
      · exact h1
theorem eqS_true (a b : Str) : (eqS a b = true) = (a = b) := propext eqS_iff
theorem fv_goto (k : Str) : fvT gotoT k = true ↔ k ∈ [aS, bS] := by
  have h : fvT gotoT k = (eqS k bS || eqS k aS) := by
    simp [gotoT, sumT, varT, fvT, fvA, fvC, bndAt, vnames, hasS, eqS]
  rw [h, Bool.or_eq_true, eqS_iff, eqS_iff]
  simp [or_comm]
theorem fl_goto (k : Str) : flT gotoT k = true ↔ k ∈ [kS'] := by
  have h : flT gotoT k = eqS k kS' := by
    simp [gotoT, sumT, varT, flT, flA, flC, bndAt, lnames, hasS, eqS]
  rw [h, eqS_iff]
  simp
theorem ab_sorted : SortedS [aS, bS] := by unfold SortedS; decide
theorem k_sorted : SortedS [kS'] := by unfold SortedS; decide
theorem OwnS.is {w : World} {B : Nat} {v : Value} {l m : List Str} {f : Str → Bool} (h : OwnS w B v l f) (hm : SortedS m) (hf : ∀ k, f k = true ↔ k ∈ m) : l = m :=
  sorted_same l m h.sorted hm fun k => (h.mem k).trans (hf k)
end Go.Proofs.YtfohcdpfgbeclaaGreat

/- law.go: awake. -/
namespace Go.Proofs.YtfohcdpfgbeclaaGreat
open Go.RowKit

/-- The example program in memory: the list of functions, the parameters, the body. -/
structure FB (w : World) (gf gp : Nat) (t : Tm) (xa xc : Value) (k : Nat) : Prop where
  funs : w.heap[gf]? = some (.cells #[.string mainS, .slice (some ⟨gp, 0, none⟩) 1 1, .int .i64 0, .int .i64 t.op, .int .i64 t.n, .string t.nm, .int .i64 t.ty, xa, xc] 62 (0, 0))
  prms : w.heap[gp]? = some (.cells #[.string nS, .int .i64 0] 64 (0, 0))
  body : RT w k t xa xc
theorem FB.ext {w w' : World} {gf gp : Nat} {t : Tm} {xa xc : Value} {k : Nat} (h : FB w gf gp t xa xc k) (hb : Ext w w') : FB w' gf gp t xa xc k :=
  ⟨(hb.block _ (heap_lt h.funs)).trans h.funs, (hb.block _ (heap_lt h.prms)).trans h.prms, h.body.below hb⟩
theorem main_le : mainS.size ≤ maxLen := by decide
theorem n_le : nS.size ≤ maxLen := by decide
theorem FB.fns {w : World} {gf gp : Nat} {t : Tm} {xa xc : Value} {k : Nat} (h : FB w gf gp t xa xc k) : RFns w (.slice (some ⟨gf, 0, none⟩) 1 1) (exP t).funs :=
  ⟨some ⟨gf, 0, none⟩, 1, rfl, Nat.le_refl _, by decide, fun i f hi => by
    match i, hi with
    | 0, hi =>
      obtain rfl := Option.some.inj hi
      exact ⟨gf, 0, _, xa, xc, k, rfl, heap_lt h.funs, cellAt h.funs 0, cellAt h.funs 1, cellAt h.funs 2, ⟨cellAt h.funs 3, cellAt h.funs 4, cellAt h.funs 5, cellAt h.funs 6, cellAt h.funs 7, cellAt h.funs 8⟩, main_le,
        ⟨some ⟨gp, 0, none⟩, 1, rfl, Nat.le_refl _, by decide, fun i a hi => by
          match i, hi with
          | 0, hi => obtain rfl := Option.some.inj hi; exact ⟨gp, 0, rfl, heap_lt h.prms, cellAt h.prms 0, cellAt h.prms 1, n_le⟩⟩, h.body⟩⟩
theorem RDecls.nil (w : World) : RDecls w (.slice none 0 0) [] := ⟨Option.none, 0, rfl, Nat.le_refl _, Nat.zero_le _, fun i a h => by cases h⟩
theorem at_new {X W : World} {o : Obj} (h : Ext (X.alloc o) W) : W.heap[X.heap.size]? = some o := (h.block _ (by simp)).trans (heapNew X o)

/-- What each operation of the example's statement has made. -/
def Fact (lo : Nat) (W : World) : Nat → Value → Prop
  | 0, v => v = .agg #[.string ⟨#[110]⟩, .int .i64 0]
  | 1, v => ∃ g, v = .slice (some ⟨g, 0, none⟩) 1 1 ∧ W.heap[g]? = some (.cells #[.string nS, .int .i64 0] 64 (0, 0))
  | 2, v => v = tV (varT nS) (.slice none 0 0) (.slice none 0 0)
  | 3, v => v = tV oneT (.slice none 0 0) (.slice none 0 0)
  | 4, v => ∃ g, v = tV (sumT (varT nS) oneT) (.slice (some ⟨g, 0, none⟩) 2 2) (.slice none 0 0) ∧ RT W 2 (sumT (varT nS) oneT) (.slice (some ⟨g, 0, none⟩) 2 2) (.slice none 0 0)
  | 5, v => v = tV (varT xS) (.slice none 0 0) (.slice none 0 0)
  | 6, v => ∃ g, v = .slice (some ⟨g, 0, none⟩) 1 1 ∧ RT W 2 (callT (varT xS)) (.slice (some ⟨g, 0, none⟩) 1 1) (.slice none 0 0)
  | 7, v => ∃ g, v = tV (callT (varT xS)) (.slice (some ⟨g, 0, none⟩) 1 1) (.slice none 0 0) ∧ RT W 2 (callT (varT xS)) (.slice (some ⟨g, 0, none⟩) 1 1) (.slice none 0 0)
  | 8, v => ∃ g, v = .slice (some ⟨g, 0, none⟩) 2 2 ∧ RT W 3 bodyT (.slice (some ⟨g, 0, none⟩) 2 2) (.slice none 0 0)
  | 9, v => ∃ g, v = tV bodyT (.slice (some ⟨g, 0, none⟩) 2 2) (.slice none 0 0) ∧ RT W 3 bodyT (.slice (some ⟨g, 0, none⟩) 2 2) (.slice none 0 0)
  | 10, v => ∃ gp g, v = fV (funF bodyT) (.slice (some ⟨gp, 0, none⟩) 1 1) (.slice (some ⟨g, 0, none⟩) 2 2) (.slice none 0 0) ∧ W.heap[gp]? = some (.cells #[.string nS, .int .i64 0] 64 (0, 0)) ∧ RT W 3 bodyT (.slice (some ⟨g, 0, none⟩) 2 2) (.slice none 0 0)
  | 11, v => ∃ gf gp g, v = .slice (some ⟨gf, 0, none⟩) 1 1 ∧ lo ≤ gf ∧ FB W gf gp bodyT (.slice (some ⟨g, 0, none⟩) 2 2) (.slice none 0 0) 3
  | 12, v => ∃ gf gp g, v = .agg #[.slice none 0 0, .slice (some ⟨gf, 0, none⟩) 1 1] ∧ lo ≤ gf ∧ FB W gf gp bodyT (.slice (some ⟨g, 0, none⟩) 2 2) (.slice none 0 0) 3
  | 13, v => ∃ g, v = .pointer (some ⟨g, 0, none⟩) ∧ lo ≤ g ∧ W.heap[g]? = some (.cells #[.slice none 0 0, .slice none 0 0] 25 (0, 0))
  | _, _ => True
theorem Fact.ext {lo : Nat} {W W' : World} (hb : Ext W W') : ∀ {i : Nat} {v : Value}, Fact lo W i v → Fact lo W' i v
  | 0, _, h => h
  | 1, _, ⟨g, h1, h2⟩ => ⟨g, h1, (hb.block _ (heap_lt h2)).trans h2⟩
  | 2, _, h => h
  | 3, _, h => h
  | 4, _, ⟨g, h1, h2⟩ => ⟨g, h1, h2.below hb⟩
  | 5, _, h => h
  | 6, _, ⟨g, h1, h2⟩ => ⟨g, h1, h2.below hb⟩
  | 7, _, ⟨g, h1, h2⟩ => ⟨g, h1, h2.below hb⟩
  | 8, _, ⟨g, h1, h2⟩ => ⟨g, h1, h2.below hb⟩
  | 9, _, ⟨g, h1, h2⟩ => ⟨g, h1, h2.below hb⟩
  | 10, _, ⟨gp, g, h1, h2, h3⟩ => ⟨gp, g, h1, (hb.block _ (heap_lt h2)).trans h2, h3.below hb⟩
  | 11, _, ⟨gf, gp, g, h1, h2, h3⟩ => ⟨gf, gp, g, h1, h2, h3.ext hb⟩
  | 12, _, ⟨gf, gp, g, h1, h2, h3⟩ => ⟨gf, gp, g, h1, h2, h3.ext hb⟩
  | 13, _, ⟨g, h1, h2, h3⟩ => ⟨g, h1, h2, (hb.block _ (heap_lt h3)).trans h3⟩
  | _ + 14, _, _ => trivial
theorem facts_put {lo : Nat} {W W' : World} {L : Nat → Bool} {vv : Nat → Value} {i : Nat} {v : Value} (h : ∀ j, L j = true → Fact lo W j (vv j)) (hb : Ext W W') (hv : Fact lo W' i v) :
    ∀ j, (decide (j = i) || L j) = true → Fact lo W' j (if j = i then v else vv j) := fun j hj => by
  by_cases e : j = i
  · subst e; rw [if_pos rfl]; exact hv
  · rw [if_neg e]
    rw [decide_eq_false e, Bool.false_or] at hj
    exact Fact.ext hb (h j hj)
/-- A term's cells lie in no box of slices. -/
theorem RStrs.turn {w w' : World} {g : Nat} {A1 A2 : Option Addr} {n1 c1 n2 c2 : Nat} (hg : w.heap[g]? = some (.cells #[.slice A1 n1 c1, .slice A2 n2 c2] 25 (0, 0))) (ho : Only (fun j => j = g) w w') {v : Value} {l : List Str} (h : RStrs w v l) : RStrs w' v l := by
  obtain ⟨A, c, e, h1, h2, h3⟩ := h
  refine ⟨A, c, e, h1, h2, fun i a hi => ?_⟩
  obtain ⟨b, o, ha, hb, hc, hs⟩ := h3 i a hi
  refine ⟨b, o, ha, Nat.lt_of_lt_of_le hb ho.size, ?_, hs⟩
  rw [World.cell?_of_block (ho.block _ hb (fun e => ?_))]; exact hc
  subst e
  simp [World.cell?, hg] at hc
  match o + i, hc with
  | 0, hc => cases hc
  | 1, hc => cases hc
  | n + 2, hc => simp at hc

theorem int_turn {w : World} {g b o : Nat} {x : Int} {A1 A2 : Option Addr} {n1 c1 n2 c2 : Nat} (hg : w.heap[g]? = some (.cells #[.slice A1 n1 c1, .slice A2 n2 c2] 25 (0, 0))) (hc : w.cell? ⟨b, o, none⟩ = some (.int .i64 x)) : b ≠ g := by
  rintro rfl
  simp [World.cell?, hg] at hc
  match o, hc with
  | 0, hc => cases hc
  | 1, hc => cases hc
  | n + 2, hc => simp at hc
theorem C6.turn {w w' : World} {g b o : Nat} {t : Tm} {va vc : Value} {A1 A2 : Option Addr} {n1 c1 n2 c2 : Nat} (hg : w.heap[g]? = some (.cells #[.slice A1 n1 c1, .slice A2 n2 c2] 25 (0, 0))) (ho : Only (fun j => j = g) w w') (hb : b < w.heap.size) (h : C6 w b o t va vc) : C6 w' b o t va vc := by
  have hne := int_turn hg h.c0
  have hk : ∀ i v, w.cell? ⟨b, i, none⟩ = some v → w'.cell? ⟨b, i, none⟩ = some v := fun i v hv => by
    rw [World.cell?_of_block (ho.block _ hb hne)]; exact hv
  exact ⟨hk _ _ h.c0, hk _ _ h.c1, hk _ _ h.c2, hk _ _ h.c3, hk _ _ h.c4, hk _ _ h.c5⟩
theorem RT.turn {w w' : World} {g : Nat} {A1 A2 : Option Addr} {n1 c1 n2 c2 : Nat} (hg : w.heap[g]? = some (.cells #[.slice A1 n1 c1, .slice A2 n2 c2] 25 (0, 0))) (ho : Only (fun j => j = g) w w') : ∀ {k : Nat} {t : Tm} {va vc : Value}, RT w k t va vc → RT w' k t va vc
  | 0, _, _, _, h => h
  | k + 1, t, va, vc, ⟨h1, ⟨A, c, e, h2, h3, h4⟩, ⟨B, d, e', h5, h6, h7⟩⟩ => by
    refine ⟨h1, ⟨A, c, e, h2, h3, fun i x hi => ?_⟩, ⟨B, d, e', h5, h6, fun i x hi => ?_⟩⟩
    · obtain ⟨b, o, xa, xc, ha, hb, h8, h9⟩ := h4 i x hi
      exact ⟨b, o, xa, xc, ha, Nat.lt_of_lt_of_le hb ho.size, h8.turn hg ho hb, RT.turn hg ho h9⟩
    · obtain ⟨b, o, vn, xa, xc, ha, hb, hn, hs, h8, h9⟩ := h7 i x hi
      refine ⟨b, o, vn, xa, xc, ha, Nat.lt_of_lt_of_le hb ho.size, ?_, RStrs.turn hg ho hs, h8.turn hg ho hb, RT.turn hg ho h9⟩
      rw [World.cell?_of_block (ho.block _ hb (int_turn hg h8.c0))]; exact hn
theorem FB.turn {w w' : World} {g gf gp k : Nat} {t : Tm} {xa xc : Value} {A1 A2 : Option Addr} {n1 c1 n2 c2 : Nat} (hg : w.heap[g]? = some (.cells #[.slice A1 n1 c1, .slice A2 n2 c2] 25 (0, 0))) (ho : Only (fun j => j = g) w w') (h : FB w gf gp t xa xc k) : FB w' gf gp t xa xc k :=
  ⟨(ho.block _ (heap_lt h.funs) (fun e => by have := h.funs; rw [e, hg] at this; simp at this)).trans h.funs, (ho.block _ (heap_lt h.prms) (fun e => by have := h.prms; rw [e, hg] at this; simp at this)).trans h.prms, h.body.turn hg ho⟩
theorem box2_set {w : World} {r T : Nat} {a b : Value} (h : w.heap[r]? = some (.cells #[a, b] T (0, 0))) (a' b' : Value) :
    ((w.setCell ⟨r, 0, none⟩ a').setCell ⟨r, 1, none⟩ b').heap[r]? = some (.cells #[a', b'] T (0, 0)) := by
  simp [World.setCell, Array.getElem?_modify, h]

def Frame2 (b : Nat) (vv : Nat → Value) : Array Value := #[.bool false, .pointer (some ⟨b, 0, none⟩), vv 13, undef, undef, undef, undef, undef, undef, undef, undef, .agg #[.string ⟨#[110]⟩, .int .i64 0], vv 0, vv 1, vv 2, vv 3, vv 4, vv 5, vv 6, vv 7, vv 8, vv 9, vv 10, vv 11, vv 12, undef, undef, undef, undef, undef, undef, undef, undef, undef, undef, undef, undef, undef, undef, undef, undef, undef, undef, undef, undef, undef, undef, undef, undef, undef, undef, undef, undef, undef, undef, undef, undef, undef, undef, undef, undef, undef, undef, undef, undef, undef, undef, undef, undef, undef, undef, undef, undef, undef, undef, undef, undef, undef, undef, undef, undef, undef, undef, undef, undef, undef, undef, undef, undef, undef, undef, undef, undef, undef, undef, undef, undef, undef, undef, undef, undef, undef, undef, undef, undef, undef, undef, undef, undef, undef, undef, undef, undef, undef, undef, undef, undef]
def Inv2 (w w1 : World) (L : Nat → Bool) (a : Act) (W : World) : Prop :=
  ∃ vv : Nat → Value, a = { tmps := #[.bool false, .pointer (some ⟨w.heap.size, 0, none⟩), vv 13, undef, undef, undef, undef, undef, undef, undef, undef, .agg #[.string ⟨#[110]⟩, .int .i64 0], vv 0, vv 1, vv 2, vv 3, vv 4, vv 5, vv 6, vv 7, vv 8, vv 9, vv 10, vv 11, vv 12, undef, undef, undef, undef, undef, undef, undef, undef, undef, undef, undef, undef, undef, undef, undef, undef, undef, undef, undef, undef, undef, undef, undef, undef, undef, undef, undef, undef, undef, undef, undef, undef, undef, undef, undef, undef, undef, undef, undef, undef, undef, undef, undef, undef, undef, undef, undef, undef, undef, undef, undef, undef, undef, undef, undef, undef, undef, undef, undef, undef, undef, undef, undef, undef, undef, undef, undef, undef, undef, undef, undef, undef, undef, undef, undef, undef, undef, undef, undef, undef, undef, undef, undef, undef, undef, undef, undef, undef, undef, undef, undef, undef], defers := [] } ∧ ((L 14 = false ∧ Ext w1 W ∧ ∀ j, L j = true → Fact w.heap.size W j (vv j)) ∨
    ((∀ j, j < 15 → L j = true) ∧ ∃ g gf gp gb, vv 13 = .pointer (some ⟨g, 0, none⟩) ∧ w.heap.size ≤ g ∧ w.heap.size ≤ gf ∧ g ≠ gf ∧ W.heap[g]? = some (.cells #[.slice none 0 0, .slice (some ⟨gf, 0, none⟩) 1 1] 25 (0, 0)) ∧ FB W gf gp bodyT (.slice (some ⟨gb, 0, none⟩) 2 2) (.slice none 0 0) 3 ∧ Ext w W))


theorem ex_chk : chkP (exP bodyT) = 0 := by kernel_rfl
theorem ex_chk2 : chkP (exP (varT yS)) = 20 := by kernel_rfl
theorem ex_fineT : FineT bodyT := ⟨by
  have h : nodesL 1 bodyT = [(1, bodyT), (2, sumT (varT nS) oneT), (3, varT nS), (3, oneT), (2, callT (varT xS)), (3, varT xS)] := by rfl
  rw [h]
  intro y hy
  simp only [List.mem_cons, List.not_mem_nil, or_false] at hy
  rcases hy with rfl | rfl | rfl | rfl | rfl | rfl <;> decide, by decide⟩
theorem ex_fine : FinePg (exP bodyT) := fun f hf => by
  obtain rfl : f = funF bodyT := by simpa [exP] using hf
  exact ex_fineT.toF _
theorem RStrs.uno {w : World} {b : Nat} {s : Str} (h : w.heap[b]? = some (.cells #[.string s] 9 (0, 0))) (hs : s.size ≤ maxLen) : RStrs w (.slice (some ⟨b, 0, none⟩) 1 1) [s] :=
  ⟨_, 1, rfl, Nat.le_refl _, by decide, fun i a hi => by
    match i, hi with
    | 0, hi => obtain rfl := Option.some.inj hi; exact ⟨_, 0, rfl, heap_lt h, cellAt h 0, hs⟩⟩
theorem ex_fineV (s : Str) : FineT (varT s) := ⟨by
  have h : nodesL 1 (varT s) = [(1, varT s)] := by rfl
  rw [h]
  intro y hy
  simp only [List.mem_cons, List.not_mem_nil, or_false] at hy
  subst hy
  exact ⟨by show (0 : Int) ≤ 1; decide, by show (1 : Int) ≤ 1000000000000; decide⟩, by show (0 : Nat) ≤ _; decide⟩
theorem y_le : yS.size ≤ maxLen := by decide
theorem ex_w1 (s : Str) : ([yS] : List Str).length + ([] : List Str).length + wT (varT s) ≤ maxLen := by show 1 ≤ maxLen; decide
theorem ex_w0 (s : Str) : ([] : List Str).length + ([] : List Str).length + wT (varT s) ≤ maxLen := by show 0 ≤ maxLen; decide
theorem ex_leaf (w : World) (s : Str) (h : s.size ≤ maxLen) : RT w 1 (varT s) (.slice none 0 0) (.slice none 0 0) := RT.leaf _ _ _ _ _ _ h (by unfold ok64; decide) (by unfold ok64; decide)
theorem RStrs.duo {w : World} {b : Nat} {s t : Str} (h : w.heap[b]? = some (.cells #[.string s, .string t] 9 (0, 0))) (hs : s.size ≤ maxLen) (ht : t.size ≤ maxLen) : RStrs w (.slice (some ⟨b, 0, none⟩) 2 2) [s, t] :=
  ⟨_, 2, rfl, Nat.le_refl _, by decide, fun i a hi => by
    match i, hi with
    | 0, hi => obtain rfl := Option.some.inj hi; exact ⟨_, 0, rfl, heap_lt h, cellAt h 0, hs⟩
    | 1, hi => obtain rfl := Option.some.inj hi; exact ⟨_, 0, rfl, heap_lt h, cellAt h 1, ht⟩⟩
theorem OwnS.set {w : World} {B : Nat} {v : Value} {l : List Str} {f : Str → Bool} (h : OwnS w B v l f) {p : Addr} (hp : p.block < B) (u : Value) : OwnS (w.setCell p u) B v l f := ⟨h.mem, h.sorted, h.sizes, ownsRow_setCell_below h.own hp u⟩
theorem box9_set {w : World} {r T : Nat} {a b c d e f g h i : Value} (hh : w.heap[r]? = some (.cells #[a, b, c, d, e, f, g, h, i] T (0, 0))) (d' e' f' g' h' i' : Value) :
    ((((((w.setCell ⟨r, 3, none⟩ d').setCell ⟨r, 4, none⟩ e').setCell ⟨r, 5, none⟩ f').setCell ⟨r, 6, none⟩ g').setCell ⟨r, 7, none⟩ h').setCell ⟨r, 8, none⟩ i').heap[r]? = some (.cells #[a, b, c, d', e', f', g', h', i'] T (0, 0)) := by
  simp [World.setCell, Array.getElem?_modify, hh]
theorem set6_other {w : World} {r j : Nat} (h : j ≠ r) (d' e' f' g' h' i' : Value) :
    ((((((w.setCell ⟨r, 3, none⟩ d').setCell ⟨r, 4, none⟩ e').setCell ⟨r, 5, none⟩ f').setCell ⟨r, 6, none⟩ g').setCell ⟨r, 7, none⟩ h').setCell ⟨r, 8, none⟩ i').heap[j]? = w.heap[j]? :=
  (set_other _ h).trans ((set_other _ h).trans ((set_other _ h).trans ((set_other _ h).trans ((set_other _ h).trans (set_other _ h)))))
theorem ex_fineP : FinePg (exP (varT yS)) := fun f hf => by
  obtain rfl : f = funF (varT yS) := by simpa [exP] using hf
  exact (ex_fineV _).toF _
theorem ex_uT : uT gotoT ≤ 1000000000 := by decide
theorem a_le : aS.size ≤ maxLen := by decide
theorem b_le : bS.size ≤ maxLen := by decide
theorem k_le : kS'.size ≤ maxLen := by decide
theorem ex_calls {r : List Int} (h : ∀ k, k ∈ r ↔ callsT (funF bodyT).body k = true) (hs : SortedI r) : r.length = 1 := by
  have h0 : ∀ k, k ∈ r ↔ k = 0 := fun k => by
    rw [h k]
    have : callsT (funF bodyT).body k = decide ((0 : Int) = k) := by
      have h : nodesL 1 bodyT = [(1, bodyT), (2, sumT (varT nS) oneT), (3, varT nS), (3, oneT), (2, callT (varT xS)), (3, varT xS)] := by rfl
      show (nodesL 1 bodyT).any _ = _
      rw [h]
      simp [bodyT, sumT, varT, oneT, callT, Tm.op, Tm.n]
      try exact decide_eq_decide.2 Iff.rfl
    rw [this, decide_eq_true_eq]; exact eq_comm
  match r, h0, hs with
  | [], h0, _ => exact absurd ((h0 0).2 rfl) (by simp)
  | [a], _, _ => rfl
  | a :: b :: t, h0, hs =>
    have ha := (h0 a).1 (by simp)
    have hb := (h0 b).1 (by simp)
    have := List.pairwise_cons.1 hs
    have := this.1 b (by simp)
    omega
set_option maxHeartbeats 4000000 in
set_option maxRecDepth 100000 in
theorem awake_any (w : World) : Calls Tryz.prog 9 #[] w fun e w' => e = .returned (.bool true) ∧ Ext w w' := by
  go_enter Tryz.func9, Tryz.ntmps9
  go_upto_region 2 with fail
  have HE1 := Lib.hid (Ext.al w (.cells #[.string ⟨#[110]⟩, .int .i64 0] 64))
  have hn1 := heapNew w (.cells #[.string ⟨#[110]⟩, .int .i64 0] 64)
  have HN1 := Lib.hid hn1
  clear hn1
  have HE0 : Hid (w.heap.size ≤ (w.alloc (.cells #[.string ⟨#[110]⟩, .int .i64 0] 64)).heap.size) := HE1.out.size
  have hmx : Tryz.prog.follows .mixedOrders = true := by kernel_rfl
  generalize w.alloc _ = w1 at *
  go_cut [2] from 11 to 116 (fun v2 W => ∃ g gf gp gb, v2 = .pointer (some ⟨g, 0, none⟩) ∧ w.heap.size ≤ g ∧ w.heap.size ≤ gf ∧ g ≠ gf ∧ W.heap[g]? = some (.cells #[.slice none 0 0, .slice (some ⟨gf, 0, none⟩) 1 1] 25 (0, 0)) ∧ FB W gf gp bodyT (.slice (some ⟨gb, 0, none⟩) 2 2) (.slice none 0 0) 3 ∧ Ext w W)
  case first =>
    refine wp_region_inv hmx (by kernel_rfl) (Inv2 w w1) ?_ ?_ ?_
    · exact ⟨fun _ => undef, rfl, .inl ⟨rfl, (Ext.rf _).drew, fun j h => by cases h⟩⟩
    · intro L a W i o ho hpre hl hI K HK
      have hi : i < 15 := (Array.getElem?_eq_some_iff.1 ho).1
      obtain ⟨vv, rfl, ⟨h14, hE, hF⟩ | ⟨hall, _⟩⟩ := hI
      rotate_left
      · rw [hall i hi] at hl; cases hl
      have HE := Lib.hid hE
      have HF := Lib.hid hF
      clear hE hF
      have HPUT : Hid (∀ (v : Value) (W' : World) (a' : Act), i ≠ 14 → Ext W W' → Fact w.heap.size W' i v → a' = { tmps := (fun vv : Nat → Value => #[.bool false, .pointer (some ⟨w.heap.size, 0, none⟩), vv 13, undef, undef, undef, undef, undef, undef, undef, undef, .agg #[.string ⟨#[110]⟩, .int .i64 0], vv 0, vv 1, vv 2, vv 3, vv 4, vv 5, vv 6, vv 7, vv 8, vv 9, vv 10, vv 11, vv 12, undef, undef, undef, undef, undef, undef, undef, undef, undef, undef, undef, undef, undef, undef, undef, undef, undef, undef, undef, undef, undef, undef, undef, undef, undef, undef, undef, undef, undef, undef, undef, undef, undef, undef, undef, undef, undef, undef, undef, undef, undef, undef, undef, undef, undef, undef, undef, undef, undef, undef, undef, undef, undef, undef, undef, undef, undef, undef, undef, undef, undef, undef, undef, undef, undef, undef, undef, undef, undef, undef, undef, undef, undef, undef, undef, undef, undef, undef, undef, undef, undef, undef, undef, undef, undef, undef, undef, undef, undef, undef, undef, undef]) (fun j => if j = i then v else vv j), defers := [] } → K a' W') := fun v W' a' hne hb hv ha => HK.out _ _ ⟨_, ha, .inl ⟨by show (decide (14 = i) || L 14) = false; rw [decide_eq_false (by omega), h14]; rfl, HE.out.tr hb, facts_put HF.out hb hv⟩⟩
      have hcs : i = 0 ∨ i = 1 ∨ i = 2 ∨ i = 3 ∨ i = 4 ∨ i = 5 ∨ i = 6 ∨ i = 7 ∨ i = 8 ∨ i = 9 ∨ i = 10 ∨ i = 11 ∨ i = 12 ∨ i = 13 ∨ i = 14 := by omega
      rcases hcs with rfl | rfl | rfl | rfl | rfl | rfl | rfl | rfl | rfl | rfl | rfl | rfl | rfl | rfl | rfl
      all_goals
        obtain rfl := Option.some.inj ho
        clear ho hi
      -- 0
      · have c0 := HE.out.keep (cellAt HN1.out 0)
        have c1 := HE.out.keep (cellAt HN1.out 1)
        go_simp
        exact HPUT.out _ _ _ (by decide) (Ext.rf _) rfl rfl
      · have e0 : vv 0 = _ := HF.out 0 (by simpa [Region.binds] using hpre)
        go_simp
        exact HPUT.out _ _ _ (by decide) (Ext.al _ _) ⟨_, rfl, heapNew _ _⟩ (by simp [e0])
      · clear hpre
        go_simp
        (refine (variable_any ⟨#[110]⟩ _).mono ?_)
        rintro e W' ⟨rfl, hb⟩
        exact HPUT.out _ _ _ (by decide) hb rfl rfl
      · clear hpre
        go_simp
        exact HPUT.out _ _ _ (by decide) (Ext.rf _) rfl rfl
      · simp [Region.binds] at hpre
        have e2 : vv 2 = _ := HF.out 2 (by simp [hpre])
        have e3 : vv 3 = _ := HF.out 3 (by simp [hpre])
        go_simp
        (refine (sum_any (varT nS) oneT none none none none 0 0 0 0 0 0 0 0 1 _ (RT.leaf _ _ _ _ _ _ (by decide) (by unfold ok64; decide) (by unfold ok64; decide)) (RT.leaf _ _ _ _ _ _ (by decide) (by unfold ok64; decide) (by unfold ok64; decide))).mono ?_)
        rintro e W' ⟨g, rfl, hr, hb⟩
        exact HPUT.out _ _ _ (by decide) hb ⟨g, rfl, hr⟩ (by simp [e2, e3])
      · clear hpre
        go_simp
        (refine (variable_any ⟨#[120]⟩ _).mono ?_)
        rintro e W' ⟨rfl, hb⟩
        exact HPUT.out _ _ _ (by decide) hb rfl rfl
      · simp [Region.binds] at hpre
        have e5 : vv 5 = _ := HF.out 5 (by simp [hpre])
        go_simp
        exact HPUT.out _ _ _ (by decide) (Ext.al _ _) ⟨_, rfl, RT.one (by decide) (by unfold ok64; decide) (by unfold ok64; decide) (heapNew _ _) (RT.leaf _ _ _ _ _ _ (by decide) (by unfold ok64; decide) (by unfold ok64; decide))⟩ (by simp [e5])
      · simp [Region.binds] at hpre
        obtain ⟨g, e6, hr⟩ := HF.out 6 (by simp [hpre])
        go_simp
        exact HPUT.out _ _ _ (by decide) (Ext.rf _) ⟨g, rfl, hr⟩ (by simp [e6]; repeat (first | rfl | apply And.intro))
      · simp [Region.binds] at hpre
        obtain ⟨g, e4, hr⟩ := HF.out 4 (by simp [hpre])
        obtain ⟨g', e7, hr'⟩ := HF.out 7 (by simp [hpre])
        go_simp
        exact HPUT.out _ _ _ (by decide) (Ext.al _ _) ⟨_, rfl, RT.two (by decide) (by unfold ok64; decide) (by unfold ok64; decide) (heapNew _ _) (hr.below (Ext.al _ _)) (hr'.below (Ext.al _ _))⟩ (by simp [e4, e7])
      · simp [Region.binds] at hpre
        obtain ⟨g, e8, hr⟩ := HF.out 8 (by simp [hpre])
        go_simp
        exact HPUT.out _ _ _ (by decide) (Ext.rf _) ⟨g, rfl, hr⟩ (by simp [e8]; repeat (first | rfl | apply And.intro))
      · simp [Region.binds] at hpre
        obtain ⟨gp, e1, hp⟩ := HF.out 1 (by simp [hpre])
        obtain ⟨g, e9, hr⟩ := HF.out 9 (by simp [hpre])
        go_simp
        exact HPUT.out _ _ _ (by decide) (Ext.rf _) ⟨gp, g, rfl, hp, hr⟩ (by simp [e1, e9]; repeat (first | rfl | apply And.intro))
      · simp [Region.binds] at hpre
        obtain ⟨gp, g, e10, hp, hr⟩ := HF.out 10 (by simp [hpre])
        go_simp
        exact HPUT.out _ _ _ (by decide) (Ext.al _ _) ⟨_, gp, g, rfl, Nat.le_trans HE0.out HE.out.size, ⟨heapNew _ _, ((Ext.al _ _).block _ (heap_lt hp)).trans hp, hr.below (Ext.al _ _)⟩⟩ (by simp [e10])
      · simp [Region.binds] at hpre
        obtain ⟨gf, gp, g, e11, hr⟩ := HF.out 11 (by simp [hpre])
        go_simp
        exact HPUT.out _ _ _ (by decide) (Ext.rf _) ⟨gf, gp, g, rfl, hr⟩ (by simp [e11])
      · clear hpre
        go_simp
        exact HPUT.out _ _ _ (by decide) (Ext.al _ _) ⟨_, rfl, Nat.le_trans HE0.out HE.out.size, heapNew _ _⟩ rfl
      · have hall : ∀ j, j < 14 → L j = true := by
          simp [Region.binds] at hpre
          intro j hj
          rcases (show j = 0 ∨ j = 1 ∨ j = 2 ∨ j = 3 ∨ j = 4 ∨ j = 5 ∨ j = 6 ∨ j = 7 ∨ j = 8 ∨ j = 9 ∨ j = 10 ∨ j = 11 ∨ j = 12 ∨ j = 13 by omega) with rfl | rfl | rfl | rfl | rfl | rfl | rfl | rfl | rfl | rfl | rfl | rfl | rfl | rfl
          all_goals simp [hpre]
        obtain ⟨gf, gp, gb, e12, hlo, hr⟩ := HF.out 12 (hall 12 (by decide))
        obtain ⟨g, e13, hlo2, hg⟩ := HF.out 13 (hall 13 (by decide))
        have k0 := cellAt hg 0
        have k1 := cellAt hg 1
        have f0 := frozenAt hg 0
        have f1 := frozenAt hg 1
        go_simp
        have HON : Hid (Only (fun j => j = g) W ((W.setCell ⟨g, 0, none⟩ (.slice none 0 0)).setCell ⟨g, 1, none⟩ (.slice (some ⟨gf, 0, none⟩) 1 1))) := (Only.setCell (C := fun j => j = g) (p := ⟨g, 0, none⟩) rfl _ _).tr (Only.setCell (C := fun j => j = g) (p := ⟨g, 1, none⟩) rfl _ _)
        exact HK.out _ _ ⟨vv, by simp [e12, e13], .inr ⟨fun j hj => (by
          show (decide (j = 14) || L j) = true
          by_cases he : j = 14
          · rw [decide_eq_true he]; rfl
          · rw [hall j (by omega), Bool.or_true]), g, gf, gp, gb, e13, hlo2, hlo, (fun e => by have := hr.funs; rw [← e, hg] at this; simp at this), box2_set hg _ _, hr.turn hg HON.out, Below.setNew (Below.setNew (HE1.out.tr HE.out) hlo2 _) hlo2 _⟩⟩
    · intro L a W hall hI
      obtain ⟨vv, rfl, ⟨h14, _⟩ | ⟨_, g, gf, gp, gb, h1, h2⟩⟩ := hI
      · have := hall 14 (by decide)
        rw [h14] at this; cases this
      · rw [h1]
        go_wp2
        go_meet
        exact ⟨g, gf, gp, gb, rfl, h2⟩
  case rest =>
    obtain ⟨g, gf, gp, gb, rfl, hlg, hlf, hne, hbx, hfb, hex⟩ := hcut
    have HBX := Lib.hid hbx; have HFB := Lib.hid hfb; have HEX := Lib.hid hex
    have HNE : Hid (g ≠ gf) := hne
    have c0 := cellAt hbx 0
    have c1 := cellAt hbx 1
    clear hbx hfb hex hne
    go_wp2_with fail
    (with_reducible refine (Nodes_any (exP bodyT) _ _ _ (RDecls.nil _) HFB.out.fns ex_fine).mono ?_)
    rw [t10]
    rintro e w3 ⟨rfl, hb⟩
    have HB3 := Lib.hid ((hb.block _ (heap_lt HBX.out)).trans HBX.out)
    have HF3 := Lib.hid (HFB.out.ext hb)
    have HE3 := Lib.hid (HEX.out.tr hb)
    clear hb c0 c1
    have c0 := cellAt HB3.out 0
    have c1 := cellAt HB3.out 1
    go_wp2_with fail
    (with_reducible refine (Calls_any (exP bodyT) _ _ _ (RDecls.nil _) HF3.out.fns ex_fine).mono ?_)
    rintro e w4 ⟨⟨hbad, -⟩ | ⟨-, g2, vs, rfl, hlg2, hvb, hvl, hrw⟩, hb⟩
    · rw [t8] at hbad; cases hbad
    have HB4 := Lib.hid ((hb.block _ (heap_lt HB3.out)).trans HB3.out)
    have HF4 := Lib.hid (HF3.out.ext hb)
    have HE4 := Lib.hid (HE3.out.tr hb)
    obtain ⟨r0, r, hv0, how⟩ := hrw 0 (funF bodyT) (by decide) rfl
    have hrl := ex_calls how.mem how.sorted
    obtain ⟨A0, k0, rfl⟩ := own_form how.own
    have hc40 := hvb.cell (i := 0) (by rw [hvl]; decide)
    have hvs0 : vs[0]'(by rw [hvl]; decide) = .slice A0 r.length k0 := Option.some.inj ((List.getElem?_eq_getElem (by rw [hvl]; decide)).symm.trans hv0)
    rw [hvs0, hrl] at hc40
    have hlen1 : (exP bodyT).funs.length = 1 := rfl
    rw [hlen1]
    have HC4 := Lib.hid hc40
    clear hb c0 c1 hlg2 hvb hvl hrw how hrl hvs0 hc40 hv0
    have c0 := cellAt HB4.out 0
    have c1 := cellAt HB4.out 1
    go_wp2_with fail
    (with_reducible refine (Check_any (exP bodyT) _ _ _ (RDecls.nil _) HF4.out.fns ex_fine).mono ?_)
    rw [ex_chk]
    rintro e w5 ⟨rfl, hb⟩
    have HB5 := Lib.hid ((hb.block _ (heap_lt HB4.out)).trans HB4.out)
    have HF5 := Lib.hid (HF4.out.ext hb)
    have HE5 := Lib.hid (HE4.out.tr hb)
    have c9 := hb.keep HC4.out
    clear hb c0 c1 HC4
    go_upto_region 7 with fail
    have hmx : Tryz.prog.follows .mixedOrders = true := by kernel_rfl
    go_cut [7, 4] from 11 to 116 (fun v7 v4 W => v7 = .bool true ∧ v4 = .int .i64 0 ∧ Ext w5 W)
    case first =>
      have k0 : w5.drew.cell? ⟨g, 0, none⟩ = some (.slice none 0 0) := cellAt HB5.out 0
      have k1 : w5.drew.cell? ⟨g, 1, none⟩ = some (.slice (some ⟨gf, 0, none⟩) 1 1) := cellAt HB5.out 1
      have l0 : (w5.alloc (.cells #[.string ⟨#[121]⟩] 9)).drew.cell? ⟨g, 0, none⟩ = some (.slice none 0 0) := (Ext.al _ _).keep k0
      have l1 : (w5.alloc (.cells #[.string ⟨#[121]⟩] 9)).drew.cell? ⟨g, 1, none⟩ = some (.slice (some ⟨gf, 0, none⟩) 1 1) := (Ext.al _ _).keep k1
      go_region_with (first
        | (go_at_call 31; (refine (variable_any ⟨#[121]⟩ _).mono ?_); rintro e w6 ⟨rfl, hx6⟩; have m0 : w6.cell? ⟨g, 0, none⟩ = some (.slice none 0 0) := hx6.keep (by assumption); have m1 : w6.cell? ⟨g, 1, none⟩ = some (.slice (some ⟨gf, 0, none⟩) 1 1) := hx6.keep (by assumption);
            have n0 : (w6.alloc (.cells #[.string ⟨#[121]⟩] 9)).cell? ⟨g, 0, none⟩ = some (.slice none 0 0) := (Ext.al _ _).keep m0; have n1 : (w6.alloc (.cells #[.string ⟨#[121]⟩] 9)).cell? ⟨g, 1, none⟩ = some (.slice (some ⟨gf, 0, none⟩) 1 1) := (Ext.al _ _).keep m1)
        | (go_at_call 18; have hA : Ext w5.drew w6 := (by with_reducible exact hx6); (refine (Term_any (exP bodyT) _ _ _ _ [yS] [] 1 (varT yS) _ _ _ (RDecls.nil _) (FB.fns (HF5.out.ext (Ext.tr (Ext.tr (Ext.rf w5).drew hA) (Ext.al _ _)))) ex_fine (RStrs.uno (heapNew _ _) y_le) (RStrs.nil _) (ex_leaf _ _ y_le) (ex_fineV _) (ex_w1 _)).mono ?_); rw [t11]; rintro e w7 ⟨rfl, hx7⟩;
            have HX7 : Hid (Ext w5 w7) := Ext.tr (Ext.tr (Ext.tr (Ext.rf w5).drew hA) (Ext.al _ _)) hx7)
        | (go_at_call 18; have hA0 : Ext (w5.alloc (.cells #[.string ⟨#[121]⟩] 9)).drew w6 := (by with_reducible exact hx6); have hA : Ext (w5.drew.alloc (.cells #[.string ⟨#[121]⟩] 9)) w6 := hA0; (refine (Term_any (exP bodyT) _ _ _ _ [yS] [] 1 (varT yS) _ _ _ (RDecls.nil _) (FB.fns (HF5.out.ext (Ext.tr (Ext.tr (Ext.rf w5).drew (Ext.al _ _)) hA))) ex_fine (RStrs.uno (at_new hA) y_le) (RStrs.nil _) (ex_leaf _ _ y_le) (ex_fineV _) (ex_w1 _)).mono ?_); rw [t11]; rintro e w7 ⟨rfl, hx7⟩;
            have HX7 : Hid (Ext w5 w7) := Ext.tr (Ext.tr (Ext.tr (Ext.rf w5).drew (Ext.al _ _)) hA) hx7))
      all_goals
        go_wp2
        go_meet
        exact ⟨rfl, rfl, HX7.out⟩
    case rest =>
    obtain ⟨rfl, rfl, hb⟩ := hcut
    have HB6 := Lib.hid ((hb.block _ (heap_lt HB5.out)).trans HB5.out)
    have HF6 := Lib.hid (HF5.out.ext hb)
    have HE6 := Lib.hid (HE5.out.tr hb)
    clear hb HB5 HF5 HE5
    obtain ⟨w6, hw6⟩ : ∃ w6, w6 = wc := ⟨_, rfl⟩
    subst hw6
    go_upto_region 8 with fail
    go_cut [8, 6] from 11 to 116 (fun v8 v6 W => v8 = .bool false ∧ v6 = .int .i64 0 ∧ Ext w6 W)
    case first =>
      have k0 : w6.drew.cell? ⟨g, 0, none⟩ = some (.slice none 0 0) := cellAt HB6.out 0
      have k1 : w6.drew.cell? ⟨g, 1, none⟩ = some (.slice (some ⟨gf, 0, none⟩) 1 1) := cellAt HB6.out 1
      go_region_with (first
        | (go_at_call 31; (refine (variable_any ⟨#[121]⟩ _).mono ?_); rintro e w7 ⟨rfl, hx7⟩; have m0 : w7.cell? ⟨g, 0, none⟩ = some (.slice none 0 0) := hx7.keep (by assumption); have m1 : w7.cell? ⟨g, 1, none⟩ = some (.slice (some ⟨gf, 0, none⟩) 1 1) := hx7.keep (by assumption))
        | (go_at_call 18; have hA : Ext w6.drew w7 := (by with_reducible exact hx7); (refine (Term_any (exP bodyT) _ _ _ _ [] [] 1 (varT yS) _ _ _ (RDecls.nil _) (FB.fns (HF6.out.ext (Ext.tr (Ext.rf w6).drew hA))) ex_fine (RStrs.nil _) (RStrs.nil _) (ex_leaf _ _ y_le) (ex_fineV _) (ex_w0 _)).mono ?_); rw [t12]; rintro e w8 ⟨rfl, hx8⟩;
            have HX8 : Hid (Ext w6 w8) := Ext.tr (Ext.tr (Ext.rf w6).drew hA) hx8))
      all_goals
        go_wp2
        go_meet
        exact ⟨rfl, rfl, HX8.out⟩
    case rest =>
    obtain ⟨rfl, rfl, hb⟩ := hcut
    have HB7 := Lib.hid ((hb.block _ (heap_lt HB6.out)).trans HB6.out)
    have HF7 := Lib.hid (HF6.out.ext hb)
    have HE7 := Lib.hid (HE6.out.tr hb)
    clear hb HB6 HF6 HE6
    obtain ⟨w7, hw7⟩ : ∃ w7, w7 = wc := ⟨_, rfl⟩
    subst hw7
    go_wp2_with fail
    (refine (variable_any ⟨#[98]⟩ _).mono ?_)
    rintro e w8 ⟨rfl, hb⟩
    have HE8 := Lib.hid hb
    clear hb
    go_wp2_with fail
    (refine (variable_any ⟨#[97]⟩ _).mono ?_)
    rintro e w9 ⟨rfl, hb⟩
    have HE9 := Lib.hid (HE8.out.tr hb)
    clear hb
    go_wp2_with fail
    (refine (sum_any (varT bS) (varT aS) none none none none 0 0 0 0 0 0 0 0 1 _ (ex_leaf _ _ (by decide)) (ex_leaf _ _ (by decide))).mono ?_)
    rintro e w10 ⟨gs, rfl, hrs, hb⟩
    have HRS := Lib.hid hrs
    have HE10 := Lib.hid (HE9.out.tr hb)
    clear hb hrs
    go_wp2_with fail
    have hE11 := Ext.al w10 (.cells #[.int .i64 (sumT (varT bS) (varT aS)).op, .int .i64 (sumT (varT bS) (varT aS)).n, .string (sumT (varT bS) (varT aS)).nm, .int .i64 (sumT (varT bS) (varT aS)).ty, .slice (some ⟨gs, 0, none⟩) 2 2, .slice none 0 0] 43)
    have hg11 := heapNew w10 (.cells #[.int .i64 (sumT (varT bS) (varT aS)).op, .int .i64 (sumT (varT bS) (varT aS)).n, .string (sumT (varT bS) (varT aS)).nm, .int .i64 (sumT (varT bS) (varT aS)).ty, .slice (some ⟨gs, 0, none⟩) 2 2, .slice none 0 0] 43)
    have HRG : Hid (RT _ 3 gotoT (.slice (some ⟨w10.heap.size, 0, none⟩) 1 1) (.slice none 0 0)) := RT.one k_le (by unfold ok64; decide) (by unfold ok64; decide) hg11 (HRS.out.below hE11)
    have HE11 := Lib.hid (HE10.out.tr hE11)
    clear hE11 hg11
    generalize w10.alloc _ = w11 at *
    (refine (Free_any 3 gotoT _ _ _ HRG.out ex_uT).mono ?_)
    rintro e w12 ⟨v1, v2, l1, l2, rfl, ho1, ho2, hb⟩
    have hl1 := ho1.is ab_sorted fv_goto
    have hl2 := ho2.is k_sorted fl_goto
    subst hl1 hl2
    have HO1 := Lib.hid ho1; have HO2 := Lib.hid ho2
    have hx := HE11.out.tr hb
    have HB12 := Lib.hid ((hx.block _ (heap_lt HB7.out)).trans HB7.out)
    have HF12 := Lib.hid (HF7.out.ext hx)
    have HE12 := Lib.hid (HE7.out.tr hx)
    have HGF : Hid (gf < w11.heap.size) := Nat.lt_of_lt_of_le (heap_lt HF7.out.funs) HE11.out.size
    have HGP : Hid (gp ≠ gf) := fun e => by have h1 := HF12.out.prms; have h2 := HF12.out.funs; rw [e, h2] at h1; simp at h1
    clear hb hx ho1 ho2 HE8 HE9 HE10 HE11 HRS HRG HB7 HF7 HE7
    go_upto_region 10 with fail
    go_cut [] from 11 to 116 (fun W => FB W gf gp (varT yS) (.slice none 0 0) (.slice none 0 0) 1 ∧ W.heap[g]? = some (.cells #[.slice none 0 0, .slice (some ⟨gf, 0, none⟩) 1 1] 25 (0, 0)) ∧ OwnS W w11.heap.size v1 [aS, bS] (fvT gotoT) ∧ OwnS W w11.heap.size v2 [kS'] (flT gotoT) ∧ Ext w W)
    case first =>
      have k0 : w12.drew.cell? ⟨g, 0, none⟩ = some (.slice none 0 0) := cellAt HB12.out 0
      have k1 : w12.drew.cell? ⟨g, 1, none⟩ = some (.slice (some ⟨gf, 0, none⟩) 1 1) := cellAt HB12.out 1
      go_region_with (first
        | (go_at_call 31; (refine (variable_any ⟨#[121]⟩ _).mono ?_); rintro e w13 ⟨rfl, hx13⟩; have m0 : w13.cell? ⟨g, 0, none⟩ = some (.slice none 0 0) := hx13.keep (by assumption); have m1 : w13.cell? ⟨g, 1, none⟩ = some (.slice (some ⟨gf, 0, none⟩) 1 1) := hx13.keep (by assumption);
            have hh : Ext w12 w13 := Ext.tr (Ext.rf w12).drew hx13; have hg13 := (hh.block _ (heap_lt HF12.out.funs)).trans HF12.out.funs; have HG13 := Lib.hid hg13; have HH13 := Lib.hid hh;
            have q3 := cellAt hg13 3; have q4 := cellAt hg13 4; have q5 := cellAt hg13 5; have q6 := cellAt hg13 6; have q7 := cellAt hg13 7; have q8 := cellAt hg13 8;
            have z3 := frozenAt hg13 3; have z4 := frozenAt hg13 4; have z5 := frozenAt hg13 5; have z6 := frozenAt hg13 6; have z7 := frozenAt hg13 7; have z8 := frozenAt hg13 8; clear hg13 hh))
      all_goals
        go_wp2
        go_meet
        refine ⟨⟨box9_set HG13.out _ _ _ _ _ _, (set6_other HGP.out _ _ _ _ _ _).trans (HF12.out.ext HH13.out).prms, ex_leaf _ _ y_le⟩, (set6_other HNE.out _ _ _ _ _ _).trans ((HH13.out.block _ (heap_lt HB12.out)).trans HB12.out), ?_, ?_, ?_⟩
        · exact ((((((HO1.out.ext HH13.out).set HGF.out _).set HGF.out _).set HGF.out _).set HGF.out _).set HGF.out _).set HGF.out _
        · exact ((((((HO2.out.ext HH13.out).set HGF.out _).set HGF.out _).set HGF.out _).set HGF.out _).set HGF.out _).set HGF.out _
        · exact Below.setNew (Below.setNew (Below.setNew (Below.setNew (Below.setNew (Below.setNew (HE12.out.tr HH13.out) hlf _) hlf _) hlf _) hlf _) hlf _) hlf _
    case rest =>
    obtain ⟨hf, hbx, h1, h2, hex⟩ := hcut
    have HFX := Lib.hid hf; have HBX2 := Lib.hid hbx; have HEX2 := Lib.hid hex
    have HR1 := Lib.hid h1.strs; have HR2 := Lib.hid h2.strs
    clear hf hbx h1 h2 hex HO1 HO2 HB12 HF12 HE12
    obtain ⟨w14, hw14⟩ : ∃ w14, w14 = wc := ⟨_, rfl⟩
    subst hw14
    go_wp2_with fail
    have hE15 := Ext.al w14 (.cells #[.string ⟨#[97]⟩, .string ⟨#[98]⟩] 9)
    have hg15 := heapNew w14 (.cells #[.string ⟨#[97]⟩, .string ⟨#[98]⟩] 9)
    generalize w14.alloc _ = w15 at *
    (refine (same_any _ _ [aS, bS] _ (HR1.out.below hE15) (RStrs.duo hg15 a_le b_le)).mono ?_)
    rintro e w16 ⟨rfl, hb⟩
    have HE16 := Lib.hid (hE15.tr hb)
    clear hE15 hg15 hb
    go_wp2_with fail
    have hE17 := Ext.al w16 (.cells #[.string ⟨#[107]⟩] 9)
    have hg17 := heapNew w16 (.cells #[.string ⟨#[107]⟩] 9)
    generalize w16.alloc _ = w17 at *
    (refine (same_any _ _ [kS'] _ (HR2.out.below (HE16.out.tr hE17)) (RStrs.uno hg17 k_le)).mono ?_)
    rintro e w18 ⟨rfl, hb⟩
    have hx := (HE16.out.tr hE17).tr hb
    have HE18 := Lib.hid hx
    have hb18 := (hx.block _ (heap_lt HBX2.out)).trans HBX2.out
    have c0 := cellAt hb18 0
    have c1 := cellAt hb18 1
    clear hE17 hg17 hb hx hb18
    go_wp2_with fail
    (refine (Check_any (exP (varT yS)) _ _ _ (RDecls.nil _) (HFX.out.ext HE18.out).fns ex_fineP).mono ?_)
    rw [ex_chk2]
    rintro e w19 ⟨rfl, hb⟩
    have HE19 := Lib.hid ((HEX2.out.tr HE18.out).tr hb)
    clear hb c0 c1
    go_wp2
    go_ret
    exact ⟨rfl, HE19.out⟩
end Go.Proofs.YtfohcdpfgbeclaaGreat
