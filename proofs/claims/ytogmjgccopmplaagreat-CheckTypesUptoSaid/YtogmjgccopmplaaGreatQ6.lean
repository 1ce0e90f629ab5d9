/- walk.go: all nodes of a term. -/
import Derived.Test.YtogmjgccopmplaaGreatQ5
namespace Go.Proofs.YtogmjgccopmplaaGreat
open Go.RowKit Go.Shelf
attribute [local go_sem] Oper.semAt_some
theorem Only.setNew {C : Nat → Prop} {w w2 : World} (h : Only C w w2) {r : Nat} (hr : w.heap.size ≤ r) (i : Nat) (v : Value) : Only C w (w2.setCell ⟨r, i, none⟩ v) :=
  ⟨h.os, h.tape, h.output, by simp [World.setCell]; exact h.size, fun k hk hn => (Below.heap_setCell w2 ⟨r, i, none⟩ v k (by show k ≠ r; omega)).trans (h.block k hk hn)⟩
theorem Only.putNew {C : Nat → Prop} {w w2 : World} (h : Only C w w2) {r : Nat} (hr : w.heap.size ≤ r) (o : Obj) : Only C w (w2.putObj r o) :=
  ⟨h.os, h.tape, h.output, by simp; exact h.size, fun k hk hn => (World.putObj_heap_other (by omega)).trans (h.block k hk hn)⟩
theorem Below.putNew {B : Nat} {w w2 : World} (h : Below B w w2) {r : Nat} (hr : B ≤ r) (o : Obj) : Below B w (w2.putObj r o) :=
  ⟨h.os, h.tape, h.output, by simp; exact h.size, fun k hk => (World.putObj_heap_other (by omega)).trans (h.block k hk)⟩
theorem Only.belowNew {C : Nat → Prop} {w A B : World} (h : Only C w A) {s : Nat} (hb : Below s A B) (hs : w.heap.size ≤ s) : Only C w B :=
  ⟨hb.os.trans h.os, hb.tape.trans h.tape, hb.output.trans h.output, Nat.le_trans h.size hb.size, fun k hk hn => (hb.block k (by omega)).trans (h.block k hk hn)⟩
theorem put_cell {w : World} {r D T : Nat} {u : Value} (h : w.heap[r]? = some (.cells #[u] T (0, 0))) (hne : r ≠ D) (o : Obj) : (w.putObj D o).cell? ⟨r, 0, none⟩ = some u :=
  cellAt (l := #[u]) ((World.putObj_heap_other hne).trans h) 0
/-- A box of one cell, written. -/
theorem box_set {w : World} {r T : Nat} {u : Value} (h : w.heap[r]? = some (.cells #[u] T (0, 0))) (v : Value) : (w.setCell ⟨r, 0, none⟩ v).heap[r]? = some (.cells #[v] T (0, 0)) := by
  simp [World.setCell, Array.getElem?_modify, h]
/-- What a node reads as. -/
def RN (y : Int × Tm) (vs : Array Value) (A : World) : Prop := ∃ k xa xc, vs = #[.int .i64 y.1, tV y.2 xa xc] ∧ RT A k y.2 xa xc
theorem RN.size {y : Int × Tm} {vs : Array Value} {A : World} (h : RN y vs A) : vs.size = 2 := by
  obtain ⟨k, xa, xc, rfl, _⟩ := h; rfl
theorem heapFourth (w : World) (a b c d : Obj) : ((((w.alloc a).alloc b).alloc c).alloc d).heap[w.heap.size]? = some a ∧ ((((w.alloc a).alloc b).alloc c).alloc d).heap[w.heap.size + 1]? = some b ∧
    ((((w.alloc a).alloc b).alloc c).alloc d).heap[w.heap.size + 1 + 1]? = some c ∧ ((((w.alloc a).alloc b).alloc c).alloc d).heap[w.heap.size + 1 + 1 + 1]? = some d := by
  have h1 := heapNew w a
  have h2 := heapNew (w.alloc a) b
  have h3 := heapNew ((w.alloc a).alloc b) c
  have h4 := heapNew (((w.alloc a).alloc b).alloc c) d
  simp only [World.size_alloc] at h2 h3 h4
  exact ⟨((Ext.al3 _ _ _ _).block _ (by simp)).trans h1, ((Ext.al2 _ _ _).block _ (by simp)).trans h2, ((Ext.al _ _).block _ (by simp)).trans h3, h4⟩
theorem nodesK_pre {d : Int} {l m : List (Bnd × Tm)} (h : l <+: m) : nodesK d l <+: nodesK d m := by
  obtain ⟨r, rfl⟩ := h
  rw [nodesK_append]
  exact List.prefix_append _ _
theorem nodesK_snoc (d : Int) (l : List (Bnd × Tm)) (y : Bnd × Tm) : nodesK d (l ++ [y]) = nodesK d l ++ nodesL d y.2 := by
  rw [nodesK_append]; simp [nodesK]
theorem cells6 {W : World} {T : TypeId} {a b c d e f : Value} {g : Nat} (h : W.heap[g]? = some (.cells #[a, b, c, d, e, f] T (0, 0))) : W.cell? ⟨g, 0, none⟩ = some a ∧ W.cell? ⟨g, 1, none⟩ = some b ∧ W.cell? ⟨g, 2, none⟩ = some c ∧ W.cell? ⟨g, 3, none⟩ = some d ∧ W.cell? ⟨g, 4, none⟩ = some e ∧ W.cell? ⟨g, 5, none⟩ = some f :=
  ⟨cellAt h 0, cellAt h 1, cellAt h 2, cellAt h 3, cellAt h 4, cellAt h 5⟩
set_option maxHeartbeats 4000000 in
set_option maxRecDepth 100000 in
theorem walk_any (wA : World) (l base : Nat) (C : Nat → Prop) (L : List (Int × Tm)) (J : List (Int × Tm) → World → Prop) (Jx : World → Prop) (hC : ∀ j, C j → wA.heap.size ≤ j ∧ j < base)
    (hJ : ∀ pre A B, J pre A → Below base A B → J pre B) (hJx : ∀ A B, Jx A → Below base A B → Jx B)
    (hY : ∀ pre y vs A, pre ++ [y] <+: L → J pre A → RN y vs A → base ≤ A.heap.size → YieldW Tryz.prog l vs A (YesNo (fun B => J (pre ++ [y]) B ∧ Only C A B) (fun B => Jx B ∧ Only C A B))) :
    ∀ (k : Nat) (t : Tm) (va vc : Value) (d : Int) (pre : List (Int × Tm)) (w : World), RT wA k t va vc → Below wA.heap.size wA w → base ≤ w.heap.size → pre ++ nodesL d t <+: L → J pre w → (∀ y ∈ nodesL d t, 0 ≤ y.1 ∧ y.1 ≤ 1000000000000) →
      Calls Tryz.prog 128 #[tV t va vc, .int .i64 d, .func (.yield l) #[] #[]] w (YesNo (fun B => J (pre ++ nodesL d t) B ∧ Only C w B) (fun B => Jx B ∧ Only C w B)) := by
  intro k
  induction k with
  | zero => intro t va vc d pre w ht; exact ht.elim
  | succ k ih =>
    intro t va vc d pre w ht hb hbase hpre h0 hdep
    have HT := Lib.hid ht; have HB := Lib.hid hb; have HPRE := Lib.hid hpre; have H0 := Lib.hid h0; have HY := Lib.hid hY; have HJ := Lib.hid hJ; have HJx := Lib.hid hJx; have HC := Lib.hid hC; have HIH := Lib.hid ih
    obtain ⟨_, ⟨Aa, ca, rfl, -, -⟩, ⟨Bb, cb, rfl, -, -⟩⟩ := ht.form
    clear ht hb hpre h0 hY hJ hJx hC ih
    have HW1 : Hid (Ext w ((((w.alloc (.cells #[.int .i64 t.op, .int .i64 t.n, .string t.nm, .int .i64 t.ty, .slice Aa t.args.length ca, .slice Bb t.cls.length cb] 41)).alloc (.cells #[.int .i64 d] 3)).alloc (.cells #[.func (.yield l) #[] #[]] 184)).alloc (.cells #[.bool false] 4))) := (Ext.al3 _ _ _ _).tr (Ext.al _ _)
    obtain ⟨fn, tmps, assign, body, hy, hR⟩ := HY.out pre (d, t) _ _ (by
      refine List.IsPrefix.trans ?_ HPRE.out
      rw [nodesL_kids]
      exact (List.prefix_append_right_inj _).2 (List.cons_prefix_cons.2 ⟨rfl, List.nil_prefix⟩)) (HJ.out _ _ _ H0.out (HW1.out.mono hbase)) ⟨k + 1, _, _, rfl, HT.out.below (HB.out.trans (HW1.out.mono HB.out.size))⟩ (by simp; omega)
    refine callsIn_wide.1 (callsIn_of_wp_marks (n := 0) Tryz.func128 rfl trivial ?_ rfl)
    simp only [Tryz.ntmps128, List.size_toArray, List.length_cons, List.length_nil, Nat.reduceAdd, Nat.reduceSub, Array.replicate_succ, Array.replicate_zero, List.push_toArray, List.append_toArray, List.nil_append, List.cons_append]
    have HX3 := Lib.hid (heapFourth w (.cells #[.int .i64 t.op, .int .i64 t.n, .string t.nm, .int .i64 t.ty, .slice Aa t.args.length ca, .slice Bb t.cls.length cb] 41) (.cells #[.int .i64 d] 3) (.cells #[.func (.yield l) #[] #[]] 184) (.cells #[.bool false] 4))
    gi_wp2
    generalize ((w.alloc _).alloc _).alloc _ = w0 at *
    generalize w0.alloc _ = w1 at *
    clear hy
    refine ⟨rfl, ?_⟩
    refine (hR _).mono ?_
    rintro e w2 ⟨q, rfl, hq⟩
    clear hR
    cases q
    · obtain ⟨hj2, ho2⟩ := hq.out.2 rfl
      clear hq
      have HJ2 := Lib.hid hj2
      have HO2 := Lib.hid ho2
      clear hj2 ho2
      have hr : w2.heap[w.heap.size + 1 + 1 + 1]? = some (.cells #[.bool false] 4 (0, 0)) := (HO2.out.block _ (heap_lt HX3.out.2.2.2) (fun h => by have := (HC.out _ h).2; omega)).trans HX3.out.2.2.2
      have r0 := cellAt hr 0
      have r1 := frozenAt hr 0
      have HR2 := Lib.hid hr
      clear hr
      have s0 := cellAt (box_set HR2.out (.bool false)) 0
      gi_wp2
      refine ⟨.bool false, by simp [results, go_sem, s0], false, rfl, fun h => (by cases h), fun _ => ⟨HJx.out _ _ HJ2.out ((Below.refl _ _).setCell (p := ⟨w.heap.size + 1 + 1 + 1, 0, none⟩) (by show base ≤ w.heap.size + 1 + 1 + 1; omega) _), ?_⟩⟩
      exact Only.setNew ((Only.of_ext HW1.out).tr HO2.out) (by omega) 0 _
    · obtain ⟨hj2, ho2⟩ := hq.out.1 rfl
      clear hq
      have HJ2 := Lib.hid hj2
      have HO2 := Lib.hid ho2
      clear hj2 ho2
      have hkeep : ∀ j o, w1.heap[j]? = some o → base ≤ j → w2.heap[j]? = some o := fun j o h hj => (HO2.out.block _ (heap_lt h) (fun h => by have := (HC.out _ h).2; omega)).trans h
      have b0 := hkeep _ _ HX3.out.1 (by omega)
      have b1 := hkeep _ _ HX3.out.2.1 (by omega)
      have b2 := hkeep _ _ HX3.out.2.2.1 (by omega)
      have b3 := hkeep _ _ HX3.out.2.2.2 (by omega)
      clear hkeep
      have t0 := cellAt b0 0
      have t1 := cellAt b0 1
      have t2 := cellAt b0 2
      have t3 := cellAt b0 3
      have t4 := cellAt b0 4
      have t5 := cellAt b0 5
      have B1 := Lib.hid b1; have B2 := Lib.hid b2; have B3 := Lib.hid b3
      have hlt := heap_lt b3
      clear b0 b1 b2 b3
      gi_wp2_with (refine ⟨trivial, rfl, ?_⟩; gi_at_call 107; refine (callsIn_wide.2 (parts_any t _ _ _)).mono ?_; rintro e w3 ⟨rfl, rfl⟩)
      have HN := Lib.hid (nodesL_kids d t)
      have hd1 : 0 ≤ d ∧ d ≤ 1000000000000 := hdep (d, t) (by rw [HN.out]; exact List.mem_cons_self ..)
      obtain ⟨hd1, hd2⟩ := hd1
      have HDEP := Lib.hid hdep
      clear hdep
      have hg3 := heapNew w2 (.cells #[.int .i64 t.op, .int .i64 t.n, .string t.nm, .int .i64 t.ty, .slice Aa t.args.length ca, .slice Bb t.cls.length cb] 41)
      have hE3 := Ext.al w2 (.cells #[.int .i64 t.op, .int .i64 t.n, .string t.nm, .int .i64 t.ty, .slice Aa t.args.length ca, .slice Bb t.cls.length cb] 41)
      have hz3 : w2.heap.size < (w2.alloc (.cells #[.int .i64 t.op, .int .i64 t.n, .string t.nm, .int .i64 t.ty, .slice Aa t.args.length ca, .slice Bb t.cls.length cb] 41)).heap.size := by simp
      generalize w2.alloc _ = w3 at *
      have HG3 := Lib.hid hg3
      have HE3 := Lib.hid hE3
      clear hg3 hE3 t0 t1 t2 t3 t4 t5
      have hw12 := HO2.out.size
      have hwA := HB.out.size
      have HO3 : Hid (Only C w w3) := ((Only.of_ext HW1.out).tr HO2.out).tr (Only.of_ext HE3.out)
      have HA3 : Hid (Below wA.heap.size wA w3) := HB.out.trans (HO3.out.below (C := C) hwA (fun j hj => (HC.out j hj).1))
      have HIT := Lib.hid (parts_iter (fun j => C j ∨ j = w.heap.size + 1 + 1 + 1) wA w3 k t _ _ w2.heap.size HT.out HA3.out (fun j hj => by rcases hj with hj | rfl; exact (HC.out j hj).1; omega) HG3.out (fun hj => by rcases hj with hj | hj; have := (HC.out _ hj).2; omega; omega))
      refine wpIn_wide.2 (wp_range (C := fun j => C j ∨ j = w.heap.size + 1 + 1 + 1) (L := kids t) (R := RK wA k) rfl (enters_of Tryz.func136 (by kernel_rfl) rfl) HIT.out
        (fun j hj => by rcases hj with hj | rfl; have := (HC.out _ hj).2; omega; omega) (fun y vs A h => h.size)
        (fun pre' W => J (pre ++ (d, t) :: nodesK (d + 1) pre') W ∧ Only C w W ∧ W.heap[w.heap.size + 1]? = some (.cells #[.int .i64 d] 3 (0, 0)) ∧ W.heap[w.heap.size + 1 + 1]? = some (.cells #[.func (.yield l) #[] #[]] 184 (0, 0)) ∧ W.heap[w.heap.size + 1 + 1 + 1]? = some (.cells #[.bool false] 4 (0, 0)))
        (fun c W => c = .ret ∧ Jx W ∧ Only C w W ∧ W.heap[w.heap.size + 1 + 1 + 1]? = some (.cells #[.bool false] 4 (0, 0))) ?hI ?hIx ?h0 ?hround ?hdone ?hstop)
      case hI =>
        rintro pre' A B ⟨h1, h2, h3, h4, h5⟩ hb
        exact ⟨HJ.out _ _ _ h1 (hb.mono (by omega)), h2.belowNew hb (by omega), (hb.block _ (by omega)).trans h3, (hb.block _ (by omega)).trans h4, (hb.block _ (by omega)).trans h5⟩
      case hIx =>
        rintro c A B ⟨h1, h2, h3, h5⟩ hb
        exact ⟨h1, HJx.out _ _ h2 (hb.mono (by omega)), h3.belowNew hb (by omega), (hb.block _ (by omega)).trans h5⟩
      case h0 =>
        exact ⟨HJ.out _ _ _ HJ2.out (HE3.out.mono (by omega)), HO3.out, (HE3.out.block _ (by omega)).trans B1.out, (HE3.out.block _ (by omega)).trans B2.out, (HE3.out.block _ (by omega)).trans B3.out⟩
      case hround =>
        rintro l' pre' y vs W hl' hpre' ⟨i1, i2, i3, i4, i5⟩ ⟨vn, xa, xc, rfl, hs, ht⟩ hsz
        obtain ⟨_, ⟨Ax, cx, rfl, -, -⟩, ⟨Bx, dx, rfl, -, -⟩⟩ := ht.form
        have I1 := Lib.hid i1; have I2 := Lib.hid i2; have I3 := Lib.hid i3; have I4 := Lib.hid i4; have I5 := Lib.hid i5
        have HTY := Lib.hid ht; have HPR := Lib.hid hpre'
        clear i1 i2 i3 i4 i5 hs ht hpre'
        gi_wp2
        refine ⟨Ext.al _ _, fun W2 hT => ?_⟩
        have hE4 := Ext.al W (.cells #[.int .i64 y.2.op, .int .i64 y.2.n, .string y.2.nm, .int .i64 y.2.ty, .slice Ax y.2.args.length cx, .slice Bx y.2.cls.length dx] 41)
        have hN4 := hT.kept _ _ (heapNew W (.cells #[.int .i64 y.2.op, .int .i64 y.2.n, .string y.2.nm, .int .i64 y.2.ty, .slice Ax y.2.args.length cx, .slice Bx y.2.cls.length dx] 41)) (fun r h => by cases h)
        have h3 := hT.kept _ _ ((hE4.block _ (heap_lt I3.out)).trans I3.out) (fun r h => by cases h)
        have h4 := hT.kept _ _ ((hE4.block _ (heap_lt I4.out)).trans I4.out) (fun r h => by cases h)
        have h5 := hT.kept _ _ ((hE4.block _ (heap_lt I5.out)).trans I5.out) (fun r h => by cases h)
        have hB4 := hT.only.below (B := w3.heap.size) (by simp; omega) (fun k h => by rw [h]; exact hl')
        have HB2 : Hid (Below w3.heap.size W W2) := (hE4.mono hsz).trans hB4
        have HJ4 := Lib.hid (HJ.out _ _ _ I1.out (HB2.out.mono (by omega)))
        have HO4 : Hid (Only C w W2) := Only.belowNew I2.out HB2.out (by omega)
        obtain ⟨n0, n1, n2, n3, n4, n5⟩ := cells6 hN4
        have m3 := cellAt h3 0
        have m4 := cellAt h4 0
        have H3 := Lib.hid h3; have H4 := Lib.hid h4; have H5 := Lib.hid h5
        have hz2 := HB2.out.size
        clear hE4 hN4 h3 h4 h5 hB4 hT
        have hsub := nodesK_pre (d := d + 1) HPR.out
        rw [nodesK_snoc] at hsub
        have HSUB := Lib.hid hsub
        clear hsub
        have HCALL := Lib.hid (HIH.out y.2 _ _ (d + 1) (pre ++ (d, t) :: nodesK (d + 1) pre') W2 HTY.out (HB.out.trans (HO4.out.below (C := C) hwA (fun j hj => (HC.out j hj).1))) (by omega)
          (by
            refine List.IsPrefix.trans ?_ HPRE.out
            rw [HN.out, List.append_assoc]
            exact (List.prefix_append_right_inj _).2 (List.cons_prefix_cons.2 ⟨rfl, HSUB.out⟩))
          HJ4.out (fun z hz => HDEP.out z (by rw [HN.out]; exact List.mem_cons_of_mem _ (HSUB.out.subset (List.mem_append_right _ hz)))))
        gi_wp2
        refine ⟨trivial, rfl, ?_⟩
        (with_reducible refine (CallsIn.inRound l' (callsIn_wide.2 HCALL.out)).mono ?_)
        rintro e w5 ⟨q, rfl, hq⟩
        have hq' := hq.out
        have ho5 : Only C W2 w5 := by
          cases q
          · exact (hq'.2 rfl).2
          · exact (hq'.1 rfl).2
        have HO5 := Lib.hid ho5
        have hnC : ∀ j, base ≤ j → ¬ C j := fun j hj h => by have := (HC.out j h).2; omega
        have k3 := (ho5.block _ (heap_lt H3.out) (hnC _ (by omega))).trans H3.out
        have k4 := (ho5.block _ (heap_lt H4.out) (hnC _ (by omega))).trans H4.out
        have k5 := (ho5.block _ (heap_lt H5.out) (hnC _ (by omega))).trans H5.out
        have K3 := Lib.hid k3; have K4 := Lib.hid k4; have K5 := Lib.hid k5
        have r0 := cellAt k5 0
        have r1 := frozenAt k5 0
        clear k3 k4 k5 ho5 hnC hq'
        have hz5 := HO5.out.size
        have HOW : Hid (Only C w w5) := HO4.out.tr HO5.out
        have HO6 : Hid (Only (fun j => C j ∨ j = w.heap.size + 1 + 1 + 1) W2 w5) := HO5.out.mono (fun k _ h => .inl h)
        cases q
        · have HJ5 := Lib.hid (hq.out.2 rfl).1
          clear hq
          gi_wp2
          refine ⟨HO6.out.tr (Only.setCell (p := ⟨w.heap.size + 1 + 1 + 1, 0, none⟩) (.inr rfl) _ _), rfl, HJx.out _ _ HJ5.out ((Below.refl _ _).setCell (p := ⟨w.heap.size + 1 + 1 + 1, 0, none⟩) (by show base ≤ w.heap.size + 1 + 1 + 1; omega) _), Only.setNew HOW.out (by omega) 0 _, box_set K5.out _⟩
        · have HJ5 := Lib.hid (hq.out.1 rfl).1
          clear hq
          gi_wp2
          refine ⟨HO6.out, ?_, HOW.out, K3.out, K4.out, K5.out⟩
          rw [nodesK_snoc]
          have := HJ5.out
          rw [List.append_assoc] at this
          exact this
      case hdone =>
        rintro W ⟨h1, h2, h3, h4, h5⟩ hK
        have h0 := cellAt h5 0
        have h0f := frozenAt h5 0
        have H1 := Lib.hid h1; have H2 := Lib.hid h2; have H5 := Lib.hid h5; have HK := Lib.hid hK
        clear h1 h2 h3 h4 h5 hK
        gi_wp2
        have hk2 : (W.setCell ⟨w.heap.size + 1 + 1 + 1, 0, none⟩ (.bool true)).heap[w3.heap.size]? = some (.deferred (some [])) := (Below.heap_setCell W ⟨w.heap.size + 1 + 1 + 1, 0, none⟩ _ _ (by show w3.heap.size ≠ w.heap.size + 1 + 1 + 1; omega)).trans HK.out
        have s0 := put_cell (box_set H5.out (.bool true)) (show w.heap.size + 1 + 1 + 1 ≠ w3.heap.size by omega) (.deferred none)
        refine ⟨by simp, .inl ⟨_, _, rfl, run_takeDeferred hk2, ?_⟩⟩
        refine ⟨.bool true, by simp [results, go_sem, s0], true, rfl, fun _ => ⟨?_, ?_⟩, fun h => (by cases h)⟩
        · rw [HN.out]
          exact HJ.out _ _ _ H1.out (Below.putNew ((Below.refl _ _).setCell (p := ⟨w.heap.size + 1 + 1 + 1, 0, none⟩) (by show base ≤ w.heap.size + 1 + 1 + 1; omega) _) (by omega) _)
        · exact Only.putNew (Only.setNew H2.out (by omega) 0 _) (by omega) _
      case hstop =>
        rintro c W ⟨rfl, h1, h2, h5⟩ hK
        have H1 := Lib.hid h1; have H2 := Lib.hid h2; have H5 := Lib.hid h5; have HK := Lib.hid hK
        have s0 := put_cell h5 (show w.heap.size + 1 + 1 + 1 ≠ w3.heap.size by omega) (.deferred none)
        clear h1 h2 h5 hK
        refine (wpIn_wide (n := 0)).1 ?_
        gi_wp2
        refine ⟨by simp, .inl ⟨_, _, rfl, run_takeDeferred HK.out, ?_⟩⟩
        refine ⟨.bool false, by simp [results, go_sem, s0], false, rfl, fun h => (by cases h), fun _ => ⟨?_, ?_⟩⟩
        · exact HJx.out _ _ H1.out (Below.putNew (Below.refl _ _) (by omega) _)
        · exact Only.putNew H2.out (by omega) _
end Go.Proofs.YtogmjgccopmplaaGreat

/- walk.go: the iterator over the nodes of a term; its size. -/
namespace Go.Proofs.YtogmjgccopmplaaGreat
open Go.RowKit Go.Shelf
attribute [local go_sem] Oper.semAt_some
set_option maxHeartbeats 4000000 in
set_option maxRecDepth 100000 in
theorem nodes_iter (C : Nat → Prop) (wA w0 : World) (k : Nat) (t : Tm) (va vc : Value) (g : Nat) (hA : RT wA k t va vc) (hb : Below wA.heap.size wA w0) (hC : ∀ j, C j → wA.heap.size ≤ j ∧ j < w0.heap.size)
    (hg : w0.heap[g]? = some (.cells #[.int .i64 t.op, .int .i64 t.n, .string t.nm, .int .i64 t.ty, va, vc] 41 (0, 0))) (hdep : ∀ y ∈ nodesL 1 t, 0 ≤ y.1 ∧ y.1 ≤ 1000000000000) :
    Iter Tryz.prog 127 #[.pointer (some ⟨g, 0, none⟩)] C (nodesL 1 t) RN w0 := by
  intro l J Jx W hW hJ hJx hY h0
  have hgl := heap_lt hg
  have hgW := (hW.block g hgl).trans hg
  have HW := Lib.hid (walk_any wA l W.heap.size (fun k => C k ∨ (w0.heap.size ≤ k ∧ k < W.heap.size)) (nodesL 1 t) J Jx
    (fun j hj => by have := hW.size; have := hb.size; rcases hj with hj | hj; exact ⟨(hC j hj).1, by have := (hC j hj).2; omega⟩; exact ⟨by omega, hj.2⟩) hJ hJx
    (fun pre y vs A h1 h2 h3 h4 => (hY pre y vs A h1 h2 h3 h4).mono fun e B h => yesNo_of h) k t va vc 1 [] W hA (hb.trans (hW.mono hb.size)) (Nat.le_refl _) (by simp) h0 hdep)
  obtain ⟨g0, g1, g2, g3, g4, g5⟩ := cells6 hgW
  clear hA hb hC hg hdep hY hJ hJx hgW
  refine callsIn_wide.1 (callsIn_of_wp (n := 0) Tryz.func127 rfl trivial ?_ rfl)
  simp only [Tryz.ntmps127, List.size_toArray, List.length_cons, List.length_nil, Nat.reduceAdd, Nat.reduceSub, Array.replicate_succ, Array.replicate_zero, List.push_toArray, List.append_toArray, List.nil_append, List.cons_append]
  gi_wp2
  refine ⟨trivial, rfl, ?_⟩
  (with_reducible refine (callsIn_wide.2 HW.out).mono ?_)
  rintro e w5 ⟨q, rfl, hq⟩
  have HQ : Hid (J (nodesL 1 t) w5 ∨ Jx w5) := by
    cases q
    · exact .inr (hq.out.2 rfl).1
    · exact .inl (hq.out.1 rfl).1
  clear hq
  gi_wp2
  go_end0
  exact ⟨⟨_, rfl⟩, HQ.out⟩
/-- What size has found so far. -/
theorem sizeOK_snoc (l : List (Int × Tm)) (y : Int × Tm) : sizeOK (l ++ [y]) = (decide (l.length + 1 ≤ 600) && (l.all fun p => decide (p.1 ≤ 24)) && decide (y.1 ≤ 24)) := by
  unfold sizeOK
  simp [List.all_append, Bool.and_assoc]
theorem sizeOK_pre {l m : List (Int × Tm)} (h : l <+: m) (hm : sizeOK m = true) : sizeOK l = true := by
  obtain ⟨r, rfl⟩ := h
  unfold sizeOK at hm ⊢
  simp only [List.all_append, Bool.and_eq_true, decide_eq_true_eq, List.length_append] at hm ⊢
  exact ⟨by omega, hm.2.1⟩
theorem sizeOK_next {l : List (Int × Tm)} {y : Int × Tm} (h : sizeOK l = true) : sizeOK (l ++ [y]) = (decide ((l.length : Int) + 1 ≤ 600) && decide (y.1 ≤ 24)) := by
  rw [sizeOK_snoc]
  unfold sizeOK at h
  simp only [Bool.and_eq_true] at h
  rw [h.2, Bool.and_true, show decide (l.length + 1 ≤ 600) = decide ((l.length : Int) + 1 ≤ 600) from decide_eq_decide.2 (by omega)]
theorem set_other {w : World} {g i k : Nat} (v : Value) (h : k ≠ g) : (w.setCell ⟨g, i, none⟩ v).heap[k]? = w.heap[k]? := Below.heap_setCell w ⟨g, i, none⟩ v k h
theorem Below.setNew {B : Nat} {w w' : World} (h : Below B w w') {g i : Nat} (hg : B ≤ g) (v : Value) : Below B w (w'.setCell ⟨g, i, none⟩ v) := h.setCell (p := ⟨g, i, none⟩) hg v
set_option maxHeartbeats 4000000 in
set_option maxRecDepth 100000 in
theorem size_any (k : Nat) (t : Tm) (va vc : Value) (w : World) (ht : RT w k t va vc) (hdep : ∀ y ∈ nodesL 1 t, 0 ≤ y.1 ∧ y.1 ≤ 1000000000000) :
    Calls Tryz.prog 76 #[tV t va vc] w fun e w' => e = .returned (.tuple #[.int .i64 (sizeR t).1, .bool (sizeR t).2]) ∧ Ext w w' := by
  have HT := Lib.hid ht; have HDEP := Lib.hid hdep
  obtain ⟨_, ⟨Aa, ca, rfl, -, -⟩, ⟨Bb, cb, rfl, -, -⟩⟩ := ht.form
  clear ht hdep
  refine callsIn_wide.1 (callsIn_of_wp_marks (n := 0) Tryz.func76 rfl trivial ?_ rfl)
  simp only [Tryz.ntmps76, List.size_toArray, List.length_cons, List.length_nil, Nat.reduceAdd, Nat.reduceSub, Array.replicate_succ, Array.replicate_zero, List.push_toArray, List.append_toArray, List.nil_append, List.cons_append]
  have HX3 := Lib.hid (heapFourth w (.cells #[.int .i64 t.op, .int .i64 t.n, .string t.nm, .int .i64 t.ty, .slice Aa t.args.length ca, .slice Bb t.cls.length cb] 41) (.cells #[.int .i64 0] 3) (.cells #[.bool false] 4) (.cells #[.int .i64 0] 3))
  have HW1 : Hid (Ext w ((((w.alloc (.cells #[.int .i64 t.op, .int .i64 t.n, .string t.nm, .int .i64 t.ty, .slice Aa t.args.length ca, .slice Bb t.cls.length cb] 41)).alloc (.cells #[.int .i64 0] 3)).alloc (.cells #[.bool false] 4)).alloc (.cells #[.int .i64 0] 3))) := (Ext.al3 _ _ _ _).tr (Ext.al _ _)
  gi_wp2
  have hz1 : ((((w.alloc (.cells #[.int .i64 t.op, .int .i64 t.n, .string t.nm, .int .i64 t.ty, .slice Aa t.args.length ca, .slice Bb t.cls.length cb] 41)).alloc (.cells #[.int .i64 0] 3)).alloc (.cells #[.bool false] 4)).alloc (.cells #[.int .i64 0] 3)).heap.size = w.heap.size + 1 + 1 + 1 + 1 := by simp
  have HZ1 := Lib.hid hz1
  clear hz1
  generalize ((w.alloc _).alloc _).alloc _ = w0 at *
  generalize w0.alloc _ = w1 at *
  refine ⟨trivial, rfl, ?_⟩
  (with_reducible refine (callsIn_wide.2 (nodes_any t _ _ _)).mono ?_)
  rintro e w3 ⟨rfl, rfl⟩
  gi_wp2
  have hg3 := heapNew w1 (.cells #[.int .i64 t.op, .int .i64 t.n, .string t.nm, .int .i64 t.ty, .slice Aa t.args.length ca, .slice Bb t.cls.length cb] 41)
  have hE3 := Ext.al w1 (.cells #[.int .i64 t.op, .int .i64 t.n, .string t.nm, .int .i64 t.ty, .slice Aa t.args.length ca, .slice Bb t.cls.length cb] 41)
  have hz1 := HZ1.out
  have hz3 : (w1.alloc (.cells #[.int .i64 t.op, .int .i64 t.n, .string t.nm, .int .i64 t.ty, .slice Aa t.args.length ca, .slice Bb t.cls.length cb] 41)).heap.size = w1.heap.size + 1 := by simp
  generalize w1.alloc _ = w3 at *
  have HE3 := Lib.hid hE3
  have HE1 := Lib.hid (HW1.out.tr hE3)
  have HIT := Lib.hid (nodes_iter (fun j => j = w.heap.size + 1 ∨ j = w.heap.size + 1 + 1 ∨ j = w.heap.size + 1 + 1 + 1) w w3 k t _ _ w1.heap.size HT.out HE1.out (fun j hj => by omega) hg3 HDEP.out)
  clear hg3 hE3
  have HZ3 := Lib.hid hz3
  refine wpIn_wide.2 (wp_range (C := fun j => j = w.heap.size + 1 ∨ j = w.heap.size + 1 + 1 ∨ j = w.heap.size + 1 + 1 + 1) (L := nodesL 1 t) (R := RN) rfl (enters_of Tryz.func127 (by kernel_rfl) rfl) HIT.out
    (fun j hj => by omega) (fun y vs A h => h.size)
    (fun pre W => sizeOK pre = true ∧ Ext w W ∧ W.heap[w.heap.size + 1]? = some (.cells #[.int .i64 0] 3 (0, 0)) ∧ W.heap[w.heap.size + 1 + 1]? = some (.cells #[.bool false] 4 (0, 0)) ∧ W.heap[w.heap.size + 1 + 1 + 1]? = some (.cells #[.int .i64 pre.length] 3 (0, 0)))
    (fun c W => c = .ret ∧ sizeOK (nodesL 1 t) = false ∧ Ext w W ∧ W.heap[w.heap.size + 1]? = some (.cells #[.int .i64 0] 3 (0, 0)) ∧ W.heap[w.heap.size + 1 + 1]? = some (.cells #[.bool false] 4 (0, 0))) ?hI ?hIx ?h0 ?hround ?hdone ?hstop)
  case hI =>
    rintro pre A B ⟨h1, h2, h3, h4, h5⟩ hb
    exact ⟨h1, h2.trans (hb.mono (by omega)), (hb.block _ (by omega)).trans h3, (hb.block _ (by omega)).trans h4, (hb.block _ (by omega)).trans h5⟩
  case hIx =>
    rintro c A B ⟨h0, h1, h2, h3, h4⟩ hb
    exact ⟨h0, h1, h2.trans (hb.mono (by omega)), (hb.block _ (by omega)).trans h3, (hb.block _ (by omega)).trans h4⟩
  case h0 =>
    exact ⟨rfl, HE1.out, (HE3.out.block _ (by omega)).trans HX3.out.2.1, (HE3.out.block _ (by omega)).trans HX3.out.2.2.1, (HE3.out.block _ (by omega)).trans HX3.out.2.2.2⟩
  case hround =>
    rintro l' pre y vs W hl' hpre ⟨i1, i2, i3, i4, i5⟩ ⟨ky, xa, xc, rfl, ht⟩ hsz
    have I1 := Lib.hid i1; have I2 := Lib.hid i2; have I3 := Lib.hid i3; have I4 := Lib.hid i4; have I5 := Lib.hid i5
    have HPR := Lib.hid hpre
    have hplen : pre.length ≤ 600 := by
      unfold sizeOK at i1
      simp only [Bool.and_eq_true, decide_eq_true_eq] at i1
      exact i1.1
    clear i1 i2 i3 i4 i5 ht hpre
    gi_wp2
    refine ⟨Ext.rf _, fun W2 hT => ?_⟩
    have h3 := hT.kept _ _ I3.out (fun r h => by cases h)
    have h4 := hT.kept _ _ I4.out (fun r h => by cases h)
    have h5 := hT.kept _ _ I5.out (fun r h => by cases h)
    have HB4 := Lib.hid (hT.only.below (B := w3.heap.size) (by omega) (fun k h => by rw [h]; exact hl'))
    have HE4 : Hid (Ext w W2) := I2.out.trans (HB4.out.mono (by omega))
    have q3 := cellAt h3 0
    have q4 := cellAt h4 0
    have q5 := cellAt h5 0
    have f3 := frozenAt h3 0
    have f4 := frozenAt h4 0
    have f5 := frozenAt h5 0
    have H3 := Lib.hid h3; have H4 := Lib.hid h4; have H5 := Lib.hid h5
    clear h3 h4 h5 hT
    have HNX := Lib.hid (sizeOK_next (y := y) I1.out)
    clear hz1 hz3
    have HF : Hid (sizeOK (pre ++ [y]) = false → sizeOK (nodesL 1 t) = false) := fun h => by
      cases hs : sizeOK (nodesL 1 t)
      · rfl
      · rw [sizeOK_pre HPR.out hs] at h; cases h
    gi_wp2
    · have q : 600 < (pre.length : Int) + 1 ∨ 24 < y.1 := by assumption
      refine ⟨((Only.setCell (p := ⟨_, 0, none⟩) (.inr (.inr rfl)) _ _).tr (Only.setCell (p := ⟨_, 0, none⟩) (.inl rfl) _ _)).tr (Only.setCell (p := ⟨_, 0, none⟩) (.inr (.inl rfl)) _ _), rfl, HF.out ?_, Below.setNew (Below.setNew (Below.setNew HE4.out (by omega) _) (by omega) _) (by omega) _, ?_, ?_⟩
      · rw [HNX.out]; simp; omega
      · exact (set_other _ (by omega)).trans (box_set ((set_other _ (by omega)).trans H3.out) _)
      · exact box_set ((set_other _ (by omega)).trans ((set_other _ (by omega)).trans H4.out)) _
    · have q : (pre.length : Int) + 1 ≤ 600 ∧ y.1 ≤ 24 := by assumption
      refine ⟨Only.setCell (p := ⟨_, 0, none⟩) (.inr (.inr rfl)) _ _, ?_, Below.setNew HE4.out (by omega) _, (set_other _ (by omega)).trans H3.out, (set_other _ (by omega)).trans H4.out, ?_⟩
      · rw [HNX.out]; simp; omega
      · rw [List.length_append]
        exact box_set H5.out _
    · have q : 600 < (pre.length : Int) + 1 := by assumption
      refine ⟨((Only.setCell (p := ⟨_, 0, none⟩) (.inr (.inr rfl)) _ _).tr (Only.setCell (p := ⟨_, 0, none⟩) (.inl rfl) _ _)).tr (Only.setCell (p := ⟨_, 0, none⟩) (.inr (.inl rfl)) _ _), rfl, HF.out ?_, Below.setNew (Below.setNew (Below.setNew HE4.out (by omega) _) (by omega) _) (by omega) _, ?_, ?_⟩
      · rw [HNX.out]; simp; omega
      · exact (set_other _ (by omega)).trans (box_set ((set_other _ (by omega)).trans H3.out) _)
      · exact box_set ((set_other _ (by omega)).trans ((set_other _ (by omega)).trans H4.out)) _
  case hdone =>
    rintro W ⟨h1, h2, h3, h4, h5⟩ hK
    have q3 := cellAt h3 0
    have q4 := cellAt h4 0
    have q5 := cellAt h5 0
    have f3 := frozenAt h3 0
    have f4 := frozenAt h4 0
    have H1 := Lib.hid h1; have H2 := Lib.hid h2; have H3 := Lib.hid h3; have H4 := Lib.hid h4; have HK := Lib.hid hK
    clear h1 h2 h3 h4 h5 hK hz1 hz3
    gi_wp2
    have hz1 := HZ1.out
    have hz3 := HZ3.out
    have k3 := (set_other (i := 0) (.bool true) (show w.heap.size + 1 ≠ w.heap.size + 1 + 1 by omega)).trans (box_set H3.out (.int .i64 (nodesL 1 t).length))
    have k4 := box_set ((set_other (w := W) (i := 0) (.int .i64 (nodesL 1 t).length) (show w.heap.size + 1 + 1 ≠ w.heap.size + 1 by omega)).trans H4.out) (.bool true)
    have kD := (set_other (i := 0) (.bool true) (show w3.heap.size ≠ w.heap.size + 1 + 1 by omega)).trans ((set_other (w := W) (i := 0) (.int .i64 (nodesL 1 t).length) (show w3.heap.size ≠ w.heap.size + 1 by omega)).trans HK.out)
    have s3 := put_cell k3 (show w.heap.size + 1 ≠ w3.heap.size by omega) (.deferred none)
    have s4 := put_cell k4 (show w.heap.size + 1 + 1 ≠ w3.heap.size by omega) (.deferred none)
    clear k3 k4
    refine ⟨by simp, .inl ⟨_, _, rfl, run_takeDeferred kD, ?_⟩⟩
    refine ⟨.tuple #[.int .i64 (nodesL 1 t).length, .bool true], by simp [results, go_sem, s3, s4], ?_, Below.putNew (Below.setNew (Below.setNew H2.out (by omega) _) (by omega) _) (by omega) _⟩
    unfold sizeR
    rw [H1.out]; rfl
  case hstop =>
    rintro c W ⟨rfl, h1, h2, h3, h4⟩ hK
    have s3 := cellAt (l := #[.int .i64 0]) ((World.putObj_heap_other (o := .deferred none) (show w.heap.size + 1 ≠ w3.heap.size by omega)).trans h3) 0
    have s4 := cellAt (l := #[.bool false]) ((World.putObj_heap_other (o := .deferred none) (show w.heap.size + 1 + 1 ≠ w3.heap.size by omega)).trans h4) 0
    have H1 := Lib.hid h1; have H2 := Lib.hid h2; have HK := Lib.hid hK
    clear h1 h2 h3 h4 hK hz1 hz3
    refine (wpIn_wide (n := 0)).1 ?_
    gi_wp2
    refine ⟨by simp, .inl ⟨_, _, rfl, run_takeDeferred HK.out, ?_⟩⟩
    refine ⟨.tuple #[.int .i64 0, .bool false], by simp [results, go_sem, s3, s4], ?_, Below.putNew H2.out (by have := HZ1.out; have := HZ3.out; omega) _⟩
    unfold sizeR
    rw [H1.out]; rfl
end Go.Proofs.YtogmjgccopmplaaGreat

/- Scopes as a whole. -/
namespace Go.Proofs.YtogmjgccopmplaaGreat
open Go.RowKit
/-- A scope: what it has of variables and of labels. -/
def RSc (w : World) (v : Value) (m : Nat) (V L : Scp) : Prop :=
  ∃ a b c d f1 f2 f3 f4, v = sV a b c d ∧ SetV w a m f1 ∧ SetV w b m f2 ∧ SetV w c m f3 ∧ SetV w d m f4 ∧ V = (fun k => f1 k || f3 k) ∧ L = (fun k => f2 k || f4 k)
theorem RSc.ext {w w' : World} {v : Value} {m : Nat} {V L : Scp} (h : RSc w v m V L) (hb : Ext w w') : RSc w' v m V L := by
  obtain ⟨a, b, c, d, f1, f2, f3, f4, e, h1, h2, h3, h4, h5⟩ := h
  exact ⟨a, b, c, d, f1, f2, f3, f4, e, h1.ext hb, h2.ext hb, h3.ext hb, h4.ext hb, h5⟩
theorem RSc.mono {w : World} {v : Value} {m n : Nat} {V L : Scp} (h : RSc w v m V L) (hb : m ≤ n) : RSc w v n V L := by
  obtain ⟨a, b, c, d, f1, f2, f3, f4, e, h1, h2, h3, h4, h5⟩ := h
  exact ⟨a, b, c, d, f1, f2, f3, f4, e, h1.mono hb, h2.mono hb, h3.mono hb, h4.mono hb, h5⟩
theorem SetV.nil (w : World) (n : Nat) : SetV w (.map none) n (fun _ => false) := .inl ⟨rfl, rfl⟩
theorem box4_set {w : World} {r T : Nat} {a b c d : Value} (h : w.heap[r]? = some (.cells #[a, b, c, d] T (0, 0))) (a' b' c' d' : Value) :
    ((((w.setCell ⟨r, 0, none⟩ a').setCell ⟨r, 1, none⟩ b').setCell ⟨r, 2, none⟩ c').setCell ⟨r, 3, none⟩ d').heap[r]? = some (.cells #[a', b', c', d'] T (0, 0)) := by
  simp [World.setCell, Array.getElem?_modify, h]
theorem set4_other {w : World} {r j : Nat} (h : j ≠ r) (a' b' c' d' : Value) :
    ((((w.setCell ⟨r, 0, none⟩ a').setCell ⟨r, 1, none⟩ b').setCell ⟨r, 2, none⟩ c').setCell ⟨r, 3, none⟩ d').heap[j]? = w.heap[j]? :=
  (set_other _ h).trans ((set_other _ h).trans ((set_other _ h).trans (set_other _ h)))
set_option maxHeartbeats 1000000 in
set_option maxRecDepth 100000 in
theorem newScope_any (v1 v2 : Value) (l1 l2 : List Str) (w : World) (h1 : RStrs w v1 l1) (h2 : RStrs w v2 l2) :
    Calls Tryz.prog 78 #[v1, v2] w fun e w' => (∃ v, e = .returned v ∧ RSc w' v (l1.length + l2.length) (hasS l1) (hasS l2)) ∧ Ext w w' := by
  have H1 := Lib.hid h1; have H2 := Lib.hid h2
  clear h1 h2
  have HE := Lib.hid (Ext.al w (.cells #[.map none, .map none, .map none, .map none] 126))
  have hr := heapNew w (.cells #[.map none, .map none, .map none, .map none] 126)
  go_enter Tryz.func78, Tryz.ntmps78
  go_wp2_with fail
  generalize w.alloc _ = w1 at *
  have HR := Lib.hid hr
  clear hr
  (with_reducible refine (newNameSet_any v1 l1 _ (H1.out.below HE.out)).mono ?_)
  rintro e w2 ⟨rfl, hs, hb⟩
  have HS := Lib.hid hs; have HB := Lib.hid hb
  clear hs hb
  go_wp2_with fail
  (with_reducible refine (newNameSet_any v2 l2 _ (H2.out.below (HE.out.tr HB.out))).mono ?_)
  rintro e w3 ⟨rfl, hs, hb⟩
  have HS3 := Lib.hid hs; have HB3 := Lib.hid hb
  clear hs hb
  have hr3 := ((HB.out.tr HB3.out).block _ (heap_lt HR.out)).trans HR.out
  have c0 := cellAt hr3 0
  have c1 := cellAt hr3 1
  have c2 := cellAt hr3 2
  have c3 := cellAt hr3 3
  have f0 := frozenAt hr3 0
  have f1 := frozenAt hr3 1
  have f2 := frozenAt hr3 2
  have f3 := frozenAt hr3 3
  have HR3 := Lib.hid hr3
  have hl1 := HS.out.lt
  have hl3 := HS3.out.lt
  have hz1 := heap_lt HR.out
  have hz2 := HB.out.size
  clear hr3
  go_wp2
  have hk := box4_set HR3.out (.map (some w1.heap.size)) (.map (some w2.heap.size)) (.map none) (.map none)
  have HO : Hid (∀ j, j ≠ w.heap.size → ((((w3.setCell ⟨w.heap.size, 0, none⟩ (.map (some w1.heap.size))).setCell ⟨w.heap.size, 1, none⟩ (.map (some w2.heap.size))).setCell ⟨w.heap.size, 2, none⟩ (.map none)).setCell ⟨w.heap.size, 3, none⟩ (.map none)).heap[j]? = w3.heap[j]?) := fun j h => set4_other h _ _ _ _
  have HX : Hid (Ext w ((((w3.setCell ⟨w.heap.size, 0, none⟩ (.map (some w1.heap.size))).setCell ⟨w.heap.size, 1, none⟩ (.map (some w2.heap.size))).setCell ⟨w.heap.size, 2, none⟩ (.map none)).setCell ⟨w.heap.size, 3, none⟩ (.map none))) :=
    Below.setNew (Below.setNew (Below.setNew (Below.setNew (HE.out.tr (HB.out.tr HB3.out)) (Nat.le_refl _) _) (Nat.le_refl _) _) (Nat.le_refl _) _) (Nat.le_refl _) _
  clear c0 c1 c2 c3 f0 f1 f2 f3
  generalize ((((w3.setCell _ _).setCell _ _).setCell _ _).setCell _ _) = w4 at *
  have c0 := cellAt hk 0
  have c1 := cellAt hk 1
  have c2 := cellAt hk 2
  have c3 := cellAt hk 3
  refine bodyPost_ret (v := sV (.map (some w1.heap.size)) (.map (some w2.heap.size)) (.map none) (.map none)) (by simp [results, go_sem, c0, c1, c2, c3]) rfl ?_
  refine ⟨⟨_, rfl, _, _, _, _, _, _, _, _, rfl, .inr ⟨_, rfl, (((HS.out.ext HB3.out).block (HO.out _ (by omega)))).mono (by omega)⟩, .inr ⟨_, rfl, (HS3.out.block (HO.out _ (by omega))).mono (by omega)⟩, SetV.nil _ _, SetV.nil _ _, ?_, ?_⟩, HX.out⟩
  · funext k; simp
  · funext k; simp
theorem SetV.walks {w w' : World} {v : Value} {n : Nat} {f : Str → Bool} (h : SetV w v n f) (hk : KeepsWalks w w') : SetV w' v n f := by
  rcases h with h | ⟨b, e, h⟩
  · exact .inl h
  · obtain ⟨es, clock, he⟩ := h.is
    exact .inr ⟨b, e, h.block ((hk.same b _ he rfl).trans he.symm)⟩
theorem keeps5 (w : World) (p1 p2 p3 p4 p5 : Addr) (v1 v2 v3 v4 v5 : Value) : KeepsWalks w (((((w.setCell p1 v1).setCell p2 v2).setCell p3 v3).setCell p4 v4).setCell p5 v5) :=
  ((((KeepsWalks.setCell _ _ _).trans (KeepsWalks.setCell _ _ _)).trans (KeepsWalks.setCell _ _ _)).trans (KeepsWalks.setCell _ _ _)).trans (KeepsWalks.setCell _ _ _)
theorem addV_nil (V : Scp) (b : Bool) : addV V ([], b) = V := by
  unfold addV
  cases b
  · funext k; simp [hasS]
  · rfl
theorem addL_nil (V : Scp) (b : Bool) : addL V ([], b) = V := by
  unfold addL
  cases b
  · rfl
  · funext k; simp [hasS]
set_option maxHeartbeats 2000000 in
set_option maxRecDepth 100000 in
theorem inside_any (v vn : Value) (m : Nat) (V L : Scp) (ns : List Str) (lab : Bool) (w : World) (h : RSc w v m V L) (hn : RStrs w vn ns) (hroom : ns.length + m ≤ maxLen) :
    Calls Tryz.prog 108 #[v, bV vn lab] w fun e w' => (∃ v, e = .returned v ∧ RSc w' v (ns.length + m) (addV V (ns, lab)) (addL L (ns, lab))) ∧ Ext w w' := by
  obtain ⟨a, b, c, d, f1, f2, f3, f4, rfl, h1, h2, h3, h4, rfl, rfl⟩ := h
  have H1 := Lib.hid h1; have H2 := Lib.hid h2; have H3 := Lib.hid h3; have H4 := Lib.hid h4; have HN := Lib.hid hn; have HM := Lib.hid hroom
  obtain ⟨pa, rfl⟩ := h1.form
  obtain ⟨pb, rfl⟩ := h2.form
  obtain ⟨pc, rfl⟩ := h3.form
  obtain ⟨pd, rfl⟩ := h4.form
  obtain ⟨An, cn, rfl, hcn, hmn⟩ := hn.form
  clear h1 h2 h3 h4 hn hroom
  unfold maxLen at hmn
  have HE : Hid (Ext w (((w.alloc (.cells #[.map pa, .map pb, .map pc, .map pd] 126)).alloc (.cells #[.slice An ns.length cn, .bool lab] 168)).alloc (.cells #[.map none, .map none, .map none, .map none] 126))) := Ext.al3 _ _ _ _
  have hA := heapNew w (.cells #[.map pa, .map pb, .map pc, .map pd] 126)
  have hB := heapNew (w.alloc (.cells #[.map pa, .map pb, .map pc, .map pd] 126)) (.cells #[.slice An ns.length cn, .bool lab] 168)
  have hA3 := ((Ext.al2 _ (.cells #[.slice An ns.length cn, .bool lab] 168) (.cells #[.map none, .map none, .map none, .map none] 126)).block _ (heap_lt hA)).trans hA
  have hB3 := ((Ext.al _ (.cells #[.map none, .map none, .map none, .map none] 126)).block _ (heap_lt hB)).trans hB
  have hC3 := heapThird w (.cells #[.map pa, .map pb, .map pc, .map pd] 126) (.cells #[.slice An ns.length cn, .bool lab] 168) (.cells #[.map none, .map none, .map none, .map none] 126)
  rw [World.size_alloc] at hB3
  have HA3 := Lib.hid hA3; have HB3 := Lib.hid hB3; have HC3 := Lib.hid hC3
  clear hA hB hA3 hB3 hC3
  by_cases h0 : ns.length = 0
  · have hns := List.eq_nil_of_length_eq_zero h0
    subst hns
    rw [addV_nil, addL_nil]
    go_enter Tryz.func108, Tryz.ntmps108
    go_wp2
    refine bodyPost_ret (v := sV (.map pa) (.map pb) (.map pc) (.map pd)) (by simp [results, go_sem]) rfl ⟨⟨_, rfl, ?_⟩, Ext.al3 _ _ _ _⟩
    exact RSc.mono (RSc.ext ⟨_, _, _, _, _, _, _, _, rfl, H1.out, H2.out, H3.out, H4.out, rfl, rfl⟩ (Ext.al3 _ _ _ _)) (by simp)
  · have h0' : ¬ (ns.length : Int) = 0 := by omega
    clear h0
    cases lab
    · go_enter Tryz.func108, Tryz.ntmps108
      go_wp2_with fail
      generalize ((w.alloc _).alloc _).alloc _ = w1 at *
      (with_reducible refine (with_any pc m f3 _ ns _ (HN.out.below HE.out) (H3.out.ext HE.out) HM.out).mono ?_)
      rintro e w2 ⟨⟨bm, rfl, hs⟩, hb⟩
      have HS := Lib.hid hs; have HB := Lib.hid hb
      have hA := (hb.block _ (heap_lt HA3.out)).trans HA3.out
      have hB := (hb.block _ (heap_lt HB3.out)).trans HB3.out
      have hC := (hb.block _ (heap_lt HC3.out)).trans HC3.out
      have a0 := cellAt hA 0
      have a1 := cellAt hA 1
      have a2 := cellAt hA 2
      have a3 := cellAt hA 3
      have f2' := frozenAt hA 2
      have c0 := cellAt hC 0
      have c1 := cellAt hC 1
      have c2 := cellAt hC 2
      have c3 := cellAt hC 3
      have g0 := frozenAt hC 0
      have g1 := frozenAt hC 1
      have g2 := frozenAt hC 2
      have g3 := frozenAt hC 3
      have HA := Lib.hid hA; have HC := Lib.hid hC
      clear hs hb hA hB hC
      go_wp2
      have hk := box4_set ((set_other (w := w2) (i := 2) (.map (some bm)) (show w.heap.size + 1 + 1 ≠ w.heap.size by omega)).trans HC.out) (.map pa) (.map pb) (.map (some bm)) (.map pd)
      have HKW := Lib.hid (keeps5 w2 ⟨w.heap.size, 2, none⟩ ⟨w.heap.size + 1 + 1, 0, none⟩ ⟨w.heap.size + 1 + 1, 1, none⟩ ⟨w.heap.size + 1 + 1, 2, none⟩ ⟨w.heap.size + 1 + 1, 3, none⟩ (.map (some bm)) (.map pa) (.map pb) (.map (some bm)) (.map pd))
      have HX := Lib.hid (Below.setNew (Below.setNew (Below.setNew (Below.setNew (Below.setNew (HE.out.tr HB.out) (show w.heap.size ≤ w.heap.size from Nat.le_refl _) (i := 2) (.map (some bm))) (show w.heap.size ≤ w.heap.size + 1 + 1 by omega) (i := 0) (.map pa)) (show w.heap.size ≤ w.heap.size + 1 + 1 by omega) (i := 1) (.map pb)) (show w.heap.size ≤ w.heap.size + 1 + 1 by omega) (i := 2) (.map (some bm))) (show w.heap.size ≤ w.heap.size + 1 + 1 by omega) (i := 3) (.map pd))
      clear a0 a1 a2 a3 f2' c0 c1 c2 c3 g0 g1 g2 g3
      generalize (((((w2.setCell _ _).setCell _ _).setCell _ _).setCell _ _).setCell _ _) = w4 at *
      have c0 := cellAt hk 0
      have c1 := cellAt hk 1
      have c2 := cellAt hk 2
      have c3 := cellAt hk 3
      refine bodyPost_ret (v := sV (.map pa) (.map pb) (.map (some bm)) (.map pd)) (by simp [results, go_sem, c0, c1, c2, c3]) rfl ⟨⟨_, rfl, .map pa, .map pb, .map (some bm), .map pd, f1, f2, (fun k => hasS ns k || f3 k), f4, rfl, ?_, ?_, ?_, ?_, ?_, ?_⟩, HX.out⟩
      · exact ((H1.out.ext (HE.out.tr HB.out)).walks HKW.out).mono (by omega)
      · exact ((H2.out.ext (HE.out.tr HB.out)).walks HKW.out).mono (by omega)
      · exact SetV.walks (.inr ⟨bm, rfl, HS.out⟩) HKW.out
      · exact ((H4.out.ext (HE.out.tr HB.out)).walks HKW.out).mono (by omega)
      · funext k
        show (hasS ns k || (f1 k || f3 k)) = (f1 k || (hasS ns k || f3 k))
        cases hasS ns k <;> cases f1 k <;> rfl
      · rfl
    · go_enter Tryz.func108, Tryz.ntmps108
      go_wp2_with fail
      generalize ((w.alloc _).alloc _).alloc _ = w1 at *
      (with_reducible refine (with_any pd m f4 _ ns _ (HN.out.below HE.out) (H4.out.ext HE.out) HM.out).mono ?_)
      rintro e w2 ⟨⟨bm, rfl, hs⟩, hb⟩
      have HS := Lib.hid hs; have HB := Lib.hid hb
      have hA := (hb.block _ (heap_lt HA3.out)).trans HA3.out
      have hB := (hb.block _ (heap_lt HB3.out)).trans HB3.out
      have hC := (hb.block _ (heap_lt HC3.out)).trans HC3.out
      have a0 := cellAt hA 0
      have a1 := cellAt hA 1
      have a2 := cellAt hA 2
      have a3 := cellAt hA 3
      have f2' := frozenAt hA 3
      have c0 := cellAt hC 0
      have c1 := cellAt hC 1
      have c2 := cellAt hC 2
      have c3 := cellAt hC 3
      have g0 := frozenAt hC 0
      have g1 := frozenAt hC 1
      have g2 := frozenAt hC 2
      have g3 := frozenAt hC 3
      have HA := Lib.hid hA; have HC := Lib.hid hC
      clear hs hb hA hB hC
      go_wp2
      have hk := box4_set ((set_other (w := w2) (i := 3) (.map (some bm)) (show w.heap.size + 1 + 1 ≠ w.heap.size by omega)).trans HC.out) (.map pa) (.map pb) (.map pc) (.map (some bm))
      have HKW := Lib.hid (keeps5 w2 ⟨w.heap.size, 3, none⟩ ⟨w.heap.size + 1 + 1, 0, none⟩ ⟨w.heap.size + 1 + 1, 1, none⟩ ⟨w.heap.size + 1 + 1, 2, none⟩ ⟨w.heap.size + 1 + 1, 3, none⟩ (.map (some bm)) (.map pa) (.map pb) (.map pc) (.map (some bm)))
      have HX := Lib.hid (Below.setNew (Below.setNew (Below.setNew (Below.setNew (Below.setNew (HE.out.tr HB.out) (show w.heap.size ≤ w.heap.size from Nat.le_refl _) (i := 3) (.map (some bm))) (show w.heap.size ≤ w.heap.size + 1 + 1 by omega) (i := 0) (.map pa)) (show w.heap.size ≤ w.heap.size + 1 + 1 by omega) (i := 1) (.map pb)) (show w.heap.size ≤ w.heap.size + 1 + 1 by omega) (i := 2) (.map pc)) (show w.heap.size ≤ w.heap.size + 1 + 1 by omega) (i := 3) (.map (some bm)))
      clear a0 a1 a2 a3 f2' c0 c1 c2 c3 g0 g1 g2 g3
      generalize (((((w2.setCell _ _).setCell _ _).setCell _ _).setCell _ _).setCell _ _) = w4 at *
      have c0 := cellAt hk 0
      have c1 := cellAt hk 1
      have c2 := cellAt hk 2
      have c3 := cellAt hk 3
      refine bodyPost_ret (v := sV (.map pa) (.map pb) (.map pc) (.map (some bm))) (by simp [results, go_sem, c0, c1, c2, c3]) rfl ⟨⟨_, rfl, .map pa, .map pb, .map pc, .map (some bm), f1, f2, f3, (fun k => hasS ns k || f4 k), rfl, ?_, ?_, ?_, ?_, ?_, ?_⟩, HX.out⟩
      · exact ((H1.out.ext (HE.out.tr HB.out)).walks HKW.out).mono (by omega)
      · exact ((H2.out.ext (HE.out.tr HB.out)).walks HKW.out).mono (by omega)
      · exact ((H3.out.ext (HE.out.tr HB.out)).walks HKW.out).mono (by omega)
      · exact SetV.walks (.inr ⟨bm, rfl, HS.out⟩) HKW.out
      · rfl
      · funext k
        show (hasS ns k || (f2 k || f4 k)) = (f2 k || (hasS ns k || f4 k))
        cases hasS ns k <;> cases f2 k <;> rfl
end Go.Proofs.YtogmjgccopmplaaGreat
