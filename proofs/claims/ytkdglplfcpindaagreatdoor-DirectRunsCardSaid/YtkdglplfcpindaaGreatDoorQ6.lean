import Derived.Test.YtkdglplfcpindaaGreatDoorQ5
set_option maxRecDepth 100000
namespace Go.Proofs.YtkdglplfcpindaaGreatDoor
open Go.RowKit Go.Shelf
attribute [local go_sem] Oper.semAt_some
theorem Only.setNew {C : Nat -> Prop} {w w2 : World} (h : Only C w w2) {r : Nat} (hr : w.heap.size <= r) (i : Nat) (v : Value) : Only C w (w2.setCell ⟨r, i, none⟩ v) :=
  ⟨h.os, h.tape, h.output, by simp [World.setCell]; exact h.size, fun k hk hn => (Below.heap_setCell w2 ⟨r, i, none⟩ v k (by show k ≠ r; omega)).trans (h.block k hk hn)⟩
theorem Only.putNew {C : Nat -> Prop} {w w2 : World} (h : Only C w w2) {r : Nat} (hr : w.heap.size <= r) (o : Obj) : Only C w (w2.putObj r o) :=
  ⟨h.os, h.tape, h.output, by simp; exact h.size, fun k hk hn => (World.putObj_heap_other (by omega)).trans (h.block k hk hn)⟩
theorem Below.putNew {B : Nat} {w w2 : World} (h : Below B w w2) {r : Nat} (hr : B <= r) (o : Obj) : Below B w (w2.putObj r o) :=
  ⟨h.os, h.tape, h.output, by simp; exact h.size, fun k hk => (World.putObj_heap_other (by omega)).trans (h.block k hk)⟩
theorem Only.belowNew {C : Nat -> Prop} {w A B : World} (h : Only C w A) {s : Nat} (hb : Below s A B) (hs : w.heap.size <= s) : Only C w B :=
  ⟨hb.os.trans h.os, hb.tape.trans h.tape, hb.output.trans h.output, Nat.le_trans h.size hb.size, fun k hk hn => (hb.block k (by omega)).trans (h.block k hk hn)⟩
theorem put_cell {w : World} {r D T : Nat} {u : Value} (h : w.heap[r]? = some (.cells #[u] T (0, 0))) (hne : r ≠ D) (o : Obj) : (w.putObj D o).cell? ⟨r, 0, none⟩ = some u :=
  cA (l := #[u]) ((World.putObj_heap_other hne).trans h) 0
theorem box_set {w : World} {r T : Nat} {u : Value} (h : w.heap[r]? = some (.cells #[u] T (0, 0))) (v : Value) : (w.setCell ⟨r, 0, none⟩ v).heap[r]? = some (.cells #[v] T (0, 0)) := by
  simp [World.setCell, Array.getElem?_modify, h]
def RN (y : Int × Tm) (vs : Array Value) (A : World) : Prop := ∃ k xa xc, vs = #[.int .i64 y.1, tV y.2 xa xc] /\ RT A k y.2 xa xc
theorem RN.size {y : Int × Tm} {vs : Array Value} {A : World} (h : RN y vs A) : vs.size = 2 := by
  obtain ⟨k, xa, xc, rfl, _⟩ := h; rfl
theorem heapFourth (w : World) (a b c d : Obj) : ((((w.alloc a).alloc b).alloc c).alloc d).heap[w.heap.size]? = some a /\ ((((w.alloc a).alloc b).alloc c).alloc d).heap[w.heap.size + 1]? = some b ∧
    ((((w.alloc a).alloc b).alloc c).alloc d).heap[w.heap.size + 1 + 1]? = some c /\ ((((w.alloc a).alloc b).alloc c).alloc d).heap[w.heap.size + 1 + 1 + 1]? = some d := by
  have h1 := hNw w a
  have h2 := hNw (w.alloc a) b
  have h3 := hNw ((w.alloc a).alloc b) c
  have h4 := hNw (((w.alloc a).alloc b).alloc c) d
  simp only [World.size_alloc] at h2 h3 h4
  exact ⟨((Ext.al3 _ _ _ _).block _ (by simp)).trans h1, ((Ext.al2 _ _ _).block _ (by simp)).trans h2, ((Ext.al _ _).block _ (by simp)).trans h3, h4⟩
theorem nodesK_pre {d : Int} {l m : List (Bnd × Tm)} (h : l <+: m) : nodesK d l <+: nodesK d m := by
  obtain ⟨r, rfl⟩ := h
  rw [nodesK_append]
  exact List.prefix_append _ _
theorem nodesK_snoc (d : Int) (l : List (Bnd × Tm)) (y : Bnd × Tm) : nodesK d (l ++ [y]) = nodesK d l ++ nodesL d y.2 := by
  rw [nodesK_append]; simp [nodesK]
theorem cells6 {W : World} {T : TypeId} {a b c d e f : Value} {g : Nat} (h : W.heap[g]? = some (.cells #[a, b, c, d, e, f] T (0, 0))) : W.cell? ⟨g, 0, none⟩ = some a /\ W.cell? ⟨g, 1, none⟩ = some b /\ W.cell? ⟨g, 2, none⟩ = some c /\ W.cell? ⟨g, 3, none⟩ = some d /\ W.cell? ⟨g, 4, none⟩ = some e /\ W.cell? ⟨g, 5, none⟩ = some f :=
  ⟨cA h 0, cA h 1, cA h 2, cA h 3, cA h 4, cA h 5⟩
set_option maxHeartbeats 4000000 in
theorem walk_any (wA : World) (l base : Nat) (C : Nat -> Prop) (L : List (Int × Tm)) (J : List (Int × Tm) -> World -> Prop) (Jx : World -> Prop) (hC : ∀ j, C j -> wA.heap.size <= j /\ j < base)
    (hJ : ∀ pre A B, J pre A -> Below base A B -> J pre B) (hJx : ∀ A B, Jx A -> Below base A B -> Jx B)
    (hY : ∀ pre y vs A, pre ++ [y] <+: L -> J pre A -> RN y vs A -> base <= A.heap.size -> YieldW Tryz.prog l vs A (YesNo (fun B => J (pre ++ [y]) B /\ Only C A B) (fun B => Jx B /\ Only C A B))) :
    ∀ (k : Nat) (t : Tm) (va vc : Value) (d : Int) (pre : List (Int × Tm)) (w : World), RT wA k t va vc -> Below wA.heap.size wA w -> base <= w.heap.size -> pre ++ nodesL d t <+: L -> J pre w -> (∀ y ∈ nodesL d t, 0 <= y.1 /\ y.1 <= 1000000000000) →
      Calls Tryz.prog 148 #[tV t va vc, .int .i64 d, .func (.yield l) #[] #[]] w (YesNo (fun B => J (pre ++ nodesL d t) B /\ Only C w B) (fun B => Jx B /\ Only C w B)) := by
  intro k
  induction k with
  | zero => intro t va vc d pre w ht; exact ht.elim
  | succ k ih =>
    intro t va vc d pre w ht hb hbase hpre h0 hdep
    have HT := LH ht; have HB := LH hb; have HPRE := LH hpre; have H0 := LH h0; have HY := LH hY; have HJ := LH hJ; have HJx := LH hJx; have HC := LH hC; have HIH := LH ih
    obtain ⟨_, ⟨Aa, ca, rfl, -, -⟩, ⟨Bb, cb, rfl, -, -⟩⟩ := ht.form
    clear ht hb hpre h0 hY hJ hJx hC ih
    have HW1 : Hid (Ext w ((((w.alloc (.cells #[.int .i64 t.op, .int .i64 t.n, .string t.nm, .int .i64 t.ty, .slice Aa t.args.length ca, .slice Bb t.cls.length cb] 50)).alloc (.cells #[.int .i64 d] 3)).alloc (.cells #[.func (.yield l) #[] #[]] 244)).alloc (.cells #[.bool false] 4))) := (Ext.al3 _ _ _ _).tr (Ext.al _ _)
    obtain ⟨fn, tmps, assign, body, hy, hR⟩ := HY.out pre (d, t) _ _ (by
      refine List.IsPrefix.trans ?_ HPRE.out
      rw [nodesL_kids]
      exact (List.prefix_append_right_inj _).2 (List.cons_prefix_cons.2 ⟨rfl, List.nil_prefix⟩)) (HJ.out _ _ _ H0.out (HW1.out.mono hbase)) ⟨k + 1, _, _, rfl, HT.out.below (HB.out.trans (HW1.out.mono HB.out.size))⟩ (by simp; omega)
    refine callsIn_wide.1 (callsIn_of_wp_marks (n := 0) Tryz.func148 rfl trivial ?_ rfl)
    simp only [Tryz.ntmps148, List.size_toArray, List.length_cons, List.length_nil, Nat.reduceAdd, Nat.reduceSub, Array.replicate_succ, Array.replicate_zero, List.push_toArray, List.append_toArray, List.nil_append, List.cons_append]
    have HX3 := LH (heapFourth w (.cells #[.int .i64 t.op, .int .i64 t.n, .string t.nm, .int .i64 t.ty, .slice Aa t.args.length ca, .slice Bb t.cls.length cb] 50) (.cells #[.int .i64 d] 3) (.cells #[.func (.yield l) #[] #[]] 244) (.cells #[.bool false] 4))
    gi_wp2
    generalize ((w.alloc _).alloc _).alloc _ = w0 at *
    generalize w0.alloc _ = w1 at *
    clear hy
    refine ⟨rfl, ?_⟩
    refine (hR _).mono ?_
    rintro e w2 ⟨q, rfl, hq⟩
    clear hR
    cases q
    . obtain ⟨hj2, ho2⟩ := hq.out.2 rfl
      clear hq
      have HJ2 := LH hj2
      have HO2 := LH ho2
      clear hj2 ho2
      have hr : w2.heap[w.heap.size + 1 + 1 + 1]? = some (.cells #[.bool false] 4 (0, 0)) := (HO2.out.block _ (hLt HX3.out.2.2.2) (fun h => by have := (HC.out _ h).2; omega)).trans HX3.out.2.2.2
      have r0 := cA hr 0
      have r1 := fA hr 0
      have HR2 := LH hr
      clear hr
      have s0 := cA (box_set HR2.out (.bool false)) 0
      gi_wp2
      refine ⟨.bool false, by simp [results, go_sem, s0], false, rfl, fun h => (by cases h), fun _ => ⟨HJx.out _ _ HJ2.out ((Below.refl _ _).setCell (p := ⟨w.heap.size + 1 + 1 + 1, 0, none⟩) (by show base <= w.heap.size + 1 + 1 + 1; omega) _), ?_⟩⟩
      exact Only.setNew ((Only.of_ext HW1.out).tr HO2.out) (by omega) 0 _
    . obtain ⟨hj2, ho2⟩ := hq.out.1 rfl
      clear hq
      have HJ2 := LH hj2
      have HO2 := LH ho2
      clear hj2 ho2
      have hkeep : ∀ j o, w1.heap[j]? = some o -> base <= j -> w2.heap[j]? = some o := fun j o h hj => (HO2.out.block _ (hLt h) (fun h => by have := (HC.out _ h).2; omega)).trans h
      have b0 := hkeep _ _ HX3.out.1 (by omega)
      have b1 := hkeep _ _ HX3.out.2.1 (by omega)
      have b2 := hkeep _ _ HX3.out.2.2.1 (by omega)
      have b3 := hkeep _ _ HX3.out.2.2.2 (by omega)
      clear hkeep
      have t0 := cA b0 0
      have t1 := cA b0 1
      have t2 := cA b0 2
      have t3 := cA b0 3
      have t4 := cA b0 4
      have t5 := cA b0 5
      have B1 := LH b1; have B2 := LH b2; have B3 := LH b3
      have hlt := hLt b3
      clear b0 b1 b2 b3
      gi_wp2_with (refine ⟨trivial, rfl, ?_⟩; gi_at_call 133; refine (callsIn_wide.2 (parts_any t _ _ _)).mono ?_; rintro e w3 ⟨rfl, rfl⟩)
      have HN := LH (nodesL_kids d t)
      have hd1 : 0 <= d /\ d <= 1000000000000 := hdep (d, t) (by rw [HN.out]; exact List.mem_cons_self ..)
      obtain ⟨hd1, hd2⟩ := hd1
      have HDEP := LH hdep
      clear hdep
      have hg3 := hNw w2 (.cells #[.int .i64 t.op, .int .i64 t.n, .string t.nm, .int .i64 t.ty, .slice Aa t.args.length ca, .slice Bb t.cls.length cb] 50)
      have hE3 := Ext.al w2 (.cells #[.int .i64 t.op, .int .i64 t.n, .string t.nm, .int .i64 t.ty, .slice Aa t.args.length ca, .slice Bb t.cls.length cb] 50)
      have hz3 : w2.heap.size < (w2.alloc (.cells #[.int .i64 t.op, .int .i64 t.n, .string t.nm, .int .i64 t.ty, .slice Aa t.args.length ca, .slice Bb t.cls.length cb] 50)).heap.size := by simp
      generalize w2.alloc _ = w3 at *
      have HG3 := LH hg3
      have HE3 := LH hE3
      clear hg3 hE3 t0 t1 t2 t3 t4 t5
      have hw12 := HO2.out.size
      have hwA := HB.out.size
      have HO3 : Hid (Only C w w3) := ((Only.of_ext HW1.out).tr HO2.out).tr (Only.of_ext HE3.out)
      have HA3 : Hid (Below wA.heap.size wA w3) := HB.out.trans (HO3.out.below (C := C) hwA (fun j hj => (HC.out j hj).1))
      have HIT := LH (parts_iter (fun j => C j ∨ j = w.heap.size + 1 + 1 + 1) wA w3 k t _ _ w2.heap.size HT.out HA3.out (fun j hj => by rcases hj with hj | rfl; exact (HC.out j hj).1; omega) HG3.out (fun hj => by rcases hj with hj | hj; have := (HC.out _ hj).2; omega; omega))
      refine wpIn_wide.2 (wp_range (C := fun j => C j ∨ j = w.heap.size + 1 + 1 + 1) (L := kids t) (R := RK wA k) rfl (enters_of Tryz.func156 (by kernel_rfl) rfl) HIT.out
        (fun j hj => by rcases hj with hj | rfl; have := (HC.out _ hj).2; omega; omega) (fun y vs A h => h.size)
        (fun pre' W => J (pre ++ (d, t) :: nodesK (d + 1) pre') W /\ Only C w W /\ W.heap[w.heap.size + 1]? = some (.cells #[.int .i64 d] 3 (0, 0)) /\ W.heap[w.heap.size + 1 + 1]? = some (.cells #[.func (.yield l) #[] #[]] 244 (0, 0)) /\ W.heap[w.heap.size + 1 + 1 + 1]? = some (.cells #[.bool false] 4 (0, 0)))
        (fun c W => c = .ret /\ Jx W /\ Only C w W /\ W.heap[w.heap.size + 1 + 1 + 1]? = some (.cells #[.bool false] 4 (0, 0))) ?hI ?hIx ?h0 ?hround ?hdone ?hstop)
      case hI =>
        rintro pre' A B ⟨h1, h2, h3, h4, h5⟩ hb
        exact ⟨HJ.out _ _ _ h1 (hb.mono (by omega)), h2.belowNew hb (by omega), (hb.block _ (by omega)).trans h3, (hb.block _ (by omega)).trans h4, (hb.block _ (by omega)).trans h5⟩
      case hIx =>
        rintro c A B ⟨h1, h2, h3, h5⟩ hb
        exact ⟨h1, HJx.out _ _ h2 (hb.mono (by omega)), h3.belowNew hb (by omega), (hb.block _ (by omega)).trans h5⟩
      case h0 =>
        exact ⟨HJ.out _ _ _ HJ2.out (HE3.out.mono (by omega)), HO3.out, (HE3.out.block _ (by omega)).trans B1.out, (HE3.out.block _ (by omega)).trans B2.out, (HE3.out.block _ (by omega)).trans B3.out⟩
      case hround =>
        rintro l' pre' y vs W hl' hpre' ⟨i1, i2, i3, i4, i5⟩ ⟨vn, xa, xc, rfl, hs, ht⟩ hsz
        obtain ⟨_, ⟨Ax, cx, rfl, -, -⟩, ⟨Bx, dx, rfl, -, -⟩⟩ := ht.form
        have I1 := LH i1; have I2 := LH i2; have I3 := LH i3; have I4 := LH i4; have I5 := LH i5
        have HTY := LH ht; have HPR := LH hpre'
        clear i1 i2 i3 i4 i5 hs ht hpre'
        gi_wp2
        refine ⟨Ext.al _ _, fun W2 hT => ?_⟩
        have hE4 := Ext.al W (.cells #[.int .i64 y.2.op, .int .i64 y.2.n, .string y.2.nm, .int .i64 y.2.ty, .slice Ax y.2.args.length cx, .slice Bx y.2.cls.length dx] 50)
        have hN4 := hT.kept _ _ (hNw W (.cells #[.int .i64 y.2.op, .int .i64 y.2.n, .string y.2.nm, .int .i64 y.2.ty, .slice Ax y.2.args.length cx, .slice Bx y.2.cls.length dx] 50)) (fun r h => by cases h)
        have h3 := hT.kept _ _ ((hE4.block _ (hLt I3.out)).trans I3.out) (fun r h => by cases h)
        have h4 := hT.kept _ _ ((hE4.block _ (hLt I4.out)).trans I4.out) (fun r h => by cases h)
        have h5 := hT.kept _ _ ((hE4.block _ (hLt I5.out)).trans I5.out) (fun r h => by cases h)
        have hB4 := hT.only.below (B := w3.heap.size) (by simp; omega) (fun k h => by rw [h]; exact hl')
        have HB2 : Hid (Below w3.heap.size W W2) := (hE4.mono hsz).trans hB4
        have HJ4 := LH (HJ.out _ _ _ I1.out (HB2.out.mono (by omega)))
        have HO4 : Hid (Only C w W2) := Only.belowNew I2.out HB2.out (by omega)
        obtain ⟨n0, n1, n2, n3, n4, n5⟩ := cells6 hN4
        have m3 := cA h3 0
        have m4 := cA h4 0
        have H3 := LH h3; have H4 := LH h4; have H5 := LH h5
        have hz2 := HB2.out.size
        clear hE4 hN4 h3 h4 h5 hB4 hT
        have hsub := nodesK_pre (d := d + 1) HPR.out
        rw [nodesK_snoc] at hsub
        have HSUB := LH hsub
        clear hsub
        have HCALL := LH (HIH.out y.2 _ _ (d + 1) (pre ++ (d, t) :: nodesK (d + 1) pre') W2 HTY.out (HB.out.trans (HO4.out.below (C := C) hwA (fun j hj => (HC.out j hj).1))) (by omega)
          (by
            refine List.IsPrefix.trans ?_ HPRE.out
            rw [HN.out, List.append_assoc]
            exact (List.prefix_append_right_inj _).2 (List.cons_prefix_cons.2 ⟨rfl, HSUB.out⟩))
          HJ4.out (fun z hz => HDEP.out z (by rw [HN.out]; exact List.mem_cons_of_mem _ (HSUB.out.subset (List.mem_append_right _ hz)))))
        gi_wp2
        refine ⟨trivial, rfl, ?_⟩
        (with_reducible refine (CallsIn.inRound l' (callsIn_wide.2 HCALL.out)).mono ?_)
        rintro e w5 ⟨q, rfl, hq⟩
        have hq' := hq.out
        have ho5 : Only C W2 w5 := by
          cases q
          . exact (hq'.2 rfl).2
          . exact (hq'.1 rfl).2
        have HO5 := LH ho5
        have hnC : ∀ j, base <= j -> ¬ C j := fun j hj h => by have := (HC.out j h).2; omega
        have k3 := (ho5.block _ (hLt H3.out) (hnC _ (by omega))).trans H3.out
        have k4 := (ho5.block _ (hLt H4.out) (hnC _ (by omega))).trans H4.out
        have k5 := (ho5.block _ (hLt H5.out) (hnC _ (by omega))).trans H5.out
        have K3 := LH k3; have K4 := LH k4; have K5 := LH k5
        have r0 := cA k5 0
        have r1 := fA k5 0
        clear k3 k4 k5 ho5 hnC hq'
        have hz5 := HO5.out.size
        have HOW : Hid (Only C w w5) := HO4.out.tr HO5.out
        have HO6 : Hid (Only (fun j => C j ∨ j = w.heap.size + 1 + 1 + 1) W2 w5) := HO5.out.mono (fun k _ h => .inl h)
        cases q
        . have HJ5 := LH (hq.out.2 rfl).1
          clear hq
          gi_wp2
          refine ⟨HO6.out.tr (Only.setCell (p := ⟨w.heap.size + 1 + 1 + 1, 0, none⟩) (.inr rfl) _ _), rfl, HJx.out _ _ HJ5.out ((Below.refl _ _).setCell (p := ⟨w.heap.size + 1 + 1 + 1, 0, none⟩) (by show base <= w.heap.size + 1 + 1 + 1; omega) _), Only.setNew HOW.out (by omega) 0 _, box_set K5.out _⟩
        . have HJ5 := LH (hq.out.1 rfl).1
          clear hq
          gi_wp2
          refine ⟨HO6.out, ?_, HOW.out, K3.out, K4.out, K5.out⟩
          rw [nodesK_snoc]
          have := HJ5.out
          rw [List.append_assoc] at this
          exact this
      case hdone =>
        rintro W ⟨h1, h2, h3, h4, h5⟩ hK
        have h0 := cA h5 0
        have h0f := fA h5 0
        have H1 := LH h1; have H2 := LH h2; have H5 := LH h5; have HK := LH hK
        clear h1 h2 h3 h4 h5 hK
        gi_wp2
        have hk2 : (W.setCell ⟨w.heap.size + 1 + 1 + 1, 0, none⟩ (.bool true)).heap[w3.heap.size]? = some (.deferred (some [])) := (Below.heap_setCell W ⟨w.heap.size + 1 + 1 + 1, 0, none⟩ _ _ (by show w3.heap.size ≠ w.heap.size + 1 + 1 + 1; omega)).trans HK.out
        have s0 := put_cell (box_set H5.out (.bool true)) (show w.heap.size + 1 + 1 + 1 ≠ w3.heap.size by omega) (.deferred none)
        refine ⟨by simp, .inl ⟨_, _, rfl, run_takeDeferred hk2, ?_⟩⟩
        refine ⟨.bool true, by simp [results, go_sem, s0], true, rfl, fun _ => ⟨?_, ?_⟩, fun h => (by cases h)⟩
        . rw [HN.out]
          exact HJ.out _ _ _ H1.out (Below.putNew ((Below.refl _ _).setCell (p := ⟨w.heap.size + 1 + 1 + 1, 0, none⟩) (by show base <= w.heap.size + 1 + 1 + 1; omega) _) (by omega) _)
        . exact Only.putNew (Only.setNew H2.out (by omega) 0 _) (by omega) _
      case hstop =>
        rintro c W ⟨rfl, h1, h2, h5⟩ hK
        have H1 := LH h1; have H2 := LH h2; have H5 := LH h5; have HK := LH hK
        have s0 := put_cell h5 (show w.heap.size + 1 + 1 + 1 ≠ w3.heap.size by omega) (.deferred none)
        clear h1 h2 h5 hK
        refine (wpIn_wide (n := 0)).1 ?_
        gi_wp2
        refine ⟨by simp, .inl ⟨_, _, rfl, run_takeDeferred HK.out, ?_⟩⟩
        refine ⟨.bool false, by simp [results, go_sem, s0], false, rfl, fun h => (by cases h), fun _ => ⟨?_, ?_⟩⟩
        . exact HJx.out _ _ H1.out (Below.putNew (Below.refl _ _) (by omega) _)
        . exact Only.putNew H2.out (by omega) _
end Go.Proofs.YtkdglplfcpindaaGreatDoor

namespace Go.Proofs.YtkdglplfcpindaaGreatDoor
open Go.RowKit Go.Shelf
attribute [local go_sem] Oper.semAt_some
set_option maxHeartbeats 4000000 in
theorem nodes_iter (C : Nat -> Prop) (wA w0 : World) (k : Nat) (t : Tm) (va vc : Value) (g : Nat) (hA : RT wA k t va vc) (hb : Below wA.heap.size wA w0) (hC : ∀ j, C j -> wA.heap.size <= j /\ j < w0.heap.size)
    (hg : w0.heap[g]? = some (.cells #[.int .i64 t.op, .int .i64 t.n, .string t.nm, .int .i64 t.ty, va, vc] 50 (0, 0))) (hdep : ∀ y ∈ nodesL 1 t, 0 <= y.1 /\ y.1 <= 1000000000000) :
    Iter Tryz.prog 147 #[.pointer (some ⟨g, 0, none⟩)] C (nodesL 1 t) RN w0 := by
  intro l J Jx W hW hJ hJx hY h0
  have hgl := hLt hg
  have hgW := (hW.block g hgl).trans hg
  have HW := LH (walk_any wA l W.heap.size (fun k => C k ∨ (w0.heap.size <= k /\ k < W.heap.size)) (nodesL 1 t) J Jx
    (fun j hj => by have := hW.size; have := hb.size; rcases hj with hj | hj; exact ⟨(hC j hj).1, by have := (hC j hj).2; omega⟩; exact ⟨by omega, hj.2⟩) hJ hJx
    (fun pre y vs A h1 h2 h3 h4 => (hY pre y vs A h1 h2 h3 h4).mono fun e B h => yesNo_of h) k t va vc 1 [] W hA (hb.trans (hW.mono hb.size)) (Nat.le_refl _) (by simp) h0 hdep)
  obtain ⟨g0, g1, g2, g3, g4, g5⟩ := cells6 hgW
  clear hA hb hC hg hdep hY hJ hJx hgW
  refine callsIn_wide.1 (callsIn_of_wp (n := 0) Tryz.func147 rfl trivial ?_ rfl)
  simp only [Tryz.ntmps147, List.size_toArray, List.length_cons, List.length_nil, Nat.reduceAdd, Nat.reduceSub, Array.replicate_succ, Array.replicate_zero, List.push_toArray, List.append_toArray, List.nil_append, List.cons_append]
  gi_wp2
  refine ⟨trivial, rfl, ?_⟩
  (with_reducible refine (callsIn_wide.2 HW.out).mono ?_)
  rintro e w5 ⟨q, rfl, hq⟩
  have HQ : Hid (J (nodesL 1 t) w5 ∨ Jx w5) := by
    cases q
    . exact .inr (hq.out.2 rfl).1
    . exact .inl (hq.out.1 rfl).1
  clear hq
  gi_wp2
  go_end0
  exact ⟨⟨_, rfl⟩, HQ.out⟩
theorem sizeOK_snoc (l : List (Int × Tm)) (y : Int × Tm) : sizeOK (l ++ [y]) = (decide (l.length + 1 <= 600) && (l.all fun p => decide (p.1 <= 24)) && decide (y.1 <= 24)) := by
  unfold sizeOK
  simp [List.all_append, Bool.and_assoc]
theorem sizeOK_pre {l m : List (Int × Tm)} (h : l <+: m) (hm : sizeOK m = true) : sizeOK l = true := by
  obtain ⟨r, rfl⟩ := h
  unfold sizeOK at hm ⊢
  simp only [List.all_append, Bool.and_eq_true, decide_eq_true_eq, List.length_append] at hm ⊢
  exact ⟨by omega, hm.2.1⟩
theorem sizeOK_next {l : List (Int × Tm)} {y : Int × Tm} (h : sizeOK l = true) : sizeOK (l ++ [y]) = (decide ((l.length : Int) + 1 <= 600) && decide (y.1 <= 24)) := by
  rw [sizeOK_snoc]
  unfold sizeOK at h
  simp only [Bool.and_eq_true] at h
  rw [h.2, Bool.and_true, show decide (l.length + 1 <= 600) = decide ((l.length : Int) + 1 <= 600) from decide_eq_decide.2 (by omega)]
theorem sO {w : World} {g i k : Nat} (v : Value) (h : k ≠ g) : (w.setCell ⟨g, i, none⟩ v).heap[k]? = w.heap[k]? := Below.heap_setCell w ⟨g, i, none⟩ v k h
theorem Below.setNew {B : Nat} {w w' : World} (h : Below B w w') {g i : Nat} (hg : B <= g) (v : Value) : Below B w (w'.setCell ⟨g, i, none⟩ v) := h.setCell (p := ⟨g, i, none⟩) hg v
set_option maxHeartbeats 4000000 in
theorem size_any (k : Nat) (t : Tm) (va vc : Value) (w : World) (ht : RT w k t va vc) (hdep : ∀ y ∈ nodesL 1 t, 0 <= y.1 /\ y.1 <= 1000000000000) :
    Calls Tryz.prog 104 #[tV t va vc] w fun e w' => e = .returned (.tuple #[.int .i64 (sizeR t).1, .bool (sizeR t).2]) /\ Ext w w' := by
  have HT := LH ht; have HDEP := LH hdep
  obtain ⟨_, ⟨Aa, ca, rfl, -, -⟩, ⟨Bb, cb, rfl, -, -⟩⟩ := ht.form
  clear ht hdep
  refine callsIn_wide.1 (callsIn_of_wp_marks (n := 0) Tryz.func104 rfl trivial ?_ rfl)
  simp only [Tryz.ntmps104, List.size_toArray, List.length_cons, List.length_nil, Nat.reduceAdd, Nat.reduceSub, Array.replicate_succ, Array.replicate_zero, List.push_toArray, List.append_toArray, List.nil_append, List.cons_append]
  have HX3 := LH (heapFourth w (.cells #[.int .i64 t.op, .int .i64 t.n, .string t.nm, .int .i64 t.ty, .slice Aa t.args.length ca, .slice Bb t.cls.length cb] 50) (.cells #[.int .i64 0] 3) (.cells #[.bool false] 4) (.cells #[.int .i64 0] 3))
  have HW1 : Hid (Ext w ((((w.alloc (.cells #[.int .i64 t.op, .int .i64 t.n, .string t.nm, .int .i64 t.ty, .slice Aa t.args.length ca, .slice Bb t.cls.length cb] 50)).alloc (.cells #[.int .i64 0] 3)).alloc (.cells #[.bool false] 4)).alloc (.cells #[.int .i64 0] 3))) := (Ext.al3 _ _ _ _).tr (Ext.al _ _)
  gi_wp2
  have hz1 : ((((w.alloc (.cells #[.int .i64 t.op, .int .i64 t.n, .string t.nm, .int .i64 t.ty, .slice Aa t.args.length ca, .slice Bb t.cls.length cb] 50)).alloc (.cells #[.int .i64 0] 3)).alloc (.cells #[.bool false] 4)).alloc (.cells #[.int .i64 0] 3)).heap.size = w.heap.size + 1 + 1 + 1 + 1 := by simp
  have HZ1 := LH hz1
  clear hz1
  generalize ((w.alloc _).alloc _).alloc _ = w0 at *
  generalize w0.alloc _ = w1 at *
  refine ⟨trivial, rfl, ?_⟩
  (with_reducible refine (callsIn_wide.2 (nodes_any t _ _ _)).mono ?_)
  rintro e w3 ⟨rfl, rfl⟩
  gi_wp2
  have hg3 := hNw w1 (.cells #[.int .i64 t.op, .int .i64 t.n, .string t.nm, .int .i64 t.ty, .slice Aa t.args.length ca, .slice Bb t.cls.length cb] 50)
  have hE3 := Ext.al w1 (.cells #[.int .i64 t.op, .int .i64 t.n, .string t.nm, .int .i64 t.ty, .slice Aa t.args.length ca, .slice Bb t.cls.length cb] 50)
  have hz1 := HZ1.out
  have hz3 : (w1.alloc (.cells #[.int .i64 t.op, .int .i64 t.n, .string t.nm, .int .i64 t.ty, .slice Aa t.args.length ca, .slice Bb t.cls.length cb] 50)).heap.size = w1.heap.size + 1 := by simp
  generalize w1.alloc _ = w3 at *
  have HE3 := LH hE3
  have HE1 := LH (HW1.out.tr hE3)
  have HIT := LH (nodes_iter (fun j => j = w.heap.size + 1 ∨ j = w.heap.size + 1 + 1 ∨ j = w.heap.size + 1 + 1 + 1) w w3 k t _ _ w1.heap.size HT.out HE1.out (fun j hj => by omega) hg3 HDEP.out)
  clear hg3 hE3
  have HZ3 := LH hz3
  refine wpIn_wide.2 (wp_range (C := fun j => j = w.heap.size + 1 ∨ j = w.heap.size + 1 + 1 ∨ j = w.heap.size + 1 + 1 + 1) (L := nodesL 1 t) (R := RN) rfl (enters_of Tryz.func147 (by kernel_rfl) rfl) HIT.out
    (fun j hj => by omega) (fun y vs A h => h.size)
    (fun pre W => sizeOK pre = true /\ Ext w W /\ W.heap[w.heap.size + 1]? = some (.cells #[.int .i64 0] 3 (0, 0)) /\ W.heap[w.heap.size + 1 + 1]? = some (.cells #[.bool false] 4 (0, 0)) /\ W.heap[w.heap.size + 1 + 1 + 1]? = some (.cells #[.int .i64 pre.length] 3 (0, 0)))
    (fun c W => c = .ret /\ sizeOK (nodesL 1 t) = false /\ Ext w W /\ W.heap[w.heap.size + 1]? = some (.cells #[.int .i64 0] 3 (0, 0)) /\ W.heap[w.heap.size + 1 + 1]? = some (.cells #[.bool false] 4 (0, 0))) ?hI ?hIx ?h0 ?hround ?hdone ?hstop)
  case hI =>
    rintro pre A B ⟨h1, h2, h3, h4, h5⟩ hb
    exact ⟨h1, h2.trans (hb.mono (by omega)), (hb.block _ (by omega)).trans h3, (hb.block _ (by omega)).trans h4, (hb.block _ (by omega)).trans h5⟩
  case hIx =>
    rintro c A B ⟨h0, h1, h2, h3, h4⟩ hb
    exact ⟨h0, h1, h2.trans (hb.mono (by omega)), (hb.block _ (by omega)).trans h3, (hb.block _ (by omega)).trans h4⟩
  case h0 =>
    exact ⟨rfl, HE1.out, (HE3.out.block _ (by omega)).trans HX3.out.2.1, (HE3.out.block _ (by omega)).trans HX3.out.2.2.1, (HE3.out.block _ (by omega)).trans HX3.out.2.2.2⟩
  case hround =>
    rintro l' pre y vs W hl' hpre ⟨i1, i2, i3, i4, i5⟩ ⟨ky, xa, xc, rfl, ht⟩ hsz
    have I1 := LH i1; have I2 := LH i2; have I3 := LH i3; have I4 := LH i4; have I5 := LH i5
    have HPR := LH hpre
    have hplen : pre.length <= 600 := by
      unfold sizeOK at i1
      simp only [Bool.and_eq_true, decide_eq_true_eq] at i1
      exact i1.1
    clear i1 i2 i3 i4 i5 ht hpre
    gi_wp2
    refine ⟨Ext.rf _, fun W2 hT => ?_⟩
    have h3 := hT.kept _ _ I3.out (fun r h => by cases h)
    have h4 := hT.kept _ _ I4.out (fun r h => by cases h)
    have h5 := hT.kept _ _ I5.out (fun r h => by cases h)
    have HB4 := LH (hT.only.below (B := w3.heap.size) (by omega) (fun k h => by rw [h]; exact hl'))
    have HE4 : Hid (Ext w W2) := I2.out.trans (HB4.out.mono (by omega))
    have q3 := cA h3 0
    have q4 := cA h4 0
    have q5 := cA h5 0
    have f3 := fA h3 0
    have f4 := fA h4 0
    have f5 := fA h5 0
    have H3 := LH h3; have H4 := LH h4; have H5 := LH h5
    clear h3 h4 h5 hT
    have HNX := LH (sizeOK_next (y := y) I1.out)
    clear hz1 hz3
    have HF : Hid (sizeOK (pre ++ [y]) = false -> sizeOK (nodesL 1 t) = false) := fun h => by
      cases hs : sizeOK (nodesL 1 t)
      . rfl
      . rw [sizeOK_pre HPR.out hs] at h; cases h
    gi_wp2
    . have q : 600 < (pre.length : Int) + 1 ∨ 24 < y.1 := by assumption
      refine ⟨((Only.setCell (p := ⟨_, 0, none⟩) (.inr (.inr rfl)) _ _).tr (Only.setCell (p := ⟨_, 0, none⟩) (.inl rfl) _ _)).tr (Only.setCell (p := ⟨_, 0, none⟩) (.inr (.inl rfl)) _ _), rfl, HF.out ?_, Below.setNew (Below.setNew (Below.setNew HE4.out (by omega) _) (by omega) _) (by omega) _, ?_, ?_⟩
      . rw [HNX.out]; simp; omega
      . exact (sO _ (by omega)).trans (box_set ((sO _ (by omega)).trans H3.out) _)
      . exact box_set ((sO _ (by omega)).trans ((sO _ (by omega)).trans H4.out)) _
    . have q : (pre.length : Int) + 1 <= 600 /\ y.1 <= 24 := by assumption
      refine ⟨Only.setCell (p := ⟨_, 0, none⟩) (.inr (.inr rfl)) _ _, ?_, Below.setNew HE4.out (by omega) _, (sO _ (by omega)).trans H3.out, (sO _ (by omega)).trans H4.out, ?_⟩
      . rw [HNX.out]; simp; omega
      . rw [List.length_append]
        exact box_set H5.out _
    . have q : 600 < (pre.length : Int) + 1 := by assumption
      refine ⟨((Only.setCell (p := ⟨_, 0, none⟩) (.inr (.inr rfl)) _ _).tr (Only.setCell (p := ⟨_, 0, none⟩) (.inl rfl) _ _)).tr (Only.setCell (p := ⟨_, 0, none⟩) (.inr (.inl rfl)) _ _), rfl, HF.out ?_, Below.setNew (Below.setNew (Below.setNew HE4.out (by omega) _) (by omega) _) (by omega) _, ?_, ?_⟩
      . rw [HNX.out]; simp; omega
      . exact (sO _ (by omega)).trans (box_set ((sO _ (by omega)).trans H3.out) _)
      . exact box_set ((sO _ (by omega)).trans ((sO _ (by omega)).trans H4.out)) _
  case hdone =>
    rintro W ⟨h1, h2, h3, h4, h5⟩ hK
    have q3 := cA h3 0
    have q4 := cA h4 0
    have q5 := cA h5 0
    have f3 := fA h3 0
    have f4 := fA h4 0
    have H1 := LH h1; have H2 := LH h2; have H3 := LH h3; have H4 := LH h4; have HK := LH hK
    clear h1 h2 h3 h4 h5 hK hz1 hz3
    gi_wp2
    have hz1 := HZ1.out
    have hz3 := HZ3.out
    have k3 := (sO (i := 0) (.bool true) (show w.heap.size + 1 ≠ w.heap.size + 1 + 1 by omega)).trans (box_set H3.out (.int .i64 (nodesL 1 t).length))
    have k4 := box_set ((sO (w := W) (i := 0) (.int .i64 (nodesL 1 t).length) (show w.heap.size + 1 + 1 ≠ w.heap.size + 1 by omega)).trans H4.out) (.bool true)
    have kD := (sO (i := 0) (.bool true) (show w3.heap.size ≠ w.heap.size + 1 + 1 by omega)).trans ((sO (w := W) (i := 0) (.int .i64 (nodesL 1 t).length) (show w3.heap.size ≠ w.heap.size + 1 by omega)).trans HK.out)
    have s3 := put_cell k3 (show w.heap.size + 1 ≠ w3.heap.size by omega) (.deferred none)
    have s4 := put_cell k4 (show w.heap.size + 1 + 1 ≠ w3.heap.size by omega) (.deferred none)
    clear k3 k4
    refine ⟨by simp, .inl ⟨_, _, rfl, run_takeDeferred kD, ?_⟩⟩
    refine ⟨.tuple #[.int .i64 (nodesL 1 t).length, .bool true], by simp [results, go_sem, s3, s4], ?_, Below.putNew (Below.setNew (Below.setNew H2.out (by omega) _) (by omega) _) (by omega) _⟩
    unfold sizeR
    rw [H1.out]; rfl
  case hstop =>
    rintro c W ⟨rfl, h1, h2, h3, h4⟩ hK
    have s3 := cA (l := #[.int .i64 0]) ((World.putObj_heap_other (o := .deferred none) (show w.heap.size + 1 ≠ w3.heap.size by omega)).trans h3) 0
    have s4 := cA (l := #[.bool false]) ((World.putObj_heap_other (o := .deferred none) (show w.heap.size + 1 + 1 ≠ w3.heap.size by omega)).trans h4) 0
    have H1 := LH h1; have H2 := LH h2; have HK := LH hK
    clear h1 h2 h3 h4 hK hz1 hz3
    refine (wpIn_wide (n := 0)).1 ?_
    gi_wp2
    refine ⟨by simp, .inl ⟨_, _, rfl, run_takeDeferred HK.out, ?_⟩⟩
    refine ⟨.tuple #[.int .i64 0, .bool false], by simp [results, go_sem, s3, s4], ?_, Below.putNew H2.out (by have := HZ1.out; have := HZ3.out; omega) _⟩
    unfold sizeR
    rw [H1.out]; rfl
end Go.Proofs.YtkdglplfcpindaaGreatDoor

namespace Go.Proofs.YtkdglplfcpindaaGreatDoor
open Go.RowKit Go.Shelf
attribute [local go_sem] Oper.semAt_some
mutual
def uT : Tm -> Nat
  | .mk op _ nm _ args cls => 1 + (uA op nm 0 args + uC cls)
def uA (op : Int) (nm : Str) : Nat -> List Tm -> Nat
  | _, [] => 0
  | i, a :: r => 2 * (bndAt op nm i).1.length + uT a + uA op nm (i + 1) r
def uC : List (List Str × Tm) -> Nat
  | [] => 0
  | (ns, t) :: r => 2 * ns.length + uT t + uC r
end
def uK : List (Bnd × Tm) -> Nat
  | [] => 0
  | x :: r => 2 * x.1.1.length + uT x.2 + uK r
theorem uK_append (k : List (Bnd × Tm)) : ∀ l, uK (l ++ k) = uK l + uK k
  | [] => by simp [uK]
  | x :: r => by simp [uK, uK_append k r]; omega
theorem uA_kids (op : Int) (nm : Str) : ∀ (l : List Tm) (i : Nat), uA op nm i l = uK (kidsFrom op nm i l)
  | [], _ => by simp [uA, kidsFrom, uK]
  | a :: r, i => by simp [uA, kidsFrom, uK, uA_kids op nm r (i + 1)]
theorem uC_kids : ∀ (l : List (List Str × Tm)), uC l = uK (l.map fun c => ((c.1, false), c.2))
  | [] => by simp [uC, uK]
  | (ns, t) :: r => by simp [uC, uK, uC_kids r]
theorem uT_kids (t : Tm) : uT t = 1 + uK (kids t) := by
  cases t with
  | mk op n nm ty args cls => rw [uT, uA_kids op nm args 0, uC_kids, kids, uK_append]; rfl
end Go.Proofs.YtkdglplfcpindaaGreatDoor
