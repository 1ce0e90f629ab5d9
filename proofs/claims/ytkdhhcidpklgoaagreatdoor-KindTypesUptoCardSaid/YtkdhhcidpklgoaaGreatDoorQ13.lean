/- node: Depths, Size. -/
import Derived.Test.YtkdhhcidpklgoaaGreatDoorQ12
import Derived.Carry
import Derived.MapKept
import Derived.Laws.StructEq
namespace Go.Proofs.YtkdhhcidpklgoaaGreatDoor
open Go.RowKit Go.Shelf
attribute [local go_sem] Oper.semAt_some

def RDp (d : Int) (vs : Array Value) (A : World) : Prop := vs = #[.int .i64 d]
theorem RDp.size {y : Int} {vs : Array Value} {A : World} (h : RDp y vs A) : vs.size = 1 := by rw [show vs = #[.int .i64 y] from h]; rfl
set_option maxHeartbeats 4000000 in
set_option maxRecDepth 100000 in
theorem depths_iter (C : Nat → Prop) (wA w0 : World) (k : Nat) (t : Nd) (va vb : Value) (g : Nat) (hA : RNd wA k t va vb) (hb : Below wA.heap.size wA w0) (hC : ∀ j, C j → wA.heap.size ≤ j ∧ j < w0.heap.size)
    (hg : w0.heap[g]? = some (.cells #[.int .i64 t.op, .int .i64 t.n, .int .i64 t.ty, va, vb] 36 (0, 0))) (hdep : 1 + (k : Int) ≤ 1000000000000) :
    Iter Tryz.prog 114 #[.pointer (some ⟨g, 0, none⟩)] C (depN 1 t) RDp w0 := by
  intro l J Jx W hW hJ hJx hY h0
  have hgl := heap_lt hg
  have hgW := (hW.block g hgl).trans hg
  have HW := Lib.hid (descend_any wA l W.heap.size (fun k => C k ∨ (w0.heap.size ≤ k ∧ k < W.heap.size)) (depN 1 t) J Jx
    (fun j hj => by have := hW.size; have := hb.size; rcases hj with hj | hj; exact ⟨(hC j hj).1, by have := (hC j hj).2; omega⟩; exact ⟨by omega, hj.2⟩) hJ hJx
    (fun pre y A h1 h2 h4 => (hY pre y _ A h1 h2 rfl h4).mono fun e B h => yesNo_of h) k t va vb 1 [] W hA (hb.trans (hW.mono hb.size)) (Nat.le_refl _) (by simp) h0 (by omega) hdep)
  obtain ⟨g0, g1, g2, g3, g4⟩ := cells5 hgW
  clear hA hb hC hg hdep hY hJ hJx hgW
  refine callsIn_wide.1 (callsIn_of_wp (n := 0) Tryz.func114 rfl trivial ?_ rfl)
  simp only [Tryz.ntmps114, List.size_toArray, List.length_cons, List.length_nil, Nat.reduceAdd, Nat.reduceSub, Array.replicate_succ, Array.replicate_zero, List.push_toArray, List.append_toArray, List.nil_append, List.cons_append]
  gi_wp2
  refine ⟨trivial, rfl, ?_⟩
  (with_reducible refine (callsIn_wide.2 HW.out).mono ?_)
  rintro e w5 ⟨q, rfl, hq⟩
  have HQ : Hid (J (depN 1 t) w5 ∨ Jx w5) := by
    cases q
    · exact .inr (hq.out.2 rfl).1
    · exact .inl (hq.out.1 rfl).1
  clear hq
  gi_wp2
  go_end0
  exact ⟨⟨_, rfl⟩, HQ.out⟩
set_option maxRecDepth 100000 in
theorem depths_any (t : Nd) (va vb : Value) (w : World) :
    Calls Tryz.prog 91 #[nV t va vb] w fun e w' => e = .returned (.func (.func 114) #[] #[.pointer (some ⟨w.heap.size, 0, none⟩)]) ∧ w' = w.alloc (.cells #[.int .i64 t.op, .int .i64 t.n, .int .i64 t.ty, va, vb] 36) := by
  have hmf : ∀ (fn : Fn) (first cap : Array Value) (w : World), (Instr.makeFunc fn first cap).run Tryz.prog w = .ok (.func fn first cap) w := fun _ _ _ _ => rfl
  go_enter Tryz.func91, Tryz.ntmps91
  go_wp2
  go_ret
  exact ⟨rfl, rfl⟩

theorem sizeOK_pre {a b : Int} {l m : List Int} (h : l <+: m) (hm : sizeOK a b m = true) : sizeOK a b l = true := by
  obtain ⟨r, rfl⟩ := h
  unfold sizeOK at hm ⊢
  simp only [List.all_append, Bool.and_eq_true, decide_eq_true_eq, List.length_append] at hm ⊢
  exact ⟨by omega, hm.2.1⟩
theorem sizeOK_next {a b : Int} {l : List Int} {y : Int} (h : sizeOK a b l = true) : sizeOK a b (l ++ [y]) = (decide ((l.length : Int) + 1 ≤ a) && decide (y ≤ b)) := by
  unfold sizeOK at h ⊢
  simp only [Bool.and_eq_true] at h
  rw [List.all_append, h.2, List.length_append]
  simp

set_option maxHeartbeats 8000000 in
set_option maxRecDepth 100000 in
theorem size_any (most deep : Int) (hm0 : 0 ≤ most) (hm1 : most ≤ 1000000) (k : Nat) (t : Nd) (va vb : Value) (w : World) (ht : RNd w k t va vb) (hdep : 1 + (k : Int) ≤ 1000000000000) :
    Calls Tryz.prog 65 #[nV t va vb, .int .i64 most, .int .i64 deep] w fun e w' => e = .returned (.tuple #[.int .i64 (sizeC most deep t).1, .bool (sizeC most deep t).2]) ∧ Ext w w' := by
  have HT := Lib.hid ht; have HDEP := Lib.hid hdep
  obtain ⟨_, ⟨Aa, ca, rfl, -, -⟩, ⟨Bb, cb, rfl, -, -⟩⟩ := ht.form
  clear ht hdep
  refine callsIn_wide.1 (callsIn_of_wp_marks (n := 0) Tryz.func65 rfl trivial ?_ rfl)
  simp only [Tryz.ntmps65, List.size_toArray, List.length_cons, List.length_nil, Nat.reduceAdd, Nat.reduceSub, Array.replicate_succ, Array.replicate_zero, List.push_toArray, List.append_toArray, List.nil_append, List.cons_append]
  have hx4 := heapNew ((((w.alloc (.cells #[.int .i64 t.op, .int .i64 t.n, .int .i64 t.ty, .slice Aa t.args.length ca, .slice Bb t.brs.length cb] 36)).alloc (.cells #[.int .i64 most] 3)).alloc (.cells #[.int .i64 deep] 3)).alloc (.cells #[.int .i64 0] 3)) (.cells #[.bool false] 4)
  have hx3 := Ext.lt (Ext.al _ (.cells #[.bool false] 4)) (heapNew (((w.alloc (.cells #[.int .i64 t.op, .int .i64 t.n, .int .i64 t.ty, .slice Aa t.args.length ca, .slice Bb t.brs.length cb] 36)).alloc (.cells #[.int .i64 most] 3)).alloc (.cells #[.int .i64 deep] 3)) (.cells #[.int .i64 0] 3))
  have hx2 := Ext.lt (Ext.al2 _ (.cells #[.int .i64 0] 3) (.cells #[.bool false] 4)) (heapNew ((w.alloc (.cells #[.int .i64 t.op, .int .i64 t.n, .int .i64 t.ty, .slice Aa t.args.length ca, .slice Bb t.brs.length cb] 36)).alloc (.cells #[.int .i64 most] 3)) (.cells #[.int .i64 deep] 3))
  have hx1 := Ext.lt (Ext.al3 _ (.cells #[.int .i64 deep] 3) (.cells #[.int .i64 0] 3) (.cells #[.bool false] 4)) (heapNew (w.alloc (.cells #[.int .i64 t.op, .int .i64 t.n, .int .i64 t.ty, .slice Aa t.args.length ca, .slice Bb t.brs.length cb] 36)) (.cells #[.int .i64 most] 3))
  have hx0 := Ext.lt (Ext.al4 _ (.cells #[.int .i64 most] 3) (.cells #[.int .i64 deep] 3) (.cells #[.int .i64 0] 3) (.cells #[.bool false] 4)) (heapNew w (.cells #[.int .i64 t.op, .int .i64 t.n, .int .i64 t.ty, .slice Aa t.args.length ca, .slice Bb t.brs.length cb] 36))
  simp only [World.size_alloc] at hx4 hx3 hx2 hx1
  have HW1 : Hid (Ext w (((((w.alloc (.cells #[.int .i64 t.op, .int .i64 t.n, .int .i64 t.ty, .slice Aa t.args.length ca, .slice Bb t.brs.length cb] 36)).alloc (.cells #[.int .i64 most] 3)).alloc (.cells #[.int .i64 deep] 3)).alloc (.cells #[.int .i64 0] 3)).alloc (.cells #[.bool false] 4))) := (Ext.al4 _ _ _ _ _).tr (Ext.al _ _)
  have HX4 := Lib.hid hx4; have HX3 := Lib.hid hx3; have HX2 := Lib.hid hx2; have HX1 := Lib.hid hx1; have HX0 := Lib.hid hx0
  have hz1 : (((((w.alloc (.cells #[.int .i64 t.op, .int .i64 t.n, .int .i64 t.ty, .slice Aa t.args.length ca, .slice Bb t.brs.length cb] 36)).alloc (.cells #[.int .i64 most] 3)).alloc (.cells #[.int .i64 deep] 3)).alloc (.cells #[.int .i64 0] 3)).alloc (.cells #[.bool false] 4)).heap.size = w.heap.size + 1 + 1 + 1 + 1 + 1 := by simp
  have HZ1 := Lib.hid hz1
  clear hx4 hx3 hx2 hx1 hx0 hz1
  gi_wp2
  generalize ((((w.alloc _).alloc _).alloc _).alloc _).alloc _ = w1 at *
  refine ⟨trivial, rfl, ?_⟩
  (with_reducible refine (callsIn_wide.2 (depths_any t _ _ _)).mono ?_)
  rintro e w3 ⟨rfl, rfl⟩
  have hz1 := HZ1.out
  have hg3 := heapNew w1 (.cells #[.int .i64 t.op, .int .i64 t.n, .int .i64 t.ty, .slice Aa t.args.length ca, .slice Bb t.brs.length cb] 36)
  have hE3 := Ext.al w1 (.cells #[.int .i64 t.op, .int .i64 t.n, .int .i64 t.ty, .slice Aa t.args.length ca, .slice Bb t.brs.length cb] 36)
  have hz3 : (w1.alloc (.cells #[.int .i64 t.op, .int .i64 t.n, .int .i64 t.ty, .slice Aa t.args.length ca, .slice Bb t.brs.length cb] 36)).heap.size = w1.heap.size + 1 := by simp
  generalize w1.alloc _ = w3 at *
  have HE3 := Lib.hid hE3
  have HE1 := Lib.hid (HW1.out.tr hE3)
  have HIT := Lib.hid (depths_iter (fun j => j = w.heap.size + 1 + 1 + 1 ∨ j = w.heap.size + 1 + 1 + 1 + 1) w w3 k t _ _ (w.heap.size + 1 + 1 + 1 + 1 + 1) HT.out HE1.out (fun j hj => by omega) (by rw [← hz1]; exact hg3) HDEP.out)
  clear hg3 hE3
  have HZ3 := Lib.hid hz3
  gi_wp2
  refine wpIn_wide.2 (wp_range (C := fun j => j = w.heap.size + 1 + 1 + 1 ∨ j = w.heap.size + 1 + 1 + 1 + 1) (L := depN 1 t) (R := RDp) rfl (enters_of Tryz.func114 (by kernel_rfl) rfl) HIT.out
    (fun j hj => by omega) (fun y vs A h => h.size)
    (fun pre W => sizeOK most deep pre = true ∧ Ext w W ∧ W.heap[w.heap.size + 1]? = some (.cells #[.int .i64 most] 3 (0, 0)) ∧ W.heap[w.heap.size + 1 + 1]? = some (.cells #[.int .i64 deep] 3 (0, 0)) ∧ W.heap[w.heap.size + 1 + 1 + 1]? = some (.cells #[.int .i64 pre.length] 3 (0, 0)) ∧ W.heap[w.heap.size + 1 + 1 + 1 + 1]? = some (.cells #[.bool false] 4 (0, 0)))
    (fun c W => c = .ret ∧ sizeOK most deep (depN 1 t) = false ∧ Ext w W ∧ W.heap[w.heap.size + 1 + 1 + 1]? = some (.cells #[.int .i64 0] 3 (0, 0)) ∧ W.heap[w.heap.size + 1 + 1 + 1 + 1]? = some (.cells #[.bool false] 4 (0, 0))) ?hI ?hIx ?h0 ?hround ?hdone ?hstop)
  case hI =>
    rintro pre A B ⟨h1, h2, h3, h4, h5, h6⟩ hb
    exact ⟨h1, h2.trans (hb.mono (by omega)), (hb.block _ (by omega)).trans h3, (hb.block _ (by omega)).trans h4, (hb.block _ (by omega)).trans h5, (hb.block _ (by omega)).trans h6⟩
  case hIx =>
    rintro c A B ⟨h0, h1, h2, h3, h4⟩ hb
    exact ⟨h0, h1, h2.trans (hb.mono (by omega)), (hb.block _ (by omega)).trans h3, (hb.block _ (by omega)).trans h4⟩
  case h0 =>
    exact ⟨by unfold sizeOK; simp [hm0], HE1.out, HE3.out.lt HX1.out, HE3.out.lt HX2.out, HE3.out.lt HX3.out, HE3.out.lt HX4.out⟩
  case hround =>
    rintro l' pre y vs W hl' hpre ⟨i1, i2, i3, i4, i5, i6⟩ hvs hsz
    obtain rfl : vs = #[.int .i64 y] := hvs
    have I1 := Lib.hid i1; have I2 := Lib.hid i2; have I3 := Lib.hid i3; have I4 := Lib.hid i4; have I5 := Lib.hid i5; have I6 := Lib.hid i6
    have HPR := Lib.hid hpre
    have hplen : (pre.length : Int) ≤ most := by
      unfold sizeOK at i1
      simp only [Bool.and_eq_true, decide_eq_true_eq] at i1
      exact i1.1
    clear i1 i2 i3 i4 i5 i6 hpre
    gi_wp2
    refine ⟨Ext.rf _, fun W2 hT => ?_⟩
    have h3 := hT.kept _ _ I3.out (fun r h => by cases h)
    have h4 := hT.kept _ _ I4.out (fun r h => by cases h)
    have h5 := hT.kept _ _ I5.out (fun r h => by cases h)
    have h6 := hT.kept _ _ I6.out (fun r h => by cases h)
    have HB4 := Lib.hid (hT.only.below (B := w3.heap.size) (by omega) (fun k h => by rw [h]; exact hl'))
    have HE4 : Hid (Ext w W2) := I2.out.trans (HB4.out.mono (by omega))
    have q3 := cellAt h3 0
    have q4 := cellAt h4 0
    have q5 := cellAt h5 0
    have q6 := cellAt h6 0
    have f5 := frozenAt h5 0
    have f6 := frozenAt h6 0
    have H3 := Lib.hid h3; have H4 := Lib.hid h4; have H5 := Lib.hid h5; have H6 := Lib.hid h6
    clear h3 h4 h5 h6 hT
    have HNX := Lib.hid (sizeOK_next (y := y) I1.out)
    clear hz1 hz3
    have HF : Hid (sizeOK most deep (pre ++ [y]) = false → sizeOK most deep (depN 1 t) = false) := fun h => by
      cases hs : sizeOK most deep (depN 1 t)
      · rfl
      · rw [sizeOK_pre HPR.out hs] at h; cases h
    by_cases ha : most < (pre.length : Int) + 1
    · have HH := Lib.hid ha
      gi_wp2
      refine ⟨((Only.setCell (p := ⟨_, 0, none⟩) (.inl rfl) _ _).tr (Only.setCell (p := ⟨_, 0, none⟩) (.inl rfl) _ _)).tr (Only.setCell (p := ⟨_, 0, none⟩) (.inr rfl) _ _), rfl, HF.out ?_, Below.setNew (Below.setNew (Below.setNew HE4.out (by omega) _) (by omega) _) (by omega) _, (set_other _ (by omega)).trans (box_set (box_set H5.out _) _), box_set ((set_other _ (by omega)).trans ((set_other _ (by omega)).trans H6.out)) _⟩
      rw [HNX.out, decide_eq_false (by have := HH.out; omega)]; rfl
    · have ha2 : (pre.length : Int) + 1 ≤ most := by omega
      have HH := Lib.hid ha2
      by_cases hb : deep < y
      · have HH2 := Lib.hid hb
        gi_wp2
        refine ⟨((Only.setCell (p := ⟨_, 0, none⟩) (.inl rfl) _ _).tr (Only.setCell (p := ⟨_, 0, none⟩) (.inl rfl) _ _)).tr (Only.setCell (p := ⟨_, 0, none⟩) (.inr rfl) _ _), rfl, HF.out ?_, Below.setNew (Below.setNew (Below.setNew HE4.out (by omega) _) (by omega) _) (by omega) _, (set_other _ (by omega)).trans (box_set (box_set H5.out _) _), box_set ((set_other _ (by omega)).trans ((set_other _ (by omega)).trans H6.out)) _⟩
        rw [HNX.out, decide_eq_false (show ¬ y ≤ deep by have := HH2.out; omega)]; simp
      · have hb2 : y ≤ deep := by omega
        have HH2 := Lib.hid hb2
        gi_wp2
        refine ⟨Only.setCell (p := ⟨_, 0, none⟩) (.inl rfl) _ _, ?_, Below.setNew HE4.out (by omega) _, (set_other _ (by omega)).trans H3.out, (set_other _ (by omega)).trans H4.out, ?_, (set_other _ (by omega)).trans H6.out⟩
        · rw [HNX.out, decide_eq_true HH.out, decide_eq_true HH2.out]; rfl
        · rw [List.length_append]
          exact box_set H5.out _
  case hdone =>
    rintro W ⟨h1, h2, h3, h4, h5, h6⟩ hK
    have q5 := cellAt h5 0
    have f5 := frozenAt h5 0
    have f6 := frozenAt h6 0
    have q6 := cellAt h6 0
    have H1 := Lib.hid h1; have H2 := Lib.hid h2; have H5 := Lib.hid h5; have H6 := Lib.hid h6; have HK := Lib.hid hK
    clear h1 h2 h3 h4 h5 h6 hK hz1 hz3
    gi_wp2
    have hz1 := HZ1.out
    have hz3 := HZ3.out
    have k5 := (set_other (i := 0) (.bool true) (show w.heap.size + 1 + 1 + 1 ≠ w.heap.size + 1 + 1 + 1 + 1 by omega)).trans (box_set H5.out (.int .i64 (depN 1 t).length))
    have k6 := box_set ((set_other (w := W) (i := 0) (.int .i64 (depN 1 t).length) (show w.heap.size + 1 + 1 + 1 + 1 ≠ w.heap.size + 1 + 1 + 1 by omega)).trans H6.out) (.bool true)
    have kD := (set_other (i := 0) (.bool true) (show w3.heap.size ≠ w.heap.size + 1 + 1 + 1 + 1 by omega)).trans ((set_other (w := W) (i := 0) (.int .i64 (depN 1 t).length) (show w3.heap.size ≠ w.heap.size + 1 + 1 + 1 by omega)).trans HK.out)
    have s5 := put_cell k5 (show w.heap.size + 1 + 1 + 1 ≠ w3.heap.size by omega) (.deferred none)
    have s6 := put_cell k6 (show w.heap.size + 1 + 1 + 1 + 1 ≠ w3.heap.size by omega) (.deferred none)
    clear k5 k6
    refine ⟨by simp, .inl ⟨_, _, rfl, run_takeDeferred kD, ?_⟩⟩
    refine ⟨.tuple #[.int .i64 (depN 1 t).length, .bool true], by simp [results, go_sem, s5, s6], ?_, Below.putNew (Below.setNew (Below.setNew H2.out (by omega) _) (by omega) _) (by omega) _⟩
    unfold sizeC
    rw [H1.out]; rfl
  case hstop =>
    rintro c W ⟨rfl, h1, h2, h5, h6⟩ hK
    have s5 := cellAt (l := #[.int .i64 0]) ((World.putObj_heap_other (o := .deferred none) (show w.heap.size + 1 + 1 + 1 ≠ w3.heap.size by omega)).trans h5) 0
    have s6 := cellAt (l := #[.bool false]) ((World.putObj_heap_other (o := .deferred none) (show w.heap.size + 1 + 1 + 1 + 1 ≠ w3.heap.size by omega)).trans h6) 0
    have H1 := Lib.hid h1; have H2 := Lib.hid h2; have HK := Lib.hid hK
    clear h1 h2 h5 h6 hK hz1 hz3
    refine (wpIn_wide (n := 0)).1 ?_
    gi_wp2
    refine ⟨by simp, .inl ⟨_, _, rfl, run_takeDeferred HK.out, ?_⟩⟩
    refine ⟨.tuple #[.int .i64 0, .bool false], by simp [results, go_sem, s5, s6], ?_, Below.putNew H2.out (by have := HZ1.out; have := HZ3.out; omega) _⟩
    unfold sizeC
    rw [H1.out]; rfl
end Go.Proofs.YtkdhhcidpklgoaaGreatDoor

/- A set of strings, kept as a map to bools: look-up and store. -/
namespace Go.Proofs.YtkdhhcidpklgoaaGreatDoor
open Go.RowKit

def SetAt (w : World) (b : Nat) (S : List ByteArray) : Prop :=
  ∃ es clock, w.heap[b]? = some (.map es clock) ∧ es.toList.map MapEntry.key = S.map Value.string ∧ ∀ e ∈ es.toList, e.val = .bool true


theorem findNow_set (k : ByteArray) : ∀ (es : List MapEntry) (S : List ByteArray) (i : Nat), es.map MapEntry.key = S.map Value.string → (∀ e ∈ es, e.val = .bool true) →
    (hasS S k = true → ∃ j, Instr.findNow .string (.string k) es i = some (some (j, .bool true))) ∧ (hasS S k = false → Instr.findNow .string (.string k) es i = some none)
  | [], [], i, _, _ => ⟨fun h => by simp [hasS] at h, fun _ => rfl⟩
  | [], _ :: _, i, h, _ => by simp at h
  | _ :: _, [], i, h, _ => by simp at h
  | e :: es, s :: S, i, h, hv => by
    simp only [List.map_cons, List.cons.injEq] at h
    obtain ⟨h1, h2⟩ := h
    have ih := findNow_set k es S (i + 1) h2 (fun e he => hv e (List.mem_cons_of_mem _ he))
    have hval := hv e (List.mem_cons_self ..)
    have hh : hasS (s :: S) k = ((k.toList == s.toList) || hasS S k) := rfl
    unfold Instr.findNow
    rw [h1, hh]
    simp only [Instr.sameNow, beq_toListBytes]
    cases hk : (k.toList == s.toList)
    · simpa using ih
    · simp [hval]

theorem run_lookup_set (t : TypeId) (kt vt : TypeId) (P : Program) (ht : P.underlying t = some (.map kt vt)) (hk : P.underlying kt = some .string) (w : World) (hz : (zeroValue vt).run P w = .ok (.bool false) w)
    (b : Nat) (S : List ByteArray) (h : SetAt w b S) (k : ByteArray) :
    (Instr.lookup t (.map (some b)) (.string k) false).run P w = .ok (.bool (hasS S k)) w := by
  obtain ⟨es, clock, hb, hkeys, hv⟩ := h
  obtain ⟨f1, f2⟩ := findNow_set k es.toList S 0 hkeys hv
  have hkey : MapKept.IsKey .string (.string k) := by simp [MapKept.IsKey]
  cases hc : hasS S k
  · have hf := f2 hc
    simp [Instr.lookup, run_underlying ht, MapKept.run_getObj_map hb, MapKept.run_checkKey hk hkey, MapKept.run_findKey hk hf, Result.andThen, hz]
  · obtain ⟨j, hf⟩ := f1 hc
    simp [Instr.lookup, run_underlying ht, MapKept.run_getObj_map hb, MapKept.run_checkKey hk hkey, MapKept.run_findKey hk hf, Result.andThen]

theorem run_update_set (t : TypeId) (kt vt : TypeId) (P : Program) (ht : P.underlying t = some (.map kt vt)) (hk : P.underlying kt = some .string) (w : World)
    (b : Nat) (S : List ByteArray) (h : SetAt w b S) (k : ByteArray) (hn : hasS S k = false) :
    ∃ w', (Instr.mapUpdate t (.map (some b)) (.string k) (.bool true)).run P w = .ok () w' ∧ SetAt w' b (S ++ [k]) ∧ Below b w w' ∧ (∀ j, j ≠ b → w'.heap[j]? = w.heap[j]?) ∧ w'.heap.size = w.heap.size := by
  obtain ⟨es, clock, hb, hkeys, hv⟩ := h
  obtain ⟨f1, f2⟩ := findNow_set k es.toList S 0 hkeys hv
  have hf := f2 hn
  have hlt : b < w.heap.size := (Array.getElem?_eq_some_iff.1 hb).1
  have hkey : MapKept.IsKey .string (.string k) := by simp [MapKept.IsKey]
  refine ⟨{ w with heap := w.heap.setIfInBounds b (.map (es.push { key := .string k, val := .bool true, born := clock }) (clock + 1)) }, ?_, ⟨es.push { key := .string k, val := .bool true, born := clock }, clock + 1, ?_, ?_, ?_⟩, ?_, ?_, ?_⟩
  · simp [Instr.mapUpdate, run_underlying ht, MapKept.run_getObj_map hb, MapKept.run_checkKey hk hkey, MapKept.run_findKey hk hf, MapKept.run_setObj_map _ hb, Result.andThen]
  · simp [hlt]
  · simp [hkeys]
  · intro e he
    simp at he
    rcases he with he | rfl
    · exact hv e (by simpa using he)
    · rfl
  · exact ⟨rfl, rfl, rfl, by simp, fun j hj => by simp [Array.getElem?_setIfInBounds]; omega⟩
  · intro j hj
    simp [Array.getElem?_setIfInBounds]
    omega
  · simp

theorem SetAt.new (w : World) : SetAt (w.alloc (.map #[] 0)) w.heap.size [] := ⟨#[], 0, (MapKept.heap_alloc w _).1, rfl, by simp⟩
theorem SetAt.lt {w : World} {b : Nat} {S : List ByteArray} (h : SetAt w b S) : b < w.heap.size := by
  obtain ⟨es, clock, hb, _⟩ := h
  exact (Array.getElem?_eq_some_iff.1 hb).1
theorem SetAt.ext {w w' : World} {b : Nat} {S : List ByteArray} (h : SetAt w b S) (hb : Ext w w') : SetAt w' b S := by
  have hlt := h.lt
  obtain ⟨es, clock, he, h1, h2⟩ := h
  exact ⟨es, clock, (hb.block b hlt).trans he, h1, h2⟩

/-- All that was there is as it was, but for block b. -/
structure ExtBut (b : Nat) (w w' : World) : Prop where
  os : w'.os = w.os
  tape : w'.tape = w.tape
  output : w'.output = w.output
  size : w.heap.size ≤ w'.heap.size
  block : ∀ k, k < w.heap.size → k ≠ b → w'.heap[k]? = w.heap[k]?
theorem ExtBut.rf (b : Nat) (w : World) : ExtBut b w w := ⟨rfl, rfl, rfl, Nat.le_refl _, fun _ _ _ => rfl⟩
theorem Ext.but {w w' : World} (h : Ext w w') (b : Nat) : ExtBut b w w' := ⟨h.os, h.tape, h.output, h.size, fun k hk _ => h.block k hk⟩
theorem ExtBut.tr {b : Nat} {w1 w2 w3 : World} (h : ExtBut b w1 w2) (k : ExtBut b w2 w3) : ExtBut b w1 w3 :=
  ⟨k.os.trans h.os, k.tape.trans h.tape, k.output.trans h.output, Nat.le_trans h.size k.size, fun i hi hn => (k.block i (Nat.lt_of_lt_of_le hi h.size) hn).trans (h.block i hi hn)⟩
theorem ExtBut.below {b : Nat} {w w' : World} (h : ExtBut b w w') (hb : b ≤ w.heap.size) : Below b w w' :=
  ⟨h.os, h.tape, h.output, h.size, fun k hk => h.block k (by omega) (by omega)⟩
theorem ExtBut.cell {b : Nat} {w w' : World} (h : ExtBut b w w') {p : Addr} {v : Value} (hv : w.cell? p = some v) (hp : p.block ≠ b) : w'.cell? p = some v :=
  (World.cell?_of_block (w := w) (h.block p.block (cell_lt hv) hp)).trans hv
theorem set_ne_cell {w : World} {b : Nat} {S : List ByteArray} (h : SetAt w b S) {p : Addr} {v : Value} (hv : w.cell? p = some v) : p.block ≠ b := by
  obtain ⟨es, clock, he, _⟩ := h
  rintro rfl
  unfold World.cell? at hv
  rw [he] at hv
  cases hv
/-- A cell is no place of the set's. -/
theorem ExtBut.keep {b : Nat} {w w' : World} {S : List ByteArray} (h : ExtBut b w w') (hs : SetAt w b S) {p : Addr} {v : Value} (hv : w.cell? p = some v) : w'.cell? p = some v :=
  h.cell hv (set_ne_cell hs hv)
section
variable {w w' : World} {v : Value} {b : Nat} {S : List ByteArray}
theorem RArgs.but {l : List Arg} (h : RArgs w v l) (hb : ExtBut b w w') (hs : SetAt w b S) : RArgs w' v l := by
  obtain ⟨A, c, rfl, h1, h2, h3⟩ := h
  refine ⟨A, c, rfl, h1, h2, fun i a hi => ?_⟩
  obtain ⟨b, o, rfl, hlt, h4, h5⟩ := h3 i a hi
  exact ⟨b, o, rfl, Nat.lt_of_lt_of_le hlt hb.size, hb.keep hs h4, hb.keep hs h5⟩
theorem RXtors.but {l : List Xtor} (h : RXtors w v l) (hb : ExtBut b w w') (hs : SetAt w b S) : RXtors w' v l := by
  obtain ⟨A, c, rfl, h1, h2, h3⟩ := h
  refine ⟨A, c, rfl, h1, h2, fun i a hi => ?_⟩
  obtain ⟨b, o, va, rfl, hlt, h4, h5, h6, h7⟩ := h3 i a hi
  exact ⟨b, o, va, rfl, Nat.lt_of_lt_of_le hlt hb.size, hb.keep hs h4, hb.keep hs h5, h6.but hb hs, h7⟩
theorem RDecls.but {l : List Decl} (h : RDecls w v l) (hb : ExtBut b w w') (hs : SetAt w b S) : RDecls w' v l := by
  obtain ⟨A, c, rfl, h1, h2, h3⟩ := h
  refine ⟨A, c, rfl, h1, h2, fun i a hi => ?_⟩
  obtain ⟨b, o, va, rfl, hlt, h4, h5, h6, h7, h8⟩ := h3 i a hi
  exact ⟨b, o, va, rfl, Nat.lt_of_lt_of_le hlt hb.size, hb.keep hs h4, hb.keep hs h5, hb.keep hs h6, h7.but hb hs, h8⟩
end

set_option maxRecDepth 100000 in
/-- 'nameSet.add': new names are added and told. -/
theorem add_any (b : Nat) (S : List ByteArray) (k : ByteArray) (w : World) (h : SetAt w b S) :
    Calls Tryz.prog 141 #[.map (some b), .string k] w fun e w' => e = .returned (.bool (!hasS S k)) ∧ SetAt w' b (if hasS S k then S else S ++ [k]) ∧ ExtBut b w w' := by
  have hz : (zeroValue 4).run Tryz.prog w = .ok (.bool false) w := by kernel_rfl
  have hl := run_lookup_set 224 9 4 Tryz.prog Tryz.underlying224 Tryz.underlying9 w hz b S h k
  have HA := Lib.hid h
  clear h
  cases hc : hasS S k
  · rw [hc] at hl
    obtain ⟨w1, hu, hs, hb1, hoth, hsz⟩ := run_update_set 224 9 4 Tryz.prog Tryz.underlying224 Tryz.underlying9 w b S HA.out k hc
    have HS := Lib.hid hs; clear hs
    have HX : Hid (ExtBut b w w1) := ⟨hb1.os, hb1.tape, hb1.output, hb1.size, fun k _ hk => hoth k hk⟩
    clear hb1 hoth hsz hc hz
    go_enter Tryz.func141, Tryz.ntmps141
    go_wp2
    go_ret
    exact ⟨rfl, HS.out, HX.out⟩
  · rw [hc] at hl
    clear hc
    go_enter Tryz.func141, Tryz.ntmps141
    go_wp2
    go_ret
    exact ⟨rfl, HA.out, ExtBut.rf _ _⟩
end Go.Proofs.YtkdhhcidpklgoaaGreatDoor

namespace Go.Proofs.YtkdhhcidpklgoaaGreatDoor
open Go.RowKit


/-- A declaration as a value. -/
def RDecl (w : World) (v : Value) (d : Decl) : Prop := ∃ va, v = .agg #[.string d.name, .bool d.codata, va] ∧ RXtors w va d.xtors ∧ d.name.size ≤ maxLen

end Go.Proofs.YtkdhhcidpklgoaaGreatDoor

namespace Go.Proofs.YtkdhhcidpklgoaaGreatDoor
open Go.RowKit

theorem okX_bad1 {t : Int} {S : List ByteArray} {x : Xtor} (h : xtorB x.name = false) : okX t S x = false := by simp [okX, h]
theorem okX_bad2 {t : Int} {S : List ByteArray} {x : Xtor} (h : hasS S x.name = true) : okX t S x = false := by simp [okX, h]
theorem okX_bad3 {t : Int} {S : List ByteArray} {x : Xtor} (h : ¬ x.args.length ≤ 6) : okX t S x = false := by simp [okX, h]
theorem okX_good {t : Int} {S : List ByteArray} {x : Xtor} (h1 : xtorB x.name = true) (h2 : hasS S x.name = false) (h3 : x.args.length ≤ 6) : okX t S x = x.args.all (okTy t) := by simp [okX, h1, h2, h3]
theorem okTy_bad {t : Int} {a : Arg} (h : a.ty < 0 ∨ t < a.ty) : okTy t a = false := by simp [okTy]; omega
theorem okTy_good {t : Int} {a : Arg} (h : 0 ≤ a.ty) (h2 : a.ty ≤ t) : okTy t a = true := by simp [okTy]; omega

/-- What a check answers, and what becomes of the set. -/
structure VPost (b : Nat) (r : Bool) (S : List ByteArray) (w : World) (e : Ending) (w' : World) : Prop where
  ret : e = .returned (.bool r)
  yes : r = true → SetAt w' b S
  any : ∃ S', SetAt w' b S'
  ext : ExtBut b w w'
theorem VPost.no {b : Nat} {r : Bool} {S S' : List ByteArray} {w w' : World} (h : r = false) (hs : SetAt w' b S') (hx : ExtBut b w w') : VPost b r S w (.returned (.bool false)) w' :=
  ⟨by rw [h], (fun e => by rw [h] at e; cases e), ⟨S', hs⟩, hx⟩
theorem VPost.yes_ {b : Nat} {r : Bool} {S : List ByteArray} {w w' : World} (h : r = true) (hs : SetAt w' b S) (hx : ExtBut b w w') : VPost b r S w (.returned (.bool true)) w' :=
  ⟨by rw [h], fun _ => hs, ⟨S, hs⟩, hx⟩

theorem validXtor_any (b : Nat) (S : List ByteArray) (va : Value) (x : Xtor) (t : Int) (w : World) (hs : SetAt w b S) (hx : RArgs w va x.args) (hn : x.name.size ≤ maxLen) :
    Calls Tryz.prog 142 #[.agg #[.string x.name, va], .int .i64 t, .map (some b)] w (VPost b (okX t S x) (S ++ [x.name]) w) := by
  have HB1 := Lib.hid (@okX_bad1 t S x)
  have HB2 := Lib.hid (@okX_bad2 t S x)
  have HB3 := Lib.hid (@okX_bad3 t S x)
  have HG := Lib.hid (@okX_good t S x)
  have HE := Lib.hid (Ext.al w (Obj.cells #[Value.string x.name, va] 55))
  have HR := Lib.hid (hx.below HE.out)
  have HS := Lib.hid (hs.ext HE.out)
  have hc0 : (w.alloc (Obj.cells #[Value.string x.name, va] 55)).cell? ⟨w.heap.size, 0, none⟩ = some (.string x.name) := by
    rw [World.cell?_alloc_at _ _ _ _ rfl]; rfl
  have hc1 : (w.alloc (Obj.cells #[Value.string x.name, va] 55)).cell? ⟨w.heap.size, 1, none⟩ = some va := by
    rw [World.cell?_alloc_at _ _ _ _ rfl]; rfl
  obtain ⟨A, c, rfl, hc, hm⟩ := hx.form
  clear hx hs
  unfold maxLen at hm
  go_enter Tryz.func142, Tryz.ntmps142
  go_wp2_with fail
  generalize w.alloc _ = w1 at *
  (with_reducible refine (Xtor_any _ _ hn).mono ?_)
  rintro e w' ⟨rfl, rfl⟩
  cases hq : xtorB x.name
  · have HQ := Lib.hid (HB1.out hq)
    clear hq
    go_wp2
    go_ret
    exact .no HQ.out HS.out (HE.out.but _)
  · have HQ := Lib.hid hq; clear hq
    go_wp2_with fail
    (with_reducible refine (add_any _ _ _ _ HS.out).mono ?_)
    rintro e w2 ⟨rfl, hs2, hx2⟩
    have hc0 := hx2.keep HS.out hc0
    have hc1 := hx2.keep HS.out hc1
    have HR2 := Lib.hid (HR.out.but hx2 HS.out)
    have HX2 := Lib.hid ((HE.out.but _).tr hx2); clear hx2
    cases hq : hasS S x.name
    · rw [hq] at hs2
      have HS2 := Lib.hid hs2; clear hs2
      have HQ2 := Lib.hid hq; clear hq
      by_cases h6 : x.args.length ≤ 6
      · have HG := Lib.hid (HG.out HQ.out HQ2.out h6)
        generalize x.args = l at *
        go_wp2
        go_loopw [29] (fun i wr => ∃ k : Nat, k ≤ l.length ∧ i = .int .i64 k ∧ Ext w2 wr ∧ l.all (okTy t) = (l.drop k).all (okTy t)) (fun i _ => l.length - (intOf i).toNat)
        case atStart => exact ⟨0, Nat.zero_le _, rfl, Ext.rf _, by simp⟩
        case round =>
          obtain ⟨k, hk, rfl, hb, hno⟩ := hrel
          have HN := Lib.hid hno; have HB := Lib.hid hb; clear hno hb
          by_cases hlt : k < l.length
          · have HRk := Lib.hid (HR2.out.below HB.out)
            obtain ⟨b2, o, rfl, hbl, h0, h1⟩ := HRk.out.at_ hlt
            have HD := Lib.hid (drop_step hlt)
            generalize l[k] = a at *
            have HW := Lib.hid (HB.out.tr (Ext.al wr (Obj.cells #[Value.int IntKind.i64 a.ty, Value.bool a.co] 114)))
            by_cases hA : 0 ≤ a.ty <;> by_cases hB : a.ty ≤ t
            · have HQ3 := Lib.hid (okTy_good hA hB)
              go_wp2
              go_roundw
              case rel => exact ⟨k + 1, by omega, by go_num, HW.out, by rw [HN.out, HD.out, List.all_cons, HQ3.out]; rfl⟩
              case measure => simp [intOf]; omega
            all_goals
              have HQ3 := Lib.hid (okTy_bad (t := t) (a := a) (by omega))
              go_wp2
              go_ret
              exact .no (by rw [HG.out, HN.out, HD.out, List.all_cons, HQ3.out]; rfl) (HS2.out.ext HW.out) (HX2.out.tr (HW.out.but _))
          · go_wp2
            go_ret
            exact .yes_ (by rw [HG.out, HN.out, drop_end hlt]; rfl) (HS2.out.ext HB.out) (HX2.out.tr (HB.out.but _))
      · have HQ3 := Lib.hid (HB3.out h6)
        go_wp2
        go_ret
        exact .no HQ3.out HS2.out HX2.out
    · have HQ2 := Lib.hid (HB2.out hq)
      rw [hq] at hs2
      have HS2 := Lib.hid hs2; clear hs2 hq
      go_wp2
      go_ret
      exact .no HQ2.out HS2.out HX2.out


theorem okD_bad1 {t : Int} {S : List ByteArray} {d : Decl} (h : nameB d.name = false) : okD t S d = false := by simp [okD, h]
theorem okD_bad2 {t : Int} {S : List ByteArray} {d : Decl} (h : hasS S d.name = true) : okD t S d = false := by simp [okD, h]
theorem okD_bad3 {t : Int} {S : List ByteArray} {d : Decl} (h : ¬ (1 ≤ d.xtors.length ∧ d.xtors.length ≤ 6)) : okD t S d = false := by
  unfold okD
  by_cases h1 : 1 ≤ d.xtors.length
  · have h2 : ¬ d.xtors.length ≤ 6 := fun h2 => h ⟨h1, h2⟩
    simp [h2]
  · simp [h1]
theorem okD_good {t : Int} {S : List ByteArray} {d : Decl} (h1 : nameB d.name = true) (h2 : hasS S d.name = false) (h3 : 1 ≤ d.xtors.length) (h4 : d.xtors.length ≤ 6) : okD t S d = okXs t (S ++ [d.name]) d.xtors := by simp [okD, h1, h2, h3, h4]
theorem addXs_cons (S : List ByteArray) (x : Xtor) (l : List Xtor) : addXs S (x :: l) = addXs (S ++ [x.name]) l := by simp [addXs]
theorem addXs_nil (S : List ByteArray) : addXs S [] = S := by simp [addXs]
theorem okXs_cons (t : Int) (S : List ByteArray) (x : Xtor) (l : List Xtor) : okXs t S (x :: l) = (okX t S x && okXs t (S ++ [x.name]) l) := rfl

theorem validDecl_any (b : Nat) (S : List ByteArray) (v : Value) (d : Decl) (t : Int) (w : World) (hs : SetAt w b S) (hd : RDecl w v d) :
    Calls Tryz.prog 128 #[v, .int .i64 t, .map (some b)] w (VPost b (okD t S d) (addD S d) w) := by
  have HB1 := Lib.hid (@okD_bad1 t S d)
  have HB2 := Lib.hid (@okD_bad2 t S d)
  have HB3 := Lib.hid (@okD_bad3 t S d)
  have HG := Lib.hid (@okD_good t S d)
  have HAD : Hid (addD S d = addXs (S ++ [d.name]) d.xtors) := rfl
  obtain ⟨va, rfl, hx, hn⟩ := hd
  generalize hrr : okD t S d = rr at *
  generalize hSS : addD S d = SS at *
  clear hrr hSS
  obtain ⟨nm, co, l⟩ := d
  dsimp only at *
  have HE := Lib.hid (Ext.al w (Obj.cells #[Value.string nm, Value.bool co, va] 58))
  have HR := Lib.hid (hx.below HE.out)
  have HS := Lib.hid (hs.ext HE.out)
  have hc0 : (w.alloc (Obj.cells #[Value.string nm, Value.bool co, va] 58)).cell? ⟨w.heap.size, 0, none⟩ = some (.string nm) := by
    rw [World.cell?_alloc_at _ _ _ _ rfl]; rfl
  have hc2 : (w.alloc (Obj.cells #[Value.string nm, Value.bool co, va] 58)).cell? ⟨w.heap.size, 2, none⟩ = some va := by
    rw [World.cell?_alloc_at _ _ _ _ rfl]; rfl
  obtain ⟨A, c, rfl, hc, hm⟩ := hx.form
  clear hx hs
  unfold maxLen at hm
  go_enter Tryz.func128, Tryz.ntmps128
  go_wp2_with fail
  generalize w.alloc _ = w1 at *
  (with_reducible refine (Plain_any _ _ hn).mono ?_)
  rintro e w' ⟨rfl, rfl⟩
  cases hq : nameB nm
  · have HQ := Lib.hid (HB1.out hq)
    clear hq
    go_wp2
    go_ret
    exact .no HQ.out HS.out (HE.out.but _)
  · have HQ := Lib.hid hq; clear hq
    go_wp2_with fail
    (with_reducible refine (add_any _ _ _ _ HS.out).mono ?_)
    rintro e w2 ⟨rfl, hs2, hx2⟩
    have hc0 := hx2.keep HS.out hc0
    have hc2 := hx2.keep HS.out hc2
    have HR2 := Lib.hid (HR.out.but hx2 HS.out)
    have HX2 := Lib.hid ((HE.out.but _).tr hx2); clear hx2
    cases hq : hasS S nm
    · rw [hq] at hs2
      have HS2 : Hid (SetAt w2 b (S ++ [nm])) := hs2
      clear hs2
      have HQ2 := Lib.hid hq; clear hq
      by_cases h6 : 1 ≤ l.length ∧ l.length ≤ 6
      · obtain ⟨h5, h6⟩ := h6
        have HG := Lib.hid (HG.out HQ.out HQ2.out h5 h6)
        generalize S ++ [nm] = S1 at *
        go_wp2
        go_loopw [33] (fun i wr => ∃ (k : Nat) (S' : List ByteArray), k ≤ l.length ∧ i = .int .i64 k ∧ SetAt wr b S' ∧ ExtBut b w2 wr ∧ okXs t S1 l = okXs t S' (l.drop k) ∧ addXs S1 l = addXs S' (l.drop k)) (fun i _ => l.length - (intOf i).toNat)
        case atStart => exact ⟨0, S1, Nat.zero_le _, rfl, HS2.out, ExtBut.rf _ _, rfl, rfl⟩
        case round =>
          obtain ⟨k, S', hk, rfl, hs3, hb, hno, had⟩ := hrel
          have HN := Lib.hid hno; have HB := Lib.hid hb; have HA := Lib.hid had; have HS3 := Lib.hid hs3; clear hno hb had hs3
          by_cases hlt : k < l.length
          · have HRk := Lib.hid (HR2.out.but HB.out HS2.out)
            obtain ⟨b2, o, vx, rfl, hbl, h0, h1, hx, hxn⟩ := HRk.out.at_ hlt
            have HD := Lib.hid (drop_step hlt)
            generalize l[k] = x at *
            obtain ⟨A2, c2, rfl, -⟩ := hx.form
            have HW := Lib.hid (Ext.al wr (Obj.cells #[Value.string x.name, Value.slice A2 x.args.length c2] 55))
            have HXa := Lib.hid (hx.below HW.out); clear hx
            go_wp2_with fail
            (with_reducible refine (validXtor_any _ _ _ _ _ _ (HS3.out.ext HW.out) HXa.out hxn).mono ?_)
            rintro e w3 ⟨rfl, hyes, hany, hx3⟩
            have HX3 := Lib.hid ((HB.out.tr (HW.out.but _)).tr hx3); have HY := Lib.hid hyes; have HAny := Lib.hid hany; clear hx3 hyes hany
            cases hq : okX t S' x
            · have HQ3 := Lib.hid hq; clear hq
              go_wp2
              go_ret
              obtain ⟨S4, hs4⟩ := HAny.out
              exact .no (by rw [HG.out, HN.out, HD.out, okXs_cons, HQ3.out]; rfl) hs4 (HX2.out.tr HX3.out)
            · have HQ3 := Lib.hid hq; clear hq
              go_wp2
              go_roundw
              case rel => exact ⟨k + 1, S' ++ [x.name], by omega, by go_num, HY.out HQ3.out, HX3.out, by rw [HN.out, HD.out, okXs_cons, HQ3.out]; rfl, by rw [HA.out, HD.out, addXs_cons]⟩
              case measure => simp [intOf]; omega
          · go_wp2
            go_ret
            exact .yes_ (by rw [HG.out, HN.out, drop_end hlt]; rfl) (by rw [HAD.out, HA.out, drop_end hlt, addXs_nil]; exact HS3.out) (HX2.out.tr HB.out)
      · have HQ3 := Lib.hid (HB3.out h6)
        by_cases h5 : 1 ≤ l.length
        all_goals
          have h7 : ¬ l.length ≤ 6 ∨ ¬ 1 ≤ l.length := by omega
          go_wp2
          go_ret
          exact .no HQ3.out HS2.out HX2.out
    · have HQ2 := Lib.hid (HB2.out hq)
      rw [hq] at hs2
      have HS2 := Lib.hid hs2; clear hs2 hq
      go_wp2
      go_ret
      exact .no HQ2.out HS2.out HX2.out

theorem Ext.butNew {w w1 w2 : World} (h : Ext w w1) (k : ExtBut w.heap.size w1 w2) : Ext w w2 :=
  ⟨k.os.trans h.os, k.tape.trans h.tape, k.output.trans h.output, Nat.le_trans h.size k.size, fun i hi => (k.block i (Nat.lt_of_lt_of_le hi h.size) (by omega)).trans (h.block i hi)⟩
theorem okDs_cons (t : Int) (S : List ByteArray) (d : Decl) (l : List Decl) : okDs t S (d :: l) = (okD t S d && okDs t (addD S d) l) := rfl
theorem validB_bad {l : List Decl} (h : ¬ l.length ≤ 8) : validB l = false := by simp [validB, h]
theorem validB_good {l : List Decl} (h : l.length ≤ 8) : validB l = okDs l.length [] l := by simp [validB, h]

theorem valid_any (v : Value) (l : List Decl) (w : World) (h : RDecls w v l) :
    Calls Tryz.prog 107 #[v] w fun e w' => e = .returned (.bool (validB l)) ∧ Ext w w' := by
  have HB := Lib.hid (@validB_bad l)
  have HG := Lib.hid (@validB_good l)
  generalize hrr : validB l = rr at *
  clear hrr
  have HE := Lib.hid (Ext.al w (Obj.map #[] 0))
  have HR := Lib.hid (h.below HE.out)
  have HS := Lib.hid (SetAt.new w)
  obtain ⟨A, c, rfl, hc, hm⟩ := h.form
  clear h
  unfold maxLen at hm
  have hmm := @run_makeMap Tryz.prog
  go_enter Tryz.func107, Tryz.ntmps107
  by_cases h8 : l.length ≤ 8
  · have HG := Lib.hid (HG.out h8)
    go_wp2
    have HZ2 : Hid (∀ w2, ExtBut w.heap.size (w.alloc (Obj.map #[] 0)) w2 → Ext w w2) := fun w2 h => Ext.butNew HE.out h
    generalize w.alloc _ = w1 at *
    generalize hbb : w.heap.size = b0 at *
    clear hbb
    go_loopw [12] (fun i wr => ∃ (k : Nat) (S' : List ByteArray), k ≤ l.length ∧ i = .int .i64 k ∧ SetAt wr b0 S' ∧ ExtBut b0 w1 wr ∧ okDs l.length [] l = okDs l.length S' (l.drop k)) (fun i _ => l.length - (intOf i).toNat)
    case atStart => exact ⟨0, [], Nat.zero_le _, rfl, HS.out, ExtBut.rf _ _, rfl⟩
    case round =>
      obtain ⟨k, S', hk, rfl, hs3, hb, hno⟩ := hrel
      have HN := Lib.hid hno; have HB := Lib.hid hb; have HS3 := Lib.hid hs3; clear hno hb hs3
      by_cases hlt : k < l.length
      · have HRk := Lib.hid (HR.out.but HB.out HS.out)
        obtain ⟨b2, o, vx, rfl, hbl, h0, h1, h2, hx, hxn⟩ := HRk.out.at_ hlt
        have HD := Lib.hid (drop_step hlt)
        generalize l[k] = d at *
        obtain ⟨A2, c2, rfl, -⟩ := hx.form
        have HW := Lib.hid (Ext.al wr (Obj.cells #[Value.string d.name, Value.bool d.codata, Value.slice A2 d.xtors.length c2] 58))
        have HXa : Hid (RDecl _ _ d) := ⟨_, rfl, hx.below HW.out, hxn⟩
        clear hx
        go_wp2_with fail
        (with_reducible refine (validDecl_any _ _ _ _ _ _ (HS3.out.ext HW.out) HXa.out).mono ?_)
        rintro e w3 ⟨rfl, hyes, hany, hx3⟩
        have HX3 := Lib.hid ((HB.out.tr (HW.out.but _)).tr hx3); have HY := Lib.hid hyes; clear hx3 hyes hany
        cases hq : okD l.length S' d
        · have HQ3 := Lib.hid hq; clear hq
          go_wp2
          go_ret
          exact ⟨ret_bool (by rw [HG.out, HN.out, HD.out, okDs_cons, HQ3.out]; rfl), HZ2.out _ HX3.out⟩
        · have HQ3 := Lib.hid hq; clear hq
          go_wp2
          go_roundw
          case rel => exact ⟨k + 1, addD S' d, by omega, by go_num, HY.out HQ3.out, HX3.out, by rw [HN.out, HD.out, okDs_cons, HQ3.out]; rfl⟩
          case measure => simp [intOf]; omega
      · go_wp2
        go_ret
        exact ⟨ret_bool (by rw [HG.out, HN.out, drop_end hlt]; rfl), HZ2.out _ HB.out⟩
  · have HQ := Lib.hid (HB.out h8)
    go_wp2
    go_ret
    exact ⟨ret_bool HQ.out.symm, Ext.rf _⟩
end Go.Proofs.YtkdhhcidpklgoaaGreatDoor
