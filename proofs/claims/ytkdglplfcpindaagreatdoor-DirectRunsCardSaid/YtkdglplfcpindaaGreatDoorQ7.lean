import Derived.Test.YtkdglplfcpindaaGreatDoorQ6
set_option maxRecDepth 100000
namespace Go.Proofs.YtkdglplfcpindaaGreatDoor
open Go.RowKit
def RSc (w : World) (v : Value) (m : Nat) (V L : Scp) : Prop :=
  ∃ a b c d f1 f2 f3 f4, v = sV a b c d /\ SetV w a m f1 /\ SetV w b m f2 /\ SetV w c m f3 /\ SetV w d m f4 /\ V = (fun k => f1 k || f3 k) /\ L = (fun k => f2 k || f4 k)
theorem RSc.ext {w w' : World} {v : Value} {m : Nat} {V L : Scp} (h : RSc w v m V L) (hb : Ext w w') : RSc w' v m V L := by
  obtain ⟨a, b, c, d, f1, f2, f3, f4, e, h1, h2, h3, h4, h5⟩ := h
  exact ⟨a, b, c, d, f1, f2, f3, f4, e, h1.ext hb, h2.ext hb, h3.ext hb, h4.ext hb, h5⟩
theorem RSc.mono {w : World} {v : Value} {m n : Nat} {V L : Scp} (h : RSc w v m V L) (hb : m <= n) : RSc w v n V L := by
  obtain ⟨a, b, c, d, f1, f2, f3, f4, e, h1, h2, h3, h4, h5⟩ := h
  exact ⟨a, b, c, d, f1, f2, f3, f4, e, h1.mono hb, h2.mono hb, h3.mono hb, h4.mono hb, h5⟩
theorem SetV.nil (w : World) (n : Nat) : SetV w (.map none) n (fun _ => false) := .inl ⟨rfl, rfl⟩
theorem box4_set {w : World} {r T : Nat} {a b c d : Value} (h : w.heap[r]? = some (.cells #[a, b, c, d] T (0, 0))) (a' b' c' d' : Value) :
    ((((w.setCell ⟨r, 0, none⟩ a').setCell ⟨r, 1, none⟩ b').setCell ⟨r, 2, none⟩ c').setCell ⟨r, 3, none⟩ d').heap[r]? = some (.cells #[a', b', c', d'] T (0, 0)) := by
  simp [World.setCell, Array.getElem?_modify, h]
theorem set4_other {w : World} {r j : Nat} (h : j ≠ r) (a' b' c' d' : Value) :
    ((((w.setCell ⟨r, 0, none⟩ a').setCell ⟨r, 1, none⟩ b').setCell ⟨r, 2, none⟩ c').setCell ⟨r, 3, none⟩ d').heap[j]? = w.heap[j]? :=
  (sO _ h).trans ((sO _ h).trans ((sO _ h).trans (sO _ h)))
set_option maxHeartbeats 1000000 in
theorem newScope_any (v1 v2 : Value) (l1 l2 : List Str) (w : World) (h1 : RStrs w v1 l1) (h2 : RStrs w v2 l2) :
    Calls Tryz.prog 108 #[v1, v2] w fun e w' => (∃ v, e = .returned v /\ RSc w' v (l1.length + l2.length) (hasS l1) (hasS l2)) /\ Ext w w' := by
  have H1 := LH h1; have H2 := LH h2
  clear h1 h2
  have HE := LH (Ext.al w (.cells #[.map none, .map none, .map none, .map none] 194))
  have hr := hNw w (.cells #[.map none, .map none, .map none, .map none] 194)
  go_enter Tryz.func108, Tryz.ntmps108
  go_wp2_with fail
  generalize w.alloc _ = w1 at *
  have HR := LH hr
  clear hr
  (with_reducible refine (newNameSet_any v1 l1 _ (H1.out.below HE.out)).mono ?_)
  rintro e w2 ⟨rfl, hs, hb⟩
  have HS := LH hs; have HB := LH hb
  clear hs hb
  go_wp2_with fail
  (with_reducible refine (newNameSet_any v2 l2 _ (H2.out.below (HE.out.tr HB.out))).mono ?_)
  rintro e w3 ⟨rfl, hs, hb⟩
  have HS3 := LH hs; have HB3 := LH hb
  clear hs hb
  have hr3 := ((HB.out.tr HB3.out).block _ (hLt HR.out)).trans HR.out
  have c0 := cA hr3 0
  have c1 := cA hr3 1
  have c2 := cA hr3 2
  have c3 := cA hr3 3
  have f0 := fA hr3 0
  have f1 := fA hr3 1
  have f2 := fA hr3 2
  have f3 := fA hr3 3
  have HR3 := LH hr3
  have hl1 := HS.out.lt
  have hl3 := HS3.out.lt
  have hz1 := hLt HR.out
  have hz2 := HB.out.size
  clear hr3
  go_wp2
  have hk := box4_set HR3.out (.map (some w1.heap.size)) (.map (some w2.heap.size)) (.map none) (.map none)
  have HO : Hid (∀ j, j ≠ w.heap.size -> ((((w3.setCell ⟨w.heap.size, 0, none⟩ (.map (some w1.heap.size))).setCell ⟨w.heap.size, 1, none⟩ (.map (some w2.heap.size))).setCell ⟨w.heap.size, 2, none⟩ (.map none)).setCell ⟨w.heap.size, 3, none⟩ (.map none)).heap[j]? = w3.heap[j]?) := fun j h => set4_other h _ _ _ _
  have HX : Hid (Ext w ((((w3.setCell ⟨w.heap.size, 0, none⟩ (.map (some w1.heap.size))).setCell ⟨w.heap.size, 1, none⟩ (.map (some w2.heap.size))).setCell ⟨w.heap.size, 2, none⟩ (.map none)).setCell ⟨w.heap.size, 3, none⟩ (.map none))) :=
    Below.setNew (Below.setNew (Below.setNew (Below.setNew (HE.out.tr (HB.out.tr HB3.out)) (Nat.le_refl _) _) (Nat.le_refl _) _) (Nat.le_refl _) _) (Nat.le_refl _) _
  clear c0 c1 c2 c3 f0 f1 f2 f3
  generalize ((((w3.setCell _ _).setCell _ _).setCell _ _).setCell _ _) = w4 at *
  have c0 := cA hk 0
  have c1 := cA hk 1
  have c2 := cA hk 2
  have c3 := cA hk 3
  refine bodyPost_ret (v := sV (.map (some w1.heap.size)) (.map (some w2.heap.size)) (.map none) (.map none)) (by simp [results, go_sem, c0, c1, c2, c3]) rfl ?_
  refine ⟨⟨_, rfl, _, _, _, _, _, _, _, _, rfl, .inr ⟨_, rfl, (((HS.out.ext HB3.out).block (HO.out _ (by omega)))).mono (by omega)⟩, .inr ⟨_, rfl, (HS3.out.block (HO.out _ (by omega))).mono (by omega)⟩, SetV.nil _ _, SetV.nil _ _, ?_, ?_⟩, HX.out⟩
  . funext k; simp
  . funext k; simp
theorem SetV.walks {w w' : World} {v : Value} {n : Nat} {f : Str -> Bool} (h : SetV w v n f) (hk : KeepsWalks w w') : SetV w' v n f := by
  rcases h with h | ⟨b, e, h⟩
  . exact .inl h
  . obtain ⟨es, clock, he⟩ := h.is
    exact .inr ⟨b, e, h.block ((hk.same b _ he rfl).trans he.symm)⟩
theorem keeps5 (w : World) (p1 p2 p3 p4 p5 : Addr) (v1 v2 v3 v4 v5 : Value) : KeepsWalks w (((((w.setCell p1 v1).setCell p2 v2).setCell p3 v3).setCell p4 v4).setCell p5 v5) :=
  ((((KeepsWalks.setCell _ _ _).trans (KeepsWalks.setCell _ _ _)).trans (KeepsWalks.setCell _ _ _)).trans (KeepsWalks.setCell _ _ _)).trans (KeepsWalks.setCell _ _ _)
theorem addV_nil (V : Scp) (b : Bool) : addV V ([], b) = V := by
  unfold addV
  cases b
  . funext k; simp [hasS]
  . rfl
theorem addL_nil (V : Scp) (b : Bool) : addL V ([], b) = V := by
  unfold addL
  cases b
  . rfl
  . funext k; simp [hasS]
set_option maxHeartbeats 2000000 in
theorem inside_any (v vn : Value) (m : Nat) (V L : Scp) (ns : List Str) (lab : Bool) (w : World) (h : RSc w v m V L) (hn : RStrs w vn ns) (hroom : ns.length + m <= maxLen) :
    Calls Tryz.prog 134 #[v, bV vn lab] w fun e w' => (∃ v, e = .returned v /\ RSc w' v (ns.length + m) (addV V (ns, lab)) (addL L (ns, lab))) /\ Ext w w' := by
  obtain ⟨a, b, c, d, f1, f2, f3, f4, rfl, h1, h2, h3, h4, rfl, rfl⟩ := h
  have H1 := LH h1; have H2 := LH h2; have H3 := LH h3; have H4 := LH h4; have HN := LH hn; have HM := LH hroom
  obtain ⟨pa, rfl⟩ := h1.form
  obtain ⟨pb, rfl⟩ := h2.form
  obtain ⟨pc, rfl⟩ := h3.form
  obtain ⟨pd, rfl⟩ := h4.form
  obtain ⟨An, cn, rfl, hcn, hmn⟩ := hn.form
  clear h1 h2 h3 h4 hn hroom
  unfold maxLen at hmn
  have HE : Hid (Ext w (((w.alloc (.cells #[.map pa, .map pb, .map pc, .map pd] 194)).alloc (.cells #[.slice An ns.length cn, .bool lab] 228)).alloc (.cells #[.map none, .map none, .map none, .map none] 194))) := Ext.al3 _ _ _ _
  have hA := hNw w (.cells #[.map pa, .map pb, .map pc, .map pd] 194)
  have hB := hNw (w.alloc (.cells #[.map pa, .map pb, .map pc, .map pd] 194)) (.cells #[.slice An ns.length cn, .bool lab] 228)
  have hA3 := ((Ext.al2 _ (.cells #[.slice An ns.length cn, .bool lab] 228) (.cells #[.map none, .map none, .map none, .map none] 194)).block _ (hLt hA)).trans hA
  have hB3 := ((Ext.al _ (.cells #[.map none, .map none, .map none, .map none] 194)).block _ (hLt hB)).trans hB
  have hC3 := heapThird w (.cells #[.map pa, .map pb, .map pc, .map pd] 194) (.cells #[.slice An ns.length cn, .bool lab] 228) (.cells #[.map none, .map none, .map none, .map none] 194)
  rw [World.size_alloc] at hB3
  have HA3 := LH hA3; have HB3 := LH hB3; have HC3 := LH hC3
  clear hA hB hA3 hB3 hC3
  by_cases h0 : ns.length = 0
  . have hns := List.eq_nil_of_length_eq_zero h0
    subst hns
    rw [addV_nil, addL_nil]
    go_enter Tryz.func134, Tryz.ntmps134
    go_wp2
    refine bodyPost_ret (v := sV (.map pa) (.map pb) (.map pc) (.map pd)) (by simp [results, go_sem]) rfl ⟨⟨_, rfl, ?_⟩, Ext.al3 _ _ _ _⟩
    exact RSc.mono (RSc.ext ⟨_, _, _, _, _, _, _, _, rfl, H1.out, H2.out, H3.out, H4.out, rfl, rfl⟩ (Ext.al3 _ _ _ _)) (by simp)
  . have h0' : ¬ (ns.length : Int) = 0 := by omega
    clear h0
    cases lab
    . go_enter Tryz.func134, Tryz.ntmps134
      go_wp2_with fail
      generalize ((w.alloc _).alloc _).alloc _ = w1 at *
      (with_reducible refine (with_any pc m f3 _ ns _ (HN.out.below HE.out) (H3.out.ext HE.out) HM.out).mono ?_)
      rintro e w2 ⟨⟨bm, rfl, hs⟩, hb⟩
      have HS := LH hs; have HB := LH hb
      have hA := (hb.block _ (hLt HA3.out)).trans HA3.out
      have hB := (hb.block _ (hLt HB3.out)).trans HB3.out
      have hC := (hb.block _ (hLt HC3.out)).trans HC3.out
      have a0 := cA hA 0
      have a1 := cA hA 1
      have a2 := cA hA 2
      have a3 := cA hA 3
      have f2' := fA hA 2
      have c0 := cA hC 0
      have c1 := cA hC 1
      have c2 := cA hC 2
      have c3 := cA hC 3
      have g0 := fA hC 0
      have g1 := fA hC 1
      have g2 := fA hC 2
      have g3 := fA hC 3
      have HA := LH hA; have HC := LH hC
      clear hs hb hA hB hC
      go_wp2
      have hk := box4_set ((sO (w := w2) (i := 2) (.map (some bm)) (show w.heap.size + 1 + 1 ≠ w.heap.size by omega)).trans HC.out) (.map pa) (.map pb) (.map (some bm)) (.map pd)
      have HKW := LH (keeps5 w2 ⟨w.heap.size, 2, none⟩ ⟨w.heap.size + 1 + 1, 0, none⟩ ⟨w.heap.size + 1 + 1, 1, none⟩ ⟨w.heap.size + 1 + 1, 2, none⟩ ⟨w.heap.size + 1 + 1, 3, none⟩ (.map (some bm)) (.map pa) (.map pb) (.map (some bm)) (.map pd))
      have HX := LH (Below.setNew (Below.setNew (Below.setNew (Below.setNew (Below.setNew (HE.out.tr HB.out) (show w.heap.size <= w.heap.size from Nat.le_refl _) (i := 2) (.map (some bm))) (show w.heap.size <= w.heap.size + 1 + 1 by omega) (i := 0) (.map pa)) (show w.heap.size <= w.heap.size + 1 + 1 by omega) (i := 1) (.map pb)) (show w.heap.size <= w.heap.size + 1 + 1 by omega) (i := 2) (.map (some bm))) (show w.heap.size <= w.heap.size + 1 + 1 by omega) (i := 3) (.map pd))
      clear a0 a1 a2 a3 f2' c0 c1 c2 c3 g0 g1 g2 g3
      generalize (((((w2.setCell _ _).setCell _ _).setCell _ _).setCell _ _).setCell _ _) = w4 at *
      have c0 := cA hk 0
      have c1 := cA hk 1
      have c2 := cA hk 2
      have c3 := cA hk 3
      refine bodyPost_ret (v := sV (.map pa) (.map pb) (.map (some bm)) (.map pd)) (by simp [results, go_sem, c0, c1, c2, c3]) rfl ⟨⟨_, rfl, .map pa, .map pb, .map (some bm), .map pd, f1, f2, (fun k => hasS ns k || f3 k), f4, rfl, ?_, ?_, ?_, ?_, ?_, ?_⟩, HX.out⟩
      . exact ((H1.out.ext (HE.out.tr HB.out)).walks HKW.out).mono (by omega)
      . exact ((H2.out.ext (HE.out.tr HB.out)).walks HKW.out).mono (by omega)
      . exact SetV.walks (.inr ⟨bm, rfl, HS.out⟩) HKW.out
      . exact ((H4.out.ext (HE.out.tr HB.out)).walks HKW.out).mono (by omega)
      . funext k
        show (hasS ns k || (f1 k || f3 k)) = (f1 k || (hasS ns k || f3 k))
        cases hasS ns k <;> cases f1 k <;> rfl
      . rfl
    . go_enter Tryz.func134, Tryz.ntmps134
      go_wp2_with fail
      generalize ((w.alloc _).alloc _).alloc _ = w1 at *
      (with_reducible refine (with_any pd m f4 _ ns _ (HN.out.below HE.out) (H4.out.ext HE.out) HM.out).mono ?_)
      rintro e w2 ⟨⟨bm, rfl, hs⟩, hb⟩
      have HS := LH hs; have HB := LH hb
      have hA := (hb.block _ (hLt HA3.out)).trans HA3.out
      have hB := (hb.block _ (hLt HB3.out)).trans HB3.out
      have hC := (hb.block _ (hLt HC3.out)).trans HC3.out
      have a0 := cA hA 0
      have a1 := cA hA 1
      have a2 := cA hA 2
      have a3 := cA hA 3
      have f2' := fA hA 3
      have c0 := cA hC 0
      have c1 := cA hC 1
      have c2 := cA hC 2
      have c3 := cA hC 3
      have g0 := fA hC 0
      have g1 := fA hC 1
      have g2 := fA hC 2
      have g3 := fA hC 3
      have HA := LH hA; have HC := LH hC
      clear hs hb hA hB hC
      go_wp2
      have hk := box4_set ((sO (w := w2) (i := 3) (.map (some bm)) (show w.heap.size + 1 + 1 ≠ w.heap.size by omega)).trans HC.out) (.map pa) (.map pb) (.map pc) (.map (some bm))
      have HKW := LH (keeps5 w2 ⟨w.heap.size, 3, none⟩ ⟨w.heap.size + 1 + 1, 0, none⟩ ⟨w.heap.size + 1 + 1, 1, none⟩ ⟨w.heap.size + 1 + 1, 2, none⟩ ⟨w.heap.size + 1 + 1, 3, none⟩ (.map (some bm)) (.map pa) (.map pb) (.map pc) (.map (some bm)))
      have HX := LH (Below.setNew (Below.setNew (Below.setNew (Below.setNew (Below.setNew (HE.out.tr HB.out) (show w.heap.size <= w.heap.size from Nat.le_refl _) (i := 3) (.map (some bm))) (show w.heap.size <= w.heap.size + 1 + 1 by omega) (i := 0) (.map pa)) (show w.heap.size <= w.heap.size + 1 + 1 by omega) (i := 1) (.map pb)) (show w.heap.size <= w.heap.size + 1 + 1 by omega) (i := 2) (.map pc)) (show w.heap.size <= w.heap.size + 1 + 1 by omega) (i := 3) (.map (some bm)))
      clear a0 a1 a2 a3 f2' c0 c1 c2 c3 g0 g1 g2 g3
      generalize (((((w2.setCell _ _).setCell _ _).setCell _ _).setCell _ _).setCell _ _) = w4 at *
      have c0 := cA hk 0
      have c1 := cA hk 1
      have c2 := cA hk 2
      have c3 := cA hk 3
      refine bodyPost_ret (v := sV (.map pa) (.map pb) (.map pc) (.map (some bm))) (by simp [results, go_sem, c0, c1, c2, c3]) rfl ⟨⟨_, rfl, .map pa, .map pb, .map pc, .map (some bm), f1, f2, f3, (fun k => hasS ns k || f4 k), rfl, ?_, ?_, ?_, ?_, ?_, ?_⟩, HX.out⟩
      . exact ((H1.out.ext (HE.out.tr HB.out)).walks HKW.out).mono (by omega)
      . exact ((H2.out.ext (HE.out.tr HB.out)).walks HKW.out).mono (by omega)
      . exact ((H3.out.ext (HE.out.tr HB.out)).walks HKW.out).mono (by omega)
      . exact SetV.walks (.inr ⟨bm, rfl, HS.out⟩) HKW.out
      . rfl
      . funext k
        show (hasS ns k || (f2 k || f4 k)) = (f2 k || (hasS ns k || f4 k))
        cases hasS ns k <;> cases f2 k <;> rfl
end Go.Proofs.YtkdglplfcpindaaGreatDoor

namespace Go.Proofs.YtkdglplfcpindaaGreatDoor
open Go.RowKit Go.Shelf
attribute [local go_sem] Oper.semAt_some
set_option maxHeartbeats 2000000 in
theorem refersInto_any (v : Value) (m : Nat) (V L : Scp) (k : Nat) (t : Tm) (va vc : Value) (w : World) (h : RSc w v m V L) (ht : RT w k t va vc) :
    Calls Tryz.prog 132 #[v, tV t va vc] w fun e w' => e = .returned (.bool (refB V L t)) /\ Ext w w' := by
  have HR : Hid (refB V L t = if t.op = 0 then V t.nm else if t.op = 12 then L t.nm else true) := rfl
  obtain ⟨a, b, c, d, f1, f2, f3, f4, rfl, h1, h2, h3, h4, rfl, rfl⟩ := h
  have HE : Hid (Ext w ((w.alloc (.cells #[a, b, c, d] 194)).alloc (.cells #[.int .i64 t.op, .int .i64 t.n, .string t.nm, .int .i64 t.ty, va, vc] 50))) := Ext.al2 _ _ _
  have H1 := LH (h1.ext HE.out); have H2 := LH (h2.ext HE.out); have H3 := LH (h3.ext HE.out); have H4 := LH (h4.ext HE.out)
  have HNM := LH ht.form.1.1
  clear h1 h2 h3 h4 ht
  by_cases h0 : t.op = 0
  . have HR2 : Hid (refB _ _ t = (f1 t.nm || f3 t.nm)) := HR.out.trans (if_pos h0)
    go_enter Tryz.func132, Tryz.ntmps132
    go_wp2_with fail
    rw [h0] at HE H1 H3
    generalize (w.alloc _).alloc _ = w1 at *
    (with_reducible refine (hasVar_any a b c d m m f1 f3 t.nm _ H1.out H3.out HNM.out).mono ?_)
    rintro e w2 ⟨rfl, hb⟩
    have HB := LH hb
    clear hb
    go_wp2
    go_ret
    exact ⟨rB HR2.out.symm, HE.out.tr HB.out⟩
  . by_cases h12 : t.op = 12
    . have HR2 : Hid (refB _ _ t = (f2 t.nm || f4 t.nm)) := (HR.out.trans (if_neg h0)).trans (if_pos h12)
      go_enter Tryz.func132, Tryz.ntmps132
      go_wp2_with fail
      rw [h12] at HE H2 H4
      generalize (w.alloc _).alloc _ = w1 at *
      (with_reducible refine (hasLabel_any a b c d m m f2 f4 t.nm _ H2.out H4.out HNM.out).mono ?_)
      rintro e w2 ⟨rfl, hb⟩
      have HB := LH hb
      clear hb
      go_wp2
      go_ret
      exact ⟨rB HR2.out.symm, HE.out.tr HB.out⟩
    . have HR2 : Hid (refB _ _ t = true) := (HR.out.trans (if_neg h0)).trans (if_neg h12)
      go_enter Tryz.func132, Tryz.ntmps132
      go_wp2
      go_ret
      exact ⟨rB HR2.out.symm, HE.out⟩
end Go.Proofs.YtkdglplfcpindaaGreatDoor

namespace Go.Proofs.YtkdglplfcpindaaGreatDoor
open Go.RowKit Go.Shelf
attribute [local go_sem] Oper.semAt_some
theorem all_pre {α : Type} {f : α -> Bool} {l m : List α} (h : l <+: m) (hl : l.all f = false) : m.all f = false := by
  obtain ⟨r, rfl⟩ := h
  rw [List.all_append, hl]; rfl
theorem distinct_is (v : Value) (l : List Str) (q : Bool) (w : World) (h : RStrs w v l) (hq : distB l = q) :
    Calls Tryz.prog 64 #[v] w fun e w' => e = .returned (.bool q) /\ Ext w w' := by
  subst hq; exact distinct_any v l w h
mutual
def wF (P : Pg) : Tm -> Nat
  | .mk op n nm ty args cls => if fitsT P (.mk op n nm ty args cls) then wFA P op nm 0 args + wFC P cls else 0
def wFA (P : Pg) (op : Int) (nm : Str) : Nat -> List Tm -> Nat
  | _, [] => 0
  | i, a :: r => (bndAt op nm i).1.length + wF P a + wFA P op nm (i + 1) r
def wFC (P : Pg) : List (List Str × Tm) -> Nat
  | [] => 0
  | (ns, t) :: r => ns.length + wF P t + wFC P r
end
def wFK (P : Pg) : List (Bnd × Tm) -> Nat
  | [] => 0
  | x :: r => x.1.1.length + wF P x.2 + wFK P r
theorem wFK_append (P : Pg) (k : List (Bnd × Tm)) : ∀ l, wFK P (l ++ k) = wFK P l + wFK P k
  | [] => by simp [wFK]
  | x :: r => by simp [wFK, wFK_append P k r]; omega
theorem wFA_kids (P : Pg) (op : Int) (nm : Str) : ∀ (l : List Tm) (i : Nat), wFA P op nm i l = wFK P (kidsFrom op nm i l)
  | [], _ => by simp [wFA, kidsFrom, wFK]
  | a :: r, i => by simp [wFA, kidsFrom, wFK, wFA_kids P op nm r (i + 1)]
theorem wFC_kids (P : Pg) : ∀ (l : List (List Str × Tm)), wFC P l = wFK P (l.map fun c => ((c.1, false), c.2))
  | [] => by simp [wFC, wFK]
  | (ns, t) :: r => by simp [wFC, wFK, wFC_kids P r]
theorem wF_kids {P : Pg} {t : Tm} (h : fitsT P t = true) : wF P t = wFK P (kids t) := by
  cases t with
  | mk op n nm ty args cls => rw [wF, if_pos h, wFA_kids P op nm args 0, wFC_kids, kids, wFK_append]; rfl
theorem wF_no {P : Pg} {t : Tm} (h : fitsT P t = false) : wF P t = 0 := by
  cases t with
  | mk op n nm ty args cls => rw [wF, if_neg (by rw [h]; decide)]
theorem wFK_mem {P : Pg} {y : Bnd × Tm} : ∀ {l : List (Bnd × Tm)}, y ∈ l -> y.1.1.length + wF P y.2 <= wFK P l
  | x :: r, h => by
    rw [wFK]
    rcases List.mem_cons.1 h with rfl | h
    . omega
    . have := wFK_mem (P := P) h; omega
mutual
theorem wF_le (P : Pg) : ∀ t : Tm, wF P t <= wT t
  | .mk op n nm ty args cls => by
    have h1 := wFA_le P op nm args 0
    have h2 := wFC_le P cls
    rw [wF, wT]
    split <;> omega
theorem wFA_le (P : Pg) (op : Int) (nm : Str) : ∀ (l : List Tm) (i : Nat), wFA P op nm i l <= wA op nm i l
  | [], _ => by simp [wFA, wA]
  | a :: r, i => by
    have h1 := wF_le P a
    have h2 := wFA_le P op nm r (i + 1)
    rw [wFA, wA]; omega
theorem wFC_le (P : Pg) : ∀ (l : List (List Str × Tm)), wFC P l <= wC l
  | [] => by simp [wFC, wC]
  | (ns, t) :: r => by
    have h1 := wF_le P t
    have h2 := wFC_le P r
    rw [wFC, wC]; omega
end
theorem validK_eq (P : Pg) (V L : Scp) (y : Bnd × Tm) : validK P V L y = (distB y.1.1 && validT P (addV V y.1) (addL L y.1) y.2) := rfl
set_option maxHeartbeats 8000000 in
theorem validTerm_any (P : Pg) (vd vf : Value) : ∀ (k : Nat) (t : Tm) (va vc v : Value) (m : Nat) (V L : Scp) (w : World), RT w k t va vc -> RDecls w vd P.decls -> RFns w vf P.funs -> RSc w v m V L -> m + wF P t <= maxLen →
    Calls Tryz.prog 107 #[pV vd vf, v, tV t va vc] w fun e w' => e = .returned (.bool (validT P V L t)) /\ Ext w w' := by
  intro k
  induction k with
  | zero => intro t va vc v m V L w ht; exact ht.elim
  | succ k ih =>
    intro t va vc v m V L w ht hd hf hsc hm
    have HT := LH ht; have HD := LH hd; have HF := LH hf; have HSC := LH hsc; have HM := LH hm; have HIH := LH ih
    obtain ⟨_, ⟨Aa, ca, rfl, -, -⟩, ⟨Bb, cb, rfl, -, -⟩⟩ := ht.form
    obtain ⟨a, b, c, d, -, -, -, -, rfl, -⟩ := hsc
    obtain ⟨Ad, cd, rfl, -, -⟩ := hd.form
    obtain ⟨Af, cf, rfl, -, -⟩ := hf.form
    clear ht hd hf hm ih
    have HV := LH (validT_kids P V L t)
    have HW1 : Hid (Ext w ((((w.alloc (.cells #[.slice Ad P.decls.length cd, .slice Af P.funs.length cf] 25)).alloc (.cells #[a, b, c, d] 194)).alloc (.cells #[.int .i64 t.op, .int .i64 t.n, .string t.nm, .int .i64 t.ty, .slice Aa t.args.length ca, .slice Bb t.cls.length cb] 50)).alloc (.cells #[.bool false] 4))) := (Ext.al3 _ _ _ _).tr (Ext.al _ _)
    have HX3 := LH (heapFourth w (.cells #[.slice Ad P.decls.length cd, .slice Af P.funs.length cf] 25) (.cells #[a, b, c, d] 194) (.cells #[.int .i64 t.op, .int .i64 t.n, .string t.nm, .int .i64 t.ty, .slice Aa t.args.length ca, .slice Bb t.cls.length cb] 50) (.cells #[.bool false] 4))
    refine callsIn_wide.1 (callsIn_of_wp_marks (n := 0) Tryz.func107 rfl trivial ?_ rfl)
    simp only [Tryz.ntmps107, List.size_toArray, List.length_cons, List.length_nil, Nat.reduceAdd, Nat.reduceSub, Array.replicate_succ, Array.replicate_zero, List.push_toArray, List.append_toArray, List.nil_append, List.cons_append]
    gi_wp2
    generalize ((w.alloc _).alloc _).alloc _ = w0 at *
    generalize w0.alloc _ = w1 at *
    refine ⟨trivial, rfl, ?_⟩
    (with_reducible refine (callsIn_wide.2 (tfits_any _ _ P _ t _ _ _ (HD.out.below HW1.out) (HF.out.below HW1.out) (HT.out.below HW1.out))).mono ?_)
    rintro e w2 ⟨rfl, hb2⟩
    have hkeep : ∀ j o, w1.heap[j]? = some o -> w2.heap[j]? = some o := fun j o h => (hb2.block _ (hLt h)).trans h
    have b0 := hkeep _ _ HX3.out.1
    have b1 := hkeep _ _ HX3.out.2.1
    have b2 := hkeep _ _ HX3.out.2.2.1
    have b3 := hkeep _ _ HX3.out.2.2.2
    have HE2 := LH (HW1.out.tr hb2)
    clear hkeep hb2
    have s0 := cA b1 0
    have s1 := cA b1 1
    have s2 := cA b1 2
    have s3 := cA b1 3
    obtain ⟨t0, t1, t2, t3, t4, t5⟩ := cells6 b2
    have r0 := cA b3 0
    have r1 := fA b3 0
    have B0 := LH b0; have B1 := LH b1; have B2 := LH b2; have B3 := LH b3
    clear b0 b1 b2 b3
    cases qf : fitsT P t
    . have HR : Hid (validT P V L t = false) := by show validT P V L t = false; rw [HV.out, qf]; rfl
      clear qf
      have e0 := cA (box_set B3.out (.bool false)) 0
      gi_wp2
      refine ⟨trivial, ?_⟩
      gi_wp2
      refine ⟨.bool false, by simp [results, go_sem, e0], by rw [HR.out], Below.setNew HE2.out (by omega) _⟩
    . have HQF := LH qf
      clear qf
      gi_wp2
      refine ⟨trivial, rfl, ?_⟩
      (with_reducible refine (callsIn_wide.2 (refersInto_any _ m V L _ t _ _ _ (HSC.out.ext HE2.out) (HT.out.below HE2.out))).mono ?_)
      rintro e w3 ⟨rfl, hb3⟩
      have b0 := (hb3.block _ (hLt B0.out)).trans B0.out
      have b1 := (hb3.block _ (hLt B1.out)).trans B1.out
      have b2 := (hb3.block _ (hLt B2.out)).trans B2.out
      have b3 := (hb3.block _ (hLt B3.out)).trans B3.out
      have HE3 := LH (HE2.out.tr hb3)
      clear s0 s1 s2 s3 t0 t1 t2 t3 t4 t5 r0 r1 B0 B1 B2 B3 hb3
      obtain ⟨t0, t1, t2, t3, t4, t5⟩ := cells6 b2
      have r0 := cA b3 0
      have r1 := fA b3 0
      have B0 := LH b0; have B1 := LH b1; have B3 := LH b3
      have hlt3 := hLt b3
      clear b0 b1 b2 b3
      cases qr : refB V L t
      . have HR : Hid (validT P V L t = false) := by show validT P V L t = false; rw [HV.out, qr]; simp
        clear qr
        have e0 := cA (box_set B3.out (.bool false)) 0
        gi_wp2
        refine ⟨.bool false, by simp [results, go_sem, e0], by rw [HR.out], Below.setNew HE3.out (by omega) _⟩
      . have HR : Hid (validT P V L t = (kids t).all (validK P V L)) := by rw [HV.out, HQF.out, qr]; rfl
        clear qr
        gi_wp2
        refine ⟨trivial, rfl, ?_⟩
        (with_reducible refine (callsIn_wide.2 (parts_any t _ _ _)).mono ?_)
        rintro e w4 ⟨rfl, rfl⟩
        gi_wp2
        have hg3 := hNw w3 (.cells #[.int .i64 t.op, .int .i64 t.n, .string t.nm, .int .i64 t.ty, .slice Aa t.args.length ca, .slice Bb t.cls.length cb] 50)
        have hE3 := Ext.al w3 (.cells #[.int .i64 t.op, .int .i64 t.n, .string t.nm, .int .i64 t.ty, .slice Aa t.args.length ca, .slice Bb t.cls.length cb] 50)
        have hz3 : w3.heap.size < (w3.alloc (.cells #[.int .i64 t.op, .int .i64 t.n, .string t.nm, .int .i64 t.ty, .slice Aa t.args.length ca, .slice Bb t.cls.length cb] 50)).heap.size := by simp
        generalize w3.alloc _ = w4 at *
        have HG4 := LH hg3
        have HE4 := LH (HE3.out.tr hE3)
        have HIT := LH (parts_iter (fun j => j = w.heap.size + 1 + 1 + 1) w w4 k t _ _ w3.heap.size HT.out HE4.out (fun j hj => by rw [hj]; omega) hg3 (fun hj => by omega))
        have K0 := LH ((hE3.block _ (hLt B0.out)).trans B0.out)
        have K1 := LH ((hE3.block _ (hLt B1.out)).trans B1.out)
        have K3 := LH ((hE3.block _ (hLt B3.out)).trans B3.out)
        clear hg3 hE3 t0 t1 t2 t3 t4 t5 r0 r1 B0 B1 B3
        refine wpIn_wide.2 (wp_range (C := fun j => j = w.heap.size + 1 + 1 + 1) (L := kids t) (R := RK w k) rfl (enters_of Tryz.func156 (by kernel_rfl) rfl) HIT.out
          (fun j hj => by omega) (fun y vs A h => h.size)
          (fun pre W => pre.all (validK P V L) = true /\ Ext w W /\ W.heap[w.heap.size]? = some (.cells #[.slice Ad P.decls.length cd, .slice Af P.funs.length cf] 25 (0, 0)) /\ W.heap[w.heap.size + 1]? = some (.cells #[a, b, c, d] 194 (0, 0)) /\ W.heap[w.heap.size + 1 + 1 + 1]? = some (.cells #[.bool false] 4 (0, 0)))
          (fun c W => c = .ret /\ validT P V L t = false /\ Ext w W /\ W.heap[w.heap.size + 1 + 1 + 1]? = some (.cells #[.bool false] 4 (0, 0))) ?hI ?hIx ?h0 ?hround ?hdone ?hstop)
        case hI =>
          rintro pre' A B ⟨h1, h2, h3, h4, h5⟩ hb
          exact ⟨h1, h2.trans (hb.mono (by omega)), (hb.block _ (by omega)).trans h3, (hb.block _ (by omega)).trans h4, (hb.block _ (by omega)).trans h5⟩
        case hIx =>
          rintro c A B ⟨h1, h2, h3, h5⟩ hb
          exact ⟨h1, h2, h3.trans (hb.mono (by omega)), (hb.block _ (by omega)).trans h5⟩
        case h0 => exact ⟨rfl, HE4.out, K0.out, K1.out, K3.out⟩
        case hround =>
          rintro l' pre y vs W hl' hpre ⟨i1, i2, i3, i4, i5⟩ ⟨vn, xa, xc, rfl, hs, hty⟩ hsz
          have HS := LH hs; have HTY := LH hty
          obtain ⟨_, ⟨Ax, cx, rfl, -, -⟩, ⟨Bx, dx, rfl, -, -⟩⟩ := hty.form
          obtain ⟨An, cn, rfl, -, -⟩ := hs.form
          have I1 := LH i1; have I2 := LH i2; have I3 := LH i3; have I4 := LH i4; have I5 := LH i5
          have HPR := LH hpre
          clear i1 i2 i3 i4 i5 hs hty hpre
          obtain ⟨⟨ns, lab⟩, x⟩ := y
          dsimp only at *
          gi_wp2
          refine ⟨Ext.al2 _ _ _, fun W2 hT => ?_⟩
          have hz := hsz
          have hE5 := Ext.al2 W (.cells #[.slice An ns.length cn, .bool lab] 228) (.cells #[.int .i64 x.op, .int .i64 x.n, .string x.nm, .int .i64 x.ty, .slice Ax x.args.length cx, .slice Bx x.cls.length dx] 50)
          have hb5 := hT.kept _ _ (((Ext.al _ (.cells #[.int .i64 x.op, .int .i64 x.n, .string x.nm, .int .i64 x.ty, .slice Ax x.args.length cx, .slice Bx x.cls.length dx] 50)).block _ (hLt (hNw W (.cells #[.slice An ns.length cn, .bool lab] 228)))).trans (hNw W (.cells #[.slice An ns.length cn, .bool lab] 228))) (fun r h => by cases h)
          have hx5 := hT.kept _ _ (hNw (W.alloc (.cells #[.slice An ns.length cn, .bool lab] 228)) (.cells #[.int .i64 x.op, .int .i64 x.n, .string x.nm, .int .i64 x.ty, .slice Ax x.args.length cx, .slice Bx x.cls.length dx] 50)) (fun r h => by cases h)
          rw [World.size_alloc] at hx5
          have hp5 := hT.kept _ _ ((hE5.block _ (hLt I3.out)).trans I3.out) (fun r h => by cases h)
          have hs5 := hT.kept _ _ ((hE5.block _ (hLt I4.out)).trans I4.out) (fun r h => by cases h)
          have hr5 := hT.kept _ _ ((hE5.block _ (hLt I5.out)).trans I5.out) (fun r h => by cases h)
          have HB5 : Hid (Below w4.heap.size W W2) := (hE5.mono hsz).trans (hT.only.below (B := w4.heap.size) (by simp; omega) (fun k h => by rw [h]; exact hl'))
          have HS5 : Hid (RStrs W2 (.slice An ns.length cn) ns) := by
            obtain ⟨A', c', e', q1, q2, q3⟩ := HS.out.below hE5
            refine ⟨A', c', e', q1, q2, fun i s hi => ?_⟩
            obtain ⟨b', o', e2, q4, q5, q6⟩ := q3 i s hi
            exact ⟨b', o', e2, by rw [hT.size]; exact q4, hT.cell _ _ q5, q6⟩
          have HW5 : Hid (Ext w W2) := I2.out.trans (HB5.out.mono (by omega))
          have HP5 := LH hp5; have HSX := LH hs5; have HX5 := LH hx5; have HBB := LH hb5; have HR5 := LH hr5
          have HMK : Hid (ns.length + wF P x <= wF P t) := by
            show ns.length + wF P x <= wF P t
            rw [wF_kids HQF.out]
            exact wFK_mem (y := ((ns, lab), x)) (HPR.out.subset (List.mem_append_right _ (List.mem_singleton.2 rfl)))
          have HVK := LH (validK_eq P V L ((ns, lab), x))
          have HPA := LH (all_pre (f := validK P V L) HPR.out)
          have hmx : Tryz.prog.follows .mixedOrders = true := by kernel_rfl
          clear hE5 hb5 hx5 hp5 hs5 hr5 hT hsz hz hz3 hl' hlt3 HPR K0 K1 K3 HG4 HE4 HIT HE3 HE2 HX3 HW1 HQF HV I3 I4 I5
          have HBAD : Hid (validK P V L ((ns, lab), x) = false -> validT P V L t = false) := fun h => by
            rw [HR.out]
            exact HPA.out (by rw [List.all_append, List.all_cons, h]; simp)
          cases hq : distB ns
          . have HQ := LH hq
            have HV2 : Hid (validT P V L t = false) := HBAD.out (by rw [HVK.out]; show (distB ns && _) = false; rw [HQ.out]; rfl)
            clear hq
            have n0 := cA HBB.out 0
            gi_wp2
            gi_region_with_o (first
              | (refine ⟨trivial, rfl, ?_⟩; gi_at_call 64; (with_reducible refine (CallsIn.inRound l' (callsIn_wide.2 (distinct_is _ ns false _ (HS5.out.below (Ext.rf _).drew) HQ.out))).mono ?_); rintro e W6 ⟨rfl, hx6⟩; clear n0; have HX6 : Hid (Ext W2 W6) := Ext.tr (b := W2.drew) (Ext.rf W2).drew hx6; clear hx6)
              | (refine ⟨trivial, ?_⟩))
            all_goals
              have hr := (HX6.out.block _ (hLt HR5.out)).trans HR5.out
              have e0 := cA hr 0
              have e1 := fA hr 0
              have HRR := LH hr
              clear hr
              gi_wp2
              exact ⟨(Only.of_ext HX6.out).tr (Only.setCell (C := fun j => j = w.heap.size + 1 + 1 + 1) (p := ⟨w.heap.size + 1 + 1 + 1, 0, none⟩) rfl _ _), rfl, HV2.out, Below.setNew (HW5.out.tr HX6.out) (by omega) _, box_set HRR.out _⟩
          . have HQ := LH hq
            clear hq
            have n0 := cA HBB.out 0
            gi_wp2
            gi_region_with_o (first
              | (refine ⟨trivial, rfl, ?_⟩; gi_at_call 64; (with_reducible refine (CallsIn.inRound l' (callsIn_wide.2 (distinct_is _ ns true _ (HS5.out.below (Ext.rf _).drew) HQ.out))).mono ?_); rintro e W6 ⟨rfl, hx6⟩; clear n0; have HX6 : Hid (Ext W2 W6) := Ext.tr (b := W2.drew) (Ext.rf W2).drew hx6; clear hx6; have n0 := HX6.out.keep (cA HBB.out 0); have n1 := HX6.out.keep (cA HBB.out 1); have p0 := HX6.out.keep (cA HP5.out 0); have p1 := HX6.out.keep (cA HP5.out 1); have s0 := HX6.out.keep (cA HSX.out 0); have s1 := HX6.out.keep (cA HSX.out 1); have s2 := HX6.out.keep (cA HSX.out 2); have s3 := HX6.out.keep (cA HSX.out 3); have x0 := HX6.out.keep (cA HX5.out 0); have x1 := HX6.out.keep (cA HX5.out 1); have x2 := HX6.out.keep (cA HX5.out 2); have x3 := HX6.out.keep (cA HX5.out 3); have x4 := HX6.out.keep (cA HX5.out 4); have x5 := HX6.out.keep (cA HX5.out 5))
              | (refine ⟨trivial, rfl, ?_⟩; gi_at_call 134; (with_reducible refine (CallsIn.inRound l' (callsIn_wide.2 (inside_any _ _ m V L ns lab _ ((HSC.out.ext HW5.out).ext HX6.out) (HS5.out.below HX6.out) (by have := HMK.out; have := HM.out; omega)))).mono ?_); rintro e W7 ⟨⟨v', rfl, hsc'⟩, hx7⟩; have HX7 : Hid (Ext W2 W7) := HX6.out.tr hx7; have HSC7 := LH hsc'; clear n0 n1 p0 p1 s0 s1 s2 s3 x0 x1 x2 x3 x4 x5 hsc' hx7; have p0 := HX7.out.keep (cA HP5.out 0); have p1 := HX7.out.keep (cA HP5.out 1); have x0 := HX7.out.keep (cA HX5.out 0); have x1 := HX7.out.keep (cA HX5.out 1); have x2 := HX7.out.keep (cA HX5.out 2); have x3 := HX7.out.keep (cA HX5.out 3); have x4 := HX7.out.keep (cA HX5.out 4); have x5 := HX7.out.keep (cA HX5.out 5))
              | (refine ⟨trivial, rfl, ?_⟩; gi_at_call 107; (with_reducible refine (CallsIn.inRound l' (callsIn_wide.2 (HIH.out x _ _ v' _ _ _ W7 ((HTY.out.below HW5.out).below HX7.out) ((HD.out.below HW5.out).below HX7.out) ((HF.out.below HW5.out).below HX7.out) HSC7.out (by have := HMK.out; have := HM.out; omega)))).mono ?_); rintro e W8 ⟨rfl, hx8⟩; clear p0 p1 x0 x1 x2 x3 x4 x5; have HX8 : Hid (Ext W2 W8) := HX7.out.tr hx8; clear hx8))
            all_goals
              have hr := (HX8.out.block _ (hLt HR5.out)).trans HR5.out
              have e0 := cA hr 0
              have e1 := fA hr 0
              have HRR := LH hr
              clear hr hmx
              cases qv : validT P (addV V (ns, lab)) (addL L (ns, lab)) x
              . have HV2 : Hid (validT P V L t = false) := HBAD.out (by rw [HVK.out]; show (distB ns && validT P (addV V (ns, lab)) (addL L (ns, lab)) x) = false; rw [qv]; simp)
                clear qv
                gi_wp2
                exact ⟨(Only.of_ext HX8.out).tr (Only.setCell (C := fun j => j = w.heap.size + 1 + 1 + 1) (p := ⟨w.heap.size + 1 + 1 + 1, 0, none⟩) rfl _ _), rfl, HV2.out, Below.setNew (HW5.out.tr HX8.out) (by omega) _, box_set HRR.out _⟩
              . have HV2 : Hid (validK P V L ((ns, lab), x) = true) := by
                  show _ = true
                  rw [HVK.out]; show (distB ns && validT P (addV V (ns, lab)) (addL L (ns, lab)) x) = true; rw [qv, HQ.out]; rfl
                clear qv
                gi_wp2
                exact ⟨Only.of_ext HX8.out, by rw [List.all_append, I1.out, List.all_cons, HV2.out]; rfl, HW5.out.tr HX8.out, (HX8.out.block _ (hLt HP5.out)).trans HP5.out, (HX8.out.block _ (hLt HSX.out)).trans HSX.out, HRR.out⟩
        case hdone =>
          rintro W ⟨h1, h2, h3, h4, h5⟩ hK
          have h0 := cA h5 0
          have h0f := fA h5 0
          have H1 := LH h1; have H2 := LH h2; have H5 := LH h5; have HK := LH hK
          clear h1 h2 h3 h4 h5 hK
          gi_wp2
          have hk2 := (sO (w := W) (i := 0) (.bool true) (show w4.heap.size ≠ w.heap.size + 1 + 1 + 1 by omega)).trans HK.out
          have s0 := put_cell (box_set H5.out (.bool true)) (show w.heap.size + 1 + 1 + 1 ≠ w4.heap.size by omega) (.deferred none)
          refine ⟨by simp, .inl ⟨_, _, rfl, run_takeDeferred hk2, ?_⟩⟩
          refine ⟨.bool true, by simp [results, go_sem, s0], by rw [HR.out, H1.out], Below.putNew (Below.setNew H2.out (by omega) _) (by omega) _⟩
        case hstop =>
          rintro c W ⟨rfl, h1, h2, h5⟩ hK
          have H1 := LH h1; have H2 := LH h2; have H5 := LH h5; have HK := LH hK
          have s0 := put_cell h5 (show w.heap.size + 1 + 1 + 1 ≠ w4.heap.size by omega) (.deferred none)
          clear h1 h2 h5 hK
          refine (wpIn_wide (n := 0)).1 ?_
          gi_wp2
          refine ⟨by simp, .inl ⟨_, _, rfl, run_takeDeferred HK.out, ?_⟩⟩
          exact ⟨.bool false, by simp [results, go_sem, s0], by rw [H1.out], Below.putNew H2.out (by omega) _⟩
end Go.Proofs.YtkdglplfcpindaaGreatDoor
