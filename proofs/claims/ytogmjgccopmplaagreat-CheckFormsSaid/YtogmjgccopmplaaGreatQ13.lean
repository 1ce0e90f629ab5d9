import Derived.Test.YtogmjgccopmplaaGreatQ12
namespace Go.Proofs.YtogmjgccopmplaaGreat
open Go.RowKit


theorem hasConsumer_any (v : Value) (l : List Arg) (w : World) (h : RArgs w v l) :
    Calls Tryz.prog 143 #[v] w fun e w' => e = .returned (.bool (hasCo l)) ∧ Below w.heap.size w w' := by
  have HR := Lib.hid h
  obtain ⟨A, c, rfl, hc, hm, hcell⟩ := h
  clear hcell
  unfold maxLen at hm
  go_enter Tryz.func143, Tryz.ntmps143
  go_wp2
  go_loopw [7] (fun i wr => ∃ k : Nat, k ≤ l.length ∧ i = .int .i64 k ∧ Below w.heap.size w wr ∧ hasCo l = hasCo (l.drop k)) (fun i _ => l.length - (intOf i).toNat)
  case atStart => exact ⟨0, Nat.zero_le _, rfl, Below.refl _ _, rfl⟩
  case round =>
    obtain ⟨k, hk, rfl, hb, hno⟩ := hrel
    have HN := Lib.hid hno; have HB := Lib.hid hb; clear hno hb
    by_cases hlt : k < l.length
    · obtain ⟨b, o, rfl, hbl, h0, h1⟩ := HR.out.at_ hlt
      have HD := Lib.hid (drop_step hlt)
      have h0 := (HB.out.cell hbl).trans h0
      have h1 := (HB.out.cell hbl).trans h1
      generalize l[k] = a at *
      go_wp2
      · have q : a.co = true := by assumption
        go_ret
        exact ⟨ret_bool (by rw [HN.out, HD.out]; simp [hasCo, q]), HB.out.alloc HB.out.size _⟩
      · have q : a.co = false := by assumption
        go_roundw
        case rel => exact ⟨k + 1, by omega, by go_num, HB.out.alloc HB.out.size _, by rw [HN.out, HD.out]; simp [hasCo, q]⟩
        case measure => simp [intOf]; omega
    · go_wp2
      go_ret
      exact ⟨ret_bool (by rw [HN.out, drop_end hlt]; rfl), HB.out⟩

theorem ends_any (v : Value) (l : List Arg) (w : World) (h : RArgs w v l) :
    Calls Tryz.prog 124 #[v] w fun e w' => e = .returned (.bool (endsB l)) ∧ Below w.heap.size w w' := by
  have HR := Lib.hid h
  obtain ⟨A, c, rfl, hc, hm, hcell⟩ := h
  clear hcell
  unfold maxLen at hm
  have HE : Hid (endsB l = (lastCo l && !hasCo (l.take (l.length - 1)))) := rfl
  by_cases h0 : 0 < l.length
  · obtain ⟨b, o, rfl, hbl, h1, h2⟩ := HR.out.at_ (k := l.length - 1) (by omega)
    have HL := Lib.hid (lastCo_eq h0)
    have HT := Lib.hid (HR.out.take (n := l.length - 1) (by omega))
    generalize l[l.length - 1] = a at *
    go_enter Tryz.func124, Tryz.ntmps124
    go_wp2_with (go_at_call 143; (with_reducible refine (hasConsumer_any _ _ _ HT.out).mono ?_); rintro e w' ⟨rfl, hb⟩)
    · have q : a.co = true := by assumption
      go_ret
      exact ⟨ret_bool (by rw [HE.out, HL.out, q]; rfl), hb⟩
    · have q : ¬ a.co = true := by assumption
      go_ret
      exact ⟨ret_bool (by rw [HE.out, HL.out]; simp [q]), Below.refl _ _⟩
  · have HL := Lib.hid (lastCo_nil h0)
    go_enter Tryz.func124, Tryz.ntmps124
    go_wp2
    go_ret
    exact ⟨ret_bool (by rw [HE.out, HL.out]; rfl), Below.refl _ _⟩

theorem Consumers_any (va : Value) (x : Xtor) (w : World) (h : RArgs w va x.args) :
    Calls Tryz.prog 72 #[.agg #[.string x.name, va]] w fun e w' => e = .returned (.int .i64 (nCo x.args)) ∧ Below w.heap.size w w' := by
  generalize x.args = l at *
  have HR := Lib.hid h
  obtain ⟨A, c, rfl, hc, hm, hcell⟩ := h
  clear hcell
  unfold maxLen at hm
  go_enter Tryz.func72, Tryz.ntmps72
  go_wp2
  have hB1 : Below w.heap.size w (w.alloc (Obj.cells #[Value.string x.name, Value.slice A l.length c] 67)) := (Below.refl _ _).alloc (Nat.le_refl _) _
  generalize w.alloc _ = w1 at *
  have HB1 := Lib.hid hB1; clear hB1
  have HR1 := Lib.hid (HR.out.below HB1.out)
  go_loopw [3, 9] (fun n i wr => ∃ (k q : Nat), k ≤ l.length ∧ q ≤ k ∧ i = .int .i64 k ∧ n = .int .i64 q ∧ Below w1.heap.size w1 wr ∧ nCo l = q + nCo (l.drop k)) (fun _ i _ => l.length - (intOf i).toNat)
  case atStart => exact ⟨0, 0, Nat.zero_le _, Nat.le_refl _, rfl, rfl, Below.refl _ _, by simp⟩
  case round =>
    obtain ⟨k, q, hk, hq, rfl, rfl, hb, hno⟩ := hrel
    have HN := Lib.hid hno; have HB := Lib.hid hb; clear hno hb
    by_cases hlt : k < l.length
    · obtain ⟨b, o, rfl, hbl, h0, h1⟩ := HR1.out.at_ hlt
      have HD := Lib.hid (drop_step hlt)
      have h0 := (HB.out.cell hbl).trans h0
      have h1 := (HB.out.cell hbl).trans h1
      generalize l[k] = a at *
      go_wp2
      · have e : a.co = true := by assumption
        go_roundw
        case rel => exact ⟨k + 1, q + 1, by omega, by omega, by go_num, by go_num, HB.out.alloc HB.out.size _, by rw [HN.out, HD.out]; simp [nCo, e]; omega⟩
        case measure => simp [intOf]; omega
      · have e : a.co = false := by assumption
        go_roundw
        case rel => exact ⟨k + 1, q, by omega, by omega, by go_num, by go_num, HB.out.alloc HB.out.size _, by rw [HN.out, HD.out]; simp [nCo, e]⟩
        case measure => simp [intOf]; omega
    · go_wp2
      go_ret
      exact ⟨ret_int (by rw [HN.out, drop_end hlt]; simp [nCo]), HB1.out.trans (HB.out.mono HB1.out.size)⟩

theorem Ends_any (va : Value) (x : Xtor) (w : World) (h : RArgs w va x.args) :
    Calls Tryz.prog 71 #[.agg #[.string x.name, va]] w fun e w' => e = .returned (.bool (endsB x.args)) ∧ Below w.heap.size w w' := by
  have HE := Lib.hid (endsB_eq x.args)
  have hb1 : Below w.heap.size w (w.alloc (Obj.cells #[Value.string x.name, va] 67)) := (Below.refl _ _).alloc (Nat.le_refl _) _
  have HB1 := Lib.hid hb1
  have HR := Lib.hid (h.below hb1)
  clear hb1
  have hl1 : nCo x.args = 1 → 0 < x.args.length := by
    intro e
    rcases Nat.eq_zero_or_pos x.args.length with h0 | h0
    · rw [List.eq_nil_of_length_eq_zero h0] at e; cases e
    · exact h0
  have HL1 := Lib.hid hl1; clear hl1
  have hc0 : (w.alloc (Obj.cells #[Value.string x.name, va] 67)).cell? ⟨w.heap.size, 0, none⟩ = some (.string x.name) := by
    rw [World.cell?_alloc_at _ _ _ _ rfl]; rfl
  have hc1 : (w.alloc (Obj.cells #[Value.string x.name, va] 67)).cell? ⟨w.heap.size, 1, none⟩ = some va := by
    rw [World.cell?_alloc_at _ _ _ _ rfl]; rfl
  go_enter Tryz.func71, Tryz.ntmps71
  go_wp2_with fail
  (with_reducible refine (Consumers_any _ _ _ HR.out).mono ?_)
  rintro e w2 ⟨rfl, hb2⟩
  have HC0 := Lib.hid ((hb2.cell (p := ⟨w.heap.size, 0, none⟩) (by simp)).trans hc0)
  have hd1 := ((hb2.cell (p := ⟨w.heap.size, 1, none⟩) (by simp)).trans hc1)
  have HR2 := Lib.hid (HR.out.below hb2)
  have HB2 := Lib.hid (HB1.out.trans (hb2.mono HB1.out.size))
  clear hb2 hc0 hc1 h
  by_cases h1 : nCo x.args = 1
  · have h0 := HL1.out h1
    have HL := Lib.hid (lastCo_eq h0)
    have hr2 := HR2.out
    obtain ⟨A, c, rfl, hc, hm, hcell⟩ := hr2
    clear hcell
    unfold maxLen at hm
    obtain ⟨b, o, rfl, hbl, h3, h4⟩ := HR2.out.at_ (k := x.args.length - 1) (by omega)
    generalize x.args[x.args.length - 1] = a at *
    have hn : ((nCo x.args : Int) == 1) = true := by simp [h1]
    have H1 := Lib.hid h1; clear h1
    go_wp2
    go_ret
    exact ⟨ret_bool (by rw [HE.out, HL.out, H1.out]; simp), HB2.out⟩
  · have hn : ((nCo x.args : Int) == 1) = false := by simp; omega
    have H1 := Lib.hid h1; clear h1
    go_wp2
    go_ret
    exact ⟨ret_bool (by rw [HE.out]; simp [H1.out]), HB2.out⟩

/-- A declaration as a value. -/
def RDecl (w : World) (v : Value) (d : Decl) : Prop := ∃ va, v = .agg #[.string d.name, .bool d.codata, va] ∧ RXtors w va d.xtors ∧ d.name.size ≤ maxLen

theorem isSource_any (v : Value) (d : Decl) (w : World) (h : RDecl w v d) :
    Calls Tryz.prog 119 #[v] w fun e w' => e = .returned (.bool (srcD d)) ∧ Below w.heap.size w w' := by
  obtain ⟨va, rfl, hx, hnm⟩ := h
  have HS : Hid (srcD d = d.xtors.all (srcX d.codata)) := rfl
  obtain ⟨nm, co, l⟩ := d
  dsimp only at *
  have HR := Lib.hid hx
  obtain ⟨A, c, rfl, hc, hm, hcell⟩ := hx
  clear hcell
  unfold maxLen at hm
  go_enter Tryz.func119, Tryz.ntmps119
  go_wp2
  have hB1 : Below w.heap.size w (w.alloc (Obj.cells #[Value.string nm, Value.bool co, Value.slice A l.length c] 72)) := (Below.refl _ _).alloc (Nat.le_refl _) _
  have hc1 : (w.alloc (Obj.cells #[Value.string nm, Value.bool co, Value.slice A l.length c] 72)).cell? ⟨w.heap.size, 1, none⟩ = some (.bool co) := by
    rw [World.cell?_alloc_at _ _ _ _ rfl]; rfl
  have hz : w.heap.size < (w.alloc (Obj.cells #[Value.string nm, Value.bool co, Value.slice A l.length c] 72)).heap.size := by simp
  generalize w.alloc _ = w1 at *
  have HB1 := Lib.hid hB1; clear hB1
  have HR1 := Lib.hid (HR.out.below HB1.out)
  go_loopw [8] (fun i wr => ∃ k : Nat, k ≤ l.length ∧ i = .int .i64 k ∧ Below w1.heap.size w1 wr ∧ l.all (srcX co) = (l.drop k).all (srcX co)) (fun i _ => l.length - (intOf i).toNat)
  case atStart => exact ⟨0, Nat.zero_le _, rfl, Below.refl _ _, by simp⟩
  case round =>
    obtain ⟨k, hk, rfl, hb, hno⟩ := hrel
    have HN := Lib.hid hno; have HB := Lib.hid hb; clear hno hb
    have hc1 := (HB.out.cell (p := ⟨w.heap.size, 1, none⟩) hz).trans hc1
    by_cases hlt : k < l.length
    · obtain ⟨b, o, va, rfl, hbl, h0, h1, h2, h3⟩ := HR1.out.at_ hlt
      have HD := Lib.hid (drop_step hlt)
      have h0 := (HB.out.cell hbl).trans h0
      have h1 := (HB.out.cell hbl).trans h1
      generalize l[k] = a at *
      have HA := Lib.hid (h2.below HB.out); clear h2
      obtain ⟨A2, c2, rfl, -⟩ := HA.out.form
      have hzr : w.heap.size < wr.heap.size := Nat.lt_of_lt_of_le hz HB.out.size
      have HX1 : Hid (co = true → srcX co a = endsB a.args) := fun e => by simp [srcX, e]
      have HX2 : Hid (co = false → srcX co a = !hasCo a.args) := fun e => by simp [srcX, e]
      have hal : Below wr.heap.size wr (wr.alloc (Obj.cells #[Value.string a.name, Value.slice A2 a.args.length c2] 67)) := (Below.refl _ _).alloc (Nat.le_refl _) _
      have HW := Lib.hid (HB1.out.trans ((HB.out.trans (hal.mono HB.out.size)).mono HB1.out.size))
      have HV := Lib.hid (HB.out.trans (hal.mono HB.out.size))
      clear hal
      cases co
      · have HX := Lib.hid (HX2.out rfl); clear HX1 HX2
        go_wp2_with (go_at_call 143; (with_reducible refine (hasConsumer_any _ _ _ (HA.out.below ((Below.refl _ _).alloc (Nat.le_refl _) _))).mono ?_); rintro e w' ⟨rfl, hb2⟩)
        · have q : hasCo a.args = true := by assumption
          go_ret
          exact ⟨ret_bool (by rw [HS.out, HN.out, HD.out]; simp [HX.out, q]), HW.out.trans (hb2.mono HW.out.size)⟩
        · have q : hasCo a.args = false := by assumption
          go_roundw
          case rel => exact ⟨k + 1, by omega, by go_num, HV.out.trans (hb2.mono HV.out.size), by rw [HN.out, HD.out]; simp [HX.out, q]⟩
          case measure => simp [intOf]; omega
      · have HX := Lib.hid (HX1.out rfl); clear HX1 HX2
        have hc4 := (Ext.al wr (Obj.cells #[Value.string a.name, Value.slice A2 a.args.length c2] 67)).keep hc1
        go_wp2_with (go_at_call 124; (with_reducible refine (ends_any _ _ _ (HA.out.below (Ext.al _ _))).mono ?_); rintro e w' ⟨rfl, hb2⟩; have hc3 := Ext.keep hb2 hc4)
        · have q : endsB a.args = true := by assumption
          go_roundw
          case rel => exact ⟨k + 1, by omega, by go_num, HV.out.trans (hb2.mono HV.out.size), by rw [HN.out, HD.out]; simp [HX.out, q]⟩
          case measure => simp [intOf]; omega
        · have q : ¬ endsB a.args = true := by assumption
          go_ret
          exact ⟨ret_bool (by rw [HS.out, HN.out, HD.out]; simp [HX.out, q]), HW.out.trans (hb2.mono HW.out.size)⟩
    · go_wp2
      go_ret
      exact ⟨ret_bool (by rw [HS.out, HN.out, drop_end hlt]; rfl), HB1.out.trans (HB.out.mono HB1.out.size)⟩

theorem srcX_t (a : Xtor) : srcX true a = endsB a.args := rfl
theorem srcX_f (a : Xtor) : srcX false a = !hasCo a.args := rfl

theorem RSource_any (v : Value) (l : List Decl) (w : World) (h : RDecls w v l) :
    Calls Tryz.prog 35 #[v] w fun e w' => e = .returned (.bool (srcB l)) ∧ Ext w w' := by
  have HS : Hid (srcB l = l.all srcD) := rfl
  have HR := Lib.hid h
  obtain ⟨A, c, rfl, hc, hm⟩ := h.form
  clear h
  unfold maxLen at hm
  go_enter Tryz.func35, Tryz.ntmps35
  go_wp2
  go_loopw [9] (fun i wr => ∃ k : Nat, k ≤ l.length ∧ i = .int .i64 k ∧ Ext w wr ∧ l.all srcD = (l.drop k).all srcD) (fun i _ => l.length - (intOf i).toNat)
  case atStart => exact ⟨0, Nat.zero_le _, rfl, Ext.rf _, by simp⟩
  case round =>
    obtain ⟨k, hk, rfl, hb, hno⟩ := hrel
    obtain ⟨wo, rfl⟩ : ∃ wo : World, wo = wr := ⟨_, rfl⟩
    have HN := Lib.hid hno; have HB := Lib.hid hb; clear hno hb
    by_cases hlt : k < l.length
    · have HRk := Lib.hid (HR.out.below HB.out)
      obtain ⟨b, o, vx, rfl, hbl, h0, h1, h2, h3, h4⟩ := HRk.out.at_ hlt
      have HD := Lib.hid (drop_step hlt)
      have HSd : Hid (srcD l[k] = l[k].xtors.all (srcX l[k].codata)) := rfl
      generalize l[k] = d at *
      obtain ⟨nm, co, xs⟩ := d
      dsimp only at *
      obtain ⟨A2, c2, rfl, hc2, hm2⟩ := h3.form
      unfold maxLen at hm2
      have HX := Lib.hid h3; clear h3
      go_wp2
      have hc1 : (wo.alloc (Obj.cells #[Value.string nm, Value.bool co, Value.slice A2 xs.length c2] 72)).cell? ⟨wo.heap.size, 1, none⟩ = some (.bool co) := by
        rw [World.cell?_alloc_at _ _ _ _ rfl]; rfl
      have hE1 := Ext.al wo (Obj.cells #[Value.string nm, Value.bool co, Value.slice A2 xs.length c2] 72)
      generalize wo.alloc _ = w1 at *
      have HE1 := Lib.hid hE1; clear hE1
      have HX1 := Lib.hid (HX.out.below HE1.out)
      go_loopw [16] (fun i wr => ∃ j : Nat, j ≤ xs.length ∧ i = .int .i64 j ∧ Ext w1 wr ∧ xs.all (srcX co) = (xs.drop j).all (srcX co)) (fun i _ => xs.length - (intOf i).toNat)
      case atStart => exact ⟨0, Nat.zero_le _, rfl, Ext.rf _, by simp⟩
      case round =>
        obtain ⟨j, hj, rfl, hb2, hno2⟩ := hrel
        have HN2 := Lib.hid hno2; have HB2 := Lib.hid hb2; clear hno2 hb2
        have hc1 := HB2.out.keep hc1
        by_cases hlt2 : j < xs.length
        · have HX2 := Lib.hid (HX1.out.below HB2.out)
          obtain ⟨b2, o2, va, rfl, hbl2, g0, g1, g2, g3⟩ := HX2.out.at_ hlt2
          have HD2 := Lib.hid (drop_step hlt2)
          generalize xs[j] = x at *
          obtain ⟨A3, c3, rfl, -⟩ := g2.form
          have hE2 := Ext.al wr (Obj.cells #[Value.string x.name, Value.slice A3 x.args.length c3] 67)
          have HE2 := Lib.hid (HB2.out.tr hE2)
          have HA := Lib.hid (g2.below hE2); clear g2
          have hc2' := hE2.keep hc1
          clear hE2
          cases co
          · go_wp2_with (go_at_call 72; (with_reducible refine (Consumers_any _ _ _ HA.out).mono ?_); rintro e w' ⟨rfl, hb2⟩)
            · have q : 0 < nCo x.args := by omega
              go_ret
              exact ⟨ret_bool (by rw [HS.out, HN.out, HD.out, List.all_cons, HSd.out, HN2.out, HD2.out, List.all_cons, srcX_f, hasCo_iff]; simp [q]), HB.out.tr (HE1.out.tr (HE2.out.tr hb2))⟩
            · have q : ¬ 0 < nCo x.args := by omega
              go_roundw
              case rel => exact ⟨j + 1, by omega, by go_num, HE2.out.tr hb2, by rw [HN2.out, HD2.out, List.all_cons, srcX_f, hasCo_iff]; simp [q]⟩
              case measure => simp [intOf]; omega
          · go_wp2_with (go_at_call 71; (with_reducible refine (Ends_any _ _ _ HA.out).mono ?_); rintro e w' ⟨rfl, hb2⟩; have hc3 := Ext.keep hb2 hc2')
            · have q : endsB x.args = true := by assumption
              go_roundw
              case rel => exact ⟨j + 1, by omega, by go_num, HE2.out.tr hb2, by rw [HN2.out, HD2.out, List.all_cons, srcX_t, q]; rfl⟩
              case measure => simp [intOf]; omega
            · have q : endsB x.args = false := by simpa using ‹¬ endsB x.args = true›
              go_ret
              exact ⟨ret_bool (by rw [HS.out, HN.out, HD.out, List.all_cons, HSd.out, HN2.out, HD2.out, List.all_cons, srcX_t, q]; simp), HB.out.tr (HE1.out.tr (HE2.out.tr hb2))⟩
        · go_wp2
          go_roundw
          case rel => exact ⟨k + 1, by omega, by go_num, HB.out.tr (HE1.out.tr HB2.out), by rw [HN.out, HD.out, List.all_cons, HSd.out, HN2.out, drop_end hlt2]; rfl⟩
          case measure => simp [intOf]; omega
    · go_wp2
      go_ret
      exact ⟨ret_bool (by rw [HS.out, HN.out, drop_end hlt]; rfl), HB.out⟩
end Go.Proofs.YtogmjgccopmplaaGreat

namespace Go.Proofs.YtogmjgccopmplaaGreat
open Go.RowKit

theorem okX_bad1 {t : Int} {S : List ByteArray} {x : Xtor} (h : xtorB x.name = false) : okX t S x = false := by simp [okX, h]
theorem okX_bad2 {t : Int} {S : List ByteArray} {x : Xtor} (h : hasS S x.name = true) : okX t S x = false := by simp [okX, h]
theorem okX_bad3 {t : Int} {S : List ByteArray} {x : Xtor} (h : ¬ x.args.length ≤ 6) : okX t S x = false := by simp [okX, h]
theorem okX_good {t : Int} {S : List ByteArray} {x : Xtor} (h1 : xtorB x.name = true) (h2 : hasS S x.name = false) (h3 : x.args.length ≤ 6) : okX t S x = x.args.all (okTy t) := by simp [okX, h1, h2, h3]
theorem okTy_bad {t : Int} {a : Arg} (h : a.ty < 0 ∨ t < a.ty) : okTy t a = false := by simp [okTy]; omega
theorem okTy_good {t : Int} {a : Arg} (h : 0 ≤ a.ty) (h2 : a.ty ≤ t) : okTy t a = true := by simp [okTy]; omega

/-- What a check answers, and what becomes of the set. -/
structure VPost (b : Nat) (r : Bool) (S : List ByteArray) (w : World) (e : Ending) (w' : World) : Prop where
  ret : e = .returned (.bool r)
  yes : r = true → SetAt w' b S
  any : ∃ S', SetAt w' b S'
  ext : ExtBut b w w'
theorem VPost.no {b : Nat} {r : Bool} {S S' : List ByteArray} {w w' : World} (h : r = false) (hs : SetAt w' b S') (hx : ExtBut b w w') : VPost b r S w (.returned (.bool false)) w' :=
  ⟨by rw [h], (fun e => by rw [h] at e; cases e), ⟨S', hs⟩, hx⟩
theorem VPost.yes_ {b : Nat} {r : Bool} {S : List ByteArray} {w w' : World} (h : r = true) (hs : SetAt w' b S) (hx : ExtBut b w w') : VPost b r S w (.returned (.bool true)) w' :=
  ⟨by rw [h], fun _ => hs, ⟨S, hs⟩, hx⟩

theorem validXtor_any (b : Nat) (S : List ByteArray) (va : Value) (x : Xtor) (t : Int) (w : World) (hs : SetAt w b S) (hx : RArgs w va x.args) (hn : x.name.size ≤ maxLen) :
    Calls Tryz.prog 153 #[.agg #[.string x.name, va], .int .i64 t, .map (some b)] w (VPost b (okX t S x) (S ++ [x.name]) w) := by
  have HB1 := Lib.hid (@okX_bad1 t S x)
  have HB2 := Lib.hid (@okX_bad2 t S x)
  have HB3 := Lib.hid (@okX_bad3 t S x)
  have HG := Lib.hid (@okX_good t S x)
  have HE := Lib.hid (Ext.al w (Obj.cells #[Value.string x.name, va] 67))
  have HR := Lib.hid (hx.below HE.out)
  have HS := Lib.hid (hs.ext HE.out)
  have hc0 : (w.alloc (Obj.cells #[Value.string x.name, va] 67)).cell? ⟨w.heap.size, 0, none⟩ = some (.string x.name) := by
    rw [World.cell?_alloc_at _ _ _ _ rfl]; rfl
  have hc1 : (w.alloc (Obj.cells #[Value.string x.name, va] 67)).cell? ⟨w.heap.size, 1, none⟩ = some va := by
    rw [World.cell?_alloc_at _ _ _ _ rfl]; rfl
  obtain ⟨A, c, rfl, hc, hm⟩ := hx.form
  clear hx hs
  unfold maxLen at hm
  go_enter Tryz.func153, Tryz.ntmps153
  go_wp2_with fail
  generalize w.alloc _ = w1 at *
  (with_reducible refine (Xtor_any _ _ hn).mono ?_)
  rintro e w' ⟨rfl, rfl⟩
  cases hq : xtorB x.name
  · have HQ := Lib.hid (HB1.out hq)
    clear hq
    go_wp2
    go_ret
    exact .no HQ.out HS.out (HE.out.but _)
  · have HQ := Lib.hid hq; clear hq
    go_wp2_with fail
    (with_reducible refine (add_any _ _ _ _ HS.out).mono ?_)
    rintro e w2 ⟨rfl, hs2, hx2⟩
    have hc0 := hx2.keep HS.out hc0
    have hc1 := hx2.keep HS.out hc1
    have HR2 := Lib.hid (HR.out.but hx2 HS.out)
    have HX2 := Lib.hid ((HE.out.but _).tr hx2); clear hx2
    cases hq : hasS S x.name
    · rw [hq] at hs2
      have HS2 := Lib.hid hs2; clear hs2
      have HQ2 := Lib.hid hq; clear hq
      by_cases h6 : x.args.length ≤ 6
      · have HG := Lib.hid (HG.out HQ.out HQ2.out h6)
        generalize x.args = l at *
        go_wp2
        go_loopw [29] (fun i wr => ∃ k : Nat, k ≤ l.length ∧ i = .int .i64 k ∧ Ext w2 wr ∧ l.all (okTy t) = (l.drop k).all (okTy t)) (fun i _ => l.length - (intOf i).toNat)
        case atStart => exact ⟨0, Nat.zero_le _, rfl, Ext.rf _, by simp⟩
        case round =>
          obtain ⟨k, hk, rfl, hb, hno⟩ := hrel
          have HN := Lib.hid hno; have HB := Lib.hid hb; clear hno hb
          by_cases hlt : k < l.length
          · have HRk := Lib.hid (HR2.out.below HB.out)
            obtain ⟨b2, o, rfl, hbl, h0, h1⟩ := HRk.out.at_ hlt
            have HD := Lib.hid (drop_step hlt)
            generalize l[k] = a at *
            have HW := Lib.hid (HB.out.tr (Ext.al wr (Obj.cells #[Value.int IntKind.i64 a.ty, Value.bool a.co] 69)))
            by_cases hA : 0 ≤ a.ty <;> by_cases hB : a.ty ≤ t
            · have HQ3 := Lib.hid (okTy_good hA hB)
              go_wp2
              go_roundw
              case rel => exact ⟨k + 1, by omega, by go_num, HW.out, by rw [HN.out, HD.out, List.all_cons, HQ3.out]; rfl⟩
              case measure => simp [intOf]; omega
            all_goals
              have HQ3 := Lib.hid (okTy_bad (t := t) (a := a) (by omega))
              go_wp2
              go_ret
              exact .no (by rw [HG.out, HN.out, HD.out, List.all_cons, HQ3.out]; rfl) (HS2.out.ext HW.out) (HX2.out.tr (HW.out.but _))
          · go_wp2
            go_ret
            exact .yes_ (by rw [HG.out, HN.out, drop_end hlt]; rfl) (HS2.out.ext HB.out) (HX2.out.tr (HB.out.but _))
      · have HQ3 := Lib.hid (HB3.out h6)
        go_wp2
        go_ret
        exact .no HQ3.out HS2.out HX2.out
    · have HQ2 := Lib.hid (HB2.out hq)
      rw [hq] at hs2
      have HS2 := Lib.hid hs2; clear hs2 hq
      go_wp2
      go_ret
      exact .no HQ2.out HS2.out HX2.out


theorem okD_bad1 {t : Int} {S : List ByteArray} {d : Decl} (h : nameB d.name = false) : okD t S d = false := by simp [okD, h]
theorem okD_bad2 {t : Int} {S : List ByteArray} {d : Decl} (h : hasS S d.name = true) : okD t S d = false := by simp [okD, h]
theorem okD_bad3 {t : Int} {S : List ByteArray} {d : Decl} (h : ¬ (1 ≤ d.xtors.length ∧ d.xtors.length ≤ 6)) : okD t S d = false := by
  unfold okD
  by_cases h1 : 1 ≤ d.xtors.length
  · have h2 : ¬ d.xtors.length ≤ 6 := fun h2 => h ⟨h1, h2⟩
    simp [h2]
  · simp [h1]
theorem okD_good {t : Int} {S : List ByteArray} {d : Decl} (h1 : nameB d.name = true) (h2 : hasS S d.name = false) (h3 : 1 ≤ d.xtors.length) (h4 : d.xtors.length ≤ 6) : okD t S d = okXs t (S ++ [d.name]) d.xtors := by simp [okD, h1, h2, h3, h4]
theorem addXs_cons (S : List ByteArray) (x : Xtor) (l : List Xtor) : addXs S (x :: l) = addXs (S ++ [x.name]) l := by simp [addXs]
theorem addXs_nil (S : List ByteArray) : addXs S [] = S := by simp [addXs]
theorem okXs_cons (t : Int) (S : List ByteArray) (x : Xtor) (l : List Xtor) : okXs t S (x :: l) = (okX t S x && okXs t (S ++ [x.name]) l) := rfl

theorem validDecl_any (b : Nat) (S : List ByteArray) (v : Value) (d : Decl) (t : Int) (w : World) (hs : SetAt w b S) (hd : RDecl w v d) :
    Calls Tryz.prog 142 #[v, .int .i64 t, .map (some b)] w (VPost b (okD t S d) (addD S d) w) := by
  have HB1 := Lib.hid (@okD_bad1 t S d)
  have HB2 := Lib.hid (@okD_bad2 t S d)
  have HB3 := Lib.hid (@okD_bad3 t S d)
  have HG := Lib.hid (@okD_good t S d)
  have HAD : Hid (addD S d = addXs (S ++ [d.name]) d.xtors) := rfl
  obtain ⟨va, rfl, hx, hn⟩ := hd
  generalize hrr : okD t S d = rr at *
  generalize hSS : addD S d = SS at *
  clear hrr hSS
  obtain ⟨nm, co, l⟩ := d
  dsimp only at *
  have HE := Lib.hid (Ext.al w (Obj.cells #[Value.string nm, Value.bool co, va] 72))
  have HR := Lib.hid (hx.below HE.out)
  have HS := Lib.hid (hs.ext HE.out)
  have hc0 : (w.alloc (Obj.cells #[Value.string nm, Value.bool co, va] 72)).cell? ⟨w.heap.size, 0, none⟩ = some (.string nm) := by
    rw [World.cell?_alloc_at _ _ _ _ rfl]; rfl
  have hc2 : (w.alloc (Obj.cells #[Value.string nm, Value.bool co, va] 72)).cell? ⟨w.heap.size, 2, none⟩ = some va := by
    rw [World.cell?_alloc_at _ _ _ _ rfl]; rfl
  obtain ⟨A, c, rfl, hc, hm⟩ := hx.form
  clear hx hs
  unfold maxLen at hm
  go_enter Tryz.func142, Tryz.ntmps142
  go_wp2_with fail
  generalize w.alloc _ = w1 at *
  (with_reducible refine (Plain_any _ _ hn).mono ?_)
  rintro e w' ⟨rfl, rfl⟩
  cases hq : nameB nm
  · have HQ := Lib.hid (HB1.out hq)
    clear hq
    go_wp2
    go_ret
    exact .no HQ.out HS.out (HE.out.but _)
  · have HQ := Lib.hid hq; clear hq
    go_wp2_with fail
    (with_reducible refine (add_any _ _ _ _ HS.out).mono ?_)
    rintro e w2 ⟨rfl, hs2, hx2⟩
    have hc0 := hx2.keep HS.out hc0
    have hc2 := hx2.keep HS.out hc2
    have HR2 := Lib.hid (HR.out.but hx2 HS.out)
    have HX2 := Lib.hid ((HE.out.but _).tr hx2); clear hx2
    cases hq : hasS S nm
    · rw [hq] at hs2
      have HS2 : Hid (SetAt w2 b (S ++ [nm])) := hs2
      clear hs2
      have HQ2 := Lib.hid hq; clear hq
      by_cases h6 : 1 ≤ l.length ∧ l.length ≤ 6
      · obtain ⟨h5, h6⟩ := h6
        have HG := Lib.hid (HG.out HQ.out HQ2.out h5 h6)
        generalize S ++ [nm] = S1 at *
        go_wp2
        go_loopw [33] (fun i wr => ∃ (k : Nat) (S' : List ByteArray), k ≤ l.length ∧ i = .int .i64 k ∧ SetAt wr b S' ∧ ExtBut b w2 wr ∧ okXs t S1 l = okXs t S' (l.drop k) ∧ addXs S1 l = addXs S' (l.drop k)) (fun i _ => l.length - (intOf i).toNat)
        case atStart => exact ⟨0, S1, Nat.zero_le _, rfl, HS2.out, ExtBut.rf _ _, rfl, rfl⟩
        case round =>
          obtain ⟨k, S', hk, rfl, hs3, hb, hno, had⟩ := hrel
          have HN := Lib.hid hno; have HB := Lib.hid hb; have HA := Lib.hid had; have HS3 := Lib.hid hs3; clear hno hb had hs3
          by_cases hlt : k < l.length
          · have HRk := Lib.hid (HR2.out.but HB.out HS2.out)
            obtain ⟨b2, o, vx, rfl, hbl, h0, h1, hx, hxn⟩ := HRk.out.at_ hlt
            have HD := Lib.hid (drop_step hlt)
            generalize l[k] = x at *
            obtain ⟨A2, c2, rfl, -⟩ := hx.form
            have HW := Lib.hid (Ext.al wr (Obj.cells #[Value.string x.name, Value.slice A2 x.args.length c2] 67))
            have HXa := Lib.hid (hx.below HW.out); clear hx
            go_wp2_with fail
            (with_reducible refine (validXtor_any _ _ _ _ _ _ (HS3.out.ext HW.out) HXa.out hxn).mono ?_)
            rintro e w3 ⟨rfl, hyes, hany, hx3⟩
            have HX3 := Lib.hid ((HB.out.tr (HW.out.but _)).tr hx3); have HY := Lib.hid hyes; have HAny := Lib.hid hany; clear hx3 hyes hany
            cases hq : okX t S' x
            · have HQ3 := Lib.hid hq; clear hq
              go_wp2
              go_ret
              obtain ⟨S4, hs4⟩ := HAny.out
              exact .no (by rw [HG.out, HN.out, HD.out, okXs_cons, HQ3.out]; rfl) hs4 (HX2.out.tr HX3.out)
            · have HQ3 := Lib.hid hq; clear hq
              go_wp2
              go_roundw
              case rel => exact ⟨k + 1, S' ++ [x.name], by omega, by go_num, HY.out HQ3.out, HX3.out, by rw [HN.out, HD.out, okXs_cons, HQ3.out]; rfl, by rw [HA.out, HD.out, addXs_cons]⟩
              case measure => simp [intOf]; omega
          · go_wp2
            go_ret
            exact .yes_ (by rw [HG.out, HN.out, drop_end hlt]; rfl) (by rw [HAD.out, HA.out, drop_end hlt, addXs_nil]; exact HS3.out) (HX2.out.tr HB.out)
      · have HQ3 := Lib.hid (HB3.out h6)
        by_cases h5 : 1 ≤ l.length
        all_goals
          have h7 : ¬ l.length ≤ 6 ∨ ¬ 1 ≤ l.length := by omega
          go_wp2
          go_ret
          exact .no HQ3.out HS2.out HX2.out
    · have HQ2 := Lib.hid (HB2.out hq)
      rw [hq] at hs2
      have HS2 := Lib.hid hs2; clear hs2 hq
      go_wp2
      go_ret
      exact .no HQ2.out HS2.out HX2.out

theorem Ext.butNew {w w1 w2 : World} (h : Ext w w1) (k : ExtBut w.heap.size w1 w2) : Ext w w2 :=
  ⟨k.os.trans h.os, k.tape.trans h.tape, k.output.trans h.output, Nat.le_trans h.size k.size, fun i hi => (k.block i (Nat.lt_of_lt_of_le hi h.size) (by omega)).trans (h.block i hi)⟩
theorem okDs_cons (t : Int) (S : List ByteArray) (d : Decl) (l : List Decl) : okDs t S (d :: l) = (okD t S d && okDs t (addD S d) l) := rfl
theorem validB_bad {l : List Decl} (h : ¬ l.length ≤ 8) : validB l = false := by simp [validB, h]
theorem validB_good {l : List Decl} (h : l.length ≤ 8) : validB l = okDs l.length [] l := by simp [validB, h]

theorem valid_any (v : Value) (l : List Decl) (w : World) (h : RDecls w v l) :
    Calls Tryz.prog 118 #[v] w fun e w' => e = .returned (.bool (validB l)) ∧ Ext w w' := by
  have HB := Lib.hid (@validB_bad l)
  have HG := Lib.hid (@validB_good l)
  generalize hrr : validB l = rr at *
  clear hrr
  have HE := Lib.hid (Ext.al w (Obj.map #[] 0))
  have HR := Lib.hid (h.below HE.out)
  have HS := Lib.hid (SetAt.new w)
  obtain ⟨A, c, rfl, hc, hm⟩ := h.form
  clear h
  unfold maxLen at hm
  have hmm := @run_makeMap Tryz.prog
  go_enter Tryz.func118, Tryz.ntmps118
  by_cases h8 : l.length ≤ 8
  · have HG := Lib.hid (HG.out h8)
    go_wp2
    have HZ2 : Hid (∀ w2, ExtBut w.heap.size (w.alloc (Obj.map #[] 0)) w2 → Ext w w2) := fun w2 h => Ext.butNew HE.out h
    generalize w.alloc _ = w1 at *
    generalize hbb : w.heap.size = b0 at *
    clear hbb
    go_loopw [12] (fun i wr => ∃ (k : Nat) (S' : List ByteArray), k ≤ l.length ∧ i = .int .i64 k ∧ SetAt wr b0 S' ∧ ExtBut b0 w1 wr ∧ okDs l.length [] l = okDs l.length S' (l.drop k)) (fun i _ => l.length - (intOf i).toNat)
    case atStart => exact ⟨0, [], Nat.zero_le _, rfl, HS.out, ExtBut.rf _ _, rfl⟩
    case round =>
      obtain ⟨k, S', hk, rfl, hs3, hb, hno⟩ := hrel
      have HN := Lib.hid hno; have HB := Lib.hid hb; have HS3 := Lib.hid hs3; clear hno hb hs3
      by_cases hlt : k < l.length
      · have HRk := Lib.hid (HR.out.but HB.out HS.out)
        obtain ⟨b2, o, vx, rfl, hbl, h0, h1, h2, hx, hxn⟩ := HRk.out.at_ hlt
        have HD := Lib.hid (drop_step hlt)
        generalize l[k] = d at *
        obtain ⟨A2, c2, rfl, -⟩ := hx.form
        have HW := Lib.hid (Ext.al wr (Obj.cells #[Value.string d.name, Value.bool d.codata, Value.slice A2 d.xtors.length c2] 72))
        have HXa : Hid (RDecl _ _ d) := ⟨_, rfl, hx.below HW.out, hxn⟩
        clear hx
        go_wp2_with fail
        (with_reducible refine (validDecl_any _ _ _ _ _ _ (HS3.out.ext HW.out) HXa.out).mono ?_)
        rintro e w3 ⟨rfl, hyes, hany, hx3⟩
        have HX3 := Lib.hid ((HB.out.tr (HW.out.but _)).tr hx3); have HY := Lib.hid hyes; clear hx3 hyes hany
        cases hq : okD l.length S' d
        · have HQ3 := Lib.hid hq; clear hq
          go_wp2
          go_ret
          exact ⟨ret_bool (by rw [HG.out, HN.out, HD.out, okDs_cons, HQ3.out]; rfl), HZ2.out _ HX3.out⟩
        · have HQ3 := Lib.hid hq; clear hq
          go_wp2
          go_roundw
          case rel => exact ⟨k + 1, addD S' d, by omega, by go_num, HY.out HQ3.out, HX3.out, by rw [HN.out, HD.out, okDs_cons, HQ3.out]; rfl⟩
          case measure => simp [intOf]; omega
      · go_wp2
        go_ret
        exact ⟨ret_bool (by rw [HG.out, HN.out, drop_end hlt]; rfl), HZ2.out _ HB.out⟩
  · have HQ := Lib.hid (HB.out h8)
    go_wp2
    go_ret
    exact ⟨ret_bool HQ.out.symm, Ext.rf _⟩
end Go.Proofs.YtogmjgccopmplaaGreat

namespace Go.Proofs.YtogmjgccopmplaaGreat
open Go.RowKit

def codB (l : List Decl) (t : Int) : Bool := if 1 ≤ t then (l[(t - 1).toNat]?.map Decl.codata).getD false else false
theorem codB_in {l : List Decl} {t : Nat} (h : t < l.length) : codB l (t + 1) = (l[t]).codata := by
  unfold codB
  have e : ((t : Int) + 1 - 1).toNat = t := by omega
  rw [if_pos (by omega), e, List.getElem?_eq_getElem h]; rfl
theorem codB_out {l : List Decl} {t : Int} (h : ¬ (1 ≤ t ∧ t ≤ l.length)) : codB l t = false := by
  unfold codB
  split
  · rw [List.getElem?_eq_none (by omega)]; rfl
  · rfl
theorem RCodata_any (v : Value) (l : List Decl) (t : Int) (w : World) (h : RDecls w v l) :
    Calls Tryz.prog 117 #[v, .int .i64 t] w fun e w' => e = .returned (.bool (codB l t)) ∧ w = w' := by
  have HR := Lib.hid h
  obtain ⟨A, c, rfl, hc, hm⟩ := h.form
  clear h
  unfold maxLen at hm
  by_cases hr : 1 ≤ t ∧ t ≤ l.length
  · obtain ⟨u, hu⟩ : ∃ u : Nat, t = u + 1 := ⟨(t - 1).toNat, by omega⟩
    subst hu
    have hul : u < l.length := by omega
    clear hr
    have HI := Lib.hid (codB_in hul)
    obtain ⟨b, o, vx, rfl, hbl, h0, h1, h2, h3, h4⟩ := HR.out.at_ hul
    clear h3
    generalize l[u] = d at *
    go_enter Tryz.func117, Tryz.ntmps117
    go_wp2
    go_ret
    exact ⟨ret_bool (by rw [HI.out]), rfl⟩
  · have HI := Lib.hid (codB_out hr)
    by_cases h1 : 1 ≤ t
    all_goals
      have hn1 : t < 1 ∨ (l.length : Int) < t := by omega
      clear hr
      go_enter Tryz.func117, Tryz.ntmps117
      go_wp2
      go_ret
      exact ⟨ret_bool HI.out.symm, rfl⟩

def hasI (l : List Decl) (t n : Int) : Bool := if 1 ≤ t ∧ 0 ≤ n then decide (n < ((l[(t - 1).toNat]?.map fun d => d.xtors.length).getD 0 : Nat)) else false
theorem hasI_in {l : List Decl} {t : Nat} {n : Int} (h : t < l.length) (h0 : 0 ≤ n) : hasI l (t + 1) n = decide (n < ((l[t]).xtors.length : Int)) := by
  unfold hasI
  have e : ((t : Int) + 1 - 1).toNat = t := by omega
  rw [if_pos (by omega), e, List.getElem?_eq_getElem h]; rfl
theorem hasI_neg {l : List Decl} {t n : Int} (h : ¬ 0 ≤ n) : hasI l t n = false := by
  unfold hasI
  rw [if_neg (by omega)]
theorem hasI_out {l : List Decl} {t n : Int} (h : ¬ (1 ≤ t ∧ t ≤ l.length)) : hasI l t n = false := by
  unfold hasI
  split
  · rw [List.getElem?_eq_none (by omega)]; simp; omega
  · rfl
theorem RHas_any (v : Value) (l : List Decl) (t n : Int) (w : World) (h : RDecls w v l) :
    Calls Tryz.prog 116 #[v, .int .i64 t, .int .i64 n] w fun e w' => e = .returned (.bool (hasI l t n)) ∧ w = w' := by
  have HR := Lib.hid h
  obtain ⟨A, c, rfl, hc, hm⟩ := h.form
  clear h
  unfold maxLen at hm
  by_cases hr : 1 ≤ t ∧ t ≤ l.length
  · obtain ⟨u, hu⟩ : ∃ u : Nat, t = u + 1 := ⟨(t - 1).toNat, by omega⟩
    subst hu
    have hul : u < l.length := by omega
    clear hr
    obtain ⟨b, o, vx, rfl, hbl, h0, h1, h2, h3, h4⟩ := HR.out.at_ hul
    obtain ⟨A2, c2, rfl, hc2, hm2⟩ := h3.form
    unfold maxLen at hm2
    clear h3
    by_cases hn : 0 ≤ n
    · have HI := Lib.hid (hasI_in hul hn)
      generalize l[u] = d at *
      go_enter Tryz.func116, Tryz.ntmps116
      go_wp2
      go_ret
      exact ⟨ret_bool (by rw [HI.out]), rfl⟩
    · have HI := Lib.hid (hasI_neg (l := l) (t := u + 1) hn)
      generalize l[u] = d at *
      go_enter Tryz.func116, Tryz.ntmps116
      go_wp2
      go_ret
      exact ⟨ret_bool (by rw [HI.out]), rfl⟩
  · have HI := Lib.hid (hasI_out (n := n) hr)
    by_cases h1 : 1 ≤ t
    all_goals
      have hn1 : t < 1 ∨ (l.length : Int) < t := by omega
      clear hr
      go_enter Tryz.func116, Tryz.ntmps116
      go_wp2
      go_ret
      exact ⟨ret_bool HI.out.symm, rfl⟩
end Go.Proofs.YtogmjgccopmplaaGreat
