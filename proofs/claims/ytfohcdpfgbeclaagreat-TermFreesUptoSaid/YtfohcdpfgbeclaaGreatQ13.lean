import Derived.Test.YtfohcdpfgbeclaaGreatQ12
namespace Go.Proofs.YtfohcdpfgbeclaaGreat
open Go.RowKit


theorem hasConsumer_any (v : Value) (l : List Arg) (w : World) (h : RArgs w v l) :
    Calls Tryz.prog 113 #[v] w fun e w' => e = .returned (.bool (hasCo l)) ∧ Below w.heap.size w w' := by
  have HR := Lib.hid h
  obtain ⟨A, c, rfl, hc, hm, hcell⟩ := h
  clear hcell
  unfold maxLen at hm
  go_enter Tryz.func113, Tryz.ntmps113
  go_wp2
  go_loopw [7] (fun i wr => ∃ k : Nat, k ≤ l.length ∧ i = .int .i64 k ∧ Below w.heap.size w wr ∧ hasCo l = hasCo (l.drop k)) (fun i _ => l.length - (intOf i).toNat)
  case atStart => exact ⟨0, Nat.zero_le _, rfl, Below.refl _ _, rfl⟩
  case round =>
    obtain ⟨k, hk, rfl, hb, hno⟩ := hrel
    have HN := Lib.hid hno; have HB := Lib.hid hb; clear hno hb
    by_cases hlt : k < l.length
    · obtain ⟨b, o, rfl, hbl, h0, h1⟩ := HR.out.at_ hlt
      have HD := Lib.hid (drop_step hlt)
      have h0 := (HB.out.cell hbl).trans h0
      have h1 := (HB.out.cell hbl).trans h1
      generalize l[k] = a at *
      go_wp2
      · have q : a.co = true := by assumption
        go_ret
        exact ⟨ret_bool (by rw [HN.out, HD.out]; simp [hasCo, q]), HB.out.alloc HB.out.size _⟩
      · have q : a.co = false := by assumption
        go_roundw
        case rel => exact ⟨k + 1, by omega, by go_num, HB.out.alloc HB.out.size _, by rw [HN.out, HD.out]; simp [hasCo, q]⟩
        case measure => simp [intOf]; omega
    · go_wp2
      go_ret
      exact ⟨ret_bool (by rw [HN.out, drop_end hlt]; rfl), HB.out⟩

theorem ends_any (v : Value) (l : List Arg) (w : World) (h : RArgs w v l) :
    Calls Tryz.prog 112 #[v] w fun e w' => e = .returned (.bool (endsB l)) ∧ Below w.heap.size w w' := by
  have HR := Lib.hid h
  obtain ⟨A, c, rfl, hc, hm, hcell⟩ := h
  clear hcell
  unfold maxLen at hm
  have HE : Hid (endsB l = (lastCo l && !hasCo (l.take (l.length - 1)))) := rfl
  by_cases h0 : 0 < l.length
  · obtain ⟨b, o, rfl, hbl, h1, h2⟩ := HR.out.at_ (k := l.length - 1) (by omega)
    have HL := Lib.hid (lastCo_eq h0)
    have HT := Lib.hid (HR.out.take (n := l.length - 1) (by omega))
    generalize l[l.length - 1] = a at *
    go_enter Tryz.func112, Tryz.ntmps112
    go_wp2_with (go_at_call 113; (with_reducible refine (hasConsumer_any _ _ _ HT.out).mono ?_); rintro e w' ⟨rfl, hb⟩)
    · have q : a.co = true := by assumption
      go_ret
      exact ⟨ret_bool (by rw [HE.out, HL.out, q]; rfl), hb⟩
    · have q : ¬ a.co = true := by assumption
      go_ret
      exact ⟨ret_bool (by rw [HE.out, HL.out]; simp [q]), Below.refl _ _⟩
  · have HL := Lib.hid (lastCo_nil h0)
    go_enter Tryz.func112, Tryz.ntmps112
    go_wp2
    go_ret
    exact ⟨ret_bool (by rw [HE.out, HL.out]; rfl), Below.refl _ _⟩

theorem Consumers_any (va : Value) (x : Xtor) (w : World) (h : RArgs w va x.args) :
    Calls Tryz.prog 68 #[.agg #[.string x.name, va]] w fun e w' => e = .returned (.int .i64 (nCo x.args)) ∧ Below w.heap.size w w' := by
  generalize x.args = l at *
  have HR := Lib.hid h
  obtain ⟨A, c, rfl, hc, hm, hcell⟩ := h
  clear hcell
  unfold maxLen at hm
  go_enter Tryz.func68, Tryz.ntmps68
  go_wp2
  have hB1 : Below w.heap.size w (w.alloc (Obj.cells #[Value.string x.name, Value.slice A l.length c] 119)) := (Below.refl _ _).alloc (Nat.le_refl _) _
  generalize w.alloc _ = w1 at *
  have HB1 := Lib.hid hB1; clear hB1
  have HR1 := Lib.hid (HR.out.below HB1.out)
  go_loopw [3, 9] (fun n i wr => ∃ (k q : Nat), k ≤ l.length ∧ q ≤ k ∧ i = .int .i64 k ∧ n = .int .i64 q ∧ Below w1.heap.size w1 wr ∧ nCo l = q + nCo (l.drop k)) (fun _ i _ => l.length - (intOf i).toNat)
  case atStart => exact ⟨0, 0, Nat.zero_le _, Nat.le_refl _, rfl, rfl, Below.refl _ _, by simp⟩
  case round =>
    obtain ⟨k, q, hk, hq, rfl, rfl, hb, hno⟩ := hrel
    have HN := Lib.hid hno; have HB := Lib.hid hb; clear hno hb
    by_cases hlt : k < l.length
    · obtain ⟨b, o, rfl, hbl, h0, h1⟩ := HR1.out.at_ hlt
      have HD := Lib.hid (drop_step hlt)
      have h0 := (HB.out.cell hbl).trans h0
      have h1 := (HB.out.cell hbl).trans h1
      generalize l[k] = a at *
      go_wp2
      · have e : a.co = true := by assumption
        go_roundw
        case rel => exact ⟨k + 1, q + 1, by omega, by omega, by go_num, by go_num, HB.out.alloc HB.out.size _, by rw [HN.out, HD.out]; simp [nCo, e]; omega⟩
        case measure => simp [intOf]; omega
      · have e : a.co = false := by assumption
        go_roundw
        case rel => exact ⟨k + 1, q, by omega, by omega, by go_num, by go_num, HB.out.alloc HB.out.size _, by rw [HN.out, HD.out]; simp [nCo, e]⟩
        case measure => simp [intOf]; omega
    · go_wp2
      go_ret
      exact ⟨ret_int (by rw [HN.out, drop_end hlt]; simp [nCo]), HB1.out.trans (HB.out.mono HB1.out.size)⟩

theorem Ends_any (va : Value) (x : Xtor) (w : World) (h : RArgs w va x.args) :
    Calls Tryz.prog 67 #[.agg #[.string x.name, va]] w fun e w' => e = .returned (.bool (endsB x.args)) ∧ Below w.heap.size w w' := by
  have HE := Lib.hid (endsB_eq x.args)
  have hb1 : Below w.heap.size w (w.alloc (Obj.cells #[Value.string x.name, va] 119)) := (Below.refl _ _).alloc (Nat.le_refl _) _
  have HB1 := Lib.hid hb1
  have HR := Lib.hid (h.below hb1)
  clear hb1
  have hl1 : nCo x.args = 1 → 0 < x.args.length := by
    intro e
    rcases Nat.eq_zero_or_pos x.args.length with h0 | h0
    · rw [List.eq_nil_of_length_eq_zero h0] at e; cases e
    · exact h0
  have HL1 := Lib.hid hl1; clear hl1
  have hc0 : (w.alloc (Obj.cells #[Value.string x.name, va] 119)).cell? ⟨w.heap.size, 0, none⟩ = some (.string x.name) := by
    rw [World.cell?_alloc_at _ _ _ _ rfl]; rfl
  have hc1 : (w.alloc (Obj.cells #[Value.string x.name, va] 119)).cell? ⟨w.heap.size, 1, none⟩ = some va := by
    rw [World.cell?_alloc_at _ _ _ _ rfl]; rfl
  go_enter Tryz.func67, Tryz.ntmps67
  go_wp2_with fail
  (with_reducible refine (Consumers_any _ _ _ HR.out).mono ?_)
  rintro e w2 ⟨rfl, hb2⟩
  have HC0 := Lib.hid ((hb2.cell (p := ⟨w.heap.size, 0, none⟩) (by simp)).trans hc0)
  have hd1 := ((hb2.cell (p := ⟨w.heap.size, 1, none⟩) (by simp)).trans hc1)
  have HR2 := Lib.hid (HR.out.below hb2)
  have HB2 := Lib.hid (HB1.out.trans (hb2.mono HB1.out.size))
  clear hb2 hc0 hc1 h
  by_cases h1 : nCo x.args = 1
  · have h0 := HL1.out h1
    have HL := Lib.hid (lastCo_eq h0)
    have hr2 := HR2.out
    obtain ⟨A, c, rfl, hc, hm, hcell⟩ := hr2
    clear hcell
    unfold maxLen at hm
    obtain ⟨b, o, rfl, hbl, h3, h4⟩ := HR2.out.at_ (k := x.args.length - 1) (by omega)
    generalize x.args[x.args.length - 1] = a at *
    have hn : ((nCo x.args : Int) == 1) = true := by simp [h1]
    have H1 := Lib.hid h1; clear h1
    go_wp2
    go_ret
    exact ⟨ret_bool (by rw [HE.out, HL.out, H1.out]; simp), HB2.out⟩
  · have hn : ((nCo x.args : Int) == 1) = false := by simp; omega
    have H1 := Lib.hid h1; clear h1
    go_wp2
    go_ret
    exact ⟨ret_bool (by rw [HE.out]; simp [H1.out]), HB2.out⟩

/-- A declaration as a value. -/
def RDecl (w : World) (v : Value) (d : Decl) : Prop := ∃ va, v = .agg #[.string d.name, .bool d.codata, va] ∧ RXtors w va d.xtors ∧ d.name.size ≤ maxLen

theorem isSource_any (v : Value) (d : Decl) (w : World) (h : RDecl w v d) :
    Calls Tryz.prog 86 #[v] w fun e w' => e = .returned (.bool (srcD d)) ∧ Below w.heap.size w w' := by
  obtain ⟨va, rfl, hx, hnm⟩ := h
  have HS : Hid (srcD d = d.xtors.all (srcX d.codata)) := rfl
  obtain ⟨nm, co, l⟩ := d
  dsimp only at *
  have HR := Lib.hid hx
  obtain ⟨A, c, rfl, hc, hm, hcell⟩ := hx
  clear hcell
  unfold maxLen at hm
  go_enter Tryz.func86, Tryz.ntmps86
  go_wp2
  have hB1 : Below w.heap.size w (w.alloc (Obj.cells #[Value.string nm, Value.bool co, Value.slice A l.length c] 115)) := (Below.refl _ _).alloc (Nat.le_refl _) _
  have hc1 : (w.alloc (Obj.cells #[Value.string nm, Value.bool co, Value.slice A l.length c] 115)).cell? ⟨w.heap.size, 1, none⟩ = some (.bool co) := by
    rw [World.cell?_alloc_at _ _ _ _ rfl]; rfl
  have hz : w.heap.size < (w.alloc (Obj.cells #[Value.string nm, Value.bool co, Value.slice A l.length c] 115)).heap.size := by simp
  generalize w.alloc _ = w1 at *
  have HB1 := Lib.hid hB1; clear hB1
  have HR1 := Lib.hid (HR.out.below HB1.out)
  go_loopw [8] (fun i wr => ∃ k : Nat, k ≤ l.length ∧ i = .int .i64 k ∧ Below w1.heap.size w1 wr ∧ l.all (srcX co) = (l.drop k).all (srcX co)) (fun i _ => l.length - (intOf i).toNat)
  case atStart => exact ⟨0, Nat.zero_le _, rfl, Below.refl _ _, by simp⟩
  case round =>
    obtain ⟨k, hk, rfl, hb, hno⟩ := hrel
    have HN := Lib.hid hno; have HB := Lib.hid hb; clear hno hb
    have hc1 := (HB.out.cell (p := ⟨w.heap.size, 1, none⟩) hz).trans hc1
    by_cases hlt : k < l.length
    · obtain ⟨b, o, va, rfl, hbl, h0, h1, h2, h3⟩ := HR1.out.at_ hlt
      have HD := Lib.hid (drop_step hlt)
      have h0 := (HB.out.cell hbl).trans h0
      have h1 := (HB.out.cell hbl).trans h1
      generalize l[k] = a at *
      have HA := Lib.hid (h2.below HB.out); clear h2
      obtain ⟨A2, c2, rfl, -⟩ := HA.out.form
      have hzr : w.heap.size < wr.heap.size := Nat.lt_of_lt_of_le hz HB.out.size
      have HX1 : Hid (co = true → srcX co a = endsB a.args) := fun e => by simp [srcX, e]
      have HX2 : Hid (co = false → srcX co a = !hasCo a.args) := fun e => by simp [srcX, e]
      have hal : Below wr.heap.size wr (wr.alloc (Obj.cells #[Value.string a.name, Value.slice A2 a.args.length c2] 119)) := (Below.refl _ _).alloc (Nat.le_refl _) _
      have HW := Lib.hid (HB1.out.trans ((HB.out.trans (hal.mono HB.out.size)).mono HB1.out.size))
      have HV := Lib.hid (HB.out.trans (hal.mono HB.out.size))
      clear hal
      cases co
      · have HX := Lib.hid (HX2.out rfl); clear HX1 HX2
        go_wp2_with (go_at_call 113; (with_reducible refine (hasConsumer_any _ _ _ (HA.out.below ((Below.refl _ _).alloc (Nat.le_refl _) _))).mono ?_); rintro e w' ⟨rfl, hb2⟩)
        · have q : hasCo a.args = true := by assumption
          go_ret
          exact ⟨ret_bool (by rw [HS.out, HN.out, HD.out]; simp [HX.out, q]), HW.out.trans (hb2.mono HW.out.size)⟩
        · have q : hasCo a.args = false := by assumption
          go_roundw
          case rel => exact ⟨k + 1, by omega, by go_num, HV.out.trans (hb2.mono HV.out.size), by rw [HN.out, HD.out]; simp [HX.out, q]⟩
          case measure => simp [intOf]; omega
      · have HX := Lib.hid (HX1.out rfl); clear HX1 HX2
        have hc4 := (Ext.al wr (Obj.cells #[Value.string a.name, Value.slice A2 a.args.length c2] 119)).keep hc1
        go_wp2_with (go_at_call 112; (with_reducible refine (ends_any _ _ _ (HA.out.below (Ext.al _ _))).mono ?_); rintro e w' ⟨rfl, hb2⟩; have hc3 := Ext.keep hb2 hc4)
        · have q : endsB a.args = true := by assumption
          go_roundw
          case rel => exact ⟨k + 1, by omega, by go_num, HV.out.trans (hb2.mono HV.out.size), by rw [HN.out, HD.out]; simp [HX.out, q]⟩
          case measure => simp [intOf]; omega
        · have q : ¬ endsB a.args = true := by assumption
          go_ret
          exact ⟨ret_bool (by rw [HS.out, HN.out, HD.out]; simp [HX.out, q]), HW.out.trans (hb2.mono HW.out.size)⟩
    · go_wp2
      go_ret
      exact ⟨ret_bool (by rw [HS.out, HN.out, drop_end hlt]; rfl), HB1.out.trans (HB.out.mono HB1.out.size)⟩

theorem srcX_t (a : Xtor) : srcX true a = endsB a.args := rfl
theorem srcX_f (a : Xtor) : srcX false a = !hasCo a.args := rfl

theorem RSource_any (v : Value) (l : List Decl) (w : World) (h : RDecls w v l) :
    Calls Tryz.prog 36 #[v] w fun e w' => e = .returned (.bool (srcB l)) ∧ Ext w w' := by
  have HS : Hid (srcB l = l.all srcD) := rfl
  have HR := Lib.hid h
  obtain ⟨A, c, rfl, hc, hm⟩ := h.form
  clear h
  unfold maxLen at hm
  go_enter Tryz.func36, Tryz.ntmps36
  go_wp2
  go_loopw [9] (fun i wr => ∃ k : Nat, k ≤ l.length ∧ i = .int .i64 k ∧ Ext w wr ∧ l.all srcD = (l.drop k).all srcD) (fun i _ => l.length - (intOf i).toNat)
  case atStart => exact ⟨0, Nat.zero_le _, rfl, Ext.rf _, by simp⟩
  case round =>
    obtain ⟨k, hk, rfl, hb, hno⟩ := hrel
    obtain ⟨wo, rfl⟩ : ∃ wo : World, wo = wr := ⟨_, rfl⟩
    have HN := Lib.hid hno; have HB := Lib.hid hb; clear hno hb
    by_cases hlt : k < l.length
    · have HRk := Lib.hid (HR.out.below HB.out)
      obtain ⟨b, o, vx, rfl, hbl, h0, h1, h2, h3, h4⟩ := HRk.out.at_ hlt
      have HD := Lib.hid (drop_step hlt)
      have HSd : Hid (srcD l[k] = l[k].xtors.all (srcX l[k].codata)) := rfl
      generalize l[k] = d at *
      obtain ⟨nm, co, xs⟩ := d
      dsimp only at *
      obtain ⟨A2, c2, rfl, hc2, hm2⟩ := h3.form
      unfold maxLen at hm2
      have HX := Lib.hid h3; clear h3
      go_wp2
      have hc1 : (wo.alloc (Obj.cells #[Value.string nm, Value.bool co, Value.slice A2 xs.length c2] 115)).cell? ⟨wo.heap.size, 1, none⟩ = some (.bool co) := by
        rw [World.cell?_alloc_at _ _ _ _ rfl]; rfl
      have hE1 := Ext.al wo (Obj.cells #[Value.string nm, Value.bool co, Value.slice A2 xs.length c2] 115)
      generalize wo.alloc _ = w1 at *
      have HE1 := Lib.hid hE1; clear hE1
      have HX1 := Lib.hid (HX.out.below HE1.out)
      go_loopw [16] (fun i wr => ∃ j : Nat, j ≤ xs.length ∧ i = .int .i64 j ∧ Ext w1 wr ∧ xs.all (srcX co) = (xs.drop j).all (srcX co)) (fun i _ => xs.length - (intOf i).toNat)
      case atStart => exact ⟨0, Nat.zero_le _, rfl, Ext.rf _, by simp⟩
      case round =>
        obtain ⟨j, hj, rfl, hb2, hno2⟩ := hrel
        have HN2 := Lib.hid hno2; have HB2 := Lib.hid hb2; clear hno2 hb2
        have hc1 := HB2.out.keep hc1
        by_cases hlt2 : j < xs.length
        · have HX2 := Lib.hid (HX1.out.below HB2.out)
          obtain ⟨b2, o2, va, rfl, hbl2, g0, g1, g2, g3⟩ := HX2.out.at_ hlt2
          have HD2 := Lib.hid (drop_step hlt2)
          generalize xs[j] = x at *
          obtain ⟨A3, c3, rfl, -⟩ := g2.form
          have hE2 := Ext.al wr (Obj.cells #[Value.string x.name, Value.slice A3 x.args.length c3] 119)
          have HE2 := Lib.hid (HB2.out.tr hE2)
          have HA := Lib.hid (g2.below hE2); clear g2
          have hc2' := hE2.keep hc1
          clear hE2
          cases co
          · go_wp2_with (go_at_call 68; (with_reducible refine (Consumers_any _ _ _ HA.out).mono ?_); rintro e w' ⟨rfl, hb2⟩)
            · have q : 0 < nCo x.args := by omega
              go_ret
              exact ⟨ret_bool (by rw [HS.out, HN.out, HD.out, List.all_cons, HSd.out, HN2.out, HD2.out, List.all_cons, srcX_f, hasCo_iff]; simp [q]), HB.out.tr (HE1.out.tr (HE2.out.tr hb2))⟩
            · have q : ¬ 0 < nCo x.args := by omega
              go_roundw
              case rel => exact ⟨j + 1, by omega, by go_num, HE2.out.tr hb2, by rw [HN2.out, HD2.out, List.all_cons, srcX_f, hasCo_iff]; simp [q]⟩
              case measure => simp [intOf]; omega
          · go_wp2_with (go_at_call 67; (with_reducible refine (Ends_any _ _ _ HA.out).mono ?_); rintro e w' ⟨rfl, hb2⟩; have hc3 := Ext.keep hb2 hc2')
            · have q : endsB x.args = true := by assumption
              go_roundw
              case rel => exact ⟨j + 1, by omega, by go_num, HE2.out.tr hb2, by rw [HN2.out, HD2.out, List.all_cons, srcX_t, q]; rfl⟩
              case measure => simp [intOf]; omega
            · have q : endsB x.args = false := by simpa using ‹¬ endsB x.args = true›
              go_ret
              exact ⟨ret_bool (by rw [HS.out, HN.out, HD.out, List.all_cons, HSd.out, HN2.out, HD2.out, List.all_cons, srcX_t, q]; simp), HB.out.tr (HE1.out.tr (HE2.out.tr hb2))⟩
        · go_wp2
          go_roundw
          case rel => exact ⟨k + 1, by omega, by go_num, HB.out.tr (HE1.out.tr HB2.out), by rw [HN.out, HD.out, List.all_cons, HSd.out, HN2.out, drop_end hlt2]; rfl⟩
          case measure => simp [intOf]; omega
    · go_wp2
      go_ret
      exact ⟨ret_bool (by rw [HS.out, HN.out, drop_end hlt]; rfl), HB.out⟩
end Go.Proofs.YtfohcdpfgbeclaaGreat

namespace Go.Proofs.YtfohcdpfgbeclaaGreat
open Go.RowKit

theorem okX_bad1 {t : Int} {S : List ByteArray} {x : Xtor} (h : xtorB x.name = false) : okX t S x = false := by simp [okX, h]
theorem okX_bad2 {t : Int} {S : List ByteArray} {x : Xtor} (h : hasS S x.name = true) : okX t S x = false := by simp [okX, h]
theorem okX_bad3 {t : Int} {S : List ByteArray} {x : Xtor} (h : ¬ x.args.length ≤ 6) : okX t S x = false := by simp [okX, h]
theorem okX_good {t : Int} {S : List ByteArray} {x : Xtor} (h1 : xtorB x.name = true) (h2 : hasS S x.name = false) (h3 : x.args.length ≤ 6) : okX t S x = x.args.all (okTy t) := by simp [okX, h1, h2, h3]
theorem okTy_bad {t : Int} {a : Arg} (h : a.ty < 0 ∨ t < a.ty) : okTy t a = false := by simp [okTy]; omega
theorem okTy_good {t : Int} {a : Arg} (h : 0 ≤ a.ty) (h2 : a.ty ≤ t) : okTy t a = true := by simp [okTy]; omega

/-- What a check answers, and what becomes of the set. -/
structure VPost (b : Nat) (r : Bool) (S : List ByteArray) (w : World) (e : Ending) (w' : World) : Prop where
  ret : e = .returned (.bool r)
  yes : r = true → SetAt w' b S
  any : ∃ S', SetAt w' b S'
  ext : ExtBut b w w'
theorem VPost.no {b : Nat} {r : Bool} {S S' : List ByteArray} {w w' : World} (h : r = false) (hs : SetAt w' b S') (hx : ExtBut b w w') : VPost b r S w (.returned (.bool false)) w' :=
  ⟨by rw [h], (fun e => by rw [h] at e; cases e), ⟨S', hs⟩, hx⟩
theorem VPost.yes_ {b : Nat} {r : Bool} {S : List ByteArray} {w w' : World} (h : r = true) (hs : SetAt w' b S) (hx : ExtBut b w w') : VPost b r S w (.returned (.bool true)) w' :=
  ⟨by rw [h], fun _ => hs, ⟨S, hs⟩, hx⟩

theorem validXtor_any (b : Nat) (S : List ByteArray) (va : Value) (x : Xtor) (t : Int) (w : World) (hs : SetAt w b S) (hx : RArgs w va x.args) (hn : x.name.size ≤ maxLen) :
    Calls Tryz.prog 126 #[.agg #[.string x.name, va], .int .i64 t, .map (some b)] w (VPost b (okX t S x) (S ++ [x.name]) w) := by
  have HB1 := Lib.hid (@okX_bad1 t S x)
  have HB2 := Lib.hid (@okX_bad2 t S x)
  have HB3 := Lib.hid (@okX_bad3 t S x)
  have HG := Lib.hid (@okX_good t S x)
  have HE := Lib.hid (Ext.al w (Obj.cells #[Value.string x.name, va] 119))
  have HR := Lib.hid (hx.below HE.out)
  have HS := Lib.hid (hs.ext HE.out)
  have hc0 : (w.alloc (Obj.cells #[Value.string x.name, va] 119)).cell? ⟨w.heap.size, 0, none⟩ = some (.string x.name) := by
    rw [World.cell?_alloc_at _ _ _ _ rfl]; rfl
  have hc1 : (w.alloc (Obj.cells #[Value.string x.name, va] 119)).cell? ⟨w.heap.size, 1, none⟩ = some va := by
    rw [World.cell?_alloc_at _ _ _ _ rfl]; rfl
  obtain ⟨A, c, rfl, hc, hm⟩ := hx.form
  clear hx hs
  unfold maxLen at hm
  go_enter Tryz.func126, Tryz.ntmps126
  go_wp2_with fail
  generalize w.alloc _ = w1 at *
  (with_reducible refine (Xtor_any _ _ hn).mono ?_)
  rintro e w' ⟨rfl, rfl⟩
  cases hq : xtorB x.name
  · have HQ := Lib.hid (HB1.out hq)
    clear hq
    go_wp2
    go_ret
    exact .no HQ.out HS.out (HE.out.but _)
  · have HQ := Lib.hid hq; clear hq
    go_wp2_with fail
    (with_reducible refine (add_any _ _ _ _ HS.out).mono ?_)
    rintro e w2 ⟨rfl, hs2, hx2⟩
    have hc0 := hx2.keep HS.out hc0
    have hc1 := hx2.keep HS.out hc1
    have HR2 := Lib.hid (HR.out.but hx2 HS.out)
    have HX2 := Lib.hid ((HE.out.but _).tr hx2); clear hx2
    cases hq : hasS S x.name
    · rw [hq] at hs2
      have HS2 := Lib.hid hs2; clear hs2
      have HQ2 := Lib.hid hq; clear hq
      by_cases h6 : x.args.length ≤ 6
      · have HG := Lib.hid (HG.out HQ.out HQ2.out h6)
        generalize x.args = l at *
        go_wp2
        go_loopw [29] (fun i wr => ∃ k : Nat, k ≤ l.length ∧ i = .int .i64 k ∧ Ext w2 wr ∧ l.all (okTy t) = (l.drop k).all (okTy t)) (fun i _ => l.length - (intOf i).toNat)
        case atStart => exact ⟨0, Nat.zero_le _, rfl, Ext.rf _, by simp⟩
        case round =>
          obtain ⟨k, hk, rfl, hb, hno⟩ := hrel
          have HN := Lib.hid hno; have HB := Lib.hid hb; clear hno hb
          by_cases hlt : k < l.length
          · have HRk := Lib.hid (HR2.out.below HB.out)
            obtain ⟨b2, o, rfl, hbl, h0, h1⟩ := HRk.out.at_ hlt
            have HD := Lib.hid (drop_step hlt)
            generalize l[k] = a at *
            have HW := Lib.hid (HB.out.tr (Ext.al wr (Obj.cells #[Value.int IntKind.i64 a.ty, Value.bool a.co] 121)))
            by_cases hA : 0 ≤ a.ty <;> by_cases hB : a.ty ≤ t
            · have HQ3 := Lib.hid (okTy_good hA hB)
              go_wp2
              go_roundw
              case rel => exact ⟨k + 1, by omega, by go_num, HW.out, by rw [HN.out, HD.out, List.all_cons, HQ3.out]; rfl⟩
              case measure => simp [intOf]; omega
            all_goals
              have HQ3 := Lib.hid (okTy_bad (t := t) (a := a) (by omega))
              go_wp2
              go_ret
              exact .no (by rw [HG.out, HN.out, HD.out, List.all_cons, HQ3.out]; rfl) (HS2.out.ext HW.out) (HX2.out.tr (HW.out.but _))
          · go_wp2
            go_ret
            exact .yes_ (by rw [HG.out, HN.out, drop_end hlt]; rfl) (HS2.out.ext HB.out) (HX2.out.tr (HB.out.but _))
      · have HQ3 := Lib.hid (HB3.out h6)
        go_wp2
        go_ret
        exact .no HQ3.out HS2.out HX2.out
    · have HQ2 := Lib.hid (HB2.out hq)
      rw [hq] at hs2
      have HS2 := Lib.hid hs2; clear hs2 hq
      go_wp2
      go_ret
      exact .no HQ2.out HS2.out HX2.out


theorem okD_bad1 {t : Int} {S : List ByteArray} {d : Decl} (h : nameB d.name = false) : okD t S d = false := by simp [okD, h]
theorem okD_bad2 {t : Int} {S : List ByteArray} {d : Decl} (h : hasS S d.name = true) : okD t S d = false := by simp [okD, h]
theorem okD_bad3 {t : Int} {S : List ByteArray} {d : Decl} (h : ¬ (1 ≤ d.xtors.length ∧ d.xtors.length ≤ 6)) : okD t S d = false := by
  unfold okD
  by_cases h1 : 1 ≤ d.xtors.length
  · have h2 : ¬ d.xtors.length ≤ 6 := fun h2 => h ⟨h1, h2⟩
    simp [h2]
  · simp [h1]
theorem okD_good {t : Int} {S : List ByteArray} {d : Decl} (h1 : nameB d.name = true) (h2 : hasS S d.name = false) (h3 : 1 ≤ d.xtors.length) (h4 : d.xtors.length ≤ 6) : okD t S d = okXs t (S ++ [d.name]) d.xtors := by simp [okD, h1, h2, h3, h4]
theorem addXs_cons (S : List ByteArray) (x : Xtor) (l : List Xtor) : addXs S (x :: l) = addXs (S ++ [x.name]) l := by simp [addXs]
theorem addXs_nil (S : List ByteArray) : addXs S [] = S := by simp [addXs]
theorem okXs_cons (t : Int) (S : List ByteArray) (x : Xtor) (l : List Xtor) : okXs t S (x :: l) = (okX t S x && okXs t (S ++ [x.name]) l) := rfl

theorem validDecl_any (b : Nat) (S : List ByteArray) (v : Value) (d : Decl) (t : Int) (w : World) (hs : SetAt w b S) (hd : RDecl w v d) :
    Calls Tryz.prog 111 #[v, .int .i64 t, .map (some b)] w (VPost b (okD t S d) (addD S d) w) := by
  have HB1 := Lib.hid (@okD_bad1 t S d)
  have HB2 := Lib.hid (@okD_bad2 t S d)
  have HB3 := Lib.hid (@okD_bad3 t S d)
  have HG := Lib.hid (@okD_good t S d)
  have HAD : Hid (addD S d = addXs (S ++ [d.name]) d.xtors) := rfl
  obtain ⟨va, rfl, hx, hn⟩ := hd
  generalize hrr : okD t S d = rr at *
  generalize hSS : addD S d = SS at *
  clear hrr hSS
  obtain ⟨nm, co, l⟩ := d
  dsimp only at *
  have HE := Lib.hid (Ext.al w (Obj.cells #[Value.string nm, Value.bool co, va] 115))
  have HR := Lib.hid (hx.below HE.out)
  have HS := Lib.hid (hs.ext HE.out)
  have hc0 : (w.alloc (Obj.cells #[Value.string nm, Value.bool co, va] 115)).cell? ⟨w.heap.size, 0, none⟩ = some (.string nm) := by
    rw [World.cell?_alloc_at _ _ _ _ rfl]; rfl
  have hc2 : (w.alloc (Obj.cells #[Value.string nm, Value.bool co, va] 115)).cell? ⟨w.heap.size, 2, none⟩ = some va := by
    rw [World.cell?_alloc_at _ _ _ _ rfl]; rfl
  obtain ⟨A, c, rfl, hc, hm⟩ := hx.form
  clear hx hs
  unfold maxLen at hm
  go_enter Tryz.func111, Tryz.ntmps111
  go_wp2_with fail
  generalize w.alloc _ = w1 at *
  (with_reducible refine (Plain_any _ _ hn).mono ?_)
  rintro e w' ⟨rfl, rfl⟩
  cases hq : nameB nm
  · have HQ := Lib.hid (HB1.out hq)
    clear hq
    go_wp2
    go_ret
    exact .no HQ.out HS.out (HE.out.but _)
  · have HQ := Lib.hid hq; clear hq
    go_wp2_with fail
    (with_reducible refine (add_any _ _ _ _ HS.out).mono ?_)
    rintro e w2 ⟨rfl, hs2, hx2⟩
    have hc0 := hx2.keep HS.out hc0
    have hc2 := hx2.keep HS.out hc2
    have HR2 := Lib.hid (HR.out.but hx2 HS.out)
    have HX2 := Lib.hid ((HE.out.but _).tr hx2); clear hx2
    cases hq : hasS S nm
    · rw [hq] at hs2
      have HS2 : Hid (SetAt w2 b (S ++ [nm])) := hs2
      clear hs2
      have HQ2 := Lib.hid hq; clear hq
      by_cases h6 : 1 ≤ l.length ∧ l.length ≤ 6
      · obtain ⟨h5, h6⟩ := h6
        have HG := Lib.hid (HG.out HQ.out HQ2.out h5 h6)
        generalize S ++ [nm] = S1 at *
        go_wp2
        go_loopw [33] (fun i wr => ∃ (k : Nat) (S' : List ByteArray), k ≤ l.length ∧ i = .int .i64 k ∧ SetAt wr b S' ∧ ExtBut b w2 wr ∧ okXs t S1 l = okXs t S' (l.drop k) ∧ addXs S1 l = addXs S' (l.drop k)) (fun i _ => l.length - (intOf i).toNat)
        case atStart => exact ⟨0, S1, Nat.zero_le _, rfl, HS2.out, ExtBut.rf _ _, rfl, rfl⟩
        case round =>
          obtain ⟨k, S', hk, rfl, hs3, hb, hno, had⟩ := hrel
          have HN := Lib.hid hno; have HB := Lib.hid hb; have HA := Lib.hid had; have HS3 := Lib.hid hs3; clear hno hb had hs3
          by_cases hlt : k < l.length
          · have HRk := Lib.hid (HR2.out.but HB.out HS2.out)
            obtain ⟨b2, o, vx, rfl, hbl, h0, h1, hx, hxn⟩ := HRk.out.at_ hlt
            have HD := Lib.hid (drop_step hlt)
            generalize l[k] = x at *
            obtain ⟨A2, c2, rfl, -⟩ := hx.form
            have HW := Lib.hid (Ext.al wr (Obj.cells #[Value.string x.name, Value.slice A2 x.args.length c2] 119))
            have HXa := Lib.hid (hx.below HW.out); clear hx
            go_wp2_with fail
            (with_reducible refine (validXtor_any _ _ _ _ _ _ (HS3.out.ext HW.out) HXa.out hxn).mono ?_)
            rintro e w3 ⟨rfl, hyes, hany, hx3⟩
            have HX3 := Lib.hid ((HB.out.tr (HW.out.but _)).tr hx3); have HY := Lib.hid hyes; have HAny := Lib.hid hany; clear hx3 hyes hany
            cases hq : okX t S' x
            · have HQ3 := Lib.hid hq; clear hq
              go_wp2
              go_ret
              obtain ⟨S4, hs4⟩ := HAny.out
              exact .no (by rw [HG.out, HN.out, HD.out, okXs_cons, HQ3.out]; rfl) hs4 (HX2.out.tr HX3.out)
            · have HQ3 := Lib.hid hq; clear hq
              go_wp2
              go_roundw
              case rel => exact ⟨k + 1, S' ++ [x.name], by omega, by go_num, HY.out HQ3.out, HX3.out, by rw [HN.out, HD.out, okXs_cons, HQ3.out]; rfl, by rw [HA.out, HD.out, addXs_cons]⟩
              case measure => simp [intOf]; omega
          · go_wp2
            go_ret
            exact .yes_ (by rw [HG.out, HN.out, drop_end hlt]; rfl) (by rw [HAD.out, HA.out, drop_end hlt, addXs_nil]; exact HS3.out) (HX2.out.tr HB.out)
      · have HQ3 := Lib.hid (HB3.out h6)
        by_cases h5 : 1 ≤ l.length
        all_goals
          have h7 : ¬ l.length ≤ 6 ∨ ¬ 1 ≤ l.length := by omega
          go_wp2
          go_ret
          exact .no HQ3.out HS2.out HX2.out
    · have HQ2 := Lib.hid (HB2.out hq)
      rw [hq] at hs2
      have HS2 := Lib.hid hs2; clear hs2 hq
      go_wp2
      go_ret
      exact .no HQ2.out HS2.out HX2.out

theorem Ext.butNew {w w1 w2 : World} (h : Ext w w1) (k : ExtBut w.heap.size w1 w2) : Ext w w2 :=
  ⟨k.os.trans h.os, k.tape.trans h.tape, k.output.trans h.output, Nat.le_trans h.size k.size, fun i hi => (k.block i (Nat.lt_of_lt_of_le hi h.size) (by omega)).trans (h.block i hi)⟩
theorem okDs_cons (t : Int) (S : List ByteArray) (d : Decl) (l : List Decl) : okDs t S (d :: l) = (okD t S d && okDs t (addD S d) l) := rfl
theorem validB_bad {l : List Decl} (h : ¬ l.length ≤ 8) : validB l = false := by simp [validB, h]
theorem validB_good {l : List Decl} (h : l.length ≤ 8) : validB l = okDs l.length [] l := by simp [validB, h]

theorem valid_any (v : Value) (l : List Decl) (w : World) (h : RDecls w v l) :
    Calls Tryz.prog 85 #[v] w fun e w' => e = .returned (.bool (validB l)) ∧ Ext w w' := by
  have HB := Lib.hid (@validB_bad l)
  have HG := Lib.hid (@validB_good l)
  generalize hrr : validB l = rr at *
  clear hrr
  have HE := Lib.hid (Ext.al w (Obj.map #[] 0))
  have HR := Lib.hid (h.below HE.out)
  have HS := Lib.hid (SetAt.new w)
  obtain ⟨A, c, rfl, hc, hm⟩ := h.form
  clear h
  unfold maxLen at hm
  have hmm := @run_makeMap Tryz.prog
  go_enter Tryz.func85, Tryz.ntmps85
  by_cases h8 : l.length ≤ 8
  · have HG := Lib.hid (HG.out h8)
    go_wp2
    have HZ2 : Hid (∀ w2, ExtBut w.heap.size (w.alloc (Obj.map #[] 0)) w2 → Ext w w2) := fun w2 h => Ext.butNew HE.out h
    generalize w.alloc _ = w1 at *
    generalize hbb : w.heap.size = b0 at *
    clear hbb
    go_loopw [12] (fun i wr => ∃ (k : Nat) (S' : List ByteArray), k ≤ l.length ∧ i = .int .i64 k ∧ SetAt wr b0 S' ∧ ExtBut b0 w1 wr ∧ okDs l.length [] l = okDs l.length S' (l.drop k)) (fun i _ => l.length - (intOf i).toNat)
    case atStart => exact ⟨0, [], Nat.zero_le _, rfl, HS.out, ExtBut.rf _ _, rfl⟩
    case round =>
      obtain ⟨k, S', hk, rfl, hs3, hb, hno⟩ := hrel
      have HN := Lib.hid hno; have HB := Lib.hid hb; have HS3 := Lib.hid hs3; clear hno hb hs3
      by_cases hlt : k < l.length
      · have HRk := Lib.hid (HR.out.but HB.out HS.out)
        obtain ⟨b2, o, vx, rfl, hbl, h0, h1, h2, hx, hxn⟩ := HRk.out.at_ hlt
        have HD := Lib.hid (drop_step hlt)
        generalize l[k] = d at *
        obtain ⟨A2, c2, rfl, -⟩ := hx.form
        have HW := Lib.hid (Ext.al wr (Obj.cells #[Value.string d.name, Value.bool d.codata, Value.slice A2 d.xtors.length c2] 115))
        have HXa : Hid (RDecl _ _ d) := ⟨_, rfl, hx.below HW.out, hxn⟩
        clear hx
        go_wp2_with fail
        (with_reducible refine (validDecl_any _ _ _ _ _ _ (HS3.out.ext HW.out) HXa.out).mono ?_)
        rintro e w3 ⟨rfl, hyes, hany, hx3⟩
        have HX3 := Lib.hid ((HB.out.tr (HW.out.but _)).tr hx3); have HY := Lib.hid hyes; clear hx3 hyes hany
        cases hq : okD l.length S' d
        · have HQ3 := Lib.hid hq; clear hq
          go_wp2
          go_ret
          exact ⟨ret_bool (by rw [HG.out, HN.out, HD.out, okDs_cons, HQ3.out]; rfl), HZ2.out _ HX3.out⟩
        · have HQ3 := Lib.hid hq; clear hq
          go_wp2
          go_roundw
          case rel => exact ⟨k + 1, addD S' d, by omega, by go_num, HY.out HQ3.out, HX3.out, by rw [HN.out, HD.out, okDs_cons, HQ3.out]; rfl⟩
          case measure => simp [intOf]; omega
      · go_wp2
        go_ret
        exact ⟨ret_bool (by rw [HG.out, HN.out, drop_end hlt]; rfl), HZ2.out _ HB.out⟩
  · have HQ := Lib.hid (HB.out h8)
    go_wp2
    go_ret
    exact ⟨ret_bool HQ.out.symm, Ext.rf _⟩
end Go.Proofs.YtfohcdpfgbeclaaGreat

namespace Go.Proofs.YtfohcdpfgbeclaaGreat
open Go.RowKit

def srcP (l : List Decl) : Bool × Int := if validB l then (srcB l, 0) else (false, 10)
theorem Source_any (v : Value) (l : List Decl) (w : World) (h : RDecls w v l) :
    Calls Tryz.prog 55 #[v] w fun e w' => e = .returned (.tuple #[.bool (srcP l).1, .int .i64 (srcP l).2]) ∧ Ext w w' := by
  have HS : Hid (srcB l = l.all srcD) := rfl
  have HC : Hid (srcP l = if validB l then (srcB l, 0) else (false, 10)) := rfl
  generalize hrr : srcP l = rr at *
  clear hrr
  have HR := Lib.hid h
  obtain ⟨A, c, rfl, hc, hm⟩ := h.form
  clear h
  unfold maxLen at hm
  go_enter Tryz.func55, Tryz.ntmps55
  go_wp2_with fail
  (with_reducible refine (valid_any _ _ _ HR.out).mono ?_)
  rintro e w1 ⟨rfl, hb⟩
  have HB1 := Lib.hid hb; clear hb
  cases hq : validB l
  · have HQ := Lib.hid hq; clear hq
    go_wp2
    go_ret2
    exact ⟨by rw [HC.out, HQ.out]; rfl, HB1.out⟩
  · have HQ := Lib.hid hq; clear hq
    go_wp2
    have HR1 := Lib.hid (HR.out.below HB1.out)
    go_loopw [11] (fun i wr => ∃ k : Nat, k ≤ l.length ∧ i = .int .i64 k ∧ Ext w1 wr ∧ l.all srcD = (l.drop k).all srcD) (fun i _ => l.length - (intOf i).toNat)
    case atStart => exact ⟨0, Nat.zero_le _, rfl, Ext.rf _, by simp⟩
    case round =>
      obtain ⟨k, hk, rfl, hb, hno⟩ := hrel
      have HN := Lib.hid hno; have HB := Lib.hid hb; clear hno hb
      by_cases hlt : k < l.length
      · have HRk := Lib.hid (HR1.out.below HB.out)
        obtain ⟨b, o, vx, rfl, hbl, h0, h1, h2, h3, h4⟩ := HRk.out.at_ hlt
        have HD := Lib.hid (drop_step hlt)
        generalize l[k] = d at *
        obtain ⟨A2, c2, rfl, -⟩ := h3.form
        have HW := Lib.hid (Ext.al wr (Obj.cells #[Value.string d.name, Value.bool d.codata, Value.slice A2 d.xtors.length c2] 115))
        have HX : Hid (RDecl _ _ d) := ⟨_, rfl, h3.below HW.out, h4⟩
        clear h3
        go_wp2_with fail
        (with_reducible refine (isSource_any _ _ _ HX.out).mono ?_)
        rintro e w3 ⟨rfl, hb3⟩
        have HW3 := Lib.hid ((HB.out.tr HW.out).tr hb3); clear hb3
        cases hq : srcD d
        · have HQ3 := Lib.hid hq; clear hq
          go_wp2
          go_ret2
          exact ⟨by rw [HC.out, HQ.out, HS.out, HN.out, HD.out, List.all_cons, HQ3.out]; rfl, HB1.out.tr HW3.out⟩
        · have HQ3 := Lib.hid hq; clear hq
          go_wp2
          go_roundw
          case rel => exact ⟨k + 1, by omega, by go_num, HW3.out, by rw [HN.out, HD.out, List.all_cons, HQ3.out]; rfl⟩
          case measure => simp [intOf]; omega
      · go_wp2
        go_ret2
        exact ⟨by rw [HC.out, HQ.out, HS.out, HN.out, drop_end hlt]; rfl, HB1.out.tr HB.out⟩

end Go.Proofs.YtfohcdpfgbeclaaGreat

/- valid.go, term.go: a program; Check. -/
namespace Go.Proofs.YtfohcdpfgbeclaaGreat
open Go.RowKit

theorem srcP_fst (l : List Decl) : (srcP l).1 = (validB l && srcB l) := by
  unfold srcP; cases validB l <;> rfl

theorem FinePg.each {P : Pg} (h : FinePg P) : ∀ f ∈ P.funs, FineT f.body := h
theorem headD_at {l : List Fn} (h : 0 < l.length) : l.headD noFn = l[0] := by
  cases l with
  | nil => simp at h
  | cons a b => rfl
set_option maxHeartbeats 4000000 in
set_option maxRecDepth 100000 in
theorem validProg_any (P : Pg) (vd vf : Value) (w : World) (hd : RDecls w vd P.decls) (hf : RFns w vf P.funs) (hfine : FinePg P) :
    Calls Tryz.prog 32 #[pV vd vf] w fun e w' => e = .returned (.bool (progB P)) ∧ Ext w w' := by
  have HD := Lib.hid hd; have HF := Lib.hid hf; have HFI := Lib.hid hfine
  have HPB : Hid (progB P = ((validB P.decls && srcB P.decls) && (decide (1 ≤ P.funs.length) && decide (P.funs.length ≤ 12) && distB (P.funs.map Fn.nm)) && (mainB (P.funs.headD noFn) && sizesB 0 P.funs) && P.funs.all (funB P))) := rfl
  generalize progB P = rr at *
  obtain ⟨Ad, cd, rfl, -, -⟩ := hd.form
  obtain ⟨Af, cf, rfl, hcf, hmf⟩ := hf.form
  clear hd hf hfine
  unfold maxLen at hmf
  have HE := Lib.hid (Ext.al w (.cells #[.slice Ad P.decls.length cd, .slice Af P.funs.length cf] 25))
  have HB0 := Lib.hid (heapNew w (.cells #[.slice Ad P.decls.length cd, .slice Af P.funs.length cf] 25))
  go_enter Tryz.func32, Tryz.ntmps32
  go_wp2_with fail
  generalize w.alloc _ = w1 at *
  (with_reducible refine (Source_any _ P.decls _ (HD.out.below HE.out)).mono ?_)
  rintro e w2 ⟨rfl, hb⟩
  have HE2 := Lib.hid (HE.out.tr hb)
  have HB2 := Lib.hid ((hb.block _ (heap_lt HB0.out)).trans HB0.out)
  clear hb
  have HS := Lib.hid (srcP_fst P.decls)
  generalize (srcP P.decls).1 = q1 at *
  generalize (srcP P.decls).2 = q2 at *
  have c0 := cellAt HB2.out 0
  have c1 := cellAt HB2.out 1
  cases q1
  · go_wp2
    go_ret
    exact ⟨ret_bool (by rw [HPB.out, ← HS.out]; rfl), HE2.out⟩
  · by_cases h1 : 1 ≤ P.funs.length
    · by_cases h12 : P.funs.length ≤ 12
      · have H1 := Lib.hid h1; have H12 := Lib.hid h12
        have HN1 : Hid ((P.funs.length : Int) < 1 → False) := fun h => by omega
        have HN2 : Hid ((12 : Int) < P.funs.length → False) := fun h => by omega
        go_wp2_with fail
        (with_reducible refine (funNames_any _ P.funs _ (HF.out.below HE2.out) (by omega)).mono ?_)
        rintro e w3 ⟨rfl, hs, hb3⟩
        have HE3 := Lib.hid (HE2.out.tr hb3)
        have HB3 := Lib.hid ((hb3.block _ (heap_lt HB2.out)).trans HB2.out)
        have HSR : Hid (RStrs w3 (.slice (some ⟨w2.heap.size, 0, none⟩) P.funs.length P.funs.length) (P.funs.map Fn.nm)) := by
          have q := SBlk.reads hs (by unfold maxLen; simp; omega) (RFns.names_le HF.out)
          rw [List.length_map] at q
          exact q
        clear hs hb3 c0 c1
        go_wp2_with fail
        (with_reducible refine (distinct_any _ (P.funs.map Fn.nm) _ HSR.out).mono ?_)
        rintro e w4 ⟨rfl, hb4⟩
        have HE4 := Lib.hid (HE3.out.tr hb4)
        have HB4 := Lib.hid ((hb4.block _ (heap_lt HB3.out)).trans HB3.out)
        clear hb4
        have c0 := cellAt HB4.out 0
        have c1 := cellAt HB4.out 1
        cases qd : distB (P.funs.map Fn.nm)
        · have HQ := Lib.hid qd
          clear qd
          go_wp2
          go_ret
          exact ⟨ret_bool (by rw [HPB.out, HQ.out]; simp), HE4.out⟩
        · have HQD := Lib.hid qd
          clear qd
          have hlt0 : 0 < P.funs.length := h1
          have HH := Lib.hid (headD_at hlt0)
          have HAT := Lib.hid (HF.out.below HE4.out)
          obtain ⟨b, o, vp, xa, xc, kf, rfl, hbl, y0, y1, y2, yc, y3, y4, y5⟩ := HAT.out.at_ hlt0
          have HP := Lib.hid y4
          have c30 := yc.c0
          have c31 := yc.c1
          have c32 := yc.c2
          have c33 := yc.c3
          have c34 := yc.c4
          have c35 := yc.c5
          have h0i : (0 : Int) < P.funs.length := by omega
          have HBL := Lib.hid hbl
          generalize P.funs[0] = f0 at *
          simp only [Nat.zero_mul, Nat.add_zero] at *
          go_wp2_with fail
          (with_reducible refine (isMain_any f0 vp xa xc _ HP.out).mono ?_)
          rintro e w5 ⟨rfl, hb5⟩
          have HE5 := Lib.hid (HE4.out.tr hb5)
          have HB5 := Lib.hid ((hb5.block _ (heap_lt HB4.out)).trans HB4.out)
          clear hb5 c0 c1 y0 y1 y2 yc y3 y4 y5 c30 c31 c32 c33 c34 c35
          have c0 := cellAt HB5.out 0
          have c1 := cellAt HB5.out 1
          cases qm : mainB f0
          · have HQ := Lib.hid qm
            clear qm
            go_wp2
            go_ret
            exact ⟨ret_bool (by rw [HPB.out, HH.out, HQ.out]; simp), HE5.out⟩
          · have HQM := Lib.hid qm
            clear qm
            go_wp2_with fail
            (with_reducible refine (validSize_any _ P.funs _ (HF.out.below HE5.out) (by omega) HFI.out.each).mono ?_)
            rintro e w6 ⟨rfl, hb6⟩
            have HE6 := Lib.hid (HE5.out.tr hb6)
            have HB6 := Lib.hid ((hb6.block _ (heap_lt HB5.out)).trans HB5.out)
            clear hb6 c0 c1
            have c0 := cellAt HB6.out 0
            have c1 := cellAt HB6.out 1
            cases qs : sizesB 0 P.funs
            · have HQ := Lib.hid qs
              clear qs
              go_wp2
              go_ret
              exact ⟨ret_bool (by rw [HPB.out, HQ.out]; simp), HE6.out⟩
            · have HQS := Lib.hid qs
              clear qs
              go_wp2
              have HALL : Hid (rr = P.funs.all (funB P)) := by
                show _ = _
                rw [HPB.out, ← HS.out, decide_eq_true H1.out, decide_eq_true H12.out, HQD.out, HH.out, HQM.out, HQS.out]; rfl
              clear h0i HN1 HN2 hbl
              go_loopw [47] (fun i wr => ∃ k : Nat, k ≤ P.funs.length ∧ i = .int .i64 k ∧ Ext w6 wr ∧ P.funs.all (funB P) = (P.funs.drop k).all (funB P)) (fun i _ => P.funs.length - (intOf i).toNat)
              case atStart => exact ⟨0, Nat.zero_le _, rfl, Ext.rf _, by simp⟩
              case round =>
                obtain ⟨k, hk, rfl, hb, hno⟩ := hrel
                have HB := Lib.hid hb; have HN := Lib.hid hno
                have b0 := (hb.block _ (heap_lt HB6.out)).trans HB6.out
                clear hb hno c0 c1
                by_cases hlt : k < P.funs.length
                · have HAT2 := Lib.hid (HF.out.below (HE6.out.tr HB.out))
                  obtain ⟨b', o', vp, xa, xc, kf, he, hbl, y0, y1, y2, yc, y3, y4, y5⟩ := HAT2.out.at_ hlt
                  cases he
                  obtain ⟨Ap, cp, rfl, -, -⟩ := y4.form
                  have HP := Lib.hid y4; have HT := Lib.hid y5
                  obtain ⟨_, ⟨Aa, ca, rfl, -, -⟩, ⟨Bb, cb, rfl, -, -⟩⟩ := y5.form
                  have HFF := Lib.hid (HFI.out _ (List.getElem_mem hlt))
                  have c30 := yc.c0
                  have c31 := yc.c1
                  have c32 := yc.c2
                  have c33 := yc.c3
                  have c34 := yc.c4
                  have c35 := yc.c5
                  have HDk := Lib.hid (drop_step hlt)
                  generalize P.funs[k] = f at *
                  have hE7 := Ext.al wr (.cells #[.string f.nm, .slice Ap f.ps.length cp, .int .i64 f.res, .int .i64 f.body.op, .int .i64 f.body.n, .string f.body.nm, .int .i64 f.body.ty, .slice Aa f.body.args.length ca, .slice Bb f.body.cls.length cb] 62)
                  have d0 := hE7.keep (cellAt b0 0)
                  have d1 := hE7.keep (cellAt b0 1)
                  have HE7 := Lib.hid hE7
                  clear hE7 b0 y4 y5 yc y3
                  go_wp2_with fail
                  (with_reducible refine (validFun_any P _ _ f _ _ _ kf _ (HD.out.below ((HE6.out.tr HB.out).tr HE7.out)) (HF.out.below ((HE6.out.tr HB.out).tr HE7.out)) (HP.out.below HE7.out) (HT.out.below HE7.out) HFF.out).mono ?_)
                  generalize wr.alloc _ = w7 at *
                  rintro e w8 ⟨rfl, hb8⟩
                  have HE8 := Lib.hid ((HB.out.tr HE7.out).tr hb8)
                  clear hb8
                  cases qf : funB P f
                  · have HQ2 := Lib.hid qf
                    clear qf
                    go_wp2
                    go_ret
                    exact ⟨ret_bool (by rw [HALL.out, HN.out, HDk.out, List.all_cons, HQ2.out]; rfl), HE6.out.tr HE8.out⟩
                  · have HQ2 := Lib.hid qf
                    clear qf
                    go_wp2
                    go_roundw
                    case rel => exact ⟨k + 1, by omega, by go_num, HE8.out, by rw [HN.out, HDk.out, List.all_cons, HQ2.out]; rfl⟩
                    case measure => simp [intOf]; omega
                · have HK := Lib.hid (drop_end hlt)
                  go_wp2
                  go_ret
                  exact ⟨ret_bool (by rw [HALL.out, HN.out, HK.out]; rfl), HE6.out.tr HB.out⟩
      · have hq : decide (P.funs.length ≤ 12) = false := decide_eq_false h12
        have HQ := Lib.hid hq
        clear hq
        go_wp2
        go_ret
        exact ⟨ret_bool (by rw [HPB.out, HQ.out]; simp), HE2.out⟩
    · have hq : decide (1 ≤ P.funs.length) = false := decide_eq_false h1
      have HQ := Lib.hid hq
      clear hq
      go_wp2
      go_ret
      exact ⟨ret_bool (by rw [HPB.out, HQ.out]; simp), HE2.out⟩

set_option maxHeartbeats 1000000 in
set_option maxRecDepth 100000 in
theorem Check_any (P : Pg) (vd vf : Value) (w : World) (hd : RDecls w vd P.decls) (hf : RFns w vf P.funs) (hfine : FinePg P) :
    Calls Tryz.prog 10 #[pV vd vf] w fun e w' => e = .returned (.int .i64 (chkP P)) ∧ Ext w w' := by
  have HD := Lib.hid hd; have HF := Lib.hid hf; have HFI := Lib.hid hfine
  have HC : Hid (chkP P = if progB P then 0 else 20) := rfl
  generalize chkP P = rr at *
  clear hd hf hfine
  have HE := Lib.hid (Ext.al w (.cells #[vd, vf] 25))
  have HB0 := Lib.hid (heapNew w (.cells #[vd, vf] 25))
  have c0 := cellAt HB0.out 0
  have c1 := cellAt HB0.out 1
  go_enter Tryz.func10, Tryz.ntmps10
  go_wp2_with fail
  generalize w.alloc _ = w1 at *
  (with_reducible refine (validProg_any P vd vf _ (HD.out.below HE.out) (HF.out.below HE.out) HFI.out).mono ?_)
  rintro e w2 ⟨rfl, hb⟩
  have HB2 := Lib.hid (HE.out.tr hb)
  clear hb c0 c1
  cases q : progB P
  · have HQ := Lib.hid q
    clear q
    go_wp2
    go_ret
    exact ⟨ret_int (by rw [HC.out, HQ.out]; rfl), HB2.out⟩
  · have HQ := Lib.hid q
    clear q
    go_wp2
    go_ret
    exact ⟨ret_int (by rw [HC.out, HQ.out]; rfl), HB2.out⟩
end Go.Proofs.YtfohcdpfgbeclaaGreat
