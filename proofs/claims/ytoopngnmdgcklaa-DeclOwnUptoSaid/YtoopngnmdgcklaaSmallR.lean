import Derived.Test.YtoopngnmdgcklaaPure4
import Derived.Test.YtoopngnmdgcklaaSrc
import Derived.Laws.MakeOwn
import Derived.Test.YtoopngnmdgcklaaText
namespace Go.Proofs.Ytoopngnmdgcklaa
open Go.RowKit

theorem built_any (va v : Value) (x : Xtor) (S : List Bool) (w : World) (h : RArgs w va x.args) (hS : RBools w v S) (ht : ∀ a ∈ x.args, 0 ≤ a.ty ∧ a.ty ≤ S.length) :
    Calls Try.prog 35 #[.agg #[.string x.name, va], v] w fun e w' => e = .returned (.bool (builtB S x.args)) ∧ Ext w w' := by
  have HBD : Hid (builtB S x.args = x.args.all (okA S)) := rfl
  generalize builtB S x.args = rr at *
  have HT := Lib.hid ht; clear ht
  have HA := Lib.hid h
  have HSS := Lib.hid hS
  obtain ⟨A, c, rfl, hc, hm⟩ := h.form
  obtain ⟨A', c', rfl, hc', hm'⟩ := hS.form
  clear h hS
  unfold maxLen at hm hm'
  generalize x.args = l at *
  have HE1 := Lib.hid (Ext.al w (Obj.cells #[Value.string x.name, Value.slice A l.length c] 45))
  go_enter Try.func35, Try.ntmps35
  go_wp2
  generalize w.alloc _ = w1 at *
  go_loopw [10] (fun i wr => ∃ k : Nat, k ≤ l.length ∧ i = .int .i64 k ∧ Ext w wr ∧ l.all (okA S) = (l.drop k).all (okA S)) (fun i _ => l.length - (intOf i).toNat)
  case atStart => exact ⟨0, Nat.zero_le _, rfl, HE1.out, rfl⟩
  case round =>
    obtain ⟨k, hk, rfl, hb, hno⟩ := hrel
    have HN := Lib.hid hno; have HB := Lib.hid hb; clear hno hb
    by_cases hlt : k < l.length
    · obtain ⟨b, o, rfl, hbl, h0, h1⟩ := HA.out.at_ hlt
      have h0 := HB.out.keep h0
      have h1 := HB.out.keep h1
      have HD := Lib.hid (drop_step hlt)
      have hty := HT.out _ (List.getElem_mem hlt)
      generalize l[k] = a at *
      obtain ⟨hty0, hty1⟩ := hty
      have HW := Lib.hid (HB.out.tr (Ext.al wr (Obj.cells #[Value.int IntKind.i64 a.ty, Value.bool a.co] 50)))
      cases hco : a.co
      · rw [hco] at h1 HW
        have HCO := Lib.hid hco; clear hco
        by_cases hz : 0 < a.ty
        · obtain ⟨aty, aco⟩ := a
          dsimp only at *
          obtain ⟨u, rfl⟩ : ∃ u : Nat, aty = u + 1 := ⟨(aty - 1).toNat, by omega⟩
          have hidx : u < S.length := by omega
          obtain ⟨b2, o2, rfl, hbl2, g0⟩ := HSS.out.at_ hidx
          have HQ := Lib.hid (okA_ty hidx)
          have hcc := HCO.out
          subst hcc
          have g0 := HW.out.keep g0
          generalize S[u] = sb at *
          cases sb
          · go_wp2
            go_ret
            exact ⟨ret_bool (by rw [HBD.out, HN.out, HD.out, List.all_cons, HQ.out]; rfl), HW.out⟩
          · go_wp2
            go_roundw
            case rel => exact ⟨k + 1, by omega, by go_num, HW.out, by rw [HN.out, HD.out, List.all_cons, HQ.out]; rfl⟩
            case measure => simp [intOf]; omega
        · have HQ := Lib.hid (okA_int (S := S) HCO.out (by omega))
          go_wp2
          go_roundw
          case rel => exact ⟨k + 1, by omega, by go_num, HW.out, by rw [HN.out, HD.out, List.all_cons, HQ.out]; rfl⟩
          case measure => simp [intOf]; omega
      · rw [hco] at h1 HW
        have HQ := Lib.hid (okA_co (S := S) hco)
        clear hco
        go_wp2
        go_ret
        exact ⟨ret_bool (by rw [HBD.out, HN.out, HD.out, List.all_cons, HQ.out]; rfl), HW.out⟩
    · go_wp2
      go_ret
      exact ⟨ret_bool (by rw [HBD.out, HN.out, drop_end hlt]; rfl), HB.out⟩

/-- A block of the call's own that holds bools. -/
def BBlk (w : World) (g : Nat) (S : List Bool) : Prop := w.heap[g]? = some (.cells ((S.map Value.bool).toArray) 4 (0, 0))
section
variable {w w' : World} {g : Nat} {S : List Bool}
theorem BBlk.lt (h : BBlk w g S) : g < w.heap.size := (Array.getElem?_eq_some_iff.1 h).1
theorem BBlk.ext (h : BBlk w g S) (hb : Ext w w') : BBlk w' g S := (hb.block g h.lt).trans h
theorem BBlk.cell (h : BBlk w g S) {i : Nat} (hi : i < S.length) : w.cell? ⟨g, i, none⟩ = some (.bool S[i]) := by
  unfold BBlk at h
  simp [World.cell?, h, hi]
theorem BBlk.frozen (h : BBlk w g S) (i : Nat) : w.frozen? ⟨g, i, none⟩ = false := by
  unfold BBlk at h
  simp [World.frozen?, h]
theorem BBlk.set (h : BBlk w g S) (i : Nat) (b : Bool) : BBlk (w.setCell ⟨g, i, none⟩ (.bool b)) g (S.set i b) := by
  unfold BBlk at h ⊢
  simp [World.setCell, Array.getElem?_modify, h]
theorem BBlk.reads (h : BBlk w g S) (hl : S.length ≤ maxLen) : RBools w (.slice (some ⟨g, 0, none⟩) S.length S.length) S :=
  ⟨_, _, rfl, Nat.le_refl _, hl, fun i a hi => by
    obtain ⟨hlt, rfl⟩ := List.getElem?_eq_some_iff.1 hi
    exact ⟨g, 0, rfl, h.lt, by rw [Nat.zero_add]; exact h.cell hlt⟩⟩
theorem BBlk.new (w : World) (S : List Bool) : BBlk (w.alloc (.cells ((S.map Value.bool).toArray) 4)) w.heap.size S := (MapKept.heap_alloc w _).1
end
theorem Below.setNew {B : Nat} {w w' : World} (h : Below B w w') {g i : Nat} (hg : B ≤ g) (v : Value) : Below B w (w'.setCell ⟨g, i, none⟩ v) := h.setCell (p := ⟨g, i, none⟩) hg v
theorem heap_set_other (w : World) {g i k : Nat} (v : Value) (h : k ≠ g) : (w.setCell ⟨g, i, none⟩ v).heap[k]? = w.heap[k]? := Below.heap_setCell w ⟨g, i, none⟩ v k h
theorem size_set (w : World) (g i : Nat) (v : Value) : (w.setCell ⟨g, i, none⟩ v).heap.size = w.heap.size := by simp [World.setCell]

theorem Try.info4 : (Try.prog.info? 4).map (fun i => (i.zero, i.size, i.bytes)) = some (some (.bool false), 1, 1) := by kernel_rfl
theorem made_false (n : Nat) : madeCells #[Value.bool false] n = (((List.replicate n false).map Value.bool).toArray) := by
  apply Array.ext
  · simp [size_madeCells]
  · intro i h1 h2
    have hz : (#[Value.bool false] : Array Value)[0]! = Value.bool false := rfl
    simp [madeCells, Nat.mod_one]
theorem make_bools (w : World) (n : Nat) (h : n ≤ 281474976710656) : (Instr.makeSlice 29 (.int .i64 n) (.int .i64 n)).run Try.prog w = .ok (.slice (some ⟨w.heap.size, 0, none⟩) n n) (w.alloc (.cells (((List.replicate n false).map Value.bool).toArray) 4)) := by
  obtain ⟨i0, hi, hz0, hz1, hz2⟩ := info_parts Try.info4
  have := run_make w 29 4 i0 (.bool false) Try.underlying29 hi hz0 .i64 .i64 n n (by omega) (by omega) (by rw [hz2]; omega) (by omega)
  rw [this, hz1]
  simp only [Int.toNat_natCast, Nat.mul_one]
  rw [show (Value.bool false).cells = #[Value.bool false] from rfl, made_false]

set_option maxHeartbeats 2000000 in
set_option maxRecDepth 100000 in
theorem RSmall_any (v : Value) (l : List Decl) (w : World) (h : RDecls w v l) (hF : Fine l) :
    Calls Try.prog 17 #[v] w fun e w' => (e = .returned (.slice (some ⟨w.heap.size, 0, none⟩) l.length l.length) ∧ BBlk w' w.heap.size (smallR l)) ∧ Ext w w' := by
  have HSM : Hid (smallR l = fR l l.length (List.replicate l.length false)) := rfl
  generalize smallR l = rr at *
  have HR := Lib.hid h
  have HF := Lib.hid hF
  have h8 := hF.few
  clear hF
  obtain ⟨A, c, rfl, hc, hm⟩ := h.form
  clear h
  unfold maxLen at hm
  have hmk := make_bools w l.length (by omega)
  have HN : Hid (BBlk _ _ (List.replicate l.length false)) := BBlk.new w _
  have HE1 := Lib.hid (Ext.al w (.cells (((List.replicate l.length false).map Value.bool).toArray) 4))
  have HZ : Hid ((List.replicate l.length false).length = l.length) := by show _ = _; simp
  generalize List.replicate l.length false = S0 at *
  go_enter Try.func17, Try.ntmps17
  go_wp2
  clear hmk
  generalize w.alloc _ = w1 at *
  go_loopw [13] (fun i wr => ∃ (k : Nat) (S : List Bool), k ≤ l.length ∧ i = .int .i64 k ∧ BBlk wr w.heap.size S ∧ S.length = l.length ∧ Ext w wr ∧ fR l l.length S0 = fR l (l.length - k) S) (fun i _ => l.length - (intOf i).toNat)
  case atStart => exact ⟨0, S0, Nat.zero_le _, rfl, HN.out, HZ.out, HE1.out, rfl⟩
  case round =>
    obtain ⟨k, S, hk, rfl, hB, hSl, hE, hno⟩ := hrel
    obtain ⟨wa, rfl⟩ : ∃ wa : World, wa = wr := ⟨_, rfl⟩
    have HNa := Lib.hid hno; have HBa := Lib.hid hB; have HEa := Lib.hid hE; have HSa := Lib.hid hSl; clear hno hB hE hSl
    by_cases hlt : k < l.length
    · go_wp2
      go_loopw [17] (fun i wr => ∃ (j : Nat) (S1 : List Bool), j ≤ l.length ∧ i = .int .i64 j ∧ BBlk wr w.heap.size S1 ∧ S1.length = l.length ∧ Ext w wr ∧ fD 0 S l = fD j S1 (l.drop j)) (fun i _ => l.length - (intOf i).toNat)
      case atStart => exact ⟨0, S, Nat.zero_le _, rfl, HBa.out, HSa.out, HEa.out, rfl⟩
      case round =>
        obtain ⟨j, S1, hj, rfl, hB, hSl, hE, hno⟩ := hrel
        obtain ⟨wb, rfl⟩ : ∃ wb : World, wb = wr := ⟨_, rfl⟩
        have HNb := Lib.hid hno; have HBb := Lib.hid hB; have HEb := Lib.hid hE; have HSb := Lib.hid hSl; clear hno hB hE hSl
        by_cases hlt2 : j < l.length
        · obtain ⟨b2, o2, vx, rfl, hbl2, g0, g1, g2, g3, g4⟩ := HR.out.at_ hlt2
          have g0 := HEb.out.keep g0
          have g1 := HEb.out.keep g1
          have g2 := HEb.out.keep g2
          have HD := Lib.hid (drop_step hlt2)
          have HXT := Lib.hid (HF.out.tys _ (List.getElem_mem hlt2))
          generalize l[j] = d at *
          obtain ⟨dn, co, xs⟩ := d
          dsimp only at *
          obtain ⟨A2, c2, rfl, hc2, hm2⟩ := g3.form
          unfold maxLen at hm2
          have HX := Lib.hid g3; clear g3
          have hH := heapNew wb (Obj.cells #[Value.string dn, Value.bool co, Value.slice A2 xs.length c2] 48)
          have hgl := HBb.out.lt
          have hne : wb.heap.size ≠ w.heap.size := by omega
          have HE2 := Lib.hid (Ext.al wb (Obj.cells #[Value.string dn, Value.bool co, Value.slice A2 xs.length c2] 48))
          have HB2 := Lib.hid (HBb.out.ext HE2.out)
          go_wp2
          generalize wb.alloc _ = w2 at *
          have HH := Lib.hid hH; clear hH
          go_loopw [25] (fun i wr => ∃ (r : Nat) (S2 : List Bool), r ≤ xs.length ∧ i = .int .i64 r ∧ BBlk wr w.heap.size S2 ∧ S2.length = l.length ∧ Ext w wr ∧ wr.heap[wb.heap.size]? = some (Obj.cells #[Value.string dn, Value.bool co, Value.slice A2 xs.length c2] 48 (0, 0)) ∧ fX co j S1 xs = fX co j S2 (xs.drop r)) (fun i _ => xs.length - (intOf i).toNat)
          case atStart => exact ⟨0, S1, Nat.zero_le _, rfl, HB2.out, HSb.out, HEb.out.tr HE2.out, HH.out, rfl⟩
          case round =>
            obtain ⟨r, S2, hr, rfl, hB, hSl, hE, hH, hno⟩ := hrel
            have HNc := Lib.hid hno; have HBc := Lib.hid hB; have HEc := Lib.hid hE; have HSc := Lib.hid hSl; clear hno hB hE hSl
            by_cases hlt3 : r < xs.length
            · obtain ⟨b3, o3, va, rfl, hbl3, q0, q1, q2, q3⟩ := HX.out.at_ hlt3
              have q0 := HEc.out.keep q0
              have q1 := HEc.out.keep q1
              have HD3 := Lib.hid (drop_step hlt3)
              have HXTr := Lib.hid (HXT.out _ (List.getElem_mem hlt3))
              generalize xs[r] = x at *
              obtain ⟨A3, c3, rfl, hc3, hm3⟩ := q2.form
              have HXQ := Lib.hid q2; clear q2
              have hE4 := Ext.al wr (Obj.cells #[Value.string x.name, Value.slice A3 x.args.length c3] 45)
              have HE4 := Lib.hid (HEc.out.tr hE4)
              have HB4 := Lib.hid (HBc.out.ext hE4)
              have hH4 := (hE4.block _ (Array.getElem?_eq_some_iff.1 hH).1).trans hH
              have c1 : (wr.alloc (Obj.cells #[Value.string x.name, Value.slice A3 x.args.length c3] 45)).cell? ⟨wb.heap.size, 1, none⟩ = some (.bool co) := cellAt hH4 1
              have HH4 := Lib.hid hH4
              have HQA := Lib.hid (HXQ.out.below HE4.out)
              clear hE4 hH4 hH
              have hS2l : S2.length ≤ maxLen := by have := HSc.out; unfold maxLen; omega
              have hSR := HB4.out.reads hS2l
              rw [HSc.out] at hSR
              have HSR := Lib.hid hSR; clear hSR
              have HTT : Hid (∀ a ∈ x.args, 0 ≤ a.ty ∧ a.ty ≤ S2.length) := fun a ha => by rw [HSc.out]; exact HXTr.out a ha
              clear hS2l
              cases co
              · go_wp2_with fail
                generalize wr.alloc _ = w4 at *
                (with_reducible refine (built_any _ _ _ _ _ HQA.out HSR.out HTT.out).mono ?_)
                rintro e w5 ⟨rfl, hb5⟩
                have HE5 := Lib.hid (HE4.out.tr hb5)
                have HB5 := Lib.hid (HB4.out.ext hb5)
                have HH5 := Lib.hid ((hb5.block _ (Array.getElem?_eq_some_iff.1 HH4.out).1).trans HH4.out)
                clear hb5
                cases hq : builtB S2 x.args
                · have HQ := Lib.hid hq; clear hq
                  go_wp2
                  go_roundw
                  case rel => exact ⟨r + 1, S2, by omega, by go_num, HB5.out, HSc.out, HE5.out, HH5.out, by rw [HNc.out, HD3.out, fX_cons, HQ.out]; rfl⟩
                  case measure => simp [intOf]; omega
                · have HQ := Lib.hid hq; clear hq
                  have hjS : j < S2.length := by have := HSc.out; omega
                  have e0 := HB5.out.cell hjS
                  have e1 := HB5.out.frozen j
                  go_wp2
                  go_roundw
                  case rel =>
                    refine ⟨r + 1, S2.set j true, by omega, by go_num, HB5.out.set j true, by rw [List.length_set]; exact HSc.out, Below.setNew HE5.out (Nat.le_refl _) _, ?_, by rw [HNc.out, HD3.out, fX_cons, HQ.out]; rfl⟩
                    rw [heap_set_other _ _ hne]; exact HH5.out
                  case measure => simp [intOf]; omega
              · go_wp2
                go_roundw
                case rel => exact ⟨r + 1, S2, by omega, by go_num, HB4.out, HSc.out, HE4.out, HH4.out, by rw [HNc.out, HD3.out, fX_cons]; rfl⟩
                case measure => simp [intOf]; omega
            · go_wp2
              go_roundw
              case rel => exact ⟨j + 1, S2, by omega, by go_num, HBc.out, HSc.out, HEc.out, by rw [HNb.out, HD.out, fD_cons, HNc.out, drop_end hlt3]; rfl⟩
              case measure => simp [intOf]; omega
        · go_wp2
          go_roundw
          case rel =>
            have e1 : l.length - k = (l.length - (k + 1)) + 1 := by omega
            have e2 : fD 0 S l = S1 := by rw [HNb.out, drop_end hlt2]; rfl
            exact ⟨k + 1, S1, by omega, by go_num, HBb.out, HSb.out, HEb.out, by rw [HNa.out, e1, fR_succ, e2]⟩
          case measure => simp [intOf]; omega
    · go_wp2
      go_ret
      have e1 : l.length - k = 0 := by omega
      have e2 : rr = S := by rw [HSM.out, HNa.out, e1]; rfl
      exact ⟨⟨rfl, by rw [e2]; exact HBa.out⟩, HEa.out⟩
end Go.Proofs.Ytoopngnmdgcklaa
