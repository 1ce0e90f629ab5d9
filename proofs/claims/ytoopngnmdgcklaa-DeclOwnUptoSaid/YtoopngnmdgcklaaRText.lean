import Derived.Test.YtoopngnmdgcklaaText
namespace Go.Proofs.Ytoopngnmdgcklaa
open Go.RowKit

theorem sepS_pos {i : Nat} (h : 0 < i) : sepS i = [44, 32] := by simp [sepS, h]
theorem sepS_zero {i : Nat} (h : ¬ 0 < i) : sepS i = [] := by simp [sepS, h]

set_option maxHeartbeats 4000000 in
set_option maxRecDepth 100000 in
theorem RString_any (v : Value) (l : List Decl) (w : World) (hR : RDecls w v l) (hF : Fine l) :
    Calls Try.prog 15 #[v] w fun e w' => e = .returned (.string ⟨(declsS l l).toArray⟩) ∧ Ext w w' := by
  have HR := Lib.hid hR
  obtain ⟨A, c, rfl, hc, hm⟩ := hR.form
  unfold maxLen at hm
  clear hR
  have HF := Lib.hid hF
  have h8 := hF.few
  clear hF
  go_enter Try.func15, Try.ntmps15
  go_wp2
  go_loopw [3, 12] (fun s i wr => ∃ (k : Nat) (acc : ByteArray), k ≤ l.length ∧ i = .int .i64 k ∧ s = .string acc ∧ Ext w wr ∧ acc.data.toList ++ declsS l (l.drop k) = declsS l l ∧ acc.size ≤ 600 * k) (fun _ i _ => l.length - (intOf i).toNat)
  case atStart => exact ⟨0, ⟨#[]⟩, Nat.zero_le _, rfl, rfl, Ext.rf _, by simp, Nat.le_refl 0⟩
  case round =>
    obtain ⟨k, acc, hk, rfl, rfl, hb, hacc, hl⟩ := hrel
    obtain ⟨wo, rfl⟩ : ∃ wo : World, wo = wr := ⟨_, rfl⟩
    have HACC := Lib.hid hacc; have HB := Lib.hid hb
    clear hacc hb
    by_cases hlt : k < l.length
    · obtain ⟨b2, o, vx, rfl, hbl2, g0, g1, g2, g3, g4⟩ := HR.out.at_ hlt
      have g0 := HB.out.keep g0
      have g1 := HB.out.keep g1
      have g2 := HB.out.keep g2
      have HD := Lib.hid (drop_step hlt)
      have HDL := Lib.hid (declS_len HF.out (List.getElem_mem hlt))
      have HX6 := HF.out.xtors _ (List.getElem_mem hlt)
      have hn10 := HF.out.name _ (List.getElem_mem hlt)
      have HXN := Lib.hid (HF.out.xname _ (List.getElem_mem hlt))
      have HXA := Lib.hid (HF.out.args _ (List.getElem_mem hlt))
      have HXT := Lib.hid (HF.out.tys _ (List.getElem_mem hlt))
      have HDS : Hid (declS l l[k] = (kwB (l[k]).codata).data.toList ++ (l[k]).name.data.toList ++ [32, 123, 32] ++ xtorsS l 0 (l[k]).xtors ++ [32, 125, 10]) := rfl
      generalize l[k] = d at *
      obtain ⟨dn, co, xs⟩ := d
      dsimp only at *
      obtain ⟨A2, c2, rfl, hc2, hm2⟩ := g3.form
      unfold maxLen at hm2
      have HX := Lib.hid g3; clear g3
      have hH := heapNew wo (Obj.cells #[Value.string dn, Value.bool co, Value.slice A2 xs.length c2] 48)
      have HE1 := Lib.hid (HB.out.tr (Ext.al wo (Obj.cells #[Value.string dn, Value.bool co, Value.slice A2 xs.length c2] 48)))
      have hsd : (⟨#[32, 123, 32]⟩ : ByteArray).size = 3 := rfl
      have hsa : (⟨#[100, 97, 116, 97, 32]⟩ : ByteArray).size = 5 := rfl
      have hsc : (⟨#[99, 111]⟩ : ByteArray).size = 2 := rfl
      have HP : Hid (∃ P : List UInt8, P = acc.data.toList ++ (kwB co).data.toList ++ dn.data.toList ++ [32, 123, 32]) := ⟨_, rfl⟩
      obtain ⟨P, hP⟩ := HP
      have HPe := Lib.hid hP
      have hPl : P.length ≤ acc.size + 20 := by
        have e1 := size_toList dn
        have e2 := size_toList (kwB co)
        have e3 := kwB_len co
        have e4 := size_toList acc
        rw [hP]
        simp only [List.length_append, List.length_cons, List.length_nil]
        omega
      clear hP
      obtain ⟨D, hD⟩ : ∃ D : List UInt8, D = declS l ⟨dn, co, xs⟩ := ⟨_, rfl⟩
      have HDD := Lib.hid hD
      clear hD
      cases co
      all_goals
        go_wp2
        generalize wo.alloc _ = w1 at *
        go_loopw [3, 29] (fun s i wr => ∃ (j : Nat) (acc2 : ByteArray), j ≤ xs.length ∧ i = .int .i64 j ∧ s = .string acc2 ∧ Ext w wr ∧ acc2.data.toList ++ xtorsS l j (xs.drop j) = P ++ xtorsS l 0 xs ∧ acc2.size ≤ acc.size + 20 + 92 * j) (fun _ i _ => xs.length - (intOf i).toNat)
        case atStart =>
          refine ⟨0, _, Nat.zero_le _, rfl, rfl, HE1.out, ?_, ?_⟩
          · rw [HPe.out]; simp [kwB]
          · simp only [ByteArray.size_append]; omega
        case round =>
          obtain ⟨j, acc2, hj, rfl, rfl, hb2, hacc2, hl2⟩ := hrel
          obtain ⟨wp, rfl⟩ : ∃ wp : World, wp = wr := ⟨_, rfl⟩
          have HACC2 := Lib.hid hacc2; have HB2 := Lib.hid hb2
          clear hacc2 hb2
          by_cases hlt2 : j < xs.length
          · obtain ⟨b3, o3, va, rfl, hbl3, q0, q1, q2, q3⟩ := HX.out.at_ hlt2
            have q0 := HB2.out.keep q0
            have q1 := HB2.out.keep q1
            have HD2 := Lib.hid (drop_step hlt2)
            have HXNj := HXN.out _ (List.getElem_mem hlt2)
            have HXAj := HXA.out _ (List.getElem_mem hlt2)
            have HXTj := Lib.hid (HXT.out _ (List.getElem_mem hlt2))
            have HXS : Hid (xtorS l xs[j] = (xs[j]).name.data.toList ++ [40] ++ argsS l 0 (xs[j]).args ++ [41]) := rfl
            generalize xs[j] = x at *
            obtain ⟨xn, gs⟩ := x
            dsimp only at *
            obtain ⟨A3, c3, rfl, hc3, hm3⟩ := q2.form
            unfold maxLen at hm3
            have HXQ := Lib.hid q2; clear q2
            have HE2 := Lib.hid (HB2.out.tr (Ext.al wp (Obj.cells #[Value.string xn, Value.slice A3 gs.length c3] 45)))
            have hs2 : (⟨#[44, 32]⟩ : ByteArray).size = 2 := rfl
            have hs1 : (⟨#[40]⟩ : ByteArray).size = 1 := rfl
            have hs4 : (⟨#[41]⟩ : ByteArray).size = 1 := rfl
            have hs5 : (⟨#[126]⟩ : ByteArray).size = 1 := rfl
            by_cases hj0 : 0 < j
            all_goals
              go_wp2
              generalize wp.alloc _ = w2 at *
              go_loopw [3, 46] (fun s i wr => ∃ (r : Nat) (acc3 : ByteArray), r ≤ gs.length ∧ i = .int .i64 r ∧ s = .string acc3 ∧ Ext w wr ∧ acc3.data.toList ++ argsS l r (gs.drop r) = acc2.data.toList ++ sepS j ++ xn.data.toList ++ [40] ++ argsS l 0 gs ∧ acc3.size ≤ acc2.size + 13 + 13 * r) (fun _ i _ => gs.length - (intOf i).toNat)
              case atStart =>
                refine ⟨0, _, Nat.zero_le _, rfl, rfl, HE2.out, ?_, ?_⟩
                · first | (rw [sepS_pos hj0]; simp) | (rw [sepS_zero hj0]; simp)
                · simp only [ByteArray.size_append]; omega
              case round =>
                obtain ⟨r, acc3, hr, rfl, rfl, hb3, hacc3, hl3⟩ := hrel
                have HACC3 := Lib.hid hacc3; have HB3 := Lib.hid hb3
                clear hacc3 hb3
                by_cases hlt3 : r < gs.length
                · have HXr := Lib.hid (HXQ.out.below HB3.out)
                  obtain ⟨b4, o4, rfl, hbl4, e0, e1⟩ := HXr.out.at_ hlt3
                  have HD3 := Lib.hid (drop_step hlt3)
                  have htr := HXTj.out _ (List.getElem_mem hlt3)
                  generalize gs[r] = a at *
                  obtain ⟨ht0, ht1⟩ := htr
                  have hE3 := HB3.out.tr (Ext.al wr (Obj.cells #[Value.int IntKind.i64 a.ty, Value.bool a.co] 50))
                  have htl := tyB_len HF.out.name a.ty
                  have htl2 := size_toList (tyB l a.ty)
                  by_cases hr0 : 0 < r <;> cases hco : a.co
                  all_goals
                    rw [hco] at e1 hE3
                    have HCO := Lib.hid hco; have HE3 := Lib.hid hE3
                    have HRR := Lib.hid (HR.out.below HE3.out)
                    clear hco hE3
                    go_wp2_with (go_at_call 34; (with_reducible refine (RType_any _ _ _ _ HRR.out ht0 ht1).mono ?_); rintro e w' ⟨rfl, rfl⟩)
                    go_roundw
                    case rel =>
                      refine ⟨r + 1, _, by omega, by go_num, rfl, HE3.out, ?_, ?_⟩
                      · rw [← HACC3.out, HD3.out]
                        first | simp [argsS, coS, HCO.out, sepS_pos hr0] | simp [argsS, coS, HCO.out, sepS_zero hr0]
                      · simp only [ByteArray.size_append]; omega
                    case measure => simp [intOf]; omega
                · go_wp2
                  go_roundw
                  case rel =>
                    have e9 : acc3.data.toList = acc2.data.toList ++ sepS j ++ xn.data.toList ++ [40] ++ argsS l 0 gs := by have := HACC3.out; rw [drop_end hlt3] at this; simpa [argsS] using this
                    refine ⟨j + 1, _, by omega, by go_num, rfl, HB3.out, ?_, ?_⟩
                    · rw [← HACC2.out, HD2.out]; simp [xtorsS, HXS.out, e9]
                    · simp only [ByteArray.size_append]; omega
                  case measure => simp [intOf]; omega
          · go_wp2
            go_roundw
            case rel =>
              have e9 : acc2.data.toList = P ++ xtorsS l 0 xs := by have := HACC2.out; rw [drop_end hlt2] at this; simpa [xtorsS] using this
              have e10 := HDL.out
              have e11 : (acc2 ++ (⟨#[32, 125, 10]⟩ : ByteArray)).data.toList = acc.data.toList ++ D := by rw [HDD.out, HDS.out]; simp [e9, HPe.out]
              refine ⟨k + 1, _, by omega, by go_num, rfl, HB2.out, ?_, ?_⟩
              · rw [e11, ← HACC.out, HD.out]; simp [declsS, HDD.out]
              · rw [← size_toList, e11, List.length_append, size_toList, HDD.out]; omega
            case measure => simp [intOf]; omega
    · go_wp2
      go_ret
      have e9 : acc.data.toList = declsS l l := by have := HACC.out; rw [drop_end hlt] at this; simpa [declsS] using this
      have e10 : (⟨acc.data.toList.toArray⟩ : ByteArray) = acc := by simp
      refine ⟨?_, HB.out⟩
      rw [← e9, e10]
      rfl
end Go.Proofs.Ytoopngnmdgcklaa
