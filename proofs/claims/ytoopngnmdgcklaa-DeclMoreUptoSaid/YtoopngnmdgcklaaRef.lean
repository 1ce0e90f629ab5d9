import Derived.Test.YtoopngnmdgcklaaValid
import Derived.Test.YtoopngnmdgcklaaPure2
namespace Go.Proofs.Ytoopngnmdgcklaa
open Go.RowKit

def codB (l : List Decl) (t : Int) : Bool := if 1 ≤ t then (l[(t - 1).toNat]?.map Decl.codata).getD false else false
theorem codB_in {l : List Decl} {t : Nat} (h : t < l.length) : codB l (t + 1) = (l[t]).codata := by
  unfold codB
  have e : ((t : Int) + 1 - 1).toNat = t := by omega
  rw [if_pos (by omega), e, List.getElem?_eq_getElem h]; rfl
theorem codB_out {l : List Decl} {t : Int} (h : ¬ (1 ≤ t ∧ t ≤ l.length)) : codB l t = false := by
  unfold codB
  split
  · rw [List.getElem?_eq_none (by omega)]; rfl
  · rfl
theorem RCodata_any (v : Value) (l : List Decl) (t : Int) (w : World) (h : RDecls w v l) :
    Calls Try.prog 20 #[v, .int .i64 t] w fun e w' => e = .returned (.bool (codB l t)) ∧ w = w' := by
  have HR := Lib.hid h
  obtain ⟨A, c, rfl, hc, hm⟩ := h.form
  clear h
  unfold maxLen at hm
  by_cases hr : 1 ≤ t ∧ t ≤ l.length
  · obtain ⟨u, hu⟩ : ∃ u : Nat, t = u + 1 := ⟨(t - 1).toNat, by omega⟩
    subst hu
    have hul : u < l.length := by omega
    clear hr
    have HI := Lib.hid (codB_in hul)
    obtain ⟨b, o, vx, rfl, hbl, h0, h1, h2, h3, h4⟩ := HR.out.at_ hul
    clear h3
    generalize l[u] = d at *
    go_enter Try.func20, Try.ntmps20
    go_wp2
    go_ret
    exact ⟨ret_bool (by rw [HI.out]), rfl⟩
  · have HI := Lib.hid (codB_out hr)
    by_cases h1 : 1 ≤ t
    all_goals
      have hn1 : t < 1 ∨ (l.length : Int) < t := by omega
      clear hr
      go_enter Try.func20, Try.ntmps20
      go_wp2
      go_ret
      exact ⟨ret_bool HI.out.symm, rfl⟩

def hasI (l : List Decl) (t n : Int) : Bool := if 1 ≤ t ∧ 0 ≤ n then decide (n < ((l[(t - 1).toNat]?.map fun d => d.xtors.length).getD 0 : Nat)) else false
theorem hasI_in {l : List Decl} {t : Nat} {n : Int} (h : t < l.length) (h0 : 0 ≤ n) : hasI l (t + 1) n = decide (n < ((l[t]).xtors.length : Int)) := by
  unfold hasI
  have e : ((t : Int) + 1 - 1).toNat = t := by omega
  rw [if_pos (by omega), e, List.getElem?_eq_getElem h]; rfl
theorem hasI_neg {l : List Decl} {t n : Int} (h : ¬ 0 ≤ n) : hasI l t n = false := by
  unfold hasI
  rw [if_neg (by omega)]
theorem hasI_out {l : List Decl} {t n : Int} (h : ¬ (1 ≤ t ∧ t ≤ l.length)) : hasI l t n = false := by
  unfold hasI
  split
  · rw [List.getElem?_eq_none (by omega)]; simp; omega
  · rfl
theorem RHas_any (v : Value) (l : List Decl) (t n : Int) (w : World) (h : RDecls w v l) :
    Calls Try.prog 21 #[v, .int .i64 t, .int .i64 n] w fun e w' => e = .returned (.bool (hasI l t n)) ∧ w = w' := by
  have HR := Lib.hid h
  obtain ⟨A, c, rfl, hc, hm⟩ := h.form
  clear h
  unfold maxLen at hm
  by_cases hr : 1 ≤ t ∧ t ≤ l.length
  · obtain ⟨u, hu⟩ : ∃ u : Nat, t = u + 1 := ⟨(t - 1).toNat, by omega⟩
    subst hu
    have hul : u < l.length := by omega
    clear hr
    obtain ⟨b, o, vx, rfl, hbl, h0, h1, h2, h3, h4⟩ := HR.out.at_ hul
    obtain ⟨A2, c2, rfl, hc2, hm2⟩ := h3.form
    unfold maxLen at hm2
    clear h3
    by_cases hn : 0 ≤ n
    · have HI := Lib.hid (hasI_in hul hn)
      generalize l[u] = d at *
      go_enter Try.func21, Try.ntmps21
      go_wp2
      go_ret
      exact ⟨ret_bool (by rw [HI.out]), rfl⟩
    · have HI := Lib.hid (hasI_neg (l := l) (t := u + 1) hn)
      generalize l[u] = d at *
      go_enter Try.func21, Try.ntmps21
      go_wp2
      go_ret
      exact ⟨ret_bool (by rw [HI.out]), rfl⟩
  · have HI := Lib.hid (hasI_out (n := n) hr)
    by_cases h1 : 1 ≤ t
    all_goals
      have hn1 : t < 1 ∨ (l.length : Int) < t := by omega
      clear hr
      go_enter Try.func21, Try.ntmps21
      go_wp2
      go_ret
      exact ⟨ret_bool HI.out.symm, rfl⟩

theorem RFind_any (v : Value) (l : List Decl) (nm : ByteArray) (w : World) (h : RDecls w v l) :
    Calls Try.prog 24 #[v, .string nm] w fun e w' => e = .returned (.tuple #[.int .i64 (((findD nm 0 l).map Prod.fst).getD 0 : Nat), .int .i64 (((findD nm 0 l).map Prod.snd).getD 0 : Nat)]) ∧ Ext w w' := by
  generalize hrr : findD nm 0 l = rr at *
  have HRR := Lib.hid hrr; clear hrr
  have HR := Lib.hid h
  obtain ⟨A, c, rfl, hc, hm⟩ := h.form
  clear h
  unfold maxLen at hm
  go_enter Try.func24, Try.ntmps24
  go_wp2
  go_loopw [12] (fun i wr => ∃ k : Nat, k ≤ l.length ∧ i = .int .i64 k ∧ Ext w wr ∧ findD nm 0 l = findD nm k (l.drop k)) (fun i _ => l.length - (intOf i).toNat)
  case atStart => exact ⟨0, Nat.zero_le _, rfl, Ext.rf _, by simp⟩
  case round =>
    obtain ⟨k, hk, rfl, hb, hno⟩ := hrel
    obtain ⟨wo, rfl⟩ : ∃ wo : World, wo = wr := ⟨_, rfl⟩
    have HN := Lib.hid hno; have HB2 := Lib.hid hb; clear hno hb
    by_cases hlt : k < l.length
    · have HRk := Lib.hid (HR.out.below HB2.out)
      obtain ⟨b, o, vx, rfl, hbl, h0, h1, h2, h3, h4⟩ := HRk.out.at_ hlt
      have HD := Lib.hid (drop_step hlt)
      have HHit : Hid (∀ j, findX nm 0 (l[k]).xtors = some j → findD nm k (l[k] :: l.drop (k + 1)) = some (k + 1, j)) := fun j e => findD_hit e
      have HMiss : Hid (findX nm 0 (l[k]).xtors = none → findD nm k (l[k] :: l.drop (k + 1)) = findD nm (k + 1) (l.drop (k + 1))) := fun e => findD_miss e
      generalize l[k] = d at *
      obtain ⟨dn, co, xs⟩ := d
      dsimp only at *
      obtain ⟨A2, c2, rfl, hc2, hm2⟩ := h3.form
      unfold maxLen at hm2
      have HX := Lib.hid h3; clear h3
      go_wp2
      have hE1 := Ext.al wo (Obj.cells #[Value.string dn, Value.bool co, Value.slice A2 xs.length c2] 48)
      generalize wo.alloc _ = w2 at *
      have HE1 := Lib.hid hE1; clear hE1
      have HX1 := Lib.hid (HX.out.below HE1.out)
      go_loopw [20] (fun i wr => ∃ j : Nat, j ≤ xs.length ∧ i = .int .i64 j ∧ Ext w2 wr ∧ findX nm 0 xs = findX nm j (xs.drop j)) (fun i _ => xs.length - (intOf i).toNat)
      case atStart => exact ⟨0, Nat.zero_le _, rfl, Ext.rf _, by simp⟩
      case round =>
        obtain ⟨j, hj, rfl, hb2, hno2⟩ := hrel
        have HN2 := Lib.hid hno2; have HB3 := Lib.hid hb2; clear hno2 hb2
        by_cases hlt2 : j < xs.length
        · have HX2 := Lib.hid (HX1.out.below HB3.out)
          obtain ⟨b2, o2, va, rfl, hbl2, g0, g1, g2, g3⟩ := HX2.out.at_ hlt2
          have HD2 := Lib.hid (drop_step hlt2)
          generalize xs[j] = x at *
          obtain ⟨A3, c3, rfl, -⟩ := g2.form
          clear g2
          cases hq : (x.name.toList == nm.toList)
          · have HQ2 := Lib.hid hq
            have hq2 : (x.name.toList == nm.toList) = false := hq
            go_wp2
            go_roundw
            case rel => exact ⟨j + 1, by omega, by go_num, HB3.out.tr (Ext.al _ _), by rw [HN2.out, HD2.out, findX_miss HQ2.out]⟩
            case measure => simp [intOf]; omega
          · have HQ2 := Lib.hid hq
            go_wp2
            go_ret2
            have e1 : findD nm 0 l = some (k + 1, j) := by rw [HN.out, HD.out]; exact HHit.out j (by rw [HN2.out, HD2.out, findX_hit HQ2.out])
            exact ⟨by rw [← HRR.out, e1]; rfl, HB2.out.tr (HE1.out.tr (HB3.out.tr (Ext.al _ _)))⟩
        · go_wp2
          go_roundw
          case rel => exact ⟨k + 1, by omega, by go_num, HB2.out.tr (HE1.out.tr HB3.out), by rw [HN.out, HD.out]; exact HMiss.out (by rw [HN2.out, drop_end hlt2]; rfl)⟩
          case measure => simp [intOf]; omega
    · go_wp2
      go_ret2
      have e1 : findD nm 0 l = none := by rw [HN.out, drop_end hlt]; rfl
      exact ⟨by rw [← HRR.out, e1]; rfl, HB2.out⟩
end Go.Proofs.Ytoopngnmdgcklaa
