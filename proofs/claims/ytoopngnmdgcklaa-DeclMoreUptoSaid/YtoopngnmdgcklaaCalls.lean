import Derived.Test.YtoopngnmdgcklaaValid
import Derived.Test.YtoopngnmdgcklaaPure2
namespace Go.Proofs.Ytoopngnmdgcklaa
open Go.RowKit

def chkI (l : List Decl) : Int := if validB l then 0 else 10
theorem ret_pair {x y x' y' : Value} (h1 : x = x') (h2 : y = y') : Ending.returned (.tuple #[x, y]) = .returned (.tuple #[x', y']) := by rw [h1, h2]

theorem Check_any (v : Value) (l : List Decl) (w : World) (h : RDecls w v l) :
    Calls Try.prog 8 #[v] w fun e w' => e = .returned (.int .i64 (chkI l)) ∧ Ext w w' := by
  have HC : Hid (chkI l = if validB l then 0 else 10) := rfl
  go_enter Try.func8, Try.ntmps8
  go_wp2_with (go_at_call 27; (with_reducible refine (valid_any _ _ _ h).mono ?_); rintro e w' ⟨rfl, hb⟩; have HB := Lib.hid hb; clear hb)
  · have q : validB l = false := by simpa using ‹(!validB l) = true›
    go_ret
    exact ⟨ret_int (by rw [HC.out, q]; rfl), HB.out⟩
  · have q : validB l = true := by simpa using ‹(!validB l) = false›
    go_ret
    exact ⟨ret_int (by rw [HC.out, q]; rfl), HB.out⟩

def srcP (l : List Decl) : Bool × Int := if validB l then (srcB l, 0) else (false, 10)
theorem Source_any (v : Value) (l : List Decl) (w : World) (h : RDecls w v l) :
    Calls Try.prog 9 #[v] w fun e w' => e = .returned (.tuple #[.bool (srcP l).1, .int .i64 (srcP l).2]) ∧ Ext w w' := by
  have HS : Hid (srcB l = l.all srcD) := rfl
  have HC : Hid (srcP l = if validB l then (srcB l, 0) else (false, 10)) := rfl
  generalize hrr : srcP l = rr at *
  clear hrr
  have HR := Lib.hid h
  obtain ⟨A, c, rfl, hc, hm⟩ := h.form
  clear h
  unfold maxLen at hm
  go_enter Try.func9, Try.ntmps9
  go_wp2_with fail
  (with_reducible refine (valid_any _ _ _ HR.out).mono ?_)
  rintro e w1 ⟨rfl, hb⟩
  have HB1 := Lib.hid hb; clear hb
  cases hq : validB l
  · have HQ := Lib.hid hq; clear hq
    go_wp2
    go_ret2
    exact ⟨by rw [HC.out, HQ.out]; rfl, HB1.out⟩
  · have HQ := Lib.hid hq; clear hq
    go_wp2
    have HR1 := Lib.hid (HR.out.below HB1.out)
    go_loopw [11] (fun i wr => ∃ k : Nat, k ≤ l.length ∧ i = .int .i64 k ∧ Ext w1 wr ∧ l.all srcD = (l.drop k).all srcD) (fun i _ => l.length - (intOf i).toNat)
    case atStart => exact ⟨0, Nat.zero_le _, rfl, Ext.rf _, by simp⟩
    case round =>
      obtain ⟨k, hk, rfl, hb, hno⟩ := hrel
      have HN := Lib.hid hno; have HB := Lib.hid hb; clear hno hb
      by_cases hlt : k < l.length
      · have HRk := Lib.hid (HR1.out.below HB.out)
        obtain ⟨b, o, vx, rfl, hbl, h0, h1, h2, h3, h4⟩ := HRk.out.at_ hlt
        have HD := Lib.hid (drop_step hlt)
        generalize l[k] = d at *
        obtain ⟨A2, c2, rfl, -⟩ := h3.form
        have HW := Lib.hid (Ext.al wr (Obj.cells #[Value.string d.name, Value.bool d.codata, Value.slice A2 d.xtors.length c2] 48))
        have HX : Hid (RDecl _ _ d) := ⟨_, rfl, h3.below HW.out, h4⟩
        clear h3
        go_wp2_with fail
        (with_reducible refine (isSource_any _ _ _ HX.out).mono ?_)
        rintro e w3 ⟨rfl, hb3⟩
        have HW3 := Lib.hid ((HB.out.tr HW.out).tr hb3); clear hb3
        cases hq : srcD d
        · have HQ3 := Lib.hid hq; clear hq
          go_wp2
          go_ret2
          exact ⟨by rw [HC.out, HQ.out, HS.out, HN.out, HD.out, List.all_cons, HQ3.out]; rfl, HB1.out.tr HW3.out⟩
        · have HQ3 := Lib.hid hq; clear hq
          go_wp2
          go_roundw
          case rel => exact ⟨k + 1, by omega, by go_num, HW3.out, by rw [HN.out, HD.out, List.all_cons, HQ3.out]; rfl⟩
          case measure => simp [intOf]; omega
      · go_wp2
        go_ret2
        exact ⟨by rw [HC.out, HQ.out, HS.out, HN.out, drop_end hlt]; rfl, HB1.out.tr HB.out⟩

theorem declared_out (v : Value) (l : List Decl) (t : Int) (w : World) (h : RDecls w v l) (ht : ¬ (1 ≤ t ∧ t ≤ l.length)) :
    Calls Try.prog 36 #[v, .int .i64 t] w fun e w' => e = .returned (.tuple #[.agg #[.string ⟨#[]⟩, .bool false, .slice none 0 0], .bool false]) ∧ Ext w w' := by
  obtain ⟨A, c, rfl, hc, hm⟩ := h.form
  clear h
  unfold maxLen at hm
  by_cases h1 : 1 ≤ t
  · have h2 : ¬ t ≤ l.length := fun h2 => ht ⟨h1, h2⟩
    clear ht
    go_enter Try.func36, Try.ntmps36
    go_wp2
    exact bodyPost_ret (v := .tuple #[.agg #[.string ⟨#[]⟩, .bool false, .slice none 0 0], .bool false]) (by simp [results, Try.results36, go_sem]) rfl ⟨rfl, (Ext.al _ _)⟩
  · clear ht
    go_enter Try.func36, Try.ntmps36
    go_wp2
    exact bodyPost_ret (v := .tuple #[.agg #[.string ⟨#[]⟩, .bool false, .slice none 0 0], .bool false]) (by simp [results, Try.results36, go_sem]) rfl ⟨rfl, (Ext.al _ _)⟩

theorem declared_in (v : Value) (l : List Decl) (t : Nat) (w : World) (h : RDecls w v l) (ht : t < l.length) :
    Calls Try.prog 36 #[v, .int .i64 (t + 1)] w fun e w' => (∃ va, e = .returned (.tuple #[.agg #[.string (l[t]).name, .bool (l[t]).codata, va], .bool true]) ∧ RXtors w va (l[t]).xtors) ∧ Ext w w' := by
  have HR := Lib.hid h
  obtain ⟨A, c, rfl, hc, hm⟩ := h.form
  clear h
  unfold maxLen at hm
  obtain ⟨b, o, vx, rfl, hbl, h0, h1, h2, h3, h4⟩ := HR.out.at_ ht
  generalize l[t] = d at *
  obtain ⟨A2, c2, rfl, -⟩ := h3.form
  have HX := Lib.hid h3; clear h3
  have e : ((t : Int) + 1 - 1) = t := by omega
  have hz : (w.alloc (Obj.cells #[.string ⟨#[]⟩, .bool false, .slice none 0 0] 48)).heap.size = w.heap.size + 1 := by simp
  go_enter Try.func36, Try.ntmps36
  go_wp2
  refine bodyPost_ret (v := .tuple #[.agg #[.string d.name, .bool d.codata, .slice A2 d.xtors.length c2], .bool true]) (by simp [results, Try.results36, go_sem]) rfl ⟨⟨_, rfl, HX.out⟩, (Ext.al _ _)⟩

theorem Positive_any (v : Value) (l : List Decl) (t : Int) (w : World) (h : RDecls w v l) :
    Calls Try.prog 18 #[v, .int .i64 t] w fun e w' => e = .returned (.tuple #[.bool (posB l t).1, .int .i64 (posB l t).2]) ∧ Ext w w' := by
  have HB := Lib.hid (@posB_bad l t)
  have HZ := Lib.hid (@posB_zero l)
  have HO := Lib.hid (@posB_out l t)
  have HI := Lib.hid (@posB_in l (t - 1).toNat)
  have HR := Lib.hid h
  generalize hrr : posB l t = rr at *
  have HRR := Lib.hid hrr; clear hrr
  obtain ⟨A, c, rfl, hc, hm⟩ := h.form
  clear h
  unfold maxLen at hm
  go_enter Try.func18, Try.ntmps18
  go_wp2_with fail
  (with_reducible refine (valid_any _ _ _ HR.out).mono ?_)
  rintro e w1 ⟨rfl, hb⟩
  have HB1 := Lib.hid hb; clear hb
  have HR1 := Lib.hid (HR.out.below HB1.out)
  cases hq : validB l
  · have HQ := Lib.hid hq; clear hq
    go_wp2
    go_ret2
    exact ⟨by rw [HB.out HQ.out]; rfl, HB1.out⟩
  · have HQ := Lib.hid hq; clear hq
    by_cases h0 : t = 0
    · subst h0
      go_wp2
      go_ret2
      exact ⟨by rw [← HRR.out, HZ.out HQ.out]; rfl, HB1.out⟩
    · have h0' : (t == 0) = false := by simp [h0]
      have H0 := Lib.hid h0; clear h0
      by_cases hr : 1 ≤ t ∧ t ≤ l.length
      · obtain ⟨u, hu⟩ : ∃ u : Nat, t = u + 1 := ⟨(t - 1).toNat, by omega⟩
        subst hu
        have hul : u < l.length := by omega
        have HI2 : Hid (posB l (u + 1) = (!(l[u]).codata, 0)) := posB_in HQ.out hul
        clear hr
        go_wp2_with fail
        (with_reducible refine (declared_in _ _ _ _ HR1.out hul).mono ?_)
        rintro e w2 ⟨⟨va, rfl, hx⟩, hb⟩
        have HB2 := Lib.hid (HB1.out.tr hb); clear hb
        generalize l[u] = d at *
        obtain ⟨A2, c2, rfl, -⟩ := hx.form
        clear hx
        go_wp2
        go_ret2
        exact ⟨by rw [← HRR.out, HI2.out]; rfl, HB2.out.tr (Ext.al _ _)⟩
      · have HO2 := Lib.hid (HO.out HQ.out H0.out hr)
        go_wp2_with fail
        (with_reducible refine (declared_out _ _ _ _ HR1.out hr).mono ?_)
        rintro e w2 ⟨rfl, hb⟩
        have HB2 := Lib.hid (HB1.out.tr hb); clear hb
        clear hr
        go_wp2
        go_ret2
        exact ⟨by rw [HO2.out]; rfl, HB2.out.tr (Ext.al _ _)⟩

theorem Result_any (v : Value) (l : List Decl) (t n : Int) (w : World) (h : RDecls w v l) :
    Calls Try.prog 19 #[v, .int .i64 t, .int .i64 n] w fun e w' => e = .returned (.tuple #[.int .i64 (resI l t n).1, .int .i64 (resI l t n).2]) ∧ Ext w w' := by
  have HB := Lib.hid (@resI_bad l t n)
  have HO := Lib.hid (@resI_out l t n)
  have HR := Lib.hid h
  generalize hrr : resI l t n = rr at *
  have HRR := Lib.hid hrr; clear hrr
  obtain ⟨A, c, rfl, hc, hm⟩ := h.form
  clear h
  unfold maxLen at hm
  go_enter Try.func19, Try.ntmps19
  go_wp2_with fail
  (with_reducible refine (valid_any _ _ _ HR.out).mono ?_)
  rintro e w1 ⟨rfl, hb⟩
  have HB1 := Lib.hid hb; clear hb
  have HR1 := Lib.hid (HR.out.below HB1.out)
  cases hq : validB l
  · have HQ := Lib.hid hq; clear hq
    go_wp2
    go_ret2
    exact ⟨by rw [HB.out HQ.out]; rfl, HB1.out⟩
  · have HQ := Lib.hid hq; clear hq
    by_cases hr : 1 ≤ t ∧ t ≤ l.length
    · obtain ⟨u, hu⟩ : ∃ u : Nat, t = u + 1 := ⟨(t - 1).toNat, by omega⟩
      subst hu
      have hul : u < l.length := by omega
      clear hr
      go_wp2_with fail
      (with_reducible refine (declared_in _ _ _ _ HR1.out hul).mono ?_)
      rintro e w2 ⟨⟨va, rfl, hx⟩, hb⟩
      have HB2 := Lib.hid (HB1.out.tr hb)
      obtain ⟨A2, c2, rfl, hc2, hm2⟩ := hx.form
      unfold maxLen at hm2
      have HX := Lib.hid (hx.below hb); clear hx hb
      cases hcd : (l[u]).codata
      · have HI := Lib.hid (resI_data (n := n) HQ.out hul hcd)
        clear hcd
        generalize l[u] = d at *
        go_wp2
        go_ret2
        exact ⟨by rw [← HRR.out, HI.out]; rfl, HB2.out.tr (Ext.al _ _)⟩
      · have HCD := Lib.hid hcd; clear hcd
        by_cases hn : 0 ≤ n ∧ n < (l[u]).xtors.length
        · obtain ⟨k, rfl⟩ := Int.eq_ofNat_of_zero_le hn.1
          have hk : k < (l[u]).xtors.length := by omega
          clear hn
          have HN := Lib.hid (resI_noend HQ.out hul hk)
          have HE := Lib.hid (resI_end HQ.out hul hk HCD.out)
          generalize l[u] = d at *
          obtain ⟨b2, o2, va, rfl, hbl2, g0, g1, g2, g3⟩ := HX.out.at_ hk
          generalize d.xtors[k] = x at *
          obtain ⟨A3, c3, rfl, hc3, hm3⟩ := g2.form
          unfold maxLen at hm3
          have HW := Lib.hid (Ext.al w2 (Obj.cells #[Value.string d.name, Value.bool true, Value.slice (some ⟨b2, o2, none⟩) d.xtors.length c2] 48))
          have HA := Lib.hid (g2.below HW.out); clear g2
          have g0 := HW.out.keep g0
          have g1 := HW.out.keep g1
          go_wp2_with fail
          (with_reducible refine (ends_any _ _ _ HA.out).mono ?_)
          rintro e w3 ⟨rfl, hb⟩
          have HA3 := Lib.hid (HA.out.below hb)
          have HB3 := Lib.hid ((HB2.out.tr HW.out).tr hb); clear hb
          cases he : endsB x.args
          · have HN2 := Lib.hid (HN.out he)
            clear he
            go_wp2
            go_ret2
            exact ⟨by rw [← HRR.out, HN2.out]; rfl, HB3.out⟩
          · have hp := endsB_pos he
            have HE2 := Lib.hid (HE.out he)
            have HLT := Lib.hid (lastTy_eq hp)
            clear he
            obtain ⟨b4, o4, rfl, hbl4, f0, f1⟩ := HA3.out.at_ (k := x.args.length - 1) (by omega)
            generalize x.args[x.args.length - 1] = a at *
            go_wp2
            go_ret2
            exact ⟨by rw [← HRR.out, HE2.out, HLT.out]; rfl, HB3.out⟩
        · have HI := Lib.hid (resI_none (n := n) HQ.out hul hn)
          generalize l[u] = d at *
          by_cases hn0 : 0 ≤ n
          all_goals
            have hn1 : n < 0 ∨ (d.xtors.length : Int) ≤ n := by omega
            clear hn
            go_wp2
            go_ret2
            exact ⟨by rw [← HRR.out, HI.out]; rfl, HB2.out.tr (Ext.al _ _)⟩
    · have HO2 := Lib.hid (HO.out HQ.out hr)
      go_wp2_with fail
      (with_reducible refine (declared_out _ _ _ _ HR1.out hr).mono ?_)
      rintro e w2 ⟨rfl, hb⟩
      have HB2 := Lib.hid (HB1.out.tr hb); clear hb
      clear hr
      go_wp2
      go_ret2
      exact ⟨by rw [HO2.out]; rfl, HB2.out.tr (Ext.al _ _)⟩

/-- 'Find' as the program has it: type, number, error. -/
def fndP (l : List Decl) (nm : ByteArray) : Int × Int × Int :=
  if validB l = false then (0, 0, 10) else match findD nm 0 l with
    | some (t, k) => (t, k, 0)
    | none => (0, 0, 1)
theorem fndP_bad {l : List Decl} {nm : ByteArray} (h : validB l = false) : fndP l nm = (0, 0, 10) := by simp [fndP, h]
theorem fndP_hit {l : List Decl} {nm : ByteArray} {t k : Nat} (h : validB l = true) (hf : findD nm 0 l = some (t, k)) : fndP l nm = ((t : Int), (k : Int), 0) := by simp [fndP, h, hf]
theorem fndP_miss {l : List Decl} {nm : ByteArray} (h : validB l = true) (hf : findD nm 0 l = none) : fndP l nm = (0, 0, 1) := by simp [fndP, h, hf]

theorem Find_any (v : Value) (l : List Decl) (nm : ByteArray) (w : World) (h : RDecls w v l) :
    Calls Try.prog 23 #[v, .string nm] w fun e w' => e = .returned (.tuple #[.int .i64 (fndP l nm).1, .int .i64 (fndP l nm).2.1, .int .i64 (fndP l nm).2.2]) ∧ Ext w w' := by
  have HB := Lib.hid (@fndP_bad l nm)
  have HH : Hid (∀ t k, validB l = true → findD nm 0 l = some (t, k) → fndP l nm = (↑t, ↑k, 0)) := fun t k a b => fndP_hit a b
  have HM := Lib.hid (@fndP_miss l nm)
  generalize hrr : fndP l nm = rr at *
  have HRR := Lib.hid hrr; clear hrr
  have HR := Lib.hid h
  obtain ⟨A, c, rfl, hc, hm⟩ := h.form
  clear h
  unfold maxLen at hm
  go_enter Try.func23, Try.ntmps23
  go_wp2_with fail
  (with_reducible refine (valid_any _ _ _ HR.out).mono ?_)
  rintro e w1 ⟨rfl, hb⟩
  have HB1 := Lib.hid hb; clear hb
  have HR1 := Lib.hid (HR.out.below HB1.out)
  cases hq : validB l
  · have HQ := Lib.hid hq; clear hq
    go_wp2
    go_ret3
    exact ⟨by rw [HB.out HQ.out]; rfl, HB1.out⟩
  · have HQ := Lib.hid hq; clear hq
    go_wp2
    go_loopw [16] (fun i wr => ∃ k : Nat, k ≤ l.length ∧ i = .int .i64 k ∧ Ext w1 wr ∧ findD nm 0 l = findD nm k (l.drop k)) (fun i _ => l.length - (intOf i).toNat)
    case atStart => exact ⟨0, Nat.zero_le _, rfl, Ext.rf _, by simp⟩
    case round =>
      obtain ⟨k, hk, rfl, hb, hno⟩ := hrel
      obtain ⟨wo, rfl⟩ : ∃ wo : World, wo = wr := ⟨_, rfl⟩
      have HN := Lib.hid hno; have HB2 := Lib.hid hb; clear hno hb
      by_cases hlt : k < l.length
      · have HRk := Lib.hid (HR1.out.below HB2.out)
        obtain ⟨b, o, vx, rfl, hbl, h0, h1, h2, h3, h4⟩ := HRk.out.at_ hlt
        have HD := Lib.hid (drop_step hlt)
        have HHit : Hid (∀ j, findX nm 0 (l[k]).xtors = some j → findD nm k (l[k] :: l.drop (k + 1)) = some (k + 1, j)) := fun j e => findD_hit e
        have HMiss : Hid (findX nm 0 (l[k]).xtors = none → findD nm k (l[k] :: l.drop (k + 1)) = findD nm (k + 1) (l.drop (k + 1))) := fun e => findD_miss e
        generalize l[k] = d at *
        obtain ⟨dn, co, xs⟩ := d
        dsimp only at *
        obtain ⟨A2, c2, rfl, hc2, hm2⟩ := h3.form
        unfold maxLen at hm2
        have HX := Lib.hid h3; clear h3
        go_wp2
        have hE1 := Ext.al wo (Obj.cells #[Value.string dn, Value.bool co, Value.slice A2 xs.length c2] 48)
        generalize wo.alloc _ = w2 at *
        have HE1 := Lib.hid hE1; clear hE1
        have HX1 := Lib.hid (HX.out.below HE1.out)
        go_loopw [24] (fun i wr => ∃ j : Nat, j ≤ xs.length ∧ i = .int .i64 j ∧ Ext w2 wr ∧ findX nm 0 xs = findX nm j (xs.drop j)) (fun i _ => xs.length - (intOf i).toNat)
        case atStart => exact ⟨0, Nat.zero_le _, rfl, Ext.rf _, by simp⟩
        case round =>
          obtain ⟨j, hj, rfl, hb2, hno2⟩ := hrel
          have HN2 := Lib.hid hno2; have HB3 := Lib.hid hb2; clear hno2 hb2
          by_cases hlt2 : j < xs.length
          · have HX2 := Lib.hid (HX1.out.below HB3.out)
            obtain ⟨b2, o2, va, rfl, hbl2, g0, g1, g2, g3⟩ := HX2.out.at_ hlt2
            have HD2 := Lib.hid (drop_step hlt2)
            generalize xs[j] = x at *
            obtain ⟨A3, c3, rfl, -⟩ := g2.form
            clear g2
            cases hq : (x.name.toList == nm.toList)
            · have HQ2 := Lib.hid hq
              have hq2 : (x.name.toList == nm.toList) = false := hq
              go_wp2
              go_roundw
              case rel => exact ⟨j + 1, by omega, by go_num, HB3.out.tr (Ext.al _ _), by rw [HN2.out, HD2.out, findX_miss HQ2.out]⟩
              case measure => simp [intOf]; omega
            · have HQ2 := Lib.hid hq
              go_wp2
              go_ret3
              have e1 := HH.out (k + 1) j HQ.out (by rw [HN.out, HD.out]; exact HHit.out j (by rw [HN2.out, HD2.out, findX_hit HQ2.out]))
              exact ⟨by rw [e1]; rfl, HB1.out.tr (HB2.out.tr (HE1.out.tr (HB3.out.tr (Ext.al _ _))))⟩
          · go_wp2
            go_roundw
            case rel => exact ⟨k + 1, by omega, by go_num, HB2.out.tr (HE1.out.tr HB3.out), by rw [HN.out, HD.out]; exact HMiss.out (by rw [HN2.out, drop_end hlt2]; rfl)⟩
            case measure => simp [intOf]; omega
      · go_wp2
        go_ret3
        exact ⟨by rw [HM.out HQ.out (by rw [HN.out, drop_end hlt]; rfl)]; rfl, HB1.out.tr HB2.out⟩
end Go.Proofs.Ytoopngnmdgcklaa
