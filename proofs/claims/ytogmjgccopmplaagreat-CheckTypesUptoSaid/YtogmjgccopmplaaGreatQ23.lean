/- visit.go: child, of any position. -/
import Derived.Test.YtogmjgccopmplaaGreatQ22
namespace Go.Proofs.YtogmjgccopmplaaGreat
open Go.RowKit
theorem clsB_nth : ∀ (cls : List (List Str × Tm)) (xs : List Xtor) (n : Nat) (c : List Str × Tm), clsB xs cls = true → cls[n]? = some c → (c.1.length : Int) = prodI (xs.getD n noXtor)
  | [], _, _, _, _, h => by simp at h
  | c :: r, xs, 0, c', h, hc => by
    simp at hc; subst hc
    simp only [clsB, Bool.and_eq_true, decide_eq_true_eq] at h
    rw [h.1]; cases xs <;> rfl
  | c :: r, xs, n + 1, c', h, hc => by
    simp only [clsB, Bool.and_eq_true, decide_eq_true_eq] at h
    rw [List.getElem?_cons_succ] at hc
    rw [clsB_nth r xs.tail n c' h.2 hc]
    cases xs <;> simp
theorem fits_clause {P : Pg} {t : Tm} (hf : fitsT P t = true) {n : Nat} {c : List Str × Tm} (hc : t.cls[n]? = some c) :
    ∃ u d x, t.ty = ((u + 1 : Nat) : Int) ∧ P.decls[u]? = some d ∧ declAt P t.ty = d ∧ d.xtors[n]? = some x ∧ c.1.length = (prodL x).length := by
  have hn : n < t.cls.length := (List.getElem?_eq_some_iff.1 hc).1
  have key : ∀ (co : Bool) (na : Int), isDeclB P t.ty co = true → fitsCB P t na = true → ∃ u d x, t.ty = ((u + 1 : Nat) : Int) ∧ P.decls[u]? = some d ∧ declAt P t.ty = d ∧ d.xtors[n]? = some x ∧ c.1.length = (prodL x).length := by
    intro co na h1 h2
    obtain ⟨u, d, hty, hd, hda, hco⟩ := decl_in h1
    unfold fitsCB at h2
    rw [hda] at h2
    simp only [Bool.and_eq_true] at h2
    have hl := (hasF_len h2.1).2
    have hnx : n < d.xtors.length := by omega
    refine ⟨u, d, d.xtors[n], hty, hd, hda, List.getElem?_eq_getElem hnx, ?_⟩
    have := clsB_nth _ _ n c h2.2 hc
    rw [List.getD_eq_getElem?_getD, List.getElem?_eq_getElem hnx] at this
    unfold prodI at this
    unfold prodL
    rw [List.length_map]
    have this : (c.1.length : Int) = ((List.filter (fun a => !a.co) (d.xtors[n]).args).length : Int) := this
    exact Int.ofNat.inj this
  obtain ⟨o, ho, ho2⟩ := fits_op hf
  unfold fitsT at hf
  rw [ho] at hf
  match o, ho2 with
  | 0, _ => simp at hf; have := (hasF_len hf).2; omega
  | 1, _ => simp at hf; have := (hasF_len hf).2; omega
  | 2, _ => simp at hf; have := (hasF_len hf.1.1).2; omega
  | 3, _ => simp at hf; have := (hasF_len hf).2; omega
  | 4, _ =>
    simp at hf
    have h := hf.2
    unfold fitsXB at h
    simp only [Bool.and_eq_true] at h
    have := (hasF_len h.2).2; omega
  | 5, _ => simp at hf; exact key _ _ hf.1 hf.2
  | 6, _ =>
    simp at hf
    have h := hf.2
    unfold fitsXB at h
    simp only [Bool.and_eq_true] at h
    have := (hasF_len h.2).2; omega
  | 7, _ => simp at hf; exact key _ _ hf.1 hf.2
  | 8, _ => simp at hf; have := (hasF_len hf.1).2; omega
  | 9, _ => simp at hf; have := (hasF_len hf.2).2; omega
  | 10, _ => simp at hf; have := (hasF_len hf).2; omega
  | 11, _ => simp at hf; have := (hasF_len hf.1).2; omega
  | 12, _ => simp at hf; have := (hasF_len hf.1).2; omega
theorem child_any (gc : Nat) (P : Pg) (V L : Env) (pv pl : Value) (k : Nat) (t : Tm) (ux uc : Value) (i : Nat) (w : World) (hV : RB w V pv) (hL : RB w L pl) (ht : RT w (k + 1) t ux uc) (hk : RCk w gc P) (hf : fitsT P t = true) (hB : PB P) (hlt : i < t.args.length + t.cls.length) (hsz : t.args.length + t.cls.length ≤ 1000000000) :
    Calls Tryz.prog 67 #[.pointer (some ⟨gc, 0, none⟩), scV pv pl, tV t ux uc, .int .i64 i] w fun e w' =>
      (∃ xa xc qv ql, e = .returned (.tuple #[tV (kidT t i) xa xc, scV qv ql]) ∧ RT w' k (kidT t i) xa xc ∧ RB w' (kidE P V L t i).1 qv ∧ RB w' (kidE P V L t i).2 ql) ∧ Ext w w' := by
  by_cases hi : i < t.args.length
  · exact childA_any gc P V L pv pl k t ux uc i w hV hL ht hk hi
  · obtain ⟨n, rfl⟩ : ∃ n, i = t.args.length + n := ⟨i - t.args.length, by omega⟩
    obtain ⟨cl, hcl⟩ : ∃ cl, t.cls[n]? = some cl := ⟨_, List.getElem?_eq_getElem (by omega)⟩
    obtain ⟨u, d, x, hty, hd, hda, hx, hcx⟩ := fits_clause hf hcl
    have h := childC_any gc P V L pv pl k t ux uc ((t.args.length + n : Nat) : Int) n cl u d x w hV hL ht hk rfl hcl hty hd hx hcx hB.dl (hB.xl u d hd).1 hsz
    have e1 : kidT t (t.args.length + n) = cl.2 := by
      unfold kidT; rw [if_neg hi, Nat.add_sub_cancel_left, List.getD_eq_getElem?_getD, hcl]; rfl
    have e2 : kidE P V L t (t.args.length + n) = (bindE cl.1 (prodL x) V, L) := by
      unfold kidE; rw [if_neg hi, Nat.add_sub_cancel_left, List.getD_eq_getElem?_getD, hcl, hda, List.getD_eq_getElem?_getD, hx]; rfl
    rw [e1, e2]
    exact h
def Vld (P : Pg) (t : Tm) : Prop := ∃ V L, validT P V L t = true
theorem Vld.fits {P : Pg} {t : Tm} (h : Vld P t) : fitsT P t = true := by
  obtain ⟨V, L, h⟩ := h
  rw [validT_kids] at h
  simp only [Bool.and_eq_true] at h
  exact h.1.1
theorem kid_mem {t : Tm} {i : Nat} (hi : i < t.args.length + t.cls.length) : ∃ x ∈ kids t, x.2 = kidT t i := by
  unfold kids kidT
  by_cases h : i < t.args.length
  · have hg := kidsFrom_get t.op t.nm t.args 0 i _ (List.getElem?_eq_getElem h)
    refine ⟨_, List.mem_append_left _ (List.mem_of_getElem? hg), ?_⟩
    rw [if_pos h, List.getD_eq_getElem?_getD, List.getElem?_eq_getElem h]; rfl
  · have hn : i - t.args.length < t.cls.length := by omega
    refine ⟨(((t.cls[i - t.args.length]).1, false), (t.cls[i - t.args.length]).2), List.mem_append_right _ (List.mem_map.2 ⟨_, List.getElem_mem hn, rfl⟩), ?_⟩
    rw [if_neg h, List.getD_eq_getElem?_getD, List.getElem?_eq_getElem hn]; rfl
theorem Vld.kid {P : Pg} {t : Tm} (h : Vld P t) {i : Nat} (hi : i < t.args.length + t.cls.length) : Vld P (kidT t i) := by
  obtain ⟨V, L, h⟩ := h
  rw [validT_kids] at h
  simp only [Bool.and_eq_true, List.all_eq_true] at h
  obtain ⟨x, hx, e⟩ := kid_mem hi
  have := h.2 x hx
  unfold validK at this
  simp only [Bool.and_eq_true] at this
  rw [← e]
  exact ⟨_, _, this.2⟩
end Go.Proofs.YtogmjgccopmplaaGreat

/- decl.go: Result. -/
namespace Go.Proofs.YtogmjgccopmplaaGreat
open Go.RowKit
theorem declared_out (v : Value) (l : List Decl) (t : Int) (w : World) (h : RDecls w v l) (ht : ¬ (1 ≤ t ∧ t ≤ l.length)) :
    Calls Tryz.prog 123 #[v, .int .i64 t] w fun e w' => e = .returned (.tuple #[.agg #[.string ⟨#[]⟩, .bool false, .slice none 0 0], .bool false]) ∧ Ext w w' := by
  obtain ⟨A, c, rfl, hc, hm⟩ := h.form
  clear h
  unfold maxLen at hm
  by_cases h1 : 1 ≤ t
  · have h2 : ¬ t ≤ l.length := fun h2 => ht ⟨h1, h2⟩
    clear ht
    go_enter Tryz.func123, Tryz.ntmps123
    go_wp2
    exact bodyPost_ret (v := .tuple #[.agg #[.string ⟨#[]⟩, .bool false, .slice none 0 0], .bool false]) (by simp [results, Tryz.results123, go_sem]) rfl ⟨rfl, (Ext.al _ _)⟩
  · clear ht
    go_enter Tryz.func123, Tryz.ntmps123
    go_wp2
    exact bodyPost_ret (v := .tuple #[.agg #[.string ⟨#[]⟩, .bool false, .slice none 0 0], .bool false]) (by simp [results, Tryz.results123, go_sem]) rfl ⟨rfl, (Ext.al _ _)⟩
theorem declared_in (v : Value) (l : List Decl) (t : Nat) (w : World) (h : RDecls w v l) (ht : t < l.length) :
    Calls Tryz.prog 123 #[v, .int .i64 (t + 1)] w fun e w' => (∃ va, e = .returned (.tuple #[.agg #[.string (l[t]).name, .bool (l[t]).codata, va], .bool true]) ∧ RXtors w va (l[t]).xtors) ∧ Ext w w' := by
  have HR := Lib.hid h
  obtain ⟨A, c, rfl, hc, hm⟩ := h.form
  clear h
  unfold maxLen at hm
  obtain ⟨b, o, vx, rfl, hbl, h0, h1, h2, h3, h4⟩ := HR.out.at_ ht
  generalize l[t] = d at *
  obtain ⟨A2, c2, rfl, -⟩ := h3.form
  have HX := Lib.hid h3; clear h3
  have e : ((t : Int) + 1 - 1) = t := by omega
  have hz : (w.alloc (Obj.cells #[.string ⟨#[]⟩, .bool false, .slice none 0 0] 72)).heap.size = w.heap.size + 1 := by simp
  go_enter Tryz.func123, Tryz.ntmps123
  go_wp2
  refine bodyPost_ret (v := .tuple #[.agg #[.string d.name, .bool d.codata, .slice A2 d.xtors.length c2], .bool true]) (by simp [results, Tryz.results123, go_sem]) rfl ⟨⟨_, rfl, HX.out⟩, (Ext.al _ _)⟩
theorem Result_any (v : Value) (l : List Decl) (t n : Int) (w : World) (h : RDecls w v l) :
    Calls Tryz.prog 94 #[v, .int .i64 t, .int .i64 n] w fun e w' => e = .returned (.tuple #[.int .i64 (resI l t n).1, .int .i64 (resI l t n).2]) ∧ Ext w w' := by
  have HB := Lib.hid (@resI_bad l t n)
  have HO := Lib.hid (@resI_out l t n)
  have HR := Lib.hid h
  generalize hrr : resI l t n = rr at *
  have HRR := Lib.hid hrr; clear hrr
  obtain ⟨A, c, rfl, hc, hm⟩ := h.form
  clear h
  unfold maxLen at hm
  go_enter Tryz.func94, Tryz.ntmps94
  go_wp2_with fail
  (with_reducible refine (valid_any _ _ _ HR.out).mono ?_)
  rintro e w1 ⟨rfl, hb⟩
  have HB1 := Lib.hid hb; clear hb
  have HR1 := Lib.hid (HR.out.below HB1.out)
  cases hq : validB l
  · have HQ := Lib.hid hq; clear hq
    go_wp2
    go_ret2
    exact ⟨by rw [HB.out HQ.out]; rfl, HB1.out⟩
  · have HQ := Lib.hid hq; clear hq
    by_cases hr : 1 ≤ t ∧ t ≤ l.length
    · obtain ⟨u, hu⟩ : ∃ u : Nat, t = u + 1 := ⟨(t - 1).toNat, by omega⟩
      subst hu
      have hul : u < l.length := by omega
      clear hr
      go_wp2_with fail
      (with_reducible refine (declared_in _ _ _ _ HR1.out hul).mono ?_)
      rintro e w2 ⟨⟨va, rfl, hx⟩, hb⟩
      have HB2 := Lib.hid (HB1.out.tr hb)
      obtain ⟨A2, c2, rfl, hc2, hm2⟩ := hx.form
      unfold maxLen at hm2
      have HX := Lib.hid (hx.below hb); clear hx hb
      cases hcd : (l[u]).codata
      · have HI := Lib.hid (resI_data (n := n) HQ.out hul hcd)
        clear hcd
        generalize l[u] = d at *
        go_wp2
        go_ret2
        exact ⟨by rw [← HRR.out, HI.out]; rfl, HB2.out.tr (Ext.al _ _)⟩
      · have HCD := Lib.hid hcd; clear hcd
        by_cases hn : 0 ≤ n ∧ n < (l[u]).xtors.length
        · obtain ⟨k, rfl⟩ := Int.eq_ofNat_of_zero_le hn.1
          have hk : k < (l[u]).xtors.length := by omega
          clear hn
          have HN := Lib.hid (resI_noend HQ.out hul hk)
          have HE := Lib.hid (resI_end HQ.out hul hk HCD.out)
          generalize l[u] = d at *
          obtain ⟨b2, o2, va, rfl, hbl2, g0, g1, g2, g3⟩ := HX.out.at_ hk
          generalize d.xtors[k] = x at *
          obtain ⟨A3, c3, rfl, hc3, hm3⟩ := g2.form
          unfold maxLen at hm3
          have HW := Lib.hid (Ext.al w2 (Obj.cells #[Value.string d.name, Value.bool true, Value.slice (some ⟨b2, o2, none⟩) d.xtors.length c2] 72))
          have HA := Lib.hid (g2.below HW.out); clear g2
          have g0 := HW.out.keep g0
          have g1 := HW.out.keep g1
          go_wp2_with fail
          (with_reducible refine (ends_any _ _ _ HA.out).mono ?_)
          rintro e w3 ⟨rfl, hb⟩
          have HA3 := Lib.hid (HA.out.below hb)
          have HB3 := Lib.hid ((HB2.out.tr HW.out).tr hb); clear hb
          cases he : endsB x.args
          · have HN2 := Lib.hid (HN.out he)
            clear he
            go_wp2
            go_ret2
            exact ⟨by rw [← HRR.out, HN2.out]; rfl, HB3.out⟩
          · have hp := endsB_pos he
            have HE2 := Lib.hid (HE.out he)
            have HLT := Lib.hid (lastTy_eq hp)
            clear he
            obtain ⟨b4, o4, rfl, hbl4, f0, f1⟩ := HA3.out.at_ (k := x.args.length - 1) (by omega)
            generalize x.args[x.args.length - 1] = a at *
            go_wp2
            go_ret2
            exact ⟨by rw [← HRR.out, HE2.out, HLT.out]; rfl, HB3.out⟩
        · have HI := Lib.hid (resI_none (n := n) HQ.out hul hn)
          generalize l[u] = d at *
          by_cases hn0 : 0 ≤ n
          all_goals
            have hn1 : n < 0 ∨ (d.xtors.length : Int) ≤ n := by omega
            clear hn
            go_wp2
            go_ret2
            exact ⟨by rw [← HRR.out, HI.out]; rfl, HB2.out.tr (Ext.al _ _)⟩
    · have HO2 := Lib.hid (HO.out HQ.out hr)
      go_wp2_with fail
      (with_reducible refine (declared_out _ _ _ _ HR1.out hr).mono ?_)
      rintro e w2 ⟨rfl, hb⟩
      have HB2 := Lib.hid (HB1.out.tr hb); clear hb
      clear hr
      go_wp2
      go_ret2
      exact ⟨by rw [HO2.out]; rfl, HB2.out.tr (Ext.al _ _)⟩
end Go.Proofs.YtogmjgccopmplaaGreat

/- rules.go: producers; ref.go: Producers. -/
namespace Go.Proofs.YtogmjgccopmplaaGreat
open Go.RowKit
def prodA (l : List Arg) : List Int := (l.filter fun a => !a.co).map Arg.ty
theorem prodA_step {l : List Arg} {j : Nat} (h : j < l.length) : prodA (l.take (j + 1)) = prodA (l.take j) ++ (if (l[j]).co then [] else [(l[j]).ty]) := by
  unfold prodA
  rw [List.take_succ_eq_append_getElem h, List.filter_append, List.map_append]
  cases h2 : (l[j]).co <;> simp [h2]
theorem prodA_le (l : List Arg) (j : Nat) : (prodA (l.take j)).length ≤ j := by
  unfold prodA
  rw [List.length_map]
  exact Nat.le_trans (List.length_filter_le _ _) (by simp; omega)
set_option maxHeartbeats 2000000 in
set_option maxRecDepth 100000 in
theorem prog_prods_any (nm : Str) (va : Value) (l : List Arg) (w : World) (h : RArgs w va l) (hl : l.length ≤ 1000) :
    Calls Tryz.prog 93 #[.agg #[.string nm, va]] w fun e w' => (∃ v, e = .returned v ∧ OwnL w' w.heap.size v (prodA l)) ∧ Ext w w' := by
  have H := Lib.hid h
  obtain ⟨A, c, rfl, hc, hm⟩ := h.form
  clear h
  unfold maxLen at hm
  have HE := Lib.hid (Ext.al w (.cells #[.string nm, .slice A l.length c] 67))
  have HB := Lib.hid (heapNew w (.cells #[.string nm, .slice A l.length c] 67))
  have c1 := cellAt HB.out 1
  go_enter Tryz.func93, Tryz.ntmps93
  go_wp2
  generalize w.alloc _ = w1 at *
  clear c1
  go_loopw [3, 9] (fun s i wr => ∃ (j : Nat), j ≤ l.length ∧ i = .int .i64 j ∧ OwnL wr w.heap.size s (prodA (l.take j)) ∧ Ext w wr) (fun _ i _ => l.length - (intOf i).toNat)
  case atStart => exact ⟨0, Nat.zero_le _, rfl, ⟨by simp [prodA], .inl ⟨rfl, by simp [prodA]⟩⟩, HE.out⟩
  case round =>
    obtain ⟨j, hj, rfl, ho, hb⟩ := hrel
    have HO := Lib.hid ho
    have HX := Lib.hid hb
    clear ho hb
    by_cases hlt : j < l.length
    · obtain ⟨b, o, rfl, hbl, y0, y1⟩ := H.out.at_ hlt
      have y0 := HX.out.keep y0
      have y1 := HX.out.keep y1
      have HPS := Lib.hid (prodA_step hlt)
      have HPL := Lib.hid (prodA_le l j)
      generalize l[j] = x at *
      obtain ⟨ty, co⟩ := x
      dsimp only at *
      cases co
      · have HE8 := Lib.hid (Ext.al2 wr (.cells #[.int .i64 ty, .bool false] 69) (.cells #[.int .i64 ty] 3))
        have hn8 := heapNew (wr.alloc (.cells #[.int .i64 ty, .bool false] 69)) (.cells #[.int .i64 ty] 3)
        rw [World.size_alloc] at hn8
        have HSO : Hid (SrcN _ (some ⟨wr.heap.size + 1, 0, none⟩) 1 1 [.int .i64 ty]) := .inr ⟨_, rfl, rfl, fun i u hu => by
          have hi : i < 1 := (List.getElem?_eq_some_iff.1 hu).1
          match i, hi with
          | 0, _ => rw [add_at]; exact cellAt hn8 0 hu⟩
        clear hn8
        go_wp2_with (at_builtin; refine app_vals Tryz.u57 Tryz.info3 rfl (by decide) (by decide) rfl _ _ rfl w.heap.size _ (prodA (l.take j)).length ((prodA (l.take j)).map (Value.int .i64)) rfl (own_below HO.out HE8.out) (some ⟨wr.heap.size + 1, 0, none⟩) 1 1 [.int .i64 ty] rfl HSO.out (fun u hu => by rw [List.mem_singleton.1 hu]; rfl) (by have := HPL.out; omega) (Nat.le_trans HX.out.size HE8.out.size) ?_)
        intro v9 w9 ho9 hg9
        have HX9 : Hid (Ext w w9) := (HX.out.tr HE8.out).trans (grown_ext' hg9 (own_below HO.out HE8.out) (Nat.le_trans HX.out.size HE8.out.size))
        have HO9 : Hid (OwnL w9 w.heap.size v9 (prodA (l.take (j + 1)))) := by
          show World.ownsRow _ _ _ _ _ _ _
          rw [HPS.out]
          simp only [Bool.false_eq_true, if_false, List.length_append, List.map_append]
          exact ho9
        clear ho9 hg9 y0 y1
        go_wp2
        exact ⟨⟨j + 1, by omega, by go_num, HO9.out, HX9.out⟩, by simp [intOf]; omega⟩
      · have HE8 := Lib.hid (Ext.al wr (.cells #[.int .i64 ty, .bool true] 69))
        have HO9 : Hid (OwnL (wr.alloc (.cells #[.int .i64 ty, .bool true] 69)) w.heap.size u3 (prodA (l.take (j + 1)))) := by
          show World.ownsRow _ _ _ _ _ _ _
          rw [HPS.out]
          simp only [if_true, List.append_nil]
          exact own_below HO.out HE8.out
        go_wp2
        exact ⟨⟨j + 1, by omega, by go_num, HO9.out, HX.out.tr HE8.out⟩, by simp [intOf]; omega⟩
    · have HV : Hid (OwnL wr w.heap.size u3 (prodA l)) := by
        have h1 := HO.out
        rw [List.take_of_length_le (by omega)] at h1
        exact h1
      obtain ⟨A', c', hv⟩ := own_shapeL HV.out
      subst hv
      go_wp2
      go_ret
      exact ⟨⟨_, rfl, HV.out⟩, HX.out⟩
set_option maxHeartbeats 2000000 in
set_option maxRecDepth 100000 in
theorem ref_prods_any (nm : Str) (va : Value) (l : List Arg) (w : World) (h : RArgs w va l) (hl : l.length ≤ 1000) :
    Calls Tryz.prog 83 #[.agg #[.string nm, va]] w fun e w' => (∃ v, e = .returned v ∧ OwnL w' w.heap.size v (prodA l)) ∧ Ext w w' := by
  have H := Lib.hid h
  obtain ⟨A, c, rfl, hc, hm⟩ := h.form
  clear h
  unfold maxLen at hm
  have HE := Lib.hid (Ext.al w (.cells #[.string nm, .slice A l.length c] 67))
  have HB := Lib.hid (heapNew w (.cells #[.string nm, .slice A l.length c] 67))
  have c1 := cellAt HB.out 1
  go_enter Tryz.func83, Tryz.ntmps83
  go_wp2
  generalize w.alloc _ = w1 at *
  clear c1
  go_loopw [3, 9] (fun s i wr => ∃ (j : Nat), j ≤ l.length ∧ i = .int .i64 j ∧ OwnL wr w.heap.size s (prodA (l.take j)) ∧ Ext w wr) (fun _ i _ => l.length - (intOf i).toNat)
  case atStart => exact ⟨0, Nat.zero_le _, rfl, ⟨by simp [prodA], .inl ⟨rfl, by simp [prodA]⟩⟩, HE.out⟩
  case round =>
    obtain ⟨j, hj, rfl, ho, hb⟩ := hrel
    have HO := Lib.hid ho
    have HX := Lib.hid hb
    clear ho hb
    by_cases hlt : j < l.length
    · obtain ⟨b, o, rfl, hbl, y0, y1⟩ := H.out.at_ hlt
      have y0 := HX.out.keep y0
      have y1 := HX.out.keep y1
      have HPS := Lib.hid (prodA_step hlt)
      have HPL := Lib.hid (prodA_le l j)
      generalize l[j] = x at *
      obtain ⟨ty, co⟩ := x
      dsimp only at *
      cases co
      · have HE8 := Lib.hid (Ext.al2 wr (.cells #[.int .i64 ty, .bool false] 69) (.cells #[.int .i64 ty] 3))
        have hn8 := heapNew (wr.alloc (.cells #[.int .i64 ty, .bool false] 69)) (.cells #[.int .i64 ty] 3)
        rw [World.size_alloc] at hn8
        have HSO : Hid (SrcN _ (some ⟨wr.heap.size + 1, 0, none⟩) 1 1 [.int .i64 ty]) := .inr ⟨_, rfl, rfl, fun i u hu => by
          have hi : i < 1 := (List.getElem?_eq_some_iff.1 hu).1
          match i, hi with
          | 0, _ => rw [add_at]; exact cellAt hn8 0 hu⟩
        clear hn8
        go_wp2_with (at_builtin; refine app_vals Tryz.u57 Tryz.info3 rfl (by decide) (by decide) rfl _ _ rfl w.heap.size _ (prodA (l.take j)).length ((prodA (l.take j)).map (Value.int .i64)) rfl (own_below HO.out HE8.out) (some ⟨wr.heap.size + 1, 0, none⟩) 1 1 [.int .i64 ty] rfl HSO.out (fun u hu => by rw [List.mem_singleton.1 hu]; rfl) (by have := HPL.out; omega) (Nat.le_trans HX.out.size HE8.out.size) ?_)
        intro v9 w9 ho9 hg9
        have HX9 : Hid (Ext w w9) := (HX.out.tr HE8.out).trans (grown_ext' hg9 (own_below HO.out HE8.out) (Nat.le_trans HX.out.size HE8.out.size))
        have HO9 : Hid (OwnL w9 w.heap.size v9 (prodA (l.take (j + 1)))) := by
          show World.ownsRow _ _ _ _ _ _ _
          rw [HPS.out]
          simp only [Bool.false_eq_true, if_false, List.length_append, List.map_append]
          exact ho9
        clear ho9 hg9 y0 y1
        go_wp2
        exact ⟨⟨j + 1, by omega, by go_num, HO9.out, HX9.out⟩, by simp [intOf]; omega⟩
      · have HE8 := Lib.hid (Ext.al wr (.cells #[.int .i64 ty, .bool true] 69))
        have HO9 : Hid (OwnL (wr.alloc (.cells #[.int .i64 ty, .bool true] 69)) w.heap.size u3 (prodA (l.take (j + 1)))) := by
          show World.ownsRow _ _ _ _ _ _ _
          rw [HPS.out]
          simp only [if_true, List.append_nil]
          exact own_below HO.out HE8.out
        go_wp2
        exact ⟨⟨j + 1, by omega, by go_num, HO9.out, HX.out.tr HE8.out⟩, by simp [intOf]; omega⟩
    · have HV : Hid (OwnL wr w.heap.size u3 (prodA l)) := by
        have h1 := HO.out
        rw [List.take_of_length_le (by omega)] at h1
        exact h1
      obtain ⟨A', c', hv⟩ := own_shapeL HV.out
      subst hv
      go_wp2
      go_ret
      exact ⟨⟨_, rfl, HV.out⟩, HX.out⟩
end Go.Proofs.YtogmjgccopmplaaGreat

/- visit.go: visit. -/
namespace Go.Proofs.YtogmjgccopmplaaGreat
open Go.RowKit
/-- The checker with its rules. -/
structure RCkR (w : World) (g : Nat) (P : Pg) : Prop where
  base : RCk w g P
  rules : ∀ o : Nat, o ≤ 12 → w.cell? ⟨g, 2 + o, none⟩ = some (.func (.func (ruleN o)) #[.pointer (some ⟨g, 0, none⟩)] #[])
theorem RCkR.below {w w' : World} {g : Nat} {P : Pg} (h : RCkR w g P) (hb : Ext w w') : RCkR w' g P :=
  ⟨h.base.below hb, fun o ho => hb.keep (h.rules o ho)⟩
theorem enter_of {P : Program} {f : FuncId} {fn : Func} {args : Array Value} {w : World} (h : P.funcs[f]? = some fn) (hn : (fn.name == "runtime.NumGoroutine") = false) (hb : fn.body.isNone = false) : Sem.run P (callFunc f args) w = .ok (.enter f args) w := by
  have hn' : fn.name ≠ "runtime.NumGoroutine" := fun e => by rw [e] at hn; simp at hn
  have hb' : fn.body ≠ none := fun e => by rw [e] at hb; simp at hb
  simp [callFunc, go_sem, h, hn', hb']
set_option maxRecDepth 100000 in
theorem rule_enter (o : Nat) (h : o ≤ 12) (args : Array Value) (w : World) : Sem.run Tryz.prog (callFunc (ruleN o) args) w = .ok (.enter (ruleN o) args) w := by
  match o, h with
  | 0, _ => exact enter_of Tryz.func55 (by decide) rfl
  | 1, _ => exact enter_of Tryz.func56 (by decide) rfl
  | 2, _ => exact enter_of Tryz.func57 (by decide) rfl
  | 3, _ => exact enter_of Tryz.func58 (by decide) rfl
  | 4, _ => exact enter_of Tryz.func59 (by decide) rfl
  | 5, _ => exact enter_of Tryz.func60 (by decide) rfl
  | 6, _ => exact enter_of Tryz.func59 (by decide) rfl
  | 7, _ => exact enter_of Tryz.func61 (by decide) rfl
  | 8, _ => exact enter_of Tryz.func62 (by decide) rfl
  | 9, _ => exact enter_of Tryz.func63 (by decide) rfl
  | 10, _ => exact enter_of Tryz.func64 (by decide) rfl
  | 11, _ => exact enter_of Tryz.func65 (by decide) rfl
  | 12, _ => exact enter_of Tryz.func66 (by decide) rfl
theorem okR_nil {c : Bool} {y : Int} {p : List Int} (h : okR c y = .inl p) : p = [] := by
  unfold okR at h; cases c <;> simp at h; first | exact h | exact h.symm
theorem ruleS_nil {P : Pg} {V L : Env} {op n : Int} {nm : Str} {ty : Int} {ps p : List Int} (h : ruleS P V L op n nm ty ps = .inl p) : p = [] := by
  unfold ruleS at h
  by_cases h0 : op = 0
  · rw [if_pos h0] at h
    cases hq : findE V nm with
    | none => rw [hq] at h; exact (Sum.inl.inj h).symm
    | some y => rw [hq] at h; cases h
  rw [if_neg h0] at h
  by_cases h1 : op = 1
  · rw [if_pos h1] at h; cases h
  rw [if_neg h1] at h
  by_cases h2 : op = 2
  · rw [if_pos h2] at h; exact okR_nil h
  rw [if_neg h2] at h
  by_cases h3 : op = 3
  · rw [if_pos h3] at h; exact okR_nil h
  rw [if_neg h3] at h
  by_cases h4 : op = 4
  · rw [if_pos h4] at h; exact okR_nil h
  rw [if_neg h4] at h
  by_cases h5 : op = 5
  · rw [if_pos h5] at h; exact okR_nil h
  rw [if_neg h5] at h
  by_cases h6 : op = 6
  · rw [if_pos h6] at h; exact okR_nil h
  rw [if_neg h6] at h
  by_cases h7 : op = 7
  · rw [if_pos h7] at h; exact okR_nil h
  rw [if_neg h7] at h
  by_cases h8 : op = 8
  · rw [if_pos h8] at h; exact okR_nil h
  rw [if_neg h8] at h
  by_cases h9 : op = 9
  · rw [if_pos h9] at h; exact okR_nil h
  rw [if_neg h9] at h
  by_cases h10 : op = 10
  · rw [if_pos h10] at h; exact okR_nil h
  rw [if_neg h10] at h
  by_cases h11 : op = 11
  · rw [if_pos h11] at h; exact okR_nil h
  rw [if_neg h11] at h
  cases hq : findE L nm with
  | none => rw [hq] at h; exact (Sum.inl.inj h).symm
  | some y => rw [hq] at h; exact okR_nil h
def VisR (B : Nat) (w' : World) (k : Nat) (r : TyR) (e : Ending) : Prop := match r with
  | .inr y => e = .returned (.tuple #[.int .i64 y, .slice none 0 0, .bool true])
  | .inl p => p.length ≤ k ∧ ∃ y vp, e = .returned (.tuple #[.int .i64 y, vp, .bool false]) ∧ OwnL w' B vp p
theorem own_single {w : World} {B : Nat} (hB : B ≤ w.heap.size) (y : Int) : (w.alloc (.cells #[.int .i64 y] 3)).ownsRow B 3 1 (.slice (some ⟨w.heap.size, 0, none⟩) 1 1) ([y] : List Int).length (([y] : List Int).map (Value.int .i64)) :=
  ⟨rfl, .inr ⟨w.heap.size, 1, #[.int .i64 y], rfl, hB, heapNew w _, Nat.le_refl _, by decide, rfl, rfl⟩⟩
theorem RInts.src {w : World} {A : Option Addr} {c : Nat} {l : List Int} (h : RInts w (.slice A l.length c) l) : SrcN w A l.length 1 (l.map (Value.int .i64)) := by
  cases A with
  | none =>
    cases l with
    | nil => exact .inl ⟨rfl, rfl, rfl⟩
    | cons a r =>
      obtain ⟨_, _, hA, _⟩ := h.at_ (k := 0) (by simp)
      cases hA
  | some ad =>
    refine .inr ⟨ad, rfl, by simp, fun j u hu => ?_⟩
    rw [List.getElem?_map] at hu
    obtain ⟨s, hs, rfl⟩ := Option.map_eq_some_iff.1 hu
    obtain ⟨hlt, rfl⟩ := List.getElem?_eq_some_iff.1 hs
    obtain ⟨b, o, hA, _, c0⟩ := h.at_ hlt
    cases hA
    rw [add_at]; exact c0
theorem ints_one (l : List Int) : ∀ u ∈ l.map (Value.int .i64), u.oneCell' = true := by
  intro u hu
  obtain ⟨s, _, rfl⟩ := List.mem_map.1 hu
  rfl
set_option pp.deepTerms true in
set_option maxHeartbeats 8000000 in
set_option maxRecDepth 100000 in
theorem visit4_any (gc : Nat) (P : Pg) (hB : PB P) (hS : ∀ t, fitsT P t = true → t.args.length + t.cls.length ≤ 1000000) : ∀ (k : Nat) (V L : Env) (pv pl : Value) (t : Tm) (ux uc : Value) (w : World), k ≤ 1000000 → RB w V pv → RB w L pl → RT w k t ux uc → RCkR w gc P → Vld P t →
    Calls Tryz.prog 32 #[.pointer (some ⟨gc, 0, none⟩), scV pv pl, tV t ux uc] w fun e w' => VisR w.heap.size w' k (tyT P V L t) e ∧ Ext w w' := by
  intro k
  have HBP := Lib.hid hB; have HSP := Lib.hid hS
  clear hB hS
  have hmx : Tryz.prog.follows .mixedOrders = true := by kernel_rfl
  induction k with
  | zero => intro V L pv pl t ux uc w _ _ _ ht; exact ht.elim
  | succ k ih =>
    intro V L pv pl t ux uc w hkm hV hL ht hk hvd
    have HV := Lib.hid hV; have HL := Lib.hid hL; have HT := Lib.hid ht; have HCK := Lib.hid hk; have HVD := Lib.hid hvd; have HIH := Lib.hid ih
    obtain ⟨qv, rfl⟩ := hV.form
    obtain ⟨ql, rfl⟩ := hL.form
    obtain ⟨_, ⟨Aa, ca, rfl, hca, hma⟩, ⟨Bb, cb, rfl, hcb, hmb⟩⟩ := ht.form
    have hsz := HSP.out t hvd.fits
    clear hV hL ht hk hvd ih
    unfold maxLen at hma hmb
    have HE := Lib.hid (Ext.al2 w (.cells #[.pointer qv, .pointer ql] 81) (.cells #[.int .i64 t.op, .int .i64 t.n, .string t.nm, .int .i64 t.ty, .slice Aa t.args.length ca, .slice Bb t.cls.length cb] 41))
    obtain ⟨hb1, hb2⟩ := box_st w (.pointer qv) (.pointer ql) (.int .i64 t.op) (.int .i64 t.n) (.string t.nm) (.int .i64 t.ty) (.slice Aa t.args.length ca) (.slice Bb t.cls.length cb)
    have HB1 := Lib.hid hb1; have HB2 := Lib.hid hb2
    clear hb1 hb2
    have n4 := cellAt HB2.out 4
    have n5 := cellAt HB2.out 5
    obtain ⟨rT, hrT⟩ : ∃ r, tyT P V L t = r := ⟨_, rfl⟩
    have HRT : Hid (rT = match tyK P V L t 0 (t.args.length + t.cls.length) with | .inl p => .inl p | .inr ps => ruleS P V L t.op t.n t.nm t.ty ps) := hrT.symm.trans (tyT_kids P V L t)
    rw [hrT]
    clear hrT
    go_enter Tryz.func32, Tryz.ntmps32
    go_wp2
    generalize World.alloc (World.alloc w _) _ = w1 at *
    clear n4 n5
    go_loopw [9, 23] (fun s i wr => ∃ (j : Nat) (ps : List Int), j ≤ t.args.length + t.cls.length ∧ i = .int .i64 j ∧ tyK P V L t 0 j = .inr ps ∧ OwnL wr w1.heap.size s ps ∧ Ext w1 wr) (fun _ i _ => t.args.length + t.cls.length - (intOf i).toNat)
    case atStart => exact ⟨0, [], Nat.zero_le _, rfl, rfl, ⟨by simp, .inl ⟨rfl, by simp⟩⟩, Ext.rf _⟩
    case round =>
      obtain ⟨j, ps, hj, rfl, hty, ho, hb⟩ := hrel
      have HTY := Lib.hid hty; have HO := Lib.hid ho; have HX := Lib.hid hb; have HXW := Lib.hid (HE.out.tr hb)
      have HPL := Lib.hid (tyK_len _ _ _ _ _ _ _ hty)
      clear hty ho hb
      have b0 := HX.out.keep (cellAt HB1.out 0)
      have b1 := HX.out.keep (cellAt HB1.out 1)
      have n0 := HX.out.keep (cellAt HB2.out 0)
      have n1 := HX.out.keep (cellAt HB2.out 1)
      have n2 := HX.out.keep (cellAt HB2.out 2)
      have n3 := HX.out.keep (cellAt HB2.out 3)
      have n4 := HX.out.keep (cellAt HB2.out 4)
      have n5 := HX.out.keep (cellAt HB2.out 5)
      by_cases hlt : j < t.args.length + t.cls.length
      · go_wp2_with fail
        (with_reducible refine (child_any gc P V L _ _ k t _ _ j _ (HV.out.below HXW.out) (HL.out.below HXW.out) (HT.out.below HXW.out) (HCK.out.base.below HXW.out) HVD.out.fits HBP.out hlt (by omega)).mono ?_)
        rintro e w2 ⟨⟨xa, xc, qv2, ql2, rfl, ht2, hv2, hl2⟩, hb⟩
        have HT2 := Lib.hid ht2; have HV2 := Lib.hid hv2; have HL2 := Lib.hid hl2; have HX2 := Lib.hid hb; have HXW2 := Lib.hid (HXW.out.tr hb)
        obtain ⟨pv2, rfl⟩ := hv2.form
        obtain ⟨pl2, rfl⟩ := hl2.form
        obtain ⟨_, ⟨Ax, cx, rfl, -, -⟩, ⟨Bx, dx, rfl, -, -⟩⟩ := ht2.form
        have HVK := Lib.hid (HVD.out.kid hlt)
        have HST := Lib.hid (tyK_step P V L t 0 j)
        clear ht2 hv2 hl2 hb b0 b1 n0 n1 n2 n3 n4 n5
        generalize hx : kidT t j = x at *
        generalize hV2 : (kidE P V L t j).1 = V2 at *
        generalize hL2 : (kidE P V L t j).2 = L2 at *
        have HKT := Lib.hid hx; have HKV := Lib.hid hV2; have HKL := Lib.hid hL2
        clear hx hV2 hL2
        go_wp2_with fail
        have HE3 := Lib.hid (Ext.al2 w2 (Obj.cells #[.int .i64 x.op, .int .i64 x.n, .string x.nm, .int .i64 x.ty, .slice Ax x.args.length cx, .slice Bx x.cls.length dx] 41) (Obj.cells #[.pointer pv2, .pointer pl2] 81))
        (with_reducible refine (HIH.out V2 L2 (.pointer pv2) (.pointer pl2) x _ _ _ (by omega) (HV2.out.below HE3.out) (HL2.out.below HE3.out) (HT2.out.below HE3.out) (HCK.out.below (HXW2.out.tr HE3.out)) HVK.out).mono ?_)
        rintro e w4 ⟨hr, hb⟩
        have HX4 := Lib.hid (HE3.out.tr hb)
        have HXW4 := Lib.hid (HXW2.out.tr (HE3.out.tr hb))
        have HX14 := Lib.hid ((HX.out.tr HX2.out).tr (HE3.out.tr hb))
        have hbase : w.heap.size ≤ ((w2.alloc (Obj.cells #[.int .i64 x.op, .int .i64 x.n, .string x.nm, .int .i64 x.ty, .slice Ax x.args.length cx, .slice Bx x.cls.length dx] 41)).alloc (Obj.cells #[.pointer pv2, .pointer pl2] 81)).heap.size := (HXW2.out.tr HE3.out).size
        generalize ((w2.alloc (Obj.cells #[.int .i64 x.op, .int .i64 x.n, .string x.nm, .int .i64 x.ty, .slice Ax x.args.length cx, .slice Bx x.cls.length dx] 41)).alloc (Obj.cells #[.pointer pv2, .pointer pl2] 81)).heap.size = B3 at hr hbase
        clear hb
        obtain ⟨rx, hrx⟩ : ∃ r, tyT P V2 L2 x = r := ⟨_, rfl⟩
        have HRX := Lib.hid hrx
        rw [hrx] at hr
        clear hrx
        cases rx with
        | inr y =>
          have hr : e = .returned (.tuple #[.int .i64 y, .slice none 0 0, .bool true]) := hr
          subst hr
          have HO4 : Hid (OwnL (w4.alloc (.cells #[.int .i64 y] 3)) w1.heap.size u9 ps) := own_below (own_below HO.out (HX2.out.tr HX4.out)) (Ext.al _ _)
          have hso : SrcN (w4.alloc (.cells #[.int .i64 y] 3)) (some ⟨w4.heap.size, 0, none⟩) ([y] : List Int).length 1 (([y] : List Int).map (Value.int .i64)) := RInts.src (l := [y]) (c := 1) (own_ints (own_single (B := 0) (Nat.zero_le _) y))
          have HSO : Hid (SrcN (w4.alloc (.cells #[.int .i64 y] 3)) (some ⟨w4.heap.size, 0, none⟩) 1 1 [.int .i64 y]) := Lib.hid hso
          clear hso
          go_wp2_with (at_builtin; refine app_vals Tryz.u57 Tryz.info3 rfl (by decide) (by decide) rfl _ _ rfl w1.heap.size _ ps.length (ps.map (Value.int .i64)) rfl HO4.out (some ⟨w4.heap.size, 0, none⟩) 1 1 [.int .i64 y] rfl HSO.out (fun u hu => by rw [List.mem_singleton.1 hu]; rfl) (by have := HPL.out; omega) (Nat.le_trans HX14.out.size (Ext.al w4 _).size) ?_)
          intro v9 w9 ho9 hg9
          have HX9 : Hid (Ext w1 w9) := (HX14.out.tr (Ext.al _ _)).trans (grown_ext' hg9 HO4.out (Nat.le_trans HX14.out.size (Ext.al w4 _).size))
          have HO9 : Hid (OwnL w9 w1.heap.size v9 (ps ++ [y])) := by
            show World.ownsRow _ _ _ _ _ _ _
            rw [List.length_append, List.map_append]
            exact ho9
          have HTY9 : Hid (tyK P V L t 0 (j + 1) = .inr (ps ++ [y])) := by
            show _ = _
            rw [HST.out, HTY.out]
            simp only [Nat.zero_add]
            rw [HKT.out, HKV.out, HKL.out, HRX.out]
          clear ho9 hg9
          go_wp2
          exact ⟨⟨j + 1, ps ++ [y], by omega, by go_num, HTY9.out, HO9.out, HX9.out⟩, by simp [intOf]; omega⟩
        | inl p =>
          obtain ⟨hpl, y, vp, he, hown⟩ := hr
          subst he
          obtain ⟨A', c', hv⟩ := own_shapeL hown
          subst hv
          have hso : SrcN (w4.alloc (.cells #[.int .i64 j] 3)) A' p.length 1 (p.map (Value.int .i64)) := ((own_ints hown).below (Ext.al _ _)).src
          have HSO := Lib.hid hso
          clear hso
          have HPB := Lib.hid hpl
          have HSG := Lib.hid (own_single (w := w4) (B := w.heap.size) HXW4.out.size (j : Int))
          clear hown
          go_wp2_with (at_builtin; refine app_vals Tryz.u57 Tryz.info3 rfl (by decide) (by decide) rfl _ _ rfl w.heap.size _ ([(j : Int)] : List Int).length (([(j : Int)] : List Int).map (Value.int .i64)) rfl HSG.out A' p.length c' (p.map (Value.int .i64)) rfl HSO.out (ints_one p) (by simp; omega) (Nat.le_trans HXW4.out.size (Ext.al w4 _).size) ?_)
          intro v9 w9 ho9 hg9
          have HX9 : Hid (Ext w w9) := (HXW4.out.tr (Ext.al _ _)).trans (grown_ext' hg9 HSG.out (Nat.le_trans HXW4.out.size (Ext.al w4 _).size))
          have HO9 : Hid (OwnL w9 w.heap.size v9 ((j : Int) :: p)) := by
            show World.ownsRow _ _ _ _ _ _ _
            rw [List.length_cons, Nat.add_comm]
            exact ho9
          have hrt : rT = .inl ((j : Int) :: p) := by
            have h1 : tyK P V L t 0 (j + 1) = .inl ((j : Int) :: p) := by
              rw [HST.out, HTY.out]
              simp only [Nat.zero_add]
              rw [HKT.out, HKV.out, HKL.out, HRX.out]
            rw [HRT.out, tyK_bad P V L t (j + 1) (t.args.length + t.cls.length) 0 _ (by omega) h1]
          have HRTE := Lib.hid hrt
          clear ho9 hg9 hrt
          go_wp2
          go_ret3
          rw [HRTE.out]
          exact ⟨⟨by have := HPB.out; simp; omega, _, _, rfl, HO9.out⟩, HX9.out⟩
      · go_upto_region 11 with fail
        have hje : j = t.args.length + t.cls.length := by omega
        subst hje
        obtain ⟨o, hop, ho12⟩ := fits_op HVD.out.fits
        obtain ⟨A', c', hv⟩ := own_shapeL HO.out
        subst hv
        obtain ⟨y, b, hag, hcall⟩ := rule_any gc P V L (.pointer qv) (.pointer ql) (k + 1) t _ _ _ ps wr (HV.out.below HXW.out) (HL.out.below HXW.out) (HT.out.below HXW.out) (HCK.out.base.below HXW.out) (own_ints HO.out) HVD.out.fits HBP.out (HPL.out) o hop ho12
        have r0 := ExtOf.cell ((HCK.out.below HXW.out).rules o ho12)
        have HOP := Lib.hid hop
        rw [hop] at n0
        have b0 := ExtOf.cell b0
        have b1 := ExtOf.cell b1
        have n0 := ExtOf.cell n0
        have n1 := ExtOf.cell n1
        have n2 := ExtOf.cell n2
        have n3 := ExtOf.cell n3
        have n4 := ExtOf.cell n4
        have n5 := ExtOf.cell n5
        simp only [tV, hop] at hcall
        refine wp_region_ext (w0 := wr) hmx (by kernel_rfl) (Ext.rf _) ?_
        repeat (first | go_big_quiet_step ((rw [rule_enter o ho12]; exact ⟨rfl, Calls.ext_of (hcall _ (ExtOf.ext _))⟩)) | quiet_step ((rw [rule_enter o ho12]; exact ⟨rfl, Calls.ext_of (hcall _ (ExtOf.ext _))⟩)))
        refine wpQuiet_nil ?_
        rintro _ ⟨⟨w9, hx⟩, rfl⟩
        have HX9 := Lib.hid (HXW.out.tr hx)
        have hrt : rT = ruleS P V L t.op t.n t.nm t.ty ps := by rw [HRT.out, HTY.out]
        have HRTE := Lib.hid hrt
        have HAG := Lib.hid hag
        clear hx hcall r0 b0 b1 n0 n1 n2 n3 n4 n5 hrt hag
        go_wp2
        go_ret3
        have hag := HAG.out
        rw [← HRTE.out] at hag
        cases rT with
        | inr z =>
          obtain ⟨rfl, rfl⟩ := hag
          exact ⟨rfl, HX9.out⟩
        | inl p =>
          have hb : b = false := hag
          subst hb
          have hp : p = [] := by
            have := HRTE.out
            exact ruleS_nil this.symm
          subst hp
          exact ⟨⟨Nat.zero_le _, _, _, rfl, ⟨by simp, .inl ⟨rfl, by simp⟩⟩⟩, HX9.out⟩
end Go.Proofs.YtogmjgccopmplaaGreat
