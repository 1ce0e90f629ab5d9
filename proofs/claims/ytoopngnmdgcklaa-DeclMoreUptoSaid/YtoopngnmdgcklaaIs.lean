import Derived.Test.YtoopngnmdgcklaaRef
namespace Go.Proofs.Ytoopngnmdgcklaa
open Go.RowKit

/-! ### the reference's validity -/
def prevB (P : List Decl) (nm : ByteArray) : Bool := P.any fun e => e.name.toList == nm.toList
def isX (t : Int) (X : List ByteArray) (x : Xtor) : Bool := xtorB x.name && decide (x.args.length ≤ 6) && !hasS X x.name && x.args.all (okTy t)
def isXs (t : Int) : List ByteArray → List Xtor → Bool
  | _, [] => true
  | X, x :: r => isX t X x && isXs t (X ++ [x.name]) r
def isD (t : Int) (P : List Decl) (X : List ByteArray) (d : Decl) : Bool := nameB d.name && decide (1 ≤ d.xtors.length ∧ d.xtors.length ≤ 6) && !prevB P d.name && isXs t X d.xtors
def isDs (t : Int) : List Decl → List ByteArray → List Decl → Bool
  | _, _, [] => true
  | P, X, d :: r => isD t P X d && isDs t (P ++ [d]) (addXs X d.xtors) r
def isB (l : List Decl) : Bool := decide (l.length ≤ 8) && isDs l.length [] [] l
theorem isB_bad {l : List Decl} (h : ¬ l.length ≤ 8) : isB l = false := by simp [isB, h]
theorem isB_good {l : List Decl} (h : l.length ≤ 8) : isB l = isDs l.length [] [] l := by simp [isB, h]
theorem isDs_cons (t : Int) (P : List Decl) (X : List ByteArray) (d : Decl) (r : List Decl) : isDs t P X (d :: r) = (isD t P X d && isDs t (P ++ [d]) (addXs X d.xtors) r) := rfl
theorem isXs_cons (t : Int) (X : List ByteArray) (x : Xtor) (r : List Xtor) : isXs t X (x :: r) = (isX t X x && isXs t (X ++ [x.name]) r) := rfl
theorem isD_bad1 {t : Int} {P : List Decl} {X : List ByteArray} {d : Decl} (h : nameB d.name = false) : isD t P X d = false := by simp [isD, h]
theorem isD_bad2 {t : Int} {P : List Decl} {X : List ByteArray} {d : Decl} (h : ¬ (1 ≤ d.xtors.length ∧ d.xtors.length ≤ 6)) : isD t P X d = false := by unfold isD; rw [decide_eq_false h]; simp
theorem isD_bad3 {t : Int} {P : List Decl} {X : List ByteArray} {d : Decl} (h : prevB P d.name = true) : isD t P X d = false := by simp [isD, h]
theorem isD_good {t : Int} {P : List Decl} {X : List ByteArray} {d : Decl} (h1 : nameB d.name = true) (h2 : 1 ≤ d.xtors.length ∧ d.xtors.length ≤ 6) (h3 : prevB P d.name = false) : isD t P X d = isXs t X d.xtors := by simp [isD, h1, h2.1, h2.2, h3]
theorem isX_bad1 {t : Int} {X : List ByteArray} {x : Xtor} (h : xtorB x.name = false) : isX t X x = false := by simp [isX, h]
theorem isX_bad2 {t : Int} {X : List ByteArray} {x : Xtor} (h : ¬ x.args.length ≤ 6) : isX t X x = false := by simp [isX, h]
theorem isX_bad3 {t : Int} {X : List ByteArray} {x : Xtor} (h : hasS X x.name = true) : isX t X x = false := by simp [isX, h]
theorem isX_good {t : Int} {X : List ByteArray} {x : Xtor} (h1 : xtorB x.name = true) (h2 : x.args.length ≤ 6) (h3 : hasS X x.name = false) : isX t X x = x.args.all (okTy t) := by simp [isX, h1, h2, h3]
theorem hasS_cons (s : ByteArray) (S : List ByteArray) (k : ByteArray) : hasS (s :: S) k = ((k.toList == s.toList) || hasS S k) := rfl
theorem prevB_cons (e : Decl) (P : List Decl) (k : ByteArray) : prevB (e :: P) k = ((e.name.toList == k.toList) || prevB P k) := rfl
theorem okTy_bad' {t : Int} {a : Arg} (h : a.ty < 0 ∨ t < a.ty) : okTy t a = false := by simp [okTy]; omega
theorem okTy_good' {t : Int} {a : Arg} (h : 0 ≤ a.ty) (h2 : a.ty ≤ t) : okTy t a = true := by simp [okTy]; omega

/-- What the call owns stays so where all that was there is as it was. -/
theorem own_ext {w w' : World} {base : Nat} {e : TypeId} {size : Nat} {v : Value} {n : Nat} {xs : List Value} (h : w.ownsRow base e size v n xs) (hb : Ext w w') : w'.ownsRow base e size v n xs := by
  obtain ⟨h1, h2⟩ := h
  refine ⟨h1, ?_⟩
  rcases h2 with h2 | ⟨g, cap, cur, e1, e2, e3, e4⟩
  · exact .inl h2
  · exact .inr ⟨g, cap, cur, e1, e2, (hb.block g (Array.getElem?_eq_some_iff.1 e3).1).trans e3, e4⟩
theorem own_form {w : World} {base : Nat} {e : TypeId} {size : Nat} {v : Value} {n : Nat} {xs : List Value} (h : w.ownsRow base e size v n xs) : ∃ A c, v = .slice A n c ∧ n ≤ c ∧ c ≤ maxLen ∧ ∀ j u, xs[j]? = some u → ∃ g, A = some ⟨g, 0, none⟩ ∧ g < w.heap.size ∧ base ≤ g ∧ w.cell? ⟨g, j, none⟩ = some u := by
  rcases h.2 with ⟨rfl, rfl⟩ | ⟨g, cap, cur, rfl, e2, e3, e4, e5, e6, e7⟩
  · refine ⟨none, 0, rfl, Nat.le_refl _, by unfold maxLen; omega, fun j u hu => ?_⟩
    have h1 := h.1
    rw [Nat.zero_mul] at h1
    rw [List.eq_nil_of_length_eq_zero h1] at hu
    simp at hu
  · refine ⟨_, _, rfl, e4, e5, fun j u hu => ⟨g, rfl, (Array.getElem?_eq_some_iff.1 e3).1, e2, ?_⟩⟩
    have hj : j < xs.length := by
      rcases Nat.lt_or_ge j xs.length with h1 | h1
      · exact h1
      · rw [List.getElem?_eq_none h1] at hu; cases hu
    rw [World.ownsRow.cellAt h j (by rw [← h.1]; exact hj)]
    exact hu
theorem Try.info9 : (Try.prog.info? 9).map (fun i => (i.zero, i.size, i.bytes)) = some (some (.string ⟨#[]⟩), 1, 16) := by kernel_rfl

set_option maxHeartbeats 2000000 in
set_option maxRecDepth 100000 in
theorem Is_any (v : Value) (l : List Decl) (w : World) (h : RDecls w v l) :
    Calls Try.prog 12 #[v] w fun e w' => e = .returned (.bool (isB l)) ∧ Ext w w' := by
  obtain ⟨i0, hi, hz0, hz1, hz2⟩ := info_parts Try.info9
  have HI := Lib.hid hi; have HZ0 := Lib.hid hz0; have HZ1 := Lib.hid hz1; have HZ2 := Lib.hid hz2; clear hi hz0 hz1 hz2
  have HB := Lib.hid (@isB_bad l)
  have HG := Lib.hid (@isB_good l)
  generalize hrr : isB l = rr at *
  clear hrr
  have HR := Lib.hid h
  obtain ⟨A, c, rfl, hc, hm⟩ := h.form
  clear h
  unfold maxLen at hm
  go_enter Try.func12, Try.ntmps12
  by_cases h8 : l.length ≤ 8
  · have HG := Lib.hid (HG.out h8)
    go_wp2
    go_loopw [3, 19] (fun xv i wr => ∃ (k : Nat) (X : List ByteArray), k ≤ l.length ∧ i = .int .i64 k ∧ wr.ownsRow w.heap.size 9 1 xv X.length (X.map Value.string) ∧ X.length ≤ 6 * k ∧ Below w.heap.size w wr ∧ isDs l.length [] [] l = isDs l.length (l.take k) X (l.drop k)) (fun _ i _ => l.length - (intOf i).toNat)
    case atStart => exact ⟨0, [], Nat.zero_le _, rfl, World.ownsRow_nil _ _ _ _, by simp, Below.refl _ _, rfl⟩
    case round =>
      obtain ⟨k, X, hk, rfl, hown, hX6, hb, hno⟩ := hrel
      obtain ⟨wo, rfl⟩ : ∃ wo : World, wo = wr := ⟨_, rfl⟩
      have HN := Lib.hid hno; have HB1 := Lib.hid hb; have HO := Lib.hid hown; clear hno hb hown
      by_cases hlt : k < l.length
      · obtain ⟨b, o, vx, rfl, hbl, h0, h1, h2, h3, h4⟩ := HR.out.at_ hlt
        have HD := Lib.hid (drop_step hlt)
        have HT : Hid (l.take k ++ [l[k]] = l.take (k + 1)) := (List.take_succ_eq_append_getElem hlt).symm
        have HRt := Lib.hid (HR.out.take (n := k) (by omega))
        have h0 := (HB1.out.cell hbl).trans h0
        have h1 := (HB1.out.cell hbl).trans h1
        have h2 := (HB1.out.cell hbl).trans h2
        generalize l[k] = d at *
        have HBad1 := Lib.hid (@isD_bad1 l.length (l.take k) X d)
        have HBad2 := Lib.hid (@isD_bad2 l.length (l.take k) X d)
        have HBad3 := Lib.hid (@isD_bad3 l.length (l.take k) X d)
        have HGood := Lib.hid (@isD_good l.length (l.take k) X d)
        obtain ⟨dn, co, xs⟩ := d
        dsimp only at *
        obtain ⟨A2, c2, rfl, hc2, hm2⟩ := h3.form
        unfold maxLen at hm2
        have HX := Lib.hid h3; clear h3
        have HNO : Hid (isD l.length (l.take k) X ⟨dn, co, xs⟩ = false → rr = false) := fun e => by rw [HG.out, HN.out, HD.out, isDs_cons, e]; rfl
        have HW := Lib.hid (HB1.out.trans ((Ext.al wo (Obj.cells #[Value.string dn, Value.bool co, Value.slice A2 xs.length c2] 48)).mono HB1.out.size))
        have HO1 := Lib.hid (own_ext HO.out (Ext.al wo (Obj.cells #[Value.string dn, Value.bool co, Value.slice A2 xs.length c2] 48)))
        have g0 : (wo.alloc (Obj.cells #[Value.string dn, Value.bool co, Value.slice A2 xs.length c2] 48)).cell? ⟨wo.heap.size, 0, none⟩ = some (.string dn) := by
          rw [World.cell?_alloc_at _ _ _ _ rfl]; rfl
        have g2 : (wo.alloc (Obj.cells #[Value.string dn, Value.bool co, Value.slice A2 xs.length c2] 48)).cell? ⟨wo.heap.size, 2, none⟩ = some (.slice A2 xs.length c2) := by
          rw [World.cell?_alloc_at _ _ _ _ rfl]; rfl
        go_wp2_with fail
        (with_reducible refine (Name_any _ _ h4).mono ?_)
        generalize wo.alloc _ = w1 at *
        rintro e w2 ⟨rfl, hb2⟩
        have HW2 := Lib.hid (HW.out.trans (hb2.mono HW.out.size))
        have HO2 := Lib.hid (own_ext HO1.out hb2)
        have g0 := Ext.keep hb2 g0
        have g2 := Ext.keep hb2 g2
        clear hb2 h0 h1 h2
        cases hq : nameB dn
        · have HQ := Lib.hid (HNO.out (HBad1.out hq))
          clear hq
          go_wp2
          go_ret
          exact ⟨ret_bool HQ.out.symm, HW2.out⟩
        · have HQ := Lib.hid hq; clear hq
          by_cases h6 : 1 ≤ xs.length ∧ xs.length ≤ 6
          · have H6 := Lib.hid h6
            obtain ⟨h5, h6⟩ := h6
            go_wp2
            have HRt2 := Lib.hid (HRt.out.below HW2.out)
            have hkl : (l.take k).length = k := by simp; omega
            have HKL := Lib.hid hkl; clear hkl
            generalize l.take k = P at *
            have hPk : k ≤ P.length := by rw [HKL.out]; exact Nat.le_refl _
            have hPk2 : P.length ≤ k := by rw [HKL.out]; exact Nat.le_refl _
            go_loopw [44] (fun i wr => ∃ j : Nat, j ≤ k ∧ i = .int .i64 j ∧ Ext w2 wr ∧ prevB P dn = prevB (P.drop j) dn) (fun i _ => k - (intOf i).toNat)
            case atStart => exact ⟨0, Nat.zero_le _, rfl, Ext.rf _, by simp⟩
            case round =>
              obtain ⟨j, hj, rfl, hb3, hno3⟩ := hrel
              have HN3 := Lib.hid hno3; have HB3 := Lib.hid hb3; clear hno3 hb3
              have g0 := HB3.out.keep g0
              have g2 := HB3.out.keep g2
              by_cases hlt3 : j < k
              · have HP : Hid (RDecls wr (.slice (some ⟨b, o, none⟩) P.length c) P) := by
                  have := HRt2.out.below HB3.out
                  rw [HKL.out]; exact this
                obtain ⟨b3, o3, vx3, he3, hbl3, f0, f1, f2, f3, f4⟩ := HP.out.at_ (k := j) (by omega)
                obtain ⟨rfl, rfl⟩ : b = b3 ∧ o = o3 := by
                  simp only [Option.some.injEq, Addr.mk.injEq] at he3; exact ⟨he3.1, he3.2.1⟩
                clear he3
                have HD3 := Lib.hid (drop_step (l := P) (k := j) (by omega))
                generalize P[j] = e at *
                obtain ⟨A3, c3, rfl, -⟩ := f3.form
                clear f3
                have HE3 := Lib.hid (Ext.al wr (Obj.cells #[Value.string e.name, Value.bool e.codata, Value.slice A3 e.xtors.length c3] 48))
                have g0 := HE3.out.keep g0
                cases hq : (e.name.toList == dn.toList)
                · have HQ3 := Lib.hid hq
                  have hq2 : (e.name.toList == dn.toList) = false := hq
                  go_wp2
                  go_roundw
                  case rel => exact ⟨j + 1, by omega, by go_num, HB3.out.tr HE3.out, by rw [HN3.out, HD3.out, prevB_cons, HQ3.out]; rfl⟩
                  case measure => simp [intOf]; omega
                · have HQ3 := Lib.hid hq
                  go_wp2
                  go_ret
                  exact ⟨ret_bool (HNO.out (HBad3.out (by rw [HN3.out, HD3.out, prevB_cons, HQ3.out]; rfl))).symm, HW2.out.trans ((HB3.out.tr HE3.out).mono HW2.out.size)⟩
              · have HPv : Hid (prevB P dn = false) := by rw [HN3.out, drop_end (by omega)]; rfl
                have HG2 := Lib.hid (HGood.out HQ.out H6.out HPv.out)
                have HW3 := Lib.hid (HW2.out.trans (HB3.out.mono HW2.out.size))
                have HO3 := Lib.hid (own_ext HO2.out HB3.out)
                obtain ⟨w3, rfl⟩ : ∃ w3 : World, w3 = wr := ⟨_, rfl⟩
                clear HRt HRt2 HBad1 HBad2 HBad3 HGood
                go_wp2
                go_loopw [3, 57] (fun xv i wr => ∃ (j : Nat) (Y : List ByteArray), j ≤ xs.length ∧ i = .int .i64 j ∧ wr.ownsRow w.heap.size 9 1 xv Y.length (Y.map Value.string) ∧ Y.length ≤ 6 * k + j ∧ Below w.heap.size w wr ∧ isXs l.length X xs = isXs l.length Y (xs.drop j) ∧ addXs X xs = addXs Y (xs.drop j)) (fun _ i _ => xs.length - (intOf i).toNat)
                case atStart => exact ⟨0, X, Nat.zero_le _, rfl, HO3.out, by omega, HW3.out, rfl, rfl⟩
                case round =>
                  obtain ⟨j, Y, hj, rfl, hown4, hY6, hb4, hno4, had4⟩ := hrel
                  have HN4 := Lib.hid hno4; have HB4 := Lib.hid hb4; have HO4 := Lib.hid hown4; have HA4 := Lib.hid had4; clear hno4 hb4 hown4 had4
                  obtain ⟨wp, rfl⟩ : ∃ wp : World, wp = wr := ⟨_, rfl⟩
                  clear g0 g2
                  by_cases hlt4 : j < xs.length
                  · obtain ⟨b4, o4, va4, rfl, hbl4, f0, f1, f2, f3⟩ := HX.out.at_ hlt4
                    have HD4 := Lib.hid (drop_step hlt4)
                    have f0 := (HB4.out.cell hbl4).trans f0
                    have f1 := (HB4.out.cell hbl4).trans f1
                    generalize xs[j] = x at *
                    have HNO4 : Hid (isX l.length Y x = false → rr = false) := fun e => HNO.out (by rw [HG2.out, HN4.out, HD4.out, isXs_cons, e]; rfl)
                    obtain ⟨A5, c5, rfl, hc5, hm5⟩ := f2.form
                    unfold maxLen at hm5
                    have HXA := Lib.hid f2; clear f2
                    have hE5 := Ext.al wp (Obj.cells #[Value.string x.name, Value.slice A5 x.args.length c5] 45)
                    have HW5 := Lib.hid (HB4.out.trans (hE5.mono HB4.out.size))
                    have HO5 := Lib.hid (own_ext HO4.out hE5)
                    clear hE5
                    have q0 : (wp.alloc (Obj.cells #[Value.string x.name, Value.slice A5 x.args.length c5] 45)).cell? ⟨wp.heap.size, 0, none⟩ = some (.string x.name) := by
                      rw [World.cell?_alloc_at _ _ _ _ rfl]; rfl
                    have q1 : (wp.alloc (Obj.cells #[Value.string x.name, Value.slice A5 x.args.length c5] 45)).cell? ⟨wp.heap.size, 1, none⟩ = some (.slice A5 x.args.length c5) := by
                      rw [World.cell?_alloc_at _ _ _ _ rfl]; rfl
                    go_wp2_with fail
                    (with_reducible refine (XtorName_any _ _ f3).mono ?_)
                    generalize wp.alloc _ = w5 at *
                    rintro e w5' ⟨rfl, rfl⟩
                    cases hq : xtorB x.name
                    · have HQ5 := Lib.hid (HNO4.out (isX_bad1 hq))
                      clear hq
                      go_wp2
                      go_ret
                      exact ⟨ret_bool HQ5.out.symm, HW5.out⟩
                    · have HQ5 := Lib.hid hq; clear hq
                      by_cases h66 : x.args.length ≤ 6
                      · have H66 := Lib.hid h66
                        obtain ⟨A6, c6, he6, hc6, hm6, hcell6⟩ := own_form HO5.out
                        have HC6 := Lib.hid hcell6; clear hcell6
                        subst he6
                        unfold maxLen at hm6
                        go_wp2
                        go_loop [73] (fun i => ∃ q : Nat, q ≤ Y.length ∧ i = .int .i64 q ∧ hasS Y x.name = hasS (Y.drop q) x.name) (fun i => Y.length - (intOf i).toNat)
                        case atStart => exact ⟨0, Nat.zero_le _, rfl, by simp⟩
                        case round =>
                          obtain ⟨q, hq6, rfl, hno6⟩ := hrel
                          have HN6 := Lib.hid hno6; clear hno6
                          by_cases hlt6 : q < Y.length
                          · obtain ⟨g, rfl, hgl, hgb, e0⟩ := HC6.out q (.string Y[q]) (by rw [List.getElem?_map, List.getElem?_eq_getElem hlt6]; rfl)
                            have HD6 := Lib.hid (drop_step hlt6)
                            generalize Y[q] = y at *
                            cases hqq : (x.name.toList == y.toList)
                            · have HQ7 := Lib.hid hqq
                              have hq2 : (x.name.toList == y.toList) = false := hqq
                              go_wp2
                              go_round
                              case rel => exact ⟨q + 1, by omega, by go_num, by rw [HN6.out, HD6.out, hasS_cons, HQ7.out]; rfl⟩
                              case measure => simp [intOf]; omega
                            · have HQ7 := Lib.hid hqq
                              have hq2 : (x.name.toList == y.toList) = true := hqq
                              go_wp2
                              go_ret
                              exact ⟨ret_bool (HNO4.out (isX_bad3 (by rw [HN6.out, HD6.out, hasS_cons, HQ7.out]; rfl))).symm, HW5.out⟩
                          · have HS7 : Hid (hasS Y x.name = false) := by rw [HN6.out, drop_end hlt6]; rfl
                            have HG7 := Lib.hid (isX_good (t := l.length) HQ5.out H66.out HS7.out)
                            clear HN6
                            have hlen : Y.length ≤ 100 := by omega
                            have HXA7 := Lib.hid (HXA.out.below HW5.out)
                            go_wp2_with (at_builtin; refine wpList_append_own _ rfl (.tmp 82) (.tmp 85) 60 rfl w.heap.size 9 i0 (.string ⟨#[]⟩) 1 16 Try.underlying60 HI.out HZ0.out HZ1.out HZ2.out rfl (by decide) (.slice A6 Y.length c6) Y.length (Y.map Value.string) rfl (HO5.out.alloc _) ⟨w5.heap.size, 0, none⟩ 1 1 [.string x.name] rfl rfl ?c1 ?c2 ?c3 ?c4 ?c5 ?_)
                            case c2 => rfl
                            case c3 => unfold maxLen; omega
                            case c4 => omega
                            case c5 => have := HW5.out.size; omega
                            intro v' w6 hown6 hg6 _
                            have hlt6' := HO4.out.lt
                            have hr6 : ∀ k, (Value.slice A6 Y.length c6).ownBlock = some k → w.heap.size ≤ k := fun k e => (hlt6' k e).1
                            have hne6 : some wp.heap.size ≠ (Value.slice A6 Y.length c6).ownBlock := fun e => by have := (hlt6' _ e.symm).2; omega
                            have HW6 := Lib.hid (Below.grown (HW5.out.alloc HW5.out.size _) hg6 (by have := HW5.out.size; simp; omega) hr6)
                            have q1 : w6.cell? ⟨wp.heap.size, 1, none⟩ = some (.slice A5 x.args.length c5) :=
                              (World.cell?_of_block (a := ⟨wp.heap.size, 1, none⟩) (hg6.block wp.heap.size (by have := cell_lt q1; simp at this ⊢; omega) hne6)).trans ((Ext.al w5 _).keep q1)
                            have hown7 : w6.ownsRow w.heap.size 9 1 v' (Y ++ [x.name]).length ((Y ++ [x.name]).map Value.string) := by simpa using hown6
                            have HO6 := Lib.hid hown7
                            clear hown6 hown7 hg6 hlt6' hr6 hne6 q0
                            have HXA7 := Lib.hid (HXA.out.below HW6.out)
                            generalize x.args = gs at *
                            go_wp2
                            go_loopw [90] (fun i wr => ∃ r : Nat, r ≤ gs.length ∧ i = .int .i64 r ∧ Ext w6 wr ∧ gs.all (okTy l.length) = (gs.drop r).all (okTy l.length)) (fun i _ => gs.length - (intOf i).toNat)
                            case atStart => exact ⟨0, Nat.zero_le _, rfl, Ext.rf _, by simp⟩
                            case round =>
                              obtain ⟨r, hr7, rfl, hb7, hno7⟩ := hrel
                              have HN7 := Lib.hid hno7; have HB7 := Lib.hid hb7; clear hno7 hb7
                              by_cases hlt7 : r < gs.length
                              · have HXA8 := Lib.hid (HXA7.out.below HB7.out)
                                obtain ⟨b7, o7, rfl, hbl7, e0, e1⟩ := HXA8.out.at_ hlt7
                                have HD7 := Lib.hid (drop_step hlt7)
                                generalize gs[r] = a at *
                                have HW8 := Lib.hid (HB7.out.tr (Ext.al wr (Obj.cells #[Value.int IntKind.i64 a.ty, Value.bool a.co] 50)))
                                by_cases hA : 0 ≤ a.ty <;> by_cases hB : a.ty ≤ l.length
                                rotate_left 3
                                · exfalso; omega
                                · have HQ8 := Lib.hid (okTy_good' hA hB)
                                  go_wp2
                                  go_roundw
                                  case rel => exact ⟨r + 1, by omega, by go_num, HW8.out, by rw [HN7.out, HD7.out, List.all_cons, HQ8.out]; rfl⟩
                                  case measure => simp [intOf]; omega
                                all_goals
                                  have HQ8 := Lib.hid (okTy_bad' (t := l.length) (a := a) (by omega))
                                  go_wp2
                                  go_ret
                                  exact ⟨ret_bool (HNO4.out (by rw [HG7.out, HN7.out, HD7.out, List.all_cons, HQ8.out]; rfl)).symm, HW6.out.trans (HW8.out.mono HW6.out.size)⟩
                              · go_wp2
                                go_roundw
                                case rel => exact ⟨j + 1, Y ++ [x.name], by omega, by go_num, own_ext HO6.out HB7.out, by simp; omega, HW6.out.trans (HB7.out.mono HW6.out.size), by rw [HN4.out, HD4.out, isXs_cons, HG7.out, HN7.out, drop_end hlt7]; rfl, by rw [HA4.out, HD4.out]; simp [addXs]⟩
                                case measure => simp [intOf]; omega
                      · have HQ6 := Lib.hid (HNO4.out (isX_bad2 h66))
                        go_wp2
                        go_ret
                        exact ⟨ret_bool HQ6.out.symm, HW5.out⟩
                  · go_wp2
                    go_roundw
                    case rel => exact ⟨k + 1, Y, by omega, by go_num, HO4.out, by omega, HB4.out, by rw [HN.out, HD.out, isDs_cons, HG2.out, HN4.out, HT.out, HA4.out, drop_end hlt4]; simp [isXs, addXs]⟩
                    case measure => simp [intOf]; omega
          · have HQ2 := Lib.hid (HNO.out (HBad2.out h6))
            by_cases h5 : 1 ≤ xs.length
            all_goals
              have h7 : ¬ xs.length ≤ 6 ∨ ¬ 1 ≤ xs.length := by omega
              go_wp2
              go_ret
              exact ⟨ret_bool HQ2.out.symm, HW2.out⟩
      · go_wp2
        go_ret
        exact ⟨ret_bool (by rw [HG.out, HN.out, drop_end hlt]; rfl), HB1.out⟩
  · have HQ := Lib.hid (HB.out h8)
    go_wp2
    go_ret
    exact ⟨ret_bool HQ.out.symm, Ext.rf _⟩
end Go.Proofs.Ytoopngnmdgcklaa
