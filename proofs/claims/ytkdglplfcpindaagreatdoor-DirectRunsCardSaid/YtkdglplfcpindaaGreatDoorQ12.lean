import Derived.Test.YtkdglplfcpindaaGreatDoorQ11
set_option maxRecDepth 100000
namespace Go.Proofs.YtkdglplfcpindaaGreatDoor
open Go.RowKit
theorem okX_bad1 {t : Int} {S : List ByteArray} {x : Xtor} (h : xtorB x.name = false) : okX t S x = false := by simp [okX, h]
theorem okX_bad2 {t : Int} {S : List ByteArray} {x : Xtor} (h : hasS S x.name = true) : okX t S x = false := by simp [okX, h]
theorem okX_bad3 {t : Int} {S : List ByteArray} {x : Xtor} (h : ¬ x.args.length <= 6) : okX t S x = false := by simp [okX, h]
theorem okX_good {t : Int} {S : List ByteArray} {x : Xtor} (h1 : xtorB x.name = true) (h2 : hasS S x.name = false) (h3 : x.args.length <= 6) : okX t S x = x.args.all (okTy t) := by simp [okX, h1, h2, h3]
theorem okTy_bad {t : Int} {a : Arg} (h : a.ty < 0 ∨ t < a.ty) : okTy t a = false := by simp [okTy]; omega
theorem okTy_good {t : Int} {a : Arg} (h : 0 <= a.ty) (h2 : a.ty <= t) : okTy t a = true := by simp [okTy]; omega
structure VPost (b : Nat) (r : Bool) (S : List ByteArray) (w : World) (e : Ending) (w' : World) : Prop where
  ret : e = .returned (.bool r)
  yes : r = true -> SetAt w' b S
  any : ∃ S', SetAt w' b S'
  ext : ExtBut b w w'
theorem VPost.no {b : Nat} {r : Bool} {S S' : List ByteArray} {w w' : World} (h : r = false) (hs : SetAt w' b S') (hx : ExtBut b w w') : VPost b r S w (.returned (.bool false)) w' :=
  ⟨by rw [h], (fun e => by rw [h] at e; cases e), ⟨S', hs⟩, hx⟩
theorem VPost.yes_ {b : Nat} {r : Bool} {S : List ByteArray} {w w' : World} (h : r = true) (hs : SetAt w' b S) (hx : ExtBut b w w') : VPost b r S w (.returned (.bool true)) w' :=
  ⟨by rw [h], fun _ => hs, ⟨S, hs⟩, hx⟩
theorem validXtor_any (b : Nat) (S : List ByteArray) (va : Value) (x : Xtor) (t : Int) (w : World) (hs : SetAt w b S) (hx : RArgs w va x.args) (hn : x.name.size <= maxLen) :
    Calls Tryz.prog 137 #[.agg #[.string x.name, va], .int .i64 t, .map (some b)] w (VPost b (okX t S x) (S ++ [x.name]) w) := by
  have HB1 := LH (@okX_bad1 t S x)
  have HB2 := LH (@okX_bad2 t S x)
  have HB3 := LH (@okX_bad3 t S x)
  have HG := LH (@okX_good t S x)
  have HE := LH (Ext.al w (Obj.cells #[Value.string x.name, va] 140))
  have HR := LH (hx.below HE.out)
  have HS := LH (hs.ext HE.out)
  have hc0 : (w.alloc (Obj.cells #[Value.string x.name, va] 140)).cell? ⟨w.heap.size, 0, none⟩ = some (.string x.name) := by
    rw [World.cell?_alloc_at _ _ _ _ rfl]; rfl
  have hc1 : (w.alloc (Obj.cells #[Value.string x.name, va] 140)).cell? ⟨w.heap.size, 1, none⟩ = some va := by
    rw [World.cell?_alloc_at _ _ _ _ rfl]; rfl
  obtain ⟨A, c, rfl, hc, hm⟩ := hx.form
  clear hx hs
  unfold maxLen at hm
  go_enter Tryz.func137, Tryz.ntmps137
  go_wp2_with fail
  generalize w.alloc _ = w1 at *
  (with_reducible refine (Xtor_any _ _ hn).mono ?_)
  rintro e w' ⟨rfl, rfl⟩
  cases hq : xtorB x.name
  . have HQ := LH (HB1.out hq)
    clear hq
    go_wp2
    go_ret
    exact .no HQ.out HS.out (HE.out.but _)
  . have HQ := LH hq; clear hq
    go_wp2_with fail
    (with_reducible refine (add_any _ _ _ _ HS.out).mono ?_)
    rintro e w2 ⟨rfl, hs2, hx2⟩
    have hc0 := hx2.keep HS.out hc0
    have hc1 := hx2.keep HS.out hc1
    have HR2 := LH (HR.out.but hx2 HS.out)
    have HX2 := LH ((HE.out.but _).tr hx2); clear hx2
    cases hq : hasS S x.name
    . rw [hq] at hs2
      have HS2 := LH hs2; clear hs2
      have HQ2 := LH hq; clear hq
      by_cases h6 : x.args.length <= 6
      . have HG := LH (HG.out HQ.out HQ2.out h6)
        generalize x.args = l at *
        go_wp2
        go_loopw [29] (fun i wr => ∃ k : Nat, k <= l.length /\ i = .int .i64 k /\ Ext w2 wr /\ l.all (okTy t) = (l.drop k).all (okTy t)) (fun i _ => l.length - (intOf i).toNat)
        case atStart => exact ⟨0, Nat.zero_le _, rfl, Ext.rf _, by simp⟩
        case round =>
          obtain ⟨k, hk, rfl, hb, hno⟩ := hrel
          have HN := LH hno; have HB := LH hb; clear hno hb
          by_cases hlt : k < l.length
          . have HRk := LH (HR2.out.below HB.out)
            obtain ⟨b2, o, rfl, hbl, h0, h1⟩ := HRk.out.at_ hlt
            have HD := LH (dS hlt)
            generalize l[k] = a at *
            have HW := LH (HB.out.tr (Ext.al wr (Obj.cells #[Value.int IntKind.i64 a.ty, Value.bool a.co] 165)))
            by_cases hA : 0 <= a.ty <;> by_cases hB : a.ty <= t
            . have HQ3 := LH (okTy_good hA hB)
              go_wp2
              go_roundw
              case rel => exact ⟨k + 1, by omega, by go_num, HW.out, by rw [HN.out, HD.out, List.all_cons, HQ3.out]; rfl⟩
              case measure => simp [intOf]; omega
            all_goals
              have HQ3 := LH (okTy_bad (t := t) (a := a) (by omega))
              go_wp2
              go_ret
              exact .no (by rw [HG.out, HN.out, HD.out, List.all_cons, HQ3.out]; rfl) (HS2.out.ext HW.out) (HX2.out.tr (HW.out.but _))
          . go_wp2
            go_ret
            exact .yes_ (by rw [HG.out, HN.out, drop_end hlt]; rfl) (HS2.out.ext HB.out) (HX2.out.tr (HB.out.but _))
      . have HQ3 := LH (HB3.out h6)
        go_wp2
        go_ret
        exact .no HQ3.out HS2.out HX2.out
    . have HQ2 := LH (HB2.out hq)
      rw [hq] at hs2
      have HS2 := LH hs2; clear hs2 hq
      go_wp2
      go_ret
      exact .no HQ2.out HS2.out HX2.out
theorem okD_bad1 {t : Int} {S : List ByteArray} {d : Decl} (h : nameB d.name = false) : okD t S d = false := by simp [okD, h]
theorem okD_bad2 {t : Int} {S : List ByteArray} {d : Decl} (h : hasS S d.name = true) : okD t S d = false := by simp [okD, h]
theorem okD_bad3 {t : Int} {S : List ByteArray} {d : Decl} (h : ¬ (1 <= d.xtors.length /\ d.xtors.length <= 6)) : okD t S d = false := by
  unfold okD
  by_cases h1 : 1 <= d.xtors.length
  . have h2 : ¬ d.xtors.length <= 6 := fun h2 => h ⟨h1, h2⟩
    simp [h2]
  . simp [h1]
theorem okD_good {t : Int} {S : List ByteArray} {d : Decl} (h1 : nameB d.name = true) (h2 : hasS S d.name = false) (h3 : 1 <= d.xtors.length) (h4 : d.xtors.length <= 6) : okD t S d = okXs t (S ++ [d.name]) d.xtors := by simp [okD, h1, h2, h3, h4]
theorem addXs_cons (S : List ByteArray) (x : Xtor) (l : List Xtor) : addXs S (x :: l) = addXs (S ++ [x.name]) l := by simp [addXs]
theorem addXs_nil (S : List ByteArray) : addXs S [] = S := by simp [addXs]
theorem okXs_cons (t : Int) (S : List ByteArray) (x : Xtor) (l : List Xtor) : okXs t S (x :: l) = (okX t S x && okXs t (S ++ [x.name]) l) := rfl
theorem validDecl_any (b : Nat) (S : List ByteArray) (v : Value) (d : Decl) (t : Int) (w : World) (hs : SetAt w b S) (hd : RDecl w v d) :
    Calls Tryz.prog 109 #[v, .int .i64 t, .map (some b)] w (VPost b (okD t S d) (addD S d) w) := by
  have HB1 := LH (@okD_bad1 t S d)
  have HB2 := LH (@okD_bad2 t S d)
  have HB3 := LH (@okD_bad3 t S d)
  have HG := LH (@okD_good t S d)
  have HAD : Hid (addD S d = addXs (S ++ [d.name]) d.xtors) := rfl
  obtain ⟨va, rfl, hx, hn⟩ := hd
  generalize hrr : okD t S d = rr at *
  generalize hSS : addD S d = SS at *
  clear hrr hSS
  obtain ⟨nm, co, l⟩ := d
  dsimp only at *
  have HE := LH (Ext.al w (Obj.cells #[Value.string nm, Value.bool co, va] 137))
  have HR := LH (hx.below HE.out)
  have HS := LH (hs.ext HE.out)
  have hc0 : (w.alloc (Obj.cells #[Value.string nm, Value.bool co, va] 137)).cell? ⟨w.heap.size, 0, none⟩ = some (.string nm) := by
    rw [World.cell?_alloc_at _ _ _ _ rfl]; rfl
  have hc2 : (w.alloc (Obj.cells #[Value.string nm, Value.bool co, va] 137)).cell? ⟨w.heap.size, 2, none⟩ = some va := by
    rw [World.cell?_alloc_at _ _ _ _ rfl]; rfl
  obtain ⟨A, c, rfl, hc, hm⟩ := hx.form
  clear hx hs
  unfold maxLen at hm
  go_enter Tryz.func109, Tryz.ntmps109
  go_wp2_with fail
  generalize w.alloc _ = w1 at *
  (with_reducible refine (Plain_any _ _ hn).mono ?_)
  rintro e w' ⟨rfl, rfl⟩
  cases hq : nameB nm
  . have HQ := LH (HB1.out hq)
    clear hq
    go_wp2
    go_ret
    exact .no HQ.out HS.out (HE.out.but _)
  . have HQ := LH hq; clear hq
    go_wp2_with fail
    (with_reducible refine (add_any _ _ _ _ HS.out).mono ?_)
    rintro e w2 ⟨rfl, hs2, hx2⟩
    have hc0 := hx2.keep HS.out hc0
    have hc2 := hx2.keep HS.out hc2
    have HR2 := LH (HR.out.but hx2 HS.out)
    have HX2 := LH ((HE.out.but _).tr hx2); clear hx2
    cases hq : hasS S nm
    . rw [hq] at hs2
      have HS2 : Hid (SetAt w2 b (S ++ [nm])) := hs2
      clear hs2
      have HQ2 := LH hq; clear hq
      by_cases h6 : 1 <= l.length /\ l.length <= 6
      . obtain ⟨h5, h6⟩ := h6
        have HG := LH (HG.out HQ.out HQ2.out h5 h6)
        generalize S ++ [nm] = S1 at *
        go_wp2
        go_loopw [33] (fun i wr => ∃ (k : Nat) (S' : List ByteArray), k <= l.length /\ i = .int .i64 k /\ SetAt wr b S' /\ ExtBut b w2 wr /\ okXs t S1 l = okXs t S' (l.drop k) /\ addXs S1 l = addXs S' (l.drop k)) (fun i _ => l.length - (intOf i).toNat)
        case atStart => exact ⟨0, S1, Nat.zero_le _, rfl, HS2.out, ExtBut.rf _ _, rfl, rfl⟩
        case round =>
          obtain ⟨k, S', hk, rfl, hs3, hb, hno, had⟩ := hrel
          have HN := LH hno; have HB := LH hb; have HA := LH had; have HS3 := LH hs3; clear hno hb had hs3
          by_cases hlt : k < l.length
          . have HRk := LH (HR2.out.but HB.out HS2.out)
            obtain ⟨b2, o, vx, rfl, hbl, h0, h1, hx, hxn⟩ := HRk.out.at_ hlt
            have HD := LH (dS hlt)
            generalize l[k] = x at *
            obtain ⟨A2, c2, rfl, -⟩ := hx.form
            have HW := LH (Ext.al wr (Obj.cells #[Value.string x.name, Value.slice A2 x.args.length c2] 140))
            have HXa := LH (hx.below HW.out); clear hx
            go_wp2_with fail
            (with_reducible refine (validXtor_any _ _ _ _ _ _ (HS3.out.ext HW.out) HXa.out hxn).mono ?_)
            rintro e w3 ⟨rfl, hyes, hany, hx3⟩
            have HX3 := LH ((HB.out.tr (HW.out.but _)).tr hx3); have HY := LH hyes; have HAny := LH hany; clear hx3 hyes hany
            cases hq : okX t S' x
            . have HQ3 := LH hq; clear hq
              go_wp2
              go_ret
              obtain ⟨S4, hs4⟩ := HAny.out
              exact .no (by rw [HG.out, HN.out, HD.out, okXs_cons, HQ3.out]; rfl) hs4 (HX2.out.tr HX3.out)
            . have HQ3 := LH hq; clear hq
              go_wp2
              go_roundw
              case rel => exact ⟨k + 1, S' ++ [x.name], by omega, by go_num, HY.out HQ3.out, HX3.out, by rw [HN.out, HD.out, okXs_cons, HQ3.out]; rfl, by rw [HA.out, HD.out, addXs_cons]⟩
              case measure => simp [intOf]; omega
          . go_wp2
            go_ret
            exact .yes_ (by rw [HG.out, HN.out, drop_end hlt]; rfl) (by rw [HAD.out, HA.out, drop_end hlt, addXs_nil]; exact HS3.out) (HX2.out.tr HB.out)
      . have HQ3 := LH (HB3.out h6)
        by_cases h5 : 1 <= l.length
        all_goals
          have h7 : ¬ l.length <= 6 ∨ ¬ 1 <= l.length := by omega
          go_wp2
          go_ret
          exact .no HQ3.out HS2.out HX2.out
    . have HQ2 := LH (HB2.out hq)
      rw [hq] at hs2
      have HS2 := LH hs2; clear hs2 hq
      go_wp2
      go_ret
      exact .no HQ2.out HS2.out HX2.out
theorem Ext.butNew {w w1 w2 : World} (h : Ext w w1) (k : ExtBut w.heap.size w1 w2) : Ext w w2 :=
  ⟨k.os.trans h.os, k.tape.trans h.tape, k.output.trans h.output, Nat.le_trans h.size k.size, fun i hi => (k.block i (Nat.lt_of_lt_of_le hi h.size) (by omega)).trans (h.block i hi)⟩
theorem okDs_cons (t : Int) (S : List ByteArray) (d : Decl) (l : List Decl) : okDs t S (d :: l) = (okD t S d && okDs t (addD S d) l) := rfl
theorem validB_bad {l : List Decl} (h : ¬ l.length <= 8) : validB l = false := by simp [validB, h]
theorem validB_good {l : List Decl} (h : l.length <= 8) : validB l = okDs l.length [] l := by simp [validB, h]
theorem valid_any (v : Value) (l : List Decl) (w : World) (h : RDecls w v l) :
    Calls Tryz.prog 69 #[v] w fun e w' => e = .returned (.bool (validB l)) /\ Ext w w' := by
  have HB := LH (@validB_bad l)
  have HG := LH (@validB_good l)
  generalize hrr : validB l = rr at *
  clear hrr
  have HE := LH (Ext.al w (Obj.map #[] 0))
  have HR := LH (h.below HE.out)
  have HS := LH (SetAt.new w)
  obtain ⟨A, c, rfl, hc, hm⟩ := h.form
  clear h
  unfold maxLen at hm
  have hmm := @run_makeMap Tryz.prog
  go_enter Tryz.func69, Tryz.ntmps69
  by_cases h8 : l.length <= 8
  . have HG := LH (HG.out h8)
    go_wp2
    have HZ2 : Hid (∀ w2, ExtBut w.heap.size (w.alloc (Obj.map #[] 0)) w2 -> Ext w w2) := fun w2 h => Ext.butNew HE.out h
    generalize w.alloc _ = w1 at *
    generalize hbb : w.heap.size = b0 at *
    clear hbb
    go_loopw [12] (fun i wr => ∃ (k : Nat) (S' : List ByteArray), k <= l.length /\ i = .int .i64 k /\ SetAt wr b0 S' /\ ExtBut b0 w1 wr /\ okDs l.length [] l = okDs l.length S' (l.drop k)) (fun i _ => l.length - (intOf i).toNat)
    case atStart => exact ⟨0, [], Nat.zero_le _, rfl, HS.out, ExtBut.rf _ _, rfl⟩
    case round =>
      obtain ⟨k, S', hk, rfl, hs3, hb, hno⟩ := hrel
      have HN := LH hno; have HB := LH hb; have HS3 := LH hs3; clear hno hb hs3
      by_cases hlt : k < l.length
      . have HRk := LH (HR.out.but HB.out HS.out)
        obtain ⟨b2, o, vx, rfl, hbl, h0, h1, h2, hx, hxn⟩ := HRk.out.at_ hlt
        have HD := LH (dS hlt)
        generalize l[k] = d at *
        obtain ⟨A2, c2, rfl, -⟩ := hx.form
        have HW := LH (Ext.al wr (Obj.cells #[Value.string d.name, Value.bool d.codata, Value.slice A2 d.xtors.length c2] 137))
        have HXa : Hid (RDecl _ _ d) := ⟨_, rfl, hx.below HW.out, hxn⟩
        clear hx
        go_wp2_with fail
        (with_reducible refine (validDecl_any _ _ _ _ _ _ (HS3.out.ext HW.out) HXa.out).mono ?_)
        rintro e w3 ⟨rfl, hyes, hany, hx3⟩
        have HX3 := LH ((HB.out.tr (HW.out.but _)).tr hx3); have HY := LH hyes; clear hx3 hyes hany
        cases hq : okD l.length S' d
        . have HQ3 := LH hq; clear hq
          go_wp2
          go_ret
          exact ⟨rB (by rw [HG.out, HN.out, HD.out, okDs_cons, HQ3.out]; rfl), HZ2.out _ HX3.out⟩
        . have HQ3 := LH hq; clear hq
          go_wp2
          go_roundw
          case rel => exact ⟨k + 1, addD S' d, by omega, by go_num, HY.out HQ3.out, HX3.out, by rw [HN.out, HD.out, okDs_cons, HQ3.out]; rfl⟩
          case measure => simp [intOf]; omega
      . go_wp2
        go_ret
        exact ⟨rB (by rw [HG.out, HN.out, drop_end hlt]; rfl), HZ2.out _ HB.out⟩
  . have HQ := LH (HB.out h8)
    go_wp2
    go_ret
    exact ⟨rB HQ.out.symm, Ext.rf _⟩
end Go.Proofs.YtkdglplfcpindaaGreatDoor

namespace Go.Proofs.YtkdglplfcpindaaGreatDoor
open Go.RowKit
theorem declared_out (v : Value) (l : List Decl) (t : Int) (w : World) (h : RDecls w v l) (ht : ¬ (1 <= t /\ t <= l.length)) :
    Calls Tryz.prog 70 #[v, .int .i64 t] w fun e w' => e = .returned (.tuple #[.agg #[.string ⟨#[]⟩, .bool false, .slice none 0 0], .bool false]) /\ Ext w w' := by
  obtain ⟨A, c, rfl, hc, hm⟩ := h.form
  clear h
  unfold maxLen at hm
  by_cases h1 : 1 <= t
  . have h2 : ¬ t <= l.length := fun h2 => ht ⟨h1, h2⟩
    clear ht
    go_enter Tryz.func70, Tryz.ntmps70
    go_wp2
    exact bodyPost_ret (v := .tuple #[.agg #[.string ⟨#[]⟩, .bool false, .slice none 0 0], .bool false]) (by simp [results, Tryz.results70, go_sem]) rfl ⟨rfl, (Ext.al _ _)⟩
  . clear ht
    go_enter Tryz.func70, Tryz.ntmps70
    go_wp2
    exact bodyPost_ret (v := .tuple #[.agg #[.string ⟨#[]⟩, .bool false, .slice none 0 0], .bool false]) (by simp [results, Tryz.results70, go_sem]) rfl ⟨rfl, (Ext.al _ _)⟩
theorem declared_in (v : Value) (l : List Decl) (t : Nat) (w : World) (h : RDecls w v l) (ht : t < l.length) :
    Calls Tryz.prog 70 #[v, .int .i64 (t + 1)] w fun e w' => (∃ va, e = .returned (.tuple #[.agg #[.string (l[t]).name, .bool (l[t]).codata, va], .bool true]) /\ RXtors w va (l[t]).xtors) /\ Ext w w' := by
  have HR := LH h
  obtain ⟨A, c, rfl, hc, hm⟩ := h.form
  clear h
  unfold maxLen at hm
  obtain ⟨b, o, vx, rfl, hbl, h0, h1, h2, h3, h4⟩ := HR.out.at_ ht
  generalize l[t] = d at *
  obtain ⟨A2, c2, rfl, -⟩ := h3.form
  have HX := LH h3; clear h3
  have e : ((t : Int) + 1 - 1) = t := by omega
  have hz : (w.alloc (Obj.cells #[.string ⟨#[]⟩, .bool false, .slice none 0 0] 137)).heap.size = w.heap.size + 1 := by simp
  go_enter Tryz.func70, Tryz.ntmps70
  go_wp2
  refine bodyPost_ret (v := .tuple #[.agg #[.string d.name, .bool d.codata, .slice A2 d.xtors.length c2], .bool true]) (by simp [results, Tryz.results70, go_sem]) rfl ⟨⟨_, rfl, HX.out⟩, (Ext.al _ _)⟩
end Go.Proofs.YtkdglplfcpindaaGreatDoor

namespace Go.Proofs.YtkdglplfcpindaaGreatDoor
open Go.RowKit
theorem Tryz.u57 : Tryz.prog.underlying 26 = some (.slice 3) := by kernel_rfl
theorem Tryz.info3 : (Tryz.prog.info? 3).map (fun i => (i.zero, i.size, i.bytes)) = some (some (.int .i64 0), 1, 8) := by kernel_rfl
theorem app_vals {w : World} {ops : Array Oper} {rest : List Oper} {o : Oper} {a : Act} {Q : Exit -> Act -> World -> Prop} {t e size bytes : Nat} {z : Value} (hu : Tryz.prog.underlying t = some (.slice e)) (hinf : (Tryz.prog.info? e).map (fun i => (i.zero, i.size, i.bytes)) = some (some z, size, bytes)) (hzs : z.cells.size = size) (hsz : 0 < size) (hby : bytes <= 1000)
    (hgd : o.guard = none) (s x : Operand)
    (ho : o.op = .call { callee := .builtin .append, args := #[s, x], argTypes := #[t, t] }) (B : Nat) (v : Value) (n : Nat) (xs : List Value) (hs : a.eval s = v) (hown : w.ownsRow B e size v n xs)
    (A : Option Addr) (m c : Nat) (news : List Value) (hx : a.eval x = .slice A m c) (hsrc : SrcN w A m size news) (h1 : ∀ u ∈ news, u.oneCell' = true) (hn : n + m <= 1000000000) (hB : B <= w.heap.size)
    (h : ∀ v' w', w'.ownsRow B e size v' (n + m) (xs ++ news) -> w.grownBy w' v.ownBlock -> wpList Tryz.prog ops Q rest (a.put o.dst v') w') : wpList Tryz.prog ops Q (o :: rest) a w := by
  have hb : (n + m) * bytes <= 1000000000 * 1000 := Nat.mul_le_mul hn hby
  exact wpList_plain hgd fun K hK => app_row hu hinf hzs hsz s x ho B v n xs hs hown A m c news hx hsrc h1 (by unfold maxLen; omega) (by omega) hB (fun v' w' h1 h2 _ => hK _ _ (h v' w' h1 h2))
def prodC (l : List Arg) : Nat := (l.filter fun a => !a.co).length
end Go.Proofs.YtkdglplfcpindaaGreatDoor

namespace Go.Proofs.YtkdglplfcpindaaGreatDoor
open Go.RowKit
def prodA (l : List Arg) : List Int := (l.filter fun a => !a.co).map Arg.ty
theorem prodA_step {l : List Arg} {j : Nat} (h : j < l.length) : prodA (l.take (j + 1)) = prodA (l.take j) ++ (if (l[j]).co then [] else [(l[j]).ty]) := by
  unfold prodA
  rw [List.take_succ_eq_append_getElem h, List.filter_append, List.map_append]
  cases h2 : (l[j]).co <;> simp [h2]
theorem prodA_le (l : List Arg) (j : Nat) : (prodA (l.take j)).length <= j := by
  unfold prodA
  rw [List.length_map]
  exact Nat.le_trans (List.length_filter_le _ _) (by simp; omega)
set_option maxHeartbeats 2000000 in
theorem prog_prods_any (nm : Str) (va : Value) (l : List Arg) (w : World) (h : RArgs w va l) (hl : l.length <= 1000) :
    Calls Tryz.prog 120 #[.agg #[.string nm, va]] w fun e w' => (∃ v, e = .returned v /\ OwnL w' w.heap.size v (prodA l)) /\ Ext w w' := by
  have H := LH h
  obtain ⟨A, c, rfl, hc, hm⟩ := h.form
  clear h
  unfold maxLen at hm
  have HE := LH (Ext.al w (.cells #[.string nm, .slice A l.length c] 140))
  have HB := LH (hNw w (.cells #[.string nm, .slice A l.length c] 140))
  have c1 := cA HB.out 1
  go_enter Tryz.func120, Tryz.ntmps120
  go_wp2
  generalize w.alloc _ = w1 at *
  clear c1
  go_loopw [3, 9] (fun s i wr => ∃ (j : Nat), j <= l.length /\ i = .int .i64 j /\ OwnL wr w.heap.size s (prodA (l.take j)) /\ Ext w wr) (fun _ i _ => l.length - (intOf i).toNat)
  case atStart => exact ⟨0, Nat.zero_le _, rfl, ⟨by simp [prodA], .inl ⟨rfl, by simp [prodA]⟩⟩, HE.out⟩
  case round =>
    obtain ⟨j, hj, rfl, ho, hb⟩ := hrel
    have HO := LH ho
    have HX := LH hb
    clear ho hb
    by_cases hlt : j < l.length
    . obtain ⟨b, o, rfl, hbl, y0, y1⟩ := H.out.at_ hlt
      have y0 := HX.out.keep y0
      have y1 := HX.out.keep y1
      have HPS := LH (prodA_step hlt)
      have HPL := LH (prodA_le l j)
      generalize l[j] = x at *
      obtain ⟨ty, co⟩ := x
      dsimp only at *
      cases co
      . have HE8 := LH (Ext.al2 wr (.cells #[.int .i64 ty, .bool false] 165) (.cells #[.int .i64 ty] 3))
        have hn8 := hNw (wr.alloc (.cells #[.int .i64 ty, .bool false] 165)) (.cells #[.int .i64 ty] 3)
        rw [World.size_alloc] at hn8
        have HSO : Hid (SrcN _ (some ⟨wr.heap.size + 1, 0, none⟩) 1 1 [.int .i64 ty]) := .inr ⟨_, rfl, rfl, fun i u hu => by
          have hi : i < 1 := (List.getElem?_eq_some_iff.1 hu).1
          match i, hi with
          | 0, _ => rw [add_at]; exact cA hn8 0 hu⟩
        clear hn8
        go_wp2_with (at_builtin; refine app_vals Tryz.u57 Tryz.info3 rfl (by decide) (by decide) rfl _ _ rfl w.heap.size _ (prodA (l.take j)).length ((prodA (l.take j)).map (Value.int .i64)) rfl (oB HO.out HE8.out) (some ⟨wr.heap.size + 1, 0, none⟩) 1 1 [.int .i64 ty] rfl HSO.out (fun u hu => by rw [List.mem_singleton.1 hu]; rfl) (by have := HPL.out; omega) (Nat.le_trans HX.out.size HE8.out.size) ?_)
        intro v9 w9 ho9 hg9
        have HX9 : Hid (Ext w w9) := (HX.out.tr HE8.out).trans (grown_ext' hg9 (oB HO.out HE8.out) (Nat.le_trans HX.out.size HE8.out.size))
        have HO9 : Hid (OwnL w9 w.heap.size v9 (prodA (l.take (j + 1)))) := by
          show World.ownsRow _ _ _ _ _ _ _
          rw [HPS.out]
          simp only [Bool.false_eq_true, if_false, List.length_append, List.map_append]
          exact ho9
        clear ho9 hg9 y0 y1
        go_wp2
        exact ⟨⟨j + 1, by omega, by go_num, HO9.out, HX9.out⟩, by simp [intOf]; omega⟩
      . have HE8 := LH (Ext.al wr (.cells #[.int .i64 ty, .bool true] 165))
        have HO9 : Hid (OwnL (wr.alloc (.cells #[.int .i64 ty, .bool true] 165)) w.heap.size u3 (prodA (l.take (j + 1)))) := by
          show World.ownsRow _ _ _ _ _ _ _
          rw [HPS.out]
          simp only [if_true, List.append_nil]
          exact oB HO.out HE8.out
        go_wp2
        exact ⟨⟨j + 1, by omega, by go_num, HO9.out, HX.out.tr HE8.out⟩, by simp [intOf]; omega⟩
    . have HV : Hid (OwnL wr w.heap.size u3 (prodA l)) := by
        have h1 := HO.out
        rw [List.take_of_length_le (by omega)] at h1
        exact h1
      obtain ⟨A', c', hv⟩ := oSL HV.out
      subst hv
      go_wp2
      go_ret
      exact ⟨⟨_, rfl, HV.out⟩, HX.out⟩
set_option maxHeartbeats 2000000 in
theorem ref_prods_any (nm : Str) (va : Value) (l : List Arg) (w : World) (h : RArgs w va l) (hl : l.length <= 1000) :
    Calls Tryz.prog 117 #[.agg #[.string nm, va]] w fun e w' => (∃ v, e = .returned v /\ OwnL w' w.heap.size v (prodA l)) /\ Ext w w' := by
  have H := LH h
  obtain ⟨A, c, rfl, hc, hm⟩ := h.form
  clear h
  unfold maxLen at hm
  have HE := LH (Ext.al w (.cells #[.string nm, .slice A l.length c] 140))
  have HB := LH (hNw w (.cells #[.string nm, .slice A l.length c] 140))
  have c1 := cA HB.out 1
  go_enter Tryz.func117, Tryz.ntmps117
  go_wp2
  generalize w.alloc _ = w1 at *
  clear c1
  go_loopw [3, 9] (fun s i wr => ∃ (j : Nat), j <= l.length /\ i = .int .i64 j /\ OwnL wr w.heap.size s (prodA (l.take j)) /\ Ext w wr) (fun _ i _ => l.length - (intOf i).toNat)
  case atStart => exact ⟨0, Nat.zero_le _, rfl, ⟨by simp [prodA], .inl ⟨rfl, by simp [prodA]⟩⟩, HE.out⟩
  case round =>
    obtain ⟨j, hj, rfl, ho, hb⟩ := hrel
    have HO := LH ho
    have HX := LH hb
    clear ho hb
    by_cases hlt : j < l.length
    . obtain ⟨b, o, rfl, hbl, y0, y1⟩ := H.out.at_ hlt
      have y0 := HX.out.keep y0
      have y1 := HX.out.keep y1
      have HPS := LH (prodA_step hlt)
      have HPL := LH (prodA_le l j)
      generalize l[j] = x at *
      obtain ⟨ty, co⟩ := x
      dsimp only at *
      cases co
      . have HE8 := LH (Ext.al2 wr (.cells #[.int .i64 ty, .bool false] 165) (.cells #[.int .i64 ty] 3))
        have hn8 := hNw (wr.alloc (.cells #[.int .i64 ty, .bool false] 165)) (.cells #[.int .i64 ty] 3)
        rw [World.size_alloc] at hn8
        have HSO : Hid (SrcN _ (some ⟨wr.heap.size + 1, 0, none⟩) 1 1 [.int .i64 ty]) := .inr ⟨_, rfl, rfl, fun i u hu => by
          have hi : i < 1 := (List.getElem?_eq_some_iff.1 hu).1
          match i, hi with
          | 0, _ => rw [add_at]; exact cA hn8 0 hu⟩
        clear hn8
        go_wp2_with (at_builtin; refine app_vals Tryz.u57 Tryz.info3 rfl (by decide) (by decide) rfl _ _ rfl w.heap.size _ (prodA (l.take j)).length ((prodA (l.take j)).map (Value.int .i64)) rfl (oB HO.out HE8.out) (some ⟨wr.heap.size + 1, 0, none⟩) 1 1 [.int .i64 ty] rfl HSO.out (fun u hu => by rw [List.mem_singleton.1 hu]; rfl) (by have := HPL.out; omega) (Nat.le_trans HX.out.size HE8.out.size) ?_)
        intro v9 w9 ho9 hg9
        have HX9 : Hid (Ext w w9) := (HX.out.tr HE8.out).trans (grown_ext' hg9 (oB HO.out HE8.out) (Nat.le_trans HX.out.size HE8.out.size))
        have HO9 : Hid (OwnL w9 w.heap.size v9 (prodA (l.take (j + 1)))) := by
          show World.ownsRow _ _ _ _ _ _ _
          rw [HPS.out]
          simp only [Bool.false_eq_true, if_false, List.length_append, List.map_append]
          exact ho9
        clear ho9 hg9 y0 y1
        go_wp2
        exact ⟨⟨j + 1, by omega, by go_num, HO9.out, HX9.out⟩, by simp [intOf]; omega⟩
      . have HE8 := LH (Ext.al wr (.cells #[.int .i64 ty, .bool true] 165))
        have HO9 : Hid (OwnL (wr.alloc (.cells #[.int .i64 ty, .bool true] 165)) w.heap.size u3 (prodA (l.take (j + 1)))) := by
          show World.ownsRow _ _ _ _ _ _ _
          rw [HPS.out]
          simp only [if_true, List.append_nil]
          exact oB HO.out HE8.out
        go_wp2
        exact ⟨⟨j + 1, by omega, by go_num, HO9.out, HX.out.tr HE8.out⟩, by simp [intOf]; omega⟩
    . have HV : Hid (OwnL wr w.heap.size u3 (prodA l)) := by
        have h1 := HO.out
        rw [List.take_of_length_le (by omega)] at h1
        exact h1
      obtain ⟨A', c', hv⟩ := oSL HV.out
      subst hv
      go_wp2
      go_ret
      exact ⟨⟨_, rfl, HV.out⟩, HX.out⟩
end Go.Proofs.YtkdglplfcpindaaGreatDoor

namespace Go.Proofs.YtkdglplfcpindaaGreatDoor
open Go.RowKit
set_option maxHeartbeats 2000000 in
theorem hparams_any (f : Fn) (vp xa xc : Value) (w : World) (h : RPrms w vp f.ps) (hl : f.ps.length <= 1000000) (hxa : ∃ A n c, xa = .slice A n c) (hxc : ∃ A n c, xc = .slice A n c) :
    Calls Tryz.prog 119 #[fV f vp xa xc] w fun e w' => (∃ v, e = .returned v /\ OwnL w' w.heap.size v (f.ps.map Prm.ty)) /\ Ext w w' := by
  have H := LH h
  obtain ⟨A, c, rfl, hc, hm⟩ := h.form
  obtain ⟨Aa, na, ca, rfl⟩ := hxa
  obtain ⟨Ab, nb, cb, rfl⟩ := hxc
  clear h
  unfold maxLen at hm
  have HE := LH (Ext.al w (.cells #[.string f.nm, .slice A f.ps.length c, .int .i64 f.res, .int .i64 f.body.op, .int .i64 f.body.n, .string f.body.nm, .int .i64 f.body.ty, .slice Aa na ca, .slice Ab nb cb] 52))
  have HB := LH (hNw w (.cells #[.string f.nm, .slice A f.ps.length c, .int .i64 f.res, .int .i64 f.body.op, .int .i64 f.body.n, .string f.body.nm, .int .i64 f.body.ty, .slice Aa na ca, .slice Ab nb cb] 52))
  have c1 := cA HB.out 1
  go_enter Tryz.func119, Tryz.ntmps119
  go_wp2
  generalize w.alloc _ = w1 at *
  clear c1
  go_loopw [3, 9] (fun s i wr => ∃ (j : Nat), j <= f.ps.length /\ i = .int .i64 j /\ OwnL wr w.heap.size s ((f.ps.take j).map Prm.ty) /\ Ext w wr) (fun _ i _ => f.ps.length - (intOf i).toNat)
  case atStart => exact ⟨0, Nat.zero_le _, rfl, ⟨by simp, .inl ⟨rfl, by simp⟩⟩, HE.out⟩
  case round =>
    obtain ⟨j, hj, rfl, ho, hb⟩ := hrel
    have HX := LH hb
    have hlen : (List.map Prm.ty (List.take j f.ps)).length = j := by rw [List.length_map, List.length_take]; omega
    have ho : wr.ownsRow w.heap.size 3 1 u3 j ((List.map Prm.ty (List.take j f.ps)).map (Value.int .i64)) := by
      have h1 : wr.ownsRow w.heap.size 3 1 u3 (List.map Prm.ty (List.take j f.ps)).length ((List.map Prm.ty (List.take j f.ps)).map (Value.int .i64)) := ho
      rw [hlen] at h1; exact h1
    have HO := LH ho
    clear ho hb
    by_cases hlt : j < f.ps.length
    . obtain ⟨b, o, rfl, hbl, y0, y1, -⟩ := H.out.at_ hlt
      have y0 := HX.out.keep y0
      have y1 := HX.out.keep y1
      have HPS : Hid ((f.ps.take (j + 1)).map Prm.ty = (f.ps.take j).map Prm.ty ++ [(f.ps[j]).ty]) := by
        show _ = _
        rw [List.take_succ_eq_append_getElem hlt, List.map_append]; rfl
      generalize f.ps[j] = a at *
      have HE8 := LH (Ext.al2 wr (.cells #[.string a.nm, .int .i64 a.ty] 69) (.cells #[.int .i64 a.ty] 3))
      have hn8 := hNw (wr.alloc (.cells #[.string a.nm, .int .i64 a.ty] 69)) (.cells #[.int .i64 a.ty] 3)
      rw [World.size_alloc] at hn8
      have HSO : Hid (SrcN _ (some ⟨wr.heap.size + 1, 0, none⟩) 1 1 [.int .i64 a.ty]) := .inr ⟨_, rfl, rfl, fun i u hu => by
        have hi : i < 1 := (List.getElem?_eq_some_iff.1 hu).1
        match i, hi with
        | 0, _ => rw [add_at]; exact cA hn8 0 hu⟩
      clear hn8
      obtain ⟨L0, hL0⟩ : ∃ L0, (List.map Prm.ty (List.take j f.ps)).map (Value.int .i64) = L0 := ⟨_, rfl⟩
      rw [hL0] at HO
      have HL0 := LH hL0
      have HLN := LH hlen
      clear hL0 hlen
      go_wp2_with (at_builtin; refine app_vals Tryz.u57 Tryz.info3 rfl (by decide) (by decide) rfl _ _ rfl w.heap.size _ j L0 rfl (oB HO.out HE8.out) (some ⟨wr.heap.size + 1, 0, none⟩) 1 1 [.int .i64 a.ty] rfl HSO.out (fun u hu => by rw [List.mem_singleton.1 hu]; rfl) (by omega) (Nat.le_trans HX.out.size HE8.out.size) ?_)
      intro v9 w9 ho9 hg9
      have HX9 : Hid (Ext w w9) := (HX.out.tr HE8.out).trans (grown_ext' hg9 (oB HO.out HE8.out) (Nat.le_trans HX.out.size HE8.out.size))
      have HO9 : Hid (OwnL w9 w.heap.size v9 ((f.ps.take (j + 1)).map Prm.ty)) := by
        show World.ownsRow _ _ _ _ _ _ _
        rw [HPS.out, List.length_append, List.map_append, HLN.out, HL0.out]
        exact ho9
      clear ho9 hg9 y0 y1
      go_wp2
      exact ⟨⟨j + 1, by omega, by go_num, HO9.out, HX9.out⟩, by simp [intOf]; omega⟩
    . have HV : Hid (OwnL wr w.heap.size u3 (f.ps.map Prm.ty)) := by
        have h1 := HO.out
        rw [List.take_of_length_le (by omega)] at h1
        show World.ownsRow _ _ _ _ _ _ _
        rw [List.length_map, show f.ps.length = j by omega]
        exact h1
      obtain ⟨A', c', hv⟩ := oSL HV.out
      subst hv
      clear hlen
      go_wp2
      go_ret
      exact ⟨⟨_, rfl, HV.out⟩, HX.out⟩
end Go.Proofs.YtkdglplfcpindaaGreatDoor

namespace Go.Proofs.YtkdglplfcpindaaGreatDoor
open Go.RowKit
structure Fine (l : List Decl) : Prop where
  few : l.length <= 8
  name : ∀ d ∈ l, d.name.size <= 10
  xtors : ∀ d ∈ l, d.xtors.length <= 6
  xname : ∀ d ∈ l, ∀ x ∈ d.xtors, x.name.size <= 10
  args : ∀ d ∈ l, ∀ x ∈ d.xtors, x.args.length <= 6
  tys : ∀ d ∈ l, ∀ x ∈ d.xtors, ∀ a ∈ x.args, 0 <= a.ty /\ a.ty <= l.length
theorem fits_size {s : ByteArray} (h : fitsB s = true) : s.size <= 10 := by simp [fitsB] at h; exact h.1
theorem okXs_mem {t : Int} : ∀ {l : List Xtor} {S : List ByteArray}, okXs t S l = true -> ∀ x ∈ l, x.name.size <= 10 /\ x.args.length <= 6 /\ ∀ a ∈ x.args, 0 <= a.ty /\ a.ty <= t
  | [], _, _, x, hx => by simp at hx
  | y :: r, S, h, x, hx => by
    have h2 : (okX t S y && okXs t (S ++ [y.name]) r) = true := h
    simp only [Bool.and_eq_true] at h2
    rcases List.mem_cons.1 hx with rfl | hx
    . have h3 := h2.1
      simp only [okX, xtorB, Bool.and_eq_true, decide_eq_true_eq, List.all_eq_true, okTy] at h3
      exact ⟨fits_size h3.1.1.1.2, h3.1.2, h3.2⟩
    . exact okXs_mem h2.2 x hx
theorem okDs_mem {t : Int} : ∀ {l : List Decl} {S : List ByteArray}, okDs t S l = true -> ∀ d ∈ l, d.name.size <= 10 /\ d.xtors.length <= 6 /\ ∃ S', okXs t S' d.xtors = true
  | [], _, _, x, hx => by simp at hx
  | y :: r, S, h, x, hx => by
    have h2 : (okD t S y && okDs t (addD S y) r) = true := h
    simp only [Bool.and_eq_true] at h2
    rcases List.mem_cons.1 hx with rfl | hx
    . have h3 := h2.1
      simp only [okD, nameB, Bool.and_eq_true, decide_eq_true_eq] at h3
      exact ⟨fits_size h3.1.1.1.1.1.2, h3.1.2, ⟨_, h3.2⟩⟩
    . exact okDs_mem h2.2 x hx
theorem Fine.of {l : List Decl} (h : validB l = true) : Fine l := by
  simp only [validB, Bool.and_eq_true, decide_eq_true_eq] at h
  have hm := okDs_mem h.2
  refine ⟨h.1, fun d hd => (hm d hd).1, fun d hd => (hm d hd).2.1, fun d hd x hx => ?_, fun d hd x hx => ?_, fun d hd x hx => ?_⟩
  . obtain ⟨S, hs⟩ := (hm d hd).2.2; exact (okXs_mem hs x hx).1
  . obtain ⟨S, hs⟩ := (hm d hd).2.2; exact (okXs_mem hs x hx).2.1
  . obtain ⟨S, hs⟩ := (hm d hd).2.2; exact (okXs_mem hs x hx).2.2
end Go.Proofs.YtkdglplfcpindaaGreatDoor

namespace Go.Proofs.YtkdglplfcpindaaGreatDoor
open Go.RowKit
theorem decl_in5 {P : Pg} {ty : Int} {co : Bool} (h : isDeclB P ty co = true) : ∃ u d, ty = ((u + 1 : Nat) : Int) /\ P.decls[u]? = some d /\ declAt P ty = d /\ d.codata = co := by
  have h2 := isDecl_ok h
  obtain ⟨u, rfl⟩ : ∃ u : Nat, ty = (u : Int) + 1 := ⟨(ty - 1).toNat, by omega⟩
  have hu : u < P.decls.length := by omega
  rw [isDeclB_in hu] at h
  refine ⟨u, P.decls[u], by omega, List.getElem?_eq_getElem hu, ?_, by simpa using h⟩
  unfold declAt
  rw [show ((u : Int) + 1 - 1).toNat = u by omega, List.getD_eq_getElem?_getD, List.getElem?_eq_getElem hu]; rfl
theorem idx_in5 {n : Int} {m : Nat} (h : isIdxB n m = true) : ∃ k : Nat, n = k /\ k < m := by
  unfold isIdxB at h
  simp only [Bool.and_eq_true, decide_eq_true_eq] at h
  exact ⟨n.toNat, by omega, by omega⟩
theorem hasF_len5 {t : Tm} {a b c : Bool} {na nc : Int} (h : hasF t a b c na nc = true) : (t.args.length : Int) = na /\ (t.cls.length : Int) = nc := by
  unfold hasF at h
  simp only [Bool.and_eq_true, decide_eq_true_eq] at h
  exact ⟨h.1.2, h.2⟩
theorem fits_op5 {P : Pg} {t : Tm} (h : fitsT P t = true) : ∃ o : Nat, t.op = o /\ o <= 12 := by
  by_cases h0 : 0 <= t.op /\ t.op <= 12
  . exact ⟨t.op.toNat, by omega, by omega⟩
  . exfalso
    unfold fitsT at h
    rw [if_neg (by omega), if_neg (by omega), if_neg (by omega), if_neg (by omega), if_neg (by omega), if_neg (by omega), if_neg (by omega), if_neg (by omega), if_neg (by omega), if_neg (by omega), if_neg (by omega), if_neg (by omega)] at h
    cases h
theorem clsB_nth5 : ∀ (cls : List (List Str × Tm)) (xs : List Xtor) (n : Nat) (c : List Str × Tm), clsB xs cls = true -> cls[n]? = some c -> (c.1.length : Int) = prodI (xs.getD n noXtor)
  | [], _, _, _, _, h => by simp at h
  | c :: r, xs, 0, c', h, hc => by
    simp at hc; subst hc
    simp only [clsB, Bool.and_eq_true, decide_eq_true_eq] at h
    rw [h.1]; cases xs <;> rfl
  | c :: r, xs, n + 1, c', h, hc => by
    simp only [clsB, Bool.and_eq_true, decide_eq_true_eq] at h
    rw [List.getElem?_cons_succ] at hc
    rw [clsB_nth5 r xs.tail n c' h.2 hc]
    cases xs <;> simp
theorem fits_clause5 {P : Pg} {t : Tm} (hf : fitsT P t = true) {n : Nat} {c : List Str × Tm} (hc : t.cls[n]? = some c) :
    ∃ u d x, t.ty = ((u + 1 : Nat) : Int) /\ P.decls[u]? = some d /\ declAt P t.ty = d /\ d.xtors[n]? = some x /\ c.1.length = (prodL x).length := by
  have hn : n < t.cls.length := (List.getElem?_eq_some_iff.1 hc).1
  have key : ∀ (co : Bool) (na : Int), isDeclB P t.ty co = true -> fitsCB P t na = true -> ∃ u d x, t.ty = ((u + 1 : Nat) : Int) /\ P.decls[u]? = some d /\ declAt P t.ty = d /\ d.xtors[n]? = some x /\ c.1.length = (prodL x).length := by
    intro co na h1 h2
    obtain ⟨u, d, hty, hd, hda, hco⟩ := decl_in5 h1
    unfold fitsCB at h2
    rw [hda] at h2
    simp only [Bool.and_eq_true] at h2
    have hl := (hasF_len5 h2.1).2
    have hnx : n < d.xtors.length := by omega
    refine ⟨u, d, d.xtors[n], hty, hd, hda, List.getElem?_eq_getElem hnx, ?_⟩
    have := clsB_nth5 _ _ n c h2.2 hc
    rw [List.getD_eq_getElem?_getD, List.getElem?_eq_getElem hnx] at this
    unfold prodI at this
    unfold prodL
    rw [List.length_map]
    have this : (c.1.length : Int) = ((List.filter (fun a => !a.co) (d.xtors[n]).args).length : Int) := this
    exact Int.ofNat.inj this
  obtain ⟨o, ho, ho2⟩ := fits_op5 hf
  unfold fitsT at hf
  rw [ho] at hf
  match o, ho2 with
  | 0, _ => simp at hf; have := (hasF_len5 hf).2; omega
  | 1, _ => simp at hf; have := (hasF_len5 hf).2; omega
  | 2, _ => simp at hf; have := (hasF_len5 hf.1.1).2; omega
  | 3, _ => simp at hf; have := (hasF_len5 hf).2; omega
  | 4, _ =>
    simp at hf
    have h := hf.2
    unfold fitsXB at h
    simp only [Bool.and_eq_true] at h
    have := (hasF_len5 h.2).2; omega
  | 5, _ => simp at hf; exact key _ _ hf.1 hf.2
  | 6, _ =>
    simp at hf
    have h := hf.2
    unfold fitsXB at h
    simp only [Bool.and_eq_true] at h
    have := (hasF_len5 h.2).2; omega
  | 7, _ => simp at hf; exact key _ _ hf.1 hf.2
  | 8, _ => simp at hf; have := (hasF_len5 hf.1).2; omega
  | 9, _ => simp at hf; have := (hasF_len5 hf.2).2; omega
  | 10, _ => simp at hf; have := (hasF_len5 hf).2; omega
  | 11, _ => simp at hf; have := (hasF_len5 hf.1).2; omega
  | 12, _ => simp at hf; have := (hasF_len5 hf.1).2; omega
def Vld5 (P : Pg) (t : Tm) : Prop := ∃ V L, validT P V L t = true
theorem Vld5.fits {P : Pg} {t : Tm} (h : Vld5 P t) : fitsT P t = true := by
  obtain ⟨V, L, h⟩ := h
  rw [validT_kids] at h
  simp only [Bool.and_eq_true] at h
  exact h.1.1
def Found5 (E : Env) (V : Scp) : Prop := ∀ k, V k = true -> ∃ y, findE E k = some y
def VldS5 (P : Pg) (E F : Env) (t : Tm) : Prop := ∃ V L, validT P V L t = true /\ Found5 E V /\ Found5 F L
theorem VldS5.vld {P : Pg} {E F : Env} {t : Tm} (h : VldS5 P E F t) : Vld5 P t := by
  obtain ⟨V, L, h, -, -⟩ := h
  exact ⟨V, L, h⟩
theorem found_cons5 {E : Env} {V : Scp} (h : Found5 E V) (s : Str) (y : Int) (k : Str) (hk : (k.toList == s.toList) = true ∨ V k = true) : ∃ z, findE ((s, y) :: E) k = some z := by
  rw [findE]
  cases hq : (s.toList == k.toList)
  . rcases hk with hk | hk
    . have h1 : k.toList = s.toList := by simpa using hk
      rw [h1] at hq; simp at hq
    . simpa using h k hk
  . exact ⟨y, by simp⟩
theorem found_skip5 {E : Env} {V : Scp} (h : Found5 E V) (s : Str) (y : Int) : Found5 ((s, y) :: E) V := fun k hk => found_cons5 h s y k (.inr hk)
theorem found_bind5 : ∀ (ns : List Str) (ts : List Int) (E : Env) (V : Scp), ns.length <= ts.length -> Found5 E V -> Found5 (bindE ns ts E) (fun k => hasS ns k || V k)
  | [], ts, E, V, _, h => fun k hk => by
    have : V k = true := by simpa [hasS] using hk
    simpa [bindE] using h k this
  | s :: r, [], E, V, hl, _ => by simp at hl
  | s :: r, y :: q, E, V, hl, h => fun k hk => by
    rw [bindE]
    refine found_bind5 r q ((s, y) :: E) (fun k => (k.toList == s.toList) || V k) (by simpa using hl) (fun k hk => found_cons5 h s y k (by simpa using hk)) k ?_
    have h2 : (((k.toList == s.toList) || hasS r k) || V k) = true := hk
    cases h3 : (k.toList == s.toList) <;> simp [h3] at h2 ⊢
    exact h2
theorem VldS5.kid {P : Pg} {E F : Env} {t : Tm} (h : VldS5 P E F t) {i : Nat} (hi : i < t.args.length + t.cls.length) : VldS5 P (kidE P E F t i).1 (kidE P E F t i).2 (kidT t i) := by
  obtain ⟨V, L, hv, hE, hF⟩ := h
  have hfits : fitsT P t = true := Vld5.fits ⟨V, L, hv⟩
  rw [validT_kids] at hv
  simp only [Bool.and_eq_true, List.all_eq_true] at hv
  by_cases hlt : i < t.args.length
  . have hg := kidsFrom_get t.op t.nm t.args 0 i _ (List.getElem?_eq_getElem hlt)
    have hm := hv.2 _ (show (bndAt t.op t.nm (0 + i), t.args[i]) ∈ kids t from List.mem_append_left _ (List.mem_of_getElem? hg))
    unfold validK at hm
    simp only [Bool.and_eq_true, Nat.zero_add] at hm
    have e2 : kidT t i = t.args[i] := by unfold kidT; rw [if_pos hlt, List.getD_eq_getElem?_getD, List.getElem?_eq_getElem hlt]; rfl
    have e1 : kidE P E F t i = (argV t.op t.nm t.ty i E, argL t.op t.nm t.ty F) := by unfold kidE; rw [if_pos hlt]
    rw [e1, e2]
    refine ⟨_, _, hm.2, ?_, ?_⟩
    . show Found5 (argV t.op t.nm t.ty i E) _
      unfold argV bndAt addV
      by_cases h8 : t.op = 8 /\ i = 1
      . rw [if_pos h8, if_pos h8]
        intro k hk
        refine found_cons5 hE t.nm t.ty k ?_
        simpa [hasS] using hk
      . rw [if_neg h8, if_neg h8]
        by_cases h11 : t.op = 11 /\ i = 0
        . rw [if_pos h11]
          exact hE
        . rw [if_neg h11]
          intro k hk
          exact hE k (by simpa [hasS] using hk)
    . show Found5 (argL t.op t.nm t.ty F) _
      unfold argL bndAt addL
      by_cases h8 : t.op = 8 /\ i = 1
      . rw [if_pos h8, if_neg (by omega)]
        exact hF
      . rw [if_neg h8]
        by_cases h11 : t.op = 11 /\ i = 0
        . rw [if_pos h11, if_pos h11.1]
          intro k hk
          refine found_cons5 hF t.nm t.ty k ?_
          simpa [hasS] using hk
        . rw [if_neg h11]
          by_cases h1 : t.op = 11
          . rw [if_pos h1]; exact found_skip5 hF _ _
          . rw [if_neg h1]; exact hF
  . have hn : i - t.args.length < t.cls.length := by omega
    obtain ⟨u, d, x, hty, hd, hda, hx, hcx⟩ := fits_clause5 hfits (List.getElem?_eq_getElem hn)
    have hm := hv.2 _ (show (((t.cls[i - t.args.length]).1, false), (t.cls[i - t.args.length]).2) ∈ kids t from List.mem_append_right _ (List.mem_map.2 ⟨_, List.getElem_mem hn, rfl⟩))
    unfold validK at hm
    simp only [Bool.and_eq_true] at hm
    have e2 : kidT t i = (t.cls[i - t.args.length]).2 := by unfold kidT; rw [if_neg hlt, List.getD_eq_getElem?_getD, List.getElem?_eq_getElem hn]; rfl
    have e1 : kidE P E F t i = (bindE (t.cls[i - t.args.length]).1 (prodL x) E, F) := by
      unfold kidE; rw [if_neg hlt, List.getD_eq_getElem?_getD, List.getElem?_eq_getElem hn, hda, List.getD_eq_getElem?_getD, hx]; rfl
    rw [e1, e2]
    refine ⟨_, _, hm.2, ?_, ?_⟩
    . exact found_bind5 _ _ _ _ (by rw [hcx]; exact Nat.le_refl _) hE
    . exact hF
theorem VldS5.var {P : Pg} {E F : Env} {t : Tm} (h : VldS5 P E F t) (h0 : t.op = 0) : ∃ y, findE E t.nm = some y := by
  obtain ⟨V, L, hv, hE, hF⟩ := h
  rw [validT_kids] at hv
  simp only [Bool.and_eq_true] at hv
  have := hv.1.2
  unfold refB at this
  rw [if_pos h0] at this
  exact hE _ this
theorem VldS5.lab {P : Pg} {E F : Env} {t : Tm} (h : VldS5 P E F t) (h0 : t.op = 12) : ∃ y, findE F t.nm = some y := by
  obtain ⟨V, L, hv, hE, hF⟩ := h
  rw [validT_kids] at hv
  simp only [Bool.and_eq_true] at hv
  have := hv.1.2
  unfold refB at this
  rw [if_neg (by omega), if_pos h0] at this
  exact hF _ this
theorem prog_decls5 {P : Pg} (h : progB P = true) : validB P.decls = true /\ srcB P.decls = true := by
  unfold progB at h
  simp only [Bool.and_eq_true] at h
  exact h.1.1.1
end Go.Proofs.YtkdglplfcpindaaGreatDoor
