import Derived.Test.YtkdglplfcpindaaGreatDoorQ20
import Derived.Deep.LoopGhost
set_option maxRecDepth 100000
namespace Go.Proofs.YtkdglplfcpindaaGreatDoor
open Go.RowKit
structure MS (P : Pg) (w0 w : World) (mb : Nat) (vd vf lz : Value) (fuel : Nat) (s : St) (ov v : Value) : Prop where
  mc : MC P w0 w (turns mb ov) mb vd vf lz ov fuel 0 0 s.steps
  own : OwnL w w0.heap.size ov s.outs
  task : RTk P w0 w (turns mb ov) mb s.task v
structure ME (w0 w : World) (mb : Nat) (vd vf lz : Value) (fuel : Nat) (r : Rn) (ov : Value) : Prop where
  mb : MB w mb vd vf lz ov fuel r.stop r.val r.steps
  own : OwnL w w0.heap.size ov r.outs
  ext : Ext w0 w
def TaskP (P : Pg) (w0 w : World) (mb : Nat) (vd vf lz ov0 : Value) (fuel : Nat) (d : Rn ⊕ St) (e : Ending) (w' : World) : Prop := match d with
  | .inr s => ∃ v ov, e = .returned v /\ MS P w0 w' mb vd vf lz fuel s ov v /\ Kp (turns mb ov0) (turns mb ov) w w'
  | .inl r => ∃ ov, e = .returned .nilIface /\ ME w0 w' mb vd vf lz fuel r ov /\ Kp (turns mb ov0) (turns mb ov) w w'
theorem TaskP.form {P : Pg} {w0 w : World} {mb : Nat} {vd vf lz ov : Value} {fuel : Nat} {d : Rn ⊕ St} : ∀ (e : Ending) (w' : World), TaskP P w0 w mb vd vf lz ov fuel d e w' -> e = .returned .nilIface ∨ ∃ t u, e = .returned (.iface t u) := by
  intro e w' h
  cases d with
  | inl r => obtain ⟨ov, h1, -⟩ := h; exact .inl h1
  | inr s => obtain ⟨v, ov, h1, h2, -⟩ := h; obtain ⟨t, u, rfl⟩ := h2.task.form; exact .inr ⟨t, u, h1⟩
section
variable {P : Pg} {w0 w : World} {mb : Nat} {vd vf lz ov : Value} {fuel st : Nat} {outs : List Int}
theorem TaskP.go {w1 : World} (hw : Ext w w1) (hC : MC P w0 w1 (turns mb ov) mb vd vf lz ov fuel 0 0 st) (hO : OwnL w1 w0.heap.size ov outs) {q : Tk} : ∀ (e : Ending) (w' : World), ((∃ v, e = .returned v /\ RTk P w0 w' (turns mb ov) mb q v) /\ Ext w1 w') -> TaskP P w0 w mb vd vf lz ov fuel (.inr ⟨st, outs ++ [], q⟩) e w' := by
  rintro e w' ⟨⟨v, rfl, hr⟩, hx⟩
  exact ⟨v, ov, rfl, ⟨hC.ext' hx, by rw [List.append_nil]; exact oB hO hx, hr⟩, Kp.of_ext (hw.tr hx)⟩
theorem TaskP.stop {w1 : World} (hw : Ext w w1) (hC : MC P w0 w1 (turns mb ov) mb vd vf lz ov fuel 0 0 st) (hO : OwnL w1 w0.heap.size ov outs) {how val : Int} : ∀ (e : Ending) (w' : World), ((e = .returned .nilIface /\ MB w' mb vd vf lz ov fuel how val st) /\ Only (fun b => b = mb) w1 w') -> TaskP P w0 w mb vd vf lz ov fuel (.inl ⟨how, val, outs ++ [], st⟩) e w' := by
  rintro e w' ⟨⟨rfl, hm⟩, ho⟩
  exact ⟨ov, rfl, ⟨hm, by rw [List.append_nil]; exact own_only hO hC.mb ho, (hC.only ho hm).ext⟩, (Kp.of_ext hw).tr (Kp.of_only ho (fun b hb => .inl hb))⟩
theorem ev_task (hC : MC P w0 w (turns mb ov) mb vd vf lz ov fuel 0 0 st) (hO : OwnL w w0.heap.size ov outs) (hf : fuel <= 20000) (hst : st <= fuel) {t : Tm} {en : En} {k : Kt} {va vc pv pl kv : Value} (hE : Ev5 P w0 w (turns mb ov) mb t en k va vc pv pl kv) (hT : TS false P (.ev t en k)) :
    Calls Tryz.prog 196 #[.agg (evV t va vc pv pl kv), .pointer (some ⟨mb, 0, none⟩)] w (TaskP P w0 w mb vd vf lz ov fuel (doS P fuel ⟨st, outs, .ev t en k⟩)) := by
  by_cases hs : st = fuel
  . have hd : doS P fuel ⟨st, outs, .ev t en k⟩ = .inl ⟨1, 0, outs, st⟩ := by simp only [doS]; rw [if_pos hs]
    rw [hd]
    subst hs
    refine (doSpent_any P w0 w (turns mb ov) mb vd vf lz ov 0 0 st t en k va vc pv pl kv hC hE).mono ?_
    rintro e w' ⟨⟨rfl, hm⟩, ho⟩
    exact ⟨ov, rfl, ⟨hm, own_only hO hC.mb ho, (hC.only ho hm).ext⟩, Kp.of_only ho (fun b hb => .inl hb)⟩
  . refine (do_any P w0 w (turns mb ov) mb vd vf lz ov fuel 0 0 st t en k va vc pv pl kv hC hE hT (by omega) (by omega) (by omega)).mono ?_
    rintro e w' ⟨⟨q, v, hq, rfl, hr, hm⟩, ho⟩
    have hd : doS P fuel ⟨st, outs, .ev t en k⟩ = .inr ⟨st + 1, outs, q⟩ := by simp only [doS]; rw [if_neg hs, hq]
    rw [hd]
    exact ⟨v, ov, rfl, ⟨hC.only ho hm, own_only hO hC.mb ho, hr⟩, Kp.of_only ho (fun b hb => .inl hb)⟩
theorem Ev5.of {t : Tm} {en : En} {k : Kt} {va vc pv pl kv : Value} {bad : Nat -> Prop} (h1 : RTx w0 t va vc) (h2 : D5 P w0 w bad mb (.vs pv en.vs)) (h3 : D5 P w0 w bad mb (.ls pl en.ls)) (h4 : D5 P w0 w bad mb (.k kv k)) : Ev5 P w0 w bad mb t en k va vc pv pl kv := ⟨h1, h2, h3, h4⟩
end
end Go.Proofs.YtkdglplfcpindaaGreatDoor

namespace Go.Proofs.YtkdglplfcpindaaGreatDoor
open Go.RowKit
section
variable {P : Pg} {w0 w : World} {mb : Nat} {vd vf lz ov : Value} {fuel st : Nat} {outs : List Int}
theorem pass_task (hC : MC P w0 w (turns mb ov) mb vd vf lz ov fuel 0 0 st) (hO : OwnL w w0.heap.size ov outs) (hol : outs.length <= 100000) {x : Vl} {k : Kt} {a kv : Value} (hx : D5 P w0 w (turns mb ov) mb (.v a x)) (hk : D5 P w0 w (turns mb ov) mb (.k kv k)) (hT : TS false P (.pass x k)) :
    Calls Tryz.prog 211 #[.agg #[a, kv], .pointer (some ⟨mb, 0, none⟩)] w (TaskP P w0 w mb vd vf lz ov fuel (doS P fuel ⟨st, outs, .pass x k⟩)) := by
  obtain ⟨y, hty, htk⟩ := hT
  obtain ⟨ta, ua, ea⟩ := hx.v_form
  have hB : ∀ (o : Obj), MC P w0 (w.alloc o) (turns mb ov) mb vd vf lz ov fuel 0 0 st := fun o => hC.ext' (Ext.al w o)
  have hOB : ∀ (o : Obj), OwnL (w.alloc o) w0.heap.size ov outs := fun o => oB hO (Ext.al w o)
  have hP := hC.prog
  cases hk with
  | fin =>
    cases hx with
    | int n h => exact pass_finish w mb _ _ _ _ ((fin_int _ mb vd vf lz ov fuel 0 0 st n (hB _).mb).mono (TaskP.stop (Ext.al w _) (hB _) (hOB _))) TaskP.form
    | con ty n b l h1 h2 h3 => exact pass_finish w mb _ _ _ _ ((fin_not_construct _ mb vd vf lz ov fuel 0 0 st _ (hB _).mb).mono (TaskP.stop (Ext.al w _) (hB _) (hOB _))) TaskP.form
    | obj t e ua uc qv ql h1 h2 h3 => exact pass_finish w mb _ _ _ _ ((fin_not_object _ mb vd vf lz ov fuel 0 0 st _ (hB _).mb).mono (TaskP.stop (Ext.al w _) (hB _) (hOB _))) TaskP.form
  | left t e va vc pv pl kv k h1 h2 h3 h4 =>
    have hE : ∀ (o : Obj), Ev5 P w0 (w.alloc o) (turns mb ov) mb t e k va vc pv pl kv := fun o => (Ev5.of h1 h2 h3 h4).ext (Ext.al w o)
    cases htk with
    | left _ _ _ z E F _ g0 g1 g2 g3 g4 g5 =>
      have hal := (fit2 g1.vld.fits g0).1
      cases hx with
      | int n h => exact pass_leftOperand w mb _ _ _ _ ((left_int P w0 _ (turns mb ov) mb vd vf lz ov fuel 0 0 st t e k va vc pv pl kv (hB _) (hE _) n h hal).mono (TaskP.go (Ext.al w _) (hB _) (hOB _))) TaskP.form
      | con ty n b l h1 h2 h3 => exact pass_leftOperand w mb _ _ _ _ ((left_not_construct P w0 _ (turns mb ov) mb vd vf lz ov fuel 0 0 st t e k va vc pv pl kv (hB _) (hE _) _).mono (TaskP.stop (Ext.al w _) (hB _) (hOB _))) TaskP.form
      | obj _ _ _ _ _ _ h1 h2 h3 => exact pass_leftOperand w mb _ _ _ _ ((left_not_object P w0 _ (turns mb ov) mb vd vf lz ov fuel 0 0 st t e k va vc pv pl kv (hB _) (hE _) _).mono (TaskP.stop (Ext.al w _) (hB _) (hOB _))) TaskP.form
  | right t e c va vc pv pl kv k h0 h1 h2 h3 h4 =>
    have hE : ∀ (o : Obj), Ev5 P w0 (w.alloc o) (turns mb ov) mb t e k va vc pv pl kv := fun o => (Ev5.of h1 h2 h3 h4).ext (Ext.al w o)
    cases htk with
    | right _ _ _ _ z E F _ g0 g1 g2 g3 g4 g5 =>
      have hal := (fit2 g1.vld.fits g0).2.2
      cases hx with
      | int n h => exact pass_rightOperand w mb _ _ _ _ ((right_int P w0 _ (turns mb ov) mb vd vf lz ov fuel 0 0 st t e k va vc pv pl kv (hB _) (hE _) c n h hal).mono (TaskP.go (Ext.al w _) (hB _) (hOB _))) TaskP.form
      | con ty n b l h1 h2 h3 => exact pass_rightOperand w mb _ _ _ _ ((right_not_construct P w0 _ (turns mb ov) mb vd vf lz ov fuel 0 0 st t e k va vc pv pl kv (hB _) (hE _) c _).mono (TaskP.stop (Ext.al w _) (hB _) (hOB _))) TaskP.form
      | obj _ _ _ _ _ _ h1 h2 h3 => exact pass_rightOperand w mb _ _ _ _ ((right_not_object P w0 _ (turns mb ov) mb vd vf lz ov fuel 0 0 st t e k va vc pv pl kv (hB _) (hE _) c _).mono (TaskP.stop (Ext.al w _) (hB _) (hOB _))) TaskP.form
  | zero t e va vc pv pl kv k h1 h2 h3 h4 =>
    have hE : ∀ (o : Obj), Ev5 P w0 (w.alloc o) (turns mb ov) mb t e k va vc pv pl kv := fun o => (Ev5.of h1 h2 h3 h4).ext (Ext.al w o)
    cases htk with
    | zero _ _ _ z E F _ g0 g1 g2 g3 g4 g5 =>
      have hal := (fit3 g1.vld.fits g0).1
      cases hx with
      | int n h =>
        by_cases hn : n = 0
        . have hd : doS P fuel ⟨st, outs, .pass (.int n) (.zero t e :: k)⟩ = .inr ⟨st, outs ++ [], .ev (t.args.getD 1 noTm) e k⟩ := by simp only [doS, recS]; rw [if_pos hn]
          rw [hd]
          exact pass_zeroTest w mb _ _ _ _ ((zero_int1 P w0 _ (turns mb ov) mb vd vf lz ov fuel 0 0 st t e k va vc pv pl kv (hB _) (hE _) n h (by simpa using hn) hal).mono (TaskP.go (Ext.al w _) (hB _) (hOB _))) TaskP.form
        . have hd : doS P fuel ⟨st, outs, .pass (.int n) (.zero t e :: k)⟩ = .inr ⟨st, outs ++ [], .ev (t.args.getD 2 noTm) e k⟩ := by simp only [doS, recS]; rw [if_neg hn]
          rw [hd]
          exact pass_zeroTest w mb _ _ _ _ ((zero_int2 P w0 _ (turns mb ov) mb vd vf lz ov fuel 0 0 st t e k va vc pv pl kv (hB _) (hE _) n h (by simpa using hn) hal).mono (TaskP.go (Ext.al w _) (hB _) (hOB _))) TaskP.form
      | con ty n b l h1 h2 h3 => exact pass_zeroTest w mb _ _ _ _ ((zero_not_construct P w0 _ (turns mb ov) mb vd vf lz ov fuel 0 0 st t e k va vc pv pl kv (hB _) (hE _) _).mono (TaskP.stop (Ext.al w _) (hB _) (hOB _))) TaskP.form
      | obj _ _ _ _ _ _ h1 h2 h3 => exact pass_zeroTest w mb _ _ _ _ ((zero_not_object P w0 _ (turns mb ov) mb vd vf lz ov fuel 0 0 st t e k va vc pv pl kv (hB _) (hE _) _).mono (TaskP.stop (Ext.al w _) (hB _) (hOB _))) TaskP.form
  | emit t e va vc pv pl kv k h1 h2 h3 h4 =>
    have hE : ∀ (o : Obj), Ev5 P w0 (w.alloc o) (turns mb ov) mb t e k va vc pv pl kv := fun o => (Ev5.of h1 h2 h3 h4).ext (Ext.al w o)
    cases htk with
    | emit _ _ _ z E F _ g0 g1 g2 g3 g4 g5 =>
      have hal := (fit10 g1.vld.fits g0).1
      cases hx with
      | int n h =>
        refine pass_emission w mb _ _ _ _ ((emit_int P w0 _ mb vd vf lz ov fuel 0 0 st t e k va vc pv pl kv outs n (hB _) (hE _) (hOB _) hol hal).mono ?_) TaskP.form
        rintro e' w' ⟨v, ov', rfl, hr, hc, ho, hkp⟩
        exact ⟨v, ov', rfl, ⟨hc, ho, hr⟩, (Kp.of_ext (Ext.al w _)).tr hkp⟩
      | con ty n b l h1 h2 h3 => exact pass_emission w mb _ _ _ _ ((emit_not_construct P w0 _ (turns mb ov) mb vd vf lz ov fuel 0 0 st t e k va vc pv pl kv (hB _) (hE _) _).mono (TaskP.stop (Ext.al w _) (hB _) (hOB _))) TaskP.form
      | obj _ _ _ _ _ _ h1 h2 h3 => exact pass_emission w mb _ _ _ _ ((emit_not_object P w0 _ (turns mb ov) mb vd vf lz ov fuel 0 0 st t e k va vc pv pl kv (hB _) (hE _) _).mono (TaskP.stop (Ext.al w _) (hB _) (hOB _))) TaskP.form
  | ana t e va vc pv pl kv k h1 h2 h3 h4 =>
    have hE : ∀ (o : Obj), Ev5 P w0 (w.alloc o) (turns mb ov) mb t e k va vc pv pl kv := fun o => (Ev5.of h1 h2 h3 h4).ext (Ext.al w o)
    cases htk with
    | ana _ _ _ z E F _ g0 g1 g2 g3 g4 g5 =>
      have hf5 := fit5 g1.vld.fits g0
      cases hx with
      | int n h => exact pass_analysis w mb _ _ _ _ ((ana_not_integer P w0 _ (turns mb ov) mb vd vf lz ov fuel 0 0 st t e k va vc pv pl kv (hB _) (hE _) _).mono (TaskP.stop (Ext.al w _) (hB _) (hOB _))) TaskP.form
      | con d n b l q1 q2 q3 =>
        by_cases hd : d = t.ty
        . subst hd
          cases hty with
          | con _ _ _ _ u0 u1 u2 u3 =>
            obtain ⟨m, rfl, hm⟩ := idx_in5 u1
            have hmc : m < t.cls.length := by omega
            have hcl : (t.cls.getD m ([], noTm)).1.length <= l.length := by
              have e1 : t.cls.getD m ([], noTm) = t.cls[m] := by rw [List.getD_eq_getElem?_getD, List.getElem?_eq_getElem hmc]; rfl
              obtain ⟨u, d', x', hu, hdu, hda, hx', hcx⟩ := fits_clause5 g1.vld.fits (List.getElem?_eq_getElem hmc)
              have e2 : xtorAt P t.ty (m : Int) = x' := by unfold xtorAt; rw [hda, Int.toNat_natCast, List.getD_eq_getElem?_getD, hx']; rfl
              rw [e1, hcx, u3.len, e2]
              exact Nat.le_refl _
            have hdo : doS P fuel ⟨st, outs, .pass (.con t.ty (m : Int) l) (.ana t e :: k)⟩ = .inr ⟨st, outs ++ [], .ev (t.cls.getD m ([], noTm)).2 (bindV e (t.cls.getD m ([], noTm)).1 l) k⟩ := by
              simp only [doS, recS, if_true, Int.toNat_natCast]
            rw [hdo]
            exact pass_analysis w mb _ _ _ _ ((ana_con P w0 _ (turns mb ov) mb vd vf lz ov fuel 0 0 st t e k va vc pv pl kv _ m l (hB _) (hE _) (q3.ext (Ext.al w _)) hmc hcl).mono (TaskP.go (Ext.al w _) (hB _) (hOB _))) TaskP.form
        . have hdo : doS P fuel ⟨st, outs, .pass (.con d n l) (.ana t e :: k)⟩ = .inl ⟨2, 0, outs ++ [], st⟩ := by
            simp only [doS, recS, if_neg hd]
          rw [hdo]
          exact pass_analysis w mb _ _ _ _ ((ana_other P w0 _ (turns mb ov) mb vd vf lz ov fuel 0 0 st t e k va vc pv pl kv (hB _) (hE _) d n _ l (q3.ext (Ext.al w _)) (by simpa using hd)).mono (TaskP.stop (Ext.al w _) (hB _) (hOB _))) TaskP.form
      | obj _ _ _ _ _ _ h1 h2 h3 => exact pass_analysis w mb _ _ _ _ ((ana_not_object P w0 _ (turns mb ov) mb vd vf lz ov fuel 0 0 st t e k va vc pv pl kv (hB _) (hE _) _).mono (TaskP.stop (Ext.al w _) (hB _) (hOB _))) TaskP.form
  | obs t e va vc pv pl kv b l k h1 h2 h3 h4 h5 =>
    have hE : ∀ (o : Obj), Ev5 P w0 (w.alloc o) (turns mb ov) mb t e k va vc pv pl kv := fun o => (Ev5.of h1 h2 h3 h4).ext (Ext.al w o)
    cases htk with
    | obs _ _ _ _ z E F _ g0 g1 g2 g3 g4 g5 g6 =>
      have hf6 := fit6 g1.vld.fits g0
      cases hx with
      | int n h => exact pass_observation w mb _ _ _ _ ((obs_not_integer P w0 _ (turns mb ov) mb vd vf lz ov fuel 0 0 st t e k va vc pv pl kv (hB _) (hE _) _ l (h5.ext (Ext.al w _)) _).mono (TaskP.stop (Ext.al w _) (hB _) (hOB _))) TaskP.form
      | con _ _ _ _ q1 q2 q3 => exact pass_observation w mb _ _ _ _ ((obs_not_construct P w0 _ (turns mb ov) mb vd vf lz ov fuel 0 0 st t e k va vc pv pl kv (hB _) (hE _) _ l (h5.ext (Ext.al w _)) _).mono (TaskP.stop (Ext.al w _) (hB _) (hOB _))) TaskP.form
      | obj u eu ua uc qv ql q1 q2 q3 =>
        by_cases hd : u.ty = t.ty
        . cases hty with
          | obj _ _ _ E' F' u0 u1 u2 u3 u4 =>
            have hf7 := fit7 u1.vld.fits u0
            obtain ⟨m, hm1, hm⟩ := idx_in5 hf6.2.1
            have hmc : m < u.cls.length := by rw [hf7.2.2.1, hd]; exact hm
            have hcl : (u.cls.getD m ([], noTm)).1.length <= l.length := by
              have e1 : u.cls.getD m ([], noTm) = u.cls[m] := by rw [List.getD_eq_getElem?_getD, List.getElem?_eq_getElem hmc]; rfl
              obtain ⟨_, d', x', hu, hdu, hda, hx', hcx⟩ := fits_clause5 u1.vld.fits (List.getElem?_eq_getElem hmc)
              have e2 : xtorAt P t.ty t.n = x' := by unfold xtorAt; rw [← hd, hda, hm1, Int.toNat_natCast, List.getD_eq_getElem?_getD, hx']; rfl
              rw [e1, hcx, g6.len, e2]
              exact Nat.le_refl _
            have hdo : doS P fuel ⟨st, outs, .pass (.obj u eu) (.obs t e l :: k)⟩ = .inr ⟨st, outs ++ [], .ev (u.cls.getD m ([], noTm)).2 (bindV eu (u.cls.getD m ([], noTm)).1 l) k⟩ := by
              simp only [doS, recS, if_pos hd, hm1, Int.toNat_natCast]
            rw [hdo]
            exact pass_observation w mb _ _ _ _ ((obs_obj P w0 _ (turns mb ov) mb vd vf lz ov fuel 0 0 st t e k va vc pv pl kv _ m l u eu ua uc qv ql (hB _) (hE _) (h5.ext (Ext.al w _)) q1 (q2.ext (Ext.al w _)) (q3.ext (Ext.al w _)) hd hm1 hmc hcl).mono (TaskP.go (Ext.al w _) (hB _) (hOB _))) TaskP.form
        . have hdo : doS P fuel ⟨st, outs, .pass (.obj u eu) (.obs t e l :: k)⟩ = .inl ⟨2, 0, outs ++ [], st⟩ := by
            simp only [doS, recS, if_neg hd]
          rw [hdo]
          exact pass_observation w mb _ _ _ _ ((obs_other P w0 _ (turns mb ov) mb vd vf lz ov fuel 0 0 st t e k va vc pv pl kv (hB _) (hE _) _ l (h5.ext (Ext.al w _)) u eu ua uc qv ql q1 (q2.ext (Ext.al w _)) (q3.ext (Ext.al w _)) (by simpa using hd)).mono (TaskP.stop (Ext.al w _) (hB _) (hOB _))) TaskP.form
  | bind t e va vc pv pl kv b vt vy fv ts ys l k h1 h2 h3 h4 h5 h6 h7 h8 =>
    have hE : ∀ (o : Obj), Ev5 P w0 (w.alloc o) (turns mb ov) mb t e k va vc pv pl kv := fun o => (Ev5.of h1 h2 h3 h4).ext (Ext.al w o)
    cases htk with
    | bind _ _ _ j _ z E F _ g0 g1 g2 g3 g4 g5 hj g6 =>
      have hf := g1.vld.fits
      have hlen := (terms_len hP hf g0).1
      have hrg := types_range hP hf g0
      have hll := g6.len
      rw [List.length_take] at hll
      rw [ea]
      refine pass_binding w mb _ _ _ _ ((bind_rcv P w0 _ (turns mb ov) mb vd vf lz ov fuel 0 0 st t e k va vc pv pl kv ((termsOf t).drop j) ((typesOf P t).drop j) l vt vy _ fv _ x (hB _) (hE _) h6 (RIs.kp (Kp.of_ext (Ext.al w _)) h7) (h5.ext (Ext.al w _)) (ea ▸ hx.ext (Ext.al w _)) (ThV.kp (Kp.of_ext (Ext.al w _)) h8) g0 hf (by rw [List.length_drop]; omega) (by rw [List.length_drop, List.length_drop]; omega) (by rw [List.length_drop]; omega) (fun y hy => hrg.1 y (List.mem_of_mem_drop hy)) (by omega)).mono ?_) TaskP.form
      exact TaskP.go (Ext.al w _) (hB _) (hOB _)
end
end Go.Proofs.YtkdglplfcpindaaGreatDoor

namespace Go.Proofs.YtkdglplfcpindaaGreatDoor
open Go.RowKit
def heldV (n : Int) : Value := .iface 96 (.agg #[.iface 92 (.int .i64 n)])
def upH (l : List Int) (k : Nat) : List Value := (l.take k).map heldV ++ List.replicate (l.length - k) Value.nilIface
theorem upH_length {l : List Int} {k : Nat} (h : k <= l.length) : (upH l k).length = l.length := by simp [upH]; omega
theorem upH_step {l : List Int} {k : Nat} (h : k < l.length) : (upH l k).set k (heldV l[k]) = upH l (k + 1) := by
  unfold upH
  rw [List.set_append]
  have h0 : ((l.take k).map heldV).length = k := by simp; omega
  have h1 : ¬ k < ((l.take k).map heldV).length := by omega
  rw [if_neg h1, List.take_succ_eq_append_getElem h, List.map_append, List.append_assoc]
  congr 1
  have h2 : k - ((l.take k).map heldV).length = 0 := by omega
  rw [h2, show l.length - k = (l.length - (k + 1)) + 1 by omega, List.replicate_succ]
  rfl
theorem upH_zero (l : List Int) : upH l 0 = List.replicate l.length Value.nilIface := by simp [upH]
theorem upH_end (l : List Int) : upH l l.length = l.map heldV := by simp [upH]
def IBlk (w : World) (g : Nat) (S : List Value) : Prop := w.heap[g]? = some (.cells S.toArray 98 (0, 0))
section
variable {w w' : World} {g : Nat} {S : List Value}
theorem IBlk.cell (h : IBlk w g S) {i : Nat} (hi : i < S.length) : w.cell? ⟨g, i, none⟩ = some S[i] := by
  unfold IBlk at h
  simp [World.cell?, h, hi]
theorem IBlk.frozen (h : IBlk w g S) (i : Nat) : w.frozen? ⟨g, i, none⟩ = false := by
  unfold IBlk at h
  simp [World.frozen?, h]
theorem IBlk.set (h : IBlk w g S) (i : Nat) (b : Value) : IBlk (w.setCell ⟨g, i, none⟩ b) g (S.set i b) := by
  unfold IBlk at h ⊢
  simp [World.setCell, Array.getElem?_modify, h]
end
theorem Tryz.underlyingIs : Tryz.prog.underlying 91 = some (.slice 98) := by kernel_rfl
theorem made_items (n : Nat) : madeCells #[Value.nilIface] n = (List.replicate n Value.nilIface).toArray := by
  apply Array.ext
  . simp [size_madeCells]
  . intro i h1 h2
    have hz : (#[Value.nilIface] : Array Value)[0]! = Value.nilIface := rfl
    simp [madeCells, Nat.mod_one]
theorem make_items (w : World) (n : Nat) (h : n <= 1000000) : (Instr.makeSlice 91 (.int .i64 n) (.int .i64 n)).run Tryz.prog w = .ok (.slice (some ⟨w.heap.size, 0, none⟩) n n) (w.alloc (.cells (List.replicate n Value.nilIface).toArray 98)) := by
  obtain ⟨i0, hi, hz0, hz1, hz2⟩ := info_parts Tryz.infoI
  have := run_make w 91 98 i0 .nilIface Tryz.underlyingIs hi hz0 .i64 .i64 n n (by omega) (by omega) (by rw [hz2]; omega) (by omega)
  rw [this, hz1]
  simp only [Int.toNat_natCast, Nat.mul_one]
  rw [show (Value.nilIface).cells = #[Value.nilIface] from rfl, made_items]
theorem IBlk.items {P : Pg} {w0 w : World} {bad : Nat -> Prop} {mb g : Nat} {l : List Int} (h : IBlk w g (l.map heldV)) (hb : ¬ bad g) (hl : l.length <= maxLen) (hi : ∀ n ∈ l, ok64 n) :
    D5 P w0 w bad mb (.is (.slice (some ⟨g, 0, none⟩) l.length l.length) (l.map fun n => .held (.int n))) := by
  have e : l.length = (l.map fun n => It.held (.int n)).length := by simp
  have := D5.icons (P := P) (w0 := w0) (w := w) (bad := bad) (mb := mb) g 0 l.length (fun i => heldV (l.getD i 0)) (l.map fun n => It.held (.int n)) (by rw [← e]; exact Nat.le_refl _) hl (fun _ => hb) (fun i hi => by
    rw [← e] at hi
    rw [Nat.zero_add, h.cell (by simpa using hi), List.getElem_map, List.getD_eq_getElem?_getD, List.getElem?_eq_getElem hi]; rfl) (fun i x hx => by
    obtain ⟨hlt, rfl⟩ := List.getElem?_eq_some_iff.1 hx
    have hlt2 : i < l.length := by simpa using hlt
    rw [List.getElem_map]
    show D5 P w0 w bad mb (.i (heldV (l.getD i 0)) _)
    rw [List.getD_eq_getElem?_getD, List.getElem?_eq_getElem hlt2]
    exact .held _ _ (.int _ (hi _ (List.getElem_mem hlt2))))
  rw [← e] at this
  exact this
theorem recS_out {P : Pg} {v : Vl} {k : Kt} {q : Tk} {o : List Int} (h : recS P v k = (.go q, o)) : o = [] ∨ (o.length = 1 /\ ∃ t e k', q = .ev t e k') := by
  cases k with
  | nil => cases v <;> simp [recS] at h
  | cons f k =>
    cases f <;> cases v <;> simp only [recS] at h <;> (try split at h) <;> simp only [Prod.mk.injEq, Nx.go.injEq, reduceCtorEq, false_and] at h <;> obtain ⟨rfl, rfl⟩ := h
    all_goals first | exact .inl rfl | exact .inr ⟨rfl, _, _, _, rfl⟩
def OB (s : St) : Prop := s.outs.length <= s.steps + (match s.task with | .ev _ _ _ => 1 | .pass _ _ => 0)
theorem doS_out {P : Pg} {fuel : Nat} {s s' : St} (h : OB s) (hd : doS P fuel s = .inr s') : OB s' := by
  obtain ⟨st, o, tk⟩ := s
  cases tk with
  | ev t e k =>
    have h1 : o.length <= st + 1 := h
    simp only [doS] at hd
    split at hd
    . cases hd
    . split at hd
      . cases hd
        exact Nat.le_trans h1 (Nat.le_add_right _ _)
      . cases hd
  | pass v k =>
    have h1 : o.length <= st := h
    simp only [doS] at hd
    split at hd
    . rename_i q o' hq
      cases hd
      rcases recS_out hq with rfl | ⟨h2, t, e, k', rfl⟩
      . show (o ++ []).length <= st + _
        rw [List.append_nil]
        exact Nat.le_trans h1 (Nat.le_add_right _ _)
      . show (o ++ o').length <= st + 1
        rw [List.length_append]; omega
    . cases hd
end Go.Proofs.YtkdglplfcpindaaGreatDoor

namespace Go.Proofs.YtkdglplfcpindaaGreatDoor
theorem recS_stop {P : Pg} {v : Vl} {k : Kt} {how val : Int} {o : List Int} (h : recS P v k = (.stop how val, o)) : how = 0 ∨ how = 2 := by
  cases k with
  | nil => cases v <;> simp [recS] at h <;> omega
  | cons f k =>
    cases f <;> cases v <;> simp only [recS] at h <;> (try split at h) <;> first | (cases h; done) | (cases h; omega) | (simp at h)
theorem evS_stop {P : Pg} {t : Tm} {e : En} {k : Kt} {how val : Int} (h : evS P t e k = .stop how val) : how = 2 := by
  unfold evS at h
  repeat' (split at h)
  all_goals first | (cases h; rfl) | cases h | (simp at h; omega)
theorem doS_steps {P : Pg} {fuel : Nat} {s : St} (h : s.steps <= fuel) : (∀ s', doS P fuel s = .inr s' -> s'.steps <= fuel /\ s.steps <= s'.steps /\ s.outs <+: s'.outs) ∧
    (∀ r, doS P fuel s = .inl r -> r.steps <= fuel /\ s.steps <= r.steps /\ s.outs <+: r.outs /\ (r.stop = 1 -> r.steps = fuel) /\ (r.stop = 0 ∨ r.stop = 1 ∨ r.stop = 2)) := by
  obtain ⟨st, o, tk⟩ := s
  simp only at h
  cases tk with
  | ev t e k =>
    by_cases hs : st = fuel
    . simp only [doS, if_pos hs]
      refine ⟨fun s' h => (by cases h), fun r h => ?_⟩
      cases h
      exact ⟨h, Nat.le_refl _, List.prefix_refl _, fun _ => hs, by simp⟩
    . simp only [doS, if_neg hs]
      cases hz : evS P t e k with
      | go q =>
        refine ⟨fun s' h => ?_, fun r h => (by cases h)⟩
        cases h
        exact ⟨by simp only; omega, by simp only; omega, List.prefix_refl _⟩
      | stop how val =>
        refine ⟨fun s' h => (by cases h), fun r h => ?_⟩
        cases h
        have := evS_stop hz
        exact ⟨by simp only; omega, by simp only; omega, List.prefix_refl _, fun h => by simp only at h; omega, by simp only; omega⟩
  | pass v k =>
    cases hz : recS P v k with
    | mk a c =>
      simp only [doS, hz]
      cases a with
      | go q =>
        refine ⟨fun s' h => ?_, fun r h => (by cases h)⟩
        cases h
        exact ⟨h, Nat.le_refl _, List.prefix_append ..⟩
      | stop how val =>
        refine ⟨fun s' h => (by cases h), fun r h => ?_⟩
        cases h
        have := recS_stop hz
        exact ⟨h, Nat.le_refl _, List.prefix_append .., fun h => by simp only at h; omega, by simp only; omega⟩
theorem runS_steps {P : Pg} {fuel : Nat} : ∀ (n : Nat) (s : St) (r : Rn), s.steps <= fuel -> runS P fuel n s = some r -> r.steps <= fuel /\ s.steps <= r.steps /\ s.outs <+: r.outs /\ (r.stop = 1 -> r.steps = fuel) /\ (r.stop = 0 ∨ r.stop = 1 ∨ r.stop = 2)
  | 0, s, r, _, h => by cases h
  | n + 1, s, r, hs, h => by
    rw [runS] at h
    obtain ⟨h1, h2⟩ := doS_steps (P := P) hs
    cases hd : doS P fuel s with
    | inl x => rw [hd] at h; cases h; exact h2 _ hd
    | inr s' =>
      rw [hd] at h
      obtain ⟨a1, a2, a3⟩ := h1 s' hd
      obtain ⟨b1, b2, b3, b4, b5⟩ := runS_steps n s' r a1 h
      exact ⟨b1, Nat.le_trans a2 b2, a3.trans b3, b4, b5⟩
end Go.Proofs.YtkdglplfcpindaaGreatDoor

namespace Go.Proofs.YtkdglplfcpindaaGreatDoor
open Go.RowKit
theorem meth_ev (V : Value) (w : World) : (method 417 161 V "chiasmus/direct.do").run Tryz.prog w = .ok (196, V) w := by kernel_rfl
theorem meth_ps (V : Value) (w : World) : (method 417 290 V "chiasmus/direct.do").run Tryz.prog w = .ok (211, V) w := by kernel_rfl
def OkR (r : Rn) : Prop := (∀ n ∈ r.outs, ok64 n) /\ ok64 r.val
def Ok5T (q : Tk) : Prop := match q with
  | .pass (.int n) _ => ok64 n
  | _ => True
theorem ok64_zero : ok64 0 := by unfold ok64; decide
theorem evS_stop0 {P : Pg} {t : Tm} {e : En} {k : Kt} {how val : Int} (h : evS P t e k = .stop how val) : val = 0 := by
  unfold evS at h
  repeat' (split at h)
  all_goals first
    | (cases h; rfl)
    | cases h
theorem recS_okR {P : Pg} {v : Vl} {k : Kt} {nx : Nx} {o : List Int} (h : recS P v k = (nx, o)) (hv : ∀ n, v = .int n -> ok64 n) : (∀ n ∈ o, ok64 n) /\ ∀ how val, nx = .stop how val -> ok64 val := by
  cases k with
  | nil =>
    cases v with
    | int n => simp only [recS, Prod.mk.injEq] at h; obtain ⟨rfl, rfl⟩ := h; exact ⟨(fun _ h => nomatch h), fun how val hs => by injection hs with h1 h2; rw [← h2]; exact hv n rfl⟩
    | con a b c => simp only [recS, Prod.mk.injEq] at h; obtain ⟨rfl, rfl⟩ := h; exact ⟨(fun _ h => nomatch h), fun how val hs => by injection hs with h1 h2; rw [← h2]; exact ok64_zero⟩
    | obj a b => simp only [recS, Prod.mk.injEq] at h; obtain ⟨rfl, rfl⟩ := h; exact ⟨(fun _ h => nomatch h), fun how val hs => by injection hs with h1 h2; rw [← h2]; exact ok64_zero⟩
  | cons f k =>
    have key : ∀ n : Int, v = .int n -> ∀ x ∈ [n], ok64 x := fun n hn x hx => by rw [List.mem_singleton.1 hx]; exact hv n hn
    have none' : ∀ x ∈ ([] : List Int), ok64 x := fun _ h => nomatch h
    have st : ∀ how val : Int, Nx.stop 2 0 = .stop how val -> ok64 val := fun how val hs => by injection hs with h1 h2; rw [← h2]; exact ok64_zero
    have go : ∀ (q : Tk) (how val : Int), Nx.go q = .stop how val -> ok64 val := fun q how val hs => by cases hs
    cases f <;> cases v <;> simp only [recS] at h <;> (try split at h) <;> simp only [Prod.mk.injEq] at h <;> obtain ⟨rfl, rfl⟩ := h
    all_goals first
      | exact ⟨none', go _⟩
      | exact ⟨none', st⟩
      | exact ⟨key _ rfl, go _⟩
theorem doS_okR {P : Pg} {fuel : Nat} {s : St} (h : ∀ n ∈ s.outs, ok64 n) (ht : Ok5T s.task) : (∀ s', doS P fuel s = .inr s' -> ∀ n ∈ s'.outs, ok64 n) /\ ∀ r, doS P fuel s = .inl r -> OkR r := by
  obtain ⟨st, o, tk⟩ := s
  cases tk with
  | ev t e k =>
    refine ⟨fun s' hd => ?_, fun r hd => ?_⟩
    . simp only [doS] at hd
      split at hd
      . cases hd
      . split at hd
        . cases hd; exact h
        . cases hd
    . simp only [doS] at hd
      split at hd
      . cases hd; exact ⟨h, ok64_zero⟩
      . split at hd
        . cases hd
        . rename_i how val hq
          cases hd
          exact ⟨h, by rw [show val = 0 from evS_stop0 hq]; exact ok64_zero⟩
  | pass v k =>
    have hv : ∀ n, v = .int n -> ok64 n := fun n hn => by subst hn; exact ht
    cases hz : recS P v k with
    | mk nx o' =>
      obtain ⟨h1, h2⟩ := recS_okR hz hv
      have h3 : ∀ n ∈ o ++ o', ok64 n := fun n hn => (List.mem_append.1 hn).elim (h n) (h1 n)
      refine ⟨fun s' hd => ?_, fun r hd => ?_⟩
      . cases nx with
        | go q => simp only [doS, hz] at hd; cases hd; exact h3
        | stop how val => simp only [doS, hz] at hd; cases hd
      . cases nx with
        | go q => simp only [doS, hz] at hd; cases hd
        | stop how val => simp only [doS, hz] at hd; cases hd; exact ⟨h3, h2 how val rfl⟩
theorem RTk.okT {P : Pg} {w0 w : World} {bad : Nat -> Prop} {mb : Nat} {q : Tk} {v : Value} (h : RTk P w0 w bad mb q v) : Ok5T q := by
  cases q with
  | ev t e k => exact trivial
  | pass x k =>
    obtain ⟨a, kv, -, hx, -⟩ := h
    cases hx with
    | int n h => exact h
    | con ty n a l h1 h2 h3 => exact trivial
    | obj t e va vc pv pl h1 h2 h3 => exact trivial
structure MR (P : Pg) (w0 w : World) (mb : Nat) (vd vf lz : Value) (fuel n : Nat) (r : Rn) (s : St) (ov v : Value) : Prop where
  run : runS P fuel n s = some r
  ms : MS P w0 w mb vd vf lz fuel s ov v
  typ : TS false P s.task
  steps : s.steps <= fuel
  out : OB s
  oks : ∀ n ∈ s.outs, ok64 n
def LI (P : Pg) (w0 : World) (mb g : Nat) (vd vf lz : Value) (fuel : Nat) (r : Rn) (n : Nat) (v : Value) (w : World) : Prop :=
  (∃ s ov, MR P w0 w mb vd vf lz fuel n r s ov v /\ ¬ turns mb ov g) ∨ (v = .nilIface /\ ∃ ov, ME w0 w mb vd vf lz fuel r ov /\ ¬ turns mb ov g /\ OkR r)
theorem MR.next {P : Pg} {w0 w w' : World} {mb g : Nat} {vd vf lz : Value} {fuel n : Nat} {r : Rn} {s : St} {ov v : Value} {e : Ending} (hW : WFP false P) (h : MR P w0 w mb vd vf lz fuel n r s ov v) (hg : ¬ turns mb ov g) (hgl : g < w.heap.size) (ht : TaskP P w0 w mb vd vf lz ov fuel (doS P fuel s) e w') :
    ∃ m u, m < n /\ e = .returned u /\ LI P w0 mb g vd vf lz fuel r m u w' /\ w'.heap[g]? = w.heap[g]? := by
  obtain ⟨h1, h2, h3, h4, h5, h6⟩ := h
  have hok := doS_okR (P := P) (fuel := fuel) h6 h2.task.okT
  cases n with
  | zero => cases h1
  | succ n =>
    rw [runS] at h1
    cases hd : doS P fuel s with
    | inl x =>
      rw [hd] at h1 ht; cases h1
      obtain ⟨ov', rfl, hm, hk⟩ := ht
      exact ⟨n, _, Nat.lt_succ_self n, rfl, .inr ⟨rfl, ov', hm, (hk.keep g hgl hg).1, hok.2 _ hd⟩, (hk.keep g hgl hg).2⟩
    | inr s' =>
      rw [hd] at h1 ht
      obtain ⟨v', ov', rfl, hm, hk⟩ := ht
      exact ⟨n, v', Nat.lt_succ_self n, rfl, .inl ⟨s', ov', ⟨h1, hm, (doS_ok hW h3).1 s' hd, ((doS_steps h4).1 s' hd).1, doS_out h5 hd, hok.1 s' hd⟩, (hk.keep g hgl hg).1⟩, (hk.keep g hgl hg).2⟩
theorem TaskP.at {P : Pg} {w0 w w' : World} {mb : Nat} {vd vf lz ov : Value} {fuel : Nat} {s : St} {q : Tk} {e : Ending} (h : s.task = q) (ht : TaskP P w0 w mb vd vf lz ov fuel (doS P fuel ⟨s.steps, s.outs, q⟩) e w') : TaskP P w0 w mb vd vf lz ov fuel (doS P fuel s) e w' := by
  subst h; exact ht
theorem LI.form {P : Pg} {w0 w : World} {mb g : Nat} {vd vf lz v : Value} {fuel n : Nat} {r : Rn} (h : LI P w0 mb g vd vf lz fuel r n v w) : v = .nilIface ∨ ∃ t u, v = .iface t u := by
  rcases h with ⟨s, ov, h, -⟩ | ⟨rfl, -⟩
  . exact .inr h.ms.task.form
  . exact .inl rfl
theorem OB.le {s : St} (h : OB s) : s.outs.length <= s.steps + 1 := by
  unfold OB at h
  split at h <;> omega
theorem box4_all {w : World} {r T : Nat} {a b c d : Value} (h : w.heap[r]? = some (.cells #[a, b, c, d] T (0, 0))) (a' b' c' d' : Value) :
    ((((w.setCell ⟨r, 0, none⟩ a').setCell ⟨r, 1, none⟩ b').setCell ⟨r, 2, none⟩ c').setCell ⟨r, 3, none⟩ d').heap[r]? = some (.cells #[a', b', c', d'] T (0, 0)) := by
  simp [World.setCell, Array.getElem?_modify, h]
theorem only4_set (w : World) (r : Nat) (a b c d : Value) : Only (fun j => j = r) w ((((w.setCell ⟨r, 0, none⟩ a).setCell ⟨r, 1, none⟩ b).setCell ⟨r, 2, none⟩ c).setCell ⟨r, 3, none⟩ d) :=
  (((o5s _ _ _ _).tr (o5s _ _ _ _)).tr (o5s _ _ _ _)).tr (o5s _ _ _ _)
set_option maxHeartbeats 4000000 in
theorem start_any (P : Pg) (w0 w : World) (mb : Nat) (vd vf lz vi : Value) (fuel : Nat) (inputs : List Int) (r : Rn) (hW : WFP false P) (hf : fuel <= 20000)
    (hC : MC P w0 w (turns mb (.slice none 0 0)) mb vd vf lz (.slice none 0 0) fuel 0 0 0) (hI : RInts w0 vi inputs) (h64 : ∀ n ∈ inputs, ok64 n) (hi : inputs.length = (fnAt P 0).ps.length) (hl : (fnAt P 0).ps.length <= 1000) (hr : RunsTo P fuel (startS P inputs) r) :
    Calls Tryz.prog 24 #[.pointer (some ⟨mb, 0, none⟩), vi] w fun e w' => ∃ ov, e = .returned (.agg #[.int .i64 r.stop, .int .i64 r.val, ov, .int .i64 r.steps]) /\ OwnL w' w0.heap.size ov r.outs /\ Ext w0 w' /\ OkR r := by
  have HW := LH hW
  have HC := LH hC
  have HI := LH hI
  have H64 := LH h64
  have HIL := LH hi
  have HL := LH hl
  have HR := LH hr
  have hpos : 0 < P.funs.length := by
    obtain ⟨h1, -, -⟩ := main_ok hW.prog
    exact List.length_pos_of_mem h1
  have HFA : Hid (fnAt P 0 = P.funs[0]) := by show _ = _; unfold fnAt; rw [List.getD_eq_getElem?_getD, show ((0 : Int)).toNat = 0 from rfl, List.getElem?_eq_getElem hpos]; rfl
  obtain ⟨Ai, ci, rfl, hci, hmi⟩ := hI.form
  have hil : inputs.length <= 1000 := by omega
  obtain ⟨Af, cf, rfl, -, -⟩ := hC.fs.form
  obtain ⟨bf, of_, vp, xa, xc, rfl, -, hcf1, hcf2, f0, f1, f2, f3, hfn⟩ := hC.fs.fn hC.ext hpos
  have HFN := LH hfn
  obtain ⟨-, hps, hbody⟩ := hfn
  obtain ⟨Ap, cp, rfl, -, -⟩ := hps.form
  obtain ⟨⟨Ax, cx, rfl, -, -⟩, ⟨Ay, cy, rfl, -, -⟩⟩ := hbody.form
  rw [Nat.zero_mul, Nat.add_zero] at f0 f1 f2 f3
  have HF := LH (And.intro f0 (And.intro f1 (And.intro f2 f3)))
  unfold maxLen at hcf2 hmi
  generalize P.funs[0] = f at *
  have hz : (w.alloc (.cells #[.int .i64 0, .int .i64 0, .slice none 0 0, .int .i64 0] 30)).heap.size = w.heap.size + 1 := World.size_alloc ..
  have hmk := make_items (w.alloc (.cells #[.int .i64 0, .int .i64 0, .slice none 0 0, .int .i64 0] 30)) inputs.length (by omega)
  rw [hz] at hmk
  have HN : Hid (IBlk ((w.alloc (.cells #[.int .i64 0, .int .i64 0, .slice none 0 0, .int .i64 0] 30)).alloc (.cells (List.replicate inputs.length Value.nilIface).toArray 98)) (w.heap.size + 1) (List.replicate inputs.length Value.nilIface)) := by
    have := hNw (w.alloc (.cells #[.int .i64 0, .int .i64 0, .slice none 0 0, .int .i64 0] 30)) (.cells (List.replicate inputs.length Value.nilIface).toArray 98)
    rw [hz] at this
    exact this
  have HE0 := LH ((Ext.al w (.cells #[.int .i64 0, .int .i64 0, .slice none 0 0, .int .i64 0] 30)).tr (Ext.al _ (.cells (List.replicate inputs.length Value.nilIface).toArray 98)))
  have HG : Hid (((w.alloc (.cells #[.int .i64 0, .int .i64 0, .slice none 0 0, .int .i64 0] 30)).alloc (.cells (List.replicate inputs.length Value.nilIface).toArray 98)).heap[w.heap.size]? = some (.cells #[.int .i64 0, .int .i64 0, .slice none 0 0, .int .i64 0] 30 (0, 0))) := ((Ext.al _ _).block _ (hLt (hNw w _))).trans (hNw w _)
  have HZ : Hid (upH inputs 0 = List.replicate inputs.length Value.nilIface) := upH_zero inputs
  generalize List.replicate inputs.length Value.nilIface = S0 at *
  clear hW hC hI h64 hi hl hr hz hps hbody f0 f1 f2 f3
  go_enter Tryz.func24, Tryz.ntmps24
  go_wp2
  clear hmk
  generalize World.alloc (World.alloc w _) _ = w1 at *
  go_loopw [14] (fun i wr => ∃ j : Nat, j <= inputs.length /\ i = .int .i64 j /\ IBlk wr (w.heap.size + 1) (upH inputs j) /\ wr.heap[w.heap.size]? = some (.cells #[.int .i64 0, .int .i64 0, .slice none 0 0, .int .i64 0] 30 (0, 0)) /\ Ext w wr) (fun i _ => inputs.length - (intOf i).toNat)
  case atStart => exact ⟨0, Nat.zero_le _, rfl, by rw [HZ.out]; exact HN.out, HG.out, HE0.out⟩
  case round =>
    obtain ⟨j, hj, rfl, hB, hbx, hE⟩ := hrel
    have HBk := LH hB
    have HEk := LH hE
    have HG2 := LH hbx
    clear hB hE hbx
    by_cases hlt : j < inputs.length
    . obtain ⟨b, o, rfl, hbl, y0⟩ := HI.out.at_ hlt
      have y0 := (HC.out.ext.tr HEk.out).keep y0
      have HS := LH (upH_step hlt)
      have HLN : Hid (j < (upH inputs j).length) := by show j < _; rw [upH_length hj]; exact hlt
      generalize inputs[j] = x at *
      generalize hS : upH inputs j = S at *
      clear hS
      have hcell := HBk.out.cell HLN.out
      have hfz := HBk.out.frozen j
      go_wp2
      go_roundw
      case rel => exact ⟨j + 1, by omega, by go_num, by rw [← HS.out]; exact HBk.out.set j _, s5o HG2.out (by omega) j _, Below.setCell HEk.out (p := ⟨w.heap.size + 1, j, none⟩) (Nat.le_succ _) _⟩
      case measure => simp [intOf]; omega
    . have HK : Hid (IBlk wr (w.heap.size + 1) (inputs.map heldV)) := by
        have := HBk.out
        rw [show j = inputs.length by omega, upH_end] at this
        exact this
      have HC2 := LH (HC.out.ext' HEk.out)
      obtain ⟨-, m1, -⟩ := HC2.out.mb.cells
      obtain ⟨f0, f1, f2, f3⟩ := HF.out
      have f0 := HEk.out.keep f0
      have f1 := HEk.out.keep f1
      have f2 := HEk.out.keep f2
      obtain ⟨f3, f4, f5, f6, f7, f8⟩ := f3.below HEk.out
      have HIT : Hid (D5 P w0 wr (turns mb (.slice none 0 0)) mb (.is (.slice (some ⟨w.heap.size + 1, 0, none⟩) inputs.length inputs.length) (inputs.map fun n => .held (.int n)))) := HK.out.items (fun hn => by have := HC.out.nb _ hn; omega) (by unfold maxLen; omega) H64.out
      go_wp2_with fail
      (with_reducible refine (body_any P w0 _ (turns mb (.slice none 0 0)) mb f _ _ _ _ _ .nilIface (inputs.map fun n => .held (.int n)) [] HC2.out.ext HFN.out HIT.out .fin (by rw [List.length_map]; have := HIL.out; rw [HFA.out] at this; omega) (by have := HL.out; rw [HFA.out] at this; exact this) HC2.out.nb).mono ?_)
      rintro e w4 ⟨⟨v, rfl, hr⟩, hx⟩
      have HLI : Hid (∃ n, LI P w0 mb w.heap.size vd (.slice (some ⟨bf, of_, none⟩) P.funs.length cf) lz fuel r n v w4) := by
        obtain ⟨n, hn⟩ := HR.out
        refine ⟨n, .inl ⟨startS P inputs, .slice none 0 0, ⟨hn, ⟨HC2.out.ext' hx, World.ownsRow_nil _ _ _ _, by show RTk P w0 w4 _ mb (bodyS (fnAt P 0) _ []) v; rw [HFA.out]; exact hr⟩, startS_ok HW.out HIL.out, Nat.zero_le _, Nat.zero_le _, fun _ h => nomatch h⟩, fun hn => Nat.lt_irrefl _ (HC.out.nb _ hn)⟩⟩
      have HG4 := LH ((hx.block _ (hLt HG2.out)).trans HG2.out)
      obtain ⟨tv, uv, rfl⟩ := hr.form
      have HS4 := LH (HC2.out.ext' hx)
      clear hr hx m1 f0 f1 f2 f3 f4 f5 f6 f7 f8
      obtain ⟨n0, hn0⟩ := HLI.out
      have HLJ := LH hn0
      clear hn0
      go_wp2
      go_loopg [8] n0 (fun k p wr => LI P w0 mb w.heap.size vd (.slice (some ⟨bf, of_, none⟩) P.funs.length cf) lz fuel r k p wr /\ wr.heap[w.heap.size]? = some (.cells #[.int .i64 0, .int .i64 0, .slice none 0 0, .int .i64 0] 30 (0, 0)))
      case atStart => exact ⟨HLJ.out, HG4.out⟩
      case round =>
        obtain ⟨hli, hg5⟩ := hrel
        have HG5 := LH hg5
        clear hg5
        rcases hli with ⟨s, ov, hm, hnt⟩ | ⟨rfl, ov, hm, hnt, hokr⟩
        . have HM := LH hm
          have HNT := LH hnt
          clear hm hnt
          cases hst : s.task with
          | ev t e k =>
            have HST := LH hst
            clear hst
            have htk := HM.out.ms.task
            rw [HST.out] at htk
            obtain ⟨va, vc, pv, pl, kv, rfl, j1, j2, j3, j4⟩ := htk
            have HEV : Hid (Ev5 P w0 wr (turns mb ov) mb t e k va vc pv pl kv) := ⟨j1, j2, j3, j4⟩
            clear j1 j2 j3 j4
            have hm := meth_ev
            go_wp2_with fail
            (with_reducible refine (ev_task HM.out.ms.mc HM.out.ms.own hf HM.out.steps HEV.out (HST.out ▸ HM.out.typ)).mono ?_)
            intro e w5 ht
            obtain ⟨m, u, hlt, rfl, hli, hgk⟩ := MR.next HW.out HM.out HNT.out (hLt HG5.out) (TaskP.at HST.out ht)
            have HLI2 := LH hli
            have HG6 := LH (hgk.trans HG5.out)
            rcases hli.form with rfl | ⟨tu, uu, rfl⟩
            all_goals
              clear hli hgk ht hm
              go_wp2
              go_roundg m
              case measure => exact hlt
              case rel => exact ⟨HLI2.out, HG6.out⟩
          | pass x k =>
            have HST := LH hst
            clear hst
            have htk := HM.out.ms.task
            rw [HST.out] at htk
            obtain ⟨a, kv, rfl, j1, j2⟩ := htk
            have HJ := LH (And.intro j1 j2)
            clear j1 j2
            have hm := meth_ps
            have hol : s.outs.length <= 100000 := by have h1 := HM.out.out.le; have h2 := HM.out.steps; omega
            go_wp2_with fail
            (with_reducible refine (pass_task HM.out.ms.mc HM.out.ms.own hol HJ.out.1 HJ.out.2 (HST.out ▸ HM.out.typ)).mono ?_)
            intro e w5 ht
            obtain ⟨m, u, hlt, rfl, hli, hgk⟩ := MR.next HW.out HM.out HNT.out (hLt HG5.out) (TaskP.at HST.out ht)
            have HLI2 := LH hli
            have HG6 := LH (hgk.trans HG5.out)
            rcases hli.form with rfl | ⟨tu, uu, rfl⟩
            all_goals
              clear hli hgk ht hm
              go_wp2
              go_roundg m
              case measure => exact hlt
              case rel => exact ⟨HLI2.out, HG6.out⟩
        . have HM := LH hm
          have HNT := LH hnt
          have HOKR := LH hokr
          clear hm hnt hokr
          obtain ⟨Ao, co, rfl⟩ := oSL HM.out.own
          obtain ⟨-, -, -, -, m4, m5, m6, m7⟩ := HM.out.mb.cells
          have g0 := cA HG5.out 0
          have g1 := cA HG5.out 1
          have g2 := cA HG5.out 2
          have g3 := cA HG5.out 3
          have k0 := fA HG5.out 0
          have k1 := fA HG5.out 1
          have k2 := fA HG5.out 2
          have k3 := fA HG5.out 3
          have HO4 := LH (only4_set wr w.heap.size (.int .i64 r.stop) (.int .i64 r.val) (.slice Ao r.outs.length co) (.int .i64 r.steps))
          have HGE : Hid (w0.heap.size <= w.heap.size) := HC.out.ext.size
          have HZZ := LH (box4_all HG5.out (.int .i64 r.stop) (.int .i64 r.val) (.slice Ao r.outs.length co) (.int .i64 r.steps))
          go_wp2
          clear g0 g1 g2 g3 k0 k1 k2 k3 m4 m5 m6 m7
          generalize World.setCell (World.setCell (World.setCell (World.setCell wr _ _) _ _) _ _) _ _ = wz at *
          have q0 := cA HZZ.out 0
          have q1 := cA HZZ.out 1
          have q2 := cA HZZ.out 2
          have q3 := cA HZZ.out 3
          exact bodyPost_ret (v := .agg #[.int .i64 r.stop, .int .i64 r.val, .slice Ao r.outs.length co, .int .i64 r.steps]) (by simp [results, Tryz.results24, go_sem, q0, q1, q2, q3]) rfl ⟨_, rfl, row5_at HM.out.own (fun b cur hb hcur => HO4.out.block b (hLt hcur) (fun e => HNT.out (.inr (e ▸ hb)))), HM.out.ext.trans (HO4.out.below HM.out.ext.size (fun b hb => hb ▸ HGE.out)), HOKR.out⟩
end Go.Proofs.YtkdglplfcpindaaGreatDoor
