/- kind: typeOf. -/
import Derived.Test.YtkdhhcidpklgoaaGreatDoorQ18
namespace Go.Proofs.YtkdhhcidpklgoaaGreatDoor
open Go.RowKit Go.Shelf Go.Maps
attribute [local go_sem] Oper.semAt_some

theorem ownT_field {E : Ev} {op n ty : Int} (h : op = 2 ∨ op = 3 ∨ op = 4 ∨ op = 6 ∨ op = 7 ∨ op = 8) : ownT E op n ty = ty := by unfold ownT; rw [if_neg (by omega), if_neg (by omega), if_pos h]
theorem ownT_var {E : Ev} {op n ty : Int} (h : op = 0 ∨ op = 5) : ownT E op n ty = ((E (occV op n)).getLast?).getD 0 := by
  rcases h with rfl | rfl
  · rfl
  · rfl
theorem ownT_no {E : Ev} {op n ty : Int} (h : ¬ (op = 2 ∨ op = 3 ∨ op = 4 ∨ op = 6 ∨ op = 7 ∨ op = 8)) (h2 : ¬ (op = 0 ∨ op = 5)) : ownT E op n ty = 0 := by unfold ownT; rw [if_neg (by omega), if_neg (by omega), if_neg h]
/-- A variable in scope has a type. -/
theorem occ_in {C : Cg} {E : Ev} {S : Sc} {op n ty : Int} (hin : EvIn E S) (h : refersB C (inN S op n) op n ty = true) (hv : op = 0 ∨ op = 5) : 0 < (E (occV op n)).length ∧ ((occV op n).1 = 0 ∨ (occV op n).1 = 1) ∧ (occV op n).2 = n := by
  have key : inN S op n = true := by
    unfold refersB at h
    rw [if_pos hv, Bool.and_eq_true] at h
    exact h.2
  rcases hv with rfl | rfl
  · have e := hin (0, n)
    have k : S (0, n) = true := key
    rw [k] at e
    exact ⟨of_decide_eq_true e, .inl rfl, rfl⟩
  · have e := hin (1, n)
    have k : S (1, n) = true := key
    rw [k] at e
    exact ⟨of_decide_eq_true e, .inr rfl, rfl⟩
set_option maxHeartbeats 16000000 in
set_option maxRecDepth 100000 in
theorem typNode (vd vf : Value) (C : Cg) (wA : World) (base mx mc : Nat) (t : Nd) (va vb : Value) (hC : RCg wA vd vf C) (htab : Tabs wA) (hk : ∃ k, RNd wA k t va vb)
    (hA : TypAS C vd vf wA base mx mc t va vb) (hB : TypBB C vd vf wA base mx mc t va vb) (hm1 : wA.heap.size ≤ mx) (hm2 : wA.heap.size ≤ mc) (hba : wA.heap.size ≤ base) : TypS C vd vf wA base mx mc t va vb := by
  intro w n g E S hx hbs hsc hin hE hso hn
  obtain ⟨hok, hop, hop2⟩ := sort_parts hso
  have HREF := Lib.hid hok.rf
  have hbn := bndN_eq t
  obtain ⟨Ad, cd, rfl, -, -⟩ := hC.d.form
  obtain ⟨Af, cf, rfl, -, -⟩ := hC.f.form
  obtain ⟨k, hk⟩ := hk
  obtain ⟨⟨o1, o2, o3⟩, ⟨A, c, rfl, -, hma⟩, ⟨B, d, rfl, -, hmb⟩⟩ := hk.form
  have HR : Hid (typN C E t = if typA C (pushE E (muV t.op t.n) [t.ty]) t.op t.n t.ty 0 t.args && typB C E t.ty 0 t.brs then some (ownT E t.op t.n t.ty) else none) := typN_eq C E t
  obtain ⟨qa, hqa⟩ : ∃ qa, typA C (pushE E (muV t.op t.n) [t.ty]) t.op t.n t.ty 0 t.args = qa := ⟨_, rfl⟩
  obtain ⟨qb, hqb⟩ : ∃ qb, typB C E t.ty 0 t.brs = qb := ⟨_, rfl⟩
  rw [hqa, hqb] at HR
  have HA : Hid (∀ W, Ext w W → Calls Tryz.prog 68 #[.agg #[.slice Ad C.decls.length cd, .slice Af C.funs.length cf, .map (some mx), .map (some mc)], .agg #[.int .i64 t.op, .int .i64 t.n, .int .i64 t.ty, .slice A t.args.length c, .slice B t.brs.length d]] W fun e w' => e = .returned (.bool qa) ∧ ∃ g', SCX w' base mx mc (n + 2 * (1 + bndA t.args)) g' E ∧ Tr mx mc g g' W w') := fun W hW => by
    have := hA W n g E S (hx.tr hW) (Nat.le_trans hbs hW.size) (hsc.ext hW) hin hE hso (by omega)
    rw [hqa] at this; exact this
  have HB : Hid (∀ W m gW, Ext wA W → base ≤ W.heap.size → SCX W base mx mc m gW E → n ≤ m → m + 2 * bndB t.brs ≤ 1000000000 → Calls Tryz.prog 69 #[.agg #[.slice Ad C.decls.length cd, .slice Af C.funs.length cf, .map (some mx), .map (some mc)], .agg #[.int .i64 t.op, .int .i64 t.n, .int .i64 t.ty, .slice A t.args.length c, .slice B t.brs.length d]] W fun e w' => e = .returned (.bool qb) ∧ ∃ g', SCX w' base mx mc (m + 2 * bndB t.brs) g' E ∧ Tr mx mc gW g' W w') := fun W m gW h1 h2 h3 h4 h5 => by
    have := hB W m gW E S h1 h2 h3 hin (fun x => Nat.le_trans (hE x) h4) hso h5
    rw [hqb] at this; exact this
  obtain ⟨m, hm⟩ : ∃ m : Nat, t.op = m := ⟨t.op.toNat, by omega⟩
  have hml : m < 15 := by omega
  have HRU := Lib.hid (fun (W : World) (hW : Ext wA W) => ((htab.ext hW).ru m hml).1)
  have HOC := Lib.hid (fun (q : Bool) (hq : isVrB t.op = q) (W : World) => occurrence_any t (.slice A t.args.length c) (.slice B t.brs.length d) (occV t.op t.n) rfl q hq W)
  have HIN := Lib.hid (fun hv => occ_in hin HREF.out hv)
  have HX := Lib.hid hx; have HSC := Lib.hid hsc; have HO2 := Lib.hid o2
  have hb1 := Ext.lt (Ext.al (w.alloc (.cells #[.slice Ad C.decls.length cd, .slice Af C.funs.length cf, .map (some mx), .map (some mc)] 64)) (.cells #[.int .i64 (m : Nat), .int .i64 t.n, .int .i64 t.ty, .slice A t.args.length c, .slice B t.brs.length d] 36)) (heapNew w (.cells #[.slice Ad C.decls.length cd, .slice Af C.funs.length cf, .map (some mx), .map (some mc)] 64))
  have hb2 := heapNew2 w (.cells #[.slice Ad C.decls.length cd, .slice Af C.funs.length cf, .map (some mx), .map (some mc)] 64) (.cells #[.int .i64 (m : Nat), .int .i64 t.n, .int .i64 t.ty, .slice A t.args.length c, .slice B t.brs.length d] 36)
  have hx2 := Ext.al2 w (.cells #[.slice Ad C.decls.length cd, .slice Af C.funs.length cf, .map (some mx), .map (some mc)] 64) (.cells #[.int .i64 (m : Nat), .int .i64 t.n, .int .i64 t.ty, .slice A t.args.length c, .slice B t.brs.length d] 36)
  have HB1 := Lib.hid hb1; have HB2 := Lib.hid hb2; have HX2 := Lib.hid hx2
  rw [hm] at hop hop2 HA HB HR HREF HIN HOC
  clear hb1 hb2 hx2 hC htab hk hx hsc hin hE hso hA hB hok hqa hqb o1 o2 o3
  go_enter Tryz.func37, Tryz.ntmps37
  go_wp2_with fail
  generalize (w.alloc _).alloc _ = w2 at *
  have hbw2 : base ≤ w2.heap.size := Nat.le_trans hbs HX2.out.size
  have HS2 : Hid (SCX w2 base mx mc n g E) := HSC.out.ext HX2.out
  have HX22 : Hid (Ext wA w2) := HX.out.tr HX2.out
  have HK : Hid (∀ (g' : Gv) W, Tr mx mc g g' w2 W → W.heap[w.heap.size]? = some (.cells #[.slice Ad C.decls.length cd, .slice Af C.funs.length cf, .map (some mx), .map (some mc)] 64 (0, 0)) ∧ W.heap[w.heap.size + 1]? = some (.cells #[.int .i64 (m : Nat), .int .i64 t.n, .int .i64 t.ty, .slice A t.args.length c, .slice B t.brs.length d] 36 (0, 0)) ∧ Ext wA W ∧ w2.heap.size ≤ W.heap.size) := fun g' W h => ⟨h.box HS2.out HB1.out tck_ne, h.box HS2.out HB2.out tnd_ne, h.keeps HS2.out HX22.out hm1 hm2 hba, h.only.size⟩
  have harm1 : True := trivial
  cases qa
  · go_wp2_with (go_at_call 68; (with_reducible refine (HA.out _ HX2.out).mono ?_); rintro e w3 ⟨rfl, g3, hs3, ht3⟩)
    exact bodyPost_ret (v := .tuple #[.int .i64 0, .bool false]) (by simp [results, Tryz.results37, go_sem]) rfl ⟨by rw [HR.out]; rfl, g3, hs3.mono (by omega), Tr.ext HX2.out ht3⟩
  · cases qb
    · go_wp2_with (first
        | (go_at_call 68; (with_reducible refine (HA.out _ HX2.out).mono ?_); rintro e w3 ⟨rfl, g3, hs3, ht3⟩; obtain ⟨q1, q2, q3, q4⟩ := HK.out _ _ ht3; have p0 := cellAt q1 0; have p1 := cellAt q1 1; have p2 := cellAt q1 2; have p3 := cellAt q1 3; have n0 := cellAt q2 0; have n1 := cellAt q2 1; have n2 := cellAt q2 2; have n3 := cellAt q2 3; have n4 := cellAt q2 4; have HQ3 := Lib.hid q3; have HS3 := Lib.hid hs3; have HT3 := Lib.hid ht3; clear q1 q2 q3 hs3 ht3)
        | (go_at_call 69; (with_reducible refine (HB.out _ _ _ HQ3.out (by omega) HS3.out (by omega) (by omega)).mono ?_); rintro e w4 ⟨rfl, g4, hs4, ht4⟩))
      exact bodyPost_ret (v := .tuple #[.int .i64 0, .bool false]) (by simp [results, Tryz.results37, go_sem]) rfl ⟨by rw [HR.out]; rfl, g4, hs4.mono (by omega), Tr.ext HX2.out (HT3.out.tr ht4)⟩
    · go_wp2_with (first
        | (go_at_call 68; (with_reducible refine (HA.out _ HX2.out).mono ?_); rintro e w3 ⟨rfl, g3, hs3, ht3⟩; obtain ⟨q1, q2, q3, q4⟩ := HK.out _ _ ht3; have p0 := cellAt q1 0; have p1 := cellAt q1 1; have p2 := cellAt q1 2; have p3 := cellAt q1 3; have n0 := cellAt q2 0; have n1 := cellAt q2 1; have n2 := cellAt q2 2; have n3 := cellAt q2 3; have n4 := cellAt q2 4; have HQ3 := Lib.hid q3; have HS3 := Lib.hid hs3; have HT3 := Lib.hid ht3; clear q1 q2 q3 hs3 ht3)
        | (go_at_call 69; fail))
      refine (HB.out _ _ _ HQ3.out (by omega) HS3.out (by omega) (by omega)).mono ?_
      rintro e w4 ⟨rfl, g4, hs4, ht4⟩
      have HS4 := Lib.hid hs4
      have HT4 : Hid (Tr mx mc g g4 w2 w4) := HT3.out.tr ht4
      clear p0 p1 p2 p3 n0 n1 n2 n3 n4
      obtain ⟨q1, q2, q3, q5⟩ := HK.out _ _ HT4.out
      have HQ1 := Lib.hid q1; have HQ2 := Lib.hid q2; have HQ4 := Lib.hid q3
      have hru := HRU.out _ q3
      have n0 := cellAt q2 0
      have n2 := cellAt q2 2
      have hrl : m < 15 := hml
      have hri : (m : Int) < 15 := by omega
      clear q1 q2 q3 hs4 ht4
      have HR2 : Hid (typN C E t = some (ownT E (m : Nat) t.n t.ty)) := by show _ = _; rw [HR.out]; rfl
      by_cases hfi : m = 2 ∨ m = 3 ∨ m = 4 ∨ m = 6 ∨ m = 7 ∨ m = 8
      · rw [if_neg (by omega), if_pos hfi] at hru
        have HOW : Hid (ownT E (m : Nat) t.n t.ty = t.ty) := ownT_field (by omega)
        go_wp2
        exact bodyPost_ret (v := .tuple #[.int .i64 t.ty, .bool true]) (by simp [results, Tryz.results37, go_sem]) rfl ⟨by rw [HR2.out, HOW.out]; rfl, g4, HS4.out.mono (by omega), Tr.ext HX2.out HT4.out⟩
      · by_cases hva : m = 0 ∨ m = 5
        · rw [if_pos hva] at hru
          have hmi : ((m : Nat) : Int) = 0 ∨ ((m : Nat) : Int) = 5 := by omega
          have HOW : Hid (ownT E (m : Nat) t.n t.ty = ((E (occV (m : Nat) t.n)).getLast?).getD 0) := ownT_var hmi
          obtain ⟨hi1, hi2, hi3⟩ := HIN.out hmi
          have hok : ok64 (occV (m : Nat) t.n).2 := by rw [hi3]; exact HO2.out
          clear hi3
          have HOC2 : Hid (∀ W, Calls Tryz.prog 70 #[.agg #[.int .i64 (m : Nat), .int .i64 t.n, .int .i64 t.ty, .slice A t.args.length c, .slice B t.brs.length d]] W fun e w' => e = .returned (.tuple #[vrV (occV (m : Nat) t.n), .bool true]) ∧ Ext W w') := fun W => by
            have h := HOC.out true (by unfold isVrB; rcases hva with rfl | rfl <;> rfl) W
            unfold nV at h
            rw [hm] at h
            exact h
          generalize occV (m : Nat) t.n = x at *
          have HFI := Lib.hid (fun (W : World) (hW : Ext w4 W) => find_any W base mx mc _ g4 E x (HS4.out.ext hW) hi2 hok hi1 (by have := hW.size; omega))
          have HBK : Hid (∀ W, Ext w4 W → W.cell? ⟨w.heap.size, 2, none⟩ = some (.map (some mx)) ∧ W.cell? ⟨w.heap.size, 3, none⟩ = some (.map (some mc))) := fun W hW => ⟨cellAt (hW.lt HQ1.out) 2, cellAt (hW.lt HQ1.out) 3⟩
          have n1 := cellAt HQ2.out 1
          have n3 := cellAt HQ2.out 3
          have n4 := cellAt HQ2.out 4
          go_wp2_with (first
            | (go_at_call 70; (with_reducible refine (HOC2.out _).mono ?_); rintro e w5 ⟨rfl, hx5⟩; have HX5 := Lib.hid (hx5.tr (Ext.al w5 (.cells #[.int .i64 x.1, .int .i64 x.2] 80))); obtain ⟨u2, u3⟩ := HBK.out _ HX5.out; have x0 := cellAt (heapNew w5 (.cells #[.int .i64 x.1, .int .i64 x.2] 80)) 0; have x1 := cellAt (heapNew w5 (.cells #[.int .i64 x.1, .int .i64 x.2] 80)) 1; clear hx5)
            | (go_at_call 71; (with_reducible refine (HFI.out _ HX5.out).mono ?_); rintro e w6 ⟨rfl, hx6⟩))
          exact bodyPost_ret (v := .tuple #[.int .i64 (((E x).getLast?).getD 0), .bool true]) (by simp [results, Tryz.results37, go_sem]) rfl ⟨by rw [HR2.out, HOW.out]; rfl, g4, (HS4.out.ext (HX5.out.tr hx6)).mono (by omega), Tr.ext HX2.out (HT4.out.andExt (HX5.out.tr hx6))⟩
        · rw [if_neg hva, if_neg hfi] at hru
          have HOW : Hid (ownT E (m : Nat) t.n t.ty = 0) := ownT_no (by omega) (by omega)
          go_wp2
          exact bodyPost_ret (v := .tuple #[.int .i64 0, .bool true]) (by simp [results, Tryz.results37, go_sem]) rfl ⟨by rw [HR2.out, HOW.out]; rfl, g4, HS4.out.mono (by omega), Tr.ext HX2.out HT4.out⟩
theorem typ_all (vd vf : Value) (C : Cg) (wA : World) (base mx mc : Nat) (hC : RCg wA vd vf C) (hS : ShC C) (htab : Tabs wA) (hm1 : wA.heap.size ≤ mx) (hm2 : wA.heap.size ≤ mc) (hba : wA.heap.size ≤ base) : ∀ (k : Nat) (t : Nd) (va vb : Value), RNd wA k t va vb → BN t → TypS C vd vf wA base mx mc t va vb := by
  intro k
  induction k with
  | zero => intro t va vb h; exact h.elim
  | succ k ih =>
    intro t va vb ht hb
    refine typNode vd vf C wA base mx mc t va vb hC htab ⟨_, ht⟩ (typArgs vd vf C wA base mx mc k t va vb hC hS htab ht hb (fun i x hi xa xb hx => ih x xa xb hx (hb.arg (List.mem_of_getElem? hi))) hm1 hm2 hba) (typBrs vd vf C wA base mx mc k t va vb hC hS ht hb (fun i x hi vv vc xa xb hv hc hx => ?_) hm1 hm2 hba) hm1 hm2 hba
    exact typBr vd vf C wA base mx mc x.1 x.2.1 x.2.2 vv vc xa xb hC (ih _ xa xb hx (hb.br (List.mem_of_getElem? hi))) (hb.short x (List.mem_of_getElem? hi)) ⟨k, hx⟩ hm1 hm2 hba
end Go.Proofs.YtkdhhcidpklgoaaGreatDoor

/- kind: fun. -/
namespace Go.Proofs.YtkdhhcidpklgoaaGreatDoor
open Go.RowKit Go.Shelf Go.Maps
attribute [local go_sem] Oper.semAt_some

theorem tcf_ne : 53 ≠ 3 := by decide
theorem EvIn.none : EvIn (fun _ => []) (fun _ => false) := fun x => rfl
set_option maxHeartbeats 16000000 in
set_option maxRecDepth 100000 in
theorem fun_any (vd vf : Value) (C : Cg) (wA : World) (base mx mc : Nat) (f : CF) (vp vv xa xb : Value) (hC : RCg wA vd vf C) (hS : ShC C) (htab : Tabs wA) (hm1 : wA.heap.size ≤ mx) (hm2 : wA.heap.size ≤ mc) (hba : wA.heap.size ≤ base) (hvp : RArgs wA vp f.ps) (hvv : RInts wA vv f.vars) (hk : ∃ k, RNd wA k f.body xa xb) (hb : BN f.body) (hlp : f.ps.length ≤ 1048576) (hlv : f.vars.length = f.ps.length) (hok : ∀ a ∈ f.ps, ok64 a.ty) (hso : sortN C (addS (fun _ => false) (zipCo f.vars (f.ps.map Arg.co))) f.body ≠ 3) (w : World) (n : Nat) (g : Gv) (hx : Ext wA w) (hbs : base ≤ w.heap.size) (hsc : SCX w base mx mc n g (fun _ => [])) (hn : n + 2 * (f.vars.length + bndN f.body) ≤ 1000000000) :
    Calls Tryz.prog 22 #[ckV vd vf mx mc, fV f vp vv xa xb] w fun e w' => e = .returned (.bool (funT C f)) ∧ ∃ g', SCX w' base mx mc (n + 2 * (f.vars.length + bndN f.body)) g' (fun _ => []) ∧ Tr mx mc g g' w w' := by
  obtain ⟨k, hk⟩ := hk
  have HT := Lib.hid (typBr vd vf C wA base mx mc f.vars (f.ps.map Arg.co) f.body)
  have HT2 := Lib.hid (fun vv vc => HT.out vv vc xa xb hC (typ_all vd vf C wA base mx mc hC hS htab hm1 hm2 hba k f.body xa xb hk hb) (by omega) ⟨k, hk⟩ hm1 hm2 hba)
  have HAB := Lib.hid (fun W (hW : Ext wA W) => asBranch_any f vp vv xa xb W (hvp.below hW) (hvv.below hW) hlp ⟨k, hk.below hW⟩)
  have HCALL : Hid (∀ W vc, Ext w W → RBools W vc (f.ps.map Arg.co) → Calls Tryz.prog 50 #[ckV vd vf mx mc, brV vv vc f.body xa xb, vp] W fun e w' => e = .returned (.bool (funT C f)) ∧ ∃ g', SCX w' base mx mc (n + 2 * (f.vars.length + bndN f.body)) g' (fun _ => []) ∧ Tr mx mc g g' W w') := fun W vc hW hvc =>
    HT2.out vv vc W n g (fun _ => []) (fun _ => false) vp f.ps (hx.tr hW) (Nat.le_trans hbs hW.size) (hsc.ext hW) EvIn.none (fun _ => Nat.zero_le _) ((hvv.below hx).below hW) hvc hvp hok hlv hso hn
  obtain ⟨Ad, cd, rfl, -, -⟩ := hC.d.form
  obtain ⟨Af, cf, rfl, -, -⟩ := hC.f.form
  obtain ⟨-, ⟨Ax, cx, rfl, -, -⟩, ⟨Bx, dx, rfl, -, -⟩⟩ := hk.form
  obtain ⟨Ap, cp, rfl, -, -⟩ := hvp.form
  obtain ⟨Av, cv, rfl, -, -⟩ := hvv.form
  obtain ⟨r, hr⟩ : ∃ r, funT C f = r := ⟨_, rfl⟩
  rw [hr] at HCALL
  have HRR := Lib.hid hr
  have hb1 := Ext.lt (Ext.al (w.alloc (.cells #[.slice Ad C.decls.length cd, .slice Af C.funs.length cf, .map (some mx), .map (some mc)] 64)) (.cells #[.string f.nm, .slice Ap f.ps.length cp, .slice Av f.vars.length cv, .int .i64 f.body.op, .int .i64 f.body.n, .int .i64 f.body.ty, .slice Ax f.body.args.length cx, .slice Bx f.body.brs.length dx] 53)) (heapNew w (.cells #[.slice Ad C.decls.length cd, .slice Af C.funs.length cf, .map (some mx), .map (some mc)] 64))
  have hb2 := heapNew2 w (.cells #[.slice Ad C.decls.length cd, .slice Af C.funs.length cf, .map (some mx), .map (some mc)] 64) (.cells #[.string f.nm, .slice Ap f.ps.length cp, .slice Av f.vars.length cv, .int .i64 f.body.op, .int .i64 f.body.n, .int .i64 f.body.ty, .slice Ax f.body.args.length cx, .slice Bx f.body.brs.length dx] 53)
  have hx2 := Ext.al2 w (.cells #[.slice Ad C.decls.length cd, .slice Af C.funs.length cf, .map (some mx), .map (some mc)] 64) (.cells #[.string f.nm, .slice Ap f.ps.length cp, .slice Av f.vars.length cv, .int .i64 f.body.op, .int .i64 f.body.n, .int .i64 f.body.ty, .slice Ax f.body.args.length cx, .slice Bx f.body.brs.length dx] 53)
  have HB1 := Lib.hid hb1; have HB2 := Lib.hid hb2; have HX2 := Lib.hid hx2; have HX := Lib.hid hx; have HSC := Lib.hid hsc
  clear hb1 hb2 hx2 hC hS htab hvp hvv hk hb hlv hok hso hx hsc hr HT HT2
  go_enter Tryz.func22, Tryz.ntmps22
  go_wp2
  generalize (w.alloc _).alloc _ = w2 at *
  have HS2 : Hid (SCX w2 base mx mc n g (fun _ => [])) := HSC.out.ext HX2.out
  have HCE : Hid (∀ W : World, W.heap[w.heap.size]? = some (.cells #[.slice Ad C.decls.length cd, .slice Af C.funs.length cf, .map (some mx), .map (some mc)] 64 (0, 0)) → W.heap[w.heap.size + 1]? = some (.cells #[.string f.nm, .slice Ap f.ps.length cp, .slice Av f.vars.length cv, .int .i64 f.body.op, .int .i64 f.body.n, .int .i64 f.body.ty, .slice Ax f.body.args.length cx, .slice Bx f.body.brs.length dx] 53 (0, 0)) → W.cell? ⟨w.heap.size, 0, none⟩ = some (.slice Ad C.decls.length cd) ∧ W.cell? ⟨w.heap.size, 1, none⟩ = some (.slice Af C.funs.length cf) ∧ W.cell? ⟨w.heap.size, 2, none⟩ = some (.map (some mx)) ∧ W.cell? ⟨w.heap.size, 3, none⟩ = some (.map (some mc)) ∧ W.cell? ⟨w.heap.size + 1, 0, none⟩ = some (.string f.nm) ∧ W.cell? ⟨w.heap.size + 1, 1, none⟩ = some (.slice Ap f.ps.length cp) ∧ W.cell? ⟨w.heap.size + 1, 2, none⟩ = some (.slice Av f.vars.length cv) ∧ W.cell? ⟨w.heap.size + 1, 3, none⟩ = some (.int .i64 f.body.op) ∧ W.cell? ⟨w.heap.size + 1, 4, none⟩ = some (.int .i64 f.body.n) ∧ W.cell? ⟨w.heap.size + 1, 5, none⟩ = some (.int .i64 f.body.ty) ∧ W.cell? ⟨w.heap.size + 1, 6, none⟩ = some (.slice Ax f.body.args.length cx) ∧ W.cell? ⟨w.heap.size + 1, 7, none⟩ = some (.slice Bx f.body.brs.length dx)) := fun W h1 h2 =>
    ⟨cellAt h1 0, cellAt h1 1, cellAt h1 2, cellAt h1 3, cellAt h2 0, cellAt h2 1, cellAt h2 2, cellAt h2 3, cellAt h2 4, cellAt h2 5, cellAt h2 6, cellAt h2 7⟩
  have HCX : Hid (∀ W, Ext w2 W → W.cell? ⟨w.heap.size, 0, none⟩ = some (.slice Ad C.decls.length cd) ∧ W.cell? ⟨w.heap.size, 1, none⟩ = some (.slice Af C.funs.length cf) ∧ W.cell? ⟨w.heap.size, 2, none⟩ = some (.map (some mx)) ∧ W.cell? ⟨w.heap.size, 3, none⟩ = some (.map (some mc)) ∧ W.cell? ⟨w.heap.size + 1, 0, none⟩ = some (.string f.nm) ∧ W.cell? ⟨w.heap.size + 1, 1, none⟩ = some (.slice Ap f.ps.length cp) ∧ W.cell? ⟨w.heap.size + 1, 2, none⟩ = some (.slice Av f.vars.length cv) ∧ W.cell? ⟨w.heap.size + 1, 3, none⟩ = some (.int .i64 f.body.op) ∧ W.cell? ⟨w.heap.size + 1, 4, none⟩ = some (.int .i64 f.body.n) ∧ W.cell? ⟨w.heap.size + 1, 5, none⟩ = some (.int .i64 f.body.ty) ∧ W.cell? ⟨w.heap.size + 1, 6, none⟩ = some (.slice Ax f.body.args.length cx) ∧ W.cell? ⟨w.heap.size + 1, 7, none⟩ = some (.slice Bx f.body.brs.length dx)) := fun W h => HCE.out W (h.lt HB1.out) (h.lt HB2.out)
  have HAB2 : Hid (∀ W, Ext w2 W → Calls Tryz.prog 51 #[fV f (.slice Ap f.ps.length cp) (.slice Av f.vars.length cv) (.slice Ax f.body.args.length cx) (.slice Bx f.body.brs.length dx)] W fun e w' => (∃ vc, e = .returned (brV (.slice Av f.vars.length cv) vc f.body (.slice Ax f.body.args.length cx) (.slice Bx f.body.brs.length dx)) ∧ RBools w' vc (f.ps.map Arg.co)) ∧ Ext w2 w') := fun W hW => by
    refine (HAB.out W ((HX.out.tr HX2.out).tr hW)).mono ?_
    rintro e w' ⟨h1, h2⟩
    exact ⟨h1, hW.tr h2⟩
  obtain ⟨k0, k1, k2, k3, l0, l1, l2, l3, l4, l5, l6, l7⟩ := HCX.out w2 (Ext.rf _)
  go_region_held3 (fun w' => w'.cell? ⟨w.heap.size, 0, none⟩ = some (.slice Ad C.decls.length cd) ∧ w'.cell? ⟨w.heap.size, 1, none⟩ = some (.slice Af C.funs.length cf) ∧ w'.cell? ⟨w.heap.size, 2, none⟩ = some (.map (some mx)) ∧ w'.cell? ⟨w.heap.size, 3, none⟩ = some (.map (some mc)) ∧ w'.cell? ⟨w.heap.size + 1, 0, none⟩ = some (.string f.nm) ∧ w'.cell? ⟨w.heap.size + 1, 1, none⟩ = some (.slice Ap f.ps.length cp) ∧ w'.cell? ⟨w.heap.size + 1, 2, none⟩ = some (.slice Av f.vars.length cv) ∧ w'.cell? ⟨w.heap.size + 1, 3, none⟩ = some (.int .i64 f.body.op) ∧ w'.cell? ⟨w.heap.size + 1, 4, none⟩ = some (.int .i64 f.body.n) ∧ w'.cell? ⟨w.heap.size + 1, 5, none⟩ = some (.int .i64 f.body.ty) ∧ w'.cell? ⟨w.heap.size + 1, 6, none⟩ = some (.slice Ax f.body.args.length cx) ∧ w'.cell? ⟨w.heap.size + 1, 7, none⟩ = some (.slice Bx f.body.brs.length dx))
    (first | exact HCX.out _ (Ext.rf _).drew | exact HCX.out _ HX3.out | exact HC8.out | fail "KEEP")
    (first
      | (go_at_call 51; (with_reducible refine (HAB2.out _ (by first | exact (Ext.rf _).drew | exact Ext.rf _ | fail "CALL")).mono ?_); rintro e w3 ⟨⟨vc, rfl, hvc⟩, hx3⟩; have HX3 := Lib.hid hx3; have HVC := Lib.hid hvc; clear hx3 hvc)
      | (go_at_call 50; (with_reducible refine (HCALL.out _ _ (HX2.out.tr HX3.out) HVC.out).mono ?_); rintro e w8 ⟨rfl, g8, hs8, ht8⟩; have HS8 := Lib.hid hs8; have HT8 : Hid (Tr mx mc g g8 w2 w8) := Tr.ext HX3.out ht8; have HC8 := Lib.hid (HCE.out w8 (HT8.out.box HS2.out HB1.out tck_ne) (HT8.out.box HS2.out HB2.out tcf_ne)); clear hs8 ht8)
      | fail "ARM")
  all_goals
    go_wp2
    go_ret
    exact ⟨ret_bool HRR.out.symm, g8, HS8.out, Tr.ext HX2.out HT8.out⟩
end Go.Proofs.YtkdhhcidpklgoaaGreatDoor

/- kind: Check. -/
namespace Go.Proofs.YtkdhhcidpklgoaaGreatDoor
open Go.RowKit Go.Shelf Go.Maps
attribute [local go_sem] Oper.semAt_some

/-- What a valid program gives of its functions. -/
theorem core_funs {C : Cg} (h : coreB C = true) : C.funs.length ≤ 12 ∧ ∀ f ∈ C.funs, f.vars.length = f.ps.length ∧ sortN C (addS (fun _ => false) (zipCo f.vars (f.ps.map Arg.co))) f.body ≠ 3 := by
  unfold coreB at h
  simp only [Bool.and_eq_true, decide_eq_true_eq, List.all_eq_true] at h
  obtain ⟨⟨⟨-, ⟨-, h1⟩, -⟩, -⟩, h2⟩ := h
  refine ⟨h1, fun f hf => ?_⟩
  have h3 := h2 f hf
  unfold funC at h3
  simp only [Bool.and_eq_true, decide_eq_true_eq, List.all_eq_true] at h3
  obtain ⟨-, h4, h5⟩ := h3
  exact ⟨(binds_lens h4).1, by rw [h5]; decide⟩
theorem all_step {α : Type} {p : α → Bool} {l : List α} {k : Nat} (h : k < l.length) : (l.drop k).all p = (p l[k] && (l.drop (k + 1)).all p) := by
  rw [List.drop_eq_getElem_cons h, List.all_cons]
set_option maxHeartbeats 16000000 in
set_option maxRecDepth 100000 in
theorem kindCheck_any (vd vf : Value) (C : Cg) (w : World) (hC : RCg w vd vf C) (hS : ShC C) (htab : Tabs w) (hB : ∀ f ∈ C.funs, BN f.body) :
    Calls Tryz.prog 8 #[cV vd vf] w fun e w' => e = .returned (.int .i64 (kindC C)) ∧ Ext w w' := by
  have HCK := Lib.hid (fun w' (h : Ext w w') => coreCheck_any vd vf C w' (hC.below h) hS (htab.ext h) hB)
  have HNC := Lib.hid (fun w' (h : Ext w w') => newChecker_any vd vf C w' (hC.below h))
  have HFA := Lib.hid (fun (wA W : World) (base mx mc : Nat) (f : CF) (vp vv xa xb : Value) (hw : Ext w wA) => fun_any vd vf C wA base mx mc f vp vv xa xb (hC.below hw) hS (htab.ext hw))
  obtain ⟨Ad, cd, rfl, -, -⟩ := hC.d.form
  obtain ⟨Af, cf, rfl, -, hmf⟩ := hC.f.form
  have HC := Lib.hid hC; have HSS := Lib.hid hS; have HB := Lib.hid hB
  have HE1 := Lib.hid (Ext.al w (.cells #[.slice Ad C.decls.length cd, .slice Af C.funs.length cf] 25))
  have HB1 := Lib.hid (heapNew w (.cells #[.slice Ad C.decls.length cd, .slice Af C.funs.length cf] 25))
  have hz1 : (w.alloc (.cells #[.slice Ad C.decls.length cd, .slice Af C.funs.length cf] 25)).heap.size = w.heap.size + 1 := by simp
  have hfl := hS.fl
  unfold maxLen at hmf
  clear hC hS htab hB
  cases hcb : coreB C
  · have HK : Hid (kindC C = 60) := by show _ = _; unfold kindC; rw [hcb]; rfl
    have HK2 : Hid (∀ w', Ext w w' → Calls Tryz.prog 20 #[cV (.slice Ad C.decls.length cd) (.slice Af C.funs.length cf)] w' fun e w'' => e = .returned (.int .i64 60) ∧ Ext w' w'') := fun w' h => by
      have := HCK.out w' h
      unfold chkC at this
      rw [hcb] at this
      exact this
    clear hcb
    go_enter Tryz.func8, Tryz.ntmps8
    go_wp2_with (go_at_call 20; (with_reducible refine (HK2.out _ HE1.out).mono ?_); rintro e w2 ⟨rfl, hx2⟩)
    go_ret
    exact ⟨ret_int HK.out.symm, HE1.out.tr hx2⟩
  · have HK : Hid (kindC C = if C.funs.all (funT C) then 0 else 70) := by show _ = _; unfold kindC; rw [hcb]; rfl
    have HK2 : Hid (∀ w', Ext w w' → Calls Tryz.prog 20 #[cV (.slice Ad C.decls.length cd) (.slice Af C.funs.length cf)] w' fun e w'' => e = .returned (.int .i64 0) ∧ Ext w' w'') := fun w' h => by
      have := HCK.out w' h
      unfold chkC at this
      rw [hcb] at this
      exact this
    have HCF := Lib.hid (core_funs hcb)
    have hf12 := (core_funs hcb).1
    clear hcb
    go_enter Tryz.func8, Tryz.ntmps8
    go_wp2_with (first
      | (go_at_call 20; (with_reducible refine (HK2.out _ HE1.out).mono ?_); rintro e w2 ⟨rfl, hx2⟩; have HX2 := Lib.hid (HE1.out.tr hx2); have hb2 := hx2.lt HB1.out; have HB2 := Lib.hid hb2; have k0 := cellAt hb2 0; have k1 := cellAt hb2 1; clear hx2 hb2)
      | (go_at_call 21; fail))
    refine (HNC.out _ HX2.out).mono ?_
    rintro e w3 ⟨mx, mc, rfl, hs3, hx3, hm1, hm2⟩
    have HX3 := Lib.hid hx3; have HS3 := Lib.hid hs3
    have hb3 := hx3.lt HB2.out
    have hz23 := hx3.size
    have HBX := Lib.hid ((Ext.al w3 (.cells #[.slice Ad C.decls.length cd, .slice Af C.funs.length cf, .map (some mx), .map (some mc)] 64)).lt hb3)
    have HBC := Lib.hid (heapNew w3 (.cells #[.slice Ad C.decls.length cd, .slice Af C.funs.length cf, .map (some mx), .map (some mc)] 64))
    have HX4 := Lib.hid (Ext.al w3 (.cells #[.slice Ad C.decls.length cd, .slice Af C.funs.length cf, .map (some mx), .map (some mc)] 64))
    have hz4 : (w3.alloc (.cells #[.slice Ad C.decls.length cd, .slice Af C.funs.length cf, .map (some mx), .map (some mc)] 64)).heap.size = w3.heap.size + 1 := by simp
    have r1 := cellAt HBX.out 1
    clear k0 k1 hx3 hs3 hb3
    go_wp2_with fail
    generalize w3.alloc _ = w4 at *
    have HS4 : Hid (SCX w4 w3.heap.size mx mc 0 (fun _ => nilS) (fun _ => [])) := HS3.out.ext HX4.out
    have HX24 : Hid (Ext w2 w4) := HX3.out.tr HX4.out
    clear r1
    go_loopw [17] (fun i wr => ∃ (j : Nat) (gj : Gv), j ≤ C.funs.length ∧ i = .int .i64 j ∧ SCX wr w3.heap.size mx mc (j * 8388608) gj (fun _ => []) ∧ Tr mx mc (fun _ => nilS) gj w4 wr ∧ C.funs.all (funT C) = (C.funs.drop j).all (funT C)) (fun i _ => C.funs.length - (intOf i).toNat)
    case atStart => exact ⟨0, _, Nat.zero_le _, rfl, by simpa using HS4.out, Tr.rf _ _ _ _, rfl⟩
    case round =>
      obtain ⟨j, gj, hj, rfl, hs, htr, hall⟩ := hrel
      have HS := Lib.hid hs; have HTR := Lib.hid htr; have HALL := Lib.hid hall
      have HXR : Hid (Ext w2 wr) := htr.keeps HS4.out HX24.out hm1 hm2 hz23
      have HBR := Lib.hid (htr.box HS4.out HBC.out tck_ne)
      have hzr := htr.only.size
      clear hs htr hall
      by_cases hlt : j < C.funs.length
      · obtain ⟨b, o, vp, vv, xa, xb, kk, rfl, hbl, y0, y1, y2, yn, y3, y4, y5, y6⟩ := HC.out.f.at_ hlt
        have HIN := Lib.hid (HCF.out.2 _ (List.getElem_mem hlt))
        have HBN := Lib.hid (HB.out _ (List.getElem_mem hlt))
        have HSN := Lib.hid (HSS.out.fn _ (List.getElem_mem hlt))
        have HST := Lib.hid (all_step (p := funT C) hlt)
        have HXW : Hid (Ext w wr) := HX2.out.tr HXR.out
        have z0 := HXW.out.keep y0
        have z1 := HXW.out.keep y1
        have z2 := HXW.out.keep y2
        obtain ⟨c0, c1, c2, c3, c4⟩ := yn.below HXW.out
        have HY4 := Lib.hid y4; have HY5 := Lib.hid y5; have HY6 := Lib.hid y6
        obtain ⟨Ap, cp, rfl, -, -⟩ := y4.form
        obtain ⟨Av, cv, rfl, -, -⟩ := y5.form
        obtain ⟨-, ⟨Ax, cx, rfl, -, -⟩, ⟨Bx, dx, rfl, -, -⟩⟩ := y6.form
        clear y0 y1 y2 yn y4 y5 y6
        generalize C.funs[j] = f at *
        have hbb := HBN.out.b
        have hvl := HSN.out.2.1
        have HEX := Lib.hid (Ext.al wr (.cells #[.string f.nm, .slice Ap f.ps.length cp, .slice Av f.vars.length cv, .int .i64 f.body.op, .int .i64 f.body.n, .int .i64 f.body.ty, .slice Ax f.body.args.length cx, .slice Bx f.body.brs.length dx] 53))
        have HNX := heapNew wr (.cells #[.string f.nm, .slice Ap f.ps.length cp, .slice Av f.vars.length cv, .int .i64 f.body.op, .int .i64 f.body.n, .int .i64 f.body.ty, .slice Ax f.body.args.length cx, .slice Bx f.body.brs.length dx] 53)
        have n0 := cellAt HNX 0
        have n1 := cellAt HNX 1
        have n2 := cellAt HNX 2
        have n3 := cellAt HNX 3
        have n4 := cellAt HNX 4
        have n5 := cellAt HNX 5
        have n6 := cellAt HNX 6
        have n7 := cellAt HNX 7
        have hq := HEX.out.lt HBR.out
        have p0 := cellAt hq 0
        have p1 := cellAt hq 1
        have p2 := cellAt hq 2
        have p3 := cellAt hq 3
        have hf := HFA.out w2 (wr.alloc (.cells #[.string f.nm, .slice Ap f.ps.length cp, .slice Av f.vars.length cv, .int .i64 f.body.op, .int .i64 f.body.n, .int .i64 f.body.ty, .slice Ax f.body.args.length cx, .slice Bx f.body.brs.length dx] 53)) w3.heap.size mx mc f _ _ _ _ HX2.out hm1 hm2 hz23 (HY4.out.below HX2.out) (HY5.out.below HX2.out) ⟨_, HY6.out.below HX2.out⟩ HBN.out HSN.out.1 HIN.out.1 HSN.out.2.2 HIN.out.2 (wr.alloc (.cells #[.string f.nm, .slice Ap f.ps.length cp, .slice Av f.vars.length cv, .int .i64 f.body.op, .int .i64 f.body.n, .int .i64 f.body.ty, .slice Ax f.body.args.length cx, .slice Bx f.body.brs.length dx] 53)) (j * 8388608) gj (HXR.out.tr HEX.out) (by have := HEX.out.size; omega) (HS.out.ext HEX.out) (by omega)
        obtain ⟨r, hr⟩ : ∃ r, funT C f = r := ⟨_, rfl⟩
        rw [hr] at hf HST
        have HF := Lib.hid hf
        have hjl : (j : Int) < C.funs.length := by omega
        clear hf hq HNX hr
        cases r
        · go_wp2_with (go_at_call 22; (with_reducible refine (HF.out).mono ?_); rintro e w6 ⟨rfl, g6, hs6, ht6⟩)
          go_ret
          exact ⟨ret_int (by rw [HK.out, HALL.out, HST.out]; rfl), HX2.out.tr ((HTR.out.tr (Tr.ext HEX.out ht6)).keeps HS4.out HX24.out hm1 hm2 hz23)⟩
        · go_wp2_with (go_at_call 22; (with_reducible refine (HF.out).mono ?_); rintro e w6 ⟨rfl, g6, hs6, ht6⟩)
          exact ⟨⟨j + 1, g6, by omega, by go_num, hs6.mono (by omega), HTR.out.tr (Tr.ext HEX.out ht6), by rw [HALL.out, HST.out]; rfl⟩, by simp [intOf]; omega⟩
      · have hjl : j = C.funs.length := by omega
        have HR : Hid (kindC C = 0) := by show _ = _; rw [HK.out, HALL.out, List.drop_eq_nil_of_le (by omega)]; rfl
        go_wp2
        go_ret
        exact ⟨ret_int HR.out.symm, HX2.out.tr HXR.out⟩
end Go.Proofs.YtkdhhcidpklgoaaGreatDoor
