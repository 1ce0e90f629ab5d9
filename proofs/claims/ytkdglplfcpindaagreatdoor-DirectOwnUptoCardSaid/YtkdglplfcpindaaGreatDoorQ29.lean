/- law.go: DirectOwn. -/
import Derived.Test.YtkdglplfcpindaaGreatDoorQ28
import Derived.Lib.ItoaLen
import Derived.Lib.AppendIntMem
import Derived.OpenShut
import Derived.ChangeSame
import Derived.ChangeVars
import Derived.LaidLaws
import Derived.JoinedCond
import Derived.Deep.DeepHandedRow
import Derived.Lib.LaidTab
namespace Go.Proofs.YtkdglplfcpindaaGreatDoor
open Go.RowKit

/-- A row that the call owns, with one cell set anew. -/
theorem own_setL {w : World} {B e : Nat} {g c n : Nat} {xs : List Value} (h : w.ownsRow B e 1 (.slice (some ⟨g, 0, none⟩) n c) n xs) {i : Nat} (hi : i < n) (u : Value) : (w.setCell ⟨g, i, none⟩ u).ownsRow B e 1 (.slice (some ⟨g, 0, none⟩) n c) n (xs.set i u) := by
  have hl := h.1
  refine ⟨by rw [List.length_set]; exact hl, ?_⟩
  rcases h.2 with ⟨h0, -⟩ | ⟨g', cap, cur, e1, e2, e3, e4, e5, e6, e7⟩
  · cases h0
  · simp only [Value.slice.injEq, Option.some.injEq, Addr.mk.injEq, true_and, and_true] at e1
    obtain ⟨rfl, rfl⟩ := e1
    refine .inr ⟨g, c, cur.setIfInBounds i u, rfl, e2, by simp [World.setCell, Array.getElem?_modify, e3], e4, e5, by rw [Array.size_setIfInBounds]; exact e6, ?_⟩
    rw [Array.toList_setIfInBounds, List.take_set, e7]
def incV (n : Int) : Int := wrap64 (n + 1)
def incL (l : List Int) (j : Nat) : List Int := (l.take j).map incV ++ l.drop j
theorem incL_zero (l : List Int) : incL l 0 = l := by simp [incL]
theorem incL_end (l : List Int) : incL l l.length = l.map incV := by simp [incL]
theorem incL_at {l : List Int} {j : Nat} (h : j < l.length) : (incL l j)[j]? = some l[j] := by
  unfold incL
  rw [List.getElem?_append_right (by simp; omega)]
  simp only [List.length_map, List.length_take]
  rw [show j - min j l.length = 0 by omega, List.getElem?_drop, Nat.add_zero, List.getElem?_eq_getElem h]
theorem incL_step {l : List Int} {j : Nat} (h : j < l.length) : (incL l j).set j (incV l[j]) = incL l (j + 1) := by
  unfold incL
  rw [List.set_append]
  have h0 : ((l.take j).map incV).length = j := by simp; omega
  rw [if_neg (by omega), List.take_succ_eq_append_getElem h, List.map_append, List.append_assoc]
  congr 1
  rw [h0, Nat.sub_self, List.drop_eq_getElem_cons h]
  rfl
theorem own_incL {w : World} {B g c : Nat} {l : List Int} {j : Nat} (h : w.ownsRow B 3 1 (.slice (some ⟨g, 0, none⟩) l.length c) l.length ((incL l j).map (Value.int .i64))) (hj : j < l.length) : (w.setCell ⟨g, j, none⟩ (.int .i64 (incV l[j]))).ownsRow B 3 1 (.slice (some ⟨g, 0, none⟩) l.length c) l.length ((incL l (j + 1)).map (Value.int .i64)) := by
  have := own_setL h hj (.int .i64 (incV l[j]))
  rw [← List.map_set, incL_step hj] at this
  exact this
/-- All that strconv.Itoa says of 64-bit integers. -/
theorem itoa_all {w : World} (htab : Lib.TabIs Tryz.prog w "internal/strconv.uint64pow10" .u64 Lib.pow10Tab) (n : Int) (h : ok64 n) : ItoaOK w n := by
  have hb : -9223372036854775808 ≤ n ∧ n ≤ 9223372036854775807 := by
    unfold ok64 at h
    simpa [Lit.wf, IntKind.min, IntKind.max, IntKind.signed, IntKind.bits] using h
  refine ⟨Lib.itoa_length_le n hb.1 hb.2, fun w' hw => ?_⟩
  refine (Tryz.strconv_Itoa n hb.1 hb.2 w' (Lib.tabBelow_of_tabIs htab w' hw)).mono ?_
  rintro e w2 ⟨rfl, k, os, rfl⟩
  exact ⟨rfl, Lib.below_grow _ _ (Nat.le_refl _) k os⟩
theorem outs_le {P : Pg} {fuel : Nat} {inputs : List Int} {r : Rn} (h : RunsTo P fuel (startS P inputs) r) : r.outs.length ≤ fuel + 1 := by
  obtain ⟨n, hn⟩ := h
  have key : ∀ (n : Nat) (s : St) (r : Rn), s.steps ≤ fuel → OB s → runS P fuel n s = some r → r.outs.length ≤ fuel + 1 := by
    intro n
    induction n with
    | zero => intro s r _ _ h; cases h
    | succ n ih =>
      intro s r hs hob h
      rw [runS] at h
      cases hd : doS P fuel s with
      | inl x =>
        rw [hd] at h; cases h
        have h1 := hob.le
        obtain ⟨st, o, tk⟩ := s
        cases tk with
        | ev t e k =>
          simp only [doS] at hd
          split at hd
          · cases hd; exact Nat.le_trans h1 (by simp at hs ⊢; omega)
          · split at hd
            · cases hd
            · cases hd; exact Nat.le_trans h1 (by simp at hs ⊢; omega)
        | pass v k =>
          simp only [doS] at hd
          split at hd
          · cases hd
          · rename_i how val o' hq
            cases hd
            have ho : o' = [] := by
              cases k with
              | nil => cases v <;> simp only [recS, Prod.mk.injEq] at hq <;> exact hq.2.symm
              | cons f k => cases f <;> cases v <;> simp only [recS] at hq <;> (try split at hq) <;> simp only [Prod.mk.injEq, reduceCtorEq, false_and] at hq <;> exact hq.2.symm
            subst ho
            rw [List.append_nil]
            exact Nat.le_trans h1 (by simp at hs ⊢; omega)
      | inr s' =>
        rw [hd] at h
        exact ih s' r ((doS_steps hs).1 s' hd).1 (doS_out hob hd) h
  exact key n _ r (Nat.zero_le _) (Nat.zero_le _) hn
theorem runE_fuel {P : Pg} {fuel : Int} {n : Nat} (h : runE P fuel n = 0) : 0 ≤ fuel ∧ fuel ≤ 20000 := by
  unfold runE at h
  split at h
  · split at h
    · cases h
    · rename_i hq
      omega
  · cases h
theorem RInts.src5 {w : World} {A : Option Addr} {c : Nat} {l : List Int} (h : RInts w (.slice A l.length c) l) : SrcN w A l.length 1 (l.map (Value.int .i64)) := by
  cases A with
  | none =>
    cases l with
    | nil => exact .inl ⟨rfl, rfl, rfl⟩
    | cons a r =>
      obtain ⟨_, _, hA, _⟩ := h.at_ (k := 0) (by simp)
      cases hA
  | some ad =>
    refine .inr ⟨ad, rfl, by simp, fun j u hu => ?_⟩
    rw [List.getElem?_map] at hu
    obtain ⟨s, hs, rfl⟩ := Option.map_eq_some_iff.1 hu
    obtain ⟨hlt, rfl⟩ := List.getElem?_eq_some_iff.1 hs
    obtain ⟨b, o, hA, _, c0⟩ := h.at_ hlt
    cases hA
    rw [add_at]; exact c0

/-- What Run answers, whatever the error. -/
def RunIs (P : Pg) (fuel : Int) (inputs : List Int) (r : Rn) : Prop :=
  (runE P fuel inputs.length = 0 → RunsTo P fuel.toNat (startS P inputs) r ∧ OkR r) ∧ (runE P fuel inputs.length ≠ 0 → r = ⟨0, 0, [], 0⟩)
theorem RunIs.one {P : Pg} {fuel : Int} {inputs : List Int} {r q : Rn} (h : RunIs P fuel inputs r) (k : RunIs P fuel inputs q) : r = q := by
  by_cases hz : runE P fuel inputs.length = 0
  · exact (h.1 hz).1.one (k.1 hz).1
  · rw [h.2 hz, k.2 hz]
theorem RunR.own {P : Pg} {w w' : World} {fuel : Int} {inputs : List Int} {e : Ending} (h : RunR P w fuel inputs e w') : ∃ (r : Rn) (A : Option Addr) (c : Nat), e = .returned (.tuple #[.agg #[.int .i64 r.stop, .int .i64 r.val, .slice A r.outs.length c, .int .i64 r.steps], .int .i64 (runE P fuel inputs.length)]) ∧ OwnL w' w.heap.size (.slice A r.outs.length c) r.outs ∧ Ext w w' ∧ RunIs P fuel inputs r := by
  unfold RunR at h
  by_cases hq : runE P fuel inputs.length = 0
  · rw [if_pos hq] at h
    obtain ⟨q, ov, h1, h2, h3, h4⟩ := h
    obtain ⟨A, c, rfl⟩ := own_shapeL h3
    exact ⟨q, A, c, by rw [hq]; exact h2, h3, h4, fun _ => h1, fun k => absurd hq k⟩
  · rw [if_neg hq] at h
    exact ⟨⟨0, 0, [], 0⟩, none, 0, h.1, ⟨rfl, .inl ⟨rfl, rfl⟩⟩, h.2, fun k => absurd k hq, fun _ => rfl⟩
theorem ValueR.form {P : Pg} {w w' : World} {fuel : Int} {inputs : List Int} {e : Ending} (h : ValueR P w fuel inputs e w') : (∃ s c, e = .returned (.tuple #[.string s, .int .i64 c])) ∧ Ext w w' := by
  unfold ValueR at h
  split at h
  · obtain ⟨r, -, h1, h2⟩ := h; exact ⟨⟨_, _, h1⟩, h2⟩
  · exact ⟨⟨_, _, h.1⟩, h.2⟩
theorem own_cap {w : World} {B e s n c : Nat} {A : Option Addr} {xs : List Value} (h : w.ownsRow B e s (.slice A n c) n xs) : n ≤ c ∧ c ≤ maxLen := by
  rcases h.2 with ⟨h1, h0⟩ | ⟨g, cap, cur, e1, -, -, e4, e5, -⟩
  · simp only [Value.slice.injEq] at h1
    exact ⟨by omega, by unfold maxLen; omega⟩
  · simp only [Value.slice.injEq, true_and] at e1
    obtain ⟨-, rfl⟩ := e1
    exact ⟨e4, e5⟩
theorem own_rd {w : World} {B n c j : Nat} {A : Option Addr} {xs : List Value} {u : Value} (h : w.ownsRow B 3 1 (.slice A n c) n xs) (hj : j < n) (hu : xs[j]? = some u) : ∃ g, A = some ⟨g, 0, none⟩ ∧ B ≤ g ∧ g < w.heap.size ∧ w.cell? ⟨g, j, none⟩ = some u ∧ w.frozen? ⟨g, j, none⟩ = false := by
  have hc := @World.ownsRow.cells w B 3 1 (.slice A n c) n xs h
  rcases h.2 with ⟨-, h0⟩ | ⟨g, cap, cur, e1, e2, e3, -⟩
  · omega
  · simp only [Value.slice.injEq, true_and] at e1
    obtain ⟨rfl, rfl⟩ := e1
    have := hc rfl j u hu
    have e : (⟨g, 0, none⟩ : Addr).add j = ⟨g, j, none⟩ := by unfold Addr.add; split <;> simp_all
    rw [e] at this
    exact ⟨g, rfl, e2, heap_lt e3, this, frozenAt e3 j⟩

set_option maxHeartbeats 8000000 in
set_option maxRecDepth 100000 in
theorem directOwn_any (P : Pg) (vd vf vi : Value) (fuel : Int) (inputs : List Int) (w : World) (hd : RDecls w vd P.decls) (hf : RFns w vf P.funs) (hI : RInts w vi inputs) (h64 : ∀ n ∈ inputs, ok64 n) (htab : Lib.TabIs Tryz.prog w "internal/strconv.uint64pow10" .u64 Lib.pow10Tab)
    (hM : Modest P.decls) (hl : P.funs.length ≤ 50000000) (hF : ∀ f ∈ P.funs, f.ps.length ≤ 50000000 ∧ uT f.body ≤ 50000000) :
    Calls Tryz.prog 6 #[pV vd vf, .int .i64 fuel, vi] w fun e w' => e = .returned (.bool true) ∧ Ext w w' := by
  have HD := Lib.hid hd
  have HF := Lib.hid hf
  have HI := Lib.hid hI
  have H64 := Lib.hid h64
  have HTAB := Lib.hid htab
  have HMO := Lib.hid hM
  have HFL := Lib.hid hl
  have HFF := Lib.hid hF
  obtain ⟨Ad, cd, rfl, hcd, hmd⟩ := hd.form
  obtain ⟨Af, cf, rfl, hcf, hmf⟩ := hf.form
  obtain ⟨Ai, ci, rfl, hci, hmi⟩ := hI.form
  clear hd hf hI h64 htab hM hl hF
  have HE := Lib.hid (Ext.al w (.cells #[.slice Ad P.decls.length cd, .slice Af P.funs.length cf] 25))
  have HBP := Lib.hid (heapNew w (.cells #[.slice Ad P.decls.length cd, .slice Af P.funs.length cf] 25))
  have p0 := cellAt HBP.out 0
  have p1 := cellAt HBP.out 1
  go_enter Tryz.func6, Tryz.ntmps6
  go_wp2_with fail
  generalize w.alloc _ = w1 at *
  clear p0 p1
  (with_reducible refine (FewX_any P _ _ 700 _ (HD.out.below HE.out) (HF.out.below HE.out) (by omega) (by omega)).mono ?_)
  rintro e w2 ⟨rfl, hb⟩
  have HX2 := Lib.hid (HE.out.tr hb)
  have HBP2 := Lib.hid ((hb.block _ (heap_lt HBP.out)).trans HBP.out)
  clear hb
  have p0 := cellAt HBP2.out 0
  have p1 := cellAt HBP2.out 1
  by_cases hq : fewB P 700 = true
  · have HFI : Hid (FinePg P) := fun f hf => fineF_of (by
      unfold fewB at hq
      simp only [Bool.and_eq_true, decide_eq_true_eq, List.all_eq_true] at hq
      have := hq.2 f hf
      omega)
    rw [hq]
    clear hq
    by_cases h99 : (99 : Int) < inputs.length
    · go_wp2_with fail
      (with_reducible refine (awake5_any _).mono ?_)
      rintro e wz ⟨rfl, hb⟩
      have HZ := Lib.hid (HX2.out.tr hb)
      clear hb
      go_wp2
      go_ret
      exact ⟨rfl, HZ.out⟩
    · have HI99 : Hid (inputs.length ≤ 99) := by show _ ≤ _; omega
      go_wp2_with fail
      (with_reducible refine (CopyProg_any P _ _ w2 (HD.out.below HX2.out) (HF.out.below HX2.out) HMO.out HFL.out HFF.out).mono ?_)
      rintro e w3 ⟨⟨ud, uf, vxs, B, rfl, hk, hkf⟩, hb⟩
      have HX3 := Lib.hid (HX2.out.tr hb)
      have HBP3 := Lib.hid ((hb.block _ (heap_lt HBP2.out)).trans HBP2.out)
      have HKD := Lib.hid (hk.reads (sizes_d HD.out))
      have HKF := Lib.hid (hkf.sub (Sub.unmask _ _ _))
      obtain ⟨Aud, cud, rfl, -, -⟩ := HKD.out.form
      obtain ⟨Auf, cuf, rfl, -, -⟩ := HKF.out.form
      clear hb hk hkf p0 p1
      go_wp2_with (at_builtin; refine app_vals Tryz.u57 Tryz.info3 rfl (by decide) (by decide) rfl _ _ rfl w3.heap.size (.slice none 0 0) 0 [] rfl ⟨rfl, .inl ⟨rfl, rfl⟩⟩ Ai inputs.length ci (inputs.map (Value.int .i64)) rfl (HI.out.below HX3.out).src5 (fun u hu => by obtain ⟨n, -, rfl⟩ := List.mem_map.1 hu; rfl) (by have := HI99.out; omega) (Nat.le_refl _) ?_)
      intro V4 w4 ho hg
      have HX34 : Hid (Ext w3 w4) := Below.grown (Below.refl _ _) hg (Nat.le_refl _) (fun j e => by simp [Value.ownBlock] at e)
      have HIN : Hid (RInts w4 V4 inputs) := by
        show RInts _ _ _
        exact own_ints (B := w3.heap.size) (by first | exact ho | simpa using ho)
      obtain ⟨Av, cv, rfl⟩ := own_shapeL ho
      have HX4 := Lib.hid (HX3.out.tr HX34.out)
      have HBP4 := Lib.hid ((HX34.out.block _ (heap_lt HBP3.out)).trans HBP3.out)
      have HKD4 := Lib.hid (HKD.out.below HX34.out)
      have HKF4 := Lib.hid (HKF.out.below HX34.out)
      clear ho hg HKD HKF
      have HX45 := Lib.hid (Ext.al w4 (.cells #[.slice Aud P.decls.length cud, .slice Auf P.funs.length cuf] 25))
      have HBO := Lib.hid (heapNew w4 (.cells #[.slice Aud P.decls.length cud, .slice Auf P.funs.length cuf] 25))
      have HBP5 := Lib.hid ((HX45.out.block _ (heap_lt HBP4.out)).trans HBP4.out)
      have p0 := cellAt HBP5.out 0
      have p1 := cellAt HBP5.out 1
      go_wp2_with fail
      generalize w4.alloc _ = w5 at *
      have HX5 := Lib.hid (HX4.out.tr HX45.out)
      (with_reducible refine (run_any P w5 _ _ _ fuel inputs (HD.out.below HX5.out) (HF.out.below HX5.out) HFI.out (HI.out.below HX5.out) H64.out).mono ?_)
      intro e w6 hr
      obtain ⟨r, Ar, cr, rfl, ho, hx, hri⟩ := hr.own
      have HRI := Lib.hid hri
      have HO6 := Lib.hid ho
      have HX56 := Lib.hid hx
      have HBP6 := Lib.hid ((hx.block _ (heap_lt HBP5.out)).trans HBP5.out)
      obtain ⟨hoc, hom⟩ := own_cap ho
      unfold maxLen at hom
      clear hr ho hx hri p0 p1
      obtain ⟨code, hcode⟩ : ∃ c, runE P fuel inputs.length = c := ⟨_, rfl⟩
      have HCO := Lib.hid hcode
      rw [hcode]
      clear hcode
      have HX67 := Lib.hid (Ext.al w6 (.cells #[.int .i64 r.stop, .int .i64 r.val, .slice Ar r.outs.length cr, .int .i64 r.steps] 30))
      have HBR := Lib.hid (heapNew w6 (.cells #[.int .i64 r.stop, .int .i64 r.val, .slice Ar r.outs.length cr, .int .i64 r.steps] 30))
      have HBP7 := Lib.hid ((HX67.out.block _ (heap_lt HBP6.out)).trans HBP6.out)
      have p0 := cellAt HBP7.out 0
      have p1 := cellAt HBP7.out 1
      go_wp2_with fail
      generalize hw7 : World.alloc w6 _ = w7 at *
      clear hw7
      have HX57 := Lib.hid (HX56.out.tr HX67.out)
      have HX7 := Lib.hid (HX5.out.tr HX57.out)
      have HVO : Hid (∀ q, runE P fuel inputs.length = 0 → RunsTo P fuel.toNat (startS P inputs) q → OkR q → q.outs.length ≤ 100000 ∧ (∀ n ∈ q.outs, ItoaOK w7 n) ∧ (q.stop ≠ 1 → q.stop ≠ 2 → ItoaOK w7 q.val)) := fun q hE hq hok => ⟨by have := outs_le hq; have := runE_fuel hE; omega, fun n hn => (itoa_all HTAB.out n (hok.1 n hn)).ext HX7.out, fun _ _ => (itoa_all HTAB.out _ hok.2).ext HX7.out⟩
      (with_reducible refine (value_any P w7 _ _ _ fuel inputs (HD.out.below HX7.out) (HF.out.below HX7.out) HFI.out (HI.out.below HX7.out) H64.out HVO.out).mono ?_)
      intro e w8 hv
      obtain ⟨⟨vs, vc, rfl⟩, hx⟩ := hv.form
      have HX78 := Lib.hid hx
      have HX58 := Lib.hid (HX57.out.tr hx)
      have HBR8 := Lib.hid ((hx.block _ (heap_lt HBR.out)).trans HBR.out)
      have HO8 := Lib.hid (own_below HO6.out (HX67.out.tr hx))
      clear hv hx p0 p1
      have r2 := cellAt HBR8.out 2
      go_wp2
      go_loopw [42] (fun i wr => ∃ j : Nat, j ≤ r.outs.length ∧ i = .int .i64 j ∧ wr.ownsRow w5.heap.size 3 1 (.slice Ar r.outs.length cr) r.outs.length ((incL r.outs j).map (Value.int .i64)) ∧ Ext w5 wr ∧ wr.heap[w6.heap.size]? = some (.cells #[.int .i64 r.stop, .int .i64 r.val, .slice Ar r.outs.length cr, .int .i64 r.steps] 30 (0, 0))) (fun i _ => r.outs.length - (intOf i).toNat)
      case atStart => exact ⟨0, Nat.zero_le _, rfl, by rw [incL_zero]; exact HO8.out, HX58.out, HBR8.out⟩
      case round =>
        obtain ⟨j, hj, rfl, ho, hE, hbx⟩ := hrel
        have HEk := Lib.hid hE
        have HBX := Lib.hid hbx
        by_cases hlt : j < r.outs.length
        · obtain ⟨g, rfl, hg1, hg2, y0, y1⟩ := own_rd ho hlt (by rw [List.getElem?_map, incL_at hlt]; rfl)
          obtain ⟨g', eg, hg3, hg4, -, -⟩ := own_rd HO6.out hlt (by rw [List.getElem?_map, List.getElem?_eq_getElem hlt]; rfl)
          obtain rfl : g = g' := by simpa using eg
          have HST := Lib.hid (own_incL ho hlt)
          have HEE : Hid (Ext w5 (wr.setCell ⟨g, j, none⟩ (.int .i64 (incV r.outs[j])))) := Lib.hid (Below.setNew hE hg1 (i := j) (.int .i64 (incV r.outs[j])))
          have HBX2 : Hid ((wr.setCell ⟨g, j, none⟩ (.int .i64 (incV r.outs[j]))).heap[w6.heap.size]? = some (.cells #[.int .i64 r.stop, .int .i64 r.val, .slice (some ⟨g, 0, none⟩) r.outs.length cr, .int .i64 r.steps] 30 (0, 0))) := set5_other hbx (by omega) j _
          have r2 := cellAt hbx 2
          unfold incV at HST HEE HBX2
          clear ho hE hbx eg hg1 hg3 hg4
          generalize r.outs[j] = x at *
          go_wp2
          exact ⟨⟨j + 1, by omega, by go_num, HST.out, HEE.out, HBX2.out⟩, by simp [intOf]; omega⟩
        · have hje : j = r.outs.length := by omega
          have HO9 : Hid (wr.ownsRow w5.heap.size 3 1 (.slice Ar r.outs.length cr) r.outs.length ((r.outs.map incV).map (Value.int .i64))) := by
            show World.ownsRow _ _ _ _ _ _ _
            have h9 := ho
            rw [hje, incL_end] at h9
            exact h9
          generalize wr = w9 at *
          have HX9 := Lib.hid (HX5.out.tr HEk.out)
          have HBP9 := Lib.hid ((HEk.out.block _ (heap_lt HBP5.out)).trans HBP5.out)
          clear ho hE hbx hje
          have p0 := cellAt HBP9.out 0
          have p1 := cellAt HBP9.out 1
          go_wp2_with fail
          (with_reducible refine (run_any P w9 _ _ _ fuel inputs (HD.out.below HX9.out) (HF.out.below HX9.out) HFI.out (HI.out.below HX9.out) H64.out).mono ?_)
          intro e wa hr
          obtain ⟨q, Aq, cq, rfl, hoq, hx, hrq⟩ := hr.own
          obtain rfl := HRI.out.one hrq
          rw [HCO.out]
          have HOQ := Lib.hid hoq
          have HX9a := Lib.hid hx
          have HBPa := Lib.hid ((hx.block _ (heap_lt HBP9.out)).trans HBP9.out)
          have HBXa := Lib.hid ((hx.block _ (heap_lt HBX.out)).trans HBX.out)
          have HOA := Lib.hid (own_below HO9.out hx)
          clear hr hoq hx hrq p0 p1
          have HXab := Lib.hid (Ext.al wa (.cells #[.int .i64 r.stop, .int .i64 r.val, .slice Aq r.outs.length cq, .int .i64 r.steps] 30))
          have HBRb := Lib.hid (heapNew wa (.cells #[.int .i64 r.stop, .int .i64 r.val, .slice Aq r.outs.length cq, .int .i64 r.steps] 30))
          have HBXb := Lib.hid ((HXab.out.block _ (heap_lt HBXa.out)).trans HBXa.out)
          have s0 := cellAt HBRb.out 0
          have s1 := cellAt HBRb.out 1
          have s2 := cellAt HBRb.out 2
          have s3 := cellAt HBRb.out 3
          have t0 := cellAt HBXb.out 0
          have t1 := cellAt HBXb.out 1
          have t2 := cellAt HBXb.out 2
          have t3 := cellAt HBXb.out 3
          go_upto_region 14 with fail
          generalize hwb : World.alloc wa _ = wb at *
          clear hwb
          have HX9b := Lib.hid (HX9a.out.tr HXab.out)
          have HXb := Lib.hid (HX9.out.tr HX9b.out)
          have HOAb := Lib.hid (own_below HOA.out HXab.out)
          have HOQb := Lib.hid (own_below HOQ.out HXab.out)
          clear s0 s1 s3 t0 t1 t3
          go_wp2
          go_loopw [96] (fun i wr => ∃ j : Nat, j ≤ r.outs.length ∧ i = .int .i64 j ∧ Ext wb wr) (fun i _ => r.outs.length - (intOf i).toNat)
          case atStart => exact ⟨0, Nat.zero_le _, rfl, Ext.rf _⟩
          case round =>
            obtain ⟨j2, hj2, rfl, hE2⟩ := hrel
            have HE2 := Lib.hid hE2
            have s2 := hE2.keep s2
            have t2 := hE2.keep t2
            clear hE2
            by_cases hlt2 : j2 < r.outs.length
            · obtain ⟨ga, rfl, -, -, ya, -⟩ := own_rd HOAb.out hlt2 (by rw [List.getElem?_map, List.getElem?_map, List.getElem?_eq_getElem hlt2]; rfl)
              obtain ⟨gq, rfl, -, -, yq, -⟩ := own_rd HOQb.out hlt2 (by rw [List.getElem?_map, List.getElem?_eq_getElem hlt2]; rfl)
              have ya := HE2.out.keep ya
              have yq := HE2.out.keep yq
              unfold incV at ya
              generalize r.outs[j2] = x at *
              go_upto_region 17 with fail
              go_region
              go_wp2
              exact ⟨⟨j2 + 1, by omega, by go_num, Ext.tr (b := wr) HE2.out (Ext.rf _).drew⟩, by simp [intOf]; omega⟩
            · have HX9b := Lib.hid (HX9b.out.tr HE2.out)
              have HXb := Lib.hid (HX9.out.tr HX9b.out)
              clear s2 t2
              generalize wr = wf at *
              have p0 := cellAt ((HX9b.out.block _ (heap_lt HBP9.out)).trans HBP9.out) 0
              have p1 := cellAt ((HX9b.out.block _ (heap_lt HBP9.out)).trans HBP9.out) 1
              have HBOb := Lib.hid (((HEk.out.tr HX9b.out).block _ (heap_lt HBO.out)).trans HBO.out)
              have q0 := cellAt HBOb.out 0
              have q1 := cellAt HBOb.out 1
              have HX4b := Lib.hid (HX45.out.tr (HEk.out.tr HX9b.out))
              go_wp2_with fail
              (with_reducible refine (SameProg_any P _ _ _ _ _ (HKD4.out.below HX4b.out) (HKF4.out.below HX4b.out) (HD.out.below HXb.out) (HF.out.below HXb.out)).mono ?_)
              rintro e wc ⟨rfl, hb⟩
              have HXbc := Lib.hid hb
              clear hb p0 p1 q0 q1
              go_wp2_with fail
              (with_reducible refine (same_ints_any _ _ inputs inputs _ (HIN.out.below (HX4b.out.tr HXbc.out)) (HI.out.below (HXb.out.tr HXbc.out))).mono ?_)
              rintro e wd ⟨rfl, hb⟩
              have HXd := Lib.hid ((HXb.out.tr HXbc.out).tr hb)
              clear hb
              rw [(eqL_iff inputs inputs).2 rfl]
              go_wp2_with fail
              (with_reducible refine (awake5_any _).mono ?_)
              rintro e wz ⟨rfl, hb⟩
              have HZ := Lib.hid (HXd.out.tr hb)
              clear hb
              go_wp2
              go_ret
              exact ⟨rfl, HZ.out⟩
  · have hq : fewB P 700 = false := by simpa using hq
    rw [hq]
    clear hq
    go_wp2_with fail
    (with_reducible refine (awake5_any _).mono ?_)
    rintro e wz ⟨rfl, hb⟩
    have HZ := Lib.hid (HX2.out.tr hb)
    clear hb
    go_wp2
    go_ret
    exact ⟨rfl, HZ.out⟩
end Go.Proofs.YtkdglplfcpindaaGreatDoor

/- chiasmuslaw05.DirectOwn returns true for every input, and its arguments read as they read before. Condition: what the arguments hold, counted as the given row counts them, is at most 1048576. -/
namespace Go.Proofs.YtkdglplfcpindaaGreatDoor.directOwnDone
open Go.ChangeShapes Go.WideShapes Go.ChangeAt Go.RowKit
open Go.ChangeMaps (open_string shut_string)

theorem own : ownKnob Tryz.prog.godebug = none := by kernel_rfl
theorem laidOut : laidOutB Tryz.prog = true := by kernel_rfl
def tab0 : Array Value := #[.int .u64 1, .int .u64 10, .int .u64 100, .int .u64 1000, .int .u64 10000, .int .u64 100000, .int .u64 1000000, .int .u64 10000000, .int .u64 100000000, .int .u64 1000000000, .int .u64 10000000000, .int .u64 100000000000, .int .u64 1000000000000, .int .u64 10000000000000, .int .u64 100000000000000, .int .u64 1000000000000000, .int .u64 10000000000000000, .int .u64 100000000000000000, .int .u64 1000000000000000000, .int .u64 10000000000000000000]
def tab1 : Array Value := #[.int .u8 0, .int .u8 1, .int .u8 28, .int .u8 2, .int .u8 29, .int .u8 14, .int .u8 24, .int .u8 3, .int .u8 30, .int .u8 22, .int .u8 20, .int .u8 15, .int .u8 25, .int .u8 17, .int .u8 4, .int .u8 8, .int .u8 31, .int .u8 27, .int .u8 13, .int .u8 23, .int .u8 21, .int .u8 19, .int .u8 16, .int .u8 7, .int .u8 26, .int .u8 12, .int .u8 18, .int .u8 6, .int .u8 11, .int .u8 5, .int .u8 10, .int .u8 9]
def tab2 : Array Value := #[.int .u8 0, .int .u8 1, .int .u8 56, .int .u8 2, .int .u8 57, .int .u8 49, .int .u8 28, .int .u8 3, .int .u8 61, .int .u8 58, .int .u8 42, .int .u8 50, .int .u8 38, .int .u8 29, .int .u8 17, .int .u8 4, .int .u8 62, .int .u8 47, .int .u8 59, .int .u8 36, .int .u8 45, .int .u8 43, .int .u8 51, .int .u8 22, .int .u8 53, .int .u8 39, .int .u8 33, .int .u8 30, .int .u8 24, .int .u8 18, .int .u8 12, .int .u8 5, .int .u8 63, .int .u8 55, .int .u8 48, .int .u8 27, .int .u8 60, .int .u8 41, .int .u8 37, .int .u8 16, .int .u8 46, .int .u8 35, .int .u8 44, .int .u8 21, .int .u8 52, .int .u8 32, .int .u8 23, .int .u8 11, .int .u8 54, .int .u8 26, .int .u8 40, .int .u8 15, .int .u8 34, .int .u8 20, .int .u8 31, .int .u8 10, .int .u8 25, .int .u8 14, .int .u8 19, .int .u8 9, .int .u8 13, .int .u8 8, .int .u8 7, .int .u8 6]
def lay (cs : Array Value) (o : Obj) : Obj := match o with
  | .cells _ t frozen => .cells cs t frozen
  | o => o
noncomputable def laidWorld (os : Os) : World :=
  { World.holding Tryz.prog os ⟨#[], #[], []⟩ with heap := (((World.holding Tryz.prog os ⟨#[], #[], []⟩).heap.modify 0 (lay tab0)).modify 1 (lay tab1)).modify 2 (lay tab2) }
set_option maxRecDepth 100000 in
theorem laid_met (os : Os) (args : Array Value) : laidMet Tryz.prog Rows.directOwnUptoRow.laid ((laidWorld os).forCall (fun _ _ => 0) ⟨#[], args, []⟩).memory :=
  laidMet_of_run' 8 (by kernel_rfl) (by kernel_rfl)
theorem gTab : Tryz.prog.globalNamed "internal/strconv.uint64pow10" = some 0 := by kernel_rfl
theorem gTabType : (Tryz.prog.globals[0]?).map (·.type) = some 256 := by kernel_rfl
theorem undTab : Tryz.prog.underlying 256 = some (.array 20 237) := by kernel_rfl
theorem undU64 : Tryz.prog.underlying 237 = some (.int .u64) := by kernel_rfl
theorem cellsTab : Tryz.prog.cellsOf 256 = 20 := by kernel_rfl
theorem cellsU64 : Tryz.prog.cellsOf 237 = 1 := by kernel_rfl
/-- What the row's list gives: the table of powers. -/
theorem table {W : World} (h : laidMetH Tryz.prog Rows.directOwnUptoRow.laid W) : Lib.TabIs Tryz.prog W "internal/strconv.uint64pow10" .u64 Lib.pow10Tab := by
  obtain ⟨ps, ⟨g1, t1, c1, f1, p1, q1, -, -, -, -, ⟨g2, t2, c2, f2, p2, q2, -, -, -, -, ⟨g', t', cs, fuel, p, q, hg', ht', hvar, hd, -, -⟩, -⟩, -⟩, -⟩ := h
  obtain rfl := Option.some.inj (gTab.symm.trans hg')
  obtain rfl := Option.some.inj (gTabType.symm.trans ht')
  unfold Lib.TabIs
  rw [hvar, ← Lib.cells_of_tab (zs := Lib.pow10Tab) undTab undU64 cellsU64 cellsTab (hd.trans (by rfl))]

section
variable {H : Type} {enc : TypeId × Value → H} {w : World} {base : Nat} {spare : Nat → Bool} {held : Bool}
theorem open_ints {fuel : Nat} {v : Value} {x : DataW H × List MemPlace} (h : DataW.trod enc Tryz.prog w base spare held fuel 26 [v] = some x) : ∃ l, RInts w v l ∧ ∀ n ∈ l, ok64 n := by
  obtain ⟨A, len, cap, bs, hcs, hl, hm, hbl, hbk, hi⟩ := elems_of Tryz.u57 (by rw [Tryz.cells3]; decide) h
  obtain rfl : v = .slice A len cap := by simpa using hcs
  have hex : ∀ i, i < len → ∃ a : Int, (∃ b o, A = some ⟨b, o, none⟩ ∧ b < w.heap.size ∧ w.cell? ⟨b, o + i, none⟩ = some (.int .i64 a)) ∧ ok64 a := fun i hlt => by
    obtain ⟨b, o, cs', n, y, rfl, hcl, hat, ht, -⟩ := hi i hlt
    rw [Tryz.cells3] at hcl hat
    obtain ⟨t, e0, _, hw⟩ := DataW.trod_int Tryz.u3 ht
    have c0 := hat 0 (by omega)
    subst e0
    exact ⟨t, ⟨b, o, rfl, cell_lt c0, by simpa using c0⟩, hw⟩
  obtain ⟨l, hll, hp⟩ := list_of len hex
  subst hll
  exact ⟨l, ⟨A, cap, rfl, hl, hm, fun i a hi => (hp i a hi).1⟩, fun n hn => by
    obtain ⟨i, hi⟩ := List.mem_iff_getElem?.1 hn
    exact (hp i n hi).2⟩
end
theorem reads (os : Os) {H : Type} (enc : TypeId × Value → H) : ∃ places, DataW.whole enc Tryz.prog ((laidWorld os).forCall (fun _ _ => 0) ⟨#[], #[.agg #[.slice none 0 0, .slice none 0 0], .int .i64 0, .slice none 0 0], []⟩).memory Tryz.f6.params.toList Rows.directOwnSpec.vars false (#[.agg #[.slice none 0 0, .slice none 0 0], .int .i64 0, .slice none 0 0] : Array Value).toList 8 = some ([.agg [.nil, .nil], .lit (.int .i64 0), .nil], [], places) :=
  ⟨[], by kernel_rfl⟩
set_option maxRecDepth 100000 in
theorem lifted (os : Os) (started : os.Started) (H : Type) (enc : TypeId × Value → H) (F : Stop.Interp) :
    ReturnsInHanded {} Tryz.checked os 6 .any ((Rows.OpenSpec.upto Rows.directOwnSpec).preRow enc Tryz.prog Tryz.f6 Rows.directOwnUptoRow.domain false Rows.directOwnUptoRow.laid) (((Rows.OpenSpec.upto Rows.directOwnSpec).at F).post enc Tryz.prog Tryz.f6 false true false false) := by
  obtain ⟨places, hx⟩ := reads os enc
  refine returnsInHanded_of_row (C := Tryz.checked) (s := Rows.OpenSpec.upto Rows.directOwnSpec) own started (by kernel_rfl) Tryz.func6
    (witness_row_at (enc := enc) (C := Tryz.checked) false (laidWorld os) #[.agg #[.slice none 0 0, .slice none 0 0], .int .i64 0, .slice none 0 0] rfl (by kernel_rfl) (by kernel_rfl) (by kernel_rfl)
      (OpenSpec.preRow_of_cond 8 hx (by kernel_rfl) (fun k hk => by cases hk; kernel_rfl) (by kernel_rfl) (laid_met os _))) ?_
  intro W base args ds gs before hval0 hW _ hcond _ hL _ _
  have hval : ∀ (j : Nat) t v, Tryz.f6.params[j]? = some t → args[j]? = some v → Value.okWide Tryz.prog W .any base t v := hval0
  have hW' := hW
  obtain ⟨p, q, hA0, hV, rfl, hfz, hnd⟩ := hW
  have hA : DataW.TrodAll enc Tryz.prog W 0 (fun _ => true) true Tryz.f6.params.toList args.toList ds p := hA0
  rw [Tryz.params6] at hA hval
  obtain ⟨v0, vs0, d0, ds0, p0, q0, hargs, rfl, rfl, h0, r0⟩ := trodAll_cons hA
  obtain ⟨v1, vs1, d1, ds1, p1, q1, rfl, rfl, rfl, h1, r1⟩ := trodAll_cons r0
  obtain ⟨v2, vs2, d2, ds2, p2, q2, rfl, rfl, rfl, h2, r2⟩ := trodAll_cons r1
  obtain ⟨rfl, rfl, rfl⟩ := trodAll_nil r2
  obtain rfl : args = #[v0, v1, v2] := by cases args; simp_all
  obtain ⟨rfl, rfl⟩ := trodVars_none hV
  have k0 := h0
  have k1 := h1
  have k2 := h2
  have lt0 : ∀ x ∈ p0, x.block < W.heap.size := by obtain ⟨m, hm⟩ := k0; exact DataW.trod_lt m _ _ _ hm
  have lt1 : ∀ x ∈ p1, x.block < W.heap.size := by obtain ⟨m, hm⟩ := k1; exact DataW.trod_lt m _ _ _ hm
  have lt2 : ∀ x ∈ p2, x.block < W.heap.size := by obtain ⟨m, hm⟩ := k2; exact DataW.trod_lt m _ _ _ hm
  have hsmall := hcond _ rfl
  have hbulk : Rows.uptoBulk d0 ≤ 1048576 := by
    have h1 : Rows.uptoBulkAll (d0 :: ([d1, d2] ++ [])) ≤ 1048576 := of_decide_eq_true hsmall
    simp only [Rows.uptoBulkAll, List.append_nil] at h1
    omega
  obtain ⟨fu, rfl, -, -, w1⟩ := open_int Tryz.u3 (hval 1 3 v1 rfl rfl) h1
  obtain ⟨l, hl, hl64⟩ : ∃ l, RInts W v2 l ∧ ∀ n ∈ l, ok64 n := by
    obtain ⟨A, n, c, rfl⟩ := okWide_slice Tryz.u57 (hval 2 26 v2 rfl rfl)
    obtain ⟨fuel, hf⟩ := h2
    exact open_ints hf
  obtain ⟨P, vd, vf, hv0, hd, hf, hmod, hfl, hfs⟩ : ∃ (P : Pg) (vd vf : Value), v0 = pV vd vf ∧ RDecls W vd P.decls ∧ RFns W vf P.funs ∧ Modest P.decls ∧ P.funs.length ≤ 50000000 ∧ ∀ f ∈ P.funs, f.ps.length ≤ 50000000 ∧ uT f.body ≤ 50000000 := by
    obtain ⟨cs, rfl⟩ := okWide_shape Tryz.shape25 (hval 0 25 v0 rfl rfl)
    obtain ⟨fuel, hf⟩ := h0
    obtain ⟨P, vd, vf, hcs, hd, hf, bd, bf⟩ := open_prog (x := (d0, p0)) hf
    have hcs' : cs.toList = [vd, vf] := hcs
    have h9 : Rows.uptoBulk (d0, p0).1 ≤ 1048576 := hbulk
    refine ⟨P, vd, vf, ?_, hd, hf, ⟨?_, fun d hd => ?_, fun d hd x hx => ?_⟩, ?_, fun f hf => ⟨?_, ?_⟩⟩
    · obtain ⟨l⟩ := cs
      simp only at hcs'
      rw [hcs']
    · exact Nat.le_trans bd.1 h9
    · exact Nat.le_trans (bd.2 d hd).1 h9
    · exact Nat.le_trans ((bd.2 d hd).2 x hx) h9
    · have := bf.1
      omega
    · have := (bf.2 f hf).1
      omega
    · have := (bf.2 f hf).2
      omega
  subst hv0
  clear hA0 hval0
  refine (directOwn_any P vd vf _ fu l W hd hf hl hl64 (table hL) hmod hfl hfs).mono fun e W' ⟨he, bel⟩ => ?_
  subst he
  exact ⟨_, rfl, _, _, _, [], _, [], hW', trodAll_mk1 (shut_bool Tryz.u4 _), (trodAll_cons_mk (Below.trod laidOut (by kernel_rfl) (of_decide_eq_true (by kernel_rfl)) k0 bel lt0) (trodAll_cons_mk (Below.trod laidOut (by kernel_rfl) (of_decide_eq_true (by kernel_rfl)) k1 bel lt1) (trodAll_cons_mk (Below.trod laidOut (by kernel_rfl) (of_decide_eq_true (by kernel_rfl)) k2 bel lt2) trodAll_mk0))), rfl, bel.frame _, fun h => by cases h⟩

theorem over : Rows.directOwnUptoRow.holds Tryz.pinned (Rows.OpenSpec.upto Rows.directOwnSpec) :=
  OpenClaim.holds_of_cond 6 Tryz.f6 rfl rfl rfl rfl rfl rfl rfl ⟨rfl, rfl, rfl, rfl, rfl⟩ rfl rfl rfl rfl rfl (by kernel_rfl) Tryz.func6 (by kernel_rfl)
    (of_decide_eq_true (by kernel_rfl)) (by unfold Func.isWrapper; first | (rw [if_pos (by decide +kernel)]; kernel_rfl) | (rw [if_neg (by decide +kernel)]; exact ⟨rfl, rfl⟩))
    (fun os started H enc _ F => by rw [OpenClaim.pre_eq_preRow]; exact lifted os started H enc F)

theorem proved : Rows.DirectOwnUptoSaid := over
#print axioms proved
end Go.Proofs.YtkdglplfcpindaaGreatDoor.directOwnDone
