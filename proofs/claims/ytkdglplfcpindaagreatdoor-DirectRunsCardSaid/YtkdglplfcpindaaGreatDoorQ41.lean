import Derived.Test.YtkdglplfcpindaaGreatDoorQ40
import Derived.OpenShut
import Derived.ChangeSame
import Derived.ChangeVars
import Derived.LaidLaws
import Derived.Lib.LaidTab
set_option maxRecDepth 100000
namespace Go.Proofs.YtkdglplfcpindaaGreatDoor
open Go.RowKit
theorem runE_len5 {P : Pg} {fuel : Int} {n : Nat} (h : runE P fuel n = 0) : progB P = true /\ n = (fnAt P 0).ps.length := by
  unfold runE at h
  split at h
  . rename_i hp
    split at h
    . cases h
    . rename_i hq
      by_cases k : n = (fnAt P 0).ps.length
      . exact ⟨hp, k⟩
      . exact absurd (.inr (.inr k)) hq
  . cases h
theorem stop_cases {P : Pg} {fuel : Nat} {inputs : List Int} {r : Rn} (h : RunsTo P fuel (startS P inputs) r) : r.stop = 0 ∨ r.stop = 1 ∨ r.stop = 2 := by
  obtain ⟨n, hn⟩ := h
  exact (runS_steps n _ r (Nat.zero_le _) hn).2.2.2.2
set_option maxHeartbeats 8000000 in
theorem directRuns_any (P : Pg) (vd vf vi : Value) (fuel : Int) (inputs : List Int) (w : World) (hd : RDecls w vd P.decls) (hf : RFns w vf P.funs) (hI : RInts w vi inputs) (h64 : ∀ n ∈ inputs, ok64 n) (htab : Lib.TabIs Tryz.prog w "internal/strconv.uint64pow10" .u64 Lib.pow10Tab) :
    Calls Tryz.prog 3 #[pV vd vf, .int .i64 fuel, vi] w fun e w' => e = .returned (.bool true) /\ Ext w w' := by
  have HD := LH hd
  have HF := LH hf
  have HI := LH hI
  have H64 := LH h64
  have HTAB := LH htab
  obtain ⟨Ad, cd, rfl, hcd, hmd⟩ := hd.form
  obtain ⟨Af, cf, rfl, hcf, hmf⟩ := hf.form
  obtain ⟨Ai, ci, rfl, hci, hmi⟩ := hI.form
  clear hd hf hI h64 htab
  have HE := LH (Ext.al w (.cells #[.slice Ad P.decls.length cd, .slice Af P.funs.length cf] 25))
  have HBP := LH (hNw w (.cells #[.slice Ad P.decls.length cd, .slice Af P.funs.length cf] 25))
  have p0 := cA HBP.out 0
  have p1 := cA HBP.out 1
  go_enter Tryz.func3, Tryz.ntmps3
  go_wp2_with fail
  generalize w.alloc _ = w1 at *
  clear p0 p1
  (with_reducible refine (FewX_any P _ _ 700 _ (HD.out.below HE.out) (HF.out.below HE.out) (by omega) (by omega)).mono ?_)
  rintro e w2 ⟨rfl, hb⟩
  have HX2 := LH (HE.out.tr hb)
  have HBP2 := LH ((hb.block _ (hLt HBP.out)).trans HBP.out)
  clear hb
  have p0 := cA HBP2.out 0
  have p1 := cA HBP2.out 1
  by_cases hq : fewB P 700 = true
  . have HFI : Hid (FinePg P) := fun f hf => fineF_of (by
      unfold fewB at hq
      simp only [Bool.and_eq_true, decide_eq_true_eq, List.all_eq_true] at hq
      have := hq.2 f hf
      omega)
    rw [hq]
    clear hq
    go_wp2_with fail
    (with_reducible refine (run_any P w2 _ _ _ fuel inputs (HD.out.below HX2.out) (HF.out.below HX2.out) HFI.out (HI.out.below HX2.out) H64.out).mono ?_)
    intro e w3 hr
    obtain ⟨r, Ar, cr, rfl, hro, hx, hz1, hz2⟩ := hr.own
    have HRI := LH (own_ints hro)
    have HRS := LH (And.intro hz1 hz2)
    have HX3 := LH (HX2.out.tr hx)
    have HBP3 := LH ((hx.block _ (hLt HBP2.out)).trans HBP2.out)
    clear hr hro hx hz1 hz2 p0 p1
    have HX4 := LH (Ext.al w3 (.cells #[.int .i64 r.stop, .int .i64 r.val, .slice Ar r.outs.length cr, .int .i64 r.steps] 30))
    have HBR := LH (hNw w3 (.cells #[.int .i64 r.stop, .int .i64 r.val, .slice Ar r.outs.length cr, .int .i64 r.steps] 30))
    have HBP4 := LH ((HX4.out.block _ (hLt HBP3.out)).trans HBP3.out)
    have p0 := cA HBP4.out 0
    have p1 := cA HBP4.out 1
    go_wp2_with fail
    generalize World.alloc w3 _ = w4 at *
    have HX34 := LH (HX3.out.tr HX4.out)
    have HVO : Hid (∀ q, runE P fuel inputs.length = 0 -> RunsTo P fuel.toNat (startS P inputs) q -> OkR q -> q.outs.length <= 100000 /\ (∀ n ∈ q.outs, ItoaOK w4 n) /\ (q.stop ≠ 1 -> q.stop ≠ 2 -> ItoaOK w4 q.val)) := fun q hE hq hok => ⟨by have := outs_le hq; have := runE_fuel hE; omega, fun n hn => (itoa_all HTAB.out n (hok.1 n hn)).ext HX34.out, fun _ _ => (itoa_all HTAB.out _ hok.2).ext HX34.out⟩
    (with_reducible refine (value_any P w4 _ _ _ fuel inputs (HD.out.below HX34.out) (HF.out.below HX34.out) HFI.out (HI.out.below HX34.out) H64.out HVO.out).mono ?_)
    intro e w5 hv
    have hvx : Ext w4 w5 := hv.form.2
    have HX5 := LH (HX34.out.tr hvx)
    have HBP5 := LH ((hvx.block _ (hLt HBP4.out)).trans HBP4.out)
    have HBR5 := LH ((hvx.block _ (hLt HBR.out)).trans HBR.out)
    have HRI5 := LH (HRI.out.below (HX4.out.tr hvx))
    unfold ValueR at hv
    clear hvx p0 p1
    have p0 := cA HBP5.out 0
    have p1 := cA HBP5.out 1
    by_cases hz : runE P fuel inputs.length = 0
    . rw [if_pos hz] at hv
      obtain ⟨q, hq1, rfl, -⟩ := hv
      obtain ⟨hr1, hok⟩ := HRS.out.1 hz
      obtain rfl := hr1.one hq1
      have HOK := LH hok
      have HR1 := LH hr1
      have HZ := LH hz
      obtain ⟨k, rfl⟩ : ∃ k : Nat, fuel = k := ⟨fuel.toNat, by have := runE_fuel hz; omega⟩
      have HK : Hid (k <= 20000) := by show _ <= _; have := runE_fuel hz; omega
      rw [hz]
      clear hz hok hr1 hq1
      go_wp2_with fail
      (with_reducible refine (validR_any P w5 _ _ _ k inputs (HD.out.below HX5.out) (HF.out.below HX5.out) (HI.out.below HX5.out)).mono ?_)
      rintro e w6 ⟨rfl, hx⟩
      rw [HZ.out]
      have HX6 := LH (HX5.out.tr hx)
      have HBP6 := LH ((hx.block _ (hLt HBP5.out)).trans HBP5.out)
      have HBR6 := LH ((hx.block _ (hLt HBR5.out)).trans HBR5.out)
      have HRI6 := LH (HRI5.out.below hx)
      clear hx p0 p1
      have p0 := cA HBP6.out 0
      have p1 := cA HBP6.out 1
      have HPB := LH (runE_len5 HZ.out)
      have HPL : Hid ((fnAt P 0).ps.length <= 1000) := by show _ <= _; have := (prog_fn HPB.out.1 (main_ok HPB.out.1).1).1; omega
      have HRK : Hid (RunsTo P k (startS P inputs) r) := by show _; have h1 := HR1.out; rw [Int.toNat_natCast] at h1; exact h1
      go_wp2_with fail
      (with_reducible refine (runR_any P w6 _ _ _ k inputs r ⟨HPB.out.1, fun h => by cases h⟩ HK.out (HD.out.below HX6.out) (HF.out.below HX6.out) (HI.out.below HX6.out) H64.out HPB.out.2 HPL.out HRK.out).mono ?_)
      rintro e w7 ⟨⟨ov, rfl, ho⟩, hx⟩
      obtain ⟨Ao, co, rfl⟩ := oSL ho
      have HX7 := LH (HX6.out.tr hx)
      have HBR7 := LH ((hx.block _ (hLt HBR6.out)).trans HBR6.out)
      have HRI7 := LH (HRI6.out.below hx)
      have HRO7 := LH (own_ints ho)
      clear ho hx p0 p1
      have HX8 := LH (Ext.al w7 (.cells #[.int .i64 r.stop, .int .i64 r.val, .slice Ao r.outs.length co, .int .i64 r.steps] 30))
      have HBO := LH (hNw w7 (.cells #[.int .i64 r.stop, .int .i64 r.val, .slice Ao r.outs.length co, .int .i64 r.steps] 30))
      have HBR8 := LH ((HX8.out.block _ (hLt HBR7.out)).trans HBR7.out)
      have r0 := cA HBR8.out 0
      have r1 := cA HBR8.out 1
      have r2 := cA HBR8.out 2
      have r3 := cA HBR8.out 3
      have o0 := cA HBO.out 0
      have o1 := cA HBO.out 1
      have o2 := cA HBO.out 2
      have o3 := cA HBO.out 3
      go_wp2_with fail
      generalize World.alloc w7 _ = w8 at *
      (with_reducible refine (Same5_any w8 r r _ _ (HRI7.out.below HX8.out) (HRO7.out.below HX8.out)).mono ?_)
      rintro e w9 ⟨rfl, hx⟩
      rw [sameR_refl]
      have HX9 := LH ((HX7.out.tr HX8.out).tr hx)
      have HBO9 := LH ((hx.block _ (hLt HBO.out)).trans HBO.out)
      have HRO9 := LH (HRO7.out.below (HX8.out.tr hx))
      clear hx r0 r1 r2 r3 o0 o1 o2 o3
      have o0 := cA HBO9.out 0
      have o1 := cA HBO9.out 1
      have o2 := cA HBO9.out 2
      have o3 := cA HBO9.out 3
      have HOL : Hid (r.outs.length <= 100000) := by show _ <= _; have := outs_le HR1.out; have := HK.out; simp only [Int.toNat_natCast] at *; omega
      go_wp2_with fail
      (with_reducible refine (stringR_any w9 r _ HRO9.out HOL.out HOK.out (stop_cases HR1.out)).mono ?_)
      rintro e w10 ⟨rfl, hx⟩
      have HX10 := LH (HX9.out.tr hx)
      clear hx o0 o1 o2 o3
      generalize (⟨(textS r).toArray⟩ : Str) = str at *
      go_wp2_with fail
      (with_reducible refine (awake5_any _).mono ?_)
      rintro e wz ⟨rfl, hb⟩
      have HZ := LH (HX10.out.tr hb)
      clear hb
      go_wp2
      go_ret
      exact ⟨rfl, HZ.out⟩
    . rw [if_neg hz] at hv
      obtain ⟨rfl, -⟩ := hv
      obtain rfl := HRS.out.2 hz
      obtain ⟨code, hcode⟩ : ∃ c, runE P fuel inputs.length = c := ⟨_, rfl⟩
      have HCO := LH hcode
      rw [hcode] at hz ⊢
      have hne : (code == 0) = false := by simpa using hz
      have hne2 : (code != 0) = true := by simpa using hz
      clear hz hcode
      go_wp2_with fail
      (with_reducible refine (validR_any P w5 _ _ _ fuel inputs (HD.out.below HX5.out) (HF.out.below HX5.out) (HI.out.below HX5.out)).mono ?_)
      rintro e w6 ⟨rfl, hx⟩
      rw [HCO.out]
      have HX6 := LH (HX5.out.tr hx)
      have HBR6 := LH ((hx.block _ (hLt HBR5.out)).trans HBR5.out)
      have HRI6 := LH (HRI5.out.below hx)
      have HS5 : Hid (Calls Tryz.prog 12 #[.agg #[.int .i64 0, .int .i64 0, .slice Ar 0 cr, .int .i64 0], .agg #[.int .i64 0, .int .i64 0, .slice none 0 0, .int .i64 0]] w6 fun e w' => e = .returned (.bool true) /\ Ext w6 w') := Same5_any w6 ⟨0, 0, [], 0⟩ ⟨0, 0, [], 0⟩ _ _ HRI6.out (no_ints _)
      clear hx p0 p1
      have r0 := cA HBR6.out 0
      have r1 := cA HBR6.out 1
      have r2 := cA HBR6.out 2
      have r3 := cA HBR6.out 3
      go_wp2_with fail
      (with_reducible refine HS5.out.mono ?_)
      rintro e w7 ⟨rfl, hx⟩
      have HX7 := LH (HX6.out.tr hx)
      clear hx r0 r1 r2 r3
      go_wp2_with fail
      (with_reducible refine (awake5_any _).mono ?_)
      rintro e wz ⟨rfl, hb⟩
      have HZ := LH (HX7.out.tr hb)
      clear hb
      go_wp2
      go_ret
      exact ⟨rfl, HZ.out⟩
  . have hq : fewB P 700 = false := by simpa using hq
    rw [hq]
    clear hq
    go_wp2_with fail
    (with_reducible refine (awake5_any _).mono ?_)
    rintro e wz ⟨rfl, hb⟩
    have HZ := LH (HX2.out.tr hb)
    clear hb
    go_wp2
    go_ret
    exact ⟨rfl, HZ.out⟩
end Go.Proofs.YtkdglplfcpindaaGreatDoor

namespace Go.Proofs.YtkdglplfcpindaaGreatDoor.directRunsDone
open Go.ChangeShapes Go.WideShapes Go.ChangeAt Go.RowKit
open Go.ChangeMaps (open_string shut_string)
theorem own : ownKnob Tryz.prog.godebug = none := by kernel_rfl
theorem laidOut : laidOutB Tryz.prog = true := by kernel_rfl
def tab0 : Array Value := #[.int .u64 1, .int .u64 10, .int .u64 100, .int .u64 1000, .int .u64 10000, .int .u64 100000, .int .u64 1000000, .int .u64 10000000, .int .u64 100000000, .int .u64 1000000000, .int .u64 10000000000, .int .u64 100000000000, .int .u64 1000000000000, .int .u64 10000000000000, .int .u64 100000000000000, .int .u64 1000000000000000, .int .u64 10000000000000000, .int .u64 100000000000000000, .int .u64 1000000000000000000, .int .u64 10000000000000000000]
def tab1 : Array Value := #[.int .u8 0, .int .u8 1, .int .u8 28, .int .u8 2, .int .u8 29, .int .u8 14, .int .u8 24, .int .u8 3, .int .u8 30, .int .u8 22, .int .u8 20, .int .u8 15, .int .u8 25, .int .u8 17, .int .u8 4, .int .u8 8, .int .u8 31, .int .u8 27, .int .u8 13, .int .u8 23, .int .u8 21, .int .u8 19, .int .u8 16, .int .u8 7, .int .u8 26, .int .u8 12, .int .u8 18, .int .u8 6, .int .u8 11, .int .u8 5, .int .u8 10, .int .u8 9]
def tab2 : Array Value := #[.int .u8 0, .int .u8 1, .int .u8 56, .int .u8 2, .int .u8 57, .int .u8 49, .int .u8 28, .int .u8 3, .int .u8 61, .int .u8 58, .int .u8 42, .int .u8 50, .int .u8 38, .int .u8 29, .int .u8 17, .int .u8 4, .int .u8 62, .int .u8 47, .int .u8 59, .int .u8 36, .int .u8 45, .int .u8 43, .int .u8 51, .int .u8 22, .int .u8 53, .int .u8 39, .int .u8 33, .int .u8 30, .int .u8 24, .int .u8 18, .int .u8 12, .int .u8 5, .int .u8 63, .int .u8 55, .int .u8 48, .int .u8 27, .int .u8 60, .int .u8 41, .int .u8 37, .int .u8 16, .int .u8 46, .int .u8 35, .int .u8 44, .int .u8 21, .int .u8 52, .int .u8 32, .int .u8 23, .int .u8 11, .int .u8 54, .int .u8 26, .int .u8 40, .int .u8 15, .int .u8 34, .int .u8 20, .int .u8 31, .int .u8 10, .int .u8 25, .int .u8 14, .int .u8 19, .int .u8 9, .int .u8 13, .int .u8 8, .int .u8 7, .int .u8 6]
def lay (cs : Array Value) (o : Obj) : Obj := match o with
  | .cells _ t frozen => .cells cs t frozen
  | o => o
noncomputable def laidWorld (os : Os) : World :=
  { World.holding Tryz.prog os ⟨#[], #[], []⟩ with heap := (((World.holding Tryz.prog os ⟨#[], #[], []⟩).heap.modify 0 (lay tab0)).modify 1 (lay tab1)).modify 2 (lay tab2) }
theorem laid_met (os : Os) (args : Array Value) : laidMet Tryz.prog Rows.directRunsRow.laid ((laidWorld os).forCall (fun _ _ => 0) ⟨#[], args, []⟩).memory :=
  laidMet_of_run' 8 (by kernel_rfl) (by kernel_rfl)
theorem gTab : Tryz.prog.globalNamed "internal/strconv.uint64pow10" = some 0 := by kernel_rfl
theorem gTabType : (Tryz.prog.globals[0]?).map (·.type) = some 256 := by kernel_rfl
theorem undTab : Tryz.prog.underlying 256 = some (.array 20 237) := by kernel_rfl
theorem undU64 : Tryz.prog.underlying 237 = some (.int .u64) := by kernel_rfl
theorem cellsTab : Tryz.prog.cellsOf 256 = 20 := by kernel_rfl
theorem cellsU64 : Tryz.prog.cellsOf 237 = 1 := by kernel_rfl
theorem table {W : World} (h : laidMet Tryz.prog Rows.directRunsRow.laid W) : Lib.TabIs Tryz.prog W "internal/strconv.uint64pow10" .u64 Lib.pow10Tab := by
  obtain ⟨ps, ⟨g1, t1, c1, f1, p1, q1, -, -, -, -, ⟨g2, t2, c2, f2, p2, q2, -, -, -, -, ⟨g', t', cs, fuel, p, q, hg', ht', hvar, hd, -, -⟩, -⟩, -⟩, -⟩ := h
  obtain rfl := Option.some.inj (gTab.symm.trans hg')
  obtain rfl := Option.some.inj (gTabType.symm.trans ht')
  unfold Lib.TabIs
  rw [hvar, ← Lib.cells_of_tab (zs := Lib.pow10Tab) undTab undU64 cellsU64 cellsTab (hd.trans (by rfl))]
section
variable {H : Type} {enc : TypeId × Value -> H} {w : World} {base : Nat} {spare : Nat -> Bool} {held : Bool}
theorem open_ints {fuel : Nat} {v : Value} {x : DataW H × List MemPlace} (h : DataW.trod enc Tryz.prog w base spare held fuel 26 [v] = some x) : ∃ l, RInts w v l /\ ∀ n ∈ l, ok64 n := by
  obtain ⟨A, len, cap, bs, hcs, hl, hm, hbl, hbk, hi⟩ := elems_of Tryz.u57 (by rw [Tryz.cells3]; decide) h
  obtain rfl : v = .slice A len cap := by simpa using hcs
  have hex : ∀ i, i < len -> ∃ a : Int, (∃ b o, A = some ⟨b, o, none⟩ /\ b < w.heap.size /\ w.cell? ⟨b, o + i, none⟩ = some (.int .i64 a)) /\ ok64 a := fun i hlt => by
    obtain ⟨b, o, cs', n, y, rfl, hcl, hat, ht, -⟩ := hi i hlt
    rw [Tryz.cells3] at hcl hat
    obtain ⟨t, e0, _, hw⟩ := DataW.trod_int Tryz.u3 ht
    have c0 := hat 0 (by omega)
    subst e0
    exact ⟨t, ⟨b, o, rfl, cL c0, by simpa using c0⟩, hw⟩
  obtain ⟨l, hll, hp⟩ := list_of len hex
  subst hll
  exact ⟨l, ⟨A, cap, rfl, hl, hm, fun i a hi => (hp i a hi).1⟩, fun n hn => by
    obtain ⟨i, hi⟩ := List.mem_iff_getElem?.1 hn
    exact (hp i n hi).2⟩
end
theorem wf_bounds {n : Int} (h : (Lit.int .i64 n).wf = true) : -9223372036854775808 <= n /\ n <= 9223372036854775807 := by
  simpa [Lit.wf, IntKind.min, IntKind.max, IntKind.signed, IntKind.bits] using h
theorem lifted (os : Os) (started : os.Started) (H : Type) (enc : TypeId × Value -> H) :
    ReturnsInHanded {} Tryz.checked os 3 .any (fun w args => (Rows.directRunsSpec.pre enc Tryz.prog Tryz.f3 Rows.directRunsRow.domain false w args /\ laidMet Tryz.prog Rows.directRunsRow.laid w) /\ sizedMet enc Tryz.prog Tryz.f3 (OpenSpec.ofChange Rows.directRunsSpec) false w args)
      (Rows.directRunsSpec.post enc Tryz.prog Tryz.f3 false true false false) := by
  refine returnsInHanded_of_change_and (C := Tryz.checked) (X := fun w _ => laidMet Tryz.prog Rows.directRunsRow.laid w) (fun _ _ _ hh h => h.of_heap hh) own started (by kernel_rfl) Tryz.func3
    (ChangeSpec.witness_at (enc := enc) (C := Tryz.checked) (os := os) (X := fun w _ => laidMet Tryz.prog Rows.directRunsRow.laid w) false (laidWorld os) #[.agg #[.slice none 0 0, .slice none 0 0], .int .i64 0, .slice none 0 0] 8 rfl (by kernel_rfl) (by kernel_rfl) (by kernel_rfl) (by kernel_rfl) (by kernel_rfl) (laid_met os _)) ?_
  intro W base args ds gs before hval0 hW hcnd hz1 hz2 hz3
  have hval : ∀ (j : Nat) t v, Tryz.f3.params[j]? = some t -> args[j]? = some v -> Value.okWide Tryz.prog W .any base t v := hval0
  have hW' := hW
  obtain ⟨p, q, hA0, hV, rfl, hfz, hnd⟩ := hW
  have hA : DataW.TrodAll enc Tryz.prog W 0 (fun _ => true) true Tryz.f3.params.toList args.toList ds p := hA0
  rw [Tryz.params3] at hA hval
  obtain ⟨v0, vs0, d0, ds0, p0, q0, hargs, rfl, rfl, h0, r0⟩ := trodAll_cons hA
  obtain ⟨v1, vs1, d1, ds1, p1, q1, rfl, rfl, rfl, h1, r1⟩ := trodAll_cons r0
  obtain ⟨v2, vs2, d2, ds2, p2, q2, rfl, rfl, rfl, h2, r2⟩ := trodAll_cons r1
  obtain ⟨rfl, rfl, rfl⟩ := trodAll_nil r2
  obtain rfl : args = #[v0, v1, v2] := by cases args; simp_all
  obtain ⟨rfl, rfl⟩ := trodVars_none hV
  have k0 := h0
  have k1 := h1
  have k2 := h2
  have lt0 : ∀ x ∈ p0, x.block < W.heap.size := by obtain ⟨m, hm⟩ := k0; exact DataW.trod_lt m _ _ _ hm
  have lt1 : ∀ x ∈ p1, x.block < W.heap.size := by obtain ⟨m, hm⟩ := k1; exact DataW.trod_lt m _ _ _ hm
  have lt2 : ∀ x ∈ p2, x.block < W.heap.size := by obtain ⟨m, hm⟩ := k2; exact DataW.trod_lt m _ _ _ hm
  obtain ⟨fu, rfl, -, -, w1⟩ := open_int Tryz.u3 (hval 1 3 v1 rfl rfl) h1
  obtain ⟨l, hl, hl64⟩ : ∃ l, RInts W v2 l /\ ∀ n ∈ l, ok64 n := by
    obtain ⟨A, n, c, rfl⟩ := okWide_slice Tryz.u57 (hval 2 26 v2 rfl rfl)
    obtain ⟨fuel, hf⟩ := h2
    exact open_ints hf
  obtain ⟨P, vd, vf, hv0, hd, hf⟩ : ∃ (P : Pg) (vd vf : Value), v0 = pV vd vf /\ RDecls W vd P.decls /\ RFns W vf P.funs := by
    obtain ⟨cs, rfl⟩ := okWide_shape Tryz.shape25 (hval 0 25 v0 rfl rfl)
    obtain ⟨fuel, hf⟩ := h0
    obtain ⟨P, vd, vf, hcs, hd, hf, _, _⟩ := open_prog (x := (d0, p0)) hf
    have hcs' : cs.toList = [vd, vf] := hcs
    refine ⟨P, vd, vf, ?_, hd, hf⟩
    obtain ⟨l⟩ := cs
    simp only at hcs'
    rw [hcs']
  subst hv0
  clear hA0 hval0
  refine (directRuns_any P vd vf _ fu l W hd hf hl hl64 (table (by first | exact hz1 | exact hz2 | exact hz3))).mono fun e W' ⟨he, bel⟩ => ?_
  subst he
  exact ⟨_, rfl, _, _, _, [], _, [], hW', trodAll_mk1 (shut_bool Tryz.u4 _), (trodAll_cons_mk (Below.trod laidOut (by kernel_rfl) (of_decide_eq_true (by kernel_rfl)) k0 bel lt0) (trodAll_cons_mk (Below.trod laidOut (by kernel_rfl) (of_decide_eq_true (by kernel_rfl)) k1 bel lt1) (trodAll_cons_mk (Below.trod laidOut (by kernel_rfl) (of_decide_eq_true (by kernel_rfl)) k2 bel lt2) trodAll_mk0))), rfl, bel.frame _, fun h => by cases h⟩
theorem over : Rows.directRunsRow.holds Tryz.pinned (OpenSpec.ofChange Rows.directRunsSpec) :=
  OpenClaim.holds_of_wide 3 Tryz.f3 rfl rfl rfl rfl rfl rfl rfl ⟨rfl, rfl, rfl, rfl, rfl⟩ rfl rfl rfl rfl rfl (by kernel_rfl) Tryz.func3 (by kernel_rfl)
    (of_decide_eq_true (by kernel_rfl)) (by unfold Func.isWrapper; first | (rw [if_pos (by decide +kernel)]; kernel_rfl) | (rw [if_neg (by decide +kernel)]; exact ⟨rfl, rfl⟩))
    (fun os started H enc _ => lifted os started H enc)
theorem proved : Rows.DirectRunsSaid := over
#print axioms proved
end Go.Proofs.YtkdglplfcpindaaGreatDoor.directRunsDone
