/- node: leave, as a deferred call. -/
import Derived.Test.YtkdhhcidpklgoaaGreatDoorQ5
import Derived.Defers
import Derived.DefersIn
import Derived.Lib.AppendZeros
namespace Go.Proofs.YtkdhhcidpklgoaaGreatDoor
open Go.RowKit Go.Shelf
attribute [local go_sem] Oper.semAt_some

section
variable {P : Program}
/-- A frame leaves whose deferred calls are marks that hand over none. -/
def LeavesG (P : Program) (fn : Func) (tmps : Array Value) (R : Ending → World → Prop) : List Deferred → World → Prop
  | [], w => ∃ v, (results fn tmps).run P w = .ok v w ∧ R (.returned v) w
  | d :: ds, w => ∃ r w', d.target = .collected r ∧ (Instr.takeDeferred r).run P w = .ok [] w' ∧ LeavesG P fn tmps R ds w'
theorem leaves_stepsG {fn : Func} {tmps : Array Value} {R : Ending → World → Prop} : ∀ (ds : List Deferred) (w : World) (fr : Frame)
    (cs : List Frame), fr.mode = .returning → fr.defers = ds → fr.tmps = tmps → P.funcs[fr.fn]? = some fn → LeavesG P fn tmps R ds w →
    ∃ v w' fr', R (.returned v) w' ∧ Steps P (lone fr cs w) (lone fr' cs w') ∧ fr'.fn = fr.fn ∧ fr'.kind = fr.kind ∧ fr'.going P w' (.returned v) := by
  intro ds
  induction ds with
  | nil =>
    intro w fr cs hu hd ht hf h
    obtain ⟨v, hr, hR⟩ := h
    exact ⟨v, w, fr, hR, Steps.refl P _, rfl, rfl, hu, hd, fn, hf, ht ▸ hr⟩
  | cons d ds ih =>
    intro w fr cs hu hd ht hf h
    obtain ⟨r, w', htar, htake, hrest⟩ := h
    have h1 := step_collected (cs := cs) (by rw [hu]; simp) hd htar htake
    obtain ⟨v, w'', fr', hR', hs', hfn', hk', hl'⟩ := ih w' { fr with defers := [] ++ ds } cs hu rfl ht hf hrest
    exact ⟨v, w'', fr', hR', .head h1 hs', hfn', hk', hl'⟩
/-- What the body of a deferred function must achieve, marks and all. -/
def bodyPostG (P : Program) (fn : Func) (R : Ending → World → Prop) : Exit → Act → World → Prop
  | .normal, a, w | .ret, a, w => LeavesG P fn a.tmps R a.defers w
  | .outgrown, _, w => R .outgrown w
  | _, _, _ => False
theorem callsD_of_wp_marks {n : Nat} {f : FuncId} {fn : Func} {c : Code} {args : Array Value} {u : FrameMode} {w : World} {R : Ending → World → Prop}
    (hf : P.funcs[f]? = some fn) (hb : fn.body = some c)
    (h : c.wpIn Fence.wide n P (bodyPostG P fn R) { tmps := args ++ Array.replicate (fn.ntmps - args.size) undef, defers := [] } w) :
    CallsD P f args u w fun e u' w' => u' = u ∧ R e w' := by
  intro c₀ cs hu
  let b : Frame := { (default : Frame) with fn := f, kind := .deferred, roundOf := none }
  have henter : Frame.enter P f args .deferred =
      b.atR { tmps := args ++ Array.replicate (fn.ntmps - args.size) undef, defers := [] } [.code c] := by
    simp [Frame.enter, Frame.atR, hf, hb, b]
  have hc : ({ c₀ with mode := u } : Frame) = c₀ := by subst hu; rfl
  obtain ⟨e, a', w', hq, harr⟩ := h b [] (c₀ :: cs) rfl trivial (room_wide _)
  rw [← henter] at harr
  cases e with
  | normal =>
    obtain ⟨v, w'', fr', hR, hs, hfn, hk, hl⟩ := leaves_stepsG a'.defers w' { b.atR a' [] with mode := .returning } (c₀ :: cs) rfl rfl rfl hf hq
    refine ⟨.returned v, u, w'', fr', ⟨rfl, hR⟩, ?_, hk, hl⟩
    rw [hc]
    exact Steps.trans (stepsIn_wide.1 harr) (.head (stepR_end rfl) hs)
  | ret =>
    obtain ⟨todo, hs₀⟩ := harr.1 rfl
    obtain ⟨v, w'', fr', hR, hs, hfn, hk, hl⟩ := leaves_stepsG a'.defers w' { b.atR a' todo with mode := .returning } (c₀ :: cs) rfl rfl rfl hf hq
    refine ⟨.returned v, u, w'', fr', ⟨rfl, hR⟩, ?_, hk, hl⟩
    rw [hc]
    exact Steps.trans (stepsIn_wide.1 hs₀) hs
  | panic chain => exact hq.elim
  | exit id => exact hq.elim
  | goto l => exact hq.elim
  | outgrown => exact ⟨.outgrown, u, w', b, ⟨rfl, hq⟩, harr.resolve_left (by simp [b]), rfl, trivial⟩
end
set_option maxHeartbeats 8000000 in
set_option maxRecDepth 100000 in
theorem leave2D_any (gl gh gs gH gO sb n : Nat) (A : Option Addr) (c : Nat) (l : List Vr) (S S2 : Vr → Value) (f : Nat → Value) (w : World) (hlv : LV w gl gh gs gH gO sb A c l S f) (hr : RVrs w (.slice A l.length c) l) (hsc : SC w sb n S2) (hl : l.length ≤ 1048576) (hn : n + l.length ≤ 1000000000000) :
    CallsD Tryz.prog 117 #[.pointer (some ⟨gl, 0, none⟩), .pointer (some ⟨gh, 0, none⟩), .pointer (some ⟨gs, 0, none⟩)] .returning w fun e u' w' => u' = .returning ∧ e = .returned (.tuple #[]) ∧ SC w' sb (n + l.length) (fun x => if inL l x then S x else S2 x) ∧ Only (fun j => j = sb) w w' := by
  have HR := Lib.hid hr; have HLV := Lib.hid hlv; have HSC := Lib.hid hsc
  have hlt := heap_lt hlv.bl
  have q0 := cellAt hlv.bl 0
  obtain ⟨es, clock, hmap⟩ := hsc.is
  have HMAP := Lib.hid hmap
  clear hlv hr hsc hmap
  refine callsD_of_wp_marks (n := 0) (u := .returning) (R := fun e w' => e = .returned (.tuple #[]) ∧ SC w' sb (n + l.length) (fun x => if inL l x then S x else S2 x) ∧ Only (fun j => j = sb) w w') Tryz.func117 rfl ?_
  simp only [Tryz.ntmps117, List.size_toArray, List.length_cons, List.length_nil, Nat.reduceAdd, Nat.reduceSub, Array.replicate_succ, Array.replicate_zero, List.push_toArray, List.append_toArray, List.nil_append, List.cons_append]
  gi_wp2
  refine ⟨trivial, rfl, ?_⟩
  (with_reducible refine (callsIn_wide.2 (backward_any A l.length c _)).mono ?_)
  rintro e w3 ⟨rfl, rfl⟩
  have hg3 := heapNew w (.cells #[.slice A l.length c] 76)
  have hE3 := Ext.al w (.cells #[.slice A l.length c] 76)
  have hz3 : (w.alloc (.cells #[.slice A l.length c] 76)).heap.size = w.heap.size + 1 := by simp
  generalize w.alloc _ = w3 at *
  have HE3 := Lib.hid hE3
  have hsbl := heap_lt HMAP.out
  have HIT := Lib.hid (back_iter (fun j => j = sb) w3 A c l w.heap.size (HR.out.below hE3) (fun j hj => ⟨es, clock, by rw [hj]; exact hE3.lt HMAP.out⟩) hg3 (by omega) hl)
  have HKEEP : Hid (∀ W, Only (fun j => j = sb) w W → ∀ j o, w.heap[j]? = some o → j ≠ sb → W.heap[j]? = some o) := fun W h j o ho hj => h.lt ho hj
  clear hg3 q0
  gi_wp2
  refine wpIn_wide.2 (wp_range (C := fun j => j = sb) (L := revL l) (R := RIx) rfl (enters_of Tryz.func134 (by kernel_rfl) rfl) HIT.out
    (fun j hj => by omega) (fun y vs A h => h.size)
    (fun pre W => SC W sb (n + pre.length) (lvS gO S S2 l (l.length - pre.length)) ∧ Only (fun j => j = sb) w W)
    (fun c W => False) ?hI ?hIx ?h0 ?hround ?hdone ?hstop)
  case hI =>
    rintro pre A B ⟨h1, h2⟩ hb
    exact ⟨h1.block (hb.block _ (by omega)), h2.belowNew hb (by omega)⟩
  case hIx => rintro c A B h; exact h.elim
  case h0 =>
    refine ⟨?_, Only.of_ext HE3.out⟩
    rw [List.length_nil, Nat.add_zero, Nat.sub_zero, lvS_end]
    exact HSC.out.ext HE3.out
  case hround =>
    rintro l' pre y vs W hl' hpre ⟨i1, i2⟩ hvs hsz
    obtain rfl : vs = #[.int .i64 y.1, vrV y.2] := hvs
    obtain ⟨hk, hpl, he⟩ := revL_at hpre
    have I1 := Lib.hid i1; have I2 := Lib.hid i2
    clear i1 i2 hpre
    have hkl : l[l.length - 1 - pre.length]? = some l[l.length - 1 - pre.length] := List.getElem?_eq_getElem hk
    have HF := Lib.hid (HLV.out.hf _ _ hkl)
    have HST := Lib.hid (lvS_step gO S S2 hkl)
    obtain ⟨_, _, -, -, -, -, ok0, ok1⟩ := HR.out.at_ hk
    have HOK : Hid (vrT.ok l[l.length - 1 - pre.length]) := ⟨ok0, ok1⟩
    have HKP : Hid (l.length - pre.length = (l.length - 1 - pre.length) + 1) := by show _ = _; omega
    have HKP2 : Hid (l.length - (pre.length + 1) = l.length - 1 - pre.length) := by show _ = _; omega
    have hkl2 := hk
    generalize l[l.length - 1 - pre.length] = x at *
    generalize l.length - 1 - pre.length = k at *
    subst he
    dsimp only at *
    clear ok0 ok1 hkl
    gi_wp2
    refine ⟨Ext.al _ _, fun W2 hT => ?_⟩
    have hE4 := Ext.al W (.cells #[.int .i64 x.1, .int .i64 x.2] 80)
    have hN4 := hT.kept _ _ (heapNew W (.cells #[.int .i64 x.1, .int .i64 x.2] 80)) (fun r h => by cases h)
    have hB4 := hT.only.below (B := w3.heap.size) (by simp; omega) (fun k h => by rw [h]; exact hl')
    have HB2 : Hid (Below w3.heap.size W W2) := (hE4.mono hsz).trans hB4
    have HO2 : Hid (Only (fun j => j = sb) w W2) := Only.belowNew I2.out HB2.out (by omega)
    have HSC2 : Hid (SC W2 sb (n + pre.length) (lvS gO S S2 l (k + 1))) := by
      have := I1.out
      rw [HKP.out] at this
      exact this.block (HB2.out.block _ (by omega))
    have hz2 := HB2.out.size
    have m0 := cellAt hN4 0
    have m1 := cellAt hN4 1
    have hne : ∀ j o, w.heap[j]? = some o → (∀ es clock, o ≠ .map es clock) → j ≠ sb := fun j o h hn e => by
      subst e; rw [HMAP.out] at h; exact hn _ _ (Option.some.inj h).symm
    have r0 := cellAt (HKEEP.out W2 HO2.out _ _ HLV.out.bs (hne _ _ HLV.out.bs (fun _ _ h => by cases h))) 0
    have r1 := cellAt (HKEEP.out W2 HO2.out _ _ HLV.out.bh (hne _ _ HLV.out.bh (fun _ _ h => by cases h))) 0
    have hgH : gH ≠ sb := by obtain ⟨arr, h1, _⟩ := HLV.out.hd; exact hne _ _ h1 (fun _ _ h => by cases h)
    have r2 := (HLV.out.hd.only HO2.out hgH).cellAs hkl2 HF.out
    clear hE4 hN4 hB4 hT hne
    obtain ⟨w10, hu', hm10, hg10, -⟩ := run_updateZ (T := vrT) (t := 151) (e := 175) Tryz.underlying151 (w := W2.drew) HSC2.out (by unfold maxLen; omega) x HOK.out (entS gO S 0 (l.take k) x)
    have hu : (Instr.mapUpdate 151 (.map (some sb)) (.agg #[.int .i64 x.1, .int .i64 x.2]) (entS gO S 0 (l.take k) x)).run Tryz.prog W2.drew = .ok () w10 := hu'
    rw [HST.out] at hm10
    have HM10 := Lib.hid hm10
    have HG10 : Hid (Only (fun j => j = sb) W2 w10) := Only.tr (b := W2.drew) (Only.of_ext (Ext.rf W2).drew) (Only.grown hg10)
    clear hu' hm10 hg10
    have hki : (k : Int) < l.length := by omega
    generalize entS gO S 0 (l.take k) x = v at *
    gi_wp2
    gi_region
    all_goals
      gi_wp2
      refine ⟨HG10.out, ?_, HO2.out.tr HG10.out⟩
      rw [List.length_append, List.length_singleton, HKP2.out, ← Nat.add_assoc]
      exact HM10.out
  case hdone =>
    rintro W ⟨h1, h2⟩ hK
    have H1 := Lib.hid h1; have H2 := Lib.hid h2; have HK := Lib.hid hK
    clear h1 h2 hK
    gi_wp2
    refine ⟨_, _, rfl, run_takeDeferred HK.out, ?_⟩
    refine ⟨.tuple #[], by simp [results, go_sem], rfl, ?_, ?_⟩
    · have := H1.out
      rw [revL_length, Nat.sub_self, lvS_zero] at this
      exact this.block (World.putObj_heap_other (by omega))
    · exact Only.putNew H2.out (by omega) _
  case hstop => rintro c W h; exact h.elim
set_option maxRecDepth 100000 in
theorem leave1D_any (w : World) : CallsD Tryz.prog 116 #[] .returning w fun e u' w' => u' = .returning ∧ e = .returned (.tuple #[]) ∧ w = w' := by
  refine callsD_of_wp (R := fun e w' => e = .returned (.tuple #[]) ∧ w = w') Tryz.func116 rfl ?_
  go_wp2
  go_end0
  exact ⟨rfl, rfl⟩
end Go.Proofs.YtkdhhcidpklgoaaGreatDoor

/- slices.Grow of nothing; enter, as one contract. -/
namespace Go.Proofs.YtkdhhcidpklgoaaGreatDoor
open Go.RowKit Go.Shelf
attribute [local go_sem] Oper.semAt_some

set_option maxHeartbeats 4000000 in
set_option maxRecDepth 100000 in
theorem grow_any (n : Nat) (hn : n ≤ 1048576) (w : World) :
    Calls Tryz.prog 119 #[.slice none 0 0, .int .i64 n] w fun e w' => ∃ v, e = .returned v ∧ w'.ownsRow w.heap.size 78 1 v 0 [] ∧ Ext w w' := by
  obtain ⟨i0, hi, hz0, hz1, hz2⟩ := info_parts Tryz.iSort
  have happ := fun h0 => Lib.run_append_nil_zeros (P := Tryz.prog) w 205 3 205 78 i0 (.int .i64 0) .i64 .i64 Tryz.underlying205 Tryz.underlying3 hi hz0 n h0 (by omega) (by omega) (by rw [hz2]; omega)
  have hcapge := grownCap_ge w n 0 78
  have hcaple := grownCap_le_maxLen w n 0 78 (by unfold maxLen; omega)
  generalize grownCap w n 0 78 = cap2 at *
  by_cases h0 : n = 0
  · subst h0
    clear happ
    go_enter Tryz.func119, Tryz.ntmps119
    go_wp2
    go_ret
    exact ⟨_, rfl, own_nil', Ext.rf _⟩
  · have happ := happ (by omega)
    have hZs : (Builtin.zeroCells (Value.int .i64 0).cells n ++ Builtin.zeroCells (Value.int .i64 0).cells (cap2 - n)).size = cap2 * 1 := by simp [size_zeroCells, Value.cells]; omega
    generalize Builtin.zeroCells (Value.int .i64 0).cells n ++ Builtin.zeroCells (Value.int .i64 0).cells (cap2 - n) = Z at happ hZs
    have HAPP := Lib.hid happ
    clear happ
    go_enter Tryz.func119, Tryz.ntmps119
    go_wp2_with (at_builtin; refine Lib.wpList_append_run _ rfl _ _ _ _ rfl _ _ rfl rfl _ _ HAPP.out ?_)
    go_ret
    exact ⟨_, rfl, ⟨rfl, .inr ⟨_, _, Z, rfl, Nat.le_refl _, heapNew w _, Nat.zero_le _, hcaple, hZs, rfl⟩⟩, (Ext.al _ _).drew⟩

/-- What leave does, wherever it is called. -/
structure LeaveOK (w' : World) (sb d m : Nat) (l : List Vr) (S S' : Vr → Value) (f : FuncId) (cap : Array Value) : Prop where
  ent : Enters Tryz.prog f
  calls : ∀ W n, Only (fun j => j = sb ∨ j = d) w' W → SC W sb n S' → n + m ≤ 1000000000000 → Calls Tryz.prog f cap W fun e w'' => e = .returned (.tuple #[]) ∧ SC w'' sb (n + m) S ∧ Only (fun j => j = sb) W w''
  defs : ∀ W n, Only (fun j => j = sb ∨ j = d) w' W → SC W sb n S' → n + m ≤ 1000000000000 → CallsD Tryz.prog f cap .returning W fun e u' w'' => u' = .returning ∧ e = .returned (.tuple #[]) ∧ SC w'' sb (n + m) S ∧ Only (fun j => j = sb) W w''
theorem RVrs.only {w w' : World} {sb d : Nat} {A : Option Addr} {n c : Nat} {l : List Vr} (h : RVrs w (.slice A n c) l) (ho : Only (fun j => j = sb ∨ j = d) w w') (hm : ∃ es clock, w.heap[sb]? = some (.map es clock)) (hd : 0 < l.length → ∀ b o, A = some ⟨b, o, none⟩ → b ≠ d) : RVrs w' (.slice A n c) l := by
  obtain ⟨A', c', e, h1, h2, h3⟩ := h
  cases e
  have hk : ∀ p v, w.cell? p = some v → p.block ≠ d → w'.cell? p = some v := fun p v hp hn => by
    have hlt : p.block < w.heap.size := cell_lt hp
    rw [World.cell?_of_block (ho.block _ hlt (fun hc => by rcases hc with hc | hc; exact map_ne_cell hm hp hc; exact hn hc))]; exact hp
  refine ⟨A, c, rfl, h1, h2, fun i a hi => ?_⟩
  have h0 : 0 < l.length := by have := (List.getElem?_eq_some_iff.1 hi).1; omega
  obtain ⟨b, o, rfl, hlt, h4, h5, h6⟩ := h3 i a hi
  exact ⟨b, o, rfl, Nat.lt_of_lt_of_le hlt ho.size, hk _ _ h4 (hd h0 _ _ rfl), hk _ _ h5 (hd h0 _ _ rfl), h6⟩
theorem LV.only {w w' : World} {gl gh gs gH gO sb : Nat} {A : Option Addr} {c : Nat} {l : List Vr} {S : Vr → Value} {f : Nat → Value} (h : LV w gl gh gs gH gO sb A c l S f) (d : Nat) (ho : Only (fun j => j = sb ∨ j = d) w w') (h1 : ¬ (gl = sb ∨ gl = d)) (h2 : ¬ (gh = sb ∨ gh = d)) (h3 : ¬ (gs = sb ∨ gs = d)) (h4 : ¬ (gH = sb ∨ gH = d)) : LV w' gl gh gs gH gO sb A c l S f :=
  ⟨ho.lt h.bl h1, ho.lt h.bh h2, ho.lt h.bs h3, h.hd.only ho h4, h.hf⟩
theorem inL_restore {l : List Vr} {S : Vr → Value} {g : Nat} : (fun x => if inL l x then S x else entS g S 0 l x) = S := by
  funext x
  cases h : inL l x
  · simp only [Bool.false_eq_true, if_false]; exact entS_out g l S 0 x h
  · simp
set_option maxRecDepth 100000 in
theorem enterNil_any (sb : Nat) (c : Nat) (A : Option Addr) (w : World) :
    Calls Tryz.prog 92 #[.map (some sb), .slice A 0 c] w fun e w' => e = .returned (.tuple #[.slice none 0 0, .func (.func 116) #[] #[]]) ∧ Ext w w' := by
  go_enter Tryz.func92, Tryz.ntmps92
  go_wp2
  exact bodyPost_ret (v := .tuple #[.slice none 0 0, .func (.func 116) #[] #[]]) (by simp [results, Tryz.results92, go_sem]) rfl ⟨rfl, Ext.al2 _ _ _⟩
theorem enter_all (sb n d : Nat) (A : Option Addr) (c : Nat) (l : List Vr) (S : Vr → Value) (w : World) (hr : RVrs w (.slice A l.length c) l) (hsc : SC w sb n S) (hl : l.length ≤ 1048576) (hn : n + l.length ≤ 1000000000000) (hS : ∀ x, ∃ p, S x = .pointer p) (hd : d < w.heap.size) (hdA : 0 < l.length → ∀ b o, A = some ⟨b, o, none⟩ → b ≠ d) :
    Calls Tryz.prog 92 #[.map (some sb), .slice A l.length c] w fun e w' => ∃ A2 c2 f cap S', e = .returned (.tuple #[.slice A2 l.length c2, .func (.func f) #[] cap]) ∧ SC w' sb (n + l.length) S' ∧ (∀ x, ∃ p, S' x = .pointer p) ∧ (∀ x, nnB (S' x) = (inL l x || nnB (S x))) ∧ Only (fun j => j = sb) w w' ∧ LeaveOK w' sb d l.length l S S' f cap := by
  have hsbl := hsc.lt
  have his := hsc.is
  by_cases h0 : l.length = 0
  · have hl0 : l = [] := List.eq_nil_of_length_eq_zero h0
    subst hl0
    refine (enterNil_any sb c A w).mono ?_
    rintro e w' ⟨rfl, hx'⟩
    refine ⟨_, _, _, _, S, rfl, hsc.ext hx', hS, fun x => rfl, Only.of_ext hx', enters_of Tryz.func116 (by kernel_rfl) rfl, fun W n _ hs _ => ?_, fun W n _ hs _ => ?_⟩
    · refine (leave1_any W).mono ?_
      rintro e w'' ⟨rfl, rfl⟩
      exact ⟨rfl, hs, Only.rf _ _⟩
    · refine (leave1D_any W).mono ?_
      rintro e u' w'' ⟨rfl, rfl, rfl⟩
      exact ⟨rfl, rfl, hs, Only.rf _ _⟩
  · refine (enter_any sb n A c l S w hr hsc hl hn (by omega) hS).mono ?_
    rintro e w' ⟨rfl, hs', ho, f, hlv⟩
    refine ⟨_, _, _, _, _, rfl, hs', entS_ptr _ _ _ _ hS, fun x => entS_nn _ _ _ _ x, ho, enters_of Tryz.func117 (by kernel_rfl) rfl, fun W n hW hs hn => ?_, fun W n hW hs hn => ?_⟩
    · have := leave2_any _ _ _ _ _ sb n A c l S _ f W (hlv.only d hW (by omega) (by omega) (by omega) (by omega)) (hr.only ((ho.mono (fun j _ h => .inl h)).tr hW) his hdA) hs hl hn
      rw [inL_restore] at this
      exact this
    · have := leave2D_any _ _ _ _ _ sb n A c l S _ f W (hlv.only d hW (by omega) (by omega) (by omega) (by omega)) (hr.only ((ho.mono (fun j _ h => .inl h)).tr hW) his hdA) hs hl hn
      rw [inL_restore] at this
      exact this
end Go.Proofs.YtkdhhcidpklgoaaGreatDoor

/- node: shapeOf, refers. -/
namespace Go.Proofs.YtkdhhcidpklgoaaGreatDoor
open Go.RowKit

set_option maxHeartbeats 2000000 in
set_option maxRecDepth 100000 in
theorem shapeOf_any (op : Int) (w : World) (h : Tabs w) :
    ∃ vs, RInts w vs (argsS op) ∧ ∀ w', Ext w w' → Calls Tryz.prog 121 #[.int .i64 op] w' fun e w'' => e = .returned (.agg #[.int .i64 (sortOp op), .bool (usesN op), .bool (usesT op), .bool (usesB op), vs]) ∧ Ext w' w'' := by
  by_cases h0 : op < 0
  · refine ⟨.slice none 0 0, ?_, fun w' hx => ?_⟩
    · have : argsS op = [] := by unfold argsS; repeat' (rw [if_neg (by omega)])
      rw [this]; exact ⟨none, 0, rfl, Nat.le_refl _, Nat.zero_le _, fun i s h => by simp at h⟩
    · have e1 : sortOp op = 3 := by unfold sortOp; rw [if_pos h0]
      have e2 : usesN op = false := by unfold usesN; exact decide_eq_false (by omega)
      have e3 : usesT op = false := by unfold usesT; exact decide_eq_false (by omega)
      have e4 : usesB op = false := by unfold usesB; exact decide_eq_false (by omega)
      rw [e1, e2, e3, e4]
      clear e1 e2 e3 e4 hx h
      go_enter Tryz.func121, Tryz.ntmps121
      go_wp2
      exact bodyPost_ret (v := .agg #[.int .i64 3, .bool false, .bool false, .bool false, .slice none 0 0]) (by simp [results, Tryz.results121, go_sem]) rfl ⟨rfl, Ext.al _ _⟩
  · by_cases h15 : 15 ≤ op
    · refine ⟨.slice none 0 0, ?_, fun w' hx => ?_⟩
      · have : argsS op = [] := by unfold argsS; repeat' (rw [if_neg (by omega)])
        rw [this]; exact ⟨none, 0, rfl, Nat.le_refl _, Nat.zero_le _, fun i s h => by simp at h⟩
      · have e1 : sortOp op = 3 := by unfold sortOp; repeat' (rw [if_neg (by omega)])
        have e2 : usesN op = false := by unfold usesN; exact decide_eq_false (by omega)
        have e3 : usesT op = false := by unfold usesT; exact decide_eq_false (by omega)
        have e4 : usesB op = false := by unfold usesB; exact decide_eq_false (by omega)
        rw [e1, e2, e3, e4]
        clear e1 e2 e3 e4 hx h
        go_enter Tryz.func121, Tryz.ntmps121
        go_wp2
        exact bodyPost_ret (v := .agg #[.int .i64 3, .bool false, .bool false, .bool false, .slice none 0 0]) (by simp [results, Tryz.results121, go_sem]) rfl ⟨rfl, Ext.al _ _⟩
    · obtain ⟨k, rfl⟩ : ∃ k : Nat, op = k := ⟨op.toNat, by omega⟩
      have hk : k < 15 := by omega
      obtain ⟨vs, c0, c1, c2, c3, c4, c5⟩ := h.sh k hk
      refine ⟨vs, c5, fun w' hx => ?_⟩
      have HX := Lib.hid (Ext.al w' (.cells #[.int .i64 0, .bool false, .bool false, .bool false, .slice none 0 0] 214))
      have c0 := HX.out.keep (hx.keep c0)
      have c1 := HX.out.keep (hx.keep c1)
      have c2 := HX.out.keep (hx.keep c2)
      have c3 := HX.out.keep (hx.keep c3)
      have c4 := HX.out.keep (hx.keep c4)
      obtain ⟨A, c, rfl, -, -⟩ := c5.form
      clear h c5 hx
      generalize sortOp (k : Int) = so at *
      generalize usesN (k : Int) = un at *
      generalize usesT (k : Int) = ut at *
      generalize usesB (k : Int) = ub at *
      generalize (argsS (k : Int)).length = la at *
      go_enter Tryz.func121, Tryz.ntmps121
      go_wp2
      exact bodyPost_ret (v := .agg #[.int .i64 so, .bool un, .bool ut, .bool ub, .slice A la c]) (by simp [results, Tryz.results121, go_sem]) rfl ⟨rfl, Ext.al _ _⟩

/-- What is folded of a node. -/
abbrev fdV (op n ty : Int) (va vb by_ ow fa fb : Value) : Value := .agg #[.int .i64 op, .int .i64 n, .int .i64 ty, va, vb, by_, ow, fa, fb]
theorem ref_0 {C : Cg} {q : Bool} {op n ty : Int} (h : op = 0 ∨ op = 5) : refersB C q op n ty = (isNumB n && q) := by unfold refersB; rw [if_pos h]
theorem ref_2 {C : Cg} {q : Bool} {n ty : Int} : refersB C q 2 n ty = (declsC C ty false && isIdxC n (xtorsC C ty).length) := by unfold refersB; rw [if_neg (by decide), if_pos rfl]
theorem ref_6 {C : Cg} {q : Bool} {n ty : Int} : refersB C q 6 n ty = (declsC C ty true && isIdxC n (xtorsC C ty).length) := by unfold refersB; rw [if_neg (by decide), if_neg (by decide), if_pos rfl]
theorem ref_3 {C : Cg} {q : Bool} {op n ty : Int} (h : op = 3 ∨ op = 7) : refersB C q op n ty = (isNumB n && isTypeC C ty) := by unfold refersB; rw [if_neg (by omega), if_neg (by omega), if_neg (by omega), if_pos h]
theorem ref_4 {C : Cg} {q : Bool} {n ty : Int} : refersB C q 4 n ty = declsC C ty true := rfl
theorem ref_8 {C : Cg} {q : Bool} {n ty : Int} : refersB C q 8 n ty = declsC C ty false := rfl
theorem ref_9 {C : Cg} {q : Bool} {n ty : Int} : refersB C q 9 n ty = isTypeC C ty := rfl
theorem ref_10 {C : Cg} {q : Bool} {n ty : Int} : refersB C q 10 n ty = (decide (0 ≤ n) && decide (n < 7)) := rfl
theorem ref_13 {C : Cg} {q : Bool} {n ty : Int} : refersB C q 13 n ty = isIdxC n C.funs.length := rfl
theorem ref_no {C : Cg} {q : Bool} {op n ty : Int} (h : op ≠ 0 ∧ op ≠ 5 ∧ op ≠ 2 ∧ op ≠ 6 ∧ op ≠ 3 ∧ op ≠ 7 ∧ op ≠ 4 ∧ op ≠ 8 ∧ op ≠ 9 ∧ op ≠ 10 ∧ op ≠ 13) : refersB C q op n ty = true := by
  unfold refersB
  repeat' (rw [if_neg (by omega)])
theorem decls_bnd {C : Cg} {ty : Int} {co : Bool} (h : declsC C ty co = true) : 1 ≤ ty ∧ ty ≤ C.decls.length := by
  unfold declsC isIdxC at h
  simp only [Bool.and_eq_true, decide_eq_true_eq] at h
  omega
theorem declares_is (vd vf : Value) (C : Cg) (ty : Int) (hty : ok64 ty) (co q : Bool) (hq : declsC C ty co = q) (w : World) (h : RDecls w vd C.decls) :
    Calls Tryz.prog 135 #[.agg #[vd, vf], .int .i64 ty, .bool co] w fun e w' => e = .returned (.bool q) ∧ Ext w w' := by
  subst hq; exact declares_any vd vf C ty hty co w h

set_option maxHeartbeats 4000000 in
set_option maxRecDepth 100000 in
theorem refers_con2 (vd vf : Value) (C : Cg) (n ty : Int) (va vb ow fa fb by_ : Value) (w : World) (hC : RCg w vd vf C) (hty : ok64 ty) :
    Calls Tryz.prog 122 #[.agg #[vd, vf], fdV 2 n ty va vb by_ ow fa fb] w fun e w' => e = .returned (.bool (declsC C ty false && isIdxC n (xtorsC C ty).length)) ∧ Ext w w' := by
  have HD := Lib.hid hC.d
  have HTY := Lib.hid hty
  obtain ⟨A, c, rfl, -, -⟩ := hC.d.form
  obtain ⟨Af, cf, rfl, -, -⟩ := hC.f.form
  clear hC hty
  have hmx : Tryz.prog.follows .mixedOrders = true := by kernel_rfl
  have HE := Lib.hid (Ext.al2 w (.cells #[.slice A C.decls.length c, .slice Af C.funs.length cf] 171) (.cells #[.int .i64 2, .int .i64 n, .int .i64 ty, va, vb, by_, ow, fa, fb] 208))
  have hb1 := Ext.lt (Ext.al (w.alloc (.cells #[.slice A C.decls.length c, .slice Af C.funs.length cf] 171)) (.cells #[.int .i64 2, .int .i64 n, .int .i64 ty, va, vb, by_, ow, fa, fb] 208)) (heapNew w (.cells #[.slice A C.decls.length c, .slice Af C.funs.length cf] 171))
  have hb2 := heapNew2 w (.cells #[.slice A C.decls.length c, .slice Af C.funs.length cf] 171) (.cells #[.int .i64 2, .int .i64 n, .int .i64 ty, va, vb, by_, ow, fa, fb] 208)
  have k0 := fun (p : ExtOf ((w.alloc (.cells #[.slice A C.decls.length c, .slice Af C.funs.length cf] 171)).alloc (.cells #[.int .i64 2, .int .i64 n, .int .i64 ty, va, vb, by_, ow, fa, fb] 208))) => p.ext.keep (cellAt hb1 0)
  have k1 := fun (p : ExtOf ((w.alloc (.cells #[.slice A C.decls.length c, .slice Af C.funs.length cf] 171)).alloc (.cells #[.int .i64 2, .int .i64 n, .int .i64 ty, va, vb, by_, ow, fa, fb] 208))) => p.ext.keep (cellAt hb1 1)
  have m1 := fun (p : ExtOf ((w.alloc (.cells #[.slice A C.decls.length c, .slice Af C.funs.length cf] 171)).alloc (.cells #[.int .i64 2, .int .i64 n, .int .i64 ty, va, vb, by_, ow, fa, fb] 208))) => p.ext.keep (cellAt hb2 1)
  have m2 := fun (p : ExtOf ((w.alloc (.cells #[.slice A C.decls.length c, .slice Af C.funs.length cf] 171)).alloc (.cells #[.int .i64 2, .int .i64 n, .int .i64 ty, va, vb, by_, ow, fa, fb] 208))) => p.ext.keep (cellAt hb2 2)
  clear hb1 hb2
  cases hq : declsC C ty false
  · have HQ := Lib.hid hq
    clear hq
    go_enter Tryz.func122, Tryz.ntmps122
    go_wp2
    generalize (w.alloc _).alloc _ = w1 at *
    refine wp_region_ext (w0 := w1) hmx (by kernel_rfl) (Ext.rf _) ?_
    repeat (first | go_big_quiet_step ((go_at_call 135; with_reducible exact Calls.ext_of (declares_is _ _ C ty HTY.out false false HQ.out _ (HD.out.below (HE.out.tr (ExtOf.ext _)))))) | quiet_step ((go_at_call 135; with_reducible exact Calls.ext_of (declares_is _ _ C ty HTY.out false false HQ.out _ (HD.out.below (HE.out.tr (ExtOf.ext _)))))))
    refine wpQuiet_nil ?_
    rintro _ ⟨⟨w9, hx⟩, rfl⟩
    have HX9 := Lib.hid hx
    clear hx
    go_wp2
    go_ret
    exact ⟨rfl, HE.out.tr HX9.out⟩
  · have HQ := Lib.hid hq
    obtain ⟨hl1, hl2⟩ := decls_bnd hq
    clear hq
    obtain ⟨vx, hvx, HXT'⟩ := xtors_any _ (.slice Af C.funs.length cf) C ty w HD.out hl1 hl2
    have HXT := Lib.hid HXT'
    obtain ⟨Ax, cx, rfl, -, -⟩ := hvx.form
    clear HXT' hl1 hl2 hvx
    have HI := Lib.hid (isIndex_any n (xtorsC C ty).length (isIdxC n (xtorsC C ty).length) rfl)
    generalize isIdxC n (xtorsC C ty).length = q at *
    generalize (xtorsC C ty).length = nx at *
    go_enter Tryz.func122, Tryz.ntmps122
    go_wp2
    generalize (w.alloc _).alloc _ = w1 at *
    refine wp_region_ext (w0 := w1) hmx (by kernel_rfl) (Ext.rf _) ?_
    repeat (first | go_big_quiet_step ((first
        | (go_at_call 135; with_reducible exact Calls.ext_of (declares_is _ _ C ty HTY.out false true HQ.out _ (HD.out.below (HE.out.tr (ExtOf.ext _)))))
        | (go_at_call 137; with_reducible exact Calls.ext_of (HXT.out _ (HE.out.tr (ExtOf.ext _))))
        | (go_at_call 136; with_reducible exact Calls.ext_same (HI.out _)))) | quiet_step ((first
        | (go_at_call 135; with_reducible exact Calls.ext_of (declares_is _ _ C ty HTY.out false true HQ.out _ (HD.out.below (HE.out.tr (ExtOf.ext _)))))
        | (go_at_call 137; with_reducible exact Calls.ext_of (HXT.out _ (HE.out.tr (ExtOf.ext _))))
        | (go_at_call 136; with_reducible exact Calls.ext_same (HI.out _)))))
    refine wpQuiet_nil ?_
    rintro _ ⟨⟨w9, hx⟩, rfl⟩
    have HX9 := Lib.hid hx
    clear hx
    go_wp2
    go_ret
    exact ⟨rfl, HE.out.tr HX9.out⟩
set_option maxHeartbeats 4000000 in
set_option maxRecDepth 100000 in
theorem refers_con6 (vd vf : Value) (C : Cg) (n ty : Int) (va vb ow fa fb by_ : Value) (w : World) (hC : RCg w vd vf C) (hty : ok64 ty) :
    Calls Tryz.prog 122 #[.agg #[vd, vf], fdV 6 n ty va vb by_ ow fa fb] w fun e w' => e = .returned (.bool (declsC C ty true && isIdxC n (xtorsC C ty).length)) ∧ Ext w w' := by
  have HD := Lib.hid hC.d
  have HTY := Lib.hid hty
  obtain ⟨A, c, rfl, -, -⟩ := hC.d.form
  obtain ⟨Af, cf, rfl, -, -⟩ := hC.f.form
  clear hC hty
  have hmx : Tryz.prog.follows .mixedOrders = true := by kernel_rfl
  have HE := Lib.hid (Ext.al2 w (.cells #[.slice A C.decls.length c, .slice Af C.funs.length cf] 171) (.cells #[.int .i64 6, .int .i64 n, .int .i64 ty, va, vb, by_, ow, fa, fb] 208))
  have hb1 := Ext.lt (Ext.al (w.alloc (.cells #[.slice A C.decls.length c, .slice Af C.funs.length cf] 171)) (.cells #[.int .i64 6, .int .i64 n, .int .i64 ty, va, vb, by_, ow, fa, fb] 208)) (heapNew w (.cells #[.slice A C.decls.length c, .slice Af C.funs.length cf] 171))
  have hb2 := heapNew2 w (.cells #[.slice A C.decls.length c, .slice Af C.funs.length cf] 171) (.cells #[.int .i64 6, .int .i64 n, .int .i64 ty, va, vb, by_, ow, fa, fb] 208)
  have k0 := fun (p : ExtOf ((w.alloc (.cells #[.slice A C.decls.length c, .slice Af C.funs.length cf] 171)).alloc (.cells #[.int .i64 6, .int .i64 n, .int .i64 ty, va, vb, by_, ow, fa, fb] 208))) => p.ext.keep (cellAt hb1 0)
  have k1 := fun (p : ExtOf ((w.alloc (.cells #[.slice A C.decls.length c, .slice Af C.funs.length cf] 171)).alloc (.cells #[.int .i64 6, .int .i64 n, .int .i64 ty, va, vb, by_, ow, fa, fb] 208))) => p.ext.keep (cellAt hb1 1)
  have m1 := fun (p : ExtOf ((w.alloc (.cells #[.slice A C.decls.length c, .slice Af C.funs.length cf] 171)).alloc (.cells #[.int .i64 6, .int .i64 n, .int .i64 ty, va, vb, by_, ow, fa, fb] 208))) => p.ext.keep (cellAt hb2 1)
  have m2 := fun (p : ExtOf ((w.alloc (.cells #[.slice A C.decls.length c, .slice Af C.funs.length cf] 171)).alloc (.cells #[.int .i64 6, .int .i64 n, .int .i64 ty, va, vb, by_, ow, fa, fb] 208))) => p.ext.keep (cellAt hb2 2)
  clear hb1 hb2
  cases hq : declsC C ty true
  · have HQ := Lib.hid hq
    clear hq
    go_enter Tryz.func122, Tryz.ntmps122
    go_wp2
    generalize (w.alloc _).alloc _ = w1 at *
    refine wp_region_ext (w0 := w1) hmx (by kernel_rfl) (Ext.rf _) ?_
    repeat (first | go_big_quiet_step ((go_at_call 135; with_reducible exact Calls.ext_of (declares_is _ _ C ty HTY.out true false HQ.out _ (HD.out.below (HE.out.tr (ExtOf.ext _)))))) | quiet_step ((go_at_call 135; with_reducible exact Calls.ext_of (declares_is _ _ C ty HTY.out true false HQ.out _ (HD.out.below (HE.out.tr (ExtOf.ext _)))))))
    refine wpQuiet_nil ?_
    rintro _ ⟨⟨w9, hx⟩, rfl⟩
    have HX9 := Lib.hid hx
    clear hx
    go_wp2
    go_ret
    exact ⟨rfl, HE.out.tr HX9.out⟩
  · have HQ := Lib.hid hq
    obtain ⟨hl1, hl2⟩ := decls_bnd hq
    clear hq
    obtain ⟨vx, hvx, HXT'⟩ := xtors_any _ (.slice Af C.funs.length cf) C ty w HD.out hl1 hl2
    have HXT := Lib.hid HXT'
    obtain ⟨Ax, cx, rfl, -, -⟩ := hvx.form
    clear HXT' hl1 hl2 hvx
    have HI := Lib.hid (isIndex_any n (xtorsC C ty).length (isIdxC n (xtorsC C ty).length) rfl)
    generalize isIdxC n (xtorsC C ty).length = q at *
    generalize (xtorsC C ty).length = nx at *
    go_enter Tryz.func122, Tryz.ntmps122
    go_wp2
    generalize (w.alloc _).alloc _ = w1 at *
    refine wp_region_ext (w0 := w1) hmx (by kernel_rfl) (Ext.rf _) ?_
    repeat (first | go_big_quiet_step ((first
        | (go_at_call 135; with_reducible exact Calls.ext_of (declares_is _ _ C ty HTY.out true true HQ.out _ (HD.out.below (HE.out.tr (ExtOf.ext _)))))
        | (go_at_call 137; with_reducible exact Calls.ext_of (HXT.out _ (HE.out.tr (ExtOf.ext _))))
        | (go_at_call 136; with_reducible exact Calls.ext_same (HI.out _)))) | quiet_step ((first
        | (go_at_call 135; with_reducible exact Calls.ext_of (declares_is _ _ C ty HTY.out true true HQ.out _ (HD.out.below (HE.out.tr (ExtOf.ext _)))))
        | (go_at_call 137; with_reducible exact Calls.ext_of (HXT.out _ (HE.out.tr (ExtOf.ext _))))
        | (go_at_call 136; with_reducible exact Calls.ext_same (HI.out _)))))
    refine wpQuiet_nil ?_
    rintro _ ⟨⟨w9, hx⟩, rfl⟩
    have HX9 := Lib.hid hx
    clear hx
    go_wp2
    go_ret
    exact ⟨rfl, HE.out.tr HX9.out⟩
end Go.Proofs.YtkdhhcidpklgoaaGreatDoor
