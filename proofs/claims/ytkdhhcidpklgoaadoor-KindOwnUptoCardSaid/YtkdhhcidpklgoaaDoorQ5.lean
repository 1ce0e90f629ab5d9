/- node: enter, and what it hands back to leave. -/
import Derived.Test.YtkdhhcidpklgoaaDoorQ4
import Derived.RegionTactic
import Derived.Defers
import Derived.DefersIn
import Derived.Lib.AppendZeros
namespace Go.Proofs.YtkdhhcidpklgoaaDoor
open Go.RowKit Go.Shelf
attribute [local go_sem] Oper.semAt_some

set_option maxRecDepth 100000 in
theorem backward_any (A : Option Addr) (n c : Nat) (w : World) :
    Calls Tryd.prog 67 #[.slice A n c] w fun e w' => e = .returned (.func (.func 81) #[] #[.pointer (some ⟨w.heap.size, 0, none⟩)]) ∧ w' = w.alloc (.cells #[.slice A n c] 66) := by
  have hmf : ∀ (fn : Fn) (first cap : Array Value) (w : World), (Instr.makeFunc fn first cap).run Tryd.prog w = .ok (.func fn first cap) w := fun _ _ _ _ => rfl
  go_enter Tryd.func67, Tryd.ntmps67
  go_wp2
  go_ret
  exact ⟨rfl, rfl⟩

abbrev nilP : Value := .pointer none
/-- A scope: what binds each variable. -/
abbrev SC (w : World) (sb n : Nat) (S : Vr → Value) : Prop := MapZ vrT nilP w sb n S
/-- The scope behind the entering of variables, the first of them being number i of block g. -/
def entS (g : Nat) : (Vr → Value) → Nat → List Vr → (Vr → Value)
  | S, _, [] => S
  | S, i, x :: r => entS g (putZ S x (.pointer (some ⟨g, i * 4, none⟩))) (i + 1) r
theorem entS_snoc (g : Nat) (x : Vr) : ∀ (l : List Vr) (S : Vr → Value) (i : Nat), entS g S i (l ++ [x]) = putZ (entS g S i l) x (.pointer (some ⟨g, (i + l.length) * 4, none⟩))
  | [], S, i => by simp [entS]
  | y :: r, S, i => by
    show entS g (putZ S y _) (i + 1) (r ++ [x]) = _
    rw [entS_snoc g x r _ (i + 1)]
    show _ = putZ (entS g (putZ S y _) (i + 1) r) x _
    congr 3
    simp only [List.length_cons]
    congr 1
    omega
theorem entS_step (g : Nat) (S : Vr → Value) {l : List Vr} {k : Nat} {x : Vr} (h : l[k]? = some x) : entS g S 0 (l.take (k + 1)) = putZ (entS g S 0 (l.take k)) x (.pointer (some ⟨g, k * 4, none⟩)) := by
  rw [take_snoc' h, entS_snoc]
  have : (l.take k).length = k := by have := (List.getElem?_eq_some_iff.1 h).1; simp; omega
  rw [this, Nat.zero_add]
def inL (l : List Vr) (x : Vr) : Bool := l.any fun y => x == y
theorem inL_cons (y : Vr) (r : List Vr) (x : Vr) : inL (y :: r) x = (x == y || inL r x) := rfl
/-- What is behind a pointer. -/
def nnB : Value → Bool
  | .pointer (some _) => true
  | _ => false
theorem entS_nn (g : Nat) : ∀ (l : List Vr) (S : Vr → Value) (i : Nat) (x : Vr), nnB (entS g S i l x) = (inL l x || nnB (S x))
  | [], S, i, x => by simp [entS, inL]
  | y :: r, S, i, x => by
    show nnB (entS g (putZ S y _) (i + 1) r x) = _
    rw [entS_nn g r, inL_cons]
    by_cases h : x = y
    · subst h; rw [putZ_same]; simp [nnB]
    · rw [putZ_other _ _ h]
      have : (x == y) = false := by simpa using h
      rw [this]; simp
theorem entS_ptr (g : Nat) : ∀ (l : List Vr) (S : Vr → Value) (i : Nat), (∀ x, ∃ p, S x = .pointer p) → ∀ x, ∃ p, entS g S i l x = .pointer p
  | [], S, i, h => h
  | y :: r, S, i, h => by
    refine entS_ptr g r _ (i + 1) (fun x => ?_)
    by_cases e : x = y
    · subst e; exact ⟨_, putZ_same _ _ _⟩
    · rw [putZ_other _ _ e]; exact h x
theorem entS_out (g : Nat) : ∀ (l : List Vr) (S : Vr → Value) (i : Nat) (x : Vr), inL l x = false → entS g S i l x = S x
  | [], S, i, x, _ => rfl
  | y :: r, S, i, x, h => by
    rw [inL_cons, Bool.or_eq_false_iff] at h
    show entS g (putZ S y _) (i + 1) r x = _
    rw [entS_out g r _ _ x h.2, putZ_other]
    intro e; rw [e] at h; simp at h
/-- The scope while it is left, down to number k. -/
def lvS (g : Nat) (S S2 : Vr → Value) (l : List Vr) (k : Nat) : Vr → Value := fun x => if inL (l.drop k) x then entS g S 0 (l.take k) x else S2 x
theorem lvS_end (g : Nat) (S S2 : Vr → Value) (l : List Vr) : lvS g S S2 l l.length = S2 := by
  funext x; unfold lvS; rw [List.drop_length]; rfl
theorem lvS_step (g : Nat) (S S2 : Vr → Value) {l : List Vr} {k : Nat} {x : Vr} (h : l[k]? = some x) : putZ (lvS g S S2 l (k + 1)) x (entS g S 0 (l.take k) x) = lvS g S S2 l k := by
  obtain ⟨hlt, rfl⟩ := List.getElem?_eq_some_iff.1 h
  funext y
  unfold lvS
  rw [drop_step hlt, inL_cons]
  by_cases e : y = l[k]
  · subst e; rw [putZ_same]; simp
  · rw [putZ_other _ _ e]
    have : (y == l[k]) = false := by simpa using e
    rw [this, Bool.false_or, entS_step g S h, putZ_other _ _ e]
theorem lvS_zero (g : Nat) (S S2 : Vr → Value) (l : List Vr) : lvS g S S2 l 0 = fun x => if inL l x then S x else S2 x := rfl
set_option maxRecDepth 100000 in
theorem leave1_any (w : World) : Calls Tryd.prog 65 #[] w fun e w' => e = .returned (.tuple #[]) ∧ w = w' := by
  go_enter Tryd.func65, Tryd.ntmps65
  go_wp2
  go_end0
  exact ⟨rfl, rfl⟩
end Go.Proofs.YtkdhhcidpklgoaaDoor

/- node: leave. -/
namespace Go.Proofs.YtkdhhcidpklgoaaDoor
open Go.RowKit Go.Shelf
attribute [local go_sem] Oper.semAt_some

theorem revL_at {l : List Vr} {pre : List (Nat × Vr)} {y : Nat × Vr} (h : pre ++ [y] <+: revL l) : ∃ hlt : l.length - 1 - pre.length < l.length, pre.length < l.length ∧ y = (l.length - 1 - pre.length, l[l.length - 1 - pre.length]) := by
  obtain ⟨r, hr⟩ := h
  have h1 : (revL l)[pre.length]? = some y := by rw [← hr]; simp
  have hlt : pre.length < l.length := by
    have := (List.getElem?_eq_some_iff.1 h1).1
    rw [revL_length] at this; exact this
  rw [revL_get hlt] at h1
  exact ⟨by omega, hlt, (Option.some.inj h1).symm⟩
theorem SC.drew {w : World} {sb n : Nat} {S : Vr → Value} (h : SC w sb n S) : SC w.drew sb n S := h
/-- What leave knows. -/
structure LV (w : World) (gl gh gs gH gO sb : Nat) (A : Option Addr) (c : Nat) (l : List Vr) (S : Vr → Value) (f : Nat → Value) : Prop where
  bl : w.heap[gl]? = some (.cells #[.slice A l.length c] 66 (0, 0))
  bh : w.heap[gh]? = some (.cells #[.slice (some ⟨gH, 0, none⟩) l.length l.length] 127 (0, 0))
  bs : w.heap[gs]? = some (.cells #[.map (some sb)] 110 (0, 0))
  hd : PBlk w gH 130 l.length f
  hf : ∀ k x, l[k]? = some x → f k = entS gO S 0 (l.take k) x
set_option maxHeartbeats 8000000 in
set_option maxRecDepth 100000 in
theorem leave2_any (gl gh gs gH gO sb n : Nat) (A : Option Addr) (c : Nat) (l : List Vr) (S S2 : Vr → Value) (f : Nat → Value) (w : World) (hlv : LV w gl gh gs gH gO sb A c l S f) (hr : RVrs w (.slice A l.length c) l) (hsc : SC w sb n S2) (hl : l.length ≤ 1048576) (hn : n + l.length ≤ 1000000000000) :
    Calls Tryd.prog 66 #[.pointer (some ⟨gl, 0, none⟩), .pointer (some ⟨gh, 0, none⟩), .pointer (some ⟨gs, 0, none⟩)] w fun e w' => e = .returned (.tuple #[]) ∧ SC w' sb (n + l.length) (fun x => if inL l x then S x else S2 x) ∧ Only (fun j => j = sb) w w' := by
  have HR := Lib.hid hr; have HLV := Lib.hid hlv; have HSC := Lib.hid hsc
  have hlt := heap_lt hlv.bl
  have q0 := cellAt hlv.bl 0
  obtain ⟨es, clock, hmap⟩ := hsc.is
  have HMAP := Lib.hid hmap
  clear hlv hr hsc hmap
  refine callsIn_wide.1 (callsIn_of_wp_marks (n := 0) Tryd.func66 rfl trivial ?_ rfl)
  simp only [Tryd.ntmps66, List.size_toArray, List.length_cons, List.length_nil, Nat.reduceAdd, Nat.reduceSub, Array.replicate_succ, Array.replicate_zero, List.push_toArray, List.append_toArray, List.nil_append, List.cons_append]
  gi_wp2
  refine ⟨trivial, rfl, ?_⟩
  (with_reducible refine (callsIn_wide.2 (backward_any A l.length c _)).mono ?_)
  rintro e w3 ⟨rfl, rfl⟩
  have hg3 := heapNew w (.cells #[.slice A l.length c] 66)
  have hE3 := Ext.al w (.cells #[.slice A l.length c] 66)
  have hz3 : (w.alloc (.cells #[.slice A l.length c] 66)).heap.size = w.heap.size + 1 := by simp
  generalize w.alloc _ = w3 at *
  have HE3 := Lib.hid hE3
  have hsbl := heap_lt HMAP.out
  have HIT := Lib.hid (back_iter (fun j => j = sb) w3 A c l w.heap.size (HR.out.below hE3) (fun j hj => ⟨es, clock, by rw [hj]; exact hE3.lt HMAP.out⟩) hg3 (by omega) hl)
  have HKEEP : Hid (∀ W, Only (fun j => j = sb) w W → ∀ j o, w.heap[j]? = some o → j ≠ sb → W.heap[j]? = some o) := fun W h j o ho hj => h.lt ho hj
  clear hg3 q0
  gi_wp2
  refine wpIn_wide.2 (wp_range (C := fun j => j = sb) (L := revL l) (R := RIx) rfl (enters_of Tryd.func81 (by kernel_rfl) rfl) HIT.out
    (fun j hj => by omega) (fun y vs A h => h.size)
    (fun pre W => SC W sb (n + pre.length) (lvS gO S S2 l (l.length - pre.length)) ∧ Only (fun j => j = sb) w W)
    (fun c W => False) ?hI ?hIx ?h0 ?hround ?hdone ?hstop)
  case hI =>
    rintro pre A B ⟨h1, h2⟩ hb
    exact ⟨h1.block (hb.block _ (by omega)), h2.belowNew hb (by omega)⟩
  case hIx => rintro c A B h; exact h.elim
  case h0 =>
    refine ⟨?_, Only.of_ext HE3.out⟩
    rw [List.length_nil, Nat.add_zero, Nat.sub_zero, lvS_end]
    exact HSC.out.ext HE3.out
  case hround =>
    rintro l' pre y vs W hl' hpre ⟨i1, i2⟩ hvs hsz
    obtain rfl : vs = #[.int .i64 y.1, vrV y.2] := hvs
    obtain ⟨hk, hpl, he⟩ := revL_at hpre
    have I1 := Lib.hid i1; have I2 := Lib.hid i2
    clear i1 i2 hpre
    have hkl : l[l.length - 1 - pre.length]? = some l[l.length - 1 - pre.length] := List.getElem?_eq_getElem hk
    have HF := Lib.hid (HLV.out.hf _ _ hkl)
    have HST := Lib.hid (lvS_step gO S S2 hkl)
    obtain ⟨_, _, -, -, -, -, ok0, ok1⟩ := HR.out.at_ hk
    have HOK : Hid (vrT.ok l[l.length - 1 - pre.length]) := ⟨ok0, ok1⟩
    have HKP : Hid (l.length - pre.length = (l.length - 1 - pre.length) + 1) := by show _ = _; omega
    have HKP2 : Hid (l.length - (pre.length + 1) = l.length - 1 - pre.length) := by show _ = _; omega
    have hkl2 := hk
    generalize l[l.length - 1 - pre.length] = x at *
    generalize l.length - 1 - pre.length = k at *
    subst he
    dsimp only at *
    clear ok0 ok1 hkl
    gi_wp2
    refine ⟨Ext.al _ _, fun W2 hT => ?_⟩
    have hE4 := Ext.al W (.cells #[.int .i64 x.1, .int .i64 x.2] 70)
    have hN4 := hT.kept _ _ (heapNew W (.cells #[.int .i64 x.1, .int .i64 x.2] 70)) (fun r h => by cases h)
    have hB4 := hT.only.below (B := w3.heap.size) (by simp; omega) (fun k h => by rw [h]; exact hl')
    have HB2 : Hid (Below w3.heap.size W W2) := (hE4.mono hsz).trans hB4
    have HO2 : Hid (Only (fun j => j = sb) w W2) := Only.belowNew I2.out HB2.out (by omega)
    have HSC2 : Hid (SC W2 sb (n + pre.length) (lvS gO S S2 l (k + 1))) := by
      have := I1.out
      rw [HKP.out] at this
      exact this.block (HB2.out.block _ (by omega))
    have hz2 := HB2.out.size
    have m0 := cellAt hN4 0
    have m1 := cellAt hN4 1
    have hne : ∀ j o, w.heap[j]? = some o → (∀ es clock, o ≠ .map es clock) → j ≠ sb := fun j o h hn e => by
      subst e; rw [HMAP.out] at h; exact hn _ _ (Option.some.inj h).symm
    have r0 := cellAt (HKEEP.out W2 HO2.out _ _ HLV.out.bs (hne _ _ HLV.out.bs (fun _ _ h => by cases h))) 0
    have r1 := cellAt (HKEEP.out W2 HO2.out _ _ HLV.out.bh (hne _ _ HLV.out.bh (fun _ _ h => by cases h))) 0
    have hgH : gH ≠ sb := by obtain ⟨arr, h1, _⟩ := HLV.out.hd; exact hne _ _ h1 (fun _ _ h => by cases h)
    have r2 := (HLV.out.hd.only HO2.out hgH).cellAs hkl2 HF.out
    clear hE4 hN4 hB4 hT hne
    obtain ⟨w10, hu', hm10, hg10, -⟩ := run_updateZ (T := vrT) (t := 110) (e := 130) Tryd.underlying110 (w := W2.drew) HSC2.out (by unfold maxLen; omega) x HOK.out (entS gO S 0 (l.take k) x)
    have hu : (Instr.mapUpdate 110 (.map (some sb)) (.agg #[.int .i64 x.1, .int .i64 x.2]) (entS gO S 0 (l.take k) x)).run Tryd.prog W2.drew = .ok () w10 := hu'
    rw [HST.out] at hm10
    have HM10 := Lib.hid hm10
    have HG10 : Hid (Only (fun j => j = sb) W2 w10) := Only.tr (b := W2.drew) (Only.of_ext (Ext.rf W2).drew) (Only.grown hg10)
    clear hu' hm10 hg10
    have hki : (k : Int) < l.length := by omega
    generalize entS gO S 0 (l.take k) x = v at *
    gi_wp2
    gi_region
    all_goals
      gi_wp2
      refine ⟨HG10.out, ?_, HO2.out.tr HG10.out⟩
      rw [List.length_append, List.length_singleton, HKP2.out, ← Nat.add_assoc]
      exact HM10.out
  case hdone =>
    rintro W ⟨h1, h2⟩ hK
    have H1 := Lib.hid h1; have H2 := Lib.hid h2; have HK := Lib.hid hK
    clear h1 h2 hK
    gi_wp2
    refine ⟨by simp, .inl ⟨_, _, rfl, run_takeDeferred HK.out, ?_⟩⟩
    refine ⟨.tuple #[], by simp [results, go_sem], rfl, ?_, ?_⟩
    · have := H1.out
      rw [revL_length, Nat.sub_self, lvS_zero] at this
      exact this.block (World.putObj_heap_other (by omega))
    · exact Only.putNew H2.out (by omega) _
  case hstop => rintro c W h; exact h.elim
end Go.Proofs.YtkdhhcidpklgoaaDoor

/- node: enter. -/
namespace Go.Proofs.YtkdhhcidpklgoaaDoor
open Go.RowKit Go.Shelf
attribute [local go_sem] Oper.semAt_some

theorem Tryd.iBinder : (Tryd.prog.info? 129).map (fun i => (i.zero, i.size, i.bytes)) = some (some (.agg #[.int .i64 0, .int .i64 0, .bool false, .int .i64 0]), 4, 32) := by kernel_rfl
theorem Tryd.iPB : (Tryd.prog.info? 130).map (fun i => (i.zero, i.size, i.bytes)) = some (some (.pointer none), 1, 8) := by kernel_rfl
set_option maxHeartbeats 8000000 in
set_option maxRecDepth 100000 in
theorem enter_any (sb n : Nat) (A : Option Addr) (c : Nat) (l : List Vr) (S : Vr → Value) (w : World) (hr : RVrs w (.slice A l.length c) l) (hsc : SC w sb n S) (hl : l.length ≤ 1048576) (hn : n + l.length ≤ 1000000000000) (h0 : 0 < l.length) (hS : ∀ x, ∃ p, S x = .pointer p) :
    Calls Tryd.prog 52 #[.map (some sb), .slice A l.length c] w fun e w' => e = .returned (.tuple #[.slice (some ⟨w.heap.size + 1 + 1, 0, none⟩) l.length l.length, .func (.func 66) #[] #[.pointer (some ⟨w.heap.size + 1, 0, none⟩), .pointer (some ⟨w.heap.size + 1 + 1 + 1 + 1, 0, none⟩), .pointer (some ⟨w.heap.size, 0, none⟩)]]) ∧ SC w' sb (n + l.length) (entS (w.heap.size + 1 + 1) S 0 l) ∧ Only (fun j => j = sb) w w' ∧ ∃ f, LV w' (w.heap.size + 1) (w.heap.size + 1 + 1 + 1 + 1) w.heap.size (w.heap.size + 1 + 1 + 1) (w.heap.size + 1 + 1) sb A c l S f := by
  have HR := Lib.hid hr; have HSC := Lib.hid hsc; have HSP := Lib.hid hS
  have hsbl := hsc.lt
  have hmkB := fun w => make_any Tryd.underlying111 Tryd.iBinder (by decide) w l.length (by omega)
  have hmkP := fun w => make_any Tryd.underlying127 Tryd.iPB (by decide) w l.length (by omega)
  have hmf : ∀ (fn : Fn) (first cap : Array Value) (w : World), (Instr.makeFunc fn first cap).run Tryd.prog w = .ok (.func fn first cap) w := fun _ _ _ _ => rfl
  have hmx : Tryd.prog.follows .mixedOrders = true := by kernel_rfl
  have hne : ¬ (l.length = 0) := by omega
  have HIS := Lib.hid hsc.is
  clear hr hsc hS
  obtain ⟨wE, hwE⟩ : ∃ wE, wE = (((((w.alloc (.cells #[.map (some sb)] 110)).alloc (.cells #[.slice A l.length c] 66)).alloc (.cells (madeCells #[.int .i64 0, .int .i64 0, .bool false, .int .i64 0] (l.length * 4)) 129)).alloc (.cells (madeCells #[.pointer none] l.length) 130)).alloc (.cells #[.slice (some ⟨w.heap.size + 1 + 1 + 1, 0, none⟩) l.length l.length] 127)) := ⟨_, rfl⟩
  have HE : Hid (Ext w wE) := by
    show Ext w wE; rw [hwE]
    exact ((((Ext.al _ _).tr (Ext.al _ _)).tr (Ext.al _ _)).tr (Ext.al _ _)).tr (Ext.al _ _)
  have HBS : Hid (wE.heap[w.heap.size]? = some (.cells #[.map (some sb)] 110 (0, 0))) := by
    show _ = _; rw [hwE]
    exact Ext.lt (Ext.al4 _ _ _ _ _) (heapNew w _)
  have HBL : Hid (wE.heap[w.heap.size + 1]? = some (.cells #[.slice A l.length c] 66 (0, 0))) := by
    show _ = _; rw [hwE]
    have := Ext.lt (Ext.al3 _ (.cells (madeCells #[.int .i64 0, .int .i64 0, .bool false, .int .i64 0] (l.length * 4)) 129) (.cells (madeCells #[.pointer none] l.length) 130) (.cells #[.slice (some ⟨w.heap.size + 1 + 1 + 1, 0, none⟩) l.length l.length] 127)) (heapNew (w.alloc (.cells #[.map (some sb)] 110)) (.cells #[.slice A l.length c] 66))
    simpa using this
  have HPO : Hid (PBlk wE (w.heap.size + 1 + 1) 129 (l.length * 4) (fun i => (#[.int .i64 0, .int .i64 0, .bool false, .int .i64 0] : Array Value)[i % 4]!)) := by
    have := (PBlk.made ((w.alloc (.cells #[.map (some sb)] 110)).alloc (.cells #[.slice A l.length c] 66)) #[.int .i64 0, .int .i64 0, .bool false, .int .i64 0] (by decide) (l.length * 4) 129).ext (Ext.al2 _ (.cells (madeCells #[.pointer none] l.length) 130) (.cells #[.slice (some ⟨w.heap.size + 1 + 1 + 1, 0, none⟩) l.length l.length] 127))
    rw [← hwE, show ((w.alloc (.cells #[.map (some sb)] 110)).alloc (.cells #[.slice A l.length c] 66)).heap.size = w.heap.size + 1 + 1 by simp] at this
    exact this
  have HPH : Hid (PBlk wE (w.heap.size + 1 + 1 + 1) 130 l.length (fun i => (#[.pointer none] : Array Value)[i % 1]!)) := by
    have := (PBlk.made (((w.alloc (.cells #[.map (some sb)] 110)).alloc (.cells #[.slice A l.length c] 66)).alloc (.cells (madeCells #[.int .i64 0, .int .i64 0, .bool false, .int .i64 0] (l.length * 4)) 129)) #[.pointer none] (by decide) l.length 130).ext (Ext.al _ (.cells #[.slice (some ⟨w.heap.size + 1 + 1 + 1, 0, none⟩) l.length l.length] 127))
    rw [← hwE, show (((w.alloc (.cells #[.map (some sb)] 110)).alloc (.cells #[.slice A l.length c] 66)).alloc (.cells (madeCells #[.int .i64 0, .int .i64 0, .bool false, .int .i64 0] (l.length * 4)) 129)).heap.size = w.heap.size + 1 + 1 + 1 by simp] at this
    exact this
  have HBH : Hid (wE.heap[w.heap.size + 1 + 1 + 1 + 1]? = some (.cells #[.slice (some ⟨w.heap.size + 1 + 1 + 1, 0, none⟩) l.length l.length] 127 (0, 0))) := by
    have := heapNew ((((w.alloc (.cells #[.map (some sb)] 110)).alloc (.cells #[.slice A l.length c] 66)).alloc (.cells (madeCells #[.int .i64 0, .int .i64 0, .bool false, .int .i64 0] (l.length * 4)) 129)).alloc (.cells (madeCells #[.pointer none] l.length) 130)) (.cells #[.slice (some ⟨w.heap.size + 1 + 1 + 1, 0, none⟩) l.length l.length] 127)
    rw [← hwE, show ((((w.alloc (.cells #[.map (some sb)] 110)).alloc (.cells #[.slice A l.length c] 66)).alloc (.cells (madeCells #[.int .i64 0, .int .i64 0, .bool false, .int .i64 0] (l.length * 4)) 129)).alloc (.cells (madeCells #[.pointer none] l.length) 130)).heap.size = w.heap.size + 1 + 1 + 1 + 1 by simp] at this
    exact this
  have hzE : wE.heap.size = w.heap.size + 5 := by rw [hwE]; simp
  go_enter Tryd.func52, Tryd.ntmps52
  go_wp2
  generalize ((((w.alloc _).alloc _).alloc _).alloc _).alloc _ = w5 at *
  subst hwE
  go_loopw [20] (fun i wr => ∃ (k : Nat) (f g : Nat → Value), k ≤ l.length ∧ i = .int .i64 k ∧ SC wr sb (n + k) (entS (w.heap.size + 1 + 1) S 0 (l.take k)) ∧ PBlk wr (w.heap.size + 1 + 1) 129 (l.length * 4) g ∧ PBlk wr (w.heap.size + 1 + 1 + 1) 130 l.length f ∧ (∀ (i : Nat) x, i < k → l[i]? = some x → f i = entS (w.heap.size + 1 + 1) S 0 (l.take i) x) ∧ Only (fun j => j = sb ∨ j = w.heap.size + 1 + 1 ∨ j = w.heap.size + 1 + 1 + 1) wE wr) (fun i _ => l.length - (intOf i).toNat)
  case atStart => exact ⟨0, _, _, Nat.zero_le _, rfl, by simpa [entS] using HSC.out.ext HE.out, HPO.out, HPH.out, fun i x h => by omega, Only.rf _ _⟩
  case round =>
    obtain ⟨k, f, g, hk, rfl, hsc, hg, hf, hfx, ho⟩ := hrel
    have HS := Lib.hid hsc; have HG := Lib.hid hg; have HF := Lib.hid hf; have HFX := Lib.hid hfx; have HO := Lib.hid ho
    have HB0 : Hid (wr.heap[w.heap.size]? = some (.cells #[.map (some sb)] 110 (0, 0))) := ho.lt HBS.out (by omega)
    have HB1 : Hid (wr.heap[w.heap.size + 1]? = some (.cells #[.slice A l.length c] 66 (0, 0))) := ho.lt HBL.out (by omega)
    have HB4 : Hid (wr.heap[w.heap.size + 1 + 1 + 1 + 1]? = some (.cells #[.slice (some ⟨w.heap.size + 1 + 1 + 1, 0, none⟩) l.length l.length] 127 (0, 0))) := ho.lt HBH.out (by omega)
    have hzr := ho.size
    have HX2 : Hid (∀ p v, w.cell? p = some v → wr.cell? p = some v) := fun p v h => cell_only (C := fun j => j = sb) (((Only.of_ext HE.out).tr ho).mono (fun j hj h => by rcases h with h | h | h <;> omega)) (fun j h => by rw [h]; exact HIS.out) h
    have b0 := cellAt HB0.out 0
    have b1 := cellAt HB1.out 0
    have b4 := cellAt HB4.out 0
    clear hsc hg hf hfx ho
    by_cases hlt : k < l.length
    · obtain ⟨bz, oz, rfl, hbz, z0, z1, ok0, ok1⟩ := HR.out.at_ hlt
      have z0 := HX2.out _ _ z0
      have z1 := HX2.out _ _ z1
      have HLK : Hid (l[k]? = some l[k]) := List.getElem?_eq_getElem hlt
      have HOK : Hid (vrT.ok l[k]) := ⟨ok0, ok1⟩
      generalize l[k] = x at *
      clear ok0 ok1
      have hki : (k : Int) < l.length := by omega
      have HE6 := Lib.hid (Ext.al wr (.cells #[.int .i64 x.1, .int .i64 x.2] 70))
      have HN6 := Lib.hid (heapNew wr (.cells #[.int .i64 x.1, .int .i64 x.2] 70))
      have HG6 := Lib.hid (HG.out.ext HE6.out)
      have HF6 := Lib.hid (HF.out.ext HE6.out)
      have HS6 := Lib.hid (HS.out.ext HE6.out)
      have g0 := HG6.out.cell (i := k * 4) (by omega)
      have g1 := HG6.out.cell (i := k * 4 + 1) (by omega)
      have q0 := HG6.out.frozen (k * 4)
      have q1 := HG6.out.frozen (k * 4 + 1)
      have f0 := HF6.out.cell hlt
      have qf := HF6.out.frozen k
      have b0 := HE6.out.keep b0
      have b4 := HE6.out.keep b4
      have n0 := cellAt HN6.out 0
      have n1 := cellAt HN6.out 1
      go_wp2
      obtain ⟨w7, hw7⟩ : ∃ w7, w7 = (((wr.alloc (Obj.cells #[Value.int IntKind.i64 x.fst, Value.int IntKind.i64 x.snd] 70)).setCell { block := w.heap.size + 1 + 1, off := k * 4 } (Value.int IntKind.i64 x.fst)).setCell { block := w.heap.size + 1 + 1, off := k * 4 + 1 } (Value.int IntKind.i64 x.snd)) := ⟨_, rfl⟩
      have HBK : Hid (∀ j o, j ≠ w.heap.size + 1 + 1 → wr.heap[j]? = some o → w7.heap[j]? = some o) := fun j o h1 h2 => by
        rw [hw7]
        exact (set_other _ h1).trans ((set_other _ h1).trans (HE6.out.lt h2))
      obtain ⟨g7, HG7⟩ : ∃ g7, Hid (PBlk w7 (w.heap.size + 1 + 1) 129 (l.length * 4) g7) := by rw [hw7]; exact ⟨_, (HG6.out.set (by omega) _).set (by omega) _⟩
      have HO7 : Hid (Only (fun j => j = sb ∨ j = w.heap.size + 1 + 1 ∨ j = w.heap.size + 1 + 1 + 1) wE w7) := by
        rw [hw7]
        exact ((HO.out.tr (Only.of_ext HE6.out)).tr (Only.setCell (p := ⟨w.heap.size + 1 + 1, _, none⟩) (.inr (.inl rfl)) _ _)).tr (Only.setCell (p := ⟨w.heap.size + 1 + 1, _, none⟩) (.inr (.inl rfl)) _ _)
      have HN7 : Hid (w7.heap[wr.heap.size]? = some (.cells #[.int .i64 x.1, .int .i64 x.2] 70 (0, 0))) := by
        rw [hw7]
        exact (set_other _ (by omega)).trans ((set_other _ (by omega)).trans HN6.out)
      have HF7 : Hid (PBlk w7 (w.heap.size + 1 + 1 + 1) 130 l.length f) := by
        rw [hw7]
        exact (HF6.out.setOther (by omega) _).setOther (by omega) _
      have HS7 : Hid (SC w7 sb (n + k) (entS (w.heap.size + 1 + 1) S 0 (l.take k))) := by
        rw [hw7]
        exact HS6.out.block ((set_other _ (by omega)).trans (set_other _ (by omega)))
      have hz7 : w7.heap.size = wr.heap.size + 1 := by rw [hw7]; simp [World.setCell]
      rw [← hw7]
      clear g0 g1 q0 q1 f0 qf b0 b1 b4 n0 n1 z0 z1
      clear hw7
      have b0 := cellAt (HBK.out _ _ (by omega) HB0.out) 0
      have b4 := cellAt (HBK.out _ _ (by omega) HB4.out) 0
      have n0 := cellAt HN7.out 0
      have n1 := cellAt HN7.out 1
      have f0 := HF7.out.cell hlt
      have qf := HF7.out.frozen k
      have HST := Lib.hid (entS_step (w.heap.size + 1 + 1) S HLK.out)
      obtain ⟨v, hv⟩ : ∃ v, entS (w.heap.size + 1 + 1) S 0 (l.take k) x = v := ⟨_, rfl⟩
      have HV := Lib.hid hv
      obtain ⟨p, rfl⟩ : ∃ p, v = .pointer p := by rw [← hv]; exact entS_ptr _ _ _ _ HSP.out x
      have hlk : (Instr.lookup 110 (.map (some sb)) (.agg #[.int .i64 x.1, .int .i64 x.2]) false).run Tryd.prog w7.drew = .ok (.pointer p) w7.drew := by
        rw [← hv]
        exact run_lookupZ (T := vrT) (t := 110) (e := 130) Tryd.underlying110 (HS7.out.drew) (by kernel_rfl) x HOK.out
      have hcd : ∀ p, w7.drew.cell? p = w7.cell? p := fun p => rfl
      have hfd : ∀ p, w7.drew.frozen? p = w7.frozen? p := fun p => rfl
      clear hv
      go_region
      all_goals
        obtain ⟨w8, hw8⟩ : ∃ w8, w8 = (w7.setCell ⟨w.heap.size + 1 + 1 + 1, k, none⟩ (.pointer p)).drew := ⟨_, rfl⟩
        rw [← hw8]
        have HK8 : Hid (∀ j o, j ≠ w.heap.size + 1 + 1 + 1 → w7.heap[j]? = some o → w8.heap[j]? = some o) := fun j o h1 h2 => by
          rw [hw8]
          exact (set_other _ h1).trans h2
        have HS8 : Hid (SC w8 sb (n + k) (entS (w.heap.size + 1 + 1) S 0 (l.take k))) := by
          rw [hw8]
          exact MapZ.block (w := w7) HS7.out (set_other _ (by omega))
        have HF8 : Hid (PBlk w8 (w.heap.size + 1 + 1 + 1) 130 l.length (fun j => if j = k then .pointer p else f j)) := by
          rw [hw8]
          exact PBlk.block (HF7.out.set hlt _) rfl
        have HG8 : Hid (PBlk w8 (w.heap.size + 1 + 1) 129 (l.length * 4) g7) := by
          rw [hw8]
          exact PBlk.block (HG7.out.setOther (by omega) _) rfl
        have HO8 : Hid (Only (fun j => j = sb ∨ j = w.heap.size + 1 + 1 ∨ j = w.heap.size + 1 + 1 + 1) wE w8) := by
          rw [hw8]
          exact (HO7.out.tr (Only.setCell (p := ⟨w.heap.size + 1 + 1 + 1, _, none⟩) (.inr (.inr rfl)) _ _)).tr (Only.of_ext (Ext.rf _).drew)
        clear hlk hcd hfd f0 qf b0 b4 n0 n1
        clear hw8
        have b0 := cellAt (HK8.out _ _ (by omega) (HBK.out _ _ (by omega) HB0.out)) 0
        have n0 := cellAt (HK8.out _ _ (by omega) HN7.out) 0
        have n1 := cellAt (HK8.out _ _ (by omega) HN7.out) 1
        obtain ⟨w10, hu', hm10, hg10, hz10⟩ := run_updateZ (T := vrT) (t := 110) (e := 130) Tryd.underlying110 (w := w8.drew) HS8.out.drew (by unfold maxLen; omega) x HOK.out (.pointer (some ⟨w.heap.size + 1 + 1, k * 4, none⟩))
        have hu : (Instr.mapUpdate 110 (.map (some sb)) (.agg #[.int .i64 x.1, .int .i64 x.2]) (.pointer (some ⟨w.heap.size + 1 + 1, k * 4, none⟩))).run Tryd.prog w8.drew = .ok () w10 := hu'
        rw [← HST.out] at hm10
        have HM10 := Lib.hid hm10
        have HG10 : Hid (Only (fun j => j = sb) w8 w10) := Only.tr (b := w8.drew) (Only.of_ext (Ext.rf w8).drew) (Only.grown hg10)
        clear hu' hm10 hg10 hz10
        go_wp2
        go_region
        all_goals
          go_wp2
          refine ⟨⟨k + 1, fun j => if j = k then .pointer p else f j, g7, by omega, by go_num, ?_, HG8.out.only HG10.out (by omega), HF8.out.only HG10.out (by omega), ?_, HO8.out.tr (HG10.out.mono (fun j _ h => .inl h))⟩, by simp [intOf]; omega⟩
          · rw [← Nat.add_assoc]; exact HM10.out
          · intro i y hi hy
            show (if i = k then Value.pointer p else f i) = _
            by_cases hik : i = k
            · subst hik
              rw [HLK.out] at hy
              obtain rfl := Option.some.inj hy
              rw [if_pos rfl, HV.out]
            · rw [if_neg hik]
              exact HFX.out i y (by omega) hy
    · have hkl : k = l.length := by omega
      subst hkl
      go_wp2
      refine bodyPost_ret (v := .tuple #[.slice (some ⟨w.heap.size + 1 + 1, 0, none⟩) l.length l.length, .func (.func 66) #[] #[.pointer (some ⟨w.heap.size + 1, 0, none⟩), .pointer (some ⟨w.heap.size + 1 + 1 + 1 + 1, 0, none⟩), .pointer (some ⟨w.heap.size, 0, none⟩)]]) (by simp [results, Tryd.results52, go_sem]) rfl ?_
      refine ⟨rfl, ?_, ?_, f, ?_⟩
      · have := HS.out
        rw [List.take_length] at this
        exact this
      · exact ((Only.of_ext HE.out).tr HO.out).mono (fun j hj h => by rcases h with h | h | h <;> omega)
      · exact ⟨HB1.out, HB4.out, HB0.out, HF.out, fun k x hk => HFX.out k x (List.getElem?_eq_some_iff.1 hk).1 hk⟩
end Go.Proofs.YtkdhhcidpklgoaaDoor

/- node: leave, as a deferred call. -/
namespace Go.Proofs.YtkdhhcidpklgoaaDoor
open Go.RowKit Go.Shelf
attribute [local go_sem] Oper.semAt_some

section
variable {P : Program}
/-- A frame leaves whose deferred calls are marks that hand over none. -/
def LeavesG (P : Program) (fn : Func) (tmps : Array Value) (R : Ending → World → Prop) : List Deferred → World → Prop
  | [], w => ∃ v, (results fn tmps).run P w = .ok v w ∧ R (.returned v) w
  | d :: ds, w => ∃ r w', d.target = .collected r ∧ (Instr.takeDeferred r).run P w = .ok [] w' ∧ LeavesG P fn tmps R ds w'
theorem leaves_stepsG {fn : Func} {tmps : Array Value} {R : Ending → World → Prop} : ∀ (ds : List Deferred) (w : World) (fr : Frame)
    (cs : List Frame), fr.mode = .returning → fr.defers = ds → fr.tmps = tmps → P.funcs[fr.fn]? = some fn → LeavesG P fn tmps R ds w →
    ∃ v w' fr', R (.returned v) w' ∧ Steps P (lone fr cs w) (lone fr' cs w') ∧ fr'.fn = fr.fn ∧ fr'.kind = fr.kind ∧ fr'.going P w' (.returned v) := by
  intro ds
  induction ds with
  | nil =>
    intro w fr cs hu hd ht hf h
    obtain ⟨v, hr, hR⟩ := h
    exact ⟨v, w, fr, hR, Steps.refl P _, rfl, rfl, hu, hd, fn, hf, ht ▸ hr⟩
  | cons d ds ih =>
    intro w fr cs hu hd ht hf h
    obtain ⟨r, w', htar, htake, hrest⟩ := h
    have h1 := step_collected (cs := cs) (by rw [hu]; simp) hd htar htake
    obtain ⟨v, w'', fr', hR', hs', hfn', hk', hl'⟩ := ih w' { fr with defers := [] ++ ds } cs hu rfl ht hf hrest
    exact ⟨v, w'', fr', hR', .head h1 hs', hfn', hk', hl'⟩
/-- What the body of a deferred function must achieve, marks and all. -/
def bodyPostG (P : Program) (fn : Func) (R : Ending → World → Prop) : Exit → Act → World → Prop
  | .normal, a, w | .ret, a, w => LeavesG P fn a.tmps R a.defers w
  | .outgrown, _, w => R .outgrown w
  | _, _, _ => False
theorem callsD_of_wp_marks {n : Nat} {f : FuncId} {fn : Func} {c : Code} {args : Array Value} {u : FrameMode} {w : World} {R : Ending → World → Prop}
    (hf : P.funcs[f]? = some fn) (hb : fn.body = some c)
    (h : c.wpIn Fence.wide n P (bodyPostG P fn R) { tmps := args ++ Array.replicate (fn.ntmps - args.size) undef, defers := [] } w) :
    CallsD P f args u w fun e u' w' => u' = u ∧ R e w' := by
  intro c₀ cs hu
  let b : Frame := { (default : Frame) with fn := f, kind := .deferred, roundOf := none }
  have henter : Frame.enter P f args .deferred =
      b.atR { tmps := args ++ Array.replicate (fn.ntmps - args.size) undef, defers := [] } [.code c] := by
    simp [Frame.enter, Frame.atR, hf, hb, b]
  have hc : ({ c₀ with mode := u } : Frame) = c₀ := by subst hu; rfl
  obtain ⟨e, a', w', hq, harr⟩ := h b [] (c₀ :: cs) rfl trivial (room_wide _)
  rw [← henter] at harr
  cases e with
  | normal =>
    obtain ⟨v, w'', fr', hR, hs, hfn, hk, hl⟩ := leaves_stepsG a'.defers w' { b.atR a' [] with mode := .returning } (c₀ :: cs) rfl rfl rfl hf hq
    refine ⟨.returned v, u, w'', fr', ⟨rfl, hR⟩, ?_, hk, hl⟩
    rw [hc]
    exact Steps.trans (stepsIn_wide.1 harr) (.head (stepR_end rfl) hs)
  | ret =>
    obtain ⟨todo, hs₀⟩ := harr.1 rfl
    obtain ⟨v, w'', fr', hR, hs, hfn, hk, hl⟩ := leaves_stepsG a'.defers w' { b.atR a' todo with mode := .returning } (c₀ :: cs) rfl rfl rfl hf hq
    refine ⟨.returned v, u, w'', fr', ⟨rfl, hR⟩, ?_, hk, hl⟩
    rw [hc]
    exact Steps.trans (stepsIn_wide.1 hs₀) hs
  | panic chain => exact hq.elim
  | exit id => exact hq.elim
  | goto l => exact hq.elim
  | outgrown => exact ⟨.outgrown, u, w', b, ⟨rfl, hq⟩, harr.resolve_left (by simp [b]), rfl, trivial⟩
end
set_option maxHeartbeats 8000000 in
set_option maxRecDepth 100000 in
theorem leave2D_any (gl gh gs gH gO sb n : Nat) (A : Option Addr) (c : Nat) (l : List Vr) (S S2 : Vr → Value) (f : Nat → Value) (w : World) (hlv : LV w gl gh gs gH gO sb A c l S f) (hr : RVrs w (.slice A l.length c) l) (hsc : SC w sb n S2) (hl : l.length ≤ 1048576) (hn : n + l.length ≤ 1000000000000) :
    CallsD Tryd.prog 66 #[.pointer (some ⟨gl, 0, none⟩), .pointer (some ⟨gh, 0, none⟩), .pointer (some ⟨gs, 0, none⟩)] .returning w fun e u' w' => u' = .returning ∧ e = .returned (.tuple #[]) ∧ SC w' sb (n + l.length) (fun x => if inL l x then S x else S2 x) ∧ Only (fun j => j = sb) w w' := by
  have HR := Lib.hid hr; have HLV := Lib.hid hlv; have HSC := Lib.hid hsc
  have hlt := heap_lt hlv.bl
  have q0 := cellAt hlv.bl 0
  obtain ⟨es, clock, hmap⟩ := hsc.is
  have HMAP := Lib.hid hmap
  clear hlv hr hsc hmap
  refine callsD_of_wp_marks (n := 0) (u := .returning) (R := fun e w' => e = .returned (.tuple #[]) ∧ SC w' sb (n + l.length) (fun x => if inL l x then S x else S2 x) ∧ Only (fun j => j = sb) w w') Tryd.func66 rfl ?_
  simp only [Tryd.ntmps66, List.size_toArray, List.length_cons, List.length_nil, Nat.reduceAdd, Nat.reduceSub, Array.replicate_succ, Array.replicate_zero, List.push_toArray, List.append_toArray, List.nil_append, List.cons_append]
  gi_wp2
  refine ⟨trivial, rfl, ?_⟩
  (with_reducible refine (callsIn_wide.2 (backward_any A l.length c _)).mono ?_)
  rintro e w3 ⟨rfl, rfl⟩
  have hg3 := heapNew w (.cells #[.slice A l.length c] 66)
  have hE3 := Ext.al w (.cells #[.slice A l.length c] 66)
  have hz3 : (w.alloc (.cells #[.slice A l.length c] 66)).heap.size = w.heap.size + 1 := by simp
  generalize w.alloc _ = w3 at *
  have HE3 := Lib.hid hE3
  have hsbl := heap_lt HMAP.out
  have HIT := Lib.hid (back_iter (fun j => j = sb) w3 A c l w.heap.size (HR.out.below hE3) (fun j hj => ⟨es, clock, by rw [hj]; exact hE3.lt HMAP.out⟩) hg3 (by omega) hl)
  have HKEEP : Hid (∀ W, Only (fun j => j = sb) w W → ∀ j o, w.heap[j]? = some o → j ≠ sb → W.heap[j]? = some o) := fun W h j o ho hj => h.lt ho hj
  clear hg3 q0
  gi_wp2
  refine wpIn_wide.2 (wp_range (C := fun j => j = sb) (L := revL l) (R := RIx) rfl (enters_of Tryd.func81 (by kernel_rfl) rfl) HIT.out
    (fun j hj => by omega) (fun y vs A h => h.size)
    (fun pre W => SC W sb (n + pre.length) (lvS gO S S2 l (l.length - pre.length)) ∧ Only (fun j => j = sb) w W)
    (fun c W => False) ?hI ?hIx ?h0 ?hround ?hdone ?hstop)
  case hI =>
    rintro pre A B ⟨h1, h2⟩ hb
    exact ⟨h1.block (hb.block _ (by omega)), h2.belowNew hb (by omega)⟩
  case hIx => rintro c A B h; exact h.elim
  case h0 =>
    refine ⟨?_, Only.of_ext HE3.out⟩
    rw [List.length_nil, Nat.add_zero, Nat.sub_zero, lvS_end]
    exact HSC.out.ext HE3.out
  case hround =>
    rintro l' pre y vs W hl' hpre ⟨i1, i2⟩ hvs hsz
    obtain rfl : vs = #[.int .i64 y.1, vrV y.2] := hvs
    obtain ⟨hk, hpl, he⟩ := revL_at hpre
    have I1 := Lib.hid i1; have I2 := Lib.hid i2
    clear i1 i2 hpre
    have hkl : l[l.length - 1 - pre.length]? = some l[l.length - 1 - pre.length] := List.getElem?_eq_getElem hk
    have HF := Lib.hid (HLV.out.hf _ _ hkl)
    have HST := Lib.hid (lvS_step gO S S2 hkl)
    obtain ⟨_, _, -, -, -, -, ok0, ok1⟩ := HR.out.at_ hk
    have HOK : Hid (vrT.ok l[l.length - 1 - pre.length]) := ⟨ok0, ok1⟩
    have HKP : Hid (l.length - pre.length = (l.length - 1 - pre.length) + 1) := by show _ = _; omega
    have HKP2 : Hid (l.length - (pre.length + 1) = l.length - 1 - pre.length) := by show _ = _; omega
    have hkl2 := hk
    generalize l[l.length - 1 - pre.length] = x at *
    generalize l.length - 1 - pre.length = k at *
    subst he
    dsimp only at *
    clear ok0 ok1 hkl
    gi_wp2
    refine ⟨Ext.al _ _, fun W2 hT => ?_⟩
    have hE4 := Ext.al W (.cells #[.int .i64 x.1, .int .i64 x.2] 70)
    have hN4 := hT.kept _ _ (heapNew W (.cells #[.int .i64 x.1, .int .i64 x.2] 70)) (fun r h => by cases h)
    have hB4 := hT.only.below (B := w3.heap.size) (by simp; omega) (fun k h => by rw [h]; exact hl')
    have HB2 : Hid (Below w3.heap.size W W2) := (hE4.mono hsz).trans hB4
    have HO2 : Hid (Only (fun j => j = sb) w W2) := Only.belowNew I2.out HB2.out (by omega)
    have HSC2 : Hid (SC W2 sb (n + pre.length) (lvS gO S S2 l (k + 1))) := by
      have := I1.out
      rw [HKP.out] at this
      exact this.block (HB2.out.block _ (by omega))
    have hz2 := HB2.out.size
    have m0 := cellAt hN4 0
    have m1 := cellAt hN4 1
    have hne : ∀ j o, w.heap[j]? = some o → (∀ es clock, o ≠ .map es clock) → j ≠ sb := fun j o h hn e => by
      subst e; rw [HMAP.out] at h; exact hn _ _ (Option.some.inj h).symm
    have r0 := cellAt (HKEEP.out W2 HO2.out _ _ HLV.out.bs (hne _ _ HLV.out.bs (fun _ _ h => by cases h))) 0
    have r1 := cellAt (HKEEP.out W2 HO2.out _ _ HLV.out.bh (hne _ _ HLV.out.bh (fun _ _ h => by cases h))) 0
    have hgH : gH ≠ sb := by obtain ⟨arr, h1, _⟩ := HLV.out.hd; exact hne _ _ h1 (fun _ _ h => by cases h)
    have r2 := (HLV.out.hd.only HO2.out hgH).cellAs hkl2 HF.out
    clear hE4 hN4 hB4 hT hne
    obtain ⟨w10, hu', hm10, hg10, -⟩ := run_updateZ (T := vrT) (t := 110) (e := 130) Tryd.underlying110 (w := W2.drew) HSC2.out (by unfold maxLen; omega) x HOK.out (entS gO S 0 (l.take k) x)
    have hu : (Instr.mapUpdate 110 (.map (some sb)) (.agg #[.int .i64 x.1, .int .i64 x.2]) (entS gO S 0 (l.take k) x)).run Tryd.prog W2.drew = .ok () w10 := hu'
    rw [HST.out] at hm10
    have HM10 := Lib.hid hm10
    have HG10 : Hid (Only (fun j => j = sb) W2 w10) := Only.tr (b := W2.drew) (Only.of_ext (Ext.rf W2).drew) (Only.grown hg10)
    clear hu' hm10 hg10
    have hki : (k : Int) < l.length := by omega
    generalize entS gO S 0 (l.take k) x = v at *
    gi_wp2
    gi_region
    all_goals
      gi_wp2
      refine ⟨HG10.out, ?_, HO2.out.tr HG10.out⟩
      rw [List.length_append, List.length_singleton, HKP2.out, ← Nat.add_assoc]
      exact HM10.out
  case hdone =>
    rintro W ⟨h1, h2⟩ hK
    have H1 := Lib.hid h1; have H2 := Lib.hid h2; have HK := Lib.hid hK
    clear h1 h2 hK
    gi_wp2
    refine ⟨_, _, rfl, run_takeDeferred HK.out, ?_⟩
    refine ⟨.tuple #[], by simp [results, go_sem], rfl, ?_, ?_⟩
    · have := H1.out
      rw [revL_length, Nat.sub_self, lvS_zero] at this
      exact this.block (World.putObj_heap_other (by omega))
    · exact Only.putNew H2.out (by omega) _
  case hstop => rintro c W h; exact h.elim
set_option maxRecDepth 100000 in
theorem leave1D_any (w : World) : CallsD Tryd.prog 65 #[] .returning w fun e u' w' => u' = .returning ∧ e = .returned (.tuple #[]) ∧ w = w' := by
  refine callsD_of_wp (R := fun e w' => e = .returned (.tuple #[]) ∧ w = w') Tryd.func65 rfl ?_
  go_wp2
  go_end0
  exact ⟨rfl, rfl⟩
end Go.Proofs.YtkdhhcidpklgoaaDoor

/- slices.Grow of nothing; enter, as one contract. -/
namespace Go.Proofs.YtkdhhcidpklgoaaDoor
open Go.RowKit Go.Shelf
attribute [local go_sem] Oper.semAt_some

set_option maxHeartbeats 4000000 in
set_option maxRecDepth 100000 in
theorem grow_any (n : Nat) (hn : n ≤ 1048576) (w : World) :
    Calls Tryd.prog 69 #[.slice none 0 0, .int .i64 n] w fun e w' => ∃ v, e = .returned v ∧ w'.ownsRow w.heap.size 68 1 v 0 [] ∧ Ext w w' := by
  obtain ⟨i0, hi, hz0, hz1, hz2⟩ := info_parts Tryd.iSort
  have happ := fun h0 => Lib.run_append_nil_zeros (P := Tryd.prog) w 134 3 134 68 i0 (.int .i64 0) .i64 .i64 Tryd.underlying134 Tryd.underlying3 hi hz0 n h0 (by omega) (by omega) (by rw [hz2]; omega)
  have hcapge := grownCap_ge w n 0 68
  have hcaple := grownCap_le_maxLen w n 0 68 (by unfold maxLen; omega)
  generalize grownCap w n 0 68 = cap2 at *
  by_cases h0 : n = 0
  · subst h0
    clear happ
    go_enter Tryd.func69, Tryd.ntmps69
    go_wp2
    go_ret
    exact ⟨_, rfl, own_nil', Ext.rf _⟩
  · have happ := happ (by omega)
    have hZs : (Builtin.zeroCells (Value.int .i64 0).cells n ++ Builtin.zeroCells (Value.int .i64 0).cells (cap2 - n)).size = cap2 * 1 := by simp [size_zeroCells, Value.cells]; omega
    generalize Builtin.zeroCells (Value.int .i64 0).cells n ++ Builtin.zeroCells (Value.int .i64 0).cells (cap2 - n) = Z at happ hZs
    have HAPP := Lib.hid happ
    clear happ
    go_enter Tryd.func69, Tryd.ntmps69
    go_wp2_with (at_builtin; refine Lib.wpList_append_run _ rfl _ _ _ _ rfl _ _ rfl rfl _ _ HAPP.out ?_)
    go_ret
    exact ⟨_, rfl, ⟨rfl, .inr ⟨_, _, Z, rfl, Nat.le_refl _, heapNew w _, Nat.zero_le _, hcaple, hZs, rfl⟩⟩, (Ext.al _ _).drew⟩

/-- What leave does, wherever it is called. -/
structure LeaveOK (w' : World) (sb d m : Nat) (l : List Vr) (S S' : Vr → Value) (f : FuncId) (cap : Array Value) : Prop where
  ent : Enters Tryd.prog f
  calls : ∀ W n, Only (fun j => j = sb ∨ j = d) w' W → SC W sb n S' → n + m ≤ 1000000000000 → Calls Tryd.prog f cap W fun e w'' => e = .returned (.tuple #[]) ∧ SC w'' sb (n + m) S ∧ Only (fun j => j = sb) W w''
  defs : ∀ W n, Only (fun j => j = sb ∨ j = d) w' W → SC W sb n S' → n + m ≤ 1000000000000 → CallsD Tryd.prog f cap .returning W fun e u' w'' => u' = .returning ∧ e = .returned (.tuple #[]) ∧ SC w'' sb (n + m) S ∧ Only (fun j => j = sb) W w''
theorem RVrs.only {w w' : World} {sb d : Nat} {A : Option Addr} {n c : Nat} {l : List Vr} (h : RVrs w (.slice A n c) l) (ho : Only (fun j => j = sb ∨ j = d) w w') (hm : ∃ es clock, w.heap[sb]? = some (.map es clock)) (hd : 0 < l.length → ∀ b o, A = some ⟨b, o, none⟩ → b ≠ d) : RVrs w' (.slice A n c) l := by
  obtain ⟨A', c', e, h1, h2, h3⟩ := h
  cases e
  have hk : ∀ p v, w.cell? p = some v → p.block ≠ d → w'.cell? p = some v := fun p v hp hn => by
    have hlt : p.block < w.heap.size := cell_lt hp
    rw [World.cell?_of_block (ho.block _ hlt (fun hc => by rcases hc with hc | hc; exact map_ne_cell hm hp hc; exact hn hc))]; exact hp
  refine ⟨A, c, rfl, h1, h2, fun i a hi => ?_⟩
  have h0 : 0 < l.length := by have := (List.getElem?_eq_some_iff.1 hi).1; omega
  obtain ⟨b, o, rfl, hlt, h4, h5, h6⟩ := h3 i a hi
  exact ⟨b, o, rfl, Nat.lt_of_lt_of_le hlt ho.size, hk _ _ h4 (hd h0 _ _ rfl), hk _ _ h5 (hd h0 _ _ rfl), h6⟩
theorem LV.only {w w' : World} {gl gh gs gH gO sb : Nat} {A : Option Addr} {c : Nat} {l : List Vr} {S : Vr → Value} {f : Nat → Value} (h : LV w gl gh gs gH gO sb A c l S f) (d : Nat) (ho : Only (fun j => j = sb ∨ j = d) w w') (h1 : ¬ (gl = sb ∨ gl = d)) (h2 : ¬ (gh = sb ∨ gh = d)) (h3 : ¬ (gs = sb ∨ gs = d)) (h4 : ¬ (gH = sb ∨ gH = d)) : LV w' gl gh gs gH gO sb A c l S f :=
  ⟨ho.lt h.bl h1, ho.lt h.bh h2, ho.lt h.bs h3, h.hd.only ho h4, h.hf⟩
theorem inL_restore {l : List Vr} {S : Vr → Value} {g : Nat} : (fun x => if inL l x then S x else entS g S 0 l x) = S := by
  funext x
  cases h : inL l x
  · simp only [Bool.false_eq_true, if_false]; exact entS_out g l S 0 x h
  · simp
set_option maxRecDepth 100000 in
theorem enterNil_any (sb : Nat) (c : Nat) (A : Option Addr) (w : World) :
    Calls Tryd.prog 52 #[.map (some sb), .slice A 0 c] w fun e w' => e = .returned (.tuple #[.slice none 0 0, .func (.func 65) #[] #[]]) ∧ Ext w w' := by
  go_enter Tryd.func52, Tryd.ntmps52
  go_wp2
  exact bodyPost_ret (v := .tuple #[.slice none 0 0, .func (.func 65) #[] #[]]) (by simp [results, Tryd.results52, go_sem]) rfl ⟨rfl, Ext.al2 _ _ _⟩
theorem enter_all (sb n d : Nat) (A : Option Addr) (c : Nat) (l : List Vr) (S : Vr → Value) (w : World) (hr : RVrs w (.slice A l.length c) l) (hsc : SC w sb n S) (hl : l.length ≤ 1048576) (hn : n + l.length ≤ 1000000000000) (hS : ∀ x, ∃ p, S x = .pointer p) (hd : d < w.heap.size) (hdA : 0 < l.length → ∀ b o, A = some ⟨b, o, none⟩ → b ≠ d) :
    Calls Tryd.prog 52 #[.map (some sb), .slice A l.length c] w fun e w' => ∃ A2 c2 f cap S', e = .returned (.tuple #[.slice A2 l.length c2, .func (.func f) #[] cap]) ∧ SC w' sb (n + l.length) S' ∧ (∀ x, ∃ p, S' x = .pointer p) ∧ (∀ x, nnB (S' x) = (inL l x || nnB (S x))) ∧ Only (fun j => j = sb) w w' ∧ LeaveOK w' sb d l.length l S S' f cap := by
  have hsbl := hsc.lt
  have his := hsc.is
  by_cases h0 : l.length = 0
  · have hl0 : l = [] := List.eq_nil_of_length_eq_zero h0
    subst hl0
    refine (enterNil_any sb c A w).mono ?_
    rintro e w' ⟨rfl, hx'⟩
    refine ⟨_, _, _, _, S, rfl, hsc.ext hx', hS, fun x => rfl, Only.of_ext hx', enters_of Tryd.func65 (by kernel_rfl) rfl, fun W n _ hs _ => ?_, fun W n _ hs _ => ?_⟩
    · refine (leave1_any W).mono ?_
      rintro e w'' ⟨rfl, rfl⟩
      exact ⟨rfl, hs, Only.rf _ _⟩
    · refine (leave1D_any W).mono ?_
      rintro e u' w'' ⟨rfl, rfl, rfl⟩
      exact ⟨rfl, rfl, hs, Only.rf _ _⟩
  · refine (enter_any sb n A c l S w hr hsc hl hn (by omega) hS).mono ?_
    rintro e w' ⟨rfl, hs', ho, f, hlv⟩
    refine ⟨_, _, _, _, _, rfl, hs', entS_ptr _ _ _ _ hS, fun x => entS_nn _ _ _ _ x, ho, enters_of Tryd.func66 (by kernel_rfl) rfl, fun W n hW hs hn => ?_, fun W n hW hs hn => ?_⟩
    · have := leave2_any _ _ _ _ _ sb n A c l S _ f W (hlv.only d hW (by omega) (by omega) (by omega) (by omega)) (hr.only ((ho.mono (fun j _ h => .inl h)).tr hW) his hdA) hs hl hn
      rw [inL_restore] at this
      exact this
    · have := leave2D_any _ _ _ _ _ sb n A c l S _ f W (hlv.only d hW (by omega) (by omega) (by omega) (by omega)) (hr.only ((ho.mono (fun j _ h => .inl h)).tr hW) his hdA) hs hl hn
      rw [inL_restore] at this
      exact this
end Go.Proofs.YtkdhhcidpklgoaaDoor
