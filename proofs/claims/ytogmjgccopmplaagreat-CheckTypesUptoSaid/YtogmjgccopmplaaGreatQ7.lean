/- free.go: tallies. -/
import Derived.Test.YtogmjgccopmplaaGreatQ6
namespace Go.Proofs.YtogmjgccopmplaaGreat
open Go.RowKit
theorem Only.grown {w w' : World} {b : Nat} (h : w.grownBy w' (some b)) : Only (fun j => j = b) w w' :=
  ⟨h.os, h.tape, h.output, h.size, fun k hk hn => h.block k hk (fun e => hn (by cases e; rfl))⟩
def cntS : List Str → Str → Int
  | [], _ => 0
  | s :: r, k => (if eqS k s then 1 else 0) + cntS r k
theorem cntS_append (m : List Str) (k : Str) : ∀ l, cntS (l ++ m) k = cntS l k + cntS m k
  | [] => by simp [cntS]
  | s :: r => by simp [cntS, cntS_append m k r]; omega
theorem cntS_bounds (k : Str) : ∀ l, 0 ≤ cntS l k ∧ cntS l k ≤ (l.length : Int)
  | [] => by simp [cntS]
  | s :: r => by
    have := cntS_bounds k r
    simp only [cntS, List.length_cons]
    split <;> omega
theorem cntS_zero (k : Str) : ∀ l, cntS l k = 0 ↔ hasS l k = false
  | [] => by simp [cntS, hasS]
  | s :: r => by
    have h := cntS_zero k r
    have b := cntS_bounds k r
    rw [hasS_cons', cntS]
    cases eqS k s
    · simp [h]
    · simp; omega
theorem cntS_step (c : Str → Int) (g : Int) (m : List Str) (s x : Str) : (if eqS x s then c s + g * cntS m s + g else c x + g * cntS m x) = c x + g * cntS (m ++ [s]) x := by
  rw [cntS_append]
  simp only [cntS]
  cases h : eqS x s
  · simp
  · rw [eqS_iff.1 h]; simp [Int.mul_add]; omega
theorem wf64 {c : Int} (h0 : -1000000000000000 ≤ c) (h1 : c ≤ 1000000000000000) : (Lit.int .i64 c).wf = true := by
  simp [Lit.wf, Go.IntKind.min, Go.IntKind.max, Go.IntKind.signed, Go.IntKind.bits]
  omega
abbrev tlV (b f : Nat) : Value := .agg #[.map (some b), .map (some f)]
set_option maxHeartbeats 1000000 in
set_option maxRecDepth 100000 in
theorem newTally_any (w : World) :
    Calls Tryz.prog 79 #[] w fun e w' => e = .returned (tlV (w.heap.size + 1) (w.heap.size + 2)) ∧ CntO Tryz.prog w' (w.heap.size + 1) 0 (fun _ => 0) ∧ SetO Tryz.prog w' (w.heap.size + 2) 0 (fun _ => false) ∧ Ext w w' := by
  have hmm := @run_makeMap Tryz.prog
  go_enter Tryz.func79, Tryz.ntmps79
  go_wp2
  have hm1 := CntO.new (P := Tryz.prog) (w.alloc (.cells #[.map (some (w.heap.size + 1)), .map (some (w.heap.size + 1 + 1))] 130))
  have hm2 := SetO.new (P := Tryz.prog) ((w.alloc (.cells #[.map (some (w.heap.size + 1)), .map (some (w.heap.size + 1 + 1))] 130)).alloc (.map #[] 0))
  have HE : Hid (Ext w (((w.alloc (.cells #[.map (some (w.heap.size + 1)), .map (some (w.heap.size + 1 + 1))] 130)).alloc (.map #[] 0)).alloc (.map #[] 0))) := Ext.al3 _ _ _ _
  have c0 := (Ext.al2 (w.alloc (.cells #[.map (some (w.heap.size + 1)), .map (some (w.heap.size + 1 + 1))] 130)) (.map #[] 0) (.map #[] 0)).keep (newCell w #[.map (some (w.heap.size + 1)), .map (some (w.heap.size + 1 + 1))] 130 0 rfl)
  have c1 := (Ext.al2 (w.alloc (.cells #[.map (some (w.heap.size + 1)), .map (some (w.heap.size + 1 + 1))] 130)) (.map #[] 0) (.map #[] 0)).keep (newCell w #[.map (some (w.heap.size + 1)), .map (some (w.heap.size + 1 + 1))] 130 1 rfl)
  rw [World.size_alloc] at hm1
  rw [World.size_alloc, World.size_alloc] at hm2
  have hm1 := hm1.ext (Ext.al _ (.map #[] 0))
  generalize ((w.alloc _).alloc _).alloc _ = w4 at *
  refine bodyPost_ret (v := tlV (w.heap.size + 1) (w.heap.size + 2)) (by simp [results, go_sem, c0, c1]) rfl ?_
  exact ⟨rfl, hm1, hm2, HE.out⟩
set_option maxHeartbeats 1000000 in
set_option maxRecDepth 100000 in
theorem use_any (b f n m : Nat) (c : Str → Int) (g : Str → Bool) (s : Str) (w : World) (hc : CntO Tryz.prog w b n c) (hg : SetO Tryz.prog w f m g) (hs : s.size ≤ maxLen) (hm : m < maxLen) :
    Calls Tryz.prog 110 #[tlV b f, .string s] w fun e w' => e = .returned (.tuple #[]) ∧ SetO Tryz.prog w' f (m + 1) (fun k => g k || (eqS k s && decide (c s = 0))) ∧ Only (fun j => j = f) w w' := by
  have HE := Lib.hid (Ext.al w (.cells #[.map (some b), .map (some f)] 130))
  have HC := Lib.hid (hc.ext HE.out)
  have HG := Lib.hid (hg.ext HE.out)
  have n0 := newCell w #[.map (some b), .map (some f)] 130 0 rfl
  have n1 := newCell w #[.map (some b), .map (some f)] 130 1 rfl
  clear hc hg
  go_enter Tryz.func110, Tryz.ntmps110
  generalize hw1 : w.alloc (.cells #[.map (some b), .map (some f)] 130) = w1 at *
  have hz : (zeroValue 3).run Tryz.prog w1 = .ok (.int .i64 0) w1 := by kernel_rfl
  have hl := run_lookup_cntO Tryz.underlying3 Tryz.underlying9 128 Tryz.underlying128 HC.out hz hs
  obtain ⟨w4, hu, hs4, hg4, hz4⟩ := run_update_setO Tryz.underlying4 Tryz.underlying9 123 Tryz.underlying123 HG.out hm hs
  have HS4 := Lib.hid hs4; have HG4 := Lib.hid hg4
  clear hs4 hg4 hz4 hz
  by_cases hq : c s = 0
  · have HQ := Lib.hid hq
    rw [hq] at hl
    clear hq
    go_wp2
    refine bodyPost_end (results_none rfl _ _ _) rfl ?_
    refine ⟨rfl, ?_, (Only.of_ext HE.out).tr (Only.grown HG4.out)⟩
    have he : (fun k => g k || (eqS k s && decide (c s = 0))) = (fun k => eqS k s || g k) := by
      funext k; rw [decide_eq_true HQ.out, Bool.and_true, Bool.or_comm]
    rw [he]; exact HS4.out
  · have HQ := Lib.hid hq
    go_wp2
    refine bodyPost_end (results_none rfl _ _ _) rfl ?_
    refine ⟨rfl, ?_, Only.of_ext HE.out⟩
    have he : (fun k => g k || (eqS k s && decide (c s = 0))) = g := by
      funext k; rw [decide_eq_false HQ.out, Bool.and_false, Bool.or_false]
    rw [he]; exact HG.out.mono (Nat.le_succ _)
set_option maxHeartbeats 2000000 in
set_option maxRecDepth 100000 in
theorem enter_any (b f n : Nat) (c : Str → Int) (v : Value) (l : List Str) (w : World) (hr : RStrs w v l) (hc : CntO Tryz.prog w b n c) (hn : n + l.length ≤ 1000000000000) (hb : ∀ k, -1000000000000 ≤ c k ∧ c k ≤ 1000000000000) :
    Calls Tryz.prog 111 #[tlV b f, v] w fun e w' => e = .returned (.tuple #[]) ∧ CntO Tryz.prog w' b (n + l.length) (fun k => c k + 1 * cntS l k) ∧ Only (fun j => j = b) w w' := by
  have HE := Lib.hid (Ext.al w (.cells #[.map (some b), .map (some f)] 130))
  have HC := Lib.hid (hc.ext HE.out)
  have HR := Lib.hid (hr.below HE.out)
  have HB := Lib.hid hb
  have HN := Lib.hid hn
  have n0 := newCell w #[.map (some b), .map (some f)] 130 0 rfl
  have hbl := hc.lt
  obtain ⟨A, cc, rfl, hcc, hm⟩ := hr.form
  unfold maxLen at hm
  clear hc hr hb hn
  go_enter Tryz.func111, Tryz.ntmps111
  go_wp2
  have hz1 : w.heap.size < (w.alloc (.cells #[.map (some b), .map (some f)] 130)).heap.size := by simp
  generalize w.alloc _ = w1 at *
  go_loopw [8] (fun i wr => ∃ (k : Nat), k ≤ l.length ∧ i = .int .i64 k ∧ CntO Tryz.prog wr b (n + k) (fun x => c x + 1 * cntS (l.take k) x) ∧ Only (fun j => j = b) w1 wr) (fun i _ => l.length - (intOf i).toNat)
  case atStart => exact ⟨0, Nat.zero_le _, rfl, by simpa [cntS] using HC.out, Only.rf _ _⟩
  case round =>
    obtain ⟨k, hk, rfl, hc3, ho3⟩ := hrel
    have HC3 := Lib.hid hc3; have HO3 := Lib.hid ho3
    have hkeep : ∀ p u, w1.cell? p = some u → wr.cell? p = some u := fun p u h => by
      have hne := map_ne_cell HC.out.is h
      have hlt : p.block < w1.heap.size := by
        unfold World.cell? at h
        cases hh : w1.heap[p.block]? with
        | none => rw [hh] at h; simp at h
        | some o => exact heap_lt hh
      rw [World.cell?_of_block (ho3.block _ hlt hne)]; exact h
    clear hc3 ho3
    by_cases hlt : k < l.length
    · obtain ⟨bb, o, rfl, hbl2, y0, hsz⟩ := HR.out.at_ hlt
      have y0 := hkeep _ _ y0
      have n0 := hkeep _ _ n0
      have HSTEP := Lib.hid (cntS_step c (1) (l.take k) l[k])
      have HTK : Hid (l.take (k + 1) = l.take k ++ [l[k]]) := (List.take_succ_eq_append_getElem hlt)
      have hbd := cntS_bounds l[k] (l.take k)
      have hbc := HB.out l[k]
      have hll : (l.take k).length ≤ k := by simp; omega
      have hnn := HN.out
      generalize l[k] = s at *
      have hz : (zeroValue 3).run Tryz.prog wr = .ok (.int .i64 0) wr := by kernel_rfl
      have hl := run_lookup_cntO Tryz.underlying3 Tryz.underlying9 128 Tryz.underlying128 HC3.out hz hsz
      have hwf : (Lit.int .i64 (c s + 1 * cntS (l.take k) s + 1)).wf = true := wf64 (by omega) (by omega)
      obtain ⟨w4, hu, hs4, hg4, hz4⟩ := run_update_cntO Tryz.underlying3 Tryz.underlying9 128 Tryz.underlying128 HC3.out (by unfold maxLen; omega) hsz hwf
      have HS4 := Lib.hid hs4
      have HO4 := Lib.hid (HO3.out.tr (Only.grown hg4))
      have hin1 : -1000000000000000 ≤ c s + 1 * cntS (l.take k) s := by omega
      have hin2 : c s + 1 * cntS (l.take k) s ≤ 1000000000000000 := by omega
      generalize hcs : c s + 1 * cntS (l.take k) s = z at *
      clear hs4 hg4 hz4 hz hbd hbc hll hkeep hwf
      go_wp2
      refine ⟨⟨k + 1, by omega, by go_num, ?_, HO4.out⟩, by simp [intOf]; omega⟩
      have he : (fun x => c x + 1 * cntS (l.take (k + 1)) x) = (fun x => if eqS x s then z + 1 else c x + 1 * cntS (l.take k) x) := by
        funext x; rw [HTK.out, ← HSTEP.out x]; try rfl
      rw [he, ← Nat.add_assoc]; exact HS4.out
    · have HK : Hid (l.take k = l) := List.take_of_length_le (by omega)
      have hkl : k = l.length := by omega
      subst hkl
      go_wp2
      refine bodyPost_end (results_none rfl _ _ _) rfl ?_
      refine ⟨rfl, ?_, (Only.of_ext HE.out).tr HO3.out⟩
      have := HC3.out
      rw [HK.out] at this
      exact this
set_option maxHeartbeats 2000000 in
set_option maxRecDepth 100000 in
theorem leave_any (b f n : Nat) (c : Str → Int) (v : Value) (l : List Str) (w : World) (hr : RStrs w v l) (hc : CntO Tryz.prog w b n c) (hn : n + l.length ≤ 1000000000000) (hb : ∀ k, -1000000000000 ≤ c k ∧ c k ≤ 1000000000000) :
    Calls Tryz.prog 112 #[tlV b f, v] w fun e w' => e = .returned (.tuple #[]) ∧ CntO Tryz.prog w' b (n + l.length) (fun k => c k + (-1) * cntS l k) ∧ Only (fun j => j = b) w w' := by
  have HE := Lib.hid (Ext.al w (.cells #[.map (some b), .map (some f)] 130))
  have HC := Lib.hid (hc.ext HE.out)
  have HR := Lib.hid (hr.below HE.out)
  have HB := Lib.hid hb
  have HN := Lib.hid hn
  have n0 := newCell w #[.map (some b), .map (some f)] 130 0 rfl
  have hbl := hc.lt
  obtain ⟨A, cc, rfl, hcc, hm⟩ := hr.form
  unfold maxLen at hm
  clear hc hr hb hn
  go_enter Tryz.func112, Tryz.ntmps112
  go_wp2
  have hz1 : w.heap.size < (w.alloc (.cells #[.map (some b), .map (some f)] 130)).heap.size := by simp
  generalize w.alloc _ = w1 at *
  go_loopw [8] (fun i wr => ∃ (k : Nat), k ≤ l.length ∧ i = .int .i64 k ∧ CntO Tryz.prog wr b (n + k) (fun x => c x + (-1) * cntS (l.take k) x) ∧ Only (fun j => j = b) w1 wr) (fun i _ => l.length - (intOf i).toNat)
  case atStart => exact ⟨0, Nat.zero_le _, rfl, by simpa [cntS] using HC.out, Only.rf _ _⟩
  case round =>
    obtain ⟨k, hk, rfl, hc3, ho3⟩ := hrel
    have HC3 := Lib.hid hc3; have HO3 := Lib.hid ho3
    have hkeep : ∀ p u, w1.cell? p = some u → wr.cell? p = some u := fun p u h => by
      have hne := map_ne_cell HC.out.is h
      have hlt : p.block < w1.heap.size := by
        unfold World.cell? at h
        cases hh : w1.heap[p.block]? with
        | none => rw [hh] at h; simp at h
        | some o => exact heap_lt hh
      rw [World.cell?_of_block (ho3.block _ hlt hne)]; exact h
    clear hc3 ho3
    by_cases hlt : k < l.length
    · obtain ⟨bb, o, rfl, hbl2, y0, hsz⟩ := HR.out.at_ hlt
      have y0 := hkeep _ _ y0
      have n0 := hkeep _ _ n0
      have HSTEP := Lib.hid (cntS_step c ((-1)) (l.take k) l[k])
      have HTK : Hid (l.take (k + 1) = l.take k ++ [l[k]]) := (List.take_succ_eq_append_getElem hlt)
      have hbd := cntS_bounds l[k] (l.take k)
      have hbc := HB.out l[k]
      have hll : (l.take k).length ≤ k := by simp; omega
      have hnn := HN.out
      generalize l[k] = s at *
      have hz : (zeroValue 3).run Tryz.prog wr = .ok (.int .i64 0) wr := by kernel_rfl
      have hl := run_lookup_cntO Tryz.underlying3 Tryz.underlying9 128 Tryz.underlying128 HC3.out hz hsz
      have hwf : (Lit.int .i64 (c s + (-1) * cntS (l.take k) s - 1)).wf = true := wf64 (by omega) (by omega)
      obtain ⟨w4, hu, hs4, hg4, hz4⟩ := run_update_cntO Tryz.underlying3 Tryz.underlying9 128 Tryz.underlying128 HC3.out (by unfold maxLen; omega) hsz hwf
      have HS4 := Lib.hid hs4
      have HO4 := Lib.hid (HO3.out.tr (Only.grown hg4))
      have hin1 : -1000000000000000 ≤ c s + (-1) * cntS (l.take k) s := by omega
      have hin2 : c s + (-1) * cntS (l.take k) s ≤ 1000000000000000 := by omega
      generalize hcs : c s + (-1) * cntS (l.take k) s = z at *
      clear hs4 hg4 hz4 hz hbd hbc hll hkeep hwf
      go_wp2
      refine ⟨⟨k + 1, by omega, by go_num, ?_, HO4.out⟩, by simp [intOf]; omega⟩
      have he : (fun x => c x + (-1) * cntS (l.take (k + 1)) x) = (fun x => if eqS x s then z - 1 else c x + (-1) * cntS (l.take k) x) := by
        funext x; rw [HTK.out, ← HSTEP.out x]; try rfl
      rw [he, ← Nat.add_assoc]; exact HS4.out
    · have HK : Hid (l.take k = l) := List.take_of_length_le (by omega)
      have hkl : k = l.length := by omega
      subst hkl
      go_wp2
      refine bodyPost_end (results_none rfl _ _ _) rfl ?_
      refine ⟨rfl, ?_, (Only.of_ext HE.out).tr HO3.out⟩
      have := HC3.out
      rw [HK.out] at this
      exact this
end Go.Proofs.YtogmjgccopmplaaGreat

/- free.go: the search. -/
namespace Go.Proofs.YtogmjgccopmplaaGreat
open Go.RowKit Go.Shelf
attribute [local go_sem] Oper.semAt_some
mutual
def uT : Tm → Nat
  | .mk op _ nm _ args cls => 1 + (uA op nm 0 args + uC cls)
def uA (op : Int) (nm : Str) : Nat → List Tm → Nat
  | _, [] => 0
  | i, a :: r => 2 * (bndAt op nm i).1.length + uT a + uA op nm (i + 1) r
def uC : List (List Str × Tm) → Nat
  | [] => 0
  | (ns, t) :: r => 2 * ns.length + uT t + uC r
end
def uK : List (Bnd × Tm) → Nat
  | [] => 0
  | x :: r => 2 * x.1.1.length + uT x.2 + uK r
theorem uK_append (k : List (Bnd × Tm)) : ∀ l, uK (l ++ k) = uK l + uK k
  | [] => by simp [uK]
  | x :: r => by simp [uK, uK_append k r]; omega
theorem uA_kids (op : Int) (nm : Str) : ∀ (l : List Tm) (i : Nat), uA op nm i l = uK (kidsFrom op nm i l)
  | [], _ => by simp [uA, kidsFrom, uK]
  | a :: r, i => by simp [uA, kidsFrom, uK, uA_kids op nm r (i + 1)]
theorem uC_kids : ∀ (l : List (List Str × Tm)), uC l = uK (l.map fun c => ((c.1, false), c.2))
  | [] => by simp [uC, uK]
  | (ns, t) :: r => by simp [uC, uK, uC_kids r]
theorem uT_kids (t : Tm) : uT t = 1 + uK (kids t) := by
  cases t with
  | mk op n nm ty args cls => rw [uT, uA_kids op nm args 0, uC_kids, kids, uK_append]; rfl
theorem uK_pre {pre l : List (Bnd × Tm)} {y : Bnd × Tm} (h : pre ++ [y] <+: l) : uK pre + (2 * y.1.1.length + uT y.2) ≤ uK l := by
  obtain ⟨r, rfl⟩ := h
  rw [uK_append, uK_append]
  simp [uK]
abbrev srV (b1 f1 b2 f2 : Nat) : Value := .agg #[.map (some b1), .map (some f1), .map (some b2), .map (some f2)]
/-- The two tallies of a search. -/
structure Tal (w : World) (b1 f1 b2 f2 n : Nat) (c1 : Str → Int) (g1 : Str → Bool) (c2 : Str → Int) (g2 : Str → Bool) : Prop where
  a1 : CntO Tryz.prog w b1 n c1
  s1 : SetO Tryz.prog w f1 n g1
  a2 : CntO Tryz.prog w b2 n c2
  s2 : SetO Tryz.prog w f2 n g2
/-- The four blocks are apart, and above lo. -/
structure Apart (lo b1 f1 b2 f2 : Nat) : Prop where
  h1 : lo ≤ b1
  h2 : lo ≤ f1
  h3 : lo ≤ b2
  h4 : lo ≤ f2
  n12 : b1 ≠ f1
  n13 : b1 ≠ b2
  n14 : b1 ≠ f2
  n23 : f1 ≠ b2
  n24 : f1 ≠ f2
  n34 : b2 ≠ f2
def C4 (b1 f1 b2 f2 : Nat) (j : Nat) : Prop := j = b1 ∨ j = f1 ∨ j = b2 ∨ j = f2
section
variable {w w' : World} {b1 f1 b2 f2 n m lo : Nat} {c1 c2 : Str → Int} {g1 g2 : Str → Bool}
theorem Tal.only (h : Tal w b1 f1 b2 f2 n c1 g1 c2 g2) (ho : Only (fun _ => False) w w') : Tal w' b1 f1 b2 f2 n c1 g1 c2 g2 :=
  ⟨h.a1.block (ho.block _ h.a1.lt (fun e => e)), h.s1.block (ho.block _ h.s1.lt (fun e => e)), h.a2.block (ho.block _ h.a2.lt (fun e => e)), h.s2.block (ho.block _ h.s2.lt (fun e => e))⟩
theorem Tal.ext (h : Tal w b1 f1 b2 f2 n c1 g1 c2 g2) (ho : Ext w w') : Tal w' b1 f1 b2 f2 n c1 g1 c2 g2 := h.only (Only.of_ext ho)
theorem Tal.mono (h : Tal w b1 f1 b2 f2 n c1 g1 c2 g2) (ho : n ≤ m) : Tal w b1 f1 b2 f2 m c1 g1 c2 g2 := ⟨h.a1.mono ho, h.s1.mono ho, h.a2.mono ho, h.s2.mono ho⟩
theorem Tal.lt (h : Tal w b1 f1 b2 f2 n c1 g1 c2 g2) : ∀ j, C4 b1 f1 b2 f2 j → j < w.heap.size := by
  rintro j (rfl | rfl | rfl | rfl)
  · exact h.a1.lt
  · exact h.s1.lt
  · exact h.a2.lt
  · exact h.s2.lt
theorem Tal.is (h : Tal w b1 f1 b2 f2 n c1 g1 c2 g2) : ∀ j, C4 b1 f1 b2 f2 j → ∃ es clock, w.heap[j]? = some (.map es clock) := by
  rintro j (rfl | rfl | rfl | rfl)
  · exact h.a1.is
  · exact h.s1.is
  · exact h.a2.is
  · exact h.s2.is
theorem Tal.setA1 (h : Tal w b1 f1 b2 f2 n c1 g1 c2 g2) (ha : Apart lo b1 f1 b2 f2) {c : Str → Int} (hn : n ≤ m) (hc : CntO Tryz.prog w' b1 m c) (ho : Only (fun j => j = b1) w w') : Tal w' b1 f1 b2 f2 m c g1 c2 g2 :=
  ⟨hc, (h.s1.block (ho.block _ h.s1.lt ha.n12.symm)).mono hn, (h.a2.block (ho.block _ h.a2.lt ha.n13.symm)).mono hn, (h.s2.block (ho.block _ h.s2.lt ha.n14.symm)).mono hn⟩
theorem Tal.setS1 (h : Tal w b1 f1 b2 f2 n c1 g1 c2 g2) (ha : Apart lo b1 f1 b2 f2) {g : Str → Bool} (hn : n ≤ m) (hc : SetO Tryz.prog w' f1 m g) (ho : Only (fun j => j = f1) w w') : Tal w' b1 f1 b2 f2 m c1 g c2 g2 :=
  ⟨(h.a1.block (ho.block _ h.a1.lt ha.n12)).mono hn, hc, (h.a2.block (ho.block _ h.a2.lt ha.n23.symm)).mono hn, (h.s2.block (ho.block _ h.s2.lt ha.n24.symm)).mono hn⟩
theorem Tal.setA2 (h : Tal w b1 f1 b2 f2 n c1 g1 c2 g2) (ha : Apart lo b1 f1 b2 f2) {c : Str → Int} (hn : n ≤ m) (hc : CntO Tryz.prog w' b2 m c) (ho : Only (fun j => j = b2) w w') : Tal w' b1 f1 b2 f2 m c1 g1 c g2 :=
  ⟨(h.a1.block (ho.block _ h.a1.lt ha.n13)).mono hn, (h.s1.block (ho.block _ h.s1.lt ha.n23)).mono hn, hc, (h.s2.block (ho.block _ h.s2.lt ha.n34.symm)).mono hn⟩
theorem Tal.setS2 (h : Tal w b1 f1 b2 f2 n c1 g1 c2 g2) (ha : Apart lo b1 f1 b2 f2) {g : Str → Bool} (hn : n ≤ m) (hc : SetO Tryz.prog w' f2 m g) (ho : Only (fun j => j = f2) w w') : Tal w' b1 f1 b2 f2 m c1 g1 c2 g :=
  ⟨(h.a1.block (ho.block _ h.a1.lt ha.n14)).mono hn, (h.s1.block (ho.block _ h.s1.lt ha.n24)).mono hn, (h.a2.block (ho.block _ h.a2.lt ha.n34)).mono hn, hc⟩
theorem Apart.ge (h : Apart lo b1 f1 b2 f2) : ∀ j, C4 b1 f1 b2 f2 j → lo ≤ j := by
  rintro j (rfl | rfl | rfl | rfl)
  · exact h.h1
  · exact h.h2
  · exact h.h3
  · exact h.h4
end
/-- Cells stay, where only maps turn. -/
theorem cell_only {w w' : World} {C : Nat → Prop} (ho : Only C w w') (hm : ∀ j, C j → ∃ es clock, w.heap[j]? = some (.map es clock)) {p : Addr} {v : Value} (h : w.cell? p = some v) : w'.cell? p = some v := by
  have hlt : p.block < w.heap.size := by
    unfold World.cell? at h
    cases hh : w.heap[p.block]? with
    | none => rw [hh] at h; simp at h
    | some o => exact heap_lt hh
  rw [World.cell?_of_block (ho.block _ hlt (fun hc => map_ne_cell (hm _ hc) h rfl))]; exact h
theorem RStrs.only {w w' : World} {C : Nat → Prop} (ho : Only C w w') (hm : ∀ j, C j → ∃ es clock, w.heap[j]? = some (.map es clock)) {v : Value} {l : List Str} (h : RStrs w v l) : RStrs w' v l := by
  obtain ⟨A, c, e, h1, h2, h3⟩ := h
  refine ⟨A, c, e, h1, h2, fun i a hi => ?_⟩
  obtain ⟨b, o, ha, hb, hc, hs⟩ := h3 i a hi
  exact ⟨b, o, ha, Nat.lt_of_lt_of_le hb ho.size, cell_only ho hm hc, hs⟩
theorem fvK_step (c : Str → Int) (hc : ∀ k, 0 ≤ c k) (ns : List Str) (x : Tm) (k : Str) : (decide (c k + 1 * cntS ns k = 0) && fvT x k) = (decide (c k = 0) && fvK k ((ns, false), x)) := by
  have h := cntS_zero k ns
  have b := cntS_bounds k ns
  have hk := hc k
  have e : fvK k ((ns, false), x) = (!hasS ns k && fvT x k) := rfl
  rw [e]
  cases hh : hasS ns k
  · rw [hh] at h; have := h.2 rfl; simp [this]
  · rw [hh] at h
    have hne : cntS ns k ≠ 0 := fun h' => by have := h.1 h'; cases this
    have : ¬ (c k + 1 * cntS ns k = 0) := by omega
    rw [decide_eq_false this]; simp
theorem flK_step (c : Str → Int) (hc : ∀ k, 0 ≤ c k) (ns : List Str) (x : Tm) (k : Str) : (decide (c k + 1 * cntS ns k = 0) && flT x k) = (decide (c k = 0) && flK k ((ns, true), x)) := by
  have h := cntS_zero k ns
  have b := cntS_bounds k ns
  have hk := hc k
  have e : flK k ((ns, true), x) = (!hasS ns k && flT x k) := rfl
  rw [e]
  cases hh : hasS ns k
  · rw [hh] at h; have := h.2 rfl; simp [this]
  · rw [hh] at h
    have hne : cntS ns k ≠ 0 := fun h' => by have := h.1 h'; cases this
    have : ¬ (c k + 1 * cntS ns k = 0) := by omega
    rw [decide_eq_false this]; simp
theorem fvK_lab (k : Str) (ns : List Str) (x : Tm) : fvK k ((ns, true), x) = fvT x k := by
  show (!hasS [] k && fvT x k) = _; rfl
theorem flK_lab (k : Str) (ns : List Str) (x : Tm) : flK k ((ns, false), x) = flT x k := by
  show (!hasS [] k && flT x k) = _; rfl
end Go.Proofs.YtogmjgccopmplaaGreat

/- valid.go: valid terms. -/
namespace Go.Proofs.YtogmjgccopmplaaGreat
open Go.RowKit Go.Shelf
attribute [local go_sem] Oper.semAt_some
set_option maxHeartbeats 2000000 in
set_option maxRecDepth 100000 in
theorem refersInto_any (v : Value) (m : Nat) (V L : Scp) (k : Nat) (t : Tm) (va vc : Value) (w : World) (h : RSc w v m V L) (ht : RT w k t va vc) :
    Calls Tryz.prog 106 #[v, tV t va vc] w fun e w' => e = .returned (.bool (refB V L t)) ∧ Ext w w' := by
  have HR : Hid (refB V L t = if t.op = 0 then V t.nm else if t.op = 12 then L t.nm else true) := rfl
  obtain ⟨a, b, c, d, f1, f2, f3, f4, rfl, h1, h2, h3, h4, rfl, rfl⟩ := h
  have HE : Hid (Ext w ((w.alloc (.cells #[a, b, c, d] 126)).alloc (.cells #[.int .i64 t.op, .int .i64 t.n, .string t.nm, .int .i64 t.ty, va, vc] 41))) := Ext.al2 _ _ _
  have H1 := Lib.hid (h1.ext HE.out); have H2 := Lib.hid (h2.ext HE.out); have H3 := Lib.hid (h3.ext HE.out); have H4 := Lib.hid (h4.ext HE.out)
  have HNM := Lib.hid ht.form.1.1
  clear h1 h2 h3 h4 ht
  by_cases h0 : t.op = 0
  · have HR2 : Hid (refB _ _ t = (f1 t.nm || f3 t.nm)) := HR.out.trans (if_pos h0)
    go_enter Tryz.func106, Tryz.ntmps106
    go_wp2_with fail
    rw [h0] at HE H1 H3
    generalize (w.alloc _).alloc _ = w1 at *
    (with_reducible refine (hasVar_any a b c d m m f1 f3 t.nm _ H1.out H3.out HNM.out).mono ?_)
    rintro e w2 ⟨rfl, hb⟩
    have HB := Lib.hid hb
    clear hb
    go_wp2
    go_ret
    exact ⟨ret_bool HR2.out.symm, HE.out.tr HB.out⟩
  · by_cases h12 : t.op = 12
    · have HR2 : Hid (refB _ _ t = (f2 t.nm || f4 t.nm)) := (HR.out.trans (if_neg h0)).trans (if_pos h12)
      go_enter Tryz.func106, Tryz.ntmps106
      go_wp2_with fail
      rw [h12] at HE H2 H4
      generalize (w.alloc _).alloc _ = w1 at *
      (with_reducible refine (hasLabel_any a b c d m m f2 f4 t.nm _ H2.out H4.out HNM.out).mono ?_)
      rintro e w2 ⟨rfl, hb⟩
      have HB := Lib.hid hb
      clear hb
      go_wp2
      go_ret
      exact ⟨ret_bool HR2.out.symm, HE.out.tr HB.out⟩
    · have HR2 : Hid (refB _ _ t = true) := (HR.out.trans (if_neg h0)).trans (if_neg h12)
      go_enter Tryz.func106, Tryz.ntmps106
      go_wp2
      go_ret
      exact ⟨ret_bool HR2.out.symm, HE.out⟩
end Go.Proofs.YtogmjgccopmplaaGreat

/- valid.go: valid terms, the recursion. -/
namespace Go.Proofs.YtogmjgccopmplaaGreat
open Go.RowKit Go.Shelf
attribute [local go_sem] Oper.semAt_some
theorem all_pre {α : Type} {f : α → Bool} {l m : List α} (h : l <+: m) (hl : l.all f = false) : m.all f = false := by
  obtain ⟨r, rfl⟩ := h
  rw [List.all_append, hl]; rfl
theorem distinct_is (v : Value) (l : List Str) (q : Bool) (w : World) (h : RStrs w v l) (hq : distB l = q) :
    Calls Tryz.prog 87 #[v] w fun e w' => e = .returned (.bool q) ∧ Ext w w' := by
  subst hq; exact distinct_any v l w h
mutual
def wF (P : Pg) : Tm → Nat
  | .mk op n nm ty args cls => if fitsT P (.mk op n nm ty args cls) then wFA P op nm 0 args + wFC P cls else 0
def wFA (P : Pg) (op : Int) (nm : Str) : Nat → List Tm → Nat
  | _, [] => 0
  | i, a :: r => (bndAt op nm i).1.length + wF P a + wFA P op nm (i + 1) r
def wFC (P : Pg) : List (List Str × Tm) → Nat
  | [] => 0
  | (ns, t) :: r => ns.length + wF P t + wFC P r
end
def wFK (P : Pg) : List (Bnd × Tm) → Nat
  | [] => 0
  | x :: r => x.1.1.length + wF P x.2 + wFK P r
theorem wFK_append (P : Pg) (k : List (Bnd × Tm)) : ∀ l, wFK P (l ++ k) = wFK P l + wFK P k
  | [] => by simp [wFK]
  | x :: r => by simp [wFK, wFK_append P k r]; omega
theorem wFA_kids (P : Pg) (op : Int) (nm : Str) : ∀ (l : List Tm) (i : Nat), wFA P op nm i l = wFK P (kidsFrom op nm i l)
  | [], _ => by simp [wFA, kidsFrom, wFK]
  | a :: r, i => by simp [wFA, kidsFrom, wFK, wFA_kids P op nm r (i + 1)]
theorem wFC_kids (P : Pg) : ∀ (l : List (List Str × Tm)), wFC P l = wFK P (l.map fun c => ((c.1, false), c.2))
  | [] => by simp [wFC, wFK]
  | (ns, t) :: r => by simp [wFC, wFK, wFC_kids P r]
theorem wF_kids {P : Pg} {t : Tm} (h : fitsT P t = true) : wF P t = wFK P (kids t) := by
  cases t with
  | mk op n nm ty args cls => rw [wF, if_pos h, wFA_kids P op nm args 0, wFC_kids, kids, wFK_append]; rfl
theorem wFK_mem {P : Pg} {y : Bnd × Tm} : ∀ {l : List (Bnd × Tm)}, y ∈ l → y.1.1.length + wF P y.2 ≤ wFK P l
  | x :: r, h => by
    rw [wFK]
    rcases List.mem_cons.1 h with rfl | h
    · omega
    · have := wFK_mem (P := P) h; omega
mutual
theorem wF_le (P : Pg) : ∀ t : Tm, wF P t ≤ wT t
  | .mk op n nm ty args cls => by
    have h1 := wFA_le P op nm args 0
    have h2 := wFC_le P cls
    rw [wF, wT]
    split <;> omega
theorem wFA_le (P : Pg) (op : Int) (nm : Str) : ∀ (l : List Tm) (i : Nat), wFA P op nm i l ≤ wA op nm i l
  | [], _ => by simp [wFA, wA]
  | a :: r, i => by
    have h1 := wF_le P a
    have h2 := wFA_le P op nm r (i + 1)
    rw [wFA, wA]; omega
theorem wFC_le (P : Pg) : ∀ (l : List (List Str × Tm)), wFC P l ≤ wC l
  | [] => by simp [wFC, wC]
  | (ns, t) :: r => by
    have h1 := wF_le P t
    have h2 := wFC_le P r
    rw [wFC, wC]; omega
end
theorem validK_eq (P : Pg) (V L : Scp) (y : Bnd × Tm) : validK P V L y = (distB y.1.1 && validT P (addV V y.1) (addL L y.1) y.2) := rfl
set_option maxHeartbeats 8000000 in
set_option maxRecDepth 100000 in
theorem validTerm_any (P : Pg) (vd vf : Value) : ∀ (k : Nat) (t : Tm) (va vc v : Value) (m : Nat) (V L : Scp) (w : World), RT w k t va vc → RDecls w vd P.decls → RFns w vf P.funs → RSc w v m V L → m + wF P t ≤ maxLen →
    Calls Tryz.prog 77 #[pV vd vf, v, tV t va vc] w fun e w' => e = .returned (.bool (validT P V L t)) ∧ Ext w w' := by
  intro k
  induction k with
  | zero => intro t va vc v m V L w ht; exact ht.elim
  | succ k ih =>
    intro t va vc v m V L w ht hd hf hsc hm
    have HT := Lib.hid ht; have HD := Lib.hid hd; have HF := Lib.hid hf; have HSC := Lib.hid hsc; have HM := Lib.hid hm; have HIH := Lib.hid ih
    obtain ⟨_, ⟨Aa, ca, rfl, -, -⟩, ⟨Bb, cb, rfl, -, -⟩⟩ := ht.form
    obtain ⟨a, b, c, d, -, -, -, -, rfl, -⟩ := hsc
    obtain ⟨Ad, cd, rfl, -, -⟩ := hd.form
    obtain ⟨Af, cf, rfl, -, -⟩ := hf.form
    clear ht hd hf hm ih
    have HV := Lib.hid (validT_kids P V L t)
    have HW1 : Hid (Ext w ((((w.alloc (.cells #[.slice Ad P.decls.length cd, .slice Af P.funs.length cf] 25)).alloc (.cells #[a, b, c, d] 126)).alloc (.cells #[.int .i64 t.op, .int .i64 t.n, .string t.nm, .int .i64 t.ty, .slice Aa t.args.length ca, .slice Bb t.cls.length cb] 41)).alloc (.cells #[.bool false] 4))) := (Ext.al3 _ _ _ _).tr (Ext.al _ _)
    have HX3 := Lib.hid (heapFourth w (.cells #[.slice Ad P.decls.length cd, .slice Af P.funs.length cf] 25) (.cells #[a, b, c, d] 126) (.cells #[.int .i64 t.op, .int .i64 t.n, .string t.nm, .int .i64 t.ty, .slice Aa t.args.length ca, .slice Bb t.cls.length cb] 41) (.cells #[.bool false] 4))
    refine callsIn_wide.1 (callsIn_of_wp_marks (n := 0) Tryz.func77 rfl trivial ?_ rfl)
    simp only [Tryz.ntmps77, List.size_toArray, List.length_cons, List.length_nil, Nat.reduceAdd, Nat.reduceSub, Array.replicate_succ, Array.replicate_zero, List.push_toArray, List.append_toArray, List.nil_append, List.cons_append]
    gi_wp2
    generalize ((w.alloc _).alloc _).alloc _ = w0 at *
    generalize w0.alloc _ = w1 at *
    refine ⟨trivial, rfl, ?_⟩
    (with_reducible refine (callsIn_wide.2 (tfits_any _ _ P _ t _ _ _ (HD.out.below HW1.out) (HF.out.below HW1.out) (HT.out.below HW1.out))).mono ?_)
    rintro e w2 ⟨rfl, hb2⟩
    have hkeep : ∀ j o, w1.heap[j]? = some o → w2.heap[j]? = some o := fun j o h => (hb2.block _ (heap_lt h)).trans h
    have b0 := hkeep _ _ HX3.out.1
    have b1 := hkeep _ _ HX3.out.2.1
    have b2 := hkeep _ _ HX3.out.2.2.1
    have b3 := hkeep _ _ HX3.out.2.2.2
    have HE2 := Lib.hid (HW1.out.tr hb2)
    clear hkeep hb2
    have s0 := cellAt b1 0
    have s1 := cellAt b1 1
    have s2 := cellAt b1 2
    have s3 := cellAt b1 3
    obtain ⟨t0, t1, t2, t3, t4, t5⟩ := cells6 b2
    have r0 := cellAt b3 0
    have r1 := frozenAt b3 0
    have B0 := Lib.hid b0; have B1 := Lib.hid b1; have B2 := Lib.hid b2; have B3 := Lib.hid b3
    clear b0 b1 b2 b3
    cases qf : fitsT P t
    · have HR : Hid (validT P V L t = false) := by show validT P V L t = false; rw [HV.out, qf]; rfl
      clear qf
      have e0 := cellAt (box_set B3.out (.bool false)) 0
      gi_wp2
      refine ⟨trivial, ?_⟩
      gi_wp2
      refine ⟨.bool false, by simp [results, go_sem, e0], by rw [HR.out], Below.setNew HE2.out (by omega) _⟩
    · have HQF := Lib.hid qf
      clear qf
      gi_wp2
      refine ⟨trivial, rfl, ?_⟩
      (with_reducible refine (callsIn_wide.2 (refersInto_any _ m V L _ t _ _ _ (HSC.out.ext HE2.out) (HT.out.below HE2.out))).mono ?_)
      rintro e w3 ⟨rfl, hb3⟩
      have b0 := (hb3.block _ (heap_lt B0.out)).trans B0.out
      have b1 := (hb3.block _ (heap_lt B1.out)).trans B1.out
      have b2 := (hb3.block _ (heap_lt B2.out)).trans B2.out
      have b3 := (hb3.block _ (heap_lt B3.out)).trans B3.out
      have HE3 := Lib.hid (HE2.out.tr hb3)
      clear s0 s1 s2 s3 t0 t1 t2 t3 t4 t5 r0 r1 B0 B1 B2 B3 hb3
      obtain ⟨t0, t1, t2, t3, t4, t5⟩ := cells6 b2
      have r0 := cellAt b3 0
      have r1 := frozenAt b3 0
      have B0 := Lib.hid b0; have B1 := Lib.hid b1; have B3 := Lib.hid b3
      have hlt3 := heap_lt b3
      clear b0 b1 b2 b3
      cases qr : refB V L t
      · have HR : Hid (validT P V L t = false) := by show validT P V L t = false; rw [HV.out, qr]; simp
        clear qr
        have e0 := cellAt (box_set B3.out (.bool false)) 0
        gi_wp2
        refine ⟨.bool false, by simp [results, go_sem, e0], by rw [HR.out], Below.setNew HE3.out (by omega) _⟩
      · have HR : Hid (validT P V L t = (kids t).all (validK P V L)) := by rw [HV.out, HQF.out, qr]; rfl
        clear qr
        gi_wp2
        refine ⟨trivial, rfl, ?_⟩
        (with_reducible refine (callsIn_wide.2 (parts_any t _ _ _)).mono ?_)
        rintro e w4 ⟨rfl, rfl⟩
        gi_wp2
        have hg3 := heapNew w3 (.cells #[.int .i64 t.op, .int .i64 t.n, .string t.nm, .int .i64 t.ty, .slice Aa t.args.length ca, .slice Bb t.cls.length cb] 41)
        have hE3 := Ext.al w3 (.cells #[.int .i64 t.op, .int .i64 t.n, .string t.nm, .int .i64 t.ty, .slice Aa t.args.length ca, .slice Bb t.cls.length cb] 41)
        have hz3 : w3.heap.size < (w3.alloc (.cells #[.int .i64 t.op, .int .i64 t.n, .string t.nm, .int .i64 t.ty, .slice Aa t.args.length ca, .slice Bb t.cls.length cb] 41)).heap.size := by simp
        generalize w3.alloc _ = w4 at *
        have HG4 := Lib.hid hg3
        have HE4 := Lib.hid (HE3.out.tr hE3)
        have HIT := Lib.hid (parts_iter (fun j => j = w.heap.size + 1 + 1 + 1) w w4 k t _ _ w3.heap.size HT.out HE4.out (fun j hj => by rw [hj]; omega) hg3 (fun hj => by omega))
        have K0 := Lib.hid ((hE3.block _ (heap_lt B0.out)).trans B0.out)
        have K1 := Lib.hid ((hE3.block _ (heap_lt B1.out)).trans B1.out)
        have K3 := Lib.hid ((hE3.block _ (heap_lt B3.out)).trans B3.out)
        clear hg3 hE3 t0 t1 t2 t3 t4 t5 r0 r1 B0 B1 B3
        refine wpIn_wide.2 (wp_range (C := fun j => j = w.heap.size + 1 + 1 + 1) (L := kids t) (R := RK w k) rfl (enters_of Tryz.func136 (by kernel_rfl) rfl) HIT.out
          (fun j hj => by omega) (fun y vs A h => h.size)
          (fun pre W => pre.all (validK P V L) = true ∧ Ext w W ∧ W.heap[w.heap.size]? = some (.cells #[.slice Ad P.decls.length cd, .slice Af P.funs.length cf] 25 (0, 0)) ∧ W.heap[w.heap.size + 1]? = some (.cells #[a, b, c, d] 126 (0, 0)) ∧ W.heap[w.heap.size + 1 + 1 + 1]? = some (.cells #[.bool false] 4 (0, 0)))
          (fun c W => c = .ret ∧ validT P V L t = false ∧ Ext w W ∧ W.heap[w.heap.size + 1 + 1 + 1]? = some (.cells #[.bool false] 4 (0, 0))) ?hI ?hIx ?h0 ?hround ?hdone ?hstop)
        case hI =>
          rintro pre' A B ⟨h1, h2, h3, h4, h5⟩ hb
          exact ⟨h1, h2.trans (hb.mono (by omega)), (hb.block _ (by omega)).trans h3, (hb.block _ (by omega)).trans h4, (hb.block _ (by omega)).trans h5⟩
        case hIx =>
          rintro c A B ⟨h1, h2, h3, h5⟩ hb
          exact ⟨h1, h2, h3.trans (hb.mono (by omega)), (hb.block _ (by omega)).trans h5⟩
        case h0 => exact ⟨rfl, HE4.out, K0.out, K1.out, K3.out⟩
        case hround =>
          rintro l' pre y vs W hl' hpre ⟨i1, i2, i3, i4, i5⟩ ⟨vn, xa, xc, rfl, hs, hty⟩ hsz
          have HS := Lib.hid hs; have HTY := Lib.hid hty
          obtain ⟨_, ⟨Ax, cx, rfl, -, -⟩, ⟨Bx, dx, rfl, -, -⟩⟩ := hty.form
          obtain ⟨An, cn, rfl, -, -⟩ := hs.form
          have I1 := Lib.hid i1; have I2 := Lib.hid i2; have I3 := Lib.hid i3; have I4 := Lib.hid i4; have I5 := Lib.hid i5
          have HPR := Lib.hid hpre
          clear i1 i2 i3 i4 i5 hs hty hpre
          obtain ⟨⟨ns, lab⟩, x⟩ := y
          dsimp only at *
          gi_wp2
          refine ⟨Ext.al2 _ _ _, fun W2 hT => ?_⟩
          have hz := hsz
          have hE5 := Ext.al2 W (.cells #[.slice An ns.length cn, .bool lab] 168) (.cells #[.int .i64 x.op, .int .i64 x.n, .string x.nm, .int .i64 x.ty, .slice Ax x.args.length cx, .slice Bx x.cls.length dx] 41)
          have hb5 := hT.kept _ _ (((Ext.al _ (.cells #[.int .i64 x.op, .int .i64 x.n, .string x.nm, .int .i64 x.ty, .slice Ax x.args.length cx, .slice Bx x.cls.length dx] 41)).block _ (heap_lt (heapNew W (.cells #[.slice An ns.length cn, .bool lab] 168)))).trans (heapNew W (.cells #[.slice An ns.length cn, .bool lab] 168))) (fun r h => by cases h)
          have hx5 := hT.kept _ _ (heapNew (W.alloc (.cells #[.slice An ns.length cn, .bool lab] 168)) (.cells #[.int .i64 x.op, .int .i64 x.n, .string x.nm, .int .i64 x.ty, .slice Ax x.args.length cx, .slice Bx x.cls.length dx] 41)) (fun r h => by cases h)
          rw [World.size_alloc] at hx5
          have hp5 := hT.kept _ _ ((hE5.block _ (heap_lt I3.out)).trans I3.out) (fun r h => by cases h)
          have hs5 := hT.kept _ _ ((hE5.block _ (heap_lt I4.out)).trans I4.out) (fun r h => by cases h)
          have hr5 := hT.kept _ _ ((hE5.block _ (heap_lt I5.out)).trans I5.out) (fun r h => by cases h)
          have HB5 : Hid (Below w4.heap.size W W2) := (hE5.mono hsz).trans (hT.only.below (B := w4.heap.size) (by simp; omega) (fun k h => by rw [h]; exact hl'))
          have HS5 : Hid (RStrs W2 (.slice An ns.length cn) ns) := by
            obtain ⟨A', c', e', q1, q2, q3⟩ := HS.out.below hE5
            refine ⟨A', c', e', q1, q2, fun i s hi => ?_⟩
            obtain ⟨b', o', e2, q4, q5, q6⟩ := q3 i s hi
            exact ⟨b', o', e2, by rw [hT.size]; exact q4, hT.cell _ _ q5, q6⟩
          have HW5 : Hid (Ext w W2) := I2.out.trans (HB5.out.mono (by omega))
          have HP5 := Lib.hid hp5; have HSX := Lib.hid hs5; have HX5 := Lib.hid hx5; have HBB := Lib.hid hb5; have HR5 := Lib.hid hr5
          have HMK : Hid (ns.length + wF P x ≤ wF P t) := by
            show ns.length + wF P x ≤ wF P t
            rw [wF_kids HQF.out]
            exact wFK_mem (y := ((ns, lab), x)) (HPR.out.subset (List.mem_append_right _ (List.mem_singleton.2 rfl)))
          have HVK := Lib.hid (validK_eq P V L ((ns, lab), x))
          have HPA := Lib.hid (all_pre (f := validK P V L) HPR.out)
          have hmx : Tryz.prog.follows .mixedOrders = true := by kernel_rfl
          clear hE5 hb5 hx5 hp5 hs5 hr5 hT hsz hz hz3 hl' hlt3 HPR K0 K1 K3 HG4 HE4 HIT HE3 HE2 HX3 HW1 HQF HV I3 I4 I5
          have HBAD : Hid (validK P V L ((ns, lab), x) = false → validT P V L t = false) := fun h => by
            rw [HR.out]
            exact HPA.out (by rw [List.all_append, List.all_cons, h]; simp)
          cases hq : distB ns
          · have HQ := Lib.hid hq
            have HV2 : Hid (validT P V L t = false) := HBAD.out (by rw [HVK.out]; show (distB ns && _) = false; rw [HQ.out]; rfl)
            clear hq
            have n0 := cellAt HBB.out 0
            gi_wp2
            gi_region_with_o (first
              | (refine ⟨trivial, rfl, ?_⟩; gi_at_call 87; (with_reducible refine (CallsIn.inRound l' (callsIn_wide.2 (distinct_is _ ns false _ (HS5.out.below (Ext.rf _).drew) HQ.out))).mono ?_); rintro e W6 ⟨rfl, hx6⟩; clear n0; have HX6 : Hid (Ext W2 W6) := Ext.tr (b := W2.drew) (Ext.rf W2).drew hx6; clear hx6)
              | (refine ⟨trivial, ?_⟩))
            all_goals
              have hr := (HX6.out.block _ (heap_lt HR5.out)).trans HR5.out
              have e0 := cellAt hr 0
              have e1 := frozenAt hr 0
              have HRR := Lib.hid hr
              clear hr
              gi_wp2
              exact ⟨(Only.of_ext HX6.out).tr (Only.setCell (C := fun j => j = w.heap.size + 1 + 1 + 1) (p := ⟨w.heap.size + 1 + 1 + 1, 0, none⟩) rfl _ _), rfl, HV2.out, Below.setNew (HW5.out.tr HX6.out) (by omega) _, box_set HRR.out _⟩
          · have HQ := Lib.hid hq
            clear hq
            have n0 := cellAt HBB.out 0
            gi_wp2
            gi_region_with_o (first
              | (refine ⟨trivial, rfl, ?_⟩; gi_at_call 87; (with_reducible refine (CallsIn.inRound l' (callsIn_wide.2 (distinct_is _ ns true _ (HS5.out.below (Ext.rf _).drew) HQ.out))).mono ?_); rintro e W6 ⟨rfl, hx6⟩; clear n0; have HX6 : Hid (Ext W2 W6) := Ext.tr (b := W2.drew) (Ext.rf W2).drew hx6; clear hx6; have n0 := HX6.out.keep (cellAt HBB.out 0); have n1 := HX6.out.keep (cellAt HBB.out 1); have p0 := HX6.out.keep (cellAt HP5.out 0); have p1 := HX6.out.keep (cellAt HP5.out 1); have s0 := HX6.out.keep (cellAt HSX.out 0); have s1 := HX6.out.keep (cellAt HSX.out 1); have s2 := HX6.out.keep (cellAt HSX.out 2); have s3 := HX6.out.keep (cellAt HSX.out 3); have x0 := HX6.out.keep (cellAt HX5.out 0); have x1 := HX6.out.keep (cellAt HX5.out 1); have x2 := HX6.out.keep (cellAt HX5.out 2); have x3 := HX6.out.keep (cellAt HX5.out 3); have x4 := HX6.out.keep (cellAt HX5.out 4); have x5 := HX6.out.keep (cellAt HX5.out 5))
              | (refine ⟨trivial, rfl, ?_⟩; gi_at_call 108; (with_reducible refine (CallsIn.inRound l' (callsIn_wide.2 (inside_any _ _ m V L ns lab _ ((HSC.out.ext HW5.out).ext HX6.out) (HS5.out.below HX6.out) (by have := HMK.out; have := HM.out; omega)))).mono ?_); rintro e W7 ⟨⟨v', rfl, hsc'⟩, hx7⟩; have HX7 : Hid (Ext W2 W7) := HX6.out.tr hx7; have HSC7 := Lib.hid hsc'; clear n0 n1 p0 p1 s0 s1 s2 s3 x0 x1 x2 x3 x4 x5 hsc' hx7; have p0 := HX7.out.keep (cellAt HP5.out 0); have p1 := HX7.out.keep (cellAt HP5.out 1); have x0 := HX7.out.keep (cellAt HX5.out 0); have x1 := HX7.out.keep (cellAt HX5.out 1); have x2 := HX7.out.keep (cellAt HX5.out 2); have x3 := HX7.out.keep (cellAt HX5.out 3); have x4 := HX7.out.keep (cellAt HX5.out 4); have x5 := HX7.out.keep (cellAt HX5.out 5))
              | (refine ⟨trivial, rfl, ?_⟩; gi_at_call 77; (with_reducible refine (CallsIn.inRound l' (callsIn_wide.2 (HIH.out x _ _ v' _ _ _ W7 ((HTY.out.below HW5.out).below HX7.out) ((HD.out.below HW5.out).below HX7.out) ((HF.out.below HW5.out).below HX7.out) HSC7.out (by have := HMK.out; have := HM.out; omega)))).mono ?_); rintro e W8 ⟨rfl, hx8⟩; clear p0 p1 x0 x1 x2 x3 x4 x5; have HX8 : Hid (Ext W2 W8) := HX7.out.tr hx8; clear hx8))
            all_goals
              have hr := (HX8.out.block _ (heap_lt HR5.out)).trans HR5.out
              have e0 := cellAt hr 0
              have e1 := frozenAt hr 0
              have HRR := Lib.hid hr
              clear hr hmx
              cases qv : validT P (addV V (ns, lab)) (addL L (ns, lab)) x
              · have HV2 : Hid (validT P V L t = false) := HBAD.out (by rw [HVK.out]; show (distB ns && validT P (addV V (ns, lab)) (addL L (ns, lab)) x) = false; rw [qv]; simp)
                clear qv
                gi_wp2
                exact ⟨(Only.of_ext HX8.out).tr (Only.setCell (C := fun j => j = w.heap.size + 1 + 1 + 1) (p := ⟨w.heap.size + 1 + 1 + 1, 0, none⟩) rfl _ _), rfl, HV2.out, Below.setNew (HW5.out.tr HX8.out) (by omega) _, box_set HRR.out _⟩
              · have HV2 : Hid (validK P V L ((ns, lab), x) = true) := by
                  show _ = true
                  rw [HVK.out]; show (distB ns && validT P (addV V (ns, lab)) (addL L (ns, lab)) x) = true; rw [qv, HQ.out]; rfl
                clear qv
                gi_wp2
                exact ⟨Only.of_ext HX8.out, by rw [List.all_append, I1.out, List.all_cons, HV2.out]; rfl, HW5.out.tr HX8.out, (HX8.out.block _ (heap_lt HP5.out)).trans HP5.out, (HX8.out.block _ (heap_lt HSX.out)).trans HSX.out, HRR.out⟩
        case hdone =>
          rintro W ⟨h1, h2, h3, h4, h5⟩ hK
          have h0 := cellAt h5 0
          have h0f := frozenAt h5 0
          have H1 := Lib.hid h1; have H2 := Lib.hid h2; have H5 := Lib.hid h5; have HK := Lib.hid hK
          clear h1 h2 h3 h4 h5 hK
          gi_wp2
          have hk2 := (set_other (w := W) (i := 0) (.bool true) (show w4.heap.size ≠ w.heap.size + 1 + 1 + 1 by omega)).trans HK.out
          have s0 := put_cell (box_set H5.out (.bool true)) (show w.heap.size + 1 + 1 + 1 ≠ w4.heap.size by omega) (.deferred none)
          refine ⟨by simp, .inl ⟨_, _, rfl, run_takeDeferred hk2, ?_⟩⟩
          refine ⟨.bool true, by simp [results, go_sem, s0], by rw [HR.out, H1.out], Below.putNew (Below.setNew H2.out (by omega) _) (by omega) _⟩
        case hstop =>
          rintro c W ⟨rfl, h1, h2, h5⟩ hK
          have H1 := Lib.hid h1; have H2 := Lib.hid h2; have H5 := Lib.hid h5; have HK := Lib.hid hK
          have s0 := put_cell h5 (show w.heap.size + 1 + 1 + 1 ≠ w4.heap.size by omega) (.deferred none)
          clear h1 h2 h5 hK
          refine (wpIn_wide (n := 0)).1 ?_
          gi_wp2
          refine ⟨by simp, .inl ⟨_, _, rfl, run_takeDeferred HK.out, ?_⟩⟩
          exact ⟨.bool false, by simp [results, go_sem, s0], by rw [H1.out], Below.putNew H2.out (by omega) _⟩
end Go.Proofs.YtogmjgccopmplaaGreat
