import Derived.Test.YtkdglplfcpindaaGreatDoorQ4
import Derived.Laws.MakeOwn
import Derived.Carry
import Derived.Shelf.RegionOpen
import Derived.LoopNIn
import Derived.LoopIn
set_option maxRecDepth 100000
namespace Go.Proofs.YtkdglplfcpindaaGreatDoor
open Go.RowKit
theorem hNw (w : World) (o : Obj) : (w.alloc o).heap[w.heap.size]? = some o := (MapKept.heap_alloc w o).1
theorem cA {w : World} {b T : Nat} {l : Array Value} (h : w.heap[b]? = some (.cells l T (0, 0))) (i : Nat) {v : Value} (hv : l[i]? = some v := by rfl) : w.cell? ⟨b, i, none⟩ = some v := by
  simp [World.cell?, h, hv]
theorem fA {w : World} {b T : Nat} {l : Array Value} (h : w.heap[b]? = some (.cells l T (0, 0))) (i : Nat) : w.frozen? ⟨b, i, none⟩ = false := by
  simp [World.frozen?, h]
theorem hLt {w : World} {b : Nat} {o : Obj} (h : w.heap[b]? = some o) : b < w.heap.size := (Array.getElem?_eq_some_iff.1 h).1
def SBlk (w : World) (g : Nat) (S : List Str) : Prop := w.heap[g]? = some (.cells ((S.map Value.string).toArray) 9 (0, 0))
section
variable {w w' : World} {g : Nat} {S : List Str}
theorem SBlk.lt (h : SBlk w g S) : g < w.heap.size := (Array.getElem?_eq_some_iff.1 h).1
theorem SBlk.ext (h : SBlk w g S) (hb : Ext w w') : SBlk w' g S := (hb.block g h.lt).trans h
theorem SBlk.cell (h : SBlk w g S) {i : Nat} (hi : i < S.length) : w.cell? ⟨g, i, none⟩ = some (.string S[i]) := by
  unfold SBlk at h
  simp [World.cell?, h, hi]
theorem SBlk.frozen (h : SBlk w g S) (i : Nat) : w.frozen? ⟨g, i, none⟩ = false := by
  unfold SBlk at h
  simp [World.frozen?, h]
theorem SBlk.set (h : SBlk w g S) (i : Nat) (b : Str) : SBlk (w.setCell ⟨g, i, none⟩ (.string b)) g (S.set i b) := by
  unfold SBlk at h ⊢
  simp [World.setCell, Array.getElem?_modify, h]
theorem SBlk.reads (h : SBlk w g S) (hl : S.length <= maxLen) (hs : ∀ s ∈ S, s.size <= maxLen) : RStrs w (.slice (some ⟨g, 0, none⟩) S.length S.length) S :=
  ⟨_, _, rfl, Nat.le_refl _, hl, fun i a hi => by
    obtain ⟨hlt, rfl⟩ := List.getElem?_eq_some_iff.1 hi
    exact ⟨g, 0, rfl, h.lt, by rw [Nat.zero_add]; exact h.cell hlt, hs _ (List.getElem_mem hlt)⟩⟩
theorem SBlk.new (w : World) (S : List Str) : SBlk (w.alloc (.cells ((S.map Value.string).toArray) 9)) w.heap.size S := hNw w _
end
theorem Tryz.info9 : (Tryz.prog.info? 9).map (fun i => (i.zero, i.size, i.bytes)) = some (some (.string ⟨#[]⟩), 1, 16) := by kernel_rfl
theorem made_strs (n : Nat) : madeCells #[Value.string ⟨#[]⟩] n = (((List.replicate n (⟨#[]⟩ : Str)).map Value.string).toArray) := by
  apply Array.ext
  . simp [size_madeCells]
  . intro i h1 h2
    have hz : (#[Value.string ⟨#[]⟩] : Array Value)[0]! = Value.string ⟨#[]⟩ := rfl
    simp [madeCells, Nat.mod_one]
theorem make_strs (w : World) (n : Nat) (h : n <= 1000000) : (Instr.makeSlice 67 (.int .i64 n) (.int .i64 n)).run Tryz.prog w = .ok (.slice (some ⟨w.heap.size, 0, none⟩) n n) (w.alloc (.cells (((List.replicate n (⟨#[]⟩ : Str)).map Value.string).toArray) 9)) := by
  obtain ⟨i0, hi, hz0, hz1, hz2⟩ := info_parts Tryz.info9
  have := run_make w 67 9 i0 (.string ⟨#[]⟩) Tryz.underlying67 hi hz0 .i64 .i64 n n (by omega) (by omega) (by rw [hz2]; omega) (by omega)
  rw [this, hz1]
  simp only [Int.toNat_natCast, Nat.mul_one]
  rw [show (Value.string ⟨#[]⟩).cells = #[Value.string ⟨#[]⟩] from rfl, made_strs]
def upS (l : List Str) (k : Nat) : List Str := l.take k ++ List.replicate (l.length - k) (⟨#[]⟩ : Str)
theorem upS_length {l : List Str} {k : Nat} (h : k <= l.length) : (upS l k).length = l.length := by simp [upS]; omega
theorem upS_step {l : List Str} {k : Nat} (h : k < l.length) : (upS l k).set k l[k] = upS l (k + 1) := by
  unfold upS
  rw [List.set_append]
  have h0 : (l.take k).length = k := by simp; omega
  have h1 : ¬ k < (l.take k).length := by omega
  rw [if_neg h1, List.take_succ_eq_append_getElem h, List.append_assoc]
  congr 1
  have h2 : k - (l.take k).length = 0 := by omega
  rw [h2, show l.length - k = (l.length - (k + 1)) + 1 by omega, List.replicate_succ]
  rfl
theorem upS_zero (l : List Str) : upS l 0 = List.replicate l.length (⟨#[]⟩ : Str) := by simp [upS]
theorem upS_end (l : List Str) : upS l l.length = l := by simp [upS]
set_option maxHeartbeats 2000000 in
theorem funNames_any (v : Value) (l : List Fn) (w : World) (h : RFns w v l) (hl : l.length <= 1000) :
    Calls Tryz.prog 65 #[v] w fun e w' => e = .returned (.slice (some ⟨w.heap.size, 0, none⟩) l.length l.length) /\ SBlk w' w.heap.size (l.map Fn.nm) /\ Ext w w' := by
  have HR := LH h
  obtain ⟨A, c, rfl, hc, hm⟩ := h.form
  clear h
  unfold maxLen at hm
  have hmk := make_strs w l.length (by omega)
  have HN : Hid (SBlk _ _ (List.replicate l.length (⟨#[]⟩ : Str))) := SBlk.new w _
  have HE1 := LH (Ext.al w (.cells (((List.replicate l.length (⟨#[]⟩ : Str)).map Value.string).toArray) 9))
  have HZ : Hid (upS (l.map Fn.nm) 0 = List.replicate l.length (⟨#[]⟩ : Str)) := by show _ = _; rw [upS_zero, List.length_map]
  generalize List.replicate l.length (⟨#[]⟩ : Str) = S0 at *
  go_enter Tryz.func65, Tryz.ntmps65
  go_wp2
  clear hmk
  generalize w.alloc _ = w1 at *
  go_loopw [11] (fun i wr => ∃ k : Nat, k <= l.length /\ i = .int .i64 k /\ SBlk wr w.heap.size (upS (l.map Fn.nm) k) /\ Ext w wr) (fun i _ => l.length - (intOf i).toNat)
  case atStart => exact ⟨0, Nat.zero_le _, rfl, by rw [HZ.out]; exact HN.out, HE1.out⟩
  case round =>
    obtain ⟨k, hk, rfl, hB, hE⟩ := hrel
    have HBk := LH hB; have HEk := LH hE; clear hB hE
    by_cases hlt : k < l.length
    . obtain ⟨b, o, vp, xa, xc, kf, rfl, hbl, y0, y1, y2, yc, y3, y4, y5⟩ := HR.out.at_ hlt
      obtain ⟨Ap, cp, rfl, -, -⟩ := y4.form
      obtain ⟨_, ⟨Aa, ca, rfl, -, -⟩, ⟨Bb, cb, rfl, -, -⟩⟩ := y5.form
      have y0 := HEk.out.keep y0
      have y1 := HEk.out.keep y1
      have y2 := HEk.out.keep y2
      have c0 := HEk.out.keep yc.c0
      have c1 := HEk.out.keep yc.c1
      have c2 := HEk.out.keep yc.c2
      have c3 := HEk.out.keep yc.c3
      have c4 := HEk.out.keep yc.c4
      have c5 := HEk.out.keep yc.c5
      clear yc y4 y5
      have HS : Hid ((upS (l.map Fn.nm) k).set k l[k].nm = upS (l.map Fn.nm) (k + 1)) := by
        have := upS_step (l := l.map Fn.nm) (k := k) (by simpa using hlt)
        rw [List.getElem_map] at this; exact this
      have HL : Hid (k < (upS (l.map Fn.nm) k).length) := by show k < _; rw [upS_length (by simpa using hk), List.length_map]; exact hlt
      generalize l[k] = f at *
      generalize hS : upS (l.map Fn.nm) k = S at *
      clear hS
      have hne := HBk.out.lt
      have hE2 := Ext.al wr (Obj.cells #[.string f.nm, .slice Ap f.ps.length cp, .int .i64 f.res, .int .i64 f.body.op, .int .i64 f.body.n, .string f.body.nm, .int .i64 f.body.ty, .slice Aa f.body.args.length ca, .slice Bb f.body.cls.length cb] 52)
      have n0 := newCell wr #[.string f.nm, .slice Ap f.ps.length cp, .int .i64 f.res, .int .i64 f.body.op, .int .i64 f.body.n, .string f.body.nm, .int .i64 f.body.ty, .slice Aa f.body.args.length ca, .slice Bb f.body.cls.length cb] 52 0 rfl
      have HB2 := LH (HBk.out.ext hE2)
      have hcell := HB2.out.cell HL.out
      have hfz := HB2.out.frozen k
      have HE2 := LH (HEk.out.tr hE2)
      clear hE2
      go_wp2
      go_roundw
      case rel => exact ⟨k + 1, by omega, by go_num, by rw [← HS.out]; exact (HBk.out.set k _).ext (Ext.al _ _), Ext.tr (Below.setCell HEk.out (p := ⟨w.heap.size, k, none⟩) (Nat.le_refl _) _) (Ext.al _ _)⟩
      case measure => simp [intOf]; omega
    . have HK : Hid (k = (l.map Fn.nm).length) := by show k = _; rw [List.length_map]; omega
      go_wp2
      go_ret
      refine ⟨rfl, ?_, HEk.out⟩
      have := HBk.out
      rw [HK.out, upS_end] at this
      exact this
set_option maxHeartbeats 2000000 in
theorem paramNames_any (v : Value) (l : List Prm) (w : World) (h : RPrms w v l) (hl : l.length <= 1000) :
    Calls Tryz.prog 106 #[v] w fun e w' => e = .returned (.slice (some ⟨w.heap.size, 0, none⟩) l.length l.length) /\ SBlk w' w.heap.size (l.map Prm.nm) /\ Ext w w' := by
  have HR := LH h
  obtain ⟨A, c, rfl, hc, hm⟩ := h.form
  clear h
  unfold maxLen at hm
  have hmk := make_strs w l.length (by omega)
  have HN : Hid (SBlk _ _ (List.replicate l.length (⟨#[]⟩ : Str))) := SBlk.new w _
  have HE1 := LH (Ext.al w (.cells (((List.replicate l.length (⟨#[]⟩ : Str)).map Value.string).toArray) 9))
  have HZ : Hid (upS (l.map Prm.nm) 0 = List.replicate l.length (⟨#[]⟩ : Str)) := by show _ = _; rw [upS_zero, List.length_map]
  generalize List.replicate l.length (⟨#[]⟩ : Str) = S0 at *
  go_enter Tryz.func106, Tryz.ntmps106
  go_wp2
  clear hmk
  generalize w.alloc _ = w1 at *
  go_loopw [11] (fun i wr => ∃ k : Nat, k <= l.length /\ i = .int .i64 k /\ SBlk wr w.heap.size (upS (l.map Prm.nm) k) /\ Ext w wr) (fun i _ => l.length - (intOf i).toNat)
  case atStart => exact ⟨0, Nat.zero_le _, rfl, by rw [HZ.out]; exact HN.out, HE1.out⟩
  case round =>
    obtain ⟨k, hk, rfl, hB, hE⟩ := hrel
    have HBk := LH hB; have HEk := LH hE; clear hB hE
    by_cases hlt : k < l.length
    . obtain ⟨b, o, rfl, hbl, y0, y1, y2⟩ := HR.out.at_ hlt
      have y0 := HEk.out.keep y0
      have y1 := HEk.out.keep y1
      clear y2
      have HS : Hid ((upS (l.map Prm.nm) k).set k l[k].nm = upS (l.map Prm.nm) (k + 1)) := by
        have := upS_step (l := l.map Prm.nm) (k := k) (by simpa using hlt)
        rw [List.getElem_map] at this; exact this
      have HL : Hid (k < (upS (l.map Prm.nm) k).length) := by show k < _; rw [upS_length (by simpa using hk), List.length_map]; exact hlt
      generalize l[k] = f at *
      generalize hS : upS (l.map Prm.nm) k = S at *
      clear hS
      have hne := HBk.out.lt
      have hE2 := Ext.al wr (Obj.cells #[.string f.nm, .int .i64 f.ty] 69)
      have n0 := newCell wr #[.string f.nm, .int .i64 f.ty] 69 0 rfl
      have HB2 := LH (HBk.out.ext hE2)
      have hcell := HB2.out.cell HL.out
      have hfz := HB2.out.frozen k
      have HE2 := LH (HEk.out.tr hE2)
      clear hE2
      go_wp2
      go_roundw
      case rel => exact ⟨k + 1, by omega, by go_num, by rw [← HS.out]; exact (HBk.out.set k _).ext (Ext.al _ _), Ext.tr (Below.setCell HEk.out (p := ⟨w.heap.size, k, none⟩) (Nat.le_refl _) _) (Ext.al _ _)⟩
      case measure => simp [intOf]; omega
    . have HK : Hid (k = (l.map Prm.nm).length) := by show k = _; rw [List.length_map]; omega
      go_wp2
      go_ret
      refine ⟨rfl, ?_, HEk.out⟩
      have := HBk.out
      rw [HK.out, upS_end] at this
      exact this
end Go.Proofs.YtkdglplfcpindaaGreatDoor

namespace Go.Proofs.YtkdglplfcpindaaGreatDoor
open Go.RowKit
theorem distF_cons (f : Str -> Bool) (s : Str) (r : List Str) : distF f (s :: r) = (nameB s && !f s && distF (fun x => eqS x s || f x) r) := rfl
set_option maxHeartbeats 2000000 in
theorem distinct_any (v : Value) (l : List Str) (w : World) (h : RStrs w v l) :
    Calls Tryz.prog 64 #[v] w fun e w' => e = .returned (.bool (distB l)) /\ Ext w w' := by
  have HD : Hid (distB l = distF (fun _ => false) l) := rfl
  generalize distB l = rr at *
  have HE := LH (Ext.al w (Obj.map #[] 0))
  have HR := LH h
  have HS : Hid (SetO Tryz.prog (w.alloc (Obj.map #[] 0)) w.heap.size 0 (fun _ => false)) := SetO.new w
  obtain ⟨A, c, rfl, hc, hm⟩ := h.form
  clear h
  unfold maxLen at hm
  have hmm := @run_makeMap Tryz.prog
  go_enter Tryz.func64, Tryz.ntmps64
  go_wp2
  generalize w.alloc _ = w1 at *
  go_loopw [9] (fun i wr => ∃ (k : Nat) (f : Str -> Bool), k <= l.length /\ i = .int .i64 k /\ SetO Tryz.prog wr w.heap.size k f /\ Ext w wr /\ rr = distF f (l.drop k)) (fun i _ => l.length - (intOf i).toNat)
  case atStart => exact ⟨0, _, Nat.zero_le _, rfl, HS.out, HE.out, HD.out⟩
  case round =>
    obtain ⟨k, f, hk, rfl, hs3, hb, hno⟩ := hrel
    have HN := LH hno; have HB := LH hb; have HS3 := LH hs3; clear hno hb hs3
    by_cases hlt : k < l.length
    . obtain ⟨b, o, rfl, hbl, y0, hsz⟩ := HR.out.at_ hlt
      have y0 := HB.out.keep y0
      have HDk := LH (dS hlt)
      have HSZ := LH hsz
      generalize l[k] = s at *
      have hz : (zeroValue 4).run Tryz.prog wr = .ok (.bool false) wr := by kernel_rfl
      have hl := run_lookup_setO Tryz.underlying4 Tryz.underlying9 189 Tryz.underlying189 HS3.out hz HSZ.out
      obtain ⟨w4, hu, hs4, hg4, hz4⟩ := run_update_setO Tryz.underlying4 Tryz.underlying9 189 Tryz.underlying189 HS3.out (by unfold maxLen; omega) HSZ.out
      have HS4 := LH hs4
      have HE4 := LH (Below.grown HB.out hg4 HB.out.size (fun j e => by cases e; exact Nat.le_refl _))
      clear hs4 hg4 hz4 hz hsz
      have HF : Hid (∀ q, f s = q -> rr = (nameB s && !q && distF (fun x => eqS x s || f x) (l.drop (k + 1)))) := fun q e => by rw [← e, HN.out, HDk.out, distF_cons]
      clear HN HDk HD
      cases hq : f s
      all_goals
        rw [hq] at hl
        have HQ := LH (HF.out _ hq)
        clear hq HF
        go_wp2_with (go_at_call 103; (with_reducible refine (Plain_any _ _ HSZ.out).mono ?_); rintro e w' ⟨rfl, rfl⟩)
        all_goals first
          | (go_ret; exact ⟨rB (by rw [HQ.out]; simp_all), HB.out⟩)
          | (go_roundw
             case rel => exact ⟨k + 1, _, by omega, by go_num, HS4.out, HE4.out, by rw [HQ.out]; simp_all⟩
             case measure => simp [intOf]; omega)
    . have HK := LH (drop_end hlt)
      go_wp2
      go_ret
      exact ⟨rB (by rw [HN.out, HK.out]; rfl), HB.out⟩
set_option maxHeartbeats 2000000 in
theorem newNameSet_any (v : Value) (l : List Str) (w : World) (h : RStrs w v l) :
    Calls Tryz.prog 135 #[v] w fun e w' => e = .returned (.map (some w.heap.size)) /\ SetO Tryz.prog w' w.heap.size l.length (hasS l) /\ Ext w w' := by
  have HE := LH (Ext.al w (Obj.map #[] 0))
  have HR := LH h
  have HS : Hid (SetO Tryz.prog (w.alloc (Obj.map #[] 0)) w.heap.size 0 (fun _ => false)) := SetO.new w
  obtain ⟨A, c, rfl, hc, hm⟩ := h.form
  clear h
  unfold maxLen at hm
  have hmm := @run_makeMap Tryz.prog
  go_enter Tryz.func135, Tryz.ntmps135
  go_wp2
  generalize w.alloc _ = w1 at *
  go_loopw [9] (fun i wr => ∃ (k : Nat) (f : Str -> Bool), k <= l.length /\ i = .int .i64 k /\ SetO Tryz.prog wr w.heap.size k f /\ Ext w wr /\ ∀ x, hasS l x = (f x || hasS (l.drop k) x)) (fun i _ => l.length - (intOf i).toNat)
  case atStart => exact ⟨0, _, Nat.zero_le _, rfl, HS.out, HE.out, fun x => by simp⟩
  case round =>
    obtain ⟨k, f, hk, rfl, hs3, hb, hno⟩ := hrel
    have HN := LH hno; have HB := LH hb; have HS3 := LH hs3; clear hno hb hs3
    by_cases hlt : k < l.length
    . obtain ⟨b, o, rfl, hbl, y0, hsz⟩ := HR.out.at_ hlt
      have y0 := HB.out.keep y0
      have HDk := LH (dS hlt)
      have HSZ := LH hsz
      generalize l[k] = s at *
      obtain ⟨w4, hu, hs4, hg4, hz4⟩ := run_update_setO Tryz.underlying4 Tryz.underlying9 192 Tryz.underlying192 HS3.out (by unfold maxLen; omega) HSZ.out
      have HS4 := LH hs4
      have HE4 := LH (Below.grown HB.out hg4 HB.out.size (fun j e => by cases e; exact Nat.le_refl _))
      clear hs4 hg4 hz4 hsz
      go_wp2
      go_roundw
      case rel => exact ⟨k + 1, _, by omega, by go_num, HS4.out, HE4.out, fun x => by rw [HN.out x, HDk.out, hasS_cons']; cases f x <;> cases eqS x s <;> rfl⟩
      case measure => simp [intOf]; omega
    . have HK := LH (drop_end hlt)
      have HL : Hid (k = l.length) := by show k = _; omega
      have HF : Hid (f = hasS l) := by
        show f = _
        funext x
        rw [HN.out x, HK.out]; simp [hasS]
      go_wp2
      go_ret
      refine ⟨rfl, ?_, HB.out⟩
      have := HS3.out
      rw [HF.out, HL.out] at this
      exact this
theorem isMain_any (f : Fn) (vp xa xc : Value) (w : World) (h : RPrms w vp f.ps) :
    Calls Tryz.prog 66 #[fV f vp xa xc] w fun e w' => e = .returned (.bool (mainB f)) /\ Ext w w' := by
  have HM : Hid (mainB f = (f.ps.all (fun a => decide (a.ty = 0)) && decide (f.res = 0))) := rfl
  generalize mainB f = rr at *
  have HR := LH h
  obtain ⟨A, c, rfl, hc, hm⟩ := h.form
  clear h
  unfold maxLen at hm
  have HE := LH (Ext.al w (.cells #[.string f.nm, .slice A f.ps.length c, .int .i64 f.res, .int .i64 f.body.op, .int .i64 f.body.n, .string f.body.nm, .int .i64 f.body.ty, xa, xc] 52))
  have n2 := newCell w #[.string f.nm, .slice A f.ps.length c, .int .i64 f.res, .int .i64 f.body.op, .int .i64 f.body.n, .string f.body.nm, .int .i64 f.body.ty, xa, xc] 52 2 rfl
  go_enter Tryz.func66, Tryz.ntmps66
  go_wp2
  generalize w.alloc _ = w1 at *
  have N2 := LH n2; clear n2
  go_loopw [8] (fun i wr => ∃ k : Nat, k <= f.ps.length /\ i = .int .i64 k /\ Ext w wr /\ wr.cell? ⟨w.heap.size, 2, none⟩ = some (.int .i64 f.res) /\ rr = ((f.ps.drop k).all (fun a => decide (a.ty = 0)) && decide (f.res = 0))) (fun i _ => f.ps.length - (intOf i).toNat)
  case atStart => exact ⟨0, Nat.zero_le _, rfl, HE.out, N2.out, by rw [HM.out]; simp⟩
  case round =>
    obtain ⟨k, hk, rfl, hb, hc2, hno⟩ := hrel
    have HN := LH hno; have HB := LH hb; clear hno hb
    by_cases hlt : k < f.ps.length
    . obtain ⟨b, o, rfl, hbl, y0, y1, y2⟩ := HR.out.at_ hlt
      have y0 := HB.out.keep y0
      have y1 := HB.out.keep y1
      have HDk := LH (dS hlt)
      clear y2
      generalize f.ps[k] = a at *
      have hE2 := Ext.al wr (.cells #[.string a.nm, .int .i64 a.ty] 69)
      have HC2 := LH (hE2.keep hc2)
      have HE2 := LH (HB.out.tr hE2)
      clear hE2
      go_wp2
      . have q : (a.ty != 0) = true := by assumption
        go_ret
        exact ⟨rB (by rw [HN.out, HDk.out]; simp at q; simp [q]), HE2.out⟩
      . have q : (a.ty != 0) = false := by assumption
        go_roundw
        case rel => exact ⟨k + 1, by omega, by go_num, HE2.out, HC2.out, by rw [HN.out, HDk.out]; simp at q; simp [q]⟩
        case measure => simp [intOf]; omega
    . have HK := LH (drop_end hlt)
      go_wp2
      go_ret
      exact ⟨rB (by rw [HN.out, HK.out]; apply Bool.eq_iff_iff.2; simp), HB.out⟩
end Go.Proofs.YtkdglplfcpindaaGreatDoor

namespace Go.Proofs.YtkdglplfcpindaaGreatDoor
open Go.RowKit Go.Maps Go.WideMaps Go.Shelf Go.Sort
def SetV (w : World) (v : Value) (n : Nat) (f : Str -> Bool) : Prop := (v = .map none /\ f = fun _ => false) ∨ ∃ b, v = .map (some b) /\ SetO Tryz.prog w b n f
theorem SetV.ext {w w' : World} {v : Value} {n : Nat} {f : Str -> Bool} (h : SetV w v n f) (hb : Ext w w') : SetV w' v n f := by
  rcases h with h | ⟨b, rfl, h⟩
  . exact .inl h
  . exact .inr ⟨b, rfl, h.ext hb⟩
theorem SetV.mono {w : World} {v : Value} {n m : Nat} {f : Str -> Bool} (h : SetV w v n f) (hm : n <= m) : SetV w v m f := by
  rcases h with h | ⟨b, rfl, h⟩
  . exact .inl h
  . exact .inr ⟨b, rfl, h.mono hm⟩
theorem SetV.form {w : World} {v : Value} {n : Nat} {f : Str -> Bool} (h : SetV w v n f) : ∃ p, v = .map p := by
  rcases h with ⟨rfl, _⟩ | ⟨b, rfl, _⟩ <;> exact ⟨_, rfl⟩
theorem SetV.look {w : World} {p : Option Nat} {n : Nat} {f : Str -> Bool} (h : SetV w (.map p) n f) (t : TypeId) (ht : Tryz.prog.underlying t = some (.map 9 4)) {k : Str} (hk : k.size <= maxLen) :
    (Instr.lookup t (.map p) (.string k) false).run Tryz.prog w = .ok (.bool (f k)) w := by
  have hz : (zeroValue 4).run Tryz.prog w = .ok (.bool false) w := by kernel_rfl
  rcases h with ⟨h, rfl⟩ | ⟨b, h, hs⟩
  . cases h; exact run_lookup_set_none Tryz.underlying9 t ht hz hk
  . cases h; exact run_lookup_setO Tryz.underlying4 Tryz.underlying9 t ht hs hz hk
theorem canon_keys {D : DataW Unit} {w : World} {b n : Nat} {R : Value -> Option (DataW Unit × List MemPlace)} (h : w.ownsMap Tryz.prog 9 R b n D) : ∃ es, D = .map es /\ es.Pairwise (fun p q => p.1 ≠ q.1) /\ ∀ p ∈ es, ∃ s : Str, p.1 = kS s := by
  obtain ⟨es, rfl, h1, h2⟩ := h.canonK (string_keyed Tryz.underlying9)
  refine ⟨es, rfl, apart_of_rising h1, fun p hp => ?_⟩
  obtain ⟨v, hv⟩ := h2 p hp
  obtain ⟨s, _, e, _⟩ := string_of_keyOf Tryz.underlying9 hv
  exact ⟨s, e⟩
theorem size_own {D : DataW Unit} {w : World} {b n : Nat} {k : TypeId} {R : Value -> Option (DataW Unit × List MemPlace)} (h : w.ownsMap Tryz.prog k R b n D) : size D <= n := h.size_le
theorem copy_has {D E : DataW Unit} {w : World} {b c n m : Nat} {R : Value -> Option (DataW Unit × List MemPlace)} (hD : w.ownsMap Tryz.prog 9 R b n D) (hE : w.ownsMap Tryz.prog 9 R c m E) (kl : Lit) : has (Lib.mergeD D E) kl = (has D kl || has E kl) := by
  obtain ⟨es, rfl, _, h2⟩ := canon_keys hE
  exact has_foldPut kl es D hD.isMap (fun p hp => by obtain ⟨s, e⟩ := h2 p hp; rw [e]; trivial)
theorem copy_at {D E : DataW Unit} {w : World} {b c n m : Nat} {R : Value -> Option (DataW Unit × List MemPlace)} (hD : w.ownsMap Tryz.prog 9 R b n D) (hE : w.ownsMap Tryz.prog 9 R c m E) (kl : Lit) (z : DataW Unit) : (Lib.mergeD D E).atKey kl z = if has E kl then E.atKey kl z else D.atKey kl z := by
  obtain ⟨es, rfl, h1, h2⟩ := canon_keys hE
  refine (atKey_foldPut kl z es D hD.isMap (fun p hp => by obtain ⟨s, e⟩ := h2 p hp; rw [e]; trivial) h1).trans ?_
  rw [has_eq]
  cases hf : es.find? (fun p => p.1.sameKey kl) with
  | none =>
    have : es.any (fun p => p.1.sameKey kl) = false := by
      rw [List.any_eq_false]; exact fun p hp => List.find?_eq_none.1 hf p hp
    rw [this]; rfl
  | some p =>
    have : es.any (fun p => p.1.sameKey kl) = true := by
      rw [List.any_eq_true]; exact ⟨p, List.mem_of_find?_eq_some hf, by simpa using List.find?_some hf⟩
    rw [this]
    simp [DataW.atKey, hf]
theorem Copy_any (b n : Nat) (p : Option Nat) (m : Nat) (f g : Str -> Bool) (w : World) (h : SetO Tryz.prog w b n f) (hg : SetV w (.map p) m g) (hne : p ≠ some b) (hroom : n + m <= maxLen) :
    Calls Tryz.prog 168 #[.map (some b), .map p] w fun e w' => e = .returned (.tuple #[]) /\ SetO Tryz.prog w' b (n + m) (fun k => f k || g k) /\ w.grownBy w' (some b) := by
  obtain ⟨D, hD, hf, hT⟩ := h
  rcases hg with ⟨hp, rfl⟩ | ⟨c, hp, E, hE, hg, hS⟩
  . cases hp
    refine (AnyX.maps_Copy_opt Tryz.copy122 (string_keyed Tryz.underlying9) (plainElem Tryz.prog 4) b n none D .nil w hD (.inl ⟨rfl, rfl⟩) hne (by show n + 0 <= _; omega)).mono fun e w' ⟨he, h1, h2⟩ => ⟨he, ⟨D, h1.mono (by show n + 0 <= _; omega), fun k => by rw [hf]; simp, hT⟩, h2⟩
  . cases hp
    have hsz := size_own hE
    refine (AnyX.maps_Copy_opt Tryz.copy122 (string_keyed Tryz.underlying9) (plainElem Tryz.prog 4) b n (some c) D E w hD (.inr ⟨c, m, rfl, hE⟩) hne (by omega)).mono fun e w' ⟨he, h1, h2⟩ => ⟨he, ⟨_, h1.mono (by omega), fun k => by rw [copy_has hD hE, hf, hg], fun kl z hk => ?_⟩, h2⟩
    rw [copy_has hD hE] at hk
    rw [copy_at hD hE]
    cases he : has E kl
    . rw [he, Bool.or_false] at hk
      exact hT _ _ hk
    . exact hS _ _ he
end Go.Proofs.YtkdglplfcpindaaGreatDoor

namespace Go.Proofs.YtkdglplfcpindaaGreatDoor
open Go.RowKit
abbrev sV (a b c d : Value) : Value := .agg #[a, b, c, d]
set_option maxHeartbeats 1000000 in
theorem with_any (p : Option Nat) (m : Nat) (g : Str -> Bool) (v : Value) (l : List Str) (w : World) (h : RStrs w v l) (hg : SetV w (.map p) m g) (hroom : l.length + m <= maxLen) :
    Calls Tryz.prog 158 #[.map p, v] w fun e w' => (∃ b, e = .returned (.map (some b)) /\ SetO Tryz.prog w' b (l.length + m) (fun k => hasS l k || g k)) /\ Ext w w' := by
  have HG := LH hg
  have HR := LH h
  have HM := LH hroom
  have hp : ∀ q, p = some q -> q < w.heap.size := fun q e => by
    subst e
    rcases HG.out with ⟨h, _⟩ | ⟨b, h, hs⟩
    . cases h
    . cases h; exact hs.lt
  have HP := LH hp
  clear hg h hroom hp
  go_enter Tryz.func158, Tryz.ntmps158
  go_wp2_with fail
  (with_reducible refine (newNameSet_any v l w HR.out).mono ?_)
  rintro e w2 ⟨rfl, hs, hb⟩
  have HS := LH hs; have HB := LH hb; clear hs hb
  have HNE : Hid (p ≠ some w.heap.size) := fun e => by have := HP.out _ e; omega
  go_wp2_with fail
  (with_reducible refine (Copy_any _ _ p m _ g w2 HS.out (HG.out.ext HB.out) HNE.out HM.out).mono ?_)
  rintro e w3 ⟨rfl, hs, hg⟩
  have HS3 := LH hs
  have HB3 := LH (Below.grown HB.out hg HB.out.size (fun j e => by cases e; exact Nat.le_refl _))
  clear hs hg
  go_wp2
  go_ret
  exact ⟨⟨_, rfl, HS3.out⟩, HB3.out⟩
theorem hasVar_any (a b c d : Value) (n m : Nat) (f g : Str -> Bool) (k : Str) (w : World) (ha : SetV w a n f) (hc : SetV w c m g) (hk : k.size <= maxLen) :
    Calls Tryz.prog 154 #[sV a b c d, .string k] w fun e w' => e = .returned (.bool (f k || g k)) /\ Ext w w' := by
  have HE := LH (Ext.al w (.cells #[a, b, c, d] 194))
  obtain ⟨p, rfl⟩ := ha.form
  obtain ⟨q, rfl⟩ := hc.form
  have hl1 := (ha.ext HE.out).look 192 Tryz.underlying192 hk
  have hl2 := (hc.ext HE.out).look 192 Tryz.underlying192 hk
  clear ha hc
  have n0 := newCell w #[.map p, b, .map q, d] 194 0 rfl
  have n2 := newCell w #[.map p, b, .map q, d] 194 2 rfl
  go_enter Tryz.func154, Tryz.ntmps154
  cases hq : f k
  all_goals
    rw [hq] at hl1
    have HQ := LH hq
    clear hq
    go_wp2
    go_ret
    exact ⟨rB (by simp), HE.out⟩
theorem hasLabel_any (a b c d : Value) (n m : Nat) (f g : Str -> Bool) (k : Str) (w : World) (hb : SetV w b n f) (hd : SetV w d m g) (hk : k.size <= maxLen) :
    Calls Tryz.prog 155 #[sV a b c d, .string k] w fun e w' => e = .returned (.bool (f k || g k)) /\ Ext w w' := by
  have HE := LH (Ext.al w (.cells #[a, b, c, d] 194))
  obtain ⟨p, rfl⟩ := hb.form
  obtain ⟨q, rfl⟩ := hd.form
  have hl1 := (hb.ext HE.out).look 192 Tryz.underlying192 hk
  have hl2 := (hd.ext HE.out).look 192 Tryz.underlying192 hk
  clear hb hd
  have n1 := newCell w #[a, .map p, c, .map q] 194 1 rfl
  have n3 := newCell w #[a, .map p, c, .map q] 194 3 rfl
  go_enter Tryz.func155, Tryz.ntmps155
  cases hq : f k
  all_goals
    rw [hq] at hl1
    have HQ := LH hq
    clear hq
    go_wp2
    go_ret
    exact ⟨rB (by simp), HE.out⟩
end Go.Proofs.YtkdglplfcpindaaGreatDoor

namespace Go.Proofs.YtkdglplfcpindaaGreatDoor
open Go.RowKit
abbrev bV (vn : Value) (b : Bool) : Value := .agg #[vn, .bool b]
theorem RStrs.nil (w : World) : RStrs w (.slice none 0 0) [] := ⟨none, 0, rfl, Nat.le_refl _, Nat.zero_le _, fun i s h => by simp at h⟩
theorem RStrs.one {w : World} {b : Nat} {s : Str} (h : w.heap[b]? = some (.cells #[.string s] 9 (0, 0))) (hs : s.size <= maxLen) : RStrs w (.slice (some ⟨b, 0, none⟩) 1 1) [s] :=
  ⟨_, 1, rfl, Nat.le_refl _, by decide, fun i a hi => by
    match i, hi with
    | 0, hi => obtain rfl := Option.some.inj hi; exact ⟨_, _, rfl, hLt h, cA h 0, hs⟩⟩
theorem bnd_8 {op : Int} {nm : Str} {i : Nat} (h : op = 8) (hi : i = 1) : bndAt op nm i = ([nm], false) := by unfold bndAt; rw [if_pos ⟨h, hi⟩]
theorem bnd_11 {op : Int} {nm : Str} {i : Nat} (h : op = 11) (hi : i = 0) : bndAt op nm i = ([nm], true) := by unfold bndAt; rw [if_neg (by omega), if_pos ⟨h, hi⟩]
theorem bnd_no {op : Int} {nm : Str} {i : Nat} (h1 : ¬ (op = 8 /\ i = 1)) (h2 : ¬ (op = 11 /\ i = 0)) : bndAt op nm i = ([], false) := by unfold bndAt; rw [if_neg h1, if_neg h2]
theorem heapThird (w : World) (a b c : Obj) : (((w.alloc a).alloc b).alloc c).heap[w.heap.size + 1 + 1]? = some c := by
  have := hNw ((w.alloc a).alloc b) c
  simpa using this
theorem Ext.al2 (w : World) (a b : Obj) : Ext w ((w.alloc a).alloc b) := (Ext.al _ _).tr (Ext.al _ _)
theorem Ext.al3 (w : World) (a b c : Obj) : Ext w (((w.alloc a).alloc b).alloc c) := (Ext.al2 _ _ _).tr (Ext.al _ _)
set_option maxHeartbeats 1000000 in
theorem boundInArg_any (t : Tm) (va vc : Value) (i : Nat) (w : World) (hnm : t.nm.size <= maxLen) :
    Calls Tryz.prog 157 #[tV t va vc, .int .i64 i] w fun e w' => (∃ vn, e = .returned (bV vn (bndAt t.op t.nm i).2) /\ RStrs w' vn (bndAt t.op t.nm i).1) /\ Ext w w' := by
  by_cases h8 : t.op = 8 /\ i = 1
  . have HB := LH (bnd_8 (nm := t.nm) h8.1 h8.2)
    rw [HB.out]
    obtain ⟨h8, rfl⟩ := h8
    go_enter Tryz.func157, Tryz.ntmps157
    go_wp2
    refine bodyPost_ret (v := bV (.slice (some ⟨w.heap.size + 1 + 1, 0, none⟩) 1 1) false) (by simp [results, go_sem]) rfl ?_
    exact ⟨⟨_, rfl, RStrs.one (heapThird _ _ _ _) hnm⟩, Ext.al3 _ _ _ _⟩
  . by_cases h11 : t.op = 11 /\ i = 0
    . have HB := LH (bnd_11 (nm := t.nm) h11.1 h11.2)
      rw [HB.out]
      obtain ⟨h11, rfl⟩ := h11
      go_enter Tryz.func157, Tryz.ntmps157
      go_wp2
      refine bodyPost_ret (v := bV (.slice (some ⟨w.heap.size + 1 + 1, 0, none⟩) 1 1) true) (by simp [results, go_sem]) rfl ?_
      exact ⟨⟨_, rfl, RStrs.one (heapThird _ _ _ _) hnm⟩, Ext.al3 _ _ _ _⟩
    . have HB := LH (bnd_no (nm := t.nm) h8 h11)
      rw [HB.out]
      by_cases q8 : t.op = 8
      . have hi1 : ¬ i = 1 := fun e => h8 ⟨q8, e⟩
        have hi1 : ¬ (i : Int) = 1 := by omega
        clear h8 h11
        go_enter Tryz.func157, Tryz.ntmps157
        go_wp2
        refine bodyPost_ret (v := bV (.slice none 0 0) false) (by simp [results, go_sem]) rfl ?_
        exact ⟨⟨_, rfl, RStrs.nil _⟩, Ext.al2 _ _ _⟩
      . by_cases q11 : t.op = 11
        . have hi1 : ¬ i = 0 := fun e => h11 ⟨q11, e⟩
          have hi1 : ¬ (i : Int) = 0 := by omega
          clear h8 h11
          go_enter Tryz.func157, Tryz.ntmps157
          go_wp2
          refine bodyPost_ret (v := bV (.slice none 0 0) false) (by simp [results, go_sem]) rfl ?_
          exact ⟨⟨_, rfl, RStrs.nil _⟩, Ext.al2 _ _ _⟩
        . clear h8 h11
          go_enter Tryz.func157, Tryz.ntmps157
          go_wp2
          refine bodyPost_ret (v := bV (.slice none 0 0) false) (by simp [results, go_sem]) rfl ?_
          exact ⟨⟨_, rfl, RStrs.nil _⟩, Ext.al2 _ _ _⟩
theorem parts_any (t : Tm) (va vc : Value) (w : World) :
    Calls Tryz.prog 133 #[tV t va vc] w fun e w' => e = .returned (.func (.func 156) #[] #[.pointer (some ⟨w.heap.size, 0, none⟩)]) /\ w' = w.alloc (.cells #[.int .i64 t.op, .int .i64 t.n, .string t.nm, .int .i64 t.ty, va, vc] 50) := by
  go_enter Tryz.func133, Tryz.ntmps133
  go_wp2
  go_ret
  exact ⟨rfl, rfl⟩
theorem nodes_any (t : Tm) (va vc : Value) (w : World) :
    Calls Tryz.prog 130 #[tV t va vc] w fun e w' => e = .returned (.func (.func 147) #[] #[.pointer (some ⟨w.heap.size, 0, none⟩)]) /\ w' = w.alloc (.cells #[.int .i64 t.op, .int .i64 t.n, .string t.nm, .int .i64 t.ty, va, vc] 50) := by
  go_enter Tryz.func130, Tryz.ntmps130
  go_wp2
  go_ret
  exact ⟨rfl, rfl⟩
end Go.Proofs.YtkdglplfcpindaaGreatDoor

namespace Go.Proofs.YtkdglplfcpindaaGreatDoor
open Go.RowKit Go.Shelf
attribute [local go_sem] Oper.semAt_some
def RK (wA : World) (k : Nat) (y : Bnd × Tm) (vs : Array Value) (A : World) : Prop := ∃ vn xa xc, vs = #[bV vn y.1.2, tV y.2 xa xc] /\ RStrs A vn y.1.1 /\ RT wA k y.2 xa xc
theorem RK.size {wA : World} {k : Nat} {y : Bnd × Tm} {vs : Array Value} {A : World} (h : RK wA k y vs A) : vs.size = 2 := by
  obtain ⟨vn, xa, xc, rfl, _⟩ := h; rfl
theorem take_pre {α : Type} {l m : List α} {j : Nat} {y : α} (h : l[j]? = some y) : l.take j ++ [y] <+: l ++ m := by
  obtain ⟨hlt, rfl⟩ := List.getElem?_eq_some_iff.1 h
  rw [← List.take_succ_eq_append_getElem hlt]
  exact (List.take_prefix _ _).trans (List.prefix_append _ _)
theorem take_step {α : Type} {l : List α} {j : Nat} {y : α} (h : l[j]? = some y) : l.take j ++ [y] = l.take (j + 1) := by
  obtain ⟨hlt, rfl⟩ := List.getElem?_eq_some_iff.1 h
  exact (List.take_succ_eq_append_getElem hlt).symm
def YesNo (Y N : World -> Prop) (e : Ending) (B : World) : Prop := ∃ q : Bool, e = .returned (.bool q) /\ Hid ((q = true -> Y B) /\ (q = false -> N B))
theorem yesNo_of {Y N : World -> Prop} {e : Ending} {B : World} (h : (e = .returned (.bool true) /\ Y B) ∨ (e = .returned (.bool false) /\ N B)) : YesNo Y N e B := by
  rcases h with ⟨rfl, h⟩ | ⟨rfl, h⟩
  . exact ⟨true, rfl, fun _ => h, fun h => by cases h⟩
  . exact ⟨false, rfl, fun h => (by cases h), fun _ => h⟩
set_option maxHeartbeats 4000000 in
theorem parts_iter (C : Nat -> Prop) (wA w0 : World) (k : Nat) (t : Tm) (va vc : Value) (g : Nat) (hA : RT wA (k + 1) t va vc) (hb : Below wA.heap.size wA w0) (hC : ∀ j, C j -> wA.heap.size <= j)
    (hg : w0.heap[g]? = some (.cells #[.int .i64 t.op, .int .i64 t.n, .string t.nm, .int .i64 t.ty, va, vc] 50 (0, 0))) (hgC : ¬ C g) :
    Iter Tryz.prog 156 #[.pointer (some ⟨g, 0, none⟩)] C (kids t) (RK wA k) w0 := by
  intro l J Jx W hW hJ hJx hY h0
  have hgl := hLt hg
  -- what holds in every world of the iteration
  have HG : Hid (∀ A, Only (fun j => C j ∨ (w0.heap.size <= j /\ j < W.heap.size)) W A -> Ext wA A /\ A.heap[g]? = some (.cells #[.int .i64 t.op, .int .i64 t.n, .string t.nm, .int .i64 t.ty, va, vc] 50 (0, 0))) := fun A h => by
    have h1 : Below wA.heap.size wA W := hb.trans (hW.mono hb.size)
    refine ⟨h1.trans (h.below h1.size (fun j hj => by rcases hj with hj | hj; exact hC j hj; have := hb.size; omega)), ?_⟩
    refine (h.block g (Nat.lt_of_lt_of_le hgl hW.size) (fun hj => by rcases hj with hj | hj; exact hgC hj; omega)).trans ((hW.block g hgl).trans hg)
  have HA := LH hA
  have HY := LH hY
  have HJ := LH hJ
  have HJx := LH hJx
  obtain ⟨⟨hnm, _⟩, ⟨Aa, ca, rfl, hca, hma⟩, ⟨Bb, cb, rfl, hcb, hmb⟩⟩ := hA.form
  clear hA hY hJ hJx hb hC hg hgC hgl
  have HNM := LH hnm
  clear hnm
  have hdd : ∀ k : Nat, (Fence.wide.depth.isSome = true -> 1 <= k) := fun k h => by cases h
  unfold maxLen at hma hmb
  refine callsIn_wide.1 (callsIn_of_wp (n := 0) Tryz.func156 rfl trivial ?_ rfl)
  simp only [Tryz.ntmps156, List.size_toArray, List.length_cons, List.length_nil, Nat.reduceAdd, Nat.reduceSub, Array.replicate_succ, Array.replicate_zero, List.push_toArray, List.append_toArray, List.nil_append, List.cons_append]
  have hc4 := cA (HG.out W (Only.rf _ _)).2 4
  gi_wp2
  gi_loopw [10] (fun i wr => ∃ j : Nat, j <= t.args.length /\ i = .int .i64 j /\ Only (fun j => C j ∨ (w0.heap.size <= j /\ j < W.heap.size)) W wr /\ J ((kidsFrom t.op t.nm 0 t.args).take j) wr) (fun i _ => t.args.length - (intOf i).toNat)
  case atStart => exact ⟨0, Nat.zero_le _, rfl, Only.rf _ _, h0⟩
  case round =>
    obtain ⟨j, hj, rfl, ho, hJr⟩ := hrel
    have HO := LH ho; have HJr := LH hJr
    clear ho hJr hc4
    by_cases hlt : j < t.args.length
    . obtain ⟨b, o, xa, xc, rfl, hbl, yc, yt⟩ := HA.out.arg hlt
      have hk := kidsFrom_get t.op t.nm t.args 0 j _ (List.getElem?_eq_getElem hlt)
      rw [Nat.zero_add] at hk
      have HK := LH hk
      clear hk
      have hE := (HG.out wr HO.out).1
      obtain ⟨_, ⟨Ax, cx, rfl, -, -⟩, ⟨Bx, dx, rfl, -, -⟩⟩ := yt.form
      have HT := LH yt
      have c0 := hE.keep yc.c0
      have c1 := hE.keep yc.c1
      have c2 := hE.keep yc.c2
      have c3 := hE.keep yc.c3
      have c4 := hE.keep yc.c4
      have c5 := hE.keep yc.c5
      have hH := (HG.out wr HO.out).2
      clear yc yt hE
      generalize t.args[j] = x at *
      gi_wp2
      have hE2 := Ext.al wr (.cells #[.int .i64 x.op, .int .i64 x.n, .string x.nm, .int .i64 x.ty, .slice Ax x.args.length cx, .slice Bx x.cls.length dx] 50)
      have n0 := newCell wr #[.int .i64 x.op, .int .i64 x.n, .string x.nm, .int .i64 x.ty, .slice Ax x.args.length cx, .slice Bx x.cls.length dx] 50 0 rfl
      have n1 := newCell wr #[.int .i64 x.op, .int .i64 x.n, .string x.nm, .int .i64 x.ty, .slice Ax x.args.length cx, .slice Bx x.cls.length dx] 50 1 rfl
      have n2 := newCell wr #[.int .i64 x.op, .int .i64 x.n, .string x.nm, .int .i64 x.ty, .slice Ax x.args.length cx, .slice Bx x.cls.length dx] 50 2 rfl
      have n3 := newCell wr #[.int .i64 x.op, .int .i64 x.n, .string x.nm, .int .i64 x.ty, .slice Ax x.args.length cx, .slice Bx x.cls.length dx] 50 3 rfl
      have n4 := newCell wr #[.int .i64 x.op, .int .i64 x.n, .string x.nm, .int .i64 x.ty, .slice Ax x.args.length cx, .slice Bx x.cls.length dx] 50 4 rfl
      have n5 := newCell wr #[.int .i64 x.op, .int .i64 x.n, .string x.nm, .int .i64 x.ty, .slice Ax x.args.length cx, .slice Bx x.cls.length dx] 50 5 rfl
      generalize wr.alloc _ = w1 at *
      have hH1 := (hE2.block g (hLt hH)).trans hH
      have g0 := cA hH1 0
      have g1 := cA hH1 1
      have g2 := cA hH1 2
      have g3 := cA hH1 3
      have g4 := cA hH1 4
      have g5 := cA hH1 5
      have HE2 := LH hE2
      clear hE2 hH hH1 c0 c1 c2 c3 c4 c5
      have HD : ∀ W', Ext w1 W' -> Only (fun j => C j ∨ (w0.heap.size <= j /\ j < W.heap.size)) W W' := fun W' h => HO.out.tr ((Only.of_ext HE2.out).tr (Only.of_ext h))
      have HD2 := LH HD
      clear HD
      have HYW : Hid (∀ W' vn, Ext w1.drew W' -> RStrs W' vn (bndAt t.op t.nm j).1 -> YieldW Tryz.prog l #[bV vn (bndAt t.op t.nm j).2, tV x (.slice Ax x.args.length cx) (.slice Bx x.cls.length dx)] W'
          (YesNo (fun B => J ((kidsFrom t.op t.nm 0 t.args).take (j + 1)) B /\ Only (fun j => C j ∨ (w0.heap.size <= j /\ j < W.heap.size)) W B) Jx)) := fun W' vn hx0 hs => by
        have hx : Ext w1 W' := Ext.tr (b := w1.drew) (Ext.rf w1).drew hx0
        refine (HY.out _ _ _ W' (take_pre HK.out) (HJ.out _ _ _ HJr.out ((HE2.out.tr hx).mono HO.out.size)) ⟨vn, _, _, rfl, hs, HT.out⟩ (HD2.out W' hx).size).mono fun e B h => yesNo_of ?_
        rcases h with ⟨he, h1, h2⟩ | h
        . exact .inl ⟨he, by rw [← take_step HK.out]; exact h1, (HD2.out W' hx).tr h2⟩
        . exact .inr ⟨h.1, h.2.1⟩
      clear HE2 HT
      have hmx : Tryz.prog.follows .mixedOrders = true := by kernel_rfl
      gi_region_with_o (first
        | (refine ⟨trivial, rfl, ?_⟩; gi_at_call 157; refine (callsIn_wide.2 (boundInArg_any t _ _ j _ HNM.out)).mono ?_; rintro e W2 ⟨⟨vn, rfl, hvn⟩, hx⟩; obtain ⟨fn, tmps, assign, body, hy, hR⟩ := HYW.out W2 vn hx hvn; have n0 := Ext.keep hx n0; have n1 := Ext.keep hx n1; have n2 := Ext.keep hx n2; have n3 := Ext.keep hx n3; have n4 := Ext.keep hx n4; have n5 := Ext.keep hx n5)
        | (refine ⟨rfl, ?_⟩; refine (hR _).mono ?_; rintro e W3 ⟨q, rfl, hq⟩))
      all_goals
        clear n0 n1 n2 n3 n4 n5 g0 g1 g2 g3 g4 g5 hy hR
        cases q
        . have HQ := LH (hq.out.2 rfl)
          clear hq
          gi_wp2
          refine bodyPost_ret (results_none rfl _ _ _) rfl ?_
          exact ⟨⟨_, rfl⟩, .inr HQ.out⟩
        . have HQ := LH (hq.out.1 rfl)
          clear hq
          gi_wp2
          go_roundw
          case rel => exact ⟨j + 1, by omega, by go_num, HQ.out.2, HQ.out.1⟩
          case measure => simp [intOf]; omega
    . obtain rfl : j = t.args.length := by omega
      have hH := (HG.out wr HO.out).2
      have hc5 := cA hH 5
      have hJ2 := HJr.out
      rw [List.take_of_length_le (by rw [kidsFrom_length]; exact Nat.le_refl _)] at hJ2
      have HJ2 := LH hJ2
      clear hH hJ2 HJr
      obtain ⟨wB, rfl⟩ : ∃ wB : World, wB = wr := ⟨_, rfl⟩
      gi_wp2
      gi_loopw [26] (fun i wr => ∃ j : Nat, j <= t.cls.length /\ i = .int .i64 j /\ Only (fun j => C j ∨ (w0.heap.size <= j /\ j < W.heap.size)) W wr /\ J (kidsFrom t.op t.nm 0 t.args ++ (t.cls.map fun c => (((c.1, false) : Bnd), c.2)).take j) wr) (fun i _ => t.cls.length - (intOf i).toNat)
      case atStart => exact ⟨0, Nat.zero_le _, rfl, HO.out, by rw [List.take_zero, List.append_nil]; exact HJ2.out⟩
      case round =>
        obtain ⟨j, hj2, rfl, ho, hJr⟩ := hrel
        have HO2 := LH ho; have HJr := LH hJr
        clear ho hJr hc5 hj
        by_cases hlt2 : j < t.cls.length
        . obtain ⟨b, o, vn, xa, xc, rfl, hbl, yn, ys, yc, yt⟩ := HA.out.clause hlt2
          have hk : (t.cls.map fun c => (((c.1, false) : Bnd), c.2))[j]? = some ((t.cls[j].1, false), t.cls[j].2) := by rw [List.getElem?_map, List.getElem?_eq_getElem hlt2]; rfl
          have HK := LH hk
          clear hk
          have hE := (HG.out wr HO2.out).1
          obtain ⟨_, ⟨Ax, cx, rfl, -, -⟩, ⟨Bx, dx, rfl, -, -⟩⟩ := yt.form
          obtain ⟨An, cn, rfl, -, -⟩ := ys.form
          have HT := LH yt
          have HSn := LH (ys.below hE)
          have cn0 := hE.keep yn
          have c0 := hE.keep yc.c0
          have c1 := hE.keep yc.c1
          have c2 := hE.keep yc.c2
          have c3 := hE.keep yc.c3
          have c4 := hE.keep yc.c4
          have c5 := hE.keep yc.c5
          clear yc yt hE ys yn
          generalize t.cls[j] = cl at *
          obtain ⟨ns, x⟩ := cl
          dsimp only at *
          have hE2 := Ext.al wr (.cells #[.slice An ns.length cn, .int .i64 x.op, .int .i64 x.n, .string x.nm, .int .i64 x.ty, .slice Ax x.args.length cx, .slice Bx x.cls.length dx] 123)
          have HYW : Hid (YieldW Tryz.prog l #[bV (.slice An ns.length cn) false, tV x (.slice Ax x.args.length cx) (.slice Bx x.cls.length dx)] (wr.alloc (.cells #[.slice An ns.length cn, .int .i64 x.op, .int .i64 x.n, .string x.nm, .int .i64 x.ty, .slice Ax x.args.length cx, .slice Bx x.cls.length dx] 123))
              (YesNo (fun B => J (kidsFrom t.op t.nm 0 t.args ++ (t.cls.map fun c => (((c.1, false) : Bnd), c.2)).take (j + 1)) B /\ Only (fun j => C j ∨ (w0.heap.size <= j /\ j < W.heap.size)) W B) Jx)) := by
            have hO3 := HO2.out.tr (Only.of_ext (C := fun j => C j ∨ (w0.heap.size <= j /\ j < W.heap.size)) hE2)
            refine (HY.out (kidsFrom t.op t.nm 0 t.args ++ (t.cls.map fun c => (((c.1, false) : Bnd), c.2)).take j) ((ns, false), x) _ _ ?_ (HJ.out _ _ _ HJr.out (hE2.mono HO2.out.size)) ⟨_, _, _, rfl, HSn.out.below hE2, HT.out⟩ hO3.size).mono fun e B h => yesNo_of ?_
            . rw [List.append_assoc, take_step HK.out]
              exact (List.prefix_append_right_inj _).2 (List.take_prefix _ _)
            . rcases h with ⟨he, h1, h2⟩ | h
              . exact .inl ⟨he, by rw [List.append_assoc, take_step HK.out] at h1; exact h1, hO3.tr h2⟩
              . exact .inr ⟨h.1, h.2.1⟩
          clear hE2
          obtain ⟨fn, tmps, assign, body, hy, hR⟩ := HYW.out
          gi_wp2
          refine ⟨rfl, ?_⟩
          refine (hR _).mono ?_
          rintro e W3 ⟨q, rfl, hq⟩
          clear hy hR HYW
          cases q
          . have HQ := LH (hq.out.2 rfl)
            clear hq
            gi_wp2
            refine bodyPost_ret (results_none rfl _ _ _) rfl ?_
            exact ⟨⟨_, rfl⟩, .inr HQ.out⟩
          . have HQ := LH (hq.out.1 rfl)
            clear hq
            gi_wp2
            go_roundw
            case rel => exact ⟨j + 1, by omega, by go_num, HQ.out.2, HQ.out.1⟩
            case measure => simp [intOf]; omega
        . have HJ3 := HJr.out
          rw [List.take_of_length_le (by simp; omega)] at HJ3
          have HJ4 := LH HJ3
          clear HJ3 HJr
          gi_wp2
          go_end0
          exact ⟨⟨_, rfl⟩, .inl HJ4.out⟩
end Go.Proofs.YtkdglplfcpindaaGreatDoor
