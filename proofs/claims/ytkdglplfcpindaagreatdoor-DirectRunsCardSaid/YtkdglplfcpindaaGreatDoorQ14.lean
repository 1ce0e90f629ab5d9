import Derived.Test.YtkdglplfcpindaaGreatDoorQ13
import Derived.ArgAppend
import Derived.Laws.EntriesVeiled
import Derived.Deep.RegionHeld3
set_option maxRecDepth 100000
namespace Go.Proofs.YtkdglplfcpindaaGreatDoor
open Go.RowKit
theorem bx5_two (w : World) (a b : Obj) : ((w.alloc a).alloc b).heap[w.heap.size]? = some a /\ ((w.alloc a).alloc b).heap[w.heap.size + 1]? = some b /\ ((w.alloc a).alloc b).heap.size = w.heap.size + 2 /\ Ext w ((w.alloc a).alloc b) := by
  have h : ∀ (w : World) (o : Obj), (w.alloc o).heap.size = w.heap.size + 1 := fun w o => World.size_alloc ..
  refine ⟨((Ext.al _ b).block _ (hLt (hNw w a))).trans (hNw w a), ?_, by rw [h, h], (Ext.al _ _).tr (Ext.al _ _)⟩
  have := hNw (w.alloc a) b
  rwa [h] at this
theorem Tryz.infoI : (Tryz.prog.info? 98).map (fun i => (i.zero, i.size, i.bytes)) = some (some .nilIface, 1, 16) := by kernel_rfl
theorem cells5_6 {w : World} {b T : Nat} {a0 a1 a2 a3 a4 a5 : Value} (h : w.heap[b]? = some (.cells #[a0, a1, a2, a3, a4, a5] T (0, 0))) :
    w.cell? ⟨b, 0, none⟩ = some a0 /\ w.cell? ⟨b, 1, none⟩ = some a1 /\ w.cell? ⟨b, 2, none⟩ = some a2 /\ w.cell? ⟨b, 3, none⟩ = some a3 /\ w.cell? ⟨b, 4, none⟩ = some a4 /\ w.cell? ⟨b, 5, none⟩ = some a5 :=
  ⟨cA h 0, cA h 1, cA h 2, cA h 3, cA h 4, cA h 5⟩
theorem D5.of_row {P : Pg} {w0 w : World} {bad : Nat -> Prop} {mb B : Nat} {v : Value} {vals : List Value} {l : List It} (h : w.ownsRow B 98 1 v l.length vals) (hB : ∀ b, B <= b -> ¬ bad b) (hv : ∀ (i : Nat) (x : It), l[i]? = some x -> ∃ a, vals[i]? = some a /\ D5 P w0 w bad mb (.i a x)) (hl : 1 <= l.length) : D5 P w0 w bad mb (.is v l) := by
  have hlen := h.1
  have hc := @World.ownsRow.cells w B 98 1 v l.length vals h
  rcases h.2 with ⟨-, h0⟩ | ⟨g, cap, cur, rfl, hg, hh, hn, hm, -⟩
  . omega
  . have hvl : vals.length = l.length := by simpa using hlen
    refine .icons g 0 cap (fun i => vals.getD i .nilIface) l hn hm (fun _ => hB g hg) (fun i hi => ?_) (fun i x hi => ?_)
    . have := hc rfl i _ (List.getElem?_eq_getElem (show i < vals.length by omega))
      have e : (⟨g, 0, none⟩ : Addr).add i = ⟨g, 0 + i, none⟩ := by unfold Addr.add; split <;> simp_all
      rw [e] at this
      rw [this, List.getD_eq_getElem?_getD, List.getElem?_eq_getElem (show i < vals.length by omega)]; rfl
    . obtain ⟨a, ha, hd⟩ := hv i x hi
      show D5 P w0 w bad mb (.i (vals.getD i .nilIface) x)
      rw [List.getD_eq_getElem?_getD, ha]
      exact hd
theorem D5.vals {P : Pg} {w0 w : World} {bad : Nat -> Prop} {mb : Nat} {v : Value} {l : List It} (h : D5 P w0 w bad mb (.is v l)) : ∃ (A : Option Addr) (c : Nat) (vals : List Value), v = .slice A l.length c /\ l.length <= c /\ c <= maxLen /\ (A = none -> l.length = 0 /\ c = 0) /\ vals.length = l.length ∧
    (∀ b, A = some b -> ∀ (j : Nat) (u : Value), vals[j]? = some u -> w.cell? (b.add j) = some u) /\ (∀ (i : Nat) (x : It), l[i]? = some x -> ∃ a, vals[i]? = some a /\ D5 P w0 w bad mb (.i a x)) := by
  cases h with
  | inil => exact ⟨none, 0, [], rfl, Nat.le_refl _, Nat.zero_le _, fun _ => ⟨rfl, rfl⟩, rfl, (fun _ h => nomatch h), (fun i x h => by simp at h)⟩
  | icons b o c a _ h0 h1 h2 h3 h4 =>
    refine ⟨_, c, (List.range l.length).map a, rfl, h0, h1, (fun h => nomatch h), by simp, (fun b' hb j u hj => ?_), (fun i x hi => ⟨a i, ?_, h4 i x hi⟩)⟩
    . cases hb
      have hj2 := (List.getElem?_eq_some_iff.1 hj).1
      simp at hj2
      rw [List.getElem?_map, List.getElem?_range hj2] at hj
      simp at hj
      subst hj
      have e : (⟨b, o, none⟩ : Addr).add j = ⟨b, o + j, none⟩ := by unfold Addr.add; split <;> simp_all
      rw [e]; exact h3 j hj2
    . have hi2 := (List.getElem?_eq_some_iff.1 hi).1
      rw [List.getElem?_map, List.getElem?_range hi2]; rfl
theorem box6_one {w : World} {r T : Nat} {a b c d e f : Value} (h : w.heap[r]? = some (.cells #[a, b, c, d, e, f] T (0, 0))) (a' b' : Value) : ((w.setCell ⟨r, 0, none⟩ a').setCell ⟨r, 1, none⟩ b').heap[r]? = some (.cells #[a', b', c, d, e, f] T (0, 0)) /\ ((w.setCell ⟨r, 1, none⟩ b').setCell ⟨r, 0, none⟩ a').heap[r]? = some (.cells #[a', b', c, d, e, f] T (0, 0)) := by
  constructor <;> simp [World.setCell, Array.getElem?_modify, h]
theorem box6_all {w : World} {r T : Nat} {a b c d e f : Value} (h : w.heap[r]? = some (.cells #[a, b, c, d, e, f] T (0, 0))) (a' b' c' d' e' f' : Value) :
    ((((((w.setCell ⟨r, 0, none⟩ a').setCell ⟨r, 1, none⟩ b').setCell ⟨r, 2, none⟩ c').setCell ⟨r, 3, none⟩ d').setCell ⟨r, 4, none⟩ e').setCell ⟨r, 5, none⟩ f').heap[r]? = some (.cells #[a', b', c', d', e', f'] T (0, 0)) := by
  simp [World.setCell, Array.getElem?_modify, h]
theorem only6_in {lo hi : Nat} (w : World) {r : Nat} (hr : lo <= r /\ r < hi) (a' b' c' d' e' f' : Value) :
    Only (fun k => lo <= k /\ k < hi) w ((((((w.setCell ⟨r, 0, none⟩ a').setCell ⟨r, 1, none⟩ b').setCell ⟨r, 2, none⟩ c').setCell ⟨r, 3, none⟩ d').setCell ⟨r, 4, none⟩ e').setCell ⟨r, 5, none⟩ f') :=
  have h : ∀ (W : World) (i : Nat) (u : Value), Only (fun k => lo <= k /\ k < hi) W (W.setCell ⟨r, i, none⟩ u) := fun W i u => Only.setCell (C := fun k => lo <= k /\ k < hi) (p := ⟨r, i, none⟩) hr W u
  (((((h _ _ _).tr (h _ _ _)).tr (h _ _ _)).tr (h _ _ _)).tr (h _ _ _)).tr (h _ _ _)
theorem box6_five {w : World} {r T : Nat} {a b c d e f : Value} (h : w.heap[r]? = some (.cells #[a, b, c, d, e, f] T (0, 0))) (v : Value) : (w.setCell ⟨r, 4, none⟩ v).heap[r]? = some (.cells #[a, b, c, d, v, f] T (0, 0)) := by
  simp [World.setCell, Array.getElem?_modify, h]
set_option maxHeartbeats 4000000 in
theorem bwith5_any (P : Pg) (w0 w : World) (bad : Nat -> Prop) (mb : Nat) (ts : List Tm) (ys : List Int) (l : List It) (x : It) (vt vy a fv xi : Value) (pv pl : Option Addr) (h1 : RTs w0 vt ts) (h2 : RIs w bad vy ys) (h3 : D5 P w0 w bad mb (.is a l)) (h4 : D5 P w0 w bad mb (.i xi x)) (hfv : ∃ n c, fv = .func (.func n) #[] c)
    (ht1 : 1 <= ts.length) (hy1 : 1 <= ys.length) (hl : l.length <= 1000) (hB : NB bad w) :
    Calls Tryz.prog 208 #[.agg #[vt, vy, .pointer pv, .pointer pl, a, fv], xi] w fun e w' => (∃ vt' vy' a', e = .returned (.agg #[vt', vy', .pointer pv, .pointer pl, a', fv]) /\ RTs w0 vt' ts.tail /\ RIs w' bad vy' ys.tail /\ D5 P w0 w' bad mb (.is a' (l ++ [x]))) /\ Ext w w' := by
  obtain ⟨fn, fc, rfl⟩ := hfv
  obtain ⟨At, ct, rfl, hct, hmt⟩ := h1.form
  obtain ⟨Ay, cy, rfl, hcy, hmy⟩ := h2.form
  have HT := LH (h1.tail ht1)
  have HY := LH (h2.tail hy1)
  have hs1 := run_tail47 At ts.length ct ht1 hct hmt
  have hs2 := run_tail26 Ay ys.length cy hy1 hcy hmy
  generalize (if ct = 1 then At else At.map fun x => ⟨x.block, x.off + 6, none⟩) = At' at *
  generalize (if cy = 1 then Ay else Ay.map fun x => ⟨x.block, x.off + 1, none⟩) = Ay' at *
  have H3 := LH h3
  have H4 := LH h4
  have HB := LH hB
  obtain ⟨A, c, rfl, hc, hm⟩ := h3.is_form
  obtain ⟨tx, ux, rfl⟩ := h4.i_form
  clear h1 h2 h3 h4 hB hct hmt hcy hmy
  obtain ⟨g1, g2, g3, g4⟩ := bx5_two w (.cells #[.slice At ts.length ct, .slice Ay ys.length cy, .pointer pv, .pointer pl, .slice A l.length c, .func (.func fn) #[] fc] 307) (.cells #[.slice none 0 0, .slice none 0 0, .pointer none, .pointer none, .slice none 0 0, .nilFunc] 307)
  have HB1 := LH g1
  have HB2 := LH g2
  have HZ := LH g3
  have HE := LH g4
  clear g1 g2 g3 g4
  go_enter Tryz.func208, Tryz.ntmps208
  obtain ⟨c0, c1, c2, c3, c4, c5⟩ := cells5_6 HB1.out
  have f0 := fA HB1.out 0
  have f1 := fA HB1.out 1
  go_wp2
  generalize World.alloc (World.alloc w _) _ = w1 at *
  go_region
  have HB12 := LH (box6_one HB1.out (.slice At' (ts.length - 1) (ct - 1)) (.slice Ay' (ys.length - 1) (cy - 1))).1
  have HO1 : Hid (Only (fun k => w.heap.size <= k /\ k < w.heap.size + 2) w1 ((w1.setCell ⟨w.heap.size, 0, none⟩ (.slice At' (ts.length - 1) (ct - 1))).setCell ⟨w.heap.size, 1, none⟩ (.slice Ay' (ys.length - 1) (cy - 1)))) := (Only.setCell (C := fun k => w.heap.size <= k /\ k < w.heap.size + 2) (p := ⟨w.heap.size, 0, none⟩) ⟨Nat.le_refl _, by simp⟩ _ _).tr (Only.setCell (C := fun k => w.heap.size <= k /\ k < w.heap.size + 2) (p := ⟨w.heap.size, 1, none⟩) ⟨Nat.le_refl _, by simp⟩ _ _)
  have HB22 : Hid (((w1.setCell ⟨w.heap.size, 0, none⟩ (.slice At' (ts.length - 1) (ct - 1))).setCell ⟨w.heap.size, 1, none⟩ (.slice Ay' (ys.length - 1) (cy - 1))).heap[w.heap.size + 1]? = some (.cells #[.slice none 0 0, .slice none 0 0, .pointer none, .pointer none, .slice none 0 0, .nilFunc] 307 (0, 0))) := s5o (s5o HB2.out (by omega) 0 _) (by omega) 1 _
  generalize World.setCell (World.setCell w1 _ _) _ _ = w2 at *
  clear c0 c1 c2 c3 c4 c5 f0 f1 hs1 hs2
  have HX2 : Hid (Ext w w2) := Only.belowX HE.out HO1.out (Nat.le_refl _)
  obtain ⟨c0, c1, c2, c3, c4, c5⟩ := cells5_6 HB12.out
  go_wp2_with fail
  (with_reducible refine (clip_any A l.length c _ hc hm).mono ?_)
  rintro e w3 ⟨rfl, rfl⟩
  have HN := hNw w2 (.cells #[.iface tx ux] 98)
  have HEN := LH (Ext.al w2 (.cells #[.iface tx ux] 98))
  have hnc := cA HN 0
  have HK2 : Hid (Kp bad (bx bad w.heap.size (w.heap.size + 2)) w w2) := Kp.into HX2.out _
  have hD3 := (H3.out.kp HK2.out).ext HEN.out
  have HD4 := LH ((H4.out.kp HK2.out).ext HEN.out)
  obtain ⟨A', c', vals, ev, -, -, hnone, hvl, hcells, hitems⟩ := hD3.vals
  simp only [Value.slice.injEq] at ev
  obtain ⟨rfl, -, rfl⟩ := ev
  obtain ⟨i0, hi, hz0, hz1, hz2⟩ := info_parts Tryz.infoI
  have HNO := LH hnone
  have HVL := LH hvl
  have HCE := LH hcells
  have HIT := LH hitems
  clear hnone hvl hcells hitems HN hD3
  have hnc2 : ∀ (j : Nat) (u : Value), [Value.iface tx ux][j]? = some u -> (w2.alloc (.cells #[.iface tx ux] 98)).drew.cell? ((⟨w2.heap.size, 0, none⟩ : Addr).add j) = some u := by
    intro j u hj
    match j, hj with
    | 0, hj =>
      have : Value.iface tx ux = u := by simpa using hj
      subst this
      exact hnc
    | j + 1, hj => simp at hj
  have HNC := LH hnc2
  clear hnc2
  go_wp2_with (at_builtin; go_loud (refine wpList_append_grows _ rfl _ _ 91 rfl 98 i0 .nilIface 1 16 Tryz.underlying91 hi hz0 hz1 hz2 rfl (by decide) A l.length l.length vals rfl (fun h => ⟨(HNO.out h).1, (HNO.out h).1⟩) (by rw [HVL.out]; omega) HCE.out ⟨w2.heap.size, 0, none⟩ 1 1 [.iface tx ux] rfl rfl HNC.out ?c1 ?c2 ?c3 ?c4 ?_))
  case c1 => intro u hu; rw [List.mem_singleton.1 hu]; rfl
  case c2 => omega
  case c3 => unfold maxLen; omega
  case c4 => omega
  intro v' w4 hown hgrow
  obtain ⟨A4, c4', rfl⟩ := oSL hown
  have hX4 : Ext w2 w4 := Ext.tr (b := (w2.alloc (.cells #[.iface tx ux] 98)).drew) HEN.out.drew ⟨hgrow.os, hgrow.tape, hgrow.output, hgrow.size, fun k hk => hgrow.block k hk (by simp)⟩
  have HX4 := LH hX4
  have HD : Hid (D5 P w0 w4 (bx bad w.heap.size (w.heap.size + 2)) mb (.is (.slice A4 (l.length + 1) c4') (l ++ [x]))) := by
    have hlen : (l ++ [x]).length = l.length + 1 := by simp
    have hgr : Ext (w2.alloc (.cells #[.iface tx ux] 98)) w4 := Ext.tr (b := (w2.alloc (.cells #[.iface tx ux] 98)).drew) (Ext.rf _).drew ⟨hgrow.os, hgrow.tape, hgrow.output, hgrow.size, fun k hk => hgrow.block k hk (by simp)⟩
    rw [← hlen] at hown
    have := D5.of_row (P := P) (w0 := w0) (bad := bx bad w.heap.size (w.heap.size + 2)) (mb := mb) (l := l ++ [x]) hown (fun b hb hn => ?_) (fun i y hi => ?_) (by simp)
    . rw [hlen] at this; exact this
    . have h1 := HX2.out.size
      have h2 := HZ.out
      have h3 := HO1.out.size
      have hb2 : w2.heap.size + 1 <= b := by first | exact hb | simpa using hb
      rcases hn with hn | hn
      . have := HB.out b hn; omega
      . omega
    . rw [List.getElem?_append] at hi
      split at hi
      . obtain ⟨a, ha, hd⟩ := HIT.out i y hi
        exact ⟨a, by rw [List.getElem?_append_left (by have := (List.getElem?_eq_some_iff.1 ha).1; exact this)]; exact ha, hd.ext hgr⟩
      . rename_i hge
        have h0 : i - l.length = 0 := by
          have := (List.getElem?_eq_some_iff.1 hi).1
          simp at this; omega
        rw [h0] at hi
        simp at hi
        subst hi
        exact ⟨.iface tx ux, by rw [List.getElem?_append_right (by rw [HVL.out]; omega), HVL.out, h0]; rfl, HD4.out.ext hgr⟩
  clear hown hgrow hX4 hnc c0 c1 c2 c3 c4 c5
  have HBa := LH ((HX4.out.block _ (hLt HB12.out)).trans HB12.out)
  have HBb := LH ((HX4.out.block _ (hLt HB22.out)).trans HB22.out)
  have f4 := fA HBa.out 4
  have c4 := cA HBa.out 4
  have HBc : Hid ((w4.setCell ⟨w.heap.size, 4, none⟩ (.slice A4 (l.length + 1) c4')).heap[w.heap.size]? = some (.cells #[.slice At' (ts.length - 1) (ct - 1), .slice Ay' (ys.length - 1) (cy - 1), .pointer pv, .pointer pl, .slice A4 (l.length + 1) c4', .func (.func fn) #[] fc] 307 (0, 0))) := box6_five HBa.out _
  have HBd := LH (s5o HBb.out (show w.heap.size + 1 ≠ w.heap.size by omega) 4 (.slice A4 (l.length + 1) c4'))
  have HO4 : Hid (Only (fun k => w.heap.size <= k /\ k < w.heap.size + 2) w4 (w4.setCell ⟨w.heap.size, 4, none⟩ (.slice A4 (l.length + 1) c4'))) := Only.setCell (C := fun k => w.heap.size <= k /\ k < w.heap.size + 2) (p := ⟨w.heap.size, 4, none⟩) ⟨Nat.le_refl _, by simp⟩ _ _
  go_upto_region 3 with fail
  generalize w4.setCell _ _ = w5 at *
  clear f4 c4
  obtain ⟨c0, c1, c2, c3, c4, c5⟩ := cells5_6 HBc.out
  obtain ⟨z0, z1, z2, z3, z4, z5⟩ := cells5_6 HBd.out
  have g0 := fA HBd.out 0
  have g1 := fA HBd.out 1
  have g2 := fA HBd.out 2
  have g3 := fA HBd.out 3
  have g4 := fA HBd.out 4
  have g5 := fA HBd.out 5
  go_wp2
  have HZZ := LH (box6_all HBd.out (.slice At' (ts.length - 1) (ct - 1)) (.slice Ay' (ys.length - 1) (cy - 1)) (.pointer pv) (.pointer pl) (.slice A4 (l.length + 1) c4') (.func (.func fn) #[] fc))
  have HOZ := LH (only6_in (lo := w.heap.size) (hi := w.heap.size + 2) w5 (r := w.heap.size + 1) ⟨by omega, by omega⟩ (.slice At' (ts.length - 1) (ct - 1)) (.slice Ay' (ys.length - 1) (cy - 1)) (.pointer pv) (.pointer pl) (.slice A4 (l.length + 1) c4') (.func (.func fn) #[] fc))
  clear c0 c1 c2 c3 c4 c5 z0 z1 z2 z3 z4 z5 g0 g1 g2 g3 g4 g5
  generalize World.setCell (World.setCell (World.setCell (World.setCell (World.setCell (World.setCell w5 _ _) _ _) _ _) _ _) _ _) _ _ = wz at *
  obtain ⟨q0, q1, q2, q3, q4, q5⟩ := cells5_6 HZZ.out
  have HO : Hid (Only (fun k => w.heap.size <= k /\ k < w.heap.size + 2) w4 wz) := HO4.out.tr HOZ.out
  have HKZ : Hid (Kp bad bad w wz) := Kp.of_ext (Only.belowX (HX2.out.tr HX4.out) HO.out (Nat.le_refl _))
  exact bodyPost_ret (v := .agg #[.slice At' (ts.length - 1) (ct - 1), .slice Ay' (ys.length - 1) (cy - 1), .pointer pv, .pointer pl, .slice A4 (l.length + 1) c4', .func (.func fn) #[] fc]) (by simp [results, Tryz.results208, go_sem, q0, q1, q2, q3, q4, q5]) rfl ⟨⟨_, _, _, rfl, HT.out, RIs.kp HKZ.out HY.out, HD.out.kp (Kp.outof HO.out)⟩, Only.belowX (HX2.out.tr HX4.out) HO.out (Nat.le_refl _)⟩
end Go.Proofs.YtkdglplfcpindaaGreatDoor

namespace Go.Proofs.YtkdglplfcpindaaGreatDoor
open Go.RowKit
theorem RTx.oks {w0 : World} {t : Tm} {va vc : Value} (h : RTx w0 t va vc) : t.nm.size <= maxLen /\ ok64 t.n /\ ok64 t.ty := by
  obtain ⟨k, h⟩ := h
  exact h.form.1
structure Ev5 (P : Pg) (w0 w : World) (bad : Nat -> Prop) (mb : Nat) (t : Tm) (e : En) (k : Kt) (va vc pv pl kv : Value) : Prop where
  t : RTx w0 t va vc
  vs : D5 P w0 w bad mb (.vs pv e.vs)
  ls : D5 P w0 w bad mb (.ls pl e.ls)
  k : D5 P w0 w bad mb (.k kv k)
theorem Ev5.kp {P : Pg} {w0 w w' : World} {bad bad' : Nat -> Prop} {mb : Nat} {t : Tm} {e : En} {k : Kt} {va vc pv pl kv : Value} (h : Ev5 P w0 w bad mb t e k va vc pv pl kv) (hk : Kp bad bad' w w') : Ev5 P w0 w' bad' mb t e k va vc pv pl kv :=
  ⟨h.t, h.vs.kp hk, h.ls.kp hk, h.k.kp hk⟩
theorem Ev5.ext {P : Pg} {w0 w w' : World} {bad : Nat -> Prop} {mb : Nat} {t : Tm} {e : En} {k : Kt} {va vc pv pl kv : Value} (h : Ev5 P w0 w bad mb t e k va vc pv pl kv) (hk : Ext w w') : Ev5 P w0 w' bad mb t e k va vc pv pl kv := h.kp (Kp.of_ext hk)
theorem Ev5.form {P : Pg} {w0 w : World} {bad : Nat -> Prop} {mb : Nat} {t : Tm} {e : En} {k : Kt} {va vc pv pl kv : Value} (h : Ev5 P w0 w bad mb t e k va vc pv pl kv) :
    ∃ Aa ca Ab cb p q tk uk, va = .slice Aa t.args.length ca /\ t.args.length <= ca /\ ca <= maxLen /\ vc = .slice Ab t.cls.length cb /\ t.cls.length <= cb /\ cb <= maxLen /\ pv = .pointer p /\ pl = .pointer q /\ kv = .iface tk uk := by
  obtain ⟨⟨Aa, ca, e1, h1, h2⟩, ⟨Ab, cb, e2, h3, h4⟩⟩ := h.t.form
  obtain ⟨p, e3⟩ := h.vs.vs_form
  obtain ⟨q, e4⟩ := h.ls.ls_form
  obtain ⟨tk, uk, e5⟩ := h.k.k_form
  exact ⟨Aa, ca, Ab, cb, p, q, tk, uk, e1, h1, h2, e2, h3, h4, e3, e4, e5⟩
set_option maxHeartbeats 2000000 in
theorem thenCon_any (P : Pg) (w0 w : World) (bad : Nat -> Prop) (mb be : Nat) (t : Tm) (en : En) (k : Kt) (va vc pv pl kv a : Value) (l : List It) (hE : Ev5 P w0 w bad mb t en k va vc pv pl kv) (hb : w.heap[be]? = some (.cells (evV t va vc pv pl kv) 161 (0, 0))) (ha : D5 P w0 w bad mb (.is a l)) (h0 : t.op = 4) :
    Calls Tryz.prog 204 #[a, .pointer (some ⟨be, 0, none⟩)] w fun e w' => (∃ v, e = .returned v /\ RTk P w0 w' bad mb (afterS P t en k l) v) /\ Ext w w' := by
  have hS : afterS P t en k l = .pass (.con t.ty t.n l) k := by unfold afterS; rw [if_pos h0]
  have HS := LH hS
  have HE := LH hE
  have HA := LH ha
  have HOK := LH hE.t.oks
  obtain ⟨Aa, ca, Ab, cb, p, q, tk, uk, rfl, -, -, rfl, -, -, rfl, rfl, rfl⟩ := hE.form
  obtain ⟨A, c, rfl, -, -⟩ := ha.is_form
  obtain ⟨c0, c1, c2, c3, c4, c5, c6, c7, c8⟩ := c59 hb
  clear hS hE ha h0 hb
  go_enter Tryz.func204, Tryz.ntmps204
  go_wp2
  go_ret
  exact ⟨⟨_, rfl, by rw [HS.out]; exact ⟨_, _, rfl, .con _ _ _ _ HOK.out.2.2 HOK.out.2.1 HA.out, HE.out.k⟩⟩, Ext.rf _⟩
set_option maxHeartbeats 2000000 in
theorem thenObs_any (P : Pg) (w0 w : World) (bad : Nat -> Prop) (mb be bl : Nat) (t : Tm) (en : En) (k : Kt) (va vc pv pl kv a : Value) (l : List It) (hx : Ext w0 w) (hE : Ev5 P w0 w bad mb t en k va vc pv pl kv) (hb : w.heap[be]? = some (.cells (evV t va vc pv pl kv) 161 (0, 0)))
    (hbl : w.heap[bl]? = some (.cells #[.int .i64 ((t.args.length - 1 : Nat) : Int)] 3 (0, 0))) (ha : D5 P w0 w bad mb (.is a l)) (h0 : t.op = 6) (hl : 1 <= t.args.length) :
    Calls Tryz.prog 205 #[a, .pointer (some ⟨be, 0, none⟩), .pointer (some ⟨bl, 0, none⟩)] w fun e w' => (∃ v, e = .returned v /\ RTk P w0 w' bad mb (afterS P t en k l) v) /\ Ext w w' := by
  have hS : afterS P t en k l = .ev (t.args.getD (t.args.length - 1) noTm) en (.obs t en l :: k) := by unfold afterS; rw [if_neg (by omega), if_pos h0]
  have HS := LH hS
  have HO : Hid (D5 P w0 w bad mb (.k (.iface 305 (.agg (evW t va vc pv pl kv a))) (.obs t en l :: k))) := D5.obs t en va vc pv pl kv a l k hE.t hE.vs hE.ls hE.k ha
  have HE := LH hE
  obtain ⟨Aa, ca, Ab, cb, p, q, tk, uk, rfl, -, -, rfl, -, -, rfl, rfl, rfl⟩ := hE.form
  obtain ⟨A, c, rfl, -, -⟩ := ha.is_form
  obtain ⟨c0, c1, c2, c3, c4, c5, c6, c7, c8⟩ := c59 hb
  have d0 := cA hbl 0
  clear hS hE ha h0 hb hbl
  obtain ⟨j, hj⟩ : ∃ j, t.args.length - 1 = j := ⟨_, rfl⟩
  have hjl : j < t.args.length := by omega
  rw [hj] at HS d0
  clear hj
  go_enter Tryz.func205, Tryz.ntmps205
  go_wp2_with fail
  (with_reducible refine (earg_any P w0 _ bad mb t en (.obs t en l :: k) k _ _ _ _ _ _ j hx HE.out.t HE.out.vs HE.out.ls HE.out.k HO.out hjl).mono ?_)
  rintro e w2 ⟨⟨v, rfl, hr⟩, hx2⟩
  have HR := LH hr
  have HX := LH hx2
  have hv : ∃ t u, v = .iface t u := by obtain ⟨_, _, _, _, _, e, -⟩ := hr; exact ⟨_, _, e⟩
  obtain ⟨tv, uv, rfl⟩ := hv
  clear hr hx2
  go_wp2
  go_ret
  exact ⟨⟨_, rfl, by rw [HS.out]; exact HR.out⟩, HX.out⟩
set_option maxHeartbeats 2000000 in
theorem thenCall_any (P : Pg) (w0 w : World) (bad : Nat -> Prop) (mb be bm bf : Nat) (t : Tm) (en : En) (k : Kt) (va vc pv pl kv a vp xa xc : Value) (l : List It) (hx : Ext w0 w) (hE : Ev5 P w0 w bad mb t en k va vc pv pl kv) (hb : w.heap[be]? = some (.cells (evV t va vc pv pl kv) 161 (0, 0)))
    (hm : w.heap[bm]? = some (.cells #[.pointer (some ⟨mb, 0, none⟩)] 55 (0, 0)))
    (hf : w.heap[bf]? = some (.cells #[.string (fnAt P t.n).nm, vp, .int .i64 (fnAt P t.n).res, .int .i64 (fnAt P t.n).body.op, .int .i64 (fnAt P t.n).body.n, .string (fnAt P t.n).body.nm, .int .i64 (fnAt P t.n).body.ty, xa, xc] 52 (0, 0)))
    (hfn : FnAt w0 (fnAt P t.n) vp xa xc) (ha : D5 P w0 w bad mb (.is a l)) (h0 : t.op = 9) (hlen : (fnAt P t.n).ps.length <= l.length) (hl : (fnAt P t.n).ps.length <= 1000) (hB : NB bad w) :
    Calls Tryz.prog 202 #[a, .pointer (some ⟨bm, 0, none⟩), .pointer (some ⟨bf, 0, none⟩), .pointer (some ⟨be, 0, none⟩)] w fun e w' => (∃ v, e = .returned v /\ RTk P w0 w' bad mb (afterS P t en k l) v) /\ Ext w w' := by
  have hS : afterS P t en k l = bodyS (fnAt P t.n) l k := by unfold afterS; rw [if_neg (by omega), if_neg (by omega), if_neg (by omega)]
  have HS := LH hS
  have HE := LH hE
  have HA := LH ha
  have HF := LH hfn
  have HB := LH hB
  obtain ⟨Aa, ca, Ab, cb, p, q, tk, uk, rfl, -, -, rfl, -, -, rfl, rfl, rfl⟩ := hE.form
  obtain ⟨A, c, rfl, -, -⟩ := ha.is_form
  obtain ⟨-, hps, hbody⟩ := hfn
  obtain ⟨A3, c3, rfl, -, -⟩ := hps.form
  obtain ⟨⟨Ax, cx, rfl, -, -⟩, ⟨Ay, cy, rfl, -, -⟩⟩ := hbody.form
  generalize fnAt P t.n = f at *
  obtain ⟨c0, c1, c2, c3', c4, c5, c6, c7, c8⟩ := c59 hb
  obtain ⟨f0, f1, f2, f3, f4, f5, f6, f7, f8⟩ := c59 hf
  have d0 := cA hm 0
  clear hS hE ha h0 hb hm hf hB hps hbody
  go_enter Tryz.func202, Tryz.ntmps202
  go_wp2_with fail
  (with_reducible refine (body_any P w0 _ bad mb f _ _ _ _ _ (.pointer none) l k hx HF.out HA.out HE.out.k hlen hl HB.out).mono ?_)
  rintro e w2 ⟨⟨v, rfl, hr⟩, hx2⟩
  have HR := LH hr
  have HX := LH hx2
  have hv : ∃ t u, v = .iface t u := by obtain ⟨_, _, _, _, _, e, -⟩ := hr; exact ⟨_, _, e⟩
  obtain ⟨tv, uv, rfl⟩ := hv
  clear hr hx2
  go_wp2
  go_ret
  exact ⟨⟨_, rfl, by rw [HS.out]; exact HR.out⟩, HX.out⟩
end Go.Proofs.YtkdglplfcpindaaGreatDoor

namespace Go.Proofs.YtkdglplfcpindaaGreatDoor
open Go.RowKit
theorem strs5_one {w : World} {b T : Nat} {s : Str} (h : w.heap[b]? = some (.cells #[.string s] T (0, 0))) (hs : s.size <= maxLen) : RStrs w (.slice (some ⟨b, 0, none⟩) 1 1) [s] :=
  ⟨_, _, rfl, Nat.le_refl _, by unfold maxLen; decide, fun i x hi => by
    have : i = 0 := by have := (List.getElem?_eq_some_iff.1 hi).1; simp at this; omega
    subst this
    simp at hi
    subst hi
    exact ⟨b, 0, rfl, hLt h, cA h 0, hs⟩⟩
theorem cells5_five {w : World} {b T : Nat} {a0 a1 a2 a3 a4 a5 a6 a7 a8 : Value} (h : w.heap[b]? = some (.cells #[a0, a1, a2, a3, a4, a5, a6, a7, a8] T (0, 0))) :
    w.cell? ⟨b, 2, none⟩ = some a2 /\ w.cell? ⟨b, 4, none⟩ = some a4 /\ w.cell? ⟨b, 6, none⟩ = some a6 /\ w.cell? ⟨b, 7, none⟩ = some a7 /\ w.cell? ⟨b, 8, none⟩ = some a8 :=
  ⟨cA h 2, cA h 4, cA h 6, cA h 7, cA h 8⟩
set_option maxHeartbeats 4000000 in
theorem thenLet_any (P : Pg) (w0 w : World) (bad : Nat -> Prop) (mb be : Nat) (t : Tm) (en : En) (k : Kt) (va vc pv pl kv a : Value) (x : It) (hx : Ext w0 w) (hE : Ev5 P w0 w bad mb t en k va vc pv pl kv) (hb : w.heap[be]? = some (.cells (evV t va vc pv pl kv) 161 (0, 0)))
    (ha : D5 P w0 w bad mb (.is a [x])) (h0 : t.op = 8) (hl : t.args.length = 2) (hB : NB bad w) :
    Calls Tryz.prog 206 #[a, .pointer (some ⟨be, 0, none⟩)] w fun e w' => (∃ v, e = .returned v /\ RTk P w0 w' bad mb (afterS P t en k [x]) v) /\ Ext w w' := by
  have hS : afterS P t en k [x] = .ev (t.args.getD 1 noTm) (.mk (withA [t.nm] [x] en.vs) en.ls) k := by unfold afterS bindV; rw [if_neg (by omega), if_neg (by omega), if_pos h0]
  have HS := LH hS
  have HE := LH hE
  have HA := LH ha
  have HB := LH hB
  have HNM := LH hE.t.oks.1
  obtain ⟨Aa, ca, Ab, cb, p, q, tk, uk, rfl, hla, hma, rfl, -, -, rfl, rfl, rfl⟩ := hE.form
  obtain ⟨A, c, rfl, -, -⟩ := ha.is_form
  obtain ⟨b, o, xa, xc, rfl, h6, h7⟩ := hE.t.arg hx (i := 1) (by omega)
  obtain ⟨⟨Ax, cx, rfl, -, -⟩, ⟨Ay, cy, rfl, -, -⟩⟩ := h7.form
  rw [Nat.one_mul] at h6
  have H6 := LH h6
  have hb0 := hb
  rw [hl] at hb0
  have HBE := LH hb0
  clear hb0
  have H7 := LH h7
  generalize t.args.getD 1 noTm = y at *
  obtain ⟨c0, c1, c2, c3, c4, c5, c6, c7, c8⟩ := c59 hb
  obtain ⟨y0, y1, y2, y3, y4, y5⟩ := h6
  clear hS hE ha h0 hb h7 hB
  unfold maxLen at hma
  have hl1 : (1 : Int) < t.args.length := by omega
  rw [hl] at *
  go_enter Tryz.func206, Tryz.ntmps206
  have HA1 : Hid (D5 P w0 w bad mb (.is (.slice A 1 c) [x])) := HA.out
  go_wp2
  have HEA := LH (Ext.al w (.cells #[.string t.nm] 9))
  have HRS : Hid (RStrs (w.alloc (.cells #[.string t.nm] 9)).drew (.slice (some ⟨w.heap.size, 0, none⟩) 1 1) [t.nm]) := (strs5_one (hNw w (.cells #[.string t.nm] 9)) HNM.out).below (Ext.rf _).drew
  have lbe := hLt HBE.out
  have lb : b < w.heap.size := cL y0
  go_region_held3 (fun w' => w'.cell? ⟨be, 2, none⟩ = some (.string t.nm) /\ w'.cell? ⟨be, 4, none⟩ = some (.slice (some ⟨b, o, none⟩) 2 ca) /\ w'.cell? ⟨be, 6, none⟩ = some (.pointer p) /\ w'.cell? ⟨be, 7, none⟩ = some (.pointer q) /\ w'.cell? ⟨be, 8, none⟩ = some (.iface tk uk) ∧
      w'.cell? ⟨b, o + 6, none⟩ = some (.int .i64 y.op) /\ w'.cell? ⟨b, o + 6 + 1, none⟩ = some (.int .i64 y.n) /\ w'.cell? ⟨b, o + 6 + 2, none⟩ = some (.string y.nm) /\ w'.cell? ⟨b, o + 6 + 3, none⟩ = some (.int .i64 y.ty) /\ w'.cell? ⟨b, o + 6 + 4, none⟩ = some (.slice Ax y.args.length cx) /\ w'.cell? ⟨b, o + 6 + 5, none⟩ = some (.slice Ay y.cls.length cy))
    (first | exact ⟨HC.out.1, HC.out.2.1, HC.out.2.2.1, HC.out.2.2.2.1, HC.out.2.2.2.2, HY.out.c0, HY.out.c1, HY.out.c2, HY.out.c3, HY.out.c4, HY.out.c5⟩ | go_keep)
    ((go_at_call 71; (with_reducible refine (ebind_any P w0 _ bad mb [t.nm] [x] en.vs en.ls _ _ _ _ ((HE.out.vs.ext HEA.out).ext (Ext.rf _).drew) ((HE.out.ls.ext HEA.out).ext (Ext.rf _).drew) HRS.out ((HA1.out.ext HEA.out).ext (Ext.rf _).drew) (Nat.le_refl _) ((HB.out.ext HEA.out).ext (Ext.rf _).drew)).mono ?_); rintro e w4 ⟨⟨a, rfl, hr⟩, hb⟩; obtain ⟨pa, rfl⟩ := hr.vs_form; have HX4 : Hid (Ext w w4) := Ext.tr (b := (w.alloc (.cells #[.string t.nm] 9)).drew) HEA.out.drew hb; have HR4 := LH hr; have HC := LH (cells5_five ((HX4.out.block _ (hLt HBE.out)).trans HBE.out)); have HY := LH (H6.out.below HX4.out); clear hr hb))
  all_goals
    go_wp2
    go_ret
    exact ⟨⟨_, rfl, by rw [HS.out]; exact ⟨_, _, _, _, _, rfl, H7.out, HR4.out, HE.out.ls.ext HX4.out, HE.out.k.ext HX4.out⟩⟩, HX4.out⟩
end Go.Proofs.YtkdglplfcpindaaGreatDoor
