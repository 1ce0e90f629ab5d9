/- env.go: bind, mark. -/
import Derived.Test.YtkdglplfcpindaaGreatDoorQ9
import Derived.Deep.QuietTactic
import Derived.BigQuiet
import Derived.OwnWalk
import Derived.Maps.AppendAt
import Derived.Deep.RegionWith
namespace Go.Proofs.YtkdglplfcpindaaGreatDoor
open Go.RowKit

/-- The call's own boxes turn, too. -/
def bx (bad : Nat → Prop) (lo hi : Nat) (b : Nat) : Prop := bad b ∨ (lo ≤ b ∧ b < hi)
theorem Kp.into {bad : Nat → Prop} {w w1 : World} (h : Ext w w1) (hi : Nat) : Kp bad (bx bad w.heap.size hi) w w1 :=
  ⟨h.size, fun b hb hn => ⟨fun k => k.elim hn (fun k => by omega), h.block b hb⟩⟩
theorem NB.into {bad : Nat → Prop} {w w1 : World} (h : NB bad w) (hx : Ext w w1) {hi : Nat} (hh : hi ≤ w1.heap.size) : NB (bx bad w.heap.size hi) w1 :=
  fun b k => k.elim (fun k => Nat.lt_of_lt_of_le (h b k) hx.size) (fun k => by omega)
theorem Kp.outof {bad : Nat → Prop} {lo hi : Nat} {w w1 : World} (h : Only (fun b => lo ≤ b ∧ b < hi) w w1) : Kp (bx bad lo hi) bad w w1 :=
  ⟨h.size, fun b hb hn => ⟨fun k => hn (.inl k), h.block b hb (fun k => hn (.inr k))⟩⟩
theorem Only.belowX {lo hi : Nat} {w w1 w2 : World} (hx : Ext w w1) (h : Only (fun b => lo ≤ b ∧ b < hi) w1 w2) (hl : w.heap.size ≤ lo) : Ext w w2 :=
  hx.trans (h.below hx.size (fun k e => by omega))
theorem set5_one {w : World} {r T : Nat} {a b : Value} (h : w.heap[r]? = some (.cells #[a, b] T (0, 0))) (v : Value) : (w.setCell ⟨r, 0, none⟩ v).heap[r]? = some (.cells #[v, b] T (0, 0)) := by
  simp [World.setCell, Array.getElem?_modify, h]
theorem set5_two {w : World} {r T : Nat} {a b : Value} (h : w.heap[r]? = some (.cells #[a, b] T (0, 0))) (v : Value) : (w.setCell ⟨r, 1, none⟩ v).heap[r]? = some (.cells #[a, v] T (0, 0)) := by
  simp [World.setCell, Array.getElem?_modify, h]
theorem set5_other {w : World} {r q : Nat} {o : Obj} (h : w.heap[q]? = some o) (hne : q ≠ r) (i : Nat) (v : Value) : (w.setCell ⟨r, i, none⟩ v).heap[q]? = some o := by
  simp [World.setCell, Array.getElem?_modify, h, hne.symm]

theorem box5_both {w : World} {r T : Nat} {a b : Value} (h : w.heap[r]? = some (.cells #[a, b] T (0, 0))) (a' b' : Value) : ((w.setCell ⟨r, 0, none⟩ a').setCell ⟨r, 1, none⟩ b').heap[r]? = some (.cells #[a', b'] T (0, 0)) := by
  simp [World.setCell, Array.getElem?_modify, h]

set_option maxHeartbeats 1000000 in
set_option maxRecDepth 100000 in
theorem ebind_any (P : Pg) (w0 w : World) (bad : Nat → Prop) (mb : Nat) (ns : List Str) (args : List It) (l : List (Str × It)) (m : List (Str × Kt)) (pv pl v1 v2 : Value) (h : D5 P w0 w bad mb (.vs pv l)) (h0 : D5 P w0 w bad mb (.ls pl m)) (h1 : RStrs w v1 ns) (h2 : D5 P w0 w bad mb (.is v2 args)) (hlen : ns.length ≤ args.length) (hB : NB bad w) :
    Calls Tryz.prog 71 #[.agg #[pv, pl], v1, v2] w fun e w' => (∃ a, e = .returned (.agg #[a, pl]) ∧ D5 P w0 w' bad mb (.vs a (withA ns args l))) ∧ Ext w w' := by
  have H := Lib.hid h
  have H1 := Lib.hid h1
  have H2 := Lib.hid h2
  have HB := Lib.hid hB
  obtain ⟨p, rfl⟩ := h.vs_form
  obtain ⟨q, rfl⟩ := h0.ls_form
  obtain ⟨A1, c1, rfl, hc1, hm1⟩ := h1.form
  obtain ⟨A2, c2, rfl, hc2, hm2⟩ := h2.is_form
  clear h h0 h1 h2 hB
  have HE := Lib.hid (Ext.al2 w (.cells #[.pointer p, .pointer q] 156) (.cells #[.pointer none, .pointer none] 156))
  have hb1 := heapNew w (.cells #[.pointer p, .pointer q] 156)
  have hbz := heapNew (w.alloc (.cells #[.pointer p, .pointer q] 156)) (.cells #[.pointer none, .pointer none] 156)
  rw [World.size_alloc] at hbz
  have HB1 := Lib.hid (((Ext.al (w.alloc (.cells #[.pointer p, .pointer q] 156)) (.cells #[.pointer none, .pointer none] 156)).block _ (heap_lt hb1)).trans hb1)
  have HBZ := Lib.hid hbz
  clear hb1 hbz
  have HZ : Hid (((w.alloc (.cells #[.pointer p, .pointer q] 156)).alloc (.cells #[.pointer none, .pointer none] 156)).heap.size = w.heap.size + 2) := by show _ = _; simp
  have c0 := cellAt HB1.out 0
  go_enter Tryz.func71, Tryz.ntmps71
  go_wp2_with fail
  generalize World.alloc (World.alloc w _) _ = w1 at *
  have HNB : Hid (NB (bx bad w.heap.size (w.heap.size + 2)) w1) := HB.out.into HE.out (Nat.le_of_eq HZ.out.symm)
  have HK : Hid (Kp bad (bx bad w.heap.size (w.heap.size + 2)) w w1) := Kp.into HE.out _
  (with_reducible refine (withI_any P w0 _ (bx bad w.heap.size (w.heap.size + 2)) mb ns args l _ _ _ (H.out.kp HK.out) (H1.out.below HE.out) (H2.out.kp HK.out) hlen HNB.out).mono ?_)
  rintro e w2 ⟨⟨a, rfl, hr⟩, hx⟩
  obtain ⟨pa, rfl⟩ := hr.vs_form
  have HR := Lib.hid hr
  have HX := Lib.hid hx
  clear hr
  have HB2 := Lib.hid ((hx.block _ (heap_lt HB1.out)).trans HB1.out)
  have HBZ2 := Lib.hid ((hx.block _ (heap_lt HBZ.out)).trans HBZ.out)
  clear hx c0
  have c0 := cellAt HB2.out 0
  have c1 := cellAt HB2.out 1
  have f0 := frozenAt HB2.out 0
  have g0 := frozenAt HBZ2.out 0
  have g1 := frozenAt HBZ2.out 1
  have HS := Lib.hid (set5_one HB2.out (.pointer pa))
  have HSZ := Lib.hid (set5_other HBZ2.out (show w.heap.size + 1 ≠ w.heap.size by omega) 0 (.pointer pa))
  have HO1 : Hid (Only (fun k => w.heap.size ≤ k ∧ k < w.heap.size + 2) w2 (w2.setCell ⟨w.heap.size, 0, none⟩ (.pointer pa))) := Only.setCell (C := fun k => w.heap.size ≤ k ∧ k < w.heap.size + 2) (p := ⟨w.heap.size, 0, none⟩) ⟨Nat.le_refl _, by simp⟩ _ _
  go_upto_region 2 with fail
  generalize w2.setCell _ _ = w3 at *
  clear c0 c1 f0 g0 g1
  have c0 := cellAt HS.out 0
  have c1 := cellAt HS.out 1
  have g0 := frozenAt HSZ.out 0
  have g1 := frozenAt HSZ.out 1
  have z0 := cellAt HSZ.out 0
  have z1 := cellAt HSZ.out 1
  go_wp2
  have HZZ := Lib.hid (box5_both HSZ.out (.pointer pa) (.pointer q))
  have HOZ : Hid (Only (fun k => w.heap.size ≤ k ∧ k < w.heap.size + 2) w3 ((w3.setCell ⟨w.heap.size + 1, 0, none⟩ (.pointer pa)).setCell ⟨w.heap.size + 1, 1, none⟩ (.pointer q))) := (Only.setCell (C := fun k => w.heap.size ≤ k ∧ k < w.heap.size + 2) (p := ⟨w.heap.size + 1, 0, none⟩) ⟨by simp, by simp⟩ _ _).tr (Only.setCell (C := fun k => w.heap.size ≤ k ∧ k < w.heap.size + 2) (p := ⟨w.heap.size + 1, 1, none⟩) ⟨by simp, by simp⟩ _ _)
  clear c0 c1 g0 g1 z0 z1
  generalize World.setCell (World.setCell w3 _ _) _ _ = wz at *
  have q0 := cellAt HZZ.out 0
  have q1 := cellAt HZZ.out 1
  have HO : Hid (Only (fun k => w.heap.size ≤ k ∧ k < w.heap.size + 2) w2 wz) := HO1.out.tr HOZ.out
  exact bodyPost_ret (v := .agg #[.pointer pa, .pointer q]) (by simp [results, Tryz.results71, go_sem, q0, q1]) rfl ⟨⟨_, rfl, HR.out.kp (Kp.outof HO.out)⟩, Only.belowX (HE.out.tr HX.out) HO.out (Nat.le_refl _)⟩

theorem bx5_four (w : World) (a b c d : Obj) : ((((w.alloc a).alloc b).alloc c).alloc d).heap[w.heap.size]? = some a ∧ ((((w.alloc a).alloc b).alloc c).alloc d).heap[w.heap.size + 1]? = some b ∧ ((((w.alloc a).alloc b).alloc c).alloc d).heap[w.heap.size + 1 + 1]? = some c ∧ ((((w.alloc a).alloc b).alloc c).alloc d).heap[w.heap.size + 1 + 1 + 1]? = some d ∧ ((((w.alloc a).alloc b).alloc c).alloc d).heap.size = w.heap.size + 4 ∧ Ext w ((((w.alloc a).alloc b).alloc c).alloc d) := by
  have h : ∀ (w : World) (o : Obj), (w.alloc o).heap.size = w.heap.size + 1 := fun w o => World.size_alloc ..
  have k : ∀ (w : World) (o o' : Obj) (n : Nat), w.heap[n]? = some o' → (w.alloc o).heap[n]? = some o' := fun w o o' n hn => ((Ext.al w o).block _ (heap_lt hn)).trans hn
  have e : ∀ (w : World) (o : Obj) (n : Nat), n = w.heap.size → (w.alloc o).heap[n]? = some o := fun w o n hn => hn ▸ heapNew w o
  refine ⟨k _ _ _ _ (k _ _ _ _ (k _ _ _ _ (e _ _ _ rfl))), k _ _ _ _ (k _ _ _ _ (e _ _ _ (by rw [h]))), k _ _ _ _ (e _ _ _ (by rw [h, h])), e _ _ _ (by rw [h, h, h]), by rw [h, h, h, h], (((Ext.al _ _).tr (Ext.al _ _)).tr (Ext.al _ _)).tr (Ext.al _ _)⟩

set_option maxHeartbeats 1000000 in
set_option maxRecDepth 100000 in
theorem emark_any (P : Pg) (w0 w : World) (bad : Nat → Prop) (mb : Nat) (s : Str) (x : Kt) (l : List (Str × It)) (m : List (Str × Kt)) (pv pl kv : Value) (h : D5 P w0 w bad mb (.vs pv l)) (h0 : D5 P w0 w bad mb (.ls pl m)) (h3 : D5 P w0 w bad mb (.k kv x)) (hs : s.size ≤ maxLen) (hB : NB bad w) :
    Calls Tryz.prog 194 #[.agg #[pv, pl], .string s, kv] w fun e w' => (∃ a, e = .returned (.agg #[pv, a]) ∧ D5 P w0 w' bad mb (.ls a ((s, x) :: m))) ∧ Ext w w' := by
  have H := Lib.hid h0
  have H3 := Lib.hid h3
  have HB := Lib.hid hB
  obtain ⟨p, rfl⟩ := h.vs_form
  obtain ⟨q, rfl⟩ := h0.ls_form
  obtain ⟨tk, uk, rfl⟩ := h3.k_form
  clear h h0 h3 hB
  obtain ⟨hb1, hbz, hb3, hb4, hsz, he⟩ := bx5_four w (.cells #[.pointer p, .pointer q] 156) (.cells #[.pointer none, .pointer none] 156) (.cells #[.string s] 9) (.cells #[.iface tk uk] 152)
  have HB1 := Lib.hid hb1
  have HBZ := Lib.hid hbz
  have HB3 := Lib.hid hb3
  have HB4 := Lib.hid hb4
  have HZ := Lib.hid hsz
  have HE := Lib.hid he
  clear hb1 hbz hb3 hb4 hsz he
  have hc1 := heapNew w (.cells #[.pointer p, .pointer q] 156)
  have hc2 := ((Ext.al (w.alloc (.cells #[.pointer p, .pointer q] 156)) (.cells #[.pointer none, .pointer none] 156)).block _ (heap_lt hc1)).trans hc1
  have c1 := cellAt hc2 1
  clear hc1 hc2
  go_enter Tryz.func194, Tryz.ntmps194
  go_wp2_with fail
  generalize World.alloc (World.alloc (World.alloc (World.alloc w _) _) _) _ = w1 at *
  have HNB : Hid (NB (bx bad w.heap.size (w.heap.size + 2)) w1) := HB.out.into HE.out (by rw [HZ.out]; omega)
  have HK : Hid (Kp bad (bx bad w.heap.size (w.heap.size + 2)) w w1) := Kp.into HE.out _
  have y0 : Hid (w1.cell? ⟨w.heap.size + 1 + 1, 0, none⟩ = some (.string s)) := cellAt HB3.out 0
  have y1 : Hid (w1.cell? ⟨w.heap.size + 1 + 1 + 1, 0, none⟩ = some (.iface tk uk)) := cellAt HB4.out 0
  (with_reducible refine (withL_any P w0 _ (bx bad w.heap.size (w.heap.size + 2)) mb s x m _ _ _ _ (H.out.kp HK.out) y0.out y1.out (H3.out.kp HK.out) hs HNB.out).mono ?_)
  rintro e w2 ⟨⟨a, rfl, hr⟩, hx⟩
  obtain ⟨pa, rfl⟩ := hr.ls_form
  have HR := Lib.hid hr
  have HX := Lib.hid hx
  clear hr
  have HB2 := Lib.hid ((hx.block _ (heap_lt HB1.out)).trans HB1.out)
  have HBZ2 := Lib.hid ((hx.block _ (heap_lt HBZ.out)).trans HBZ.out)
  clear hx c1
  have c0 := cellAt HB2.out 0
  have c1 := cellAt HB2.out 1
  have f0 := frozenAt HB2.out 1
  have HS := Lib.hid (set5_two HB2.out (.pointer pa))
  have HSZ := Lib.hid (set5_other HBZ2.out (show w.heap.size + 1 ≠ w.heap.size by omega) 1 (.pointer pa))
  have HO1 : Hid (Only (fun k => w.heap.size ≤ k ∧ k < w.heap.size + 2) w2 (w2.setCell ⟨w.heap.size, 1, none⟩ (.pointer pa))) := Only.setCell (C := fun k => w.heap.size ≤ k ∧ k < w.heap.size + 2) (p := ⟨w.heap.size, 1, none⟩) ⟨Nat.le_refl _, by simp⟩ _ _
  go_upto_region 2 with fail
  generalize w2.setCell _ _ = w3 at *
  clear c0 c1 f0
  have c0 := cellAt HS.out 0
  have c1 := cellAt HS.out 1
  have g0 := frozenAt HSZ.out 0
  have g1 := frozenAt HSZ.out 1
  have z0 := cellAt HSZ.out 0
  have z1 := cellAt HSZ.out 1
  go_wp2
  have HZZ := Lib.hid (box5_both HSZ.out (.pointer p) (.pointer pa))
  have HOZ : Hid (Only (fun k => w.heap.size ≤ k ∧ k < w.heap.size + 2) w3 ((w3.setCell ⟨w.heap.size + 1, 0, none⟩ (.pointer p)).setCell ⟨w.heap.size + 1, 1, none⟩ (.pointer pa))) := (Only.setCell (C := fun k => w.heap.size ≤ k ∧ k < w.heap.size + 2) (p := ⟨w.heap.size + 1, 0, none⟩) ⟨by simp, by simp⟩ _ _).tr (Only.setCell (C := fun k => w.heap.size ≤ k ∧ k < w.heap.size + 2) (p := ⟨w.heap.size + 1, 1, none⟩) ⟨by simp, by simp⟩ _ _)
  clear c0 c1 g0 g1 z0 z1
  generalize World.setCell (World.setCell w3 _ _) _ _ = wz at *
  have q0 := cellAt HZZ.out 0
  have q1 := cellAt HZZ.out 1
  have HO : Hid (Only (fun k => w.heap.size ≤ k ∧ k < w.heap.size + 2) w2 wz) := HO1.out.tr HOZ.out
  exact bodyPost_ret (v := .agg #[.pointer p, .pointer pa]) (by simp [results, Tryz.results194, go_sem, q0, q1]) rfl ⟨⟨_, rfl, HR.out.kp (Kp.outof HO.out)⟩, Only.belowX (HE.out.tr HX.out) HO.out (Nat.le_refl _)⟩
end Go.Proofs.YtkdglplfcpindaaGreatDoor

/- evaluate.go: arg; value.go: force. -/
namespace Go.Proofs.YtkdglplfcpindaaGreatDoor
open Go.RowKit

/-- A task in memory. -/
def RTk (P : Pg) (w0 w : World) (bad : Nat → Prop) (mb : Nat) : Tk → Value → Prop
  | .ev t e k, v => ∃ va vc pv pl kv, v = .iface 161 (.agg (evV t va vc pv pl kv)) ∧ RTx w0 t va vc ∧ D5 P w0 w bad mb (.vs pv e.vs) ∧ D5 P w0 w bad mb (.ls pl e.ls) ∧ D5 P w0 w bad mb (.k kv k)
  | .pass x k, v => ∃ a kv, v = .iface 290 (.agg #[a, kv]) ∧ D5 P w0 w bad mb (.v a x) ∧ D5 P w0 w bad mb (.k kv k)
theorem RTk.kp {P : Pg} {w0 w w' : World} {bad bad' : Nat → Prop} {mb : Nat} {q : Tk} {v : Value} (r : RTk P w0 w bad mb q v) (h : Kp bad bad' w w') : RTk P w0 w' bad' mb q v := by
  cases q with
  | ev t e k => obtain ⟨va, vc, pv, pl, kv, e1, h1, h2, h3, h4⟩ := r; exact ⟨va, vc, pv, pl, kv, e1, h1, h2.kp h, h3.kp h, h4.kp h⟩
  | pass x k => obtain ⟨a, kv, e1, h1, h2⟩ := r; exact ⟨a, kv, e1, h1.kp h, h2.kp h⟩
theorem RTk.ext {P : Pg} {w0 w w' : World} {bad : Nat → Prop} {mb : Nat} {q : Tk} {v : Value} (r : RTk P w0 w bad mb q v) (h : Ext w w') : RTk P w0 w' bad mb q v := r.kp (Kp.of_ext h)
theorem RTx.form {w0 : World} {t : Tm} {va vc : Value} (h : RTx w0 t va vc) : (∃ A c, va = .slice A t.args.length c ∧ t.args.length ≤ c ∧ c ≤ maxLen) ∧ (∃ B c, vc = .slice B t.cls.length c ∧ t.cls.length ≤ c ∧ c ≤ maxLen) := by
  obtain ⟨k, h⟩ := h
  cases k with
  | zero => exact h.elim
  | succ k =>
    obtain ⟨-, ⟨A, c, e1, h1, h2, -⟩, ⟨B, d, e2, h3, h4, -⟩⟩ := h
    exact ⟨⟨A, c, e1, h1, h2⟩, ⟨B, d, e2, h3, h4⟩⟩
theorem RTx.arg {w0 w : World} (hx : Ext w0 w) {t : Tm} {A : Option Addr} {n c : Nat} {vc : Value} (h : RTx w0 t (.slice A n c) vc) {i : Nat} (hi : i < t.args.length) : ∃ b o xa xc, A = some ⟨b, o, none⟩ ∧ C6 w b (o + i * 6) (t.args.getD i noTm) xa xc ∧ RTx w0 (t.args.getD i noTm) xa xc := by
  obtain ⟨k, h⟩ := h
  cases k with
  | zero => exact h.elim
  | succ k =>
    obtain ⟨-, ⟨A', c', e1, -, -, h3⟩, -⟩ := h
    simp only [Value.slice.injEq] at e1
    obtain ⟨rfl, -, -⟩ := e1
    obtain ⟨b, o, xa, xc, e, -, h4, h5⟩ := h3 i t.args[i] (List.getElem?_eq_getElem hi)
    have : t.args.getD i noTm = t.args[i] := by rw [List.getD_eq_getElem?_getD, List.getElem?_eq_getElem hi]; rfl
    rw [this]
    exact ⟨b, o, xa, xc, e, h4.below hx, k, h5⟩
theorem cells5_9 {w : World} {b T : Nat} {a0 a1 a2 a3 a4 a5 a6 a7 a8 : Value} (h : w.heap[b]? = some (.cells #[a0, a1, a2, a3, a4, a5, a6, a7, a8] T (0, 0))) :
    w.cell? ⟨b, 0, none⟩ = some a0 ∧ w.cell? ⟨b, 1, none⟩ = some a1 ∧ w.cell? ⟨b, 2, none⟩ = some a2 ∧ w.cell? ⟨b, 3, none⟩ = some a3 ∧ w.cell? ⟨b, 4, none⟩ = some a4 ∧ w.cell? ⟨b, 5, none⟩ = some a5 ∧ w.cell? ⟨b, 6, none⟩ = some a6 ∧ w.cell? ⟨b, 7, none⟩ = some a7 ∧ w.cell? ⟨b, 8, none⟩ = some a8 :=
  ⟨cellAt h 0, cellAt h 1, cellAt h 2, cellAt h 3, cellAt h 4, cellAt h 5, cellAt h 6, cellAt h 7, cellAt h 8⟩
theorem Ext.drewNx {w w' : World} (h : Ext w w') (n : Nat) : Ext w (w'.drewN n) := ⟨h.os, h.tape, h.output, h.size, h.block⟩

set_option maxHeartbeats 1000000 in
set_option maxRecDepth 100000 in
theorem earg_any (P : Pg) (w0 w : World) (bad : Nat → Prop) (mb : Nat) (t : Tm) (en : En) (k k0 : Kt) (va vc pv pl kv kv0 : Value) (i : Nat) (hx : Ext w0 w) (ht : RTx w0 t va vc) (h2 : D5 P w0 w bad mb (.vs pv en.vs)) (h3 : D5 P w0 w bad mb (.ls pl en.ls)) (h40 : D5 P w0 w bad mb (.k kv0 k0)) (h4 : D5 P w0 w bad mb (.k kv k)) (hi : i < t.args.length) :
    Calls Tryz.prog 197 #[.agg (evV t va vc pv pl kv0), .int .i64 i, kv] w fun e w' => (∃ v, e = .returned v ∧ RTk P w0 w' bad mb (.ev (t.args.getD i noTm) en k) v) ∧ Ext w w' := by
  have H2 := Lib.hid h2
  have H3 := Lib.hid h3
  have H4 := Lib.hid h4
  obtain ⟨pv, rfl⟩ := h2.vs_form
  obtain ⟨pl, rfl⟩ := h3.ls_form
  obtain ⟨tk, uk, rfl⟩ := h4.k_form
  obtain ⟨tk0, uk0, rfl⟩ := h40.k_form
  obtain ⟨⟨Aa, ca, rfl, hla, hma⟩, ⟨Ab, cb, rfl, -, -⟩⟩ := ht.form
  obtain ⟨b, o, xa, xc, rfl, h6, h7⟩ := ht.arg hx hi
  obtain ⟨⟨Ax, cx, rfl, -, -⟩, ⟨Ay, cy, rfl, -, -⟩⟩ := h7.form
  have H7 := Lib.hid h7
  clear h2 h3 h4 h40 h7 ht
  unfold maxLen at hma
  generalize t.args.getD i noTm = x at *
  have HN := heapNew w (.cells (evV t (.slice (some ⟨b, o, none⟩) t.args.length ca) (.slice Ab t.cls.length cb) (.pointer pv) (.pointer pl) (.iface tk0 uk0)) 161)
  have HE := Lib.hid (Ext.al w (.cells (evV t (.slice (some ⟨b, o, none⟩) t.args.length ca) (.slice Ab t.cls.length cb) (.pointer pv) (.pointer pl) (.iface tk0 uk0)) 161))
  obtain ⟨y0, y1, y2, y3, y4, y5⟩ := h6.below HE.out
  obtain ⟨c0, c1, c2, c3, c4, c5, c6, c7, c8⟩ := cells5_9 HN
  clear HN h6
  have hlt : (i : Int) < t.args.length := by omega
  generalize hal : t.args.length = la at *
  clear hal
  go_enter Tryz.func197, Tryz.ntmps197
  go_wp2
  generalize w.alloc _ = w1 at *
  go_quiet (fail)
  go_wp2
  go_ret
  exact ⟨⟨_, rfl, _, _, _, _, _, rfl, H7.out, (H2.out.ext HE.out).ext (Ext.drewNx (Ext.rf _) _), (H3.out.ext HE.out).ext (Ext.drewNx (Ext.rf _) _), (H4.out.ext HE.out).ext (Ext.drewNx (Ext.rf _) _)⟩, HE.out.drewNx _⟩
end Go.Proofs.YtkdglplfcpindaaGreatDoor

/- value.go: force; machine.go: end. -/
namespace Go.Proofs.YtkdglplfcpindaaGreatDoor
open Go.RowKit

set_option maxHeartbeats 1000000 in
set_option maxRecDepth 100000 in
theorem fheld_any (P : Pg) (w0 w : World) (bad : Nat → Prop) (mb : Nat) (x : Vl) (k : Kt) (a kv : Value) (h : D5 P w0 w bad mb (.v a x)) (h4 : D5 P w0 w bad mb (.k kv k)) :
    Calls Tryz.prog 188 #[.agg #[a], kv] w fun e w' => (∃ v, e = .returned v ∧ RTk P w0 w' bad mb (.pass x k) v) ∧ Ext w w' := by
  have H := Lib.hid h
  have H4 := Lib.hid h4
  obtain ⟨ta, ua, rfl⟩ := h.v_form
  obtain ⟨tk, uk, rfl⟩ := h4.k_form
  clear h h4
  have HE := Lib.hid (Ext.al w (.cells #[.iface ta ua] 96))
  have c0 := cellAt (heapNew w (.cells #[.iface ta ua] 96)) 0
  go_enter Tryz.func188, Tryz.ntmps188
  go_wp2
  go_ret
  exact ⟨⟨_, rfl, _, _, rfl, H.out.ext HE.out, H4.out.ext HE.out⟩, HE.out⟩
theorem cells5_8 {w : World} {b T : Nat} {a0 a1 a2 a3 a4 a5 a6 a7 : Value} (h : w.heap[b]? = some (.cells #[a0, a1, a2, a3, a4, a5, a6, a7] T (0, 0))) :
    w.cell? ⟨b, 0, none⟩ = some a0 ∧ w.cell? ⟨b, 1, none⟩ = some a1 ∧ w.cell? ⟨b, 2, none⟩ = some a2 ∧ w.cell? ⟨b, 3, none⟩ = some a3 ∧ w.cell? ⟨b, 4, none⟩ = some a4 ∧ w.cell? ⟨b, 5, none⟩ = some a5 ∧ w.cell? ⟨b, 6, none⟩ = some a6 ∧ w.cell? ⟨b, 7, none⟩ = some a7 :=
  ⟨cellAt h 0, cellAt h 1, cellAt h 2, cellAt h 3, cellAt h 4, cellAt h 5, cellAt h 6, cellAt h 7⟩
set_option maxHeartbeats 1000000 in
set_option maxRecDepth 100000 in
theorem fthunk_any (P : Pg) (w0 w : World) (bad : Nat → Prop) (mb : Nat) (t : Tm) (en : En) (k : Kt) (va vc pv pl kv : Value) (ht : RTx w0 t va vc) (h2 : D5 P w0 w bad mb (.vs pv en.vs)) (h3 : D5 P w0 w bad mb (.ls pl en.ls)) (h4 : D5 P w0 w bad mb (.k kv k)) :
    Calls Tryz.prog 220 #[.agg (clV t va vc pv pl), kv] w fun e w' => (∃ v, e = .returned v ∧ RTk P w0 w' bad mb (.ev t en k) v) ∧ Ext w w' := by
  have HT := Lib.hid ht
  have H2 := Lib.hid h2
  have H3 := Lib.hid h3
  have H4 := Lib.hid h4
  obtain ⟨pv, rfl⟩ := h2.vs_form
  obtain ⟨pl, rfl⟩ := h3.ls_form
  obtain ⟨tk, uk, rfl⟩ := h4.k_form
  obtain ⟨⟨Aa, ca, rfl, -, -⟩, ⟨Ab, cb, rfl, -, -⟩⟩ := ht.form
  clear h2 h3 h4 ht
  have HE := Lib.hid (Ext.al w (.cells (clV t (.slice Aa t.args.length ca) (.slice Ab t.cls.length cb) (.pointer pv) (.pointer pl)) 309))
  obtain ⟨c0, c1, c2, c3, c4, c5, c6, c7⟩ := cells5_8 (heapNew w (.cells (clV t (.slice Aa t.args.length ca) (.slice Ab t.cls.length cb) (.pointer pv) (.pointer pl)) 309))
  go_enter Tryz.func220, Tryz.ntmps220
  go_wp2
  go_ret
  exact ⟨⟨_, rfl, _, _, _, _, _, rfl, HT.out, H2.out.ext HE.out, H3.out.ext HE.out, H4.out.ext HE.out⟩, HE.out⟩

/-- The machine's own block. -/
def MB (w : World) (mb : Nat) (vd vf lz ov : Value) (fuel en vl st : Int) : Prop :=
  w.heap[mb]? = some (.cells #[vd, vf, lz, .int .i64 fuel, .int .i64 en, .int .i64 vl, ov, .int .i64 st] 88 (0, 0))
theorem set8_end {w : World} {r T : Nat} {a0 a1 a2 a3 a4 a5 a6 a7 : Value} (h : w.heap[r]? = some (.cells #[a0, a1, a2, a3, a4, a5, a6, a7] T (0, 0))) (v : Value) : (w.setCell ⟨r, 4, none⟩ v).heap[r]? = some (.cells #[a0, a1, a2, a3, v, a5, a6, a7] T (0, 0)) := by
  simp [World.setCell, Array.getElem?_modify, h]
theorem set8_val {w : World} {r T : Nat} {a0 a1 a2 a3 a4 a5 a6 a7 : Value} (h : w.heap[r]? = some (.cells #[a0, a1, a2, a3, a4, a5, a6, a7] T (0, 0))) (v : Value) : (w.setCell ⟨r, 5, none⟩ v).heap[r]? = some (.cells #[a0, a1, a2, a3, a4, v, a6, a7] T (0, 0)) := by
  simp [World.setCell, Array.getElem?_modify, h]
theorem set8_outs {w : World} {r T : Nat} {a0 a1 a2 a3 a4 a5 a6 a7 : Value} (h : w.heap[r]? = some (.cells #[a0, a1, a2, a3, a4, a5, a6, a7] T (0, 0))) (v : Value) : (w.setCell ⟨r, 6, none⟩ v).heap[r]? = some (.cells #[a0, a1, a2, a3, a4, a5, v, a7] T (0, 0)) := by
  simp [World.setCell, Array.getElem?_modify, h]
theorem set8_steps {w : World} {r T : Nat} {a0 a1 a2 a3 a4 a5 a6 a7 : Value} (h : w.heap[r]? = some (.cells #[a0, a1, a2, a3, a4, a5, a6, a7] T (0, 0))) (v : Value) : (w.setCell ⟨r, 7, none⟩ v).heap[r]? = some (.cells #[a0, a1, a2, a3, a4, a5, a6, v] T (0, 0)) := by
  simp [World.setCell, Array.getElem?_modify, h]
theorem only5_set (w : World) (r i : Nat) (v : Value) : Only (fun j => j = r) w (w.setCell ⟨r, i, none⟩ v) := Only.setCell (C := fun j => j = r) (p := ⟨r, i, none⟩) rfl w v

set_option maxHeartbeats 1000000 in
set_option maxRecDepth 100000 in
theorem mend_any (w : World) (mb : Nat) (vd vf lz ov : Value) (fuel en vl st how : Int) (h : MB w mb vd vf lz ov fuel en vl st) :
    Calls Tryz.prog 186 #[.pointer (some ⟨mb, 0, none⟩), .int .i64 how] w fun e w' => (e = .returned .nilIface ∧ MB w' mb vd vf lz ov fuel how vl st) ∧ Only (fun j => j = mb) w w' := by
  have HM := Lib.hid h
  have HS := Lib.hid (set8_end h (.int .i64 how))
  have HO := Lib.hid (only5_set w mb 4 (.int .i64 how))
  have f4 := frozenAt h 4
  have c4 := cellAt h 4
  clear h
  go_enter Tryz.func186, Tryz.ntmps186
  go_wp2
  go_ret
  exact ⟨⟨rfl, HS.out⟩, HO.out⟩
end Go.Proofs.YtkdglplfcpindaaGreatDoor

/- prim.go: Result. -/
namespace Go.Proofs.YtkdglplfcpindaaGreatDoor
open Go.RowKit

theorem w64 (e : Int) : wrap64 e = wr64 e := by unfold wrap64 wr64; rfl
theorem primR_0 (a b : Int) : primR 0 a b = wrap64 (a + b) := by rw [w64]; rfl
theorem primR_1 (a b : Int) : primR 1 a b = wrap64 (a - b) := by rw [w64]; rfl
theorem primR_2 (a b : Int) : primR 2 a b = wrap64 (a * b) := by rw [w64]; rfl
theorem primR_3 (a b : Int) : primR 3 a b = quotP a b := rfl
theorem primR_4 (a b : Int) : primR 4 a b = wrap64 (a - wrap64 (b * quotP a b)) := by rw [w64, w64]; rfl
set_option maxHeartbeats 1000000 in
theorem truth_any (b : Bool) (w : World) : Calls Tryz.prog 224 #[.bool b] w fun e w' => e = .returned (.int .i64 (if b then 1 else 0)) ∧ w = w' := by
  cases b
  all_goals
    go_enter Tryz.func224, Tryz.ntmps224
    go_wp2
    go_ret
    exact ⟨rfl, rfl⟩
set_option maxHeartbeats 1000000 in
theorem quot_any (a b : Int) (w : World) : Calls Tryz.prog 223 #[.int .i64 a, .int .i64 b] w fun e w' => e = .returned (.int .i64 (quotP a b)) ∧ w = w' := by
  by_cases hb : b = 0
  · subst hb
    go_enter Tryz.func223, Tryz.ntmps223
    go_wp2
    go_ret
    exact ⟨rfl, rfl⟩
  · have hq : (b == 0) = false := by simpa using hb
    have hq2 : quotP a b = wr64 (a.tdiv b) := by unfold quotP; rw [if_neg hb]
    have HQ := Lib.hid hq2
    clear hq2
    go_enter Tryz.func223, Tryz.ntmps223
    go_wp2
    go_ret
    exact ⟨by rw [HQ.out, ← w64]; rfl, rfl⟩
def opB (n : Int) : Prop := n = 0 ∨ n = 1 ∨ n = 2 ∨ n = 3 ∨ n = 4 ∨ n = 5 ∨ n = 6
set_option maxHeartbeats 1000000 in
theorem prim_any (n a b : Int) (w : World) (hn : 0 ≤ n ∧ n ≤ 6) : Calls Tryz.prog 222 #[.int .i64 n, .int .i64 a, .int .i64 b] w fun e w' => e = .returned (.int .i64 (primR n a b)) ∧ w = w' := by
  have : n = 0 ∨ n = 1 ∨ n = 2 ∨ n = 3 ∨ n = 4 ∨ n = 5 ∨ n = 6 := by omega
  rcases this with rfl | rfl | rfl | rfl | rfl | rfl | rfl
  case inr.inr.inr.inr.inr.inl =>
    have HP : Hid (primR 5 a b = if a = b then 1 else 0) := rfl
    generalize primR 5 a b = r at *
    by_cases hab : a = b
    · have hq : (a == b) = true := by simpa using hab
      clear hab
      go_enter Tryz.func222, Tryz.ntmps222
      go_wp2_with (go_at_call 224; (with_reducible refine (truth_any _ _).mono ?_); rintro e w' ⟨rfl, rfl⟩)
      go_ret
      exact ⟨by rw [HP.out, if_pos (by simpa using hq)]; rfl, rfl⟩
    · have hq : (a == b) = false := by simpa using hab
      clear hab
      go_enter Tryz.func222, Tryz.ntmps222
      go_wp2_with (go_at_call 224; (with_reducible refine (truth_any _ _).mono ?_); rintro e w' ⟨rfl, rfl⟩)
      go_ret
      exact ⟨by rw [HP.out, if_neg (by simpa using hq)]; rfl, rfl⟩
  case inr.inr.inr.inr.inr.inr =>
    have HP : Hid (primR 6 a b = if a < b then 1 else 0) := rfl
    generalize primR 6 a b = r at *
    by_cases hab : a < b
    · have HAB := Lib.hid hab
      go_enter Tryz.func222, Tryz.ntmps222
      go_wp2_with (go_at_call 224; (with_reducible refine (truth_any _ _).mono ?_); rintro e w' ⟨rfl, rfl⟩)
      go_ret
      exact ⟨by rw [HP.out, if_pos HAB.out]; rfl, rfl⟩
    · have HAB : Hid (¬ a < b) := hab
      have hab2 : b ≤ a := by omega
      clear hab
      go_enter Tryz.func222, Tryz.ntmps222
      go_wp2_with (go_at_call 224; (with_reducible refine (truth_any _ _).mono ?_); rintro e w' ⟨rfl, rfl⟩)
      go_ret
      exact ⟨by rw [HP.out, if_neg (by have := HAB.out; omega)]; rfl, rfl⟩
  all_goals
    go_enter Tryz.func222, Tryz.ntmps222
    go_wp2_with (go_at_call 223; (with_reducible refine (quot_any _ _ _).mono ?_); rintro e w' ⟨rfl, rfl⟩)
    go_ret
    exact ⟨by first | (rw [primR_0]; rfl) | (rw [primR_1]; rfl) | (rw [primR_2]; rfl) | (rw [primR_3]; rfl) | (rw [primR_4]; rfl), rfl⟩
end Go.Proofs.YtkdglplfcpindaaGreatDoor

/- ref.go: lists of integers. -/
namespace Go.Proofs.YtkdglplfcpindaaGreatDoor
open Go.RowKit

def RInts (w : World) (v : Value) (l : List Int) : Prop :=
  ∃ A c, v = .slice A l.length c ∧ l.length ≤ c ∧ c ≤ maxLen ∧
    ∀ i a, l[i]? = some a → ∃ b o, A = some ⟨b, o, none⟩ ∧ b < w.heap.size ∧ w.cell? ⟨b, o + i, none⟩ = some (.int .i64 a)
theorem RInts.below {w w' : World} {v : Value} {l : List Int} (h : RInts w v l) (hb : Ext w w') : RInts w' v l := by
  obtain ⟨A, c, rfl, h1, h2, h3⟩ := h
  refine ⟨A, c, rfl, h1, h2, fun i a hi => ?_⟩
  obtain ⟨b, o, rfl, hlt, h4⟩ := h3 i a hi
  exact ⟨b, o, rfl, Nat.lt_of_lt_of_le hlt hb.size, hb.keep h4⟩
theorem RInts.form {w : World} {v : Value} {l : List Int} (h : RInts w v l) : ∃ A c, v = .slice A l.length c ∧ l.length ≤ c ∧ c ≤ maxLen := by
  obtain ⟨A, c, h1, h2, h3, _⟩ := h; exact ⟨A, c, h1, h2, h3⟩
theorem RInts.at_ {w : World} {l : List Int} {A : Option Addr} {c : Nat} (h : RInts w (.slice A l.length c) l) {k : Nat} (hk : k < l.length) :
    ∃ b o, A = some ⟨b, o, none⟩ ∧ b < w.heap.size ∧ w.cell? ⟨b, o + k, none⟩ = some (.int .i64 l[k]) := by
  obtain ⟨A', c', he, h1, h2, h3⟩ := h
  cases he
  exact h3 k _ (List.getElem?_eq_getElem hk)
theorem own_ints {w : World} {B : Nat} {v : Value} {l : List Int} (h : w.ownsRow B 3 1 v l.length (l.map (Value.int .i64))) : RInts w v l := by
  rcases h.2 with ⟨rfl, h0⟩ | ⟨g, cap, cur, rfl, e2, e3, e4, e5, e6, e7⟩
  · have hL : l = [] := List.eq_nil_of_length_eq_zero h0
    subst hL
    exact ⟨none, 0, rfl, Nat.le_refl _, Nat.zero_le _, fun i x hx => by simp at hx⟩
  · refine ⟨_, cap, rfl, e4, e5, fun i x hx => ?_⟩
    have hi : i < l.length := (List.getElem?_eq_some_iff.1 hx).1
    refine ⟨g, 0, rfl, (Array.getElem?_eq_some_iff.1 e3).1, ?_⟩
    rw [Nat.zero_add, World.ownsRow.cellAt h i (by omega), List.getElem?_map, hx]; rfl

/-! ### equal lists of lists -/
end Go.Proofs.YtkdglplfcpindaaGreatDoor

/- rules.go: signatures; slices.Equal, SameInts, Producers. -/
namespace Go.Proofs.YtkdglplfcpindaaGreatDoor
open Go.RowKit

/-- A row of integers that the call owns. -/
abbrev OwnL (w : World) (B : Nat) (v : Value) (l : List Int) : Prop := w.ownsRow B 3 1 v l.length (l.map (Value.int .i64))
theorem eqL_cons (a b : Int) (l m : List Int) : eqL (a :: l) (b :: m) = (decide (a = b) && eqL l m) := rfl
theorem eqL_len : ∀ (a b : List Int), ¬ a.length = b.length → eqL a b = false
  | [], [], h => by simp at h
  | [], _ :: _, _ => rfl
  | _ :: _, [], _ => rfl
  | x :: a, y :: b, h => by rw [eqL_cons, eqL_len a b (by simpa using h), Bool.and_false]
theorem own_shapeL {w : World} {B e size n : Nat} {v : Value} {xs : List Value} (h : w.ownsRow B e size v n xs) : ∃ A c, v = .slice A n c := by
  rcases h.2 with ⟨rfl, rfl⟩ | ⟨g, cap, _, hv, _⟩
  · exact ⟨none, 0, rfl⟩
  · exact ⟨_, cap, hv⟩
set_option maxHeartbeats 2000000 in
set_option maxRecDepth 100000 in
theorem same_ints_any (v v' : Value) (a b : List Int) (w : World) (h : RInts w v a) (h' : RInts w v' b) :
    Calls Tryz.prog 19 #[v, v'] w fun e w' => e = .returned (.bool (eqL a b)) ∧ Ext w w' := by
  have HR := Lib.hid h
  have HR' := Lib.hid h'
  have hmx : Tryz.prog.follows .mixedOrders = true := by kernel_rfl
  obtain ⟨A, c, rfl, hc, hm⟩ := h.form
  obtain ⟨A', c', rfl, hc', hm'⟩ := h'.form
  clear h h'
  unfold maxLen at hm hm'
  go_enter Tryz.func19, Tryz.ntmps19
  by_cases hl : a.length = b.length
  · have HL := Lib.hid hl
    have hlt' : ((a.length : Int) == b.length) = true := by simp [hl]
    have hlt2 : ((a.length : Int) != b.length) = false := by simp [hl]
    have hle : a.length ≤ b.length := by omega
    clear hl
    go_wp2
    go_loopw [13] (fun i wr => ∃ k : Nat, k ≤ a.length ∧ i = .int .i64 k ∧ Ext w wr ∧ eqL a b = eqL (a.drop k) (b.drop k)) (fun i _ => a.length - (intOf i).toNat)
    case atStart => exact ⟨0, Nat.zero_le _, rfl, Ext.rf _, rfl⟩
    case round =>
      obtain ⟨k, hk, rfl, hb, hno⟩ := hrel
      have HN := Lib.hid hno; have HB := Lib.hid hb
      clear hno hb
      by_cases hlt : k < a.length
      · obtain ⟨b1, o1, rfl, hbl1, g0⟩ := HR.out.at_ hlt
        obtain ⟨b2, o2, rfl, hbl2, f0⟩ := HR'.out.at_ (k := k) (by omega)
        have g0 := ExtOf.cell (HB.out.keep g0)
        have f0 := ExtOf.cell (HB.out.keep f0)
        have HD := Lib.hid (drop_step hlt)
        have HD' := Lib.hid (drop_step (l := b) (k := k) (by omega))
        generalize a[k] = x at *
        generalize b[k] = y at *
        have hk2 : k < b.length := by omega
        by_cases hxy : x = y
        · have hq : (x != y) = false := by simp [hxy]
          have HQ : Hid (decide (x = y) = true) := decide_eq_true hxy
          clear hxy
          go_wp2
          refine wp_region_ext (w0 := wr) hmx (by kernel_rfl) (Ext.rf _) ?_
          repeat (first | go_big_quiet_step (fail) | quiet_step (fail))
          refine wpQuiet_nil ?_
          rintro _ ⟨⟨w9, hx⟩, rfl⟩
          have HX9 := Lib.hid (HB.out.tr hx)
          clear hx
          go_wp2
          go_roundw
          case rel => exact ⟨k + 1, by omega, by go_num, HX9.out, by rw [HN.out, HD.out, HD'.out, eqL_cons, HQ.out]; rfl⟩
          case measure => simp [intOf]; omega
        · have hq : (x != y) = true := by simp [hxy]
          have HQ : Hid (decide (x = y) = false) := decide_eq_false hxy
          clear hxy
          go_wp2
          refine wp_region_ext (w0 := wr) hmx (by kernel_rfl) (Ext.rf _) ?_
          repeat (first | go_big_quiet_step (fail) | quiet_step (fail))
          refine wpQuiet_nil ?_
          rintro _ ⟨⟨w9, hx⟩, rfl⟩
          have HX9 := Lib.hid (HB.out.tr hx)
          clear hx
          go_wp2
          go_ret
          exact ⟨ret_bool (by rw [HN.out, HD.out, HD'.out, eqL_cons, HQ.out]; rfl), HX9.out⟩
      · go_wp2
        go_ret
        have hlb : ¬ k < b.length := by have := HL.out; omega
        exact ⟨ret_bool (by rw [HN.out, drop_end hlt, drop_end hlb]; rfl), HB.out⟩
  · have hlt' : ((a.length : Int) == b.length) = false := by simp; omega
    have hlt2 : ((a.length : Int) != b.length) = true := by simp; omega
    have HQ := Lib.hid (eqL_len a b hl)
    go_wp2
    go_ret
    exact ⟨ret_bool HQ.out.symm, Ext.rf _⟩
end Go.Proofs.YtkdglplfcpindaaGreatDoor

/- append of strings to a row that the call owns. -/
namespace Go.Proofs.YtkdglplfcpindaaGreatDoor
open Go.RowKit

theorem own_below {w w' : World} {B : Nat} {e : TypeId} {k : Nat} {v : Value} {n : Nat} {xs : List Value} (h : w.ownsRow B e k v n xs) (hb : Ext w w') : w'.ownsRow B e k v n xs :=
  h.kept (row := none) ⟨hb.os, hb.tape, hb.output, hb.size, fun j hj _ => hb.block j hj⟩ (by cases hv : v.ownBlock <;> simp)
theorem own_base {w : World} {B B' : Nat} {e : TypeId} {k : Nat} {v : Value} {n : Nat} {xs : List Value} (h : w.ownsRow B e k v n xs) (hb : B' ≤ B) : w.ownsRow B' e k v n xs :=
  ⟨h.1, h.2.elim Or.inl (fun ⟨g, cap, cur, hv, hg, r⟩ => Or.inr ⟨g, cap, cur, hv, Nat.le_trans hb hg, r⟩)⟩

theorem grown_ext' {w w' : World} {v : Value} {B e size : Nat} {n : Nat} {xs : List Value} (hg : w.grownBy w' v.ownBlock) (hv : w.ownsRow B e size v n xs) (hB : B ≤ w.heap.size) : Below B w w' :=
  Below.grown (Below.refl _ _) hg hB (fun j e => (hv.lt j e).1)

/-! ### append, whatever the element -/
theorem run_append_nil {w : World} {base : Nat} {t ty e : TypeId} {i : TypeInfo} {size c : Nat} (ht : Tryz.prog.underlying t = some (.slice e)) (hi : Tryz.prog.info? e = some i) {v : Value} {n : Nat} {xs : List Value} (hown : w.ownsRow base e size v n xs) :
    (Builtin.append_ #[t, t] ty #[v, .slice none 0 c]).run Tryz.prog w = .ok v w := by
  rcases hown.2 with ⟨rfl, rfl⟩ | ⟨g, cap, cur, rfl, _, _, hnc, _⟩
  · simp [Builtin.append_, run_underlying ht, sizeOf, typeInfo, hi, Builtin.lenOf, Builtin.firstCells]
  · simp [Builtin.append_, run_underlying ht, sizeOf, typeInfo, hi, Builtin.lenOf, Builtin.firstCells, hnc, storeCells]
def SrcN (w : World) (A : Option Addr) (m size : Nat) (news : List Value) : Prop :=
  (A = none ∧ m = 0 ∧ news = []) ∨ ∃ ad, A = some ad ∧ news.length = m * size ∧ ∀ (j : Nat) u, news[j]? = some u → w.cell? (ad.add j) = some u
theorem app_row {t e size bytes : Nat} {z : Value} (hu : Tryz.prog.underlying t = some (.slice e)) (hinf : (Tryz.prog.info? e).map (fun i => (i.zero, i.size, i.bytes)) = some (some z, size, bytes)) (hzs : z.cells.size = size) (hsz : 0 < size)
    {w : World} {o : Oper} {a : Act} {K : Act → World → Prop} {Q : Exit → Act → World → Prop} (s x : Operand)
    (ho : o.op = .call { callee := .builtin .append, args := #[s, x], argTypes := #[t, t] })
    (B : Nat) (v : Value) (n : Nat) (xs : List Value) (hs : a.eval s = v) (hown : w.ownsRow B e size v n xs)
    (A : Option Addr) (m c : Nat) (news : List Value) (hx : a.eval x = .slice A m c) (hsrc : SrcN w A m size news) (h1 : ∀ u ∈ news, u.oneCell' = true)
    (hnm : n + m ≤ maxLen) (hby : (n + m) * bytes ≤ 140737488355328) (hB : B ≤ w.heap.size)
    (h : ∀ v' w', w'.ownsRow B e size v' (n + m) (xs ++ news) → w.grownBy w' v.ownBlock → (v'.ownBlock = v.ownBlock ∨ v'.ownBlock = some w.heap.size) → K (a.put o.dst v') w') : o.wp Tryz.prog a w K Q := by
  obtain ⟨i0, hi1, hz0, hz1, hz2⟩ := info_parts hinf
  rcases hsrc with ⟨rfl, rfl, rfl⟩ | ⟨ad, rfl, hl, hc⟩
  · have hr := run_append_nil (c := c) (ty := o.type) hu hi1 hown
    have hk := h v w (by simpa using hown) (World.grownBy.refl w _) (.inl rfl)
    unfold Oper.wp execOp
    simp only [ho, resolve, invoke, builtin, Sem.run_bind, Sem.run_pure, Result.andThen_ok, List.map_toArray, List.map_cons, List.map_nil, hs, hx, hr]
    exact hk
  · obtain ⟨v', w', hr, h2, h3, _, h5⟩ := run_append_own_at (P := Tryz.prog) w B t o.type e i0 z size bytes hu hi1 hz0 hz1 hz2 hzs hsz v n xs hown ad m c news hl hc h1 hnm hby hB
    unfold Oper.wp execOp
    simp only [ho, resolve, invoke, builtin, Sem.run_bind, Sem.run_pure, Result.andThen_ok, List.map_toArray, List.map_cons, List.map_nil, hs, hx, hr]
    exact h v' w' h2 h3 h5

theorem add_at (b o k : Nat) : (⟨b, o, none⟩ : Addr).add k = ⟨b, o + k, none⟩ := by
  by_cases hk : k = 0 <;> simp [Addr.add, hk]
theorem RStrs.src {w : World} {A : Option Addr} {c : Nat} {l : List Str} (h : RStrs w (.slice A l.length c) l) : SrcN w A l.length 1 (l.map Value.string) := by
  cases A with
  | none =>
    cases l with
    | nil => exact .inl ⟨rfl, rfl, rfl⟩
    | cons a r =>
      obtain ⟨_, _, hA, _⟩ := h.at_ (k := 0) (by simp)
      cases hA
  | some ad =>
    refine .inr ⟨ad, rfl, by simp, fun j u hu => ?_⟩
    rw [List.getElem?_map] at hu
    obtain ⟨s, hs, rfl⟩ := Option.map_eq_some_iff.1 hu
    obtain ⟨hlt, rfl⟩ := List.getElem?_eq_some_iff.1 hs
    obtain ⟨b, o, hA, _, c0, _⟩ := h.at_ hlt
    cases hA
    rw [add_at]; exact c0
theorem strs_one (l : List Str) : ∀ u ∈ l.map Value.string, u.oneCell' = true := by
  intro u hu
  obtain ⟨s, _, rfl⟩ := List.mem_map.1 hu
  rfl
end Go.Proofs.YtkdglplfcpindaaGreatDoor
