import Derived.Test.YtkdglplfcpindaaGreatDoorQ37
import Derived.Deep.RegionLaw
set_option maxRecDepth 100000
namespace Go.Proofs.YtkdglplfcpindaaGreatDoor
open Go.RowKit
set_option maxHeartbeats 8000000 in
theorem rcvBind_any (P : Pg) (w0 w : World) (bad : Nat -> Prop) (mb bk : Nat) (vd vf ov t0 t1 t2 t3 t4 t5 ev : Value) (fu en vl st : Int) (t : Tm) (e : En) (k : Kt) (va vc ef kf : Value) (l : List It) (al : Value) (x : Vl) (kv n ty : Int) (A1 A2 : Option Addr) (n1 n2 m1 m2 : Nat) (pv : Option Addr) (hC : CR P w0 w bad mb vd vf) (hz : MZ w mb vd vf fu en vl ov st (.bool false) t0 t1 t2 t3 t4 t5 ev (.int .i64 kv) (.int .i64 n) (.int .i64 ty) (.slice A1 n1 m1) (.slice A2 n2 m2) (.pointer pv) (.pointer (some ⟨bk, 0, none⟩)) (.bool false)) (hb : w.heap[bk]? = some (.cells (frV 1 t va vc ef al 0 kf) 75 (0, 0))) (hnb : ¬ bad bk) (ht : RTx w0 t va vc) (hv : DR P w0 w bad (.v #[.int .i64 kv, .int .i64 n, .int .i64 ty, .slice A1 n1 m1, .slice A2 n2 m2, .pointer pv] x)) (he : DR P w0 w bad (.e ef e.vs e.ls)) (hk : DR P w0 w bad (.k kf k)) (hl : DR P w0 w bad (.is al l)) (hfit : fitsT P t = true) (h0 : t.op = 4 ∨ t.op = 6 ∨ t.op = 8 ∨ t.op = 9) (hll : l.length < (typesOf P t).length) :
    Calls Tryz.prog 29 #[.pointer (some ⟨mb, 0, none⟩)] w fun z w' => (z = .returned (.tuple #[]) /\ RQ P w0 w' bad mb vd vf fu en vl ov st (resS P t e k ((termsOf t).drop (l.length + 1)) ((typesOf P t).drop (l.length + 1)) (l ++ [.held x]))) /\ Only (fun b => b = mb) w w' := by
  have HC := LH hC
  have HZ := LH hz
  have HMA : Hid (MA w mb vd vf fu en vl ov st (.bool false)) := ⟨_, _, _, _, _, _, _, _, _, _, _, _, _, _, _, hz⟩
  have HT := LH ht
  have HK := LH hk
  have HE := LH he
  have HL := LH hl
  have HV := LH hv
  have HLL := LH hll
  have HFIT := LH hfit
  have HOP := LH h0
  have HRG := LH (types_range hC.prog hfit h0)
  have HNK : Hid (bk ≠ mb) := by show bk ≠ mb; exact fun e => hnb (e ▸ hC.tu)
  obtain ⟨bk', rfl⟩ := hk.k_form
  obtain ⟨pe, rfl⟩ := he.e_form
  obtain ⟨Al, cl, rfl, -, -⟩ := hl.is_form
  obtain ⟨⟨Aa, ca, rfl, -, -⟩, ⟨Ab, cb, rfl, -, -⟩⟩ := ht.form
  have HBK := LH hb
  have lbk0 := hLt hb
  have HNW : Hid (w.heap.size ≠ mb) := by show _ ≠ _; have := hC.nb _ hC.tu; omega
  have HEX := LH (Ext.al w (.cells #[.int .i64 kv, .int .i64 n, .int .i64 ty, .slice A1 n1 m1, .slice A2 n2 m2, .pointer pv] 63))
  have HBX := LH (hNw w (.cells #[.int .i64 kv, .int .i64 n, .int .i64 ty, .slice A1 n1 m1, .slice A2 n2 m2, .pointer pv] 63))
  have m15 := cA hz 15
  have m16 := cA hz 16
  have m17 := cA hz 17
  have m18 := cA hz 18
  have m19 := cA hz 19
  have m20 := cA hz 20
  have m21 := cA hz 21
  have hlt := hLt hz
  clear hC hz hb ht hk he hnb hl hv hll hfit h0
  go_enter Tryz.func29, Tryz.ntmps29
  go_wp2
  go_region
  have HEX1 : Hid (Ext w (w.alloc (.cells #[.int .i64 kv, .int .i64 n, .int .i64 ty, .slice A1 n1 m1, .slice A2 n2 m2, .pointer pv] 63)).drew) := HEX.out.drew
  have HBX1 : Hid ((w.alloc (.cells #[.int .i64 kv, .int .i64 n, .int .i64 ty, .slice A1 n1 m1, .slice A2 n2 m2, .pointer pv] 63)).drew.heap[w.heap.size]? = some (.cells #[.int .i64 kv, .int .i64 n, .int .i64 ty, .slice A1 n1 m1, .slice A2 n2 m2, .pointer pv] 63 (0, 0))) := HBX.out
  clear HEX HBX m15 m16 m17 m18 m19 m20 m21
  generalize (w.alloc _).drew = w1 at *
  obtain ⟨b0, b1, b2, b3, b4, b5⟩ := cells6 HBX1.out
  have lbx := hLt HBX1.out
  have HBK1 := LH ((HEX1.out.block _ (hLt HBK.out)).trans HBK.out)
  have f0 := cA HBK1.out 0
  have f1 := cA HBK1.out 1
  have f2 := cA HBK1.out 2
  have f3 := cA HBK1.out 3
  have f4 := cA HBK1.out 4
  have f5 := cA HBK1.out 5
  have f6 := cA HBK1.out 6
  have f7 := cA HBK1.out 7
  have f8 := cA HBK1.out 8
  have f9 := cA HBK1.out 9
  have f10 := cA HBK1.out 10
  have lbk := hLt HBK1.out
  obtain ⟨Ar', cr', xs, e6, hsrc, hbr⟩ := (HL.out.ext HEX1.out).cells
  simp only [Value.slice.injEq] at e6
  obtain ⟨e7, -, e8⟩ := e6
  subst e7 e8
  have HSX : Hid (∀ W, Ext w1 W -> SrcN W Al l.length 14 xs) := fun W hW => hsrc.ext hW
  have HBR := LH hbr
  have HDN : Hid (DR P w0 w1 bad (.b #[.bool false, .int .i64 kv, .int .i64 n, .int .i64 ty, .slice A1 n1 m1, .slice A2 n2 m2, .pointer pv, zi, zi, ze, zi, zs, zs, zp] (.held x))) := .held _ _ _ _ _ _ _ (HV.out.ext HEX1.out)
  have HL6 : Hid (l.length <= 6) := by show _ <= _; have := HRG.out.2; have := HLL.out; omega
  have HBN1 : Hid (∀ W : World, (W.alloc (Obj.cells #[.bool false, .int .i64 kv, .int .i64 n, .int .i64 ty, .slice A1 n1 m1, .slice A2 n2 m2, .pointer pv, zi, zi, ze, zi, zs, zs, zp] 71)).heap[W.heap.size]? = some (Obj.cells #[.bool false, .int .i64 kv, .int .i64 n, .int .i64 ty, .slice A1 n1 m1, .slice A2 n2 m2, .pointer pv, zi, zi, ze, zi, zs, zs, zp] 71)) := fun W => hNw W _
  have HNONE : Hid (∀ u ∈ ([.bool false, .int .i64 kv, .int .i64 n, .int .i64 ty, .slice A1 n1 m1, .slice A2 n2 m2, .pointer pv, zi, zi, ze, zi, zs, zs, zp] : List Value), u.oneCell' = true) := fun u hu => by
    obtain ⟨j, hj⟩ := List.mem_iff_getElem?.1 hu
    exact HDN.out.b_one j u (by simpa using hj)
  have HSRC1 : Hid (∀ (W : World) (b : Nat), W.heap[b]? = some (Obj.cells #[.bool false, .int .i64 kv, .int .i64 n, .int .i64 ty, .slice A1 n1 m1, .slice A2 n2 m2, .pointer pv, zi, zi, ze, zi, zs, zs, zp] 71) -> SrcN W (some ⟨b, 0, none⟩) 1 14 [.bool false, .int .i64 kv, .int .i64 n, .int .i64 ty, .slice A1 n1 m1, .slice A2 n2 m2, .pointer pv, zi, zi, ze, zi, zs, zs, zp]) := fun W b hb => src14 hb
  have HLE : Hid ((l ++ [It.held x]).length = l.length + 1) := by show _ = _; rw [List.length_append]; rfl
  have HF := LH (show w1.cell? ⟨bk, 1, none⟩ = _ /\ w1.cell? ⟨bk, 2, none⟩ = _ /\ w1.cell? ⟨bk, 3, none⟩ = _ /\ w1.cell? ⟨bk, 4, none⟩ = _ /\ w1.cell? ⟨bk, 5, none⟩ = _ /\ w1.cell? ⟨bk, 6, none⟩ = _ /\ w1.cell? ⟨bk, 7, none⟩ = _ /\ w1.cell? ⟨bk, 10, none⟩ = _ from ⟨f1, f2, f3, f4, f5, f6, f7, f10⟩)
  have HFIN : Hid (∀ (W : World) (Av : Option Addr) (cv : Nat), Ext w1 W -> W.ownsRow w1.heap.size 71 14 (.slice Av (l.length + 1) cv) (l.length + 1) (xs ++ [.bool false, .int .i64 kv, .int .i64 n, .int .i64 ty, .slice A1 n1 m1, .slice A2 n2 m2, .pointer pv, zi, zi, ze, zi, zs, zs, zp]) -> Calls Tryz.prog 54 #[.pointer (some ⟨mb, 0, none⟩), tV t (.slice Aa t.args.length ca) (.slice Ab t.cls.length cb), .pointer pe, .slice Av (l.length + 1) cv, .pointer (some ⟨bk', 0, none⟩)] W fun z w' => (z = .returned (.tuple #[]) /\ RQ P w0 w' bad mb vd vf fu en vl ov st (resS P t e k ((termsOf t).drop (l.length + 1)) ((typesOf P t).drop (l.length + 1)) (l ++ [.held x]))) /\ Only (fun b => b = mb) w w' /\ (w'.cell? ⟨bk, 1, none⟩ = some (.int .i64 t.op) /\ w'.cell? ⟨bk, 2, none⟩ = some (.int .i64 t.n) /\ w'.cell? ⟨bk, 3, none⟩ = some (.string t.nm) /\ w'.cell? ⟨bk, 4, none⟩ = some (.int .i64 t.ty) /\ w'.cell? ⟨bk, 5, none⟩ = some (.slice Aa t.args.length ca) /\ w'.cell? ⟨bk, 6, none⟩ = some (.slice Ab t.cls.length cb) /\ w'.cell? ⟨bk, 7, none⟩ = some (.pointer pe) /\ w'.cell? ⟨bk, 8, none⟩ = some (.slice Al l.length cl) /\ w'.cell? ⟨bk, 10, none⟩ = some (.pointer (some ⟨bk', 0, none⟩)) /\ w'.cell? ⟨w.heap.size, 0, none⟩ = some (.int .i64 kv) /\ w'.cell? ⟨w.heap.size, 1, none⟩ = some (.int .i64 n) /\ w'.cell? ⟨w.heap.size, 2, none⟩ = some (.int .i64 ty) /\ w'.cell? ⟨w.heap.size, 3, none⟩ = some (.slice A1 n1 m1) /\ w'.cell? ⟨w.heap.size, 4, none⟩ = some (.slice A2 n2 m2) /\ w'.cell? ⟨w.heap.size, 5, none⟩ = some (.pointer pv))) := fun W Av cv hW ho => by
    have hdv : DR P w0 W bad (.is (.slice Av (l.length + 1) cv) (l ++ [.held x])) := DR.of_row (B := w1.heap.size) (e := 71) (by rw [HLE.out]; exact ho) (fun b hb hn => Nat.lt_irrefl _ (Nat.lt_of_lt_of_le ((HC.out.nb.ext HEX1.out) b hn) hb)) ((HBR.out.snoc HDN.out).ext hW)
    have := bindMore_of P (allBound_any P) w0 W bad mb vd vf ov fu en vl st t e k (l ++ [.held x]) _ _ _ _ _ ((HC.out.ext' HEX1.out).ext' hW) ((HMA.out.ext' HEX1.out).ext' hW) HT.out HFIT.out HOP.out ((HE.out.ext HEX1.out).ext hW) ((HK.out.ext HEX1.out).ext hW) hdv (by rw [HLE.out]; exact HLL.out)
    rw [HLE.out] at this
    refine this.mono ?_
    rintro z w5 ⟨⟨rfl, hrq⟩, ho⟩
    exact ⟨⟨rfl, hrq⟩, (only_x (b := mb) (HEX1.out.tr hW)).tr ho, oC ho HNK.out (hW.keep f1), oC ho HNK.out (hW.keep f2), oC ho HNK.out (hW.keep f3), oC ho HNK.out (hW.keep f4), oC ho HNK.out (hW.keep f5), oC ho HNK.out (hW.keep f6), oC ho HNK.out (hW.keep f7), oC ho HNK.out (hW.keep f8), oC ho HNK.out (hW.keep f10), oC ho HNW.out (hW.keep b0), oC ho HNW.out (hW.keep b1), oC ho HNW.out (hW.keep b2), oC ho HNW.out (hW.keep b3), oC ho HNW.out (hW.keep b4), oC ho HNW.out (hW.keep b5)⟩
  clear hsrc hbr
  go_upto_region 3 with fail
  have HS0 : Hid (∀ W : World, Ext w1 W -> W.cell? ⟨bk, 1, none⟩ = some (.int .i64 t.op) /\ W.cell? ⟨bk, 2, none⟩ = some (.int .i64 t.n) /\ W.cell? ⟨bk, 3, none⟩ = some (.string t.nm) /\ W.cell? ⟨bk, 4, none⟩ = some (.int .i64 t.ty) /\ W.cell? ⟨bk, 5, none⟩ = some (.slice Aa t.args.length ca) /\ W.cell? ⟨bk, 6, none⟩ = some (.slice Ab t.cls.length cb) /\ W.cell? ⟨bk, 7, none⟩ = some (.pointer pe) /\ W.cell? ⟨bk, 8, none⟩ = some (.slice Al l.length cl) /\ W.cell? ⟨bk, 10, none⟩ = some (.pointer (some ⟨bk', 0, none⟩)) /\ W.cell? ⟨w.heap.size, 0, none⟩ = some (.int .i64 kv) /\ W.cell? ⟨w.heap.size, 1, none⟩ = some (.int .i64 n) /\ W.cell? ⟨w.heap.size, 2, none⟩ = some (.int .i64 ty) /\ W.cell? ⟨w.heap.size, 3, none⟩ = some (.slice A1 n1 m1) /\ W.cell? ⟨w.heap.size, 4, none⟩ = some (.slice A2 n2 m2) /\ W.cell? ⟨w.heap.size, 5, none⟩ = some (.pointer pv)) := fun W hW => ⟨hW.keep f1, hW.keep f2, hW.keep f3, hW.keep f4, hW.keep f5, hW.keep f6, hW.keep f7, hW.keep f8, hW.keep f10, hW.keep b0, hW.keep b1, hW.keep b2, hW.keep b3, hW.keep b4, hW.keep b5⟩
  clear f0 f9
  go_region_held3 (fun w' => w'.cell? ⟨bk, 1, none⟩ = some (.int .i64 t.op) /\ w'.cell? ⟨bk, 2, none⟩ = some (.int .i64 t.n) /\ w'.cell? ⟨bk, 3, none⟩ = some (.string t.nm) /\ w'.cell? ⟨bk, 4, none⟩ = some (.int .i64 t.ty) /\ w'.cell? ⟨bk, 5, none⟩ = some (.slice Aa t.args.length ca) /\ w'.cell? ⟨bk, 6, none⟩ = some (.slice Ab t.cls.length cb) /\ w'.cell? ⟨bk, 7, none⟩ = some (.pointer pe) /\ w'.cell? ⟨bk, 8, none⟩ = some (.slice Al l.length cl) /\ w'.cell? ⟨bk, 10, none⟩ = some (.pointer (some ⟨bk', 0, none⟩)) /\ w'.cell? ⟨w.heap.size, 0, none⟩ = some (.int .i64 kv) /\ w'.cell? ⟨w.heap.size, 1, none⟩ = some (.int .i64 n) /\ w'.cell? ⟨w.heap.size, 2, none⟩ = some (.int .i64 ty) /\ w'.cell? ⟨w.heap.size, 3, none⟩ = some (.slice A1 n1 m1) /\ w'.cell? ⟨w.heap.size, 4, none⟩ = some (.slice A2 n2 m2) /\ w'.cell? ⟨w.heap.size, 5, none⟩ = some (.pointer pv))
    (first | exact HSD.out | exact HS0.out _ HG2.out | exact HS0.out _ HG1.out | go_keep)
    ((first
    | (refine app_row Tryz.undBd Tryz.infoBd (by decide) (by decide) (.const (.slice none 0 0)) (.tmp 32) rfl w1.heap.size (.slice none 0 0) 0 [] rfl ⟨rfl, .inl ⟨rfl, rfl⟩⟩ Al l.length cl xs rfl (HSX.out _ (by first | exact Ext.rf _ | exact (Ext.rf _).drew | exact Ext.al _ _ | exact (Ext.al _ _).drew)) HBR.out.2.1 (by have := HL6.out; unfold maxLen; omega) (by have := HL6.out; omega) (by first | exact Nat.le_refl _ | exact ((Ext.al w1 _).drew).size | exact (Ext.al w1 _).size) ?_; intro v1 w5 ho1 hg1 hat1; rw [Nat.zero_add, List.nil_append] at ho1; have HO1 := LH ho1; have hgx := Below.grown (Below.refl _ _) hg1 (Nat.le_refl _) (fun j e => by simp [Value.ownBlock] at e); have HG1 : Hid (Ext w1 w5) := LH (Ext.tr (by first | exact Ext.rf _ | exact (Ext.rf _).drew | exact Ext.al _ _ | exact (Ext.al _ _).drew) hgx); obtain ⟨Av1, cv1, rfl⟩ := oSL ho1; have lbk5 := Nat.lt_of_lt_of_le lbk HG1.out.size; have lbx5 := Nat.lt_of_lt_of_le lbx HG1.out.size; clear ho1 hg1 hat1)
    | (refine app_row Tryz.undBd Tryz.infoBd (by decide) (by decide) (.tmp 33) (.tmp 36) rfl w1.heap.size (.slice Av1 l.length cv1) l.length xs rfl (oB HO1.out (Ext.al _ _)) (some ⟨w5.heap.size, 0, none⟩) 1 1 [.bool false, .int .i64 kv, .int .i64 n, .int .i64 ty, .slice A1 n1 m1, .slice A2 n2 m2, .pointer pv, zi, zi, ze, zi, zs, zs, zp] rfl (HSRC1.out _ _ (hNw _ _)) HNONE.out (by have := HL6.out; unfold maxLen; omega) (by have := HL6.out; omega) (Nat.le_trans HG1.out.size (Ext.al _ _).size) ?_; intro v2 w6 ho2 hg2 hat2; have HO2 := LH ho2; have hgy := Below.grown (Below.refl w1.heap.size _) hg2 (Nat.le_trans HG1.out.size (Ext.al _ _).size) (fun j e => (HO1.out.lt j e).1); have HG2 : Hid (Ext w1 w6) := LH (Below.trans (HG1.out.tr (Ext.al _ _)) hgy); obtain ⟨Av2, cv2, rfl⟩ := oSL ho2; clear ho2 hg2 hat2 hgy)
    | (refine app_row Tryz.undBd Tryz.infoBd (by decide) (by decide) (.tmp 33) (.tmp 36) rfl w1.heap.size (.slice Av1 l.length cv1) l.length xs rfl HO1.out (some ⟨w1.heap.size, 0, none⟩) 1 1 [.bool false, .int .i64 kv, .int .i64 n, .int .i64 ty, .slice A1 n1 m1, .slice A2 n2 m2, .pointer pv, zi, zi, ze, zi, zs, zs, zp] rfl (HSRC1.out _ _ ((hgx.block w1.heap.size (hLt (HBN1.out w1))).trans (HBN1.out w1))) HNONE.out (by have := HL6.out; unfold maxLen; omega) (by have := HL6.out; omega) HG1.out.size ?_; intro v2 w6 ho2 hg2 hat2; have HO2 := LH ho2; have hgy := Below.grown (Below.refl w1.heap.size _) hg2 HG1.out.size (fun j e => (HO1.out.lt j e).1); have HG2 : Hid (Ext w1 w6) := LH (Below.trans HG1.out hgy); obtain ⟨Av2, cv2, rfl⟩ := oSL ho2; clear ho2 hg2 hat2 hgy)
    | (go_at_call 54; (with_reducible refine (HFIN.out _ Av2 cv2 HG2.out HO2.out).mono ?_); rintro z w7 ⟨⟨rfl, hrq⟩, ho, hsd⟩; have HRQ := LH hrq; have HON := LH ho; have HSD := LH hsd; clear hrq ho hsd)))
  all_goals
    go_wp2
    exact bodyPost_ret (v := .tuple #[]) (by simp [results, Tryz.results29, go_sem]) rfl ⟨⟨rfl, HRQ.out⟩, HON.out⟩
end Go.Proofs.YtkdglplfcpindaaGreatDoor

namespace Go.Proofs.YtkdglplfcpindaaGreatDoor
open Go.RowKit
theorem step_any (P : Pg) (w0 w : World) (bad : Nat -> Prop) (mb : Nat) (vd vf ov : Value) (fu en vl st : Int) (t : Tm) (e : En) (k : Kt) (hC : CR P w0 w bad mb vd vf) (hq : RQ P w0 w bad mb vd vf fu en vl ov st (.ev t e k)) (hT : TS false P (.ev t e k)) :
    Calls Tryz.prog 31 #[.pointer (some ⟨mb, 0, none⟩)] w fun x w' => ∃ q, evS P t e k = .go q /\ (x = .returned (.tuple #[]) /\ RQ P w0 w' bad mb vd vf fu en vl ov st q) /\ Only (fun b => b = mb) w w' := by
  have hW : WFP false P := ⟨hC.prog, fun h => by cases h⟩
  obtain ⟨va, vc, ev, v0, v1, v2, v3, v4, v5, kv, hz, ht, he, hk⟩ := hq
  obtain ⟨E, F, z, h1, h2, h3, h4, h5⟩ := hT
  obtain ⟨q, hgo, -⟩ := evS_ok hW (show TS false P (.ev t e k) from ⟨E, F, z, h1, h2, h3, h4, h5⟩)
  have hf := h1.vld.fits
  have fin : ∀ {R : Tk} {X : Ending -> World -> Prop}, evS P t e k = .go R -> Calls Tryz.prog 31 #[.pointer (some ⟨mb, 0, none⟩)] w (fun x w' => (x = .returned (.tuple #[]) /\ RQ P w0 w' bad mb vd vf fu en vl ov st R) /\ Only (fun b => b = mb) w w') -> Calls Tryz.prog 31 #[.pointer (some ⟨mb, 0, none⟩)] w fun x w' => ∃ q, evS P t e k = .go q /\ (x = .returned (.tuple #[]) /\ RQ P w0 w' bad mb vd vf fu en vl ov st q) /\ Only (fun b => b = mb) w w' := fun hR hc => hc.mono fun x w' h => ⟨_, hR, h⟩
  rcases fit_op hf with ho | ho | ho | ho | ho | ho | ho | ho | ho | ho | ho | ho | ho
  . cases hx : findA e.vs t.nm with
    | none => rw [evS, if_pos ho, hx] at hgo; cases hgo
    | some x => exact fin (X := fun _ _ => True) (by rw [evS, if_pos ho, hx]) (stepVar_any P w0 w bad mb vd vf ov fu en vl st t e k va vc ev v0 v1 v2 v3 v4 v5 kv hC hz ht he hk ho x hx)
  . exact fin (X := fun _ _ => True) (by rw [evS, if_neg (by omega), if_pos ho]) (stepInt_any P w0 w bad mb vd vf ov fu en vl st t e k va vc ev v0 v1 v2 v3 v4 v5 kv hC hz ht he hk ho)
  . exact fin (X := fun _ _ => True) (by rw [evS, if_neg (by omega), if_neg (by omega), if_pos ho]) (stepPrim_any P w0 w bad mb vd vf ov fu en vl st t e k va vc ev v0 v1 v2 v3 v4 v5 kv hC hz ht he hk ho (fit2 hf ho).1)
  . exact fin (X := fun _ _ => True) (by rw [evS, if_neg (by omega), if_neg (by omega), if_neg (by omega), if_pos ho]) (stepIfz_any P w0 w bad mb vd vf ov fu en vl st t e k va vc ev v0 v1 v2 v3 v4 v5 kv hC hz ht he hk ho (fit3 hf ho).1)
  . exact fin (X := fun _ _ => True) (by unfold evS; simp [ho]) (stepCon_any P w0 w bad mb vd vf ov fu en vl st t e k va vc ev v0 v1 v2 v3 v4 v5 kv hC hz ht he hk ho hf)
  . exact fin (X := fun _ _ => True) (by unfold evS; simp [ho]) (stepCase_any P w0 w bad mb vd vf ov fu en vl st t e k va vc ev v0 v1 v2 v3 v4 v5 kv hC hz ht he hk ho (fit5 hf ho).2.1)
  . exact fin (X := fun _ _ => True) (by unfold evS; simp [ho]) (stepDtor_any P w0 w bad mb vd vf ov fu en vl st t e k va vc ev v0 v1 v2 v3 v4 v5 kv hC hz ht he hk ho hf)
  . exact fin (X := fun _ _ => True) (by unfold evS; simp [ho]) (stepObj_any P w0 w bad mb vd vf ov fu en vl st t e k va vc ev v0 v1 v2 v3 v4 v5 kv hC hz ht he hk ho)
  . exact fin (X := fun _ _ => True) (by unfold evS; simp [ho]) (stepLet_any P w0 w bad mb vd vf ov fu en vl st t e k va vc ev v0 v1 v2 v3 v4 v5 kv hC hz ht he hk ho hf)
  . exact fin (X := fun _ _ => True) (by unfold evS; simp [ho]) (stepCall_any P w0 w bad mb vd vf ov fu en vl st t e k va vc ev v0 v1 v2 v3 v4 v5 kv hC hz ht he hk ho hf)
  . exact fin (X := fun _ _ => True) (by unfold evS; simp [ho]) (stepEmit_any P w0 w bad mb vd vf ov fu en vl st t e k va vc ev v0 v1 v2 v3 v4 v5 kv hC hz ht he hk ho (fit10 hf ho).1)
  . exact fin (X := fun _ _ => True) (by unfold evS; simp [ho]) (stepLabel_any P w0 w bad mb vd vf ov fu en vl st t e k va vc ev v0 v1 v2 v3 v4 v5 kv hC hz ht he hk ho (fit11 hf (.inl ho)).1)
  . cases hx : findA e.ls t.nm with
    | none => unfold evS at hgo; simp [ho, hx] at hgo
    | some x => exact fin (X := fun _ _ => True) (by unfold evS; simp [ho, hx]) (stepGoto_any P w0 w bad mb vd vf ov fu en vl st t e k va vc ev v0 v1 v2 v3 v4 v5 kv hC hz ht he hk ho (fit11 hf (.inr ho)).1 x hx)
end Go.Proofs.YtkdglplfcpindaaGreatDoor

namespace Go.Proofs.YtkdglplfcpindaaGreatDoor
open Go.RowKit
def RcvP (P : Pg) (w0 w : World) (mb : Nat) (vd vf ov : Value) (fu st : Int) (outs : List Int) (d : Nx × List Int) (x : Ending) (w' : World) : Prop := match d with
  | (.go q, o) => ∃ ov', x = .returned (.tuple #[]) /\ RQ P w0 w' (turns mb ov') mb vd vf fu 0 0 ov' st q /\ CR P w0 w' (turns mb ov') mb vd vf /\ OwnL w' w0.heap.size ov' (outs ++ o) /\ Kp (turns mb ov) (turns mb ov') w w'
  | (.stop how val, o) => x = .returned (.tuple #[]) /\ MA w' mb vd vf fu how val ov st (.bool true) /\ CR P w0 w' (turns mb ov) mb vd vf /\ OwnL w' w0.heap.size ov (outs ++ o) /\ Kp (turns mb ov) (turns mb ov) w w'
section
variable {P : Pg} {w0 w w' : World} {mb : Nat} {vd vf ov : Value} {fu st : Int} {outs : List Int} {x : Ending}
theorem OwnL.onlyM {over : Value} {en vl : Int} (hO : OwnL w w0.heap.size ov outs) (hm : MA w mb vd vf fu en vl ov st over) (ho : Only (fun b => b = mb) w w') : OwnL w' w0.heap.size ov outs := by
  obtain ⟨tm, t0, t1, t2, t3, t4, t5, ev, v0, v1, v2, v3, v4, v5, kv, hz⟩ := hm
  exact row5_at hO (fun b cur hb hcur => ho.block b (hLt hcur) (fun e => own_neR hO hz (by decide) (e ▸ hb)))
theorem RcvP.ofGo (hC : CR P w0 w (turns mb ov) mb vd vf) (hO : OwnL w w0.heap.size ov outs) (hm : MA w mb vd vf fu 0 0 ov st (.bool false)) {q : Tk} (h : (x = .returned (.tuple #[]) /\ RQ P w0 w' (turns mb ov) mb vd vf fu 0 0 ov st q) /\ Only (fun b => b = mb) w w') : RcvP P w0 w mb vd vf ov fu st outs (.go q, []) x w' := by
  obtain ⟨⟨rfl, hq⟩, ho⟩ := h
  exact ⟨ov, rfl, hq, hC.only ho, by rw [List.append_nil]; exact hO.onlyM hm ho, hC.kp ho⟩
theorem RcvP.ofStop (hC : CR P w0 w (turns mb ov) mb vd vf) (hO : OwnL w w0.heap.size ov outs) (hm : MA w mb vd vf fu 0 0 ov st (.bool false)) {how val : Int} (h : (x = .returned (.tuple #[]) /\ MA w' mb vd vf fu how val ov st (.bool true)) /\ Only (fun b => b = mb) w w') : RcvP P w0 w mb vd vf ov fu st outs (.stop how val, []) x w' := by
  obtain ⟨⟨rfl, hq⟩, ho⟩ := h
  exact ⟨rfl, hq, hC.only ho, by rw [List.append_nil]; exact hO.onlyM hm ho, hC.kp ho⟩
end
theorem recv_any (P : Pg) (w0 w : World) (mb : Nat) (vd vf ov : Value) (fu st : Int) (outs : List Int) (v : Vl) (k : Kt) (hC : CR P w0 w (turns mb ov) mb vd vf) (hq : RQ P w0 w (turns mb ov) mb vd vf fu 0 0 ov st (.pass v k)) (hO : OwnL w w0.heap.size ov outs) (hol : outs.length <= 100000) (hT : TS false P (.pass v k)) :
    Calls Tryz.prog 29 #[.pointer (some ⟨mb, 0, none⟩)] w (RcvP P w0 w mb vd vf ov fu st outs (recS P v k)) := by
  have hm := hq.ma
  obtain ⟨t0, t1, t2, t3, t4, t5, ev, v0, v1, v2, v3, v4, v5, kv, hz, hv, hk⟩ := hq
  obtain ⟨y, hty, htk⟩ := hT
  have go : ∀ {q : Tk}, recS P v k = (.go q, []) -> Calls Tryz.prog 29 #[.pointer (some ⟨mb, 0, none⟩)] w (fun x w' => (x = .returned (.tuple #[]) /\ RQ P w0 w' (turns mb ov) mb vd vf fu 0 0 ov st q) /\ Only (fun b => b = mb) w w') -> Calls Tryz.prog 29 #[.pointer (some ⟨mb, 0, none⟩)] w (RcvP P w0 w mb vd vf ov fu st outs (recS P v k)) := fun hR hc => by
    rw [hR]; exact hc.mono fun x w' h => RcvP.ofGo hC hO hm h
  have stop : ∀ {how val : Int}, recS P v k = (.stop how val, []) -> Calls Tryz.prog 29 #[.pointer (some ⟨mb, 0, none⟩)] w (fun x w' => (x = .returned (.tuple #[]) /\ MA w' mb vd vf fu how val ov st (.bool true)) /\ Only (fun b => b = mb) w w') -> Calls Tryz.prog 29 #[.pointer (some ⟨mb, 0, none⟩)] w (RcvP P w0 w mb vd vf ov fu st outs (recS P v k)) := fun hR hc => by
    rw [hR]; exact hc.mono fun x w' h => RcvP.ofStop hC hO hm h
  obtain ⟨i, n0, y0, A1, n1, m1, A2, n2, m2, p, heq⟩ := hv.v_form
  simp only [Array.mk.injEq, List.cons.injEq, and_true] at heq
  obtain ⟨rfl, rfl, rfl, rfl, rfl, rfl⟩ := heq
  have notInt : (∀ n, v ≠ .int n) -> (i != 0) = true := fun hn => by
    cases hv with
    | int n h => exact absurd rfl (hn _)
    | con => rfl
    | obj => rfl
  cases hk with
  | fin bk hb1 hb2 =>
    by_cases hi : ∃ n, v = .int n
    . obtain ⟨n, rfl⟩ := hi
      cases hv
      exact stop rfl (rcvFin_any P w0 w (turns mb ov) mb bk vd vf ov t0 t1 t2 t3 t4 t5 ev fu 0 0 st _ hC hz (cA hb2 0))
    . exact stop (by cases v <;> first | rfl | exact absurd ⟨_, rfl⟩ hi) (rcvStuck0_any P w0 w (turns mb ov) mb bk vd vf ov t0 t1 t2 t3 t4 t5 ev fu 0 0 st i n0 y0 A1 A2 n1 n2 m1 m2 p hC hz (cA hb2 0) (notInt fun n hn => hi ⟨n, hn⟩))
  | left bk t e va vc ef kf k hb1 hb2 ht he hk =>
    by_cases hi : ∃ n, v = .int n
    . obtain ⟨n, rfl⟩ := hi
      cases htk with
      | left _ _ _ z E F _ g0 g1 g2 g3 g4 g5 =>
        cases hv with
        | int n h => exact go rfl (rcvLeft_any P w0 w (turns mb ov) mb bk vd vf ov t0 t1 t2 t3 t4 t5 ev fu 0 0 st t e k va vc ef kf _ hC hz hb2 hb1 ht he hk (fit2 g1.vld.fits g0).1 h)
    . exact stop (by cases v <;> first | rfl | exact absurd ⟨_, rfl⟩ hi) (rcvStuck2_any P w0 w (turns mb ov) mb bk vd vf ov t0 t1 t2 t3 t4 t5 ev fu 0 0 st i n0 y0 A1 A2 n1 n2 m1 m2 p hC hz (cA hb2 0) (notInt fun n hn => hi ⟨n, hn⟩))
  | right bk t e a va vc kf k ha hb1 hb2 ht hk =>
    by_cases hi : ∃ n, v = .int n
    . obtain ⟨n, rfl⟩ := hi
      cases htk with
      | right _ _ _ _ z E F _ g0 g1 g2 g3 g4 g5 =>
        cases hv with
        | int n h => exact go rfl (rcvRight_any P w0 w (turns mb ov) mb bk vd vf ov t0 t1 t2 t3 t4 t5 ev fu 0 0 st t e k va vc kf a _ hC hz hb2 hb1 ht hk ha h (fit2 g1.vld.fits g0).2.2)
    . exact stop (by cases v <;> first | rfl | exact absurd ⟨_, rfl⟩ hi) (rcvStuck3_any P w0 w (turns mb ov) mb bk vd vf ov t0 t1 t2 t3 t4 t5 ev fu 0 0 st i n0 y0 A1 A2 n1 n2 m1 m2 p hC hz (cA hb2 0) (notInt fun n hn => hi ⟨n, hn⟩))
  | zero bk t e va vc ef kf k hb1 hb2 ht he hk =>
    by_cases hi : ∃ n, v = .int n
    . obtain ⟨n, rfl⟩ := hi
      cases htk with
      | zero _ _ _ z E F _ g0 g1 g2 g3 g4 g5 =>
        cases hv with
        | int n h =>
          by_cases hn : n0 = 0
          . exact go (by simp only [recS]; rw [if_pos hn]) (rcvZero1_any P w0 w (turns mb ov) mb bk vd vf ov t0 t1 t2 t3 t4 t5 ev fu 0 0 st t e k va vc ef kf _ hC hz hb2 hb1 ht he hk (fit3 g1.vld.fits g0).1 (by simpa using hn))
          . exact go (by simp only [recS]; rw [if_neg hn]) (rcvZero2_any P w0 w (turns mb ov) mb bk vd vf ov t0 t1 t2 t3 t4 t5 ev fu 0 0 st t e k va vc ef kf _ hC hz hb2 hb1 ht he hk (fit3 g1.vld.fits g0).1 (by simpa using hn))
    . exact stop (by cases v <;> first | rfl | exact absurd ⟨_, rfl⟩ hi) (rcvStuck4_any P w0 w (turns mb ov) mb bk vd vf ov t0 t1 t2 t3 t4 t5 ev fu 0 0 st i n0 y0 A1 A2 n1 n2 m1 m2 p hC hz (cA hb2 0) (notInt fun n hn => hi ⟨n, hn⟩))
  | emit bk t e va vc ef kf k hb1 hb2 ht he hk =>
    by_cases hi : ∃ n, v = .int n
    . obtain ⟨n, rfl⟩ := hi
      cases htk with
      | emit _ _ _ z E F _ g0 g1 g2 g3 g4 g5 =>
        cases hv with
        | int n h =>
          refine (rcvEmit_any P w0 w mb bk vd vf ov t0 t1 t2 t3 t4 t5 ev fu 0 0 st t e k va vc ef kf _ outs hC hz hb2 hb1 ht he hk (fit10 g1.vld.fits g0).1 hO hol).mono ?_
          rintro x w' ⟨ov', rfl, h1, h2, h3, h4⟩
          exact ⟨ov', rfl, h1, h2, h3, h4⟩
    . exact stop (by cases v <;> first | rfl | exact absurd ⟨_, rfl⟩ hi) (rcvStuck7_any P w0 w (turns mb ov) mb bk vd vf ov t0 t1 t2 t3 t4 t5 ev fu 0 0 st i n0 y0 A1 A2 n1 n2 m1 m2 p hC hz (cA hb2 0) (notInt fun n hn => hi ⟨n, hn⟩))
  | ana bk t e va vc ef kf k hb1 hb2 ht he hk =>
    cases htk with
    | ana _ _ _ z E F _ g0 g1 g2 g3 g4 g5 =>
      have hf5 := fit5 g1.vld.fits g0
      cases hv with
      | int n h => exact stop rfl (rcvStuck5a_any P w0 w (turns mb ov) mb bk vd vf ov t0 t1 t2 t3 t4 t5 ev fu 0 0 st _ _ _ _ _ _ _ _ _ _ hC hz (cA hb2 0) rfl)
      | obj u eu ua uc eo q1 q2 => exact stop rfl (rcvStuck5a_any P w0 w (turns mb ov) mb bk vd vf ov t0 t1 t2 t3 t4 t5 ev fu 0 0 st _ _ _ _ _ _ _ _ _ _ hC hz (cA hb2 0) rfl)
      | con d m al l q1 q2 q3 =>
        by_cases hd : y0 = t.ty
        . subst hd
          cases hty with
          | con _ _ _ _ u0 u1 u2 u3 =>
            obtain ⟨m, rfl, hm⟩ := idx_in5 u1
            have hmc : m < t.cls.length := by omega
            have hcl : (t.cls.getD m ([], noTm)).1.length = l.length := by
              have e1 : t.cls.getD m ([], noTm) = t.cls[m] := by rw [List.getD_eq_getElem?_getD, List.getElem?_eq_getElem hmc]; rfl
              obtain ⟨u, d', x', hu, hdu, hda, hx', hcx⟩ := fits_clause5 g1.vld.fits (List.getElem?_eq_getElem hmc)
              have e2 : xtorAt P t.ty (m : Int) = x' := by unfold xtorAt; rw [hda, Int.toNat_natCast, List.getD_eq_getElem?_getD, hx']; rfl
              rw [e1, hcx, u3.len, e2]
            exact go (by simp only [recS, if_true, Int.toNat_natCast]) (rcvAna_any P w0 w (turns mb ov) mb bk vd vf ov t0 t1 t2 t3 t4 t5 ev fu 0 0 st t e k va vc ef kf m l _ hC hz hb2 hb1 ht he hk q3 hmc hcl)
        . exact stop (by simp only [recS, if_neg hd]) (rcvStuck5b_any P w0 w (turns mb ov) mb bk vd vf ov t0 t1 t2 t3 t4 t5 ev fu 0 0 st _ _ t.ty _ _ _ _ _ _ _ hC hz (cA hb2 0) (cA hb2 4) (by simpa using hd))
  | obs bk t e va vc kf al l k hb1 hb2 ht hl hk =>
    cases htk with
    | obs _ _ _ _ z E F _ g0 g1 g2 g3 g4 g5 g6 =>
      have hf6 := fit6 g1.vld.fits g0
      cases hv with
      | int n h => exact stop rfl (rcvStuck6a_any P w0 w (turns mb ov) mb bk vd vf ov t0 t1 t2 t3 t4 t5 ev fu 0 0 st _ _ _ _ _ _ _ _ _ _ hC hz (cA hb2 0) rfl)
      | con d m bl l' q1 q2 q3 => exact stop rfl (rcvStuck6a_any P w0 w (turns mb ov) mb bk vd vf ov t0 t1 t2 t3 t4 t5 ev fu 0 0 st _ _ _ _ _ _ _ _ _ _ hC hz (cA hb2 0) rfl)
      | obj u eu ua uc eo q1 q2 =>
        by_cases hd : u.ty = t.ty
        . cases hty with
          | obj _ _ _ E' F' u0 u1 u2 u3 u4 =>
            have hf7 := fit7 u1.vld.fits u0
            obtain ⟨m, hm1, hm⟩ := idx_in5 hf6.2.1
            have hmc : m < u.cls.length := by rw [hf7.2.2.1, hd]; exact hm
            have hcl : (u.cls.getD m ([], noTm)).1.length = l.length := by
              have e1 : u.cls.getD m ([], noTm) = u.cls[m] := by rw [List.getD_eq_getElem?_getD, List.getElem?_eq_getElem hmc]; rfl
              obtain ⟨_, d', x', hu, hdu, hda, hx', hcx⟩ := fits_clause5 u1.vld.fits (List.getElem?_eq_getElem hmc)
              have e2 : xtorAt P t.ty t.n = x' := by unfold xtorAt; rw [← hd, hda, hm1, Int.toNat_natCast, List.getD_eq_getElem?_getD, hx']; rfl
              rw [e1, hcx, g6.len, e2]
            rw [hd] at hz
            exact go (by simp only [recS, if_pos hd, hm1, Int.toNat_natCast]) (rcvObs_any P w0 w (turns mb ov) mb bk vd vf ov t0 t1 t2 t3 t4 t5 ev fu 0 0 st t u eu k va vc kf ua _ _ _ m l hC hz hb2 hb1 ht q1 q2 hk hl hm1 hmc hcl)
        . exact stop (by simp only [recS]; rw [if_neg hd]) (rcvStuck6b_any P w0 w (turns mb ov) mb bk vd vf ov t0 t1 t2 t3 t4 t5 ev fu 0 0 st _ _ t.ty _ _ _ _ _ _ _ hC hz (cA hb2 0) (cA hb2 4) (by simpa using hd))
  | bind bk t e va vc ef kf al ts ys l k hb1 hb2 ht he hl hk h7 h8 =>
    cases htk with
    | bind _ _ _ j _ z E F _ g0 g1 g2 g3 g4 g5 hj g6 =>
      have hll := g6.len
      rw [List.length_take, Nat.min_eq_left (by omega)] at hll
      subst hll
      exact go (by simp only [recS, List.tail_drop]) (rcvBind_any P w0 w (turns mb ov) mb bk vd vf ov t0 t1 t2 t3 t4 t5 ev fu 0 0 st t e k va vc ef kf l al v _ _ _ _ _ _ _ _ _ _ hC hz hb2 hb1 ht hv he hk hl g1.vld.fits g0 hj)
end Go.Proofs.YtkdglplfcpindaaGreatDoor

namespace Go.Proofs.YtkdglplfcpindaaGreatDoor
open Go.RowKit
structure RM (P : Pg) (w0 w : World) (mb : Nat) (vd vf : Value) (fuel n : Nat) (r : Rn) (s : St) (ov : Value) : Prop where
  run : runS P fuel n s = some r
  cr : CR P w0 w (turns mb ov) mb vd vf
  rq : RQ P w0 w (turns mb ov) mb vd vf fuel 0 0 ov s.steps s.task
  own : OwnL w w0.heap.size ov s.outs
  typ : TS false P s.task
  steps : s.steps <= fuel
  out : OB s
structure RE (P : Pg) (w0 w : World) (mb : Nat) (vd vf : Value) (fuel : Nat) (r : Rn) (ov : Value) : Prop where
  cr : CR P w0 w (turns mb ov) mb vd vf
  ma : MA w mb vd vf fuel r.stop r.val ov r.steps (.bool true)
  own : OwnL w w0.heap.size ov r.outs
def RLI (P : Pg) (w0 : World) (mb g : Nat) (vd vf : Value) (fuel : Nat) (r : Rn) (n : Nat) (w : World) : Prop :=
  (∃ s ov, RM P w0 w mb vd vf fuel n r s ov /\ ¬ turns mb ov g) ∨ (∃ ov, RE P w0 w mb vd vf fuel r ov /\ ¬ turns mb ov g)
def RNx (P : Pg) (w0 : World) (mb g : Nat) (vd vf : Value) (fuel : Nat) (r : Rn) (n : Nat) (w : World) (x : Ending) (w' : World) : Prop :=
  x = .returned (.tuple #[]) /\ ∃ m, m < n /\ RLI P w0 mb g vd vf fuel r m w' /\ w'.heap[g]? = w.heap[g]?
section
variable {P : Pg} {w0 w w' : World} {mb g fuel n : Nat} {vd vf ov : Value} {r : Rn} {s : St}
theorem RM.nout (h : RM P w0 w mb vd vf fuel n r s ov) (hf : fuel <= 20000) : s.outs.length <= 100000 := by
  have h1 := h.out.le
  have h2 := h.steps
  omega
theorem RM.pass (hW : WFP false P) (hf : fuel <= 20000) (h : RM P w0 w mb vd vf fuel n r s ov) (hg : ¬ turns mb ov g) (hgl : g < w.heap.size) {v : Vl} {k : Kt} (hs : s.task = .pass v k) :
    Calls Tryz.prog 29 #[.pointer (some ⟨mb, 0, none⟩)] w (RNx P w0 mb g vd vf fuel r n w) := by
  have hol := h.nout hf
  obtain ⟨h1, h2, h3, h4, h5, h6, h7⟩ := h
  have hT := h5
  rw [hs] at h3 h5
  refine (recv_any P w0 w mb vd vf ov fuel s.steps s.outs v k h2 h3 h4 hol h5).mono ?_
  intro x w' hx
  cases n with
  | zero => cases h1
  | succ n =>
    rw [runS] at h1
    cases hr : recS P v k with
    | mk nx o =>
      rw [hr] at hx
      cases nx with
      | go q =>
        obtain ⟨ov', rfl, hq, hc, ho, hk⟩ := hx
        have hd : doS P fuel s = .inr ⟨s.steps, s.outs ++ o, q⟩ := by unfold doS; rw [hs]; simp only [hr]
        rw [hd] at h1
        exact ⟨rfl, n, Nat.lt_succ_self n, .inl ⟨_, ov', ⟨h1, hc, hq, ho, (doS_ok hW hT).1 _ hd, h6, doS_out h7 hd⟩, (hk.keep g hgl hg).1⟩, (hk.keep g hgl hg).2⟩
      | stop how val =>
        obtain ⟨rfl, hm, hc, ho, hk⟩ := hx
        have hd : doS P fuel s = .inl ⟨how, val, s.outs ++ o, s.steps⟩ := by unfold doS; rw [hs]; simp only [hr]
        rw [hd] at h1
        cases h1
        exact ⟨rfl, n, Nat.lt_succ_self n, .inr ⟨ov, ⟨hc, hm, ho⟩, hg⟩, (hk.keep g hgl hg).2⟩
theorem RM.step (hW : WFP false P) (h : RM P w0 w mb vd vf fuel n r s ov) (hg : ¬ turns mb ov g) {t : Tm} {e : En} {k : Kt} (hs : s.task = .ev t e k) (hne : s.steps ≠ fuel)
    (hgl : g < w.heap.size) :
    Calls Tryz.prog 31 #[.pointer (some ⟨mb, 0, none⟩)] (w.setCell ⟨mb, 6, none⟩ (.int .i64 ((s.steps : Int) + 1))) (RNx P w0 mb g vd vf fuel r n w) := by
  obtain ⟨h1, h2, h3, h4, h5, h6, h7⟩ := h
  have hT := h5
  rw [hs] at h3 h5
  have ho : Only (fun b => b = mb) w (w.setCell ⟨mb, 6, none⟩ (.int .i64 ((s.steps : Int) + 1))) := o5s _ _ _ _
  have h2' := h2.only ho
  have hk1 := h2.kp ho
  have hma := h3.ma
  obtain ⟨va, vc, ev, v0, v1, v2, v3, v4, v5, kv, hz, ht, he, hk⟩ := h3
  have hz' : MZ (w.setCell ⟨mb, 6, none⟩ (.int .i64 ((s.steps : Int) + 1))) mb vd vf fuel 0 0 ov ((s.steps : Int) + 1) (.bool true) (.int .i64 t.op) (.int .i64 t.n) (.string t.nm) (.int .i64 t.ty) va vc ev v0 v1 v2 v3 v4 v5 kv (.bool false) := by
    unfold MZ at hz ⊢
    simp [World.setCell, Array.getElem?_modify, hz, mrV]
  refine (step_any P w0 _ (turns mb ov) mb vd vf ov fuel 0 0 ((s.steps : Int) + 1) t e k h2' ⟨va, vc, ev, v0, v1, v2, v3, v4, v5, kv, hz', ht, he.kp hk1, hk.kp hk1⟩ h5).mono ?_
  rintro x w' ⟨q, hq, ⟨rfl, hrq⟩, ho2⟩
  have ho3 := ho.tr ho2
  cases n with
  | zero => cases h1
  | succ n =>
    rw [runS] at h1
    have hd : doS P fuel s = .inr ⟨s.steps + 1, s.outs, q⟩ := by unfold doS; rw [hs]; simp only [hne, if_false, hq]
    rw [hd] at h1
    have h4' : OwnL w' w0.heap.size ov s.outs := h4.onlyM hma ho3
    exact ⟨rfl, n, Nat.lt_succ_self n, .inl ⟨_, ov, ⟨h1, h2'.only ho2, by push_cast; exact hrq, h4', (doS_ok hW hT).1 _ hd, ((doS_steps h6).1 _ hd).1, doS_out h7 hd⟩, hg⟩, ((h2.kp ho3).keep g hgl hg).2⟩
theorem RM.spent (h : RM P w0 w mb vd vf fuel n r s ov) (hg : ¬ turns mb ov g) (hgl : g < w.heap.size) {t : Tm} {e : En} {k : Kt} (hs : s.task = .ev t e k) (heq : s.steps = fuel) :
    Calls Tryz.prog 30 #[.pointer (some ⟨mb, 0, none⟩), .int .i64 1, .int .i64 0] w fun x w' => x = .returned (.tuple #[]) /\ (∃ ov, RE P w0 w' mb vd vf fuel r ov /\ ¬ turns mb ov g) /\ w'.heap[g]? = w.heap[g]? := by
  obtain ⟨h1, h2, h3, h4, h5, h6, h7⟩ := h
  have hma := h3.ma
  rw [hs] at h3
  obtain ⟨va, vc, ev, v0, v1, v2, v3, v4, v5, kv, hz, ht, he, hk⟩ := h3
  refine (end_any w mb vd vf ov _ _ _ _ _ _ _ _ _ _ _ _ _ _ _ _ fuel 0 0 s.steps 1 0 hz).mono ?_
  rintro x w' ⟨⟨rfl, hm⟩, ho⟩
  cases n with
  | zero => cases h1
  | succ n =>
    rw [runS] at h1
    have hd : doS P fuel s = .inl ⟨1, 0, s.outs, s.steps⟩ := by unfold doS; rw [hs]; simp only [heq, if_true]
    rw [hd] at h1
    cases h1
    exact ⟨rfl, ⟨ov, ⟨h2.only ho, ⟨_, _, _, _, _, _, _, _, _, _, _, _, _, _, _, hm⟩, h4.onlyM hma ho⟩, hg⟩, ((h2.kp ho).keep g hgl hg).2⟩
theorem RM.ext (h : RM P w0 w mb vd vf fuel n r s ov) (hx : Ext w w') (hq : RQ P w0 w' (turns mb ov) mb vd vf fuel 0 0 ov s.steps s.task) : RM P w0 w' mb vd vf fuel n r s ov :=
  ⟨h.run, h.cr.ext' hx, hq, oB h.own hx, h.typ, h.steps, h.out⟩
theorem RQ.ext {bad : Nat -> Prop} {fu en vl st : Int} {q : Tk} (h : RQ P w0 w bad mb vd vf fu en vl ov st q) (hx : Ext w w') : RQ P w0 w' bad mb vd vf fu en vl ov st q := by
  cases q with
  | ev t e k => obtain ⟨va, vc, ev, v0, v1, v2, v3, v4, v5, kv, h1, h2, h3, h4⟩ := h; exact ⟨va, vc, ev, v0, v1, v2, v3, v4, v5, kv, h1.ext hx, h2, h3.ext hx, h4.ext hx⟩
  | pass v k => obtain ⟨t0, t1, t2, t3, t4, t5, ev, v0, v1, v2, v3, v4, v5, kv, h1, h2, h3⟩ := h; exact ⟨t0, t1, t2, t3, t4, t5, ev, v0, v1, v2, v3, v4, v5, kv, h1.ext hx, h2.ext hx, h3.ext hx⟩
theorem RM.drew (h : RM P w0 w mb vd vf fuel n r s ov) : RM P w0 w.drew mb vd vf fuel n r s ov := h.ext (Ext.rf w).drew (h.rq.ext (Ext.rf w).drew)
theorem RM.stepD (hW : WFP false P) (h : RM P w0 w mb vd vf fuel n r s ov) (hg : ¬ turns mb ov g) {t : Tm} {e : En} {k : Kt} (hs : s.task = .ev t e k) (hne : s.steps ≠ fuel)
    (hgl : g < w.drew.heap.size) :
    Calls Tryz.prog 31 #[.pointer (some ⟨mb, 0, none⟩)] (w.setCell ⟨mb, 6, none⟩ (.int .i64 ((s.steps : Int) + 1))).drew (RNx P w0 mb g vd vf fuel r n w.drew) := by
  have e1 : (w.setCell ⟨mb, 6, none⟩ (.int .i64 ((s.steps : Int) + 1))).drew = w.drew.setCell ⟨mb, 6, none⟩ (.int .i64 ((s.steps : Int) + 1)) := rfl
  rw [e1]
  exact RM.step hW h.drew hg hs hne hgl
theorem RLI.over (h : RLI P w0 mb g vd vf fuel r n w) : (∃ s ov, RM P w0 w mb vd vf fuel n r s ov /\ ¬ turns mb ov g /\ w.cell? ⟨mb, 22, none⟩ = some (.bool false)) ∨ (∃ ov, RE P w0 w mb vd vf fuel r ov /\ ¬ turns mb ov g /\ w.cell? ⟨mb, 22, none⟩ = some (.bool true)) := by
  rcases h with ⟨s, ov, h, hg⟩ | ⟨ov, h, hg⟩
  . exact .inl ⟨s, ov, h, hg, h.rq.ma.cells.2.2.2.2.2.2.2⟩
  . exact .inr ⟨ov, h, hg, h.ma.cells.2.2.2.2.2.2.2⟩
end
end Go.Proofs.YtkdglplfcpindaaGreatDoor
