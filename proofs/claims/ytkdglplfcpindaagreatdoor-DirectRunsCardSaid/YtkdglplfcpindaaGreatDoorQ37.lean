import Derived.Test.YtkdglplfcpindaaGreatDoorQ36
import Derived.Deep.RegionLaw
set_option maxRecDepth 100000
namespace Go.Proofs.YtkdglplfcpindaaGreatDoor
open Go.RowKit
theorem only_six0 {w w' : World} {mb b o : Nat} {a0 a1 a2 a3 a4 a5 : Value} (h : Only (fun b => b = mb) w w') (hb : b ≠ mb) (hc : w.cell? ⟨b, o, none⟩ = some a0 /\ w.cell? ⟨b, o + 1, none⟩ = some a1 /\ w.cell? ⟨b, o + 2, none⟩ = some a2 /\ w.cell? ⟨b, o + 3, none⟩ = some a3 /\ w.cell? ⟨b, o + 4, none⟩ = some a4 /\ w.cell? ⟨b, o + 5, none⟩ = some a5) :
    w'.cell? ⟨b, o, none⟩ = some a0 /\ w'.cell? ⟨b, o + 1, none⟩ = some a1 /\ w'.cell? ⟨b, o + 2, none⟩ = some a2 /\ w'.cell? ⟨b, o + 3, none⟩ = some a3 /\ w'.cell? ⟨b, o + 4, none⟩ = some a4 /\ w'.cell? ⟨b, o + 5, none⟩ = some a5 :=
  ⟨oC h hb hc.1, oC h hb hc.2.1, oC h hb hc.2.2.1, oC h hb hc.2.2.2.1, oC h hb hc.2.2.2.2.1, oC h hb hc.2.2.2.2.2⟩
set_option maxHeartbeats 8000000 in
theorem rcvLeft_any (P : Pg) (w0 w : World) (bad : Nat -> Prop) (mb bk : Nat) (vd vf ov t0 t1 t2 t3 t4 t5 ev : Value) (fu en vl st : Int) (t : Tm) (e : En) (k : Kt) (va vc ef kf : Value) (n : Int) (hC : CR P w0 w bad mb vd vf) (hz : MZ w mb vd vf fu en vl ov st (.bool false) t0 t1 t2 t3 t4 t5 ev zi (.int .i64 n) zi zs zs zp (.pointer (some ⟨bk, 0, none⟩)) (.bool false)) (hb : w.heap[bk]? = some (.cells (frV 2 t va vc ef zs 0 kf) 75 (0, 0))) (hnb : ¬ bad bk) (ht : RTx w0 t va vc) (he : DR P w0 w bad (.e ef e.vs e.ls)) (hk : DR P w0 w bad (.k kf k)) (hla : t.args.length = 2) (hn : ok64 n) :
    Calls Tryz.prog 29 #[.pointer (some ⟨mb, 0, none⟩)] w fun x w' => (x = .returned (.tuple #[]) /\ RQ P w0 w' bad mb vd vf fu en vl ov st (.ev (t.args.getD 1 noTm) e (.right t e n :: k))) /\ Only (fun b => b = mb) w w' := by
  have HC := LH hC
  have HZ := LH hz
  have HMA : Hid (MA w mb vd vf fu en vl ov st (.bool false)) := ⟨_, _, _, _, _, _, _, _, _, _, _, _, _, _, _, hz⟩
  have HN64 := LH hn
  clear hn
  have HT := LH ht
  have HK := LH hk
  have HNK : Hid (bk ≠ mb) := by show bk ≠ mb; exact fun e => hnb (e ▸ hC.tu)
  obtain ⟨bk', rfl⟩ := hk.k_form
  have HE := LH he
  obtain ⟨pe, rfl⟩ := he.e_form
  obtain ⟨A', c', e1, hc1, hc2, hs⟩ := ht.args
  obtain ⟨ba, oa, xa, xc, e2, hbl, hx6, hxt⟩ := hs 1 (t.args.getD 1 noTm) (by rw [List.getD_eq_getElem?_getD, List.getElem?_eq_getElem (by omega)]; rfl)
  have hx6 := hx6.below hC.ext
  subst e1
  subst e2
  obtain ⟨⟨Ax, cx, rfl, -, -⟩, ⟨Ay, cy, rfl, -, -⟩⟩ := hxt.form
  have HX6 := LH hx6
  have HXT := LH hxt
  have HNB : Hid (ba ≠ mb) := by show _ ≠ _; have := hC.lo; omega
  generalize t.args.getD 1 noTm = y at *
  rw [hla] at hb HT
  unfold maxLen at hc2
  clear hs hx6 hxt hla
  obtain ⟨-, ⟨Ab, cb, rfl, -, -⟩⟩ := ht.form
  have HBK := LH hb
  have lbk0 := hLt hb
  have HNW : Hid (w.heap.size ≠ mb) := by show _ ≠ _; have := hC.nb _ hC.tu; omega
  have HEX := LH (Ext.al w (.cells #[zi, .int .i64 n, zi, zs, zs, zp] 63))
  have HBX := LH (hNw w (.cells #[zi, .int .i64 n, zi, zs, zs, zp] 63))
  have m15 := cA hz 15
  have m16 := cA hz 16
  have m17 := cA hz 17
  have m18 := cA hz 18
  have m19 := cA hz 19
  have m20 := cA hz 20
  have m21 := cA hz 21
  have hlt := hLt hz
  clear hC hz hb ht hk he hnb
  go_enter Tryz.func29, Tryz.ntmps29
  go_wp2
  go_region
  have HEX1 : Hid (Ext w (w.alloc (.cells #[zi, .int .i64 n, zi, zs, zs, zp] 63)).drew) := HEX.out.drew
  have HBX1 : Hid ((w.alloc (.cells #[zi, .int .i64 n, zi, zs, zs, zp] 63)).drew.heap[w.heap.size]? = some (.cells #[zi, .int .i64 n, zi, zs, zs, zp] 63 (0, 0))) := HBX.out
  clear HEX HBX m15 m16 m17 m18 m19 m20 m21
  generalize (w.alloc _).drew = w1 at *
  obtain ⟨b0, b1, b2, b3, b4, b5⟩ := cells6 HBX1.out
  have lbx := hLt HBX1.out
  have HBK1 := LH ((HEX1.out.block _ (hLt HBK.out)).trans HBK.out)
  have f0 := cA HBK1.out 0
  have f1 := cA HBK1.out 1
  have f2 := cA HBK1.out 2
  have f3 := cA HBK1.out 3
  have f4 := cA HBK1.out 4
  have f5 := cA HBK1.out 5
  have f6 := cA HBK1.out 6
  have f7 := cA HBK1.out 7
  have f8 := cA HBK1.out 8
  have f9 := cA HBK1.out 9
  have f10 := cA HBK1.out 10
  have lbk := hLt HBK1.out
  obtain ⟨y0, y1, y2, y3, y4, y5⟩ := HX6.out.below HEX1.out
  rw [Nat.one_mul] at y0 y1 y2 y3 y4 y5
  have lba : ba < w1.heap.size := cL y0
  have HS0 : Hid (∀ W : World, Ext w1 W -> W.cell? ⟨bk, 1, none⟩ = some (.int .i64 t.op) /\ W.cell? ⟨bk, 2, none⟩ = some (.int .i64 t.n) /\ W.cell? ⟨bk, 3, none⟩ = some (.string t.nm) /\ W.cell? ⟨bk, 4, none⟩ = some (.int .i64 t.ty) /\ W.cell? ⟨bk, 5, none⟩ = some (.slice (some ⟨ba, oa, none⟩) 2 c') /\ W.cell? ⟨bk, 6, none⟩ = some (.slice Ab t.cls.length cb) /\ W.cell? ⟨bk, 7, none⟩ = some (.pointer pe) /\ W.cell? ⟨bk, 10, none⟩ = some (.pointer (some ⟨bk', 0, none⟩)) /\ W.cell? ⟨w.heap.size, 1, none⟩ = some (.int .i64 n) /\ W.cell? ⟨ba, oa + 6, none⟩ = some (.int .i64 y.op) /\ W.cell? ⟨ba, oa + 6 + 1, none⟩ = some (.int .i64 y.n) /\ W.cell? ⟨ba, oa + 6 + 2, none⟩ = some (.string y.nm) /\ W.cell? ⟨ba, oa + 6 + 3, none⟩ = some (.int .i64 y.ty) /\ W.cell? ⟨ba, oa + 6 + 4, none⟩ = some (.slice Ax y.args.length cx) /\ W.cell? ⟨ba, oa + 6 + 5, none⟩ = some (.slice Ay y.cls.length cy)) := fun W hW => ⟨hW.keep f1, hW.keep f2, hW.keep f3, hW.keep f4, hW.keep f5, hW.keep f6, hW.keep f7, hW.keep f10, hW.keep b1, hW.keep y0, hW.keep y1, hW.keep y2, hW.keep y3, hW.keep y4, hW.keep y5⟩
  have HGEN : Hid (∀ W : World, Ext w1 W -> W.heap[w1.heap.size]? = some (.cells #[.int .i64 3, .int .i64 t.op, .int .i64 t.n, .string t.nm, .int .i64 t.ty, .slice (some ⟨ba, oa, none⟩) 2 c', .slice Ab t.cls.length cb, zp, zs, .int .i64 n, .pointer (some ⟨bk', 0, none⟩)] 75 (0, 0)) -> Calls Tryz.prog 27 #[.pointer (some ⟨mb, 0, none⟩), tV y (.slice Ax y.args.length cx) (.slice Ay y.cls.length cy), .pointer pe, .pointer (some ⟨w1.heap.size, 0, none⟩)] W fun x w' => (x = .returned (.tuple #[]) /\ RQ P w0 w' bad mb vd vf fu en vl ov st (.ev y e (.right t e n :: k))) /\ Only (fun b => b = mb) w w' /\ (w'.cell? ⟨bk, 1, none⟩ = some (.int .i64 t.op) /\ w'.cell? ⟨bk, 2, none⟩ = some (.int .i64 t.n) /\ w'.cell? ⟨bk, 3, none⟩ = some (.string t.nm) /\ w'.cell? ⟨bk, 4, none⟩ = some (.int .i64 t.ty) /\ w'.cell? ⟨bk, 5, none⟩ = some (.slice (some ⟨ba, oa, none⟩) 2 c') /\ w'.cell? ⟨bk, 6, none⟩ = some (.slice Ab t.cls.length cb) /\ w'.cell? ⟨bk, 7, none⟩ = some (.pointer pe) /\ w'.cell? ⟨bk, 10, none⟩ = some (.pointer (some ⟨bk', 0, none⟩)) /\ w'.cell? ⟨w.heap.size, 1, none⟩ = some (.int .i64 n) /\ w'.cell? ⟨ba, oa + 6, none⟩ = some (.int .i64 y.op) /\ w'.cell? ⟨ba, oa + 6 + 1, none⟩ = some (.int .i64 y.n) /\ w'.cell? ⟨ba, oa + 6 + 2, none⟩ = some (.string y.nm) /\ w'.cell? ⟨ba, oa + 6 + 3, none⟩ = some (.int .i64 y.ty) /\ w'.cell? ⟨ba, oa + 6 + 4, none⟩ = some (.slice Ax y.args.length cx) /\ w'.cell? ⟨ba, oa + 6 + 5, none⟩ = some (.slice Ay y.cls.length cy))) := fun W hW hb => by
    have hkk : DR P w0 W bad (.k (.pointer (some ⟨w1.heap.size, 0, none⟩)) (.right t e n :: k)) :=
      .right w1.heap.size t e n _ _ _ _ HN64.out (HC.out.ext' HEX1.out).nb.new hb HT.out ((HK.out.ext HEX1.out).ext hW)
    have hs := HS0.out W hW
    refine (evalQ P w0 W bad mb vd vf ov fu en vl st y e _ _ _ _ _ ((HC.out.ext' HEX1.out).ext' hW) (HMA.out.ext' (HEX1.out.tr hW)) HXT.out ((HE.out.ext HEX1.out).ext hW) hkk).mono ?_
    rintro x w5 ⟨⟨rfl, hrq⟩, ho⟩
    exact ⟨⟨rfl, hrq⟩, (only_x (b := mb) (HEX1.out.tr hW)).tr ho, oC ho HNK.out hs.1, oC ho HNK.out hs.2.1, oC ho HNK.out hs.2.2.1, oC ho HNK.out hs.2.2.2.1, oC ho HNK.out hs.2.2.2.2.1, oC ho HNK.out hs.2.2.2.2.2.1, oC ho HNK.out hs.2.2.2.2.2.2.1, oC ho HNK.out hs.2.2.2.2.2.2.2.1, oC ho HNW.out hs.2.2.2.2.2.2.2.2.1, only_six0 ho HNB.out hs.2.2.2.2.2.2.2.2.2⟩
  go_upto_region 20 with fail
  clear f0 f8 f9 b0 b2 b3 b4 b5
  go_region_held3 (fun w' => w'.cell? ⟨bk, 1, none⟩ = some (.int .i64 t.op) /\ w'.cell? ⟨bk, 2, none⟩ = some (.int .i64 t.n) /\ w'.cell? ⟨bk, 3, none⟩ = some (.string t.nm) /\ w'.cell? ⟨bk, 4, none⟩ = some (.int .i64 t.ty) /\ w'.cell? ⟨bk, 5, none⟩ = some (.slice (some ⟨ba, oa, none⟩) 2 c') /\ w'.cell? ⟨bk, 6, none⟩ = some (.slice Ab t.cls.length cb) /\ w'.cell? ⟨bk, 7, none⟩ = some (.pointer pe) /\ w'.cell? ⟨bk, 10, none⟩ = some (.pointer (some ⟨bk', 0, none⟩)) /\ w'.cell? ⟨w.heap.size, 1, none⟩ = some (.int .i64 n) /\ w'.cell? ⟨ba, oa + 6, none⟩ = some (.int .i64 y.op) /\ w'.cell? ⟨ba, oa + 6 + 1, none⟩ = some (.int .i64 y.n) /\ w'.cell? ⟨ba, oa + 6 + 2, none⟩ = some (.string y.nm) /\ w'.cell? ⟨ba, oa + 6 + 3, none⟩ = some (.int .i64 y.ty) /\ w'.cell? ⟨ba, oa + 6 + 4, none⟩ = some (.slice Ax y.args.length cx) /\ w'.cell? ⟨ba, oa + 6 + 5, none⟩ = some (.slice Ay y.cls.length cy))
    (first | exact HCD.out | go_keep)
    ((go_at_call 27; (with_reducible refine (HGEN.out _ (by first | exact (Ext.al _ _).drew | exact Ext.tr (b := w1.drew) (Ext.rf w1).drew (Ext.al _ _) | exact Ext.al _ _) (by first | exact heapNewD _ _ _ | exact heapDNew _ _ _ | exact hNw _ _)).mono ?_); rintro x w5 ⟨⟨rfl, hrq⟩, ho, hcd⟩; have HRQ := LH hrq; have HON := LH ho; have HCD := LH hcd; clear hrq ho hcd))
  all_goals
    go_wp2
    go_end0
    exact ⟨⟨rfl, HRQ.out⟩, HON.out⟩
end Go.Proofs.YtkdglplfcpindaaGreatDoor

namespace Go.Proofs.YtkdglplfcpindaaGreatDoor
open Go.RowKit
set_option maxHeartbeats 8000000 in
theorem rcvAna_any (P : Pg) (w0 w : World) (bad : Nat -> Prop) (mb bk : Nat) (vd vf ov t0 t1 t2 t3 t4 t5 ev : Value) (fu en vl st : Int) (t : Tm) (e : En) (k : Kt) (va vc ef kf : Value) (m : Nat) (l : List It) (al : Value) (hC : CR P w0 w bad mb vd vf) (hz : MZ w mb vd vf fu en vl ov st (.bool false) t0 t1 t2 t3 t4 t5 ev (.int .i64 1) (.int .i64 (m : Int)) (.int .i64 t.ty) al zs zp (.pointer (some ⟨bk, 0, none⟩)) (.bool false)) (hb : w.heap[bk]? = some (.cells (frV 5 t va vc ef zs 0 kf) 75 (0, 0))) (hnb : ¬ bad bk) (ht : RTx w0 t va vc) (he : DR P w0 w bad (.e ef e.vs e.ls)) (hk : DR P w0 w bad (.k kf k)) (hl : DR P w0 w bad (.is al l)) (hm : m < t.cls.length) (hlen : (t.cls.getD m ([], noTm)).1.length = l.length) :
    Calls Tryz.prog 29 #[.pointer (some ⟨mb, 0, none⟩)] w fun x w' => (x = .returned (.tuple #[]) /\ RQ P w0 w' bad mb vd vf fu en vl ov st (.ev (t.cls.getD m ([], noTm)).2 (bindV e (t.cls.getD m ([], noTm)).1 l) k)) /\ Only (fun b => b = mb) w w' := by
  have HC := LH hC
  have HZ := LH hz
  have HMA : Hid (MA w mb vd vf fu en vl ov st (.bool false)) := ⟨_, _, _, _, _, _, _, _, _, _, _, _, _, _, _, hz⟩
  have HT := LH ht
  have HK := LH hk
  have HE := LH he
  have HL := LH hl
  have HNK : Hid (bk ≠ mb) := by show bk ≠ mb; exact fun e => hnb (e ▸ hC.tu)
  obtain ⟨bk', rfl⟩ := hk.k_form
  obtain ⟨pe, rfl⟩ := he.e_form
  obtain ⟨Al, cl, rfl, -, -⟩ := hl.is_form
  obtain ⟨⟨Aa, ca, rfl, -, -⟩, ⟨Bcl, ccl, rfl, hc1, hc2⟩⟩ := ht.form
  unfold maxLen at hc2
  obtain ⟨bc, oc, vn, xa, xc, e2, hvn, hrs, hx6, hxt⟩ := ht.clause hC.ext hm
  subst e2
  have HVN := LH hvn
  have HNS := LH hrs
  obtain ⟨An, cn, rfl, -, -⟩ := hrs.form
  obtain ⟨⟨Ax, cx, rfl, -, -⟩, ⟨Ay, cy, rfl, -, -⟩⟩ := hxt.form
  have HX6 := LH hx6
  have HXT := LH hxt
  have hml : (m : Int) < t.cls.length := by omega
  clear hvn hrs hx6 hxt
  generalize (t.cls.getD m ([], noTm)).2 = y at *
  generalize (t.cls.getD m ([], noTm)).1 = ns at *
  have HLEN := LH hlen
  clear hlen
  have HBK := LH hb
  have lbk0 := hLt hb
  have HNW : Hid (w.heap.size ≠ mb) := by show _ ≠ _; have := hC.nb _ hC.tu; omega
  have HEX := LH (Ext.al w (.cells #[.int .i64 1, .int .i64 (m : Int), .int .i64 t.ty, .slice Al l.length cl, zs, zp] 63))
  have HBX := LH (hNw w (.cells #[.int .i64 1, .int .i64 (m : Int), .int .i64 t.ty, .slice Al l.length cl, zs, zp] 63))
  have m15 := cA hz 15
  have m16 := cA hz 16
  have m17 := cA hz 17
  have m18 := cA hz 18
  have m19 := cA hz 19
  have m20 := cA hz 20
  have m21 := cA hz 21
  have hlt := hLt hz
  clear hC hz hb ht hk he hnb hl hm
  go_enter Tryz.func29, Tryz.ntmps29
  go_wp2
  go_region
  have HEX1 : Hid (Ext w (w.alloc (.cells #[.int .i64 1, .int .i64 (m : Int), .int .i64 t.ty, .slice Al l.length cl, zs, zp] 63)).drew) := HEX.out.drew
  have HBX1 : Hid ((w.alloc (.cells #[.int .i64 1, .int .i64 (m : Int), .int .i64 t.ty, .slice Al l.length cl, zs, zp] 63)).drew.heap[w.heap.size]? = some (.cells #[.int .i64 1, .int .i64 (m : Int), .int .i64 t.ty, .slice Al l.length cl, zs, zp] 63 (0, 0))) := HBX.out
  clear HEX HBX m15 m16 m17 m18 m19 m20 m21
  generalize (w.alloc _).drew = w1 at *
  obtain ⟨b0, b1, b2, b3, b4, b5⟩ := cells6 HBX1.out
  have lbx := hLt HBX1.out
  have HBK1 := LH ((HEX1.out.block _ (hLt HBK.out)).trans HBK.out)
  have f0 := cA HBK1.out 0
  have f1 := cA HBK1.out 1
  have f2 := cA HBK1.out 2
  have f3 := cA HBK1.out 3
  have f4 := cA HBK1.out 4
  have f5 := cA HBK1.out 5
  have f6 := cA HBK1.out 6
  have f7 := cA HBK1.out 7
  have f8 := cA HBK1.out 8
  have f9 := cA HBK1.out 9
  have f10 := cA HBK1.out 10
  have lbk := hLt HBK1.out
  go_upto_region 5 with fail
  go_region
  clear f0 f1 f2 f3 f4 f5 f6 f7 f8 f9 f10 b0 b1 b2 b3 b4 b5 lbx lbk
  have HEX2 : Hid (Ext w w1.drew) := HEX1.out.tr (Ext.rf w1).drew
  have HBX2 : Hid (w1.drew.heap[w.heap.size]? = some (.cells #[.int .i64 1, .int .i64 (m : Int), .int .i64 t.ty, .slice Al l.length cl, zs, zp] 63 (0, 0))) := HBX1.out
  have HBK2 : Hid (w1.drew.heap[bk]? = _) := HBK1.out
  generalize w1.drew = w2 at *
  obtain ⟨b0, b1, b2, b3, b4, b5⟩ := cells6 HBX2.out
  have lbx := hLt HBX2.out
  have lbk := hLt HBK2.out
  have f2 := cA HBK2.out 2
  have f6 := cA HBK2.out 6
  have f7 := cA HBK2.out 7
  have f8 := cA HBK2.out 8
  have f10 := cA HBK2.out 10
  have HX6b := LH (HX6.out.below HEX2.out)
  obtain ⟨y0, y1, y2, y3, y4, y5⟩ := HX6b.out
  have hvn := HEX2.out.keep HVN.out
  have lbc : bc < w2.heap.size := cL hvn
  have HEA := LH (Ext.al w2 (.cells #[.slice An ns.length cn, .int .i64 y.op, .int .i64 y.n, .string y.nm, .int .i64 y.ty, .slice Ax y.args.length cx, .slice Ay y.cls.length cy] 123))
  have HBA := LH (hNw w2 (.cells #[.slice An ns.length cn, .int .i64 y.op, .int .i64 y.n, .string y.nm, .int .i64 y.ty, .slice Ax y.args.length cx, .slice Ay y.cls.length cy] 123))
  go_upto_region 7 with fail
  go_region_held3 (fun w' => w'.cell? ⟨bk, 6, none⟩ = some (.slice (some ⟨bc, oc, none⟩) t.cls.length ccl) /\ w'.cell? ⟨w.heap.size, 1, none⟩ = some (.int .i64 (m : Int)) /\ w'.cell? ⟨bc, oc + m * 7, none⟩ = some (.slice An ns.length cn) /\ w'.cell? ⟨bc, oc + m * 7 + 1, none⟩ = some (.int .i64 y.op) /\ w'.cell? ⟨bc, oc + m * 7 + 1 + 1, none⟩ = some (.int .i64 y.n) /\ w'.cell? ⟨bc, oc + m * 7 + 1 + 2, none⟩ = some (.string y.nm) /\ w'.cell? ⟨bc, oc + m * 7 + 1 + 3, none⟩ = some (.int .i64 y.ty) /\ w'.cell? ⟨bc, oc + m * 7 + 1 + 4, none⟩ = some (.slice Ax y.args.length cx) /\ w'.cell? ⟨bc, oc + m * 7 + 1 + 5, none⟩ = some (.slice Ay y.cls.length cy))
    (go_keep)
    (fail)
  have HEA2 : Hid (Ext w2 (w2.alloc (.cells #[.slice An ns.length cn, .int .i64 y.op, .int .i64 y.n, .string y.nm, .int .i64 y.ty, .slice Ax y.args.length cx, .slice Ay y.cls.length cy] 123)).drew) := HEA.out.drew
  have HBA2 : Hid ((w2.alloc (.cells #[.slice An ns.length cn, .int .i64 y.op, .int .i64 y.n, .string y.nm, .int .i64 y.ty, .slice Ax y.args.length cx, .slice Ay y.cls.length cy] 123)).drew.heap[w2.heap.size]? = some (.cells #[.slice An ns.length cn, .int .i64 y.op, .int .i64 y.n, .string y.nm, .int .i64 y.ty, .slice Ax y.args.length cx, .slice Ay y.cls.length cy] 123 (0, 0))) := HBA.out
  clear HEA HBA f2 f6 f7 f8 f10 b0 b1 b2 b3 b4 b5 y0 y1 y2 y3 y4 y5 hvn
  generalize (w2.alloc _).drew = w3 at *
  have HEX3 := LH (HEX2.out.tr HEA2.out)
  have HBX3 := LH ((HEA2.out.block _ (hLt HBX2.out)).trans HBX2.out)
  have HBK3 := LH ((HEA2.out.block _ (hLt HBK2.out)).trans HBK2.out)
  have HNC : Hid (w2.heap.size ≠ mb) := by show _ ≠ _; have := HC.out.nb _ HC.out.tu; have := HEX2.out.size; omega
  have lba := hLt HBA2.out
  have lbx3 := hLt HBX3.out
  have lbk3 := hLt HBK3.out
  have g0 := cA HBA2.out 0
  have g1 := cA HBA2.out 1
  have g2 := cA HBA2.out 2
  have g3 := cA HBA2.out 3
  have g4 := cA HBA2.out 4
  have g5 := cA HBA2.out 5
  have g6 := cA HBA2.out 6
  have g7 : w3.cell? ⟨bk, 7, none⟩ = some (.pointer pe) := cA HBK3.out 7
  have g8 : w3.cell? ⟨w.heap.size, 3, none⟩ = some (.slice Al l.length cl) := cA HBX3.out 3
  have g9 := cA HBK3.out 10
  have HX3D : Hid (Ext w w3.drew) := HEX3.out.tr (Ext.rf _).drew
  go_upto_region 8 with fail
  go_region_held3 (fun w' => w'.cell? ⟨w2.heap.size, 0, none⟩ = some (.slice An ns.length cn) /\ w'.cell? ⟨w2.heap.size, 1, none⟩ = some (.int .i64 y.op) /\ w'.cell? ⟨w2.heap.size, 2, none⟩ = some (.int .i64 y.n) /\ w'.cell? ⟨w2.heap.size, 3, none⟩ = some (.string y.nm) /\ w'.cell? ⟨w2.heap.size, 4, none⟩ = some (.int .i64 y.ty) /\ w'.cell? ⟨w2.heap.size, 5, none⟩ = some (.slice Ax y.args.length cx) /\ w'.cell? ⟨w2.heap.size, 6, none⟩ = some (.slice Ay y.cls.length cy) /\ w'.cell? ⟨bk, 7, none⟩ = some (.pointer pe) /\ w'.cell? ⟨w.heap.size, 3, none⟩ = some (.slice Al l.length cl) /\ w'.cell? ⟨bk, 10, none⟩ = some (.pointer (some ⟨bk', 0, none⟩)))
    (first | exact HCD.out | exact HCB.out | go_keep)
    ((first
      | (go_at_call 28; (with_reducible refine (extend_any P w0 _ bad ns l e.vs e.ls _ _ _ (HE.out.ext HX3D.out) (HNS.out.below (HC.out.ext.tr HX3D.out)) (HL.out.ext HX3D.out) HLEN.out (HC.out.nb.ext HX3D.out)).mono ?_); rintro x w4 ⟨⟨a, rfl, hr⟩, hbb⟩; obtain ⟨pa, rfl⟩ := hr.e_form; have HX4 : Hid (Ext w w4) := HX3D.out.tr hbb; have HR4 := LH hr; have HX34 : Hid (Ext w3 w4) := Ext.tr (b := w3.drew) (Ext.rf _).drew hbb; have HBA4 := LH ((HX34.out.block _ (hLt HBA2.out)).trans HBA2.out); have HBX4 := LH ((HX34.out.block _ (hLt HBX3.out)).trans HBX3.out); have HBK4 := LH ((HX34.out.block _ (hLt HBK3.out)).trans HBK3.out); have HCB : Hid (w4.cell? ⟨w2.heap.size, 0, none⟩ = some (.slice An ns.length cn) /\ w4.cell? ⟨w2.heap.size, 1, none⟩ = some (.int .i64 y.op) /\ w4.cell? ⟨w2.heap.size, 2, none⟩ = some (.int .i64 y.n) /\ w4.cell? ⟨w2.heap.size, 3, none⟩ = some (.string y.nm) /\ w4.cell? ⟨w2.heap.size, 4, none⟩ = some (.int .i64 y.ty) /\ w4.cell? ⟨w2.heap.size, 5, none⟩ = some (.slice Ax y.args.length cx) /\ w4.cell? ⟨w2.heap.size, 6, none⟩ = some (.slice Ay y.cls.length cy) /\ w4.cell? ⟨bk, 7, none⟩ = some (.pointer pe) /\ w4.cell? ⟨w.heap.size, 3, none⟩ = some (.slice Al l.length cl) /\ w4.cell? ⟨bk, 10, none⟩ = some (.pointer (some ⟨bk', 0, none⟩))) := ⟨cA HBA4.out 0, cA HBA4.out 1, cA HBA4.out 2, cA HBA4.out 3, cA HBA4.out 4, cA HBA4.out 5, cA HBA4.out 6, cA HBK4.out 7, cA HBX4.out 3, cA HBK4.out 10⟩; clear hr hbb)
      | (go_at_call 27; (with_reducible refine (evalQ P w0 _ bad mb vd vf ov fu en vl st y (bindV e ns l) k _ _ _ _ (HC.out.ext' HX4.out) (HMA.out.ext' HX4.out) HXT.out HR4.out (HK.out.ext HX4.out)).mono ?_); rintro x w5 ⟨⟨rfl, hrq⟩, ho⟩; have HRQ := LH hrq; have hs := HCB.out; have HCD : Hid (w5.cell? ⟨w2.heap.size, 0, none⟩ = some (.slice An ns.length cn) /\ w5.cell? ⟨w2.heap.size, 1, none⟩ = some (.int .i64 y.op) /\ w5.cell? ⟨w2.heap.size, 2, none⟩ = some (.int .i64 y.n) /\ w5.cell? ⟨w2.heap.size, 3, none⟩ = some (.string y.nm) /\ w5.cell? ⟨w2.heap.size, 4, none⟩ = some (.int .i64 y.ty) /\ w5.cell? ⟨w2.heap.size, 5, none⟩ = some (.slice Ax y.args.length cx) /\ w5.cell? ⟨w2.heap.size, 6, none⟩ = some (.slice Ay y.cls.length cy) /\ w5.cell? ⟨bk, 7, none⟩ = some (.pointer pe) /\ w5.cell? ⟨w.heap.size, 3, none⟩ = some (.slice Al l.length cl) /\ w5.cell? ⟨bk, 10, none⟩ = some (.pointer (some ⟨bk', 0, none⟩))) := ⟨oC ho HNC.out hs.1, oC ho HNC.out hs.2.1, oC ho HNC.out hs.2.2.1, oC ho HNC.out hs.2.2.2.1, oC ho HNC.out hs.2.2.2.2.1, oC ho HNC.out hs.2.2.2.2.2.1, oC ho HNC.out hs.2.2.2.2.2.2.1, oC ho HNK.out hs.2.2.2.2.2.2.2.1, oC ho HNW.out hs.2.2.2.2.2.2.2.2.1, oC ho HNK.out hs.2.2.2.2.2.2.2.2.2⟩; have HON := LH ((only_x (b := mb) HX4.out).tr ho); clear hrq ho hs)))
  all_goals
    go_wp2
    exact bodyPost_ret (v := .tuple #[]) (by simp [results, Tryz.results29, go_sem]) rfl ⟨⟨rfl, HRQ.out⟩, HON.out⟩
end Go.Proofs.YtkdglplfcpindaaGreatDoor

namespace Go.Proofs.YtkdglplfcpindaaGreatDoor
open Go.RowKit
set_option maxHeartbeats 8000000 in
theorem rcvObs_any (P : Pg) (w0 w : World) (bad : Nat -> Prop) (mb bk : Nat) (vd vf ov t0 t1 t2 t3 t4 t5 ev : Value) (fu en vl st : Int) (t u : Tm) (e : En) (k : Kt) (va vc kf ua uc eo al : Value) (m : Nat) (l : List It) (hC : CR P w0 w bad mb vd vf) (hz : MZ w mb vd vf fu en vl ov st (.bool false) t0 t1 t2 t3 t4 t5 ev (.int .i64 2) zi (.int .i64 t.ty) zs uc eo (.pointer (some ⟨bk, 0, none⟩)) (.bool false)) (hb : w.heap[bk]? = some (.cells (frV 6 t va vc zp al 0 kf) 75 (0, 0))) (hnb : ¬ bad bk) (ht : RTx w0 t va vc) (hu : RTx w0 u ua uc) (he : DR P w0 w bad (.e eo e.vs e.ls)) (hk : DR P w0 w bad (.k kf k)) (hl : DR P w0 w bad (.is al l)) (hn : t.n = (m : Int)) (hm : m < u.cls.length) (hlen : (u.cls.getD m ([], noTm)).1.length = l.length) :
    Calls Tryz.prog 29 #[.pointer (some ⟨mb, 0, none⟩)] w fun x w' => (x = .returned (.tuple #[]) /\ RQ P w0 w' bad mb vd vf fu en vl ov st (.ev (u.cls.getD m ([], noTm)).2 (bindV e (u.cls.getD m ([], noTm)).1 l) k)) /\ Only (fun b => b = mb) w w' := by
  have HC := LH hC
  have HZ := LH hz
  have HMA : Hid (MA w mb vd vf fu en vl ov st (.bool false)) := ⟨_, _, _, _, _, _, _, _, _, _, _, _, _, _, _, hz⟩
  have HT := LH ht
  have HK := LH hk
  have HE := LH he
  have HL := LH hl
  have HNK : Hid (bk ≠ mb) := by show bk ≠ mb; exact fun e => hnb (e ▸ hC.tu)
  obtain ⟨bk', rfl⟩ := hk.k_form
  obtain ⟨pe, rfl⟩ := he.e_form
  obtain ⟨Al, cl, rfl, -, -⟩ := hl.is_form
  obtain ⟨⟨Aa, ca, rfl, -, -⟩, ⟨Ab, cb, rfl, -, -⟩⟩ := ht.form
  obtain ⟨⟨Au, cau, rfl, -, -⟩, ⟨Bcl, ccl, rfl, hc1, hc2⟩⟩ := hu.form
  unfold maxLen at hc2
  obtain ⟨bc, oc, vn, xa, xc, e2, hvn, hrs, hx6, hxt⟩ := hu.clause hC.ext hm
  subst e2
  have HVN := LH hvn
  have HNS := LH hrs
  obtain ⟨An, cn, rfl, -, -⟩ := hrs.form
  obtain ⟨⟨Ax, cx, rfl, -, -⟩, ⟨Ay, cy, rfl, -, -⟩⟩ := hxt.form
  have HX6 := LH hx6
  have HXT := LH hxt
  have hml : (m : Int) < u.cls.length := by omega
  clear hvn hrs hx6 hxt
  generalize (u.cls.getD m ([], noTm)).2 = y at *
  generalize (u.cls.getD m ([], noTm)).1 = ns at *
  have HLEN := LH hlen
  clear hlen
  dsimp only [frV] at hb
  rw [hn] at hb
  have HBK := LH hb
  have lbk0 := hLt hb
  have HNW : Hid (w.heap.size ≠ mb) := by show _ ≠ _; have := hC.nb _ hC.tu; omega
  have HEX := LH (Ext.al w (.cells #[.int .i64 2, zi, .int .i64 t.ty, zs, .slice (some ⟨bc, oc, none⟩) u.cls.length ccl, .pointer pe] 63))
  have HBX := LH (hNw w (.cells #[.int .i64 2, zi, .int .i64 t.ty, zs, .slice (some ⟨bc, oc, none⟩) u.cls.length ccl, .pointer pe] 63))
  have m15 := cA hz 15
  have m16 := cA hz 16
  have m17 := cA hz 17
  have m18 := cA hz 18
  have m19 := cA hz 19
  have m20 := cA hz 20
  have m21 := cA hz 21
  have hlt := hLt hz
  clear hC hz hb ht hk he hnb hl hm hu hn
  go_enter Tryz.func29, Tryz.ntmps29
  go_wp2
  go_region
  have HEX1 : Hid (Ext w (w.alloc (.cells #[.int .i64 2, zi, .int .i64 t.ty, zs, .slice (some ⟨bc, oc, none⟩) u.cls.length ccl, .pointer pe] 63)).drew) := HEX.out.drew
  have HBX1 : Hid ((w.alloc (.cells #[.int .i64 2, zi, .int .i64 t.ty, zs, .slice (some ⟨bc, oc, none⟩) u.cls.length ccl, .pointer pe] 63)).drew.heap[w.heap.size]? = some (.cells #[.int .i64 2, zi, .int .i64 t.ty, zs, .slice (some ⟨bc, oc, none⟩) u.cls.length ccl, .pointer pe] 63 (0, 0))) := HBX.out
  clear HEX HBX m15 m16 m17 m18 m19 m20 m21
  generalize (w.alloc _).drew = w1 at *
  obtain ⟨b0, b1, b2, b3, b4, b5⟩ := cells6 HBX1.out
  have lbx := hLt HBX1.out
  have HBK1 := LH ((HEX1.out.block _ (hLt HBK.out)).trans HBK.out)
  have f0 := cA HBK1.out 0
  have f1 := cA HBK1.out 1
  have f2 := cA HBK1.out 2
  have f3 := cA HBK1.out 3
  have f4 := cA HBK1.out 4
  have f5 := cA HBK1.out 5
  have f6 := cA HBK1.out 6
  have f7 := cA HBK1.out 7
  have f8 := cA HBK1.out 8
  have f9 := cA HBK1.out 9
  have f10 := cA HBK1.out 10
  have lbk := hLt HBK1.out
  go_upto_region 10 with fail
  go_region
  clear f0 f1 f2 f3 f4 f5 f6 f7 f8 f9 f10 b0 b1 b2 b3 b4 b5 lbx lbk
  have HEX2 : Hid (Ext w w1.drew) := HEX1.out.tr (Ext.rf w1).drew
  have HBX2 : Hid (w1.drew.heap[w.heap.size]? = some (.cells #[.int .i64 2, zi, .int .i64 t.ty, zs, .slice (some ⟨bc, oc, none⟩) u.cls.length ccl, .pointer pe] 63 (0, 0))) := HBX1.out
  have HBK2 : Hid (w1.drew.heap[bk]? = _) := HBK1.out
  generalize w1.drew = w2 at *
  obtain ⟨b0, b1, b2, b3, b4, b5⟩ := cells6 HBX2.out
  have lbx := hLt HBX2.out
  have lbk := hLt HBK2.out
  have f2 := cA HBK2.out 2
  have f6 := cA HBK2.out 6
  have f7 := cA HBK2.out 7
  have f8 := cA HBK2.out 8
  have f10 := cA HBK2.out 10
  have HX6b := LH (HX6.out.below HEX2.out)
  obtain ⟨y0, y1, y2, y3, y4, y5⟩ := HX6b.out
  have hvn := HEX2.out.keep HVN.out
  have lbc : bc < w2.heap.size := cL hvn
  have HEA := LH (Ext.al w2 (.cells #[.slice An ns.length cn, .int .i64 y.op, .int .i64 y.n, .string y.nm, .int .i64 y.ty, .slice Ax y.args.length cx, .slice Ay y.cls.length cy] 123))
  have HBA := LH (hNw w2 (.cells #[.slice An ns.length cn, .int .i64 y.op, .int .i64 y.n, .string y.nm, .int .i64 y.ty, .slice Ax y.args.length cx, .slice Ay y.cls.length cy] 123))
  go_upto_region 12 with fail
  go_region_held3 (fun w' => w'.cell? ⟨w.heap.size, 4, none⟩ = some (.slice (some ⟨bc, oc, none⟩) u.cls.length ccl) /\ w'.cell? ⟨bk, 2, none⟩ = some (.int .i64 (m : Int)) /\ w'.cell? ⟨bc, oc + m * 7, none⟩ = some (.slice An ns.length cn) /\ w'.cell? ⟨bc, oc + m * 7 + 1, none⟩ = some (.int .i64 y.op) /\ w'.cell? ⟨bc, oc + m * 7 + 1 + 1, none⟩ = some (.int .i64 y.n) /\ w'.cell? ⟨bc, oc + m * 7 + 1 + 2, none⟩ = some (.string y.nm) /\ w'.cell? ⟨bc, oc + m * 7 + 1 + 3, none⟩ = some (.int .i64 y.ty) /\ w'.cell? ⟨bc, oc + m * 7 + 1 + 4, none⟩ = some (.slice Ax y.args.length cx) /\ w'.cell? ⟨bc, oc + m * 7 + 1 + 5, none⟩ = some (.slice Ay y.cls.length cy))
    (go_keep)
    (fail)
  have HEA2 : Hid (Ext w2 (w2.alloc (.cells #[.slice An ns.length cn, .int .i64 y.op, .int .i64 y.n, .string y.nm, .int .i64 y.ty, .slice Ax y.args.length cx, .slice Ay y.cls.length cy] 123)).drew) := HEA.out.drew
  have HBA2 : Hid ((w2.alloc (.cells #[.slice An ns.length cn, .int .i64 y.op, .int .i64 y.n, .string y.nm, .int .i64 y.ty, .slice Ax y.args.length cx, .slice Ay y.cls.length cy] 123)).drew.heap[w2.heap.size]? = some (.cells #[.slice An ns.length cn, .int .i64 y.op, .int .i64 y.n, .string y.nm, .int .i64 y.ty, .slice Ax y.args.length cx, .slice Ay y.cls.length cy] 123 (0, 0))) := HBA.out
  clear HEA HBA f2 f6 f7 f8 f10 b0 b1 b2 b3 b4 b5 y0 y1 y2 y3 y4 y5 hvn
  generalize (w2.alloc _).drew = w3 at *
  have HEX3 := LH (HEX2.out.tr HEA2.out)
  have HBX3 := LH ((HEA2.out.block _ (hLt HBX2.out)).trans HBX2.out)
  have HBK3 := LH ((HEA2.out.block _ (hLt HBK2.out)).trans HBK2.out)
  have HNC : Hid (w2.heap.size ≠ mb) := by show _ ≠ _; have := HC.out.nb _ HC.out.tu; have := HEX2.out.size; omega
  have lba := hLt HBA2.out
  have lbx3 := hLt HBX3.out
  have lbk3 := hLt HBK3.out
  have g0 := cA HBA2.out 0
  have g1 := cA HBA2.out 1
  have g2 := cA HBA2.out 2
  have g3 := cA HBA2.out 3
  have g4 := cA HBA2.out 4
  have g5 := cA HBA2.out 5
  have g6 := cA HBA2.out 6
  have g7 : w3.cell? ⟨w.heap.size, 5, none⟩ = some (.pointer pe) := cA HBX3.out 5
  have g8 : w3.cell? ⟨bk, 8, none⟩ = some (.slice Al l.length cl) := cA HBK3.out 8
  have g9 := cA HBK3.out 10
  have HX3D : Hid (Ext w w3.drew) := HEX3.out.tr (Ext.rf _).drew
  go_upto_region 13 with fail
  go_region_held3 (fun w' => w'.cell? ⟨w2.heap.size, 0, none⟩ = some (.slice An ns.length cn) /\ w'.cell? ⟨w2.heap.size, 1, none⟩ = some (.int .i64 y.op) /\ w'.cell? ⟨w2.heap.size, 2, none⟩ = some (.int .i64 y.n) /\ w'.cell? ⟨w2.heap.size, 3, none⟩ = some (.string y.nm) /\ w'.cell? ⟨w2.heap.size, 4, none⟩ = some (.int .i64 y.ty) /\ w'.cell? ⟨w2.heap.size, 5, none⟩ = some (.slice Ax y.args.length cx) /\ w'.cell? ⟨w2.heap.size, 6, none⟩ = some (.slice Ay y.cls.length cy) /\ w'.cell? ⟨w.heap.size, 5, none⟩ = some (.pointer pe) /\ w'.cell? ⟨bk, 8, none⟩ = some (.slice Al l.length cl) /\ w'.cell? ⟨bk, 10, none⟩ = some (.pointer (some ⟨bk', 0, none⟩)))
    (first | exact HCD.out | exact HCB.out | go_keep)
    ((first
      | (go_at_call 28; (with_reducible refine (extend_any P w0 _ bad ns l e.vs e.ls _ _ _ (HE.out.ext HX3D.out) (HNS.out.below (HC.out.ext.tr HX3D.out)) (HL.out.ext HX3D.out) HLEN.out (HC.out.nb.ext HX3D.out)).mono ?_); rintro x w4 ⟨⟨a, rfl, hr⟩, hbb⟩; obtain ⟨pa, rfl⟩ := hr.e_form; have HX4 : Hid (Ext w w4) := HX3D.out.tr hbb; have HR4 := LH hr; have HX34 : Hid (Ext w3 w4) := Ext.tr (b := w3.drew) (Ext.rf _).drew hbb; have HBA4 := LH ((HX34.out.block _ (hLt HBA2.out)).trans HBA2.out); have HBX4 := LH ((HX34.out.block _ (hLt HBX3.out)).trans HBX3.out); have HBK4 := LH ((HX34.out.block _ (hLt HBK3.out)).trans HBK3.out); have HCB : Hid (w4.cell? ⟨w2.heap.size, 0, none⟩ = some (.slice An ns.length cn) /\ w4.cell? ⟨w2.heap.size, 1, none⟩ = some (.int .i64 y.op) /\ w4.cell? ⟨w2.heap.size, 2, none⟩ = some (.int .i64 y.n) /\ w4.cell? ⟨w2.heap.size, 3, none⟩ = some (.string y.nm) /\ w4.cell? ⟨w2.heap.size, 4, none⟩ = some (.int .i64 y.ty) /\ w4.cell? ⟨w2.heap.size, 5, none⟩ = some (.slice Ax y.args.length cx) /\ w4.cell? ⟨w2.heap.size, 6, none⟩ = some (.slice Ay y.cls.length cy) /\ w4.cell? ⟨w.heap.size, 5, none⟩ = some (.pointer pe) /\ w4.cell? ⟨bk, 8, none⟩ = some (.slice Al l.length cl) /\ w4.cell? ⟨bk, 10, none⟩ = some (.pointer (some ⟨bk', 0, none⟩))) := ⟨cA HBA4.out 0, cA HBA4.out 1, cA HBA4.out 2, cA HBA4.out 3, cA HBA4.out 4, cA HBA4.out 5, cA HBA4.out 6, cA HBX4.out 5, cA HBK4.out 8, cA HBK4.out 10⟩; clear hr hbb)
      | (go_at_call 27; (with_reducible refine (evalQ P w0 _ bad mb vd vf ov fu en vl st y (bindV e ns l) k _ _ _ _ (HC.out.ext' HX4.out) (HMA.out.ext' HX4.out) HXT.out HR4.out (HK.out.ext HX4.out)).mono ?_); rintro x w5 ⟨⟨rfl, hrq⟩, ho⟩; have HRQ := LH hrq; have hs := HCB.out; have HCD : Hid (w5.cell? ⟨w2.heap.size, 0, none⟩ = some (.slice An ns.length cn) /\ w5.cell? ⟨w2.heap.size, 1, none⟩ = some (.int .i64 y.op) /\ w5.cell? ⟨w2.heap.size, 2, none⟩ = some (.int .i64 y.n) /\ w5.cell? ⟨w2.heap.size, 3, none⟩ = some (.string y.nm) /\ w5.cell? ⟨w2.heap.size, 4, none⟩ = some (.int .i64 y.ty) /\ w5.cell? ⟨w2.heap.size, 5, none⟩ = some (.slice Ax y.args.length cx) /\ w5.cell? ⟨w2.heap.size, 6, none⟩ = some (.slice Ay y.cls.length cy) /\ w5.cell? ⟨w.heap.size, 5, none⟩ = some (.pointer pe) /\ w5.cell? ⟨bk, 8, none⟩ = some (.slice Al l.length cl) /\ w5.cell? ⟨bk, 10, none⟩ = some (.pointer (some ⟨bk', 0, none⟩))) := ⟨oC ho HNC.out hs.1, oC ho HNC.out hs.2.1, oC ho HNC.out hs.2.2.1, oC ho HNC.out hs.2.2.2.1, oC ho HNC.out hs.2.2.2.2.1, oC ho HNC.out hs.2.2.2.2.2.1, oC ho HNC.out hs.2.2.2.2.2.2.1, oC ho HNW.out hs.2.2.2.2.2.2.2.1, oC ho HNK.out hs.2.2.2.2.2.2.2.2.1, oC ho HNK.out hs.2.2.2.2.2.2.2.2.2⟩; have HON := LH ((only_x (b := mb) HX4.out).tr ho); clear hrq ho hs)))
  all_goals
    go_wp2
    exact bodyPost_ret (v := .tuple #[]) (by simp [results, Tryz.results29, go_sem]) rfl ⟨⟨rfl, HRQ.out⟩, HON.out⟩
end Go.Proofs.YtkdglplfcpindaaGreatDoor

namespace Go.Proofs.YtkdglplfcpindaaGreatDoor
open Go.RowKit
theorem own_neR {w : World} {B mb T n : Nat} {v : Value} {xs : List Value} {c : Array Value} (h : w.ownsRow B 3 1 v n xs) (hm : w.heap[mb]? = some (.cells c T (0, 0))) (hT : T ≠ 3) : v.ownBlock ≠ some mb := by
  rcases h.2 with ⟨rfl, -⟩ | ⟨g, cap, cur, rfl, -, h3, -⟩
  . simp [Value.ownBlock]
  . intro e
    have e : g = mb := by simpa [Value.ownBlock] using e
    subst e
    rw [hm] at h3
    injection h3 with h3
    injection h3 with _ h3
    exact hT h3
theorem MZ.outs {w : World} {mb : Nat} {vd vf ov tm t0 t1 t2 t3 t4 t5 ev v0 v1 v2 v3 v4 v5 kv over : Value} {fu en vl st : Int} (h : MZ w mb vd vf fu en vl ov st tm t0 t1 t2 t3 t4 t5 ev v0 v1 v2 v3 v4 v5 kv over) (a : Value) : MZ (w.setCell ⟨mb, 5, none⟩ a) mb vd vf fu en vl a st tm t0 t1 t2 t3 t4 t5 ev v0 v1 v2 v3 v4 v5 kv over := by
  have := cset h 5 a
  exact this.trans (by kernel_rfl)
set_option maxHeartbeats 8000000 in
theorem rcvEmit_any (P : Pg) (w0 w : World) (mb bk : Nat) (vd vf ov t0 t1 t2 t3 t4 t5 ev : Value) (fu en vl st : Int) (t : Tm) (e : En) (k : Kt) (va vc ef kf : Value) (n : Int) (outs : List Int) (hC : CR P w0 w (turns mb ov) mb vd vf) (hz : MZ w mb vd vf fu en vl ov st (.bool false) t0 t1 t2 t3 t4 t5 ev zi (.int .i64 n) zi zs zs zp (.pointer (some ⟨bk, 0, none⟩)) (.bool false)) (hb : w.heap[bk]? = some (.cells (frV 7 t va vc ef zs 0 kf) 75 (0, 0))) (hnb : ¬ turns mb ov bk) (ht : RTx w0 t va vc) (he : DR P w0 w (turns mb ov) (.e ef e.vs e.ls)) (hk : DR P w0 w (turns mb ov) (.k kf k)) (hla : t.args.length = 2) (hO : OwnL w w0.heap.size ov outs) (hol : outs.length <= 100000) :
    Calls Tryz.prog 29 #[.pointer (some ⟨mb, 0, none⟩)] w fun x w' => ∃ ov', x = .returned (.tuple #[]) /\ RQ P w0 w' (turns mb ov') mb vd vf fu en vl ov' st (.ev (t.args.getD 1 noTm) e k) /\ CR P w0 w' (turns mb ov') mb vd vf /\ OwnL w' w0.heap.size ov' (outs ++ [n]) /\ Kp (turns mb ov) (turns mb ov') w w' := by
  have HC := LH hC
  have HZ := LH hz
  have HMA : Hid (MA w mb vd vf fu en vl ov st (.bool false)) := ⟨_, _, _, _, _, _, _, _, _, _, _, _, _, _, _, hz⟩
  have HOW0 := LH hO
  obtain ⟨Ao, co, rfl⟩ := oSL hO
  have HNB5 := LH hnb
  have HT := LH ht
  have HK := LH hk
  have HNK : Hid (bk ≠ mb) := by show bk ≠ mb; exact fun e => hnb (e ▸ hC.tu)
  obtain ⟨bk', rfl⟩ := hk.k_form
  have HE := LH he
  obtain ⟨pe, rfl⟩ := he.e_form
  obtain ⟨A', c', e1, hc1, hc2, hs⟩ := ht.args
  obtain ⟨ba, oa, xa, xc, e2, hbl, hx6, hxt⟩ := hs 1 (t.args.getD 1 noTm) (by rw [List.getD_eq_getElem?_getD, List.getElem?_eq_getElem (by omega)]; rfl)
  have HX60 := LH hx6
  have hx6 := hx6.below hC.ext
  subst e1
  subst e2
  obtain ⟨⟨Ax, cx, rfl, -, -⟩, ⟨Ay, cy, rfl, -, -⟩⟩ := hxt.form
  have HX6 := LH hx6
  have HXT := LH hxt
  have HNB : Hid (ba ≠ mb) := by show _ ≠ _; have := hC.lo; omega
  generalize t.args.getD 1 noTm = y at *
  rw [hla] at hb HT
  unfold maxLen at hc2
  clear hs hx6 hxt hla
  obtain ⟨-, ⟨Ab, cb, rfl, -, -⟩⟩ := ht.form
  have HBK := LH hb
  have lbk0 := hLt hb
  have HNW : Hid (w.heap.size ≠ mb) := by show _ ≠ _; have := hC.nb _ hC.tu; omega
  have HEX := LH (Ext.al w (.cells #[zi, .int .i64 n, zi, zs, zs, zp] 63))
  have HBX := LH (hNw w (.cells #[zi, .int .i64 n, zi, zs, zs, zp] 63))
  have m15 := cA hz 15
  have m16 := cA hz 16
  have m17 := cA hz 17
  have m18 := cA hz 18
  have m19 := cA hz 19
  have m20 := cA hz 20
  have m21 := cA hz 21
  have hlt := hLt hz
  clear hC hz hb ht hk he hnb hO
  go_enter Tryz.func29, Tryz.ntmps29
  go_wp2
  go_region
  have HEX1 : Hid (Ext w (w.alloc (.cells #[zi, .int .i64 n, zi, zs, zs, zp] 63)).drew) := HEX.out.drew
  have HBX1 : Hid ((w.alloc (.cells #[zi, .int .i64 n, zi, zs, zs, zp] 63)).drew.heap[w.heap.size]? = some (.cells #[zi, .int .i64 n, zi, zs, zs, zp] 63 (0, 0))) := HBX.out
  clear HEX HBX m15 m16 m17 m18 m19 m20 m21
  generalize (w.alloc _).drew = w1 at *
  obtain ⟨b0, b1, b2, b3, b4, b5⟩ := cells6 HBX1.out
  have lbx := hLt HBX1.out
  have HBK1 := LH ((HEX1.out.block _ (hLt HBK.out)).trans HBK.out)
  have f0 := cA HBK1.out 0
  have f1 := cA HBK1.out 1
  have f2 := cA HBK1.out 2
  have f3 := cA HBK1.out 3
  have f4 := cA HBK1.out 4
  have f5 := cA HBK1.out 5
  have f6 := cA HBK1.out 6
  have f7 := cA HBK1.out 7
  have f8 := cA HBK1.out 8
  have f9 := cA HBK1.out 9
  have f10 := cA HBK1.out 10
  have lbk := hLt HBK1.out
  have HZ1 := LH (HZ.out.ext HEX1.out)
  have m5 := cA HZ1.out 5
  have lbm := hLt HZ1.out
  go_upto_region 28 with fail
  have HSO : Hid (∀ (W : World) (b : Nat), W.heap[b]? = some (.cells #[.int .i64 n] 3 (0, 0)) -> SrcN W (some ⟨b, 0, none⟩) 1 1 [.int .i64 n]) := fun W b hb => srcI1 hb
  have HOW1 := LH (oB HOW0.out HEX1.out)
  have hnl : outs.length + 1 <= 1000000 := by omega
  go_region_law (first
    | (refine app_row Tryz.u57 Tryz.info3 rfl (by decide) (.tmp 238) (.tmp 241) rfl w0.heap.size (.slice Ao outs.length co) outs.length (outs.map (Value.int .i64)) rfl (oB HOW1.out (by first | exact Ext.al _ _ | exact (Ext.al _ _).drew | exact Ext.tr (b := w1.drew) (Ext.rf w1).drew (Ext.al _ _))) (some ⟨w1.heap.size, 0, none⟩) 1 1 [.int .i64 n] rfl (HSO.out _ _ (by first | exact hNw _ _ | exact heapNewD _ _ _ | exact heapDNew _ _ _)) (fun u hu => by rw [List.mem_singleton.1 hu]; rfl) (by unfold maxLen; omega) (by omega) (by first | exact Nat.le_trans (HC.out.ext.tr HEX1.out).size ((Ext.al w1 _).drew).size | exact Nat.le_trans (HC.out.ext.tr HEX1.out).size (Ext.al w1 _).size) ?_; intro v4 w4 hown hgr hthird; obtain ⟨A4, c4', rfl⟩ := oSL hown; have HXA : Hid (Ext w1 (w1.alloc (.cells #[.int .i64 n] 3)).drew) := (Ext.al w1 _).drew; have HGR : Hid ((w1.alloc (.cells #[.int .i64 n] 3)).drew.grownBy w4 (Value.slice Ao outs.length co).ownBlock) := hgr; have HOWN := LH hown; have HTH := LH hthird; have HM4 : Hid (MZ w4 mb vd vf fu en vl _ st _ _ _ _ _ _ _ _ _ _ _ _ _ _ _ _) := (hgr.block mb (hLt (HZ1.out.ext HXA.out)) (Ne.symm (own_neR HOW1.out HZ1.out (by decide)))).trans (HZ1.out.ext HXA.out); have m5 := cA HM4.out 5; have z5 := fA HM4.out 5; clear hown hgr hthird))
  all_goals
    have HOL : Hid (OwnL w4 w0.heap.size (.slice A4 (outs.length + 1) c4') (outs ++ [n])) := by
      have e : (outs ++ [n]).map (Value.int .i64) = outs.map (Value.int .i64) ++ [.int .i64 n] := by simp
      show w4.ownsRow w0.heap.size 3 1 _ (outs ++ [n]).length ((outs ++ [n]).map (Value.int .i64))
      rw [e, List.length_append, List.length_singleton]
      exact HOWN.out
    have HG : Hid (Below w0.heap.size (w1.alloc (.cells #[.int .i64 n] 3)).drew w4) := grown_ext' HGR.out (oB HOW1.out HXA.out) (Nat.le_trans (HC.out.ext.tr HEX1.out).size HXA.out.size)
    have HK4 : Hid (Kp (turns mb (.slice Ao outs.length co)) (turns mb (.slice A4 (outs.length + 1) c4')) (w1.alloc (.cells #[.int .i64 n] 3)).drew w4) := ⟨HG.out.size, fun b hb hn => ⟨fun k => k.elim (fun k => hn (.inl k)) (fun k => by
      rcases HTH.out with h | h
      . exact hn (.inr (h ▸ k))
      . rw [h] at k
        have : (w1.alloc (.cells #[.int .i64 n] 3)).drew.heap.size = b := by simpa using k
        omega), HGR.out.block b hb (fun k => hn (.inr k.symm))⟩⟩
    have HM5 := LH (HM4.out.outs (.slice A4 (outs.length + 1) c4'))
    have HO5 := LH (o5s w4 mb 5 (.slice A4 (outs.length + 1) c4'))
    have HOL5 : Hid (OwnL (w4.setCell ⟨mb, 5, none⟩ (.slice A4 (outs.length + 1) c4')) w0.heap.size (.slice A4 (outs.length + 1) c4') (outs ++ [n])) := row5_at HOL.out (fun b cur hb hcur => HO5.out.block b (hLt hcur) (fun e => own_neR HOL.out HM4.out (by decide) (e ▸ hb)))
    have HKT : Hid (Kp (turns mb (.slice Ao outs.length co)) (turns mb (.slice A4 (outs.length + 1) c4')) w (w4.setCell ⟨mb, 5, none⟩ (.slice A4 (outs.length + 1) c4'))) := ((Kp.of_ext (HEX1.out.tr HXA.out)).tr HK4.out).tr (Kp.of_only HO5.out (fun b hb => .inl hb))
    have HC5 : Hid (CR P w0 (w4.setCell ⟨mb, 5, none⟩ (.slice A4 (outs.length + 1) c4')) (turns mb (.slice A4 (outs.length + 1) c4')) mb vd vf) :=
      ⟨HC.out.prog, ((HC.out.ext.tr (HEX1.out.tr HXA.out)).trans HG.out).trans (HO5.out.below (Nat.le_trans (HC.out.ext.tr (HEX1.out.tr HXA.out)).size HG.out.size) (fun b hb => hb ▸ HC.out.lo)), fun b k => k.elim (fun k => by rw [k]; exact hLt HM5.out) (fun k => (own_lt HOL5.out k).2.1), HC.out.lo, .inl rfl, HC.out.ds, HC.out.fs⟩
    have HMA5 : Hid (MA (w4.setCell ⟨mb, 5, none⟩ (.slice A4 (outs.length + 1) c4')) mb vd vf fu en vl (.slice A4 (outs.length + 1) c4') st (.bool false)) := ⟨_, _, _, _, _, _, _, _, _, _, _, _, _, _, _, HM5.out⟩
    have HBK5 := LH (HKT.out.blk HNB5.out HBK.out).2
    clear HBK1 f0 f1 f2 f3 f4 f5 f6 f7 f8 f9 f10 b0 b1 b2 b3 b4 b5 m5 z5 lbk lbx lbm HZ1 HM4
    generalize World.setCell w4 _ _ = w5 at *
    have f5 := cA HBK5.out 5
    have f7 := cA HBK5.out 7
    have f10 := cA HBK5.out 10
    obtain ⟨y0, y1, y2, y3, y4, y5⟩ := HX60.out.below HC5.out.ext
    rw [Nat.one_mul] at y0 y1 y2 y3 y4 y5
    go_wp2
    go_still_tail 16, (by kernel_rfl)
    have HX5D := LH ((Ext.rf w5).drew)
    go_wp2_with fail
    (with_reducible refine (evalQ P w0 _ (turns mb (.slice A4 (outs.length + 1) c4')) mb vd vf _ fu en vl st y e k _ _ _ _ (HC5.out.ext' HX5D.out) (HMA5.out.ext' HX5D.out) HXT.out ((HE.out.kp HKT.out).ext HX5D.out) ((HK.out.kp HKT.out).ext HX5D.out)).mono ?_)
    rintro x w6 ⟨⟨rfl, hrq⟩, ho⟩
    have HRQ := LH hrq
    have HC6 := LH ((HC5.out.ext' HX5D.out).only ho)
    have HO6 : Hid (OwnL w6 w0.heap.size (.slice A4 (outs.length + 1) c4') (outs ++ [n])) := row5_at (oB HOL5.out HX5D.out) (fun b cur hb hcur => ho.block b (hLt hcur) (fun e => own_neR (oB HOL5.out HX5D.out) (HM5.out.ext HX5D.out) (by decide) (e ▸ hb)))
    have HK6 := LH ((HKT.out.tr (Kp.of_ext HX5D.out)).tr (Kp.of_only ho (fun b hb => .inl hb)))
    clear hrq ho
    go_wp2
    go_end0
    exact ⟨_, rfl, HRQ.out, HC6.out, HO6.out, HK6.out⟩
end Go.Proofs.YtkdglplfcpindaaGreatDoor
