import Derived.Test.YtkdglplfcpindaaGreatDoorQ33
set_option maxRecDepth 100000
namespace Go.Proofs.YtkdglplfcpindaaGreatDoor
open Go.RowKit
theorem only_box {w w' : World} {mb b : Nat} {a0 a1 a2 a3 a4 a5 : Value} (h : Only (fun b => b = mb) w w') (hb : b ≠ mb) (hc : w.cell? ⟨b, 0, none⟩ = some a0 /\ w.cell? ⟨b, 1, none⟩ = some a1 /\ w.cell? ⟨b, 2, none⟩ = some a2 /\ w.cell? ⟨b, 3, none⟩ = some a3 /\ w.cell? ⟨b, 4, none⟩ = some a4 /\ w.cell? ⟨b, 5, none⟩ = some a5) :
    w'.cell? ⟨b, 0, none⟩ = some a0 /\ w'.cell? ⟨b, 1, none⟩ = some a1 /\ w'.cell? ⟨b, 2, none⟩ = some a2 /\ w'.cell? ⟨b, 3, none⟩ = some a3 /\ w'.cell? ⟨b, 4, none⟩ = some a4 /\ w'.cell? ⟨b, 5, none⟩ = some a5 :=
  ⟨oC h hb hc.1, oC h hb hc.2.1, oC h hb hc.2.2.1, oC h hb hc.2.2.2.1, oC h hb hc.2.2.2.2.1, oC h hb hc.2.2.2.2.2⟩
theorem C6.at0 {w : World} {b o : Nat} {t : Tm} {va vc : Value} (h : C6 w b o t va vc) : w.cell? ⟨b, o, none⟩ = some (.int .i64 t.op) /\ w.cell? ⟨b, o + 1, none⟩ = some (.int .i64 t.n) /\ w.cell? ⟨b, o + 2, none⟩ = some (.string t.nm) /\ w.cell? ⟨b, o + 3, none⟩ = some (.int .i64 t.ty) /\ w.cell? ⟨b, o + 4, none⟩ = some va /\ w.cell? ⟨b, o + 5, none⟩ = some vc := ⟨h.c0, h.c1, h.c2, h.c3, h.c4, h.c5⟩
theorem and12 {A B C D E F A' B' C' D' E' F' : Prop} (h : A /\ B /\ C /\ D /\ E /\ F) (k : A' /\ B' /\ C' /\ D' /\ E' /\ F') : A /\ B /\ C /\ D /\ E /\ F /\ A' /\ B' /\ C' /\ D' /\ E' /\ F' := ⟨h.1, h.2.1, h.2.2.1, h.2.2.2.1, h.2.2.2.2.1, h.2.2.2.2.2, k⟩
set_option maxHeartbeats 8000000 in
theorem stepInt_any (P : Pg) (w0 w : World) (bad : Nat -> Prop) (mb : Nat) (vd vf ov : Value) (fu en vl st : Int) (t : Tm) (e : En) (k : Kt) (va vc ev v0 v1 v2 v3 v4 v5 kv : Value) (hC : CR P w0 w bad mb vd vf) (hz : MZ w mb vd vf fu en vl ov st (.bool true) (.int .i64 t.op) (.int .i64 t.n) (.string t.nm) (.int .i64 t.ty) va vc ev v0 v1 v2 v3 v4 v5 kv (.bool false)) (ht : RTx w0 t va vc) (he : DR P w0 w bad (.e ev e.vs e.ls)) (hk : DR P w0 w bad (.k kv k)) (h0 : t.op = 1)  :
    Calls Tryz.prog 31 #[.pointer (some ⟨mb, 0, none⟩)] w fun x w' => (x = .returned (.tuple #[]) /\ RQ P w0 w' bad mb vd vf fu en vl ov st (.pass (.int t.n) k)) /\ Only (fun b => b = mb) w w' := by
  have HC := LH hC
  have HM : Hid (MA w mb vd vf fu en vl ov st (.bool false)) := ⟨_, _, _, _, _, _, _, _, _, _, _, _, _, _, _, hz⟩
  have HK := LH hk
  have HE := LH he
  have HT := LH ht
  have H00 := LH h0
  obtain ⟨⟨Aa, ca, rfl, -, -⟩, ⟨Ab, cb, rfl, -, -⟩⟩ := ht.form
  obtain ⟨p, rfl⟩ := he.e_form
  obtain ⟨bk, rfl⟩ := hk.k_form
  rw [h0] at hz
  have HNW : Hid (w.heap.size ≠ mb) := by show _ ≠ _; have := hC.nb _ hC.tu; omega
  have HZ := LH hz
  have HEX := LH (Ext.al w (.cells #[.int .i64 1, .int .i64 t.n, .string t.nm, .int .i64 t.ty, .slice Aa t.args.length ca, .slice Ab t.cls.length cb] 50))
  have HBX := LH (hNw w (.cells #[.int .i64 1, .int .i64 t.n, .string t.nm, .int .i64 t.ty, .slice Aa t.args.length ca, .slice Ab t.cls.length cb] 50))
  have m8 := cA hz 8
  have m9 := cA hz 9
  have m10 := cA hz 10
  have m11 := cA hz 11
  have m12 := cA hz 12
  have m13 := cA hz 13
  have m14 := cA hz 14
  have m21 := cA hz 21
  have hlt := hLt hz
  clear hC hz ht he hk h0
  go_enter Tryz.func31, Tryz.ntmps31
  go_wp2
  go_region
  have HEX1 : Hid (Ext w (w.alloc (.cells #[.int .i64 1, .int .i64 t.n, .string t.nm, .int .i64 t.ty, .slice Aa t.args.length ca, .slice Ab t.cls.length cb] 50)).drew) := HEX.out.drew
  have HBX1 : Hid ((w.alloc (.cells #[.int .i64 1, .int .i64 t.n, .string t.nm, .int .i64 t.ty, .slice Aa t.args.length ca, .slice Ab t.cls.length cb] 50)).drew.heap[w.heap.size]? = some (.cells #[.int .i64 1, .int .i64 t.n, .string t.nm, .int .i64 t.ty, .slice Aa t.args.length ca, .slice Ab t.cls.length cb] 50 (0, 0))) := HBX.out
  clear HEX HBX m8 m9 m10 m11 m12 m13 m14 m21
  generalize (w.alloc _).drew = w1 at *
  obtain ⟨b0, b1, b2, b3, b4, b5⟩ := cells6 HBX1.out
  have lbx := hLt HBX1.out
  have HV : Hid (DR P w0 w1 bad (.v #[zi, .int .i64 t.n, zi, zs, zs, zp] (.int t.n))) := .int _ HT.out.oks.2.1
  go_wp2_with fail
  (with_reducible refine (passQ P w0 w1 bad mb vd vf ov fu en vl st _ k _ _ (HC.out.ext' HEX1.out) (HM.out.ext' HEX1.out) HV.out (HK.out.ext HEX1.out)).mono ?_)
  rintro x w5 ⟨⟨rfl, hrq⟩, ho⟩
  have HRQ := LH hrq
  have HON := LH ((only_x (b := mb) HEX1.out).tr ho)
  clear hrq ho
  go_wp2
  go_end0
  exact ⟨⟨rfl, HRQ.out⟩, HON.out⟩
set_option maxHeartbeats 8000000 in
theorem stepObj_any (P : Pg) (w0 w : World) (bad : Nat -> Prop) (mb : Nat) (vd vf ov : Value) (fu en vl st : Int) (t : Tm) (e : En) (k : Kt) (va vc ev v0 v1 v2 v3 v4 v5 kv : Value) (hC : CR P w0 w bad mb vd vf) (hz : MZ w mb vd vf fu en vl ov st (.bool true) (.int .i64 t.op) (.int .i64 t.n) (.string t.nm) (.int .i64 t.ty) va vc ev v0 v1 v2 v3 v4 v5 kv (.bool false)) (ht : RTx w0 t va vc) (he : DR P w0 w bad (.e ev e.vs e.ls)) (hk : DR P w0 w bad (.k kv k)) (h0 : t.op = 7)  :
    Calls Tryz.prog 31 #[.pointer (some ⟨mb, 0, none⟩)] w fun x w' => (x = .returned (.tuple #[]) /\ RQ P w0 w' bad mb vd vf fu en vl ov st (.pass (.obj t e) k)) /\ Only (fun b => b = mb) w w' := by
  have HC := LH hC
  have HM : Hid (MA w mb vd vf fu en vl ov st (.bool false)) := ⟨_, _, _, _, _, _, _, _, _, _, _, _, _, _, _, hz⟩
  have HK := LH hk
  have HE := LH he
  have HT := LH ht
  have H00 := LH h0
  obtain ⟨⟨Aa, ca, rfl, -, -⟩, ⟨Ab, cb, rfl, -, -⟩⟩ := ht.form
  obtain ⟨p, rfl⟩ := he.e_form
  obtain ⟨bk, rfl⟩ := hk.k_form
  rw [h0] at hz
  have HNW : Hid (w.heap.size ≠ mb) := by show _ ≠ _; have := hC.nb _ hC.tu; omega
  have HZ := LH hz
  have HEX := LH (Ext.al w (.cells #[.int .i64 7, .int .i64 t.n, .string t.nm, .int .i64 t.ty, .slice Aa t.args.length ca, .slice Ab t.cls.length cb] 50))
  have HBX := LH (hNw w (.cells #[.int .i64 7, .int .i64 t.n, .string t.nm, .int .i64 t.ty, .slice Aa t.args.length ca, .slice Ab t.cls.length cb] 50))
  have m8 := cA hz 8
  have m9 := cA hz 9
  have m10 := cA hz 10
  have m11 := cA hz 11
  have m12 := cA hz 12
  have m13 := cA hz 13
  have m14 := cA hz 14
  have m21 := cA hz 21
  have hlt := hLt hz
  clear hC hz ht he hk h0
  go_enter Tryz.func31, Tryz.ntmps31
  go_wp2
  go_region
  have HEX1 : Hid (Ext w (w.alloc (.cells #[.int .i64 7, .int .i64 t.n, .string t.nm, .int .i64 t.ty, .slice Aa t.args.length ca, .slice Ab t.cls.length cb] 50)).drew) := HEX.out.drew
  have HBX1 : Hid ((w.alloc (.cells #[.int .i64 7, .int .i64 t.n, .string t.nm, .int .i64 t.ty, .slice Aa t.args.length ca, .slice Ab t.cls.length cb] 50)).drew.heap[w.heap.size]? = some (.cells #[.int .i64 7, .int .i64 t.n, .string t.nm, .int .i64 t.ty, .slice Aa t.args.length ca, .slice Ab t.cls.length cb] 50 (0, 0))) := HBX.out
  clear HEX HBX m8 m9 m10 m11 m12 m13 m14 m21
  generalize (w.alloc _).drew = w1 at *
  obtain ⟨b0, b1, b2, b3, b4, b5⟩ := cells6 HBX1.out
  have lbx := hLt HBX1.out
  have HV : Hid (DR P w0 w1 bad (.v #[.int .i64 2, zi, .int .i64 t.ty, zs, .slice Ab t.cls.length cb, .pointer p] (.obj t e))) := .obj t e _ _ _ HT.out (HE.out.ext HEX1.out)
  go_wp2_with fail
  (with_reducible refine (passQ P w0 w1 bad mb vd vf ov fu en vl st _ k _ _ (HC.out.ext' HEX1.out) (HM.out.ext' HEX1.out) HV.out (HK.out.ext HEX1.out)).mono ?_)
  rintro x w5 ⟨⟨rfl, hrq⟩, ho⟩
  have HRQ := LH hrq
  have HON := LH ((only_x (b := mb) HEX1.out).tr ho)
  clear hrq ho
  go_wp2
  go_end0
  exact ⟨⟨rfl, HRQ.out⟩, HON.out⟩
set_option maxHeartbeats 8000000 in
theorem stepPrim_any (P : Pg) (w0 w : World) (bad : Nat -> Prop) (mb : Nat) (vd vf ov : Value) (fu en vl st : Int) (t : Tm) (e : En) (k : Kt) (va vc ev v0 v1 v2 v3 v4 v5 kv : Value) (hC : CR P w0 w bad mb vd vf) (hz : MZ w mb vd vf fu en vl ov st (.bool true) (.int .i64 t.op) (.int .i64 t.n) (.string t.nm) (.int .i64 t.ty) va vc ev v0 v1 v2 v3 v4 v5 kv (.bool false)) (ht : RTx w0 t va vc) (he : DR P w0 w bad (.e ev e.vs e.ls)) (hk : DR P w0 w bad (.k kv k)) (h0 : t.op = 2) (hla : t.args.length = 2) :
    Calls Tryz.prog 31 #[.pointer (some ⟨mb, 0, none⟩)] w fun x w' => (x = .returned (.tuple #[]) /\ RQ P w0 w' bad mb vd vf fu en vl ov st (.ev (t.args.getD 0 noTm) e (.left t e :: k))) /\ Only (fun b => b = mb) w w' := by
  have HC := LH hC
  have HM : Hid (MA w mb vd vf fu en vl ov st (.bool false)) := ⟨_, _, _, _, _, _, _, _, _, _, _, _, _, _, _, hz⟩
  have HK := LH hk
  have HE := LH he
  have HT := LH ht
  have H00 := LH h0
  obtain ⟨A', c', e1, hc1, hc2, hs⟩ := ht.args
  obtain ⟨ba, oa, xa, xc, e2, hbl, hx6, hxt⟩ := hs 0 (t.args.getD 0 noTm) (by rw [List.getD_eq_getElem?_getD, List.getElem?_eq_getElem (by omega)]; rfl)
  have hx6 := hx6.below hC.ext
  rw [Nat.zero_mul, Nat.add_zero] at hx6
  subst e1
  subst e2
  obtain ⟨⟨Ax, cx, rfl, -, -⟩, ⟨Ay, cy, rfl, -, -⟩⟩ := hxt.form
  have HX6 := LH hx6
  have HXT := LH hxt
  have HNB : Hid (ba ≠ mb) := by show _ ≠ _; have := hC.lo; omega
  generalize t.args.getD 0 noTm = y at *
  rw [hla] at hz HT
  unfold maxLen at hc2
  clear hs hx6 hxt
  obtain ⟨-, ⟨Ab, cb, rfl, -, -⟩⟩ := ht.form
  obtain ⟨p, rfl⟩ := he.e_form
  obtain ⟨bk, rfl⟩ := hk.k_form
  rw [h0] at hz
  have HNW : Hid (w.heap.size ≠ mb) := by show _ ≠ _; have := hC.nb _ hC.tu; omega
  have HZ := LH hz
  have HEX := LH (Ext.al w (.cells #[.int .i64 2, .int .i64 t.n, .string t.nm, .int .i64 t.ty, .slice (some ⟨ba, oa, none⟩) 2 c', .slice Ab t.cls.length cb] 50))
  have HBX := LH (hNw w (.cells #[.int .i64 2, .int .i64 t.n, .string t.nm, .int .i64 t.ty, .slice (some ⟨ba, oa, none⟩) 2 c', .slice Ab t.cls.length cb] 50))
  have m8 := cA hz 8
  have m9 := cA hz 9
  have m10 := cA hz 10
  have m11 := cA hz 11
  have m12 := cA hz 12
  have m13 := cA hz 13
  have m14 := cA hz 14
  have m21 := cA hz 21
  have hlt := hLt hz
  clear hC hz ht he hk h0
  go_enter Tryz.func31, Tryz.ntmps31
  go_wp2
  go_region
  have HEX1 : Hid (Ext w (w.alloc (.cells #[.int .i64 2, .int .i64 t.n, .string t.nm, .int .i64 t.ty, .slice (some ⟨ba, oa, none⟩) 2 c', .slice Ab t.cls.length cb] 50)).drew) := HEX.out.drew
  have HBX1 : Hid ((w.alloc (.cells #[.int .i64 2, .int .i64 t.n, .string t.nm, .int .i64 t.ty, .slice (some ⟨ba, oa, none⟩) 2 c', .slice Ab t.cls.length cb] 50)).drew.heap[w.heap.size]? = some (.cells #[.int .i64 2, .int .i64 t.n, .string t.nm, .int .i64 t.ty, .slice (some ⟨ba, oa, none⟩) 2 c', .slice Ab t.cls.length cb] 50 (0, 0))) := HBX.out
  clear HEX HBX m8 m9 m10 m11 m12 m13 m14 m21
  generalize (w.alloc _).drew = w1 at *
  obtain ⟨b0, b1, b2, b3, b4, b5⟩ := cells6 HBX1.out
  have lbx := hLt HBX1.out
  have lba : ba < w1.heap.size := cL (HX6.out.below HEX1.out).c0
  obtain ⟨y0, y1, y2, y3, y4, y5⟩ := HX6.out.below HEX1.out
  have HGEN : Hid (∀ W : World, Ext w1 W -> W.heap[w1.heap.size]? = some (.cells #[.int .i64 2, .int .i64 2, .int .i64 t.n, .string t.nm, .int .i64 t.ty, .slice (some ⟨ba, oa, none⟩) 2 c', .slice Ab t.cls.length cb, .pointer p, zs, .int .i64 0, .pointer (some ⟨bk, 0, none⟩)] 75 (0, 0)) -> Calls Tryz.prog 27 #[.pointer (some ⟨mb, 0, none⟩), tV y (.slice Ax y.args.length cx) (.slice Ay y.cls.length cy), .pointer p, .pointer (some ⟨w1.heap.size, 0, none⟩)] W fun x w' => (x = .returned (.tuple #[]) /\ RQ P w0 w' bad mb vd vf fu en vl ov st (.ev y e (.left t e :: k))) /\ Only (fun b => b = mb) w w' /\ (w'.cell? ⟨w.heap.size, 0, none⟩ = some (.int .i64 2) /\ w'.cell? ⟨w.heap.size, 1, none⟩ = some (.int .i64 t.n) /\ w'.cell? ⟨w.heap.size, 2, none⟩ = some (.string t.nm) /\ w'.cell? ⟨w.heap.size, 3, none⟩ = some (.int .i64 t.ty) /\ w'.cell? ⟨w.heap.size, 4, none⟩ = some ((.slice (some ⟨ba, oa, none⟩) 2 c')) /\ w'.cell? ⟨w.heap.size, 5, none⟩ = some (.slice Ab t.cls.length cb)) /\ (w'.cell? ⟨ba, oa, none⟩ = some (.int .i64 y.op) /\ w'.cell? ⟨ba, oa + 1, none⟩ = some (.int .i64 y.n) /\ w'.cell? ⟨ba, oa + 2, none⟩ = some (.string y.nm) /\ w'.cell? ⟨ba, oa + 3, none⟩ = some (.int .i64 y.ty) /\ w'.cell? ⟨ba, oa + 4, none⟩ = some (.slice Ax y.args.length cx) /\ w'.cell? ⟨ba, oa + 5, none⟩ = some (.slice Ay y.cls.length cy))) := fun W hW hb => by
    have hkk : DR P w0 W bad (.k (.pointer (some ⟨w1.heap.size, 0, none⟩)) (.left t e :: k)) :=
      .left w1.heap.size t e _ _ _ _ _ (HC.out.ext' HEX1.out).nb.new (by dsimp only [frV]; rw [H00.out]; exact hb) HT.out ((HE.out.ext HEX1.out).ext hW) ((HK.out.ext HEX1.out).ext hW)
    refine (evalQ P w0 W bad mb vd vf ov fu en vl st y e _ _ _ _ _ ((HC.out.ext' HEX1.out).ext' hW) ((HM.out.ext' HEX1.out).ext' hW) HXT.out ((HE.out.ext HEX1.out).ext hW) hkk).mono ?_
    rintro x w5 ⟨⟨rfl, hrq⟩, ho⟩
    exact ⟨⟨rfl, hrq⟩, (only_x (b := mb) (HEX1.out.tr hW)).tr ho, only_box ho HNW.out (cells6 ((hW.block _ (hLt HBX1.out)).trans HBX1.out)), ((HX6.out.below (HEX1.out.tr hW)).only ho HNB.out).at0⟩
  go_upto_region 11 with fail
  go_region_held3 (fun w' => w'.cell? ⟨w.heap.size, 0, none⟩ = some (.int .i64 2) /\ w'.cell? ⟨w.heap.size, 1, none⟩ = some (.int .i64 t.n) /\ w'.cell? ⟨w.heap.size, 2, none⟩ = some (.string t.nm) /\ w'.cell? ⟨w.heap.size, 3, none⟩ = some (.int .i64 t.ty) /\ w'.cell? ⟨w.heap.size, 4, none⟩ = some ((.slice (some ⟨ba, oa, none⟩) 2 c')) /\ w'.cell? ⟨w.heap.size, 5, none⟩ = some (.slice Ab t.cls.length cb) /\ w'.cell? ⟨ba, oa, none⟩ = some (.int .i64 y.op) /\ w'.cell? ⟨ba, oa + 1, none⟩ = some (.int .i64 y.n) /\ w'.cell? ⟨ba, oa + 2, none⟩ = some (.string y.nm) /\ w'.cell? ⟨ba, oa + 3, none⟩ = some (.int .i64 y.ty) /\ w'.cell? ⟨ba, oa + 4, none⟩ = some (.slice Ax y.args.length cx) /\ w'.cell? ⟨ba, oa + 5, none⟩ = some (.slice Ay y.cls.length cy))
    (first | exact and12 HCD.out.1 HCD.out.2 | go_keep)
    ((go_at_call 27; (with_reducible refine (HGEN.out _ (by first | exact (Ext.al _ _).drew | exact Ext.tr (b := w1.drew) (Ext.rf w1).drew (Ext.al _ _) | exact Ext.al _ _) (by first | exact heapNewD _ _ _ | exact heapDNew _ _ _ | exact hNw _ _)).mono ?_); rintro x w5 ⟨⟨rfl, hrq⟩, ho, hcd⟩; have HRQ := LH hrq; have HON := LH ho; have HCD := LH hcd; clear hrq ho hcd))
  all_goals
    go_wp2
    go_end0
    exact ⟨⟨rfl, HRQ.out⟩, HON.out⟩
set_option maxHeartbeats 8000000 in
theorem stepIfz_any (P : Pg) (w0 w : World) (bad : Nat -> Prop) (mb : Nat) (vd vf ov : Value) (fu en vl st : Int) (t : Tm) (e : En) (k : Kt) (va vc ev v0 v1 v2 v3 v4 v5 kv : Value) (hC : CR P w0 w bad mb vd vf) (hz : MZ w mb vd vf fu en vl ov st (.bool true) (.int .i64 t.op) (.int .i64 t.n) (.string t.nm) (.int .i64 t.ty) va vc ev v0 v1 v2 v3 v4 v5 kv (.bool false)) (ht : RTx w0 t va vc) (he : DR P w0 w bad (.e ev e.vs e.ls)) (hk : DR P w0 w bad (.k kv k)) (h0 : t.op = 3) (hla : t.args.length = 3) :
    Calls Tryz.prog 31 #[.pointer (some ⟨mb, 0, none⟩)] w fun x w' => (x = .returned (.tuple #[]) /\ RQ P w0 w' bad mb vd vf fu en vl ov st (.ev (t.args.getD 0 noTm) e (.zero t e :: k))) /\ Only (fun b => b = mb) w w' := by
  have HC := LH hC
  have HM : Hid (MA w mb vd vf fu en vl ov st (.bool false)) := ⟨_, _, _, _, _, _, _, _, _, _, _, _, _, _, _, hz⟩
  have HK := LH hk
  have HE := LH he
  have HT := LH ht
  have H00 := LH h0
  obtain ⟨A', c', e1, hc1, hc2, hs⟩ := ht.args
  obtain ⟨ba, oa, xa, xc, e2, hbl, hx6, hxt⟩ := hs 0 (t.args.getD 0 noTm) (by rw [List.getD_eq_getElem?_getD, List.getElem?_eq_getElem (by omega)]; rfl)
  have hx6 := hx6.below hC.ext
  rw [Nat.zero_mul, Nat.add_zero] at hx6
  subst e1
  subst e2
  obtain ⟨⟨Ax, cx, rfl, -, -⟩, ⟨Ay, cy, rfl, -, -⟩⟩ := hxt.form
  have HX6 := LH hx6
  have HXT := LH hxt
  have HNB : Hid (ba ≠ mb) := by show _ ≠ _; have := hC.lo; omega
  generalize t.args.getD 0 noTm = y at *
  rw [hla] at hz HT
  unfold maxLen at hc2
  clear hs hx6 hxt
  obtain ⟨-, ⟨Ab, cb, rfl, -, -⟩⟩ := ht.form
  obtain ⟨p, rfl⟩ := he.e_form
  obtain ⟨bk, rfl⟩ := hk.k_form
  rw [h0] at hz
  have HNW : Hid (w.heap.size ≠ mb) := by show _ ≠ _; have := hC.nb _ hC.tu; omega
  have HZ := LH hz
  have HEX := LH (Ext.al w (.cells #[.int .i64 3, .int .i64 t.n, .string t.nm, .int .i64 t.ty, .slice (some ⟨ba, oa, none⟩) 3 c', .slice Ab t.cls.length cb] 50))
  have HBX := LH (hNw w (.cells #[.int .i64 3, .int .i64 t.n, .string t.nm, .int .i64 t.ty, .slice (some ⟨ba, oa, none⟩) 3 c', .slice Ab t.cls.length cb] 50))
  have m8 := cA hz 8
  have m9 := cA hz 9
  have m10 := cA hz 10
  have m11 := cA hz 11
  have m12 := cA hz 12
  have m13 := cA hz 13
  have m14 := cA hz 14
  have m21 := cA hz 21
  have hlt := hLt hz
  clear hC hz ht he hk h0
  go_enter Tryz.func31, Tryz.ntmps31
  go_wp2
  go_region
  have HEX1 : Hid (Ext w (w.alloc (.cells #[.int .i64 3, .int .i64 t.n, .string t.nm, .int .i64 t.ty, .slice (some ⟨ba, oa, none⟩) 3 c', .slice Ab t.cls.length cb] 50)).drew) := HEX.out.drew
  have HBX1 : Hid ((w.alloc (.cells #[.int .i64 3, .int .i64 t.n, .string t.nm, .int .i64 t.ty, .slice (some ⟨ba, oa, none⟩) 3 c', .slice Ab t.cls.length cb] 50)).drew.heap[w.heap.size]? = some (.cells #[.int .i64 3, .int .i64 t.n, .string t.nm, .int .i64 t.ty, .slice (some ⟨ba, oa, none⟩) 3 c', .slice Ab t.cls.length cb] 50 (0, 0))) := HBX.out
  clear HEX HBX m8 m9 m10 m11 m12 m13 m14 m21
  generalize (w.alloc _).drew = w1 at *
  obtain ⟨b0, b1, b2, b3, b4, b5⟩ := cells6 HBX1.out
  have lbx := hLt HBX1.out
  have lba : ba < w1.heap.size := cL (HX6.out.below HEX1.out).c0
  obtain ⟨y0, y1, y2, y3, y4, y5⟩ := HX6.out.below HEX1.out
  have HGEN : Hid (∀ W : World, Ext w1 W -> W.heap[w1.heap.size]? = some (.cells #[.int .i64 4, .int .i64 3, .int .i64 t.n, .string t.nm, .int .i64 t.ty, .slice (some ⟨ba, oa, none⟩) 3 c', .slice Ab t.cls.length cb, .pointer p, zs, .int .i64 0, .pointer (some ⟨bk, 0, none⟩)] 75 (0, 0)) -> Calls Tryz.prog 27 #[.pointer (some ⟨mb, 0, none⟩), tV y (.slice Ax y.args.length cx) (.slice Ay y.cls.length cy), .pointer p, .pointer (some ⟨w1.heap.size, 0, none⟩)] W fun x w' => (x = .returned (.tuple #[]) /\ RQ P w0 w' bad mb vd vf fu en vl ov st (.ev y e (.zero t e :: k))) /\ Only (fun b => b = mb) w w' /\ (w'.cell? ⟨w.heap.size, 0, none⟩ = some (.int .i64 3) /\ w'.cell? ⟨w.heap.size, 1, none⟩ = some (.int .i64 t.n) /\ w'.cell? ⟨w.heap.size, 2, none⟩ = some (.string t.nm) /\ w'.cell? ⟨w.heap.size, 3, none⟩ = some (.int .i64 t.ty) /\ w'.cell? ⟨w.heap.size, 4, none⟩ = some ((.slice (some ⟨ba, oa, none⟩) 3 c')) /\ w'.cell? ⟨w.heap.size, 5, none⟩ = some (.slice Ab t.cls.length cb)) /\ (w'.cell? ⟨ba, oa, none⟩ = some (.int .i64 y.op) /\ w'.cell? ⟨ba, oa + 1, none⟩ = some (.int .i64 y.n) /\ w'.cell? ⟨ba, oa + 2, none⟩ = some (.string y.nm) /\ w'.cell? ⟨ba, oa + 3, none⟩ = some (.int .i64 y.ty) /\ w'.cell? ⟨ba, oa + 4, none⟩ = some (.slice Ax y.args.length cx) /\ w'.cell? ⟨ba, oa + 5, none⟩ = some (.slice Ay y.cls.length cy))) := fun W hW hb => by
    have hkk : DR P w0 W bad (.k (.pointer (some ⟨w1.heap.size, 0, none⟩)) (.zero t e :: k)) :=
      .zero w1.heap.size t e _ _ _ _ _ (HC.out.ext' HEX1.out).nb.new (by dsimp only [frV]; rw [H00.out]; exact hb) HT.out ((HE.out.ext HEX1.out).ext hW) ((HK.out.ext HEX1.out).ext hW)
    refine (evalQ P w0 W bad mb vd vf ov fu en vl st y e _ _ _ _ _ ((HC.out.ext' HEX1.out).ext' hW) ((HM.out.ext' HEX1.out).ext' hW) HXT.out ((HE.out.ext HEX1.out).ext hW) hkk).mono ?_
    rintro x w5 ⟨⟨rfl, hrq⟩, ho⟩
    exact ⟨⟨rfl, hrq⟩, (only_x (b := mb) (HEX1.out.tr hW)).tr ho, only_box ho HNW.out (cells6 ((hW.block _ (hLt HBX1.out)).trans HBX1.out)), ((HX6.out.below (HEX1.out.tr hW)).only ho HNB.out).at0⟩
  go_upto_region 13 with fail
  go_region_held3 (fun w' => w'.cell? ⟨w.heap.size, 0, none⟩ = some (.int .i64 3) /\ w'.cell? ⟨w.heap.size, 1, none⟩ = some (.int .i64 t.n) /\ w'.cell? ⟨w.heap.size, 2, none⟩ = some (.string t.nm) /\ w'.cell? ⟨w.heap.size, 3, none⟩ = some (.int .i64 t.ty) /\ w'.cell? ⟨w.heap.size, 4, none⟩ = some ((.slice (some ⟨ba, oa, none⟩) 3 c')) /\ w'.cell? ⟨w.heap.size, 5, none⟩ = some (.slice Ab t.cls.length cb) /\ w'.cell? ⟨ba, oa, none⟩ = some (.int .i64 y.op) /\ w'.cell? ⟨ba, oa + 1, none⟩ = some (.int .i64 y.n) /\ w'.cell? ⟨ba, oa + 2, none⟩ = some (.string y.nm) /\ w'.cell? ⟨ba, oa + 3, none⟩ = some (.int .i64 y.ty) /\ w'.cell? ⟨ba, oa + 4, none⟩ = some (.slice Ax y.args.length cx) /\ w'.cell? ⟨ba, oa + 5, none⟩ = some (.slice Ay y.cls.length cy))
    (first | exact and12 HCD.out.1 HCD.out.2 | go_keep)
    ((go_at_call 27; (with_reducible refine (HGEN.out _ (by first | exact (Ext.al _ _).drew | exact Ext.tr (b := w1.drew) (Ext.rf w1).drew (Ext.al _ _) | exact Ext.al _ _) (by first | exact heapNewD _ _ _ | exact heapDNew _ _ _ | exact hNw _ _)).mono ?_); rintro x w5 ⟨⟨rfl, hrq⟩, ho, hcd⟩; have HRQ := LH hrq; have HON := LH ho; have HCD := LH hcd; clear hrq ho hcd))
  all_goals
    go_wp2
    go_end0
    exact ⟨⟨rfl, HRQ.out⟩, HON.out⟩
set_option maxHeartbeats 8000000 in
theorem stepCase_any (P : Pg) (w0 w : World) (bad : Nat -> Prop) (mb : Nat) (vd vf ov : Value) (fu en vl st : Int) (t : Tm) (e : En) (k : Kt) (va vc ev v0 v1 v2 v3 v4 v5 kv : Value) (hC : CR P w0 w bad mb vd vf) (hz : MZ w mb vd vf fu en vl ov st (.bool true) (.int .i64 t.op) (.int .i64 t.n) (.string t.nm) (.int .i64 t.ty) va vc ev v0 v1 v2 v3 v4 v5 kv (.bool false)) (ht : RTx w0 t va vc) (he : DR P w0 w bad (.e ev e.vs e.ls)) (hk : DR P w0 w bad (.k kv k)) (h0 : t.op = 5) (hla : t.args.length = 1) :
    Calls Tryz.prog 31 #[.pointer (some ⟨mb, 0, none⟩)] w fun x w' => (x = .returned (.tuple #[]) /\ RQ P w0 w' bad mb vd vf fu en vl ov st (.ev (t.args.getD 0 noTm) e (.ana t e :: k))) /\ Only (fun b => b = mb) w w' := by
  have HC := LH hC
  have HM : Hid (MA w mb vd vf fu en vl ov st (.bool false)) := ⟨_, _, _, _, _, _, _, _, _, _, _, _, _, _, _, hz⟩
  have HK := LH hk
  have HE := LH he
  have HT := LH ht
  have H00 := LH h0
  obtain ⟨A', c', e1, hc1, hc2, hs⟩ := ht.args
  obtain ⟨ba, oa, xa, xc, e2, hbl, hx6, hxt⟩ := hs 0 (t.args.getD 0 noTm) (by rw [List.getD_eq_getElem?_getD, List.getElem?_eq_getElem (by omega)]; rfl)
  have hx6 := hx6.below hC.ext
  rw [Nat.zero_mul, Nat.add_zero] at hx6
  subst e1
  subst e2
  obtain ⟨⟨Ax, cx, rfl, -, -⟩, ⟨Ay, cy, rfl, -, -⟩⟩ := hxt.form
  have HX6 := LH hx6
  have HXT := LH hxt
  have HNB : Hid (ba ≠ mb) := by show _ ≠ _; have := hC.lo; omega
  generalize t.args.getD 0 noTm = y at *
  rw [hla] at hz HT
  unfold maxLen at hc2
  clear hs hx6 hxt
  obtain ⟨-, ⟨Ab, cb, rfl, -, -⟩⟩ := ht.form
  obtain ⟨p, rfl⟩ := he.e_form
  obtain ⟨bk, rfl⟩ := hk.k_form
  rw [h0] at hz
  have HNW : Hid (w.heap.size ≠ mb) := by show _ ≠ _; have := hC.nb _ hC.tu; omega
  have HZ := LH hz
  have HEX := LH (Ext.al w (.cells #[.int .i64 5, .int .i64 t.n, .string t.nm, .int .i64 t.ty, .slice (some ⟨ba, oa, none⟩) 1 c', .slice Ab t.cls.length cb] 50))
  have HBX := LH (hNw w (.cells #[.int .i64 5, .int .i64 t.n, .string t.nm, .int .i64 t.ty, .slice (some ⟨ba, oa, none⟩) 1 c', .slice Ab t.cls.length cb] 50))
  have m8 := cA hz 8
  have m9 := cA hz 9
  have m10 := cA hz 10
  have m11 := cA hz 11
  have m12 := cA hz 12
  have m13 := cA hz 13
  have m14 := cA hz 14
  have m21 := cA hz 21
  have hlt := hLt hz
  clear hC hz ht he hk h0
  go_enter Tryz.func31, Tryz.ntmps31
  go_wp2
  go_region
  have HEX1 : Hid (Ext w (w.alloc (.cells #[.int .i64 5, .int .i64 t.n, .string t.nm, .int .i64 t.ty, .slice (some ⟨ba, oa, none⟩) 1 c', .slice Ab t.cls.length cb] 50)).drew) := HEX.out.drew
  have HBX1 : Hid ((w.alloc (.cells #[.int .i64 5, .int .i64 t.n, .string t.nm, .int .i64 t.ty, .slice (some ⟨ba, oa, none⟩) 1 c', .slice Ab t.cls.length cb] 50)).drew.heap[w.heap.size]? = some (.cells #[.int .i64 5, .int .i64 t.n, .string t.nm, .int .i64 t.ty, .slice (some ⟨ba, oa, none⟩) 1 c', .slice Ab t.cls.length cb] 50 (0, 0))) := HBX.out
  clear HEX HBX m8 m9 m10 m11 m12 m13 m14 m21
  generalize (w.alloc _).drew = w1 at *
  obtain ⟨b0, b1, b2, b3, b4, b5⟩ := cells6 HBX1.out
  have lbx := hLt HBX1.out
  have lba : ba < w1.heap.size := cL (HX6.out.below HEX1.out).c0
  obtain ⟨y0, y1, y2, y3, y4, y5⟩ := HX6.out.below HEX1.out
  have HGEN : Hid (∀ W : World, Ext w1 W -> W.heap[w1.heap.size]? = some (.cells #[.int .i64 5, .int .i64 5, .int .i64 t.n, .string t.nm, .int .i64 t.ty, .slice (some ⟨ba, oa, none⟩) 1 c', .slice Ab t.cls.length cb, .pointer p, zs, .int .i64 0, .pointer (some ⟨bk, 0, none⟩)] 75 (0, 0)) -> Calls Tryz.prog 27 #[.pointer (some ⟨mb, 0, none⟩), tV y (.slice Ax y.args.length cx) (.slice Ay y.cls.length cy), .pointer p, .pointer (some ⟨w1.heap.size, 0, none⟩)] W fun x w' => (x = .returned (.tuple #[]) /\ RQ P w0 w' bad mb vd vf fu en vl ov st (.ev y e (.ana t e :: k))) /\ Only (fun b => b = mb) w w' /\ (w'.cell? ⟨w.heap.size, 0, none⟩ = some (.int .i64 5) /\ w'.cell? ⟨w.heap.size, 1, none⟩ = some (.int .i64 t.n) /\ w'.cell? ⟨w.heap.size, 2, none⟩ = some (.string t.nm) /\ w'.cell? ⟨w.heap.size, 3, none⟩ = some (.int .i64 t.ty) /\ w'.cell? ⟨w.heap.size, 4, none⟩ = some ((.slice (some ⟨ba, oa, none⟩) 1 c')) /\ w'.cell? ⟨w.heap.size, 5, none⟩ = some (.slice Ab t.cls.length cb)) /\ (w'.cell? ⟨ba, oa, none⟩ = some (.int .i64 y.op) /\ w'.cell? ⟨ba, oa + 1, none⟩ = some (.int .i64 y.n) /\ w'.cell? ⟨ba, oa + 2, none⟩ = some (.string y.nm) /\ w'.cell? ⟨ba, oa + 3, none⟩ = some (.int .i64 y.ty) /\ w'.cell? ⟨ba, oa + 4, none⟩ = some (.slice Ax y.args.length cx) /\ w'.cell? ⟨ba, oa + 5, none⟩ = some (.slice Ay y.cls.length cy))) := fun W hW hb => by
    have hkk : DR P w0 W bad (.k (.pointer (some ⟨w1.heap.size, 0, none⟩)) (.ana t e :: k)) :=
      .ana w1.heap.size t e _ _ _ _ _ (HC.out.ext' HEX1.out).nb.new (by dsimp only [frV]; rw [H00.out]; exact hb) HT.out ((HE.out.ext HEX1.out).ext hW) ((HK.out.ext HEX1.out).ext hW)
    refine (evalQ P w0 W bad mb vd vf ov fu en vl st y e _ _ _ _ _ ((HC.out.ext' HEX1.out).ext' hW) ((HM.out.ext' HEX1.out).ext' hW) HXT.out ((HE.out.ext HEX1.out).ext hW) hkk).mono ?_
    rintro x w5 ⟨⟨rfl, hrq⟩, ho⟩
    exact ⟨⟨rfl, hrq⟩, (only_x (b := mb) (HEX1.out.tr hW)).tr ho, only_box ho HNW.out (cells6 ((hW.block _ (hLt HBX1.out)).trans HBX1.out)), ((HX6.out.below (HEX1.out.tr hW)).only ho HNB.out).at0⟩
  go_upto_region 15 with fail
  go_region_held3 (fun w' => w'.cell? ⟨w.heap.size, 0, none⟩ = some (.int .i64 5) /\ w'.cell? ⟨w.heap.size, 1, none⟩ = some (.int .i64 t.n) /\ w'.cell? ⟨w.heap.size, 2, none⟩ = some (.string t.nm) /\ w'.cell? ⟨w.heap.size, 3, none⟩ = some (.int .i64 t.ty) /\ w'.cell? ⟨w.heap.size, 4, none⟩ = some ((.slice (some ⟨ba, oa, none⟩) 1 c')) /\ w'.cell? ⟨w.heap.size, 5, none⟩ = some (.slice Ab t.cls.length cb) /\ w'.cell? ⟨ba, oa, none⟩ = some (.int .i64 y.op) /\ w'.cell? ⟨ba, oa + 1, none⟩ = some (.int .i64 y.n) /\ w'.cell? ⟨ba, oa + 2, none⟩ = some (.string y.nm) /\ w'.cell? ⟨ba, oa + 3, none⟩ = some (.int .i64 y.ty) /\ w'.cell? ⟨ba, oa + 4, none⟩ = some (.slice Ax y.args.length cx) /\ w'.cell? ⟨ba, oa + 5, none⟩ = some (.slice Ay y.cls.length cy))
    (first | exact and12 HCD.out.1 HCD.out.2 | go_keep)
    ((go_at_call 27; (with_reducible refine (HGEN.out _ (by first | exact (Ext.al _ _).drew | exact Ext.tr (b := w1.drew) (Ext.rf w1).drew (Ext.al _ _) | exact Ext.al _ _) (by first | exact heapNewD _ _ _ | exact heapDNew _ _ _ | exact hNw _ _)).mono ?_); rintro x w5 ⟨⟨rfl, hrq⟩, ho, hcd⟩; have HRQ := LH hrq; have HON := LH ho; have HCD := LH hcd; clear hrq ho hcd))
  all_goals
    go_wp2
    go_end0
    exact ⟨⟨rfl, HRQ.out⟩, HON.out⟩
set_option maxHeartbeats 8000000 in
theorem stepEmit_any (P : Pg) (w0 w : World) (bad : Nat -> Prop) (mb : Nat) (vd vf ov : Value) (fu en vl st : Int) (t : Tm) (e : En) (k : Kt) (va vc ev v0 v1 v2 v3 v4 v5 kv : Value) (hC : CR P w0 w bad mb vd vf) (hz : MZ w mb vd vf fu en vl ov st (.bool true) (.int .i64 t.op) (.int .i64 t.n) (.string t.nm) (.int .i64 t.ty) va vc ev v0 v1 v2 v3 v4 v5 kv (.bool false)) (ht : RTx w0 t va vc) (he : DR P w0 w bad (.e ev e.vs e.ls)) (hk : DR P w0 w bad (.k kv k)) (h0 : t.op = 10) (hla : t.args.length = 2) :
    Calls Tryz.prog 31 #[.pointer (some ⟨mb, 0, none⟩)] w fun x w' => (x = .returned (.tuple #[]) /\ RQ P w0 w' bad mb vd vf fu en vl ov st (.ev (t.args.getD 0 noTm) e (.emit t e :: k))) /\ Only (fun b => b = mb) w w' := by
  have HC := LH hC
  have HM : Hid (MA w mb vd vf fu en vl ov st (.bool false)) := ⟨_, _, _, _, _, _, _, _, _, _, _, _, _, _, _, hz⟩
  have HK := LH hk
  have HE := LH he
  have HT := LH ht
  have H00 := LH h0
  obtain ⟨A', c', e1, hc1, hc2, hs⟩ := ht.args
  obtain ⟨ba, oa, xa, xc, e2, hbl, hx6, hxt⟩ := hs 0 (t.args.getD 0 noTm) (by rw [List.getD_eq_getElem?_getD, List.getElem?_eq_getElem (by omega)]; rfl)
  have hx6 := hx6.below hC.ext
  rw [Nat.zero_mul, Nat.add_zero] at hx6
  subst e1
  subst e2
  obtain ⟨⟨Ax, cx, rfl, -, -⟩, ⟨Ay, cy, rfl, -, -⟩⟩ := hxt.form
  have HX6 := LH hx6
  have HXT := LH hxt
  have HNB : Hid (ba ≠ mb) := by show _ ≠ _; have := hC.lo; omega
  generalize t.args.getD 0 noTm = y at *
  rw [hla] at hz HT
  unfold maxLen at hc2
  clear hs hx6 hxt
  obtain ⟨-, ⟨Ab, cb, rfl, -, -⟩⟩ := ht.form
  obtain ⟨p, rfl⟩ := he.e_form
  obtain ⟨bk, rfl⟩ := hk.k_form
  rw [h0] at hz
  have HNW : Hid (w.heap.size ≠ mb) := by show _ ≠ _; have := hC.nb _ hC.tu; omega
  have HZ := LH hz
  have HEX := LH (Ext.al w (.cells #[.int .i64 10, .int .i64 t.n, .string t.nm, .int .i64 t.ty, .slice (some ⟨ba, oa, none⟩) 2 c', .slice Ab t.cls.length cb] 50))
  have HBX := LH (hNw w (.cells #[.int .i64 10, .int .i64 t.n, .string t.nm, .int .i64 t.ty, .slice (some ⟨ba, oa, none⟩) 2 c', .slice Ab t.cls.length cb] 50))
  have m8 := cA hz 8
  have m9 := cA hz 9
  have m10 := cA hz 10
  have m11 := cA hz 11
  have m12 := cA hz 12
  have m13 := cA hz 13
  have m14 := cA hz 14
  have m21 := cA hz 21
  have hlt := hLt hz
  clear hC hz ht he hk h0
  go_enter Tryz.func31, Tryz.ntmps31
  go_wp2
  go_region
  have HEX1 : Hid (Ext w (w.alloc (.cells #[.int .i64 10, .int .i64 t.n, .string t.nm, .int .i64 t.ty, .slice (some ⟨ba, oa, none⟩) 2 c', .slice Ab t.cls.length cb] 50)).drew) := HEX.out.drew
  have HBX1 : Hid ((w.alloc (.cells #[.int .i64 10, .int .i64 t.n, .string t.nm, .int .i64 t.ty, .slice (some ⟨ba, oa, none⟩) 2 c', .slice Ab t.cls.length cb] 50)).drew.heap[w.heap.size]? = some (.cells #[.int .i64 10, .int .i64 t.n, .string t.nm, .int .i64 t.ty, .slice (some ⟨ba, oa, none⟩) 2 c', .slice Ab t.cls.length cb] 50 (0, 0))) := HBX.out
  clear HEX HBX m8 m9 m10 m11 m12 m13 m14 m21
  generalize (w.alloc _).drew = w1 at *
  obtain ⟨b0, b1, b2, b3, b4, b5⟩ := cells6 HBX1.out
  have lbx := hLt HBX1.out
  have lba : ba < w1.heap.size := cL (HX6.out.below HEX1.out).c0
  obtain ⟨y0, y1, y2, y3, y4, y5⟩ := HX6.out.below HEX1.out
  have HGEN : Hid (∀ W : World, Ext w1 W -> W.heap[w1.heap.size]? = some (.cells #[.int .i64 7, .int .i64 10, .int .i64 t.n, .string t.nm, .int .i64 t.ty, .slice (some ⟨ba, oa, none⟩) 2 c', .slice Ab t.cls.length cb, .pointer p, zs, .int .i64 0, .pointer (some ⟨bk, 0, none⟩)] 75 (0, 0)) -> Calls Tryz.prog 27 #[.pointer (some ⟨mb, 0, none⟩), tV y (.slice Ax y.args.length cx) (.slice Ay y.cls.length cy), .pointer p, .pointer (some ⟨w1.heap.size, 0, none⟩)] W fun x w' => (x = .returned (.tuple #[]) /\ RQ P w0 w' bad mb vd vf fu en vl ov st (.ev y e (.emit t e :: k))) /\ Only (fun b => b = mb) w w' /\ (w'.cell? ⟨w.heap.size, 0, none⟩ = some (.int .i64 10) /\ w'.cell? ⟨w.heap.size, 1, none⟩ = some (.int .i64 t.n) /\ w'.cell? ⟨w.heap.size, 2, none⟩ = some (.string t.nm) /\ w'.cell? ⟨w.heap.size, 3, none⟩ = some (.int .i64 t.ty) /\ w'.cell? ⟨w.heap.size, 4, none⟩ = some ((.slice (some ⟨ba, oa, none⟩) 2 c')) /\ w'.cell? ⟨w.heap.size, 5, none⟩ = some (.slice Ab t.cls.length cb)) /\ (w'.cell? ⟨ba, oa, none⟩ = some (.int .i64 y.op) /\ w'.cell? ⟨ba, oa + 1, none⟩ = some (.int .i64 y.n) /\ w'.cell? ⟨ba, oa + 2, none⟩ = some (.string y.nm) /\ w'.cell? ⟨ba, oa + 3, none⟩ = some (.int .i64 y.ty) /\ w'.cell? ⟨ba, oa + 4, none⟩ = some (.slice Ax y.args.length cx) /\ w'.cell? ⟨ba, oa + 5, none⟩ = some (.slice Ay y.cls.length cy))) := fun W hW hb => by
    have hkk : DR P w0 W bad (.k (.pointer (some ⟨w1.heap.size, 0, none⟩)) (.emit t e :: k)) :=
      .emit w1.heap.size t e _ _ _ _ _ (HC.out.ext' HEX1.out).nb.new (by dsimp only [frV]; rw [H00.out]; exact hb) HT.out ((HE.out.ext HEX1.out).ext hW) ((HK.out.ext HEX1.out).ext hW)
    refine (evalQ P w0 W bad mb vd vf ov fu en vl st y e _ _ _ _ _ ((HC.out.ext' HEX1.out).ext' hW) ((HM.out.ext' HEX1.out).ext' hW) HXT.out ((HE.out.ext HEX1.out).ext hW) hkk).mono ?_
    rintro x w5 ⟨⟨rfl, hrq⟩, ho⟩
    exact ⟨⟨rfl, hrq⟩, (only_x (b := mb) (HEX1.out.tr hW)).tr ho, only_box ho HNW.out (cells6 ((hW.block _ (hLt HBX1.out)).trans HBX1.out)), ((HX6.out.below (HEX1.out.tr hW)).only ho HNB.out).at0⟩
  go_upto_region 19 with fail
  go_region_held3 (fun w' => w'.cell? ⟨w.heap.size, 0, none⟩ = some (.int .i64 10) /\ w'.cell? ⟨w.heap.size, 1, none⟩ = some (.int .i64 t.n) /\ w'.cell? ⟨w.heap.size, 2, none⟩ = some (.string t.nm) /\ w'.cell? ⟨w.heap.size, 3, none⟩ = some (.int .i64 t.ty) /\ w'.cell? ⟨w.heap.size, 4, none⟩ = some ((.slice (some ⟨ba, oa, none⟩) 2 c')) /\ w'.cell? ⟨w.heap.size, 5, none⟩ = some (.slice Ab t.cls.length cb) /\ w'.cell? ⟨ba, oa, none⟩ = some (.int .i64 y.op) /\ w'.cell? ⟨ba, oa + 1, none⟩ = some (.int .i64 y.n) /\ w'.cell? ⟨ba, oa + 2, none⟩ = some (.string y.nm) /\ w'.cell? ⟨ba, oa + 3, none⟩ = some (.int .i64 y.ty) /\ w'.cell? ⟨ba, oa + 4, none⟩ = some (.slice Ax y.args.length cx) /\ w'.cell? ⟨ba, oa + 5, none⟩ = some (.slice Ay y.cls.length cy))
    (first | exact and12 HCD.out.1 HCD.out.2 | go_keep)
    ((go_at_call 27; (with_reducible refine (HGEN.out _ (by first | exact (Ext.al _ _).drew | exact Ext.tr (b := w1.drew) (Ext.rf w1).drew (Ext.al _ _) | exact Ext.al _ _) (by first | exact heapNewD _ _ _ | exact heapDNew _ _ _ | exact hNw _ _)).mono ?_); rintro x w5 ⟨⟨rfl, hrq⟩, ho, hcd⟩; have HRQ := LH hrq; have HON := LH ho; have HCD := LH hcd; clear hrq ho hcd))
  all_goals
    go_wp2
    go_end0
    exact ⟨⟨rfl, HRQ.out⟩, HON.out⟩
set_option maxHeartbeats 8000000 in
theorem stepLabel_any (P : Pg) (w0 w : World) (bad : Nat -> Prop) (mb : Nat) (vd vf ov : Value) (fu en vl st : Int) (t : Tm) (e : En) (k : Kt) (va vc ev v0 v1 v2 v3 v4 v5 kv : Value) (hC : CR P w0 w bad mb vd vf) (hz : MZ w mb vd vf fu en vl ov st (.bool true) (.int .i64 t.op) (.int .i64 t.n) (.string t.nm) (.int .i64 t.ty) va vc ev v0 v1 v2 v3 v4 v5 kv (.bool false)) (ht : RTx w0 t va vc) (he : DR P w0 w bad (.e ev e.vs e.ls)) (hk : DR P w0 w bad (.k kv k)) (h0 : t.op = 11) (hla : t.args.length = 1) :
    Calls Tryz.prog 31 #[.pointer (some ⟨mb, 0, none⟩)] w fun x w' => (x = .returned (.tuple #[]) /\ RQ P w0 w' bad mb vd vf fu en vl ov st (.ev (t.args.getD 0 noTm) (markL e t.nm k) k)) /\ Only (fun b => b = mb) w w' := by
  have HC := LH hC
  have HM : Hid (MA w mb vd vf fu en vl ov st (.bool false)) := ⟨_, _, _, _, _, _, _, _, _, _, _, _, _, _, _, hz⟩
  have HK := LH hk
  have HE := LH he
  have HT := LH ht
  have H00 := LH h0
  obtain ⟨A', c', e1, hc1, hc2, hs⟩ := ht.args
  obtain ⟨ba, oa, xa, xc, e2, hbl, hx6, hxt⟩ := hs 0 (t.args.getD 0 noTm) (by rw [List.getD_eq_getElem?_getD, List.getElem?_eq_getElem (by omega)]; rfl)
  have hx6 := hx6.below hC.ext
  rw [Nat.zero_mul, Nat.add_zero] at hx6
  subst e1
  subst e2
  obtain ⟨⟨Ax, cx, rfl, -, -⟩, ⟨Ay, cy, rfl, -, -⟩⟩ := hxt.form
  have HX6 := LH hx6
  have HXT := LH hxt
  have HNB : Hid (ba ≠ mb) := by show _ ≠ _; have := hC.lo; omega
  generalize t.args.getD 0 noTm = y at *
  rw [hla] at hz HT
  unfold maxLen at hc2
  clear hs hx6 hxt
  obtain ⟨-, ⟨Ab, cb, rfl, -, -⟩⟩ := ht.form
  obtain ⟨p, rfl⟩ := he.e_form
  obtain ⟨bk, rfl⟩ := hk.k_form
  rw [h0] at hz
  have HNW : Hid (w.heap.size ≠ mb) := by show _ ≠ _; have := hC.nb _ hC.tu; omega
  have HZ := LH hz
  have HEX := LH (Ext.al w (.cells #[.int .i64 11, .int .i64 t.n, .string t.nm, .int .i64 t.ty, .slice (some ⟨ba, oa, none⟩) 1 c', .slice Ab t.cls.length cb] 50))
  have HBX := LH (hNw w (.cells #[.int .i64 11, .int .i64 t.n, .string t.nm, .int .i64 t.ty, .slice (some ⟨ba, oa, none⟩) 1 c', .slice Ab t.cls.length cb] 50))
  have m8 := cA hz 8
  have m9 := cA hz 9
  have m10 := cA hz 10
  have m11 := cA hz 11
  have m12 := cA hz 12
  have m13 := cA hz 13
  have m14 := cA hz 14
  have m21 := cA hz 21
  have hlt := hLt hz
  clear hC hz ht he hk h0
  go_enter Tryz.func31, Tryz.ntmps31
  go_wp2
  go_region
  have HEX1 : Hid (Ext w (w.alloc (.cells #[.int .i64 11, .int .i64 t.n, .string t.nm, .int .i64 t.ty, .slice (some ⟨ba, oa, none⟩) 1 c', .slice Ab t.cls.length cb] 50)).drew) := HEX.out.drew
  have HBX1 : Hid ((w.alloc (.cells #[.int .i64 11, .int .i64 t.n, .string t.nm, .int .i64 t.ty, .slice (some ⟨ba, oa, none⟩) 1 c', .slice Ab t.cls.length cb] 50)).drew.heap[w.heap.size]? = some (.cells #[.int .i64 11, .int .i64 t.n, .string t.nm, .int .i64 t.ty, .slice (some ⟨ba, oa, none⟩) 1 c', .slice Ab t.cls.length cb] 50 (0, 0))) := HBX.out
  clear HEX HBX m8 m9 m10 m11 m12 m13 m14 m21
  generalize (w.alloc _).drew = w1 at *
  obtain ⟨b0, b1, b2, b3, b4, b5⟩ := cells6 HBX1.out
  have lbx := hLt HBX1.out
  have lba : ba < w1.heap.size := cL (HX6.out.below HEX1.out).c0
  obtain ⟨y0, y1, y2, y3, y4, y5⟩ := HX6.out.below HEX1.out
  have HGEN : Hid (∀ W : World, Ext w1 W -> W.heap[w1.heap.size]? = some (.cells #[.bool true, .string t.nm, .bool false, zi, zi, zi, zs, zs, zp, zi, zi, ze, zi, zs, zs, zp, .pointer (some ⟨bk, 0, none⟩), .pointer p] 120 (0, 0)) -> Calls Tryz.prog 27 #[.pointer (some ⟨mb, 0, none⟩), tV y (.slice Ax y.args.length cx) (.slice Ay y.cls.length cy), .pointer (some ⟨w1.heap.size, 0, none⟩), .pointer (some ⟨bk, 0, none⟩)] W fun x w' => (x = .returned (.tuple #[]) /\ RQ P w0 w' bad mb vd vf fu en vl ov st (.ev y (markL e t.nm k) k)) /\ Only (fun b => b = mb) w w' /\ (w'.cell? ⟨w.heap.size, 0, none⟩ = some (.int .i64 11) /\ w'.cell? ⟨w.heap.size, 1, none⟩ = some (.int .i64 t.n) /\ w'.cell? ⟨w.heap.size, 2, none⟩ = some (.string t.nm) /\ w'.cell? ⟨w.heap.size, 3, none⟩ = some (.int .i64 t.ty) /\ w'.cell? ⟨w.heap.size, 4, none⟩ = some ((.slice (some ⟨ba, oa, none⟩) 1 c')) /\ w'.cell? ⟨w.heap.size, 5, none⟩ = some (.slice Ab t.cls.length cb)) /\ (w'.cell? ⟨ba, oa, none⟩ = some (.int .i64 y.op) /\ w'.cell? ⟨ba, oa + 1, none⟩ = some (.int .i64 y.n) /\ w'.cell? ⟨ba, oa + 2, none⟩ = some (.string y.nm) /\ w'.cell? ⟨ba, oa + 3, none⟩ = some (.int .i64 y.ty) /\ w'.cell? ⟨ba, oa + 4, none⟩ = some (.slice Ax y.args.length cx) /\ w'.cell? ⟨ba, oa + 5, none⟩ = some (.slice Ay y.cls.length cy))) := fun W hW hb => by
    have hee : DR P w0 W bad (.e (.pointer (some ⟨w1.heap.size, 0, none⟩)) (markL e t.nm k).vs (markL e t.nm k).ls) :=
      .elbl w1.heap.size t.nm _ _ k e.vs e.ls HT.out.oks.1 (HC.out.ext' HEX1.out).nb.new hb ((HK.out.ext HEX1.out).ext hW) ((HE.out.ext HEX1.out).ext hW)
    refine (evalQ P w0 W bad mb vd vf ov fu en vl st y (markL e t.nm k) _ _ _ _ _ ((HC.out.ext' HEX1.out).ext' hW) ((HM.out.ext' HEX1.out).ext' hW) HXT.out hee ((HK.out.ext HEX1.out).ext hW)).mono ?_
    rintro x w5 ⟨⟨rfl, hrq⟩, ho⟩
    exact ⟨⟨rfl, hrq⟩, (only_x (b := mb) (HEX1.out.tr hW)).tr ho, only_box ho HNW.out (cells6 ((hW.block _ (hLt HBX1.out)).trans HBX1.out)), ((HX6.out.below (HEX1.out.tr hW)).only ho HNB.out).at0⟩
  go_upto_region 21 with fail
  go_region_held3 (fun w' => w'.cell? ⟨w.heap.size, 0, none⟩ = some (.int .i64 11) /\ w'.cell? ⟨w.heap.size, 1, none⟩ = some (.int .i64 t.n) /\ w'.cell? ⟨w.heap.size, 2, none⟩ = some (.string t.nm) /\ w'.cell? ⟨w.heap.size, 3, none⟩ = some (.int .i64 t.ty) /\ w'.cell? ⟨w.heap.size, 4, none⟩ = some ((.slice (some ⟨ba, oa, none⟩) 1 c')) /\ w'.cell? ⟨w.heap.size, 5, none⟩ = some (.slice Ab t.cls.length cb) /\ w'.cell? ⟨ba, oa, none⟩ = some (.int .i64 y.op) /\ w'.cell? ⟨ba, oa + 1, none⟩ = some (.int .i64 y.n) /\ w'.cell? ⟨ba, oa + 2, none⟩ = some (.string y.nm) /\ w'.cell? ⟨ba, oa + 3, none⟩ = some (.int .i64 y.ty) /\ w'.cell? ⟨ba, oa + 4, none⟩ = some (.slice Ax y.args.length cx) /\ w'.cell? ⟨ba, oa + 5, none⟩ = some (.slice Ay y.cls.length cy))
    (first | exact and12 HCD.out.1 HCD.out.2 | go_keep)
    ((go_at_call 27; (with_reducible refine (HGEN.out _ (by first | exact (Ext.al _ _).drew | exact Ext.tr (b := w1.drew) (Ext.rf w1).drew (Ext.al _ _) | exact Ext.al _ _) (by first | exact heapNewD _ _ _ | exact heapDNew _ _ _ | exact hNw _ _)).mono ?_); rintro x w5 ⟨⟨rfl, hrq⟩, ho, hcd⟩; have HRQ := LH hrq; have HON := LH ho; have HCD := LH hcd; clear hrq ho hcd))
  all_goals
    go_wp2
    go_end0
    exact ⟨⟨rfl, HRQ.out⟩, HON.out⟩
end Go.Proofs.YtkdglplfcpindaaGreatDoor
