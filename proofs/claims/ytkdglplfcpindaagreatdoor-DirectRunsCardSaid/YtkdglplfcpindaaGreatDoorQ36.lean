import Derived.Test.YtkdglplfcpindaaGreatDoorQ35
set_option maxRecDepth 100000
namespace Go.Proofs.YtkdglplfcpindaaGreatDoor
open Go.RowKit
set_option maxHeartbeats 8000000 in
theorem rcvFin_any (P : Pg) (w0 w : World) (bad : Nat -> Prop) (mb bk : Nat) (vd vf ov t0 t1 t2 t3 t4 t5 ev : Value) (fu en vl st : Int) (n : Int) (hC : CR P w0 w bad mb vd vf) (hz : MZ w mb vd vf fu en vl ov st (.bool false) t0 t1 t2 t3 t4 t5 ev zi (.int .i64 n) zi zs zs zp (.pointer (some ⟨bk, 0, none⟩)) (.bool false)) (hk : w.cell? ⟨bk, 0, none⟩ = some zi) :
    Calls Tryz.prog 29 #[.pointer (some ⟨mb, 0, none⟩)] w fun x w' => (x = .returned (.tuple #[]) /\ MA w' mb vd vf fu 0 n ov st (.bool true)) /\ Only (fun b => b = mb) w w' := by
  have HC := LH hC
  have HZ := LH hz
  have HMA : Hid (MA w mb vd vf fu en vl ov st (.bool false)) := ⟨_, _, _, _, _, _, _, _, _, _, _, _, _, _, _, hz⟩
  have HNW : Hid (w.heap.size ≠ mb) := by show _ ≠ _; have := hC.nb _ hC.tu; omega
  have HKC := LH hk
  clear hk
  have HEX := LH (Ext.al w (.cells #[zi, .int .i64 n, zi, zs, zs, zp] 63))
  have HBX := LH (hNw w (.cells #[zi, .int .i64 n, zi, zs, zs, zp] 63))
  have m15 := cA hz 15
  have m16 := cA hz 16
  have m17 := cA hz 17
  have m18 := cA hz 18
  have m19 := cA hz 19
  have m20 := cA hz 20
  have m21 := cA hz 21
  have hlt := hLt hz
  clear hC hz
  go_enter Tryz.func29, Tryz.ntmps29
  go_wp2
  go_region
  have HEX1 : Hid (Ext w (w.alloc (.cells #[zi, .int .i64 n, zi, zs, zs, zp] 63)).drew) := HEX.out.drew
  have HBX1 : Hid ((w.alloc (.cells #[zi, .int .i64 n, zi, zs, zs, zp] 63)).drew.heap[w.heap.size]? = some (.cells #[zi, .int .i64 n, zi, zs, zs, zp] 63 (0, 0))) := HBX.out
  clear HEX HBX m15 m16 m17 m18 m19 m20 m21
  generalize (w.alloc _).drew = w1 at *
  obtain ⟨b0, b1, b2, b3, b4, b5⟩ := cells6 HBX1.out
  have lbx := hLt HBX1.out
  have k0 := HEX1.out.keep HKC.out
  go_wp2_with fail
  (with_reducible refine (end_any w1 mb vd vf ov _ _ _ _ _ _ _ _ _ _ _ _ _ _ _ _ fu en vl st 0 n (HZ.out.ext HEX1.out)).mono ?_)
  rintro x w5 ⟨⟨rfl, hmz⟩, ho⟩
  have HMZ := LH hmz
  have HON := LH ((only_x (b := mb) HEX1.out).tr ho)
  clear hmz ho
  go_wp2
  go_end0
  exact ⟨⟨rfl, _, _, _, _, _, _, _, _, _, _, _, _, _, _, _, HMZ.out⟩, HON.out⟩
set_option maxHeartbeats 8000000 in
theorem rcvStuck0_any (P : Pg) (w0 w : World) (bad : Nat -> Prop) (mb bk : Nat) (vd vf ov t0 t1 t2 t3 t4 t5 ev : Value) (fu en vl st : Int) (kv n ty : Int) (A1 A2 : Option Addr) (n1 n2 m1 m2 : Nat) (pv : Option Addr) (hC : CR P w0 w bad mb vd vf) (hz : MZ w mb vd vf fu en vl ov st (.bool false) t0 t1 t2 t3 t4 t5 ev (.int .i64 kv) (.int .i64 n) (.int .i64 ty) (.slice A1 n1 m1) (.slice A2 n2 m2) (.pointer pv) (.pointer (some ⟨bk, 0, none⟩)) (.bool false)) (hk : w.cell? ⟨bk, 0, none⟩ = some (.int .i64 0)) (hkv : (kv != 0) = true) :
    Calls Tryz.prog 29 #[.pointer (some ⟨mb, 0, none⟩)] w fun x w' => (x = .returned (.tuple #[]) /\ MA w' mb vd vf fu 2 0 ov st (.bool true)) /\ Only (fun b => b = mb) w w' := by
  have HC := LH hC
  have HZ := LH hz
  have HMA : Hid (MA w mb vd vf fu en vl ov st (.bool false)) := ⟨_, _, _, _, _, _, _, _, _, _, _, _, _, _, _, hz⟩
  have HNW : Hid (w.heap.size ≠ mb) := by show _ ≠ _; have := hC.nb _ hC.tu; omega
  have HKC := LH hk
  clear hk
  have HEX := LH (Ext.al w (.cells #[.int .i64 kv, .int .i64 n, .int .i64 ty, .slice A1 n1 m1, .slice A2 n2 m2, .pointer pv] 63))
  have HBX := LH (hNw w (.cells #[.int .i64 kv, .int .i64 n, .int .i64 ty, .slice A1 n1 m1, .slice A2 n2 m2, .pointer pv] 63))
  have m15 := cA hz 15
  have m16 := cA hz 16
  have m17 := cA hz 17
  have m18 := cA hz 18
  have m19 := cA hz 19
  have m20 := cA hz 20
  have m21 := cA hz 21
  have hlt := hLt hz
  clear hC hz
  go_enter Tryz.func29, Tryz.ntmps29
  go_wp2
  go_region
  have HEX1 : Hid (Ext w (w.alloc (.cells #[.int .i64 kv, .int .i64 n, .int .i64 ty, .slice A1 n1 m1, .slice A2 n2 m2, .pointer pv] 63)).drew) := HEX.out.drew
  have HBX1 : Hid ((w.alloc (.cells #[.int .i64 kv, .int .i64 n, .int .i64 ty, .slice A1 n1 m1, .slice A2 n2 m2, .pointer pv] 63)).drew.heap[w.heap.size]? = some (.cells #[.int .i64 kv, .int .i64 n, .int .i64 ty, .slice A1 n1 m1, .slice A2 n2 m2, .pointer pv] 63 (0, 0))) := HBX.out
  clear HEX HBX m15 m16 m17 m18 m19 m20 m21
  generalize (w.alloc _).drew = w1 at *
  obtain ⟨b0, b1, b2, b3, b4, b5⟩ := cells6 HBX1.out
  have lbx := hLt HBX1.out
  have k0 := HEX1.out.keep HKC.out
  go_wp2_with fail
  (with_reducible refine (end_any w1 mb vd vf ov _ _ _ _ _ _ _ _ _ _ _ _ _ _ _ _ fu en vl st 2 0 (HZ.out.ext HEX1.out)).mono ?_)
  rintro x w5 ⟨⟨rfl, hmz⟩, ho⟩
  have HMZ := LH hmz
  have HON := LH ((only_x (b := mb) HEX1.out).tr ho)
  clear hmz ho
  go_wp2
  exact bodyPost_ret (v := .tuple #[]) (by simp [results, Tryz.results29, go_sem]) rfl ⟨⟨rfl, _, _, _, _, _, _, _, _, _, _, _, _, _, _, _, HMZ.out⟩, HON.out⟩
set_option maxHeartbeats 8000000 in
theorem rcvStuck2_any (P : Pg) (w0 w : World) (bad : Nat -> Prop) (mb bk : Nat) (vd vf ov t0 t1 t2 t3 t4 t5 ev : Value) (fu en vl st : Int) (kv n ty : Int) (A1 A2 : Option Addr) (n1 n2 m1 m2 : Nat) (pv : Option Addr) (hC : CR P w0 w bad mb vd vf) (hz : MZ w mb vd vf fu en vl ov st (.bool false) t0 t1 t2 t3 t4 t5 ev (.int .i64 kv) (.int .i64 n) (.int .i64 ty) (.slice A1 n1 m1) (.slice A2 n2 m2) (.pointer pv) (.pointer (some ⟨bk, 0, none⟩)) (.bool false)) (hk : w.cell? ⟨bk, 0, none⟩ = some (.int .i64 2)) (hkv : (kv != 0) = true) :
    Calls Tryz.prog 29 #[.pointer (some ⟨mb, 0, none⟩)] w fun x w' => (x = .returned (.tuple #[]) /\ MA w' mb vd vf fu 2 0 ov st (.bool true)) /\ Only (fun b => b = mb) w w' := by
  have HC := LH hC
  have HZ := LH hz
  have HMA : Hid (MA w mb vd vf fu en vl ov st (.bool false)) := ⟨_, _, _, _, _, _, _, _, _, _, _, _, _, _, _, hz⟩
  have HNW : Hid (w.heap.size ≠ mb) := by show _ ≠ _; have := hC.nb _ hC.tu; omega
  have HKC := LH hk
  clear hk
  have HEX := LH (Ext.al w (.cells #[.int .i64 kv, .int .i64 n, .int .i64 ty, .slice A1 n1 m1, .slice A2 n2 m2, .pointer pv] 63))
  have HBX := LH (hNw w (.cells #[.int .i64 kv, .int .i64 n, .int .i64 ty, .slice A1 n1 m1, .slice A2 n2 m2, .pointer pv] 63))
  have m15 := cA hz 15
  have m16 := cA hz 16
  have m17 := cA hz 17
  have m18 := cA hz 18
  have m19 := cA hz 19
  have m20 := cA hz 20
  have m21 := cA hz 21
  have hlt := hLt hz
  clear hC hz
  go_enter Tryz.func29, Tryz.ntmps29
  go_wp2
  go_region
  have HEX1 : Hid (Ext w (w.alloc (.cells #[.int .i64 kv, .int .i64 n, .int .i64 ty, .slice A1 n1 m1, .slice A2 n2 m2, .pointer pv] 63)).drew) := HEX.out.drew
  have HBX1 : Hid ((w.alloc (.cells #[.int .i64 kv, .int .i64 n, .int .i64 ty, .slice A1 n1 m1, .slice A2 n2 m2, .pointer pv] 63)).drew.heap[w.heap.size]? = some (.cells #[.int .i64 kv, .int .i64 n, .int .i64 ty, .slice A1 n1 m1, .slice A2 n2 m2, .pointer pv] 63 (0, 0))) := HBX.out
  clear HEX HBX m15 m16 m17 m18 m19 m20 m21
  generalize (w.alloc _).drew = w1 at *
  obtain ⟨b0, b1, b2, b3, b4, b5⟩ := cells6 HBX1.out
  have lbx := hLt HBX1.out
  have k0 := HEX1.out.keep HKC.out
  go_wp2_with fail
  (with_reducible refine (end_any w1 mb vd vf ov _ _ _ _ _ _ _ _ _ _ _ _ _ _ _ _ fu en vl st 2 0 (HZ.out.ext HEX1.out)).mono ?_)
  rintro x w5 ⟨⟨rfl, hmz⟩, ho⟩
  have HMZ := LH hmz
  have HON := LH ((only_x (b := mb) HEX1.out).tr ho)
  clear hmz ho
  go_wp2
  exact bodyPost_ret (v := .tuple #[]) (by simp [results, Tryz.results29, go_sem]) rfl ⟨⟨rfl, _, _, _, _, _, _, _, _, _, _, _, _, _, _, _, HMZ.out⟩, HON.out⟩
set_option maxHeartbeats 8000000 in
theorem rcvStuck3_any (P : Pg) (w0 w : World) (bad : Nat -> Prop) (mb bk : Nat) (vd vf ov t0 t1 t2 t3 t4 t5 ev : Value) (fu en vl st : Int) (kv n ty : Int) (A1 A2 : Option Addr) (n1 n2 m1 m2 : Nat) (pv : Option Addr) (hC : CR P w0 w bad mb vd vf) (hz : MZ w mb vd vf fu en vl ov st (.bool false) t0 t1 t2 t3 t4 t5 ev (.int .i64 kv) (.int .i64 n) (.int .i64 ty) (.slice A1 n1 m1) (.slice A2 n2 m2) (.pointer pv) (.pointer (some ⟨bk, 0, none⟩)) (.bool false)) (hk : w.cell? ⟨bk, 0, none⟩ = some (.int .i64 3)) (hkv : (kv != 0) = true) :
    Calls Tryz.prog 29 #[.pointer (some ⟨mb, 0, none⟩)] w fun x w' => (x = .returned (.tuple #[]) /\ MA w' mb vd vf fu 2 0 ov st (.bool true)) /\ Only (fun b => b = mb) w w' := by
  have HC := LH hC
  have HZ := LH hz
  have HMA : Hid (MA w mb vd vf fu en vl ov st (.bool false)) := ⟨_, _, _, _, _, _, _, _, _, _, _, _, _, _, _, hz⟩
  have HNW : Hid (w.heap.size ≠ mb) := by show _ ≠ _; have := hC.nb _ hC.tu; omega
  have HKC := LH hk
  clear hk
  have HEX := LH (Ext.al w (.cells #[.int .i64 kv, .int .i64 n, .int .i64 ty, .slice A1 n1 m1, .slice A2 n2 m2, .pointer pv] 63))
  have HBX := LH (hNw w (.cells #[.int .i64 kv, .int .i64 n, .int .i64 ty, .slice A1 n1 m1, .slice A2 n2 m2, .pointer pv] 63))
  have m15 := cA hz 15
  have m16 := cA hz 16
  have m17 := cA hz 17
  have m18 := cA hz 18
  have m19 := cA hz 19
  have m20 := cA hz 20
  have m21 := cA hz 21
  have hlt := hLt hz
  clear hC hz
  go_enter Tryz.func29, Tryz.ntmps29
  go_wp2
  go_region
  have HEX1 : Hid (Ext w (w.alloc (.cells #[.int .i64 kv, .int .i64 n, .int .i64 ty, .slice A1 n1 m1, .slice A2 n2 m2, .pointer pv] 63)).drew) := HEX.out.drew
  have HBX1 : Hid ((w.alloc (.cells #[.int .i64 kv, .int .i64 n, .int .i64 ty, .slice A1 n1 m1, .slice A2 n2 m2, .pointer pv] 63)).drew.heap[w.heap.size]? = some (.cells #[.int .i64 kv, .int .i64 n, .int .i64 ty, .slice A1 n1 m1, .slice A2 n2 m2, .pointer pv] 63 (0, 0))) := HBX.out
  clear HEX HBX m15 m16 m17 m18 m19 m20 m21
  generalize (w.alloc _).drew = w1 at *
  obtain ⟨b0, b1, b2, b3, b4, b5⟩ := cells6 HBX1.out
  have lbx := hLt HBX1.out
  have k0 := HEX1.out.keep HKC.out
  go_wp2_with fail
  (with_reducible refine (end_any w1 mb vd vf ov _ _ _ _ _ _ _ _ _ _ _ _ _ _ _ _ fu en vl st 2 0 (HZ.out.ext HEX1.out)).mono ?_)
  rintro x w5 ⟨⟨rfl, hmz⟩, ho⟩
  have HMZ := LH hmz
  have HON := LH ((only_x (b := mb) HEX1.out).tr ho)
  clear hmz ho
  go_wp2
  exact bodyPost_ret (v := .tuple #[]) (by simp [results, Tryz.results29, go_sem]) rfl ⟨⟨rfl, _, _, _, _, _, _, _, _, _, _, _, _, _, _, _, HMZ.out⟩, HON.out⟩
set_option maxHeartbeats 8000000 in
theorem rcvStuck4_any (P : Pg) (w0 w : World) (bad : Nat -> Prop) (mb bk : Nat) (vd vf ov t0 t1 t2 t3 t4 t5 ev : Value) (fu en vl st : Int) (kv n ty : Int) (A1 A2 : Option Addr) (n1 n2 m1 m2 : Nat) (pv : Option Addr) (hC : CR P w0 w bad mb vd vf) (hz : MZ w mb vd vf fu en vl ov st (.bool false) t0 t1 t2 t3 t4 t5 ev (.int .i64 kv) (.int .i64 n) (.int .i64 ty) (.slice A1 n1 m1) (.slice A2 n2 m2) (.pointer pv) (.pointer (some ⟨bk, 0, none⟩)) (.bool false)) (hk : w.cell? ⟨bk, 0, none⟩ = some (.int .i64 4)) (hkv : (kv != 0) = true) :
    Calls Tryz.prog 29 #[.pointer (some ⟨mb, 0, none⟩)] w fun x w' => (x = .returned (.tuple #[]) /\ MA w' mb vd vf fu 2 0 ov st (.bool true)) /\ Only (fun b => b = mb) w w' := by
  have HC := LH hC
  have HZ := LH hz
  have HMA : Hid (MA w mb vd vf fu en vl ov st (.bool false)) := ⟨_, _, _, _, _, _, _, _, _, _, _, _, _, _, _, hz⟩
  have HNW : Hid (w.heap.size ≠ mb) := by show _ ≠ _; have := hC.nb _ hC.tu; omega
  have HKC := LH hk
  clear hk
  have HEX := LH (Ext.al w (.cells #[.int .i64 kv, .int .i64 n, .int .i64 ty, .slice A1 n1 m1, .slice A2 n2 m2, .pointer pv] 63))
  have HBX := LH (hNw w (.cells #[.int .i64 kv, .int .i64 n, .int .i64 ty, .slice A1 n1 m1, .slice A2 n2 m2, .pointer pv] 63))
  have m15 := cA hz 15
  have m16 := cA hz 16
  have m17 := cA hz 17
  have m18 := cA hz 18
  have m19 := cA hz 19
  have m20 := cA hz 20
  have m21 := cA hz 21
  have hlt := hLt hz
  clear hC hz
  go_enter Tryz.func29, Tryz.ntmps29
  go_wp2
  go_region
  have HEX1 : Hid (Ext w (w.alloc (.cells #[.int .i64 kv, .int .i64 n, .int .i64 ty, .slice A1 n1 m1, .slice A2 n2 m2, .pointer pv] 63)).drew) := HEX.out.drew
  have HBX1 : Hid ((w.alloc (.cells #[.int .i64 kv, .int .i64 n, .int .i64 ty, .slice A1 n1 m1, .slice A2 n2 m2, .pointer pv] 63)).drew.heap[w.heap.size]? = some (.cells #[.int .i64 kv, .int .i64 n, .int .i64 ty, .slice A1 n1 m1, .slice A2 n2 m2, .pointer pv] 63 (0, 0))) := HBX.out
  clear HEX HBX m15 m16 m17 m18 m19 m20 m21
  generalize (w.alloc _).drew = w1 at *
  obtain ⟨b0, b1, b2, b3, b4, b5⟩ := cells6 HBX1.out
  have lbx := hLt HBX1.out
  have k0 := HEX1.out.keep HKC.out
  go_wp2_with fail
  (with_reducible refine (end_any w1 mb vd vf ov _ _ _ _ _ _ _ _ _ _ _ _ _ _ _ _ fu en vl st 2 0 (HZ.out.ext HEX1.out)).mono ?_)
  rintro x w5 ⟨⟨rfl, hmz⟩, ho⟩
  have HMZ := LH hmz
  have HON := LH ((only_x (b := mb) HEX1.out).tr ho)
  clear hmz ho
  go_wp2
  exact bodyPost_ret (v := .tuple #[]) (by simp [results, Tryz.results29, go_sem]) rfl ⟨⟨rfl, _, _, _, _, _, _, _, _, _, _, _, _, _, _, _, HMZ.out⟩, HON.out⟩
set_option maxHeartbeats 8000000 in
theorem rcvStuck7_any (P : Pg) (w0 w : World) (bad : Nat -> Prop) (mb bk : Nat) (vd vf ov t0 t1 t2 t3 t4 t5 ev : Value) (fu en vl st : Int) (kv n ty : Int) (A1 A2 : Option Addr) (n1 n2 m1 m2 : Nat) (pv : Option Addr) (hC : CR P w0 w bad mb vd vf) (hz : MZ w mb vd vf fu en vl ov st (.bool false) t0 t1 t2 t3 t4 t5 ev (.int .i64 kv) (.int .i64 n) (.int .i64 ty) (.slice A1 n1 m1) (.slice A2 n2 m2) (.pointer pv) (.pointer (some ⟨bk, 0, none⟩)) (.bool false)) (hk : w.cell? ⟨bk, 0, none⟩ = some (.int .i64 7)) (hkv : (kv != 0) = true) :
    Calls Tryz.prog 29 #[.pointer (some ⟨mb, 0, none⟩)] w fun x w' => (x = .returned (.tuple #[]) /\ MA w' mb vd vf fu 2 0 ov st (.bool true)) /\ Only (fun b => b = mb) w w' := by
  have HC := LH hC
  have HZ := LH hz
  have HMA : Hid (MA w mb vd vf fu en vl ov st (.bool false)) := ⟨_, _, _, _, _, _, _, _, _, _, _, _, _, _, _, hz⟩
  have HNW : Hid (w.heap.size ≠ mb) := by show _ ≠ _; have := hC.nb _ hC.tu; omega
  have HKC := LH hk
  clear hk
  have HEX := LH (Ext.al w (.cells #[.int .i64 kv, .int .i64 n, .int .i64 ty, .slice A1 n1 m1, .slice A2 n2 m2, .pointer pv] 63))
  have HBX := LH (hNw w (.cells #[.int .i64 kv, .int .i64 n, .int .i64 ty, .slice A1 n1 m1, .slice A2 n2 m2, .pointer pv] 63))
  have m15 := cA hz 15
  have m16 := cA hz 16
  have m17 := cA hz 17
  have m18 := cA hz 18
  have m19 := cA hz 19
  have m20 := cA hz 20
  have m21 := cA hz 21
  have hlt := hLt hz
  clear hC hz
  go_enter Tryz.func29, Tryz.ntmps29
  go_wp2
  go_region
  have HEX1 : Hid (Ext w (w.alloc (.cells #[.int .i64 kv, .int .i64 n, .int .i64 ty, .slice A1 n1 m1, .slice A2 n2 m2, .pointer pv] 63)).drew) := HEX.out.drew
  have HBX1 : Hid ((w.alloc (.cells #[.int .i64 kv, .int .i64 n, .int .i64 ty, .slice A1 n1 m1, .slice A2 n2 m2, .pointer pv] 63)).drew.heap[w.heap.size]? = some (.cells #[.int .i64 kv, .int .i64 n, .int .i64 ty, .slice A1 n1 m1, .slice A2 n2 m2, .pointer pv] 63 (0, 0))) := HBX.out
  clear HEX HBX m15 m16 m17 m18 m19 m20 m21
  generalize (w.alloc _).drew = w1 at *
  obtain ⟨b0, b1, b2, b3, b4, b5⟩ := cells6 HBX1.out
  have lbx := hLt HBX1.out
  have k0 := HEX1.out.keep HKC.out
  go_wp2_with fail
  (with_reducible refine (end_any w1 mb vd vf ov _ _ _ _ _ _ _ _ _ _ _ _ _ _ _ _ fu en vl st 2 0 (HZ.out.ext HEX1.out)).mono ?_)
  rintro x w5 ⟨⟨rfl, hmz⟩, ho⟩
  have HMZ := LH hmz
  have HON := LH ((only_x (b := mb) HEX1.out).tr ho)
  clear hmz ho
  go_wp2
  exact bodyPost_ret (v := .tuple #[]) (by simp [results, Tryz.results29, go_sem]) rfl ⟨⟨rfl, _, _, _, _, _, _, _, _, _, _, _, _, _, _, _, HMZ.out⟩, HON.out⟩
set_option maxHeartbeats 8000000 in
theorem rcvStuck5a_any (P : Pg) (w0 w : World) (bad : Nat -> Prop) (mb bk : Nat) (vd vf ov t0 t1 t2 t3 t4 t5 ev : Value) (fu en vl st : Int) (kv n ty : Int) (A1 A2 : Option Addr) (n1 n2 m1 m2 : Nat) (pv : Option Addr) (hC : CR P w0 w bad mb vd vf) (hz : MZ w mb vd vf fu en vl ov st (.bool false) t0 t1 t2 t3 t4 t5 ev (.int .i64 kv) (.int .i64 n) (.int .i64 ty) (.slice A1 n1 m1) (.slice A2 n2 m2) (.pointer pv) (.pointer (some ⟨bk, 0, none⟩)) (.bool false)) (hk : w.cell? ⟨bk, 0, none⟩ = some (.int .i64 5)) (hkv : (kv != 1) = true) :
    Calls Tryz.prog 29 #[.pointer (some ⟨mb, 0, none⟩)] w fun x w' => (x = .returned (.tuple #[]) /\ MA w' mb vd vf fu 2 0 ov st (.bool true)) /\ Only (fun b => b = mb) w w' := by
  have HC := LH hC
  have HZ := LH hz
  have HMA : Hid (MA w mb vd vf fu en vl ov st (.bool false)) := ⟨_, _, _, _, _, _, _, _, _, _, _, _, _, _, _, hz⟩
  have HNW : Hid (w.heap.size ≠ mb) := by show _ ≠ _; have := hC.nb _ hC.tu; omega
  have HKC := LH hk
  clear hk
  have HEX := LH (Ext.al w (.cells #[.int .i64 kv, .int .i64 n, .int .i64 ty, .slice A1 n1 m1, .slice A2 n2 m2, .pointer pv] 63))
  have HBX := LH (hNw w (.cells #[.int .i64 kv, .int .i64 n, .int .i64 ty, .slice A1 n1 m1, .slice A2 n2 m2, .pointer pv] 63))
  have m15 := cA hz 15
  have m16 := cA hz 16
  have m17 := cA hz 17
  have m18 := cA hz 18
  have m19 := cA hz 19
  have m20 := cA hz 20
  have m21 := cA hz 21
  have hlt := hLt hz
  clear hC hz
  go_enter Tryz.func29, Tryz.ntmps29
  go_wp2
  go_region
  have HEX1 : Hid (Ext w (w.alloc (.cells #[.int .i64 kv, .int .i64 n, .int .i64 ty, .slice A1 n1 m1, .slice A2 n2 m2, .pointer pv] 63)).drew) := HEX.out.drew
  have HBX1 : Hid ((w.alloc (.cells #[.int .i64 kv, .int .i64 n, .int .i64 ty, .slice A1 n1 m1, .slice A2 n2 m2, .pointer pv] 63)).drew.heap[w.heap.size]? = some (.cells #[.int .i64 kv, .int .i64 n, .int .i64 ty, .slice A1 n1 m1, .slice A2 n2 m2, .pointer pv] 63 (0, 0))) := HBX.out
  clear HEX HBX m15 m16 m17 m18 m19 m20 m21
  generalize (w.alloc _).drew = w1 at *
  obtain ⟨b0, b1, b2, b3, b4, b5⟩ := cells6 HBX1.out
  have lbx := hLt HBX1.out
  have k0 := HEX1.out.keep HKC.out
  go_upto_region 5 with fail
  go_region
  have HEX1 : Hid (Ext w w1.drew) := HEX1.out.drew
  generalize w1.drew = w1 at *
  go_wp2_with fail
  (with_reducible refine (end_any w1 mb vd vf ov _ _ _ _ _ _ _ _ _ _ _ _ _ _ _ _ fu en vl st 2 0 (HZ.out.ext HEX1.out)).mono ?_)
  rintro x w5 ⟨⟨rfl, hmz⟩, ho⟩
  have HMZ := LH hmz
  have HON := LH ((only_x (b := mb) HEX1.out).tr ho)
  clear hmz ho
  go_wp2
  exact bodyPost_ret (v := .tuple #[]) (by simp [results, Tryz.results29, go_sem]) rfl ⟨⟨rfl, _, _, _, _, _, _, _, _, _, _, _, _, _, _, _, HMZ.out⟩, HON.out⟩
set_option maxHeartbeats 8000000 in
theorem rcvStuck5b_any (P : Pg) (w0 w : World) (bad : Nat -> Prop) (mb bk : Nat) (vd vf ov t0 t1 t2 t3 t4 t5 ev : Value) (fu en vl st : Int) (n ty tty : Int) (A1 A2 : Option Addr) (n1 n2 m1 m2 : Nat) (pv : Option Addr) (hC : CR P w0 w bad mb vd vf) (hz : MZ w mb vd vf fu en vl ov st (.bool false) t0 t1 t2 t3 t4 t5 ev (.int .i64 1) (.int .i64 n) (.int .i64 ty) (.slice A1 n1 m1) (.slice A2 n2 m2) (.pointer pv) (.pointer (some ⟨bk, 0, none⟩)) (.bool false)) (hk : w.cell? ⟨bk, 0, none⟩ = some (.int .i64 5)) (hk4 : w.cell? ⟨bk, 4, none⟩ = some (.int .i64 tty)) (hkv : (ty != tty) = true) :
    Calls Tryz.prog 29 #[.pointer (some ⟨mb, 0, none⟩)] w fun x w' => (x = .returned (.tuple #[]) /\ MA w' mb vd vf fu 2 0 ov st (.bool true)) /\ Only (fun b => b = mb) w w' := by
  have HC := LH hC
  have HZ := LH hz
  have HMA : Hid (MA w mb vd vf fu en vl ov st (.bool false)) := ⟨_, _, _, _, _, _, _, _, _, _, _, _, _, _, _, hz⟩
  have HNW : Hid (w.heap.size ≠ mb) := by show _ ≠ _; have := hC.nb _ hC.tu; omega
  have HKC := LH hk
  have HKD := LH hk4
  clear hk hk4
  have HEX := LH (Ext.al w (.cells #[.int .i64 1, .int .i64 n, .int .i64 ty, .slice A1 n1 m1, .slice A2 n2 m2, .pointer pv] 63))
  have HBX := LH (hNw w (.cells #[.int .i64 1, .int .i64 n, .int .i64 ty, .slice A1 n1 m1, .slice A2 n2 m2, .pointer pv] 63))
  have m15 := cA hz 15
  have m16 := cA hz 16
  have m17 := cA hz 17
  have m18 := cA hz 18
  have m19 := cA hz 19
  have m20 := cA hz 20
  have m21 := cA hz 21
  have hlt := hLt hz
  clear hC hz
  go_enter Tryz.func29, Tryz.ntmps29
  go_wp2
  go_region
  have HEX1 : Hid (Ext w (w.alloc (.cells #[.int .i64 1, .int .i64 n, .int .i64 ty, .slice A1 n1 m1, .slice A2 n2 m2, .pointer pv] 63)).drew) := HEX.out.drew
  have HBX1 : Hid ((w.alloc (.cells #[.int .i64 1, .int .i64 n, .int .i64 ty, .slice A1 n1 m1, .slice A2 n2 m2, .pointer pv] 63)).drew.heap[w.heap.size]? = some (.cells #[.int .i64 1, .int .i64 n, .int .i64 ty, .slice A1 n1 m1, .slice A2 n2 m2, .pointer pv] 63 (0, 0))) := HBX.out
  clear HEX HBX m15 m16 m17 m18 m19 m20 m21
  generalize (w.alloc _).drew = w1 at *
  obtain ⟨b0, b1, b2, b3, b4, b5⟩ := cells6 HBX1.out
  have lbx := hLt HBX1.out
  have k0 := HEX1.out.keep HKC.out
  have k4 := HEX1.out.keep HKD.out
  go_upto_region 5 with fail
  go_region
  have HEX1 : Hid (Ext w w1.drew) := HEX1.out.drew
  generalize w1.drew = w1 at *
  go_wp2_with fail
  (with_reducible refine (end_any w1 mb vd vf ov _ _ _ _ _ _ _ _ _ _ _ _ _ _ _ _ fu en vl st 2 0 (HZ.out.ext HEX1.out)).mono ?_)
  rintro x w5 ⟨⟨rfl, hmz⟩, ho⟩
  have HMZ := LH hmz
  have HON := LH ((only_x (b := mb) HEX1.out).tr ho)
  clear hmz ho
  go_wp2
  exact bodyPost_ret (v := .tuple #[]) (by simp [results, Tryz.results29, go_sem]) rfl ⟨⟨rfl, _, _, _, _, _, _, _, _, _, _, _, _, _, _, _, HMZ.out⟩, HON.out⟩
set_option maxHeartbeats 8000000 in
theorem rcvStuck6a_any (P : Pg) (w0 w : World) (bad : Nat -> Prop) (mb bk : Nat) (vd vf ov t0 t1 t2 t3 t4 t5 ev : Value) (fu en vl st : Int) (kv n ty : Int) (A1 A2 : Option Addr) (n1 n2 m1 m2 : Nat) (pv : Option Addr) (hC : CR P w0 w bad mb vd vf) (hz : MZ w mb vd vf fu en vl ov st (.bool false) t0 t1 t2 t3 t4 t5 ev (.int .i64 kv) (.int .i64 n) (.int .i64 ty) (.slice A1 n1 m1) (.slice A2 n2 m2) (.pointer pv) (.pointer (some ⟨bk, 0, none⟩)) (.bool false)) (hk : w.cell? ⟨bk, 0, none⟩ = some (.int .i64 6)) (hkv : (kv != 2) = true) :
    Calls Tryz.prog 29 #[.pointer (some ⟨mb, 0, none⟩)] w fun x w' => (x = .returned (.tuple #[]) /\ MA w' mb vd vf fu 2 0 ov st (.bool true)) /\ Only (fun b => b = mb) w w' := by
  have HC := LH hC
  have HZ := LH hz
  have HMA : Hid (MA w mb vd vf fu en vl ov st (.bool false)) := ⟨_, _, _, _, _, _, _, _, _, _, _, _, _, _, _, hz⟩
  have HNW : Hid (w.heap.size ≠ mb) := by show _ ≠ _; have := hC.nb _ hC.tu; omega
  have HKC := LH hk
  clear hk
  have HEX := LH (Ext.al w (.cells #[.int .i64 kv, .int .i64 n, .int .i64 ty, .slice A1 n1 m1, .slice A2 n2 m2, .pointer pv] 63))
  have HBX := LH (hNw w (.cells #[.int .i64 kv, .int .i64 n, .int .i64 ty, .slice A1 n1 m1, .slice A2 n2 m2, .pointer pv] 63))
  have m15 := cA hz 15
  have m16 := cA hz 16
  have m17 := cA hz 17
  have m18 := cA hz 18
  have m19 := cA hz 19
  have m20 := cA hz 20
  have m21 := cA hz 21
  have hlt := hLt hz
  clear hC hz
  go_enter Tryz.func29, Tryz.ntmps29
  go_wp2
  go_region
  have HEX1 : Hid (Ext w (w.alloc (.cells #[.int .i64 kv, .int .i64 n, .int .i64 ty, .slice A1 n1 m1, .slice A2 n2 m2, .pointer pv] 63)).drew) := HEX.out.drew
  have HBX1 : Hid ((w.alloc (.cells #[.int .i64 kv, .int .i64 n, .int .i64 ty, .slice A1 n1 m1, .slice A2 n2 m2, .pointer pv] 63)).drew.heap[w.heap.size]? = some (.cells #[.int .i64 kv, .int .i64 n, .int .i64 ty, .slice A1 n1 m1, .slice A2 n2 m2, .pointer pv] 63 (0, 0))) := HBX.out
  clear HEX HBX m15 m16 m17 m18 m19 m20 m21
  generalize (w.alloc _).drew = w1 at *
  obtain ⟨b0, b1, b2, b3, b4, b5⟩ := cells6 HBX1.out
  have lbx := hLt HBX1.out
  have k0 := HEX1.out.keep HKC.out
  go_upto_region 10 with fail
  go_region
  have HEX1 : Hid (Ext w w1.drew) := HEX1.out.drew
  generalize w1.drew = w1 at *
  go_wp2_with fail
  (with_reducible refine (end_any w1 mb vd vf ov _ _ _ _ _ _ _ _ _ _ _ _ _ _ _ _ fu en vl st 2 0 (HZ.out.ext HEX1.out)).mono ?_)
  rintro x w5 ⟨⟨rfl, hmz⟩, ho⟩
  have HMZ := LH hmz
  have HON := LH ((only_x (b := mb) HEX1.out).tr ho)
  clear hmz ho
  go_wp2
  exact bodyPost_ret (v := .tuple #[]) (by simp [results, Tryz.results29, go_sem]) rfl ⟨⟨rfl, _, _, _, _, _, _, _, _, _, _, _, _, _, _, _, HMZ.out⟩, HON.out⟩
set_option maxHeartbeats 8000000 in
theorem rcvStuck6b_any (P : Pg) (w0 w : World) (bad : Nat -> Prop) (mb bk : Nat) (vd vf ov t0 t1 t2 t3 t4 t5 ev : Value) (fu en vl st : Int) (n ty tty : Int) (A1 A2 : Option Addr) (n1 n2 m1 m2 : Nat) (pv : Option Addr) (hC : CR P w0 w bad mb vd vf) (hz : MZ w mb vd vf fu en vl ov st (.bool false) t0 t1 t2 t3 t4 t5 ev (.int .i64 2) (.int .i64 n) (.int .i64 ty) (.slice A1 n1 m1) (.slice A2 n2 m2) (.pointer pv) (.pointer (some ⟨bk, 0, none⟩)) (.bool false)) (hk : w.cell? ⟨bk, 0, none⟩ = some (.int .i64 6)) (hk4 : w.cell? ⟨bk, 4, none⟩ = some (.int .i64 tty)) (hkv : (ty != tty) = true) :
    Calls Tryz.prog 29 #[.pointer (some ⟨mb, 0, none⟩)] w fun x w' => (x = .returned (.tuple #[]) /\ MA w' mb vd vf fu 2 0 ov st (.bool true)) /\ Only (fun b => b = mb) w w' := by
  have HC := LH hC
  have HZ := LH hz
  have HMA : Hid (MA w mb vd vf fu en vl ov st (.bool false)) := ⟨_, _, _, _, _, _, _, _, _, _, _, _, _, _, _, hz⟩
  have HNW : Hid (w.heap.size ≠ mb) := by show _ ≠ _; have := hC.nb _ hC.tu; omega
  have HKC := LH hk
  have HKD := LH hk4
  clear hk hk4
  have HEX := LH (Ext.al w (.cells #[.int .i64 2, .int .i64 n, .int .i64 ty, .slice A1 n1 m1, .slice A2 n2 m2, .pointer pv] 63))
  have HBX := LH (hNw w (.cells #[.int .i64 2, .int .i64 n, .int .i64 ty, .slice A1 n1 m1, .slice A2 n2 m2, .pointer pv] 63))
  have m15 := cA hz 15
  have m16 := cA hz 16
  have m17 := cA hz 17
  have m18 := cA hz 18
  have m19 := cA hz 19
  have m20 := cA hz 20
  have m21 := cA hz 21
  have hlt := hLt hz
  clear hC hz
  go_enter Tryz.func29, Tryz.ntmps29
  go_wp2
  go_region
  have HEX1 : Hid (Ext w (w.alloc (.cells #[.int .i64 2, .int .i64 n, .int .i64 ty, .slice A1 n1 m1, .slice A2 n2 m2, .pointer pv] 63)).drew) := HEX.out.drew
  have HBX1 : Hid ((w.alloc (.cells #[.int .i64 2, .int .i64 n, .int .i64 ty, .slice A1 n1 m1, .slice A2 n2 m2, .pointer pv] 63)).drew.heap[w.heap.size]? = some (.cells #[.int .i64 2, .int .i64 n, .int .i64 ty, .slice A1 n1 m1, .slice A2 n2 m2, .pointer pv] 63 (0, 0))) := HBX.out
  clear HEX HBX m15 m16 m17 m18 m19 m20 m21
  generalize (w.alloc _).drew = w1 at *
  obtain ⟨b0, b1, b2, b3, b4, b5⟩ := cells6 HBX1.out
  have lbx := hLt HBX1.out
  have k0 := HEX1.out.keep HKC.out
  have k4 := HEX1.out.keep HKD.out
  go_upto_region 10 with fail
  go_region
  have HEX1 : Hid (Ext w w1.drew) := HEX1.out.drew
  generalize w1.drew = w1 at *
  go_wp2_with fail
  (with_reducible refine (end_any w1 mb vd vf ov _ _ _ _ _ _ _ _ _ _ _ _ _ _ _ _ fu en vl st 2 0 (HZ.out.ext HEX1.out)).mono ?_)
  rintro x w5 ⟨⟨rfl, hmz⟩, ho⟩
  have HMZ := LH hmz
  have HON := LH ((only_x (b := mb) HEX1.out).tr ho)
  clear hmz ho
  go_wp2
  exact bodyPost_ret (v := .tuple #[]) (by simp [results, Tryz.results29, go_sem]) rfl ⟨⟨rfl, _, _, _, _, _, _, _, _, _, _, _, _, _, _, _, HMZ.out⟩, HON.out⟩
end Go.Proofs.YtkdglplfcpindaaGreatDoor

namespace Go.Proofs.YtkdglplfcpindaaGreatDoor
open Go.RowKit
set_option maxHeartbeats 8000000 in
theorem rcvZero1_any (P : Pg) (w0 w : World) (bad : Nat -> Prop) (mb bk : Nat) (vd vf ov t0 t1 t2 t3 t4 t5 ev : Value) (fu en vl st : Int) (t : Tm) (e : En) (k : Kt) (va vc ef kf : Value) (n : Int) (hC : CR P w0 w bad mb vd vf) (hz : MZ w mb vd vf fu en vl ov st (.bool false) t0 t1 t2 t3 t4 t5 ev zi (.int .i64 n) zi zs zs zp (.pointer (some ⟨bk, 0, none⟩)) (.bool false)) (hb : w.heap[bk]? = some (.cells (frV 4 t va vc ef zs 0 kf) 75 (0, 0))) (hnb : ¬ bad bk) (ht : RTx w0 t va vc) (he : DR P w0 w bad (.e ef e.vs e.ls)) (hk : DR P w0 w bad (.k kf k)) (hla : t.args.length = 3) (hn : (n == 0) = true) :
    Calls Tryz.prog 29 #[.pointer (some ⟨mb, 0, none⟩)] w fun x w' => (x = .returned (.tuple #[]) /\ RQ P w0 w' bad mb vd vf fu en vl ov st (.ev (t.args.getD 1 noTm) e k)) /\ Only (fun b => b = mb) w w' := by
  have HC := LH hC
  have HZ := LH hz
  have HMA : Hid (MA w mb vd vf fu en vl ov st (.bool false)) := ⟨_, _, _, _, _, _, _, _, _, _, _, _, _, _, _, hz⟩
  have HT := LH ht
  have HK := LH hk
  have HNK : Hid (bk ≠ mb) := by show bk ≠ mb; exact fun e => hnb (e ▸ hC.tu)
  obtain ⟨bk', rfl⟩ := hk.k_form
  have HE := LH he
  obtain ⟨pe, rfl⟩ := he.e_form
  obtain ⟨A', c', e1, hc1, hc2, hs⟩ := ht.args
  obtain ⟨ba, oa, xa, xc, e2, hbl, hx6, hxt⟩ := hs 1 (t.args.getD 1 noTm) (by rw [List.getD_eq_getElem?_getD, List.getElem?_eq_getElem (by omega)]; rfl)
  have hx6 := hx6.below hC.ext
  subst e1
  subst e2
  obtain ⟨⟨Ax, cx, rfl, -, -⟩, ⟨Ay, cy, rfl, -, -⟩⟩ := hxt.form
  have HX6 := LH hx6
  have HXT := LH hxt
  have HNB : Hid (ba ≠ mb) := by show _ ≠ _; have := hC.lo; omega
  generalize t.args.getD 1 noTm = y at *
  rw [hla] at hb HT
  unfold maxLen at hc2
  clear hs hx6 hxt hla
  obtain ⟨-, ⟨Ab, cb, rfl, -, -⟩⟩ := ht.form
  have HBK := LH hb
  have lbk0 := hLt hb
  have HNW : Hid (w.heap.size ≠ mb) := by show _ ≠ _; have := hC.nb _ hC.tu; omega
  have HEX := LH (Ext.al w (.cells #[zi, .int .i64 n, zi, zs, zs, zp] 63))
  have HBX := LH (hNw w (.cells #[zi, .int .i64 n, zi, zs, zs, zp] 63))
  have m15 := cA hz 15
  have m16 := cA hz 16
  have m17 := cA hz 17
  have m18 := cA hz 18
  have m19 := cA hz 19
  have m20 := cA hz 20
  have m21 := cA hz 21
  have hlt := hLt hz
  clear hC hz hb ht hk he hnb
  go_enter Tryz.func29, Tryz.ntmps29
  go_wp2
  go_region
  have HEX1 : Hid (Ext w (w.alloc (.cells #[zi, .int .i64 n, zi, zs, zs, zp] 63)).drew) := HEX.out.drew
  have HBX1 : Hid ((w.alloc (.cells #[zi, .int .i64 n, zi, zs, zs, zp] 63)).drew.heap[w.heap.size]? = some (.cells #[zi, .int .i64 n, zi, zs, zs, zp] 63 (0, 0))) := HBX.out
  clear HEX HBX m15 m16 m17 m18 m19 m20 m21
  generalize (w.alloc _).drew = w1 at *
  obtain ⟨b0, b1, b2, b3, b4, b5⟩ := cells6 HBX1.out
  have lbx := hLt HBX1.out
  have HBK1 := LH ((HEX1.out.block _ (hLt HBK.out)).trans HBK.out)
  have f0 := cA HBK1.out 0
  have f1 := cA HBK1.out 1
  have f2 := cA HBK1.out 2
  have f3 := cA HBK1.out 3
  have f4 := cA HBK1.out 4
  have f5 := cA HBK1.out 5
  have f6 := cA HBK1.out 6
  have f7 := cA HBK1.out 7
  have f8 := cA HBK1.out 8
  have f9 := cA HBK1.out 9
  have f10 := cA HBK1.out 10
  have lbk := hLt HBK1.out
  obtain ⟨y0, y1, y2, y3, y4, y5⟩ := HX6.out.below HEX1.out
  simp only [Nat.one_mul, Nat.reduceMul] at y0 y1 y2 y3 y4 y5
  go_upto_region 25 with fail
  go_still_tail 16, (by kernel_rfl)
  have HEX2 : Hid (Ext w w1.drew) := HEX1.out.tr (Ext.rf w1).drew
  go_wp2_with fail
  (with_reducible refine (evalQ P w0 _ bad mb vd vf ov fu en vl st y e k _ _ _ _ (HC.out.ext' HEX2.out) (HMA.out.ext' HEX2.out) HXT.out (HE.out.ext HEX2.out) (HK.out.ext HEX2.out)).mono ?_)
  rintro x w5 ⟨⟨rfl, hrq⟩, ho⟩
  have HRQ := LH hrq
  have HON := LH ((only_x (b := mb) HEX2.out).tr ho)
  clear hrq ho
  go_wp2
  go_end0
  exact ⟨⟨rfl, HRQ.out⟩, HON.out⟩
set_option maxHeartbeats 8000000 in
theorem rcvZero2_any (P : Pg) (w0 w : World) (bad : Nat -> Prop) (mb bk : Nat) (vd vf ov t0 t1 t2 t3 t4 t5 ev : Value) (fu en vl st : Int) (t : Tm) (e : En) (k : Kt) (va vc ef kf : Value) (n : Int) (hC : CR P w0 w bad mb vd vf) (hz : MZ w mb vd vf fu en vl ov st (.bool false) t0 t1 t2 t3 t4 t5 ev zi (.int .i64 n) zi zs zs zp (.pointer (some ⟨bk, 0, none⟩)) (.bool false)) (hb : w.heap[bk]? = some (.cells (frV 4 t va vc ef zs 0 kf) 75 (0, 0))) (hnb : ¬ bad bk) (ht : RTx w0 t va vc) (he : DR P w0 w bad (.e ef e.vs e.ls)) (hk : DR P w0 w bad (.k kf k)) (hla : t.args.length = 3) (hn : (n == 0) = false) :
    Calls Tryz.prog 29 #[.pointer (some ⟨mb, 0, none⟩)] w fun x w' => (x = .returned (.tuple #[]) /\ RQ P w0 w' bad mb vd vf fu en vl ov st (.ev (t.args.getD 2 noTm) e k)) /\ Only (fun b => b = mb) w w' := by
  have HC := LH hC
  have HZ := LH hz
  have HMA : Hid (MA w mb vd vf fu en vl ov st (.bool false)) := ⟨_, _, _, _, _, _, _, _, _, _, _, _, _, _, _, hz⟩
  have HT := LH ht
  have HK := LH hk
  have HNK : Hid (bk ≠ mb) := by show bk ≠ mb; exact fun e => hnb (e ▸ hC.tu)
  obtain ⟨bk', rfl⟩ := hk.k_form
  have HE := LH he
  obtain ⟨pe, rfl⟩ := he.e_form
  obtain ⟨A', c', e1, hc1, hc2, hs⟩ := ht.args
  obtain ⟨ba, oa, xa, xc, e2, hbl, hx6, hxt⟩ := hs 2 (t.args.getD 2 noTm) (by rw [List.getD_eq_getElem?_getD, List.getElem?_eq_getElem (by omega)]; rfl)
  have hx6 := hx6.below hC.ext
  subst e1
  subst e2
  obtain ⟨⟨Ax, cx, rfl, -, -⟩, ⟨Ay, cy, rfl, -, -⟩⟩ := hxt.form
  have HX6 := LH hx6
  have HXT := LH hxt
  have HNB : Hid (ba ≠ mb) := by show _ ≠ _; have := hC.lo; omega
  generalize t.args.getD 2 noTm = y at *
  rw [hla] at hb HT
  unfold maxLen at hc2
  clear hs hx6 hxt hla
  obtain ⟨-, ⟨Ab, cb, rfl, -, -⟩⟩ := ht.form
  have HBK := LH hb
  have lbk0 := hLt hb
  have HNW : Hid (w.heap.size ≠ mb) := by show _ ≠ _; have := hC.nb _ hC.tu; omega
  have HEX := LH (Ext.al w (.cells #[zi, .int .i64 n, zi, zs, zs, zp] 63))
  have HBX := LH (hNw w (.cells #[zi, .int .i64 n, zi, zs, zs, zp] 63))
  have m15 := cA hz 15
  have m16 := cA hz 16
  have m17 := cA hz 17
  have m18 := cA hz 18
  have m19 := cA hz 19
  have m20 := cA hz 20
  have m21 := cA hz 21
  have hlt := hLt hz
  clear hC hz hb ht hk he hnb
  go_enter Tryz.func29, Tryz.ntmps29
  go_wp2
  go_region
  have HEX1 : Hid (Ext w (w.alloc (.cells #[zi, .int .i64 n, zi, zs, zs, zp] 63)).drew) := HEX.out.drew
  have HBX1 : Hid ((w.alloc (.cells #[zi, .int .i64 n, zi, zs, zs, zp] 63)).drew.heap[w.heap.size]? = some (.cells #[zi, .int .i64 n, zi, zs, zs, zp] 63 (0, 0))) := HBX.out
  clear HEX HBX m15 m16 m17 m18 m19 m20 m21
  generalize (w.alloc _).drew = w1 at *
  obtain ⟨b0, b1, b2, b3, b4, b5⟩ := cells6 HBX1.out
  have lbx := hLt HBX1.out
  have HBK1 := LH ((HEX1.out.block _ (hLt HBK.out)).trans HBK.out)
  have f0 := cA HBK1.out 0
  have f1 := cA HBK1.out 1
  have f2 := cA HBK1.out 2
  have f3 := cA HBK1.out 3
  have f4 := cA HBK1.out 4
  have f5 := cA HBK1.out 5
  have f6 := cA HBK1.out 6
  have f7 := cA HBK1.out 7
  have f8 := cA HBK1.out 8
  have f9 := cA HBK1.out 9
  have f10 := cA HBK1.out 10
  have lbk := hLt HBK1.out
  obtain ⟨y0, y1, y2, y3, y4, y5⟩ := HX6.out.below HEX1.out
  simp only [Nat.one_mul, Nat.reduceMul] at y0 y1 y2 y3 y4 y5
  go_upto_region 26 with fail
  go_still_tail 16, (by kernel_rfl)
  have HEX2 : Hid (Ext w w1.drew) := HEX1.out.tr (Ext.rf w1).drew
  go_wp2_with fail
  (with_reducible refine (evalQ P w0 _ bad mb vd vf ov fu en vl st y e k _ _ _ _ (HC.out.ext' HEX2.out) (HMA.out.ext' HEX2.out) HXT.out (HE.out.ext HEX2.out) (HK.out.ext HEX2.out)).mono ?_)
  rintro x w5 ⟨⟨rfl, hrq⟩, ho⟩
  have HRQ := LH hrq
  have HON := LH ((only_x (b := mb) HEX2.out).tr ho)
  clear hrq ho
  go_wp2
  go_end0
  exact ⟨⟨rfl, HRQ.out⟩, HON.out⟩
end Go.Proofs.YtkdglplfcpindaaGreatDoor

namespace Go.Proofs.YtkdglplfcpindaaGreatDoor
open Go.RowKit
set_option maxHeartbeats 8000000 in
theorem rcvRight_any (P : Pg) (w0 w : World) (bad : Nat -> Prop) (mb bk : Nat) (vd vf ov t0 t1 t2 t3 t4 t5 ev : Value) (fu en vl st : Int) (t : Tm) (e : En) (k : Kt) (va vc kf : Value) (a n : Int) (hC : CR P w0 w bad mb vd vf) (hz : MZ w mb vd vf fu en vl ov st (.bool false) t0 t1 t2 t3 t4 t5 ev zi (.int .i64 n) zi zs zs zp (.pointer (some ⟨bk, 0, none⟩)) (.bool false)) (hb : w.heap[bk]? = some (.cells (frV 3 t va vc zp zs a kf) 75 (0, 0))) (hnb : ¬ bad bk) (ht : RTx w0 t va vc) (hk : DR P w0 w bad (.k kf k)) (ha : ok64 a) (hn : ok64 n) (hop : 0 <= t.n /\ t.n <= 6) :
    Calls Tryz.prog 29 #[.pointer (some ⟨mb, 0, none⟩)] w fun x w' => (x = .returned (.tuple #[]) /\ RQ P w0 w' bad mb vd vf fu en vl ov st (.pass (.int (primR t.n a n)) k)) /\ Only (fun b => b = mb) w w' := by
  have HC := LH hC
  have HZ := LH hz
  have HMA : Hid (MA w mb vd vf fu en vl ov st (.bool false)) := ⟨_, _, _, _, _, _, _, _, _, _, _, _, _, _, _, hz⟩
  have HA := LH ha
  have HOP := LH hop
  have HPR := LH (primR_ok t.n a n hop)
  clear ha hn hop
  have HT := LH ht
  have HK := LH hk
  have HNK : Hid (bk ≠ mb) := by show bk ≠ mb; exact fun e => hnb (e ▸ hC.tu)
  obtain ⟨bk', rfl⟩ := hk.k_form
  obtain ⟨⟨Aa, ca, rfl, -, -⟩, ⟨Ab, cb, rfl, -, -⟩⟩ := ht.form
  have HBK := LH hb
  have lbk0 := hLt hb
  have HNW : Hid (w.heap.size ≠ mb) := by show _ ≠ _; have := hC.nb _ hC.tu; omega
  have HEX := LH (Ext.al w (.cells #[zi, .int .i64 n, zi, zs, zs, zp] 63))
  have HBX := LH (hNw w (.cells #[zi, .int .i64 n, zi, zs, zs, zp] 63))
  have m15 := cA hz 15
  have m16 := cA hz 16
  have m17 := cA hz 17
  have m18 := cA hz 18
  have m19 := cA hz 19
  have m20 := cA hz 20
  have m21 := cA hz 21
  have hlt := hLt hz
  clear hC hz hb ht hk hnb
  go_enter Tryz.func29, Tryz.ntmps29
  go_wp2
  go_region
  have HEX1 : Hid (Ext w (w.alloc (.cells #[zi, .int .i64 n, zi, zs, zs, zp] 63)).drew) := HEX.out.drew
  have HBX1 : Hid ((w.alloc (.cells #[zi, .int .i64 n, zi, zs, zs, zp] 63)).drew.heap[w.heap.size]? = some (.cells #[zi, .int .i64 n, zi, zs, zs, zp] 63 (0, 0))) := HBX.out
  clear HEX HBX m15 m16 m17 m18 m19 m20 m21
  generalize (w.alloc _).drew = w1 at *
  obtain ⟨b0, b1, b2, b3, b4, b5⟩ := cells6 HBX1.out
  have lbx := hLt HBX1.out
  have HBK1 := LH ((HEX1.out.block _ (hLt HBK.out)).trans HBK.out)
  have f0 := cA HBK1.out 0
  have f1 := cA HBK1.out 1
  have f2 := cA HBK1.out 2
  have f3 := cA HBK1.out 3
  have f4 := cA HBK1.out 4
  have f5 := cA HBK1.out 5
  have f6 := cA HBK1.out 6
  have f7 := cA HBK1.out 7
  have f8 := cA HBK1.out 8
  have f9 := cA HBK1.out 9
  have f10 := cA HBK1.out 10
  have lbk := hLt HBK1.out
  have HEX2 : Hid (Ext w w1.drew) := HEX1.out.tr (Ext.rf w1).drew
  have HV : Hid (DR P w0 w1.drew bad (.v #[zi, .int .i64 (primR t.n a n), zi, zs, zs, zp] (.int (primR t.n a n)))) := .int _ HPR.out
  have HPC := LH (fun W => primRef_any t.n a n W HOP.out HA.out)
  have HSR : Hid (∀ W : World, Ext w1 W -> W.cell? ⟨bk, 2, none⟩ = some (.int .i64 t.n) /\ W.cell? ⟨bk, 9, none⟩ = some (.int .i64 a) /\ W.cell? ⟨bk, 10, none⟩ = some (.pointer (some ⟨bk', 0, none⟩)) /\ W.cell? ⟨w.heap.size, 1, none⟩ = some (.int .i64 n)) := fun W hW => ⟨hW.keep f2, hW.keep f9, hW.keep f10, hW.keep b1⟩
  go_upto_region 22 with fail
  clear f0 f1 f3 f4 f5 f6 f7 f8 b0 b2 b3 b4 b5
  go_region_held3 (fun w' => w'.cell? ⟨bk, 2, none⟩ = some (.int .i64 t.n) /\ w'.cell? ⟨bk, 9, none⟩ = some (.int .i64 a) /\ w'.cell? ⟨bk, 10, none⟩ = some (.pointer (some ⟨bk', 0, none⟩)) /\ w'.cell? ⟨w.heap.size, 1, none⟩ = some (.int .i64 n))
    (first | exact HCD.out | exact HSR.out _ (Ext.rf _).drew | go_keep)
    ((first
    | (go_at_call 56; (with_reducible refine (HPC.out _).mono ?_); rintro x w4 ⟨rfl, rfl⟩)
    | (go_at_call 55; (with_reducible refine (passQ P w0 _ bad mb vd vf ov fu en vl st _ k _ _ (HC.out.ext' HEX2.out) (HMA.out.ext' HEX2.out) HV.out (HK.out.ext HEX2.out)).mono ?_); rintro x w5 ⟨⟨rfl, hrq⟩, ho⟩; have HRQ := LH hrq; have hs := HSR.out _ (Ext.rf w1).drew; have HCD : Hid (w5.cell? ⟨bk, 2, none⟩ = some (.int .i64 t.n) /\ w5.cell? ⟨bk, 9, none⟩ = some (.int .i64 a) /\ w5.cell? ⟨bk, 10, none⟩ = some (.pointer (some ⟨bk', 0, none⟩)) /\ w5.cell? ⟨w.heap.size, 1, none⟩ = some (.int .i64 n)) := ⟨oC ho HNK.out hs.1, oC ho HNK.out hs.2.1, oC ho HNK.out hs.2.2.1, oC ho HNW.out hs.2.2.2⟩; have HON := LH ((only_x (b := mb) HEX2.out).tr ho); clear hrq ho hs)))
  all_goals
    go_wp2
    go_end0
    exact ⟨⟨rfl, HRQ.out⟩, HON.out⟩
end Go.Proofs.YtkdglplfcpindaaGreatDoor
