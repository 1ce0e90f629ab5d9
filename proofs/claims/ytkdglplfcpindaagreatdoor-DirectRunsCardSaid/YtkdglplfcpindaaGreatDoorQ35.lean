import Derived.Test.YtkdglplfcpindaaGreatDoorQ34
set_option maxRecDepth 100000
namespace Go.Proofs.YtkdglplfcpindaaGreatDoor
open Go.RowKit
inductive Fst (w : World) (s : Str) : Value -> Nat -> Prop where
  | here (b : Nat) (arr : Array Value) (s' : Str) (h : w.heap[b]? = some (.cells arr 120 (0, 0))) (h0 : arr[0]? = some (.bool true)) (h1 : arr[1]? = some (.string s')) (he : (s'.toList == s.toList) = true) : Fst w s (.pointer (some ⟨b, 0, none⟩)) b
  | skip (b c : Nat) (arr : Array Value) (p : Value) (h : w.heap[b]? = some (.cells arr 120 (0, 0))) (h17 : arr[17]? = some p) (hn : ∀ s', arr[0]? = some (.bool true) -> arr[1]? = some (.string s') -> (s'.toList == s.toList) = false) (r : Fst w s p c) : Fst w s (.pointer (some ⟨b, 0, none⟩)) c
theorem Fst.at_here {w : World} {s : Str} {b c : Nat} {arr : Array Value} (h : Fst w s (.pointer (some ⟨b, 0, none⟩)) c) (hb : w.heap[b]? = some (.cells arr 120 (0, 0))) {s' : Str} (h0 : arr[0]? = some (.bool true)) (h1 : arr[1]? = some (.string s')) (he : (s'.toList == s.toList) = true) : b = c := by
  cases h with
  | here _ _ _ _ _ _ _ => rfl
  | skip _ _ arr2 p h h17 hn r =>
    rw [hb] at h
    have e : arr = arr2 := by injection h with h; injection h
    subst e
    have := hn s' h0 h1
    rw [he] at this; cases this
theorem Fst.at_skip {w : World} {s : Str} {b c : Nat} {arr : Array Value} {p : Value} (h : Fst w s (.pointer (some ⟨b, 0, none⟩)) c) (hb : w.heap[b]? = some (.cells arr 120 (0, 0))) (h17 : arr[17]? = some p) (hn : ∀ s', arr[0]? = some (.bool true) -> arr[1]? = some (.string s') -> (s'.toList == s.toList) = false) : Fst w s p c := by
  cases h with
  | here _ arr2 s2 h h0 h1 he =>
    rw [hb] at h
    have e : arr = arr2 := by injection h with h; injection h
    subst e
    have := hn s2 h0 h1
    rw [he] at this; cases this
  | skip _ _ arr2 p2 h h17' hn' r =>
    rw [hb] at h
    have e : arr = arr2 := by injection h with h; injection h
    subst e
    rw [h17] at h17'
    obtain rfl := Option.some.inj h17'
    exact r
theorem Fst.ex {P : Pg} {w0 w : World} {bad : Nat -> Prop} {s : Str} {x : Kt} : ∀ (n : Nat) (r : List (Str × It)) (q : List (Str × Kt)) (v : Value), r.length + q.length <= n -> DR P w0 w bad (.e v r q) -> findA q s = some x →
    ∃ b s' kv u, Fst w s v b /\ ¬ bad b /\ w.heap[b]? = some (.cells #[.bool true, .string s', .bool false, zi, zi, zi, zs, zs, zp, zi, zi, ze, zi, zs, zs, zp, kv, u] 120 (0, 0)) /\ DR P w0 w bad (.k kv x) := by
  intro n
  induction n with
  | zero =>
    intro r q v hn h hf
    have : q = [] := List.eq_nil_of_length_eq_zero (by omega)
    subst this
    simp [findA] at hf
  | succ n ih =>
    intro r q v hn h hf
    cases h with
    | enil => simp [findA] at hf
    | evar b s' a0 a1 a2 a3 a4 a5 a6 a7 a8 a9 a10 a11 a12 a13 p x' vs' _ h0 h1 h2 h3 h4 =>
      obtain ⟨c, s2, kv, u, g1, g2, g3, g4⟩ := ih vs' q p (by simp only [List.length_cons] at hn; omega) h4 hf
      exact ⟨c, s2, kv, u, .skip b c _ p h2 rfl (fun s3 e0 _ => by cases e0) g1, g2, g3, g4⟩
    | elbl b s' kv p k _ ls' h0 h1 h2 h3 h4 =>
      cases hq : (s'.toList == s.toList)
      . have hf' : findA ls' s = some x := by rw [findA, if_neg (by rw [hq]; decide)] at hf; exact hf
        obtain ⟨c, s2, kv2, u, g1, g2, g3, g4⟩ := ih r ls' p (by simp only [List.length_cons] at hn; omega) h4 hf'
        exact ⟨c, s2, kv2, u, .skip b c _ p h2 rfl (fun s3 _ e1 => by cases e1; exact hq) g1, g2, g3, g4⟩
      . rw [findA, if_pos hq] at hf
        obtain rfl := Option.some.inj hf
        exact ⟨b, s', kv, p, .here b _ s' h2 rfl rfl hq, h1, h2, h3⟩
set_option maxHeartbeats 2000000 in
theorem findK_at (P : Pg) (w0 w : World) (bad : Nat -> Prop) (vs : List (Str × It)) (ls : List (Str × Kt)) (v : Value) (s : Str) (x : Kt) (c : Nat) (h : DR P w0 w bad (.e v vs ls)) (hx : findA ls s = some x) (hc : Fst w s v c) :
    Calls Tryz.prog 57 #[v, .bool true, .string s] w fun e w' => e = .returned (.pointer (some ⟨c, 0, none⟩)) /\ w = w' := by
  have H := LH h
  have HX := LH hx
  have HC := LH hc
  obtain ⟨p, rfl⟩ := h.e_form
  clear h hx hc
  go_enter Tryz.func57, Tryz.ntmps57
  go_wp2
  go_loopg [0] (vs.length + ls.length) (fun k b wr => ∃ (r : List (Str × It)) (q : List (Str × Kt)), w = wr /\ r.length + q.length <= k /\ DR P w0 w bad (.e b r q) /\ findA q s = some x /\ Fst w s b c)
  case atStart => exact ⟨vs, ls, rfl, Nat.le_refl _, H.out, HX.out, HC.out⟩
  case round =>
    obtain ⟨r, q, rfl, hk, hb, hr, hcc⟩ := hrel
    have HN := LH hr
    have HCC := LH hcc
    rcases hb.e_cases with ⟨rfl, rfl, rfl⟩ | ⟨b, s', a0, a1, a2, a3, a4, a5, a6, a7, a8, a9, a10, a11, a12, a13, u, y, r, rfl, rfl, -, hblk, -, hrest⟩ | ⟨b, s', kv, u, kt, q, rfl, rfl, -, hblk, hi, hrest⟩
    . exact absurd hr (by simp [findA])
    . have HNX := LH (HCC.out.at_skip hblk rfl (fun s3 e0 _ => by cases e0))
      obtain ⟨g, rfl⟩ := hrest.e_form
      have HRB := LH hrest
      have c0 := cA hblk 0
      have c1 := cA hblk 1
      have c17 := cA hblk 17
      simp only [List.length_cons] at hk
      clear hb hr hblk hrest hcc
      go_wp2
      go_roundg (r.length + q.length)
      case measure => omega
      case rel => exact ⟨r, q, rfl, Nat.le_refl _, HRB.out, HN.out, HNX.out⟩
    . cases hq : (s'.toList == s.toList)
      . have HY : Hid (findA q s = some x) := by show _ = _; have := HN.out; rw [findA, if_neg (by rw [hq]; decide)] at this; exact this
        have HNX := LH (HCC.out.at_skip hblk rfl (fun s3 _ e1 => by cases e1; exact hq))
        obtain ⟨g, rfl⟩ := hrest.e_form
        have HRB := LH hrest
        have c0 := cA hblk 0
        have c1 := cA hblk 1
        have c17 := cA hblk 17
        simp only [List.length_cons] at hk
        clear hb hr hi hblk hrest hcc
        go_wp2
        go_roundg (r.length + q.length)
        case measure => omega
        case rel => exact ⟨r, q, rfl, Nat.le_refl _, HRB.out, HY.out, HNX.out⟩
      . have hbc := HCC.out.at_here hblk rfl rfl hq
        subst hbc
        obtain ⟨g, rfl⟩ := hrest.e_form
        have c0 := cA hblk 0
        have c1 := cA hblk 1
        have c17 := cA hblk 17
        clear hb hr hi hblk hrest hcc
        go_wp2
        go_ret
        exact ⟨rfl, rfl⟩
set_option maxHeartbeats 8000000 in
theorem stepGoto_any (P : Pg) (w0 w : World) (bad : Nat -> Prop) (mb : Nat) (vd vf ov : Value) (fu en vl st : Int) (t : Tm) (e : En) (k : Kt) (va vc ev v0 v1 v2 v3 v4 v5 kv : Value) (hC : CR P w0 w bad mb vd vf) (hz : MZ w mb vd vf fu en vl ov st (.bool true) (.int .i64 t.op) (.int .i64 t.n) (.string t.nm) (.int .i64 t.ty) va vc ev v0 v1 v2 v3 v4 v5 kv (.bool false)) (ht : RTx w0 t va vc) (he : DR P w0 w bad (.e ev e.vs e.ls)) (hk : DR P w0 w bad (.k kv k)) (h0 : t.op = 12) (hla : t.args.length = 1) (k' : Kt) (hf : findA e.ls t.nm = some k') :
    Calls Tryz.prog 31 #[.pointer (some ⟨mb, 0, none⟩)] w fun x w' => (x = .returned (.tuple #[]) /\ RQ P w0 w' bad mb vd vf fu en vl ov st ((.ev (t.args.getD 0 noTm) e k'))) /\ Only (fun b => b = mb) w w' := by
  have HC := LH hC
  have HM : Hid (MA w mb vd vf fu en vl ov st (.bool false)) := ⟨_, _, _, _, _, _, _, _, _, _, _, _, _, _, _, hz⟩
  have HK := LH hk
  have HE := LH he
  have HT := LH ht
  have H00 := LH h0
  have HF := LH hf
  clear hf
  obtain ⟨A', c', e1, hc1, hc2, hs⟩ := ht.args
  obtain ⟨ba, oa, xa, xc, e2, hbl, hx6, hxt⟩ := hs 0 (t.args.getD 0 noTm) (by rw [List.getD_eq_getElem?_getD, List.getElem?_eq_getElem (by omega)]; rfl)
  have hx6 := hx6.below hC.ext
  rw [Nat.zero_mul, Nat.add_zero] at hx6
  subst e1
  subst e2
  obtain ⟨⟨Ax, cx, rfl, -, -⟩, ⟨Ay, cy, rfl, -, -⟩⟩ := hxt.form
  have HX6 := LH hx6
  have HXT := LH hxt
  have HNB : Hid (ba ≠ mb) := by show _ ≠ _; have := hC.lo; omega
  generalize t.args.getD 0 noTm = y at *
  rw [hla] at hz HT
  unfold maxLen at hc2
  clear hs hx6 hxt
  obtain ⟨-, ⟨Ab, cb, rfl, -, -⟩⟩ := ht.form
  obtain ⟨p, rfl⟩ := he.e_form
  obtain ⟨bk, rfl⟩ := hk.k_form
  rw [h0] at hz
  have HNW : Hid (w.heap.size ≠ mb) := by show _ ≠ _; have := hC.nb _ hC.tu; omega
  have HZ := LH hz
  have HEX := LH (Ext.al w (.cells #[.int .i64 12, .int .i64 t.n, .string t.nm, .int .i64 t.ty, .slice (some ⟨ba, oa, none⟩) 1 c', .slice Ab t.cls.length cb] 50))
  have HBX := LH (hNw w (.cells #[.int .i64 12, .int .i64 t.n, .string t.nm, .int .i64 t.ty, .slice (some ⟨ba, oa, none⟩) 1 c', .slice Ab t.cls.length cb] 50))
  have m8 := cA hz 8
  have m9 := cA hz 9
  have m10 := cA hz 10
  have m11 := cA hz 11
  have m12 := cA hz 12
  have m13 := cA hz 13
  have m14 := cA hz 14
  have m21 := cA hz 21
  have hlt := hLt hz
  clear hC hz ht he hk h0
  go_enter Tryz.func31, Tryz.ntmps31
  go_wp2
  go_region
  have HEX1 : Hid (Ext w (w.alloc (.cells #[.int .i64 12, .int .i64 t.n, .string t.nm, .int .i64 t.ty, .slice (some ⟨ba, oa, none⟩) 1 c', .slice Ab t.cls.length cb] 50)).drew) := HEX.out.drew
  have HBX1 : Hid ((w.alloc (.cells #[.int .i64 12, .int .i64 t.n, .string t.nm, .int .i64 t.ty, .slice (some ⟨ba, oa, none⟩) 1 c', .slice Ab t.cls.length cb] 50)).drew.heap[w.heap.size]? = some (.cells #[.int .i64 12, .int .i64 t.n, .string t.nm, .int .i64 t.ty, .slice (some ⟨ba, oa, none⟩) 1 c', .slice Ab t.cls.length cb] 50 (0, 0))) := HBX.out
  clear HEX HBX m8 m9 m10 m11 m12 m13 m14 m21
  generalize (w.alloc _).drew = w1 at *
  obtain ⟨b0, b1, b2, b3, b4, b5⟩ := cells6 HBX1.out
  have lbx := hLt HBX1.out
  have lba : ba < w1.heap.size := cL (HX6.out.below HEX1.out).c0
  obtain ⟨y0, y1, y2, y3, y4, y5⟩ := HX6.out.below HEX1.out
  have HE1 := LH ((HE.out.ext HEX1.out).ext (Ext.rf w1).drew)
  have HS1 : Hid ((w1.drew.cell? ⟨w.heap.size, 0, none⟩ = some (.int .i64 12) /\ w1.drew.cell? ⟨w.heap.size, 1, none⟩ = some (.int .i64 t.n) /\ w1.drew.cell? ⟨w.heap.size, 2, none⟩ = some (.string t.nm) /\ w1.drew.cell? ⟨w.heap.size, 3, none⟩ = some (.int .i64 t.ty) /\ w1.drew.cell? ⟨w.heap.size, 4, none⟩ = some ((.slice (some ⟨ba, oa, none⟩) 1 c')) /\ w1.drew.cell? ⟨w.heap.size, 5, none⟩ = some (.slice Ab t.cls.length cb)) /\ (w1.drew.cell? ⟨ba, oa, none⟩ = some (.int .i64 y.op) /\ w1.drew.cell? ⟨ba, oa + 1, none⟩ = some (.int .i64 y.n) /\ w1.drew.cell? ⟨ba, oa + 2, none⟩ = some (.string y.nm) /\ w1.drew.cell? ⟨ba, oa + 3, none⟩ = some (.int .i64 y.ty) /\ w1.drew.cell? ⟨ba, oa + 4, none⟩ = some (.slice Ax y.args.length cx) /\ w1.drew.cell? ⟨ba, oa + 5, none⟩ = some (.slice Ay y.cls.length cy))) := ⟨cells6 HBX1.out, (HX6.out.below HEX1.out).at0⟩
  obtain ⟨b, s16, kv', u16, hFst, hnb, hblk, hkd⟩ := Fst.ex _ e.vs e.ls _ (Nat.le_refl _) HE1.out HF.out
  obtain ⟨bk', rfl⟩ := hkd.k_form
  have HKD := LH hkd
  have HFST := LH hFst
  have HBM : Hid (b ≠ mb) := fun h => hnb (h ▸ HC.out.tu)
  have HZ1 := LH (cA hblk 16)
  have HBL : Hid (b < w1.drew.heap.size) := hLt hblk
  clear hkd hFst hnb hblk
  go_upto_region 23 with fail
  go_region_held3 (fun w' => w'.cell? ⟨b, 16, none⟩ = some (.pointer (some ⟨bk', 0, none⟩)) /\ w'.cell? ⟨w.heap.size, 0, none⟩ = some (.int .i64 12) /\ w'.cell? ⟨w.heap.size, 1, none⟩ = some (.int .i64 t.n) /\ w'.cell? ⟨w.heap.size, 2, none⟩ = some (.string t.nm) /\ w'.cell? ⟨w.heap.size, 3, none⟩ = some (.int .i64 t.ty) /\ w'.cell? ⟨w.heap.size, 4, none⟩ = some ((.slice (some ⟨ba, oa, none⟩) 1 c')) /\ w'.cell? ⟨w.heap.size, 5, none⟩ = some (.slice Ab t.cls.length cb) /\ w'.cell? ⟨ba, oa, none⟩ = some (.int .i64 y.op) /\ w'.cell? ⟨ba, oa + 1, none⟩ = some (.int .i64 y.n) /\ w'.cell? ⟨ba, oa + 2, none⟩ = some (.string y.nm) /\ w'.cell? ⟨ba, oa + 3, none⟩ = some (.int .i64 y.ty) /\ w'.cell? ⟨ba, oa + 4, none⟩ = some (.slice Ax y.args.length cx) /\ w'.cell? ⟨ba, oa + 5, none⟩ = some (.slice Ay y.cls.length cy))
    (first | exact ⟨HZ5.out, and12 HCD.out.1 HCD.out.2⟩ | exact ⟨HZ1.out, and12 HS1.out.1 HS1.out.2⟩ | go_keep)
    ((first
    | (go_at_call 57; (with_reducible refine (findK_at P w0 _ bad e.vs e.ls _ t.nm k' b HE1.out HF.out HFST.out).mono ?_); rintro x w4 ⟨rfl, rfl⟩)
    | (go_at_call 27; (with_reducible refine (evalQ P w0 _ bad mb vd vf ov fu en vl st y e k' _ _ _ _ ((HC.out.ext' HEX1.out).ext' (Ext.rf w1).drew) ((HM.out.ext' HEX1.out).ext' (Ext.rf w1).drew) HXT.out HE1.out HKD.out).mono ?_); rintro x w5 ⟨⟨rfl, hrq⟩, ho⟩; have HRQ := LH hrq; have HZ5 : Hid (w5.cell? ⟨b, 16, none⟩ = some (.pointer (some ⟨bk', 0, none⟩))) := (World.cell?_of_block (ho.block b HBL.out HBM.out)).trans HZ1.out; have HON := LH ((only_x (b := mb) (HEX1.out.tr (Ext.rf w1).drew)).tr ho); have HCD : Hid ((w5.cell? ⟨w.heap.size, 0, none⟩ = some (.int .i64 12) /\ w5.cell? ⟨w.heap.size, 1, none⟩ = some (.int .i64 t.n) /\ w5.cell? ⟨w.heap.size, 2, none⟩ = some (.string t.nm) /\ w5.cell? ⟨w.heap.size, 3, none⟩ = some (.int .i64 t.ty) /\ w5.cell? ⟨w.heap.size, 4, none⟩ = some ((.slice (some ⟨ba, oa, none⟩) 1 c')) /\ w5.cell? ⟨w.heap.size, 5, none⟩ = some (.slice Ab t.cls.length cb)) /\ (w5.cell? ⟨ba, oa, none⟩ = some (.int .i64 y.op) /\ w5.cell? ⟨ba, oa + 1, none⟩ = some (.int .i64 y.n) /\ w5.cell? ⟨ba, oa + 2, none⟩ = some (.string y.nm) /\ w5.cell? ⟨ba, oa + 3, none⟩ = some (.int .i64 y.ty) /\ w5.cell? ⟨ba, oa + 4, none⟩ = some (.slice Ax y.args.length cx) /\ w5.cell? ⟨ba, oa + 5, none⟩ = some (.slice Ay y.cls.length cy))) := ⟨only_box ho HNW.out HS1.out.1, ((HX6.out.below (HEX1.out.tr (Ext.rf w1).drew)).only ho HNB.out).at0⟩; clear hrq ho)))
  all_goals
    go_wp2
    go_end0
    exact ⟨⟨rfl, HRQ.out⟩, HON.out⟩
theorem DR.b_cases {P : Pg} {w0 w : World} {bad : Nat -> Prop} {a0 a1 a2 a3 a4 a5 a6 a7 a8 a9 a10 a11 a12 a13 : Value} {x : It} (h : DR P w0 w bad (.b #[a0, a1, a2, a3, a4, a5, a6, a7, a8, a9, a10, a11, a12, a13] x)) :
    (∃ v, x = .held v /\ a0 = .bool false /\ DR P w0 w bad (.v #[a1, a2, a3, a4, a5, a6] v)) ∨ (∃ t e, x = .thunk t e /\ a0 = .bool true /\ (a7 = .int .i64 t.op /\ a8 = .int .i64 t.n /\ a9 = .string t.nm /\ a10 = .int .i64 t.ty /\ RTx w0 t a11 a12) /\ DR P w0 w bad (.e a13 e.vs e.ls)) := by
  cases h with
  | held _ _ _ _ _ _ v h => exact .inl ⟨v, rfl, rfl, h⟩
  | thunk t e va vc ev h1 h2 => exact .inr ⟨t, e, rfl, rfl, ⟨rfl, rfl, rfl, rfl, h1⟩, h2⟩
set_option maxHeartbeats 8000000 in
theorem stepVar_any (P : Pg) (w0 w : World) (bad : Nat -> Prop) (mb : Nat) (vd vf ov : Value) (fu en vl st : Int) (t : Tm) (e : En) (k : Kt) (va vc ev v0 v1 v2 v3 v4 v5 kv : Value) (hC : CR P w0 w bad mb vd vf) (hz : MZ w mb vd vf fu en vl ov st (.bool true) (.int .i64 t.op) (.int .i64 t.n) (.string t.nm) (.int .i64 t.ty) va vc ev v0 v1 v2 v3 v4 v5 kv (.bool false)) (ht : RTx w0 t va vc) (he : DR P w0 w bad (.e ev e.vs e.ls)) (hk : DR P w0 w bad (.k kv k)) (h0 : t.op = 0) (xi : It) (hf : findA e.vs t.nm = some xi) :
    Calls Tryz.prog 31 #[.pointer (some ⟨mb, 0, none⟩)] w fun x w' => (x = .returned (.tuple #[]) /\ RQ P w0 w' bad mb vd vf fu en vl ov st (itemS xi k)) /\ Only (fun b => b = mb) w w' := by
  have HC := LH hC
  have HM : Hid (MA w mb vd vf fu en vl ov st (.bool false)) := ⟨_, _, _, _, _, _, _, _, _, _, _, _, _, _, _, hz⟩
  have HK := LH hk
  have HE := LH he
  have HT := LH ht
  have H00 := LH h0
  have HF := LH hf
  clear hf
  obtain ⟨⟨Aa, ca, rfl, -, -⟩, ⟨Ab, cb, rfl, -, -⟩⟩ := ht.form
  obtain ⟨p, rfl⟩ := he.e_form
  obtain ⟨bk, rfl⟩ := hk.k_form
  rw [h0] at hz
  have HNW : Hid (w.heap.size ≠ mb) := by show _ ≠ _; have := hC.nb _ hC.tu; omega
  have HZ := LH hz
  have HEX := LH (Ext.al w (.cells #[.int .i64 0, .int .i64 t.n, .string t.nm, .int .i64 t.ty, .slice Aa t.args.length ca, .slice Ab t.cls.length cb] 50))
  have HBX := LH (hNw w (.cells #[.int .i64 0, .int .i64 t.n, .string t.nm, .int .i64 t.ty, .slice Aa t.args.length ca, .slice Ab t.cls.length cb] 50))
  have m8 := cA hz 8
  have m9 := cA hz 9
  have m10 := cA hz 10
  have m11 := cA hz 11
  have m12 := cA hz 12
  have m13 := cA hz 13
  have m14 := cA hz 14
  have m21 := cA hz 21
  have hlt := hLt hz
  clear hC hz ht he hk h0
  go_enter Tryz.func31, Tryz.ntmps31
  go_wp2
  go_region
  have HEX1 : Hid (Ext w (w.alloc (.cells #[.int .i64 0, .int .i64 t.n, .string t.nm, .int .i64 t.ty, .slice Aa t.args.length ca, .slice Ab t.cls.length cb] 50)).drew) := HEX.out.drew
  have HBX1 : Hid ((w.alloc (.cells #[.int .i64 0, .int .i64 t.n, .string t.nm, .int .i64 t.ty, .slice Aa t.args.length ca, .slice Ab t.cls.length cb] 50)).drew.heap[w.heap.size]? = some (.cells #[.int .i64 0, .int .i64 t.n, .string t.nm, .int .i64 t.ty, .slice Aa t.args.length ca, .slice Ab t.cls.length cb] 50 (0, 0))) := HBX.out
  clear HEX HBX m8 m9 m10 m11 m12 m13 m14 m21
  generalize (w.alloc _).drew = w1 at *
  obtain ⟨b0, b1, b2, b3, b4, b5⟩ := cells6 HBX1.out
  have lbx := hLt HBX1.out
  go_wp2_with fail
  (with_reducible refine (findV_any P w0 w1 bad e.vs e.ls _ t.nm xi (HE.out.ext HEX1.out) HF.out).mono ?_)
  rintro z w4 ⟨⟨a, rfl, hel⟩, rfl⟩
  obtain ⟨b, s, a0, a1, a2, a3, a4, a5, a6, a7, a8, a9, a10, a11, a12, a13, u, rfl, hblk, hbd⟩ := hel
  have HBD := LH hbd
  obtain ⟨th, i0, n0, y0, B1, k1, mm1, B2, k2, mm2, p2, i3, n3, s3, y3, B3, k3, mm3, B4, k4, mm4, p4, heq⟩ := hbd.b_form
  simp only [Array.mk.injEq, List.cons.injEq, and_true] at heq
  obtain ⟨rfl, rfl, rfl, rfl, rfl, rfl, rfl, rfl, rfl, rfl, rfl, rfl, rfl, rfl⟩ := heq
  have z2 := cA hblk 2
  have z3 := cA hblk 3
  have z4 := cA hblk 4
  have z5 := cA hblk 5
  have z6 := cA hblk 6
  have z7 := cA hblk 7
  have z8 := cA hblk 8
  have z9 := cA hblk 9
  have z10 := cA hblk 10
  have z11 := cA hblk 11
  have z12 := cA hblk 12
  have z13 := cA hblk 13
  have z14 := cA hblk 14
  have z15 := cA hblk 15
  clear hblk hbd
  have HEB := LH (HEX1.out.tr (Ext.al w1 (.cells #[.bool th, .int .i64 i0, .int .i64 n0, .int .i64 y0, .slice B1 k1 mm1, .slice B2 k2 mm2, .pointer p2, .int .i64 i3, .int .i64 n3, .string s3, .int .i64 y3, .slice B3 k3 mm3, .slice B4 k4 mm4, .pointer p4] 71)))
  have HBB := LH (HBD.out.ext (Ext.al w1 (.cells #[.bool th, .int .i64 i0, .int .i64 n0, .int .i64 y0, .slice B1 k1 mm1, .slice B2 k2 mm2, .pointer p2, .int .i64 i3, .int .i64 n3, .string s3, .int .i64 y3, .slice B3 k3 mm3, .slice B4 k4 mm4, .pointer p4] 71)))
  have HNN := LH (hNw w1 (.cells #[.bool th, .int .i64 i0, .int .i64 n0, .int .i64 y0, .slice B1 k1 mm1, .slice B2 k2 mm2, .pointer p2, .int .i64 i3, .int .i64 n3, .string s3, .int .i64 y3, .slice B3 k3 mm3, .slice B4 k4 mm4, .pointer p4] 71))
  have g0 := cA HNN.out 0
  have g1 := cA HNN.out 1
  have g2 := cA HNN.out 2
  have g3 := cA HNN.out 3
  have g4 := cA HNN.out 4
  have g5 := cA HNN.out 5
  have g6 := cA HNN.out 6
  have g7 := cA HNN.out 7
  have g8 := cA HNN.out 8
  have g9 := cA HNN.out 9
  have g10 := cA HNN.out 10
  have g11 := cA HNN.out 11
  have g12 := cA HNN.out 12
  have g13 := cA HNN.out 13
  rcases HBB.out.b_cases with ⟨v, rfl, hth, hv⟩ | ⟨t', e', rfl, hth, htt, hee⟩
  . have hth : th = false := by simpa using hth
    subst hth
    have HV := LH hv
    clear hv
    go_wp2_with fail
    (with_reducible refine (passQ P w0 _ bad mb vd vf ov fu en vl st v k _ _ (HC.out.ext' HEB.out) (HM.out.ext' HEB.out) HV.out (HK.out.ext HEB.out)).mono ?_)
    rintro x w5 ⟨⟨rfl, hrq⟩, ho⟩
    have HRQ := LH hrq
    have HON := LH ((only_x (b := mb) HEB.out).tr ho)
    clear hrq ho
    go_wp2
    go_end0
    exact ⟨⟨rfl, HRQ.out⟩, HON.out⟩
  . have hth : th = true := by simpa using hth
    subst hth
    obtain ⟨h1, h2, h3, h4, htt⟩ := htt
    simp only [Value.int.injEq, true_and, Value.string.injEq] at h1 h2 h3 h4
    subst h1 h2 h3 h4
    have HTT := LH htt
    have HEE := LH hee
    clear htt hee
    go_wp2_with fail
    (with_reducible refine (evalQ P w0 _ bad mb vd vf ov fu en vl st t' e' k _ _ _ _ (HC.out.ext' HEB.out) (HM.out.ext' HEB.out) HTT.out HEE.out (HK.out.ext HEB.out)).mono ?_)
    rintro x w5 ⟨⟨rfl, hrq⟩, ho⟩
    have HRQ := LH hrq
    have HON := LH ((only_x (b := mb) HEB.out).tr ho)
    clear hrq ho
    go_wp2
    go_end0
    exact ⟨⟨rfl, HRQ.out⟩, HON.out⟩
set_option maxHeartbeats 8000000 in
theorem stepCon_any (P : Pg) (w0 w : World) (bad : Nat -> Prop) (mb : Nat) (vd vf ov : Value) (fu en vl st : Int) (t : Tm) (e : En) (k : Kt) (va vc ev v0 v1 v2 v3 v4 v5 kv : Value) (hC : CR P w0 w bad mb vd vf) (hz : MZ w mb vd vf fu en vl ov st (.bool true) (.int .i64 t.op) (.int .i64 t.n) (.string t.nm) (.int .i64 t.ty) va vc ev v0 v1 v2 v3 v4 v5 kv (.bool false)) (ht : RTx w0 t va vc) (he : DR P w0 w bad (.e ev e.vs e.ls)) (hk : DR P w0 w bad (.k kv k)) (h0 : t.op = 4) (hfit : fitsT P t = true) :
    Calls Tryz.prog 31 #[.pointer (some ⟨mb, 0, none⟩)] w fun x w' => (x = .returned (.tuple #[]) /\ RQ P w0 w' bad mb vd vf fu en vl ov st (resS P t e k (termsOf t) (typesOf P t) [])) /\ Only (fun b => b = mb) w w' := by
  have HC := LH hC
  have HM : Hid (MA w mb vd vf fu en vl ov st (.bool false)) := ⟨_, _, _, _, _, _, _, _, _, _, _, _, _, _, _, hz⟩
  have HK := LH hk
  have HE := LH he
  have HT := LH ht
  have H00 := LH h0
  have HFIT := LH hfit
  have HOP := LH h0
  clear hfit
  obtain ⟨⟨Aa, ca, rfl, -, -⟩, ⟨Ab, cb, rfl, -, -⟩⟩ := ht.form
  obtain ⟨p, rfl⟩ := he.e_form
  obtain ⟨bk, rfl⟩ := hk.k_form
  rw [h0] at hz
  have HNW : Hid (w.heap.size ≠ mb) := by show _ ≠ _; have := hC.nb _ hC.tu; omega
  have HZ := LH hz
  have HEX := LH (Ext.al w (.cells #[.int .i64 4, .int .i64 t.n, .string t.nm, .int .i64 t.ty, .slice Aa t.args.length ca, .slice Ab t.cls.length cb] 50))
  have HBX := LH (hNw w (.cells #[.int .i64 4, .int .i64 t.n, .string t.nm, .int .i64 t.ty, .slice Aa t.args.length ca, .slice Ab t.cls.length cb] 50))
  have m8 := cA hz 8
  have m9 := cA hz 9
  have m10 := cA hz 10
  have m11 := cA hz 11
  have m12 := cA hz 12
  have m13 := cA hz 13
  have m14 := cA hz 14
  have m21 := cA hz 21
  have hlt := hLt hz
  clear hC hz ht he hk h0
  go_enter Tryz.func31, Tryz.ntmps31
  go_wp2
  go_region
  have HEX1 : Hid (Ext w (w.alloc (.cells #[.int .i64 4, .int .i64 t.n, .string t.nm, .int .i64 t.ty, .slice Aa t.args.length ca, .slice Ab t.cls.length cb] 50)).drew) := HEX.out.drew
  have HBX1 : Hid ((w.alloc (.cells #[.int .i64 4, .int .i64 t.n, .string t.nm, .int .i64 t.ty, .slice Aa t.args.length ca, .slice Ab t.cls.length cb] 50)).drew.heap[w.heap.size]? = some (.cells #[.int .i64 4, .int .i64 t.n, .string t.nm, .int .i64 t.ty, .slice Aa t.args.length ca, .slice Ab t.cls.length cb] 50 (0, 0))) := HBX.out
  clear HEX HBX m8 m9 m10 m11 m12 m13 m14 m21
  generalize (w.alloc _).drew = w1 at *
  obtain ⟨b0, b1, b2, b3, b4, b5⟩ := cells6 HBX1.out
  have lbx := hLt HBX1.out
  have HBM := LH (bindMore_of P (allBound_any P) w0 w1 bad mb vd vf ov fu en vl st t e k [] _ _ _ zs _ (HC.out.ext' HEX1.out) (HM.out.ext' HEX1.out) HT.out HFIT.out (.inl HOP.out) (HE.out.ext HEX1.out) (HK.out.ext HEX1.out) .inil (Nat.zero_le _))
  unfold tV at HBM
  rw [HOP.out] at HBM
  go_wp2_with fail
  (with_reducible refine HBM.out.mono ?_)
  rintro x w5 ⟨⟨rfl, hrq⟩, ho⟩
  have HRQ : Hid (RQ P w0 w5 bad mb vd vf fu en vl ov st (resS P t e k (termsOf t) (typesOf P t) [])) := hrq
  have HON := LH ((only_x (b := mb) HEX1.out).tr ho)
  clear hrq ho HBM
  go_wp2
  go_end0
  exact ⟨⟨rfl, HRQ.out⟩, HON.out⟩
set_option maxHeartbeats 8000000 in
theorem stepDtor_any (P : Pg) (w0 w : World) (bad : Nat -> Prop) (mb : Nat) (vd vf ov : Value) (fu en vl st : Int) (t : Tm) (e : En) (k : Kt) (va vc ev v0 v1 v2 v3 v4 v5 kv : Value) (hC : CR P w0 w bad mb vd vf) (hz : MZ w mb vd vf fu en vl ov st (.bool true) (.int .i64 t.op) (.int .i64 t.n) (.string t.nm) (.int .i64 t.ty) va vc ev v0 v1 v2 v3 v4 v5 kv (.bool false)) (ht : RTx w0 t va vc) (he : DR P w0 w bad (.e ev e.vs e.ls)) (hk : DR P w0 w bad (.k kv k)) (h0 : t.op = 6) (hfit : fitsT P t = true) :
    Calls Tryz.prog 31 #[.pointer (some ⟨mb, 0, none⟩)] w fun x w' => (x = .returned (.tuple #[]) /\ RQ P w0 w' bad mb vd vf fu en vl ov st (resS P t e k (termsOf t) (typesOf P t) [])) /\ Only (fun b => b = mb) w w' := by
  have HC := LH hC
  have HM : Hid (MA w mb vd vf fu en vl ov st (.bool false)) := ⟨_, _, _, _, _, _, _, _, _, _, _, _, _, _, _, hz⟩
  have HK := LH hk
  have HE := LH he
  have HT := LH ht
  have H00 := LH h0
  have HFIT := LH hfit
  have HOP := LH h0
  clear hfit
  obtain ⟨⟨Aa, ca, rfl, -, -⟩, ⟨Ab, cb, rfl, -, -⟩⟩ := ht.form
  obtain ⟨p, rfl⟩ := he.e_form
  obtain ⟨bk, rfl⟩ := hk.k_form
  rw [h0] at hz
  have HNW : Hid (w.heap.size ≠ mb) := by show _ ≠ _; have := hC.nb _ hC.tu; omega
  have HZ := LH hz
  have HEX := LH (Ext.al w (.cells #[.int .i64 6, .int .i64 t.n, .string t.nm, .int .i64 t.ty, .slice Aa t.args.length ca, .slice Ab t.cls.length cb] 50))
  have HBX := LH (hNw w (.cells #[.int .i64 6, .int .i64 t.n, .string t.nm, .int .i64 t.ty, .slice Aa t.args.length ca, .slice Ab t.cls.length cb] 50))
  have m8 := cA hz 8
  have m9 := cA hz 9
  have m10 := cA hz 10
  have m11 := cA hz 11
  have m12 := cA hz 12
  have m13 := cA hz 13
  have m14 := cA hz 14
  have m21 := cA hz 21
  have hlt := hLt hz
  clear hC hz ht he hk h0
  go_enter Tryz.func31, Tryz.ntmps31
  go_wp2
  go_region
  have HEX1 : Hid (Ext w (w.alloc (.cells #[.int .i64 6, .int .i64 t.n, .string t.nm, .int .i64 t.ty, .slice Aa t.args.length ca, .slice Ab t.cls.length cb] 50)).drew) := HEX.out.drew
  have HBX1 : Hid ((w.alloc (.cells #[.int .i64 6, .int .i64 t.n, .string t.nm, .int .i64 t.ty, .slice Aa t.args.length ca, .slice Ab t.cls.length cb] 50)).drew.heap[w.heap.size]? = some (.cells #[.int .i64 6, .int .i64 t.n, .string t.nm, .int .i64 t.ty, .slice Aa t.args.length ca, .slice Ab t.cls.length cb] 50 (0, 0))) := HBX.out
  clear HEX HBX m8 m9 m10 m11 m12 m13 m14 m21
  generalize (w.alloc _).drew = w1 at *
  obtain ⟨b0, b1, b2, b3, b4, b5⟩ := cells6 HBX1.out
  have lbx := hLt HBX1.out
  have HBM := LH (bindMore_of P (allBound_any P) w0 w1 bad mb vd vf ov fu en vl st t e k [] _ _ _ zs _ (HC.out.ext' HEX1.out) (HM.out.ext' HEX1.out) HT.out HFIT.out (.inr (.inl HOP.out)) (HE.out.ext HEX1.out) (HK.out.ext HEX1.out) .inil (Nat.zero_le _))
  unfold tV at HBM
  rw [HOP.out] at HBM
  go_wp2_with fail
  (with_reducible refine HBM.out.mono ?_)
  rintro x w5 ⟨⟨rfl, hrq⟩, ho⟩
  have HRQ : Hid (RQ P w0 w5 bad mb vd vf fu en vl ov st (resS P t e k (termsOf t) (typesOf P t) [])) := hrq
  have HON := LH ((only_x (b := mb) HEX1.out).tr ho)
  clear hrq ho HBM
  go_wp2
  go_end0
  exact ⟨⟨rfl, HRQ.out⟩, HON.out⟩
set_option maxHeartbeats 8000000 in
theorem stepLet_any (P : Pg) (w0 w : World) (bad : Nat -> Prop) (mb : Nat) (vd vf ov : Value) (fu en vl st : Int) (t : Tm) (e : En) (k : Kt) (va vc ev v0 v1 v2 v3 v4 v5 kv : Value) (hC : CR P w0 w bad mb vd vf) (hz : MZ w mb vd vf fu en vl ov st (.bool true) (.int .i64 t.op) (.int .i64 t.n) (.string t.nm) (.int .i64 t.ty) va vc ev v0 v1 v2 v3 v4 v5 kv (.bool false)) (ht : RTx w0 t va vc) (he : DR P w0 w bad (.e ev e.vs e.ls)) (hk : DR P w0 w bad (.k kv k)) (h0 : t.op = 8) (hfit : fitsT P t = true) :
    Calls Tryz.prog 31 #[.pointer (some ⟨mb, 0, none⟩)] w fun x w' => (x = .returned (.tuple #[]) /\ RQ P w0 w' bad mb vd vf fu en vl ov st (resS P t e k (termsOf t) (typesOf P t) [])) /\ Only (fun b => b = mb) w w' := by
  have HC := LH hC
  have HM : Hid (MA w mb vd vf fu en vl ov st (.bool false)) := ⟨_, _, _, _, _, _, _, _, _, _, _, _, _, _, _, hz⟩
  have HK := LH hk
  have HE := LH he
  have HT := LH ht
  have H00 := LH h0
  have HFIT := LH hfit
  have HOP := LH h0
  clear hfit
  obtain ⟨⟨Aa, ca, rfl, -, -⟩, ⟨Ab, cb, rfl, -, -⟩⟩ := ht.form
  obtain ⟨p, rfl⟩ := he.e_form
  obtain ⟨bk, rfl⟩ := hk.k_form
  rw [h0] at hz
  have HNW : Hid (w.heap.size ≠ mb) := by show _ ≠ _; have := hC.nb _ hC.tu; omega
  have HZ := LH hz
  have HEX := LH (Ext.al w (.cells #[.int .i64 8, .int .i64 t.n, .string t.nm, .int .i64 t.ty, .slice Aa t.args.length ca, .slice Ab t.cls.length cb] 50))
  have HBX := LH (hNw w (.cells #[.int .i64 8, .int .i64 t.n, .string t.nm, .int .i64 t.ty, .slice Aa t.args.length ca, .slice Ab t.cls.length cb] 50))
  have m8 := cA hz 8
  have m9 := cA hz 9
  have m10 := cA hz 10
  have m11 := cA hz 11
  have m12 := cA hz 12
  have m13 := cA hz 13
  have m14 := cA hz 14
  have m21 := cA hz 21
  have hlt := hLt hz
  clear hC hz ht he hk h0
  go_enter Tryz.func31, Tryz.ntmps31
  go_wp2
  go_region
  have HEX1 : Hid (Ext w (w.alloc (.cells #[.int .i64 8, .int .i64 t.n, .string t.nm, .int .i64 t.ty, .slice Aa t.args.length ca, .slice Ab t.cls.length cb] 50)).drew) := HEX.out.drew
  have HBX1 : Hid ((w.alloc (.cells #[.int .i64 8, .int .i64 t.n, .string t.nm, .int .i64 t.ty, .slice Aa t.args.length ca, .slice Ab t.cls.length cb] 50)).drew.heap[w.heap.size]? = some (.cells #[.int .i64 8, .int .i64 t.n, .string t.nm, .int .i64 t.ty, .slice Aa t.args.length ca, .slice Ab t.cls.length cb] 50 (0, 0))) := HBX.out
  clear HEX HBX m8 m9 m10 m11 m12 m13 m14 m21
  generalize (w.alloc _).drew = w1 at *
  obtain ⟨b0, b1, b2, b3, b4, b5⟩ := cells6 HBX1.out
  have lbx := hLt HBX1.out
  have HBM := LH (bindMore_of P (allBound_any P) w0 w1 bad mb vd vf ov fu en vl st t e k [] _ _ _ zs _ (HC.out.ext' HEX1.out) (HM.out.ext' HEX1.out) HT.out HFIT.out (.inr (.inr (.inl HOP.out))) (HE.out.ext HEX1.out) (HK.out.ext HEX1.out) .inil (Nat.zero_le _))
  unfold tV at HBM
  rw [HOP.out] at HBM
  go_wp2_with fail
  (with_reducible refine HBM.out.mono ?_)
  rintro x w5 ⟨⟨rfl, hrq⟩, ho⟩
  have HRQ : Hid (RQ P w0 w5 bad mb vd vf fu en vl ov st (resS P t e k (termsOf t) (typesOf P t) [])) := hrq
  have HON := LH ((only_x (b := mb) HEX1.out).tr ho)
  clear hrq ho HBM
  go_wp2
  go_end0
  exact ⟨⟨rfl, HRQ.out⟩, HON.out⟩
set_option maxHeartbeats 8000000 in
theorem stepCall_any (P : Pg) (w0 w : World) (bad : Nat -> Prop) (mb : Nat) (vd vf ov : Value) (fu en vl st : Int) (t : Tm) (e : En) (k : Kt) (va vc ev v0 v1 v2 v3 v4 v5 kv : Value) (hC : CR P w0 w bad mb vd vf) (hz : MZ w mb vd vf fu en vl ov st (.bool true) (.int .i64 t.op) (.int .i64 t.n) (.string t.nm) (.int .i64 t.ty) va vc ev v0 v1 v2 v3 v4 v5 kv (.bool false)) (ht : RTx w0 t va vc) (he : DR P w0 w bad (.e ev e.vs e.ls)) (hk : DR P w0 w bad (.k kv k)) (h0 : t.op = 9) (hfit : fitsT P t = true) :
    Calls Tryz.prog 31 #[.pointer (some ⟨mb, 0, none⟩)] w fun x w' => (x = .returned (.tuple #[]) /\ RQ P w0 w' bad mb vd vf fu en vl ov st (resS P t e k (termsOf t) (typesOf P t) [])) /\ Only (fun b => b = mb) w w' := by
  have HC := LH hC
  have HM : Hid (MA w mb vd vf fu en vl ov st (.bool false)) := ⟨_, _, _, _, _, _, _, _, _, _, _, _, _, _, _, hz⟩
  have HK := LH hk
  have HE := LH he
  have HT := LH ht
  have H00 := LH h0
  have HFIT := LH hfit
  have HOP := LH h0
  clear hfit
  obtain ⟨⟨Aa, ca, rfl, -, -⟩, ⟨Ab, cb, rfl, -, -⟩⟩ := ht.form
  obtain ⟨p, rfl⟩ := he.e_form
  obtain ⟨bk, rfl⟩ := hk.k_form
  rw [h0] at hz
  have HNW : Hid (w.heap.size ≠ mb) := by show _ ≠ _; have := hC.nb _ hC.tu; omega
  have HZ := LH hz
  have HEX := LH (Ext.al w (.cells #[.int .i64 9, .int .i64 t.n, .string t.nm, .int .i64 t.ty, .slice Aa t.args.length ca, .slice Ab t.cls.length cb] 50))
  have HBX := LH (hNw w (.cells #[.int .i64 9, .int .i64 t.n, .string t.nm, .int .i64 t.ty, .slice Aa t.args.length ca, .slice Ab t.cls.length cb] 50))
  have m8 := cA hz 8
  have m9 := cA hz 9
  have m10 := cA hz 10
  have m11 := cA hz 11
  have m12 := cA hz 12
  have m13 := cA hz 13
  have m14 := cA hz 14
  have m21 := cA hz 21
  have hlt := hLt hz
  clear hC hz ht he hk h0
  go_enter Tryz.func31, Tryz.ntmps31
  go_wp2
  go_region
  have HEX1 : Hid (Ext w (w.alloc (.cells #[.int .i64 9, .int .i64 t.n, .string t.nm, .int .i64 t.ty, .slice Aa t.args.length ca, .slice Ab t.cls.length cb] 50)).drew) := HEX.out.drew
  have HBX1 : Hid ((w.alloc (.cells #[.int .i64 9, .int .i64 t.n, .string t.nm, .int .i64 t.ty, .slice Aa t.args.length ca, .slice Ab t.cls.length cb] 50)).drew.heap[w.heap.size]? = some (.cells #[.int .i64 9, .int .i64 t.n, .string t.nm, .int .i64 t.ty, .slice Aa t.args.length ca, .slice Ab t.cls.length cb] 50 (0, 0))) := HBX.out
  clear HEX HBX m8 m9 m10 m11 m12 m13 m14 m21
  generalize (w.alloc _).drew = w1 at *
  obtain ⟨b0, b1, b2, b3, b4, b5⟩ := cells6 HBX1.out
  have lbx := hLt HBX1.out
  have HBM := LH (bindMore_of P (allBound_any P) w0 w1 bad mb vd vf ov fu en vl st t e k [] _ _ _ zs _ (HC.out.ext' HEX1.out) (HM.out.ext' HEX1.out) HT.out HFIT.out (.inr (.inr (.inr HOP.out))) (HE.out.ext HEX1.out) (HK.out.ext HEX1.out) .inil (Nat.zero_le _))
  unfold tV at HBM
  rw [HOP.out] at HBM
  go_wp2_with fail
  (with_reducible refine HBM.out.mono ?_)
  rintro x w5 ⟨⟨rfl, hrq⟩, ho⟩
  have HRQ : Hid (RQ P w0 w5 bad mb vd vf fu en vl ov st (resS P t e k (termsOf t) (typesOf P t) [])) := hrq
  have HON := LH ((only_x (b := mb) HEX1.out).tr ho)
  clear hrq ho HBM
  go_wp2
  go_end0
  exact ⟨⟨rfl, HRQ.out⟩, HON.out⟩
end Go.Proofs.YtkdglplfcpindaaGreatDoor
