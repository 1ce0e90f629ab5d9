/- rules.go: the rules of the operators. -/
import Derived.Test.YtogmjgccopmplaaGreatQ18
namespace Go.Proofs.YtogmjgccopmplaaGreat
open Go.RowKit
/-- What a rule returns. -/
def Agree (r : TyR) (y : Int) (b : Bool) : Prop := match r with | .inr z => b = true ∧ y = z | .inl _ => b = false
def varR (o : Option Int) : TyR := match o with | some y => .inr y | none => .inl []
abbrev scV (pv pl : Value) : Value := .agg #[pv, pl]
theorem agree_ok {c : Bool} {y : Int} : Agree (okR c y) y c := by unfold okR Agree; cases c <;> simp
theorem box_st (w : World) (a b c d e f g h : Value) :
    ((w.alloc (.cells #[a, b] 81)).alloc (.cells #[c, d, e, f, g, h] 41)).heap[w.heap.size]? = some (.cells #[a, b] 81 (0, 0)) ∧
    ((w.alloc (.cells #[a, b] 81)).alloc (.cells #[c, d, e, f, g, h] 41)).heap[w.heap.size + 1]? = some (.cells #[c, d, e, f, g, h] 41 (0, 0)) := by
  have h1 := heapNew w (.cells #[a, b] 81)
  have h2 := heapNew (w.alloc (.cells #[a, b] 81)) (.cells #[c, d, e, f, g, h] 41)
  rw [World.size_alloc] at h2
  exact ⟨((Ext.al _ _).block _ (heap_lt h1)).trans h1, h2⟩
set_option maxHeartbeats 2000000 in
set_option maxRecDepth 100000 in
theorem r_variable (c : Value) (V L : Env) (pv pl : Value) (k : Nat) (t : Tm) (ux uc : Value) (vp : Value) (ps : List Int) (w : World) (hV : RB w V pv) (hL : RB w L pl) (ht : RT w k t ux uc)  :
    Calls Tryz.prog 55 #[c, scV pv pl, tV t ux uc, vp] w fun e w' => e = .returned (foundR (findE V t.nm)) ∧ Ext w w' := by
  have HV := Lib.hid hV; have HL := Lib.hid hL
  have hmx : Tryz.prog.follows .mixedOrders = true := by kernel_rfl
  obtain ⟨qv, rfl⟩ := hV.form
  obtain ⟨ql, rfl⟩ := hL.form
  obtain ⟨_, ⟨Aa, ca, rfl, -, -⟩, ⟨Bb, cb, rfl, -, -⟩⟩ := ht.form
  clear hV hL ht
  have HE := Lib.hid (Ext.al2 w (.cells #[.pointer qv, .pointer ql] 81) (.cells #[.int .i64 t.op, .int .i64 t.n, .string t.nm, .int .i64 t.ty, .slice Aa t.args.length ca, .slice Bb t.cls.length cb] 41))
  obtain ⟨hb1, hb2⟩ := box_st w (.pointer qv) (.pointer ql) (.int .i64 t.op) (.int .i64 t.n) (.string t.nm) (.int .i64 t.ty) (.slice Aa t.args.length ca) (.slice Bb t.cls.length cb)
  have HB1 := Lib.hid hb1; have HB2 := Lib.hid hb2
  clear hb1 hb2
  obtain ⟨fo, hfo⟩ : ∃ fo, findE V t.nm = fo := ⟨_, rfl⟩
  rw [hfo]
  have HFO := Lib.hid hfo
  clear hfo
  have b0 := cellAt HB1.out 0
  have n2 := cellAt HB2.out 2
  go_enter Tryz.func55, Tryz.ntmps55
  go_wp2_with fail
  generalize World.alloc (World.alloc w _) _ = w1 at *
  clear b0 n2
  (with_reducible refine (bfind_any V _ t.nm _ (HV.out.below HE.out)).mono ?_)
  rw [HFO.out]
  rintro e w2 ⟨rfl, rfl⟩
  cases fo with
  | none =>
    rw [show foundR none = .tuple #[.int .i64 0, .bool false] from rfl]
    go_wp2
    go_ret2
    exact ⟨rfl, HE.out⟩
  | some y =>
    rw [show foundR (some y) = .tuple #[.int .i64 y, .bool true] from rfl]
    go_wp2
    go_ret2
    exact ⟨rfl, HE.out⟩
set_option maxHeartbeats 2000000 in
set_option maxRecDepth 100000 in
theorem r_integer (c : Value) (V L : Env) (pv pl : Value) (k : Nat) (t : Tm) (ux uc : Value) (vp : Value) (ps : List Int) (w : World) (hV : RB w V pv) (hL : RB w L pl) (ht : RT w k t ux uc)  :
    Calls Tryz.prog 56 #[c, scV pv pl, tV t ux uc, vp] w fun e w' => e = .returned (.tuple #[.int .i64 0, .bool true]) ∧ Ext w w' := by
  have HV := Lib.hid hV; have HL := Lib.hid hL
  have hmx : Tryz.prog.follows .mixedOrders = true := by kernel_rfl
  obtain ⟨qv, rfl⟩ := hV.form
  obtain ⟨ql, rfl⟩ := hL.form
  obtain ⟨_, ⟨Aa, ca, rfl, -, -⟩, ⟨Bb, cb, rfl, -, -⟩⟩ := ht.form
  clear hV hL ht
  have HE := Lib.hid (Ext.al2 w (.cells #[.pointer qv, .pointer ql] 81) (.cells #[.int .i64 t.op, .int .i64 t.n, .string t.nm, .int .i64 t.ty, .slice Aa t.args.length ca, .slice Bb t.cls.length cb] 41))
  obtain ⟨hb1, hb2⟩ := box_st w (.pointer qv) (.pointer ql) (.int .i64 t.op) (.int .i64 t.n) (.string t.nm) (.int .i64 t.ty) (.slice Aa t.args.length ca) (.slice Bb t.cls.length cb)
  have HB1 := Lib.hid hb1; have HB2 := Lib.hid hb2
  clear hb1 hb2
  go_enter Tryz.func56, Tryz.ntmps56
  go_wp2
  go_ret2
  exact ⟨rfl, HE.out⟩
set_option maxHeartbeats 2000000 in
set_option maxRecDepth 100000 in
theorem r_primitive (c : Value) (V L : Env) (pv pl : Value) (k : Nat) (t : Tm) (ux uc : Value) (vp : Value) (p0 p1 : Int) (l : List Int) (w : World) (hV : RB w V pv) (hL : RB w L pl) (ht : RT w k t ux uc) (hp : RInts w vp (p0 :: p1 :: l)) :
    Calls Tryz.prog 57 #[c, scV pv pl, tV t ux uc, vp] w fun e w' => e = .returned (.tuple #[.int .i64 0, .bool (decide (p0 = 0) && decide (p1 = 0))]) ∧ Ext w w' := by
  have HV := Lib.hid hV; have HL := Lib.hid hL
  have hmx : Tryz.prog.follows .mixedOrders = true := by kernel_rfl
  obtain ⟨qv, rfl⟩ := hV.form
  obtain ⟨ql, rfl⟩ := hL.form
  obtain ⟨_, ⟨Aa, ca, rfl, -, -⟩, ⟨Bb, cb, rfl, -, -⟩⟩ := ht.form
  clear hV hL ht
  have HE := Lib.hid (Ext.al2 w (.cells #[.pointer qv, .pointer ql] 81) (.cells #[.int .i64 t.op, .int .i64 t.n, .string t.nm, .int .i64 t.ty, .slice Aa t.args.length ca, .slice Bb t.cls.length cb] 41))
  obtain ⟨hb1, hb2⟩ := box_st w (.pointer qv) (.pointer ql) (.int .i64 t.op) (.int .i64 t.n) (.string t.nm) (.int .i64 t.ty) (.slice Aa t.args.length ca) (.slice Bb t.cls.length cb)
  have HB1 := Lib.hid hb1; have HB2 := Lib.hid hb2
  clear hb1 hb2
  have HP := Lib.hid hp
  obtain ⟨Ap, cp, rfl, -, -⟩ := hp.form
  obtain ⟨bp, op, rfl, -, f0⟩ := hp.at_ (k := 0) (by simp)
  obtain ⟨bq1, oq1, e1, -, f1⟩ := hp.at_ (k := 1) (by simp)
  cases e1
  simp only [Nat.add_zero, List.getElem_cons_zero, List.getElem_cons_succ] at f0 f1
  have HF0 := Lib.hid (HE.out.keep f0)
  have HF1 := Lib.hid (HE.out.keep f1)
  clear hp f0 f1
  have hl0 : 0 < (p0 :: p1 :: l).length := by simp
  have hl1 : 1 < (p0 :: p1 :: l).length := by simp
  generalize (p0 :: p1 :: l).length = n at *
  go_enter Tryz.func57, Tryz.ntmps57
  cases h0 : decide (p0 = 0)
  · have q0 : (p0 == 0) = false := by simpa using h0
    have H0 := Lib.hid h0
    clear h0
    go_wp2
    generalize World.alloc (World.alloc w _) _ = w1 at *
    have c0 := ExtOf.cell HF0.out
    have c1 := ExtOf.cell HF1.out
    refine wp_region_ext (w0 := w1) hmx (by kernel_rfl) (Ext.rf _) ?_
    repeat (first | go_big_quiet_step (fail) | quiet_step (fail))
    refine wpQuiet_nil ?_
    rintro _ ⟨⟨w9, hx⟩, rfl⟩
    have HX9 := Lib.hid (HE.out.tr hx)
    clear hx
    go_wp2
    go_ret2
    exact ⟨rfl, HX9.out⟩
  · have q0 : (p0 == 0) = true := by simpa using h0
    have H0 := Lib.hid h0
    clear h0
    cases h1 : decide (p1 = 0)
    · have q1 : (p1 == 0) = false := by simpa using h1
      have H1 := Lib.hid h1
      clear h1
      go_wp2
      generalize World.alloc (World.alloc w _) _ = w1 at *
      have c0 := ExtOf.cell HF0.out
      have c1 := ExtOf.cell HF1.out
      refine wp_region_ext (w0 := w1) hmx (by kernel_rfl) (Ext.rf _) ?_
      repeat (first | go_big_quiet_step (fail) | quiet_step (fail))
      refine wpQuiet_nil ?_
      rintro _ ⟨⟨w9, hx⟩, rfl⟩
      have HX9 := Lib.hid (HE.out.tr hx)
      clear hx
      go_wp2
      go_ret2
      exact ⟨rfl, HX9.out⟩
    · have q1 : (p1 == 0) = true := by simpa using h1
      have H1 := Lib.hid h1
      clear h1
      go_wp2
      generalize World.alloc (World.alloc w _) _ = w1 at *
      have c0 := ExtOf.cell HF0.out
      have c1 := ExtOf.cell HF1.out
      refine wp_region_ext (w0 := w1) hmx (by kernel_rfl) (Ext.rf _) ?_
      repeat (first | go_big_quiet_step (fail) | quiet_step (fail))
      refine wpQuiet_nil ?_
      rintro _ ⟨⟨w9, hx⟩, rfl⟩
      have HX9 := Lib.hid (HE.out.tr hx)
      clear hx
      go_wp2
      go_ret2
      exact ⟨rfl, HX9.out⟩
end Go.Proofs.YtogmjgccopmplaaGreat

/- rules.go: signatures; slices.Equal, SameInts, Producers. -/
namespace Go.Proofs.YtogmjgccopmplaaGreat
open Go.RowKit
/-- A row of integers that the call owns. -/
abbrev OwnL (w : World) (B : Nat) (v : Value) (l : List Int) : Prop := w.ownsRow B 3 1 v l.length (l.map (Value.int .i64))
theorem eqL_cons (a b : Int) (l m : List Int) : eqL (a :: l) (b :: m) = (decide (a = b) && eqL l m) := rfl
theorem eqL_len : ∀ (a b : List Int), ¬ a.length = b.length → eqL a b = false
  | [], [], h => by simp at h
  | [], _ :: _, _ => rfl
  | _ :: _, [], _ => rfl
  | x :: a, y :: b, h => by rw [eqL_cons, eqL_len a b (by simpa using h), Bool.and_false]
theorem own_shapeL {w : World} {B e size n : Nat} {v : Value} {xs : List Value} (h : w.ownsRow B e size v n xs) : ∃ A c, v = .slice A n c := by
  rcases h.2 with ⟨rfl, rfl⟩ | ⟨g, cap, _, hv, _⟩
  · exact ⟨none, 0, rfl⟩
  · exact ⟨_, cap, hv⟩
set_option maxHeartbeats 2000000 in
set_option maxRecDepth 100000 in
theorem equal_ints_any (v v' : Value) (a b : List Int) (w : World) (h : RInts w v a) (h' : RInts w v' b) :
    Calls Tryz.prog 125 #[v, v'] w fun e w' => e = .returned (.bool (eqL a b)) ∧ Ext w w' := by
  have HR := Lib.hid h
  have HR' := Lib.hid h'
  have hmx : Tryz.prog.follows .mixedOrders = true := by kernel_rfl
  obtain ⟨A, c, rfl, hc, hm⟩ := h.form
  obtain ⟨A', c', rfl, hc', hm'⟩ := h'.form
  clear h h'
  unfold maxLen at hm hm'
  go_enter Tryz.func125, Tryz.ntmps125
  by_cases hl : a.length = b.length
  · have HL := Lib.hid hl
    have hlt' : ((a.length : Int) == b.length) = true := by simp [hl]
    have hlt2 : ((a.length : Int) != b.length) = false := by simp [hl]
    have hle : a.length ≤ b.length := by omega
    clear hl
    go_wp2
    go_loopw [13] (fun i wr => ∃ k : Nat, k ≤ a.length ∧ i = .int .i64 k ∧ Ext w wr ∧ eqL a b = eqL (a.drop k) (b.drop k)) (fun i _ => a.length - (intOf i).toNat)
    case atStart => exact ⟨0, Nat.zero_le _, rfl, Ext.rf _, rfl⟩
    case round =>
      obtain ⟨k, hk, rfl, hb, hno⟩ := hrel
      have HN := Lib.hid hno; have HB := Lib.hid hb
      clear hno hb
      by_cases hlt : k < a.length
      · obtain ⟨b1, o1, rfl, hbl1, g0⟩ := HR.out.at_ hlt
        obtain ⟨b2, o2, rfl, hbl2, f0⟩ := HR'.out.at_ (k := k) (by omega)
        have g0 := ExtOf.cell (HB.out.keep g0)
        have f0 := ExtOf.cell (HB.out.keep f0)
        have HD := Lib.hid (drop_step hlt)
        have HD' := Lib.hid (drop_step (l := b) (k := k) (by omega))
        generalize a[k] = x at *
        generalize b[k] = y at *
        have hk2 : k < b.length := by omega
        by_cases hxy : x = y
        · have hq : (x != y) = false := by simp [hxy]
          have HQ : Hid (decide (x = y) = true) := decide_eq_true hxy
          clear hxy
          go_wp2
          refine wp_region_ext (w0 := wr) hmx (by kernel_rfl) (Ext.rf _) ?_
          repeat (first | go_big_quiet_step (fail) | quiet_step (fail))
          refine wpQuiet_nil ?_
          rintro _ ⟨⟨w9, hx⟩, rfl⟩
          have HX9 := Lib.hid (HB.out.tr hx)
          clear hx
          go_wp2
          go_roundw
          case rel => exact ⟨k + 1, by omega, by go_num, HX9.out, by rw [HN.out, HD.out, HD'.out, eqL_cons, HQ.out]; rfl⟩
          case measure => simp [intOf]; omega
        · have hq : (x != y) = true := by simp [hxy]
          have HQ : Hid (decide (x = y) = false) := decide_eq_false hxy
          clear hxy
          go_wp2
          refine wp_region_ext (w0 := wr) hmx (by kernel_rfl) (Ext.rf _) ?_
          repeat (first | go_big_quiet_step (fail) | quiet_step (fail))
          refine wpQuiet_nil ?_
          rintro _ ⟨⟨w9, hx⟩, rfl⟩
          have HX9 := Lib.hid (HB.out.tr hx)
          clear hx
          go_wp2
          go_ret
          exact ⟨ret_bool (by rw [HN.out, HD.out, HD'.out, eqL_cons, HQ.out]; rfl), HX9.out⟩
      · go_wp2
        go_ret
        have hlb : ¬ k < b.length := by have := HL.out; omega
        exact ⟨ret_bool (by rw [HN.out, drop_end hlt, drop_end hlb]; rfl), HB.out⟩
  · have hlt' : ((a.length : Int) == b.length) = false := by simp; omega
    have hlt2 : ((a.length : Int) != b.length) = true := by simp; omega
    have HQ := Lib.hid (eqL_len a b hl)
    go_wp2
    go_ret
    exact ⟨ret_bool HQ.out.symm, Ext.rf _⟩
set_option maxHeartbeats 2000000 in
set_option maxRecDepth 100000 in
theorem same_ints_any (v v' : Value) (a b : List Int) (w : World) (h : RInts w v a) (h' : RInts w v' b) :
    Calls Tryz.prog 13 #[v, v'] w fun e w' => e = .returned (.bool (eqL a b)) ∧ Ext w w' := by
  have HR := Lib.hid h
  have HR' := Lib.hid h'
  have hmx : Tryz.prog.follows .mixedOrders = true := by kernel_rfl
  obtain ⟨A, c, rfl, hc, hm⟩ := h.form
  obtain ⟨A', c', rfl, hc', hm'⟩ := h'.form
  clear h h'
  unfold maxLen at hm hm'
  go_enter Tryz.func13, Tryz.ntmps13
  by_cases hl : a.length = b.length
  · have HL := Lib.hid hl
    have hlt' : ((a.length : Int) == b.length) = true := by simp [hl]
    have hlt2 : ((a.length : Int) != b.length) = false := by simp [hl]
    have hle : a.length ≤ b.length := by omega
    clear hl
    go_wp2
    go_loopw [13] (fun i wr => ∃ k : Nat, k ≤ a.length ∧ i = .int .i64 k ∧ Ext w wr ∧ eqL a b = eqL (a.drop k) (b.drop k)) (fun i _ => a.length - (intOf i).toNat)
    case atStart => exact ⟨0, Nat.zero_le _, rfl, Ext.rf _, rfl⟩
    case round =>
      obtain ⟨k, hk, rfl, hb, hno⟩ := hrel
      have HN := Lib.hid hno; have HB := Lib.hid hb
      clear hno hb
      by_cases hlt : k < a.length
      · obtain ⟨b1, o1, rfl, hbl1, g0⟩ := HR.out.at_ hlt
        obtain ⟨b2, o2, rfl, hbl2, f0⟩ := HR'.out.at_ (k := k) (by omega)
        have g0 := ExtOf.cell (HB.out.keep g0)
        have f0 := ExtOf.cell (HB.out.keep f0)
        have HD := Lib.hid (drop_step hlt)
        have HD' := Lib.hid (drop_step (l := b) (k := k) (by omega))
        generalize a[k] = x at *
        generalize b[k] = y at *
        have hk2 : k < b.length := by omega
        by_cases hxy : x = y
        · have hq : (x != y) = false := by simp [hxy]
          have HQ : Hid (decide (x = y) = true) := decide_eq_true hxy
          clear hxy
          go_wp2
          refine wp_region_ext (w0 := wr) hmx (by kernel_rfl) (Ext.rf _) ?_
          repeat (first | go_big_quiet_step (fail) | quiet_step (fail))
          refine wpQuiet_nil ?_
          rintro _ ⟨⟨w9, hx⟩, rfl⟩
          have HX9 := Lib.hid (HB.out.tr hx)
          clear hx
          go_wp2
          go_roundw
          case rel => exact ⟨k + 1, by omega, by go_num, HX9.out, by rw [HN.out, HD.out, HD'.out, eqL_cons, HQ.out]; rfl⟩
          case measure => simp [intOf]; omega
        · have hq : (x != y) = true := by simp [hxy]
          have HQ : Hid (decide (x = y) = false) := decide_eq_false hxy
          clear hxy
          go_wp2
          refine wp_region_ext (w0 := wr) hmx (by kernel_rfl) (Ext.rf _) ?_
          repeat (first | go_big_quiet_step (fail) | quiet_step (fail))
          refine wpQuiet_nil ?_
          rintro _ ⟨⟨w9, hx⟩, rfl⟩
          have HX9 := Lib.hid (HB.out.tr hx)
          clear hx
          go_wp2
          go_ret
          exact ⟨ret_bool (by rw [HN.out, HD.out, HD'.out, eqL_cons, HQ.out]; rfl), HX9.out⟩
      · go_wp2
        go_ret
        have hlb : ¬ k < b.length := by have := HL.out; omega
        exact ⟨ret_bool (by rw [HN.out, drop_end hlt, drop_end hlb]; rfl), HB.out⟩
  · have hlt' : ((a.length : Int) == b.length) = false := by simp; omega
    have hlt2 : ((a.length : Int) != b.length) = true := by simp; omega
    have HQ := Lib.hid (eqL_len a b hl)
    go_wp2
    go_ret
    exact ⟨ret_bool HQ.out.symm, Ext.rf _⟩
end Go.Proofs.YtogmjgccopmplaaGreat

/- rules.go: the checker in memory; apply. -/
namespace Go.Proofs.YtogmjgccopmplaaGreat
open Go.RowKit
structure Sg where
  args : List Int
  res : Int
def sgF (f : Fn) : Sg := ⟨f.ps.map Prm.ty, f.res⟩
def sgX (d : Decl) (ty : Int) (x : Xtor) : Sg := if d.codata then ⟨prodL x ++ [ty], lastT x⟩ else ⟨prodL x, ty⟩
def RSgs (w : World) (v : Value) (l : List Sg) : Prop :=
  ∃ A c, v = .slice A l.length c ∧ l.length ≤ c ∧ c ≤ maxLen ∧
    ∀ i g, l[i]? = some g → ∃ b o va, A = some ⟨b, o, none⟩ ∧ w.cell? ⟨b, o + i * 2, none⟩ = some va ∧ w.cell? ⟨b, o + i * 2 + 1, none⟩ = some (.int .i64 g.res) ∧ RInts w va g.args
def RSgL (w : World) (v : Value) (l : List (List Sg)) : Prop :=
  ∃ A c, v = .slice A l.length c ∧ l.length ≤ c ∧ c ≤ maxLen ∧
    ∀ i g, l[i]? = some g → ∃ b o va, A = some ⟨b, o, none⟩ ∧ w.cell? ⟨b, o + i, none⟩ = some va ∧ RSgs w va g
section
variable {w w' : World} {v : Value}
theorem RSgs.below {l : List Sg} (h : RSgs w v l) (hb : Ext w w') : RSgs w' v l := by
  obtain ⟨A, c, rfl, h1, h2, h3⟩ := h
  refine ⟨A, c, rfl, h1, h2, fun i g hi => ?_⟩
  obtain ⟨b, o, va, e, c0, c1, hr⟩ := h3 i g hi
  exact ⟨b, o, va, e, hb.keep c0, hb.keep c1, hr.below hb⟩
theorem RSgL.below {l : List (List Sg)} (h : RSgL w v l) (hb : Ext w w') : RSgL w' v l := by
  obtain ⟨A, c, rfl, h1, h2, h3⟩ := h
  refine ⟨A, c, rfl, h1, h2, fun i g hi => ?_⟩
  obtain ⟨b, o, va, e, c0, hr⟩ := h3 i g hi
  exact ⟨b, o, va, e, hb.keep c0, hr.below hb⟩
theorem RSgs.form {l : List Sg} (h : RSgs w v l) : ∃ A c, v = .slice A l.length c ∧ l.length ≤ c ∧ c ≤ maxLen := by
  obtain ⟨A, c, h1, h2, h3, _⟩ := h; exact ⟨A, c, h1, h2, h3⟩
theorem RSgL.form {l : List (List Sg)} (h : RSgL w v l) : ∃ A c, v = .slice A l.length c ∧ l.length ≤ c ∧ c ≤ maxLen := by
  obtain ⟨A, c, h1, h2, h3, _⟩ := h; exact ⟨A, c, h1, h2, h3⟩
theorem RSgs.at_ {l : List Sg} {A : Option Addr} {n c : Nat} (h : RSgs w (.slice A n c) l) {i : Nat} {g : Sg} (hi : l[i]? = some g) :
    ∃ b o va, A = some ⟨b, o, none⟩ ∧ w.cell? ⟨b, o + i * 2, none⟩ = some va ∧ w.cell? ⟨b, o + i * 2 + 1, none⟩ = some (.int .i64 g.res) ∧ RInts w va g.args := by
  obtain ⟨A', c', he, h1, h2, h3⟩ := h
  cases he
  exact h3 i g hi
theorem RSgL.at_ {l : List (List Sg)} {A : Option Addr} {n c : Nat} (h : RSgL w (.slice A n c) l) {i : Nat} {g : List Sg} (hi : l[i]? = some g) :
    ∃ b o va, A = some ⟨b, o, none⟩ ∧ w.cell? ⟨b, o + i, none⟩ = some va ∧ RSgs w va g := by
  obtain ⟨A', c', he, h1, h2, h3⟩ := h
  cases he
  exact h3 i g hi
end
def xsFrom : Nat → List Decl → List (List Sg)
  | _, [] => []
  | u, d :: r => d.xtors.map (sgX d (u + 1)) :: xsFrom (u + 1) r
def xsP (P : Pg) : List (List Sg) := [] :: xsFrom 0 P.decls
theorem xsFrom_at : ∀ (l : List Decl) (u i : Nat) (d : Decl), l[i]? = some d → (xsFrom u l)[i]? = some (d.xtors.map (sgX d ((u + i : Nat) + 1)))
  | [], _, _, _, h => by simp at h
  | e :: r, u, 0, d, h => by simp at h; subst h; simp [xsFrom]
  | e :: r, u, i + 1, d, h => by
    simp only [List.getElem?_cons_succ] at h
    rw [xsFrom, List.getElem?_cons_succ, xsFrom_at r (u + 1) i d h, show u + 1 + i = u + (i + 1) by omega]
theorem xsFrom_len : ∀ (l : List Decl) (u : Nat), (xsFrom u l).length = l.length
  | [], _ => rfl
  | _ :: r, u => by simp [xsFrom, xsFrom_len r]
theorem xsP_len (P : Pg) : (xsP P).length = P.decls.length + 1 := by simp [xsP, xsFrom_len]
theorem xsP_at {P : Pg} {u : Nat} {d : Decl} (h : P.decls[u]? = some d) : (xsP P)[u + 1]? = some (d.xtors.map (sgX d (u + 1))) := by
  have := xsFrom_at P.decls 0 u d h
  rw [Nat.zero_add] at this
  exact this
/-- The checker, without its rules. -/
structure RCk (w : World) (g : Nat) (P : Pg) : Prop where
  funs : ∃ vf, w.cell? ⟨g, 0, none⟩ = some vf ∧ RSgs w vf (P.funs.map sgF)
  xtors : ∃ vx, w.cell? ⟨g, 1, none⟩ = some vx ∧ RSgL w vx (xsP P)
theorem RCk.below {w w' : World} {g : Nat} {P : Pg} (h : RCk w g P) (hb : Ext w w') : RCk w' g P :=
  ⟨h.funs.elim fun vf ⟨h1, h2⟩ => ⟨vf, hb.keep h1, h2.below hb⟩, h.xtors.elim fun vf ⟨h1, h2⟩ => ⟨vf, hb.keep h1, h2.below hb⟩⟩
set_option maxHeartbeats 2000000 in
set_option maxRecDepth 100000 in
theorem apply_any (va vp : Value) (g : Sg) (ps : List Int) (w : World) (h : RInts w va g.args) (hp : RInts w vp ps) :
    Calls Tryz.prog 96 #[.agg #[va, .int .i64 g.res], vp] w fun e w' => e = .returned (.tuple #[.int .i64 g.res, .bool (eqL ps g.args)]) ∧ Ext w w' := by
  have H := Lib.hid h; have HP := Lib.hid hp
  have hmx : Tryz.prog.follows .mixedOrders = true := by kernel_rfl
  obtain ⟨A, c, rfl, -, -⟩ := h.form
  obtain ⟨A', c', rfl, -, -⟩ := hp.form
  clear h hp
  have HE := Lib.hid (Ext.al w (.cells #[.slice A g.args.length c, .int .i64 g.res] 107))
  have HB := Lib.hid (heapNew w (.cells #[.slice A g.args.length c, .int .i64 g.res] 107))
  go_enter Tryz.func96, Tryz.ntmps96
  go_upto_region 1 with fail
  generalize World.alloc w _ = w1 at *
  have k0 := ExtOf.cell (cellAt HB.out 0)
  have k1 := ExtOf.cell (cellAt HB.out 1)
  refine wp_region_ext (w0 := w1) hmx (by kernel_rfl) (Ext.rf _) ?_
  repeat (first | go_big_quiet_step ((go_at_call 125; with_reducible exact Calls.ext_of (equal_ints_any _ _ ps g.args _ ((HP.out.below HE.out).below (ExtOf.ext _)) ((H.out.below HE.out).below (ExtOf.ext _))))) | quiet_step ((go_at_call 125; with_reducible exact Calls.ext_of (equal_ints_any _ _ ps g.args _ ((HP.out.below HE.out).below (ExtOf.ext _)) ((H.out.below HE.out).below (ExtOf.ext _))))))
  refine wpQuiet_nil ?_
  rintro _ ⟨⟨w9, hx⟩, rfl⟩
  have HX9 := Lib.hid (HE.out.tr hx)
  clear hx k0 k1
  go_wp2
  go_ret2
  exact ⟨rfl, HX9.out⟩
end Go.Proofs.YtogmjgccopmplaaGreat

/- rules.go: the rules of the operators, continued. -/
namespace Go.Proofs.YtogmjgccopmplaaGreat
open Go.RowKit
def jmpV (o : Option Int) (p : Int) : Bool := match o with | some y => decide (p = y) | none => false
def jmpR (o : Option Int) (p ty : Int) : TyR := match o with | some y => okR (decide (p = y)) ty | none => .inl []
set_option maxHeartbeats 2000000 in
set_option maxRecDepth 100000 in
theorem r_zero (c : Value) (V L : Env) (pv pl : Value) (k : Nat) (t : Tm) (ux uc : Value) (vp : Value) (p0 p1 p2 : Int) (l : List Int) (w : World) (hV : RB w V pv) (hL : RB w L pl) (ht : RT w k t ux uc) (hp : RInts w vp (p0 :: p1 :: p2 :: l)) :
    Calls Tryz.prog 58 #[c, scV pv pl, tV t ux uc, vp] w fun e w' => e = .returned (.tuple #[.int .i64 p1, .bool (decide (p0 = 0) && decide (p1 = p2))]) ∧ Ext w w' := by
  have HV := Lib.hid hV; have HL := Lib.hid hL
  have hmx : Tryz.prog.follows .mixedOrders = true := by kernel_rfl
  obtain ⟨qv, rfl⟩ := hV.form
  obtain ⟨ql, rfl⟩ := hL.form
  obtain ⟨_, ⟨Aa, ca, rfl, -, -⟩, ⟨Bb, cb, rfl, -, -⟩⟩ := ht.form
  clear hV hL ht
  have HE := Lib.hid (Ext.al2 w (.cells #[.pointer qv, .pointer ql] 81) (.cells #[.int .i64 t.op, .int .i64 t.n, .string t.nm, .int .i64 t.ty, .slice Aa t.args.length ca, .slice Bb t.cls.length cb] 41))
  obtain ⟨hb1, hb2⟩ := box_st w (.pointer qv) (.pointer ql) (.int .i64 t.op) (.int .i64 t.n) (.string t.nm) (.int .i64 t.ty) (.slice Aa t.args.length ca) (.slice Bb t.cls.length cb)
  have HB1 := Lib.hid hb1; have HB2 := Lib.hid hb2
  clear hb1 hb2
  have HP := Lib.hid hp
  obtain ⟨Ap, cp, rfl, -, -⟩ := hp.form
  obtain ⟨bp, op, rfl, -, f0⟩ := hp.at_ (k := 0) (by simp)
  obtain ⟨bq1, oq1, e1, -, f1⟩ := hp.at_ (k := 1) (by simp)
  cases e1
  obtain ⟨bq2, oq2, e2, -, f2⟩ := hp.at_ (k := 2) (by simp)
  cases e2
  simp only [Nat.add_zero, List.getElem_cons_zero, List.getElem_cons_succ] at f0 f1 f2
  have HF0 := Lib.hid (HE.out.keep f0)
  have HF1 := Lib.hid (HE.out.keep f1)
  have HF2 := Lib.hid (HE.out.keep f2)
  clear hp f0 f1 f2
  have hl0 : 0 < (p0 :: p1 :: p2 :: l).length := by simp
  have hl1 : 1 < (p0 :: p1 :: p2 :: l).length := by simp
  have hl2 : 2 < (p0 :: p1 :: p2 :: l).length := by simp
  generalize (p0 :: p1 :: p2 :: l).length = n at *
  go_enter Tryz.func58, Tryz.ntmps58
  cases h0 : decide (p0 = 0)
  · have q0 : (p0 == 0) = false := by simpa using h0
    have H0 := Lib.hid h0
    clear h0
    go_upto_region 1 with fail
    generalize World.alloc (World.alloc w _) _ = w1 at *
    have c0 := ExtOf.cell HF0.out
    have c1 := ExtOf.cell HF1.out
    have c2 := ExtOf.cell HF2.out
    refine wp_region_ext (w0 := w1) hmx (by kernel_rfl) (Ext.rf _) ?_
    repeat (first | go_big_quiet_step (fail) | quiet_step (fail))
    refine wpQuiet_nil ?_
    rintro _ ⟨⟨w9, hx⟩, rfl⟩
    have HX9 := Lib.hid (HE.out.tr hx)
    clear hx
    go_wp2
    go_ret2
    exact ⟨rfl, HX9.out⟩
  · have q0 : (p0 == 0) = true := by simpa using h0
    have H0 := Lib.hid h0
    clear h0
    cases h1 : decide (p1 = p2)
    · have q1 : (p1 == p2) = false := by simpa using h1
      have H1 := Lib.hid h1
      clear h1
      go_upto_region 1 with fail
      generalize World.alloc (World.alloc w _) _ = w1 at *
      have c0 := ExtOf.cell HF0.out
      have c1 := ExtOf.cell HF1.out
      have c2 := ExtOf.cell HF2.out
      refine wp_region_ext (w0 := w1) hmx (by kernel_rfl) (Ext.rf _) ?_
      repeat (first | go_big_quiet_step (fail) | quiet_step (fail))
      refine wpQuiet_nil ?_
      rintro _ ⟨⟨w9, hx⟩, rfl⟩
      have HX9 := Lib.hid (HE.out.tr hx)
      clear hx
      go_wp2
      go_ret2
      exact ⟨rfl, HX9.out⟩
    · have q1 : (p1 == p2) = true := by simpa using h1
      have H1 := Lib.hid h1
      clear h1
      go_upto_region 1 with fail
      generalize World.alloc (World.alloc w _) _ = w1 at *
      have c0 := ExtOf.cell HF0.out
      have c1 := ExtOf.cell HF1.out
      have c2 := ExtOf.cell HF2.out
      refine wp_region_ext (w0 := w1) hmx (by kernel_rfl) (Ext.rf _) ?_
      repeat (first | go_big_quiet_step (fail) | quiet_step (fail))
      refine wpQuiet_nil ?_
      rintro _ ⟨⟨w9, hx⟩, rfl⟩
      have HX9 := Lib.hid (HE.out.tr hx)
      clear hx
      go_wp2
      go_ret2
      exact ⟨rfl, HX9.out⟩
set_option maxHeartbeats 2000000 in
set_option maxRecDepth 100000 in
theorem r_emit (c : Value) (V L : Env) (pv pl : Value) (k : Nat) (t : Tm) (ux uc : Value) (vp : Value) (p0 p1 : Int) (l : List Int) (w : World) (hV : RB w V pv) (hL : RB w L pl) (ht : RT w k t ux uc) (hp : RInts w vp (p0 :: p1 :: l)) :
    Calls Tryz.prog 64 #[c, scV pv pl, tV t ux uc, vp] w fun e w' => e = .returned (.tuple #[.int .i64 p1, .bool (decide (p0 = 0))]) ∧ Ext w w' := by
  have HV := Lib.hid hV; have HL := Lib.hid hL
  have hmx : Tryz.prog.follows .mixedOrders = true := by kernel_rfl
  obtain ⟨qv, rfl⟩ := hV.form
  obtain ⟨ql, rfl⟩ := hL.form
  obtain ⟨_, ⟨Aa, ca, rfl, -, -⟩, ⟨Bb, cb, rfl, -, -⟩⟩ := ht.form
  clear hV hL ht
  have HE := Lib.hid (Ext.al2 w (.cells #[.pointer qv, .pointer ql] 81) (.cells #[.int .i64 t.op, .int .i64 t.n, .string t.nm, .int .i64 t.ty, .slice Aa t.args.length ca, .slice Bb t.cls.length cb] 41))
  obtain ⟨hb1, hb2⟩ := box_st w (.pointer qv) (.pointer ql) (.int .i64 t.op) (.int .i64 t.n) (.string t.nm) (.int .i64 t.ty) (.slice Aa t.args.length ca) (.slice Bb t.cls.length cb)
  have HB1 := Lib.hid hb1; have HB2 := Lib.hid hb2
  clear hb1 hb2
  have HP := Lib.hid hp
  obtain ⟨Ap, cp, rfl, -, -⟩ := hp.form
  obtain ⟨bp, op, rfl, -, f0⟩ := hp.at_ (k := 0) (by simp)
  obtain ⟨bq1, oq1, e1, -, f1⟩ := hp.at_ (k := 1) (by simp)
  cases e1
  simp only [Nat.add_zero, List.getElem_cons_zero, List.getElem_cons_succ] at f0 f1
  have HF0 := Lib.hid (HE.out.keep f0)
  have HF1 := Lib.hid (HE.out.keep f1)
  clear hp f0 f1
  have hl0 : 0 < (p0 :: p1 :: l).length := by simp
  have hl1 : 1 < (p0 :: p1 :: l).length := by simp
  generalize (p0 :: p1 :: l).length = n at *
  go_enter Tryz.func64, Tryz.ntmps64
  go_upto_region 1 with fail
  generalize World.alloc (World.alloc w _) _ = w1 at *
  have c0 := ExtOf.cell HF0.out
  have c1 := ExtOf.cell HF1.out
  refine wp_region_ext (w0 := w1) hmx (by kernel_rfl) (Ext.rf _) ?_
  repeat (first | go_big_quiet_step (fail) | quiet_step (fail))
  refine wpQuiet_nil ?_
  rintro _ ⟨⟨w9, hx⟩, rfl⟩
  have HX9 := Lib.hid (HE.out.tr hx)
  clear hx
  go_wp2
  go_ret2
  exact ⟨rfl, HX9.out⟩
set_option maxHeartbeats 2000000 in
set_option maxRecDepth 100000 in
theorem r_let (c : Value) (V L : Env) (pv pl : Value) (k : Nat) (t : Tm) (ux uc : Value) (vp : Value) (p0 p1 : Int) (l : List Int) (w : World) (hV : RB w V pv) (hL : RB w L pl) (ht : RT w k t ux uc) (hp : RInts w vp (p0 :: p1 :: l)) :
    Calls Tryz.prog 62 #[c, scV pv pl, tV t ux uc, vp] w fun e w' => e = .returned (.tuple #[.int .i64 p1, .bool (decide (p0 = t.ty))]) ∧ Ext w w' := by
  have HV := Lib.hid hV; have HL := Lib.hid hL
  have hmx : Tryz.prog.follows .mixedOrders = true := by kernel_rfl
  obtain ⟨qv, rfl⟩ := hV.form
  obtain ⟨ql, rfl⟩ := hL.form
  obtain ⟨_, ⟨Aa, ca, rfl, -, -⟩, ⟨Bb, cb, rfl, -, -⟩⟩ := ht.form
  clear hV hL ht
  have HE := Lib.hid (Ext.al2 w (.cells #[.pointer qv, .pointer ql] 81) (.cells #[.int .i64 t.op, .int .i64 t.n, .string t.nm, .int .i64 t.ty, .slice Aa t.args.length ca, .slice Bb t.cls.length cb] 41))
  obtain ⟨hb1, hb2⟩ := box_st w (.pointer qv) (.pointer ql) (.int .i64 t.op) (.int .i64 t.n) (.string t.nm) (.int .i64 t.ty) (.slice Aa t.args.length ca) (.slice Bb t.cls.length cb)
  have HB1 := Lib.hid hb1; have HB2 := Lib.hid hb2
  clear hb1 hb2
  have HP := Lib.hid hp
  obtain ⟨Ap, cp, rfl, -, -⟩ := hp.form
  obtain ⟨bp, op, rfl, -, f0⟩ := hp.at_ (k := 0) (by simp)
  obtain ⟨bq1, oq1, e1, -, f1⟩ := hp.at_ (k := 1) (by simp)
  cases e1
  simp only [Nat.add_zero, List.getElem_cons_zero, List.getElem_cons_succ] at f0 f1
  have HF0 := Lib.hid (HE.out.keep f0)
  have HF1 := Lib.hid (HE.out.keep f1)
  clear hp f0 f1
  have hl0 : 0 < (p0 :: p1 :: l).length := by simp
  have hl1 : 1 < (p0 :: p1 :: l).length := by simp
  generalize (p0 :: p1 :: l).length = n at *
  go_enter Tryz.func62, Tryz.ntmps62
  go_upto_region 1 with fail
  generalize World.alloc (World.alloc w _) _ = w1 at *
  have c0 := ExtOf.cell HF0.out
  have c1 := ExtOf.cell HF1.out
  have n3 := ExtOf.cell (cellAt HB2.out 3)
  refine wp_region_ext (w0 := w1) hmx (by kernel_rfl) (Ext.rf _) ?_
  repeat (first | go_big_quiet_step (fail) | quiet_step (fail))
  refine wpQuiet_nil ?_
  rintro _ ⟨⟨w9, hx⟩, rfl⟩
  have HX9 := Lib.hid (HE.out.tr hx)
  clear hx
  go_wp2
  go_ret2
  exact ⟨rfl, HX9.out⟩
set_option maxHeartbeats 2000000 in
set_option maxRecDepth 100000 in
theorem r_label (c : Value) (V L : Env) (pv pl : Value) (k : Nat) (t : Tm) (ux uc : Value) (vp : Value) (p0 : Int) (l : List Int) (w : World) (hV : RB w V pv) (hL : RB w L pl) (ht : RT w k t ux uc) (hp : RInts w vp (p0 :: l)) :
    Calls Tryz.prog 65 #[c, scV pv pl, tV t ux uc, vp] w fun e w' => e = .returned (.tuple #[.int .i64 t.ty, .bool (decide (p0 = t.ty))]) ∧ Ext w w' := by
  have HV := Lib.hid hV; have HL := Lib.hid hL
  have hmx : Tryz.prog.follows .mixedOrders = true := by kernel_rfl
  obtain ⟨qv, rfl⟩ := hV.form
  obtain ⟨ql, rfl⟩ := hL.form
  obtain ⟨_, ⟨Aa, ca, rfl, -, -⟩, ⟨Bb, cb, rfl, -, -⟩⟩ := ht.form
  clear hV hL ht
  have HE := Lib.hid (Ext.al2 w (.cells #[.pointer qv, .pointer ql] 81) (.cells #[.int .i64 t.op, .int .i64 t.n, .string t.nm, .int .i64 t.ty, .slice Aa t.args.length ca, .slice Bb t.cls.length cb] 41))
  obtain ⟨hb1, hb2⟩ := box_st w (.pointer qv) (.pointer ql) (.int .i64 t.op) (.int .i64 t.n) (.string t.nm) (.int .i64 t.ty) (.slice Aa t.args.length ca) (.slice Bb t.cls.length cb)
  have HB1 := Lib.hid hb1; have HB2 := Lib.hid hb2
  clear hb1 hb2
  have HP := Lib.hid hp
  obtain ⟨Ap, cp, rfl, -, -⟩ := hp.form
  obtain ⟨bp, op, rfl, -, f0⟩ := hp.at_ (k := 0) (by simp)
  simp only [Nat.add_zero, List.getElem_cons_zero, List.getElem_cons_succ] at f0
  have HF0 := Lib.hid (HE.out.keep f0)
  clear hp f0
  have hl0 : 0 < (p0 :: l).length := by simp
  generalize (p0 :: l).length = n at *
  go_enter Tryz.func65, Tryz.ntmps65
  go_upto_region 1 with fail
  generalize World.alloc (World.alloc w _) _ = w1 at *
  have c0 := ExtOf.cell HF0.out
  have n3 := ExtOf.cell (cellAt HB2.out 3)
  refine wp_region_ext (w0 := w1) hmx (by kernel_rfl) (Ext.rf _) ?_
  repeat (first | go_big_quiet_step (fail) | quiet_step (fail))
  refine wpQuiet_nil ?_
  rintro _ ⟨⟨w9, hx⟩, rfl⟩
  have HX9 := Lib.hid (HE.out.tr hx)
  clear hx
  go_wp2
  go_ret2
  exact ⟨rfl, HX9.out⟩
set_option maxHeartbeats 2000000 in
set_option maxRecDepth 100000 in
theorem r_jump (c : Value) (V L : Env) (pv pl : Value) (k : Nat) (t : Tm) (ux uc : Value) (vp : Value) (p0 : Int) (l : List Int) (w : World) (hV : RB w V pv) (hL : RB w L pl) (ht : RT w k t ux uc) (hp : RInts w vp (p0 :: l)) :
    Calls Tryz.prog 66 #[c, scV pv pl, tV t ux uc, vp] w fun e w' => e = .returned (.tuple #[.int .i64 t.ty, .bool (jmpV (findE L t.nm) p0)]) ∧ Ext w w' := by
  have HV := Lib.hid hV; have HL := Lib.hid hL
  have hmx : Tryz.prog.follows .mixedOrders = true := by kernel_rfl
  obtain ⟨qv, rfl⟩ := hV.form
  obtain ⟨ql, rfl⟩ := hL.form
  obtain ⟨_, ⟨Aa, ca, rfl, -, -⟩, ⟨Bb, cb, rfl, -, -⟩⟩ := ht.form
  clear hV hL ht
  have HE := Lib.hid (Ext.al2 w (.cells #[.pointer qv, .pointer ql] 81) (.cells #[.int .i64 t.op, .int .i64 t.n, .string t.nm, .int .i64 t.ty, .slice Aa t.args.length ca, .slice Bb t.cls.length cb] 41))
  obtain ⟨hb1, hb2⟩ := box_st w (.pointer qv) (.pointer ql) (.int .i64 t.op) (.int .i64 t.n) (.string t.nm) (.int .i64 t.ty) (.slice Aa t.args.length ca) (.slice Bb t.cls.length cb)
  have HB1 := Lib.hid hb1; have HB2 := Lib.hid hb2
  clear hb1 hb2
  obtain ⟨fo, hfo⟩ : ∃ fo, findE L t.nm = fo := ⟨_, rfl⟩
  rw [hfo]
  have HFO := Lib.hid hfo
  clear hfo
  have HP := Lib.hid hp
  obtain ⟨Ap, cp, rfl, -, -⟩ := hp.form
  obtain ⟨bp, op, rfl, -, f0⟩ := hp.at_ (k := 0) (by simp)
  simp only [Nat.add_zero, List.getElem_cons_zero, List.getElem_cons_succ] at f0
  have HF0 := Lib.hid (HE.out.keep f0)
  clear hp f0
  have hl0 : 0 < (p0 :: l).length := by simp
  generalize (p0 :: l).length = n at *
  have d1 := cellAt HB1.out 1
  have n2 := cellAt HB2.out 2
  go_enter Tryz.func66, Tryz.ntmps66
  go_wp2_with fail
  generalize World.alloc (World.alloc w _) _ = w1 at *
  clear d1 n2
  (with_reducible refine (bfind_any L _ t.nm _ (HL.out.below HE.out)).mono ?_)
  rw [HFO.out]
  rintro e w2 ⟨rfl, rfl⟩
  cases fo with
  | none =>
    rw [show foundR none = .tuple #[.int .i64 0, .bool false] from rfl]
    go_upto_region 2 with fail
    have c0 := ExtOf.cell HF0.out
    have n3 := ExtOf.cell (cellAt HB2.out 3)
    refine wp_region_ext (w0 := w1) hmx (by kernel_rfl) (Ext.rf _) ?_
    repeat (first | go_big_quiet_step (fail) | quiet_step (fail))
    refine wpQuiet_nil ?_
    rintro _ ⟨⟨w9, hx⟩, rfl⟩
    have HX9 := Lib.hid (HE.out.tr hx)
    clear hx
    go_wp2
    go_ret2
    exact ⟨rfl, HX9.out⟩
  | some y =>
    rw [show foundR (some y) = .tuple #[.int .i64 y, .bool true] from rfl]
    go_upto_region 2 with fail
    have c0 := ExtOf.cell HF0.out
    have n3 := ExtOf.cell (cellAt HB2.out 3)
    refine wp_region_ext (w0 := w1) hmx (by kernel_rfl) (Ext.rf _) ?_
    repeat (first | go_big_quiet_step (fail) | quiet_step (fail))
    refine wpQuiet_nil ?_
    rintro _ ⟨⟨w9, hx⟩, rfl⟩
    have HX9 := Lib.hid (HE.out.tr hx)
    clear hx
    go_wp2
    go_ret2
    exact ⟨rfl, HX9.out⟩
set_option maxHeartbeats 2000000 in
set_option maxRecDepth 100000 in
theorem r_call (c : Value) (V L : Env) (pv pl : Value) (k : Nat) (t : Tm) (ux uc : Value) (vp : Value) (gc : Nat) (P : Pg) (u : Nat) (f : Fn) (ps : List Int) (w : World) (hV : RB w V pv) (hL : RB w L pl) (ht : RT w k t ux uc) (hc : c = .pointer (some ⟨gc, 0, none⟩)) (hk : RCk w gc P) (hn : t.n = (u : Int)) (hf : P.funs[u]? = some f) (hfl : P.funs.length ≤ 1000000) (hp : RInts w vp ps) :
    Calls Tryz.prog 63 #[c, scV pv pl, tV t ux uc, vp] w fun e w' => e = .returned (.tuple #[.int .i64 f.res, .bool (eqL ps (f.ps.map Prm.ty))]) ∧ Ext w w' := by
  have HV := Lib.hid hV; have HL := Lib.hid hL
  have hmx : Tryz.prog.follows .mixedOrders = true := by kernel_rfl
  obtain ⟨qv, rfl⟩ := hV.form
  obtain ⟨ql, rfl⟩ := hL.form
  obtain ⟨_, ⟨Aa, ca, rfl, -, -⟩, ⟨Bb, cb, rfl, -, -⟩⟩ := ht.form
  clear hV hL ht
  have HE := Lib.hid (Ext.al2 w (.cells #[.pointer qv, .pointer ql] 81) (.cells #[.int .i64 t.op, .int .i64 t.n, .string t.nm, .int .i64 t.ty, .slice Aa t.args.length ca, .slice Bb t.cls.length cb] 41))
  obtain ⟨hb1, hb2⟩ := box_st w (.pointer qv) (.pointer ql) (.int .i64 t.op) (.int .i64 t.n) (.string t.nm) (.int .i64 t.ty) (.slice Aa t.args.length ca) (.slice Bb t.cls.length cb)
  have HB1 := Lib.hid hb1; have HB2 := Lib.hid hb2
  clear hb1 hb2
  subst hc
  have HP := Lib.hid hp
  obtain ⟨Ap, cp, rfl, -, -⟩ := hp.form
  clear hp
  obtain ⟨sg, hsg⟩ : ∃ sg, sgF f = sg := ⟨_, rfl⟩
  have hfs : (P.funs.map sgF)[u]? = some sg := by rw [List.getElem?_map, hf, ← hsg]; rfl
  have HSG : Hid (f.res = sg.res ∧ f.ps.map Prm.ty = sg.args) := by rw [← hsg]; exact ⟨rfl, rfl⟩
  have hul : u < (P.funs.map sgF).length := (List.getElem?_eq_some_iff.1 hfs).1
  have hml : (P.funs.map sgF).length ≤ 1000000 := by rw [List.length_map]; exact hfl
  obtain ⟨⟨vf, g0, hrs⟩, -⟩ := hk.below HE.out
  obtain ⟨Af, cf, rfl, -, -⟩ := hrs.form
  obtain ⟨bs, os, vs, rfl, s0, s1, hsa⟩ := hrs.at_ hfs
  obtain ⟨As, cs, rfl, -, -⟩ := hsa.form
  have HSA := Lib.hid hsa
  have HG0 := Lib.hid g0; have HS0 := Lib.hid s0; have HS1 := Lib.hid s1
  clear hrs hsa hk hf hsg hfs g0 s0 s1
  generalize (P.funs.map sgF).length = nf at *
  have HNN := Lib.hid hn
  clear hn
  go_enter Tryz.func63, Tryz.ntmps63
  go_upto_region 1 with fail
  generalize World.alloc (World.alloc w _) _ = w1 at *
  have g0 := ExtOf.cell HG0.out
  have s0 := ExtOf.cell HS0.out
  have s1 := ExtOf.cell HS1.out
  have n1 : w1.cell? ⟨w.heap.size + 1, 1, none⟩ = some (.int .i64 t.n) := cellAt HB2.out 1
  rw [HNN.out] at n1
  have n1 := ExtOf.cell n1
  refine wp_region_ext (w0 := w1) hmx (by kernel_rfl) (Ext.rf _) ?_
  repeat (first | go_big_quiet_step ((go_at_call 96; with_reducible exact Calls.ext_of (apply_any _ _ sg ps _ (HSA.out.below (ExtOf.ext _)) ((HP.out.below HE.out).below (ExtOf.ext _))))) | quiet_step ((go_at_call 96; with_reducible exact Calls.ext_of (apply_any _ _ sg ps _ (HSA.out.below (ExtOf.ext _)) ((HP.out.below HE.out).below (ExtOf.ext _))))))
  refine wpQuiet_nil ?_
  rintro _ ⟨⟨w9, hx⟩, rfl⟩
  have HX9 := Lib.hid (HE.out.tr hx)
  clear hx
  go_wp2
  go_ret2
  exact ⟨by rw [HSG.out.1, HSG.out.2]; rfl, HX9.out⟩
set_option maxHeartbeats 2000000 in
set_option maxRecDepth 100000 in
theorem r_xtor (c : Value) (V L : Env) (pv pl : Value) (k : Nat) (t : Tm) (ux uc : Value) (vp : Value) (gc : Nat) (P : Pg) (u m : Nat) (d : Decl) (x : Xtor) (ps : List Int) (w : World) (hV : RB w V pv) (hL : RB w L pl) (ht : RT w k t ux uc) (hc : c = .pointer (some ⟨gc, 0, none⟩)) (hk : RCk w gc P) (hn : t.n = (m : Int)) (hty : t.ty = ((u + 1 : Nat) : Int)) (hf : P.decls[u]? = some d) (hx : d.xtors[m]? = some x) (hdl : P.decls.length ≤ 1000000) (hxl : d.xtors.length ≤ 1000000) (hp : RInts w vp ps) :
    Calls Tryz.prog 59 #[c, scV pv pl, tV t ux uc, vp] w fun e w' => e = .returned (.tuple #[.int .i64 (sgX d (u + 1) x).res, .bool (eqL ps (sgX d (u + 1) x).args)]) ∧ Ext w w' := by
  have HV := Lib.hid hV; have HL := Lib.hid hL
  have hmx : Tryz.prog.follows .mixedOrders = true := by kernel_rfl
  obtain ⟨qv, rfl⟩ := hV.form
  obtain ⟨ql, rfl⟩ := hL.form
  obtain ⟨_, ⟨Aa, ca, rfl, -, -⟩, ⟨Bb, cb, rfl, -, -⟩⟩ := ht.form
  clear hV hL ht
  have HE := Lib.hid (Ext.al2 w (.cells #[.pointer qv, .pointer ql] 81) (.cells #[.int .i64 t.op, .int .i64 t.n, .string t.nm, .int .i64 t.ty, .slice Aa t.args.length ca, .slice Bb t.cls.length cb] 41))
  obtain ⟨hb1, hb2⟩ := box_st w (.pointer qv) (.pointer ql) (.int .i64 t.op) (.int .i64 t.n) (.string t.nm) (.int .i64 t.ty) (.slice Aa t.args.length ca) (.slice Bb t.cls.length cb)
  have HB1 := Lib.hid hb1; have HB2 := Lib.hid hb2
  clear hb1 hb2
  subst hc
  have HP := Lib.hid hp
  obtain ⟨Ap, cp, rfl, -, -⟩ := hp.form
  clear hp
  obtain ⟨sg, hsg⟩ : ∃ sg, sgX d (u + 1) x = sg := ⟨_, rfl⟩
  have hfs : (d.xtors.map (sgX d (u + 1)))[m]? = some sg := by rw [List.getElem?_map, hx, ← hsg]; rfl
  have HSG := Lib.hid hsg
  have hml : m < (d.xtors.map (sgX d (u + 1))).length := (List.getElem?_eq_some_iff.1 hfs).1
  have hmx2 : (d.xtors.map (sgX d (u + 1))).length ≤ 1000000 := by rw [List.length_map]; exact hxl
  have hxs := xsP_at hf
  have hul : u + 1 < (xsP P).length := (List.getElem?_eq_some_iff.1 hxs).1
  have hulm : (xsP P).length ≤ 1000001 := by rw [xsP_len]; omega
  obtain ⟨-, ⟨vx, g1, hrs⟩⟩ := hk.below HE.out
  obtain ⟨Ax, cx, rfl, -, -⟩ := hrs.form
  obtain ⟨bx, ox, vr, rfl, r0, hrow⟩ := hrs.at_ hxs
  obtain ⟨Ar, cr, rfl, -, -⟩ := hrow.form
  obtain ⟨bs, os, vs, rfl, s0, s1, hsa⟩ := hrow.at_ hfs
  obtain ⟨As, cs, rfl, -, -⟩ := hsa.form
  have HSA := Lib.hid hsa
  have HG1 := Lib.hid g1; have HR0 := Lib.hid r0; have HS0 := Lib.hid s0; have HS1 := Lib.hid s1
  clear hrs hsa hk hf hsg hfs hrow hxs hx g1 r0 s0 s1
  generalize (xsP P).length = nx at *
  generalize (d.xtors.map (sgX d (u + 1))).length = nr at *
  have HNN := Lib.hid hn
  have HTY := Lib.hid hty
  clear hn hty
  go_enter Tryz.func59, Tryz.ntmps59
  go_upto_region 1 with fail
  generalize World.alloc (World.alloc w _) _ = w1 at *
  have g1 := ExtOf.cell HG1.out
  have r0 := ExtOf.cell HR0.out
  have s0 := ExtOf.cell HS0.out
  have s1 := ExtOf.cell HS1.out
  have n1 : w1.cell? ⟨w.heap.size + 1, 1, none⟩ = some (.int .i64 t.n) := cellAt HB2.out 1
  rw [HNN.out] at n1
  have n1 := ExtOf.cell n1
  have n3 : w1.cell? ⟨w.heap.size + 1, 3, none⟩ = some (.int .i64 t.ty) := cellAt HB2.out 3
  rw [HTY.out] at n3
  have n3 := ExtOf.cell n3
  refine wp_region_ext (w0 := w1) hmx (by kernel_rfl) (Ext.rf _) ?_
  repeat (first | go_big_quiet_step ((go_at_call 96; with_reducible exact Calls.ext_of (apply_any _ _ sg ps _ (HSA.out.below (ExtOf.ext _)) ((HP.out.below HE.out).below (ExtOf.ext _))))) | quiet_step ((go_at_call 96; with_reducible exact Calls.ext_of (apply_any _ _ sg ps _ (HSA.out.below (ExtOf.ext _)) ((HP.out.below HE.out).below (ExtOf.ext _))))))
  refine wpQuiet_nil ?_
  rintro _ ⟨⟨w9, hx⟩, rfl⟩
  have HX9 := Lib.hid (HE.out.tr hx)
  clear hx
  go_wp2
  go_ret2
  exact ⟨by rw [HSG.out]; rfl, HX9.out⟩
end Go.Proofs.YtogmjgccopmplaaGreat
