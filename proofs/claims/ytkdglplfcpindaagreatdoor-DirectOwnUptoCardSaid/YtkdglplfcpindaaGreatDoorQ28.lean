/- ref.go: Same of declarations. -/
import Derived.Test.YtkdglplfcpindaaGreatDoorQ27
import Derived.Deep.QuietTactic
import Derived.BigQuiet
import Derived.WalkSmall
namespace Go.Proofs.YtkdglplfcpindaaGreatDoor
open Go.RowKit

theorem Ext.drewN {w w' : World} (h : Ext w w') (n : Nat) : Ext w (w'.drewN n) := ⟨h.os, h.tape, h.output, h.size, h.block⟩
def eqArg (a b : Arg) : Bool := (a.ty == b.ty) && (a.co == b.co)
def eqAs : List Arg → List Arg → Bool
  | [], [] => true
  | a :: r, b :: t => eqArg a b && eqAs r t
  | _, _ => false
theorem eqAs_cons (x y : Arg) (a b : List Arg) : eqAs (x :: a) (y :: b) = (eqArg x y && eqAs a b) := rfl
theorem eqAs_len : ∀ (a b : List Arg), ¬ a.length = b.length → eqAs a b = false
  | [], [], h => by simp at h
  | [], _ :: _, _ => rfl
  | _ :: _, [], _ => rfl
  | x :: a, y :: b, h => by rw [eqAs_cons, eqAs_len a b (by simpa using h), Bool.and_false]

set_option maxRecDepth 100000 in
theorem neq_arg (x y : Arg) (W : World) : (binOp .neq 165 (.agg #[.int .i64 x.ty, .bool x.co]) (.agg #[.int .i64 y.ty, .bool y.co])).run Tryz.prog W = .ok (.bool (!(eqArg x y))) W := by
  have hf : Tryz.prog.fieldsOf 165 = (match Tryz.prog.underlying 165 with | some (.struct fs) => fs | _ => #[]) := rfl
  have hs : Tryz.prog.stoodInHeld 165 = false := by kernel_rfl
  have hu : Tryz.prog.underlying 165 = some (.struct (Tryz.prog.fieldsOf 165)) := by rw [hf, Tryz.underlying165]
  rw [run_neq_struct, run_equalIn_struct W 9999 165 _ _ hu hs, hf, Tryz.underlying165]
  simp [go_sem, Op.eqFields, eqArg]
  by_cases h1 : x.ty = y.ty <;> by_cases h2 : x.co = y.co <;> simp [h1, h2]
set_option maxRecDepth 100000 in
theorem SameArgs_any (v v' : Value) (a b : List Arg) (w : World) (h : RArgs w v a) (h' : RArgs w v' b) :
    Calls Tryz.prog 61 #[v, v'] w fun e w' => e = .returned (.bool (eqAs a b)) ∧ ∃ n, w' = w.drewN n := by
  have HR := Lib.hid h
  have HR' := Lib.hid h'
  obtain ⟨A, c, rfl, hc, hm⟩ := h.form
  obtain ⟨A', c', rfl, hc', hm'⟩ := h'.form
  clear h h'
  unfold maxLen at hm hm'
  go_enter Tryz.func61, Tryz.ntmps61
  by_cases hl : a.length = b.length
  · have HL := Lib.hid hl
    have hlt' : ((a.length : Int) == b.length) = true := by simp [hl]
    have hlt2 : ((a.length : Int) != b.length) = false := by simp [hl]
    have hle : a.length ≤ b.length := by omega
    clear hl
    go_wp2
    go_loopw [13] (fun i wr => ∃ k n : Nat, k ≤ a.length ∧ i = .int .i64 k ∧ wr = w.drewN n ∧ eqAs a b = eqAs (a.drop k) (b.drop k)) (fun i _ => a.length - (intOf i).toNat)
    case atStart => exact ⟨0, 0, Nat.zero_le _, rfl, rfl, rfl⟩
    case round =>
      obtain ⟨k, n, hk, rfl, rfl, hno⟩ := hrel
      have HN := Lib.hid hno
      clear hno
      by_cases hlt : k < a.length
      · obtain ⟨b1, o1, rfl, hbl1, g0, f0⟩ := HR.out.at_ hlt
        obtain ⟨b2, o2, rfl, hbl2, g1, f1⟩ := HR'.out.at_ (k := k) (by omega)
        have HD := Lib.hid (drop_step hlt)
        have HD' := Lib.hid (drop_step (l := b) (k := k) (by omega))
        generalize a[k] = x at *
        generalize b[k] = y at *
        have hk2 : k < b.length := by omega
        have hne := neq_arg x y
        have hg : Tryz.prog.eqGuardType Tryz.prog.depth 165 = false := by kernel_rfl
        go_wp2
        go_quiet (fail)
        go_wp2
        · have q : (!eqArg x y) = true := by assumption
          go_ret
          exact ⟨ret_bool (by rw [HN.out, HD.out, HD'.out, eqAs_cons]; simp at q; simp [q]), n + nq, by simp⟩
        · have q : (!eqArg x y) = false := by assumption
          go_roundw
          case rel => exact ⟨k + 1, n + nq, by omega, by go_num, by simp, by rw [HN.out, HD.out, HD'.out, eqAs_cons]; simp at q; simp [q]⟩
          case measure => simp [intOf]; omega
      · go_wp2
        go_ret
        have hlb : ¬ k < b.length := by have := HL.out; omega
        exact ⟨ret_bool (by rw [HN.out, drop_end hlt, drop_end hlb]; rfl), n, rfl⟩
  · have hlt' : ((a.length : Int) == b.length) = false := by simp; omega
    have hlt2 : ((a.length : Int) != b.length) = true := by simp; omega
    have HQ := Lib.hid (eqAs_len a b hl)
    go_wp2
    go_ret
    exact ⟨ret_bool HQ.out.symm, 0, rfl⟩

def eqX (x y : Xtor) : Bool := (x.name.toList == y.name.toList) && eqAs x.args y.args
def eqXs : List Xtor → List Xtor → Bool
  | [], [] => true
  | a :: r, b :: t => eqX a b && eqXs r t
  | _, _ => false
def eqD (d e : Decl) : Bool := (d.name.toList == e.name.toList) && (d.codata == e.codata) && eqXs d.xtors e.xtors
def eqDs : List Decl → List Decl → Bool
  | [], [] => true
  | a :: r, b :: t => eqD a b && eqDs r t
  | _, _ => false
theorem eqXs_cons (x y : Xtor) (a b : List Xtor) : eqXs (x :: a) (y :: b) = (eqX x y && eqXs a b) := rfl
theorem eqDs_cons (x y : Decl) (a b : List Decl) : eqDs (x :: a) (y :: b) = (eqD x y && eqDs a b) := rfl
theorem eqXs_len : ∀ (a b : List Xtor), ¬ a.length = b.length → eqXs a b = false
  | [], [], h => by simp at h
  | [], _ :: _, _ => rfl
  | _ :: _, [], _ => rfl
  | x :: a, y :: b, h => by rw [eqXs_cons, eqXs_len a b (by simpa using h), Bool.and_false]
theorem eqDs_len : ∀ (a b : List Decl), ¬ a.length = b.length → eqDs a b = false
  | [], [], h => by simp at h
  | [], _ :: _, _ => rfl
  | _ :: _, [], _ => rfl
  | x :: a, y :: b, h => by rw [eqDs_cons, eqDs_len a b (by simpa using h), Bool.and_false]
theorem eqD_bad1 {d e : Decl} (h : (d.name.toList == e.name.toList) = false) : eqD d e = false := by simp [eqD, h]
theorem eqD_bad2 {d e : Decl} (h : (d.codata == e.codata) = false) : eqD d e = false := by simp [eqD, h]
theorem eqD_bad3 {d e : Decl} (h : ¬ d.xtors.length = e.xtors.length) : eqD d e = false := by simp [eqD, eqXs_len _ _ h]
theorem eqD_good {d e : Decl} (h : (d.name.toList == e.name.toList) = true) (h2 : (d.codata == e.codata) = true) : eqD d e = eqXs d.xtors e.xtors := by simp [eqD, h, h2]

set_option maxHeartbeats 2000000 in
set_option maxRecDepth 100000 in
theorem RSameD_any (v v' : Value) (a b : List Decl) (w : World) (h : RDecls w v a) (h' : RDecls w v' b) :
    Calls Tryz.prog 36 #[v, v'] w fun e w' => e = .returned (.bool (eqDs a b)) ∧ Ext w w' := by
  have HR := Lib.hid h
  have HR' := Lib.hid h'
  obtain ⟨A, c, rfl, hc, hm⟩ := h.form
  obtain ⟨A', c', rfl, hc', hm'⟩ := h'.form
  clear h h'
  unfold maxLen at hm hm'
  go_enter Tryz.func36, Tryz.ntmps36
  by_cases hl : a.length = b.length
  · have HL := Lib.hid hl
    have hlt' : ((a.length : Int) == b.length) = true := by simp [hl]
    have hlt2 : ((a.length : Int) != b.length) = false := by simp [hl]
    have hle : a.length ≤ b.length := by omega
    clear hl
    go_wp2
    go_loopw [15] (fun i wr => ∃ k : Nat, k ≤ a.length ∧ i = .int .i64 k ∧ Ext w wr ∧ eqDs a b = eqDs (a.drop k) (b.drop k)) (fun i _ => a.length - (intOf i).toNat)
    case atStart => exact ⟨0, Nat.zero_le _, rfl, Ext.rf _, rfl⟩
    case round =>
      obtain ⟨k, hk, rfl, hb, hno⟩ := hrel
      obtain ⟨wo, rfl⟩ : ∃ wo : World, wo = wr := ⟨_, rfl⟩
      have HN := Lib.hid hno; have HB := Lib.hid hb
      clear hb hno
      by_cases hlt : k < a.length
      · obtain ⟨b1, o1, v1, rfl, hbl1, g0, g1, g2, g3, g4⟩ := HR.out.at_ hlt
        obtain ⟨b2, o2, v2, rfl, hbl2, f0, f1, f2, f3, f4⟩ := HR'.out.at_ (k := k) (by omega)
        have g0 := HB.out.keep g0
        have g1 := HB.out.keep g1
        have g2 := HB.out.keep g2
        have f0 := HB.out.keep f0
        have f1 := HB.out.keep f1
        have f2 := HB.out.keep f2
        have HD := Lib.hid (drop_step hlt)
        have HD' := Lib.hid (drop_step (l := b) (k := k) (by omega))
        generalize a[k] = x at *
        generalize b[k] = y at *
        obtain ⟨xn, xc, xs⟩ := x
        obtain ⟨yn, yc, ys⟩ := y
        dsimp only at *
        obtain ⟨A2, c2, rfl, hc2, hm2⟩ := g3.form
        obtain ⟨A3, c3, rfl, hc3, hm3⟩ := f3.form
        unfold maxLen at hm2 hm3
        have HX := Lib.hid g3; have HY := Lib.hid f3; clear g3 f3
        have hk2 : k < b.length := by omega
        have HNO : Hid (eqD ⟨xn, xc, xs⟩ ⟨yn, yc, ys⟩ = false → eqDs a b = false) := fun e => by rw [HN.out, HD.out, HD'.out, eqDs_cons, e]; rfl
        cases hq : (xn.toList == yn.toList)
        · have HQ := Lib.hid (HNO.out (eqD_bad1 hq))
          have hq' : (xn.toList == yn.toList) = false := hq
          go_wp2
          go_quiet (fail)
          go_wp2
          go_ret
          exact ⟨ret_bool HQ.out.symm, HB.out.drewN _⟩
        · have HQ1 := Lib.hid hq
          have hq' : (xn.toList == yn.toList) = true := hq
          cases hq2 : (xc == yc)
          · have HQ := Lib.hid (HNO.out (eqD_bad2 hq2))
            have hq2' : (xc == yc) = false := hq2
            have hq3' : (xc != yc) = true := by rw [bne, hq2]; rfl
            go_wp2
            go_quiet (fail)
            go_wp2
            go_ret
            exact ⟨ret_bool HQ.out.symm, HB.out.drewN _⟩
          · have HQ2 := Lib.hid hq2
            have hq2' : (xc == yc) = true := hq2
            have hq3' : (xc != yc) = false := by rw [bne, hq2]; rfl
            by_cases hxl : xs.length = ys.length
            · have HG := Lib.hid (eqD_good (d := ⟨xn, xc, xs⟩) (e := ⟨yn, yc, ys⟩) HQ1.out HQ2.out)
              have HXL := Lib.hid hxl
              have hxl1 : ((xs.length : Int) == ys.length) = true := by simp [hxl]
              have hxl2 : ((xs.length : Int) != ys.length) = false := by simp [hxl]
              have hxle : xs.length ≤ ys.length := by omega
              clear hxl
              go_wp2
              go_quiet (fail)
              go_wp2
              go_loopw [63] (fun i wr => ∃ j : Nat, j ≤ xs.length ∧ i = .int .i64 j ∧ Ext wo wr ∧ eqXs xs ys = eqXs (xs.drop j) (ys.drop j)) (fun i _ => xs.length - (intOf i).toNat)
              case atStart => exact ⟨0, Nat.zero_le _, rfl, (Ext.rf _).drewN _, rfl⟩
              case round =>
                obtain ⟨j, hj, rfl, hb2, hno2⟩ := hrel
                have HN2 := Lib.hid hno2; have HB2 := Lib.hid hb2
                clear hb2 hno2
                by_cases hlt2' : j < xs.length
                · have HBw := Lib.hid (HB.out.tr HB2.out)
                  obtain ⟨b3, o3, v3, rfl, hbl3, p0, p1, p2, p3⟩ := HX.out.at_ hlt2'
                  obtain ⟨b4, o4, v4, rfl, hbl4, q0, q1, q2, q3⟩ := HY.out.at_ (k := j) (by omega)
                  have p0 := HBw.out.keep p0
                  have p1 := HBw.out.keep p1
                  have q0 := HBw.out.keep q0
                  have q1 := HBw.out.keep q1
                  have f2 := HB2.out.keep f2
                  have HD2 := Lib.hid (drop_step hlt2')
                  have HD2' := Lib.hid (drop_step (l := ys) (k := j) (by omega))
                  generalize xs[j] = x at *
                  generalize ys[j] = y at *
                  obtain ⟨A5, c5, rfl, -⟩ := p2.form
                  obtain ⟨A6, c6, rfl, -⟩ := q2.form
                  have hE5 := Ext.al wr (Obj.cells #[Value.string x.name, Value.slice A5 x.args.length c5] 140)
                  have HW5 := Lib.hid (HBw.out.tr hE5)
                  have HW6 := Lib.hid (HB2.out.tr hE5)
                  have p0 := hE5.keep p0
                  have p1 := hE5.keep p1
                  have q0 := hE5.keep q0
                  have q1 := hE5.keep q1
                  have f2 := hE5.keep f2
                  have r0 : (wr.alloc (Obj.cells #[Value.string x.name, Value.slice A5 x.args.length c5] 140)).cell? ⟨wr.heap.size, 0, none⟩ = some (.string x.name) := by
                    rw [World.cell?_alloc_at _ _ _ _ rfl]; rfl
                  have r1 : (wr.alloc (Obj.cells #[Value.string x.name, Value.slice A5 x.args.length c5] 140)).cell? ⟨wr.heap.size, 1, none⟩ = some (.slice A5 x.args.length c5) := by
                    rw [World.cell?_alloc_at _ _ _ _ rfl]; rfl
                  have HP := Lib.hid (p2.below HW5.out)
                  have HQ := Lib.hid (q2.below HW5.out)
                  clear p2 q2 hE5
                  have hjy : j < ys.length := by omega
                  have HNX : Hid (eqX x y = false → eqDs a b = false) := fun e => HNO.out (by rw [HG.out, HN2.out, HD2.out, HD2'.out, eqXs_cons, e]; rfl)
                  have HEX : Hid (eqX x y = ((x.name.toList == y.name.toList) && eqAs x.args y.args)) := rfl
                  go_wp2
                  generalize wr.alloc _ = w5 at *
                  cases hqx : (x.name.toList == y.name.toList)
                  · have HQX := Lib.hid hqx
                    have hqx' : (x.name.toList == y.name.toList) = false := hqx
                    go_quiet (fail)
                    go_wp2
                    go_ret
                    exact ⟨ret_bool (HNX.out (by rw [HEX.out, HQX.out]; rfl)).symm, HW5.out.drewN _⟩
                  · have HQX := Lib.hid hqx
                    have hqx' : (x.name.toList == y.name.toList) = true := hqx
                    have HSA : Hid (∀ n, Calls Tryz.prog 61 #[Value.slice A5 x.args.length c5, Value.slice A6 y.args.length c6] (w5.drewN n) fun e w' => e = .returned (.bool (eqAs x.args y.args)) ∧ ∃ m, w' = (w5.drewN n).drewN m) := fun n => SameArgs_any _ _ _ _ _ HP.out HQ.out
                    cases hqa : eqAs x.args y.args
                    · have HQA := Lib.hid hqa
                      rw [hqa] at HSA
                      clear hqa
                      go_quiet ((go_at_call 61; exact Calls.quiet_of (HSA.out _)))
                      go_wp2
                      go_ret
                      exact ⟨ret_bool (HNX.out (by rw [HEX.out, HQA.out, Bool.and_false])).symm, HW5.out.drewN _⟩
                    · have HQA := Lib.hid hqa
                      rw [hqa] at HSA
                      clear hqa
                      go_quiet ((go_at_call 61; exact Calls.quiet_of (HSA.out _)))
                      go_wp2
                      go_roundw
                      case rel => exact ⟨j + 1, by omega, by go_num, HW6.out.drewN _, by rw [HN2.out, HD2.out, HD2'.out, eqXs_cons, HEX.out, HQX.out, HQA.out]; rfl⟩
                      case measure => simp [intOf]; omega
                · go_wp2
                  go_roundw
                  case rel =>
                    have hlb : ¬ j < ys.length := by have := HXL.out; omega
                    exact ⟨k + 1, by omega, by go_num, HB.out.tr HB2.out, by rw [HN.out, HD.out, HD'.out, eqDs_cons, HG.out, HN2.out, drop_end hlt2', drop_end hlb]; rfl⟩
                  case measure => simp [intOf]; omega
            · have HQ := Lib.hid (HNO.out (eqD_bad3 hxl))
              have hxl1 : ((xs.length : Int) == ys.length) = false := by simp; omega
              have hxl2 : ((xs.length : Int) != ys.length) = true := by simp; omega
              clear hxl
              go_wp2
              go_quiet (fail)
              go_wp2
              go_ret
              exact ⟨ret_bool HQ.out.symm, HB.out.drewN _⟩
      · go_wp2
        go_ret
        have hlb : ¬ k < b.length := by have := HL.out; omega
        exact ⟨ret_bool (by rw [HN.out, drop_end hlt, drop_end hlb]; rfl), HB.out⟩
  · have hlt' : ((a.length : Int) == b.length) = false := by simp; omega
    have hlt2 : ((a.length : Int) != b.length) = true := by simp; omega
    have HQ := Lib.hid (eqDs_len a b hl)
    go_wp2
    go_ret
    exact ⟨ret_bool HQ.out.symm, Ext.rf _⟩
theorem eqAs_refl : ∀ l, eqAs l l = true
  | [] => rfl
  | a :: r => by rw [eqAs_cons, eqAs_refl r]; simp [eqArg]
theorem eqXs_refl : ∀ l, eqXs l l = true
  | [] => rfl
  | a :: r => by rw [eqXs_cons, eqXs_refl r]; simp [eqX, eqAs_refl]
theorem eqDs_refl : ∀ l, eqDs l l = true
  | [] => rfl
  | a :: r => by
    show (eqD a a && eqDs r r) = true
    rw [eqDs_refl r]; simp [eqD, eqXs_refl]
end Go.Proofs.YtkdglplfcpindaaGreatDoor

/- ref.go: Same and SameParams, of equal terms and parameters. -/
namespace Go.Proofs.YtkdglplfcpindaaGreatDoor
open Go.RowKit

theorem box66 (w : World) (a b c d e f a' b' c' d' e' f' : Value) :
    ((w.alloc (.cells #[a, b, c, d, e, f] 50)).alloc (.cells #[a', b', c', d', e', f'] 50)).heap[w.heap.size]? = some (.cells #[a, b, c, d, e, f] 50 (0, 0)) ∧
    ((w.alloc (.cells #[a, b, c, d, e, f] 50)).alloc (.cells #[a', b', c', d', e', f'] 50)).heap[w.heap.size + 1]? = some (.cells #[a', b', c', d', e', f'] 50 (0, 0)) := by
  have h1 := heapNew w (.cells #[a, b, c, d, e, f] 50)
  have h2 := heapNew (w.alloc (.cells #[a, b, c, d, e, f] 50)) (.cells #[a', b', c', d', e', f'] 50)
  rw [World.size_alloc] at h2
  exact ⟨((Ext.al _ _).block _ (heap_lt h1)).trans h1, h2⟩

set_option maxHeartbeats 4000000 in
set_option maxRecDepth 100000 in
theorem RSame_any : ∀ (k : Nat) (t : Tm) (va vc ua uc : Value) (w : World), RT w k t va vc → RT w k t ua uc →
    Calls Tryz.prog 38 #[tV t va vc, tV t ua uc] w fun e w' => e = .returned (.bool true) ∧ Ext w w' := by
  intro k
  induction k with
  | zero => intro t va vc ua uc w h; exact h.elim
  | succ k ih =>
    intro t va vc ua uc w ht hu
    have HT := Lib.hid ht; have HU := Lib.hid hu; have HIH := Lib.hid ih
    obtain ⟨_, ⟨Aa, ca, rfl, hca, hma⟩, ⟨Bb, cb, rfl, hcb, hmb⟩⟩ := ht.form
    obtain ⟨_, ⟨Aa', ca', rfl, hca', hma'⟩, ⟨Bb', cb', rfl, hcb', hmb'⟩⟩ := hu.form
    clear ht hu ih
    unfold maxLen at hma hmb hma' hmb'
    have hmx : Tryz.prog.follows .mixedOrders = true := by kernel_rfl
    have HE := Lib.hid (Ext.al2 w (.cells #[.int .i64 t.op, .int .i64 t.n, .string t.nm, .int .i64 t.ty, .slice Aa t.args.length ca, .slice Bb t.cls.length cb] 50) (.cells #[.int .i64 t.op, .int .i64 t.n, .string t.nm, .int .i64 t.ty, .slice Aa' t.args.length ca', .slice Bb' t.cls.length cb'] 50))
    obtain ⟨hb1, hb2⟩ := box66 w (.int .i64 t.op) (.int .i64 t.n) (.string t.nm) (.int .i64 t.ty) (.slice Aa t.args.length ca) (.slice Bb t.cls.length cb) (.int .i64 t.op) (.int .i64 t.n) (.string t.nm) (.int .i64 t.ty) (.slice Aa' t.args.length ca') (.slice Bb' t.cls.length cb')
    obtain ⟨x0, x1, x2, x3, x4, x5⟩ := cells6 hb1
    obtain ⟨y0, y1, y2, y3, y4, y5⟩ := cells6 hb2
    have HB1 := Lib.hid hb1; have HB2 := Lib.hid hb2
    clear hb1 hb2
    go_enter Tryz.func38, Tryz.ntmps38
    go_wp2
    generalize World.alloc (World.alloc w _) _ = w1 at *
    clear x0 x1 x2 x3 x4 x5 y0 y1 y2 y3 y4 y5
    go_loopw [54] (fun i wr => ∃ j : Nat, j ≤ t.args.length ∧ i = .int .i64 j ∧ Ext w1 wr) (fun i _ => t.args.length - (intOf i).toNat)
    case atStart => exact ⟨0, Nat.zero_le _, rfl, Ext.rf _⟩
    case round =>
      obtain ⟨j, hj, rfl, hb⟩ := hrel
      have HX := Lib.hid hb
      have q1 := (hb.block _ (heap_lt HB1.out)).trans HB1.out
      have q2 := (hb.block _ (heap_lt HB2.out)).trans HB2.out
      have HQ1 := Lib.hid q1; have HQ2 := Lib.hid q2
      clear hb q1 q2
      by_cases hlt : j < t.args.length
      · obtain ⟨b, o, xa, xc, rfl, hbl, yc, yt⟩ := HT.out.arg hlt
        obtain ⟨b', o', xa', xc', rfl, hbl', yc', yt'⟩ := HU.out.arg hlt
        have hW := HE.out.tr HX.out
        have yc := yc.below hW
        have yc' := yc'.below hW
        have HK := Lib.hid (yt.below hW)
        have HK' := Lib.hid (yt'.below hW)
        clear yt yt' hbl hbl' hW
        obtain ⟨Ac, ca2, rfl, -⟩ : ∃ A c, xa = Value.slice A (t.args[j]).args.length c ∧ True := by obtain ⟨_, ⟨A, c, e, _⟩, _⟩ := HK.out.form; exact ⟨A, c, e, trivial⟩
        have p4 := ExtOf.cell (cellAt HQ1.out 4)
        have r4 := ExtOf.cell (cellAt HQ2.out 4)
        have k0 := ExtOf.cell yc.c0
        have k1 := ExtOf.cell yc.c1
        have k2 := ExtOf.cell yc.c2
        have k3 := ExtOf.cell yc.c3
        have k4 := ExtOf.cell yc.c4
        have k5 := ExtOf.cell yc.c5
        have l0 := ExtOf.cell yc'.c0
        have l1 := ExtOf.cell yc'.c1
        have l2 := ExtOf.cell yc'.c2
        have l3 := ExtOf.cell yc'.c3
        have l4 := ExtOf.cell yc'.c4
        have l5 := ExtOf.cell yc'.c5
        generalize t.args[j] = x at *
        clear yc yc'
        go_wp2
        refine wp_region_ext (w0 := wr) hmx (by kernel_rfl) (Ext.rf _) ?_
        repeat (first | go_big_quiet_step ((go_at_call 38; with_reducible exact Calls.ext_of (HIH.out x _ _ _ _ _ (HK.out.below (ExtOf.ext _)) (HK'.out.below (ExtOf.ext _))))) | quiet_step ((go_at_call 38; with_reducible exact Calls.ext_of (HIH.out x _ _ _ _ _ (HK.out.below (ExtOf.ext _)) (HK'.out.below (ExtOf.ext _))))))
        refine wpQuiet_nil ?_
        rintro _ ⟨⟨w9, hx⟩, rfl⟩
        have HX9 := Lib.hid (HX.out.tr hx)
        clear hx p4 r4 k0 k1 k2 k3 k4 k5 l0 l1 l2 l3 l4 l5
        go_wp2
        exact ⟨⟨j + 1, by omega, by go_num, HX9.out⟩, by simp [intOf]; omega⟩
      · have x5 := cellAt HQ1.out 5
        have y5 := cellAt HQ2.out 5
        go_wp2
        clear x5 y5
        generalize wr = wl at *
        go_loopw [73] (fun i wr => ∃ j : Nat, j ≤ t.cls.length ∧ i = .int .i64 j ∧ Ext wl wr) (fun i _ => t.cls.length - (intOf i).toNat)
        case atStart => exact ⟨0, Nat.zero_le _, rfl, Ext.rf _⟩
        case round =>
          obtain ⟨j, hj, rfl, hb⟩ := hrel
          have HXE := Lib.hid hb
          have q1 := (hb.block _ (heap_lt HQ1.out)).trans HQ1.out
          have q2 := (hb.block _ (heap_lt HQ2.out)).trans HQ2.out
          have HR1 := Lib.hid q1; have HR2 := Lib.hid q2
          clear hb q1 q2
          by_cases hlt2 : j < t.cls.length
          · obtain ⟨b, o, vn, xa, xc, rfl, hbl, yn, ys, yc, yt⟩ := HT.out.clause hlt2
            obtain ⟨b', o', vn', xa', xc', rfl, hbl', yn', ys', yc', yt'⟩ := HU.out.clause hlt2
            have hW := (HE.out.tr HX.out).tr HXE.out
            have yc := yc.below hW
            have yc' := yc'.below hW
            have HS := Lib.hid (ys.below hW)
            have HS' := Lib.hid (ys'.below hW)
            have HK := Lib.hid (yt.below hW)
            have HK' := Lib.hid (yt'.below hW)
            have p5 := ExtOf.cell (cellAt HR1.out 5)
            have r5 := ExtOf.cell (cellAt HR2.out 5)
            have kn := ExtOf.cell (hW.keep yn)
            have ln := ExtOf.cell (hW.keep yn')
            have k0 := ExtOf.cell yc.c0
            have k1 := ExtOf.cell yc.c1
            have k2 := ExtOf.cell yc.c2
            have k3 := ExtOf.cell yc.c3
            have k4 := ExtOf.cell yc.c4
            have k5 := ExtOf.cell yc.c5
            have l0 := ExtOf.cell yc'.c0
            have l1 := ExtOf.cell yc'.c1
            have l2 := ExtOf.cell yc'.c2
            have l3 := ExtOf.cell yc'.c3
            have l4 := ExtOf.cell yc'.c4
            have l5 := ExtOf.cell yc'.c5
            generalize t.cls[j] = cl at *
            obtain ⟨ns, x⟩ := cl
            dsimp only at *
            clear yc yc' yt yt' ys ys' yn yn' hW hbl hbl'
            go_wp2
            refine wp_region_ext (w0 := wr) hmx (by kernel_rfl) (Ext.rf _) ?_
            repeat (first
              | go_big_quiet_step ((first | (go_at_call 62; with_reducible exact Calls.ext_of (same_any _ _ ns _ (HS.out.below (ExtOf.ext _)) (HS'.out.below (ExtOf.ext _)))) | (go_at_call 38; with_reducible exact Calls.ext_of (HIH.out x _ _ _ _ _ (HK.out.below (ExtOf.ext _)) (HK'.out.below (ExtOf.ext _))))))
              | quiet_step ((first | (go_at_call 62; with_reducible exact Calls.ext_of (same_any _ _ ns _ (HS.out.below (ExtOf.ext _)) (HS'.out.below (ExtOf.ext _)))) | (go_at_call 38; with_reducible exact Calls.ext_of (HIH.out x _ _ _ _ _ (HK.out.below (ExtOf.ext _)) (HK'.out.below (ExtOf.ext _)))))))
            refine wpQuiet_nil ?_
            rintro _ ⟨⟨w9, hx⟩, rfl⟩
            have HX9 := Lib.hid (HXE.out.tr hx)
            clear hx p5 r5 kn ln k0 k1 k2 k3 k4 k5 l0 l1 l2 l3 l4 l5
            go_wp2
            exact ⟨⟨j + 1, by omega, by go_num, HX9.out⟩, by simp [intOf]; omega⟩
          · go_wp2
            go_ret
            exact ⟨rfl, (HE.out.tr HX.out).tr HXE.out⟩

set_option maxRecDepth 100000 in
theorem neq_prm (x : Prm) (W : World) : (binOp .neq 69 (.agg #[.string x.nm, .int .i64 x.ty]) (.agg #[.string x.nm, .int .i64 x.ty])).run Tryz.prog W = .ok (.bool false) W := by
  have hf : Tryz.prog.fieldsOf 69 = (match Tryz.prog.underlying 69 with | some (.struct fs) => fs | _ => #[]) := rfl
  have hs : Tryz.prog.stoodInHeld 69 = false := by kernel_rfl
  have hu : Tryz.prog.underlying 69 = some (.struct (Tryz.prog.fieldsOf 69)) := by rw [hf, Tryz.underlying69]
  rw [run_neq_struct, run_equalIn_struct W 9999 69 _ _ hu hs, hf, Tryz.underlying69]
  simp [go_sem, Op.eqFields]

set_option maxHeartbeats 2000000 in
set_option maxRecDepth 100000 in
theorem SameParams_any (v v' : Value) (l : List Prm) (w : World) (h : RPrms w v l) (h' : RPrms w v' l) :
    Calls Tryz.prog 37 #[v, v'] w fun e w' => e = .returned (.bool true) ∧ Ext w w' := by
  have HR := Lib.hid h
  have HR' := Lib.hid h'
  obtain ⟨A, c, rfl, hc, hm⟩ := h.form
  obtain ⟨A', c', rfl, hc', hm'⟩ := h'.form
  clear h h'
  unfold maxLen at hm hm'
  go_enter Tryz.func37, Tryz.ntmps37
  go_wp2
  go_loopw [13] (fun i wr => ∃ k : Nat, k ≤ l.length ∧ i = .int .i64 k ∧ Ext w wr) (fun i _ => l.length - (intOf i).toNat)
  case atStart => exact ⟨0, Nat.zero_le _, rfl, Ext.rf _⟩
  case round =>
    obtain ⟨k, hk, rfl, hb⟩ := hrel
    have HB := Lib.hid hb
    clear hb
    by_cases hlt : k < l.length
    · obtain ⟨b1, o1, rfl, hbl1, g0, g1, -⟩ := HR.out.at_ hlt
      obtain ⟨b2, o2, rfl, hbl2, f0, f1, -⟩ := HR'.out.at_ hlt
      have g0 := HB.out.keep g0
      have g1 := HB.out.keep g1
      have f0 := HB.out.keep f0
      have f1 := HB.out.keep f1
      generalize l[k] = x at *
      have hne := neq_prm x
      have hg : Tryz.prog.eqGuardType Tryz.prog.depth 69 = false := by kernel_rfl
      go_wp2
      go_quiet (fail)
      go_wp2
      go_roundw
      case rel => exact ⟨k + 1, by omega, by go_num, HB.out.drewN _⟩
      case measure => simp [intOf]; omega
    · go_wp2
      go_ret
      exact ⟨rfl, HB.out⟩
end Go.Proofs.YtkdglplfcpindaaGreatDoor

/- ref.go: SameProg, of equal programs. -/
namespace Go.Proofs.YtkdglplfcpindaaGreatDoor
open Go.RowKit

set_option maxHeartbeats 4000000 in
set_option maxRecDepth 100000 in
theorem SameProg_any (P : Pg) (vd vf ud uf : Value) (w : World) (hd : RDecls w vd P.decls) (hf : RFns w vf P.funs) (hd' : RDecls w ud P.decls) (hf' : RFns w uf P.funs) :
    Calls Tryz.prog 18 #[pV vd vf, pV ud uf] w fun e w' => e = .returned (.bool true) ∧ Ext w w' := by
  have HD := Lib.hid hd; have HF := Lib.hid hf; have HD' := Lib.hid hd'; have HF' := Lib.hid hf'
  obtain ⟨Ad, cd, rfl, hcd, hmd⟩ := hd.form
  obtain ⟨Af, cf, rfl, hcf, hmf⟩ := hf.form
  obtain ⟨Bd, dd, rfl, hdd, hmd'⟩ := hd'.form
  obtain ⟨Bf, df, rfl, hdf, hmf'⟩ := hf'.form
  clear hd hf hd' hf'
  unfold maxLen at hmd hmf hmd' hmf'
  have HE := Lib.hid (Ext.al2 w (.cells #[.slice Ad P.decls.length cd, .slice Af P.funs.length cf] 25) (.cells #[.slice Bd P.decls.length dd, .slice Bf P.funs.length df] 25))
  have hb1 := heapNew w (.cells #[.slice Ad P.decls.length cd, .slice Af P.funs.length cf] 25)
  have hb2 := heapNew (w.alloc (.cells #[.slice Ad P.decls.length cd, .slice Af P.funs.length cf] 25)) (.cells #[.slice Bd P.decls.length dd, .slice Bf P.funs.length df] 25)
  rw [World.size_alloc] at hb2
  have HB1 := Lib.hid (((Ext.al (w.alloc (.cells #[.slice Ad P.decls.length cd, .slice Af P.funs.length cf] 25)) (.cells #[.slice Bd P.decls.length dd, .slice Bf P.funs.length df] 25)).block _ (heap_lt hb1)).trans hb1)
  have HB2 := Lib.hid hb2
  clear hb1 hb2
  have p0 := cellAt HB1.out 0
  have p1 := cellAt HB1.out 1
  have r0 := cellAt HB2.out 0
  have r1 := cellAt HB2.out 1
  go_enter Tryz.func18, Tryz.ntmps18
  go_wp2_with fail
  generalize World.alloc (World.alloc w _) _ = w1 at *
  clear p0 p1 r0 r1
  (with_reducible refine (RSameD_any _ _ P.decls P.decls _ (HD.out.below HE.out) (HD'.out.below HE.out)).mono ?_)
  rw [eqDs_refl]
  rintro e w2 ⟨rfl, hb⟩
  have HX2 := Lib.hid (HE.out.tr hb)
  have HC1 := Lib.hid ((hb.block _ (heap_lt HB1.out)).trans HB1.out)
  have HC2 := Lib.hid ((hb.block _ (heap_lt HB2.out)).trans HB2.out)
  clear hb
  have p1 := cellAt HC1.out 1
  have r1 := cellAt HC2.out 1
  go_wp2_with fail
  clear p1 r1
  go_loopw [26] (fun i wr => ∃ j : Nat, j ≤ P.funs.length ∧ i = .int .i64 j ∧ Ext w2 wr) (fun i _ => P.funs.length - (intOf i).toNat)
  case atStart => exact ⟨0, Nat.zero_le _, rfl, Ext.rf _⟩
  case round =>
    obtain ⟨j, hj, rfl, hb⟩ := hrel
    have HX := Lib.hid hb
    have HY := Lib.hid (HX2.out.tr hb)
    have HD2 := Lib.hid ((hb.block _ (heap_lt HC2.out)).trans HC2.out)
    clear hb
    by_cases hlt : j < P.funs.length
    · obtain ⟨b, o, vp, xa, xc, kf, rfl, hbl, y0, y1, y2, yc, y3, y4, y5⟩ := HF.out.at_ hlt
      obtain ⟨b', o', vp', xa', xc', kf', rfl, hbl', z0, z1, z2, zc, z3, z4, z5⟩ := HF'.out.at_ hlt
      have y0 := HY.out.keep y0
      have y1 := HY.out.keep y1
      have y2 := HY.out.keep y2
      have yc := yc.below HY.out
      have z0 := HY.out.keep z0
      have z1 := HY.out.keep z1
      have z2 := HY.out.keep z2
      have zc := zc.below HY.out
      obtain ⟨-, ⟨Ax, cx, rfl, -, -⟩, ⟨Bx, dx, rfl, -, -⟩⟩ := y5.form
      obtain ⟨Ap, cp, rfl, -, -⟩ := y4.form
      obtain ⟨-, ⟨Ax', cx', rfl, -, -⟩, ⟨Bx', dx', rfl, -, -⟩⟩ := z5.form
      obtain ⟨Ap', cp', rfl, -, -⟩ := z4.form
      have HK := Lib.hid ((RT.mono (Nat.le_max_left kf kf') y5).below HY.out)
      have HK' := Lib.hid ((RT.mono (Nat.le_max_right kf kf') z5).below HY.out)
      have HPS := Lib.hid (y4.below HY.out)
      have HPS' := Lib.hid (z4.below HY.out)
      have a0 := yc.c0
      have a1 := yc.c1
      have a2 := yc.c2
      have a3 := yc.c3
      have a4 := yc.c4
      have a5 := yc.c5
      have d0 := zc.c0
      have d1 := zc.c1
      have d2 := zc.c2
      have d3 := zc.c3
      have d4 := zc.c4
      have d5 := zc.c5
      generalize P.funs[j] = f at *
      have r1 := cellAt HD2.out 1
      have hE1 := Ext.al wr (.cells #[.string f.nm, .slice Ap f.ps.length cp, .int .i64 f.res, .int .i64 f.body.op, .int .i64 f.body.n, .string f.body.nm, .int .i64 f.body.ty, .slice Ax f.body.args.length cx, .slice Bx f.body.cls.length dx] 52)
      have l1 := hE1.keep r1
      have m0 := hE1.keep z0
      have m1 := hE1.keep z1
      have m2 := hE1.keep z2
      have m3 := hE1.keep d0
      have m4 := hE1.keep d1
      have m5 := hE1.keep d2
      have m6 := hE1.keep d3
      have m7 := hE1.keep d4
      have m8 := hE1.keep d5
      have HE2 := Lib.hid (Ext.al2 wr (.cells #[.string f.nm, .slice Ap f.ps.length cp, .int .i64 f.res, .int .i64 f.body.op, .int .i64 f.body.n, .string f.body.nm, .int .i64 f.body.ty, .slice Ax f.body.args.length cx, .slice Bx f.body.cls.length dx] 52) (.cells #[.string f.nm, .slice Ap' f.ps.length cp', .int .i64 f.res, .int .i64 f.body.op, .int .i64 f.body.n, .string f.body.nm, .int .i64 f.body.ty, .slice Ax' f.body.args.length cx', .slice Bx' f.body.cls.length dx'] 52))
      have hg1 := heapNew wr (.cells #[.string f.nm, .slice Ap f.ps.length cp, .int .i64 f.res, .int .i64 f.body.op, .int .i64 f.body.n, .string f.body.nm, .int .i64 f.body.ty, .slice Ax f.body.args.length cx, .slice Bx f.body.cls.length dx] 52)
      have hg2 := heapNew (wr.alloc (.cells #[.string f.nm, .slice Ap f.ps.length cp, .int .i64 f.res, .int .i64 f.body.op, .int .i64 f.body.n, .string f.body.nm, .int .i64 f.body.ty, .slice Ax f.body.args.length cx, .slice Bx f.body.cls.length dx] 52)) (.cells #[.string f.nm, .slice Ap' f.ps.length cp', .int .i64 f.res, .int .i64 f.body.op, .int .i64 f.body.n, .string f.body.nm, .int .i64 f.body.ty, .slice Ax' f.body.args.length cx', .slice Bx' f.body.cls.length dx'] 52)
      rw [World.size_alloc] at hg2
      have HG1 := Lib.hid (((Ext.al (wr.alloc (.cells #[.string f.nm, .slice Ap f.ps.length cp, .int .i64 f.res, .int .i64 f.body.op, .int .i64 f.body.n, .string f.body.nm, .int .i64 f.body.ty, .slice Ax f.body.args.length cx, .slice Bx f.body.cls.length dx] 52)) (.cells #[.string f.nm, .slice Ap' f.ps.length cp', .int .i64 f.res, .int .i64 f.body.op, .int .i64 f.body.n, .string f.body.nm, .int .i64 f.body.ty, .slice Ax' f.body.args.length cx', .slice Bx' f.body.cls.length dx'] 52)).block _ (heap_lt hg1)).trans hg1)
      have HG2 := Lib.hid hg2
      clear y3 y4 y5 yc z3 z4 z5 zc hbl hbl' hE1 hg1 hg2
      go_upto_region 7 with fail
      clear y0 y1 y2 z0 z1 z2 a0 a1 a2 a3 a4 a5 d0 d1 d2 d3 d4 d5 l1 m0 m1 m2 m3 m4 m5 m6 m7 m8 r1
      generalize World.alloc (World.alloc wr _) _ = w5 at *
      have a0 := cellAt HG1.out 0
      have a1 := cellAt HG1.out 1
      have a2 := cellAt HG1.out 2
      have d0 := cellAt HG2.out 0
      have d1 := cellAt HG2.out 1
      have d2 := cellAt HG2.out 2
      go_wp2_with fail
      (with_reducible refine (SameParams_any _ _ f.ps _ (HPS.out.below HE2.out) (HPS'.out.below HE2.out)).mono ?_)
      rintro e w6 ⟨rfl, hb⟩
      have HX6 := Lib.hid (HE2.out.tr hb)
      have h1 := (hb.block _ (heap_lt HG1.out)).trans HG1.out
      have h2 := (hb.block _ (heap_lt HG2.out)).trans HG2.out
      clear hb a0 a1 a2 d0 d1 d2
      have a3 := cellAt h1 3
      have a4 := cellAt h1 4
      have a5 := cellAt h1 5
      have a6 := cellAt h1 6
      have a7 := cellAt h1 7
      have a8 := cellAt h1 8
      have d3 := cellAt h2 3
      have d4 := cellAt h2 4
      have d5 := cellAt h2 5
      have d6 := cellAt h2 6
      have d7 := cellAt h2 7
      have d8 := cellAt h2 8
      clear h1 h2
      go_wp2_with fail
      (with_reducible refine (RSame_any _ f.body _ _ _ _ _ (HK.out.below HX6.out) (HK'.out.below HX6.out)).mono ?_)
      rintro e w7 ⟨rfl, hb⟩
      have HX7 := Lib.hid (HX.out.tr (HX6.out.tr hb))
      clear hb a3 a4 a5 a6 a7 a8 d3 d4 d5 d6 d7 d8
      go_wp2_with fail
      exact ⟨⟨j + 1, by omega, by go_num, HX7.out⟩, by simp [intOf]; omega⟩
    · go_wp2_with fail
      go_ret
      exact ⟨rfl, HY.out⟩
end Go.Proofs.YtkdglplfcpindaaGreatDoor
