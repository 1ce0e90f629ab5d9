import Derived.Test.YtoopngnmdgcklaaSrc
import Derived.Deep.QuietTactic
import Derived.BigQuiet
import Derived.WalkSmall
namespace Go.Proofs.Ytoopngnmdgcklaa
open Go.RowKit

theorem Ext.drewN {w w' : World} (h : Ext w w') (n : Nat) : Ext w (w'.drewN n) := ⟨h.os, h.tape, h.output, h.size, h.block⟩
def eqB (a b : List Bool) : Bool := a == b
theorem eqB_cons (x y : Bool) (a b : List Bool) : eqB (x :: a) (y :: b) = ((x == y) && eqB a b) := rfl

theorem SameBools_any (v v' : Value) (a b : List Bool) (w : World) (h : RBools w v a) (h' : RBools w v' b) :
    Calls Try.prog 16 #[v, v'] w fun e w' => e = .returned (.bool (eqB a b)) ∧ Ext w w' := by
  have HR := Lib.hid h
  have HR' := Lib.hid h'
  obtain ⟨A, c, rfl, hc, hm⟩ := h.form
  obtain ⟨A', c', rfl, hc', hm'⟩ := h'.form
  clear h h'
  unfold maxLen at hm hm'
  go_enter Try.func16, Try.ntmps16
  by_cases hl : a.length = b.length
  · have HL := Lib.hid hl
    have hlt' : ((a.length : Int) == b.length) = true := by simp [hl]
    have hlt2 : ((a.length : Int) != b.length) = false := by simp [hl]
    have hle : a.length ≤ b.length := by omega
    clear hl
    go_wp2
    go_loopw [13] (fun i wr => ∃ k : Nat, k ≤ a.length ∧ i = .int .i64 k ∧ Ext w wr ∧ eqB a b = eqB (a.drop k) (b.drop k)) (fun i _ => a.length - (intOf i).toNat)
    case atStart => exact ⟨0, Nat.zero_le _, rfl, Ext.rf _, rfl⟩
    case round =>
      obtain ⟨k, hk, rfl, hb, hno⟩ := hrel
      have HN := Lib.hid hno; have HB := Lib.hid hb
      clear hb hno
      by_cases hlt : k < a.length
      · obtain ⟨b1, o1, rfl, hbl1, g0⟩ := HR.out.at_ hlt
        obtain ⟨b2, o2, rfl, hbl2, g1⟩ := HR'.out.at_ (k := k) (by omega)
        have g0 := HB.out.keep g0
        have g1 := HB.out.keep g1
        have HD := Lib.hid (drop_step hlt)
        have HD' := Lib.hid (drop_step (l := b) (k := k) (by omega))
        generalize a[k] = x at *
        generalize b[k] = y at *
        have hk2 : k < b.length := by omega
        go_wp2
        go_quiet (fail)
        go_wp2
        · have q : (!x == y) = true := by assumption
          go_ret
          exact ⟨ret_bool (by rw [HN.out, HD.out, HD'.out, eqB_cons]; simp at q; simp [q]), HB.out.drewN _⟩
        · have q : (!x == y) = false := by assumption
          go_roundw
          case rel => exact ⟨k + 1, by omega, by go_num, HB.out.drewN _, by rw [HN.out, HD.out, HD'.out, eqB_cons]; simp at q; simp [q]⟩
          case measure => simp [intOf]; omega
      · go_wp2
        go_ret
        have hlb : ¬ k < b.length := by have := HL.out; omega
        exact ⟨ret_bool (by rw [HN.out, drop_end hlt, drop_end hlb]; rfl), HB.out⟩
  · have hlt' : ((a.length : Int) == b.length) = false := by simp; omega
    have hlt2 : ((a.length : Int) != b.length) = true := by simp; omega
    go_wp2
    go_ret
    exact ⟨ret_bool (by unfold eqB; symm; rw [beq_eq_false_iff_ne]; intro e; exact hl (by rw [e])), Ext.rf _⟩

def eqArg (a b : Arg) : Bool := (a.ty == b.ty) && (a.co == b.co)
def eqAs : List Arg → List Arg → Bool
  | [], [] => true
  | a :: r, b :: t => eqArg a b && eqAs r t
  | _, _ => false
theorem eqAs_cons (x y : Arg) (a b : List Arg) : eqAs (x :: a) (y :: b) = (eqArg x y && eqAs a b) := rfl
theorem eqAs_len : ∀ (a b : List Arg), ¬ a.length = b.length → eqAs a b = false
  | [], [], h => by simp at h
  | [], _ :: _, _ => rfl
  | _ :: _, [], _ => rfl
  | x :: a, y :: b, h => by rw [eqAs_cons, eqAs_len a b (by simpa using h), Bool.and_false]

theorem neq_arg (x y : Arg) (W : World) : (binOp .neq 50 (.agg #[.int .i64 x.ty, .bool x.co]) (.agg #[.int .i64 y.ty, .bool y.co])).run Try.prog W = .ok (.bool (!(eqArg x y))) W := by
  have hf : Try.prog.fieldsOf 50 = (match Try.prog.underlying 50 with | some (.struct fs) => fs | _ => #[]) := rfl
  have hs : Try.prog.stoodInHeld 50 = false := by kernel_rfl
  have hu : Try.prog.underlying 50 = some (.struct (Try.prog.fieldsOf 50)) := by rw [hf, Try.underlying50]
  rw [run_neq_struct, run_equalIn_struct W 9999 50 _ _ hu hs, hf, Try.underlying50]
  simp [go_sem, Op.eqFields, eqArg]
  by_cases h1 : x.ty = y.ty <;> by_cases h2 : x.co = y.co <;> simp [h1, h2]
theorem SameArgs_any (v v' : Value) (a b : List Arg) (w : World) (h : RArgs w v a) (h' : RArgs w v' b) :
    Calls Try.prog 38 #[v, v'] w fun e w' => e = .returned (.bool (eqAs a b)) ∧ ∃ n, w' = w.drewN n := by
  have HR := Lib.hid h
  have HR' := Lib.hid h'
  obtain ⟨A, c, rfl, hc, hm⟩ := h.form
  obtain ⟨A', c', rfl, hc', hm'⟩ := h'.form
  clear h h'
  unfold maxLen at hm hm'
  go_enter Try.func38, Try.ntmps38
  by_cases hl : a.length = b.length
  · have HL := Lib.hid hl
    have hlt' : ((a.length : Int) == b.length) = true := by simp [hl]
    have hlt2 : ((a.length : Int) != b.length) = false := by simp [hl]
    have hle : a.length ≤ b.length := by omega
    clear hl
    go_wp2
    go_loopw [13] (fun i wr => ∃ k n : Nat, k ≤ a.length ∧ i = .int .i64 k ∧ wr = w.drewN n ∧ eqAs a b = eqAs (a.drop k) (b.drop k)) (fun i _ => a.length - (intOf i).toNat)
    case atStart => exact ⟨0, 0, Nat.zero_le _, rfl, rfl, rfl⟩
    case round =>
      obtain ⟨k, n, hk, rfl, rfl, hno⟩ := hrel
      have HN := Lib.hid hno
      clear hno
      by_cases hlt : k < a.length
      · obtain ⟨b1, o1, rfl, hbl1, g0, f0⟩ := HR.out.at_ hlt
        obtain ⟨b2, o2, rfl, hbl2, g1, f1⟩ := HR'.out.at_ (k := k) (by omega)
        have HD := Lib.hid (drop_step hlt)
        have HD' := Lib.hid (drop_step (l := b) (k := k) (by omega))
        generalize a[k] = x at *
        generalize b[k] = y at *
        have hk2 : k < b.length := by omega
        have hne := neq_arg x y
        have hg : Try.prog.eqGuardType Try.prog.depth 50 = false := by kernel_rfl
        go_wp2
        go_quiet (fail)
        go_wp2
        · have q : (!eqArg x y) = true := by assumption
          go_ret
          exact ⟨ret_bool (by rw [HN.out, HD.out, HD'.out, eqAs_cons]; simp at q; simp [q]), n + nq, by simp⟩
        · have q : (!eqArg x y) = false := by assumption
          go_roundw
          case rel => exact ⟨k + 1, n + nq, by omega, by go_num, by simp, by rw [HN.out, HD.out, HD'.out, eqAs_cons]; simp at q; simp [q]⟩
          case measure => simp [intOf]; omega
      · go_wp2
        go_ret
        have hlb : ¬ k < b.length := by have := HL.out; omega
        exact ⟨ret_bool (by rw [HN.out, drop_end hlt, drop_end hlb]; rfl), n, rfl⟩
  · have hlt' : ((a.length : Int) == b.length) = false := by simp; omega
    have hlt2 : ((a.length : Int) != b.length) = true := by simp; omega
    have HQ := Lib.hid (eqAs_len a b hl)
    go_wp2
    go_ret
    exact ⟨ret_bool HQ.out.symm, 0, rfl⟩

def eqX (x y : Xtor) : Bool := (x.name.toList == y.name.toList) && eqAs x.args y.args
def eqXs : List Xtor → List Xtor → Bool
  | [], [] => true
  | a :: r, b :: t => eqX a b && eqXs r t
  | _, _ => false
def eqD (d e : Decl) : Bool := (d.name.toList == e.name.toList) && (d.codata == e.codata) && eqXs d.xtors e.xtors
def eqDs : List Decl → List Decl → Bool
  | [], [] => true
  | a :: r, b :: t => eqD a b && eqDs r t
  | _, _ => false
theorem eqXs_cons (x y : Xtor) (a b : List Xtor) : eqXs (x :: a) (y :: b) = (eqX x y && eqXs a b) := rfl
theorem eqDs_cons (x y : Decl) (a b : List Decl) : eqDs (x :: a) (y :: b) = (eqD x y && eqDs a b) := rfl
theorem eqXs_len : ∀ (a b : List Xtor), ¬ a.length = b.length → eqXs a b = false
  | [], [], h => by simp at h
  | [], _ :: _, _ => rfl
  | _ :: _, [], _ => rfl
  | x :: a, y :: b, h => by rw [eqXs_cons, eqXs_len a b (by simpa using h), Bool.and_false]
theorem eqDs_len : ∀ (a b : List Decl), ¬ a.length = b.length → eqDs a b = false
  | [], [], h => by simp at h
  | [], _ :: _, _ => rfl
  | _ :: _, [], _ => rfl
  | x :: a, y :: b, h => by rw [eqDs_cons, eqDs_len a b (by simpa using h), Bool.and_false]
theorem eqD_bad1 {d e : Decl} (h : (d.name.toList == e.name.toList) = false) : eqD d e = false := by simp [eqD, h]
theorem eqD_bad2 {d e : Decl} (h : (d.codata == e.codata) = false) : eqD d e = false := by simp [eqD, h]
theorem eqD_bad3 {d e : Decl} (h : ¬ d.xtors.length = e.xtors.length) : eqD d e = false := by simp [eqD, eqXs_len _ _ h]
theorem eqD_good {d e : Decl} (h : (d.name.toList == e.name.toList) = true) (h2 : (d.codata == e.codata) = true) : eqD d e = eqXs d.xtors e.xtors := by simp [eqD, h, h2]

set_option maxHeartbeats 2000000 in
set_option maxRecDepth 100000 in
theorem Same_any (v v' : Value) (a b : List Decl) (w : World) (h : RDecls w v a) (h' : RDecls w v' b) :
    Calls Try.prog 26 #[v, v'] w fun e w' => e = .returned (.bool (eqDs a b)) ∧ Ext w w' := by
  have HR := Lib.hid h
  have HR' := Lib.hid h'
  obtain ⟨A, c, rfl, hc, hm⟩ := h.form
  obtain ⟨A', c', rfl, hc', hm'⟩ := h'.form
  clear h h'
  unfold maxLen at hm hm'
  go_enter Try.func26, Try.ntmps26
  by_cases hl : a.length = b.length
  · have HL := Lib.hid hl
    have hlt' : ((a.length : Int) == b.length) = true := by simp [hl]
    have hlt2 : ((a.length : Int) != b.length) = false := by simp [hl]
    have hle : a.length ≤ b.length := by omega
    clear hl
    go_wp2
    go_loopw [15] (fun i wr => ∃ k : Nat, k ≤ a.length ∧ i = .int .i64 k ∧ Ext w wr ∧ eqDs a b = eqDs (a.drop k) (b.drop k)) (fun i _ => a.length - (intOf i).toNat)
    case atStart => exact ⟨0, Nat.zero_le _, rfl, Ext.rf _, rfl⟩
    case round =>
      obtain ⟨k, hk, rfl, hb, hno⟩ := hrel
      obtain ⟨wo, rfl⟩ : ∃ wo : World, wo = wr := ⟨_, rfl⟩
      have HN := Lib.hid hno; have HB := Lib.hid hb
      clear hb hno
      by_cases hlt : k < a.length
      · obtain ⟨b1, o1, v1, rfl, hbl1, g0, g1, g2, g3, g4⟩ := HR.out.at_ hlt
        obtain ⟨b2, o2, v2, rfl, hbl2, f0, f1, f2, f3, f4⟩ := HR'.out.at_ (k := k) (by omega)
        have g0 := HB.out.keep g0
        have g1 := HB.out.keep g1
        have g2 := HB.out.keep g2
        have f0 := HB.out.keep f0
        have f1 := HB.out.keep f1
        have f2 := HB.out.keep f2
        have HD := Lib.hid (drop_step hlt)
        have HD' := Lib.hid (drop_step (l := b) (k := k) (by omega))
        generalize a[k] = x at *
        generalize b[k] = y at *
        obtain ⟨xn, xc, xs⟩ := x
        obtain ⟨yn, yc, ys⟩ := y
        dsimp only at *
        obtain ⟨A2, c2, rfl, hc2, hm2⟩ := g3.form
        obtain ⟨A3, c3, rfl, hc3, hm3⟩ := f3.form
        unfold maxLen at hm2 hm3
        have HX := Lib.hid g3; have HY := Lib.hid f3; clear g3 f3
        have hk2 : k < b.length := by omega
        have HNO : Hid (eqD ⟨xn, xc, xs⟩ ⟨yn, yc, ys⟩ = false → eqDs a b = false) := fun e => by rw [HN.out, HD.out, HD'.out, eqDs_cons, e]; rfl
        cases hq : (xn.toList == yn.toList)
        · have HQ := Lib.hid (HNO.out (eqD_bad1 hq))
          have hq' : (xn.toList == yn.toList) = false := hq
          go_wp2
          go_quiet (fail)
          go_wp2
          go_ret
          exact ⟨ret_bool HQ.out.symm, HB.out.drewN _⟩
        · have HQ1 := Lib.hid hq
          have hq' : (xn.toList == yn.toList) = true := hq
          cases hq2 : (xc == yc)
          · have HQ := Lib.hid (HNO.out (eqD_bad2 hq2))
            have hq2' : (xc == yc) = false := hq2
            have hq3' : (xc != yc) = true := by rw [bne, hq2]; rfl
            go_wp2
            go_quiet (fail)
            go_wp2
            go_ret
            exact ⟨ret_bool HQ.out.symm, HB.out.drewN _⟩
          · have HQ2 := Lib.hid hq2
            have hq2' : (xc == yc) = true := hq2
            have hq3' : (xc != yc) = false := by rw [bne, hq2]; rfl
            by_cases hxl : xs.length = ys.length
            · have HG := Lib.hid (eqD_good (d := ⟨xn, xc, xs⟩) (e := ⟨yn, yc, ys⟩) HQ1.out HQ2.out)
              have HXL := Lib.hid hxl
              have hxl1 : ((xs.length : Int) == ys.length) = true := by simp [hxl]
              have hxl2 : ((xs.length : Int) != ys.length) = false := by simp [hxl]
              have hxle : xs.length ≤ ys.length := by omega
              clear hxl
              go_wp2
              go_quiet (fail)
              go_wp2
              go_loopw [63] (fun i wr => ∃ j : Nat, j ≤ xs.length ∧ i = .int .i64 j ∧ Ext wo wr ∧ eqXs xs ys = eqXs (xs.drop j) (ys.drop j)) (fun i _ => xs.length - (intOf i).toNat)
              case atStart => exact ⟨0, Nat.zero_le _, rfl, (Ext.rf _).drewN _, rfl⟩
              case round =>
                obtain ⟨j, hj, rfl, hb2, hno2⟩ := hrel
                have HN2 := Lib.hid hno2; have HB2 := Lib.hid hb2
                clear hb2 hno2
                by_cases hlt2' : j < xs.length
                · have HBw := Lib.hid (HB.out.tr HB2.out)
                  obtain ⟨b3, o3, v3, rfl, hbl3, p0, p1, p2, p3⟩ := HX.out.at_ hlt2'
                  obtain ⟨b4, o4, v4, rfl, hbl4, q0, q1, q2, q3⟩ := HY.out.at_ (k := j) (by omega)
                  have p0 := HBw.out.keep p0
                  have p1 := HBw.out.keep p1
                  have q0 := HBw.out.keep q0
                  have q1 := HBw.out.keep q1
                  have f2 := HB2.out.keep f2
                  have HD2 := Lib.hid (drop_step hlt2')
                  have HD2' := Lib.hid (drop_step (l := ys) (k := j) (by omega))
                  generalize xs[j] = x at *
                  generalize ys[j] = y at *
                  obtain ⟨A5, c5, rfl, -⟩ := p2.form
                  obtain ⟨A6, c6, rfl, -⟩ := q2.form
                  have hE5 := Ext.al wr (Obj.cells #[Value.string x.name, Value.slice A5 x.args.length c5] 45)
                  have HW5 := Lib.hid (HBw.out.tr hE5)
                  have HW6 := Lib.hid (HB2.out.tr hE5)
                  have p0 := hE5.keep p0
                  have p1 := hE5.keep p1
                  have q0 := hE5.keep q0
                  have q1 := hE5.keep q1
                  have f2 := hE5.keep f2
                  have r0 : (wr.alloc (Obj.cells #[Value.string x.name, Value.slice A5 x.args.length c5] 45)).cell? ⟨wr.heap.size, 0, none⟩ = some (.string x.name) := by
                    rw [World.cell?_alloc_at _ _ _ _ rfl]; rfl
                  have r1 : (wr.alloc (Obj.cells #[Value.string x.name, Value.slice A5 x.args.length c5] 45)).cell? ⟨wr.heap.size, 1, none⟩ = some (.slice A5 x.args.length c5) := by
                    rw [World.cell?_alloc_at _ _ _ _ rfl]; rfl
                  have HP := Lib.hid (p2.below HW5.out)
                  have HQ := Lib.hid (q2.below HW5.out)
                  clear p2 q2 hE5
                  have hjy : j < ys.length := by omega
                  have HNX : Hid (eqX x y = false → eqDs a b = false) := fun e => HNO.out (by rw [HG.out, HN2.out, HD2.out, HD2'.out, eqXs_cons, e]; rfl)
                  have HEX : Hid (eqX x y = ((x.name.toList == y.name.toList) && eqAs x.args y.args)) := rfl
                  go_wp2
                  generalize wr.alloc _ = w5 at *
                  cases hqx : (x.name.toList == y.name.toList)
                  · have HQX := Lib.hid hqx
                    have hqx' : (x.name.toList == y.name.toList) = false := hqx
                    go_quiet (fail)
                    go_wp2
                    go_ret
                    exact ⟨ret_bool (HNX.out (by rw [HEX.out, HQX.out]; rfl)).symm, HW5.out.drewN _⟩
                  · have HQX := Lib.hid hqx
                    have hqx' : (x.name.toList == y.name.toList) = true := hqx
                    have HSA : Hid (∀ n, Calls Try.prog 38 #[Value.slice A5 x.args.length c5, Value.slice A6 y.args.length c6] (w5.drewN n) fun e w' => e = .returned (.bool (eqAs x.args y.args)) ∧ ∃ m, w' = (w5.drewN n).drewN m) := fun n => SameArgs_any _ _ _ _ _ HP.out HQ.out
                    cases hqa : eqAs x.args y.args
                    · have HQA := Lib.hid hqa
                      rw [hqa] at HSA
                      clear hqa
                      go_quiet ((go_at_call 38; exact Calls.quiet_of (HSA.out _)))
                      go_wp2
                      go_ret
                      exact ⟨ret_bool (HNX.out (by rw [HEX.out, HQA.out, Bool.and_false])).symm, HW5.out.drewN _⟩
                    · have HQA := Lib.hid hqa
                      rw [hqa] at HSA
                      clear hqa
                      go_quiet ((go_at_call 38; exact Calls.quiet_of (HSA.out _)))
                      go_wp2
                      go_roundw
                      case rel => exact ⟨j + 1, by omega, by go_num, HW6.out.drewN _, by rw [HN2.out, HD2.out, HD2'.out, eqXs_cons, HEX.out, HQX.out, HQA.out]; rfl⟩
                      case measure => simp [intOf]; omega
                · go_wp2
                  go_roundw
                  case rel =>
                    have hlb : ¬ j < ys.length := by have := HXL.out; omega
                    exact ⟨k + 1, by omega, by go_num, HB.out.tr HB2.out, by rw [HN.out, HD.out, HD'.out, eqDs_cons, HG.out, HN2.out, drop_end hlt2', drop_end hlb]; rfl⟩
                  case measure => simp [intOf]; omega
            · have HQ := Lib.hid (HNO.out (eqD_bad3 hxl))
              have hxl1 : ((xs.length : Int) == ys.length) = false := by simp; omega
              have hxl2 : ((xs.length : Int) != ys.length) = true := by simp; omega
              clear hxl
              go_wp2
              go_quiet (fail)
              go_wp2
              go_ret
              exact ⟨ret_bool HQ.out.symm, HB.out.drewN _⟩
      · go_wp2
        go_ret
        have hlb : ¬ k < b.length := by have := HL.out; omega
        exact ⟨ret_bool (by rw [HN.out, drop_end hlt, drop_end hlb]; rfl), HB.out⟩
  · have hlt' : ((a.length : Int) == b.length) = false := by simp; omega
    have hlt2 : ((a.length : Int) != b.length) = true := by simp; omega
    have HQ := Lib.hid (eqDs_len a b hl)
    go_wp2
    go_ret
    exact ⟨ret_bool HQ.out.symm, Ext.rf _⟩
end Go.Proofs.Ytoopngnmdgcklaa
