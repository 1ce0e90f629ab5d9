import Derived.Test.YtkdglplfcpindaaGreatDoorQ22
set_option maxRecDepth 100000
namespace Go.Proofs.YtkdglplfcpindaaGreatDoor
open Go.RowKit
theorem BAF.ext {T e B b : Nat} {p : Value} {bs : List Value} {w w' : World} (h : Lib.BuilderAtF T e B b p bs w) (hx : Ext w w') : Lib.BuilderAtF T e B b p bs w' := by
  obtain ⟨h1, v, h2, h3, h4⟩ := h
  refine ⟨h1, v, (hx.block _ (hLt h2)).trans h2, ⟨h3.1, ?_⟩, h4⟩
  rcases h3.2 with h | ⟨g, cap, cur, fz, hv, hb, hg, r⟩
  . exact .inl h
  . exact .inr ⟨g, cap, cur, fz, hv, hb, (hx.block _ (Array.getElem?_eq_some_iff.1 hg).1).trans hg, r⟩
theorem BW.ext {B b : Nat} {bs : List UInt8} {w w' : World} (h : BW B b bs w) (hx : Ext w w') : BW B b bs w' := h.elim (fun x => .inl (BAF.ext x hx)) (fun x => .inr (BAF.ext x hx))
theorem BW.new (w : World) : BW w.heap.size w.heap.size [] (w.alloc (.cells #[.pointer none, .slice none 0 0] 108)) :=
  Lib.IsBuilderF.of (Or.inl ⟨Nat.le_refl _, _, hNw w _, World.ownsRow_nil _ _ _ _, by simp [Value.ownBlock]⟩)
theorem BString_any (B b : Nat) (l : List UInt8) (w : World) (h : BW B b l w) (hBw : B <= w.heap.size) :
    Calls Tryz.prog 46 #[.pointer (some ⟨b, 0, none⟩)] w fun e w' => e = .returned (.string ⟨l.toArray⟩) /\ Below B w w' := (Tryz.Builder_String_any_k B b l w h hBw).mono fun _ _ ⟨h1, _, h3, _⟩ => ⟨h1, h3⟩
theorem add_str5 (a b : Str) (h : a.size + b.size <= 1000) : Op.stringOp .add a b = pure (.string (a ++ b)) := by
  unfold Op.stringOp
  simp only []
  rw [if_neg (by have e : IntKind.i64.max = 9223372036854775807 := rfl
                 rw [e]; omega)]
def emS (n : Int) : List UInt8 := [101, 109, 105, 116, 32] ++ Lib.itoa n ++ [44, 32]
def endS (how val : Int) : List UInt8 := if how = 1 then [115, 112, 101, 110, 116] else if how = 2 then [115, 116, 117, 99, 107] else [100, 111, 110, 101, 32] ++ Lib.itoa val
def textS (r : Rn) : List UInt8 := r.outs.flatMap emS ++ endS r.stop r.val
structure ItoaOK (w : World) (n : Int) : Prop where
  len : (Lib.itoa n).length <= 21
  says : ∀ w', Ext w w' -> Calls Tryz.prog 44 #[.int .i64 n] w' fun e w'' => e = .returned (.string ⟨(Lib.itoa n).toArray⟩) /\ Ext w' w''
theorem ItoaOK.ext {w w' : World} {n : Int} (h : ItoaOK w n) (hx : Ext w w') : ItoaOK w' n := ⟨h.len, fun w2 h2 => h.says w2 (hx.tr h2)⟩
theorem itoa_small (w : World) (n : Int) (h0 : 0 <= n) (h1 : n < 100) (hl : (Lib.itoa n).length <= 21) : ItoaOK w n := by
  refine ⟨hl, fun w' _ => ?_⟩
  obtain ⟨k, rfl⟩ : ∃ k : Nat, n = k := ⟨n.toNat, by omega⟩
  have e : Lib.itoa (k : Int) = Lib.decDigits k := by unfold Lib.itoa; rw [if_neg (by omega), Int.toNat_natCast]
  rw [e]
  exact (Tryz.strconv_Itoa_small k (by omega) w').mono fun _ _ ⟨h1, h2⟩ => ⟨h1, h2 ▸ Ext.rf _⟩
set_option maxHeartbeats 1000000 in
theorem ending_any (w : World) (how val st : Int) (A : Option Addr) (n c : Nat) (hI : how ≠ 1 -> how ≠ 2 -> ItoaOK w val) :
    Calls Tryz.prog 45 #[.agg #[.int .i64 how, .int .i64 val, .slice A n c, .int .i64 st]] w fun e w' => e = .returned (.string ⟨(endS how val).toArray⟩) /\ Ext w w' := by
  have HI := LH hI
  have HE := LH (Ext.al w (.cells #[.int .i64 how, .int .i64 val, .slice A n c, .int .i64 st] 30))
  have hb := hNw w (.cells #[.int .i64 how, .int .i64 val, .slice A n c, .int .i64 st] 30)
  have c0 := cA hb 0
  have c1 := cA hb 1
  clear hI hb
  by_cases h1 : how = 1
  . subst h1
    go_enter Tryz.func45, Tryz.ntmps45
    go_wp2
    go_ret
    exact ⟨rfl, HE.out⟩
  . by_cases h2 : how = 2
    . subst h2
      go_enter Tryz.func45, Tryz.ntmps45
      go_wp2
      go_ret
      exact ⟨rfl, HE.out⟩
    . have HX : Hid (endS how val = [100, 111, 110, 101, 32] ++ Lib.itoa val) := by show _ = _; unfold endS; rw [if_neg h1, if_neg h2]
      have HO := LH (HI.out h1 h2)
      have h3 : (how == 1) = false := by simpa using h1
      have h4 : (how == 2) = false := by simpa using h2
      have ha := add_str5 ⟨#[100, 111, 110, 101, 32]⟩ ⟨(Lib.itoa val).toArray⟩ (by have := HO.out.len; show 5 + (Lib.itoa val).toArray.size <= 1000; rw [List.size_toArray]; omega)
      clear h1 h2
      go_enter Tryz.func45, Tryz.ntmps45
      go_wp2_with fail
      (with_reducible refine (HO.out.says _ HE.out).mono ?_)
      rintro e w2 ⟨rfl, hx⟩
      have HX2 := LH (HE.out.tr hx)
      clear hx
      go_wp2
      go_ret
      exact ⟨by rw [HX.out]; rfl, HX2.out⟩
theorem emS_len {n : Int} (h : (Lib.itoa n).length <= 21) : (emS n).length <= 28 := by unfold emS; simp; omega
theorem ems_len : ∀ (l : List Int), (∀ n ∈ l, (Lib.itoa n).length <= 21) -> (l.flatMap emS).length <= 28 * l.length
  | [], _ => by simp
  | a :: r, h => by
    have h1 := emS_len (h a (by simp))
    have h2 := ems_len r (fun n hn => h n (by simp [hn]))
    simp only [List.flatMap_cons, List.length_append, List.length_cons]
    omega
set_option maxHeartbeats 1000000 in
theorem text5_any (w : World) (r : Rn) (ov : Value) (hR : RInts w ov r.outs) (hl : r.outs.length <= 100000) (hO : ∀ n ∈ r.outs, ItoaOK w n) (hI : r.stop ≠ 1 -> r.stop ≠ 2 -> ItoaOK w r.val) :
    Calls Tryz.prog 25 #[.agg #[.int .i64 r.stop, .int .i64 r.val, ov, .int .i64 r.steps]] w fun e w' => e = .returned (.string ⟨(textS r).toArray⟩) /\ Ext w w' := by
  have HR := LH hR
  have HO := LH hO
  have HI := LH hI
  have HEL := LH (ems_len r.outs (fun n hn => (hO n hn).len))
  have HTX : Hid (textS r = r.outs.flatMap emS ++ endS r.stop r.val) := rfl
  have HEN : Hid ((endS r.stop r.val).length <= 26) := by
    show _ <= _
    unfold endS
    split
    . simp
    . split
      . simp
      . have := (hI ‹_› ‹_›).len
        simp; omega
  obtain ⟨A, c, rfl, hc, hm⟩ := hR.form
  unfold maxLen at hm
  have hz : (w.alloc (.cells #[.int .i64 r.stop, .int .i64 r.val, .slice A r.outs.length c, .int .i64 r.steps] 30)).heap.size = w.heap.size + 1 := World.size_alloc ..
  obtain ⟨g1, g2, g3, g4⟩ := bx5_two w (.cells #[.int .i64 r.stop, .int .i64 r.val, .slice A r.outs.length c, .int .i64 r.steps] 30) (.cells #[.pointer none, .slice none 0 0] 108)
  have HB := LH g1
  have HE := LH g4
  have HBW : Hid (BW (w.heap.size + 1) (w.heap.size + 1) [] ((w.alloc (.cells #[.int .i64 r.stop, .int .i64 r.val, .slice A r.outs.length c, .int .i64 r.steps] 30)).alloc (.cells #[.pointer none, .slice none 0 0] 108))) := by
    have := BW.new (w.alloc (.cells #[.int .i64 r.stop, .int .i64 r.val, .slice A r.outs.length c, .int .i64 r.steps] 30))
    rw [hz] at this
    exact this
  have c2 := cA g1 2
  clear hR hO hI g1 g2 g3 g4 hz
  go_enter Tryz.func25, Tryz.ntmps25
  go_wp2
  clear c2
  generalize World.alloc (World.alloc w _) _ = w1 at *
  go_loopw [9] (fun i wr => ∃ j : Nat, j <= r.outs.length /\ i = .int .i64 j /\ BW (w.heap.size + 1) (w.heap.size + 1) ((r.outs.take j).flatMap emS) wr /\ wr.heap[w.heap.size]? = some (.cells #[.int .i64 r.stop, .int .i64 r.val, .slice A r.outs.length c, .int .i64 r.steps] 30 (0, 0)) /\ Ext w wr) (fun i _ => r.outs.length - (intOf i).toNat)
  case atStart => exact ⟨0, Nat.zero_le _, rfl, HBW.out, HB.out, HE.out⟩
  case round =>
    obtain ⟨j, hj, rfl, hbw, hbx, hE⟩ := hrel
    have HWk := LH hbw
    have HEk := LH hE
    have HBk := LH hbx
    clear hbw hE hbx
    have HBZ : Hid (w.heap.size + 1 <= wr.heap.size) := hLt HBk.out
    by_cases hlt : j < r.outs.length
    . obtain ⟨b, o, rfl, hbl, y0⟩ := HR.out.at_ hlt
      have y0 := HEk.out.keep y0
      have HIT := LH ((HO.out _ (List.getElem_mem hlt)).ext HEk.out)
      have HTK : Hid ((r.outs.take (j + 1)).flatMap emS = (r.outs.take j).flatMap emS ++ emS r.outs[j]) := by show _ = _; rw [List.take_succ_eq_append_getElem hlt, List.flatMap_append]; simp
      have HAL : Hid (((r.outs.take j).flatMap emS).length <= 28 * 100000) := by
        show _ <= _
        have := ems_len (r.outs.take j) (fun n hn => (HO.out n (List.mem_of_mem_take hn)).len)
        rw [List.length_take] at this
        omega
      generalize r.outs[j] = x at *
      generalize (r.outs.take j).flatMap emS = acc at *
      have hsz : (⟨(Lib.itoa x).toArray⟩ : Str).size <= 21 := by have := HIT.out.len; show (Lib.itoa x).toArray.size <= 21; rw [List.size_toArray]; exact this
      have ha1 := add_str5 ⟨#[101, 109, 105, 116, 32]⟩ ⟨(Lib.itoa x).toArray⟩ (by show 5 + _ <= 1000; omega)
      have hs1 : ((⟨#[101, 109, 105, 116, 32]⟩ : Str) ++ (⟨(Lib.itoa x).toArray⟩ : Str)).size <= 26 := by rw [ByteArray.size_append]; show 5 + _ <= 26; omega
      have ha2 := add_str5 ((⟨#[101, 109, 105, 116, 32]⟩ : Str) ++ (⟨(Lib.itoa x).toArray⟩ : Str)) ⟨#[44, 32]⟩ (by show _ + 2 <= 1000; omega)
      have HL3 : Hid (acc.length + ((⟨#[101, 109, 105, 116, 32]⟩ : Str) ++ (⟨(Lib.itoa x).toArray⟩ : Str) ++ (⟨#[44, 32]⟩ : Str)).size <= 140737488355328) := by
        show _ <= _
        rw [ByteArray.size_append]
        have := HAL.out
        show _ + (_ + 2) <= _
        omega
      have HSX : Hid (((⟨#[101, 109, 105, 116, 32]⟩ : Str) ++ (⟨(Lib.itoa x).toArray⟩ : Str) ++ (⟨#[44, 32]⟩ : Str)).data.toList = emS x) := by show _ = _; simp [emS]
      clear hsz hs1
      go_wp2_with fail
      (with_reducible refine (HIT.out.says _ (Ext.rf _)).mono ?_)
      rintro e w2 ⟨rfl, hx⟩
      have HX2 := LH (HEk.out.tr hx)
      have HW2 := LH (HWk.out.ext hx)
      have HB2 := LH ((hx.block _ (hLt HBk.out)).trans HBk.out)
      have HBZ2 : Hid (w.heap.size + 1 <= w2.heap.size) := hLt HB2.out
      clear hx y0
      go_wp2_with fail
      (with_reducible refine (WriteString_any (w.heap.size + 1) (w.heap.size + 1) acc _ w2 HW2.out HL3.out HBZ2.out).mono ?_)
      rintro e w3 ⟨rfl, hw⟩
      have HW3 := LH hw
      clear hw
      go_wp2
      go_roundw
      case rel => exact ⟨j + 1, by omega, by go_num, by rw [HTK.out, ← HSX.out]; exact HW3.out.at_, (HW3.out.below.block _ (Nat.lt_succ_self _)).trans HB2.out, HX2.out.trans (HW3.out.below.mono (Nat.le_succ _))⟩
      case measure => simp [intOf]; omega
    . have HJ : Hid (r.outs.take j = r.outs) := List.take_of_length_le (by omega)
      have c0 := cA HBk.out 0
      have c1 := cA HBk.out 1
      have c2 := cA HBk.out 2
      have c3 := cA HBk.out 3
      go_wp2_with fail
      (with_reducible refine (ending_any wr r.stop r.val r.steps A r.outs.length c (fun h1 h2 => (HI.out h1 h2).ext HEk.out)).mono ?_)
      rintro e w2 ⟨rfl, hx⟩
      have HX2 := LH (HEk.out.tr hx)
      have HW2 := LH (HWk.out.ext hx)
      have HBZ2 : Hid (w.heap.size + 1 <= w2.heap.size) := Nat.le_trans HBZ.out hx.size
      have HL3 : Hid (((r.outs.take j).flatMap emS).length + (⟨(endS r.stop r.val).toArray⟩ : Str).size <= 140737488355328) := by
        show _ <= _
        rw [HJ.out]
        have h1 := HEL.out
        have h2 := HEN.out
        show _ + (endS r.stop r.val).toArray.size <= _
        rw [List.size_toArray]
        omega
      clear hx c0 c1 c2 c3
      go_wp2_with fail
      (with_reducible refine (WriteString_any (w.heap.size + 1) (w.heap.size + 1) _ _ w2 HW2.out HL3.out HBZ2.out).mono ?_)
      rintro e w3 ⟨rfl, hw⟩
      have HW3 := LH hw
      have HX3 := LH (HX2.out.trans (hw.below.mono (Nat.le_succ _)))
      have HBZ3 : Hid (w.heap.size + 1 <= w3.heap.size) := Nat.le_trans HBZ2.out hw.below.size
      clear hw
      go_wp2_with fail
      (with_reducible refine (BString_any _ _ _ _ HW3.out.at_ HBZ3.out).mono ?_)
      rintro e w4 ⟨rfl, hb⟩
      have HX4 := LH (HX3.out.trans (hb.mono (Nat.le_succ _)))
      clear hb
      go_wp2
      go_ret
      exact ⟨by rw [HTX.out, HJ.out]; rfl, HX4.out⟩
end Go.Proofs.YtkdglplfcpindaaGreatDoor

namespace Go.Proofs.YtkdglplfcpindaaGreatDoor
open Go.RowKit
def ValueR (P : Pg) (w0 : World) (fuel : Int) (inputs : List Int) (e : Ending) (w' : World) : Prop :=
  if runE P fuel inputs.length = 0 then ∃ r, RunsTo P fuel.toNat (startS P inputs) r /\ e = .returned (.tuple #[.string ⟨(textS r).toArray⟩, .int .i64 0]) /\ Ext w0 w'
  else e = .returned (.tuple #[.string ⟨#[]⟩, .int .i64 (runE P fuel inputs.length)]) /\ Ext w0 w'
set_option maxHeartbeats 2000000 in
theorem value_any (P : Pg) (w : World) (vd vf vi : Value) (fuel : Int) (inputs : List Int) (hd : RDecls w vd P.decls) (hf : RFns w vf P.funs) (hfine : FinePg P) (hI : RInts w vi inputs) (h64 : ∀ n ∈ inputs, ok64 n)
    (hO : ∀ r, runE P fuel inputs.length = 0 -> RunsTo P fuel.toNat (startS P inputs) r -> OkR r -> r.outs.length <= 100000 /\ (∀ n ∈ r.outs, ItoaOK w n) /\ (r.stop ≠ 1 -> r.stop ≠ 2 -> ItoaOK w r.val)) :
    Calls Tryz.prog 10 #[.agg #[vd, vf], .int .i64 fuel, vi] w (ValueR P w fuel inputs) := by
  have HD := LH hd
  have HF := LH hf
  have HFI := LH hfine
  have HI := LH hI
  have H64 := LH h64
  have HO := LH hO
  obtain ⟨Ad, cd, rfl, -, -⟩ := hd.form
  obtain ⟨Af, cf, rfl, -, -⟩ := hf.form
  obtain ⟨Ai, ci, rfl, -, -⟩ := hI.form
  have hb := hNw w (.cells #[.slice Ad P.decls.length cd, .slice Af P.funs.length cf] 25)
  have HE := LH (Ext.al w (.cells #[.slice Ad P.decls.length cd, .slice Af P.funs.length cf] 25))
  have c0 := cA hb 0
  have c1 := cA hb 1
  clear hd hf hfine hI h64 hO hb
  go_enter Tryz.func10, Tryz.ntmps10
  go_wp2_with fail
  generalize World.alloc w _ = w1 at *
  (with_reducible refine (run_any P w1 _ _ _ fuel inputs (HD.out.below HE.out) (HF.out.below HE.out) HFI.out (HI.out.below HE.out) H64.out).mono ?_)
  intro e w2 hr
  unfold RunR at hr
  by_cases hq : runE P fuel inputs.length = 0
  . have HQ := LH hq
    rw [if_pos hq] at hr
    obtain ⟨r, ov, ⟨h1, hokr⟩, rfl, h2, h3⟩ := hr
    obtain ⟨Ao, co, rfl⟩ := oSL h2
    have HR := LH h1
    have HX := LH (HE.out.tr h3)
    have HIN := LH (own_ints h2)
    have HOO := LH (HO.out r HQ.out h1 hokr)
    have g := hNw w2 (.cells #[.int .i64 r.stop, .int .i64 r.val, .slice Ao r.outs.length co, .int .i64 r.steps] 30)
    have HG := LH g
    have HX3 := LH (Ext.al w2 (.cells #[.int .i64 r.stop, .int .i64 r.val, .slice Ao r.outs.length co, .int .i64 r.steps] 30))
    clear hq h1 h2 h3 hokr c0 c1 g
    go_wp2_with fail
    (with_reducible refine (text5_any _ r _ (HIN.out.below HX3.out) HOO.out.1 (fun n hn => (HOO.out.2.1 n hn).ext (HX.out.tr HX3.out)) (fun h1 h2 => (HOO.out.2.2 h1 h2).ext (HX.out.tr HX3.out))).mono ?_)
    rintro e w4 ⟨rfl, hx⟩
    have HX4 := LH ((HX.out.tr HX3.out).tr hx)
    clear hx
    go_wp2
    go_ret2
    unfold ValueR
    rw [if_pos HQ.out]
    exact ⟨r, HR.out, rfl, HX4.out⟩
  . have HQ := LH hq
    rw [if_neg hq] at hr
    unfold zeroRun at hr
    obtain ⟨rfl, h3⟩ := hr
    have HX := LH (HE.out.tr h3)
    have hne : (runE P fuel inputs.length == 0) = false := by simpa using hq
    generalize hk : runE P fuel inputs.length = code at *
    have HK := LH hk
    clear hq h3 c0 c1 hk
    go_wp2
    go_ret2
    unfold ValueR
    rw [HK.out, if_neg HQ.out]
    exact ⟨rfl, HX.out.tr (Ext.al _ _)⟩
end Go.Proofs.YtkdglplfcpindaaGreatDoor

namespace Go.Proofs.YtkdglplfcpindaaGreatDoor
open Go.RowKit
def sameR (r q : Rn) : Bool := decide (r.stop = q.stop) && decide (r.val = q.val) && decide (r.steps = q.steps) && eqL r.outs q.outs
theorem sameR_refl (r : Rn) : sameR r r = true := by
  have h : ∀ l : List Int, eqL l l = true := fun l => by
    induction l with
    | nil => rfl
    | cons a l ih => rw [eqL_cons, ih]; simp
  simp [sameR, h]
set_option maxHeartbeats 2000000 in
theorem Same5_any (w : World) (r q : Rn) (ov ov' : Value) (h1 : RInts w ov r.outs) (h2 : RInts w ov' q.outs) :
    Calls Tryz.prog 12 #[.agg #[.int .i64 r.stop, .int .i64 r.val, ov, .int .i64 r.steps], .agg #[.int .i64 q.stop, .int .i64 q.val, ov', .int .i64 q.steps]] w fun e w' => e = .returned (.bool (sameR r q)) /\ Ext w w' := by
  have HS : Hid (sameR r q = (decide (r.stop = q.stop) && decide (r.val = q.val) && decide (r.steps = q.steps) && eqL r.outs q.outs)) := rfl
  clear HS
  obtain ⟨a, x, l, n⟩ := r
  obtain ⟨a', x', l', n'⟩ := q
  simp only at h1 h2
  have H1 := LH h1
  have H2 := LH h2
  obtain ⟨A, c, rfl, -, -⟩ := h1.form
  obtain ⟨B, d, rfl, -, -⟩ := h2.form
  clear h1 h2
  by_cases e1 : a = a'
  . subst e1
    by_cases e2 : x = x'
    . subst e2
      by_cases e3 : n = n'
      . subst e3
        have HQ : Hid (sameR ⟨a, x, l, n⟩ ⟨a, x, l', n⟩ = eqL l l') := by show _ = _; simp [sameR]
        obtain ⟨g1, g2, g3, g4⟩ := bx5_two w (.cells #[.int .i64 a, .int .i64 x, .slice A l.length c, .int .i64 n] 30) (.cells #[.int .i64 a, .int .i64 x, .slice B l'.length d, .int .i64 n] 30)
        have HE := LH g4
        have c0 := cA g1 0
        have c1 := cA g1 1
        have c2 := cA g1 2
        have c3 := cA g1 3
        have d0 := cA g2 0
        have d1 := cA g2 1
        have d2 := cA g2 2
        have d3 := cA g2 3
        clear g1 g2 g3 g4
        go_enter Tryz.func12, Tryz.ntmps12
        go_wp2_with fail
        (with_reducible refine (same_ints_any _ _ l l' _ (H1.out.below HE.out) (H2.out.below HE.out)).mono ?_)
        rintro e w2 ⟨rfl, hx⟩
        have HX := LH (HE.out.tr hx)
        clear hx
        go_wp2
        go_ret
        exact ⟨by rw [HQ.out]; rfl, HX.out⟩
      . have HQ : Hid (sameR ⟨a, x, l, n⟩ ⟨a, x, l', n'⟩ = false) := by show _ = _; simp [sameR, e3]
        have q3 : ((n : Int) == n') = false := by simp; omega
        clear e3
        obtain ⟨g1, g2, g3, g4⟩ := bx5_two w (.cells #[.int .i64 a, .int .i64 x, .slice A l.length c, .int .i64 n] 30) (.cells #[.int .i64 a, .int .i64 x, .slice B l'.length d, .int .i64 n'] 30)
        have HE := LH g4
        have c0 := cA g1 0
        have c1 := cA g1 1
        have c2 := cA g1 2
        have c3 := cA g1 3
        have d0 := cA g2 0
        have d1 := cA g2 1
        have d2 := cA g2 2
        have d3 := cA g2 3
        clear g1 g2 g3 g4
        go_enter Tryz.func12, Tryz.ntmps12
        go_wp2
        go_ret
        exact ⟨by rw [HQ.out]; rfl, HE.out⟩
    . have HQ : Hid (sameR ⟨a, x, l, n⟩ ⟨a, x', l', n'⟩ = false) := by show _ = _; simp [sameR, e2]
      have q2 : (x == x') = false := by simpa using e2
      clear e2
      obtain ⟨g1, g2, g3, g4⟩ := bx5_two w (.cells #[.int .i64 a, .int .i64 x, .slice A l.length c, .int .i64 n] 30) (.cells #[.int .i64 a, .int .i64 x', .slice B l'.length d, .int .i64 n'] 30)
      have HE := LH g4
      have c0 := cA g1 0
      have c1 := cA g1 1
      have c2 := cA g1 2
      have c3 := cA g1 3
      have d0 := cA g2 0
      have d1 := cA g2 1
      have d2 := cA g2 2
      have d3 := cA g2 3
      clear g1 g2 g3 g4
      go_enter Tryz.func12, Tryz.ntmps12
      go_wp2
      go_ret
      exact ⟨by rw [HQ.out]; rfl, HE.out⟩
  . have HQ : Hid (sameR ⟨a, x, l, n⟩ ⟨a', x', l', n'⟩ = false) := by show _ = _; simp [sameR, e1]
    have q1 : (a == a') = false := by simpa using e1
    clear e1
    obtain ⟨g1, g2, g3, g4⟩ := bx5_two w (.cells #[.int .i64 a, .int .i64 x, .slice A l.length c, .int .i64 n] 30) (.cells #[.int .i64 a', .int .i64 x', .slice B l'.length d, .int .i64 n'] 30)
    have HE := LH g4
    have c0 := cA g1 0
    have c1 := cA g1 1
    have c2 := cA g1 2
    have c3 := cA g1 3
    have d0 := cA g2 0
    have d1 := cA g2 1
    have d2 := cA g2 2
    have d3 := cA g2 3
    clear g1 g2 g3 g4
    go_enter Tryz.func12, Tryz.ntmps12
    go_wp2
    go_ret
    exact ⟨by rw [HQ.out]; rfl, HE.out⟩
end Go.Proofs.YtkdglplfcpindaaGreatDoor

namespace Go.Proofs.YtkdglplfcpindaaGreatDoor
open Go.RowKit
def mainS5 : Str := ⟨#[109, 97, 105, 110]⟩
def noS5 : Str := ⟨#[]⟩
def kS5 : Str := ⟨#[107]⟩
def intT5 (n : Int) : Tm := .mk 1 n noS5 0 [] []
def jmpT5 : Tm := .mk 12 0 kS5 0 [intT5 5] []
def addT5 : Tm := .mk 2 0 noS5 0 [intT5 1, jmpT5] []
def labT5 : Tm := .mk 11 0 kS5 0 [addT5] []
def callT5 : Tm := .mk 9 0 noS5 0 [] []
def emitT5 : Tm := .mk 10 0 noS5 0 [intT5 5, intT5 5] []
def exP5 (t : Tm) : Pg := ⟨[], [⟨mainS5, [], 0, t⟩]⟩
set_option maxRecDepth 100000
theorem ex5_prog1 : progB (exP5 labT5) = true := by kernel_rfl
theorem ex5_prog2 : progB (exP5 callT5) = true := by kernel_rfl
theorem ex5_prog3 : progB (exP5 emitT5) = true := by kernel_rfl
theorem ex5_run1 : runS (exP5 labT5) 100 20 (startS (exP5 labT5) []) = some ⟨0, 5, [], 5⟩ := by kernel_rfl
theorem ex5_run2 : runS (exP5 callT5) 3 20 (startS (exP5 callT5) []) = some ⟨1, 0, [], 3⟩ := by kernel_rfl
theorem ex5_run3 : runS (exP5 emitT5) 9 20 (startS (exP5 emitT5) []) = some ⟨0, 5, [5], 3⟩ := by kernel_rfl
theorem RT.leaf (w : World) (k : Nat) (op n : Int) (nm : Str) (ty : Int) (h1 : nm.size <= maxLen) (h2 : ok64 n) (h3 : ok64 ty) : RT w (k + 1) (.mk op n nm ty [] []) (.slice none 0 0) (.slice none 0 0) :=
  ⟨⟨h1, h2, h3⟩, ⟨none, 0, rfl, Nat.le_refl _, Nat.zero_le _, fun i x h => by cases h⟩, ⟨none, 0, rfl, Nat.le_refl _, Nat.zero_le _, fun i x h => by cases h⟩⟩
theorem RT.one {w : World} {g k : Nat} {op n : Int} {nm : Str} {ty : Int} {a : Tm} {xa xc : Value} (h1 : nm.size <= maxLen) (h2 : ok64 n) (h3 : ok64 ty)
    (hg : w.heap[g]? = some (.cells #[.int .i64 a.op, .int .i64 a.n, .string a.nm, .int .i64 a.ty, xa, xc] 50 (0, 0))) (ha : RT w k a xa xc) : RT w (k + 1) (.mk op n nm ty [a] []) (.slice (some ⟨g, 0, none⟩) 1 1) (.slice none 0 0) :=
  ⟨⟨h1, h2, h3⟩, ⟨some ⟨g, 0, none⟩, 1, rfl, Nat.le_refl _, by decide, fun i x hi => by
    match i, hi with
    | 0, hi => obtain rfl := Option.some.inj hi; exact ⟨g, 0, xa, xc, rfl, hLt hg, ⟨cA hg 0, cA hg 1, cA hg 2, cA hg 3, cA hg 4, cA hg 5⟩, ha⟩⟩,
    ⟨none, 0, rfl, Nat.le_refl _, Nat.zero_le _, fun i x h => by cases h⟩⟩
theorem RT.two {w : World} {g k : Nat} {op n : Int} {nm : Str} {ty : Int} {a b : Tm} {xa xc ya yc : Value} (h1 : nm.size <= maxLen) (h2 : ok64 n) (h3 : ok64 ty)
    (hg : w.heap[g]? = some (.cells #[.int .i64 a.op, .int .i64 a.n, .string a.nm, .int .i64 a.ty, xa, xc, .int .i64 b.op, .int .i64 b.n, .string b.nm, .int .i64 b.ty, ya, yc] 50 (0, 0))) (ha : RT w k a xa xc) (hb : RT w k b ya yc) :
    RT w (k + 1) (.mk op n nm ty [a, b] []) (.slice (some ⟨g, 0, none⟩) 2 2) (.slice none 0 0) :=
  ⟨⟨h1, h2, h3⟩, ⟨some ⟨g, 0, none⟩, 2, rfl, Nat.le_refl _, by decide, fun i x hi => by
    match i, hi with
    | 0, hi => obtain rfl := Option.some.inj hi; exact ⟨g, 0, xa, xc, rfl, hLt hg, ⟨cA hg 0, cA hg 1, cA hg 2, cA hg 3, cA hg 4, cA hg 5⟩, ha⟩
    | 1, hi => obtain rfl := Option.some.inj hi; exact ⟨g, 0, ya, yc, rfl, hLt hg, ⟨cA hg 6, cA hg 7, cA hg 8, cA hg 9, cA hg 10, cA hg 11⟩, hb⟩⟩,
    ⟨none, 0, rfl, Nat.le_refl _, Nat.zero_le _, fun i x h => by cases h⟩⟩
theorem no_decls (w : World) : RDecls w (.slice none 0 0) [] := ⟨none, 0, rfl, Nat.le_refl _, Nat.zero_le _, fun i x h => by cases h⟩
theorem no_ints (w : World) : RInts w (.slice none 0 0) [] := ⟨none, 0, rfl, Nat.le_refl _, Nat.zero_le _, fun i x h => by cases h⟩
theorem one_fun {w : World} {g k : Nat} {t : Tm} {va vc : Value} (hg : w.heap[g]? = some (.cells #[.string mainS5, .slice none 0 0, .int .i64 0, .int .i64 t.op, .int .i64 t.n, .string t.nm, .int .i64 t.ty, va, vc] 52 (0, 0))) (ht : RT w k t va vc) : RFns w (.slice (some ⟨g, 0, none⟩) 1 1) (exP5 t).funs :=
  ⟨_, 1, rfl, Nat.le_refl _, by decide, fun i f hi => by
    match i, hi with
    | 0, hi =>
      obtain rfl := Option.some.inj hi
      exact ⟨_, 0, _, _, _, k, rfl, hLt hg, cA hg 0, cA hg 1, cA hg 2, ⟨cA hg 3, cA hg 4, cA hg 5, cA hg 6, cA hg 7, cA hg 8⟩, by show mainS5.size <= maxLen; decide, ⟨none, 0, rfl, Nat.le_refl _, Nat.zero_le _, fun i a hi => by cases hi⟩, ht⟩⟩
theorem ex5_fine (t : Tm) (h : t = labT5 ∨ t = callT5 ∨ t = emitT5) : FinePg (exP5 t) := fun f hf => by
  obtain rfl : f = ⟨mainS5, [], 0, t⟩ := by simpa [exP5] using hf
  refine FineT.toF ?_ _
  rcases h with rfl | rfl | rfl
  . refine ⟨?_, by decide⟩
    have h : nodesL 1 labT5 = [(1, labT5), (2, addT5), (3, intT5 1), (3, jmpT5), (4, intT5 5)] := by rfl
    rw [h]
    intro y hy
    simp only [List.mem_cons, List.not_mem_nil, or_false] at hy
    rcases hy with rfl | rfl | rfl | rfl | rfl <;> decide
  . refine ⟨?_, by decide⟩
    have h : nodesL 1 callT5 = [(1, callT5)] := by rfl
    rw [h]
    intro y hy
    simp only [List.mem_cons, List.not_mem_nil, or_false] at hy
    subst hy; decide
  . refine ⟨?_, by decide⟩
    have h : nodesL 1 emitT5 = [(1, emitT5), (2, intT5 5), (2, intT5 5)] := by rfl
    rw [h]
    intro y hy
    simp only [List.mem_cons, List.not_mem_nil, or_false] at hy
    rcases hy with rfl | rfl | rfl <;> decide
set_option maxHeartbeats 1000000 in
theorem wrap5_any (t : Tm) (va vc : Value) (w : World) (k : Nat) (h : RT w k t va vc) :
    Calls Tryz.prog 21 #[tV t va vc] w fun e w' => ∃ vf, e = .returned (pV (.slice none 0 0) vf) /\ RFns w' vf (exP5 t).funs /\ Ext w w' := by
  have H := LH h
  obtain ⟨⟨Ax, cx, rfl, -, -⟩, ⟨Ay, cy, rfl, -, -⟩⟩ := RTx.form ⟨k, h⟩
  clear h
  have hb := hNw w (.cells #[.int .i64 t.op, .int .i64 t.n, .string t.nm, .int .i64 t.ty, .slice Ax t.args.length cx, .slice Ay t.cls.length cy] 50)
  have c0 := cA hb 0
  have c1 := cA hb 1
  have c2 := cA hb 2
  have c3 := cA hb 3
  have c4 := cA hb 4
  have c5 := cA hb 5
  clear hb
  go_enter Tryz.func21, Tryz.ntmps21
  go_wp2
  obtain ⟨-, g2, g3, -, g5⟩ := bx5_three w (.cells #[.int .i64 t.op, .int .i64 t.n, .string t.nm, .int .i64 t.ty, .slice Ax t.args.length cx, .slice Ay t.cls.length cy] 50) (.cells #[.slice none 0 0, .slice (some ⟨w.heap.size + 1 + 1, 0, none⟩) 1 1] 25)
    (.cells #[.string ⟨#[109, 97, 105, 110]⟩, .slice none 0 0, .int .i64 0, .int .i64 t.op, .int .i64 t.n, .string t.nm, .int .i64 t.ty, .slice Ax t.args.length cx, .slice Ay t.cls.length cy] 52)
  clear c0 c1 c2 c3 c4 c5
  generalize World.alloc (World.alloc (World.alloc w _) _) _ = w1 at *
  have q0 := cA g2 0
  have q1 := cA g2 1
  exact bodyPost_ret (v := .agg #[.slice none 0 0, .slice (some ⟨w.heap.size + 1 + 1, 0, none⟩) 1 1]) (by simp [results, Tryz.results21, go_sem, q0, q1]) rfl ⟨_, rfl, one_fun g3 (H.out.below g5), g5⟩
end Go.Proofs.YtkdglplfcpindaaGreatDoor

namespace Go.Proofs.YtkdglplfcpindaaGreatDoor
open Go.RowKit
theorem itoa5 : Lib.itoa 5 = [53] := by simp [Lib.itoa, Lib.decDigits]
theorem text_ex1 : textS ⟨0, 5, [], 5⟩ = [100, 111, 110, 101, 32, 53] := by simp [textS, endS, itoa5]
theorem text_ex3 : textS ⟨0, 5, [5], 3⟩ = [101, 109, 105, 116, 32, 53, 44, 32, 100, 111, 110, 101, 32, 53] := by simp [textS, endS, emS, itoa5]
theorem ex5_e1 : runE (exP5 labT5) 100 ([] : List Int).length = 0 := by unfold runE; rw [ex5_prog1]; rfl
theorem ex5_e2 : runE (exP5 callT5) 3 ([] : List Int).length = 0 := by unfold runE; rw [ex5_prog2]; rfl
theorem ex5_e3 : runE (exP5 emitT5) 9 ([] : List Int).length = 0 := by unfold runE; rw [ex5_prog3]; rfl
theorem ex5_e4 : runE (exP5 labT5) 20001 ([] : List Int).length = 1 := by unfold runE; rw [ex5_prog1]; rfl
theorem run_ex {P : Pg} {w w' : World} {fuel : Int} {inputs : List Int} {e : Ending} {r : Rn} (hE : runE P fuel inputs.length = 0) (hr : RunsTo P fuel.toNat (startS P inputs) r) (h : RunR P w fuel inputs e w') :
    ∃ A c, e = .returned (.tuple #[.agg #[.int .i64 r.stop, .int .i64 r.val, .slice A r.outs.length c, .int .i64 r.steps], .int .i64 0]) /\ RInts w' (.slice A r.outs.length c) r.outs /\ Ext w w' := by
  unfold RunR at h
  rw [if_pos hE] at h
  obtain ⟨q, ov, ⟨h1, -⟩, h2, h3, h4⟩ := h
  obtain rfl := h1.one hr
  obtain ⟨A, c, rfl⟩ := oSL h3
  exact ⟨A, c, h2, own_ints h3, h4⟩
theorem value_ex {P : Pg} {w w' : World} {fuel : Int} {inputs : List Int} {e : Ending} {r : Rn} (hE : runE P fuel inputs.length = 0) (hr : RunsTo P fuel.toNat (startS P inputs) r) (h : ValueR P w fuel inputs e w') :
    e = .returned (.tuple #[.string ⟨(textS r).toArray⟩, .int .i64 0]) /\ Ext w w' := by
  unfold ValueR at h
  rw [if_pos hE] at h
  obtain ⟨q, h1, h2, h3⟩ := h
  obtain rfl := h1.one hr
  exact ⟨h2, h3⟩
theorem run_no {P : Pg} {w w' : World} {fuel : Int} {inputs : List Int} {e : Ending} {c : Int} (hE : runE P fuel inputs.length = c) (hc : c ≠ 0) (h : RunR P w fuel inputs e w') :
    e = .returned (.tuple #[.agg #[.int .i64 0, .int .i64 0, .slice none 0 0, .int .i64 0], .int .i64 c]) /\ Ext w w' := by
  unfold RunR at h
  rw [if_neg (by rw [hE]; exact hc), hE] at h
  exact h
theorem ex5_to1 : RunsTo (exP5 labT5) (100 : Int).toNat (startS (exP5 labT5) []) ⟨0, 5, [], 5⟩ := ⟨20, ex5_run1⟩
theorem ex5_to2 : RunsTo (exP5 callT5) (3 : Int).toNat (startS (exP5 callT5) []) ⟨1, 0, [], 3⟩ := ⟨20, ex5_run2⟩
theorem ex5_to3 : RunsTo (exP5 emitT5) (9 : Int).toNat (startS (exP5 emitT5) []) ⟨0, 5, [5], 3⟩ := ⟨20, ex5_run3⟩
theorem RInts.nilx {w w' : World} {A : Option Addr} {c : Nat} (h : RInts w (.slice A 0 c) []) : RInts w' (.slice A 0 c) [] := by
  obtain ⟨A', c', e, h1, h2, h3⟩ := h
  simp only [Value.slice.injEq] at e
  obtain ⟨rfl, -, rfl⟩ := e
  exact ⟨A, c, rfl, Nat.zero_le _, h2, fun i a hi => by cases hi⟩
theorem io5 (w : World) : ItoaOK w 5 := itoa_small w 5 (by decide) (by decide) (by rw [itoa5]; decide)
set_option maxHeartbeats 8000000 in
theorem awake5_any (w : World) : Calls Tryz.prog 8 #[] w fun e w' => e = .returned (.bool true) /\ Ext w w' := by
  obtain ⟨a1, a2, a3, a4, -, a5⟩ := bx5_four w (.cells #[.int .i64 1, .int .i64 5, .string ⟨#[]⟩, .int .i64 0, .slice none 0 0, .slice none 0 0] 50)
    (.cells #[.int .i64 1, .int .i64 5, .string ⟨#[]⟩, .int .i64 0, .slice none 0 0, .slice none 0 0] 50)
    (.cells #[.int .i64 1, .int .i64 1, .string ⟨#[]⟩, .int .i64 0, .slice none 0 0, .slice none 0 0, .int .i64 12, .int .i64 0, .string ⟨#[107]⟩, .int .i64 0, .slice (some ⟨w.heap.size + 1, 0, none⟩) 1 1, .slice none 0 0] 50)
    (.cells #[.int .i64 2, .int .i64 0, .string ⟨#[]⟩, .int .i64 0, .slice (some ⟨w.heap.size + 1 + 1, 0, none⟩) 2 2, .slice none 0 0] 50)
  have HA := LH a1
  have HE1 := LH a5
  have hlf : ∀ (W : World) (k : Nat) (n : Int), ok64 n -> RT W (k + 1) (intT5 n) (.slice none 0 0) (.slice none 0 0) := fun W k n hn => RT.leaf W k 1 n noS5 0 (by decide) hn (by unfold ok64; decide)
  have HLF := LH hlf
  have HRT : Hid (RT _ 4 labT5 (.slice (some ⟨w.heap.size + 1 + 1 + 1, 0, none⟩) 1 1) (.slice none 0 0)) :=
    RT.one (a := addT5) (by decide) (by unfold ok64; decide) (by unfold ok64; decide) a4 (RT.two (a := intT5 1) (b := jmpT5) (by decide) (by unfold ok64; decide) (by unfold ok64; decide) a3 (hlf _ 1 1 (by unfold ok64; decide)) (RT.one (a := intT5 5) (by decide) (by unfold ok64; decide) (by unfold ok64; decide) a2 (hlf _ 0 5 (by unfold ok64; decide))))
  have n0 := hNw w (.cells #[.int .i64 1, .int .i64 5, .string ⟨#[]⟩, .int .i64 0, .slice none 0 0, .slice none 0 0] 50)
  have c0 := cA n0 0
  have c1 := cA n0 1
  have c2 := cA n0 2
  have c3 := cA n0 3
  have c4 := cA n0 4
  have c5 := cA n0 5
  clear a1 a2 a3 a4 a5 hlf n0
  go_enter Tryz.func8, Tryz.ntmps8
  go_wp2_with fail
  clear c0 c1 c2 c3 c4 c5
  generalize World.alloc (World.alloc (World.alloc (World.alloc w _) _) _) _ = w1 at *
  (refine (wrap5_any labT5 _ _ w1 4 HRT.out).mono ?_)
  rintro e w2 ⟨vf, rfl, hf, hx⟩
  obtain ⟨Af, cf, hvf, -, -⟩ := hf.form
  have hvf : vf = .slice Af 1 cf := hvf
  subst hvf
  have HF2 := LH hf
  have HX2 := LH (HE1.out.tr hx)
  have HA2 := LH ((hx.block _ (hLt HA.out)).trans HA.out)
  have HX3 := LH (Ext.al w2 (.cells #[.slice none 0 0, .slice Af 1 cf] 25))
  have n3 := hNw w2 (.cells #[.slice none 0 0, .slice Af 1 cf] 25)
  have HP3 := LH n3
  have p0 := cA n3 0
  have p1 := cA n3 1
  clear hf hx n3
  go_wp2_with fail
  generalize hw3 : World.alloc w2 _ = w3 at *
  clear hw3
  (refine (run_any (exP5 labT5) w3 (.slice none 0 0) (.slice Af 1 cf) (.slice none 0 0) 100 [] (no_decls _) (HF2.out.below HX3.out) (ex5_fine _ (.inl rfl)) (no_ints _) (fun n hn => by cases hn)).mono ?_)
  intro e w4 hr
  obtain ⟨Ar, cr, rfl, hri, hx⟩ := run_ex ex5_e1 ex5_to1 hr
  have HRI := LH hri
  have HX4 := LH ((HX2.out.tr HX3.out).tr hx)
  have HP4 := LH ((hx.block _ (hLt HP3.out)).trans HP3.out)
  have HA4 := LH ((hx.block _ (hLt (((HX3.out.block _ (hLt HA2.out)).trans HA2.out)))).trans ((HX3.out.block _ (hLt HA2.out)).trans HA2.out))
  have HF4 := LH (HF2.out.below (HX3.out.tr hx))
  clear hr hri hx p0 p1
  have HX5 := LH (Ext.al w4 (.cells #[.int .i64 0, .int .i64 5, .slice Ar 0 cr, .int .i64 5] 30))
  have n5 := hNw w4 (.cells #[.int .i64 0, .int .i64 5, .slice Ar 0 cr, .int .i64 5] 30)
  have HR5 := LH n5
  have HP5 := LH ((HX5.out.block _ (hLt HP4.out)).trans HP4.out)
  have p0 := cA HP5.out 0
  have p1 := cA HP5.out 1
  clear n5
  go_wp2_with fail
  generalize hw5 : World.alloc w4 _ = w5 at *
  clear hw5
  (refine (value_any (exP5 labT5) w5 (.slice none 0 0) (.slice Af 1 cf) (.slice none 0 0) 100 [] (no_decls _) (HF4.out.below HX5.out) (ex5_fine _ (.inl rfl)) (no_ints _) (fun n hn => by cases hn) (fun r _ hr _ => by
    obtain rfl := hr.one ex5_to1
    exact ⟨by decide, (fun n hn => by cases hn), (fun _ _ => io5 _)⟩)).mono ?_)
  intro e w6 hr
  obtain ⟨rfl, hx⟩ := value_ex ex5_e1 ex5_to1 hr
  rw [text_ex1]
  have HX6 := LH ((HX4.out.tr HX5.out).tr hx)
  have HY6 := LH (HX5.out.tr hx)
  have HP6 := LH ((hx.block _ (hLt HP5.out)).trans HP5.out)
  have HR6 := LH ((hx.block _ (hLt HR5.out)).trans HR5.out)
  have HF6 := LH (HF4.out.below (HX5.out.tr hx))
  have HRI6 := LH (HRI.out.below (HX5.out.tr hx))
  have HA6 := LH ((hx.block _ (hLt ((HX5.out.block _ (hLt HA4.out)).trans HA4.out))).trans ((HX5.out.block _ (hLt HA4.out)).trans HA4.out))
  clear hr hx p0 p1
  have r0 := cA HR6.out 0
  have r1 := cA HR6.out 1
  have r2 := cA HR6.out 2
  have r3 := cA HR6.out 3
  go_wp2_with fail
  (refine (Same5_any w6 ⟨0, 5, [], 5⟩ ⟨0, 5, [], 5⟩ (.slice Ar 0 cr) (.slice none 0 0) HRI6.out (no_ints _)).mono ?_)
  rintro e w7 ⟨rfl, hx⟩
  rw [sameR_refl]
  have HX7 := LH (HX6.out.tr hx)
  have HY7 := LH (HY6.out.tr hx)
  have HP7 := LH ((hx.block _ (hLt HP6.out)).trans HP6.out)
  have HR7 := LH ((hx.block _ (hLt HR6.out)).trans HR6.out)
  have HA7 := LH ((hx.block _ (hLt HA6.out)).trans HA6.out)
  have HF7 := LH (HF6.out.below hx)
  clear hx r0 r1 r2 r3
  go_wp2_with fail
  (refine (wrap5_any callT5 _ _ w7 1 (RT.leaf _ _ _ _ _ _ (by decide) (by unfold ok64; decide) (by unfold ok64; decide))).mono ?_)
  rintro e w8 ⟨vg, rfl, hg, hx⟩
  obtain ⟨Ag, cg, hvg, -, -⟩ := hg.form
  have hvg : vg = .slice Ag 1 cg := hvg
  subst hvg
  have HG8 := LH hg
  have HX8 := LH (HX7.out.tr hx)
  have HY8 := LH (HY7.out.tr hx)
  have HP8 := LH ((hx.block _ (hLt HP7.out)).trans HP7.out)
  have HR8 := LH ((hx.block _ (hLt HR7.out)).trans HR7.out)
  have HA8 := LH ((hx.block _ (hLt HA7.out)).trans HA7.out)
  have HF8 := LH (HF7.out.below hx)
  clear hg hx
  go_wp2_with fail
  (refine (run_any (exP5 callT5) w8 (.slice none 0 0) (.slice Ag 1 cg) (.slice none 0 0) 3 [] (no_decls _) HG8.out (ex5_fine _ (.inr (.inl rfl))) (no_ints _) (fun n hn => by cases hn)).mono ?_)
  intro e w9 hr
  obtain ⟨As, cs, rfl, hri, hx⟩ := run_ex ex5_e2 ex5_to2 hr
  have HRI9 := LH hri
  have HX9 := LH (HX8.out.tr hx)
  have HY9 := LH (HY8.out.tr hx)
  have HP9 := LH ((hx.block _ (hLt HP8.out)).trans HP8.out)
  have HR9 := LH ((hx.block _ (hLt HR8.out)).trans HR8.out)
  have HA9 := LH ((hx.block _ (hLt HA8.out)).trans HA8.out)
  have HF9 := LH (HF8.out.below hx)
  clear hr hri hx
  have r0 := cA HR9.out 0
  have r1 := cA HR9.out 1
  have r2 := cA HR9.out 2
  have r3 := cA HR9.out 3
  have f0 := fA HR9.out 0
  have f1 := fA HR9.out 1
  have f2 := fA HR9.out 2
  have f3 := fA HR9.out 3
  go_upto_region 9 with fail
  have HON := LH (only4_set w9 w4.heap.size (.int .i64 1) (.int .i64 0) (.slice As 0 cs) (.int .i64 3))
  have HZZ := LH (box4_all HR9.out (.int .i64 1) (.int .i64 0) (.slice As 0 cs) (.int .i64 3))
  clear r0 r1 r2 r3 f0 f1 f2 f3
  generalize World.setCell (World.setCell (World.setCell (World.setCell w9 _ _) _ _) _ _) _ _ = wz at *
  have HYZ : Hid (Ext w4 wz) := HY9.out.trans (HON.out.below HY9.out.size (fun b hb => hb ▸ Nat.le_refl _))
  have HXZ := LH (HX4.out.tr HYZ.out)
  have HPZ := LH ((HYZ.out.block _ (hLt HP4.out)).trans HP4.out)
  have HAZ := LH ((HYZ.out.block _ (hLt HA4.out)).trans HA4.out)
  have HFZ := LH (HF4.out.below HYZ.out)
  have p0 := cA HPZ.out 0
  have p1 := cA HPZ.out 1
  go_wp2_with fail
  (refine (run_any (exP5 labT5) wz (.slice none 0 0) (.slice Af 1 cf) (.slice none 0 0) 20001 [] (no_decls _) HFZ.out (ex5_fine _ (.inl rfl)) (no_ints _) (fun n hn => by cases hn)).mono ?_)
  intro e w10 hr
  obtain ⟨rfl, hx⟩ := run_no ex5_e4 (by decide) hr
  have HXa := LH (HXZ.out.tr hx)
  have HAa := LH ((hx.block _ (hLt HAZ.out)).trans HAZ.out)
  have HRa := LH ((hx.block _ (hLt HZZ.out)).trans HZZ.out)
  clear hr hx p0 p1
  have c0 := cA HAa.out 0
  have c1 := cA HAa.out 1
  have c2 := cA HAa.out 2
  have c3 := cA HAa.out 3
  have c4 := cA HAa.out 4
  have c5 := cA HAa.out 5
  have HEb := LH (Ext.al w10 (.cells #[.int .i64 1, .int .i64 5, .string ⟨#[]⟩, .int .i64 0, .slice none 0 0, .slice none 0 0, .int .i64 1, .int .i64 5, .string ⟨#[]⟩, .int .i64 0, .slice none 0 0, .slice none 0 0] 50))
  have HRTb : Hid (RT (w10.alloc (.cells #[.int .i64 1, .int .i64 5, .string ⟨#[]⟩, .int .i64 0, .slice none 0 0, .slice none 0 0, .int .i64 1, .int .i64 5, .string ⟨#[]⟩, .int .i64 0, .slice none 0 0, .slice none 0 0] 50)) 2 emitT5 (.slice (some ⟨w10.heap.size, 0, none⟩) 2 2) (.slice none 0 0)) :=
    RT.two (a := intT5 5) (b := intT5 5) (by decide) (by unfold ok64; decide) (by unfold ok64; decide) (hNw w10 _) (HLF.out _ 0 5 (by unfold ok64; decide)) (HLF.out _ 0 5 (by unfold ok64; decide))
  go_wp2_with fail
  clear c0 c1 c2 c3 c4 c5
  generalize hw11 : World.alloc w10 _ = w11 at *
  clear hw11
  (refine (wrap5_any emitT5 _ _ w11 2 HRTb.out).mono ?_)
  rintro e w12 ⟨vh, rfl, hg, hx⟩
  obtain ⟨Ah, ch, hvh, -, -⟩ := hg.form
  have hvh : vh = .slice Ah 1 ch := hvh
  subst hvh
  have HGb := LH hg
  have HXb := LH ((HXa.out.tr HEb.out).tr hx)
  have HRb := LH (((HEb.out.tr hx).block _ (hLt HRa.out)).trans HRa.out)
  clear hg hx
  go_wp2_with fail
  (refine (value_any (exP5 emitT5) w12 (.slice none 0 0) (.slice Ah 1 ch) (.slice none 0 0) 9 [] (no_decls _) HGb.out (ex5_fine _ (.inr (.inr rfl))) (no_ints _) (fun n hn => by cases hn) (fun r _ hr _ => by
    obtain rfl := hr.one ex5_to3
    exact ⟨by decide, (fun n hn => by obtain rfl : n = 5 := List.mem_singleton.1 hn; exact io5 _), (fun _ _ => io5 _)⟩)).mono ?_)
  intro e w13 hr
  obtain ⟨rfl, hx⟩ := value_ex ex5_e3 ex5_to3 hr
  rw [text_ex3]
  have HXc := LH (HXb.out.tr hx)
  have HRc := LH ((hx.block _ (hLt HRb.out)).trans HRb.out)
  clear hr hx
  have r0 := cA HRc.out 0
  have r1 := cA HRc.out 1
  have r2 := cA HRc.out 2
  have r3 := cA HRc.out 3
  go_wp2_with fail
  (refine (Same5_any w13 ⟨1, 0, [], 3⟩ ⟨1, 0, [], 3⟩ (.slice As 0 cs) (.slice none 0 0) (RInts.nilx HRI9.out) (no_ints _)).mono ?_)
  rintro e w14 ⟨rfl, hx⟩
  rw [sameR_refl]
  have HXd := LH (HXc.out.tr hx)
  clear hx r0 r1 r2 r3
  go_wp2
  go_ret
  exact ⟨rfl, HXd.out⟩
end Go.Proofs.YtkdglplfcpindaaGreatDoor

namespace Go.Proofs.YtkdglplfcpindaaGreatDoor
theorem uK_mem {x : Bnd × Tm} : ∀ {l : List (Bnd × Tm)}, x ∈ l -> 2 * x.1.1.length + uT x.2 <= uK l
  | [], h => by cases h
  | y :: r, h => by
    rw [uK]
    rcases List.mem_cons.1 h with rfl | h
    . omega
    . have := uK_mem h; omega
theorem uT_kid {t : Tm} {x : Bnd × Tm} (h : x ∈ kids t) : 2 * x.1.1.length + uT x.2 < uT t := by
  have := uK_mem h
  rw [uT_kids t]; omega
theorem nodesK_mem {d : Int} {y : Int × Tm} : ∀ {l : List (Bnd × Tm)}, y ∈ nodesK d l -> ∃ x ∈ l, y ∈ nodesL d x.2
  | [], h => by simp [nodesK] at h
  | x :: r, h => by
    rw [nodesK] at h
    rcases List.mem_append.1 h with h | h
    . exact ⟨x, List.mem_cons_self .., h⟩
    . obtain ⟨z, hz, h'⟩ := nodesK_mem h
      exact ⟨z, List.mem_cons_of_mem _ hz, h'⟩
theorem deep_le : ∀ (n : Nat) (t : Tm) (d : Int), uT t <= n -> ∀ y ∈ nodesL d t, d <= y.1 /\ y.1 < d + uT t := by
  intro n
  induction n with
  | zero => intro t d hu; rw [uT_kids] at hu; omega
  | succ n ih =>
    intro t d hu y hy
    rw [nodesL_kids] at hy
    rcases List.mem_cons.1 hy with rfl | hy
    . exact ⟨Int.le_refl _, by rw [uT_kids]; dsimp only; omega⟩
    . obtain ⟨x, hx, hy⟩ := nodesK_mem hy
      have h1 := uT_kid hx
      have := ih x.2 (d + 1) (by omega) y hy
      omega
end Go.Proofs.YtkdglplfcpindaaGreatDoor
