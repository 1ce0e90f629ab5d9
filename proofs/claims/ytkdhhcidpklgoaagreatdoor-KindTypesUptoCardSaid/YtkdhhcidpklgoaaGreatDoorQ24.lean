/- ref01: SameBools. -/
import Derived.Test.YtkdhhcidpklgoaaGreatDoorQ23
import Derived.RegionTactic
import Derived.OwnWalk
namespace Go.Proofs.YtkdhhcidpklgoaaGreatDoor
open Go.RowKit Go.Shelf

def eqB (a b : List Bool) : Bool := a == b
theorem eqB_cons (x y : Bool) (a b : List Bool) : eqB (x :: a) (y :: b) = ((x == y) && eqB a b) := rfl

set_option maxRecDepth 100000 in
theorem SameBools_any (v v' : Value) (a b : List Bool) (w : World) (h : RBools w v a) (h' : RBools w v' b) :
    Calls Tryz.prog 60 #[v, v'] w fun e w' => e = .returned (.bool (eqB a b)) ∧ Ext w w' := by
  have HR := Lib.hid h
  have HR' := Lib.hid h'
  obtain ⟨A, c, rfl, hc, hm⟩ := h.form
  obtain ⟨A', c', rfl, hc', hm'⟩ := h'.form
  clear h h'
  unfold maxLen at hm hm'
  go_enter Tryz.func60, Tryz.ntmps60
  by_cases hl : a.length = b.length
  · have HL := Lib.hid hl
    have hlt' : ((a.length : Int) == b.length) = true := by simp [hl]
    have hlt2 : ((a.length : Int) != b.length) = false := by simp [hl]
    have hle : a.length ≤ b.length := by omega
    clear hl
    go_wp2
    go_loopw [13] (fun i wr => ∃ k : Nat, k ≤ a.length ∧ i = .int .i64 k ∧ Ext w wr ∧ eqB a b = eqB (a.drop k) (b.drop k)) (fun i _ => a.length - (intOf i).toNat)
    case atStart => exact ⟨0, Nat.zero_le _, rfl, Ext.rf _, rfl⟩
    case round =>
      obtain ⟨k, hk, rfl, hb, hno⟩ := hrel
      have HN := Lib.hid hno; have HB := Lib.hid hb
      clear hb hno
      by_cases hlt : k < a.length
      · obtain ⟨b1, o1, rfl, hbl1, g0⟩ := HR.out.at_ hlt
        obtain ⟨b2, o2, rfl, hbl2, g1⟩ := HR'.out.at_ (k := k) (by omega)
        have g0 := HB.out.keep g0
        have g1 := HB.out.keep g1
        have HD := Lib.hid (drop_step hlt)
        have HD' := Lib.hid (drop_step (l := b) (k := k) (by omega))
        generalize a[k] = x at *
        generalize b[k] = y at *
        have hk2 : k < b.length := by omega
        go_wp2
        go_quiet (fail)
        go_wp2
        · have q : (!x == y) = true := by assumption
          go_ret
          exact ⟨ret_bool (by rw [HN.out, HD.out, HD'.out, eqB_cons]; simp at q; simp [q]), HB.out.drewN _⟩
        · have q : (!x == y) = false := by assumption
          go_roundw
          case rel => exact ⟨k + 1, by omega, by go_num, HB.out.drewN _, by rw [HN.out, HD.out, HD'.out, eqB_cons]; simp at q; simp [q]⟩
          case measure => simp [intOf]; omega
      · go_wp2
        go_ret
        have hlb : ¬ k < b.length := by have := HL.out; omega
        exact ⟨ret_bool (by rw [HN.out, drop_end hlt, drop_end hlb]; rfl), HB.out⟩
  · have hlt' : ((a.length : Int) == b.length) = false := by simp; omega
    have hlt2 : ((a.length : Int) != b.length) = true := by simp; omega
    go_wp2
    go_ret
    exact ⟨ret_bool (by unfold eqB; symm; rw [beq_eq_false_iff_ne]; intro e; exact hl (by rw [e])), Ext.rf _⟩

theorem eqB_refl (l : List Bool) : eqB l l = true := by unfold eqB; exact beq_self_eq_true l
end Go.Proofs.YtkdhhcidpklgoaaGreatDoor

/- ref06: distinct. -/
namespace Go.Proofs.YtkdhhcidpklgoaaGreatDoor
open Go.RowKit Go.Shelf
attribute [local go_sem] Oper.semAt_some

def pairB (vs : List Int) (cs : List Bool) (i k : Nat) : Bool := vs.getD k 0 == vs.getD i 0 && cs.getD k false == cs.getD i false
def distI (vs : List Int) (cs : List Bool) (i : Nat) : Bool := isNumB (vs.getD i 0) && (List.range i).all fun k => !pairB vs cs i k
def distR (vs : List Int) (cs : List Bool) : Bool := (List.range vs.length).all (distI vs cs)
theorem range_step {p : Nat → Bool} {n k : Nat} (h : k < n) : ((List.range n).drop k).all p = (p k && ((List.range n).drop (k + 1)).all p) := by
  rw [List.drop_eq_getElem_cons (by simpa using h), List.all_cons, List.getElem_range]
theorem range_end {p : Nat → Bool} {n k : Nat} (h : n ≤ k) : ((List.range n).drop k).all p = true := by
  rw [List.drop_eq_nil_of_le (by simpa using h)]; rfl
set_option maxHeartbeats 8000000 in
set_option maxRecDepth 100000 in
theorem distinct6_any (v v' : Value) (vs : List Int) (cs : List Bool) (w : World) (h : RInts w v vs) (h' : RBools w v' cs) (hl : vs.length ≤ cs.length) :
    Calls Tryz.prog 54 #[v, v'] w fun e w' => e = .returned (.bool (distR vs cs)) ∧ Ext w w' := by
  have HR := Lib.hid h
  have HR' := Lib.hid h'
  obtain ⟨A, c, rfl, hc, hm⟩ := h.form
  obtain ⟨A', c', rfl, hc', hm'⟩ := h'.form
  clear h h'
  unfold maxLen at hm hm'
  go_enter Tryz.func54, Tryz.ntmps54
  go_wp2
  go_loopw [10] (fun i wr => ∃ k : Nat, k ≤ vs.length ∧ i = .int .i64 k ∧ Ext w wr ∧ distR vs cs = ((List.range vs.length).drop k).all (distI vs cs)) (fun i _ => vs.length - (intOf i).toNat)
  case atStart => exact ⟨0, Nat.zero_le _, rfl, Ext.rf _, rfl⟩
  case round =>
    obtain ⟨k, hk, rfl, hb, hno⟩ := hrel
    have HN := Lib.hid hno; have HB := Lib.hid hb
    clear hb hno
    by_cases hlt : k < vs.length
    · obtain ⟨b1, o1, rfl, hbl1, g0, -⟩ := HR.out.at_ hlt
      obtain ⟨b2, o2, rfl, hbl2, g1⟩ := HR'.out.at_ (k := k) (by omega)
      have g0 := HB.out.keep g0
      have hst := range_step (p := distI vs cs) hlt
      have hdi : distI vs cs k = (isNumB vs[k] && (List.range k).all fun j => !pairB vs cs k j) := by
        unfold distI
        rw [List.getD_eq_getElem?_getD, List.getElem?_eq_getElem hlt]; rfl
      have hck : k < cs.length := by omega
      have HP : Hid (∀ j, j < k → ∃ (hj1 : j < vs.length) (hj2 : j < cs.length), pairB vs cs k j = (vs[j] == vs[k] && cs[j] == cs[k])) := fun j hj => ⟨by omega, by omega, by
        unfold pairB
        rw [List.getD_eq_getElem?_getD, List.getD_eq_getElem?_getD, List.getD_eq_getElem?_getD, List.getD_eq_getElem?_getD, List.getElem?_eq_getElem hlt, List.getElem?_eq_getElem hck, List.getElem?_eq_getElem (show j < vs.length by omega), List.getElem?_eq_getElem (show j < cs.length by omega)]; rfl⟩
      have HST := Lib.hid hst; have HDI := Lib.hid hdi
      clear hst hdi
      generalize hx : vs[k] = x at *
      generalize hy : cs[k] = y at *
      have hki : (k : Int) < vs.length := by omega
      have HX := Lib.hid hx; have HY := Lib.hid hy
      clear hx hy
      by_cases hx0 : x < 0
      · have HF : Hid (distR vs cs = false) := by show _ = _; rw [HN.out, HST.out, HDI.out]; have : isNumB x = false := by unfold isNumB; simp; omega
                                                  rw [this]; rfl
        go_wp2
        go_ret
        exact ⟨ret_bool HF.out.symm, HB.out⟩
      · by_cases hx1 : 1048576 < x
        · have HF : Hid (distR vs cs = false) := by show _ = _; rw [HN.out, HST.out, HDI.out]; have : isNumB x = false := by unfold isNumB; simp; omega
                                                    rw [this]; rfl
          go_wp2
          go_ret
          exact ⟨ret_bool HF.out.symm, HB.out⟩
        · have HI : Hid (distI vs cs k = (List.range k).all fun j => !pairB vs cs k j) := by
            show _ = _; rw [HDI.out]; have : isNumB x = true := by unfold isNumB; simp; omega
            rw [this]; rfl
          have hkc : k ≤ c := by omega
          go_wp2
          go_loopw [25] (fun i wq => ∃ j : Nat, j ≤ k ∧ i = .int .i64 j ∧ Ext w wq ∧ ((List.range k).all fun j => !pairB vs cs k j) = ((List.range k).drop j).all fun j => !pairB vs cs k j) (fun i _ => k - (intOf i).toNat)
          case atStart => exact ⟨0, Nat.zero_le _, rfl, HB.out, rfl⟩
          case round =>
            obtain ⟨j, hj, rfl, hb2, hno2⟩ := hrel
            have HN2 := Lib.hid hno2; have HB2 := Lib.hid hb2
            clear hb2 hno2
            by_cases hlt2 : j < k
            · obtain ⟨hj1, hj2, hpq⟩ := HP.out j hlt2
              obtain ⟨b3, o3, e3, -, f0, -⟩ := HR.out.at_ hj1
              obtain ⟨b4, o4, e4, -, f1⟩ := HR'.out.at_ hj2
              obtain ⟨rfl, rfl⟩ : b3 = b1 ∧ o3 = o1 := by cases e3; exact ⟨rfl, rfl⟩
              obtain ⟨rfl, rfl⟩ : b4 = b2 ∧ o4 = o2 := by cases e4; exact ⟨rfl, rfl⟩
              have f0 := HB2.out.keep f0
              have f1 := HB2.out.keep f1
              have f2 := HB2.out.keep g1
              have HST2 := Lib.hid (range_step (p := fun j => !pairB vs cs k j) hlt2)
              have HPQ := Lib.hid hpq
              clear hpq e3 e4
              generalize vs[j] = x2 at *
              generalize cs[j] = y2 at *
              have hji : (j : Int) < k := by omega
              have hjn : (j : Int) < vs.length := by omega
              have hjc : (j : Int) < cs.length := by omega
              have hkc2 : (k : Int) < cs.length := by omega
              by_cases hxe : x2 = x
              · have e1 : (x2 == x) = true := by simp [hxe]
                by_cases hye : y2 = y
                · have e2 : (y2 == y) = true := by simp [hye]
                  have HF : Hid (distR vs cs = false) := by show _ = _; rw [HN.out, HST.out, HI.out, HN2.out, HST2.out, HPQ.out, e1, e2]; rfl
                  clear hxe hye
                  go_wp2
                  go_region
                  all_goals
                    go_wp2
                    go_ret
                    exact ⟨ret_bool HF.out.symm, HB2.out.drewN _⟩
                · have e2 : (y2 == y) = false := by simp [hye]
                  have HG : Hid (((List.range k).all fun j => !pairB vs cs k j) = ((List.range k).drop (j + 1)).all fun j => !pairB vs cs k j) := by show _ = _; rw [HN2.out, HST2.out, HPQ.out, e1, e2]; rfl
                  clear hxe hye
                  go_wp2
                  go_region
                  all_goals
                    go_wp2
                    go_roundw
                    case rel => exact ⟨j + 1, by omega, by go_num, HB2.out.drewN _, HG.out⟩
                    case measure => simp [intOf]; omega
              · have e1 : (x2 == x) = false := by simp [hxe]
                have HG : Hid (((List.range k).all fun j => !pairB vs cs k j) = ((List.range k).drop (j + 1)).all fun j => !pairB vs cs k j) := by show _ = _; rw [HN2.out, HST2.out, HPQ.out, e1]; rfl
                clear hxe
                go_wp2
                go_region
                all_goals
                  go_wp2
                  go_roundw
                  case rel => exact ⟨j + 1, by omega, by go_num, HB2.out.drewN _, HG.out⟩
                  case measure => simp [intOf]; omega
            · have HT2 : Hid (distI vs cs k = true) := by show _ = _; rw [HI.out, HN2.out, range_end (by omega)]
              go_wp2
              go_roundw
              case rel => exact ⟨k + 1, by omega, by go_num, HB2.out, by rw [HN.out, HST.out, HT2.out]; rfl⟩
              case measure => simp [intOf]; omega
    · have HT : Hid (distR vs cs = true) := by show _ = _; rw [HN.out, range_end (by omega)]
      go_wp2
      go_ret
      exact ⟨ret_bool HT.out.symm, HB.out⟩
end Go.Proofs.YtkdhhcidpklgoaaGreatDoor

/- ref06: Size. -/
namespace Go.Proofs.YtkdhhcidpklgoaaGreatDoor
open Go.RowKit Go.Shelf
attribute [local go_sem] Oper.semAt_some

mutual
/-- The nodes as Size counts them. -/
def szN : Nd → Nat
  | .mk op _ _ args brs => if leafB op then 1 else 1 + (szA args + szB brs)
def szA : List Nd → Nat
  | [] => 0
  | a :: r => szN a + szA r
def szB : List Br → Nat
  | [] => 0
  | (_, _, t) :: r => szN t + szB r
end
mutual
/-- The depth as Size counts it. -/
def dpN : Nd → Nat
  | .mk op _ _ args brs => if leafB op then 1 else 1 + max (dpA args) (dpB brs)
def dpA : List Nd → Nat
  | [] => 0
  | a :: r => max (dpN a) (dpA r)
def dpB : List Br → Nat
  | [] => 0
  | (_, _, t) :: r => max (dpN t) (dpB r)
end
theorem szN_eq (t : Nd) : szN t = if leafB t.op then 1 else 1 + (szA t.args + szB t.brs) := by cases t; rw [szN]; rfl
theorem dpN_eq (t : Nd) : dpN t = if leafB t.op then 1 else 1 + max (dpA t.args) (dpB t.brs) := by cases t; rw [dpN]; rfl
theorem szA_append (k : List Nd) : ∀ l, szA (l ++ k) = szA l + szA k
  | [] => by simp [szA]
  | x :: r => by simp [szA, szA_append k r] <;> omega
theorem szB_append (k : List Br) : ∀ l, szB (l ++ k) = szB l + szB k
  | [] => by simp [szB]
  | (_, _, x) :: r => by simp [szB, szB_append k r] <;> omega
theorem dpA_append (k : List Nd) : ∀ l, dpA (l ++ k) = max (dpA l) (dpA k)
  | [] => by simp [dpA]
  | x :: r => by simp [dpA, dpA_append k r] <;> omega
theorem dpB_append (k : List Br) : ∀ l, dpB (l ++ k) = max (dpB l) (dpB k)
  | [] => by simp [dpB]
  | (_, _, x) :: r => by simp [dpB, dpB_append k r] <;> omega
theorem szdpA_take {l : List Nd} {j : Nat} (h : j < l.length) : szA (l.take (j + 1)) = szA (l.take j) + szN l[j] ∧ dpA (l.take (j + 1)) = max (dpA (l.take j)) (dpN l[j]) := by
  have h2 : l.take (j + 1) = l.take j ++ [l[j]] := List.take_succ_eq_append_getElem h
  rw [h2, szA_append, dpA_append]; simp [szA, dpA]
theorem szdpB_take {l : List Br} {j : Nat} (h : j < l.length) : szB (l.take (j + 1)) = szB (l.take j) + szN l[j].2.2 ∧ dpB (l.take (j + 1)) = max (dpB (l.take j)) (dpN l[j].2.2) := by
  have h2 : l.take (j + 1) = l.take j ++ [l[j]] := List.take_succ_eq_append_getElem h
  rw [h2, szB_append, dpB_append]
  obtain ⟨v, c, t⟩ := l[j]
  simp [szB, dpB]
mutual
/-- Neither is more than all nodes. -/
theorem szdp_cnt : ∀ t : Nd, szN t ≤ cntN t ∧ dpN t ≤ cntN t
  | .mk op n ty args brs => by
    have h1 := szdp_cntA args
    have h2 := szdp_cntB brs
    rw [szN, dpN, cntN]
    split <;> omega
theorem szdp_cntA : ∀ l : List Nd, szA l ≤ cntA l ∧ dpA l ≤ cntA l
  | [] => by simp [szA, dpA, cntA]
  | a :: r => by
    have h1 := szdp_cnt a
    have h2 := szdp_cntA r
    simp only [szA, dpA, cntA]
    omega
theorem szdp_cntB : ∀ l : List Br, szB l ≤ cntB l ∧ dpB l ≤ cntB l
  | [] => by simp [szB, dpB, cntB]
  | (_, _, t) :: r => by
    have h1 := szdp_cnt t
    have h2 := szdp_cntB r
    simp only [szB, dpB, cntB]
    omega
end
set_option maxHeartbeats 8000000 in
set_option maxRecDepth 100000 in
theorem size6_any : ∀ (k : Nat) (t : Nd) (va vb : Value) (w : World), RNd w k t va vb → BN t →
    Calls Tryz.prog 18 #[nV t va vb] w fun e w' => e = .returned (.tuple #[.int .i64 (szN t), .int .i64 (dpN t)]) ∧ Ext w w' := by
  intro k
  induction k with
  | zero => intro t va vb w h; exact h.elim
  | succ k ih =>
    intro t va vb w ht hb
    have HT := Lib.hid ht; have HIH := Lib.hid ih; have HB := Lib.hid hb
    have hna := hb.na
    have hnb := hb.nb
    have hcn := cntN_eq t
    have hcc := hb.c
    have HSZ := Lib.hid (szN_eq t); have HDP := Lib.hid (dpN_eq t)
    obtain ⟨-, ⟨A, c, rfl, -, hma⟩, ⟨B, d, rfl, -, hmb⟩⟩ := ht.form
    have HE1 := Lib.hid (Ext.al w (.cells #[.int .i64 t.op, .int .i64 t.n, .int .i64 t.ty, .slice A t.args.length c, .slice B t.brs.length d] 36))
    have HB1 := Lib.hid (heapNew w (.cells #[.int .i64 t.op, .int .i64 t.n, .int .i64 t.ty, .slice A t.args.length c, .slice B t.brs.length d] 36))
    clear ht ih hb
    cases hlf : leafB t.op
    · rw [hlf] at HSZ HDP
      have HSZ2 : Hid (szN t = 1 + (szA t.args + szB t.brs)) := HSZ.out
      have HDP2 : Hid (dpN t = 1 + max (dpA t.args) (dpB t.brs)) := HDP.out
      have HLF : Hid (∀ W, Calls Tryz.prog 47 #[.int .i64 t.op] W fun e w' => e = .returned (.bool false) ∧ W = w') := fun W => by
        have := leaf6_any t.op W
        rw [hlf] at this; exact this
      clear hlf
      go_enter Tryz.func18, Tryz.ntmps18
      go_wp2_with (first
        | (go_at_call 47; (with_reducible refine (HLF.out _).mono ?_); rintro e w3 ⟨rfl, rfl⟩)
        | fail "none")
      generalize w.alloc _ = w1 at *
      go_loopw [2, 3, 18] (fun s q i wr => ∃ j : Nat, j ≤ t.args.length ∧ i = .int .i64 j ∧ s = .int .i64 ((1 + szA (t.args.take j) : Nat) : Int) ∧ q = .int .i64 ((dpA (t.args.take j) : Nat) : Int) ∧ Ext w1 wr) (fun _ _ i _ => t.args.length - (intOf i).toNat)
      case atStart => exact ⟨0, Nat.zero_le _, rfl, rfl, rfl, Ext.rf _⟩
      case round =>
        obtain ⟨j, hj, rfl, rfl, rfl, hx⟩ := hrel
        have HX := Lib.hid hx
        have hb1 := hx.lt HB1.out
        have n3 := cellAt hb1 3
        have n4 := cellAt hb1 4
        clear hx hb1
        have hcs := cntA_sub (l := t.args) j
        have hsz := szdp_cntA (t.args.take j)
        by_cases hlt : j < t.args.length
        · obtain ⟨b, o, xa, xb, rfl, hbl, yc, yt⟩ := HT.out.arg hlt
          obtain ⟨y0, y1, y2, y3, y4⟩ := yc.below (HE1.out.tr HX.out)
          obtain ⟨hz1, hz2⟩ := szdpA_take hlt
          have hs2 := szdp_cnt t.args[j]
          have hct := cntA_take hlt
          have HL : Hid (∀ W, Ext wr W → Calls Tryz.prog 18 #[nV t.args[j] xa xb] W fun e w' => e = .returned (.tuple #[.int .i64 (szN t.args[j]), .int .i64 (dpN t.args[j])]) ∧ Ext W w') := fun W hW =>
            HIH.out t.args[j] xa xb W (yt.below ((HE1.out.tr HX.out).tr hW)) (HB.out.arg (List.getElem_mem hlt))
          obtain ⟨-, ⟨Ax, cx, rfl, -, -⟩, ⟨Bx, dx, rfl, -, -⟩⟩ := yt.form
          generalize t.args[j] = x at *
          have HZ1 := Lib.hid hz1; have HZ2 := Lib.hid hz2
          generalize szN x = a at *
          generalize dpN x = q at *
          generalize szA (t.args.take j) = s1 at *
          generalize dpA (t.args.take j) = q1 at *
          have hjl : (j : Int) < t.args.length := by omega
          have hw1 : IntKind.wrap .i64 (((1 + s1 : Nat) : Int) + (a : Int)) = ((1 + s1 : Nat) : Int) + (a : Int) := IntWalk.i64_in _ (by omega)
          have HE5 := Lib.hid (fun o : Obj => Ext.al wr o)
          clear yc yt hz1 hz2
          by_cases hqq : q1 ≤ q
          · have hm : max q1 q = q := by omega
            go_wp2_with (first
              | (go_at_call 18; (with_reducible refine (HL.out _ (HE5.out _)).mono ?_); rintro e w3 ⟨rfl, hx3⟩)
              | fail "none")
            exact ⟨⟨j + 1, by omega, by go_num, by rw [HZ1.out]; go_num, by rw [HZ2.out, hm]; go_num, HX.out.tr ((HE5.out _).tr hx3)⟩, by simp [intOf]; omega⟩
          · have hm : max q1 q = q1 := by omega
            go_wp2_with (first
              | (go_at_call 18; (with_reducible refine (HL.out _ (HE5.out _)).mono ?_); rintro e w3 ⟨rfl, hx3⟩)
              | fail "none")
            exact ⟨⟨j + 1, by omega, by go_num, by rw [HZ1.out]; go_num, by rw [HZ2.out, hm]; go_num, HX.out.tr ((HE5.out _).tr hx3)⟩, by simp [intOf]; omega⟩
        · have hje : j = t.args.length := by omega
          subst hje
          have hta : t.args.take t.args.length = t.args := List.take_length
          rw [hta] at hsz hcs
          rw [hta]
          clear hta
          go_wp2
          go_loopw [2, 3, 37] (fun s q i wr => ∃ j : Nat, j ≤ t.brs.length ∧ i = .int .i64 j ∧ s = .int .i64 ((1 + szA t.args + szB (t.brs.take j) : Nat) : Int) ∧ q = .int .i64 ((max (dpA t.args) (dpB (t.brs.take j)) : Nat) : Int) ∧ Ext w1 wr) (fun _ _ i _ => t.brs.length - (intOf i).toNat)
          case atStart => exact ⟨0, Nat.zero_le _, rfl, by simp [szB], by simp [dpB], HX.out⟩
          case round =>
            obtain ⟨j2, hj2, rfl, rfl, rfl, hx⟩ := hrel
            have HX2 := Lib.hid hx
            have hb1 := hx.lt HB1.out
            clear n3 n4
            have n3 := cellAt hb1 3
            have n4 := cellAt hb1 4
            clear hx hb1
            have hcs2 := cntB_sub (l := t.brs) j2
            have hsz2 := szdp_cntB (t.brs.take j2)
            by_cases hlt2 : j2 < t.brs.length
            · obtain ⟨b, o, vv, vc, xa, xb, rfl, hbl, z0, hvv, z1, hvc, yc, yt⟩ := HT.out.br hlt2
              obtain ⟨Av, cv, rfl, -, -⟩ := hvv.form
              obtain ⟨Ac, cc, rfl, -, -⟩ := hvc.form
              clear hvv hvc
              obtain ⟨y0, y1, y2, y3, y4⟩ := yc.below (HE1.out.tr HX2.out)
              have z0 := (HE1.out.tr HX2.out).keep z0
              have z1 := (HE1.out.tr HX2.out).keep z1
              obtain ⟨hz1, hz2⟩ := szdpB_take hlt2
              have hs2 := szdp_cnt (t.brs[j2]).2.2
              have hct := cntB_take hlt2
              have hcs3 := cntB_sub (l := t.brs) (j2 + 1)
              have HL : Hid (∀ W, Ext wr W → Calls Tryz.prog 18 #[nV (t.brs[j2]).2.2 xa xb] W fun e w' => e = .returned (.tuple #[.int .i64 (szN (t.brs[j2]).2.2), .int .i64 (dpN (t.brs[j2]).2.2)]) ∧ Ext W w') := fun W hW =>
                HIH.out (t.brs[j2]).2.2 xa xb W (yt.below ((HE1.out.tr HX2.out).tr hW)) (HB.out.br (List.getElem_mem hlt2))
              obtain ⟨-, ⟨Ax, cx, rfl, -, -⟩, ⟨Bx, dx, rfl, -, -⟩⟩ := yt.form
              generalize t.brs[j2] = br at *
              obtain ⟨vs, qs, x⟩ := br
              dsimp only at *
              have HZ1 := Lib.hid hz1; have HZ2 := Lib.hid hz2
              generalize szN x = a at *
              generalize dpN x = q at *
              generalize szB (t.brs.take j2) = s2 at *
              generalize dpB (t.brs.take j2) = q2 at *
              generalize szA t.args = s1 at *
              generalize dpA t.args = q1 at *
              have hjl : (j2 : Int) < t.brs.length := by omega
              have hw1 : IntKind.wrap .i64 (((1 + s1 + s2 : Nat) : Int) + (a : Int)) = ((1 + s1 + s2 : Nat) : Int) + (a : Int) := IntWalk.i64_in _ (by omega)
              have HE5 := Lib.hid (fun o : Obj => Ext.al wr o)
              clear yc yt hz1 hz2
              obtain ⟨mq, hmq⟩ : ∃ mq : Nat, max q1 q2 = mq := ⟨_, rfl⟩
              rw [hmq]
              by_cases hqq : mq ≤ q
              · have hm : max q1 (max q2 q) = q := by omega
                clear hmq
                go_wp2_with (first
                  | (go_at_call 18; (with_reducible refine (HL.out _ (HE5.out _)).mono ?_); rintro e w3 ⟨rfl, hx3⟩)
                  | fail "none")
                exact ⟨⟨j2 + 1, by omega, by go_num, by rw [HZ1.out]; go_num, by rw [HZ2.out, hm]; go_num, HX2.out.tr ((HE5.out _).tr hx3)⟩, by simp [intOf]; omega⟩
              · have hm : max q1 (max q2 q) = mq := by omega
                clear hmq
                go_wp2_with (first
                  | (go_at_call 18; (with_reducible refine (HL.out _ (HE5.out _)).mono ?_); rintro e w3 ⟨rfl, hx3⟩)
                  | fail "none")
                exact ⟨⟨j2 + 1, by omega, by go_num, by rw [HZ1.out]; go_num, by rw [HZ2.out, hm]; go_num, HX2.out.tr ((HE5.out _).tr hx3)⟩, by simp [intOf]; omega⟩
            · have hje : j2 = t.brs.length := by omega
              subst hje
              have htb : t.brs.take t.brs.length = t.brs := List.take_length
              rw [htb] at hsz2 hcs2
              rw [htb]
              clear htb
              generalize szB t.brs = s2 at *
              generalize dpB t.brs = q2 at *
              generalize szA t.args = s1 at *
              generalize dpA t.args = q1 at *
              obtain ⟨mq, hmq⟩ : ∃ mq : Nat, max q1 q2 = mq := ⟨_, rfl⟩
              rw [hmq] at HDP2 ⊢
              have hw1 : IntKind.wrap .i64 ((mq : Int) + 1) = (mq : Int) + 1 := IntWalk.i64_in _ (by omega)
              clear hmq
              go_wp2
              refine bodyPost_ret (results_tmp2 rfl _ _ _) rfl ?_
              refine ⟨?_, HE1.out.tr HX2.out⟩
              have e1 : ((szN t : Nat) : Int) = ((1 + s1 + s2 : Nat) : Int) := by rw [HSZ2.out]; omega
              have e2 : ((dpN t : Nat) : Int) = (mq : Int) + 1 := by rw [HDP2.out]; omega
              rw [e1, e2]
              rfl
    · rw [hlf] at HSZ HDP
      have HSZ2 : Hid (szN t = 1) := HSZ.out
      have HDP2 : Hid (dpN t = 1) := HDP.out
      have HLF : Hid (∀ W, Calls Tryz.prog 47 #[.int .i64 t.op] W fun e w' => e = .returned (.bool true) ∧ W = w') := fun W => by
        have := leaf6_any t.op W
        rw [hlf] at this; exact this
      clear hlf
      go_enter Tryz.func18, Tryz.ntmps18
      go_wp2_with (first
        | (go_at_call 47; (with_reducible refine (HLF.out _).mono ?_); rintro e w3 ⟨rfl, rfl⟩)
        | fail "none")
      refine bodyPost_ret (results_tmp2 rfl _ _ _) rfl ?_
      exact ⟨by rw [HSZ2.out, HDP2.out]; rfl, HE1.out⟩
end Go.Proofs.YtkdhhcidpklgoaaGreatDoor

/- ref06: Size, and the size that the package counts. -/
namespace Go.Proofs.YtkdhhcidpklgoaaGreatDoor
open Go.RowKit

mutual
theorem dpN_pos : ∀ t : Nd, 1 ≤ dpN t
  | .mk op n ty args brs => by rw [dpN]; split <;> omega
end
mutual
theorem depN_sz (deep : Int) : ∀ (t : Nd) (d : Int), (depN d t).length = szN t ∧ ((∀ x ∈ depN d t, x ≤ deep) ↔ d + dpN t ≤ deep + 1)
  | .mk op n ty args brs, d => by
    obtain ⟨h1, h2⟩ := depA_sz deep args (d + 1)
    obtain ⟨h3, h4⟩ := depB_sz deep brs (d + 1)
    rw [depN, szN, dpN]
    split
    · refine ⟨rfl, ?_⟩
      simp
    · refine ⟨by simp [h1, h3]; omega, ?_⟩
      simp only [List.mem_cons, List.mem_append, forall_eq_or_imp]
      constructor
      · rintro ⟨g1, g2⟩
        have g3 := h2.1 (fun x hx => g2 x (.inl hx))
        have g4 := h4.1 (fun x hx => g2 x (.inr hx))
        omega
      · intro g
        refine ⟨by omega, fun x hx => ?_⟩
        rcases hx with hx | hx
        · exact h2.2 (by omega) x hx
        · exact h4.2 (by omega) x hx
theorem depA_sz (deep : Int) : ∀ (l : List Nd) (d : Int), (depA d l).length = szA l ∧ ((∀ x ∈ depA d l, x ≤ deep) ↔ (dpA l = 0 ∨ d + dpA l ≤ deep + 1))
  | [], d => by simp [depA, szA, dpA]
  | a :: r, d => by
    obtain ⟨h1, h2⟩ := depN_sz deep a d
    obtain ⟨h3, h4⟩ := depA_sz deep r d
    have hp := dpN_pos a
    rw [depA, szA, dpA]
    refine ⟨by simp [h1, h3], ?_⟩
    simp only [List.mem_append]
    constructor
    · intro g
      have g3 := h2.1 (fun x hx => g x (.inl hx))
      have g4 := h4.1 (fun x hx => g x (.inr hx))
      omega
    · intro g x hx
      rcases hx with hx | hx
      · exact h2.2 (by omega) x hx
      · exact h4.2 (by omega) x hx
theorem depB_sz (deep : Int) : ∀ (l : List Br) (d : Int), (depB d l).length = szB l ∧ ((∀ x ∈ depB d l, x ≤ deep) ↔ (dpB l = 0 ∨ d + dpB l ≤ deep + 1))
  | [], d => by simp [depB, szB, dpB]
  | (_, _, a) :: r, d => by
    obtain ⟨h1, h2⟩ := depN_sz deep a d
    obtain ⟨h3, h4⟩ := depB_sz deep r d
    have hp := dpN_pos a
    rw [depB, szB, dpB]
    refine ⟨by simp [h1, h3], ?_⟩
    simp only [List.mem_append]
    constructor
    · intro g
      have g3 := h2.1 (fun x hx => g x (.inl hx))
      have g4 := h4.1 (fun x hx => g x (.inr hx))
      omega
    · intro g x hx
      rcases hx with hx | hx
      · exact h2.2 (by omega) x hx
      · exact h4.2 (by omega) x hx
end
/-- The size that the package counts, in the reference's numbers. -/
theorem sizeC_sz (most deep : Int) (t : Nd) : sizeC most deep t = if (szN t : Int) ≤ most ∧ (dpN t : Int) ≤ deep then ((szN t : Int), true) else (0, false) := by
  obtain ⟨h1, h2⟩ := depN_sz deep t 1
  have h3 : sizeOK most deep (depN 1 t) = decide ((szN t : Int) ≤ most ∧ (dpN t : Int) ≤ deep) := by
    unfold sizeOK
    rw [h1, Bool.eq_iff_iff]
    simp only [Bool.and_eq_true, decide_eq_true_eq, List.all_eq_true]
    constructor
    · rintro ⟨g1, g2⟩
      have := h2.1 g2
      omega
    · rintro ⟨g1, g2⟩
      exact ⟨g1, h2.2 (by omega)⟩
  unfold sizeC
  rw [h3, h1]
  by_cases h : (szN t : Int) ≤ most ∧ (dpN t : Int) ≤ deep
  · rw [if_pos h, if_pos (decide_eq_true h)]
  · rw [if_neg h, if_neg (by simpa using h)]
end Go.Proofs.YtkdhhcidpklgoaaGreatDoor

/- ref06: distinct variables of the right kinds, and what the package asks of a binding. -/
namespace Go.Proofs.YtkdhhcidpklgoaaGreatDoor
open Go.RowKit

theorem bindF_iff : ∀ (l : List Vr) (cs : List Bool) (ar : List Arg) (S : Vr → Bool), l.length = cs.length → cs.length = ar.length →
    (bindF S l cs ar = true ↔ (∀ (i : Nat) x c a, l[i]? = some x → cs[i]? = some c → ar[i]? = some a → c = a.co ∧ isNumB x.2 = true ∧ S x = false) ∧ ∀ (i k : Nat) x, k < i → l[i]? = some x → l[k]? ≠ some x)
  | [], [], [], S, _, _ => by simp [bindF]
  | x :: r, c :: cs, a :: ar, S, h1, h2 => by
    have ih := bindF_iff r cs ar (fun y => y == x || S y) (by simpa using h1) (by simpa using h2)
    show ((c == a.co) && isNumB x.2 && !S x && bindF (fun y => y == x || S y) r cs ar) = true ↔ _
    simp only [Bool.and_eq_true, ih, beq_iff_eq, Bool.not_eq_true']
    constructor
    · rintro ⟨⟨⟨g1, g2⟩, g3⟩, g4, g5⟩
      refine ⟨fun i y d b e1 e2 e3 => ?_, fun i k y hk e1 e2 => ?_⟩
      · match i, e1, e2, e3 with
        | 0, e1, e2, e3 => obtain rfl := Option.some.inj e1; obtain rfl := Option.some.inj e2; obtain rfl := Option.some.inj e3; exact ⟨g1, g2, g3⟩
        | i + 1, e1, e2, e3 =>
          obtain ⟨q1, q2, q3⟩ := g4 i y d b e1 e2 e3
          rw [Bool.or_eq_false_iff] at q3
          exact ⟨q1, q2, q3.2⟩
      · match i, k, hk, e1, e2 with
        | i + 1, 0, hk, e1, e2 =>
          obtain rfl := Option.some.inj e2
          have hi : i < r.length := Nat.lt_of_succ_lt_succ (List.getElem?_eq_some_iff.1 e1).1
          simp only [List.length_cons] at h1 h2
          obtain ⟨q1, q2, q3⟩ := g4 i x (cs[i]'(by omega)) (ar[i]'(by omega)) e1 (List.getElem?_eq_getElem _) (List.getElem?_eq_getElem _)
          simp at q3
        | i + 1, k + 1, hk, e1, e2 => exact g5 i k y (by omega) e1 e2
    · rintro ⟨g1, g2⟩
      obtain ⟨q1, q2, q3⟩ := g1 0 x c a rfl rfl rfl
      refine ⟨⟨⟨q1, q2⟩, q3⟩, fun i y d b e1 e2 e3 => ?_, fun i k y hk e1 e2 => g2 (i + 1) (k + 1) y (by omega) e1 e2⟩
      obtain ⟨p1, p2, p3⟩ := g1 (i + 1) y d b e1 e2 e3
      refine ⟨p1, p2, ?_⟩
      rw [Bool.or_eq_false_iff]
      refine ⟨?_, p3⟩
      have : y ≠ x := fun e => g2 (i + 1) 0 y (by omega) e1 (by rw [e]; rfl)
      simpa using this
  | [], _ :: _, _, _, h1, _ => by simp at h1
  | _ :: _, [], _, _, h1, _ => by simp at h1
  | [], [], _ :: _, _, _, h2 => by simp at h2
  | _ :: _, _ :: _, [], _, _, h2 => by simp at h2
theorem coI_inj {a b : Bool} (h : coI a = coI b) : a = b := by
  revert h; cases a <;> cases b <;> simp [coI]
/-- The reference's distinct says what the package asks. -/
theorem distR_bindF (vs : List Int) (ar : List Arg) (h : vs.length = ar.length) : distR vs (ar.map Arg.co) = bindF (fun _ => false) (zipCo vs (ar.map Arg.co)) (ar.map Arg.co) ar := by
  have hl : (zipCo vs (ar.map Arg.co)).length = (ar.map Arg.co).length := by rw [zipCo_length, List.length_map, h]
  rw [Bool.eq_iff_iff, bindF_iff _ _ _ _ hl (by rw [List.length_map])]
  unfold distR
  rw [List.all_eq_true]
  simp only [List.mem_range]
  have hz : ∀ i, (zipCo vs (ar.map Arg.co))[i]? = (vs[i]?).map fun v => (coI ((ar.map Arg.co).getD i false), v) := fun i => zipCo_get _ _ _
  constructor
  · intro g
    refine ⟨fun i x c a e1 e2 e3 => ?_, fun i k x hk e1 e2 => ?_⟩
    · rw [hz] at e1
      cases hv : vs[i]? with
      | none => rw [hv] at e1; cases e1
      | some v =>
        rw [hv] at e1
        obtain rfl := Option.some.inj e1
        rw [List.getElem?_map, e3] at e2
        obtain rfl := Option.some.inj e2
        have hi : i < vs.length := (List.getElem?_eq_some_iff.1 hv).1
        have g1 := g i hi
        unfold distI at g1
        rw [Bool.and_eq_true, List.getD_eq_getElem?_getD, hv] at g1
        exact ⟨rfl, g1.1, trivial⟩
    · rw [hz] at e1 e2
      cases hv : vs[i]? with
      | none => rw [hv] at e1; cases e1
      | some v =>
        cases hu : vs[k]? with
        | none => rw [hu] at e2; cases e2
        | some u =>
          rw [hv] at e1
          rw [hu] at e2
          obtain rfl := Option.some.inj e1
          have e3 := Option.some.inj e2
          have hi : i < vs.length := (List.getElem?_eq_some_iff.1 hv).1
          have g1 := g i hi
          unfold distI at g1
          rw [Bool.and_eq_true, List.all_eq_true] at g1
          have g2 := g1.2 k (by simpa using hk)
          unfold pairB at g2
          injection e3 with e4 e5
          have e6 := coI_inj e4
          rw [List.getD_eq_getElem?_getD (l := vs), List.getD_eq_getElem?_getD (l := vs), hv, hu, e5, e6] at g2
          simp at g2
  · rintro ⟨g1, g2⟩ i hi
    have hia : i < ar.length := by omega
    have e1 : (zipCo vs (ar.map Arg.co))[i]? = some (coI ((ar.map Arg.co).getD i false), vs[i]) := by rw [hz, List.getElem?_eq_getElem hi]; rfl
    have e2 : (ar.map Arg.co)[i]? = some (ar[i]).co := by rw [List.getElem?_map, List.getElem?_eq_getElem hia]; rfl
    obtain ⟨-, q2, -⟩ := g1 i _ _ _ e1 e2 (List.getElem?_eq_getElem hia)
    unfold distI
    rw [Bool.and_eq_true, List.all_eq_true]
    refine ⟨by rw [List.getD_eq_getElem?_getD, List.getElem?_eq_getElem hi]; exact q2, fun k hk => ?_⟩
    have hk2 : k < i := by simpa using hk
    have hkv : k < vs.length := by omega
    have g3 := g2 i k _ hk2 e1
    rw [hz, List.getElem?_eq_getElem hkv] at g3
    unfold pairB
    rw [List.getD_eq_getElem?_getD (l := vs), List.getD_eq_getElem?_getD (l := vs), List.getElem?_eq_getElem hi, List.getElem?_eq_getElem hkv]
    cases hb : ((some vs[k]).getD 0 == (some vs[i]).getD 0 && (ar.map Arg.co).getD k false == (ar.map Arg.co).getD i false)
    · rfl
    · exfalso
      rw [Bool.and_eq_true, beq_iff_eq, beq_iff_eq] at hb
      refine g3 ?_
      show some (coI _, vs[k]) = some (coI _, vs[i])
      rw [hb.2, show vs[k] = vs[i] from hb.1]
end Go.Proofs.YtkdhhcidpklgoaaGreatDoor

/- ref06: NewScope. -/
namespace Go.Proofs.YtkdhhcidpklgoaaGreatDoor
open Go.RowKit Go.Shelf Go.Maps
attribute [local go_sem] Oper.semAt_some

theorem varsOf_take (s : Int) {l : List Int} {k : Nat} (h : k < l.length) : varsOf s (l.take (k + 1)) = varsOf s (l.take k) ++ [(s, l[k])] := by
  unfold varsOf
  rw [List.take_succ_eq_append_getElem h, List.map_append]; rfl
theorem addC_bound (c : Cn) (l : List Vr) (x : Vr) (h0 : c x = 0) : 0 ≤ addC c l 1 x ∧ addC c l 1 x ≤ l.length := by
  rw [addC_eq, h0]
  have := cntV_len l x
  omega
set_option maxHeartbeats 8000000 in
set_option maxRecDepth 100000 in
theorem newScope6_any (v1 v2 : Value) (l1 l2 : List Int) (w : World) (h1 : RInts w v1 l1) (h2 : RInts w v2 l2) (hl1 : l1.length ≤ 1048576) (hl2 : l2.length ≤ 1048576) :
    Calls Tryz.prog 26 #[v1, v2] w fun e w' => (∃ p mx ma, e = .returned (.pointer (some ⟨p, 0, none⟩)) ∧ w.heap.size ≤ p ∧ w.heap.size ≤ mx ∧ w.heap.size ≤ ma ∧ RC w' p mx ma (l1.length + l2.length) (addC (fun _ => 0) (varsOf 0 l1 ++ varsOf 1 l2) 1)) ∧ Ext w w' := by
  have HR1 := Lib.hid h1; have HR2 := Lib.hid h2
  obtain ⟨A1, c1, rfl, -, -⟩ := h1.form
  obtain ⟨A2, c2, rfl, -, -⟩ := h2.form
  clear h1 h2
  have hx3 : Ext w (((w.alloc (.map #[] 0)).alloc (.map #[] 0)).alloc (.cells #[.map (some w.heap.size), .map (some (w.heap.size + 1))] 125)) := (Ext.al2 _ _ _).tr (Ext.al _ _)
  have hrc : RC (((w.alloc (.map #[] 0)).alloc (.map #[] 0)).alloc (.cells #[.map (some w.heap.size), .map (some (w.heap.size + 1))] 125)) (w.heap.size + 1 + 1) w.heap.size (w.heap.size + 1) 0 (fun _ => 0) := by
    refine ⟨heapNew3 _ _ _ _, ?_, ?_, by omega⟩
    · exact (MapZ.new intT zI w).ext ((Ext.al _ _).tr (Ext.al _ _))
    · have := (MapZ.new intT zI (w.alloc (.map #[] 0))).ext (Ext.al _ (.cells #[.map (some w.heap.size), .map (some (w.heap.size + 1))] 125))
      rw [show (w.alloc (.map #[] 0)).heap.size = w.heap.size + 1 by simp] at this
      exact this
  have HX3 := Lib.hid hx3; have HRC := Lib.hid hrc
  clear hx3 hrc
  have hmm := @run_makeMap Tryz.prog
  go_enter Tryz.func26, Tryz.ntmps26
  go_wp2
  generalize ((w.alloc _).alloc _).alloc _ = w1 at *
  go_loopw [16] (fun i wr => ∃ k : Nat, k ≤ l1.length ∧ i = .int .i64 k ∧ RC wr (w.heap.size + 1 + 1) w.heap.size (w.heap.size + 1) k (addC (fun _ => 0) (varsOf 0 (l1.take k)) 1) ∧ TrC w.heap.size (w.heap.size + 1) w1 wr) (fun i _ => l1.length - (intOf i).toNat)
  case atStart => exact ⟨0, Nat.zero_le _, rfl, HRC.out, Only.rf _ _⟩
  case round =>
    obtain ⟨k, hk, rfl, hrc, htr⟩ := hrel
    have HR := Lib.hid hrc; have HT := Lib.hid htr
    have hxr := htr.below HX3.out (Nat.le_refl _) (by omega)
    have HXR := Lib.hid hxr
    have p0 := cellAt hrc.box 0
    have p1 := cellAt hrc.box 1
    clear hrc htr hxr
    by_cases hlt : k < l1.length
    · obtain ⟨b, o, rfl, hbl, y0, hok⟩ := HR1.out.at_ hlt
      have y0 := HXR.out.keep y0
      have hz := varsOf_take 0 hlt
      have hbd := addC_bound (fun _ => 0) (varsOf 0 (l1.take k)) (0, l1[k]) rfl
      have hlv : (varsOf 0 (l1.take k)).length = k := by unfold varsOf; rw [List.length_map, List.length_take]; omega
      have hlk := HR.out.lookx hok
      obtain ⟨w2, hu, hr2, ht2⟩ := HR.out.putx hok (by unfold maxLen; omega) 1
      have HR2' : Hid (RC w2 (w.heap.size + 1 + 1) w.heap.size (w.heap.size + 1) (k + 1) (addC (fun _ => 0) (varsOf 0 (l1.take (k + 1))) 1)) := by
        show RC _ _ _ _ _ _
        rw [hz, addC_append]; exact hr2
      have HT2 := Lib.hid ht2
      rw [hlv] at hbd
      clear hz hlv hok hr2 ht2
      generalize addC (fun _ => 0) (varsOf 0 (l1.take k)) 1 (0, l1[k]) = q at *
      generalize l1[k] = a at *
      have hw1 : IntKind.wrap .i64 (q + 1) = q + 1 := IntWalk.i64_in _ (by omega)
      go_wp2
      go_roundw
      case rel => exact ⟨k + 1, by omega, by go_num, HR2'.out, HT.out.tr HT2.out⟩
      case measure => simp [intOf]; omega
    · have hke : k = l1.length := by omega
      subst hke
      have hte : l1.take l1.length = l1 := List.take_length
      rw [hte] at HR
      go_wp2
      go_loopw [30] (fun i wr => ∃ k : Nat, k ≤ l2.length ∧ i = .int .i64 k ∧ RC wr (w.heap.size + 1 + 1) w.heap.size (w.heap.size + 1) (l1.length + k) (addC (addC (fun _ => 0) (varsOf 0 l1) 1) (varsOf 1 (l2.take k)) 1) ∧ TrC w.heap.size (w.heap.size + 1) w1 wr) (fun i _ => l2.length - (intOf i).toNat)
      case atStart => exact ⟨0, Nat.zero_le _, rfl, HR.out, HT.out⟩
      case round =>
        obtain ⟨k, hk2, rfl, hrc, htr⟩ := hrel
        have HRb := Lib.hid hrc; have HTb := Lib.hid htr
        have hxr := htr.below HX3.out (Nat.le_refl _) (by omega)
        have HXRb := Lib.hid hxr
        clear p0 p1
        have p0 := cellAt hrc.box 0
        have p1 := cellAt hrc.box 1
        clear hrc htr hxr
        by_cases hlt : k < l2.length
        · obtain ⟨b, o, rfl, hbl, y0, hok⟩ := HR2.out.at_ hlt
          have y0 := HXRb.out.keep y0
          have hz := varsOf_take 1 hlt
          have hbd : 0 ≤ addC (addC (fun _ => 0) (varsOf 0 l1) 1) (varsOf 1 (l2.take k)) 1 (1, l2[k]) ∧ addC (addC (fun _ => 0) (varsOf 0 l1) 1) (varsOf 1 (l2.take k)) 1 (1, l2[k]) ≤ 4000000 := by
            have h1 := addC_bound (fun _ => 0) (varsOf 0 l1 ++ varsOf 1 (l2.take k)) (1, l2[k]) rfl
            rw [addC_append] at h1
            have h2 : (varsOf 0 l1 ++ varsOf 1 (l2.take k)).length ≤ 4000000 := by unfold varsOf; simp; omega
            omega
          have hlk := HRb.out.looka hok
          obtain ⟨w2, hu, hr2, ht2⟩ := HRb.out.puta hok (by unfold maxLen; omega) 1
          have HR2' : Hid (RC w2 (w.heap.size + 1 + 1) w.heap.size (w.heap.size + 1) (l1.length + (k + 1)) (addC (addC (fun _ => 0) (varsOf 0 l1) 1) (varsOf 1 (l2.take (k + 1))) 1)) := by
            show RC _ _ _ _ _ _
            rw [hz, addC_append]; exact hr2
          have HT2 := Lib.hid ht2
          clear hz hok hr2 ht2
          generalize addC (addC (fun _ => 0) (varsOf 0 l1) 1) (varsOf 1 (l2.take k)) 1 (1, l2[k]) = q at *
          generalize l2[k] = a at *
          have hw1 : IntKind.wrap .i64 (q + 1) = q + 1 := IntWalk.i64_in _ (by omega)
          go_wp2
          go_roundw
          case rel => exact ⟨k + 1, by omega, by go_num, HR2'.out, HTb.out.tr HT2.out⟩
          case measure => simp [intOf]; omega
        · have hke : k = l2.length := by omega
          subst hke
          have hte : l2.take l2.length = l2 := List.take_length
          rw [hte] at HRb
          go_wp2
          go_ret
          exact ⟨⟨w.heap.size + 1 + 1, w.heap.size, w.heap.size + 1, rfl, by omega, Nat.le_refl _, by omega, by rw [addC_append]; exact HRb.out⟩, HXRb.out⟩
end Go.Proofs.YtkdhhcidpklgoaaGreatDoor
