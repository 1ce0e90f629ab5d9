/- ref.go: left, Fits: what they answer. -/
import Derived.Test.YtfohcdpfgbeclaaGreatQ16
namespace Go.Proofs.YtfohcdpfgbeclaaGreat
open Go.RowKit

def capI (n : Int) (c : Nat) : Int := max (n - c) 0
theorem preA_nL {t : Tm} {j : Nat} (hj : j < t.args.length) : nL ((chT t).take (j + 1)) = nL ((chT t).take j) + nT t.args[j] := by
  have h : j < (chT t).length := by unfold chT; rw [List.length_append]; omega
  rw [nL_take h]
  congr 1
  have : (chT t)[j] = t.args[j] := by simp [chT, List.getElem_append_left hj]
  rw [this]
theorem preC_nL {t : Tm} {j : Nat} (hj : j < t.cls.length) : nL ((chT t).take (t.args.length + (j + 1))) = nL ((chT t).take (t.args.length + j)) + nT (t.cls[j]).2 := by
  have h : t.args.length + j < (chT t).length := by unfold chT; rw [List.length_append, List.length_map]; omega
  rw [← Nat.add_assoc, nL_take h]
  congr 1
  have : (chT t)[t.args.length + j] = (t.cls[j]).2 := by simp [chT]
  rw [this]
theorem chT_all (t : Tm) : (chT t).take (t.args.length + t.cls.length) = chT t := by
  rw [List.take_of_length_le]; unfold chT; rw [List.length_append, List.length_map]; exact Nat.le_refl _

set_option maxHeartbeats 4000000 in
set_option maxRecDepth 100000 in
theorem leftX_any : ∀ (k : Nat) (t : Tm) (va vc : Value) (n : Int) (w : World), RT w k t va vc → -1000000000000 ≤ n → n ≤ 1000000000000 →
    Calls Tryz.prog 42 #[tV t va vc, .int .i64 n] w fun e w' => e = .returned (.int .i64 (capI n (nT t))) ∧ Ext w w' := by
  intro k
  induction k with
  | zero => intro t va vc n w ht; exact ht.elim
  | succ k ih =>
    intro t va vc n w ht hn0 hn1
    have HT := Lib.hid ht; have HIH := Lib.hid ih
    obtain ⟨_, ⟨Aa, ca, rfl, hca, hma⟩, ⟨Bb, cb, rfl, hcb, hmb⟩⟩ := ht.form
    clear ht ih
    unfold maxLen at hma hmb
    have HE := Lib.hid (Ext.al w (.cells #[.int .i64 t.op, .int .i64 t.n, .string t.nm, .int .i64 t.ty, .slice Aa t.args.length ca, .slice Bb t.cls.length cb] 43))
    have HB := Lib.hid (heapNew w (.cells #[.int .i64 t.op, .int .i64 t.n, .string t.nm, .int .i64 t.ty, .slice Aa t.args.length ca, .slice Bb t.cls.length cb] 43))
    generalize hrr : capI n (nT t) = rr
    have HR : Hid (rr = max (n - 1 - nL (chT t)) 0) := by show rr = _; rw [← hrr]; unfold capI; rw [nT_kids]; omega
    have HLA : Hid (∀ j, nL ((chT t).take j) ≤ nL (chT t)) := nL_take_le (chT t)
    have HALL := Lib.hid (chT_all t)
    clear hrr
    by_cases hn : n - 1 ≤ 0
    · have HRR : Hid (rr = 0) := by show rr = 0; rw [HR.out]; omega
      go_enter Tryz.func42, Tryz.ntmps42
      go_wp2
      generalize w.alloc _ = w1 at *
      go_loopw [1, 5] (fun s i wr => ∃ (j : Nat), j ≤ t.args.length ∧ i = .int .i64 j ∧ s = .int .i64 (n - 1) ∧ Ext w1 wr) (fun _ i _ => t.args.length - (intOf i).toNat)
      case atStart => exact ⟨0, Nat.zero_le _, rfl, by go_num, Ext.rf _⟩
      case round =>
        obtain ⟨j, hj, rfl, rfl, hb⟩ := hrel
        have HX := Lib.hid hb
        have b0 := (hb.block _ (heap_lt HB.out)).trans HB.out
        have c4 := cellAt b0 4
        have c5 := cellAt b0 5
        clear hb b0
        generalize hnn : n - 1 = m at *
        clear hnn
        by_cases hlt : j < t.args.length
        all_goals
          go_wp2
          generalize wr = wl at *
          go_loopw [1, 6] (fun s i wq => ∃ (j2 : Nat), j2 ≤ t.cls.length ∧ i = .int .i64 j2 ∧ s = .int .i64 m ∧ wl = wq) (fun _ i _ => t.cls.length - (intOf i).toNat)
          case atStart => exact ⟨0, Nat.zero_le _, rfl, rfl, rfl⟩
          case round =>
            obtain ⟨j2, hj2, rfl, rfl, rfl⟩ := hrel
            by_cases hlt2 : j2 < t.cls.length
            all_goals
              go_wp2
              go_ret
              exact ⟨ret_int (by rw [HRR.out]; omega), HE.out.tr HX.out⟩
    · go_enter Tryz.func42, Tryz.ntmps42
      go_wp2
      generalize w.alloc _ = w1 at *
      go_loopw [1, 5] (fun s i wr => ∃ (j : Nat) (m : Int), j ≤ t.args.length ∧ i = .int .i64 j ∧ s = .int .i64 m ∧ (0 ≤ m ∧ m ≤ 1000000000000 ∧ m = max (n - 1 - nL ((chT t).take j)) 0) ∧ Ext w1 wr) (fun _ i _ => t.args.length - (intOf i).toNat)
      case atStart => exact ⟨0, n - 1, Nat.zero_le _, rfl, by go_num, ⟨by omega, by omega, by simp [nL]; omega⟩, Ext.rf _⟩
      case round =>
        obtain ⟨j, m, hj, rfl, rfl, ⟨hm0, hm1, hmm⟩, hb⟩ := hrel
        have HMM := Lib.hid hmm
        clear hmm
        have HX := Lib.hid hb
        have b0 := (hb.block _ (heap_lt HB.out)).trans HB.out
        have HBB := Lib.hid b0
        have c4 := cellAt b0 4
        have c5 := cellAt b0 5
        clear hb b0
        have HLJ := Lib.hid (HLA.out j)
        by_cases hgo : j < t.args.length ∧ 0 < m
        · obtain ⟨hlt, hpos⟩ := hgo
          obtain ⟨b, o, xa, xc, rfl, hbl, yc, yt⟩ := HT.out.arg hlt
          have HNX := Lib.hid (preA_nL hlt)
          have yc := yc.below (HE.out.tr HX.out)
          have c30 := yc.c0
          have c31 := yc.c1
          have c32 := yc.c2
          have c33 := yc.c3
          have c34 := yc.c4
          have c35 := yc.c5
          have HK := Lib.hid (yt.below (HE.out.tr HX.out))
          generalize t.args[j] = x at *
          clear yc yt
          go_wp2_with (go_at_call 42; (with_reducible refine (HIH.out x _ _ m _ HK.out (by omega) (by omega)).mono ?_); rintro e w5 ⟨rfl, hb5⟩)
          have HM9 : Hid (0 ≤ capI m (nT x) ∧ capI m (nT x) ≤ 1000000000000 ∧ capI m (nT x) = max (n - 1 - nL ((chT t).take (j + 1))) 0) := by
            show _ ∧ _ ∧ _
            rw [HNX.out]; unfold capI; have := HMM.out; omega
          exact ⟨⟨j + 1, _, by omega, by go_num, rfl, HM9.out, HX.out.tr hb5⟩, by simp [intOf]; omega⟩
        · have HM0 : Hid (m = max (n - 1 - nL ((chT t).take (t.args.length + 0))) 0) := by
            show m = _
            have h1 := HMM.out
            by_cases hlt : j < t.args.length
            · have h2 : m = 0 := by omega
              have h3 := nL_append ((chT t).drop j |>.take (t.args.length - j)) ((chT t).take j)
              have h4 : (chT t).take (t.args.length + 0) = (chT t).take j ++ ((chT t).drop j |>.take (t.args.length - j)) := by
                rw [← List.take_add]; congr 1; omega
              rw [h4, h3]; omega
            · rw [show t.args.length + 0 = j by omega]; exact h1
          have hno : t.args.length ≤ j ∨ m ≤ 0 := by omega
          clear hgo
          by_cases hlt : j < t.args.length
          all_goals
            go_wp2
            generalize wr = wl at *
            clear c4 c5
            go_loopw [1, 6] (fun s i wq => ∃ (j2 : Nat) (m2 : Int), j2 ≤ t.cls.length ∧ i = .int .i64 j2 ∧ s = .int .i64 m2 ∧ (0 ≤ m2 ∧ m2 ≤ 1000000000000 ∧ m2 = max (n - 1 - nL ((chT t).take (t.args.length + j2))) 0) ∧ Ext wl wq) (fun _ i _ => t.cls.length - (intOf i).toNat)
            case atStart => exact ⟨0, m, Nat.zero_le _, rfl, rfl, ⟨hm0, hm1, HM0.out⟩, Ext.rf _⟩
            case round =>
              obtain ⟨j2, m2, hj2, rfl, rfl, ⟨hm20, hm21, hmm⟩, hb2⟩ := hrel
              have HMM2 := Lib.hid hmm
              clear hmm
              have HX2 := Lib.hid (HX.out.tr hb2)
              have HXE := Lib.hid hb2
              have b2 := (hb2.block _ (heap_lt HBB.out)).trans HBB.out
              have c4 := cellAt b2 4
              have c5 := cellAt b2 5
              clear hb2 b2
              have HLJ2 := Lib.hid (HLA.out (t.args.length + j2))
              by_cases hgo2 : j2 < t.cls.length ∧ 0 < m2
              · obtain ⟨hlt2, hpos2⟩ := hgo2
                obtain ⟨b', o', vn', xa', xc', rfl, hbl', yn', ys', yc', yt'⟩ := HT.out.clause hlt2
                have HNX := Lib.hid (preC_nL hlt2)
                have yc' := yc'.below (HE.out.tr HX2.out)
                have d0 := yc'.c0
                have d1 := yc'.c1
                have d2 := yc'.c2
                have d3 := yc'.c3
                have d4 := yc'.c4
                have d5 := yc'.c5
                have HK2 := Lib.hid (yt'.below (HE.out.tr HX2.out))
                generalize t.cls[j2] = cl at *
                obtain ⟨ns, y⟩ := cl
                dsimp only at *
                clear yc' yt' yn' ys'
                go_wp2_with (go_at_call 42; (with_reducible refine (HIH.out y _ _ m2 _ HK2.out (by omega) (by omega)).mono ?_); rintro e w6 ⟨rfl, hb6⟩)
                have HM9 : Hid (0 ≤ capI m2 (nT y) ∧ capI m2 (nT y) ≤ 1000000000000 ∧ capI m2 (nT y) = max (n - 1 - nL ((chT t).take (t.args.length + (j2 + 1)))) 0) := by
                  show _ ∧ _ ∧ _
                  rw [HNX.out]; unfold capI; have := HMM2.out; omega
                exact ⟨⟨j2 + 1, _, by omega, by go_num, rfl, HM9.out, HXE.out.tr hb6⟩, by simp [intOf]; omega⟩
              · have HRR : Hid (m2 = rr) := by
                  show m2 = rr
                  have h1 := HMM2.out
                  have h2 := HR.out
                  by_cases hlt2 : j2 < t.cls.length
                  · have h3 := HLJ2.out; omega
                  · have h4 : j2 = t.cls.length := by omega
                    rw [h4, HALL.out] at h1; omega
                have hno2 : t.cls.length ≤ j2 ∨ m2 ≤ 0 := by omega
                clear hgo2
                by_cases hlt2 : j2 < t.cls.length
                all_goals
                  go_wp2
                  go_ret
                  exact ⟨ret_int (by rw [← HRR.out]; omega), HE.out.tr HX2.out⟩

set_option maxHeartbeats 1000000 in
set_option maxRecDepth 100000 in
theorem FitsX_any (k : Nat) (t : Tm) (va vc : Value) (n : Int) (w : World) (ht : RT w k t va vc) (hn0 : 0 ≤ n) (hn1 : n ≤ 1000000000) :
    Calls Tryz.prog 17 #[tV t va vc, .int .i64 n] w fun e w' => e = .returned (.bool (decide ((nT t : Int) ≤ n))) ∧ Ext w w' := by
  have HT := Lib.hid ht
  obtain ⟨_, ⟨Aa, ca, rfl, hca, hma⟩, ⟨Bb, cb, rfl, hcb, hmb⟩⟩ := ht.form
  clear ht
  have HE := Lib.hid (Ext.al w (.cells #[.int .i64 t.op, .int .i64 t.n, .string t.nm, .int .i64 t.ty, .slice Aa t.args.length ca, .slice Bb t.cls.length cb] 43))
  generalize hq : decide ((nT t : Int) ≤ n) = q
  have HQ : Hid (decide (0 < capI (n + 1) (nT t)) = q) := by show decide _ = q; rw [← hq]; unfold capI; congr 1; exact propext ⟨fun h => by omega, fun h => by omega⟩
  clear hq
  go_enter Tryz.func17, Tryz.ntmps17
  go_wp2_with fail
  generalize w.alloc _ = w1 at *
  (with_reducible refine (leftX_any k t _ _ (n + 1) _ (HT.out.below HE.out) (by omega) (by omega)).mono ?_)
  generalize capI (n + 1) (nT t) = r at *
  rintro e w2 ⟨rfl, hb⟩
  have HX := Lib.hid (HE.out.tr hb)
  clear hb
  go_wp2
  go_ret
  exact ⟨ret_bool HQ.out, HX.out⟩
end Go.Proofs.YtfohcdpfgbeclaaGreat

/- ref.go: Children, Depth, Nodes, Small. -/
namespace Go.Proofs.YtfohcdpfgbeclaaGreat
open Go.RowKit

theorem Tryz.info43 : (Tryz.prog.info? 43).map (fun i => (i.zero, i.size, i.bytes)) = some (some (.agg #[.int .i64 0, .int .i64 0, .string ⟨#[]⟩, .int .i64 0, .slice none 0 0, .slice none 0 0]), 6, 88) := by kernel_rfl
theorem app_terms {w : World} {ops : Array Oper} {rest : List Oper} {o : Oper} {a : Act} {Q : Exit → Act → World → Prop} (hgd : o.guard = none) (s x : Operand)
    (ho : o.op = .call { callee := .builtin .append, args := #[s, x], argTypes := #[40, 40] }) (B : Nat) (v : Value) (L1 : List Trm) (hs : a.eval s = v) (hown : w.ownsRow B 43 6 v L1.length (cellsT L1))
    (A : Option Addr) (c : Nat) (L2 : List Trm) (hx : a.eval x = .slice A L2.length c) (hsrc : SrcN w A L2.length 6 (cellsT L2)) (h1 : ∀ u ∈ cellsT L2, u.oneCell' = true) (hn : L1.length + L2.length ≤ 1000000000) (hB : B ≤ w.heap.size)
    (h : ∀ v' w', w'.ownsRow B 43 6 v' (L1 ++ L2).length (cellsT (L1 ++ L2)) → w.grownBy w' v.ownBlock → wpList Tryz.prog ops Q rest (a.put o.dst v') w') : wpList Tryz.prog ops Q (o :: rest) a w := by
  refine wpList_plain hgd fun K hK => app_row (t := 40) (e := 43) (size := 6) (bytes := 88) Tryz.u40 Tryz.info43 (by decide) (by decide) s x ho B v L1.length (cellsT L1) hs hown A L2.length c (cellsT L2) hx hsrc h1 (by unfold maxLen; omega) (by omega) hB (fun v' w' h1 h2 _ => hK _ _ (h v' w' ?_ h2))
  rw [List.length_append, cellsT_append]; exact h1
theorem grown_ext' {w w' : World} {v : Value} {B e size : Nat} {n : Nat} {xs : List Value} (hg : w.grownBy w' v.ownBlock) (hv : w.ownsRow B e size v n xs) (hB : B ≤ w.heap.size) : Below B w w' :=
  Below.grown (Below.refl _ _) hg hB (fun j e => (hv.lt j e).1)
theorem SrcN.one {w : World} {b : Nat} {x : Trm} (h : w.heap[b]? = some (.cells #[.int .i64 x.1.op, .int .i64 x.1.n, .string x.1.nm, .int .i64 x.1.ty, x.2.1, x.2.2] 43 (0, 0))) : SrcN w (some ⟨b, 0, none⟩) 1 6 (cellsT [x]) := by
  refine .inr ⟨_, rfl, by simp [cellsT, cells1], fun j u hu => ?_⟩
  have hj : j < 6 := by have := (List.getElem?_eq_some_iff.1 hu).1; simpa [cellsT, cells1] using this
  rw [add_at, Nat.zero_add]
  match j, hj with
  | 0, _ => exact cellAt h 0 hu
  | 1, _ => exact cellAt h 1 hu
  | 2, _ => exact cellAt h 2 hu
  | 3, _ => exact cellAt h 3 hu
  | 4, _ => exact cellAt h 4 hu
  | 5, _ => exact cellAt h 5 hu

set_option maxHeartbeats 4000000 in
set_option maxRecDepth 100000 in
theorem Children_any (k : Nat) (t : Tm) (va vc : Value) (w : World) (ht : RT w (k + 1) t va vc) (hn : nT t ≤ 1000000) :
    Calls Tryz.prog 70 #[tV t va vc] w fun e w' => ∃ v, e = .returned v ∧ RTms w' k v (chT t) ∧ Ext w w' := by
  have HT := Lib.hid ht
  have HN : Hid (t.args.length + t.cls.length ≤ 1000000) := by
    show _ ≤ _
    have h1 := nT_kids t
    have h2 := nL_len (chT t)
    have h3 : (chT t).length = t.args.length + t.cls.length := by unfold chT; rw [List.length_append, List.length_map]
    omega
  obtain ⟨_, ⟨Aa, ca, rfl, hca, hma⟩, ⟨Bb, cb, rfl, hcb, hmb⟩⟩ := ht.form
  obtain ⟨L0, hl0, hr0, hs0⟩ := ht.rowA
  have hlen0 : L0.length = t.args.length := by rw [← hl0, List.length_map]
  rw [← hlen0] at hs0
  have HS0 := Lib.hid hs0; have HL0 := Lib.hid hl0; have HR0 := Lib.hid hr0; have HLN := Lib.hid hlen0
  clear ht hn hl0 hr0 hs0 hlen0
  unfold maxLen at hma hmb
  have HE := Lib.hid (Ext.al w (.cells #[.int .i64 t.op, .int .i64 t.n, .string t.nm, .int .i64 t.ty, .slice Aa t.args.length ca, .slice Bb t.cls.length cb] 43))
  have HB := Lib.hid (heapNew w (.cells #[.int .i64 t.op, .int .i64 t.n, .string t.nm, .int .i64 t.ty, .slice Aa t.args.length ca, .slice Bb t.cls.length cb] 43))
  have HS1 : Hid (SrcN (w.alloc (.cells #[.int .i64 t.op, .int .i64 t.n, .string t.nm, .int .i64 t.ty, .slice Aa t.args.length ca, .slice Bb t.cls.length cb] 43)) Aa L0.length 6 (cellsT L0)) := by
    rcases HS0.out with h | ⟨ad, h1, h2, h3⟩
    · exact .inl h
    · exact .inr ⟨ad, h1, h2, fun j u hu => HE.out.keep (h3 j u hu)⟩
  obtain ⟨x0, x1, x2, x3, x4, x5⟩ := cells6 HB.out
  have hnil : World.ownsRow (w.alloc (.cells #[.int .i64 t.op, .int .i64 t.n, .string t.nm, .int .i64 t.ty, .slice Aa t.args.length ca, .slice Bb t.cls.length cb] 43)) w.heap.size 43 6 (.slice none 0 0) ([] : List Trm).length (cellsT []) := ⟨by simp [cellsT], .inl ⟨rfl, rfl⟩⟩
  have HNIL := Lib.hid hnil
  clear hnil
  go_enter Tryz.func70, Tryz.ntmps70
  go_wp2_with (at_builtin; refine app_terms rfl _ _ rfl w.heap.size _ [] rfl HNIL.out Aa ca L0 (by rw [HLN.out]; rfl) HS1.out (cellsT_one (k := k) L0 HR0.out) (by have := HN.out; have := HLN.out; simp; omega) HE.out.size ?_)
  intro v2 w2 ho hg
  have hX : Ext _ w2 := ⟨hg.os, hg.tape, hg.output, hg.size, fun k hk => hg.block k hk (by simp [Value.ownBlock])⟩
  have HX2 := Lib.hid (HE.out.tr hX)
  have HO2 : Hid (w2.ownsRow w.heap.size 43 6 v2 L0.length (cellsT L0)) := ho
  have b2 := (hX.block _ (heap_lt HB.out)).trans HB.out
  clear ho hg hX x0 x1 x2 x3 x4 x5 HS1 HNIL
  obtain ⟨x0, x1, x2, x3, x4, x5⟩ := cells6 b2
  clear b2
  go_wp2
  clear x0 x1 x2 x3 x4 x5
  go_loopw [3, 12] (fun s i wr => ∃ (j : Nat) (L : List Trm), j ≤ t.cls.length ∧ i = .int .i64 j ∧ wr.ownsRow w.heap.size 43 6 s L.length (cellsT L) ∧ (∀ x ∈ L, RT w k x.1 x.2.1 x.2.2) ∧ L.map (·.1) = t.args ++ (t.cls.take j).map (·.2) ∧ Ext w wr) (fun _ i _ => t.cls.length - (intOf i).toNat)
  case atStart => exact ⟨0, L0, Nat.zero_le _, rfl, HO2.out, HR0.out, by rw [HL0.out]; simp, HX2.out⟩
  case round =>
    obtain ⟨j, L, hj, rfl, ho, hr, hl, hb⟩ := hrel
    have HO := Lib.hid ho; have HR := Lib.hid hr; have HL := Lib.hid hl; have HX := Lib.hid hb
    have HLEN : Hid (L.length = t.args.length + j) := by
      show _ = _
      have := congrArg List.length hl
      simp at this; omega
    clear ho hr hl hb
    by_cases hlt : j < t.cls.length
    · obtain ⟨b', o', vn', xa', xc', rfl, hbl', yn', ys', y6, yt'⟩ := HT.out.clause hlt
      have HTK : Hid ((t.cls.take (j + 1)).map (·.2) = (t.cls.take j).map (·.2) ++ [t.cls[j].2]) := by show _ = _; rw [List.take_succ_eq_append_getElem hlt, List.map_append]; rfl
      generalize t.cls[j] = cl at *
      obtain ⟨ns, y⟩ := cl
      dsimp only at *
      have HRY := Lib.hid yt'
      obtain ⟨-, ⟨Ax, cx, rfl, -, -⟩, ⟨Bx, dx, rfl, -, -⟩⟩ := yt'.form
      obtain ⟨An, cn, rfl, -, -⟩ := ys'.form
      have y6 := y6.below HX.out
      have c0 := HX.out.keep yn'
      have c1 := y6.c0
      have c2 := y6.c1
      have c3 := y6.c2
      have c4 := y6.c3
      have c5 := y6.c4
      have c6 := y6.c5
      clear y6 yt' yn' ys'
      have HE8 := Lib.hid (Ext.al2 wr (.cells #[.slice An ns.length cn, .int .i64 y.op, .int .i64 y.n, .string y.nm, .int .i64 y.ty, .slice Ax y.args.length cx, .slice Bx y.cls.length dx] 87) (.cells #[.int .i64 y.op, .int .i64 y.n, .string y.nm, .int .i64 y.ty, .slice Ax y.args.length cx, .slice Bx y.cls.length dx] 43))
      have hn8 := heapNew (wr.alloc (.cells #[.slice An ns.length cn, .int .i64 y.op, .int .i64 y.n, .string y.nm, .int .i64 y.ty, .slice Ax y.args.length cx, .slice Bx y.cls.length dx] 87)) (.cells #[.int .i64 y.op, .int .i64 y.n, .string y.nm, .int .i64 y.ty, .slice Ax y.args.length cx, .slice Bx y.cls.length dx] 43)
      rw [World.size_alloc] at hn8
      have HSO : Hid (SrcN _ (some ⟨wr.heap.size + 1, 0, none⟩) 1 6 (cellsT [(y, .slice Ax y.args.length cx, .slice Bx y.cls.length dx)])) := SrcN.one (x := (y, .slice Ax y.args.length cx, .slice Bx y.cls.length dx)) hn8
      clear hn8
      go_wp2_with (at_builtin; refine app_terms rfl _ _ rfl w.heap.size _ L rfl (own_below HO.out HE8.out) (some ⟨wr.heap.size + 1, 0, none⟩) 1 [(y, .slice Ax y.args.length cx, .slice Bx y.cls.length dx)] rfl HSO.out (cellsT_one (k := k) (w := w) [(y, .slice Ax y.args.length cx, .slice Bx y.cls.length dx)] (fun x hx => by rw [List.mem_singleton.1 hx]; exact HRY.out)) (by have := HN.out; have := HLEN.out; simp; omega) (Nat.le_trans HX.out.size HE8.out.size) ?_)
      intro v9 w9 ho9 hg9
      have HX9 : Hid (Ext w w9) := (HX.out.tr HE8.out).trans (grown_ext' hg9 (own_below HO.out HE8.out) (Nat.le_trans HX.out.size HE8.out.size))
      have HO9 : Hid (w9.ownsRow w.heap.size 43 6 v9 (L ++ [((y, .slice Ax y.args.length cx, .slice Bx y.cls.length dx) : Trm)]).length (cellsT (L ++ [((y, .slice Ax y.args.length cx, .slice Bx y.cls.length dx) : Trm)]))) := by show World.ownsRow _ _ _ _ _ _ _; rw [List.length_append]; exact ho9
      have HR9 : Hid (∀ x ∈ L ++ [((y, .slice Ax y.args.length cx, .slice Bx y.cls.length dx) : Trm)], RT w k x.1 x.2.1 x.2.2) := fun x hx => (List.mem_append.1 hx).elim (HR.out x) (fun hx => by rw [List.mem_singleton.1 hx]; exact HRY.out)
      have HL9 : Hid ((L ++ [((y, .slice Ax y.args.length cx, .slice Bx y.cls.length dx) : Trm)]).map (·.1) = t.args ++ (t.cls.take (j + 1)).map (·.2)) := by show _ = _; rw [List.map_append, HL.out, HTK.out, List.append_assoc]; rfl
      clear ho9 hg9 c0 c1 c2 c3 c4 c5 c6
      go_wp2
      exact ⟨⟨j + 1, L ++ [((y, .slice Ax y.args.length cx, .slice Bx y.cls.length dx) : Trm)], by omega, by go_num, HO9.out, HR9.out, HL9.out, HX9.out⟩, by simp [intOf]; omega⟩
    · have HV : Hid (RTms wr k u3 (chT t)) := by
        show RTms wr k u3 (chT t)
        have h1 := own_RTms HO.out (fun x hx => (HR.out x hx).below HX.out)
        rw [HL.out, show j = t.cls.length by omega, List.take_length] at h1
        exact h1
      go_wp2
      go_ret
      exact ⟨_, rfl, HV.out, HX.out⟩

set_option maxHeartbeats 2000000 in
set_option maxRecDepth 100000 in
theorem Depth_any : ∀ (k : Nat) (t : Tm) (va vc : Value) (w : World), RT w k t va vc → nT t ≤ 1000000 →
    Calls Tryz.prog 46 #[tV t va vc] w fun e w' => e = .returned (.int .i64 (dT t)) ∧ dT t ≤ nT t ∧ Ext w w' := by
  intro k
  induction k with
  | zero => intro t va vc w ht; exact ht.elim
  | succ k ih =>
    intro t va vc w ht hn
    have HT := Lib.hid ht; have HIH := Lib.hid ih; have HN := Lib.hid hn
    obtain ⟨_, ⟨Aa, ca, rfl, -, -⟩, ⟨Bb, cb, rfl, -, -⟩⟩ := ht.form
    clear ht ih hn
    have HK := Lib.hid (nT_kids t)
    have HD := Lib.hid (dT_kids t)
    have HLL := Lib.hid (nL_len (chT t))
    have HE := Lib.hid (Ext.al w (.cells #[.int .i64 t.op, .int .i64 t.n, .string t.nm, .int .i64 t.ty, .slice Aa t.args.length ca, .slice Bb t.cls.length cb] 43))
    go_enter Tryz.func46, Tryz.ntmps46
    go_wp2_with fail
    generalize w.alloc _ = w1 at *
    (with_reducible refine (Children_any k t _ _ w1 (HT.out.below HE.out) HN.out).mono ?_)
    rintro e w2 ⟨v, rfl, hv, hb⟩
    have HV := Lib.hid hv
    have HX := Lib.hid (HE.out.tr hb)
    obtain ⟨A, c, rfl, hc, hm⟩ := hv.form
    unfold maxLen at hm
    clear hv hb
    generalize hch : chT t = ch at *
    go_wp2
    go_loopw [3, 9] (fun s i wr => ∃ j : Nat, j ≤ ch.length ∧ i = .int .i64 j ∧ s = .int .i64 (dL (ch.take j)) ∧ (dL (ch.take j) ≤ nL (ch.take j)) ∧ Ext w2 wr) (fun _ i _ => ch.length - (intOf i).toNat)
    case atStart => exact ⟨0, Nat.zero_le _, rfl, rfl, by simp [dL, nL], Ext.rf _⟩
    case round =>
      obtain ⟨j, hj, rfl, rfl, hle, hb⟩ := hrel
      have HLE := Lib.hid hle
      have HX2 := Lib.hid hb
      clear hle hb
      by_cases hlt : j < ch.length
      · obtain ⟨b, o, xa, xc, rfl, hbl, y6, yt⟩ := HV.out.at_ hlt
        have HDT := Lib.hid (dL_take hlt)
        have HNT := Lib.hid (nL_take hlt)
        have HNL := Lib.hid (nL_take_le ch (j + 1))
        have HD0 := Lib.hid (dL_nonneg (ch.take j))
        have HDP := Lib.hid (dT_pos ch[j])
        have y6 := y6.below HX2.out
        have c0 := y6.c0
        have c1 := y6.c1
        have c2 := y6.c2
        have c3 := y6.c3
        have c4 := y6.c4
        have c5 := y6.c5
        have HKX := Lib.hid (yt.below HX2.out)
        obtain ⟨-, ⟨Ax, cx, rfl, -, -⟩, ⟨Bx, dx, rfl, -, -⟩⟩ := yt.form
        generalize ch[j] = x at *
        clear y6 yt
        have HE8 := Lib.hid (Ext.al wr (.cells #[.int .i64 x.op, .int .i64 x.n, .string x.nm, .int .i64 x.ty, .slice Ax x.args.length cx, .slice Bx x.cls.length dx] 43))
        go_wp2_with fail
        (with_reducible refine (HIH.out x _ _ _ (HKX.out.below HE8.out) (by have := HNT.out; have := HNL.out; have := HK.out; have := HN.out; omega)).mono ?_)
        rintro e w5 ⟨rfl, hdn, hb⟩
        have HX5 := Lib.hid (HX2.out.tr (HE8.out.tr hb))
        have HM : Hid (max (dL (ch.take j)) (dT x) = dL (ch.take (j + 1)) ∧ dL (ch.take (j + 1)) ≤ nL (ch.take (j + 1))) := by
          show _ ∧ _
          have := HDT.out; have := HNT.out; have := HLE.out; have := HD0.out; have := HDP.out
          constructor <;> omega
        clear hb hdn
        go_wp2
        exact ⟨⟨j + 1, by omega, by go_num, by rw [← HM.out.1], HM.out.2, HX5.out⟩, by simp [intOf]; omega⟩
      · have HJ : Hid (ch.take j = ch) := by show _ = _; rw [List.take_of_length_le (by omega)]
        have HR : Hid (0 ≤ dL ch ∧ dL ch ≤ nL ch ∧ nL ch ≤ 1000000) := by show _ ∧ _; have := HLE.out; rw [HJ.out] at this; have := dL_nonneg ch; have := HK.out; have := HN.out; omega
        rw [HJ.out]
        have h1 := HR.out
        generalize dL ch = d at *
        go_wp2
        go_ret
        exact ⟨ret_int (by rw [HD.out]; omega), by rw [HD.out, HK.out]; omega, HX.out.tr HX2.out⟩

set_option maxHeartbeats 2000000 in
set_option maxRecDepth 100000 in
theorem Nodes39_any : ∀ (k : Nat) (t : Tm) (va vc : Value) (w : World), RT w k t va vc → nT t ≤ 1000000 →
    Calls Tryz.prog 39 #[tV t va vc] w fun e w' => e = .returned (.int .i64 (nT t)) ∧ Ext w w' := by
  intro k
  induction k with
  | zero => intro t va vc w ht; exact ht.elim
  | succ k ih =>
    intro t va vc w ht hn
    have HT := Lib.hid ht; have HIH := Lib.hid ih; have HN := Lib.hid hn
    obtain ⟨_, ⟨Aa, ca, rfl, -, -⟩, ⟨Bb, cb, rfl, -, -⟩⟩ := ht.form
    clear ht ih hn
    have HK := Lib.hid (nT_kids t)
    have HLL := Lib.hid (nL_len (chT t))
    have HE := Lib.hid (Ext.al w (.cells #[.int .i64 t.op, .int .i64 t.n, .string t.nm, .int .i64 t.ty, .slice Aa t.args.length ca, .slice Bb t.cls.length cb] 43))
    go_enter Tryz.func39, Tryz.ntmps39
    go_wp2_with fail
    generalize w.alloc _ = w1 at *
    (with_reducible refine (Children_any k t _ _ w1 (HT.out.below HE.out) HN.out).mono ?_)
    rintro e w2 ⟨v, rfl, hv, hb⟩
    have HV := Lib.hid hv
    have HX := Lib.hid (HE.out.tr hb)
    obtain ⟨A, c, rfl, hc, hm⟩ := hv.form
    unfold maxLen at hm
    clear hv hb
    generalize hch : chT t = ch at *
    go_wp2
    go_loopw [3, 9] (fun s i wr => ∃ j : Nat, j ≤ ch.length ∧ i = .int .i64 j ∧ s = .int .i64 ((1 + nL (ch.take j) : Nat) : Int) ∧ Ext w2 wr) (fun _ i _ => ch.length - (intOf i).toNat)
    case atStart => exact ⟨0, Nat.zero_le _, rfl, by simp [nL], Ext.rf _⟩
    case round =>
      obtain ⟨j, hj, rfl, rfl, hb⟩ := hrel
      have HX2 := Lib.hid hb
      clear hb
      have HNLJ := Lib.hid (nL_take_le ch j)
      by_cases hlt : j < ch.length
      · obtain ⟨b, o, xa, xc, rfl, hbl, y6, yt⟩ := HV.out.at_ hlt
        have HNT := Lib.hid (nL_take hlt)
        have HNL := Lib.hid (nL_take_le ch (j + 1))
        have y6 := y6.below HX2.out
        have c0 := y6.c0
        have c1 := y6.c1
        have c2 := y6.c2
        have c3 := y6.c3
        have c4 := y6.c4
        have c5 := y6.c5
        have HKX := Lib.hid (yt.below HX2.out)
        obtain ⟨-, ⟨Ax, cx, rfl, -, -⟩, ⟨Bx, dx, rfl, -, -⟩⟩ := yt.form
        generalize ch[j] = x at *
        clear y6 yt
        have HE8 := Lib.hid (Ext.al wr (.cells #[.int .i64 x.op, .int .i64 x.n, .string x.nm, .int .i64 x.ty, .slice Ax x.args.length cx, .slice Bx x.cls.length dx] 43))
        go_wp2_with fail
        (with_reducible refine (HIH.out x _ _ _ (HKX.out.below HE8.out) (by have := HNT.out; have := HNL.out; have := HK.out; have := HN.out; omega)).mono ?_)
        rintro e w5 ⟨rfl, hb⟩
        have HX5 := Lib.hid (HX2.out.tr (HE8.out.tr hb))
        have h1 : 1 + nL (ch.take j) ≤ 1000000 := by have := HNLJ.out; have := HK.out; have := HN.out; omega
        have h2 : nT x ≤ 1000000 := by have := HNT.out; have := HNL.out; have := HK.out; have := HN.out; omega
        have HM : Hid (1 + nL (ch.take j) + nT x = 1 + nL (ch.take (j + 1))) := by show _ = _; rw [HNT.out]; omega
        clear hb
        generalize 1 + nL (ch.take j) = m1 at *
        generalize nT x = m2 at *
        go_wp2
        exact ⟨⟨j + 1, by omega, by go_num, by rw [← HM.out]; simp, HX5.out⟩, by simp [intOf]; omega⟩
      · have HJ : Hid (ch.take j = ch) := by show _ = _; rw [List.take_of_length_le (by omega)]
        rw [HJ.out, ← HK.out]
        go_wp2
        go_ret
        exact ⟨rfl, HX.out.tr HX2.out⟩

set_option maxHeartbeats 1000000 in
set_option maxRecDepth 100000 in
theorem RSmall_any (k : Nat) (t : Tm) (va vc : Value) (w : World) (ht : RT w k t va vc) :
    Calls Tryz.prog 19 #[tV t va vc] w fun e w' => e = .returned (.bool (sizeR t).2) ∧ Ext w w' := by
  have HT := Lib.hid ht
  obtain ⟨_, ⟨Aa, ca, rfl, -, -⟩, ⟨Bb, cb, rfl, -, -⟩⟩ := ht.form
  clear ht
  have HE := Lib.hid (Ext.al w (.cells #[.int .i64 t.op, .int .i64 t.n, .string t.nm, .int .i64 t.ty, .slice Aa t.args.length ca, .slice Bb t.cls.length cb] 43))
  have HB := Lib.hid (heapNew w (.cells #[.int .i64 t.op, .int .i64 t.n, .string t.nm, .int .i64 t.ty, .slice Aa t.args.length ca, .slice Bb t.cls.length cb] 43))
  have HS := Lib.hid (size_small t)
  generalize (sizeR t).2 = rr at *
  go_enter Tryz.func19, Tryz.ntmps19
  go_wp2_with fail
  generalize w.alloc _ = w1 at *
  (with_reducible refine (FitsX_any k t _ _ 600 _ (HT.out.below HE.out) (by omega) (by omega)).mono ?_)
  rintro e w2 ⟨rfl, hb⟩
  have HX2 := Lib.hid (HE.out.tr hb)
  have b2 := (hb.block _ (heap_lt HB.out)).trans HB.out
  obtain ⟨x0, x1, x2, x3, x4, x5⟩ := cells6 b2
  clear hb b2
  by_cases hq : nT t ≤ 600
  · have HQ := Lib.hid hq
    rw [show decide ((nT t : Int) ≤ 600) = true by rw [decide_eq_true_eq]; omega]
    have HS2 : Hid (rr = decide (dT t ≤ 24)) := by show _ = _; rw [HS.out, decide_eq_true hq]; rfl
    clear hq HS
    go_wp2_with fail
    (with_reducible refine (Depth_any k t _ _ _ (HT.out.below HX2.out) (by have := HQ.out; omega)).mono ?_)
    rintro e w3 ⟨rfl, -, hb⟩
    have HX3 := Lib.hid (HX2.out.tr hb)
    clear hb
    generalize dT t = d at *
    go_wp2
    go_ret
    exact ⟨ret_bool (by rw [HS2.out]), HX3.out⟩
  · rw [show decide ((nT t : Int) ≤ 600) = false by rw [decide_eq_false_iff_not]; omega]
    have HS2 : Hid (rr = false) := by show _ = _; rw [HS.out, decide_eq_false hq]; rfl
    clear hq HS
    go_wp2
    go_ret
    exact ⟨ret_bool (by rw [HS2.out]), HX2.out⟩
end Go.Proofs.YtfohcdpfgbeclaaGreat
