import Derived.Test.YtkdglplfcpindaaGreatDoorQ24
set_option maxRecDepth 100000
namespace Go.Proofs.YtkdglplfcpindaaGreatDoor
open Go.RowKit
set_option maxHeartbeats 1000000 in
theorem In_any (v : Value) (l : List Str) (s : Str) (w : World) (h : RStrs w v l) :
    Calls Tryz.prog 115 #[v, .string s] w fun e w' => e = .returned (.bool (hasS l s)) /\ w = w' := by
  have H := LH h
  obtain ⟨A, c, rfl, hc, hm⟩ := h.form
  have HS : Hid (hasS l s = hasS l s) := rfl
  generalize hrr : hasS l s = rr
  have HR : Hid (rr = hasS l s) := hrr.symm
  clear h hrr HS
  unfold maxLen at hm
  go_enter Tryz.func115, Tryz.ntmps115
  go_wp2
  go_loopw [9] (fun i wr => ∃ k : Nat, k <= l.length /\ i = .int .i64 k /\ w = wr /\ rr = hasS (l.drop k) s) (fun i _ => l.length - (intOf i).toNat)
  case atStart => exact ⟨0, Nat.zero_le _, rfl, rfl, HR.out⟩
  case round =>
    obtain ⟨k, hk, rfl, rfl, hno⟩ := hrel
    have HN := LH hno
    clear hno
    by_cases hlt : k < l.length
    . obtain ⟨b, o, rfl, hbl, y0, hs⟩ := H.out.at_ hlt
      have HD := LH (dS hlt)
      have HX : Hid (rr = (eqS s l[k] || hasS (l.drop (k + 1)) s)) := by show _ = _; rw [HN.out, HD.out, hasS_cons']
      generalize l[k] = x at *
      go_wp2
      . have hq : eqS x s = true := by assumption
        go_ret
        exact ⟨rB (by rw [HX.out, eqS_comm, hq]; rfl), rfl⟩
      . have hq : eqS x s = false := by assumption
        refine ⟨⟨k + 1, by omega, by go_num, trivial, by rw [HX.out, eqS_comm, hq]; rfl⟩, by simp [intOf]; omega⟩
    . have HK := LH (drop_end hlt)
      go_wp2
      go_ret
      exact ⟨rB (by rw [HN.out, HK.out]; rfl), rfl⟩
set_option maxHeartbeats 1000000 in
theorem With_any (v1 v2 : Value) (l1 l2 : List Str) (w : World) (h1 : RStrs w v1 l1) (h2 : RStrs w v2 l2) (hs1 : ∀ s ∈ l1, s.size <= maxLen) (hs2 : ∀ s ∈ l2, s.size <= maxLen) (hl : l1.length + l2.length <= 1000000000) :
    Calls Tryz.prog 81 #[v1, v2] w fun e w' => ∃ v, e = .returned v /\ RStrs w' v (l1 ++ l2) /\ Ext w w' := by
  have H1 := LH h1; have H2 := LH h2; have HS : Hid (∀ s ∈ l1 ++ l2, s.size <= maxLen) := fun s h => (List.mem_append.1 h).elim (hs1 s) (hs2 s)
  clear h1 h2 hs1 hs2
  have hN : l1.length <= 1000000000 := by omega
  go_enter Tryz.func81, Tryz.ntmps81
  go_wp2_with (at_builtin; refine app_strs rfl _ _ rfl w.heap.size _ [] rfl own_nil v1 l1 rfl H1.out (by simp; omega) (Nat.le_refl _) ?_)
  intro v' w2 ho hg
  have HO := LH ho
  have hE : Ext w w2 := ⟨hg.os, hg.tape, hg.output, hg.size, fun k hk => hg.block k hk (by simp [Value.ownBlock])⟩
  have HE := LH hE
  clear ho hg hE
  go_wp2_with (at_builtin; refine app_strs rfl _ _ rfl w.heap.size v' l1 rfl HO.out v2 l2 rfl (H2.out.below HE.out) hl HE.out.size ?_)
  intro v'' w3 ho hg
  have HO3 := LH ho
  have HE3 := LH (HE.out.trans (grown_ext hg HO.out HE.out.size))
  clear ho hg
  go_wp2
  go_ret
  have h3 := HO3.out
  rw [← List.length_append, ← List.map_append] at h3
  exact ⟨v'', rfl, own_strs h3 HS.out, HE3.out⟩
end Go.Proofs.YtkdglplfcpindaaGreatDoor

namespace Go.Proofs.YtkdglplfcpindaaGreatDoor
open Go.RowKit
theorem Tryz.info43 : (Tryz.prog.info? 50).map (fun i => (i.zero, i.size, i.bytes)) = some (some (.agg #[.int .i64 0, .int .i64 0, .string ⟨#[]⟩, .int .i64 0, .slice none 0 0, .slice none 0 0]), 6, 88) := by kernel_rfl
theorem app_terms {w : World} {ops : Array Oper} {rest : List Oper} {o : Oper} {a : Act} {Q : Exit -> Act -> World -> Prop} (hgd : o.guard = none) (s x : Operand)
    (ho : o.op = .call { callee := .builtin .append, args := #[s, x], argTypes := #[47, 47] }) (B : Nat) (v : Value) (L1 : List Trm) (hs : a.eval s = v) (hown : w.ownsRow B 50 6 v L1.length (cellsT L1))
    (A : Option Addr) (c : Nat) (L2 : List Trm) (hx : a.eval x = .slice A L2.length c) (hsrc : SrcN w A L2.length 6 (cellsT L2)) (h1 : ∀ u ∈ cellsT L2, u.oneCell' = true) (hn : L1.length + L2.length <= 1000000000) (hB : B <= w.heap.size)
    (h : ∀ v' w', w'.ownsRow B 50 6 v' (L1 ++ L2).length (cellsT (L1 ++ L2)) -> w.grownBy w' v.ownBlock -> wpList Tryz.prog ops Q rest (a.put o.dst v') w') : wpList Tryz.prog ops Q (o :: rest) a w := by
  refine wpList_plain hgd fun K hK => app_row (t := 47) (e := 50) (size := 6) (bytes := 88) Tryz.u40 Tryz.info43 (by decide) (by decide) s x ho B v L1.length (cellsT L1) hs hown A L2.length c (cellsT L2) hx hsrc h1 (by unfold maxLen; omega) (by omega) hB (fun v' w' h1 h2 _ => hK _ _ (h v' w' ?_ h2))
  rw [List.length_append, cellsT_append]; exact h1
theorem SrcN.one {w : World} {b : Nat} {x : Trm} (h : w.heap[b]? = some (.cells #[.int .i64 x.1.op, .int .i64 x.1.n, .string x.1.nm, .int .i64 x.1.ty, x.2.1, x.2.2] 50 (0, 0))) : SrcN w (some ⟨b, 0, none⟩) 1 6 (cellsT [x]) := by
  refine .inr ⟨_, rfl, by simp [cellsT, cells1], fun j u hu => ?_⟩
  have hj : j < 6 := by have := (List.getElem?_eq_some_iff.1 hu).1; simpa [cellsT, cells1] using this
  rw [add_at, Nat.zero_add]
  match j, hj with
  | 0, _ => exact cA h 0 hu
  | 1, _ => exact cA h 1 hu
  | 2, _ => exact cA h 2 hu
  | 3, _ => exact cA h 3 hu
  | 4, _ => exact cA h 4 hu
  | 5, _ => exact cA h 5 hu
set_option maxHeartbeats 4000000 in
theorem Children_any (k : Nat) (t : Tm) (va vc : Value) (w : World) (ht : RT w (k + 1) t va vc) (hn : nT t <= 1000000) :
    Calls Tryz.prog 82 #[tV t va vc] w fun e w' => ∃ v, e = .returned v /\ RTms w' k v (chT t) /\ Ext w w' := by
  have HT := LH ht
  have HN : Hid (t.args.length + t.cls.length <= 1000000) := by
    show _ <= _
    have h1 := nT_kids t
    have h2 := nL_len (chT t)
    have h3 : (chT t).length = t.args.length + t.cls.length := by unfold chT; rw [List.length_append, List.length_map]
    omega
  obtain ⟨_, ⟨Aa, ca, rfl, hca, hma⟩, ⟨Bb, cb, rfl, hcb, hmb⟩⟩ := ht.form
  obtain ⟨L0, hl0, hr0, hs0⟩ := ht.rowA
  have hlen0 : L0.length = t.args.length := by rw [← hl0, List.length_map]
  rw [← hlen0] at hs0
  have HS0 := LH hs0; have HL0 := LH hl0; have HR0 := LH hr0; have HLN := LH hlen0
  clear ht hn hl0 hr0 hs0 hlen0
  unfold maxLen at hma hmb
  have HE := LH (Ext.al w (.cells #[.int .i64 t.op, .int .i64 t.n, .string t.nm, .int .i64 t.ty, .slice Aa t.args.length ca, .slice Bb t.cls.length cb] 50))
  have HB := LH (hNw w (.cells #[.int .i64 t.op, .int .i64 t.n, .string t.nm, .int .i64 t.ty, .slice Aa t.args.length ca, .slice Bb t.cls.length cb] 50))
  have HS1 : Hid (SrcN (w.alloc (.cells #[.int .i64 t.op, .int .i64 t.n, .string t.nm, .int .i64 t.ty, .slice Aa t.args.length ca, .slice Bb t.cls.length cb] 50)) Aa L0.length 6 (cellsT L0)) := by
    rcases HS0.out with h | ⟨ad, h1, h2, h3⟩
    . exact .inl h
    . exact .inr ⟨ad, h1, h2, fun j u hu => HE.out.keep (h3 j u hu)⟩
  obtain ⟨x0, x1, x2, x3, x4, x5⟩ := cells6 HB.out
  have hnil : World.ownsRow (w.alloc (.cells #[.int .i64 t.op, .int .i64 t.n, .string t.nm, .int .i64 t.ty, .slice Aa t.args.length ca, .slice Bb t.cls.length cb] 50)) w.heap.size 50 6 (.slice none 0 0) ([] : List Trm).length (cellsT []) := ⟨by simp [cellsT], .inl ⟨rfl, rfl⟩⟩
  have HNIL := LH hnil
  clear hnil
  go_enter Tryz.func82, Tryz.ntmps82
  go_wp2_with (at_builtin; refine app_terms rfl _ _ rfl w.heap.size _ [] rfl HNIL.out Aa ca L0 (by rw [HLN.out]; rfl) HS1.out (cellsT_one (k := k) L0 HR0.out) (by have := HN.out; have := HLN.out; simp; omega) HE.out.size ?_)
  intro v2 w2 ho hg
  have hX : Ext _ w2 := ⟨hg.os, hg.tape, hg.output, hg.size, fun k hk => hg.block k hk (by simp [Value.ownBlock])⟩
  have HX2 := LH (HE.out.tr hX)
  have HO2 : Hid (w2.ownsRow w.heap.size 50 6 v2 L0.length (cellsT L0)) := ho
  have b2 := (hX.block _ (hLt HB.out)).trans HB.out
  clear ho hg hX x0 x1 x2 x3 x4 x5 HS1 HNIL
  obtain ⟨x0, x1, x2, x3, x4, x5⟩ := cells6 b2
  clear b2
  go_wp2
  clear x0 x1 x2 x3 x4 x5
  go_loopw [3, 12] (fun s i wr => ∃ (j : Nat) (L : List Trm), j <= t.cls.length /\ i = .int .i64 j /\ wr.ownsRow w.heap.size 50 6 s L.length (cellsT L) /\ (∀ x ∈ L, RT w k x.1 x.2.1 x.2.2) /\ L.map (·.1) = t.args ++ (t.cls.take j).map (·.2) /\ Ext w wr) (fun _ i _ => t.cls.length - (intOf i).toNat)
  case atStart => exact ⟨0, L0, Nat.zero_le _, rfl, HO2.out, HR0.out, by rw [HL0.out]; simp, HX2.out⟩
  case round =>
    obtain ⟨j, L, hj, rfl, ho, hr, hl, hb⟩ := hrel
    have HO := LH ho; have HR := LH hr; have HL := LH hl; have HX := LH hb
    have HLEN : Hid (L.length = t.args.length + j) := by
      show _ = _
      have := congrArg List.length hl
      simp at this; omega
    clear ho hr hl hb
    by_cases hlt : j < t.cls.length
    . obtain ⟨b', o', vn', xa', xc', rfl, hbl', yn', ys', y6, yt'⟩ := HT.out.clause hlt
      have HTK : Hid ((t.cls.take (j + 1)).map (·.2) = (t.cls.take j).map (·.2) ++ [t.cls[j].2]) := by show _ = _; rw [List.take_succ_eq_append_getElem hlt, List.map_append]; rfl
      generalize t.cls[j] = cl at *
      obtain ⟨ns, y⟩ := cl
      dsimp only at *
      have HRY := LH yt'
      obtain ⟨-, ⟨Ax, cx, rfl, -, -⟩, ⟨Bx, dx, rfl, -, -⟩⟩ := yt'.form
      obtain ⟨An, cn, rfl, -, -⟩ := ys'.form
      have y6 := y6.below HX.out
      have c0 := HX.out.keep yn'
      have c1 := y6.c0
      have c2 := y6.c1
      have c3 := y6.c2
      have c4 := y6.c3
      have c5 := y6.c4
      have c6 := y6.c5
      clear y6 yt' yn' ys'
      have HE8 := LH (Ext.al2 wr (.cells #[.slice An ns.length cn, .int .i64 y.op, .int .i64 y.n, .string y.nm, .int .i64 y.ty, .slice Ax y.args.length cx, .slice Bx y.cls.length dx] 123) (.cells #[.int .i64 y.op, .int .i64 y.n, .string y.nm, .int .i64 y.ty, .slice Ax y.args.length cx, .slice Bx y.cls.length dx] 50))
      have hn8 := hNw (wr.alloc (.cells #[.slice An ns.length cn, .int .i64 y.op, .int .i64 y.n, .string y.nm, .int .i64 y.ty, .slice Ax y.args.length cx, .slice Bx y.cls.length dx] 123)) (.cells #[.int .i64 y.op, .int .i64 y.n, .string y.nm, .int .i64 y.ty, .slice Ax y.args.length cx, .slice Bx y.cls.length dx] 50)
      rw [World.size_alloc] at hn8
      have HSO : Hid (SrcN _ (some ⟨wr.heap.size + 1, 0, none⟩) 1 6 (cellsT [(y, .slice Ax y.args.length cx, .slice Bx y.cls.length dx)])) := SrcN.one (x := (y, .slice Ax y.args.length cx, .slice Bx y.cls.length dx)) hn8
      clear hn8
      go_wp2_with (at_builtin; refine app_terms rfl _ _ rfl w.heap.size _ L rfl (oB HO.out HE8.out) (some ⟨wr.heap.size + 1, 0, none⟩) 1 [(y, .slice Ax y.args.length cx, .slice Bx y.cls.length dx)] rfl HSO.out (cellsT_one (k := k) (w := w) [(y, .slice Ax y.args.length cx, .slice Bx y.cls.length dx)] (fun x hx => by rw [List.mem_singleton.1 hx]; exact HRY.out)) (by have := HN.out; have := HLEN.out; simp; omega) (Nat.le_trans HX.out.size HE8.out.size) ?_)
      intro v9 w9 ho9 hg9
      have HX9 : Hid (Ext w w9) := (HX.out.tr HE8.out).trans (grown_ext' hg9 (oB HO.out HE8.out) (Nat.le_trans HX.out.size HE8.out.size))
      have HO9 : Hid (w9.ownsRow w.heap.size 50 6 v9 (L ++ [((y, .slice Ax y.args.length cx, .slice Bx y.cls.length dx) : Trm)]).length (cellsT (L ++ [((y, .slice Ax y.args.length cx, .slice Bx y.cls.length dx) : Trm)]))) := by show World.ownsRow _ _ _ _ _ _ _; rw [List.length_append]; exact ho9
      have HR9 : Hid (∀ x ∈ L ++ [((y, .slice Ax y.args.length cx, .slice Bx y.cls.length dx) : Trm)], RT w k x.1 x.2.1 x.2.2) := fun x hx => (List.mem_append.1 hx).elim (HR.out x) (fun hx => by rw [List.mem_singleton.1 hx]; exact HRY.out)
      have HL9 : Hid ((L ++ [((y, .slice Ax y.args.length cx, .slice Bx y.cls.length dx) : Trm)]).map (·.1) = t.args ++ (t.cls.take (j + 1)).map (·.2)) := by show _ = _; rw [List.map_append, HL.out, HTK.out, List.append_assoc]; rfl
      clear ho9 hg9 c0 c1 c2 c3 c4 c5 c6
      go_wp2
      exact ⟨⟨j + 1, L ++ [((y, .slice Ax y.args.length cx, .slice Bx y.cls.length dx) : Trm)], by omega, by go_num, HO9.out, HR9.out, HL9.out, HX9.out⟩, by simp [intOf]; omega⟩
    . have HV : Hid (RTms wr k u3 (chT t)) := by
        show RTms wr k u3 (chT t)
        have h1 := own_RTms HO.out (fun x hx => (HR.out x hx).below HX.out)
        rw [HL.out, show j = t.cls.length by omega, List.take_length] at h1
        exact h1
      go_wp2
      go_ret
      exact ⟨_, rfl, HV.out, HX.out⟩
set_option maxHeartbeats 2000000 in
theorem Depth_any : ∀ (k : Nat) (t : Tm) (va vc : Value) (w : World), RT w k t va vc -> nT t <= 1000000 →
    Calls Tryz.prog 79 #[tV t va vc] w fun e w' => e = .returned (.int .i64 (dT t)) /\ dT t <= nT t /\ Ext w w' := by
  intro k
  induction k with
  | zero => intro t va vc w ht; exact ht.elim
  | succ k ih =>
    intro t va vc w ht hn
    have HT := LH ht; have HIH := LH ih; have HN := LH hn
    obtain ⟨_, ⟨Aa, ca, rfl, -, -⟩, ⟨Bb, cb, rfl, -, -⟩⟩ := ht.form
    clear ht ih hn
    have HK := LH (nT_kids t)
    have HD := LH (dT_kids t)
    have HLL := LH (nL_len (chT t))
    have HE := LH (Ext.al w (.cells #[.int .i64 t.op, .int .i64 t.n, .string t.nm, .int .i64 t.ty, .slice Aa t.args.length ca, .slice Bb t.cls.length cb] 50))
    go_enter Tryz.func79, Tryz.ntmps79
    go_wp2_with fail
    generalize w.alloc _ = w1 at *
    (with_reducible refine (Children_any k t _ _ w1 (HT.out.below HE.out) HN.out).mono ?_)
    rintro e w2 ⟨v, rfl, hv, hb⟩
    have HV := LH hv
    have HX := LH (HE.out.tr hb)
    obtain ⟨A, c, rfl, hc, hm⟩ := hv.form
    unfold maxLen at hm
    clear hv hb
    generalize hch : chT t = ch at *
    go_wp2
    go_loopw [3, 9] (fun s i wr => ∃ j : Nat, j <= ch.length /\ i = .int .i64 j /\ s = .int .i64 (dL (ch.take j)) /\ (dL (ch.take j) <= nL (ch.take j)) /\ Ext w2 wr) (fun _ i _ => ch.length - (intOf i).toNat)
    case atStart => exact ⟨0, Nat.zero_le _, rfl, rfl, by simp [dL, nL], Ext.rf _⟩
    case round =>
      obtain ⟨j, hj, rfl, rfl, hle, hb⟩ := hrel
      have HLE := LH hle
      have HX2 := LH hb
      clear hle hb
      by_cases hlt : j < ch.length
      . obtain ⟨b, o, xa, xc, rfl, hbl, y6, yt⟩ := HV.out.at_ hlt
        have HDT := LH (dL_take hlt)
        have HNT := LH (nL_take hlt)
        have HNL := LH (nL_take_le ch (j + 1))
        have HD0 := LH (dL_nonneg (ch.take j))
        have HDP := LH (dT_pos ch[j])
        have y6 := y6.below HX2.out
        have c0 := y6.c0
        have c1 := y6.c1
        have c2 := y6.c2
        have c3 := y6.c3
        have c4 := y6.c4
        have c5 := y6.c5
        have HKX := LH (yt.below HX2.out)
        obtain ⟨-, ⟨Ax, cx, rfl, -, -⟩, ⟨Bx, dx, rfl, -, -⟩⟩ := yt.form
        generalize ch[j] = x at *
        clear y6 yt
        have HE8 := LH (Ext.al wr (.cells #[.int .i64 x.op, .int .i64 x.n, .string x.nm, .int .i64 x.ty, .slice Ax x.args.length cx, .slice Bx x.cls.length dx] 50))
        go_wp2_with fail
        (with_reducible refine (HIH.out x _ _ _ (HKX.out.below HE8.out) (by have := HNT.out; have := HNL.out; have := HK.out; have := HN.out; omega)).mono ?_)
        rintro e w5 ⟨rfl, hdn, hb⟩
        have HX5 := LH (HX2.out.tr (HE8.out.tr hb))
        have HM : Hid (max (dL (ch.take j)) (dT x) = dL (ch.take (j + 1)) /\ dL (ch.take (j + 1)) <= nL (ch.take (j + 1))) := by
          show _ /\ _
          have := HDT.out; have := HNT.out; have := HLE.out; have := HD0.out; have := HDP.out
          constructor <;> omega
        clear hb hdn
        go_wp2
        exact ⟨⟨j + 1, by omega, by go_num, by rw [← HM.out.1], HM.out.2, HX5.out⟩, by simp [intOf]; omega⟩
      . have HJ : Hid (ch.take j = ch) := by show _ = _; rw [List.take_of_length_le (by omega)]
        have HR : Hid (0 <= dL ch /\ dL ch <= nL ch /\ nL ch <= 1000000) := by show _ /\ _; have := HLE.out; rw [HJ.out] at this; have := dL_nonneg ch; have := HK.out; have := HN.out; omega
        rw [HJ.out]
        have h1 := HR.out
        generalize dL ch = d at *
        go_wp2
        go_ret
        exact ⟨ret_int (by rw [HD.out]; omega), by rw [HD.out, HK.out]; omega, HX.out.tr HX2.out⟩
set_option maxHeartbeats 2000000 in
theorem Nodes39_any : ∀ (k : Nat) (t : Tm) (va vc : Value) (w : World), RT w k t va vc -> nT t <= 1000000 →
    Calls Tryz.prog 53 #[tV t va vc] w fun e w' => e = .returned (.int .i64 (nT t)) /\ Ext w w' := by
  intro k
  induction k with
  | zero => intro t va vc w ht; exact ht.elim
  | succ k ih =>
    intro t va vc w ht hn
    have HT := LH ht; have HIH := LH ih; have HN := LH hn
    obtain ⟨_, ⟨Aa, ca, rfl, -, -⟩, ⟨Bb, cb, rfl, -, -⟩⟩ := ht.form
    clear ht ih hn
    have HK := LH (nT_kids t)
    have HLL := LH (nL_len (chT t))
    have HE := LH (Ext.al w (.cells #[.int .i64 t.op, .int .i64 t.n, .string t.nm, .int .i64 t.ty, .slice Aa t.args.length ca, .slice Bb t.cls.length cb] 50))
    go_enter Tryz.func53, Tryz.ntmps53
    go_wp2_with fail
    generalize w.alloc _ = w1 at *
    (with_reducible refine (Children_any k t _ _ w1 (HT.out.below HE.out) HN.out).mono ?_)
    rintro e w2 ⟨v, rfl, hv, hb⟩
    have HV := LH hv
    have HX := LH (HE.out.tr hb)
    obtain ⟨A, c, rfl, hc, hm⟩ := hv.form
    unfold maxLen at hm
    clear hv hb
    generalize hch : chT t = ch at *
    go_wp2
    go_loopw [3, 9] (fun s i wr => ∃ j : Nat, j <= ch.length /\ i = .int .i64 j /\ s = .int .i64 ((1 + nL (ch.take j) : Nat) : Int) /\ Ext w2 wr) (fun _ i _ => ch.length - (intOf i).toNat)
    case atStart => exact ⟨0, Nat.zero_le _, rfl, by simp [nL], Ext.rf _⟩
    case round =>
      obtain ⟨j, hj, rfl, rfl, hb⟩ := hrel
      have HX2 := LH hb
      clear hb
      have HNLJ := LH (nL_take_le ch j)
      by_cases hlt : j < ch.length
      . obtain ⟨b, o, xa, xc, rfl, hbl, y6, yt⟩ := HV.out.at_ hlt
        have HNT := LH (nL_take hlt)
        have HNL := LH (nL_take_le ch (j + 1))
        have y6 := y6.below HX2.out
        have c0 := y6.c0
        have c1 := y6.c1
        have c2 := y6.c2
        have c3 := y6.c3
        have c4 := y6.c4
        have c5 := y6.c5
        have HKX := LH (yt.below HX2.out)
        obtain ⟨-, ⟨Ax, cx, rfl, -, -⟩, ⟨Bx, dx, rfl, -, -⟩⟩ := yt.form
        generalize ch[j] = x at *
        clear y6 yt
        have HE8 := LH (Ext.al wr (.cells #[.int .i64 x.op, .int .i64 x.n, .string x.nm, .int .i64 x.ty, .slice Ax x.args.length cx, .slice Bx x.cls.length dx] 50))
        go_wp2_with fail
        (with_reducible refine (HIH.out x _ _ _ (HKX.out.below HE8.out) (by have := HNT.out; have := HNL.out; have := HK.out; have := HN.out; omega)).mono ?_)
        rintro e w5 ⟨rfl, hb⟩
        have HX5 := LH (HX2.out.tr (HE8.out.tr hb))
        have h1 : 1 + nL (ch.take j) <= 1000000 := by have := HNLJ.out; have := HK.out; have := HN.out; omega
        have h2 : nT x <= 1000000 := by have := HNT.out; have := HNL.out; have := HK.out; have := HN.out; omega
        have HM : Hid (1 + nL (ch.take j) + nT x = 1 + nL (ch.take (j + 1))) := by show _ = _; rw [HNT.out]; omega
        clear hb
        generalize 1 + nL (ch.take j) = m1 at *
        generalize nT x = m2 at *
        go_wp2
        exact ⟨⟨j + 1, by omega, by go_num, by rw [← HM.out]; simp, HX5.out⟩, by simp [intOf]; omega⟩
      . have HJ : Hid (ch.take j = ch) := by show _ = _; rw [List.take_of_length_le (by omega)]
        rw [HJ.out, ← HK.out]
        go_wp2
        go_ret
        exact ⟨rfl, HX.out.tr HX2.out⟩
set_option maxHeartbeats 1000000 in
theorem RSmall_any (k : Nat) (t : Tm) (va vc : Value) (w : World) (ht : RT w k t va vc) :
    Calls Tryz.prog 50 #[tV t va vc] w fun e w' => e = .returned (.bool (sizeR t).2) /\ Ext w w' := by
  have HT := LH ht
  obtain ⟨_, ⟨Aa, ca, rfl, -, -⟩, ⟨Bb, cb, rfl, -, -⟩⟩ := ht.form
  clear ht
  have HE := LH (Ext.al w (.cells #[.int .i64 t.op, .int .i64 t.n, .string t.nm, .int .i64 t.ty, .slice Aa t.args.length ca, .slice Bb t.cls.length cb] 50))
  have HB := LH (hNw w (.cells #[.int .i64 t.op, .int .i64 t.n, .string t.nm, .int .i64 t.ty, .slice Aa t.args.length ca, .slice Bb t.cls.length cb] 50))
  have HS := LH (size_small t)
  generalize (sizeR t).2 = rr at *
  go_enter Tryz.func50, Tryz.ntmps50
  go_wp2_with fail
  generalize w.alloc _ = w1 at *
  (with_reducible refine (FitsX_any k t _ _ 600 _ (HT.out.below HE.out) (by omega) (by omega)).mono ?_)
  rintro e w2 ⟨rfl, hb⟩
  have HX2 := LH (HE.out.tr hb)
  have b2 := (hb.block _ (hLt HB.out)).trans HB.out
  obtain ⟨x0, x1, x2, x3, x4, x5⟩ := cells6 b2
  clear hb b2
  by_cases hq : nT t <= 600
  . have HQ := LH hq
    rw [show decide ((nT t : Int) <= 600) = true by rw [decide_eq_true_eq]; omega]
    have HS2 : Hid (rr = decide (dT t <= 24)) := by show _ = _; rw [HS.out, decide_eq_true hq]; rfl
    clear hq HS
    go_wp2_with fail
    (with_reducible refine (Depth_any k t _ _ _ (HT.out.below HX2.out) (by have := HQ.out; omega)).mono ?_)
    rintro e w3 ⟨rfl, -, hb⟩
    have HX3 := LH (HX2.out.tr hb)
    clear hb
    generalize dT t = d at *
    go_wp2
    go_ret
    exact ⟨rB (by rw [HS2.out]), HX3.out⟩
  . rw [show decide ((nT t : Int) <= 600) = false by rw [decide_eq_false_iff_not]; omega]
    have HS2 : Hid (rr = false) := by show _ = _; rw [HS.out, decide_eq_false hq]; rfl
    clear hq HS
    go_wp2
    go_ret
    exact ⟨rB (by rw [HS2.out]), HX2.out⟩
end Go.Proofs.YtkdglplfcpindaaGreatDoor

namespace Go.Proofs.YtkdglplfcpindaaGreatDoor
open Go.RowKit
def codB (l : List Decl) (t : Int) : Bool := if 1 <= t then (l[(t - 1).toNat]?.map Decl.codata).getD false else false
theorem codB_in {l : List Decl} {t : Nat} (h : t < l.length) : codB l (t + 1) = (l[t]).codata := by
  unfold codB
  have e : ((t : Int) + 1 - 1).toNat = t := by omega
  rw [if_pos (by omega), e, List.getElem?_eq_getElem h]; rfl
theorem codB_out {l : List Decl} {t : Int} (h : ¬ (1 <= t /\ t <= l.length)) : codB l t = false := by
  unfold codB
  split
  . rw [List.getElem?_eq_none (by omega)]; rfl
  . rfl
theorem RCodata_any (v : Value) (l : List Decl) (t : Int) (w : World) (h : RDecls w v l) :
    Calls Tryz.prog 118 #[v, .int .i64 t] w fun e w' => e = .returned (.bool (codB l t)) /\ w = w' := by
  have HR := LH h
  obtain ⟨A, c, rfl, hc, hm⟩ := h.form
  clear h
  unfold maxLen at hm
  by_cases hr : 1 <= t /\ t <= l.length
  . obtain ⟨u, hu⟩ : ∃ u : Nat, t = u + 1 := ⟨(t - 1).toNat, by omega⟩
    subst hu
    have hul : u < l.length := by omega
    clear hr
    have HI := LH (codB_in hul)
    obtain ⟨b, o, vx, rfl, hbl, h0, h1, h2, h3, h4⟩ := HR.out.at_ hul
    clear h3
    generalize l[u] = d at *
    go_enter Tryz.func118, Tryz.ntmps118
    go_wp2
    go_ret
    exact ⟨rB (by rw [HI.out]), rfl⟩
  . have HI := LH (codB_out hr)
    by_cases h1 : 1 <= t
    all_goals
      have hn1 : t < 1 ∨ (l.length : Int) < t := by omega
      clear hr
      go_enter Tryz.func118, Tryz.ntmps118
      go_wp2
      go_ret
      exact ⟨rB HI.out.symm, rfl⟩
def hasI (l : List Decl) (t n : Int) : Bool := if 1 <= t /\ 0 <= n then decide (n < ((l[(t - 1).toNat]?.map fun d => d.xtors.length).getD 0 : Nat)) else false
theorem hasI_in {l : List Decl} {t : Nat} {n : Int} (h : t < l.length) (h0 : 0 <= n) : hasI l (t + 1) n = decide (n < ((l[t]).xtors.length : Int)) := by
  unfold hasI
  have e : ((t : Int) + 1 - 1).toNat = t := by omega
  rw [if_pos (by omega), e, List.getElem?_eq_getElem h]; rfl
theorem hasI_neg {l : List Decl} {t n : Int} (h : ¬ 0 <= n) : hasI l t n = false := by
  unfold hasI
  rw [if_neg (by omega)]
theorem hasI_out {l : List Decl} {t n : Int} (h : ¬ (1 <= t /\ t <= l.length)) : hasI l t n = false := by
  unfold hasI
  split
  . rw [List.getElem?_eq_none (by omega)]; simp; omega
  . rfl
theorem RHas_any (v : Value) (l : List Decl) (t n : Int) (w : World) (h : RDecls w v l) :
    Calls Tryz.prog 144 #[v, .int .i64 t, .int .i64 n] w fun e w' => e = .returned (.bool (hasI l t n)) /\ w = w' := by
  have HR := LH h
  obtain ⟨A, c, rfl, hc, hm⟩ := h.form
  clear h
  unfold maxLen at hm
  by_cases hr : 1 <= t /\ t <= l.length
  . obtain ⟨u, hu⟩ : ∃ u : Nat, t = u + 1 := ⟨(t - 1).toNat, by omega⟩
    subst hu
    have hul : u < l.length := by omega
    clear hr
    obtain ⟨b, o, vx, rfl, hbl, h0, h1, h2, h3, h4⟩ := HR.out.at_ hul
    obtain ⟨A2, c2, rfl, hc2, hm2⟩ := h3.form
    unfold maxLen at hm2
    clear h3
    by_cases hn : 0 <= n
    . have HI := LH (hasI_in hul hn)
      generalize l[u] = d at *
      go_enter Tryz.func144, Tryz.ntmps144
      go_wp2
      go_ret
      exact ⟨rB (by rw [HI.out]), rfl⟩
    . have HI := LH (hasI_neg (l := l) (t := u + 1) hn)
      generalize l[u] = d at *
      go_enter Tryz.func144, Tryz.ntmps144
      go_wp2
      go_ret
      exact ⟨rB (by rw [HI.out]), rfl⟩
  . have HI := LH (hasI_out (n := n) hr)
    by_cases h1 : 1 <= t
    all_goals
      have hn1 : t < 1 ∨ (l.length : Int) < t := by omega
      clear hr
      go_enter Tryz.func144, Tryz.ntmps144
      go_wp2
      go_ret
      exact ⟨rB HI.out.symm, rfl⟩
end Go.Proofs.YtkdglplfcpindaaGreatDoor

namespace Go.Proofs.YtkdglplfcpindaaGreatDoor
open Go.RowKit
theorem codB_decl (P : Pg) (t : Int) : codB P.decls t = isDeclB P t true := by
  unfold isDeclB
  by_cases h : 1 <= t /\ t <= P.decls.length
  . obtain ⟨u, rfl⟩ : ∃ u : Nat, t = u + 1 := ⟨(t - 1).toNat, by omega⟩
    have hu : u < P.decls.length := by omega
    rw [codB_in hu]
    simp [declAt, hu]; omega
  . rw [codB_out h]
    symm
    by_cases h1 : 1 <= t
    . have h2 : ¬ t <= P.decls.length := fun h2 => h ⟨h1, h2⟩
      simp [h2]
    . simp [h1]
theorem data_decl (P : Pg) {u : Nat} (hu : u < P.decls.length) : isDeclB P (u + 1) false = !(P.decls[u]).codata := by
  unfold isDeclB
  simp [declAt, hu]; omega
theorem data_out (P : Pg) {t : Int} (h : ¬ (1 <= t /\ t <= P.decls.length)) : isDeclB P t false = false := by
  unfold isDeclB
  by_cases h1 : 1 <= t
  . have h2 : ¬ t <= P.decls.length := fun h2 => h ⟨h1, h2⟩
    simp [h2]
  . simp [h1]
theorem RData_any (P : Pg) (v : Value) (t : Int) (w : World) (h : RDecls w v P.decls) :
    Calls Tryz.prog 143 #[v, .int .i64 t] w fun e w' => e = .returned (.bool (isDeclB P t false)) /\ w = w' := by
  have HR := LH h
  obtain ⟨A, c, rfl, hc, hm⟩ := h.form
  clear h
  unfold maxLen at hm
  by_cases hr : 1 <= t /\ t <= P.decls.length
  . obtain ⟨u, hu⟩ : ∃ u : Nat, t = u + 1 := ⟨(t - 1).toNat, by omega⟩
    subst hu
    have hul : u < P.decls.length := by omega
    clear hr
    have HI := LH (data_decl P hul)
    obtain ⟨b, o, vx, rfl, hbl, h0, h1, h2, h3, h4⟩ := HR.out.at_ hul
    clear h3
    generalize P.decls[u] = d at *
    go_enter Tryz.func143, Tryz.ntmps143
    go_wp2
    go_ret
    exact ⟨rB (by rw [HI.out]), rfl⟩
  . have HI := LH (data_out P hr)
    by_cases h1 : 1 <= t
    all_goals
      have hn1 : t < 1 ∨ (P.decls.length : Int) < t := by omega
      clear hr
      go_enter Tryz.func143, Tryz.ntmps143
      go_wp2
      go_ret
      exact ⟨rB HI.out.symm, rfl⟩
theorem distF_next (l : List Str) (s : Str) (r : List Str) : distF (fun x => (x.toList == s.toList) || hasS l x) r = distF (hasS (l ++ [s])) r := by
  congr 1
  funext x
  rw [hasS_append, Bool.or_comm]
  simp [hasS]
theorem distB_has (l : List Str) : distB l = distF (hasS []) l := rfl
set_option maxHeartbeats 2000000 in
theorem names_any (v : Value) (l : List Str) (n : Int) (w : World) (h : RStrs w v l) :
    Calls Tryz.prog 78 #[v, .int .i64 n] w fun e w' => e = .returned (.bool (distB l && decide ((l.length : Int) = n))) /\ Ext w w' := by
  have H := LH h
  obtain ⟨A, c, rfl, hc, hm⟩ := h.form
  clear h
  unfold maxLen at hm
  generalize hrr : (distB l && decide ((l.length : Int) = n)) = rr
  have HR : Hid (rr = (distB l && decide ((l.length : Int) = n))) := hrr.symm
  clear hrr
  go_enter Tryz.func78, Tryz.ntmps78
  go_wp2
  go_loopw [9] (fun i wr => ∃ j : Nat, j <= l.length /\ i = .int .i64 j /\ distB l = distF (hasS (l.take j)) (l.drop j) /\ Ext w wr) (fun i _ => l.length - (intOf i).toNat)
  case atStart => exact ⟨0, Nat.zero_le _, rfl, by simp [distB_has], Ext.rf _⟩
  case round =>
    obtain ⟨j, hj, rfl, hd, hb⟩ := hrel
    have HD := LH hd
    have HX := LH hb
    clear hd hb
    by_cases hlt : j < l.length
    . have HTK := LH (H.out.take hj)
      obtain ⟨b, o, rfl, hbl, y0, hs⟩ := H.out.at_ hlt
      have y0 := HX.out.keep y0
      have HD2 : Hid (distB l = (nameB l[j] && !hasS (l.take j) l[j] && distF (hasS (l.take (j + 1))) (l.drop (j + 1)))) := by
        show _ = _
        rw [HD.out, List.drop_eq_getElem_cons hlt, distF, distF_next, List.take_succ_eq_append_getElem hlt]
      have HS := LH hs
      generalize l[j] = s at *
      clear hs
      go_wp2_with fail
      (with_reducible refine (Name_any s _ HS.out).mono ?_)
      rintro e w2 ⟨rfl, hb⟩
      have HX2 : Hid (Ext w w2) := HX.out.tr hb
      clear hb y0
      cases hq : nameB s
      . have HQ := LH hq
        clear hq
        go_wp2
        go_ret
        exact ⟨rB (by rw [HR.out, HD2.out, HQ.out]; rfl), HX2.out⟩
      . have HQ := LH hq
        clear hq
        go_wp2_with fail
        (with_reducible refine (In_any _ (l.take j) s w2 (HTK.out.below HX2.out)).mono ?_)
        rintro e w3 ⟨rfl, rfl⟩
        cases hq2 : hasS (l.take j) s
        . have HQ2 := LH hq2
          clear hq2
          go_wp2
          exact ⟨⟨j + 1, by omega, by go_num, by rw [HD2.out, HQ.out, HQ2.out]; rfl, HX2.out⟩, by simp [intOf]; omega⟩
        . have HQ2 := LH hq2
          clear hq2
          go_wp2
          go_ret
          exact ⟨rB (by rw [HR.out, HD2.out, HQ.out, HQ2.out]; rfl), HX2.out⟩
    . have HD2 : Hid (distB l = true) := by
        show _ = _
        rw [HD.out, List.drop_eq_nil_of_le (by omega)]; rfl
      go_wp2
      go_ret
      exact ⟨rB (by rw [HR.out, HD2.out, Bool.true_and]; exact Bool.eq_iff_iff.2 (by simp)), HX.out⟩
theorem prodC_step {l : List Arg} {j : Nat} (h : j < l.length) : prodC (l.take (j + 1)) = prodC (l.take j) + (if (l[j]).co then 0 else 1) := by
  unfold prodC
  rw [List.take_succ_eq_append_getElem h, List.filter_append, List.length_append]
  cases h2 : (l[j]).co <;> simp [h2]
theorem prodC_le (l : List Arg) (j : Nat) : prodC (l.take j) <= j := by
  unfold prodC
  exact Nat.le_trans (List.length_filter_le _ _) (by simp; omega)
set_option maxHeartbeats 2000000 in
theorem Producers_any (nm : Str) (va : Value) (l : List Arg) (w : World) (h : RArgs w va l) (hl : l.length <= 1000) :
    Calls Tryz.prog 117 #[.agg #[.string nm, va]] w fun e w' => (∃ A c, e = .returned (.slice A (prodC l) c)) /\ Ext w w' := by
  have H := LH h
  obtain ⟨A, c, rfl, hc, hm⟩ := h.form
  clear h
  unfold maxLen at hm
  have HE := LH (Ext.al w (.cells #[.string nm, .slice A l.length c] 140))
  have HB := LH (hNw w (.cells #[.string nm, .slice A l.length c] 140))
  have c1 := cA HB.out 1
  go_enter Tryz.func117, Tryz.ntmps117
  go_wp2
  generalize w.alloc _ = w1 at *
  clear c1
  go_loopw [3, 9] (fun s i wr => ∃ (j : Nat) (xs : List Value), j <= l.length /\ i = .int .i64 j /\ wr.ownsRow w.heap.size 3 1 s (prodC (l.take j)) xs /\ Ext w wr) (fun _ i _ => l.length - (intOf i).toNat)
  case atStart => exact ⟨0, [], Nat.zero_le _, rfl, ⟨by simp [prodC], .inl ⟨rfl, by simp [prodC]⟩⟩, HE.out⟩
  case round =>
    obtain ⟨j, xs, hj, rfl, ho, hb⟩ := hrel
    have HO := LH ho
    have HX := LH hb
    clear ho hb
    by_cases hlt : j < l.length
    . obtain ⟨b, o, rfl, hbl, y0, y1⟩ := H.out.at_ hlt
      have y0 := HX.out.keep y0
      have y1 := HX.out.keep y1
      have HPS := LH (prodC_step hlt)
      have HPL := LH (prodC_le l j)
      generalize l[j] = x at *
      obtain ⟨ty, co⟩ := x
      dsimp only at *
      cases co
      . have HE8 := LH (Ext.al2 wr (.cells #[.int .i64 ty, .bool false] 165) (.cells #[.int .i64 ty] 3))
        have hn8 := hNw (wr.alloc (.cells #[.int .i64 ty, .bool false] 165)) (.cells #[.int .i64 ty] 3)
        rw [World.size_alloc] at hn8
        have HSO : Hid (SrcN _ (some ⟨wr.heap.size + 1, 0, none⟩) 1 1 [.int .i64 ty]) := .inr ⟨_, rfl, rfl, fun i u hu => by
          have hi : i < 1 := (List.getElem?_eq_some_iff.1 hu).1
          match i, hi with
          | 0, _ => rw [add_at]; exact cA hn8 0 hu⟩
        clear hn8
        go_wp2_with (at_builtin; refine app_vals Tryz.u57 Tryz.info3 rfl (by decide) (by decide) rfl _ _ rfl w.heap.size _ (prodC (l.take j)) xs rfl (oB HO.out HE8.out) (some ⟨wr.heap.size + 1, 0, none⟩) 1 1 [.int .i64 ty] rfl HSO.out (fun u hu => by rw [List.mem_singleton.1 hu]; rfl) (by have := HPL.out; omega) (Nat.le_trans HX.out.size HE8.out.size) ?_)
        intro v9 w9 ho9 hg9
        have HX9 : Hid (Ext w w9) := (HX.out.tr HE8.out).trans (grown_ext' hg9 (oB HO.out HE8.out) (Nat.le_trans HX.out.size HE8.out.size))
        have HO9 : Hid (w9.ownsRow w.heap.size 3 1 v9 (prodC (l.take (j + 1))) (xs ++ [.int .i64 ty])) := by show World.ownsRow _ _ _ _ _ _ _; rw [HPS.out]; exact ho9
        clear ho9 hg9 y0 y1
        go_wp2
        exact ⟨⟨j + 1, _, by omega, by go_num, HO9.out, HX9.out⟩, by simp [intOf]; omega⟩
      . have HE8 := LH (Ext.al wr (.cells #[.int .i64 ty, .bool true] 165))
        have HO9 : Hid (World.ownsRow (wr.alloc (.cells #[.int .i64 ty, .bool true] 165)) w.heap.size 3 1 u3 (prodC (l.take (j + 1))) xs) := by show World.ownsRow _ _ _ _ _ _ _; rw [HPS.out]; exact oB HO.out HE8.out
        go_wp2
        exact ⟨⟨j + 1, _, by omega, by go_num, HO9.out, HX.out.tr HE8.out⟩, by simp [intOf]; omega⟩
    . have HV : Hid (∃ A' c', u3 = .slice A' (prodC l) c') := by
        show ∃ A' c', u3 = .slice A' (prodC l) c'
        have h1 := HO.out
        rw [List.take_of_length_le (by omega)] at h1
        rcases h1.2 with ⟨e, h0⟩ | ⟨g, cap, cur, e, _⟩
        . exact ⟨none, 0, by rw [e, h0]⟩
        . exact ⟨_, _, e⟩
      obtain ⟨A', c', rfl⟩ := HV.out
      go_wp2
      go_ret
      exact ⟨⟨_, _, rfl⟩, HX.out⟩
set_option maxHeartbeats 2000000 in
theorem Params_any (v : Value) (l : List Prm) (w : World) (h : RPrms w v l) (hl : l.length <= 1000) :
    Calls Tryz.prog 52 #[v] w fun e w' => ∃ v', e = .returned v' /\ RStrs w' v' (l.map Prm.nm) /\ Ext w w' := by
  have H := LH h
  obtain ⟨A, c, rfl, hc, hm⟩ := h.form
  clear h
  unfold maxLen at hm
  go_enter Tryz.func52, Tryz.ntmps52
  go_wp2
  go_loopw [3, 8] (fun s i wr => ∃ (j : Nat), j <= l.length /\ i = .int .i64 j /\ wr.ownsRow w.heap.size 9 1 s (l.take j).length (((l.take j).map Prm.nm).map Value.string) /\ Ext w wr) (fun _ i _ => l.length - (intOf i).toNat)
  case atStart => exact ⟨0, Nat.zero_le _, rfl, ⟨by simp, .inl ⟨rfl, by simp⟩⟩, Ext.rf _⟩
  case round =>
    obtain ⟨j, hj, rfl, ho, hb⟩ := hrel
    have HO := LH ho
    have HX := LH hb
    clear ho hb
    by_cases hlt : j < l.length
    . obtain ⟨b, o, rfl, hbl, y0, y1, hs⟩ := H.out.at_ hlt
      have y0 := HX.out.keep y0
      have y1 := HX.out.keep y1
      have HTK : Hid (l.take (j + 1) = l.take j ++ [l[j]]) := List.take_succ_eq_append_getElem hlt
      generalize l[j] = x at *
      obtain ⟨nm, ty⟩ := x
      dsimp only at *
      have HE8 := LH (Ext.al2 wr (.cells #[.string nm, .int .i64 ty] 69) (.cells #[.string nm] 9))
      have hn8 := hNw (wr.alloc (.cells #[.string nm, .int .i64 ty] 69)) (.cells #[.string nm] 9)
      rw [World.size_alloc] at hn8
      have HSO : Hid (SrcN _ (some ⟨wr.heap.size + 1, 0, none⟩) 1 1 [.string nm]) := .inr ⟨_, rfl, rfl, fun i u hu => by
        have hi : i < 1 := (List.getElem?_eq_some_iff.1 hu).1
        match i, hi with
        | 0, _ => rw [add_at]; exact cA hn8 0 hu⟩
      clear hn8
      go_wp2_with (at_builtin; refine app_vals Tryz.underlying67 Tryz.info9 rfl (by decide) (by decide) rfl _ _ rfl w.heap.size _ (l.take j).length (((l.take j).map Prm.nm).map Value.string) rfl (oB HO.out HE8.out) (some ⟨wr.heap.size + 1, 0, none⟩) 1 1 [.string nm] rfl HSO.out (fun u hu => by rw [List.mem_singleton.1 hu]; rfl) (by simp; omega) (Nat.le_trans HX.out.size HE8.out.size) ?_)
      intro v9 w9 ho9 hg9
      have HX9 : Hid (Ext w w9) := (HX.out.tr HE8.out).trans (grown_ext' hg9 (oB HO.out HE8.out) (Nat.le_trans HX.out.size HE8.out.size))
      have HO9 : Hid (w9.ownsRow w.heap.size 9 1 v9 (l.take (j + 1)).length (((l.take (j + 1)).map Prm.nm).map Value.string)) := by
        show World.ownsRow _ _ _ _ _ _ _
        have e1 : (l.take (j + 1)).length = j + 1 := by simp; omega
        have e2 : ((l.take (j + 1)).map Prm.nm).map Value.string = List.take j (List.map (Value.string ∘ Prm.nm) l) ++ [.string nm] := by rw [HTK.out]; simp [List.map_take]
        rw [e1, e2]; exact ho9
      clear ho9 hg9 y0 y1
      go_wp2
      exact ⟨⟨j + 1, by omega, by go_num, HO9.out, HX9.out⟩, by simp [intOf]; omega⟩
    . have HV : Hid (RStrs wr u3 (l.map Prm.nm)) := by
        have h1 := HO.out
        rw [List.take_of_length_le (by omega)] at h1
        rw [← List.length_map (f := Prm.nm)] at h1
        exact own_strs h1 (fun s hs => by
          obtain ⟨x, hx, rfl⟩ := List.mem_map.1 hs
          obtain ⟨i, hi, rfl⟩ := List.getElem_of_mem hx
          obtain ⟨_, _, _, _, _, _, q⟩ := H.out.at_ hi
          exact q)
      go_wp2
      go_ret
      exact ⟨_, rfl, HV.out, HX.out⟩
end Go.Proofs.YtkdglplfcpindaaGreatDoor
