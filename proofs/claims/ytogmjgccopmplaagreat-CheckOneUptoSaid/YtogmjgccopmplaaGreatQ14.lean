/- ref.go: Children, Depth, Nodes, Small. -/
import Derived.Test.YtogmjgccopmplaaGreatQ13
namespace Go.Proofs.YtogmjgccopmplaaGreat
open Go.RowKit

theorem Tryz.info43 : (Tryz.prog.info? 41).map (fun i => (i.zero, i.size, i.bytes)) = some (some (.agg #[.int .i64 0, .int .i64 0, .string ⟨#[]⟩, .int .i64 0, .slice none 0 0, .slice none 0 0]), 6, 88) := by kernel_rfl
theorem app_terms {w : World} {ops : Array Oper} {rest : List Oper} {o : Oper} {a : Act} {Q : Exit → Act → World → Prop} (hgd : o.guard = none) (s x : Operand)
    (ho : o.op = .call { callee := .builtin .append, args := #[s, x], argTypes := #[38, 38] }) (B : Nat) (v : Value) (L1 : List Trm) (hs : a.eval s = v) (hown : w.ownsRow B 41 6 v L1.length (cellsT L1))
    (A : Option Addr) (c : Nat) (L2 : List Trm) (hx : a.eval x = .slice A L2.length c) (hsrc : SrcN w A L2.length 6 (cellsT L2)) (h1 : ∀ u ∈ cellsT L2, u.oneCell' = true) (hn : L1.length + L2.length ≤ 1000000000) (hB : B ≤ w.heap.size)
    (h : ∀ v' w', w'.ownsRow B 41 6 v' (L1 ++ L2).length (cellsT (L1 ++ L2)) → w.grownBy w' v.ownBlock → wpList Tryz.prog ops Q rest (a.put o.dst v') w') : wpList Tryz.prog ops Q (o :: rest) a w := by
  refine wpList_plain hgd fun K hK => app_row (t := 38) (e := 41) (size := 6) (bytes := 88) Tryz.u40 Tryz.info43 (by decide) (by decide) s x ho B v L1.length (cellsT L1) hs hown A L2.length c (cellsT L2) hx hsrc h1 (by unfold maxLen; omega) (by omega) hB (fun v' w' h1 h2 _ => hK _ _ (h v' w' ?_ h2))
  rw [List.length_append, cellsT_append]; exact h1
theorem grown_ext' {w w' : World} {v : Value} {B e size : Nat} {n : Nat} {xs : List Value} (hg : w.grownBy w' v.ownBlock) (hv : w.ownsRow B e size v n xs) (hB : B ≤ w.heap.size) : Below B w w' :=
  Below.grown (Below.refl _ _) hg hB (fun j e => (hv.lt j e).1)
theorem SrcN.one {w : World} {b : Nat} {x : Trm} (h : w.heap[b]? = some (.cells #[.int .i64 x.1.op, .int .i64 x.1.n, .string x.1.nm, .int .i64 x.1.ty, x.2.1, x.2.2] 41 (0, 0))) : SrcN w (some ⟨b, 0, none⟩) 1 6 (cellsT [x]) := by
  refine .inr ⟨_, rfl, by simp [cellsT, cells1], fun j u hu => ?_⟩
  have hj : j < 6 := by have := (List.getElem?_eq_some_iff.1 hu).1; simpa [cellsT, cells1] using this
  rw [add_at, Nat.zero_add]
  match j, hj with
  | 0, _ => exact cellAt h 0 hu
  | 1, _ => exact cellAt h 1 hu
  | 2, _ => exact cellAt h 2 hu
  | 3, _ => exact cellAt h 3 hu
  | 4, _ => exact cellAt h 4 hu
  | 5, _ => exact cellAt h 5 hu

set_option maxHeartbeats 4000000 in
set_option maxRecDepth 100000 in
theorem Children_any (k : Nat) (t : Tm) (va vc : Value) (w : World) (ht : RT w (k + 1) t va vc) (hn : nT t ≤ 1000000) :
    Calls Tryz.prog 48 #[tV t va vc] w fun e w' => ∃ v, e = .returned v ∧ RTms w' k v (chT t) ∧ Ext w w' := by
  have HT := Lib.hid ht
  have HN : Hid (t.args.length + t.cls.length ≤ 1000000) := by
    show _ ≤ _
    have h1 := nT_kids t
    have h2 := nL_len (chT t)
    have h3 : (chT t).length = t.args.length + t.cls.length := by unfold chT; rw [List.length_append, List.length_map]
    omega
  obtain ⟨_, ⟨Aa, ca, rfl, hca, hma⟩, ⟨Bb, cb, rfl, hcb, hmb⟩⟩ := ht.form
  obtain ⟨L0, hl0, hr0, hs0⟩ := ht.rowA
  have hlen0 : L0.length = t.args.length := by rw [← hl0, List.length_map]
  rw [← hlen0] at hs0
  have HS0 := Lib.hid hs0; have HL0 := Lib.hid hl0; have HR0 := Lib.hid hr0; have HLN := Lib.hid hlen0
  clear ht hn hl0 hr0 hs0 hlen0
  unfold maxLen at hma hmb
  have HE := Lib.hid (Ext.al w (.cells #[.int .i64 t.op, .int .i64 t.n, .string t.nm, .int .i64 t.ty, .slice Aa t.args.length ca, .slice Bb t.cls.length cb] 41))
  have HB := Lib.hid (heapNew w (.cells #[.int .i64 t.op, .int .i64 t.n, .string t.nm, .int .i64 t.ty, .slice Aa t.args.length ca, .slice Bb t.cls.length cb] 41))
  have HS1 : Hid (SrcN (w.alloc (.cells #[.int .i64 t.op, .int .i64 t.n, .string t.nm, .int .i64 t.ty, .slice Aa t.args.length ca, .slice Bb t.cls.length cb] 41)) Aa L0.length 6 (cellsT L0)) := by
    rcases HS0.out with h | ⟨ad, h1, h2, h3⟩
    · exact .inl h
    · exact .inr ⟨ad, h1, h2, fun j u hu => HE.out.keep (h3 j u hu)⟩
  obtain ⟨x0, x1, x2, x3, x4, x5⟩ := cells6 HB.out
  have hnil : World.ownsRow (w.alloc (.cells #[.int .i64 t.op, .int .i64 t.n, .string t.nm, .int .i64 t.ty, .slice Aa t.args.length ca, .slice Bb t.cls.length cb] 41)) w.heap.size 41 6 (.slice none 0 0) ([] : List Trm).length (cellsT []) := ⟨by simp [cellsT], .inl ⟨rfl, rfl⟩⟩
  have HNIL := Lib.hid hnil
  clear hnil
  go_enter Tryz.func48, Tryz.ntmps48
  go_wp2_with (at_builtin; refine app_terms rfl _ _ rfl w.heap.size _ [] rfl HNIL.out Aa ca L0 (by rw [HLN.out]; rfl) HS1.out (cellsT_one (k := k) L0 HR0.out) (by have := HN.out; have := HLN.out; simp; omega) HE.out.size ?_)
  intro v2 w2 ho hg
  have hX : Ext _ w2 := ⟨hg.os, hg.tape, hg.output, hg.size, fun k hk => hg.block k hk (by simp [Value.ownBlock])⟩
  have HX2 := Lib.hid (HE.out.tr hX)
  have HO2 : Hid (w2.ownsRow w.heap.size 41 6 v2 L0.length (cellsT L0)) := ho
  have b2 := (hX.block _ (heap_lt HB.out)).trans HB.out
  clear ho hg hX x0 x1 x2 x3 x4 x5 HS1 HNIL
  obtain ⟨x0, x1, x2, x3, x4, x5⟩ := cells6 b2
  clear b2
  go_wp2
  clear x0 x1 x2 x3 x4 x5
  go_loopw [3, 12] (fun s i wr => ∃ (j : Nat) (L : List Trm), j ≤ t.cls.length ∧ i = .int .i64 j ∧ wr.ownsRow w.heap.size 41 6 s L.length (cellsT L) ∧ (∀ x ∈ L, RT w k x.1 x.2.1 x.2.2) ∧ L.map (·.1) = t.args ++ (t.cls.take j).map (·.2) ∧ Ext w wr) (fun _ i _ => t.cls.length - (intOf i).toNat)
  case atStart => exact ⟨0, L0, Nat.zero_le _, rfl, HO2.out, HR0.out, by rw [HL0.out]; simp, HX2.out⟩
  case round =>
    obtain ⟨j, L, hj, rfl, ho, hr, hl, hb⟩ := hrel
    have HO := Lib.hid ho; have HR := Lib.hid hr; have HL := Lib.hid hl; have HX := Lib.hid hb
    have HLEN : Hid (L.length = t.args.length + j) := by
      show _ = _
      have := congrArg List.length hl
      simp at this; omega
    clear ho hr hl hb
    by_cases hlt : j < t.cls.length
    · obtain ⟨b', o', vn', xa', xc', rfl, hbl', yn', ys', y6, yt'⟩ := HT.out.clause hlt
      have HTK : Hid ((t.cls.take (j + 1)).map (·.2) = (t.cls.take j).map (·.2) ++ [t.cls[j].2]) := by show _ = _; rw [List.take_succ_eq_append_getElem hlt, List.map_append]; rfl
      generalize t.cls[j] = cl at *
      obtain ⟨ns, y⟩ := cl
      dsimp only at *
      have HRY := Lib.hid yt'
      obtain ⟨-, ⟨Ax, cx, rfl, -, -⟩, ⟨Bx, dx, rfl, -, -⟩⟩ := yt'.form
      obtain ⟨An, cn, rfl, -, -⟩ := ys'.form
      have y6 := y6.below HX.out
      have c0 := HX.out.keep yn'
      have c1 := y6.c0
      have c2 := y6.c1
      have c3 := y6.c2
      have c4 := y6.c3
      have c5 := y6.c4
      have c6 := y6.c5
      clear y6 yt' yn' ys'
      have HE8 := Lib.hid (Ext.al2 wr (.cells #[.slice An ns.length cn, .int .i64 y.op, .int .i64 y.n, .string y.nm, .int .i64 y.ty, .slice Ax y.args.length cx, .slice Bx y.cls.length dx] 92) (.cells #[.int .i64 y.op, .int .i64 y.n, .string y.nm, .int .i64 y.ty, .slice Ax y.args.length cx, .slice Bx y.cls.length dx] 41))
      have hn8 := heapNew (wr.alloc (.cells #[.slice An ns.length cn, .int .i64 y.op, .int .i64 y.n, .string y.nm, .int .i64 y.ty, .slice Ax y.args.length cx, .slice Bx y.cls.length dx] 92)) (.cells #[.int .i64 y.op, .int .i64 y.n, .string y.nm, .int .i64 y.ty, .slice Ax y.args.length cx, .slice Bx y.cls.length dx] 41)
      rw [World.size_alloc] at hn8
      have HSO : Hid (SrcN _ (some ⟨wr.heap.size + 1, 0, none⟩) 1 6 (cellsT [(y, .slice Ax y.args.length cx, .slice Bx y.cls.length dx)])) := SrcN.one (x := (y, .slice Ax y.args.length cx, .slice Bx y.cls.length dx)) hn8
      clear hn8
      go_wp2_with (at_builtin; refine app_terms rfl _ _ rfl w.heap.size _ L rfl (own_below HO.out HE8.out) (some ⟨wr.heap.size + 1, 0, none⟩) 1 [(y, .slice Ax y.args.length cx, .slice Bx y.cls.length dx)] rfl HSO.out (cellsT_one (k := k) (w := w) [(y, .slice Ax y.args.length cx, .slice Bx y.cls.length dx)] (fun x hx => by rw [List.mem_singleton.1 hx]; exact HRY.out)) (by have := HN.out; have := HLEN.out; simp; omega) (Nat.le_trans HX.out.size HE8.out.size) ?_)
      intro v9 w9 ho9 hg9
      have HX9 : Hid (Ext w w9) := (HX.out.tr HE8.out).trans (grown_ext' hg9 (own_below HO.out HE8.out) (Nat.le_trans HX.out.size HE8.out.size))
      have HO9 : Hid (w9.ownsRow w.heap.size 41 6 v9 (L ++ [((y, .slice Ax y.args.length cx, .slice Bx y.cls.length dx) : Trm)]).length (cellsT (L ++ [((y, .slice Ax y.args.length cx, .slice Bx y.cls.length dx) : Trm)]))) := by show World.ownsRow _ _ _ _ _ _ _; rw [List.length_append]; exact ho9
      have HR9 : Hid (∀ x ∈ L ++ [((y, .slice Ax y.args.length cx, .slice Bx y.cls.length dx) : Trm)], RT w k x.1 x.2.1 x.2.2) := fun x hx => (List.mem_append.1 hx).elim (HR.out x) (fun hx => by rw [List.mem_singleton.1 hx]; exact HRY.out)
      have HL9 : Hid ((L ++ [((y, .slice Ax y.args.length cx, .slice Bx y.cls.length dx) : Trm)]).map (·.1) = t.args ++ (t.cls.take (j + 1)).map (·.2)) := by show _ = _; rw [List.map_append, HL.out, HTK.out, List.append_assoc]; rfl
      clear ho9 hg9 c0 c1 c2 c3 c4 c5 c6
      go_wp2
      exact ⟨⟨j + 1, L ++ [((y, .slice Ax y.args.length cx, .slice Bx y.cls.length dx) : Trm)], by omega, by go_num, HO9.out, HR9.out, HL9.out, HX9.out⟩, by simp [intOf]; omega⟩
    · have HV : Hid (RTms wr k u3 (chT t)) := by
        show RTms wr k u3 (chT t)
        have h1 := own_RTms HO.out (fun x hx => (HR.out x hx).below HX.out)
        rw [HL.out, show j = t.cls.length by omega, List.take_length] at h1
        exact h1
      go_wp2
      go_ret
      exact ⟨_, rfl, HV.out, HX.out⟩

set_option maxHeartbeats 2000000 in
set_option maxRecDepth 100000 in
theorem Depth_any : ∀ (k : Nat) (t : Tm) (va vc : Value) (w : World), RT w k t va vc → nT t ≤ 1000000 →
    Calls Tryz.prog 23 #[tV t va vc] w fun e w' => e = .returned (.int .i64 (dT t)) ∧ dT t ≤ nT t ∧ Ext w w' := by
  intro k
  induction k with
  | zero => intro t va vc w ht; exact ht.elim
  | succ k ih =>
    intro t va vc w ht hn
    have HT := Lib.hid ht; have HIH := Lib.hid ih; have HN := Lib.hid hn
    obtain ⟨_, ⟨Aa, ca, rfl, -, -⟩, ⟨Bb, cb, rfl, -, -⟩⟩ := ht.form
    clear ht ih hn
    have HK := Lib.hid (nT_kids t)
    have HD := Lib.hid (dT_kids t)
    have HLL := Lib.hid (nL_len (chT t))
    have HE := Lib.hid (Ext.al w (.cells #[.int .i64 t.op, .int .i64 t.n, .string t.nm, .int .i64 t.ty, .slice Aa t.args.length ca, .slice Bb t.cls.length cb] 41))
    go_enter Tryz.func23, Tryz.ntmps23
    go_wp2_with fail
    generalize w.alloc _ = w1 at *
    (with_reducible refine (Children_any k t _ _ w1 (HT.out.below HE.out) HN.out).mono ?_)
    rintro e w2 ⟨v, rfl, hv, hb⟩
    have HV := Lib.hid hv
    have HX := Lib.hid (HE.out.tr hb)
    obtain ⟨A, c, rfl, hc, hm⟩ := hv.form
    unfold maxLen at hm
    clear hv hb
    generalize hch : chT t = ch at *
    go_wp2
    go_loopw [3, 9] (fun s i wr => ∃ j : Nat, j ≤ ch.length ∧ i = .int .i64 j ∧ s = .int .i64 (dL (ch.take j)) ∧ (dL (ch.take j) ≤ nL (ch.take j)) ∧ Ext w2 wr) (fun _ i _ => ch.length - (intOf i).toNat)
    case atStart => exact ⟨0, Nat.zero_le _, rfl, rfl, by simp [dL, nL], Ext.rf _⟩
    case round =>
      obtain ⟨j, hj, rfl, rfl, hle, hb⟩ := hrel
      have HLE := Lib.hid hle
      have HX2 := Lib.hid hb
      clear hle hb
      by_cases hlt : j < ch.length
      · obtain ⟨b, o, xa, xc, rfl, hbl, y6, yt⟩ := HV.out.at_ hlt
        have HDT := Lib.hid (dL_take hlt)
        have HNT := Lib.hid (nL_take hlt)
        have HNL := Lib.hid (nL_take_le ch (j + 1))
        have HD0 := Lib.hid (dL_nonneg (ch.take j))
        have HDP := Lib.hid (dT_pos ch[j])
        have y6 := y6.below HX2.out
        have c0 := y6.c0
        have c1 := y6.c1
        have c2 := y6.c2
        have c3 := y6.c3
        have c4 := y6.c4
        have c5 := y6.c5
        have HKX := Lib.hid (yt.below HX2.out)
        obtain ⟨-, ⟨Ax, cx, rfl, -, -⟩, ⟨Bx, dx, rfl, -, -⟩⟩ := yt.form
        generalize ch[j] = x at *
        clear y6 yt
        have HE8 := Lib.hid (Ext.al wr (.cells #[.int .i64 x.op, .int .i64 x.n, .string x.nm, .int .i64 x.ty, .slice Ax x.args.length cx, .slice Bx x.cls.length dx] 41))
        go_wp2_with fail
        (with_reducible refine (HIH.out x _ _ _ (HKX.out.below HE8.out) (by have := HNT.out; have := HNL.out; have := HK.out; have := HN.out; omega)).mono ?_)
        rintro e w5 ⟨rfl, hdn, hb⟩
        have HX5 := Lib.hid (HX2.out.tr (HE8.out.tr hb))
        have HM : Hid (max (dL (ch.take j)) (dT x) = dL (ch.take (j + 1)) ∧ dL (ch.take (j + 1)) ≤ nL (ch.take (j + 1))) := by
          show _ ∧ _
          have := HDT.out; have := HNT.out; have := HLE.out; have := HD0.out; have := HDP.out
          constructor <;> omega
        clear hb hdn
        go_wp2
        exact ⟨⟨j + 1, by omega, by go_num, by rw [← HM.out.1], HM.out.2, HX5.out⟩, by simp [intOf]; omega⟩
      · have HJ : Hid (ch.take j = ch) := by show _ = _; rw [List.take_of_length_le (by omega)]
        have HR : Hid (0 ≤ dL ch ∧ dL ch ≤ nL ch ∧ nL ch ≤ 1000000) := by show _ ∧ _; have := HLE.out; rw [HJ.out] at this; have := dL_nonneg ch; have := HK.out; have := HN.out; omega
        rw [HJ.out]
        have h1 := HR.out
        generalize dL ch = d at *
        go_wp2
        go_ret
        exact ⟨ret_int (by rw [HD.out]; omega), by rw [HD.out, HK.out]; omega, HX.out.tr HX2.out⟩

set_option maxHeartbeats 2000000 in
set_option maxRecDepth 100000 in
theorem Nodes39_any : ∀ (k : Nat) (t : Tm) (va vc : Value) (w : World), RT w k t va vc → nT t ≤ 1000000 →
    Calls Tryz.prog 24 #[tV t va vc] w fun e w' => e = .returned (.int .i64 (nT t)) ∧ Ext w w' := by
  intro k
  induction k with
  | zero => intro t va vc w ht; exact ht.elim
  | succ k ih =>
    intro t va vc w ht hn
    have HT := Lib.hid ht; have HIH := Lib.hid ih; have HN := Lib.hid hn
    obtain ⟨_, ⟨Aa, ca, rfl, -, -⟩, ⟨Bb, cb, rfl, -, -⟩⟩ := ht.form
    clear ht ih hn
    have HK := Lib.hid (nT_kids t)
    have HLL := Lib.hid (nL_len (chT t))
    have HE := Lib.hid (Ext.al w (.cells #[.int .i64 t.op, .int .i64 t.n, .string t.nm, .int .i64 t.ty, .slice Aa t.args.length ca, .slice Bb t.cls.length cb] 41))
    go_enter Tryz.func24, Tryz.ntmps24
    go_wp2_with fail
    generalize w.alloc _ = w1 at *
    (with_reducible refine (Children_any k t _ _ w1 (HT.out.below HE.out) HN.out).mono ?_)
    rintro e w2 ⟨v, rfl, hv, hb⟩
    have HV := Lib.hid hv
    have HX := Lib.hid (HE.out.tr hb)
    obtain ⟨A, c, rfl, hc, hm⟩ := hv.form
    unfold maxLen at hm
    clear hv hb
    generalize hch : chT t = ch at *
    go_wp2
    go_loopw [3, 9] (fun s i wr => ∃ j : Nat, j ≤ ch.length ∧ i = .int .i64 j ∧ s = .int .i64 ((1 + nL (ch.take j) : Nat) : Int) ∧ Ext w2 wr) (fun _ i _ => ch.length - (intOf i).toNat)
    case atStart => exact ⟨0, Nat.zero_le _, rfl, by simp [nL], Ext.rf _⟩
    case round =>
      obtain ⟨j, hj, rfl, rfl, hb⟩ := hrel
      have HX2 := Lib.hid hb
      clear hb
      have HNLJ := Lib.hid (nL_take_le ch j)
      by_cases hlt : j < ch.length
      · obtain ⟨b, o, xa, xc, rfl, hbl, y6, yt⟩ := HV.out.at_ hlt
        have HNT := Lib.hid (nL_take hlt)
        have HNL := Lib.hid (nL_take_le ch (j + 1))
        have y6 := y6.below HX2.out
        have c0 := y6.c0
        have c1 := y6.c1
        have c2 := y6.c2
        have c3 := y6.c3
        have c4 := y6.c4
        have c5 := y6.c5
        have HKX := Lib.hid (yt.below HX2.out)
        obtain ⟨-, ⟨Ax, cx, rfl, -, -⟩, ⟨Bx, dx, rfl, -, -⟩⟩ := yt.form
        generalize ch[j] = x at *
        clear y6 yt
        have HE8 := Lib.hid (Ext.al wr (.cells #[.int .i64 x.op, .int .i64 x.n, .string x.nm, .int .i64 x.ty, .slice Ax x.args.length cx, .slice Bx x.cls.length dx] 41))
        go_wp2_with fail
        (with_reducible refine (HIH.out x _ _ _ (HKX.out.below HE8.out) (by have := HNT.out; have := HNL.out; have := HK.out; have := HN.out; omega)).mono ?_)
        rintro e w5 ⟨rfl, hb⟩
        have HX5 := Lib.hid (HX2.out.tr (HE8.out.tr hb))
        have h1 : 1 + nL (ch.take j) ≤ 1000000 := by have := HNLJ.out; have := HK.out; have := HN.out; omega
        have h2 : nT x ≤ 1000000 := by have := HNT.out; have := HNL.out; have := HK.out; have := HN.out; omega
        have HM : Hid (1 + nL (ch.take j) + nT x = 1 + nL (ch.take (j + 1))) := by show _ = _; rw [HNT.out]; omega
        clear hb
        generalize 1 + nL (ch.take j) = m1 at *
        generalize nT x = m2 at *
        go_wp2
        exact ⟨⟨j + 1, by omega, by go_num, by rw [← HM.out]; simp, HX5.out⟩, by simp [intOf]; omega⟩
      · have HJ : Hid (ch.take j = ch) := by show _ = _; rw [List.take_of_length_le (by omega)]
        rw [HJ.out, ← HK.out]
        go_wp2
        go_ret
        exact ⟨rfl, HX.out.tr HX2.out⟩

set_option maxHeartbeats 1000000 in
set_option maxRecDepth 100000 in
theorem RSmall_any (k : Nat) (t : Tm) (va vc : Value) (w : World) (ht : RT w k t va vc) :
    Calls Tryz.prog 17 #[tV t va vc] w fun e w' => e = .returned (.bool (sizeR t).2) ∧ Ext w w' := by
  have HT := Lib.hid ht
  obtain ⟨_, ⟨Aa, ca, rfl, -, -⟩, ⟨Bb, cb, rfl, -, -⟩⟩ := ht.form
  clear ht
  have HE := Lib.hid (Ext.al w (.cells #[.int .i64 t.op, .int .i64 t.n, .string t.nm, .int .i64 t.ty, .slice Aa t.args.length ca, .slice Bb t.cls.length cb] 41))
  have HB := Lib.hid (heapNew w (.cells #[.int .i64 t.op, .int .i64 t.n, .string t.nm, .int .i64 t.ty, .slice Aa t.args.length ca, .slice Bb t.cls.length cb] 41))
  have HS := Lib.hid (size_small t)
  generalize (sizeR t).2 = rr at *
  go_enter Tryz.func17, Tryz.ntmps17
  go_wp2_with fail
  generalize w.alloc _ = w1 at *
  (with_reducible refine (FitsX_any k t _ _ 600 _ (HT.out.below HE.out) (by omega) (by omega)).mono ?_)
  rintro e w2 ⟨rfl, hb⟩
  have HX2 := Lib.hid (HE.out.tr hb)
  have b2 := (hb.block _ (heap_lt HB.out)).trans HB.out
  obtain ⟨x0, x1, x2, x3, x4, x5⟩ := cells6 b2
  clear hb b2
  by_cases hq : nT t ≤ 600
  · have HQ := Lib.hid hq
    rw [show decide ((nT t : Int) ≤ 600) = true by rw [decide_eq_true_eq]; omega]
    have HS2 : Hid (rr = decide (dT t ≤ 24)) := by show _ = _; rw [HS.out, decide_eq_true hq]; rfl
    clear hq HS
    go_wp2_with fail
    (with_reducible refine (Depth_any k t _ _ _ (HT.out.below HX2.out) (by have := HQ.out; omega)).mono ?_)
    rintro e w3 ⟨rfl, -, hb⟩
    have HX3 := Lib.hid (HX2.out.tr hb)
    clear hb
    generalize dT t = d at *
    go_wp2
    go_ret
    exact ⟨ret_bool (by rw [HS2.out]), HX3.out⟩
  · rw [show decide ((nT t : Int) ≤ 600) = false by rw [decide_eq_false_iff_not]; omega]
    have HS2 : Hid (rr = false) := by show _ = _; rw [HS.out, decide_eq_false hq]; rfl
    clear hq HS
    go_wp2
    go_ret
    exact ⟨ret_bool (by rw [HS2.out]), HX2.out⟩
end Go.Proofs.YtogmjgccopmplaaGreat

/- ref.go: free. -/
namespace Go.Proofs.YtogmjgccopmplaaGreat
open Go.RowKit

set_option maxHeartbeats 4000000 in
set_option maxRecDepth 100000 in
theorem rfree_any : ∀ (k : Nat) (t : Tm) (va vc v1 v2 v3 v4 : Value) (lv ll la lb : List Str) (w : World), RT w k t va vc → RStrs w v1 lv → RStrs w v2 ll → RStrs w v3 la → RStrs w v4 lb → SortedS la → SortedS lb →
    lv.length + uT t ≤ 50000000 → ll.length + uT t ≤ 50000000 → la.length + uT t ≤ 50000000 → lb.length + uT t ≤ 50000000 →
    Calls Tryz.prog 46 #[tV t va vc, v1, v2, v3, v4] w fun e w' => ∃ r1 r2 l1 l2, e = .returned (.tuple #[r1, r2]) ∧ FRes lv ll la lb t w' r1 r2 l1 l2 ∧ Ext w w' := by
  intro k
  induction k with
  | zero => intro t va vc v1 v2 v3 v4 lv ll la lb w ht; exact ht.elim
  | succ k ih =>
    intro t va vc v1 v2 v3 v4 lv ll la lb w ht h1 h2 h3 h4 ha hb n1 n2 n3 n4
    have HT := Lib.hid ht; have HIH := Lib.hid ih; have H1 := Lib.hid h1; have H2 := Lib.hid h2; have H3 := Lib.hid h3; have H4 := Lib.hid h4; have HSA := Lib.hid ha; have HSB := Lib.hid hb
    have N1 := Lib.hid n1; have N2 := Lib.hid n2; have N3 := Lib.hid n3; have N4 := Lib.hid n4
    obtain ⟨⟨hnm, -⟩, ⟨Aa, ca, rfl, hca, hma⟩, ⟨Bb, cb, rfl, hcb, hmb⟩⟩ := ht.form
    have HNM := Lib.hid hnm
    clear ht ih h1 h2 h3 h4 ha hb n1 n2 n3 n4 hnm
    unfold maxLen at hma hmb
    have HE := Lib.hid (Ext.al w (.cells #[.int .i64 t.op, .int .i64 t.n, .string t.nm, .int .i64 t.ty, .slice Aa t.args.length ca, .slice Bb t.cls.length cb] 41))
    have HB := Lib.hid (heapNew w (.cells #[.int .i64 t.op, .int .i64 t.n, .string t.nm, .int .i64 t.ty, .slice Aa t.args.length ca, .slice Bb t.cls.length cb] 41))
    have HW1 : Hid (RT (w.alloc (.cells #[.int .i64 t.op, .int .i64 t.n, .string t.nm, .int .i64 t.ty, .slice Aa t.args.length ca, .slice Bb t.cls.length cb] 41)) (k + 1) t (.slice Aa t.args.length ca) (.slice Bb t.cls.length cb)) := HT.out.below HE.out
    have N0 : Hid (1 ≤ uT t) := by show 1 ≤ uT t; rw [uT_kids]; omega
    rcases (by by_cases e0 : t.op = 0 <;> by_cases e1 : t.op = 12 <;> simp [e0, e1] <;> omega : ((t.op == 0) = true ∧ (t.op == 12) = false) ∨ ((t.op == 0) = false ∧ (t.op == 12) = true) ∨ ((t.op == 0) = false ∧ (t.op == 12) = false)) with ⟨h0, h12⟩ | ⟨h0, h12⟩ | ⟨h0, h12⟩
    focus
      have O0 : Hid (t.op = 0) := by show t.op = 0; simpa using h0
      generalize hq1 : hasS lv t.nm = q1
      have HQ1 : Hid (hasS lv t.nm = q1) := hq1
      cases q1
      focus
        go_enter Tryz.func46, Tryz.ntmps46
        go_wp2_with fail
        generalize w.alloc _ = w1 at *
        (with_reducible refine (In_any v1 lv t.nm w1 (H1.out.below HE.out)).mono ?_)
        rintro e w2 ⟨rfl, rfl⟩
        rw [hq1]
        clear hq1
        obtain ⟨x0, x1, x2, x3, x4, x5⟩ := cells6 HB.out
        go_wp2_with fail
        clear x0 x1 x2 x3 x4 x5
        (with_reducible refine (Insert_any v3 la t.nm w1 (H3.out.below HE.out) HNM.out (by have := N3.out; omega)).mono ?_)
        rintro e w5 ⟨V3, la1, rfl, hr5, hs5, hm5, hn5, hb5⟩
        have HST : Hid (∃ la1 lb1, FStart lv ll la lb t w1 w5 V3 v4 la1 lb1) := ⟨la1, lb, FStart.var hb5 hr5 (H4.out.below HE.out) (hs5 HSA.out) HSB.out hm5 hn5 O0.out HQ1.out⟩
        have b5 := (hb5.block _ (heap_lt HB.out)).trans HB.out
        obtain ⟨t0, t1, t2, t3, t4, t5⟩ := cells6 b5
        clear hr5 hs5 hm5 hn5 hb5 b5
        go_wp2_with fail
        clear t0 t1 t2 t3 t4 t5 O0 HQ1 h0 h12
      rotate_left
      focus
        go_enter Tryz.func46, Tryz.ntmps46
        go_wp2_with fail
        generalize w.alloc _ = w1 at *
        (with_reducible refine (In_any v1 lv t.nm w1 (H1.out.below HE.out)).mono ?_)
        rintro e w2 ⟨rfl, rfl⟩
        rw [hq1]
        clear hq1
        obtain ⟨x0, x1, x2, x3, x4, x5⟩ := cells6 HB.out
        go_wp2_with fail
        clear x0 x1 x2 x3 x4 x5
        have HST : Hid (∃ la1 lb1, FStart lv ll la lb t w1 w1 v3 v4 la1 lb1) := ⟨la, lb, FStart.none (H3.out.below HE.out) (H4.out.below HE.out) HSA.out HSB.out (fun h => HQ1.out) (fun h => by rw [O0.out] at h; cases h)⟩
        clear O0 HQ1 h0 h12
      rotate_left
    rotate_left 2
    focus
      have O0 : Hid (t.op = 12) := by show t.op = 12; simpa using h12
      generalize hq2 : hasS ll t.nm = q1
      have HQ1 : Hid (hasS ll t.nm = q1) := hq2
      cases q1
      focus
        go_enter Tryz.func46, Tryz.ntmps46
        go_wp2_with fail
        generalize w.alloc _ = w1 at *
        (with_reducible refine (In_any v2 ll t.nm w1 (H2.out.below HE.out)).mono ?_)
        rintro e w2 ⟨rfl, rfl⟩
        rw [hq2]
        clear hq2
        obtain ⟨x0, x1, x2, x3, x4, x5⟩ := cells6 HB.out
        go_wp2_with fail
        clear x0 x1 x2 x3 x4 x5
        (with_reducible refine (Insert_any v4 lb t.nm w1 (H4.out.below HE.out) HNM.out (by have := N4.out; omega)).mono ?_)
        rintro e w5 ⟨V4, lb1, rfl, hr5, hs5, hm5, hn5, hb5⟩
        have HST : Hid (∃ la1 lb1, FStart lv ll la lb t w1 w5 v3 V4 la1 lb1) := ⟨la, lb1, FStart.lab hb5 (H3.out.below HE.out) hr5 HSA.out (hs5 HSB.out) hm5 hn5 O0.out HQ1.out⟩
        have b5 := (hb5.block _ (heap_lt HB.out)).trans HB.out
        obtain ⟨t0, t1, t2, t3, t4, t5⟩ := cells6 b5
        clear hr5 hs5 hm5 hn5 hb5 b5
        go_wp2_with fail
        clear t0 t1 t2 t3 t4 t5 O0 HQ1 h0 h12
      rotate_left
      focus
        go_enter Tryz.func46, Tryz.ntmps46
        go_wp2_with fail
        generalize w.alloc _ = w1 at *
        (with_reducible refine (In_any v2 ll t.nm w1 (H2.out.below HE.out)).mono ?_)
        rintro e w2 ⟨rfl, rfl⟩
        rw [hq2]
        clear hq2
        obtain ⟨x0, x1, x2, x3, x4, x5⟩ := cells6 HB.out
        go_wp2_with fail
        clear x0 x1 x2 x3 x4 x5
        have HST : Hid (∃ la1 lb1, FStart lv ll la lb t w1 w1 v3 v4 la1 lb1) := ⟨la, lb, FStart.none (H3.out.below HE.out) (H4.out.below HE.out) HSA.out HSB.out (fun h => by rw [O0.out] at h; cases h) (fun h => HQ1.out)⟩
        clear O0 HQ1 h0 h12
      rotate_left
    rotate_left 2
    focus
      have O0 : Hid (¬ t.op = 0 ∧ ¬ t.op = 12) := by show ¬ t.op = 0 ∧ ¬ t.op = 12; exact ⟨by simpa using h0, by simpa using h12⟩
      focus
        go_enter Tryz.func46, Tryz.ntmps46
        go_wp2_with fail
        generalize w.alloc _ = w1 at *
        have HST : Hid (∃ la1 lb1, FStart lv ll la lb t w1 w1 v3 v4 la1 lb1) := ⟨la, lb, FStart.none (H3.out.below HE.out) (H4.out.below HE.out) HSA.out HSB.out (fun h => absurd h O0.out.1) (fun h => absurd h O0.out.2)⟩
        clear O0 h0 h12
    rotate_left
    all_goals
      obtain ⟨la1, lb1, hst⟩ := HST.out
      have HX5 := Lib.hid hst.ext
      have HI5 := Lib.hid hst.inv
      have HMA := Lib.hid hst.ma
      have HMB := Lib.hid hst.mb
      have HNA := Lib.hid hst.na
      have HNB := Lib.hid hst.nb
      clear hst HST
      go_loopw [3, 4, 49] (fun s3 s4 i wr => ∃ (j : Nat) (xa xb : List Str), j ≤ t.args.length ∧ i = .int .i64 j ∧ FInv lv ll la1 lb1 (preA t j) wr s3 s4 xa xb ∧ Ext w1 wr) (fun _ _ i _ => t.args.length - (intOf i).toNat)
      case atStart => exact ⟨0, la1, lb1, Nat.zero_le _, rfl, HI5.out, HX5.out⟩
      case round =>
        obtain ⟨j, xa, xb, hj, rfl, hinv, hb⟩ := hrel
        have HI := Lib.hid hinv
        have HX := Lib.hid hb
        have b0 := (hb.block _ (heap_lt HB.out)).trans HB.out
        have HBB := Lib.hid b0
        obtain ⟨t0, t1, t2, t3, t4, t5⟩ := cells6 b0
        clear hinv hb b0
        by_cases hlt : j < t.args.length
        · obtain ⟨b, o, ya, yc, rfl, hbl, y6, yt⟩ := HT.out.arg hlt
          have HU := Lib.hid (uA_at hlt)
          have HPS := Lib.hid (preA_succ hlt)
          have y6 := y6.below (HE.out.tr HX.out)
          have c0 := y6.c0
          have c1 := y6.c1
          have c2 := y6.c2
          have c3 := y6.c3
          have c4 := y6.c4
          have c5 := y6.c5
          obtain ⟨-, ⟨Ax, cx, rfl, -, -⟩, ⟨Bx, dx, rfl, -, -⟩⟩ := yt.form
          have HK := Lib.hid (yt.below (HE.out.tr HX.out))
          generalize t.args[j] = x at *
          clear y6 yt
          have hE6 := Ext.al wr (.cells #[.int .i64 x.op, .int .i64 x.n, .string x.nm, .int .i64 x.ty, .slice Ax x.args.length cx, .slice Bx x.cls.length dx] 41)
          have b6 := (hE6.block _ (heap_lt HBB.out)).trans HBB.out
          have HN6 := Lib.hid (heapNew wr (.cells #[.int .i64 x.op, .int .i64 x.n, .string x.nm, .int .i64 x.ty, .slice Ax x.args.length cx, .slice Bx x.cls.length dx] 41))
          have HE6 := Lib.hid hE6
          have HZ6 : Hid ((wr.alloc (.cells #[.int .i64 x.op, .int .i64 x.n, .string x.nm, .int .i64 x.ty, .slice Ax x.args.length cx, .slice Bx x.cls.length dx] 41)).heap.size = wr.heap.size + 1) := World.size_alloc _ _
          obtain ⟨z0, z1, z2, z3, z4, z5⟩ := cells6 b6
          clear hE6 b6
          rcases (by by_cases e0 : t.op = 8 <;> by_cases e1 : t.op = 11 <;> by_cases e2 : j = 0 <;> by_cases e3 : j = 1 <;> simp [e0, e1, e2, e3] <;> omega : ((t.op == 8) = true ∧ (t.op == 11) = false ∧ ((j : Int) == 1) = true) ∨ ((t.op == 8) = false ∧ (t.op == 11) = true ∧ ((j : Int) == 0) = true) ∨ ((t.op == 8) = true ∧ (t.op == 11) = false ∧ ((j : Int) == 1) = false) ∨ ((t.op == 8) = false ∧ (t.op == 11) = true ∧ ((j : Int) == 0) = false) ∨ ((t.op == 8) = false ∧ (t.op == 11) = false)) with ⟨h8, h11, hjn⟩ | ⟨h8, h11, hjn⟩ | ⟨h8, h11, hjn⟩ | ⟨h8, h11, hjn⟩ | ⟨h8, h11⟩
          all_goals go_wp2_with fail
          all_goals generalize wr.alloc _ = w6 at *
          focus
            have HJ : Hid (t.op = 8 ∧ j = 1) := by show t.op = 8 ∧ j = 1; simp at h8 hjn; exact ⟨h8, by omega⟩
            have hE7 := Ext.al w6 (.cells #[.string t.nm] 9)
            have hn7 := heapNew w6 (.cells #[.string t.nm] 9)
            rw [HZ6.out] at hn7
            generalize w6.alloc _ = w7 at *
            (with_reducible refine (With_any v1 _ lv [t.nm] w7 (H1.out.below ((HE.out.tr HX.out).tr (HE6.out.tr hE7))) (RStrs.one hn7 HNM.out) H1.out.sizes (fun s h => by rw [List.mem_singleton.1 h]; exact HNM.out) (by simp; have := N1.out; omega)).mono ?_)
            rintro e w8 ⟨V14, rfl, hr8, hb8⟩
            have HW8 : Hid (Ext wr w8) := HE6.out.tr (hE7.tr hb8)
            have HV14 : Hid (RStrs w8 V14 (lv ++ vnames (bndAt t.op t.nm j))) := by show RStrs w8 V14 _; rw [(vn_8 HJ.out.1 HJ.out.2).1]; exact hr8
            have HV15 : Hid (RStrs w8 v2 (ll ++ lnames (bndAt t.op t.nm j))) := by show RStrs w8 v2 _; rw [(vn_8 HJ.out.1 HJ.out.2).2, List.append_nil]; exact H2.out.below ((HE.out.tr HX.out).tr HW8.out)
            have b8 := (HW8.out.block _ (heap_lt HBB.out)).trans HBB.out
            have b9 := ((hE7.tr hb8).block _ (heap_lt HN6.out)).trans HN6.out
            clear hE7 hn7 hr8 hb8 z0 z1 z2 z3 z4 z5
            obtain ⟨z0, z1, z2, z3, z4, z5⟩ := cells6 b8
            obtain ⟨y0, y1, y2, y3, y4, y5⟩ := cells6 b9
            clear b8 b9
            go_wp2_with fail
          rotate_left
          focus
            have HJ : Hid (t.op = 11 ∧ j = 0) := by show t.op = 11 ∧ j = 0; simp at h11 hjn; exact ⟨h11, by omega⟩
            have hE7 := Ext.al w6 (.cells #[.string t.nm] 9)
            have hn7 := heapNew w6 (.cells #[.string t.nm] 9)
            rw [HZ6.out] at hn7
            generalize w6.alloc _ = w7 at *
            (with_reducible refine (With_any v2 _ ll [t.nm] w7 (H2.out.below ((HE.out.tr HX.out).tr (HE6.out.tr hE7))) (RStrs.one hn7 HNM.out) H2.out.sizes (fun s h => by rw [List.mem_singleton.1 h]; exact HNM.out) (by simp; have := N2.out; omega)).mono ?_)
            rintro e w8 ⟨V15, rfl, hr8, hb8⟩
            have HW8 : Hid (Ext wr w8) := HE6.out.tr (hE7.tr hb8)
            have HV14 : Hid (RStrs w8 v1 (lv ++ vnames (bndAt t.op t.nm j))) := by show RStrs w8 v1 _; rw [(vn_11 HJ.out.1 HJ.out.2).1, List.append_nil]; exact H1.out.below ((HE.out.tr HX.out).tr HW8.out)
            have HV15 : Hid (RStrs w8 V15 (ll ++ lnames (bndAt t.op t.nm j))) := by show RStrs w8 V15 _; rw [(vn_11 HJ.out.1 HJ.out.2).2]; exact hr8
            have b8 := (HW8.out.block _ (heap_lt HBB.out)).trans HBB.out
            have b9 := ((hE7.tr hb8).block _ (heap_lt HN6.out)).trans HN6.out
            clear hE7 hn7 hr8 hb8 z0 z1 z2 z3 z4 z5
            obtain ⟨z0, z1, z2, z3, z4, z5⟩ := cells6 b8
            obtain ⟨y0, y1, y2, y3, y4, y5⟩ := cells6 b9
            clear b8 b9
            go_wp2_with fail
          rotate_left
          focus
            have HJ : Hid (¬ (t.op = 8 ∧ j = 1) ∧ ¬ (t.op = 11 ∧ j = 0)) := by show ¬ (t.op = 8 ∧ j = 1) ∧ ¬ (t.op = 11 ∧ j = 0); simp at h8 h11 hjn; omega
          rotate_left
          focus
            have HJ : Hid (¬ (t.op = 8 ∧ j = 1) ∧ ¬ (t.op = 11 ∧ j = 0)) := by show ¬ (t.op = 8 ∧ j = 1) ∧ ¬ (t.op = 11 ∧ j = 0); simp at h8 h11 hjn; omega
          rotate_left
          focus
            have HJ : Hid (¬ (t.op = 8 ∧ j = 1) ∧ ¬ (t.op = 11 ∧ j = 0)) := by show ¬ (t.op = 8 ∧ j = 1) ∧ ¬ (t.op = 11 ∧ j = 0); simp at h8 h11; omega
          rotate_left
          all_goals first
            | (have HV14 : Hid (RStrs w6 v1 (lv ++ vnames (bndAt t.op t.nm j))) := by show RStrs w6 v1 _; rw [(vn_no HJ.out.1 HJ.out.2).1, List.append_nil]; exact H1.out.below ((HE.out.tr HX.out).tr HE6.out)
               have HV15 : Hid (RStrs w6 v2 (ll ++ lnames (bndAt t.op t.nm j))) := by show RStrs w6 v2 _; rw [(vn_no HJ.out.1 HJ.out.2).2, List.append_nil]; exact H2.out.below ((HE.out.tr HX.out).tr HE6.out)
               have HW8 := HE6)
            | skip
          all_goals
            (with_reducible refine (HIH.out x _ _ _ _ u3 u4 _ _ xa xb _ (HK.out.below HW8.out) HV14.out HV15.out (HI.out.s1.below HW8.out) (HI.out.s2.below HW8.out) HI.out.o1 HI.out.o2 (by have := N1.out; have := HU.out; have := vn_len (bndAt t.op t.nm j); rw [List.length_append]; omega) (by have := N2.out; have := HU.out; have := ln_len (bndAt t.op t.nm j); rw [List.length_append]; omega) (by have := N3.out; have := HU.out; have := HNA.out; have := HI.out.n1; omega) (by have := N4.out; have := HU.out; have := HNB.out; have := HI.out.n2; omega)).mono ?_)
            rintro e w9 ⟨R1, R2, m1, m2, rfl, hres, hb9⟩
            have HI9 : Hid (FInv lv ll la1 lb1 (preA t (j + 1)) w9 R1 R2 m1 m2) := by show FInv lv ll la1 lb1 (preA t (j + 1)) w9 R1 R2 m1 m2; rw [HPS.out]; exact HI.out.step hres
            have HX9 : Hid (Ext w1 w9) := HX.out.tr (HW8.out.tr hb9)
            clear hres hb9
            go_wp2
            exact ⟨⟨j + 1, m1, m2, by omega, by go_num, HI9.out, HX9.out⟩, by simp [intOf]; omega⟩
        · have HI0 : Hid (FInv lv ll la1 lb1 (preC t 0) wr u3 u4 xa xb) := by show FInv lv ll la1 lb1 (preC t 0) wr u3 u4 xa xb; rw [← preA_end, ← show j = t.args.length by omega]; exact HI.out
          clear HI
          go_wp2
          clear t0 t1 t2 t3 t4 t5
          generalize wr = wl at *
          go_loopw [3, 4, 93] (fun s3 s4 i wq => ∃ (j2 : Nat) (ya yb : List Str), j2 ≤ t.cls.length ∧ i = .int .i64 j2 ∧ FInv lv ll la1 lb1 (preC t j2) wq s3 s4 ya yb ∧ Ext wl wq) (fun _ _ i _ => t.cls.length - (intOf i).toNat)
          case atStart => exact ⟨0, xa, xb, Nat.zero_le _, rfl, HI0.out, Ext.rf _⟩
          case round =>
            obtain ⟨j2, ya, yb, hj2, rfl, hinv, hb⟩ := hrel
            have HI := Lib.hid hinv
            have HX2 := Lib.hid hb
            clear hinv hb
            by_cases hlt2 : j2 < t.cls.length
            · obtain ⟨b', o', vn', xa', xc', rfl, hbl', yn', ys', y6, yt'⟩ := HT.out.clause hlt2
              have HU := Lib.hid (uC_at hlt2)
              have HPS := Lib.hid (preC_succ hlt2)
              generalize t.cls[j2] = cl at *
              obtain ⟨ns, y⟩ := cl
              dsimp only at *
              obtain ⟨-, ⟨Ax, cx, rfl, -, -⟩, ⟨Bx, dx, rfl, -, -⟩⟩ := yt'.form
              obtain ⟨An, cn, rfl, -, -⟩ := ys'.form
              have hX := HE.out.tr (HX.out.tr HX2.out)
              have HK := Lib.hid (yt'.below hX)
              have HNS := Lib.hid (ys'.below hX)
              have y6 := y6.below hX
              have c0 := hX.keep yn'
              have c1 := y6.c0
              have c2 := y6.c1
              have c3 := y6.c2
              have c4 := y6.c3
              have c5 := y6.c4
              have c6 := y6.c5
              clear y6 yt' yn' ys' hX
              have HE8 := Lib.hid (Ext.al wr (.cells #[.slice An ns.length cn, .int .i64 y.op, .int .i64 y.n, .string y.nm, .int .i64 y.ty, .slice Ax y.args.length cx, .slice Bx y.cls.length dx] 92))
              have HN8 := Lib.hid (heapNew wr (.cells #[.slice An ns.length cn, .int .i64 y.op, .int .i64 y.n, .string y.nm, .int .i64 y.ty, .slice Ax y.args.length cx, .slice Bx y.cls.length dx] 92))
              have HX8 : Hid (Ext w (wr.alloc (.cells #[.slice An ns.length cn, .int .i64 y.op, .int .i64 y.n, .string y.nm, .int .i64 y.ty, .slice Ax y.args.length cx, .slice Bx y.cls.length dx] 92))) := (HE.out.tr (HX.out.tr HX2.out)).tr HE8.out
              go_wp2
              generalize wr.alloc _ = w8 at *
              clear c0 c1 c2 c3 c4 c5 c6
              have p0 := cellAt HN8.out 0
              have p1 := cellAt HN8.out 1
              have p2 := cellAt HN8.out 2
              have p3 := cellAt HN8.out 3
              have p4 := cellAt HN8.out 4
              have p5 := cellAt HN8.out 5
              have p6 := cellAt HN8.out 6
              go_region_with (first
                | (go_at_call 45; (with_reducible refine (With_any v1 (.slice An ns.length cn) lv ns _ ((H1.out.below HX8.out).below (Ext.rf _).drew) ((HNS.out.below HE8.out).below (Ext.rf _).drew) H1.out.sizes HNS.out.sizes (by have := N1.out; have := HU.out; omega)).mono ?_); rintro e w9 ⟨V, rfl, hr, hb⟩; have HX9 : Hid (Ext w8 w9) := Ext.tr (b := w8.drew) (Ext.rf w8).drew hb; have HV := Lib.hid hr; clear hr hb p0 p1 p2 p3 p4 p5 p6; have p0 := HX9.out.keep (cellAt HN8.out 0); have p1 := HX9.out.keep (cellAt HN8.out 1); have p2 := HX9.out.keep (cellAt HN8.out 2); have p3 := HX9.out.keep (cellAt HN8.out 3); have p4 := HX9.out.keep (cellAt HN8.out 4); have p5 := HX9.out.keep (cellAt HN8.out 5); have p6 := HX9.out.keep (cellAt HN8.out 6))
                | (go_at_call 46; (with_reducible refine (HIH.out y _ _ V v2 u3 u4 (lv ++ ns) ll ya yb w9 (HK.out.below (HE8.out.tr HX9.out)) HV.out (H2.out.below (HX8.out.tr HX9.out)) (HI.out.s1.below (HE8.out.tr HX9.out)) (HI.out.s2.below (HE8.out.tr HX9.out)) HI.out.o1 HI.out.o2 (by have := N1.out; have := HU.out; rw [List.length_append]; omega) (by have := N2.out; have := HU.out; omega) (by have := N3.out; have := HU.out; have := HNA.out; have := HI.out.n1; omega) (by have := N4.out; have := HU.out; have := HNB.out; have := HI.out.n2; omega)).mono ?_); rintro e w10 ⟨R1, R2, m1, m2, rfl, hres, hb⟩; have HX10 : Hid (Ext w9 w10) := hb; have HRES := Lib.hid hres; clear hres hb p0 p1 p2 p3 p4 p5 p6))
              all_goals
                have HI9 : Hid (FInv lv ll la1 lb1 (preC t (j2 + 1)) w10 R1 R2 m1 m2) := by show FInv lv ll la1 lb1 (preC t (j2 + 1)) w10 R1 R2 m1 m2; rw [HPS.out]; exact HI.out.step (by show FRes (lv ++ ns) (ll ++ []) ya yb y w10 R1 R2 m1 m2; rw [List.append_nil]; exact HRES.out)
                have HX11 : Hid (Ext wl w10) := HX2.out.tr (HE8.out.tr (HX9.out.tr HX10.out))
                go_wp2
                exact ⟨⟨j2 + 1, m1, m2, by omega, by go_num, HI9.out, HX11.out⟩, by simp [intOf]; omega⟩
            · have HI9 : Hid (FInv lv ll la1 lb1 (kids t) wr u3 u4 ya yb) := by show FInv lv ll la1 lb1 (kids t) wr u3 u4 ya yb; rw [← preC_end, ← show j2 = t.cls.length by omega]; exact HI.out
              have HX11 : Hid (Ext w wr) := HE.out.tr (HX.out.tr HX2.out)
              go_wp2
              go_ret2
              exact ⟨_, _, ya, yb, rfl, HI9.out.whole HMA.out HMB.out HNA.out HNB.out, HX11.out⟩
end Go.Proofs.YtogmjgccopmplaaGreat

/- ref.go: Free. -/
namespace Go.Proofs.YtogmjgccopmplaaGreat
open Go.RowKit

theorem rstrs_nil (w : World) : RStrs w (.slice none 0 0) [] := ⟨none, 0, rfl, Nat.le_refl _, Nat.zero_le _, fun i s h => by cases h⟩
theorem sortedS_nil : SortedS [] := by unfold SortedS; exact List.Pairwise.nil

set_option maxHeartbeats 1000000 in
set_option maxRecDepth 100000 in
theorem refFree_any (k : Nat) (t : Tm) (va vc : Value) (w : World) (ht : RT w k t va vc) (hu : uT t ≤ 50000000) :
    Calls Tryz.prog 21 #[tV t va vc] w fun e w' => ∃ r1 r2 l1 l2, e = .returned (.tuple #[r1, r2]) ∧ FRes [] [] [] [] t w' r1 r2 l1 l2 ∧ Ext w w' := by
  have HT := Lib.hid ht; have HU := Lib.hid hu
  obtain ⟨_, ⟨Aa, ca, rfl, -, -⟩, ⟨Bb, cb, rfl, -, -⟩⟩ := ht.form
  clear ht hu
  have HE := Lib.hid (Ext.al w (.cells #[.int .i64 t.op, .int .i64 t.n, .string t.nm, .int .i64 t.ty, .slice Aa t.args.length ca, .slice Bb t.cls.length cb] 41))
  go_enter Tryz.func21, Tryz.ntmps21
  go_wp2_with fail
  generalize w.alloc _ = w1 at *
  (with_reducible refine (rfree_any k t _ _ _ _ _ _ [] [] [] [] w1 (HT.out.below HE.out) (rstrs_nil _) (rstrs_nil _) (rstrs_nil _) (rstrs_nil _) sortedS_nil sortedS_nil (by have := HU.out; simp; omega) (by have := HU.out; simp; omega) (by have := HU.out; simp; omega) (by have := HU.out; simp; omega)).mono ?_)
  rintro e w2 ⟨r1, r2, l1, l2, rfl, hres, hb⟩
  have HR := Lib.hid hres
  have HX := Lib.hid (HE.out.tr hb)
  clear hres hb
  go_wp2
  go_ret2
  exact ⟨r1, r2, l1, l2, rfl, HR.out, HX.out⟩

end Go.Proofs.YtogmjgccopmplaaGreat
