/- ref.go: Children, Depth, Nodes, Small. -/
import Derived.Test.YtogmjgccopmplaaGreatQ11
import Derived.Deep.RegionWith
import Derived.Carry
import Derived.MapKept
import Derived.Laws.StructEq
namespace Go.Proofs.YtogmjgccopmplaaGreat
open Go.RowKit
theorem Tryz.info43 : (Tryz.prog.info? 41).map (fun i => (i.zero, i.size, i.bytes)) = some (some (.agg #[.int .i64 0, .int .i64 0, .string ⟨#[]⟩, .int .i64 0, .slice none 0 0, .slice none 0 0]), 6, 88) := by kernel_rfl
theorem app_terms {w : World} {ops : Array Oper} {rest : List Oper} {o : Oper} {a : Act} {Q : Exit → Act → World → Prop} (hgd : o.guard = none) (s x : Operand)
    (ho : o.op = .call { callee := .builtin .append, args := #[s, x], argTypes := #[38, 38] }) (B : Nat) (v : Value) (L1 : List Trm) (hs : a.eval s = v) (hown : w.ownsRow B 41 6 v L1.length (cellsT L1))
    (A : Option Addr) (c : Nat) (L2 : List Trm) (hx : a.eval x = .slice A L2.length c) (hsrc : SrcN w A L2.length 6 (cellsT L2)) (h1 : ∀ u ∈ cellsT L2, u.oneCell' = true) (hn : L1.length + L2.length ≤ 1000000000) (hB : B ≤ w.heap.size)
    (h : ∀ v' w', w'.ownsRow B 41 6 v' (L1 ++ L2).length (cellsT (L1 ++ L2)) → w.grownBy w' v.ownBlock → wpList Tryz.prog ops Q rest (a.put o.dst v') w') : wpList Tryz.prog ops Q (o :: rest) a w := by
  refine wpList_plain hgd fun K hK => app_row (t := 38) (e := 41) (size := 6) (bytes := 88) Tryz.u40 Tryz.info43 (by decide) (by decide) s x ho B v L1.length (cellsT L1) hs hown A L2.length c (cellsT L2) hx hsrc h1 (by unfold maxLen; omega) (by omega) hB (fun v' w' h1 h2 _ => hK _ _ (h v' w' ?_ h2))
  rw [List.length_append, cellsT_append]; exact h1
theorem grown_ext' {w w' : World} {v : Value} {B e size : Nat} {n : Nat} {xs : List Value} (hg : w.grownBy w' v.ownBlock) (hv : w.ownsRow B e size v n xs) (hB : B ≤ w.heap.size) : Below B w w' :=
  Below.grown (Below.refl _ _) hg hB (fun j e => (hv.lt j e).1)
theorem SrcN.one {w : World} {b : Nat} {x : Trm} (h : w.heap[b]? = some (.cells #[.int .i64 x.1.op, .int .i64 x.1.n, .string x.1.nm, .int .i64 x.1.ty, x.2.1, x.2.2] 41 (0, 0))) : SrcN w (some ⟨b, 0, none⟩) 1 6 (cellsT [x]) := by
  refine .inr ⟨_, rfl, by simp [cellsT, cells1], fun j u hu => ?_⟩
  have hj : j < 6 := by have := (List.getElem?_eq_some_iff.1 hu).1; simpa [cellsT, cells1] using this
  rw [add_at, Nat.zero_add]
  match j, hj with
  | 0, _ => exact cellAt h 0 hu
  | 1, _ => exact cellAt h 1 hu
  | 2, _ => exact cellAt h 2 hu
  | 3, _ => exact cellAt h 3 hu
  | 4, _ => exact cellAt h 4 hu
  | 5, _ => exact cellAt h 5 hu
set_option maxHeartbeats 4000000 in
set_option maxRecDepth 100000 in
theorem Children_any (k : Nat) (t : Tm) (va vc : Value) (w : World) (ht : RT w (k + 1) t va vc) (hn : nT t ≤ 1000000) :
    Calls Tryz.prog 48 #[tV t va vc] w fun e w' => ∃ v, e = .returned v ∧ RTms w' k v (chT t) ∧ Ext w w' := by
  have HT := Lib.hid ht
  have HN : Hid (t.args.length + t.cls.length ≤ 1000000) := by
    show _ ≤ _
    have h1 := nT_kids t
    have h2 := nL_len (chT t)
    have h3 : (chT t).length = t.args.length + t.cls.length := by unfold chT; rw [List.length_append, List.length_map]
    omega
  obtain ⟨_, ⟨Aa, ca, rfl, hca, hma⟩, ⟨Bb, cb, rfl, hcb, hmb⟩⟩ := ht.form
  obtain ⟨L0, hl0, hr0, hs0⟩ := ht.rowA
  have hlen0 : L0.length = t.args.length := by rw [← hl0, List.length_map]
  rw [← hlen0] at hs0
  have HS0 := Lib.hid hs0; have HL0 := Lib.hid hl0; have HR0 := Lib.hid hr0; have HLN := Lib.hid hlen0
  clear ht hn hl0 hr0 hs0 hlen0
  unfold maxLen at hma hmb
  have HE := Lib.hid (Ext.al w (.cells #[.int .i64 t.op, .int .i64 t.n, .string t.nm, .int .i64 t.ty, .slice Aa t.args.length ca, .slice Bb t.cls.length cb] 41))
  have HB := Lib.hid (heapNew w (.cells #[.int .i64 t.op, .int .i64 t.n, .string t.nm, .int .i64 t.ty, .slice Aa t.args.length ca, .slice Bb t.cls.length cb] 41))
  have HS1 : Hid (SrcN (w.alloc (.cells #[.int .i64 t.op, .int .i64 t.n, .string t.nm, .int .i64 t.ty, .slice Aa t.args.length ca, .slice Bb t.cls.length cb] 41)) Aa L0.length 6 (cellsT L0)) := by
    rcases HS0.out with h | ⟨ad, h1, h2, h3⟩
    · exact .inl h
    · exact .inr ⟨ad, h1, h2, fun j u hu => HE.out.keep (h3 j u hu)⟩
  obtain ⟨x0, x1, x2, x3, x4, x5⟩ := cells6 HB.out
  have hnil : World.ownsRow (w.alloc (.cells #[.int .i64 t.op, .int .i64 t.n, .string t.nm, .int .i64 t.ty, .slice Aa t.args.length ca, .slice Bb t.cls.length cb] 41)) w.heap.size 41 6 (.slice none 0 0) ([] : List Trm).length (cellsT []) := ⟨by simp [cellsT], .inl ⟨rfl, rfl⟩⟩
  have HNIL := Lib.hid hnil
  clear hnil
  go_enter Tryz.func48, Tryz.ntmps48
  go_wp2_with (at_builtin; refine app_terms rfl _ _ rfl w.heap.size _ [] rfl HNIL.out Aa ca L0 (by rw [HLN.out]; rfl) HS1.out (cellsT_one (k := k) L0 HR0.out) (by have := HN.out; have := HLN.out; simp; omega) HE.out.size ?_)
  intro v2 w2 ho hg
  have hX : Ext _ w2 := ⟨hg.os, hg.tape, hg.output, hg.size, fun k hk => hg.block k hk (by simp [Value.ownBlock])⟩
  have HX2 := Lib.hid (HE.out.tr hX)
  have HO2 : Hid (w2.ownsRow w.heap.size 41 6 v2 L0.length (cellsT L0)) := ho
  have b2 := (hX.block _ (heap_lt HB.out)).trans HB.out
  clear ho hg hX x0 x1 x2 x3 x4 x5 HS1 HNIL
  obtain ⟨x0, x1, x2, x3, x4, x5⟩ := cells6 b2
  clear b2
  go_wp2
  clear x0 x1 x2 x3 x4 x5
  go_loopw [3, 12] (fun s i wr => ∃ (j : Nat) (L : List Trm), j ≤ t.cls.length ∧ i = .int .i64 j ∧ wr.ownsRow w.heap.size 41 6 s L.length (cellsT L) ∧ (∀ x ∈ L, RT w k x.1 x.2.1 x.2.2) ∧ L.map (·.1) = t.args ++ (t.cls.take j).map (·.2) ∧ Ext w wr) (fun _ i _ => t.cls.length - (intOf i).toNat)
  case atStart => exact ⟨0, L0, Nat.zero_le _, rfl, HO2.out, HR0.out, by rw [HL0.out]; simp, HX2.out⟩
  case round =>
    obtain ⟨j, L, hj, rfl, ho, hr, hl, hb⟩ := hrel
    have HO := Lib.hid ho; have HR := Lib.hid hr; have HL := Lib.hid hl; have HX := Lib.hid hb
    have HLEN : Hid (L.length = t.args.length + j) := by
      show _ = _
      have := congrArg List.length hl
      simp at this; omega
    clear ho hr hl hb
    by_cases hlt : j < t.cls.length
    · obtain ⟨b', o', vn', xa', xc', rfl, hbl', yn', ys', y6, yt'⟩ := HT.out.clause hlt
      have HTK : Hid ((t.cls.take (j + 1)).map (·.2) = (t.cls.take j).map (·.2) ++ [t.cls[j].2]) := by show _ = _; rw [List.take_succ_eq_append_getElem hlt, List.map_append]; rfl
      generalize t.cls[j] = cl at *
      obtain ⟨ns, y⟩ := cl
      dsimp only at *
      have HRY := Lib.hid yt'
      obtain ⟨-, ⟨Ax, cx, rfl, -, -⟩, ⟨Bx, dx, rfl, -, -⟩⟩ := yt'.form
      obtain ⟨An, cn, rfl, -, -⟩ := ys'.form
      have y6 := y6.below HX.out
      have c0 := HX.out.keep yn'
      have c1 := y6.c0
      have c2 := y6.c1
      have c3 := y6.c2
      have c4 := y6.c3
      have c5 := y6.c4
      have c6 := y6.c5
      clear y6 yt' yn' ys'
      have HE8 := Lib.hid (Ext.al2 wr (.cells #[.slice An ns.length cn, .int .i64 y.op, .int .i64 y.n, .string y.nm, .int .i64 y.ty, .slice Ax y.args.length cx, .slice Bx y.cls.length dx] 92) (.cells #[.int .i64 y.op, .int .i64 y.n, .string y.nm, .int .i64 y.ty, .slice Ax y.args.length cx, .slice Bx y.cls.length dx] 41))
      have hn8 := heapNew (wr.alloc (.cells #[.slice An ns.length cn, .int .i64 y.op, .int .i64 y.n, .string y.nm, .int .i64 y.ty, .slice Ax y.args.length cx, .slice Bx y.cls.length dx] 92)) (.cells #[.int .i64 y.op, .int .i64 y.n, .string y.nm, .int .i64 y.ty, .slice Ax y.args.length cx, .slice Bx y.cls.length dx] 41)
      rw [World.size_alloc] at hn8
      have HSO : Hid (SrcN _ (some ⟨wr.heap.size + 1, 0, none⟩) 1 6 (cellsT [(y, .slice Ax y.args.length cx, .slice Bx y.cls.length dx)])) := SrcN.one (x := (y, .slice Ax y.args.length cx, .slice Bx y.cls.length dx)) hn8
      clear hn8
      go_wp2_with (at_builtin; refine app_terms rfl _ _ rfl w.heap.size _ L rfl (own_below HO.out HE8.out) (some ⟨wr.heap.size + 1, 0, none⟩) 1 [(y, .slice Ax y.args.length cx, .slice Bx y.cls.length dx)] rfl HSO.out (cellsT_one (k := k) (w := w) [(y, .slice Ax y.args.length cx, .slice Bx y.cls.length dx)] (fun x hx => by rw [List.mem_singleton.1 hx]; exact HRY.out)) (by have := HN.out; have := HLEN.out; simp; omega) (Nat.le_trans HX.out.size HE8.out.size) ?_)
      intro v9 w9 ho9 hg9
      have HX9 : Hid (Ext w w9) := (HX.out.tr HE8.out).trans (grown_ext' hg9 (own_below HO.out HE8.out) (Nat.le_trans HX.out.size HE8.out.size))
      have HO9 : Hid (w9.ownsRow w.heap.size 41 6 v9 (L ++ [((y, .slice Ax y.args.length cx, .slice Bx y.cls.length dx) : Trm)]).length (cellsT (L ++ [((y, .slice Ax y.args.length cx, .slice Bx y.cls.length dx) : Trm)]))) := by show World.ownsRow _ _ _ _ _ _ _; rw [List.length_append]; exact ho9
      have HR9 : Hid (∀ x ∈ L ++ [((y, .slice Ax y.args.length cx, .slice Bx y.cls.length dx) : Trm)], RT w k x.1 x.2.1 x.2.2) := fun x hx => (List.mem_append.1 hx).elim (HR.out x) (fun hx => by rw [List.mem_singleton.1 hx]; exact HRY.out)
      have HL9 : Hid ((L ++ [((y, .slice Ax y.args.length cx, .slice Bx y.cls.length dx) : Trm)]).map (·.1) = t.args ++ (t.cls.take (j + 1)).map (·.2)) := by show _ = _; rw [List.map_append, HL.out, HTK.out, List.append_assoc]; rfl
      clear ho9 hg9 c0 c1 c2 c3 c4 c5 c6
      go_wp2
      exact ⟨⟨j + 1, L ++ [((y, .slice Ax y.args.length cx, .slice Bx y.cls.length dx) : Trm)], by omega, by go_num, HO9.out, HR9.out, HL9.out, HX9.out⟩, by simp [intOf]; omega⟩
    · have HV : Hid (RTms wr k u3 (chT t)) := by
        show RTms wr k u3 (chT t)
        have h1 := own_RTms HO.out (fun x hx => (HR.out x hx).below HX.out)
        rw [HL.out, show j = t.cls.length by omega, List.take_length] at h1
        exact h1
      go_wp2
      go_ret
      exact ⟨_, rfl, HV.out, HX.out⟩
set_option maxHeartbeats 2000000 in
set_option maxRecDepth 100000 in
theorem Depth_any : ∀ (k : Nat) (t : Tm) (va vc : Value) (w : World), RT w k t va vc → nT t ≤ 1000000 →
    Calls Tryz.prog 23 #[tV t va vc] w fun e w' => e = .returned (.int .i64 (dT t)) ∧ dT t ≤ nT t ∧ Ext w w' := by
  intro k
  induction k with
  | zero => intro t va vc w ht; exact ht.elim
  | succ k ih =>
    intro t va vc w ht hn
    have HT := Lib.hid ht; have HIH := Lib.hid ih; have HN := Lib.hid hn
    obtain ⟨_, ⟨Aa, ca, rfl, -, -⟩, ⟨Bb, cb, rfl, -, -⟩⟩ := ht.form
    clear ht ih hn
    have HK := Lib.hid (nT_kids t)
    have HD := Lib.hid (dT_kids t)
    have HLL := Lib.hid (nL_len (chT t))
    have HE := Lib.hid (Ext.al w (.cells #[.int .i64 t.op, .int .i64 t.n, .string t.nm, .int .i64 t.ty, .slice Aa t.args.length ca, .slice Bb t.cls.length cb] 41))
    go_enter Tryz.func23, Tryz.ntmps23
    go_wp2_with fail
    generalize w.alloc _ = w1 at *
    (with_reducible refine (Children_any k t _ _ w1 (HT.out.below HE.out) HN.out).mono ?_)
    rintro e w2 ⟨v, rfl, hv, hb⟩
    have HV := Lib.hid hv
    have HX := Lib.hid (HE.out.tr hb)
    obtain ⟨A, c, rfl, hc, hm⟩ := hv.form
    unfold maxLen at hm
    clear hv hb
    generalize hch : chT t = ch at *
    go_wp2
    go_loopw [3, 9] (fun s i wr => ∃ j : Nat, j ≤ ch.length ∧ i = .int .i64 j ∧ s = .int .i64 (dL (ch.take j)) ∧ (dL (ch.take j) ≤ nL (ch.take j)) ∧ Ext w2 wr) (fun _ i _ => ch.length - (intOf i).toNat)
    case atStart => exact ⟨0, Nat.zero_le _, rfl, rfl, by simp [dL, nL], Ext.rf _⟩
    case round =>
      obtain ⟨j, hj, rfl, rfl, hle, hb⟩ := hrel
      have HLE := Lib.hid hle
      have HX2 := Lib.hid hb
      clear hle hb
      by_cases hlt : j < ch.length
      · obtain ⟨b, o, xa, xc, rfl, hbl, y6, yt⟩ := HV.out.at_ hlt
        have HDT := Lib.hid (dL_take hlt)
        have HNT := Lib.hid (nL_take hlt)
        have HNL := Lib.hid (nL_take_le ch (j + 1))
        have HD0 := Lib.hid (dL_nonneg (ch.take j))
        have HDP := Lib.hid (dT_pos ch[j])
        have y6 := y6.below HX2.out
        have c0 := y6.c0
        have c1 := y6.c1
        have c2 := y6.c2
        have c3 := y6.c3
        have c4 := y6.c4
        have c5 := y6.c5
        have HKX := Lib.hid (yt.below HX2.out)
        obtain ⟨-, ⟨Ax, cx, rfl, -, -⟩, ⟨Bx, dx, rfl, -, -⟩⟩ := yt.form
        generalize ch[j] = x at *
        clear y6 yt
        have HE8 := Lib.hid (Ext.al wr (.cells #[.int .i64 x.op, .int .i64 x.n, .string x.nm, .int .i64 x.ty, .slice Ax x.args.length cx, .slice Bx x.cls.length dx] 41))
        go_wp2_with fail
        (with_reducible refine (HIH.out x _ _ _ (HKX.out.below HE8.out) (by have := HNT.out; have := HNL.out; have := HK.out; have := HN.out; omega)).mono ?_)
        rintro e w5 ⟨rfl, hdn, hb⟩
        have HX5 := Lib.hid (HX2.out.tr (HE8.out.tr hb))
        have HM : Hid (max (dL (ch.take j)) (dT x) = dL (ch.take (j + 1)) ∧ dL (ch.take (j + 1)) ≤ nL (ch.take (j + 1))) := by
          show _ ∧ _
          have := HDT.out; have := HNT.out; have := HLE.out; have := HD0.out; have := HDP.out
          constructor <;> omega
        clear hb hdn
        go_wp2
        exact ⟨⟨j + 1, by omega, by go_num, by rw [← HM.out.1], HM.out.2, HX5.out⟩, by simp [intOf]; omega⟩
      · have HJ : Hid (ch.take j = ch) := by show _ = _; rw [List.take_of_length_le (by omega)]
        have HR : Hid (0 ≤ dL ch ∧ dL ch ≤ nL ch ∧ nL ch ≤ 1000000) := by show _ ∧ _; have := HLE.out; rw [HJ.out] at this; have := dL_nonneg ch; have := HK.out; have := HN.out; omega
        rw [HJ.out]
        have h1 := HR.out
        generalize dL ch = d at *
        go_wp2
        go_ret
        exact ⟨ret_int (by rw [HD.out]; omega), by rw [HD.out, HK.out]; omega, HX.out.tr HX2.out⟩
set_option maxHeartbeats 2000000 in
set_option maxRecDepth 100000 in
theorem Nodes39_any : ∀ (k : Nat) (t : Tm) (va vc : Value) (w : World), RT w k t va vc → nT t ≤ 1000000 →
    Calls Tryz.prog 24 #[tV t va vc] w fun e w' => e = .returned (.int .i64 (nT t)) ∧ Ext w w' := by
  intro k
  induction k with
  | zero => intro t va vc w ht; exact ht.elim
  | succ k ih =>
    intro t va vc w ht hn
    have HT := Lib.hid ht; have HIH := Lib.hid ih; have HN := Lib.hid hn
    obtain ⟨_, ⟨Aa, ca, rfl, -, -⟩, ⟨Bb, cb, rfl, -, -⟩⟩ := ht.form
    clear ht ih hn
    have HK := Lib.hid (nT_kids t)
    have HLL := Lib.hid (nL_len (chT t))
    have HE := Lib.hid (Ext.al w (.cells #[.int .i64 t.op, .int .i64 t.n, .string t.nm, .int .i64 t.ty, .slice Aa t.args.length ca, .slice Bb t.cls.length cb] 41))
    go_enter Tryz.func24, Tryz.ntmps24
    go_wp2_with fail
    generalize w.alloc _ = w1 at *
    (with_reducible refine (Children_any k t _ _ w1 (HT.out.below HE.out) HN.out).mono ?_)
    rintro e w2 ⟨v, rfl, hv, hb⟩
    have HV := Lib.hid hv
    have HX := Lib.hid (HE.out.tr hb)
    obtain ⟨A, c, rfl, hc, hm⟩ := hv.form
    unfold maxLen at hm
    clear hv hb
    generalize hch : chT t = ch at *
    go_wp2
    go_loopw [3, 9] (fun s i wr => ∃ j : Nat, j ≤ ch.length ∧ i = .int .i64 j ∧ s = .int .i64 ((1 + nL (ch.take j) : Nat) : Int) ∧ Ext w2 wr) (fun _ i _ => ch.length - (intOf i).toNat)
    case atStart => exact ⟨0, Nat.zero_le _, rfl, by simp [nL], Ext.rf _⟩
    case round =>
      obtain ⟨j, hj, rfl, rfl, hb⟩ := hrel
      have HX2 := Lib.hid hb
      clear hb
      have HNLJ := Lib.hid (nL_take_le ch j)
      by_cases hlt : j < ch.length
      · obtain ⟨b, o, xa, xc, rfl, hbl, y6, yt⟩ := HV.out.at_ hlt
        have HNT := Lib.hid (nL_take hlt)
        have HNL := Lib.hid (nL_take_le ch (j + 1))
        have y6 := y6.below HX2.out
        have c0 := y6.c0
        have c1 := y6.c1
        have c2 := y6.c2
        have c3 := y6.c3
        have c4 := y6.c4
        have c5 := y6.c5
        have HKX := Lib.hid (yt.below HX2.out)
        obtain ⟨-, ⟨Ax, cx, rfl, -, -⟩, ⟨Bx, dx, rfl, -, -⟩⟩ := yt.form
        generalize ch[j] = x at *
        clear y6 yt
        have HE8 := Lib.hid (Ext.al wr (.cells #[.int .i64 x.op, .int .i64 x.n, .string x.nm, .int .i64 x.ty, .slice Ax x.args.length cx, .slice Bx x.cls.length dx] 41))
        go_wp2_with fail
        (with_reducible refine (HIH.out x _ _ _ (HKX.out.below HE8.out) (by have := HNT.out; have := HNL.out; have := HK.out; have := HN.out; omega)).mono ?_)
        rintro e w5 ⟨rfl, hb⟩
        have HX5 := Lib.hid (HX2.out.tr (HE8.out.tr hb))
        have h1 : 1 + nL (ch.take j) ≤ 1000000 := by have := HNLJ.out; have := HK.out; have := HN.out; omega
        have h2 : nT x ≤ 1000000 := by have := HNT.out; have := HNL.out; have := HK.out; have := HN.out; omega
        have HM : Hid (1 + nL (ch.take j) + nT x = 1 + nL (ch.take (j + 1))) := by show _ = _; rw [HNT.out]; omega
        clear hb
        generalize 1 + nL (ch.take j) = m1 at *
        generalize nT x = m2 at *
        go_wp2
        exact ⟨⟨j + 1, by omega, by go_num, by rw [← HM.out]; simp, HX5.out⟩, by simp [intOf]; omega⟩
      · have HJ : Hid (ch.take j = ch) := by show _ = _; rw [List.take_of_length_le (by omega)]
        rw [HJ.out, ← HK.out]
        go_wp2
        go_ret
        exact ⟨rfl, HX.out.tr HX2.out⟩
set_option maxHeartbeats 1000000 in
set_option maxRecDepth 100000 in
theorem RSmall_any (k : Nat) (t : Tm) (va vc : Value) (w : World) (ht : RT w k t va vc) :
    Calls Tryz.prog 17 #[tV t va vc] w fun e w' => e = .returned (.bool (sizeR t).2) ∧ Ext w w' := by
  have HT := Lib.hid ht
  obtain ⟨_, ⟨Aa, ca, rfl, -, -⟩, ⟨Bb, cb, rfl, -, -⟩⟩ := ht.form
  clear ht
  have HE := Lib.hid (Ext.al w (.cells #[.int .i64 t.op, .int .i64 t.n, .string t.nm, .int .i64 t.ty, .slice Aa t.args.length ca, .slice Bb t.cls.length cb] 41))
  have HB := Lib.hid (heapNew w (.cells #[.int .i64 t.op, .int .i64 t.n, .string t.nm, .int .i64 t.ty, .slice Aa t.args.length ca, .slice Bb t.cls.length cb] 41))
  have HS := Lib.hid (size_small t)
  generalize (sizeR t).2 = rr at *
  go_enter Tryz.func17, Tryz.ntmps17
  go_wp2_with fail
  generalize w.alloc _ = w1 at *
  (with_reducible refine (FitsX_any k t _ _ 600 _ (HT.out.below HE.out) (by omega) (by omega)).mono ?_)
  rintro e w2 ⟨rfl, hb⟩
  have HX2 := Lib.hid (HE.out.tr hb)
  have b2 := (hb.block _ (heap_lt HB.out)).trans HB.out
  obtain ⟨x0, x1, x2, x3, x4, x5⟩ := cells6 b2
  clear hb b2
  by_cases hq : nT t ≤ 600
  · have HQ := Lib.hid hq
    rw [show decide ((nT t : Int) ≤ 600) = true by rw [decide_eq_true_eq]; omega]
    have HS2 : Hid (rr = decide (dT t ≤ 24)) := by show _ = _; rw [HS.out, decide_eq_true hq]; rfl
    clear hq HS
    go_wp2_with fail
    (with_reducible refine (Depth_any k t _ _ _ (HT.out.below HX2.out) (by have := HQ.out; omega)).mono ?_)
    rintro e w3 ⟨rfl, -, hb⟩
    have HX3 := Lib.hid (HX2.out.tr hb)
    clear hb
    generalize dT t = d at *
    go_wp2
    go_ret
    exact ⟨ret_bool (by rw [HS2.out]), HX3.out⟩
  · rw [show decide ((nT t : Int) ≤ 600) = false by rw [decide_eq_false_iff_not]; omega]
    have HS2 : Hid (rr = false) := by show _ = _; rw [HS.out, decide_eq_false hq]; rfl
    clear hq HS
    go_wp2
    go_ret
    exact ⟨ret_bool (by rw [HS2.out]), HX2.out⟩
end Go.Proofs.YtogmjgccopmplaaGreat

/- ref.go: Few, Count, SameInts: what they answer. -/
namespace Go.Proofs.YtogmjgccopmplaaGreat
open Go.RowKit
def fewB (P : Pg) (n : Int) : Bool := decide (P.decls.length ≤ 40) && decide (P.funs.length ≤ 40) && P.funs.all fun f => decide ((nT f.body : Int) ≤ n)
def cntF : List Fn → Nat
  | [] => 0
  | f :: r => nT f.body + cntF r
end Go.Proofs.YtogmjgccopmplaaGreat

/- A set of strings, kept as a map to bools: look-up and store. -/
namespace Go.Proofs.YtogmjgccopmplaaGreat
open Go.RowKit
def SetAt (w : World) (b : Nat) (S : List ByteArray) : Prop :=
  ∃ es clock, w.heap[b]? = some (.map es clock) ∧ es.toList.map MapEntry.key = S.map Value.string ∧ ∀ e ∈ es.toList, e.val = .bool true
theorem findNow_set (k : ByteArray) : ∀ (es : List MapEntry) (S : List ByteArray) (i : Nat), es.map MapEntry.key = S.map Value.string → (∀ e ∈ es, e.val = .bool true) →
    (hasS S k = true → ∃ j, Instr.findNow .string (.string k) es i = some (some (j, .bool true))) ∧ (hasS S k = false → Instr.findNow .string (.string k) es i = some none)
  | [], [], i, _, _ => ⟨fun h => by simp [hasS] at h, fun _ => rfl⟩
  | [], _ :: _, i, h, _ => by simp at h
  | _ :: _, [], i, h, _ => by simp at h
  | e :: es, s :: S, i, h, hv => by
    simp only [List.map_cons, List.cons.injEq] at h
    obtain ⟨h1, h2⟩ := h
    have ih := findNow_set k es S (i + 1) h2 (fun e he => hv e (List.mem_cons_of_mem _ he))
    have hval := hv e (List.mem_cons_self ..)
    have hh : hasS (s :: S) k = ((k.toList == s.toList) || hasS S k) := rfl
    unfold Instr.findNow
    rw [h1, hh]
    simp only [Instr.sameNow, beq_toListBytes]
    cases hk : (k.toList == s.toList)
    · simpa using ih
    · simp [hval]
theorem run_lookup_set (t : TypeId) (kt vt : TypeId) (P : Program) (ht : P.underlying t = some (.map kt vt)) (hk : P.underlying kt = some .string) (w : World) (hz : (zeroValue vt).run P w = .ok (.bool false) w)
    (b : Nat) (S : List ByteArray) (h : SetAt w b S) (k : ByteArray) :
    (Instr.lookup t (.map (some b)) (.string k) false).run P w = .ok (.bool (hasS S k)) w := by
  obtain ⟨es, clock, hb, hkeys, hv⟩ := h
  obtain ⟨f1, f2⟩ := findNow_set k es.toList S 0 hkeys hv
  have hkey : MapKept.IsKey .string (.string k) := by simp [MapKept.IsKey]
  cases hc : hasS S k
  · have hf := f2 hc
    simp [Instr.lookup, run_underlying ht, MapKept.run_getObj_map hb, MapKept.run_checkKey hk hkey, MapKept.run_findKey hk hf, Result.andThen, hz]
  · obtain ⟨j, hf⟩ := f1 hc
    simp [Instr.lookup, run_underlying ht, MapKept.run_getObj_map hb, MapKept.run_checkKey hk hkey, MapKept.run_findKey hk hf, Result.andThen]
theorem run_update_set (t : TypeId) (kt vt : TypeId) (P : Program) (ht : P.underlying t = some (.map kt vt)) (hk : P.underlying kt = some .string) (w : World)
    (b : Nat) (S : List ByteArray) (h : SetAt w b S) (k : ByteArray) (hn : hasS S k = false) :
    ∃ w', (Instr.mapUpdate t (.map (some b)) (.string k) (.bool true)).run P w = .ok () w' ∧ SetAt w' b (S ++ [k]) ∧ Below b w w' ∧ (∀ j, j ≠ b → w'.heap[j]? = w.heap[j]?) ∧ w'.heap.size = w.heap.size := by
  obtain ⟨es, clock, hb, hkeys, hv⟩ := h
  obtain ⟨f1, f2⟩ := findNow_set k es.toList S 0 hkeys hv
  have hf := f2 hn
  have hlt : b < w.heap.size := (Array.getElem?_eq_some_iff.1 hb).1
  have hkey : MapKept.IsKey .string (.string k) := by simp [MapKept.IsKey]
  refine ⟨{ w with heap := w.heap.setIfInBounds b (.map (es.push { key := .string k, val := .bool true, born := clock }) (clock + 1)) }, ?_, ⟨es.push { key := .string k, val := .bool true, born := clock }, clock + 1, ?_, ?_, ?_⟩, ?_, ?_, ?_⟩
  · simp [Instr.mapUpdate, run_underlying ht, MapKept.run_getObj_map hb, MapKept.run_checkKey hk hkey, MapKept.run_findKey hk hf, MapKept.run_setObj_map _ hb, Result.andThen]
  · simp [hlt]
  · simp [hkeys]
  · intro e he
    simp at he
    rcases he with he | rfl
    · exact hv e (by simpa using he)
    · rfl
  · exact ⟨rfl, rfl, rfl, by simp, fun j hj => by simp [Array.getElem?_setIfInBounds]; omega⟩
  · intro j hj
    simp [Array.getElem?_setIfInBounds]
    omega
  · simp
theorem SetAt.new (w : World) : SetAt (w.alloc (.map #[] 0)) w.heap.size [] := ⟨#[], 0, (MapKept.heap_alloc w _).1, rfl, by simp⟩
theorem SetAt.lt {w : World} {b : Nat} {S : List ByteArray} (h : SetAt w b S) : b < w.heap.size := by
  obtain ⟨es, clock, hb, _⟩ := h
  exact (Array.getElem?_eq_some_iff.1 hb).1
theorem SetAt.ext {w w' : World} {b : Nat} {S : List ByteArray} (h : SetAt w b S) (hb : Ext w w') : SetAt w' b S := by
  have hlt := h.lt
  obtain ⟨es, clock, he, h1, h2⟩ := h
  exact ⟨es, clock, (hb.block b hlt).trans he, h1, h2⟩
/-- All that was there is as it was, but for block b. -/
structure ExtBut (b : Nat) (w w' : World) : Prop where
  os : w'.os = w.os
  tape : w'.tape = w.tape
  output : w'.output = w.output
  size : w.heap.size ≤ w'.heap.size
  block : ∀ k, k < w.heap.size → k ≠ b → w'.heap[k]? = w.heap[k]?
theorem ExtBut.rf (b : Nat) (w : World) : ExtBut b w w := ⟨rfl, rfl, rfl, Nat.le_refl _, fun _ _ _ => rfl⟩
theorem Ext.but {w w' : World} (h : Ext w w') (b : Nat) : ExtBut b w w' := ⟨h.os, h.tape, h.output, h.size, fun k hk _ => h.block k hk⟩
theorem ExtBut.tr {b : Nat} {w1 w2 w3 : World} (h : ExtBut b w1 w2) (k : ExtBut b w2 w3) : ExtBut b w1 w3 :=
  ⟨k.os.trans h.os, k.tape.trans h.tape, k.output.trans h.output, Nat.le_trans h.size k.size, fun i hi hn => (k.block i (Nat.lt_of_lt_of_le hi h.size) hn).trans (h.block i hi hn)⟩
theorem ExtBut.below {b : Nat} {w w' : World} (h : ExtBut b w w') (hb : b ≤ w.heap.size) : Below b w w' :=
  ⟨h.os, h.tape, h.output, h.size, fun k hk => h.block k (by omega) (by omega)⟩
theorem ExtBut.cell {b : Nat} {w w' : World} (h : ExtBut b w w') {p : Addr} {v : Value} (hv : w.cell? p = some v) (hp : p.block ≠ b) : w'.cell? p = some v :=
  (World.cell?_of_block (w := w) (h.block p.block (cell_lt hv) hp)).trans hv
theorem set_ne_cell {w : World} {b : Nat} {S : List ByteArray} (h : SetAt w b S) {p : Addr} {v : Value} (hv : w.cell? p = some v) : p.block ≠ b := by
  obtain ⟨es, clock, he, _⟩ := h
  rintro rfl
  unfold World.cell? at hv
  rw [he] at hv
  cases hv
/-- A cell is no place of the set's. -/
theorem ExtBut.keep {b : Nat} {w w' : World} {S : List ByteArray} (h : ExtBut b w w') (hs : SetAt w b S) {p : Addr} {v : Value} (hv : w.cell? p = some v) : w'.cell? p = some v :=
  h.cell hv (set_ne_cell hs hv)
section
variable {w w' : World} {v : Value} {b : Nat} {S : List ByteArray}
theorem RArgs.but {l : List Arg} (h : RArgs w v l) (hb : ExtBut b w w') (hs : SetAt w b S) : RArgs w' v l := by
  obtain ⟨A, c, rfl, h1, h2, h3⟩ := h
  refine ⟨A, c, rfl, h1, h2, fun i a hi => ?_⟩
  obtain ⟨b, o, rfl, hlt, h4, h5⟩ := h3 i a hi
  exact ⟨b, o, rfl, Nat.lt_of_lt_of_le hlt hb.size, hb.keep hs h4, hb.keep hs h5⟩
theorem RXtors.but {l : List Xtor} (h : RXtors w v l) (hb : ExtBut b w w') (hs : SetAt w b S) : RXtors w' v l := by
  obtain ⟨A, c, rfl, h1, h2, h3⟩ := h
  refine ⟨A, c, rfl, h1, h2, fun i a hi => ?_⟩
  obtain ⟨b, o, va, rfl, hlt, h4, h5, h6, h7⟩ := h3 i a hi
  exact ⟨b, o, va, rfl, Nat.lt_of_lt_of_le hlt hb.size, hb.keep hs h4, hb.keep hs h5, h6.but hb hs, h7⟩
theorem RDecls.but {l : List Decl} (h : RDecls w v l) (hb : ExtBut b w w') (hs : SetAt w b S) : RDecls w' v l := by
  obtain ⟨A, c, rfl, h1, h2, h3⟩ := h
  refine ⟨A, c, rfl, h1, h2, fun i a hi => ?_⟩
  obtain ⟨b, o, va, rfl, hlt, h4, h5, h6, h7, h8⟩ := h3 i a hi
  exact ⟨b, o, va, rfl, Nat.lt_of_lt_of_le hlt hb.size, hb.keep hs h4, hb.keep hs h5, hb.keep hs h6, h7.but hb hs, h8⟩
end
set_option maxRecDepth 100000 in
/-- 'nameSet.add': new names are added and told. -/
theorem add_any (b : Nat) (S : List ByteArray) (k : ByteArray) (w : World) (h : SetAt w b S) :
    Calls Tryz.prog 152 #[.map (some b), .string k] w fun e w' => e = .returned (.bool (!hasS S k)) ∧ SetAt w' b (if hasS S k then S else S ++ [k]) ∧ ExtBut b w w' := by
  have hz : (zeroValue 4).run Tryz.prog w = .ok (.bool false) w := by kernel_rfl
  have hl := run_lookup_set 194 9 4 Tryz.prog Tryz.underlying194 Tryz.underlying9 w hz b S h k
  have HA := Lib.hid h
  clear h
  cases hc : hasS S k
  · rw [hc] at hl
    obtain ⟨w1, hu, hs, hb1, hoth, hsz⟩ := run_update_set 194 9 4 Tryz.prog Tryz.underlying194 Tryz.underlying9 w b S HA.out k hc
    have HS := Lib.hid hs; clear hs
    have HX : Hid (ExtBut b w w1) := ⟨hb1.os, hb1.tape, hb1.output, hb1.size, fun k _ hk => hoth k hk⟩
    clear hb1 hoth hsz hc hz
    go_enter Tryz.func152, Tryz.ntmps152
    go_wp2
    go_ret
    exact ⟨rfl, HS.out, HX.out⟩
  · rw [hc] at hl
    clear hc
    go_enter Tryz.func152, Tryz.ntmps152
    go_wp2
    go_ret
    exact ⟨rfl, HA.out, ExtBut.rf _ _⟩
end Go.Proofs.YtogmjgccopmplaaGreat

namespace Go.Proofs.YtogmjgccopmplaaGreat
open Go.RowKit
theorem hasConsumer_any (v : Value) (l : List Arg) (w : World) (h : RArgs w v l) :
    Calls Tryz.prog 143 #[v] w fun e w' => e = .returned (.bool (hasCo l)) ∧ Below w.heap.size w w' := by
  have HR := Lib.hid h
  obtain ⟨A, c, rfl, hc, hm, hcell⟩ := h
  clear hcell
  unfold maxLen at hm
  go_enter Tryz.func143, Tryz.ntmps143
  go_wp2
  go_loopw [7] (fun i wr => ∃ k : Nat, k ≤ l.length ∧ i = .int .i64 k ∧ Below w.heap.size w wr ∧ hasCo l = hasCo (l.drop k)) (fun i _ => l.length - (intOf i).toNat)
  case atStart => exact ⟨0, Nat.zero_le _, rfl, Below.refl _ _, rfl⟩
  case round =>
    obtain ⟨k, hk, rfl, hb, hno⟩ := hrel
    have HN := Lib.hid hno; have HB := Lib.hid hb; clear hno hb
    by_cases hlt : k < l.length
    · obtain ⟨b, o, rfl, hbl, h0, h1⟩ := HR.out.at_ hlt
      have HD := Lib.hid (drop_step hlt)
      have h0 := (HB.out.cell hbl).trans h0
      have h1 := (HB.out.cell hbl).trans h1
      generalize l[k] = a at *
      go_wp2
      · have q : a.co = true := by assumption
        go_ret
        exact ⟨ret_bool (by rw [HN.out, HD.out]; simp [hasCo, q]), HB.out.alloc HB.out.size _⟩
      · have q : a.co = false := by assumption
        go_roundw
        case rel => exact ⟨k + 1, by omega, by go_num, HB.out.alloc HB.out.size _, by rw [HN.out, HD.out]; simp [hasCo, q]⟩
        case measure => simp [intOf]; omega
    · go_wp2
      go_ret
      exact ⟨ret_bool (by rw [HN.out, drop_end hlt]; rfl), HB.out⟩
theorem ends_any (v : Value) (l : List Arg) (w : World) (h : RArgs w v l) :
    Calls Tryz.prog 124 #[v] w fun e w' => e = .returned (.bool (endsB l)) ∧ Below w.heap.size w w' := by
  have HR := Lib.hid h
  obtain ⟨A, c, rfl, hc, hm, hcell⟩ := h
  clear hcell
  unfold maxLen at hm
  have HE : Hid (endsB l = (lastCo l && !hasCo (l.take (l.length - 1)))) := rfl
  by_cases h0 : 0 < l.length
  · obtain ⟨b, o, rfl, hbl, h1, h2⟩ := HR.out.at_ (k := l.length - 1) (by omega)
    have HL := Lib.hid (lastCo_eq h0)
    have HT := Lib.hid (HR.out.take (n := l.length - 1) (by omega))
    generalize l[l.length - 1] = a at *
    go_enter Tryz.func124, Tryz.ntmps124
    go_wp2_with (go_at_call 143; (with_reducible refine (hasConsumer_any _ _ _ HT.out).mono ?_); rintro e w' ⟨rfl, hb⟩)
    · have q : a.co = true := by assumption
      go_ret
      exact ⟨ret_bool (by rw [HE.out, HL.out, q]; rfl), hb⟩
    · have q : ¬ a.co = true := by assumption
      go_ret
      exact ⟨ret_bool (by rw [HE.out, HL.out]; simp [q]), Below.refl _ _⟩
  · have HL := Lib.hid (lastCo_nil h0)
    go_enter Tryz.func124, Tryz.ntmps124
    go_wp2
    go_ret
    exact ⟨ret_bool (by rw [HE.out, HL.out]; rfl), Below.refl _ _⟩
theorem Consumers_any (va : Value) (x : Xtor) (w : World) (h : RArgs w va x.args) :
    Calls Tryz.prog 72 #[.agg #[.string x.name, va]] w fun e w' => e = .returned (.int .i64 (nCo x.args)) ∧ Below w.heap.size w w' := by
  generalize x.args = l at *
  have HR := Lib.hid h
  obtain ⟨A, c, rfl, hc, hm, hcell⟩ := h
  clear hcell
  unfold maxLen at hm
  go_enter Tryz.func72, Tryz.ntmps72
  go_wp2
  have hB1 : Below w.heap.size w (w.alloc (Obj.cells #[Value.string x.name, Value.slice A l.length c] 67)) := (Below.refl _ _).alloc (Nat.le_refl _) _
  generalize w.alloc _ = w1 at *
  have HB1 := Lib.hid hB1; clear hB1
  have HR1 := Lib.hid (HR.out.below HB1.out)
  go_loopw [3, 9] (fun n i wr => ∃ (k q : Nat), k ≤ l.length ∧ q ≤ k ∧ i = .int .i64 k ∧ n = .int .i64 q ∧ Below w1.heap.size w1 wr ∧ nCo l = q + nCo (l.drop k)) (fun _ i _ => l.length - (intOf i).toNat)
  case atStart => exact ⟨0, 0, Nat.zero_le _, Nat.le_refl _, rfl, rfl, Below.refl _ _, by simp⟩
  case round =>
    obtain ⟨k, q, hk, hq, rfl, rfl, hb, hno⟩ := hrel
    have HN := Lib.hid hno; have HB := Lib.hid hb; clear hno hb
    by_cases hlt : k < l.length
    · obtain ⟨b, o, rfl, hbl, h0, h1⟩ := HR1.out.at_ hlt
      have HD := Lib.hid (drop_step hlt)
      have h0 := (HB.out.cell hbl).trans h0
      have h1 := (HB.out.cell hbl).trans h1
      generalize l[k] = a at *
      go_wp2
      · have e : a.co = true := by assumption
        go_roundw
        case rel => exact ⟨k + 1, q + 1, by omega, by omega, by go_num, by go_num, HB.out.alloc HB.out.size _, by rw [HN.out, HD.out]; simp [nCo, e]; omega⟩
        case measure => simp [intOf]; omega
      · have e : a.co = false := by assumption
        go_roundw
        case rel => exact ⟨k + 1, q, by omega, by omega, by go_num, by go_num, HB.out.alloc HB.out.size _, by rw [HN.out, HD.out]; simp [nCo, e]⟩
        case measure => simp [intOf]; omega
    · go_wp2
      go_ret
      exact ⟨ret_int (by rw [HN.out, drop_end hlt]; simp [nCo]), HB1.out.trans (HB.out.mono HB1.out.size)⟩
theorem Ends_any (va : Value) (x : Xtor) (w : World) (h : RArgs w va x.args) :
    Calls Tryz.prog 71 #[.agg #[.string x.name, va]] w fun e w' => e = .returned (.bool (endsB x.args)) ∧ Below w.heap.size w w' := by
  have HE := Lib.hid (endsB_eq x.args)
  have hb1 : Below w.heap.size w (w.alloc (Obj.cells #[Value.string x.name, va] 67)) := (Below.refl _ _).alloc (Nat.le_refl _) _
  have HB1 := Lib.hid hb1
  have HR := Lib.hid (h.below hb1)
  clear hb1
  have hl1 : nCo x.args = 1 → 0 < x.args.length := by
    intro e
    rcases Nat.eq_zero_or_pos x.args.length with h0 | h0
    · rw [List.eq_nil_of_length_eq_zero h0] at e; cases e
    · exact h0
  have HL1 := Lib.hid hl1; clear hl1
  have hc0 : (w.alloc (Obj.cells #[Value.string x.name, va] 67)).cell? ⟨w.heap.size, 0, none⟩ = some (.string x.name) := by
    rw [World.cell?_alloc_at _ _ _ _ rfl]; rfl
  have hc1 : (w.alloc (Obj.cells #[Value.string x.name, va] 67)).cell? ⟨w.heap.size, 1, none⟩ = some va := by
    rw [World.cell?_alloc_at _ _ _ _ rfl]; rfl
  go_enter Tryz.func71, Tryz.ntmps71
  go_wp2_with fail
  (with_reducible refine (Consumers_any _ _ _ HR.out).mono ?_)
  rintro e w2 ⟨rfl, hb2⟩
  have HC0 := Lib.hid ((hb2.cell (p := ⟨w.heap.size, 0, none⟩) (by simp)).trans hc0)
  have hd1 := ((hb2.cell (p := ⟨w.heap.size, 1, none⟩) (by simp)).trans hc1)
  have HR2 := Lib.hid (HR.out.below hb2)
  have HB2 := Lib.hid (HB1.out.trans (hb2.mono HB1.out.size))
  clear hb2 hc0 hc1 h
  by_cases h1 : nCo x.args = 1
  · have h0 := HL1.out h1
    have HL := Lib.hid (lastCo_eq h0)
    have hr2 := HR2.out
    obtain ⟨A, c, rfl, hc, hm, hcell⟩ := hr2
    clear hcell
    unfold maxLen at hm
    obtain ⟨b, o, rfl, hbl, h3, h4⟩ := HR2.out.at_ (k := x.args.length - 1) (by omega)
    generalize x.args[x.args.length - 1] = a at *
    have hn : ((nCo x.args : Int) == 1) = true := by simp [h1]
    have H1 := Lib.hid h1; clear h1
    go_wp2
    go_ret
    exact ⟨ret_bool (by rw [HE.out, HL.out, H1.out]; simp), HB2.out⟩
  · have hn : ((nCo x.args : Int) == 1) = false := by simp; omega
    have H1 := Lib.hid h1; clear h1
    go_wp2
    go_ret
    exact ⟨ret_bool (by rw [HE.out]; simp [H1.out]), HB2.out⟩
/-- A declaration as a value. -/
def RDecl (w : World) (v : Value) (d : Decl) : Prop := ∃ va, v = .agg #[.string d.name, .bool d.codata, va] ∧ RXtors w va d.xtors ∧ d.name.size ≤ maxLen
theorem isSource_any (v : Value) (d : Decl) (w : World) (h : RDecl w v d) :
    Calls Tryz.prog 119 #[v] w fun e w' => e = .returned (.bool (srcD d)) ∧ Below w.heap.size w w' := by
  obtain ⟨va, rfl, hx, hnm⟩ := h
  have HS : Hid (srcD d = d.xtors.all (srcX d.codata)) := rfl
  obtain ⟨nm, co, l⟩ := d
  dsimp only at *
  have HR := Lib.hid hx
  obtain ⟨A, c, rfl, hc, hm, hcell⟩ := hx
  clear hcell
  unfold maxLen at hm
  go_enter Tryz.func119, Tryz.ntmps119
  go_wp2
  have hB1 : Below w.heap.size w (w.alloc (Obj.cells #[Value.string nm, Value.bool co, Value.slice A l.length c] 72)) := (Below.refl _ _).alloc (Nat.le_refl _) _
  have hc1 : (w.alloc (Obj.cells #[Value.string nm, Value.bool co, Value.slice A l.length c] 72)).cell? ⟨w.heap.size, 1, none⟩ = some (.bool co) := by
    rw [World.cell?_alloc_at _ _ _ _ rfl]; rfl
  have hz : w.heap.size < (w.alloc (Obj.cells #[Value.string nm, Value.bool co, Value.slice A l.length c] 72)).heap.size := by simp
  generalize w.alloc _ = w1 at *
  have HB1 := Lib.hid hB1; clear hB1
  have HR1 := Lib.hid (HR.out.below HB1.out)
  go_loopw [8] (fun i wr => ∃ k : Nat, k ≤ l.length ∧ i = .int .i64 k ∧ Below w1.heap.size w1 wr ∧ l.all (srcX co) = (l.drop k).all (srcX co)) (fun i _ => l.length - (intOf i).toNat)
  case atStart => exact ⟨0, Nat.zero_le _, rfl, Below.refl _ _, by simp⟩
  case round =>
    obtain ⟨k, hk, rfl, hb, hno⟩ := hrel
    have HN := Lib.hid hno; have HB := Lib.hid hb; clear hno hb
    have hc1 := (HB.out.cell (p := ⟨w.heap.size, 1, none⟩) hz).trans hc1
    by_cases hlt : k < l.length
    · obtain ⟨b, o, va, rfl, hbl, h0, h1, h2, h3⟩ := HR1.out.at_ hlt
      have HD := Lib.hid (drop_step hlt)
      have h0 := (HB.out.cell hbl).trans h0
      have h1 := (HB.out.cell hbl).trans h1
      generalize l[k] = a at *
      have HA := Lib.hid (h2.below HB.out); clear h2
      obtain ⟨A2, c2, rfl, -⟩ := HA.out.form
      have hzr : w.heap.size < wr.heap.size := Nat.lt_of_lt_of_le hz HB.out.size
      have HX1 : Hid (co = true → srcX co a = endsB a.args) := fun e => by simp [srcX, e]
      have HX2 : Hid (co = false → srcX co a = !hasCo a.args) := fun e => by simp [srcX, e]
      have hal : Below wr.heap.size wr (wr.alloc (Obj.cells #[Value.string a.name, Value.slice A2 a.args.length c2] 67)) := (Below.refl _ _).alloc (Nat.le_refl _) _
      have HW := Lib.hid (HB1.out.trans ((HB.out.trans (hal.mono HB.out.size)).mono HB1.out.size))
      have HV := Lib.hid (HB.out.trans (hal.mono HB.out.size))
      clear hal
      cases co
      · have HX := Lib.hid (HX2.out rfl); clear HX1 HX2
        go_wp2_with (go_at_call 143; (with_reducible refine (hasConsumer_any _ _ _ (HA.out.below ((Below.refl _ _).alloc (Nat.le_refl _) _))).mono ?_); rintro e w' ⟨rfl, hb2⟩)
        · have q : hasCo a.args = true := by assumption
          go_ret
          exact ⟨ret_bool (by rw [HS.out, HN.out, HD.out]; simp [HX.out, q]), HW.out.trans (hb2.mono HW.out.size)⟩
        · have q : hasCo a.args = false := by assumption
          go_roundw
          case rel => exact ⟨k + 1, by omega, by go_num, HV.out.trans (hb2.mono HV.out.size), by rw [HN.out, HD.out]; simp [HX.out, q]⟩
          case measure => simp [intOf]; omega
      · have HX := Lib.hid (HX1.out rfl); clear HX1 HX2
        have hc4 := (Ext.al wr (Obj.cells #[Value.string a.name, Value.slice A2 a.args.length c2] 67)).keep hc1
        go_wp2_with (go_at_call 124; (with_reducible refine (ends_any _ _ _ (HA.out.below (Ext.al _ _))).mono ?_); rintro e w' ⟨rfl, hb2⟩; have hc3 := Ext.keep hb2 hc4)
        · have q : endsB a.args = true := by assumption
          go_roundw
          case rel => exact ⟨k + 1, by omega, by go_num, HV.out.trans (hb2.mono HV.out.size), by rw [HN.out, HD.out]; simp [HX.out, q]⟩
          case measure => simp [intOf]; omega
        · have q : ¬ endsB a.args = true := by assumption
          go_ret
          exact ⟨ret_bool (by rw [HS.out, HN.out, HD.out]; simp [HX.out, q]), HW.out.trans (hb2.mono HW.out.size)⟩
    · go_wp2
      go_ret
      exact ⟨ret_bool (by rw [HS.out, HN.out, drop_end hlt]; rfl), HB1.out.trans (HB.out.mono HB1.out.size)⟩
theorem srcX_t (a : Xtor) : srcX true a = endsB a.args := rfl
theorem srcX_f (a : Xtor) : srcX false a = !hasCo a.args := rfl
theorem RSource_any (v : Value) (l : List Decl) (w : World) (h : RDecls w v l) :
    Calls Tryz.prog 35 #[v] w fun e w' => e = .returned (.bool (srcB l)) ∧ Ext w w' := by
  have HS : Hid (srcB l = l.all srcD) := rfl
  have HR := Lib.hid h
  obtain ⟨A, c, rfl, hc, hm⟩ := h.form
  clear h
  unfold maxLen at hm
  go_enter Tryz.func35, Tryz.ntmps35
  go_wp2
  go_loopw [9] (fun i wr => ∃ k : Nat, k ≤ l.length ∧ i = .int .i64 k ∧ Ext w wr ∧ l.all srcD = (l.drop k).all srcD) (fun i _ => l.length - (intOf i).toNat)
  case atStart => exact ⟨0, Nat.zero_le _, rfl, Ext.rf _, by simp⟩
  case round =>
    obtain ⟨k, hk, rfl, hb, hno⟩ := hrel
    obtain ⟨wo, rfl⟩ : ∃ wo : World, wo = wr := ⟨_, rfl⟩
    have HN := Lib.hid hno; have HB := Lib.hid hb; clear hno hb
    by_cases hlt : k < l.length
    · have HRk := Lib.hid (HR.out.below HB.out)
      obtain ⟨b, o, vx, rfl, hbl, h0, h1, h2, h3, h4⟩ := HRk.out.at_ hlt
      have HD := Lib.hid (drop_step hlt)
      have HSd : Hid (srcD l[k] = l[k].xtors.all (srcX l[k].codata)) := rfl
      generalize l[k] = d at *
      obtain ⟨nm, co, xs⟩ := d
      dsimp only at *
      obtain ⟨A2, c2, rfl, hc2, hm2⟩ := h3.form
      unfold maxLen at hm2
      have HX := Lib.hid h3; clear h3
      go_wp2
      have hc1 : (wo.alloc (Obj.cells #[Value.string nm, Value.bool co, Value.slice A2 xs.length c2] 72)).cell? ⟨wo.heap.size, 1, none⟩ = some (.bool co) := by
        rw [World.cell?_alloc_at _ _ _ _ rfl]; rfl
      have hE1 := Ext.al wo (Obj.cells #[Value.string nm, Value.bool co, Value.slice A2 xs.length c2] 72)
      generalize wo.alloc _ = w1 at *
      have HE1 := Lib.hid hE1; clear hE1
      have HX1 := Lib.hid (HX.out.below HE1.out)
      go_loopw [16] (fun i wr => ∃ j : Nat, j ≤ xs.length ∧ i = .int .i64 j ∧ Ext w1 wr ∧ xs.all (srcX co) = (xs.drop j).all (srcX co)) (fun i _ => xs.length - (intOf i).toNat)
      case atStart => exact ⟨0, Nat.zero_le _, rfl, Ext.rf _, by simp⟩
      case round =>
        obtain ⟨j, hj, rfl, hb2, hno2⟩ := hrel
        have HN2 := Lib.hid hno2; have HB2 := Lib.hid hb2; clear hno2 hb2
        have hc1 := HB2.out.keep hc1
        by_cases hlt2 : j < xs.length
        · have HX2 := Lib.hid (HX1.out.below HB2.out)
          obtain ⟨b2, o2, va, rfl, hbl2, g0, g1, g2, g3⟩ := HX2.out.at_ hlt2
          have HD2 := Lib.hid (drop_step hlt2)
          generalize xs[j] = x at *
          obtain ⟨A3, c3, rfl, -⟩ := g2.form
          have hE2 := Ext.al wr (Obj.cells #[Value.string x.name, Value.slice A3 x.args.length c3] 67)
          have HE2 := Lib.hid (HB2.out.tr hE2)
          have HA := Lib.hid (g2.below hE2); clear g2
          have hc2' := hE2.keep hc1
          clear hE2
          cases co
          · go_wp2_with (go_at_call 72; (with_reducible refine (Consumers_any _ _ _ HA.out).mono ?_); rintro e w' ⟨rfl, hb2⟩)
            · have q : 0 < nCo x.args := by omega
              go_ret
              exact ⟨ret_bool (by rw [HS.out, HN.out, HD.out, List.all_cons, HSd.out, HN2.out, HD2.out, List.all_cons, srcX_f, hasCo_iff]; simp [q]), HB.out.tr (HE1.out.tr (HE2.out.tr hb2))⟩
            · have q : ¬ 0 < nCo x.args := by omega
              go_roundw
              case rel => exact ⟨j + 1, by omega, by go_num, HE2.out.tr hb2, by rw [HN2.out, HD2.out, List.all_cons, srcX_f, hasCo_iff]; simp [q]⟩
              case measure => simp [intOf]; omega
          · go_wp2_with (go_at_call 71; (with_reducible refine (Ends_any _ _ _ HA.out).mono ?_); rintro e w' ⟨rfl, hb2⟩; have hc3 := Ext.keep hb2 hc2')
            · have q : endsB x.args = true := by assumption
              go_roundw
              case rel => exact ⟨j + 1, by omega, by go_num, HE2.out.tr hb2, by rw [HN2.out, HD2.out, List.all_cons, srcX_t, q]; rfl⟩
              case measure => simp [intOf]; omega
            · have q : endsB x.args = false := by simpa using ‹¬ endsB x.args = true›
              go_ret
              exact ⟨ret_bool (by rw [HS.out, HN.out, HD.out, List.all_cons, HSd.out, HN2.out, HD2.out, List.all_cons, srcX_t, q]; simp), HB.out.tr (HE1.out.tr (HE2.out.tr hb2))⟩
        · go_wp2
          go_roundw
          case rel => exact ⟨k + 1, by omega, by go_num, HB.out.tr (HE1.out.tr HB2.out), by rw [HN.out, HD.out, List.all_cons, HSd.out, HN2.out, drop_end hlt2]; rfl⟩
          case measure => simp [intOf]; omega
    · go_wp2
      go_ret
      exact ⟨ret_bool (by rw [HS.out, HN.out, drop_end hlt]; rfl), HB.out⟩
end Go.Proofs.YtogmjgccopmplaaGreat
