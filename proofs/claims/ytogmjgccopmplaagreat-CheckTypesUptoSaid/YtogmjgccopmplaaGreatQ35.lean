/- The reference of layer 4: children. -/
import Derived.Test.YtogmjgccopmplaaGreatQ34
import Derived.Deep.Cut
import Derived.Deep.DeepCutAuto
namespace Go.Proofs.YtogmjgccopmplaaGreat
open Go.RowKit
theorem KR.zero (w : World) : KR w w (.slice none 0 0) (.slice none 0 0) [] [] :=
  ⟨⟨rfl, .inl ⟨rfl, rfl⟩⟩, ⟨rfl, .inl ⟨rfl, rfl⟩⟩, (fun x h => by cases h), Ext.rf _⟩
theorem range_snoc (n : Nat) : List.range (n + 1) = List.range n ++ [n] := List.range_succ
theorem one_prm {w : World} {g : Nat} {s : Str} {y : Int} (h : w.heap[g]? = some (.cells #[.string s, .int .i64 y] 74 (0, 0))) (hs : s.size ≤ maxLen) : RPrms w (.slice (some ⟨g, 0, none⟩) 1 1) [⟨s, y⟩] :=
  ⟨_, 1, rfl, Nat.le_refl _, by decide, fun i a hi => by
    match i, hi with
    | 0, hi => obtain rfl := Option.some.inj hi; exact ⟨_, 0, rfl, heap_lt h, cellAt h 0, cellAt h 1, hs⟩⟩
theorem SPr.setN {w0 W : World} {v : Value} {l : List Prm} {r T : Nat} {c : Array Value} (h : SPr w0 W v l) (hr : W.heap[r]? = some (.cells c T (0, 0))) (hT : T ≠ 74) (i : Nat) (u : Value) : SPr w0 (W.setCell ⟨r, i, none⟩ u) v l := by
  rcases h with h | h
  · exact .inl h
  · exact .inr ⟨own_set3 h.1 hr hT i u, h.2⟩
set_option pp.deepTerms true in
set_option maxHeartbeats 16000000 in
set_option maxRecDepth 100000 in
theorem children_any (P : Pg) (vd vf vv vl : Value) (vs ls : List Prm) (k : Nat) (t : Tm) (xa xc : Value) (w : World) (hd : RDecls w vd P.decls) (hvf : ∃ A n c, vf = .slice A n c) (h1 : RPrms w vv vs) (h2 : RPrms w vl ls) (ht : RT w (k + 1) t xa xc) (hf : fitsT P t = true) (hB : PB P) (hA : ∀ (u : Nat) (d : Decl) (x : Xtor), P.decls[u]? = some d → x ∈ d.xtors → x.args.length ≤ 1000) (n1 : vs.length ≤ 50000000) (n2 : ls.length ≤ 50000000) (hsz : t.args.length + t.cls.length ≤ 1000000) :
    Calls Tryz.prog 74 #[pV vd vf, .agg #[vv, vl], tV t xa xc] w fun e w' => (∃ v1 v2, e = .returned (.tuple #[v1, v2]) ∧ RTms w' k v1 (chT t) ∧ RScs w' v2 ((List.range (t.args.length + t.cls.length)).map (kidS P vs ls t))) ∧ Ext w w' := by
  have HD := Lib.hid hd; have H1 := Lib.hid h1; have H2 := Lib.hid h2; have HT := Lib.hid ht; have HFI := Lib.hid hf; have HPB := Lib.hid hB; have HAR := Lib.hid hA
  have HT2 := Lib.hid ht.2.2
  obtain ⟨Ad, cd, rfl, hcd, hmd⟩ := hd.form
  obtain ⟨Af, nf, cf, rfl⟩ := hvf
  obtain ⟨Av, cv, rfl, -, -⟩ := h1.form
  obtain ⟨Al, cl, rfl, -, -⟩ := h2.form
  obtain ⟨⟨hnm, hn64, hty64⟩, ⟨Aa, ca, rfl, hca, hma⟩, ⟨Bb, cb, rfl, hcb, hmb⟩⟩ := ht.form
  have HNM : Hid (t.nm.size ≤ maxLen) := hnm
  clear hd h1 h2 ht hf hB hA hnm hn64 hty64
  unfold maxLen at hma hmb hmd
  have HE := Lib.hid (Ext.al3 w (.cells #[.slice Ad P.decls.length cd, .slice Af nf cf] 25) (.cells #[.slice Av vs.length cv, .slice Al ls.length cl] 85) (.cells #[.int .i64 t.op, .int .i64 t.n, .string t.nm, .int .i64 t.ty, .slice Aa t.args.length ca, .slice Bb t.cls.length cb] 41))
  obtain ⟨g1, g2, g3, g4⟩ := bx_three w (.cells #[.slice Ad P.decls.length cd, .slice Af nf cf] 25) (.cells #[.slice Av vs.length cv, .slice Al ls.length cl] 85) (.cells #[.int .i64 t.op, .int .i64 t.n, .string t.nm, .int .i64 t.ty, .slice Aa t.args.length ca, .slice Bb t.cls.length cb] 41)
  have HBP := Lib.hid g1; have HBS := Lib.hid g2; have HBT := Lib.hid g3; have HS1 := Lib.hid g4
  clear g1 g2 g3 g4
  have hmx : Tryz.prog.follows .mixedOrders = true := by kernel_rfl
  go_enter Tryz.func74, Tryz.ntmps74
  go_upto_region 1 with fail
  generalize World.alloc (World.alloc (World.alloc w _) _) _ = w1 at *
  have V1 := Lib.hid (H1.out.below HE.out); have V2 := Lib.hid (H2.out.below HE.out); have T1 := Lib.hid (HT.out.below HE.out)
  obtain ⟨c0, c1, c2, c3, c4, c5⟩ := cells6 HBT.out
  go_wp2
  clear c0 c1 c2 c3 c4 c5
  go_loopw [6, 7, 17] (fun s6 s7 i wr => ∃ (j : Nat) (L6 : List Trm) (L7 : List Trs), j ≤ t.args.length ∧ i = .int .i64 j ∧ KR w1 wr s6 s7 L6 L7 ∧ L6.map (·.1) = t.args.take j ∧ (∀ x ∈ L6, RT w1 k x.1 x.2.1 x.2.2) ∧ L7.map (·.2) = (List.range j).map (kidS P vs ls t)) (fun _ _ i _ => t.args.length - (intOf i).toNat)
  case atStart => exact ⟨0, [], [], Nat.zero_le _, rfl, KR.zero _, rfl, (fun x h => by cases h), rfl⟩
  case round =>
    obtain ⟨j, L6, L7, hj, rfl, hk, h6, hr6, h7⟩ := hrel
    have HK := Lib.hid hk; have H6 := Lib.hid h6; have HR6 := Lib.hid hr6; have H7 := Lib.hid h7
    obtain ⟨A6, c6, rfl⟩ := own_shapeL hk.ra
    obtain ⟨A7, c7, rfl⟩ := own_shapeL hk.rb
    have hl6 : L6.length = j := by have := congrArg List.length h6; simp at this; omega
    have hl7 : L7.length = j := by have := congrArg List.length h7; simp at this; omega
    have HX := Lib.hid hk.ext
    have HL6 := Lib.hid hl6; have HL7 := Lib.hid hl7
    clear hk h6 hr6 h7 hl6 hl7
    by_cases hlt : j < t.args.length
    · obtain ⟨b, o, ya, yc, rfl, hbl, q6, hrt⟩ := T1.out.arg hlt
      have HRT := Lib.hid hrt
      obtain ⟨-, ⟨Xa, cxa, rfl, -, -⟩, ⟨Xc, cxc, rfl, -, -⟩⟩ := hrt.form
      have y0 := HX.out.keep q6.c0
      have y1 := HX.out.keep q6.c1
      have y2 := HX.out.keep q6.c2
      have y3 := HX.out.keep q6.c3
      have y4 := HX.out.keep q6.c4
      have y5 := HX.out.keep q6.c5
      have HTK : Hid (t.args.take (j + 1) = t.args.take j ++ [t.args[j]]) := List.take_succ_eq_append_getElem hlt
      clear q6 hrt
      generalize t.args[j] = a at *
      have HE9 := Lib.hid (Ext.al wr (.cells #[.int .i64 a.op, .int .i64 a.n, .string a.nm, .int .i64 a.ty, .slice Xa a.args.length cxa, .slice Xc a.cls.length cxc] 41))
      have s0 := (HX.out.tr HE9.out).keep (cellAt HBS.out 0)
      have s1 := (HX.out.tr HE9.out).keep (cellAt HBS.out 1)
      go_upto_region 5 with fail
      obtain ⟨g1, g2, g3⟩ := bx_two wr (.cells #[.int .i64 a.op, .int .i64 a.n, .string a.nm, .int .i64 a.ty, .slice Xa a.args.length cxa, .slice Xc a.cls.length cxc] 41) (.cells #[.slice Av vs.length cv, .slice Al ls.length cl] 85)
      have HE2 := Lib.hid (Ext.al2 wr (.cells #[.int .i64 a.op, .int .i64 a.n, .string a.nm, .int .i64 a.ty, .slice Xa a.args.length cxa, .slice Xc a.cls.length cxc] 41) (.cells #[.slice Av vs.length cv, .slice Al ls.length cl] 85))
      have HB9 := Lib.hid g1; have HB10 := Lib.hid g2; have HS2 := Lib.hid g3
      clear y0 y1 y2 y3 y4 y5 s0 s1 g1 g2 g3 HE9
      generalize World.alloc (World.alloc wr _) _ = w2 at *
      have HX2 := Lib.hid (HX.out.tr HE2.out)
      have z0 := HX2.out.keep (cellAt HBT.out 0)
      have z2 := HX2.out.keep (cellAt HBT.out 2)
      have z3 := HX2.out.keep (cellAt HBT.out 3)
      have HKW := Lib.hid (HK.out.below HE2.out)
      obtain ⟨q, hq⟩ : ∃ q, decide (t.op = 8 ∧ j = 1) = q := ⟨_, rfl⟩
      have HQ := Lib.hid hq
      clear hq
      go_cut [29] from 23 to 28 (fun v29 W => v29 = .bool q ∧ W = w2)
      case first =>
        cases h8 : ((t.op : Int) == 8)
        · have hqf : q = false := by rw [← HQ.out]; simp at h8; simp [h8]
          subst hqf
          go_wp2
          go_meet
          exact ⟨rfl, rfl⟩
        · by_cases hj1 : j = 1
          · have hqf : q = true := by rw [← HQ.out]; simp at h8; simp [h8, hj1]
            subst hqf
            have hd : ((j : Int) == 1) = true := by simp; omega
            have HJ1 := Lib.hid hj1
            clear hj1
            go_wp2
            go_meet
            exact ⟨rfl, rfl⟩
          · have hqf : q = false := by rw [← HQ.out]; simp [hj1]
            subst hqf
            have hd : ((j : Int) == 1) = false := by simp; omega
            clear hj1
            go_wp2
            go_meet
            exact ⟨rfl, rfl⟩
      case rest =>
      obtain ⟨hv, hw⟩ := hcut
      subst hv
      obtain rfl : w2 = wc := hw.symm
      clear hw
      go_upto_if 29 with fail
      have HEW := Lib.hid HE2.out
      have HBX := Lib.hid HB10.out
      go_cut [] from 30 to 39 (fun W => Ext wr W ∧ W.heap[wr.heap.size]? = some (.cells #[.int .i64 a.op, .int .i64 a.n, .string a.nm, .int .i64 a.ty, .slice Xa a.args.length cxa, .slice Xc a.cls.length cxc] 41) ∧ ∃ u1, W.heap[wr.heap.size + 1]? = some (.cells #[u1, .slice Al ls.length cl] 85 (0, 0)) ∧ SPr w1 W u1 (if q then vs ++ [⟨t.nm, t.ty⟩] else vs))
      case first =>
        cases q
        · go_wp2
          go_meet
          exact ⟨HE2.out, HB9.out, _, HB10.out, .inl V1.out⟩
        · have s0 := HX2.out.keep (cellAt HBS.out 0)
          have z2 := HX2.out.keep (cellAt HBT.out 2)
          have z3 := HX2.out.keep (cellAt HBT.out 3)
          go_wp2_with fail
          have HE3 := Lib.hid (Ext.al w2 (.cells #[.string t.nm, .int .i64 t.ty] 74))
          (refine (refWithO_any _ _ vs [⟨t.nm, t.ty⟩] _ (V1.out.below (HX2.out.tr HE3.out)) (one_prm (heapNew w2 _) HNM.out) (by omega) (by simp)).mono ?_)
          rintro e w3 ⟨⟨v, rfl, ho, -⟩, hb⟩
          have HO3 := Lib.hid (own_base ho (HX2.out.tr HE3.out).size)
          have hx3 := HE3.out.tr hb
          obtain ⟨A3, c3, hv3⟩ := own_shapeL ho
          rw [List.length_append] at hv3
          obtain rfl : v = .slice A3 (vs.length + 1) c3 := hv3
          have HB3 := Lib.hid ((hx3.block _ (heap_lt HBX.out)).trans HBX.out)
          have HB93 := Lib.hid ((hx3.block _ (heap_lt HB9.out)).trans HB9.out)
          have HX3 := Lib.hid (HEW.out.tr hx3)
          clear ho hb hx3 s0 z2 z3
          have f0 := frozenAt HB3.out 0
          have g0 := cellAt HB3.out 0
          go_wp2
          go_meet
          have HSZ1 := HX.out.size
          have hn3 : 85 ≠ 74 := by decide
          refine ⟨HX3.out.setCell (p := ⟨wr.heap.size + 1, 0, none⟩) (Nat.le_succ _) _, ?_, ⟨_, set1_box2 HB3.out _, .inr ⟨by simp only [if_true]; exact own_set3 HO3.out HB3.out hn3 0 _, fun a ha => ?_⟩⟩⟩
          · exact (Below.heap_setCell _ _ _ _ (by show wr.heap.size ≠ wr.heap.size + 1; omega)).trans HB93.out
          · have ha : a ∈ vs ++ [(⟨t.nm, t.ty⟩ : Prm)] := ha
            rcases List.mem_append.1 ha with ha | ha
            · exact sizes_p H1.out a ha
            · rw [List.mem_singleton.1 ha]; exact HNM.out
      case rest =>
      obtain ⟨hxw, hb9, u1, hb10, hs1⟩ := hcut
      have HEW := Lib.hid hxw; have HB9 := Lib.hid hb9; have HBX := Lib.hid hb10; have HSP1 := Lib.hid hs1
      have HX2 := Lib.hid (HX.out.tr hxw)
      clear hxw hb9 hb10 hs1
      generalize wc = w5 at *
      have z0 := HX2.out.keep (cellAt HBT.out 0)
      go_upto_region 7 with fail
      go_cut [42] from 40 to 41 (fun v42 W => v42 = .bool (decide (t.op = 11)) ∧ W = w5)
      case first =>
        go_wp2
        go_meet
        exact ⟨by rw [show ((t.op : Int) == 11) = decide (t.op = 11) from rfl], rfl⟩
      case rest =>
      obtain ⟨hv, hw⟩ := hcut
      subst hv
      obtain rfl : w5 = wc := hw.symm
      clear hw
      go_upto_if 42 with fail
      obtain ⟨q2, hq2⟩ : ∃ q, decide (t.op = 11) = q := ⟨_, rfl⟩
      rw [hq2]
      have HQ2 := Lib.hid hq2
      clear hq2
      go_cut [] from 43 to 52 (fun W => Ext wr W ∧ W.heap[wr.heap.size]? = some (.cells #[.int .i64 a.op, .int .i64 a.n, .string a.nm, .int .i64 a.ty, .slice Xa a.args.length cxa, .slice Xc a.cls.length cxc] 41) ∧ ∃ u1 u2, W.heap[wr.heap.size + 1]? = some (.cells #[u1, u2] 85 (0, 0)) ∧ SPr w1 W u1 (if q then vs ++ [⟨t.nm, t.ty⟩] else vs) ∧ SPr w1 W u2 (if q2 then ls ++ [⟨t.nm, t.ty⟩] else ls))
      case first =>
        cases q2
        · go_wp2
          go_meet
          exact ⟨HEW.out, HB9.out, _, _, HBX.out, HSP1.out, .inl V2.out⟩
        · have s0 := HX2.out.keep (cellAt HBS.out 1)
          have z2 := HX2.out.keep (cellAt HBT.out 2)
          have z3 := HX2.out.keep (cellAt HBT.out 3)
          go_wp2_with fail
          have HE3 := Lib.hid (Ext.al w5 (.cells #[.string t.nm, .int .i64 t.ty] 74))
          (refine (refWithO_any _ _ ls [⟨t.nm, t.ty⟩] _ (V2.out.below (HX2.out.tr HE3.out)) (one_prm (heapNew w5 _) HNM.out) (by omega) (by simp)).mono ?_)
          rintro e w3 ⟨⟨v, rfl, ho, -⟩, hb⟩
          have HO3 := Lib.hid (own_base ho (HX2.out.tr HE3.out).size)
          have hx3 := HE3.out.tr hb
          obtain ⟨A3, c3, hv3⟩ := own_shapeL ho
          rw [List.length_append] at hv3
          obtain rfl : v = .slice A3 (ls.length + 1) c3 := hv3
          have HB3 := Lib.hid ((hx3.block _ (heap_lt HBX.out)).trans HBX.out)
          have HB93 := Lib.hid ((hx3.block _ (heap_lt HB9.out)).trans HB9.out)
          have HX35 := Lib.hid hx3
          have HX3 := Lib.hid (HEW.out.tr hx3)
          clear ho hb hx3 s0 z2 z3
          have f0 := frozenAt HB3.out 1
          have g0 := cellAt HB3.out 1
          go_wp2
          go_meet
          have HSZ1 := HX.out.size
          have hn3 : 85 ≠ 74 := by decide
          refine ⟨HX3.out.setCell (p := ⟨wr.heap.size + 1, 1, none⟩) (Nat.le_succ _) _, ?_, ⟨_, _, set1_box2b HB3.out _, (HSP1.out.ext HX35.out).setN HB3.out hn3 1 _, .inr ⟨by simp only [if_true]; exact own_set3 HO3.out HB3.out hn3 1 _, fun a ha => ?_⟩⟩⟩
          · exact (Below.heap_setCell _ _ _ _ (by show wr.heap.size ≠ wr.heap.size + 1; omega)).trans HB93.out
          · have ha : a ∈ ls ++ [(⟨t.nm, t.ty⟩ : Prm)] := ha
            rcases List.mem_append.1 ha with ha | ha
            · exact sizes_p H2.out a ha
            · rw [List.mem_singleton.1 ha]; exact HNM.out
      case rest =>
      obtain ⟨hxw, hb9, u1, u2, hb10, hs1, hs2⟩ := hcut
      have HEW6 := Lib.hid hxw; have HB9 := Lib.hid hb9; have HBX := Lib.hid hb10
      obtain ⟨S, hS⟩ : ∃ S, kidS P vs ls t j = S := ⟨_, rfl⟩
      have hk1 : (if q then vs ++ [⟨t.nm, t.ty⟩] else vs) = S.1 := by rw [← hS]; unfold kidS; rw [if_pos hlt, ← HQ.out]; simp
      have hk2 : (if q2 then ls ++ [⟨t.nm, t.ty⟩] else ls) = S.2 := by rw [← hS]; unfold kidS; rw [if_pos hlt, ← HQ2.out]; simp
      rw [hk1] at hs1
      rw [hk2] at hs2
      obtain ⟨U1, e1, rfl⟩ := hs1.form
      obtain ⟨U2, e2, rfl⟩ := hs2.form
      have HKID : Hid (OkS w1 wc ((.slice U1 S.1.length e1, .slice U2 S.2.length e2), S)) := ⟨hs1, hs2⟩
      have HK6 := Lib.hid (HK.out.below hxw)
      have HZ6 : Hid (wr.heap.size ≤ wc.heap.size) := hxw.size
      have HNC : Hid (∀ q, wr.heap.size ≤ q → ¬ CB (.slice A6 L6.length c6) (.slice A7 L7.length c7) q) := fun q hq hcb => by
        rcases hcb with e | e
        · have := (HK.out.ra.lt q e).2; omega
        · have := (HK.out.rb.lt q e).2; omega
      have HLE : Hid (L6.length ≤ 1000000 ∧ L7.length ≤ 1000000) := by show _ ∧ _; have := HL6.out; have := HL7.out; omega
      have HSK := Lib.hid hS
      clear hxw hb9 hb10 hs1 hs2 HSP1 hk1 hk2 hS
      generalize wc = w6 at *
      go_upto_region 9 with fail
      obtain ⟨vals, hvals⟩ : ∃ vals : Nat → Value, vals = fun j => if j = 0 then .slice A6 L6.length c6 else if j = 1 then .agg #[.int .i64 a.op, .int .i64 a.n, .string a.nm, .int .i64 a.ty, .slice Xa a.args.length cxa, .slice Xc a.cls.length cxc] else if j = 4 then .slice A7 L7.length c7 else if j = 5 then .agg #[.slice U1 S.1.length e1, .slice U2 S.2.length e2] else undef := ⟨_, rfl⟩
      have HV0 : Hid (vals 0 = .slice A6 L6.length c6) := by show _ = _; rw [hvals]; rfl
      have HV1 : Hid (vals 1 = .agg #[.int .i64 a.op, .int .i64 a.n, .string a.nm, .int .i64 a.ty, .slice Xa a.args.length cxa, .slice Xc a.cls.length cxc]) := by show _ = _; rw [hvals]; rfl
      have HV4 : Hid (vals 4 = .slice A7 L7.length c7) := by show _ = _; rw [hvals]; rfl
      have HV5 : Hid (vals 5 = .agg #[.slice U1 S.1.length e1, .slice U2 S.2.length e2]) := by show _ = _; rw [hvals]; rfl
      clear hvals
      refine wp_region_invCE hmx (by kernel_rfl) (fun Ls ac W => ∃ vv : Nat → Value, ac = { tmps := #[pV (.slice Ad P.decls.length cd) (.slice Af nf cf), .agg #[.slice Av vs.length cv, .slice Al ls.length cl], tV t (.slice (some ⟨b, o, none⟩) t.args.length ca) (.slice Bb t.cls.length cb), .pointer (some ⟨w.heap.size, 0, none⟩), .pointer (some ⟨w.heap.size + 1, 0, none⟩), .pointer (some ⟨w.heap.size + 1 + 1, 0, none⟩), vv 8, vv 9, .int .i64 (j : Int), .pointer (some ⟨wr.heap.size, 0, none⟩), .pointer (some ⟨wr.heap.size + 1, 0, none⟩), undef, undef, undef, .pointer (some ⟨w.heap.size + 1 + 1, 4, none⟩), .slice (some ⟨b, o, none⟩) t.args.length ca, .int .i64 (t.args.length : Int), .int .i64 (j : Int), .bool true, .int .i64 (j : Int), .pointer (some ⟨b, o + j * 6, none⟩), .agg #[.int .i64 a.op, .int .i64 a.n, .string a.nm, .int .i64 a.ty, .slice Xa a.args.length cxa, .slice Xc a.cls.length cxc], .agg #[.slice Av vs.length cv, .slice Al ls.length cl], u23, u24, u25, u26, u27, u28, .bool q, u30, u31, u32, u33, u34, u35, u36, u37, u38, u39, u40, u41, .bool q2, u43, u44, u45, u46, u47, u48, u49, u50, u51, u52, vv 0, vv 1, vv 2, vv 3, vv 4, vv 5, vv 6, vv 7, u61, undef, undef, undef, undef, undef, undef, undef, undef, undef, undef, undef, undef, undef, undef, undef, undef, undef, undef, undef, undef, undef, undef, undef, undef, undef, undef, undef, undef, undef, undef, undef, undef, undef, undef, undef, undef, undef, undef, undef], defers := [] } ∧ R9 2 vals w1 w6 (.slice A6 L6.length c6) (.slice A7 L7.length c7) L6 ((a, .slice Xa a.args.length cxa, .slice Xc a.cls.length cxc) : Trm) L7 (((.slice U1 S.1.length e1, .slice U2 S.2.length e2), S) : Trs) Ls W vv) ?_ ?_ ?_
      · exact ⟨fun j => if j = 0 then u53 else if j = 1 then u54 else if j = 2 then u55 else if j = 3 then u56 else if j = 4 then u57 else if j = 5 then u58 else if j = 6 then u59 else if j = 7 then u60 else if j = 8 then .slice A6 L6.length c6 else if j = 9 then .slice A7 L7.length c7 else undef, rfl, R9.zero HK6.out HKID.out rfl rfl⟩
      · intro Ls ac W i op ho hpre hl hc hI Kk HKk
        have hi : i < 10 := (Array.getElem?_eq_some_iff.1 ho).1
        obtain ⟨vv, rfl, hI⟩ := hI
        have HPA := Lib.hid hI
        have hcs : i = 0 ∨ i = 1 ∨ i = 2 ∨ i = 3 ∨ i = 4 ∨ i = 5 ∨ i = 6 ∨ i = 7 ∨ i = 8 ∨ i = 9 := by omega
        rcases hcs with rfl | rfl | rfl | rfl | rfl | rfl | rfl | rfl | rfl | rfl
        all_goals
          obtain rfl := Option.some.inj ho
          clear ho hi hI
        · have h8 : Ls 8 = false := by
            cases hq : Ls 8
            · rfl
            · have := hc 8 _ rfl hq ⟨0, .phase⟩ (by simp) rfl
              rw [hl] at this; cases this
          have e8 : vv 8 = _ := HPA.out.a0 h8
          clear hpre hc
          go_simp
          exact HKk.out _ _ ⟨_, by simp [e8], HPA.out.step (v := .slice A6 L6.length c6) (by decide) (Ext.rf _) (fun _ => HV0.out.symm) (fun h => absurd h (by decide)) (fun h => absurd h (by decide))⟩
        · have hk9 := (HPA.out.only.block _ (heap_lt HB9.out) (HNC.out _ (Nat.le_refl _))).trans HB9.out
          have c0 := cellAt hk9 0
          have c1 := cellAt hk9 1
          have c2 := cellAt hk9 2
          have c3 := cellAt hk9 3
          have c4 := cellAt hk9 4
          have c5 := cellAt hk9 5
          clear hpre hc hk9
          go_simp
          exact HKk.out _ _ ⟨_, rfl, HPA.out.step (v := .agg #[.int .i64 a.op, .int .i64 a.n, .string a.nm, .int .i64 a.ty, .slice Xa a.args.length cxa, .slice Xc a.cls.length cxc]) (by decide) (Ext.rf _) (fun _ => HV1.out.symm) (fun h => absurd h (by decide)) (fun h => absurd h (by decide))⟩
        · simp [Region.binds] at hpre
          have e1 : vv 1 = _ := HPA.out.facts 1 (by decide) (by simp [hpre])
          rw [HV1.out] at e1
          go_simp
          exact HKk.out _ _ ⟨_, by simp [e1], HPA.out.step (v := .slice (some ⟨W.heap.size, 0, none⟩) 1 1) (by decide) (Ext.al _ _) (fun h => absurd h (by decide)) (fun _ => ⟨W.heap.size, rfl, heapNew _ _, HNC.out _ (Nat.le_trans HZ6.out HPA.out.only.size)⟩) (fun h => absurd h (by decide))⟩
        · have h8 : Ls 8 = false := by
            cases hq : Ls 8
            · rfl
            · have := hc 8 _ rfl hq ⟨3, .data⟩ (by simp) rfl
              rw [hl] at this; cases this
          have h0 := hpre ⟨0, .data⟩ (by simp) rfl
          have hs := hpre ⟨2, .data⟩ (by simp) rfl
          have e0 : vv 0 = _ := HPA.out.facts 0 (by decide) h0
          rw [HV0.out] at e0
          obtain ⟨q9, eq, hq9, -⟩ := HPA.out.f2 hs
          have hra := HPA.out.ra0 hl
          split
          · refine app_row (t := 38) (e := 41) (size := 6) (bytes := 88) Tryz.u40 Tryz.info43 (by decide) (by decide) (.tmp 53) (.tmp 55) rfl w1.heap.size (.slice A6 L6.length c6) L6.length (cellsT L6) e0 hra (some ⟨q9, 0, none⟩) 1 1 (cellsT [((a, .slice Xa a.args.length cxa, .slice Xc a.cls.length cxc) : Trm)]) eq (SrcN.oneTm hq9) (fun u hu => by simp [cellsT, cells1] at hu; rcases hu with rfl | rfl | rfl | rfl | rfl | rfl <;> rfl) (by have := HLE.out; unfold maxLen; omega) (by have := HLE.out; omega) HPA.out.size (fun v' W' ho hg hat => ?_)
            refine HKk.out _ _ ⟨fun j => if j = 3 then v' else vv j, rfl, HPA.out.appA hl h8 hg ?_⟩
            rw [List.length_append, cellsT_append]; exact ho
          · rename_i hw
            exact absurd (by rfl) hw
        · have h9 : Ls 9 = false := by
            cases hq : Ls 9
            · rfl
            · have := hc 9 _ rfl hq ⟨4, .phase⟩ (by simp) rfl
              rw [hl] at this; cases this
          have e9 : vv 9 = _ := HPA.out.b0 h9
          clear hpre hc
          go_simp
          exact HKk.out _ _ ⟨_, by simp [e9], HPA.out.step (v := .slice A7 L7.length c7) (by decide) (Ext.rf _) (fun _ => HV4.out.symm) (fun h => absurd h (by decide)) (fun h => absurd h (by decide))⟩
        · have hk10 := (HPA.out.only.block _ (heap_lt HBX.out) (HNC.out _ (Nat.le_succ _))).trans HBX.out
          have c0 := cellAt hk10 0
          have c1 := cellAt hk10 1
          clear hpre hc hk10
          go_simp
          exact HKk.out _ _ ⟨_, rfl, HPA.out.step (v := .agg #[.slice U1 S.1.length e1, .slice U2 S.2.length e2]) (by decide) (Ext.rf _) (fun _ => HV5.out.symm) (fun h => absurd h (by decide)) (fun h => absurd h (by decide))⟩
        · simp [Region.binds] at hpre
          have e5 : vv 5 = _ := HPA.out.facts 5 (by decide) (by simp [hpre])
          rw [HV5.out] at e5
          go_simp
          exact HKk.out _ _ ⟨_, by simp [e5], HPA.out.step (v := .slice (some ⟨W.heap.size, 0, none⟩) 1 1) (by decide) (Ext.al _ _) (fun h => absurd h (by decide)) (fun h => absurd h (by decide)) (fun _ => ⟨W.heap.size, rfl, heapNew _ _, HNC.out _ (Nat.le_trans HZ6.out HPA.out.only.size)⟩)⟩
        · have h9 : Ls 9 = false := by
            cases hq : Ls 9
            · rfl
            · have := hc 9 _ rfl hq ⟨7, .data⟩ (by simp) rfl
              rw [hl] at this; cases this
          have h0 := hpre ⟨4, .data⟩ (by simp) rfl
          have hs := hpre ⟨6, .data⟩ (by simp) rfl
          have e4 : vv 4 = _ := HPA.out.facts 4 (by decide) h0
          rw [HV4.out] at e4
          obtain ⟨q9, eq, hq9, -⟩ := HPA.out.f6 hs
          have hrb := HPA.out.rb0 hl
          split
          · refine app_row (t := 117) (e := 85) (size := 2) (bytes := 48) Tryz.undSc Tryz.infoSc (by decide) (by decide) (.tmp 57) (.tmp 59) rfl w1.heap.size (.slice A7 L7.length c7) L7.length (cellsSc L7) e4 hrb (some ⟨q9, 0, none⟩) 1 1 (cellsSc [(((.slice U1 S.1.length e1, .slice U2 S.2.length e2), S) : Trs)]) eq (SrcN.oneSc hq9) (fun u hu => by simp [cellsSc] at hu; rcases hu with rfl | rfl <;> rfl) (by have := HLE.out; unfold maxLen; omega) (by have := HLE.out; omega) HPA.out.size (fun v' W' ho hg hat => ?_)
            refine HKk.out _ _ ⟨fun j => if j = 7 then v' else vv j, rfl, HPA.out.appB hl h9 hg ?_⟩
            rw [List.length_append, cellsSc_append]; exact ho
          · rename_i hw
            exact absurd (by rfl) hw
        · clear hpre hc
          go_simp
          exact HKk.out _ _ ⟨_, rfl, HPA.out.asgA⟩
        · clear hpre hc
          go_simp
          exact HKk.out _ _ ⟨_, rfl, HPA.out.asgB⟩
      · intro Ls ac W hall hI
        obtain ⟨vv, rfl, hI⟩ := hI
        have e8 : vv 8 = vv 3 := hI.a1 (hall 8 (by decide))
        have e9 : vv 9 = vv 7 := hI.b1 (hall 9 (by decide))
        have HKD := Lib.hid (hI.done (hall 3 (by decide)) (hall 7 (by decide)))
        clear hI hall
        rw [e8, e9]
        clear e8 e9
        generalize vv 3 = v3 at *
        generalize vv 7 = v7 at *
        go_wp2
        refine ⟨⟨j + 1, _, _, by omega, by go_num, HKD.out, ?_, ?_, ?_⟩, by simp [intOf]; omega⟩
        · rw [List.map_append, H6.out, HTK.out]; rfl
        · intro x hx
          rcases List.mem_append.1 hx with hx | hx
          · exact HR6.out x hx
          · rw [List.mem_singleton.1 hx]; exact HRT.out
        · rw [List.map_append, H7.out, range_snoc, List.map_append, List.map_singleton, List.map_singleton, HSK.out]
    · have hje : j = t.args.length := by omega
      have H6E : Hid (L6.map (·.1) = t.args) := by show _ = _; rw [H6.out, List.take_of_length_le (by omega)]
      have H7E : Hid (L7.map (·.2) = (List.range t.args.length).map (kidS P vs ls t)) := by show _ = _; rw [H7.out, hje]
      have z5 := HX.out.keep (cellAt HBT.out 5)
      have HR6E := Lib.hid HR6.out
      have HKE := Lib.hid HK.out
      generalize wr = wl at *
      clear hje
      go_wp2
      clear z5
      go_loopw [6, 7, 65] (fun s6 s7 i wr => ∃ (j : Nat) (L6 : List Trm) (L7 : List Trs), j ≤ t.cls.length ∧ i = .int .i64 j ∧ KR w1 wr s6 s7 L6 L7 ∧ L6.map (·.1) = t.args ++ (t.cls.take j).map (·.2) ∧ (∀ x ∈ L6, RT w1 k x.1 x.2.1 x.2.2) ∧ L7.map (·.2) = (List.range (t.args.length + j)).map (kidS P vs ls t)) (fun _ _ i _ => t.cls.length - (intOf i).toNat)
      case atStart => exact ⟨0, L6, L7, Nat.zero_le _, rfl, HKE.out, by rw [H6E.out]; simp, HR6E.out, H7E.out⟩
      case round =>
        clear HK HX HL6 HL7 H6 H7 HR6 H6E H7E HR6E HKE
        obtain ⟨j2, M6, M7, hj2, rfl, hk, h6, hr6, h7⟩ := hrel
        have HK := Lib.hid hk; have H6 := Lib.hid h6; have HR6 := Lib.hid hr6; have H7 := Lib.hid h7
        obtain ⟨A6, c6, rfl⟩ := own_shapeL hk.ra
        obtain ⟨A7, c7, rfl⟩ := own_shapeL hk.rb
        have hl6 : M6.length = t.args.length + j2 := by have := congrArg List.length h6; simp at this; omega
        have hl7 : M7.length = t.args.length + j2 := by have := congrArg List.length h7; simp at this; omega
        have HX := Lib.hid hk.ext
        have HL6 := Lib.hid hl6; have HL7 := Lib.hid hl7
        clear hk h6 hr6 h7 hl6 hl7
        by_cases hlt : j2 < t.cls.length
        · obtain ⟨b, o, vn, ya, yc, rfl, hbl, qn, hns, q6, hrt⟩ := T1.out.clause hlt
          obtain ⟨u, d, x, hty, hd, hda, hx, hcx⟩ := fits_clause HFI.out (List.getElem?_eq_getElem hlt)
          have HRT := Lib.hid hrt; have HNS := Lib.hid hns
          obtain ⟨-, ⟨Xa, cxa, rfl, -, -⟩, ⟨Xc, cxc, rfl, -, -⟩⟩ := hrt.form
          obtain ⟨An, cn, rfl, -, -⟩ := hns.form
          have y6 := HX.out.keep qn
          have y0 := HX.out.keep q6.c0
          have y1 := HX.out.keep q6.c1
          have y2 := HX.out.keep q6.c2
          have y3 := HX.out.keep q6.c3
          have y4 := HX.out.keep q6.c4
          have y5 := HX.out.keep q6.c5
          have HTK : Hid (t.cls.take (j2 + 1) = t.cls.take j2 ++ [t.cls[j2]]) := List.take_succ_eq_append_getElem hlt
          have HCJ : Hid (t.cls[j2]? = some t.cls[j2]) := List.getElem?_eq_getElem hlt
          have HTY := Lib.hid hty; have HDU := Lib.hid hd; have HDA := Lib.hid hda; have HXN := Lib.hid hx; have HCX := Lib.hid hcx
          clear q6 hrt qn hns hty hd hda hx hcx
          generalize t.cls[j2] = ch at *
          have HE9 := Lib.hid (Ext.al wr (.cells #[.slice An ch.1.length cn, .int .i64 ch.2.op, .int .i64 ch.2.n, .string ch.2.nm, .int .i64 ch.2.ty, .slice Xa ch.2.args.length cxa, .slice Xc ch.2.cls.length cxc] 92))
          have s0 := (HX.out.tr HE9.out).keep (cellAt HBS.out 0)
          have s1 := (HX.out.tr HE9.out).keep (cellAt HBS.out 1)
          go_upto_region 15 with fail
          obtain ⟨g1, g2, g3⟩ := bx_two wr (.cells #[.slice An ch.1.length cn, .int .i64 ch.2.op, .int .i64 ch.2.n, .string ch.2.nm, .int .i64 ch.2.ty, .slice Xa ch.2.args.length cxa, .slice Xc ch.2.cls.length cxc] 92) (.cells #[.slice Av vs.length cv, .slice Al ls.length cl] 85)
          have HE2 := Lib.hid (Ext.al2 wr (.cells #[.slice An ch.1.length cn, .int .i64 ch.2.op, .int .i64 ch.2.n, .string ch.2.nm, .int .i64 ch.2.ty, .slice Xa ch.2.args.length cxa, .slice Xc ch.2.cls.length cxc] 92) (.cells #[.slice Av vs.length cv, .slice Al ls.length cl] 85))
          have HB9 := Lib.hid g1; have HB10 := Lib.hid g2; have HS2 := Lib.hid g3
          clear y0 y1 y2 y3 y4 y5 y6 s0 s1 g1 g2 g3 HE9
          generalize World.alloc (World.alloc wr _) _ = w2 at *
          obtain ⟨hul, hdu⟩ := List.getElem?_eq_some_iff.1 HDU.out
          obtain ⟨bd, od, vx, rfl, -, h0, h1, h2, h3, -⟩ := HD.out.at_ hul
          rw [hdu] at h3
          obtain ⟨hxl, hxx⟩ := List.getElem?_eq_some_iff.1 HXN.out
          obtain ⟨Ax, cx, rfl, -, -⟩ := h3.form
          obtain ⟨bx, ox, vr, rfl, -, k0, k1, k2, -⟩ := h3.at_ hxl
          rw [hxx] at k0 k2
          obtain ⟨Ar, cr, rfl, -, -⟩ := k2.form
          have HC2 := Lib.hid h2; have HC3 := Lib.hid k0; have HC4 := Lib.hid k1; have HAG := Lib.hid k2
          have hxal := HAR.out u d x HDU.out (List.mem_of_getElem? HXN.out)
          have hpr : (prodA x.args).length = ch.1.length := by rw [HCX.out]; rfl
          have hbl15 : (boundL ch.1 (prodA x.args)).length ≤ 1000 := by
            unfold boundL
            have := prodA_le x.args x.args.length
            rw [List.take_length] at this
            simp; omega
          have HPRL := Lib.hid hpr
          have HTY2 : Hid (t.ty = (u : Int) + 1) := by show _ = _; rw [HTY.out]; omega
          have hul2 : (u : Int) < (P.decls.length : Int) := by omega
          have hxl2 : (j2 : Int) < (d.xtors.length : Int) := by omega
          have hwa : IntKind.wrap .i64 ((u : Int) + 1 - 1) = (u : Int) := by rw [show ((u : Int) + 1 - 1) = u by omega]; exact IntWalk.i64_in _ (by omega)
          have HWA := Lib.hid hwa
          have HCS2 : Hid (∀ s ∈ ch.1, s.size ≤ maxLen) := HNS.out.sizes
          have HXW2 := Lib.hid (HE.out.tr (HX.out.tr HE2.out))
          have HX2 := Lib.hid (HX.out.tr HE2.out)
          obtain ⟨BL, hBL⟩ : ∃ B, boundL ch.1 (prodA x.args) = B := ⟨_, rfl⟩
          have HBLS : Hid (∀ a ∈ vs ++ BL, a.nm.size ≤ maxLen) := fun a ha => by
            rcases List.mem_append.1 ha with ha | ha
            · exact sizes_p H1.out a ha
            · rw [← hBL] at ha; exact HCS2.out _ (boundL_nm ha)
          rw [hBL] at hbl15
          have HBL := Lib.hid hBL
          clear h0 h1 h2 h3 k0 k1 k2 hdu hxx hpr hwa hBL
          go_cut [] from 71 to 98 (fun W => Ext wr W ∧ W.heap[wr.heap.size]? = some (.cells #[.slice An ch.1.length cn, .int .i64 ch.2.op, .int .i64 ch.2.n, .string ch.2.nm, .int .i64 ch.2.ty, .slice Xa ch.2.args.length cxa, .slice Xc ch.2.cls.length cxc] 92) ∧ ∃ u1, W.heap[wr.heap.size + 1]? = some (.cells #[u1, .slice Al ls.length cl] 85 (0, 0)) ∧ SPr w1 W u1 (vs ++ BL))
          case first =>
            obtain ⟨vals, hvals⟩ : ∃ vals : Nat → Value, vals = fun j => if j = 0 then .pointer (some ⟨w.heap.size + 1, 0, none⟩) else if j = 1 then .slice Av vs.length cv else if j = 2 then .pointer (some ⟨w.heap.size, 0, none⟩) else if j = 3 then .slice (some ⟨bd, od, none⟩) P.decls.length cd else if j = 4 then .pointer (some ⟨w.heap.size + 1 + 1, 3, none⟩) else if j = 5 then .int .i64 ((u : Int) + 1) else if j = 6 then .int .i64 (u : Int) else if j = 7 then .pointer (some ⟨bd, od + u * 3, none⟩) else if j = 8 then .pointer (some ⟨bd, od + u * 3 + 2, none⟩) else if j = 9 then .slice (some ⟨bx, ox, none⟩) d.xtors.length cx else if j = 10 then .int .i64 (j2 : Int) else if j = 11 then .pointer (some ⟨bx, ox + j2 * 2, none⟩) else if j = 12 then .agg #[.string x.name, .slice Ar x.args.length cr] else if j = 13 then .pointer (some ⟨wr.heap.size, 0, none⟩) else if j = 14 then .slice An ch.1.length cn else if j = 17 then .pointer (some ⟨wr.heap.size + 1, 0, none⟩) else undef := ⟨_, rfl⟩
            have HV0 : Hid (vals 0 = .pointer (some ⟨w.heap.size + 1, 0, none⟩)) := by show _ = _; rw [hvals]; rfl
            have HV1 : Hid (vals 1 = .slice Av vs.length cv) := by show _ = _; rw [hvals]; rfl
            have HV2 : Hid (vals 2 = .pointer (some ⟨w.heap.size, 0, none⟩)) := by show _ = _; rw [hvals]; rfl
            have HV3 : Hid (vals 3 = .slice (some ⟨bd, od, none⟩) P.decls.length cd) := by show _ = _; rw [hvals]; rfl
            have HV4 : Hid (vals 4 = .pointer (some ⟨w.heap.size + 1 + 1, 3, none⟩)) := by show _ = _; rw [hvals]; rfl
            have HV5 : Hid (vals 5 = .int .i64 ((u : Int) + 1)) := by show _ = _; rw [hvals]; rfl
            have HV6 : Hid (vals 6 = .int .i64 (u : Int)) := by show _ = _; rw [hvals]; rfl
            have HV7 : Hid (vals 7 = .pointer (some ⟨bd, od + u * 3, none⟩)) := by show _ = _; rw [hvals]; rfl
            have HV8 : Hid (vals 8 = .pointer (some ⟨bd, od + u * 3 + 2, none⟩)) := by show _ = _; rw [hvals]; rfl
            have HV9 : Hid (vals 9 = .slice (some ⟨bx, ox, none⟩) d.xtors.length cx) := by show _ = _; rw [hvals]; rfl
            have HV10 : Hid (vals 10 = .int .i64 (j2 : Int)) := by show _ = _; rw [hvals]; rfl
            have HV11 : Hid (vals 11 = .pointer (some ⟨bx, ox + j2 * 2, none⟩)) := by show _ = _; rw [hvals]; rfl
            have HV12 : Hid (vals 12 = .agg #[.string x.name, .slice Ar x.args.length cr]) := by show _ = _; rw [hvals]; rfl
            have HV13 : Hid (vals 13 = .pointer (some ⟨wr.heap.size, 0, none⟩)) := by show _ = _; rw [hvals]; rfl
            have HV14 : Hid (vals 14 = .slice An ch.1.length cn) := by show _ = _; rw [hvals]; rfl
            have HV17 : Hid (vals 17 = .pointer (some ⟨wr.heap.size + 1, 0, none⟩)) := by show _ = _; rw [hvals]; rfl
            clear hvals
            refine wp_region_invCE hmx (by kernel_rfl) (fun Ls ac W => ∃ vv : Nat → Value, ac = { tmps := #[pV (.slice (some ⟨bd, od, none⟩) P.decls.length cd) (.slice Af nf cf), .agg #[.slice Av vs.length cv, .slice Al ls.length cl], tV t (.slice Aa t.args.length ca) (.slice (some ⟨b, o, none⟩) t.cls.length cb), .pointer (some ⟨w.heap.size, 0, none⟩), .pointer (some ⟨w.heap.size + 1, 0, none⟩), .pointer (some ⟨w.heap.size + 1 + 1, 0, none⟩), .slice A6 M6.length c6, .slice A7 M7.length c7, u8, u9, u10, .int .i64 (j2 : Int), .pointer (some ⟨wr.heap.size, 0, none⟩), .pointer (some ⟨wr.heap.size + 1, 0, none⟩), .pointer (some ⟨w.heap.size + 1 + 1, 4, none⟩), .slice Aa t.args.length ca, .int .i64 (t.args.length : Int), .int .i64 (j : Int), .bool false, u19, u20, u21, u22, u23, u24, u25, u26, u27, u28, u29, u30, u31, u32, u33, u34, u35, u36, u37, u38, u39, u40, u41, u42, u43, u44, u45, u46, u47, u48, u49, u50, u51, u52, u53, u54, u55, u56, u57, u58, u59, u60, u61, .pointer (some ⟨w.heap.size + 1 + 1, 5, none⟩), .slice (some ⟨b, o, none⟩) t.cls.length cb, .int .i64 (t.cls.length : Int), .int .i64 (j2 : Int), .bool true, .int .i64 (j2 : Int), .pointer (some ⟨b, o + j2 * 7, none⟩), .agg #[.slice An ch.1.length cn, .int .i64 ch.2.op, .int .i64 ch.2.n, .string ch.2.nm, .int .i64 ch.2.ty, .slice Xa ch.2.args.length cxa, .slice Xc ch.2.cls.length cxc], .agg #[.slice Av vs.length cv, .slice Al ls.length cl], vv 0, vv 1, vv 2, vv 3, vv 4, vv 5, vv 6, vv 7, vv 8, vv 9, vv 10, vv 11, vv 12, vv 13, vv 14, vv 15, vv 16, vv 17, u89, u90, u91, u92, u93, u94, u95, u96, u97, u98, undef, undef], defers := [] } ∧ (PhA w2 (F15 vals w1 vs BL) 18 Ls W vv ∨ ((∀ i, i < 19 → Ls i = true) ∧ Ext wr W ∧ W.heap[wr.heap.size]? = some (.cells #[.slice An ch.1.length cn, .int .i64 ch.2.op, .int .i64 ch.2.n, .string ch.2.nm, .int .i64 ch.2.ty, .slice Xa ch.2.args.length cxa, .slice Xc ch.2.cls.length cxc] 92) ∧ ∃ u1, W.heap[wr.heap.size + 1]? = some (.cells #[u1, .slice Al ls.length cl] 85 (0, 0)) ∧ SPr w1 W u1 (vs ++ BL)))) ?_ ?_ ?_
            · exact ⟨fun j => if j = 0 then u71 else if j = 1 then u72 else if j = 2 then u73 else if j = 3 then u74 else if j = 4 then u75 else if j = 5 then u76 else if j = 6 then u77 else if j = 7 then u78 else if j = 8 then u79 else if j = 9 then u80 else if j = 10 then u81 else if j = 11 then u82 else if j = 12 then u83 else if j = 13 then u84 else if j = 14 then u85 else if j = 15 then u86 else if j = 16 then u87 else if j = 17 then u88 else undef, rfl, .inl (PhA.zero _ _ _ _)⟩
            · intro Ls ac W i op ho hpre hl hc hI Kk HKk
              have hi : i < 19 := (Array.getElem?_eq_some_iff.1 ho).1
              obtain ⟨vv, rfl, hI | hI⟩ := hI
              rotate_left
              · rw [hI.1 i hi] at hl; cases hl
              have HPA := Lib.hid hI
              have hcs : i = 0 ∨ i = 1 ∨ i = 2 ∨ i = 3 ∨ i = 4 ∨ i = 5 ∨ i = 6 ∨ i = 7 ∨ i = 8 ∨ i = 9 ∨ i = 10 ∨ i = 11 ∨ i = 12 ∨ i = 13 ∨ i = 14 ∨ i = 15 ∨ i = 16 ∨ i = 17 ∨ i = 18 := by omega
              rcases hcs with rfl | rfl | rfl | rfl | rfl | rfl | rfl | rfl | rfl | rfl | rfl | rfl | rfl | rfl | rfl | rfl | rfl | rfl | rfl
              all_goals
                obtain rfl := Option.some.inj ho
                clear ho hi hI
              · clear hpre
                go_simp
                exact HKk.out _ _ ⟨_, rfl, .inl (HPA.out.put (v := .pointer (some ⟨w.heap.size + 1, 0, none⟩)) F15.ext (by decide) (Ext.rf _) ⟨fun _ => HV0.out.symm, fun h => absurd h (by decide), fun h => absurd h (by decide)⟩)⟩
              · simp [Region.binds] at hpre
                have e0 : vv 0 = _ := (HPA.out.facts 0 (by decide) (by simp [hpre])).1 (by decide)
                rw [HV0.out] at e0
                have c0 := (HX2.out.tr HPA.out.ext).keep (cellAt HBS.out 0)
                go_simp
                exact HKk.out _ _ ⟨_, by simp [e0], .inl (HPA.out.put (v := .slice Av vs.length cv) F15.ext (by decide) (Ext.rf _) ⟨fun _ => HV1.out.symm, fun h => absurd h (by decide), fun h => absurd h (by decide)⟩)⟩
              · clear hpre
                go_simp
                exact HKk.out _ _ ⟨_, rfl, .inl (HPA.out.put (v := .pointer (some ⟨w.heap.size, 0, none⟩)) F15.ext (by decide) (Ext.rf _) ⟨fun _ => HV2.out.symm, fun h => absurd h (by decide), fun h => absurd h (by decide)⟩)⟩
              · simp [Region.binds] at hpre
                have e2 : vv 2 = _ := (HPA.out.facts 2 (by decide) (by simp [hpre])).1 (by decide)
                rw [HV2.out] at e2
                have c0 := (HX2.out.tr HPA.out.ext).keep (cellAt HBP.out 0)
                go_simp
                exact HKk.out _ _ ⟨_, by simp [e2], .inl (HPA.out.put (v := .slice (some ⟨bd, od, none⟩) P.decls.length cd) F15.ext (by decide) (Ext.rf _) ⟨fun _ => HV3.out.symm, fun h => absurd h (by decide), fun h => absurd h (by decide)⟩)⟩
              · clear hpre
                go_simp
                exact HKk.out _ _ ⟨_, rfl, .inl (HPA.out.put (v := .pointer (some ⟨w.heap.size + 1 + 1, 3, none⟩)) F15.ext (by decide) (Ext.rf _) ⟨fun _ => HV4.out.symm, fun h => absurd h (by decide), fun h => absurd h (by decide)⟩)⟩
              · simp [Region.binds] at hpre
                have e4 : vv 4 = _ := (HPA.out.facts 4 (by decide) (by simp [hpre])).1 (by decide)
                rw [HV4.out] at e4
                have c3 := (HX2.out.tr HPA.out.ext).keep (cellAt HBT.out 3)
                rw [HTY2.out] at c3
                go_simp
                exact HKk.out _ _ ⟨_, by simp [e4], .inl (HPA.out.put (v := .int .i64 ((u : Int) + 1)) F15.ext (by decide) (Ext.rf _) ⟨fun _ => HV5.out.symm, fun h => absurd h (by decide), fun h => absurd h (by decide)⟩)⟩
              · simp [Region.binds] at hpre
                have e5 : vv 5 = _ := (HPA.out.facts 5 (by decide) (by simp [hpre])).1 (by decide)
                rw [HV5.out] at e5
                have hwa := HWA.out
                have hww := IntWalk.i64_in (u : Int) (by omega)
                go_simp
                exact HKk.out _ _ ⟨_, by simp [e5], .inl (HPA.out.put (v := .int .i64 (u : Int)) F15.ext (by decide) (Ext.rf _) ⟨fun _ => HV6.out.symm, fun h => absurd h (by decide), fun h => absurd h (by decide)⟩)⟩
              · simp [Region.binds] at hpre
                have e3 : vv 3 = _ := (HPA.out.facts 3 (by decide) (by simp [hpre])).1 (by decide)
                rw [HV3.out] at e3
                have e6 : vv 6 = _ := (HPA.out.facts 6 (by decide) (by simp [hpre])).1 (by decide)
                rw [HV6.out] at e6
                go_simp
                exact HKk.out _ _ ⟨_, by simp [e3, e6, Act.put], .inl (HPA.out.put (v := .pointer (some ⟨bd, od + u * 3, none⟩)) F15.ext (by decide) (Ext.rf _) ⟨fun _ => HV7.out.symm, fun h => absurd h (by decide), fun h => absurd h (by decide)⟩)⟩
              · simp [Region.binds] at hpre
                have e7 : vv 7 = _ := (HPA.out.facts 7 (by decide) (by simp [hpre])).1 (by decide)
                rw [HV7.out] at e7
                go_simp
                exact HKk.out _ _ ⟨_, by simp [e7], .inl (HPA.out.put (v := .pointer (some ⟨bd, od + u * 3 + 2, none⟩)) F15.ext (by decide) (Ext.rf _) ⟨fun _ => HV8.out.symm, fun h => absurd h (by decide), fun h => absurd h (by decide)⟩)⟩
              · simp [Region.binds] at hpre
                have e8 : vv 8 = _ := (HPA.out.facts 8 (by decide) (by simp [hpre])).1 (by decide)
                rw [HV8.out] at e8
                have c2 := (HXW2.out.tr HPA.out.ext).keep HC2.out
                go_simp
                exact HKk.out _ _ ⟨_, by simp [e8], .inl (HPA.out.put (v := .slice (some ⟨bx, ox, none⟩) d.xtors.length cx) F15.ext (by decide) (Ext.rf _) ⟨fun _ => HV9.out.symm, fun h => absurd h (by decide), fun h => absurd h (by decide)⟩)⟩
              · clear hpre
                go_simp
                exact HKk.out _ _ ⟨_, rfl, .inl (HPA.out.put (v := .int .i64 (j2 : Int)) F15.ext (by decide) (Ext.rf _) ⟨fun _ => HV10.out.symm, fun h => absurd h (by decide), fun h => absurd h (by decide)⟩)⟩
              · simp [Region.binds] at hpre
                have e9 : vv 9 = _ := (HPA.out.facts 9 (by decide) (by simp [hpre])).1 (by decide)
                rw [HV9.out] at e9
                have e10 : vv 10 = _ := (HPA.out.facts 10 (by decide) (by simp [hpre])).1 (by decide)
                rw [HV10.out] at e10
                go_simp
                exact HKk.out _ _ ⟨_, by simp [e9, e10, Act.put], .inl (HPA.out.put (v := .pointer (some ⟨bx, ox + j2 * 2, none⟩)) F15.ext (by decide) (Ext.rf _) ⟨fun _ => HV11.out.symm, fun h => absurd h (by decide), fun h => absurd h (by decide)⟩)⟩
              · simp [Region.binds] at hpre
                have e11 : vv 11 = _ := (HPA.out.facts 11 (by decide) (by simp [hpre])).1 (by decide)
                rw [HV11.out] at e11
                have c0 := (HXW2.out.tr HPA.out.ext).keep HC3.out
                have c1 := (HXW2.out.tr HPA.out.ext).keep HC4.out
                go_simp
                exact HKk.out _ _ ⟨_, by simp [e11], .inl (HPA.out.put (v := .agg #[.string x.name, .slice Ar x.args.length cr]) F15.ext (by decide) (Ext.rf _) ⟨fun _ => HV12.out.symm, fun h => absurd h (by decide), fun h => absurd h (by decide)⟩)⟩
              · clear hpre
                go_simp
                exact HKk.out _ _ ⟨_, rfl, .inl (HPA.out.put (v := .pointer (some ⟨wr.heap.size, 0, none⟩)) F15.ext (by decide) (Ext.rf _) ⟨fun _ => HV13.out.symm, fun h => absurd h (by decide), fun h => absurd h (by decide)⟩)⟩
              · simp [Region.binds] at hpre
                have e13 : vv 13 = _ := (HPA.out.facts 13 (by decide) (by simp [hpre])).1 (by decide)
                rw [HV13.out] at e13
                have c0 := HPA.out.ext.keep (cellAt HB9.out 0)
                go_simp
                exact HKk.out _ _ ⟨_, by simp [e13], .inl (HPA.out.put (v := .slice An ch.1.length cn) F15.ext (by decide) (Ext.rf _) ⟨fun _ => HV14.out.symm, fun h => absurd h (by decide), fun h => absurd h (by decide)⟩)⟩
              · simp [Region.binds] at hpre
                have e12 : vv 12 = _ := (HPA.out.facts 12 (by decide) (by simp [hpre])).1 (by decide)
                rw [HV12.out] at e12
                have e14 : vv 14 = _ := (HPA.out.facts 14 (by decide) (by simp [hpre])).1 (by decide)
                rw [HV14.out] at e14
                go_simp
                (refine (bound_any x _ _ ch.1 W (HAG.out.below (HXW2.out.tr HPA.out.ext)) (HNS.out.below (HX2.out.tr HPA.out.ext)) HPRL.out hxal).mono ?_)
                rintro e W' ⟨⟨v, rfl, hr⟩, hb⟩
                rw [HBL.out] at hr
                obtain ⟨C1, g1, rfl, -, -⟩ := hr.form
                exact HKk.out _ _ ⟨_, by simp [e12, e14], .inl (HPA.out.put (v := .slice C1 BL.length g1) F15.ext (by decide) hb ⟨fun h => absurd h (by decide), fun _ => hr, fun h => absurd h (by decide)⟩)⟩
              · simp [Region.binds] at hpre
                have e1 : vv 1 = _ := (HPA.out.facts 1 (by decide) (by simp [hpre])).1 (by decide)
                rw [HV1.out] at e1
                have s15 := (HPA.out.facts 15 (by decide) (by simp [hpre])).2.1 rfl
                go_simp
                (refine (refWithO_any _ _ vs BL W (V1.out.below (HX2.out.tr HPA.out.ext)) s15 (by omega) (by omega)).mono ?_)
                rintro e W' ⟨⟨v, rfl, ho, -⟩, hb⟩
                obtain ⟨C1, g1, hv⟩ := own_shapeL ho
                subst hv
                exact HKk.out _ _ ⟨_, by simp [e1], .inl (HPA.out.put (v := .slice C1 (vs ++ BL).length g1) F15.ext (by decide) hb ⟨fun h => absurd h (by decide), fun h => absurd h (by decide), fun _ => ⟨own_base ho (HX2.out.tr HPA.out.ext).size, HBLS.out⟩⟩)⟩
              · clear hpre
                go_simp
                exact HKk.out _ _ ⟨_, rfl, .inl (HPA.out.put (v := .pointer (some ⟨wr.heap.size + 1, 0, none⟩)) F15.ext (by decide) (Ext.rf _) ⟨fun _ => HV17.out.symm, fun h => absurd h (by decide), fun h => absurd h (by decide)⟩)⟩
              · have h17 := hpre ⟨17, .data⟩ (by simp) rfl
                have h16 := hpre ⟨16, .data⟩ (by simp) rfl
                have hall : ∀ i, i < 18 → Ls i = true := fun i hi => by
                  rcases (show i = 0 ∨ i = 1 ∨ i = 2 ∨ i = 3 ∨ i = 4 ∨ i = 5 ∨ i = 6 ∨ i = 7 ∨ i = 8 ∨ i = 9 ∨ i = 10 ∨ i = 11 ∨ i = 12 ∨ i = 13 ∨ i = 14 ∨ i = 15 ∨ i = 16 ∨ i = 17 by omega) with rfl | rfl | rfl | rfl | rfl | rfl | rfl | rfl | rfl | rfl | rfl | rfl | rfl | rfl | rfl | rfl | rfl | rfl
                  · exact hpre ⟨0, .phase⟩ (by simp) rfl
                  · exact hpre ⟨1, .phase⟩ (by simp) rfl
                  · exact hpre ⟨2, .phase⟩ (by simp) rfl
                  · exact hpre ⟨3, .phase⟩ (by simp) rfl
                  · exact hpre ⟨4, .phase⟩ (by simp) rfl
                  · exact hpre ⟨5, .phase⟩ (by simp) rfl
                  · exact hpre ⟨6, .phase⟩ (by simp) rfl
                  · exact hpre ⟨7, .phase⟩ (by simp) rfl
                  · exact hpre ⟨8, .phase⟩ (by simp) rfl
                  · exact hpre ⟨9, .phase⟩ (by simp) rfl
                  · exact hpre ⟨10, .phase⟩ (by simp) rfl
                  · exact hpre ⟨11, .phase⟩ (by simp) rfl
                  · exact hpre ⟨12, .phase⟩ (by simp) rfl
                  · exact hpre ⟨13, .phase⟩ (by simp) rfl
                  · exact hpre ⟨14, .phase⟩ (by simp) rfl
                  · exact hpre ⟨15, .phase⟩ (by simp) rfl
                  · exact hpre ⟨16, .phase⟩ (by simp) rfl
                  · exact h17
                have HALL := Lib.hid hall
                have e17 : vv 17 = _ := (HPA.out.facts 17 (by decide) h17).1 (by decide)
                rw [HV17.out] at e17
                obtain ⟨ho16, hs16⟩ := (HPA.out.facts 16 (by decide) h16).2.2 rfl
                obtain ⟨C1, g1, e16⟩ := own_shapeL ho16
                rw [List.length_append] at e16
                have HO16 := Lib.hid ho16
                have HBW := Lib.hid ((HPA.out.ext.block _ (heap_lt HB10.out)).trans HB10.out)
                have HB9W := Lib.hid ((HPA.out.ext.block _ (heap_lt HB9.out)).trans HB9.out)
                have g0 := cellAt HBW.out 0
                have f0 := frozenAt HBW.out 0
                clear hpre hc hall h16 h17 ho16
                go_simp
                have hn3 : 85 ≠ 74 := by decide
                refine HKk.out _ _ ⟨vv, by simp [e17, e16], .inr ⟨fun i hi => ?_, (HE2.out.tr HPA.out.ext).setCell (p := ⟨wr.heap.size + 1, 0, none⟩) (Nat.le_succ _) _, (Below.heap_setCell _ _ _ _ (by show wr.heap.size ≠ wr.heap.size + 1; omega)).trans HB9W.out, _, set1_box2 HBW.out _, .inr ⟨own_set3 (by have h := HO16.out; rw [e16] at h; exact h) HBW.out hn3 0 _, hs16⟩⟩⟩
                by_cases hi3 : i = 18
                · subst hi3; simp
                · simp [HALL.out i (by omega)]
            · intro Ls ac W hall hI
              obtain ⟨vv, rfl, hI | ⟨-, hI⟩⟩ := hI
              · have := hall 18 (by decide); rw [hI.not] at this; cases this
              · have HR := Lib.hid hI
                clear hI hall
                go_wp2
                go_meet
                exact HR.out
          case rest =>
          obtain ⟨hxw, hb9, u1, hb10, hs1⟩ := hcut
          have HB9 := Lib.hid hb9; have HBX := Lib.hid hb10
          have HKS : Hid (kidS P vs ls t (t.args.length + j2) = (vs ++ BL, ls)) := by
            show _ = _
            unfold kidS
            rw [if_neg (by omega), Nat.add_sub_cancel_left, HDA.out, List.getD_eq_getElem?_getD, HCJ.out, List.getD_eq_getElem?_getD, HXN.out]
            show (vs ++ boundL ch.1 (prodA x.args), ls) = _
            rw [HBL.out]
          obtain ⟨U1, e1, hv1⟩ := hs1.form
          rw [List.length_append] at hv1
          subst hv1
          have HKID : Hid (OkS w1 wc ((.slice U1 (vs.length + BL.length) e1, .slice Al ls.length cl), (vs ++ BL, ls))) := ⟨hs1, .inl V2.out⟩
          have HK6 := Lib.hid (HK.out.below hxw)
          have HZ6 : Hid (wr.heap.size ≤ wc.heap.size) := hxw.size
          have HNC : Hid (∀ q, wr.heap.size ≤ q → ¬ CB (.slice A6 M6.length c6) (.slice A7 M7.length c7) q) := fun q hq hcb => by
            rcases hcb with e | e
            · have := (HK.out.ra.lt q e).2; omega
            · have := (HK.out.rb.lt q e).2; omega
          have HLE : Hid (M6.length ≤ 1000000 ∧ M7.length ≤ 1000000) := by show _ ∧ _; have := HL6.out; have := HL7.out; omega
          clear hxw hb9 hb10 hs1
          generalize wc = w6 at *
          go_upto_region 16 with fail
          obtain ⟨vals, hvals⟩ : ∃ vals : Nat → Value, vals = fun j => if j = 0 then .slice A6 M6.length c6 else if j = 1 then .pointer (some ⟨wr.heap.size, 1, none⟩) else if j = 2 then .agg #[.int .i64 ch.2.op, .int .i64 ch.2.n, .string ch.2.nm, .int .i64 ch.2.ty, .slice Xa ch.2.args.length cxa, .slice Xc ch.2.cls.length cxc] else if j = 5 then .slice A7 M7.length c7 else if j = 6 then .agg #[.slice U1 (vs.length + BL.length) e1, .slice Al ls.length cl] else undef := ⟨_, rfl⟩
          have HV0 : Hid (vals 0 = .slice A6 M6.length c6) := by show _ = _; rw [hvals]; rfl
          have HV1 : Hid (vals 1 = .pointer (some ⟨wr.heap.size, 1, none⟩)) := by show _ = _; rw [hvals]; rfl
          have HV2 : Hid (vals 2 = .agg #[.int .i64 ch.2.op, .int .i64 ch.2.n, .string ch.2.nm, .int .i64 ch.2.ty, .slice Xa ch.2.args.length cxa, .slice Xc ch.2.cls.length cxc]) := by show _ = _; rw [hvals]; rfl
          have HV5 : Hid (vals 5 = .slice A7 M7.length c7) := by show _ = _; rw [hvals]; rfl
          have HV6 : Hid (vals 6 = .agg #[.slice U1 (vs.length + BL.length) e1, .slice Al ls.length cl]) := by show _ = _; rw [hvals]; rfl
          clear hvals
          refine wp_region_invCE hmx (by kernel_rfl) (fun Ls ac W => ∃ vv : Nat → Value, ac = { tmps := #[pV (.slice (some ⟨bd, od, none⟩) P.decls.length cd) (.slice Af nf cf), .agg #[.slice Av vs.length cv, .slice Al ls.length cl], tV t (.slice Aa t.args.length ca) (.slice (some ⟨b, o, none⟩) t.cls.length cb), .pointer (some ⟨w.heap.size, 0, none⟩), .pointer (some ⟨w.heap.size + 1, 0, none⟩), .pointer (some ⟨w.heap.size + 1 + 1, 0, none⟩), vv 9, vv 10, u8, u9, u10, .int .i64 (j2 : Int), .pointer (some ⟨wr.heap.size, 0, none⟩), .pointer (some ⟨wr.heap.size + 1, 0, none⟩), .pointer (some ⟨w.heap.size + 1 + 1, 4, none⟩), .slice Aa t.args.length ca, .int .i64 (t.args.length : Int), .int .i64 (j : Int), .bool false, u19, u20, u21, u22, u23, u24, u25, u26, u27, u28, u29, u30, u31, u32, u33, u34, u35, u36, u37, u38, u39, u40, u41, u42, u43, u44, u45, u46, u47, u48, u49, u50, u51, u52, u53, u54, u55, u56, u57, u58, u59, u60, u61, .pointer (some ⟨w.heap.size + 1 + 1, 5, none⟩), .slice (some ⟨b, o, none⟩) t.cls.length cb, .int .i64 (t.cls.length : Int), .int .i64 (j2 : Int), .bool true, .int .i64 (j2 : Int), .pointer (some ⟨b, o + j2 * 7, none⟩), .agg #[.slice An ch.1.length cn, .int .i64 ch.2.op, .int .i64 ch.2.n, .string ch.2.nm, .int .i64 ch.2.ty, .slice Xa ch.2.args.length cxa, .slice Xc ch.2.cls.length cxc], .agg #[.slice Av vs.length cv, .slice Al ls.length cl], u71, u72, u73, u74, u75, u76, u77, u78, u79, u80, u81, u82, u83, u84, u85, u86, u87, u88, vv 0, vv 1, vv 2, vv 3, vv 4, vv 5, vv 6, vv 7, vv 8, u98, undef, undef], defers := [] } ∧ R9 3 vals w1 w6 (.slice A6 M6.length c6) (.slice A7 M7.length c7) M6 ((ch.2, .slice Xa ch.2.args.length cxa, .slice Xc ch.2.cls.length cxc) : Trm) M7 (((.slice U1 (vs.length + BL.length) e1, .slice Al ls.length cl), (vs ++ BL, ls)) : Trs) Ls W vv) ?_ ?_ ?_
          · exact ⟨fun j => if j = 0 then u89 else if j = 1 then u90 else if j = 2 then u91 else if j = 3 then u92 else if j = 4 then u93 else if j = 5 then u94 else if j = 6 then u95 else if j = 7 then u96 else if j = 8 then u97 else if j = 9 then .slice A6 M6.length c6 else if j = 10 then .slice A7 M7.length c7 else undef, rfl, R9.zero HK6.out HKID.out rfl rfl⟩
          · intro Ls ac W i op ho hpre hl hc hI Kk HKk
            have hi : i < 11 := (Array.getElem?_eq_some_iff.1 ho).1
            obtain ⟨vv, rfl, hI⟩ := hI
            have HPA := Lib.hid hI
            have hcs : i = 0 ∨ i = 1 ∨ i = 2 ∨ i = 3 ∨ i = 4 ∨ i = 5 ∨ i = 6 ∨ i = 7 ∨ i = 8 ∨ i = 9 ∨ i = 10 := by omega
            rcases hcs with rfl | rfl | rfl | rfl | rfl | rfl | rfl | rfl | rfl | rfl | rfl
            all_goals
              obtain rfl := Option.some.inj ho
              clear ho hi hI
            · have h9 : Ls 9 = false := by
                cases hq : Ls 9
                · rfl
                · have := hc 9 _ rfl hq ⟨0, .phase⟩ (by simp) rfl
                  rw [hl] at this; cases this
              have e9 : vv 9 = _ := HPA.out.a0 h9
              clear hpre hc
              go_simp
              exact HKk.out _ _ ⟨_, by simp [e9], HPA.out.step (v := .slice A6 M6.length c6) (by decide) (Ext.rf _) (fun _ => HV0.out.symm) (fun h => absurd h (by decide)) (fun h => absurd h (by decide))⟩
            · clear hpre hc
              go_simp
              exact HKk.out _ _ ⟨_, rfl, HPA.out.step (v := .pointer (some ⟨wr.heap.size, 1, none⟩)) (by decide) (Ext.rf _) (fun _ => HV1.out.symm) (fun h => absurd h (by decide)) (fun h => absurd h (by decide))⟩
            · simp [Region.binds] at hpre
              have e1 : vv 1 = _ := HPA.out.facts 1 (by decide) (by simp [hpre])
              rw [HV1.out] at e1
              have hk9 := (HPA.out.only.block _ (heap_lt HB9.out) (HNC.out _ (Nat.le_refl _))).trans HB9.out
              have c1 := cellAt hk9 1
              have c2 := cellAt hk9 2
              have c3 := cellAt hk9 3
              have c4 := cellAt hk9 4
              have c5 := cellAt hk9 5
              have c6 := cellAt hk9 6
              clear hpre hc hk9
              go_simp
              exact HKk.out _ _ ⟨_, by simp [e1], HPA.out.step (v := .agg #[.int .i64 ch.2.op, .int .i64 ch.2.n, .string ch.2.nm, .int .i64 ch.2.ty, .slice Xa ch.2.args.length cxa, .slice Xc ch.2.cls.length cxc]) (by decide) (Ext.rf _) (fun _ => HV2.out.symm) (fun h => absurd h (by decide)) (fun h => absurd h (by decide))⟩
            · simp [Region.binds] at hpre
              have e2 : vv 2 = _ := HPA.out.facts 2 (by decide) (by simp [hpre])
              rw [HV2.out] at e2
              go_simp
              exact HKk.out _ _ ⟨_, by simp [e2], HPA.out.step (v := .slice (some ⟨W.heap.size, 0, none⟩) 1 1) (by decide) (Ext.al _ _) (fun h => absurd h (by decide)) (fun _ => ⟨W.heap.size, rfl, heapNew _ _, HNC.out _ (Nat.le_trans HZ6.out HPA.out.only.size)⟩) (fun h => absurd h (by decide))⟩
            · have h9 : Ls 9 = false := by
                cases hq : Ls 9
                · rfl
                · have := hc 9 _ rfl hq ⟨4, .data⟩ (by simp) rfl
                  rw [hl] at this; cases this
              have h0 := hpre ⟨0, .data⟩ (by simp) rfl
              have hs := hpre ⟨3, .data⟩ (by simp) rfl
              have e0 : vv 0 = _ := HPA.out.facts 0 (by decide) h0
              rw [HV0.out] at e0
              obtain ⟨q9, eq, hq9, -⟩ := HPA.out.f2 hs
              have hra := HPA.out.ra0 hl
              split
              · refine app_row (t := 38) (e := 41) (size := 6) (bytes := 88) Tryz.u40 Tryz.info43 (by decide) (by decide) (.tmp 89) (.tmp 92) rfl w1.heap.size (.slice A6 M6.length c6) M6.length (cellsT M6) e0 hra (some ⟨q9, 0, none⟩) 1 1 (cellsT [((ch.2, .slice Xa ch.2.args.length cxa, .slice Xc ch.2.cls.length cxc) : Trm)]) eq (SrcN.oneTm hq9) (fun u hu => by simp [cellsT, cells1] at hu; rcases hu with rfl | rfl | rfl | rfl | rfl | rfl <;> rfl) (by have := HLE.out; unfold maxLen; omega) (by have := HLE.out; omega) HPA.out.size (fun v' W' ho hg hat => ?_)
                refine HKk.out _ _ ⟨fun j => if j = 4 then v' else vv j, rfl, HPA.out.appA hl h9 hg ?_⟩
                rw [List.length_append, cellsT_append]; exact ho
              · rename_i hw
                exact absurd (by rfl) hw
            · have h10 : Ls 10 = false := by
                cases hq : Ls 10
                · rfl
                · have := hc 10 _ rfl hq ⟨5, .phase⟩ (by simp) rfl
                  rw [hl] at this; cases this
              have e10 : vv 10 = _ := HPA.out.b0 h10
              clear hpre hc
              go_simp
              exact HKk.out _ _ ⟨_, by simp [e10], HPA.out.step (v := .slice A7 M7.length c7) (by decide) (Ext.rf _) (fun _ => HV5.out.symm) (fun h => absurd h (by decide)) (fun h => absurd h (by decide))⟩
            · have hk10 := (HPA.out.only.block _ (heap_lt HBX.out) (HNC.out _ (Nat.le_succ _))).trans HBX.out
              have c0 := cellAt hk10 0
              have c1 := cellAt hk10 1
              clear hpre hc hk10
              go_simp
              exact HKk.out _ _ ⟨_, rfl, HPA.out.step (v := .agg #[.slice U1 (vs.length + BL.length) e1, .slice Al ls.length cl]) (by decide) (Ext.rf _) (fun _ => HV6.out.symm) (fun h => absurd h (by decide)) (fun h => absurd h (by decide))⟩
            · simp [Region.binds] at hpre
              have e6 : vv 6 = _ := HPA.out.facts 6 (by decide) (by simp [hpre])
              rw [HV6.out] at e6
              go_simp
              exact HKk.out _ _ ⟨_, by simp [e6], HPA.out.step (v := .slice (some ⟨W.heap.size, 0, none⟩) 1 1) (by decide) (Ext.al _ _) (fun h => absurd h (by decide)) (fun h => absurd h (by decide)) (fun _ => ⟨W.heap.size, rfl, heapNew _ _, HNC.out _ (Nat.le_trans HZ6.out HPA.out.only.size)⟩)⟩
            · have h10 : Ls 10 = false := by
                cases hq : Ls 10
                · rfl
                · have := hc 10 _ rfl hq ⟨8, .data⟩ (by simp) rfl
                  rw [hl] at this; cases this
              have h0 := hpre ⟨5, .data⟩ (by simp) rfl
              have hs := hpre ⟨7, .data⟩ (by simp) rfl
              have e5 : vv 5 = _ := HPA.out.facts 5 (by decide) h0
              rw [HV5.out] at e5
              obtain ⟨q9, eq, hq9, -⟩ := HPA.out.f6 hs
              have hrb := HPA.out.rb0 hl
              split
              · refine app_row (t := 117) (e := 85) (size := 2) (bytes := 48) Tryz.undSc Tryz.infoSc (by decide) (by decide) (.tmp 94) (.tmp 96) rfl w1.heap.size (.slice A7 M7.length c7) M7.length (cellsSc M7) e5 hrb (some ⟨q9, 0, none⟩) 1 1 (cellsSc [(((.slice U1 (vs.length + BL.length) e1, .slice Al ls.length cl), (vs ++ BL, ls)) : Trs)]) eq (SrcN.oneSc hq9) (fun u hu => by simp [cellsSc] at hu; rcases hu with rfl | rfl <;> rfl) (by have := HLE.out; unfold maxLen; omega) (by have := HLE.out; omega) HPA.out.size (fun v' W' ho hg hat => ?_)
                refine HKk.out _ _ ⟨fun j => if j = 8 then v' else vv j, rfl, HPA.out.appB hl h10 hg ?_⟩
                rw [List.length_append, cellsSc_append]; exact ho
              · rename_i hw
                exact absurd (by rfl) hw
            · clear hpre hc
              go_simp
              exact HKk.out _ _ ⟨_, rfl, HPA.out.asgA⟩
            · clear hpre hc
              go_simp
              exact HKk.out _ _ ⟨_, rfl, HPA.out.asgB⟩
          · intro Ls ac W hall hI
            obtain ⟨vv, rfl, hI⟩ := hI
            have e8 : vv 9 = vv 4 := hI.a1 (hall 9 (by decide))
            have e9 : vv 10 = vv 8 := hI.b1 (hall 10 (by decide))
            have HKD := Lib.hid (hI.done (hall 4 (by decide)) (hall 8 (by decide)))
            clear hI hall
            rw [e8, e9]
            clear e8 e9
            generalize vv 4 = v4 at *
            generalize vv 8 = v8 at *
            go_wp2
            refine ⟨⟨j2 + 1, _, _, by omega, by go_num, HKD.out, ?_, ?_, ?_⟩, by simp [intOf]; omega⟩
            · rw [List.map_append, H6.out, HTK.out, List.map_append, List.append_assoc]; rfl
            · intro x hx
              rcases List.mem_append.1 hx with hx | hx
              · exact HR6.out x hx
              · rw [List.mem_singleton.1 hx]; exact HRT.out
            · rw [List.map_append, H7.out, show t.args.length + (j2 + 1) = t.args.length + j2 + 1 by omega, range_snoc, List.map_append, List.map_singleton, List.map_singleton, HKS.out]
        · have hje : j2 = t.cls.length := by omega
          have HV1 : Hid (RTms wr k (.slice A6 M6.length c6) (chT t)) := by
            have h := own_RTms HK.out.ra (fun x hx => (HR6.out x hx).below HX.out)
            rw [H6.out, List.take_of_length_le (by omega)] at h
            exact h
          have HV2 : Hid (RScs wr (.slice A7 M7.length c7) ((List.range (t.args.length + t.cls.length)).map (kidS P vs ls t))) := by
            have h := HK.out.scs
            rw [H7.out, hje] at h
            exact h
          have HXF := Lib.hid (HE.out.tr HX.out)
          clear hje
          go_wp2
          go_ret2
          exact ⟨⟨_, _, rfl, HV1.out, HV2.out⟩, HXF.out⟩
end Go.Proofs.YtogmjgccopmplaaGreat
