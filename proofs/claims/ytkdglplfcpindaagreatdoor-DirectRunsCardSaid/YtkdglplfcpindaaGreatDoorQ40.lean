import Derived.Test.YtkdglplfcpindaaGreatDoorQ39
set_option maxRecDepth 100000
namespace Go.Proofs.YtkdglplfcpindaaGreatDoor
open Go.RowKit
def bdZ (n : Int) : List Value := [.bool false, zi, .int .i64 n, zi, zs, zs, zp, zi, zi, ze, zi, zs, zs, zp]
def bdsZ (l : List Int) : List Value := l.flatMap bdZ
theorem bdZ_brow {P : Pg} {w0 w : World} {bad : Nat -> Prop} : ∀ (k : Nat) (l : List Int), l.length = k -> (∀ n ∈ l, ok64 n) -> BRow P w0 w bad (bdsZ l) (l.map fun n => .held (.int n))
  | 0, l, hl, _ => by
    obtain rfl := List.eq_nil_of_length_eq_zero hl
    exact BRow.nil
  | k + 1, l, hl, h => by
    rcases List.eq_nil_or_concat l with rfl | ⟨m, n, rfl⟩
    . simp at hl
    . rw [List.concat_eq_append] at h hl ⊢
      have h1 := (bdZ_brow k m (by simpa using hl) (fun n hn => h n (by simp [hn]))).snoc (DR.held (P := P) (w0 := w0) (w := w) (bad := bad) _ _ _ _ _ _ _ (.int n (h n (by simp))))
      have e : bdsZ (m ++ [n]) = bdsZ m ++ bdZ n := by unfold bdsZ; simp
      rw [e, List.map_append]
      exact h1
theorem srcS1 {w : World} {b : Nat} {s : Str} {T : Nat} (h : w.heap[b]? = some (.cells #[.string s] T (0, 0))) : SrcN w (some ⟨b, 0, none⟩) 1 1 [.string s] := .inr ⟨_, rfl, rfl, fun i u hu => by
  have hi : i < 1 := (List.getElem?_eq_some_iff.1 hu).1
  match i, hi with
  | 0, _ => rw [add_at]; exact cA h 0 hu⟩
theorem bdZ_one (x : Int) : ∀ u ∈ bdZ x, u.oneCell' = true := fun u hu => by
  unfold bdZ at hu
  simp at hu
  rcases hu with rfl | rfl | rfl | rfl | rfl | rfl | rfl | rfl | rfl | rfl | rfl | rfl | rfl | rfl <;> rfl
set_option maxHeartbeats 4000000 in
theorem runR_any (P : Pg) (w : World) (vd vf vi : Value) (fuel : Nat) (inputs : List Int) (r : Rn) (hW : WFP false P) (hfu : fuel <= 20000) (hd : RDecls w vd P.decls) (hf : RFns w vf P.funs) (hI : RInts w vi inputs) (h64 : ∀ n ∈ inputs, ok64 n) (hi : inputs.length = (fnAt P 0).ps.length) (hl : (fnAt P 0).ps.length <= 1000) (hr : RunsTo P fuel (startS P inputs) r) :
    Calls Tryz.prog 13 #[.agg #[vd, vf], .int .i64 fuel, vi] w fun e w' => (∃ ov, e = .returned (.agg #[.int .i64 r.stop, .int .i64 r.val, ov, .int .i64 r.steps]) /\ OwnL w' w.heap.size ov r.outs) /\ Ext w w' := by
  have HD := LH hd
  have HF := LH hf
  have HI := LH hI
  have H64 := LH h64
  have HWF := LH hW
  have HR := LH hr
  have hpos : 0 < P.funs.length := List.length_pos_of_mem (main_ok hW.1).1
  have HFA : fnAt P 0 = P.funs[0] := by unfold fnAt; rw [List.getD_eq_getElem?_getD, show ((0 : Int)).toNat = 0 from rfl, List.getElem?_eq_getElem hpos]; rfl
  rw [HFA] at hi hl
  have HFA := LH HFA
  obtain ⟨Ad, cd, rfl, hcd, hmd⟩ := hd.form
  obtain ⟨Af, cf, rfl, hcf, hmf⟩ := hf.form
  obtain ⟨Ai, ci, rfl, hci, hmi⟩ := hI.form
  obtain ⟨bf, of_, vp, xa, xc, rfl, -, hcf1, hcf2, f0, f1, f2, f3, hfn⟩ := hf.fn (Ext.rf w) hpos
  obtain ⟨-, hps, hbody⟩ := hfn
  obtain ⟨Ap, cp, rfl, -, hmp⟩ := hps.form
  rw [Nat.zero_mul, Nat.add_zero] at f1 f3
  unfold maxLen at hmd hmf hmi hmp
  have HPS := LH hps
  have HBD := LH hbody
  clear f0 f2 hps hbody hd hf hI h64 hW hr
  generalize P.funs[0] = f at *
  obtain ⟨W1, hW1⟩ : ∃ W1 : World, W1 = w.alloc (.cells #[.slice Ad P.decls.length cd, .slice (some ⟨bf, of_, none⟩) P.funs.length cf] 25) := ⟨_, rfl⟩
  obtain ⟨W2, hW2⟩ : ∃ W2 : World, W2 = W1.alloc (.cells #[.int .i64 0, .int .i64 0, .slice none 0 0, .int .i64 0] 30) := ⟨_, rfl⟩
  have hs1 : W1.heap.size = w.heap.size + 1 := by rw [hW1, World.size_alloc]
  have hs2 : W2.heap.size = w.heap.size + 2 := by rw [hW2, World.size_alloc, hs1]
  have e1 : Ext w W1 := hW1 ▸ Ext.al w _
  have e2 : Ext W1 W2 := hW2 ▸ Ext.al W1 _
  have g1 : W1.heap[w.heap.size]? = some (.cells #[.slice Ad P.decls.length cd, .slice (some ⟨bf, of_, none⟩) P.funs.length cf] 25 (0, 0)) := hW1 ▸ hNw w _
  have g2 : W2.heap[w.heap.size + 1]? = some (.cells #[.int .i64 0, .int .i64 0, .slice none 0 0, .int .i64 0] 30 (0, 0)) := by rw [← hs1, hW2]; exact hNw W1 _
  have g3 := hNw W2 (.cells (mrV (.slice Ad P.decls.length cd) (.slice (some ⟨bf, of_, none⟩) P.funs.length cf) fuel 0 0 (.slice none 0 0) 0 (.bool false) zi zi ze zi zs zs zp zi zi zi zs zs zp zp (.bool false)) 66)
  rw [hs2] at g3
  have e3 := Ext.al W2 (.cells (mrV (.slice Ad P.decls.length cd) (.slice (some ⟨bf, of_, none⟩) P.funs.length cf) fuel 0 0 (.slice none 0 0) 0 (.bool false) zi zi ze zi zs zs zp zi zi zi zs zs zp zp (.bool false)) 66)
  have HE := LH ((e1.tr e2).tr e3)
  have HBX := LH (((e2.tr e3).block _ (hLt g1)).trans g1)
  have HBR := LH ((e3.block _ (hLt g2)).trans g2)
  have HBM := LH g3
  have HZ3 : Hid ((W2.alloc (.cells (mrV (.slice Ad P.decls.length cd) (.slice (some ⟨bf, of_, none⟩) P.funs.length cf) fuel 0 0 (.slice none 0 0) 0 (.bool false) zi zi ze zi zs zs zp zi zi zi zs zs zp zp (.bool false)) 66)).heap.size = w.heap.size + 3) := by show _ = _; rw [World.size_alloc, hs2]
  have c0 := cA ((e2.block _ (hLt g1)).trans g1) 0
  have c1 := cA ((e2.block _ (hLt g1)).trans g1) 1
  have c1' := cA HBX.out 1
  have f1' := HE.out.keep f1
  unfold mrV at c1'
  have F3 := LH f3
  subst hW1
  clear g1 g2 g3 e1 e2 e3 f1 f3 hs1
  go_enter Tryz.func13, Tryz.ntmps13
  subst hW2
  have HM0 := LH (And.intro hi hl)
  clear hi hl
  go_wp2
  clear c0 c1 c1' f1'
  generalize World.alloc (World.alloc (World.alloc w _) _) _ = w3 at *
  go_loopw [8, 9, 22] (fun s b i wr => ∃ (j : Nat), j <= inputs.length /\ i = .int .i64 j /\ KR5 9 71 1 14 w3 wr s b j j ((f.ps.take j).map fun a => Value.string a.nm) (bdsZ (inputs.take j))) (fun _ _ i _ => inputs.length - (intOf i).toNat)
  case atStart => exact ⟨0, Nat.zero_le _, rfl, ⟨rfl, .inl ⟨rfl, rfl⟩⟩, ⟨rfl, .inl ⟨rfl, rfl⟩⟩, Ext.rf _⟩
  case round =>
    obtain ⟨j, hj, rfl, hk⟩ := hrel
    have HK := LH hk
    clear hk
    by_cases hlt : j < inputs.length
    . have hltf : j < f.ps.length := by have := HM0.out.1; omega
      obtain ⟨b, o, rfl, hbl, y0, y1, -⟩ := (HPS.out.below HE.out).at_ hltf
      obtain ⟨b2, o2, rfl, hbl2, z0⟩ := (HI.out.below HE.out).at_ hlt
      have HZ0 := LH z0
      have y0 := HK.out.ext.keep y0
      have y1 := HK.out.ext.keep y1
      have HTN : Hid ((f.ps.take (j + 1)).map (fun a => Value.string a.nm) = (f.ps.take j).map (fun a => Value.string a.nm) ++ [.string (f.ps[j]).nm]) := by show _ = _; rw [List.take_succ_eq_append_getElem hltf, List.map_append]; rfl
      have HTB : Hid (bdsZ (inputs.take (j + 1)) = bdsZ (inputs.take j) ++ bdZ inputs[j]) := by show _ = _; rw [List.take_succ_eq_append_getElem hlt]; unfold bdsZ; rw [List.flatMap_append]; simp
      generalize f.ps[j] = a at *
      generalize inputs[j] = x at *
      generalize (f.ps.take j).map (fun a => Value.string a.nm) = xa at *
      generalize bdsZ (inputs.take j) = xb at *
      have HNC : Hid (∀ q, wr.heap.size <= q -> ¬ CB5 u8 u9 q) := fun q hq h => h.elim (fun e => Nat.lt_irrefl _ (Nat.lt_of_lt_of_le (HK.out.ra.lt q e).2 hq)) (fun e => Nat.lt_irrefl _ (Nat.lt_of_lt_of_le (HK.out.rb.lt q e).2 hq))
      have HB9 := LH (hNw wr (.cells #[.string a.nm, .int .i64 a.ty] 69))
      have HK6 := LH (HK.out.below (Ext.al wr (.cells #[.string a.nm, .int .i64 a.ty] 69)))
      have HZ6 : Hid (wr.heap.size <= (wr.alloc (.cells #[.string a.nm, .int .i64 a.ty] 69)).heap.size) := (Ext.al wr _).size
      have hj0 : (0 : Int) <= j := by omega
      have hj1 : (j : Int) < inputs.length := by omega
      have hmx : Tryz.prog.follows .mixedOrders = true := by kernel_rfl
      have HJ := LH (And.intro hj0 hj1)
      have HLE := LH hlt
      have HLI : Hid (inputs.length <= 1000) := by show _ <= _; have := HM0.out.1; have := HM0.out.2; omega
      have HKZ : Hid (w3.heap.size <= wr.heap.size) := HK.out.ext.size
      go_upto_region 7 with fail
      clear y0 y1 z0
      generalize wr.alloc _ = w6 at *
      obtain ⟨vals, hvals⟩ : ∃ vals : Nat -> Value, vals = fun i => if i = 0 then u8 else if i = 1 then .pointer (some ⟨wr.heap.size, 0, none⟩) else if i = 2 then .string a.nm else if i = 5 then u9 else if i = 6 then .slice (some ⟨b2, o2, none⟩) inputs.length ci else if i = 7 then .int .i64 (j : Int) else if i = 8 then .pointer (some ⟨b2, o2 + j, none⟩) else if i = 9 then .int .i64 x else if i = 10 then .agg #[zi, .int .i64 x, zi, zs, zs, zp] else if i = 11 then .agg #[.bool false, zi, .int .i64 x, zi, zs, zs, zp, zi, zi, ze, zi, zs, zs, zp] else undef := ⟨_, rfl⟩
      have HV0 : Hid (vals 0 = u8) := by show _ = _; rw [hvals]; rfl
      have HV1 : Hid (vals 1 = .pointer (some ⟨wr.heap.size, 0, none⟩)) := by show _ = _; rw [hvals]; rfl
      have HV2 : Hid (vals 2 = .string a.nm) := by show _ = _; rw [hvals]; rfl
      have HV5 : Hid (vals 5 = u9) := by show _ = _; rw [hvals]; rfl
      have HV6 : Hid (vals 6 = .slice (some ⟨b2, o2, none⟩) inputs.length ci) := by show _ = _; rw [hvals]; rfl
      have HV7 : Hid (vals 7 = .int .i64 (j : Int)) := by show _ = _; rw [hvals]; rfl
      have HV8 : Hid (vals 8 = .pointer (some ⟨b2, o2 + j, none⟩)) := by show _ = _; rw [hvals]; rfl
      have HV9 : Hid (vals 9 = .int .i64 x) := by show _ = _; rw [hvals]; rfl
      have HV10 : Hid (vals 10 = .agg #[zi, .int .i64 x, zi, zs, zs, zp]) := by show _ = _; rw [hvals]; rfl
      have HV11 : Hid (vals 11 = .agg #[.bool false, zi, .int .i64 x, zi, zs, zs, zp, zi, zi, ze, zi, zs, zs, zp]) := by show _ = _; rw [hvals]; rfl
      clear hvals
      refine wp_region_invCE hmx (by kernel_rfl) (fun Ls ac W => ∃ vv : Nat -> Value, ac = { tmps := #[.agg #[.slice Ad P.decls.length cd, .slice (some ⟨bf, of_, none⟩) P.funs.length cf], .int .i64 (fuel : Int), .slice (some ⟨b2, o2, none⟩) inputs.length ci, .pointer (some ⟨w.heap.size, 0, none⟩), undef, undef, .pointer (some ⟨w.heap.size + 1, 0, none⟩), .pointer (some ⟨w.heap.size + 2, 0, none⟩), vv 14, vv 15, .int .i64 (j : Int), .pointer (some ⟨wr.heap.size, 0, none⟩), .agg #[.slice Ad P.decls.length cd, .slice (some ⟨bf, of_, none⟩) P.funs.length cf], .int .i64 (fuel : Int), .agg #[.slice Ad P.decls.length cd, .slice (some ⟨bf, of_, none⟩) P.funs.length cf, .int .i64 (fuel : Int), .int .i64 0, .int .i64 0, .slice none 0 0, .int .i64 0, .bool false, .int .i64 0, .int .i64 0, .string ⟨#[]⟩, .int .i64 0, .slice none 0 0, .slice none 0 0, .pointer none, .int .i64 0, .int .i64 0, .int .i64 0, .slice none 0 0, .slice none 0 0, .pointer none, .pointer none, .bool false], .pointer (some ⟨w.heap.size + 2, 0, none⟩), .pointer (some ⟨w.heap.size, 1, none⟩), .slice (some ⟨bf, of_, none⟩) P.funs.length cf, .pointer (some ⟨bf, of_, none⟩), .pointer (some ⟨bf, of_ + 1, none⟩), .slice (some ⟨b, o, none⟩) f.ps.length cp, .int .i64 (f.ps.length : Int), .int .i64 (j : Int), .bool true, .int .i64 (j : Int), .pointer (some ⟨b, o + j * 2, none⟩), .agg #[.string a.nm, .int .i64 a.ty], vv 0, vv 1, vv 2, vv 3, vv 4, vv 5, vv 6, vv 7, vv 8, vv 9, vv 10, vv 11, vv 12, vv 13, u41, undef, undef, undef, undef, undef, undef, undef, undef, undef, undef, undef, undef, undef, undef, undef, undef, undef, undef, undef, undef, undef, undef, undef, undef, undef, undef, undef, undef, undef, undef, undef, undef, undef, undef, undef, undef, undef, undef, undef, undef, undef, undef, undef, undef, undef, undef, undef, undef, undef, undef, undef], defers := [] } /\ R16 9 71 1 14 vals w3 w6 u8 u9 j j xa xb [.string a.nm] (bdZ x) Ls W vv) ?_ ?_ ?_
      . exact ⟨fun i => if i = 0 then u27 else if i = 1 then u28 else if i = 2 then u29 else if i = 3 then u30 else if i = 4 then u31 else if i = 5 then u32 else if i = 6 then u33 else if i = 7 then u34 else if i = 8 then u35 else if i = 9 then u36 else if i = 10 then u37 else if i = 11 then u38 else if i = 12 then u39 else if i = 13 then u40 else if i = 14 then u8 else if i = 15 then u9 else undef, rfl, R16.zero HK6.out rfl rfl⟩
      . intro Ls ac W i op ho hpre hl hc hI Kk HKk
        have hi : i < 16 := (Array.getElem?_eq_some_iff.1 ho).1
        obtain ⟨vv, rfl, hI⟩ := hI
        have HPA := LH hI
        have hcs : i = 0 ∨ i = 1 ∨ i = 2 ∨ i = 3 ∨ i = 4 ∨ i = 5 ∨ i = 6 ∨ i = 7 ∨ i = 8 ∨ i = 9 ∨ i = 10 ∨ i = 11 ∨ i = 12 ∨ i = 13 ∨ i = 14 ∨ i = 15 := by omega
        rcases hcs with rfl | rfl | rfl | rfl | rfl | rfl | rfl | rfl | rfl | rfl | rfl | rfl | rfl | rfl | rfl | rfl
        all_goals
          obtain rfl := Option.some.inj ho
          clear ho hi hI
        . have h14 : Ls 14 = false := by
            cases hq : Ls 14
            . rfl
            . have := hc 14 _ rfl hq ⟨0, .phase⟩ (by simp) rfl
              rw [hl] at this; cases this
          have e14 : vv 14 = _ := HPA.out.a0 h14
          clear hpre hc
          go_simp
          exact HKk.out _ _ ⟨_, by simp [e14], HPA.out.step (v := u8) (by decide) (Ext.rf _) (fun _ _ => HV0.out.symm) (fun h => absurd h (by decide)) (fun h => absurd h (by decide))⟩
        . clear hpre hc
          go_simp
          exact HKk.out _ _ ⟨_, rfl, HPA.out.step (v := .pointer (some ⟨wr.heap.size, 0, none⟩)) (by decide) (Ext.rf _) (fun _ _ => HV1.out.symm) (fun h => absurd h (by decide)) (fun h => absurd h (by decide))⟩
        . simp [Region.binds] at hpre
          have e1 : vv 1 = _ := HPA.out.facts 1 (by unfold pl16; decide) (by simp [hpre])
          rw [HV1.out] at e1
          have hk9 := (HPA.out.only.block _ (hLt HB9.out) (HNC.out _ (Nat.le_refl _))).trans HB9.out
          have c0 := cA hk9 0
          clear hpre hc hk9
          go_simp
          exact HKk.out _ _ ⟨_, by simp [e1], HPA.out.step (v := .string a.nm) (by decide) (Ext.rf _) (fun _ _ => HV2.out.symm) (fun h => absurd h (by decide)) (fun h => absurd h (by decide))⟩
        . simp [Region.binds] at hpre
          have e2 : vv 2 = _ := HPA.out.facts 2 (by unfold pl16; decide) (by simp [hpre])
          rw [HV2.out] at e2
          go_simp
          exact HKk.out _ _ ⟨_, by simp [e2], HPA.out.step (v := .slice (some ⟨W.heap.size, 0, none⟩) 1 1) (by decide) (Ext.al _ _) (fun h => absurd rfl h) (fun _ => ⟨W.heap.size, rfl, hNw _ _, HNC.out _ (Nat.le_trans HZ6.out HPA.out.only.size)⟩) (fun h => absurd h (by decide))⟩
        . have h14 : Ls 14 = false := by
            cases hq : Ls 14
            . rfl
            . have := hc 14 _ rfl hq ⟨4, .data⟩ (by simp) rfl
              rw [hl] at this; cases this
          have h0 := hpre ⟨0, .data⟩ (by simp) rfl
          have hs := hpre ⟨3, .data⟩ (by simp) rfl
          have e0 : vv 0 = _ := HPA.out.facts 0 (by unfold pl16; decide) h0
          rw [HV0.out] at e0
          obtain ⟨q9, eq, hq9, -⟩ := HPA.out.f2 hs
          have hra := HPA.out.ra0 hl
          split
          . refine app_row (t := 67) (e := 9) (size := 1) (bytes := 16) Tryz.underlying67 Tryz.info9 rfl (by decide) (.tmp 27) (.tmp 30) rfl w3.heap.size u8 j xa e0 hra (some ⟨q9, 0, none⟩) 1 1 [.string a.nm] eq (srcS1 hq9) (fun u hu => by rw [List.mem_singleton.1 hu]; rfl) (by have := HLE.out; have := HLI.out; unfold maxLen; omega) (by have := HLE.out; have := HLI.out; omega) (Nat.le_trans HKZ.out (Nat.le_trans HZ6.out HPA.out.only.size)) (fun v' W' ho hg hat => ?_)
            exact HKk.out _ _ ⟨fun j => if j = 4 then v' else vv j, rfl, HPA.out.appA (by decide) hl h14 hg ho⟩
          . rename_i hw
            exact absurd (by rfl) hw
        . have h15 : Ls 15 = false := by
            cases hq : Ls 15
            . rfl
            . have := hc 15 _ rfl hq ⟨5, .phase⟩ (by simp) rfl
              rw [hl] at this; cases this
          have e15 : vv 15 = _ := HPA.out.b0 h15
          clear hpre hc
          go_simp
          exact HKk.out _ _ ⟨_, by simp [e15], HPA.out.step (v := u9) (by decide) (Ext.rf _) (fun _ _ => HV5.out.symm) (fun h => absurd h (by decide)) (fun h => absurd h (by decide))⟩
        . clear hpre hc
          go_simp
          exact HKk.out _ _ ⟨_, rfl, HPA.out.step (v := .slice (some ⟨b2, o2, none⟩) inputs.length ci) (by decide) (Ext.rf _) (fun _ _ => HV6.out.symm) (fun h => absurd h (by decide)) (fun h => absurd h (by decide))⟩
        . clear hpre hc
          go_simp
          exact HKk.out _ _ ⟨_, rfl, HPA.out.step (v := .int .i64 (j : Int)) (by decide) (Ext.rf _) (fun _ _ => HV7.out.symm) (fun h => absurd h (by decide)) (fun h => absurd h (by decide))⟩
        . simp [Region.binds] at hpre
          have e6 : vv 6 = _ := HPA.out.facts 6 (by unfold pl16; decide) (by simp [hpre])
          rw [HV6.out] at e6
          have e7 : vv 7 = _ := HPA.out.facts 7 (by unfold pl16; decide) (by simp [hpre])
          rw [HV7.out] at e7
          have hj0 := HJ.out.1
          have hj1 := HJ.out.2
          clear hpre hc
          go_simp
          exact HKk.out _ _ ⟨_, by simp [e6, e7], HPA.out.step (v := .pointer (some ⟨b2, o2 + j, none⟩)) (by decide) (Ext.rf _) (fun _ _ => HV8.out.symm) (fun h => absurd h (by decide)) (fun h => absurd h (by decide))⟩
        . simp [Region.binds] at hpre
          have e8 : vv 8 = _ := HPA.out.facts 8 (by unfold pl16; decide) (by simp [hpre])
          rw [HV8.out] at e8
          have z0 := HPA.out.kr.ext.keep HZ0.out
          clear hpre hc
          go_simp
          exact HKk.out _ _ ⟨_, by simp [e8], HPA.out.step (v := .int .i64 x) (by decide) (Ext.rf _) (fun _ _ => HV9.out.symm) (fun h => absurd h (by decide)) (fun h => absurd h (by decide))⟩
        . simp [Region.binds] at hpre
          have e9 : vv 9 = _ := HPA.out.facts 9 (by unfold pl16; decide) (by simp [hpre])
          rw [HV9.out] at e9
          clear hpre hc
          go_simp
          exact HKk.out _ _ ⟨_, by simp [e9], HPA.out.step (v := .agg #[zi, .int .i64 x, zi, zs, zs, zp]) (by decide) (Ext.rf _) (fun _ _ => HV10.out.symm) (fun h => absurd h (by decide)) (fun h => absurd h (by decide))⟩
        . simp [Region.binds] at hpre
          have e10 : vv 10 = _ := HPA.out.facts 10 (by unfold pl16; decide) (by simp [hpre])
          rw [HV10.out] at e10
          clear hpre hc
          go_simp
          exact HKk.out _ _ ⟨_, by simp [e10], HPA.out.step (v := .agg #[.bool false, zi, .int .i64 x, zi, zs, zs, zp, zi, zi, ze, zi, zs, zs, zp]) (by decide) (Ext.rf _) (fun _ _ => HV11.out.symm) (fun h => absurd h (by decide)) (fun h => absurd h (by decide))⟩
        . simp [Region.binds] at hpre
          have e11 : vv 11 = _ := HPA.out.facts 11 (by unfold pl16; decide) (by simp [hpre])
          rw [HV11.out] at e11
          clear hpre hc
          go_simp
          exact HKk.out _ _ ⟨_, by simp [e11], HPA.out.step (v := .slice (some ⟨W.heap.size, 0, none⟩) 1 1) (by decide) (Ext.al _ _) (fun _ h => absurd rfl h) (fun h => absurd h (by decide)) (fun _ => ⟨W.heap.size, rfl, hNw _ _, HNC.out _ (Nat.le_trans HZ6.out HPA.out.only.size)⟩)⟩
        . have h15 : Ls 15 = false := by
            cases hq : Ls 15
            . rfl
            . have := hc 15 _ rfl hq ⟨13, .data⟩ (by simp) rfl
              rw [hl] at this; cases this
          have h0 := hpre ⟨5, .data⟩ (by simp) rfl
          have hs := hpre ⟨12, .data⟩ (by simp) rfl
          have e5 : vv 5 = _ := HPA.out.facts 5 (by unfold pl16; decide) h0
          rw [HV5.out] at e5
          obtain ⟨q9, eq, hq9, -⟩ := HPA.out.f6 hs
          have hrb := HPA.out.rb0 hl
          split
          . refine app_row Tryz.undBd Tryz.infoBd (by decide) (by decide) (.tmp 32) (.tmp 39) rfl w3.heap.size u9 j xb e5 hrb (some ⟨q9, 0, none⟩) 1 1 (bdZ x) eq (src14 hq9) (bdZ_one x) (by have := HLE.out; have := HLI.out; unfold maxLen; omega) (by have := HLE.out; have := HLI.out; omega) (Nat.le_trans HKZ.out (Nat.le_trans HZ6.out HPA.out.only.size)) (fun v' W' ho hg hat => ?_)
            exact HKk.out _ _ ⟨fun j => if j = 13 then v' else vv j, rfl, HPA.out.appB (by decide) hl h15 hg ho⟩
          . rename_i hw
            exact absurd (by rfl) hw
        . clear hpre hc
          go_simp
          exact HKk.out _ _ ⟨_, rfl, HPA.out.asgA⟩
        . clear hpre hc
          go_simp
          exact HKk.out _ _ ⟨_, rfl, HPA.out.asgB⟩
      . intro Ls ac W hall hI
        obtain ⟨vv, rfl, hI⟩ := hI
        have e14 : vv 14 = vv 4 := hI.a1 (hall 14 (by decide))
        have e15 : vv 15 = vv 13 := hI.b1 (hall 15 (by decide))
        have hk := hI.kr
        rw [hall 4 (by decide), hall 13 (by decide)] at hk
        simp only [if_true] at hk
        have HKD := LH hk
        clear hI hall hk
        rw [e14, e15]
        clear e14 e15
        generalize vv 4 = v4 at *
        generalize vv 13 = v13 at *
        go_wp2
        go_roundw
        case rel => exact ⟨j + 1, by omega, by go_num, by rw [HTN.out, HTB.out]; exact HKD.out⟩
        case measure => simp [intOf]; omega
    . obtain rfl : j = inputs.length := by omega
      obtain ⟨hi, hl⟩ := HM0.out
      have HNM : Hid (RStrs wr u8 (f.ps.map Prm.nm)) := by
        have h1 := HK.out.ra
        have e : (f.ps.take inputs.length).map (fun a => Value.string a.nm) = (f.ps.map Prm.nm).map Value.string := by rw [List.take_of_length_le (by omega), List.map_map]; rfl
        rw [e, hi, ← List.length_map (f := Prm.nm)] at h1
        exact own_strs h1 (fun s hs => by
          obtain ⟨x, hx, rfl⟩ := List.mem_map.1 hs
          obtain ⟨i, hi, rfl⟩ := List.getElem_of_mem hx
          obtain ⟨_, _, _, _, _, _, q⟩ := HPS.out.at_ hi
          exact q)
      have HNBD : Hid (∀ b, w3.heap.size <= b -> ¬ (turns (w.heap.size + 2) (.slice none 0 0)) b) := fun b hb h => by
        have := HZ3.out
        rcases h with h | h
        . omega
        . cases h
      have HBS : Hid (DR P w wr (turns (w.heap.size + 2) (.slice none 0 0)) (.is u9 (inputs.map fun n => It.held (.int n)))) := by
        have h1 := HK.out.rb
        rw [List.take_of_length_le (Nat.le_refl _)] at h1
        exact DR.of_row (B := w3.heap.size) (e := 71) (by rw [List.length_map]; exact h1) HNBD.out (bdZ_brow _ inputs rfl H64.out)
      obtain ⟨An, cn, e1, -, -⟩ := HNM.out.form
      rw [List.length_map] at e1
      subst e1
      obtain ⟨Ab, cb, e2, -, -⟩ := HBS.out.is_form
      rw [List.length_map] at e2
      subst e2
      have HX3 := LH HK.out.ext
      have HXW := LH (HE.out.tr HX3.out)
      have HLL : Hid ((f.ps.map Prm.nm).length = (inputs.map fun n => It.held (.int n)).length) := by show _ = _; rw [List.length_map, List.length_map]; omega
      have HCR : Hid (CR P w wr (turns (w.heap.size + 2) (.slice none 0 0)) (w.heap.size + 2) (.slice Ad P.decls.length cd) (.slice (some ⟨bf, of_, none⟩) P.funs.length cf)) := ⟨HWF.out.1, HXW.out, (fun b hb => by
        have h1 := HX3.out.size
        have h2 := HZ3.out
        rcases hb with hb | hb
        . omega
        . cases hb), Nat.le_add_right _ _, .inl rfl, HD.out, HF.out⟩
      have HMM : Hid (MA wr (w.heap.size + 2) (.slice Ad P.decls.length cd) (.slice (some ⟨bf, of_, none⟩) P.funs.length cf) fuel 0 0 (.slice none 0 0) 0 (.bool false)) := ⟨_, _, _, _, _, _, _, _, _, _, _, _, _, _, _, (HX3.out.block _ (hLt HBM.out)).trans HBM.out⟩
      obtain ⟨⟨Ax, cx, e3, -, -⟩, ⟨Ay, cy, e4, -, -⟩⟩ := HBD.out.form
      subst e3 e4
      have HCE : Hid (∀ W : World, Ext wr W -> W.cell? ⟨w.heap.size, 1, none⟩ = some (.slice (some ⟨bf, of_, none⟩) P.funs.length cf) /\ C6 W bf (of_ + 3) f.body (.slice Ax f.body.args.length cx) (.slice Ay f.body.cls.length cy)) := fun W hW => ⟨hW.keep (HX3.out.keep (cA HBX.out 1)), (F3.out.below HXW.out).below hW⟩
      have HGR : Hid (wr.heap[w.heap.size + 1]? = some (.cells #[.int .i64 0, .int .i64 0, .slice none 0 0, .int .i64 0] 30 (0, 0))) := (HX3.out.block _ (hLt HBR.out)).trans HBR.out
      have hge : ¬ ((inputs.length : Nat) : Int) < ((f.ps.length : Nat) : Int) := by omega
      have hge2 : f.ps.length <= inputs.length := by omega
      clear hi hl
      generalize wr = w4 at *
      have HFX : Hid (∀ W W' : World, Ext w4 W -> Ext W W' -> ∀ (b : Nat), w4.heap.size <= b -> W'.heap[b]? = some (.cells #[zi, zi, zi, ze, zi, zs, zs, zp, zs, zi, zp] 75 (0, 0)) -> ∀ pa, DR P w W' (turns (w.heap.size + 2) (.slice none 0 0)) (.e (.pointer pa) (withA (f.ps.map Prm.nm) (inputs.map fun n => It.held (.int n)) []) []) -> Calls Tryz.prog 27 #[.pointer (some ⟨w.heap.size + 2, 0, none⟩), tV f.body (.slice Ax f.body.args.length cx) (.slice Ay f.body.cls.length cy), .pointer pa, .pointer (some ⟨b, 0, none⟩)] W' fun x w5 => (x = .returned (.tuple #[]) /\ RQ P w w5 (turns (w.heap.size + 2) (.slice none 0 0)) (w.heap.size + 2) (.slice Ad P.decls.length cd) (.slice (some ⟨bf, of_, none⟩) P.funs.length cf) fuel 0 0 (.slice none 0 0) 0 (.ev f.body (.mk (withA (f.ps.map Prm.nm) (inputs.map fun n => It.held (.int n)) []) []) [])) /\ Only (fun b => b = w.heap.size + 2) W' w5) := fun W W' hW hW' b hb hbb pa hp =>
        evalQ P w W' (turns (w.heap.size + 2) (.slice none 0 0)) (w.heap.size + 2) (.slice Ad P.decls.length cd) (.slice (some ⟨bf, of_, none⟩) P.funs.length cf) (.slice none 0 0) fuel 0 0 0 f.body (.mk (withA (f.ps.map Prm.nm) (inputs.map fun n => It.held (.int n)) []) []) [] _ _ _ _ (HCR.out.ext' (hW.tr hW')) (HMM.out.ext' (hW.tr hW')) HBD.out hp (.fin b (HNBD.out b (Nat.le_trans HX3.out.size hb)) hbb)
      have HSX : Hid (∀ W : World, Ext w4 W -> W.cell? ⟨w.heap.size, 1, none⟩ = some (.slice (some ⟨bf, of_, none⟩) P.funs.length cf) /\ W.cell? ⟨bf, of_ + 3, none⟩ = some (.int .i64 f.body.op) /\ W.cell? ⟨bf, of_ + 3 + 1, none⟩ = some (.int .i64 f.body.n) /\ W.cell? ⟨bf, of_ + 3 + 2, none⟩ = some (.string f.body.nm) /\ W.cell? ⟨bf, of_ + 3 + 3, none⟩ = some (.int .i64 f.body.ty) /\ W.cell? ⟨bf, of_ + 3 + 4, none⟩ = some (.slice Ax f.body.args.length cx) /\ W.cell? ⟨bf, of_ + 3 + 5, none⟩ = some (.slice Ay f.body.cls.length cy)) := fun W hW => ⟨(HCE.out W hW).1, (HCE.out W hW).2.at0⟩
      have HN1 : Hid (w.heap.size ≠ w.heap.size + 2) := by show _ ≠ _; omega
      have HN2 : Hid (bf ≠ w.heap.size + 2) := by
        show _ ≠ _
        have := cL F3.out.c0
        have : bf < w.heap.size := this
        omega
      have HSO : Hid (∀ W W' : World, Ext w4 W -> Only (fun b => b = w.heap.size + 2) W W' -> W'.cell? ⟨w.heap.size, 1, none⟩ = some (.slice (some ⟨bf, of_, none⟩) P.funs.length cf) /\ W'.cell? ⟨bf, of_ + 3, none⟩ = some (.int .i64 f.body.op) /\ W'.cell? ⟨bf, of_ + 3 + 1, none⟩ = some (.int .i64 f.body.n) /\ W'.cell? ⟨bf, of_ + 3 + 2, none⟩ = some (.string f.body.nm) /\ W'.cell? ⟨bf, of_ + 3 + 3, none⟩ = some (.int .i64 f.body.ty) /\ W'.cell? ⟨bf, of_ + 3 + 4, none⟩ = some (.slice Ax f.body.args.length cx) /\ W'.cell? ⟨bf, of_ + 3 + 5, none⟩ = some (.slice Ay f.body.cls.length cy)) := fun W W' hW ho => by
        obtain ⟨q0, q1, q2, q3, q4, q5, q6⟩ := HSX.out W hW
        exact ⟨oC ho HN1.out q0, oC ho HN2.out q1, oC ho HN2.out q2, oC ho HN2.out q3, oC ho HN2.out q4, oC ho HN2.out q5, oC ho HN2.out q6⟩
      obtain ⟨q0, q1, q2, q3, q4, q5, q6⟩ := HSX.out w4 (Ext.rf _)
      have HFL : Hid (∀ W : World, (W.alloc (.cells #[zi, zi, zi, ze, zi, zs, zs, zp, zs, zi, zp] 75)).heap[W.heap.size]? = some (.cells #[zi, zi, zi, ze, zi, zs, zs, zp, zs, zi, zp] 75 (0, 0))) := fun W => hNw W _
      go_wp2
      go_region_held3 (fun w' => w'.cell? ⟨w.heap.size, 1, none⟩ = some (.slice (some ⟨bf, of_, none⟩) P.funs.length cf) /\ w'.cell? ⟨bf, of_ + 3, none⟩ = some (.int .i64 f.body.op) /\ w'.cell? ⟨bf, of_ + 3 + 1, none⟩ = some (.int .i64 f.body.n) /\ w'.cell? ⟨bf, of_ + 3 + 2, none⟩ = some (.string f.body.nm) /\ w'.cell? ⟨bf, of_ + 3 + 3, none⟩ = some (.int .i64 f.body.ty) /\ w'.cell? ⟨bf, of_ + 3 + 4, none⟩ = some (.slice Ax f.body.args.length cx) /\ w'.cell? ⟨bf, of_ + 3 + 5, none⟩ = some (.slice Ay f.body.cls.length cy))
        (first | exact HSC.out | exact HSB.out | exact HSA.out | go_keep)
        ((first
          | (go_at_call 28; (with_reducible refine (extend_any P w w4.drew (turns (w.heap.size + 2) (.slice none 0 0)) (f.ps.map Prm.nm) (inputs.map fun n => It.held (.int n)) [] [] _ _ _ .enil (HNM.out.below (Ext.rf w4).drew) (HBS.out.ext (Ext.rf w4).drew) HLL.out (HCR.out.nb.ext (Ext.rf w4).drew)).mono ?_); rintro x w5 ⟨⟨a, rfl, hr⟩, hb⟩; obtain ⟨pa, rfl⟩ := hr.e_form; have HX5 : Hid (Ext w4 w5) := Ext.tr (b := w4.drew) (Ext.rf w4).drew hb; have HR5 := LH hr; have HSA := LH (HSX.out _ HX5.out); have HSB := LH (HSX.out _ (HX5.out.tr (Ext.al w5 (.cells #[zi, zi, zi, ze, zi, zs, zs, zp, zs, zi, zp] 75)))); have HBB : Hid (∃ q, q = w5.heap.size) := ⟨_, rfl⟩; clear hr hb)
          | (go_at_call 28; (with_reducible refine (extend_any P w (w4.alloc (.cells #[zi, zi, zi, ze, zi, zs, zs, zp, zs, zi, zp] 75)).drew (turns (w.heap.size + 2) (.slice none 0 0)) (f.ps.map Prm.nm) (inputs.map fun n => It.held (.int n)) [] [] _ _ _ .enil (HNM.out.below (Ext.al w4 _).drew) (HBS.out.ext (Ext.al w4 _).drew) HLL.out (HCR.out.nb.ext (Ext.al w4 _).drew)).mono ?_); rintro x w5 ⟨⟨a, rfl, hr⟩, hb⟩; obtain ⟨pa, rfl⟩ := hr.e_form; have HX5 : Hid (Ext w4 w5) := Ext.tr (b := (w4.alloc (.cells #[zi, zi, zi, ze, zi, zs, zs, zp, zs, zi, zp] 75)).drew) (Ext.al w4 _).drew hb; have HR5 := LH hr; have HSA := LH (HSX.out _ HX5.out); have HSB := LH (HSX.out _ (HX5.out.tr (Ext.al w5 (.cells #[zi, zi, zi, ze, zi, zs, zs, zp, zs, zi, zp] 75)))); have HBB := LH ((hb.block _ (hLt (HFL.out w4))).trans (HFL.out w4)); clear hr hb)
          | (go_at_call 28; (with_reducible refine (extend_any P w (w4.drew.alloc (.cells #[zi, zi, zi, ze, zi, zs, zs, zp, zs, zi, zp] 75)) (turns (w.heap.size + 2) (.slice none 0 0)) (f.ps.map Prm.nm) (inputs.map fun n => It.held (.int n)) [] [] _ _ _ .enil (HNM.out.below ((Ext.rf w4).drew.tr (Ext.al _ _))) (HBS.out.ext ((Ext.rf w4).drew.tr (Ext.al _ _))) HLL.out (HCR.out.nb.ext ((Ext.rf w4).drew.tr (Ext.al _ _)))).mono ?_); rintro x w5 ⟨⟨a, rfl, hr⟩, hb⟩; obtain ⟨pa, rfl⟩ := hr.e_form; have HX5 : Hid (Ext w4 w5) := Ext.tr (b := (w4.drew.alloc (.cells #[zi, zi, zi, ze, zi, zs, zs, zp, zs, zi, zp] 75))) ((Ext.rf w4).drew.tr (Ext.al _ _)) hb; have HR5 := LH hr; have HSA := LH (HSX.out _ HX5.out); have HSB := LH (HSX.out _ (HX5.out.tr (Ext.al w5 (.cells #[zi, zi, zi, ze, zi, zs, zs, zp, zs, zi, zp] 75)))); have HBB := LH ((hb.block _ (hLt (HFL.out w4.drew))).trans (HFL.out w4.drew)); clear hr hb)
          | (go_at_call 27; (with_reducible refine (HFX.out w5 _ HX5.out (Ext.al w5 _) w5.heap.size HX5.out.size (hNw w5 _) _ (HR5.out.ext (Ext.al w5 _))).mono ?_); rintro x w6 ⟨⟨rfl, hrq⟩, ho⟩; have HRQ := LH hrq; have HSC := LH (HSO.out _ _ (HX5.out.tr (Ext.al w5 _)) ho); have HON := LH ((only_x (b := w.heap.size + 2) (HX5.out.tr (Ext.al w5 _))).tr ho); clear hrq ho)
          | (go_at_call 27; (with_reducible refine (HFX.out w5 _ HX5.out (Ext.rf w5) w4.heap.size (Nat.le_refl _) HBB.out _ HR5.out).mono ?_); rintro x w6 ⟨⟨rfl, hrq⟩, ho⟩; have HRQ := LH hrq; have HSC := LH (HSO.out _ _ HX5.out ho); have HON := LH ((only_x (b := w.heap.size + 2) HX5.out).tr ho); clear hrq ho)))
      all_goals
        have HRLI : Hid (∃ n, RLI P w (w.heap.size + 2) (w.heap.size + 1) (.slice Ad P.decls.length cd) (.slice (some ⟨bf, of_, none⟩) P.funs.length cf) fuel r n w6) := by
          obtain ⟨n, hn⟩ := HR.out
          have h1 := HON.out
          have hz := HX3.out.size
          have hz3 := HZ3.out
          have hnt : ¬ (turns (w.heap.size + 2) (.slice none 0 0)) (w.heap.size + 1) := fun h => by
            rcases h with h | h
            . omega
            . cases h
          refine ⟨n, .inl ⟨startS P inputs, .slice none 0 0, ⟨hn, HCR.out.only h1, ?_, World.ownsRow_nil _ _ _ _, startS_ok HWF.out (by rw [HFA.out]; exact HM0.out.1), Nat.zero_le _, Nat.zero_le _⟩, hnt⟩⟩
          show RQ P w w6 (turns (w.heap.size + 2) (.slice none 0 0)) (w.heap.size + 2) (.slice Ad P.decls.length cd) (.slice (some ⟨bf, of_, none⟩) P.funs.length cf) fuel 0 0 (.slice none 0 0) 0 (bodyS (fnAt P 0) _ [])
          rw [HFA.out]
          exact HRQ.out
        have HG6 : Hid (w6.heap[w.heap.size + 1]? = some (.cells #[.int .i64 0, .int .i64 0, .slice none 0 0, .int .i64 0] 30 (0, 0))) := (HON.out.block _ (hLt HGR.out) (by omega)).trans HGR.out
        obtain ⟨n0, hn0⟩ := HRLI.out
        have HLJ := LH hn0
        clear hn0
        clear q0 q1 q2 q3 q4 q5 q6 hge hge2
        clear HRQ HSC HON
        go_wp2
        go_loopg [58] n0 (fun k p wr => RLI P w (w.heap.size + 2) (w.heap.size + 1) (.slice Ad P.decls.length cd) (.slice (some ⟨bf, of_, none⟩) P.funs.length cf) fuel r k wr /\ wr.heap[w.heap.size + 1]? = some (.cells #[.int .i64 0, .int .i64 0, .slice none 0 0, .int .i64 0] 30 (0, 0)))
        case atStart => exact ⟨HLJ.out, HG6.out⟩
        case round =>
          obtain ⟨hli, hg5⟩ := hrel
          have HG5 := LH hg5
          clear hg5
          rcases hli.over with ⟨s, ov, hm, hnt, hov⟩ | ⟨ov, he, hnt, hov⟩
          . have HM := LH hm
            have HNT := LH hnt
            clear hm hnt hli hov
            cases hst : s.task with
            | ev t e k =>
              have HST := LH hst
              have hrq := HM.out.rq
              rw [hst] at hrq
              obtain ⟨va, vc, ev, v0, v1, v2, v3, v4, v5, kv, hz, -⟩ := hrq
              have m2 := cA hz 2
              have m6 := cA hz 6
              have z6 := fA hz 6
              have m7 := cA hz 7
              have m22 := cA hz 22
              have HGD : Hid (wr.drew.heap[w.heap.size + 1]? = some (.cells #[.int .i64 0, .int .i64 0, .slice none 0 0, .int .i64 0] 30 (0, 0))) := (((Ext.rf wr).drew).block _ (hLt HG5.out)).trans HG5.out
              clear hz hst
              by_cases heq : s.steps = fuel
              . have HEQ := LH heq
                clear heq
                rw [HEQ.out] at m6
                go_upto_region 13 with fail
                go_region
                go_wp2_with fail
                (with_reducible refine (RM.spent (HM.out.drew) HNT.out (hLt HGD.out) HST.out HEQ.out).mono ?_)
                rintro x wq ⟨rfl, ⟨ov', he, hnt⟩, hgq⟩
                have HRE := LH he
                have HNT := LH hnt
                have HGE : Hid (wq.heap[w.heap.size + 1]? = _) := hgq.trans HGD.out
                clear he hnt hgq m2 m6 m7 m22 z6
                obtain ⟨Ao, co, rfl⟩ := oSL HRE.out.own
                obtain ⟨-, -, -, m3, m4, m5, m6, m22⟩ := HRE.out.ma.cells
                have g0 := cA HGE.out 0
                have g1 := cA HGE.out 1
                have g2 := cA HGE.out 2
                have g3 := cA HGE.out 3
                have k0 := fA HGE.out 0
                have k1 := fA HGE.out 1
                have k2 := fA HGE.out 2
                have k3 := fA HGE.out 3
                have HO4 := LH (only4_set wq (w.heap.size + 1) (.int .i64 r.stop) (.int .i64 r.val) (.slice Ao r.outs.length co) (.int .i64 r.steps))
                have HZZ := LH (box4_all HGE.out (.int .i64 r.stop) (.int .i64 r.val) (.slice Ao r.outs.length co) (.int .i64 r.steps))
                go_wp2
                clear g0 g1 g2 g3 k0 k1 k2 k3 m3 m4 m5 m6 m22
                generalize World.setCell (World.setCell (World.setCell (World.setCell wq _ _) _ _) _ _) _ _ = wz at *
                have q0 := cA HZZ.out 0
                have q1 := cA HZZ.out 1
                have q2 := cA HZZ.out 2
                have q3 := cA HZZ.out 3
                exact bodyPost_ret (v := .agg #[.int .i64 r.stop, .int .i64 r.val, .slice Ao r.outs.length co, .int .i64 r.steps]) (by simp [results, Tryz.results13, go_sem, q0, q1, q2, q3]) rfl ⟨⟨_, rfl, row5_at HRE.out.own (fun b cur hb hcur => HO4.out.block b (hLt hcur) (fun e => HNT.out (.inr (e ▸ hb))))⟩, HRE.out.cr.ext.trans (HO4.out.below HRE.out.cr.ext.size (fun b hb => hb ▸ Nat.le_succ _))⟩
              . have hne : ((s.steps : Nat) : Int) ≠ ((fuel : Nat) : Int) := by omega
                have hne2 : (((s.steps : Nat) : Int) == ((fuel : Nat) : Int)) = false := by simpa using hne
                have HNE := LH heq
                have hw1 : IntKind.i64.wrap ((s.steps : Int) + 1) = (s.steps : Int) + 1 := IntWalk.i64_in _ (by have := HM.out.steps; omega)
                clear heq
                go_upto_region 13 with fail
                go_region
                go_wp2_with fail
                (with_reducible refine (RM.stepD HWF.out HM.out HNT.out HST.out HNE.out (hLt HGD.out)).mono ?_)
                rintro x wq ⟨rfl, m, hlt, hrl, hgq⟩
                have HRL := LH hrl
                have HG7 := LH (hgq.trans HGD.out)
                clear hrl hgq m2 m6 m7 m22 z6 hne hne2 hw1
                go_wp2
                go_roundg m
                case measure => exact hlt
                case rel => exact ⟨HRL.out, HG7.out⟩
            | pass v k =>
              have HST := LH hst
              have hrq := HM.out.rq
              rw [hst] at hrq
              obtain ⟨t0, t1, t2, t3, t4, t5, ev, v0, v1, v2, v3, v4, v5, kv, hz, -⟩ := hrq
              have m7 := cA hz 7
              have m22 := cA hz 22
              clear hz hst
              go_wp2_with fail
              (with_reducible refine (RM.pass HWF.out hfu HM.out HNT.out (hLt HG5.out) HST.out).mono ?_)
              rintro x wq ⟨rfl, m, hlt, hrl, hgq⟩
              have HRL := LH hrl
              have HG7 := LH (hgq.trans HG5.out)
              clear hrl hgq m7 m22
              go_wp2
              go_roundg m
              case measure => exact hlt
              case rel => exact ⟨HRL.out, HG7.out⟩
          . have HRE := LH he
            have HNT := LH hnt
            have HGE := HG5
            clear he hnt hli hov
            obtain ⟨Ao, co, rfl⟩ := oSL HRE.out.own
            obtain ⟨-, -, -, m3, m4, m5, m6, m22⟩ := HRE.out.ma.cells
            have g0 := cA HGE.out 0
            have g1 := cA HGE.out 1
            have g2 := cA HGE.out 2
            have g3 := cA HGE.out 3
            have k0 := fA HGE.out 0
            have k1 := fA HGE.out 1
            have k2 := fA HGE.out 2
            have k3 := fA HGE.out 3
            have HO4 := LH (only4_set wr (w.heap.size + 1) (.int .i64 r.stop) (.int .i64 r.val) (.slice Ao r.outs.length co) (.int .i64 r.steps))
            have HZZ := LH (box4_all HGE.out (.int .i64 r.stop) (.int .i64 r.val) (.slice Ao r.outs.length co) (.int .i64 r.steps))
            go_wp2
            clear g0 g1 g2 g3 k0 k1 k2 k3 m3 m4 m5 m6 m22
            generalize World.setCell (World.setCell (World.setCell (World.setCell wr _ _) _ _) _ _) _ _ = wz at *
            have q0 := cA HZZ.out 0
            have q1 := cA HZZ.out 1
            have q2 := cA HZZ.out 2
            have q3 := cA HZZ.out 3
            exact bodyPost_ret (v := .agg #[.int .i64 r.stop, .int .i64 r.val, .slice Ao r.outs.length co, .int .i64 r.steps]) (by simp [results, Tryz.results13, go_sem, q0, q1, q2, q3]) rfl ⟨⟨_, rfl, row5_at HRE.out.own (fun b cur hb hcur => HO4.out.block b (hLt hcur) (fun e => HNT.out (.inr (e ▸ hb))))⟩, HRE.out.cr.ext.trans (HO4.out.below HRE.out.cr.ext.size (fun b hb => hb ▸ Nat.le_succ _))⟩
end Go.Proofs.YtkdglplfcpindaaGreatDoor
