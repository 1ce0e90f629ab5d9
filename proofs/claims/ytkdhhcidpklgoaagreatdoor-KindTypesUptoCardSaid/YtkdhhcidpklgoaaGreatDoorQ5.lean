/- node: Binds. -/
import Derived.Test.YtkdhhcidpklgoaaGreatDoorQ4
import Derived.RegionTactic
namespace Go.Proofs.YtkdhhcidpklgoaaGreatDoor
open Go.RowKit

theorem Tryz.kV : WideMaps.KeyLaw Tryz.prog 80 := deep_law_gate (by kernel_rfl) (Nat.le_of_ble_eq_true (by kernel_rfl)) (Nat.le_of_ble_eq_true (by kernel_rfl)) (by kernel_rfl) (by kernel_rfl)
theorem Tryz.keyLitsV (a b : Int) (ha : (Lit.int .i64 a).wf = true) (hb : (Lit.int .i64 b).wf = true) : Tryz.prog.keyLits (Tryz.prog.types.size + 1) 80 [.int .i64 a, .int .i64 b] = some [.int .i64 a, .int .i64 b] := by
  obtain ⟨m, hm⟩ : ∃ m, Tryz.prog.types.size = m + 1 := ⟨Tryz.prog.types.size - 1, by have : 1 ≤ Tryz.prog.types.size := Nat.le_of_ble_eq_true (by kernel_rfl); omega⟩
  rw [hm]
  have c1 : Tryz.prog.cellsOf 80 = 2 := by kernel_rfl
  have c2 : Tryz.prog.cellsOf 78 = 1 := by kernel_rfl
  have c3 : Tryz.prog.cellsOf 3 = 1 := by kernel_rfl
  unfold Program.keyLits
  rw [Tryz.underlying80]
  simp [c1, c2, c3, Program.keyLits, Tryz.underlying78, Tryz.underlying3, ha, hb]
/-- Variables ags keys. -/
def vrT : KeyT Tryz.prog 80 Vr where
  law := Maps.Keyed.of_law Tryz.kV
  val := fun x => vrV x
  ok := fun x => ok64 x.1 ∧ ok64 x.2
  lit := fun x => .string (keyBytes [.int .i64 x.1, .int .i64 x.2])
  is := fun x h => keyOf_two (Tryz.underlying80) (by kernel_rfl) (fun a b => by kernel_rfl) (fun a b ha hb => Tryz.keyLitsV a b ha hb) h.1 h.2
  inj := fun x y h => by
    obtain ⟨a, b⟩ := x; obtain ⟨c, d⟩ := y
    simp only [vrV, Value.agg.injEq, Array.mk.injEq, List.cons.injEq, Value.int.injEq, true_and, and_true] at h
    rw [h.1, h.2]
theorem MapZ.ext {κ : Type} {P : Program} {k : TypeId} {T : KeyT P k κ} {z : Value} {w w' : World} {b n : Nat} {g : κ → Value} (h : MapZ T z w b n g) (hb : Ext w w') : MapZ T z w' b n g := h.block (hb.block b h.lt)
theorem binds_len {vs : List Int} {cs : List Bool} {ags : List Arg} (h : ¬ (vs.length = ags.length ∧ cs.length = ags.length)) : bindsB vs cs ags = false := by
  unfold bindsB
  by_cases h1 : vs.length = ags.length
  · rw [decide_eq_false (show ¬ cs.length = ags.length from fun e => h ⟨h1, e⟩)]; simp
  · rw [decide_eq_false h1]; simp
theorem binds_go {vs : List Int} {cs : List Bool} {ags : List Arg} (h1 : vs.length = ags.length) (h2 : cs.length = ags.length) : bindsB vs cs ags = bindF (fun _ => false) (zipCo vs cs) cs ags := by
  unfold bindsB; rw [decide_eq_true h1, decide_eq_true h2]; rfl
theorem bindF_cons (S : Vr → Bool) (x : Vr) (r : List Vr) (c : Bool) (cs : List Bool) (a : Arg) (ags : List Arg) : bindF S (x :: r) (c :: cs) (a :: ags) = ((c == a.co) && isNumB x.2 && !S x && bindF (fun y => y == x || S y) r cs ags) := rfl
theorem bindF_nil (S : Vr → Bool) (l : List Bool) (ags : List Arg) : bindF S [] l ags = true := by cases l <;> cases ags <;> rfl
theorem bindF_drop {S : Vr → Bool} {L : List Vr} {cs : List Bool} {ags : List Arg} {k : Nat} {x : Vr} (h0 : L[k]? = some x) (h1 : k < cs.length) (h2 : k < ags.length) :
    bindF S (L.drop k) (cs.drop k) (ags.drop k) = ((cs[k] == ags[k].co) && isNumB x.2 && !S x && bindF (fun y => y == x || S y) (L.drop (k + 1)) (cs.drop (k + 1)) (ags.drop (k + 1))) := by
  obtain ⟨hlt, rfl⟩ := List.getElem?_eq_some_iff.1 h0
  rw [drop_step hlt, drop_step h1, drop_step h2, bindF_cons]
def boolG (S : Vr → Bool) : Vr → Value := fun x => .bool (S x)
theorem boolG_put (S : Vr → Bool) (x : Vr) : putZ (boolG S) x (.bool true) = boolG (fun y => y == x || S y) := by
  funext y
  unfold putZ boolG
  by_cases h : y = x
  · rw [if_pos h]; simp [h]
  · rw [if_neg h]
    show Value.bool (S y) = Value.bool (y == x || S y)
    have : (y == x) = false := by simpa using h
    rw [this]; rfl
set_option maxHeartbeats 8000000 in
set_option maxRecDepth 100000 in
theorem binds_any (vv vc v2 va vb : Value) (vs : List Int) (cs : List Bool) (ags : List Arg) (t : Nd) (w : World) (hv : RInts w vv vs) (hc : RBools w vc cs) (ha : RArgs w v2 ags) (hl : vs.length ≤ 1048576) :
    Calls Tryz.prog 111 #[brV vv vc t va vb, v2] w fun e w' => e = .returned (.bool (bindsB vs cs ags)) ∧ Ext w w' := by
  have HV := Lib.hid hv; have HC := Lib.hid hc; have HA := Lib.hid ha
  obtain ⟨A, c, rfl, -, -⟩ := hv.form
  obtain ⟨A2, c2, rfl, hc2, hm2⟩ := hc.form
  obtain ⟨A3, c3, rfl, hc3, hm3⟩ := ha.form
  unfold maxLen at hm2 hm3
  clear hv hc ha
  by_cases hlen : vs.length = ags.length ∧ cs.length = ags.length
  · obtain ⟨h1, h2⟩ := hlen
    have HR := Lib.hid (binds_go h1 h2)
    have HL1 := Lib.hid h1; have HL2 := Lib.hid h2
    have HBI : Hid (∀ w', Ext w w' → Calls Tryz.prog 81 #[.agg #[.slice A ags.length c, .slice A2 ags.length c2, .int .i64 t.op, .int .i64 t.n, .int .i64 t.ty, va, vb]] w' fun e w'' => (∃ u, e = .returned u ∧ RVrs w'' u (zipCo vs cs)) ∧ Ext w' w'') := fun w' hx => by
      have := boundIn_any _ _ vs cs t va vb w' (HV.out.below hx) (HC.out.below hx) hl
      rw [h1, h2] at this; exact this
    rw [h1, h2]
    rw [h2] at hc2
    rw [h1] at hl
    have HE1 := Lib.hid (Ext.al2 w (.cells #[.slice A ags.length c, .slice A2 ags.length c2, .int .i64 t.op, .int .i64 t.n, .int .i64 t.ty, va, vb] 97) (.map #[] 0))
    have HM1 := Lib.hid (MapZ.new vrT (.bool false) (w.alloc (.cells #[.slice A ags.length c, .slice A2 ags.length c2, .int .i64 t.op, .int .i64 t.n, .int .i64 t.ty, va, vb] 97)))
    have HX1 := Lib.hid (Ext.lt (Ext.al (w.alloc (.cells #[.slice A ags.length c, .slice A2 ags.length c2, .int .i64 t.op, .int .i64 t.n, .int .i64 t.ty, va, vb] 97)) (.map #[] 0)) (heapNew w (.cells #[.slice A ags.length c, .slice A2 ags.length c2, .int .i64 t.op, .int .i64 t.n, .int .i64 t.ty, va, vb] 97)))
    clear h1 h2
    have hmm := @run_makeMap Tryz.prog
    go_enter Tryz.func111, Tryz.ntmps111
    go_wp2_with (go_at_call 81; (with_reducible refine (HBI.out _ HE1.out).mono ?_); rintro e w2 ⟨⟨u, rfl, hu⟩, hx⟩; obtain ⟨Au, cu, rfl, hcu, hmu⟩ := hu.form; have HU := Lib.hid hu; have HE2 := Lib.hid hx; clear hx hmm)
    have HZL : Hid ((zipCo vs cs).length = ags.length) := by show _ = _; rw [zipCo_length]; exact HL1.out
    rw [HZL.out]
    have HB2 := Lib.hid (HE2.out.lt HX1.out)
    have HM2 := Lib.hid (HM1.out.ext HE2.out)
    have hz : (w.alloc (.cells #[.slice A ags.length c, .slice A2 ags.length c2, .int .i64 t.op, .int .i64 t.n, .int .i64 t.ty, va, vb] 97)).heap.size = w.heap.size + 1 := by simp
    rw [hz] at HM2
    have HEW : Hid (Ext w w2) := HE1.out.tr HE2.out
    clear HM1 HX1 HE1 HE2 hz hmu hcu
    go_loopw [26] (fun i wr => ∃ (k : Nat) (S : Vr → Bool) (m : Nat), k ≤ ags.length ∧ i = .int .i64 k ∧ m ≤ k ∧ MapZ vrT (.bool false) wr (w.heap.size + 1) m (boolG S) ∧ bindF (fun _ => false) (zipCo vs cs) cs ags = bindF S ((zipCo vs cs).drop k) (cs.drop k) (ags.drop k) ∧ Only (fun j => j = w.heap.size + 1) w2 wr) (fun i _ => ags.length - (intOf i).toNat)
    case atStart => exact ⟨0, _, 0, Nat.zero_le _, rfl, Nat.le_refl _, HM2.out, by simp, Only.rf _ _⟩
    case round =>
      obtain ⟨k, S, m, hk, rfl, hmk, hm, hb, ho⟩ := hrel
      have HMK := Lib.hid hm; have HBF := Lib.hid hb; have HO := Lib.hid ho
      have hC : ∀ j, j = w.heap.size + 1 → ∃ es clock, w2.heap[j]? = some (.map es clock) := fun j h => by rw [h]; exact HM2.out.is
      have HKP : Hid (∀ p v, w2.cell? p = some v → wr.cell? p = some v) := fun p v h => cell_only ho hC h
      have HX : Hid (Ext w wr) := HEW.out.trans (ho.below (B := w.heap.size) HEW.out.size (fun j h => by omega))
      have hbr := ho.lt HB2.out (by omega)
      have b0 := cellAt hbr 0
      have b1 := cellAt hbr 1
      clear hm hb ho hC hbr
      by_cases hlt : k < ags.length
      · obtain ⟨bz, oz, rfl, hbz, z0, z1, ok0, ok1⟩ := HU.out.at_ (k := k) (by rw [HZL.out]; exact hlt)
        have z0 := HKP.out _ _ z0
        have z1 := HKP.out _ _ z1
        obtain ⟨ba, oa, rfl, hba, a0, a1⟩ := HA.out.at_ hlt
        obtain ⟨bc, oc, rfl, hbc, c0⟩ := HC.out.at_ (k := k) (by rw [HL2.out]; exact hlt)
        have a1 := HX.out.keep a1
        have c0 := HX.out.keep c0
        have HST := Lib.hid (bindF_drop (S := S) (L := zipCo vs cs) (cs := cs) (ags := ags) (k := k) (x := (zipCo vs cs)[k]'(by rw [HZL.out]; exact hlt)) (List.getElem?_eq_getElem _) (by rw [HL2.out]; exact hlt) hlt)
        have HOK : Hid (vrT.ok ((zipCo vs cs)[k]'(by rw [HZL.out]; exact hlt))) := ⟨ok0, ok1⟩
        generalize (zipCo vs cs)[k]'(by rw [HZL.out]; exact hlt) = x at *
        generalize cs[k]'(by rw [HL2.out]; exact hlt) = cc at *
        generalize ags[k] = ag at *
        clear a0 ok0 ok1
        have hki : (k : Int) < ags.length := by omega
        have HXA := Lib.hid (Ext.al wr (.cells #[.int .i64 x.1, .int .i64 x.2] 80))
        have HNB := Lib.hid (heapNew wr (.cells #[.int .i64 x.1, .int .i64 x.2] 80))
        have HMA := Lib.hid (HMK.out.ext HXA.out)
        have hmx : Tryz.prog.follows .mixedOrders = true := by kernel_rfl
        have b0 := HXA.out.keep b0
        have b1 := HXA.out.keep b1
        have c0 := HXA.out.keep c0
        have a1 := HXA.out.keep a1
        have n0 := cellAt HNB.out 0
        have n1 := cellAt HNB.out 1
        cases hcq : (cc == ag.co)
        · have HFF : Hid (bindsB vs cs ags = false) := by show _ = _; rw [HR.out, HBF.out, HST.out, hcq]; rfl
          have hne : (cc != ag.co) = true := by unfold bne; rw [hcq]; rfl
          have HNQ : Hid (isNumB x.2 = isNumB x.2) := rfl
          go_wp2
          generalize wr.alloc _ = w5 at *
          have k0 := ExtOf.cell b1
          have k1 := ExtOf.cell c0
          have k2 := ExtOf.cell a1
          have k3 := ExtOf.cell n0
          have k4 := ExtOf.cell n1
          have hlk : ∀ p : ExtOf w5, (Instr.lookup 103 (.map (some (w.heap.size + 1))) (.agg #[.int .i64 x.1, .int .i64 x.2]) false).run Tryz.prog p.val = .ok (.bool (S x)) p.val := fun p => run_lookupZ (T := vrT) (t := 103) (e := 4) Tryz.underlying103 (HMA.out.ext p.ext) (by kernel_rfl) x HOK.out
          clear b0 b1 c0 a1 n0 n1 z0 z1
          refine wp_region_ext (w0 := w5) hmx (by kernel_rfl) (Ext.rf _) ?_
          repeat (first | go_big_quiet_step ((go_at_call 133; with_reducible exact Calls.ext_same (isNumber_any x.2 _ HNQ.out _))) | quiet_step ((go_at_call 133; with_reducible exact Calls.ext_same (isNumber_any x.2 _ HNQ.out _))))
          refine wpQuiet_nil ?_
          rintro w9 ⟨⟨_, hx⟩, rfl⟩
          have HX9 := Lib.hid hx
          clear hx k0 k1 k2 k3 k4 hlk
          go_wp2
          go_ret
          exact ⟨ret_bool HFF.out.symm, HX.out.tr (HXA.out.tr HX9.out)⟩
        · have hne : (cc != ag.co) = false := by unfold bne; rw [hcq]; rfl
          cases hnq : isNumB x.2
          · have HNQ := Lib.hid hnq
            have HFF : Hid (bindsB vs cs ags = false) := by show _ = _; rw [HR.out, HBF.out, HST.out, hcq, hnq]; rfl
            clear hnq
            go_wp2
            generalize wr.alloc _ = w5 at *
            have k0 := ExtOf.cell b1
            have k1 := ExtOf.cell c0
            have k2 := ExtOf.cell a1
            have k3 := ExtOf.cell n0
            have k4 := ExtOf.cell n1
            have hlk : ∀ p : ExtOf w5, (Instr.lookup 103 (.map (some (w.heap.size + 1))) (.agg #[.int .i64 x.1, .int .i64 x.2]) false).run Tryz.prog p.val = .ok (.bool (S x)) p.val := fun p => run_lookupZ (T := vrT) (t := 103) (e := 4) Tryz.underlying103 (HMA.out.ext p.ext) (by kernel_rfl) x HOK.out
            clear b0 b1 c0 a1 n0 n1 z0 z1
            refine wp_region_ext (w0 := w5) hmx (by kernel_rfl) (Ext.rf _) ?_
            repeat (first | go_big_quiet_step ((go_at_call 133; with_reducible exact Calls.ext_same (isNumber_any x.2 _ HNQ.out _))) | quiet_step ((go_at_call 133; with_reducible exact Calls.ext_same (isNumber_any x.2 _ HNQ.out _))))
            refine wpQuiet_nil ?_
            rintro w9 ⟨⟨_, hx⟩, rfl⟩
            have HX9 := Lib.hid hx
            clear hx k0 k1 k2 k3 k4 hlk
            go_wp2
            go_ret
            exact ⟨ret_bool HFF.out.symm, HX.out.tr (HXA.out.tr HX9.out)⟩
          · have HNQ := Lib.hid hnq
            clear hnq
            cases hsx : S x
            · have HSTEP : Hid (bindF (fun _ => false) (zipCo vs cs) cs ags = bindF (fun y => y == x || S y) ((zipCo vs cs).drop (k + 1)) (cs.drop (k + 1)) (ags.drop (k + 1))) := by show _ = _; rw [HBF.out, HST.out, hcq, HNQ.out, hsx]; rfl
              go_wp2
              generalize wr.alloc _ = w5 at *
              have k0 := ExtOf.cell b1
              have k1 := ExtOf.cell c0
              have k2 := ExtOf.cell a1
              have k3 := ExtOf.cell n0
              have k4 := ExtOf.cell n1
              have hlk : ∀ p : ExtOf w5, (Instr.lookup 103 (.map (some (w.heap.size + 1))) (.agg #[.int .i64 x.1, .int .i64 x.2]) false).run Tryz.prog p.val = .ok (.bool (S x)) p.val := fun p => run_lookupZ (T := vrT) (t := 103) (e := 4) Tryz.underlying103 (HMA.out.ext p.ext) (by kernel_rfl) x HOK.out
              rw [hsx] at hlk
              clear b0 b1 c0 a1 n0 n1 z0 z1
              refine wp_region_ext (w0 := w5) hmx (by kernel_rfl) (Ext.rf _) ?_
              repeat (first | go_big_quiet_step ((go_at_call 133; with_reducible exact Calls.ext_same (isNumber_any x.2 _ HNQ.out _))) | quiet_step ((go_at_call 133; with_reducible exact Calls.ext_same (isNumber_any x.2 _ HNQ.out _))))
              refine wpQuiet_nil ?_
              rintro w9 ⟨⟨_, hx⟩, rfl⟩
              have HX9 := Lib.hid hx
              clear hx k0 k1 k2 k3 k4 hlk
              have HM9 := Lib.hid (HMA.out.ext HX9.out)
              obtain ⟨w10, hu', hm10, hg10, -⟩ := run_updateZ (T := vrT) (t := 103) (e := 4) Tryz.underlying103 HM9.out (by unfold maxLen; omega) x HOK.out (.bool true)
              have hu : (Instr.mapUpdate 103 (.map (some (w.heap.size + 1))) (.agg #[.int .i64 x.1, .int .i64 x.2]) (.bool true)).run Tryz.prog w9 = .ok () w10 := hu'
              rw [boolG_put] at hm10
              clear hu'
              have HM10 := Lib.hid hm10
              have HO10 : Hid (Only (fun j => j = w.heap.size + 1) wr w10) := ((Only.of_ext HXA.out).tr (Only.of_ext HX9.out)).tr (Only.grown hg10)
              have n0 := HX9.out.keep (cellAt HNB.out 0)
              have n1 := HX9.out.keep (cellAt HNB.out 1)
              clear hm10 hg10
              go_wp2
              exact ⟨⟨k + 1, _, m + 1, by omega, by go_num, by omega, HM10.out, HSTEP.out, HO.out.tr HO10.out⟩, by simp [intOf]; omega⟩
            · have HFF : Hid (bindsB vs cs ags = false) := by show _ = _; rw [HR.out, HBF.out, HST.out, hcq, HNQ.out, hsx]; rfl
              go_wp2
              generalize wr.alloc _ = w5 at *
              have k0 := ExtOf.cell b1
              have k1 := ExtOf.cell c0
              have k2 := ExtOf.cell a1
              have k3 := ExtOf.cell n0
              have k4 := ExtOf.cell n1
              have hlk : ∀ p : ExtOf w5, (Instr.lookup 103 (.map (some (w.heap.size + 1))) (.agg #[.int .i64 x.1, .int .i64 x.2]) false).run Tryz.prog p.val = .ok (.bool (S x)) p.val := fun p => run_lookupZ (T := vrT) (t := 103) (e := 4) Tryz.underlying103 (HMA.out.ext p.ext) (by kernel_rfl) x HOK.out
              rw [hsx] at hlk
              clear b0 b1 c0 a1 n0 n1 z0 z1
              refine wp_region_ext (w0 := w5) hmx (by kernel_rfl) (Ext.rf _) ?_
              repeat (first | go_big_quiet_step ((go_at_call 133; with_reducible exact Calls.ext_same (isNumber_any x.2 _ HNQ.out _))) | quiet_step ((go_at_call 133; with_reducible exact Calls.ext_same (isNumber_any x.2 _ HNQ.out _))))
              refine wpQuiet_nil ?_
              rintro w9 ⟨⟨_, hx⟩, rfl⟩
              have HX9 := Lib.hid hx
              clear hx k0 k1 k2 k3 k4 hlk
              go_wp2
              go_ret
              exact ⟨ret_bool HFF.out.symm, HX.out.tr (HXA.out.tr HX9.out)⟩
      · have hkl : k = ags.length := by omega
        have HTT : Hid (bindsB vs cs ags = true) := by show _ = _; rw [HR.out, HBF.out, drop_end (l := zipCo vs cs) (by rw [HZL.out]; omega), bindF_nil]
        subst hkl
        go_wp2
        go_ret
        exact ⟨ret_bool HTT.out.symm, HX.out⟩
  · have HN := Lib.hid (binds_len hlen)
    have hdec : ¬ vs.length = ags.length ∨ (vs.length = ags.length ∧ ¬ cs.length = ags.length) := by omega
    clear hlen
    rcases hdec with h1 | ⟨h1, h2⟩
    · go_enter Tryz.func111, Tryz.ntmps111
      go_wp2
      go_ret
      exact ⟨ret_bool HN.out.symm, Ext.al _ _⟩
    · rw [h1]
      clear h1
      go_enter Tryz.func111, Tryz.ntmps111
      go_wp2
      go_ret
      exact ⟨ret_bool HN.out.symm, Ext.al _ _⟩
end Go.Proofs.YtkdhhcidpklgoaaGreatDoor

/- node: enter, and what it hands back to leave. -/
namespace Go.Proofs.YtkdhhcidpklgoaaGreatDoor
open Go.RowKit Go.Shelf
attribute [local go_sem] Oper.semAt_some

set_option maxRecDepth 100000 in
theorem backward_any (A : Option Addr) (n c : Nat) (w : World) :
    Calls Tryz.prog 118 #[.slice A n c] w fun e w' => e = .returned (.func (.func 134) #[] #[.pointer (some ⟨w.heap.size, 0, none⟩)]) ∧ w' = w.alloc (.cells #[.slice A n c] 76) := by
  have hmf : ∀ (fn : Fn) (first cap : Array Value) (w : World), (Instr.makeFunc fn first cap).run Tryz.prog w = .ok (.func fn first cap) w := fun _ _ _ _ => rfl
  go_enter Tryz.func118, Tryz.ntmps118
  go_wp2
  go_ret
  exact ⟨rfl, rfl⟩

abbrev nilP : Value := .pointer none
/-- A scope: what binds each variable. -/
abbrev SC (w : World) (sb n : Nat) (S : Vr → Value) : Prop := MapZ vrT nilP w sb n S
/-- The scope behind the entering of variables, the first of them being number i of block g. -/
def entS (g : Nat) : (Vr → Value) → Nat → List Vr → (Vr → Value)
  | S, _, [] => S
  | S, i, x :: r => entS g (putZ S x (.pointer (some ⟨g, i * 4, none⟩))) (i + 1) r
theorem entS_snoc (g : Nat) (x : Vr) : ∀ (l : List Vr) (S : Vr → Value) (i : Nat), entS g S i (l ++ [x]) = putZ (entS g S i l) x (.pointer (some ⟨g, (i + l.length) * 4, none⟩))
  | [], S, i => by simp [entS]
  | y :: r, S, i => by
    show entS g (putZ S y _) (i + 1) (r ++ [x]) = _
    rw [entS_snoc g x r _ (i + 1)]
    show _ = putZ (entS g (putZ S y _) (i + 1) r) x _
    congr 3
    simp only [List.length_cons]
    congr 1
    omega
theorem entS_step (g : Nat) (S : Vr → Value) {l : List Vr} {k : Nat} {x : Vr} (h : l[k]? = some x) : entS g S 0 (l.take (k + 1)) = putZ (entS g S 0 (l.take k)) x (.pointer (some ⟨g, k * 4, none⟩)) := by
  rw [take_snoc' h, entS_snoc]
  have : (l.take k).length = k := by have := (List.getElem?_eq_some_iff.1 h).1; simp; omega
  rw [this, Nat.zero_add]
def inL (l : List Vr) (x : Vr) : Bool := l.any fun y => x == y
theorem inL_cons (y : Vr) (r : List Vr) (x : Vr) : inL (y :: r) x = (x == y || inL r x) := rfl
/-- What is behind a pointer. -/
def nnB : Value → Bool
  | .pointer (some _) => true
  | _ => false
theorem entS_nn (g : Nat) : ∀ (l : List Vr) (S : Vr → Value) (i : Nat) (x : Vr), nnB (entS g S i l x) = (inL l x || nnB (S x))
  | [], S, i, x => by simp [entS, inL]
  | y :: r, S, i, x => by
    show nnB (entS g (putZ S y _) (i + 1) r x) = _
    rw [entS_nn g r, inL_cons]
    by_cases h : x = y
    · subst h; rw [putZ_same]; simp [nnB]
    · rw [putZ_other _ _ h]
      have : (x == y) = false := by simpa using h
      rw [this]; simp
theorem entS_ptr (g : Nat) : ∀ (l : List Vr) (S : Vr → Value) (i : Nat), (∀ x, ∃ p, S x = .pointer p) → ∀ x, ∃ p, entS g S i l x = .pointer p
  | [], S, i, h => h
  | y :: r, S, i, h => by
    refine entS_ptr g r _ (i + 1) (fun x => ?_)
    by_cases e : x = y
    · subst e; exact ⟨_, putZ_same _ _ _⟩
    · rw [putZ_other _ _ e]; exact h x
theorem entS_out (g : Nat) : ∀ (l : List Vr) (S : Vr → Value) (i : Nat) (x : Vr), inL l x = false → entS g S i l x = S x
  | [], S, i, x, _ => rfl
  | y :: r, S, i, x, h => by
    rw [inL_cons, Bool.or_eq_false_iff] at h
    show entS g (putZ S y _) (i + 1) r x = _
    rw [entS_out g r _ _ x h.2, putZ_other]
    intro e; rw [e] at h; simp at h
/-- The scope while it is left, down to number k. -/
def lvS (g : Nat) (S S2 : Vr → Value) (l : List Vr) (k : Nat) : Vr → Value := fun x => if inL (l.drop k) x then entS g S 0 (l.take k) x else S2 x
theorem lvS_end (g : Nat) (S S2 : Vr → Value) (l : List Vr) : lvS g S S2 l l.length = S2 := by
  funext x; unfold lvS; rw [List.drop_length]; rfl
theorem lvS_step (g : Nat) (S S2 : Vr → Value) {l : List Vr} {k : Nat} {x : Vr} (h : l[k]? = some x) : putZ (lvS g S S2 l (k + 1)) x (entS g S 0 (l.take k) x) = lvS g S S2 l k := by
  obtain ⟨hlt, rfl⟩ := List.getElem?_eq_some_iff.1 h
  funext y
  unfold lvS
  rw [drop_step hlt, inL_cons]
  by_cases e : y = l[k]
  · subst e; rw [putZ_same]; simp
  · rw [putZ_other _ _ e]
    have : (y == l[k]) = false := by simpa using e
    rw [this, Bool.false_or, entS_step g S h, putZ_other _ _ e]
theorem lvS_zero (g : Nat) (S S2 : Vr → Value) (l : List Vr) : lvS g S S2 l 0 = fun x => if inL l x then S x else S2 x := rfl
set_option maxRecDepth 100000 in
theorem leave1_any (w : World) : Calls Tryz.prog 116 #[] w fun e w' => e = .returned (.tuple #[]) ∧ w = w' := by
  go_enter Tryz.func116, Tryz.ntmps116
  go_wp2
  go_end0
  exact ⟨rfl, rfl⟩
end Go.Proofs.YtkdhhcidpklgoaaGreatDoor

/- node: leave. -/
namespace Go.Proofs.YtkdhhcidpklgoaaGreatDoor
open Go.RowKit Go.Shelf
attribute [local go_sem] Oper.semAt_some

theorem revL_at {l : List Vr} {pre : List (Nat × Vr)} {y : Nat × Vr} (h : pre ++ [y] <+: revL l) : ∃ hlt : l.length - 1 - pre.length < l.length, pre.length < l.length ∧ y = (l.length - 1 - pre.length, l[l.length - 1 - pre.length]) := by
  obtain ⟨r, hr⟩ := h
  have h1 : (revL l)[pre.length]? = some y := by rw [← hr]; simp
  have hlt : pre.length < l.length := by
    have := (List.getElem?_eq_some_iff.1 h1).1
    rw [revL_length] at this; exact this
  rw [revL_get hlt] at h1
  exact ⟨by omega, hlt, (Option.some.inj h1).symm⟩
theorem SC.drew {w : World} {sb n : Nat} {S : Vr → Value} (h : SC w sb n S) : SC w.drew sb n S := h
/-- What leave knows. -/
structure LV (w : World) (gl gh gs gH gO sb : Nat) (A : Option Addr) (c : Nat) (l : List Vr) (S : Vr → Value) (f : Nat → Value) : Prop where
  bl : w.heap[gl]? = some (.cells #[.slice A l.length c] 76 (0, 0))
  bh : w.heap[gh]? = some (.cells #[.slice (some ⟨gH, 0, none⟩) l.length l.length] 199 (0, 0))
  bs : w.heap[gs]? = some (.cells #[.map (some sb)] 151 (0, 0))
  hd : PBlk w gH 175 l.length f
  hf : ∀ k x, l[k]? = some x → f k = entS gO S 0 (l.take k) x
set_option maxHeartbeats 8000000 in
set_option maxRecDepth 100000 in
theorem leave2_any (gl gh gs gH gO sb n : Nat) (A : Option Addr) (c : Nat) (l : List Vr) (S S2 : Vr → Value) (f : Nat → Value) (w : World) (hlv : LV w gl gh gs gH gO sb A c l S f) (hr : RVrs w (.slice A l.length c) l) (hsc : SC w sb n S2) (hl : l.length ≤ 1048576) (hn : n + l.length ≤ 1000000000000) :
    Calls Tryz.prog 117 #[.pointer (some ⟨gl, 0, none⟩), .pointer (some ⟨gh, 0, none⟩), .pointer (some ⟨gs, 0, none⟩)] w fun e w' => e = .returned (.tuple #[]) ∧ SC w' sb (n + l.length) (fun x => if inL l x then S x else S2 x) ∧ Only (fun j => j = sb) w w' := by
  have HR := Lib.hid hr; have HLV := Lib.hid hlv; have HSC := Lib.hid hsc
  have hlt := heap_lt hlv.bl
  have q0 := cellAt hlv.bl 0
  obtain ⟨es, clock, hmap⟩ := hsc.is
  have HMAP := Lib.hid hmap
  clear hlv hr hsc hmap
  refine callsIn_wide.1 (callsIn_of_wp_marks (n := 0) Tryz.func117 rfl trivial ?_ rfl)
  simp only [Tryz.ntmps117, List.size_toArray, List.length_cons, List.length_nil, Nat.reduceAdd, Nat.reduceSub, Array.replicate_succ, Array.replicate_zero, List.push_toArray, List.append_toArray, List.nil_append, List.cons_append]
  gi_wp2
  refine ⟨trivial, rfl, ?_⟩
  (with_reducible refine (callsIn_wide.2 (backward_any A l.length c _)).mono ?_)
  rintro e w3 ⟨rfl, rfl⟩
  have hg3 := heapNew w (.cells #[.slice A l.length c] 76)
  have hE3 := Ext.al w (.cells #[.slice A l.length c] 76)
  have hz3 : (w.alloc (.cells #[.slice A l.length c] 76)).heap.size = w.heap.size + 1 := by simp
  generalize w.alloc _ = w3 at *
  have HE3 := Lib.hid hE3
  have hsbl := heap_lt HMAP.out
  have HIT := Lib.hid (back_iter (fun j => j = sb) w3 A c l w.heap.size (HR.out.below hE3) (fun j hj => ⟨es, clock, by rw [hj]; exact hE3.lt HMAP.out⟩) hg3 (by omega) hl)
  have HKEEP : Hid (∀ W, Only (fun j => j = sb) w W → ∀ j o, w.heap[j]? = some o → j ≠ sb → W.heap[j]? = some o) := fun W h j o ho hj => h.lt ho hj
  clear hg3 q0
  gi_wp2
  refine wpIn_wide.2 (wp_range (C := fun j => j = sb) (L := revL l) (R := RIx) rfl (enters_of Tryz.func134 (by kernel_rfl) rfl) HIT.out
    (fun j hj => by omega) (fun y vs A h => h.size)
    (fun pre W => SC W sb (n + pre.length) (lvS gO S S2 l (l.length - pre.length)) ∧ Only (fun j => j = sb) w W)
    (fun c W => False) ?hI ?hIx ?h0 ?hround ?hdone ?hstop)
  case hI =>
    rintro pre A B ⟨h1, h2⟩ hb
    exact ⟨h1.block (hb.block _ (by omega)), h2.belowNew hb (by omega)⟩
  case hIx => rintro c A B h; exact h.elim
  case h0 =>
    refine ⟨?_, Only.of_ext HE3.out⟩
    rw [List.length_nil, Nat.add_zero, Nat.sub_zero, lvS_end]
    exact HSC.out.ext HE3.out
  case hround =>
    rintro l' pre y vs W hl' hpre ⟨i1, i2⟩ hvs hsz
    obtain rfl : vs = #[.int .i64 y.1, vrV y.2] := hvs
    obtain ⟨hk, hpl, he⟩ := revL_at hpre
    have I1 := Lib.hid i1; have I2 := Lib.hid i2
    clear i1 i2 hpre
    have hkl : l[l.length - 1 - pre.length]? = some l[l.length - 1 - pre.length] := List.getElem?_eq_getElem hk
    have HF := Lib.hid (HLV.out.hf _ _ hkl)
    have HST := Lib.hid (lvS_step gO S S2 hkl)
    obtain ⟨_, _, -, -, -, -, ok0, ok1⟩ := HR.out.at_ hk
    have HOK : Hid (vrT.ok l[l.length - 1 - pre.length]) := ⟨ok0, ok1⟩
    have HKP : Hid (l.length - pre.length = (l.length - 1 - pre.length) + 1) := by show _ = _; omega
    have HKP2 : Hid (l.length - (pre.length + 1) = l.length - 1 - pre.length) := by show _ = _; omega
    have hkl2 := hk
    generalize l[l.length - 1 - pre.length] = x at *
    generalize l.length - 1 - pre.length = k at *
    subst he
    dsimp only at *
    clear ok0 ok1 hkl
    gi_wp2
    refine ⟨Ext.al _ _, fun W2 hT => ?_⟩
    have hE4 := Ext.al W (.cells #[.int .i64 x.1, .int .i64 x.2] 80)
    have hN4 := hT.kept _ _ (heapNew W (.cells #[.int .i64 x.1, .int .i64 x.2] 80)) (fun r h => by cases h)
    have hB4 := hT.only.below (B := w3.heap.size) (by simp; omega) (fun k h => by rw [h]; exact hl')
    have HB2 : Hid (Below w3.heap.size W W2) := (hE4.mono hsz).trans hB4
    have HO2 : Hid (Only (fun j => j = sb) w W2) := Only.belowNew I2.out HB2.out (by omega)
    have HSC2 : Hid (SC W2 sb (n + pre.length) (lvS gO S S2 l (k + 1))) := by
      have := I1.out
      rw [HKP.out] at this
      exact this.block (HB2.out.block _ (by omega))
    have hz2 := HB2.out.size
    have m0 := cellAt hN4 0
    have m1 := cellAt hN4 1
    have hne : ∀ j o, w.heap[j]? = some o → (∀ es clock, o ≠ .map es clock) → j ≠ sb := fun j o h hn e => by
      subst e; rw [HMAP.out] at h; exact hn _ _ (Option.some.inj h).symm
    have r0 := cellAt (HKEEP.out W2 HO2.out _ _ HLV.out.bs (hne _ _ HLV.out.bs (fun _ _ h => by cases h))) 0
    have r1 := cellAt (HKEEP.out W2 HO2.out _ _ HLV.out.bh (hne _ _ HLV.out.bh (fun _ _ h => by cases h))) 0
    have hgH : gH ≠ sb := by obtain ⟨arr, h1, _⟩ := HLV.out.hd; exact hne _ _ h1 (fun _ _ h => by cases h)
    have r2 := (HLV.out.hd.only HO2.out hgH).cellAs hkl2 HF.out
    clear hE4 hN4 hB4 hT hne
    obtain ⟨w10, hu', hm10, hg10, -⟩ := run_updateZ (T := vrT) (t := 151) (e := 175) Tryz.underlying151 (w := W2.drew) HSC2.out (by unfold maxLen; omega) x HOK.out (entS gO S 0 (l.take k) x)
    have hu : (Instr.mapUpdate 151 (.map (some sb)) (.agg #[.int .i64 x.1, .int .i64 x.2]) (entS gO S 0 (l.take k) x)).run Tryz.prog W2.drew = .ok () w10 := hu'
    rw [HST.out] at hm10
    have HM10 := Lib.hid hm10
    have HG10 : Hid (Only (fun j => j = sb) W2 w10) := Only.tr (b := W2.drew) (Only.of_ext (Ext.rf W2).drew) (Only.grown hg10)
    clear hu' hm10 hg10
    have hki : (k : Int) < l.length := by omega
    generalize entS gO S 0 (l.take k) x = v at *
    gi_wp2
    gi_region
    all_goals
      gi_wp2
      refine ⟨HG10.out, ?_, HO2.out.tr HG10.out⟩
      rw [List.length_append, List.length_singleton, HKP2.out, ← Nat.add_assoc]
      exact HM10.out
  case hdone =>
    rintro W ⟨h1, h2⟩ hK
    have H1 := Lib.hid h1; have H2 := Lib.hid h2; have HK := Lib.hid hK
    clear h1 h2 hK
    gi_wp2
    refine ⟨by simp, .inl ⟨_, _, rfl, run_takeDeferred HK.out, ?_⟩⟩
    refine ⟨.tuple #[], by simp [results, go_sem], rfl, ?_, ?_⟩
    · have := H1.out
      rw [revL_length, Nat.sub_self, lvS_zero] at this
      exact this.block (World.putObj_heap_other (by omega))
    · exact Only.putNew H2.out (by omega) _
  case hstop => rintro c W h; exact h.elim
end Go.Proofs.YtkdhhcidpklgoaaGreatDoor

/- node: enter. -/
namespace Go.Proofs.YtkdhhcidpklgoaaGreatDoor
open Go.RowKit Go.Shelf
attribute [local go_sem] Oper.semAt_some

theorem Tryz.iBinder : (Tryz.prog.info? 201).map (fun i => (i.zero, i.size, i.bytes)) = some (some (.agg #[.int .i64 0, .int .i64 0, .bool false, .int .i64 0]), 4, 32) := by kernel_rfl
theorem Tryz.iPB : (Tryz.prog.info? 175).map (fun i => (i.zero, i.size, i.bytes)) = some (some (.pointer none), 1, 8) := by kernel_rfl
set_option maxHeartbeats 8000000 in
set_option maxRecDepth 100000 in
theorem enter_any (sb n : Nat) (A : Option Addr) (c : Nat) (l : List Vr) (S : Vr → Value) (w : World) (hr : RVrs w (.slice A l.length c) l) (hsc : SC w sb n S) (hl : l.length ≤ 1048576) (hn : n + l.length ≤ 1000000000000) (h0 : 0 < l.length) (hS : ∀ x, ∃ p, S x = .pointer p) :
    Calls Tryz.prog 92 #[.map (some sb), .slice A l.length c] w fun e w' => e = .returned (.tuple #[.slice (some ⟨w.heap.size + 1 + 1, 0, none⟩) l.length l.length, .func (.func 117) #[] #[.pointer (some ⟨w.heap.size + 1, 0, none⟩), .pointer (some ⟨w.heap.size + 1 + 1 + 1 + 1, 0, none⟩), .pointer (some ⟨w.heap.size, 0, none⟩)]]) ∧ SC w' sb (n + l.length) (entS (w.heap.size + 1 + 1) S 0 l) ∧ Only (fun j => j = sb) w w' ∧ ∃ f, LV w' (w.heap.size + 1) (w.heap.size + 1 + 1 + 1 + 1) w.heap.size (w.heap.size + 1 + 1 + 1) (w.heap.size + 1 + 1) sb A c l S f := by
  have HR := Lib.hid hr; have HSC := Lib.hid hsc; have HSP := Lib.hid hS
  have hsbl := hsc.lt
  have hmkB := fun w => make_any Tryz.underlying165 Tryz.iBinder (by decide) w l.length (by omega)
  have hmkP := fun w => make_any Tryz.underlying199 Tryz.iPB (by decide) w l.length (by omega)
  have hmf : ∀ (fn : Fn) (first cap : Array Value) (w : World), (Instr.makeFunc fn first cap).run Tryz.prog w = .ok (.func fn first cap) w := fun _ _ _ _ => rfl
  have hmx : Tryz.prog.follows .mixedOrders = true := by kernel_rfl
  have hne : ¬ (l.length = 0) := by omega
  have HIS := Lib.hid hsc.is
  clear hr hsc hS
  obtain ⟨wE, hwE⟩ : ∃ wE, wE = (((((w.alloc (.cells #[.map (some sb)] 151)).alloc (.cells #[.slice A l.length c] 76)).alloc (.cells (madeCells #[.int .i64 0, .int .i64 0, .bool false, .int .i64 0] (l.length * 4)) 201)).alloc (.cells (madeCells #[.pointer none] l.length) 175)).alloc (.cells #[.slice (some ⟨w.heap.size + 1 + 1 + 1, 0, none⟩) l.length l.length] 199)) := ⟨_, rfl⟩
  have HE : Hid (Ext w wE) := by
    show Ext w wE; rw [hwE]
    exact ((((Ext.al _ _).tr (Ext.al _ _)).tr (Ext.al _ _)).tr (Ext.al _ _)).tr (Ext.al _ _)
  have HBS : Hid (wE.heap[w.heap.size]? = some (.cells #[.map (some sb)] 151 (0, 0))) := by
    show _ = _; rw [hwE]
    exact Ext.lt (Ext.al4 _ _ _ _ _) (heapNew w _)
  have HBL : Hid (wE.heap[w.heap.size + 1]? = some (.cells #[.slice A l.length c] 76 (0, 0))) := by
    show _ = _; rw [hwE]
    have := Ext.lt (Ext.al3 _ (.cells (madeCells #[.int .i64 0, .int .i64 0, .bool false, .int .i64 0] (l.length * 4)) 201) (.cells (madeCells #[.pointer none] l.length) 175) (.cells #[.slice (some ⟨w.heap.size + 1 + 1 + 1, 0, none⟩) l.length l.length] 199)) (heapNew (w.alloc (.cells #[.map (some sb)] 151)) (.cells #[.slice A l.length c] 76))
    simpa using this
  have HPO : Hid (PBlk wE (w.heap.size + 1 + 1) 201 (l.length * 4) (fun i => (#[.int .i64 0, .int .i64 0, .bool false, .int .i64 0] : Array Value)[i % 4]!)) := by
    have := (PBlk.made ((w.alloc (.cells #[.map (some sb)] 151)).alloc (.cells #[.slice A l.length c] 76)) #[.int .i64 0, .int .i64 0, .bool false, .int .i64 0] (by decide) (l.length * 4) 201).ext (Ext.al2 _ (.cells (madeCells #[.pointer none] l.length) 175) (.cells #[.slice (some ⟨w.heap.size + 1 + 1 + 1, 0, none⟩) l.length l.length] 199))
    rw [← hwE, show ((w.alloc (.cells #[.map (some sb)] 151)).alloc (.cells #[.slice A l.length c] 76)).heap.size = w.heap.size + 1 + 1 by simp] at this
    exact this
  have HPH : Hid (PBlk wE (w.heap.size + 1 + 1 + 1) 175 l.length (fun i => (#[.pointer none] : Array Value)[i % 1]!)) := by
    have := (PBlk.made (((w.alloc (.cells #[.map (some sb)] 151)).alloc (.cells #[.slice A l.length c] 76)).alloc (.cells (madeCells #[.int .i64 0, .int .i64 0, .bool false, .int .i64 0] (l.length * 4)) 201)) #[.pointer none] (by decide) l.length 175).ext (Ext.al _ (.cells #[.slice (some ⟨w.heap.size + 1 + 1 + 1, 0, none⟩) l.length l.length] 199))
    rw [← hwE, show (((w.alloc (.cells #[.map (some sb)] 151)).alloc (.cells #[.slice A l.length c] 76)).alloc (.cells (madeCells #[.int .i64 0, .int .i64 0, .bool false, .int .i64 0] (l.length * 4)) 201)).heap.size = w.heap.size + 1 + 1 + 1 by simp] at this
    exact this
  have HBH : Hid (wE.heap[w.heap.size + 1 + 1 + 1 + 1]? = some (.cells #[.slice (some ⟨w.heap.size + 1 + 1 + 1, 0, none⟩) l.length l.length] 199 (0, 0))) := by
    have := heapNew ((((w.alloc (.cells #[.map (some sb)] 151)).alloc (.cells #[.slice A l.length c] 76)).alloc (.cells (madeCells #[.int .i64 0, .int .i64 0, .bool false, .int .i64 0] (l.length * 4)) 201)).alloc (.cells (madeCells #[.pointer none] l.length) 175)) (.cells #[.slice (some ⟨w.heap.size + 1 + 1 + 1, 0, none⟩) l.length l.length] 199)
    rw [← hwE, show ((((w.alloc (.cells #[.map (some sb)] 151)).alloc (.cells #[.slice A l.length c] 76)).alloc (.cells (madeCells #[.int .i64 0, .int .i64 0, .bool false, .int .i64 0] (l.length * 4)) 201)).alloc (.cells (madeCells #[.pointer none] l.length) 175)).heap.size = w.heap.size + 1 + 1 + 1 + 1 by simp] at this
    exact this
  have hzE : wE.heap.size = w.heap.size + 5 := by rw [hwE]; simp
  go_enter Tryz.func92, Tryz.ntmps92
  go_wp2
  generalize ((((w.alloc _).alloc _).alloc _).alloc _).alloc _ = w5 at *
  subst hwE
  go_loopw [20] (fun i wr => ∃ (k : Nat) (f g : Nat → Value), k ≤ l.length ∧ i = .int .i64 k ∧ SC wr sb (n + k) (entS (w.heap.size + 1 + 1) S 0 (l.take k)) ∧ PBlk wr (w.heap.size + 1 + 1) 201 (l.length * 4) g ∧ PBlk wr (w.heap.size + 1 + 1 + 1) 175 l.length f ∧ (∀ (i : Nat) x, i < k → l[i]? = some x → f i = entS (w.heap.size + 1 + 1) S 0 (l.take i) x) ∧ Only (fun j => j = sb ∨ j = w.heap.size + 1 + 1 ∨ j = w.heap.size + 1 + 1 + 1) wE wr) (fun i _ => l.length - (intOf i).toNat)
  case atStart => exact ⟨0, _, _, Nat.zero_le _, rfl, by simpa [entS] using HSC.out.ext HE.out, HPO.out, HPH.out, fun i x h => by omega, Only.rf _ _⟩
  case round =>
    obtain ⟨k, f, g, hk, rfl, hsc, hg, hf, hfx, ho⟩ := hrel
    have HS := Lib.hid hsc; have HG := Lib.hid hg; have HF := Lib.hid hf; have HFX := Lib.hid hfx; have HO := Lib.hid ho
    have HB0 : Hid (wr.heap[w.heap.size]? = some (.cells #[.map (some sb)] 151 (0, 0))) := ho.lt HBS.out (by omega)
    have HB1 : Hid (wr.heap[w.heap.size + 1]? = some (.cells #[.slice A l.length c] 76 (0, 0))) := ho.lt HBL.out (by omega)
    have HB4 : Hid (wr.heap[w.heap.size + 1 + 1 + 1 + 1]? = some (.cells #[.slice (some ⟨w.heap.size + 1 + 1 + 1, 0, none⟩) l.length l.length] 199 (0, 0))) := ho.lt HBH.out (by omega)
    have hzr := ho.size
    have HX2 : Hid (∀ p v, w.cell? p = some v → wr.cell? p = some v) := fun p v h => cell_only (C := fun j => j = sb) (((Only.of_ext HE.out).tr ho).mono (fun j hj h => by rcases h with h | h | h <;> omega)) (fun j h => by rw [h]; exact HIS.out) h
    have b0 := cellAt HB0.out 0
    have b1 := cellAt HB1.out 0
    have b4 := cellAt HB4.out 0
    clear hsc hg hf hfx ho
    by_cases hlt : k < l.length
    · obtain ⟨bz, oz, rfl, hbz, z0, z1, ok0, ok1⟩ := HR.out.at_ hlt
      have z0 := HX2.out _ _ z0
      have z1 := HX2.out _ _ z1
      have HLK : Hid (l[k]? = some l[k]) := List.getElem?_eq_getElem hlt
      have HOK : Hid (vrT.ok l[k]) := ⟨ok0, ok1⟩
      generalize l[k] = x at *
      clear ok0 ok1
      have hki : (k : Int) < l.length := by omega
      have HE6 := Lib.hid (Ext.al wr (.cells #[.int .i64 x.1, .int .i64 x.2] 80))
      have HN6 := Lib.hid (heapNew wr (.cells #[.int .i64 x.1, .int .i64 x.2] 80))
      have HG6 := Lib.hid (HG.out.ext HE6.out)
      have HF6 := Lib.hid (HF.out.ext HE6.out)
      have HS6 := Lib.hid (HS.out.ext HE6.out)
      have g0 := HG6.out.cell (i := k * 4) (by omega)
      have g1 := HG6.out.cell (i := k * 4 + 1) (by omega)
      have q0 := HG6.out.frozen (k * 4)
      have q1 := HG6.out.frozen (k * 4 + 1)
      have f0 := HF6.out.cell hlt
      have qf := HF6.out.frozen k
      have b0 := HE6.out.keep b0
      have b4 := HE6.out.keep b4
      have n0 := cellAt HN6.out 0
      have n1 := cellAt HN6.out 1
      go_wp2
      obtain ⟨w7, hw7⟩ : ∃ w7, w7 = (((wr.alloc (Obj.cells #[Value.int IntKind.i64 x.fst, Value.int IntKind.i64 x.snd] 80)).setCell { block := w.heap.size + 1 + 1, off := k * 4 } (Value.int IntKind.i64 x.fst)).setCell { block := w.heap.size + 1 + 1, off := k * 4 + 1 } (Value.int IntKind.i64 x.snd)) := ⟨_, rfl⟩
      have HBK : Hid (∀ j o, j ≠ w.heap.size + 1 + 1 → wr.heap[j]? = some o → w7.heap[j]? = some o) := fun j o h1 h2 => by
        rw [hw7]
        exact (set_other _ h1).trans ((set_other _ h1).trans (HE6.out.lt h2))
      obtain ⟨g7, HG7⟩ : ∃ g7, Hid (PBlk w7 (w.heap.size + 1 + 1) 201 (l.length * 4) g7) := by rw [hw7]; exact ⟨_, (HG6.out.set (by omega) _).set (by omega) _⟩
      have HO7 : Hid (Only (fun j => j = sb ∨ j = w.heap.size + 1 + 1 ∨ j = w.heap.size + 1 + 1 + 1) wE w7) := by
        rw [hw7]
        exact ((HO.out.tr (Only.of_ext HE6.out)).tr (Only.setCell (p := ⟨w.heap.size + 1 + 1, _, none⟩) (.inr (.inl rfl)) _ _)).tr (Only.setCell (p := ⟨w.heap.size + 1 + 1, _, none⟩) (.inr (.inl rfl)) _ _)
      have HN7 : Hid (w7.heap[wr.heap.size]? = some (.cells #[.int .i64 x.1, .int .i64 x.2] 80 (0, 0))) := by
        rw [hw7]
        exact (set_other _ (by omega)).trans ((set_other _ (by omega)).trans HN6.out)
      have HF7 : Hid (PBlk w7 (w.heap.size + 1 + 1 + 1) 175 l.length f) := by
        rw [hw7]
        exact (HF6.out.setOther (by omega) _).setOther (by omega) _
      have HS7 : Hid (SC w7 sb (n + k) (entS (w.heap.size + 1 + 1) S 0 (l.take k))) := by
        rw [hw7]
        exact HS6.out.block ((set_other _ (by omega)).trans (set_other _ (by omega)))
      have hz7 : w7.heap.size = wr.heap.size + 1 := by rw [hw7]; simp [World.setCell]
      rw [← hw7]
      clear g0 g1 q0 q1 f0 qf b0 b1 b4 n0 n1 z0 z1
      clear hw7
      have b0 := cellAt (HBK.out _ _ (by omega) HB0.out) 0
      have b4 := cellAt (HBK.out _ _ (by omega) HB4.out) 0
      have n0 := cellAt HN7.out 0
      have n1 := cellAt HN7.out 1
      have f0 := HF7.out.cell hlt
      have qf := HF7.out.frozen k
      have HST := Lib.hid (entS_step (w.heap.size + 1 + 1) S HLK.out)
      obtain ⟨v, hv⟩ : ∃ v, entS (w.heap.size + 1 + 1) S 0 (l.take k) x = v := ⟨_, rfl⟩
      have HV := Lib.hid hv
      obtain ⟨p, rfl⟩ : ∃ p, v = .pointer p := by rw [← hv]; exact entS_ptr _ _ _ _ HSP.out x
      have hlk : (Instr.lookup 151 (.map (some sb)) (.agg #[.int .i64 x.1, .int .i64 x.2]) false).run Tryz.prog w7.drew = .ok (.pointer p) w7.drew := by
        rw [← hv]
        exact run_lookupZ (T := vrT) (t := 151) (e := 175) Tryz.underlying151 (HS7.out.drew) (by kernel_rfl) x HOK.out
      have hcd : ∀ p, w7.drew.cell? p = w7.cell? p := fun p => rfl
      have hfd : ∀ p, w7.drew.frozen? p = w7.frozen? p := fun p => rfl
      clear hv
      go_region
      all_goals
        obtain ⟨w8, hw8⟩ : ∃ w8, w8 = (w7.setCell ⟨w.heap.size + 1 + 1 + 1, k, none⟩ (.pointer p)).drew := ⟨_, rfl⟩
        rw [← hw8]
        have HK8 : Hid (∀ j o, j ≠ w.heap.size + 1 + 1 + 1 → w7.heap[j]? = some o → w8.heap[j]? = some o) := fun j o h1 h2 => by
          rw [hw8]
          exact (set_other _ h1).trans h2
        have HS8 : Hid (SC w8 sb (n + k) (entS (w.heap.size + 1 + 1) S 0 (l.take k))) := by
          rw [hw8]
          exact MapZ.block (w := w7) HS7.out (set_other _ (by omega))
        have HF8 : Hid (PBlk w8 (w.heap.size + 1 + 1 + 1) 175 l.length (fun j => if j = k then .pointer p else f j)) := by
          rw [hw8]
          exact PBlk.block (HF7.out.set hlt _) rfl
        have HG8 : Hid (PBlk w8 (w.heap.size + 1 + 1) 201 (l.length * 4) g7) := by
          rw [hw8]
          exact PBlk.block (HG7.out.setOther (by omega) _) rfl
        have HO8 : Hid (Only (fun j => j = sb ∨ j = w.heap.size + 1 + 1 ∨ j = w.heap.size + 1 + 1 + 1) wE w8) := by
          rw [hw8]
          exact (HO7.out.tr (Only.setCell (p := ⟨w.heap.size + 1 + 1 + 1, _, none⟩) (.inr (.inr rfl)) _ _)).tr (Only.of_ext (Ext.rf _).drew)
        clear hlk hcd hfd f0 qf b0 b4 n0 n1
        clear hw8
        have b0 := cellAt (HK8.out _ _ (by omega) (HBK.out _ _ (by omega) HB0.out)) 0
        have n0 := cellAt (HK8.out _ _ (by omega) HN7.out) 0
        have n1 := cellAt (HK8.out _ _ (by omega) HN7.out) 1
        obtain ⟨w10, hu', hm10, hg10, hz10⟩ := run_updateZ (T := vrT) (t := 151) (e := 175) Tryz.underlying151 (w := w8.drew) HS8.out.drew (by unfold maxLen; omega) x HOK.out (.pointer (some ⟨w.heap.size + 1 + 1, k * 4, none⟩))
        have hu : (Instr.mapUpdate 151 (.map (some sb)) (.agg #[.int .i64 x.1, .int .i64 x.2]) (.pointer (some ⟨w.heap.size + 1 + 1, k * 4, none⟩))).run Tryz.prog w8.drew = .ok () w10 := hu'
        rw [← HST.out] at hm10
        have HM10 := Lib.hid hm10
        have HG10 : Hid (Only (fun j => j = sb) w8 w10) := Only.tr (b := w8.drew) (Only.of_ext (Ext.rf w8).drew) (Only.grown hg10)
        clear hu' hm10 hg10 hz10
        go_wp2
        go_region
        all_goals
          go_wp2
          refine ⟨⟨k + 1, fun j => if j = k then .pointer p else f j, g7, by omega, by go_num, ?_, HG8.out.only HG10.out (by omega), HF8.out.only HG10.out (by omega), ?_, HO8.out.tr (HG10.out.mono (fun j _ h => .inl h))⟩, by simp [intOf]; omega⟩
          · rw [← Nat.add_assoc]; exact HM10.out
          · intro i y hi hy
            show (if i = k then Value.pointer p else f i) = _
            by_cases hik : i = k
            · subst hik
              rw [HLK.out] at hy
              obtain rfl := Option.some.inj hy
              rw [if_pos rfl, HV.out]
            · rw [if_neg hik]
              exact HFX.out i y (by omega) hy
    · have hkl : k = l.length := by omega
      subst hkl
      go_wp2
      refine bodyPost_ret (v := .tuple #[.slice (some ⟨w.heap.size + 1 + 1, 0, none⟩) l.length l.length, .func (.func 117) #[] #[.pointer (some ⟨w.heap.size + 1, 0, none⟩), .pointer (some ⟨w.heap.size + 1 + 1 + 1 + 1, 0, none⟩), .pointer (some ⟨w.heap.size, 0, none⟩)]]) (by simp [results, Tryz.results92, go_sem]) rfl ?_
      refine ⟨rfl, ?_, ?_, f, ?_⟩
      · have := HS.out
        rw [List.take_length] at this
        exact this
      · exact ((Only.of_ext HE.out).tr HO.out).mono (fun j hj h => by rcases h with h | h | h <;> omega)
      · exact ⟨HB1.out, HB4.out, HB0.out, HF.out, fun k x hk => HFX.out k x (List.getElem?_eq_some_iff.1 hk).1 hk⟩
end Go.Proofs.YtkdhhcidpklgoaaGreatDoor
