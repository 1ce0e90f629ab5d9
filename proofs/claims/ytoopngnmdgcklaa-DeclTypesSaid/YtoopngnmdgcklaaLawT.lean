import Derived.Test.YtoopngnmdgcklaaAwake
namespace Go.Proofs.Ytoopngnmdgcklaa
open Go.RowKit

set_option maxHeartbeats 2000000 in
set_option maxRecDepth 100000 in
theorem declTypes_any (v : Value) (l : List Decl) (t n : Int) (w : World) (h : RDecls w v l) (ht : -9223372036854775808 ≤ t ∧ t ≤ 9223372036854775807) (hn : -9223372036854775808 ≤ n ∧ n ≤ 9223372036854775807) :
    Calls Try.prog 4 #[v, .int .i64 t, .int .i64 n] w fun e w' => e = .returned (.bool true) ∧ Ext w w' := by
  have HR := Lib.hid h
  obtain ⟨A, c, rfl, hc, hm⟩ := h.form
  clear h
  unfold maxLen at hm
  obtain ⟨ht0, ht1⟩ := ht
  obtain ⟨hn0, hn1⟩ := hn
  go_enter Try.func4, Try.ntmps4
  go_wp2_with fail
  (with_reducible refine (Positive_any _ l t _ HR.out).mono ?_)
  rintro e w2 ⟨rfl, hb⟩
  have HE2 := Lib.hid hb
  have HR2 := Lib.hid (HR.out.below hb)
  clear hb HR
  go_wp2_with fail
  (with_reducible refine (Result_any _ l t n _ HR2.out).mono ?_)
  rintro e w3 ⟨rfl, hb⟩
  have HE3 := Lib.hid (HE2.out.tr hb)
  have HR3 := Lib.hid (HR2.out.below hb)
  clear hb HR2 HE2
  go_wp2_with fail
  (with_reducible refine (Is_any _ l _ HR3.out).mono ?_)
  rw [← valid_is]
  rintro e w4 ⟨rfl, hb⟩
  have HE4 := Lib.hid (HE3.out.tr hb)
  have HR4 := Lib.hid (HR3.out.below hb)
  clear hb HR3 HE3
  cases hq : validB l
  · rw [posB_bad hq, resI_bad hq]
    clear hq
    go_wp2_with fail
    (with_reducible refine (awake_any _).mono ?_)
    rintro e w5 ⟨rfl, hb⟩
    have HE5 := Lib.hid (HE4.out.tr hb)
    clear hb
    go_wp2
    go_ret
    exact ⟨rfl, HE5.out⟩
  · by_cases hr : 0 ≤ t ∧ t ≤ l.length
    · obtain ⟨hr0, hr1⟩ := hr
      by_cases hz : t = 0
      · subst hz
        rw [posB_zero hq, resI_out hq (by omega)]
        have HC : Hid (codB l 0 = false) := codB_out (by omega)
        clear hq
        go_wp2_with fail
        (with_reducible refine (RCodata_any _ l _ _ HR4.out).mono ?_)
        rw [HC.out]
        rintro e w' ⟨rfl, rfl⟩
        go_wp2_with fail
        (with_reducible refine (RCodata_any _ l _ _ HR4.out).mono ?_)
        rw [HC.out]
        rintro e w' ⟨rfl, rfl⟩
        go_wp2_with fail
        (with_reducible refine (awake_any _).mono ?_)
        rintro e w5 ⟨rfl, hb⟩
        have HE5 := Lib.hid (HE4.out.tr hb)
        clear hb
        go_wp2
        go_ret
        exact ⟨rfl, HE5.out⟩
      · obtain ⟨u, rfl⟩ : ∃ u : Nat, t = u + 1 := ⟨(t - 1).toNat, by omega⟩
        have hu : u < l.length := by omega
        have hu0 : ¬ ((u : Int) + 1 < 0) := by omega
        have hu1 : ¬ ((l.length : Int) < (u : Int) + 1) := by omega
        have HQ := Lib.hid hq
        rw [posB_in hq hu]
        clear hz hr0 hr1 ht0 ht1
        have hcb := codB_in hu
        cases hcd : (l[u]).codata
        · rw [hcd] at hcb
          have HC := Lib.hid hcb
          rw [resI_data hq hu hcd]
          clear hq hcb hcd
          go_wp2_with fail
          (with_reducible refine (RCodata_any _ l _ _ HR4.out).mono ?_)
          rw [HC.out]
          rintro e w' ⟨rfl, rfl⟩
          go_wp2_with fail
          (with_reducible refine (RCodata_any _ l _ _ HR4.out).mono ?_)
          rw [HC.out]
          rintro e w' ⟨rfl, rfl⟩
          go_wp2_with fail
          (with_reducible refine (awake_any _).mono ?_)
          rintro e w5 ⟨rfl, hb⟩
          have HE5 := Lib.hid (HE4.out.tr hb)
          clear hb
          go_wp2
          go_ret
          exact ⟨rfl, HE5.out⟩
        · rw [hcd] at hcb
          have HC := Lib.hid hcb
          by_cases hk : 0 ≤ n ∧ n < (l[u]).xtors.length
          · obtain ⟨hk0, hk1⟩ := hk
            obtain ⟨k, rfl⟩ : ∃ k : Nat, n = k := ⟨n.toNat, by omega⟩
            have hkx : k < (l[u]).xtors.length := by omega
            have HI : Hid (hasI l (u + 1) k = true) := by show _ = _; rw [hasI_in hu (by omega)]; exact decide_eq_true (by omega)
            obtain ⟨b, o, vx, rfl, hbl, g0, g1, g2, g3, g4⟩ := HR4.out.at_ hu
            obtain ⟨A2, c2, rfl, hc2, hm2⟩ := g3.form
            unfold maxLen at hm2
            obtain ⟨b3, o3, va, rfl, hbl3, q0, q1, q2, q3⟩ := g3.at_ hkx
            have HA := Lib.hid q2
            have hw1 : IntKind.i64.wrap (u : Int) = u := IntWalk.i64_in _ (by omega)
            have hw2 : IntKind.i64.wrap ((u : Int) + 1 - 1) = u := by rw [show ((u : Int) + 1 - 1) = u by omega]; exact hw1
            cases he : endsB ((l[u]).xtors[k]).args
            · rw [resI_noend hq hu hkx he]
              have HEN := Lib.hid he
              clear hq hcb hcd he q2 g3
              generalize (l[u]).xtors[k] = x at *
              go_wp2_with fail
              (with_reducible refine (RCodata_any _ l _ _ HR4.out).mono ?_)
              rw [HC.out]
              rintro e w' ⟨rfl, rfl⟩
              go_wp2_with fail
              (with_reducible refine (RCodata_any _ l _ _ HR4.out).mono ?_)
              rw [HC.out]
              rintro e w' ⟨rfl, rfl⟩
              go_wp2_with fail
              (with_reducible refine (RHas_any _ l _ _ _ HR4.out).mono ?_)
              rw [HI.out]
              rintro e w' ⟨rfl, rfl⟩
              go_wp2_with fail
              (with_reducible refine (Ends_any _ x _ HA.out).mono ?_)
              rw [HEN.out]
              rintro e w5 ⟨rfl, hb⟩
              have HE5 := Lib.hid (HE4.out.tr hb)
              clear hb
              go_wp2_with fail
              (with_reducible refine (awake_any _).mono ?_)
              rintro e w6 ⟨rfl, hb⟩
              have HE6 := Lib.hid (HE5.out.tr hb)
              clear hb
              go_wp2
              go_ret
              exact ⟨rfl, HE6.out⟩
            · have hp := endsB_pos he
              rw [resI_end hq hu hkx hcd he, lastTy_eq hp]
              have HEN := Lib.hid he
              clear hq hcb hcd he q2 g3
              generalize (l[u]).xtors[k] = x at *
              obtain ⟨A3, c3, rfl, hc3, hm3⟩ := HA.out.form
              unfold maxLen at hm3
              go_wp2_with fail
              (with_reducible refine (RCodata_any _ l _ _ HR4.out).mono ?_)
              rw [HC.out]
              rintro e w' ⟨rfl, rfl⟩
              go_wp2_with fail
              (with_reducible refine (RCodata_any _ l _ _ HR4.out).mono ?_)
              rw [HC.out]
              rintro e w' ⟨rfl, rfl⟩
              go_wp2_with fail
              (with_reducible refine (RHas_any _ l _ _ _ HR4.out).mono ?_)
              rw [HI.out]
              rintro e w' ⟨rfl, rfl⟩
              go_wp2_with fail
              (with_reducible refine (Ends_any _ x _ HA.out).mono ?_)
              rw [HEN.out]
              rintro e w5 ⟨rfl, hb⟩
              have HE5 := Lib.hid (HE4.out.tr hb)
              have HA5 := Lib.hid (HA.out.below hb)
              have g0 := Ext.keep hb g0
              have g1 := Ext.keep hb g1
              have g2 := Ext.keep hb g2
              have q0 := Ext.keep hb q0
              have q1 := Ext.keep hb q1
              have hbl := Nat.lt_of_lt_of_le hbl hb.size
              have hbl3 := Nat.lt_of_lt_of_le hbl3 hb.size
              clear hb
              have hE6 := Ext.al w5 (Obj.cells #[Value.string x.name, Value.slice A3 x.args.length c3] 45)
              have HE6 := Lib.hid (HE5.out.tr hE6)
              obtain ⟨b4, o4, rfl, hbl4, e0, e1⟩ := HA5.out.at_ (k := x.args.length - 1) (by omega)
              have e0 := hE6.keep e0
              clear hE6
              have ek : (o4 + (x.args.length - 1) * 2) = o4 + (x.args.length - 1) * 2 := rfl
              have hl1 : ((x.args.length : Int) - 1) = ((x.args.length - 1 : Nat) : Int) := by omega
              have hl2 : x.args.length - 1 < x.args.length := by omega
              have hl3 : IntKind.i64.wrap ((x.args.length - 1 : Nat) : Int) = ((x.args.length - 1 : Nat) : Int) := IntWalk.i64_in _ (by omega)
              go_wp2_with fail
              (with_reducible refine (awake_any _).mono ?_)
              rintro e w7 ⟨rfl, hb⟩
              have HE7 := Lib.hid (HE6.out.tr hb)
              clear hb
              go_wp2
              go_ret
              exact ⟨rfl, HE7.out⟩
          · have HI : Hid (hasI l (u + 1) n = false) := by
              show _ = _
              by_cases h0 : 0 ≤ n
              · rw [hasI_in hu h0]; exact decide_eq_false (by omega)
              · exact hasI_neg h0
            rw [resI_none hq hu hk]
            clear hq hcb hcd hk
            go_wp2_with fail
            (with_reducible refine (RCodata_any _ l _ _ HR4.out).mono ?_)
            rw [HC.out]
            rintro e w' ⟨rfl, rfl⟩
            go_wp2_with fail
            (with_reducible refine (RCodata_any _ l _ _ HR4.out).mono ?_)
            rw [HC.out]
            rintro e w' ⟨rfl, rfl⟩
            go_wp2_with fail
            (with_reducible refine (RHas_any _ l _ _ _ HR4.out).mono ?_)
            rw [HI.out]
            rintro e w' ⟨rfl, rfl⟩
            go_wp2_with fail
            (with_reducible refine (awake_any _).mono ?_)
            rintro e w5 ⟨rfl, hb⟩
            have HE5 := Lib.hid (HE4.out.tr hb)
            clear hb
            go_wp2
            go_ret
            exact ⟨rfl, HE5.out⟩
    · rw [posB_out hq (by omega) (by omega), resI_out hq (by omega)]
      clear hq
      by_cases hneg : t < 0
      · go_wp2_with fail
        (with_reducible refine (awake_any _).mono ?_)
        rintro e w5 ⟨rfl, hb⟩
        have HE5 := Lib.hid (HE4.out.tr hb)
        clear hb
        go_wp2
        go_ret
        exact ⟨rfl, HE5.out⟩
      · have hgt : (l.length : Int) < t := by omega
        go_wp2_with fail
        (with_reducible refine (awake_any _).mono ?_)
        rintro e w5 ⟨rfl, hb⟩
        have HE5 := Lib.hid (HE4.out.tr hb)
        clear hb
        go_wp2
        go_ret
        exact ⟨rfl, HE5.out⟩
end Go.Proofs.Ytoopngnmdgcklaa
