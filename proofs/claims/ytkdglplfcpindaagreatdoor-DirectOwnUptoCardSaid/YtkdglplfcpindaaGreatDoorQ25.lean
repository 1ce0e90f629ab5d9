/- ref.go: Copy of terms. -/
import Derived.Test.YtkdglplfcpindaaGreatDoorQ24
namespace Go.Proofs.YtkdglplfcpindaaGreatDoor
open Go.RowKit

/-! ### sizes -/
theorem uT_pos (t : Tm) : 1 ≤ uT t := by rw [uT_kids]; omega
theorem uK_len : ∀ l : List (Bnd × Tm), l.length ≤ uK l
  | [] => Nat.zero_le _
  | x :: r => by have := uK_len r; have := uT_pos x.2; simp only [uK, List.length_cons]; omega
theorem uT_lens (t : Tm) : t.args.length + t.cls.length ≤ uT t := by
  have h1 := uK_len (kids t)
  have h2 : (kids t).length = t.args.length + t.cls.length := by unfold kids; rw [List.length_append, kidsFrom_length, List.length_map]
  rw [uT_kids]; omega
theorem uT_names {t : Tm} {c : List Str × Tm} (h : c ∈ t.cls) : c.1.length ≤ uT t := by
  have h1 : (((c.1, false), c.2) : Bnd × Tm) ∈ kids t := List.mem_append_right _ (List.mem_map_of_mem h)
  have h2 := uK_mem h1
  have h3 := uT_kids t
  dsimp only at h2
  omega

def OkT (k : Nat) (w : World) (x : Trm) : Prop := RT w k x.1 x.2.1 x.2.2
theorem okT_sub {k : Nat} (w w' : World) (x : Trm) (h : OkT k w x) (hb : Sub w w') : OkT k w' x := RT.sub hb h
def OkC' (k : Nat) (w : World) (x : Trc) : Prop := OkC w k x
theorem okC_sub {k : Nat} (w w' : World) (x : Trc) (h : OkC' k w x) (hb : Sub w w') : OkC' k w' x := OkC.sub h hb
theorem Tryz.info87 : (Tryz.prog.info? 123).map (fun i => (i.zero, i.size, i.bytes)) = some (some (.agg #[.slice none 0 0, .int .i64 0, .int .i64 0, .string ⟨#[]⟩, .int .i64 0, .slice none 0 0, .slice none 0 0]), 7, 112) := by kernel_rfl

/-! ### what the operations ahead of the append yield -/
def FA (n2 : Nat) (s ux : Value) (x : Tm) (B k : Nat) (W : World) : Nat → Value → Prop
  | 0, v => v = .pointer (some ⟨n2, 4, none⟩)
  | 1, v => v = s
  | 2, v => v = ux
  | 3, v => ∃ ya yc, v = tV x ya yc ∧ RT (mask B none W) k x ya yc
  | 4, v => ∃ ya yc g, v = .slice (some ⟨g, 0, none⟩) 1 1 ∧ W.heap[g]? = some (.cells #[.int .i64 x.op, .int .i64 x.n, .string x.nm, .int .i64 x.ty, ya, yc] 50 (0, 0)) ∧ RT (mask B none W) k x ya yc
  | _, _ => True
theorem FA.ext {n2 : Nat} {s ux : Value} {x : Tm} {B k : Nat} (W W' : World) (j : Nat) (v : Value) (h : FA n2 s ux x B k W j v) (hb : Ext W W') : FA n2 s ux x B k W' j v := by
  match j, h with
  | 0, h => exact h
  | 1, h => exact h
  | 2, h => exact h
  | 3, ⟨ya, yc, h1, h2⟩ => exact ⟨ya, yc, h1, RT.sub (mask_ext hb) h2⟩
  | 4, ⟨ya, yc, g, h1, h2, h3⟩ => exact ⟨ya, yc, g, h1, (hb.block _ (heap_lt h2)).trans h2, RT.sub (mask_ext hb) h3⟩
  | _ + 5, _ => exact trivial
def FC (n2 n7 : Nat) (s un ux : Value) (ns : List Str) (x : Tm) (B k : Nat) (W : World) : Nat → Value → Prop
  | 0, v => v = .pointer (some ⟨n2, 5, none⟩)
  | 1, v => v = s
  | 2, v => v = .pointer (some ⟨n7, 0, none⟩)
  | 3, v => v = un
  | 4, v => RStrs (mask B none W) v ns
  | 5, v => v = .pointer (some ⟨n7, 1, none⟩)
  | 6, v => v = ux
  | 7, v => ∃ ya yc, v = tV x ya yc ∧ RT (mask B none W) k x ya yc
  | 8, v => ∃ vn ya yc, v = .agg #[vn, .int .i64 x.op, .int .i64 x.n, .string x.nm, .int .i64 x.ty, ya, yc] ∧ OkC (mask B none W) k ((ns, x), vn, ya, yc)
  | 9, v => ∃ vn ya yc g, v = .slice (some ⟨g, 0, none⟩) 1 1 ∧ W.heap[g]? = some (.cells #[vn, .int .i64 x.op, .int .i64 x.n, .string x.nm, .int .i64 x.ty, ya, yc] 123 (0, 0)) ∧ OkC (mask B none W) k ((ns, x), vn, ya, yc)
  | _, _ => True
theorem FC.ext {n2 n7 : Nat} {s un ux : Value} {ns : List Str} {x : Tm} {B k : Nat} (W W' : World) (j : Nat) (v : Value) (h : FC n2 n7 s un ux ns x B k W j v) (hb : Ext W W') : FC n2 n7 s un ux ns x B k W' j v := by
  match j, h with
  | 0, h => exact h
  | 1, h => exact h
  | 2, h => exact h
  | 3, h => exact h
  | 4, h => exact RStrs.sub h (mask_ext hb)
  | 5, h => exact h
  | 6, h => exact h
  | 7, ⟨ya, yc, h1, h2⟩ => exact ⟨ya, yc, h1, RT.sub (mask_ext hb) h2⟩
  | 8, ⟨vn, ya, yc, h1, h2⟩ => exact ⟨vn, ya, yc, h1, h2.sub (mask_ext hb)⟩
  | 9, ⟨vn, ya, yc, g, h1, h2, h3⟩ => exact ⟨vn, ya, yc, g, h1, (hb.block _ (heap_lt h2)).trans h2, h3.sub (mask_ext hb)⟩
  | _ + 10, _ => exact trivial

set_option maxHeartbeats 4000000 in
set_option maxRecDepth 100000 in
theorem RCopy_any : ∀ (k : Nat) (t : Tm) (va vc : Value) (w : World), RT w k t va vc → uT t ≤ 50000000 →
    Calls Tryz.prog 35 #[tV t va vc] w fun e w' => (∃ xa xc, e = .returned (tV t xa xc) ∧ RT (mask w.heap.size none w') k t xa xc) ∧ Ext w w' := by
  intro k
  induction k with
  | zero => intro t va vc w h; exact h.elim
  | succ k ih =>
    intro t va vc w ht hu
    have HT := Lib.hid ht; have HIH := Lib.hid ih; have HU := Lib.hid hu
    obtain ⟨hsz, ⟨Aa, ca, rfl, hca, hma⟩, ⟨Bb, cb, rfl, hcb, hmb⟩⟩ := ht.form
    have HSZ := Lib.hid hsz
    have HLEN := Lib.hid (uT_lens t)
    clear ht hu ih hsz
    unfold maxLen at hma hmb
    have hmx : Tryz.prog.follows .mixedOrders = true := by kernel_rfl
    have HE := Lib.hid (Ext.al3 w (.cells #[.int .i64 t.op, .int .i64 t.n, .string t.nm, .int .i64 t.ty, .slice Aa t.args.length ca, .slice Bb t.cls.length cb] 50) (.cells #[.int .i64 0, .int .i64 0, .string ⟨#[]⟩, .int .i64 0, .slice none 0 0, .slice none 0 0] 50) (.cells #[.int .i64 t.op, .int .i64 t.n, .string t.nm, .int .i64 t.ty, .slice none 0 0, .slice none 0 0] 50))
    obtain ⟨hb1, hbz, hb2⟩ := box_three w (.cells #[.int .i64 t.op, .int .i64 t.n, .string t.nm, .int .i64 t.ty, .slice Aa t.args.length ca, .slice Bb t.cls.length cb] 50) (.cells #[.int .i64 0, .int .i64 0, .string ⟨#[]⟩, .int .i64 0, .slice none 0 0, .slice none 0 0] 50) (.cells #[.int .i64 t.op, .int .i64 t.n, .string t.nm, .int .i64 t.ty, .slice none 0 0, .slice none 0 0] 50)
    have HB1 := Lib.hid hb1; have HB2 := Lib.hid hb2; have HBZ := Lib.hid hbz
    clear hb1 hb2 hbz
    go_enter Tryz.func35, Tryz.ntmps35
    go_wp2
    generalize World.alloc (World.alloc (World.alloc w _) _) _ = w1 at *
    have HN : Hid (w.heap.size + 1 + 1 < w1.heap.size) := heap_lt HB2.out
    go_loopw [14] (fun i wr => ∃ (j : Nat) (s : Value) (L : List Trm), j ≤ t.args.length ∧ i = .int .i64 j ∧ wr.heap[w.heap.size + 1 + 1]? = some (.cells #[.int .i64 t.op, .int .i64 t.n, .string t.nm, .int .i64 t.ty, s, .slice none 0 0] 50 (0, 0)) ∧ CRow cellsT 50 6 (OkT k) w1 wr (w.heap.size + 1 + 1) s L ∧ L.map (·.1) = t.args.take j) (fun i _ => t.args.length - (intOf i).toNat)
    case atStart => exact ⟨0, .slice none 0 0, [], Nat.zero_le _, rfl, HB2.out, CRow.nil rfl _ _ _ (Only.rf _ _), by simp⟩
    case round =>
      obtain ⟨j, s, L, hj, rfl, hb2, hcr, hlm⟩ := hrel
      have HC2 := Lib.hid hb2; have HCR := Lib.hid hcr; have HLM := Lib.hid hlm
      obtain ⟨As, cs, rfl⟩ := own_shape hcr.own
      have HLJ : Hid (L.length = j) := by
        show _ = _
        have := congrArg List.length hlm
        simp at this; omega
      have HEr : Hid (Ext w wr) := HE.out.trans (hcr.only.below HE.out.size (fun k e => by omega))
      have HC1 : Hid (wr.heap[w.heap.size]? = _) := (hcr.only.block _ (by have := HN.out; omega) (by omega)).trans HB1.out
      have HCZ : Hid (wr.heap[w.heap.size + 1]? = _) := (hcr.only.block _ (by have := HN.out; omega) (by omega)).trans HBZ.out
      clear hb2 hcr hlm
      by_cases hlt : j < t.args.length
      · obtain ⟨b, o, xa, xc, rfl, hbl, yc, yt⟩ := HT.out.arg hlt
        have yc := yc.below HEr.out
        have k0 := yc.c0
        have k1 := yc.c1
        have k2 := yc.c2
        have k3 := yc.c3
        have k4 := yc.c4
        have k5 := yc.c5
        obtain ⟨-, ⟨Ax, cx, rfl, -, -⟩, ⟨Bx, dx, rfl, -, -⟩⟩ := yt.form
        have HK := Lib.hid (yt.below HEr.out)
        have HUX : Hid (uT t.args[j] ≤ 50000000) := by
          show _ ≤ _
          have := HU.out
          have := uT_ch (t := t) (x := t.args[j]) (List.mem_append_left _ (List.getElem_mem hlt))
          omega
        have HTK : Hid (t.args.take (j + 1) = t.args.take j ++ [t.args[j]]) := List.take_succ_eq_append_getElem hlt
        generalize t.args[j] = x at *
        clear yt yc hbl
        have hE5 := Ext.al wr (.cells #[.int .i64 x.op, .int .i64 x.n, .string x.nm, .int .i64 x.ty, .slice Ax x.args.length cx, .slice Bx x.cls.length dx] 50)
        have hN5 := heapNew wr (.cells #[.int .i64 x.op, .int .i64 x.n, .string x.nm, .int .i64 x.ty, .slice Ax x.args.length cx, .slice Bx x.cls.length dx] 50)
        have HE5 := Lib.hid hE5; have HN5 := Lib.hid hN5
        clear hE5 hN5
        go_wp2
        clear k0 k1 k2 k3 k4 k5
        generalize World.alloc wr _ = w5 at *
        have HD2 := Lib.hid ((HE5.out.block _ (heap_lt HC2.out)).trans HC2.out)
        have HS5 : Hid (wr.heap.size < w5.heap.size) := heap_lt HN5.out
        refine wp_region_invC hmx (by kernel_rfl) (fun Ls a W => ∃ vv : Nat → Value, a = { tmps := #[tV t (.slice (some ⟨b, o, none⟩) t.args.length ca) (.slice Bb t.cls.length cb), .pointer (some ⟨w.heap.size, 0, none⟩), .pointer (some ⟨w.heap.size + 1, 0, none⟩), .pointer (some ⟨w.heap.size + 1 + 1, 0, none⟩), undef, .pointer (some ⟨wr.heap.size, 0, none⟩), undef, undef,
            .agg #[.int .i64 t.op, .int .i64 t.n, .string t.nm, .int .i64 t.ty, .slice (some ⟨b, o, none⟩) t.args.length ca, .slice Bb t.cls.length cb], .pointer (some ⟨w.heap.size + 1 + 1, 4, none⟩), .pointer (some ⟨w.heap.size + 1 + 1, 5, none⟩), .pointer (some ⟨w.heap.size, 4, none⟩), .slice (some ⟨b, o, none⟩) t.args.length ca, .int .i64 t.args.length, .int .i64 j, .bool true, .pointer (some ⟨b, o + j * 6, none⟩),
            .agg #[.int .i64 x.op, .int .i64 x.n, .string x.nm, .int .i64 x.ty, .slice Ax x.args.length cx, .slice Bx x.cls.length dx], vv 0, vv 1, vv 2, vv 3, vv 4, vv 5, vv 6, u25, undef, undef, undef, undef, undef, undef, undef, undef, undef, undef, undef, undef, undef, undef, undef, undef, undef, undef, undef, undef, undef], defers := [] } ∧
          (PhA w5 (FA (w.heap.size + 1 + 1) (.slice As L.length cs) (tV x (.slice Ax x.args.length cx) (.slice Bx x.cls.length dx)) x w5.heap.size k) 5 Ls W vv ∨
            PhB (fun W v => W.heap[w.heap.size + 1 + 1]? = some (.cells #[.int .i64 t.op, .int .i64 t.n, .string t.nm, .int .i64 t.ty, .slice As L.length cs, .slice none 0 0] 50 (0, 0)) ∧ ∃ L', CRow cellsT 50 6 (OkT k) w1 W (w.heap.size + 1 + 1) v L' ∧ L'.map (·.1) = t.args.take (j + 1)) 5 (.pointer (some ⟨w.heap.size + 1 + 1, 4, none⟩)) Ls W vv ∨
            ((∀ i, i < 8 → Ls i = true) ∧ ∃ s' L', W.heap[w.heap.size + 1 + 1]? = some (.cells #[.int .i64 t.op, .int .i64 t.n, .string t.nm, .int .i64 t.ty, s', .slice none 0 0] 50 (0, 0)) ∧ CRow cellsT 50 6 (OkT k) w1 W (w.heap.size + 1 + 1) s' L' ∧ L'.map (·.1) = t.args.take (j + 1)))) ?_ ?_ ?_
        · refine ⟨fun i => if i = 0 then u18 else if i = 1 then u19 else if i = 2 then u20 else if i = 3 then u21 else if i = 4 then u22 else if i = 5 then u23 else u24, rfl, .inl (PhA.zero _ _ _ _)⟩
        · intro Ls a W i op ho hpre hl hc hI Kk HKk
          have hi : i < 8 := (Array.getElem?_eq_some_iff.1 ho).1
          obtain ⟨vv, rfl, hI | hI | hI⟩ := hI
          · have HPA := Lib.hid hI
            have HL5 := Lib.hid hI.not
            have hcs : i = 0 ∨ i = 1 ∨ i = 2 ∨ i = 3 ∨ i = 4 ∨ i = 5 ∨ i = 6 ∨ i = 7 := by omega
            rcases hcs with rfl | rfl | rfl | rfl | rfl | rfl | rfl | rfl
            all_goals
              obtain rfl := Option.some.inj ho
              clear ho hi hI
            · clear hpre
              go_simp
              exact HKk.out _ _ ⟨_, rfl, .inl (HPA.out.put FA.ext (by decide) (Ext.rf _) rfl)⟩
            · simp [Region.binds] at hpre
              have e0 : vv 0 = _ := HPA.out.facts 0 (by decide) (by simp [hpre])
              have c4 := HPA.out.ext.keep (cellAt HD2.out 4)
              go_simp
              exact HKk.out _ _ ⟨_, by simp [e0], .inl (HPA.out.put FA.ext (by decide) (Ext.rf _) rfl)⟩
            · clear hpre
              have c0 := HPA.out.ext.keep (cellAt HN5.out 0)
              have c1 := HPA.out.ext.keep (cellAt HN5.out 1)
              have c2 := HPA.out.ext.keep (cellAt HN5.out 2)
              have c3 := HPA.out.ext.keep (cellAt HN5.out 3)
              have c4 := HPA.out.ext.keep (cellAt HN5.out 4)
              have c5 := HPA.out.ext.keep (cellAt HN5.out 5)
              go_simp
              exact HKk.out _ _ ⟨_, rfl, .inl (HPA.out.put FA.ext (by decide) (Ext.rf _) rfl)⟩
            · simp [Region.binds] at hpre
              have e2 : vv 2 = _ := HPA.out.facts 2 (by decide) (by simp [hpre])
              go_simp
              (refine (HIH.out x _ _ W (HK.out.below (HE5.out.tr HPA.out.ext)) HUX.out).mono ?_)
              rintro e W' ⟨⟨ya, yc, rfl, hr⟩, hb⟩
              exact HKk.out _ _ ⟨_, by simp [e2], .inl (HPA.out.put FA.ext (by decide) hb ⟨ya, yc, rfl, RT.sub (mask_base HPA.out.ext.size) hr⟩)⟩
            · simp [Region.binds] at hpre
              obtain ⟨ya, yc, e3, hr⟩ := HPA.out.facts 3 (by decide) (by simp [hpre])
              obtain ⟨-, ⟨Ay, cy, rfl, -, -⟩, ⟨By, dy, rfl, -, -⟩⟩ := hr.form
              go_simp
              exact HKk.out _ _ ⟨_, by simp [e3], .inl (HPA.out.put FA.ext (by decide) (Ext.al _ _) ⟨_, _, _, rfl, heapNew _ _, RT.sub (mask_ext (Ext.al _ _)) hr⟩)⟩
            · have h67 : Ls 6 = false ∧ Ls 7 = false := by
                constructor
                · cases h6 : Ls 6
                  · rfl
                  · have := hc 6 _ rfl h6 ⟨5, .phase⟩ (by simp) rfl
                    rw [HL5.out] at this; cases this
                · cases h7 : Ls 7
                  · rfl
                  · have := hc 7 _ rfl h7 ⟨5, .data⟩ (by simp) rfl
                    rw [HL5.out] at this; cases this
              simp [Region.binds] at hpre
              have e1 : vv 1 = _ := HPA.out.facts 1 (by decide) (by simp [hpre])
              obtain ⟨ya, yc, g, e4, hg4, hr⟩ := HPA.out.facts 4 (by decide) (by simp [hpre])
              have hcr := HCR.out.ext okT_sub (HE5.out.tr HPA.out.ext)
              have HH := Lib.hid (HPA.out.ext)
              split
              · refine app_row (t := 47) (e := 50) (size := 6) (bytes := 88) Tryz.u40 Tryz.info43 (by decide) (by decide) (.tmp 19) (.tmp 22) rfl w1.heap.size (.slice As L.length cs) L.length (cellsT L) e1 hcr.own (some ⟨g, 0, none⟩) 1 1 (cellsT [(x, ya, yc)]) e4 (SrcN.one (x := (x, ya, yc)) hg4) (cellsT_one (k := k) (w := mask w5.heap.size none W) [(x, ya, yc)] (fun y hy => by rw [List.mem_singleton.1 hy]; exact hr)) (by have := HLJ.out; have := HLEN.out; have := HU.out; unfold maxLen; omega) (by have := HLJ.out; have := HLEN.out; have := HU.out; omega) (Nat.le_trans hcr.only.size (Nat.le_refl _)) (fun v' W' ho hg hat => ?_)
                rw [← cellsT_append] at ho
                have hbl : ∀ q, (Value.slice As L.length cs).ownBlock = some q → q < wr.heap.size := HCR.out.lt
                refine HKk.out _ _ ⟨_, rfl, .inr (.inl (PhB.first h67.2 h67.1 ⟨?_, L ++ [(x, ya, yc)], hcr.app okT_sub (B := w5.heap.size) (Nat.le_trans HCR.out.only.size HE5.out.size) (fun q hq => by have := hbl q hq; have := HS5.out; omega) hr hg hat (by rw [List.length_append]; exact ho), ?_⟩))⟩
                · refine (hg.block _ (by have := HH.out.size; have := heap_lt HD2.out; omega) (fun e => ?_)).trans ((HH.out.block _ (heap_lt HD2.out)).trans HD2.out)
                  have := (hcr.own.lt _ e.symm).1
                  have := HN.out
                  omega
                · rw [List.map_append, HLM.out, HTK.out]; rfl
              · rename_i hw
                exact absurd (by rfl) hw
            · exfalso
              have := hpre ⟨5, .phase⟩ (by simp) rfl
              rw [HL5.out] at this; cases this
            · exfalso
              have := hpre ⟨5, .data⟩ (by simp) rfl
              rw [HL5.out] at this; cases this
          · have HPB := Lib.hid hI
            have hall : ∀ i, i < 6 → Ls i = true := by
              have h5 := hI.app
              have h1 := hc 5 _ rfl h5 ⟨1, .data⟩ (by simp) rfl
              have h4 := hc 5 _ rfl h5 ⟨4, .data⟩ (by simp) rfl
              have h3 := hc 5 _ rfl h5 ⟨3, .chain⟩ (by simp) rfl
              have h2 := hc 3 _ rfl h3 ⟨2, .data⟩ (by simp) rfl
              have h0 := hc 1 _ rfl h1 ⟨0, .data⟩ (by simp) rfl
              intro i hi
              rcases (show i = 0 ∨ i = 1 ∨ i = 2 ∨ i = 3 ∨ i = 4 ∨ i = 5 by omega) with rfl | rfl | rfl | rfl | rfl | rfl <;> assumption
            have hcs : i < 6 ∨ i = 6 ∨ i = 7 := by omega
            rcases hcs with hi6 | rfl | rfl
            · rw [hall i hi6] at hl; cases hl
            · obtain rfl := Option.some.inj ho
              clear ho hi hI hpre
              go_simp
              exact HKk.out _ _ ⟨_, rfl, .inr (.inl HPB.out.next)⟩
            · obtain rfl := Option.some.inj ho
              have h6 := hpre ⟨6, .data⟩ (by simp) rfl
              have e6 := hI.ptr h6
              obtain ⟨hbx, L', hcr, hlm⟩ := hI.done
              obtain ⟨A', c', e5⟩ := own_shape hcr.own
              have c4 := cellAt hbx 4
              have hfz := frozenAt hbx 4
              clear ho hi hI hpre
              go_simp
              refine HKk.out _ _ ⟨vv, by simp [e5, e6], .inr (.inr ⟨fun i hi => ?_, vv 5, L', ?_, ?_, hlm⟩)⟩
              · show (decide (i = 7) || Ls i) = true
                rcases (show i < 6 ∨ i = 6 ∨ i = 7 by omega) with h | rfl | rfl
                · rw [hall i h, Bool.or_true]
                · rw [h6, Bool.or_true]
                · rfl
              · rw [e5]; exact box6_set4 hbx _
              · exact hcr.set okT_sub (by have := HN.out; omega) _ _
          · exfalso
            rw [hI.1 i hi] at hl; cases hl
        · intro Ls a W hall hI
          obtain ⟨vv, rfl, hI | hI | ⟨-, s', L', hbx, hcr, hlm⟩⟩ := hI
          · have := hall 5 (by decide); rw [hI.not] at this; cases this
          · have := hall 7 (by decide); rw [hI.not] at this; cases this
          · go_wp2
            exact ⟨⟨j + 1, s', L', by omega, by go_num, hbx, hcr, hlm⟩, by simp [intOf]; omega⟩
      · have hje : j = t.args.length := by omega
        have HARG : Hid (RTms (mask w1.heap.size none wr) k (.slice As L.length cs) t.args) := by
          have h := own_RTms (HCR.out.all okT_sub).1 (HCR.out.all okT_sub).2
          rw [HLM.out, hje, List.take_length] at h
          exact h
        have HNr : Hid (w.heap.size + 1 + 1 < wr.heap.size) := heap_lt HC2.out
        have x5 := cellAt HC1.out 5
        go_wp2
        clear x5 HLJ hje hlt HLM
        generalize wr = wl at *
        go_loopw [29] (fun i wr => ∃ (j : Nat) (s2 : Value) (M : List Trc), j ≤ t.cls.length ∧ i = .int .i64 j ∧ wr.heap[w.heap.size + 1 + 1]? = some (.cells #[.int .i64 t.op, .int .i64 t.n, .string t.nm, .int .i64 t.ty, .slice As L.length cs, s2] 50 (0, 0)) ∧ CRow cellsC 123 7 (OkC' k) wl wr (w.heap.size + 1 + 1) s2 M ∧ M.map (·.1) = t.cls.take j) (fun i _ => t.cls.length - (intOf i).toNat)
        case atStart => exact ⟨0, .slice none 0 0, [], Nat.zero_le _, rfl, HC2.out, CRow.nil rfl _ _ _ (Only.rf _ _), by simp⟩
        case round =>
          obtain ⟨j2, s2, M, hj2, rfl, hb2, hcr, hlm⟩ := hrel
          have HD2 := Lib.hid hb2; have HDR := Lib.hid hcr; have HMM := Lib.hid hlm
          obtain ⟨Ms, ds, rfl⟩ := own_shape hcr.own
          have HMJ : Hid (M.length = j2) := by
            show _ = _
            have := congrArg List.length hlm
            simp at this; omega
          have HEq : Hid (Ext w wr) := HEr.out.trans (hcr.only.below HEr.out.size (fun k e => by omega))
          have HD1 : Hid (wr.heap[w.heap.size]? = _) := (hcr.only.block _ (by have := HNr.out; omega) (by omega)).trans HC1.out
          have HDZ : Hid (wr.heap[w.heap.size + 1]? = _) := (hcr.only.block _ (by have := HNr.out; omega) (by omega)).trans HCZ.out
          clear hb2 hcr hlm
          by_cases hlt : j2 < t.cls.length
          · obtain ⟨b, o, vn, xa, xc, rfl, hbl, yn, ys, yc, yt⟩ := HT.out.clause hlt
            have yn := HEq.out.keep yn
            have yc := yc.below HEq.out
            have k0 := yc.c0
            have k1 := yc.c1
            have k2 := yc.c2
            have k3 := yc.c3
            have k4 := yc.c4
            have k5 := yc.c5
            obtain ⟨-, ⟨Ax, cx, rfl, -, -⟩, ⟨Bx, dx, rfl, -, -⟩⟩ := yt.form
            obtain ⟨An, cn, rfl, -, -⟩ := ys.form
            have HK := Lib.hid (yt.below HEq.out)
            have HNS := Lib.hid (ys.below HEq.out)
            have HUX : Hid (uT (t.cls[j2]).2 ≤ 50000000) := by
              show _ ≤ _
              have := HU.out
              have := uT_ch (t := t) (x := (t.cls[j2]).2) (List.mem_append_right _ (List.mem_map_of_mem (List.getElem_mem hlt)))
              omega
            have HUN : Hid ((t.cls[j2]).1.length ≤ 50000000) := Nat.le_trans (uT_names (List.getElem_mem hlt)) HU.out
            have HTK : Hid (t.cls.take (j2 + 1) = t.cls.take j2 ++ [t.cls[j2]]) := List.take_succ_eq_append_getElem hlt
            generalize t.cls[j2] = cl at *
            obtain ⟨ns, x⟩ := cl
            dsimp only at *
            clear yt yc ys hbl
            have hE5 := Ext.al wr (.cells #[.slice An ns.length cn, .int .i64 x.op, .int .i64 x.n, .string x.nm, .int .i64 x.ty, .slice Ax x.args.length cx, .slice Bx x.cls.length dx] 123)
            have hN5 := heapNew wr (.cells #[.slice An ns.length cn, .int .i64 x.op, .int .i64 x.n, .string x.nm, .int .i64 x.ty, .slice Ax x.args.length cx, .slice Bx x.cls.length dx] 123)
            have HE5 := Lib.hid hE5; have HN5 := Lib.hid hN5
            clear hE5 hN5
            go_wp2
            clear k0 k1 k2 k3 k4 k5 yn
            generalize World.alloc wr _ = w5 at *
            have HF2 := Lib.hid ((HE5.out.block _ (heap_lt HD2.out)).trans HD2.out)
            have HS5 : Hid (wr.heap.size < w5.heap.size) := heap_lt HN5.out
            refine wp_region_invC hmx (by kernel_rfl) (fun Ls a W => ∃ vv : Nat → Value, a = { tmps := #[tV t (.slice Aa t.args.length ca) (.slice (some ⟨b, o, none⟩) t.cls.length cb), .pointer (some ⟨w.heap.size, 0, none⟩), .pointer (some ⟨w.heap.size + 1, 0, none⟩), .pointer (some ⟨w.heap.size + 1 + 1, 0, none⟩), undef, u5, undef, .pointer (some ⟨wr.heap.size, 0, none⟩),
                .agg #[.int .i64 t.op, .int .i64 t.n, .string t.nm, .int .i64 t.ty, .slice Aa t.args.length ca, .slice (some ⟨b, o, none⟩) t.cls.length cb], .pointer (some ⟨w.heap.size + 1 + 1, 4, none⟩), .pointer (some ⟨w.heap.size + 1 + 1, 5, none⟩), .pointer (some ⟨w.heap.size, 4, none⟩), .slice Aa t.args.length ca, .int .i64 t.args.length, .int .i64 j, .bool false, u16, u17, u18, u19, u20, u21, u22, u23, u24, u25,
                .pointer (some ⟨w.heap.size, 5, none⟩), .slice (some ⟨b, o, none⟩) t.cls.length cb, .int .i64 t.cls.length, .int .i64 j2, .bool true, .pointer (some ⟨b, o + j2 * 7, none⟩),
                .agg #[.slice An ns.length cn, .int .i64 x.op, .int .i64 x.n, .string x.nm, .int .i64 x.ty, .slice Ax x.args.length cx, .slice Bx x.cls.length dx], vv 0, vv 1, vv 2, vv 3, vv 4, vv 5, vv 6, vv 7, vv 8, vv 9, vv 10, vv 11, u45, undef], defers := [] } ∧
              (PhA w5 (FC (w.heap.size + 1 + 1) wr.heap.size (.slice Ms M.length ds) (.slice An ns.length cn) (tV x (.slice Ax x.args.length cx) (.slice Bx x.cls.length dx)) ns x w5.heap.size k) 10 Ls W vv ∨
                PhB (fun W v => W.heap[w.heap.size + 1 + 1]? = some (.cells #[.int .i64 t.op, .int .i64 t.n, .string t.nm, .int .i64 t.ty, .slice As L.length cs, .slice Ms M.length ds] 50 (0, 0)) ∧ ∃ L', CRow cellsC 123 7 (OkC' k) wl W (w.heap.size + 1 + 1) v L' ∧ L'.map (·.1) = t.cls.take (j2 + 1)) 10 (.pointer (some ⟨w.heap.size + 1 + 1, 5, none⟩)) Ls W vv ∨
                ((∀ i, i < 13 → Ls i = true) ∧ ∃ s' L', W.heap[w.heap.size + 1 + 1]? = some (.cells #[.int .i64 t.op, .int .i64 t.n, .string t.nm, .int .i64 t.ty, .slice As L.length cs, s'] 50 (0, 0)) ∧ CRow cellsC 123 7 (OkC' k) wl W (w.heap.size + 1 + 1) s' L' ∧ L'.map (·.1) = t.cls.take (j2 + 1)))) ?_ ?_ ?_
            · refine ⟨fun i => if i = 0 then u33 else if i = 1 then u34 else if i = 2 then u35 else if i = 3 then u36 else if i = 4 then u37 else if i = 5 then u38 else if i = 6 then u39 else if i = 7 then u40 else if i = 8 then u41 else if i = 9 then u42 else if i = 10 then u43 else u44, rfl, .inl (PhA.zero _ _ _ _)⟩
            · intro Ls a W i op ho hpre hl hc hI Kk HKk
              have hi : i < 13 := (Array.getElem?_eq_some_iff.1 ho).1
              obtain ⟨vv, rfl, hI | hI | hI⟩ := hI
              · have HPA := Lib.hid hI
                have HL5 := Lib.hid hI.not
                have hcs : i = 0 ∨ i = 1 ∨ i = 2 ∨ i = 3 ∨ i = 4 ∨ i = 5 ∨ i = 6 ∨ i = 7 ∨ i = 8 ∨ i = 9 ∨ i = 10 ∨ i = 11 ∨ i = 12 := by omega
                rcases hcs with rfl | rfl | rfl | rfl | rfl | rfl | rfl | rfl | rfl | rfl | rfl | rfl | rfl
                all_goals
                  obtain rfl := Option.some.inj ho
                  clear ho hi hI
                · clear hpre
                  go_simp
                  exact HKk.out _ _ ⟨_, rfl, .inl (HPA.out.put FC.ext (by decide) (Ext.rf _) rfl)⟩
                · simp [Region.binds] at hpre
                  have e0 : vv 0 = _ := HPA.out.facts 0 (by decide) (by simp [hpre])
                  have c5 := HPA.out.ext.keep (cellAt HF2.out 5)
                  go_simp
                  exact HKk.out _ _ ⟨_, by simp [e0], .inl (HPA.out.put FC.ext (by decide) (Ext.rf _) rfl)⟩
                · clear hpre
                  go_simp
                  exact HKk.out _ _ ⟨_, rfl, .inl (HPA.out.put FC.ext (by decide) (Ext.rf _) rfl)⟩
                · simp [Region.binds] at hpre
                  have e2 : vv 2 = _ := HPA.out.facts 2 (by decide) (by simp [hpre])
                  have c0 := HPA.out.ext.keep (cellAt HN5.out 0)
                  go_simp
                  exact HKk.out _ _ ⟨_, by simp [e2], .inl (HPA.out.put FC.ext (by decide) (Ext.rf _) rfl)⟩
                · simp [Region.binds] at hpre
                  have e3 : vv 3 = _ := HPA.out.facts 3 (by decide) (by simp [hpre])
                  have HH := Lib.hid (HPA.out.ext)
                  have hns := HNS.out.below (HE5.out.tr HH.out)
                  split
                  · refine app_row (t := 67) (e := 9) (size := 1) (bytes := 16) Tryz.underlying67 Tryz.info9 rfl (by decide) (.const (.slice none 0 0)) (.tmp 36) rfl w5.heap.size (.slice none 0 0) 0 [] rfl ⟨by simp, .inl ⟨rfl, rfl⟩⟩ An ns.length cn (ns.map Value.string) e3 hns.src (strs_one ns) (by have := HUN.out; unfold maxLen; omega) (by have := HUN.out; omega) HH.out.size (fun v' W' ho hg hat => ?_)
                    have hX : Ext W W' := ⟨hg.os, hg.tape, hg.output, hg.size, fun k hk => hg.block k hk (by simp [Value.ownBlock])⟩
                    have hrs : RStrs (mask w5.heap.size none W') v' ns := own_strs (by have h1 := row_mask ho; rw [Nat.zero_add, List.nil_append] at h1; exact h1) (fun s hs => by
                      obtain ⟨A, c, -, -, -, h3⟩ := hns
                      obtain ⟨i, hi⟩ := List.mem_iff_getElem?.1 hs
                      obtain ⟨_, _, _, _, _, h4⟩ := h3 i s hi
                      exact h4)
                    exact HKk.out _ _ ⟨_, rfl, .inl (HPA.out.put FC.ext (by decide) hX hrs)⟩
                  · rename_i hw
                    exact absurd (by rfl) hw
                · clear hpre
                  go_simp
                  exact HKk.out _ _ ⟨_, rfl, .inl (HPA.out.put FC.ext (by decide) (Ext.rf _) rfl)⟩
                · simp [Region.binds] at hpre
                  have e5 : vv 5 = _ := HPA.out.facts 5 (by decide) (by simp [hpre])
                  have c1 := HPA.out.ext.keep (cellAt HN5.out 1)
                  have c2 := HPA.out.ext.keep (cellAt HN5.out 2)
                  have c3 := HPA.out.ext.keep (cellAt HN5.out 3)
                  have c4 := HPA.out.ext.keep (cellAt HN5.out 4)
                  have c5 := HPA.out.ext.keep (cellAt HN5.out 5)
                  have c6 := HPA.out.ext.keep (cellAt HN5.out 6)
                  go_simp
                  exact HKk.out _ _ ⟨_, by simp [e5], .inl (HPA.out.put FC.ext (by decide) (Ext.rf _) rfl)⟩
                · simp [Region.binds] at hpre
                  have e6 : vv 6 = _ := HPA.out.facts 6 (by decide) (by simp [hpre])
                  go_simp
                  (refine (HIH.out x _ _ W (HK.out.below (HE5.out.tr HPA.out.ext)) HUX.out).mono ?_)
                  rintro e W' ⟨⟨ya, yc, rfl, hr⟩, hb⟩
                  exact HKk.out _ _ ⟨_, by simp [e6], .inl (HPA.out.put FC.ext (by decide) hb ⟨ya, yc, rfl, RT.sub (mask_base HPA.out.ext.size) hr⟩)⟩
                · simp [Region.binds] at hpre
                  obtain ⟨ya, yc, e7, hr⟩ := HPA.out.facts 7 (by decide) (by simp [hpre])
                  have h4 : RStrs _ _ _ := HPA.out.facts 4 (by decide) (by simp [hpre])
                  obtain ⟨An', cn', e4, -, -⟩ := h4.form
                  obtain ⟨-, ⟨Ay, cy, rfl, -, -⟩, ⟨By, dy, rfl, -, -⟩⟩ := hr.form
                  rw [e4] at h4
                  go_simp
                  exact HKk.out _ _ ⟨_, by simp [e4, e7], .inl (HPA.out.put FC.ext (by decide) (Ext.rf _) ⟨_, _, _, rfl, h4, hr⟩)⟩
                · simp [Region.binds] at hpre
                  obtain ⟨vn', ya, yc, e8, hr⟩ := HPA.out.facts 8 (by decide) (by simp [hpre])
                  have hr1 : RStrs _ vn' ns := hr.1
                  obtain ⟨An', cn', rfl, -, -⟩ := hr1.form
                  have hr2 : RT _ k x ya yc := hr.2
                  obtain ⟨-, ⟨Ay, cy, rfl, -, -⟩, ⟨By, dy, rfl, -, -⟩⟩ := hr2.form
                  go_simp
                  exact HKk.out _ _ ⟨_, by simp [e8], .inl (HPA.out.put FC.ext (by decide) (Ext.al _ _) ⟨_, _, _, _, rfl, heapNew _ _, hr.sub (mask_ext (Ext.al _ _))⟩)⟩
                · have h67 : Ls 11 = false ∧ Ls 12 = false := by
                    constructor
                    · cases h6 : Ls 11
                      · rfl
                      · have := hc 11 _ rfl h6 ⟨10, .phase⟩ (by simp) rfl
                        rw [HL5.out] at this; cases this
                    · cases h7 : Ls 12
                      · rfl
                      · have := hc 12 _ rfl h7 ⟨10, .data⟩ (by simp) rfl
                        rw [HL5.out] at this; cases this
                  simp [Region.binds] at hpre
                  have e1 : vv 1 = _ := HPA.out.facts 1 (by decide) (by simp [hpre])
                  obtain ⟨vn', ya, yc, g, e9, hg9, hr⟩ := HPA.out.facts 9 (by decide) (by simp [hpre])
                  have hcr := HDR.out.ext okC_sub (HE5.out.tr HPA.out.ext)
                  have HH := Lib.hid (HPA.out.ext)
                  split
                  · refine app_row (t := 48) (e := 123) (size := 7) (bytes := 112) Tryz.u41 Tryz.info87 (by decide) (by decide) (.tmp 34) (.tmp 42) rfl wl.heap.size (.slice Ms M.length ds) M.length (cellsC M) e1 hcr.own (some ⟨g, 0, none⟩) 1 1 (cellsC [((ns, x), vn', ya, yc)]) e9 (SrcN.oneC (x := ((ns, x), vn', ya, yc)) hg9) (cellsC_one (k := k) (w := mask w5.heap.size none W) [((ns, x), vn', ya, yc)] (fun y hy => by rw [List.mem_singleton.1 hy]; exact hr)) (by have := HMJ.out; have := HLEN.out; have := HU.out; unfold maxLen; omega) (by have := HMJ.out; have := HLEN.out; have := HU.out; omega) (Nat.le_trans hcr.only.size (Nat.le_refl _)) (fun v' W' ho hg hat => ?_)
                    rw [← cellsC_append] at ho
                    have hbl : ∀ q, (Value.slice Ms M.length ds).ownBlock = some q → q < wr.heap.size := HDR.out.lt
                    refine HKk.out _ _ ⟨_, rfl, .inr (.inl (PhB.first h67.2 h67.1 ⟨?_, M ++ [((ns, x), vn', ya, yc)], hcr.app okC_sub (B := w5.heap.size) (Nat.le_trans HDR.out.only.size HE5.out.size) (fun q hq => by have := hbl q hq; have := HS5.out; omega) hr hg hat (by rw [List.length_append]; exact ho), ?_⟩))⟩
                    · refine (hg.block _ (by have := HH.out.size; have := heap_lt HF2.out; omega) (fun e => ?_)).trans ((HH.out.block _ (heap_lt HF2.out)).trans HF2.out)
                      have := (hcr.own.lt _ e.symm).1
                      have := HNr.out
                      omega
                    · rw [List.map_append, HMM.out, HTK.out]; rfl
                  · rename_i hw
                    exact absurd (by rfl) hw
                · exfalso
                  have := hpre ⟨10, .phase⟩ (by simp) rfl
                  rw [HL5.out] at this; cases this
                · exfalso
                  have := hpre ⟨10, .data⟩ (by simp) rfl
                  rw [HL5.out] at this; cases this
              · have HPB := Lib.hid hI
                have hall : ∀ i, i < 11 → Ls i = true := by
                  have h10 := hI.app
                  have h1 := hc 10 _ rfl h10 ⟨1, .data⟩ (by simp) rfl
                  have h9 := hc 10 _ rfl h10 ⟨9, .data⟩ (by simp) rfl
                  have h8 := hc 9 _ rfl h9 ⟨8, .data⟩ (by simp) rfl
                  have h7 := hc 8 _ rfl h8 ⟨7, .data⟩ (by simp) rfl
                  have h4 := hc 8 _ rfl h8 ⟨4, .data⟩ (by simp) rfl
                  have h6 := hc 7 _ rfl h7 ⟨6, .data⟩ (by simp) rfl
                  have h5 := hc 6 _ rfl h6 ⟨5, .data⟩ (by simp) rfl
                  have h3 := hc 4 _ rfl h4 ⟨3, .data⟩ (by simp) rfl
                  have h2 := hc 3 _ rfl h3 ⟨2, .data⟩ (by simp) rfl
                  have h0 := hc 1 _ rfl h1 ⟨0, .data⟩ (by simp) rfl
                  intro i hi
                  rcases (show i = 0 ∨ i = 1 ∨ i = 2 ∨ i = 3 ∨ i = 4 ∨ i = 5 ∨ i = 6 ∨ i = 7 ∨ i = 8 ∨ i = 9 ∨ i = 10 by omega) with rfl | rfl | rfl | rfl | rfl | rfl | rfl | rfl | rfl | rfl | rfl <;> assumption
                have hcs : i < 11 ∨ i = 11 ∨ i = 12 := by omega
                rcases hcs with hi6 | rfl | rfl
                · rw [hall i hi6] at hl; cases hl
                · obtain rfl := Option.some.inj ho
                  clear ho hi hI hpre
                  go_simp
                  exact HKk.out _ _ ⟨_, rfl, .inr (.inl HPB.out.next)⟩
                · obtain rfl := Option.some.inj ho
                  have h6 := hpre ⟨11, .data⟩ (by simp) rfl
                  have e6 := hI.ptr h6
                  obtain ⟨hbx, L', hcr, hlm⟩ := hI.done
                  obtain ⟨A', c', e5⟩ := own_shape hcr.own
                  have c5 := cellAt hbx 5
                  have hfz := frozenAt hbx 5
                  clear ho hi hI hpre
                  go_simp
                  refine HKk.out _ _ ⟨vv, by simp [e5, e6], .inr (.inr ⟨fun i hi => ?_, vv 10, L', ?_, ?_, hlm⟩)⟩
                  · show (decide (i = 12) || Ls i) = true
                    rcases (show i < 11 ∨ i = 11 ∨ i = 12 by omega) with h | rfl | rfl
                    · rw [hall i h, Bool.or_true]
                    · rw [h6, Bool.or_true]
                    · rfl
                  · rw [e5]; exact box6_set5 hbx _
                  · exact hcr.set okC_sub (by have := HNr.out; omega) _ _
              · exfalso
                rw [hI.1 i hi] at hl; cases hl
            · intro Ls a W hall hI
              obtain ⟨vv, rfl, hI | hI | ⟨-, s', L', hbx, hcr, hlm⟩⟩ := hI
              · have := hall 10 (by decide); rw [hI.not] at this; cases this
              · have := hall 12 (by decide); rw [hI.not] at this; cases this
              · go_wp2
                exact ⟨⟨j2 + 1, s', L', by omega, by go_num, hbx, hcr, hlm⟩, by simp [intOf]; omega⟩
          · have hje : j2 = t.cls.length := by omega
            have HCLS : Hid (RCls (mask wl.heap.size none wr) k (.slice Ms M.length ds) t.cls) := by
              have h := own_RCls (HDR.out.all okC_sub).1 (HDR.out.all okC_sub).2
              rw [HMM.out, hje, List.take_length] at h
              exact h
            obtain ⟨z0, z1, z2, z3, z4, z5⟩ := cells6 HD2.out
            obtain ⟨q0, q1, q2, q3, q4, q5⟩ := cells6 HDZ.out
            have f0 := frozenAt HDZ.out 0
            have f1 := frozenAt HDZ.out 1
            have f2 := frozenAt HDZ.out 2
            have f3 := frozenAt HDZ.out 3
            have f4 := frozenAt HDZ.out 4
            have f5 := frozenAt HDZ.out 5
            go_wp2
            have HZZ := Lib.hid (box6_set HDZ.out (.int .i64 t.op) (.int .i64 t.n) (.string t.nm) (.int .i64 t.ty) (.slice As L.length cs) (.slice Ms M.length ds))
            have HOZ := Lib.hid (only6_set wr (w.heap.size + 1) (.int .i64 t.op) (.int .i64 t.n) (.string t.nm) (.int .i64 t.ty) (.slice As L.length cs) (.slice Ms M.length ds))
            clear z0 z1 z2 z3 z4 z5 q0 q1 q2 q3 q4 q5 f0 f1 f2 f3 f4 f5
            generalize World.setCell (World.setCell (World.setCell (World.setCell (World.setCell (World.setCell wr _ _) _ _) _ _) _ _) _ _) _ _ = wz at *
            obtain ⟨q0, q1, q2, q3, q4, q5⟩ := cells6 HZZ.out
            unfold bodyPost
            simp [results, go_sem, q0, q1, q2, q3, q4, q5]
            refine ⟨⟨_, _, ⟨rfl, rfl⟩, RT.make HSZ.out (RTms.sub HARG.out (Sub.masks ?_ fun i hi h1 _ => ⟨⟨?_, by simp⟩, ?_⟩)) (RCls.sub HCLS.out (Sub.masks HOZ.out.size fun i hi h1 _ => ⟨⟨?_, by simp⟩, ?_⟩))⟩, HEq.out.trans (HOZ.out.below HEq.out.size (fun i e => by omega))⟩
            · exact Nat.le_trans HDR.out.only.size HOZ.out.size
            · have := HN.out; omega
            · exact (HOZ.out.block _ (Nat.lt_of_lt_of_le hi HDR.out.only.size) (by have := HN.out; omega)).trans (HDR.out.only.block _ hi (by have := HN.out; omega))
            · have := HNr.out; omega
            · exact HOZ.out.block _ hi (by have := HNr.out; omega)
end Go.Proofs.YtkdglplfcpindaaGreatDoor
