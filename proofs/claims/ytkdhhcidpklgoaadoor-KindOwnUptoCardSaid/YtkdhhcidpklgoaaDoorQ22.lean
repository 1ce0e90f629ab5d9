/- ref06: Copy of nodes. -/
import Derived.Test.YtkdhhcidpklgoaaDoorQ21
namespace Go.Proofs.YtkdhhcidpklgoaaDoor
open Go.RowKit

/-! ### the lists of sorts -/
mutual
def coN : Nd → Nat
  | .mk _ _ _ args brs => coA args + coB brs
def coA : List Nd → Nat
  | [] => 0
  | a :: r => coN a + coA r
def coB : List Br → Nat
  | [] => 0
  | (_, c, t) :: r => c.length + coN t + coB r
end
theorem coN_eq (t : Nd) : coN t = coA t.args + coB t.brs := by cases t; rw [coN]; rfl
theorem coA_mem : ∀ {l : List Nd} {x : Nd}, x ∈ l → coN x ≤ coA l
  | a :: r, x, h => by
    rcases List.mem_cons.1 h with rfl | h
    · simp only [coA]; omega
    · have := coA_mem h; simp only [coA]; omega
theorem coB_mem : ∀ {l : List Br} {x : Br}, x ∈ l → x.2.1.length + coN x.2.2 ≤ coB l
  | (v, c, a) :: r, x, h => by
    rcases List.mem_cons.1 h with rfl | h
    · simp only [coB]; omega
    · have := coB_mem h; simp only [coB]; omega
/-- All the lists of a node are short. -/
structure BC (t : Nd) : Prop where
  bn : BN t
  co : coN t ≤ 1048576
theorem BC.arg {t x : Nd} (h : BC t) (hx : x ∈ t.args) : BC x := ⟨h.bn.arg hx, by have h1 := h.co; rw [coN_eq] at h1; have := coA_mem hx; omega⟩
theorem BC.br {t : Nd} {x : Br} (h : BC t) (hx : x ∈ t.brs) : BC x.2.2 := ⟨h.bn.br hx, by have h1 := h.co; rw [coN_eq] at h1; have := coB_mem hx; omega⟩
theorem BC.len {t : Nd} {x : Br} (h : BC t) (hx : x ∈ t.brs) : x.2.1.length ≤ 1048576 := by have h1 := h.co; rw [coN_eq] at h1; have := coB_mem hx; omega
def OkT (k : Nat) (w : World) (x : Rwn) : Prop := RNd w k x.1 x.2.1 x.2.2
theorem okT_sub {k : Nat} (w w' : World) (x : Rwn) (h : OkT k w x) (hb : Sub w w') : OkT k w' x := RNd.sub hb h
def OkB' (k : Nat) (w : World) (x : Rwb) : Prop := OkB w k x
theorem okB_sub {k : Nat} (w w' : World) (x : Rwb) (h : OkB' k w x) (hb : Sub w w') : OkB' k w' x := OkB.sub h hb

/-! ### what the operations ahead of the append yield -/
def FA (n2 : Nat) (s ux : Value) (x : Nd) (B k : Nat) (W : World) : Nat → Value → Prop
  | 0, v => v = .pointer (some ⟨n2, 3, none⟩)
  | 1, v => v = s
  | 2, v => v = ux
  | 3, v => ∃ ya yc, v = nV x ya yc ∧ RNd (mask B none W) k x ya yc
  | 4, v => ∃ ya yc g, v = .slice (some ⟨g, 0, none⟩) 1 1 ∧ W.heap[g]? = some (.cells #[.int .i64 x.op, .int .i64 x.n, .int .i64 x.ty, ya, yc] 31 (0, 0)) ∧ RNd (mask B none W) k x ya yc
  | _, _ => True
theorem FA.ext {n2 : Nat} {s ux : Value} {x : Nd} {B k : Nat} (W W' : World) (j : Nat) (v : Value) (h : FA n2 s ux x B k W j v) (hb : Ext W W') : FA n2 s ux x B k W' j v := by
  match j, h with
  | 0, h => exact h
  | 1, h => exact h
  | 2, h => exact h
  | 3, ⟨ya, yc, h1, h2⟩ => exact ⟨ya, yc, h1, RNd.sub (mask_ext hb) h2⟩
  | 4, ⟨ya, yc, g, h1, h2, h3⟩ => exact ⟨ya, yc, g, h1, (hb.block _ (heap_lt h2)).trans h2, RNd.sub (mask_ext hb) h3⟩
  | _ + 5, _ => exact trivial
def FC (n2 n7 : Nat) (s un uc ux : Value) (ns : List Int) (qs : List Bool) (x : Nd) (B k : Nat) (W : World) : Nat → Value → Prop
  | 0, v => v = .pointer (some ⟨n2, 4, none⟩)
  | 1, v => v = s
  | 2, v => v = .pointer (some ⟨n7, 0, none⟩)
  | 3, v => v = un
  | 4, v => RInts (mask B none W) v ns
  | 5, v => v = .pointer (some ⟨n7, 1, none⟩)
  | 6, v => v = uc
  | 7, v => RBools (mask B none W) v qs
  | 8, v => v = .pointer (some ⟨n7, 2, none⟩)
  | 9, v => v = ux
  | 10, v => ∃ ya yc, v = nV x ya yc ∧ RNd (mask B none W) k x ya yc
  | 11, v => ∃ vn vb ya yc, v = .agg #[vn, vb, .int .i64 x.op, .int .i64 x.n, .int .i64 x.ty, ya, yc] ∧ OkB (mask B none W) k ((ns, qs, x), vn, vb, ya, yc)
  | 12, v => ∃ vn vb ya yc g, v = .slice (some ⟨g, 0, none⟩) 1 1 ∧ W.heap[g]? = some (.cells #[vn, vb, .int .i64 x.op, .int .i64 x.n, .int .i64 x.ty, ya, yc] 58 (0, 0)) ∧ OkB (mask B none W) k ((ns, qs, x), vn, vb, ya, yc)
  | _, _ => True
theorem FC.ext {n2 n7 : Nat} {s un uc ux : Value} {ns : List Int} {qs : List Bool} {x : Nd} {B k : Nat} (W W' : World) (j : Nat) (v : Value) (h : FC n2 n7 s un uc ux ns qs x B k W j v) (hb : Ext W W') : FC n2 n7 s un uc ux ns qs x B k W' j v := by
  match j, h with
  | 0, h => exact h
  | 1, h => exact h
  | 2, h => exact h
  | 3, h => exact h
  | 4, h => exact RInts.sub h (mask_ext hb)
  | 5, h => exact h
  | 6, h => exact h
  | 7, h => exact RBools.sub h (mask_ext hb)
  | 8, h => exact h
  | 9, h => exact h
  | 10, ⟨ya, yc, h1, h2⟩ => exact ⟨ya, yc, h1, RNd.sub (mask_ext hb) h2⟩
  | 11, ⟨vn, vb, ya, yc, h1, h2⟩ => exact ⟨vn, vb, ya, yc, h1, h2.sub (mask_ext hb)⟩
  | 12, ⟨vn, vb, ya, yc, g, h1, h2, h3⟩ => exact ⟨vn, vb, ya, yc, g, h1, (hb.block _ (heap_lt h2)).trans h2, h3.sub (mask_ext hb)⟩
  | _ + 13, _ => exact trivial

set_option maxHeartbeats 4000000 in
set_option maxRecDepth 100000 in
theorem RCopy_any : ∀ (k : Nat) (t : Nd) (va vc : Value) (w : World), RNd w k t va vc → BC t →
    Calls Tryd.prog 8 #[nV t va vc] w fun e w' => (∃ xa xc, e = .returned (nV t xa xc) ∧ RNd (mask w.heap.size none w') k t xa xc) ∧ Ext w w' := by
  intro k
  induction k with
  | zero => intro t va vc w h; exact h.elim
  | succ k ih =>
    intro t va vc w ht hu
    have HT := Lib.hid ht; have HIH := Lib.hid ih; have HU := Lib.hid hu
    obtain ⟨hsz, ⟨Aa, ca, rfl, hca, hma⟩, ⟨Bb, cb, rfl, hcb, hmb⟩⟩ := ht.form
    have HSZ := Lib.hid hsz
    have HLA := Lib.hid hu.bn.na; have HLB := Lib.hid hu.bn.nb
    clear ht hu ih hsz
    unfold maxLen at hma hmb
    have hmx : Tryd.prog.follows .mixedOrders = true := by kernel_rfl
    have HE := Lib.hid (Ext.al3 w (.cells #[.int .i64 t.op, .int .i64 t.n, .int .i64 t.ty, .slice Aa t.args.length ca, .slice Bb t.brs.length cb] 31) (.cells #[.int .i64 0, .int .i64 0, .int .i64 0, .slice none 0 0, .slice none 0 0] 31) (.cells #[.int .i64 t.op, .int .i64 t.n, .int .i64 t.ty, .slice none 0 0, .slice none 0 0] 31))
    obtain ⟨hb1, hbz, hb2⟩ := box_three w (.cells #[.int .i64 t.op, .int .i64 t.n, .int .i64 t.ty, .slice Aa t.args.length ca, .slice Bb t.brs.length cb] 31) (.cells #[.int .i64 0, .int .i64 0, .int .i64 0, .slice none 0 0, .slice none 0 0] 31) (.cells #[.int .i64 t.op, .int .i64 t.n, .int .i64 t.ty, .slice none 0 0, .slice none 0 0] 31)
    have HB1 := Lib.hid hb1; have HB2 := Lib.hid hb2; have HBZ := Lib.hid hbz
    clear hb1 hb2 hbz
    go_enter Tryd.func8, Tryd.ntmps8
    go_wp2
    generalize World.alloc (World.alloc (World.alloc w _) _) _ = w1 at *
    have HN : Hid (w.heap.size + 1 + 1 < w1.heap.size) := heap_lt HB2.out
    go_loopw [14] (fun i wr => ∃ (j : Nat) (s : Value) (L : List Rwn), j ≤ t.args.length ∧ i = .int .i64 j ∧ wr.heap[w.heap.size + 1 + 1]? = some (.cells #[.int .i64 t.op, .int .i64 t.n, .int .i64 t.ty, s, .slice none 0 0] 31 (0, 0)) ∧ CRow cellsN 31 5 (OkT k) w1 wr (w.heap.size + 1 + 1) s L ∧ L.map (·.1) = t.args.take j) (fun i _ => t.args.length - (intOf i).toNat)
    case atStart => exact ⟨0, .slice none 0 0, [], Nat.zero_le _, rfl, HB2.out, CRow.nil rfl _ _ _ (Only.rf _ _), by simp⟩
    case round =>
      obtain ⟨j, s, L, hj, rfl, hb2, hcr, hlm⟩ := hrel
      have HC2 := Lib.hid hb2; have HCR := Lib.hid hcr; have HLM := Lib.hid hlm
      obtain ⟨As, cs, rfl, -⟩ := own_shape hcr.own
      have HLJ : Hid (L.length = j) := by
        show _ = _
        have := congrArg List.length hlm
        simp at this; omega
      have HEr : Hid (Ext w wr) := HE.out.trans (hcr.only.below HE.out.size (fun k e => by omega))
      have HC1 : Hid (wr.heap[w.heap.size]? = _) := (hcr.only.block _ (by have := HN.out; omega) (by omega)).trans HB1.out
      have HCZ : Hid (wr.heap[w.heap.size + 1]? = _) := (hcr.only.block _ (by have := HN.out; omega) (by omega)).trans HBZ.out
      clear hb2 hcr hlm
      by_cases hlt : j < t.args.length
      · obtain ⟨b, o, xa, xc, rfl, hbl, yc, yt⟩ := HT.out.arg hlt
        have yc := yc.below HEr.out
        have k0 := yc.c0
        have k1 := yc.c1
        have k2 := yc.c2
        have k3 := yc.c3
        have k4 := yc.c4
        obtain ⟨-, ⟨Ax, cx, rfl, -, -⟩, ⟨Bx, dx, rfl, -, -⟩⟩ := yt.form
        have HK := Lib.hid (yt.below HEr.out)
        have HUX : Hid (BC t.args[j]) := HU.out.arg (List.getElem_mem hlt)
        have HTK : Hid (t.args.take (j + 1) = t.args.take j ++ [t.args[j]]) := List.take_succ_eq_append_getElem hlt
        generalize t.args[j] = x at *
        clear yt yc hbl
        have hE5 := Ext.al wr (.cells #[.int .i64 x.op, .int .i64 x.n, .int .i64 x.ty, .slice Ax x.args.length cx, .slice Bx x.brs.length dx] 31)
        have hN5 := heapNew wr (.cells #[.int .i64 x.op, .int .i64 x.n, .int .i64 x.ty, .slice Ax x.args.length cx, .slice Bx x.brs.length dx] 31)
        have HE5 := Lib.hid hE5; have HN5 := Lib.hid hN5
        clear hE5 hN5
        go_wp2
        clear k0 k1 k2 k3 k4
        generalize World.alloc wr _ = w5 at *
        have HD2 := Lib.hid ((HE5.out.block _ (heap_lt HC2.out)).trans HC2.out)
        have HS5 : Hid (wr.heap.size < w5.heap.size) := heap_lt HN5.out
        refine wp_region_invC hmx (by kernel_rfl) (fun Ls a W => ∃ vv : Nat → Value, a = { tmps := #[nV t (.slice (some ⟨b, o, none⟩) t.args.length ca) (.slice Bb t.brs.length cb), .pointer (some ⟨w.heap.size, 0, none⟩), .pointer (some ⟨w.heap.size + 1, 0, none⟩), .pointer (some ⟨w.heap.size + 1 + 1, 0, none⟩), undef, .pointer (some ⟨wr.heap.size, 0, none⟩), undef, undef,
            .agg #[.int .i64 t.op, .int .i64 t.n, .int .i64 t.ty, .slice (some ⟨b, o, none⟩) t.args.length ca, .slice Bb t.brs.length cb], .pointer (some ⟨w.heap.size + 1 + 1, 3, none⟩), .pointer (some ⟨w.heap.size + 1 + 1, 4, none⟩), .pointer (some ⟨w.heap.size, 3, none⟩), .slice (some ⟨b, o, none⟩) t.args.length ca, .int .i64 t.args.length, .int .i64 j, .bool true, .pointer (some ⟨b, o + j * 5, none⟩),
            .agg #[.int .i64 x.op, .int .i64 x.n, .int .i64 x.ty, .slice Ax x.args.length cx, .slice Bx x.brs.length dx], vv 0, vv 1, vv 2, vv 3, vv 4, vv 5, vv 6, u25, undef, undef, undef, undef, undef, undef, undef, undef, undef, undef, undef, undef, undef, undef, undef, undef, undef, undef, undef, undef, undef, undef, undef, undef], defers := [] } ∧
          (PhA w5 (FA (w.heap.size + 1 + 1) (.slice As L.length cs) (nV x (.slice Ax x.args.length cx) (.slice Bx x.brs.length dx)) x w5.heap.size k) 5 Ls W vv ∨
            PhB (fun W v => W.heap[w.heap.size + 1 + 1]? = some (.cells #[.int .i64 t.op, .int .i64 t.n, .int .i64 t.ty, .slice As L.length cs, .slice none 0 0] 31 (0, 0)) ∧ ∃ L', CRow cellsN 31 5 (OkT k) w1 W (w.heap.size + 1 + 1) v L' ∧ L'.map (·.1) = t.args.take (j + 1)) 5 (.pointer (some ⟨w.heap.size + 1 + 1, 3, none⟩)) Ls W vv ∨
            ((∀ i, i < 8 → Ls i = true) ∧ ∃ s' L', W.heap[w.heap.size + 1 + 1]? = some (.cells #[.int .i64 t.op, .int .i64 t.n, .int .i64 t.ty, s', .slice none 0 0] 31 (0, 0)) ∧ CRow cellsN 31 5 (OkT k) w1 W (w.heap.size + 1 + 1) s' L' ∧ L'.map (·.1) = t.args.take (j + 1)))) ?_ ?_ ?_
        · refine ⟨fun i => if i = 0 then u18 else if i = 1 then u19 else if i = 2 then u20 else if i = 3 then u21 else if i = 4 then u22 else if i = 5 then u23 else u24, rfl, .inl (PhA.zero _ _ _ _)⟩
        · intro Ls a W i op ho hpre hl hc hI Kk HKk
          have hi : i < 8 := (Array.getElem?_eq_some_iff.1 ho).1
          obtain ⟨vv, rfl, hI | hI | hI⟩ := hI
          · have HPA := Lib.hid hI
            have HL5 := Lib.hid hI.not
            have hcs : i = 0 ∨ i = 1 ∨ i = 2 ∨ i = 3 ∨ i = 4 ∨ i = 5 ∨ i = 6 ∨ i = 7 := by omega
            rcases hcs with rfl | rfl | rfl | rfl | rfl | rfl | rfl | rfl
            all_goals
              obtain rfl := Option.some.inj ho
              clear ho hi hI
            · clear hpre
              go_simp
              exact HKk.out _ _ ⟨_, rfl, .inl (HPA.out.put FA.ext (by decide) (Ext.rf _) rfl)⟩
            · simp [Region.binds] at hpre
              have e0 : vv 0 = _ := HPA.out.facts 0 (by decide) (by simp [hpre])
              have c3 := HPA.out.ext.keep (cellAt HD2.out 3)
              go_simp
              exact HKk.out _ _ ⟨_, by simp [e0], .inl (HPA.out.put FA.ext (by decide) (Ext.rf _) rfl)⟩
            · clear hpre
              have c0 := HPA.out.ext.keep (cellAt HN5.out 0)
              have c1 := HPA.out.ext.keep (cellAt HN5.out 1)
              have c2 := HPA.out.ext.keep (cellAt HN5.out 2)
              have c3 := HPA.out.ext.keep (cellAt HN5.out 3)
              have c4 := HPA.out.ext.keep (cellAt HN5.out 4)
              go_simp
              exact HKk.out _ _ ⟨_, rfl, .inl (HPA.out.put FA.ext (by decide) (Ext.rf _) rfl)⟩
            · simp [Region.binds] at hpre
              have e2 : vv 2 = _ := HPA.out.facts 2 (by decide) (by simp [hpre])
              go_simp
              (refine (HIH.out x _ _ W (HK.out.below (HE5.out.tr HPA.out.ext)) HUX.out).mono ?_)
              rintro e W' ⟨⟨ya, yc, rfl, hr⟩, hb⟩
              exact HKk.out _ _ ⟨_, by simp [e2], .inl (HPA.out.put FA.ext (by decide) hb ⟨ya, yc, rfl, RNd.sub (mask_base HPA.out.ext.size) hr⟩)⟩
            · simp [Region.binds] at hpre
              obtain ⟨ya, yc, e3, hr⟩ := HPA.out.facts 3 (by decide) (by simp [hpre])
              obtain ⟨-, ⟨Ay, cy, rfl, -, -⟩, ⟨By, dy, rfl, -, -⟩⟩ := hr.form
              go_simp
              exact HKk.out _ _ ⟨_, by simp [e3], .inl (HPA.out.put FA.ext (by decide) (Ext.al _ _) ⟨_, _, _, rfl, heapNew _ _, RNd.sub (mask_ext (Ext.al _ _)) hr⟩)⟩
            · have h67 : Ls 6 = false ∧ Ls 7 = false := by
                constructor
                · cases h6 : Ls 6
                  · rfl
                  · have := hc 6 _ rfl h6 ⟨5, .phase⟩ (by simp) rfl
                    rw [HL5.out] at this; cases this
                · cases h7 : Ls 7
                  · rfl
                  · have := hc 7 _ rfl h7 ⟨5, .data⟩ (by simp) rfl
                    rw [HL5.out] at this; cases this
              simp [Region.binds] at hpre
              have e1 : vv 1 = _ := HPA.out.facts 1 (by decide) (by simp [hpre])
              obtain ⟨ya, yc, g, e4, hg4, hr⟩ := HPA.out.facts 4 (by decide) (by simp [hpre])
              have hcr := HCR.out.ext okT_sub (HE5.out.tr HPA.out.ext)
              have HH := Lib.hid (HPA.out.ext)
              split
              · refine app_row (t := 28) (e := 31) (size := 5) (bytes := 72) Tryd.underlying28 Tryd.iNode (by decide) (by decide) (.tmp 19) (.tmp 22) rfl w1.heap.size (.slice As L.length cs) L.length (cellsN L) e1 hcr.own (some ⟨g, 0, none⟩) 1 1 (cellsN [(x, ya, yc)]) e4 (SrcN.oneN (x := (x, ya, yc)) hg4) (cellsN_one (k := k) (w := mask w5.heap.size none W) [(x, ya, yc)] (fun y hy => by rw [List.mem_singleton.1 hy]; exact hr)) (by have := HLJ.out; have := HLA.out; unfold maxLen; omega) (by have := HLJ.out; have := HLA.out; omega) (Nat.le_trans hcr.only.size (Nat.le_refl _)) (fun v' W' ho hg hat => ?_)
                rw [← cellsN_append] at ho
                have hbl : ∀ q, (Value.slice As L.length cs).ownBlock = some q → q < wr.heap.size := HCR.out.lt
                refine HKk.out _ _ ⟨_, rfl, .inr (.inl (PhB.first h67.2 h67.1 ⟨?_, L ++ [(x, ya, yc)], hcr.app okT_sub (B := w5.heap.size) (Nat.le_trans HCR.out.only.size HE5.out.size) (fun q hq => by have := hbl q hq; have := HS5.out; omega) hr hg hat (by rw [List.length_append]; exact ho), ?_⟩))⟩
                · refine (hg.block _ (by have := HH.out.size; have := heap_lt HD2.out; omega) (fun e => ?_)).trans ((HH.out.block _ (heap_lt HD2.out)).trans HD2.out)
                  have := (hcr.own.lt _ e.symm).1
                  have := HN.out
                  omega
                · rw [List.map_append, HLM.out, HTK.out]; rfl
              · rename_i hw
                exact absurd (by rfl) hw
            · exfalso
              have := hpre ⟨5, .phase⟩ (by simp) rfl
              rw [HL5.out] at this; cases this
            · exfalso
              have := hpre ⟨5, .data⟩ (by simp) rfl
              rw [HL5.out] at this; cases this
          · have HPB := Lib.hid hI
            have hall : ∀ i, i < 6 → Ls i = true := by
              have h5 := hI.app
              have h1 := hc 5 _ rfl h5 ⟨1, .data⟩ (by simp) rfl
              have h4 := hc 5 _ rfl h5 ⟨4, .data⟩ (by simp) rfl
              have h3 := hc 5 _ rfl h5 ⟨3, .chain⟩ (by simp) rfl
              have h2 := hc 3 _ rfl h3 ⟨2, .data⟩ (by simp) rfl
              have h0 := hc 1 _ rfl h1 ⟨0, .data⟩ (by simp) rfl
              intro i hi
              rcases (show i = 0 ∨ i = 1 ∨ i = 2 ∨ i = 3 ∨ i = 4 ∨ i = 5 by omega) with rfl | rfl | rfl | rfl | rfl | rfl <;> assumption
            have hcs : i < 6 ∨ i = 6 ∨ i = 7 := by omega
            rcases hcs with hi6 | rfl | rfl
            · rw [hall i hi6] at hl; cases hl
            · obtain rfl := Option.some.inj ho
              clear ho hi hI hpre
              go_simp
              exact HKk.out _ _ ⟨_, rfl, .inr (.inl HPB.out.next)⟩
            · obtain rfl := Option.some.inj ho
              have h6 := hpre ⟨6, .data⟩ (by simp) rfl
              have e6 := hI.ptr h6
              obtain ⟨hbx, L', hcr, hlm⟩ := hI.done
              obtain ⟨A', c', e5, -⟩ := own_shape hcr.own
              have c4 := cellAt hbx 3
              have hfz := frozenAt hbx 3
              clear ho hi hI hpre
              go_simp
              refine HKk.out _ _ ⟨vv, by simp [e5, e6], .inr (.inr ⟨fun i hi => ?_, vv 5, L', ?_, ?_, hlm⟩)⟩
              · show (decide (i = 7) || Ls i) = true
                rcases (show i < 6 ∨ i = 6 ∨ i = 7 by omega) with h | rfl | rfl
                · rw [hall i h, Bool.or_true]
                · rw [h6, Bool.or_true]
                · rfl
              · rw [e5]; exact box5_set3 hbx _
              · exact hcr.set okT_sub (by have := HN.out; omega) _ _
          · exfalso
            rw [hI.1 i hi] at hl; cases hl
        · intro Ls a W hall hI
          obtain ⟨vv, rfl, hI | hI | ⟨-, s', L', hbx, hcr, hlm⟩⟩ := hI
          · have := hall 5 (by decide); rw [hI.not] at this; cases this
          · have := hall 7 (by decide); rw [hI.not] at this; cases this
          · go_wp2
            exact ⟨⟨j + 1, s', L', by omega, by go_num, hbx, hcr, hlm⟩, by simp [intOf]; omega⟩
      · have hje : j = t.args.length := by omega
        have HARG : Hid (RNds (mask w1.heap.size none wr) k (.slice As L.length cs) t.args) := by
          have h := own_RNds (HCR.out.all okT_sub).1 (HCR.out.all okT_sub).2
          rw [HLM.out, hje, List.take_length] at h
          exact h
        have HNr : Hid (w.heap.size + 1 + 1 < wr.heap.size) := heap_lt HC2.out
        have x5 := cellAt HC1.out 4
        go_wp2
        clear x5 HLJ hje hlt HLM
        generalize wr = wl at *
        go_loopw [29] (fun i wr => ∃ (j : Nat) (s2 : Value) (M : List Rwb), j ≤ t.brs.length ∧ i = .int .i64 j ∧ wr.heap[w.heap.size + 1 + 1]? = some (.cells #[.int .i64 t.op, .int .i64 t.n, .int .i64 t.ty, .slice As L.length cs, s2] 31 (0, 0)) ∧ CRow cellsB 58 7 (OkB' k) wl wr (w.heap.size + 1 + 1) s2 M ∧ M.map (·.1) = t.brs.take j) (fun i _ => t.brs.length - (intOf i).toNat)
        case atStart => exact ⟨0, .slice none 0 0, [], Nat.zero_le _, rfl, HC2.out, CRow.nil rfl _ _ _ (Only.rf _ _), by simp⟩
        case round =>
          obtain ⟨j2, s2, M, hj2, rfl, hb2, hcr, hlm⟩ := hrel
          have HD2 := Lib.hid hb2; have HDR := Lib.hid hcr; have HMM := Lib.hid hlm
          obtain ⟨Ms, ds, rfl, -⟩ := own_shape hcr.own
          have HMJ : Hid (M.length = j2) := by
            show _ = _
            have := congrArg List.length hlm
            simp at this; omega
          have HEq : Hid (Ext w wr) := HEr.out.trans (hcr.only.below HEr.out.size (fun k e => by omega))
          have HD1 : Hid (wr.heap[w.heap.size]? = _) := (hcr.only.block _ (by have := HNr.out; omega) (by omega)).trans HC1.out
          have HDZ : Hid (wr.heap[w.heap.size + 1]? = _) := (hcr.only.block _ (by have := HNr.out; omega) (by omega)).trans HCZ.out
          clear hb2 hcr hlm
          by_cases hlt : j2 < t.brs.length
          · obtain ⟨b, o, vn, vb, xa, xc, rfl, hbl, yn, ys, yn2, ys2, yc, yt⟩ := HT.out.br hlt
            have yn := HEq.out.keep yn
            have yn2 := HEq.out.keep yn2
            have yc := yc.below HEq.out
            have k0 := yc.c0
            have k1 := yc.c1
            have k2 := yc.c2
            have k3 := yc.c3
            have k4 := yc.c4
            obtain ⟨-, ⟨Ax, cx, rfl, -, -⟩, ⟨Bx, dx, rfl, -, -⟩⟩ := yt.form
            obtain ⟨An, cn, rfl, -, -⟩ := ys.form
            obtain ⟨Ac, cc, rfl, -, hmc⟩ := ys2.form
            have HMC := Lib.hid hmc
            have HK := Lib.hid (yt.below HEq.out)
            have HNS := Lib.hid (ys.below HEq.out)
            have HCS := Lib.hid (ys2.below HEq.out)
            have HUX : Hid (BC (t.brs[j2]).2.2) := HU.out.br (List.getElem_mem hlt)
            have HUN : Hid ((t.brs[j2]).1.length ≤ 1048576) := HU.out.bn.short _ (List.getElem_mem hlt)
            have HUC : Hid ((t.brs[j2]).2.1.length ≤ 1048576) := HU.out.len (List.getElem_mem hlt)
            have HTK : Hid (t.brs.take (j2 + 1) = t.brs.take j2 ++ [t.brs[j2]]) := List.take_succ_eq_append_getElem hlt
            generalize t.brs[j2] = cl at *
            obtain ⟨ns, qs, x⟩ := cl
            dsimp only at *
            clear yt yc ys ys2 hbl hmc
            have hE5 := Ext.al wr (.cells #[.slice An ns.length cn, .slice Ac qs.length cc, .int .i64 x.op, .int .i64 x.n, .int .i64 x.ty, .slice Ax x.args.length cx, .slice Bx x.brs.length dx] 58)
            have hN5 := heapNew wr (.cells #[.slice An ns.length cn, .slice Ac qs.length cc, .int .i64 x.op, .int .i64 x.n, .int .i64 x.ty, .slice Ax x.args.length cx, .slice Bx x.brs.length dx] 58)
            have HE5 := Lib.hid hE5; have HN5 := Lib.hid hN5
            clear hE5 hN5
            go_wp2
            clear k0 k1 k2 k3 k4 yn yn2
            generalize World.alloc wr _ = w5 at *
            have HF2 := Lib.hid ((HE5.out.block _ (heap_lt HD2.out)).trans HD2.out)
            have HS5 : Hid (wr.heap.size < w5.heap.size) := heap_lt HN5.out
            refine wp_region_invC hmx (by kernel_rfl) (fun Ls a W => ∃ vv : Nat → Value, a = { tmps := #[nV t (.slice Aa t.args.length ca) (.slice (some ⟨b, o, none⟩) t.brs.length cb), .pointer (some ⟨w.heap.size, 0, none⟩), .pointer (some ⟨w.heap.size + 1, 0, none⟩), .pointer (some ⟨w.heap.size + 1 + 1, 0, none⟩), undef, u5, undef, .pointer (some ⟨wr.heap.size, 0, none⟩),
                .agg #[.int .i64 t.op, .int .i64 t.n, .int .i64 t.ty, .slice Aa t.args.length ca, .slice (some ⟨b, o, none⟩) t.brs.length cb], .pointer (some ⟨w.heap.size + 1 + 1, 3, none⟩), .pointer (some ⟨w.heap.size + 1 + 1, 4, none⟩), .pointer (some ⟨w.heap.size, 3, none⟩), .slice Aa t.args.length ca, .int .i64 t.args.length, .int .i64 j, .bool false, u16, u17, u18, u19, u20, u21, u22, u23, u24, u25,
                .pointer (some ⟨w.heap.size, 4, none⟩), .slice (some ⟨b, o, none⟩) t.brs.length cb, .int .i64 t.brs.length, .int .i64 j2, .bool true, .pointer (some ⟨b, o + j2 * 7, none⟩),
                .agg #[.slice An ns.length cn, .slice Ac qs.length cc, .int .i64 x.op, .int .i64 x.n, .int .i64 x.ty, .slice Ax x.args.length cx, .slice Bx x.brs.length dx], vv 0, vv 1, vv 2, vv 3, vv 4, vv 5, vv 6, vv 7, vv 8, vv 9, vv 10, vv 11, vv 12, vv 13, vv 14, u48, undef], defers := [] } ∧
              (PhA w5 (FC (w.heap.size + 1 + 1) wr.heap.size (.slice Ms M.length ds) (.slice An ns.length cn) (.slice Ac qs.length cc) (nV x (.slice Ax x.args.length cx) (.slice Bx x.brs.length dx)) ns qs x w5.heap.size k) 13 Ls W vv ∨
                PhB (fun W v => W.heap[w.heap.size + 1 + 1]? = some (.cells #[.int .i64 t.op, .int .i64 t.n, .int .i64 t.ty, .slice As L.length cs, .slice Ms M.length ds] 31 (0, 0)) ∧ ∃ L', CRow cellsB 58 7 (OkB' k) wl W (w.heap.size + 1 + 1) v L' ∧ L'.map (·.1) = t.brs.take (j2 + 1)) 13 (.pointer (some ⟨w.heap.size + 1 + 1, 4, none⟩)) Ls W vv ∨
                ((∀ i, i < 16 → Ls i = true) ∧ ∃ s' L', W.heap[w.heap.size + 1 + 1]? = some (.cells #[.int .i64 t.op, .int .i64 t.n, .int .i64 t.ty, .slice As L.length cs, s'] 31 (0, 0)) ∧ CRow cellsB 58 7 (OkB' k) wl W (w.heap.size + 1 + 1) s' L' ∧ L'.map (·.1) = t.brs.take (j2 + 1)))) ?_ ?_ ?_
            · refine ⟨fun i => if i = 0 then u33 else if i = 1 then u34 else if i = 2 then u35 else if i = 3 then u36 else if i = 4 then u37 else if i = 5 then u38 else if i = 6 then u39 else if i = 7 then u40 else if i = 8 then u41 else if i = 9 then u42 else if i = 10 then u43 else if i = 11 then u44 else if i = 12 then u45 else if i = 13 then u46 else u47, rfl, .inl (PhA.zero _ _ _ _)⟩
            · intro Ls a W i op ho hpre hl hc hI Kk HKk
              have hi : i < 16 := (Array.getElem?_eq_some_iff.1 ho).1
              obtain ⟨vv, rfl, hI | hI | hI⟩ := hI
              · have HPA := Lib.hid hI
                have HL5 := Lib.hid hI.not
                have hcs : i = 0 ∨ i = 1 ∨ i = 2 ∨ i = 3 ∨ i = 4 ∨ i = 5 ∨ i = 6 ∨ i = 7 ∨ i = 8 ∨ i = 9 ∨ i = 10 ∨ i = 11 ∨ i = 12 ∨ i = 13 ∨ i = 14 ∨ i = 15 := by omega
                rcases hcs with rfl | rfl | rfl | rfl | rfl | rfl | rfl | rfl | rfl | rfl | rfl | rfl | rfl | rfl | rfl | rfl
                all_goals
                  obtain rfl := Option.some.inj ho
                  clear ho hi hI
                · clear hpre
                  go_simp
                  exact HKk.out _ _ ⟨_, rfl, .inl (HPA.out.put FC.ext (by decide) (Ext.rf _) rfl)⟩
                · simp [Region.binds] at hpre
                  have e0 : vv 0 = _ := HPA.out.facts 0 (by decide) (by simp [hpre])
                  have c4 := HPA.out.ext.keep (cellAt HF2.out 4)
                  go_simp
                  exact HKk.out _ _ ⟨_, by simp [e0], .inl (HPA.out.put FC.ext (by decide) (Ext.rf _) rfl)⟩
                · clear hpre
                  go_simp
                  exact HKk.out _ _ ⟨_, rfl, .inl (HPA.out.put FC.ext (by decide) (Ext.rf _) rfl)⟩
                · simp [Region.binds] at hpre
                  have e2 : vv 2 = _ := HPA.out.facts 2 (by decide) (by simp [hpre])
                  have c0 := HPA.out.ext.keep (cellAt HN5.out 0)
                  go_simp
                  exact HKk.out _ _ ⟨_, by simp [e2], .inl (HPA.out.put FC.ext (by decide) (Ext.rf _) rfl)⟩
                · simp [Region.binds] at hpre
                  have e3 : vv 3 = _ := HPA.out.facts 3 (by decide) (by simp [hpre])
                  have HH := Lib.hid (HPA.out.ext)
                  have hns := HNS.out.below (HE5.out.tr HH.out)
                  split
                  · refine app_row (t := 26) (e := 3) (size := 1) (bytes := 8) Tryd.underlying26 Tryd.iInt rfl (by decide) (.const (.slice none 0 0)) (.tmp 36) rfl w5.heap.size (.slice none 0 0) 0 [] rfl ⟨by simp, .inl ⟨rfl, rfl⟩⟩ An ns.length cn (ns.map (Value.int .i64)) e3 hns.src (ints_one ns) (by have := HUN.out; unfold maxLen; omega) (by have := HUN.out; omega) HH.out.size (fun v' W' ho hg hat => ?_)
                    have hX : Ext W W' := ⟨hg.os, hg.tape, hg.output, hg.size, fun k hk => hg.block k hk (by simp [Value.ownBlock])⟩
                    have hrs : RInts (mask w5.heap.size none W') v' ns := own_ints hns.ok (by have h1 := row_mask ho; rw [Nat.zero_add, List.nil_append] at h1; exact h1)
                    exact HKk.out _ _ ⟨_, rfl, .inl (HPA.out.put FC.ext (by decide) hX hrs)⟩
                  · rename_i hw
                    exact absurd (by rfl) hw
                · clear hpre
                  go_simp
                  exact HKk.out _ _ ⟨_, rfl, .inl (HPA.out.put FC.ext (by decide) (Ext.rf _) rfl)⟩
                · simp [Region.binds] at hpre
                  have e5 : vv 5 = _ := HPA.out.facts 5 (by decide) (by simp [hpre])
                  have c1 := HPA.out.ext.keep (cellAt HN5.out 1)
                  go_simp
                  exact HKk.out _ _ ⟨_, by simp [e5], .inl (HPA.out.put FC.ext (by decide) (Ext.rf _) rfl)⟩
                · simp [Region.binds] at hpre
                  have e6 : vv 6 = _ := HPA.out.facts 6 (by decide) (by simp [hpre])
                  have HH := Lib.hid (HPA.out.ext)
                  have hns := HCS.out.below (HE5.out.tr HH.out)
                  split
                  · refine app_row (t := 56) (e := 4) (size := 1) (bytes := 1) Tryd.underlying56 Tryd.iBool rfl (by decide) (.const (.slice none 0 0)) (.tmp 39) rfl w5.heap.size (.slice none 0 0) 0 [] rfl ⟨by simp, .inl ⟨rfl, rfl⟩⟩ Ac qs.length cc (qs.map Value.bool) e6 hns.src (bools_one qs) (by have := HUC.out; unfold maxLen; omega) (by have := HUC.out; omega) HH.out.size (fun v' W' ho hg hat => ?_)
                    have hX : Ext W W' := ⟨hg.os, hg.tape, hg.output, hg.size, fun k hk => hg.block k hk (by simp [Value.ownBlock])⟩
                    have hrs : RBools (mask w5.heap.size none W') v' qs := own_bools (by have h1 := row_mask ho; rw [Nat.zero_add, List.nil_append] at h1; exact h1)
                    exact HKk.out _ _ ⟨_, rfl, .inl (HPA.out.put FC.ext (by decide) hX hrs)⟩
                  · rename_i hw
                    exact absurd (by rfl) hw
                · clear hpre
                  go_simp
                  exact HKk.out _ _ ⟨_, rfl, .inl (HPA.out.put FC.ext (by decide) (Ext.rf _) rfl)⟩
                · simp [Region.binds] at hpre
                  have e8 : vv 8 = _ := HPA.out.facts 8 (by decide) (by simp [hpre])
                  have c2 := HPA.out.ext.keep (cellAt HN5.out 2)
                  have c3 := HPA.out.ext.keep (cellAt HN5.out 3)
                  have c4 := HPA.out.ext.keep (cellAt HN5.out 4)
                  have c5 := HPA.out.ext.keep (cellAt HN5.out 5)
                  have c6 := HPA.out.ext.keep (cellAt HN5.out 6)
                  go_simp
                  exact HKk.out _ _ ⟨_, by simp [e8], .inl (HPA.out.put FC.ext (by decide) (Ext.rf _) rfl)⟩
                · simp [Region.binds] at hpre
                  have e9 : vv 9 = _ := HPA.out.facts 9 (by decide) (by simp [hpre])
                  go_simp
                  (refine (HIH.out x _ _ W (HK.out.below (HE5.out.tr HPA.out.ext)) HUX.out).mono ?_)
                  rintro e W' ⟨⟨ya, yc, rfl, hr⟩, hb⟩
                  exact HKk.out _ _ ⟨_, by simp [e9], .inl (HPA.out.put FC.ext (by decide) hb ⟨ya, yc, rfl, RNd.sub (mask_base HPA.out.ext.size) hr⟩)⟩
                · simp [Region.binds] at hpre
                  obtain ⟨ya, yc, e10, hr⟩ := HPA.out.facts 10 (by decide) (by simp [hpre])
                  have h4 : RInts _ _ _ := HPA.out.facts 4 (by decide) (by simp [hpre])
                  have h7 : RBools _ _ _ := HPA.out.facts 7 (by decide) (by simp [hpre])
                  obtain ⟨An', cn', e4, -, -⟩ := h4.form
                  obtain ⟨Ac', cc', e7, -, -⟩ := h7.form
                  obtain ⟨-, ⟨Ay, cy, rfl, -, -⟩, ⟨By, dy, rfl, -, -⟩⟩ := hr.form
                  rw [e4] at h4
                  rw [e7] at h7
                  go_simp
                  exact HKk.out _ _ ⟨_, by simp [e4, e7, e10], .inl (HPA.out.put FC.ext (by decide) (Ext.rf _) ⟨_, _, _, _, rfl, h4, h7, hr⟩)⟩
                · simp [Region.binds] at hpre
                  obtain ⟨vn', vb', ya, yc, e11, hr⟩ := HPA.out.facts 11 (by decide) (by simp [hpre])
                  have hr1 : RInts _ vn' ns := hr.1
                  obtain ⟨An', cn', rfl, -, -⟩ := hr1.form
                  have hr3 : RBools _ vb' qs := hr.2.1
                  obtain ⟨Ac', cc', rfl, -, -⟩ := hr3.form
                  have hr2 : RNd _ k x ya yc := hr.2.2
                  obtain ⟨-, ⟨Ay, cy, rfl, -, -⟩, ⟨By, dy, rfl, -, -⟩⟩ := hr2.form
                  go_simp
                  exact HKk.out _ _ ⟨_, by simp [e11], .inl (HPA.out.put FC.ext (by decide) (Ext.al _ _) ⟨_, _, _, _, _, rfl, heapNew _ _, hr.sub (mask_ext (Ext.al _ _))⟩)⟩
                · have h67 : Ls 14 = false ∧ Ls 15 = false := by
                    constructor
                    · cases h6 : Ls 14
                      · rfl
                      · have := hc 14 _ rfl h6 ⟨13, .phase⟩ (by simp) rfl
                        rw [HL5.out] at this; cases this
                    · cases h7 : Ls 15
                      · rfl
                      · have := hc 15 _ rfl h7 ⟨13, .data⟩ (by simp) rfl
                        rw [HL5.out] at this; cases this
                  simp [Region.binds] at hpre
                  have e1 : vv 1 = _ := HPA.out.facts 1 (by decide) (by simp [hpre])
                  obtain ⟨vn', vb', ya, yc, g, e12, hg9, hr⟩ := HPA.out.facts 12 (by decide) (by simp [hpre])
                  have hcr := HDR.out.ext okB_sub (HE5.out.tr HPA.out.ext)
                  have HH := Lib.hid (HPA.out.ext)
                  split
                  · refine app_row (t := 29) (e := 58) (size := 7) (bytes := 120) Tryd.underlying29 Tryd.iBranch (by decide) (by decide) (.tmp 34) (.tmp 45) rfl wl.heap.size (.slice Ms M.length ds) M.length (cellsB M) e1 hcr.own (some ⟨g, 0, none⟩) 1 1 (cellsB [((ns, qs, x), vn', vb', ya, yc)]) e12 (SrcN.oneB (x := ((ns, qs, x), vn', vb', ya, yc)) hg9) (cellsB_one (k := k) (w := mask w5.heap.size none W) [((ns, qs, x), vn', vb', ya, yc)] (fun y hy => by rw [List.mem_singleton.1 hy]; exact hr)) (by have := HMJ.out; have := HLB.out; unfold maxLen; omega) (by have := HMJ.out; have := HLB.out; omega) (Nat.le_trans hcr.only.size (Nat.le_refl _)) (fun v' W' ho hg hat => ?_)
                    rw [← cellsB_append] at ho
                    have hbl : ∀ q, (Value.slice Ms M.length ds).ownBlock = some q → q < wr.heap.size := HDR.out.lt
                    refine HKk.out _ _ ⟨_, rfl, .inr (.inl (PhB.first h67.2 h67.1 ⟨?_, M ++ [((ns, qs, x), vn', vb', ya, yc)], hcr.app okB_sub (B := w5.heap.size) (Nat.le_trans HDR.out.only.size HE5.out.size) (fun q hq => by have := hbl q hq; have := HS5.out; omega) hr hg hat (by rw [List.length_append]; exact ho), ?_⟩))⟩
                    · refine (hg.block _ (by have := HH.out.size; have := heap_lt HF2.out; omega) (fun e => ?_)).trans ((HH.out.block _ (heap_lt HF2.out)).trans HF2.out)
                      have := (hcr.own.lt _ e.symm).1
                      have := HNr.out
                      omega
                    · rw [List.map_append, HMM.out, HTK.out]; rfl
                  · rename_i hw
                    exact absurd (by rfl) hw
                · exfalso
                  have := hpre ⟨13, .phase⟩ (by simp) rfl
                  rw [HL5.out] at this; cases this
                · exfalso
                  have := hpre ⟨13, .data⟩ (by simp) rfl
                  rw [HL5.out] at this; cases this
              · have HPB := Lib.hid hI
                have hall : ∀ i, i < 14 → Ls i = true := by
                  have h13 := hI.app
                  have h1 := hc 13 _ rfl h13 ⟨1, .data⟩ (by simp) rfl
                  have h12 := hc 13 _ rfl h13 ⟨12, .data⟩ (by simp) rfl
                  have h11 := hc 12 _ rfl h12 ⟨11, .data⟩ (by simp) rfl
                  have h10 := hc 11 _ rfl h11 ⟨10, .data⟩ (by simp) rfl
                  have h4 := hc 11 _ rfl h11 ⟨4, .data⟩ (by simp) rfl
                  have h7 := hc 11 _ rfl h11 ⟨7, .data⟩ (by simp) rfl
                  have h9 := hc 10 _ rfl h10 ⟨9, .data⟩ (by simp) rfl
                  have h8 := hc 9 _ rfl h9 ⟨8, .data⟩ (by simp) rfl
                  have h6 := hc 7 _ rfl h7 ⟨6, .data⟩ (by simp) rfl
                  have h5 := hc 6 _ rfl h6 ⟨5, .data⟩ (by simp) rfl
                  have h3 := hc 4 _ rfl h4 ⟨3, .data⟩ (by simp) rfl
                  have h2 := hc 3 _ rfl h3 ⟨2, .data⟩ (by simp) rfl
                  have h0 := hc 1 _ rfl h1 ⟨0, .data⟩ (by simp) rfl
                  intro i hi
                  rcases (show i = 0 ∨ i = 1 ∨ i = 2 ∨ i = 3 ∨ i = 4 ∨ i = 5 ∨ i = 6 ∨ i = 7 ∨ i = 8 ∨ i = 9 ∨ i = 10 ∨ i = 11 ∨ i = 12 ∨ i = 13 by omega) with rfl | rfl | rfl | rfl | rfl | rfl | rfl | rfl | rfl | rfl | rfl | rfl | rfl | rfl <;> assumption
                have hcs : i < 14 ∨ i = 14 ∨ i = 15 := by omega
                rcases hcs with hi6 | rfl | rfl
                · rw [hall i hi6] at hl; cases hl
                · obtain rfl := Option.some.inj ho
                  clear ho hi hI hpre
                  go_simp
                  exact HKk.out _ _ ⟨_, rfl, .inr (.inl HPB.out.next)⟩
                · obtain rfl := Option.some.inj ho
                  have h6 := hpre ⟨14, .data⟩ (by simp) rfl
                  have e6 := hI.ptr h6
                  obtain ⟨hbx, L', hcr, hlm⟩ := hI.done
                  obtain ⟨A', c', e5, -⟩ := own_shape hcr.own
                  have c5 := cellAt hbx 4
                  have hfz := frozenAt hbx 4
                  clear ho hi hI hpre
                  go_simp
                  refine HKk.out _ _ ⟨vv, by simp [e5, e6], .inr (.inr ⟨fun i hi => ?_, vv 13, L', ?_, ?_, hlm⟩)⟩
                  · show (decide (i = 15) || Ls i) = true
                    rcases (show i < 14 ∨ i = 14 ∨ i = 15 by omega) with h | rfl | rfl
                    · rw [hall i h, Bool.or_true]
                    · rw [h6, Bool.or_true]
                    · rfl
                  · rw [e5]; exact box5_set4 hbx _
                  · exact hcr.set okB_sub (by have := HNr.out; omega) _ _
              · exfalso
                rw [hI.1 i hi] at hl; cases hl
            · intro Ls a W hall hI
              obtain ⟨vv, rfl, hI | hI | ⟨-, s', L', hbx, hcr, hlm⟩⟩ := hI
              · have := hall 13 (by decide); rw [hI.not] at this; cases this
              · have := hall 15 (by decide); rw [hI.not] at this; cases this
              · go_wp2
                exact ⟨⟨j2 + 1, s', L', by omega, by go_num, hbx, hcr, hlm⟩, by simp [intOf]; omega⟩
          · have hje : j2 = t.brs.length := by omega
            have HCLS : Hid (RBrs (mask wl.heap.size none wr) (.slice Ms M.length ds) k t.brs) := by
              have h := own_RBrs (HDR.out.all okB_sub).1 (HDR.out.all okB_sub).2
              rw [HMM.out, hje, List.take_length] at h
              exact h
            obtain ⟨z0, z1, z2, z3, z4⟩ := cells5 HD2.out
            obtain ⟨q0, q1, q2, q3, q4⟩ := cells5 HDZ.out
            have f0 := frozenAt HDZ.out 0
            have f1 := frozenAt HDZ.out 1
            have f2 := frozenAt HDZ.out 2
            have f3 := frozenAt HDZ.out 3
            have f4 := frozenAt HDZ.out 4
            go_wp2
            have HZZ := Lib.hid (box5_set HDZ.out (.int .i64 t.op) (.int .i64 t.n) (.int .i64 t.ty) (.slice As L.length cs) (.slice Ms M.length ds))
            have HOZ := Lib.hid (only5_set wr (w.heap.size + 1) (.int .i64 t.op) (.int .i64 t.n) (.int .i64 t.ty) (.slice As L.length cs) (.slice Ms M.length ds))
            clear z0 z1 z2 z3 z4 q0 q1 q2 q3 q4 f0 f1 f2 f3 f4
            generalize World.setCell (World.setCell (World.setCell (World.setCell (World.setCell wr _ _) _ _) _ _) _ _) _ _ = wz at *
            obtain ⟨q0, q1, q2, q3, q4⟩ := cells5 HZZ.out
            unfold bodyPost
            simp [results, go_sem, q0, q1, q2, q3, q4]
            refine ⟨⟨_, _, ⟨rfl, rfl⟩, RNd.make HSZ.out (RNds.sub HARG.out (Sub.masks ?_ fun i hi h1 _ => ⟨⟨?_, by simp⟩, ?_⟩)) (RBrs.sub HCLS.out (Sub.masks HOZ.out.size fun i hi h1 _ => ⟨⟨?_, by simp⟩, ?_⟩))⟩, HEq.out.trans (HOZ.out.below HEq.out.size (fun i e => by omega))⟩
            · exact Nat.le_trans HDR.out.only.size HOZ.out.size
            · have := HN.out; omega
            · exact (HOZ.out.block _ (Nat.lt_of_lt_of_le hi HDR.out.only.size) (by have := HN.out; omega)).trans (HDR.out.only.block _ hi (by have := HN.out; omega))
            · have := HNr.out; omega
            · exact HOZ.out.block _ hi (by have := HNr.out; omega)
end Go.Proofs.YtkdhhcidpklgoaaDoor
