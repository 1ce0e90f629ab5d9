/- term.go: Nodes. -/
import Derived.Test.YtfohcdpfgbeclaaGreatQ13
import Derived.RangeFuncBox
import Derived.Below
import Derived.Deep.Cut
import Derived.Deep.DeepCutAuto
namespace Go.Proofs.YtfohcdpfgbeclaaGreat
open Go.RowKit Go.Shelf
attribute [local go_sem] Oper.semAt_some

theorem wpIn_loop_k {F : Fence} {n : Nat} {P : Program} {Q : Exit → Act → World → Prop} {a : Act} {w : World} {c : Code} (I : Act → World → Prop) (μ : Act → World → Nat) (h₀ : I a w)
    (round : ∀ a w, I a w → ∀ K : Act → World → Prop, Hid (∀ a' w', I a' w' ∧ μ a' w' < μ a w → K a' w') → c.wpIn F n P (Exit.then K Q) a w) : (Code.loop c).wpIn F n P Q a w :=
  wpIn_loop I μ h₀ fun a w h => round a w h _ (fun _ _ q => q)
/-- A loop's mark among what is deferred. -/
abbrev mark (d : Nat) : Deferred := { target := .collected d, args := #[] }
theorem leaves_marks {F : Fence} {n : Nat} {P : Program} {fn : Func} {tmps : Array Value} {R : Ending → World → Prop} (base : Nat) (J : World → Prop) (hput : ∀ W d, J W → base ≤ d → J (W.putObj d (.deferred none)))
    (hend : ∀ W, J W → ∃ v, (results fn tmps).run P W = .ok v W ∧ R (.returned v) W) :
    ∀ (ds : List Nat) (W : World), J W → ds.Nodup → (∀ d ∈ ds, W.heap[d]? = some (.deferred (some [])) ∧ base ≤ d) → LeavesInM F n P fn tmps R (ds.map mark) .returning W
  | [], W, hJ, _, _ => hend W hJ
  | d :: ds, W, hJ, hn, hd => by
    obtain ⟨hd0, hdb⟩ := hd d (List.mem_cons_self ..)
    have hn' := List.nodup_cons.1 hn
    refine ⟨by simp, .inl ⟨d, _, rfl, run_takeDeferred hd0, ?_⟩⟩
    refine leaves_marks base J hput hend ds _ (hput W d hJ hdb) hn'.2 (fun e he => ?_)
    obtain ⟨h1, h2⟩ := hd e (List.mem_cons_of_mem _ he)
    exact ⟨(World.putObj_heap_other (fun h => hn'.1 (by rw [← h]; exact he))).trans h1, h2⟩
theorem sizesB_each : ∀ (n : Int) (l : List Fn), sizesB n l = true → ∀ f ∈ l, (nodesL 1 f.body).length ≤ 600
  | n, [], _, f, hf => by cases hf
  | n, g :: r, h, f, hf => by
    rw [sizesB, Bool.and_eq_true] at h
    rcases List.mem_cons.1 hf with rfl | hf
    · have h1 := h.1
      unfold sizeR at h1
      split at h1
      · rename_i h2
        unfold sizeOK at h2
        simp only [Bool.and_eq_true, decide_eq_true_eq] at h2
        exact h2.1
      · cases h1
    · exact sizesB_each _ r h.2 f hf
theorem progB_small {P : Pg} (h : progB P = true) : (∀ f ∈ P.funs, (nodesL 1 f.body).length ≤ 600) ∧ P.funs.length ≤ 12 := by
  unfold progB at h
  simp only [Bool.and_eq_true, decide_eq_true_eq] at h
  obtain ⟨⟨⟨_, ⟨⟨_, h12⟩, _⟩⟩, ⟨_, hs⟩⟩, _⟩ := h
  exact ⟨sizesB_each _ _ hs, h12⟩

set_option maxHeartbeats 4000000 in
set_option maxRecDepth 100000 in
theorem Nodes_any (P : Pg) (vd vf : Value) (w : World) (hd : RDecls w vd P.decls) (hf : RFns w vf P.funs) (hfine : FinePg P) :
    Calls Tryz.prog 11 #[pV vd vf] w fun e w' => e = .returned (.tuple #[.int .i64 (nodesP P).1, .int .i64 (nodesP P).2]) ∧ Ext w w' := by
  have HD := Lib.hid hd; have HF := Lib.hid hf; have HFI := Lib.hid hfine
  have HR : Hid (nodesP P = if progB P then ((totalL P.funs : Int), 0) else (0, 20)) := rfl
  generalize nodesP P = rr at *
  obtain ⟨Ad, cd, rfl, -, -⟩ := hd.form
  obtain ⟨Af, cf, rfl, hcf, hmf⟩ := hf.form
  clear hd hf hfine
  unfold maxLen at hmf
  have HE := Lib.hid (Ext.al w (.cells #[.slice Ad P.decls.length cd, .slice Af P.funs.length cf] 25))
  have HB0 := Lib.hid (heapNew w (.cells #[.slice Ad P.decls.length cd, .slice Af P.funs.length cf] 25))
  have c0 := cellAt HB0.out 0
  have c1 := cellAt HB0.out 1
  refine callsIn_wide.1 (callsIn_of_wp_marks (n := 0) Tryz.func11 rfl trivial ?_ rfl)
  simp only [Tryz.ntmps11, List.size_toArray, List.length_cons, List.length_nil, Nat.reduceAdd, Nat.reduceSub, Array.replicate_succ, Array.replicate_zero, List.push_toArray, List.append_toArray, List.nil_append, List.cons_append]
  gi_wp2
  generalize w.alloc _ = w1 at *
  refine ⟨trivial, rfl, ?_⟩
  (with_reducible refine (callsIn_wide.2 (validProg_any P _ _ _ (HD.out.below HE.out) (HF.out.below HE.out) HFI.out)).mono ?_)
  rintro e w2 ⟨rfl, hb⟩
  have HE2 := Lib.hid (HE.out.tr hb)
  have HB2 := Lib.hid ((hb.block _ (heap_lt HB0.out)).trans HB0.out)
  clear hb c0 c1
  cases q : progB P
  · have HQ := Lib.hid q
    clear q
    gi_wp2
    refine ⟨.tuple #[.int .i64 0, .int .i64 20], by simp [results, go_sem], by rw [HR.out, HQ.out]; rfl, HE2.out⟩
  · have HQ := Lib.hid q
    have HSM := Lib.hid (progB_small q)
    clear q
    have hE3 := Ext.al w2 (.cells #[.int .i64 0] 3)
    have c0 := hE3.keep (cellAt HB2.out 0)
    have c1 := hE3.keep (cellAt HB2.out 1)
    have HE3 := Lib.hid (HE2.out.tr hE3)
    have HB3 := Lib.hid ((hE3.block _ (heap_lt HB2.out)).trans HB2.out)
    have HN3 := Lib.hid (heapNew w2 (.cells #[.int .i64 0] 3))
    have HZ2 : Hid (w.heap.size < w2.heap.size) := heap_lt HB2.out
    gi_wp2
    generalize w2.alloc _ = w3 at *
    clear hE3 c0 c1
    refine wpIn_loop_k (fun a W => ∃ (k tot : Nat) (ds : List Nat) (u6 u14 u15 u16 u17 u18 u19 u20 u21 u22 u23 u24 : Value), a = { tmps := #[pV (.slice Ad P.decls.length cd) (.slice Af P.funs.length cf), .pointer (some ⟨w.heap.size, 0, none⟩), .int .i64 0, .int .i64 0, .pointer (some ⟨w2.heap.size, 0, none⟩), undef, u6,
        .agg #[.slice Ad P.decls.length cd, .slice Af P.funs.length cf], .bool true, .bool false, .pointer (some ⟨w.heap.size, 1, none⟩), .slice Af P.funs.length cf, .int .i64 P.funs.length, .int .i64 k, u14, u15, u16, u17, u18, u19, u20, u21, u22, u23, u24, undef], defers := ds.map mark } ∧
        k ≤ P.funs.length ∧ tot ≤ 600 * k ∧ tot + totalL (P.funs.drop k) = totalL P.funs ∧ Ext w W ∧ W.heap[w.heap.size]? = some (.cells #[.slice Ad P.decls.length cd, .slice Af P.funs.length cf] 25 (0, 0)) ∧ W.heap[w2.heap.size]? = some (.cells #[.int .i64 tot] 3 (0, 0)) ∧ ds.Nodup ∧ ∀ d ∈ ds, W.heap[d]? = some (.deferred (some [])) ∧ w2.heap.size < d)
      (fun a _ => P.funs.length - (intOf (a.tmps[13]?.getD undef)).toNat) ?h0 ?round
    case h0 =>
      exact ⟨0, 0, [], _, _, _, _, _, _, _, _, _, _, _, _, rfl, Nat.zero_le _, Nat.le_refl _, by simp, HE3.out, HB3.out, HN3.out, by simp, fun d h => by cases h⟩
    case round =>
      rintro _ W ⟨k, tot, ds, u6, u14, u15, u16, u17, u18, u19, u20, u21, u22, u23, u24, rfl, hk, ht1, ht2, hE, hB, hC, hN, hD⟩ K HK
      have HT2 := Lib.hid ht2; have HE4 := Lib.hid hE; have HB4 := Lib.hid hB; have HC4 := Lib.hid hC; have HN4 := Lib.hid hN; have HD4 := Lib.hid hD
      clear ht2 hE hB hC hN hD HE3 HB3 HN3 HB2 HE2
      by_cases hlt : k < P.funs.length
      · obtain ⟨b, o, vp, xa, xc, kf, rfl, hbl, y0, y1, y2, yc, y3, y4, y5⟩ := HF.out.at_ hlt
        have y0 := HE4.out.keep y0
        have y1 := HE4.out.keep y1
        have y2 := HE4.out.keep y2
        have yc := yc.below HE4.out
        obtain ⟨Ap, cp, rfl, -, -⟩ := y4.form
        obtain ⟨_, ⟨Aa, ca, rfl, -, -⟩, ⟨Bb, cb, rfl, -, -⟩⟩ := y5.form
        have HTB := Lib.hid y5
        have c30 := yc.c0
        have c31 := yc.c1
        have c32 := yc.c2
        have c33 := yc.c3
        have c34 := yc.c4
        have c35 := yc.c5
        have HFF := Lib.hid (HFI.out.each _ (List.getElem_mem hlt))
        have HSF := Lib.hid (HSM.out.1 _ (List.getElem_mem hlt))
        have HDS := Lib.hid (drop_step hlt)
        generalize P.funs[k] = f at *
        clear y4 y5 yc y3 hbl
        gi_wp2
        have hE5 := Ext.al W (.cells #[.string f.nm, .slice Ap f.ps.length cp, .int .i64 f.res, .int .i64 f.body.op, .int .i64 f.body.n, .string f.body.nm, .int .i64 f.body.ty, .slice Aa f.body.args.length ca, .slice Bb f.body.cls.length cb] 62)
        generalize W.alloc _ = w5 at *
        have HE5 := Lib.hid hE5
        clear hE5 c30 c31 c32 c33 c34 c35 y0 y1 y2
        refine ⟨trivial, rfl, ?_⟩
        (with_reducible refine (callsIn_wide.2 (nodes_any f.body _ _ _)).mono ?_)
        rintro e w6 ⟨rfl, rfl⟩
        gi_wp2
        have hE6 := Ext.al w5 (.cells #[.int .i64 f.body.op, .int .i64 f.body.n, .string f.body.nm, .int .i64 f.body.ty, .slice Aa f.body.args.length ca, .slice Bb f.body.cls.length cb] 43)
        have hg6 := heapNew w5 (.cells #[.int .i64 f.body.op, .int .i64 f.body.n, .string f.body.nm, .int .i64 f.body.ty, .slice Aa f.body.args.length ca, .slice Bb f.body.cls.length cb] 43)
        generalize w5.alloc _ = w6 at *
        have HE56 : Hid (Ext W w6) := HE5.out.tr hE6
        have HE6 : Hid (Ext w w6) := HE4.out.tr HE56.out
        have HZ6 : Hid (W.heap.size ≤ w6.heap.size) := HE56.out.size
        have HCL : Hid (w2.heap.size < W.heap.size) := heap_lt HC4.out
        have HIT := Lib.hid (nodes_iter (fun j => j = w2.heap.size) w w6 kf f.body _ _ w5.heap.size HTB.out HE6.out (fun j hj => by have := HZ2.out; have := HCL.out; have := HZ6.out; omega) hg6 HFF.out.dep)
        clear hE6 hg6
        refine wpIn_wide.2 (wp_range (C := fun j => j = w2.heap.size) (L := nodesL 1 f.body) (R := RN) rfl (enters_of Tryz.func61 (by kernel_rfl) rfl) HIT.out
          (fun j hj => by have := HCL.out; have := HZ6.out; omega) (fun y vs A h => h.size)
          (fun pre V => Ext w V ∧ V.heap[w.heap.size]? = some (.cells #[.slice Ad P.decls.length cd, .slice (some ⟨b, o, none⟩) P.funs.length cf] 25 (0, 0)) ∧ V.heap[w2.heap.size]? = some (.cells #[.int .i64 ((tot + pre.length : Nat) : Int)] 3 (0, 0)) ∧ ∀ d ∈ ds, V.heap[d]? = some (.deferred (some [])) ∧ w2.heap.size < d ∧ d < w6.heap.size)
          (fun c V => False) ?hI ?hIx ?h0 ?hround ?hdone ?hstop)
        case hI =>
          rintro pre A B ⟨h1, h2, h3, h4⟩ hb
          have z1 := HZ2.out; have z2 := HCL.out; have z3 := HZ6.out
          exact ⟨h1.trans (hb.mono (by omega)), (hb.block _ (by omega)).trans h2, (hb.block _ (by omega)).trans h3, fun d hd => ⟨(hb.block _ (h4 d hd).2.2).trans (h4 d hd).1, (h4 d hd).2⟩⟩
        case hIx =>
          rintro c A B h _
          exact h
        case h0 =>
          exact ⟨HE6.out, (HE56.out.block _ (heap_lt HB4.out)).trans HB4.out, (HE56.out.block _ (heap_lt HC4.out)).trans HC4.out, fun d hd => ⟨(HE56.out.block _ (heap_lt (HD4.out d hd).1)).trans (HD4.out d hd).1, (HD4.out d hd).2, Nat.lt_of_lt_of_le (heap_lt (HD4.out d hd).1) HE56.out.size⟩⟩
        case hround =>
          rintro l' pre y vs V hl' hpre ⟨i1, i2, i3, i4⟩ ⟨ky, xa, xc, rfl, ht⟩ hsz
          have I1 := Lib.hid i1; have I2 := Lib.hid i2; have I3 := Lib.hid i3; have I4 := Lib.hid i4
          have hplen : pre.length ≤ 600 := by
            have := hpre.length_le
            have := HSF.out
            simp at *
            omega
          have htot : tot ≤ 600 * 12 := by have := HSM.out.2; omega
          clear i1 i2 i3 i4 ht hpre
          gi_wp2
          refine ⟨Ext.rf _, fun V2 hT => ?_⟩
          have h3 := hT.kept _ _ I3.out (fun r h => by cases h)
          have HB7 := Lib.hid (hT.only.below (B := w6.heap.size) (by omega) (fun k h => by rw [h]; exact hl'))
          have HE7 : Hid (Ext w V2) := I1.out.trans (HB7.out.mono (by have := HE6.out.size; omega))
          have HB8 := Lib.hid (hT.kept _ _ I2.out (fun r h => by cases h))
          have HD8 : Hid (∀ d ∈ ds, V2.heap[d]? = some (.deferred (some [])) ∧ w2.heap.size < d ∧ d < w6.heap.size) := fun d hd => ⟨hT.kept _ _ (I4.out d hd).1 (fun r h => by cases h), (I4.out d hd).2⟩
          have q3 := cellAt h3 0
          have f3 := frozenAt h3 0
          have H3 := Lib.hid h3
          clear h3 hT
          gi_wp2
          have hne : w.heap.size ≠ w2.heap.size := by have := HZ2.out; omega
          refine ⟨Only.setCell (C := fun j => j = w2.heap.size) (p := ⟨w2.heap.size, 0, none⟩) rfl _ _, Below.setNew HE7.out (by have := HZ2.out; omega) _, (set_other _ hne).trans HB8.out, ?_, fun d hd => ⟨(set_other _ (by have := (HD8.out d hd).2.1; omega)).trans (HD8.out d hd).1, (HD8.out d hd).2⟩⟩
          have he : ((tot + (pre ++ [y]).length : Nat) : Int) = ((tot + pre.length : Nat) : Int) + 1 := by simp; omega
          rw [he]
          exact box_set H3.out _
        case hdone =>
          rintro V ⟨h1, h2, h3, h4⟩ hK
          have H1 := Lib.hid h1; have H2 := Lib.hid h2; have H3 := Lib.hid h3; have H4 := Lib.hid h4; have HKV := Lib.hid hK
          clear h1 h2 h3 h4 hK
          gi_wp2
          refine HK.out _ _ ⟨⟨k + 1, tot + (nodesL 1 f.body).length, w6.heap.size :: ds, _, _, _, _, _, _, _, _, _, _, _, _, rfl, by omega, by have := HSF.out; omega, ?_, H1.out, H2.out, H3.out, ?_, ?_⟩, ?_⟩
          · have h2 := HT2.out
            rw [HDS.out, totalL] at h2
            omega
          · exact List.nodup_cons.2 ⟨fun h => by have := (H4.out _ h).2.2; omega, HN4.out⟩
          · intro d hd
            rcases List.mem_cons.1 hd with rfl | hd
            · exact ⟨HKV.out, by have := HCL.out; have := HZ6.out; omega⟩
            · exact ⟨(H4.out d hd).1, (H4.out d hd).2.1⟩
          · simp [intOf]; omega
        case hstop =>
          rintro c V h _
          exact h.elim
      · have HDE := Lib.hid (drop_end hlt)
        have z0 := cellAt HC4.out 0
        gi_wp2
        refine leaves_marks w.heap.size (fun W => Ext w W) (fun W d h hd => Below.putNew h hd _) (fun W h => ⟨.tuple #[.int .i64 tot, .int .i64 0], by simp [results, go_sem], ?_, h⟩) ds W HE4.out HN4.out (fun d hd => ⟨(HD4.out d hd).1, by have := (HD4.out d hd).2; have := HZ2.out; omega⟩)
        have h2 := HT2.out
        rw [HDE.out] at h2
        rw [HR.out, HQ.out, ← h2]; rfl
end Go.Proofs.YtfohcdpfgbeclaaGreat

/- The keys of a map of integers in increasing order. -/
namespace Go.Proofs.YtfohcdpfgbeclaaGreat
open Go.RowKit Go.Maps Go.WideMaps Go.Shelf

theorem intKeys_facts {D : DataW Unit} {w : World} {b n : Nat} {R : Value → Option (DataW Unit × List MemPlace)} {f : Int → Bool} (h : w.ownsMap Tryz.prog 3 R b n D) (hf : ∀ k, has D (.int .i64 k) = f k) :
    (Go.intKeys D).Nodup ∧ (∀ k : Int, k ∈ Go.intKeys D ↔ f k = true) := by
  obtain ⟨es, rfl, h1, h2⟩ := h.canonK (int_keyed Tryz.underlying3)
  have h3 : ∀ p ∈ es, ∃ s : Int, p.1 = .int .i64 s := fun p hp => by
    obtain ⟨v, hv⟩ := h2 p hp
    obtain ⟨s, _, e, hs⟩ := Go.Maps.keyOf_i64 Tryz.underlying3 hv
    exact ⟨s, e⟩
  have hap := apart_of_rising h1
  refine ⟨?_, fun k => ?_⟩
  · show (es.map fun p => Go.intOf p.1).Nodup
    unfold List.Nodup
    rw [List.pairwise_map]
    refine hap.imp_of_mem fun {p q} hp hq hne => ?_
    obtain ⟨s, hs⟩ := h3 p hp
    obtain ⟨t, ht⟩ := h3 q hq
    rw [hs, ht] at hne ⊢
    intro e
    exact hne (by rw [show s = t from e])
  · rw [← hf k, has_eq, List.any_eq_true]
    show k ∈ (es.map fun p => Go.intOf p.1) ↔ _
    rw [List.mem_map]
    constructor
    · rintro ⟨p, hp, he⟩
      obtain ⟨s, hs⟩ := h3 p hp
      rw [hs] at he
      refine ⟨p, hp, ?_⟩
      rw [hs, show s = k from he]
      exact WideAt.sameKey_self (show WideAt.IsKeyLit (Lit.int .i64 k) from trivial)
    · rintro ⟨p, hp, he⟩
      refine ⟨p, hp, ?_⟩
      by_cases hk : p.1 = .int .i64 k
      · rw [hk]; rfl
      · rw [sameKey_ne hk] at he; cases he

theorem KeysI_any (mb : Option Nat) (W : World) : Calls Tryz.prog 64 #[.map mb] W fun e w' => e = .returned (.func (.func 92) #[] #[.pointer (some ⟨W.heap.size, 0, none⟩)]) ∧ w' = W.alloc (.cells #[.map mb] 108) :=
  callsIn_wide.1 (AnyZI.keys_in Tryz.keys64 Fence.wide 5 trivial rfl mb W)
theorem sortsI (m : Nat) : AnyZI.SortsIn Tryz.prog Tryz.sorted63_ren Fence.wide m :=
  ⟨fun blk off cap ss W hH hblk hsz => callsIn_wide.2 (AnyM.slices_Sort_int Tryz.sort91 blk off cap ss W hH hblk hsz),
   fun p cap W => callsIn_wide.2 (AnyM.slices_Sort_int_none Tryz.sort91 p cap W)⟩

theorem SortedI_any (b n : Nat) (f : Int → Bool) (w : World) (h : IntO Tryz.prog w b n f) (hn : n ≤ 1000000000) :
    Calls Tryz.prog 63 #[.func (.func 92) #[] #[.pointer (some ⟨w.heap.size, 0, none⟩)]] (w.alloc (.cells #[.map (some b)] 108)) fun e w' => ∃ (v : Value) (l : List Int), e = .returned v ∧ (∀ k, k ∈ l ↔ f k = true) ∧ SortedI l ∧
      w'.ownsRow (w.heap.size + 1) 3 1 v l.length (l.map (Value.int .i64)) ∧ Ext w w' := by
  obtain ⟨D0, hown, hf⟩ := h
  obtain ⟨q1, q2⟩ := intKeys_facts hown hf
  have hbl := hown.lt
  have hsz := size_own hown
  have hseq : SeqGives Fence.wide 2 Tryz.prog 92 #[.pointer (some ⟨w.heap.size, 0, none⟩)] Go.encZ (fun ss => ss.Perm (Go.intKeys D0)) (Maps.size D0) (w.alloc (.cells #[.map (some b)] 108)) :=
    AnyZI.keys_gives (ρ := Tryz.keys64_ren) { Tryz.keys64 with } Fence.wide _ trivial rfl (by omega) w.heap.size b n D0 _ (by simp) (by simp) (by
      obtain ⟨es, clock, hb, Ft, hs, hD⟩ := hown
      exact ⟨es, clock, (Below.heap_alloc _ _ b hbl).trans hb, Ft, hs, hD⟩)
  have cS := AnyZI.sorted_in Tryz.sorted63 Fence.wide 5 trivial trivial trivial trivial rfl (by omega) (sortsI _) (enters_of Tryz.func91 (by kernel_rfl) rfl) 92 #[.pointer (some ⟨w.heap.size, 0, none⟩)] trivial (enters_of Tryz.func92 (by kernel_rfl) rfl) _ _ (by unfold maxLen; omega) (by omega) _ hseq
  refine (callsIn_wide.1 cS).mono ?_
  rintro e w' ⟨v, ss, rfl, hS, hrow, hnil, hb⟩
  have hp : (ss.mergeSort (fun x y => decide (x ≤ y))).Perm (Go.intKeys D0) := (List.mergeSort_perm _ _).trans hS
  have hsort : (ss.mergeSort (fun x y => decide (x ≤ y))).Pairwise (fun x y => x ≤ y) := by
    have := List.pairwise_mergeSort (le := fun (x y : Int) => decide (x ≤ y)) (fun a b c h1 h2 => by simp only [decide_eq_true_eq] at *; exact Int.le_trans h1 h2) (fun a b => by simp only [Bool.or_eq_true, decide_eq_true_eq]; exact Int.le_total a b) ss
    exact this.imp fun h => by simpa using h
  have hlen : ss.length = (ss.mergeSort (fun x y => decide (x ≤ y))).length := (List.length_mergeSort _).symm
  refine ⟨v, ss.mergeSort (fun x y => decide (x ≤ y)), rfl, fun k => ?_, ?_, ?_, ?_⟩
  · rw [← q2 k, ← hp.mem_iff]
  · have hn := (hp.nodup_iff).2 q1
    exact (hsort.and hn).imp fun {a b} hab => by have := hab.1; have := hab.2; omega
  · rw [← hlen]
    rw [World.size_alloc] at hrow
    exact hrow
  · exact (Ext.al w _).tr hb
end Go.Proofs.YtfohcdpfgbeclaaGreat

/- term.go: the functions that a term calls. -/
namespace Go.Proofs.YtfohcdpfgbeclaaGreat
open Go.RowKit Go.Shelf
attribute [local go_sem] Oper.semAt_some

def callsL (l : List (Int × Tm)) (k : Int) : Bool := l.any fun p => decide (p.2.op = 9) && decide (p.2.n = k)
theorem callsL_snoc (l : List (Int × Tm)) (y : Int × Tm) (k : Int) : callsL (l ++ [y]) k = (callsL l k || (decide (y.2.op = 9) && decide (y.2.n = k))) := by simp [callsL]
theorem callsL_hit {l : List (Int × Tm)} {y : Int × Tm} (h : y.2.op = 9) : callsL (l ++ [y]) = fun k => decide (k = y.2.n) || callsL l k := by
  funext k
  rw [callsL_snoc, decide_eq_true h, Bool.true_and, Bool.or_comm]
  congr 1
  exact decide_eq_decide.2 ⟨fun h => h.symm, fun h => h.symm⟩
theorem callsL_miss {l : List (Int × Tm)} {y : Int × Tm} (h : ¬ y.2.op = 9) : callsL (l ++ [y]) = callsL l := by
  funext k
  rw [callsL_snoc, decide_eq_false h, Bool.false_and, Bool.or_false]

set_option maxHeartbeats 4000000 in
set_option maxRecDepth 100000 in
theorem callsIn_any (k : Nat) (t : Tm) (va vc : Value) (w : World) (ht : RT w k t va vc) (hdep : ∀ y ∈ nodesL 1 t, 0 ≤ y.1 ∧ y.1 ≤ 1000000000000) (hlen : (nodesL 1 t).length ≤ 100000000) :
    Calls Tryz.prog 34 #[tV t va vc] w fun e w' => ∃ (v : Value) (l : List Int), e = .returned v ∧ (∀ k, k ∈ l ↔ callsT t k = true) ∧ SortedI l ∧ w'.ownsRow w.heap.size 3 1 v l.length (l.map (Value.int .i64)) ∧ Ext w w' := by
  have HT := Lib.hid ht; have HDEP := Lib.hid hdep
  obtain ⟨_, ⟨Aa, ca, rfl, -, -⟩, ⟨Bb, cb, rfl, -, -⟩⟩ := ht.form
  clear ht hdep
  have HCT : Hid (callsT t = callsL (nodesL 1 t)) := rfl
  have hmm := @run_makeMap Tryz.prog
  refine callsIn_wide.1 (callsIn_of_wp_marks (n := 0) Tryz.func34 rfl trivial ?_ rfl)
  simp only [Tryz.ntmps34, List.size_toArray, List.length_cons, List.length_nil, Nat.reduceAdd, Nat.reduceSub, Array.replicate_succ, Array.replicate_zero, List.push_toArray, List.append_toArray, List.nil_append, List.cons_append]
  have hN := heapThird w (.cells #[.int .i64 t.op, .int .i64 t.n, .string t.nm, .int .i64 t.ty, .slice Aa t.args.length ca, .slice Bb t.cls.length cb] 43) (.map #[] 0) (.cells #[.map (some (w.heap.size + 1))] 108)
  have HS : Hid (IntO Tryz.prog (((w.alloc (.cells #[.int .i64 t.op, .int .i64 t.n, .string t.nm, .int .i64 t.ty, .slice Aa t.args.length ca, .slice Bb t.cls.length cb] 43)).alloc (.map #[] 0)).alloc (.cells #[.map (some (w.heap.size + 1))] 108)) (w.heap.size + 1) 0 (fun _ => false)) := by
    have := IntO.new (P := Tryz.prog) (w.alloc (.cells #[.int .i64 t.op, .int .i64 t.n, .string t.nm, .int .i64 t.ty, .slice Aa t.args.length ca, .slice Bb t.cls.length cb] 43))
    rw [World.size_alloc] at this
    exact this.ext (Ext.al _ _)
  have HW1 : Hid (Ext w (((w.alloc (.cells #[.int .i64 t.op, .int .i64 t.n, .string t.nm, .int .i64 t.ty, .slice Aa t.args.length ca, .slice Bb t.cls.length cb] 43)).alloc (.map #[] 0)).alloc (.cells #[.map (some (w.heap.size + 1))] 108))) := Ext.al3 _ _ _ _
  have HZ1 : Hid ((((w.alloc (.cells #[.int .i64 t.op, .int .i64 t.n, .string t.nm, .int .i64 t.ty, .slice Aa t.args.length ca, .slice Bb t.cls.length cb] 43)).alloc (.map #[] 0)).alloc (.cells #[.map (some (w.heap.size + 1))] 108)).heap.size = w.heap.size + 1 + 1 + 1) := by show _ = _; simp
  have HN1 := Lib.hid hN
  clear hN
  gi_wp2
  clear hmm
  generalize (w.alloc _).alloc _ = w0 at *
  generalize w0.alloc _ = w1 at *
  refine ⟨trivial, rfl, ?_⟩
  (with_reducible refine (callsIn_wide.2 (nodes_any t _ _ _)).mono ?_)
  rintro e w3 ⟨rfl, rfl⟩
  gi_wp2
  have hg3 := heapNew w1 (.cells #[.int .i64 t.op, .int .i64 t.n, .string t.nm, .int .i64 t.ty, .slice Aa t.args.length ca, .slice Bb t.cls.length cb] 43)
  have hE3 := Ext.al w1 (.cells #[.int .i64 t.op, .int .i64 t.n, .string t.nm, .int .i64 t.ty, .slice Aa t.args.length ca, .slice Bb t.cls.length cb] 43)
  have hz1 := HZ1.out
  have hz3 : (w1.alloc (.cells #[.int .i64 t.op, .int .i64 t.n, .string t.nm, .int .i64 t.ty, .slice Aa t.args.length ca, .slice Bb t.cls.length cb] 43)).heap.size = w1.heap.size + 1 := by simp
  generalize w1.alloc _ = w3 at *
  have HE3 := Lib.hid hE3
  have HE1 := Lib.hid (HW1.out.tr hE3)
  have HIT := Lib.hid (nodes_iter (fun j => j = w.heap.size + 1) w w3 k t _ _ w1.heap.size HT.out HE1.out (fun j hj => by omega) hg3 HDEP.out)
  clear hg3 hE3
  have HZ3 := Lib.hid hz3
  refine wpIn_wide.2 (wp_range (C := fun j => j = w.heap.size + 1) (L := nodesL 1 t) (R := RN) rfl (enters_of Tryz.func61 (by kernel_rfl) rfl) HIT.out
    (fun j hj => by omega) (fun y vs A h => h.size)
    (fun pre W => IntO Tryz.prog W (w.heap.size + 1) pre.length (callsL pre) ∧ Ext w W ∧ W.heap[w.heap.size + 1 + 1]? = some (.cells #[.map (some (w.heap.size + 1))] 108 (0, 0)))
    (fun c W => False) ?hI ?hIx ?h0 ?hround ?hdone ?hstop)
  case hI =>
    rintro pre A B ⟨h1, h2, h3⟩ hb
    exact ⟨h1.block (hb.block _ (by omega)), h2.trans (hb.mono (by omega)), (hb.block _ (by omega)).trans h3⟩
  case hIx =>
    rintro c A B h _
    exact h
  case h0 =>
    exact ⟨HS.out.ext HE3.out, HE1.out, (HE3.out.block _ (by omega)).trans HN1.out⟩
  case hround =>
    rintro l' pre y vs W hl' hpre ⟨i1, i2, i3⟩ ⟨ky, xa, xc, rfl, ht⟩ hsz
    have I1 := Lib.hid i1; have I2 := Lib.hid i2; have I3 := Lib.hid i3
    have hplen : pre.length ≤ 100000000 := by
      have := hpre.length_le
      simp at this
      omega
    obtain ⟨⟨_, hokn, _⟩, ⟨Ax, cx, rfl, -, -⟩, ⟨Bx, dx, rfl, -, -⟩⟩ := ht.form
    have HOK := Lib.hid hokn
    clear i1 i2 i3 ht hpre hokn
    gi_wp2
    refine ⟨Ext.al _ _, fun W2 hT => ?_⟩
    have hE4 := Ext.al W (.cells #[.int .i64 y.2.op, .int .i64 y.2.n, .string y.2.nm, .int .i64 y.2.ty, .slice Ax y.2.args.length cx, .slice Bx y.2.cls.length dx] 43)
    have hN4 := hT.kept _ _ (heapNew W (.cells #[.int .i64 y.2.op, .int .i64 y.2.n, .string y.2.nm, .int .i64 y.2.ty, .slice Ax y.2.args.length cx, .slice Bx y.2.cls.length dx] 43)) (fun r h => by cases h)
    have h3 := hT.kept _ _ ((hE4.block _ (heap_lt I3.out)).trans I3.out) (fun r h => by cases h)
    have HB4 : Hid (Below w3.heap.size W W2) := (hE4.mono hsz).trans (hT.only.below (B := w3.heap.size) (by simp; omega) (fun k h => by rw [h]; exact hl'))
    have HE4 : Hid (Ext w W2) := I2.out.trans (HB4.out.mono (by omega))
    have HM : Hid (IntO Tryz.prog W2 (w.heap.size + 1) pre.length (callsL pre)) := I1.out.block (HB4.out.block _ (by omega))
    obtain ⟨n0, n1, -, -, -, -⟩ := cells6 hN4
    have q3 := cellAt h3 0
    have H3 := Lib.hid h3
    obtain ⟨w4, hu, hs4, hg4, hz4⟩ := run_update_intO Tryz.underlying4 Tryz.underlying3 108 Tryz.underlying108 HM.out (by unfold maxLen; omega) HOK.out
    have HS4 := Lib.hid hs4; have HG4 := Lib.hid hg4
    clear h3 hT hE4 hN4 hs4 hg4 hz4
    by_cases h9 : y.2.op = 9
    · have H9 := Lib.hid (callsL_hit (l := pre) h9)
      gi_wp2
      refine ⟨⟨HG4.out.os, HG4.out.tape, HG4.out.output, HG4.out.size, fun k hk hn => HG4.out.block k hk (fun e => hn (by cases e; rfl))⟩, ?_, Below.grown HE4.out HG4.out HE4.out.size (fun j e => by cases e; omega), (HG4.out.block _ (heap_lt H3.out) (fun e => by simp only [Option.some.injEq] at e; omega)).trans H3.out⟩
      rw [H9.out, List.length_append]
      exact HS4.out
    · have H9 := Lib.hid (callsL_miss (l := pre) h9)
      clear hu
      gi_wp2
      refine ⟨Only.rf _ _, ?_, HE4.out, H3.out⟩
      rw [H9.out, List.length_append]
      exact HM.out.mono (by simp)
  case hdone =>
    rintro W ⟨h1, h2, h3⟩ hK
    have q3 := cellAt h3 0
    have H1 := Lib.hid h1; have H2 := Lib.hid h2; have HK := Lib.hid hK
    clear h1 h2 h3 hK hz1 hz3
    gi_wp2
    refine ⟨trivial, rfl, ?_⟩
    (with_reducible refine (callsIn_wide.2 (KeysI_any _ _)).mono ?_)
    rintro e w4 ⟨rfl, rfl⟩
    gi_wp2
    refine ⟨trivial, rfl, ?_⟩
    (with_reducible refine (callsIn_wide.2 (SortedI_any _ _ _ W H1.out (by omega))).mono ?_)
    rintro e w5 ⟨v, l, rfl, r1, r2, r3, r4⟩
    have R1 := Lib.hid r1; have R2 := Lib.hid r2; have R3 := Lib.hid r3; have R4 := Lib.hid r4
    clear r1 r2 r3 r4
    gi_wp2
    have kD := (R4.out.block _ (heap_lt HK.out)).trans HK.out
    refine ⟨by simp, .inl ⟨_, _, rfl, run_takeDeferred kD, ?_⟩⟩
    refine ⟨v, by simp [results, go_sem], v, l, rfl, fun k => by rw [HCT.out]; exact R1.out k, R2.out, ?_, Below.putNew (H2.out.tr R4.out) (by have := HZ1.out; have := HZ3.out; omega) _⟩
    refine ownsRow_base_a ?_ (show w.heap.size ≤ W.heap.size + 1 by have := H2.out.size; omega)
    exact ownsRow_putObj R3.out _ kD rfl
  case hstop =>
    rintro c W h _
    exact h.elim
end Go.Proofs.YtfohcdpfgbeclaaGreat

/- term.go: Calls. -/
namespace Go.Proofs.YtfohcdpfgbeclaaGreat
open Go.RowKit

/-- A block of the call's own that holds slices. -/
def VBlk (w : World) (g : Nat) (vs : List Value) : Prop := w.heap[g]? = some (.cells vs.toArray 57 (0, 0))
section
variable {w w' : World} {g : Nat} {vs : List Value}
theorem VBlk.lt (h : VBlk w g vs) : g < w.heap.size := (Array.getElem?_eq_some_iff.1 h).1
theorem VBlk.ext (h : VBlk w g vs) (hb : Ext w w') : VBlk w' g vs := (hb.block g h.lt).trans h
theorem VBlk.cell (h : VBlk w g vs) {i : Nat} (hi : i < vs.length) : w.cell? ⟨g, i, none⟩ = some vs[i] := by
  unfold VBlk at h
  simp [World.cell?, h, hi]
theorem VBlk.frozen (h : VBlk w g vs) (i : Nat) : w.frozen? ⟨g, i, none⟩ = false := by
  unfold VBlk at h
  exact frozenAt h i
theorem VBlk.set (h : VBlk w g vs) (i : Nat) (b : Value) : VBlk (w.setCell ⟨g, i, none⟩ b) g (vs.set i b) := by
  unfold VBlk at h ⊢
  simp [World.setCell, Array.getElem?_modify, h]
end
theorem Tryz.info57 : (Tryz.prog.info? 57).map (fun i => (i.zero, i.size, i.bytes)) = some (some (.slice none 0 0), 1, 24) := by kernel_rfl
theorem made_rows (n : Nat) : madeCells #[Value.slice none 0 0] n = (List.replicate n (Value.slice none 0 0)).toArray := by
  apply Array.ext
  · simp [size_madeCells]
  · intro i h1 h2
    simp [madeCells, Nat.mod_one]
theorem make_rows (w : World) (n : Nat) (h : n ≤ 1000000) : (Instr.makeSlice 32 (.int .i64 n) (.int .i64 n)).run Tryz.prog w = .ok (.slice (some ⟨w.heap.size, 0, none⟩) n n) (w.alloc (.cells (List.replicate n (Value.slice none 0 0)).toArray 57)) := by
  obtain ⟨i0, hi, hz0, hz1, hz2⟩ := info_parts Tryz.info57
  have := run_make w 32 57 i0 (.slice none 0 0) Tryz.underlying32 hi hz0 .i64 .i64 n n (by omega) (by omega) (by rw [hz2]; omega) (by omega)
  rw [this, hz1]
  simp only [Int.toNat_natCast, Nat.mul_one]
  rw [show (Value.slice none 0 0).cells = #[Value.slice none 0 0] from rfl, made_rows]

/-- A list of called functions that the call owns. -/
structure OwnI (w : World) (B : Nat) (v : Value) (l : List Int) (t : Tm) : Prop where
  mem : ∀ k, k ∈ l ↔ callsT t k = true
  sorted : SortedI l
  own : w.ownsRow B 3 1 v l.length (l.map (Value.int .i64))
theorem own_form {w : World} {B : Nat} {e : TypeId} {k n : Nat} {v : Value} {xs : List Value} (h : w.ownsRow B e k v n xs) : ∃ A c, v = .slice A n c := by
  rcases h.2 with ⟨rfl, rfl⟩ | ⟨g, cap, _, hv, _⟩
  · exact ⟨none, 0, rfl⟩
  · exact ⟨_, cap, hv⟩
/-- The rows of a list of lists: of the first k functions. -/
def Rows2 (w : World) (B : Nat) (vs : List Value) (l : List Fn) (k : Nat) : Prop := ∀ (i : Nat) (f : Fn), i < k → l[i]? = some f → ∃ (v : Value) (r : List Int), vs[i]? = some v ∧ OwnI w B v r f.body
theorem Rows2.ext {w w' : World} {B k : Nat} {vs : List Value} {l : List Fn} (h : Rows2 w B vs l k) (hb : Ext w w') : Rows2 w' B vs l k := fun i f hi hf => by
  obtain ⟨v, r, h1, h2⟩ := h i f hi hf
  exact ⟨v, r, h1, h2.mem, h2.sorted, h2.own.kept (row := none) ⟨hb.os, hb.tape, hb.output, hb.size, fun j hj _ => hb.block j hj⟩ (by cases hv : v.ownBlock <;> simp)⟩
theorem Rows2.step {w : World} {g B k : Nat} {vs : List Value} {l : List Fn} {v : Value} {r : List Int} {f : Fn} (h : Rows2 w B vs l k) (hg : g < B) (hk : k < vs.length) (hf : l[k]? = some f) (hv : OwnI w B v r f.body) :
    Rows2 (w.setCell ⟨g, k, none⟩ v) B (vs.set k v) l (k + 1) := fun i f' hi hf' => by
  by_cases he : i = k
  · subst he
    rw [hf] at hf'; cases hf'
    exact ⟨v, r, by simp [hk], hv.mem, hv.sorted, ownsRow_setCell_below hv.own hg _⟩
  · obtain ⟨v', r', h1, h2⟩ := h i f' (by omega) hf'
    exact ⟨v', r', by rw [List.getElem?_set_ne (by omega)]; exact h1, h2.mem, h2.sorted, ownsRow_setCell_below h2.own hg _⟩

set_option maxHeartbeats 4000000 in
set_option maxRecDepth 100000 in
theorem Calls_any (P : Pg) (vd vf : Value) (w : World) (hd : RDecls w vd P.decls) (hf : RFns w vf P.funs) (hfine : FinePg P) :
    Calls Tryz.prog 12 #[pV vd vf] w fun e w' => ((progB P = false ∧ e = .returned (.tuple #[.slice none 0 0, .int .i64 20])) ∨
      (progB P = true ∧ ∃ g vs, e = .returned (.tuple #[.slice (some ⟨g, 0, none⟩) P.funs.length P.funs.length, .int .i64 0]) ∧ w.heap.size ≤ g ∧ VBlk w' g vs ∧ vs.length = P.funs.length ∧ Rows2 w' (g + 1) vs P.funs P.funs.length)) ∧ Ext w w' := by
  have HD := Lib.hid hd; have HF := Lib.hid hf; have HFI := Lib.hid hfine
  obtain ⟨Ad, cd, rfl, -, -⟩ := hd.form
  obtain ⟨Af, cf, rfl, hcf, hmf⟩ := hf.form
  clear hd hf hfine
  unfold maxLen at hmf
  have HE := Lib.hid (Ext.al w (.cells #[.slice Ad P.decls.length cd, .slice Af P.funs.length cf] 25))
  have HB0 := Lib.hid (heapNew w (.cells #[.slice Ad P.decls.length cd, .slice Af P.funs.length cf] 25))
  have c0 := cellAt HB0.out 0
  have c1 := cellAt HB0.out 1
  go_enter Tryz.func12, Tryz.ntmps12
  go_wp2_with fail
  generalize w.alloc _ = w1 at *
  (with_reducible refine (validProg_any P _ _ _ (HD.out.below HE.out) (HF.out.below HE.out) HFI.out).mono ?_)
  rintro e w2 ⟨rfl, hb⟩
  have HE2 := Lib.hid (HE.out.tr hb)
  have HB2 := Lib.hid ((hb.block _ (heap_lt HB0.out)).trans HB0.out)
  clear hb c0 c1
  cases q : progB P
  · have HQ := Lib.hid q
    clear q
    go_wp2
    go_ret2
    exact ⟨.inl ⟨HQ.out, rfl⟩, HE2.out⟩
  · have HQ := Lib.hid q
    have HSM := Lib.hid (progB_small q)
    clear q
    have hmk := make_rows w2 P.funs.length (by have := HSM.out.2; omega)
    have c0 := cellAt HB2.out 0
    have c1 := cellAt HB2.out 1
    have hE3 := Ext.al w2 (.cells (List.replicate P.funs.length (Value.slice none 0 0)).toArray 57)
    have HN3 : Hid (VBlk _ _ (List.replicate P.funs.length (Value.slice none 0 0))) := heapNew w2 (.cells (List.replicate P.funs.length (Value.slice none 0 0)).toArray 57)
    have HE3 := Lib.hid (HE2.out.tr hE3)
    have HB3 := Lib.hid ((hE3.block _ (heap_lt HB2.out)).trans HB2.out)
    have d0 := hE3.keep c0
    have d1 := hE3.keep c1
    have HZ2 : Hid (w.heap.size < w2.heap.size) := heap_lt HB2.out
    clear hE3
    generalize hS : List.replicate P.funs.length (Value.slice none 0 0) = S0 at *
    have HS0 : Hid (S0.length = P.funs.length) := by show _ = _; rw [← hS]; simp
    clear hS
    go_wp2
    clear hmk c0 c1 d0 d1
    generalize w2.alloc _ = w3 at *
    go_loopw [17] (fun i wr => ∃ (k : Nat) (vs : List Value), k ≤ P.funs.length ∧ i = .int .i64 k ∧ vs.length = P.funs.length ∧ VBlk wr w2.heap.size vs ∧ Rows2 wr (w2.heap.size + 1) vs P.funs k ∧ Ext w wr) (fun i _ => P.funs.length - (intOf i).toNat)
    case atStart => exact ⟨0, S0, Nat.zero_le _, rfl, HS0.out, HN3.out, fun i f hi => by omega, HE3.out⟩
    case round =>
      obtain ⟨k, vs, hk, rfl, hvs, hB, hR, hE⟩ := hrel
      have HBk := Lib.hid hB; have HRk := Lib.hid hR; have HEk := Lib.hid hE; have HVS := Lib.hid hvs
      clear hB hR hE
      by_cases hlt : k < P.funs.length
      · obtain ⟨b, o, vp, xa, xc, kf, rfl, hbl, y0, y1, y2, yc, y3, y4, y5⟩ := HF.out.at_ hlt
        obtain ⟨Ap, cp, rfl, -, -⟩ := y4.form
        obtain ⟨_, ⟨Aa, ca, rfl, -, -⟩, ⟨Bb, cb, rfl, -, -⟩⟩ := y5.form
        have HTB := Lib.hid y5
        have y0 := HEk.out.keep y0
        have y1 := HEk.out.keep y1
        have y2 := HEk.out.keep y2
        have yc := yc.below HEk.out
        have c0 := yc.c0
        have c1 := yc.c1
        have c2 := yc.c2
        have c3 := yc.c3
        have c4 := yc.c4
        have c5 := yc.c5
        have HFF := Lib.hid (HFI.out.each _ (List.getElem_mem hlt))
        have HSF := Lib.hid (HSM.out.1 _ (List.getElem_mem hlt))
        have HAT := Lib.hid (List.getElem?_eq_getElem hlt)
        generalize P.funs[k] = f at *
        have hE4 := Ext.al wr (.cells #[.string f.nm, .slice Ap f.ps.length cp, .int .i64 f.res, .int .i64 f.body.op, .int .i64 f.body.n, .string f.body.nm, .int .i64 f.body.ty, .slice Aa f.body.args.length ca, .slice Bb f.body.cls.length cb] 62)
        have HE4 := Lib.hid hE4
        clear yc y4 y5 hbl hE4
        go_wp2_with fail
        generalize wr.alloc _ = w4 at *
        (with_reducible refine (callsIn_any kf f.body _ _ _ (HTB.out.below (HEk.out.tr HE4.out)) HFF.out.dep (by have := HSF.out; omega)).mono ?_)
        rintro e w5 ⟨v, r, rfl, r1, r2, r3, r4⟩
        obtain ⟨Av, cv, rfl⟩ := own_form r3
        have HE5 : Hid (Ext wr w5) := HE4.out.tr r4
        have HB5 := Lib.hid (HBk.out.ext HE5.out)
        have HR5 := Lib.hid (HRk.out.ext HE5.out)
        have HOW : Hid (OwnI w5 (w2.heap.size + 1) (.slice Av r.length cv) r f.body) := ⟨r1, r2, ownsRow_base_a r3 (by have := HBk.out.lt; have := HE4.out.size; omega)⟩
        have hcell := HB5.out.cell (show k < vs.length by omega)
        have hfz := HB5.out.frozen k
        clear r1 r2 r3 r4 c0 c1 c2 c3 c4 c5 y0 y1 y2
        go_wp2
        have hlv : k < vs.length := by have := HVS.out; omega
        exact ⟨⟨k + 1, _, by omega, by go_num, by rw [List.length_set]; exact HVS.out, HB5.out.set k _, HR5.out.step (Nat.lt_succ_self _) hlv HAT.out HOW.out, Below.setNew (HEk.out.tr HE5.out) (by have := HZ2.out; omega) _⟩, by simp [intOf]; omega⟩
      · have HKE : Hid (k = P.funs.length) := by show k = _; omega
        go_wp2
        go_ret2
        refine ⟨.inr ⟨HQ.out, w2.heap.size, vs, rfl, by have := HZ2.out; omega, HBk.out, HVS.out, ?_⟩, HEk.out⟩
        have := HRk.out
        rw [HKE.out] at this
        exact this
end Go.Proofs.YtfohcdpfgbeclaaGreat

/- law.go: the fixed examples, as terms. -/
namespace Go.Proofs.YtfohcdpfgbeclaaGreat
open Go.RowKit

def xS : Str := ⟨#[120]⟩
def yS : Str := ⟨#[121]⟩
def nS : Str := ⟨#[110]⟩
def kS' : Str := ⟨#[107]⟩
def aS : Str := ⟨#[97]⟩
def bS : Str := ⟨#[98]⟩
def mainS : Str := ⟨#[109, 97, 105, 110]⟩
def noS : Str := ⟨#[]⟩
def varT (s : Str) : Tm := .mk 0 0 s 0 [] []
def oneT : Tm := .mk 1 1 noS 0 [] []
def sumT (a b : Tm) : Tm := .mk 2 0 noS 0 [a, b] []
def callT (a : Tm) : Tm := .mk 9 0 noS 0 [a] []
def bodyT : Tm := .mk 8 0 xS 0 [sumT (varT nS) oneT, callT (varT xS)] []
def funF (t : Tm) : Fn := ⟨mainS, [⟨nS, 0⟩], 0, t⟩
def exP (t : Tm) : Pg := ⟨[], [funF t]⟩
def gotoT : Tm := .mk 12 0 kS' 0 [sumT (varT bS) (varT aS)] []
set_option maxRecDepth 100000
theorem t1 : eqS aS bS = false := by kernel_rfl
theorem t2 : nameB nS = true := by kernel_rfl
theorem t3 : validB [] = true := by kernel_rfl
theorem t4 : srcB [] = true := by kernel_rfl
theorem t5 : distB [mainS] = true := by kernel_rfl
theorem t6 : sizesB 0 [funF bodyT] = true := by kernel_rfl
theorem t7 : funB (exP bodyT) (funF bodyT) = true := by kernel_rfl
theorem t8 : progB (exP bodyT) = true := by kernel_rfl
theorem t9 : progB (exP (varT yS)) = false := by kernel_rfl
theorem t10 : nodesP (exP bodyT) = (6, 0) := by kernel_rfl
theorem t11 : termP (exP bodyT) (hasS [yS]) (hasS []) (varT yS) = (true, 0) := by kernel_rfl
theorem t12 : termP (exP bodyT) (hasS []) (hasS []) (varT yS) = (false, 0) := by kernel_rfl

theorem RT.leaf (w : World) (k : Nat) (op n : Int) (nm : Str) (ty : Int) (h1 : nm.size ≤ maxLen) (h2 : ok64 n) (h3 : ok64 ty) : RT w (k + 1) (.mk op n nm ty [] []) (.slice none 0 0) (.slice none 0 0) :=
  ⟨⟨h1, h2, h3⟩, ⟨none, 0, rfl, Nat.le_refl _, Nat.zero_le _, fun i x h => by cases h⟩, ⟨none, 0, rfl, Nat.le_refl _, Nat.zero_le _, fun i x h => by cases h⟩⟩
theorem RT.one {w : World} {g k : Nat} {op n : Int} {nm : Str} {ty : Int} {a : Tm} {xa xc : Value} (h1 : nm.size ≤ maxLen) (h2 : ok64 n) (h3 : ok64 ty)
    (hg : w.heap[g]? = some (.cells #[.int .i64 a.op, .int .i64 a.n, .string a.nm, .int .i64 a.ty, xa, xc] 43 (0, 0))) (ha : RT w k a xa xc) : RT w (k + 1) (.mk op n nm ty [a] []) (.slice (some ⟨g, 0, none⟩) 1 1) (.slice none 0 0) :=
  ⟨⟨h1, h2, h3⟩, ⟨some ⟨g, 0, none⟩, 1, rfl, Nat.le_refl _, by decide, fun i x hi => by
    match i, hi with
    | 0, hi => obtain rfl := Option.some.inj hi; exact ⟨g, 0, xa, xc, rfl, heap_lt hg, ⟨cellAt hg 0, cellAt hg 1, cellAt hg 2, cellAt hg 3, cellAt hg 4, cellAt hg 5⟩, ha⟩⟩,
    ⟨none, 0, rfl, Nat.le_refl _, Nat.zero_le _, fun i x h => by cases h⟩⟩
theorem RT.two {w : World} {g k : Nat} {op n : Int} {nm : Str} {ty : Int} {a b : Tm} {xa xc ya yc : Value} (h1 : nm.size ≤ maxLen) (h2 : ok64 n) (h3 : ok64 ty)
    (hg : w.heap[g]? = some (.cells #[.int .i64 a.op, .int .i64 a.n, .string a.nm, .int .i64 a.ty, xa, xc, .int .i64 b.op, .int .i64 b.n, .string b.nm, .int .i64 b.ty, ya, yc] 43 (0, 0))) (ha : RT w k a xa xc) (hb : RT w k b ya yc) :
    RT w (k + 1) (.mk op n nm ty [a, b] []) (.slice (some ⟨g, 0, none⟩) 2 2) (.slice none 0 0) :=
  ⟨⟨h1, h2, h3⟩, ⟨some ⟨g, 0, none⟩, 2, rfl, Nat.le_refl _, by decide, fun i x hi => by
    match i, hi with
    | 0, hi => obtain rfl := Option.some.inj hi; exact ⟨g, 0, xa, xc, rfl, heap_lt hg, ⟨cellAt hg 0, cellAt hg 1, cellAt hg 2, cellAt hg 3, cellAt hg 4, cellAt hg 5⟩, ha⟩
    | 1, hi => obtain rfl := Option.some.inj hi; exact ⟨g, 0, ya, yc, rfl, heap_lt hg, ⟨cellAt hg 6, cellAt hg 7, cellAt hg 8, cellAt hg 9, cellAt hg 10, cellAt hg 11⟩, hb⟩⟩,
    ⟨none, 0, rfl, Nat.le_refl _, Nat.zero_le _, fun i x h => by cases h⟩⟩

set_option maxHeartbeats 1000000 in
theorem variable_any (s : Str) (w : World) :
    Calls Tryz.prog 31 #[.string s] w fun e w' => e = .returned (tV (varT s) (.slice none 0 0) (.slice none 0 0)) ∧ Ext w w' := by
  go_enter Tryz.func31, Tryz.ntmps31
  go_wp2
  have HE := Lib.hid (Ext.al w (.cells #[.int .i64 0, .int .i64 0, .string s, .int .i64 0, .slice none 0 0, .slice none 0 0] 43))
  have hg := heapNew w (.cells #[.int .i64 0, .int .i64 0, .string s, .int .i64 0, .slice none 0 0, .slice none 0 0] 43)
  generalize w.alloc _ = w1 at *
  obtain ⟨c0, c1, c2, c3, c4, c5⟩ := cells6 hg
  refine bodyPost_ret (v := .agg #[.int .i64 0, .int .i64 0, .string s, .int .i64 0, .slice none 0 0, .slice none 0 0]) (by simp [results, go_sem, c0, c1, c2, c3, c4, c5]) rfl ?_
  exact ⟨rfl, HE.out⟩

set_option maxHeartbeats 2000000 in
theorem sum_any (a b : Tm) (Aa Ac Ba Bc : Option Addr) (na ca nc cc nb cb nd cd k : Nat) (w : World) (ha : RT w k a (.slice Aa na ca) (.slice Ac nc cc)) (hb : RT w k b (.slice Ba nb cb) (.slice Bc nd cd)) :
    Calls Tryz.prog 30 #[tV a (.slice Aa na ca) (.slice Ac nc cc), tV b (.slice Ba nb cb) (.slice Bc nd cd)] w fun e w' => ∃ g, e = .returned (tV (sumT a b) (.slice (some ⟨g, 0, none⟩) 2 2) (.slice none 0 0)) ∧ RT w' (k + 1) (sumT a b) (.slice (some ⟨g, 0, none⟩) 2 2) (.slice none 0 0) ∧ Ext w w' := by
  have HA := Lib.hid ha; have HB := Lib.hid hb
  clear ha hb
  go_enter Tryz.func30, Tryz.ntmps30
  go_wp2
  have HX := Lib.hid (heapFourth w (.cells #[.int .i64 a.op, .int .i64 a.n, .string a.nm, .int .i64 a.ty, .slice Aa na ca, .slice Ac nc cc] 43) (.cells #[.int .i64 b.op, .int .i64 b.n, .string b.nm, .int .i64 b.ty, .slice Ba nb cb, .slice Bc nd cd] 43)
    (.cells #[.int .i64 2, .int .i64 0, .string ⟨#[]⟩, .int .i64 0, .slice (some ⟨w.heap.size + 1 + 1 + 1, 0, none⟩) 2 2, .slice none 0 0] 43)
    (.cells #[.int .i64 a.op, .int .i64 a.n, .string a.nm, .int .i64 a.ty, .slice Aa na ca, .slice Ac nc cc, .int .i64 b.op, .int .i64 b.n, .string b.nm, .int .i64 b.ty, .slice Ba nb cb, .slice Bc nd cd] 43))
  have HE : Hid (Ext w ((((w.alloc (.cells #[.int .i64 a.op, .int .i64 a.n, .string a.nm, .int .i64 a.ty, .slice Aa na ca, .slice Ac nc cc] 43)).alloc (.cells #[.int .i64 b.op, .int .i64 b.n, .string b.nm, .int .i64 b.ty, .slice Ba nb cb, .slice Bc nd cd] 43)).alloc
    (.cells #[.int .i64 2, .int .i64 0, .string ⟨#[]⟩, .int .i64 0, .slice (some ⟨w.heap.size + 1 + 1 + 1, 0, none⟩) 2 2, .slice none 0 0] 43)).alloc
    (.cells #[.int .i64 a.op, .int .i64 a.n, .string a.nm, .int .i64 a.ty, .slice Aa na ca, .slice Ac nc cc, .int .i64 b.op, .int .i64 b.n, .string b.nm, .int .i64 b.ty, .slice Ba nb cb, .slice Bc nd cd] 43))) := (Ext.al3 _ _ _ _).tr (Ext.al _ _)
  generalize (((w.alloc _).alloc _).alloc _).alloc _ = w1 at *
  obtain ⟨c0, c1, c2, c3, c4, c5⟩ := cells6 HX.out.2.2.1
  refine bodyPost_ret (v := .agg #[.int .i64 2, .int .i64 0, .string ⟨#[]⟩, .int .i64 0, .slice (some ⟨w.heap.size + 1 + 1 + 1, 0, none⟩) 2 2, .slice none 0 0]) (by simp [results, go_sem, c0, c1, c2, c3, c4, c5]) rfl ?_
  exact ⟨_, rfl, RT.two (by decide) (by unfold ok64; decide) (by unfold ok64; decide) HX.out.2.2.2 (HA.out.below HE.out) (HB.out.below HE.out), HE.out⟩
end Go.Proofs.YtfohcdpfgbeclaaGreat
