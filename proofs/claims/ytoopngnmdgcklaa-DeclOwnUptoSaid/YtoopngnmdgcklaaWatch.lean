import Derived.Test.YtoopngnmdgcklaaRun
import Derived.Test.YtoopngnmdgcklaaPure6
namespace Go.Proofs.Ytoopngnmdgcklaa
open Go.RowKit

section
variable {w w1 w' : World} {B bs gF gW : Nat} {F : List Bool} {W : List (List Con)} {Q cs : List Con} {mis : Nat → Nat} {wv : List Value} {qv : Value}
theorem SI.ext (h : SI w B bs gF gW F W Q cs mis wv qv) (hb : Ext w w') : SI w' B bs gF gW F W Q cs mis wv qv := by
  have hk : ∀ {k : Nat} {o : Obj}, w.heap[k]? = some o → w'.heap[k]? = some o := fun {k o} h => (hb.block k (heap_lt h)).trans h
  exact ⟨hk h.hs, hk h.hF, hk h.hW, h.wl, h.Wl, fun j v L e1 e2 => own_ext (h.own j v L e1 e2) hb, own_ext h.qown hb, h.dj, h.dq, fun c hc => ⟨hk (h.boxes c hc).1, hk (h.boxes c hc).2.1, hk (h.boxes c hc).2.2⟩, h.lows, h.mq, h.mB⟩
theorem SI.add (h : SI w B bs gF gW F W Q cs mis wv qv) {c : Con} {k : Nat} (h1 : w.heap[c.m]? = some (.cells #[.int .i64 k] 3 (0, 0))) (h2 : w.heap[c.p]? = some (.cells #[.pointer (some ⟨bs, 0, none⟩)] 91 (0, 0))) (h3 : w.heap[c.q]? = some (.cells #[.int .i64 c.i] 3 (0, 0)))
    (hm : ∀ d ∈ cs, d.m ≠ c.m) (hq1 : ∀ d ∈ cs, d.m ≠ c.q) (hq2 : ∀ d ∈ cs, c.m ≠ d.q) (hq3 : c.m ≠ c.q) (hB : B ≤ c.m) : SI w B bs gF gW F W Q (cs ++ [c]) (misS mis c.m k) wv qv := by
  refine ⟨h.hs, h.hF, h.hW, h.wl, h.Wl, h.own, h.qown, h.dj, h.dq, fun d hd => ?_, h.lows, fun d hd e he => ?_, fun d hd => ?_⟩
  · rcases List.mem_append.1 hd with hd | hd
    · have e : misS mis c.m k d.m = mis d.m := by simp [misS, hm d hd]
      rw [e]; exact h.boxes d hd
    · rw [List.mem_singleton.1 hd]
      have e : misS mis c.m k c.m = k := by simp [misS]
      rw [e]; exact ⟨h1, h2, h3⟩
  · rcases List.mem_append.1 hd with hd | hd <;> rcases List.mem_append.1 he with he | he
    · exact h.mq d hd e he
    · rw [List.mem_singleton.1 he]; exact hq1 d hd
    · rw [List.mem_singleton.1 hd]; exact hq2 e he
    · rw [List.mem_singleton.1 hd, List.mem_singleton.1 he]; exact hq3
  · rcases List.mem_append.1 hd with hd | hd
    · exact h.mB d hd
    · rw [List.mem_singleton.1 hd]; exact hB
/-- A store into a cell of 'waiting' behind an append to it. -/
theorem SI.wait (h : SI w B bs gF gW F W Q cs mis wv qv) {j : Nat} (hj : j < F.length) {vj v' : Value} {L : List Con} (hv : wv[j]? = some vj)
    (hg : w.grownBy w1 vj.ownBlock) (ho : w1.ownsRow B 1 1 v' L.length (L.map clo)) (hat : v'.ownBlock = vj.ownBlock ∨ v'.ownBlock = some w.heap.size) :
    SI (w1.setCell ⟨gW, j, none⟩ v') B bs gF gW F (W.set j L) Q cs mis (wv.set j v') qv := by
  have hjw : j < wv.length := by rw [h.wl]; exact hj
  have hjW : j < W.length := by rw [h.Wl]; exact hj
  have hov := h.own j vj _ hv (List.getElem?_eq_getElem hjW)
  have hne : ∀ {k : Nat} {c : Array Value} {e : Nat}, w.heap[k]? = some (.cells c e (0, 0)) → e ≠ 1 → w1.heap[k]? = some (.cells c e (0, 0)) := fun {k c e} hk he => by
    rw [hg.block k (heap_lt hk) (fun e' => ?_)]
    · exact hk
    · obtain ⟨cur, hc⟩ := own_block hov e'.symm
      exact cells_ne hk hc he rfl
  have hgw := hne h.hW (by decide)
  have hk : ∀ k, k ≠ gW → (w1.setCell ⟨gW, j, none⟩ v').heap[k]? = w1.heap[k]? := fun k hk => heap_set_other w1 _ hk
  have hnb : ∀ {k : Nat} {c : Array Value} {e : Nat}, w.heap[k]? = some (.cells c e (0, 0)) → e ≠ 1 → e ≠ 85 → (w1.setCell ⟨gW, j, none⟩ v').heap[k]? = some (.cells c e (0, 0)) := fun {k c e} hk' he he' =>
    (hk k (cells_ne hk' h.hW he')).trans (hne hk' he)
  have hoth : ∀ {n : Nat} {v : Value} {xs : List Value}, w.ownsRow B 1 1 v n xs → (∀ g, v.ownBlock = some g → vj.ownBlock ≠ some g) → (w1.setCell ⟨gW, j, none⟩ v').ownsRow B 1 1 v n xs := fun hv hd => own_at hv fun g e => by
    obtain ⟨cur, hc⟩ := own_block hv e
    rw [hk g (cells_ne hc h.hW (by decide))]
    exact hg.block g (heap_lt hc) (fun e' => hd g e e'.symm)
  have hnew : ∀ {n : Nat} {v : Value} {xs : List Value} {g : Nat}, w.ownsRow B 1 1 v n xs → v.ownBlock = some g → (vj.ownBlock ≠ some g) → v'.ownBlock ≠ some g := fun hv e hd e' => by
    rcases hat with ha | ha
    · exact hd (ha.symm.trans e')
    · obtain ⟨cur, hc⟩ := own_block hv e
      rw [ha] at e'
      cases e'
      have := heap_lt hc
      omega
  have hdj : ∀ (i : Nat) v g, i ≠ j → wv[i]? = some v → v.ownBlock = some g → vj.ownBlock ≠ some g := fun i v g hij e1 e2 e3 => hij (h.dj i j v vj g e1 hv e2 e3)
  have hgt : ∀ {i : Nat} {v : Value}, (wv.set j v')[i]? = some v → (i = j ∧ v = v') ∨ (i ≠ j ∧ wv[i]? = some v) := fun {i v} e => by
    by_cases hij : i = j
    · subst hij
      rw [List.getElem?_set_self hjw] at e
      exact .inl ⟨rfl, by injection e with e; exact e.symm⟩
    · rw [List.getElem?_set_ne (Ne.symm hij)] at e
      exact .inr ⟨hij, e⟩
  have hwi : ∀ {i : Nat} {v : Value}, wv[i]? = some v → w.ownsRow B 1 1 v (W.getD i []).length ((W.getD i []).map clo) := fun {i v} e => by
    have hi : i < W.length := by rw [h.Wl, ← h.wl]; exact (List.getElem?_eq_some_iff.1 e).1
    have := h.own i v _ e (List.getElem?_eq_getElem hi)
    simpa [List.getD_eq_getElem?_getD, hi] using this
  refine ⟨hnb h.hs (by decide) (by decide), hnb h.hF (by decide) (by decide), ?_, by rw [List.length_set]; exact h.wl, by rw [List.length_set]; exact h.Wl, fun i v M e1 e2 => ?_, hoth h.qown (fun g e e' => h.dq j vj g hv e' e), fun a b va vb g e1 e2 e3 e4 => ?_, fun i v g e1 e2 => ?_, fun c hc => ?_, h.lows, h.mq, h.mB⟩
  · simp [World.setCell, Array.getElem?_modify, hgw]
  · rcases hgt e1 with ⟨rfl, rfl⟩ | ⟨hij, e1⟩
    · rw [List.getElem?_set_self hjW] at e2
      injection e2 with e2
      subst e2
      refine own_at ho fun g e => ?_
      obtain ⟨cur, hc⟩ := own_block ho e
      exact hk g (cells_ne hc hgw (by decide))
    · rw [List.getElem?_set_ne (Ne.symm hij)] at e2
      exact hoth (h.own i v M e1 e2) (fun g e => hdj i v g hij e1 e)
  · rcases hgt e1 with ⟨rfl, rfl⟩ | ⟨h1, f1⟩ <;> rcases hgt e2 with ⟨rfl, rfl⟩ | ⟨h2, f2⟩
    · rfl
    · exact absurd e3 (hnew (hwi f2) e4 (hdj b vb g h2 f2 e4))
    · exact absurd e4 (hnew (hwi f1) e3 (hdj a va g h1 f1 e3))
    · exact h.dj a b va vb g f1 f2 e3 e4
  · rcases hgt e1 with ⟨rfl, rfl⟩ | ⟨hij, e1⟩
    · intro e3
      exact hnew h.qown e3 (fun e4 => h.dq i vj g hv e4 e3) e2
    · exact h.dq i v g e1 e2
  · obtain ⟨a1, a2, a3⟩ := h.boxes c hc
    exact ⟨hnb a1 (by decide) (by decide), hnb a2 (by decide) (by decide), hnb a3 (by decide) (by decide)⟩
end

theorem keepNot {w w' : World} {B n : Nat} {v : Value} {xs : List Value} (hov : w.ownsRow B 1 1 v n xs) (hg : w.grownBy w' v.ownBlock) {k : Nat} {c : Array Value} {e : Nat} (hk : w.heap[k]? = some (.cells c e (0, 0))) (he : e ≠ 1) : w'.heap[k]? = some (.cells c e (0, 0)) := by
  rw [hg.block k (heap_lt hk) (fun e' => ?_)]
  · exact hk
  · obtain ⟨cur, hc⟩ := own_block hov e'.symm
    exact cells_ne hk hc he rfl
theorem addW_le (c : Con) (k : Nat) : ∀ (ts : List Nat) (W : List (List Con)), (∀ L ∈ W, L.length ≤ k) → ∀ L ∈ addW c W ts, L.length ≤ k + ts.length
  | [], W, h => h
  | t :: ts, W, h => by
    have ih := addW_le c (k + 1) ts (W.set t (W.getD t [] ++ [c])) (fun L hL => ?_)
    · intro L hL
      have := ih L hL
      simp only [List.length_cons]
      omega
    · rcases List.mem_or_eq_of_mem_set hL with hL | rfl
      · have := h L hL; omega
      · by_cases ht : t < W.length
        · have e : W.getD t [] = W[t] := by simp [List.getD_eq_getElem?_getD, ht]
          have := h _ (List.getElem_mem ht)
          rw [e, List.length_append]; simp; omega
        · have e : W.getD t [] = [] := by simp [List.getD_eq_getElem?_getD, ht]
          rw [e]; simp

/-- What 'watch' leaves, of a constructor that has no consumer. -/
structure WPost (B bs gF gW n i : Nat) (F : List Bool) (W : List (List Con)) (Q cs : List Con) (mis : Nat → Nat) (ts : List Nat) (w : World) (e : Ending) (w' : World) : Prop where
  ret : e = .returned (.tuple #[])
  si : ∃ c wv qv, c.i = i ∧ c.ts = ts ∧ SI w' B bs gF gW F (addW c W c.ts) (Q ++ [c]) (cs ++ [c]) (misS mis c.m (1 + c.ts.length)) wv qv ∧ (∀ d ∈ cs, d.m ≠ c.m)
  below : Below B w w'

set_option maxHeartbeats 2000000 in
set_option maxRecDepth 100000 in
theorem watch_yes (B bs gF gW n i : Nat) (F : List Bool) (W : List (List Con)) (Q cs : List Con) (mis : Nat → Nat) (wv : List Value) (qv va : Value) (as' : List Arg) (w : World) (h : SI w B bs gF gW F W Q cs mis wv qv)
    (hA : RArgs w va as') (hBw : B ≤ w.heap.size) (hn : F.length = n) (hn8 : n ≤ 8) (hty : ∀ a ∈ as', 0 ≤ a.ty ∧ a.ty ≤ n) (hal : as'.length ≤ 6) (hno : hasCo as' = false) (hQ : Q.length ≤ 1000) (hW : ∀ L ∈ W, L.length ≤ 1000) (hAb : ∀ w', Below B w w' → RArgs w' va as') :
    Calls Try.prog 46 #[.pointer (some ⟨bs, 0, none⟩), .int .i64 i, va] w (WPost B bs gF gW n i F W Q cs mis (tsOf as') w) := by
  have H := Lib.hid h
  have HAB := Lib.hid hAb
  have HTY := Lib.hid hty
  have HWl := Lib.hid hW
  obtain ⟨A, c, rfl, hc, hm⟩ := hA.form
  unfold maxLen at hm
  have hE1 := (Ext.al w (.cells #[.pointer (some ⟨bs, 0, none⟩)] 91)).tr (Ext.al _ (.cells #[.int .i64 i] 3))
  have HE1 := Lib.hid hE1
  have hp : ((w.alloc (.cells #[.pointer (some ⟨bs, 0, none⟩)] 91)).alloc (.cells #[.int .i64 i] 3)).heap[w.heap.size]? = some (.cells #[.pointer (some ⟨bs, 0, none⟩)] 91 (0, 0)) :=
    ((Ext.al _ _).block _ (by simp)).trans (heapNew _ _)
  have hq : ((w.alloc (.cells #[.pointer (some ⟨bs, 0, none⟩)] 91)).alloc (.cells #[.int .i64 i] 3)).heap[w.heap.size + 1]? = some (.cells #[.int .i64 i] 3 (0, 0)) := by
    have := heapNew (w.alloc (.cells #[.pointer (some ⟨bs, 0, none⟩)] 91)) (.cells #[.int .i64 i] 3)
    simpa using this
  have HA1 := Lib.hid (hA.below hE1)
  clear h hAb hty hW hA hE1
  go_enter Try.func46, Try.ntmps46
  go_wp2_with fail
  generalize World.alloc _ _ = w1 at *
  (with_reducible refine (hasConsumer_any _ _ _ HA1.out).mono ?_)
  rw [hno]
  rintro e w2 ⟨rfl, hb2⟩
  have hp := (hb2.block _ (heap_lt hp)).trans hp
  have hq := (hb2.block _ (heap_lt hq)).trans hq
  have hz2 : w.heap.size + 1 < w2.heap.size := heap_lt hq
  have HE2 := Lib.hid (HE1.out.tr hb2)
  have hE3 := Ext.al w2 (.cells #[.int .i64 1] 3)
  have HE3 := Lib.hid (HE2.out.tr hE3)
  have hm3 := heapNew w2 (.cells #[.int .i64 1] 3)
  have hp := (hE3.block _ (heap_lt hp)).trans hp
  have hq := (hE3.block _ (heap_lt hq)).trans hq
  clear hb2 hE3
  go_wp2
  have HFR : Hid (∀ d ∈ cs, d.m < w.heap.size ∧ d.q < w.heap.size) := fun d hd => ⟨heap_lt (H.out.boxes d hd).1, heap_lt (H.out.boxes d hd).2.2⟩
  obtain ⟨c0, hc0⟩ : ∃ c0 : Con, c0 = ⟨w2.heap.size, w.heap.size, w.heap.size + 1, i, tsOf as'⟩ := ⟨_, rfl⟩
  have HSI0 : Hid (SI (w2.alloc (.cells #[.int .i64 1] 3)) B bs gF gW F W Q (cs ++ [c0]) (misS mis c0.m 1) wv qv) := by
    have hfr := HFR.out
    rw [hc0]
    exact (H.out.ext HE3.out).add (k := 1) hm3 hp hq (fun d hd => by have := (hfr d hd).1; show d.m ≠ w2.heap.size; omega) (fun d hd => by have := (hfr d hd).1; show d.m ≠ w.heap.size + 1; omega) (fun d hd => by have := (hfr d hd).2; show w2.heap.size ≠ d.q; omega) (by show w2.heap.size ≠ w.heap.size + 1; omega) (by show B ≤ w2.heap.size; omega)
  have HNEW : Hid (∀ d ∈ cs, d.m ≠ c0.m) := fun d hd => by have := (HFR.out d hd).1; rw [hc0]; show d.m ≠ w2.heap.size; omega
  have HCL : Hid (clo c0 = .func (.func 55) #[] #[.pointer (some ⟨c0.m, 0, none⟩), .pointer (some ⟨c0.p, 0, none⟩), .pointer (some ⟨c0.q, 0, none⟩)]) := rfl
  have HCI : Hid (c0.i = i) := by rw [hc0]; rfl
  have HCT : Hid (c0.ts = tsOf as') := by rw [hc0]; rfl
  have hcm : w2.heap.size = c0.m := by rw [hc0]
  have hcp : w.heap.size = c0.p := by rw [hc0]
  have hcq : w.heap.size + 1 = c0.q := by rw [hc0]
  rw [hcm, hcq, hcp]
  have HB3 := Lib.hid (HE3.out.mono hBw)
  have HN := Lib.hid hn
  generalize w2.alloc _ = w3 at *
  clear hm3 hp hq hcm hcp hcq hc0 hz2 HFR HE3 HE2 HE1 H hn
  go_loopw [15] (fun j wr => ∃ (r : Nat) (wv : List Value), r ≤ as'.length ∧ j = .int .i64 r ∧ SI wr B bs gF gW F (addW c0 W (tsOf (as'.take r))) Q (cs ++ [c0]) (misS mis c0.m (1 + (tsOf (as'.take r)).length)) wv qv ∧ Below B w wr) (fun j _ => as'.length - (intOf j).toNat)
  case atStart => exact ⟨0, wv, Nat.zero_le _, rfl, HSI0.out, HB3.out⟩
  case round =>
    obtain ⟨r, wv, hr, rfl, hsi, hb⟩ := hrel
    have HS := Lib.hid hsi; have HB := Lib.hid hb
    clear hsi hb HSI0
    by_cases hlt : r < as'.length
    · have HAr := Lib.hid (HAB.out _ HB.out)
      obtain ⟨b2, o, rfl, hbl2, g0, g1⟩ := HAr.out.at_ hlt
      have htyr := HTY.out _ (List.getElem_mem hlt)
      have HTT := Lib.hid (tsOf_take hlt)
      have hcc : c0 ∈ cs ++ [c0] := by simp
      generalize as'[r] = a at *
      obtain ⟨hty0, hty1⟩ := htyr
      have hE4 := Ext.al wr (Obj.cells #[Value.int IntKind.i64 a.ty, Value.bool a.co] 50)
      have hX := heapNew wr (Obj.cells #[Value.int IntKind.i64 a.ty, Value.bool a.co] 50)
      have HS4 := Lib.hid (HS.out.ext hE4)
      have HB4 : Hid (Below B w (wr.alloc (Obj.cells #[Value.int IntKind.i64 a.ty, Value.bool a.co] 50))) := HB.out.trans (hE4.mono (by have := heap_lt HS.out.hs; have := HS.out.lows; omega))
      clear hE4
      by_cases hz : a.ty = 0
      · have hz' : (a.ty == 0) = true := by simp [hz]
        have hz2 : (a.ty != 0) = false := by simp [hz]
        have HZ := Lib.hid hz
        clear hz hX
        go_wp2
        go_roundw
        case rel =>
          have e1 : tsOf (as'.take (r + 1)) = tsOf (as'.take r) := by rw [HTT.out, tsOf_zero HZ.out, List.append_nil]
          exact ⟨r + 1, wv, by omega, by go_num, by rw [e1]; exact HS4.out, HB4.out⟩
        case measure => simp [intOf]; omega
      · have hz' : (a.ty == 0) = false := by simp [hz]
        have hz2 : (a.ty != 0) = true := by simp [hz]
        have HZ := Lib.hid hz
        clear hz
        obtain ⟨ty, co⟩ := a
        dsimp only at *
        obtain ⟨u, rfl⟩ : ∃ u : Nat, ty = u + 1 := ⟨(ty - 1).toNat, by simp at hz'; omega⟩
        have hun : u < n := by omega
        obtain ⟨T, hT⟩ : ∃ T, T = tsOf (as'.take r) := ⟨_, rfl⟩
        have hTl : T.length ≤ 6 := by
          rw [hT]
          have := tsOf_len (as'.take r)
          have h2 : (as'.take r).length ≤ as'.length := by simp; omega
          omega
        have HTs : Hid (tsOf (as'.take (r + 1)) = T ++ [u]) := by
          have e1 := tsOf_pos (a := ⟨(u : Int) + 1, co⟩) HZ.out
          have e2 : ((u : Int) + 1 - 1).toNat = u := by omega
          rw [HTT.out, e1, ← hT]
          show T ++ [((u : Int) + 1 - 1).toNat] = T ++ [u]
          rw [e2]
        rw [← hT] at HS4
        clear hT HTT
        obtain ⟨K, hK⟩ : ∃ K, K = 1 + T.length := ⟨_, rfl⟩
        rw [← hK] at HS4
        have hK7 : K ≤ 7 := by omega
        have HK := Lib.hid hK
        clear hK
        have hbm := (HS4.out.boxes c0 hcc).1
        have eK : misS mis c0.m K c0.m = K := by simp [misS]
        rw [eK] at hbm
        have m0 := cellAt hbm 0
        have mz := Lib.frozen_of_heap hbm 0
        have hS5 := HS4.out.setM hcc (K + 1)
        have eK1 : ((K + 1 : Nat) : Int) = (K : Int) + 1 := by simp
        rw [misS_misS, eK1] at hS5
        have HB5 : Hid (Below B w ((wr.alloc (Obj.cells #[Value.int IntKind.i64 (↑u + 1), Value.bool co] 50)).setCell ⟨c0.m, 0, none⟩ (.int .i64 (↑K + 1)))) := HB4.out.setCell (p := ⟨c0.m, 0, none⟩) (HS4.out.mB c0 hcc) _
        have hX5 := (heap_set_other (wr.alloc (Obj.cells #[Value.int IntKind.i64 (↑u + 1), Value.bool co] 50)) (g := c0.m) (i := 0) (.int .i64 (↑K + 1)) (cells_ne hX hbm (by decide))).trans hX
        have x0 := cellAt hX 0
        clear eK eK1 hX hbm
        have HS5 := Lib.hid hS5
        have y0 := cellAt hX5 0
        have y1 := cellAt (hS5.boxes c0 hcc).2.1 0
        have y2 := cellAt hS5.hs 1
        have huw : u < wv.length := by rw [hS5.wl, HN.out]; exact hun
        have huW : u < (addW c0 W T).length := by rw [hS5.Wl, HN.out]; exact hun
        have y3 : ((wr.alloc (Obj.cells #[Value.int IntKind.i64 (↑u + 1), Value.bool co] 50)).setCell ⟨c0.m, 0, none⟩ (.int .i64 (↑K + 1))).cell? ⟨gW, u, none⟩ = some wv[u] := by
          rw [cellAt hS5.hW u]; simp
        have hown := hS5.own u wv[u] (addW c0 W T)[u] (List.getElem?_eq_getElem huw) (List.getElem?_eq_getElem huW)
        have hFn : F.length = n := HN.out
        rw [hFn] at y2
        have HX5 := Lib.hid hX5
        clear hS5 hX5 hFn
        have HWV : Hid (wv[u]? = some wv[u]) := List.getElem?_eq_getElem huw
        have hWl1 : ((addW c0 W T)[u]).length ≤ 2000 := by have := addW_le c0 1000 T W HWl.out _ (List.getElem_mem huW); omega
        have HGD : Hid ((addW c0 W T).getD u [] = (addW c0 W T)[u]) := by show _ = _; simp [List.getD_eq_getElem?_getD, huW]
        generalize wv[u] = vi at *
        generalize (addW c0 W T)[u] = Wi at *
        have HO := Lib.hid hown; clear hown
        obtain ⟨Ai, ci, rfl, hci, hmi, -⟩ := own_form HO.out
        unfold maxLen at hmi
        go_wp2
        generalize World.setCell _ _ _ = w5 at *
        have hw1 : IntKind.i64.wrap (u : Int) = u := IntWalk.i64_in _ (by omega)
        have hw2 : IntKind.i64.wrap ((u : Int) + 1 - 1) = u := by rw [show ((u : Int) + 1 - 1) = u by omega]; exact hw1
        have hu0 : (0 : Int) ≤ u := by omega
        have hu1 : (u : Int) < n := by omega
        have HS6 : Hid (SI w5.drew B bs gF gW F (addW c0 W T) Q (cs ++ [c0]) (misS mis c0.m (K + 1)) wv qv) := ⟨HS5.out.hs, HS5.out.hF, HS5.out.hW, HS5.out.wl, HS5.out.Wl, HS5.out.own, HS5.out.qown, HS5.out.dj, HS5.out.dq, HS5.out.boxes, HS5.out.lows, HS5.out.mq, HS5.out.mB⟩
        have HB6 : Hid (Below B w w5.drew) := HB5.out.drew
        have HX6 : Hid (w5.drew.heap[wr.heap.size]? = some (.cells #[Value.int IntKind.i64 (↑u + 1), Value.bool co] 50 (0, 0))) := HX5.out
        have y3d : w5.drew.cell? ⟨gW, u, none⟩ = some (.slice Ai Wi.length ci) := y3
        refine wp_region_held_drew (S := fun w' => w'.cell? ⟨c0.p, 0, none⟩ = some (.pointer (some ⟨bs, 0, none⟩)) ∧ w'.cell? ⟨bs, 1, none⟩ = some (.slice (some ⟨gW, 0, none⟩) n n) ∧ w'.cell? ⟨wr.heap.size, 0, none⟩ = some (.int .i64 (↑u + 1))) (by kernel_rfl) ⟨y1, y2, y0⟩ (fun hHeld => ?_)
        generalize w5.drew = w6 at *
        clear y0 y1 y2 y3 HS5 HB5 HX5 HO
        have hS7 := HS6.out.ext (Ext.al w6 (.cells #[clo c0] 1))
        have hX7 := ((Ext.al w6 (.cells #[clo c0] 1)).block _ (heap_lt HX6.out)).trans HX6.out
        have HX7 := Lib.hid hX7
        have HS7 := Lib.hid hS7
        have HO7 : Hid ((w6.alloc (.cells #[clo c0] 1)).ownsRow B 1 1 (.slice Ai Wi.length ci) Wi.length (Wi.map clo)) := hS7.own u _ _ HWV.out (by
          have e1 := HGD.out
          have e2 : u < (addW c0 W T).length := by rw [HS6.out.Wl, HN.out]; exact hun
          rw [List.getElem?_eq_getElem e2]
          rw [List.getD_eq_getElem?_getD, List.getElem?_eq_getElem e2] at e1
          exact congrArg some e1)
        have hB6 : B ≤ w6.heap.size := by have := heap_lt HS6.out.hs; have := HS6.out.lows; omega
        have hB7 : B ≤ (w6.alloc (.cells #[clo c0] 1)).heap.size := by
          have := heap_lt hS7.hs; have := hS7.lows; omega
        have HH7 : Hid ((fun w' => w'.cell? ⟨c0.p, 0, none⟩ = some (.pointer (some ⟨bs, 0, none⟩)) ∧ w'.cell? ⟨bs, 1, none⟩ = some (.slice (some ⟨gW, 0, none⟩) n n) ∧ w'.cell? ⟨wr.heap.size, 0, none⟩ = some (.int .i64 (↑u + 1))) (w6.alloc (.cells #[clo c0] 1))) := by
          have q1 := cellAt hS7.hs 1
          have hFn : F.length = n := HN.out
          rw [hFn] at q1
          exact ⟨cellAt (hS7.boxes c0 hcc).2.1 0, q1, cellAt hX7 0⟩
        clear hS7 hX7
        refine wpAnyH_take (i := 0) (oi := ⟨some 24, Op.load 91 (Operand.tmp 3), 91, _, #[], none⟩) (v := ?v0) rfl (by kernel_rfl) (by kernel_rfl) (by kernel_rfl) (fun _ _ _ h => h) (Or.inl ⟨by rfl, ?hy0⟩) (by assumption) ?rest0
        case hy0 =>
          intro w hSw
          try dsimp only at hSw
          go_simp
          try with_reducible rfl
        try simp only [Act.put, List.setIfInBounds_toArray, List.set_cons_zero, List.set_cons_succ]
        refine wpAnyH_take (i := 1) (oi := ⟨some 25, Op.nilCheck (Operand.tmp 24), 0, _, #[⟨0, Ground.data⟩], none⟩) (v := ?v1) rfl (by kernel_rfl) (by kernel_rfl) (by kernel_rfl) (fun _ _ _ h => h) (Or.inl ⟨by rfl, ?hy1⟩) (by assumption) ?rest1
        case hy1 =>
          intro w hSw
          try dsimp only at hSw
          go_simp
          try with_reducible rfl
        try simp only [Act.put, List.setIfInBounds_toArray, List.set_cons_zero, List.set_cons_succ]
        refine wpAnyH_take (i := 2) (oi := ⟨some 26, Op.fieldAddr 87 (Operand.tmp 25) 1, 0, _, #[⟨1, Ground.data⟩], none⟩) (v := ?v2) rfl (by kernel_rfl) (by kernel_rfl) (by kernel_rfl) (fun _ _ _ h => h) (Or.inl ⟨by rfl, ?hy2⟩) (by assumption) ?rest2
        case hy2 =>
          intro w hSw
          try dsimp only at hSw
          go_simp
          try with_reducible rfl
        try simp only [Act.put, List.setIfInBounds_toArray, List.set_cons_zero, List.set_cons_succ]
        refine wpAnyH_take (i := 3) (oi := ⟨some 27, Op.load 84 (Operand.tmp 26), 84, _, #[⟨2, Ground.data⟩], none⟩) (v := ?v3) rfl (by kernel_rfl) (by kernel_rfl) (by kernel_rfl) (fun _ _ _ h => h) (Or.inl ⟨by rfl, ?hy3⟩) (by assumption) ?rest3
        case hy3 =>
          intro w hSw
          try dsimp only at hSw
          go_simp
          try with_reducible rfl
        try simp only [Act.put, List.setIfInBounds_toArray, List.set_cons_zero, List.set_cons_succ]
        refine wpAnyH_take (i := 4) (oi := ⟨some 28, Op.fieldAddr 50 (Operand.tmp 9) 0, 0, _, #[], none⟩) (v := ?v4) rfl (by kernel_rfl) (by kernel_rfl) (by kernel_rfl) (fun _ _ _ h => h) (Or.inl ⟨by rfl, ?hy4⟩) (by assumption) ?rest4
        case hy4 =>
          intro w hSw
          try dsimp only at hSw
          go_simp
          try with_reducible rfl
        try simp only [Act.put, List.setIfInBounds_toArray, List.set_cons_zero, List.set_cons_succ]
        refine wpAnyH_take (i := 5) (oi := ⟨some 29, Op.load 3 (Operand.tmp 28), 3, _, #[⟨4, Ground.data⟩], none⟩) (v := ?v5) rfl (by kernel_rfl) (by kernel_rfl) (by kernel_rfl) (fun _ _ _ h => h) (Or.inl ⟨by rfl, ?hy5⟩) (by assumption) ?rest5
        case hy5 =>
          intro w hSw
          try dsimp only at hSw
          go_simp
          try with_reducible rfl
        try simp only [Act.put, List.setIfInBounds_toArray, List.set_cons_zero, List.set_cons_succ]
        refine wpAnyH_take (i := 6) (oi := ⟨some 30, Op.binOp BinOp.sub 3 (Operand.tmp 29) (Operand.const (Value.int IntKind.i64 1)) 3, 3, _, #[⟨5, Ground.data⟩], none⟩) (v := ?v6) rfl (by kernel_rfl) (by kernel_rfl) (by kernel_rfl) (fun _ _ _ h => h) (Or.inl ⟨by rfl, ?hy6⟩) (by assumption) ?rest6
        case hy6 =>
          intro w hSw
          try dsimp only at hSw
          go_simp
          try with_reducible rfl
        try simp only [Act.put, List.setIfInBounds_toArray, List.set_cons_zero, List.set_cons_succ]
        refine wpAnyH_take (i := 7) (oi := ⟨some 31, Op.load 91 (Operand.tmp 3), 91, _, #[], none⟩) (v := ?v7) rfl (by kernel_rfl) (by kernel_rfl) (by kernel_rfl) (fun _ _ _ h => h) (Or.inl ⟨by rfl, ?hy7⟩) (by assumption) ?rest7
        case hy7 =>
          intro w hSw
          try dsimp only at hSw
          go_simp
          try with_reducible rfl
        try simp only [Act.put, List.setIfInBounds_toArray, List.set_cons_zero, List.set_cons_succ]
        refine wpAnyH_take (i := 8) (oi := ⟨some 32, Op.nilCheck (Operand.tmp 31), 0, _, #[⟨7, Ground.data⟩], none⟩) (v := ?v8) rfl (by kernel_rfl) (by kernel_rfl) (by kernel_rfl) (fun _ _ _ h => h) (Or.inl ⟨by rfl, ?hy8⟩) (by assumption) ?rest8
        case hy8 =>
          intro w hSw
          try dsimp only at hSw
          go_simp
          try with_reducible rfl
        try simp only [Act.put, List.setIfInBounds_toArray, List.set_cons_zero, List.set_cons_succ]
        refine wpAnyH_take (i := 9) (oi := ⟨some 33, Op.fieldAddr 87 (Operand.tmp 32) 1, 0, _, #[⟨8, Ground.data⟩], none⟩) (v := ?v9) rfl (by kernel_rfl) (by kernel_rfl) (by kernel_rfl) (fun _ _ _ h => h) (Or.inl ⟨by rfl, ?hy9⟩) (by assumption) ?rest9
        case hy9 =>
          intro w hSw
          try dsimp only at hSw
          go_simp
          try with_reducible rfl
        try simp only [Act.put, List.setIfInBounds_toArray, List.set_cons_zero, List.set_cons_succ]
        refine wpAnyH_take (i := 10) (oi := ⟨some 34, Op.load 84 (Operand.tmp 33), 84, _, #[⟨9, Ground.data⟩], none⟩) (v := ?v10) rfl (by kernel_rfl) (by kernel_rfl) (by kernel_rfl) (fun _ _ _ h => h) (Or.inl ⟨by rfl, ?hy10⟩) (by assumption) ?rest10
        case hy10 =>
          intro w hSw
          try dsimp only at hSw
          go_simp
          try with_reducible rfl
        try simp only [Act.put, List.setIfInBounds_toArray, List.set_cons_zero, List.set_cons_succ]
        refine wpAnyH_take (i := 11) (oi := ⟨some 35, Op.fieldAddr 50 (Operand.tmp 9) 0, 0, _, #[], none⟩) (v := ?v11) rfl (by kernel_rfl) (by kernel_rfl) (by kernel_rfl) (fun _ _ _ h => h) (Or.inl ⟨by rfl, ?hy11⟩) (by assumption) ?rest11
        case hy11 =>
          intro w hSw
          try dsimp only at hSw
          go_simp
          try with_reducible rfl
        try simp only [Act.put, List.setIfInBounds_toArray, List.set_cons_zero, List.set_cons_succ]
        refine wpAnyH_take (i := 12) (oi := ⟨some 36, Op.load 3 (Operand.tmp 35), 3, _, #[⟨11, Ground.data⟩], none⟩) (v := ?v12) rfl (by kernel_rfl) (by kernel_rfl) (by kernel_rfl) (fun _ _ _ h => h) (Or.inl ⟨by rfl, ?hy12⟩) (by assumption) ?rest12
        case hy12 =>
          intro w hSw
          try dsimp only at hSw
          go_simp
          try with_reducible rfl
        try simp only [Act.put, List.setIfInBounds_toArray, List.set_cons_zero, List.set_cons_succ]
        refine wpAnyH_take (i := 13) (oi := ⟨some 37, Op.binOp BinOp.sub 3 (Operand.tmp 36) (Operand.const (Value.int IntKind.i64 1)) 3, 3, _, #[⟨12, Ground.data⟩], none⟩) (v := ?v13) rfl (by kernel_rfl) (by kernel_rfl) (by kernel_rfl) (fun _ _ _ h => h) (Or.inl ⟨by rfl, ?hy13⟩) (by assumption) ?rest13
        case hy13 =>
          intro w hSw
          try dsimp only at hSw
          go_simp
          try with_reducible rfl
        try simp only [Act.put, List.setIfInBounds_toArray, List.set_cons_zero, List.set_cons_succ]
        refine wpAnyH_take (i := 14) (oi := ⟨some 38, Op.indexAddr 84 (Operand.tmp 34) (Operand.tmp 37), 0, _, #[⟨10, Ground.data⟩, ⟨13, Ground.data⟩], none⟩) (v := ?v14) rfl (by kernel_rfl) (by kernel_rfl) (by kernel_rfl) (fun _ _ _ h => h) (Or.inl ⟨by rfl, ?hy14⟩) (by assumption) ?rest14
        case hy14 =>
          intro w hSw
          try dsimp only at hSw
          go_simp
          try with_reducible rfl
        try simp only [Act.put, List.setIfInBounds_toArray, List.set_cons_zero, List.set_cons_succ]
        refine wpAnyH_take (i := 16) (oi := ⟨some 40, Op.move (Operand.tmp 7), 1, _, #[], none⟩) (v := ?v16) rfl (by kernel_rfl) (by kernel_rfl) (by kernel_rfl) (fun _ _ _ h => h) (Or.inl ⟨by rfl, ?hy16⟩) (by assumption) ?rest16
        case hy16 =>
          intro w hSw
          try dsimp only at hSw
          go_simp
          try with_reducible rfl
        try simp only [Act.put, List.setIfInBounds_toArray, List.set_cons_zero, List.set_cons_succ]
        refine wpAnyH_ready (rs := [15, 17]) (by kernel_rfl) (by simp) ?_
        refine AllReadyH.cons (o := ⟨some 39, Op.load 85 (Operand.tmp 38), 85, _, #[⟨14, Ground.data⟩], none⟩) rfl (fun K hK => ?_) ?_
        · go_simp
          refine hK.out _ _ hHeld (fun hHeld => ?_)
          clear hK K
          try simp only [Act.put, List.setIfInBounds_toArray, List.set_cons_zero, List.set_cons_succ]
          refine wpAnyH_ready (rs := [17]) (by kernel_rfl) (by simp) ?_
          refine AllReadyH.cons (o := ⟨some 41, Op.buildSlice 85 1 #[(0, Operand.tmp 40)], 85, _, #[⟨16, Ground.data⟩], none⟩) rfl (fun K hK => ?_) ?_
          · go_simp
            refine hK.out _ _ HH7.out (fun hHeld => ?_)
            clear hK K
            try simp only [Act.put, List.setIfInBounds_toArray, List.set_cons_zero, List.set_cons_succ]
            refine wpAnyH_ready (rs := [18]) (by kernel_rfl) (by simp) ?_
            refine AllReadyH.cons (o := ⟨some 42, Op.call ⟨Callee.builtin Builtin.append, #[Operand.tmp 39, Operand.tmp 41], #[85, 85]⟩, 85, _, #[⟨15, Ground.data⟩, ⟨17, Ground.data⟩], none⟩) rfl (fun K hK => ?_) ?_
            · refine step_app rfl (app_clo (.tmp 39) (.tmp 41) rfl B (.slice Ai Wi.length ci) Wi.length (Wi.map clo) rfl HO7.out (some ⟨w6.heap.size, 0, none⟩) 1 1 [clo c0] rfl ?_ ?_ ?_ ?_ ?_)
              · exact .inr ⟨_, rfl, rfl, fun j x hj => by
                  match j, hj with
                  | 0, hj => cases hj; exact cellAt (heapNew w6 (.cells #[clo c0] 1)) 0⟩
              · intro x hx
                rw [List.mem_singleton.1 hx]; rfl
              · omega
              · exact hB7
              intro v' w8 hown2 hg2 hat2
              obtain ⟨A2, c2', rfl, -⟩ := own_form hown2
              have hc8 := keepNot HO7.out hg2 (HS7.out.boxes c0 hcc).2.1 (by decide)
              have hs8 := keepNot HO7.out hg2 HS7.out.hs (by decide)
              have hX8 := keepNot HO7.out hg2 HX7.out (by decide)
              have hW8 := keepNot HO7.out hg2 HS7.out.hW (by decide)
              have HW8 := Lib.hid hW8
              have HO8 := Lib.hid hown2
              have HG8 := Lib.hid hg2
              have HAT := Lib.hid hat2
              have q1 := cellAt hs8 1
              have hFn : F.length = n := HN.out
              rw [hFn] at q1
              have HH8 : Hid ((fun w' => w'.cell? ⟨c0.p, 0, none⟩ = some (.pointer (some ⟨bs, 0, none⟩)) ∧ w'.cell? ⟨bs, 1, none⟩ = some (.slice (some ⟨gW, 0, none⟩) n n) ∧ w'.cell? ⟨wr.heap.size, 0, none⟩ = some (.int .i64 (↑u + 1))) w8) := ⟨cellAt hc8 0, q1, cellAt hX8 0⟩
              have z0 := cellAt hW8 u
              have zz := Lib.frozen_of_heap hW8 u
              have zs : u < wv.length := by rw [HS7.out.wl, HN.out]; exact hun
              have HH9 : Hid ((fun w' => w'.cell? ⟨c0.p, 0, none⟩ = some (.pointer (some ⟨bs, 0, none⟩)) ∧ w'.cell? ⟨bs, 1, none⟩ = some (.slice (some ⟨gW, 0, none⟩) n n) ∧ w'.cell? ⟨wr.heap.size, 0, none⟩ = some (.int .i64 (↑u + 1))) (w8.setCell ⟨gW, u, none⟩ (.slice A2 (Wi.length + 1) c2'))) := by
                have g1 := (heap_set_other w8 (g := gW) (i := u) (.slice A2 (Wi.length + 1) c2') (cells_ne hs8 hW8 (by decide))).trans hs8
                have q2 := cellAt g1 1
                rw [hFn] at q2
                exact ⟨cellAt ((heap_set_other w8 _ (cells_ne hc8 hW8 (by decide))).trans hc8) 0, q2, cellAt ((heap_set_other w8 _ (cells_ne hX8 hW8 (by decide))).trans hX8) 0⟩
              clear hown2 hg2 hat2 hc8 hs8 hX8 hW8 q1 hFn
              refine hK.out _ _ HH8.out (fun hHeld => ?_)
              clear hK K
              try simp only [Act.put, List.setIfInBounds_toArray, List.set_cons_zero, List.set_cons_succ]
              refine wpAnyH_ready (rs := [19]) (by kernel_rfl) (by simp) ?_
              refine AllReadyH.cons (o := ⟨some 43, Op.indexAddr 84 (Operand.tmp 27) (Operand.tmp 30), 0, _, #[⟨3, Ground.data⟩, ⟨6, Ground.data⟩, ⟨0, Ground.phase⟩, ⟨1, Ground.phase⟩, ⟨2, Ground.phase⟩, ⟨3, Ground.phase⟩, ⟨4, Ground.phase⟩, ⟨5, Ground.phase⟩, ⟨6, Ground.phase⟩, ⟨7, Ground.phase⟩, ⟨8, Ground.phase⟩, ⟨9, Ground.phase⟩, ⟨10, Ground.phase⟩, ⟨11, Ground.phase⟩, ⟨12, Ground.phase⟩, ⟨13, Ground.phase⟩, ⟨14, Ground.phase⟩, ⟨15, Ground.phase⟩, ⟨16, Ground.phase⟩, ⟨17, Ground.phase⟩, ⟨18, Ground.phase⟩], none⟩) rfl (fun K hK => ?_) ?_
              · go_simp
                refine hK.out _ _ HH8.out (fun hHeld => ?_)
                clear hK K
                try simp only [Act.put, List.setIfInBounds_toArray, List.set_cons_zero, List.set_cons_succ]
                refine wpAnyH_ready (rs := [20]) (by kernel_rfl) (by simp) ?_
                refine AllReadyH.cons (o := ⟨none, Op.store 85 (Operand.tmp 43) (Operand.tmp 42), 0, _, #[⟨19, Ground.data⟩, ⟨18, Ground.data⟩, ⟨18, Ground.chain⟩, ⟨0, Ground.phase⟩, ⟨1, Ground.phase⟩, ⟨2, Ground.phase⟩, ⟨3, Ground.phase⟩, ⟨4, Ground.phase⟩, ⟨5, Ground.phase⟩, ⟨6, Ground.phase⟩, ⟨7, Ground.phase⟩, ⟨8, Ground.phase⟩, ⟨9, Ground.phase⟩, ⟨10, Ground.phase⟩, ⟨11, Ground.phase⟩, ⟨12, Ground.phase⟩, ⟨13, Ground.phase⟩, ⟨14, Ground.phase⟩, ⟨15, Ground.phase⟩, ⟨16, Ground.phase⟩, ⟨17, Ground.phase⟩, ⟨18, Ground.phase⟩], none⟩) rfl (fun K hK => ?_) ?_
                · go_simp
                  refine hK.out _ _ HH9.out (fun hHeld => ?_)
                  clear hK K
                  try simp only [Act.put, List.setIfInBounds_toArray, List.set_cons_zero, List.set_cons_succ]
                  refine wpAnyH_done (by kernel_rfl) ?_ _
                  go_wp2
                  go_roundw
                  case rel =>
                    have h1 := HTs.out
                    have h2 : addW c0 W (T ++ [u]) = (addW c0 W T).set u (Wi ++ [c0]) := by
                      rw [addW_append]
                      show (addW c0 W T).set u ((addW c0 W T).getD u [] ++ [c0]) = _
                      rw [HGD.out]
                    have h3 : 1 + (T ++ [u]).length = K + 1 := by have := HK.out; rw [List.length_append]; simp; omega
                    have h4 : w8.ownsRow B 1 1 (.slice A2 (Wi.length + 1) c2') (Wi ++ [c0]).length ((Wi ++ [c0]).map clo) := by
                      rw [List.length_append, List.map_append]; exact HO8.out
                    refine ⟨r + 1, wv.set u (.slice A2 (Wi.length + 1) c2'), by omega, by go_num, ?_, (((HB6.out.alloc hB6 _).grown HG8.out hB7 (fun k e => (HO7.out.lt k e).1)).setCell (p := ⟨gW, u, none⟩) HS7.out.lows.2.2 _)⟩
                    rw [h1, h2, h3]
                    exact HS7.out.wait (by have := HN.out; omega) HWV.out HG8.out h4 HAT.out
                  case measure => simp [intOf]; omega
                · exact AllReadyH.nil
              · exact AllReadyH.nil
            · exact AllReadyH.nil
          · exact AllReadyH.nil
        refine AllReadyH.cons (o := ⟨some 41, Op.buildSlice 85 1 #[(0, Operand.tmp 40)], 85, _, #[⟨16, Ground.data⟩], none⟩) rfl (fun K hK => ?_) ?_
        · go_simp
          refine hK.out _ _ HH7.out (fun hHeld => ?_)
          clear hK K
          try simp only [Act.put, List.setIfInBounds_toArray, List.set_cons_zero, List.set_cons_succ]
          generalize hw7 : w6.alloc _ = w7
          have y3e : w7.cell? ⟨gW, u, none⟩ = some (.slice Ai Wi.length ci) := by
            rw [← hw7]
            show (w6.alloc (.cells #[clo c0] 1)).cell? _ = _
            have e1 := cellAt HS7.out.hW u
            have e2 := HWV.out
            rw [e1]; simpa using e2
          refine wpAnyH_ready (rs := [15]) (by kernel_rfl) (by simp) ?_
          have hHeld : (fun w' => w'.cell? ⟨c0.p, 0, none⟩ = some (.pointer (some ⟨bs, 0, none⟩)) ∧ w'.cell? ⟨bs, 1, none⟩ = some (.slice (some ⟨gW, 0, none⟩) n n) ∧ w'.cell? ⟨wr.heap.size, 0, none⟩ = some (.int .i64 (↑u + 1))) w7 := by rw [← hw7]; exact HH7.out
          clear y3d
          refine AllReadyH.cons (o := ⟨some 39, Op.load 85 (Operand.tmp 38), 85, _, #[⟨14, Ground.data⟩], none⟩) rfl (fun K hK => ?_) ?_
          · go_simp
            refine hK.out _ _ hHeld (fun hHeld => ?_)
            subst hw7
            clear hK K
            try simp only [Act.put, List.setIfInBounds_toArray, List.set_cons_zero, List.set_cons_succ]
            refine wpAnyH_ready (rs := [18]) (by kernel_rfl) (by simp) ?_
            refine AllReadyH.cons (o := ⟨some 42, Op.call ⟨Callee.builtin Builtin.append, #[Operand.tmp 39, Operand.tmp 41], #[85, 85]⟩, 85, _, #[⟨15, Ground.data⟩, ⟨17, Ground.data⟩], none⟩) rfl (fun K hK => ?_) ?_
            · refine step_app rfl (app_clo (.tmp 39) (.tmp 41) rfl B (.slice Ai Wi.length ci) Wi.length (Wi.map clo) rfl HO7.out (some ⟨w6.heap.size, 0, none⟩) 1 1 [clo c0] rfl ?_ ?_ ?_ ?_ ?_)
              · exact .inr ⟨_, rfl, rfl, fun j x hj => by
                  match j, hj with
                  | 0, hj => cases hj; exact cellAt (heapNew w6 (.cells #[clo c0] 1)) 0⟩
              · intro x hx
                rw [List.mem_singleton.1 hx]; rfl
              · omega
              · exact hB7
              intro v' w8 hown2 hg2 hat2
              obtain ⟨A2, c2', rfl, -⟩ := own_form hown2
              have hc8 := keepNot HO7.out hg2 (HS7.out.boxes c0 hcc).2.1 (by decide)
              have hs8 := keepNot HO7.out hg2 HS7.out.hs (by decide)
              have hX8 := keepNot HO7.out hg2 HX7.out (by decide)
              have hW8 := keepNot HO7.out hg2 HS7.out.hW (by decide)
              have HW8 := Lib.hid hW8
              have HO8 := Lib.hid hown2
              have HG8 := Lib.hid hg2
              have HAT := Lib.hid hat2
              have q1 := cellAt hs8 1
              have hFn : F.length = n := HN.out
              rw [hFn] at q1
              have HH8 : Hid ((fun w' => w'.cell? ⟨c0.p, 0, none⟩ = some (.pointer (some ⟨bs, 0, none⟩)) ∧ w'.cell? ⟨bs, 1, none⟩ = some (.slice (some ⟨gW, 0, none⟩) n n) ∧ w'.cell? ⟨wr.heap.size, 0, none⟩ = some (.int .i64 (↑u + 1))) w8) := ⟨cellAt hc8 0, q1, cellAt hX8 0⟩
              have z0 := cellAt hW8 u
              have zz := Lib.frozen_of_heap hW8 u
              have zs : u < wv.length := by rw [HS7.out.wl, HN.out]; exact hun
              have HH9 : Hid ((fun w' => w'.cell? ⟨c0.p, 0, none⟩ = some (.pointer (some ⟨bs, 0, none⟩)) ∧ w'.cell? ⟨bs, 1, none⟩ = some (.slice (some ⟨gW, 0, none⟩) n n) ∧ w'.cell? ⟨wr.heap.size, 0, none⟩ = some (.int .i64 (↑u + 1))) (w8.setCell ⟨gW, u, none⟩ (.slice A2 (Wi.length + 1) c2'))) := by
                have g1 := (heap_set_other w8 (g := gW) (i := u) (.slice A2 (Wi.length + 1) c2') (cells_ne hs8 hW8 (by decide))).trans hs8
                have q2 := cellAt g1 1
                rw [hFn] at q2
                exact ⟨cellAt ((heap_set_other w8 _ (cells_ne hc8 hW8 (by decide))).trans hc8) 0, q2, cellAt ((heap_set_other w8 _ (cells_ne hX8 hW8 (by decide))).trans hX8) 0⟩
              clear hown2 hg2 hat2 hc8 hs8 hX8 hW8 q1 hFn
              refine hK.out _ _ HH8.out (fun hHeld => ?_)
              clear hK K
              try simp only [Act.put, List.setIfInBounds_toArray, List.set_cons_zero, List.set_cons_succ]
              refine wpAnyH_ready (rs := [19]) (by kernel_rfl) (by simp) ?_
              refine AllReadyH.cons (o := ⟨some 43, Op.indexAddr 84 (Operand.tmp 27) (Operand.tmp 30), 0, _, #[⟨3, Ground.data⟩, ⟨6, Ground.data⟩, ⟨0, Ground.phase⟩, ⟨1, Ground.phase⟩, ⟨2, Ground.phase⟩, ⟨3, Ground.phase⟩, ⟨4, Ground.phase⟩, ⟨5, Ground.phase⟩, ⟨6, Ground.phase⟩, ⟨7, Ground.phase⟩, ⟨8, Ground.phase⟩, ⟨9, Ground.phase⟩, ⟨10, Ground.phase⟩, ⟨11, Ground.phase⟩, ⟨12, Ground.phase⟩, ⟨13, Ground.phase⟩, ⟨14, Ground.phase⟩, ⟨15, Ground.phase⟩, ⟨16, Ground.phase⟩, ⟨17, Ground.phase⟩, ⟨18, Ground.phase⟩], none⟩) rfl (fun K hK => ?_) ?_
              · go_simp
                refine hK.out _ _ HH8.out (fun hHeld => ?_)
                clear hK K
                try simp only [Act.put, List.setIfInBounds_toArray, List.set_cons_zero, List.set_cons_succ]
                refine wpAnyH_ready (rs := [20]) (by kernel_rfl) (by simp) ?_
                refine AllReadyH.cons (o := ⟨none, Op.store 85 (Operand.tmp 43) (Operand.tmp 42), 0, _, #[⟨19, Ground.data⟩, ⟨18, Ground.data⟩, ⟨18, Ground.chain⟩, ⟨0, Ground.phase⟩, ⟨1, Ground.phase⟩, ⟨2, Ground.phase⟩, ⟨3, Ground.phase⟩, ⟨4, Ground.phase⟩, ⟨5, Ground.phase⟩, ⟨6, Ground.phase⟩, ⟨7, Ground.phase⟩, ⟨8, Ground.phase⟩, ⟨9, Ground.phase⟩, ⟨10, Ground.phase⟩, ⟨11, Ground.phase⟩, ⟨12, Ground.phase⟩, ⟨13, Ground.phase⟩, ⟨14, Ground.phase⟩, ⟨15, Ground.phase⟩, ⟨16, Ground.phase⟩, ⟨17, Ground.phase⟩, ⟨18, Ground.phase⟩], none⟩) rfl (fun K hK => ?_) ?_
                · go_simp
                  refine hK.out _ _ HH9.out (fun hHeld => ?_)
                  clear hK K
                  try simp only [Act.put, List.setIfInBounds_toArray, List.set_cons_zero, List.set_cons_succ]
                  refine wpAnyH_done (by kernel_rfl) ?_ _
                  go_wp2
                  go_roundw
                  case rel =>
                    have h1 := HTs.out
                    have h2 : addW c0 W (T ++ [u]) = (addW c0 W T).set u (Wi ++ [c0]) := by
                      rw [addW_append]
                      show (addW c0 W T).set u ((addW c0 W T).getD u [] ++ [c0]) = _
                      rw [HGD.out]
                    have h3 : 1 + (T ++ [u]).length = K + 1 := by have := HK.out; rw [List.length_append]; simp; omega
                    have h4 : w8.ownsRow B 1 1 (.slice A2 (Wi.length + 1) c2') (Wi ++ [c0]).length ((Wi ++ [c0]).map clo) := by
                      rw [List.length_append, List.map_append]; exact HO8.out
                    refine ⟨r + 1, wv.set u (.slice A2 (Wi.length + 1) c2'), by omega, by go_num, ?_, (((HB6.out.alloc hB6 _).grown HG8.out hB7 (fun k e => (HO7.out.lt k e).1)).setCell (p := ⟨gW, u, none⟩) HS7.out.lows.2.2 _)⟩
                    rw [h1, h2, h3]
                    exact HS7.out.wait (by have := HN.out; omega) HWV.out HG8.out h4 HAT.out
                  case measure => simp [intOf]; omega
                · exact AllReadyH.nil
              · exact AllReadyH.nil
            · exact AllReadyH.nil
          · exact AllReadyH.nil
        · exact AllReadyH.nil
    · have hre : r = as'.length := by omega
      subst hre
      rw [List.take_length] at HS
      have hcc : c0 ∈ cs ++ [c0] := by simp
      have hbp := (HS.out.boxes c0 hcc).2.1
      have y1 := cellAt hbp 0
      have HQ := Lib.hid HS.out.qown
      obtain ⟨Aq, cq, rfl, hcq, hmq, -⟩ := own_form HQ.out
      unfold maxLen at hmq
      have y2 := cellAt HS.out.hs 2
      clear hbp
      go_wp2
      have HS6 : Hid (SI wr.drew B bs gF gW F (addW c0 W (tsOf as')) Q (cs ++ [c0]) (misS mis c0.m (1 + (tsOf as').length)) wv (.slice Aq Q.length cq)) := ⟨HS.out.hs, HS.out.hF, HS.out.hW, HS.out.wl, HS.out.Wl, HS.out.own, HS.out.qown, HS.out.dj, HS.out.dq, HS.out.boxes, HS.out.lows, HS.out.mq, HS.out.mB⟩
      have HB6 : Hid (Below B w wr.drew) := HB.out.drew
      have y2d : wr.drew.cell? ⟨bs, 2, none⟩ = some (.slice Aq Q.length cq) := y2
      refine wp_region_held_drew (S := fun w' => w'.cell? ⟨c0.p, 0, none⟩ = some (.pointer (some ⟨bs, 0, none⟩))) (by kernel_rfl) y1 (fun hHeld => ?_)
      generalize wr.drew = w6 at *
      clear y1 y2 HS HB HQ
      have hS7 := HS6.out.ext (Ext.al w6 (.cells #[clo c0] 1))
      have HS7 := Lib.hid hS7
      have HO7 := Lib.hid hS7.qown
      have hB6 : B ≤ w6.heap.size := by have := heap_lt HS6.out.hs; have := HS6.out.lows; omega
      have hB7 : B ≤ (w6.alloc (.cells #[clo c0] 1)).heap.size := by
        have := heap_lt hS7.hs; have := hS7.lows; omega
      have HH7 : Hid ((fun w' => w'.cell? ⟨c0.p, 0, none⟩ = some (.pointer (some ⟨bs, 0, none⟩))) (w6.alloc (.cells #[clo c0] 1))) := cellAt (hS7.boxes c0 hcc).2.1 0
      clear hS7
      refine wpAnyH_take (i := 0) (oi := ⟨some 45, Op.load 91 (Operand.tmp 3), 91, _, #[], none⟩) (v := ?v0q) rfl (by kernel_rfl) (by kernel_rfl) (by kernel_rfl) (fun _ _ _ h => h) (Or.inl ⟨by rfl, ?hy0q⟩) (by assumption) ?rest0q
      case hy0q =>
        intro w hSw
        try dsimp only at hSw
        go_simp
        try with_reducible rfl
      try simp only [Act.put, List.setIfInBounds_toArray, List.set_cons_zero, List.set_cons_succ]
      refine wpAnyH_take (i := 1) (oi := ⟨some 46, Op.load 91 (Operand.tmp 3), 91, _, #[], none⟩) (v := ?v1q) rfl (by kernel_rfl) (by kernel_rfl) (by kernel_rfl) (fun _ _ _ h => h) (Or.inl ⟨by rfl, ?hy1q⟩) (by assumption) ?rest1q
      case hy1q =>
        intro w hSw
        try dsimp only at hSw
        go_simp
        try with_reducible rfl
      try simp only [Act.put, List.setIfInBounds_toArray, List.set_cons_zero, List.set_cons_succ]
      refine wpAnyH_take (i := 2) (oi := ⟨some 47, Op.nilCheck (Operand.tmp 46), 0, _, #[⟨1, Ground.data⟩], none⟩) (v := ?v2q) rfl (by kernel_rfl) (by kernel_rfl) (by kernel_rfl) (fun _ _ _ h => h) (Or.inl ⟨by rfl, ?hy2q⟩) (by assumption) ?rest2q
      case hy2q =>
        intro w hSw
        try dsimp only at hSw
        go_simp
        try with_reducible rfl
      try simp only [Act.put, List.setIfInBounds_toArray, List.set_cons_zero, List.set_cons_succ]
      refine wpAnyH_take (i := 3) (oi := ⟨some 48, Op.fieldAddr 87 (Operand.tmp 47) 2, 0, _, #[⟨2, Ground.data⟩], none⟩) (v := ?v3q) rfl (by kernel_rfl) (by kernel_rfl) (by kernel_rfl) (fun _ _ _ h => h) (Or.inl ⟨by rfl, ?hy3q⟩) (by assumption) ?rest3q
      case hy3q =>
        intro w hSw
        try dsimp only at hSw
        go_simp
        try with_reducible rfl
      try simp only [Act.put, List.setIfInBounds_toArray, List.set_cons_zero, List.set_cons_succ]
      refine wpAnyH_take (i := 5) (oi := ⟨some 50, Op.move (Operand.tmp 7), 1, _, #[], none⟩) (v := ?v5q) rfl (by kernel_rfl) (by kernel_rfl) (by kernel_rfl) (fun _ _ _ h => h) (Or.inl ⟨by rfl, ?hy5q⟩) (by assumption) ?rest5q
      case hy5q =>
        intro w hSw
        try dsimp only at hSw
        go_simp
        try with_reducible rfl
      try simp only [Act.put, List.setIfInBounds_toArray, List.set_cons_zero, List.set_cons_succ]
      refine wpAnyH_ready (rs := [4, 6]) (by kernel_rfl) (by simp) ?_
      refine AllReadyH.cons (o := ⟨some 49, Op.load 85 (Operand.tmp 48), 85, _, #[⟨3, Ground.data⟩], none⟩) rfl (fun K hK => ?_) ?_
      · go_simp
        refine hK.out _ _ hHeld (fun hHeld => ?_)
        clear hK K
        try simp only [Act.put, List.setIfInBounds_toArray, List.set_cons_zero, List.set_cons_succ]
        refine wpAnyH_ready (rs := [6]) (by kernel_rfl) (by simp) ?_
        refine AllReadyH.cons (o := ⟨some 51, Op.buildSlice 85 1 #[(0, Operand.tmp 50)], 85, _, #[⟨5, Ground.data⟩], none⟩) rfl (fun K hK => ?_) ?_
        · go_simp
          refine hK.out _ _ HH7.out (fun hHeld => ?_)
          clear hK K
          try simp only [Act.put, List.setIfInBounds_toArray, List.set_cons_zero, List.set_cons_succ]
          refine wpAnyH_ready (rs := [7]) (by kernel_rfl) (by simp) ?_
          refine AllReadyH.cons (o := ⟨some 52, Op.call ⟨Callee.builtin Builtin.append, #[Operand.tmp 49, Operand.tmp 51], #[85, 85]⟩, 85, _, #[⟨4, Ground.data⟩, ⟨6, Ground.data⟩], none⟩) rfl (fun K hK => ?_) ?_
          · refine step_app rfl (app_clo (.tmp 49) (.tmp 51) rfl B (.slice Aq Q.length cq) Q.length (Q.map clo) rfl HO7.out (some ⟨w6.heap.size, 0, none⟩) 1 1 [clo c0] rfl ?_ ?_ ?_ ?_ ?_)
            · exact .inr ⟨_, rfl, rfl, fun j x hj => by
                match j, hj with
                | 0, hj => cases hj; exact cellAt (heapNew w6 (.cells #[clo c0] 1)) 0⟩
            · intro x hx
              rw [List.mem_singleton.1 hx]; rfl
            · omega
            · exact hB7
            intro v' w8 hown2 hg2 hat2
            obtain ⟨A2, c2', rfl, -⟩ := own_form hown2
            have hc8 := keepNot HO7.out hg2 (HS7.out.boxes c0 hcc).2.1 (by decide)
            have hs8 := keepNot HO7.out hg2 HS7.out.hs (by decide)
            have HO8 := Lib.hid hown2
            have HG8 := Lib.hid hg2
            have HAT := Lib.hid hat2
            have HH8 : Hid ((fun w' => w'.cell? ⟨c0.p, 0, none⟩ = some (.pointer (some ⟨bs, 0, none⟩))) w8) := cellAt hc8 0
            have z0 := cellAt hs8 2
            have zz := Lib.frozen_of_heap hs8 2
            have HH9 : Hid ((fun w' => w'.cell? ⟨c0.p, 0, none⟩ = some (.pointer (some ⟨bs, 0, none⟩))) (w8.setCell ⟨bs, 2, none⟩ (.slice A2 (Q.length + 1) c2'))) := cellAt ((heap_set_other w8 _ (cells_ne hc8 hs8 (by decide))).trans hc8) 0
            clear hown2 hg2 hat2 hc8 hs8
            refine hK.out _ _ HH8.out (fun hHeld => ?_)
            clear hK K
            try simp only [Act.put, List.setIfInBounds_toArray, List.set_cons_zero, List.set_cons_succ]
            refine wpAnyH_take (i := 8) (oi := ⟨some 53, Op.nilCheck (Operand.tmp 45), 0, _, #[⟨0, Ground.data⟩, ⟨0, Ground.phase⟩, ⟨1, Ground.phase⟩, ⟨2, Ground.phase⟩, ⟨3, Ground.phase⟩, ⟨4, Ground.phase⟩, ⟨5, Ground.phase⟩, ⟨6, Ground.phase⟩, ⟨7, Ground.phase⟩], none⟩) (v := ?v8a) rfl (by kernel_rfl) (by kernel_rfl) (by kernel_rfl) (fun _ _ _ h => h) (Or.inl ⟨by rfl, ?hy8a⟩) (by assumption) ?rest8a
            case hy8a =>
              intro w hSw
              try dsimp only at hSw
              go_simp
              try with_reducible rfl
            try simp only [Act.put, List.setIfInBounds_toArray, List.set_cons_zero, List.set_cons_succ]
            refine wpAnyH_take (i := 9) (oi := ⟨some 54, Op.fieldAddr 87 (Operand.tmp 53) 2, 0, _, #[⟨8, Ground.data⟩, ⟨0, Ground.phase⟩, ⟨1, Ground.phase⟩, ⟨2, Ground.phase⟩, ⟨3, Ground.phase⟩, ⟨4, Ground.phase⟩, ⟨5, Ground.phase⟩, ⟨6, Ground.phase⟩, ⟨7, Ground.phase⟩], none⟩) (v := ?v9a) rfl (by kernel_rfl) (by kernel_rfl) (by kernel_rfl) (fun _ _ _ h => h) (Or.inl ⟨by rfl, ?hy9a⟩) (by assumption) ?rest9a
            case hy9a =>
              intro w hSw
              try dsimp only at hSw
              go_simp
              try with_reducible rfl
            try simp only [Act.put, List.setIfInBounds_toArray, List.set_cons_zero, List.set_cons_succ]
            refine wpAnyH_ready (rs := [10]) (by kernel_rfl) (by simp) ?_
            refine AllReadyH.cons (o := ⟨none, Op.store 85 (Operand.tmp 54) (Operand.tmp 52), 0, _, #[⟨9, Ground.data⟩, ⟨7, Ground.data⟩, ⟨7, Ground.chain⟩, ⟨0, Ground.phase⟩, ⟨1, Ground.phase⟩, ⟨2, Ground.phase⟩, ⟨3, Ground.phase⟩, ⟨4, Ground.phase⟩, ⟨5, Ground.phase⟩, ⟨6, Ground.phase⟩, ⟨7, Ground.phase⟩], none⟩) rfl (fun K hK => ?_) ?_
            · go_simp
              refine hK.out _ _ HH9.out (fun hHeld => ?_)
              clear hK K
              try simp only [Act.put, List.setIfInBounds_toArray, List.set_cons_zero, List.set_cons_succ]
              refine wpAnyH_done (by kernel_rfl) ?_ _
              go_wp2
              go_end0
              have hq2 : w8.ownsRow B 1 1 (.slice A2 (Q.length + 1) c2') (Q ++ [c0]).length ((Q ++ [c0]).map clo) := by
                rw [List.length_append, List.map_append]; exact HO8.out
              refine ⟨rfl, ⟨c0, wv, .slice A2 (Q.length + 1) c2', HCI.out, HCT.out, ?_, HNEW.out⟩, (((HB6.out.alloc hB6 _).grown HG8.out hB7 (fun k e => (HO7.out.lt k e).1)).setCell (p := ⟨bs, 2, none⟩) HS7.out.lows.1 _)⟩
              rw [HCT.out]
              exact HS7.out.work HG8.out hq2 HAT.out
            · exact AllReadyH.nil
          · exact AllReadyH.nil
        · exact AllReadyH.nil
      refine AllReadyH.cons (o := ⟨some 51, Op.buildSlice 85 1 #[(0, Operand.tmp 50)], 85, _, #[⟨5, Ground.data⟩], none⟩) rfl (fun K hK => ?_) ?_
      · go_simp
        refine hK.out _ _ HH7.out (fun hHeld => ?_)
        clear hK K
        try simp only [Act.put, List.setIfInBounds_toArray, List.set_cons_zero, List.set_cons_succ]
        generalize hw7 : w6.alloc _ = w7
        have y2e : w7.cell? ⟨bs, 2, none⟩ = some (.slice Aq Q.length cq) := by
          rw [← hw7]
          exact cellAt HS7.out.hs 2
        have hHeld : (fun w' => w'.cell? ⟨c0.p, 0, none⟩ = some (.pointer (some ⟨bs, 0, none⟩))) w7 := by rw [← hw7]; exact HH7.out
        clear y2d
        refine wpAnyH_ready (rs := [4]) (by kernel_rfl) (by simp) ?_
        refine AllReadyH.cons (o := ⟨some 49, Op.load 85 (Operand.tmp 48), 85, _, #[⟨3, Ground.data⟩], none⟩) rfl (fun K hK => ?_) ?_
        · go_simp
          refine hK.out _ _ hHeld (fun hHeld => ?_)
          subst hw7
          clear hK K
          try simp only [Act.put, List.setIfInBounds_toArray, List.set_cons_zero, List.set_cons_succ]
          refine wpAnyH_ready (rs := [7]) (by kernel_rfl) (by simp) ?_
          refine AllReadyH.cons (o := ⟨some 52, Op.call ⟨Callee.builtin Builtin.append, #[Operand.tmp 49, Operand.tmp 51], #[85, 85]⟩, 85, _, #[⟨4, Ground.data⟩, ⟨6, Ground.data⟩], none⟩) rfl (fun K hK => ?_) ?_
          · refine step_app rfl (app_clo (.tmp 49) (.tmp 51) rfl B (.slice Aq Q.length cq) Q.length (Q.map clo) rfl HO7.out (some ⟨w6.heap.size, 0, none⟩) 1 1 [clo c0] rfl ?_ ?_ ?_ ?_ ?_)
            · exact .inr ⟨_, rfl, rfl, fun j x hj => by
                match j, hj with
                | 0, hj => cases hj; exact cellAt (heapNew w6 (.cells #[clo c0] 1)) 0⟩
            · intro x hx
              rw [List.mem_singleton.1 hx]; rfl
            · omega
            · exact hB7
            intro v' w8 hown2 hg2 hat2
            obtain ⟨A2, c2', rfl, -⟩ := own_form hown2
            have hc8 := keepNot HO7.out hg2 (HS7.out.boxes c0 hcc).2.1 (by decide)
            have hs8 := keepNot HO7.out hg2 HS7.out.hs (by decide)
            have HO8 := Lib.hid hown2
            have HG8 := Lib.hid hg2
            have HAT := Lib.hid hat2
            have HH8 : Hid ((fun w' => w'.cell? ⟨c0.p, 0, none⟩ = some (.pointer (some ⟨bs, 0, none⟩))) w8) := cellAt hc8 0
            have z0 := cellAt hs8 2
            have zz := Lib.frozen_of_heap hs8 2
            have HH9 : Hid ((fun w' => w'.cell? ⟨c0.p, 0, none⟩ = some (.pointer (some ⟨bs, 0, none⟩))) (w8.setCell ⟨bs, 2, none⟩ (.slice A2 (Q.length + 1) c2'))) := cellAt ((heap_set_other w8 _ (cells_ne hc8 hs8 (by decide))).trans hc8) 0
            clear hown2 hg2 hat2 hc8 hs8
            refine hK.out _ _ HH8.out (fun hHeld => ?_)
            clear hK K
            try simp only [Act.put, List.setIfInBounds_toArray, List.set_cons_zero, List.set_cons_succ]
            refine wpAnyH_take (i := 8) (oi := ⟨some 53, Op.nilCheck (Operand.tmp 45), 0, _, #[⟨0, Ground.data⟩, ⟨0, Ground.phase⟩, ⟨1, Ground.phase⟩, ⟨2, Ground.phase⟩, ⟨3, Ground.phase⟩, ⟨4, Ground.phase⟩, ⟨5, Ground.phase⟩, ⟨6, Ground.phase⟩, ⟨7, Ground.phase⟩], none⟩) (v := ?v8b) rfl (by kernel_rfl) (by kernel_rfl) (by kernel_rfl) (fun _ _ _ h => h) (Or.inl ⟨by rfl, ?hy8b⟩) (by assumption) ?rest8b
            case hy8b =>
              intro w hSw
              try dsimp only at hSw
              go_simp
              try with_reducible rfl
            try simp only [Act.put, List.setIfInBounds_toArray, List.set_cons_zero, List.set_cons_succ]
            refine wpAnyH_take (i := 9) (oi := ⟨some 54, Op.fieldAddr 87 (Operand.tmp 53) 2, 0, _, #[⟨8, Ground.data⟩, ⟨0, Ground.phase⟩, ⟨1, Ground.phase⟩, ⟨2, Ground.phase⟩, ⟨3, Ground.phase⟩, ⟨4, Ground.phase⟩, ⟨5, Ground.phase⟩, ⟨6, Ground.phase⟩, ⟨7, Ground.phase⟩], none⟩) (v := ?v9b) rfl (by kernel_rfl) (by kernel_rfl) (by kernel_rfl) (fun _ _ _ h => h) (Or.inl ⟨by rfl, ?hy9b⟩) (by assumption) ?rest9b
            case hy9b =>
              intro w hSw
              try dsimp only at hSw
              go_simp
              try with_reducible rfl
            try simp only [Act.put, List.setIfInBounds_toArray, List.set_cons_zero, List.set_cons_succ]
            refine wpAnyH_ready (rs := [10]) (by kernel_rfl) (by simp) ?_
            refine AllReadyH.cons (o := ⟨none, Op.store 85 (Operand.tmp 54) (Operand.tmp 52), 0, _, #[⟨9, Ground.data⟩, ⟨7, Ground.data⟩, ⟨7, Ground.chain⟩, ⟨0, Ground.phase⟩, ⟨1, Ground.phase⟩, ⟨2, Ground.phase⟩, ⟨3, Ground.phase⟩, ⟨4, Ground.phase⟩, ⟨5, Ground.phase⟩, ⟨6, Ground.phase⟩, ⟨7, Ground.phase⟩], none⟩) rfl (fun K hK => ?_) ?_
            · go_simp
              refine hK.out _ _ HH9.out (fun hHeld => ?_)
              clear hK K
              try simp only [Act.put, List.setIfInBounds_toArray, List.set_cons_zero, List.set_cons_succ]
              refine wpAnyH_done (by kernel_rfl) ?_ _
              go_wp2
              go_end0
              have hq2 : w8.ownsRow B 1 1 (.slice A2 (Q.length + 1) c2') (Q ++ [c0]).length ((Q ++ [c0]).map clo) := by
                rw [List.length_append, List.map_append]; exact HO8.out
              refine ⟨rfl, ⟨c0, wv, .slice A2 (Q.length + 1) c2', HCI.out, HCT.out, ?_, HNEW.out⟩, (((HB6.out.alloc hB6 _).grown HG8.out hB7 (fun k e => (HO7.out.lt k e).1)).setCell (p := ⟨bs, 2, none⟩) HS7.out.lows.1 _)⟩
              rw [HCT.out]
              exact HS7.out.work HG8.out hq2 HAT.out
            · exact AllReadyH.nil
          · exact AllReadyH.nil
        · exact AllReadyH.nil
      · exact AllReadyH.nil
end Go.Proofs.Ytoopngnmdgcklaa
