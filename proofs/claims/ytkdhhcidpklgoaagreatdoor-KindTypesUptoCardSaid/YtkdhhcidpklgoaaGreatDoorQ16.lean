/- kind: find. -/
import Derived.Test.YtkdhhcidpklgoaaGreatDoorQ15
import Derived.Deep.RegionLaw
import Derived.Defers
namespace Go.Proofs.YtkdhhcidpklgoaaGreatDoor
open Go.RowKit Go.Shelf Go.Maps
attribute [local go_sem] Oper.semAt_some

theorem last_at {l : List Int} (h : 0 < l.length) : l[l.length - 1]? = some ((l.getLast?).getD 0) := by
  rw [List.getLast?_eq_getElem?, List.getElem?_eq_getElem (by omega)]; rfl
set_option maxHeartbeats 4000000 in
set_option maxRecDepth 100000 in
theorem find_any (w : World) (base mx mc n : Nat) (g : Gv) (E : Ev) (x : Vr) (h : SCX w base mx mc n g E) (hs : x.1 = 0 ∨ x.1 = 1) (hk : ok64 x.2) (he : 0 < (E x).length) (hb : base ≤ w.heap.size) :
    Calls Tryz.prog 71 #[.agg #[.map (some mx), .map (some mc)], vrV x] w fun e w' => e = .returned (.int .i64 (((E x).getLast?).getD 0)) ∧ Ext w w' := by
  have hlen : (E x).length ≤ 1000000000 ∨ True := .inr trivial
  have HLK : Hid (∀ w', Ext w w' → (Instr.lookup 60 (.map (some (mbS mx mc x.1))) (.int .i64 x.2) false).run Tryz.prog w' = .ok (g x) w') := fun w' hx => (h.ext hx).look x hs hk
  have hown := h.own x
  obtain ⟨A, c, hg, -⟩ := own_shape hown
  rw [hg] at hown HLK
  have HC : Hid (∀ w', Ext w w' → ∃ b, A = some ⟨b, 0, none⟩ ∧ w'.cell? ⟨b, (E x).length - 1, none⟩ = some (.int .i64 (((E x).getLast?).getD 0))) := fun w' hx => by
    rcases hown.2 with ⟨_, h0⟩ | ⟨b, cap, cur, hv, -⟩
    · omega
    · cases hv
      refine ⟨b, rfl, ?_⟩
      rw [World.ownsRow.cellAt (own_below hown hx) ((E x).length - 1) (by omega), List.getElem?_map, last_at he]; rfl
  obtain ⟨b, rfl, -⟩ := HC.out w (Ext.rf _)
  have hmx : (E x).length ≤ maxLen := by
    rcases hown.2 with ⟨_, h0⟩ | ⟨b', cap, cur, hv, _, _, h4, h5, _⟩
    · omega
    · omega
  unfold maxLen at hmx
  generalize ((E x).getLast?).getD 0 = r at *
  generalize hL : (E x).length = L at *
  clear h hown hg hlen
  obtain ⟨s, k⟩ := x
  rcases hs with hs | hs
  · dsimp only at hs hk; subst hs
    have HE2 := Lib.hid (Ext.al2 w (.cells #[.map (some mx), .map (some mc)] 62) (.cells #[.int .i64 0, .int .i64 k] 80))
    have hm2 := Ext.lt (Ext.al (w.alloc (.cells #[.map (some mx), .map (some mc)] 62)) (.cells #[.int .i64 0, .int .i64 k] 80)) (heapNew w (.cells #[.map (some mx), .map (some mc)] 62))
    have hx2 := heapNew2 w (.cells #[.map (some mx), .map (some mc)] 62) (.cells #[.int .i64 0, .int .i64 k] 80)
    have HM2 := Lib.hid hm2; have HX2 := Lib.hid hx2
    have hlk := HLK.out _ HE2.out.drew
    have hlk : (Instr.lookup 60 (.map (some mx)) (.int .i64 k) false).run Tryz.prog ((w.alloc (.cells #[.map (some mx), .map (some mc)] 62)).alloc (.cells #[.int .i64 0, .int .i64 k] 80)).drew = .ok (.slice (some ⟨b, 0, none⟩) L c) ((w.alloc (.cells #[.map (some mx), .map (some mc)] 62)).alloc (.cells #[.int .i64 0, .int .i64 k] 80)).drew := hlk
    have hcell : World.cell? ((w.alloc (.cells #[.map (some mx), .map (some mc)] 62)).alloc (.cells #[.int .i64 0, .int .i64 k] 80)).drew ⟨b, L - 1, none⟩ = some (.int .i64 r) := by
      obtain ⟨b', e, h⟩ := HC.out _ HE2.out.drew
      cases e; exact h
    clear hm2 hx2
    have HLK2 := Lib.hid hlk; have HCELL := Lib.hid hcell
    clear hlk hcell
    go_enter Tryz.func71, Tryz.ntmps71
    go_wp2
    generalize (w.alloc _).alloc _ = w2 at *
    have hlk := HLK2.out
    have hcell : w2.cell? ⟨b, L - 1, none⟩ = some (.int .i64 r) := HCELL.out
    have m0 := cellAt HM2.out 0
    have m1 := cellAt HM2.out 1
    have x0 := cellAt HX2.out 0
    have x1 := cellAt HX2.out 1
    have e1 : ((L : Int) - 1) = ((L - 1 : Nat) : Int) := by omega
    go_region
    all_goals
      go_wp2
      go_ret
      exact ⟨rfl, HE2.out.drew⟩
  · dsimp only at hs hk; subst hs
    have HE2 := Lib.hid (Ext.al2 w (.cells #[.map (some mx), .map (some mc)] 62) (.cells #[.int .i64 1, .int .i64 k] 80))
    have hm2 := Ext.lt (Ext.al (w.alloc (.cells #[.map (some mx), .map (some mc)] 62)) (.cells #[.int .i64 1, .int .i64 k] 80)) (heapNew w (.cells #[.map (some mx), .map (some mc)] 62))
    have hx2 := heapNew2 w (.cells #[.map (some mx), .map (some mc)] 62) (.cells #[.int .i64 1, .int .i64 k] 80)
    have HM2 := Lib.hid hm2; have HX2 := Lib.hid hx2
    have hlk := HLK.out _ HE2.out.drew
    have hlk : (Instr.lookup 60 (.map (some mc)) (.int .i64 k) false).run Tryz.prog ((w.alloc (.cells #[.map (some mx), .map (some mc)] 62)).alloc (.cells #[.int .i64 1, .int .i64 k] 80)).drew = .ok (.slice (some ⟨b, 0, none⟩) L c) ((w.alloc (.cells #[.map (some mx), .map (some mc)] 62)).alloc (.cells #[.int .i64 1, .int .i64 k] 80)).drew := hlk
    have hcell : World.cell? ((w.alloc (.cells #[.map (some mx), .map (some mc)] 62)).alloc (.cells #[.int .i64 1, .int .i64 k] 80)).drew ⟨b, L - 1, none⟩ = some (.int .i64 r) := by
      obtain ⟨b', e, h⟩ := HC.out _ HE2.out.drew
      cases e; exact h
    clear hm2 hx2
    have HLK2 := Lib.hid hlk; have HCELL := Lib.hid hcell
    clear hlk hcell
    go_enter Tryz.func71, Tryz.ntmps71
    go_wp2
    generalize (w.alloc _).alloc _ = w2 at *
    have hlk := HLK2.out
    have hcell : w2.cell? ⟨b, L - 1, none⟩ = some (.int .i64 r) := HCELL.out
    have m0 := cellAt HM2.out 0
    have m1 := cellAt HM2.out 1
    have x0 := cellAt HX2.out 0
    have x1 := cellAt HX2.out 1
    have e1 : ((L : Int) - 1) = ((L - 1 : Nat) : Int) := by omega
    go_region
    all_goals
      go_wp2
      go_ret
      exact ⟨rfl, HE2.out.drew⟩
end Go.Proofs.YtkdhhcidpklgoaaGreatDoor

/- kind: bind. -/
namespace Go.Proofs.YtkdhhcidpklgoaaGreatDoor
open Go.RowKit Go.Shelf Go.Maps
attribute [local go_sem] Oper.semAt_some

/-- A slice that lies in none of the rows. -/
def apart (g : Gv) (u : Value) : Prop := ∀ A n c b o, u = .slice A n c → A = some ⟨b, o, none⟩ → ¬ rowsOf g b
theorem pushE_snoc : ∀ (l : List Vr) (ts : List Int) (E : Ev) (x : Vr) (t : Int), l.length = ts.length → pushE E (l ++ [x]) (ts ++ [t]) = fun y => if y = x then pushE E l ts y ++ [t] else pushE E l ts y
  | [], [], E, x, t, _ => by rw [pushE_nil]; show pushE E [x] [t] = _; rw [pushE_cons, pushE_nil]
  | [], t' :: ts, E, x, t, h => by simp at h
  | y :: r, [], E, x, t, h => by simp at h
  | y :: r, t' :: ts, E, x, t, h => by
    show pushE E (y :: (r ++ [x])) (t' :: (ts ++ [t])) = _
    rw [pushE_cons, pushE_snoc r ts _ x t (by simpa using h), pushE_cons]
theorem pushE_take {E : Ev} {l : List Vr} {ts : List Int} {k : Nat} (h1 : k < l.length) (h2 : k < ts.length) : pushE E (l.take (k + 1)) (ts.take (k + 1)) = fun y => if y = l[k] then pushE E (l.take k) (ts.take k) y ++ [ts[k]] else pushE E (l.take k) (ts.take k) y := by
  rw [List.take_succ_eq_append_getElem h1, List.take_succ_eq_append_getElem h2, pushE_snoc _ _ _ _ _ (by simp; omega)]
theorem pushE_over : ∀ (l : List Vr) (ts : List Int) (E : Ev), pushE E l ts = pushE E l (ts.take l.length)
  | [], ts, E => by rw [pushE_nil, pushE_nil]
  | y :: r, [], E => rfl
  | y :: r, t :: ts, E => by
    show pushE E (y :: r) (t :: ts) = pushE E (y :: r) (t :: ts.take r.length)
    rw [pushE_cons, pushE_cons, pushE_over r]
theorem Tr.push {w5 W5 w6 w7 : World} {mx mc : Nat} {gk : Gv} {x : Vr} {v6 : Value} (hx : Ext w5 W5) (hg : W5.grownBy w6 (gk x).ownBlock) (ho : Only (fun j => j = mbS mx mc x.1) w6 w7) (hth : v6.ownBlock = (gk x).ownBlock ∨ v6.ownBlock = some W5.heap.size) : Tr mx mc gk (putZ gk x v6) w5 w7 := by
  have h1 : Only (fun j => j = mx ∨ j = mc ∨ rowsOf gk j) W5 w6 := ⟨hg.os, hg.tape, hg.output, hg.size, fun j hj hn => hg.block j hj (fun e => hn (.inr (.inr ⟨x, e.symm⟩)))⟩
  have h2 : Only (fun j => j = mx ∨ j = mc ∨ rowsOf gk j) w6 w7 := ho.mono (fun j _ e => by
    rw [e]; unfold mbS; split
    · exact .inl rfl
    · exact .inr (.inl rfl))
  refine ⟨((Only.of_ext hx).tr h1).tr h2, fun j hj => ?_⟩
  obtain ⟨u, hu⟩ := hj
  by_cases e : u = x
  · subst e
    rw [putZ_same] at hu
    rcases hth with h | h
    · exact .inl ⟨u, by rw [← h]; exact hu⟩
    · refine .inr ?_
      rw [h] at hu
      have := Option.some.inj hu
      rw [← this]; exact hx.size
  · rw [putZ_other _ _ e] at hu
    exact .inl ⟨u, hu⟩
set_option maxHeartbeats 16000000 in
set_option maxRecDepth 100000 in
theorem bind_any (w : World) (base mx mc n : Nat) (g : Gv) (E : Ev) (vl vt : Value) (l : List Vr) (ts : List Int) (h : SCX w base mx mc n g E) (hb : base ≤ w.heap.size) (hl : RVrs w vl l) (ht : RInts w vt ts) (hlt : l.length ≤ ts.length) (hn : n + l.length ≤ 1000000000) (hE : ∀ x, (E x).length ≤ n) (hsort : ∀ x ∈ l, x.1 = 0 ∨ x.1 = 1) (hll : l.length ≤ 1048576)
    (hnt : apart g vt) (hnl : apart g vl) :
    Calls Tryz.prog 36 #[.agg #[.map (some mx), .map (some mc)], vl, vt] w fun e w' => e = .returned (.func (.func 67) #[] #[.pointer (some ⟨w.heap.size + 1, 0, none⟩), .pointer (some ⟨w.heap.size, 0, none⟩)]) ∧
      w'.heap[w.heap.size + 1]? = some (.cells #[vl] 76 (0, 0)) ∧ w'.heap[w.heap.size]? = some (.cells #[.map (some mx), .map (some mc)] 62 (0, 0)) ∧ ∃ g', SCX w' base mx mc (n + l.length) g' (pushE E l ts) ∧ Tr mx mc g g' w w' := by
  have hmf : ∀ (fn : Fn) (first cap : Array Value) (w : World), (Instr.makeFunc fn first cap).run Tryz.prog w = .ok (.func fn first cap) w := fun _ _ _ _ => rfl
  obtain ⟨A, c, rfl, -, -⟩ := hl.form
  obtain ⟨A2, c2, rfl, -, hm2⟩ := ht.form
  have H := Lib.hid h; have HL := Lib.hid hl; have HT := Lib.hid ht; have HE := Lib.hid hE; have HSO := Lib.hid hsort
  unfold maxLen at hm2
  have hmxl := h.mp.lt
  have hmcl := h.mq.lt
  obtain ⟨w2, hw2⟩ : ∃ w2, w2 = (w.alloc (.cells #[.map (some mx), .map (some mc)] 62)).alloc (.cells #[.slice A l.length c] 76) := ⟨_, rfl⟩
  have HE2 : Hid (Ext w w2) := by show Ext w w2; rw [hw2]; exact Ext.al2 _ _ _
  have HM2 : Hid (w2.heap[w.heap.size]? = some (.cells #[.map (some mx), .map (some mc)] 62 (0, 0))) := by show _ = _; rw [hw2]; exact Ext.lt (Ext.al _ _) (heapNew w _)
  have HL2 : Hid (w2.heap[w.heap.size + 1]? = some (.cells #[.slice A l.length c] 76 (0, 0))) := by show _ = _; rw [hw2]; exact heapNew2 w _ _
  have hz2 : w2.heap.size = w.heap.size + 2 := by rw [hw2]; simp
  clear h hl ht hE hsort
  go_enter Tryz.func36, Tryz.ntmps36
  go_wp2
  rw [← hw2]
  clear hw2
  have HKC : Hid (∀ (gk : Gv) W, Tr mx mc g gk w2 W → ∀ b o v, ¬ rowsOf g b → w.cell? ⟨b, o, none⟩ = some v → W.cell? ⟨b, o, none⟩ = some v) := fun gk W ht b o v hb hv => by
    have h2 : w2.cell? ⟨b, o, none⟩ = some v := HE2.out.keep hv
    have hlt : b < w2.heap.size := cell_lt h2
    rw [World.cell?_of_block (ht.only.block b hlt (fun hc => by
      rcases hc with hc | hc | hc
      · exact map_ne_cell H.out.mp.is hv hc
      · exact map_ne_cell H.out.mq.is hv hc
      · exact hb hc))]
    exact h2
  go_loopw [12] (fun i wr => ∃ (k : Nat) (gk : Gv), k ≤ l.length ∧ i = .int .i64 k ∧ SCX wr base mx mc (n + k) gk (pushE E (l.take k) (ts.take k)) ∧ (∀ x, (pushE E (l.take k) (ts.take k) x).length ≤ n + k) ∧ Tr mx mc g gk w2 wr) (fun i _ => l.length - (intOf i).toNat)
  case atStart => exact ⟨0, g, Nat.zero_le _, rfl, by simpa [pushE] using H.out.ext HE2.out, by simpa [pushE] using HE.out, Tr.rf _ _ _ _⟩
  case round =>
    obtain ⟨k, gk, hk, rfl, hs, hle, htr⟩ := hrel
    have HS := Lib.hid hs; have HLE := Lib.hid hle; have HTR := Lib.hid htr
    have hzr := htr.only.size
    have hnr : ∀ j, w.heap.size ≤ j → j < w2.heap.size → ¬ (j = mx ∨ j = mc ∨ rowsOf g j) := fun j h1 h2 hc => by
      rcases hc with hc | hc | hc
      · omega
      · omega
      · have := (H.out.lt hc).2; omega
    have hmr := htr.only.lt HM2.out (hnr _ (by omega) (by omega))
    have hlr := htr.only.lt HL2.out (hnr _ (by omega) (by omega))
    have HMR := Lib.hid hmr
    have HLR := Lib.hid hlr
    have b0 := cellAt hlr 0
    clear hs hle htr hnr hmr hlr
    by_cases hltk : k < l.length
    · have hk2 : k < ts.length := by omega
      obtain ⟨bz, oz, rfl, hbz, z0, z1, ok0, ok1⟩ := HL.out.at_ hltk
      have z0 := HKC.out _ _ HTR.out _ _ _ (hnl _ _ _ _ _ rfl rfl) z0
      have z1 := HKC.out _ _ HTR.out _ _ _ (hnl _ _ _ _ _ rfl rfl) z1
      obtain ⟨bt, ot, rfl, hbt, y0, -⟩ := HT.out.at_ hk2
      have HY0 := Lib.hid (HKC.out _ _ HTR.out _ _ _ (hnt _ _ _ _ _ rfl rfl) y0)
      have HPT := Lib.hid (pushE_take (E := E) hltk hk2)
      have hso := HSO.out _ (List.getElem_mem hltk)
      generalize l[k] = x at *
      generalize ts[k] = tt at *
      obtain ⟨s, nn⟩ := x
      dsimp only at *
      clear y0
      have hki : (k : Int) < ts.length := by omega
      rcases hso with rfl | rfl
      · have HEX := Lib.hid (Ext.al wr (.cells #[.int .i64 0, .int .i64 nn] 80))
        have HNX := Lib.hid (heapNew wr (.cells #[.int .i64 0, .int .i64 nn] 80))
        have hm5 := HEX.out.lt HMR.out
        have m0 := cellAt hm5 0
        have m1 := cellAt hm5 1
        have n0 := cellAt HNX.out 0
        have n1 := cellAt HNX.out 1
        have HY5 := Lib.hid (HEX.out.keep HY0.out)
        have hz5 : (wr.alloc (.cells #[.int .i64 0, .int .i64 nn] 80)).heap.size = wr.heap.size + 1 := by simp
        clear hm5
        go_wp2
        have HS5 := Lib.hid (HS.out.ext HEX.out)
        have HTR5 : Hid (Tr mx mc g gk w2 (wr.alloc (.cells #[.int .i64 0, .int .i64 nn] 80))) := HTR.out.tr (Tr.of_ext HEX.out)
        generalize wr.alloc _ = w5 at *
        have HNX5 : Hid ((w5.alloc (.cells #[.int .i64 tt] 3)).drew.heap[wr.heap.size]? = some (.cells #[.int .i64 0, .int .i64 nn] 80 (0, 0))) := (Ext.al w5 (.cells #[.int .i64 tt] 3)).lt HNX.out
        obtain ⟨Ag, cg, hgx, -⟩ := own_shape (HS5.out.own (0, nn))
        have hlk1 : (Instr.lookup 60 (.map (some mx)) (.int .i64 nn) false).run Tryz.prog w5.drew = .ok (.slice Ag (pushE E (l.take k) (ts.take k) (0, nn)).length cg) w5.drew := by
          have := (HS5.out.ext (Ext.rf w5).drew).look (0, nn) (by simp) ok1
          rw [hgx] at this; exact this
        have hlk2 : (Instr.lookup 60 (.map (some mx)) (.int .i64 nn) false).run Tryz.prog (w5.alloc (.cells #[.int .i64 tt] 3)).drew = .ok (.slice Ag (pushE E (l.take k) (ts.take k) (0, nn)).length cg) (w5.alloc (.cells #[.int .i64 tt] 3)).drew := by
          have := (HS5.out.ext (Ext.al w5 (.cells #[.int .i64 tt] 3)).drew).look (0, nn) (by simp) ok1
          rw [hgx] at this; exact this
        have y0 := HY5.out
        have HSA := Lib.hid (HS5.out.ext (Ext.al w5 (.cells #[.int .i64 tt] 3)).drew)
        have HROW : Hid ((w5.alloc (.cells #[.int .i64 tt] 3)).drew.ownsRow base 3 1 (.slice Ag (pushE E (l.take k) (ts.take k) (0, nn)).length cg) (pushE E (l.take k) (ts.take k) (0, nn)).length ((pushE E (l.take k) (ts.take k) (0, nn)).map (Value.int .i64))) := by have := HSA.out.own (0, nn); rw [hgx] at this; exact this
        have HNT : Hid ((w5.alloc (.cells #[.int .i64 tt] 3)).drew.heap[wr.heap.size + 1]? = some (.cells #[.int .i64 tt] 3 (0, 0))) := by have h := heapNew w5 (.cells #[.int .i64 tt] 3); rw [hz5] at h; exact h
        have hle := HLE.out (0, nn)
        have HGX := Lib.hid hgx
        obtain ⟨xs, hxs⟩ : ∃ xs, pushE E (l.take k) (ts.take k) (0, nn) = xs := ⟨_, rfl⟩
        rw [hxs] at hlk1 hlk2 HROW hle
        have HXS := Lib.hid hxs
        clear hgx hxs
        go_region_law (refine app_row Tryz.underlying31 Tryz.iInt rfl (by decide) (.tmp 27) (.tmp 32) rfl base (.slice Ag xs.length cg) xs.length (xs.map (Value.int .i64)) rfl HROW.out (some ⟨wr.heap.size + 1, 0, none⟩) 1 1 [.int .i64 tt] rfl (src_one HNT.out) (one_mem rfl) (by unfold maxLen; omega) (by omega) (by simp only [World.drew, World.size_alloc]; omega) ?_
                       intro v6 w6 hown hgr hthird
                       obtain ⟨w7, hu, hs7, ho7⟩ := SCXo.put (x := (0, nn)) (l' := xs ++ [tt]) (HSA.out.grow (0, nn) (by rw [HGX.out, HXS.out]; exact hgr)) (by simp) ok1 (by unfold maxLen; omega) v6 (by rw [List.length_append, List.map_append]; exact hown) (fun b hb => by
                         rcases hthird with h3 | h3
                         · exact .inl (by rw [HGX.out, HXS.out, ← h3]; exact hb)
                         · refine .inr (fun hr => ?_)
                           rw [h3] at hb
                           have h4 := (HS5.out.lt hr).2
                           have h5 : (w5.alloc (.cells #[.int .i64 tt] 3)).drew.heap.size = b := Option.some.inj hb
                           have h6 : (w5.alloc (.cells #[.int .i64 tt] 3)).drew.heap.size = w5.heap.size + 1 := by show (w5.alloc _).heap.size = _; simp
                           omega)
                       have hu : (Instr.mapUpdate 60 (.map (some mx)) (.int .i64 nn) v6).run Tryz.prog w6 = .ok () w7 := hu
                       have hq6 := grow_at hgr HNX5.out (fun g h => by have := (HS.out.lt ⟨(0, nn), by rw [HGX.out, HXS.out]; exact h⟩).2; omega)
                       have q60 := cellAt hq6 0
                       have q61 := cellAt hq6 1
                       have HS7 := Lib.hid hs7; have HO7 := Lib.hid ho7; have HGR := Lib.hid hgr; have HTH := Lib.hid hthird
                       clear hs7 ho7 hgr hown hthird hq6)
        all_goals
          go_wp2
          refine ⟨⟨k + 1, putZ gk (0, nn) v6, by omega, by go_num, ?_, fun y => ?_, HTR5.out.tr (Tr.push (x := (0, nn)) (Ext.al w5 (.cells #[.int .i64 tt] 3)).drew (by rw [HGX.out, HXS.out]; exact HGR.out) HO7.out (by rw [HGX.out, HXS.out]; exact HTH.out))⟩, by simp [intOf]; omega⟩
          · rw [HPT.out]
            have e : (fun y => if y = (0, nn) then pushE E (l.take k) (ts.take k) y ++ [tt] else pushE E (l.take k) (ts.take k) y) = (fun y => if y = (0, nn) then xs ++ [tt] else pushE E (l.take k) (ts.take k) y) := by
              funext y
              by_cases e : y = (0, nn)
              · rw [if_pos e, if_pos e, e, HXS.out]
              · rw [if_neg e, if_neg e]
            rw [e]
            exact HS7.out
          · rw [HPT.out]
            show (if y = (0, nn) then pushE E (l.take k) (ts.take k) y ++ [tt] else pushE E (l.take k) (ts.take k) y).length ≤ n + (k + 1)
            have := HLE.out y
            split
            · rw [List.length_append, List.length_singleton]; omega
            · omega
      · have HEX := Lib.hid (Ext.al wr (.cells #[.int .i64 1, .int .i64 nn] 80))
        have HNX := Lib.hid (heapNew wr (.cells #[.int .i64 1, .int .i64 nn] 80))
        have hm5 := HEX.out.lt HMR.out
        have m0 := cellAt hm5 0
        have m1 := cellAt hm5 1
        have n0 := cellAt HNX.out 0
        have n1 := cellAt HNX.out 1
        have HY5 := Lib.hid (HEX.out.keep HY0.out)
        have hz5 : (wr.alloc (.cells #[.int .i64 1, .int .i64 nn] 80)).heap.size = wr.heap.size + 1 := by simp
        clear hm5
        go_wp2
        have HS5 := Lib.hid (HS.out.ext HEX.out)
        have HTR5 : Hid (Tr mx mc g gk w2 (wr.alloc (.cells #[.int .i64 1, .int .i64 nn] 80))) := HTR.out.tr (Tr.of_ext HEX.out)
        generalize wr.alloc _ = w5 at *
        have HNX5 : Hid ((w5.alloc (.cells #[.int .i64 tt] 3)).drew.heap[wr.heap.size]? = some (.cells #[.int .i64 1, .int .i64 nn] 80 (0, 0))) := (Ext.al w5 (.cells #[.int .i64 tt] 3)).lt HNX.out
        obtain ⟨Ag, cg, hgx, -⟩ := own_shape (HS5.out.own (1, nn))
        have hlk1 : (Instr.lookup 60 (.map (some mc)) (.int .i64 nn) false).run Tryz.prog w5.drew = .ok (.slice Ag (pushE E (l.take k) (ts.take k) (1, nn)).length cg) w5.drew := by
          have := (HS5.out.ext (Ext.rf w5).drew).look (1, nn) (by simp) ok1
          rw [hgx] at this; exact this
        have hlk2 : (Instr.lookup 60 (.map (some mc)) (.int .i64 nn) false).run Tryz.prog (w5.alloc (.cells #[.int .i64 tt] 3)).drew = .ok (.slice Ag (pushE E (l.take k) (ts.take k) (1, nn)).length cg) (w5.alloc (.cells #[.int .i64 tt] 3)).drew := by
          have := (HS5.out.ext (Ext.al w5 (.cells #[.int .i64 tt] 3)).drew).look (1, nn) (by simp) ok1
          rw [hgx] at this; exact this
        have y0 := HY5.out
        have HSA := Lib.hid (HS5.out.ext (Ext.al w5 (.cells #[.int .i64 tt] 3)).drew)
        have HROW : Hid ((w5.alloc (.cells #[.int .i64 tt] 3)).drew.ownsRow base 3 1 (.slice Ag (pushE E (l.take k) (ts.take k) (1, nn)).length cg) (pushE E (l.take k) (ts.take k) (1, nn)).length ((pushE E (l.take k) (ts.take k) (1, nn)).map (Value.int .i64))) := by have := HSA.out.own (1, nn); rw [hgx] at this; exact this
        have HNT : Hid ((w5.alloc (.cells #[.int .i64 tt] 3)).drew.heap[wr.heap.size + 1]? = some (.cells #[.int .i64 tt] 3 (0, 0))) := by have h := heapNew w5 (.cells #[.int .i64 tt] 3); rw [hz5] at h; exact h
        have hle := HLE.out (1, nn)
        have HGX := Lib.hid hgx
        obtain ⟨xs, hxs⟩ : ∃ xs, pushE E (l.take k) (ts.take k) (1, nn) = xs := ⟨_, rfl⟩
        rw [hxs] at hlk1 hlk2 HROW hle
        have HXS := Lib.hid hxs
        clear hgx hxs
        go_region_law (refine app_row Tryz.underlying31 Tryz.iInt rfl (by decide) (.tmp 27) (.tmp 32) rfl base (.slice Ag xs.length cg) xs.length (xs.map (Value.int .i64)) rfl HROW.out (some ⟨wr.heap.size + 1, 0, none⟩) 1 1 [.int .i64 tt] rfl (src_one HNT.out) (one_mem rfl) (by unfold maxLen; omega) (by omega) (by simp only [World.drew, World.size_alloc]; omega) ?_
                       intro v6 w6 hown hgr hthird
                       obtain ⟨w7, hu, hs7, ho7⟩ := SCXo.put (x := (1, nn)) (l' := xs ++ [tt]) (HSA.out.grow (1, nn) (by rw [HGX.out, HXS.out]; exact hgr)) (by simp) ok1 (by unfold maxLen; omega) v6 (by rw [List.length_append, List.map_append]; exact hown) (fun b hb => by
                         rcases hthird with h3 | h3
                         · exact .inl (by rw [HGX.out, HXS.out, ← h3]; exact hb)
                         · refine .inr (fun hr => ?_)
                           rw [h3] at hb
                           have h4 := (HS5.out.lt hr).2
                           have h5 : (w5.alloc (.cells #[.int .i64 tt] 3)).drew.heap.size = b := Option.some.inj hb
                           have h6 : (w5.alloc (.cells #[.int .i64 tt] 3)).drew.heap.size = w5.heap.size + 1 := by show (w5.alloc _).heap.size = _; simp
                           omega)
                       have hu : (Instr.mapUpdate 60 (.map (some mc)) (.int .i64 nn) v6).run Tryz.prog w6 = .ok () w7 := hu
                       have hq6 := grow_at hgr HNX5.out (fun g h => by have := (HS.out.lt ⟨(1, nn), by rw [HGX.out, HXS.out]; exact h⟩).2; omega)
                       have q60 := cellAt hq6 0
                       have q61 := cellAt hq6 1
                       have HS7 := Lib.hid hs7; have HO7 := Lib.hid ho7; have HGR := Lib.hid hgr; have HTH := Lib.hid hthird
                       clear hs7 ho7 hgr hown hthird hq6)
        all_goals
          go_wp2
          refine ⟨⟨k + 1, putZ gk (1, nn) v6, by omega, by go_num, ?_, fun y => ?_, HTR5.out.tr (Tr.push (x := (1, nn)) (Ext.al w5 (.cells #[.int .i64 tt] 3)).drew (by rw [HGX.out, HXS.out]; exact HGR.out) HO7.out (by rw [HGX.out, HXS.out]; exact HTH.out))⟩, by simp [intOf]; omega⟩
          · rw [HPT.out]
            have e : (fun y => if y = (1, nn) then pushE E (l.take k) (ts.take k) y ++ [tt] else pushE E (l.take k) (ts.take k) y) = (fun y => if y = (1, nn) then xs ++ [tt] else pushE E (l.take k) (ts.take k) y) := by
              funext y
              by_cases e : y = (1, nn)
              · rw [if_pos e, if_pos e, e, HXS.out]
              · rw [if_neg e, if_neg e]
            rw [e]
            exact HS7.out
          · rw [HPT.out]
            show (if y = (1, nn) then pushE E (l.take k) (ts.take k) y ++ [tt] else pushE E (l.take k) (ts.take k) y).length ≤ n + (k + 1)
            have := HLE.out y
            split
            · rw [List.length_append, List.length_singleton]; omega
            · omega
    · have hkl : k = l.length := by omega
      have HSr : Hid (SCX wr base mx mc (n + l.length) gk (pushE E l ts)) := by
        have := HS.out
        rw [hkl, List.take_length, ← pushE_over] at this
        exact this
      go_wp2
      go_ret
      exact ⟨rfl, HLR.out, HMR.out, gk, HSr.out, (Tr.of_ext HE2.out).tr HTR.out⟩
end Go.Proofs.YtkdhhcidpklgoaaGreatDoor

/- kind: what bind hands back. -/
namespace Go.Proofs.YtkdhhcidpklgoaaGreatDoor
open Go.RowKit Go.Shelf Go.Maps
attribute [local go_sem] Oper.semAt_some

theorem popE_snoc : ∀ (l : List Vr) (E : Ev) (x : Vr), popE E (l ++ [x]) = fun y => if y = x then (popE E l y).dropLast else popE E l y
  | [], E, x => rfl
  | z :: r, E, x => by
    show popE _ (r ++ [x]) = _
    rw [popE_snoc r]
    rfl
theorem popE_step {E : Ev} {l : List Vr} {k : Nat} (h : k < l.length) : popE E (l.take (k + 1)) = fun y => if y = l[k] then (popE E (l.take k) y).dropLast else popE E (l.take k) y := by
  rw [List.take_succ_eq_append_getElem h, popE_snoc]
theorem cntV_pos {l : List Vr} {k : Nat} (h : k < l.length) : cntV (l.take k) l[k] < cntV l l[k] := by
  have e : l = l.take k ++ (l[k] :: l.drop (k + 1)) := by rw [← List.drop_eq_getElem_cons h, List.take_append_drop]
  obtain ⟨v, hv⟩ : ∃ v, l[k] = v := ⟨_, rfl⟩
  rw [hv] at e ⊢
  have h1 : cntV (l.take k ++ (v :: l.drop (k + 1))) v = cntV (l.take k) v + cntV (v :: l.drop (k + 1)) v := by
    unfold cntV
    exact List.countP_append ..
  rw [← e] at h1
  have h2 : 0 < cntV (v :: l.drop (k + 1)) v := by unfold cntV; rw [List.countP_cons]; simp
  omega
theorem popE_pos {E : Ev} {l : List Vr} {k : Nat} (h : k < l.length) (hc : ∀ x, cntV l x ≤ (E x).length) : 0 < (popE E (l.take k) l[k]).length := by
  rw [popE_take]
  have h1 := cntV_pos h
  have h2 := hc l[k]
  show 0 < ((E l[k]).take _).length
  rw [List.length_take]
  omega
theorem Tr.pop {w5 w6 w7 : World} {mx mc : Nat} {gk : Gv} {x : Vr} {v6 : Value} (hx : Ext w5 w6) (ho : Only (fun j => j = mbS mx mc x.1) w6 w7) (hth : ∀ b, v6.ownBlock = some b → (gk x).ownBlock = some b) : Tr mx mc gk (putZ gk x v6) w5 w7 := by
  have h2 : Only (fun j => j = mx ∨ j = mc ∨ rowsOf gk j) w6 w7 := ho.mono (fun j _ e => by
    rw [e]; unfold mbS; split
    · exact .inl rfl
    · exact .inr (.inl rfl))
  refine ⟨(Only.of_ext hx).tr h2, fun j hj => ?_⟩
  obtain ⟨u, hu⟩ := hj
  by_cases e : u = x
  · subst e
    rw [putZ_same] at hu
    exact .inl ⟨u, hth j hu⟩
  · rw [putZ_other _ _ e] at hu
    exact .inl ⟨u, hu⟩
set_option maxHeartbeats 16000000 in
set_option maxRecDepth 100000 in
theorem restoreD_any (w : World) (base mx mc n gl gs : Nat) (g : Gv) (E : Ev) (A : Option Addr) (c : Nat) (l : List Vr) (h : SCX w base mx mc n g E) (hl : RVrs w (.slice A l.length c) l) (hbl : w.heap[gl]? = some (.cells #[.slice A l.length c] 76 (0, 0))) (hbs : w.heap[gs]? = some (.cells #[.map (some mx), .map (some mc)] 62 (0, 0))) (hn : n + l.length ≤ 1000000000) (hE : ∀ x, (E x).length ≤ 1000000000) (hcnt : ∀ x, cntV l x ≤ (E x).length) (hsort : ∀ x ∈ l, x.1 = 0 ∨ x.1 = 1) (hll : l.length ≤ 1048576)
    (hnl : 0 < l.length → apart g (.slice A l.length c)) (hgl : ¬ rowsOf g gl) (hgs : ¬ rowsOf g gs) :
    CallsD Tryz.prog 67 #[.pointer (some ⟨gl, 0, none⟩), .pointer (some ⟨gs, 0, none⟩)] .returning w fun e u' w' => u' = .returning ∧ e = .returned (.tuple #[]) ∧ ∃ g', SCX w' base mx mc (n + l.length) g' (popE E l) ∧ Tr mx mc g g' w w' := by
  have H := Lib.hid h; have HL := Lib.hid hl; have HE := Lib.hid hE; have HSO := Lib.hid hsort; have HBL := Lib.hid hbl; have HBS := Lib.hid hbs; have HCN := Lib.hid hcnt
  have nmap : ∀ j o, w.heap[j]? = some o → (∀ es clock, o ≠ .map es clock) → j ≠ mx ∧ j ≠ mc := fun j o ho hm => by
    obtain ⟨es1, c1, h1⟩ := h.mp.is
    obtain ⟨es2, c2, h2⟩ := h.mq.is
    exact ⟨fun e => (by rw [e, h1] at ho; exact hm es1 c1 (Option.some.inj ho).symm), fun e => (by rw [e, h2] at ho; exact hm es2 c2 (Option.some.inj ho).symm)⟩
  have n1 := nmap gl _ hbl (fun _ _ e => by cases e)
  have n2 := nmap gs _ hbs (fun _ _ e => by cases e)
  have HGL : Hid (¬ (gl = mx ∨ gl = mc ∨ rowsOf g gl)) := fun hc => by rcases hc with hc | hc | hc; exact n1.1 hc; exact n1.2 hc; exact hgl hc
  have HGS : Hid (¬ (gs = mx ∨ gs = mc ∨ rowsOf g gs)) := fun hc => by rcases hc with hc | hc | hc; exact n2.1 hc; exact n2.2 hc; exact hgs hc
  have HKC : Hid (∀ (gk : Gv) W, Tr mx mc g gk w W → ∀ b o v, ¬ rowsOf g b → w.cell? ⟨b, o, none⟩ = some v → W.cell? ⟨b, o, none⟩ = some v) := fun gk W ht b o v hb hv => by
    rw [World.cell?_of_block (ht.only.block b (cell_lt hv) (fun hc => by
      rcases hc with hc | hc | hc
      · exact map_ne_cell h.mp.is hv hc
      · exact map_ne_cell h.mq.is hv hc
      · exact hb hc))]
    exact hv
  have q0 := cellAt hbl 0
  clear h hl hE hsort hbl hbs hcnt nmap n1 n2 hgl hgs
  refine callsD_of_wp (u := .returning) (R := fun e w' => e = .returned (.tuple #[]) ∧ ∃ g', SCX w' base mx mc (n + l.length) g' (popE E l) ∧ Tr mx mc g g' w w') Tryz.func67 rfl ?_
  simp only [Tryz.ntmps67, List.size_toArray, List.length_cons, List.length_nil, Nat.reduceAdd, Nat.reduceSub, Array.replicate_succ, Array.replicate_zero, List.push_toArray, List.append_toArray, List.nil_append, List.cons_append]
  go_wp2
  go_loopw [7] (fun i wr => ∃ (k : Nat) (gk : Gv), k ≤ l.length ∧ i = .int .i64 k ∧ SCX wr base mx mc (n + k) gk (popE E (l.take k)) ∧ Tr mx mc g gk w wr) (fun i _ => l.length - (intOf i).toNat)
  case atStart => exact ⟨0, g, Nat.zero_le _, rfl, H.out, Tr.rf _ _ _ _⟩
  case round =>
    obtain ⟨k, gk, hk, rfl, hs, htr⟩ := hrel
    have HS := Lib.hid hs; have HTR := Lib.hid htr
    have hzr := htr.only.size
    have hmr := htr.only.lt HBS.out HGS.out
    have HMR := Lib.hid hmr
    clear hs htr hmr q0
    by_cases hltk : k < l.length
    · obtain ⟨bz, oz, rfl, hbz, z0, z1, ok0, ok1⟩ := HL.out.at_ hltk
      have z0 := HKC.out _ _ HTR.out _ _ _ (hnl (by omega) _ _ _ _ _ rfl rfl) z0
      have z1 := HKC.out _ _ HTR.out _ _ _ (hnl (by omega) _ _ _ _ _ rfl rfl) z1
      have HPT := Lib.hid (popE_step (E := E) hltk)
      have hpos := popE_pos hltk HCN.out
      have hso := HSO.out _ (List.getElem_mem hltk)
      have hmost : (popE E (l.take k) l[k]).length ≤ 1000000000 := by
        rw [popE_take]
        show ((E l[k]).take _).length ≤ _
        rw [List.length_take]
        have := HE.out l[k]
        omega
      generalize l[k] = x at *
      obtain ⟨s, nn⟩ := x
      dsimp only at *
      rcases hso with rfl | rfl
      · have HEX := Lib.hid (Ext.al wr (.cells #[.int .i64 0, .int .i64 nn] 80))
        have HNX := Lib.hid (heapNew wr (.cells #[.int .i64 0, .int .i64 nn] 80))
        have hm5 := HEX.out.lt HMR.out
        have m0 := cellAt hm5 0
        have m1 := cellAt hm5 1
        have n0 := cellAt HNX.out 0
        have n1 := cellAt HNX.out 1
        clear hm5
        go_wp2
        have HS5 := Lib.hid (HS.out.ext HEX.out)
        have HTR5 : Hid (Tr mx mc g gk w (wr.alloc (.cells #[.int .i64 0, .int .i64 nn] 80))) := HTR.out.tr (Tr.of_ext HEX.out)
        generalize wr.alloc _ = w5 at *
        obtain ⟨Ag, cg, hgx, -⟩ := own_shape (HS5.out.own (0, nn))
        have hlk1 : (Instr.lookup 60 (.map (some mx)) (.int .i64 nn) false).run Tryz.prog w5.drew = .ok (.slice Ag (popE E (l.take k) (0, nn)).length cg) w5.drew := by
          have := (HS5.out.ext (Ext.rf w5).drew).look (0, nn) (by simp) ok1
          rw [hgx] at this; exact this
        have hrow := HS5.out.own (0, nn)
        rw [hgx] at hrow
        have HGX := Lib.hid hgx
        obtain ⟨xs, hxs⟩ : ∃ xs, popE E (l.take k) (0, nn) = xs := ⟨_, rfl⟩
        rw [hxs] at hlk1 hrow hpos hmost
        have HXS := Lib.hid hxs
        clear hgx hxs
        obtain ⟨m, hm⟩ : ∃ m, xs.length = m + 1 := ⟨xs.length - 1, by omega⟩
        have hdl : xs.dropLast.length = m := by rw [List.length_dropLast]; omega
        have hdm : (xs.map (Value.int .i64)).dropLast = xs.dropLast.map (Value.int .i64) := by rw [List.map_dropLast]
        rw [hm] at hlk1 hrow
        have hcap : m + 1 ≤ cg ∧ cg ≤ maxLen ∧ ∃ bg, Ag = some ⟨bg, 0, none⟩ := by
          rcases hrow.2 with ⟨_, h0⟩ | ⟨bg, cap, cur, hv, _, _, h4, h5, _⟩
          · omega
          · cases hv; exact ⟨h4, h5, bg, rfl⟩
        obtain ⟨hc1, hc2, bg, rfl⟩ := hcap
        unfold maxLen at hc2
        obtain ⟨w7, hu, hs7, ho7⟩ := SCXo.put (x := (0, nn)) (l' := xs.dropLast) ((HS5.out.ext (Ext.rf w5).drew).but (0, nn)) (by simp) ok1 (by unfold maxLen; omega) (.slice (some ⟨bg, 0, none⟩) m cg) (by
          have h1 := own_shrink hrow
          rw [hdm] at h1
          rw [hdl]
          exact h1) (fun b hb => .inl (by rw [HGX.out]; exact hb))
        have hu : (Instr.mapUpdate 60 (.map (some mx)) (.int .i64 nn) (.slice (some ⟨bg, 0, none⟩) m cg)).run Tryz.prog w5.drew = .ok () w7 := hu
        have HS7 := Lib.hid hs7; have HO7 := Lib.hid ho7
        have em : ((m + 1 : Nat) : Int) - 1 = (m : Int) := by omega
        have em2 : (m : Int) + 1 - 1 = (m : Int) := by omega
        clear hs7 ho7 hrow hdl hdm
        go_region
        all_goals
          go_wp2
          refine ⟨⟨k + 1, putZ gk (0, nn) (.slice (some ⟨bg, 0, none⟩) m cg), by omega, by go_num, ?_, HTR5.out.tr (Tr.pop (x := (0, nn)) (Ext.rf w5).drew HO7.out (fun b hb => by rw [HGX.out]; exact hb))⟩, by simp [intOf]; omega⟩
          rw [HPT.out]
          have e : (fun y => if y = (0, nn) then (popE E (l.take k) y).dropLast else popE E (l.take k) y) = (fun y => if y = (0, nn) then xs.dropLast else popE E (l.take k) y) := by
            funext y
            by_cases e : y = (0, nn)
            · rw [if_pos e, if_pos e, e, HXS.out]
            · rw [if_neg e, if_neg e]
          rw [e]
          exact HS7.out
      · have HEX := Lib.hid (Ext.al wr (.cells #[.int .i64 1, .int .i64 nn] 80))
        have HNX := Lib.hid (heapNew wr (.cells #[.int .i64 1, .int .i64 nn] 80))
        have hm5 := HEX.out.lt HMR.out
        have m0 := cellAt hm5 0
        have m1 := cellAt hm5 1
        have n0 := cellAt HNX.out 0
        have n1 := cellAt HNX.out 1
        clear hm5
        go_wp2
        have HS5 := Lib.hid (HS.out.ext HEX.out)
        have HTR5 : Hid (Tr mx mc g gk w (wr.alloc (.cells #[.int .i64 1, .int .i64 nn] 80))) := HTR.out.tr (Tr.of_ext HEX.out)
        generalize wr.alloc _ = w5 at *
        obtain ⟨Ag, cg, hgx, -⟩ := own_shape (HS5.out.own (1, nn))
        have hlk1 : (Instr.lookup 60 (.map (some mc)) (.int .i64 nn) false).run Tryz.prog w5.drew = .ok (.slice Ag (popE E (l.take k) (1, nn)).length cg) w5.drew := by
          have := (HS5.out.ext (Ext.rf w5).drew).look (1, nn) (by simp) ok1
          rw [hgx] at this; exact this
        have hrow := HS5.out.own (1, nn)
        rw [hgx] at hrow
        have HGX := Lib.hid hgx
        obtain ⟨xs, hxs⟩ : ∃ xs, popE E (l.take k) (1, nn) = xs := ⟨_, rfl⟩
        rw [hxs] at hlk1 hrow hpos hmost
        have HXS := Lib.hid hxs
        clear hgx hxs
        obtain ⟨m, hm⟩ : ∃ m, xs.length = m + 1 := ⟨xs.length - 1, by omega⟩
        have hdl : xs.dropLast.length = m := by rw [List.length_dropLast]; omega
        have hdm : (xs.map (Value.int .i64)).dropLast = xs.dropLast.map (Value.int .i64) := by rw [List.map_dropLast]
        rw [hm] at hlk1 hrow
        have hcap : m + 1 ≤ cg ∧ cg ≤ maxLen ∧ ∃ bg, Ag = some ⟨bg, 0, none⟩ := by
          rcases hrow.2 with ⟨_, h0⟩ | ⟨bg, cap, cur, hv, _, _, h4, h5, _⟩
          · omega
          · cases hv; exact ⟨h4, h5, bg, rfl⟩
        obtain ⟨hc1, hc2, bg, rfl⟩ := hcap
        unfold maxLen at hc2
        obtain ⟨w7, hu, hs7, ho7⟩ := SCXo.put (x := (1, nn)) (l' := xs.dropLast) ((HS5.out.ext (Ext.rf w5).drew).but (1, nn)) (by simp) ok1 (by unfold maxLen; omega) (.slice (some ⟨bg, 0, none⟩) m cg) (by
          have h1 := own_shrink hrow
          rw [hdm] at h1
          rw [hdl]
          exact h1) (fun b hb => .inl (by rw [HGX.out]; exact hb))
        have hu : (Instr.mapUpdate 60 (.map (some mc)) (.int .i64 nn) (.slice (some ⟨bg, 0, none⟩) m cg)).run Tryz.prog w5.drew = .ok () w7 := hu
        have HS7 := Lib.hid hs7; have HO7 := Lib.hid ho7
        have em : ((m + 1 : Nat) : Int) - 1 = (m : Int) := by omega
        have em2 : (m : Int) + 1 - 1 = (m : Int) := by omega
        clear hs7 ho7 hrow hdl hdm
        go_region
        all_goals
          go_wp2
          refine ⟨⟨k + 1, putZ gk (1, nn) (.slice (some ⟨bg, 0, none⟩) m cg), by omega, by go_num, ?_, HTR5.out.tr (Tr.pop (x := (1, nn)) (Ext.rf w5).drew HO7.out (fun b hb => by rw [HGX.out]; exact hb))⟩, by simp [intOf]; omega⟩
          rw [HPT.out]
          have e : (fun y => if y = (1, nn) then (popE E (l.take k) y).dropLast else popE E (l.take k) y) = (fun y => if y = (1, nn) then xs.dropLast else popE E (l.take k) y) := by
            funext y
            by_cases e : y = (1, nn)
            · rw [if_pos e, if_pos e, e, HXS.out]
            · rw [if_neg e, if_neg e]
          rw [e]
          exact HS7.out
    · have hkl : k = l.length := by omega
      have HSr : Hid (SCX wr base mx mc (n + l.length) gk (popE E l)) := by
        have := HS.out
        rw [hkl, List.take_length] at this
        exact this
      go_wp2
      go_end0
      exact ⟨rfl, gk, HSr.out, HTR.out⟩
end Go.Proofs.YtkdhhcidpklgoaaGreatDoor

/- kind: wanted. -/
namespace Go.Proofs.YtkdhhcidpklgoaaGreatDoor
open Go.RowKit Go.Shelf Go.Maps
attribute [local go_sem] Oper.semAt_some

abbrev ckV (vd vf : Value) (mx mc : Nat) : Value := .agg #[vd, vf, .map (some mx), .map (some mc)]
def appQ (op : Int) : Bool := decide (op = 2 ∨ op = 6 ∨ op = 13)
theorem wantT_app {C : Cg} {op n ty : Int} {i : Nat} (h : op = 2 ∨ op = 6 ∨ op = 13) : wantT C op n ty i = ((hdArgs C op n ty).getD i ⟨0, false⟩).ty := by unfold wantT; rw [if_neg (by omega), if_pos h]
theorem wantT_no {C : Cg} {op n ty : Int} {i : Nat} (h : ¬ (op = 2 ∨ op = 6 ∨ op = 13)) (h9 : op ≠ 9) : wantT C op n ty i = 0 := by unfold wantT; rw [if_neg h9, if_neg h]
set_option maxHeartbeats 4000000 in
set_option maxRecDepth 100000 in
theorem wanted_any (vd vf : Value) (C : Cg) (mx mc : Nat) (t : Nd) (va vb : Value) (i : Nat) (w : World) (hC : RCg w vd vf C) (htab : Tabs w) (hop : 0 ≤ t.op) (hop2 : t.op < 15) (hi : (t.op = 2 ∨ t.op = 6 ∨ t.op = 13) → i < (hdArgs C t.op t.n t.ty).length) (ha : (t.op = 2 ∨ t.op = 6 ∨ t.op = 13) → appB C t.op t.n t.ty) (hil : i ≤ 1048576) (hk : ∃ k, RNd w k t va vb) :
    Calls Tryz.prog 96 #[ckV vd vf mx mc, nV t va vb, .int .i64 i] w fun e w' => e = .returned (.int .i64 (wantT C t.op t.n t.ty i)) ∧ Ext w w' := by
  obtain ⟨k, hk⟩ := hk
  have hq := fun (h : t.op = 2 ∨ t.op = 6 ∨ t.op = 13) => hargs_any vd vf C t va vb w hC (ha h)
  obtain ⟨-, ⟨Ax, cx, rfl, -, -⟩, ⟨Bx, dx, rfl, -, -⟩⟩ := hk.form
  obtain ⟨Ad, cd, rfl, -, -⟩ := hC.d.form
  obtain ⟨Af, cf, rfl, -, -⟩ := hC.f.form
  obtain ⟨op, n, ty, args, brs⟩ := t
  dsimp only [Nd.op, Nd.n, Nd.ty, Nd.args, Nd.brs] at *
  obtain ⟨m, hm⟩ : ∃ m : Nat, op = m := ⟨op.toNat, by omega⟩
  subst hm
  have hru0 := (htab.ru m (by omega)).2
  have hru : w.cell? ⟨0, m * 2 + 1, none⟩ = some (.int .i64 (if m = 9 then 1 else if m = 2 ∨ m = 6 ∨ m = 13 then 3 else 0)) := hru0
  have hml : (m : Int) < 15 := hop2
  have HE2 := Lib.hid (Ext.al2 w (.cells #[.slice Ad C.decls.length cd, .slice Af C.funs.length cf, .map (some mx), .map (some mc)] 64) (.cells #[.int .i64 (m : Nat), .int .i64 n, .int .i64 ty, .slice Ax args.length cx, .slice Bx brs.length dx] 36))
  clear htab ha hk hC hru0
  show Calls Tryz.prog 96 #[.agg #[.slice Ad C.decls.length cd, .slice Af C.funs.length cf, .map (some mx), .map (some mc)], .agg #[.int .i64 (m : Nat), .int .i64 n, .int .i64 ty, .slice Ax args.length cx, .slice Bx brs.length dx], .int .i64 i] w fun e w' => e = .returned (.int .i64 (wantT C (m : Nat) n ty i)) ∧ Ext w w'
  by_cases h9 : m = 9
  · subst h9
    have HW : Hid (wantT C ((9 : Nat) : Int) n ty i = ty) := rfl
    have hru : w.cell? ⟨0, 19, none⟩ = some (.int .i64 1) := hru
    have e9 : ((9 : Nat) : Int) = 9 := rfl
    rw [e9] at HE2 HW ⊢
    clear e9
    have hr2 := Ext.keep HE2.out hru
    clear hq hi hru
    go_enter Tryz.func96, Tryz.ntmps96
    go_wp2
    go_ret
    exact ⟨ret_int HW.out.symm, HE2.out⟩
  · by_cases happ : m = 2 ∨ m = 6 ∨ m = 13
    · obtain ⟨v, hv, hcall⟩ := hq (by omega)
      have hi := hi (by omega)
      have HW : Hid (wantT C (m : Nat) n ty i = ((hdArgs C (m : Nat) n ty).getD i ⟨0, false⟩).ty) := wantT_app (by omega)
      rw [if_neg h9, if_pos happ] at hru
      have hr2 := Ext.keep HE2.out hru
      have HCALL : Hid (∀ w', Ext w w' → Calls Tryz.prog 124 #[.agg #[.slice Ad C.decls.length cd, .slice Af C.funs.length cf], .agg #[.int .i64 (m : Nat), .int .i64 n, .int .i64 ty, .slice Ax args.length cx, .slice Bx brs.length dx]] w' fun e w'' => e = .returned v ∧ Ext w' w'') := hcall
      generalize hdArgs C (m : Nat) n ty = L at *
      obtain ⟨Aa, ca, rfl, -, -⟩ := hv.form
      obtain ⟨b, o, rfl, hbl, y0, -⟩ := hv.at_ hi
      have HL : Hid (L.getD i ⟨0, false⟩ = L[i]) := by show _ = _; rw [List.getD_eq_getElem?_getD, List.getElem?_eq_getElem hi]; rfl
      have HY := Lib.hid y0
      clear hq hcall hv hru y0
      generalize L[i] = a at *
      have hii : (i : Int) < L.length := by omega
      go_enter Tryz.func96, Tryz.ntmps96
      go_wp2_with (go_at_call 124; (with_reducible refine (HCALL.out _ HE2.out).mono ?_); rintro e w5 ⟨rfl, hx5⟩; have HX5 := Lib.hid (HE2.out.tr hx5); have y5 := (HE2.out.tr hx5).keep HY.out; clear hx5)
      go_ret
      exact ⟨ret_int (by rw [HW.out, HL.out]), HX5.out⟩
    · have HW : Hid (wantT C (m : Nat) n ty i = 0) := wantT_no (by omega) (by omega)
      rw [if_neg h9, if_neg happ] at hru
      have hr2 := Ext.keep HE2.out hru
      clear hq hi hru
      go_enter Tryz.func96, Tryz.ntmps96
      go_wp2
      go_ret
      exact ⟨ret_int HW.out.symm, HE2.out⟩
end Go.Proofs.YtkdhhcidpklgoaaGreatDoor

/- kind: new scopes. -/
namespace Go.Proofs.YtkdhhcidpklgoaaGreatDoor
open Go.RowKit Go.Shelf Go.Maps
attribute [local go_sem] Oper.semAt_some

set_option maxRecDepth 100000 in
theorem newScopes_any (w : World) : Calls Tryz.prog 49 #[] w fun e w' => ∃ mx mc, e = .returned (.agg #[.map (some mx), .map (some mc)]) ∧ SCX w' w'.heap.size mx mc 0 (fun _ => nilS) (fun _ => []) ∧ Ext w w' ∧ w.heap.size ≤ mx ∧ w.heap.size ≤ mc := by
  have hmm := @run_makeMap Tryz.prog
  have h0 := Ext.lt (Ext.al2 (w.alloc (.cells #[.map (some (w.heap.size + 1)), .map (some (w.heap.size + 1 + 1))] 62)) (.map #[] 0) (.map #[] 0)) (heapNew w (.cells #[.map (some (w.heap.size + 1)), .map (some (w.heap.size + 1 + 1))] 62))
  have h1 := (MapZ.new intT nilS (w.alloc (.cells #[.map (some (w.heap.size + 1)), .map (some (w.heap.size + 1 + 1))] 62))).ext (Ext.al _ (.map #[] 0))
  have h2 := MapZ.new intT nilS ((w.alloc (.cells #[.map (some (w.heap.size + 1)), .map (some (w.heap.size + 1 + 1))] 62)).alloc (.map #[] 0))
  simp only [World.size_alloc] at h1 h2
  have HX := Lib.hid (((Ext.al w (.cells #[.map (some (w.heap.size + 1)), .map (some (w.heap.size + 1 + 1))] 62)).tr (Ext.al _ (.map #[] 0))).tr (Ext.al _ (.map #[] 0)))
  have H0 := Lib.hid h0; have H1 := Lib.hid h1; have H2 := Lib.hid h2
  clear h0 h1 h2
  go_enter Tryz.func49, Tryz.ntmps49
  go_wp2
  generalize ((w.alloc _).alloc _).alloc _ = w3 at *
  have r0 := cellAt H0.out 0
  have r1 := cellAt H0.out 1
  exact bodyPost_ret (v := .agg #[.map (some (w.heap.size + 1)), .map (some (w.heap.size + 1 + 1))]) (by simp [results, Tryz.results49, go_sem, r0, r1]) rfl
    ⟨w.heap.size + 1, w.heap.size + 1 + 1, rfl, ⟨H1.out, H2.out, by omega, fun v => own_nil', fun u v b _ h => by cases h⟩, HX.out, by omega, by omega⟩
end Go.Proofs.YtkdhhcidpklgoaaGreatDoor
