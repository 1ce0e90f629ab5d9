/- rules.go: ofXtor. -/
import Derived.Test.YtkdglplfcpindaaGreatDoorQ28
namespace Go.Proofs.YtkdglplfcpindaaGreatDoor
open Go.RowKit

theorem lastT_eq (x : Xtor) : lastT x = lastTy x.args := by
  unfold lastT lastTy
  cases x.args.getLast? <;> rfl
theorem own_set2 {w : World} {B : Nat} {k : Nat} {v : Value} {n : Nat} {xs : List Value} (h : w.ownsRow B 3 k v n xs) {r T : Nat} {c : Array Value} (hr : w.heap[r]? = some (.cells c T (0, 0))) (hT : T ≠ 3) (i : Nat) (u : Value) : (w.setCell ⟨r, i, none⟩ u).ownsRow B 3 k v n xs := by
  refine ⟨h.1, ?_⟩
  rcases h.2 with h0 | ⟨g, cap, cur, e1, e2, e3, e4, e5, e6, e7⟩
  · exact .inl h0
  · have hne : g ≠ r := fun e => by
      subst e
      rw [hr] at e3
      injection e3 with e3
      injection e3 with _ e3
      exact hT e3
    refine .inr ⟨g, cap, cur, e1, e2, ?_, e4, e5, e6, e7⟩
    exact ((Only.setCell (C := fun j => j = r) (p := ⟨r, i, none⟩) rfl w u).block _ (heap_lt e3) (by omega)).trans e3
theorem own_ne {w : World} {B : Nat} {k : Nat} {v : Value} {n : Nat} {xs : List Value} (h : w.ownsRow B 3 k v n xs) {r T : Nat} {c : Array Value} (hr : w.heap[r]? = some (.cells c T (0, 0))) (hT : T ≠ 3) : some r ≠ v.ownBlock := by
  rcases h.2 with ⟨rfl, -⟩ | ⟨g, cap, cur, rfl, e2, e3, e4, e5, e6, e7⟩
  · simp [Value.ownBlock]
  · intro e
    simp [Value.ownBlock] at e
    subst e
    rw [hr] at e3
    injection e3 with e3
    injection e3 with _ e3
    exact hT e3

set_option maxHeartbeats 4000000 in
set_option maxRecDepth 100000 in
theorem ofXtor_any (v : Value) (l : List Decl) (u n : Nat) (d : Decl) (x : Xtor) (w : World) (h : RDecls w v l) (hd : l[u]? = some d) (hx : d.xtors[n]? = some x) (hres : d.codata = true → (resI l ((u : Int) + 1) n).1 = lastT x) (hl : x.args.length ≤ 1000) :
    Calls Tryz.prog 87 #[v, .int .i64 ((u : Int) + 1), .int .i64 n] w fun e w' => (∃ va, e = .returned (.agg #[va, .int .i64 (sgX d ((u : Int) + 1) x).res]) ∧ OwnL w' w.heap.size va (sgX d ((u : Int) + 1) x).args) ∧ Ext w w' := by
  have H := Lib.hid h; have HRES := Lib.hid hres
  obtain ⟨A, c, rfl, hc, hm⟩ := h.form
  clear h hres
  unfold maxLen at hm
  have hul : u < l.length := (List.getElem?_eq_some_iff.1 hd).1
  have hnl : n < d.xtors.length := (List.getElem?_eq_some_iff.1 hx).1
  obtain ⟨b, o, vx, rfl, hbl, h0, h1, h2, h3, -⟩ := H.out.at_ hul
  rw [(List.getElem?_eq_some_iff.1 hd).2] at h0 h1 h3
  obtain ⟨A2, c2, rfl, hc2, hm2⟩ := h3.form
  unfold maxLen at hm2
  obtain ⟨b2, o2, va, rfl, hbl2, g0, g1, g2, -⟩ := h3.at_ hnl
  rw [(List.getElem?_eq_some_iff.1 hx).2] at g0 g2
  obtain ⟨A3, c3, rfl, hc3, hm3⟩ := g2.form
  unfold maxLen at hm3
  have e0 : ((u : Int) + 1 - 1) = u := by omega
  have HE := Lib.hid (Ext.al2 w (.cells #[.slice none 0 0, .int .i64 0] 181) (.cells #[.string d.name, .bool d.codata, .slice (some ⟨b2, o2, none⟩) d.xtors.length c2] 137))
  have hb1 := heapNew w (.cells #[.slice none 0 0, .int .i64 0] 181)
  have hb2 := heapNew (w.alloc (.cells #[.slice none 0 0, .int .i64 0] 181)) (.cells #[.string d.name, .bool d.codata, .slice (some ⟨b2, o2, none⟩) d.xtors.length c2] 137)
  rw [World.size_alloc] at hb2
  have hb1 := ((Ext.al (w.alloc (.cells #[.slice none 0 0, .int .i64 0] 181)) (.cells #[.string d.name, .bool d.codata, .slice (some ⟨b2, o2, none⟩) d.xtors.length c2] 137)).block _ (heap_lt hb1)).trans hb1
  have HB1 := Lib.hid hb1; have HB2 := Lib.hid hb2
  have g0 := HE.out.keep g0
  have g1 := HE.out.keep g1
  have HG := Lib.hid (g2.below HE.out)
  clear hb1 hb2 h3 g2 hd hx
  go_enter Tryz.func87, Tryz.ntmps87
  go_wp2_with fail
  generalize hw2 : World.alloc (World.alloc w _) _ = w2 at *
  have hs2 : w2.heap.size = w.heap.size + 1 + 1 := by rw [← hw2, World.size_alloc, World.size_alloc]
  clear hw2 g0 g1 h0 h1 h2
  have HS2 := Lib.hid hs2
  (with_reducible refine (prog_prods_any x.name _ x.args _ HG.out hl).mono ?_)
  rintro e w3 ⟨⟨vp, rfl, ho⟩, hb⟩
  obtain ⟨Ap, cp, rfl⟩ := own_shapeL ho
  have HO := Lib.hid ho; have HX := Lib.hid hb; have HXW := Lib.hid (HE.out.tr hb)
  have HC1 := Lib.hid ((hb.block _ (heap_lt HB1.out)).trans HB1.out)
  have HC2 := Lib.hid ((hb.block _ (heap_lt HB2.out)).trans HB2.out)
  clear ho hb hs2
  have hsz : w.heap.size + 1 + 1 ≤ w3.heap.size := by have := HX.out.size; have := HS2.out; omega
  have HLP : Hid ((prodA x.args).length ≤ 1000) := by
    have := prodA_le x.args x.args.length
    rw [List.take_length] at this
    show _ ≤ _; omega
  have hl3 : Ext w3 (w3.alloc (.cells #[.slice Ap (prodA x.args).length cp, .int .i64 ((u : Int) + 1)] 181)) := Ext.al _ _
  have HE3 := Lib.hid hl3
  have HB3 := Lib.hid (heapNew w3 (.cells #[.slice Ap (prodA x.args).length cp, .int .i64 ((u : Int) + 1)] 181))
  have m1 := HE3.out.keep (cellAt HC2.out 1)
  clear hl3
  cases hcd : d.codata
  · have HCD := Lib.hid hcd
    rw [hcd] at m1
    clear hcd
    have r0 := HE3.out.keep (cellAt HC1.out 0)
    have r1 := HE3.out.keep (cellAt HC1.out 1)
    have f0 := frozenAt ((HE3.out.block _ (heap_lt HC1.out)).trans HC1.out) 0
    have f1 := frozenAt ((HE3.out.block _ (heap_lt HC1.out)).trans HC1.out) 1
    have k0 := cellAt HB3.out 0
    have k1 := cellAt HB3.out 1
    go_wp2
    have HV0 := Lib.hid (own_below HO.out HE3.out)
    have HXE := Lib.hid (HXW.out.tr HE3.out)
    have HC4 := Lib.hid ((HE3.out.block _ (heap_lt HC1.out)).trans HC1.out)
    have HR2 := Lib.hid (box2_bothB HC4.out (.slice Ap (prodA x.args).length cp) (.int .i64 ((u : Int) + 1)))
    have HV2 := Lib.hid (own_set (own_set HV0.out (r := w.heap.size) (by have := HS2.out; omega) 0 (.slice Ap (prodA x.args).length cp)) (r := w.heap.size) (by have := HS2.out; omega) 1 (.int .i64 ((u : Int) + 1)))
    have HX2 : Hid (Ext w _) := (HXE.out.setCell (p := ⟨w.heap.size, 0, none⟩) (Nat.le_refl _) (.slice Ap (prodA x.args).length cp)).setCell (p := ⟨w.heap.size, 1, none⟩) (Nat.le_refl _) (.int .i64 ((u : Int) + 1))
    have HSG : Hid (sgX d ((u : Int) + 1) x = ⟨prodA x.args, (u : Int) + 1⟩) := by show _ = _; unfold sgX; rw [if_neg (by rw [HCD.out]; simp)]; rfl
    generalize World.setCell (World.setCell _ _ _) _ _ = wz at *
    clear r0 r1 f0 f1 k0 k1 m1
    have r0 := cellAt HR2.out 0
    have r1 := cellAt HR2.out 1
    rw [HSG.out]
    exact bodyPost_ret (v := .agg #[.slice Ap (prodA x.args).length cp, .int .i64 ((u : Int) + 1)]) (by simp [results, Tryz.results87, go_sem, r0, r1]) rfl ⟨⟨_, rfl, own_base HV2.out (by have := HS2.out; omega)⟩, HX2.out⟩
  · have HCD := Lib.hid hcd
    have HRE := Lib.hid (HRES.out hcd)
    rw [hcd] at m1
    clear hcd
    have k0 := cellAt HB3.out 0
    have k1 := cellAt HB3.out 1
    have HE8 := Lib.hid (HE3.out.tr (Ext.al _ (.cells #[.int .i64 ((u : Int) + 1)] 3)))
    have HO8 := Lib.hid (own_below HO.out HE8.out)
    have HB8 := Lib.hid (((Ext.al (w3.alloc (.cells #[.slice Ap (prodA x.args).length cp, .int .i64 ((u : Int) + 1)] 181)) (.cells #[.int .i64 ((u : Int) + 1)] 3)).block _ (heap_lt HB3.out)).trans HB3.out)
    have hso : SrcN ((w3.alloc (.cells #[.slice Ap (prodA x.args).length cp, .int .i64 ((u : Int) + 1)] 181)).alloc (.cells #[.int .i64 ((u : Int) + 1)] 3)) (some ⟨w3.heap.size + 1, 0, none⟩) ([(u : Int) + 1] : List Int).length 1 (([(u : Int) + 1] : List Int).map (Value.int .i64)) := by
      have := RInts.src (l := [(u : Int) + 1]) (c := 1) (own_ints (own_single (w := w3.alloc (.cells #[.slice Ap (prodA x.args).length cp, .int .i64 ((u : Int) + 1)] 181)) (B := 0) (Nat.zero_le _) ((u : Int) + 1)))
      rw [World.size_alloc] at this
      exact this
    have HSO := Lib.hid hso
    clear hso
    have hb8 : w2.heap.size ≤ ((w3.alloc (.cells #[.slice Ap (prodA x.args).length cp, .int .i64 ((u : Int) + 1)] 181)).alloc (.cells #[.int .i64 ((u : Int) + 1)] 3)).heap.size := (HX.out.tr HE8.out).size
    have HB8S := Lib.hid hb8
    clear hb8
    go_wp2_with (at_builtin; go_loud (refine app_vals Tryz.u57 Tryz.info3 rfl (by decide) (by decide) rfl _ _ rfl w2.heap.size _ (prodA x.args).length ((prodA x.args).map (Value.int .i64)) rfl HO8.out (some ⟨w3.heap.size + 1, 0, none⟩) 1 1 [.int .i64 ((u : Int) + 1)] rfl HSO.out (fun u hu => by rw [List.mem_singleton.1 hu]; rfl) (by have := HLP.out; omega) HB8S.out ?_))
    intro v9 w9 ho9 hg9
    have HB9 := Lib.hid ((hg9.block _ (heap_lt HB8.out) (own_ne HO8.out HB8.out (by decide))).trans HB8.out)
    have hx9 : Ext w2 w9 := (HX.out.tr HE8.out).trans (grown_ext' hg9 HO8.out HB8S.out)
    obtain ⟨A9, c9, rfl⟩ := own_shapeL ho9
    have HO9 : Hid (OwnL w9 w2.heap.size (.slice A9 ((prodA x.args).length + 1) c9) (prodA x.args ++ [(u : Int) + 1])) := by
      show World.ownsRow _ _ _ _ _ _ _
      rw [List.length_append, List.map_append]
      exact ho9
    have HX9 := Lib.hid hx9
    clear ho9 hg9 hx9 k0 k1 m1
    have k0 := cellAt HB9.out 0
    have k1 := cellAt HB9.out 1
    have f0 := frozenAt HB9.out 0
    have hg8 : w2.heap.size ≤ w3.heap.size := HX.out.size
    go_wp2_with fail
    have HBA := Lib.hid (set1_box2 HB9.out (.slice A9 ((prodA x.args).length + 1) c9))
    have HOA := Lib.hid (own_set2 HO9.out HB9.out (by decide) 0 (.slice A9 ((prodA x.args).length + 1) c9))
    have HXA : Hid (Ext w2 _) := HX9.out.setCell (p := ⟨w3.heap.size, 0, none⟩) hg8 (.slice A9 ((prodA x.args).length + 1) c9)
    generalize World.setCell w9 _ _ = wa at *
    clear k0 k1 f0
    (with_reducible refine (Result_any _ l _ _ _ (H.out.below (HE.out.tr HXA.out))).mono ?_)
    rintro e wb ⟨rfl, hb⟩
    have HXB := Lib.hid (HXA.out.tr hb)
    have HBB := Lib.hid ((hb.block _ (heap_lt HBA.out)).trans HBA.out)
    have HOB := Lib.hid (own_below HOA.out hb)
    have HC5 := Lib.hid ((HXB.out.block _ (heap_lt HB1.out)).trans HB1.out)
    clear hb
    generalize (resI l ((u : Int) + 1) n).1 = r1 at *
    generalize (resI l ((u : Int) + 1) n).2 = r2 at *
    have k0 := cellAt HBB.out 0
    have k1 := cellAt HBB.out 1
    have f1 := frozenAt HBB.out 1
    go_upto_region 6 with fail
    have HBC := Lib.hid (set1_box2b HBB.out (.int .i64 r1))
    have HOC := Lib.hid (own_set2 HOB.out HBB.out (by decide) 1 (.int .i64 r1))
    have HXC : Hid (Ext w2 _) := HXB.out.setCell (p := ⟨w3.heap.size, 1, none⟩) hg8 (.int .i64 r1)
    have HC6 := Lib.hid (((HXB.out.setCell (p := ⟨w3.heap.size, 1, none⟩) hg8 (.int .i64 r1)).block _ (heap_lt HB1.out)).trans HB1.out)
    generalize World.setCell wb _ _ = wc at *
    clear k0 k1 f1
    have k0 := cellAt HBC.out 0
    have k1 := cellAt HBC.out 1
    have q0 := cellAt HC6.out 0
    have q1 := cellAt HC6.out 1
    have f0 := frozenAt HC6.out 0
    have f1 := frozenAt HC6.out 1
    go_wp2
    have HR2 := Lib.hid (box2_bothB HC6.out (.slice A9 ((prodA x.args).length + 1) c9) (.int .i64 r1))
    have HV2 := Lib.hid (own_set (own_set HOC.out (r := w.heap.size) (by have := HS2.out; omega) 0 (.slice A9 ((prodA x.args).length + 1) c9)) (r := w.heap.size) (by have := HS2.out; omega) 1 (.int .i64 r1))
    have HX2 : Hid (Ext w _) := ((HE.out.tr HXC.out).setCell (p := ⟨w.heap.size, 0, none⟩) (Nat.le_refl _) (.slice A9 ((prodA x.args).length + 1) c9)).setCell (p := ⟨w.heap.size, 1, none⟩) (Nat.le_refl _) (.int .i64 r1)
    have HSG : Hid (sgX d ((u : Int) + 1) x = ⟨prodA x.args ++ [(u : Int) + 1], r1⟩) := by show _ = _; unfold sgX; rw [if_pos HCD.out, HRE.out]; rfl
    generalize World.setCell (World.setCell _ _ _) _ _ = wz at *
    clear q0 q1 f0 f1 k0 k1
    have q0 := cellAt HR2.out 0
    have q1 := cellAt HR2.out 1
    rw [HSG.out]
    exact bodyPost_ret (v := .agg #[.slice A9 ((prodA x.args).length + 1) c9, .int .i64 r1]) (by simp [results, Tryz.results87, go_sem, q0, q1]) rfl ⟨⟨_, rfl, own_base HV2.out (by have := HS2.out; omega)⟩, HX2.out⟩
end Go.Proofs.YtkdglplfcpindaaGreatDoor

/- rules.go: rows of signatures that newChecker owns. -/
namespace Go.Proofs.YtkdglplfcpindaaGreatDoor
open Go.RowKit

def cellsS (L : List (Value × Sg)) : List Value := L.flatMap fun x => [x.1, .int .i64 x.2.res]
theorem cellsS_app (L M : List (Value × Sg)) : cellsS (L ++ M) = cellsS L ++ cellsS M := by unfold cellsS; rw [List.flatMap_append]
theorem cellsS_at : ∀ (L : List (Value × Sg)) (i : Nat) (x : Value × Sg), L[i]? = some x → (cellsS L)[i * 2]? = some x.1 ∧ (cellsS L)[i * 2 + 1]? = some (.int .i64 x.2.res)
  | [], _, _, h => by simp at h
  | y :: r, 0, x, h => by
    simp at h; subst h
    exact ⟨rfl, rfl⟩
  | y :: r, i + 1, x, h => by
    rw [List.getElem?_cons_succ] at h
    obtain ⟨h1, h2⟩ := cellsS_at r i x h
    have e : cellsS (y :: r) = y.1 :: .int .i64 y.2.res :: cellsS r := rfl
    rw [e, show (i + 1) * 2 = i * 2 + 1 + 1 by omega, List.getElem?_cons_succ, List.getElem?_cons_succ, List.getElem?_cons_succ, List.getElem?_cons_succ]
    exact ⟨h1, h2⟩
/-- A row of signatures that the call owns. -/
structure OwnSg (w : World) (B : Nat) (s : Value) (L : List (Value × Sg)) : Prop where
  own : w.ownsRow B 181 2 s L.length (cellsS L)
  args : ∀ x ∈ L, OwnL w B x.1 x.2.args
theorem OwnSg.nil (w : World) (B : Nat) : OwnSg w B (.slice none 0 0) [] := ⟨⟨rfl, .inl ⟨rfl, rfl⟩⟩, fun x h => by cases h⟩
theorem OwnSg.below {w w' : World} {B : Nat} {s : Value} {L : List (Value × Sg)} (h : OwnSg w B s L) (hb : Ext w w') : OwnSg w' B s L := ⟨own_below h.own hb, fun x hx => own_below (h.args x hx) hb⟩
theorem OwnSg.rsgs {w : World} {B : Nat} {s : Value} {L : List (Value × Sg)} (h : OwnSg w B s L) : RSgs w s (L.map (·.2)) := by
  have ho := h.own
  rcases h.own.2 with ⟨rfl, h0⟩ | ⟨g, cap, cur, rfl, e2, e3, e4, e5, e6, e7⟩
  · have hL : L = [] := List.eq_nil_of_length_eq_zero h0
    subst hL
    exact ⟨none, 0, rfl, Nat.le_refl _, Nat.zero_le _, fun i x hx => by simp at hx⟩
  · refine ⟨some ⟨g, 0, none⟩, cap, by rw [List.length_map], by rw [List.length_map]; exact e4, e5, fun i x hx => ?_⟩
    rw [List.getElem?_map] at hx
    obtain ⟨y, hy, rfl⟩ := Option.map_eq_some_iff.1 hx
    have hi : i < L.length := (List.getElem?_eq_some_iff.1 hy).1
    obtain ⟨h1, h2⟩ := cellsS_at L i y hy
    refine ⟨g, 0, y.1, rfl, ?_, ?_, own_ints (h.args y (List.mem_of_getElem? hy))⟩
    · rw [Nat.zero_add, World.ownsRow.cellAt ho (i * 2) (by omega)]; exact h1
    · rw [Nat.zero_add, World.ownsRow.cellAt ho (i * 2 + 1) (by omega)]; exact h2
/-- A row of integers lies apart from a row of another type. -/
theorem own_grown {w w' : World} {B B' e size : Nat} {v s : Value} {n m : Nat} {xs ys : List Value} (h : w.ownsRow B 3 1 v n xs) (hs : w.ownsRow B' e size s m ys) (he : e ≠ 3) (hg : w.grownBy w' s.ownBlock) : w'.ownsRow B 3 1 v n xs := by
  refine ⟨h.1, ?_⟩
  rcases h.2 with h0 | ⟨g, cap, cur, e1, e2, e3, e4, e5, e6, e7⟩
  · exact .inl h0
  · refine .inr ⟨g, cap, cur, e1, e2, ?_, e4, e5, e6, e7⟩
    refine (hg.block g (heap_lt e3) ?_).trans e3
    rcases hs.2 with ⟨rfl, -⟩ | ⟨g', cap', cur', rfl, f2, f3, -⟩
    · simp [Value.ownBlock]
    · intro hq
      simp [Value.ownBlock] at hq
      subst hq
      rw [f3] at e3
      injection e3 with e3
      injection e3 with _ e3
      exact he e3
theorem OwnSg.app {w w' : World} {B : Nat} {s s' : Value} {L : List (Value × Sg)} {x : Value × Sg} (h : OwnSg w B s L) (hx : OwnL w B x.1 x.2.args) (hg : w.grownBy w' s.ownBlock)
    (ho : w'.ownsRow B 181 2 s' (L.length + 1) (cellsS L ++ cellsS [x])) : OwnSg w' B s' (L ++ [x]) := by
  refine ⟨by rw [List.length_append, cellsS_app]; exact ho, fun y hy => ?_⟩
  rcases List.mem_append.1 hy with hy | hy
  · exact own_grown (h.args y hy) h.own (by decide) hg
  · rw [List.mem_singleton.1 hy]
    exact own_grown hx h.own (by decide) hg
theorem own_set3 {w : World} {B e : Nat} {k : Nat} {v : Value} {n : Nat} {xs : List Value} (h : w.ownsRow B e k v n xs) {r T : Nat} {c : Array Value} (hr : w.heap[r]? = some (.cells c T (0, 0))) (hT : T ≠ e) (i : Nat) (u : Value) : (w.setCell ⟨r, i, none⟩ u).ownsRow B e k v n xs := by
  refine ⟨h.1, ?_⟩
  rcases h.2 with h0 | ⟨g, cap, cur, e1, e2, e3, e4, e5, e6, e7⟩
  · exact .inl h0
  · have hne : g ≠ r := fun q => by
      subst q
      rw [hr] at e3
      injection e3 with e3
      injection e3 with _ e3
      exact hT e3
    refine .inr ⟨g, cap, cur, e1, e2, ?_, e4, e5, e6, e7⟩
    exact ((Only.setCell (C := fun j => j = r) (p := ⟨r, i, none⟩) rfl w u).block _ (heap_lt e3) (by omega)).trans e3
theorem OwnSg.set {w : World} {B : Nat} {s : Value} {L : List (Value × Sg)} (h : OwnSg w B s L) {r T : Nat} {c : Array Value} (hr : w.heap[r]? = some (.cells c T (0, 0))) (h1 : T ≠ 181) (h2 : T ≠ 3) (i : Nat) (u : Value) : OwnSg (w.setCell ⟨r, i, none⟩ u) B s L :=
  ⟨own_set3 h.own hr h1 i u, fun x hx => own_set3 (h.args x hx) hr h2 i u⟩
theorem OwnSg.base {w : World} {B B' : Nat} {s : Value} {L : List (Value × Sg)} (h : OwnSg w B s L) (hb : B' ≤ B) : OwnSg w B' s L := ⟨own_base h.own hb, fun x hx => own_base (h.args x hx) hb⟩

/-! ### the row of rows -/
theorem Tryz.infoSgs : (Tryz.prog.info? 174).map (fun i => (i.zero, i.size, i.bytes)) = some (some (.slice none 0 0), 1, 24) := by kernel_rfl
theorem made_sgs (n : Nat) : madeCells #[Value.slice none 0 0] n = Array.replicate n (Value.slice none 0 0) := by
  apply Array.ext
  · simp [size_madeCells]
  · intro i h1 h2
    simp [madeCells, Nat.mod_one]
theorem Tryz.undSgs : Tryz.prog.underlying 173 = some (.slice 174) := by kernel_rfl
theorem make_sgs (w : World) (n : Nat) (h : n ≤ 10000000) : (Instr.makeSlice 173 (.int .i64 n) (.int .i64 n)).run Tryz.prog w = .ok (.slice (some ⟨w.heap.size, 0, none⟩) n n) (w.alloc (.cells (Array.replicate n (Value.slice none 0 0)) 174)) := by
  obtain ⟨i0, hi, hz0, hz1, hz2⟩ := info_parts Tryz.infoSgs
  have := run_make w 173 174 i0 (.slice none 0 0) Tryz.undSgs hi hz0 .i64 .i64 n n (by omega) (by omega) (by rw [hz2]; omega) (by omega)
  rw [this, hz1]
  simp only [Int.toNat_natCast, Nat.mul_one]
  rw [show (Value.slice none 0 0).cells = #[Value.slice none 0 0] from rfl, made_sgs]
end Go.Proofs.YtkdglplfcpindaaGreatDoor

/- rules.go: newChecker's rows of signatures, one for each type. -/
namespace Go.Proofs.YtkdglplfcpindaaGreatDoor
open Go.RowKit

theorem own_keep {w w' : World} {B : Nat} {e : TypeId} {k : Nat} {v : Value} {n : Nat} {xs : List Value} (h : w.ownsRow B e k v n xs) (hk : ∀ q, B ≤ q → q < w.heap.size → w'.heap[q]? = w.heap[q]?) : w'.ownsRow B e k v n xs := by
  refine ⟨h.1, ?_⟩
  rcases h.2 with h0 | ⟨g, cap, cur, e1, e2, e3, e4, e5, e6, e7⟩
  · exact .inl h0
  · exact .inr ⟨g, cap, cur, e1, e2, (hk g e2 (heap_lt e3)).trans e3, e4, e5, e6, e7⟩
theorem OwnSg.keep {w w' : World} {B : Nat} {s : Value} {L : List (Value × Sg)} (h : OwnSg w B s L) (hk : ∀ q, B ≤ q → q < w.heap.size → w'.heap[q]? = w.heap[q]?) : OwnSg w' B s L :=
  ⟨own_keep h.own hk, fun x hx => own_keep (h.args x hx) hk⟩
/-- The rows of the first u types are there; the others are empty. -/
structure RowsOK (P : Pg) (B : Nat) (w : World) (C : Array Value) (u : Nat) : Prop where
  sz : C.size = P.decls.length + 1
  zero : C[0]? = some (.slice none 0 0)
  rest : ∀ k, u ≤ k → k < P.decls.length → C[k + 1]? = some (.slice none 0 0)
  done : ∀ (k : Nat) (d : Decl), k < u → P.decls[k]? = some d → ∃ rv L, C[k + 1]? = some rv ∧ OwnSg w B rv L ∧ L.map (·.2) = d.xtors.map (sgX d ((k : Int) + 1))
theorem RowsOK.keep {P : Pg} {B : Nat} {w w' : World} {C : Array Value} {u : Nat} (h : RowsOK P B w C u) (hk : ∀ q, B ≤ q → q < w.heap.size → w'.heap[q]? = w.heap[q]?) : RowsOK P B w' C u :=
  ⟨h.sz, h.zero, h.rest, fun k d hu hd => (h.done k d hu hd).elim fun rv h => h.elim fun L h => ⟨rv, L, h.1, h.2.1.keep hk, h.2.2⟩⟩
theorem RowsOK.start (P : Pg) (B : Nat) (w : World) : RowsOK P B w (Array.replicate (P.decls.length + 1) (Value.slice none 0 0)) 0 := by
  refine ⟨by simp, by simp, fun k _ hk => ?_, fun k d h => by omega⟩
  rw [Array.getElem?_replicate, if_pos (by omega)]
theorem RowsOK.next {P : Pg} {B B' : Nat} {w : World} {C C' : Array Value} {u : Nat} {d : Decl} {s : Value} {L : List (Value × Sg)} (h : RowsOK P B w C u) (hd : P.decls[u]? = some d) (hs : C'.size = C.size) (hu : C'[u + 1]? = some s) (ho : ∀ k, k ≠ u + 1 → C'[k]? = C[k]?) (hB : B ≤ B') (hL : OwnSg w B' s L) (hm : L.map (·.2) = d.xtors.map (sgX d ((u : Int) + 1))) : RowsOK P B w C' (u + 1) := by
  refine ⟨hs.trans h.sz, (ho 0 (by omega)).trans h.zero, fun k hk hl => (ho _ (by omega)).trans (h.rest k (by omega) hl), fun k e hk he => ?_⟩
  by_cases hku : k = u
  · subst hku
    rw [hd] at he; cases he
    exact ⟨s, L, hu, hL.base hB, hm⟩
  · obtain ⟨rv, L', h1, h2, h3⟩ := h.done k e (by omega) he
    exact ⟨rv, L', (ho _ (by omega)).trans h1, h2, h3⟩
theorem RowsOK.rsgl {P : Pg} {B : Nat} {w : World} {C : Array Value} {r T : Nat} (h : RowsOK P B w C P.decls.length) (hr : w.heap[r]? = some (.cells C T (0, 0))) (hm : P.decls.length + 1 ≤ maxLen) : RSgL w (.slice (some ⟨r, 0, none⟩) (P.decls.length + 1) (P.decls.length + 1)) (xsP P) := by
  refine ⟨some ⟨r, 0, none⟩, P.decls.length + 1, by rw [xsP_len], by rw [xsP_len]; exact Nat.le_refl _, hm, fun i g hi => ?_⟩
  cases i with
  | zero =>
    have hg : g = [] := by
      unfold xsP at hi
      simp at hi; exact hi
    subst hg
    exact ⟨r, 0, _, rfl, cellAt hr 0 h.zero, ⟨none, 0, rfl, Nat.le_refl _, Nat.zero_le _, fun i x hx => by simp at hx⟩⟩
  | succ k =>
    have hk : k < P.decls.length := by
      have := (List.getElem?_eq_some_iff.1 hi).1
      rw [xsP_len] at this; omega
    have hd := List.getElem?_eq_getElem hk
    generalize P.decls[k] = d at hd
    rw [xsP_at hd] at hi; cases hi
    obtain ⟨rv, L, h1, h2, h3⟩ := h.done k d hk hd
    refine ⟨r, 0, rv, rfl, ?_, ?_⟩
    · rw [Nat.zero_add]; exact cellAt hr (k + 1) h1
    · have := h2.rsgs
      rw [h3] at this; exact this
theorem Only.keep {r B : Nat} {a b : World} (h : Only (fun q => q = r) a b) (hr : r < B) : ∀ q, B ≤ q → q < a.heap.size → b.heap[q]? = a.heap[q]? := fun q h1 h2 => h.block q h2 (by omega)
theorem cells_set {w : World} {r T i : Nat} {C : Array Value} (h : w.heap[r]? = some (.cells C T (0, 0))) (v : Value) : (w.setCell ⟨r, i, none⟩ v).heap[r]? = some (.cells (C.setIfInBounds i v) T (0, 0)) := by
  simp [World.setCell, Array.getElem?_modify, h]
/-- Behind the append, ahead of the store: what may still come. -/
structure PhM (vals : Nat → Value) (M : World → Value → Prop) (L : Nat → Bool) (W : World) (vv : Nat → Value) : Prop where
  not : L 23 = false
  all : ∀ i, 6 ≤ i → i < 22 → L i = true
  mem : M W (vv 21)
  facts : ∀ i, i < 6 ∨ i = 22 → L i = true → vv i = vals i
theorem PhM.put {vals : Nat → Value} {M : World → Value → Prop} {L : Nat → Bool} {W : World} {vv : Nat → Value} {i : Nat} {v : Value} (h : PhM vals M L W vv) (hi : i < 6 ∨ i = 22) (hv : v = vals i) : PhM vals M (fun j => decide (j = i) || L j) W (fun j => if j = i then v else vv j) := by
  refine ⟨?_, fun j h1 h2 => ?_, ?_, fun j hj hl => ?_⟩
  · show (decide (23 = i) || L 23) = false
    rw [h.not, decide_eq_false (by omega)]; rfl
  · show (decide (j = i) || L j) = true
    rw [h.all j h1 h2, Bool.or_true]
  · show M W (if 21 = i then v else vv 21)
    rw [if_neg (by omega)]; exact h.mem
  · show (if j = i then v else vv j) = vals j
    by_cases hji : j = i
    · subst hji; rw [if_pos rfl]; exact hv
    · have h2 : (decide (j = i) || L j) = true := hl
      rw [decide_eq_false hji, Bool.false_or] at h2
      rw [if_neg hji]; exact h.facts j hj h2
theorem set13 {w : World} {g T : Nat} {a b n0 n1 n2 n3 n4 n5 n6 n7 n8 n9 n10 n11 n12 : Value} (h : w.heap[g]? = some (.cells #[a, b, n0, n1, n2, n3, n4, n5, n6, n7, n8, n9, n10, n11, n12] T (0, 0))) (v0 v1 v2 v3 v4 v5 v6 v7 v8 v9 v10 v11 v12 : Value) : (((((((((((((w.setCell ⟨g, 2, none⟩ v0).setCell ⟨g, 3, none⟩ v1).setCell ⟨g, 4, none⟩ v2).setCell ⟨g, 5, none⟩ v3).setCell ⟨g, 6, none⟩ v4).setCell ⟨g, 7, none⟩ v5).setCell ⟨g, 8, none⟩ v6).setCell ⟨g, 9, none⟩ v7).setCell ⟨g, 10, none⟩ v8).setCell ⟨g, 11, none⟩ v9).setCell ⟨g, 12, none⟩ v10).setCell ⟨g, 13, none⟩ v11).setCell ⟨g, 14, none⟩ v12).heap[g]? = some (.cells #[a, b, v0, v1, v2, v3, v4, v5, v6, v7, v8, v9, v10, v11, v12] T (0, 0)) := by
  simp [World.setCell, Array.getElem?_modify, h]
theorem only13 (w : World) (g : Nat) (v0 v1 v2 v3 v4 v5 v6 v7 v8 v9 v10 v11 v12 : Value) : Only (fun q => q = g) w (((((((((((((w.setCell ⟨g, 2, none⟩ v0).setCell ⟨g, 3, none⟩ v1).setCell ⟨g, 4, none⟩ v2).setCell ⟨g, 5, none⟩ v3).setCell ⟨g, 6, none⟩ v4).setCell ⟨g, 7, none⟩ v5).setCell ⟨g, 8, none⟩ v6).setCell ⟨g, 9, none⟩ v7).setCell ⟨g, 10, none⟩ v8).setCell ⟨g, 11, none⟩ v9).setCell ⟨g, 12, none⟩ v10).setCell ⟨g, 13, none⟩ v11).setCell ⟨g, 14, none⟩ v12) := ((((((((((((((Only.rf _ _).tr (Only.setCell (C := fun q => q = g) (p := ⟨g, 2, none⟩) rfl _ v0)).tr (Only.setCell (C := fun q => q = g) (p := ⟨g, 3, none⟩) rfl _ v1)).tr (Only.setCell (C := fun q => q = g) (p := ⟨g, 4, none⟩) rfl _ v2)).tr (Only.setCell (C := fun q => q = g) (p := ⟨g, 5, none⟩) rfl _ v3)).tr (Only.setCell (C := fun q => q = g) (p := ⟨g, 6, none⟩) rfl _ v4)).tr (Only.setCell (C := fun q => q = g) (p := ⟨g, 7, none⟩) rfl _ v5)).tr (Only.setCell (C := fun q => q = g) (p := ⟨g, 8, none⟩) rfl _ v6)).tr (Only.setCell (C := fun q => q = g) (p := ⟨g, 9, none⟩) rfl _ v7)).tr (Only.setCell (C := fun q => q = g) (p := ⟨g, 10, none⟩) rfl _ v8)).tr (Only.setCell (C := fun q => q = g) (p := ⟨g, 11, none⟩) rfl _ v9)).tr (Only.setCell (C := fun q => q = g) (p := ⟨g, 12, none⟩) rfl _ v10)).tr (Only.setCell (C := fun q => q = g) (p := ⟨g, 13, none⟩) rfl _ v11)).tr (Only.setCell (C := fun q => q = g) (p := ⟨g, 14, none⟩) rfl _ v12))
end Go.Proofs.YtkdglplfcpindaaGreatDoor

/- As AnyInv, where a reason that does not bind may point ahead. -/
namespace Go.Proofs.YtkdglplfcpindaaGreatDoor
open Go.RowKit

def backE (md : Region.Mode) (ops : Array Oper) : Bool := (List.range ops.size).all fun i => ((ops[i]?).map fun o => o.after.all fun e => !Region.binds md e || decide (e.on < i)).getD true
theorem all_of_readyE {md : Region.Mode} {ops : Array Oper} {listed : Array Bool} (hb : backE md ops = true) (hs : listed.size = ops.size) (hr : Region.ready md ops listed = []) : ∀ i, i < ops.size → listed.getD i false = true := by
  intro i
  induction i using Nat.strongRecOn with
  | _ i ih =>
    intro hi
    cases hl : listed.getD i false
    · exfalso
      have hm : i ∈ Region.ready md ops listed := by
        unfold Region.ready
        rw [List.mem_filter]
        refine ⟨List.mem_range.2 hi, ?_⟩
        rw [getD_eq (by omega) true false, hl]
        have ho : ops[i]? = some ops[i] := Array.getElem?_eq_getElem hi
        rw [ho]
        simp only [Bool.not_false, Bool.true_and, Option.map_some, Option.getD_some, Array.all_eq_true, Bool.or_eq_true]
        intro j hj
        unfold backE at hb
        rw [List.all_eq_true] at hb
        have h1 := hb i (List.mem_range.2 hi)
        rw [ho] at h1
        simp only [Option.map_some, Option.getD_some, Array.all_eq_true, decide_eq_true_eq, Bool.or_eq_true] at h1
        rcases h1 j hj with h2 | h2
        · exact .inl h2
        · exact .inr (ih _ h2 (by omega))
      rw [hr] at hm; cases hm
    · rfl

theorem wpAny_invE {P : Program} {md : Region.Mode} {ops : Array Oper} {Q : Exit → Act → World → Prop} (hb : backE md ops = true) (Inv : (Nat → Bool) → Act → World → Prop)
    (hstep : ∀ (L : Nat → Bool) (a : Act) (w : World) (i : Nat) (o : Oper), ops[i]? = some o → (∀ e ∈ o.after.toList, Region.binds md e = true → L e.on = true) → L i = false → Inv L a w →
      wpOp P ops Q i (fun a' w' => Inv (fun j => decide (j = i) || L j) a' w') a w)
    (hdone : ∀ (L : Nat → Bool) (a : Act) (w : World), (∀ i, i < ops.size → L i = true) → Inv L a w → Q .normal a w) :
    ∀ (fuel : Nat) (listed : Array Bool) (a : Act) (w : World), listed.size = ops.size → openN ops.size listed ≤ fuel → Inv (fun j => listed.getD j false) a w → wpAny P md ops Q fuel listed a w := by
  intro fuel
  induction fuel with
  | zero =>
    intro listed a w hs hn hI
    have hall := openN_zero (Nat.le_zero.1 hn)
    refine ⟨?_, hdone _ a w hall hI⟩
    unfold Region.ready
    rw [List.filter_eq_nil_iff]
    intro i hi
    have := hall i (List.mem_range.1 hi)
    rw [getD_eq (by have := List.mem_range.1 hi; omega) true false, this]
    simp
  | succ fuel ih =>
    intro listed a w hs hn hI
    refine ⟨fun hr => hdone _ a w (all_of_readyE hb hs hr) hI, fun i hi => ?_⟩
    unfold Region.ready at hi
    rw [List.mem_filter] at hi
    obtain ⟨hir, hc⟩ := hi
    have hlt := List.mem_range.1 hir
    have ho : ops[i]? = some ops[i] := Array.getElem?_eq_getElem hlt
    rw [ho, Bool.and_eq_true] at hc
    obtain ⟨hc1, hc2⟩ := hc
    have hl : listed.getD i false = false := by
      rw [getD_eq (by omega) true false] at hc1
      cases hh : listed.getD i false
      · rfl
      · rw [hh] at hc1; cases hc1
    refine wpOp_mono (fun a' w' hI' => ih (listed.setIfInBounds i true) a' w' (by simpa using hs) ?_ ?_) (hstep _ a w i _ ho (fun e he hbd => ?_) hl hI)
    · have := openN_set hs hlt hl
      omega
    · have hf : (fun j => (listed.setIfInBounds i true).getD j false) = (fun j => decide (j = i) || listed.getD j false) := by
        funext j; exact set_getD (by omega)
      rw [hf]; exact hI'
    · simp only [Option.map_some, Option.getD_some] at hc2
      rw [Array.all_eq_true] at hc2
      obtain ⟨n, hn', rfl⟩ := List.getElem_of_mem he
      have := hc2 n (by simpa using hn')
      rw [Bool.or_eq_true] at this
      rcases this with h | h
      · have hb' : Region.binds md ops[i].after[n] = true := by simpa using hbd
        rw [hb'] at h; cases h
      · simpa using h
theorem wp_region_invE {P : Program} {id : Nat} {Q : Exit → Act → World → Prop} {a : Act} {w : World} {ops : Array Oper} (hm : P.follows .mixedOrders = true) (hb : backE .any ops = true) (Inv : (Nat → Bool) → Act → World → Prop)
    (h0 : Inv (fun _ => false) a w.drew)
    (hstep : ∀ (L : Nat → Bool) (a : Act) (w : World) (i : Nat) (o : Oper), ops[i]? = some o → (∀ e ∈ o.after.toList, Region.binds .any e = true → L e.on = true) → L i = false → Inv L a w →
      ∀ K : Act → World → Prop, Hid (∀ a' w', Inv (fun j => decide (j = i) || L j) a' w' → K a' w') → if Region.wanted o (yielded ops a.tmps) = true then Oper.wp P o a w K Q else K (a.put o.dst undef) w)
    (hdone : ∀ (L : Nat → Bool) (a : Act) (w : World), (∀ i, i < ops.size → L i = true) → Inv L a w → Q .normal a w) : (Code.region id ops true).wp P Q a w := by
  refine wp_region_any hm (wpAny_invE hb Inv (fun L a w i o ho hp hl hI => wpOp_step ho fun K hK => hstep L a w i o ho hp hl hI K hK) hdone _ _ _ _ (by simp) (Nat.le_of_eq (openN_start _)) ?_)
  have hf : (fun j => (Array.replicate ops.size false).getD j false) = (fun _ => false) := by
    funext j
    by_cases h : j < ops.size <;> simp [Array.getD, h]
  rw [hf]; exact h0
theorem wp_region_invCE {P : Program} {id : Nat} {Q : Exit → Act → World → Prop} {a : Act} {w : World} {ops : Array Oper} (hm : P.follows .mixedOrders = true) (hb : backE .any ops = true) (Inv : (Nat → Bool) → Act → World → Prop)
    (h0 : Inv (fun _ => false) a w.drew)
    (hstep : ∀ (L : Nat → Bool) (a : Act) (w : World) (i : Nat) (o : Oper), ops[i]? = some o → (∀ e ∈ o.after.toList, Region.binds .any e = true → L e.on = true) → L i = false → ClosedL ops L → Inv L a w →
      ∀ K : Act → World → Prop, Hid (∀ a' w', Inv (fun j => decide (j = i) || L j) a' w' → K a' w') → if Region.wanted o (yielded ops a.tmps) = true then Oper.wp P o a w K Q else K (a.put o.dst undef) w)
    (hdone : ∀ (L : Nat → Bool) (a : Act) (w : World), (∀ i, i < ops.size → L i = true) → Inv L a w → Q .normal a w) : (Code.region id ops true).wp P Q a w := by
  refine wp_region_invE hm hb (fun L a w => ClosedL ops L ∧ Inv L a w) ⟨(fun i o _ h => by cases h), h0⟩ (fun L a w i o ho hp hl hI K hK => hstep L a w i o ho hp hl hI.1 hI.2 K (fun a' w' h => hK.out a' w' ⟨fun i' o' ho' hl' e he hbd => ?_, h⟩)) (fun L a w hall hI => hdone L a w hall hI.2)
  by_cases hi : i' = i
  · subst hi
    rw [ho] at ho'; cases ho'
    show (decide (e.on = i') || L e.on) = true
    rw [hp e he hbd, Bool.or_true]
  · have h1 : L i' = true := by
      have h2 : (decide (i' = i) || L i') = true := hl'
      rwa [decide_eq_false hi, Bool.false_or] at h2
    show (decide (e.on = i) || L e.on) = true
    rw [hI.1 i' o' ho' h1 e he hbd, Bool.or_true]

end Go.Proofs.YtkdglplfcpindaaGreatDoor
