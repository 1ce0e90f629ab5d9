/- The tables that the row lists: the rules, the shapes, the signs. -/
import Derived.Test.YtkdhhcidpklgoaaDoorQ25
import Derived.LaidLaws
import Derived.JoinedCond
import Derived.Deep.DeepHandedRow
import Derived.Lib.LaidTab
import Derived.Deep.RegionHeld3
namespace Go.Proofs.YtkdhhcidpklgoaaDoor
open Go.ChangeShapes Go.WideShapes Go.ChangeAt Go.RowKit Go.Deep

theorem cut_at {cs : List Value} {a b k : Nat} (hk : k < b) : ((cs.drop a).take b)[k]? = cs[a + k]? := by
  rw [List.getElem?_take, if_pos hk, List.getElem?_drop]
theorem cut_one {cs : List Value} {a b k : Nat} {v : Value} (hk : k < b) (h : ((((cs.drop a).take b).drop k).take 1) = [v]) : cs[a + k]? = some v := by
  rw [← cut_at hk]; exact take_one h
section
variable {H : Type} {enc : TypeId × Value → H} {P : Program} {w : World} {base : Nat} {spare : Nat → Bool} {held : Bool}
theorem arr_at {t e : TypeId} {n fuel : Nat} {cs : List Value} {x : DataW H × List MemPlace} {ds : List (DataW H)} (ht : P.underlying t = some (.array n e)) (h : DataW.trod enc P w base spare held fuel t cs = some x) (hx : x.1 = .agg ds) :
    ∀ (i : Nat) d, ds[i]? = some d → ∃ m y, DataW.trod enc P w base spare held m e ((cs.drop (i * P.cellsOf e)).take (P.cellsOf e)) = some y ∧ y.1 = d := fun i d hd => by
  obtain ⟨ys, m, _, hyx, hlen, hyl, hf⟩ := DataW.trod_array ht h
  rw [hyx] at hx
  injection hx with hx
  have hi : i < n := by
    have := (List.getElem?_eq_some_iff.1 hd).1
    rw [← hx, List.length_map] at this; omega
  have h1 := hf i hi
  rw [← hx, List.getElem?_map] at hd
  obtain ⟨y, hy, rfl⟩ := Option.map_eq_some_iff.1 hd
  exact ⟨m, y, h1.trans hy, rfl⟩
theorem str_at {t : TypeId} {L : List (TypeId × Nat)} {fuel : Nat} {cs : List Value} {x : DataW H × List MemPlace} {ds : List (DataW H)} (hs : shapeOf P t = some L) (h : DataW.trod enc P w base spare held fuel t cs = some x) (hx : x.1 = .agg ds) :
    ∀ (j : Nat) ty off d, L[j]? = some (ty, off) → ds[j]? = some d → ∃ m y, DataW.trod enc P w base spare held m ty ((cs.drop off).take (P.cellsOf ty)) = some y ∧ y.1 = d := fun j ty off d hj hd => by
  unfold shapeOf at hs
  cases hu : P.underlying t with
  | none => rw [hu] at hs; cases hs
  | some k =>
    rw [hu] at hs
    cases k <;> try (cases hs; done)
    rename_i fs
    have hL : fs.toList.map (fun f => (f.type, f.offset)) = L := by simpa using hs
    obtain ⟨ys, n, _, hyx, hlen, hyl, hf⟩ := DataW.trod_struct hu h
    rw [hyx] at hx
    injection hx with hx
    rw [← hL, List.getElem?_map] at hj
    obtain ⟨f, hf0, he⟩ := Option.map_eq_some_iff.1 hj
    cases he
    have hjf : fs[j]? = some f := by simpa using hf0
    have h1 := hf j f hjf
    rw [← hx, List.getElem?_map] at hd
    obtain ⟨y, hy, rfl⟩ := Option.map_eq_some_iff.1 hd
    exact ⟨n, y, h1.trans hy, rfl⟩
theorem int_at {t : TypeId} {fuel : Nat} {cs : List Value} {x : DataW H × List MemPlace} {z : Int} (hu : P.underlying t = some (.int .i64)) (h : DataW.trod enc P w base spare held fuel t cs = some x) (hx : x.1 = .lit (.int .i64 z)) : cs = [.int .i64 z] ∧ ok64 z := by
  obtain ⟨n, e, hy, hw⟩ := DataW.trod_int hu h
  rw [hy] at hx
  injection hx with hx
  injection hx with _ hx
  subst hx
  exact ⟨e, hw⟩
theorem bool_at {t : TypeId} {fuel : Nat} {cs : List Value} {x : DataW H × List MemPlace} {z : Bool} (hu : P.underlying t = some .bool) (h : DataW.trod enc P w base spare held fuel t cs = some x) (hx : x.1 = .lit (.bool z)) : cs = [.bool z] := by
  obtain ⟨n, e, hy⟩ := DataW.trod_bool hu h
  rw [hy] at hx
  injection hx with hx
  injection hx with hx
  subst hx
  exact e
end
theorem Tryd.gRules : Tryd.prog.globalNamed "chiasmus/kind.rules" = some 0 := by kernel_rfl
theorem Tryd.gShapes : Tryd.prog.globalNamed "chiasmus/node.shapes" = some 1 := by kernel_rfl
theorem Tryd.gSigns : Tryd.prog.globalNamed "chiasmus/prim.signs" = some 2 := by kernel_rfl
theorem Tryd.tRules : (Tryd.prog.globals[0]?).map (·.type) = some 95 := by kernel_rfl
theorem Tryd.tShapes : (Tryd.prog.globals[1]?).map (·.type) = some 154 := by kernel_rfl
theorem Tryd.tSigns : (Tryd.prog.globals[2]?).map (·.type) = some 163 := by kernel_rfl
theorem Tryd.uRules : Tryd.prog.underlying 95 = some (.array 15 94) := by kernel_rfl
theorem Tryd.uShapes : Tryd.prog.underlying 154 = some (.array 15 143) := by kernel_rfl
theorem Tryd.uSigns : Tryd.prog.underlying 163 = some (.array 7 9) := by kernel_rfl
theorem Tryd.shapeR : shapeOf Tryd.prog 94 = some [(92, 0), (92, 1)] := by kernel_rfl
theorem Tryd.shapeS : shapeOf Tryd.prog 143 = some [(68, 0), (4, 1), (4, 2), (4, 3), (134, 4)] := by kernel_rfl
theorem Tryd.uSource : Tryd.prog.underlying 92 = some (.int .i64) := by kernel_rfl
theorem Tryd.uSort : Tryd.prog.underlying 68 = some (.int .i64) := by kernel_rfl
theorem Tryd.uLSort : Tryd.prog.underlying 134 = some (.slice 68) := by kernel_rfl
theorem Tryd.cRule : Tryd.prog.cellsOf 94 = 2 := by kernel_rfl
theorem Tryd.cShape : Tryd.prog.cellsOf 143 = 5 := by kernel_rfl
theorem Tryd.cSource : Tryd.prog.cellsOf 92 = 1 := by kernel_rfl
theorem Tryd.cSort : Tryd.prog.cellsOf 68 = 1 := by kernel_rfl
theorem Tryd.cLSort : Tryd.prog.cellsOf 134 = 1 := by kernel_rfl
section
variable {H : Type} {enc : TypeId × Value → H} {w : World} {base : Nat} {spare : Nat → Bool} {held : Bool}
def ruleA (i : Nat) : Int := if i = 0 ∨ i = 5 then 2 else if i = 2 ∨ i = 3 ∨ i = 4 ∨ i = 6 ∨ i = 7 ∨ i = 8 then 1 else 0
def ruleB (i : Nat) : Int := if i = 9 then 1 else if i = 2 ∨ i = 6 ∨ i = 13 then 3 else 0
theorem rules_cells {fuel : Nat} {cs : List Value} {p : List MemPlace} (h : DataW.trod enc Tryd.prog w base spare held fuel 95 cs = some (Rows.laid_chiasmus_kind_rules, p)) : ∀ i : Nat, i < 15 → cs[i * 2]? = some (.int .i64 (ruleA i)) ∧ cs[i * 2 + 1]? = some (.int .i64 (ruleB i)) := fun i hi => by
  have hd : ∃ ds : List (DataW H), Rows.laid_chiasmus_kind_rules = DataW.agg ds ∧ ds[i]? = some (.agg [.lit (.int .i64 (ruleA i)), .lit (.int .i64 (ruleB i))]) := by
    refine ⟨_, rfl, ?_⟩
    rcases (show i = 0 ∨ i = 1 ∨ i = 2 ∨ i = 3 ∨ i = 4 ∨ i = 5 ∨ i = 6 ∨ i = 7 ∨ i = 8 ∨ i = 9 ∨ i = 10 ∨ i = 11 ∨ i = 12 ∨ i = 13 ∨ i = 14 by omega) with rfl | rfl | rfl | rfl | rfl | rfl | rfl | rfl | rfl | rfl | rfl | rfl | rfl | rfl | rfl <;> rfl
  obtain ⟨ds, e, hi2⟩ := hd
  obtain ⟨m, y, hy, hyd⟩ := arr_at Tryd.uRules h e i _ hi2
  rw [Tryd.cRule] at hy
  obtain ⟨m0, z0, h0, e0⟩ := str_at Tryd.shapeR hy hyd 0 92 0 _ rfl rfl
  obtain ⟨m1, z1, h1, e1⟩ := str_at Tryd.shapeR hy hyd 1 92 1 _ rfl rfl
  rw [Tryd.cSource] at h0 h1
  exact ⟨cut_one (k := 0) (by decide) (int_at Tryd.uSource h0 e0).1, cut_one (k := 1) (by decide) (int_at Tryd.uSource h1 e1).1⟩
def slOf (l : List Int) : DataW H := match l with
  | [] => .nil
  | l => .slice (l.map fun z => .lit (.int .i64 z)) []
theorem sorts_at {fuel : Nat} {v : Value} {x : DataW H × List MemPlace} {l : List Int} (h : DataW.trod enc Tryd.prog w base spare held fuel 134 [v] = some x) (hx : x.1 = slOf l) : RInts w v l := by
  rcases open_slice Tryd.uLSort h with ⟨hv, hx2⟩ | ⟨a, len, cap, m, n, D, Pl, hv, _, hl, hm, hmm, hx2, hi⟩
  · rw [hx2] at hx
    obtain rfl : v = .slice none 0 0 := by simpa using hv
    cases l with
    | nil => exact RInts.nil w
    | cons z r => cases hx
  · rw [hx2] at hx
    obtain rfl : v = .slice (some a) len cap := by simpa using hv
    have hdl : (List.range len).map D = l.map fun z => .lit (.int .i64 z) := by
      cases l with
      | nil => cases hx
      | cons z r => injection hx
    have hlen : len = l.length := by
      have := congrArg List.length hdl
      simpa using this
    subst hlen
    rw [Tryd.cSort] at hi
    have hat : ∀ i z, l[i]? = some z → ∃ b o, a = ⟨b, o, none⟩ ∧ b < w.heap.size ∧ w.cell? ⟨b, o + i, none⟩ = some (.int .i64 z) ∧ ok64 z := fun i z hz => by
      have hlt := (List.getElem?_eq_some_iff.1 hz).1
      obtain ⟨cs', hc, ht'⟩ := hi i (by split at hmm <;> omega)
      obtain ⟨_, hcl, hat⟩ := World.cells?_some hc
      have hD : D i = .lit (.int .i64 z) := by
        have h1 := congrArg (fun q => q[i]?) hdl
        simp only [List.getElem?_map, List.getElem?_range hlt, hz, Option.map_some, Option.some.injEq] at h1
        exact h1
      obtain ⟨e1, e2⟩ := int_at Tryd.uSort ht' hD
      have hsp : a.spot = none := by
        obtain ⟨cs2, hc2, _⟩ := hi 0 (by split at hmm <;> omega)
        obtain ⟨_, hcl2, hat2⟩ := World.cells?_some hc2
        have h1 := hat2 0 (by decide)
        rw [add_add, List.getElem?_eq_getElem (by omega)] at h1
        have := World.cell?_spot h1
        simpa [Addr.add] using this
      have h1 := hat 0 (by decide)
      rw [e1, add_add] at h1
      obtain ⟨b, o, s⟩ := a
      obtain rfl : s = none := hsp
      rw [add_none'] at h1
      have h3 : w.cell? ⟨b, o + i, none⟩ = some (.int .i64 z) := by simpa using h1
      exact ⟨b, o, rfl, cell_lt h3, h3, e2⟩
    refine ⟨some a, cap, rfl, hl, hm, fun i z hz => ?_⟩
    obtain ⟨b, o, rfl, h1, h2, h3⟩ := hat i z hz
    exact ⟨b, o, rfl, h1, h2, h3⟩
theorem shapes_cells {fuel : Nat} {cs : List Value} {p : List MemPlace} (h : DataW.trod enc Tryd.prog w base spare held fuel 154 cs = some (Rows.laid_chiasmus_node_shapes, p)) : ∀ i : Nat, i < 15 → ∃ vs, cs[i * 5]? = some (.int .i64 (sortOp i)) ∧ cs[i * 5 + 1]? = some (.bool (usesN i)) ∧ cs[i * 5 + 2]? = some (.bool (usesT i)) ∧ cs[i * 5 + 3]? = some (.bool (usesB i)) ∧ cs[i * 5 + 4]? = some vs ∧ RInts w vs (argsS i) := fun i hi => by
  have hd : ∃ ds : List (DataW H), Rows.laid_chiasmus_node_shapes = DataW.agg ds ∧ ds[i]? = some (.agg [.lit (.int .i64 (sortOp i)), .lit (.bool (usesN i)), .lit (.bool (usesT i)), .lit (.bool (usesB i)), slOf (argsS i)]) := by
    refine ⟨_, rfl, ?_⟩
    rcases (show i = 0 ∨ i = 1 ∨ i = 2 ∨ i = 3 ∨ i = 4 ∨ i = 5 ∨ i = 6 ∨ i = 7 ∨ i = 8 ∨ i = 9 ∨ i = 10 ∨ i = 11 ∨ i = 12 ∨ i = 13 ∨ i = 14 by omega) with rfl | rfl | rfl | rfl | rfl | rfl | rfl | rfl | rfl | rfl | rfl | rfl | rfl | rfl | rfl <;> rfl
  obtain ⟨ds, e, hi2⟩ := hd
  obtain ⟨m, y, hy, hyd⟩ := arr_at Tryd.uShapes h e i _ hi2
  rw [Tryd.cShape] at hy
  obtain ⟨m0, z0, h0, e0⟩ := str_at Tryd.shapeS hy hyd 0 68 0 _ rfl rfl
  obtain ⟨m1, z1, h1, e1⟩ := str_at Tryd.shapeS hy hyd 1 4 1 _ rfl rfl
  obtain ⟨m2, z2, h2, e2⟩ := str_at Tryd.shapeS hy hyd 2 4 2 _ rfl rfl
  obtain ⟨m3, z3, h3, e3⟩ := str_at Tryd.shapeS hy hyd 3 4 3 _ rfl rfl
  obtain ⟨m4, z4, h4, e4⟩ := str_at Tryd.shapeS hy hyd 4 134 4 _ rfl rfl
  rw [Tryd.cSort] at h0
  rw [Tryd.cells4] at h1 h2 h3
  rw [Tryd.cLSort] at h4
  obtain ⟨v, hv⟩ : ∃ v, (((cs.drop (i * 5)).take 5).drop 4).take 1 = [v] := by
    rcases open_slice Tryd.uLSort h4 with ⟨hv, -⟩ | ⟨_, _, _, _, _, _, _, hv, -⟩
    · exact ⟨_, hv⟩
    · exact ⟨_, hv⟩
  have h5 := cut_one (k := 4) (by decide) hv
  rw [hv] at h4
  exact ⟨v, cut_one (k := 0) (by decide) (int_at Tryd.uSort h0 e0).1, cut_one (k := 1) (by decide) (bool_at Tryd.u4 h1 e1), cut_one (k := 2) (by decide) (bool_at Tryd.u4 h2 e2), cut_one (k := 3) (by decide) (bool_at Tryd.u4 h3 e3), h5, sorts_at h4 e4⟩
theorem signs_cells {fuel : Nat} {cs : List Value} {p : List MemPlace} (h : DataW.trod enc Tryd.prog w base spare held fuel 163 cs = some (Rows.laid_chiasmus_prim_signs, p)) : ∀ i : Nat, i < 7 → ∃ s : ByteArray, cs[i]? = some (.string s) ∧ emS s = false := fun i hi => by
  have hd : ∃ (ds : List (DataW H)) (c : UInt8) (r : List UInt8), Rows.laid_chiasmus_prim_signs = DataW.agg ds ∧ ds[i]? = some (.lit (.string (c :: r))) := by
    rcases (show i = 0 ∨ i = 1 ∨ i = 2 ∨ i = 3 ∨ i = 4 ∨ i = 5 ∨ i = 6 by omega) with rfl | rfl | rfl | rfl | rfl | rfl | rfl <;> exact ⟨_, _, _, rfl, rfl⟩
  obtain ⟨ds, c, r, e, hi2⟩ := hd
  obtain ⟨m, y, hy, hyd⟩ := arr_at Tryd.uSigns h e i _ hi2
  rw [Tryd.cells9, Nat.mul_one] at hy
  obtain ⟨s, hc, hys, -⟩ := DataW.trod_string Tryd.u9 hy
  rw [hys] at hyd
  injection hyd with hyd
  injection hyd with hyd
  refine ⟨s, take_one hc, ?_⟩
  unfold emS
  rw [ByteArray.toList_eq]
  rw [hyd]; rfl
end
theorem okWide_arr {P : Program} {w : World} {base : Nat} {t e : TypeId} {n : Nat} {v : Value} (hu : P.underlying t = some (.array n e)) (h : Value.okWide P w .any base t v) : ∃ cs, v = .agg cs := by
  cases v <;> simp_all [Value.okWide]
theorem var_at {n : String} {g : Nat} {w : World} {cs : Array Value} (hg : Tryd.prog.globalNamed n = some g) (h : w.var? Tryd.prog n = some cs) (i : Nat) (v : Value) (hi : cs.toList[i]? = some v) : w.cell? ⟨g, i, none⟩ = some v := by
  unfold World.var? at h
  rw [hg] at h
  simp only [Option.bind_some] at h
  cases hw : w.heap[g]? with
  | none => rw [hw] at h; cases h
  | some o =>
    rw [hw] at h
    cases o <;> try (cases h; done)
    rename_i c t z
    have : c = cs := by simpa using h
    subst this
    simp [World.cell?, hw]
    simpa using hi
end Go.Proofs.YtkdhhcidpklgoaaDoor

/- ref06: left, Fits, Few. -/
namespace Go.Proofs.YtkdhhcidpklgoaaDoor
open Go.RowKit Go.Shelf
attribute [local go_sem] Oper.semAt_some

theorem cntA_take {l : List Nd} {j : Nat} (h : j < l.length) : cntA (l.take (j + 1)) = cntA (l.take j) + cntN l[j] ∧ cntA (l.take (j + 1)) ≤ cntA l := by
  have h1 := cntA_append (l.drop (j + 1)) (l.take (j + 1))
  have h2 : l.take (j + 1) = l.take j ++ [l[j]] := List.take_succ_eq_append_getElem h
  rw [List.take_append_drop] at h1
  refine ⟨?_, by omega⟩
  rw [h2, cntA_append]; simp [cntA]
theorem cntA_sub {l : List Nd} (j : Nat) : cntA (l.take j) ≤ cntA l := by
  have h1 := cntA_append (l.drop j) (l.take j)
  rw [List.take_append_drop] at h1
  omega
theorem cntB_take {l : List Br} {j : Nat} (h : j < l.length) : cntB (l.take (j + 1)) = cntB (l.take j) + cntN l[j].2.2 := by
  have h2 : l.take (j + 1) = l.take j ++ [l[j]] := List.take_succ_eq_append_getElem h
  rw [h2, cntB_append]
  obtain ⟨v, c, t⟩ := l[j]
  simp [cntB]
theorem cntB_sub {l : List Br} (j : Nat) : cntB (l.take j) ≤ cntB l := by
  have h1 := cntB_append (l.drop j) (l.take j)
  rw [List.take_append_drop] at h1
  omega
/-- How many are left. -/
def leftN (m : Int) (c : Nat) : Int := if m - c ≤ 0 then 0 else m - c
set_option maxHeartbeats 8000000 in
set_option maxRecDepth 100000 in
theorem left_any : ∀ (k : Nat) (t : Nd) (va vb : Value) (m : Int) (w : World), RNd w k t va vb → BN t → -1000 ≤ m → m ≤ 1000000000 →
    Calls Tryd.prog 14 #[nV t va vb, .int .i64 m] w fun e w' => e = .returned (.int .i64 (leftN m (cntN t))) ∧ Ext w w' := by
  intro k
  induction k with
  | zero => intro t va vb m w h; exact h.elim
  | succ k ih =>
    intro t va vb m w ht hb hm1 hm2
    have HT := Lib.hid ht; have HIH := Lib.hid ih; have HB := Lib.hid hb
    have hna := hb.na
    have hnb := hb.nb
    have hcn := cntN_eq t
    have hcc := hb.c
    obtain ⟨-, ⟨A, c, rfl, -, hma⟩, ⟨B, d, rfl, -, hmb⟩⟩ := ht.form
    have HE1 := Lib.hid (Ext.al w (.cells #[.int .i64 t.op, .int .i64 t.n, .int .i64 t.ty, .slice A t.args.length c, .slice B t.brs.length d] 31))
    have HB1 := Lib.hid (heapNew w (.cells #[.int .i64 t.op, .int .i64 t.n, .int .i64 t.ty, .slice A t.args.length c, .slice B t.brs.length d] 31))
    clear ht ih hb
    have hw1 : IntKind.wrap .i64 (m - 1) = m - 1 := IntWalk.i64_in _ (by omega)
    go_enter Tryd.func14, Tryd.ntmps14
    go_wp2
    generalize w.alloc _ = w1 at *
    go_loopw [1, 5] (fun s i wr => ∃ (j : Nat) (cur : Int), j ≤ t.args.length ∧ i = .int .i64 j ∧ s = .int .i64 cur ∧ cur ≤ 1000000000 ∧ -2000 ≤ cur ∧ (cur = m - 1 - cntA (t.args.take j) ∨ (cur ≤ 0 ∧ m - 1 - cntA (t.args.take j) ≤ 0)) ∧ Ext w1 wr) (fun _ i _ => t.args.length - (intOf i).toNat)
    case atStart => exact ⟨0, m - 1, Nat.zero_le _, rfl, rfl, by omega, by omega, .inl (by simp [cntA]), Ext.rf _⟩
    case round =>
      obtain ⟨j, cur, hj, rfl, rfl, hc1, hc2, hc3, hx⟩ := hrel
      have HX := Lib.hid hx
      have hb1 := hx.lt HB1.out
      have n3 := cellAt hb1 3
      have n4 := cellAt hb1 4
      clear hx hb1
      have hcs := cntA_sub (l := t.args) j
      by_cases hgo : j < t.args.length ∧ 0 < cur
      · obtain ⟨hlt, hcur⟩ := hgo
        obtain ⟨b, o, xa, xb, rfl, hbl, yc, yt⟩ := HT.out.arg hlt
        obtain ⟨y0, y1, y2, y3, y4⟩ := yc.below (HE1.out.tr HX.out)
        have hct := cntA_take hlt
        have HL := Lib.hid (HIH.out t.args[j] xa xb cur wr (yt.below (HE1.out.tr HX.out)) (HB.out.arg (List.getElem_mem hlt)) (by omega) hc1)
        obtain ⟨-, ⟨Ax, cx, rfl, -, -⟩, ⟨Bx, dx, rfl, -, -⟩⟩ := yt.form
        generalize t.args[j] = x at *
        have HLV : Hid (leftN cur (cntN x) = if cur - cntN x ≤ 0 then 0 else cur - cntN x) := rfl
        generalize leftN cur (cntN x) = r at *
        have hjl : (j : Int) < t.args.length := by omega
        have hcur2 : cur > 0 := hcur
        clear yc yt
        go_wp2_with (go_at_call 14; (with_reducible refine (HL.out).mono ?_); rintro e w3 ⟨rfl, hx3⟩)
        refine ⟨⟨j + 1, r, by omega, by go_num, rfl, ?_, ?_, ?_, HX.out.tr hx3⟩, by simp [intOf]; omega⟩
        · rw [HLV.out]; split <;> omega
        · rw [HLV.out]; split <;> omega
        · rw [HLV.out]; split <;> omega
      · have HAF : Hid (cur = m - 1 - cntA t.args ∨ (cur ≤ 0 ∧ m - 1 - cntA t.args ≤ 0)) := by
          show _ ∨ _
          by_cases hlt : j < t.args.length
          · have : cur ≤ 0 := by omega
            right; omega
          · have hje : j = t.args.length := by omega
            rw [hje, List.take_length] at hc3
            exact hc3
        have hca : (t.args.length ≤ j ∧ t.args.length ≤ j) ∨ (j < t.args.length ∧ cur ≤ 0) := by omega
        clear hc3 hgo hcs
        rcases hca with ⟨h1, h2⟩ | ⟨h1, h2⟩
        all_goals
          have h1' : ¬ ((j : Int) < t.args.length) ∨ ((j : Int) < t.args.length ∧ ¬ (0 < cur)) := by omega
          go_wp2
          go_loopw [1, 6] (fun s i wr => ∃ (j : Nat) (cur : Int), j ≤ t.brs.length ∧ i = .int .i64 j ∧ s = .int .i64 cur ∧ cur ≤ 1000000000 ∧ -2000 ≤ cur ∧ (cur = m - 1 - cntA t.args - cntB (t.brs.take j) ∨ (cur ≤ 0 ∧ m - 1 - cntA t.args - cntB (t.brs.take j) ≤ 0)) ∧ Ext w1 wr) (fun _ i _ => t.brs.length - (intOf i).toNat)
          case atStart => exact ⟨0, cur, Nat.zero_le _, rfl, rfl, hc1, hc2, by have := HAF.out; simp [cntB]; omega, HX.out⟩
          case round =>
            obtain ⟨j2, cur2, hj2, rfl, rfl, hd1, hd2, hd3, hx⟩ := hrel
            have HX2 := Lib.hid hx
            have hb1 := hx.lt HB1.out
            clear n3 n4
            have n3 := cellAt hb1 3
            have n4 := cellAt hb1 4
            clear hx hb1
            have hcs := cntB_sub (l := t.brs) j2
            by_cases hgo : j2 < t.brs.length ∧ 0 < cur2
            · obtain ⟨hlt, hcur⟩ := hgo
              obtain ⟨b, o, vv, vc, xa, xb, rfl, hbl, -, -, -, -, yc, yt⟩ := HT.out.br hlt
              obtain ⟨y0, y1, y2, y3, y4⟩ := yc.below (HE1.out.tr HX2.out)
              have hct := cntB_take hlt
              have hcs2 := cntB_sub (l := t.brs) (j2 + 1)
              have HL := Lib.hid (HIH.out (t.brs[j2]).2.2 xa xb cur2 wr (yt.below (HE1.out.tr HX2.out)) (HB.out.br (List.getElem_mem hlt)) (by omega) hd1)
              obtain ⟨-, ⟨Ax, cx, rfl, -, -⟩, ⟨Bx, dx, rfl, -, -⟩⟩ := yt.form
              generalize t.brs[j2] = br at *
              obtain ⟨vs, qs, x⟩ := br
              dsimp only at *
              have HLV : Hid (leftN cur2 (cntN x) = if cur2 - cntN x ≤ 0 then 0 else cur2 - cntN x) := rfl
              generalize leftN cur2 (cntN x) = r at *
              have hjl : (j2 : Int) < t.brs.length := by omega
              have hcur2 : cur2 > 0 := hcur
              clear yc yt
              go_wp2_with (go_at_call 14; (with_reducible refine (HL.out).mono ?_); rintro e w3 ⟨rfl, hx3⟩)
              refine ⟨⟨j2 + 1, r, by omega, by go_num, rfl, ?_, ?_, ?_, HX2.out.tr hx3⟩, by simp [intOf]; omega⟩
              · rw [HLV.out]; split <;> omega
              · rw [HLV.out]; split <;> omega
              · rw [HLV.out]; split <;> omega
            · have HBF : Hid (cur2 = m - cntN t ∨ (cur2 ≤ 0 ∧ m - cntN t ≤ 0)) := by
                show _ ∨ _
                by_cases hlt : j2 < t.brs.length
                · have : cur2 ≤ 0 := by omega
                  right; omega
                · have hje : j2 = t.brs.length := by omega
                  rw [hje, List.take_length] at hd3
                  omega
              have hcb : (t.brs.length ≤ j2 ∧ t.brs.length ≤ j2) ∨ (j2 < t.brs.length ∧ cur2 ≤ 0) := by omega
              clear hd3 hgo hcs
              rcases hcb with ⟨g1, g2⟩ | ⟨g1, g2⟩
              all_goals
                go_wp2
                all_goals
                  go_ret
                  exact ⟨ret_int (by have := HBF.out; unfold leftN; split <;> omega), HE1.out.tr HX2.out⟩
theorem leftN_pos {m : Int} {c : Nat} : (0 < leftN m c) ↔ (c : Int) < m := by unfold leftN; split <;> omega
def fitsN (most : Int) (t : Nd) : Bool := decide ((cntN t : Int) ≤ most)
set_option maxHeartbeats 4000000 in
set_option maxRecDepth 100000 in
theorem fits6_any (k : Nat) (t : Nd) (va vb : Value) (m : Int) (w : World) (ht : RNd w k t va vb) (hb : BN t) (hm1 : 0 ≤ m) (hm2 : m ≤ 1000000) :
    Calls Tryd.prog 5 #[nV t va vb, .int .i64 m] w fun e w' => e = .returned (.bool (fitsN m t)) ∧ Ext w w' := by
  have HL := Lib.hid (fun W (hW : Ext w W) => left_any k t va vb (m + 1) W (ht.below hW) hb (by omega) (by omega))
  obtain ⟨-, ⟨A, c, rfl, -, -⟩, ⟨B, d, rfl, -, -⟩⟩ := ht.form
  have HE1 := Lib.hid (Ext.al w (.cells #[.int .i64 t.op, .int .i64 t.n, .int .i64 t.ty, .slice A t.args.length c, .slice B t.brs.length d] 31))
  have hw1 : IntKind.wrap .i64 (m + 1) = m + 1 := IntWalk.i64_in _ (by omega)
  have HP := Lib.hid (leftN_pos (m := m + 1) (c := cntN t))
  generalize leftN (m + 1) (cntN t) = r at *
  clear ht hb
  go_enter Tryd.func5, Tryd.ntmps5
  go_wp2_with (go_at_call 14; (with_reducible refine (HL.out _ HE1.out).mono ?_); rintro e w3 ⟨rfl, hx3⟩)
  go_ret
  exact ⟨ret_bool (by unfold fitsN; exact decide_eq_decide.2 (by rw [HP.out]; omega)), HE1.out.tr hx3⟩
def fewN (most : Int) (C : Cg) : Bool := decide (C.decls.length ≤ 40) && decide (C.funs.length ≤ 40) && C.funs.all fun f => fitsN most f.body
set_option maxHeartbeats 4000000 in
set_option maxRecDepth 100000 in
theorem few6_any (vd vf : Value) (C : Cg) (m : Int) (w : World) (hC : RCg w vd vf C) (hB : ∀ f ∈ C.funs, BN f.body) (hm1 : 0 ≤ m) (hm2 : m ≤ 1000000) :
    Calls Tryd.prog 4 #[cV vd vf, .int .i64 m] w fun e w' => e = .returned (.bool (fewN m C)) ∧ Ext w w' := by
  have HC := Lib.hid hC; have HB := Lib.hid hB
  obtain ⟨Ad, cd, rfl, -, hmd⟩ := hC.d.form
  obtain ⟨Af, cf, rfl, -, hmf⟩ := hC.f.form
  unfold maxLen at hmd hmf
  have hld : C.decls.length ≤ 9223372036854775807 := by obtain ⟨_, _, e, h1, _⟩ := hC.d.form; cases e; omega
  have hlf : C.funs.length ≤ 9223372036854775807 := by obtain ⟨_, _, e, h1, _⟩ := hC.f.form; cases e; omega
  have HE1 := Lib.hid (Ext.al w (.cells #[.slice Ad C.decls.length cd, .slice Af C.funs.length cf] 25))
  have HB1 := Lib.hid (heapNew w (.cells #[.slice Ad C.decls.length cd, .slice Af C.funs.length cf] 25))
  clear hC hB
  by_cases h1 : C.decls.length ≤ 40
  · by_cases h2 : C.funs.length ≤ 40
    · have HF : Hid (fewN m C = C.funs.all fun f => fitsN m f.body) := by show _ = _; unfold fewN; rw [decide_eq_true h1, decide_eq_true h2]; rfl
      have g1 : ¬ ((40 : Int) < C.decls.length) := by omega
      have g2 : ¬ ((40 : Int) < C.funs.length) := by omega
      go_enter Tryd.func4, Tryd.ntmps4
      go_wp2
      generalize w.alloc _ = w1 at *
      go_loopw [20] (fun i wr => ∃ j : Nat, j ≤ C.funs.length ∧ i = .int .i64 j ∧ (C.funs.all fun f => fitsN m f.body) = ((C.funs.drop j).all fun f => fitsN m f.body) ∧ Ext w1 wr) (fun i _ => C.funs.length - (intOf i).toNat)
      case atStart => exact ⟨0, Nat.zero_le _, rfl, rfl, Ext.rf _⟩
      case round =>
        obtain ⟨j, hj, rfl, hall, hx⟩ := hrel
        have HALL := Lib.hid hall; have HX := Lib.hid hx
        clear hall hx
        by_cases hlt : j < C.funs.length
        · obtain ⟨b, o, vp, vv, xa, xb, k, rfl, hbl, y0, y1, y2, yc, y3, y4, y5, yt⟩ := HC.out.f.at_ hlt
          have HXW : Hid (Ext w wr) := HE1.out.tr HX.out
          have y0 := HXW.out.keep y0
          have y1 := HXW.out.keep y1
          have y2 := HXW.out.keep y2
          obtain ⟨k0, k1, k2, k3, k4⟩ := yc.below HXW.out
          obtain ⟨Ap, cp, rfl, -, -⟩ := y4.form
          obtain ⟨Av, cv, rfl, -, -⟩ := y5.form
          have HST := Lib.hid (all_step (p := fun f : CF => fitsN m f.body) hlt)
          have hFA := fun W (hW : Ext w W) => fits6_any k (C.funs[j]).body xa xb m W (yt.below hW) (HB.out _ (List.getElem_mem hlt)) hm1 hm2
          obtain ⟨-, ⟨Ax, cx, rfl, -, -⟩, ⟨Bx, dx, rfl, -, -⟩⟩ := yt.form
          generalize C.funs[j] = f at *
          clear yt yc y3 y4 y5 hbl
          have HE5 := Lib.hid (Ext.al wr (.cells #[.string f.nm, .slice Ap f.ps.length cp, .slice Av f.vars.length cv, .int .i64 f.body.op, .int .i64 f.body.n, .int .i64 f.body.ty, .slice Ax f.body.args.length cx, .slice Bx f.body.brs.length dx] 47))
          have hn5 := heapNew wr (.cells #[.string f.nm, .slice Ap f.ps.length cp, .slice Av f.vars.length cv, .int .i64 f.body.op, .int .i64 f.body.n, .int .i64 f.body.ty, .slice Ax f.body.args.length cx, .slice Bx f.body.brs.length dx] 47)
          have n3 := cellAt hn5 3
          have n4 := cellAt hn5 4
          have n5 := cellAt hn5 5
          have n6 := cellAt hn5 6
          have n7 := cellAt hn5 7
          obtain ⟨r, hr⟩ : ∃ r, fitsN m f.body = r := ⟨_, rfl⟩
          rw [hr] at hFA HST
          have HFA := Lib.hid hFA
          have hjl : (j : Int) < C.funs.length := by omega
          clear hFA hr hn5
          cases r
          · go_wp2_with (go_at_call 5; (with_reducible refine (HFA.out _ (HXW.out.tr HE5.out)).mono ?_); rintro e w6 ⟨rfl, hx6⟩)
            go_ret
            exact ⟨ret_bool (by rw [HF.out, HALL.out, HST.out]; rfl), HXW.out.tr (HE5.out.tr hx6)⟩
          · go_wp2_with (go_at_call 5; (with_reducible refine (HFA.out _ (HXW.out.tr HE5.out)).mono ?_); rintro e w6 ⟨rfl, hx6⟩)
            exact ⟨⟨j + 1, by omega, by go_num, by rw [HALL.out, HST.out]; rfl, HX.out.tr (HE5.out.tr hx6)⟩, by simp [intOf]; omega⟩
        · have HR : Hid (fewN m C = true) := by show _ = _; rw [HF.out, HALL.out, List.drop_eq_nil_of_le (by omega)]; rfl
          go_wp2
          go_ret
          exact ⟨ret_bool HR.out.symm, HE1.out.tr HX.out⟩
    · have HF : Hid (fewN m C = false) := by show _ = _; unfold fewN; rw [decide_eq_false h2]; simp
      have g1 : ¬ ((40 : Int) < C.decls.length) := by omega
      have g2 : ((40 : Int) < C.funs.length) := by omega
      go_enter Tryd.func4, Tryd.ntmps4
      go_wp2
      go_ret
      exact ⟨ret_bool HF.out.symm, HE1.out⟩
  · have HF : Hid (fewN m C = false) := by show _ = _; unfold fewN; rw [decide_eq_false h1]; simp
    have g1 : ((40 : Int) < C.decls.length) := by omega
    go_enter Tryd.func4, Tryd.ntmps4
    go_wp2
    go_ret
    exact ⟨ret_bool HF.out.symm, HE1.out⟩
end Go.Proofs.YtkdhhcidpklgoaaDoor

/- ref06: Exact, of equal nodes. -/
namespace Go.Proofs.YtkdhhcidpklgoaaDoor
open Go.RowKit Go.Shelf
attribute [local go_sem] Oper.semAt_some

set_option maxHeartbeats 8000000 in
set_option maxRecDepth 100000 in
theorem exact_any : ∀ (k : Nat) (t : Nd) (va vb va' vb' : Value) (w : World), RNd w k t va vb → RNd w k t va' vb' → BN t →
    Calls Tryd.prog 13 #[nV t va vb, nV t va' vb'] w fun e w' => e = .returned (.bool true) ∧ Ext w w' := by
  intro k
  induction k with
  | zero => intro t va vb va' vb' w h; exact h.elim
  | succ k ih =>
    intro t va vb va' vb' w ht hu hb
    have HT := Lib.hid ht; have HU := Lib.hid hu; have HIH := Lib.hid ih; have HB := Lib.hid hb
    have hna := hb.na
    have hnb := hb.nb
    obtain ⟨-, ⟨A, c, rfl, -, hma⟩, ⟨B, d, rfl, -, hmb⟩⟩ := ht.form
    obtain ⟨-, ⟨A', c', rfl, -, -⟩, ⟨B', d', rfl, -, -⟩⟩ := hu.form
    clear ht hu ih hb
    have HE2 := Lib.hid (Ext.al2 w (.cells #[.int .i64 t.op, .int .i64 t.n, .int .i64 t.ty, .slice A t.args.length c, .slice B t.brs.length d] 31) (.cells #[.int .i64 t.op, .int .i64 t.n, .int .i64 t.ty, .slice A' t.args.length c', .slice B' t.brs.length d'] 31))
    have HB1 := Lib.hid (Ext.lt (Ext.al (w.alloc (.cells #[.int .i64 t.op, .int .i64 t.n, .int .i64 t.ty, .slice A t.args.length c, .slice B t.brs.length d] 31)) (.cells #[.int .i64 t.op, .int .i64 t.n, .int .i64 t.ty, .slice A' t.args.length c', .slice B' t.brs.length d'] 31)) (heapNew w (.cells #[.int .i64 t.op, .int .i64 t.n, .int .i64 t.ty, .slice A t.args.length c, .slice B t.brs.length d] 31)))
    have HB2 := Lib.hid (heapNew2 w (.cells #[.int .i64 t.op, .int .i64 t.n, .int .i64 t.ty, .slice A t.args.length c, .slice B t.brs.length d] 31) (.cells #[.int .i64 t.op, .int .i64 t.n, .int .i64 t.ty, .slice A' t.args.length c', .slice B' t.brs.length d'] 31))
    go_enter Tryd.func13, Tryd.ntmps13
    go_wp2_with fail
    generalize (w.alloc _).alloc _ = w2 at *
    have a0 := cellAt HB1.out 0
    have a1 := cellAt HB1.out 1
    have a2 := cellAt HB1.out 2
    have a3 := cellAt HB1.out 3
    have a4 := cellAt HB1.out 4
    have e0 := cellAt HB2.out 0
    have e1 := cellAt HB2.out 1
    have e2 := cellAt HB2.out 2
    have e3 := cellAt HB2.out 3
    have e4 := cellAt HB2.out 4
    go_wp2
    clear a0 a1 a2 a3 a4 e0 e1 e2 e3 e4
    go_loopw [49] (fun i wr => ∃ j : Nat, j ≤ t.args.length ∧ i = .int .i64 j ∧ Ext w2 wr) (fun i _ => t.args.length - (intOf i).toNat)
    case atStart => exact ⟨0, Nat.zero_le _, rfl, Ext.rf _⟩
    case round =>
      obtain ⟨j, hj, rfl, hx⟩ := hrel
      have HX := Lib.hid hx
      have HXW : Hid (Ext w wr) := HE2.out.tr hx
      clear hx
      by_cases hlt : j < t.args.length
      · obtain ⟨b, o, xa, xb, rfl, hbl, yc, yt⟩ := HT.out.arg hlt
        obtain ⟨b', o', xa', xb', rfl, hbl', yc', yt'⟩ := HU.out.arg hlt
        have HCALL := Lib.hid (fun W (hW : Ext w W) => HIH.out t.args[j] xa xb xa' xb' W (yt.below hW) (yt'.below hW) (HB.out.arg (List.getElem_mem hlt)))
        obtain ⟨-, ⟨Ax, cx, rfl, -, -⟩, ⟨Bx, dx, rfl, -, -⟩⟩ := yt.form
        obtain ⟨-, ⟨Ax', cx', rfl, -, -⟩, ⟨Bx', dx', rfl, -, -⟩⟩ := yt'.form
        generalize t.args[j] = x at *
        have HCX : Hid (∀ W, Ext wr W → W.cell? ⟨w.heap.size, 3, none⟩ = some (.slice (some ⟨b, o, none⟩) t.args.length c) ∧ W.cell? ⟨w.heap.size + 1, 3, none⟩ = some (.slice (some ⟨b', o', none⟩) t.args.length c') ∧ W.cell? ⟨b, o + j * 5, none⟩ = some (.int .i64 x.op) ∧ W.cell? ⟨b, o + j * 5 + 1, none⟩ = some (.int .i64 x.n) ∧ W.cell? ⟨b, o + j * 5 + 2, none⟩ = some (.int .i64 x.ty) ∧ W.cell? ⟨b, o + j * 5 + 3, none⟩ = some (.slice Ax x.args.length cx) ∧ W.cell? ⟨b, o + j * 5 + 4, none⟩ = some (.slice Bx x.brs.length dx) ∧ W.cell? ⟨b', o' + j * 5, none⟩ = some (.int .i64 x.op) ∧ W.cell? ⟨b', o' + j * 5 + 1, none⟩ = some (.int .i64 x.n) ∧ W.cell? ⟨b', o' + j * 5 + 2, none⟩ = some (.int .i64 x.ty) ∧ W.cell? ⟨b', o' + j * 5 + 3, none⟩ = some (.slice Ax' x.args.length cx') ∧ W.cell? ⟨b', o' + j * 5 + 4, none⟩ = some (.slice Bx' x.brs.length dx')) := fun W hW => by
          have h1 := (HX.out.tr hW).lt HB1.out
          have h2 := (HX.out.tr hW).lt HB2.out
          obtain ⟨k0, k1, k2, k3, k4⟩ := yc.below (HXW.out.tr hW)
          obtain ⟨l0, l1, l2, l3, l4⟩ := yc'.below (HXW.out.tr hW)
          exact ⟨cellAt h1 3, cellAt h2 3, k0, k1, k2, k3, k4, l0, l1, l2, l3, l4⟩
        have hjl : (j : Int) < t.args.length := by omega
        have hj0 : (0 : Int) ≤ j := by omega
        clear yc yt yc' yt' hbl hbl'
        obtain ⟨s0, s1, k0, k1, k2, k3, k4, l0, l1, l2, l3, l4⟩ := HCX.out wr (Ext.rf _)
        go_wp2
        go_region_held3 (fun W => W.cell? ⟨w.heap.size, 3, none⟩ = some (.slice (some ⟨b, o, none⟩) t.args.length c) ∧ W.cell? ⟨w.heap.size + 1, 3, none⟩ = some (.slice (some ⟨b', o', none⟩) t.args.length c') ∧ W.cell? ⟨b, o + j * 5, none⟩ = some (.int .i64 x.op) ∧ W.cell? ⟨b, o + j * 5 + 1, none⟩ = some (.int .i64 x.n) ∧ W.cell? ⟨b, o + j * 5 + 2, none⟩ = some (.int .i64 x.ty) ∧ W.cell? ⟨b, o + j * 5 + 3, none⟩ = some (.slice Ax x.args.length cx) ∧ W.cell? ⟨b, o + j * 5 + 4, none⟩ = some (.slice Bx x.brs.length dx) ∧ W.cell? ⟨b', o' + j * 5, none⟩ = some (.int .i64 x.op) ∧ W.cell? ⟨b', o' + j * 5 + 1, none⟩ = some (.int .i64 x.n) ∧ W.cell? ⟨b', o' + j * 5 + 2, none⟩ = some (.int .i64 x.ty) ∧ W.cell? ⟨b', o' + j * 5 + 3, none⟩ = some (.slice Ax' x.args.length cx') ∧ W.cell? ⟨b', o' + j * 5 + 4, none⟩ = some (.slice Bx' x.brs.length dx'))
          (first | exact HCX.out _ (Ext.rf _).drew | exact HCX.out _ HX8.out | fail "KEEP")
          (first
            | (go_at_call 13; (with_reducible refine (HCALL.out _ (Ext.tr (b := wr.drew) (HXW.out.tr (Ext.rf wr).drew) (Ext.rf _))).mono ?_); rintro e w8 ⟨rfl, hx8⟩; have HX8 : Hid (Ext wr w8) := Ext.tr (b := wr.drew) (Ext.rf wr).drew hx8; clear hx8)
            | fail "ARM")
        all_goals
          go_wp2
          exact ⟨⟨j + 1, by omega, by go_num, HX.out.tr HX8.out⟩, by simp [intOf]; omega⟩
      · have h1 := HX.out.lt HB1.out
        have a4 := cellAt h1 4
        clear h1
        go_wp2
        clear a4
        go_loopw [68] (fun i wr => ∃ j : Nat, j ≤ t.brs.length ∧ i = .int .i64 j ∧ Ext w2 wr) (fun i _ => t.brs.length - (intOf i).toNat)
        case atStart => exact ⟨0, Nat.zero_le _, rfl, HX.out⟩
        case round =>
          obtain ⟨j2, hj2, rfl, hx⟩ := hrel
          have HX2 := Lib.hid hx
          have HXV : Hid (Ext w wr) := HE2.out.tr hx
          clear hx
          by_cases hlt2 : j2 < t.brs.length
          · obtain ⟨b, o, vv, vc, xa, xb, rfl, hbl, y0, y1, y2, y3, yc, yt⟩ := HT.out.br hlt2
            obtain ⟨b', o', vv', vc', xa', xb', rfl, hbl', y0', y1', y2', y3', yc', yt'⟩ := HU.out.br hlt2
            have HCALL := Lib.hid (fun W (hW : Ext w W) => HIH.out (t.brs[j2]).2.2 xa xb xa' xb' W (yt.below hW) (yt'.below hW) (HB.out.br (List.getElem_mem hlt2)))
            have HCI := Lib.hid (fun W (hW : Ext w W) => SameInts_any vv vv' (t.brs[j2]).1 (t.brs[j2]).1 W (y1.below hW) (y1'.below hW))
            have HCB := Lib.hid (fun W (hW : Ext w W) => SameBools_any vc vc' (t.brs[j2]).2.1 (t.brs[j2]).2.1 W (y3.below hW) (y3'.below hW))
            rw [eqI_refl] at HCI
            rw [eqB_refl] at HCB
            obtain ⟨-, ⟨Ax, cx, rfl, -, -⟩, ⟨Bx, dx, rfl, -, -⟩⟩ := yt.form
            obtain ⟨-, ⟨Ax', cx', rfl, -, -⟩, ⟨Bx', dx', rfl, -, -⟩⟩ := yt'.form
            obtain ⟨Av, cv, rfl, -, -⟩ := y1.form
            obtain ⟨Av', cv', rfl, -, -⟩ := y1'.form
            obtain ⟨Ac, cc, rfl, -, -⟩ := y3.form
            obtain ⟨Ac', cc', rfl, -, -⟩ := y3'.form
            have y0 := HXV.out.keep y0
            have y2 := HXV.out.keep y2
            obtain ⟨k0, k1, k2, k3, k4⟩ := yc.below HXV.out
            have HY0 := Lib.hid (fun W (hW : Ext w W) => hW.keep y0')
            have HY2 := Lib.hid (fun W (hW : Ext w W) => hW.keep y2')
            have HYC := Lib.hid (fun W (hW : Ext w W) => yc'.below hW)
            generalize t.brs[j2] = br at *
            obtain ⟨vs, qs, x⟩ := br
            dsimp only at *
            have h2 := HX2.out.lt HB2.out
            have HE5 := Lib.hid (Ext.al wr (.cells #[.slice Av vs.length cv, .slice Ac qs.length cc, .int .i64 x.op, .int .i64 x.n, .int .i64 x.ty, .slice Ax x.args.length cx, .slice Bx x.brs.length dx] 58))
            have HN5 := Lib.hid (heapNew wr (.cells #[.slice Av vs.length cv, .slice Ac qs.length cc, .int .i64 x.op, .int .i64 x.n, .int .i64 x.ty, .slice Ax x.args.length cx, .slice Bx x.brs.length dx] 58))
            have e4 := cellAt (HE5.out.lt h2) 4
            have y0' := HY0.out _ (HXV.out.tr HE5.out)
            have y2' := HY2.out _ (HXV.out.tr HE5.out)
            obtain ⟨l0, l1, l2, l3, l4⟩ := HYC.out _ (HXV.out.tr HE5.out)
            have HE6 := Lib.hid (Ext.al2 wr (.cells #[.slice Av vs.length cv, .slice Ac qs.length cc, .int .i64 x.op, .int .i64 x.n, .int .i64 x.ty, .slice Ax x.args.length cx, .slice Bx x.brs.length dx] 58) (.cells #[.slice Av' vs.length cv', .slice Ac' qs.length cc', .int .i64 x.op, .int .i64 x.n, .int .i64 x.ty, .slice Ax' x.args.length cx', .slice Bx' x.brs.length dx'] 58))
            have HM5 := Lib.hid (Ext.lt (Ext.al (wr.alloc (.cells #[.slice Av vs.length cv, .slice Ac qs.length cc, .int .i64 x.op, .int .i64 x.n, .int .i64 x.ty, .slice Ax x.args.length cx, .slice Bx x.brs.length dx] 58)) (.cells #[.slice Av' vs.length cv', .slice Ac' qs.length cc', .int .i64 x.op, .int .i64 x.n, .int .i64 x.ty, .slice Ax' x.args.length cx', .slice Bx' x.brs.length dx'] 58)) (heapNew wr (.cells #[.slice Av vs.length cv, .slice Ac qs.length cc, .int .i64 x.op, .int .i64 x.n, .int .i64 x.ty, .slice Ax x.args.length cx, .slice Bx x.brs.length dx] 58)))
            have HM6 := Lib.hid (heapNew2 wr (.cells #[.slice Av vs.length cv, .slice Ac qs.length cc, .int .i64 x.op, .int .i64 x.n, .int .i64 x.ty, .slice Ax x.args.length cx, .slice Bx x.brs.length dx] 58) (.cells #[.slice Av' vs.length cv', .slice Ac' qs.length cc', .int .i64 x.op, .int .i64 x.n, .int .i64 x.ty, .slice Ax' x.args.length cx', .slice Bx' x.brs.length dx'] 58))
            have hz5 : (wr.alloc (.cells #[.slice Av vs.length cv, .slice Ac qs.length cc, .int .i64 x.op, .int .i64 x.n, .int .i64 x.ty, .slice Ax x.args.length cx, .slice Bx x.brs.length dx] 58)).heap.size = wr.heap.size + 1 := by simp
            have hjl : (j2 : Int) < t.brs.length := by omega
            have HCELL : Hid (∀ W, Ext ((wr.alloc (.cells #[.slice Av vs.length cv, .slice Ac qs.length cc, .int .i64 x.op, .int .i64 x.n, .int .i64 x.ty, .slice Ax x.args.length cx, .slice Bx x.brs.length dx] 58)).alloc (.cells #[.slice Av' vs.length cv', .slice Ac' qs.length cc', .int .i64 x.op, .int .i64 x.n, .int .i64 x.ty, .slice Ax' x.args.length cx', .slice Bx' x.brs.length dx'] 58)) W → W.cell? ⟨wr.heap.size, 0, none⟩ = some (.slice Av vs.length cv) ∧ W.cell? ⟨wr.heap.size, 1, none⟩ = some (.slice Ac qs.length cc) ∧ W.cell? ⟨wr.heap.size, 2, none⟩ = some (.int .i64 x.op) ∧ W.cell? ⟨wr.heap.size, 3, none⟩ = some (.int .i64 x.n) ∧ W.cell? ⟨wr.heap.size, 4, none⟩ = some (.int .i64 x.ty) ∧ W.cell? ⟨wr.heap.size, 5, none⟩ = some (.slice Ax x.args.length cx) ∧ W.cell? ⟨wr.heap.size, 6, none⟩ = some (.slice Bx x.brs.length dx) ∧ W.cell? ⟨wr.heap.size + 1, 0, none⟩ = some (.slice Av' vs.length cv') ∧ W.cell? ⟨wr.heap.size + 1, 1, none⟩ = some (.slice Ac' qs.length cc') ∧ W.cell? ⟨wr.heap.size + 1, 2, none⟩ = some (.int .i64 x.op) ∧ W.cell? ⟨wr.heap.size + 1, 3, none⟩ = some (.int .i64 x.n) ∧ W.cell? ⟨wr.heap.size + 1, 4, none⟩ = some (.int .i64 x.ty) ∧ W.cell? ⟨wr.heap.size + 1, 5, none⟩ = some (.slice Ax' x.args.length cx') ∧ W.cell? ⟨wr.heap.size + 1, 6, none⟩ = some (.slice Bx' x.brs.length dx')) := fun W hW => by
              have h5 := hW.lt HM5.out
              have h6 := hW.lt HM6.out
              exact ⟨cellAt h5 0, cellAt h5 1, cellAt h5 2, cellAt h5 3, cellAt h5 4, cellAt h5 5, cellAt h5 6, cellAt h6 0, cellAt h6 1, cellAt h6 2, cellAt h6 3, cellAt h6 4, cellAt h6 5, cellAt h6 6⟩
            obtain ⟨m0, m1, m2, m3, m4, m5, m6, p0, p1, p2, p3, p4, p5, p6⟩ := HCELL.out _ (Ext.rf _)
            clear yc yt yc' yt' y1 y3 y1' y3' hbl hbl' h2
            go_wp2_with (first
              | (go_at_call 11; (with_reducible refine (HCI.out _ (HXV.out.tr HE6.out)).mono ?_); rintro e w6 ⟨rfl, hx6⟩; have HX6 := Lib.hid (HE6.out.tr hx6); obtain ⟨m0, m1, m2, m3, m4, m5, m6, p0, p1, p2, p3, p4, p5, p6⟩ := HCELL.out _ hx6; have HXC6 := Lib.hid hx6; clear hx6)
              | (go_at_call 29; (with_reducible refine (HCB.out _ (HXV.out.tr HX6.out)).mono ?_); rintro e w7 ⟨rfl, hx7⟩; have HX7 := Lib.hid (HX6.out.tr hx7); obtain ⟨m0, m1, m2, m3, m4, m5, m6, p0, p1, p2, p3, p4, p5, p6⟩ := HCELL.out _ (HXC6.out.tr hx7); clear hx7)
              | (go_at_call 13; (with_reducible refine (HCALL.out _ (HXV.out.tr HX7.out)).mono ?_); rintro e w8 ⟨rfl, hx8⟩))
            exact ⟨⟨j2 + 1, by omega, by go_num, HX2.out.tr (HX7.out.tr hx8)⟩, by simp [intOf]; omega⟩
          · go_wp2
            go_ret
            exact ⟨rfl, HXV.out⟩
end Go.Proofs.YtkdhhcidpklgoaaDoor
