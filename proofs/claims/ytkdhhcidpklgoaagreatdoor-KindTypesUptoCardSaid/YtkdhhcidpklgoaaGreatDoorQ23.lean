/- The tables that the row lists: the rules, the shapes, the signs. -/
import Derived.Test.YtkdhhcidpklgoaaGreatDoorQ22
import Derived.LaidLaws
import Derived.JoinedCond
import Derived.Deep.DeepHandedRow
import Derived.Lib.LaidTab
namespace Go.Proofs.YtkdhhcidpklgoaaGreatDoor
open Go.ChangeShapes Go.WideShapes Go.ChangeAt Go.RowKit Go.Deep

theorem cut_at {cs : List Value} {a b k : Nat} (hk : k < b) : ((cs.drop a).take b)[k]? = cs[a + k]? := by
  rw [List.getElem?_take, if_pos hk, List.getElem?_drop]
theorem cut_one {cs : List Value} {a b k : Nat} {v : Value} (hk : k < b) (h : ((((cs.drop a).take b).drop k).take 1) = [v]) : cs[a + k]? = some v := by
  rw [← cut_at hk]; exact take_one h
section
variable {H : Type} {enc : TypeId × Value → H} {P : Program} {w : World} {base : Nat} {spare : Nat → Bool} {held : Bool}
theorem arr_at {t e : TypeId} {n fuel : Nat} {cs : List Value} {x : DataW H × List MemPlace} {ds : List (DataW H)} (ht : P.underlying t = some (.array n e)) (h : DataW.trod enc P w base spare held fuel t cs = some x) (hx : x.1 = .agg ds) :
    ∀ (i : Nat) d, ds[i]? = some d → ∃ m y, DataW.trod enc P w base spare held m e ((cs.drop (i * P.cellsOf e)).take (P.cellsOf e)) = some y ∧ y.1 = d := fun i d hd => by
  obtain ⟨ys, m, _, hyx, hlen, hyl, hf⟩ := DataW.trod_array ht h
  rw [hyx] at hx
  injection hx with hx
  have hi : i < n := by
    have := (List.getElem?_eq_some_iff.1 hd).1
    rw [← hx, List.length_map] at this; omega
  have h1 := hf i hi
  rw [← hx, List.getElem?_map] at hd
  obtain ⟨y, hy, rfl⟩ := Option.map_eq_some_iff.1 hd
  exact ⟨m, y, h1.trans hy, rfl⟩
theorem str_at {t : TypeId} {L : List (TypeId × Nat)} {fuel : Nat} {cs : List Value} {x : DataW H × List MemPlace} {ds : List (DataW H)} (hs : shapeOf P t = some L) (h : DataW.trod enc P w base spare held fuel t cs = some x) (hx : x.1 = .agg ds) :
    ∀ (j : Nat) ty off d, L[j]? = some (ty, off) → ds[j]? = some d → ∃ m y, DataW.trod enc P w base spare held m ty ((cs.drop off).take (P.cellsOf ty)) = some y ∧ y.1 = d := fun j ty off d hj hd => by
  unfold shapeOf at hs
  cases hu : P.underlying t with
  | none => rw [hu] at hs; cases hs
  | some k =>
    rw [hu] at hs
    cases k <;> try (cases hs; done)
    rename_i fs
    have hL : fs.toList.map (fun f => (f.type, f.offset)) = L := by simpa using hs
    obtain ⟨ys, n, _, hyx, hlen, hyl, hf⟩ := DataW.trod_struct hu h
    rw [hyx] at hx
    injection hx with hx
    rw [← hL, List.getElem?_map] at hj
    obtain ⟨f, hf0, he⟩ := Option.map_eq_some_iff.1 hj
    cases he
    have hjf : fs[j]? = some f := by simpa using hf0
    have h1 := hf j f hjf
    rw [← hx, List.getElem?_map] at hd
    obtain ⟨y, hy, rfl⟩ := Option.map_eq_some_iff.1 hd
    exact ⟨n, y, h1.trans hy, rfl⟩
theorem int_at {t : TypeId} {fuel : Nat} {cs : List Value} {x : DataW H × List MemPlace} {z : Int} (hu : P.underlying t = some (.int .i64)) (h : DataW.trod enc P w base spare held fuel t cs = some x) (hx : x.1 = .lit (.int .i64 z)) : cs = [.int .i64 z] ∧ ok64 z := by
  obtain ⟨n, e, hy, hw⟩ := DataW.trod_int hu h
  rw [hy] at hx
  injection hx with hx
  injection hx with _ hx
  subst hx
  exact ⟨e, hw⟩
theorem bool_at {t : TypeId} {fuel : Nat} {cs : List Value} {x : DataW H × List MemPlace} {z : Bool} (hu : P.underlying t = some .bool) (h : DataW.trod enc P w base spare held fuel t cs = some x) (hx : x.1 = .lit (.bool z)) : cs = [.bool z] := by
  obtain ⟨n, e, hy⟩ := DataW.trod_bool hu h
  rw [hy] at hx
  injection hx with hx
  injection hx with hx
  subst hx
  exact e
end
theorem Tryz.gRules : Tryz.prog.globalNamed "chiasmus/kind.rules" = some 0 := by kernel_rfl
theorem Tryz.gShapes : Tryz.prog.globalNamed "chiasmus/node.shapes" = some 1 := by kernel_rfl
theorem Tryz.gSigns : Tryz.prog.globalNamed "chiasmus/prim.signs" = some 2 := by kernel_rfl
theorem Tryz.tRules : (Tryz.prog.globals[0]?).map (·.type) = some 136 := by kernel_rfl
theorem Tryz.tShapes : (Tryz.prog.globals[1]?).map (·.type) = some 228 := by kernel_rfl
theorem Tryz.tSigns : (Tryz.prog.globals[2]?).map (·.type) = some 237 := by kernel_rfl
theorem Tryz.uRules : Tryz.prog.underlying 136 = some (.array 15 135) := by kernel_rfl
theorem Tryz.uShapes : Tryz.prog.underlying 228 = some (.array 15 214) := by kernel_rfl
theorem Tryz.uSigns : Tryz.prog.underlying 237 = some (.array 7 9) := by kernel_rfl
theorem Tryz.shapeR : shapeOf Tryz.prog 135 = some [(133, 0), (133, 1)] := by kernel_rfl
theorem Tryz.shapeS : shapeOf Tryz.prog 214 = some [(78, 0), (4, 1), (4, 2), (4, 3), (205, 4)] := by kernel_rfl
theorem Tryz.uSource : Tryz.prog.underlying 133 = some (.int .i64) := by kernel_rfl
theorem Tryz.uSort : Tryz.prog.underlying 78 = some (.int .i64) := by kernel_rfl
theorem Tryz.uLSort : Tryz.prog.underlying 205 = some (.slice 78) := by kernel_rfl
theorem Tryz.cRule : Tryz.prog.cellsOf 135 = 2 := by kernel_rfl
theorem Tryz.cShape : Tryz.prog.cellsOf 214 = 5 := by kernel_rfl
theorem Tryz.cSource : Tryz.prog.cellsOf 133 = 1 := by kernel_rfl
theorem Tryz.cSort : Tryz.prog.cellsOf 78 = 1 := by kernel_rfl
theorem Tryz.cLSort : Tryz.prog.cellsOf 205 = 1 := by kernel_rfl
section
variable {H : Type} {enc : TypeId × Value → H} {w : World} {base : Nat} {spare : Nat → Bool} {held : Bool}
def ruleA (i : Nat) : Int := if i = 0 ∨ i = 5 then 2 else if i = 2 ∨ i = 3 ∨ i = 4 ∨ i = 6 ∨ i = 7 ∨ i = 8 then 1 else 0
def ruleB (i : Nat) : Int := if i = 9 then 1 else if i = 2 ∨ i = 6 ∨ i = 13 then 3 else 0
theorem rules_cells {fuel : Nat} {cs : List Value} {p : List MemPlace} (h : DataW.trod enc Tryz.prog w base spare held fuel 136 cs = some (Rows.laid_chiasmus_kind_rules, p)) : ∀ i : Nat, i < 15 → cs[i * 2]? = some (.int .i64 (ruleA i)) ∧ cs[i * 2 + 1]? = some (.int .i64 (ruleB i)) := fun i hi => by
  have hd : ∃ ds : List (DataW H), Rows.laid_chiasmus_kind_rules = DataW.agg ds ∧ ds[i]? = some (.agg [.lit (.int .i64 (ruleA i)), .lit (.int .i64 (ruleB i))]) := by
    refine ⟨_, rfl, ?_⟩
    rcases (show i = 0 ∨ i = 1 ∨ i = 2 ∨ i = 3 ∨ i = 4 ∨ i = 5 ∨ i = 6 ∨ i = 7 ∨ i = 8 ∨ i = 9 ∨ i = 10 ∨ i = 11 ∨ i = 12 ∨ i = 13 ∨ i = 14 by omega) with rfl | rfl | rfl | rfl | rfl | rfl | rfl | rfl | rfl | rfl | rfl | rfl | rfl | rfl | rfl <;> rfl
  obtain ⟨ds, e, hi2⟩ := hd
  obtain ⟨m, y, hy, hyd⟩ := arr_at Tryz.uRules h e i _ hi2
  rw [Tryz.cRule] at hy
  obtain ⟨m0, z0, h0, e0⟩ := str_at Tryz.shapeR hy hyd 0 133 0 _ rfl rfl
  obtain ⟨m1, z1, h1, e1⟩ := str_at Tryz.shapeR hy hyd 1 133 1 _ rfl rfl
  rw [Tryz.cSource] at h0 h1
  exact ⟨cut_one (k := 0) (by decide) (int_at Tryz.uSource h0 e0).1, cut_one (k := 1) (by decide) (int_at Tryz.uSource h1 e1).1⟩
def slOf (l : List Int) : DataW H := match l with
  | [] => .nil
  | l => .slice (l.map fun z => .lit (.int .i64 z)) []
theorem sorts_at {fuel : Nat} {v : Value} {x : DataW H × List MemPlace} {l : List Int} (h : DataW.trod enc Tryz.prog w base spare held fuel 205 [v] = some x) (hx : x.1 = slOf l) : RInts w v l := by
  rcases open_slice Tryz.uLSort h with ⟨hv, hx2⟩ | ⟨a, len, cap, m, n, D, Pl, hv, _, hl, hm, hmm, hx2, hi⟩
  · rw [hx2] at hx
    obtain rfl : v = .slice none 0 0 := by simpa using hv
    cases l with
    | nil => exact RInts.nil w
    | cons z r => cases hx
  · rw [hx2] at hx
    obtain rfl : v = .slice (some a) len cap := by simpa using hv
    have hdl : (List.range len).map D = l.map fun z => .lit (.int .i64 z) := by
      cases l with
      | nil => cases hx
      | cons z r => injection hx
    have hlen : len = l.length := by
      have := congrArg List.length hdl
      simpa using this
    subst hlen
    rw [Tryz.cSort] at hi
    have hat : ∀ i z, l[i]? = some z → ∃ b o, a = ⟨b, o, none⟩ ∧ b < w.heap.size ∧ w.cell? ⟨b, o + i, none⟩ = some (.int .i64 z) ∧ ok64 z := fun i z hz => by
      have hlt := (List.getElem?_eq_some_iff.1 hz).1
      obtain ⟨cs', hc, ht'⟩ := hi i (by split at hmm <;> omega)
      obtain ⟨_, hcl, hat⟩ := World.cells?_some hc
      have hD : D i = .lit (.int .i64 z) := by
        have h1 := congrArg (fun q => q[i]?) hdl
        simp only [List.getElem?_map, List.getElem?_range hlt, hz, Option.map_some, Option.some.injEq] at h1
        exact h1
      obtain ⟨e1, e2⟩ := int_at Tryz.uSort ht' hD
      have hsp : a.spot = none := by
        obtain ⟨cs2, hc2, _⟩ := hi 0 (by split at hmm <;> omega)
        obtain ⟨_, hcl2, hat2⟩ := World.cells?_some hc2
        have h1 := hat2 0 (by decide)
        rw [add_add, List.getElem?_eq_getElem (by omega)] at h1
        have := World.cell?_spot h1
        simpa [Addr.add] using this
      have h1 := hat 0 (by decide)
      rw [e1, add_add] at h1
      obtain ⟨b, o, s⟩ := a
      obtain rfl : s = none := hsp
      rw [add_none'] at h1
      have h3 : w.cell? ⟨b, o + i, none⟩ = some (.int .i64 z) := by simpa using h1
      exact ⟨b, o, rfl, cell_lt h3, h3, e2⟩
    refine ⟨some a, cap, rfl, hl, hm, fun i z hz => ?_⟩
    obtain ⟨b, o, rfl, h1, h2, h3⟩ := hat i z hz
    exact ⟨b, o, rfl, h1, h2, h3⟩
theorem shapes_cells {fuel : Nat} {cs : List Value} {p : List MemPlace} (h : DataW.trod enc Tryz.prog w base spare held fuel 228 cs = some (Rows.laid_chiasmus_node_shapes, p)) : ∀ i : Nat, i < 15 → ∃ vs, cs[i * 5]? = some (.int .i64 (sortOp i)) ∧ cs[i * 5 + 1]? = some (.bool (usesN i)) ∧ cs[i * 5 + 2]? = some (.bool (usesT i)) ∧ cs[i * 5 + 3]? = some (.bool (usesB i)) ∧ cs[i * 5 + 4]? = some vs ∧ RInts w vs (argsS i) := fun i hi => by
  have hd : ∃ ds : List (DataW H), Rows.laid_chiasmus_node_shapes = DataW.agg ds ∧ ds[i]? = some (.agg [.lit (.int .i64 (sortOp i)), .lit (.bool (usesN i)), .lit (.bool (usesT i)), .lit (.bool (usesB i)), slOf (argsS i)]) := by
    refine ⟨_, rfl, ?_⟩
    rcases (show i = 0 ∨ i = 1 ∨ i = 2 ∨ i = 3 ∨ i = 4 ∨ i = 5 ∨ i = 6 ∨ i = 7 ∨ i = 8 ∨ i = 9 ∨ i = 10 ∨ i = 11 ∨ i = 12 ∨ i = 13 ∨ i = 14 by omega) with rfl | rfl | rfl | rfl | rfl | rfl | rfl | rfl | rfl | rfl | rfl | rfl | rfl | rfl | rfl <;> rfl
  obtain ⟨ds, e, hi2⟩ := hd
  obtain ⟨m, y, hy, hyd⟩ := arr_at Tryz.uShapes h e i _ hi2
  rw [Tryz.cShape] at hy
  obtain ⟨m0, z0, h0, e0⟩ := str_at Tryz.shapeS hy hyd 0 78 0 _ rfl rfl
  obtain ⟨m1, z1, h1, e1⟩ := str_at Tryz.shapeS hy hyd 1 4 1 _ rfl rfl
  obtain ⟨m2, z2, h2, e2⟩ := str_at Tryz.shapeS hy hyd 2 4 2 _ rfl rfl
  obtain ⟨m3, z3, h3, e3⟩ := str_at Tryz.shapeS hy hyd 3 4 3 _ rfl rfl
  obtain ⟨m4, z4, h4, e4⟩ := str_at Tryz.shapeS hy hyd 4 205 4 _ rfl rfl
  rw [Tryz.cSort] at h0
  rw [Tryz.cells4] at h1 h2 h3
  rw [Tryz.cLSort] at h4
  obtain ⟨v, hv⟩ : ∃ v, (((cs.drop (i * 5)).take 5).drop 4).take 1 = [v] := by
    rcases open_slice Tryz.uLSort h4 with ⟨hv, -⟩ | ⟨_, _, _, _, _, _, _, hv, -⟩
    · exact ⟨_, hv⟩
    · exact ⟨_, hv⟩
  have h5 := cut_one (k := 4) (by decide) hv
  rw [hv] at h4
  exact ⟨v, cut_one (k := 0) (by decide) (int_at Tryz.uSort h0 e0).1, cut_one (k := 1) (by decide) (bool_at Tryz.u4 h1 e1), cut_one (k := 2) (by decide) (bool_at Tryz.u4 h2 e2), cut_one (k := 3) (by decide) (bool_at Tryz.u4 h3 e3), h5, sorts_at h4 e4⟩
theorem signs_cells {fuel : Nat} {cs : List Value} {p : List MemPlace} (h : DataW.trod enc Tryz.prog w base spare held fuel 237 cs = some (Rows.laid_chiasmus_prim_signs, p)) : ∀ i : Nat, i < 7 → ∃ s : ByteArray, cs[i]? = some (.string s) ∧ emS s = false := fun i hi => by
  have hd : ∃ (ds : List (DataW H)) (c : UInt8) (r : List UInt8), Rows.laid_chiasmus_prim_signs = DataW.agg ds ∧ ds[i]? = some (.lit (.string (c :: r))) := by
    rcases (show i = 0 ∨ i = 1 ∨ i = 2 ∨ i = 3 ∨ i = 4 ∨ i = 5 ∨ i = 6 by omega) with rfl | rfl | rfl | rfl | rfl | rfl | rfl <;> exact ⟨_, _, _, rfl, rfl⟩
  obtain ⟨ds, c, r, e, hi2⟩ := hd
  obtain ⟨m, y, hy, hyd⟩ := arr_at Tryz.uSigns h e i _ hi2
  rw [Tryz.cells9, Nat.mul_one] at hy
  obtain ⟨s, hc, hys, -⟩ := DataW.trod_string Tryz.u9 hy
  rw [hys] at hyd
  injection hyd with hyd
  injection hyd with hyd
  refine ⟨s, take_one hc, ?_⟩
  unfold emS
  rw [ByteArray.toList_eq]
  rw [hyd]; rfl
end
theorem okWide_arr {P : Program} {w : World} {base : Nat} {t e : TypeId} {n : Nat} {v : Value} (hu : P.underlying t = some (.array n e)) (h : Value.okWide P w .any base t v) : ∃ cs, v = .agg cs := by
  cases v <;> simp_all [Value.okWide]
theorem var_at {n : String} {g : Nat} {w : World} {cs : Array Value} (hg : Tryz.prog.globalNamed n = some g) (h : w.var? Tryz.prog n = some cs) (i : Nat) (v : Value) (hi : cs.toList[i]? = some v) : w.cell? ⟨g, i, none⟩ = some v := by
  unfold World.var? at h
  rw [hg] at h
  simp only [Option.bind_some] at h
  cases hw : w.heap[g]? with
  | none => rw [hw] at h; cases h
  | some o =>
    rw [hw] at h
    cases o <;> try (cases h; done)
    rename_i c t z
    have : c = cs := by simpa using h
    subst this
    simp [World.cell?, hw]
    simpa using hi
end Go.Proofs.YtkdhhcidpklgoaaGreatDoor

/- ref06: the scope: how often each variable has been brought. -/
namespace Go.Proofs.YtkdhhcidpklgoaaGreatDoor
open Go.RowKit Go.Shelf Go.Maps
attribute [local go_sem] Oper.semAt_some

abbrev Cn := Vr → Int
abbrev zI : Value := .int .i64 0
/-- A variable's count raised. -/
def addC1 (c : Cn) (x : Vr) (d : Int) : Cn := fun y => if y = x then c y + d else c y
def addC : Cn → List Vr → Int → Cn
  | c, [], _ => c
  | c, x :: r, d => addC (addC1 c x d) r d
theorem addC1_at (c : Cn) (x : Vr) (d : Int) : addC1 c x d x = c x + d := if_pos rfl
theorem addC1_other (c : Cn) {x y : Vr} (d : Int) (h : y ≠ x) : addC1 c x d y = c y := if_neg h
theorem addC_eq (d : Int) : ∀ (l : List Vr) (c : Cn) (x : Vr), addC c l d x = c x + cntV l x * d
  | [], c, x => by simp [addC, cntV]
  | y :: r, c, x => by
    show addC (addC1 c y d) r d x = _
    rw [addC_eq d r]
    unfold cntV
    rw [List.countP_cons]
    by_cases h : x = y
    · subst h
      rw [addC1_at]
      simp only [decide_true, if_true, Int.natCast_add, Int.add_mul]
      have : ((1 : Nat) : Int) * d = d := by simp
      omega
    · rw [addC1_other _ _ h]
      have h2 : decide (y = x) = false := decide_eq_false (fun e => h e.symm)
      simp [h2]
/-- What has been added is taken away. -/
theorem addC_back (c : Cn) (l : List Vr) (d : Int) : addC (addC c l d) l (-d) = c := by
  funext x
  rw [addC_eq, addC_eq, Int.mul_neg]
  omega
theorem cntV_len (l : List Vr) (x : Vr) : cntV l x ≤ l.length := List.countP_le_length
theorem cntV_isin (l : List Vr) (x : Vr) : 0 < cntV l x ↔ l.any (fun y => x == y) = true := by
  unfold cntV
  rw [List.countP_pos_iff, List.any_eq_true]
  constructor
  · rintro ⟨y, h1, h2⟩
    exact ⟨y, h1, by have := of_decide_eq_true h2; subst this; exact beq_self_eq_true _⟩
  · rintro ⟨y, h1, h2⟩
    exact ⟨y, h1, decide_eq_true (eq_of_beq h2).symm⟩
/-- The counts and the set of what is in scope. -/
structure CnS (c : Cn) (S : Sc) (m : Int) : Prop where
  pos : ∀ x, 0 ≤ c x
  le : ∀ x, c x ≤ m
  eq : ∀ x, S x = decide (0 < c x)
theorem CnS.add {c : Cn} {S : Sc} {m : Int} (h : CnS c S m) (l : List Vr) : CnS (addC c l 1) (addS S l) (m + l.length) := by
  refine ⟨fun x => ?_, fun x => ?_, fun x => ?_⟩
  · rw [addC_eq]; have := h.pos x; omega
  · rw [addC_eq]; have := h.le x; have := cntV_len l x; omega
  · rw [addC_eq]
    have h0 := h.pos x
    unfold addS
    rw [h.eq x]
    by_cases hp : 0 < cntV l x
    · rw [(cntV_isin l x).1 hp]
      simp only [Bool.true_or]
      exact (decide_eq_true (by omega)).symm
    · have hn : l.any (fun y => x == y) = false := by
        cases hq : l.any (fun y => x == y)
        · rfl
        · exact absurd ((cntV_isin l x).2 hq) hp
      rw [hn, Bool.false_or]
      congr 1
      have : cntV l x = 0 := by omega
      rw [this]
      simp
/-- The scope of the reference lies at p: two maps of counts. -/
structure RC (w : World) (p mx ma n : Nat) (c : Cn) : Prop where
  box : w.heap[p]? = some (.cells #[.map (some mx), .map (some ma)] 125 (0, 0))
  mp : MapZ intT zI w mx n (fun k => .int .i64 (c (0, k)))
  mq : MapZ intT zI w ma n (fun k => .int .i64 (c (1, k)))
  ne : mx ≠ ma
/-- What a call may turn that works on the scope. -/
abbrev TrC (mx ma : Nat) (w w' : World) : Prop := Only (fun j => j = mx ∨ j = ma) w w'
section
variable {w w' : World} {p mx ma n : Nat} {c : Cn}
theorem RC.apart (h : RC w p mx ma n c) : p ≠ mx ∧ p ≠ ma := by
  obtain ⟨_, _, h1⟩ := h.mp.is
  obtain ⟨_, _, h2⟩ := h.mq.is
  have hb := h.box
  exact ⟨fun e => (by rw [e, h1] at hb; have q := Option.some.inj hb; cases q), fun e => (by rw [e, h2] at hb; have q := Option.some.inj hb; cases q)⟩
theorem RC.ext (h : RC w p mx ma n c) (hx : Ext w w') : RC w' p mx ma n c := ⟨hx.lt h.box, h.mp.ext hx, h.mq.ext hx, h.ne⟩
theorem RC.mono (h : RC w p mx ma n c) {m : Nat} (hm : n ≤ m) : RC w p mx ma m c := ⟨h.box, h.mp.mono hm, h.mq.mono hm, h.ne⟩
theorem RC.lookx (h : RC w p mx ma n c) {k : Int} (hk : ok64 k) : (Instr.lookup 87 (.map (some mx)) (.int .i64 k) false).run Tryz.prog w = .ok (.int .i64 (c (0, k))) w :=
  run_lookupZ (T := intT) (t := 87) (e := 3) Tryz.underlying87 h.mp (by kernel_rfl) k hk
theorem RC.looka (h : RC w p mx ma n c) {k : Int} (hk : ok64 k) : (Instr.lookup 87 (.map (some ma)) (.int .i64 k) false).run Tryz.prog w = .ok (.int .i64 (c (1, k))) w :=
  run_lookupZ (T := intT) (t := 87) (e := 3) Tryz.underlying87 h.mq (by kernel_rfl) k hk
theorem RC.putx (h : RC w p mx ma n c) {k : Int} (hk : ok64 k) (hn : n < maxLen) (d : Int) :
    ∃ w', (Instr.mapUpdate 87 (.map (some mx)) (.int .i64 k) (.int .i64 (c (0, k) + d))).run Tryz.prog w = .ok () w' ∧ RC w' p mx ma (n + 1) (addC1 c (0, k) d) ∧ TrC mx ma w w' := by
  obtain ⟨w', hrun, hm, hg, hsz⟩ := run_updateZ (T := intT) (t := 87) (e := 3) Tryz.underlying87 h.mp hn k hk (.int .i64 (c (0, k) + d))
  obtain ⟨a1, a2⟩ := h.apart
  refine ⟨w', hrun, ⟨(hg.block _ (heap_lt h.box) (by simpa using a1)).trans h.box, hm.congr (fun x hx => ?_), (h.mq.mono (Nat.le_succ n)).block (hg.block _ h.mq.lt (by simpa using Ne.symm h.ne)) |>.congr (fun x hx => ?_), h.ne⟩, ?_⟩
  · by_cases e : x = k
    · subst e; rw [putZ_same, addC1_at]
    · rw [putZ_other _ _ e, addC1_other _ _ (by simpa using e)]
  · rw [addC1_other _ _ (by simp)]
  · exact ⟨hg.os, hg.tape, hg.output, by omega, fun j hj hc => hg.block j hj (by simpa using fun e => hc (.inl e))⟩
theorem RC.puta (h : RC w p mx ma n c) {k : Int} (hk : ok64 k) (hn : n < maxLen) (d : Int) :
    ∃ w', (Instr.mapUpdate 87 (.map (some ma)) (.int .i64 k) (.int .i64 (c (1, k) + d))).run Tryz.prog w = .ok () w' ∧ RC w' p mx ma (n + 1) (addC1 c (1, k) d) ∧ TrC mx ma w w' := by
  obtain ⟨w', hrun, hm, hg, hsz⟩ := run_updateZ (T := intT) (t := 87) (e := 3) Tryz.underlying87 h.mq hn k hk (.int .i64 (c (1, k) + d))
  obtain ⟨a1, a2⟩ := h.apart
  refine ⟨w', hrun, ⟨(hg.block _ (heap_lt h.box) (by simpa using a2)).trans h.box, (h.mp.mono (Nat.le_succ n)).block (hg.block _ h.mp.lt (by simpa using h.ne)) |>.congr (fun x hx => ?_), hm.congr (fun x hx => ?_), h.ne⟩, ?_⟩
  · rw [addC1_other _ _ (by simp)]
  · by_cases e : x = k
    · subst e; rw [putZ_same, addC1_at]
    · rw [putZ_other _ _ e, addC1_other _ _ (by simpa using e)]
  · exact ⟨hg.os, hg.tape, hg.output, by omega, fun j hj hc => hg.block j hj (by simpa using fun e => hc (.inr e))⟩
end
set_option maxHeartbeats 4000000 in
set_option maxRecDepth 100000 in
theorem has6_any (w : World) (p mx ma n : Nat) (c : Cn) (co : Bool) (k : Int) (h : RC w p mx ma n c) (hk : ok64 k) :
    Calls Tryz.prog 57 #[.pointer (some ⟨p, 0, none⟩), .bool co, .int .i64 k] w fun e w' => e = .returned (.bool (decide (0 < c (coI co, k)))) ∧ w = w' := by
  have hb := h.box
  have p0 := cellAt hb 0
  have p1 := cellAt hb 1
  have hx := h.lookx hk
  have ha := h.looka hk
  clear h hb
  cases co
  · generalize hv : c (0, k) = v at *
    have hv' : c (coI false, k) = v := hv
    by_cases h0 : 0 < v
    all_goals
      go_enter Tryz.func57, Tryz.ntmps57
      go_wp2
      go_ret
      exact ⟨by (try rw [hv']); (first | rw [decide_eq_true h0] | rw [decide_eq_false (by omega)]); rfl, rfl⟩
  · generalize hv : c (1, k) = v at *
    have hv' : c (coI true, k) = v := hv
    by_cases h0 : 0 < v
    all_goals
      go_enter Tryz.func57, Tryz.ntmps57
      go_wp2
      go_ret
      exact ⟨by (try rw [hv']); (first | rw [decide_eq_true h0] | rw [decide_eq_false (by omega)]); rfl, rfl⟩
set_option maxHeartbeats 4000000 in
set_option maxRecDepth 100000 in
theorem add6_any (w : World) (p mx ma n : Nat) (c : Cn) (co : Bool) (k d : Int) (h : RC w p mx ma n c) (hk : ok64 k) (hd1 : -4000000000 ≤ c (coI co, k) + d) (hd2 : c (coI co, k) + d ≤ 4000000000) (hn : n < maxLen) :
    Calls Tryz.prog 89 #[.pointer (some ⟨p, 0, none⟩), .bool co, .int .i64 k, .int .i64 d] w fun e w' => e = .returned (.tuple #[]) ∧ RC w' p mx ma (n + 1) (addC1 c (coI co, k) d) ∧ TrC mx ma w w' := by
  have hb := h.box
  have p0 := cellAt hb 0
  have p1 := cellAt hb 1
  have hx := h.lookx hk
  have ha := h.looka hk
  cases co
  · obtain ⟨w2, hu, h2, ht⟩ := h.putx hk hn d
    have hd1' : -4000000000 ≤ c (0, k) + d := hd1
    have hd2' : c (0, k) + d ≤ 4000000000 := hd2
    have H2 := Lib.hid h2; have HT := Lib.hid ht
    clear h2 ht h hb hd1 hd2
    have hw1 : IntKind.wrap .i64 (c (0, k) + d) = c (0, k) + d := IntWalk.i64_in _ (by omega)
    generalize c (0, k) = v at *
    go_enter Tryz.func89, Tryz.ntmps89
    go_wp2
    go_end0
    exact ⟨rfl, H2.out, HT.out⟩
  · obtain ⟨w2, hu, h2, ht⟩ := h.puta hk hn d
    have hd1' : -4000000000 ≤ c (1, k) + d := hd1
    have hd2' : c (1, k) + d ≤ 4000000000 := hd2
    have H2 := Lib.hid h2; have HT := Lib.hid ht
    clear h2 ht h hb hd1 hd2
    have hw1 : IntKind.wrap .i64 (c (1, k) + d) = c (1, k) + d := IntWalk.i64_in _ (by omega)
    generalize c (1, k) = v at *
    go_enter Tryz.func89, Tryz.ntmps89
    go_wp2
    go_end0
    exact ⟨rfl, H2.out, HT.out⟩
end Go.Proofs.YtkdhhcidpklgoaaGreatDoor

/- ref06: Kind, Leaf, Co, mu, branch. -/
namespace Go.Proofs.YtkdhhcidpklgoaaGreatDoor
open Go.RowKit Go.Shelf Go.Maps
attribute [local go_sem] Oper.semAt_some

/-- The kind of an operator as the reference counts it. -/
def kindI (op : Int) : Int := if sortOp op = 3 then 0 else sortOp op + 1
theorem kindI_of {op s : Int} (h : sortOp op = s) : kindI op = if s = 3 then 0 else s + 1 := by unfold kindI; rw [h]
theorem kind6_any (op : Int) (w : World) : Calls Tryz.prog 16 #[.int .i64 op] w fun e w' => e = .returned (.int .i64 (kindI op)) ∧ w = w' := by
  by_cases h1 : 0 ≤ op
  · by_cases h2 : op ≤ 4
    · have hr := Lib.hid (kindI_of (show sortOp op = 0 by unfold sortOp; rw [if_neg (by omega), if_pos h2]))
      go_enter Tryz.func16, Tryz.ntmps16
      go_wp2
      go_ret
      exact ⟨by rw [hr.out]; rfl, rfl⟩
    · by_cases h3 : op ≤ 8
      · have hr := Lib.hid (kindI_of (show sortOp op = 1 by unfold sortOp; rw [if_neg (by omega), if_neg h2, if_pos h3]))
        have h4 : 5 ≤ op := by omega
        go_enter Tryz.func16, Tryz.ntmps16
        go_wp2
        go_ret
        exact ⟨by rw [hr.out]; rfl, rfl⟩
      · have h4 : 5 ≤ op := by omega
        have h5 : 9 ≤ op := by omega
        by_cases h6 : op ≤ 14
        · have hr := Lib.hid (kindI_of (show sortOp op = 2 by unfold sortOp; rw [if_neg (by omega), if_neg h2, if_neg h3, if_pos h6]))
          go_enter Tryz.func16, Tryz.ntmps16
          go_wp2
          go_ret
          exact ⟨by rw [hr.out]; rfl, rfl⟩
        · have hr := Lib.hid (kindI_of (show sortOp op = 3 by unfold sortOp; rw [if_neg (by omega), if_neg h2, if_neg h3, if_neg h6]))
          go_enter Tryz.func16, Tryz.ntmps16
          go_wp2
          go_ret
          exact ⟨by rw [hr.out]; rfl, rfl⟩
  · have hr := Lib.hid (kindI_of (show sortOp op = 3 by unfold sortOp; rw [if_pos (by omega)]))
    have h2 : ¬ 5 ≤ op := by omega
    have h3 : ¬ 9 ≤ op := by omega
    go_enter Tryz.func16, Tryz.ntmps16
    go_wp2
    go_ret
    exact ⟨by rw [hr.out]; rfl, rfl⟩
theorem leaf6_any (op : Int) (w : World) : Calls Tryz.prog 47 #[.int .i64 op] w fun e w' => e = .returned (.bool (leafB op)) ∧ w = w' := by
  by_cases h1 : op = 0
  · subst h1
    go_enter Tryz.func47, Tryz.ntmps47
    go_wp2
    go_ret
    exact ⟨rfl, rfl⟩
  · by_cases h2 : op = 5
    · subst h2
      go_enter Tryz.func47, Tryz.ntmps47
      go_wp2
      go_ret
      exact ⟨rfl, rfl⟩
    · by_cases h3 : op = 1
      · subst h3
        go_enter Tryz.func47, Tryz.ntmps47
        go_wp2
        go_ret
        exact ⟨rfl, rfl⟩
      · have hr : Hid (leafB op = false) := by show _ = _; unfold leafB; simp [h1, h2, h3]
        go_enter Tryz.func47, Tryz.ntmps47
        go_wp2
        go_ret
        exact ⟨rfl, rfl⟩
set_option maxHeartbeats 4000000 in
set_option maxRecDepth 100000 in
theorem co6_any (vv vc : Value) (cs : List Bool) (t : Nd) (xa xb : Value) (i : Nat) (w : World) (hc : RBools w vc cs) (hi : i ≤ 1048576) :
    Calls Tryz.prog 90 #[brV vv vc t xa xb, .int .i64 i] w fun e w' => e = .returned (.bool (cs.getD i false)) ∧ Ext w w' := by
  obtain ⟨A2, c2, rfl, -, -⟩ := hc.form
  have HE1 := Lib.hid (Ext.al w (.cells #[vv, .slice A2 cs.length c2, .int .i64 t.op, .int .i64 t.n, .int .i64 t.ty, xa, xb] 97))
  have HB1 := Lib.hid (heapNew w (.cells #[vv, .slice A2 cs.length c2, .int .i64 t.op, .int .i64 t.n, .int .i64 t.ty, xa, xb] 97))
  have hcl : cs.length ≤ maxLen := by
    obtain ⟨A, c, he, h1, h2, -⟩ := hc
    cases he
    omega
  unfold maxLen at hcl
  obtain ⟨r, hrr⟩ : ∃ r, cs.getD i false = r := ⟨_, rfl⟩
  rw [hrr]
  by_cases hlt : i < cs.length
  · obtain ⟨b, o, rfl, hbl, y0⟩ := hc.at_ hlt
    have hr : Hid (r = cs[i]) := by show _ = _; rw [← hrr, List.getD_eq_getElem?_getD, List.getElem?_eq_getElem hlt]; rfl
    have y0 := HE1.out.keep y0
    generalize cs[i] = q at *
    have hi2 : (i : Int) < cs.length := by omega
    clear hc hrr
    go_enter Tryz.func90, Tryz.ntmps90
    go_wp2
    generalize w.alloc _ = w1 at *
    have b1 := cellAt HB1.out 1
    have hy : w1.cell? ⟨b, o + i, none⟩ = some (.bool q) := y0
    go_wp2
    go_ret
    exact ⟨by rw [hr.out]; rfl, HE1.out⟩
  · have hr : Hid (r = false) := by show _ = _; rw [← hrr, List.getD_eq_getElem?_getD, List.getElem?_eq_none (by omega)]; rfl
    have hi2 : ¬ (i : Int) < cs.length := by omega
    clear hc hrr
    go_enter Tryz.func90, Tryz.ntmps90
    go_wp2
    generalize w.alloc _ = w1 at *
    have b1 := cellAt HB1.out 1
    go_wp2
    go_ret
    exact ⟨by rw [hr.out]; rfl, HE1.out⟩
theorem TrC.ext {mx ma : Nat} {w w' : World} (h : Ext w w') : TrC mx ma w w' := Only.of_ext h
theorem TrC.tr {mx ma : Nat} {w w1 w2 : World} (h : TrC mx ma w w1) (k : TrC mx ma w1 w2) : TrC mx ma w w2 :=
  ⟨k.os.trans h.os, k.tape.trans h.tape, k.output.trans h.output, Nat.le_trans h.size k.size, fun j hj hn => (k.block j (Nat.lt_of_lt_of_le hj h.size) hn).trans (h.block j hj hn)⟩
/-- What lay there before the maps stays. -/
theorem TrC.below {mx ma : Nat} {wA w w' : World} (h : TrC mx ma w w') (hw : Ext wA w) (h1 : wA.heap.size ≤ mx) (h2 : wA.heap.size ≤ ma) : Ext wA w' :=
  ⟨h.os.trans hw.os, h.tape.trans hw.tape, h.output.trans hw.output, Nat.le_trans hw.size h.size, fun j hj => (h.block j (Nat.lt_of_lt_of_le hj hw.size) (by omega)).trans (hw.block j hj)⟩
theorem TrC.box {mx ma : Nat} {w w' : World} (h : TrC mx ma w w') {j : Nat} {o : Obj} (hj : w.heap[j]? = some o) (h1 : j ≠ mx) (h2 : j ≠ ma) : w'.heap[j]? = some o :=
  (h.block j (heap_lt hj) (by omega)).trans hj
set_option maxHeartbeats 4000000 in
set_option maxRecDepth 100000 in
theorem mu6_any (w : World) (p mx ma n : Nat) (c : Cn) (t : Nd) (va vb : Value) (d : Int) (h : RC w p mx ma n c) (hk : ok64 t.n) (hd1 : ∀ x, -3000000000 ≤ c x) (hd2 : ∀ x, c x ≤ 3000000000) (hd : d = 1 ∨ d = -1) (hn : n < maxLen) :
    Calls Tryz.prog 58 #[.pointer (some ⟨p, 0, none⟩), nV t va vb, .int .i64 d] w fun e w' => e = .returned (.tuple #[]) ∧ RC w' p mx ma (n + 1) (addC c (muV t.op t.n) d) ∧ TrC mx ma w w' := by
  have HE1 := Lib.hid (Ext.al w (.cells #[.int .i64 t.op, .int .i64 t.n, .int .i64 t.ty, va, vb] 36))
  have HB1 := Lib.hid (heapNew w (.cells #[.int .i64 t.op, .int .i64 t.n, .int .i64 t.ty, va, vb] 36))
  have H := Lib.hid h
  have HA : Hid (∀ w1 co, Ext w w1 → Calls Tryz.prog 89 #[.pointer (some ⟨p, 0, none⟩), .bool co, .int .i64 t.n, .int .i64 d] w1 fun e w' => e = .returned (.tuple #[]) ∧ RC w' p mx ma (n + 1) (addC1 c (coI co, t.n) d) ∧ TrC mx ma w1 w') := fun w1 co hw =>
    add6_any w1 p mx ma n c co t.n d (h.ext hw) hk (by have := hd1 (coI co, t.n); omega) (by have := hd2 (coI co, t.n); omega) hn
  clear h hd1 hd2
  by_cases h3 : t.op = 3
  · have hr : Hid (addC c (muV t.op t.n) d = addC1 c (coI true, t.n) d) := by show _ = _; rw [h3]; rfl
    rw [h3] at HE1 HB1
    rw [h3]
    go_enter Tryz.func58, Tryz.ntmps58
    go_wp2_with (go_at_call 89; (with_reducible refine (HA.out _ true HE1.out).mono ?_); rintro e w3 ⟨rfl, hx3, ht3⟩)
    refine bodyPost_end (v := .tuple #[]) (by simp [results, go_sem]) rfl ?_
    exact ⟨rfl, by have := hr.out; rw [h3] at this; rw [this]; exact hx3, TrC.tr (TrC.ext HE1.out) ht3⟩
  · by_cases h7 : t.op = 7
    · have hr : Hid (addC c (muV t.op t.n) d = addC1 c (coI false, t.n) d) := by show _ = _; rw [h7]; rfl
      rw [h7] at HE1 HB1
      rw [h7]
      go_enter Tryz.func58, Tryz.ntmps58
      go_wp2_with (go_at_call 89; (with_reducible refine (HA.out _ false HE1.out).mono ?_); rintro e w3 ⟨rfl, hx3, ht3⟩)
      refine bodyPost_end (v := .tuple #[]) (by simp [results, go_sem]) rfl ?_
      exact ⟨rfl, by have := hr.out; rw [h7] at this; rw [this]; exact hx3, TrC.tr (TrC.ext HE1.out) ht3⟩
    · have hr : Hid (addC c (muV t.op t.n) d = c) := by show _ = _; unfold muV; rw [if_neg h3, if_neg h7]; rfl
      have e3 : (t.op == 3) = false := by simpa using h3
      have e7 : (t.op == 7) = false := by simpa using h7
      go_enter Tryz.func58, Tryz.ntmps58
      go_wp2
      all_goals try (exfalso; omega)
      refine bodyPost_end (v := .tuple #[]) (by simp [results, go_sem]) rfl ?_
      exact ⟨rfl, by rw [hr.out]; exact (H.out.ext HE1.out).mono (by omega), TrC.ext HE1.out⟩
theorem addC_append (d : Int) (k : List Vr) : ∀ (l : List Vr) (c : Cn), addC c (l ++ k) d = addC (addC c l d) k d
  | [], _ => rfl
  | _ :: r, c => addC_append d k r _
theorem zipCo_take {vs : List Int} {k : Nat} (cs : List Bool) (h : k < vs.length) : zipCo (vs.take (k + 1)) cs = zipCo (vs.take k) cs ++ [(coI (cs.getD k false), vs[k])] := by
  apply List.ext_getElem?
  intro j
  rw [zipCo_get, List.getElem?_append, zipCo_length, List.length_take, Nat.min_eq_left (by omega), zipCo_get, List.getElem?_take, List.getElem?_take]
  by_cases h1 : j < k
  · rw [if_pos (by omega), if_pos h1, if_pos h1]
  · rw [if_neg h1]
    by_cases h2 : j = k
    · subst h2
      rw [if_pos (by omega), List.getElem?_eq_getElem h]
      simp
    · rw [if_neg (by omega), List.getElem?_eq_none (by simp; omega)]
      rfl
set_option maxHeartbeats 8000000 in
set_option maxRecDepth 100000 in
theorem branch6_any (wA w : World) (p mx ma n : Nat) (c : Cn) (vv vc : Value) (vs : List Int) (cs : List Bool) (t : Nd) (xa xb : Value) (d : Int) (hx : Ext wA w) (hm1 : wA.heap.size ≤ mx) (hm2 : wA.heap.size ≤ ma) (h : RC w p mx ma n c) (hv : RInts wA vv vs) (hc : RBools wA vc cs) (hl : vs.length ≤ 1048576)
    (hd1 : ∀ x, -2000000000 ≤ c x) (hd2 : ∀ x, c x ≤ 2000000000) (hd : d = 1 ∨ d = -1) (hn : n ≤ 1000000000) :
    Calls Tryz.prog 61 #[.pointer (some ⟨p, 0, none⟩), brV vv vc t xa xb, .int .i64 d] w fun e w' => e = .returned (.tuple #[]) ∧ RC w' p mx ma (n + vs.length) (addC c (zipCo vs cs) d) ∧ TrC mx ma w w' := by
  have HV := Lib.hid hv; have HC := Lib.hid hc; have HX := Lib.hid hx
  obtain ⟨A1, c1, rfl, -, -⟩ := hv.form
  have HE1 := Lib.hid (Ext.al w (.cells #[.slice A1 vs.length c1, vc, .int .i64 t.op, .int .i64 t.n, .int .i64 t.ty, xa, xb] 97))
  have HB1 := Lib.hid (heapNew w (.cells #[.slice A1 vs.length c1, vc, .int .i64 t.op, .int .i64 t.n, .int .i64 t.ty, xa, xb] 97))
  have hqx := h.mp.lt
  have hqa := h.mq.lt
  have HRC : Hid (RC (w.alloc (.cells #[.slice A1 vs.length c1, vc, .int .i64 t.op, .int .i64 t.n, .int .i64 t.ty, xa, xb] 97)) p mx ma n c) := h.ext HE1.out
  have HD1 := Lib.hid hd1; have HD2 := Lib.hid hd2
  have HCO : Hid (∀ (W : World) (i : Nat), Ext wA W → i ≤ 1048576 → Calls Tryz.prog 90 #[brV (.slice A1 vs.length c1) vc t xa xb, .int .i64 i] W fun e w' => e = .returned (.bool (cs.getD i false)) ∧ Ext W w') := fun W i hW hi =>
    co6_any _ vc cs t xa xb i W (hc.below hW) hi
  clear hv hc hx h hd1 hd2
  go_enter Tryz.func61, Tryz.ntmps61
  go_wp2
  generalize w.alloc _ = w1 at *
  have hx1 : Ext wA w1 := HX.out.tr HE1.out
  have HX1 := Lib.hid hx1
  clear hx1
  have b0 := cellAt HB1.out 0
  go_wp2
  go_loopw [11] (fun i wr => ∃ k : Nat, k ≤ vs.length ∧ i = .int .i64 k ∧ RC wr p mx ma (n + k) (addC c (zipCo (vs.take k) cs) d) ∧ TrC mx ma w1 wr) (fun i _ => vs.length - (intOf i).toNat)
  case atStart => exact ⟨0, Nat.zero_le _, rfl, HRC.out, Only.rf _ _⟩
  case round =>
    obtain ⟨k, hk, rfl, hrc, htr⟩ := hrel
    have HR := Lib.hid hrc; have HT := Lib.hid htr
    have hb := htr.box HB1.out (by omega) (by omega)
    have hxr := htr.below HX1.out hm1 hm2
    have HXR := Lib.hid hxr
    have HBR := Lib.hid hb
    have b0 := cellAt hb 0
    have b1 := cellAt hb 1
    have b2 := cellAt hb 2
    have b3 := cellAt hb 3
    have b4 := cellAt hb 4
    have b5 := cellAt hb 5
    have b6 := cellAt hb 6
    clear hrc htr hb hxr
    by_cases hlt : k < vs.length
    · obtain ⟨b, o, rfl, hbl, y0, hok⟩ := HV.out.at_ hlt
      have hz := zipCo_take cs hlt
      have hle := fun x => cntV_len (zipCo (vs.take k) cs) x
      have hlz : (zipCo (vs.take k) cs).length = k := by rw [zipCo_length, List.length_take]; omega
      have hq1 : ∀ x, -3000000000 ≤ addC c (zipCo (vs.take k) cs) d x ∧ addC c (zipCo (vs.take k) cs) d x ≤ 3000000000 := fun x => by
        rw [addC_eq]
        have h1 := hle x
        have h2 := HD1.out x
        have h3 := HD2.out x
        rcases hd with rfl | rfl <;> omega
      have HADD : Hid (∀ W, Ext wr W → Calls Tryz.prog 89 #[.pointer (some ⟨p, 0, none⟩), .bool (cs.getD k false), .int .i64 vs[k], .int .i64 d] W fun e w' => e = .returned (.tuple #[]) ∧ RC w' p mx ma (n + (k + 1)) (addC c (zipCo (vs.take (k + 1)) cs) d) ∧ TrC mx ma W w') := fun W hW => by
        have := add6_any W p mx ma (n + k) _ (cs.getD k false) vs[k] d (HR.out.ext hW) hok (by have := (hq1 (coI (cs.getD k false), vs[k])).1; rcases hd with rfl | rfl <;> omega) (by have := (hq1 (coI (cs.getD k false), vs[k])).2; rcases hd with rfl | rfl <;> omega) (by unfold maxLen; omega)
        rw [hz, addC_append]
        exact this
      have HCK : Hid (Calls Tryz.prog 90 #[brV (.slice (some ⟨b, o, none⟩) vs.length c1) vc t xa xb, .int .i64 k] wr fun e w' => e = .returned (.bool (cs.getD k false)) ∧ Ext wr w') := HCO.out wr k HXR.out (by omega)
      have y0 := HXR.out.keep y0
      clear hz hle hlz hq1 hok
      generalize vs[k] = a at *
      generalize cs.getD k false = q at *
      have hk2 : (k : Int) < vs.length := by omega
      go_wp2_with (first
        | (go_at_call 90; (with_reducible refine (HCK.out).mono ?_); rintro e w3 ⟨rfl, hx3⟩)
        | (go_at_call 89; (with_reducible refine (HADD.out _ hx3).mono ?_); rintro e w4 ⟨rfl, hr4, ht4⟩)
        | fail "none")
      exact ⟨⟨k + 1, by omega, by go_num, hr4, HT.out.tr (TrC.tr (TrC.ext hx3) ht4)⟩, by simp [intOf]; omega⟩
    · have hk3 : k = vs.length := by omega
      subst hk3
      have hte : vs.take vs.length = vs := List.take_length
      rw [hte] at HR
      go_wp2
      refine bodyPost_end (v := .tuple #[]) (by simp [results, go_sem]) rfl ?_
      exact ⟨rfl, HR.out, TrC.tr (TrC.ext HE1.out) HT.out⟩
end Go.Proofs.YtkdhhcidpklgoaaGreatDoor

/- ref06: kinds, cos. -/
namespace Go.Proofs.YtkdhhcidpklgoaaGreatDoor
open Go.RowKit Go.Shelf
attribute [local go_sem] Oper.semAt_some

def kindA (a : Arg) : Int := coI a.co + 1
theorem ok_kindA (a : Arg) : ok64 (kindA a) := by
  unfold kindA
  cases a.co <;> rfl
set_option maxHeartbeats 4000000 in
set_option maxRecDepth 100000 in
theorem kinds6_any (v : Value) (l : List Arg) (w : World) (h : RArgs w v l) (hl : l.length ≤ 1048576) :
    Calls Tryz.prog 87 #[v] w fun e w' => (∃ u, e = .returned u ∧ RInts w' u (l.map kindA)) ∧ Ext w w' := by
  have HR := Lib.hid h
  obtain ⟨A, c, rfl, hc, hm⟩ := h.form
  clear h
  unfold maxLen at hm
  go_enter Tryz.func87, Tryz.ntmps87
  go_wp2
  go_loopw [3, 8] (fun s i wr => ∃ k : Nat, k ≤ l.length ∧ i = .int .i64 k ∧ wr.ownsRow w.heap.size 3 1 s k ((l.take k).map fun a => Value.int .i64 (kindA a)) ∧ Ext w wr) (fun _ i _ => l.length - (intOf i).toNat)
  case atStart => exact ⟨0, Nat.zero_le _, rfl, own_nil', Ext.rf _⟩
  case round =>
    obtain ⟨k, hk, rfl, hown, hb⟩ := hrel
    have HO := Lib.hid hown
    have HB := Lib.hid hb
    obtain ⟨As, cs, rfl⟩ := own_form hown
    clear hown hb
    by_cases hlt : k < l.length
    · obtain ⟨b, o, rfl, hbl, h0, h1⟩ := HR.out.at_ hlt
      have h0 := HB.out.keep h0
      have h1 := HB.out.keep h1
      have HS : Hid (l.take (k + 1) = l.take k ++ [l[k]]) := List.take_succ_eq_append_getElem hlt
      generalize l[k] = a at *
      have HE2 := Lib.hid (HB.out.tr (Ext.al wr (Obj.cells #[.int .i64 a.ty, .bool a.co] 114)))
      have HE1 := Lib.hid (Ext.al wr (Obj.cells #[.int .i64 a.ty, .bool a.co] 114))
      obtain ⟨q, hq⟩ : ∃ q, a.co = q := ⟨_, rfl⟩
      have HK : Hid (kindA a = coI q + 1) := by show _ = _; unfold kindA; rw [hq]
      rw [hq] at h1 HE1 HE2
      cases q
      · go_wp2_with (at_builtin; refine wpl_app (t := 31) (e := 3) (size := 1) (bytes := 8) Tryz.underlying31 Tryz.iInt rfl (by decide) (by decide) rfl (.tmp 17) (.tmp 18) rfl w.heap.size _ k _ rfl (own_below HO.out (Ext.al2 _ _ _)) _ 1 1 [.int .i64 1] rfl (src_one (heapNew2 _ _ _)) (one_mem rfl) (by omega) (Nat.le_trans HB.out.size (by simp; try omega)) ?_; rintro v' w' ho' hg' -)
        have HO2 := Lib.hid ho'
        have HG2 := Lib.hid (Below.trans (HB.out.tr (Ext.al2 _ _ _)) (grown_ext' (B := w.heap.size) hg' (own_below HO.out (Ext.al2 _ _ _)) (Nat.le_trans HB.out.size (by simp; try omega))))
        clear ho' hg'
        go_wp2
        go_roundw
        case rel => exact ⟨k + 1, by omega, by go_num, by rw [HS.out, List.map_append]; simp only [List.map_cons, List.map_nil]; rw [HK.out]; exact HO2.out, HG2.out⟩
        case measure => simp [intOf]; omega
      · go_wp2_with (at_builtin; refine wpl_app (t := 31) (e := 3) (size := 1) (bytes := 8) Tryz.underlying31 Tryz.iInt rfl (by decide) (by decide) rfl (.tmp 14) (.tmp 15) rfl w.heap.size _ k _ rfl (own_below HO.out (Ext.al2 _ _ _)) _ 1 1 [.int .i64 2] rfl (src_one (heapNew2 _ _ _)) (one_mem rfl) (by omega) (Nat.le_trans HB.out.size (by simp; try omega)) ?_; rintro v' w' ho' hg' -)
        have HO2 := Lib.hid ho'
        have HG2 := Lib.hid (Below.trans (HB.out.tr (Ext.al2 _ _ _)) (grown_ext' (B := w.heap.size) hg' (own_below HO.out (Ext.al2 _ _ _)) (Nat.le_trans HB.out.size (by simp; try omega))))
        clear ho' hg'
        go_wp2
        go_roundw
        case rel => exact ⟨k + 1, by omega, by go_num, by rw [HS.out, List.map_append]; simp only [List.map_cons, List.map_nil]; rw [HK.out]; exact HO2.out, HG2.out⟩
        case measure => simp [intOf]; omega
    · have hkl : k = l.length := by omega
      have HK : Hid (l.take k = l) := List.take_of_length_le (by omega)
      subst hkl
      go_wp2
      go_ret
      refine ⟨⟨.slice As l.length cs, rfl, own_ints (B := w.heap.size) (e := 3) (l := l.map kindA) (fun x hx => by obtain ⟨a, -, rfl⟩ := List.mem_map.1 hx; exact ok_kindA _) ?_⟩, HB.out⟩
      have := HO.out
      rw [HK.out] at this
      rw [List.length_map, List.map_map]; exact this
set_option maxHeartbeats 4000000 in
set_option maxRecDepth 100000 in
theorem cos6_any (v : Value) (l : List Arg) (w : World) (h : RArgs w v l) (hl : l.length ≤ 1048576) :
    Calls Tryz.prog 55 #[v] w fun e w' => (∃ u, e = .returned u ∧ RBools w' u (l.map Arg.co)) ∧ Ext w w' := by
  have HR := Lib.hid h
  obtain ⟨A, c, rfl, hc, hm⟩ := h.form
  clear h
  unfold maxLen at hm
  go_enter Tryz.func55, Tryz.ntmps55
  go_wp2
  go_loopw [3, 8] (fun s i wr => ∃ k : Nat, k ≤ l.length ∧ i = .int .i64 k ∧ wr.ownsRow w.heap.size 4 1 s k ((l.take k).map fun a => Value.bool a.co) ∧ Ext w wr) (fun _ i _ => l.length - (intOf i).toNat)
  case atStart => exact ⟨0, Nat.zero_le _, rfl, own_nil', Ext.rf _⟩
  case round =>
    obtain ⟨k, hk, rfl, hown, hb⟩ := hrel
    have HO := Lib.hid hown
    have HB := Lib.hid hb
    obtain ⟨As, cs, rfl⟩ := own_form hown
    clear hown hb
    by_cases hlt : k < l.length
    · obtain ⟨b, o, rfl, hbl, h0, h1⟩ := HR.out.at_ hlt
      have h0 := HB.out.keep h0
      have h1 := HB.out.keep h1
      have HS : Hid (l.take (k + 1) = l.take k ++ [l[k]]) := List.take_succ_eq_append_getElem hlt
      generalize l[k] = a at *
      go_wp2_with (at_builtin; refine wpl_app (t := 95) (e := 4) (size := 1) (bytes := 1) Tryz.underlying95 Tryz.iBl rfl (by decide) (by decide) rfl (.tmp 12) (.tmp 15) rfl w.heap.size _ k _ rfl (own_below HO.out (Ext.al2 _ _ _)) _ 1 1 [.bool a.co] rfl (src_one (heapNew2 _ _ _)) (one_mem rfl) (by omega) (Nat.le_trans HB.out.size (by simp; try omega)) ?_; rintro v' w' ho' hg' -)
      have HO2 := Lib.hid ho'
      have HG2 := Lib.hid (Below.trans (HB.out.tr (Ext.al2 _ _ _)) (grown_ext' (B := w.heap.size) hg' (own_below HO.out (Ext.al2 _ _ _)) (Nat.le_trans HB.out.size (by simp; try omega))))
      clear ho' hg'
      go_wp2
      go_roundw
      case rel => exact ⟨k + 1, by omega, by go_num, by rw [HS.out, List.map_append]; exact HO2.out, HG2.out⟩
      case measure => simp [intOf]; omega
    · have hkl : k = l.length := by omega
      have HK : Hid (l.take k = l) := List.take_of_length_le (by omega)
      subst hkl
      go_wp2
      go_ret
      refine ⟨⟨.slice As l.length cs, rfl, own_bools (B := w.heap.size) (e := 4) (l := l.map Arg.co) ?_⟩, HB.out⟩
      have := HO.out
      rw [HK.out] at this
      rw [List.length_map, List.map_map]; exact this
end Go.Proofs.YtkdhhcidpklgoaaGreatDoor
